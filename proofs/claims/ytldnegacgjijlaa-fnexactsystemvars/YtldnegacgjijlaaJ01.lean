/- Joined texts: Sys, OpenS. Nothing is assumed. -/
import Derived.Test.YtldnegacgjijlaaEd2Q
import Derived.Test.YtldnegacgjijlaaSi
import Derived.Test.YtldnegacgjijlaaOpenLQ
namespace Go.Proofs.Ytldnegacgjijlaa
open Go.RowKit

/-- A process as plain data. -/
structure Pr where
  loc : Int
  es : List Ed
/-- A system as plain data. -/
structure Sy where
  ini : List Int
  ps : List Pr
instance : Inhabited Pr := ⟨⟨0, []⟩⟩
instance : Inhabited Sy := ⟨⟨[], []⟩⟩

def Lay.pr : Lay Pr := (Lay.int.prod (Lay.ed.slice 101)).map fun p => (p.loc, p.es)
def Lay.sy : Lay Sy := ((Lay.int.slice 3).prod (Lay.pr.slice 97)).map fun s => (s.ini, s.ps)

theorem pr_lies {w : World} {B : Nat} {loc : Int} {es : List Ed} {C : Nat → Value} (h : Lay.pr.lies w B ⟨loc, es⟩ C) :
    C 0 = .int .i64 loc ∧ ∃ (A : Option Addr) (cap b off : Nat) (D : Nat → Nat → Value), C 1 = .slice A es.length cap ∧ es.length ≤ maxLen ∧ Lay.ed.Opn w B es A b off D := h
theorem sy_lies {w : World} {B : Nat} {ini : List Int} {ps : List Pr} {C : Nat → Value} (h : Lay.sy.lies w B ⟨ini, ps⟩ C) :
    (∃ (A : Option Addr) (cap b off : Nat) (D : Nat → Nat → Value), C 0 = .slice A ini.length cap ∧ ini.length ≤ maxLen ∧ Lay.int.Opn w B ini A b off D) ∧
    ∃ (A : Option Addr) (cap b off : Nat) (D : Nat → Nat → Value), C 1 = .slice A ps.length cap ∧ ps.length ≤ maxLen ∧ Lay.pr.Opn w B ps A b off D := h
theorem pr_sz (p : Pr) : Lay.pr.sz p = Lay.ed.szL p.es := Nat.zero_add _
theorem sy_sz (s : Sy) : Lay.sy.sz s = Lay.int.szL s.ini + Lay.pr.szL s.ps := rfl
end Go.Proofs.Ytldnegacgjijlaa
namespace Go.Proofs.Ytldnegacgjijlaa
open Go.ChangeShapes Go.WideShapes Go.ChangeAt Go.RowKit Go.Deep Go.Joins

section
variable {H : Type} {enc : TypeId × Value → H} {W : World} {sp : Nat → Bool}

theorem Try.cells151 : Try.prog.cellsOf 151 = 2 := by kernel_rfl
theorem Try.cells25 : Try.prog.cellsOf 25 = 2 := by kernel_rfl
theorem Try.cells149 : Try.prog.cellsOf 149 = 1 := by kernel_rfl
theorem Try.cells23 : Try.prog.cellsOf 23 = 1 := by kernel_rfl

set_option maxRecDepth 100000 in
theorem opens_pr (hsp : ∀ b, sp b = true) : Opens enc W sp Lay.pr 151 := fun n cs x h => by
  obtain ⟨xs, n, _, rfl, hl, hlen, hf⟩ := DataW.trod_struct Try.underlying151 h
  rw [Try.cells151] at hl
  match xs, hlen, cs, hl with
  | [y0, y1], _, [c0, c1], _ =>
    have u0 := hf 0 _ rfl
    have u1 := hf 1 _ rfl
    simp [Try.cells3] at u0
    simp [Try.cells149] at u1
    obtain ⟨z0, p0⟩ := opens_int _ _ _ u0
    obtain ⟨z1, p1⟩ := opens_slice (t' := 101) hsp Try.underlying149 Try.cells204 (by decide) (opens_ed hsp) _ _ _ u1
    exact ⟨⟨z0, z1⟩, p0, p1⟩

set_option maxRecDepth 100000 in
theorem opens_sy (hsp : ∀ b, sp b = true) : Opens enc W sp Lay.sy 25 := fun n cs x h => by
  obtain ⟨xs, n, _, rfl, hl, hlen, hf⟩ := DataW.trod_struct Try.underlying25 h
  rw [Try.cells25] at hl
  match xs, hlen, cs, hl with
  | [y0, y1], _, [c0, c1], _ =>
    have u0 := hf 0 _ rfl
    have u1 := hf 1 _ rfl
    simp [Try.cells22] at u0
    simp [Try.cells23] at u1
    obtain ⟨z0, p0⟩ := opens_slice (t' := 3) hsp Try.underlying22 Try.cells3 (by decide) opens_int _ _ _ u0
    obtain ⟨z1, p1⟩ := opens_slice (t' := 97) hsp Try.underlying23 Try.cells151 (by decide) (opens_pr hsp) _ _ _ u1
    exact ⟨⟨z0, z1⟩, p0, p1⟩

set_option maxRecDepth 100000 in
theorem open_system {base : Nat} {v : Value} {d : DataW H} {p : List MemPlace} (hval : Value.okWide Try.prog W .any base 25 v) (h : DataW.Trod enc Try.prog W 0 (fun _ => true) true 25 v d p) :
    ∃ (s : Sy) (C : Nat → Value), v = .agg #[C 0, C 1] ∧ Lay.sy.lies W W.heap.size s C := by
  obtain ⟨cs, rfl, hsz⟩ := okWide_struct Try.underlying25 hval
  obtain ⟨c0, c1, rfl⟩ := array2 (hsz.trans Try.cells25)
  obtain ⟨fuel, hf⟩ := h
  obtain ⟨s, hs⟩ := opens_sy (fun _ => rfl) _ _ _ hf
  exact ⟨s, fun j => [c0, c1].getD j undef, rfl, hs⟩

end
end Go.Proofs.Ytldnegacgjijlaa

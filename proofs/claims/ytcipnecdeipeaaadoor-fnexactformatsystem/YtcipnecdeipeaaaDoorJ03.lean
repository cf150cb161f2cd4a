/- Joined texts: Sys, OpenS. Nothing is assumed. -/
import Derived.Test.YtcipnecdeipeaaaDoorEd2Q
import Derived.Test.YtcipnecdeipeaaaDoorSiQ
import Derived.Test.YtcipnecdeipeaaaDoorOpenLQ
namespace Go.Proofs.YtcipnecdeipeaaaDoor
open Go.RowKit

/-- A process as plain data. -/
structure Pr where
  loc : Int
  es : List Ed
/-- A system as plain data. -/
structure Sy where
  ini : List Int
  ps : List Pr
instance : Inhabited Pr := ⟨⟨0, []⟩⟩
instance : Inhabited Sy := ⟨⟨[], []⟩⟩

def Lay.pr : Lay Pr := (Lay.int.prod (Lay.ed.slice 46)).map fun p => (p.loc, p.es)
def Lay.sy : Lay Sy := ((Lay.int.slice 3).prod (Lay.pr.slice 40)).map fun s => (s.ini, s.ps)

theorem pr_lies {w : World} {B : Nat} {loc : Int} {es : List Ed} {C : Nat → Value} (h : Lay.pr.lies w B ⟨loc, es⟩ C) :
    C 0 = .int .i64 loc ∧ ∃ (A : Option Addr) (cap b off : Nat) (D : Nat → Nat → Value), C 1 = .slice A es.length cap ∧ es.length ≤ maxLen ∧ Lay.ed.Opn w B es A b off D := h
theorem sy_lies {w : World} {B : Nat} {ini : List Int} {ps : List Pr} {C : Nat → Value} (h : Lay.sy.lies w B ⟨ini, ps⟩ C) :
    (∃ (A : Option Addr) (cap b off : Nat) (D : Nat → Nat → Value), C 0 = .slice A ini.length cap ∧ ini.length ≤ maxLen ∧ Lay.int.Opn w B ini A b off D) ∧
    ∃ (A : Option Addr) (cap b off : Nat) (D : Nat → Nat → Value), C 1 = .slice A ps.length cap ∧ ps.length ≤ maxLen ∧ Lay.pr.Opn w B ps A b off D := h
theorem pr_sz (p : Pr) : Lay.pr.sz p = Lay.ed.szL p.es := Nat.zero_add _
theorem sy_sz (s : Sy) : Lay.sy.sz s = Lay.int.szL s.ini + Lay.pr.szL s.ps := rfl
end Go.Proofs.YtcipnecdeipeaaaDoor
namespace Go.Proofs.YtcipnecdeipeaaaDoor
open Go.ChangeShapes Go.WideShapes Go.ChangeAt Go.RowKit Go.Deep Go.Joins

section
variable {H : Type} {enc : TypeId × Value → H} {W : World} {sp : Nat → Bool}

theorem Tryd.cells61 : Tryd.prog.cellsOf 61 = 2 := by kernel_rfl
theorem Tryd.cells25 : Tryd.prog.cellsOf 25 = 2 := by kernel_rfl
theorem Tryd.cells59 : Tryd.prog.cellsOf 59 = 1 := by kernel_rfl
theorem Tryd.cells23 : Tryd.prog.cellsOf 23 = 1 := by kernel_rfl

set_option maxRecDepth 100000 in
theorem opens_pr (hsp : ∀ b, sp b = true) : Opens enc W sp Lay.pr 61 := fun n cs x h => by
  obtain ⟨xs, n, _, rfl, hl, hlen, hf⟩ := DataW.trod_struct Tryd.underlying61 h
  rw [Tryd.cells61] at hl
  match xs, hlen, cs, hl with
  | [y0, y1], _, [c0, c1], _ =>
    have u0 := hf 0 _ rfl
    have u1 := hf 1 _ rfl
    simp [Tryd.cells3] at u0
    simp [Tryd.cells59] at u1
    obtain ⟨z0, p0⟩ := opens_int _ _ _ u0
    obtain ⟨z1, p1⟩ := opens_slice (t' := 46) hsp Tryd.underlying59 Tryd.cells77 (by decide) (opens_ed hsp) _ _ _ u1
    exact ⟨⟨z0, z1⟩, p0, p1⟩

set_option maxRecDepth 100000 in
theorem opens_sy (hsp : ∀ b, sp b = true) : Opens enc W sp Lay.sy 25 := fun n cs x h => by
  obtain ⟨xs, n, _, rfl, hl, hlen, hf⟩ := DataW.trod_struct Tryd.underlying25 h
  rw [Tryd.cells25] at hl
  match xs, hlen, cs, hl with
  | [y0, y1], _, [c0, c1], _ =>
    have u0 := hf 0 _ rfl
    have u1 := hf 1 _ rfl
    simp [Tryd.cells22] at u0
    simp [Tryd.cells23] at u1
    obtain ⟨z0, p0⟩ := opens_slice (t' := 3) hsp Tryd.underlying22 Tryd.cells3 (by decide) opens_int _ _ _ u0
    obtain ⟨z1, p1⟩ := opens_slice (t' := 40) hsp Tryd.underlying23 Tryd.cells61 (by decide) (opens_pr hsp) _ _ _ u1
    exact ⟨⟨z0, z1⟩, p0, p1⟩

set_option maxRecDepth 100000 in
theorem open_system {base : Nat} {v : Value} {d : DataW H} {p : List MemPlace} (hval : Value.okWide Tryd.prog W .any base 25 v) (h : DataW.Trod enc Tryd.prog W 0 (fun _ => true) true 25 v d p) :
    ∃ (s : Sy) (C : Nat → Value), v = .agg #[C 0, C 1] ∧ Lay.sy.lies W W.heap.size s C := by
  obtain ⟨cs, rfl, hsz⟩ := okWide_struct Tryd.underlying25 hval
  obtain ⟨c0, c1, rfl⟩ := array2 (hsz.trans Tryd.cells25)
  obtain ⟨fuel, hf⟩ := h
  obtain ⟨s, hs⟩ := opens_sy (fun _ => rfl) _ _ _ hf
  exact ⟨s, fun j => [c0, c1].getD j undef, rfl, hs⟩

end
end Go.Proofs.YtcipnecdeipeaaaDoor

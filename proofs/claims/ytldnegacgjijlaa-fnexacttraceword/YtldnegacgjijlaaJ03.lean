/- Joined texts: OpenA, Gra. Nothing is assumed. -/
import Derived.Test.YtldnegacgjijlaaJ01
import Derived.Test.YtldnegacgjijlaaStaQ
namespace Go.Proofs.Ytldnegacgjijlaa
open Go.ChangeShapes Go.WideShapes Go.ChangeAt Go.RowKit Go.Deep Go.Joins

section
variable {H : Type} {enc : TypeId × Value → H} {W : World} {sp : Nat → Bool}

theorem Try.cells172 : Try.prog.cellsOf 172 = 2 := by kernel_rfl

set_option maxRecDepth 100000 in
theorem opens_sta (hsp : ∀ b, sp b = true) : Opens enc W sp Lay.sta 172 := fun n cs x h => by
  obtain ⟨xs, n, _, rfl, hl, hlen, hf⟩ := DataW.trod_struct Try.underlying172 h
  rw [Try.cells172] at hl
  match xs, hlen, cs, hl with
  | [y0, y1], _, [c0, c1], _ =>
    have u0 := hf 0 _ rfl
    have u1 := hf 1 _ rfl
    simp [Try.cells22] at u0
    simp [Try.cells22] at u1
    obtain ⟨z0, p0⟩ := opens_slice (t' := 3) hsp Try.underlying22 Try.cells3 (by decide) opens_int _ _ _ u0
    obtain ⟨z1, p1⟩ := opens_slice (t' := 3) hsp Try.underlying22 Try.cells3 (by decide) opens_int _ _ _ u1
    exact ⟨⟨z0, z1⟩, p0, p1⟩

set_option maxRecDepth 100000 in
theorem open_state {base : Nat} {v : Value} {d : DataW H} {p : List MemPlace} (hval : Value.okWide Try.prog W .any base 172 v) (h : DataW.Trod enc Try.prog W 0 (fun _ => true) true 172 v d p) :
    ∃ (s : St) (C : Nat → Value), v = .agg #[C 0, C 1] ∧ Lay.sta.lies W W.heap.size s C := by
  obtain ⟨cs, rfl, hsz⟩ := okWide_struct Try.underlying172 hval
  obtain ⟨c0, c1, rfl⟩ := array2 (hsz.trans Try.cells172)
  obtain ⟨fuel, hf⟩ := h
  obtain ⟨s, hs⟩ := opens_sta (fun _ => rfl) _ _ _ hf
  exact ⟨s, fun j => [c0, c1].getD j undef, rfl, hs⟩

end
end Go.Proofs.Ytldnegacgjijlaa
namespace Go.Proofs.Ytldnegacgjijlaa
open Go.RowKit

/-- A slice is not longer than its room. -/
def Fits (v : Value) : Prop := ∀ (A : Option Addr) (l cap : Nat), v = .slice A l cap → l ≤ cap
/-- The layout with the word that the slice at its first cell is not longer than its room. -/
def Lay.fit {X : Type} (L : Lay X) (hp : 0 < L.st) : Lay X where
  st := L.st
  sz := L.sz
  lies w B x C := L.lies w B x C ∧ Fits (C 0)
  sep w lo hi x C := L.sep w lo hi x C ∧ Fits (C 0)
  lies_keep hB hk h := ⟨L.lies_keep hB hk h.1, h.2⟩
  lies_ext h k := ⟨L.lies_ext h k.1, by rw [h 0 hp]; exact k.2⟩
  sep_keep hk h := ⟨L.sep_keep hk h.1, h.2⟩
  sep_more a b h := ⟨L.sep_more a b h.1, h.2⟩
  sep_ext h k := ⟨L.sep_ext h k.1, by rw [h 0 hp]; exact k.2⟩
  sep_lies h := ⟨L.sep_lies h.1, h.2⟩

def Lay.ints : Lay (List Int) := (Lay.int.slice 3).fit Nat.one_pos
theorem ints_fit {w : World} {B : Nat} {x : List Int} {C : Nat → Value} (h : Lay.ints.lies w B x C) : Fits (C 0) := h.2
theorem ints_lies {w : World} {B : Nat} {x : List Int} {C : Nat → Value} (h : Lay.ints.lies w B x C) : ∃ (A : Option Addr) (cap b off : Nat), C 0 = .slice A x.length cap ∧ x.length ≤ maxLen ∧ Ints w B A b off x := by
  obtain ⟨⟨A, cap, b, off, D, h0, hl, hO⟩, _⟩ := h
  exact ⟨A, cap, b, off, h0, hl, ints_of hO⟩
theorem ints_sz (x : List Int) : Lay.ints.sz x = x.length := int_szL x

theorem szIs_any (x : List Int) (C : Nat → Value) (left : Int) (w : World) (hL : Lay.ints.lies w w.heap.size x C) (h0 : 0 ≤ left) (h1 : left ≤ 1048576) :
    Calls Try.prog 49 #[C 0, .int .i64 left] w fun e' w' => e' = .returned (.int .i64 (room left (Lay.ints.sz x))) ∧ Below w.heap.size w w' := by
  obtain ⟨A, cap, b, off, e0, hl, hO⟩ := ints_lies hL
  rw [e0, ints_sz]
  refine (szInts_any A x.length cap left w hl h0 h1).mono ?_
  rintro e' w1 ⟨rfl, rfl⟩
  exact ⟨rfl, Below.refl _ _⟩

theorem eqIs_any (x : List Int) (C D : Nat → Value) (w : World) (hL : Lay.ints.lies w w.heap.size x C) (hL' : Lay.ints.lies w w.heap.size x D) :
    Calls Try.prog 33 #[C 0, D 0] w fun e' w' => e' = .returned (.bool true) ∧ Below w.heap.size w w' := by
  obtain ⟨A, cap, b, off, e0, hl, hO⟩ := ints_lies hL
  obtain ⟨A', cap', b', off', d0, _, hO'⟩ := ints_lies hL'
  rw [e0, d0]
  exact eqInts_any x A A' cap b off cap' b' off' w hl hO hO'

def ToIsPost (x : List Int) (w : World) (e' : Ending) (w' : World) : Prop :=
  ∃ (xa : Option Addr) (xl xc : Nat), e' = .returned (.slice xa xl xc) ∧ Lay.ints.sep w' w.heap.size w'.heap.size x (fun j => (#[.slice xa xl xc] : Array Value).getD j undef) ∧ Below w.heap.size w w'

theorem toIs_any (x : List Int) (C : Nat → Value) (w : World) (hL : Lay.ints.lies w w.heap.size x C) (hd : Lay.ints.sz x ≤ 1048576) :
    Calls Try.prog 53 #[C 0] w (ToIsPost x w) := by
  obtain ⟨A, cap, b, off, e0, hl, hO⟩ := ints_lies hL
  rw [ints_sz] at hd
  rw [e0]
  refine (toInts_any x A cap b off w hd hO).mono ?_
  rintro e' w1 ⟨g, rfl, hg, hLd, hb1⟩
  exact ⟨_, _, _, rfl, ⟨hLd.sep hl hg rfl, fun _ _ _ h => by injection h with _ h1 h2; omega⟩, hb1⟩

/-- A graph as plain data. -/
structure Gp where
  sts : List St
  nxt : List (List Int)
def Lay.gra : Lay Gp := ((Lay.sta.slice 136).prod (Lay.ints.slice 22)).map fun s => (s.sts, s.nxt)
theorem gra_lies {w : World} {B : Nat} {sts : List St} {nxt : List (List Int)} {C : Nat → Value} (h : Lay.gra.lies w B ⟨sts, nxt⟩ C) :
    (∃ (A : Option Addr) (cap b off : Nat) (D : Nat → Nat → Value), C 0 = .slice A sts.length cap ∧ sts.length ≤ maxLen ∧ Lay.sta.Opn w B sts A b off D) ∧
    ∃ (A : Option Addr) (cap b off : Nat) (D : Nat → Nat → Value), C 1 = .slice A nxt.length cap ∧ nxt.length ≤ maxLen ∧ Lay.ints.Opn w B nxt A b off D := h
theorem gra_sz (s : Gp) : Lay.gra.sz s = Lay.sta.szL s.sts + Lay.ints.szL s.nxt := rfl

end Go.Proofs.Ytldnegacgjijlaa

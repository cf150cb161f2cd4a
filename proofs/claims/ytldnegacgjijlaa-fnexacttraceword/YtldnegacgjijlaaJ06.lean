/- Joined texts: ExS, OpenXs. Nothing is assumed. -/
import Derived.Test.YtldnegacgjijlaaJ05
import Derived.Test.YtldnegacgjijlaaTSQ
namespace Go.Proofs.Ytldnegacgjijlaa
open Go.RowKit

/-- Slices of expressions. -/
def Lay.exs : Lay (List Ex) := Lay.ex.slice 99
theorem exs_sz (xs : List Ex) : Lay.exs.sz xs = descL xs := by
  show (xs.map fun x => 1 + desc x).sum = descL xs
  induction xs with
  | nil => rfl
  | cons a r ih => simp only [List.map_cons, List.sum_cons, descL]; rw [ih]
theorem opened_of {w : World} {B : Nat} {xs : List Ex} {A : Option Addr} {b off : Nat} {D : Nat → Nat → Value} (h : Lay.ex.Opn w B xs A b off D) : Opened w B xs A b off (fun i => D i 0) (fun i => D i 1) (fun i => D i 2) := fun i x hx => by
  obtain ⟨h1, h2, h3, h4⟩ := h i x hx
  exact ⟨h1, h2, h3 0 (by decide), h3 1 (by decide), h3 2 (by decide), h4⟩
theorem exs_lies {w : World} {B : Nat} {xs : List Ex} {C : Nat → Value} (h : Lay.exs.lies w B xs C) : ∃ (A : Option Addr) (cap b off : Nat) (C0 C1 C2 : Nat → Value), C 0 = .slice A xs.length cap ∧ xs.length ≤ maxLen ∧ Opened w B xs A b off C0 C1 C2 := by
  obtain ⟨A, cap, b, off, D, h0, hl, hO⟩ := h
  exact ⟨A, cap, b, off, _, _, _, h0, hl, opened_of hO⟩
theorem szExs_any (xs : List Ex) (C : Nat → Value) (left : Int) (w : World) (hL : Lay.exs.lies w w.heap.size xs C) (h0 : 0 ≤ left) (h1 : left ≤ 1048576) :
    Calls Try.prog 28 #[C 0, .int .i64 left] w fun e' w' => e' = .returned (.int .i64 (room left (Lay.exs.sz xs))) ∧ Below w.heap.size w w' := by
  obtain ⟨A, cap, b, off, C0, C1, C2, e0, hl, hO⟩ := exs_lies hL
  rw [e0, exs_sz]
  exact szS_any xs (fun _ x _ => sz_any x) left A cap b off C0 C1 C2 w hl hO h0 h1
theorem eqExs_any (xs : List Ex) (C D : Nat → Value) (w : World) (hL : Lay.exs.lies w w.heap.size xs C) (hL' : Lay.exs.lies w w.heap.size xs D) :
    Calls Try.prog 35 #[C 0, D 0] w fun e' w' => e' = .returned (.bool true) ∧ Below w.heap.size w w' := by
  obtain ⟨A, cap, b, off, C0, C1, C2, e0, hl, hO⟩ := exs_lies hL
  obtain ⟨A', cap', b', off', D0, D1, D2, d0, _, hO'⟩ := exs_lies hL'
  rw [e0, d0]
  exact eqS_any xs (fun _ x _ => eq_any x) A cap b off C0 C1 C2 A' cap' b' off' D0 D1 D2 w hl hO hO'

def ToExsPost (xs : List Ex) (w : World) (e' : Ending) (w' : World) : Prop :=
  ∃ (xa : Option Addr) (xl xc : Nat), e' = .returned (.slice xa xl xc) ∧ Lay.exs.sep w' w.heap.size w'.heap.size xs (fun j => (#[.slice xa xl xc] : Array Value).getD j undef) ∧ Below w.heap.size w w'
theorem LaidS.seps {w : World} {g lo : Nat} {ks : List Ex} (h : LaidS w g ks ks.length) (hl : ks.length ≤ maxLen) (hlo : lo ≤ g) (cap : Nat) : Lay.exs.sep w lo w.heap.size ks (fun j => (#[.slice (some ⟨g, 0, none⟩) ks.length cap] : Array Value).getD j undef) := by
  obtain ⟨cs, C0, C1, C2, s, hr, hz, h0, hs, hj, hk⟩ := h
  refine ⟨_, cap, g, cs, fun i j => ((#[C0 i, C1 i, C2 i] : Array Value).getD j undef), s, rfl, hl, hs, by omega, hj, fun i x hx => ?_⟩
  have hi := (List.getElem?_eq_some_iff.1 hx).1
  obtain ⟨k0, k1, k2, k3⟩ := hk i x hx hi
  refine ⟨rfl, hlo, hr.lt, .inl h0, hr, fun j hj => ?_, k3⟩
  have hj3 : j < 3 := hj
  rcases (by omega : j = 0 ∨ j = 1 ∨ j = 2) with rfl | rfl | rfl
  · exact k0
  · exact k1
  · exact k2
theorem toExs_any (xs : List Ex) (C : Nat → Value) (w : World) (hL : Lay.exs.lies w w.heap.size xs C) (hd : Lay.exs.sz xs ≤ 1048576) :
    Calls Try.prog 31 #[C 0] w (ToExsPost xs w) := by
  obtain ⟨A, cap, b, off, C0, C1, C2, e0, hl, hO⟩ := exs_lies hL
  rw [exs_sz] at hd
  rw [e0]
  refine (tsS_any xs (fun _ x _ => ts_any x) A cap b off C0 C1 C2 w hd hO).mono ?_
  rintro e' w1 ⟨g, rfl, hg, hLd, hb1⟩
  exact ⟨_, _, _, rfl, hLd.seps hl hg _, hb1⟩

end Go.Proofs.Ytldnegacgjijlaa
namespace Go.Proofs.Ytldnegacgjijlaa
open Go.ChangeShapes Go.WideShapes Go.ChangeAt Go.RowKit Go.Deep Go.Joins

section
variable {H : Type} {enc : TypeId × Value → H} {W : World} {sp : Nat → Bool}

theorem opens_exs (hsp : ∀ b, sp b = true) : Opens enc W sp Lay.exs 62 := opens_slice (t' := 99) hsp Try.underlying62 Try.cells127 (by decide) (opens_ex hsp)

set_option maxRecDepth 100000 in
theorem open_exs {base : Nat} {v : Value} {d : DataW H} {p : List MemPlace} (hval : Value.okWide Try.prog W .any base 62 v) (h : DataW.Trod enc Try.prog W 0 (fun _ => true) true 62 v d p) :
    ∃ (s : List Ex) (C : Nat → Value), v = C 0 ∧ Lay.exs.lies W W.heap.size s C := by
  obtain ⟨a, l, c, rfl⟩ := okWide_slice Try.underlying62 hval
  obtain ⟨fuel, hf⟩ := h
  obtain ⟨s, hs⟩ := opens_exs (fun _ => rfl) _ _ _ hf
  exact ⟨s, _, rfl, hs⟩

end
end Go.Proofs.Ytldnegacgjijlaa

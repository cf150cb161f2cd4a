/- Slices of numbers by their layout. Nothing is assumed. -/
import Derived.Test.YtldnegacgjijlaaLayB
import Derived.Test.YtldnegacgjijlaaV1i
namespace Go.Proofs.Ytldnegacgjijlaa
open Go.RowKit

theorem int_szL (zs : List Int) : Lay.int.szL zs = zs.length := by
  induction zs with
  | nil => rfl
  | cons a r ih =>
    have : Lay.int.szL (a :: r) = 1 + 0 + Lay.int.szL r := rfl
    rw [this, ih, List.length_cons]
    omega

theorem Row.two {w : World} {g : Nat} {t : TypeId} {a0 a1 : Value} (h : Row w g t #[a0, a1]) : w.cell? ⟨g, 0, none⟩ = some a0 ∧ w.cell? ⟨g, 1, none⟩ = some a1 := ⟨h.cell 0, h.cell 1⟩

theorem ints_of {w : World} {B : Nat} {zs : List Int} {A : Option Addr} {b off : Nat} {D : Nat → Nat → Value} (h : Lay.int.Opn w B zs A b off D) : Ints w B A b off zs := fun i z hz => by
  obtain ⟨h1, h2, h3, h4⟩ := h i z hz
  have h5 : w.cell? ⟨b, off + i * 1 + 0, none⟩ = some (D i 0) := h3 0 (by decide)
  have h6 : D i 0 = .int .i64 z := h4
  rw [Nat.mul_one, Nat.add_zero, h6] at h5
  exact ⟨h1, h2, h5⟩

theorem LaidI.sep {w : World} {g lo cap : Nat} {zs : List Int} {C : Nat → Value} (h : LaidI w g zs zs.length) (hl : zs.length ≤ maxLen) (hlo : lo ≤ g) (hC : C 0 = .slice (some ⟨g, 0, none⟩) zs.length cap) : (Lay.int.slice 3).sep w lo w.heap.size zs C := by
  obtain ⟨cs, hr, hs, hk⟩ := h
  refine ⟨_, cap, g, cs, fun i _ => .int .i64 (zs.getD i 0), fun _ => w.heap.size, hC, hl, fun _ _ => Nat.le_refl _, by have := hr.lt; dsimp only; omega, Nat.le_refl _, fun i x hx => ?_⟩
  have hi := (List.getElem?_eq_some_iff.1 hx).1
  refine ⟨rfl, hlo, hr.lt, .inl hr.lt, hr, fun j hj => ?_, ?_⟩
  · have hj0 : j = 0 := by have : j < 1 := hj; omega
    subst hj0
    show cs[i * 1 + 0]? = some (.int .i64 (zs.getD i 0))
    rw [Nat.mul_one, Nat.add_zero, hk i x hx hi]
    simp [List.getD, hx]
  · show Value.int .i64 (zs.getD i 0) = .int .i64 x
    simp [List.getD, hx]

set_option maxHeartbeats 400000 in
theorem szInts_any (A : Option Addr) (n cap : Nat) (left : Int) (w : World) (hl : n ≤ maxLen) (h0 : 0 ≤ left) (h1 : left ≤ 1048576) :
    Calls Try.prog 49 #[.slice A n cap, .int .i64 left] w fun e' w' => e' = .returned (.int .i64 (room left n)) ∧ w = w' := by
  unfold maxLen at hl
  by_cases h : left < n
  · have HR : Hid (room left n = -1) := by show _ = _; unfold room; rw [if_pos h]
    go_enter Try.func49, Try.ntmps49
    go_wp2_with fail
    go_ret
    exact ⟨ret_int HR.out.symm, rfl⟩
  · have HR : Hid (room left n = left - n) := by show _ = _; unfold room; rw [if_neg h]
    go_enter Try.func49, Try.ntmps49
    go_wp2_with fail
    go_ret
    exact ⟨ret_int (by rw [HR.out]), rfl⟩

end Go.Proofs.Ytldnegacgjijlaa

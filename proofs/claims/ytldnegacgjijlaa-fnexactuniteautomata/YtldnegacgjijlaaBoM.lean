/- Marks of truth values: the walks of laws.markBoolS and laws.heldBoolS. -/
import Derived.Test.YtldnegacgjijlaaBoS
import Derived.Test.YtldnegacgjijlaaMkI
namespace Go.Proofs.Ytldnegacgjijlaa
open Go.RowKit

/-- What a mark k leaves in a truth value. -/
def bk (k : Int) : Bool := k % 3 == 0
/-- The n marks from m on. -/
def bfrom (m : Int) (n : Nat) : List Bool := (List.range n).map fun i : Nat => bk (m + (i : Int))
theorem bfrom_length (m : Int) (n : Nat) : (bfrom m n).length = n := by simp [bfrom]
theorem bfrom_get {m : Int} {n i : Nat} {z : Bool} (h : (bfrom m n)[i]? = some z) : i < n ∧ z = bk (m + i) := by
  have hi := (List.getElem?_eq_some_iff.1 h).1
  rw [bfrom_length] at hi
  refine ⟨hi, ?_⟩
  simp [bfrom, hi] at h
  exact h.symm
theorem bfrom_at {m : Int} {n i : Nat} (h : i < n) : (bfrom m n)[i]? = some (bk (m + i)) := by simp [bfrom, h]

/-- The first n cells of the row hold the numbers from m on, the others what they held. -/
def HalfB (g : Nat) (t : TypeId) (m : Int) (n : Nat) (w w' : World) : Prop := ∀ cs, Row w g t cs → ∃ cs', Row w' g t cs' ∧ cs'.size = cs.size ∧ (∀ i, n ≤ i → cs'[i]? = cs[i]?) ∧ ∀ i, i < n → i < cs.size → cs'[i]? = some (.bool (bk (m + i)))
theorem HalfB.refl (g : Nat) (t : TypeId) (m : Int) (w : World) : HalfB g t m 0 w w := fun cs h => ⟨cs, h, rfl, fun _ _ => rfl, fun _ h => absurd h (Nat.not_lt_zero _)⟩
theorem HalfB.step {g : Nat} {t : TypeId} {m : Int} {n : Nat} {w w' : World} (h : HalfB g t m n w w') : HalfB g t m (n + 1) w (w'.setCell ⟨g, n, none⟩ (.bool (bk (m + n)))) := fun cs hr => by
  obtain ⟨cs', h1, h2, h3, h4⟩ := h cs hr
  refine ⟨_, h1.set_ n _, by simp [h2], fun i hi => ?_, fun i hi hs => ?_⟩
  · rw [Array.getElem?_setIfInBounds, if_neg (by omega)]
    exact h3 i (by omega)
  · rw [Array.getElem?_setIfInBounds]
    by_cases e : n = i
    · subst e
      rw [if_pos rfl, if_pos (by omega)]
    · rw [if_neg e]
      exact h4 i (by omega) hs

set_option maxHeartbeats 400000 in
theorem mkBoX_any (zs : List Bool) (C : Nat → Value) (m : Int) (lo hi : Nat) (w : World) (h : (Lay.bo.slice 4).sep w lo hi zs C) (hz : zs.length ≤ 1048576) (hm0 : 0 ≤ m) (hm1 : m ≤ 549755813888) :
    Calls Try.prog 15 #[C 0, .int .i64 m] w fun e' w' => e' = .returned (.int .i64 (m + zs.length)) ∧ (Lay.bo.slice 4).sep w' lo hi (bfrom m zs.length) C ∧ Kept lo hi w w' := by
  obtain ⟨A, cap, g, cs, D, s, hC, hl, h3, h4, h5, h6⟩ := h
  have KEY : Hid (∀ w', HalfB g 4 m zs.length w w' → (Lay.bo.slice 4).sep w' lo hi (bfrom m zs.length) C) := fun w' hH => by
    by_cases h0 : zs.length = 0
    · rw [h0] at hC ⊢
      exact ⟨A, cap, g, #[], fun _ _ => undef, fun _ => lo, by rw [bfrom_length]; exact hC, by rw [bfrom_length]; exact Nat.zero_le _, fun _ _ => Nat.le_refl _, Nat.le_refl _, by
        rw [h0] at h5
        dsimp only
        omega, fun i x hx => by have := (bfrom_get hx).1; omega⟩
    · obtain ⟨x0, hx0⟩ : ∃ x, zs[0]? = some x := ⟨_, List.getElem?_eq_getElem (by omega)⟩
      obtain ⟨a1, a2, a3, a4, a5, a6, a7⟩ := h6 0 x0 hx0
      obtain ⟨cs', r1, r2, r3, r4⟩ := hH cs a5
      refine ⟨A, cap, g, cs', fun i _ => .bool (bk (m + i)), s, by rw [bfrom_length]; exact hC, by rw [bfrom_length]; exact hl, by rw [bfrom_length]; exact h3, h4, by rw [bfrom_length]; exact h5, fun i x hx => ?_⟩
      rw [bfrom_length]
      obtain ⟨hi, hxe⟩ := bfrom_get hx
      refine ⟨a1, a2, a3, a4, r1, fun j hj => ?_, by rw [hxe]; rfl⟩
      have hj0 : j = 0 := by have : j < 1 := hj; omega
      subst hj0
      obtain ⟨y, hy⟩ : ∃ y, zs[i]? = some y := ⟨_, List.getElem?_eq_getElem hi⟩
      obtain ⟨_, _, _, _, _, b6, _⟩ := h6 i y hy
      have hb := b6 0 (by decide)
      show cs'[i * 1 + 0]? = some (.bool (bk (m + i)))
      rw [show Lay.bo.st = 1 from rfl, Nat.mul_one, Nat.add_zero] at hb
      rw [Nat.mul_one, Nat.add_zero]
      exact r4 i hi (by
        rcases Nat.lt_or_ge i cs.size with hlt | hge
        · exact hlt
        · rw [Array.getElem?_eq_none hge] at hb; cases hb)
  rw [hC]
  have H6 := Lib.hid h6
  clear hC hl h3 h4 h5 h6
  go_enter Try.func15, Try.ntmps15
  go_wp2_with fail
  go_loopw [1, 5] (fun mm i wl => ∃ j : Nat, j ≤ zs.length ∧ i = .int .i64 j ∧ mm = .int .i64 (m + j) ∧ Hid (HalfB g 4 m j w wl) ∧ Hid (Kept lo hi w wl)) (fun _ i _ => zs.length - (intOf i).toNat)
  case atStart => exact ⟨0, Nat.zero_le _, rfl, by simp, HalfB.refl _ _ _ _, Kept.refl _ _ _⟩
  case round =>
    obtain ⟨j, hj, rfl, rfl, HT, HK⟩ := hrel
    by_cases hlt : j < zs.length
    · obtain ⟨x, hx⟩ : ∃ x, zs[j]? = some x := ⟨_, List.getElem?_eq_getElem hlt⟩
      obtain ⟨rfl, a2, a3, a4, a5, a6, a7⟩ := H6.out j x hx
      obtain ⟨cs', r1, e1, e2, _⟩ := HT.out cs a5
      have c0 : wr.cell? ⟨g, j, none⟩ = some (D j 0) := by
        rw [r1.cell, e2 j (Nat.le_refl _)]
        have := a6 0 (by decide)
        rw [show Lay.bo.st = 1 from rfl, Nat.mul_one, Nat.add_zero] at this
        exact this
      have z0 := r1.frozen j
      have l0 := r1.lt
      have HT2 : Hid (HalfB g 4 m (j + 1) w (wr.setCell ⟨g, j, none⟩ (.bool ((m + (j : Int)) % 3 == 0)))) := HT.out.step
      have HK2 := Lib.hid (HK.out.trans (Kept.set_ lo hi wr a2 a3 j (.bool ((m + (j : Int)) % 3 == 0))))
      clear hx a5 a6 a7 r1 e1 e2
      go_wp2_with fail
      go_roundw
      case rel => exact ⟨j + 1, by omega, by go_num, by go_num, HT2, HK2⟩
      case measure => simp [intOf]; omega
    · have hjj : j = zs.length := by omega
      subst hjj
      go_wp2_with fail
      go_ret
      exact ⟨rfl, KEY.out _ HT.out, HK.out⟩

set_option maxHeartbeats 400000 in
theorem heldBo_any (n : Nat) (C : Nat → Value) (m : Int) (w : World) (h : (Lay.bo.slice 4).lies w w.heap.size (bfrom m n) C) (hn : n ≤ 1048576) (hm0 : 0 ≤ m) (hm1 : m ≤ 549755813888) :
    Calls Try.prog 16 #[C 0, .int .i64 m] w fun e' w' => e' = .returned (.int .i64 (m + n)) ∧ w = w' := by
  obtain ⟨A, cap, b, off, D, hC, hl, hO⟩ := h
  rw [hC, bfrom_length]
  have HI := Lib.hid (bools_of hO)
  clear hC hl hO
  go_enter Try.func16, Try.ntmps16
  go_wp2_with fail
  go_loopw [1, 5] (fun mm i wl => ∃ q : Nat, q ≤ n ∧ i = .int .i64 q ∧ mm = .int .i64 (m + q) ∧ wl = w) (fun _ i _ => n - (intOf i).toNat)
  case atStart => exact ⟨0, Nat.zero_le _, rfl, by simp, rfl⟩
  case round =>
    obtain ⟨q, hq, rfl, rfl, rfl⟩ := hrel
    by_cases hq3 : q < n
    · obtain ⟨rfl, hb, g0⟩ := HI.out q ((m + (q : Int)) % 3 == 0) (bfrom_at hq3)
      go_wp2_with fail
      go_roundw
      case rel => exact ⟨q + 1, by omega, by go_num, by go_num, (by first | rfl | trivial)⟩
      case measure => simp [intOf]; omega
    · have hqq : q = n := by omega
      subst hqq
      go_wp2_with fail
      go_ret
      exact ⟨rfl, (by first | rfl | trivial)⟩

end Go.Proofs.Ytldnegacgjijlaa

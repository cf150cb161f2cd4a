/- The positions of a lasso; the walks of spec.l6Index, (impl.Lasso).positionAt, (impl.Lasso).letter, spec.LetterAt and impl.LetterAt. -/
import Derived.Test.YtiaejomdkkhimaaLvW
import Derived.IntWalk
import Derived.BigQuiet
import Derived.Deep.RegionWith
namespace Go.Proofs.Ytiaejomdkkhimaa
namespace La
open Go.RowKit

theorem ret_two {k : IntKind} {a b : Int} {c d : Bool} (h : a = b) (h2 : c = d) : Ending.returned (.tuple #[.int k a, .bool c]) = .returned (.tuple #[.int k b, .bool d]) := by rw [h, h2]
def In63 (i : Int) : Prop := 0 ≤ i ∧ i ≤ 9223372036854775807
/-- The place of a position: in the stem, or counted on into the loop. -/
def laIx (n m i : Nat) : Nat := if i < n then i else n + (i - n) % m
theorem laIx_in {n m i : Nat} (h : i < n) : laIx n m i = i := if_pos h
theorem laIx_out {n m i : Nat} (h : ¬ i < n) : laIx n m i = n + (i - n) % m := if_neg h
theorem laIx_lt {n m i : Nat} (hm : 1 ≤ m) : laIx n m i < n + m := by
  unfold laIx
  split
  · omega
  · have := Nat.mod_lt (i - n) (show m > 0 by omega)
    omega

set_option maxHeartbeats 400000 in
set_option maxRecDepth 100000 in
theorem specIx_any (e : St) (C : Nat → Value) (i : Nat) (w : World) (hL : Lay.sta.lies w w.heap.size e C) (HI : Hid (In63 (i : Int))) (h1 : e.locs.length ≤ 80) (h2 : 1 ≤ e.vals.length) (h3 : e.vals.length ≤ 80) :
    Calls Try.prog 33 #[.agg #[C 0, C 1], .int .i64 (i : Int)] w fun e' w' => e' = .returned (.int .i64 (laIx e.locs.length e.vals.length i : Nat)) ∧ Below w.heap.size w w' := by
  obtain ⟨W1, hW1⟩ : ∃ W1, W1 = w.alloc (.cells #[C 0, C 1] 27) := ⟨_, rfl⟩
  have hb0 : Below w.heap.size w W1 := by rw [hW1]; exact (Below.refl _ _).alloc (Nat.le_refl _) _
  have hra : Row W1 w.heap.size 27 #[C 0, C 1] := by rw [hW1]; exact Row.new _ _ _
  obtain ⟨locs, vals⟩ := e
  obtain ⟨⟨A2, cap2, b2, off2, E2, q2, hl2, hO2⟩, A3, cap3, b3, off3, E3, q3, hl3, hO3⟩ := sta_lies (Lay.sta.later hL hb0 hb0.size)
  rw [q2, q3] at hra hW1 ⊢
  have HW1 := Lib.hid hW1
  have HB0 := Lib.hid hb0
  have HRa := Lib.hid hra
  have H2 := Lib.hid (ints_of hO2)
  have H3 := Lib.hid (ints_of hO3)
  obtain ⟨g0, g1⟩ := hra.two
  dsimp only at h1 h2 h3
  clear hL hW1 hb0 hra q2 q3 hO2 hO3 hl2 hl3
  have e1 : IntKind.i64.wrap ((i : Int) - (locs.length : Int)) = (i : Int) - (locs.length : Int) := IntWalk.i64_in _ (by have := HI.out.2; omega)
  by_cases h : i < locs.length
  · have HX := Lib.hid (laIx_in (m := vals.length) h)
    have t1 : ((i : Int) - (locs.length : Int) < 0) := by omega
    go_enter Try.func33, Try.ntmps33
    go_wp2_with fail
    rw [← HW1.out]
    go_ret
    exact ⟨ret_int (by rw [HX.out]), HB0.out⟩
  · have HX := Lib.hid (laIx_out (m := vals.length) h)
    have t1 : ¬ ((i : Int) - (locs.length : Int) < 0) := by omega
    obtain ⟨q, hq⟩ : ∃ q, q = (i - locs.length) % vals.length := ⟨_, rfl⟩
    have hqm : q < vals.length := by rw [hq]; exact Nat.mod_lt _ (by omega)
    have e2 : ((i : Int) - (locs.length : Int)).tmod (vals.length : Int) = (q : Int) := by
      rw [hq, Int.tmod_eq_emod_of_nonneg (by omega), show ((i : Int) - (locs.length : Int)) = ((i - locs.length : Nat) : Int) by omega]
      omega
    rw [← hq] at HX
    have e3 : IntKind.i64.wrap ((locs.length : Int) + (q : Int)) = (locs.length : Int) + (q : Int) := IntWalk.i64_in _ (by omega)
    have z1 : ¬ ((vals.length : Int) = 0) := by omega
    have z2 : ((vals.length : Int) == 0) = false := by rw [beq_eq_false_iff_ne]; omega
    clear hq
    go_enter Try.func33, Try.ntmps33
    go_wp2_with fail
    rw [← HW1.out]
    go_quiet (fail)
    go_wp2_with fail
    go_ret
    exact ⟨ret_int (by rw [HX.out]; omega), below_drewN HB0.out _⟩

set_option maxHeartbeats 400000 in
set_option maxRecDepth 100000 in
theorem implIx_any (e : St) (C : Nat → Value) (i : Nat) (w : World) (hL : Lay.sta.lies w w.heap.size e C) (HI : Hid (In63 (i : Int))) (h1 : e.locs.length ≤ 80) (h2 : 1 ≤ e.vals.length) (h3 : e.vals.length ≤ 80) :
    Calls Try.prog 35 #[.agg #[C 0, C 1], .int .i64 (i : Int)] w fun e' w' => e' = .returned (.int .i64 (laIx e.locs.length e.vals.length i : Nat)) ∧ Below w.heap.size w w' := by
  obtain ⟨W1, hW1⟩ : ∃ W1, W1 = w.alloc (.cells #[C 0, C 1] 27) := ⟨_, rfl⟩
  have hb0 : Below w.heap.size w W1 := by rw [hW1]; exact (Below.refl _ _).alloc (Nat.le_refl _) _
  have hra : Row W1 w.heap.size 27 #[C 0, C 1] := by rw [hW1]; exact Row.new _ _ _
  obtain ⟨locs, vals⟩ := e
  obtain ⟨⟨A2, cap2, b2, off2, E2, q2, hl2, hO2⟩, A3, cap3, b3, off3, E3, q3, hl3, hO3⟩ := sta_lies (Lay.sta.later hL hb0 hb0.size)
  rw [q2, q3] at hra hW1 ⊢
  have HW1 := Lib.hid hW1
  have HB0 := Lib.hid hb0
  have HRa := Lib.hid hra
  have H2 := Lib.hid (ints_of hO2)
  have H3 := Lib.hid (ints_of hO3)
  obtain ⟨g0, g1⟩ := hra.two
  dsimp only at h1 h2 h3
  clear hL hW1 hb0 hra q2 q3 hO2 hO3 hl2 hl3
  have e1 : IntKind.i64.wrap ((i : Int) - (locs.length : Int)) = (i : Int) - (locs.length : Int) := IntWalk.i64_in _ (by have := HI.out.2; omega)
  by_cases h : i < locs.length
  · have HX := Lib.hid (laIx_in (m := vals.length) h)
    have t1 : ((i : Int) - (locs.length : Int) < 0) := by omega
    go_enter Try.func35, Try.ntmps35
    go_wp2_with fail
    rw [← HW1.out]
    go_ret
    exact ⟨ret_int (by rw [HX.out]), HB0.out⟩
  · have HX := Lib.hid (laIx_out (m := vals.length) h)
    have t1 : ¬ ((i : Int) - (locs.length : Int) < 0) := by omega
    obtain ⟨q, hq⟩ : ∃ q, q = (i - locs.length) % vals.length := ⟨_, rfl⟩
    have hqm : q < vals.length := by rw [hq]; exact Nat.mod_lt _ (by omega)
    have e2 : ((i : Int) - (locs.length : Int)).tmod (vals.length : Int) = (q : Int) := by
      rw [hq, Int.tmod_eq_emod_of_nonneg (by omega), show ((i : Int) - (locs.length : Int)) = ((i - locs.length : Nat) : Int) by omega]
      omega
    rw [← hq] at HX
    have e3 : IntKind.i64.wrap ((locs.length : Int) + (q : Int)) = (locs.length : Int) + (q : Int) := IntWalk.i64_in _ (by omega)
    have z1 : ¬ ((vals.length : Int) = 0) := by omega
    have z2 : ((vals.length : Int) == 0) = false := by rw [beq_eq_false_iff_ne]; omega
    clear hq
    go_enter Try.func35, Try.ntmps35
    go_wp2_with fail
    rw [← HW1.out]
    go_quiet (fail)
    go_wp2_with fail
    go_ret
    exact ⟨ret_int (by rw [HX.out]; omega), below_drewN HB0.out _⟩

set_option maxHeartbeats 400000 in
set_option maxRecDepth 100000 in
theorem letter_any (e : St) (C : Nat → Value) (i : Nat) (w : World) (hL : Lay.sta.lies w w.heap.size e C) (hi : i < e.locs.length + e.vals.length) (h1 : e.locs.length ≤ 80) (h2 : 1 ≤ e.vals.length) (h3 : e.vals.length ≤ 80) :
    Calls Try.prog 34 #[.agg #[C 0, C 1], .int .i64 (i : Int)] w fun e' w' => e' = .returned (.int .i64 ((e.locs ++ e.vals).getD i 0)) ∧ Below w.heap.size w w' := by
  obtain ⟨W1, hW1⟩ : ∃ W1, W1 = w.alloc (.cells #[C 0, C 1] 27) := ⟨_, rfl⟩
  have hb0 : Below w.heap.size w W1 := by rw [hW1]; exact (Below.refl _ _).alloc (Nat.le_refl _) _
  have hra : Row W1 w.heap.size 27 #[C 0, C 1] := by rw [hW1]; exact Row.new _ _ _
  obtain ⟨locs, vals⟩ := e
  obtain ⟨⟨A2, cap2, b2, off2, E2, q2, hl2, hO2⟩, A3, cap3, b3, off3, E3, q3, hl3, hO3⟩ := sta_lies (Lay.sta.later hL hb0 hb0.size)
  rw [q2, q3] at hra hW1 ⊢
  have HW1 := Lib.hid hW1
  have HB0 := Lib.hid hb0
  have HRa := Lib.hid hra
  have H2 := Lib.hid (ints_of hO2)
  have H3 := Lib.hid (ints_of hO3)
  obtain ⟨g0, g1⟩ := hra.two
  dsimp only at h1 h2 h3
  clear hL hW1 hb0 hra q2 q3 hO2 hO3 hl2 hl3
  dsimp only at hi
  have e1 : IntKind.i64.wrap ((i : Int) - (locs.length : Int)) = (i : Int) - (locs.length : Int) := IntWalk.i64_in _ (by omega)
  by_cases h : i < locs.length
  · obtain ⟨z, hz⟩ : ∃ z, locs[i]? = some z := ⟨_, List.getElem?_eq_getElem h⟩
    obtain ⟨rfl, hb, c0⟩ := H2.out i z hz
    have HX : Hid ((locs ++ vals).getD i 0 = z) := by
      show _ = _
      rw [List.getD_eq_getElem?_getD, List.getElem?_append_left h, hz]
      rfl
    obtain ⟨r, hr⟩ : ∃ r, r = (locs ++ vals).getD i 0 := ⟨_, rfl⟩
    dsimp only
    rw [← hr] at HX ⊢
    clear hr
    have t1 : ((i : Int) - (locs.length : Int) < 0) := by omega
    clear hz
    go_enter Try.func34, Try.ntmps34
    rw [HW1.out] at c0
    go_wp2_with fail
    rw [← HW1.out]
    go_ret
    exact ⟨ret_int HX.out.symm, HB0.out⟩
  · obtain ⟨j, rfl⟩ : ∃ j, i = locs.length + j := ⟨i - locs.length, by omega⟩
    have hj : j < vals.length := by omega
    obtain ⟨z, hz⟩ : ∃ z, vals[j]? = some z := ⟨_, List.getElem?_eq_getElem hj⟩
    obtain ⟨rfl, hb, c0⟩ := H3.out j z hz
    have HX : Hid ((locs ++ vals).getD (locs.length + j) 0 = z) := by
      show _ = _
      rw [List.getD_eq_getElem?_getD, List.getElem?_append_right (by omega), show locs.length + j - locs.length = j by omega, hz]
      rfl
    obtain ⟨r, hr⟩ : ∃ r, r = (locs ++ vals).getD (locs.length + j) 0 := ⟨_, rfl⟩
    dsimp only
    rw [← hr] at HX ⊢
    clear hr
    have e4 : (((locs.length + j : Nat) : Int) - (locs.length : Int)) = (j : Int) := by omega
    have t1 : ¬ ((j : Int) < 0) := by omega
    clear hz h e1
    go_enter Try.func34, Try.ntmps34
    rw [HW1.out] at c0
    go_wp2_with fail
    rw [← HW1.out]
    go_ret
    exact ⟨ret_int HX.out.symm, HB0.out⟩

end La
end Go.Proofs.Ytiaejomdkkhimaa

/- Lassos: their validity; the walks of spec.l6Letters, impl.lettersValid, spec.LassoValid and impl.LassoValid. -/
import Derived.Test.YtldnegacgjijlaaJ02
namespace Go.Proofs.Ytldnegacgjijlaa
namespace La
open Go.RowKit

def letOk (z : Int) : Bool := decide (0 ≤ z) && decide (z ≤ 7)
def letsOk (zs : List Int) : Bool := zs.all letOk
/-- The lasso is valid. -/
def laOk (s : St) : Bool := letsOk s.locs && (letsOk s.vals && (decide (s.locs.length ≤ 80) && (decide (1 ≤ s.vals.length) && decide (s.vals.length ≤ 80))))
theorem laOk_parts {s : St} (h : laOk s = true) : letsOk s.locs = true ∧ letsOk s.vals = true ∧ s.locs.length ≤ 80 ∧ 1 ≤ s.vals.length ∧ s.vals.length ≤ 80 := by
  unfold laOk at h
  simp only [Bool.and_eq_true, decide_eq_true_eq] at h
  exact h

set_option maxHeartbeats 400000 in
theorem specLets_any (zs : List Int) (A : Option Addr) (cap b off : Nat) (w : World) (hl : zs.length ≤ maxLen) (hI : Ints w w.heap.size A b off zs) :
    Calls Try.prog 127 #[.slice A zs.length cap] w fun e' w' => e' = .returned (.bool (letsOk zs)) ∧ w = w' := by
  unfold maxLen at hl
  have HI := Lib.hid hI
  clear hI
  go_enter Try.func127, Try.ntmps127
  go_wp2_with fail
  go_loop [3] (fun i => ∃ j : Nat, j ≤ zs.length ∧ i = .int .i64 j ∧ Hid ((zs.take j).all letOk = true)) (fun i => zs.length - (intOf i).toNat)
  case atStart => exact ⟨0, Nat.zero_le _, rfl, rfl⟩
  case round =>
    obtain ⟨j, hj, rfl, HT⟩ := hrel
    by_cases hlt : j < zs.length
    · obtain ⟨z, hz⟩ : ∃ z, zs[j]? = some z := ⟨_, List.getElem?_eq_getElem hlt⟩
      obtain ⟨rfl, hb, g0⟩ := HI.out j z hz
      have HZ := Lib.hid hz
      clear hz
      by_cases h0 : z < 0
      · have HF := Lib.hid (alls_false HZ.out (f := letOk) (by unfold letOk; simp; omega))
        go_wp2_with fail
        go_ret
        exact ⟨ret_bool HF.out.symm, rfl⟩
      · by_cases h3 : 7 < z
        · have HF := Lib.hid (alls_false HZ.out (f := letOk) (by unfold letOk; simp; omega))
          go_wp2_with fail
          go_ret
          exact ⟨ret_bool HF.out.symm, rfl⟩
        · have HV : Hid (letOk z = true) := by show _ = _; unfold letOk; simp; omega
          go_wp2_with fail
          go_round
          case rel => exact ⟨j + 1, by omega, by go_num, by show _ = _; rw [alls_take_succ HZ.out, HT.out, HV.out]; rfl⟩
          case measure => simp [intOf]; omega
    · have hjj : j = zs.length := by omega
      subst hjj
      have HF : Hid (letsOk zs = true) := by have := HT.out; rw [List.take_length] at this; exact this
      go_wp2_with fail
      go_ret
      exact ⟨ret_bool HF.out.symm, rfl⟩

set_option maxHeartbeats 400000 in
theorem implLets_any (zs : List Int) (A : Option Addr) (cap b off : Nat) (w : World) (hl : zs.length ≤ maxLen) (hI : Ints w w.heap.size A b off zs) :
    Calls Try.prog 130 #[.slice A zs.length cap] w fun e' w' => e' = .returned (.bool (letsOk zs)) ∧ w = w' := by
  unfold maxLen at hl
  have HI := Lib.hid hI
  clear hI
  go_enter Try.func130, Try.ntmps130
  go_wp2_with fail
  go_loop [7] (fun i => ∃ j : Nat, j ≤ zs.length ∧ i = .int .i64 j ∧ Hid ((zs.take j).all letOk = true)) (fun i => zs.length - (intOf i).toNat)
  case atStart => exact ⟨0, Nat.zero_le _, rfl, rfl⟩
  case round =>
    obtain ⟨j, hj, rfl, HT⟩ := hrel
    by_cases hlt : j < zs.length
    · obtain ⟨z, hz⟩ : ∃ z, zs[j]? = some z := ⟨_, List.getElem?_eq_getElem hlt⟩
      obtain ⟨rfl, hb, g0⟩ := HI.out j z hz
      have HZ := Lib.hid hz
      clear hz
      by_cases h0 : z < 0
      · have HF := Lib.hid (alls_false HZ.out (f := letOk) (by unfold letOk; simp; omega))
        go_wp2_with fail
        go_ret
        exact ⟨ret_bool HF.out.symm, rfl⟩
      · by_cases h3 : 7 < z
        · have HF := Lib.hid (alls_false HZ.out (f := letOk) (by unfold letOk; simp; omega))
          go_wp2_with fail
          go_ret
          exact ⟨ret_bool HF.out.symm, rfl⟩
        · have HV : Hid (letOk z = true) := by show _ = _; unfold letOk; simp; omega
          go_wp2_with fail
          go_round
          case rel => exact ⟨j + 1, by omega, by go_num, by show _ = _; rw [alls_take_succ HZ.out, HT.out, HV.out]; rfl⟩
          case measure => simp [intOf]; omega
    · have hjj : j = zs.length := by omega
      subst hjj
      have HF : Hid (letsOk zs = true) := by have := HT.out; rw [List.take_length] at this; exact this
      go_wp2_with fail
      go_ret
      exact ⟨ret_bool HF.out.symm, rfl⟩

set_option maxHeartbeats 400000 in
set_option maxRecDepth 100000 in
theorem specLv_any (e : St) (C : Nat → Value) (w : World) (hL : Lay.sta.lies w w.heap.size e C) (_ : Lay.sta.sz e ≤ 1048576) :
    Calls Try.prog 93 #[.agg #[C 0, C 1]] w fun e' w' => e' = .returned (.bool (laOk e)) ∧ Below w.heap.size w w' := by
  obtain ⟨W1, hW1⟩ : ∃ W1, W1 = w.alloc (.cells #[C 0, C 1] 83) := ⟨_, rfl⟩
  have hb0 : Below w.heap.size w W1 := by rw [hW1]; exact (Below.refl _ _).alloc (Nat.le_refl _) _
  have hra : Row W1 w.heap.size 83 #[C 0, C 1] := by rw [hW1]; exact Row.new _ _ _
  obtain ⟨locs, vals⟩ := e
  obtain ⟨⟨A2, cap2, b2, off2, E2, q2, hl2, hO2⟩, A3, cap3, b3, off3, E3, q3, hl3, hO3⟩ := sta_lies (Lay.sta.later hL hb0 hb0.size)
  rw [q2, q3] at hra hW1 ⊢
  have HW1 := Lib.hid hW1
  have HB0 := Lib.hid hb0
  have HRa := Lib.hid hra
  have H2 := Lib.hid (ints_of hO2)
  have H3 := Lib.hid (ints_of hO3)
  have HN2 := Lib.hid hl2
  have HN3 := Lib.hid hl3
  have HF : Hid (laOk ⟨locs, vals⟩ = (letsOk locs && (letsOk vals && (decide (locs.length ≤ 80) && (decide (1 ≤ vals.length) && decide (vals.length ≤ 80)))))) := rfl
  obtain ⟨u, hu⟩ : ∃ u, u = letsOk locs := ⟨_, rfl⟩
  obtain ⟨v, hv⟩ : ∃ v, v = letsOk vals := ⟨_, rfl⟩
  have HU := Lib.hid hu
  have HV := Lib.hid hv
  unfold maxLen at hl2 hl3
  clear hL hW1 hb0 hra q2 q3 hO2 hO3 hu hv
  go_enter Try.func93, Try.ntmps93
  go_wp2_with fail
  rw [← HW1.out]
  refine (specLets_any locs A2 cap2 b2 off2 W1 HN2.out H2.out).mono ?_
  rintro e' w1 ⟨rfl, rfl⟩
  rw [← HU.out]
  obtain ⟨g0, g1⟩ := HRa.out.two
  cases u
  · go_wp2_with fail
    go_ret
    exact ⟨ret_bool (by rw [HF.out, ← HU.out]; rfl), HB0.out⟩
  go_wp2_with fail
  refine (specLets_any vals A3 cap3 b3 off3 W1 HN3.out H3.out).mono ?_
  rintro e' w2 ⟨rfl, rfl⟩
  rw [← HV.out]
  cases v
  · go_wp2_with fail
    go_ret
    exact ⟨ret_bool (by rw [HF.out, ← HU.out, ← HV.out]; rfl), HB0.out⟩
  have HF2 : Hid (laOk ⟨locs, vals⟩ = (decide (locs.length ≤ 80) && (decide (1 ≤ vals.length) && decide (vals.length ≤ 80)))) := by show _ = _; rw [HF.out, ← HU.out, ← HV.out]; rfl
  by_cases h1 : locs.length ≤ 80
  case neg =>
    have HR : Hid (laOk ⟨locs, vals⟩ = false) := by show _ = _; rw [HF2.out, decide_eq_false h1]; rfl
    go_wp2_with fail
    go_ret
    exact ⟨ret_bool HR.out.symm, HB0.out⟩
  by_cases h2 : 1 ≤ vals.length
  case neg =>
    have HR : Hid (laOk ⟨locs, vals⟩ = false) := by show _ = _; rw [HF2.out, decide_eq_false h2, Bool.false_and, Bool.and_false]
    go_wp2_with fail
    go_ret
    exact ⟨ret_bool HR.out.symm, HB0.out⟩
  by_cases h3 : vals.length ≤ 80
  case neg =>
    have HR : Hid (laOk ⟨locs, vals⟩ = false) := by show _ = _; rw [HF2.out, decide_eq_false h3, Bool.and_false, Bool.and_false]
    go_wp2_with fail
    go_ret
    exact ⟨ret_bool (by rw [HR.out]; exact decide_eq_false (by omega)), HB0.out⟩
  have HR : Hid (laOk ⟨locs, vals⟩ = true) := by show _ = _; rw [HF2.out, decide_eq_true h1, decide_eq_true h2, decide_eq_true h3]; rfl
  go_wp2_with fail
  go_ret
  exact ⟨ret_bool (by rw [HR.out]; exact decide_eq_true (by omega)), HB0.out⟩

set_option maxHeartbeats 400000 in
set_option maxRecDepth 100000 in
theorem implLv_any (e : St) (C : Nat → Value) (w : World) (hL : Lay.sta.lies w w.heap.size e C) (_ : Lay.sta.sz e ≤ 1048576) :
    Calls Try.prog 97 #[.agg #[C 0, C 1]] w fun e' w' => e' = .returned (.bool (laOk e)) ∧ Below w.heap.size w w' := by
  obtain ⟨W1, hW1⟩ : ∃ W1, W1 = w.alloc (.cells #[C 0, C 1] 83) := ⟨_, rfl⟩
  have hb0 : Below w.heap.size w W1 := by rw [hW1]; exact (Below.refl _ _).alloc (Nat.le_refl _) _
  have hra : Row W1 w.heap.size 83 #[C 0, C 1] := by rw [hW1]; exact Row.new _ _ _
  obtain ⟨locs, vals⟩ := e
  obtain ⟨⟨A2, cap2, b2, off2, E2, q2, hl2, hO2⟩, A3, cap3, b3, off3, E3, q3, hl3, hO3⟩ := sta_lies (Lay.sta.later hL hb0 hb0.size)
  rw [q2, q3] at hra hW1 ⊢
  have HW1 := Lib.hid hW1
  have HB0 := Lib.hid hb0
  have HRa := Lib.hid hra
  have H2 := Lib.hid (ints_of hO2)
  have H3 := Lib.hid (ints_of hO3)
  have HN2 := Lib.hid hl2
  have HN3 := Lib.hid hl3
  have HF : Hid (laOk ⟨locs, vals⟩ = (letsOk locs && (letsOk vals && (decide (locs.length ≤ 80) && (decide (1 ≤ vals.length) && decide (vals.length ≤ 80)))))) := rfl
  obtain ⟨u, hu⟩ : ∃ u, u = letsOk locs := ⟨_, rfl⟩
  obtain ⟨v, hv⟩ : ∃ v, v = letsOk vals := ⟨_, rfl⟩
  have HU := Lib.hid hu
  have HV := Lib.hid hv
  unfold maxLen at hl2 hl3
  clear hL hW1 hb0 hra q2 q3 hO2 hO3 hu hv
  by_cases h1 : 80 < locs.length
  · have HR : Hid (laOk ⟨locs, vals⟩ = false) := by show _ = _; rw [HF.out, show decide (locs.length ≤ 80) = false from decide_eq_false (by omega)]; simp
    obtain ⟨g0, g1⟩ := HRa.out.two
    go_enter Try.func97, Try.ntmps97
    go_wp2_with fail
    rw [← HW1.out]
    go_ret
    exact ⟨ret_bool HR.out.symm, HB0.out⟩
  by_cases h2 : vals.length < 1
  · have HR : Hid (laOk ⟨locs, vals⟩ = false) := by show _ = _; rw [HF.out, show decide (1 ≤ vals.length) = false from decide_eq_false (by omega)]; simp
    go_enter Try.func97, Try.ntmps97
    go_wp2_with fail
    rw [← HW1.out]
    go_ret
    exact ⟨ret_bool HR.out.symm, HB0.out⟩
  by_cases h3 : 80 < vals.length
  · have HR : Hid (laOk ⟨locs, vals⟩ = false) := by show _ = _; rw [HF.out, show decide (vals.length ≤ 80) = false from decide_eq_false (by omega)]; simp
    go_enter Try.func97, Try.ntmps97
    go_wp2_with fail
    rw [← HW1.out]
    go_ret
    exact ⟨ret_bool HR.out.symm, HB0.out⟩
  have HF2 : Hid (laOk ⟨locs, vals⟩ = (letsOk locs && letsOk vals)) := by show _ = _; rw [HF.out, show decide (locs.length ≤ 80) = true from decide_eq_true (by omega), show decide (1 ≤ vals.length) = true from decide_eq_true (by omega), show decide (vals.length ≤ 80) = true from decide_eq_true (by omega)]; simp
  go_enter Try.func97, Try.ntmps97
  go_wp2_with fail
  rw [← HW1.out]
  refine (implLets_any locs A2 cap2 b2 off2 W1 HN2.out H2.out).mono ?_
  rintro e' w1 ⟨rfl, rfl⟩
  rw [← HU.out]
  obtain ⟨g0, g1⟩ := HRa.out.two
  cases u
  · go_wp2_with fail
    go_ret
    exact ⟨ret_bool (by rw [HF2.out, ← HU.out]; rfl), HB0.out⟩
  go_wp2_with fail
  refine (implLets_any vals A3 cap3 b3 off3 W1 HN3.out H3.out).mono ?_
  rintro e' w2 ⟨rfl, rfl⟩
  rw [← HV.out]
  go_wp2_with fail
  go_ret
  exact ⟨ret_bool (by rw [HF2.out, ← HU.out, ← HV.out]; rfl), HB0.out⟩

end La
end Go.Proofs.Ytldnegacgjijlaa

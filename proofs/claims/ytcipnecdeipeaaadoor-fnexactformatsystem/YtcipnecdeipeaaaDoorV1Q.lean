/- The walks of spec.l1Vals and impl.valsValid. -/
import Derived.Test.YtcipnecdeipeaaaDoorJ02
namespace Go.Proofs.YtcipnecdeipeaaaDoor
open Go.RowKit

set_option maxHeartbeats 400000 in
theorem specVals_any (zs : List Int) (A : Option Addr) (cap b off : Nat) (w : World) (hl : zs.length ≤ maxLen) (hI : Ints w w.heap.size A b off zs) :
    Calls Tryd.prog 24 #[.slice A zs.length cap] w fun e' w' => e' = .returned (.bool (valsOk zs)) ∧ w = w' := by
  unfold maxLen at hl
  have HI := Lib.hid hI
  clear hI
  go_enter Tryd.func24, Tryd.ntmps24
  go_wp2_with fail
  go_loop [3] (fun i => ∃ j : Nat, j ≤ zs.length ∧ i = .int .i64 j ∧ Hid ((zs.take j).all valOk = true)) (fun i => zs.length - (intOf i).toNat)
  case atStart => exact ⟨0, Nat.zero_le _, rfl, rfl⟩
  case round =>
    obtain ⟨j, hj, rfl, HT⟩ := hrel
    by_cases hlt : j < zs.length
    · obtain ⟨z, hz⟩ : ∃ z, zs[j]? = some z := ⟨_, List.getElem?_eq_getElem hlt⟩
      obtain ⟨rfl, hb, g0⟩ := HI.out j z hz
      have HZ := Lib.hid hz
      clear hz
      by_cases h0 : z < 0
      · have HF := Lib.hid (allv_false HZ.out (by unfold valOk; simp; omega))
        go_wp2_with fail
        go_ret
        exact ⟨ret_bool HF.out.symm, rfl⟩
      · by_cases h3 : 3 < z
        · have HF := Lib.hid (allv_false HZ.out (by unfold valOk; simp; omega))
          go_wp2_with fail
          go_ret
          exact ⟨ret_bool HF.out.symm, rfl⟩
        · have HV : Hid (valOk z = true) := by show _ = _; unfold valOk; simp; omega
          go_wp2_with fail
          go_round
          case rel => exact ⟨j + 1, by omega, by go_num, by show _ = _; rw [allv_take_succ HZ.out, HT.out, HV.out]; rfl⟩
          case measure => simp [intOf]; omega
    · have hjj : j = zs.length := by omega
      subst hjj
      go_wp2_with fail
      all_goals go_ret
      all_goals exact ⟨ret_bool (by have := HT.out; rw [List.take_length] at this; unfold valsOk; rw [this, Bool.eq_iff_iff]; simp; omega), rfl⟩

set_option maxHeartbeats 400000 in
theorem implVals_any (zs : List Int) (A : Option Addr) (cap b off : Nat) (w : World) (hl : zs.length ≤ maxLen) (hI : Ints w w.heap.size A b off zs) :
    Calls Tryd.prog 27 #[.slice A zs.length cap] w fun e' w' => e' = .returned (.bool (valsOk zs)) ∧ w = w' := by
  unfold maxLen at hl
  have HI := Lib.hid hI
  clear hI
  go_enter Tryd.func27, Tryd.ntmps27
  go_wp2_with fail
  go_loop [7] (fun i => ∃ j : Nat, j ≤ zs.length ∧ i = .int .i64 j ∧ Hid ((zs.take j).all valOk = true)) (fun i => zs.length - (intOf i).toNat)
  case atStart => exact ⟨0, Nat.zero_le _, rfl, rfl⟩
  case round =>
    obtain ⟨j, hj, rfl, HT⟩ := hrel
    by_cases hlt : j < zs.length
    · obtain ⟨z, hz⟩ : ∃ z, zs[j]? = some z := ⟨_, List.getElem?_eq_getElem hlt⟩
      obtain ⟨rfl, hb, g0⟩ := HI.out j z hz
      have HZ := Lib.hid hz
      clear hz
      by_cases h0 : z < 0
      · have HF := Lib.hid (allv_false HZ.out (by unfold valOk; simp; omega))
        go_wp2_with fail
        go_ret
        exact ⟨ret_bool HF.out.symm, rfl⟩
      · by_cases h3 : 3 < z
        · have HF := Lib.hid (allv_false HZ.out (by unfold valOk; simp; omega))
          go_wp2_with fail
          go_ret
          exact ⟨ret_bool HF.out.symm, rfl⟩
        · have HV : Hid (valOk z = true) := by show _ = _; unfold valOk; simp; omega
          go_wp2_with fail
          go_round
          case rel => exact ⟨j + 1, by omega, by go_num, by show _ = _; rw [allv_take_succ HZ.out, HT.out, HV.out]; rfl⟩
          case measure => simp [intOf]; omega
    · have hjj : j = zs.length := by omega
      subst hjj
      go_wp2_with fail
      all_goals go_ret
      all_goals exact ⟨ret_bool (by have := HT.out; rw [List.take_length] at this; unfold valsOk; rw [this, Bool.eq_iff_iff]; simp; omega), rfl⟩

end Go.Proofs.YtcipnecdeipeaaaDoor

/- The walk of spec.GraphValid. -/
import Derived.Test.YtldnegacgjijlaaJ10
import Derived.Test.YtldnegacgjijlaaGv0Q
namespace Go.Proofs.Ytldnegacgjijlaa
open Go.RowKit

theorem quiet_sum {P : Program} {f : FuncId} {args : Array Value} {w : World} {n x : Nat} {v : Value}
    (h : Calls P f args (w.drewN (n + x)) fun e w' => e = .returned v ∧ w.drewN (n + x) = w') : Calls P f args (w.drewN (n + x)) fun e w'' => e = .returned v ∧ ∃ m, w'' = w.drewN (n + m) :=
  h.mono fun _ _ ⟨he, hm⟩ => ⟨he, x, hm.symm⟩

theorem node_long {n : Nat} {s : St} {x : List Int} (h : n < x.length) : nodeOk n (s, x) = false := by
  unfold nodeOk
  cases hs : sucsOk n x
  · rw [Bool.and_false, Bool.and_false]
  · have := sucs_few hs; omega

set_option maxHeartbeats 2000000 in
set_option maxRecDepth 100000 in
theorem specGrV_any (e : Gp) (C : Nat → Value) (w : World) (hL : Lay.gra.lies w w.heap.size e C) :
    Calls Try.prog 75 #[.agg #[C 0, C 1]] w fun e' w' => e' = .returned (.bool (grOk e)) ∧ Below w.heap.size w w' := by
  obtain ⟨W1, hW1⟩ : ∃ W1, W1 = w.alloc (.cells #[C 0, C 1] 69) := ⟨_, rfl⟩
  have hra : Row W1 w.heap.size 69 #[C 0, C 1] := by rw [hW1]; exact Row.new _ _ _
  have hb0 : Below w.heap.size w W1 := by rw [hW1]; exact (Below.refl _ _).alloc (Nat.le_refl _) _
  obtain ⟨sts, nxt⟩ := e
  obtain ⟨⟨A2, cap2, b2, off2, E2, q2, hl2, hO2⟩, A3, cap3, b3, off3, E3, q3, hl3, hO3⟩ := gra_lies (Lay.gra.later hL hb0 hb0.size)
  rw [q2, q3] at hra hW1
  rw [q2, q3]
  have HW1 := Lib.hid hW1
  have HB0 := Lib.hid hb0
  have HRa := Lib.hid hra
  have H2 := Lib.hid hO2
  have H3 := Lib.hid hO3
  unfold maxLen at hl2 hl3
  have HF : Hid (grOk ⟨sts, nxt⟩ = (decide (1 ≤ sts.length) && (decide (sts.length ≤ 60) && (decide (nxt.length = sts.length) && (sts.zip nxt).all (nodeOk sts.length))))) := rfl
  clear hL hW1 hb0 hra q2 q3 hO2 hO3
  by_cases hn0 : sts.length < 1
  case pos =>
    go_enter Try.func75, Try.ntmps75
    go_wp2_with fail
    go_ret
    rw [← HW1.out]
    exact ⟨ret_bool (by rw [HF.out, decide_eq_false (show ¬ 1 ≤ sts.length by omega)]; rfl), HB0.out⟩
  by_cases hn1 : 60 < sts.length
  case pos =>
    go_enter Try.func75, Try.ntmps75
    go_wp2_with fail
    go_ret
    rw [← HW1.out]
    exact ⟨ret_bool (by rw [HF.out, decide_eq_false (show ¬ sts.length ≤ 60 by omega), Bool.false_and, Bool.and_false]), HB0.out⟩
  by_cases hlen : nxt.length = sts.length
  case neg =>
    have hlenJ : ((nxt.length : Int) != (sts.length : Int)) = true := by simp; omega
    go_enter Try.func75, Try.ntmps75
    go_wp2_with fail
    go_ret
    rw [← HW1.out]
    exact ⟨ret_bool (by rw [HF.out, decide_eq_false hlen, Bool.false_and, Bool.and_false, Bool.and_false]), HB0.out⟩
  have HF2 : Hid (grOk ⟨sts, nxt⟩ = (sts.zip nxt).all (nodeOk sts.length)) := by show _ = _; rw [HF.out, decide_eq_true (show 1 ≤ sts.length by omega), decide_eq_true (show sts.length ≤ 60 by omega), decide_eq_true hlen]; rfl
  rw [hlen] at HW1 HRa ⊢
  have HLn := Lib.hid hlen
  clear hlen HF hl3
  obtain ⟨g0, g1⟩ := HRa.out.two
  go_enter Try.func75, Try.ntmps75
  go_wp2_with fail
  rw [← HW1.out]
  go_loopw [3] (fun i wl => ∃ j n : Nat, j ≤ sts.length ∧ i = .int .i64 j ∧ Hid (((sts.zip nxt).take j).all (nodeOk sts.length) = true) ∧ wl = W1.drewN n) (fun i _ => sts.length - (intOf i).toNat)
  case atStart => exact ⟨0, 0, Nat.zero_le _, rfl, rfl, rfl⟩
  case round =>
    obtain ⟨j, n, hj, rfl, HT, rfl⟩ := hrel
    by_cases hlt : j < sts.length
    · obtain ⟨x, hx⟩ : ∃ x, sts[j]? = some x := ⟨_, List.getElem?_eq_getElem hlt⟩
      have hlp : j < nxt.length := by have := HLn.out; omega
      obtain ⟨y, hy⟩ : ∃ y, nxt[j]? = some y := ⟨_, List.getElem?_eq_getElem hlp⟩
      obtain ⟨rfl, hb, gc, gl⟩ := H2.out j x hx
      obtain ⟨rfl, hb', fc, fl⟩ := H3.out j y hy
      have HZ := Lib.hid (zip_get hx hy)
      have HTs := Lib.hid (alls_take_succ (f := nodeOk sts.length) HZ.out)
      obtain ⟨locs, vals⟩ := x
      obtain ⟨⟨A4, cap4, b4, off4, E4, k0, hl4, hO4⟩, A5, cap5, b5, off5, E5, k1, hl5, hO5⟩ := sta_lies gl
      obtain ⟨A6, cap6, b6, off6, k2, hl6, hI6⟩ := ints_lies fl
      have hfit : y.length ≤ cap6 := ints_fit fl _ _ _ k2
      have c0 : W1.cell? ⟨b2, off2 + j * 2, none⟩ = some (E2 j 0) := gc 0 (by decide)
      have c1 : W1.cell? ⟨b2, off2 + j * 2 + 1, none⟩ = some (E2 j 1) := gc 1 (by decide)
      have d0 : W1.cell? ⟨b3, off3 + j, none⟩ = some (E3 j 0) := by have h := fc 0 (by decide); rw [show Lay.ints.st = 1 from rfl, Nat.mul_one] at h; exact h
      rw [k0] at c0
      rw [k1] at c1
      rw [k2] at d0
      obtain ⟨v, hv⟩ : ∃ v, v = valsOk vals := ⟨_, rfl⟩
      have HK : Hid (∀ m, Calls Try.prog 100 #[.slice A5 vals.length cap5] (W1.drewN m) fun e' w' => e' = .returned (.bool v) ∧ W1.drewN m = w') := fun m => by
        rw [hv]; exact specVals_any vals A5 cap5 b5 off5 _ hl5 ((ints_of hO5).under (below_drewN (Below.refl _ _) m) (Nat.le_refl _))
      have HI6 : Hid (∀ m, Ints (W1.drewN m) (W1.drewN m).heap.size A6 b6 off6 y) := fun m => hI6.under (below_drewN (Below.refl _ _) m) (Nat.le_refl _)
      have HNd : Hid (nodeOk sts.length (⟨locs, vals⟩, y) = (v && (decide (0 < y.length) && sucsOk sts.length y))) := by show _ = _; rw [hv]; rfl
      have HL6 := Lib.hid hl6
      unfold maxLen at hl6
      clear gl fl gc fc hx hy hv k0 k1 k2 hO4 hO5 hI6 hl4 hl5
      by_cases hy0 : y.length < 1
      · have hyI : (y.length : Int) < 1 := by omega
        go_wp2_with fail
        go_quiet (fail)
        go_wp2_with fail
        go_ret
        exact ⟨ret_bool (by rw [HF2.out, alls_false HZ.out (by rw [HNd.out, decide_eq_false (show ¬ 0 < y.length by omega), Bool.false_and, Bool.and_false])]), HB0.out.trans ((below_drewN (below_drewN (Below.refl _ _) _) _).mono HB0.out.size)⟩
      have hyI : decide ((y.length : Int) < 1) = false := decide_eq_false (by omega)
      by_cases hy1 : sts.length < y.length
      · have hyJ : (sts.length : Int) < (y.length : Int) := by omega
        go_wp2_with fail
        go_quiet (fail)
        go_wp2_with fail
        go_ret
        exact ⟨ret_bool (by rw [HF2.out, alls_false HZ.out (node_long hy1)]), HB0.out.trans ((below_drewN (below_drewN (Below.refl _ _) _) _).mono HB0.out.size)⟩
      have hyJ : decide ((sts.length : Int) < (y.length : Int)) = false := decide_eq_false (by omega)
      cases v
      · go_wp2_with fail
        go_quiet ((go_at_call 100; exact quiet_sum (HK.out _)))
        go_wp2_with fail
        go_ret
        exact ⟨ret_bool (by rw [HF2.out, alls_false HZ.out HNd.out]), HB0.out.trans ((below_drewN (below_drewN (Below.refl _ _) _) _).mono HB0.out.size)⟩
      have HNe : Hid (nodeOk sts.length (⟨locs, vals⟩, y) = sucsOk sts.length y) := by show _ = _; rw [HNd.out, decide_eq_true (show 0 < y.length by omega)]; rfl
      clear HNd
      go_wp2_with fail
      go_quiet ((go_at_call 100; exact quiet_sum (HK.out _)))
      clear HK hyI hyJ
      go_wp2_with fail
      go_loopw [4] (fun i wl => ∃ k n : Nat, k ≤ y.length ∧ i = .int .i64 k ∧ Hid (∀ i, i < k → fresh sts.length y i = true) ∧ wl = W1.drewN n) (fun i _ => y.length - (intOf i).toNat)
      case atStart => exact ⟨0, n + nq, Nat.zero_le _, rfl, fun i h => absurd h (Nat.not_lt_zero i), by go_simp⟩
      case round =>
        obtain ⟨k, m, hk, rfl, HS, rfl⟩ := hrel
        by_cases hkl : k < y.length
        · obtain ⟨z, hz⟩ : ∃ z, y[k]? = some z := ⟨_, List.getElem?_eq_getElem hkl⟩
          obtain ⟨rfl, hb6, cz⟩ := HI6.out 0 k z hz
          have cz' : W1.cell? ⟨b6, off6 + k, none⟩ = some (.int .i64 z) := cz
          have HZk := Lib.hid hz
          have hkc : (k : Int) ≤ (cap6 : Int) := by omega
          obtain ⟨u, hu⟩ : ∃ u, u = inB (y.take k) z := ⟨_, rfl⟩
          have HK : Hid (∀ q, Calls Try.prog 116 #[.slice (some ⟨b6, off6, none⟩) k cap6, .int .i64 z] (W1.drewN q) fun e' w' => e' = .returned (.bool u) ∧ W1.drewN q = w') := fun q => by
            rw [hu]; exact l4In_any (y.take k) z _ k cap6 b6 off6 _ (by rw [List.length_take]; omega) (by unfold maxLen; omega) (fun i q' hq => HI6.out q i q' (by rw [List.getElem?_take] at hq; split at hq; exact hq; cases hq))
          have HFr : Hid (fresh sts.length y k = (inOk sts.length z && !u)) := by show _ = _; rw [fresh_some hz, hu]
          clear hz cz hu
          by_cases hz0 : z < 0
          · have HF3 : Hid (sucsOk sts.length y = false) := sucs_false HZk.out (by rw [HFr.out]; unfold inOk; rw [decide_eq_false (show ¬ 0 ≤ z by omega)]; rfl)
            go_wp2_with fail
            go_quiet (fail)
            go_wp2_with fail
            go_ret
            exact ⟨ret_bool (by rw [HF2.out, alls_false HZ.out (HNe.out.trans HF3.out)]), HB0.out.trans ((below_drewN (below_drewN (Below.refl _ _) _) _).mono HB0.out.size)⟩
          have hzI : decide (z < 0) = false := decide_eq_false hz0
          by_cases hz1 : (sts.length : Int) ≤ z
          · have HF3 : Hid (sucsOk sts.length y = false) := sucs_false HZk.out (by rw [HFr.out]; unfold inOk; rw [decide_eq_false (show ¬ z < sts.length by omega), Bool.and_false]; rfl)
            go_wp2_with fail
            go_quiet (fail)
            go_wp2_with fail
            go_ret
            exact ⟨ret_bool (by rw [HF2.out, alls_false HZ.out (HNe.out.trans HF3.out)]), HB0.out.trans ((below_drewN (below_drewN (Below.refl _ _) _) _).mono HB0.out.size)⟩
          have hzJ : decide ((sts.length : Int) ≤ z) = false := decide_eq_false hz1
          have HFs : Hid (fresh sts.length y k = !u) := by show _ = _; rw [HFr.out]; unfold inOk; rw [decide_eq_true (show 0 ≤ z by omega), decide_eq_true (show z < sts.length by omega)]; rfl
          clear HFr
          cases u
          · have HS2 : Hid (∀ i, i < k + 1 → fresh sts.length y i = true) := fun i hi => by
              by_cases e : i = k
              · subst e; exact HFs.out
              · exact HS.out i (by omega)
            go_wp2_with fail
            go_quiet ((go_at_call 116; exact quiet_sum (HK.out _)))
            go_wp2_with fail
            go_roundw
            case rel => exact ⟨k + 1, _, by omega, by go_num, HS2, rfl⟩
            case measure => simp [intOf]; omega
          · have HF3 : Hid (sucsOk sts.length y = false) := sucs_false HZk.out HFs.out
            go_wp2_with fail
            go_quiet ((go_at_call 116; exact quiet_sum (HK.out _)))
            go_wp2_with fail
            go_ret
            exact ⟨ret_bool (by rw [HF2.out, alls_false HZ.out (HNe.out.trans HF3.out)]), HB0.out.trans ((below_drewN (below_drewN (Below.refl _ _) _) _).mono HB0.out.size)⟩
        · have hkk : k = y.length := by omega
          subst hkk
          have HT2 : Hid (((sts.zip nxt).take (j + 1)).all (nodeOk sts.length) = true) := by show _ = _; rw [HTs.out, HT.out, HNe.out, sucs_true HS.out]; rfl
          go_wp2_with fail
          go_roundw
          case rel => exact ⟨j + 1, _, by omega, by go_num, HT2, rfl⟩
          case measure => simp [intOf]; omega
    · have hjj : j = sts.length := by omega
      subst hjj
      have HFu : Hid ((sts.zip nxt).all (nodeOk sts.length) = true) := by
        have := HT.out
        have h := zip_len2 HLn.out.symm
        rw [h, List.take_length] at this
        rw [← h] at this
        exact this
      go_wp2_with fail
      go_ret
      exact ⟨ret_bool (by rw [HF2.out, HFu.out]), HB0.out.trans ((below_drewN (Below.refl _ _) _).mono HB0.out.size)⟩

end Go.Proofs.Ytldnegacgjijlaa

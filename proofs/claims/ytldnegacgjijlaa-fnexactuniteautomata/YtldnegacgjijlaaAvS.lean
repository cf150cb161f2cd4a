/- The walk of spec.AutomatonValid. -/
import Derived.Test.YtldnegacgjijlaaAvD
import Derived.BigQuiet
namespace Go.Proofs.Ytldnegacgjijlaa
open Go.RowKit

set_option maxHeartbeats 8000000 in
theorem specAv_any (e : Au) (C : Nat → Value) (w : World) (hL : Lay.au.lies w w.heap.size e C) (_ : Lay.au.sz e ≤ 1048576) :
    Calls Try.prog 62 #[.agg #[C 0, C 1, C 2]] w fun e' w' => e' = .returned (.bool (auOk e)) ∧ Below w.heap.size w w' := by
  obtain ⟨ini, acc, es⟩ := e
  obtain ⟨W1, hW1⟩ : ∃ W1, W1 = w.alloc (.cells #[C 0, C 1, C 2] 51) := ⟨_, rfl⟩
  have hb0 : Below w.heap.size w W1 := by rw [hW1]; exact (Below.refl _ _).alloc (Nat.le_refl _) _
  have hra : Row W1 w.heap.size 51 #[C 0, C 1, C 2] := by rw [hW1]; exact Row.new _ _ _
  obtain ⟨⟨A, cap, b, off, e0, hl, hO⟩, ⟨A2, cap2, b2, off2, e1, hl2, hO2⟩, ⟨A3, cap3, b3, off3, D3, e2, hl3, hO3⟩⟩ := au_lies (Lay.au.later hL hb0 hb0.size)
  rw [e0, e1, e2] at hra hW1 ⊢
  have HW1 := Lib.hid hW1
  have HB0 := Lib.hid hb0
  have HRa := Lib.hid hra
  have HI := Lib.hid hO
  have HE := Lib.hid (trs_of hO3)
  unfold maxLen at hl hl2 hl3
  clear e0 e1 e2 hL hW1 hb0 hra hO hO2 hO3
  have HBa : Hid (Below w.heap.size w W1) := HB0.out
  by_cases c0 : acc.length < 1
  · have HF : Hid (auOk ⟨ini, acc, es⟩ = false) := by show _ = _; unfold auOk; rw [decide_eq_false (by dsimp only; omega)]; rfl
    go_enter Try.func62, Try.ntmps62
    go_wp2_with fail
    go_ret
    rw [← HW1.out]
    exact ⟨ret_bool HF.out.symm, HB0.out⟩
  by_cases c1 : 64 < acc.length
  · have HF : Hid (auOk ⟨ini, acc, es⟩ = false) := by show _ = _; unfold auOk; rw [decide_eq_false (by dsimp only; omega)]; rfl
    go_enter Try.func62, Try.ntmps62
    go_wp2_with fail
    go_ret
    rw [← HW1.out]
    exact ⟨ret_bool HF.out.symm, HB0.out⟩
  have HT : Hid (auOk ⟨ini, acc, es⟩ = (decide (es.length ≤ 2048) && (asc acc.length ini && trsOk acc.length es))) := by show _ = _; unfold auOk; rw [decide_eq_true (by dsimp only; omega)]; rfl
  by_cases c2 : acc.length < ini.length
  · have HF : Hid (auOk ⟨ini, acc, es⟩ = false) := by
      show _ = _
      rw [HT.out]
      cases h : asc acc.length ini
      · cases decide (es.length ≤ 2048) <;> rfl
      · have := asc_len h (by omega)
        omega
    go_enter Try.func62, Try.ntmps62
    go_wp2_with fail
    go_ret
    rw [← HW1.out]
    exact ⟨ret_bool HF.out.symm, HB0.out⟩
  by_cases c3 : 2048 < es.length
  · have HF : Hid (auOk ⟨ini, acc, es⟩ = false) := by show _ = _; rw [HT.out, decide_eq_false (by omega)]; rfl
    go_enter Try.func62, Try.ntmps62
    go_wp2_with fail
    go_ret
    rw [← HW1.out]
    exact ⟨ret_bool HF.out.symm, HB0.out⟩
  have HT2 : Hid (auOk ⟨ini, acc, es⟩ = (asc acc.length ini && trsOk acc.length es)) := by show _ = _; rw [HT.out, decide_eq_true (by omega)]; rfl
  clear HT
  go_enter Try.func62, Try.ntmps62
  go_wp2_with fail
  rw [← HW1.out]
  go_loopw [4] (fun i wl => ∃ j : Nat, j ≤ ini.length ∧ i = .int .i64 j ∧ Hid (∀ q, q < j → okAt acc.length ini q = true) ∧ Hid (Below W1.heap.size W1 wl)) (fun i _ => ini.length - (intOf i).toNat)
  case atStart => exact ⟨0, Nat.zero_le _, rfl, fun q hq => absurd hq (Nat.not_lt_zero _), Below.refl _ _⟩
  case round =>
    obtain ⟨j, hj, rfl, HK, HB⟩ := hrel
    obtain ⟨g0, g1, g2⟩ := (HRa.out.under HB.out HRa.out.lt).three
    by_cases hlt : j < ini.length
    · obtain ⟨x, hx⟩ : ∃ x, ini[j]? = some x := ⟨_, List.getElem?_eq_getElem hlt⟩
      obtain ⟨rfl, hb, gx⟩ := HI.out.under HB.out HB.out.size j x hx
      have HX := Lib.hid (okAt_iff (n := acc.length) hx)
      have hbe := before_ge HK.out
      clear hx
      by_cases d0 : x < 0
      · have HF : Hid (auOk ⟨ini, acc, es⟩ = false) := by
          show _ = _
          rw [HT2.out, asc_false hlt (by rw [HX.out, decide_eq_false (by omega)]; rfl)]
          rfl
        clear hbe
        go_wp2_with fail
        go_quiet (fail)
        go_wp2_with fail
        go_ret
        exact ⟨ret_bool HF.out.symm, below_drewN (HB0.out.trans (HB.out.mono HB0.out.size)) _⟩
      by_cases d1 : (acc.length : Int) ≤ x
      · have HF : Hid (auOk ⟨ini, acc, es⟩ = false) := by
          show _ = _
          rw [HT2.out, asc_false hlt (by rw [HX.out, decide_eq_false (show ¬ x < (acc.length : Int) by omega), Bool.and_false])]
          rfl
        clear hbe
        have B0 : decide (x < 0) = false := decide_eq_false d0
        have B1 : decide ((acc.length : Int) ≤ x) = true := decide_eq_true d1
        go_wp2_with fail
        go_quiet (fail)
        go_wp2_with fail
        go_ret
        exact ⟨ret_bool HF.out.symm, below_drewN (HB0.out.trans (HB.out.mono HB0.out.size)) _⟩
      by_cases d2 : j = 0
      · subst d2
        rw [Nat.add_zero] at gx
        have HK2 : Hid (∀ q, q < 0 + 1 → okAt acc.length ini q = true) := fun q hq => by
          obtain rfl : q = 0 := by omega
          rw [HX.out, decide_eq_true (show x < (acc.length : Int) by omega), decide_eq_true (show before ini 0 < x by show (-1 : Int) < x; omega)]
          rfl
        clear hbe
        have B0 : decide (x < 0) = false := decide_eq_false d0
        have B1 : decide ((acc.length : Int) ≤ x) = false := decide_eq_false d1
        go_wp2_with fail
        go_quiet (fail)
        go_wp2_with fail
        go_roundw
        case rel => exact ⟨0 + 1, by omega, by go_num, HK2, below_drewN HB.out _⟩
        case measure => simp [intOf]; omega
      obtain ⟨k, rfl⟩ : ∃ k, j = k + 1 := ⟨j - 1, by omega⟩
      obtain ⟨y, hy⟩ : ∃ y, ini[k]? = some y := ⟨_, List.getElem?_eq_getElem (by omega)⟩
      obtain ⟨_, _, gy⟩ := HI.out.under HB.out HB.out.size k y hy
      have hyb : before ini (k + 1) = y := by show ini.getD k 0 = y; simp [List.getD, hy]
      rw [hyb] at hbe
      have HX2 : Hid (okAt acc.length ini (k + 1) = (decide (y < x) && decide (x < (acc.length : Int)))) := by show _ = _; rw [HX.out, hyb]
      have hkp : 0 < k + 1 := Nat.succ_pos _
      have B0 : decide (x < 0) = false := decide_eq_false d0
      have B1 : decide ((acc.length : Int) ≤ x) = false := decide_eq_false d1
      have B2 : decide (0 < k + 1) = true := decide_eq_true hkp
      clear hy hyb HX hbe
      by_cases d3 : x ≤ y
      · have HF : Hid (auOk ⟨ini, acc, es⟩ = false) := by
          show _ = _
          rw [HT2.out, asc_false hlt (by rw [HX2.out, decide_eq_false (by omega)]; rfl)]
          rfl
        go_wp2_with fail
        go_quiet (fail)
        go_wp2_with fail
        go_ret
        exact ⟨ret_bool HF.out.symm, below_drewN (HB0.out.trans (HB.out.mono HB0.out.size)) _⟩
      · have HK2 : Hid (∀ q, q < k + 1 + 1 → okAt acc.length ini q = true) := fun q hq => by
          by_cases h : q = k + 1
          · subst h
            rw [HX2.out, decide_eq_true (show x < (acc.length : Int) by omega), decide_eq_true (show y < x by omega)]
            rfl
          · exact HK.out q (by omega)
        go_wp2_with fail
        go_quiet (fail)
        go_wp2_with fail
        go_roundw
        case rel => exact ⟨k + 1 + 1, by omega, by go_num, HK2, below_drewN HB.out _⟩
        case measure => simp [intOf]; omega
    · have hjj : j = ini.length := by omega
      subst hjj
      have HT3 : Hid (auOk ⟨ini, acc, es⟩ = trsOk acc.length es) := by show _ = _; rw [HT2.out, asc_true HK.out]; rfl
      clear HT2 HI HK
      go_wp2_with fail
      go_loopw [5] (fun i wl => ∃ j : Nat, j ≤ es.length ∧ i = .int .i64 j ∧ Hid (∀ q (e : Tr), es[q]? = some e → q < j → trOk acc.length e = true) ∧ Hid (Below W1.heap.size W1 wl)) (fun i _ => es.length - (intOf i).toNat)
      case atStart => exact ⟨0, Nat.zero_le _, rfl, fun q e _ hq => absurd hq (Nat.not_lt_zero _), HB⟩
      case round =>
        clear g0 g1 g2 HB
        obtain ⟨j, hj, rfl, HK, HB⟩ := hrel
        obtain ⟨g0, g1, g2⟩ := (HRa.out.under HB.out HRa.out.lt).three
        by_cases hlt : j < es.length
        · obtain ⟨x, hx⟩ : ∃ x, es[j]? = some x := ⟨_, List.getElem?_eq_getElem hlt⟩
          obtain ⟨rfl, hb, f0, f1, f2, f3, hrx⟩ := (HE.out.under HB.out HB.out.size) j x hx
          have HX := Lib.hid hx
          have HRx := Lib.hid hrx
          clear hx hrx
          go_wp2_with fail
          refine (l7Edge_any x acc.length _ HRx.out).mono ?_
          rintro e' w1 ⟨rfl, hb1⟩
          have HB1 : Hid (Below W1.heap.size W1 w1) := HB.out.trans (hb1.mono HB.out.size)
          clear hb1
          cases ht : trOk acc.length x
          · have HF : Hid (auOk ⟨ini, acc, es⟩ = false) := by show _ = _; rw [HT3.out]; exact trsOk_false HX.out ht
            clear ht
            go_wp2_with fail
            go_ret
            exact ⟨ret_bool HF.out.symm, HB0.out.trans (HB1.out.mono HB0.out.size)⟩
          · have HK2 : Hid (∀ q (e : Tr), es[q]? = some e → q < j + 1 → trOk acc.length e = true) := fun q e he hq => by
              by_cases h : q = j
              · subst h
                have h1 := HX.out
                rw [he] at h1
                injection h1 with h1
                rw [h1]
                exact ht
              · exact HK.out q e he (by omega)
            clear ht
            go_wp2_with fail
            go_roundw
            case rel => exact ⟨j + 1, by omega, by go_num, HK2, HB1⟩
            case measure => simp [intOf]; omega
        · have hjj : j = es.length := by omega
          subst hjj
          have HF : Hid (auOk ⟨ini, acc, es⟩ = true) := by
            show _ = _
            rw [HT3.out]
            exact trsOk_true fun i e he => HK.out i e he (List.getElem?_eq_some_iff.1 he).1
          go_wp2_with fail
          go_ret
          exact ⟨ret_bool HF.out.symm, HB0.out.trans (HB.out.mono HB0.out.size)⟩

end Go.Proofs.Ytldnegacgjijlaa

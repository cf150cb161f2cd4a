/- The walk of impl.AutomatonValid. -/
import Derived.Test.YtldnegacgjijlaaAvI
namespace Go.Proofs.Ytldnegacgjijlaa
open Go.RowKit

set_option maxHeartbeats 2000000 in
theorem implAv_any (e : Au) (C : Nat → Value) (w : World) (hL : Lay.au.lies w w.heap.size e C) (_ : Lay.au.sz e ≤ 1048576) :
    Calls Try.prog 65 #[.agg #[C 0, C 1, C 2]] w fun e' w' => e' = .returned (.bool (auOk e)) ∧ Below w.heap.size w w' := by
  obtain ⟨ini, acc, es⟩ := e
  obtain ⟨W1, hW1⟩ : ∃ W1, W1 = w.alloc (.cells #[C 0, C 1, C 2] 51) := ⟨_, rfl⟩
  have hb0 : Below w.heap.size w W1 := by rw [hW1]; exact (Below.refl _ _).alloc (Nat.le_refl _) _
  have hra : Row W1 w.heap.size 51 #[C 0, C 1, C 2] := by rw [hW1]; exact Row.new _ _ _
  obtain ⟨⟨A, cap, b, off, e0, hl, hO⟩, ⟨A2, cap2, b2, off2, e1, hl2, hO2⟩, ⟨A3, cap3, b3, off3, D3, e2, hl3, hO3⟩⟩ := au_lies (Lay.au.later hL hb0 hb0.size)
  rw [e0, e1, e2] at hra hW1 ⊢
  have HW1 := Lib.hid hW1
  have HB0 := Lib.hid hb0
  have HRa := Lib.hid hra
  have HI := Lib.hid hO
  have HE := Lib.hid (trs_of hO3)
  have HLi := Lib.hid hl
  unfold maxLen at hl hl2 hl3
  clear e0 e1 e2 hL hW1 hb0 hra hO hO2 hO3
  by_cases c0 : acc.length < 1
  · have HF : Hid (auOk ⟨ini, acc, es⟩ = false) := by show _ = _; unfold auOk; rw [decide_eq_false (by dsimp only; omega)]; rfl
    go_enter Try.func65, Try.ntmps65
    go_wp2_with fail
    go_ret
    rw [← HW1.out]
    exact ⟨ret_bool HF.out.symm, HB0.out⟩
  by_cases c1 : 64 < acc.length
  · have HF : Hid (auOk ⟨ini, acc, es⟩ = false) := by show _ = _; unfold auOk; rw [decide_eq_false (by dsimp only; omega)]; rfl
    go_enter Try.func65, Try.ntmps65
    go_wp2_with fail
    go_ret
    rw [← HW1.out]
    exact ⟨ret_bool HF.out.symm, HB0.out⟩
  have HT : Hid (auOk ⟨ini, acc, es⟩ = (decide (es.length ≤ 2048) && (asc acc.length ini && trsOk acc.length es))) := by show _ = _; unfold auOk; rw [decide_eq_true (by dsimp only; omega)]; rfl
  by_cases c3 : 2048 < es.length
  · have HF : Hid (auOk ⟨ini, acc, es⟩ = false) := by show _ = _; rw [HT.out, decide_eq_false (by omega)]; rfl
    go_enter Try.func65, Try.ntmps65
    go_wp2_with fail
    go_ret
    rw [← HW1.out]
    exact ⟨ret_bool HF.out.symm, HB0.out⟩
  have HT2 : Hid (auOk ⟨ini, acc, es⟩ = (asc acc.length ini && trsOk acc.length es)) := by show _ = _; rw [HT.out, decide_eq_true (by omega)]; rfl
  clear HT
  go_enter Try.func65, Try.ntmps65
  go_wp2_with fail
  rw [← HW1.out]
  go_loopw [24] (fun i wl => ∃ j : Nat, j ≤ es.length ∧ i = .int .i64 j ∧ Hid (∀ q (e : Tr), es[q]? = some e → q < j → trOk acc.length e = true) ∧ Hid (Below W1.heap.size W1 wl)) (fun i _ => es.length - (intOf i).toNat)
  case atStart => exact ⟨0, Nat.zero_le _, rfl, fun q e _ hq => absurd hq (Nat.not_lt_zero _), Below.refl _ _⟩
  case round =>
    obtain ⟨j, hj, rfl, HK, HB⟩ := hrel
    by_cases hlt : j < es.length
    · obtain ⟨x, hx⟩ : ∃ x, es[j]? = some x := ⟨_, List.getElem?_eq_getElem hlt⟩
      obtain ⟨rfl, hb, f0, f1, f2, f3, hrx⟩ := (HE.out.under HB.out HB.out.size) j x hx
      have HX := Lib.hid hx
      obtain ⟨fr, ca, va, tt⟩ := x
      dsimp only at f0 f1 f2 f3
      have HRc : Hid (Rg ca) := hrx.2.1
      obtain ⟨W2, hW2⟩ : ∃ W2, W2 = wr.alloc (.cells #[.int .i64 fr, .int .i64 ca, .int .i64 va, .int .i64 tt] 116) := ⟨_, rfl⟩
      have hb2 : Below wr.heap.size wr W2 := by rw [hW2]; exact (Below.refl _ _).alloc (Nat.le_refl _) _
      have HB2 : Hid (Below W1.heap.size W1 W2) := HB.out.trans (hb2.mono HB.out.size)
      have HR2 : Hid (Row W2 wr.heap.size 116 #[.int .i64 fr, .int .i64 ca, .int .i64 va, .int .i64 tt]) := by rw [hW2]; exact Row.new _ _ _
      have HW2 := Lib.hid hW2
      have HT : Hid (trOk acc.length ⟨fr, ca, va, tt⟩ = (decide (0 ≤ fr ∧ fr < (acc.length : Int)) && (decide (0 ≤ tt ∧ tt < (acc.length : Int)) && (decide (0 ≤ ca ∧ ca ≤ 7) && inside va ca)))) := rfl
      have HFail : Hid (trOk acc.length ⟨fr, ca, va, tt⟩ = false → auOk ⟨ini, acc, es⟩ = false) := fun h => by
        rw [HT2.out, trsOk_false HX.out h, Bool.and_false]
      have HK2 : Hid (trOk acc.length ⟨fr, ca, va, tt⟩ = true → ∀ q (e : Tr), es[q]? = some e → q < j + 1 → trOk acc.length e = true) := fun ht q e he hq => by
        by_cases h : q = j
        · subst h
          have h1 := HX.out
          rw [he] at h1
          injection h1 with h1
          rw [h1]
          exact ht
        · exact HK.out q e he (by omega)
      obtain ⟨g0, g1, g2⟩ := (HRa.out.under HB.out HRa.out.lt).three
      obtain ⟨t1, ht1⟩ : ∃ t, t = decide (0 ≤ fr ∧ fr < (acc.length : Int)) := ⟨_, rfl⟩
      obtain ⟨t2, ht2⟩ : ∃ t, t = decide (0 ≤ tt ∧ tt < (acc.length : Int)) := ⟨_, rfl⟩
      obtain ⟨t3, ht3⟩ : ∃ t, t = (decide (0 ≤ ca ∧ ca ≤ 7) && inside va ca) := ⟨_, rfl⟩
      have H1 := Lib.hid ht1
      have H2 := Lib.hid ht2
      have H3 := Lib.hid ht3
      have hlt0 : w.heap.size < W1.heap.size := HRa.out.lt
      have hlt1 : w.heap.size < wr.heap.size := Nat.lt_of_lt_of_le hlt0 HB.out.size
      have hlt2 : wr.heap.size < W2.heap.size := HR2.out.lt
      clear hx hrx hb2 hW2 ht1 ht2 ht3
      go_wp2_with fail
      rw [← HW2.out]
      refine (hasState_any _ A2 acc.length cap2 _ fr _ ⟨_, _, _, rfl⟩ ⟨_, _, _, rfl⟩).mono ?_
      rintro e' w1 ⟨rfl, hb1⟩
      rw [← H1.out]
      have HBx : Hid (Below W2.heap.size W2 w1) := hb1
      clear hb1 g0 g1 g2 f0 f1 f2 f3
      have HB1 : Hid (Below W1.heap.size W1 w1) := HB2.out.trans (HBx.out.mono HB2.out.size)
      cases t1
      · have HF : Hid (auOk ⟨ini, acc, es⟩ = false) := HFail.out (by rw [HT.out, ← H1.out]; rfl)
        go_wp2_with fail
        go_ret
        exact ⟨ret_bool HF.out.symm, HB0.out.trans (HB1.out.mono HB0.out.size)⟩
      obtain ⟨g0, g1, g2⟩ := (HRa.out.under HB1.out HRa.out.lt).three
      obtain ⟨o0, o1, o2, o3⟩ := (HR2.out.under HBx.out HR2.out.lt).four
      go_wp2_with fail
      refine (hasState_any _ A2 acc.length cap2 _ tt _ ⟨_, _, _, rfl⟩ ⟨_, _, _, rfl⟩).mono ?_
      rintro e' w3 ⟨rfl, hb3⟩
      rw [← H2.out]
      have HBy : Hid (Below W2.heap.size W2 w3) := HBx.out.trans (hb3.mono HBx.out.size)
      clear hb3 g0 g1 g2 o0 o1 o2 o3 HB1 HBx
      have HB1 : Hid (Below W1.heap.size W1 w3) := HB2.out.trans (HBy.out.mono HB2.out.size)
      cases t2
      · have HF : Hid (auOk ⟨ini, acc, es⟩ = false) := HFail.out (by rw [HT.out, ← H1.out, ← H2.out]; rfl)
        go_wp2_with fail
        go_ret
        exact ⟨ret_bool HF.out.symm, HB0.out.trans (HB1.out.mono HB0.out.size)⟩
      obtain ⟨o0, o1, o2, o3⟩ := (HR2.out.under HBy.out HR2.out.lt).four
      go_wp2_with fail
      refine (condition_any fr ca va tt _).mono ?_
      rintro e' w4 ⟨rfl, hb4⟩
      have HB4 : Hid (Below W1.heap.size W1 w4) := HB1.out.trans (hb4.mono HB1.out.size)
      clear hb4 o0 o1 o2 o3 HB1 HBy
      go_wp2_with fail
      refine (condValid_any ca va _ HRc.out).mono ?_
      rintro e' w5 ⟨rfl, hb5⟩
      rw [← H3.out]
      have HB5 : Hid (Below W1.heap.size W1 w5) := HB4.out.trans (hb5.mono HB4.out.size)
      clear hb5 HB4
      cases t3
      · have HF : Hid (auOk ⟨ini, acc, es⟩ = false) := HFail.out (by rw [HT.out, ← H1.out, ← H2.out, ← H3.out]; rfl)
        go_wp2_with fail
        go_ret
        exact ⟨ret_bool HF.out.symm, HB0.out.trans (HB5.out.mono HB0.out.size)⟩
      have HK3 := Lib.hid (HK2.out (by rw [HT.out, ← H1.out, ← H2.out, ← H3.out]; rfl))
      go_wp2_with fail
      go_roundw
      case rel => exact ⟨j + 1, by omega, by go_num, HK3, HB5⟩
      case measure => simp [intOf]; omega
    · have hjj : j = es.length := by omega
      subst hjj
      have HF : Hid (auOk ⟨ini, acc, es⟩ = asc acc.length ini) := by
        show _ = _
        rw [HT2.out, trsOk_true fun i e he => HK.out i e he (List.getElem?_eq_some_iff.1 he).1, Bool.and_true]
      obtain ⟨g0, g1, g2⟩ := (HRa.out.under HB.out HRa.out.lt).three
      have HI2 := Lib.hid (HI.out.under HB.out HB.out.size)
      obtain ⟨u, hu⟩ : ∃ u, u = asc acc.length ini := ⟨_, rfl⟩
      have HU := Lib.hid hu
      clear hu
      go_wp2_with fail
      refine (ascB_any ini acc.length A cap b off _ HLi.out HI2.out).mono ?_
      rintro e' w2 ⟨rfl, rfl⟩
      rw [← HU.out]
      go_wp2_with fail
      go_ret
      exact ⟨ret_bool (by rw [HF.out, ← HU.out]), HB0.out.trans (HB.out.mono HB0.out.size)⟩

end Go.Proofs.Ytldnegacgjijlaa

/- Joined texts: Gc, Pw. Nothing is assumed. -/
import Derived.Test.YtldnegacgjijlaaGv0Q
import Derived.Test.YtldnegacgjijlaaPvQ
namespace Go.Proofs.Ytldnegacgjijlaa
open Go.RowKit

set_option maxHeartbeats 400000 in
theorem contains_any (zs : List Int) (n : Int) (A : Option Addr) (cap b off : Nat) (w : World) (hl : zs.length ≤ maxLen) (hI : Ints w w.heap.size A b off zs) :
    Calls Try.prog 148 #[.slice A zs.length cap, .int .i64 n] w fun e' w' => e' = .returned (.bool (inB zs n)) ∧ w = w' := by
  have HI := Lib.hid hI
  have HL := Lib.hid hl
  clear hI hl
  go_enter Try.func148, Try.ntmps148
  go_wp2_with fail
  refine (index_any zs n A cap b off w HL.out HI.out).mono ?_
  rintro e' w1 ⟨⟨r, rfl, hr⟩, rfl⟩
  obtain ⟨hr, _⟩ := hr
  have HR := Lib.hid hr
  clear hr
  go_wp2_with fail
  go_ret
  exact ⟨ret_bool HR.out, rfl⟩

end Go.Proofs.Ytldnegacgjijlaa
namespace Go.Proofs.Ytldnegacgjijlaa
open Go.RowKit

set_option maxHeartbeats 2000000 in
set_option maxRecDepth 100000 in
theorem implPv_any (e : Gp) (C : Nat → Value) (p : List Int) (P : Option Addr) (capP bp op : Nat) (w : World) (hL : Lay.gra.lies w w.heap.size e C) (hl : p.length ≤ maxLen) (hI : Ints w w.heap.size P bp op p) :
    Calls Try.prog 129 #[.agg #[C 0, C 1], .slice P p.length capP] w fun e' w' => e' = .returned (.bool (pathOk e p)) ∧ Below w.heap.size w w' := by
  obtain ⟨W1, hW1⟩ : ∃ W1, W1 = w.alloc (.cells #[C 0, C 1] 69) := ⟨_, rfl⟩
  have hra : Row W1 w.heap.size 69 #[C 0, C 1] := by rw [hW1]; exact Row.new _ _ _
  have hb0 : Below w.heap.size w W1 := by rw [hW1]; exact (Below.refl _ _).alloc (Nat.le_refl _) _
  have HL := Lib.hid (Lay.gra.later hL hb0 hb0.size)
  have HI0 := Lib.hid (hI.under hb0 hb0.size)
  have HW1 := Lib.hid hW1
  have HB0 := Lib.hid hb0
  have HRa := Lib.hid hra
  have HF : Hid (pathOk e p = (grOk e && (decide (0 < p.length) && (List.range p.length).all (stepOk e p)))) := rfl
  obtain ⟨v, hv⟩ : ∃ v, v = grOk e := ⟨_, rfl⟩
  have HV := Lib.hid hv
  unfold maxLen at hl
  clear hL hI hW1 hra hb0 hv
  go_enter Try.func129, Try.ntmps129
  go_wp2_with fail
  rw [← HW1.out]
  refine (implGrV_any e C W1 HL.out).mono ?_
  rintro e' w1 ⟨rfl, hb1⟩
  rw [← HV.out]
  have HB1 : Hid (Below w.heap.size w w1) := HB0.out.trans (hb1.mono HB0.out.size)
  cases v
  · clear hb1
    go_wp2_with fail
    go_ret
    exact ⟨ret_bool (by rw [HF.out, ← HV.out]; rfl), HB1.out⟩
  by_cases hp0 : p.length = 0
  · have hp1 : ((p.length : Int) == 0) = true := by rw [hp0]; rfl
    clear hb1
    go_wp2_with fail
    go_ret
    exact ⟨ret_bool (by rw [HF.out, decide_eq_false (show ¬ 0 < p.length by omega), Bool.false_and, Bool.and_false]), HB1.out⟩
  have hp1 : ((p.length : Int) == 0) = false := beq_eq_false_iff_ne.2 (by omega)
  have HF2 : Hid (pathOk e p = (List.range p.length).all (stepOk e p)) := by show _ = _; rw [HF.out, ← HV.out, decide_eq_true (show 0 < p.length by omega)]; rfl
  have HLn := Lib.hid (grOk_len HV.out.symm)
  have hL1 := Lay.gra.later HL.out hb1 hb1.size
  have HI := Lib.hid (HI0.out.under hb1 hb1.size)
  have hr1 := HRa.out.under hb1 HRa.out.lt
  obtain ⟨sts, nxt⟩ := e
  obtain ⟨⟨A2, cap2, b2, off2, E2, q2, hl2, hO2⟩, A3, cap3, b3, off3, E3, q3, hl3, hO3⟩ := gra_lies hL1
  rw [q2, q3] at hr1
  have HR1 := Lib.hid hr1
  have H3 := Lib.hid hO3
  unfold maxLen at hl2 hl3
  clear hb1 hL1 hr1 HL HRa HW1 HI0 HF q2 q3 hO2 hO3
  go_wp2_with fail
  go_loopw [17] (fun i wl => ∃ j : Nat, j ≤ p.length ∧ i = .int .i64 j ∧ Hid (∀ i, i < j → stepOk ⟨sts, nxt⟩ p i = true) ∧ Hid (Below w1.heap.size w1 wl)) (fun i _ => p.length - (intOf i).toNat)
  case atStart => exact ⟨0, Nat.zero_le _, rfl, fun i h => absurd h (Nat.not_lt_zero i), Below.refl _ _⟩
  case round =>
    obtain ⟨j, hj, rfl, HS, HB⟩ := hrel
    have HBw : Hid (Below w.heap.size w wr) := HB1.out.trans (HB.out.mono HB1.out.size)
    by_cases hlt : j < p.length
    · obtain ⟨z, hz⟩ : ∃ z, p[j]? = some z := ⟨_, List.getElem?_eq_getElem hlt⟩
      obtain ⟨rfl, hb, c0⟩ := HI.out.under HB.out HB.out.size j z hz
      obtain ⟨g0, g1⟩ := (HR1.out.under HB.out HR1.out.lt).two
      have HZ := Lib.hid hz
      clear hz
      obtain ⟨s, hs⟩ : ∃ s, s = inOk sts.length z := ⟨_, rfl⟩
      have HSt := Lib.hid hs
      clear hs
      go_wp2_with fail
      refine (hasState_any _ sts.length _ _ _ _ z wr).mono ?_
      rintro e' w2 ⟨rfl, hb2⟩
      rw [← HSt.out]
      have HB2 : Hid (Below w1.heap.size w1 w2) := HB.out.trans (hb2.mono HB.out.size)
      have HBx : Hid (Below w.heap.size w w2) := HB1.out.trans (HB2.out.mono HB1.out.size)
      clear hb2 g0 g1 c0 HB HBw
      cases s
      · have HF3 := Lib.hid (path_false HZ.out (step_out (g := ⟨sts, nxt⟩) HZ.out HSt.out.symm))
        go_wp2_with fail
        go_ret
        exact ⟨ret_bool (by rw [HF2.out, HF3.out]), HBx.out⟩
      by_cases hj0 : j = 0
      · subst hj0
        have HS2 : Hid (∀ i, i < 0 + 1 → stepOk ⟨sts, nxt⟩ p i = true) := fun i hi => by
          obtain rfl : i = 0 := by omega
          exact (step_first HZ.out).trans HSt.out.symm
        go_wp2_with fail
        go_quiet (fail)
        go_wp2_with fail
        go_roundw
        case rel => exact ⟨0 + 1, by omega, by go_num, HS2, below_drewN HB2.out _⟩
        case measure => simp [intOf]; omega
      have hjN : 0 < j := by omega
      have hjI : (0 : Int) < (j : Int) := by omega
      have hjB : decide (0 < j) = true := decide_eq_true hjN
      obtain ⟨y0, hy0⟩ : ∃ y0, p[j - 1]? = some y0 := ⟨_, List.getElem?_eq_getElem (by omega)⟩
      obtain ⟨y, rfl, hy⟩ := inOk_nat (step_in hy0 (HS.out (j - 1) (by omega)))
      obtain ⟨_, _, c1⟩ := HI.out.under HB2.out HB2.out.size (j - 1) _ hy0
      obtain ⟨g0, g1⟩ := (HR1.out.under HB2.out HR1.out.lt).two
      have hy' : y < nxt.length := by have := HLn.out; dsimp only at this hy; omega
      dsimp only at hy
      obtain ⟨x, hx⟩ : ∃ x, nxt[y]? = some x := ⟨_, List.getElem?_eq_getElem hy'⟩
      obtain ⟨rfl, hb3, fc, fl⟩ := (H3.out.grow HB2.out HB2.out.size) y x hx
      obtain ⟨A6, cap6, b6, off6, k2, hl6, hI6⟩ := ints_lies fl
      have d0 : w2.cell? ⟨b3, off3 + y, none⟩ = some (E3 y 0) := by have h := fc 0 (by decide); rw [show Lay.ints.st = 1 from rfl, Nat.mul_one] at h; exact h
      rw [k2] at d0
      obtain ⟨u, hu⟩ : ∃ u, u = inB x z := ⟨_, rfl⟩
      have HK : Hid (∀ q, Calls Try.prog 148 #[.slice A6 x.length cap6, .int .i64 z] (w2.drewN q) fun e' w' => e' = .returned (.bool u) ∧ w2.drewN q = w') := fun q => by
        rw [hu]; exact contains_any x z _ cap6 b6 off6 _ hl6 (hI6.under (below_drewN (Below.refl _ _) q) (Nat.le_refl _))
      have HU : Hid (stepOk ⟨sts, nxt⟩ p j = u) := by show _ = _; rw [hu]; exact step_next HZ.out (by omega) hy0 hx HSt.out.symm
      unfold maxLen at hl6
      clear fc fl k2 hI6 hu hy0 hx
      cases u
      · have HF3 := Lib.hid (path_false HZ.out HU.out)
        go_wp2_with fail
        go_quiet ((go_at_call 148; exact quiet_left (HK.out _)))
        go_wp2_with fail
        go_ret
        exact ⟨ret_bool (by rw [HF2.out, HF3.out]), below_drewN HBx.out _⟩
      · have HS2 : Hid (∀ i, i < j + 1 → stepOk ⟨sts, nxt⟩ p i = true) := fun i hi => by
          by_cases e : i = j
          · subst e; exact HU.out
          · exact HS.out i (by omega)
        go_wp2_with fail
        go_quiet ((go_at_call 148; exact quiet_left (HK.out _)))
        go_wp2_with fail
        go_roundw
        case rel => exact ⟨j + 1, by omega, by go_num, HS2, below_drewN HB2.out _⟩
        case measure => simp [intOf]; omega
    · have hjj : j = p.length := by omega
      subst hjj
      have HFu := Lib.hid (path_true HS.out)
      go_wp2_with fail
      go_ret
      exact ⟨ret_bool (by rw [HF2.out, HFu.out]), HBw.out⟩

end Go.Proofs.Ytldnegacgjijlaa

/- The walks of spec.GraphValid and impl.GraphValid. -/
import Derived.Test.YtldnegacgjijlaaJ10
import Derived.Test.YtldnegacgjijlaaGv0Q
import Derived.Deep.RegionHeld3
import Derived.Deep.RegionWith
import Derived.Deep.Cut
import Derived.Deep.CutRange
namespace Go.Proofs.Ytldnegacgjijlaa
open Go.RowKit

theorem node_vals {n : Nat} {s : St} {x : List Int} (h : valsOk s.vals = false) : nodeOk n (s, x) = false := by unfold nodeOk; rw [h]; rfl
theorem node_sucs {n : Nat} {s : St} {x : List Int} (h : (decide (0 < x.length) && sucsOk n x) = false) : nodeOk n (s, x) = false := by unfold nodeOk; rw [h, Bool.and_false]

set_option maxHeartbeats 2000000 in
set_option maxRecDepth 100000 in
theorem implGrV_any (e : Gp) (C : Nat → Value) (w : World) (hL : Lay.gra.lies w w.heap.size e C) :
    Calls Try.prog 81 #[.agg #[C 0, C 1]] w fun e' w' => e' = .returned (.bool (grOk e)) ∧ Below w.heap.size w w' := by
  obtain ⟨W1, hW1⟩ : ∃ W1, W1 = w.alloc (.cells #[C 0, C 1] 69) := ⟨_, rfl⟩
  have hra : Row W1 w.heap.size 69 #[C 0, C 1] := by rw [hW1]; exact Row.new _ _ _
  have hb0 : Below w.heap.size w W1 := by rw [hW1]; exact (Below.refl _ _).alloc (Nat.le_refl _) _
  obtain ⟨sts, nxt⟩ := e
  obtain ⟨⟨A2, cap2, b2, off2, E2, q2, hl2, hO2⟩, A3, cap3, b3, off3, E3, q3, hl3, hO3⟩ := gra_lies (Lay.gra.later hL hb0 hb0.size)
  rw [q2, q3] at hra hW1
  rw [q2, q3]
  have HW1 := Lib.hid hW1
  have HB0 := Lib.hid hb0
  have HRa := Lib.hid hra
  have H2 := Lib.hid hO2
  have H3 := Lib.hid hO3
  unfold maxLen at hl2 hl3
  have HF : Hid (grOk ⟨sts, nxt⟩ = (decide (1 ≤ sts.length) && (decide (sts.length ≤ 60) && (decide (nxt.length = sts.length) && (sts.zip nxt).all (nodeOk sts.length))))) := rfl
  clear hL hW1 hb0 hra q2 q3 hO2 hO3
  by_cases hn0 : sts.length < 1
  case pos =>
    go_enter Try.func81, Try.ntmps81
    go_wp2_with fail
    go_ret
    rw [← HW1.out]
    exact ⟨ret_bool (by rw [HF.out, decide_eq_false (show ¬ 1 ≤ sts.length by omega)]; rfl), HB0.out⟩
  by_cases hn1 : 60 < sts.length
  case pos =>
    go_enter Try.func81, Try.ntmps81
    go_wp2_with fail
    go_ret
    rw [← HW1.out]
    exact ⟨ret_bool (by rw [HF.out, decide_eq_false (show ¬ sts.length ≤ 60 by omega), Bool.false_and, Bool.and_false]), HB0.out⟩
  by_cases hlen : nxt.length = sts.length
  case neg =>
    have hlenJ : ((nxt.length : Int) != (sts.length : Int)) = true := by simp; omega
    go_enter Try.func81, Try.ntmps81
    go_wp2_with fail
    go_ret
    rw [← HW1.out]
    exact ⟨ret_bool (by rw [HF.out, decide_eq_false hlen, Bool.false_and, Bool.and_false, Bool.and_false]), HB0.out⟩
  have HF2 : Hid (grOk ⟨sts, nxt⟩ = (sts.zip nxt).all (nodeOk sts.length)) := by show _ = _; rw [HF.out, decide_eq_true (show 1 ≤ sts.length by omega), decide_eq_true (show sts.length ≤ 60 by omega), decide_eq_true hlen]; rfl
  rw [hlen] at HW1 HRa ⊢
  have HLn := Lib.hid hlen
  have HNn := Lib.hid hn1
  clear hlen HF hl3
  go_enter Try.func81, Try.ntmps81
  go_wp2_with fail
  rw [← HW1.out]
  go_loopw [27] (fun i wl => ∃ j : Nat, j ≤ sts.length ∧ i = .int .i64 j ∧ Hid (((sts.zip nxt).take j).all (nodeOk sts.length) = true) ∧ Hid (Below W1.heap.size W1 wl)) (fun i _ => sts.length - (intOf i).toNat)
  case atStart => exact ⟨0, Nat.zero_le _, rfl, rfl, Below.refl _ _⟩
  case round =>
    obtain ⟨j, hj, rfl, HT, HB⟩ := hrel
    by_cases hlt : j < sts.length
    · obtain ⟨x, hx⟩ : ∃ x, sts[j]? = some x := ⟨_, List.getElem?_eq_getElem hlt⟩
      have hlp : j < nxt.length := by have := HLn.out; omega
      obtain ⟨y, hy⟩ : ∃ y, nxt[j]? = some y := ⟨_, List.getElem?_eq_getElem hlp⟩
      obtain ⟨rfl, hb, gc, gl⟩ := H2.out.below HB.out j x hx
      obtain ⟨rfl, hb', fc, fl⟩ := H3.out.below HB.out j y hy
      have HZ := Lib.hid (zip_get hx hy)
      have HTs := Lib.hid (alls_take_succ (f := nodeOk sts.length) HZ.out)
      obtain ⟨locs, vals⟩ := x
      obtain ⟨⟨A4, cap4, b4, off4, E4, k0, hl4, hO4⟩, A5, cap5, b5, off5, E5, k1, hl5, hO5⟩ := sta_lies gl
      obtain ⟨A6, cap6, b6, off6, k2, hl6, hI6⟩ := ints_lies fl
      have c0 : wr.cell? ⟨b2, off2 + j * 2, none⟩ = some (E2 j 0) := gc 0 (by decide)
      have c1 : wr.cell? ⟨b2, off2 + j * 2 + 1, none⟩ = some (E2 j 1) := gc 1 (by decide)
      have d0 : wr.cell? ⟨b3, off3 + j, none⟩ = some (E3 j 0) := by have h := fc 0 (by decide); rw [show Lay.ints.st = 1 from rfl, Nat.mul_one] at h; exact h
      rw [k0] at c0
      rw [k1] at c1
      rw [k2] at d0
      obtain ⟨W2, hW2⟩ : ∃ W2, W2 = wr.alloc (.cells #[.slice A4 locs.length cap4, .slice A5 vals.length cap5] 136) := ⟨_, rfl⟩
      have hr2 : Row W2 wr.heap.size 136 #[.slice A4 locs.length cap4, .slice A5 vals.length cap5] := by rw [hW2]; exact Row.new _ _ _
      have hb2 : Below wr.heap.size wr W2 := by rw [hW2]; exact (Below.refl _ _).alloc (Nat.le_refl _) _
      have HW2 := Lib.hid hW2
      have HB2 : Hid (Below W1.heap.size W1 W2) := HB.out.trans (hb2.mono HB.out.size)
      have HB2d : Hid (Below W1.heap.size W1 W2.drew) := HB2.out.drew
      have HBd : Hid (Below wr.heap.size wr W2.drew) := hb2.drew
      have HI5 := Lib.hid (((ints_of hO5).under (Below.refl _ _) HB.out.size).under HBd.out HBd.out.size)
      have HI6 := Lib.hid ((hI6.under (Below.refl _ _) HB.out.size).under HBd.out HBd.out.size)
      obtain ⟨g0, g1⟩ := (HRa.out.under HB2.out HRa.out.lt).two
      obtain ⟨f0, f1⟩ := hr2.two
      have hW2s : W2.heap.size = wr.heap.size + 1 := by rw [hW2]; simp
      have e0 : W2.cell? ⟨b3, off3 + j, none⟩ = some (.slice A6 y.length cap6) := (hb2.cell (p := ⟨b3, off3 + j, none⟩) (show b3 < wr.heap.size by have := HB.out.size; omega)).trans d0
      have HL5 := Lib.hid hl5
      have HL6 := Lib.hid hl6
      have hbs : b2 < wr.heap.size := Nat.lt_of_lt_of_le hb HB.out.size
      have hbs' : b3 < wr.heap.size := Nat.lt_of_lt_of_le hb' HB.out.size
      obtain ⟨v, hv⟩ : ∃ v, v = valsOk vals := ⟨_, rfl⟩
      have HV := Lib.hid hv
      obtain ⟨u, hu⟩ : ∃ u, u = (decide (0 < y.length) && sucsOk sts.length y) := ⟨_, rfl⟩
      have HU := Lib.hid hu
      have HNd : Hid (nodeOk sts.length (⟨locs, vals⟩, y) = (v && u)) := by show _ = _; rw [hv, hu]; rfl
      clear gl fl gc fc hx hy hv hu hW2 hr2 hb2 k0 k1 k2 hO4 hO5 hI6 hl4 hl5 hl6
      cases v
      · go_wp2_with fail
        rw [← HW2.out]
        first
          | go_region_with (
              (go_at_call 102
               refine (implVals_any vals A5 cap5 b5 off5 _ HL5.out HI5.out).mono ?_
               rintro e' w1 ⟨rfl, rfl⟩
               rw [← HV.out]))
          | fail
        all_goals
          (go_wp2_with fail
           go_ret
           exact ⟨ret_bool (by rw [HF2.out, alls_false HZ.out HNd.out]), HB0.out.trans (HB2d.out.mono HB0.out.size)⟩)
      · go_wp2_with fail
        rw [← HW2.out]
        go_region_with (first
          | (go_at_call 102
             refine (implVals_any vals A5 cap5 b5 off5 _ HL5.out HI5.out).mono ?_
             rintro e' w1 ⟨rfl, rfl⟩
             rw [← HV.out])
          | (go_at_call 120
             refine (sucs_any y _ sts.length _ _ _ _ _ cap6 b6 off6 _ (by have := HNn.out; omega) HL6.out HI6.out).mono ?_
             rintro e' w1 ⟨rfl, hb1⟩
             rw [← HU.out]
             have HB3 : Hid (Below W1.heap.size W1 w1) := HB2d.out.trans (hb1.mono HB2d.out.size)
             clear hb1))
        all_goals
          (cases u
           · go_wp2_with fail
             go_ret
             exact ⟨ret_bool (by rw [HF2.out, alls_false HZ.out HNd.out]), HB0.out.trans (HB3.out.mono HB0.out.size)⟩
           · have HT2 : Hid (((sts.zip nxt).take (j + 1)).all (nodeOk sts.length) = true) := by show _ = _; rw [HTs.out, HT.out]; exact HNd.out
             go_wp2_with fail
             go_roundw
             case rel => exact ⟨j + 1, by omega, by go_num, HT2, HB3⟩
             case measure => simp [intOf]; omega)
    · have hjj : j = sts.length := by omega
      subst hjj
      have HFu : Hid ((sts.zip nxt).all (nodeOk sts.length) = true) := by
        have := HT.out
        have h := zip_len2 HLn.out.symm
        rw [h, List.take_length] at this
        rw [← h] at this
        exact this
      go_wp2_with fail
      go_ret
      exact ⟨ret_bool (by rw [HF2.out, HFu.out]), HB0.out.trans (HB.out.mono HB0.out.size)⟩

end Go.Proofs.Ytldnegacgjijlaa

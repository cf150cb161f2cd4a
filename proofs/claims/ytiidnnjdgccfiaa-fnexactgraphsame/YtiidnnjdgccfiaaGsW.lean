/- spec.GraphSame and impl.GraphSame. -/
import Derived.Test.YtiidnnjdgccfiaaGsV
import Derived.Deep.RegionHeld3
import Derived.Deep.RegionWith
namespace Go.Proofs.Ytiidnnjdgccfiaa
open Go.RowKit

set_option maxHeartbeats 1000000 in
set_option maxRecDepth 100000 in
theorem specGrS_any (e : Gp) (C : Nat → Value) (f : Gp) (D : Nat → Value) (w : World) (hL : Lay.gra.lies w w.heap.size e C) (hM : Lay.gra.lies w w.heap.size f D) (hd : Lay.gra.sz e ≤ 1048576) (hd' : Lay.gra.sz f ≤ 1048576) :
    Calls Try.prog 13 #[.agg #[C 0, C 1], .agg #[D 0, D 1]] w fun e' w' => e' = .returned (.bool (grSame e f)) ∧ Below w.heap.size w w' := by
  obtain ⟨W1, hW1⟩ : ∃ W1, W1 = (w.alloc (.cells #[C 0, C 1] 30)).alloc (.cells #[D 0, D 1] 30) := ⟨_, rfl⟩
  have hrows := two_boxes w 30 #[C 0, C 1] #[D 0, D 1]
  rw [← hW1] at hrows
  obtain ⟨hra, hrb, hb0⟩ := hrows
  rw [gra_sz] at hd hd'
  obtain ⟨sts, nxt⟩ := e
  obtain ⟨sts', nxt'⟩ := f
  obtain ⟨⟨A2, cap2, b2, off2, E2, q2, hl2, hO2⟩, A3, cap3, b3, off3, E3, q3, hl3, hO3⟩ := gra_lies (Lay.gra.later hL hb0 hb0.size)
  obtain ⟨⟨A4, cap4, b4, off4, E4, q4, hl4, hO4⟩, A5, cap5, b5, off5, E5, q5, hl5, hO5⟩ := gra_lies (Lay.gra.later hM hb0 hb0.size)
  rw [q2, q3] at hra
  rw [q4, q5] at hrb
  rw [q2, q3, q4, q5] at hW1 ⊢
  have HW1 := Lib.hid hW1
  have HB0 := Lib.hid hb0
  have HRa := Lib.hid hra
  have HRb := Lib.hid hrb
  have H2 := Lib.hid hO2
  have H3 := Lib.hid hO3
  have H4 := Lib.hid hO4
  have H5 := Lib.hid hO5
  have HSa : Hid (∀ x, x ∈ sts → Lay.sta.sz x ≤ 1048576) := fun x hx => by
    obtain ⟨i, hi⟩ := List.getElem?_of_mem hx
    have := Lay.sta.szL_mem hi
    dsimp only at hd
    omega
  have HSb : Hid (∀ x, x ∈ sts' → Lay.sta.sz x ≤ 1048576) := fun x hx => by
    obtain ⟨i, hi⟩ := List.getElem?_of_mem hx
    have := Lay.sta.szL_mem hi
    dsimp only at hd'
    omega
  unfold maxLen at hl2 hl3 hl4 hl5
  have HF : Hid (grSame ⟨sts, nxt⟩ ⟨sts', nxt'⟩ = (decide (sts.length = sts'.length) && (decide (nxt.length = nxt'.length) && (stsSame sts sts' && nxtSame nxt nxt')))) := rfl
  clear hL hM hW1 hb0 hra hrb q2 q3 q4 q5 hO2 hO3 hO4 hO5 hd hd'
  by_cases hlen : sts.length = sts'.length
  case neg =>
    have hlenI : ¬ ((sts.length : Int) = (sts'.length : Int)) := by omega
    obtain ⟨g0, g1⟩ := HRa.out.two
    obtain ⟨f0, f1⟩ := HRb.out.two
    go_enter Try.func13, Try.ntmps13
    go_wp2_with fail
    go_ret
    rw [← HW1.out]
    exact ⟨ret_bool (by rw [HF.out, decide_eq_false hlen]; rfl), HB0.out⟩
  rw [← hlen] at HW1 HRb ⊢
  have HLn := Lib.hid hlen
  clear hlen
  by_cases hlen2 : nxt.length = nxt'.length
  case neg =>
    have hlenJ : ¬ ((nxt.length : Int) = (nxt'.length : Int)) := by omega
    go_enter Try.func13, Try.ntmps13
    go_wp2_with fail
    go_ret
    rw [← HW1.out]
    exact ⟨ret_bool (by rw [HF.out, decide_eq_false hlen2, decide_eq_true HLn.out]; rfl), HB0.out⟩
  rw [← hlen2] at HW1 HRb ⊢
  have HF2 : Hid (grSame ⟨sts, nxt⟩ ⟨sts', nxt'⟩ = (stsSame sts sts' && nxtSame nxt nxt')) := by show _ = _; rw [HF.out, decide_eq_true HLn.out, decide_eq_true hlen2]; rfl
  have HLm := Lib.hid hlen2
  clear hlen2 HF
  go_enter Try.func13, Try.ntmps13
  go_wp2_with fail
  rw [← HW1.out]
  go_loopw [5] (fun i wl => ∃ j : Nat, j ≤ sts.length ∧ i = .int .i64 j ∧ Hid (((sts.zip sts').take j).all (fun q => stSame q.1 q.2) = true) ∧ Hid (Below W1.heap.size W1 wl)) (fun i _ => sts.length - (intOf i).toNat)
  case atStart => exact ⟨0, Nat.zero_le _, rfl, rfl, Below.refl _ _⟩
  case round =>
    obtain ⟨j, hj, rfl, HT, HB⟩ := hrel
    have hra2 := HRa.out.under HB.out HRa.out.lt
    have hrb2 := HRb.out.under HB.out HRb.out.lt
    obtain ⟨g0, g1⟩ := hra2.two
    obtain ⟨f0, f1⟩ := hrb2.two
    have HBw : Hid (Below w.heap.size w wr) := HB0.out.trans (HB.out.mono HB0.out.size)
    by_cases hlt : j < sts.length
    · obtain ⟨x, hx⟩ : ∃ x, sts[j]? = some x := ⟨_, List.getElem?_eq_getElem hlt⟩
      have hlp : j < sts'.length := by have := HLn.out; omega
      obtain ⟨y, hy⟩ : ∃ y, sts'[j]? = some y := ⟨_, List.getElem?_eq_getElem hlp⟩
      obtain ⟨rfl, hb, gc, gl⟩ := H2.out.below HB.out j x hx
      obtain ⟨rfl, hb', fc, fl⟩ := H4.out.below HB.out j y hy
      have c0 : wr.cell? ⟨b2, off2 + j * 2, none⟩ = some (E2 j 0) := gc 0 (by decide)
      have c1 : wr.cell? ⟨b2, off2 + j * 2 + 1, none⟩ = some (E2 j 1) := gc 1 (by decide)
      have d0 : wr.cell? ⟨b4, off4 + j * 2, none⟩ = some (E4 j 0) := fc 0 (by decide)
      have d1 : wr.cell? ⟨b4, off4 + j * 2 + 1, none⟩ = some (E4 j 1) := fc 1 (by decide)
      have HG : Hid (Lay.sta.lies wr.drew wr.drew.heap.size x (E2 j)) := Lay.sta.later (Lay.sta.more gl HB.out.size) (Below.refl _ _).drew (Nat.le_refl _)
      have HG' : Hid (Lay.sta.lies wr.drew wr.drew.heap.size y (E4 j)) := Lay.sta.later (Lay.sta.more fl HB.out.size) (Below.refl _ _).drew (Nat.le_refl _)
      have HZ := Lib.hid (zip_get hx hy)
      have hsx := HSa.out x (List.mem_of_getElem? hx)
      have hsy := HSb.out y (List.mem_of_getElem? hy)
      obtain ⟨v, hv⟩ : ∃ v, v = stSame x y := ⟨_, rfl⟩
      have HV := Lib.hid hv
      have HTs := Lib.hid (alls_take_succ (f := fun q : St × St => stSame q.1 q.2) HZ.out)
      clear gl fl gc fc hx hy hv hra2 hrb2
      go_wp2_with fail
      go_region_with (
        (go_at_call 36
         refine (specStS_any x (E2 j) y (E4 j) _ HG.out HG'.out hsx hsy).mono ?_
         rintro e' w1 ⟨rfl, hb1⟩
         rw [← HV.out]
         have HB1 : Hid (Below W1.heap.size W1 w1) := HB.out.trans (((Below.refl _ _).drew.trans hb1).mono HB.out.size)
         clear hb1))
      all_goals
        (cases v
         · go_wp2_with fail
           go_ret
           exact ⟨ret_bool (by rw [HF2.out, show stsSame sts sts' = false from alls_false (f := fun q : St × St => stSame q.1 q.2) HZ.out HV.out.symm]; rfl), HB0.out.trans (HB1.out.mono HB0.out.size)⟩
         · have HT2 : Hid (((sts.zip sts').take (j + 1)).all (fun q => stSame q.1 q.2) = true) := by show _ = _; rw [HTs.out, HT.out]; exact HV.out.symm
           go_wp2_with fail
           go_roundw
           case rel => exact ⟨j + 1, by omega, by go_num, HT2, HB1⟩
           case measure => simp [intOf]; omega)
    · have hjj : j = sts.length := by omega
      subst hjj
      have HFt : Hid (grSame ⟨sts, nxt⟩ ⟨sts', nxt'⟩ = nxtSame nxt nxt') := by
        have := HT.out
        rw [zip_len HLn.out, List.take_length] at this
        show _ = _
        rw [HF2.out, show stsSame sts sts' = true from this]
        rfl
      have HBs := Lib.hid HB.out.size
      clear hra2 hrb2 HT
      go_wp2_with fail
      go_loopw [6] (fun i wl => ∃ j : Nat, j ≤ nxt.length ∧ i = .int .i64 j ∧ Hid (((nxt.zip nxt').take j).all (fun q => intsSame q.1 q.2) = true) ∧ Hid (Below W1.heap.size W1 wl)) (fun i _ => nxt.length - (intOf i).toNat)
      case atStart => exact ⟨0, Nat.zero_le _, rfl, rfl, HB⟩
      case round =>
        clear g0 g1 f0 f1 HB HBw HBs
        obtain ⟨j, hj, rfl, HT, HB⟩ := hrel
        obtain ⟨g0, g1⟩ := (HRa.out.under HB.out HRa.out.lt).two
        obtain ⟨f0, f1⟩ := (HRb.out.under HB.out HRb.out.lt).two
        by_cases hlt : j < nxt.length
        · obtain ⟨x, hx⟩ : ∃ x, nxt[j]? = some x := ⟨_, List.getElem?_eq_getElem hlt⟩
          have hlp : j < nxt'.length := by have := HLm.out; omega
          obtain ⟨y, hy⟩ : ∃ y, nxt'[j]? = some y := ⟨_, List.getElem?_eq_getElem hlp⟩
          obtain ⟨rfl, hb, gc, gl⟩ := H3.out.below HB.out j x hx
          obtain ⟨rfl, hb', fc, fl⟩ := H5.out.below HB.out j y hy
          have c0 : wr.cell? ⟨b3, off3 + j, none⟩ = some (E3 j 0) := by have h := gc 0 (by decide); rw [show Lay.ints.st = 1 from rfl, Nat.mul_one] at h; exact h
          have d0 : wr.cell? ⟨b5, off5 + j, none⟩ = some (E5 j 0) := by have h := fc 0 (by decide); rw [show Lay.ints.st = 1 from rfl, Nat.mul_one] at h; exact h
          have HG : Hid (Lay.ints.lies wr.drew wr.drew.heap.size x (E3 j)) := Lay.ints.later (Lay.ints.more gl HB.out.size) (Below.refl _ _).drew (Nat.le_refl _)
          have HG' : Hid (Lay.ints.lies wr.drew wr.drew.heap.size y (E5 j)) := Lay.ints.later (Lay.ints.more fl HB.out.size) (Below.refl _ _).drew (Nat.le_refl _)
          have HZ := Lib.hid (zip_get hx hy)
          obtain ⟨v, hv⟩ : ∃ v, v = intsSame x y := ⟨_, rfl⟩
          have HV := Lib.hid hv
          have HTs := Lib.hid (alls_take_succ (f := fun q : (List Int) × (List Int) => intsSame q.1 q.2) HZ.out)
          clear gl fl gc fc hx hy hv
          go_wp2_with fail
          go_region_with (
            (go_at_call 37
             refine (specIsS_any x y (E3 j) (E5 j) _ HG.out HG'.out).mono ?_
             rintro e' w1 ⟨rfl, hb1⟩
             rw [← HV.out]
             have HB1 : Hid (Below W1.heap.size W1 w1) := HB.out.trans (((Below.refl _ _).drew.trans hb1).mono HB.out.size)
             clear hb1))
          all_goals
            (cases v
             · go_wp2_with fail
               go_ret
               exact ⟨ret_bool (by rw [HFt.out, show nxtSame nxt nxt' = false from alls_false (f := fun q : (List Int) × (List Int) => intsSame q.1 q.2) HZ.out HV.out.symm]), HB0.out.trans (HB1.out.mono HB0.out.size)⟩
             · have HT2 : Hid (((nxt.zip nxt').take (j + 1)).all (fun q => intsSame q.1 q.2) = true) := by show _ = _; rw [HTs.out, HT.out]; exact HV.out.symm
               go_wp2_with fail
               go_roundw
               case rel => exact ⟨j + 1, by omega, by go_num, HT2, HB1⟩
               case measure => simp [intOf]; omega)
        · have hjj : j = nxt.length := by omega
          subst hjj
          have HFu : Hid (nxtSame nxt nxt' = true) := by
            have := HT.out
            rw [zip_len HLm.out, List.take_length] at this
            exact this
          go_wp2_with fail
          go_ret
          exact ⟨ret_bool (by rw [HFt.out, HFu.out]), HB0.out.trans (HB.out.mono HB0.out.size)⟩

set_option maxHeartbeats 1000000 in
set_option maxRecDepth 100000 in
theorem implGrS_any (e : Gp) (C : Nat → Value) (f : Gp) (D : Nat → Value) (w : World) (hL : Lay.gra.lies w w.heap.size e C) (hM : Lay.gra.lies w w.heap.size f D) (hd : Lay.gra.sz e ≤ 1048576) (hd' : Lay.gra.sz f ≤ 1048576) :
    Calls Try.prog 14 #[.agg #[C 0, C 1], .agg #[D 0, D 1]] w fun e' w' => e' = .returned (.bool (grSame e f)) ∧ Below w.heap.size w w' := by
  obtain ⟨W1, hW1⟩ : ∃ W1, W1 = (w.alloc (.cells #[C 0, C 1] 30)).alloc (.cells #[D 0, D 1] 30) := ⟨_, rfl⟩
  have hrows := two_boxes w 30 #[C 0, C 1] #[D 0, D 1]
  rw [← hW1] at hrows
  obtain ⟨hra, hrb, hb0⟩ := hrows
  rw [gra_sz] at hd hd'
  obtain ⟨sts, nxt⟩ := e
  obtain ⟨sts', nxt'⟩ := f
  obtain ⟨⟨A2, cap2, b2, off2, E2, q2, hl2, hO2⟩, A3, cap3, b3, off3, E3, q3, hl3, hO3⟩ := gra_lies (Lay.gra.later hL hb0 hb0.size)
  obtain ⟨⟨A4, cap4, b4, off4, E4, q4, hl4, hO4⟩, A5, cap5, b5, off5, E5, q5, hl5, hO5⟩ := gra_lies (Lay.gra.later hM hb0 hb0.size)
  rw [q2, q3] at hra
  rw [q4, q5] at hrb
  rw [q2, q3, q4, q5] at hW1 ⊢
  have HW1 := Lib.hid hW1
  have HB0 := Lib.hid hb0
  have HRa := Lib.hid hra
  have HRb := Lib.hid hrb
  have H2 := Lib.hid hO2
  have H3 := Lib.hid hO3
  have H4 := Lib.hid hO4
  have H5 := Lib.hid hO5
  have HSa : Hid (∀ x, x ∈ sts → Lay.sta.sz x ≤ 1048576) := fun x hx => by
    obtain ⟨i, hi⟩ := List.getElem?_of_mem hx
    have := Lay.sta.szL_mem hi
    dsimp only at hd
    omega
  have HSb : Hid (∀ x, x ∈ sts' → Lay.sta.sz x ≤ 1048576) := fun x hx => by
    obtain ⟨i, hi⟩ := List.getElem?_of_mem hx
    have := Lay.sta.szL_mem hi
    dsimp only at hd'
    omega
  have HSc := Lib.hid hl2
  have HSd := Lib.hid hl4
  have HSe := Lib.hid hl3
  have HSf := Lib.hid hl5
  clear hL hM hW1 hb0 hra hrb q2 q3 q4 q5 hO2 hO3 hO4 hO5 hd hd' hl2 hl3 hl4 hl5
  obtain ⟨u, hu⟩ : ∃ u, u = (decide (sts.length = sts'.length) && stsSame sts sts') := ⟨_, rfl⟩
  obtain ⟨v, hv⟩ : ∃ v, v = (decide (nxt.length = nxt'.length) && nxtSame nxt nxt') := ⟨_, rfl⟩
  have HU := Lib.hid hu
  have HV := Lib.hid hv
  have HF : Hid (grSame ⟨sts, nxt⟩ ⟨sts', nxt'⟩ = (u && v)) := by
    show _ = _
    rw [hu, hv]
    show (decide (sts.length = sts'.length) && (decide (nxt.length = nxt'.length) && (stsSame sts sts' && nxtSame nxt nxt'))) = _
    cases decide (sts.length = sts'.length) <;> cases decide (nxt.length = nxt'.length) <;> cases stsSame sts sts' <;> rfl
  clear hu hv
  go_enter Try.func14, Try.ntmps14
  go_wp2_with fail
  rw [← HW1.out]
  refine (eqfSt_any sts sts' A2 cap2 b2 off2 E2 A4 cap4 b4 off4 E4 W1 HSc.out HSd.out H2.out H4.out HSa.out HSb.out).mono ?_
  rintro e' w1 ⟨rfl, hb1⟩
  rw [← HU.out]
  have HB1 : Hid (Below w.heap.size w w1) := HB0.out.trans (hb1.mono HB0.out.size)
  obtain ⟨g0, g1⟩ := (HRa.out.under hb1 HRa.out.lt).two
  obtain ⟨f0, f1⟩ := (HRb.out.under hb1 HRb.out.lt).two
  have H3' := Lib.hid (H3.out.grow hb1 hb1.size)
  have H5' := Lib.hid (H5.out.grow hb1 hb1.size)
  clear hb1
  cases u
  · go_wp2_with fail
    go_ret
    exact ⟨ret_bool (by rw [HF.out]; rfl), HB1.out⟩
  go_wp2_with fail
  refine (eqfIs_any nxt nxt' A3 cap3 b3 off3 E3 A5 cap5 b5 off5 E5 w1 HSe.out HSf.out H3'.out H5'.out).mono ?_
  rintro e' w2 ⟨rfl, hb2⟩
  rw [← HV.out]
  have HB2 : Hid (Below w.heap.size w w2) := HB1.out.trans (hb2.mono HB1.out.size)
  clear hb2
  go_wp2_with fail
  go_ret
  exact ⟨ret_bool (by rw [HF.out]; rfl), HB2.out⟩

end Go.Proofs.Ytiidnnjdgccfiaa

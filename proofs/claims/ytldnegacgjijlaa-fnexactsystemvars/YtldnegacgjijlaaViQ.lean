/- The walk of impl.SystemVars. -/
import Derived.Test.YtldnegacgjijlaaVnAQ
import Derived.Deep.Cut
import Derived.Deep.CutRange
namespace Go.Proofs.Ytldnegacgjijlaa
open Go.RowKit

set_option maxHeartbeats 4000000 in
set_option maxRecDepth 100000 in
theorem implVarsS_any (s : Sy) (C : Nat → Value) (w : World) (hL : Lay.sy.lies w w.heap.size s C) (hd : Lay.sy.sz s ≤ 1048576) :
    Calls Try.prog 11 #[.agg #[C 0, C 1]] w (VPost s w) := by
  rw [sy_sz] at hd
  obtain ⟨ini, ps⟩ := s
  obtain ⟨⟨A, cap, b, off, E, e0, hl, hO⟩, B, cbp, c, pff, F, e1, hm, hP⟩ := sy_lies hL
  have hL' : Lay.sy.lies w w.heap.size ⟨ini, ps⟩ (fun j => (#[.slice A ini.length cap, .slice B ps.length cbp] : Array Value).getD j undef) := ⟨⟨A, cap, b, off, E, rfl, hl, hO⟩, B, cbp, c, pff, F, rfl, hm, hP⟩
  rw [e0, e1]
  clear e0 e1 hL hO
  unfold maxLen at hm
  obtain ⟨vo, hvo⟩ : ∃ vo, vo = syOk ⟨ini, ps⟩ := ⟨_, rfl⟩
  have HVo := Lib.hid hvo
  obtain ⟨W1, hW1⟩ : ∃ W1, W1 = w.alloc (.cells #[.slice A ini.length cap, .slice B ps.length cbp] 32) := ⟨_, rfl⟩
  have hb0 : Below w.heap.size w W1 := by rw [hW1]; exact (Below.refl _ _).alloc (Nat.le_refl _) _
  have HR0 : Hid (Row W1 w.heap.size 32 #[.slice A ini.length cap, .slice B ps.length cbp]) := by rw [hW1]; exact Row.new _ _ _
  have HL1 := Lib.hid (Lay.sy.later hL' hb0 hb0.size)
  have HP := Lib.hid hP
  have HB0 := Lib.hid hb0
  have HW1 := Lib.hid hW1
  have HD : Hid (Lay.sy.sz ⟨ini, ps⟩ ≤ 1048576) := hd
  clear hP hb0 hW1 hL' hd hvo hl
  go_enter Try.func11, Try.ntmps11
  go_wp2_with fail
  rw [← HW1.out]
  refine (implSy_any ⟨ini, ps⟩ (fun j => (#[.slice A ini.length cap, .slice B ps.length cbp] : Array Value).getD j undef) W1 HL1.out HD.out).mono ?_
  rintro e' w1 ⟨rfl, hb1⟩
  rw [← HVo.out]
  have HB1 := Lib.hid (HB0.out.trans (hb1.mono HB0.out.size))
  have HR1 := Lib.hid (HR0.out.under hb1 HR0.out.lt)
  have hwl : w.heap.size < w1.heap.size := HR1.out.lt
  clear hb1
  cases vo
  · go_wp2_with fail
    refine bodyPost_ret (v := .tuple #[.slice none 0 0, .slice none 0 0]) (by simp [results, Try.results11, go_sem]) rfl ?_
    exact vpost_no HVo.out.symm HB1.out none none 0 0
  have hmk := make_three
  go_upto_region 3 with fail
  go_cut [4, 5] from 13 to 14 (fun r v wx => ∃ gr gw : Nat, r = .slice (some ⟨gr, 0, none⟩) 3 3 ∧ v = .slice (some ⟨gw, 0, none⟩) 3 3 ∧ Hid (gr ≠ gw ∧ w1.heap.size ≤ gr ∧ w1.heap.size ≤ gw ∧ Row wx gr 4 (tri fun _ => false) ∧ Row wx gw 4 (tri fun _ => false) ∧ Below w1.heap.size w1 wx))
  case first =>
    have HTb := Lib.hid (two_boxes w1 4 (tri fun _ => false) (tri fun _ => false))
    go_region
    all_goals
      (go_wp2_with fail
       go_meet
       first
       | exact ⟨w1.heap.size, w1.heap.size + 1, rfl, rfl, by omega, Nat.le_refl _, by omega, HTb.out.1, HTb.out.2.1, HTb.out.2.2.drew⟩
       | exact ⟨w1.heap.size + 1, w1.heap.size, rfl, rfl, by omega, by omega, Nat.le_refl _, HTb.out.2.1, HTb.out.1, HTb.out.2.2.drew⟩)
  case rest =>
  clear hmk
  obtain ⟨gr, gw, rfl, rfl, H3⟩ := hcut
  obtain ⟨hne, hgr, hgw, hrr, hrw, hbc⟩ := H3.out
  have HBc := Lib.hid (HB1.out.trans (hbc.mono HB1.out.size))
  have HRc := Lib.hid (HR1.out.under hbc HR1.out.lt)
  have HRr := Lib.hid hrr
  have HRw := Lib.hid hrw
  have hgrc : gr < wc.heap.size := hrr.lt
  have hgwc : gw < wc.heap.size := hrw.lt
  have HDp : Hid (Lay.pr.szL ps ≤ 1048576) := by have := HD.out; rw [sy_sz] at this; show _ ≤ _; dsimp only at this; omega
  have HVs : Hid (syOk ⟨ini, ps⟩ = true) := HVo.out.symm
  clear H3 hrr hrw hbc
  obtain ⟨r0, r1⟩ := HRc.out.two
  go_wp2_with fail
  go_loopw [18] (fun i wl => ∃ j : Nat, j ≤ ps.length ∧ i = .int .i64 j ∧ Hid (Row wl gr 4 (tri (rdS (ps.take j)))) ∧ Hid (Row wl gw 4 (tri (wrS (ps.take j)))) ∧ Hid (Two gr gw wc wl)) (fun i _ => ps.length - (intOf i).toNat)
  case atStart => exact ⟨0, Nat.zero_le _, rfl, (by show Row _ _ _ _; rw [tri_false (rdS (ps.take 0)) (fun i => rfl)]; exact HRr.out), (by show Row _ _ _ _; rw [tri_false (wrS (ps.take 0)) (fun i => rfl)]; exact HRw.out), Two.refl _ _ _⟩
  case round =>
    clear r0 r1
    obtain ⟨j, hj, rfl, HA, HB, HT⟩ := hrel
    have HBl := Lib.hid (HBc.out.trans ((HT.out.below (B := w.heap.size) (by omega) (by omega) (by omega))))
    obtain ⟨r0, r1⟩ := (HRc.out.two_ HT.out (by omega) (by omega)).two
    rename World => wo
    have hco : wc.heap.size ≤ wo.heap.size := HT.out.size
    by_cases hlj : j < ps.length
    · obtain ⟨x, hx⟩ : ∃ x, ps[j]? = some x := ⟨_, List.getElem?_eq_getElem hlj⟩
      have hpok := syOk_prs (s := ⟨ini, ps⟩) HVs.out hx
      have hdes : Lay.pr.sz x ≤ 1048576 := by have := Lay.pr.szL_mem hx; have := HDp.out; omega
      rw [pr_sz] at hdes
      have HRj : Hid (∀ i, rdS (ps.take (j + 1)) i = (rdS (ps.take j) i || rdE x.es i)) := fun i => anys_take_succ hx
      have HWj : Hid (∀ i, wrS (ps.take (j + 1)) i = (wrS (ps.take j) i || wrE x.es i)) := fun i => anys_take_succ hx
      obtain ⟨rfl, hbB, gc, gl⟩ := HP.out.below HBl.out j x hx
      have g0 : wo.cell? ⟨c, pff + j * 2, none⟩ = some (F j 0) := gc 0 (by decide)
      have g1 : wo.cell? ⟨c, pff + j * 2 + 1, none⟩ = some (F j 1) := gc 1 (by decide)
      obtain ⟨loc, es⟩ := x
      obtain ⟨u0, A2, cap2, b2, off2, D2, u1, hml, hO2⟩ := pr_lies gl
      unfold maxLen at hml
      rw [u0] at g0
      rw [u1] at g1
      dsimp only at hdes HRj HWj
      have HPok := Lib.hid hpok
      have HDes := Lib.hid hdes
      obtain ⟨W2, hW2⟩ : ∃ W2, W2 = wo.alloc (.cells #[.int .i64 loc, .slice A2 es.length cap2] 97) := ⟨_, rfl⟩
      have hb2 : Below wo.heap.size wo W2 := by rw [hW2]; exact (Below.refl _ _).alloc (Nat.le_refl _) _
      have HRp : Hid (Row W2 wo.heap.size 97 #[.int .i64 loc, .slice A2 es.length cap2]) := by rw [hW2]; exact Row.new _ _ _
      have HO2 := Lib.hid (hO2.below (hb2.mono HBl.out.size))
      have HA2 := Lib.hid (HA.out.under hb2 HA.out.lt)
      have HB2 := Lib.hid (HB.out.under hb2 HB.out.lt)
      have HT2 := Lib.hid (HT.out.trans (Two.of_below hb2))
      have HB2w := Lib.hid (HBl.out.trans (hb2.mono HBl.out.size))
      have HW2 := Lib.hid hW2
      have hoW : wo.heap.size < W2.heap.size := HRp.out.lt
      clear hx hpok hdes gc gl hO2 hb2 hW2 u0 u1 HA HB HT
      go_wp2_with fail
      go_loopw [25] (fun i wl => ∃ k : Nat, k ≤ es.length ∧ i = .int .i64 k ∧ Hid (Row wl gr 4 (tri fun i => rdS (ps.take j) i || rdE (es.take k) i)) ∧ Hid (Row wl gw 4 (tri fun i => wrS (ps.take j) i || wrE (es.take k) i)) ∧ Hid (Two gr gw W2 wl)) (fun i _ => es.length - (intOf i).toNat)
      case atStart =>
        rw [← HW2.out]
        exact ⟨0, Nat.zero_le _, rfl, (by show Row _ _ _ _; rw [tri_congr (m' := rdS (ps.take j)) fun i => by simp [rdE]]; exact HA2.out), (by show Row _ _ _ _; rw [tri_congr (m' := wrS (ps.take j)) fun i => by simp [wrE]]; exact HB2.out), Two.refl _ _ _⟩
      case round =>
        clear g0 g1 r0 r1
        obtain ⟨k, hk, rfl, HA, HB, HT⟩ := hrel
        have hWr : W2.heap.size ≤ wr.heap.size := HT.out.size
        have HBw := Lib.hid (HB2w.out.trans (HT.out.below (B := w.heap.size) (by omega) (by omega) (by omega)))
        by_cases hlt : k < es.length
        · have HOE := HO2.out.below (HT.out.below (B := w.heap.size) (by omega) (by omega) (by omega))
          obtain ⟨y, hy⟩ : ∃ y, es[k]? = some y := ⟨_, List.getElem?_eq_getElem hlt⟩
          have hact := edOk_act (prOk_ed (p := ⟨loc, es⟩) HPok.out hy)
          have hdy : Lay.ed.sz y ≤ 1048576 := by have := Lay.ed.szL_mem hy; have := HDes.out; omega
          rw [ed_sz] at hdy
          have HRd : Hid (∀ i, rdE (es.take (k + 1)) i = (rdE (es.take k) i || rdOne y.g y.vr y.vl i)) := fun i => anys_take_succ hy
          have HWd : Hid (∀ i, wrE (es.take (k + 1)) i = (wrE (es.take k) i || wrOne y.vr i)) := fun i => anys_take_succ hy
          obtain ⟨rfl, hbE, gc, gl⟩ := HOE k y hy
          have h0 : wr.cell? ⟨b2, off2 + k * 10, none⟩ = some (D2 k 0) := gc 0 (by decide)
          have h1 : wr.cell? ⟨b2, off2 + k * 10 + 1, none⟩ = some (D2 k 1) := gc 1 (by decide)
          have h2 : wr.cell? ⟨b2, off2 + k * 10 + 2, none⟩ = some (D2 k 2) := gc 2 (by decide)
          have h3 : wr.cell? ⟨b2, off2 + k * 10 + 3, none⟩ = some (D2 k 3) := gc 3 (by decide)
          have h4 : wr.cell? ⟨b2, off2 + k * 10 + 4, none⟩ = some (D2 k 4) := gc 4 (by decide)
          have h5 : wr.cell? ⟨b2, off2 + k * 10 + 5, none⟩ = some (D2 k 5) := gc 5 (by decide)
          have h6 : wr.cell? ⟨b2, off2 + k * 10 + 6, none⟩ = some (D2 k 6) := gc 6 (by decide)
          have h7 : wr.cell? ⟨b2, off2 + k * 10 + 7, none⟩ = some (D2 k 7) := gc 7 (by decide)
          have h8 : wr.cell? ⟨b2, off2 + k * 10 + 8, none⟩ = some (D2 k 8) := gc 8 (by decide)
          have h9 : wr.cell? ⟨b2, off2 + k * 10 + 9, none⟩ = some (D2 k 9) := gc 9 (by decide)
          obtain ⟨fr, tr, gd, vr, vl, sy⟩ := y
          obtain ⟨e0, e1, hgd, e5, hvl, e9⟩ := ed_lies gl
          obtain ⟨n0, n1, a2, l2, cp2, q2, q3, q4⟩ := hgd.form
          obtain ⟨m0, m1, b3, k3, dp3, q6, q7, q8⟩ := hvl.form
          rw [q2, q3, q4] at hgd
          rw [q6, q7, q8] at hvl
          rw [e0] at h0
          rw [e1] at h1
          rw [q2] at h2
          rw [q3] at h3
          rw [q4] at h4
          rw [e5] at h5
          rw [q6] at h6
          rw [q7] at h7
          rw [q8] at h8
          rw [e9] at h9
          dsimp only at hact hdy HRd HWd
          have hdg : desc gd ≤ 1048576 := by omega
          have hdv : desc vl ≤ 1048576 := by omega
          have HAct := Lib.hid hact
          have HGd := Lib.hid hgd
          have HVl := Lib.hid hvl
          obtain ⟨W3, hW3⟩ : ∃ W3, W3 = wr.alloc (.cells #[.int .i64 fr, .int .i64 tr, .int .i64 n0, .int .i64 n1, .slice a2 l2 cp2, .int .i64 vr, .int .i64 m0, .int .i64 m1, .slice b3 k3 dp3, .int .i64 sy] 101) := ⟨_, rfl⟩
          have hb3 : Below wr.heap.size wr W3 := by rw [hW3]; exact (Below.refl _ _).alloc (Nat.le_refl _) _
          have HA3 := Lib.hid (HA.out.under hb3 HA.out.lt)
          have HB3 := Lib.hid (HB.out.under hb3 HB.out.lt)
          have HT3 := Lib.hid (HT.out.trans (Two.of_below hb3))
          have HBw3 := Lib.hid (HBw.out.trans (hb3.mono HBw.out.size))
          have HW3 := Lib.hid hW3
          clear hy gl gc e0 e1 e5 e9 q2 q3 q4 q6 q7 q8 hgd hvl hact hdy hb3 hW3 HOE HA HB HT
          go_wp2_with fail
          rw [← HW3.out]
          refine (arc_any fr tr vr sy n0 n1 m0 m1 a2 b3 l2 cp2 k3 dp3 _).mono ?_
          rintro e' w4 ⟨rfl, hb4⟩
          have HA4 := Lib.hid (HA3.out.under hb4 HA3.out.lt)
          have HB4 := Lib.hid (HB3.out.under hb4 HB3.out.lt)
          have HT4 := Lib.hid (HT3.out.trans (Two.of_below hb4))
          have hbx : Below w.heap.size wr w4 := by
            have h1 : Below wr.heap.size wr W3 := by rw [HW3.out]; exact (Below.refl _ _).alloc (Nat.le_refl _) _
            exact (h1.trans (hb4.mono h1.size)).mono (by omega)
          have HG4 := Lib.hid (HGd.out.under hbx)
          have HV4 := Lib.hid (HVl.out.under hbx)
          have hrw4 : wr.heap.size ≤ w4.heap.size := hbx.size
          clear hb4 hbx h0 h1 h2 h3 h4 h5 h6 h7 h8 h9
          have hfd : ∀ w : World, (Instr.field 108 (.agg #[.int .i64 fr, .int .i64 tr, .int .i64 n0, .int .i64 n1, .slice a2 l2 cp2, .int .i64 vr, .int .i64 m0, .int .i64 m1, .slice b3 k3 dp3, .int .i64 sy]) 2).run Try.prog w = .ok (.agg #[.int .i64 n0, .int .i64 n1, .slice a2 l2 cp2, .int .i64 vr, .int .i64 m0, .int .i64 m1, .slice b3 k3 dp3, .int .i64 sy]) w := fun _ => by kernel_rfl
          go_wp2_with fail
          clear hfd
          refine (markVars_any gd vl vr sy n0 n1 m0 m1 a2 b3 l2 cp2 k3 dp3 gr gw 4 4 _ _ w4 HAct.out (HG4.out.more (by omega)) (HV4.out.more (by omega)) hdg hdv HA4.out HB4.out hne).mono ?_
          rintro e' w5 ⟨rfl, hr5, hw5, ht5⟩
          have HA5 : Hid (Row w5 gr 4 (tri fun i => rdS (ps.take j) i || rdE (es.take (k + 1)) i)) := by
            show Row _ _ _ _
            rw [tri_congr (m' := fun i => (rdS (ps.take j) i || rdE (es.take k) i) || rdOne gd vr vl i) fun i => by rw [HRd.out i, Bool.or_assoc]]
            exact hr5
          have HB5 : Hid (Row w5 gw 4 (tri fun i => wrS (ps.take j) i || wrE (es.take (k + 1)) i)) := by
            show Row _ _ _ _
            rw [tri_congr (m' := fun i => (wrS (ps.take j) i || wrE (es.take k) i) || wrOne vr i) fun i => by rw [HWd.out i, Bool.or_assoc]]
            exact hw5
          have HT5 := Lib.hid (HT4.out.trans ht5)
          clear hr5 hw5 ht5
          go_wp2_with fail
          go_roundw
          case rel => exact ⟨k + 1, by omega, by go_num, HA5, HB5, HT5⟩
          case measure => simp [intOf]; omega
        · have hkk : k = es.length := by omega
          subst hkk
          have HA5 : Hid (Row wr gr 4 (tri (rdS (ps.take (j + 1))))) := by
            show Row _ _ _ _
            rw [tri_congr (m' := fun i => rdS (ps.take j) i || rdE (es.take es.length) i) fun i => by rw [HRj.out i, List.take_length]]
            exact HA.out
          have HB5 : Hid (Row wr gw 4 (tri (wrS (ps.take (j + 1))))) := by
            show Row _ _ _ _
            rw [tri_congr (m' := fun i => wrS (ps.take j) i || wrE (es.take es.length) i) fun i => by rw [HWj.out i, List.take_length]]
            exact HB.out
          have HT5 := Lib.hid (HT2.out.trans HT.out)
          go_wp2_with fail
          go_roundw
          case rel => exact ⟨j + 1, by omega, by go_num, HA5, HB5, HT5⟩
          case measure => simp [intOf]; omega
    · have hjj : j = ps.length := by omega
      subst hjj
      have HFin : Hid (VPost ⟨ini, ps⟩ w (.returned (.tuple #[.slice (some ⟨gr, 0, none⟩) 3 3, .slice (some ⟨gw, 0, none⟩) 3 3])) wo) := by
        have h1 := HA.out
        have h2 := HB.out
        rw [List.take_length] at h1 h2
        exact vpost_yes HVs.out HBl.out h1 h2 hne (by omega) (by omega)
      go_wp2_with fail
      refine bodyPost_ret (v := .tuple #[.slice (some ⟨gr, 0, none⟩) 3 3, .slice (some ⟨gw, 0, none⟩) 3 3]) (by simp [results, Try.results11, go_sem]) rfl ?_
      exact HFin.out

end Go.Proofs.Ytldnegacgjijlaa

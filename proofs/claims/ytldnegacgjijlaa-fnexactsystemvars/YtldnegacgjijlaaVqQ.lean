/- The walk of spec.SystemVars. -/
import Derived.Test.YtldnegacgjijlaaVnAQ
import Derived.Test.YtldnegacgjijlaaJ02
namespace Go.Proofs.Ytldnegacgjijlaa
open Go.RowKit

set_option maxHeartbeats 4000000 in
set_option maxRecDepth 100000 in
theorem specVarsS_any (s : Sy) (C : Nat → Value) (w : World) (hL : Lay.sy.lies w w.heap.size s C) (hd : Lay.sy.sz s ≤ 1048576) :
    Calls Try.prog 9 #[.agg #[C 0, C 1]] w (VPost s w) := by
  rw [sy_sz] at hd
  obtain ⟨ini, ps⟩ := s
  obtain ⟨⟨A, cap, b, off, E, e0, hl, hO⟩, B, cbp, c, pff, F, e1, hm, hP⟩ := sy_lies hL
  have hL' : Lay.sy.lies w w.heap.size ⟨ini, ps⟩ (fun j => (#[.slice A ini.length cap, .slice B ps.length cbp] : Array Value).getD j undef) := ⟨⟨A, cap, b, off, E, rfl, hl, hO⟩, B, cbp, c, pff, F, rfl, hm, hP⟩
  rw [e0, e1]
  clear e0 e1 hL hO
  unfold maxLen at hm
  obtain ⟨vo, hvo⟩ : ∃ vo, vo = syOk ⟨ini, ps⟩ := ⟨_, rfl⟩
  have HVo := Lib.hid hvo
  obtain ⟨W1, hW1⟩ : ∃ W1, W1 = w.alloc (.cells #[.slice A ini.length cap, .slice B ps.length cbp] 32) := ⟨_, rfl⟩
  have hb0 : Below w.heap.size w W1 := by rw [hW1]; exact (Below.refl _ _).alloc (Nat.le_refl _) _
  have HR0 : Hid (Row W1 w.heap.size 32 #[.slice A ini.length cap, .slice B ps.length cbp]) := by rw [hW1]; exact Row.new _ _ _
  have HL1 := Lib.hid (Lay.sy.later hL' hb0 hb0.size)
  have HP := Lib.hid hP
  have HB0 := Lib.hid hb0
  have HW1 := Lib.hid hW1
  have HD : Hid (Lay.sy.sz ⟨ini, ps⟩ ≤ 1048576) := hd
  clear hP hb0 hW1 hL' hd hvo hl
  go_enter Try.func9, Try.ntmps9
  go_wp2_with fail
  rw [← HW1.out]
  refine (specSy_any ⟨ini, ps⟩ (fun j => (#[.slice A ini.length cap, .slice B ps.length cbp] : Array Value).getD j undef) W1 HL1.out HD.out).mono ?_
  rintro e' w1 ⟨rfl, hb1⟩
  rw [← HVo.out]
  have HB1 := Lib.hid (HB0.out.trans (hb1.mono HB0.out.size))
  have HR1 := Lib.hid (HR0.out.under hb1 HR0.out.lt)
  have hwl : w.heap.size < w1.heap.size := HR1.out.lt
  clear hb1
  cases vo
  · go_wp2_with fail
    refine bodyPost_ret (v := .tuple #[.slice (some ⟨w1.heap.size, 0, none⟩) 0 0, .slice (some ⟨w1.heap.size + 1, 0, none⟩) 0 0]) (by simp [results, Try.results9, go_sem]) rfl ?_
    exact vpost_no HVo.out.symm ((HB1.out.alloc HB1.out.size _).alloc (by have := HB1.out.size; simp; omega) _) _ _ _ _
  have hmk := make_three
  obtain ⟨wc, hwc⟩ : ∃ wc, wc = (w1.alloc (.cells (tri fun _ => false) 4)).alloc (.cells (tri fun _ => false) 4) := ⟨_, rfl⟩
  have htb := two_boxes w1 4 (tri fun _ => false) (tri fun _ => false)
  rw [← hwc] at htb
  obtain ⟨hrr, hrw, hbc⟩ := htb
  obtain ⟨gr, hgr0⟩ : ∃ gr, gr = w1.heap.size := ⟨_, rfl⟩
  obtain ⟨gw, hgw0⟩ : ∃ gw, gw = w1.heap.size + 1 := ⟨_, rfl⟩
  have hne : gr ≠ gw := by omega
  have hgr : w1.heap.size ≤ gr := by omega
  have hgw : w1.heap.size ≤ gw := by omega
  rw [← hgr0] at hrr
  rw [← hgw0] at hrw
  have HBc := Lib.hid (HB1.out.trans (hbc.mono HB1.out.size))
  have HRc := Lib.hid (HR1.out.under hbc HR1.out.lt)
  have HRr := Lib.hid hrr
  have HRw := Lib.hid hrw
  have hgrc : gr < wc.heap.size := hrr.lt
  have hgwc : gw < wc.heap.size := hrw.lt
  have HDp : Hid (Lay.pr.szL ps ≤ 1048576) := by have := HD.out; rw [sy_sz] at this; show _ ≤ _; dsimp only at this; omega
  have HVs : Hid (syOk ⟨ini, ps⟩ = true) := HVo.out.symm
  have HWc := Lib.hid hwc
  have HG0 := Lib.hid hgr0
  have HG1 := Lib.hid hgw0
  clear hrr hrw hbc hwc hgr0 hgw0
  go_wp2_with fail
  rw [← HWc.out, ← HG0.out, show gr + 1 = gw by have := HG0.out; have := HG1.out; omega]
  clear hmk
  go_loopw [4, 6] (fun rs i wl => ∃ j : Nat, j ≤ ps.length ∧ rs = .slice (some ⟨gr, 0, none⟩) 3 3 ∧ i = .int .i64 j ∧ Hid (Row wl gr 4 (tri (rdS (ps.take j)))) ∧ Hid (Row wl gw 4 (tri (wrS (ps.take j)))) ∧ Hid (Two gr gw wc wl)) (fun _ i _ => ps.length - (intOf i).toNat)
  case atStart => exact ⟨0, Nat.zero_le _, rfl, rfl, (by show Row _ _ _ _; rw [tri_false (rdS (ps.take 0)) (fun i => rfl)]; exact HRr.out), (by show Row _ _ _ _; rw [tri_false (wrS (ps.take 0)) (fun i => rfl)]; exact HRw.out), Two.refl _ _ _⟩
  case round =>
    obtain ⟨j, hj, rfl, rfl, HA, HB, HT⟩ := hrel
    have HBl := Lib.hid (HBc.out.trans ((HT.out.below (B := w.heap.size) (by omega) (by omega) (by omega))))
    obtain ⟨r0, r1⟩ := (HRc.out.two_ HT.out (by omega) (by omega)).two
    rename World => wo
    have hco : wc.heap.size ≤ wo.heap.size := HT.out.size
    by_cases hlj : j < ps.length
    · obtain ⟨x, hx⟩ : ∃ x, ps[j]? = some x := ⟨_, List.getElem?_eq_getElem hlj⟩
      have hpok := syOk_prs (s := ⟨ini, ps⟩) HVs.out hx
      have hdes : Lay.pr.sz x ≤ 1048576 := by have := Lay.pr.szL_mem hx; have := HDp.out; omega
      rw [pr_sz] at hdes
      have HRj : Hid (∀ i, rdS (ps.take (j + 1)) i = (rdS (ps.take j) i || rdE x.es i)) := fun i => anys_take_succ hx
      have HWj : Hid (∀ i, wrS (ps.take (j + 1)) i = (wrS (ps.take j) i || wrE x.es i)) := fun i => anys_take_succ hx
      obtain ⟨rfl, hbB, gc, gl⟩ := HP.out.below HBl.out j x hx
      have g1 : wo.cell? ⟨c, pff + j * 2 + 1, none⟩ = some (F j 1) := gc 1 (by decide)
      obtain ⟨loc, es⟩ := x
      obtain ⟨u0, A2, cap2, b2, off2, D2, u1, hml, hO2⟩ := pr_lies gl
      unfold maxLen at hml
      rw [u1] at g1
      dsimp only at hdes HRj HWj
      have HPok := Lib.hid hpok
      have HDes := Lib.hid hdes
      have HO2 := Lib.hid hO2
      have HC1 := Lib.hid g1
      have HC0 := Lib.hid r1
      clear hx hpok hdes gc gl hO2 u0 u1
      go_wp2_with fail
      go_loopw [4, 7] (fun rs i wl => ∃ k : Nat, k ≤ es.length ∧ rs = .slice (some ⟨gr, 0, none⟩) 3 3 ∧ i = .int .i64 k ∧ Hid (Row wl gr 4 (tri fun i => rdS (ps.take j) i || rdE (es.take k) i)) ∧ Hid (Row wl gw 4 (tri fun i => wrS (ps.take j) i || wrE (es.take k) i)) ∧ Hid (Two gr gw wo wl)) (fun _ i _ => es.length - (intOf i).toNat)
      case atStart =>
        exact ⟨0, Nat.zero_le _, rfl, rfl, (by show Row _ _ _ _; rw [tri_congr (m' := rdS (ps.take j)) fun i => by simp [rdE]]; exact HA.out), (by show Row _ _ _ _; rw [tri_congr (m' := wrS (ps.take j)) fun i => by simp [wrE]]; exact HB.out), Two.refl _ _ _⟩
      case round =>
        have HT0 := HT
        clear g1 r0 r1 HA HB HT
        obtain ⟨k, hk, rfl, rfl, HA, HB, HT⟩ := hrel
        have hWr : wo.heap.size ≤ wr.heap.size := HT.out.size
        have hbo : Below w.heap.size wo wr := HT.out.below (B := w.heap.size) (by omega) (by omega) (by omega)
        have HBw := Lib.hid (HBl.out.trans hbo)
        have r1 : wr.cell? ⟨w.heap.size, 1, none⟩ = _ := ((HRc.out.two_ (HT0.out.trans HT.out) (by omega) (by omega)).two).2
        have g1 : wr.cell? ⟨c, pff + j * 2 + 1, none⟩ = _ := (hbo.cell (p := ⟨c, pff + j * 2 + 1, none⟩) hbB).trans HC1.out
        have hwlr : w.heap.size < wr.heap.size := by omega
        by_cases hlt : k < es.length
        · have HOE := HO2.out.below hbo
          obtain ⟨y, hy⟩ : ∃ y, es[k]? = some y := ⟨_, List.getElem?_eq_getElem hlt⟩
          have hact := edOk_act (prOk_ed (p := ⟨loc, es⟩) HPok.out hy)
          have hdy : Lay.ed.sz y ≤ 1048576 := by have := Lay.ed.szL_mem hy; have := HDes.out; omega
          rw [ed_sz] at hdy
          have HRd : Hid (∀ i, rdE (es.take (k + 1)) i = (rdE (es.take k) i || rdOne y.g y.vr y.vl i)) := fun i => anys_take_succ hy
          have HWd : Hid (∀ i, wrE (es.take (k + 1)) i = (wrE (es.take k) i || wrOne y.vr i)) := fun i => anys_take_succ hy
          obtain ⟨rfl, hbE, gc, gl⟩ := HOE k y hy
          have h0 : wr.cell? ⟨b2, off2 + k * 10, none⟩ = some (D2 k 0) := gc 0 (by decide)
          have h1 : wr.cell? ⟨b2, off2 + k * 10 + 1, none⟩ = some (D2 k 1) := gc 1 (by decide)
          have h2 : wr.cell? ⟨b2, off2 + k * 10 + 2, none⟩ = some (D2 k 2) := gc 2 (by decide)
          have h3 : wr.cell? ⟨b2, off2 + k * 10 + 3, none⟩ = some (D2 k 3) := gc 3 (by decide)
          have h4 : wr.cell? ⟨b2, off2 + k * 10 + 4, none⟩ = some (D2 k 4) := gc 4 (by decide)
          have h5 : wr.cell? ⟨b2, off2 + k * 10 + 5, none⟩ = some (D2 k 5) := gc 5 (by decide)
          have h6 : wr.cell? ⟨b2, off2 + k * 10 + 6, none⟩ = some (D2 k 6) := gc 6 (by decide)
          have h7 : wr.cell? ⟨b2, off2 + k * 10 + 7, none⟩ = some (D2 k 7) := gc 7 (by decide)
          have h8 : wr.cell? ⟨b2, off2 + k * 10 + 8, none⟩ = some (D2 k 8) := gc 8 (by decide)
          have h9 : wr.cell? ⟨b2, off2 + k * 10 + 9, none⟩ = some (D2 k 9) := gc 9 (by decide)
          obtain ⟨fr, to, gd, vr, vl, sy⟩ := y
          obtain ⟨e0, e1, hgd, e5, hvl, e9⟩ := ed_lies gl
          obtain ⟨n0, n1, a2, l2, cp2, q2, q3, q4⟩ := hgd.form
          obtain ⟨m0, m1, b3, k3, dp3, q6, q7, q8⟩ := hvl.form
          rw [q2, q3, q4] at hgd
          rw [q6, q7, q8] at hvl
          rw [e0] at h0
          rw [e1] at h1
          rw [q2] at h2
          rw [q3] at h3
          rw [q4] at h4
          rw [e5] at h5
          rw [q6] at h6
          rw [q7] at h7
          rw [q8] at h8
          rw [e9] at h9
          dsimp only at hact hdy HRd HWd
          have hdg : desc gd ≤ 1048576 := by omega
          have hdv : desc vl ≤ 1048576 := by omega
          have HAct := Lib.hid hact
          have HGd := Lib.hid hgd
          have HVl := Lib.hid hvl
          obtain ⟨hvg, hor⟩ := actOk_parts HAct.out
          have HSh : Hid (shape 6 gd = true) := shape_of_valid hvg.symm
          obtain ⟨W3, hW3⟩ : ∃ W3, W3 = wr.alloc (.cells #[.int .i64 fr, .int .i64 to, .int .i64 n0, .int .i64 n1, .slice a2 l2 cp2, .int .i64 vr, .int .i64 m0, .int .i64 m1, .slice b3 k3 dp3, .int .i64 sy] 101) := ⟨_, rfl⟩
          have hb3 : Below wr.heap.size wr W3 := by rw [hW3]; exact (Below.refl _ _).alloc (Nat.le_refl _) _
          have HRe : Hid (Row W3 wr.heap.size 101 #[.int .i64 fr, .int .i64 to, .int .i64 n0, .int .i64 n1, .slice a2 l2 cp2, .int .i64 vr, .int .i64 m0, .int .i64 m1, .slice b3 k3 dp3, .int .i64 sy]) := by rw [hW3]; exact Row.new _ _ _
          have HA3 := Lib.hid (HA.out.under hb3 HA.out.lt)
          have HB3 := Lib.hid (HB.out.under hb3 HB.out.lt)
          have HT3 := Lib.hid (HT.out.trans (Two.of_below hb3))
          have hgrr : gr < wr.heap.size := HA.out.lt
          have hgwr : gw < wr.heap.size := HB.out.lt
          have HG3 := Lib.hid ((hgd.under (hb3.mono (by omega))).more (B' := gr) (by omega))
          have HV3 := Lib.hid ((hvl.under (hb3.mono (by omega))).more (B' := gr) (by omega))
          have h3l : wr.heap.size < W3.heap.size := HRe.out.lt
          have HW3 := Lib.hid hW3
          clear hy gl gc e0 e1 e5 e9 q2 q3 q4 q6 q7 q8 hgd hvl hact hdy hb3 hW3 HOE HA HB HT hbo hvg HGd HVl
          go_wp2_with fail
          rw [← HW3.out]
          refine (mark_any 6 gd _ _ _ gr 4 _ _ HSh.out HG3.out HA3.out).mono ?_
          rintro e' w4 ⟨rfl, hr4, hg4⟩
          have hk4 : Kept gr (gr + 1) W3 w4 := Kept.of_grown hg4 (Nat.le_refl _) (Nat.lt_succ_self _)
          have HA4 := Lib.hid hr4
          have HB4 := Lib.hid (HB3.out.kept hk4 (by omega))
          have hre4 := HRe.out.kept hk4 (by omega)
          have HRe4 := Lib.hid hre4
          obtain ⟨f0, f1, f2, f3, f4, f5, f6, f7, f8, f9⟩ := hre4.ten
          have HT4 := Lib.hid (HT3.out.trans (Two.left (b := gw) hk4))
          have HV4 := Lib.hid (HV3.out.under (hk4.below (Nat.le_refl _) (by omega)))
          have h34 : W3.heap.size ≤ w4.heap.size := hk4.size
          clear hr4 hg4 hk4 hre4 h0 h1 h2 h3 h4 h5 h6 h7 h8 h9 r1 g1
          rcases hor with rfl | ⟨hv0, hv3, hvv⟩
          · have HA5 : Hid (Row w4 gr 4 (tri fun i => rdS (ps.take j) i || rdE (es.take (k + 1)) i)) := by
              show Row _ _ _ _
              rw [tri_congr (m' := fun i => (rdS (ps.take j) i || rdE (es.take k) i) || occ 6 gd i) fun i => by rw [HRd.out i, Bool.or_assoc]; unfold rdOne; simp]
              exact HA4.out
            have HB5 : Hid (Row w4 gw 4 (tri fun i => wrS (ps.take j) i || wrE (es.take (k + 1)) i)) := by
              show Row _ _ _ _
              rw [tri_congr (m' := fun i => wrS (ps.take j) i || wrE (es.take k) i) fun i => by rw [HWd.out i]; unfold wrOne; rw [decide_eq_false (by omega), Bool.or_false]]
              exact HB4.out
            go_wp2_with fail
            go_roundw
            case rel => exact ⟨k + 1, by omega, rfl, by go_num, HA5, HB5, HT4⟩
            case measure => simp [intOf]; omega
          · have HSv : Hid (shape 6 vl = true) := shape_of_valid hvv.symm
            obtain ⟨v, rfl⟩ : ∃ v : Nat, vr = v := ⟨vr.toNat, by omega⟩
            have hv3' : v < 3 := by omega
            clear hvv
            go_wp2_with fail
            refine (mark_any 6 vl _ _ _ gr 4 _ _ HSv.out HV4.out HA4.out).mono ?_
            rintro e' w5 ⟨rfl, hr5, hg5⟩
            have hk5 : Kept gr (gr + 1) w4 w5 := Kept.of_grown hg5 (Nat.le_refl _) (Nat.lt_succ_self _)
            have hb5 := HB4.out.kept hk5 (by omega)
            have hre5 := HRe4.out.kept hk5 (by omega)
            clear f0 f1 f2 f3 f4 f5 f6 f7 f8 f9
            obtain ⟨f0, f1, f2, f3, f4, f5, f6, f7, f8, f9⟩ := hre5.ten
            have ck : w5.cell? ⟨gw, v, none⟩ = some (.bool (wrS (ps.take j) v || wrE (es.take k) v)) := by rw [hb5.cell, tri_get _ hv3']
            have zk := hb5.frozen v
            have lw := hb5.lt
            have hs := Kept.set_ gw (gw + 1) w5 (Nat.le_refl gw) (Nat.lt_succ_self gw) v (.bool true)
            have HA5 : Hid (Row (w5.setCell ⟨gw, v, none⟩ (.bool true)) gr 4 (tri fun i => rdS (ps.take j) i || rdE (es.take (k + 1)) i)) := by
              show Row _ _ _ _
              rw [tri_congr (m' := fun i => ((rdS (ps.take j) i || rdE (es.take k) i) || occ 6 gd i) || occ 6 vl i) fun i => by rw [HRd.out i]; unfold rdOne; rw [decide_eq_true (by omega), Bool.true_and]; simp only [Bool.or_assoc]]
              exact hr5.kept hs (by omega)
            have HB5 : Hid (Row (w5.setCell ⟨gw, v, none⟩ (.bool true)) gw 4 (tri fun i => wrS (ps.take j) i || wrE (es.take (k + 1)) i)) := by
              show Row _ _ _ _
              have q1 := hb5.set_ v (.bool true)
              rw [tri_set _ _ hv3'] at q1
              rw [tri_congr (m' := fun i => if i = v then true else wrS (ps.take j) i || wrE (es.take k) i) fun i => by
                rw [HWd.out i]
                unfold wrOne
                by_cases e : i = v
                · subst e; rw [if_pos rfl, decide_eq_true rfl, Bool.or_true, Bool.or_true]
                · rw [if_neg e, decide_eq_false (by omega), Bool.or_false]]
              exact q1
            have HT5 := Lib.hid (HT4.out.trans ((Two.left (b := gw) hk5).trans (Two.right (a := gr) hs)))
            clear hr5 hg5 hk5 hb5 hre5 hs
            go_wp2_with fail
            go_roundw
            case rel => exact ⟨k + 1, by omega, rfl, by go_num, HA5, HB5, HT5⟩
            case measure => simp [intOf]; omega
        · have hkk : k = es.length := by omega
          subst hkk
          have HA5 : Hid (Row wr gr 4 (tri (rdS (ps.take (j + 1))))) := by
            show Row _ _ _ _
            rw [tri_congr (m' := fun i => rdS (ps.take j) i || rdE (es.take es.length) i) fun i => by rw [HRj.out i, List.take_length]]
            exact HA.out
          have HB5 : Hid (Row wr gw 4 (tri (wrS (ps.take (j + 1))))) := by
            show Row _ _ _ _
            rw [tri_congr (m' := fun i => wrS (ps.take j) i || wrE (es.take es.length) i) fun i => by rw [HWj.out i, List.take_length]]
            exact HB.out
          have HT5 := Lib.hid (HT0.out.trans HT.out)
          go_wp2_with fail
          go_roundw
          case rel => exact ⟨j + 1, by omega, rfl, by go_num, HA5, HB5, HT5⟩
          case measure => simp [intOf]; omega
    · have hjj : j = ps.length := by omega
      subst hjj
      have HFin : Hid (VPost ⟨ini, ps⟩ w (.returned (.tuple #[.slice (some ⟨gr, 0, none⟩) 3 3, .slice (some ⟨gw, 0, none⟩) 3 3])) wo) := by
        have h1 := HA.out
        have h2 := HB.out
        rw [List.take_length] at h1 h2
        exact vpost_yes HVs.out HBl.out h1 h2 hne (by omega) (by omega)
      go_wp2_with fail
      refine bodyPost_ret (v := .tuple #[.slice (some ⟨gr, 0, none⟩) 3 3, .slice (some ⟨gw, 0, none⟩) 3 3]) (by simp [results, Try.results9, go_sem]) rfl ?_
      exact HFin.out

end Go.Proofs.Ytldnegacgjijlaa

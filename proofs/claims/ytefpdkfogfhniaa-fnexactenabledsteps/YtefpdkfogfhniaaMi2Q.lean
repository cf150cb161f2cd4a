/- A moment's steps, all of them: the walk of (impl.moment).steps. -/
import Derived.Test.YtefpdkfogfhniaaMi1Q
namespace Go.Proofs.Ytefpdkfogfhniaa
open Go.RowKit
attribute [local go_sem] Oper.semAt_some

set_option maxHeartbeats 2000000 in
set_option maxRecDepth 100000 in
theorem steps_all (e : Sy) (C : Nat → Value) (f : St) (D : Nat → Value) (Wb : World) (hH : Have e C f D Wb) (hds : ∀ (i : Nat) (p : Pr), e.ps[i]? = some p → ∀ (k : Nat) (d : Ed), p.es[k]? = some d → desc d.g ≤ 1048576) (b base : Nat) (es : Array MapEntry) (hR : Recv Wb b base (rcN e f e.ps.length 0) es) (n l : Nat) (J Jx : List Stp → (Nat → Prop) → World → Prop) (hY : Cons Wb l (steps e f) J Jx)
    (U : Nat → Prop) (W : World) (hWb : Below Wb.heap.size Wb W) (hJ : J [] U W) :
    CallsIn Fence.wide n Try.prog 49 #[.agg #[C 0, C 1, D 0, D 1, .map (some b)], .func (.yield l) #[] #[]] W fun e' W' => (∃ v, e' = .returned v) ∧ ∃ go, ItPost J Jx [] (steps e f) U W go W' := by
  have hsy := (stOk_sy hH.ok).1
  have h3 : e.ps.length ≤ 3 := syOk_le hsy
  obtain ⟨A1, cap1, b1, off1, q1, hP⟩ := hH.all
  have HP := Lib.hid hP
  have HS := Lib.hid hsy
  have HH := Lib.hid hH
  have HDs := Lib.hid hds
  have HYd := Lib.hid hY
  have HRv := Lib.hid hR
  obtain ⟨c0, hc0⟩ : ∃ c0, c0 = C 0 := ⟨_, rfl⟩
  obtain ⟨u0, hu0⟩ : ∃ u0, u0 = D 0 := ⟨_, rfl⟩
  obtain ⟨u1, hu1⟩ : ∃ u1, u1 = D 1 := ⟨_, rfl⟩
  have HRdy : Hid (∀ (n : Nat) (wl : World), Below Wb.heap.size Wb wl → ∀ (i : Nat), i < e.ps.length → ∀ (d : Ed) (n0 n1 : Int) (a2 : Option Addr) (l2 cp2 : Nat), Lies wl wl.heap.size d.g (.int .i64 n0) (.int .i64 n1) (.slice a2 l2 cp2) → valid d.g = true → desc d.g ≤ 1048576 → ∀ (x1 x5 x6 x7 x8 x9 : Value),
      CallsIn Fence.wide n Try.prog 63 #[.agg #[c0, .slice A1 e.ps.length cap1, u0, u1, .map (some b)], .int .i64 i, .agg #[.int .i64 d.fr, x1, .int .i64 n0, .int .i64 n1, .slice a2 l2 cp2, x5, x6, x7, x8, x9]] wl fun e' w' => e' = .returned (.bool (rdyB f i d)) ∧ Below wl.heap.size wl w') := fun n wl hb i hi d n0 n1 a2 l2 cp2 hg hv hd x1 x5 x6 x7 x8 x9 => by
    have := readyI_any e C f D wl (HH.out.later hb) (.map (some b)) i hi d n0 n1 a2 l2 cp2 hg hv hd x1 x5 x6 x7 x8 x9
    rw [q1, ← hc0, ← hu0, ← hu1] at this
    exact callsIn_wide.2 this
  have HEd : Hid (∀ (n : Nat) (wl : World), Below Wb.heap.size Wb wl → ∀ (pre : List Stp) (Uc : Nat → Prop), J pre Uc wl → ∀ (i k : Nat) (p : Pr) (d : Ed), e.ps[i]? = some p → p.es[k]? = some d → rdyB f i d = true → pre ++ stE e f i k d <+: steps e f →
      CallsIn Fence.wide n Try.prog 64 #[.agg #[c0, .slice A1 e.ps.length cap1, u0, u1, .map (some b)], .int .i64 i, .int .i64 k, .func (.yield l) #[] #[]] wl fun e' W' => ∃ go, e' = .returned (.bool go) ∧ ItPost J Jx pre (stE e f i k d) Uc wl go W') := fun n wl hb pre Uc hj i k p d hp hd hr ht => by
    have := edge_all e C f D Wb HH.out b base es HRv.out i k p d hp hd n l J Jx (steps e f) HYd.out pre Uc wl hb hj (by rw [edS_stE hr]; exact ht)
    rw [q1, ← hc0, ← hu0, ← hu1, edS_stE hr] at this
    exact this
  rw [q1, ← hc0, ← hu0, ← hu1]
  obtain ⟨W1, hW1⟩ : ∃ W1, W1 = W.alloc (.cells #[c0, .slice A1 e.ps.length cap1, u0, u1, .map (some b)] 74) := ⟨_, rfl⟩
  have hbw : Below W.heap.size W W1 := by rw [hW1]; exact (Below.refl _ _).alloc (Nat.le_refl _) _
  have HRm : Hid (Row W1 W.heap.size 74 #[c0, .slice A1 e.ps.length cap1, u0, u1, .map (some b)]) := by rw [hW1]; exact Row.new _ _ _
  have HWB : Hid (Below Wb.heap.size Wb W1) := hWb.trans (hbw.mono hWb.size)
  have HF1 : Hid (Fr U W U W1) := (Fr.refl U W).step hbw
  have HJ1 : Hid (J [] U W1) := hY.below _ _ _ _ hJ hbw
  have HU : Hid (∀ q, U q → Wb.heap.size ≤ q ∧ q < W.heap.size) := hY.bound _ _ _ hJ
  have HW1 := Lib.hid hW1
  have hlt1 : W.heap.size < W1.heap.size := HRm.out.lt
  clear hsy hH hP hc0 hu0 hu1 hY hR hds q1 HRv HH hbw hW1 hJ hWb
  refine callsIn_of_wp Try.func49 rfl trivial ?_ rfl
  simp only [Try.ntmps49, List.size_toArray, List.length_cons, List.length_nil, Nat.reduceAdd, Nat.reduceSub, Array.replicate_succ, Array.replicate_zero, List.push_toArray, List.append_toArray, List.nil_append, List.cons_append]
  gi_wp2_with fail
  rw [← HW1.out]
  gi_loopw [12] (fun v wl => ∃ (j : Nat) (Uc : Nat → Prop), j ≤ e.ps.length ∧ v = .int .i64 j ∧ Hid (Fr U W1 Uc wl) ∧ Hid (J (acc (stPr e f) (e.ps.take j)) Uc wl)) (fun v _ => e.ps.length - (intOf v).toNat)
  case atStart => exact ⟨0, U, Nat.zero_le _, rfl, Fr.refl _ _, HJ1⟩
  case round =>
    clear HJ1
    obtain ⟨j, Uc, hj, rfl, HF, HJ⟩ := hrel
    have HBl : Hid (Below Wb.heap.size Wb wr) := HF.out.below HWB.out HWB.out.size (fun q hq => (HU.out q hq).1)
    by_cases hlt : j < e.ps.length
    · obtain ⟨p, hp⟩ : ∃ p, e.ps[j]? = some p := ⟨_, List.getElem?_eq_getElem hlt⟩
      have hpo := (syOk_pr HS.out hp).1
      have h6 := prOk_le hpo
      obtain ⟨rfl, hb1, y0, A3, cap3, b3, off3, y1, y2⟩ := HP.out j p hp
      have z0 := (HBl.out.cell (p := ⟨b1, off1 + j * 2, none⟩) hb1).trans y0
      have z1 := (HBl.out.cell (p := ⟨b1, off1 + j * 2 + 1, none⟩) hb1).trans y1
      have Hp := Lib.hid hp
      have HPo := Lib.hid hpo
      have HY2 := Lib.hid y2
      have hb3' : Below wr.heap.size wr (wr.alloc (.cells #[.int .i64 p.loc, .slice A3 p.es.length cap3] 85)) := (Below.refl _ _).alloc (Nat.le_refl _) _
      have HF3 := Lib.hid (HF.out.step hb3')
      have HJ3 := Lib.hid (HYd.out.below _ _ _ _ HJ.out hb3')
      have r1 := HF.out.row HRm.out (fun hu => by have := (HU.out _ hu).2; omega)
      have x1 : wr.cell? ⟨W.heap.size, 1, none⟩ = some (.slice (some ⟨b1, off1, none⟩) e.ps.length cap1) := r1.cell 1
      clear hp hpo y0 y1 y2 HF HJ HBl hb3' r1
      gi_wp2_with fail
      clear z0 z1 x1
      gi_loopw [20] (fun v wl => ∃ (k : Nat) (Uc : Nat → Prop), k ≤ p.es.length ∧ v = .int .i64 k ∧ Hid (Fr U W1 Uc wl) ∧ Hid (J (acc (stPr e f) (e.ps.take j) ++ acc (stE e f j) (p.es.take k)) Uc wl)) (fun v _ => p.es.length - (intOf v).toNat)
      case atStart => exact ⟨0, Uc, Nat.zero_le _, rfl, HF3, by show J _ _ _; rw [List.take_zero, acc_nil, List.append_nil]; exact HJ3.out⟩
      case round =>
        clear HF3 HJ3
        obtain ⟨k, Uk, hk, rfl, HF, HJ⟩ := hrel
        have HBl : Hid (Below Wb.heap.size Wb wr) := HF.out.below HWB.out HWB.out.size (fun q hq => (HU.out q hq).1)
        by_cases hlk : k < p.es.length
        · obtain ⟨d, hd⟩ : ∃ d, p.es[k]? = some d := ⟨_, List.getElem?_eq_getElem hlk⟩
          obtain ⟨rfl, hb3, n0, n1, a2, l2, cp2, m0, m1, a3, l3, cp3, ⟨k0, k1, k2, k3, k4, k5, k6, k7, k8, k9⟩, hg⟩ := HY2.out k d hd
          obtain ⟨hvd, hs1, hs2⟩ := prOk_edge HPo.out hd
          have HVd := Lib.hid hvd
          have Hd := Lib.hid hd
          have HDd := Lib.hid (HDs.out j p Hp.out k d hd)
          have hcA : ∀ (q o : Nat), q < Wb.heap.size → wr.cell? ⟨q, o, none⟩ = Wb.cell? ⟨q, o, none⟩ := fun q o hq => HBl.out.cell (p := ⟨q, o, none⟩) hq
          rw [← hcA b3 _ hb3] at k0 k1 k2 k3 k4 k5 k6 k7 k8 k9
          obtain ⟨W4, hW4⟩ : ∃ W4, W4 = wr.alloc (.cells #[.int .i64 d.fr, .int .i64 d.to, .int .i64 n0, .int .i64 n1, .slice a2 l2 cp2, .int .i64 d.vr, .int .i64 m0, .int .i64 m1, .slice a3 l3 cp3, .int .i64 d.sy] 93) := ⟨_, rfl⟩
          have hb4 : Below wr.heap.size wr W4 := by rw [hW4]; exact (Below.refl _ _).alloc (Nat.le_refl _) _
          have HB4 : Hid (Below Wb.heap.size Wb W4) := HBl.out.trans (hb4.mono HBl.out.size)
          have HF4 := Lib.hid (HF.out.step hb4)
          have HJ4 := Lib.hid (HYd.out.below _ _ _ _ HJ.out hb4)
          have HG4 := Lib.hid (below_more hg HB4.out HB4.out.size)
          have r1 := HF.out.row HRm.out (fun hu => by have := (HU.out _ hu).2; omega)
          have hwlt : W.heap.size < wr.heap.size := r1.lt
          have x0 : wr.cell? ⟨W.heap.size, 0, none⟩ = some c0 := r1.cell 0
          have x1 : wr.cell? ⟨W.heap.size, 1, none⟩ = some (.slice (some ⟨b1, off1, none⟩) e.ps.length cap1) := r1.cell 1
          have x2 : wr.cell? ⟨W.heap.size, 2, none⟩ = some u0 := r1.cell 2
          have x3 : wr.cell? ⟨W.heap.size, 3, none⟩ = some u1 := r1.cell 3
          have x4 : wr.cell? ⟨W.heap.size, 4, none⟩ = some (.map (some b)) := r1.cell 4
          have HW4 := Lib.hid hW4
          obtain ⟨o, ho⟩ : ∃ o, o = rdyB f j d := ⟨_, rfl⟩
          have HO := Lib.hid ho
          clear ho hd hvd hg hcA hb4 hW4 HF HJ HBl r1
          gi_wp2_with fail
          rw [← HW4.out]
          refine ⟨trivial, fun h => (by cases h), (HRdy.out (n - 1) W4 HB4.out j hlt d n0 n1 a2 l2 cp2 HG4.out HVd.out HDd.out _ _ _ _ _ _).mono ?_⟩
          rintro e' w5 ⟨rfl, hb5⟩
          rw [← HO.out]
          have HB5 : Hid (Below Wb.heap.size Wb w5) := HB4.out.trans (hb5.mono HB4.out.size)
          have HF5 := Lib.hid (HF4.out.step hb5)
          have HJ5 := Lib.hid (HYd.out.below _ _ _ _ HJ4.out hb5)
          clear hb5 HB4 HF4 HJ4 HG4 x0 x1 x2 x3 x4 k0 k1 k2 k3 k4 k5 k6 k7 k8 k9
          cases o
          · have HJ6 : Hid (J (acc (stPr e f) (e.ps.take j) ++ acc (stE e f j) (p.es.take (k + 1))) Uk w5) := by
              show J _ _ _
              rw [acc_take_succ Hd.out, stE_none (.inr HO.out.symm), List.append_nil]
              exact HJ5.out
            gi_wp2_with fail
            refine ⟨trivial, ?_⟩
            gi_wp2_with fail
            go_roundw
            case rel => exact ⟨k + 1, Uk, by omega, by go_num, HF5, HJ6⟩
            case measure => simp [intOf]; omega
          · have r5 := HF5.out.row HRm.out (fun hu => by have := (HU.out _ hu).2; omega)
            have x0 : w5.cell? ⟨W.heap.size, 0, none⟩ = some c0 := r5.cell 0
            have x1 : w5.cell? ⟨W.heap.size, 1, none⟩ = some (.slice (some ⟨b1, off1, none⟩) e.ps.length cap1) := r5.cell 1
            have x2 : w5.cell? ⟨W.heap.size, 2, none⟩ = some u0 := r5.cell 2
            have x3 : w5.cell? ⟨W.heap.size, 3, none⟩ = some u1 := r5.cell 3
            have x4 : w5.cell? ⟨W.heap.size, 4, none⟩ = some (.map (some b)) := r5.cell 4
            clear r5
            have HPx : Hid (acc (stPr e f) (e.ps.take j) ++ acc (stE e f j) (p.es.take k) ++ stE e f j k d <+: steps e f) := by
              show _ <+: _
              rw [List.append_assoc, ← acc_take_succ Hd.out]
              have h1 : acc (stPr e f) (e.ps.take j) ++ acc (stE e f j) p.es <+: steps e f := by
                have h2 := acc_prefix (stPr e f) e.ps (j + 1) (by omega)
                rw [acc_take_succ Hp.out] at h2
                exact h2
              exact List.IsPrefix.trans ((List.prefix_append_right_inj _).2 (acc_prefix _ _ _ (by omega))) h1
            gi_wp2_with fail
            refine ⟨trivial, fun h => (by cases h), (HEd.out (n - 1) w5 HB5.out _ Uk HJ5.out j k p d Hp.out Hd.out HO.out.symm HPx.out).mono ?_⟩
            rintro e' w6 ⟨go, rfl, U6, hf6, hgo⟩
            rcases hgo with ⟨rfl, hj6⟩ | ⟨rfl, dd, hdd, hjx⟩
            · have HF6 := Lib.hid (HF5.out.trans hf6)
              have HJ6 : Hid (J (acc (stPr e f) (e.ps.take j) ++ acc (stE e f j) (p.es.take (k + 1))) U6 w6) := by
                show J _ _ _
                rw [acc_take_succ Hd.out, ← List.append_assoc]
                exact hj6
              clear hf6 hj6 x0 x1 x2 x3 x4
              gi_wp2_with fail
              go_roundw
              case rel => exact ⟨k + 1, U6, by omega, by go_num, HF6, HJ6⟩
              case measure => simp [intOf]; omega
            · have HFin : Hid (∃ go, ItPost J Jx [] (steps e f) U W go w6) := by
                refine ⟨false, U6, (HF1.out.trans HF5.out).trans hf6, .inr ⟨rfl, dd, ?_, hjx⟩⟩
                rw [List.nil_append]
                exact hdd.trans HPx.out
              clear hf6 hdd hjx x0 x1 x2 x3 x4
              gi_wp2_with fail
              refine bodyPost_ret (results_none rfl _ _ _) rfl ?_
              exact ⟨⟨_, rfl⟩, HFin.out⟩
        · have hkk : k = p.es.length := by omega
          subst hkk
          have HJ6 : Hid (J (acc (stPr e f) (e.ps.take (j + 1))) Uk wr) := by
            show J _ _ _
            have h1 := HJ.out
            rw [acc_full] at h1
            rw [acc_take_succ Hp.out]
            exact h1
          gi_wp2_with fail
          go_roundw
          case rel => exact ⟨j + 1, Uk, by omega, by go_num, HF, HJ6⟩
          case measure => simp [intOf]; omega
    · have hjj : j = e.ps.length := by omega
      subst hjj
      have HFin : Hid (∃ go, ItPost J Jx [] (steps e f) U W go wr) := by
        refine ⟨true, Uc, HF1.out.trans HF.out, .inl ⟨rfl, ?_⟩⟩
        have h1 := HJ.out
        rw [acc_full] at h1
        exact h1
      gi_wp2_with fail
      go_end0
      exact ⟨⟨_, rfl⟩, HFin.out⟩

end Go.Proofs.Ytefpdkfogfhniaa

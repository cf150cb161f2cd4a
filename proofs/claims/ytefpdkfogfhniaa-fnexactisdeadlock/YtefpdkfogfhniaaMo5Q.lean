/- A moment's steps, as far as the first one: the walk of (impl.moment).steps. -/
import Derived.Test.YtefpdkfogfhniaaMo4Q
import Derived.Test.YtefpdkfogfhniaaMoLQ
namespace Go.Proofs.Ytefpdkfogfhniaa
open Go.RowKit
attribute [local go_sem] Oper.semAt_some

set_option maxHeartbeats 2000000 in
set_option maxRecDepth 100000 in
theorem steps_first (e : Sy) (C : Nat → Value) (f : St) (D : Nat → Value) (W : World) (hH : Have e C f D W) (hds : ∀ (i : Nat) (p : Pr), e.ps[i]? = some p → ∀ (k : Nat) (d : Ed), p.es[k]? = some d → desc d.g ≤ 1048576) (b base : Nat) (es : Array MapEntry) (hR : Recv W b base (rcN e f e.ps.length 0) es) (n l : Nat) (Jx : World → Prop)
    (hY : ∀ (m : Nat) (x0 x1 x2 x3 : Int) (W1 : World), Below W.heap.size W W1 → YieldAt Fence.wide m Try.prog l #[.agg #[.int .i64 x0, .int .i64 x1, .int .i64 x2, .int .i64 x3]] W1 fun e' W' => e' = .returned (.bool false) ∧ Jx W') :
    CallsIn Fence.wide n Try.prog 49 #[.agg #[C 0, C 1, D 0, D 1, .map (some b)], .func (.yield l) #[] #[]] W fun e' W' => (∃ v, e' = .returned v) ∧ ((steps e f = [] ∧ Below W.heap.size W W') ∨ (steps e f ≠ [] ∧ Jx W')) := by
  have hsy := (stOk_sy hH.ok).1
  have h3 : e.ps.length ≤ 3 := syOk_le hsy
  obtain ⟨A1, cap1, b1, off1, q1, hP⟩ := hH.all
  have HP := Lib.hid hP
  have HS := Lib.hid hsy
  have HH := Lib.hid hH
  have HDs := Lib.hid hds
  have HYd := Lib.hid hY
  have HRv := Lib.hid hR
  obtain ⟨c0, hc0⟩ : ∃ c0, c0 = C 0 := ⟨_, rfl⟩
  obtain ⟨u0, hu0⟩ : ∃ u0, u0 = D 0 := ⟨_, rfl⟩
  obtain ⟨u1, hu1⟩ : ∃ u1, u1 = D 1 := ⟨_, rfl⟩
  have HRdy : Hid (∀ (n : Nat) (wl : World), Below W.heap.size W wl → ∀ (i : Nat), i < e.ps.length → ∀ (d : Ed) (n0 n1 : Int) (a2 : Option Addr) (l2 cp2 : Nat), Lies wl wl.heap.size d.g (.int .i64 n0) (.int .i64 n1) (.slice a2 l2 cp2) → valid d.g = true → desc d.g ≤ 1048576 → ∀ (x1 x5 x6 x7 x8 x9 : Value),
      CallsIn Fence.wide n Try.prog 63 #[.agg #[c0, .slice A1 e.ps.length cap1, u0, u1, .map (some b)], .int .i64 i, .agg #[.int .i64 d.fr, x1, .int .i64 n0, .int .i64 n1, .slice a2 l2 cp2, x5, x6, x7, x8, x9]] wl fun e' w' => e' = .returned (.bool (rdyB f i d)) ∧ Below wl.heap.size wl w') := fun n wl hb i hi d n0 n1 a2 l2 cp2 hg hv hd x1 x5 x6 x7 x8 x9 => by
    have := readyI_any e C f D wl (HH.out.later hb) (.map (some b)) i hi d n0 n1 a2 l2 cp2 hg hv hd x1 x5 x6 x7 x8 x9
    rw [q1, ← hc0, ← hu0, ← hu1] at this
    exact callsIn_wide.2 this
  have HEd : Hid (∀ (n : Nat) (wl : World), Below W.heap.size W wl → ∀ (i k : Nat) (p : Pr) (d : Ed), e.ps[i]? = some p → p.es[k]? = some d →
      CallsIn Fence.wide n Try.prog 64 #[.agg #[c0, .slice A1 e.ps.length cap1, u0, u1, .map (some b)], .int .i64 i, .int .i64 k, .func (.yield l) #[] #[]] wl fun e' W' =>
        ((d.sy ≠ 0 ∧ ∀ j : Nat, j < e.ps.length → j ≠ i → rcN e f e.ps.length 0 j d.sy = []) ∧ e' = .returned (.bool true) ∧ Below wl.heap.size wl W') ∨
        ((d.sy = 0 ∨ ∃ j : Nat, j < e.ps.length ∧ j ≠ i ∧ rcN e f e.ps.length 0 j d.sy ≠ []) ∧ e' = .returned (.bool false) ∧ Jx W')) := fun n wl hb i k p d hp hd => by
    have := edge_first e C f D wl (HH.out.later hb) b base es (HRv.out.under hb) i k p d hp hd n l Jx (fun m x0 x1 x2 x3 W1 h1 => HYd.out m x0 x1 x2 x3 W1 (hb.trans (h1.mono hb.size)))
    rw [q1, ← hc0, ← hu0, ← hu1] at this
    exact this
  rw [q1, ← hc0, ← hu0, ← hu1]
  clear hsy hH hP hc0 hu0 hu1 hY hR hds q1 HYd HRv HH
  refine callsIn_of_wp Try.func49 rfl trivial ?_ rfl
  simp only [Try.ntmps49, List.size_toArray, List.length_cons, List.length_nil, Nat.reduceAdd, Nat.reduceSub, Array.replicate_succ, Array.replicate_zero, List.push_toArray, List.append_toArray, List.nil_append, List.cons_append]
  gi_wp2_with fail
  gi_loopw [12] (fun v wl => ∃ j : Nat, j ≤ e.ps.length ∧ v = .int .i64 j ∧ Hid (acc (stPr e f) (e.ps.take j) = []) ∧ Hid (Below W.heap.size W wl) ∧ Hid (Row wl W.heap.size 74 #[c0, .slice A1 e.ps.length cap1, u0, u1, .map (some b)])) (fun v _ => e.ps.length - (intOf v).toNat)
  case atStart => exact ⟨0, Nat.zero_le _, rfl, rfl, (Below.refl _ _).alloc (Nat.le_refl _) _, Row.new _ _ _⟩
  case round =>
    obtain ⟨j, hj, rfl, HN, HB, HM⟩ := hrel
    by_cases hlt : j < e.ps.length
    · obtain ⟨p, hp⟩ : ∃ p, e.ps[j]? = some p := ⟨_, List.getElem?_eq_getElem hlt⟩
      have hpo := (syOk_pr HS.out hp).1
      have h6 := prOk_le hpo
      obtain ⟨rfl, hb1, y0, A3, cap3, b3, off3, y1, y2⟩ := HP.out j p hp
      have z0 := (HB.out.cell (p := ⟨b1, off1 + j * 2, none⟩) hb1).trans y0
      have z1 := (HB.out.cell (p := ⟨b1, off1 + j * 2 + 1, none⟩) hb1).trans y1
      have Hp := Lib.hid hp
      have HPo := Lib.hid hpo
      have HY2 := Lib.hid y2
      have HB3 : Hid (Below W.heap.size W (wr.alloc (.cells #[.int .i64 p.loc, .slice A3 p.es.length cap3] 85))) := HB.out.alloc HB.out.size _
      have HM3 : Hid (Row (wr.alloc (.cells #[.int .i64 p.loc, .slice A3 p.es.length cap3] 85)) W.heap.size 74 #[c0, .slice (some ⟨b1, off1, none⟩) e.ps.length cap1, u0, u1, .map (some b)]) := HM.out.under ((Below.refl _ _).alloc (Nat.le_refl _) _) HM.out.lt
      clear hp hpo y0 y1 y2 HM HB
      gi_wp2_with fail
      clear z0 z1
      gi_loopw [20] (fun v wl => ∃ k : Nat, k ≤ p.es.length ∧ v = .int .i64 k ∧ Hid (acc (stE e f j) (p.es.take k) = []) ∧ Hid (Below W.heap.size W wl) ∧ Hid (Row wl W.heap.size 74 #[c0, .slice (some ⟨b1, off1, none⟩) e.ps.length cap1, u0, u1, .map (some b)])) (fun v _ => p.es.length - (intOf v).toNat)
      case atStart => exact ⟨0, Nat.zero_le _, rfl, rfl, HB3, HM3⟩
      case round =>
        clear HB3 HM3
        obtain ⟨k, hk, rfl, HK, HB, HM⟩ := hrel
        by_cases hlk : k < p.es.length
        · obtain ⟨d, hd⟩ : ∃ d, p.es[k]? = some d := ⟨_, List.getElem?_eq_getElem hlk⟩
          obtain ⟨rfl, hb3, n0, n1, a2, l2, cp2, m0, m1, a3, l3, cp3, ⟨k0, k1, k2, k3, k4, k5, k6, k7, k8, k9⟩, hg⟩ := HY2.out k d hd
          obtain ⟨hvd, hs1, hs2⟩ := prOk_edge HPo.out hd
          have HVd := Lib.hid hvd
          have Hd := Lib.hid hd
          have HDd := Lib.hid (HDs.out j p Hp.out k d hd)
          have hcA : ∀ (q o : Nat), q < W.heap.size → wr.cell? ⟨q, o, none⟩ = W.cell? ⟨q, o, none⟩ := fun q o hq => HB.out.cell (p := ⟨q, o, none⟩) hq
          rw [← hcA b3 _ hb3] at k0 k1 k2 k3 k4 k5 k6 k7 k8 k9
          obtain ⟨W4, hW4⟩ : ∃ W4, W4 = wr.alloc (.cells #[.int .i64 d.fr, .int .i64 d.to, .int .i64 n0, .int .i64 n1, .slice a2 l2 cp2, .int .i64 d.vr, .int .i64 m0, .int .i64 m1, .slice a3 l3 cp3, .int .i64 d.sy] 93) := ⟨_, rfl⟩
          have hb4 : Below wr.heap.size wr W4 := by rw [hW4]; exact (Below.refl _ _).alloc (Nat.le_refl _) _
          have HB4 := Lib.hid (HB.out.trans (hb4.mono HB.out.size))
          have HM4 := Lib.hid (HM.out.under hb4 HM.out.lt)
          have HG4 := Lib.hid (below_more hg HB4.out HB4.out.size)
          have hwlt : W.heap.size < wr.heap.size := HM.out.lt
          have x0 : wr.cell? ⟨W.heap.size, 0, none⟩ = some c0 := HM.out.cell 0
          have x1 : wr.cell? ⟨W.heap.size, 1, none⟩ = some (.slice (some ⟨b1, off1, none⟩) e.ps.length cap1) := HM.out.cell 1
          have x2 : wr.cell? ⟨W.heap.size, 2, none⟩ = some u0 := HM.out.cell 2
          have x3 : wr.cell? ⟨W.heap.size, 3, none⟩ = some u1 := HM.out.cell 3
          have x4 : wr.cell? ⟨W.heap.size, 4, none⟩ = some (.map (some b)) := HM.out.cell 4
          have HW4 := Lib.hid hW4
          obtain ⟨o, ho⟩ : ∃ o, o = rdyB f j d := ⟨_, rfl⟩
          have HO := Lib.hid ho
          clear ho hd hvd hg hcA hb4 hW4 HB HM
          gi_wp2_with fail
          rw [← HW4.out]
          refine ⟨trivial, fun h => (by cases h), (HRdy.out (n - 1) W4 HB4.out j hlt d n0 n1 a2 l2 cp2 HG4.out HVd.out HDd.out _ _ _ _ _ _).mono ?_⟩
          rintro e' w5 ⟨rfl, hb5⟩
          rw [← HO.out]
          have HB5 := Lib.hid (HB4.out.trans (hb5.mono HB4.out.size))
          have HM5 := Lib.hid (HM4.out.under hb5 HM4.out.lt)
          clear hb5 HB4 HM4 HG4 x0 x1 x2 x3 x4 k0 k1 k2 k3 k4 k5 k6 k7 k8 k9
          cases o
          · have HK2 : Hid (acc (stE e f j) (p.es.take (k + 1)) = []) := by
              show _ = _
              rw [acc_take_succ Hd.out, HK.out, stE_none (.inr HO.out.symm)]
              rfl
            gi_wp2_with fail
            refine ⟨trivial, ?_⟩
            gi_wp2_with fail
            go_roundw
            case rel => exact ⟨k + 1, by omega, by go_num, HK2, HB5, HM5⟩
            case measure => simp [intOf]; omega
          · have x0 : w5.cell? ⟨W.heap.size, 0, none⟩ = some c0 := HM5.out.cell 0
            have x1 : w5.cell? ⟨W.heap.size, 1, none⟩ = some (.slice (some ⟨b1, off1, none⟩) e.ps.length cap1) := HM5.out.cell 1
            have x2 : w5.cell? ⟨W.heap.size, 2, none⟩ = some u0 := HM5.out.cell 2
            have x3 : w5.cell? ⟨W.heap.size, 3, none⟩ = some u1 := HM5.out.cell 3
            have x4 : w5.cell? ⟨W.heap.size, 4, none⟩ = some (.map (some b)) := HM5.out.cell 4
            gi_wp2_with fail
            refine ⟨trivial, fun h => (by cases h), (HEd.out (n - 1) w5 HB5.out j k p d Hp.out Hd.out).mono ?_⟩
            rintro e' w6 (⟨⟨hn1, hn2⟩, rfl, hb6⟩ | ⟨hne, rfl, hjx⟩)
            · have HK2 : Hid (acc (stE e f j) (p.es.take (k + 1)) = []) := by
                show _ = _
                rw [acc_take_succ Hd.out, HK.out, stE_nil hn1 hn2]
                rfl
              have HB6 := Lib.hid (HB5.out.trans (hb6.mono HB5.out.size))
              have HM6 := Lib.hid (HM5.out.under hb6 HM5.out.lt)
              clear hb6 hn1 hn2 x0 x1 x2 x3 x4
              gi_wp2_with fail
              go_roundw
              case rel => exact ⟨k + 1, by omega, by go_num, HK2, HB6, HM6⟩
              case measure => simp [intOf]; omega
            · have HF : Hid (steps e f ≠ [] ∧ Jx w6) := by
                refine ⟨fun hnil => ?_, hjx⟩
                have h1 := acc_nil_iff.1 hnil j p Hp.out
                exact stE_ne HO.out.symm hne (acc_nil_iff.1 h1 k d Hd.out)
              clear hne hjx x0 x1 x2 x3 x4
              gi_wp2_with fail
              refine bodyPost_ret (results_none rfl _ _ _) rfl ?_
              exact ⟨⟨_, rfl⟩, .inr HF.out⟩
        · have hkk : k = p.es.length := by omega
          subst hkk
          have HN2 : Hid (acc (stPr e f) (e.ps.take (j + 1)) = []) := by
            show _ = _
            have h1 := HK.out
            rw [acc_full] at h1
            rw [acc_take_succ Hp.out, HN.out]
            unfold stPr
            rw [h1]
            rfl
          gi_wp2_with fail
          go_roundw
          case rel => exact ⟨j + 1, by omega, by go_num, HN2, HB, HM⟩
          case measure => simp [intOf]; omega
    · have hjj : j = e.ps.length := by omega
      subst hjj
      have HF : Hid (steps e f = [] ∧ Below W.heap.size W wr) := by
        refine ⟨?_, HB.out⟩
        have h1 := HN.out
        rw [acc_full] at h1
        exact h1
      gi_wp2_with fail
      go_end0
      exact ⟨⟨_, rfl⟩, .inl HF.out⟩

end Go.Proofs.Ytefpdkfogfhniaa

/- The walk of spec.l3Steps. -/
import Derived.Test.YtefpdkfogfhniaaSp2Q
namespace Go.Proofs.Ytefpdkfogfhniaa
open Go.RowKit

theorem stE_none {e : Sy} {f : St} {i k : Nat} {d : Ed} (h : d.sy < 0 ∨ rdyB f i d = false) : stE e f i k d = [] := by
  unfold stE
  rw [if_pos]
  rcases h with h | h
  · simp [h]
  · simp [h]
theorem stE_one {e : Sy} {f : St} {i k : Nat} {d : Ed} (h1 : d.sy = 0) (h2 : rdyB f i d = true) : stE e f i k d = [⟨i, k, -1, -1⟩] := by
  unfold stE
  rw [if_neg (by simp [h1, h2]), if_pos h1]
theorem stE_parts {e : Sy} {f : St} {i k : Nat} {d : Ed} (h1 : 0 < d.sy) (h2 : rdyB f i d = true) : stE e f i k d = parts e f d.sy i k := by
  unfold stE
  rw [if_neg (by simp [h2]; omega), if_neg (by omega)]
theorem cellsS_one : ∀ (l : List Stp), ∀ u ∈ cellsS l, u.oneCell' = true := by
  intro l u hu
  simp only [cellsS, List.mem_flatMap, cells4, List.mem_cons, List.not_mem_nil, or_false] at hu
  obtain ⟨s, _, rfl | rfl | rfl | rfl⟩ := hu <;> rfl

set_option maxHeartbeats 2000000 in
set_option maxRecDepth 100000 in
theorem stepsS_any (e : Sy) (C : Nat → Value) (f : St) (D : Nat → Value) (w : World) (hH : Have e C f D w) :
    Calls Try.prog 46 #[.agg #[C 0, C 1], .agg #[D 0, D 1]] w (StpsPost (steps e f) w) := by
  obtain ⟨ti, hi0, hz0, hz1, hz2⟩ := info_parts Try.info53
  have hsy := (stOk_sy hH.ok).1
  have h3 : e.ps.length ≤ 3 := syOk_le hsy
  obtain ⟨A1, cap1, b1, off1, q1, hP⟩ := hH.proc
  have HP := Lib.hid hP
  have HS := Lib.hid hsy
  have HH := Lib.hid hH
  obtain ⟨c0, hc0⟩ : ∃ c0, c0 = C 0 := ⟨_, rfl⟩
  obtain ⟨u0, hu0⟩ : ∃ u0, u0 = D 0 := ⟨_, rfl⟩
  obtain ⟨u1, hu1⟩ : ∃ u1, u1 = D 1 := ⟨_, rfl⟩
  have HRdy : Hid (∀ (wl : World), Below w.heap.size w wl → ∀ (i k : Nat) (p : Pr) (d : Ed), e.ps[i]? = some p → p.es[k]? = some d → Calls Try.prog 60 #[.agg #[c0, .slice A1 e.ps.length cap1], .agg #[u0, u1], .int .i64 i, .int .i64 k] wl fun e' w' => e' = .returned (.bool (rdyB f i d)) ∧ Below wl.heap.size wl w') := fun wl hb i k p d hp hd => by
    have := readyS_any e C f D wl (HH.out.later hb) i k p d hp hd
    rw [q1, ← hc0, ← hu0, ← hu1] at this
    exact this
  have HPts : Hid (∀ (wl : World), Below w.heap.size w wl → ∀ (i k : Nat) (p : Pr) (d : Ed), e.ps[i]? = some p → p.es[k]? = some d → Calls Try.prog 61 #[.agg #[c0, .slice A1 e.ps.length cap1], .agg #[u0, u1], .int .i64 i, .int .i64 k] wl (StpsPost (parts e f d.sy i k) wl)) := fun wl hb i k p d hp hd => by
    have := partsS_any e C f D wl (HH.out.later hb) i k p d hp hd
    rw [q1, ← hc0, ← hu0, ← hu1] at this
    exact this
  rw [q1, ← hc0, ← hu0, ← hu1]
  obtain ⟨W1, hW1⟩ : ∃ W1, W1 = ((w.alloc (.cells #[c0, .slice A1 e.ps.length cap1] 33)).alloc (.cells #[u0, u1] 28)) := ⟨_, rfl⟩
  obtain ⟨W2, hW2⟩ : ∃ W2, W2 = W1.alloc (.cells #[] 53) := ⟨_, rfl⟩
  have hM0 : Mid c0 (.slice A1 e.ps.length cap1) u0 u1 w W2 [] 0 W1.heap.size 0 := by
    have hsz : W1.heap.size = w.heap.size + 2 := by rw [hW1]; simp
    obtain ⟨r1, r2, r3⟩ := rows2 w 33 28 #[c0, .slice A1 e.ps.length cap1] #[u0, u1]
    rw [← hW1] at r1 r2 r3
    have r4 := Row.new W1 53 #[]
    rw [← hW2] at r4
    have hb : Below W1.heap.size W1 W2 := by rw [hW2]; exact (Below.refl _ _).alloc (Nat.le_refl _) _
    rw [hsz] at r4 hb ⊢
    exact ⟨rfl, r3.trans (hb.mono (by omega)), r1.under hb (by omega), r2.under hb (by omega), ⟨rfl, .inr ⟨w.heap.size + 2, 0, #[], rfl, Nat.le_refl _, r4, Nat.le_refl _, Nat.zero_le _, rfl, rfl⟩⟩⟩
  have HM0 := Lib.hid hM0
  have HW2 := Lib.hid hW2
  have HW1 := Lib.hid hW1
  clear hsy hH q1 hP hc0 hu0 hu1 hM0 hW2 hW1
  go_enter Try.func46, Try.ntmps46
  go_upto_region 1 with fail
  rw [← HW1.out]
  go_upto_region 2 with fail
  rw [← HW2.out]
  go_wp2_with fail
  go_loopw [5, 6] (fun o i wl => ∃ (j g cap n : Nat), j ≤ e.ps.length ∧ o = .slice (some ⟨g, 0, none⟩) n cap ∧ i = .int .i64 j ∧ Hid (Mid c0 (.slice A1 e.ps.length cap1) u0 u1 w wl (acc (stPr e f) (e.ps.take j)) n g cap)) (fun _ i _ => e.ps.length - (intOf i).toNat)
  case atStart => exact ⟨0, W1.heap.size, 0, 0, Nat.zero_le _, rfl, rfl, HM0⟩
  case round =>
    obtain ⟨j, g, cap, n, hj, rfl, rfl, HM⟩ := hrel
    obtain ⟨_, s1⟩ := HM.out.rs.two
    by_cases hlt : j < e.ps.length
    · obtain ⟨p, hp⟩ : ∃ p, e.ps[j]? = some p := ⟨_, List.getElem?_eq_getElem hlt⟩
      have hpo := (syOk_pr HS.out hp).1
      have h6 := prOk_le hpo
      obtain ⟨rfl, hb1, A3, cap3, b3, off3, y1, y2⟩ := HP.out j p hp
      have Hp := Lib.hid hp
      have HPo := Lib.hid hpo
      have HY1 := Lib.hid y1
      have HY2 := Lib.hid y2
      clear hp hpo y1 y2
      go_wp2_with fail
      clear s1
      go_loopw [5, 7] (fun o i wl => ∃ (k g cap n : Nat), k ≤ p.es.length ∧ o = .slice (some ⟨g, 0, none⟩) n cap ∧ i = .int .i64 k ∧ Hid (Mid c0 (.slice (some ⟨b1, off1, none⟩) e.ps.length cap1) u0 u1 w wl (acc (stPr e f) (e.ps.take j) ++ acc (stE e f j) (p.es.take k)) n g cap)) (fun _ i _ => p.es.length - (intOf i).toNat)
      case atStart => exact ⟨0, g, cap, n, Nat.zero_le _, rfl, rfl, by rw [List.take_zero, acc_nil, List.append_nil]; exact HM⟩
      case round =>
        clear HM HM0
        obtain ⟨k, g2, cap2', n2, hk, rfl, rfl, HK⟩ := hrel
        obtain ⟨s0, s1⟩ := HK.out.rs.two
        obtain ⟨t0, t1⟩ := HK.out.rt.two
        have y1 := (HK.out.below.cell (p := ⟨b1, off1 + j * 2 + 1, none⟩) hb1).trans HY1.out
        by_cases hlk : k < p.es.length
        · obtain ⟨d, hd⟩ : ∃ d, p.es[k]? = some d := ⟨_, List.getElem?_eq_getElem hlk⟩
          obtain ⟨rfl, hb3, y2⟩ := HY2.out k d hd
          have y3 := (HK.out.below.cell (p := ⟨b3, off3 + k * 10 + 9, none⟩) hb3).trans y2
          have Hd := Lib.hid hd
          have hnl : n2 ≤ 500 := by
            have a1 := HK.out.len
            have a2 := acc_length (F := stE e f j) (K := 18) (l := p.es) (fun k x _ => stE_le HS.out) k hk
            have a3 := acc_length (F := stPr e f) (K := 108) (l := e.ps) (fun k x hx => stPr_le HS.out (syOk_pr HS.out hx).1) j hj
            rw [List.length_append] at a1
            omega
          obtain ⟨sy, hsd⟩ : ∃ sy, sy = d.sy := ⟨_, rfl⟩
          rw [← hsd] at y3
          have HSD := Lib.hid hsd
          clear y2 hd hsd
          by_cases hneg : sy < 0
          · have tn : decide (sy < 0) = true := by simp [hneg]
            have HK2 : Hid (Mid c0 (.slice (some ⟨b1, off1, none⟩) e.ps.length cap1) u0 u1 w wr (acc (stPr e f) (e.ps.take j) ++ acc (stE e f j) (p.es.take (k + 1))) n2 g2 cap2') := by
              show Mid _ _ _ _ _ _ _ _ _ _
              rw [acc_take_succ Hd.out, stE_none (.inl (by rw [← HSD.out]; exact hneg)), List.append_nil]
              exact HK.out
            clear HK
            go_wp2_with fail
            go_roundw
            case rel => exact ⟨k + 1, g2, cap2', n2, by omega, rfl, by go_num, HK2⟩
            case measure => simp [intOf]; omega
          · have tn : decide (sy < 0) = false := by simp [hneg]
            obtain ⟨o, ho⟩ : ∃ o, o = rdyB f j d := ⟨_, rfl⟩
            have HO := Lib.hid ho
            clear ho
            go_wp2_with fail
            refine (HRdy.out wr HK.out.below j k p d Hp.out Hd.out).mono ?_
            rintro e' w1 ⟨rfl, hbw⟩
            rw [← HO.out]
            have HK1 := Lib.hid (HK.out.step hbw)
            clear hbw HK s0 s1 t0 t1 y1 y3
            cases o
            · have HK2 : Hid (Mid c0 (.slice (some ⟨b1, off1, none⟩) e.ps.length cap1) u0 u1 w w1 (acc (stPr e f) (e.ps.take j) ++ acc (stE e f j) (p.es.take (k + 1))) n2 g2 cap2') := by
                show Mid _ _ _ _ _ _ _ _ _ _
                rw [acc_take_succ Hd.out, stE_none (.inr HO.out.symm), List.append_nil]
                exact HK1.out
              clear HK1
              go_wp2_with fail
              go_roundw
              case rel => exact ⟨k + 1, g2, cap2', n2, by omega, rfl, by go_num, HK2⟩
              case measure => simp [intOf]; omega
            · have hzw : w.heap.size + 2 ≤ w1.heap.size := HK1.out.rt.lt
              obtain ⟨s0, s1⟩ := HK1.out.rs.two
              obtain ⟨t0, t1⟩ := HK1.out.rt.two
              by_cases hz : sy = 0
              · subst hz
                go_wp2_with (at_builtin; refine wpList_append_own _ rfl (.tmp 50) (.tmp 54) 42 rfl (w.heap.size + 2) 53 ti (.agg #[.int .i64 0, .int .i64 0, .int .i64 0, .int .i64 0]) 4 32 Try.underlying42 hi0 hz0 hz1 hz2 rfl (by decide) (.slice (some ⟨g2, 0, none⟩) n2 cap2') n2 _ rfl (HK1.out.own.alloc _) ⟨w1.heap.size, 0, none⟩ 1 1 (cellsS [⟨j, k, -1, -1⟩]) rfl rfl (cells_new w1 #[.int .i64 j, .int .i64 k, .int .i64 (-1), .int .i64 (-1)] 53) (cellsS_one _) (by unfold maxLen; omega) (by omega) (by simp; omega) ?_; intro v' w3 hown' hgrow hnil)
                obtain ⟨g3, cap3', rfl, hM3⟩ := (HK1.out.step ((Below.refl _ _).alloc (Nat.le_refl _) _)).app (m := [⟨j, k, -1, -1⟩]) rfl hown' hgrow (fun h => by have := (hnil.1 h).1; cases this)
                have HK2 : Hid (Mid c0 (.slice (some ⟨b1, off1, none⟩) e.ps.length cap1) u0 u1 w w3 (acc (stPr e f) (e.ps.take j) ++ acc (stE e f j) (p.es.take (k + 1))) (n2 + 1) g3 cap3') := by
                  show Mid _ _ _ _ _ _ _ _ _ _
                  rw [acc_take_succ Hd.out, stE_one HSD.out.symm HO.out.symm, ← List.append_assoc]
                  exact hM3
                clear HK1 hM3 hown' hgrow hnil
                go_wp2_with fail
                go_roundw
                case rel => exact ⟨k + 1, g3, cap3', n2 + 1, by omega, rfl, by go_num, HK2⟩
                case measure => simp [intOf]; omega
              · have tz : (sy == 0) = false := by rw [beq_eq_false_iff_ne]; exact hz
                go_wp2_with fail
                refine (HPts.out w1 HK1.out.below j k p d Hp.out Hd.out).mono ?_
                rintro e' w2 ⟨gp, capp, rfl, hop, hbw⟩
                have HK3 := Lib.hid (HK1.out.step hbw)
                have HOP := Lib.hid hop
                obtain ⟨m, hm⟩ : ∃ m, m = (parts e f d.sy j k).length := ⟨_, rfl⟩
                have hml : m ≤ 18 := by rw [hm]; exact parts_le HS.out
                have hzw2 : w.heap.size + 2 ≤ w2.heap.size := HK3.out.rt.lt
                rw [← hm] at HOP ⊢
                have HMm := Lib.hid hm
                clear hbw HK1 s0 s1 t0 t1 hop hm
                go_wp2_with (at_builtin; refine wpList_append_own _ rfl (.tmp 56) (.tmp 61) 42 rfl (w.heap.size + 2) 53 ti (.agg #[.int .i64 0, .int .i64 0, .int .i64 0, .int .i64 0]) 4 32 Try.underlying42 hi0 hz0 hz1 hz2 rfl (by decide) (.slice (some ⟨g2, 0, none⟩) n2 cap2') n2 _ rfl HK3.out.own ⟨gp, 0, none⟩ m capp (cellsS (parts e f d.sy j k)) rfl HOP.out.1 (HOP.out.cells (g := gp) rfl) (cellsS_one _) (by unfold maxLen; omega) (by omega) hzw2 ?_; intro v' w3 hown' hgrow hnil)
                obtain ⟨g3, cap3', rfl, hM3⟩ := HK3.out.app (m := parts e f d.sy j k) HMm.out hown' hgrow (fun h => by have := (hnil.1 h).1; cases this)
                have HK2 : Hid (Mid c0 (.slice (some ⟨b1, off1, none⟩) e.ps.length cap1) u0 u1 w w3 (acc (stPr e f) (e.ps.take j) ++ acc (stE e f j) (p.es.take (k + 1))) (n2 + m) g3 cap3') := by
                  show Mid _ _ _ _ _ _ _ _ _ _
                  rw [acc_take_succ Hd.out, stE_parts (by rw [← HSD.out]; omega) HO.out.symm, ← List.append_assoc]
                  exact hM3
                clear HK3 hM3 hown' hgrow hnil
                go_wp2_with fail
                go_roundw
                case rel => exact ⟨k + 1, g3, cap3', n2 + m, by omega, rfl, by go_num, HK2⟩
                case measure => simp [intOf]; omega
        · have hkk : k = p.es.length := by omega
          subst hkk
          have HK2 : Hid (Mid c0 (.slice (some ⟨b1, off1, none⟩) e.ps.length cap1) u0 u1 w wr (acc (stPr e f) (e.ps.take (j + 1))) n2 g2 cap2') := by
            show Mid _ _ _ _ _ _ _ _ _ _
            rw [acc_take_succ Hp.out]
            have := HK.out
            rw [acc_full] at this
            exact this
          clear HK
          go_wp2_with fail
          go_roundw
          case rel => exact ⟨j + 1, g2, cap2', n2, by omega, rfl, by go_num, HK2⟩
          case measure => simp [intOf]; omega
    · have hjj : j = e.ps.length := by omega
      subst hjj
      have HF : Hid (StpsPost (steps e f) w (.returned (.slice (some ⟨g, 0, none⟩) n cap)) wr) := by
        have a1 := HM.out.len
        have a2 := HM.out.own
        rw [acc_full] at a1 a2
        subst a1
        refine ⟨g, cap, rfl, ?_, HM.out.below⟩
        exact owns_base (Nat.le_add_right _ 2) a2
      clear HM
      go_wp2_with fail
      go_ret
      exact HF.out

end Go.Proofs.Ytefpdkfogfhniaa

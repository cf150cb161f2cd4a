/- The walk of impl.momentOf. -/
import Derived.Test.YtefpdkfogfhniaaMo2Q
namespace Go.Proofs.Ytefpdkfogfhniaa
open Go.RowKit

theorem addr_add_block (a : Addr) (q : Nat) : (a.add q).block = a.block := by
  unfold Addr.add
  split <;> rfl

set_option maxHeartbeats 2000000 in
set_option maxRecDepth 100000 in
theorem momentOf_any (e : Sy) (C : Nat → Value) (f : St) (D : Nat → Value) (w : World) (hH : Have e C f D w) (hds : ∀ (i : Nat) (p : Pr), e.ps[i]? = some p → ∀ (k : Nat) (d : Ed), p.es[k]? = some d → desc d.g ≤ 1048576) :
    Calls Try.prog 48 #[.agg #[C 0, C 1], .agg #[D 0, D 1]] w fun e' w' => ∃ (b : Nat) (es : Array MapEntry), e' = .returned (.agg #[C 0, C 1, D 0, D 1, .map (some b)]) ∧ w.heap.size ≤ b ∧ Recv w' b (b + 2) (rcN e f e.ps.length 0) es ∧ Below w.heap.size w w' := by
  obtain ⟨ti, hi0, hz0, hz1, hz2⟩ := info_parts Try.info3
  have hsy := (stOk_sy hH.ok).1
  have h3 : e.ps.length ≤ 3 := syOk_le hsy
  obtain ⟨A1, cap1, b1, off1, q1, hP⟩ := hH.all
  have HP := Lib.hid hP
  have HS := Lib.hid hsy
  have HH := Lib.hid hH
  have HDs := Lib.hid hds
  obtain ⟨c0, hc0⟩ : ∃ c0, c0 = C 0 := ⟨_, rfl⟩
  obtain ⟨u0, hu0⟩ : ∃ u0, u0 = D 0 := ⟨_, rfl⟩
  obtain ⟨u1, hu1⟩ : ∃ u1, u1 = D 1 := ⟨_, rfl⟩
  have HRdy : Hid (∀ (wl : World), Below w.heap.size w wl → ∀ (M : Value) (i : Nat), i < e.ps.length → ∀ (d : Ed) (n0 n1 : Int) (a2 : Option Addr) (l2 cp2 : Nat), Lies wl wl.heap.size d.g (.int .i64 n0) (.int .i64 n1) (.slice a2 l2 cp2) → valid d.g = true → desc d.g ≤ 1048576 → ∀ (x1 x5 x6 x7 x8 x9 : Value),
      Calls Try.prog 63 #[.agg #[c0, .slice A1 e.ps.length cap1, u0, u1, M], .int .i64 i, .agg #[.int .i64 d.fr, x1, .int .i64 n0, .int .i64 n1, .slice a2 l2 cp2, x5, x6, x7, x8, x9]] wl fun e' w' => e' = .returned (.bool (rdyB f i d)) ∧ Below wl.heap.size wl w') := fun wl hb M i hi d n0 n1 a2 l2 cp2 hg hv hd x1 x5 x6 x7 x8 x9 => by
    have := readyI_any e C f D wl (HH.out.later hb) M i hi d n0 n1 a2 l2 cp2 hg hv hd x1 x5 x6 x7 x8 x9
    rw [q1, ← hc0, ← hu0, ← hu1] at this
    exact this
  rw [q1, ← hc0, ← hu0, ← hu1]
  obtain ⟨⟨Ai, li, ci, f0⟩, ⟨Al, ll, cl, f1⟩, ⟨Av, lv, cv, f2⟩⟩ := hH.forms
  rw [← hc0] at f0
  rw [← hu0] at f1
  rw [← hu1] at f2
  subst f0 f1 f2
  obtain ⟨W1, hW1⟩ : ∃ W1, W1 = ((w.alloc (.cells #[(.slice Ai li ci), .slice A1 e.ps.length cap1] 33)).alloc (.cells #[(.slice Al ll cl), (.slice Av lv cv)] 28)).alloc (.cells #[.slice none 0 0, .slice none 0 0, .slice none 0 0, .slice none 0 0, .map none] 74) := ⟨_, rfl⟩
  have hsz : W1.heap.size = w.heap.size + 3 := by rw [hW1]; simp
  obtain ⟨W2, hW2⟩ : ∃ W2, W2 = (W1.alloc (.map #[] 0)).alloc (.cells #[(.slice Ai li ci), .slice A1 e.ps.length cap1, (.slice Al ll cl), (.slice Av lv cv), .map (some (w.heap.size + 3))] 74) := ⟨_, rfl⟩
  obtain ⟨r1, r2, r3⟩ := rows2 w 33 28 #[(.slice Ai li ci), .slice A1 e.ps.length cap1] #[(.slice Al ll cl), (.slice Av lv cv)]
  have hbw : Below (w.heap.size + 2) ((w.alloc (.cells #[(.slice Ai li ci), .slice A1 e.ps.length cap1] 33)).alloc (.cells #[(.slice Al ll cl), (.slice Av lv cv)] 28)) W1 := by rw [hW1]; exact (Below.refl _ _).alloc (by simp) _
  have r4 : Row W1 (w.heap.size + 2) 74 #[.slice none 0 0, .slice none 0 0, .slice none 0 0, .slice none 0 0, .map none] := by
    have h := Row.new ((w.alloc (.cells #[(.slice Ai li ci), .slice A1 e.ps.length cap1] 33)).alloc (.cells #[(.slice Al ll cl), (.slice Av lv cv)] 28)) 74 #[.slice none 0 0, .slice none 0 0, .slice none 0 0, .slice none 0 0, .map none]
    rw [← hW1] at h
    simpa using h
  have r1' := r1.under hbw (by omega)
  have r2' := r2.under hbw (by omega)
  have hb1w : Below w.heap.size w W1 := r3.trans (hbw.mono (by omega))
  have hb12 : Below (w.heap.size + 3) W1 W2 := by rw [hW2]; exact ((Below.refl _ _).alloc (by omega) _).alloc (by simp; omega) _
  have hM0 : MM (.slice Ai li ci) (.slice A1 e.ps.length cap1) (.slice Al ll cl) (.slice Av lv cv) w W2 (rcN e f 0 0) := by
    refine ⟨hb1w.trans (hb12.mono (by omega)), ?_, r4.under hb12 (by omega), #[], ?_, ?_, ?_, ?_, ?_, ?_, ?_⟩
    · have h := Row.new (W1.alloc (.map #[] 0)) 74 #[(.slice Ai li ci), .slice A1 e.ps.length cap1, (.slice Al ll cl), (.slice Av lv cv), .map (some (w.heap.size + 3))]
      rw [← hW2] at h
      simpa [hsz] using h
    · have h : (W1.alloc (.map #[] 0)).heap[W1.heap.size]? = some (.map #[] 0) := heap_alloc_new W1 _
      have hb : Below (w.heap.size + 4) (W1.alloc (.map #[] 0)) W2 := by rw [hW2]; exact (Below.refl _ _).alloc (by simp; omega) _
      rw [hsz] at h
      exact (hb.block _ (by omega)).trans h
    · intro j x hx; simp at hx
    · intro j x hx; simp at hx
    · intro i j x y hx; simp at hx
    · intro j x p c hx; simp at hx
    · intro i j x y hx; simp at hx
    · intro p c hr; exact absurd (rcN_zero e f p c) hr
  have HM0 := Lib.hid hM0
  have HW2 := Lib.hid hW2
  have HW1 := Lib.hid hW1
  obtain ⟨s0, s1⟩ := r1'.two
  obtain ⟨t0, t1⟩ := r2'.two
  have s2 : W2.cell? ⟨w.heap.size, 1, none⟩ = some (.slice A1 e.ps.length cap1) := (r1'.under hb12 (by omega)).cell 1
  have hmm := @run_makeMap Try.prog
  clear hsy hH q1 hP hc0 hu0 hu1 hM0 hW2 hW1 r1 r2 r3 r4 hbw r1' r2' hb1w hb12 hds
  go_enter Try.func48, Try.ntmps48
  go_upto_region 1 with fail
  rw [← HW1.out]
  go_upto_region 2 with fail
  rw [← HW2.out]
  clear s0 s1 t0 t1 hmm
  go_wp2_with fail
  clear s2
  go_loopw [18] (fun i wl => ∃ j : Nat, j ≤ e.ps.length ∧ i = .int .i64 j ∧ Hid (MM (.slice Ai li ci) (.slice A1 e.ps.length cap1) (.slice Al ll cl) (.slice Av lv cv) w wl (rcN e f j 0))) (fun i _ => e.ps.length - (intOf i).toNat)
  case atStart => exact ⟨0, Nat.zero_le _, rfl, HM0⟩
  case round =>
    obtain ⟨j, hj, rfl, HM⟩ := hrel
    clear HM0
    by_cases hlt : j < e.ps.length
    · obtain ⟨p, hp⟩ : ∃ p, e.ps[j]? = some p := ⟨_, List.getElem?_eq_getElem hlt⟩
      have hpo := (syOk_pr HS.out hp).1
      have h6 := prOk_le hpo
      obtain ⟨rfl, hb1, y0, A3, cap3, b3, off3, y1, y2⟩ := HP.out j p hp
      have z0 := (HM.out.below.cell (p := ⟨b1, off1 + j * 2, none⟩) hb1).trans y0
      have z1 := (HM.out.below.cell (p := ⟨b1, off1 + j * 2 + 1, none⟩) hb1).trans y1
      have Hp := Lib.hid hp
      have HPo := Lib.hid hpo
      have HY2 := Lib.hid y2
      obtain ⟨W3, hW3⟩ : ∃ W3, W3 = wr.alloc (.cells #[.int .i64 p.loc, .slice A3 p.es.length cap3] 85) := ⟨_, rfl⟩
      have hb3w : Below wr.heap.size wr W3 := by rw [hW3]; exact (Below.refl _ _).alloc (Nat.le_refl _) _
      have z3 : W3.cell? ⟨wr.heap.size, 1, none⟩ = some (.slice A3 p.es.length cap3) := by rw [hW3]; exact (Row.new wr 85 #[.int .i64 p.loc, .slice A3 p.es.length cap3]).cell 1
      have HM3 := Lib.hid (HM.out.step hb3w)
      have HW3 := Lib.hid hW3
      clear hp hpo y0 y1 y2 HM hW3 hb3w
      go_upto_region 5 with fail
      rw [← HW3.out]
      clear z0 z1
      go_wp2_with fail
      clear z3
      go_loopw [26] (fun i wl => ∃ k : Nat, k ≤ p.es.length ∧ i = .int .i64 k ∧ Hid (MM (.slice Ai li ci) (.slice (some ⟨b1, off1, none⟩) e.ps.length cap1) (.slice Al ll cl) (.slice Av lv cv) w wl (rcN e f j k))) (fun i _ => p.es.length - (intOf i).toNat)
      case atStart => exact ⟨0, Nat.zero_le _, rfl, HM3⟩
      case round =>
        clear HM3
        obtain ⟨k, hk, rfl, HK⟩ := hrel
        by_cases hlk : k < p.es.length
        · obtain ⟨d, hd⟩ : ∃ d, p.es[k]? = some d := ⟨_, List.getElem?_eq_getElem hlk⟩
          obtain ⟨rfl, hb3, n0, n1, a2, l2, cp2, m0, m1, a3, l3, cp3, ⟨k0, k1, k2, k3, k4, k5, k6, k7, k8, k9⟩, hg⟩ := HY2.out k d hd
          obtain ⟨hvd, hs1, hs2⟩ := prOk_edge HPo.out hd
          have HVd := Lib.hid hvd
          have Hd := Lib.hid hd
          have HDd := Lib.hid (HDs.out j p Hp.out k d hd)
          have hcA : ∀ (q o : Nat), q < w.heap.size → wr.cell? ⟨q, o, none⟩ = w.cell? ⟨q, o, none⟩ := fun q o hq => HK.out.below.cell (p := ⟨q, o, none⟩) hq
          rw [← hcA b3 _ hb3] at k0 k1 k2 k3 k4 k5 k6 k7 k8 k9
          obtain ⟨sy, hsd⟩ : ∃ sy, sy = d.sy := ⟨_, rfl⟩
          rw [← hsd] at k9 hs1 hs2
          have HSD := Lib.hid hsd
          obtain ⟨W4, hW4⟩ : ∃ W4, W4 = wr.alloc (.cells #[.int .i64 d.fr, .int .i64 d.to, .int .i64 n0, .int .i64 n1, .slice a2 l2 cp2, .int .i64 d.vr, .int .i64 m0, .int .i64 m1, .slice a3 l3 cp3, .int .i64 sy] 93) := ⟨_, rfl⟩
          have hb4w : Below wr.heap.size wr W4 := by rw [hW4]; exact (Below.refl _ _).alloc (Nat.le_refl _) _
          have r4 : Row W4 wr.heap.size 93 #[.int .i64 d.fr, .int .i64 d.to, .int .i64 n0, .int .i64 n1, .slice a2 l2 cp2, .int .i64 d.vr, .int .i64 m0, .int .i64 m1, .slice a3 l3 cp3, .int .i64 sy] := by rw [hW4]; exact Row.new _ _ _
          have HK4 := Lib.hid (HK.out.step hb4w)
          have HG4 := Lib.hid (below_more hg HK4.out.below HK4.out.below.size)
          have HR4 := Lib.hid r4
          have HW4 := Lib.hid hW4
          have v0 : W4.cell? ⟨wr.heap.size, 0, none⟩ = some (.int .i64 d.fr) := r4.cell 0
          have v1 : W4.cell? ⟨wr.heap.size, 1, none⟩ = some (.int .i64 d.to) := r4.cell 1
          have v2 : W4.cell? ⟨wr.heap.size, 2, none⟩ = some (.int .i64 n0) := r4.cell 2
          have v3 : W4.cell? ⟨wr.heap.size, 3, none⟩ = some (.int .i64 n1) := r4.cell 3
          have v4 : W4.cell? ⟨wr.heap.size, 4, none⟩ = some (.slice a2 l2 cp2) := r4.cell 4
          have v5 : W4.cell? ⟨wr.heap.size, 5, none⟩ = some (.int .i64 d.vr) := r4.cell 5
          have v6 : W4.cell? ⟨wr.heap.size, 6, none⟩ = some (.int .i64 m0) := r4.cell 6
          have v7 : W4.cell? ⟨wr.heap.size, 7, none⟩ = some (.int .i64 m1) := r4.cell 7
          have v8 : W4.cell? ⟨wr.heap.size, 8, none⟩ = some (.slice a3 l3 cp3) := r4.cell 8
          have v9 : W4.cell? ⟨wr.heap.size, 9, none⟩ = some (.int .i64 sy) := r4.cell 9
          have x0 : W4.cell? ⟨w.heap.size + 3 + 1, 0, none⟩ = some (.slice Ai li ci) := HK4.out.rm.cell 0
          have x1 : W4.cell? ⟨w.heap.size + 3 + 1, 1, none⟩ = some (.slice (some ⟨b1, off1, none⟩) e.ps.length cap1) := HK4.out.rm.cell 1
          have x2 : W4.cell? ⟨w.heap.size + 3 + 1, 2, none⟩ = some (.slice Al ll cl) := HK4.out.rm.cell 2
          have x3 : W4.cell? ⟨w.heap.size + 3 + 1, 3, none⟩ = some (.slice Av lv cv) := HK4.out.rm.cell 3
          have x4 : W4.cell? ⟨w.heap.size + 3 + 1, 4, none⟩ = some (.map (some (w.heap.size + 3))) := HK4.out.rm.cell 4
          clear hd hvd hsd hg hcA r4 hb4w hW4 HK
          by_cases hneg : sy < 0
          · have tn : decide (sy < 0) = true := by simp [hneg]
            obtain ⟨o, ho⟩ : ∃ o, o = rdyB f j d := ⟨_, rfl⟩
            have HO := Lib.hid ho
            clear ho
            go_upto_region 8 with fail
            rw [← HW4.out]
            clear k0 k1 k2 k3 k4 k5 k6 k7 k8 k9
            go_wp2_with fail
            refine (HRdy.out W4 HK4.out.below _ j hlt d n0 n1 a2 l2 cp2 HG4.out HVd.out HDd.out _ _ _ _ _ _).mono ?_
            rintro e' w5 ⟨rfl, hb5⟩
            rw [← HO.out]
            have HK5 := Lib.hid (HK4.out.step hb5)
            have HR5 := Lib.hid (HR4.out.under hb5 HR4.out.lt)
            clear hb5 v0 v1 v2 v3 v4 v5 v6 v7 v8 v9 x0 x1 x2 x3 x4 HR4 HK4 HG4
            cases o
            · have HK2 : Hid (MM (.slice Ai li ci) (.slice (some ⟨b1, off1, none⟩) e.ps.length cap1) (.slice Al ll cl) (.slice Av lv cv) w w5 (rcN e f j (k + 1))) := by
                show MM _ _ _ _ _ _ _
                rw [rcN_none Hp.out Hd.out (by rw [← HO.out, Bool.and_false])]
                exact HK5.out
              clear HK5
              go_wp2_with fail
              go_roundw
              case rel => exact ⟨k + 1, by omega, by go_num, HK2⟩
              case measure => simp [intOf]; omega
            · have e1 : IntKind.i64.wrap (-sy) = -sy := IntWalk.i64_in _ (by omega)
              have q9 : w5.cell? ⟨wr.heap.size, 9, none⟩ = some (.int .i64 sy) := HR5.out.cell 9
              obtain ⟨W6, hW6⟩ : ∃ W6, W6 = w5.alloc (.cells #[.int .i64 j, .int .i64 (-sy)] 100) := ⟨_, rfl⟩
              have hb6 : Below w5.heap.size w5 W6 := by rw [hW6]; exact (Below.refl _ _).alloc (Nat.le_refl _) _
              have r6 : Row W6 w5.heap.size 100 #[.int .i64 j, .int .i64 (-sy)] := by rw [hW6]; exact Row.new _ _ _
              obtain ⟨a0, a1⟩ := r6.two
              have HK6 := Lib.hid (HK5.out.step hb6)
              have x4 : W6.cell? ⟨w.heap.size + 3 + 1, 4, none⟩ = some (.map (some (w.heap.size + 3))) := HK6.out.rm.cell 4
              have hb7 : Below W6.heap.size W6 (W6.alloc (.cells #[.int .i64 k] 3)) := (Below.refl _ _).alloc (Nat.le_refl _) _
              have HK7 := Lib.hid (HK6.out.step hb7)
              obtain ⟨es7, hR7⟩ := HK7.out.recv
              obtain ⟨vv, jj, es8, w8, hme, hg8, hs8, hHalf⟩ := hR7.entry (p := j) (c := -sy) (by omega) ⟨⟨by omega, by omega⟩, by omega, by omega⟩ zero_ints
              have hnews : ∀ (q : Nat) (u : Value), [Value.int .i64 (k : Int)][q]? = some u → w8.cell? ((⟨W6.heap.size, 0, none⟩ : Addr).add q) = some u := fun q u hu => hg8.cell (cell_one_new W6 _ _ q u hu) (by
                have h8 : w.heap.size + 5 ≤ W6.heap.size := HK6.out.rm.lt
                rw [addr_add_block]
                intro e8
                injection e8 with e8
                dsimp only at e8
                omega)
              have hlen : (rcN e f j k j (-sy)).length ≤ 6 := by have := rcN_len (f := f) Hp.out hk (-sy); omega
              have hw8 : w.heap.size + 5 ≤ w8.heap.size := by rw [hs8]; have h8 : w.heap.size + 5 ≤ W6.heap.size := HK6.out.rm.lt; simp; omega
              obtain ⟨nn, hnn⟩ : ∃ nn, nn = (rcN e f j k j (-sy)).length := ⟨_, rfl⟩
              have HHf := Lib.hid hHalf
              have Hg8 := Lib.hid hg8
              have HNw := Lib.hid hnews
              have HW6 := Lib.hid hW6
              have HNn := Lib.hid hnn
              have hown8 := hHalf.own
              rw [← hnn] at hown8 hlen
              have HOw := Lib.hid hown8
              have hme' : (Instr.mapEntry 72 (.map (some (w.heap.size + 3))) (.agg #[.int .i64 j, .int .i64 (-sy)])).run Try.prog (W6.alloc (.cells #[.int .i64 k] 3)) = .ok (.tuple #[vv, .int .i64 jj]) w8 := hme
              clear hme hHalf hg8 hnews hW6 hb6 r6 hb7 hR7 HK5 HR5 hs8 hnn hown8
              go_upto_region 10 with fail
              rw [← HW6.out]
              clear q9
              go_wp2_with (at_builtin; refine wpList_append_own_at _ rfl (.tmp 48) (.tmp 50) 22 rfl (w.heap.size + 5) 3 ti (.int .i64 0) 1 8 Try.underlying22 hi0 hz0 hz1 hz2 rfl (by decide) vv nn _ rfl HOw.out ⟨W6.heap.size, 0, none⟩ 1 1 [.int .i64 k] rfl rfl HNw.out (by simp [Value.oneCell']) (by unfold maxLen; omega) (by omega) hw8 ?_; intro v' w9 hown' hgrow hnil hob)
              have hgs := own_ge HHf.out.own
              obtain ⟨w10, es10, hst, hg10, hs10, hR10⟩ := HHf.out.store (w1 := w9) (x := k) (by omega) (by intro e9; have := hgs _ e9.symm; omega) (by rw [← HNn.out]; exact hown') hgrow hob
              have hst' : (Instr.entryStore 72 (.map (some (w.heap.size + 3))) (.int .i64 jj) v').run Try.prog w9 = .ok () w10 := hst
              have HK2 : Hid (MM (.slice Ai li ci) (.slice (some ⟨b1, off1, none⟩) e.ps.length cap1) (.slice Al ll cl) (.slice Av lv cv) w w10 (rcN e f j (k + 1))) := by
                show MM _ _ _ _ _ _ _
                rw [rcN_some Hp.out Hd.out (by rw [← HSD.out]; exact hneg) HO.out.symm, ← HSD.out]
                exact HK7.out.push HHf.out Hg8.out hgrow hg10 hR10
              clear hown' hgrow hnil hob hst hg10 hR10 hs10 HHf HK7 HK6 hgs
              go_wp2_with fail
              rw [hst']
              go_wp2_with fail
              go_roundw
              case rel => exact ⟨k + 1, by omega, by go_num, HK2⟩
              case measure => simp [intOf]; omega
          · have tn : decide (sy < 0) = false := by simp [hneg]
            have HK2 : Hid (MM (.slice Ai li ci) (.slice (some ⟨b1, off1, none⟩) e.ps.length cap1) (.slice Al ll cl) (.slice Av lv cv) w W4 (rcN e f j (k + 1))) := by
              show MM _ _ _ _ _ _ _
              rw [rcN_none Hp.out Hd.out (by rw [← HSD.out, tn, Bool.false_and])]
              exact HK4.out
            clear HK4
            go_upto_region 8 with fail
            rw [← HW4.out]
            clear k0 k1 k2 k3 k4 k5 k6 k7 k8 k9
            go_wp2_with fail
            go_roundw
            case rel => exact ⟨k + 1, by omega, by go_num, HK2⟩
            case measure => simp [intOf]; omega
        · have hkk : k = p.es.length := by omega
          subst hkk
          have HK2 : Hid (MM (.slice Ai li ci) (.slice (some ⟨b1, off1, none⟩) e.ps.length cap1) (.slice Al ll cl) (.slice Av lv cv) w wr (rcN e f (j + 1) 0)) := by show MM _ _ _ _ _ _ _; rw [← rcN_next Hp.out]; exact HK.out
          clear HK
          go_wp2_with fail
          go_roundw
          case rel => exact ⟨j + 1, by omega, by go_num, HK2⟩
          case measure => simp [intOf]; omega
    · have hjj : j = e.ps.length := by omega
      subst hjj
      have x0 : wr.cell? ⟨w.heap.size + 3 + 1, 0, none⟩ = some (.slice Ai li ci) := HM.out.rm.cell 0
      have x1 : wr.cell? ⟨w.heap.size + 3 + 1, 1, none⟩ = some (.slice A1 e.ps.length cap1) := HM.out.rm.cell 1
      have x2 : wr.cell? ⟨w.heap.size + 3 + 1, 2, none⟩ = some (.slice Al ll cl) := HM.out.rm.cell 2
      have x3 : wr.cell? ⟨w.heap.size + 3 + 1, 3, none⟩ = some (.slice Av lv cv) := HM.out.rm.cell 3
      have x4 : wr.cell? ⟨w.heap.size + 3 + 1, 4, none⟩ = some (.map (some (w.heap.size + 3))) := HM.out.rm.cell 4
      have g0 : wr.cell? ⟨w.heap.size + 1 + 1, 0, none⟩ = some (.slice none 0 0) := HM.out.rr.cell 0
      have g1 : wr.cell? ⟨w.heap.size + 1 + 1, 1, none⟩ = some (.slice none 0 0) := HM.out.rr.cell 1
      have g2 : wr.cell? ⟨w.heap.size + 1 + 1, 2, none⟩ = some (.slice none 0 0) := HM.out.rr.cell 2
      have g3 : wr.cell? ⟨w.heap.size + 1 + 1, 3, none⟩ = some (.slice none 0 0) := HM.out.rr.cell 3
      have g4 : wr.cell? ⟨w.heap.size + 1 + 1, 4, none⟩ = some (.map none) := HM.out.rr.cell 4
      have i0 : wr.frozen? ⟨w.heap.size + 1 + 1, 0, none⟩ = false := HM.out.rr.frozen 0
      have i1 : wr.frozen? ⟨w.heap.size + 1 + 1, 1, none⟩ = false := HM.out.rr.frozen 1
      have i2 : wr.frozen? ⟨w.heap.size + 1 + 1, 2, none⟩ = false := HM.out.rr.frozen 2
      have i3 : wr.frozen? ⟨w.heap.size + 1 + 1, 3, none⟩ = false := HM.out.rr.frozen 3
      have i4 : wr.frozen? ⟨w.heap.size + 1 + 1, 4, none⟩ = false := HM.out.rr.frozen 4
      obtain ⟨Wf, hWf⟩ : ∃ Wf, Wf = ((((wr.setCell ⟨w.heap.size + 1 + 1, 0, none⟩ (.slice Ai li ci)).setCell ⟨w.heap.size + 1 + 1, 1, none⟩ (.slice A1 e.ps.length cap1)).setCell ⟨w.heap.size + 1 + 1, 2, none⟩ (.slice Al ll cl)).setCell ⟨w.heap.size + 1 + 1, 3, none⟩ (.slice Av lv cv)).setCell ⟨w.heap.size + 1 + 1, 4, none⟩ (.map (some (w.heap.size + 3))) := ⟨_, rfl⟩
      have hgf : wr.grownBy Wf (some (w.heap.size + 2)) := by
        rw [hWf]
        exact ((((grown_set wr (w.heap.size + 2) 0 _).trans (grown_set _ _ 1 _)).trans (grown_set _ _ 2 _)).trans (grown_set _ _ 3 _)).trans (grown_set _ _ 4 _)
      have rf : Row Wf (w.heap.size + 2) 74 #[.slice Ai li ci, .slice A1 e.ps.length cap1, .slice Al ll cl, .slice Av lv cv, .map (some (w.heap.size + 3))] := by
        have h := ((((HM.out.rr.set_ 0 (.slice Ai li ci)).set_ 1 (.slice A1 e.ps.length cap1)).set_ 2 (.slice Al ll cl)).set_ 3 (.slice Av lv cv)).set_ 4 (.map (some (w.heap.size + 3)))
        rw [hWf]
        simpa using h
      have o0 : Wf.cell? ⟨w.heap.size + 1 + 1, 0, none⟩ = some (.slice Ai li ci) := rf.cell 0
      have o1 : Wf.cell? ⟨w.heap.size + 1 + 1, 1, none⟩ = some (.slice A1 e.ps.length cap1) := rf.cell 1
      have o2 : Wf.cell? ⟨w.heap.size + 1 + 1, 2, none⟩ = some (.slice Al ll cl) := rf.cell 2
      have o3 : Wf.cell? ⟨w.heap.size + 1 + 1, 3, none⟩ = some (.slice Av lv cv) := rf.cell 3
      have o4 : Wf.cell? ⟨w.heap.size + 1 + 1, 4, none⟩ = some (.map (some (w.heap.size + 3))) := rf.cell 4
      obtain ⟨esf, hRf⟩ := HM.out.recv
      have HRf := Lib.hid (hRf.grown hgf (by intro e9; injection e9 with e9; omega) (fun g e9 => by injection e9 with e9; omega))
      have HBf := Lib.hid (HM.out.below.grown hgf HM.out.below.size (fun g e9 => by injection e9 with e9; omega))
      have HWf := Lib.hid hWf
      clear hWf hgf rf hRf HM
      go_wp2_with fail
      rw [← HWf.out]
      refine bodyPost_ret (v := .agg #[.slice Ai li ci, .slice A1 e.ps.length cap1, .slice Al ll cl, .slice Av lv cv, .map (some (w.heap.size + 3))]) (by simp [results, Try.results48, go_sem, o0, o1, o2, o3, o4]) rfl ?_
      exact ⟨w.heap.size + 3, esf, rfl, by omega, HRf.out, HBf.out⟩

end Go.Proofs.Ytefpdkfogfhniaa

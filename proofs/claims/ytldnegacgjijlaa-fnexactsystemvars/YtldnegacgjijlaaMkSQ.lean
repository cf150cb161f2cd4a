/- Marks of numbers, edges, processes and systems: nothing outside their rows is written. -/
import Derived.Test.YtldnegacgjijlaaM1
import Derived.Test.YtldnegacgjijlaaMkI
import Derived.Test.YtldnegacgjijlaaVpQ
namespace Go.Proofs.Ytldnegacgjijlaa
open Go.RowKit

def MkbSaid (e : Ex) : Prop := ∀ (m : Int) (lo hi : Nat) (c : Value) (w : World), Sk w lo hi e c → desc e ≤ 1048576 → 0 ≤ m → m + 2 * desc e ≤ 1099511627776 → Calls Try.prog 37 #[c, .int .i64 m] w fun e' w' => e' = .returned (.int .i64 (m + 2 * desc e)) ∧ Scr lo hi w w'

set_option maxHeartbeats 400000 in
set_option maxRecDepth 100000 in
theorem mkb_any : ∀ e : Ex, MkbSaid e := by
  intro e
  induction e using Ex.ind with
  | h k v kids ih =>
    intro m lo hi c w hS hd hm0 hm
    obtain ⟨A, cap, g, C2, rfl, hO⟩ := hS.open_
    have HIH := Lib.hid ih
    have HS := Lib.hid hS
    simp only [desc] at hd hm
    have hlen : kids.length ≤ 1048576 := by have := descL_length kids; omega
    clear ih hS hO
    go_enter Try.func37, Try.ntmps37
    go_wp2_with fail
    go_loopw [1, 5] (fun mm i wl => ∃ (j : Nat) (M : Int), j ≤ kids.length ∧ i = .int .i64 j ∧ mm = .int .i64 M ∧ Hid (M = m + 2 * descL (kids.take j)) ∧ Hid (Scr lo hi w wl)) (fun _ i _ => kids.length - (intOf i).toNat)
    case atStart => exact ⟨0, m, Nat.zero_le _, rfl, rfl, by show _ = _; simp [descL], Scr.refl _ _ _⟩
    case round =>
      obtain ⟨j, M, hj, rfl, rfl, HM, HSc⟩ := hrel
      by_cases hlt : j < kids.length
      · obtain ⟨x, hx⟩ : ∃ x, kids[j]? = some x := ⟨_, List.getElem?_eq_getElem hlt⟩
        have hT := descL_take_succ hx
        have hTl := descL_take_le kids (j + 1)
        have hM := HM.out
        have hdx : desc x ≤ 1048576 := by omega
        obtain ⟨D, hD⟩ : ∃ D : Nat, D = desc x := ⟨_, rfl⟩
        have hMr : 0 ≤ M ∧ M + 2 + 2 * D ≤ 1099511627776 := by omega
        obtain ⟨hMa, hMb⟩ := hMr
        have HM' : Hid (M + 2 + 2 * D = m + 2 * descL (kids.take (j + 1))) := by show _ = _; omega
        have HX := Lib.hid hx
        have HD := Lib.hid hD
        obtain ⟨A', cap', g', C2', hc, hO⟩ := (HS.out.scr HSc.out).open_
        injection hc with hc1 hc2 hc3
        subst hc1 hc3
        obtain ⟨rfl, hlo, hhi, ⟨cs, hrow, hcs⟩, ⟨n0, f0⟩, ⟨n1, f1⟩, f2, hsk⟩ := hO j x hx
        obtain ⟨A2, l2, p2, hC2⟩ := hsk.form
        rw [hC2] at f2
        have z0 := hrow.frozen (j * 3)
        have z1 := hrow.frozen (j * 3 + 1)
        have s1 := Scr.set_ (i := j * 3) hlo hhi hrow (by omega) (by omega) M
        have hrow1 := hrow.set_ (j * 3) (.int .i64 M)
        have s2 := s1.trans (Scr.set_ (i := j * 3 + 1) hlo hhi hrow1 (by simp; omega) (by omega) (M + 1))
        have hgl : g' < wr.heap.size := hrow.lt
        have HSk : Hid (Sk ((wr.setCell ⟨g', j * 3, none⟩ (.int .i64 M)).setCell ⟨g', j * 3 + 1, none⟩ (.int .i64 (M + 1))) lo hi x (.slice A2 l2 p2)) := by
          have h := hsk.scr s2
          rw [hC2] at h
          exact h
        have HSc2 := Lib.hid (HSc.out.trans s2)
        clear hx hT hTl hM hD hO s1 s2 hrow hrow1 hsk hcs HM hC2
        go_wp2_with fail
        refine (HIH.out j x HX.out (M + 1 + 1) lo hi _ _ HSk.out hdx (by omega) (by have := HD.out; omega)).mono ?_
        rintro e' w2 ⟨rfl, hs2⟩
        rw [← HD.out]
        have HSc3 := Lib.hid (HSc2.out.trans hs2)
        clear hs2
        go_wp2_with fail
        go_roundw
        case rel => exact ⟨j + 1, M + 2 + 2 * D, by omega, by go_num, by go_num, HM', HSc3⟩
        case measure => simp [intOf]; omega
      · have hjj : j = kids.length := by omega
        subst hjj
        have hM := HM.out
        rw [List.take_length] at hM
        have HMf := Lib.hid hM
        clear hM
        go_wp2_with fail
        go_ret
        exact ⟨ret_int (by rw [HMf.out]; rfl), HSc.out⟩

/-- What lies apart, of an edge. -/
theorem ed_sep_open {w : World} {lo hi : Nat} {e : Ed} {C : Nat → Value} (h : Lay.ed.sep w lo hi e C) : ∃ m, lo ≤ m ∧ m ≤ hi ∧ Sep w lo m e.g (C 2) (C 3) (C 4) ∧ Sep w m hi e.vl (C 6) (C 7) (C 8) := by
  obtain ⟨m1, a1, b1, _, m2, a2, b2, _, m3, a3, b3, hg, m4, a4, b4, _, m5, a5, b5, hv, _⟩ := h
  exact ⟨m3, by omega, b3, hg.more (by omega) (Nat.le_refl _), hv.more a4 b5⟩

set_option maxHeartbeats 2000000 in
set_option maxRecDepth 100000 in
theorem mkEdS_any (es : List Ed) (C : Nat → Value) (m : Int) (lo hi : Nat) (w : World) (h : (Lay.ed.slice 101).sep w lo hi es C) (hhi : hi ≤ w.heap.size) (hz : Lay.ed.szL es ≤ 1048576) (hm0 : 0 ≤ m) (hm1 : m ≤ 549755813888) :
    Calls Try.prog 106 #[C 0, .int .i64 m] w fun e' w' => ∃ M : Int, e' = .returned (.int .i64 M) ∧ m ≤ M ∧ M ≤ m + 8 * Lay.ed.szL es ∧ Kept lo hi w w' := by
  obtain ⟨A, cap, g, cs, D, s, hC, hl, h3, h4, h5, h6⟩ := h
  rw [hC]
  have H6 := Lib.hid h6
  have H3 := Lib.hid h3
  have H4 := Lib.hid h4
  have H5 := Lib.hid h5
  have HZ := Lib.hid hz
  have HH := Lib.hid hhi
  have hlen : es.length ≤ 1048576 := by have := Lay.ed.szL_length es; omega
  clear hC hl h3 h4 h5 h6 hz hhi
  go_enter Try.func106, Try.ntmps106
  go_wp2_with fail
  go_loopw [1, 5] (fun mm i wl => ∃ (j : Nat) (M : Int), j ≤ es.length ∧ i = .int .i64 j ∧ mm = .int .i64 M ∧ m ≤ M ∧ M ≤ 549772591104 ∧ Hid (M ≤ m + 8 * Lay.ed.szL (es.take j)) ∧ Hid (Tail g 101 (j * 10) w wl) ∧ Hid (Beyond g (s j) w wl) ∧ Hid (Kept lo hi w wl)) (fun _ i _ => es.length - (intOf i).toNat)
  case atStart => exact ⟨0, m, Nat.zero_le _, rfl, rfl, Int.le_refl _, by omega, by show _ ≤ _; simp [Lay.szL], Tail.refl _ _ _ _, fun _ _ _ _ => rfl, Kept.refl _ _ _⟩
  case round =>
    obtain ⟨j, M, hj, rfl, rfl, hM0, hM1, HM, HT, HBy, HK⟩ := hrel
    by_cases hlt : j < es.length
    · obtain ⟨x, hx⟩ : ∃ x, es[j]? = some x := ⟨_, List.getElem?_eq_getElem hlt⟩
      obtain ⟨rfl, a2, a3, a4, a5, a6, a7⟩ := H6.out j x hx
      have hsj := mono_to H3.out j 0 (Nat.zero_le _) (by omega)
      have hsn := mono_to H3.out es.length (j + 1) (by omega) (Nat.le_refl _)
      have hs1 := H3.out j hlt
      have hlo := H4.out
      have hhi := H5.out
      have hhw := HH.out
      have hks := HK.out.size
      obtain ⟨mid, o1, o2, sg, sv⟩ := ed_sep_open a7
      obtain ⟨y0, y1, ya, yl, yc, y0', y1', ya', yl', yc', ⟨q0, q1, q2, q3, q4, q5, q6, q7, q8, q9⟩, _⟩ := ed_lit (Lay.ed.sep_lies a7)
      have hdg : desc x.g + desc x.vl ≤ 1048576 := by have := Lay.ed.szL_mem hx; have := HZ.out; have := ed_sz x; omega
      have hTs := Lay.ed.szL_take_succ hx
      rw [ed_sz] at hTs
      have hMm : M + 8 + 2 * desc x.g + 2 * desc x.vl ≤ m + 8 * Lay.ed.szL (es.take (j + 1)) := by have := HM.out; omega
      have hMb : m + 8 * Lay.ed.szL (es.take (j + 1)) ≤ 549772591104 - 0 := by
        have h1 := Lay.ed.szL_take_len es (j + 1)
        have h2 := HZ.out
        omega
      obtain ⟨dg, hdg1⟩ : ∃ dg : Nat, dg = desc x.g := ⟨_, rfl⟩
      obtain ⟨dv, hdv1⟩ : ∃ dv : Nat, dv = desc x.vl := ⟨_, rfl⟩
      rw [← hdg1, ← hdv1] at hdg hMm
      have HDg := Lib.hid hdg1
      have HDv := Lib.hid hdv1
      have HMm := Lib.hid hMm
      have hMx : M + 8 + 2 * dg + 2 * dv ≤ 549772591104 := by omega
      -- the row as it stands
      obtain ⟨cs', r1, e1, e2⟩ := HT.out cs a5
      have cell : ∀ q, q < 10 → wr.cell? ⟨g, j * 10 + q, none⟩ = some (D j q) := fun q hq => by
        rw [r1.cell, e2 _ (by omega)]
        exact a6 q hq
      have c0 : wr.cell? ⟨g, j * 10, none⟩ = some (.int .i64 x.fr) := by rw [← q0]; exact cell 0 (by omega)
      have c1 : wr.cell? ⟨g, j * 10 + 1, none⟩ = some (.int .i64 x.to) := by rw [← q1]; exact cell 1 (by omega)
      have c2 : wr.cell? ⟨g, j * 10 + 2, none⟩ = some (.int .i64 y0) := by rw [← q2]; exact cell 2 (by omega)
      have c3 : wr.cell? ⟨g, j * 10 + 3, none⟩ = some (.int .i64 y1) := by rw [← q3]; exact cell 3 (by omega)
      have c4 : wr.cell? ⟨g, j * 10 + 4, none⟩ = some (.slice ya yl yc) := by rw [← q4]; exact cell 4 (by omega)
      have c5 : wr.cell? ⟨g, j * 10 + 5, none⟩ = some (.int .i64 x.vr) := by rw [← q5]; exact cell 5 (by omega)
      have c6 : wr.cell? ⟨g, j * 10 + 6, none⟩ = some (.int .i64 y0') := by rw [← q6]; exact cell 6 (by omega)
      have c7 : wr.cell? ⟨g, j * 10 + 7, none⟩ = some (.int .i64 y1') := by rw [← q7]; exact cell 7 (by omega)
      have c8 : wr.cell? ⟨g, j * 10 + 8, none⟩ = some (.slice ya' yl' yc') := by rw [← q8]; exact cell 8 (by omega)
      have c9 : wr.cell? ⟨g, j * 10 + 9, none⟩ = some (.int .i64 x.sy) := by rw [← q9]; exact cell 9 (by omega)
      have z0 := r1.frozen (j * 10)
      have z1 := r1.frozen (j * 10 + 1)
      have z2 := r1.frozen (j * 10 + 2)
      have z3 := r1.frozen (j * 10 + 3)
      have l0 := r1.lt
      rw [q2, q3, q4] at sg
      rw [q6, q7, q8] at sv
      have hgn : g < s j ∨ s (j + 1) ≤ g := by omega
      obtain ⟨W1, hW1⟩ : ∃ W1, W1 = ((((wr.setCell ⟨g, j * 10, none⟩ (.int .i64 M)).setCell ⟨g, j * 10 + 1, none⟩ (.int .i64 (M + 1))).setCell ⟨g, j * 10 + 2, none⟩ (.int .i64 (M + 1 + 1))).setCell ⟨g, j * 10 + 3, none⟩ (.int .i64 (M + 1 + 1 + 1))) := ⟨_, rfl⟩
      have hk1 : ∀ q, q ≠ g → W1.heap[q]? = wr.heap[q]? := fun q hq => by
        rw [hW1, Below.heap_setCell _ _ _ _ (by simpa using hq), Below.heap_setCell _ _ _ _ (by simpa using hq), Below.heap_setCell _ _ _ _ (by simpa using hq), Below.heap_setCell _ _ _ _ (by simpa using hq)]
      have hS1 : W1.heap.size = wr.heap.size := by rw [hW1]; simp
      have hR1 : Row W1 g 101 ((((cs'.setIfInBounds (j * 10) (.int .i64 M)).setIfInBounds (j * 10 + 1) (.int .i64 (M + 1))).setIfInBounds (j * 10 + 2) (.int .i64 (M + 1 + 1))).setIfInBounds (j * 10 + 3) (.int .i64 (M + 1 + 1 + 1))) := by
        rw [hW1]; exact (((r1.set_ _ _).set_ _ _).set_ _ _).set_ _ _
      have hT1 : Tail g 101 ((j + 1) * 10) w W1 := by
        rw [hW1]
        exact (((HT.out.set_ (m := (j + 1) * 10) (by omega) (by omega) _).set_ (m := (j + 1) * 10) (by omega) (Nat.le_refl _) _).set_ (m := (j + 1) * 10) (by omega) (Nat.le_refl _) _).set_ (m := (j + 1) * 10) (by omega) (Nat.le_refl _) _
      have hB1 : Beyond g (s j) w W1 := by rw [hW1]; exact (((HBy.out.set_ _).set_ _).set_ _).set_ _
      have hK1 : Kept lo hi w W1 := by
        rw [hW1]
        exact ((((HK.out.trans (Kept.set_ lo hi _ a2 a3 _ _)).trans (Kept.set_ lo hi _ a2 a3 _ _)).trans (Kept.set_ lo hi _ a2 a3 _ _)).trans (Kept.set_ lo hi _ a2 a3 _ _))
      have HSk1 : Hid (Sk W1 (s j) mid x.g (.slice ya yl yc)) := (sg.keep fun q b1 b2 => hB1 q b1 (by omega) (by omega)).own.sk
      have HSv1 : Hid (Sep W1 mid (s (j + 1)) x.vl (.int .i64 y0') (.int .i64 y1') (.slice ya' yl' yc')) := sv.keep fun q b1 b2 => hB1 q (by omega) (by omega) (by omega)
      have HR1 := Lib.hid hR1
      have HT1 := Lib.hid hT1
      have HB1 := Lib.hid hB1
      have HK1 := Lib.hid hK1
      have HW1 := Lib.hid hW1
      have HE2 : Hid (∀ q, j * 10 + 4 ≤ q → cs'[q]? = cs[q]?) := fun q hq => e2 q (by omega)
      have HA6 := Lib.hid a6
      have hcsz : j * 10 + 9 < cs'.size := by
        have h := cell 9 (by omega)
        rw [r1.cell] at h
        rcases Nat.lt_or_ge (j * 10 + 9) cs'.size with hh | hh
        · exact hh
        · rw [Array.getElem?_eq_none hh] at h; cases h
      have HCell : Hid (∀ q, q < 10 → cs'[j * 10 + q]? = some (D j q)) := fun q hq => by rw [← r1.cell]; exact cell q hq
      have HQ : Hid (D j 5 = .int .i64 x.vr ∧ D j 6 = .int .i64 y0' ∧ D j 7 = .int .i64 y1' ∧ D j 8 = .slice ya' yl' yc' ∧ D j 9 = .int .i64 x.sy) := ⟨q5, q6, q7, q8, q9⟩
      clear hW1 hk1 hR1 hT1 hB1 hK1 sg sv a5 a6 a7 e1 e2 cell r1 q0 q1 q2 q3 q4 q5 q6 q7 q8 q9 hTs hMm hx hdg1 hdv1
      go_wp2_with fail
      rw [← HW1.out]
      refine (mkb_any x.g (M + 1 + 1 + 1 + 1) (s j) mid _ _ HSk1.out (by have := HDg.out; omega) (by omega) (by have := HDg.out; omega)).mono ?_
      rintro e' w2 ⟨rfl, hs2⟩
      rw [← HDg.out, show M + 1 + 1 + 1 + 1 + 2 * (dg : Int) = M + 4 + 2 * dg by omega]
      have hk2 := hs2.kept
      have hz2 := hk2.size
      have hR2 := HR1.out.kept hk2 (by omega)
      have HT2 := Lib.hid (HT1.out.kept hk2 (by omega))
      have HB2 := Lib.hid (HB1.out.kept (by omega) hk2 o1 (Nat.le_refl _))
      have HK2 := Lib.hid (HK1.out.trans (hk2.more (by omega) (by omega)))
      have HSv2 := Lib.hid (HSv1.out.keep fun q b1 b2 => hk2.other q (by omega) (.inr (by omega)))
      have get2 : ∀ q, 3 < q → q < 10 → w2.cell? ⟨g, j * 10 + q, none⟩ = some (D j q) := fun q h1 h2 => by
        rw [hR2.cell]
        rw [Array.getElem?_setIfInBounds, if_neg (by omega), Array.getElem?_setIfInBounds, if_neg (by omega), Array.getElem?_setIfInBounds, if_neg (by omega), Array.getElem?_setIfInBounds, if_neg (by omega)]
        exact HCell.out q h2
      clear c0 c1 c2 c3 c4 c5 c6 c7 c8 c9 z0 z1 z2 z3
      obtain ⟨q5, q6, q7, q8, q9⟩ := HQ.out
      have c5 := get2 5 (by omega) (by omega)
      have c6 := get2 6 (by omega) (by omega)
      have c7 := get2 7 (by omega) (by omega)
      have c8 := get2 8 (by omega) (by omega)
      rw [q5] at c5
      rw [q6] at c6
      rw [q7] at c7
      rw [q8] at c8
      have z5 := hR2.frozen (j * 10 + 5)
      have z6 := hR2.frozen (j * 10 + 6)
      have z7 := hR2.frozen (j * 10 + 7)
      have l2 := hR2.lt
      obtain ⟨W3, hW3⟩ : ∃ W3, W3 = (((w2.setCell ⟨g, j * 10 + 5, none⟩ (.int .i64 (M + 4 + 2 * dg))).setCell ⟨g, j * 10 + 6, none⟩ (.int .i64 (M + 4 + 2 * dg + 1))).setCell ⟨g, j * 10 + 7, none⟩ (.int .i64 (M + 4 + 2 * dg + 1 + 1))) := ⟨_, rfl⟩
      have hS3 : W3.heap.size = w2.heap.size := by rw [hW3]; simp
      have hT3 : Tail g 101 ((j + 1) * 10) w W3 := by
        rw [hW3]
        exact ((HT2.out.set_ (m := (j + 1) * 10) (by omega) (Nat.le_refl _) _).set_ (m := (j + 1) * 10) (by omega) (Nat.le_refl _) _).set_ (m := (j + 1) * 10) (by omega) (Nat.le_refl _) _
      have hB3 : Beyond g mid w W3 := by rw [hW3]; exact ((HB2.out.set_ _).set_ _).set_ _
      have hK3 : Kept lo hi w W3 := by
        rw [hW3]
        exact ((HK2.out.trans (Kept.set_ lo hi _ a2 a3 _ _)).trans (Kept.set_ lo hi _ a2 a3 _ _)).trans (Kept.set_ lo hi _ a2 a3 _ _)
      have hR3 := ((hR2.set_ (j * 10 + 5) (.int .i64 (M + 4 + 2 * dg))).set_ (j * 10 + 6) (.int .i64 (M + 4 + 2 * dg + 1))).set_ (j * 10 + 7) (.int .i64 (M + 4 + 2 * dg + 1 + 1))
      rw [← hW3] at hR3
      have hk3 : ∀ q, q ≠ g → W3.heap[q]? = w2.heap[q]? := fun q hq => by
        rw [hW3, Below.heap_setCell _ _ _ _ (by simpa using hq), Below.heap_setCell _ _ _ _ (by simpa using hq), Below.heap_setCell _ _ _ _ (by simpa using hq)]
      have HSk3 : Hid (Sk W3 mid (s (j + 1)) x.vl (.slice ya' yl' yc')) := (HSv2.out.keep fun q b1 b2 => hk3 q (by omega)).own.sk
      have HR3 := Lib.hid hR3
      have HT3 := Lib.hid hT3
      have HB3 := Lib.hid hB3
      have HK3 := Lib.hid hK3
      have HW3 := Lib.hid hW3
      have HR2 := Lib.hid hR2
      clear hW3 hk3 hR3 hT3 hB3 hK3 hR2 get2 hs2 hk2 q5 q6 q7 q8 q9
      go_wp2_with fail
      rw [← HW3.out]
      refine (mkb_any x.vl (M + 4 + 2 * dg + 1 + 1 + 1) mid (s (j + 1)) _ _ HSk3.out (by have := HDv.out; omega) (by omega) (by have := HDv.out; omega)).mono ?_
      rintro e' w4 ⟨rfl, hs4⟩
      rw [← HDv.out, show M + 4 + 2 * (dg : Int) + 1 + 1 + 1 + 2 * (dv : Int) = M + 7 + 2 * dg + 2 * dv by omega]
      have hk4 := hs4.kept
      have hz4 := hk4.size
      have hR4 := HR3.out.kept hk4 (by omega)
      have c9 : w4.cell? ⟨g, j * 10 + 9, none⟩ = some (.int .i64 x.sy) := by
        rw [hR4.cell]
        rw [Array.getElem?_setIfInBounds, if_neg (by omega), Array.getElem?_setIfInBounds, if_neg (by omega), Array.getElem?_setIfInBounds, if_neg (by omega)]
        rw [Array.getElem?_setIfInBounds, if_neg (by omega), Array.getElem?_setIfInBounds, if_neg (by omega), Array.getElem?_setIfInBounds, if_neg (by omega), Array.getElem?_setIfInBounds, if_neg (by omega)]
        rw [HCell.out 9 (by omega), HQ.out.2.2.2.2]
      have z9 := hR4.frozen (j * 10 + 9)
      have l4 := hR4.lt
      have HT4 := Lib.hid ((HT3.out.kept hk4 (by omega)).set_ (m := (j + 1) * 10) (i := j * 10 + 9) (by omega) (Nat.le_refl _) (.int .i64 (M + 7 + 2 * dg + 2 * dv)))
      have HB4 := Lib.hid ((HB3.out.kept (by omega) hk4 o2 (Nat.le_refl _)).set_ (i := j * 10 + 9) (.int .i64 (M + 7 + 2 * dg + 2 * dv)))
      have HK4 := Lib.hid ((HK3.out.trans (hk4.more (by omega) (by omega))).trans (Kept.set_ lo hi _ a2 a3 (j * 10 + 9) (.int .i64 (M + 7 + 2 * dg + 2 * dv))))
      clear hk4 hs4 hR4 c5 c6 c7 c8 z5 z6 z7
      go_wp2_with fail
      go_roundw
      case rel => exact ⟨j + 1, M + 8 + 2 * dg + 2 * dv, by omega, by go_num, by go_num, by omega, by omega, HMm, HT4, HB4, HK4⟩
      case measure => simp [intOf]; omega
    · have hjj : j = es.length := by omega
      subst hjj
      have HMf : Hid (M ≤ m + 8 * Lay.ed.szL es) := by have := HM.out; rw [List.take_length] at this; exact this
      go_wp2_with fail
      go_ret
      exact ⟨M, rfl, hM0, HMf.out, HK.out⟩

end Go.Proofs.Ytldnegacgjijlaa

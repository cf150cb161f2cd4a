/- The walks of spec.l5Push at every formula and of spec.NormalForm. -/
import Derived.Test.YthcohnceehndfaaDoorNfU
import Derived.Test.YthcohnceehndfaaDoorNfV
import Derived.Test.YthcohnceehndfaaDoorNfV2
namespace Go.Proofs.YthcohnceehndfaaDoor
open Go.RowKit

theorem push_any : ∀ d : Nat, PushSaid d := by
  intro d
  induction d with
  | zero => intro ng e c0 c1 c2 w h; simp [fShape] at h
  | succ d ih =>
    rintro ng ⟨k, v, kids⟩ c0 c1 c2 w hs hL
    obtain ⟨K, cp, kb, ko, C0, C1, C2, rfl, rfl, rfl, hl, hO⟩ := hL.open_
    have HK : ∀ (i : Nat) (x : Ex), kids[i]? = some x → fShape d x = true := fun i x hx => fShape_kid hs hx
    rcases fRoot_cases (fShape_root hs) with ⟨rfl, rfl, hn⟩ | ⟨rfl, h0, h2, hn⟩ | ⟨hk, rfl, hn⟩ | ⟨hk, rfl, hn⟩
    · rw [nf_leaf d (!ng) 0 kids (.inl rfl)]
      exact push_leaf ng (.inl rfl)
    · rw [nf_leaf d (!ng) v kids (.inr rfl)]
      exact push_leaf ng (.inr rfl)
    · match kids, hn with
      | [x], _ =>
        obtain ⟨rfl, _⟩ := hO 0 x rfl
        have hx := HK 0 x rfl
        rcases hk with rfl | rfl | rfl | rfl
        · exact push_not d ih ng x cp kb ko C0 C1 C2 w hx hO
        · exact push_next d ih ng x cp kb ko C0 C1 C2 w hx hO
        · rw [nf_ev]
          cases ng
          · exact push_u d ih 9 false x cp kb ko C0 C1 C2 w hx hO (.inl ⟨rfl, rfl⟩)
          · exact push_r d ih 9 true x cp kb ko C0 C1 C2 w hx hO (.inl ⟨rfl, rfl⟩)
        · rw [nf_al]
          cases ng
          · exact push_r d ih 10 false x cp kb ko C0 C1 C2 w hx hO (.inr ⟨rfl, rfl⟩)
          · exact push_u d ih 10 true x cp kb ko C0 C1 C2 w hx hO (.inr ⟨rfl, rfl⟩)
    · match kids, hn with
      | [x, y], _ =>
        obtain ⟨rfl, _⟩ := hO 0 x rfl
        have hx := HK 0 x rfl
        have hy := HK 1 y rfl
        rw [nf_two d (!ng) 0 x y hk]
        cases ng
        · exact push_two_false d ih k x y cp kb ko C0 C1 C2 w hx hy hO hk
        · exact push_two_true d ih k x y cp kb ko C0 C1 C2 w hx hy hO hk

set_option maxHeartbeats 2000000 in
set_option maxRecDepth 100000 in
theorem specNf_any (e : Ex) (c0 c1 c2 : Value) (w : World) (hL : Lies w w.heap.size e c0 c1 c2) (hd : desc e ≤ 1048576) :
    Calls Tryd.prog 17 #[.agg #[c0, c1, c2]] w (ObPost (nfOut e) (nfOk e) w) := by
  obtain ⟨n0, n1, a2, l2, cp2, rfl, rfl, rfl⟩ := hL.form
  obtain ⟨W2, hW2⟩ : ∃ W2, W2 = (w.alloc (.cells #[.int .i64 n0, .int .i64 n1, .slice a2 l2 cp2] 25)).alloc (.cells #[.int .i64 0, .int .i64 0, .slice none 0 0] 25) := ⟨_, rfl⟩
  have hrows := two_boxes w 25 #[.int .i64 n0, .int .i64 n1, .slice a2 l2 cp2] #[.int .i64 0, .int .i64 0, .slice none 0 0]
  rw [← hW2] at hrows
  obtain ⟨hr0, hr1, hb2⟩ := hrows
  have HW2 := Lib.hid hW2
  have HR0 := Lib.hid hr0
  have HR1 := Lib.hid hr1
  have HB2 := Lib.hid hb2
  have HL2 := Lib.hid (below_more hL hb2 hb2.size)
  have hs2 : W2.heap.size = w.heap.size + 2 := by rw [hW2]; simp
  clear hW2 hr0 hr1 hb2 hL
  obtain ⟨vb, hvb⟩ : ∃ vb, vb = fValid e := ⟨_, rfl⟩
  have HV := Lib.hid hvb
  clear hvb
  go_enter Tryd.func17, Tryd.ntmps17
  go_wp2_with fail
  rw [← HW2.out]
  refine (specFv_any _ _ _ _ _ HL2.out hd).mono ?_
  rintro e' w1 ⟨rfl, hb1⟩
  rw [← HV.out]
  have h0 := HR0.out.under hb1 HR0.out.lt
  have h1 := HR1.out.under hb1 HR1.out.lt
  have HR11 := Lib.hid h1
  have p0 : w1.cell? ⟨w.heap.size, 0, none⟩ = some (.int .i64 n0) := h0.cell 0
  have p1 : w1.cell? ⟨w.heap.size, 1, none⟩ = some (.int .i64 n1) := h0.cell 1
  have p2 : w1.cell? ⟨w.heap.size, 2, none⟩ = some (.slice a2 l2 cp2) := h0.cell 2
  have HL1 := Lib.hid (below_more HL2.out hb1 hb1.size)
  have HB1 := Lib.hid (HB2.out.trans (hb1.mono HB2.out.size))
  have hsz : w.heap.size + 2 ≤ w1.heap.size := by have := hb1.size; omega
  cases vb
  · have HO : Hid (nfOut e = zeroE) := by show _ = _; unfold nfOut; rw [← HV.out]; rfl
    have HK : Hid (nfOk e = false) := by show _ = _; unfold nfOk; rw [← HV.out]; rfl
    obtain ⟨y0, y1, y2, z0, z1, z2⟩ := h1.zs
    clear hb1 h0 h1 HR0 HR1 HB2 HW2 HL2
    go_wp2_with fail
    refine bodyPost_ret (v := .tuple #[.agg #[.int .i64 0, .int .i64 0, .slice none 0 0], .bool false]) (by simp [results, Tryd.results17, go_sem, y0, y1, y2]) rfl ?_
    have hf := sets3S HB1.out (n := w.heap.size + 1) (by omega) (.int .i64 0) (.int .i64 0) (.slice none 0 0)
    exact ⟨_, _, _, _, _, by rw [HK.out], by rw [HO.out]; exact Own.zeroF _ _ _ _, hf.1⟩
  · clear hb1 h0 h1 HR0 HR1 HB2 HW2 HL2
    obtain ⟨T, hT⟩ : ∃ T, T = nf 6 true e := ⟨_, rfl⟩
    have HO : Hid (nfOut e = onlyOut T) := by show _ = _; unfold nfOut; rw [← HV.out, hT]; rfl
    have HK : Hid (nfOk e = fValid T) := by show _ = _; unfold nfOk; rw [← HV.out, hT]; rfl
    have HDT : Hid (desc T ≤ 1048576) := by show _ ≤ _; rw [hT]; have := nf_small (Nat.le_refl 6) true e; omega
    have hP := push_any 6 false e _ _ _ w1 (fShape_of_valid HV.out) HL1.out
    rw [show (!false) = true from rfl, ← hT] at hP
    have HP := Lib.hid hP
    clear hT hP
    go_wp2_with fail
    refine HP.out.mono ?_
    rintro e' w3 ⟨i0, i1, ia, il, ic, rfl, ho3, hb3⟩
    have hs13 := hb3.size
    obtain ⟨W4, hW4⟩ : ∃ W4, W4 = w3.alloc (.cells #[.int .i64 i0, .int .i64 i1, .slice ia il ic] 25) := ⟨_, rfl⟩
    have hb4 : Below w3.heap.size w3 W4 := by rw [hW4]; exact (Below.refl _ _).alloc (Nat.le_refl _) _
    have hr4 : Row W4 w3.heap.size 25 #[.int .i64 i0, .int .i64 i1, .slice ia il ic] := by rw [hW4]; exact Row.new _ _ _
    have hs34 := hb4.size
    have HR4 := Lib.hid hr4
    have HO4 := Lib.hid (ho3.under hb4 (Nat.le_refl _))
    have HR14 := Lib.hid ((HR11.out.under hb3 HR11.out.lt).under hb4 (by have := HR11.out.lt; omega))
    have HB4 := Lib.hid ((HB1.out.trans (hb3.mono HB1.out.size)).trans (hb4.mono (by omega)))
    have HW4 := Lib.hid hW4
    clear ho3 hb3 hb4 hr4 hW4 HR11 HB1 p0 p1 p2
    go_wp2_with fail
    rw [← HW4.out]
    refine (specFv_any T _ _ _ _ (HO4.out.lies.more (by omega)) HDT.out).mono ?_
    rintro e' w5 ⟨rfl, hb5⟩
    rw [← HK.out]
    have h4 := HR4.out.under hb5 HR4.out.lt
    obtain ⟨q0, q1, q2, _⟩ := h4.zs
    have h1 := HR14.out.under hb5 HR14.out.lt
    obtain ⟨y0, y1, y2, z0, z1, z2⟩ := h1.zs
    have HO5 := Lib.hid (HO4.out.under hb5 (by omega))
    have HB5 := Lib.hid (HB4.out.trans (hb5.mono HB4.out.size))
    have hs45 := hb5.size
    obtain ⟨ok, hok⟩ : ∃ ok, ok = nfOk e := ⟨_, rfl⟩
    rw [← hok]
    rw [← hok] at HK
    have HOk := Lib.hid hok
    clear hb5 h1 h4 HB4 HR14 HO4 HR4 hok
    cases ok
    · have HOz : Hid (nfOut e = zeroE) := by show _ = _; rw [HO.out]; unfold onlyOut; rw [← HK.out]; rfl
      go_wp2_with fail
      refine bodyPost_ret (v := .tuple #[.agg #[.int .i64 0, .int .i64 0, .slice none 0 0], .bool false]) (by simp [results, Tryd.results17, go_sem, y0, y1, y2]) rfl ?_
      have hf := sets3S HB5.out (n := w.heap.size + 1) (by omega) (.int .i64 0) (.int .i64 0) (.slice none 0 0)
      exact ⟨_, _, _, _, _, by rw [← HOk.out], by rw [HOz.out]; exact Own.zeroF _ _ _ _, hf.1⟩
    · have HOz : Hid (nfOut e = T) := by show _ = _; rw [HO.out]; unfold onlyOut; rw [← HK.out]; rfl
      go_wp2_with fail
      refine bodyPost_ret (v := .tuple #[.agg #[.int .i64 i0, .int .i64 i1, .slice ia il ic], .bool true]) (by simp [results, Tryd.results17, go_sem, y0, y1, y2]) rfl ?_
      have hf := sets3S HB5.out (n := w.heap.size + 1) (by omega) (.int .i64 i0) (.int .i64 i1) (.slice ia il ic)
      exact ⟨_, _, _, _, _, by rw [← HOk.out], by rw [HOz.out]; exact HO5.out.keep (by omega) (by rw [hf.2.1]; omega) fun q q1 _ => hf.2.2 q (by omega), hf.1⟩

end Go.Proofs.YthcohnceehndfaaDoor

/- The walk of the law laws.FnExactParseAutomaton. -/
import Derived.Test.YtiikphdgnhajeaaDoorSpW
import Derived.Test.YtiikphdgnhajeaaDoorAuM
import Derived.Test.YtiikphdgnhajeaaDoorAuE
namespace Go.Proofs.YtiikphdgnhajeaaDoor
open Go.RowKit

theorem none_sepI (w : World) (lo : Nat) : (Lay.int.slice 3).sep w lo lo [] (fun _ => .slice none 0 0) :=
  ⟨none, 0, 0, #[], fun _ _ => undef, fun _ => lo, rfl, Nat.zero_le _, fun _ _ => Nat.le_refl _, Nat.le_refl _, Nat.le_refl _, fun i x hx => by simp at hx⟩
theorem none_sepB (w : World) (lo : Nat) : (Lay.bo.slice 4).sep w lo lo [] (fun _ => .slice none 0 0) :=
  ⟨none, 0, 0, #[], fun _ _ => undef, fun _ => lo, rfl, Nat.zero_le _, fun _ _ => Nat.le_refl _, Nat.le_refl _, Nat.le_refl _, fun i x hx => by simp at hx⟩
theorem AuR.none_ (w : World) (lo hi : Nat) (h : lo ≤ hi) : AuR w lo hi [] [] [] (.slice none 0 0) (.slice none 0 0) (.slice none 0 0) :=
  ⟨lo, lo, lo, lo, lo, lo, ⟨Nat.le_refl _, h, Nat.le_refl _, h, Nat.le_refl _, h, .inl (Nat.le_refl _), .inl (Nat.le_refl _), .inl (Nat.le_refl _)⟩, none_sepI w lo, none_sepB w lo, none, 0, rfl, .inl rfl⟩
theorem row_sepI {w : World} {g cap : Nat} {zs : List Int} {cs : Array Value} (h : Row w g 3 cs) (hk : ∀ (i : Nat) (z : Int), zs[i]? = some z → cs[i]? = some (.int .i64 z)) (hl : zs.length ≤ maxLen) : (Lay.int.slice 3).sep w g (g + 1) zs (fun _ => .slice (some ⟨g, 0, none⟩) zs.length cap) := by
  refine ⟨_, cap, g, cs, fun i _ => .int .i64 (zs.getD i 0), fun _ => g + 1, rfl, hl, fun _ _ => Nat.le_refl _, by dsimp only; omega, Nat.le_refl _, fun i x hx => ⟨rfl, Nat.le_refl _, by omega, .inl (by dsimp only; omega), h, fun j hj => ?_, ?_⟩⟩
  · have hj0 : j = 0 := by have : j < 1 := hj; omega
    subst hj0
    show cs[i * 1 + 0]? = some (.int .i64 (zs.getD i 0))
    rw [Nat.mul_one, Nat.add_zero, hk i x hx]
    simp [List.getD, hx]
  · show Value.int .i64 (zs.getD i 0) = .int .i64 x
    simp [List.getD, hx]
theorem row_sepB {w : World} {g cap : Nat} {zs : List Bool} {cs : Array Value} (h : Row w g 4 cs) (hk : ∀ (i : Nat) (z : Bool), zs[i]? = some z → cs[i]? = some (.bool z)) (hl : zs.length ≤ maxLen) : (Lay.bo.slice 4).sep w g (g + 1) zs (fun _ => .slice (some ⟨g, 0, none⟩) zs.length cap) := by
  refine ⟨_, cap, g, cs, fun i _ => .bool (zs.getD i false), fun _ => g + 1, rfl, hl, fun _ _ => Nat.le_refl _, by dsimp only; omega, Nat.le_refl _, fun i x hx => ⟨rfl, Nat.le_refl _, by omega, .inl (by dsimp only; omega), h, fun j hj => ?_, ?_⟩⟩
  · have hj0 : j = 0 := by have : j < 1 := hj; omega
    subst hj0
    show cs[i * 1 + 0]? = some (.bool (zs.getD i false))
    rw [Nat.mul_one, Nat.add_zero, hk i x hx]
    simp [List.getD, hx]
  · show Value.bool (zs.getD i false) = .bool x
    simp [List.getD, hx]
theorem OwnT.tri {w : World} {base g cap : Nat} {n : Nat} {es : List Tr} (h : OwnT w base (.slice (some ⟨g, 0, none⟩) n cap) es) : base ≤ g ∧ (∃ cur, Row w g 45 cur) ∧ TrI w g (g + 1) es (.slice (some ⟨g, 0, none⟩) n cap) := by
  rcases h.2 with ⟨hv, _⟩ | ⟨g', cap', cur, hv, hb, hh, _, _, _, ht⟩
  · cases hv
  · injection hv with k1 k2 k3
    injection k1 with k1
    injection k1 with k1
    subst k1 k2 k3
    have hr : Row w g 45 cur := hh
    refine ⟨hb, ⟨cur, hr⟩, _, _, rfl, .inr ⟨g, cur, rfl, Nat.le_refl _, by omega, hr, fun i s hs => ?_⟩⟩
    obtain ⟨c0, c1, c2, c3⟩ := cellsT_at hs
    have key : ∀ (j : Nat) (u : Value), (cellsT es)[j]? = some u → cur[j]? = some u := fun j u hu => by
      rw [← ht, List.getElem?_take] at hu
      split at hu
      · simpa using hu
      · cases hu
    exact ⟨key _ _ c0, key _ _ c1, key _ _ c2, key _ _ c3⟩

open Classical in
/-- The automaton that has this text, and whether there is one. -/
noncomputable def auT (t : ByteArray) : Au := if h : ∃ a, IsAu t a then h.choose else ⟨[], [], []⟩
open Classical in
noncomputable def okT (t : ByteArray) : Bool := decide (∃ a, IsAu t a)
theorem auT_is {t : ByteArray} {a : Au} (h : IsAu t a) : auT t = a ∧ okT t = true := by
  have hx : ∃ a, IsAu t a := ⟨a, h⟩
  refine ⟨?_, by unfold okT; simp only [hx, decide_true]⟩
  unfold auT
  rw [dif_pos hx]
  exact au_inj hx.choose_spec h
theorem auT_no {t : ByteArray} (h : NoAu t) : auT t = ⟨[], [], []⟩ ∧ okT t = false := by
  have hx : ¬ ∃ a, IsAu t a := fun ⟨a, h1, h2, h3⟩ => h a h1 h2 h3
  refine ⟨?_, by unfold okT; rw [decide_eq_false_iff_not]; exact hx⟩
  unfold auT
  rw [dif_neg hx]
theorem auT_small (t : ByteArray) : (auT t).ini.length ≤ 64 ∧ (auT t).acc.length ≤ 64 ∧ (auT t).es.length ≤ 2048 ∧ TrsR (auT t).es := by
  by_cases hx : ∃ a, IsAu t a
  · obtain ⟨a, ha⟩ := hx
    rw [(auT_is ha).1]
    obtain ⟨_, p2, p3, _⟩ := auOk_parts ha.1
    exact ⟨(auOk_ini ha.1).2, p2, p3, ha.2.1⟩
  · have : auT t = ⟨[], [], []⟩ := by unfold auT; rw [dif_neg hx]
    rw [this]
    exact ⟨Nat.zero_le _, Nat.zero_le _, Nat.zero_le _, fun e he => by cases he⟩

theorem implPa2_any (t : ByteArray) (w : World) (hg : Glob w) (hs : t.size ≤ 1048576) : Calls Tryd.prog 11 #[.string t] w fun e' w' => ∃ v0 v1 v2 : Value, e' = .returned (.tuple #[.agg #[v0, v1, v2], .bool (okT t)]) ∧ AuR w' w.heap.size w'.heap.size (auT t).ini (auT t).acc (auT t).es v0 v1 v2 ∧ Below w.heap.size w w' := by
  refine (implPa_any t w hg hs).mono ?_
  rintro e' w' ⟨h | ⟨hno, rfl⟩, hb⟩
  · obtain ⟨a, gi, ga, v, h1, h2, h3, rfl, h4, h5, h6, h7, h8⟩ := h
    obtain ⟨q1, q2⟩ := auT_is (t := t) (a := a) ⟨h1, h2, h3⟩
    rw [q1, q2]
    refine ⟨_, _, _, rfl, ?_, hb⟩
    obtain ⟨_, p2, p3, _⟩ := auOk_parts h1
    have p1 := (auOk_ini h1).2
    obtain ⟨csi, r1, _, k1⟩ := h4
    obtain ⟨csa, r2, k2, k3⟩ := h5
    have s1 := row_sepI (cap := a.ini.length) r1 (fun i z hz => k1 i z hz (List.getElem?_eq_some_iff.1 hz).1) (by unfold maxLen; omega)
    have s2 := row_sepB (cap := a.acc.length) r2 k3 (by unfold maxLen; omega)
    have n1 : gi ≠ ga := fun e => by subst e; exact absurd (r1.ty r2) (by decide)
    have l1 := r1.lt
    have l2 := r2.lt
    rcases h6.2 with ⟨hv, hl⟩ | ⟨g, cap, cur, hv, hbs, hh, x1, x2, x3, ht⟩
    · have : a.es = [] := List.length_eq_zero_iff.1 hl
      refine ⟨gi, gi + 1, ga, ga + 1, w.heap.size, w.heap.size, ⟨h7, by omega, h8, by omega, Nat.le_refl _, hb.size, by omega, .inr h7, .inr h8⟩, s1, s2, none, 0, by rw [hv, this]; rfl, .inl this⟩
    · have h6' := h6
      rw [hv] at h6'
      obtain ⟨b1, ⟨cu, b2⟩, b3⟩ := OwnT.tri h6'
      have n2 : gi ≠ g := fun e => by subst e; exact absurd (r1.ty b2) (by decide)
      have n3 : ga ≠ g := fun e => by subst e; exact absurd (r2.ty b2) (by decide)
      have l3 := b2.lt
      exact ⟨gi, gi + 1, ga, ga + 1, g, g + 1, ⟨h7, by omega, h8, by omega, b1, by omega, by omega, by omega, by omega⟩, s1, s2, by rw [hv]; exact b3⟩
  · obtain ⟨q1, q2⟩ := auT_no hno
    rw [q1, q2]
    exact ⟨_, _, _, rfl, AuR.none_ _ _ _ hb.size, hb⟩
theorem specPa2_any (t : ByteArray) (w : World) (hs : t.size ≤ 1048576) : Calls Tryd.prog 10 #[.string t] w fun e' w' => ∃ v0 v1 v2 : Value, e' = .returned (.tuple #[.agg #[v0, v1, v2], .bool (okT t)]) ∧ Lay.au.lies w' w'.heap.size (auT t) (fun j => (#[v0, v1, v2] : Array Value).getD j undef) ∧ Below w.heap.size w w' := by
  refine (specPa_any t w hs).mono ?_
  rintro e' w' ⟨h | ⟨hno, rfl⟩, hb⟩
  · obtain ⟨a, v0, v1, v2, h1, rfl, h2⟩ := h
    obtain ⟨q1, q2⟩ := auT_is h1
    rw [q1, q2]
    exact ⟨_, _, _, rfl, h2, hb⟩
  · obtain ⟨q1, q2⟩ := auT_no hno
    rw [q1, q2]
    exact ⟨_, _, _, rfl, (AuR.none_ w' 0 0 (Nat.le_refl _)).lies (Nat.zero_le _) (fun e he => by cases he) (Nat.zero_le _), hb⟩
theorem au_forms {w : World} {B : Nat} {a : Au} {v0 v1 v2 : Value} (h : Lay.au.lies w B a (fun j => (#[v0, v1, v2] : Array Value).getD j undef)) : ∃ A c A' c' A'' c'', v0 = .slice A a.ini.length c ∧ v1 = .slice A' a.acc.length c' ∧ v2 = .slice A'' a.es.length c'' := by
  obtain ⟨ini, acc, es⟩ := a
  obtain ⟨⟨A, c, _, _, e0, _⟩, ⟨A', c', _, _, e1, _⟩, ⟨A'', c'', _, _, _, e2, _⟩⟩ := au_lies h
  exact ⟨A, c, A', c', A'', c'', e0, e1, e2⟩

set_option maxHeartbeats 4000000 in
set_option maxRecDepth 100000 in
theorem lawPa_any (s : ByteArray) (w : World) (hg : Glob w) :
    Calls Tryd.prog 4 #[.string s] w fun e' w' => e' = .returned (.bool true) ∧ Below w.heap.size w w' := by
  by_cases hs : 1048576 < s.size
  · have hsI : (1048576 : Int) < (s.size : Int) := by omega
    go_enter Tryd.func4, Tryd.ntmps4
    go_wp2_with fail
    go_ret
    exact ⟨rfl, Below.refl _ _⟩
  have hs2 : s.size ≤ 1048576 := by omega
  have hsI : ¬ (1048576 : Int) < (s.size : Int) := by omega
  have HS := Lib.hid hs2
  have HG := Lib.hid hg
  have HG8 : Hid (8 ≤ w.heap.size) := hg.size
  clear hs hs2 hg
  obtain ⟨T, hT⟩ : ∃ T, T = auT s := ⟨_, rfl⟩
  obtain ⟨v, hv⟩ : ∃ v, v = okT s := ⟨_, rfl⟩
  obtain ⟨t1, t2, t3, t4⟩ := auT_small s
  rw [← hT] at t1 t2 t3 t4
  have HTr := Lib.hid t4
  have HT := Lib.hid hT
  have HV := Lib.hid hv
  clear hT hv t4
  go_enter Tryd.func4, Tryd.ntmps4
  go_wp2_with fail
  refine (specPa2_any s w HS.out).mono ?_
  rintro e' w3 ⟨X0, Y0, Z0, rfl, hS0, hb3⟩
  rw [← HT.out] at hS0
  rw [← HV.out]
  obtain ⟨xa0, xc0, ya0, yc0, za0, zc0, rfl, rfl, rfl⟩ := au_forms hS0
  obtain ⟨V3, hV3⟩ : ∃ V3, V3 = w3.alloc (.cells #[.slice xa0 T.ini.length xc0, .slice ya0 T.acc.length yc0, .slice za0 T.es.length zc0] 31) := ⟨_, rfl⟩
  have hbv3 : Below w3.heap.size w3 V3 := by rw [hV3]; exact (Below.refl _ _).alloc (Nat.le_refl _) _
  have HRw : Hid (Row V3 w3.heap.size 31 #[.slice xa0 T.ini.length xc0, .slice ya0 T.acc.length yc0, .slice za0 T.es.length zc0]) := by rw [hV3]; exact Row.new _ _ _
  have HS0 : Hid (Lay.au.lies V3 w3.heap.size T (fun j => (#[.slice xa0 T.ini.length xc0, .slice ya0 T.acc.length yc0, .slice za0 T.es.length zc0] : Array Value).getD j undef)) := Lay.au.under hS0 hbv3
  have HBv : Hid (Below w.heap.size w V3) := hb3.trans (hbv3.mono hb3.size)
  have HV3 := Lib.hid hV3
  have h33 : w3.heap.size < V3.heap.size := HRw.out.lt
  have h03 : w.heap.size ≤ w3.heap.size := hb3.size
  clear hb3 hS0 hV3 hbv3
  go_wp2_with fail
  rw [← HV3.out]
  refine (implPa2_any s _ (HG.out.keep HBv.out HG8.out) HS.out).mono ?_
  rintro e' w6 ⟨X1, Y1, Z1, rfl, hS1, hb6⟩
  rw [← HT.out] at hS1
  rw [← HV.out]
  obtain ⟨xa1, xc1, ya1, yc1, za1, zc1, rfl, rfl, rfl⟩ := hS1.form
  obtain ⟨V6, hV6⟩ : ∃ V6, V6 = w6.alloc (.cells #[.slice xa1 T.ini.length xc1, .slice ya1 T.acc.length yc1, .slice za1 T.es.length zc1] 31) := ⟨_, rfl⟩
  have hbv6 : Below w6.heap.size w6 V6 := by rw [hV6]; exact (Below.refl _ _).alloc (Nat.le_refl _) _
  have h56 : V3.heap.size ≤ w6.heap.size := hb6.size
  have HRg : Hid (Row V6 w6.heap.size 31 #[.slice xa1 T.ini.length xc1, .slice ya1 T.acc.length yc1, .slice za1 T.es.length zc1]) := by rw [hV6]; exact Row.new _ _ _
  have HS1 : Hid (AuR V6 V3.heap.size w6.heap.size T.ini T.acc T.es (.slice xa1 T.ini.length xc1) (.slice ya1 T.acc.length yc1) (.slice za1 T.es.length zc1)) := hS1.under hbv6 (Nat.le_refl _)
  have hrw6 := HRw.out.under hb6 HRw.out.lt
  have HRw6 := Lib.hid (hrw6.under hbv6 hrw6.lt)
  have HS06 : Hid (Lay.au.lies V6 w3.heap.size T (fun j => (#[.slice xa0 T.ini.length xc0, .slice ya0 T.acc.length yc0, .slice za0 T.es.length zc0] : Array Value).getD j undef)) := Lay.au.under (Lay.au.under HS0.out (hb6.mono (by omega))) (hbv6.mono (by omega))
  have HB6 : Hid (Below w.heap.size w V6) := (HBv.out.trans (hb6.mono HBv.out.size)).trans (hbv6.mono (by omega))
  have h66 : w6.heap.size < V6.heap.size := HRg.out.lt
  have h36 : w3.heap.size < w6.heap.size := by omega
  have HV6 := Lib.hid hV6
  obtain ⟨r0, r1, r2⟩ := hrw6.three
  clear hS1 hb6 hbv6 hrw6 hV6 HRw HS0 HBv
  go_wp2_with fail
  rw [← HV6.out]
  refine (eqAu_any T (fun j => (#[.slice xa1 T.ini.length xc1, .slice ya1 T.acc.length yc1, .slice za1 T.es.length zc1] : Array Value).getD j undef) (fun j => (#[.slice xa0 T.ini.length xc0, .slice ya0 T.acc.length yc0, .slice za0 T.es.length zc0] : Array Value).getD j undef) _ (HS1.out.lies (by omega) HTr.out (by omega) |> fun h => h) (Lay.au.more HS06.out (by omega))).mono ?_
  rintro e' w7 ⟨rfl, hb7⟩
  have HS17 := Lib.hid (HS1.out.under hb7 (by omega))
  have HS07 : Hid (Lay.au.lies w7 w3.heap.size T (fun j => (#[.slice xa0 T.ini.length xc0, .slice ya0 T.acc.length yc0, .slice za0 T.es.length zc0] : Array Value).getD j undef)) := Lay.au.under HS06.out (hb7.mono (by omega))
  have hrg7 := HRg.out.under hb7 HRg.out.lt
  have HRg7 := Lib.hid hrg7
  have HRw7 := Lib.hid (HRw6.out.under hb7 HRw6.out.lt)
  have HB7 : Hid (Below w.heap.size w w7) := HB6.out.trans (hb7.mono HB6.out.size)
  have h67 : V6.heap.size ≤ w7.heap.size := hb7.size
  clear r0 r1 r2
  obtain ⟨q0, q1, q2⟩ := hrg7.three
  clear hb7 HS1 HS06 HB6 HRg HRw6 hrg7
  go_wp2_with fail
  refine (mkAu_any T.ini T.acc T.es (.slice xa1 T.ini.length xc1) (.slice ya1 T.acc.length yc1) (.slice za1 T.es.length zc1) _ _ _ HS17.out (by omega) (by omega) (by omega) (by omega)).mono ?_
  rintro e' wf ⟨rfl, hsf, hkf⟩
  have HSf1 := Lib.hid hsf
  have HSf0 : Hid (Lay.au.lies wf w3.heap.size T (fun j => (#[.slice xa0 T.ini.length xc0, .slice ya0 T.acc.length yc0, .slice za0 T.es.length zc0] : Array Value).getD j undef)) := Lay.au.lies_keep (Nat.le_refl _) (fun p hp => World.cell?_of_block (hkf.other p.block (by omega) (.inl (by omega)))) HS07.out
  have hrgf := HRg7.out.kept hkf (.inr (by omega))
  have HRgf := Lib.hid hrgf
  have HRwf := Lib.hid (HRw7.out.kept hkf (.inl (by omega)))
  have HBg : Hid (Below w.heap.size w wf) := HB7.out.trans (hkf.below (by omega) (by omega))
  have hef : w7.heap.size ≤ wf.heap.size := hkf.size
  clear q0 q1 q2
  obtain ⟨q0, q1, q2⟩ := hrgf.three
  clear hsf hkf HS17 HS07 HB7 hrgf HRg7 HRw7
  go_wp2_with fail
  refine (heldAu_any T.ini T.acc T.es (.slice xa1 T.ini.length xc1) (.slice ya1 T.acc.length yc1) (.slice za1 T.es.length zc1) _ _ _ HSf1.out (by omega) (by omega) (by omega) (by omega)).mono ?_
  rintro e' wg ⟨rfl, hbg⟩
  have HSg1 := Lib.hid (HSf1.out.under hbg (by omega))
  have HSg0 : Hid (Lay.au.lies wg w3.heap.size T (fun j => (#[.slice xa0 T.ini.length xc0, .slice ya0 T.acc.length yc0, .slice za0 T.es.length zc0] : Array Value).getD j undef)) := Lay.au.under HSf0.out (hbg.mono (by omega))
  have HRgg := Lib.hid (HRgf.out.under hbg HRgf.out.lt)
  have HRwg := Lib.hid (HRwf.out.under hbg HRwf.out.lt)
  have HBh : Hid (Below w.heap.size w wg) := HBg.out.trans (hbg.mono HBg.out.size)
  have hfg : wf.heap.size ≤ wg.heap.size := hbg.size
  clear hbg HSf1 HSf0 HBg q0 q1 q2 HRgf HRwf
  go_wp2_with fail
  refine (implPa2_any s _ (HG.out.keep HBh.out HG8.out) HS.out).mono ?_
  rintro e' wi ⟨X2, Y2, Z2, rfl, hS2, hbi⟩
  rw [← HT.out] at hS2
  rw [← HV.out]
  obtain ⟨xa2, xc2, ya2, yc2, za2, zc2, rfl, rfl, rfl⟩ := hS2.form
  obtain ⟨Vi, hVi⟩ : ∃ Vi, Vi = wi.alloc (.cells #[.slice xa2 T.ini.length xc2, .slice ya2 T.acc.length yc2, .slice za2 T.es.length zc2] 31) := ⟨_, rfl⟩
  have hbvi : Below wi.heap.size wi Vi := by rw [hVi]; exact (Below.refl _ _).alloc (Nat.le_refl _) _
  have hhi : wg.heap.size ≤ wi.heap.size := hbi.size
  have hii := hbvi.size
  have HS2 := Lib.hid (hS2.under hbvi (Nat.le_refl _))
  have HSi1 := Lib.hid ((HSg1.out.under hbi (by omega)).under hbvi (by omega))
  have HSi0 : Hid (Lay.au.lies Vi w3.heap.size T (fun j => (#[.slice xa0 T.ini.length xc0, .slice ya0 T.acc.length yc0, .slice za0 T.es.length zc0] : Array Value).getD j undef)) := Lay.au.under (Lay.au.under HSg0.out (hbi.mono (by omega))) (hbvi.mono (by omega))
  have HRgi := Lib.hid ((HRgg.out.under hbi HRgg.out.lt).under hbvi (by have := HRgg.out.lt; omega))
  have hrwi := HRwg.out.under hbi HRwg.out.lt
  have HBj : Hid (Below w.heap.size w Vi) := (HBh.out.trans (hbi.mono HBh.out.size)).trans (hbvi.mono (by omega))
  have HVi := Lib.hid hVi
  have h3i : w3.heap.size < wi.heap.size := by omega
  obtain ⟨r0, r1, r2⟩ := hrwi.three
  clear hbi hS2 HSg1 HSg0 HBh hVi hbvi hrwi HRgg HRwg
  go_wp2_with fail
  rw [← HVi.out]
  refine (eqAu_any T (fun j => (#[.slice xa2 T.ini.length xc2, .slice ya2 T.acc.length yc2, .slice za2 T.es.length zc2] : Array Value).getD j undef) (fun j => (#[.slice xa0 T.ini.length xc0, .slice ya0 T.acc.length yc0, .slice za0 T.es.length zc0] : Array Value).getD j undef) _ (HS2.out.lies (by omega) HTr.out (by omega) |> fun h => h) (Lay.au.more HSi0.out (by omega))).mono ?_
  rintro e' wj ⟨rfl, hbj⟩
  have HSj1 := Lib.hid (HSi1.out.under hbj (by omega))
  have hrgj := HRgi.out.under hbj HRgi.out.lt
  have HBk : Hid (Below w.heap.size w wj) := HBj.out.trans (hbj.mono HBj.out.size)
  have hij := hbj.size
  obtain ⟨q0, q1, q2⟩ := hrgj.three
  clear hbj HSi1 HSi0 HBj r0 r1 r2 hrgj HRgi
  go_wp2_with fail
  refine (heldAu_any T.ini T.acc T.es (.slice xa1 T.ini.length xc1) (.slice ya1 T.acc.length yc1) (.slice za1 T.es.length zc1) _ _ _ HSj1.out (by omega) (by omega) (by omega) (by omega)).mono ?_
  rintro e' wk ⟨rfl, hbk⟩
  have HBl : Hid (Below w.heap.size w wk) := HBk.out.trans (hbk.mono HBk.out.size)
  clear hbk HBk
  go_wp2_with fail
  go_ret
  exact ⟨rfl, HBl.out⟩

end Go.Proofs.YtiikphdgnhajeaaDoor

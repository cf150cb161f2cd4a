/- The walk of spec.ParseState. -/
import Derived.Test.YtefpdkfogfhniaaPs1Q
import Derived.Deep.RegionHeld3
import Derived.Deep.RegionWith
import Derived.Deep.Cut
import Derived.Deep.CutRange
namespace Go.Proofs.Ytefpdkfogfhniaa
open Go.RowKit

/-- The state lies boxed in block q. -/
def StW (w2 : World) (za zb : List Int) (q : Nat) (wx : World) : Prop :=
  ∃ (g ca h cb : Nat), Row wx q 28 #[.slice (some ⟨g, 0, none⟩) za.length ca, .slice (some ⟨h, 0, none⟩) zb.length cb] ∧ StR wx w2.heap.size wx.heap.size ⟨za, zb⟩ (.slice (some ⟨g, 0, none⟩) za.length ca) (.slice (some ⟨h, 0, none⟩) zb.length cb) ∧ Below w2.heap.size w2 wx
theorem row_ne {w : World} {q g : Nat} {t u : TypeId} {a b : Array Value} (h : Row w q t a) (k : Row w g u b) (hne : t ≠ u) : q ≠ g := fun e => by
  subst e
  unfold Row at h k
  rw [h] at k
  injection k with k
  injection k with _ k _
  exact hne k
theorem below_al {W X : World} (h : Below W.heap.size W X) (o : Obj) : Below W.heap.size W (X.alloc o) := h.alloc h.size o
theorem below_ext {W X w3 : World} (h : Below W.heap.size W X) (h3 : Below X.heap.size X w3) : Below W.heap.size W w3 := h.trans (h3.mono h.size)

theorem StW.put_ {w2 w4 : World} {q g ca h cb : Nat} {cs ds : Array Value} {za zb : List Int} {a b : Value} (r : Row w4 q 28 #[a, b]) (hq : w2.heap.size ≤ q) (rg : Row w4 g 3 cs) (rh : Row w4 h 3 ds) (hg : w2.heap.size ≤ g) (hh : w2.heap.size ≤ h) (hne : g ≠ h) (hza : za.length ≤ 1048576) (hzb : zb.length ≤ 1048576)
    (hz : ∀ (i : Nat) (z : Int), za[i]? = some z → cs[i]? = some (Value.int .i64 z)) (hy : ∀ (i : Nat) (z : Int), zb[i]? = some z → ds[i]? = some (Value.int .i64 z)) (hb : Below w2.heap.size w2 w4) :
    StW w2 za zb q ((w4.setCell ⟨q, 0, none⟩ (.slice (some ⟨g, 0, none⟩) za.length ca)).setCell ⟨q, 1, none⟩ (.slice (some ⟨h, 0, none⟩) zb.length cb)) := by
  have n1 := row_ne r rg (by decide)
  have n2 := row_ne r rh (by decide)
  have hk : ∀ p, p ≠ q → ((w4.setCell ⟨q, 0, none⟩ (.slice (some ⟨g, 0, none⟩) za.length ca)).setCell ⟨q, 1, none⟩ (.slice (some ⟨h, 0, none⟩) zb.length cb)).heap[p]? = w4.heap[p]? := fun p hp => by
    rw [Below.heap_setCell _ _ _ _ (by simpa using hp), Below.heap_setCell _ _ _ _ (by simpa using hp)]
  refine ⟨g, ca, h, cb, (r.set_ 0 _).set_ 1 _, StR.rows (show Row _ g 3 cs from (hk g (Ne.symm n1)).trans rg) (show Row _ h 3 ds from (hk h (Ne.symm n2)).trans rh) hg hh hne hza hzb hz hy, (hb.setCell hq _).setCell hq _⟩
theorem StW.new_ {w2 w4 : World} {g ca h cb : Nat} {cs ds : Array Value} {za zb : List Int} (rg : Row w4 g 3 cs) (rh : Row w4 h 3 ds) (hg : w2.heap.size ≤ g) (hh : w2.heap.size ≤ h) (hne : g ≠ h) (hza : za.length ≤ 1048576) (hzb : zb.length ≤ 1048576)
    (hz : ∀ (i : Nat) (z : Int), za[i]? = some z → cs[i]? = some (Value.int .i64 z)) (hy : ∀ (i : Nat) (z : Int), zb[i]? = some z → ds[i]? = some (Value.int .i64 z)) (hb : Below w2.heap.size w2 w4) :
    StW w2 za zb w4.heap.size (w4.alloc (.cells #[.slice (some ⟨g, 0, none⟩) za.length ca, .slice (some ⟨h, 0, none⟩) zb.length cb] 28)) := by
  have hx : Below w4.heap.size w4 (w4.alloc (.cells #[.slice (some ⟨g, 0, none⟩) za.length ca, .slice (some ⟨h, 0, none⟩) zb.length cb] 28)) := (Below.refl _ _).alloc (Nat.le_refl _) _
  exact ⟨g, ca, h, cb, Row.new _ _ _, StR.rows (rg.under hx rg.lt) (rh.under hx rh.lt) hg hh hne hza hzb hz hy, below_al hb _⟩

set_option maxHeartbeats 2000000 in
set_option maxRecDepth 100000 in
theorem specPs_any (e : Sy) (C : Nat → Value) (s : ByteArray) (w : World) (hL : Lay.sy.lies w w.heap.size e C) (hd : Lay.sy.sz e ≤ 1048576) (hs : s.size ≤ 1048576) :
    Calls Try.prog 8 #[.agg #[C 0, C 1], .string s] w (PsPost e s w) := by
  obtain ⟨W1, hW1⟩ : ∃ W1, W1 = (w.alloc (.cells #[C 0, C 1] 33)).alloc (.cells #[.slice none 0 0, .slice none 0 0] 28) := ⟨_, rfl⟩
  have hrows := rows2 w 33 28 #[C 0, C 1] #[.slice none 0 0, .slice none 0 0]
  rw [← hW1] at hrows
  obtain ⟨hra, hrb, hb0⟩ := hrows
  have HL : Hid (Lay.sy.lies W1 W1.heap.size e C) := Lay.sy.later hL hb0 hb0.size
  have HB0 := Lib.hid hb0
  have HW1 := Lib.hid hW1
  have HRa := Lib.hid hra
  have HRb := Lib.hid hrb
  have HD := Lib.hid hd
  have hlt1 : w.heap.size + 1 < W1.heap.size := hrb.lt
  have HF : Hid (okP e s = false → ∀ W, Below w.heap.size w W → PsPost e s w (.returned (.tuple #[.agg #[.slice none 0 0, .slice none 0 0], .bool false])) W) := fun hk W hb =>
    ⟨_, _, by rw [hk], by unfold stP; rw [hk]; exact StR.none_ _ _ _ hb.size _ _ _ _, hb⟩
  have HBx : Hid (∀ W, Below W1.heap.size W1 W → W.cell? ⟨w.heap.size, 0, none⟩ = some (C 0) ∧ W.cell? ⟨w.heap.size, 1, none⟩ = some (C 1) ∧ W.cell? ⟨w.heap.size + 1, 0, none⟩ = some (.slice none 0 0) ∧ W.cell? ⟨w.heap.size + 1, 1, none⟩ = some (.slice none 0 0) ∧ W.frozen? ⟨w.heap.size + 1, 0, none⟩ = false ∧ W.frozen? ⟨w.heap.size + 1, 1, none⟩ = false) := fun W hW => by
    obtain ⟨a0, a1⟩ := (HRa.out.under hW HRa.out.lt).two
    have hb := HRb.out.under hW HRb.out.lt
    obtain ⟨b0, b1⟩ := hb.two
    exact ⟨a0, a1, b0, b1, hb.frozen 0, hb.frozen 1⟩
  have hAB := cut_sizes s
  have HOk : Hid (okP e s = true → stP e s = ⟨nums (cutA s), nums (cutB s)⟩) := fun h => by unfold stP; rw [h]; rfl
  have HOf : Hid (cnt47 s s.size ≠ 1 → okP e s = false) := fun h => by unfold okP; rw [decide_eq_false h]; rfl
  have HOt : Hid (cnt47 s s.size = 1 → okP e s = stOk e ⟨nums (cutA s), nums (cutB s)⟩) := fun h => by unfold okP; rw [decide_eq_true h]; rfl
  clear hL hb0 hra hrb hd hW1
  go_enter Try.func8, Try.ntmps8
  go_wp2_with fail
  rw [← HW1.out]
  refine (cutS_any s W1 hs).mono ?_
  rintro e' w2 ⟨dn, gS, capS, csS, rfl, hdl, hdn, hgS, hrS, hcS, hb2⟩
  have HB2 : Hid (Below W1.heap.size W1 w2) := hb2
  have hz2 : W1.heap.size ≤ w2.heap.size := hb2.size
  clear hb2 hgS
  by_cases hk1 : cnt47 s s.size = 1
  case neg =>
    have hle := cnt47_le s s.size
    have HFf : Hid (PsPost e s w (.returned (.tuple #[.agg #[.slice none 0 0, .slice none 0 0], .bool false])) ((w2.setCell ⟨w.heap.size + 1, 0, none⟩ (.slice none 0 0)).setCell ⟨w.heap.size + 1, 1, none⟩ (.slice none 0 0))) := HF.out (HOf.out hk1) _ (((HB0.out.trans (HB2.out.mono HB0.out.size)).setCell (by simp) _).setCell (by simp) _)
    obtain ⟨_, _, z0, z1, y0, y1⟩ := HBx.out w2 HB2.out
    have t1 : ((dn.length : Int) != 2) = true := by rw [bne_iff_ne]; omega
    have t2 : ((dn.length : Int) == 2) = false := by rw [beq_eq_false_iff_ne]; omega
    clear hdl hdn hrS hcS hk1 hAB
    go_wp2_with fail
    refine bodyPost_ret (v := .tuple #[.agg #[.slice none 0 0, .slice none 0 0], .bool false]) (by simp [results, Try.results8, go_sem, z0, z1]) rfl ?_
    exact HFf.out
  case pos =>
  obtain ⟨p, hp⟩ : ∃ p, First s p := by
    rcases first_cases s with ⟨_, h2⟩ | ⟨p, _, h2⟩
    · have := cnt47_none _ h2; omega
    · exact ⟨p, h2⟩
  have hd2 := hdn p hp hk1
  rw [← (cut_of_first hp).1, ← (cut_of_first hp).2.1] at hd2
  subst hd2
  have HOt2 := Lib.hid (HOt.out hk1)
  clear hdn hp hk1 hdl HOt HOf
  obtain ⟨A, hA⟩ : ∃ X, X = cutA s := ⟨_, rfl⟩
  obtain ⟨B, hB⟩ : ∃ X, X = cutB s := ⟨_, rfl⟩
  rw [← hA, ← hB] at hAB hcS HOt2 HOk ⊢
  have hAs : A.size ≤ 1048576 := by omega
  have hBs : B.size ≤ 1048576 := by omega
  have hAl := nums_length A
  have hBl := nums_length B
  obtain ⟨za, hza⟩ : ∃ z, z = nums A := ⟨_, rfl⟩
  obtain ⟨zb, hzb⟩ : ∃ z, z = nums B := ⟨_, rfl⟩
  have HZa := Lib.hid hza
  have HZb := Lib.hid hzb
  rw [← hza, ← hzb] at HOt2 HOk
  have hzal : za.length ≤ 1048576 := by rw [hza, hAl]; exact hAs
  have hzbl : zb.length ≤ 1048576 := by rw [hzb, hBl]; exact hBs
  have HSz : Hid (Lay.sta.sz ⟨za, zb⟩ ≤ 1048576) := by show _ ≤ _; rw [sta_sz]; show za.length + zb.length ≤ _; rw [hza, hzb, hAl, hBl]; omega
  have HSk : Hid (∀ W, Below w2.heap.size w2 W → W.cell? ⟨gS, 0, none⟩ = some (.string A) ∧ W.cell? ⟨gS, 1, none⟩ = some (.string B)) := fun W hW => by
    have hr := hrS.under hW hrS.lt
    exact ⟨by rw [hr.cell]; exact hcS 0 A rfl, by rw [hr.cell]; exact hcS 1 B rfl⟩
  have hgl : gS < w2.heap.size := hrS.lt
  have hgn : ¬ gS = w2.heap.size := by omega
  have hgm : ¬ w2.heap.size = gS := by omega
  obtain ⟨s0, s1⟩ := HSk.out w2 (Below.refl _ _)
  have HC1 : Hid (∀ W, Calls Try.prog 34 #[.string A] W (NumsPost za W)) := fun W => by rw [hza]; exact numsS_any A W hAs
  have HC2 : Hid (∀ W, Calls Try.prog 34 #[.string B] W (NumsPost zb W)) := fun W => by rw [hzb]; exact numsS_any B W hBs
  rw [show ([A, B] : List ByteArray).length = 2 from rfl]
  clear hA hB hAB hAl hBl hza hzb hs hrS hcS
  go_upto_region 4 with fail
  go_cut [7] from 14 to 22 (fun pt wx => ∃ q : Nat, pt = .pointer (some ⟨q, 0, none⟩) ∧ w2.heap.size ≤ q ∧ Hid (StW w2 za zb q wx))
  case first =>
    have HA2 : Hid (∀ W : World, (W.alloc (.cells #[.slice none 0 0, .slice none 0 0] 28)).heap.size = W.heap.size + 1) := fun W => by simp
    have HA3 : Hid (∀ W : World, W.heap.size < (W.alloc (.cells #[.slice none 0 0, .slice none 0 0] 28)).heap.size) := fun W => by simp
    have HZr : Hid (∀ W : World, Row (W.alloc (.cells #[.slice none 0 0, .slice none 0 0] 28)) W.heap.size 28 #[.slice none 0 0, .slice none 0 0]) := fun W => Row.new _ _ _
    go_region_held3 (fun w' => w'.cell? ⟨gS, 0, none⟩ = some (.string A) ∧ w'.cell? ⟨gS, 1, none⟩ = some (.string B)) (first | assumption | (go_keep; done)) (first
      | (go_at_call 34
         with_reducible refine (HC1.out w2.drew).mono ?_
         rintro e' w3 ⟨g, ca, cs, rfl, hg, hr, hz, hb3⟩
         have HB3 : Hid (Below w2.heap.size w2 w3) := below_ext (Below.refl _ _).drew hb3
         have hS3 := HSk.out w3 HB3.out
         have HR3 := Lib.hid hr
         have HZ3 := Lib.hid hz
         have hg3 : w2.heap.size ≤ g := hg
         have hgl3 : gS < w3.heap.size := Nat.lt_of_lt_of_le hgl HB3.out.size
         have hgn3 : ¬ gS = w3.heap.size := by omega
         have hgm3 : ¬ w3.heap.size = gS := by omega
         clear hb3 hr hz hg)
      | (go_at_call 34
         with_reducible refine (HC1.out (w2.alloc (.cells #[.slice none 0 0, .slice none 0 0] 28)).drew).mono ?_
         rintro e' w3 ⟨g, ca, cs, rfl, hg, hr, hz, hb3⟩
         have HB3 : Hid (Below w2.heap.size w2 w3) := below_ext (below_al (Below.refl _ _) _).drew hb3
         have HQ3 : Hid (Row w3 w2.heap.size 28 #[.slice none 0 0, .slice none 0 0]) := (show Row (w2.alloc (.cells #[.slice none 0 0, .slice none 0 0] 28)).drew w2.heap.size 28 #[.slice none 0 0, .slice none 0 0] from HZr.out w2).under hb3 (HA3.out w2)
         have hS3 := HSk.out w3 HB3.out
         have HR3 := Lib.hid hr
         have HZ3 := Lib.hid hz
         have hg3 : w2.heap.size ≤ g := Nat.le_trans (Nat.le_of_lt (HA3.out w2)) hg
         clear hb3 hr hz hg)
      | (go_at_call 34
         with_reducible refine (HC2.out w3).mono ?_
         rintro e' w4 ⟨h, cb, ds, rfl, hh, hr, hz, hb4⟩
         have hrq := HQ3.out.under hb4 HQ3.out.lt
         obtain ⟨b0, b1⟩ := hrq.two
         have f0 := hrq.frozen 0
         have f1 := hrq.frozen 1
         have HQa := Lib.hid hrq
         have HB4 : Hid (Below w2.heap.size w2 w4) := below_ext HB3.out hb4
         have HR34 := Lib.hid (HR3.out.under hb4 HR3.out.lt)
         have hS4 := HSk.out w4 HB4.out
         have HR4 := Lib.hid hr
         have HZ4 := Lib.hid hz
         have hl3 : g < w3.heap.size := HR3.out.lt
         have hh4 : w3.heap.size ≤ h := hh
         have h24 : w2.heap.size ≤ w3.heap.size := HB3.out.size
         clear hb4 hr hz hh hrq)
      | (go_at_call 34
         with_reducible refine (HC2.out (w3.alloc (.cells #[.slice none 0 0, .slice none 0 0] 28))).mono ?_
         rintro e' w4 ⟨h, cb, ds, rfl, hh, hr, hz, hb4⟩
         have hrq := (HZr.out w3).under hb4 (HA3.out w3)
         obtain ⟨b0, b1⟩ := hrq.two
         have f0 := hrq.frozen 0
         have f1 := hrq.frozen 1
         have HQb := Lib.hid hrq
         have HB4 : Hid (Below w2.heap.size w2 w4) := below_ext (below_al HB3.out _) hb4
         have HR34 := Lib.hid ((HR3.out.under ((Below.refl _ w3).alloc (Nat.le_refl _) (.cells #[.slice none 0 0, .slice none 0 0] 28)) HR3.out.lt).under hb4 (Nat.lt_trans HR3.out.lt (HA3.out w3)))
         have hS4 := HSk.out w4 HB4.out
         have HR4 := Lib.hid hr
         have HZ4 := Lib.hid hz
         have hl3 : g < w3.heap.size := HR3.out.lt
         have hh4 : w3.heap.size ≤ h := Nat.le_trans (Nat.le_of_lt (HA3.out w3)) hh
         have h24 : w2.heap.size ≤ w3.heap.size := HB3.out.size
         clear hb4 hr hz hh hrq)
      | (go_at_call 34
         with_reducible refine (HC2.out w3).mono ?_
         rintro e' w4 ⟨h, cb, ds, rfl, hh, hr, hz, hb4⟩
         have HB4 : Hid (Below w2.heap.size w2 w4) := below_ext HB3.out hb4
         have HR34 := Lib.hid (HR3.out.under hb4 HR3.out.lt)
         have hS4 := HSk.out w4 HB4.out
         have HR4 := Lib.hid hr
         have HZ4 := Lib.hid hz
         have hl3 : g < w3.heap.size := HR3.out.lt
         have hh4 : w3.heap.size ≤ h := hh
         have h24 : w2.heap.size ≤ w3.heap.size := HB3.out.size
         have hgl4 : gS < w4.heap.size := Nat.lt_of_lt_of_le hgl HB4.out.size
         have hgn4 : ¬ gS = w4.heap.size := by omega
         have hgm4 : ¬ w4.heap.size = gS := by omega
         clear hb4 hr hz hh))
    all_goals go_wp2_with fail
    all_goals go_meet
    all_goals first
      | (exact ⟨w2.heap.size, rfl, Nat.le_refl _, StW.put_ HQa.out (Nat.le_refl _) HR34.out HR4.out hg3 (Nat.le_trans h24 hh4) (Nat.ne_of_lt (Nat.lt_of_lt_of_le hl3 hh4)) hzal hzbl HZ3.out HZ4.out HB4.out⟩)
      | (exact ⟨w3.heap.size, rfl, h24, StW.put_ HQb.out h24 HR34.out HR4.out hg3 (Nat.le_trans h24 hh4) (Nat.ne_of_lt (Nat.lt_of_lt_of_le hl3 hh4)) hzal hzbl HZ3.out HZ4.out HB4.out⟩)
      | (exact ⟨w4.heap.size, rfl, HB4.out.size, StW.new_ HR34.out HR4.out hg3 (Nat.le_trans h24 hh4) (Nat.ne_of_lt (Nat.lt_of_lt_of_le hl3 hh4)) hzal hzbl HZ3.out HZ4.out HB4.out⟩)
      | (trace_state; fail)
  case rest =>
  obtain ⟨q, rfl, hq, HW⟩ := hcut
  rename World => wx
  obtain ⟨g, ca, h, cb, hrq, hst, hbx⟩ := HW.out
  have HBx2 : Hid (Below W1.heap.size W1 wx) := HB2.out.trans (hbx.mono HB2.out.size)
  obtain ⟨v0, v1⟩ := hrq.two
  have HRq := Lib.hid hrq
  have HSt := Lib.hid hst
  obtain ⟨p0, p1, _, _, _, _⟩ := HBx.out wx HBx2.out
  have hq1 : w.heap.size + 1 < q := by omega
  clear HW hrq hst hbx s0 s1
  go_wp2_with fail
  refine (specStV_any e C ⟨za, zb⟩ (fun j => (#[.slice (some ⟨g, 0, none⟩) za.length ca, .slice (some ⟨h, 0, none⟩) zb.length cb] : Array Value).getD j undef) wx (Lay.sy.later HL.out HBx2.out HBx2.out.size) (HSt.out.lies (Nat.le_refl _)) HD.out HSz.out).mono ?_
  rintro e' w5 ⟨rfl, hb5⟩
  rw [← HOt2.out]
  have HB5 : Hid (Below W1.heap.size W1 w5) := HBx2.out.trans (hb5.mono HBx2.out.size)
  have HSt5 := Lib.hid (HSt.out.under hb5 (Nat.le_refl _))
  have h55 : wx.heap.size ≤ w5.heap.size := hb5.size
  clear v0 v1 p0 p1
  obtain ⟨v0, v1⟩ := (HRq.out.under hb5 HRq.out.lt).two
  clear hb5
  obtain ⟨p0, p1, z0, z1, y0, y1⟩ := HBx.out w5 HB5.out
  have hne : ¬ q = w.heap.size + 1 := by omega
  have hne' : ¬ w.heap.size + 1 = q := by omega
  cases hok : okP e s with
  | false =>
    have HFf : Hid (PsPost e s w (.returned (.tuple #[.agg #[.slice none 0 0, .slice none 0 0], .bool false])) ((w5.setCell ⟨w.heap.size + 1, 0, none⟩ (.slice none 0 0)).setCell ⟨w.heap.size + 1, 1, none⟩ (.slice none 0 0))) := HF.out hok _ (((HB0.out.trans (HB5.out.mono HB0.out.size)).setCell (by simp) _).setCell (by simp) _)
    clear hok
    go_wp2_with fail
    refine bodyPost_ret (v := .tuple #[.agg #[.slice none 0 0, .slice none 0 0], .bool false]) (by simp [results, Try.results8, go_sem, z0, z1]) rfl ?_
    exact HFf.out
  | true =>
    have HFin : Hid (PsPost e s w (.returned (.tuple #[.agg #[.slice (some ⟨g, 0, none⟩) za.length ca, .slice (some ⟨h, 0, none⟩) zb.length cb], .bool true])) ((w5.setCell ⟨w.heap.size + 1, 0, none⟩ (.slice (some ⟨g, 0, none⟩) za.length ca)).setCell ⟨w.heap.size + 1, 1, none⟩ (.slice (some ⟨h, 0, none⟩) zb.length cb))) := by
      have hb : Below w.heap.size w ((w5.setCell ⟨w.heap.size + 1, 0, none⟩ (.slice (some ⟨g, 0, none⟩) za.length ca)).setCell ⟨w.heap.size + 1, 1, none⟩ (.slice (some ⟨h, 0, none⟩) zb.length cb)) := ((HB0.out.trans (HB5.out.mono HB0.out.size)).setCell (by simp) _).setCell (by simp) _
      refine ⟨_, _, by rw [hok], ?_, hb⟩
      rw [HOk.out hok]
      have hk : StR ((w5.setCell ⟨w.heap.size + 1, 0, none⟩ (.slice (some ⟨g, 0, none⟩) za.length ca)).setCell ⟨w.heap.size + 1, 1, none⟩ (.slice (some ⟨h, 0, none⟩) zb.length cb)) w2.heap.size wx.heap.size ⟨za, zb⟩ (.slice (some ⟨g, 0, none⟩) za.length ca) (.slice (some ⟨h, 0, none⟩) zb.length cb) := HSt5.out.keep fun q h1 h2 => by
        rw [Below.heap_setCell _ _ _ _ (by show ¬ _ = _; simp; omega), Below.heap_setCell _ _ _ _ (by show ¬ _ = _; simp; omega)]
      exact hk.more (by omega) (by simp; omega)
    clear hok
    go_wp2_with fail
    refine bodyPost_ret (v := .tuple #[.agg #[.slice (some ⟨g, 0, none⟩) za.length ca, .slice (some ⟨h, 0, none⟩) zb.length cb], .bool true]) (by simp [results, Try.results8, go_sem, z0, z1]) rfl ?_
    exact HFin.out

end Go.Proofs.Ytefpdkfogfhniaa

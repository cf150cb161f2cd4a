/- The walk of the law laws.FnExactSubstExpr. -/
import Derived.Test.YtkcgjgdcmdjcfaaT4
import Derived.Test.YtkcgjgdcmdjcfaaT5
import Derived.Test.YtkcgjgdcmdjcfaaLay
import Derived.Test.YtkcgjgdcmdjcfaaW6
import Derived.Deep.Cut
import Derived.Deep.CutRange
import Derived.Deep.RegionHeld3
namespace Go.Proofs.Ytkcgjgdcmdjcfaa
open Go.RowKit

theorem Lies.push {w : World} {e : Ex} {c0 c1 c2 : Value} (h : Lies w w.heap.size e c0 c1 c2) (o : Obj) : Lies (w.alloc o) (w.alloc o).heap.size e c0 c1 c2 := (h.alloc (Nat.le_refl _) o).more (by simp)

theorem to_all (e : Ex) (c0 c1 c2 : Value) (w : World) (hL : Lies w w.heap.size e c0 c1 c2) (hd : desc e ≤ 1048576) : Calls Try.prog 19 #[.agg #[c0, c1, c2]] w (ToPost e w) := to_any e c0 c1 c2 w hL hd

theorem Row.three {w : World} {g : Nat} {t : TypeId} {a0 a1 a2 : Value} (h : Row w g t #[a0, a1, a2]) : w.cell? ⟨g, 0, none⟩ = some a0 ∧ w.cell? ⟨g, 1, none⟩ = some a1 ∧ w.cell? ⟨g, 2, none⟩ = some a2 := ⟨h.cell 0, h.cell 1, h.cell 2⟩

theorem Row.push {w : World} {g : Nat} {t : TypeId} {cs : Array Value} (h : Row w g t cs) (o : Obj) : Row (w.alloc o) g t cs := h.under ((Below.refl _ _).alloc (Nat.le_refl _) o) h.lt

/-- A box with a tree in rows of its own. -/
def Bx (w : World) (g lo hi : Nat) (e : Ex) (c0 c1 c2 : Value) : Prop := Row w g 25 #[c0, c1, c2] ∧ Own w 25 lo hi e c0 c1 c2 ∧ hi ≤ w.heap.size
theorem Bx.under {w w' : World} {g lo hi : Nat} {e : Ex} {c0 c1 c2 : Value} (h : Bx w g lo hi e c0 c1 c2) (hb : Below w.heap.size w w') : Bx w' g lo hi e c0 c1 c2 := ⟨h.1.under hb h.1.lt, h.2.1.under hb h.2.2, Nat.le_trans h.2.2 hb.size⟩
theorem Bx.kept {w w' : World} {g lo hi lo' hi' : Nat} {e : Ex} {c0 c1 c2 : Value} (h : Bx w g lo hi e c0 c1 c2) (hk : Kept lo' hi' w w') (h1 : g < lo' ∨ hi' ≤ g) (h2 : hi ≤ lo' ∨ hi' ≤ lo) : Bx w' g lo hi e c0 c1 c2 :=
  ⟨h.1.kept hk h1, h.2.1.keep (Nat.le_refl _) (Nat.le_refl _) (fun q q1 q2 => hk.other q (Nat.lt_of_lt_of_le q2 h.2.2) (by omega)), Nat.le_trans h.2.2 hk.size⟩
theorem Bx.lies {w : World} {g lo hi : Nat} {e : Ex} {c0 c1 c2 : Value} (h : Bx w g lo hi e c0 c1 c2) : Lies w w.heap.size e c0 c1 c2 := h.2.1.lies.more h.2.2
def Bs (w : World) (g lo hi : Nat) (e : Ex) (c0 c1 c2 : Value) : Prop := Row w g 25 #[c0, c1, c2] ∧ Sep w lo hi e c0 c1 c2 ∧ hi ≤ w.heap.size
theorem Bs.under {w w' : World} {g lo hi : Nat} {e : Ex} {c0 c1 c2 : Value} (h : Bs w g lo hi e c0 c1 c2) (hb : Below w.heap.size w w') : Bs w' g lo hi e c0 c1 c2 := ⟨h.1.under hb h.1.lt, h.2.1.under hb h.2.2, Nat.le_trans h.2.2 hb.size⟩
theorem Bs.kept {w w' : World} {g lo hi lo' hi' : Nat} {e : Ex} {c0 c1 c2 : Value} (h : Bs w g lo hi e c0 c1 c2) (hk : Kept lo' hi' w w') (h1 : g < lo' ∨ hi' ≤ g) (h2 : hi ≤ lo' ∨ hi' ≤ lo) : Bs w' g lo hi e c0 c1 c2 :=
  ⟨h.1.kept hk h1, h.2.1.keep (fun q q1 q2 => hk.other q (Nat.lt_of_lt_of_le q2 h.2.2) (by omega)), Nat.le_trans h.2.2 hk.size⟩
theorem Bs.lies {w : World} {g lo hi : Nat} {e : Ex} {c0 c1 c2 : Value} (h : Bs w g lo hi e c0 c1 c2) : Lies w w.heap.size e c0 c1 c2 := h.2.1.own.lies.more h.2.2
theorem eq_all (e : Ex) (c0 c1 c2 d0 d1 d2 : Value) (w : World) (h : Lies w w.heap.size e c0 c1 c2) (h' : Lies w w.heap.size e d0 d1 d2) : Calls Try.prog 21 #[.agg #[c0, c1, c2], .agg #[d0, d1, d2]] w fun e' w' => e' = .returned (.bool true) ∧ Below w.heap.size w w' := eq_any e c0 c1 c2 d0 d1 d2 w h h'

set_option maxHeartbeats 60000000 in
set_option maxRecDepth 100000 in
theorem lawSubst_any (e bb : Ex) (j : Int) (c0 c1 c2 b0 b1 b2 : Value) (w : World) (hL : Lies w w.heap.size e c0 c1 c2) (hLb : Lies w w.heap.size bb b0 b1 b2) :
    Calls Try.prog 7 #[.agg #[c0, c1, c2], .int .i64 j, .agg #[b0, b1, b2]] w fun e' w' => e' = .returned (.bool true) ∧ Below w.heap.size w w' := by
  obtain ⟨n0, n1, a2, l2, cp2, rfl, rfl, rfl⟩ := hL.form
  obtain ⟨m0, m1, ma, ml, mc, rfl, rfl, rfl⟩ := hLb.form
  obtain ⟨W1, hW1⟩ : ∃ W1, W1 = (w.alloc (.cells #[.int .i64 n0, .int .i64 n1, .slice a2 l2 cp2] 40)).alloc (.cells #[.int .i64 m0, .int .i64 m1, .slice ma ml mc] 40) := ⟨_, rfl⟩
  have hrows := two_boxes w 40 #[.int .i64 n0, .int .i64 n1, .slice a2 l2 cp2] #[.int .i64 m0, .int .i64 m1, .slice ma ml mc]
  rw [← hW1] at hrows
  obtain ⟨re, rb, hb0⟩ := hrows
  have HLe := Lib.hid (below_more hL hb0 hb0.size)
  have HLb := Lib.hid (below_more hLb hb0 hb0.size)
  have HRe := Lib.hid re
  have HRb := Lib.hid rb
  have HB0 := Lib.hid hb0
  have HW1 := Lib.hid hW1
  have hEl : w.heap.size < W1.heap.size := re.lt
  have hBl : w.heap.size + 1 < W1.heap.size := rb.lt
  clear hL hLb hW1 re rb hb0
  obtain ⟨r, hr⟩ : ∃ r, r = room 1048576 (desc e) := ⟨_, rfl⟩
  have HR := Lib.hid hr
  by_cases hbig : 1048576 < desc e
  · have hneg : r < 0 := by rw [hr]; unfold room; rw [if_pos (by omega)]; omega
    clear hr
    go_enter Try.func7, Try.ntmps7
    go_wp2_with fail
    rw [← HW1.out]
    refine (sz_any e 1048576 _ _ _ _ HLe.out (by omega) (by omega)).mono ?_
    rintro e' w1 ⟨rfl, hb1⟩
    rw [← HR.out]
    have HB1 := Lib.hid (HB0.out.trans (hb1.mono HB0.out.size))
    clear hb1
    go_wp2_with fail
    go_ret
    exact ⟨rfl, HB1.out⟩
  have hr0 : r = 1048576 - desc e := by rw [hr]; unfold room; rw [if_neg (by omega)]
  have hpos : 0 ≤ r := by omega
  have hr1 : r ≤ 1048576 := by omega
  clear hr
  have hd : desc e ≤ 1048576 := by omega
  obtain ⟨rs, hrs⟩ : ∃ rs, rs = room r (desc bb) := ⟨_, rfl⟩
  have HRs := Lib.hid hrs
  have HR0' := Lib.hid hr0
  have HD := Lib.hid hd
  clear hrs hr0 hbig hd
  go_enter Try.func7, Try.ntmps7
  go_wp2_with fail
  rw [← HW1.out]
  refine (sz_any e 1048576 _ _ _ _ HLe.out (by omega) (by omega)).mono ?_
  rintro e' w1 ⟨rfl, hb1⟩
  rw [← HR.out]
  have HB1 : Hid (Below W1.heap.size W1 w1) := hb1
  clear hb1
  have hbb := HRb.out.under HB1.out hBl
  have q0 : w1.cell? ⟨w.heap.size + 1, 0, none⟩ = some (.int .i64 m0) := hbb.cell 0
  have q1 : w1.cell? ⟨w.heap.size + 1, 1, none⟩ = some (.int .i64 m1) := hbb.cell 1
  have q2 : w1.cell? ⟨w.heap.size + 1, 2, none⟩ = some (.slice ma ml mc) := hbb.cell 2
  clear hbb
  go_wp2_with fail
  refine (sz_any bb r _ _ _ _ (below_more HLb.out HB1.out HB1.out.size) hpos hr1).mono ?_
  rintro e' w2 ⟨rfl, hb2⟩
  rw [← HRs.out]
  have HB2 : Hid (Below W1.heap.size W1 w2) := HB1.out.trans (hb2.mono HB1.out.size)
  clear hb2 q0 q1 q2 HB1
  by_cases hbig2 : r < desc bb
  · have hneg : rs < 0 := by rw [HRs.out]; unfold room; rw [if_pos hbig2]; omega
    have HBf := Lib.hid (HB0.out.trans (HB2.out.mono HB0.out.size))
    clear hbig2
    go_wp2_with fail
    go_ret
    exact ⟨rfl, HBf.out⟩
  have hposs : 0 ≤ rs := by rw [HRs.out]; unfold room; rw [if_neg hbig2]; omega
  have hd := HD.out
  have hr0 := HR0'.out
  have hdb : desc bb ≤ 1048576 := by omega
  have HSum : Hid (desc e + desc bb ≤ 1048576) := by show _ ≤ _; omega
  clear hr0 hbig2
  obtain ⟨ok, hok⟩ : ∃ ok, ok = substOk e j bb := ⟨_, rfl⟩
  have HOk := Lib.hid hok
  obtain ⟨T, hT⟩ : ∃ T, T = substOut e j bb := ⟨_, rfl⟩
  have HT := Lib.hid hT
  have hdT : desc T ≤ 224 := by rw [hT]; exact out_small e bb j
  clear hok hT
  have hbe := HRe.out.under HB2.out.drew hEl
  have hbb := HRb.out.under HB2.out.drew hBl
  have g0 : w2.cell? ⟨w.heap.size, 0, none⟩ = some (.int .i64 n0) := hbe.cell 0
  have g1 : w2.cell? ⟨w.heap.size, 1, none⟩ = some (.int .i64 n1) := hbe.cell 1
  have g2 : w2.cell? ⟨w.heap.size, 2, none⟩ = some (.slice a2 l2 cp2) := hbe.cell 2
  have k0 : w2.cell? ⟨w.heap.size + 1, 0, none⟩ = some (.int .i64 m0) := hbb.cell 0
  have k1 : w2.cell? ⟨w.heap.size + 1, 1, none⟩ = some (.int .i64 m1) := hbb.cell 1
  have k2 : w2.cell? ⟨w.heap.size + 1, 2, none⟩ = some (.slice ma ml mc) := hbb.cell 2
  have h12 : W1.heap.size ≤ w2.heap.size := HB2.out.size
  have hE2 : w.heap.size < w2.heap.size := by omega
  have hF2 : w.heap.size + 1 < w2.heap.size := by omega
  have hE3 : ¬ w.heap.size = w2.heap.size := by omega
  have hF3 : ¬ w.heap.size + 1 = w2.heap.size := by omega
  clear hbe hbb
  go_upto_region 8 with fail
  go_cut [8, 9] from 29 to 37 (fun p kk wx => ∃ (g8 lo8 hi8 : Nat) (d0 d1 d2 : Value), p = .pointer (some ⟨g8, 0, none⟩) ∧ kk = .bool ok ∧ Hid (Row wx g8 25 #[d0, d1, d2] ∧ Own wx 25 lo8 hi8 T d0 d1 d2 ∧ Below w2.heap.size w2 wx ∧ w2.heap.size ≤ g8 ∧ w2.heap.size ≤ lo8 ∧ hi8 ≤ wx.heap.size ∧ (g8 < lo8 ∨ hi8 ≤ g8)))
  case first =>
    have HRc1 : Hid (Row w2.drew w.heap.size 40 #[.int .i64 n0, .int .i64 n1, .slice a2 l2 cp2]) := HRe.out.under HB2.out.drew hEl
    have HRc2 : Hid (Row w2.drew (w.heap.size + 1) 40 #[.int .i64 m0, .int .i64 m1, .slice ma ml mc]) := HRb.out.under HB2.out.drew hBl
    have HEc : Hid (Lies w2.drew w2.drew.heap.size e (.int .i64 n0) (.int .i64 n1) (.slice a2 l2 cp2)) := below_more HLe.out HB2.out.drew HB2.out.size
    have HFc : Hid (Lies w2.drew w2.drew.heap.size bb (.int .i64 m0) (.int .i64 m1) (.slice ma ml mc)) := below_more HLb.out HB2.out.drew HB2.out.size
    have HBc : Hid (Below w2.heap.size w2 w2.drew) := (Below.refl _ _).drew
    go_region_with (first
      | (go_at_call 19
         with_reducible refine (to_all e (.int .i64 n0) (.int .i64 n1) (.slice a2 l2 cp2) _ HEc.out hd).mono ?_
         rintro e' w3 ⟨u0, u1, u2, rfl, ho3, hb3⟩
         obtain ⟨x0, x1, xa, xl, xc, rfl, rfl, rfl⟩ := ho3.form
         have HAc := Lib.hid ho3.lies
         replace HRc2 := Lib.hid (HRc2.out.under hb3 HRc2.out.lt)
         replace HFc := Lib.hid (below_more HFc.out hb3 hb3.size)
         replace HBc := Lib.hid (HBc.out.trans (hb3.mono HBc.out.size))
         have HBp := Lib.hid HBc.out.size
         have hFc : w.heap.size + 1 < w3.heap.size := HRc2.out.lt
         have hFn : ¬ w.heap.size + 1 = w3.heap.size := by omega
         have hFm : ¬ w3.heap.size = w.heap.size + 1 := by omega
         have hFl : ¬ w3.heap.size ≤ w.heap.size + 1 := by omega
         obtain ⟨s0, s1, s2⟩ := HRc2.out.three
         clear ho3 hb3)
      | (go_at_call 19
         have HEd : Hid (Lies (w2.alloc (.cells #[.int .i64 0, .int .i64 0, .slice none 0 0] 25)).drew (w2.alloc (.cells #[.int .i64 0, .int .i64 0, .slice none 0 0] 25)).drew.heap.size e (.int .i64 n0) (.int .i64 n1) (.slice a2 l2 cp2)) := HEc.out.push (.cells #[.int .i64 0, .int .i64 0, .slice none 0 0] 25)
         have HRd : Hid (Row (w2.alloc (.cells #[.int .i64 0, .int .i64 0, .slice none 0 0] 25)).drew (w.heap.size + 1) 40 #[.int .i64 m0, .int .i64 m1, .slice ma ml mc]) := HRc2.out.push (.cells #[.int .i64 0, .int .i64 0, .slice none 0 0] 25)
         have HFd : Hid (Lies (w2.alloc (.cells #[.int .i64 0, .int .i64 0, .slice none 0 0] 25)).drew (w2.alloc (.cells #[.int .i64 0, .int .i64 0, .slice none 0 0] 25)).drew.heap.size bb (.int .i64 m0) (.int .i64 m1) (.slice ma ml mc)) := HFc.out.push (.cells #[.int .i64 0, .int .i64 0, .slice none 0 0] 25)
         have HBd : Hid (Below w2.heap.size w2 (w2.alloc (.cells #[.int .i64 0, .int .i64 0, .slice none 0 0] 25)).drew) := ((Below.refl _ _).alloc (Nat.le_refl _) (.cells #[.int .i64 0, .int .i64 0, .slice none 0 0] 25)).drew
         have HZ : Hid (Row (w2.alloc (.cells #[.int .i64 0, .int .i64 0, .slice none 0 0] 25)).drew w2.heap.size 25 #[.int .i64 0, .int .i64 0, .slice none 0 0]) := Row.new w2 _ _
         clear HEc HRc2 HFc HBc
         have HEc := HEd
         have HRc2 := HRd
         have HFc := HFd
         have HBc := HBd
         clear HEd HRd HFd HBd
         with_reducible refine (to_all e (.int .i64 n0) (.int .i64 n1) (.slice a2 l2 cp2) _ HEc.out hd).mono ?_
         rintro e' w3 ⟨u0, u1, u2, rfl, ho3, hb3⟩
         obtain ⟨x0, x1, xa, xl, xc, rfl, rfl, rfl⟩ := ho3.form
         have HAc := Lib.hid ho3.lies
         replace HRc2 := Lib.hid (HRc2.out.under hb3 HRc2.out.lt)
         replace HFc := Lib.hid (below_more HFc.out hb3 hb3.size)
         replace HBc := Lib.hid (HBc.out.trans (hb3.mono HBc.out.size))
         have HBp := Lib.hid HBc.out.size
         have hFc : w.heap.size + 1 < w3.heap.size := HRc2.out.lt
         have hFn : ¬ w.heap.size + 1 = w3.heap.size := by omega
         have hFm : ¬ w3.heap.size = w.heap.size + 1 := by omega
         have hFl : ¬ w3.heap.size ≤ w.heap.size + 1 := by omega
         obtain ⟨s0, s1, s2⟩ := HRc2.out.three
         replace HZ := Lib.hid (HZ.out.under hb3 HZ.out.lt)
         have HZg : Hid (w2.heap.size ≤ w2.heap.size) := Nat.le_refl _
         clear ho3 hb3)
      | (go_at_call 19
         have hzz := HZ.out.lt
         with_reducible refine (to_all bb (.int .i64 m0) (.int .i64 m1) (.slice ma ml mc) _ HFc.out hdb).mono ?_
         rintro e' w4 ⟨u0, u1, u2, rfl, ho4, hb4⟩
         obtain ⟨y0, y1, ya, yl, yc, rfl, rfl, rfl⟩ := ho4.form
         have HDc := Lib.hid ho4.lies
         replace HAc := Lib.hid (below_more HAc.out hb4 hb4.size)
         replace HBc := Lib.hid (HBc.out.trans (hb4.mono HBc.out.size))
         replace HBp := Lib.hid HBc.out.size
         replace HZ := Lib.hid (HZ.out.under hb4 HZ.out.lt)
         clear ho4 hb4)
      | (go_at_call 19
         with_reducible refine (to_all bb (.int .i64 m0) (.int .i64 m1) (.slice ma ml mc) _ HFc.out hdb).mono ?_
         rintro e' w4 ⟨u0, u1, u2, rfl, ho4, hb4⟩
         obtain ⟨y0, y1, ya, yl, yc, rfl, rfl, rfl⟩ := ho4.form
         have HDc := Lib.hid ho4.lies
         replace HAc := Lib.hid (below_more HAc.out hb4 hb4.size)
         replace HBc := Lib.hid (HBc.out.trans (hb4.mono HBc.out.size))
         replace HBp := Lib.hid HBc.out.size
         clear ho4 hb4)
      | (go_at_call 19
         replace HRc2 := Lib.hid (HRc2.out.push (.cells #[.int .i64 0, .int .i64 0, .slice none 0 0] 25))
         replace HFc := Lib.hid (HFc.out.push (.cells #[.int .i64 0, .int .i64 0, .slice none 0 0] 25))
         replace HAc := Lib.hid (HAc.out.push (.cells #[.int .i64 0, .int .i64 0, .slice none 0 0] 25))
         replace HBc := Lib.hid (HBc.out.alloc HBc.out.size (.cells #[.int .i64 0, .int .i64 0, .slice none 0 0] 25))
         have HZ := Lib.hid (Row.new w3 25 #[.int .i64 0, .int .i64 0, .slice none 0 0])
         have HZg : Hid (w2.heap.size ≤ w3.heap.size) := HBp.out
         with_reducible refine (to_all bb (.int .i64 m0) (.int .i64 m1) (.slice ma ml mc) _ HFc.out hdb).mono ?_
         rintro e' w4 ⟨u0, u1, u2, rfl, ho4, hb4⟩
         obtain ⟨y0, y1, ya, yl, yc, rfl, rfl, rfl⟩ := ho4.form
         have HDc := Lib.hid ho4.lies
         replace HAc := Lib.hid (below_more HAc.out hb4 hb4.size)
         replace HBc := Lib.hid (HBc.out.trans (hb4.mono HBc.out.size))
         replace HBp := Lib.hid HBc.out.size
         replace HZ := Lib.hid (HZ.out.under hb4 HZ.out.lt)
         clear ho4 hb4)
      | (go_at_call 18
         have hzz := HZ.out.lt
         with_reducible refine (specSubst_any e bb j _ _ _ _ _ _ _ HAc.out HDc.out hd hdb).mono ?_
         rintro e' w6 ⟨t0, t1, t2, rfl, ho6, hb6⟩
         rw [← HOk.out]
         rw [← HT.out] at ho6
         obtain ⟨s0', s1', sa, sl, sc, rfl, rfl, rfl⟩ := ho6.form
         have HO6 := Lib.hid ho6
         have HL6 := Lib.hid HBc.out.size
         have HB6 := Lib.hid (HBc.out.trans (hb6.mono HBc.out.size))
         have HZl := Lib.hid HZ.out.lt
         replace HZ := Lib.hid (HZ.out.under hb6 HZ.out.lt)
         obtain ⟨z0, z1, z2⟩ := HZ.out.three
         have v0' := HZ.out.frozen 0
         have v1' := HZ.out.frozen 1
         have v2' := HZ.out.frozen 2
         clear ho6 hb6)
      | (go_at_call 18
         with_reducible refine (specSubst_any e bb j _ _ _ _ _ _ _ HAc.out HDc.out hd hdb).mono ?_
         rintro e' w6 ⟨t0, t1, t2, rfl, ho6, hb6⟩
         rw [← HOk.out]
         rw [← HT.out] at ho6
         obtain ⟨s0', s1', sa, sl, sc, rfl, rfl, rfl⟩ := ho6.form
         have HO6 := Lib.hid ho6
         have HL6 := Lib.hid HBc.out.size
         have HB6 := Lib.hid (HBc.out.trans (hb6.mono HBc.out.size))
         clear ho6 hb6)
      | (go_at_call 18
         replace HAc := Lib.hid (HAc.out.push (.cells #[.int .i64 0, .int .i64 0, .slice none 0 0] 25))
         replace HDc := Lib.hid (HDc.out.push (.cells #[.int .i64 0, .int .i64 0, .slice none 0 0] 25))
         replace HBc := Lib.hid (HBc.out.alloc HBc.out.size (.cells #[.int .i64 0, .int .i64 0, .slice none 0 0] 25))
         have HZ := Lib.hid (Row.new w4 25 #[.int .i64 0, .int .i64 0, .slice none 0 0])
         have HZg : Hid (w2.heap.size ≤ w4.heap.size) := HBp.out
         with_reducible refine (specSubst_any e bb j _ _ _ _ _ _ _ HAc.out HDc.out hd hdb).mono ?_
         rintro e' w6 ⟨t0, t1, t2, rfl, ho6, hb6⟩
         rw [← HOk.out]
         rw [← HT.out] at ho6
         obtain ⟨s0', s1', sa, sl, sc, rfl, rfl, rfl⟩ := ho6.form
         have HO6 := Lib.hid ho6
         have HL6 := Lib.hid HBc.out.size
         have HB6 := Lib.hid (HBc.out.trans (hb6.mono HBc.out.size))
         have HZl := Lib.hid HZ.out.lt
         replace HZ := Lib.hid (HZ.out.under hb6 HZ.out.lt)
         obtain ⟨z0, z1, z2⟩ := HZ.out.three
         have v0' := HZ.out.frozen 0
         have v1' := HZ.out.frozen 1
         have v2' := HZ.out.frozen 2
         clear ho6 hb6))
    all_goals
      (go_wp2_with fail
       go_meet
       first
       | exact ⟨_, _, w6.heap.size, _, _, _, rfl, rfl, ((HZ.out.set_ 0 _).set_ 1 _).set_ 2 _, HO6.out.keep (Nat.le_refl _) (Nat.le_refl _) (fun q q1 _ => by have := HZl.out; rw [Below.heap_setCell _ _ _ _ (by simp; omega), Below.heap_setCell _ _ _ _ (by simp; omega), Below.heap_setCell _ _ _ _ (by simp; omega)]), ((HB6.out.setCell (by exact HZg.out) _).setCell (by exact HZg.out) _).setCell (by exact HZg.out) _, HZg.out, HL6.out, by simp, .inl HZl.out⟩
       | exact ⟨w6.heap.size, _, w6.heap.size, _, _, _, rfl, rfl, Row.new _ _ _, HO6.out.under ((Below.refl _ _).alloc (Nat.le_refl _) _) (Nat.le_refl _), HB6.out.alloc HB6.out.size _, HB6.out.size, HL6.out, by simp, .inr (Nat.le_refl _)⟩)
  case rest =>
    obtain ⟨g8, lo8, hi8, d0, d1, d2, rfl, rfl, H8⟩ := hcut
    obtain ⟨hr8, ho8, hb8, hg8, hlo8, hhi8, hsep8⟩ := H8.out
    obtain ⟨e0, e1, ea, el, ec, rfl, rfl, rfl⟩ := ho8.form
    have HBc : Hid (Below W1.heap.size W1 wc) := HB2.out.trans (hb8.mono h12)
    have HD : Hid (Bx wc g8 lo8 hi8 T (.int .i64 e0) (.int .i64 e1) (.slice ea el ec)) := ⟨hr8, ho8, hhi8⟩
    have hg8c : g8 < wc.heap.size := hr8.lt
    clear H8 hr8 ho8 hb8 g0 g1 g2 k0 k1 k2
    obtain ⟨g0, g1, g2⟩ := (HRe.out.under HBc.out hEl).three
    go_wp2_with fail
    -- the copy of e
    refine (to_all e _ _ _ _ (below_more HLe.out HBc.out HBc.out.size) hd).mono ?_
    rintro e' wa ⟨u0, u1, u2, rfl, hoa, hba⟩
    obtain ⟨x0, x1, xa, xl, xc, rfl, rfl, rfl⟩ := hoa.form
    have HBa : Hid (Below W1.heap.size W1 wa) := HBc.out.trans (hba.mono HBc.out.size)
    obtain ⟨WA, hWA⟩ : ∃ WA, WA = wa.alloc (.cells #[.int .i64 x0, .int .i64 x1, .slice xa xl xc] 25) := ⟨_, rfl⟩
    have hbA : Below wa.heap.size wa WA := by rw [hWA]; exact (Below.refl _ _).alloc (Nat.le_refl _) _
    have HX : Hid (Bx WA wa.heap.size wc.heap.size wa.heap.size e (.int .i64 x0) (.int .i64 x1) (.slice xa xl xc)) := ⟨by rw [hWA]; exact Row.new _ _ _, hoa.under hbA (Nat.le_refl _), hbA.size⟩
    have HDA := Lib.hid ((HD.out.under hba).under hbA)
    have HBA : Hid (Below W1.heap.size W1 WA) := HBa.out.trans (hbA.mono HBa.out.size)
    have hca : wc.heap.size ≤ wa.heap.size := hba.size
    have hWc : W1.heap.size ≤ wc.heap.size := HBc.out.size
    have haA : wa.heap.size < WA.heap.size := HX.out.1.lt
    have HWA := Lib.hid hWA
    clear hba hoa hbA hWA g0 g1 g2 HD
    obtain ⟨k0, k1, k2⟩ := (HRb.out.under HBa.out hBl).three
    have hBa : w.heap.size + 1 < wa.heap.size := by omega
    have hBn : ¬ w.heap.size + 1 = wa.heap.size := by omega
    go_wp2_with fail
    rw [← HWA.out]
    -- the copy of by
    refine (to_all bb _ _ _ _ (below_more HLb.out HBA.out HBA.out.size) hdb).mono ?_
    rintro e' wb ⟨u0, u1, u2, rfl, hob, hbb⟩
    obtain ⟨y0, y1, ya, yl, yc, rfl, rfl, rfl⟩ := hob.form
    have HBb : Hid (Below W1.heap.size W1 wb) := HBA.out.trans (hbb.mono HBA.out.size)
    have HXb := Lib.hid (HX.out.under hbb)
    obtain ⟨WB, hWB⟩ : ∃ WB, WB = wb.alloc (.cells #[.int .i64 y0, .int .i64 y1, .slice ya yl yc] 25) := ⟨_, rfl⟩
    have hbB : Below wb.heap.size wb WB := by rw [hWB]; exact (Below.refl _ _).alloc (Nat.le_refl _) _
    have HY : Hid (Bx WB wb.heap.size WA.heap.size wb.heap.size bb (.int .i64 y0) (.int .i64 y1) (.slice ya yl yc)) := ⟨by rw [hWB]; exact Row.new _ _ _, hob.under hbB (Nat.le_refl _), hbB.size⟩
    have HDB := Lib.hid ((HDA.out.under hbb).under hbB)
    have HXB := Lib.hid (HXb.out.under hbB)
    have HBB : Hid (Below W1.heap.size W1 WB) := HBb.out.trans (hbB.mono HBb.out.size)
    have hAb : WA.heap.size ≤ wb.heap.size := hbb.size
    have hbBl : wb.heap.size < WB.heap.size := HY.out.1.lt
    have HWB := Lib.hid hWB
    clear hbb hob hbB hWB k0 k1 k2 HDA HX hBa hBn
    obtain ⟨f0, f1, f2⟩ := HXb.out.1.three
    have hab : wa.heap.size < wb.heap.size := by omega
    have habn : ¬ wa.heap.size = wb.heap.size := by omega
    go_wp2_with fail
    rw [← HWB.out]
    -- the program's answer
    refine (implSubst_any e bb j _ _ _ _ _ _ _ HXB.out.lies HY.out.lies hd hdb).mono ?_
    rintro e' wg ⟨u0, u1, u2, rfl, hog, hbg⟩
    rw [← HOk.out]
    rw [← HT.out] at hog
    obtain ⟨t0, t1, ta, tl, tc, rfl, rfl, rfl⟩ := hog.form
    have HDg := Lib.hid (HDB.out.under hbg)
    obtain ⟨WG, hWG⟩ : ∃ WG, WG = wg.alloc (.cells #[.int .i64 t0, .int .i64 t1, .slice ta tl tc] 25) := ⟨_, rfl⟩
    have hbG : Below wg.heap.size wg WG := by rw [hWG]; exact (Below.refl _ _).alloc (Nat.le_refl _) _
    have HG : Hid (Bs WG wg.heap.size WB.heap.size wg.heap.size T (.int .i64 t0) (.int .i64 t1) (.slice ta tl tc)) := ⟨by rw [hWG]; exact Row.new _ _ _, hog.under hbG (Nat.le_refl _), hbG.size⟩
    have HDG := Lib.hid (HDg.out.under hbG)
    have HXG := Lib.hid ((HXB.out.under hbg).under hbG)
    have HYG := Lib.hid ((HY.out.under hbg).under hbG)
    have HBg : Hid (Below W1.heap.size W1 wg) := HBB.out.trans (hbg.mono HBB.out.size)
    have HBG : Hid (Below W1.heap.size W1 WG) := HBg.out.trans (hbG.mono HBg.out.size)
    have hBg : WB.heap.size ≤ wg.heap.size := hbg.size
    have hgG : wg.heap.size < WG.heap.size := HG.out.1.lt
    have HWG := Lib.hid hWG
    clear hbg hog hbG hWG f0 f1 f2 HDB HXB HY hab habn HXb
    obtain ⟨f0, f1, f2⟩ := HDg.out.1.three
    have h8g : g8 < wg.heap.size := by omega
    have h8n : ¬ g8 = wg.heap.size := by omega
    go_wp2_with fail
    rw [← HWG.out]
    refine (eq_all T _ _ _ _ _ _ _ HG.out.lies HDG.out.lies).mono ?_
    rintro e' wh ⟨rfl, hbh⟩
    have HGh := Lib.hid (HG.out.under hbh)
    have HDh := Lib.hid (HDG.out.under hbh)
    have HXh := Lib.hid (HXG.out.under hbh)
    have HYh := Lib.hid (HYG.out.under hbh)
    have HBh : Hid (Below W1.heap.size W1 wh) := HBG.out.trans (hbh.mono HBG.out.size)
    have hGh : WG.heap.size ≤ wh.heap.size := hbh.size
    clear hbh f0 f1 f2 HG HDG HXG HYG HDg h8g h8n HBG
    -- e is as it was
    have hEh : w.heap.size < wh.heap.size := by omega
    have hre := HRe.out.under HBh.out.drew hEl
    obtain ⟨g0, g1, g2⟩ := (show Row wh _ _ _ from hre).three
    obtain ⟨f0, f1, f2⟩ := HXh.out.1.three
    have hah : wa.heap.size < wh.heap.size := by omega
    go_upto_region 14 with fail
    go_cut [62] from 58 to 61 (fun b wx => b = .bool false ∧ Hid (Below wh.heap.size wh wx))
    case first =>
      have HEc : Hid (Lies wh.drew wh.drew.heap.size e (.int .i64 n0) (.int .i64 n1) (.slice a2 l2 cp2)) := below_more HLe.out HBh.out.drew HBh.out.size
      have HXc : Hid (Bx wh.drew wa.heap.size wc.heap.size wa.heap.size e (.int .i64 x0) (.int .i64 x1) (.slice xa xl xc)) := HXh.out.under (Below.refl _ _).drew
      go_region_with (first
        | (go_at_call 19
           refine (to_all e (.int .i64 n0) (.int .i64 n1) (.slice a2 l2 cp2) _ HEc.out hd).mono ?_
           rintro e' w8 ⟨u0, u1, u2, rfl, hs8, hb8⟩
           have HX9 := Lib.hid (HXc.out.under hb8)
           obtain ⟨o0, o1, o2⟩ := HX9.out.1.three
           have HY9 := Lib.hid hs8.lies
           have HB9 : Hid (Below wh.heap.size wh w8) := (Below.refl _ _).drew.trans hb8
           clear hb8 hs8)
        | (go_at_call 21
           refine (eq_all e _ _ _ _ _ _ _ HX9.out.lies HY9.out).mono ?_
           rintro e' w9 ⟨rfl, hb9⟩
           have HB10 : Hid (Below wh.heap.size wh w9) := HB9.out.trans (hb9.mono HB9.out.size)
           clear hb9))
      all_goals
        (go_wp2_with fail
         go_meet
         exact ⟨rfl, HB10⟩)
    case rest =>
    rename World => wi
    obtain ⟨rfl, HBi0⟩ := hcut
    have HGi := Lib.hid (HGh.out.under HBi0.out)
    have HDi := Lib.hid (HDh.out.under HBi0.out)
    have HXi := Lib.hid (HXh.out.under HBi0.out)
    have HYi := Lib.hid (HYh.out.under HBi0.out)
    have HBi : Hid (Below W1.heap.size W1 wi) := HBh.out.trans (HBi0.out.mono HBh.out.size)
    have hhi' : wh.heap.size ≤ wi.heap.size := HBi0.out.size
    clear HBi0 HGh HDh HXh HYh HBh g0 g1 g2 f0 f1 f2 hre hEh hah
    -- by is as it was
    have hEi : w.heap.size + 1 < wi.heap.size := by omega
    have hrb := HRb.out.under HBi.out.drew hBl
    obtain ⟨g0, g1, g2⟩ := (show Row wi _ _ _ from hrb).three
    obtain ⟨f0, f1, f2⟩ := HYi.out.1.three
    have hbi : wb.heap.size < wi.heap.size := by omega
    go_upto_region 16 with fail
    go_cut [67] from 63 to 66 (fun b wx => b = .bool false ∧ Hid (Below wi.heap.size wi wx))
    case first =>
      have HEc : Hid (Lies wi.drew wi.drew.heap.size bb (.int .i64 m0) (.int .i64 m1) (.slice ma ml mc)) := below_more HLb.out HBi.out.drew HBi.out.size
      have HYc : Hid (Bx wi.drew wb.heap.size WA.heap.size wb.heap.size bb (.int .i64 y0) (.int .i64 y1) (.slice ya yl yc)) := HYi.out.under (Below.refl _ _).drew
      go_region_with (first
        | (go_at_call 19
           refine (to_all bb (.int .i64 m0) (.int .i64 m1) (.slice ma ml mc) _ HEc.out hdb).mono ?_
           rintro e' w8 ⟨u0, u1, u2, rfl, hs8, hb8⟩
           have HX9 := Lib.hid (HYc.out.under hb8)
           obtain ⟨o0, o1, o2⟩ := HX9.out.1.three
           have HY9 := Lib.hid hs8.lies
           have HB9 : Hid (Below wi.heap.size wi w8) := (Below.refl _ _).drew.trans hb8
           clear hb8 hs8)
        | (go_at_call 21
           refine (eq_all bb _ _ _ _ _ _ _ HX9.out.lies HY9.out).mono ?_
           rintro e' w9 ⟨rfl, hb9⟩
           have HB10 : Hid (Below wi.heap.size wi w9) := HB9.out.trans (hb9.mono HB9.out.size)
           clear hb9))
      all_goals
        (go_wp2_with fail
         go_meet
         exact ⟨rfl, HB10⟩)
    case rest =>
    rename World => wj
    obtain ⟨rfl, HBj0⟩ := hcut
    have HGj := Lib.hid (HGi.out.under HBj0.out)
    have HDj := Lib.hid (HDi.out.under HBj0.out)
    have HXj := Lib.hid (HXi.out.under HBj0.out)
    have HYj := Lib.hid (HYi.out.under HBj0.out)
    have HBj : Hid (Below W1.heap.size W1 wj) := HBi.out.trans (HBj0.out.mono HBi.out.size)
    have hij : wi.heap.size ≤ wj.heap.size := HBj0.out.size
    clear HBj0 HGi HDi HXi HYi HBi g0 g1 g2 f0 f1 f2 hrb hEi hbi
    obtain ⟨f0, f1, f2⟩ := HXj.out.1.three
    obtain ⟨de, hde⟩ : ∃ de : Nat, de = desc e := ⟨_, rfl⟩
    obtain ⟨db, hdb'⟩ : ∃ db : Nat, db = desc bb := ⟨_, rfl⟩
    obtain ⟨dt, hdt⟩ : ∃ dt : Nat, dt = desc T := ⟨_, rfl⟩
    have hsum := HSum.out
    have hde1 : de + db ≤ 1048576 := by omega
    have hdt1 : dt ≤ 224 := by omega
    have HDe := Lib.hid hde
    have HDb := Lib.hid hdb'
    have HDt := Lib.hid hdt
    clear hsum hde hdb' hdt
    go_wp2_with fail
    refine (markExpr_any e _ _ _ 1 _ _ _ HXj.out.2.1 HXj.out.2.2 hd (by omega) (by have := HDe.out; omega)).mono ?_
    rintro e' wk ⟨rfl, hsk⟩
    rw [← HDe.out]
    have hkk := hsk.kept
    have hjk : wj.heap.size ≤ wk.heap.size := hkk.size
    have HGk := Lib.hid (HGj.out.kept hkk (.inr (by omega)) (.inr (by omega)))
    have HDk := Lib.hid (HDj.out.kept hkk (.inl (by omega)) (.inl (by omega)))
    have HYk := Lib.hid (HYj.out.kept hkk (.inr (by omega)) (.inr (by omega)))
    have HBk : Hid (Below W1.heap.size W1 wk) := HBj.out.trans (hkk.below hWc (by omega))
    clear hsk hkk HGj HDj HXj HYj HBj f0 f1 f2
    obtain ⟨f0, f1, f2⟩ := HYk.out.1.three
    go_wp2_with fail
    refine (markExpr_any bb _ _ _ (1 + 2 * de) _ _ _ HYk.out.2.1 HYk.out.2.2 hdb (by omega) (by have := HDb.out; omega)).mono ?_
    rintro e' wl ⟨rfl, hsl⟩
    rw [← HDb.out]
    have hkl := hsl.kept
    have hkl' : wk.heap.size ≤ wl.heap.size := hkl.size
    have HGl := Lib.hid (HGk.out.kept hkl (.inr (by omega)) (.inr (by omega)))
    have HDl := Lib.hid (HDk.out.kept hkl (.inl (by omega)) (.inl (by omega)))
    have HBl : Hid (Below W1.heap.size W1 wl) := HBk.out.trans (hkl.below (by omega) (by omega))
    clear hsl hkl HGk HDk HYk HBk f0 f1 f2
    obtain ⟨f0, f1, f2⟩ := HGl.out.1.three
    obtain ⟨k0, k1, k2⟩ := HDl.out.1.three
    go_wp2_with fail
    refine (eq_all T _ _ _ _ _ _ _ HGl.out.lies HDl.out.lies).mono ?_
    rintro e' wm ⟨rfl, hbm⟩
    have HGm := Lib.hid (HGl.out.under hbm)
    have HDm := Lib.hid (HDl.out.under hbm)
    have HBm : Hid (Below W1.heap.size W1 wm) := HBl.out.trans (hbm.mono HBl.out.size)
    have hlm : wl.heap.size ≤ wm.heap.size := hbm.size
    clear hbm HGl HDl HBl f0 f1 f2 k0 k1 k2
    obtain ⟨f0, f1, f2⟩ := HGm.out.1.three
    go_wp2_with fail
    refine (markHeld_any T _ _ _ 1 _ _ _ HGm.out.2.1 HGm.out.2.2 (by omega) (by omega) (by have := HDt.out; omega)).mono ?_
    rintro e' wn ⟨rfl, hhn, hkn⟩
    rw [← HDt.out]
    have hmn : wm.heap.size ≤ wn.heap.size := hkn.size
    have HHn := Lib.hid hhn
    have HRn := Lib.hid (HGm.out.1.kept hkn (.inr (by omega)))
    have HDn := Lib.hid (HDm.out.kept hkn (.inl (by omega)) (.inl (by omega)))
    have HBn : Hid (Below W1.heap.size W1 wn) := HBm.out.trans (hkn.below (by omega) (by omega))
    clear hhn hkn HGm HDm HBm f0 f1 f2
    obtain ⟨f0, f1, f2⟩ := HRn.out.three
    go_wp2_with fail
    refine (heldExpr_any T _ _ _ _ _ 1 _ _ _ HHn.out (by omega) (by omega) (by omega) (by have := HDt.out; omega)).mono ?_
    rintro e' wo ⟨rfl, hbo⟩
    rw [← HDt.out]
    have HHo := Lib.hid (HHn.out.keep fun q _ q2 => hbo.block q (by omega))
    have HRo := Lib.hid (HRn.out.under hbo HRn.out.lt)
    have HDo := Lib.hid (HDn.out.under hbo)
    have HBo : Hid (Below W1.heap.size W1 wo) := HBn.out.trans (hbo.mono HBn.out.size)
    have hno : wn.heap.size ≤ wo.heap.size := hbo.size
    clear hbo HHn HRn HDn HBn f0 f1 f2
    have hE2' : w.heap.size < wo.heap.size := by omega
    have hF2' : w.heap.size + 1 < wo.heap.size := by omega
    have hE3' : ¬ w.heap.size = wo.heap.size := by omega
    have hF3' : ¬ w.heap.size + 1 = wo.heap.size := by omega
    obtain ⟨g0, g1, g2⟩ := (HRe.out.under HBo.out hEl).three
    obtain ⟨k0, k1, k2⟩ := (HRb.out.under HBo.out hBl).three
    go_upto_region 31 with fail
    go_cut [17, 18] from 98 to 106 (fun p kk wx => ∃ (g8 lo8 hi8 : Nat) (d0 d1 d2 : Value), p = .pointer (some ⟨g8, 0, none⟩) ∧ kk = .bool ok ∧ Hid (Row wx g8 25 #[d0, d1, d2] ∧ Own wx 25 lo8 hi8 T d0 d1 d2 ∧ Below wo.heap.size wo wx ∧ wo.heap.size ≤ g8 ∧ wo.heap.size ≤ lo8 ∧ hi8 ≤ wx.heap.size ∧ (g8 < lo8 ∨ hi8 ≤ g8)))
    case first =>
      have HRc1 : Hid (Row wo.drew w.heap.size 40 #[.int .i64 n0, .int .i64 n1, .slice a2 l2 cp2]) := HRe.out.under HBo.out.drew hEl
      have HRc2 : Hid (Row wo.drew (w.heap.size + 1) 40 #[.int .i64 m0, .int .i64 m1, .slice ma ml mc]) := HRb.out.under HBo.out.drew hBl
      have HEc : Hid (Lies wo.drew wo.drew.heap.size e (.int .i64 n0) (.int .i64 n1) (.slice a2 l2 cp2)) := below_more HLe.out HBo.out.drew HBo.out.size
      have HFc : Hid (Lies wo.drew wo.drew.heap.size bb (.int .i64 m0) (.int .i64 m1) (.slice ma ml mc)) := below_more HLb.out HBo.out.drew HBo.out.size
      have HBc : Hid (Below wo.heap.size wo wo.drew) := (Below.refl _ _).drew
      go_region_with (first
        | (go_at_call 19
           with_reducible refine (to_all e (.int .i64 n0) (.int .i64 n1) (.slice a2 l2 cp2) _ HEc.out hd).mono ?_
           rintro e' w3 ⟨u0, u1, u2, rfl, ho3, hb3⟩
           obtain ⟨x0, x1, xa, xl, xc, rfl, rfl, rfl⟩ := ho3.form
           have HAc := Lib.hid ho3.lies
           replace HRc2 := Lib.hid (HRc2.out.under hb3 HRc2.out.lt)
           replace HFc := Lib.hid (below_more HFc.out hb3 hb3.size)
           replace HBc := Lib.hid (HBc.out.trans (hb3.mono HBc.out.size))
           have HBp := Lib.hid HBc.out.size
           have hFc : w.heap.size + 1 < w3.heap.size := HRc2.out.lt
           have hFn : ¬ w.heap.size + 1 = w3.heap.size := by omega
           have hFm : ¬ w3.heap.size = w.heap.size + 1 := by omega
           have hFl : ¬ w3.heap.size ≤ w.heap.size + 1 := by omega
           obtain ⟨s0, s1, s2⟩ := HRc2.out.three
           clear ho3 hb3)
        | (go_at_call 19
           have HEd : Hid (Lies (wo.alloc (.cells #[.int .i64 0, .int .i64 0, .slice none 0 0] 25)).drew (wo.alloc (.cells #[.int .i64 0, .int .i64 0, .slice none 0 0] 25)).drew.heap.size e (.int .i64 n0) (.int .i64 n1) (.slice a2 l2 cp2)) := HEc.out.push (.cells #[.int .i64 0, .int .i64 0, .slice none 0 0] 25)
           have HRd : Hid (Row (wo.alloc (.cells #[.int .i64 0, .int .i64 0, .slice none 0 0] 25)).drew (w.heap.size + 1) 40 #[.int .i64 m0, .int .i64 m1, .slice ma ml mc]) := HRc2.out.push (.cells #[.int .i64 0, .int .i64 0, .slice none 0 0] 25)
           have HFd : Hid (Lies (wo.alloc (.cells #[.int .i64 0, .int .i64 0, .slice none 0 0] 25)).drew (wo.alloc (.cells #[.int .i64 0, .int .i64 0, .slice none 0 0] 25)).drew.heap.size bb (.int .i64 m0) (.int .i64 m1) (.slice ma ml mc)) := HFc.out.push (.cells #[.int .i64 0, .int .i64 0, .slice none 0 0] 25)
           have HBd : Hid (Below wo.heap.size wo (wo.alloc (.cells #[.int .i64 0, .int .i64 0, .slice none 0 0] 25)).drew) := ((Below.refl _ _).alloc (Nat.le_refl _) (.cells #[.int .i64 0, .int .i64 0, .slice none 0 0] 25)).drew
           have HZ : Hid (Row (wo.alloc (.cells #[.int .i64 0, .int .i64 0, .slice none 0 0] 25)).drew wo.heap.size 25 #[.int .i64 0, .int .i64 0, .slice none 0 0]) := Row.new wo _ _
           clear HEc HRc2 HFc HBc
           have HEc := HEd
           have HRc2 := HRd
           have HFc := HFd
           have HBc := HBd
           clear HEd HRd HFd HBd
           with_reducible refine (to_all e (.int .i64 n0) (.int .i64 n1) (.slice a2 l2 cp2) _ HEc.out hd).mono ?_
           rintro e' w3 ⟨u0, u1, u2, rfl, ho3, hb3⟩
           obtain ⟨x0, x1, xa, xl, xc, rfl, rfl, rfl⟩ := ho3.form
           have HAc := Lib.hid ho3.lies
           replace HRc2 := Lib.hid (HRc2.out.under hb3 HRc2.out.lt)
           replace HFc := Lib.hid (below_more HFc.out hb3 hb3.size)
           replace HBc := Lib.hid (HBc.out.trans (hb3.mono HBc.out.size))
           have HBp := Lib.hid HBc.out.size
           have hFc : w.heap.size + 1 < w3.heap.size := HRc2.out.lt
           have hFn : ¬ w.heap.size + 1 = w3.heap.size := by omega
           have hFm : ¬ w3.heap.size = w.heap.size + 1 := by omega
           have hFl : ¬ w3.heap.size ≤ w.heap.size + 1 := by omega
           obtain ⟨s0, s1, s2⟩ := HRc2.out.three
           replace HZ := Lib.hid (HZ.out.under hb3 HZ.out.lt)
           have HZg : Hid (wo.heap.size ≤ wo.heap.size) := Nat.le_refl _
           clear ho3 hb3)
        | (go_at_call 19
           have hzz := HZ.out.lt
           with_reducible refine (to_all bb (.int .i64 m0) (.int .i64 m1) (.slice ma ml mc) _ HFc.out hdb).mono ?_
           rintro e' w4 ⟨u0, u1, u2, rfl, ho4, hb4⟩
           obtain ⟨y0, y1, ya, yl, yc, rfl, rfl, rfl⟩ := ho4.form
           have HDc := Lib.hid ho4.lies
           replace HAc := Lib.hid (below_more HAc.out hb4 hb4.size)
           replace HBc := Lib.hid (HBc.out.trans (hb4.mono HBc.out.size))
           replace HBp := Lib.hid HBc.out.size
           replace HZ := Lib.hid (HZ.out.under hb4 HZ.out.lt)
           clear ho4 hb4)
        | (go_at_call 19
           with_reducible refine (to_all bb (.int .i64 m0) (.int .i64 m1) (.slice ma ml mc) _ HFc.out hdb).mono ?_
           rintro e' w4 ⟨u0, u1, u2, rfl, ho4, hb4⟩
           obtain ⟨y0, y1, ya, yl, yc, rfl, rfl, rfl⟩ := ho4.form
           have HDc := Lib.hid ho4.lies
           replace HAc := Lib.hid (below_more HAc.out hb4 hb4.size)
           replace HBc := Lib.hid (HBc.out.trans (hb4.mono HBc.out.size))
           replace HBp := Lib.hid HBc.out.size
           clear ho4 hb4)
        | (go_at_call 19
           replace HRc2 := Lib.hid (HRc2.out.push (.cells #[.int .i64 0, .int .i64 0, .slice none 0 0] 25))
           replace HFc := Lib.hid (HFc.out.push (.cells #[.int .i64 0, .int .i64 0, .slice none 0 0] 25))
           replace HAc := Lib.hid (HAc.out.push (.cells #[.int .i64 0, .int .i64 0, .slice none 0 0] 25))
           replace HBc := Lib.hid (HBc.out.alloc HBc.out.size (.cells #[.int .i64 0, .int .i64 0, .slice none 0 0] 25))
           have HZ := Lib.hid (Row.new w3 25 #[.int .i64 0, .int .i64 0, .slice none 0 0])
           have HZg : Hid (wo.heap.size ≤ w3.heap.size) := HBp.out
           with_reducible refine (to_all bb (.int .i64 m0) (.int .i64 m1) (.slice ma ml mc) _ HFc.out hdb).mono ?_
           rintro e' w4 ⟨u0, u1, u2, rfl, ho4, hb4⟩
           obtain ⟨y0, y1, ya, yl, yc, rfl, rfl, rfl⟩ := ho4.form
           have HDc := Lib.hid ho4.lies
           replace HAc := Lib.hid (below_more HAc.out hb4 hb4.size)
           replace HBc := Lib.hid (HBc.out.trans (hb4.mono HBc.out.size))
           replace HBp := Lib.hid HBc.out.size
           replace HZ := Lib.hid (HZ.out.under hb4 HZ.out.lt)
           clear ho4 hb4)
        | (go_at_call 20
           have hzz := HZ.out.lt
           with_reducible refine (implSubst_any e bb j _ _ _ _ _ _ _ HAc.out HDc.out hd hdb).mono ?_
           rintro e' w6 ⟨t0, t1, t2, rfl, ho6, hb6⟩
           rw [← HOk.out]
           rw [← HT.out] at ho6
           obtain ⟨s0', s1', sa, sl, sc, rfl, rfl, rfl⟩ := ho6.form
           have HO6 := Lib.hid ho6.own
           have HL6 := Lib.hid HBc.out.size
           have HB6 := Lib.hid (HBc.out.trans (hb6.mono HBc.out.size))
           have HZl := Lib.hid HZ.out.lt
           replace HZ := Lib.hid (HZ.out.under hb6 HZ.out.lt)
           obtain ⟨z0, z1, z2⟩ := HZ.out.three
           have v0' := HZ.out.frozen 0
           have v1' := HZ.out.frozen 1
           have v2' := HZ.out.frozen 2
           clear ho6 hb6)
        | (go_at_call 20
           with_reducible refine (implSubst_any e bb j _ _ _ _ _ _ _ HAc.out HDc.out hd hdb).mono ?_
           rintro e' w6 ⟨t0, t1, t2, rfl, ho6, hb6⟩
           rw [← HOk.out]
           rw [← HT.out] at ho6
           obtain ⟨s0', s1', sa, sl, sc, rfl, rfl, rfl⟩ := ho6.form
           have HO6 := Lib.hid ho6.own
           have HL6 := Lib.hid HBc.out.size
           have HB6 := Lib.hid (HBc.out.trans (hb6.mono HBc.out.size))
           clear ho6 hb6)
        | (go_at_call 20
           replace HAc := Lib.hid (HAc.out.push (.cells #[.int .i64 0, .int .i64 0, .slice none 0 0] 25))
           replace HDc := Lib.hid (HDc.out.push (.cells #[.int .i64 0, .int .i64 0, .slice none 0 0] 25))
           replace HBc := Lib.hid (HBc.out.alloc HBc.out.size (.cells #[.int .i64 0, .int .i64 0, .slice none 0 0] 25))
           have HZ := Lib.hid (Row.new w4 25 #[.int .i64 0, .int .i64 0, .slice none 0 0])
           have HZg : Hid (wo.heap.size ≤ w4.heap.size) := HBp.out
           with_reducible refine (implSubst_any e bb j _ _ _ _ _ _ _ HAc.out HDc.out hd hdb).mono ?_
           rintro e' w6 ⟨t0, t1, t2, rfl, ho6, hb6⟩
           rw [← HOk.out]
           rw [← HT.out] at ho6
           obtain ⟨s0', s1', sa, sl, sc, rfl, rfl, rfl⟩ := ho6.form
           have HO6 := Lib.hid ho6.own
           have HL6 := Lib.hid HBc.out.size
           have HB6 := Lib.hid (HBc.out.trans (hb6.mono HBc.out.size))
           have HZl := Lib.hid HZ.out.lt
           replace HZ := Lib.hid (HZ.out.under hb6 HZ.out.lt)
           obtain ⟨z0, z1, z2⟩ := HZ.out.three
           have v0' := HZ.out.frozen 0
           have v1' := HZ.out.frozen 1
           have v2' := HZ.out.frozen 2
           clear ho6 hb6))
      all_goals
        (go_wp2_with fail
         go_meet
         first
         | exact ⟨_, _, w6.heap.size, _, _, _, rfl, rfl, ((HZ.out.set_ 0 _).set_ 1 _).set_ 2 _, HO6.out.keep (Nat.le_refl _) (Nat.le_refl _) (fun q q1 _ => by have := HZl.out; rw [Below.heap_setCell _ _ _ _ (by simp; omega), Below.heap_setCell _ _ _ _ (by simp; omega), Below.heap_setCell _ _ _ _ (by simp; omega)]), ((HB6.out.setCell (by exact HZg.out) _).setCell (by exact HZg.out) _).setCell (by exact HZg.out) _, HZg.out, HL6.out, by simp, .inl HZl.out⟩
         | exact ⟨w6.heap.size, _, w6.heap.size, _, _, _, rfl, rfl, Row.new _ _ _, HO6.out.under ((Below.refl _ _).alloc (Nat.le_refl _) _) (Nat.le_refl _), HB6.out.alloc HB6.out.size _, HB6.out.size, HL6.out, by simp, .inr (Nat.le_refl _)⟩)
    case rest =>
    rename World => wp
    obtain ⟨g9, lo9, hi9, z0, z1, z2, rfl, rfl, H9⟩ := hcut
    obtain ⟨hr9, ho9, hb9, hg9, hlo9, hhi9, hsep9⟩ := H9.out
    obtain ⟨z0, z1, za, zl, zc, rfl, rfl, rfl⟩ := ho9.form
    have HHp := Lib.hid (HHo.out.keep fun q _ q2 => hb9.block q (by omega))
    have HRp := Lib.hid (HRo.out.under hb9 HRo.out.lt)
    have HDp := Lib.hid (HDo.out.under hb9)
    have HBp : Hid (Below W1.heap.size W1 wp) := HBo.out.trans (hb9.mono HBo.out.size)
    have HZ : Hid (Bx wp g9 lo9 hi9 T (.int .i64 z0) (.int .i64 z1) (.slice za zl zc)) := ⟨hr9, ho9, hhi9⟩
    have hop : wo.heap.size ≤ wp.heap.size := hb9.size
    clear H9 hr9 ho9 hb9 HHo HRo HDo HBo g0 g1 g2 k0 k1 k2
    obtain ⟨f0, f1, f2⟩ := HZ.out.1.three
    obtain ⟨k0, k1, k2⟩ := HDp.out.1.three
    go_wp2_with fail
    refine (eq_all T _ _ _ _ _ _ _ HZ.out.lies HDp.out.lies).mono ?_
    rintro e' wq ⟨rfl, hbq⟩
    have HHq := Lib.hid (HHp.out.keep fun q _ q2 => hbq.block q (by omega))
    have HRq := Lib.hid (HRp.out.under hbq HRp.out.lt)
    have HBq : Hid (Below W1.heap.size W1 wq) := HBp.out.trans (hbq.mono HBp.out.size)
    have hpq : wp.heap.size ≤ wq.heap.size := hbq.size
    clear hbq f0 f1 f2 k0 k1 k2 HZ HDp HHp HRp HBp
    obtain ⟨f0, f1, f2⟩ := HRq.out.three
    go_wp2_with fail
    refine (heldExpr_any T _ _ _ _ _ 1 _ _ _ HHq.out (by omega) (by omega) (by omega) (by have := HDt.out; omega)).mono ?_
    rintro e' ws ⟨rfl, hbs⟩
    rw [← HDt.out]
    have HBs : Hid (Below w.heap.size w ws) := HB0.out.trans ((HBq.out.trans (hbs.mono HBq.out.size)).mono HB0.out.size)
    clear hbs f0 f1 f2
    go_wp2_with fail
    go_ret
    exact ⟨rfl, HBs.out⟩

end Go.Proofs.Ytkcgjgdcmdjcfaa

/- The walk of spec.ParseLasso. -/
import Derived.Test.YtiaejomdkkhimaaLpC
import Derived.Test.YtiaejomdkkhimaaLaT
import Derived.Deep.RegionHeld3
import Derived.Deep.RegionWith
import Derived.Deep.Cut
import Derived.Deep.CutRange
namespace Go.Proofs.Ytiaejomdkkhimaa
namespace La
open Go.RowKit

/-- The state lies boxed in block q. -/
def StW (w2 : World) (za zb : List Int) (q : Nat) (wx : World) : Prop :=
  ∃ (g ca h cb : Nat), Row wx q 27 #[.slice (some ⟨g, 0, none⟩) za.length ca, .slice (some ⟨h, 0, none⟩) zb.length cb] ∧ StR wx w2.heap.size wx.heap.size ⟨za, zb⟩ (.slice (some ⟨g, 0, none⟩) za.length ca) (.slice (some ⟨h, 0, none⟩) zb.length cb) ∧ Below w2.heap.size w2 wx
theorem row_ne {w : World} {q g : Nat} {t u : TypeId} {a b : Array Value} (h : Row w q t a) (k : Row w g u b) (hne : t ≠ u) : q ≠ g := fun e => by
  subst e
  unfold Row at h k
  rw [h] at k
  injection k with k
  injection k with _ k _
  exact hne k
theorem below_al {W X : World} (h : Below W.heap.size W X) (o : Obj) : Below W.heap.size W (X.alloc o) := h.alloc h.size o
theorem below_ext {W X w3 : World} (h : Below W.heap.size W X) (h3 : Below X.heap.size X w3) : Below W.heap.size W w3 := h.trans (h3.mono h.size)

theorem StW.put_ {w2 w4 : World} {q g ca h cb : Nat} {cs ds : Array Value} {za zb : List Int} {a b : Value} (r : Row w4 q 27 #[a, b]) (hq : w2.heap.size ≤ q) (rg : Row w4 g 3 cs) (rh : Row w4 h 3 ds) (hg : w2.heap.size ≤ g) (hh : w2.heap.size ≤ h) (hne : g ≠ h) (hza : za.length ≤ 1048576) (hzb : zb.length ≤ 1048576)
    (hz : ∀ (i : Nat) (z : Int), za[i]? = some z → cs[i]? = some (Value.int .i64 z)) (hy : ∀ (i : Nat) (z : Int), zb[i]? = some z → ds[i]? = some (Value.int .i64 z)) (hb : Below w2.heap.size w2 w4) :
    StW w2 za zb q ((w4.setCell ⟨q, 0, none⟩ (.slice (some ⟨g, 0, none⟩) za.length ca)).setCell ⟨q, 1, none⟩ (.slice (some ⟨h, 0, none⟩) zb.length cb)) := by
  have n1 := row_ne r rg (by decide)
  have n2 := row_ne r rh (by decide)
  have hk : ∀ p, p ≠ q → ((w4.setCell ⟨q, 0, none⟩ (.slice (some ⟨g, 0, none⟩) za.length ca)).setCell ⟨q, 1, none⟩ (.slice (some ⟨h, 0, none⟩) zb.length cb)).heap[p]? = w4.heap[p]? := fun p hp => by
    rw [Below.heap_setCell _ _ _ _ (by simpa using hp), Below.heap_setCell _ _ _ _ (by simpa using hp)]
  refine ⟨g, ca, h, cb, (r.set_ 0 _).set_ 1 _, StR.rows (show Row _ g 3 cs from (hk g (Ne.symm n1)).trans rg) (show Row _ h 3 ds from (hk h (Ne.symm n2)).trans rh) hg hh hne hza hzb hz hy, (hb.setCell hq _).setCell hq _⟩
theorem StW.new_ {w2 w4 : World} {g ca h cb : Nat} {cs ds : Array Value} {za zb : List Int} (rg : Row w4 g 3 cs) (rh : Row w4 h 3 ds) (hg : w2.heap.size ≤ g) (hh : w2.heap.size ≤ h) (hne : g ≠ h) (hza : za.length ≤ 1048576) (hzb : zb.length ≤ 1048576)
    (hz : ∀ (i : Nat) (z : Int), za[i]? = some z → cs[i]? = some (Value.int .i64 z)) (hy : ∀ (i : Nat) (z : Int), zb[i]? = some z → ds[i]? = some (Value.int .i64 z)) (hb : Below w2.heap.size w2 w4) :
    StW w2 za zb w4.heap.size (w4.alloc (.cells #[.slice (some ⟨g, 0, none⟩) za.length ca, .slice (some ⟨h, 0, none⟩) zb.length cb] 27)) := by
  have hx : Below w4.heap.size w4 (w4.alloc (.cells #[.slice (some ⟨g, 0, none⟩) za.length ca, .slice (some ⟨h, 0, none⟩) zb.length cb] 27)) := (Below.refl _ _).alloc (Nat.le_refl _) _
  exact ⟨g, ca, h, cb, Row.new _ _ _, StR.rows (rg.under hx rg.lt) (rh.under hx rh.lt) hg hh hne hza hzb hz hy, below_al hb _⟩


/-- The text is cut in two, the second with its bracket. -/
def okT (s : ByteArray) : Bool := decide (cnt40 s s.size = 1) && endB (cutB s)
theorem okT_cnt {s : ByteArray} (h : cnt40 s s.size ≠ 1) : okT s = false := by unfold okT; rw [decide_eq_false h]; rfl
theorem okT_end {s : ByteArray} (h : endB (cutB s) = false) : okT s = false := by unfold okT; rw [h, Bool.and_false]
theorem okT_yes {s : ByteArray} (h : cnt40 s s.size = 1) (h2 : endB (cutB s) = true) : okT s = true := by unfold okT; rw [decide_eq_true h, h2]; rfl
theorem okT_parts {s : ByteArray} (h : okT s = true) : cnt40 s s.size = 1 ∧ endB (cutB s) = true := by
  unfold okT at h
  simp only [Bool.and_eq_true, decide_eq_true_eq] at h
  exact h
theorem okT_no {s : ByteArray} (h : okT s = false) : okL s = false := by
  by_cases e : cnt40 s s.size = 1
  · have : endB (cutB s) = false := by
      cases hc : endB (cutB s) with
      | false => rfl
      | true => rw [okT_yes e hc] at h; cases h
    exact okL_end this
  · exact okL_no e

set_option maxHeartbeats 2000000 in
set_option maxRecDepth 100000 in
theorem specLp_any (s : ByteArray) (w : World) (hs : s.size ≤ 1048576) :
    Calls Try.prog 24 #[.string s] w (LpPost s w) := by
  obtain ⟨W1, hW1⟩ : ∃ W1, W1 = w.alloc (.cells #[.slice none 0 0, .slice none 0 0] 27) := ⟨_, rfl⟩
  have hb0 : Below w.heap.size w W1 := by rw [hW1]; exact (Below.refl _ _).alloc (Nat.le_refl _) _
  have hrb : Row W1 w.heap.size 27 #[.slice none 0 0, .slice none 0 0] := by rw [hW1]; exact Row.new _ _ _
  have HB0 := Lib.hid hb0
  have HW1 := Lib.hid hW1
  have HRb := Lib.hid hrb
  have hlt1 : w.heap.size < W1.heap.size := hrb.lt
  have HF : Hid (okL s = false → ∀ W, Below w.heap.size w W → LpPost s w (.returned (.tuple #[.agg #[.slice none 0 0, .slice none 0 0], .bool false])) W) := fun hk W hb =>
    ⟨_, _, by rw [hk], by rw [stL_no hk]; exact StR.none_ _ _ _ hb.size _ _ _ _, hb⟩
  have HBx : Hid (∀ W, Below W1.heap.size W1 W → W.cell? ⟨w.heap.size, 0, none⟩ = some (.slice none 0 0) ∧ W.cell? ⟨w.heap.size, 1, none⟩ = some (.slice none 0 0) ∧ W.frozen? ⟨w.heap.size, 0, none⟩ = false ∧ W.frozen? ⟨w.heap.size, 1, none⟩ = false) := fun W hW => by
    have hb := HRb.out.under hW HRb.out.lt
    obtain ⟨b0, b1⟩ := hb.two
    exact ⟨b0, b1, hb.frozen 0, hb.frozen 1⟩
  have hAB := cut_sizes s
  have HOk := Lib.hid (stL_yes (s := s))
  have HTn := Lib.hid (okT_no (s := s))
  clear hb0 hrb hW1
  go_enter Try.func24, Try.ntmps24
  go_wp2_with fail
  rw [← HW1.out]
  refine (cutS_any s W1 hs).mono ?_
  rintro e' w2 ⟨dn, gS, capS, csS, rfl, hdl, hdn, hgS, hrS, hcS, hb2⟩
  have HB2 : Hid (Below W1.heap.size W1 w2) := hb2
  have hz2 : W1.heap.size ≤ w2.heap.size := hb2.size
  have HDl := Lib.hid hdl
  have HDn := Lib.hid hdn
  have HCs := Lib.hid hcS
  have HRs := Lib.hid hrS
  have HAB := Lib.hid hAB
  have HSs := Lib.hid hs
  clear hb2 hgS hdl hdn hcS hrS hAB hs
  obtain ⟨m, hm⟩ : ∃ m, m = dn.length := ⟨_, rfl⟩
  rw [← hm]
  have HM := Lib.hid hm
  clear hm
  obtain ⟨gd, hgd⟩ : ∃ gd, gd = okT s := ⟨_, rfl⟩
  have HGd := Lib.hid hgd
  clear hgd
  go_upto_region 2 with fail
  go_cut [28] from 8 to 28 (fun bb wx => bb = .bool (!gd) ∧ Hid (Below w2.heap.size w2 wx))
  case first =>
    by_cases hk1 : cnt40 s s.size = 1
    case neg =>
      have hle := cnt40_le s s.size
      have hdl := HDl.out
      have HG : Hid (gd = false) := by show _ = _; rw [HGd.out, okT_cnt hk1]
      have hmm := HM.out
      have t1 : ((m : Int) != 2) = true := by rw [bne_iff_ne]; omega
      have t2 : ((m : Int) == 2) = false := by rw [beq_eq_false_iff_ne]; omega
      clear hk1 hle hdl hmm
      go_quiet (fail)
      go_wp2_with fail
      go_meet
      exact ⟨by rw [HG.out]; rfl, below_drewN (Below.refl _ _) _⟩
    case pos =>
      obtain ⟨p, hp⟩ : ∃ p, First s p := by
        rcases first_cases s with ⟨_, h2⟩ | ⟨p, _, h2⟩
        · have := cnt40_none _ h2; omega
        · exact ⟨p, h2⟩
      have hd2 := HDn.out p hp hk1
      rw [← (cut_of_first hp).1, ← (cut_of_first hp).2.1] at hd2
      have s1 : w2.cell? ⟨gS, 1, none⟩ = some (.string (cutB s)) := by rw [HRs.out.cell]; exact HCs.out 1 _ (by rw [hd2]; rfl)
      have hgl : gS < w2.heap.size := HRs.out.lt
      have HGe : Hid (gd = endB (cutB s)) := by show _ = _; rw [HGd.out]; unfold okT; rw [decide_eq_true hk1, Bool.true_and]
      have hBs : (cutB s).size ≤ 1048576 := by have := HAB.out; have := HSs.out; omega
      have hdnl : m = 2 := by rw [HM.out, hd2]; rfl
      have t1 : ((m : Int) != 2) = false := by rw [bne_eq_false_iff_eq]; omega
      have t2 : ((m : Int) == 2) = true := by rw [beq_iff_eq]; omega
      have t3 : 1 < m := by omega
      have t4 : (1 : Int) < (m : Int) := by omega
      obtain ⟨B, hB⟩ : ∃ B, B = cutB s := ⟨_, rfl⟩
      rw [← hB] at s1 hBs HGe
      clear hB hd2 hp hk1 hdnl
      by_cases hB0 : B.size = 0
      · obtain rfl : B = ⟨#[]⟩ := by
          apply ByteArray.ext
          exact Array.eq_empty_of_size_eq_zero hB0
        have HG : Hid (gd = false) := by show _ = _; rw [HGe.out]; rfl
        clear hB0 hBs
        go_quiet (fail)
        go_wp2_with fail
        go_meet
        exact ⟨by rw [HG.out]; rfl, below_drewN (Below.refl _ _) _⟩
      · obtain ⟨n, hn⟩ : ∃ n, B.size = n + 1 := ⟨B.size - 1, by omega⟩
        have hnB : n < B.size := by omega
        have e1 : IntKind.i64.wrap ((B.size : Int) - 1) = (n : Int) := by rw [IntWalk.i64_in _ (by omega)]; omega
        have hl : B.toList ≠ [] := fun h => by
          have h3 := congrArg List.length h
          rw [Lib.toList_data] at h3
          have h4 : B.data.toList.length = B.size := Array.length_toList
          rw [h4] at h3
          exact hB0 h3
        have l1 : B.toList.isEmpty = false := by rw [List.isEmpty_eq_false_iff]; exact hl
        have l2 : (B.toList == []) = false := by rw [beq_eq_false_iff_ne]; exact hl
        have hE : endB B = decide (B[n]! = 41) := by unfold endB; rw [decide_eq_true (by omega), show B.size - 1 = n by omega]; rfl
        rw [getElem!_pos B n hnB] at hE
        have HGe2 : Hid (gd = decide (B[n] = 41)) := by show _ = _; rw [HGe.out, hE]
        clear hn hE HGe hB0
        by_cases hc : B[n] = 41
        · have HG : Hid (gd = true) := by show _ = _; rw [HGe2.out]; exact decide_eq_true hc
          have hcI : (B[n].toNat : Int) = 41 := by rw [hc]; rfl
          have c1 : ((B[n].toNat : Int) == 41) = true := by rw [beq_iff_eq]; exact hcI
          have c2 : ((B[n].toNat : Int) != 41) = false := by rw [bne_eq_false_iff_eq]; exact hcI
          clear hc HGe2 hcI
          go_quiet (fail)
          go_wp2_with fail
          go_meet
          exact ⟨by rw [HG.out]; rfl, below_drewN (Below.refl _ _) _⟩
        · have HG : Hid (gd = false) := by show _ = _; rw [HGe2.out]; exact decide_eq_false hc
          have hcI : ¬ (B[n].toNat : Int) = 41 := fun h => hc (UInt8.toNat_inj.1 (by show B[n].toNat = 41; omega))
          have c1 : ((B[n].toNat : Int) == 41) = false := by rw [beq_eq_false_iff_ne]; exact hcI
          have c2 : ((B[n].toNat : Int) != 41) = true := by rw [bne_iff_ne]; exact hcI
          clear hc HGe2 hcI
          go_quiet (fail)
          go_wp2_with fail
          go_meet
          exact ⟨by rw [HG.out]; rfl, below_drewN (Below.refl _ _) _⟩
  case rest =>
  obtain ⟨rfl, HBq⟩ := hcut
  rename World => wq
  have HB2q : Hid (Below W1.heap.size W1 wq) := HB2.out.trans (HBq.out.mono HB2.out.size)
  cases gd with
  | false =>
    have HFf := Lib.hid (HF.out (HTn.out HGd.out.symm) ((wq.setCell ⟨w.heap.size, 0, none⟩ (.slice none 0 0)).setCell ⟨w.heap.size, 1, none⟩ (.slice none 0 0)) (((HB0.out.trans (HB2q.out.mono HB0.out.size)).setCell (Nat.le_refl _) _).setCell (Nat.le_refl _) _))
    obtain ⟨z0, z1, y0, y1⟩ := HBx.out wq HB2q.out
    go_wp2_with fail
    refine bodyPost_ret (v := .tuple #[.agg #[.slice none 0 0, .slice none 0 0], .bool false]) (by simp [results, Try.results24, go_sem, z0, z1]) rfl ?_
    exact HFf.out
  | true =>
  obtain ⟨hk1, he⟩ := okT_parts HGd.out.symm
  obtain ⟨p, hp⟩ : ∃ p, First s p := by
    rcases first_cases s with ⟨_, h2⟩ | ⟨p, _, h2⟩
    · have := cnt40_none _ h2; omega
    · exact ⟨p, h2⟩
  have hd2 := HDn.out p hp hk1
  rw [← (cut_of_first hp).1, ← (cut_of_first hp).2.1] at hd2
  have hrq := HRs.out.under HBq.out HRs.out.lt
  have HOt2 : Hid (okL s = laOk ⟨nums (cutA s), nums (chop (cutB s))⟩) := by show _ = _; rw [okL_one hk1, he]; rfl
  have HSk0 : Hid (∀ W, Below wq.heap.size wq W → W.cell? ⟨gS, 0, none⟩ = some (.string (cutA s)) ∧ W.cell? ⟨gS, 1, none⟩ = some (.string (cutB s))) := fun W hW => by
    have hr := hrq.under hW hrq.lt
    exact ⟨by rw [hr.cell]; exact HCs.out 0 _ (by rw [hd2]; rfl), by rw [hr.cell]; exact HCs.out 1 _ (by rw [hd2]; rfl)⟩
  have hgl : gS < wq.heap.size := hrq.lt
  obtain ⟨hBp, _⟩ := endB_parts he
  have hdnl : m = 2 := by rw [HM.out, hd2]; rfl
  subst hdnl
  obtain ⟨A, hA⟩ : ∃ X, X = cutA s := ⟨_, rfl⟩
  obtain ⟨B, hB⟩ : ∃ X, X = cutB s := ⟨_, rfl⟩
  have hAB := HAB.out
  have hs := HSs.out
  rw [← hA, ← hB] at hAB HOt2 HOk HSk0
  rw [← hB] at hBp
  obtain ⟨D, hD⟩ : ∃ X, X = chop B := ⟨_, rfl⟩
  rw [← hD] at HOt2 HOk
  have hDl0 : D.size = B.size - 1 := by rw [hD, chop_size]
  have hAs : A.size ≤ 1048576 := by omega
  have hDs : D.size ≤ 1048576 := by omega
  have hAl := nums_length A
  have hDl := nums_length D
  obtain ⟨za, hza⟩ : ∃ z, z = nums A := ⟨_, rfl⟩
  obtain ⟨zb, hzb⟩ : ∃ z, z = nums D := ⟨_, rfl⟩
  rw [← hza, ← hzb] at HOt2 HOk
  have HOk2 := Lib.hid HOk.out
  have hzal : za.length ≤ 1048576 := by rw [hza, hAl]; exact hAs
  have hzbl : zb.length ≤ 1048576 := by rw [hzb, hDl]; exact hDs
  have HSz : Hid (Lay.sta.sz ⟨za, zb⟩ ≤ 1048576) := by show _ ≤ _; rw [sta_sz]; show za.length + zb.length ≤ _; rw [hza, hzb, hAl, hDl]; omega
  have HSk := HSk0
  have hgn : ¬ gS = wq.heap.size := by omega
  have hgm : ¬ wq.heap.size = gS := by omega
  obtain ⟨s0, s1⟩ := HSk.out wq (Below.refl _ _)
  obtain ⟨n, hn⟩ : ∃ n, n = B.size - 1 := ⟨_, rfl⟩
  have e1 : IntKind.i64.wrap ((B.size : Int) - 1) = (n : Int) := by rw [IntWalk.i64_in _ (by omega)]; omega
  have hnB : n ≤ B.size := by omega
  have hDe : D = B.extract 0 n := by rw [hD, hn]; rfl
  have HC1 : Hid (∀ W, Calls Try.prog 43 #[.string A] W (NumsPost za W)) := fun W => by rw [hza]; exact numsS_any A W hAs
  have HC2 : Hid (∀ W, Calls Try.prog 43 #[.string (B.extract 0 n)] W (NumsPost zb W)) := fun W => by rw [← hDe, hzb]; exact numsS_any D W hDs
  clear hA hB hD hAB hAl hDl hza hzb hs hrq hd2 hp hk1 he hBp hDl0 hn hDe hDs HOk HSk0
  go_upto_region 4 with fail
  go_cut [5] from 30 to 44 (fun pt wx => ∃ q : Nat, pt = .pointer (some ⟨q, 0, none⟩) ∧ wq.heap.size ≤ q ∧ Hid (StW wq za zb q wx))
  case first =>
    have HA2 : Hid (∀ W : World, (W.alloc (.cells #[.slice none 0 0, .slice none 0 0] 27)).heap.size = W.heap.size + 1) := fun W => by simp
    have HA3 : Hid (∀ W : World, W.heap.size < (W.alloc (.cells #[.slice none 0 0, .slice none 0 0] 27)).heap.size) := fun W => by simp
    have HZr : Hid (∀ W : World, Row (W.alloc (.cells #[.slice none 0 0, .slice none 0 0] 27)) W.heap.size 27 #[.slice none 0 0, .slice none 0 0]) := fun W => Row.new _ _ _
    go_region_held3 (fun w' => w'.cell? ⟨gS, 0, none⟩ = some (.string A) ∧ w'.cell? ⟨gS, 1, none⟩ = some (.string B)) (first | assumption | (go_keep; done)) (first
      | (go_at_call 43
         with_reducible refine (HC1.out wq.drew).mono ?_
         rintro e' w3 ⟨g, ca, cs, rfl, hg, hr, hz, hb3⟩
         have HB3 : Hid (Below wq.heap.size wq w3) := below_ext (Below.refl _ _).drew hb3
         have hS3 := HSk.out w3 HB3.out
         have HR3 := Lib.hid hr
         have HZ3 := Lib.hid hz
         have hg3 : wq.heap.size ≤ g := hg
         have hgl3 : gS < w3.heap.size := Nat.lt_of_lt_of_le hgl HB3.out.size
         have hgn3 : ¬ gS = w3.heap.size := by omega
         have hgm3 : ¬ w3.heap.size = gS := by omega
         clear hb3 hr hz hg)
      | (go_at_call 43
         with_reducible refine (HC1.out (wq.alloc (.cells #[.slice none 0 0, .slice none 0 0] 27)).drew).mono ?_
         rintro e' w3 ⟨g, ca, cs, rfl, hg, hr, hz, hb3⟩
         have HB3 : Hid (Below wq.heap.size wq w3) := below_ext (below_al (Below.refl _ _) _).drew hb3
         have HQ3 : Hid (Row w3 wq.heap.size 27 #[.slice none 0 0, .slice none 0 0]) := (show Row (wq.alloc (.cells #[.slice none 0 0, .slice none 0 0] 27)).drew wq.heap.size 27 #[.slice none 0 0, .slice none 0 0] from HZr.out wq).under hb3 (HA3.out wq)
         have hS3 := HSk.out w3 HB3.out
         have HR3 := Lib.hid hr
         have HZ3 := Lib.hid hz
         have hg3 : wq.heap.size ≤ g := Nat.le_trans (Nat.le_of_lt (HA3.out wq)) hg
         clear hb3 hr hz hg)
      | (go_at_call 43
         with_reducible refine (HC2.out w3).mono ?_
         rintro e' w4 ⟨h, cb, ds, rfl, hh, hr, hz, hb4⟩
         have hrq := HQ3.out.under hb4 HQ3.out.lt
         obtain ⟨b0, b1⟩ := hrq.two
         have f0 := hrq.frozen 0
         have f1 := hrq.frozen 1
         have HQa := Lib.hid hrq
         have HB4 : Hid (Below wq.heap.size wq w4) := below_ext HB3.out hb4
         have HR34 := Lib.hid (HR3.out.under hb4 HR3.out.lt)
         have hS4 := HSk.out w4 HB4.out
         have HR4 := Lib.hid hr
         have HZ4 := Lib.hid hz
         have hl3 : g < w3.heap.size := HR3.out.lt
         have hh4 : w3.heap.size ≤ h := hh
         have h24 : wq.heap.size ≤ w3.heap.size := HB3.out.size
         clear hb4 hr hz hh hrq)
      | (go_at_call 43
         with_reducible refine (HC2.out (w3.alloc (.cells #[.slice none 0 0, .slice none 0 0] 27))).mono ?_
         rintro e' w4 ⟨h, cb, ds, rfl, hh, hr, hz, hb4⟩
         have hrq := (HZr.out w3).under hb4 (HA3.out w3)
         obtain ⟨b0, b1⟩ := hrq.two
         have f0 := hrq.frozen 0
         have f1 := hrq.frozen 1
         have HQb := Lib.hid hrq
         have HB4 : Hid (Below wq.heap.size wq w4) := below_ext (below_al HB3.out _) hb4
         have HR34 := Lib.hid ((HR3.out.under ((Below.refl _ w3).alloc (Nat.le_refl _) (.cells #[.slice none 0 0, .slice none 0 0] 27)) HR3.out.lt).under hb4 (Nat.lt_trans HR3.out.lt (HA3.out w3)))
         have hS4 := HSk.out w4 HB4.out
         have HR4 := Lib.hid hr
         have HZ4 := Lib.hid hz
         have hl3 : g < w3.heap.size := HR3.out.lt
         have hh4 : w3.heap.size ≤ h := Nat.le_trans (Nat.le_of_lt (HA3.out w3)) hh
         have h24 : wq.heap.size ≤ w3.heap.size := HB3.out.size
         clear hb4 hr hz hh hrq)
      | (go_at_call 43
         with_reducible refine (HC2.out w3).mono ?_
         rintro e' w4 ⟨h, cb, ds, rfl, hh, hr, hz, hb4⟩
         have HB4 : Hid (Below wq.heap.size wq w4) := below_ext HB3.out hb4
         have HR34 := Lib.hid (HR3.out.under hb4 HR3.out.lt)
         have hS4 := HSk.out w4 HB4.out
         have HR4 := Lib.hid hr
         have HZ4 := Lib.hid hz
         have hl3 : g < w3.heap.size := HR3.out.lt
         have hh4 : w3.heap.size ≤ h := hh
         have h24 : wq.heap.size ≤ w3.heap.size := HB3.out.size
         have hgl4 : gS < w4.heap.size := Nat.lt_of_lt_of_le hgl HB4.out.size
         have hgn4 : ¬ gS = w4.heap.size := by omega
         have hgm4 : ¬ w4.heap.size = gS := by omega
         clear hb4 hr hz hh))
    all_goals go_wp2_with fail
    all_goals go_meet
    all_goals first
      | (exact ⟨wq.heap.size, rfl, Nat.le_refl _, StW.put_ HQa.out (Nat.le_refl _) HR34.out HR4.out hg3 (Nat.le_trans h24 hh4) (Nat.ne_of_lt (Nat.lt_of_lt_of_le hl3 hh4)) hzal hzbl HZ3.out HZ4.out HB4.out⟩)
      | (exact ⟨w3.heap.size, rfl, h24, StW.put_ HQb.out h24 HR34.out HR4.out hg3 (Nat.le_trans h24 hh4) (Nat.ne_of_lt (Nat.lt_of_lt_of_le hl3 hh4)) hzal hzbl HZ3.out HZ4.out HB4.out⟩)
      | (exact ⟨w4.heap.size, rfl, HB4.out.size, StW.new_ HR34.out HR4.out hg3 (Nat.le_trans h24 hh4) (Nat.ne_of_lt (Nat.lt_of_lt_of_le hl3 hh4)) hzal hzbl HZ3.out HZ4.out HB4.out⟩)
      | (trace_state; fail)
  case rest =>
  obtain ⟨q, rfl, hq, HW⟩ := hcut
  rename World => wx
  obtain ⟨g, ca, h, cb, hrq, hst, hbx⟩ := HW.out
  have HBx2 : Hid (Below W1.heap.size W1 wx) := HB2q.out.trans (hbx.mono HB2q.out.size)
  obtain ⟨v0, v1⟩ := hrq.two
  have HRq := Lib.hid hrq
  have HSt := Lib.hid hst
  have hq0 := HB2q.out.size
  have hq1 : w.heap.size < q := by omega
  clear HW hrq hst hbx s0 s1
  go_wp2_with fail
  refine (specLv_any ⟨za, zb⟩ (fun j => (#[.slice (some ⟨g, 0, none⟩) za.length ca, .slice (some ⟨h, 0, none⟩) zb.length cb] : Array Value).getD j undef) wx (HSt.out.lies (Nat.le_refl _)) HSz.out).mono ?_
  rintro e' w5 ⟨rfl, hb5⟩
  rw [← HOt2.out]
  have HB5 : Hid (Below W1.heap.size W1 w5) := HBx2.out.trans (hb5.mono HBx2.out.size)
  have HSt5 := Lib.hid (HSt.out.under hb5 (Nat.le_refl _))
  have h55 : wx.heap.size ≤ w5.heap.size := hb5.size
  clear v0 v1
  obtain ⟨v0, v1⟩ := (HRq.out.under hb5 HRq.out.lt).two
  clear hb5
  obtain ⟨z0, z1, y0, y1⟩ := HBx.out w5 HB5.out
  have hne : ¬ q = w.heap.size := by omega
  have hne' : ¬ w.heap.size = q := by omega
  cases hok : okL s with
  | false =>
    have HFf : Hid (LpPost s w (.returned (.tuple #[.agg #[.slice none 0 0, .slice none 0 0], .bool false])) ((w5.setCell ⟨w.heap.size, 0, none⟩ (.slice none 0 0)).setCell ⟨w.heap.size, 1, none⟩ (.slice none 0 0))) := HF.out hok _ (((HB0.out.trans (HB5.out.mono HB0.out.size)).setCell (Nat.le_refl _) _).setCell (Nat.le_refl _) _)
    clear hok
    go_wp2_with fail
    refine bodyPost_ret (v := .tuple #[.agg #[.slice none 0 0, .slice none 0 0], .bool false]) (by simp [results, Try.results24, go_sem, z0, z1]) rfl ?_
    exact HFf.out
  | true =>
    have HFin : Hid (LpPost s w (.returned (.tuple #[.agg #[.slice (some ⟨g, 0, none⟩) za.length ca, .slice (some ⟨h, 0, none⟩) zb.length cb], .bool true])) ((w5.setCell ⟨w.heap.size, 0, none⟩ (.slice (some ⟨g, 0, none⟩) za.length ca)).setCell ⟨w.heap.size, 1, none⟩ (.slice (some ⟨h, 0, none⟩) zb.length cb))) := by
      have hb : Below w.heap.size w ((w5.setCell ⟨w.heap.size, 0, none⟩ (.slice (some ⟨g, 0, none⟩) za.length ca)).setCell ⟨w.heap.size, 1, none⟩ (.slice (some ⟨h, 0, none⟩) zb.length cb)) := ((HB0.out.trans (HB5.out.mono HB0.out.size)).setCell (Nat.le_refl _) _).setCell (Nat.le_refl _) _
      refine ⟨_, _, by rw [hok], ?_, hb⟩
      rw [HOk2.out hok]
      have hk : StR ((w5.setCell ⟨w.heap.size, 0, none⟩ (.slice (some ⟨g, 0, none⟩) za.length ca)).setCell ⟨w.heap.size, 1, none⟩ (.slice (some ⟨h, 0, none⟩) zb.length cb)) wq.heap.size wx.heap.size ⟨za, zb⟩ (.slice (some ⟨g, 0, none⟩) za.length ca) (.slice (some ⟨h, 0, none⟩) zb.length cb) := HSt5.out.keep fun q h1 h2 => by
        rw [Below.heap_setCell _ _ _ _ (by show ¬ _ = _; simp; omega), Below.heap_setCell _ _ _ _ (by show ¬ _ = _; simp; omega)]
      exact hk.more (by omega) (by simp; omega)
    clear hok
    go_wp2_with fail
    refine bodyPost_ret (v := .tuple #[.agg #[.slice (some ⟨g, 0, none⟩) za.length ca, .slice (some ⟨h, 0, none⟩) zb.length cb], .bool true]) (by simp [results, Try.results24, go_sem, z0, z1]) rfl ?_
    exact HFin.out

end La
end Go.Proofs.Ytiaejomdkkhimaa

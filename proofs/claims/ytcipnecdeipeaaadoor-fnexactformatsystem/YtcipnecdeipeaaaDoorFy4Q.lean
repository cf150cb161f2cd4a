/- The walk of impl.FormatSystem. -/
import Derived.Test.YtcipnecdeipeaaaDoorFy0Q
import Derived.Test.YtcipnecdeipeaaaDoorJ08
namespace Go.Proofs.YtcipnecdeipeaaaDoor
open Go.RowKit

theorem words_step (zs : List Int) (h : ∀ z ∈ zs, 0 ≤ z ∧ z ≤ 9) : ∀ o : ByteArray, wordB o zs = zs.foldl iniStep o := by
  induction zs with
  | nil => intro o; rfl
  | cons a r ih =>
    intro o
    have h0 := h a (by simp)
    have h1 : numB a.toNat = strOfNums [48 + a] := by
      rw [numB_lt (by omega), show ((a.toNat : Nat) : Int) = a by omega]
    show wordB (o ++ ((⟨#[32]⟩ : ByteArray) ++ numB a.toNat)) r = r.foldl iniStep (o ++ ((⟨#[32]⟩ : ByteArray) ++ strOfNums [48 + a]))
    rw [h1]
    exact ih (fun z hz => h z (by simp [hz])) _
theorem ini_line (zs : List Int) (h : ∀ z ∈ zs, 0 ≤ z ∧ z ≤ 9) : lineN ⟨#[115, 121, 115, 116, 101, 109]⟩ zs = initB zs ++ (⟨#[10]⟩ : ByteArray) := by
  unfold lineN initB
  rw [words_step zs h]
theorem head_line (loc : Int) (h0 : 0 ≤ loc) (h9 : loc ≤ 9) : lineN ⟨#[112, 114, 111, 99, 101, 115, 115]⟩ [loc] = headB loc := by
  unfold lineN
  rw [words_step [loc] (fun z hz => by simp at hz; omega)]
  show (⟨#[112, 114, 111, 99, 101, 115, 115]⟩ : ByteArray) ++ ((⟨#[32]⟩ : ByteArray) ++ strOfNums [48 + loc]) ++ (⟨#[10]⟩ : ByteArray) = (⟨#[112, 114, 111, 99, 101, 115, 115, 32]⟩ : ByteArray) ++ strOfNums [48 + loc] ++ (⟨#[10]⟩ : ByteArray)
  rw [← ByteArray.append_assoc, show (⟨#[112, 114, 111, 99, 101, 115, 115]⟩ : ByteArray) ++ (⟨#[32]⟩ : ByteArray) = ⟨#[112, 114, 111, 99, 101, 115, 115, 32]⟩ by apply ByteArray.ext; simp]

set_option maxHeartbeats 2000000 in
set_option maxRecDepth 100000 in
theorem implFy_any (e : Sy) (C : Nat → Value) (w : World) (hL : Lay.sy.lies w w.heap.size e C) (hd : Lay.sy.sz e ≤ 1048576) :
    Calls Tryd.prog 7 #[.agg #[C 0, C 1]] w (FmPost (fmtSy e) w) := by
  obtain ⟨W1, hW1⟩ : ∃ W1, W1 = w.alloc (.cells #[C 0, C 1] 30) := ⟨_, rfl⟩
  have hb0 : Below w.heap.size w W1 := by rw [hW1]; exact (Below.refl _ _).alloc (Nat.le_refl _) _
  have HR0 : Hid (Row W1 w.heap.size 30 #[C 0, C 1]) := by rw [hW1]; exact Row.new _ _ _
  have HL : Hid (Lay.sy.lies W1 W1.heap.size e C) := Lay.sy.later hL hb0 hb0.size
  have HB0 := Lib.hid hb0
  have HW1 := Lib.hid hW1
  have HD := Lib.hid hd
  obtain ⟨vs, hvs⟩ : ∃ vs, vs = syOk e := ⟨_, rfl⟩
  have HVs := Lib.hid hvs
  clear hL hb0 hW1 hvs hd
  go_enter Tryd.func7, Tryd.ntmps7
  go_wp2_with fail
  rw [← HW1.out]
  refine (implSy_any e C W1 HL.out HD.out).mono ?_
  rintro e' w1 ⟨rfl, hb1⟩
  rw [← HVs.out]
  have HB1 : Hid (Below W1.heap.size W1 w1) := hb1
  clear hb1
  cases vs
  · have HN : Hid (fmtSy e = ⟨#[]⟩) := by show _ = _; unfold fmtSy; rw [← HVs.out]; rfl
    have HBz := Lib.hid (HB0.out.trans (HB1.out.mono HB0.out.size))
    go_wp2_with fail
    go_ret
    exact ⟨ret_str HN.out.symm, HBz.out⟩
  have HN : Hid (fmtSy e = sysB e) := by show _ = _; unfold fmtSy; rw [← HVs.out]; rfl
  obtain ⟨hps, hini, hiv, hpe⟩ := syOk_small HVs.out.symm
  obtain ⟨ini, ps⟩ := e
  have hLx := HL.out
  obtain ⟨⟨A0, cap0, b0, off0, E0, q0, hl0, hO0⟩, A1, cap1, c, pff, E1, q1, hl1, hP⟩ := sy_lies hLx
  dsimp only at hps hini hiv hpe
  have HIv := Lib.hid hiv
  have HPe := Lib.hid hpe
  have HI := Lib.hid (ints_of hO0)
  have HP := Lib.hid hP
  have HDp : Hid (Lay.pr.szL ps ≤ 1048576) := by have := HD.out; rw [sy_sz] at this; show _ ≤ _; dsimp only at this; omega
  have HIn := Lib.hid hini
  have hR0 := HR0.out
  rw [q0, q1] at hR0
  have HR := Lib.hid hR0
  have hlw : w.heap.size < W1.heap.size := hR0.lt
  unfold maxLen at hl0 hl1
  clear hLx hiv hpe hO0 hP hR0 HR0 HL q0 q1 hini
  have HSm : Hid (SmallN ini) := fun z hz => by
    obtain ⟨i, hi⟩ := List.getElem?_of_mem hz
    have h := HIv.out i
    rw [show ini.getD i 0 = z by simp [List.getD, hi]] at h
    omega
  have HS4 : Hid (∀ z ∈ ini, z ≤ 4) := fun z hz => by
    obtain ⟨i, hi⟩ := List.getElem?_of_mem hz
    have h := HIv.out i
    rw [show ini.getD i 0 = z by simp [List.getD, hi]] at h
    omega
  obtain ⟨O0, hO0⟩ : ∃ X, X = initB ini ++ (⟨#[10]⟩ : ByteArray) := ⟨_, rfl⟩
  have hO0s : O0.size ≤ 13 := by
    have h1 := size_initB ini
    have h2 : (⟨#[10]⟩ : ByteArray).size = 1 := rfl
    have h3 := HIn.out
    rw [hO0, ByteArray.size_append]
    omega
  have HLine : Hid (lineN ⟨#[115, 121, 115, 116, 101, 109]⟩ ini = O0) := by
    show _ = _
    rw [hO0]
    refine ini_line ini fun z hz => ?_
    obtain ⟨i, hi⟩ := List.getElem?_of_mem hz
    have h := HIv.out i
    rw [show ini.getD i 0 = z by simp [List.getD, hi]] at h
    omega
  have HF : Hid (fmtSy ⟨ini, ps⟩ = ps.foldl procB O0) := by show _ = _; rw [HN.out, hO0]; rfl
  clear hO0
  obtain ⟨r0, r1⟩ := (HR.out.under HB1.out HR.out.lt).two
  go_wp2_with fail
  refine (numLine4_any _ ini A0 cap0 b0 off0 _ (by have := HIn.out; omega) (HI.out.under HB1.out HB1.out.size) (by decide) HSm.out HS4.out).mono ?_
  rintro e' w2 ⟨rfl, hb2⟩
  rw [HLine.out]
  have HB2 : Hid (Below W1.heap.size W1 w2) := HB1.out.trans (hb2.mono HB1.out.size)
  clear r0 r1
  obtain ⟨_, r1⟩ := (HR.out.under HB2.out HR.out.lt).two
  clear hb2
  go_wp2_with fail
  go_loopw [3, 17] (fun o i wl => ∃ j : Nat, j ≤ ps.length ∧ o = .string ((ps.take j).foldl procB O0) ∧ i = .int .i64 j ∧ Hid (Below W1.heap.size W1 wl)) (fun _ i _ => ps.length - (intOf i).toNat)
  case atStart => exact ⟨0, Nat.zero_le _, rfl, rfl, HB2⟩
  case round =>
    clear r1 HB2
    obtain ⟨j, hj, rfl, rfl, HB⟩ := hrel
    rename World => wo
    have hwo : W1.heap.size ≤ wo.heap.size := HB.out.size
    have hQs := size_procs (ps.take j) (fun p hp => HPe.out p (List.mem_of_mem_take hp)) O0
    rw [List.length_take] at hQs
    obtain ⟨Q, hQ⟩ : ∃ O, O = (ps.take j).foldl procB O0 := ⟨_, rfl⟩
    rw [← hQ] at hQs ⊢
    have hQs2 : Q.size ≤ 10000 := by omega
    have HQ := Lib.hid hQ
    clear hQ hQs
    by_cases hlj : j < ps.length
    · obtain ⟨x, hx⟩ : ∃ x, ps[j]? = some x := ⟨_, List.getElem?_eq_getElem hlj⟩
      have hpok := syOk_prs (s := ⟨ini, ps⟩) HVs.out.symm hx
      have hdes : Lay.pr.sz x ≤ 1048576 := by have := Lay.pr.szL_mem hx; have := HDp.out; omega
      rw [pr_sz] at hdes
      have HS : Hid ((ps.take (j + 1)).foldl procB O0 = procB Q x) := by show _ = _; rw [HQ.out]; exact foldl_take_succ hx
      obtain ⟨rfl, hbB, gc, gl⟩ := HP.out j x hx
      have g0 : wo.cell? ⟨c, pff + j * 2, none⟩ = some (E1 j 0) := (HB.out.cell (p := ⟨c, pff + j * 2, none⟩) hbB).trans (gc 0 (by decide))
      have g1 : wo.cell? ⟨c, pff + j * 2 + 1, none⟩ = some (E1 j 1) := (HB.out.cell (p := ⟨c, pff + j * 2 + 1, none⟩) hbB).trans (gc 1 (by decide))
      obtain ⟨loc, es⟩ := x
      obtain ⟨u0, A2, cap2, b2, off2, D2, u1, hml, hO2⟩ := pr_lies gl
      unfold maxLen at hml
      rw [u0] at g0
      rw [u1] at g1
      obtain ⟨hloc1, hloc4, hes6⟩ := prOk_small hpok
      dsimp only at hdes HS hloc1 hloc4 hes6
      have HPok := Lib.hid hpok
      have HDes := Lib.hid hdes
      have HO2 := Lib.hid hO2
      have hHs := size_head loc
      obtain ⟨Qh, hQh⟩ : ∃ X, X = Q ++ headB loc := ⟨_, rfl⟩
      have hQhs : Qh.size ≤ 10010 := by rw [hQh, ByteArray.size_append]; omega
      have HS2 : Hid (procB Q ⟨loc, es⟩ = es.foldl edStep Qh) := by show _ = _; rw [hQh]; rfl
      obtain ⟨D, hD⟩ : ∃ F, F = headB loc := ⟨_, rfl⟩
      rw [← hD] at hHs hQh
      have HDd : Hid (lineN ⟨#[112, 114, 111, 99, 101, 115, 115]⟩ [loc] = D) := by show _ = _; rw [hD]; exact head_line loc (by omega) (by omega)
      have HQh : Hid (Q ++ D = Qh) := hQh.symm
      have HSl : Hid (SmallN [loc]) := fun z hz => by simp at hz; omega
      obtain ⟨W2, hW2⟩ : ∃ W2, W2 = wo.alloc (.cells #[.int .i64 loc, .slice A2 es.length cap2] 40) := ⟨_, rfl⟩
      have hb2 : Below wo.heap.size wo W2 := by rw [hW2]; exact (Below.refl _ _).alloc (Nat.le_refl _) _
      have HR2 : Hid (Row W2 wo.heap.size 40 #[.int .i64 loc, .slice A2 es.length cap2]) := by rw [hW2]; exact Row.new _ _ _
      have hz2 : W2.heap.size = wo.heap.size + 1 := by rw [hW2]; simp
      have HB2 : Hid (Below W1.heap.size W1 W2) := HB.out.trans (hb2.mono HB.out.size)
      obtain ⟨W3, hW3⟩ : ∃ W3, W3 = W2.alloc (.cells #[.int .i64 loc] 3) := ⟨_, rfl⟩
      have hb3 : Below W2.heap.size W2 W3 := by rw [hW3]; exact (Below.refl _ _).alloc (Nat.le_refl _) _
      have hr3 : Row W3 W2.heap.size 3 #[.int .i64 loc] := by rw [hW3]; exact Row.new _ _ _
      have HI3 : Hid (Ints W3 W3.heap.size (some ⟨wo.heap.size + 1, 0, none⟩) (wo.heap.size + 1) 0 [loc]) := fun i z hz => by
        have hi : i < 1 := (List.getElem?_eq_some_iff.1 hz).1
        obtain rfl : i = 0 := by omega
        simp at hz
        rw [← hz2]
        exact ⟨rfl, hr3.lt, by rw [← hz]; exact hr3.cell 0⟩
      have HB3 : Hid (Below W1.heap.size W1 W3) := HB2.out.trans (hb3.mono HB2.out.size)
      have HQ3 := Lib.hid hb3
      have hz3 : W2.heap.size ≤ W3.heap.size := hb3.size
      obtain ⟨_, v1⟩ := (HR2.out.under hb3 HR2.out.lt).two
      have HW2 := Lib.hid hW2
      have HW3 := Lib.hid hW3
      clear hx hpok hdes gc gl hO2 u0 u1 hQh hD hb2 hW2 hb3 hr3 hW3 hz2
      go_wp2_with fail
      rw [← HW2.out, ← HW3.out]
      refine (numLine4_any _ [loc] _ _ (wo.heap.size + 1) 0 _ (by simp) HI3.out (by decide) HSl.out (fun z hz => by simp at hz; omega)).mono ?_
      rintro e' w3 ⟨rfl, hb4⟩
      rw [HDd.out]
      clear v1
      have hr4 := (HR2.out.under (HQ3.out) HR2.out.lt).under (hb4.mono hz3) HR2.out.lt
      obtain ⟨_, v1⟩ := hr4.two
      have HB4 : Hid (Below W1.heap.size W1 w3) := HB3.out.trans (hb4.mono HB3.out.size)
      clear hb4 hr4
      clear g0 g1
      go_wp2_with fail
      rw [HQh.out]
      go_loopw [3, 30] (fun o i wl => ∃ k : Nat, k ≤ es.length ∧ o = .string ((es.take k).foldl edStep Qh) ∧ i = .int .i64 k ∧ Hid (Below W1.heap.size W1 wl)) (fun _ i _ => es.length - (intOf i).toNat)
      case atStart => exact ⟨0, Nat.zero_le _, rfl, rfl, HB4⟩
      case round =>
        clear HB v1
        obtain ⟨k, hk, rfl, rfl, HB⟩ := hrel
        have hwr : W1.heap.size ≤ wr.heap.size := HB.out.size
        have hRs := size_edges (es.take k) Qh
        rw [List.length_take] at hRs
        obtain ⟨R, hRR⟩ : ∃ O, O = (es.take k).foldl edStep Qh := ⟨_, rfl⟩
        rw [← hRR] at hRs ⊢
        have hRs2 : R.size ≤ 20000 := by omega
        have HRR := Lib.hid hRR
        clear hRR hRs
        by_cases hlt : k < es.length
        · have HOE := HO2.out.below HB.out
          obtain ⟨y, hy⟩ : ∃ y, es[k]? = some y := ⟨_, List.getElem?_eq_getElem hlt⟩
          have hpt := edOk_parts (prOk_ed (p := ⟨loc, es⟩) HPok.out hy)
          have hdy : Lay.ed.sz y ≤ 1048576 := by have := Lay.ed.szL_mem hy; have := HDes.out; omega
          rw [ed_sz] at hdy
          have HSe : Hid ((es.take (k + 1)).foldl edStep Qh = R ++ (lineB y ++ (⟨#[10]⟩ : ByteArray))) := by show _ = _; rw [HRR.out]; exact foldl_take_succ hy
          obtain ⟨rfl, hbE, gc, gl⟩ := HOE k y hy
          have h0 : wr.cell? ⟨b2, off2 + k * 10, none⟩ = some (D2 k 0) := gc 0 (by decide)
          have h1 : wr.cell? ⟨b2, off2 + k * 10 + 1, none⟩ = some (D2 k 1) := gc 1 (by decide)
          have h2 : wr.cell? ⟨b2, off2 + k * 10 + 2, none⟩ = some (D2 k 2) := gc 2 (by decide)
          have h3 : wr.cell? ⟨b2, off2 + k * 10 + 3, none⟩ = some (D2 k 3) := gc 3 (by decide)
          have h4 : wr.cell? ⟨b2, off2 + k * 10 + 4, none⟩ = some (D2 k 4) := gc 4 (by decide)
          have h5 : wr.cell? ⟨b2, off2 + k * 10 + 5, none⟩ = some (D2 k 5) := gc 5 (by decide)
          have h6 : wr.cell? ⟨b2, off2 + k * 10 + 6, none⟩ = some (D2 k 6) := gc 6 (by decide)
          have h7 : wr.cell? ⟨b2, off2 + k * 10 + 7, none⟩ = some (D2 k 7) := gc 7 (by decide)
          have h8 : wr.cell? ⟨b2, off2 + k * 10 + 8, none⟩ = some (D2 k 8) := gc 8 (by decide)
          have h9 : wr.cell? ⟨b2, off2 + k * 10 + 9, none⟩ = some (D2 k 9) := gc 9 (by decide)
          have hLs := lineB_small y
          obtain ⟨fr, t0, gd, vr, vl, sy⟩ := y
          obtain ⟨e0, e1, hgd, e5, hvl, e9⟩ := ed_lies gl
          obtain ⟨n0, n1, a2, l2, cp2, q2, q3, q4⟩ := hgd.form
          obtain ⟨m0, m1, b3, k3, dp3, q6, q7, q8⟩ := hvl.form
          rw [q2, q3, q4] at hgd
          rw [q6, q7, q8] at hvl
          rw [e0] at h0
          rw [e1] at h1
          rw [q2] at h2
          rw [q3] at h3
          rw [q4] at h4
          rw [e5] at h5
          rw [q6] at h6
          rw [q7] at h7
          rw [q8] at h8
          rw [e9] at h9
          dsimp only at hpt hdy
          have hdg : desc gd ≤ 1048576 := by omega
          have hdv : desc vl ≤ 1048576 := by omega
          obtain ⟨W3, hW3⟩ : ∃ W3, W3 = wr.alloc (.cells #[.int .i64 fr, .int .i64 t0, .int .i64 n0, .int .i64 n1, .slice a2 l2 cp2, .int .i64 vr, .int .i64 m0, .int .i64 m1, .slice b3 k3 dp3, .int .i64 sy] 46) := ⟨_, rfl⟩
          have hb3 : Below wr.heap.size wr W3 := by rw [hW3]; exact (Below.refl _ _).alloc (Nat.le_refl _) _
          have HB3' : Hid (Below W1.heap.size W1 W3) := HB.out.trans (hb3.mono HB.out.size)
          have HW3 := Lib.hid hW3
          have HGd := Lib.hid (hgd.keep (w' := W3) (B' := wr.heap.size) hwr fun _ hp => hb3.cell (Nat.lt_of_lt_of_le hp hwr))
          have HVl := Lib.hid (hvl.keep (w' := W3) (B' := wr.heap.size) hwr fun _ hp => hb3.cell (Nat.lt_of_lt_of_le hp hwr))
          have HZ3 : Hid (wr.heap.size ≤ W3.heap.size) := hb3.size
          have HPt := Lib.hid hpt
          obtain ⟨Ln, hLn⟩ : ∃ X, X = lineB ⟨fr, t0, gd, vr, vl, sy⟩ := ⟨_, rfl⟩
          have hLns : Ln.size ≤ 420 := by rw [hLn]; exact hLs
          rw [← hLn] at HSe
          have HLn := Lib.hid hLn
          clear hy hpt hdy gc gl hgd hvl e0 e1 e5 e9 q2 q3 q4 q6 q7 q8 hLn hLs HOE hb3 hW3
          go_wp2_with fail
          rw [← HW3.out]
          refine (arc_any fr t0 vr sy n0 n1 m0 m1 a2 b3 l2 cp2 k3 dp3 _).mono ?_
          rintro e' w4 ⟨rfl, hb4⟩
          have HB4 : Hid (Below W1.heap.size W1 w4) := HB3'.out.trans (hb4.mono HB3'.out.size)
          have HGd4 := Lib.hid (below_more (HGd.out.more HZ3.out) hb4 hb4.size)
          have HVl4 := Lib.hid (below_more (HVl.out.more HZ3.out) hb4 hb4.size)
          clear hb4 h0 h1 h2 h3 h4 h5 h6 h7 h8 h9
          go_wp2_with fail
          refine (lineT_any gd vl fr t0 vr sy n0 n1 m0 m1 a2 b3 l2 cp2 k3 dp3 _ HGd4.out HVl4.out hdg hdv (by have := HPt.out; omega) HPt.out.2.2.2.2.2.2.1 HPt.out.2.2.2.2.2.2.2 HPt.out.1 HPt.out.2.1 HPt.out.2.2.1 HPt.out.2.2.2.1).mono ?_
          rintro e' w5 ⟨rfl, hb5⟩
          rw [← HLn.out]
          have HB5 : Hid (Below W1.heap.size W1 w5) := HB4.out.trans (hb5.mono HB4.out.size)
          clear hb5
          go_wp2_with fail
          go_roundw
          case rel => exact ⟨k + 1, by omega, by rw [HSe.out], by go_num, HB5⟩
          case measure => simp [intOf]; omega
        · have hkk : k = es.length := by omega
          subst hkk
          have HS3 : Hid ((ps.take (j + 1)).foldl procB O0 = R) := by show _ = _; rw [HS.out, HS2.out, HRR.out, List.take_length]
          go_wp2_with fail
          go_roundw
          case rel => exact ⟨j + 1, by omega, by rw [HS3.out], by go_num, HB⟩
          case measure => simp [intOf]; omega
    · have hjj : j = ps.length := by omega
      subst hjj
      have HFin : Hid (fmtSy ⟨ini, ps⟩ = Q) := by show _ = _; rw [HF.out, HQ.out, List.take_length]
      have HBz := Lib.hid (HB0.out.trans (HB.out.mono HB0.out.size))
      go_wp2_with fail
      go_ret
      exact ⟨ret_str HFin.out.symm, HBz.out⟩

end Go.Proofs.YtcipnecdeipeaaaDoor

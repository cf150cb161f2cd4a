/- The walk of spec.ParseAutomaton. -/
import Derived.Test.YtiikphdgnhajeaaDoorSpJ
import Derived.Test.YtiikphdgnhajeaaDoorPaK
import Derived.Test.YtiikphdgnhajeaaDoorFaS
import Derived.BigQuiet
import Derived.Deep.RegionHeld3
namespace Go.Proofs.YtiikphdgnhajeaaDoor
open Go.RowKit

theorem below_row6 {w w' : World} {g : Nat} {t : TypeId} {cs : Array Value} (h : Below w.heap.size w w') (hr : Row w g t cs) : Row w' g t cs := hr.under h hr.lt
theorem Bt.drewN {sb : Nat} {w w' : World} (h : Bt sb w w') (d : Nat) : Bt sb w (w'.drewN d) := ⟨h.os, h.tape, h.output, h.size, h.other⟩
/-- What spec.ParseAutomaton leaves. -/
def SpPost (t : ByteArray) (w : World) (e' : Ending) (w' : World) : Prop :=
  ((∃ (a : Au) (v0 v1 v2 : Value), IsAu t a ∧ e' = .returned (.tuple #[.agg #[v0, v1, v2], .bool true]) ∧ Lay.au.lies w' w'.heap.size a (fun j => (#[v0, v1, v2] : Array Value).getD j undef)) ∨ (NoAu t ∧ e' = .returned (.tuple #[.agg #[.slice none 0 0, .slice none 0 0, .slice none 0 0], .bool false]))) ∧ Below w.heap.size w w'

/-- What is kept while the lines of edges are read. -/
structure SpX (ab : Nat) (t : ByteArray) (vs : Array Value) (W5 wl : World) (es : List Tr) (v : Value) : Prop where
  fr : Bt ab W5 wl
  box : Row wl ab 31 (vs.push v)
  own : OwnT wl W5.heap.size v es
  form : ∃ A c, v = .slice A es.length c
  rng : TrsR es
  all : ∀ a, IsAu t a → es = a.es.take es.length

/-- An automaton in rows lies in memory. -/
theorem au_rows {w : World} {gi ga ci n base : Nat} {v : Value} {ini : List Int} {acc : List Bool} {es : List Tr} {csi csa : Array Value} (h1 : Row w gi 3 csi) (h1' : ∀ (i : Nat) (z : Int), ini[i]? = some z → csi[i]? = some (.int .i64 z)) (h2 : Row w ga 4 csa) (h2' : ∀ (i : Nat) (z : Bool), acc[i]? = some z → csa[i]? = some (.bool z)) (hn : acc.length = n)
    (h3 : OwnT w base v es) (hr : TrsR es) (l1 : ini.length ≤ 1048576) (l2 : acc.length ≤ 1048576) (l3 : es.length ≤ 1048576) :
    Lay.au.lies w w.heap.size ⟨ini, acc, es⟩ (fun j => (#[.slice (some ⟨gi, 0, none⟩) ini.length ci, .slice (some ⟨ga, 0, none⟩) n n, v] : Array Value).getD j undef) := by
  subst hn
  have m1 : ini.length ≤ maxLen := by unfold maxLen; omega
  have m2 : acc.length ≤ maxLen := by unfold maxLen; omega
  have m3 : es.length ≤ maxLen := by unfold maxLen; omega
  refine ⟨?_, ?_, ?_⟩
  · refine ⟨some ⟨gi, 0, none⟩, ci, gi, 0, fun i _ => .int .i64 (ini.getD i 0), rfl, m1, fun i x hx => ⟨rfl, h1.lt, fun j hj => ?_, ?_⟩⟩
    · have hj0 : j = 0 := by have : j < 1 := hj; omega
      subst hj0
      show w.cell? ⟨gi, 0 + i * 1 + 0, none⟩ = some (.int .i64 (ini.getD i 0))
      rw [h1.cell, Nat.mul_one, Nat.add_zero, Nat.zero_add, h1' i x hx]
      simp [List.getD, hx]
    · show Value.int .i64 (ini.getD i 0) = .int .i64 x
      simp [List.getD, hx]
  · refine ⟨some ⟨ga, 0, none⟩, acc.length, ga, 0, fun i _ => .bool (acc.getD i false), rfl, m2, fun i x hx => ⟨rfl, h2.lt, fun j hj => ?_, ?_⟩⟩
    · have hj0 : j = 0 := by have : j < 1 := hj; omega
      subst hj0
      show w.cell? ⟨ga, 0 + i * 1 + 0, none⟩ = some (.bool (acc.getD i false))
      rw [h2.cell, Nat.mul_one, Nat.add_zero, Nat.zero_add, h2' i x hx]
      simp [List.getD, hx]
    · show Value.bool (acc.getD i false) = .bool x
      simp [List.getD, hx]
  · rcases h3.2 with ⟨hv, hl⟩ | ⟨g, cap, cur, hv, hg, hh, _, _, _, ht⟩
    · have : es = [] := List.length_eq_zero_iff.1 hl
      subst this
      exact ⟨none, 0, 0, 0, fun _ _ => undef, hv, Nat.zero_le _, fun i x hx => by simp at hx⟩
    · have hrow : Row w g 45 cur := hh
      refine ⟨some ⟨g, 0, none⟩, cap, g, 0, fun i j => (cellsT es).getD (i * 4 + j) undef, hv, m3, fun i x hx => ⟨rfl, hrow.lt, fun j hj => ?_, ?_⟩⟩
      · have hi : i < es.length := (List.getElem?_eq_some_iff.1 hx).1
        have hj4 : j < 4 := hj
        show w.cell? ⟨g, 0 + i * 4 + j, none⟩ = _
        rw [hrow.cell, Nat.zero_add]
        have hlt : i * 4 + j < (cellsT es).length := by rw [cellsT_len]; omega
        obtain ⟨u, h5⟩ : ∃ u, (cellsT es)[i * 4 + j]? = some u := ⟨_, List.getElem?_eq_getElem hlt⟩
        have h6 := h5
        rw [← ht, List.getElem?_take] at h6
        split at h6
        · rw [Array.getElem?_toList] at h6
          rw [h6]
          simp [List.getD, h5]
        · cases h6
      · obtain ⟨c0, c1, c2, c3⟩ := cellsT_at hx
        have hrx := hr x (List.mem_of_getElem? hx)
        refine ⟨⟨?_, hrx.1⟩, ⟨?_, hrx.2.1⟩, ⟨?_, hrx.2.2.1⟩, ⟨?_, hrx.2.2.2⟩⟩
        · show (cellsT es).getD (i * 4 + 0) undef = _
          simp [List.getD, c0]
        · show (cellsT es).getD (i * 4 + (1 + 0)) undef = _
          simp [List.getD, c1]
        · show (cellsT es).getD (i * 4 + (1 + (1 + 0))) undef = _
          simp [List.getD, c2]
        · show (cellsT es).getD (i * 4 + (1 + (1 + 1))) undef = _
          simp [List.getD, c3]

set_option maxHeartbeats 8000000 in
set_option maxRecDepth 100000 in
theorem specPa_any (t : ByteArray) (w : World) (hs : t.size ≤ 1048576) : Calls Tryd.prog 10 #[.string t] w (SpPost t w) := by
  obtain ⟨W0, hW0⟩ : ∃ W0, W0 = w.alloc (.cells #[.slice none 0 0, .slice none 0 0, .slice none 0 0] 31) := ⟨_, rfl⟩
  have hb0 : Below w.heap.size w W0 := by rw [hW0]; exact (Below.refl _ _).alloc (Nat.le_refl _) _
  have hrp : Row W0 w.heap.size 31 #[.slice none 0 0, .slice none 0 0, .slice none 0 0] := by rw [hW0]; exact Row.new _ _ _
  have hz0 : W0.heap.size = w.heap.size + 1 := by rw [hW0]; simp
  have HW0 := Lib.hid hW0
  have HB0 := Lib.hid hb0
  have HRp := Lib.hid hrp
  have HZ0 := Lib.hid hz0
  have HNo : Hid (∀ W W', Below W0.heap.size W0 W → Tw w.heap.size w.heap.size W W' → NoAu t → SpPost t w (.returned (.tuple #[.agg #[.slice none 0 0, .slice none 0 0, .slice none 0 0], .bool false])) W') := fun W W' hW hT hn => by
    have h1 : Below w.heap.size w W := hb0.trans (hW.mono hb0.size)
    exact ⟨.inr ⟨hn, rfl⟩, hT.os.trans h1.os, hT.tape.trans h1.tape, hT.output.trans h1.output, by rw [hT.size]; exact h1.size, fun q q1 => (hT.other q (by omega) (by omega)).trans (h1.block q q1)⟩
  clear hW0 hb0 hrp hz0
  go_enter Tryd.func10, Tryd.ntmps10
  go_wp2_with fail
  rw [← HW0.out]
  refine (cutC_any t 10 W0 hs).mono ?_
  rintro e' w1 ⟨done, gp, capp, cs, rfl, hdone, hdl, hgp, hrow, hcs, hb1⟩
  have HDn := Lib.hid hdone
  have HRow := Lib.hid hrow
  have HCs := Lib.hid hcs
  have HB1 := Lib.hid hb1
  have HGp : Hid (gp < w1.heap.size) := hrow.lt
  have HGq : Hid (W0.heap.size ≤ gp) := hgp
  have HRp1 := Lib.hid (HRp.out.under hb1 HRp.out.lt)
  have hdl2 : done.length ≤ 1048577 := by omega
  clear hdone hgp hrow hcs hb1 hdl
  by_cases h4 : done.length < 4
  · have h4I : (done.length : Int) < 4 := by omega
    have HN : Hid (NoAu t) := noAu_of fun a h => by have := au_len h HDn.out; omega
    obtain ⟨p0, p1, p2⟩ := (HRp1.out).three
    have y0 := (HRp1.out).frozen 0
    have y1 := (HRp1.out).frozen 1
    have y2 := (HRp1.out).frozen 2
    go_wp2_with fail
    refine bodyPost_ret (v := .tuple #[.agg #[.slice none 0 0, .slice none 0 0, .slice none 0 0], .bool false]) (by simp [results, Tryd.results10, go_sem, p0, p1, p2]) rfl ?_
    exact HNo.out _ _ (HB1.out) ((((Tw.refl _ _ _).sa _ _).sa _ _).sa _ _) HN.out
  have h4I : ¬ (done.length : Int) < 4 := by omega
  by_cases h52 : 2052 < done.length
  · have h52I : (2052 : Int) < (done.length : Int) := by omega
    have HN : Hid (NoAu t) := noAu_of fun a h => by
      have := au_len h HDn.out
      obtain ⟨_, _, p3, _⟩ := auOk_parts h.1
      omega
    obtain ⟨p0, p1, p2⟩ := (HRp1.out).three
    have y0 := (HRp1.out).frozen 0
    have y1 := (HRp1.out).frozen 1
    have y2 := (HRp1.out).frozen 2
    go_wp2_with fail
    refine bodyPost_ret (v := .tuple #[.agg #[.slice none 0 0, .slice none 0 0, .slice none 0 0], .bool false]) (by simp [results, Tryd.results10, go_sem, p0, p1, p2]) rfl ?_
    exact HNo.out _ _ (HB1.out) ((((Tw.refl _ _ _).sa _ _).sa _ _).sa _ _) HN.out
  have h52I : ¬ (2052 : Int) < (done.length : Int) := by omega
  obtain ⟨q0, hq0⟩ : ∃ p, done[0]? = some p := ⟨_, List.getElem?_eq_getElem (by omega)⟩
  obtain ⟨q1, hq1⟩ : ∃ p, done[1]? = some p := ⟨_, List.getElem?_eq_getElem (by omega)⟩
  obtain ⟨q2, hq2⟩ : ∃ p, done[2]? = some p := ⟨_, List.getElem?_eq_getElem (by omega)⟩
  have HPs : Hid (∀ (i : Nat) (p : ByteArray), done[i]? = some p → p.size ≤ 1048576) := fun i p hp => by
    have hm : toL p ∈ cutP 10 [] (toL t) := by rw [← HDn.out]; exact List.mem_map.2 ⟨p, List.mem_of_getElem? hp, rfl⟩
    have := cutP_mem 10 _ _ _ hm
    rw [toL_len, toL_len] at this
    simp at this
    omega
  have hc0 : w1.cell? ⟨gp, 0, none⟩ = some (.string q0) := by rw [HRow.out.cell]; exact HCs.out 0 q0 hq0
  have HQ0 := Lib.hid hq0
  have HQ1 := Lib.hid hq1
  have HQ2 := Lib.hid hq2
  have hd0I : (0 : Int) < (done.length : Int) := by omega
  have hd1I : (1 : Int) < (done.length : Int) := by omega
  have hd2I : (2 : Int) < (done.length : Int) := by omega
  have hqs0 := HPs.out 0 q0 hq0
  clear hq0 hq1 hq2
  go_wp2_with fail
  refine (l7n_any q0 w1 hqs0).mono ?_
  rintro e' w2 ⟨zs0, g0, cap0, cs0, rfl, hn0, hg0, hr0, hk0, hb2⟩
  have HN0 := Lib.hid hn0
  have HB2 := Lib.hid (HB1.out.trans (hb2.mono HB1.out.size))
  have HRp2 := Lib.hid (HRp1.out.under hb2 HRp1.out.lt)
  have HRow2 := Lib.hid (HRow.out.under hb2 HGp.out)
  have HR0 := Lib.hid hr0
  have HK0 := Lib.hid hk0
  have HG0 : Hid (w1.heap.size ≤ g0) := hg0
  clear hn0 hg0 hr0 hk0 hb2 hc0 HRow HRp1
  by_cases hl1 : zs0.length = 1
  case neg =>
    have hl1B : ((zs0.length : Int) == 1) = false := by rw [beq_eq_false_iff_ne]; omega
    have HN : Hid (NoAu t) := noAu_of fun a h => by have := au_k0 h HDn.out HQ0.out HN0.out; rw [this] at hl1; exact hl1 rfl
    obtain ⟨p0, p1, p2⟩ := (HRp2.out).three
    have y0 := (HRp2.out).frozen 0
    have y1 := (HRp2.out).frozen 1
    have y2 := (HRp2.out).frozen 2
    go_wp2_with fail
    refine bodyPost_ret (v := .tuple #[.agg #[.slice none 0 0, .slice none 0 0, .slice none 0 0], .bool false]) (by simp [results, Tryd.results10, go_sem, p0, p1, p2]) rfl ?_
    exact HNo.out _ _ (HB2.out) ((((Tw.refl _ _ _).sa _ _).sa _ _).sa _ _) HN.out
  obtain ⟨z, rfl⟩ : ∃ z, zs0 = [z] := by
    match zs0, hl1 with
    | [z], _ => exact ⟨z, rfl⟩
  have hcz : w2.cell? ⟨g0, 0, none⟩ = some (.int .i64 z) := by rw [HR0.out.cell]; exact HK0.out 0 z rfl
  clear hl1
  by_cases hz1 : z < 1
  · have HN : Hid (NoAu t) := noAu_of fun a h => by
      have := au_k0 h HDn.out HQ0.out HN0.out
      injection this with this
      obtain ⟨p1, _⟩ := auOk_parts h.1
      omega
    obtain ⟨p0, p1, p2⟩ := (HRp2.out).three
    have y0 := (HRp2.out).frozen 0
    have y1 := (HRp2.out).frozen 1
    have y2 := (HRp2.out).frozen 2
    go_wp2_with fail
    refine bodyPost_ret (v := .tuple #[.agg #[.slice none 0 0, .slice none 0 0, .slice none 0 0], .bool false]) (by simp [results, Tryd.results10, go_sem, p0, p1, p2]) rfl ?_
    exact HNo.out _ _ (HB2.out) ((((Tw.refl _ _ _).sa _ _).sa _ _).sa _ _) HN.out
  by_cases hz64 : 64 < z
  · have HN : Hid (NoAu t) := noAu_of fun a h => by
      have := au_k0 h HDn.out HQ0.out HN0.out
      injection this with this
      obtain ⟨_, p2, _⟩ := auOk_parts h.1
      omega
    obtain ⟨p0, p1, p2⟩ := (HRp2.out).three
    have y0 := (HRp2.out).frozen 0
    have y1 := (HRp2.out).frozen 1
    have y2 := (HRp2.out).frozen 2
    go_wp2_with fail
    refine bodyPost_ret (v := .tuple #[.agg #[.slice none 0 0, .slice none 0 0, .slice none 0 0], .bool false]) (by simp [results, Tryd.results10, go_sem, p0, p1, p2]) rfl ?_
    exact HNo.out _ _ (HB2.out) ((((Tw.refl _ _ _).sa _ _).sa _ _).sa _ _) HN.out
  obtain ⟨n, rfl⟩ := Int.eq_ofNat_of_zero_le (show 0 ≤ z by omega)
  have hn1 : 1 ≤ n := by omega
  have hn2 : n ≤ 64 := by omega
  obtain ⟨i0, hi0, hz0, hz1', hz2'⟩ := info_parts Tryd.info4
  have hmk := run_make_of (P := Tryd.prog) 23 4 i0 _ Tryd.underlying23 hi0 hz0 n (by rw [hz2']; omega) (by omega)
  rw [hz1'] at hmk
  clear hi0 hz0 hz1' hz2'
  obtain ⟨csb, hcsb⟩ : ∃ cs, cs = madeCells (Value.cells (.bool false)) (n * 1) := ⟨_, rfl⟩
  have hcz2 : csb.size = n := by rw [hcsb, size_madeCells]; omega
  have hcg : ∀ q, q < n → csb[q]? = some (.bool false) := fun q hq => by
    rw [hcsb]
    have h1 : q < (madeCells (Value.cells (.bool false)) (n * 1)).size := by rw [size_madeCells]; omega
    rw [Array.getElem?_eq_getElem h1]
    simp [madeCells, Value.cells, Nat.mod_one]
  rw [← hcsb] at hmk
  have HCZ := Lib.hid hcz2
  have HCG := Lib.hid hcg
  clear hcsb hcz2 hcg
  have HKS : Hid (∀ W, Below w2.heap.size w2 W → W.cell? ⟨gp, 1, none⟩ = some (.string q1) ∧ W.cell? ⟨g0, 0, none⟩ = some (.int .i64 n)) := fun W hW => by
    refine ⟨?_, ?_⟩
    · rw [(HRow2.out.under hW HRow2.out.lt).cell]; exact HCs.out 1 q1 HQ1.out
    · rw [(HR0.out.under hW HR0.out.lt).cell]; exact HK0.out 0 _ rfl
  have HBD0 : Hid (Below w2.heap.size w2 w2.drew) := (Below.refl _ _).drew
  have hqs1 := HPs.out 1 q1 HQ1.out
  have HCl : Hid (∀ W, Calls Tryd.prog 31 #[.string q1] W (L7Post q1 W)) := fun W => l7n_any q1 W hqs1
  go_upto_region 7 with fail
  go_cut [6] from 42 to 50 (fun pt wx => ∃ (ab ga g1 cap1 : Nat) (zs1 : List Int) (cs1 : Array Value), pt = .pointer (some ⟨ab, 0, none⟩) ∧ Hid (Row wx ab 31 #[.slice (some ⟨g1, 0, none⟩) zs1.length cap1, .slice (some ⟨ga, 0, none⟩) n n, .slice none 0 0] ∧ Row wx ga 4 csb ∧ (NumsOf q1 zs1 ∧ Row wx g1 3 cs1 ∧ ∀ (i : Nat) (z : Int), zs1[i]? = some z → cs1[i]? = some (Value.int .i64 z)) ∧ Below w2.heap.size w2 wx ∧ w2.heap.size ≤ ab ∧ w2.heap.size ≤ ga ∧ w2.heap.size ≤ g1))
  case first =>
    have MidK : Hid (∀ (Z : World) (ab ga g1 cap1 : Nat) (zs1 : List Int) (cs1 : Array Value), Row Z ab 31 #[.slice none 0 0, .slice none 0 0, .slice none 0 0] → Row Z ga 4 csb → (NumsOf q1 zs1 ∧ Row Z g1 3 cs1 ∧ ∀ (i : Nat) (z : Int), zs1[i]? = some z → cs1[i]? = some (Value.int .i64 z)) → Below w2.heap.size w2 Z → w2.heap.size ≤ ab → w2.heap.size ≤ ga → w2.heap.size ≤ g1 →
        ∃ (ab' ga' g1' cap1' : Nat) (zs1' : List Int) (cs1' : Array Value), Value.pointer (some ⟨ab, 0, none⟩) = .pointer (some ⟨ab', 0, none⟩) ∧ Hid (Row (((Z.setCell ⟨ab, 0, none⟩ (.slice (some ⟨g1, 0, none⟩) zs1.length cap1)).setCell ⟨ab, 1, none⟩ (.slice (some ⟨ga, 0, none⟩) n n)).setCell ⟨ab, 2, none⟩ (.slice none 0 0)) ab' 31 #[.slice (some ⟨g1', 0, none⟩) zs1'.length cap1', .slice (some ⟨ga', 0, none⟩) n n, .slice none 0 0] ∧ Row (((Z.setCell ⟨ab, 0, none⟩ (.slice (some ⟨g1, 0, none⟩) zs1.length cap1)).setCell ⟨ab, 1, none⟩ (.slice (some ⟨ga, 0, none⟩) n n)).setCell ⟨ab, 2, none⟩ (.slice none 0 0)) ga' 4 csb ∧ (NumsOf q1 zs1' ∧ Row (((Z.setCell ⟨ab, 0, none⟩ (.slice (some ⟨g1, 0, none⟩) zs1.length cap1)).setCell ⟨ab, 1, none⟩ (.slice (some ⟨ga, 0, none⟩) n n)).setCell ⟨ab, 2, none⟩ (.slice none 0 0)) g1' 3 cs1' ∧ ∀ (i : Nat) (z : Int), zs1'[i]? = some z → cs1'[i]? = some (Value.int .i64 z)) ∧ Below w2.heap.size w2 (((Z.setCell ⟨ab, 0, none⟩ (.slice (some ⟨g1, 0, none⟩) zs1.length cap1)).setCell ⟨ab, 1, none⟩ (.slice (some ⟨ga, 0, none⟩) n n)).setCell ⟨ab, 2, none⟩ (.slice none 0 0)) ∧ w2.heap.size ≤ ab' ∧ w2.heap.size ≤ ga' ∧ w2.heap.size ≤ g1')) := fun Z ab ga g1 cap1 zs1 cs1 hbx hac hin hbl l1 l2 l3 => by
      have hT := (((Tw.refl ab ab Z).sa 0 (.slice (some ⟨g1, 0, none⟩) zs1.length cap1)).sa 1 (.slice (some ⟨ga, 0, none⟩) n n)).sa 2 (.slice none 0 0)
      have n1 : ga ≠ ab := fun e => by subst e; exact absurd (hbx.ty hac) (by decide)
      have n2 : g1 ≠ ab := fun e => by subst e; exact absurd (hbx.ty hin.2.1) (by decide)
      refine ⟨ab, ga, g1, cap1, zs1, cs1, rfl, ((hbx.set_ 0 _).set_ 1 _).set_ 2 _, (hT.other ga n1 n1).trans hac, ⟨hin.1, (hT.other g1 n2 n2).trans hin.2.1, hin.2.2⟩, ?_, l1, l2, l3⟩
      exact ⟨hT.os.trans hbl.os, hT.tape.trans hbl.tape, hT.output.trans hbl.output, by rw [hT.size]; exact hbl.size, fun q hq => (hT.other q (by omega) (by omega)).trans (hbl.block q hq)⟩
    clear hcz
    refine wp_region_last (S := (fun w' => w'.cell? ⟨gp, 1, none⟩ = some (.string q1) ∧ w'.cell? ⟨g0, 0, none⟩ = some (.int .i64 n))) 10 (by kernel_rfl) (by kernel_rfl) ?_ (fun hHeld => ?_)
    · exact HKS.out _ (Below.refl _ _).drew
    obtain ⟨X0, hX0⟩ : ∃ X, X = w2.drew := ⟨_, rfl⟩
    rw [← hX0] at hHeld ⊢
    have HBX0 : Hid (Below w2.heap.size w2 X0) := by rw [hX0]; exact HBD0.out
    clear hX0
    refine wpAnyH_take (i := 0) (oi := { dst := some 42, op := Go.Op.move (Go.Operand.tmp 4), type := 63, pos := "l7_automaton.go:91", after := #[], guard := none }) (v := ?_) rfl (by kernel_rfl) (by kernel_rfl) (by kernel_rfl) (fun _ _ _ h => h) (Or.inl ⟨by rfl, ?_⟩) (by assumption) ?_
    rotate_left
    · intro w hSw
      try dsimp only at hSw
      go_simp
      all_goals (with_reducible rfl)
    try simp only [Act.put, List.setIfInBounds_toArray, List.set_cons_zero, List.set_cons_succ]
    refine wpAnyH_take (i := 1) (oi := { dst := some 43, op := Go.Op.indexAddr 63 (Go.Operand.tmp 42) (Go.Operand.const (Go.Value.int Go.IntKind.i64 1)), type := 0, pos := "l7_automaton.go:91", after := #[{ on := 0, ground := Go.Ground.data }], guard := none }) (v := ?_) rfl (by kernel_rfl) (by kernel_rfl) (by kernel_rfl) (fun _ _ _ h => h) (Or.inl ⟨by rfl, ?_⟩) (by assumption) ?_
    rotate_left
    · intro w hSw
      try dsimp only at hSw
      go_simp
      all_goals (with_reducible rfl)
    try simp only [Act.put, List.setIfInBounds_toArray, List.set_cons_zero, List.set_cons_succ]
    refine wpAnyH_take (i := 2) (oi := { dst := some 44, op := Go.Op.load 9 (Go.Operand.tmp 43), type := 9, pos := "l7_automaton.go:91", after := #[{ on := 1, ground := Go.Ground.data }], guard := none }) (v := ?_) rfl (by kernel_rfl) (by kernel_rfl) (by kernel_rfl) (fun _ _ _ h => h) (Or.inl ⟨by rfl, ?_⟩) (by assumption) ?_
    rotate_left
    · intro w hSw
      try dsimp only at hSw
      go_simp
      all_goals (with_reducible rfl)
    try simp only [Act.put, List.setIfInBounds_toArray, List.set_cons_zero, List.set_cons_succ]
    refine wpAnyH_take (i := 4) (oi := { dst := some 46, op := Go.Op.move (Go.Operand.tmp 5), type := 22, pos := "l7_automaton.go:91", after := #[], guard := none }) (v := ?_) rfl (by kernel_rfl) (by kernel_rfl) (by kernel_rfl) (fun _ _ _ h => h) (Or.inl ⟨by rfl, ?_⟩) (by assumption) ?_
    rotate_left
    · intro w hSw
      try dsimp only at hSw
      go_simp
      all_goals (with_reducible rfl)
    try simp only [Act.put, List.setIfInBounds_toArray, List.set_cons_zero, List.set_cons_succ]
    refine wpAnyH_take (i := 5) (oi := { dst := some 47, op := Go.Op.indexAddr 22 (Go.Operand.tmp 46) (Go.Operand.const (Go.Value.int Go.IntKind.i64 0)), type := 0, pos := "l7_automaton.go:91", after := #[{ on := 4, ground := Go.Ground.data }], guard := none }) (v := ?_) rfl (by kernel_rfl) (by kernel_rfl) (by kernel_rfl) (fun _ _ _ h => h) (Or.inl ⟨by rfl, ?_⟩) (by assumption) ?_
    rotate_left
    · intro w hSw
      try dsimp only at hSw
      go_simp
      all_goals (with_reducible rfl)
    try simp only [Act.put, List.setIfInBounds_toArray, List.set_cons_zero, List.set_cons_succ]
    refine wpAnyH_take (i := 6) (oi := { dst := some 48, op := Go.Op.load 3 (Go.Operand.tmp 47), type := 3, pos := "l7_automaton.go:91", after := #[{ on := 5, ground := Go.Ground.data }], guard := none }) (v := ?_) rfl (by kernel_rfl) (by kernel_rfl) (by kernel_rfl) (fun _ _ _ h => h) (Or.inl ⟨by rfl, ?_⟩) (by assumption) ?_
    rotate_left
    · intro w hSw
      try dsimp only at hSw
      go_simp
      all_goals (with_reducible rfl)
    try simp only [Act.put, List.setIfInBounds_toArray, List.set_cons_zero, List.set_cons_succ]
    refine wpAnyH_ready (rs := [3, 7, 9]) (by kernel_rfl) (by simp) (AllReadyH.cons (o := { dst := some 45, op := Go.Op.call { callee := Go.Callee.value (Go.Operand.func 31), args := #[Go.Operand.tmp 44], argTypes := #[9] }, type := 22, pos := "l7_automaton.go:91", after := #[{ on := 2, ground := Go.Ground.data }], guard := none }) rfl (fun K hK => ?_) (AllReadyH.cons (o := { dst := some 49, op := Go.Op.makeSlice 23 (Go.Operand.tmp 48) (Go.Operand.tmp 48), type := 23, pos := "l7_automaton.go:91", after := #[{ on := 6, ground := Go.Ground.data }, { on := 6, ground := Go.Ground.data }], guard := none }) rfl (fun K hK => ?_) (AllReadyH.cons (o := { dst := some 6, op := Go.Op.alloc 31, type := 0, pos := "l7_automaton.go:91", after := #[], guard := none }) rfl (fun K hK => ?_) AllReadyH.nil)))
    · go_simp
      refine (HCl.out _).mono ?_
      rintro e' X1 ⟨zs1, g1, cap1, cs1, rfl, hnum1, hg1, hr1, hc1, hbX1⟩
      have hgi1 : w2.heap.size ≤ g1 := Nat.le_trans HBX0.out.size hg1
      have HIniX1 : Hid (NumsOf q1 zs1 ∧ Row X1 g1 3 cs1 ∧ ∀ (i : Nat) (z : Int), zs1[i]? = some z → cs1[i]? = some (Value.int .i64 z)) := ⟨hnum1, hr1, hc1⟩
      clear hnum1 hg1 hr1 hc1
      try go_wp2_with fail
      have HBX1 : Hid (Below w2.heap.size w2 X1) := HBX0.out.trans (hbX1.mono HBX0.out.size)
      clear hbX1
      refine hK.out _ _ ?_ (fun hHeld => ?_)
      · exact HKS.out _ HBX1.out
      clear hK K
      try simp only [Act.put, List.setIfInBounds_toArray, List.set_cons_zero, List.set_cons_succ]
      refine wpAnyH_ready (rs := [7, 9]) (by kernel_rfl) (by simp) (AllReadyH.cons (o := { dst := some 49, op := Go.Op.makeSlice 23 (Go.Operand.tmp 48) (Go.Operand.tmp 48), type := 23, pos := "l7_automaton.go:91", after := #[{ on := 6, ground := Go.Ground.data }, { on := 6, ground := Go.Ground.data }], guard := none }) rfl (fun K hK => ?_) (AllReadyH.cons (o := { dst := some 6, op := Go.Op.alloc 31, type := 0, pos := "l7_automaton.go:91", after := #[], guard := none }) rfl (fun K hK => ?_) AllReadyH.nil))
      · go_simp
        obtain ⟨X2, hX2⟩ : ∃ Y, Y = (X1).alloc (.cells csb 4) := ⟨_, rfl⟩
        rw [← hX2]
        have hbX2 : Below (X1).heap.size (X1) X2 := by rw [hX2]; exact (Below.refl _ _).alloc (Nat.le_refl _) _
        have HAccX2 : Hid (Row X2 (X1).heap.size 4 csb) := by rw [hX2]; exact Row.new _ _ _
        clear hX2
        have HIniX2 : Hid (NumsOf q1 zs1 ∧ Row X2 g1 3 cs1 ∧ ∀ (i : Nat) (z : Int), zs1[i]? = some z → cs1[i]? = some (Value.int .i64 z)) := ⟨HIniX1.out.1, HIniX1.out.2.1.under hbX2 HIniX1.out.2.1.lt, HIniX1.out.2.2⟩
        have HBX2 : Hid (Below w2.heap.size w2 X2) := HBX1.out.trans (hbX2.mono HBX1.out.size)
        clear hbX2
        refine hK.out _ _ ?_ (fun hHeld => ?_)
        · exact HKS.out _ HBX2.out
        clear hK K
        try simp only [Act.put, List.setIfInBounds_toArray, List.set_cons_zero, List.set_cons_succ]
        refine wpAnyH_take (i := 8) (oi := { dst := some 50, op := Go.Op.build 31 #[(0, Go.Operand.tmp 45), (1, Go.Operand.tmp 49)], type := 31, pos := "l7_automaton.go:91", after := #[{ on := 3, ground := Go.Ground.data }, { on := 7, ground := Go.Ground.data }], guard := none }) (v := ?_) rfl (by kernel_rfl) (by kernel_rfl) (by kernel_rfl) (fun _ _ _ h => h) (Or.inl ⟨by rfl, ?_⟩) (by assumption) ?_
        rotate_left
        · intro w hSw
          try dsimp only at hSw
          go_simp
          all_goals (with_reducible rfl)
        try simp only [Act.put, List.setIfInBounds_toArray, List.set_cons_zero, List.set_cons_succ]
        refine wpAnyH_ready (rs := [9]) (by kernel_rfl) (by simp) (AllReadyH.cons (o := { dst := some 6, op := Go.Op.alloc 31, type := 0, pos := "l7_automaton.go:91", after := #[], guard := none }) rfl (fun K hK => ?_) AllReadyH.nil)
        · go_simp
          obtain ⟨X3, hX3⟩ : ∃ Y, Y = (X2).alloc (.cells #[.slice none 0 0, .slice none 0 0, .slice none 0 0] 31) := ⟨_, rfl⟩
          rw [← hX3]
          have hbX3 : Below (X2).heap.size (X2) X3 := by rw [hX3]; exact (Below.refl _ _).alloc (Nat.le_refl _) _
          have HBoxX3 : Hid (Row X3 (X2).heap.size 31 #[.slice none 0 0, .slice none 0 0, .slice none 0 0]) := by rw [hX3]; exact Row.new _ _ _
          clear hX3
          have HAccX3 := Lib.hid (HAccX2.out.under hbX3 HAccX2.out.lt)
          have HIniX3 : Hid (NumsOf q1 zs1 ∧ Row X3 g1 3 cs1 ∧ ∀ (i : Nat) (z : Int), zs1[i]? = some z → cs1[i]? = some (Value.int .i64 z)) := ⟨HIniX2.out.1, HIniX2.out.2.1.under hbX3 HIniX2.out.2.1.lt, HIniX2.out.2.2⟩
          have HBX3 : Hid (Below w2.heap.size w2 X3) := HBX2.out.trans (hbX3.mono HBX2.out.size)
          clear hbX3
          refine hK.out _ _ ?_ (fun hHeld => ?_)
          · exact HKS.out _ HBX3.out
          clear hK K
          try simp only [Act.put, List.setIfInBounds_toArray, List.set_cons_zero, List.set_cons_succ]
          refine ⟨by kernel_rfl, ?_⟩
          obtain ⟨x0, x1, x2⟩ := HBoxX3.out.three
          have u0 := HBoxX3.out.frozen 0
          have u1 := HBoxX3.out.frozen 1
          have u2 := HBoxX3.out.frozen 2
          refine then_last (o := { dst := none, op := Go.Op.store 31 (Go.Operand.tmp 6) (Go.Operand.tmp 50), type := 0, pos := "l7_automaton.go:91", after := #[{ on := 9, ground := Go.Ground.data }, { on := 8, ground := Go.Ground.data }, { on := 3, ground := Go.Ground.chain }, { on := 0, ground := Go.Ground.phase }, { on := 1, ground := Go.Ground.phase }, { on := 2, ground := Go.Ground.phase }, { on := 3, ground := Go.Ground.phase }, { on := 4, ground := Go.Ground.phase }, { on := 5, ground := Go.Ground.phase }, { on := 6, ground := Go.Ground.phase }, { on := 7, ground := Go.Ground.phase }, { on := 8, ground := Go.Ground.phase }, { on := 9, ground := Go.Ground.phase }], guard := none }) rfl (fun K hK => ?_)
          go_simp
          refine hK.out _ _ ?_
          clear hK K
          go_wp2_with fail
          go_meet
          exact MidK.out _ _ _ _ _ _ _ HBoxX3.out HAccX3.out HIniX3.out HBX3.out (HBX2.out.size) (HBX1.out.size) hgi1
      · go_simp
        obtain ⟨X4, hX4⟩ : ∃ Y, Y = (X1).alloc (.cells #[.slice none 0 0, .slice none 0 0, .slice none 0 0] 31) := ⟨_, rfl⟩
        rw [← hX4]
        have hbX4 : Below (X1).heap.size (X1) X4 := by rw [hX4]; exact (Below.refl _ _).alloc (Nat.le_refl _) _
        have HBoxX4 : Hid (Row X4 (X1).heap.size 31 #[.slice none 0 0, .slice none 0 0, .slice none 0 0]) := by rw [hX4]; exact Row.new _ _ _
        clear hX4
        have HIniX4 : Hid (NumsOf q1 zs1 ∧ Row X4 g1 3 cs1 ∧ ∀ (i : Nat) (z : Int), zs1[i]? = some z → cs1[i]? = some (Value.int .i64 z)) := ⟨HIniX1.out.1, HIniX1.out.2.1.under hbX4 HIniX1.out.2.1.lt, HIniX1.out.2.2⟩
        have HBX4 : Hid (Below w2.heap.size w2 X4) := HBX1.out.trans (hbX4.mono HBX1.out.size)
        clear hbX4
        refine hK.out _ _ ?_ (fun hHeld => ?_)
        · exact HKS.out _ HBX4.out
        clear hK K
        try simp only [Act.put, List.setIfInBounds_toArray, List.set_cons_zero, List.set_cons_succ]
        refine wpAnyH_ready (rs := [7]) (by kernel_rfl) (by simp) (AllReadyH.cons (o := { dst := some 49, op := Go.Op.makeSlice 23 (Go.Operand.tmp 48) (Go.Operand.tmp 48), type := 23, pos := "l7_automaton.go:91", after := #[{ on := 6, ground := Go.Ground.data }, { on := 6, ground := Go.Ground.data }], guard := none }) rfl (fun K hK => ?_) AllReadyH.nil)
        · go_simp
          obtain ⟨X5, hX5⟩ : ∃ Y, Y = (X4).alloc (.cells csb 4) := ⟨_, rfl⟩
          rw [← hX5]
          have hbX5 : Below (X4).heap.size (X4) X5 := by rw [hX5]; exact (Below.refl _ _).alloc (Nat.le_refl _) _
          have HAccX5 : Hid (Row X5 (X4).heap.size 4 csb) := by rw [hX5]; exact Row.new _ _ _
          clear hX5
          have HBoxX5 := Lib.hid (HBoxX4.out.under hbX5 HBoxX4.out.lt)
          have HIniX5 : Hid (NumsOf q1 zs1 ∧ Row X5 g1 3 cs1 ∧ ∀ (i : Nat) (z : Int), zs1[i]? = some z → cs1[i]? = some (Value.int .i64 z)) := ⟨HIniX4.out.1, HIniX4.out.2.1.under hbX5 HIniX4.out.2.1.lt, HIniX4.out.2.2⟩
          have HBX5 : Hid (Below w2.heap.size w2 X5) := HBX4.out.trans (hbX5.mono HBX4.out.size)
          clear hbX5
          refine hK.out _ _ ?_ (fun hHeld => ?_)
          · exact HKS.out _ HBX5.out
          clear hK K
          try simp only [Act.put, List.setIfInBounds_toArray, List.set_cons_zero, List.set_cons_succ]
          refine wpAnyH_take (i := 8) (oi := { dst := some 50, op := Go.Op.build 31 #[(0, Go.Operand.tmp 45), (1, Go.Operand.tmp 49)], type := 31, pos := "l7_automaton.go:91", after := #[{ on := 3, ground := Go.Ground.data }, { on := 7, ground := Go.Ground.data }], guard := none }) (v := ?_) rfl (by kernel_rfl) (by kernel_rfl) (by kernel_rfl) (fun _ _ _ h => h) (Or.inl ⟨by rfl, ?_⟩) (by assumption) ?_
          rotate_left
          · intro w hSw
            try dsimp only at hSw
            go_simp
            all_goals (with_reducible rfl)
          try simp only [Act.put, List.setIfInBounds_toArray, List.set_cons_zero, List.set_cons_succ]
          refine ⟨by kernel_rfl, ?_⟩
          obtain ⟨x0, x1, x2⟩ := HBoxX5.out.three
          have u0 := HBoxX5.out.frozen 0
          have u1 := HBoxX5.out.frozen 1
          have u2 := HBoxX5.out.frozen 2
          refine then_last (o := { dst := none, op := Go.Op.store 31 (Go.Operand.tmp 6) (Go.Operand.tmp 50), type := 0, pos := "l7_automaton.go:91", after := #[{ on := 9, ground := Go.Ground.data }, { on := 8, ground := Go.Ground.data }, { on := 3, ground := Go.Ground.chain }, { on := 0, ground := Go.Ground.phase }, { on := 1, ground := Go.Ground.phase }, { on := 2, ground := Go.Ground.phase }, { on := 3, ground := Go.Ground.phase }, { on := 4, ground := Go.Ground.phase }, { on := 5, ground := Go.Ground.phase }, { on := 6, ground := Go.Ground.phase }, { on := 7, ground := Go.Ground.phase }, { on := 8, ground := Go.Ground.phase }, { on := 9, ground := Go.Ground.phase }], guard := none }) rfl (fun K hK => ?_)
          go_simp
          refine hK.out _ _ ?_
          clear hK K
          go_wp2_with fail
          go_meet
          exact MidK.out _ _ _ _ _ _ _ HBoxX5.out HAccX5.out HIniX5.out HBX5.out (HBX1.out.size) (HBX4.out.size) hgi1
    · go_simp
      obtain ⟨X6, hX6⟩ : ∃ Y, Y = (X0).alloc (.cells csb 4) := ⟨_, rfl⟩
      rw [← hX6]
      have hbX6 : Below (X0).heap.size (X0) X6 := by rw [hX6]; exact (Below.refl _ _).alloc (Nat.le_refl _) _
      have HAccX6 : Hid (Row X6 (X0).heap.size 4 csb) := by rw [hX6]; exact Row.new _ _ _
      clear hX6
      have HBX6 : Hid (Below w2.heap.size w2 X6) := HBX0.out.trans (hbX6.mono HBX0.out.size)
      clear hbX6
      refine hK.out _ _ ?_ (fun hHeld => ?_)
      · exact HKS.out _ HBX6.out
      clear hK K
      try simp only [Act.put, List.setIfInBounds_toArray, List.set_cons_zero, List.set_cons_succ]
      refine wpAnyH_ready (rs := [3, 9]) (by kernel_rfl) (by simp) (AllReadyH.cons (o := { dst := some 45, op := Go.Op.call { callee := Go.Callee.value (Go.Operand.func 31), args := #[Go.Operand.tmp 44], argTypes := #[9] }, type := 22, pos := "l7_automaton.go:91", after := #[{ on := 2, ground := Go.Ground.data }], guard := none }) rfl (fun K hK => ?_) (AllReadyH.cons (o := { dst := some 6, op := Go.Op.alloc 31, type := 0, pos := "l7_automaton.go:91", after := #[], guard := none }) rfl (fun K hK => ?_) AllReadyH.nil))
      · go_simp
        refine (HCl.out _).mono ?_
        rintro e' X7 ⟨zs1, g1, cap1, cs1, rfl, hnum1, hg1, hr1, hc1, hbX7⟩
        have hgi1 : w2.heap.size ≤ g1 := Nat.le_trans HBX6.out.size hg1
        have HIniX7 : Hid (NumsOf q1 zs1 ∧ Row X7 g1 3 cs1 ∧ ∀ (i : Nat) (z : Int), zs1[i]? = some z → cs1[i]? = some (Value.int .i64 z)) := ⟨hnum1, hr1, hc1⟩
        clear hnum1 hg1 hr1 hc1
        try go_wp2_with fail
        have HAccX7 := Lib.hid (HAccX6.out.under hbX7 HAccX6.out.lt)
        have HBX7 : Hid (Below w2.heap.size w2 X7) := HBX6.out.trans (hbX7.mono HBX6.out.size)
        clear hbX7
        refine hK.out _ _ ?_ (fun hHeld => ?_)
        · exact HKS.out _ HBX7.out
        clear hK K
        try simp only [Act.put, List.setIfInBounds_toArray, List.set_cons_zero, List.set_cons_succ]
        refine wpAnyH_take (i := 8) (oi := { dst := some 50, op := Go.Op.build 31 #[(0, Go.Operand.tmp 45), (1, Go.Operand.tmp 49)], type := 31, pos := "l7_automaton.go:91", after := #[{ on := 3, ground := Go.Ground.data }, { on := 7, ground := Go.Ground.data }], guard := none }) (v := ?_) rfl (by kernel_rfl) (by kernel_rfl) (by kernel_rfl) (fun _ _ _ h => h) (Or.inl ⟨by rfl, ?_⟩) (by assumption) ?_
        rotate_left
        · intro w hSw
          try dsimp only at hSw
          go_simp
          all_goals (with_reducible rfl)
        try simp only [Act.put, List.setIfInBounds_toArray, List.set_cons_zero, List.set_cons_succ]
        refine wpAnyH_ready (rs := [9]) (by kernel_rfl) (by simp) (AllReadyH.cons (o := { dst := some 6, op := Go.Op.alloc 31, type := 0, pos := "l7_automaton.go:91", after := #[], guard := none }) rfl (fun K hK => ?_) AllReadyH.nil)
        · go_simp
          obtain ⟨X8, hX8⟩ : ∃ Y, Y = (X7).alloc (.cells #[.slice none 0 0, .slice none 0 0, .slice none 0 0] 31) := ⟨_, rfl⟩
          rw [← hX8]
          have hbX8 : Below (X7).heap.size (X7) X8 := by rw [hX8]; exact (Below.refl _ _).alloc (Nat.le_refl _) _
          have HBoxX8 : Hid (Row X8 (X7).heap.size 31 #[.slice none 0 0, .slice none 0 0, .slice none 0 0]) := by rw [hX8]; exact Row.new _ _ _
          clear hX8
          have HAccX8 := Lib.hid (HAccX7.out.under hbX8 HAccX7.out.lt)
          have HIniX8 : Hid (NumsOf q1 zs1 ∧ Row X8 g1 3 cs1 ∧ ∀ (i : Nat) (z : Int), zs1[i]? = some z → cs1[i]? = some (Value.int .i64 z)) := ⟨HIniX7.out.1, HIniX7.out.2.1.under hbX8 HIniX7.out.2.1.lt, HIniX7.out.2.2⟩
          have HBX8 : Hid (Below w2.heap.size w2 X8) := HBX7.out.trans (hbX8.mono HBX7.out.size)
          clear hbX8
          refine hK.out _ _ ?_ (fun hHeld => ?_)
          · exact HKS.out _ HBX8.out
          clear hK K
          try simp only [Act.put, List.setIfInBounds_toArray, List.set_cons_zero, List.set_cons_succ]
          refine ⟨by kernel_rfl, ?_⟩
          obtain ⟨x0, x1, x2⟩ := HBoxX8.out.three
          have u0 := HBoxX8.out.frozen 0
          have u1 := HBoxX8.out.frozen 1
          have u2 := HBoxX8.out.frozen 2
          refine then_last (o := { dst := none, op := Go.Op.store 31 (Go.Operand.tmp 6) (Go.Operand.tmp 50), type := 0, pos := "l7_automaton.go:91", after := #[{ on := 9, ground := Go.Ground.data }, { on := 8, ground := Go.Ground.data }, { on := 3, ground := Go.Ground.chain }, { on := 0, ground := Go.Ground.phase }, { on := 1, ground := Go.Ground.phase }, { on := 2, ground := Go.Ground.phase }, { on := 3, ground := Go.Ground.phase }, { on := 4, ground := Go.Ground.phase }, { on := 5, ground := Go.Ground.phase }, { on := 6, ground := Go.Ground.phase }, { on := 7, ground := Go.Ground.phase }, { on := 8, ground := Go.Ground.phase }, { on := 9, ground := Go.Ground.phase }], guard := none }) rfl (fun K hK => ?_)
          go_simp
          refine hK.out _ _ ?_
          clear hK K
          go_wp2_with fail
          go_meet
          exact MidK.out _ _ _ _ _ _ _ HBoxX8.out HAccX8.out HIniX8.out HBX8.out (HBX7.out.size) (HBX0.out.size) hgi1
      · go_simp
        obtain ⟨X9, hX9⟩ : ∃ Y, Y = (X6).alloc (.cells #[.slice none 0 0, .slice none 0 0, .slice none 0 0] 31) := ⟨_, rfl⟩
        rw [← hX9]
        have hbX9 : Below (X6).heap.size (X6) X9 := by rw [hX9]; exact (Below.refl _ _).alloc (Nat.le_refl _) _
        have HBoxX9 : Hid (Row X9 (X6).heap.size 31 #[.slice none 0 0, .slice none 0 0, .slice none 0 0]) := by rw [hX9]; exact Row.new _ _ _
        clear hX9
        have HAccX9 := Lib.hid (HAccX6.out.under hbX9 HAccX6.out.lt)
        have HBX9 : Hid (Below w2.heap.size w2 X9) := HBX6.out.trans (hbX9.mono HBX6.out.size)
        clear hbX9
        refine hK.out _ _ ?_ (fun hHeld => ?_)
        · exact HKS.out _ HBX9.out
        clear hK K
        try simp only [Act.put, List.setIfInBounds_toArray, List.set_cons_zero, List.set_cons_succ]
        refine wpAnyH_ready (rs := [3]) (by kernel_rfl) (by simp) (AllReadyH.cons (o := { dst := some 45, op := Go.Op.call { callee := Go.Callee.value (Go.Operand.func 31), args := #[Go.Operand.tmp 44], argTypes := #[9] }, type := 22, pos := "l7_automaton.go:91", after := #[{ on := 2, ground := Go.Ground.data }], guard := none }) rfl (fun K hK => ?_) AllReadyH.nil)
        · go_simp
          refine (HCl.out _).mono ?_
          rintro e' X10 ⟨zs1, g1, cap1, cs1, rfl, hnum1, hg1, hr1, hc1, hbX10⟩
          have hgi1 : w2.heap.size ≤ g1 := Nat.le_trans HBX9.out.size hg1
          have HIniX10 : Hid (NumsOf q1 zs1 ∧ Row X10 g1 3 cs1 ∧ ∀ (i : Nat) (z : Int), zs1[i]? = some z → cs1[i]? = some (Value.int .i64 z)) := ⟨hnum1, hr1, hc1⟩
          clear hnum1 hg1 hr1 hc1
          try go_wp2_with fail
          have HBoxX10 := Lib.hid (HBoxX9.out.under hbX10 HBoxX9.out.lt)
          have HAccX10 := Lib.hid (HAccX9.out.under hbX10 HAccX9.out.lt)
          have HBX10 : Hid (Below w2.heap.size w2 X10) := HBX9.out.trans (hbX10.mono HBX9.out.size)
          clear hbX10
          refine hK.out _ _ ?_ (fun hHeld => ?_)
          · exact HKS.out _ HBX10.out
          clear hK K
          try simp only [Act.put, List.setIfInBounds_toArray, List.set_cons_zero, List.set_cons_succ]
          refine wpAnyH_take (i := 8) (oi := { dst := some 50, op := Go.Op.build 31 #[(0, Go.Operand.tmp 45), (1, Go.Operand.tmp 49)], type := 31, pos := "l7_automaton.go:91", after := #[{ on := 3, ground := Go.Ground.data }, { on := 7, ground := Go.Ground.data }], guard := none }) (v := ?_) rfl (by kernel_rfl) (by kernel_rfl) (by kernel_rfl) (fun _ _ _ h => h) (Or.inl ⟨by rfl, ?_⟩) (by assumption) ?_
          rotate_left
          · intro w hSw
            try dsimp only at hSw
            go_simp
            all_goals (with_reducible rfl)
          try simp only [Act.put, List.setIfInBounds_toArray, List.set_cons_zero, List.set_cons_succ]
          refine ⟨by kernel_rfl, ?_⟩
          obtain ⟨x0, x1, x2⟩ := HBoxX10.out.three
          have u0 := HBoxX10.out.frozen 0
          have u1 := HBoxX10.out.frozen 1
          have u2 := HBoxX10.out.frozen 2
          refine then_last (o := { dst := none, op := Go.Op.store 31 (Go.Operand.tmp 6) (Go.Operand.tmp 50), type := 0, pos := "l7_automaton.go:91", after := #[{ on := 9, ground := Go.Ground.data }, { on := 8, ground := Go.Ground.data }, { on := 3, ground := Go.Ground.chain }, { on := 0, ground := Go.Ground.phase }, { on := 1, ground := Go.Ground.phase }, { on := 2, ground := Go.Ground.phase }, { on := 3, ground := Go.Ground.phase }, { on := 4, ground := Go.Ground.phase }, { on := 5, ground := Go.Ground.phase }, { on := 6, ground := Go.Ground.phase }, { on := 7, ground := Go.Ground.phase }, { on := 8, ground := Go.Ground.phase }, { on := 9, ground := Go.Ground.phase }], guard := none }) rfl (fun K hK => ?_)
          go_simp
          refine hK.out _ _ ?_
          clear hK K
          go_wp2_with fail
          go_meet
          exact MidK.out _ _ _ _ _ _ _ HBoxX10.out HAccX10.out HIniX10.out HBX10.out (HBX6.out.size) (HBX0.out.size) hgi1
    · go_simp
      obtain ⟨X11, hX11⟩ : ∃ Y, Y = (X0).alloc (.cells #[.slice none 0 0, .slice none 0 0, .slice none 0 0] 31) := ⟨_, rfl⟩
      rw [← hX11]
      have hbX11 : Below (X0).heap.size (X0) X11 := by rw [hX11]; exact (Below.refl _ _).alloc (Nat.le_refl _) _
      have HBoxX11 : Hid (Row X11 (X0).heap.size 31 #[.slice none 0 0, .slice none 0 0, .slice none 0 0]) := by rw [hX11]; exact Row.new _ _ _
      clear hX11
      have HBX11 : Hid (Below w2.heap.size w2 X11) := HBX0.out.trans (hbX11.mono HBX0.out.size)
      clear hbX11
      refine hK.out _ _ ?_ (fun hHeld => ?_)
      · exact HKS.out _ HBX11.out
      clear hK K
      try simp only [Act.put, List.setIfInBounds_toArray, List.set_cons_zero, List.set_cons_succ]
      refine wpAnyH_ready (rs := [3, 7]) (by kernel_rfl) (by simp) (AllReadyH.cons (o := { dst := some 45, op := Go.Op.call { callee := Go.Callee.value (Go.Operand.func 31), args := #[Go.Operand.tmp 44], argTypes := #[9] }, type := 22, pos := "l7_automaton.go:91", after := #[{ on := 2, ground := Go.Ground.data }], guard := none }) rfl (fun K hK => ?_) (AllReadyH.cons (o := { dst := some 49, op := Go.Op.makeSlice 23 (Go.Operand.tmp 48) (Go.Operand.tmp 48), type := 23, pos := "l7_automaton.go:91", after := #[{ on := 6, ground := Go.Ground.data }, { on := 6, ground := Go.Ground.data }], guard := none }) rfl (fun K hK => ?_) AllReadyH.nil))
      · go_simp
        refine (HCl.out _).mono ?_
        rintro e' X12 ⟨zs1, g1, cap1, cs1, rfl, hnum1, hg1, hr1, hc1, hbX12⟩
        have hgi1 : w2.heap.size ≤ g1 := Nat.le_trans HBX11.out.size hg1
        have HIniX12 : Hid (NumsOf q1 zs1 ∧ Row X12 g1 3 cs1 ∧ ∀ (i : Nat) (z : Int), zs1[i]? = some z → cs1[i]? = some (Value.int .i64 z)) := ⟨hnum1, hr1, hc1⟩
        clear hnum1 hg1 hr1 hc1
        try go_wp2_with fail
        have HBoxX12 := Lib.hid (HBoxX11.out.under hbX12 HBoxX11.out.lt)
        have HBX12 : Hid (Below w2.heap.size w2 X12) := HBX11.out.trans (hbX12.mono HBX11.out.size)
        clear hbX12
        refine hK.out _ _ ?_ (fun hHeld => ?_)
        · exact HKS.out _ HBX12.out
        clear hK K
        try simp only [Act.put, List.setIfInBounds_toArray, List.set_cons_zero, List.set_cons_succ]
        refine wpAnyH_ready (rs := [7]) (by kernel_rfl) (by simp) (AllReadyH.cons (o := { dst := some 49, op := Go.Op.makeSlice 23 (Go.Operand.tmp 48) (Go.Operand.tmp 48), type := 23, pos := "l7_automaton.go:91", after := #[{ on := 6, ground := Go.Ground.data }, { on := 6, ground := Go.Ground.data }], guard := none }) rfl (fun K hK => ?_) AllReadyH.nil)
        · go_simp
          obtain ⟨X13, hX13⟩ : ∃ Y, Y = (X12).alloc (.cells csb 4) := ⟨_, rfl⟩
          rw [← hX13]
          have hbX13 : Below (X12).heap.size (X12) X13 := by rw [hX13]; exact (Below.refl _ _).alloc (Nat.le_refl _) _
          have HAccX13 : Hid (Row X13 (X12).heap.size 4 csb) := by rw [hX13]; exact Row.new _ _ _
          clear hX13
          have HBoxX13 := Lib.hid (HBoxX12.out.under hbX13 HBoxX12.out.lt)
          have HIniX13 : Hid (NumsOf q1 zs1 ∧ Row X13 g1 3 cs1 ∧ ∀ (i : Nat) (z : Int), zs1[i]? = some z → cs1[i]? = some (Value.int .i64 z)) := ⟨HIniX12.out.1, HIniX12.out.2.1.under hbX13 HIniX12.out.2.1.lt, HIniX12.out.2.2⟩
          have HBX13 : Hid (Below w2.heap.size w2 X13) := HBX12.out.trans (hbX13.mono HBX12.out.size)
          clear hbX13
          refine hK.out _ _ ?_ (fun hHeld => ?_)
          · exact HKS.out _ HBX13.out
          clear hK K
          try simp only [Act.put, List.setIfInBounds_toArray, List.set_cons_zero, List.set_cons_succ]
          refine wpAnyH_take (i := 8) (oi := { dst := some 50, op := Go.Op.build 31 #[(0, Go.Operand.tmp 45), (1, Go.Operand.tmp 49)], type := 31, pos := "l7_automaton.go:91", after := #[{ on := 3, ground := Go.Ground.data }, { on := 7, ground := Go.Ground.data }], guard := none }) (v := ?_) rfl (by kernel_rfl) (by kernel_rfl) (by kernel_rfl) (fun _ _ _ h => h) (Or.inl ⟨by rfl, ?_⟩) (by assumption) ?_
          rotate_left
          · intro w hSw
            try dsimp only at hSw
            go_simp
            all_goals (with_reducible rfl)
          try simp only [Act.put, List.setIfInBounds_toArray, List.set_cons_zero, List.set_cons_succ]
          refine ⟨by kernel_rfl, ?_⟩
          obtain ⟨x0, x1, x2⟩ := HBoxX13.out.three
          have u0 := HBoxX13.out.frozen 0
          have u1 := HBoxX13.out.frozen 1
          have u2 := HBoxX13.out.frozen 2
          refine then_last (o := { dst := none, op := Go.Op.store 31 (Go.Operand.tmp 6) (Go.Operand.tmp 50), type := 0, pos := "l7_automaton.go:91", after := #[{ on := 9, ground := Go.Ground.data }, { on := 8, ground := Go.Ground.data }, { on := 3, ground := Go.Ground.chain }, { on := 0, ground := Go.Ground.phase }, { on := 1, ground := Go.Ground.phase }, { on := 2, ground := Go.Ground.phase }, { on := 3, ground := Go.Ground.phase }, { on := 4, ground := Go.Ground.phase }, { on := 5, ground := Go.Ground.phase }, { on := 6, ground := Go.Ground.phase }, { on := 7, ground := Go.Ground.phase }, { on := 8, ground := Go.Ground.phase }, { on := 9, ground := Go.Ground.phase }], guard := none }) rfl (fun K hK => ?_)
          go_simp
          refine hK.out _ _ ?_
          clear hK K
          go_wp2_with fail
          go_meet
          exact MidK.out _ _ _ _ _ _ _ HBoxX13.out HAccX13.out HIniX13.out HBX13.out (HBX0.out.size) (HBX12.out.size) hgi1
      · go_simp
        obtain ⟨X14, hX14⟩ : ∃ Y, Y = (X11).alloc (.cells csb 4) := ⟨_, rfl⟩
        rw [← hX14]
        have hbX14 : Below (X11).heap.size (X11) X14 := by rw [hX14]; exact (Below.refl _ _).alloc (Nat.le_refl _) _
        have HAccX14 : Hid (Row X14 (X11).heap.size 4 csb) := by rw [hX14]; exact Row.new _ _ _
        clear hX14
        have HBoxX14 := Lib.hid (HBoxX11.out.under hbX14 HBoxX11.out.lt)
        have HBX14 : Hid (Below w2.heap.size w2 X14) := HBX11.out.trans (hbX14.mono HBX11.out.size)
        clear hbX14
        refine hK.out _ _ ?_ (fun hHeld => ?_)
        · exact HKS.out _ HBX14.out
        clear hK K
        try simp only [Act.put, List.setIfInBounds_toArray, List.set_cons_zero, List.set_cons_succ]
        refine wpAnyH_ready (rs := [3]) (by kernel_rfl) (by simp) (AllReadyH.cons (o := { dst := some 45, op := Go.Op.call { callee := Go.Callee.value (Go.Operand.func 31), args := #[Go.Operand.tmp 44], argTypes := #[9] }, type := 22, pos := "l7_automaton.go:91", after := #[{ on := 2, ground := Go.Ground.data }], guard := none }) rfl (fun K hK => ?_) AllReadyH.nil)
        · go_simp
          refine (HCl.out _).mono ?_
          rintro e' X15 ⟨zs1, g1, cap1, cs1, rfl, hnum1, hg1, hr1, hc1, hbX15⟩
          have hgi1 : w2.heap.size ≤ g1 := Nat.le_trans HBX14.out.size hg1
          have HIniX15 : Hid (NumsOf q1 zs1 ∧ Row X15 g1 3 cs1 ∧ ∀ (i : Nat) (z : Int), zs1[i]? = some z → cs1[i]? = some (Value.int .i64 z)) := ⟨hnum1, hr1, hc1⟩
          clear hnum1 hg1 hr1 hc1
          try go_wp2_with fail
          have HBoxX15 := Lib.hid (HBoxX14.out.under hbX15 HBoxX14.out.lt)
          have HAccX15 := Lib.hid (HAccX14.out.under hbX15 HAccX14.out.lt)
          have HBX15 : Hid (Below w2.heap.size w2 X15) := HBX14.out.trans (hbX15.mono HBX14.out.size)
          clear hbX15
          refine hK.out _ _ ?_ (fun hHeld => ?_)
          · exact HKS.out _ HBX15.out
          clear hK K
          try simp only [Act.put, List.setIfInBounds_toArray, List.set_cons_zero, List.set_cons_succ]
          refine wpAnyH_take (i := 8) (oi := { dst := some 50, op := Go.Op.build 31 #[(0, Go.Operand.tmp 45), (1, Go.Operand.tmp 49)], type := 31, pos := "l7_automaton.go:91", after := #[{ on := 3, ground := Go.Ground.data }, { on := 7, ground := Go.Ground.data }], guard := none }) (v := ?_) rfl (by kernel_rfl) (by kernel_rfl) (by kernel_rfl) (fun _ _ _ h => h) (Or.inl ⟨by rfl, ?_⟩) (by assumption) ?_
          rotate_left
          · intro w hSw
            try dsimp only at hSw
            go_simp
            all_goals (with_reducible rfl)
          try simp only [Act.put, List.setIfInBounds_toArray, List.set_cons_zero, List.set_cons_succ]
          refine ⟨by kernel_rfl, ?_⟩
          obtain ⟨x0, x1, x2⟩ := HBoxX15.out.three
          have u0 := HBoxX15.out.frozen 0
          have u1 := HBoxX15.out.frozen 1
          have u2 := HBoxX15.out.frozen 2
          refine then_last (o := { dst := none, op := Go.Op.store 31 (Go.Operand.tmp 6) (Go.Operand.tmp 50), type := 0, pos := "l7_automaton.go:91", after := #[{ on := 9, ground := Go.Ground.data }, { on := 8, ground := Go.Ground.data }, { on := 3, ground := Go.Ground.chain }, { on := 0, ground := Go.Ground.phase }, { on := 1, ground := Go.Ground.phase }, { on := 2, ground := Go.Ground.phase }, { on := 3, ground := Go.Ground.phase }, { on := 4, ground := Go.Ground.phase }, { on := 5, ground := Go.Ground.phase }, { on := 6, ground := Go.Ground.phase }, { on := 7, ground := Go.Ground.phase }, { on := 8, ground := Go.Ground.phase }, { on := 9, ground := Go.Ground.phase }], guard := none }) rfl (fun K hK => ?_)
          go_simp
          refine hK.out _ _ ?_
          clear hK K
          go_wp2_with fail
          go_meet
          exact MidK.out _ _ _ _ _ _ _ HBoxX15.out HAccX15.out HIniX15.out HBX15.out (HBX0.out.size) (HBX11.out.size) hgi1
  case rest =>
    obtain ⟨ab, ga, g1, cap1, zs1, cs1, rfl, HM⟩ := hcut
    rename World => w3
    clear hcz hmk HCl HBD0 HKS
    have HMb := Lib.hid HM.out.1
    have HMa := Lib.hid HM.out.2.1
    have HMi := Lib.hid HM.out.2.2.1
    have HB3 := Lib.hid (HB2.out.trans (HM.out.2.2.2.1.mono HB2.out.size))
    have HLe := Lib.hid HM.out.2.2.2.2
    have hb23 := HM.out.2.2.2.1
    have HRp3 := Lib.hid (HRp2.out.under hb23 HRp2.out.lt)
    have HRow3 := Lib.hid (HRow2.out.under hb23 HRow2.out.lt)
    have HR03 := Lib.hid (HR0.out.under hb23 HR0.out.lt)
    have HSz : Hid (W0.heap.size ≤ w2.heap.size ∧ w2.heap.size ≤ w3.heap.size) := ⟨HB2.out.size, hb23.size⟩
    have hc2 : w3.cell? ⟨gp, 2, none⟩ = some (.string q2) := by rw [HRow3.out.cell]; exact HCs.out 2 q2 HQ2.out
    have hqs2 := HPs.out 2 q2 HQ2.out
    clear HM hb23 HRp2 HRow2 HR0 HB2
    go_wp2_with fail
    refine (l7n_any q2 w3 hqs2).mono ?_
    rintro e' w4 ⟨zs2, g2, cap2, cs2, rfl, hn2', hg2, hr2, hk2, hb4⟩
    have HN2 := Lib.hid hn2'
    have HR2 := Lib.hid hr2
    have HK2 := Lib.hid hk2
    have HG2 : Hid (w3.heap.size ≤ g2) := hg2
    have HB4 := Lib.hid (HB3.out.trans (hb4.mono HB3.out.size))
    have HRp4 := Lib.hid (HRp3.out.under hb4 HRp3.out.lt)
    have HRow4 := Lib.hid (HRow3.out.under hb4 HRow3.out.lt)
    have HR04 := Lib.hid (HR03.out.under hb4 HR03.out.lt)
    have HMb4 := Lib.hid (HMb.out.under hb4 HMb.out.lt)
    have HMa4 := Lib.hid (HMa.out.under hb4 HMa.out.lt)
    have HMi4 : Hid (Row w4 g1 3 cs1) := HMi.out.2.1.under hb4 HMi.out.2.1.lt
    have HSz4 : Hid (w3.heap.size ≤ w4.heap.size) := hb4.size
    have hz2l : zs2.length ≤ 64 := by have := hn2'.1; omega
    have HNe : Hid (ga ≠ ab ∧ ga ≠ gp ∧ ga ≠ g0 ∧ ga ≠ g1 ∧ ga ≠ g2 ∧ ga ≠ w.heap.size) := ⟨fun e => by subst e; exact absurd (HMa4.out.ty HMb4.out) (by decide), fun e => by subst e; exact absurd (HMa4.out.ty HRow4.out) (by decide), fun e => by subst e; exact absurd (HMa4.out.ty HR04.out) (by decide), fun e => by subst e; exact absurd (HMa4.out.ty HMi4.out) (by decide), fun e => by subst e; exact absurd (HMa4.out.ty hr2) (by decide), fun e => by have h1 := HLe.out; have h2 := HSz.out; have h3 := HZ0.out; omega⟩
    clear hn2' hg2 hr2 hk2 hb4 hc2 HRp3 HRow3 HR03 HMb HMa
    go_wp2_with fail
    go_loopw [8] (fun i wl => ∃ j : Nat, j ≤ zs2.length ∧ i = .int .i64 j ∧ Hid (∃ ds : Array Value, Row wl ga 4 ds ∧ ds.size = n ∧ ∀ q, q < n → ds[q]? = some (.bool (decide ((q : Int) ∈ zs2.take j)))) ∧ Hid (Bt ga w4 wl)) (fun i _ => zs2.length - (intOf i).toNat)
    case atStart => exact ⟨0, Nat.zero_le _, rfl, ⟨csb, HMa4.out, HCZ.out, fun q hq => by rw [HCG.out q hq]; simp⟩, Bt.of_below (Below.refl _ _)⟩
    case round =>
      obtain ⟨j, hj, rfl, HL, HBt⟩ := hrel
      by_cases hlt : j < zs2.length
      · obtain ⟨x, hx⟩ : ∃ x, zs2[j]? = some x := ⟨_, List.getElem?_eq_getElem hlt⟩
        have hltI : (j : Int) < (zs2.length : Int) := by omega
        have c0 : wr.cell? ⟨g2, j, none⟩ = some (.int .i64 x) := by
          rw [(HBt.out.row HR2.out (fun e => HNe.out.2.2.2.2.1 e.symm)).cell]
          exact HK2.out j x hx
        have c1 : wr.cell? ⟨g0, 0, none⟩ = some (.int .i64 n) := by
          rw [(HBt.out.row HR04.out (fun e => HNe.out.2.2.1 e.symm)).cell]
          exact HK0.out 0 _ rfl
        obtain ⟨b0, b1, b2⟩ := (HBt.out.row HMb4.out (fun e => HNe.out.1 e.symm)).three
        have hz1n : (0 : Int) < 1 := by decide
        by_cases hx0 : 0 ≤ x
        · by_cases hxn : x < n
          · obtain ⟨k, rfl⟩ := Int.eq_ofNat_of_zero_le hx0
            have hkn : k < n := by omega
            obtain ⟨ds, hd1, hd2, hd3⟩ := HL.out
            obtain ⟨u0, c2⟩ : ∃ u0, wr.cell? ⟨ga, k, none⟩ = some u0 := ⟨ds[k], by rw [hd1.cell]; exact Array.getElem?_eq_getElem _⟩
            have f1 := hd1.frozen k
            have HL2 : Hid (∀ d, ∃ ds : Array Value, Row ((wr.drewN d).setCell ⟨ga, k, none⟩ (.bool true)) ga 4 ds ∧ ds.size = n ∧ ∀ q, q < n → ds[q]? = some (.bool (decide ((q : Int) ∈ zs2.take (j + 1))))) := by
              refine fun d => ⟨ds.setIfInBounds k (.bool true), Row.set_ (w := wr.drewN d) hd1 _ _, by simpa using hd2, fun q hq => ?_⟩
              rw [take_succ_eq hx, Array.getElem?_setIfInBounds]
              by_cases e : k = q
              · subst e
                rw [if_pos rfl, if_pos (by omega), decide_eq_true (by simp)]
              · rw [if_neg e, hd3 q hq]
                congr 2
                rw [decide_eq_decide, List.mem_append, List.mem_singleton]
                constructor
                · exact .inl
                · rintro (h | h)
                  · exact h
                  · omega
            have HBt2 : Hid (∀ d, Bt ga w4 ((wr.drewN d).setCell ⟨ga, k, none⟩ (.bool true))) := fun d => (HBt.out.drewN d).set_ k _
            have HKp : Hid (∀ d, ((wr.drewN d).setCell ⟨ga, k, none⟩ (.bool true)).cell? ⟨ab, 1, none⟩ = some (.slice (some ⟨ga, 0, none⟩) n n) ∧ ((wr.drewN d).setCell ⟨ga, k, none⟩ (.bool true)).cell? ⟨g2, j, none⟩ = some (.int .i64 k)) := fun d => ⟨(World.cell?_of_block (a := ⟨ab, 1, none⟩) (Below.heap_setCell _ _ _ _ (fun e => HNe.out.1 e.symm))).trans b1, (World.cell?_of_block (a := ⟨g2, j, none⟩) (Below.heap_setCell _ _ _ _ (fun e => HNe.out.2.2.2.2.1 e.symm))).trans c0⟩
            clear hd1 hd2 hd3 hx HL HBt
            go_wp2_with fail
            go_quiet (fail)
            go_wp2_with fail
            go_region_held3 (fun w' => w'.cell? ⟨ab, 1, none⟩ = some (.slice (some ⟨ga, 0, none⟩) n n) ∧ w'.cell? ⟨g2, j, none⟩ = some (.int .i64 k)) (first | (go_keep; done) | with_reducible exact HKp.out _) (first | fail)
            all_goals (try go_wp2)
            all_goals exact ⟨⟨j + 1, by omega, by go_num, HL2.out _, HBt2.out _⟩, by simp [intOf]; omega⟩
          · have HL2 : Hid (∀ d, ∃ ds : Array Value, Row (wr.drewN d) ga 4 ds ∧ ds.size = n ∧ ∀ q, q < n → ds[q]? = some (.bool (decide ((q : Int) ∈ zs2.take (j + 1))))) := by
              obtain ⟨ds, hd1, hd2, hd3⟩ := HL.out
              refine fun d => ⟨ds, hd1, hd2, fun q hq => ?_⟩
              rw [take_succ_eq hx, hd3 q hq]
              congr 2
              rw [decide_eq_decide, List.mem_append, List.mem_singleton]
              constructor
              · exact .inl
              · rintro (h | h)
                · exact h
                · omega
            have HBt2 : Hid (∀ d, Bt ga w4 (wr.drewN d)) := fun d => HBt.out.drewN d
            clear hx HL HBt
            go_wp2_with fail
            go_quiet (fail)
            go_wp2_with fail
            go_roundw
            case rel => exact ⟨j + 1, by omega, by go_num, HL2.out _, HBt2.out _⟩
            case measure => simp [intOf]; omega
        · have HL2 : Hid (∀ d, ∃ ds : Array Value, Row (wr.drewN d) ga 4 ds ∧ ds.size = n ∧ ∀ q, q < n → ds[q]? = some (.bool (decide ((q : Int) ∈ zs2.take (j + 1))))) := by
            obtain ⟨ds, hd1, hd2, hd3⟩ := HL.out
            refine fun d => ⟨ds, hd1, hd2, fun q hq => ?_⟩
            rw [take_succ_eq hx, hd3 q hq]
            congr 2
            rw [decide_eq_decide, List.mem_append, List.mem_singleton]
            constructor
            · exact .inl
            · rintro (h | h)
              · exact h
              · omega
          have HBt2 : Hid (∀ d, Bt ga w4 (wr.drewN d)) := fun d => HBt.out.drewN d
          have hx0B : decide ((0 : Int) ≤ x) = false := decide_eq_false hx0
          clear hx HL HBt
          go_wp2_with fail
          go_quiet (fail)
          go_wp2_with fail
          go_roundw
          case rel => exact ⟨j + 1, by omega, by go_num, HL2.out _, HBt2.out _⟩
          case measure => simp [intOf]; omega
      · have hjj : j = zs2.length := by omega
        subst hjj
        obtain ⟨w5, hw5⟩ : ∃ x, x = wr := ⟨_, rfl⟩
        subst hw5
        have HMb5 := Lib.hid (HBt.out.row HMb4.out (fun e => HNe.out.1 e.symm))
        have HRow5 := Lib.hid (HBt.out.row HRow4.out (fun e => HNe.out.2.1 e.symm))
        have HMi5 := Lib.hid (HBt.out.row HMi4.out (fun e => HNe.out.2.2.2.1 e.symm))
        have HRp5 := Lib.hid (HBt.out.row HRp4.out (fun e => HNe.out.2.2.2.2.2 e.symm))
        have HMa5 : Hid (∃ ds : Array Value, Row w5 ga 4 ds ∧ ∀ (i : Nat) (b : Bool), (marksB n zs2)[i]? = some b → ds[i]? = some (.bool b)) := by
          obtain ⟨ds, k1, k2, k3⟩ := HL.out
          refine ⟨ds, k1, fun i b hb => ?_⟩
          have hi := (List.getElem?_eq_some_iff.1 hb).1
          rw [marksB_len] at hi
          rw [marksB_get hi] at hb
          rw [k3 i hi, List.take_length]
          injection hb with hb
          rw [hb]
        have HB5 : Hid (Below W0.heap.size W0 w5) := HB4.out.trans (HBt.out.below (by have h1 := HLe.out; have h2 := HSz.out; omega) HB4.out.size)
        have HAb : Hid (ab < w5.heap.size ∧ gp < w5.heap.size ∧ g1 < w5.heap.size ∧ ga < w5.heap.size ∧ w.heap.size < w5.heap.size ∧ ab ≠ gp ∧ ab ≠ g1 ∧ ab ≠ ga ∧ ab ≠ w.heap.size) := by
          obtain ⟨ds, k1, _⟩ := HMa5.out
          exact ⟨HMb5.out.lt, HRow5.out.lt, HMi5.out.lt, k1.lt, HRp5.out.lt, fun e => by subst e; exact absurd (HMb5.out.ty HRow5.out) (by decide), fun e => by subst e; exact absurd (HMb5.out.ty HMi5.out) (by decide), fun e => HNe.out.1 e.symm, fun e => by have h1 := HLe.out; have h2 := HSz.out; have h3 := HZ0.out; omega⟩
        have HX0 : Hid (SpX ab t #[.slice (some ⟨g1, 0, none⟩) zs1.length cap1, .slice (some ⟨ga, 0, none⟩) n n] w5 w5 [] (.slice none 0 0)) := ⟨Bt.of_below (Below.refl _ _), HMb5.out, World.ownsRow_nil _ _ _ _, ⟨none, 0, rfl⟩, (fun e he => by cases he), fun a _ => rfl⟩
        clear HL HBt HMb4 HRow4 HMi4 HRp4 HMa4 HB4 hj hlt HR2 HK2 HR04 HK0 HSz4 HG2 HCG HCZ HG0
        go_wp2_with fail
        go_loopw [9] (fun i wl => ∃ (k : Nat) (es : List Tr) (v : Value), k = es.length + 3 ∧ k + 1 ≤ done.length ∧ i = .int .i64 k ∧ Hid (SpX ab t #[.slice (some ⟨g1, 0, none⟩) zs1.length cap1, .slice (some ⟨ga, 0, none⟩) n n] w5 wl es v)) (fun i _ => 4096 - (intOf i).toNat)
        case atStart => exact ⟨3, [], .slice none 0 0, rfl, by omega, rfl, HX0⟩
        case round =>
          clear HX0
          obtain ⟨k, es, v, hk, hkd, rfl, HX⟩ := hrel
          have HK := Lib.hid hk
          have hes : es.length ≤ 1048576 := by omega
          have hk20 : k ≤ 4000 := by omega
          clear hk
          by_cases hlt : k + 1 < done.length
          case neg =>
            have hltI : ¬ ((k : Int) + 1 < (done.length : Int)) := by omega
            have hkk : es.length + 4 = done.length := by have := HK.out; omega
            obtain ⟨b0, b1, b2⟩ := HX.out.box.three
            obtain ⟨A, c, hv⟩ := HX.out.form
            subst hv
            obtain ⟨dsb, ka, kb⟩ := HMa5.out
            have HRg1 : Hid (Row wr g1 3 cs1) := HX.out.fr.row HMi5.out (fun e => HAb.out.2.2.2.2.2.2.1 e.symm)
            have HRga : Hid (Row wr ga 4 dsb) := HX.out.fr.row ka (fun e => HAb.out.2.2.2.2.2.2.2.1 e.symm)
            have HKb := Lib.hid kb
            have hz1l : zs1.length ≤ 1048576 := by have := HMi.out.1.1; omega
            have hmn : (marksB n zs2).length = n := marksB_len _ _
            obtain ⟨T, hT⟩ : ∃ T : Au, T = ⟨zs1, marksB n zs2, es⟩ := ⟨_, rfl⟩
            have hLy := au_rows (ci := cap1) HRg1.out HMi.out.2.2 HRga.out HKb.out hmn HX.out.own HX.out.rng hz1l (by rw [hmn]; omega) hes
            have HFa := Lib.hid (specFa_any ⟨zs1, marksB n zs2, es⟩ _ wr hLy (by rw [au_sz]; dsimp only; rw [hmn]; have := HMi.out.1.1; omega))
            obtain ⟨F, hF⟩ : ∃ F, F = fmtAu T := ⟨_, rfl⟩
            have HT := Lib.hid hT
            have HF := Lib.hid hF
            have HKK := Lib.hid hkk
            have HMN := Lib.hid hmn
            have HL1 := Lib.hid hz1l
            have HBr : Hid (Below W0.heap.size W0 wr) := HB5.out.trans (HX.out.fr.below (by have h1 := HLe.out; have h2 := HSz.out; omega) HB5.out.size)
            have HRpr : Hid (Row wr w.heap.size 31 #[.slice none 0 0, .slice none 0 0, .slice none 0 0]) := HX.out.fr.row HRp5.out (fun e => HAb.out.2.2.2.2.2.2.2.2 e.symm)
            clear ka kb hLy hT hF hkk hmn hz1l hkd hlt
            go_wp2_with fail
            refine HFa.out.mono ?_
            rintro e' w7 ⟨rfl, hb7⟩
            rw [← HT.out, ← HF.out]
            have HB7 := Lib.hid hb7
            have HRp7 := Lib.hid (below_row6 hb7 HRpr.out)
            have HBx7 := Lib.hid (below_row6 hb7 HX.out.box)
            clear hb7 b0 b1 b2 HFa
            obtain ⟨p0, p1, p2⟩ := HRp7.out.three
            have y0 := HRp7.out.frozen 0
            have y1 := HRp7.out.frozen 1
            have y2 := HRp7.out.frozen 2
            by_cases hFt : F = t
            case neg =>
              have hne : (F.toList == t.toList) = false := by
                rw [beq_eq_false_iff_ne, Lib.toList_data, Lib.toList_data]
                exact fun h => hFt (ByteArray.ext (Array.toList_inj.1 h))
              have HN : Hid (NoAu t) := noAu_of fun a h => by
                have h1 := au_read h HDn.out HQ0.out HQ1.out HQ2.out HN0.out HMi.out.1 HN2.out (HX.out.all a h) HKK.out
                rw [← HT.out] at h1
                apply hFt
                rw [HF.out, h1]
                unfold fmtAu
                rw [if_pos h.1]
                exact h.2.2
              go_wp2_with fail
              refine bodyPost_ret (v := .tuple #[.agg #[.slice none 0 0, .slice none 0 0, .slice none 0 0], .bool false]) (by simp [results, Tryd.results10, go_sem, p0, p1, p2]) rfl ?_
              exact HNo.out _ _ (HBr.out.trans (HB7.out.mono HBr.out.size)) ((((Tw.refl _ _ _).sa _ _).sa _ _).sa _ _) HN.out
            have heq : (F.toList == t.toList) = true := by rw [hFt]; simp
            have HIs : Hid (IsAu t T) := by
              have hF := HF.out
              rw [hFt] at hF
              unfold fmtAu at hF
              by_cases ho : auOk T = true
              · rw [if_pos ho] at hF
                exact ⟨ho, by rw [HT.out]; exact HX.out.rng, hF.symm⟩
              · rw [if_neg ho] at hF
                exact absurd hF (text_ne HDn.out (by have := HKK.out; omega))
            have KEY : Hid (∀ W, Tw w.heap.size w.heap.size w7 W → SpPost t w (.returned (.tuple #[.agg #[.slice (some ⟨g1, 0, none⟩) zs1.length cap1, .slice (some ⟨ga, 0, none⟩) n n, .slice A es.length c], .bool true])) W) := fun W hT => by
              have h1 := HLe.out
              have h2 := HSz.out
              have h3 := HZ0.out
              have hkp : ∀ q, q < wr.heap.size → q ≠ w.heap.size → W.heap[q]? = wr.heap[q]? := fun q q1 q2 => (hT.other q q2 q2).trans (HB7.out.block q q1)
              refine ⟨.inl ⟨T, _, _, _, HIs.out, rfl, ?_⟩, ?_⟩
              · rw [HT.out]
                refine au_rows ((hkp g1 HRg1.out.lt (by omega)).trans HRg1.out) HMi.out.2.2 ((hkp ga HRga.out.lt (by omega)).trans HRga.out) HKb.out HMN.out (base := w5.heap.size) ?_ HX.out.rng HL1.out (by rw [HMN.out]; omega) hes
                have ho := HX.out.own
                refine ⟨ho.1, ?_⟩
                rcases ho.2 with j | ⟨q, cap, cur, j1, j2, j3, j4⟩
                · exact .inl j
                · have hr := (show Row wr q 45 cur from j3)
                  exact .inr ⟨q, cap, cur, j1, j2, (hkp q hr.lt (by have := HAb.out.2.2.2.2.1; omega)).trans hr, j4⟩
              · have hW := HBr.out.trans (HB7.out.mono HBr.out.size)
                have h1 : Below w.heap.size w w7 := HB0.out.trans (hW.mono HB0.out.size)
                exact ⟨hT.os.trans h1.os, hT.tape.trans h1.tape, hT.output.trans h1.output, by rw [hT.size]; exact h1.size, fun q q1 => (hT.other q (by omega) (by omega)).trans (h1.block q q1)⟩
            obtain ⟨b0, b1, b2⟩ := HBx7.out.three
            have hbw : w.heap.size ≠ ab := fun e => HAb.out.2.2.2.2.2.2.2.2 e.symm
            go_wp2_with fail
            refine bodyPost_ret (v := .tuple #[.agg #[.slice (some ⟨g1, 0, none⟩) zs1.length cap1, .slice (some ⟨ga, 0, none⟩) n n, .slice A es.length c], .bool true]) (by simp [results, Tryd.results10, go_sem, p0, p1, p2]) rfl ?_
            exact KEY.out _ ((((Tw.refl _ _ _).sa _ _).sa _ _).sa _ _)
          have hltI : (k : Int) + 1 < (done.length : Int) := by omega
          have hltJ : (k : Int) < (done.length : Int) := by omega
          obtain ⟨p, hp⟩ : ∃ p, done[k]? = some p := ⟨_, List.getElem?_eq_getElem (by omega)⟩
          have hps := HPs.out k p hp
          have hc : wr.cell? ⟨gp, k, none⟩ = some (.string p) := by
            rw [(HX.out.fr.row HRow5.out (fun e => HAb.out.2.2.2.2.2.1 e.symm)).cell]
            exact HCs.out k p hp
          have HP := Lib.hid hp
          clear hp
          go_wp2_with fail
          refine (l7n_any p wr hps).mono ?_
          rintro e' w6 ⟨zs, g, cap, cs, rfl, hnn, hgg, hrr, hkk, hb6⟩
          have HNn := Lib.hid hnn
          have HGg : Hid (wr.heap.size ≤ g) := hgg
          have HRr := Lib.hid hrr
          have HKk := Lib.hid hkk
          have HB6 := Lib.hid hb6
          have HBt6 : Hid (Bt ab w5 w6) := HX.out.fr.trans (Bt.of_below hb6)
          have HZw : Hid (w5.heap.size ≤ wr.heap.size) := HX.out.fr.size
          clear hnn hgg hrr hkk hb6 hc
          by_cases hl4 : zs.length = 4
          case neg =>
            have hl4B : ((zs.length : Int) == 4) = false := by rw [beq_eq_false_iff_ne]; omega
            have HN : Hid (NoAu t) := noAu_of fun a h => by
              obtain ⟨e, _, he⟩ := au_kE (i := es.length) h HDn.out (by rw [← HK.out]; exact HP.out) (by have := HK.out; omega) HNn.out
              rw [he] at hl4
              exact hl4 rfl
            obtain ⟨p0, p1, p2⟩ := (below_row6 HB6.out (HX.out.fr.row HRp5.out (fun e => HAb.out.2.2.2.2.2.2.2.2 e.symm))).three
            have y0 := (below_row6 HB6.out (HX.out.fr.row HRp5.out (fun e => HAb.out.2.2.2.2.2.2.2.2 e.symm))).frozen 0
            have y1 := (below_row6 HB6.out (HX.out.fr.row HRp5.out (fun e => HAb.out.2.2.2.2.2.2.2.2 e.symm))).frozen 1
            have y2 := (below_row6 HB6.out (HX.out.fr.row HRp5.out (fun e => HAb.out.2.2.2.2.2.2.2.2 e.symm))).frozen 2
            go_wp2_with fail
            refine bodyPost_ret (v := .tuple #[.agg #[.slice none 0 0, .slice none 0 0, .slice none 0 0], .bool false]) (by simp [results, Tryd.results10, go_sem, p0, p1, p2]) rfl ?_
            exact HNo.out _ _ ((HB5.out.trans ((HBt6.out.below (by have h1 := HLe.out; have h2 := HSz.out; omega) HB5.out.size)))) ((((Tw.refl _ _ _).sa _ _).sa _ _).sa _ _) HN.out
          have HBox6 : Hid (Row w6 ab 31 #[.slice (some ⟨g1, 0, none⟩) zs1.length cap1, .slice (some ⟨ga, 0, none⟩) n n, v]) := HX.out.box.under HB6.out HX.out.box.lt
          obtain ⟨fr, ca, va, tt, rfl⟩ : ∃ a b c d, zs = [a, b, c, d] := by
            match zs, hl4 with
            | [a, b, c, d], _ => exact ⟨a, b, c, d, rfl⟩
          clear hl4
          obtain ⟨A, c, hv⟩ := HX.out.form
          subst hv
          have hre : TrR ⟨fr, ca, va, tt⟩ := by
            obtain ⟨_, q⟩ := HNn.out
            have q0 := q 0 fr rfl
            have q1 := q 1 ca rfl
            have q2 := q 2 va rfl
            have q3 := q 3 tt rfl
            unfold NumOk at q0 q1 q2 q3
            unfold TrR Rg
            dsimp only
            exact ⟨by omega, by omega, by omega, by omega⟩
          obtain ⟨a0, a1, a2⟩ := HBox6.out.three
          have HOn : Hid (OwnT w6 w5.heap.size (.slice A es.length c) es) := by
            have ho := HX.out.own
            refine ⟨ho.1, ?_⟩
            rcases ho.2 with j | ⟨q, cap, cur, j1, j2, j3, j4⟩
            · exact .inl j
            · have hr := (show Row wr q 45 cur from j3)
              exact .inr ⟨q, cap, cur, j1, j2, hr.under HB6.out hr.lt, j4⟩
          have hcell : w6.cell? ⟨g, 0, none⟩ = some (.int .i64 fr) ∧ w6.cell? ⟨g, 1, none⟩ = some (.int .i64 ca) ∧ w6.cell? ⟨g, 2, none⟩ = some (.int .i64 va) ∧ w6.cell? ⟨g, 3, none⟩ = some (.int .i64 tt) :=
            ⟨by rw [HRr.out.cell]; exact HKk.out 0 _ rfl, by rw [HRr.out.cell]; exact HKk.out 1 _ rfl, by rw [HRr.out.cell]; exact HKk.out 2 _ rfl, by rw [HRr.out.cell]; exact HKk.out 3 _ rfl⟩
          obtain ⟨c0, c1, c2, c3⟩ := hcell
          have hw56 : w5.heap.size ≤ w6.heap.size := HBt6.out.size
          have hsz7 : (w6.alloc (.cells #[.int .i64 fr, .int .i64 ca, .int .i64 va, .int .i64 tt] 45)).heap.size = w6.heap.size + 1 := by simp
          have hrw7 : Row ((w6.alloc (.cells #[.int .i64 fr, .int .i64 ca, .int .i64 va, .int .i64 tt] 45)).drew) w6.heap.size 45 #[.int .i64 fr, .int .i64 ca, .int .i64 va, .int .i64 tt] := Row.new w6 _ _
          have hbs7 : w5.heap.size ≤ ((w6.alloc (.cells #[.int .i64 fr, .int .i64 ca, .int .i64 va, .int .i64 tt] 45)).drew).heap.size := by
            show w5.heap.size ≤ (w6.alloc (.cells #[.int .i64 fr, .int .i64 ca, .int .i64 va, .int .i64 tt] 45)).heap.size
            omega
          have how7 : OwnT ((w6.alloc (.cells #[.int .i64 fr, .int .i64 ca, .int .i64 va, .int .i64 tt] 45)).drew) w5.heap.size (.slice A es.length c) es := by
            have h1 := HOn.out
            refine ⟨h1.1, ?_⟩
            rcases h1.2 with j | ⟨q, cap, cur, j1, j2, j3, j4⟩
            · exact .inl j
            · have hr := (show Row w6 q 45 cur from j3)
              exact .inr ⟨q, cap, cur, j1, j2, hr.under (((Below.refl w6.heap.size w6).alloc (Nat.le_refl _) _).drew) hr.lt, j4⟩
          obtain ⟨v', w7, hap, how, hgr, A', n', c', rfl⟩ := run_appendT _ 29 w5.heap.size (.slice A es.length c) es ⟨fr, ca, va, tt⟩ w6.heap.size how7 hrw7 hbs7 hes
          clear hsz7 hrw7 hbs7 how7
          have hX6 : Below w6.heap.size w6 ((w6.alloc (.cells #[.int .i64 fr, .int .i64 ca, .int .i64 va, .int .i64 tt] 45)).drew) := ((Below.refl _ _).alloc (Nat.le_refl _) _).drew
          have hown : ∀ q, (Value.slice A es.length c).ownBlock = some q → w5.heap.size ≤ q ∧ q < w6.heap.size := fun q hq => (HOn.out.lt q hq)
          have hn' : n' = es.length + 1 := by
            rcases how.2 with ⟨k, _⟩ | ⟨q, cap, cur, k1, _⟩
            · have h1 := how.1
              injection k with k0 k1 k2
              rw [cellsT_len, List.length_append, List.length_singleton] at h1
              rename_i k3
              rw [List.length_append, List.length_singleton] at k3
              omega
            · injection k1 with k0 k1 k2
              rw [k1, List.length_append, List.length_singleton]
          subst hn'
          have hab5 : ab < w5.heap.size := HAb.out.1
          have hrow7 : ∀ q t cs, q < w5.heap.size → Row w6 q t cs → Row w7 q t cs := fun q t cs hq hr => (hgr.block q (by have := hX6.size; omega) (fun e => by have := (hown q e.symm).1; omega)).trans (hr.under hX6 hr.lt)
          have hbx7 := hrow7 ab _ _ hab5 HBox6.out
          have hS7 : w7.cell? ⟨g, 0, none⟩ = some (.int .i64 fr) ∧ w7.cell? ⟨g, 1, none⟩ = some (.int .i64 ca) ∧ w7.cell? ⟨g, 2, none⟩ = some (.int .i64 va) ∧ w7.cell? ⟨g, 3, none⟩ = some (.int .i64 tt) := by
            have hbg : w7.heap[g]? = w6.heap[g]? := (hgr.block g (by have := hX6.size; have := HRr.out.lt; omega) (fun e => by
              obtain ⟨cur, k4⟩ := HOn.out.row e.symm
              exact absurd (HRr.out.ty k4) (by decide))).trans (hX6.block g HRr.out.lt)
            have hc : ∀ i : Nat, w7.cell? ⟨g, i, none⟩ = w6.cell? ⟨g, i, none⟩ := fun i => World.cell?_of_block (a := ⟨g, i, none⟩) hbg
            exact ⟨(hc 0).trans c0, (hc 1).trans c1, (hc 2).trans c2, (hc 3).trans c3⟩
          have d2 : w7.cell? ⟨ab, 2, none⟩ = some (.slice A es.length c) := hbx7.cell 2
          have e2 := hbx7.frozen 2
          have hl7 : ab < w7.heap.size := hbx7.lt
          have HX7 : Hid (SpX ab t #[.slice (some ⟨g1, 0, none⟩) zs1.length cap1, .slice (some ⟨ga, 0, none⟩) n n] w5 (w7.setCell ⟨ab, 2, none⟩ (.slice A' (es.length + 1) c')) (es ++ [⟨fr, ca, va, tt⟩]) (.slice A' (es.length + 1) c')) := by
            have hB67 : Bt ab w5 w7 := by
              have h1 := HBt6.out.trans (Bt.of_below hX6)
              exact ⟨hgr.os.trans h1.os, hgr.tape.trans h1.tape, hgr.output.trans h1.output, Nat.le_trans h1.size hgr.size, fun q hq hn => (hgr.block q (Nat.lt_of_lt_of_le hq h1.size) (fun e => by have := (hown q e.symm).1; omega)).trans (h1.other q hq hn)⟩
            refine ⟨hB67.set_ 2 _, hbx7.set_ 2 _, ?_, ⟨A', c', by rw [List.length_append]; rfl⟩, ?_, ?_⟩
            · refine ⟨how.1, ?_⟩
              rcases how.2 with k | ⟨q, cap, cur, k1, k2, k3, k4⟩
              · exact .inl k
              · exact .inr ⟨q, cap, cur, k1, k2, (Below.heap_setCell _ _ _ _ (by show q ≠ ab; omega)).trans k3, k4⟩
            · intro x hx
              rw [List.mem_append, List.mem_singleton] at hx
              rcases hx with hx | rfl
              · exact HX.out.rng x hx
              · exact hre
            · intro a ha
              obtain ⟨e, he1, he2⟩ := au_kE (i := es.length) ha HDn.out (by rw [← HK.out]; exact HP.out) (by have := HK.out; omega) HNn.out
              have h1 := HX.out.all a ha
              have h2 : (⟨fr, ca, va, tt⟩ : Tr) = e := trNs_inj he2
              rw [List.length_append, List.length_singleton, List.take_add_one, he1, ← h1, h2]
              rfl
          clear HX how hgr hown hrow7 hbx7 HOn hX6 HRr HKk HGg HB6 HNn HP HBt6 HZw
          have hab6 : ab < w6.heap.size := by omega
          have HAP := Lib.hid hap
          clear hap
          go_upto_region 20 with fail
          have HS7 := Lib.hid (And.intro d2 hS7)
          have HA2 := Lib.hid a2
          have HC0 := Lib.hid (And.intro c0 (And.intro c1 (And.intro c2 c3)))
          have HKd := Lib.hid hkd
          have HLt := Lib.hid hlt
          clear hS7 hkd hw56 hes hre hps hltI hltJ hlt hab5
          refine wp_region_last (S := (fun w' => w'.cell? ⟨ab, 2, none⟩ = some (.slice A es.length c) ∧ w'.cell? ⟨g, 0, none⟩ = some (.int .i64 fr) ∧ w'.cell? ⟨g, 1, none⟩ = some (.int .i64 ca) ∧ w'.cell? ⟨g, 2, none⟩ = some (.int .i64 va) ∧ w'.cell? ⟨g, 3, none⟩ = some (.int .i64 tt))) 18 (by kernel_rfl) (by kernel_rfl) ?_ (fun hHeld => ?_)
          · exact ⟨HA2.out, HC0.out⟩
          refine wpAnyH_take (i := 0) (oi := { dst := some 99, op := Go.Op.fieldAddr 31 (Go.Operand.tmp 6) 2, type := 0, pos := "l7_automaton.go:103", after := #[], guard := none }) (v := ?_) rfl (by kernel_rfl) (by kernel_rfl) (by kernel_rfl) (fun _ _ _ h => h) (Or.inl ⟨by rfl, ?_⟩) (by assumption) ?_
          rotate_left
          · intro w hSw
            try dsimp only at hSw
            go_simp
            all_goals (with_reducible rfl)
          try simp only [Act.put, List.setIfInBounds_toArray, List.set_cons_zero, List.set_cons_succ]
          refine wpAnyH_take (i := 1) (oi := { dst := some 100, op := Go.Op.load 29 (Go.Operand.tmp 99), type := 29, pos := "l7_automaton.go:103", after := #[{ on := 0, ground := Go.Ground.data }], guard := none }) (v := ?_) rfl (by kernel_rfl) (by kernel_rfl) (by kernel_rfl) (fun _ _ _ h => h) (Or.inl ⟨by rfl, ?_⟩) (by assumption) ?_
          rotate_left
          · intro w hSw
            try dsimp only at hSw
            go_simp
            all_goals (with_reducible rfl)
          try simp only [Act.put, List.setIfInBounds_toArray, List.set_cons_zero, List.set_cons_succ]
          refine wpAnyH_take (i := 2) (oi := { dst := some 101, op := Go.Op.move (Go.Operand.tmp 10), type := 22, pos := "l7_automaton.go:103", after := #[], guard := none }) (v := ?_) rfl (by kernel_rfl) (by kernel_rfl) (by kernel_rfl) (fun _ _ _ h => h) (Or.inl ⟨by rfl, ?_⟩) (by assumption) ?_
          rotate_left
          · intro w hSw
            try dsimp only at hSw
            go_simp
            all_goals (with_reducible rfl)
          try simp only [Act.put, List.setIfInBounds_toArray, List.set_cons_zero, List.set_cons_succ]
          refine wpAnyH_take (i := 3) (oi := { dst := some 102, op := Go.Op.indexAddr 22 (Go.Operand.tmp 101) (Go.Operand.const (Go.Value.int Go.IntKind.i64 0)), type := 0, pos := "l7_automaton.go:103", after := #[{ on := 2, ground := Go.Ground.data }], guard := none }) (v := ?_) rfl (by kernel_rfl) (by kernel_rfl) (by kernel_rfl) (fun _ _ _ h => h) (Or.inl ⟨by rfl, ?_⟩) (by assumption) ?_
          rotate_left
          · intro w hSw
            try dsimp only at hSw
            go_simp
            all_goals (with_reducible rfl)
          try simp only [Act.put, List.setIfInBounds_toArray, List.set_cons_zero, List.set_cons_succ]
          refine wpAnyH_take (i := 4) (oi := { dst := some 103, op := Go.Op.load 3 (Go.Operand.tmp 102), type := 3, pos := "l7_automaton.go:103", after := #[{ on := 3, ground := Go.Ground.data }], guard := none }) (v := ?_) rfl (by kernel_rfl) (by kernel_rfl) (by kernel_rfl) (fun _ _ _ h => h) (Or.inl ⟨by rfl, ?_⟩) (by assumption) ?_
          rotate_left
          · intro w hSw
            try dsimp only at hSw
            go_simp
            all_goals (with_reducible rfl)
          try simp only [Act.put, List.setIfInBounds_toArray, List.set_cons_zero, List.set_cons_succ]
          refine wpAnyH_take (i := 5) (oi := { dst := some 104, op := Go.Op.move (Go.Operand.tmp 10), type := 22, pos := "l7_automaton.go:103", after := #[], guard := none }) (v := ?_) rfl (by kernel_rfl) (by kernel_rfl) (by kernel_rfl) (fun _ _ _ h => h) (Or.inl ⟨by rfl, ?_⟩) (by assumption) ?_
          rotate_left
          · intro w hSw
            try dsimp only at hSw
            go_simp
            all_goals (with_reducible rfl)
          try simp only [Act.put, List.setIfInBounds_toArray, List.set_cons_zero, List.set_cons_succ]
          refine wpAnyH_take (i := 6) (oi := { dst := some 105, op := Go.Op.indexAddr 22 (Go.Operand.tmp 104) (Go.Operand.const (Go.Value.int Go.IntKind.i64 1)), type := 0, pos := "l7_automaton.go:103", after := #[{ on := 5, ground := Go.Ground.data }], guard := none }) (v := ?_) rfl (by kernel_rfl) (by kernel_rfl) (by kernel_rfl) (fun _ _ _ h => h) (Or.inl ⟨by rfl, ?_⟩) (by assumption) ?_
          rotate_left
          · intro w hSw
            try dsimp only at hSw
            go_simp
            all_goals (with_reducible rfl)
          try simp only [Act.put, List.setIfInBounds_toArray, List.set_cons_zero, List.set_cons_succ]
          refine wpAnyH_take (i := 7) (oi := { dst := some 106, op := Go.Op.load 3 (Go.Operand.tmp 105), type := 3, pos := "l7_automaton.go:103", after := #[{ on := 6, ground := Go.Ground.data }], guard := none }) (v := ?_) rfl (by kernel_rfl) (by kernel_rfl) (by kernel_rfl) (fun _ _ _ h => h) (Or.inl ⟨by rfl, ?_⟩) (by assumption) ?_
          rotate_left
          · intro w hSw
            try dsimp only at hSw
            go_simp
            all_goals (with_reducible rfl)
          try simp only [Act.put, List.setIfInBounds_toArray, List.set_cons_zero, List.set_cons_succ]
          refine wpAnyH_take (i := 8) (oi := { dst := some 107, op := Go.Op.move (Go.Operand.tmp 10), type := 22, pos := "l7_automaton.go:103", after := #[], guard := none }) (v := ?_) rfl (by kernel_rfl) (by kernel_rfl) (by kernel_rfl) (fun _ _ _ h => h) (Or.inl ⟨by rfl, ?_⟩) (by assumption) ?_
          rotate_left
          · intro w hSw
            try dsimp only at hSw
            go_simp
            all_goals (with_reducible rfl)
          try simp only [Act.put, List.setIfInBounds_toArray, List.set_cons_zero, List.set_cons_succ]
          refine wpAnyH_take (i := 9) (oi := { dst := some 108, op := Go.Op.indexAddr 22 (Go.Operand.tmp 107) (Go.Operand.const (Go.Value.int Go.IntKind.i64 2)), type := 0, pos := "l7_automaton.go:103", after := #[{ on := 8, ground := Go.Ground.data }], guard := none }) (v := ?_) rfl (by kernel_rfl) (by kernel_rfl) (by kernel_rfl) (fun _ _ _ h => h) (Or.inl ⟨by rfl, ?_⟩) (by assumption) ?_
          rotate_left
          · intro w hSw
            try dsimp only at hSw
            go_simp
            all_goals (with_reducible rfl)
          try simp only [Act.put, List.setIfInBounds_toArray, List.set_cons_zero, List.set_cons_succ]
          refine wpAnyH_take (i := 10) (oi := { dst := some 109, op := Go.Op.load 3 (Go.Operand.tmp 108), type := 3, pos := "l7_automaton.go:103", after := #[{ on := 9, ground := Go.Ground.data }], guard := none }) (v := ?_) rfl (by kernel_rfl) (by kernel_rfl) (by kernel_rfl) (fun _ _ _ h => h) (Or.inl ⟨by rfl, ?_⟩) (by assumption) ?_
          rotate_left
          · intro w hSw
            try dsimp only at hSw
            go_simp
            all_goals (with_reducible rfl)
          try simp only [Act.put, List.setIfInBounds_toArray, List.set_cons_zero, List.set_cons_succ]
          refine wpAnyH_take (i := 11) (oi := { dst := some 110, op := Go.Op.move (Go.Operand.tmp 10), type := 22, pos := "l7_automaton.go:103", after := #[], guard := none }) (v := ?_) rfl (by kernel_rfl) (by kernel_rfl) (by kernel_rfl) (fun _ _ _ h => h) (Or.inl ⟨by rfl, ?_⟩) (by assumption) ?_
          rotate_left
          · intro w hSw
            try dsimp only at hSw
            go_simp
            all_goals (with_reducible rfl)
          try simp only [Act.put, List.setIfInBounds_toArray, List.set_cons_zero, List.set_cons_succ]
          refine wpAnyH_take (i := 12) (oi := { dst := some 111, op := Go.Op.indexAddr 22 (Go.Operand.tmp 110) (Go.Operand.const (Go.Value.int Go.IntKind.i64 3)), type := 0, pos := "l7_automaton.go:103", after := #[{ on := 11, ground := Go.Ground.data }], guard := none }) (v := ?_) rfl (by kernel_rfl) (by kernel_rfl) (by kernel_rfl) (fun _ _ _ h => h) (Or.inl ⟨by rfl, ?_⟩) (by assumption) ?_
          rotate_left
          · intro w hSw
            try dsimp only at hSw
            go_simp
            all_goals (with_reducible rfl)
          try simp only [Act.put, List.setIfInBounds_toArray, List.set_cons_zero, List.set_cons_succ]
          refine wpAnyH_take (i := 13) (oi := { dst := some 112, op := Go.Op.load 3 (Go.Operand.tmp 111), type := 3, pos := "l7_automaton.go:103", after := #[{ on := 12, ground := Go.Ground.data }], guard := none }) (v := ?_) rfl (by kernel_rfl) (by kernel_rfl) (by kernel_rfl) (fun _ _ _ h => h) (Or.inl ⟨by rfl, ?_⟩) (by assumption) ?_
          rotate_left
          · intro w hSw
            try dsimp only at hSw
            go_simp
            all_goals (with_reducible rfl)
          try simp only [Act.put, List.setIfInBounds_toArray, List.set_cons_zero, List.set_cons_succ]
          refine wpAnyH_take (i := 14) (oi := { dst := some 113, op := Go.Op.build 45 #[(0, Go.Operand.tmp 103), (1, Go.Operand.tmp 106), (2, Go.Operand.tmp 109), (3, Go.Operand.tmp 112)], type := 45, pos := "l7_automaton.go:103", after := #[{ on := 4, ground := Go.Ground.data }, { on := 7, ground := Go.Ground.data }, { on := 10, ground := Go.Ground.data }, { on := 13, ground := Go.Ground.data }], guard := none }) (v := ?_) rfl (by kernel_rfl) (by kernel_rfl) (by kernel_rfl) (fun _ _ _ h => h) (Or.inl ⟨by rfl, ?_⟩) (by assumption) ?_
          rotate_left
          · intro w hSw
            try dsimp only at hSw
            go_simp
            all_goals (with_reducible rfl)
          try simp only [Act.put, List.setIfInBounds_toArray, List.set_cons_zero, List.set_cons_succ]
          refine wpAnyH_ready (rs := [15]) (by kernel_rfl) (by simp) (AllReadyH.cons (o := { dst := some 114, op := Go.Op.buildSlice 29 1 #[(0, Go.Operand.tmp 113)], type := 29, pos := "l7_automaton.go:103", after := #[{ on := 14, ground := Go.Ground.data }], guard := none }) rfl (fun K hK => ?_) AllReadyH.nil)
          go_simp
          refine hK.out _ _ ?_ (fun hHeld => ?_)
          · (first | (go_keep; done) | with_reducible exact HS7.out)
          clear hK K
          try simp only [Act.put, List.setIfInBounds_toArray, List.set_cons_zero, List.set_cons_succ]
          refine wpAnyH_ready (rs := [16]) (by kernel_rfl) (by simp) (AllReadyH.cons (o := { dst := some 115, op := Go.Op.call { callee := Go.Callee.builtin Go.Builtin.append, args := #[Go.Operand.tmp 100, Go.Operand.tmp 114], argTypes := #[29, 29] }, type := 29, pos := "l7_automaton.go:103", after := #[{ on := 1, ground := Go.Ground.data }, { on := 15, ground := Go.Ground.data }], guard := none }) rfl (fun K hK => ?_) AllReadyH.nil)
          with_reducible refine step_append_eq ?_ (.tmp 100) (.tmp 114) 29 ?_ ?_ ?_ HAP.out ?_
          · rfl
          · rfl
          · rfl
          · rfl
          refine hK.out _ _ ?_ (fun hHeld => ?_)
          · (first | (go_keep; done) | with_reducible exact HS7.out)
          clear hK K
          try simp only [Act.put, List.setIfInBounds_toArray, List.set_cons_zero, List.set_cons_succ]
          refine wpAnyH_take (i := 17) (oi := { dst := some 116, op := Go.Op.fieldAddr 31 (Go.Operand.tmp 6) 2, type := 0, pos := "l7_automaton.go:103", after := #[{ on := 0, ground := Go.Ground.phase }, { on := 1, ground := Go.Ground.phase }, { on := 2, ground := Go.Ground.phase }, { on := 3, ground := Go.Ground.phase }, { on := 4, ground := Go.Ground.phase }, { on := 5, ground := Go.Ground.phase }, { on := 6, ground := Go.Ground.phase }, { on := 7, ground := Go.Ground.phase }, { on := 8, ground := Go.Ground.phase }, { on := 9, ground := Go.Ground.phase }, { on := 10, ground := Go.Ground.phase }, { on := 11, ground := Go.Ground.phase }, { on := 12, ground := Go.Ground.phase }, { on := 13, ground := Go.Ground.phase }, { on := 14, ground := Go.Ground.phase }, { on := 15, ground := Go.Ground.phase }, { on := 16, ground := Go.Ground.phase }], guard := none }) (v := ?_) rfl (by kernel_rfl) (by kernel_rfl) (by kernel_rfl) (fun _ _ _ h => h) (Or.inl ⟨by rfl, ?_⟩) (by assumption) ?_
          rotate_left
          · intro w hSw
            try dsimp only at hSw
            go_simp
            all_goals (with_reducible rfl)
          try simp only [Act.put, List.setIfInBounds_toArray, List.set_cons_zero, List.set_cons_succ]
          refine ⟨by kernel_rfl, ?_⟩
          refine then_last (o := { dst := none, op := Go.Op.store 29 (Go.Operand.tmp 116) (Go.Operand.tmp 115), type := 0, pos := "l7_automaton.go:103", after := #[{ on := 17, ground := Go.Ground.data }, { on := 16, ground := Go.Ground.data }, { on := 16, ground := Go.Ground.chain }, { on := 0, ground := Go.Ground.phase }, { on := 1, ground := Go.Ground.phase }, { on := 2, ground := Go.Ground.phase }, { on := 3, ground := Go.Ground.phase }, { on := 4, ground := Go.Ground.phase }, { on := 5, ground := Go.Ground.phase }, { on := 6, ground := Go.Ground.phase }, { on := 7, ground := Go.Ground.phase }, { on := 8, ground := Go.Ground.phase }, { on := 9, ground := Go.Ground.phase }, { on := 10, ground := Go.Ground.phase }, { on := 11, ground := Go.Ground.phase }, { on := 12, ground := Go.Ground.phase }, { on := 13, ground := Go.Ground.phase }, { on := 14, ground := Go.Ground.phase }, { on := 15, ground := Go.Ground.phase }, { on := 16, ground := Go.Ground.phase }], guard := none }) rfl (fun K hK => ?_)
          go_simp
          refine hK.out _ _ ?_
          clear hK K
          go_wp2_with fail
          go_roundw
          case rel => exact ⟨k + 1, es ++ [⟨fr, ca, va, tt⟩], _, by rw [List.length_append, List.length_singleton]; have := HK.out; omega, by have := HLt.out; omega, by go_num, HX7⟩
          case measure => simp [intOf]; omega

end Go.Proofs.YtiikphdgnhajeaaDoor

/- The walks of spec.InitialState and impl.InitialState. -/
import Derived.Test.YtiipcdjmemofgaaCl
import Derived.Test.YtiipcdjmemofgaaVs
import Derived.Deep.RegionHeld3
import Derived.Deep.RegionWith
import Derived.Deep.RegionLaw
namespace Go.Proofs.Ytiipcdjmemofgaa
open Go.RowKit

def inSt (s : Sy) : St := if syOk s then ⟨List.replicate s.ps.length 0, s.ini⟩ else ⟨[], []⟩
def InPost (s : Sy) (w : World) (e' : Ending) (w' : World) : Prop :=
  ∃ X Y : Value, e' = .returned (.tuple #[.agg #[X, Y], .bool (syOk s)]) ∧ StR w' w.heap.size w'.heap.size (inSt s) X Y ∧ Below w.heap.size w w'

theorem syOk_ini {s : Sy} (h : syOk s = true) : ∃ a b c, s.ini = [a, b, c] := by
  unfold syOk valsOk at h
  simp only [Bool.and_eq_true, decide_eq_true_eq] at h
  have hl : s.ini.length = 3 := by omega
  match h2 : s.ini, hl with
  | [a, b, c], _ => exact ⟨a, b, c, rfl⟩

theorem StR.nil (w : World) (lo hi : Nat) (h : lo ≤ hi) (A A' : Option Addr) (c c' : Nat) : StR w lo hi ⟨[], []⟩ (.slice A 0 c) (.slice A' 0 c') :=
  ⟨lo, lo, lo, hi, by omega, ⟨A, c, 0, #[], fun _ _ => undef, fun _ => lo, rfl, Nat.zero_le _, fun _ _ => Nat.le_refl _, Nat.le_refl _, Nat.le_refl _, fun i x hx => by simp at hx⟩,
    ⟨A', c', 0, #[], fun _ _ => undef, fun _ => lo, rfl, Nat.zero_le _, fun _ _ => Nat.le_refl _, Nat.le_refl _, h, fun i x hx => by simp at hx⟩⟩

theorem StR.two {w : World} {lo g h : Nat} {cs ds : Array Value} {n k : Nat} {a b c : Int} (hg : Row w g 3 cs) (hh : Row w h 3 ds) (hlg : lo ≤ g) (hlh : lo ≤ h) (hne : g ≠ h) (hn : n ≤ 1048576)
    (hcs : ∀ i, i < n → cs[i]? = some (.int .i64 0)) (hds : ∀ (i : Nat) (z : Int), ([a, b, c] : List Int)[i]? = some z → ds[i]? = some (Value.int .i64 z)) :
    StR w lo w.heap.size ⟨List.replicate n 0, [a, b, c]⟩ (.slice (some ⟨g, 0, none⟩) n n) (.slice (some ⟨h, 0, none⟩) 3 k) := by
  have h1 := sep_row (cap := n) (zs := List.replicate n 0) hg (by rw [List.length_replicate]; unfold maxLen; omega) (fun i z hz => by
    have hi := (List.getElem?_eq_some_iff.1 hz).1
    rw [List.length_replicate] at hi
    rw [List.getElem?_replicate, if_pos hi] at hz
    injection hz with hz
    rw [← hz]
    exact hcs i hi)
  rw [List.length_replicate] at h1
  have h2 := sep_row (cap := k) (zs := [a, b, c]) hh (by unfold maxLen; simp) hds
  have := hg.lt
  have := hh.lt
  exact ⟨g, g + 1, h, h + 1, by omega, h1, h2⟩

theorem make_ints (n : Nat) (hn : n ≤ 1048576) : ∃ cs : Array Value, (∀ i, i < n → cs[i]? = some (.int .i64 0)) ∧ ∀ w : World, (Instr.makeSlice 22 (.int .i64 (n : Int)) (.int .i64 (n : Int))).run Try.prog w = .ok (.slice (some ⟨w.heap.size, 0, none⟩) n n) (w.alloc (.cells cs 3)) := by
  obtain ⟨i0, hi0, hz0, hz1, hz2⟩ := info_parts Try.info3
  have hmk := run_make_of (P := Try.prog) 22 3 i0 _ Try.underlying22 hi0 hz0 n (by rw [hz2]; omega) (by omega)
  rw [hz1] at hmk
  refine ⟨_, fun i hi => ?_, hmk⟩
  rw [← Array.getElem?_toList, show Value.cells (.int .i64 0) = #[.int .i64 0] from rfl, toList_madeCells_one, List.getElem?_replicate, if_pos (by omega)]

theorem Tw.alloc {a b : Nat} {w W : World} (h : Tw a b w W) (o : Obj) : Tw a b (w.alloc o) (W.alloc o) := ⟨h.os, h.tape, h.output, by simp [h.size], fun q h1 h2 => by
  show (W.heap.push o)[q]? = (w.heap.push o)[q]?
  rw [Array.getElem?_push, Array.getElem?_push, h.size, h.other q h1 h2]⟩
theorem three_boxesY {Y : World} {z : Nat} (hz : Y.heap.size = z) (t u v : TypeId) (a b c : Array Value) : Row (((Y.alloc (.cells a t)).alloc (.cells b u)).alloc (.cells c v)) z t a ∧ Row (((Y.alloc (.cells a t)).alloc (.cells b u)).alloc (.cells c v)) (z + 1) u b ∧ Row (((Y.alloc (.cells a t)).alloc (.cells b u)).alloc (.cells c v)) (z + 1 + 1) v c := by
  subst hz
  have h := three_boxes Y t u v a b c
  exact ⟨h.1, h.2.1, h.2.2.1⟩

set_option maxHeartbeats 2000000 in
set_option maxRecDepth 100000 in
theorem implIn_any (e : Sy) (C : Nat → Value) (w : World) (hL : Lay.sy.lies w w.heap.size e C) (hd : Lay.sy.sz e ≤ 1048576) :
    Calls Try.prog 8 #[.agg #[C 0, C 1]] w (InPost e w) := by
  obtain ⟨W1, hW1⟩ : ∃ W1, W1 = (w.alloc (.cells #[C 0, C 1] 33)).alloc (.cells #[.slice none 0 0, .slice none 0 0] 28) := ⟨_, rfl⟩
  have hrows := rows2 w 33 28 #[C 0, C 1] #[.slice none 0 0, .slice none 0 0]
  rw [← hW1] at hrows
  obtain ⟨hra, hrb, hb0⟩ := hrows
  have HL : Hid (Lay.sy.lies W1 W1.heap.size e C) := Lay.sy.later hL hb0 hb0.size
  have HW1 := Lib.hid hW1
  have HB0 := Lib.hid hb0
  have HRa := Lib.hid hra
  have HRb := Lib.hid hrb
  have HD := Lib.hid hd
  obtain ⟨vs, hvs⟩ : ∃ vs, vs = syOk e := ⟨_, rfl⟩
  have HVs := Lib.hid hvs
  clear hL hW1 hb0 hra hrb hvs
  go_enter Try.func8, Try.ntmps8
  go_wp2_with fail
  rw [← HW1.out]
  refine (implSy_any e C W1 HL.out HD.out).mono ?_
  rintro e' w1 ⟨rfl, hb1⟩
  rw [← HVs.out]
  have HB1 : Hid (Below w.heap.size w w1) := HB0.out.trans (hb1.mono HB0.out.size)
  have hL1 := Lay.sy.later HL.out hb1 hb1.size
  obtain ⟨g0, g1⟩ := (HRa.out.under hb1 HRa.out.lt).two
  have hrb1 := HRb.out.under hb1 HRb.out.lt
  obtain ⟨p0, p1⟩ := hrb1.two
  have z0 := hrb1.frozen 0
  have z1 := hrb1.frozen 1
  have hlw : w.heap.size + 1 < w1.heap.size := hrb1.lt
  have hlw0 : w.heap.size < w1.heap.size := by omega
  obtain ⟨ini, ps⟩ := e
  obtain ⟨⟨A0, cap0, b0, off0, E0, q0, hl0, hO0⟩, A1, cap1, b1, off1, E1, q1, hl1, hO1⟩ := sy_lies hL1
  rw [q0] at g0
  rw [q1] at g1
  rw [sy_sz] at hd
  have hn : ps.length ≤ 1048576 := by have := Lay.pr.szL_length ps; dsimp only at hd; omega
  have HRa1 := Lib.hid (HRa.out.under hb1 HRa.out.lt)
  rw [q0, q1] at HRa1
  have HRb1 := Lib.hid hrb1
  clear hb1 hL1 HL HRa HRb q0 q1 hO1 HW1 hd hl1 hl0 hrb1
  cases vs
  · have HN : Hid (inSt ⟨ini, ps⟩ = ⟨[], []⟩) := by show _ = _; unfold inSt; rw [← HVs.out]; rfl
    have HF : Hid (∀ W, Tw (w.heap.size + 1) (w.heap.size + 1) w1 W → InPost ⟨ini, ps⟩ w (.returned (.tuple #[.agg #[.slice none 0 0, .slice none 0 0], .bool false])) W) := fun W hT => by
      have hb := hT.below HB1.out (by omega) (by omega)
      exact ⟨_, _, by rw [← HVs.out], by rw [HN.out]; exact StR.nil _ _ _ hb.size _ _ _ _, hb⟩
    go_wp2_with fail
    refine bodyPost_ret (v := .tuple #[.agg #[.slice none 0 0, .slice none 0 0], .bool false]) (by simp [results, Try.results8, go_sem, p0, p1]) rfl ?_
    exact HF.out _ (((Tw.refl _ _ _).sa _ _).sa _ _)
  obtain ⟨a, b, c, hini⟩ := syOk_ini (s := ⟨ini, ps⟩) HVs.out.symm
  dsimp only at hini
  subst hini
  have HI := ints_of hO0
  obtain ⟨hA, hbl, i0⟩ := HI 0 a rfl
  obtain ⟨_, _, i1⟩ := HI 1 b rfl
  obtain ⟨_, _, i2⟩ := HI 2 c rfl
  subst hA
  replace g0 : w1.cell? ⟨w.heap.size, 0, none⟩ = some (.slice (some ⟨b0, off0, none⟩) 3 cap0) := g0
  replace HRa1 : Hid (Row w1 w.heap.size 33 #[.slice (some ⟨b0, off0, none⟩) 3 cap0, .slice A1 ps.length cap1]) := HRa1
  obtain ⟨cs, hcs, hmk⟩ := make_ints ps.length hn
  have HCs := Lib.hid hcs
  have HN : Hid (inSt ⟨[a, b, c], ps⟩ = ⟨List.replicate ps.length 0, [a, b, c]⟩) := by show _ = _; unfold inSt; rw [← HVs.out]; rfl
  have hadd : ∀ j, (⟨b0, off0, none⟩ : Addr).add j = ⟨b0, off0 + j, none⟩ := fun j => by unfold Addr.add; split <;> simp_all
  have HC1 : Hid (Calls Try.prog 24 #[.slice (some ⟨b0, off0, none⟩) 3 cap0] w1.drew fun e' w' => ∃ (g k : Nat) (ds : Array Value), e' = .returned (.slice (some ⟨g, 0, none⟩) 3 k) ∧ w1.drew.heap.size ≤ g ∧ Row w' g 3 ds ∧ (∀ (i : Nat) (z : Int), ([a, b, c] : List Int)[i]? = some z → ds[i]? = some (Value.int .i64 z)) ∧ Below w1.drew.heap.size w1.drew w') :=
    clone_any a b c _ _ _ (by rw [hadd]; exact i0) (by rw [hadd]; exact i1) (by rw [hadd]; exact i2) hbl
  have hk : ∀ (j : Nat) (v : Value), w1.cell? ⟨b0, off0 + j, none⟩ = some v → ((w1.alloc (.cells cs 3)).drew).cell? ⟨b0, off0 + j, none⟩ = some v := fun j v h => by
    rw [Below.cell (B := w1.heap.size) (((Below.refl _ _).alloc (Nat.le_refl _) _).drew) hbl]
    exact h
  have HC2 : Hid (Calls Try.prog 24 #[.slice (some ⟨b0, off0, none⟩) 3 cap0] ((w1.alloc (.cells cs 3)).drew) fun e' w' => ∃ (g k : Nat) (ds : Array Value), e' = .returned (.slice (some ⟨g, 0, none⟩) 3 k) ∧ ((w1.alloc (.cells cs 3)).drew).heap.size ≤ g ∧ Row w' g 3 ds ∧ (∀ (i : Nat) (z : Int), ([a, b, c] : List Int)[i]? = some z → ds[i]? = some (Value.int .i64 z)) ∧ Below ((w1.alloc (.cells cs 3)).drew).heap.size ((w1.alloc (.cells cs 3)).drew) w') :=
    clone_any a b c _ _ _ (by rw [hadd]; exact hk 0 _ i0) (by rw [hadd]; exact hk 1 _ i1) (by rw [hadd]; exact hk 2 _ i2) (by simp; exact Nat.lt_succ_of_lt hbl)
  have HFin : Hid (∀ (W W' : World) (g h k : Nat) (ds : Array Value), Row W g 3 cs → Row W h 3 ds → w1.heap.size ≤ g → w1.heap.size ≤ h → g ≠ h → (∀ (i : Nat) (z : Int), ([a, b, c] : List Int)[i]? = some z → ds[i]? = some (Value.int .i64 z)) → Below w1.heap.size w1 W → Tw (w.heap.size + 1) (w.heap.size + 1) W W' → InPost ⟨[a, b, c], ps⟩ w (.returned (.tuple #[.agg #[.slice (some ⟨g, 0, none⟩) ps.length ps.length, .slice (some ⟨h, 0, none⟩) 3 k], .bool true])) W') := fun W W' g h k ds r1 r2 h1 h2 h3 h4 hb hT => by
    have hb' := hT.below (HB1.out.trans (hb.mono HB1.out.size)) (by omega) (by omega)
    exact ⟨_, _, by rw [← HVs.out], by rw [HN.out]; exact StR.two ((hT.other g (by omega) (by omega)).trans r1) ((hT.other h (by omega) (by omega)).trans r2) (by omega) (by omega) h3 hn HCs.out h4, hb'⟩
  clear i0 i1 i2 HI hO0 hk hadd hcs
  go_wp2_with fail
  go_region_with (first
    | (go_at_call 24
       with_reducible refine HC1.out.mono ?_
       rintro e' w2 ⟨g, k, ds, rfl, hg, hrg, hds, hb2⟩
       have HB2 : Hid (Below w1.heap.size w1 w2) := (Below.refl _ _).drew.trans hb2
       have hrb2 := HRb1.out.under HB2.out HRb1.out.lt
       obtain ⟨g0', g1'⟩ := (HRa1.out.under HB2.out HRa1.out.lt).two
       have hg1 : w1.heap.size ≤ g := hg
       have hlw2 : w.heap.size + 1 < w2.heap.size := hrb2.lt
       have hlw3 : w.heap.size < w2.heap.size := by omega
       have HRg := Lib.hid hrg
       have HDs := Lib.hid hds
       obtain ⟨p0', p1'⟩ := hrb2.two
       have z0' := hrb2.frozen 0
       have z1' := hrb2.frozen 1
       clear hrb2 hb2 hrg hds)
    | (go_at_call 24
       with_reducible refine HC2.out.mono ?_
       rintro e' w2 ⟨g, k, ds, rfl, hg, hrg, hds, hb2⟩
       have HB2 : Hid (Below w1.heap.size w1 w2) := (((Below.refl _ _).alloc (Nat.le_refl _) _).drew).trans (hb2.mono (by simp))
       have hrb2 := HRb1.out.under HB2.out HRb1.out.lt
       obtain ⟨g0', g1'⟩ := (HRa1.out.under HB2.out HRa1.out.lt).two
       have hg1 : w1.heap.size ≤ g := (by simp at hg; omega)
       have hlw2 : w.heap.size + 1 < w2.heap.size := hrb2.lt
       have hlw3 : w.heap.size < w2.heap.size := by omega
       have HRg := Lib.hid hrg
       have HDs := Lib.hid hds
       obtain ⟨p0', p1'⟩ := hrb2.two
       have z0' := hrb2.frozen 0
       have z1' := hrb2.frozen 1
       have HRm : Hid (Row w2 w1.heap.size 3 cs) := ((Row.new w1 3 cs).under (B := w1.heap.size + 1) ((Below.refl _ _).drew) (Nat.lt_succ_self _)).under hb2 (by simp)
       have hne : w1.heap.size ≠ g := by simp at hg; omega
       clear hrb2 hb2 hrg hds))
  all_goals go_wp2_with fail
  all_goals first
    | (refine bodyPost_ret (v := .tuple #[.agg #[.slice (some ⟨w1.heap.size, 0, none⟩) ps.length ps.length, .slice (some ⟨g, 0, none⟩) 3 k], .bool true]) (by simp [results, Try.results8, go_sem, p0', p1']) rfl ?_
       exact HFin.out w2 _ w1.heap.size g k ds HRm.out HRg.out (Nat.le_refl _) hg1 hne HDs.out HB2.out (((Tw.refl _ _ _).sa _ _).sa _ _))
    | (have hgl := HRg.out.lt
       refine bodyPost_ret (v := .tuple #[.agg #[.slice (some ⟨w2.heap.size, 0, none⟩) ps.length ps.length, .slice (some ⟨g, 0, none⟩) 3 k], .bool true]) (by simp [results, Try.results8, go_sem, p0', p1', hlw2]) rfl ?_
       exact HFin.out (w2.alloc (.cells cs 3)) _ w2.heap.size g k ds (Row.new _ _ _) (HRg.out.under ((Below.refl _ _).alloc (Nat.le_refl _) _) HRg.out.lt) HB2.out.size hg1 (by omega) HDs.out (HB2.out.alloc HB2.out.size _) ((((Tw.refl _ _ _).sa _ _).sa _ _).alloc _))

end Go.Proofs.Ytiipcdjmemofgaa

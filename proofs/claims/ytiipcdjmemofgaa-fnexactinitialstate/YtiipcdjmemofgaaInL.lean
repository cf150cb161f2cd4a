/- The walk of impl.InitialState (InW, joined) and of the law laws.FnExactInitialState. -/
import Derived.Test.YtiipcdjmemofgaaInV
import Derived.Test.YtiipcdjmemofgaaMkT
import Derived.Test.YtiipcdjmemofgaaMk2
import Derived.Test.YtiipcdjmemofgaaToA
import Derived.Test.YtiipcdjmemofgaaSzA
import Derived.Test.YtiipcdjmemofgaaEqA
import Derived.Deep.RegionHeld3
import Derived.Deep.RegionWith
import Derived.Deep.Cut
import Derived.Deep.CutRange
namespace Go.Proofs.Ytiipcdjmemofgaa
open Go.RowKit

set_option maxHeartbeats 1000000 in
set_option maxRecDepth 100000 in
theorem specIn_any (e : Sy) (C : Nat → Value) (w : World) (hL : Lay.sy.lies w w.heap.size e C) (hd : Lay.sy.sz e ≤ 1048576) :
    Calls Try.prog 6 #[.agg #[C 0, C 1]] w (InPost e w) := by
  obtain ⟨W1, hW1⟩ : ∃ W1, W1 = (w.alloc (.cells #[C 0, C 1] 33)).alloc (.cells #[.slice none 0 0, .slice none 0 0] 28) := ⟨_, rfl⟩
  have hrows := rows2 w 33 28 #[C 0, C 1] #[.slice none 0 0, .slice none 0 0]
  rw [← hW1] at hrows
  obtain ⟨hra, hrb, hb0⟩ := hrows
  have HL : Hid (Lay.sy.lies W1 W1.heap.size e C) := Lay.sy.later hL hb0 hb0.size
  have HW1 := Lib.hid hW1
  have HB0 := Lib.hid hb0
  have HRa := Lib.hid hra
  have HRb := Lib.hid hrb
  have HD := Lib.hid hd
  obtain ⟨vs, hvs⟩ : ∃ vs, vs = syOk e := ⟨_, rfl⟩
  have HVs := Lib.hid hvs
  clear hL hW1 hb0 hra hrb hvs
  go_enter Try.func6, Try.ntmps6
  go_wp2_with fail
  rw [← HW1.out]
  refine (specSy_any e C W1 HL.out HD.out).mono ?_
  rintro e' w1 ⟨rfl, hb1⟩
  rw [← HVs.out]
  have HB1 : Hid (Below w.heap.size w w1) := HB0.out.trans (hb1.mono HB0.out.size)
  have hL1 := Lay.sy.later HL.out hb1 hb1.size
  obtain ⟨g0, g1⟩ := (HRa.out.under hb1 HRa.out.lt).two
  have hrb1 := HRb.out.under hb1 HRb.out.lt
  obtain ⟨p0, p1⟩ := hrb1.two
  have z0 := hrb1.frozen 0
  have z1 := hrb1.frozen 1
  have hlw : w.heap.size + 1 < w1.heap.size := hrb1.lt
  have hlw0 : w.heap.size < w1.heap.size := by omega
  obtain ⟨ini, ps⟩ := e
  obtain ⟨⟨A0, cap0, b0, off0, E0, q0, hl0, hO0⟩, A1, cap1, b1, off1, E1, q1, hl1, hO1⟩ := sy_lies hL1
  rw [q0] at g0
  rw [q1] at g1
  rw [sy_sz] at hd
  have hn : ps.length ≤ 1048576 := by have := Lay.pr.szL_length ps; dsimp only at hd; omega
  have HRa1 := Lib.hid (HRa.out.under hb1 HRa.out.lt)
  rw [q0, q1] at HRa1
  have HRb1 := Lib.hid hrb1
  clear hb1 hL1 HL HRa HRb q0 q1 hO1 HW1 hd hl1 hl0 hrb1
  cases vs
  · have HN : Hid (inSt ⟨ini, ps⟩ = ⟨[], []⟩) := by show _ = _; unfold inSt; rw [← HVs.out]; rfl
    have HF : Hid (∀ W, Tw (w.heap.size + 1) (w.heap.size + 1) w1 W → InPost ⟨ini, ps⟩ w (.returned (.tuple #[.agg #[.slice none 0 0, .slice none 0 0], .bool false])) W) := fun W hT => by
      have hb := hT.below HB1.out (by omega) (by omega)
      exact ⟨_, _, by rw [← HVs.out], by rw [HN.out]; exact StR.nil _ _ _ hb.size _ _ _ _, hb⟩
    go_wp2_with fail
    refine bodyPost_ret (v := .tuple #[.agg #[.slice none 0 0, .slice none 0 0], .bool false]) (by simp [results, Try.results6, go_sem, p0, p1]) rfl ?_
    exact HF.out _ (((Tw.refl _ _ _).sa _ _).sa _ _)
  obtain ⟨a, b, c, hini⟩ := syOk_ini (s := ⟨ini, ps⟩) HVs.out.symm
  dsimp only at hini
  subst hini
  have HI := ints_of hO0
  obtain ⟨hA, hbl, i0⟩ := HI 0 a rfl
  obtain ⟨_, _, i1⟩ := HI 1 b rfl
  obtain ⟨_, _, i2⟩ := HI 2 c rfl
  subst hA
  replace g0 : w1.cell? ⟨w.heap.size, 0, none⟩ = some (.slice (some ⟨b0, off0, none⟩) 3 cap0) := g0
  replace HRa1 : Hid (Row w1 w.heap.size 33 #[.slice (some ⟨b0, off0, none⟩) 3 cap0, .slice A1 ps.length cap1]) := HRa1
  obtain ⟨cs, hcs, hmk⟩ := make_ints ps.length hn
  have HCs := Lib.hid hcs
  have HN : Hid (inSt ⟨[a, b, c], ps⟩ = ⟨List.replicate ps.length 0, [a, b, c]⟩) := by show _ = _; unfold inSt; rw [← HVs.out]; rfl
  have hadd : ∀ j, (⟨b0, off0, none⟩ : Addr).add j = ⟨b0, off0 + j, none⟩ := fun j => by unfold Addr.add; split <;> simp_all
  have hk : ∀ (W : World), Below w1.heap.size w1 W → ∀ (j : Nat) (v : Value), w1.cell? ⟨b0, off0 + j, none⟩ = some v → W.cell? ((⟨b0, off0, none⟩ : Addr).add j) = some v := fun W hb j v h => by
    rw [hadd, Below.cell hb hbl]
    exact h
  have bA : Below w1.heap.size w1 ((w1.alloc (.cells cs 3)).alloc (.cells #[] 3)).drew := (((Below.refl _ _).alloc (Nat.le_refl _) _).alloc (by simp) _).drew
  have bB : Below w1.heap.size w1 ((w1.alloc (.cells #[] 3)).alloc (.cells cs 3)).drew := (((Below.refl _ _).alloc (Nat.le_refl _) _).alloc (by simp) _).drew
  have bC : Below w1.heap.size w1 (w1.alloc (.cells #[] 3)).drew := ((Below.refl _ _).alloc (Nat.le_refl _) _).drew
  obtain ⟨kA, dA, aA, sA⟩ := app3 ((w1.alloc (.cells cs 3)).alloc (.cells #[] 3)).drew 22 a b c (some ⟨w1.heap.size + 1, 0, none⟩) ⟨b0, off0, none⟩ cap0 (hk _ bA 0 _ i0) (hk _ bA 1 _ i1) (hk _ bA 2 _ i2)
  obtain ⟨kB, dB, aB, sB⟩ := app3 ((w1.alloc (.cells #[] 3)).alloc (.cells cs 3)).drew 22 a b c (some ⟨w1.heap.size, 0, none⟩) ⟨b0, off0, none⟩ cap0 (hk _ bB 0 _ i0) (hk _ bB 1 _ i1) (hk _ bB 2 _ i2)
  obtain ⟨kC, dC, aC, sC⟩ := app3 (w1.alloc (.cells #[] 3)).drew 22 a b c (some ⟨w1.heap.size, 0, none⟩) ⟨b0, off0, none⟩ cap0 (hk _ bC 0 _ i0) (hk _ bC 1 _ i1) (hk _ bC 2 _ i2)
  have HA := Lib.hid aA
  have HB := Lib.hid aB
  have HC := Lib.hid aC
  have HFin : Hid (∀ (W : World) (g h k : Nat) (ds : Array Value), Row W g 3 cs → Row W h 3 ds → w1.heap.size ≤ g → w1.heap.size ≤ h → g ≠ h → (∀ (i : Nat) (z : Int), ([a, b, c] : List Int)[i]? = some z → ds[i]? = some (Value.int .i64 z)) → Below w.heap.size w W → InPost ⟨[a, b, c], ps⟩ w (.returned (.tuple #[.agg #[.slice (some ⟨g, 0, none⟩) ps.length ps.length, .slice (some ⟨h, 0, none⟩) 3 k], .bool true])) W.drew.drew) := fun W g h k ds r1 r2 h1 h2 h3 h4 hb =>
    ⟨_, _, by rw [← HVs.out], by rw [HN.out]; exact (StR.two r1 r2 (by omega) (by omega) h3 hn HCs.out h4).keep (fun _ _ _ => rfl), hb.drew.drew⟩
  have HY : Hid (∀ Y, Tw (w.heap.size + 1) (w.heap.size + 1) w1 Y → Y.heap.size = w1.heap.size ∧ ∀ o1 o2 o3, Below w.heap.size w (((Y.alloc o1).alloc o2).alloc o3)) := fun Y hT => ⟨hT.size, fun o1 o2 o3 => by
    have hb := hT.below HB1.out (by omega) (by omega)
    exact ((hb.alloc hb.size o1).alloc (by simp; have := hb.size; omega) o2).alloc (by simp; have := hb.size; omega) o3⟩
  have HS : Hid ((∀ (i : Nat) (z : Int), ([a, b, c] : List Int)[i]? = some z → dA[i]? = some (Value.int .i64 z)) ∧ (∀ (i : Nat) (z : Int), ([a, b, c] : List Int)[i]? = some z → dB[i]? = some (Value.int .i64 z)) ∧ (∀ (i : Nat) (z : Int), ([a, b, c] : List Int)[i]? = some z → dC[i]? = some (Value.int .i64 z))) := ⟨sA, sB, sC⟩
  have HK1 : Hid (∀ Y o1 o2 o3, Tw (w.heap.size + 1) (w.heap.size + 1) w1 Y → ((((Y.alloc o1).alloc o2).alloc o3).drew.drew).cell? ⟨w.heap.size, 1, none⟩ = some (.slice A1 ps.length cap1) ∧ ((((Y.alloc o1).alloc o2).alloc o3).drew.drew).cell? ⟨w.heap.size, 0, none⟩ = some (.slice (some ⟨b0, off0, none⟩) 3 cap0)) := fun Y o1 o2 o3 hT => by
    have hb : Below Y.heap.size Y ((((Y.alloc o1).alloc o2).alloc o3).drew.drew) := ((((Below.refl _ _).alloc (Nat.le_refl _) o1).alloc (by simp) o2).alloc (by simp; omega) o3).drew.drew
    have hr : Row Y w.heap.size 33 #[.slice (some ⟨b0, off0, none⟩) 3 cap0, .slice A1 ps.length cap1] := (hT.other _ (by omega) (by omega)).trans HRa1.out
    exact ⟨(hr.under hb hr.lt).cell 1, (hr.under hb hr.lt).cell 0⟩
  have HRes : Hid (∀ (X Y : Value) (o1 o2 o3 : Obj), (((((w1.setCell ⟨w.heap.size + 1, 0, none⟩ X).setCell ⟨w.heap.size + 1, 1, none⟩ Y).alloc o1).alloc o2).alloc o3).drew.drew.cell? ⟨w.heap.size + 1, 0, none⟩ = some X ∧ (((((w1.setCell ⟨w.heap.size + 1, 0, none⟩ X).setCell ⟨w.heap.size + 1, 1, none⟩ Y).alloc o1).alloc o2).alloc o3).drew.drew.cell? ⟨w.heap.size + 1, 1, none⟩ = some Y) := fun X Y o1 o2 o3 => by
    have hr : Row ((w1.setCell ⟨w.heap.size + 1, 0, none⟩ X).setCell ⟨w.heap.size + 1, 1, none⟩ Y) (w.heap.size + 1) 28 #[X, Y] := (HRb1.out.set_ 0 X).set_ 1 Y
    have hb := ((((Below.refl _ ((w1.setCell ⟨w.heap.size + 1, 0, none⟩ X).setCell ⟨w.heap.size + 1, 1, none⟩ Y)).alloc (Nat.le_refl _) o1).alloc (by simp) o2).alloc (by simp; omega) o3).drew.drew
    exact ⟨(hr.under hb hr.lt).cell 0, (hr.under hb hr.lt).cell 1⟩
  clear i0 i1 i2 HI hO0 hk hadd hcs bA bB bC aA aB aC sA sB sC
  go_wp2_with fail
  go_region_held3 (fun w' => w'.cell? ⟨w.heap.size, 1, none⟩ = some (.slice A1 ps.length cap1) ∧ w'.cell? ⟨w.heap.size, 0, none⟩ = some (.slice (some ⟨b0, off0, none⟩) 3 cap0)) (first | (go_keep; done) | with_reducible exact HK1.out _ _ _ _ (((Tw.refl _ _ _).sa _ _).sa _ _) | with_reducible exact HK1.out _ _ _ _ (Tw.refl _ _ _)) (first
    | (with_reducible refine step_append_eq ?_ (.tmp 12) (.tmp 14) 22 ?_ ?_ ?_ HA.out ?_
       · rfl
       · rfl
       · rfl
       · rfl)
    | (with_reducible refine step_append_eq ?_ (.tmp 12) (.tmp 14) 22 ?_ ?_ ?_ HB.out ?_
       · rfl
       · rfl
       · rfl
       · rfl)
    | (with_reducible refine step_append_eq ?_ (.tmp 12) (.tmp 14) 22 ?_ ?_ ?_ HC.out ?_
       · rfl
       · rfl
       · rfl
       · rfl))
  all_goals go_wp2_with fail
  all_goals first
    | (obtain ⟨c0, c1⟩ := HRes.out (.slice (some ⟨w1.heap.size, 0, none⟩) ps.length ps.length) (.slice (some ⟨w1.heap.size + 1 + 1, 0, none⟩) 3 kA) (.cells cs 3) (.cells #[] 3) (.cells dA 3)
       refine bodyPost_ret (v := .tuple #[.agg #[.slice (some ⟨w1.heap.size, 0, none⟩) ps.length ps.length, .slice (some ⟨w1.heap.size + 1 + 1, 0, none⟩) 3 kA], .bool true]) ?_ rfl ?_
       · simp [results, Try.results6, go_sem, c0, c1]
       exact HFin.out _ (w1.heap.size) (w1.heap.size + 1 + 1) kA dA (three_boxesY (HY.out _ (((Tw.refl _ _ _).sa _ _).sa _ _)).1 _ _ _ cs #[] dA).1 (three_boxesY (HY.out _ (((Tw.refl _ _ _).sa _ _).sa _ _)).1 _ _ _ cs #[] dA).2.2 (by omega) (by omega) (by omega) HS.out.1 ((HY.out _ (((Tw.refl _ _ _).sa _ _).sa _ _)).2 _ _ _))
    | (obtain ⟨c0, c1⟩ := HRes.out (.slice (some ⟨w1.heap.size + 1, 0, none⟩) ps.length ps.length) (.slice (some ⟨w1.heap.size + 1 + 1, 0, none⟩) 3 kB) (.cells #[] 3) (.cells cs 3) (.cells dB 3)
       refine bodyPost_ret (v := .tuple #[.agg #[.slice (some ⟨w1.heap.size + 1, 0, none⟩) ps.length ps.length, .slice (some ⟨w1.heap.size + 1 + 1, 0, none⟩) 3 kB], .bool true]) ?_ rfl ?_
       · simp [results, Try.results6, go_sem, c0, c1]
       exact HFin.out _ (w1.heap.size + 1) (w1.heap.size + 1 + 1) kB dB (three_boxesY (HY.out _ (((Tw.refl _ _ _).sa _ _).sa _ _)).1 _ _ _ #[] cs dB).2.1 (three_boxesY (HY.out _ (((Tw.refl _ _ _).sa _ _).sa _ _)).1 _ _ _ #[] cs dB).2.2 (by omega) (by omega) (by omega) HS.out.2.1 ((HY.out _ (((Tw.refl _ _ _).sa _ _).sa _ _)).2 _ _ _))
    | (obtain ⟨c0, c1⟩ := HRes.out (.slice (some ⟨w1.heap.size + 1 + 1, 0, none⟩) ps.length ps.length) (.slice (some ⟨w1.heap.size + 1, 0, none⟩) 3 kC) (.cells #[] 3) (.cells dC 3) (.cells cs 3)
       refine bodyPost_ret (v := .tuple #[.agg #[.slice (some ⟨w1.heap.size + 1 + 1, 0, none⟩) ps.length ps.length, .slice (some ⟨w1.heap.size + 1, 0, none⟩) 3 kC], .bool true]) ?_ rfl ?_
       · simp [results, Try.results6, go_sem, c0, c1]
       exact HFin.out _ (w1.heap.size + 1 + 1) (w1.heap.size + 1) kC dC (three_boxesY (HY.out _ (((Tw.refl _ _ _).sa _ _).sa _ _)).1 _ _ _ #[] dC cs).2.2 (three_boxesY (HY.out _ (((Tw.refl _ _ _).sa _ _).sa _ _)).1 _ _ _ #[] dC cs).2.1 (by omega) (by omega) (by omega) HS.out.2.2 ((HY.out _ (((Tw.refl _ _ _).sa _ _).sa _ _)).2 _ _ _))
    | (trace_state
       sorry)

end Go.Proofs.Ytiipcdjmemofgaa
namespace Go.Proofs.Ytiipcdjmemofgaa
open Go.RowKit

theorem inSt_le {e : Sy} (h : Lay.sy.sz e ≤ 1048576) : (inSt e).locs.length ≤ 1048576 ∧ (inSt e).vals.length ≤ 1048576 := by
  rw [sy_sz, int_szL] at h
  have := Lay.pr.szL_length e.ps
  unfold inSt
  split
  · exact ⟨by dsimp only; rw [List.length_replicate]; omega, by dsimp only; omega⟩
  · exact ⟨Nat.zero_le _, Nat.zero_le _⟩

set_option maxHeartbeats 4000000 in
set_option maxRecDepth 100000 in
theorem lawIn_any (e : Sy) (C : Nat → Value) (w : World) (hL : Lay.sy.lies w w.heap.size e C) :
    Calls Try.prog 3 #[.agg #[C 0, C 1]] w fun e' w' => e' = .returned (.bool true) ∧ Below w.heap.size w w' := by
  obtain ⟨W1, hW1⟩ : ∃ W1, W1 = w.alloc (.cells #[C 0, C 1] 25) := ⟨_, rfl⟩
  have hb0 : Below w.heap.size w W1 := by rw [hW1]; exact (Below.refl _ _).alloc (Nat.le_refl _) _
  have HL : Hid (Lay.sy.lies W1 W1.heap.size e C) := Lay.sy.later hL hb0 hb0.size
  have HW1 := Lib.hid hW1
  have HB0 := Lib.hid hb0
  have HR0 : Hid (Row W1 w.heap.size 25 #[C 0, C 1]) := by rw [hW1]; exact Row.new _ _ _
  have hlt1 : w.heap.size < W1.heap.size := HR0.out.lt
  clear hL hW1 hb0
  have hrc := room_cases 1048576 (Lay.sy.sz e)
  obtain ⟨r, hr⟩ : ∃ r, r = room 1048576 (Lay.sy.sz e) := ⟨_, rfl⟩
  rw [← hr] at hrc
  have HR := Lib.hid hr
  by_cases hneg : r < 0
  · clear hr
    go_enter Try.func3, Try.ntmps3
    go_wp2_with fail
    rw [← HW1.out]
    refine (szSy_any e C 1048576 _ HL.out (by omega) (by omega)).mono ?_
    rintro e' w1 ⟨rfl, hb1⟩
    rw [← HR.out]
    have HB1 := Lib.hid (HB0.out.trans (hb1.mono HB0.out.size))
    clear hb1
    go_wp2_with fail
    go_ret
    exact ⟨rfl, HB1.out⟩
  have hd : Lay.sy.sz e ≤ 1048576 := by
    rw [hr] at hneg
    unfold room at hneg
    by_cases h : (1048576 : Int) < (Lay.sy.sz e : Nat)
    · rw [if_pos h] at hneg; omega
    · omega
  have HD := Lib.hid hd
  obtain ⟨T, hT⟩ : ∃ T, T = inSt e := ⟨_, rfl⟩
  obtain ⟨v, hv⟩ : ∃ v, v = syOk e := ⟨_, rfl⟩
  have hT1 : T.locs.length ≤ 1048576 := by rw [hT]; exact (inSt_le hd).1
  have hT2 : T.vals.length ≤ 1048576 := by rw [hT]; exact (inSt_le hd).2
  have HT := Lib.hid hT
  have HV := Lib.hid hv
  clear hr hd hT hv
  go_enter Try.func3, Try.ntmps3
  go_wp2_with fail
  rw [← HW1.out]
  refine (szSy_any e C 1048576 _ HL.out (by omega) (by omega)).mono ?_
  rintro e' w1 ⟨rfl, hb1⟩
  rw [← HR.out]
  have HB1 : Hid (Below W1.heap.size W1 w1) := hb1
  obtain ⟨g0, g1⟩ := (HR0.out.under hb1 HR0.out.lt).two
  clear hb1
  go_wp2_with fail
  -- the first copy, and the model's answer
  refine (toSy_any e C _ (Lay.sy.later HL.out HB1.out HB1.out.size) HD.out).mono ?_
  rintro e' w2 ⟨pxa, pxl, pxc, pya, pyl, pyc, rfl, hs2, hb2⟩
  have HB2 : Hid (Below W1.heap.size W1 w2) := HB1.out.trans (hb2.mono HB1.out.size)
  have HO2 := Lib.hid (Lay.sy.sep_lies hs2)
  clear hb2 hs2 g0 g1 HB1
  go_wp2_with fail
  refine (specIn_any e (fun j => (#[.slice pxa pxl pxc, .slice pya pyl pyc] : Array Value).getD j undef) _ HO2.out HD.out).mono ?_
  rintro e' w3 ⟨X0, Y0, rfl, hS0, hb3⟩
  rw [← HT.out] at hS0
  rw [← HV.out]
  obtain ⟨xa0, xc0, ya0, yc0, rfl, rfl⟩ := hS0.form
  have HB3 : Hid (Below W1.heap.size W1 w3) := HB2.out.trans (hb3.mono HB2.out.size)
  have h13 : W1.heap.size ≤ w3.heap.size := HB3.out.size
  obtain ⟨V3, hV3⟩ : ∃ V3, V3 = w3.alloc (.cells #[.slice xa0 T.locs.length xc0, .slice ya0 T.vals.length yc0] 28) := ⟨_, rfl⟩
  have hbv3 : Below w3.heap.size w3 V3 := by rw [hV3]; exact (Below.refl _ _).alloc (Nat.le_refl _) _
  have HRw : Hid (Row V3 w3.heap.size 28 #[.slice xa0 T.locs.length xc0, .slice ya0 T.vals.length yc0]) := by rw [hV3]; exact Row.new _ _ _
  have HS0 : Hid (StR V3 W1.heap.size w3.heap.size T (.slice xa0 T.locs.length xc0) (.slice ya0 T.vals.length yc0)) := (hS0.more HB2.out.size (Nat.le_refl _)).under hbv3 (Nat.le_refl _)
  have HBv : Hid (Below W1.heap.size W1 V3) := HB3.out.trans (hbv3.mono HB3.out.size)
  have HV3 := Lib.hid hV3
  have h33 : w3.heap.size < V3.heap.size := HRw.out.lt
  have hlw3 : w.heap.size < w3.heap.size := by omega
  obtain ⟨g0, g1⟩ := (HR0.out.under HB3.out HR0.out.lt).two
  clear hb3 HB2 HO2 hS0 HB3 hV3 hbv3
  go_wp2_with fail
  rw [← HV3.out]
  -- the second copy, and the program's answer
  refine (toSy_any e C _ (Lay.sy.later HL.out HBv.out HBv.out.size) HD.out).mono ?_
  rintro e' w4 ⟨xa, xl, xc, ya, yl, yc, rfl, hs4, hb4⟩
  have HB4 : Hid (Below W1.heap.size W1 w4) := HBv.out.trans (hb4.mono HBv.out.size)
  have h34 : V3.heap.size ≤ w4.heap.size := hb4.size
  obtain ⟨W5, hW5⟩ : ∃ W5, W5 = w4.alloc (.cells #[.slice xa xl xc, .slice ya yl yc] 33) := ⟨_, rfl⟩
  have HW5 := Lib.hid hW5
  have HR5 : Hid (Row W5 w4.heap.size 33 #[.slice xa xl xc, .slice ya yl yc]) := by rw [hW5]; exact Row.new _ _ _
  have hb5 : Below w4.heap.size w4 W5 := by rw [hW5]; exact (Below.refl _ _).alloc (Nat.le_refl _) _
  have HB5 : Hid (Below W1.heap.size W1 W5) := HB4.out.trans (hb5.mono HB4.out.size)
  have HX5 : Hid (Lay.sy.sep W5 V3.heap.size w4.heap.size e (fun j => (#[.slice xa xl xc, .slice ya yl yc] : Array Value).getD j undef)) := Lay.sy.sunder hs4 hb5 (Nat.le_refl _)
  have HS5 : Hid (StR W5 W1.heap.size w3.heap.size T (.slice xa0 T.locs.length xc0) (.slice ya0 T.vals.length yc0)) := (HS0.out.under hb4 (by omega)).under hb5 (by omega)
  have HRw5 := Lib.hid ((HRw.out.under hb4 HRw.out.lt).under hb5 (by omega))
  have h45 : w4.heap.size < W5.heap.size := HR5.out.lt
  clear hb4 hs4 g0 g1 hW5 hb5 HS0 HRw HBv
  go_wp2_with fail
  rw [← HW5.out]
  refine (implIn_any e (fun j => (#[.slice xa xl xc, .slice ya yl yc] : Array Value).getD j undef) _ (Lay.sy.more (Lay.sy.sep_lies HX5.out) (by omega)) HD.out).mono ?_
  rintro e' w6 ⟨X1, Y1, rfl, hS1, hb6⟩
  rw [← HT.out] at hS1
  rw [← HV.out]
  obtain ⟨xa1, xc1, ya1, yc1, rfl, rfl⟩ := hS1.form
  obtain ⟨V6, hV6⟩ : ∃ V6, V6 = w6.alloc (.cells #[.slice xa1 T.locs.length xc1, .slice ya1 T.vals.length yc1] 28) := ⟨_, rfl⟩
  have hbv6 : Below w6.heap.size w6 V6 := by rw [hV6]; exact (Below.refl _ _).alloc (Nat.le_refl _) _
  have h56 : W5.heap.size ≤ w6.heap.size := hb6.size
  have HRg : Hid (Row V6 w6.heap.size 28 #[.slice xa1 T.locs.length xc1, .slice ya1 T.vals.length yc1]) := by rw [hV6]; exact Row.new _ _ _
  have HS1 : Hid (StR V6 W5.heap.size w6.heap.size T (.slice xa1 T.locs.length xc1) (.slice ya1 T.vals.length yc1)) := hS1.under hbv6 (Nat.le_refl _)
  have hrw6 := HRw5.out.under hb6 HRw5.out.lt
  have HRw6 := Lib.hid (hrw6.under hbv6 hrw6.lt)
  have HR6 := Lib.hid ((HR5.out.under hb6 HR5.out.lt).under hbv6 (by omega))
  have HX6 := Lib.hid (Lay.sy.sunder (Lay.sy.sunder HX5.out hb6 (by omega)) hbv6 (by omega))
  have HS06 := Lib.hid ((HS5.out.under hb6 (by omega)).under hbv6 (by omega))
  have HB6 : Hid (Below W1.heap.size W1 V6) := (HB5.out.trans (hb6.mono HB5.out.size)).trans (hbv6.mono (by omega))
  have h66 : w6.heap.size < V6.heap.size := HRg.out.lt
  have h36 : w3.heap.size < w6.heap.size := by omega
  have HV6 := Lib.hid hV6
  obtain ⟨r0, r1⟩ := hrw6.two
  clear hS1 hb6 HB5 HR5 HX5 HS5 HB4 hbv6 hrw6 hV6 HRw5
  go_wp2_with fail
  rw [← HV6.out]
  refine (eqSt_any T (fun j => (#[.slice xa1 T.locs.length xc1, .slice ya1 T.vals.length yc1] : Array Value).getD j undef) (fun j => (#[.slice xa0 T.locs.length xc0, .slice ya0 T.vals.length yc0] : Array Value).getD j undef) _ (HS1.out.lies (by omega)) (HS06.out.lies (by omega))).mono ?_
  rintro e' w7 ⟨rfl, hb7⟩
  have HS17 := Lib.hid (HS1.out.under hb7 (by omega))
  have HS07 := Lib.hid (HS06.out.under hb7 (by omega))
  have HR7 := Lib.hid (HR6.out.under hb7 HR6.out.lt)
  have HRg7 := Lib.hid (HRg.out.under hb7 HRg.out.lt)
  have HRw7 := Lib.hid (HRw6.out.under hb7 HRw6.out.lt)
  have HX7 := Lib.hid (Lay.sy.sunder HX6.out hb7 (by omega))
  have HB7 : Hid (Below W1.heap.size W1 w7) := HB6.out.trans (hb7.mono HB6.out.size)
  have h67 : V6.heap.size ≤ w7.heap.size := hb7.size
  clear hb7 HS1 HS06 HR6 HX6 HB6 HRg HRw6 r0 r1
  have hr1 := (HR0.out.under HB7.out HR0.out.lt).under (Below.refl _ _).drew (Nat.lt_of_lt_of_le HR0.out.lt HB7.out.size)
  have hr5 := HR7.out.under (Below.refl _ _).drew HR7.out.lt
  obtain ⟨g0, g1⟩ := (show Row w7 _ _ _ from hr1).two
  obtain ⟨f0, f1⟩ := (show Row w7 _ _ _ from hr5).two
  have l1 : w.heap.size < w7.heap.size := Nat.lt_of_lt_of_le HR0.out.lt HB7.out.size
  have l5 : w4.heap.size < w7.heap.size := by omega
  go_upto_region 10 with fail
  go_cut [45] from 41 to 44 (fun b wx => b = .bool false ∧ Hid (Below w7.heap.size w7 wx))
  case first =>
    have HL8 : Hid (Lay.sy.lies w7.drew w7.drew.heap.size e C) := Lay.sy.later HL.out HB7.out.drew HB7.out.size
    have HX8 : Hid (Lay.sy.lies w7.drew w7.drew.heap.size e (fun j => (#[.slice xa xl xc, .slice ya yl yc] : Array Value).getD j undef)) := Lay.sy.later (Lay.sy.sep_lies HX7.out) (Below.refl _ _).drew (by show _ ≤ w7.heap.size; omega)
    have HR8 := Lib.hid hr5
    go_region_with (first
      | (go_at_call 7
         refine (toSy_any e C _ HL8.out HD.out).mono ?_
         rintro e' w8 ⟨xa', xl', xc', ya', yl', yc', rfl, hs8, hb8⟩
         have hr8 := HR8.out.under hb8 HR8.out.lt
         obtain ⟨o0, o1⟩ := hr8.two
         have HX9 := Lib.hid (Lay.sy.later HX8.out hb8 hb8.size)
         have HY9 := Lib.hid (Lay.sy.sep_lies hs8)
         have HB9 : Hid (Below w7.heap.size w7 w8) := (Below.refl _ _).drew.trans hb8
         clear hb8 hs8 hr8)
      | (go_at_call 10
         refine (eqSy_any e _ _ _ HX9.out HY9.out).mono ?_
         rintro e' w9 ⟨rfl, hb9⟩
         have HB10 : Hid (Below w7.heap.size w7 w9) := HB9.out.trans (hb9.mono HB9.out.size)
         clear hb9))
    all_goals
      (go_wp2_with fail
       go_meet
       exact ⟨rfl, HB10⟩)
  case rest =>
    clear g0 g1 f0 f1 hr1 hr5
    obtain ⟨rfl, HBc⟩ := hcut
    have HSc1 := Lib.hid (HS17.out.under HBc.out (by omega))
    have HSc0 := Lib.hid (HS07.out.under HBc.out (by omega))
    have HRc := Lib.hid (HR7.out.under HBc.out HR7.out.lt)
    have HRgc := Lib.hid (HRg7.out.under HBc.out HRg7.out.lt)
    have HRwc := Lib.hid (HRw7.out.under HBc.out HRw7.out.lt)
    have HXc := Lib.hid (Lay.sy.sunder HX7.out HBc.out (by omega))
    have HBd : Hid (Below W1.heap.size W1 wc) := HB7.out.trans (HBc.out.mono HB7.out.size)
    have h7c : w7.heap.size ≤ wc.heap.size := HBc.out.size
    clear HBc HS17 HS07 HR7 HX7 HB7 HRg7 HRw7
    obtain ⟨f0, f1⟩ := HRc.out.two
    go_wp2_with fail
    refine (mkSy_any e xa xl xc ya yl yc _ _ _ HXc.out (by omega) HD.out).mono ?_
    rintro e' wd ⟨k, rfl, hk0, hkd⟩
    have HSd1 := Lib.hid (HSc1.out.kept hkd (by omega) (.inr (by omega)))
    have HSd0 := Lib.hid (HSc0.out.kept hkd (by omega) (.inl (by omega)))
    have hrgd := HRgc.out.kept hkd (.inr (by omega))
    have hrwd := HRwc.out.kept hkd (.inl (by omega))
    obtain ⟨q0, q1⟩ := hrgd.two
    obtain ⟨r0, r1⟩ := hrwd.two
    have HRgd := Lib.hid hrgd
    have HRwd := Lib.hid hrwd
    have HBe : Hid (Below W1.heap.size W1 wd) := HBd.out.trans (hkd.below (by omega) (by omega))
    have hcd : wc.heap.size ≤ wd.heap.size := hkd.size
    clear hkd HSc1 HSc0 HRc HXc HBd f0 f1 hrgd hrwd HRgc HRwc
    go_wp2_with fail
    refine (eqSt_any T (fun j => (#[.slice xa1 T.locs.length xc1, .slice ya1 T.vals.length yc1] : Array Value).getD j undef) (fun j => (#[.slice xa0 T.locs.length xc0, .slice ya0 T.vals.length yc0] : Array Value).getD j undef) _ (HSd1.out.lies (by omega)) (HSd0.out.lies (by omega))).mono ?_
    rintro e' we ⟨rfl, hbe⟩
    have HSe1 := Lib.hid (HSd1.out.under hbe (by omega))
    have HSe0 := Lib.hid (HSd0.out.under hbe (by omega))
    have hrge := HRgd.out.under hbe HRgd.out.lt
    have HRge := Lib.hid hrge
    have HRwe := Lib.hid (HRwd.out.under hbe HRwd.out.lt)
    have HBf : Hid (Below W1.heap.size W1 we) := HBe.out.trans (hbe.mono HBe.out.size)
    have hde : wd.heap.size ≤ we.heap.size := hbe.size
    clear q0 q1 r0 r1
    obtain ⟨q0, q1⟩ := hrge.two
    clear hbe HSd1 HSd0 HBe hrge HRgd HRwd
    go_wp2_with fail
    refine (mkSt_any T xa1 _ xc1 ya1 _ yc1 _ _ _ HSe1.out (by omega) hT1 hT2).mono ?_
    rintro e' wf ⟨rfl, hsf, hkf⟩
    have HSf1 := Lib.hid hsf
    have HSf0 := Lib.hid (HSe0.out.kept hkf (by omega) (.inl (by omega)))
    have hrgf := HRge.out.kept hkf (.inr (by omega))
    have HRgf := Lib.hid hrgf
    have HRwf := Lib.hid (HRwe.out.kept hkf (.inl (by omega)))
    have HBg : Hid (Below W1.heap.size W1 wf) := HBf.out.trans (hkf.below (by omega) (by omega))
    have hef : we.heap.size ≤ wf.heap.size := hkf.size
    clear q0 q1
    obtain ⟨q0, q1⟩ := hrgf.two
    clear hsf hkf HSe1 HSe0 HBf hrgf HRge HRwe
    go_wp2_with fail
    refine (heldSt_any T (fun j => (#[.slice xa1 T.locs.length xc1, .slice ya1 T.vals.length yc1] : Array Value).getD j undef) _ (HSf1.out.lies (by omega)) hT1 hT2).mono ?_
    rintro e' wg ⟨rfl, hbg⟩
    have HSg1 := Lib.hid (HSf1.out.under hbg (by omega))
    have HSg0 := Lib.hid (HSf0.out.under hbg (by omega))
    have HRgg := Lib.hid (HRgf.out.under hbg HRgf.out.lt)
    have HRwg := Lib.hid (HRwf.out.under hbg HRwf.out.lt)
    have HBh : Hid (Below W1.heap.size W1 wg) := HBg.out.trans (hbg.mono HBg.out.size)
    have hfg : wf.heap.size ≤ wg.heap.size := hbg.size
    clear hbg HSf1 HSf0 HBg q0 q1 HRgf HRwf
    obtain ⟨g0, g1⟩ := (HR0.out.under HBh.out HR0.out.lt).two
    go_wp2_with fail
    refine (toSy_any e C _ (Lay.sy.later HL.out HBh.out HBh.out.size) HD.out).mono ?_
    rintro e' wh ⟨za, zl, zc, ta, tl, tc, rfl, hsh, hbh⟩
    have HOh := Lib.hid (Lay.sy.sep_lies hsh)
    have HSh1 := Lib.hid (HSg1.out.under hbh (by omega))
    have HSh0 := Lib.hid (HSg0.out.under hbh (by omega))
    have HRgh := Lib.hid (HRgg.out.under hbh HRgg.out.lt)
    have HRwh := Lib.hid (HRwg.out.under hbh HRwg.out.lt)
    have HBi : Hid (Below W1.heap.size W1 wh) := HBh.out.trans (hbh.mono HBh.out.size)
    have hgh : wg.heap.size ≤ wh.heap.size := hbh.size
    clear hbh hsh HSg1 HSg0 HBh g0 g1 HRgg HRwg
    go_wp2_with fail
    refine (implIn_any e (fun j => (#[.slice za zl zc, .slice ta tl tc] : Array Value).getD j undef) _ HOh.out HD.out).mono ?_
    rintro e' wi ⟨X2, Y2, rfl, hS2, hbi⟩
    rw [← HT.out] at hS2
    rw [← HV.out]
    obtain ⟨xa2, xc2, ya2, yc2, rfl, rfl⟩ := hS2.form
    obtain ⟨Vi, hVi⟩ : ∃ Vi, Vi = wi.alloc (.cells #[.slice xa2 T.locs.length xc2, .slice ya2 T.vals.length yc2] 28) := ⟨_, rfl⟩
    have hbvi : Below wi.heap.size wi Vi := by rw [hVi]; exact (Below.refl _ _).alloc (Nat.le_refl _) _
    have hhi : wh.heap.size ≤ wi.heap.size := hbi.size
    have hii := hbvi.size
    have HS2 := Lib.hid (hS2.under hbvi (Nat.le_refl _))
    have HSi1 := Lib.hid ((HSh1.out.under hbi (by omega)).under hbvi (by omega))
    have HSi0 := Lib.hid ((HSh0.out.under hbi (by omega)).under hbvi (by omega))
    have HRgi := Lib.hid ((HRgh.out.under hbi HRgh.out.lt).under hbvi (by omega))
    have hrwi := HRwh.out.under hbi HRwh.out.lt
    have HBj : Hid (Below W1.heap.size W1 Vi) := (HBi.out.trans (hbi.mono HBi.out.size)).trans (hbvi.mono (by omega))
    have HVi := Lib.hid hVi
    have h3i : w3.heap.size < wi.heap.size := by omega
    obtain ⟨r0, r1⟩ := hrwi.two
    clear hbi hS2 HSh1 HSh0 HBi HOh hVi hbvi hrwi HRgh HRwh
    go_wp2_with fail
    rw [← HVi.out]
    refine (eqSt_any T (fun j => (#[.slice xa2 T.locs.length xc2, .slice ya2 T.vals.length yc2] : Array Value).getD j undef) (fun j => (#[.slice xa0 T.locs.length xc0, .slice ya0 T.vals.length yc0] : Array Value).getD j undef) _ (HS2.out.lies (by omega)) (HSi0.out.lies (by omega))).mono ?_
    rintro e' wj ⟨rfl, hbj⟩
    have HSj1 := Lib.hid (HSi1.out.under hbj (by omega))
    have hrgj := HRgi.out.under hbj HRgi.out.lt
    have HBk : Hid (Below W1.heap.size W1 wj) := HBj.out.trans (hbj.mono HBj.out.size)
    have hij := hbj.size
    obtain ⟨q0, q1⟩ := hrgj.two
    clear hbj HSi1 HSi0 HBj r0 r1 hrgj HRgi
    go_wp2_with fail
    refine (heldSt_any T (fun j => (#[.slice xa1 T.locs.length xc1, .slice ya1 T.vals.length yc1] : Array Value).getD j undef) _ (HSj1.out.lies (by omega)) hT1 hT2).mono ?_
    rintro e' wk ⟨rfl, hbk⟩
    have HBl : Hid (Below w.heap.size w wk) := HB0.out.trans ((HBk.out.trans (hbk.mono HBk.out.size)).mono HB0.out.size)
    clear hbk HBk
    go_wp2_with fail
    go_ret
    exact ⟨rfl, HBl.out⟩

end Go.Proofs.Ytiipcdjmemofgaa

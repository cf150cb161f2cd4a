/- The walk of spec.InitialState. -/
import Derived.Test.YtiipcdjmemofgaaInV
namespace Go.Proofs.Ytiipcdjmemofgaa
open Go.RowKit

set_option maxHeartbeats 1000000 in
set_option maxRecDepth 100000 in
theorem specIn_any (e : Sy) (C : Nat → Value) (w : World) (hL : Lay.sy.lies w w.heap.size e C) (hd : Lay.sy.sz e ≤ 1048576) :
    Calls Try.prog 6 #[.agg #[C 0, C 1]] w (InPost e w) := by
  obtain ⟨W1, hW1⟩ : ∃ W1, W1 = (w.alloc (.cells #[C 0, C 1] 33)).alloc (.cells #[.slice none 0 0, .slice none 0 0] 28) := ⟨_, rfl⟩
  have hrows := rows2 w 33 28 #[C 0, C 1] #[.slice none 0 0, .slice none 0 0]
  rw [← hW1] at hrows
  obtain ⟨hra, hrb, hb0⟩ := hrows
  have HL : Hid (Lay.sy.lies W1 W1.heap.size e C) := Lay.sy.later hL hb0 hb0.size
  have HW1 := Lib.hid hW1
  have HB0 := Lib.hid hb0
  have HRa := Lib.hid hra
  have HRb := Lib.hid hrb
  have HD := Lib.hid hd
  obtain ⟨vs, hvs⟩ : ∃ vs, vs = syOk e := ⟨_, rfl⟩
  have HVs := Lib.hid hvs
  clear hL hW1 hb0 hra hrb hvs
  go_enter Try.func6, Try.ntmps6
  go_wp2_with fail
  rw [← HW1.out]
  refine (specSy_any e C W1 HL.out HD.out).mono ?_
  rintro e' w1 ⟨rfl, hb1⟩
  rw [← HVs.out]
  have HB1 : Hid (Below w.heap.size w w1) := HB0.out.trans (hb1.mono HB0.out.size)
  have hL1 := Lay.sy.later HL.out hb1 hb1.size
  obtain ⟨g0, g1⟩ := (HRa.out.under hb1 HRa.out.lt).two
  have hrb1 := HRb.out.under hb1 HRb.out.lt
  obtain ⟨p0, p1⟩ := hrb1.two
  have z0 := hrb1.frozen 0
  have z1 := hrb1.frozen 1
  have hlw : w.heap.size + 1 < w1.heap.size := hrb1.lt
  have hlw0 : w.heap.size < w1.heap.size := by omega
  obtain ⟨ini, ps⟩ := e
  obtain ⟨⟨A0, cap0, b0, off0, E0, q0, hl0, hO0⟩, A1, cap1, b1, off1, E1, q1, hl1, hO1⟩ := sy_lies hL1
  rw [q0] at g0
  rw [q1] at g1
  rw [sy_sz] at hd
  have hn : ps.length ≤ 1048576 := by have := Lay.pr.szL_length ps; dsimp only at hd; omega
  have HRa1 := Lib.hid (HRa.out.under hb1 HRa.out.lt)
  rw [q0, q1] at HRa1
  have HRb1 := Lib.hid hrb1
  clear hb1 hL1 HL HRa HRb q0 q1 hO1 HW1 hd hl1 hl0 hrb1
  cases vs
  · have HN : Hid (inSt ⟨ini, ps⟩ = ⟨[], []⟩) := by show _ = _; unfold inSt; rw [← HVs.out]; rfl
    have HF : Hid (∀ W, Tw (w.heap.size + 1) (w.heap.size + 1) w1 W → InPost ⟨ini, ps⟩ w (.returned (.tuple #[.agg #[.slice none 0 0, .slice none 0 0], .bool false])) W) := fun W hT => by
      have hb := hT.below HB1.out (by omega) (by omega)
      exact ⟨_, _, by rw [← HVs.out], by rw [HN.out]; exact StR.nil _ _ _ hb.size _ _ _ _, hb⟩
    go_wp2_with fail
    refine bodyPost_ret (v := .tuple #[.agg #[.slice none 0 0, .slice none 0 0], .bool false]) (by simp [results, Try.results6, go_sem, p0, p1]) rfl ?_
    exact HF.out _ (((Tw.refl _ _ _).sa _ _).sa _ _)
  obtain ⟨a, b, c, hini⟩ := syOk_ini (s := ⟨ini, ps⟩) HVs.out.symm
  dsimp only at hini
  subst hini
  have HI := ints_of hO0
  obtain ⟨hA, hbl, i0⟩ := HI 0 a rfl
  obtain ⟨_, _, i1⟩ := HI 1 b rfl
  obtain ⟨_, _, i2⟩ := HI 2 c rfl
  subst hA
  replace g0 : w1.cell? ⟨w.heap.size, 0, none⟩ = some (.slice (some ⟨b0, off0, none⟩) 3 cap0) := g0
  replace HRa1 : Hid (Row w1 w.heap.size 33 #[.slice (some ⟨b0, off0, none⟩) 3 cap0, .slice A1 ps.length cap1]) := HRa1
  obtain ⟨cs, hcs, hmk⟩ := make_ints ps.length hn
  have HCs := Lib.hid hcs
  have HN : Hid (inSt ⟨[a, b, c], ps⟩ = ⟨List.replicate ps.length 0, [a, b, c]⟩) := by show _ = _; unfold inSt; rw [← HVs.out]; rfl
  have hadd : ∀ j, (⟨b0, off0, none⟩ : Addr).add j = ⟨b0, off0 + j, none⟩ := fun j => by unfold Addr.add; split <;> simp_all
  have hk : ∀ (W : World), Below w1.heap.size w1 W → ∀ (j : Nat) (v : Value), w1.cell? ⟨b0, off0 + j, none⟩ = some v → W.cell? ((⟨b0, off0, none⟩ : Addr).add j) = some v := fun W hb j v h => by
    rw [hadd, Below.cell hb hbl]
    exact h
  have bA : Below w1.heap.size w1 ((w1.alloc (.cells cs 3)).alloc (.cells #[] 3)).drew := (((Below.refl _ _).alloc (Nat.le_refl _) _).alloc (by simp) _).drew
  have bB : Below w1.heap.size w1 ((w1.alloc (.cells #[] 3)).alloc (.cells cs 3)).drew := (((Below.refl _ _).alloc (Nat.le_refl _) _).alloc (by simp) _).drew
  have bC : Below w1.heap.size w1 (w1.alloc (.cells #[] 3)).drew := ((Below.refl _ _).alloc (Nat.le_refl _) _).drew
  obtain ⟨kA, dA, aA, sA⟩ := app3 ((w1.alloc (.cells cs 3)).alloc (.cells #[] 3)).drew 22 a b c (some ⟨w1.heap.size + 1, 0, none⟩) ⟨b0, off0, none⟩ cap0 (hk _ bA 0 _ i0) (hk _ bA 1 _ i1) (hk _ bA 2 _ i2)
  obtain ⟨kB, dB, aB, sB⟩ := app3 ((w1.alloc (.cells #[] 3)).alloc (.cells cs 3)).drew 22 a b c (some ⟨w1.heap.size, 0, none⟩) ⟨b0, off0, none⟩ cap0 (hk _ bB 0 _ i0) (hk _ bB 1 _ i1) (hk _ bB 2 _ i2)
  obtain ⟨kC, dC, aC, sC⟩ := app3 (w1.alloc (.cells #[] 3)).drew 22 a b c (some ⟨w1.heap.size, 0, none⟩) ⟨b0, off0, none⟩ cap0 (hk _ bC 0 _ i0) (hk _ bC 1 _ i1) (hk _ bC 2 _ i2)
  have HA := Lib.hid aA
  have HB := Lib.hid aB
  have HC := Lib.hid aC
  have HFin : Hid (∀ (W : World) (g h k : Nat) (ds : Array Value), Row W g 3 cs → Row W h 3 ds → w1.heap.size ≤ g → w1.heap.size ≤ h → g ≠ h → (∀ (i : Nat) (z : Int), ([a, b, c] : List Int)[i]? = some z → ds[i]? = some (Value.int .i64 z)) → Below w.heap.size w W → InPost ⟨[a, b, c], ps⟩ w (.returned (.tuple #[.agg #[.slice (some ⟨g, 0, none⟩) ps.length ps.length, .slice (some ⟨h, 0, none⟩) 3 k], .bool true])) W.drew.drew) := fun W g h k ds r1 r2 h1 h2 h3 h4 hb =>
    ⟨_, _, by rw [← HVs.out], by rw [HN.out]; exact (StR.two r1 r2 (by omega) (by omega) h3 hn HCs.out h4).keep (fun _ _ _ => rfl), hb.drew.drew⟩
  have HY : Hid (∀ Y, Tw (w.heap.size + 1) (w.heap.size + 1) w1 Y → Y.heap.size = w1.heap.size ∧ ∀ o1 o2 o3, Below w.heap.size w (((Y.alloc o1).alloc o2).alloc o3)) := fun Y hT => ⟨hT.size, fun o1 o2 o3 => by
    have hb := hT.below HB1.out (by omega) (by omega)
    exact ((hb.alloc hb.size o1).alloc (by simp; have := hb.size; omega) o2).alloc (by simp; have := hb.size; omega) o3⟩
  have HS : Hid ((∀ (i : Nat) (z : Int), ([a, b, c] : List Int)[i]? = some z → dA[i]? = some (Value.int .i64 z)) ∧ (∀ (i : Nat) (z : Int), ([a, b, c] : List Int)[i]? = some z → dB[i]? = some (Value.int .i64 z)) ∧ (∀ (i : Nat) (z : Int), ([a, b, c] : List Int)[i]? = some z → dC[i]? = some (Value.int .i64 z))) := ⟨sA, sB, sC⟩
  have HK1 : Hid (∀ Y o1 o2 o3, Tw (w.heap.size + 1) (w.heap.size + 1) w1 Y → ((((Y.alloc o1).alloc o2).alloc o3).drew.drew).cell? ⟨w.heap.size, 1, none⟩ = some (.slice A1 ps.length cap1) ∧ ((((Y.alloc o1).alloc o2).alloc o3).drew.drew).cell? ⟨w.heap.size, 0, none⟩ = some (.slice (some ⟨b0, off0, none⟩) 3 cap0)) := fun Y o1 o2 o3 hT => by
    have hb : Below Y.heap.size Y ((((Y.alloc o1).alloc o2).alloc o3).drew.drew) := ((((Below.refl _ _).alloc (Nat.le_refl _) o1).alloc (by simp) o2).alloc (by simp; omega) o3).drew.drew
    have hr : Row Y w.heap.size 33 #[.slice (some ⟨b0, off0, none⟩) 3 cap0, .slice A1 ps.length cap1] := (hT.other _ (by omega) (by omega)).trans HRa1.out
    exact ⟨(hr.under hb hr.lt).cell 1, (hr.under hb hr.lt).cell 0⟩
  have HRes : Hid (∀ (X Y : Value) (o1 o2 o3 : Obj), (((((w1.setCell ⟨w.heap.size + 1, 0, none⟩ X).setCell ⟨w.heap.size + 1, 1, none⟩ Y).alloc o1).alloc o2).alloc o3).drew.drew.cell? ⟨w.heap.size + 1, 0, none⟩ = some X ∧ (((((w1.setCell ⟨w.heap.size + 1, 0, none⟩ X).setCell ⟨w.heap.size + 1, 1, none⟩ Y).alloc o1).alloc o2).alloc o3).drew.drew.cell? ⟨w.heap.size + 1, 1, none⟩ = some Y) := fun X Y o1 o2 o3 => by
    have hr : Row ((w1.setCell ⟨w.heap.size + 1, 0, none⟩ X).setCell ⟨w.heap.size + 1, 1, none⟩ Y) (w.heap.size + 1) 28 #[X, Y] := (HRb1.out.set_ 0 X).set_ 1 Y
    have hb := ((((Below.refl _ ((w1.setCell ⟨w.heap.size + 1, 0, none⟩ X).setCell ⟨w.heap.size + 1, 1, none⟩ Y)).alloc (Nat.le_refl _) o1).alloc (by simp) o2).alloc (by simp; omega) o3).drew.drew
    exact ⟨(hr.under hb hr.lt).cell 0, (hr.under hb hr.lt).cell 1⟩
  clear i0 i1 i2 HI hO0 hk hadd hcs bA bB bC aA aB aC sA sB sC
  go_wp2_with fail
  go_region_held3 (fun w' => w'.cell? ⟨w.heap.size, 1, none⟩ = some (.slice A1 ps.length cap1) ∧ w'.cell? ⟨w.heap.size, 0, none⟩ = some (.slice (some ⟨b0, off0, none⟩) 3 cap0)) (first | (go_keep; done) | with_reducible exact HK1.out _ _ _ _ (((Tw.refl _ _ _).sa _ _).sa _ _) | with_reducible exact HK1.out _ _ _ _ (Tw.refl _ _ _)) (first
    | (with_reducible refine step_append_eq ?_ (.tmp 12) (.tmp 14) 22 ?_ ?_ ?_ HA.out ?_
       · rfl
       · rfl
       · rfl
       · rfl)
    | (with_reducible refine step_append_eq ?_ (.tmp 12) (.tmp 14) 22 ?_ ?_ ?_ HB.out ?_
       · rfl
       · rfl
       · rfl
       · rfl)
    | (with_reducible refine step_append_eq ?_ (.tmp 12) (.tmp 14) 22 ?_ ?_ ?_ HC.out ?_
       · rfl
       · rfl
       · rfl
       · rfl))
  all_goals go_wp2_with fail
  all_goals first
    | (obtain ⟨c0, c1⟩ := HRes.out (.slice (some ⟨w1.heap.size, 0, none⟩) ps.length ps.length) (.slice (some ⟨w1.heap.size + 1 + 1, 0, none⟩) 3 kA) (.cells cs 3) (.cells #[] 3) (.cells dA 3)
       refine bodyPost_ret (v := .tuple #[.agg #[.slice (some ⟨w1.heap.size, 0, none⟩) ps.length ps.length, .slice (some ⟨w1.heap.size + 1 + 1, 0, none⟩) 3 kA], .bool true]) ?_ rfl ?_
       · simp [results, Try.results6, go_sem, c0, c1]
       exact HFin.out _ (w1.heap.size) (w1.heap.size + 1 + 1) kA dA (three_boxesY (HY.out _ (((Tw.refl _ _ _).sa _ _).sa _ _)).1 _ _ _ cs #[] dA).1 (three_boxesY (HY.out _ (((Tw.refl _ _ _).sa _ _).sa _ _)).1 _ _ _ cs #[] dA).2.2 (by omega) (by omega) (by omega) HS.out.1 ((HY.out _ (((Tw.refl _ _ _).sa _ _).sa _ _)).2 _ _ _))
    | (obtain ⟨c0, c1⟩ := HRes.out (.slice (some ⟨w1.heap.size + 1, 0, none⟩) ps.length ps.length) (.slice (some ⟨w1.heap.size + 1 + 1, 0, none⟩) 3 kB) (.cells #[] 3) (.cells cs 3) (.cells dB 3)
       refine bodyPost_ret (v := .tuple #[.agg #[.slice (some ⟨w1.heap.size + 1, 0, none⟩) ps.length ps.length, .slice (some ⟨w1.heap.size + 1 + 1, 0, none⟩) 3 kB], .bool true]) ?_ rfl ?_
       · simp [results, Try.results6, go_sem, c0, c1]
       exact HFin.out _ (w1.heap.size + 1) (w1.heap.size + 1 + 1) kB dB (three_boxesY (HY.out _ (((Tw.refl _ _ _).sa _ _).sa _ _)).1 _ _ _ #[] cs dB).2.1 (three_boxesY (HY.out _ (((Tw.refl _ _ _).sa _ _).sa _ _)).1 _ _ _ #[] cs dB).2.2 (by omega) (by omega) (by omega) HS.out.2.1 ((HY.out _ (((Tw.refl _ _ _).sa _ _).sa _ _)).2 _ _ _))
    | (obtain ⟨c0, c1⟩ := HRes.out (.slice (some ⟨w1.heap.size + 1 + 1, 0, none⟩) ps.length ps.length) (.slice (some ⟨w1.heap.size + 1, 0, none⟩) 3 kC) (.cells #[] 3) (.cells dC 3) (.cells cs 3)
       refine bodyPost_ret (v := .tuple #[.agg #[.slice (some ⟨w1.heap.size + 1 + 1, 0, none⟩) ps.length ps.length, .slice (some ⟨w1.heap.size + 1, 0, none⟩) 3 kC], .bool true]) ?_ rfl ?_
       · simp [results, Try.results6, go_sem, c0, c1]
       exact HFin.out _ (w1.heap.size + 1 + 1) (w1.heap.size + 1) kC dC (three_boxesY (HY.out _ (((Tw.refl _ _ _).sa _ _).sa _ _)).1 _ _ _ #[] dC cs).2.2 (three_boxesY (HY.out _ (((Tw.refl _ _ _).sa _ _).sa _ _)).1 _ _ _ #[] dC cs).2.1 (by omega) (by omega) (by omega) HS.out.2.2 ((HY.out _ (((Tw.refl _ _ _).sa _ _).sa _ _)).2 _ _ _))
    | (trace_state
       sorry)

end Go.Proofs.Ytiipcdjmemofgaa

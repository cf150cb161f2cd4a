/- The walk of spec.l1Random: some tree is drawn. -/
import Derived.Test.YtkcgjgdcmdjcfaaD2
import Derived.Test.YtkcgjgdcmdjcfaaW7
import Derived.Test.YtkcgjgdcmdjcfaaW1
import Derived.Deep.RegionLaw
namespace Go.Proofs.Ytkcgjgdcmdjcfaa
open Go.RowKit

/-- What a call that draws a tree leaves. -/
def RandPost (g : Nat) (A : Option Addr) (b off n cap : Nat) (p : Int) (D : Nat) (m : Int) (w : World) (e' : Ending) (w' : World) : Prop :=
  ∃ (e : Ex) (d0 d1 d2 : Value), e' = .returned (.agg #[d0, d1, d2]) ∧ Own w' 25 w.heap.size w'.heap.size e d0 d1 d2 ∧ desc e ≤ D ∧ Picked g A b off n cap p m w w'

theorem ints_lit (w : World) (zs : List Int) : Ints (w.alloc (.cells (zs.map (Value.int .i64)).toArray 3)) (w.alloc (.cells (zs.map (Value.int .i64)).toArray 3)).heap.size (some ⟨w.heap.size, 0, none⟩) w.heap.size 0 zs := fun i z hz => by
  refine ⟨rfl, by simp, ?_⟩
  rw [(Row.new w 3 _).cell, Nat.zero_add]
  simp [hz]

/-- A leaf has been stored into the result's block. -/
theorem leaf_post {g : Nat} {A : Option Addr} {b off n cap : Nat} {p pc m : Int} {D : Nat} {w wc : World} (k v : Int) (hgN : g < w.heap.size) (hg : w.grownBy wc (some g)) (hS : Src wc g A b off n cap pc) (hp : p ≤ pc) (hm : pc ≤ p + m) {u0 u1 u2 : Value} :
    RandPost g A b off n cap p D m w (.returned (.agg #[.int .i64 k, .int .i64 v, .slice none 0 0])) (((wc.setCell ⟨w.heap.size, 0, none⟩ u0).setCell ⟨w.heap.size, 1, none⟩ u1).setCell ⟨w.heap.size, 2, none⟩ u2) := by
  have hb : Below w.heap.size wc (((wc.setCell ⟨w.heap.size, 0, none⟩ u0).setCell ⟨w.heap.size, 1, none⟩ u1).setCell ⟨w.heap.size, 2, none⟩ u2) :=
    (((Below.refl _ _).setCell (p := ⟨w.heap.size, 0, none⟩) (Nat.le_refl _) _).setCell (p := ⟨w.heap.size, 1, none⟩) (Nat.le_refl _) _).setCell (p := ⟨w.heap.size, 2, none⟩) (Nat.le_refl _) _
  exact ⟨.node k v [], _, _, _, rfl, (Built.nil _ _ _).own k v, Nat.zero_le _, grown_below hg hb (Nat.le_refl _), pc, hp, hm, hS.under hb hgN⟩

def RandSaid (d : Nat) : Prop := ∀ (dd : Int) (g : Nat) (A : Option Addr) (b off n cap : Nat) (p : Int) (w : World), dd ≤ d + 1 → -10 ≤ dd → Src w g A b off n cap p → 0 ≤ p → p + mx d ≤ 1000000 →
    Calls Try.prog 53 #[.pointer (some ⟨g, 0, none⟩), .int .i64 dd] w (RandPost g A b off n cap p (dsc d) (mx d) w)

theorem RandSaid.call {d : Nat} (h : RandSaid d) (dd : Int) (g : Nat) (A : Option Addr) (b off n cap : Nat) (p : Int) (w : World) (h1 : dd ≤ d + 1) (h2 : -10 ≤ dd) (h3 : Src w g A b off n cap p) (h4 : 0 ≤ p) (h5 : p + mx d ≤ 1000000) :
    Calls Try.prog 53 #[.pointer (some ⟨g, 0, none⟩), .int .i64 dd] w (RandPost g A b off n cap p (dsc d) (mx d) w) := h dd g A b off n cap p w h1 h2 h3 h4 h5

set_option maxHeartbeats 1000000 in
set_option maxRecDepth 100000 in
theorem rand_leaf (d : Nat) (dd : Int) (g : Nat) (A : Option Addr) (b off n cap : Nat) (p : Int) (w : World) (hdd : dd < 2) (hS : Src w g A b off n cap p) (hp0 : 0 ≤ p) (hp1 : p + mx d ≤ 1000000) :
    Calls Try.prog 53 #[.pointer (some ⟨g, 0, none⟩), .int .i64 dd] w (RandPost g A b off n cap p (dsc d) (mx d) w) := by
  have hgN : g < w.heap.size := hS.lt
  have hNg : w.heap.size ≠ g := by omega
  have hmx := mx_pos d
  obtain ⟨W1, hW1⟩ : ∃ W1, W1 = w.alloc (.cells #[.int .i64 0, .int .i64 0, .slice none 0 0] 25) := ⟨_, rfl⟩
  have hB1 : Below w.heap.size w W1 := by rw [hW1]; exact (Below.refl _ _).alloc (Nat.le_refl _) _
  have HSA := Lib.hid (hS.under hB1 hS.lt)
  have HGA : Hid (w.grownBy W1 (some g)) := ⟨hB1.os, hB1.tape, hB1.output, hB1.size, fun k hk _ => hB1.block k hk⟩
  have HRA : Hid (Row W1 w.heap.size 25 #[.int .i64 0, .int .i64 0, .slice none 0 0]) := by rw [hW1]; exact Row.new _ _ _
  have HZA : Hid (w.heap.size + 1 ≤ W1.heap.size) := by show _ ≤ _; rw [hW1]; simp
  have HW1 := Lib.hid hW1
  clear hW1 hB1 hS
  go_enter Try.func53, Try.ntmps53
  go_wp2_with fail
  rw [← HW1.out]
  (-- the leaf: a constant or a variable, out of a world WA whose source has picked pa numbers
   refine (pick_any g A b off n cap p 3 _ HSA.out (by omega) (by omega) (by omega) (by omega)).mono ?_
   rintro e' wb ⟨r, rfl, hr0, hr1, hPb⟩
   obtain ⟨hgb, pb, hpb0, hpb1, hSb⟩ := hPb
   have HGb := Lib.hid (grown_trans HGA.out hgb)
   have HRb := Lib.hid (HRA.out.grown hgb hNg)
   have HSb := Lib.hid hSb
   have HZb : Hid (w.heap.size + 1 ≤ wb.heap.size) := Nat.le_trans HZA.out hgb.size
   clear hgb hSb HSA HGA HRA HZA
   by_cases hr : r = 0
   · subst hr
     go_wp2_with fail
     refine (pick_any g A b off n cap pb 4 _ HSb.out (by omega) (by omega) (by omega) (by omega)).mono ?_
     rintro e' wc ⟨r, rfl, hr0', hr1', hPc⟩
     obtain ⟨hgc, pc, hpc0, hpc1, hSc⟩ := hPc
     have hrc := HRb.out.grown hgc hNg
     have p0 : wc.cell? ⟨w.heap.size, 0, none⟩ = some (.int .i64 0) := hrc.cell 0
     have p1 : wc.cell? ⟨w.heap.size, 1, none⟩ = some (.int .i64 0) := hrc.cell 1
     have p2 : wc.cell? ⟨w.heap.size, 2, none⟩ = some (.slice none 0 0) := hrc.cell 2
     have z0 := hrc.frozen 0
     have z1 := hrc.frozen 1
     have z2 := hrc.frozen 2
     have HGc := Lib.hid (grown_trans HGb.out hgc)
     have HSc := Lib.hid hSc
     clear hgc hSc hrc
     go_wp2_with fail
     refine bodyPost_ret (v := .agg #[.int .i64 1, .int .i64 r, .slice none 0 0]) (by simp [results, Try.results53, go_sem, p0, p1, p2]) rfl ?_
     exact leaf_post 1 r hgN HGc.out HSc.out (by omega) (by have := mx_pos d; omega)
   · have hrb : (r == 0) = false := by rw [beq_eq_false_iff_ne]; exact hr
     have hIl : Ints (wb.alloc (.cells #[.int .i64 0, .int .i64 1, .int .i64 0, .int .i64 2] 3)) (wb.alloc (.cells #[.int .i64 0, .int .i64 1, .int .i64 0, .int .i64 2] 3)).heap.size (some ⟨wb.heap.size, 0, none⟩) wb.heap.size 0 [0, 1, 0, 2] := ints_lit wb [0, 1, 0, 2]
     have HIl := Lib.hid hIl
     clear hIl
     go_wp2_with fail
     refine (num_any [0, 1, 0, 2] g A b off n cap pb _ (HSb.out.under ((Below.refl _ wb).alloc (Nat.le_refl _) _) HSb.out.lt) (by omega) (by omega) _ wb.heap.size 0 4 HIl.out (by have := HSb.out.lt; omega) (by simp) (by simp)).mono ?_
     rintro e' wc ⟨r', rfl, hmem, hPc⟩
     obtain ⟨hgc, pc, hpc0, hpc1, hSc⟩ := hPc
     have hgc' : wb.grownBy wc (some g) := below_grown ((Below.refl _ wb).alloc (Nat.le_refl _) _) hgc
     have hrc := HRb.out.grown hgc' hNg
     have p0 : wc.cell? ⟨w.heap.size, 0, none⟩ = some (.int .i64 0) := hrc.cell 0
     have p1 : wc.cell? ⟨w.heap.size, 1, none⟩ = some (.int .i64 0) := hrc.cell 1
     have p2 : wc.cell? ⟨w.heap.size, 2, none⟩ = some (.slice none 0 0) := hrc.cell 2
     have z0 := hrc.frozen 0
     have z1 := hrc.frozen 1
     have z2 := hrc.frozen 2
     have HGc := Lib.hid (grown_trans HGb.out hgc')
     have HSc := Lib.hid hSc
     clear hgc hgc' hSc hrc hmem
     go_wp2_with fail
     refine bodyPost_ret (v := .agg #[.int .i64 2, .int .i64 r', .slice none 0 0]) (by simp [results, Try.results53, go_sem, p0, p1, p2]) rfl ?_
     exact leaf_post 2 r' hgN HGc.out HSc.out (by omega) (by have := mx_pos d; omega))

/-- j times m. -/
def bd : Nat → Int → Int
  | 0, _ => 0
  | j + 1, m => bd j m + m
def bdN : Nat → Nat → Nat
  | 0, _ => 0
  | j + 1, m => bdN j m + m
theorem bd_le {j : Nat} {m : Int} (hj : j ≤ 2) (hm : 0 ≤ m) : 0 ≤ bd j m ∧ bd j m ≤ 2 * m := by
  match j, hj with
  | 0, _ => simp only [bd]; omega
  | 1, _ => simp only [bd]; omega
  | 2, _ => simp only [bd]; omega
theorem bd_le1 {j : Nat} {m : Int} (hj : j < 2) (hm : 0 ≤ m) : bd j m ≤ m := by
  match j, hj with
  | 0, _ => simp only [bd]; omega
  | 1, _ => simp only [bd]; omega
theorem bdN_le {j : Nat} {m : Nat} (hj : j ≤ 2) : bdN j m ≤ 2 * m := by
  match j, hj with
  | 0, _ => simp only [bdN]; omega
  | 1, _ => simp only [bdN]; omega
  | 2, _ => simp only [bdN]; omega

theorem arity_list {k : Int} (h : k ∈ ([6, 8, 7, 4, 3, 5, 9] : List Int)) : ∃ ar : Nat, arity k = ar ∧ 1 ≤ ar ∧ ar ≤ 2 := by
  simp only [List.mem_cons, List.not_mem_nil, or_false] at h
  rcases h with rfl | rfl | rfl | rfl | rfl | rfl | rfl
  · exact ⟨2, rfl, by omega, by omega⟩
  · exact ⟨2, rfl, by omega, by omega⟩
  · exact ⟨2, rfl, by omega, by omega⟩
  · exact ⟨2, rfl, by omega, by omega⟩
  · exact ⟨1, rfl, by omega, by omega⟩
  · exact ⟨2, rfl, by omega, by omega⟩
  · exact ⟨2, rfl, by omega, by omega⟩

set_option maxHeartbeats 2000000 in
set_option maxRecDepth 100000 in
theorem rand_inner (d : Nat) (ih : RandSaid d) (dd : Int) (g : Nat) (A : Option Addr) (b off n cap : Nat) (p : Int) (w : World) (hdd : 2 ≤ dd) (hdl : dd ≤ d + 1 + 1) (hd9 : d ≤ 10) (hS : Src w g A b off n cap p) (hp0 : 0 ≤ p) (hp1 : p + mx (d + 1) ≤ 1000000) :
    Calls Try.prog 53 #[.pointer (some ⟨g, 0, none⟩), .int .i64 dd] w (RandPost g A b off n cap p (dsc (d + 1)) (mx (d + 1)) w) := by
  have HIH := Lib.hid ih
  have hgN : g < w.heap.size := hS.lt
  have hNg : w.heap.size ≠ g := by omega
  have hmx := mx_pos d
  have hmx2 : mx (d + 1) = 3 + 2 * mx d := rfl
  have hmp : p + 3 + 2 * mx d ≤ 1000000 := by omega
  have HMx := Lib.hid hmx2
  obtain ⟨W1, hW1⟩ : ∃ W1, W1 = w.alloc (.cells #[.int .i64 0, .int .i64 0, .slice none 0 0] 25) := ⟨_, rfl⟩
  have hB1 : Below w.heap.size w W1 := by rw [hW1]; exact (Below.refl _ _).alloc (Nat.le_refl _) _
  have HSA0 := Lib.hid (hS.under hB1 hS.lt)
  have HGA0 : Hid (w.grownBy W1 (some g)) := ⟨hB1.os, hB1.tape, hB1.output, hB1.size, fun k hk _ => hB1.block k hk⟩
  have HRA0 : Hid (Row W1 w.heap.size 25 #[.int .i64 0, .int .i64 0, .slice none 0 0]) := by rw [hW1]; exact Row.new _ _ _
  have HZA0 : Hid (w.heap.size + 1 ≤ W1.heap.size) := by show _ ≤ _; rw [hW1]; simp
  have HW1 := Lib.hid hW1
  clear hW1 hB1 hS hmx2 hp1 ih
  have hdb : decide (dd < 2) = false := by simpa using hdd
  go_enter Try.func53, Try.ntmps53
  go_wp2_with fail
  rw [← HW1.out]
  refine (pick_any g A b off n cap p 5 _ HSA0.out (by omega) (by omega) (by omega) (by omega)).mono ?_
  rintro e' wa ⟨r0, rfl, hr00, hr01, hPa⟩
  obtain ⟨hga, p1, hpa0, hpa1, hSa⟩ := hPa
  have HGA := Lib.hid (grown_trans HGA0.out hga)
  have HRA := Lib.hid (HRA0.out.grown hga hNg)
  have HSA := Lib.hid hSa
  have HZA : Hid (w.heap.size + 1 ≤ wa.heap.size) := Nat.le_trans HZA0.out hga.size
  clear hga hSa HSA0 HGA0 HRA0 HZA0 HW1
  by_cases hr0 : r0 = 0
  · subst hr0
    go_wp2_with fail
    (-- the leaf: a constant or a variable, out of a world WA whose source has picked pa numbers
     refine (pick_any g A b off n cap p1 3 _ HSA.out (by omega) (by omega) (by omega) (by omega)).mono ?_
     rintro e' wb ⟨r, rfl, hr0, hr1, hPb⟩
     obtain ⟨hgb, pb, hpb0, hpb1, hSb⟩ := hPb
     have HGb := Lib.hid (grown_trans HGA.out hgb)
     have HRb := Lib.hid (HRA.out.grown hgb hNg)
     have HSb := Lib.hid hSb
     have HZb : Hid (w.heap.size + 1 ≤ wb.heap.size) := Nat.le_trans HZA.out hgb.size
     clear hgb hSb HSA HGA HRA HZA
     by_cases hr : r = 0
     · subst hr
       go_wp2_with fail
       refine (pick_any g A b off n cap pb 4 _ HSb.out (by omega) (by omega) (by omega) (by omega)).mono ?_
       rintro e' wc ⟨r, rfl, hr0', hr1', hPc⟩
       obtain ⟨hgc, pc, hpc0, hpc1, hSc⟩ := hPc
       have hrc := HRb.out.grown hgc hNg
       have p0 : wc.cell? ⟨w.heap.size, 0, none⟩ = some (.int .i64 0) := hrc.cell 0
       have p1 : wc.cell? ⟨w.heap.size, 1, none⟩ = some (.int .i64 0) := hrc.cell 1
       have p2 : wc.cell? ⟨w.heap.size, 2, none⟩ = some (.slice none 0 0) := hrc.cell 2
       have z0 := hrc.frozen 0
       have z1 := hrc.frozen 1
       have z2 := hrc.frozen 2
       have HGc := Lib.hid (grown_trans HGb.out hgc)
       have HSc := Lib.hid hSc
       clear hgc hSc hrc
       go_wp2_with fail
       refine bodyPost_ret (v := .agg #[.int .i64 1, .int .i64 r, .slice none 0 0]) (by simp [results, Try.results53, go_sem, p0, p1, p2]) rfl ?_
       exact leaf_post 1 r hgN HGc.out HSc.out (by omega) (by have := mx_pos (d + 1); omega)
     · have hrb : (r == 0) = false := by rw [beq_eq_false_iff_ne]; exact hr
       have hIl : Ints (wb.alloc (.cells #[.int .i64 0, .int .i64 1, .int .i64 0, .int .i64 2] 3)) (wb.alloc (.cells #[.int .i64 0, .int .i64 1, .int .i64 0, .int .i64 2] 3)).heap.size (some ⟨wb.heap.size, 0, none⟩) wb.heap.size 0 [0, 1, 0, 2] := ints_lit wb [0, 1, 0, 2]
       have HIl := Lib.hid hIl
       clear hIl
       go_wp2_with fail
       refine (num_any [0, 1, 0, 2] g A b off n cap pb _ (HSb.out.under ((Below.refl _ wb).alloc (Nat.le_refl _) _) HSb.out.lt) (by omega) (by omega) _ wb.heap.size 0 4 HIl.out (by have := HSb.out.lt; omega) (by simp) (by simp)).mono ?_
       rintro e' wc ⟨r', rfl, hmem, hPc⟩
       obtain ⟨hgc, pc, hpc0, hpc1, hSc⟩ := hPc
       have hgc' : wb.grownBy wc (some g) := below_grown ((Below.refl _ wb).alloc (Nat.le_refl _) _) hgc
       have hrc := HRb.out.grown hgc' hNg
       have p0 : wc.cell? ⟨w.heap.size, 0, none⟩ = some (.int .i64 0) := hrc.cell 0
       have p1 : wc.cell? ⟨w.heap.size, 1, none⟩ = some (.int .i64 0) := hrc.cell 1
       have p2 : wc.cell? ⟨w.heap.size, 2, none⟩ = some (.slice none 0 0) := hrc.cell 2
       have z0 := hrc.frozen 0
       have z1 := hrc.frozen 1
       have z2 := hrc.frozen 2
       have HGc := Lib.hid (grown_trans HGb.out hgc')
       have HSc := Lib.hid hSc
       clear hgc hgc' hSc hrc hmem
       go_wp2_with fail
       refine bodyPost_ret (v := .agg #[.int .i64 2, .int .i64 r', .slice none 0 0]) (by simp [results, Try.results53, go_sem, p0, p1, p2]) rfl ?_
       exact leaf_post 2 r' hgN HGc.out HSc.out (by omega) (by have := mx_pos (d + 1); omega))
  · have hrb0 : (r0 == 0) = false := by rw [beq_eq_false_iff_ne]; exact hr0
    have HIl : Hid (Ints (wa.alloc (.cells #[.int .i64 6, .int .i64 8, .int .i64 7, .int .i64 4, .int .i64 3, .int .i64 5, .int .i64 9] 3)) (wa.alloc (.cells #[.int .i64 6, .int .i64 8, .int .i64 7, .int .i64 4, .int .i64 3, .int .i64 5, .int .i64 9] 3)).heap.size (some ⟨wa.heap.size, 0, none⟩) wa.heap.size 0 [6, 8, 7, 4, 3, 5, 9]) := ints_lit wa [6, 8, 7, 4, 3, 5, 9]
    go_wp2_with fail
    refine (num_any [6, 8, 7, 4, 3, 5, 9] g A b off n cap p1 _ (HSA.out.under ((Below.refl _ wa).alloc (Nat.le_refl _) _) HSA.out.lt) (by omega) (by omega) _ wa.heap.size 0 7 HIl.out (by have := HSA.out.lt; omega) (by simp) (by simp)).mono ?_
    rintro e' wd ⟨k, rfl, hmem, hPd⟩
    obtain ⟨hgd, p2, hpd0, hpd1, hSd⟩ := hPd
    have hgd' : wa.grownBy wd (some g) := below_grown ((Below.refl _ wa).alloc (Nat.le_refl _) _) hgd
    have HGd := Lib.hid (grown_trans HGA.out hgd')
    have HRd := Lib.hid (HRA.out.grown hgd' hNg)
    have HSd := Lib.hid hSd
    have hzd : w.heap.size + 1 ≤ wd.heap.size := Nat.le_trans HZA.out hgd'.size
    obtain ⟨ar, har, har1, har2⟩ := arity_list hmem
    have HAr := Lib.hid har
    clear hgd hgd' hSd HSA HGA HRA HZA hmem har HIl
    go_wp2_with fail
    refine (arity_any k _).mono ?_
    rintro e' wd2 ⟨rfl, rfl⟩
    rw [HAr.out]
    have HSe := Lib.hid (HSd.out.under ((Below.refl _ wd).alloc (Nat.le_refl _) (.cells #[.int .i64 k, .int .i64 0, .slice none 0 0] 25)) HSd.out.lt)
    have HGe := Lib.hid (grown_below HGd.out ((Below.refl _ wd).alloc (Nat.le_refl _) (.cells #[.int .i64 k, .int .i64 0, .slice none 0 0] 25)) HGd.out.size)
    have HRe := Lib.hid (HRd.out.under ((Below.refl _ wd).alloc (Nat.le_refl _) (.cells #[.int .i64 k, .int .i64 0, .slice none 0 0] 25)) HRd.out.lt)
    clear HSd HGd HRd
    obtain ⟨i0, hi0, hz0, hz1, hz2⟩ := info_parts Try.info25
    go_wp2_with fail
    go_loopw [7] (fun i wl => ∃ (j : Nat) (es : List Ex) (Aq : Option Addr) (cq : Nat) (pq : Int), j ≤ ar ∧ i = .int .i64 ((ar : Int) - (j : Int)) ∧ Hid (es.length = j) ∧ Hid (Mk 25 wd.heap.size k 0 es Aq cq wl) ∧ Hid (w.grownBy wl (some g)) ∧ Hid (Src wl g A b off n cap pq) ∧ p ≤ pq ∧ Hid (pq ≤ p + 2 + bd j (mx d)) ∧ Hid (descL es ≤ bdN j (1 + dsc d)) ∧ Hid (Row wl w.heap.size 25 #[.int .i64 0, .int .i64 0, .slice none 0 0])) (fun i _ => (intOf i).toNat)
    case atStart => exact ⟨0, [], none, 0, p2, Nat.zero_le _, by go_num, rfl, Mk.start, HGe.out, HSe.out, by omega, (by show _ ≤ _; simp only [bd]; omega), Nat.zero_le _, HRe.out⟩
    case round =>
      clear HSe HGe HRe
      obtain ⟨j, es, Aq, cq, pq, hj, rfl, HLe, HM, HG, HS, hpq, HPq, HDs, HR⟩ := hrel
      by_cases hlt : j < ar
      · have hbd := bd_le1 (j := j) (m := mx d) (by omega) (by omega)
        have hpq1 : pq + mx d ≤ 1000000 := by have := HPq.out; omega
        have hrow := HM.out.1
        rw [HLe.out] at hrow
        have o2 : wr.cell? ⟨wd.heap.size, 2, none⟩ = some (.slice Aq j cq) := hrow.cell 2
        have HMd : Hid (Mk 25 wd.heap.size k 0 es Aq cq wr.drew) := HM.out.keep (Nat.le_refl _) fun _ _ _ => rfl
        have HSd : Hid (Src wr.drew g A b off n cap pq) := HS.out.under ((Below.refl _ _).drew) HS.out.lt
        have hgd : g < wd.heap.size := by omega
        have hwl : wd.heap.size < wr.heap.size := hrow.lt
        have hpos : 0 < (ar : Int) - (j : Int) := by omega
        have ew : IntKind.i64.wrap (dd - 1) = dd - 1 := IntWalk.i64_in _ (by omega)
        clear hrow HM HS
        go_wp2_with fail
        go_region_law (first
          | (refine step_append_lies _ (by rfl) (.tmp 37) (.tmp 42) 23 (by rfl) (wd.heap.size + 1) 25 i0 _ 3 40 Try.underlying23 hi0 hz0 hz1 hz2 rfl (by omega) (.slice Aq j cq) j xs (by rfl) HXs.out ⟨w1.heap.size, 0, none⟩ 1 1 [.int .i64 m0, .int .i64 m1, .slice m2 ml mc] (by rfl) (by rfl) (World.news_of_block (cs := #[.int .i64 m0, .int .i64 m1, .slice m2 ml mc]) (t := 25) (fr := (0, 0)) (heap_alloc_new w1 _)) (by simp [Value.oneCell']) (by omega) (by unfold maxLen; omega) (by omega) (by simp; omega) (w1.heap.size + 1) (by simp) ?_
             intro gq cap' w2 hown hgrow hat hlt2
             have hfin := Mk.step HMd.out HGr.out.size HKp.out HOw.out (by rw [HLe.out]; exact HXs.out) (by rw [HLe.out]; exact hown) (by rw [HLe.out]; exact hgrow) (by rw [HLe.out]; exact hat)
             have o2' : w2.cell? ⟨wd.heap.size, 2, none⟩ = some (.slice Aq j cq) := by have := hfin.1.1; rw [HLe.out] at this; exact this
             have o2f : w2.frozen? ⟨wd.heap.size, 2, none⟩ = false := hfin.1.2
             have HFin := Lib.hid hfin.2
             clear hfin hown hgrow hat hlt2)
          | (go_simp
             go_at_call 53
             (with_reducible refine (RandSaid.call HIH.out (dd - 1) g A b off n cap pq _ (by omega) (by omega) HSd.out (by omega) hpq1).mono ?_)
             rintro e' w1 ⟨x, d0, d1, d2, rfl, ho1, hds, hP1⟩
             obtain ⟨m0, m1, m2, ml, mc, rfl, rfl, rfl⟩ := ho1.form
             obtain ⟨hg1, p3, hp30, hp31, hS3⟩ := hP1
             have HKp : Hid (∀ q, wd.heap.size ≤ q → q < wr.drew.heap.size → w1.heap[q]? = wr.drew.heap[q]?) := fun q h1 h2 => hg1.block q h2 (fun e => by injection e with e; omega)
             have hmk := HMd.out.keep (w1 := w1.alloc (.cells #[.int .i64 m0, .int .i64 m1, .slice m2 ml mc] 25)) (by have h9 : wr.heap.size ≤ w1.heap.size := hg1.size; simp; omega) fun q h1 h2 => (Below.heap_alloc _ _ _ (by have := hg1.size; omega)).trans (HKp.out q h1 h2)
             obtain ⟨xs, _, _, _, hxs, _⟩ := hmk.2
             rw [HLe.out] at hxs
             have o2 : w1.cell? ⟨wd.heap.size, 2, none⟩ = some (.slice Aq j cq) := by
               have hr := (HKp.out wd.heap.size (Nat.le_refl _) (by simpa using hwl)).trans HMd.out.1
               rw [HLe.out] at hr
               exact Row.cell (t := 25) hr 2
             have HXs := Lib.hid hxs
             have HGr := Lib.hid hg1
             have HOw := Lib.hid ho1
             have HS3 := Lib.hid hS3
             have HDx := Lib.hid hds
             have hs1 : wd.heap.size < w1.heap.size := by have h9 : wr.heap.size ≤ w1.heap.size := hg1.size; omega
             clear hxs hg1 ho1 hS3 hds hmk))
        all_goals
          (go_wp2_with fail
           go_roundw
           case rel =>
             have hle : (es ++ [x]).length = j + 1 := by rw [List.length_append, HLe.out]; rfl
             have hfm := HFin.out.1
             rw [HLe.out] at hfm
             have hfb := HFin.out.2
             rw [HLe.out] at hfb
             have hgw : wr.grownBy w1 (some g) := ⟨HGr.out.os, HGr.out.tape, HGr.out.output, HGr.out.size, HGr.out.block⟩
             refine ⟨j + 1, es ++ [x], some ⟨gq, 0, none⟩, cap', p3, by omega, by go_num, hle, hfm, grown_below (grown_trans HG.out hgw) hfb (by omega), HS3.out.under hfb hgd, by omega, ?_, ?_, (HR.out.grown hgw hNg).under hfb (by omega)⟩
             · show _ ≤ _
               simp only [bd]
               have := HPq.out
               omega
             · show _ ≤ _
               rw [descL_append]
               simp only [descL, bdN]
               have h1 := HDs.out
               have h2 := HDx.out
               omega
           case measure => simp [intOf]; omega)
      · have hjj : j = ar := by omega
        subst hjj
        have hrow := HM.out.1
        rw [HLe.out] at hrow
        have o0 : wr.cell? ⟨wd.heap.size, 0, none⟩ = some (.int .i64 k) := hrow.cell 0
        have o1 : wr.cell? ⟨wd.heap.size, 1, none⟩ = some (.int .i64 0) := hrow.cell 1
        have o2 : wr.cell? ⟨wd.heap.size, 2, none⟩ = some (.slice Aq j cq) := hrow.cell 2
        have q0 : wr.cell? ⟨w.heap.size, 0, none⟩ = some (.int .i64 0) := HR.out.cell 0
        have q1 : wr.cell? ⟨w.heap.size, 1, none⟩ = some (.int .i64 0) := HR.out.cell 1
        have q2 : wr.cell? ⟨w.heap.size, 2, none⟩ = some (.slice none 0 0) := HR.out.cell 2
        have z0 := HR.out.frozen 0
        have z1 := HR.out.frozen 1
        have z2 := HR.out.frozen 2
        have hwl : wd.heap.size < wr.heap.size := hrow.lt
        have hzero : ¬ 0 < (j : Int) - (j : Int) := by omega
        clear hrow hzero
        go_wp2_with fail
        refine bodyPost_ret (v := .agg #[.int .i64 k, .int .i64 0, .slice Aq j cq]) (by simp [results, Try.results53, go_sem, q0, q1, q2]) rfl ?_
        have hb : Below w.heap.size wr (((wr.setCell ⟨w.heap.size, 0, none⟩ (.int .i64 k)).setCell ⟨w.heap.size, 1, none⟩ (.int .i64 0)).setCell ⟨w.heap.size, 2, none⟩ (.slice Aq j cq)) :=
          (((Below.refl _ _).setCell (p := ⟨w.heap.size, 0, none⟩) (Nat.le_refl _) _).setCell (p := ⟨w.heap.size, 1, none⟩) (Nat.le_refl _) _).setCell (p := ⟨w.heap.size, 2, none⟩) (Nat.le_refl _) _
        have ho := HM.out.own
        rw [HLe.out] at ho
        refine ⟨.node k 0 es, _, _, _, rfl, ho.keep (by omega) (by simp) fun q hq _ => ?_, ?_, grown_below HG.out hb (Nat.le_refl _), pq, hpq, ?_, HS.out.under hb hgN⟩
        · rw [Below.heap_setCell _ _ _ _ (by simp; omega), Below.heap_setCell _ _ _ _ (by simp; omega), Below.heap_setCell _ _ _ _ (by simp; omega)]
        · simp only [desc, dsc]
          have h1 := HDs.out
          have h2 := bdN_le (j := j) (m := 1 + dsc d) har2
          omega
        · rw [HMx.out]
          have h1 := HPq.out
          have h2 := (bd_le (j := j) (m := mx d) har2 (by omega)).2
          omega

theorem rand_any : ∀ d : Nat, d ≤ 10 → RandSaid d := by
  intro d
  induction d with
  | zero => intro _ dd g A b off n cap p w h1 h2 hS h4 h5; exact rand_leaf 0 dd g A b off n cap p w (by omega) hS h4 h5
  | succ d ih =>
    intro hd dd g A b off n cap p w h1 h2 hS h4 h5
    by_cases hdd : dd < 2
    · exact rand_leaf (d + 1) dd g A b off n cap p w hdd hS h4 h5
    · exact rand_inner d (ih (by omega)) dd g A b off n cap p w (by omega) (by omega) (by omega) hS h4 h5

end Go.Proofs.Ytkcgjgdcmdjcfaa

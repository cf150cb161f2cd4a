/- The walk of spec.l1Expr: some valid tree is drawn. -/
import Derived.Test.YtkcgjgdcmdjcfaaD3
import Derived.Test.YtkcgjgdcmdjcfaaW8
namespace Go.Proofs.Ytkcgjgdcmdjcfaa
open Go.RowKit

/-- What a call that draws a valid tree leaves. -/
def ExprPost (g : Nat) (A : Option Addr) (b off n cap : Nat) (p : Int) (m : Int) (w : World) (e' : Ending) (w' : World) : Prop :=
  ∃ (e : Ex) (d0 d1 d2 : Value), e' = .returned (.agg #[d0, d1, d2]) ∧ Own w' 25 w.heap.size w'.heap.size e d0 d1 d2 ∧ shape 6 e = true ∧ desc e ≤ 14 ∧ Picked g A b off n cap p m w w'

theorem shape_var {r : Int} (h0 : 0 ≤ r) (h1 : r < 3) : shape 6 (.node 2 r []) = true := by
  simp only [shape, rootOk, arity, limit]
  simp
  omega

set_option maxHeartbeats 1000000 in
set_option maxRecDepth 100000 in
theorem l1Expr_any (g : Nat) (A : Option Addr) (b off n cap : Nat) (p : Int) (w : World) (hS : Src w g A b off n cap p) (hp0 : 0 ≤ p) (hp1 : p ≤ 900000) :
    Calls Try.prog 26 #[.pointer (some ⟨g, 0, none⟩)] w (ExprPost g A b off n cap p 47 w) := by
  have hgN : g < w.heap.size := hS.lt
  have hNg : w.heap.size ≠ g := by omega
  obtain ⟨W1, hW1⟩ : ∃ W1, W1 = w.alloc (.cells #[.int .i64 0, .int .i64 0, .slice none 0 0] 25) := ⟨_, rfl⟩
  have hB1 : Below w.heap.size w W1 := by rw [hW1]; exact (Below.refl _ _).alloc (Nat.le_refl _) _
  have HS1 := Lib.hid (hS.under hB1 hS.lt)
  have HB1 := Lib.hid hB1
  have HR1 : Hid (Row W1 w.heap.size 25 #[.int .i64 0, .int .i64 0, .slice none 0 0]) := by rw [hW1]; exact Row.new _ _ _
  have HZ1 : Hid (w.heap.size + 1 ≤ W1.heap.size) := by show _ ≤ _; rw [hW1]; simp
  have HW1 := Lib.hid hW1
  have HIl : Hid (Ints (W1.alloc (.cells #[.int .i64 3, .int .i64 2, .int .i64 3, .int .i64 4] 3)) (W1.alloc (.cells #[.int .i64 3, .int .i64 2, .int .i64 3, .int .i64 4] 3)).heap.size (some ⟨W1.heap.size, 0, none⟩) W1.heap.size 0 [3, 2, 3, 4]) := ints_lit W1 [3, 2, 3, 4]
  have HZ1e : Hid (W1.heap.size = w.heap.size + 1) := by show _ = _; rw [hW1]; simp
  clear hW1 hB1 hS
  go_enter Try.func26, Try.ntmps26
  go_wp2_with fail
  rw [← HW1.out, ← HZ1e.out]
  refine (num_any [3, 2, 3, 4] g A b off n cap p _ (HS1.out.under ((Below.refl _ W1).alloc (Nat.le_refl _) _) HS1.out.lt) (by omega) (by omega) _ W1.heap.size 0 4 HIl.out (by have := HS1.out.lt; omega) (by simp) (by simp)).mono ?_
  rintro e' wa ⟨dp, rfl, hmem, hPa⟩
  obtain ⟨hga, p1, hpa0, hpa1, hSa⟩ := hPa
  have hdp : 2 ≤ dp ∧ dp ≤ 4 := by simp at hmem; omega
  obtain ⟨hdp0, hdp1⟩ := hdp
  have hga' : W1.grownBy wa (some g) := below_grown ((Below.refl _ W1).alloc (Nat.le_refl _) _) hga
  have HGa := Lib.hid (below_grown HB1.out hga')
  have HRa := Lib.hid (HR1.out.grown hga' hNg)
  have HSa := Lib.hid hSa
  have hza : w.heap.size + 1 ≤ wa.heap.size := Nat.le_trans HZ1.out hga'.size
  clear hmem hga hga' hSa HIl HS1 HB1 HR1 HZ1 HZ1e HW1
  go_wp2_with fail
  refine (RandSaid.call (rand_any 3 (by omega)) dp g A b off n cap p1 _ (by omega) (by omega) HSa.out (by omega) (by simp [mx]; omega)).mono ?_
  rintro e' wb ⟨e, d0, d1, d2, rfl, hob, hdb, hPb⟩
  obtain ⟨k0, k1, a2, l2, cp2, rfl, rfl, rfl⟩ := hob.form
  obtain ⟨hgb, p2, hpb0, hpb1, hSb⟩ := hPb
  have hpb1' : p2 ≤ p1 + 45 := by simpa [mx] using hpb1
  have hdb' : desc e ≤ 14 := by simpa [dsc] using hdb
  obtain ⟨W3, hW3⟩ : ∃ W3, W3 = wb.alloc (.cells #[.int .i64 k0, .int .i64 k1, .slice a2 l2 cp2] 25) := ⟨_, rfl⟩
  have hB3 : Below wb.heap.size wb W3 := by rw [hW3]; exact (Below.refl _ _).alloc (Nat.le_refl _) _
  have HR3 : Hid (Row W3 wb.heap.size 25 #[.int .i64 k0, .int .i64 k1, .slice a2 l2 cp2]) := by rw [hW3]; exact Row.new _ _ _
  have HO3 := Lib.hid (hob.under hB3 (Nat.le_refl _))
  have HL3 := Lib.hid (below_more hob.lies hB3 hB3.size)
  have HG3 := Lib.hid (grown_below (grown_trans HGa.out hgb) hB3 (Nat.le_trans HGa.out.size hgb.size))
  have HRr := Lib.hid ((HRa.out.grown hgb hNg).under hB3 (HRa.out.grown hgb hNg).lt)
  have HS3 := Lib.hid (hSb.under hB3 hSb.lt)
  have hzb : wa.heap.size ≤ wb.heap.size := hgb.size
  have HW3 := Lib.hid hW3
  clear hW3 hB3 hob hgb hSb hdb hpb1 HGa HRa HSa
  obtain ⟨vb, hvb⟩ : ∃ vb, vb = valid e := ⟨_, rfl⟩
  have HV := Lib.hid hvb
  clear hvb
  go_wp2_with fail
  rw [← HW3.out]
  refine (specValid_any e _ _ _ _ HL3.out (by omega)).mono ?_
  rintro e' wc ⟨rfl, hbc⟩
  rw [← HV.out]
  have hr3 := HR3.out.under hbc HR3.out.lt
  have hrr := HRr.out.under hbc HRr.out.lt
  have q0 : wc.cell? ⟨wb.heap.size, 0, none⟩ = some (.int .i64 k0) := hr3.cell 0
  have q1 : wc.cell? ⟨wb.heap.size, 1, none⟩ = some (.int .i64 k1) := hr3.cell 1
  have q2 : wc.cell? ⟨wb.heap.size, 2, none⟩ = some (.slice a2 l2 cp2) := hr3.cell 2
  have HRc := Lib.hid hrr
  have HOc := Lib.hid (HO3.out.under hbc (by have h1 := HR3.out.lt; omega))
  have HGc := Lib.hid (grown_below HG3.out hbc HG3.out.size)
  have HSc := Lib.hid (HS3.out.under hbc HS3.out.lt)
  have hzc : wb.heap.size + 1 ≤ wc.heap.size := by have h1 := HR3.out.lt; have h2 := hbc.size; omega
  clear hbc hr3 hrr HO3 HL3 HG3 HRr HS3 HR3 HW3
  cases vb
  · go_wp2_with fail
    refine (pick_any g A b off n cap p2 3 _ HSc.out (by omega) (by omega) (by omega) (by omega)).mono ?_
    rintro e' wd ⟨r, rfl, hr0, hr1, hPd⟩
    obtain ⟨hgd, p3, hpd0, hpd1, hSd⟩ := hPd
    have hrd := HRc.out.grown hgd hNg
    have z0 := hrd.frozen 0
    have z1 := hrd.frozen 1
    have z2 := hrd.frozen 2
    have y0 : wd.cell? ⟨w.heap.size, 0, none⟩ = some (.int .i64 0) := hrd.cell 0
    have y1 : wd.cell? ⟨w.heap.size, 1, none⟩ = some (.int .i64 0) := hrd.cell 1
    have y2 : wd.cell? ⟨w.heap.size, 2, none⟩ = some (.slice none 0 0) := hrd.cell 2
    have HGd := Lib.hid (grown_trans HGc.out hgd)
    have HSd := Lib.hid hSd
    clear hgd hSd hrd
    go_wp2_with fail
    refine bodyPost_ret (v := .agg #[.int .i64 2, .int .i64 r, .slice none 0 0]) (by simp [results, Try.results26, go_sem, y0, y1, y2]) rfl ?_
    obtain ⟨e2, d0, d1, d2, h1, h2, _, h4⟩ := leaf_post (D := 14) (p := p) (m := 47) 2 r hgN HGd.out HSd.out (by omega) (by omega) (u0 := .int .i64 2) (u1 := .int .i64 r) (u2 := .slice none 0 0)
    exact ⟨.node 2 r [], _, _, _, rfl, (Built.nil _ _ _).own 2 r, shape_var hr0 hr1, by simp [desc, descL], h4⟩
  · have y0 : wc.cell? ⟨w.heap.size, 0, none⟩ = some (.int .i64 0) := HRc.out.cell 0
    have y1 : wc.cell? ⟨w.heap.size, 1, none⟩ = some (.int .i64 0) := HRc.out.cell 1
    have y2 : wc.cell? ⟨w.heap.size, 2, none⟩ = some (.slice none 0 0) := HRc.out.cell 2
    have z0 := HRc.out.frozen 0
    have z1 := HRc.out.frozen 1
    have z2 := HRc.out.frozen 2
    go_wp2_with fail
    refine bodyPost_ret (v := .agg #[.int .i64 k0, .int .i64 k1, .slice a2 l2 cp2]) (by simp [results, Try.results26, go_sem, y0, y1, y2]) rfl ?_
    have hb : Below w.heap.size wc (((wc.setCell ⟨w.heap.size, 0, none⟩ (.int .i64 k0)).setCell ⟨w.heap.size, 1, none⟩ (.int .i64 k1)).setCell ⟨w.heap.size, 2, none⟩ (.slice a2 l2 cp2)) :=
      (((Below.refl _ _).setCell (p := ⟨w.heap.size, 0, none⟩) (Nat.le_refl _) _).setCell (p := ⟨w.heap.size, 1, none⟩) (Nat.le_refl _) _).setCell (p := ⟨w.heap.size, 2, none⟩) (Nat.le_refl _) _
    refine ⟨e, _, _, _, rfl, HOc.out.keep (by omega) (by simp; omega) fun q hq _ => ?_, ?_, by omega, grown_below HGc.out hb (Nat.le_refl _), p2, by omega, by omega, HSc.out.under hb hgN⟩
    · rw [Below.heap_setCell _ _ _ _ (by simp; omega), Below.heap_setCell _ _ _ _ (by simp; omega), Below.heap_setCell _ _ _ _ (by simp; omega)]
    · have h := HV.out
      unfold valid at h
      cases hs : shape 6 e
      · rw [hs] at h; exact absurd h (by simp)
      · rfl

end Go.Proofs.Ytkcgjgdcmdjcfaa

/- The walks of spec.SubstExpr and impl.SubstExpr. -/
import Derived.Test.YtkcgjgdcmdjcfaaSv
import Derived.Test.YtkcgjgdcmdjcfaaT3
import Derived.Test.YtkcgjgdcmdjcfaaD5
import Derived.Test.YtkcgjgdcmdjcfaaW8
namespace Go.Proofs.Ytkcgjgdcmdjcfaa
open Go.RowKit

def substOk (e : Ex) (j : Int) (bb : Ex) : Bool := valid e && (valid bb && (decide (0 ≤ j) && (decide (j < 3) && valid (substE j bb 6 e))))
def substOut (e : Ex) (j : Int) (bb : Ex) : Ex := if substOk e j bb then substE j bb 6 e else .node 0 0 []

theorem cnt_desc : ∀ (d : Nat) (e : Ex), shape d e = true → cnt d e = 1 + desc e := by
  intro d
  induction d with
  | zero => intro e h; simp [shape] at h
  | succ d ih =>
    rintro ⟨k, v, kids⟩ h
    show 1 + (kids.map (cnt d)).sum = 1 + descL kids
    have hk : ∀ x ∈ kids, cnt d x = 1 + desc x := fun x hx => by
      obtain ⟨j, hj, rfl⟩ := List.getElem_of_mem hx
      exact ih _ (shape_kid h (List.getElem?_eq_getElem hj))
    clear h ih
    induction kids with
    | nil => simp [descL]
    | cons a r ihr =>
      have h2 := ihr fun x hx => hk x (by simp [hx])
      have h1 := hk a (by simp)
      simp only [List.map_cons, List.sum_cons, descL]
      omega

theorem valid_desc {e : Ex} (h : valid e = true) : desc e ≤ 14 := by
  have hs := shape_of_valid h.symm
  have hc := cnt_desc 6 e hs
  unfold valid at h
  simp only [Bool.and_eq_true, decide_eq_true_eq] at h
  omega

theorem descL_map_le {f : Ex → Ex} {B : Nat} : ∀ (kids : List Ex), (∀ x ∈ kids, 1 + desc (f x) ≤ (1 + desc x) * B) → descL (kids.map f) ≤ descL kids * B := by
  intro kids
  induction kids with
  | nil => intro _; simp [descL]
  | cons a r ih =>
    intro h
    have h1 := h a (by simp)
    have h2 := ih fun x hx => h x (by simp [hx])
    simp only [List.map_cons, descL]
    rw [Nat.add_mul]
    omega

theorem desc_subst (j : Int) (bb : Ex) : ∀ (d : Nat) (e : Ex), shape d e = true → 1 + desc (substE j bb d e) ≤ (1 + desc e) * (1 + desc bb) := by
  intro d
  induction d with
  | zero => intro e h; simp [shape] at h
  | succ d ih =>
    rintro ⟨k, v, kids⟩ h
    simp only [substE]
    by_cases hk : k = 2 ∧ v = j
    · rw [if_pos hk]
      exact Nat.le_mul_of_pos_left _ (by omega)
    · rw [if_neg hk]
      have hm := descL_map_le (f := substE j bb d) (B := 1 + desc bb) kids fun x hx => by
        obtain ⟨i, hi, rfl⟩ := List.getElem_of_mem hx
        exact ih _ (shape_kid h (List.getElem?_eq_getElem hi))
      simp only [desc]
      rw [Nat.add_mul]
      omega

theorem subst_small {e bb : Ex} {j : Int} (h1 : valid e = true) (h2 : valid bb = true) : desc (substE j bb 6 e) ≤ 224 := by
  have a := desc_subst j bb 6 e (shape_of_valid h1.symm)
  have b := valid_desc h1
  have c := valid_desc h2
  have d : (1 + desc e) * (1 + desc bb) ≤ 15 * 15 := Nat.mul_le_mul (by omega) (by omega)
  omega

theorem out_small (e bb : Ex) (j : Int) : desc (substOut e j bb) ≤ 224 := by
  unfold substOut
  by_cases h : substOk e j bb = true
  · rw [if_pos h]
    unfold substOk at h
    simp only [Bool.and_eq_true] at h
    exact subst_small h.1 h.2.1
  · rw [if_neg h]
    simp [desc, descL]

def SOPost (e : Ex) (j : Int) (bb : Ex) (w : World) (e' : Ending) (w' : World) : Prop := ∃ (d0 d1 d2 : Value), e' = .returned (.tuple #[.agg #[d0, d1, d2], .bool (substOk e j bb)]) ∧ Own w' 25 w.heap.size w'.heap.size (substOut e j bb) d0 d1 d2 ∧ Below w.heap.size w w'
def SIPost (e : Ex) (j : Int) (bb : Ex) (w : World) (e' : Ending) (w' : World) : Prop := ∃ (d0 d1 d2 : Value), e' = .returned (.tuple #[.agg #[d0, d1, d2], .bool (substOk e j bb)]) ∧ Sep w' w.heap.size w'.heap.size (substOut e j bb) d0 d1 d2 ∧ Below w.heap.size w w'

theorem fail_o {e bb : Ex} {j : Int} {w w' : World} (h : substOk e j bb = false) (hb : Below w.heap.size w w') : SOPost e j bb w (.returned (.tuple #[.agg #[.int .i64 0, .int .i64 0, .slice none 0 0], .bool false])) w' :=
  ⟨_, _, _, by rw [h], by unfold substOut; rw [h]; exact (Sep.leaf w' _ _ 0 0 none 0).own, hb⟩
theorem fail_i {e bb : Ex} {j : Int} {w w' : World} (h : substOk e j bb = false) (hb : Below w.heap.size w w') : SIPost e j bb w (.returned (.tuple #[.agg #[.int .i64 0, .int .i64 0, .slice none 0 0], .bool false])) w' :=
  ⟨_, _, _, by rw [h], by unfold substOut; rw [h]; exact Sep.leaf w' _ _ 0 0 none 0, hb⟩

theorem rows3 (w : World) (a b c : Array Value) : Row (((w.alloc (.cells a 25)).alloc (.cells b 25)).alloc (.cells c 25)) w.heap.size 25 a ∧ Row (((w.alloc (.cells a 25)).alloc (.cells b 25)).alloc (.cells c 25)) (w.heap.size + 1) 25 b ∧ Row (((w.alloc (.cells a 25)).alloc (.cells b 25)).alloc (.cells c 25)) (w.heap.size + 1 + 1) 25 c ∧ Below w.heap.size w (((w.alloc (.cells a 25)).alloc (.cells b 25)).alloc (.cells c 25)) := by
  obtain ⟨r0, r1, hb⟩ := pair_rows w a b
  have hb2 : Below ((w.alloc (.cells a 25)).alloc (.cells b 25)).heap.size ((w.alloc (.cells a 25)).alloc (.cells b 25)) (((w.alloc (.cells a 25)).alloc (.cells b 25)).alloc (.cells c 25)) := (Below.refl _ _).alloc (Nat.le_refl _) _
  refine ⟨r0.under hb2 r0.lt, r1.under hb2 r1.lt, ?_, hb.trans (hb2.mono hb.size)⟩
  have h := Row.new ((w.alloc (.cells a 25)).alloc (.cells b 25)) 25 c
  rw [show ((w.alloc (.cells a 25)).alloc (.cells b 25)).heap.size = w.heap.size + 1 + 1 by simp] at h
  exact h

theorem rows4 (w : World) (a b c d : Array Value) : Row ((((w.alloc (.cells a 25)).alloc (.cells b 3)).alloc (.cells c 25)).alloc (.cells d 25)) w.heap.size 25 a ∧ Row ((((w.alloc (.cells a 25)).alloc (.cells b 3)).alloc (.cells c 25)).alloc (.cells d 25)) (w.heap.size + 1) 3 b ∧ Row ((((w.alloc (.cells a 25)).alloc (.cells b 3)).alloc (.cells c 25)).alloc (.cells d 25)) (w.heap.size + 1 + 1) 25 c ∧ Row ((((w.alloc (.cells a 25)).alloc (.cells b 3)).alloc (.cells c 25)).alloc (.cells d 25)) (w.heap.size + 1 + 1 + 1) 25 d ∧ Below w.heap.size w ((((w.alloc (.cells a 25)).alloc (.cells b 3)).alloc (.cells c 25)).alloc (.cells d 25)) := by
  obtain ⟨W1, hW1⟩ : ∃ W1, W1 = w.alloc (.cells a 25) := ⟨_, rfl⟩
  obtain ⟨W2, hW2⟩ : ∃ W2, W2 = W1.alloc (.cells b 3) := ⟨_, rfl⟩
  obtain ⟨W3, hW3⟩ : ∃ W3, W3 = W2.alloc (.cells c 25) := ⟨_, rfl⟩
  obtain ⟨W4, hW4⟩ : ∃ W4, W4 = W3.alloc (.cells d 25) := ⟨_, rfl⟩
  have z1 : W1.heap.size = w.heap.size + 1 := by rw [hW1]; simp
  have z2 : W2.heap.size = w.heap.size + 1 + 1 := by rw [hW2]; simp [z1]
  have z3 : W3.heap.size = w.heap.size + 1 + 1 + 1 := by rw [hW3]; simp [z2]
  have b1 : Below w.heap.size w W1 := by rw [hW1]; exact (Below.refl _ _).alloc (Nat.le_refl _) _
  have b2 : Below W1.heap.size W1 W2 := by rw [hW2]; exact (Below.refl _ _).alloc (Nat.le_refl _) _
  have b3 : Below W2.heap.size W2 W3 := by rw [hW3]; exact (Below.refl _ _).alloc (Nat.le_refl _) _
  have b4 : Below W3.heap.size W3 W4 := by rw [hW4]; exact (Below.refl _ _).alloc (Nat.le_refl _) _
  have r1 : Row W1 w.heap.size 25 a := by rw [hW1]; exact Row.new _ _ _
  have r2 : Row W2 (w.heap.size + 1) 3 b := by rw [← z1, hW2]; exact Row.new _ _ _
  have r3 : Row W3 (w.heap.size + 1 + 1) 25 c := by rw [← z2, hW3]; exact Row.new _ _ _
  have r4 : Row W4 (w.heap.size + 1 + 1 + 1) 25 d := by rw [← z3, hW4]; exact Row.new _ _ _
  rw [← hW1, ← hW2, ← hW3, ← hW4]
  have r1' := ((r1.under b2 r1.lt).under b3 (r1.under b2 r1.lt).lt)
  have r2' := r2.under b3 r2.lt
  exact ⟨r1'.under b4 r1'.lt, r2'.under b4 r2'.lt, r3.under b4 r3.lt, r4, b1.trans ((b2.mono b1.size).trans ((b3.mono (by omega)).trans (b4.mono (by omega))))⟩


set_option maxHeartbeats 1000000 in
set_option maxRecDepth 100000 in
theorem specSubst_any (e bb : Ex) (j : Int) (c0 c1 c2 b0 b1 b2 : Value) (w : World) (hL : Lies w w.heap.size e c0 c1 c2) (hB : Lies w w.heap.size bb b0 b1 b2) (hd : desc e ≤ 1048576) (hdb : desc bb ≤ 1048576) :
    Calls Try.prog 18 #[.agg #[c0, c1, c2], .int .i64 j, .agg #[b0, b1, b2]] w (SOPost e j bb w) := by
  obtain ⟨n0, n1, a2, l2, cp2, rfl, rfl, rfl⟩ := hL.form
  obtain ⟨m0, m1, ma, ml, mc, rfl, rfl, rfl⟩ := hB.form
  obtain ⟨W, hW⟩ : ∃ W, W = ((w.alloc (.cells #[.int .i64 n0, .int .i64 n1, .slice a2 l2 cp2] 25)).alloc (.cells #[.int .i64 m0, .int .i64 m1, .slice ma ml mc] 25)).alloc (.cells #[.int .i64 0, .int .i64 0, .slice none 0 0] 25) := ⟨_, rfl⟩
  have hrows := rows3 w #[.int .i64 n0, .int .i64 n1, .slice a2 l2 cp2] #[.int .i64 m0, .int .i64 m1, .slice ma ml mc] #[.int .i64 0, .int .i64 0, .slice none 0 0]
  rw [← hW] at hrows
  obtain ⟨re, rb, rr, hb⟩ := hrows
  have HW := Lib.hid hW
  have HLe := Lib.hid (below_more hL hb hb.size)
  have HLb := Lib.hid (below_more hB hb hb.size)
  have HB := Lib.hid hb
  have HRe := Lib.hid re
  have HRb := Lib.hid rb
  have HRr := Lib.hid rr

  clear hL hB hW hb re rb rr
  obtain ⟨ve, hve⟩ : ∃ ve, ve = valid e := ⟨_, rfl⟩
  obtain ⟨vb, hvb⟩ : ∃ vb, vb = valid bb := ⟨_, rfl⟩
  have HVe := Lib.hid hve
  have HVb := Lib.hid hvb
  clear hve hvb
  go_enter Try.func18, Try.ntmps18
  go_wp2_with fail
  rw [← HW.out]
  refine (specValid_any e _ _ _ _ HLe.out hd).mono ?_
  rintro e' w1 ⟨rfl, hb1⟩
  rw [← HVe.out]
  have HB1 := Lib.hid (HB.out.trans (hb1.mono HB.out.size))
  have HRe1 := Lib.hid (HRe.out.under hb1 HRe.out.lt)
  have HRb1 := Lib.hid (HRb.out.under hb1 HRb.out.lt)
  have HRr1 := Lib.hid (HRr.out.under hb1 HRr.out.lt)
  have HLe1 := Lib.hid (below_more HLe.out hb1 hb1.size)
  have HLb1 := Lib.hid (below_more HLb.out hb1 hb1.size)

  clear hb1
  cases ve
  · have HN : Hid (substOk e j bb = false) := by show _ = _; unfold substOk; rw [← HVe.out]; rfl
    have y0 : w1.cell? ⟨w.heap.size + 1 + 1, 0, none⟩ = some (.int .i64 0) := HRr1.out.cell 0
    have y1 : w1.cell? ⟨w.heap.size + 1 + 1, 1, none⟩ = some (.int .i64 0) := HRr1.out.cell 1
    have y2 : w1.cell? ⟨w.heap.size + 1 + 1, 2, none⟩ = some (.slice none 0 0) := HRr1.out.cell 2
    have z0 := HRr1.out.frozen 0
    have z1 := HRr1.out.frozen 1
    have z2 := HRr1.out.frozen 2
    have hlr := HRr1.out.lt
    go_wp2_with fail
    refine bodyPost_ret (v := .tuple #[.agg #[.int .i64 0, .int .i64 0, .slice none 0 0], .bool false]) (by simp [results, Try.results18, go_sem, y0, y1, y2]) rfl ?_
    exact fail_o HN.out (occ_end HB1.out (by omega) _ _ _)
  have q0 : w1.cell? ⟨w.heap.size + 1, 0, none⟩ = some (.int .i64 m0) := HRb1.out.cell 0
  have q1 : w1.cell? ⟨w.heap.size + 1, 1, none⟩ = some (.int .i64 m1) := HRb1.out.cell 1
  have q2 : w1.cell? ⟨w.heap.size + 1, 2, none⟩ = some (.slice ma ml mc) := HRb1.out.cell 2
  go_wp2_with fail
  refine (specValid_any bb _ _ _ _ HLb1.out hdb).mono ?_
  rintro e' w2 ⟨rfl, hb2⟩
  rw [← HVb.out]
  have HB2 := Lib.hid (HB1.out.trans (hb2.mono HB1.out.size))
  have HRe2 := Lib.hid (HRe1.out.under hb2 HRe1.out.lt)
  have HRb2 := Lib.hid (HRb1.out.under hb2 HRb1.out.lt)
  have HRr2 := Lib.hid (HRr1.out.under hb2 HRr1.out.lt)
  have HLe2 := Lib.hid (below_more HLe1.out hb2 hb2.size)
  have HLb2 := Lib.hid (below_more HLb1.out hb2 hb2.size)

  clear hb2 q0 q1 q2
  have y0 : w2.cell? ⟨w.heap.size + 1 + 1, 0, none⟩ = some (.int .i64 0) := HRr2.out.cell 0
  have y1 : w2.cell? ⟨w.heap.size + 1 + 1, 1, none⟩ = some (.int .i64 0) := HRr2.out.cell 1
  have y2 : w2.cell? ⟨w.heap.size + 1 + 1, 2, none⟩ = some (.slice none 0 0) := HRr2.out.cell 2
  have z0 := HRr2.out.frozen 0
  have z1 := HRr2.out.frozen 1
  have z2 := HRr2.out.frozen 2
  have hlr := HRr2.out.lt
  cases vb
  · have HN : Hid (substOk e j bb = false) := by show _ = _; unfold substOk; rw [← HVb.out, ← HVe.out]; rfl
    go_wp2_with fail
    refine bodyPost_ret (v := .tuple #[.agg #[.int .i64 0, .int .i64 0, .slice none 0 0], .bool false]) (by simp [results, Try.results18, go_sem, y0, y1, y2]) rfl ?_
    exact fail_o HN.out (occ_end HB2.out (by omega) _ _ _)
  by_cases hj0 : j < 0
  · have HN : Hid (substOk e j bb = false) := by show _ = _; unfold substOk; rw [show decide (0 ≤ j) = false by simp; omega]; simp
    go_wp2_with fail
    refine bodyPost_ret (v := .tuple #[.agg #[.int .i64 0, .int .i64 0, .slice none 0 0], .bool false]) (by simp [results, Try.results18, go_sem, y0, y1, y2]) rfl ?_
    exact fail_o HN.out (occ_end HB2.out (by omega) _ _ _)
  by_cases hj3 : 3 ≤ j
  · have HN : Hid (substOk e j bb = false) := by show _ = _; unfold substOk; rw [show decide (j < 3) = false by simp; omega]; simp
    go_wp2_with fail
    refine bodyPost_ret (v := .tuple #[.agg #[.int .i64 0, .int .i64 0, .slice none 0 0], .bool false]) (by simp [results, Try.results18, go_sem, y0, y1, y2]) rfl ?_
    exact fail_o HN.out (occ_end HB2.out (by omega) _ _ _)
  have HOk : Hid (substOk e j bb = valid (substE j bb 6 e)) := by
    show _ = _
    unfold substOk
    rw [← HVb.out, ← HVe.out, show decide (0 ≤ j) = true by simp; omega, show decide (j < 3) = true by simp; omega]
    simp
  have HSm := Lib.hid (subst_small (j := j) HVe.out.symm HVb.out.symm)
  have q0 : w2.cell? ⟨w.heap.size, 0, none⟩ = some (.int .i64 n0) := HRe2.out.cell 0
  have q1 : w2.cell? ⟨w.heap.size, 1, none⟩ = some (.int .i64 n1) := HRe2.out.cell 1
  have q2 : w2.cell? ⟨w.heap.size, 2, none⟩ = some (.slice a2 l2 cp2) := HRe2.out.cell 2
  have q3 : w2.cell? ⟨w.heap.size + 1, 0, none⟩ = some (.int .i64 m0) := HRb2.out.cell 0
  have q4 : w2.cell? ⟨w.heap.size + 1, 1, none⟩ = some (.int .i64 m1) := HRb2.out.cell 1
  have q5 : w2.cell? ⟨w.heap.size + 1, 2, none⟩ = some (.slice ma ml mc) := HRb2.out.cell 2
  obtain ⟨vo, hvo⟩ : ∃ vo, vo = valid (substE j bb 6 e) := ⟨_, rfl⟩
  have HVo := Lib.hid hvo
  clear hvo
  go_wp2_with fail
  refine (sub_any j bb m0 m1 ma ml mc (.inr fun W1 hW1 => copy_any bb _ _ _ W1 (shape_of_valid HVb.out) hW1) 6 e _ _ _ _ (shape_of_valid HVe.out) HLe2.out HLb2.out).mono ?_
  intro e' w3 hpost
  obtain ⟨d0, d1, d2, rfl, hsp, hb3⟩ := hpost.to
  clear hpost
  obtain ⟨i0, i1, ia, il, ic, rfl, rfl, rfl⟩ := hsp.form
  have hr3 := HRr2.out.under hb3 HRr2.out.lt
  have hl3 := hr3.lt
  obtain ⟨W4, hW4⟩ : ∃ W4, W4 = w3.alloc (.cells #[.int .i64 i0, .int .i64 i1, .slice ia il ic] 25) := ⟨_, rfl⟩
  have hb4 : Below w3.heap.size w3 W4 := by rw [hW4]; exact (Below.refl _ _).alloc (Nat.le_refl _) _
  have HR4 : Hid (Row W4 w3.heap.size 25 #[.int .i64 i0, .int .i64 i1, .slice ia il ic]) := by rw [hW4]; exact Row.new _ _ _
  have HRr4 := Lib.hid (hr3.under hb4 hr3.lt)
  have HSp4 := Lib.hid (hsp.under hb4 (Nat.le_refl _))
  have HLs4 := Lib.hid (below_more (hsp.lies) hb4 hb4.size)
  have h23 : w2.heap.size ≤ w3.heap.size := hb3.size
  have hw2 : w.heap.size ≤ w2.heap.size := HB2.out.size
  have HB4 := Lib.hid (HB2.out.trans ((hb3.trans (hb4.mono hb3.size)).mono HB2.out.size))
  have HW4 := Lib.hid hW4
  clear hsp hb3 hr3 hb4 hW4 q0 q1 q2 q3 q4 q5 y0 y1 y2 z0 z1 z2
  go_wp2_with fail
  rw [← HW4.out]
  refine (specValid_any _ _ _ _ _ HLs4.out (by have := HSm.out; omega)).mono ?_
  rintro e' w5 ⟨rfl, hb5⟩
  rw [← HVo.out]
  have HB5 := Lib.hid (HB4.out.trans (hb5.mono HB4.out.size))
  have HRr5 := HRr4.out.under hb5 HRr4.out.lt
  have y0 : w5.cell? ⟨w.heap.size + 1 + 1, 0, none⟩ = some (.int .i64 0) := HRr5.cell 0
  have y1 : w5.cell? ⟨w.heap.size + 1 + 1, 1, none⟩ = some (.int .i64 0) := HRr5.cell 1
  have y2 : w5.cell? ⟨w.heap.size + 1 + 1, 2, none⟩ = some (.slice none 0 0) := HRr5.cell 2
  have z0 := HRr5.frozen 0
  have z1 := HRr5.frozen 1
  have z2 := HRr5.frozen 2
  have hr4 := HR4.out.under hb5 HR4.out.lt
  have q0 : w5.cell? ⟨w3.heap.size, 0, none⟩ = some (.int .i64 i0) := hr4.cell 0
  have q1 : w5.cell? ⟨w3.heap.size, 1, none⟩ = some (.int .i64 i1) := hr4.cell 1
  have q2 : w5.cell? ⟨w3.heap.size, 2, none⟩ = some (.slice ia il ic) := hr4.cell 2
  have hl5 := hr4.lt
  have HSp5 := Lib.hid (HSp4.out.under hb5 (by have := HR4.out.lt; omega))
  clear hb5 HRr5 hr4
  cases vo
  · have HN : Hid (substOk e j bb = false) := by show _ = _; rw [HOk.out, ← HVo.out]
    go_wp2_with fail
    refine bodyPost_ret (v := .tuple #[.agg #[.int .i64 0, .int .i64 0, .slice none 0 0], .bool false]) (by simp [results, Try.results18, go_sem, y0, y1, y2]) rfl ?_
    exact fail_o HN.out (occ_end HB5.out (by omega) _ _ _)
  · have HN : Hid (substOk e j bb = true) := by show _ = _; rw [HOk.out, ← HVo.out]
    go_wp2_with fail
    refine bodyPost_ret (v := .tuple #[.agg #[.int .i64 i0, .int .i64 i1, .slice ia il ic], .bool true]) (by simp [results, Try.results18, go_sem, y0, y1, y2]) rfl ?_
    refine ⟨_, _, _, by rw [HN.out], ?_, occ_end HB5.out (by omega) _ _ _⟩
    rw [show substOut e j bb = substE j bb 6 e by unfold substOut; rw [HN.out]; rfl]
    refine (HSp5.out.keep (Nat.le_refl _) (Nat.le_refl _) fun q hq _ => ?_).more (by omega) (by simp; omega)
    rw [Below.heap_setCell _ _ _ _ (by simp; omega), Below.heap_setCell _ _ _ _ (by simp; omega), Below.heap_setCell _ _ _ _ (by simp; omega)]

set_option maxHeartbeats 1000000 in
set_option maxRecDepth 100000 in
theorem implSubst_any (e bb : Ex) (j : Int) (c0 c1 c2 b0 b1 b2 : Value) (w : World) (hL : Lies w w.heap.size e c0 c1 c2) (hB : Lies w w.heap.size bb b0 b1 b2) (hd : desc e ≤ 1048576) (hdb : desc bb ≤ 1048576) :
    Calls Try.prog 20 #[.agg #[c0, c1, c2], .int .i64 j, .agg #[b0, b1, b2]] w (SIPost e j bb w) := by
  obtain ⟨n0, n1, a2, l2, cp2, rfl, rfl, rfl⟩ := hL.form
  obtain ⟨m0, m1, ma, ml, mc, rfl, rfl, rfl⟩ := hB.form
  obtain ⟨W, hW⟩ : ∃ W, W = (((w.alloc (.cells #[.int .i64 n0, .int .i64 n1, .slice a2 l2 cp2] 25)).alloc (.cells #[.int .i64 j] 3)).alloc (.cells #[.int .i64 m0, .int .i64 m1, .slice ma ml mc] 25)).alloc (.cells #[.int .i64 0, .int .i64 0, .slice none 0 0] 25) := ⟨_, rfl⟩
  have hrows := rows4 w #[.int .i64 n0, .int .i64 n1, .slice a2 l2 cp2] #[.int .i64 j] #[.int .i64 m0, .int .i64 m1, .slice ma ml mc] #[.int .i64 0, .int .i64 0, .slice none 0 0]
  rw [← hW] at hrows
  obtain ⟨re, rj, rb, rr, hb⟩ := hrows
  have HW := Lib.hid hW
  have HLe := Lib.hid (below_more hL hb hb.size)
  have HLb := Lib.hid (below_more hB hb hb.size)
  have HB := Lib.hid hb
  have HRe := Lib.hid re
  have HRb := Lib.hid rb
  have HRr := Lib.hid rr
  have HRj := Lib.hid rj
  clear rj
  clear hL hB hW hb re rb rr
  obtain ⟨ve, hve⟩ : ∃ ve, ve = valid e := ⟨_, rfl⟩
  obtain ⟨vb, hvb⟩ : ∃ vb, vb = valid bb := ⟨_, rfl⟩
  have HVe := Lib.hid hve
  have HVb := Lib.hid hvb
  clear hve hvb
  go_enter Try.func20, Try.ntmps20
  go_wp2_with fail
  rw [← HW.out]
  refine (implValid_any e _ _ _ _ HLe.out hd).mono ?_
  rintro e' w1 ⟨rfl, hb1⟩
  rw [← HVe.out]
  have HB1 := Lib.hid (HB.out.trans (hb1.mono HB.out.size))
  have HRe1 := Lib.hid (HRe.out.under hb1 HRe.out.lt)
  have HRb1 := Lib.hid (HRb.out.under hb1 HRb.out.lt)
  have HRr1 := Lib.hid (HRr.out.under hb1 HRr.out.lt)
  have HLe1 := Lib.hid (below_more HLe.out hb1 hb1.size)
  have HLb1 := Lib.hid (below_more HLb.out hb1 hb1.size)
  have HRj1 := Lib.hid (HRj.out.under hb1 HRj.out.lt)
  clear hb1
  cases ve
  · have HN : Hid (substOk e j bb = false) := by show _ = _; unfold substOk; rw [← HVe.out]; rfl
    have y0 : w1.cell? ⟨w.heap.size + 1 + 1 + 1, 0, none⟩ = some (.int .i64 0) := HRr1.out.cell 0
    have y1 : w1.cell? ⟨w.heap.size + 1 + 1 + 1, 1, none⟩ = some (.int .i64 0) := HRr1.out.cell 1
    have y2 : w1.cell? ⟨w.heap.size + 1 + 1 + 1, 2, none⟩ = some (.slice none 0 0) := HRr1.out.cell 2
    have z0 := HRr1.out.frozen 0
    have z1 := HRr1.out.frozen 1
    have z2 := HRr1.out.frozen 2
    have hlr := HRr1.out.lt
    go_wp2_with fail
    refine bodyPost_ret (v := .tuple #[.agg #[.int .i64 0, .int .i64 0, .slice none 0 0], .bool false]) (by simp [results, Try.results20, go_sem, y0, y1, y2]) rfl ?_
    exact fail_i HN.out (occ_end HB1.out (by omega) _ _ _)
  have q0 : w1.cell? ⟨w.heap.size + 1 + 1, 0, none⟩ = some (.int .i64 m0) := HRb1.out.cell 0
  have q1 : w1.cell? ⟨w.heap.size + 1 + 1, 1, none⟩ = some (.int .i64 m1) := HRb1.out.cell 1
  have q2 : w1.cell? ⟨w.heap.size + 1 + 1, 2, none⟩ = some (.slice ma ml mc) := HRb1.out.cell 2
  go_wp2_with fail
  refine (implValid_any bb _ _ _ _ HLb1.out hdb).mono ?_
  rintro e' w2 ⟨rfl, hb2⟩
  rw [← HVb.out]
  have HB2 := Lib.hid (HB1.out.trans (hb2.mono HB1.out.size))
  have HRe2 := Lib.hid (HRe1.out.under hb2 HRe1.out.lt)
  have HRb2 := Lib.hid (HRb1.out.under hb2 HRb1.out.lt)
  have HRr2 := Lib.hid (HRr1.out.under hb2 HRr1.out.lt)
  have HLe2 := Lib.hid (below_more HLe1.out hb2 hb2.size)
  have HLb2 := Lib.hid (below_more HLb1.out hb2 hb2.size)
  have HRj2 := Lib.hid (HRj1.out.under hb2 HRj1.out.lt)
  have x0 : w2.cell? ⟨w.heap.size + 1, 0, none⟩ = some (.int .i64 j) := HRj2.out.cell 0
  clear hb2 q0 q1 q2
  have y0 : w2.cell? ⟨w.heap.size + 1 + 1 + 1, 0, none⟩ = some (.int .i64 0) := HRr2.out.cell 0
  have y1 : w2.cell? ⟨w.heap.size + 1 + 1 + 1, 1, none⟩ = some (.int .i64 0) := HRr2.out.cell 1
  have y2 : w2.cell? ⟨w.heap.size + 1 + 1 + 1, 2, none⟩ = some (.slice none 0 0) := HRr2.out.cell 2
  have z0 := HRr2.out.frozen 0
  have z1 := HRr2.out.frozen 1
  have z2 := HRr2.out.frozen 2
  have hlr := HRr2.out.lt
  cases vb
  · have HN : Hid (substOk e j bb = false) := by show _ = _; unfold substOk; rw [← HVb.out, ← HVe.out]; rfl
    go_wp2_with fail
    refine bodyPost_ret (v := .tuple #[.agg #[.int .i64 0, .int .i64 0, .slice none 0 0], .bool false]) (by simp [results, Try.results20, go_sem, y0, y1, y2]) rfl ?_
    exact fail_i HN.out (occ_end HB2.out (by omega) _ _ _)
  by_cases hj0 : j < 0
  · have HN : Hid (substOk e j bb = false) := by show _ = _; unfold substOk; rw [show decide (0 ≤ j) = false by simp; omega]; simp
    go_wp2_with fail
    refine bodyPost_ret (v := .tuple #[.agg #[.int .i64 0, .int .i64 0, .slice none 0 0], .bool false]) (by simp [results, Try.results20, go_sem, y0, y1, y2]) rfl ?_
    exact fail_i HN.out (occ_end HB2.out (by omega) _ _ _)
  by_cases hj3 : 3 ≤ j
  · have HN : Hid (substOk e j bb = false) := by show _ = _; unfold substOk; rw [show decide (j < 3) = false by simp; omega]; simp
    go_wp2_with fail
    refine bodyPost_ret (v := .tuple #[.agg #[.int .i64 0, .int .i64 0, .slice none 0 0], .bool false]) (by simp [results, Try.results20, go_sem, y0, y1, y2]) rfl ?_
    exact fail_i HN.out (occ_end HB2.out (by omega) _ _ _)
  have HOk : Hid (substOk e j bb = valid (substE j bb 6 e)) := by
    show _ = _
    unfold substOk
    rw [← HVb.out, ← HVe.out, show decide (0 ≤ j) = true by simp; omega, show decide (j < 3) = true by simp; omega]
    simp
  have HSm := Lib.hid (subst_small (j := j) HVe.out.symm HVb.out.symm)
  have q0 : w2.cell? ⟨w.heap.size, 0, none⟩ = some (.int .i64 n0) := HRe2.out.cell 0
  have q1 : w2.cell? ⟨w.heap.size, 1, none⟩ = some (.int .i64 n1) := HRe2.out.cell 1
  have q2 : w2.cell? ⟨w.heap.size, 2, none⟩ = some (.slice a2 l2 cp2) := HRe2.out.cell 2
  have q3 : w2.cell? ⟨w.heap.size + 1 + 1, 0, none⟩ = some (.int .i64 m0) := HRb2.out.cell 0
  have q4 : w2.cell? ⟨w.heap.size + 1 + 1, 1, none⟩ = some (.int .i64 m1) := HRb2.out.cell 1
  have q5 : w2.cell? ⟨w.heap.size + 1 + 1, 2, none⟩ = some (.slice ma ml mc) := HRb2.out.cell 2
  obtain ⟨vo, hvo⟩ : ∃ vo, vo = valid (substE j bb 6 e) := ⟨_, rfl⟩
  have HVo := Lib.hid hvo
  clear hvo
  go_wp2_with fail
  refine (foldS_any (w.heap.size + 1) (w.heap.size + 1 + 1) j bb 6 e _ _ _ _ (shape_of_valid HVe.out) HLe2.out ⟨⟨_, HRj2.out, rfl⟩, ⟨_, _, _, HRb2.out, HLb2.out⟩, shape_of_valid HVb.out⟩).mono ?_
  rintro e' w3 ⟨d0, d1, d2, rfl, hsp, hb3⟩
  obtain ⟨i0, i1, ia, il, ic, rfl, rfl, rfl⟩ := hsp.form
  have hr3 := HRr2.out.under hb3 HRr2.out.lt
  have hl3 := hr3.lt
  obtain ⟨W4, hW4⟩ : ∃ W4, W4 = w3.alloc (.cells #[.int .i64 i0, .int .i64 i1, .slice ia il ic] 25) := ⟨_, rfl⟩
  have hb4 : Below w3.heap.size w3 W4 := by rw [hW4]; exact (Below.refl _ _).alloc (Nat.le_refl _) _
  have HR4 : Hid (Row W4 w3.heap.size 25 #[.int .i64 i0, .int .i64 i1, .slice ia il ic]) := by rw [hW4]; exact Row.new _ _ _
  have HRr4 := Lib.hid (hr3.under hb4 hr3.lt)
  have HSp4 := Lib.hid (hsp.under hb4 (Nat.le_refl _))
  have HLs4 := Lib.hid (below_more (hsp.own.lies) hb4 hb4.size)
  have h23 : w2.heap.size ≤ w3.heap.size := hb3.size
  have hw2 : w.heap.size ≤ w2.heap.size := HB2.out.size
  have HB4 := Lib.hid (HB2.out.trans ((hb3.trans (hb4.mono hb3.size)).mono HB2.out.size))
  have HW4 := Lib.hid hW4
  clear hsp hb3 hr3 hb4 hW4 q0 q1 q2 q3 q4 q5 y0 y1 y2 z0 z1 z2
  go_wp2_with fail
  rw [← HW4.out]
  refine (implValid_any _ _ _ _ _ HLs4.out (by have := HSm.out; omega)).mono ?_
  rintro e' w5 ⟨rfl, hb5⟩
  rw [← HVo.out]
  have HB5 := Lib.hid (HB4.out.trans (hb5.mono HB4.out.size))
  have HRr5 := HRr4.out.under hb5 HRr4.out.lt
  have y0 : w5.cell? ⟨w.heap.size + 1 + 1 + 1, 0, none⟩ = some (.int .i64 0) := HRr5.cell 0
  have y1 : w5.cell? ⟨w.heap.size + 1 + 1 + 1, 1, none⟩ = some (.int .i64 0) := HRr5.cell 1
  have y2 : w5.cell? ⟨w.heap.size + 1 + 1 + 1, 2, none⟩ = some (.slice none 0 0) := HRr5.cell 2
  have z0 := HRr5.frozen 0
  have z1 := HRr5.frozen 1
  have z2 := HRr5.frozen 2
  have hr4 := HR4.out.under hb5 HR4.out.lt
  have q0 : w5.cell? ⟨w3.heap.size, 0, none⟩ = some (.int .i64 i0) := hr4.cell 0
  have q1 : w5.cell? ⟨w3.heap.size, 1, none⟩ = some (.int .i64 i1) := hr4.cell 1
  have q2 : w5.cell? ⟨w3.heap.size, 2, none⟩ = some (.slice ia il ic) := hr4.cell 2
  have hl5 := hr4.lt
  have HSp5 := Lib.hid (HSp4.out.under hb5 (by have := HR4.out.lt; omega))
  clear hb5 HRr5 hr4
  cases vo
  · have HN : Hid (substOk e j bb = false) := by show _ = _; rw [HOk.out, ← HVo.out]
    go_wp2_with fail
    refine bodyPost_ret (v := .tuple #[.agg #[.int .i64 0, .int .i64 0, .slice none 0 0], .bool false]) (by simp [results, Try.results20, go_sem, y0, y1, y2]) rfl ?_
    exact fail_i HN.out (occ_end HB5.out (by omega) _ _ _)
  · have HN : Hid (substOk e j bb = true) := by show _ = _; rw [HOk.out, ← HVo.out]
    go_wp2_with fail
    refine bodyPost_ret (v := .tuple #[.agg #[.int .i64 i0, .int .i64 i1, .slice ia il ic], .bool true]) (by simp [results, Try.results20, go_sem, y0, y1, y2]) rfl ?_
    refine ⟨_, _, _, by rw [HN.out], ?_, occ_end HB5.out (by omega) _ _ _⟩
    rw [show substOut e j bb = substE j bb 6 e by unfold substOut; rw [HN.out]; rfl]
    refine (HSp5.out.keep fun q hq _ => ?_).more (by omega) (by simp; omega)
    rw [Below.heap_setCell _ _ _ _ (by simp; omega), Below.heap_setCell _ _ _ _ (by simp; omega), Below.heap_setCell _ _ _ _ (by simp; omega)]

end Go.Proofs.Ytkcgjgdcmdjcfaa

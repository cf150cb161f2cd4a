/- The walk of the law laws.FnEvalExpr. -/
import Derived.Test.YtkcgjgdcmdjcfaaF5
import Derived.Test.YtkcgjgdcmdjcfaaEiF
import Derived.Deep.AppendLies
namespace Go.Proofs.Ytkcgjgdcmdjcfaa
open Go.RowKit

theorem ev_agree {zs zs' : List Int} : ∀ (d : Nat) (e : Ex), shape d e = true → (∀ i, i < 3 → occ d e i = true → zs.getD i 0 = zs'.getD i 0) → ev zs d e = ev zs' d e := by
  intro d
  induction d with
  | zero => intro e h; simp [shape] at h
  | succ d ih =>
    rintro ⟨k, v, kids⟩ h ho
    have hr := rootOk_parts (shape_root h)
    have hk : ∀ (i : Nat) (x : Ex), kids[i]? = some x → ev zs d x = ev zs' d x := fun i x hx => ih x (shape_kid h hx) fun q hq hoc => ho q hq (by
      show (_ || kids.any (fun x => occ d x q)) = true
      rw [Bool.or_eq_true]
      exact .inr (List.any_eq_true.2 ⟨x, List.mem_of_getElem? hx, hoc⟩))
    show op k v zs (ev zs d (kids.getD 0 default)) (ev zs d (kids.getD 1 default)) = op k v zs' (ev zs' d (kids.getD 0 default)) (ev zs' d (kids.getD 1 default))
    rcases hr with ⟨rfl, _⟩ | ⟨rfl, h0, h2, _⟩ | ⟨rfl, _, h1⟩ | ⟨h4, h9, _, h2⟩
    · rfl
    · have := ho v.toNat (by omega) (by
        show ((decide ((2 : Int) = 2) && decide (v = ((v.toNat : Nat) : Int))) || _) = true
        rw [show decide (v = ((v.toNat : Nat) : Int)) = true by simp; omega]
        rfl)
      exact this
    · match kids, h1 with
      | [x], _ =>
        rw [show ([x] : List Ex).getD 0 default = x from rfl, hk 0 x rfl]
        rfl
    · match kids, h2 with
      | [x, y], _ =>
        rw [show ([x, y] : List Ex).getD 0 default = x from rfl, show ([x, y] : List Ex).getD 1 default = y from rfl, hk 0 x rfl, hk 1 y rfl]
        have e1 : ¬ k = 1 := by omega
        have e2 : ¬ k = 2 := by omega
        unfold op
        simp only [if_neg e1, if_neg e2]

/-- A row whose first three cells are these numbers. -/
def Oth (w : World) (g : Nat) (f : Nat → Int) : Prop := ∃ cs : Array Value, Row w g 3 cs ∧ 3 ≤ cs.size ∧ ∀ i, i < 3 → cs[i]? = some (.int .i64 (f i))
theorem Oth.cell {w : World} {g : Nat} {f : Nat → Int} (h : Oth w g f) {i : Nat} (hi : i < 3) : w.cell? ⟨g, i, none⟩ = some (.int .i64 (f i)) := by
  obtain ⟨cs, hr, _, hc⟩ := h
  rw [hr.cell]
  exact hc i hi
theorem Oth.frozen {w : World} {g : Nat} {f : Nat → Int} (h : Oth w g f) (i : Nat) : w.frozen? ⟨g, i, none⟩ = false := by
  obtain ⟨cs, hr, _⟩ := h
  exact hr.frozen i
theorem Oth.lt {w : World} {g : Nat} {f : Nat → Int} (h : Oth w g f) : g < w.heap.size := by
  obtain ⟨cs, hr, _⟩ := h
  exact hr.lt
theorem Oth.set_ {w : World} {g : Nat} {f : Nat → Int} (h : Oth w g f) {i : Nat} (hi : i < 3) (u : Int) : Oth (w.setCell ⟨g, i, none⟩ (.int .i64 u)) g (fun r => if r = i then u else f r) := by
  obtain ⟨cs, hr, hs, hc⟩ := h
  refine ⟨_, hr.set_ i _, by simpa using hs, fun r hr3 => ?_⟩
  rw [Array.getElem?_setIfInBounds]
  by_cases e : r = i
  · subst e
    simp
    omega
  · rw [if_neg (fun h => e h.symm)]
    show _ = some (Value.int .i64 (if r = i then u else f r))
    rw [if_neg e]
    exact hc r hr3
theorem Oth.congr {w : World} {g : Nat} {f f' : Nat → Int} (h : Oth w g f) (e : ∀ i, i < 3 → f i = f' i) : Oth w g f' := by
  obtain ⟨cs, hr, hs, hc⟩ := h
  exact ⟨cs, hr, hs, fun i hi => by rw [← e i hi]; exact hc i hi⟩
theorem Oth.new (w : World) (z0 z1 z2 : Int) (T : Array Value) : Oth (w.alloc (.cells (#[.int .i64 z0, .int .i64 z1, .int .i64 z2] ++ T) 3)) w.heap.size (fun i => [z0, z1, z2].getD i 0) := by
  refine ⟨_, Row.new w 3 _, by simp, fun i hi => ?_⟩
  rw [Array.getElem?_append_left (by simpa using hi)]
  match i, hi with
  | 0, _ => rfl
  | 1, _ => rfl
  | 2, _ => rfl

theorem eval_same {a : Ex} {zs zs' : List Int} (h : evalOk a zs = true) (hl : zs'.length = 3) (hr : ∀ i, i < 3 → 0 ≤ zs'.getD i 0 ∧ zs'.getD i 0 ≤ 3) (ho : ∀ i, i < 3 → occ 6 a i = true → zs.getD i 0 = zs'.getD i 0) :
    evalOk a zs' = true ∧ evalOut a zs' = evalOut a zs := by
  have hv : valid a = true ∧ valsOk zs = true := by simpa [evalOk] using h
  have hz : valsOk zs' = true := by
    match zs', hl with
    | [x, y, z], _ =>
      have h0 := hr 0 (by omega)
      have h1 := hr 1 (by omega)
      have h2 := hr 2 (by omega)
      simp at h0 h1 h2
      simp [valsOk, valOk]
      omega
  have h' : evalOk a zs' = true := by simp [evalOk, hv.1, hz]
  refine ⟨h', ?_⟩
  unfold evalOut
  rw [h, h', if_pos rfl, if_pos rfl]
  exact (ev_agree 6 a (shape_of_valid hv.1.symm) ho).symm

set_option maxHeartbeats 1000000 in
set_option maxRecDepth 100000 in
theorem lawEvalExpr_any (A : Option Addr) (b off n cap : Nat) (w : World) (hC : Seed w A b off n cap) :
    Calls Try.prog 3 #[.slice A n cap] w fun e' w' => e' = .returned (.bool true) ∧ Below w.heap.size w w' := by
  have hn := hC.lenle
  unfold maxLen at hn
  have HC := Lib.hid hC
  clear hC
  by_cases h1 : 1048576 < n
  · go_enter Try.func3, Try.ntmps3
    go_wp2_with fail
    go_ret
    exact ⟨rfl, Below.refl _ _⟩
  go_enter Try.func3, Try.ntmps3
  go_wp2_with fail
  refine (drawEval_any A b off n cap _ HC.out).mono ?_
  rintro e' w1 ⟨a, a0, a1, a2, zs, Av, bv, ov, cv, rfl, hoa, hda, hzl, hI1, hb1⟩
  obtain ⟨i0, i1, ia, il, ic, rfl, rfl, rfl⟩ := hoa.form
  obtain ⟨W2, hW2⟩ : ∃ W2, W2 = w1.alloc (.cells #[.int .i64 i0, .int .i64 i1, .slice ia il ic] 25) := ⟨_, rfl⟩
  have hB2 : Below w1.heap.size w1 W2 := by rw [hW2]; exact (Below.refl _ _).alloc (Nat.le_refl _) _
  have HRa2 : Hid (Row W2 w1.heap.size 25 #[.int .i64 i0, .int .i64 i1, .slice ia il ic]) := by rw [hW2]; exact Row.new _ _ _
  have HLa2 := Lib.hid (below_more hoa.lies hB2 hB2.size)
  have HI2 := Lib.hid (hI1.under hB2 hB2.size)
  have HB2 := Lib.hid (hb1.trans (hB2.mono hb1.size))
  have HW2 := Lib.hid hW2
  have hd : desc a ≤ 1048576 := by omega
  have HZm : Hid (zs.length ≤ maxLen) := by show _ ≤ _; unfold maxLen; omega
  clear hW2 hB2 hoa hb1 hI1 HC
  obtain ⟨x, hx⟩ : ∃ x, x = evalOut a zs := ⟨_, rfl⟩
  obtain ⟨pk, hpk⟩ : ∃ pk, pk = evalOk a zs := ⟨_, rfl⟩
  have HX := Lib.hid hx
  have HPk := Lib.hid hpk
  clear hx hpk
  go_wp2_with fail
  rw [← HW2.out]
  refine (implEval_any a zs _ _ _ Av bv ov cv _ HLa2.out hd HZm.out HI2.out).mono ?_
  rintro e' w3 ⟨rfl, hb3⟩
  rw [← HX.out, ← HPk.out]
  have hr3 := HRa2.out.under hb3 HRa2.out.lt
  have q0 : w3.cell? ⟨w1.heap.size, 0, none⟩ = some (.int .i64 i0) := hr3.cell 0
  have q1 : w3.cell? ⟨w1.heap.size, 1, none⟩ = some (.int .i64 i1) := hr3.cell 1
  have q2 : w3.cell? ⟨w1.heap.size, 2, none⟩ = some (.slice ia il ic) := hr3.cell 2
  have HR3 := Lib.hid hr3
  have HL3 := Lib.hid (below_more HLa2.out hb3 hb3.size)
  have HI3 := Lib.hid (HI2.out.under hb3 hb3.size)
  have HB3 := Lib.hid (HB2.out.trans (hb3.mono HB2.out.size))
  clear hb3 hr3 HRa2 HLa2 HB2 HW2 HI2
  go_wp2_with fail
  refine (specEval_any a zs _ _ _ Av bv ov cv _ HL3.out hd HZm.out HI3.out).mono ?_
  rintro e' w4 ⟨rfl, hb4⟩
  rw [← HX.out, ← HPk.out]
  have hr4 := HR3.out.under hb4 HR3.out.lt
  have q0 : w4.cell? ⟨w1.heap.size, 0, none⟩ = some (.int .i64 i0) := hr4.cell 0
  have q1 : w4.cell? ⟨w1.heap.size, 1, none⟩ = some (.int .i64 i1) := hr4.cell 1
  have q2 : w4.cell? ⟨w1.heap.size, 2, none⟩ = some (.slice ia il ic) := hr4.cell 2
  have HR4 := Lib.hid hr4
  have HL4 := Lib.hid (below_more HL3.out hb4 hb4.size)
  have HI4 := Lib.hid (HI3.out.under hb4 hb4.size)
  have HB4 := Lib.hid (HB3.out.trans (hb4.mono HB3.out.size))
  clear hb4 hr4 HR3 HL3 HB3 HI3
  cases pk
  · go_wp2_with fail
    go_ret
    exact ⟨ret_bool (by simp), HB4.out⟩
  · have hv : true = valid a ∧ true = valsOk zs := by
      have := HPk.out
      unfold evalOk at this
      rw [Bool.true_eq, Bool.and_eq_true] at this
      exact ⟨this.1.symm, this.2.symm⟩
    obtain ⟨hV, hZ⟩ := hv
    have hvals := vals_of hZ HI4.out
    have hxr : 0 ≤ x ∧ x ≤ 3 := by
      rw [HX.out]
      unfold evalOut
      rw [← HPk.out, if_pos rfl]
      exact ev_range hvals.range 6 a (shape_of_valid hV)
    obtain ⟨hx0, hx3⟩ := hxr
    have hAv : Av = some ⟨bv, ov, none⟩ := (hvals.cell (i := 0) (by omega)).1
    have hz3 : zs.length = 3 := hvals.len
    have HRg := Lib.hid hvals.range
    subst hAv
    have HV := Lib.hid hV
    clear hvals hZ hV
    rw [hz3]
    go_wp2_with fail
    refine (implVars_any a _ _ _ _ HL4.out hd).mono ?_
    rintro e' w5 ⟨hv5, hb5⟩
    obtain ⟨hvf, _⟩ | ⟨_, g5, t5, rfl, hg5, hr5⟩ := hv5
    · exact absurd (HV.out.trans hvf) (by simp)
    have HRv := Lib.hid hr5
    have hrb := HR4.out.under hb5 HR4.out.lt
    have HRb := Lib.hid hrb
    have HL5 := Lib.hid (below_more HL4.out hb5 hb5.size)
    have HI5 := Lib.hid (HI4.out.under hb5 hb5.size)
    have HB5 := Lib.hid (HB4.out.trans (hb5.mono HB4.out.size))
    clear hb5 hr5 hrb HR4 HL4 HB4 HI4 q0 q1 q2
    obtain ⟨z0, z1, z2, rfl⟩ : ∃ z0 z1 z2, zs = [z0, z1, z2] := by
      match zs, hz3 with
      | [z0, z1, z2], _ => exact ⟨z0, z1, z2, rfl⟩
    have c0 : w5.cell? ⟨bv, ov, none⟩ = some (.int .i64 z0) := (HI5.out 0 z0 rfl).2.2
    have c1 : w5.cell? ⟨bv, ov + 1, none⟩ = some (.int .i64 z1) := (HI5.out 1 z1 rfl).2.2
    have c2 : w5.cell? ⟨bv, ov + 2, none⟩ = some (.int .i64 z2) := (HI5.out 2 z2 rfl).2.2
    have hbv : bv < w5.heap.size := (HI5.out 0 z0 rfl).2.1
    obtain ⟨Z, hZ⟩ : ∃ Z : Nat → Int, Z = fun r => [z0, z1, z2].getD r 0 := ⟨_, rfl⟩
    obtain ⟨F, hF⟩ : ∃ F : Nat → Int, F = fun r => if occ 6 a r = true then Z r else (Z r + 1 + n) % 4 := ⟨_, rfl⟩
    have HZ := Lib.hid hZ
    have HF := Lib.hid hF
    have hg5l : g5 < w5.heap.size := HRv.out.lt
    clear hZ hF hz3 hzl
    go_wp2_with fail
    go_loopw [11] (fun i wl => ∃ q : Nat, q ≤ 3 ∧ i = .int .i64 q ∧ Hid (Oth wl (w5.heap.size + 1) (fun r => if r < q then F r else Z r)) ∧ Hid (Below w5.heap.size w5 wl)) (fun i _ => 3 - (intOf i).toNat)
    case atStart =>
      refine ⟨0, by omega, rfl, ?_, ((((Below.refl _ _).alloc (Nat.le_refl _) _).alloc (by simp) _).drew : Below _ _ _)⟩
      have h := Oth.new (w5.alloc (.cells #[] 3)) z0 z1 z2 (Builtin.zeroCells #[.int .i64 0] ((Question.appendCap 3 0 3).cut (w5.tape w5.drawn (Question.appendCap 3 0 3)) - 3))
      rw [show (w5.alloc (.cells #[] 3)).heap.size = w5.heap.size + 1 by simp] at h
      exact (h.congr (f' := fun r => if r < 0 then F r else Z r) (fun i _ => by rw [HZ.out]; rfl) : Oth _ _ _)
    case round =>
      clear c0 c1 c2
      obtain ⟨q, hq, rfl, HO, HB⟩ := hrel
      by_cases hq3 : q < 3
      · obtain ⟨oc, hoc⟩ : ∃ oc, oc = occ 6 a q := ⟨_, rfl⟩
        obtain ⟨z, hz⟩ : ∃ z, z = Z q := ⟨_, rfl⟩
        have hzr : 0 ≤ z ∧ z ≤ 3 := by rw [hz, HZ.out]; exact HRg.out q
        obtain ⟨hz0, hz3⟩ := hzr
        have d1 : wr.cell? ⟨g5, q, none⟩ = some (.bool oc) := by rw [(HRv.out.under HB.out hg5l).cell, tri_get _ hq3, hoc]
        have d2 : wr.cell? ⟨bv, ov + q, none⟩ = some (.int .i64 z) := by
          have h := (HI5.out.under HB.out (Nat.le_refl _)) q z (by
            rw [hz, HZ.out]
            match q, hq3 with
            | 0, _ => rfl
            | 1, _ => rfl
            | 2, _ => rfl)
          exact h.2.2
        have d3 : wr.cell? ⟨w5.heap.size + 1, q, none⟩ = some (.int .i64 z) := by rw [HO.out.cell hq3, if_neg (by omega), hz]
        have d4 := HO.out.frozen q
        have hol := HO.out.lt
        have hFq : F q = if oc = true then z else (z + 1 + n) % 4 := by rw [HF.out, hoc, hz]
        have HFq := Lib.hid hFq
        have HZq : Hid (Z q = z) := hz.symm
        clear hoc hz hFq
        have hbl : bv < wr.heap.size := by omega
        cases oc
        · have HO' : Hid (Oth (wr.setCell ⟨w5.heap.size + 1, q, none⟩ (.int .i64 ((z + 1 + n) % 4))) (w5.heap.size + 1) (fun r => if r < q + 1 then F r else Z r)) := (HO.out.set_ hq3 ((z + 1 + n) % 4)).congr fun r _ => by
            by_cases e1 : r = q
            · subst e1
              rw [if_pos rfl, if_pos (by omega), HFq.out]
              rfl
            · rw [if_neg e1]
              by_cases e2 : r < q
              · rw [if_pos e2, if_pos (by omega)]
              · rw [if_neg e2, if_neg (by omega)]
          go_wp2_with fail
          go_roundw
          case rel => exact ⟨q + 1, by omega, by go_num, HO', HB.out.setCell (by simp) _⟩
          case measure => simp [intOf]; omega
        · have HO' : Hid (Oth wr (w5.heap.size + 1) (fun r => if r < q + 1 then F r else Z r)) := HO.out.congr fun r _ => by
            by_cases e1 : r = q
            · subst e1
              rw [if_neg (by omega), if_pos (by omega), HFq.out, HZq.out]
              rfl
            · by_cases e2 : r < q
              · rw [if_pos e2, if_pos (by omega)]
              · rw [if_neg e2, if_neg (by omega)]
          go_wp2_with fail
          go_roundw
          case rel => exact ⟨q + 1, by omega, by go_num, HO', HB⟩
          case measure => simp [intOf]; omega
      · have hqq : q = 3 := by omega
        subst hqq
        have hrb := HRb.out.under HB.out HRb.out.lt
        have q0 : wr.cell? ⟨w1.heap.size, 0, none⟩ = some (.int .i64 i0) := hrb.cell 0
        have q1 : wr.cell? ⟨w1.heap.size, 1, none⟩ = some (.int .i64 i1) := hrb.cell 1
        have q2 : wr.cell? ⟨w1.heap.size, 2, none⟩ = some (.slice ia il ic) := hrb.cell 2
        have HLf := Lib.hid (below_more HL5.out HB.out HB.out.size)
        have HBf := Lib.hid (HB5.out.trans (HB.out.mono HB5.out.size))
        have HIf : Hid (Ints wr wr.heap.size (some ⟨w5.heap.size + 1, 0, none⟩) (w5.heap.size + 1) 0 [F 0, F 1, F 2]) := by
          intro i z hz
          have hi : i < 3 := (List.getElem?_eq_some_iff.1 hz).1
          refine ⟨rfl, HO.out.lt, ?_⟩
          rw [Nat.zero_add, HO.out.cell hi, if_pos hi]
          match i, hi with
          | 0, _ => simp at hz; rw [hz]
          | 1, _ => simp at hz; rw [hz]
          | 2, _ => simp at hz; rw [hz]
        have hFr : ∀ i, i < 3 → [F 0, F 1, F 2].getD i 0 = F i := fun i hi => by
          match i, hi with
          | 0, _ => rfl
          | 1, _ => rfl
          | 2, _ => rfl
        obtain ⟨e1, e2⟩ := eval_same (a := a) (zs := [z0, z1, z2]) (zs' := [F 0, F 1, F 2]) HPk.out.symm rfl
          (fun i hi => by
            rw [hFr i hi, HF.out]
            have hr := HRg.out i
            have hZi : Z i = [z0, z1, z2].getD i 0 := by rw [HZ.out]
            rw [← hZi] at hr
            show 0 ≤ (if occ 6 a i = true then Z i else (Z i + 1 + n) % 4) ∧ (if occ 6 a i = true then Z i else (Z i + 1 + n) % 4) ≤ 3
            by_cases ho : occ 6 a i = true
            · rw [if_pos ho]; exact hr
            · rw [if_neg ho]; omega)
          (fun i hi ho => by
            rw [hFr i hi, HF.out]
            show _ = (if occ 6 a i = true then Z i else (Z i + 1 + n) % 4)
            rw [if_pos ho, HZ.out])
        rw [← HX.out] at e2
        have HE1 := Lib.hid e1
        have HE2 := Lib.hid e2
        have HFl : Hid ([F 0, F 1, F 2].length ≤ maxLen) := by show _ ≤ _; unfold maxLen; simp
        clear e1 e2 hFr hrb HO HB
        go_wp2_with fail
        refine (implEval_any a [F 0, F 1, F 2] _ _ _ (some ⟨w5.heap.size + 1, 0, none⟩) (w5.heap.size + 1) 0 _ _ HLf.out hd HFl.out HIf.out).mono ?_
        rintro e' w9 ⟨rfl, hb9⟩
        rw [HE1.out, HE2.out]
        have HB9 := Lib.hid (HBf.out.trans (hb9.mono HBf.out.size))
        clear hb9
        go_wp2_with fail
        go_ret
        exact ⟨ret_bool (by simp), HB9.out⟩

end Go.Proofs.Ytkcgjgdcmdjcfaa

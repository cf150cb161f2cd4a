/- Both SystemReach (Ri, Rs in one). -/
import Derived.Test.YtponbjclecdafaaRcA
namespace Go.Proofs.Ytponbjclecdafaa
open Go.RowKit

set_option maxHeartbeats 2000000 in
set_option maxRecDepth 100000 in
theorem implReach_any (s : Sy) (C : Nat → Value) (p : Int) (w : World) (hL : Lay.sy.lies w w.heap.size s C) (hd : Lay.sy.sz s ≤ 1048576) :
    Calls Try.prog 54 #[.agg #[C 0, C 1], .int .i64 p] w (RPost s p w) := by
  rw [sy_sz] at hd
  obtain ⟨ini, ps⟩ := s
  obtain ⟨⟨A, cap, b, off, E, e0, hl, hO⟩, B, cbp, c, pff, F, e1, hm, hP⟩ := sy_lies hL
  have hL' : Lay.sy.lies w w.heap.size ⟨ini, ps⟩ (fun j => (#[.slice A ini.length cap, .slice B ps.length cbp] : Array Value).getD j undef) := ⟨⟨A, cap, b, off, E, rfl, hl, hO⟩, B, cbp, c, pff, F, rfl, hm, hP⟩
  rw [e0, e1]
  clear e0 e1 hL hO
  unfold maxLen at hm
  obtain ⟨vo, hvo⟩ : ∃ vo, vo = syOk ⟨ini, ps⟩ := ⟨_, rfl⟩
  have HVo := Lib.hid hvo
  obtain ⟨W1, hW1⟩ : ∃ W1, W1 = w.alloc (.cells #[.slice A ini.length cap, .slice B ps.length cbp] 95) := ⟨_, rfl⟩
  have hb0 : Below w.heap.size w W1 := by rw [hW1]; exact (Below.refl _ _).alloc (Nat.le_refl _) _
  have HR0 : Hid (Row W1 w.heap.size 95 #[.slice A ini.length cap, .slice B ps.length cbp]) := by rw [hW1]; exact Row.new _ _ _
  have HL1 := Lib.hid (Lay.sy.later hL' hb0 hb0.size)
  have HP := Lib.hid hP
  have HB0 := Lib.hid hb0
  have HW1 := Lib.hid hW1
  have HD : Hid (Lay.sy.sz ⟨ini, ps⟩ ≤ 1048576) := hd
  clear hP hb0 hW1 hL' hd hvo hl
  go_enter Try.func54, Try.ntmps54
  go_wp2_with fail
  rw [← HW1.out]
  refine (implSy_any ⟨ini, ps⟩ (fun j => (#[.slice A ini.length cap, .slice B ps.length cbp] : Array Value).getD j undef) W1 HL1.out HD.out).mono ?_
  rintro e' w1 ⟨rfl, hb1⟩
  rw [← HVo.out]
  have HB1 := Lib.hid (HB0.out.trans (hb1.mono HB0.out.size))
  have HR1 := Lib.hid (HR0.out.under hb1 HR0.out.lt)
  obtain ⟨r0, r1⟩ := HR1.out.two
  have hwl : w.heap.size < w1.heap.size := HR1.out.lt
  clear hb1
  cases vo
  · have HN : Hid (¬ (syOk ⟨ini, ps⟩ = true ∧ 0 ≤ p ∧ p < (⟨ini, ps⟩ : Sy).ps.length)) := fun h => by have := HVo.out; rw [h.1] at this; cases this
    go_wp2_with fail
    go_ret
    exact rpost_no HN.out HB1.out none 0
  by_cases h1 : p < 0
  · have HN : Hid (¬ (syOk ⟨ini, ps⟩ = true ∧ 0 ≤ p ∧ p < (⟨ini, ps⟩ : Sy).ps.length)) := fun h => by have := h.2.1; omega
    go_wp2_with fail
    go_ret
    exact rpost_no HN.out HB1.out none 0
  by_cases h2 : (ps.length : Int) ≤ p
  · have HN : Hid (¬ (syOk ⟨ini, ps⟩ = true ∧ 0 ≤ p ∧ p < (⟨ini, ps⟩ : Sy).ps.length)) := fun h => by have := h.2.2; dsimp only at this; omega
    go_wp2_with fail
    go_ret
    exact rpost_no HN.out HB1.out none 0
  obtain ⟨k, rfl⟩ : ∃ k : Nat, p = k := ⟨p.toNat, by omega⟩
  have hk : k < ps.length := by omega
  obtain ⟨x, hx⟩ : ∃ x, ps[k]? = some x := ⟨_, List.getElem?_eq_getElem hk⟩
  have hok := syOk_pr (s := ⟨ini, ps⟩) HVo.out.symm hx
  obtain ⟨n, hn⟩ : ∃ n : Nat, x.loc = n := ⟨x.loc.toNat, by
    unfold prOk at hok
    simp only [Bool.and_eq_true, decide_eq_true_eq] at hok
    omega⟩
  obtain ⟨hn1, hn4, hl6, hfit⟩ := prOk_fit hok hn
  obtain ⟨hrn, hrm⟩ := rN_yes (s := ⟨ini, ps⟩) HVo.out.symm hx hn
  obtain ⟨rfl, hbB, gc, gl⟩ := HP.out.below HB1.out k x hx
  have g0 : w1.cell? ⟨c, pff + k * 2, none⟩ = some (F k 0) := gc 0 (by decide)
  have g1 : w1.cell? ⟨c, pff + k * 2 + 1, none⟩ = some (F k 1) := gc 1 (by decide)
  obtain ⟨loc, es⟩ := x
  obtain ⟨u0, A2, cap2, b2, off2, D2, u1, _, hO2⟩ := pr_lies gl
  rw [u0] at g0
  rw [u1] at g1
  dsimp only at hn hl6 hfit hrm
  subst hn
  have HRN := Lib.hid hrn
  have HRM := Lib.hid hrm
  have HFit := Lib.hid hfit
  obtain ⟨W2, hW2⟩ : ∃ W2, W2 = w1.alloc (.cells #[.int .i64 (n : Int), .slice A2 es.length cap2] 152) := ⟨_, rfl⟩
  have hb2 : Below w1.heap.size w1 W2 := by rw [hW2]; exact (Below.refl _ _).alloc (Nat.le_refl _) _
  have HRp : Hid (Row W2 w1.heap.size 152 #[.int .i64 (n : Int), .slice A2 es.length cap2]) := by rw [hW2]; exact Row.new _ _ _
  have HB2 := Lib.hid (HB1.out.trans (hb2.mono HB1.out.size))
  have HO2 := Lib.hid (hO2.grow (hb2.mono HB1.out.size) (Nat.le_trans HB1.out.size hb2.size))
  have HW2 := Lib.hid hW2
  clear hx hok hfit hrn hrm gc gl hO2 hb2 hW2 u0 u1 h1 h2
  go_wp2_with fail
  rw [← HW2.out]
  refine (reached_any n es n A2 cap2 b2 off2 D2 W2 hl6 HO2.out HFit.out).mono ?_
  rintro e' w3 ⟨⟨r, hr, rfl, hbits⟩, hb3⟩
  have HBits := Lib.hid hbits
  have hr3 := HRp.out.under hb3 HRp.out.lt
  obtain ⟨s0, s1⟩ := hr3.two
  have HB3 := Lib.hid (HB2.out.trans (hb3.mono HB2.out.size))
  obtain ⟨cs, hcs, hcb, hmk⟩ := make_bools n (by omega) w3
  have HCs := Lib.hid hcs
  have HCb := Lib.hid hcb
  clear g0 g1 hb3 hr3 hbits r0 r1 hcs hcb
  go_wp2_with fail
  go_loopw [35] (fun i wl => ∃ q : Nat, q ≤ n ∧ i = .int .i64 q ∧ Hid (∃ cs' : Array Value, Row wl w3.heap.size 4 cs' ∧ cs'.size = n ∧ ∀ i, i < q → cs'[i]? = some (.bool (rcB es i))) ∧ Hid (Below w.heap.size w wl)) (fun i _ => n - (intOf i).toNat)
  case atStart => exact ⟨0, Nat.zero_le _, rfl, ⟨cs, Row.new _ _ _, HCs.out, fun i hi => by omega⟩, HB3.out.alloc HB3.out.size _⟩
  case round =>
    clear hmk
    obtain ⟨q, hq, rfl, HC, HB⟩ := hrel
    by_cases hqn : q < n
    · obtain ⟨cs', hr', hsz, hpre⟩ := HC.out
      obtain ⟨u, hu⟩ : ∃ u, cs'[q]? = some u := ⟨_, Array.getElem?_eq_getElem (by omega)⟩
      have cq : wr.cell? ⟨w3.heap.size, q, none⟩ = some u := by rw [hr'.cell]; exact hu
      have zq := hr'.frozen q
      have lq := hr'.lt
      have HST : Hid (∃ cs2 : Array Value, Row (wr.setCell ⟨w3.heap.size, q, none⟩ (.bool (r.testBit q))) w3.heap.size 4 cs2 ∧ cs2.size = n ∧ ∀ i, i < q + 1 → cs2[i]? = some (.bool (rcB es i))) := by
        refine ⟨_, hr'.set_ q _, by simp [hsz], fun i hi => ?_⟩
        rw [Array.getElem?_setIfInBounds]
        by_cases e : q = i
        · subst e
          rw [if_pos rfl, if_pos (by omega), HBits.out q hqn]
        · rw [if_neg e]
          exact hpre i (by omega)
      have HB' : Hid (Below w.heap.size w (wr.setCell ⟨w3.heap.size, q, none⟩ (.bool (r.testBit q)))) := HB.out.setCell HB3.out.size _
      clear hr' hpre hu
      go_wp2_with fail
      refine (has_any r q wr hr (by omega)).mono ?_
      rintro e' w5 ⟨rfl, rfl⟩
      obtain ⟨tb, htb⟩ : ∃ tb, tb = r.testBit q := ⟨_, rfl⟩
      rw [← htb] at HST HB' ⊢
      clear htb
      go_wp2_with fail
      go_roundw
      case rel => exact ⟨q + 1, by omega, by go_num, HST, HB'⟩
      case measure => simp [intOf]; omega
    · have hqq : q = n := by omega
      subst hqq
      have HFin : Hid (BN (rN ⟨ini, ps⟩ (k : Int)) wr w.heap.size wr.heap.size (.slice (some ⟨w3.heap.size, 0, none⟩) q q) (rM ⟨ini, ps⟩ (k : Int))) := by
        rw [HRN.out, HRM.out]
        obtain ⟨cs', hr', hsz, hpre⟩ := HC.out
        exact ⟨_, q, w3.heap.size, _, rfl, by omega, fun i hi => ⟨rfl, HB3.out.size, hr'.lt, cs', hr', hpre⟩⟩
      go_wp2_with fail
      go_ret
      exact ⟨_, rfl, HFin.out, HB.out⟩


theorem countP_less {l : List Nat} {p p' : Nat → Bool} {q : Nat} (hq : q ∈ l) (h1 : ∀ x, p' x = true → p x = true) (h2 : p q = true) (h3 : p' q = false) : l.countP p' < l.countP p := by
  induction l with
  | nil => cases hq
  | cons a r ih =>
    have hm : r.countP p' ≤ r.countP p := List.countP_mono_left fun x _ => h1 x
    rw [List.countP_cons, List.countP_cons]
    rcases List.mem_cons.1 hq with rfl | hq
    · rw [h2, h3]
      simp
      omega
    · have := ih hq
      cases hp : p' a
      · simp
        omega
      · rw [h1 a hp]
        simp
        omega

open Classical in
/-- How many of the first n cells are false. -/
noncomputable def fls (w : World) (g n : Nat) : Nat := (List.range n).countP fun i => decide (w.cell? ⟨g, i, none⟩ = some (.bool false))

open Classical in
theorem fls_less {w : World} {g n q : Nat} {t : TypeId} {cs : Array Value} (hr : Row w g t cs) (hq : q < n) (hc : cs[q]? = some (.bool false)) : fls (w.setCell ⟨g, q, none⟩ (.bool true)) g n < fls w g n := by
  have hs : q < cs.size := by
    rcases Nat.lt_or_ge q cs.size with h | h
    · exact h
    · rw [Array.getElem?_eq_none h] at hc; cases hc
  refine countP_less (q := q) (List.mem_range.2 hq) (fun x hx => ?_) ?_ ?_
  · have hx := of_decide_eq_true hx
    refine decide_eq_true ?_
    rw [(hr.set_ q (.bool true)).cell, Array.getElem?_setIfInBounds] at hx
    rw [hr.cell]
    by_cases e : q = x
    · subst e
      rw [if_pos rfl, if_pos hs] at hx
      cases hx
    · rw [if_neg e] at hx
      exact hx
  · exact decide_eq_true (by rw [hr.cell]; exact hc)
  · refine decide_eq_false ?_
    rw [(hr.set_ q (.bool true)).cell, Array.getElem?_setIfInBounds, if_pos rfl, if_pos hs]
    intro h
    cases h

theorem less_meas {a b L j : Nat} (h : a < b) (hj : j < L) : a * (L + 1) + (L - 0) < b * (L + 1) + (L - j) := by
  have := Nat.mul_le_mul_right (L + 1) (Nat.succ_le_of_lt h)
  rw [Nat.succ_mul] at this
  omega

/-- What has been found, in a row. -/
structure Fnm (es : List Ed) (n : Nat) (m : Nat → Bool) : Prop where
  zero : m 0 = true
  sound : ∀ i, i < n → m i = true → Rch es (i : Int)

set_option maxHeartbeats 4000000 in
set_option maxRecDepth 100000 in
theorem specReach_any (s : Sy) (C : Nat → Value) (p : Int) (w : World) (hL : Lay.sy.lies w w.heap.size s C) (hd : Lay.sy.sz s ≤ 1048576) :
    Calls Try.prog 52 #[.agg #[C 0, C 1], .int .i64 p] w (RPost s p w) := by
  rw [sy_sz] at hd
  obtain ⟨ini, ps⟩ := s
  obtain ⟨⟨A, cap, b, off, E, e0, hl, hO⟩, B, cbp, c, pff, F, e1, hm, hP⟩ := sy_lies hL
  have hL' : Lay.sy.lies w w.heap.size ⟨ini, ps⟩ (fun j => (#[.slice A ini.length cap, .slice B ps.length cbp] : Array Value).getD j undef) := ⟨⟨A, cap, b, off, E, rfl, hl, hO⟩, B, cbp, c, pff, F, rfl, hm, hP⟩
  rw [e0, e1]
  clear e0 e1 hL hO
  unfold maxLen at hm
  obtain ⟨vo, hvo⟩ : ∃ vo, vo = syOk ⟨ini, ps⟩ := ⟨_, rfl⟩
  have HVo := Lib.hid hvo
  obtain ⟨W1, hW1⟩ : ∃ W1, W1 = w.alloc (.cells #[.slice A ini.length cap, .slice B ps.length cbp] 95) := ⟨_, rfl⟩
  have hb0 : Below w.heap.size w W1 := by rw [hW1]; exact (Below.refl _ _).alloc (Nat.le_refl _) _
  have HR0 : Hid (Row W1 w.heap.size 95 #[.slice A ini.length cap, .slice B ps.length cbp]) := by rw [hW1]; exact Row.new _ _ _
  have HL1 := Lib.hid (Lay.sy.later hL' hb0 hb0.size)
  have HP := Lib.hid hP
  have HB0 := Lib.hid hb0
  have HW1 := Lib.hid hW1
  have HD : Hid (Lay.sy.sz ⟨ini, ps⟩ ≤ 1048576) := hd
  clear hP hb0 hW1 hL' hd hvo hl
  go_enter Try.func52, Try.ntmps52
  go_wp2_with fail
  rw [← HW1.out]
  refine (specSy_any ⟨ini, ps⟩ (fun j => (#[.slice A ini.length cap, .slice B ps.length cbp] : Array Value).getD j undef) W1 HL1.out HD.out).mono ?_
  rintro e' w1 ⟨rfl, hb1⟩
  rw [← HVo.out]
  have HB1 := Lib.hid (HB0.out.trans (hb1.mono HB0.out.size))
  have HR1 := Lib.hid (HR0.out.under hb1 HR0.out.lt)
  obtain ⟨r0, r1⟩ := HR1.out.two
  have hwl : w.heap.size < w1.heap.size := HR1.out.lt
  clear hb1
  cases vo
  · have HN : Hid (¬ (syOk ⟨ini, ps⟩ = true ∧ 0 ≤ p ∧ p < (⟨ini, ps⟩ : Sy).ps.length)) := fun h => by have := HVo.out; rw [h.1] at this; cases this
    go_wp2_with fail
    go_ret
    exact rpost_no HN.out (HB1.out.alloc HB1.out.size _) _ _
  by_cases h1 : p < 0
  · have HN : Hid (¬ (syOk ⟨ini, ps⟩ = true ∧ 0 ≤ p ∧ p < (⟨ini, ps⟩ : Sy).ps.length)) := fun h => by have := h.2.1; omega
    go_wp2_with fail
    go_ret
    exact rpost_no HN.out (HB1.out.alloc HB1.out.size _) _ _
  by_cases h2 : (ps.length : Int) ≤ p
  · have HN : Hid (¬ (syOk ⟨ini, ps⟩ = true ∧ 0 ≤ p ∧ p < (⟨ini, ps⟩ : Sy).ps.length)) := fun h => by have := h.2.2; dsimp only at this; omega
    go_wp2_with fail
    go_ret
    exact rpost_no HN.out (HB1.out.alloc HB1.out.size _) _ _
  obtain ⟨k, rfl⟩ : ∃ k : Nat, p = k := ⟨p.toNat, by omega⟩
  have hk : k < ps.length := by omega
  obtain ⟨x, hx⟩ : ∃ x, ps[k]? = some x := ⟨_, List.getElem?_eq_getElem hk⟩
  have hok := syOk_pr (s := ⟨ini, ps⟩) HVo.out.symm hx
  obtain ⟨n, hn⟩ : ∃ n : Nat, x.loc = n := ⟨x.loc.toNat, by
    unfold prOk at hok
    simp only [Bool.and_eq_true, decide_eq_true_eq] at hok
    omega⟩
  obtain ⟨hn1, hn4, hl6, hfit⟩ := prOk_fit hok hn
  obtain ⟨hrn, hrm⟩ := rN_yes (s := ⟨ini, ps⟩) HVo.out.symm hx hn
  obtain ⟨rfl, hbB, gc, gl⟩ := HP.out.below HB1.out k x hx
  have g0 : w1.cell? ⟨c, pff + k * 2, none⟩ = some (F k 0) := gc 0 (by decide)
  have g1 : w1.cell? ⟨c, pff + k * 2 + 1, none⟩ = some (F k 1) := gc 1 (by decide)
  obtain ⟨loc, es⟩ := x
  obtain ⟨u0, A2, cap2, b2, off2, D2, u1, _, hO2⟩ := pr_lies gl
  rw [u0] at g0
  rw [u1] at g1
  dsimp only at hn hl6 hfit hrm
  subst hn
  have HRN := Lib.hid hrn
  have HRM := Lib.hid hrm
  have HFit := Lib.hid hfit
  obtain ⟨W2, hW2⟩ : ∃ W2, W2 = w1.alloc (.cells #[.int .i64 (n : Int), .slice A2 es.length cap2] 152) := ⟨_, rfl⟩
  have hb2 : Below w1.heap.size w1 W2 := by rw [hW2]; exact (Below.refl _ _).alloc (Nat.le_refl _) _
  have HRp : Hid (Row W2 w1.heap.size 152 #[.int .i64 (n : Int), .slice A2 es.length cap2]) := by rw [hW2]; exact Row.new _ _ _
  have HB2 := Lib.hid (HB1.out.trans (hb2.mono HB1.out.size))
  have HO2 := Lib.hid (hO2.grow (hb2.mono HB1.out.size) (Nat.le_trans HB1.out.size hb2.size))
  have HW2 := Lib.hid hW2
  clear hx hok hfit hrn hrm gc gl hO2 hb2 hW2 u0 u1 h1 h2
  obtain ⟨cs, hcs, hcb, hmk⟩ := make_bools n (by omega) W2
  have hc0 := hcb 0 (by omega)
  have h0s : 0 < cs.size := by omega
  have HCs := Lib.hid hcs
  have HCb := Lib.hid hcb
  rw [HW2.out] at hmk
  clear hcs hcb
  have HS2 : Hid (W2.heap.size = w1.heap.size + 1) := by rw [HW2.out]; show _ = _; simp
  go_wp2_with fail
  go_loopw [7] (fun i wl => ∃ (j : Nat) (m : Nat → Bool), j ≤ es.length ∧ i = .int .i64 j ∧ Hid (Fnm es n m) ∧ Hid (∀ e ∈ es.take j, m e.fr.toNat = true → m e.to.toNat = true) ∧ Hid (∃ cs' : Array Value, Row wl (w1.heap.size + 1) 4 cs' ∧ ∀ i, i < n → cs'[i]? = some (.bool (m i))) ∧ Hid (Below W2.heap.size W2 wl)) (fun i wl => fls wl (w1.heap.size + 1) n * (es.length + 1) + (es.length - (intOf i).toNat))
  case atStart =>
    rw [← HW2.out]
    refine ⟨0, fun i => decide (i = 0), Nat.zero_le _, rfl, ⟨rfl, fun i hi h => ?_⟩, fun e he => by simp at he, ⟨_, by rw [← HS2.out]; exact Row.new _ _ _, fun i hi => ?_⟩, (Below.refl _ _).alloc (Nat.le_refl _) _⟩
    · have := of_decide_eq_true h
      subst this
      exact .zero
    · rw [Array.getElem?_setIfInBounds]
      by_cases e : 0 = i
      · subst e
        rw [if_pos rfl, if_pos h0s]
        rfl
      · dsimp only
        rw [if_neg e, HCb.out i hi, decide_eq_false (show ¬ i = 0 from fun h => e h.symm)]
  case round =>
    clear hmk hc0 h0s g0 g1 r0 r1
    obtain ⟨j, m, hj, rfl, HFn, HCl, HC, HB⟩ := hrel
    have hrp := HRp.out.under HB.out HRp.out.lt
    obtain ⟨s0, s1⟩ := hrp.two
    have lp := hrp.lt
    clear hrp
    by_cases hlt : j < es.length
    · obtain ⟨x, hx⟩ : ∃ x, es[j]? = some x := ⟨_, List.getElem?_eq_getElem hlt⟩
      obtain ⟨rfl, hbB, gc, gl⟩ := HO2.out.below HB.out j x hx
      have g0 : wr.cell? ⟨b2, off2 + j * 10, none⟩ = some (D2 j 0) := gc 0 (by decide)
      have g1 : wr.cell? ⟨b2, off2 + j * 10 + 1, none⟩ = some (D2 j 1) := gc 1 (by decide)
      have hmem : x ∈ es := List.mem_of_getElem? hx
      have hfx := HFit.out.2 x hmem
      have HTk : Hid (es.take (j + 1) = es.take j ++ [x]) := by
        show _ = _
        rw [List.take_succ_eq_append_getElem hlt, (List.getElem?_eq_some_iff.1 hx).2]
      obtain ⟨fr, to, gd, vr, vl, sy⟩ := x
      obtain ⟨q0, q1, _⟩ := ed_lies gl
      dsimp only at hfx
      obtain ⟨f, rfl⟩ : ∃ f : Nat, fr = f := ⟨fr.toNat, by omega⟩
      obtain ⟨t, rfl⟩ : ∃ t : Nat, to = t := ⟨to.toNat, by omega⟩
      have hfn : f < n := by omega
      have htn : t < n := by omega
      rw [q0] at g0
      rw [q1] at g1
      have HMem := Lib.hid hmem
      obtain ⟨cs', hr', hcm⟩ := HC.out
      have cf : wr.cell? ⟨w1.heap.size + 1, f, none⟩ = some (.bool (m f)) := by rw [hr'.cell]; exact hcm f hfn
      have ct : wr.cell? ⟨w1.heap.size + 1, t, none⟩ = some (.bool (m t)) := by rw [hr'.cell]; exact hcm t htn
      have zt := hr'.frozen t
      have lt' := hr'.lt
      obtain ⟨va, hva⟩ : ∃ va, va = m f := ⟨_, rfl⟩
      obtain ⟨vb, hvb⟩ : ∃ vb, vb = m t := ⟨_, rfl⟩
      rw [← hva] at cf
      rw [← hvb] at ct
      have HVa := Lib.hid hva
      have HVb := Lib.hid hvb
      have HRow := Lib.hid hr'
      have HCm := Lib.hid hcm
      clear gl hx gc hfx hmem q0 q1 hva hvb hr' hcm
      cases va
      · have HCl2 : Hid (∀ e ∈ es.take (j + 1), m e.fr.toNat = true → m e.to.toNat = true) := fun e he hh => by
          rw [HTk.out, List.mem_append] at he
          rcases he with he | he
          · exact HCl.out e he hh
          · rw [List.mem_singleton] at he
            subst he
            rw [show ((f : Int)).toNat = f by omega, ← HVa.out] at hh
            cases hh
        go_wp2_with fail
        go_roundw
        case rel => exact ⟨j + 1, m, by omega, by go_num, HFn, HCl2, HC, HB⟩
        case measure => simp [intOf]; omega
      · cases vb
        · have HFn2 : Hid (Fnm es n (fun i => if i = t then true else m i)) := by
            refine ⟨?_, fun i hi h => ?_⟩
            · by_cases e : 0 = t
              · rw [if_pos e]
              · rw [if_neg e]; exact HFn.out.zero
            · by_cases e : i = t
              · subst e
                exact Rch.step _ HMem.out (HFn.out.sound f hfn HVa.out.symm)
              · rw [if_neg e] at h
                exact HFn.out.sound i hi h
          have hct : cs'[t]? = some (.bool false) := by rw [HCm.out t htn, ← HVb.out]
          have HFl := Lib.hid (fls_less HRow.out htn hct)
          have hts : t < cs'.size := by
            rcases Nat.lt_or_ge t cs'.size with h | h
            · exact h
            · rw [Array.getElem?_eq_none h] at hct; cases hct
          have HC2 : Hid (∃ cs2 : Array Value, Row (wr.setCell ⟨w1.heap.size + 1, t, none⟩ (.bool true)) (w1.heap.size + 1) 4 cs2 ∧ ∀ i, i < n → cs2[i]? = some (.bool (if i = t then true else m i))) := by
            refine ⟨_, HRow.out.set_ t _, fun i hi => ?_⟩
            rw [Array.getElem?_setIfInBounds]
            by_cases e : t = i
            · subst e
              rw [if_pos rfl, if_pos hts, if_pos rfl]
            · rw [if_neg e, HCm.out i hi, if_neg (show ¬ i = t from fun h => e h.symm)]
          have HB2' : Hid (Below W2.heap.size W2 (wr.setCell ⟨w1.heap.size + 1, t, none⟩ (.bool true))) := HB.out.setCell (by rw [HS2.out]; exact Nat.le_refl _) _
          clear hct hts
          go_wp2_with fail
          go_roundw
          case rel => exact ⟨0, fun i => if i = t then true else m i, Nat.zero_le _, by go_num, HFn2, fun e he => by simp at he, HC2, HB2'⟩
          case measure => have := less_meas (L := es.length) (j := j) HFl.out hlt; simpa [intOf] using this
        · have HCl2 : Hid (∀ e ∈ es.take (j + 1), m e.fr.toNat = true → m e.to.toNat = true) := fun e he hh => by
            rw [HTk.out, List.mem_append] at he
            rcases he with he | he
            · exact HCl.out e he hh
            · rw [List.mem_singleton] at he
              subst he
              rw [show ((t : Int)).toNat = t by omega, ← HVb.out]
          go_wp2_with fail
          go_roundw
          case rel => exact ⟨j + 1, m, by omega, by go_num, HFn, HCl2, HC, HB⟩
          case measure => simp [intOf]; omega
    · have hjj : j = es.length := by omega
      subst hjj
      have HFin : Hid (BN (rN ⟨ini, ps⟩ (k : Int)) wr w.heap.size wr.heap.size (.slice (some ⟨w1.heap.size + 1, 0, none⟩) n n) (rM ⟨ini, ps⟩ (k : Int))) := by
        rw [HRN.out, HRM.out]
        obtain ⟨cs', hr', hcm⟩ := HC.out
        have hcl := HCl.out
        rw [List.take_length] at hcl
        have heq := rch_eq HFn.out.zero HFn.out.sound HFit.out.2 hcl
        exact ⟨_, n, w1.heap.size + 1, _, rfl, by omega, fun i hi => ⟨rfl, by have := HB1.out.size; omega, hr'.lt, cs', hr', fun q hq => by rw [hcm q hq, heq q hq]⟩⟩
      have HBf := Lib.hid (HB2.out.trans (HB.out.mono HB2.out.size))
      go_wp2_with fail
      go_ret
      exact ⟨_, rfl, HFin.out, HBf.out⟩

end Go.Proofs.Ytponbjclecdafaa

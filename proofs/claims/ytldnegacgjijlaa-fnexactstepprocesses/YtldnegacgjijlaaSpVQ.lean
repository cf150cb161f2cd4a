/- The walks of laws.toStep, spec.StepProcesses and impl.StepProcesses. -/
import Derived.Test.YtldnegacgjijlaaVpQ
import Derived.Test.YtldnegacgjijlaaVsQ
import Derived.Test.YtldnegacgjijlaaJ01
import Derived.Test.YtldnegacgjijlaaSta
namespace Go.Proofs.Ytldnegacgjijlaa
open Go.RowKit

def sN (s : Sy) : Nat := if syOk s then s.ps.length else 0
def sM (p pa : Int) (i : Nat) : Bool := p == (i : Int) || pa == (i : Int)
def SpPost (s : Sy) (p pa : Int) (w : World) (e' : Ending) (w' : World) : Prop := ∃ S : Value, e' = .returned S ∧ BN (sN s) w' w.heap.size w'.heap.size S (sM p pa) ∧ Below w.heap.size w w'
theorem Row.four {w : World} {g : Nat} {t : TypeId} {a0 a1 a2 a3 : Value} (h : Row w g t #[a0, a1, a2, a3]) : w.cell? ⟨g, 0, none⟩ = some a0 ∧ w.cell? ⟨g, 1, none⟩ = some a1 ∧ w.cell? ⟨g, 2, none⟩ = some a2 ∧ w.cell? ⟨g, 3, none⟩ = some a3 := ⟨h.cell 0, h.cell 1, h.cell 2, h.cell 3⟩

set_option maxHeartbeats 1000000 in
set_option maxRecDepth 100000 in
theorem toStep_any (p ed pa pe : Int) (w : World) :
    Calls Try.prog 18 #[.agg #[.int .i64 p, .int .i64 ed, .int .i64 pa, .int .i64 pe]] w fun e' w' => e' = .returned (.agg #[.int .i64 p, .int .i64 ed, .int .i64 pa, .int .i64 pe]) ∧ Below w.heap.size w w' := by
  go_enter Try.func18, Try.ntmps18
  go_wp2_with fail
  refine bodyPost_ret (v := .agg #[.int .i64 p, .int .i64 ed, .int .i64 pa, .int .i64 pe]) (by simp [results, Try.results18, go_sem]) rfl ?_
  refine ⟨rfl, ?_⟩
  exact (((Below.refl _ _).alloc (Nat.le_refl _) _).alloc (by simp) _).alloc (by simp; omega) _

set_option maxHeartbeats 1000000 in
set_option maxRecDepth 100000 in
theorem specSp_any (e : Sy) (C : Nat → Value) (p ed pa pe : Int) (w : World) (hL : Lay.sy.lies w w.heap.size e C) (hd : Lay.sy.sz e ≤ 1048576) :
    Calls Try.prog 17 #[.agg #[C 0, C 1], .agg #[.int .i64 p, .int .i64 ed, .int .i64 pa, .int .i64 pe]] w (SpPost e p pa w) := by
  obtain ⟨W1, hW1⟩ : ∃ W1, W1 = (w.alloc (.cells #[C 0, C 1] 32)).alloc (.cells #[.int .i64 p, .int .i64 ed, .int .i64 pa, .int .i64 pe] 42) := ⟨_, rfl⟩
  have hrows := rows2 w 32 42 #[C 0, C 1] #[.int .i64 p, .int .i64 ed, .int .i64 pa, .int .i64 pe]
  rw [← hW1] at hrows
  obtain ⟨hra, hrb, hb0⟩ := hrows
  have HL : Hid (Lay.sy.lies W1 W1.heap.size e C) := Lay.sy.later hL hb0 hb0.size
  have HW1 := Lib.hid hW1
  have HB0 := Lib.hid hb0
  have HRa := Lib.hid hra
  have HRb := Lib.hid hrb
  have HD := Lib.hid hd
  obtain ⟨vs, hvs⟩ : ∃ vs, vs = syOk e := ⟨_, rfl⟩
  have HVs := Lib.hid hvs
  clear hL hW1 hb0 hra hrb hvs
  go_enter Try.func17, Try.ntmps17
  go_wp2_with fail
  rw [← HW1.out]
  refine (specSy_any e C W1 HL.out HD.out).mono ?_
  rintro e' w1 ⟨rfl, hb1⟩
  rw [← HVs.out]
  have HB1 : Hid (Below w.heap.size w w1) := HB0.out.trans (hb1.mono HB0.out.size)
  have hL1 := Lay.sy.later HL.out hb1 hb1.size
  obtain ⟨g0, g1⟩ := (HRa.out.under hb1 HRa.out.lt).two
  have HRb1 := Lib.hid (HRb.out.under hb1 HRb.out.lt)
  have hlw : w.heap.size + 1 < w1.heap.size := HRb1.out.lt
  obtain ⟨ini, ps⟩ := e
  obtain ⟨_, A1, cap1, b1, off1, E1, q1, hl1, hO1⟩ := sy_lies hL1
  rw [q1] at g1
  rw [sy_sz] at hd
  have hn : ps.length ≤ 1048576 := by have := Lay.pr.szL_length ps; dsimp only at hd; omega
  clear hb1 hL1 HL HRa HRb q1 hO1 HW1 g0 hd hl1
  cases vs
  · have HN : Hid (sN ⟨ini, ps⟩ = 0) := by show _ = _; unfold sN; rw [← HVs.out]; rfl
    have HB2 : Hid (∀ W : World, (W = w1 ∨ ∃ o, W = w1.alloc o) → Below w.heap.size w W) := fun W h => by
      rcases h with rfl | ⟨o, rfl⟩
      · exact HB1.out
      · exact HB1.out.alloc HB1.out.size _
    go_wp2_with fail
    go_ret
    exact ⟨_, rfl, by rw [HN.out]; exact BN.empty _ _ _ _ _ _, HB2.out _ (by first | exact .inl rfl | exact .inr ⟨_, rfl⟩)⟩
  have HN : Hid (sN ⟨ini, ps⟩ = ps.length) := by show _ = _; unfold sN; rw [← HVs.out]; rfl
  obtain ⟨cs, hcs, hcb, hmk⟩ := make_bools ps.length hn w1
  have HCs := Lib.hid hcs
  clear hcs hcb
  go_wp2_with fail
  go_loopw [6] (fun i wl => ∃ q : Nat, q ≤ ps.length ∧ i = .int .i64 q ∧ Hid (∃ cs' : Array Value, Row wl w1.heap.size 4 cs' ∧ cs'.size = ps.length ∧ ∀ i, i < q → cs'[i]? = some (.bool (sM p pa i))) ∧ Hid (Row wl (w.heap.size + 1) 42 #[.int .i64 p, .int .i64 ed, .int .i64 pa, .int .i64 pe]) ∧ Hid (Below w.heap.size w wl)) (fun i _ => ps.length - (intOf i).toNat)
  case atStart => exact ⟨0, Nat.zero_le _, rfl, ⟨cs, Row.new _ _ _, HCs.out, fun i hi => by omega⟩, HRb1.out.under ((Below.refl _ _).alloc (Nat.le_refl _) _) HRb1.out.lt, HB1.out.alloc HB1.out.size _⟩
  case round =>
    clear hmk g1
    obtain ⟨q, hq, rfl, HC, HRw, HB⟩ := hrel
    obtain ⟨c0, c1, c2, c3⟩ := HRw.out.four
    by_cases hqn : q < ps.length
    · obtain ⟨cs', hr', hsz, hpre⟩ := HC.out
      obtain ⟨u, hu⟩ : ∃ u, cs'[q]? = some u := ⟨_, Array.getElem?_eq_getElem (by omega)⟩
      have cq : wr.cell? ⟨w1.heap.size, q, none⟩ = some u := by rw [hr'.cell]; exact hu
      have zq := hr'.frozen q
      have lq := hr'.lt
      have HST : Hid (∃ cs2 : Array Value, Row (wr.setCell ⟨w1.heap.size, q, none⟩ (.bool (sM p pa q))) w1.heap.size 4 cs2 ∧ cs2.size = ps.length ∧ ∀ i, i < q + 1 → cs2[i]? = some (.bool (sM p pa i))) := by
        refine ⟨_, hr'.set_ q _, by simp [hsz], fun i hi => ?_⟩
        rw [Array.getElem?_setIfInBounds]
        by_cases e : q = i
        · subst e
          rw [if_pos rfl, if_pos (by omega)]
        · rw [if_neg e]
          exact hpre i (by omega)
      have HB' : Hid (Below w.heap.size w (wr.setCell ⟨w1.heap.size, q, none⟩ (.bool (sM p pa q)))) := HB.out.setCell HB1.out.size _
      have HRw' : Hid (Row (wr.setCell ⟨w1.heap.size, q, none⟩ (.bool (sM p pa q))) (w.heap.size + 1) 42 #[.int .i64 p, .int .i64 ed, .int .i64 pa, .int .i64 pe]) := (Below.heap_setCell _ _ _ _ (by simp; omega)).trans HRw.out
      clear hr' hpre hu
      by_cases hp : p = (q : Int)
      · rw [show sM p pa q = true by unfold sM; rw [hp, beq_self_eq_true, Bool.true_or]] at HST HB' HRw'
        subst hp
        go_wp2_with fail
        go_roundw
        case rel => exact ⟨q + 1, by omega, by go_num, HST, HRw', HB'⟩
        case measure => simp [intOf]; omega
      by_cases ha : pa = (q : Int)
      · rw [show sM p pa q = true by unfold sM; rw [ha, beq_self_eq_true, Bool.or_true]] at HST HB' HRw'
        subst ha
        have hp' : ¬ (q : Int) = p := fun h => hp h.symm
        go_wp2_with fail
        go_roundw
        case rel => exact ⟨q + 1, by omega, by go_num, HST, HRw', HB'⟩
        case measure => simp [intOf]; omega
      have hp' : ¬ (q : Int) = p := fun h => hp h.symm
      have ha' : ¬ (q : Int) = pa := fun h => ha h.symm
      have HV : Hid (sM p pa q = (p == (q : Int) || pa == (q : Int))) := rfl
      rw [HV.out] at HST HB' HRw'
      go_wp2_with fail
      go_roundw
      case rel => exact ⟨q + 1, by omega, by go_num, HST, HRw', HB'⟩
      case measure => simp [intOf]; omega
    · have hqq : q = ps.length := by omega
      subst hqq
      have HFin : Hid (BN (sN ⟨ini, ps⟩) wr w.heap.size wr.heap.size (.slice (some ⟨w1.heap.size, 0, none⟩) ps.length ps.length) (sM p pa)) := by
        rw [HN.out]
        obtain ⟨cs', hr', hsz, hpre⟩ := HC.out
        exact ⟨_, ps.length, w1.heap.size, _, rfl, hn, fun i hi => ⟨rfl, HB1.out.size, hr'.lt, cs', hr', hpre⟩⟩
      go_wp2_with fail
      go_ret
      exact ⟨_, rfl, HFin.out, HB.out⟩

set_option maxHeartbeats 1000000 in
set_option maxRecDepth 100000 in
theorem implSp_any (e : Sy) (C : Nat → Value) (p ed pa pe : Int) (w : World) (hL : Lay.sy.lies w w.heap.size e C) (hd : Lay.sy.sz e ≤ 1048576) :
    Calls Try.prog 19 #[.agg #[C 0, C 1], .agg #[.int .i64 p, .int .i64 ed, .int .i64 pa, .int .i64 pe]] w (SpPost e p pa w) := by
  obtain ⟨W1, hW1⟩ : ∃ W1, W1 = (w.alloc (.cells #[C 0, C 1] 32)).alloc (.cells #[.int .i64 p, .int .i64 ed, .int .i64 pa, .int .i64 pe] 42) := ⟨_, rfl⟩
  have hrows := rows2 w 32 42 #[C 0, C 1] #[.int .i64 p, .int .i64 ed, .int .i64 pa, .int .i64 pe]
  rw [← hW1] at hrows
  obtain ⟨hra, hrb, hb0⟩ := hrows
  have HL : Hid (Lay.sy.lies W1 W1.heap.size e C) := Lay.sy.later hL hb0 hb0.size
  have HW1 := Lib.hid hW1
  have HB0 := Lib.hid hb0
  have HRa := Lib.hid hra
  have HRb := Lib.hid hrb
  have HD := Lib.hid hd
  obtain ⟨vs, hvs⟩ : ∃ vs, vs = syOk e := ⟨_, rfl⟩
  have HVs := Lib.hid hvs
  clear hL hW1 hb0 hra hrb hvs
  go_enter Try.func19, Try.ntmps19
  go_wp2_with fail
  rw [← HW1.out]
  refine (implSy_any e C W1 HL.out HD.out).mono ?_
  rintro e' w1 ⟨rfl, hb1⟩
  rw [← HVs.out]
  have HB1 : Hid (Below w.heap.size w w1) := HB0.out.trans (hb1.mono HB0.out.size)
  have hL1 := Lay.sy.later HL.out hb1 hb1.size
  obtain ⟨g0, g1⟩ := (HRa.out.under hb1 HRa.out.lt).two
  have HRb1 := Lib.hid (HRb.out.under hb1 HRb.out.lt)
  have hlw : w.heap.size + 1 < w1.heap.size := HRb1.out.lt
  obtain ⟨ini, ps⟩ := e
  obtain ⟨_, A1, cap1, b1, off1, E1, q1, hl1, hO1⟩ := sy_lies hL1
  rw [q1] at g1
  rw [sy_sz] at hd
  have hn : ps.length ≤ 1048576 := by have := Lay.pr.szL_length ps; dsimp only at hd; omega
  clear hb1 hL1 HL HRa HRb q1 hO1 HW1 g0 hd hl1
  cases vs
  · have HN : Hid (sN ⟨ini, ps⟩ = 0) := by show _ = _; unfold sN; rw [← HVs.out]; rfl
    have HB2 : Hid (∀ W : World, (W = w1 ∨ ∃ o, W = w1.alloc o) → Below w.heap.size w W) := fun W h => by
      rcases h with rfl | ⟨o, rfl⟩
      · exact HB1.out
      · exact HB1.out.alloc HB1.out.size _
    go_wp2_with fail
    go_ret
    exact ⟨_, rfl, by rw [HN.out]; exact BN.empty _ _ _ _ _ _, HB2.out _ (by first | exact .inl rfl | exact .inr ⟨_, rfl⟩)⟩
  have HN : Hid (sN ⟨ini, ps⟩ = ps.length) := by show _ = _; unfold sN; rw [← HVs.out]; rfl
  obtain ⟨cs, hcs, hcb, hmk⟩ := make_bools ps.length hn w1
  have HCs := Lib.hid hcs
  clear hcs hcb
  go_wp2_with fail
  go_loopw [16] (fun i wl => ∃ q : Nat, q ≤ ps.length ∧ i = .int .i64 q ∧ Hid (∃ cs' : Array Value, Row wl w1.heap.size 4 cs' ∧ cs'.size = ps.length ∧ ∀ i, i < q → cs'[i]? = some (.bool (sM p pa i))) ∧ Hid (Row wl (w.heap.size + 1) 42 #[.int .i64 p, .int .i64 ed, .int .i64 pa, .int .i64 pe]) ∧ Hid (Below w.heap.size w wl)) (fun i _ => ps.length - (intOf i).toNat)
  case atStart => exact ⟨0, Nat.zero_le _, rfl, ⟨cs, Row.new _ _ _, HCs.out, fun i hi => by omega⟩, HRb1.out.under ((Below.refl _ _).alloc (Nat.le_refl _) _) HRb1.out.lt, HB1.out.alloc HB1.out.size _⟩
  case round =>
    clear hmk g1
    obtain ⟨q, hq, rfl, HC, HRw, HB⟩ := hrel
    obtain ⟨c0, c1, c2, c3⟩ := HRw.out.four
    by_cases hqn : q < ps.length
    · obtain ⟨cs', hr', hsz, hpre⟩ := HC.out
      obtain ⟨u, hu⟩ : ∃ u, cs'[q]? = some u := ⟨_, Array.getElem?_eq_getElem (by omega)⟩
      have cq : wr.cell? ⟨w1.heap.size, q, none⟩ = some u := by rw [hr'.cell]; exact hu
      have zq := hr'.frozen q
      have lq := hr'.lt
      have HST : Hid (∃ cs2 : Array Value, Row (wr.setCell ⟨w1.heap.size, q, none⟩ (.bool (sM p pa q))) w1.heap.size 4 cs2 ∧ cs2.size = ps.length ∧ ∀ i, i < q + 1 → cs2[i]? = some (.bool (sM p pa i))) := by
        refine ⟨_, hr'.set_ q _, by simp [hsz], fun i hi => ?_⟩
        rw [Array.getElem?_setIfInBounds]
        by_cases e : q = i
        · subst e
          rw [if_pos rfl, if_pos (by omega)]
        · rw [if_neg e]
          exact hpre i (by omega)
      have HB' : Hid (Below w.heap.size w (wr.setCell ⟨w1.heap.size, q, none⟩ (.bool (sM p pa q)))) := HB.out.setCell HB1.out.size _
      have HRw' : Hid (Row (wr.setCell ⟨w1.heap.size, q, none⟩ (.bool (sM p pa q))) (w.heap.size + 1) 42 #[.int .i64 p, .int .i64 ed, .int .i64 pa, .int .i64 pe]) := (Below.heap_setCell _ _ _ _ (by simp; omega)).trans HRw.out
      clear hr' hpre hu
      by_cases hp : p = (q : Int)
      · rw [show sM p pa q = true by unfold sM; rw [hp, beq_self_eq_true, Bool.true_or]] at HST HB' HRw'
        subst hp
        go_wp2_with fail
        go_roundw
        case rel => exact ⟨q + 1, by omega, by go_num, HST, HRw', HB'⟩
        case measure => simp [intOf]; omega
      by_cases ha : pa = (q : Int)
      · rw [show sM p pa q = true by unfold sM; rw [ha, beq_self_eq_true, Bool.or_true]] at HST HB' HRw'
        subst ha
        have hp' : ¬ (q : Int) = p := fun h => hp h.symm
        go_wp2_with fail
        go_roundw
        case rel => exact ⟨q + 1, by omega, by go_num, HST, HRw', HB'⟩
        case measure => simp [intOf]; omega
      have hp' : ¬ (q : Int) = p := fun h => hp h.symm
      have ha' : ¬ (q : Int) = pa := fun h => ha h.symm
      have HV : Hid (sM p pa q = ((q : Int) == p || (q : Int) == pa)) := by show _ = _; unfold sM; rw [Bool.eq_iff_iff]; simp only [Bool.or_eq_true, beq_iff_eq]; try omega
      rw [HV.out] at HST HB' HRw'
      go_wp2_with fail
      go_roundw
      case rel => exact ⟨q + 1, by omega, by go_num, HST, HRw', HB'⟩
      case measure => simp [intOf]; omega
    · have hqq : q = ps.length := by omega
      subst hqq
      have HFin : Hid (BN (sN ⟨ini, ps⟩) wr w.heap.size wr.heap.size (.slice (some ⟨w1.heap.size, 0, none⟩) ps.length ps.length) (sM p pa)) := by
        rw [HN.out]
        obtain ⟨cs', hr', hsz, hpre⟩ := HC.out
        exact ⟨_, ps.length, w1.heap.size, _, rfl, hn, fun i hi => ⟨rfl, HB1.out.size, hr'.lt, cs', hr', hpre⟩⟩
      go_wp2_with fail
      go_ret
      exact ⟨_, rfl, HFin.out, HB.out⟩

end Go.Proofs.Ytldnegacgjijlaa

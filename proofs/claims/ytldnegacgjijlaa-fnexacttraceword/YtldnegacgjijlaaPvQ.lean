/- The walks of spec.PathValid and impl.PathValid. -/
import Derived.Test.YtldnegacgjijlaaGvWQ
import Derived.Test.YtldnegacgjijlaaGvSQ
namespace Go.Proofs.Ytldnegacgjijlaa
open Go.RowKit

/-- There is an edge. -/
def edgeB (g : Gp) (y z : Int) : Bool := match g.nxt[y.toNat]? with
  | some x => inB x z
  | none => false
def stepOk (g : Gp) (p : List Int) (i : Nat) : Bool := match p[i]? with
  | some z => inOk g.sts.length z && (decide (i = 0) || match p[i - 1]? with
    | some y => edgeB g y z
    | none => false)
  | none => true
/-- The path is valid. -/
def pathOk (g : Gp) (p : List Int) : Bool := grOk g && (decide (0 < p.length) && (List.range p.length).all (stepOk g p))

theorem path_true {g : Gp} {p : List Int} (h : ∀ k, k < p.length → stepOk g p k = true) : (List.range p.length).all (stepOk g p) = true := List.all_eq_true.2 fun k hk => h k (List.mem_range.1 hk)
theorem path_false {g : Gp} {p : List Int} {k : Nat} {z : Int} (h : p[k]? = some z) (hf : stepOk g p k = false) : (List.range p.length).all (stepOk g p) = false :=
  List.all_eq_false.2 ⟨k, List.mem_range.2 (List.getElem?_eq_some_iff.1 h).1, by simp [hf]⟩
theorem step_some {g : Gp} {p : List Int} {i : Nat} {z : Int} (h : p[i]? = some z) : stepOk g p i = (inOk g.sts.length z && (decide (i = 0) || match p[i - 1]? with
    | some y => edgeB g y z
    | none => false)) := by unfold stepOk; rw [h]
theorem step_out {g : Gp} {p : List Int} {i : Nat} {z : Int} (h : p[i]? = some z) (hf : inOk g.sts.length z = false) : stepOk g p i = false := by rw [step_some h, hf]; rfl
theorem step_first {g : Gp} {p : List Int} {z : Int} (h : p[0]? = some z) : stepOk g p 0 = inOk g.sts.length z := by rw [step_some h]; exact Bool.and_true _
theorem step_next {g : Gp} {p : List Int} {i : Nat} {y z : Int} {x : List Int} (h : p[i]? = some z) (hi : 0 < i) (hy : p[i - 1]? = some y) (hx : g.nxt[y.toNat]? = some x) (hz : inOk g.sts.length z = true) : stepOk g p i = inB x z := by
  rw [step_some h, hz, hy, decide_eq_false (by omega)]
  show edgeB g y z = _
  unfold edgeB
  rw [hx]
theorem inOk_nat {n : Nat} {z : Int} (h : inOk n z = true) : ∃ m : Nat, z = m ∧ m < n := by
  unfold inOk at h
  simp only [Bool.and_eq_true, decide_eq_true_eq] at h
  exact ⟨z.toNat, by omega, by omega⟩
theorem step_in {g : Gp} {p : List Int} {i : Nat} {z : Int} (h : p[i]? = some z) (ht : stepOk g p i = true) : inOk g.sts.length z = true := by
  rw [step_some h] at ht
  simp only [Bool.and_eq_true] at ht
  exact ht.1

theorem grOk_len {g : Gp} (h : grOk g = true) : g.nxt.length = g.sts.length := by
  unfold grOk at h
  simp only [Bool.and_eq_true, decide_eq_true_eq] at h
  exact h.2.2.1

set_option maxHeartbeats 2000000 in
set_option maxRecDepth 100000 in
theorem specPv_any (e : Gp) (C : Nat → Value) (p : List Int) (P : Option Addr) (capP bp op : Nat) (w : World) (hL : Lay.gra.lies w w.heap.size e C) (hl : p.length ≤ maxLen) (hI : Ints w w.heap.size P bp op p) :
    Calls Try.prog 126 #[.agg #[C 0, C 1], .slice P p.length capP] w fun e' w' => e' = .returned (.bool (pathOk e p)) ∧ Below w.heap.size w w' := by
  obtain ⟨W1, hW1⟩ : ∃ W1, W1 = w.alloc (.cells #[C 0, C 1] 69) := ⟨_, rfl⟩
  have hra : Row W1 w.heap.size 69 #[C 0, C 1] := by rw [hW1]; exact Row.new _ _ _
  have hb0 : Below w.heap.size w W1 := by rw [hW1]; exact (Below.refl _ _).alloc (Nat.le_refl _) _
  have HL := Lib.hid (Lay.gra.later hL hb0 hb0.size)
  have HI0 := Lib.hid (hI.under hb0 hb0.size)
  have HW1 := Lib.hid hW1
  have HB0 := Lib.hid hb0
  have HRa := Lib.hid hra
  have HF : Hid (pathOk e p = (grOk e && (decide (0 < p.length) && (List.range p.length).all (stepOk e p)))) := rfl
  obtain ⟨v, hv⟩ : ∃ v, v = grOk e := ⟨_, rfl⟩
  have HV := Lib.hid hv
  unfold maxLen at hl
  clear hL hI hW1 hra hb0 hv
  go_enter Try.func126, Try.ntmps126
  go_wp2_with fail
  rw [← HW1.out]
  refine (specGrV_any e C W1 HL.out).mono ?_
  rintro e' w1 ⟨rfl, hb1⟩
  rw [← HV.out]
  have HB1 : Hid (Below w.heap.size w w1) := HB0.out.trans (hb1.mono HB0.out.size)
  cases v
  · clear hb1
    go_wp2_with fail
    go_ret
    exact ⟨ret_bool (by rw [HF.out, ← HV.out]; rfl), HB1.out⟩
  by_cases hp0 : p.length < 1
  · have hp1 : (p.length : Int) < 1 := by omega
    clear hb1
    go_wp2_with fail
    go_ret
    exact ⟨ret_bool (by rw [HF.out, decide_eq_false (show ¬ 0 < p.length by omega), Bool.false_and, Bool.and_false]), HB1.out⟩
  have HF2 : Hid (pathOk e p = (List.range p.length).all (stepOk e p)) := by show _ = _; rw [HF.out, ← HV.out, decide_eq_true (show 0 < p.length by omega)]; rfl
  have HLn := Lib.hid (grOk_len HV.out.symm)
  have hL1 := Lay.gra.later HL.out hb1 hb1.size
  have HI := Lib.hid (HI0.out.under hb1 hb1.size)
  have hr1 := HRa.out.under hb1 HRa.out.lt
  obtain ⟨sts, nxt⟩ := e
  obtain ⟨⟨A2, cap2, b2, off2, E2, q2, hl2, hO2⟩, A3, cap3, b3, off3, E3, q3, hl3, hO3⟩ := gra_lies hL1
  rw [q2, q3] at hr1
  obtain ⟨g0, g1⟩ := hr1.two
  have H3 := Lib.hid hO3
  unfold maxLen at hl2 hl3
  clear hb1 hL1 hr1 HL HRa HW1 HI0 HF q2 q3 hO2 hO3
  go_wp2_with fail
  go_loopw [5] (fun i wl => ∃ j n : Nat, j ≤ p.length ∧ i = .int .i64 j ∧ Hid (∀ i, i < j → stepOk ⟨sts, nxt⟩ p i = true) ∧ wl = w1.drewN n) (fun i _ => p.length - (intOf i).toNat)
  case atStart => exact ⟨0, 0, Nat.zero_le _, rfl, fun i h => absurd h (Nat.not_lt_zero i), rfl⟩
  case round =>
    obtain ⟨j, m, hj, rfl, HS, rfl⟩ := hrel
    by_cases hlt : j < p.length
    · obtain ⟨z, hz⟩ : ∃ z, p[j]? = some z := ⟨_, List.getElem?_eq_getElem hlt⟩
      obtain ⟨rfl, hb, c0⟩ := HI.out j z hz
      have HZ := Lib.hid hz
      clear hz
      by_cases hz0 : z < 0
      · have HF3 := Lib.hid (path_false HZ.out (step_out (g := ⟨sts, nxt⟩) HZ.out (by unfold inOk; rw [decide_eq_false (show ¬ 0 ≤ z by omega)]; rfl)))
        go_wp2_with fail
        go_quiet (fail)
        go_wp2_with fail
        go_ret
        exact ⟨ret_bool (by rw [HF2.out, HF3.out]), below_drewN (below_drewN HB1.out _) _⟩
      have hzI : decide (z < 0) = false := decide_eq_false hz0
      by_cases hz1 : (sts.length : Int) ≤ z
      · have HF3 := Lib.hid (path_false HZ.out (step_out (g := ⟨sts, nxt⟩) HZ.out (by unfold inOk; rw [decide_eq_false (show ¬ z < sts.length by omega), Bool.and_false])))
        go_wp2_with fail
        go_quiet (fail)
        go_wp2_with fail
        go_ret
        exact ⟨ret_bool (by rw [HF2.out, HF3.out]), below_drewN (below_drewN HB1.out _) _⟩
      have hzJ : decide ((sts.length : Int) ≤ z) = false := decide_eq_false hz1
      have HIn : Hid (inOk sts.length z = true) := by show _ = _; unfold inOk; rw [decide_eq_true (show 0 ≤ z by omega), decide_eq_true (show z < sts.length by omega)]; rfl
      by_cases hj0 : j = 0
      · subst hj0
        have HS2 : Hid (∀ i, i < 0 + 1 → stepOk ⟨sts, nxt⟩ p i = true) := fun i hi => by
          obtain rfl : i = 0 := by omega
          exact (step_first HZ.out).trans HIn.out
        have c0' : w1.cell? ⟨bp, op, none⟩ = some (.int .i64 z) := c0
        clear c0
        go_wp2_with fail
        go_quiet (fail)
        go_wp2_with fail
        go_roundw
        case rel => exact ⟨0 + 1, _, by omega, by go_num, HS2, rfl⟩
        case measure => simp [intOf]; omega
      have hjN : 0 < j := by omega
      have hjI : (0 : Int) < (j : Int) := by omega
      have hjB : decide (0 < j) = true := decide_eq_true hjN
      obtain ⟨y0, hy0⟩ : ∃ y0, p[j - 1]? = some y0 := ⟨_, List.getElem?_eq_getElem (by omega)⟩
      obtain ⟨y, rfl, hy⟩ := inOk_nat (step_in hy0 (HS.out (j - 1) (by omega)))
      obtain ⟨_, _, c1⟩ := HI.out (j - 1) _ hy0
      have hy' : y < nxt.length := by have := HLn.out; dsimp only at this hy; omega
      dsimp only at hy
      obtain ⟨x, hx⟩ : ∃ x, nxt[y]? = some x := ⟨_, List.getElem?_eq_getElem hy'⟩
      obtain ⟨rfl, hb3, fc, fl⟩ := H3.out y x hx
      obtain ⟨A6, cap6, b6, off6, k2, hl6, hI6⟩ := ints_lies fl
      have d0 : w1.cell? ⟨b3, off3 + y, none⟩ = some (E3 y 0) := by have h := fc 0 (by decide); rw [show Lay.ints.st = 1 from rfl, Nat.mul_one] at h; exact h
      rw [k2] at d0
      obtain ⟨u, hu⟩ : ∃ u, u = inB x z := ⟨_, rfl⟩
      have HK : Hid (∀ q, Calls Try.prog 116 #[.slice A6 x.length cap6, .int .i64 z] (w1.drewN q) fun e' w' => e' = .returned (.bool u) ∧ w1.drewN q = w') := fun q => by
        rw [hu]; exact l4In_any x z _ x.length cap6 b6 off6 _ rfl hl6 (hI6.under (below_drewN (Below.refl _ _) q) (Nat.le_refl _))
      have HU : Hid (stepOk ⟨sts, nxt⟩ p j = u) := by show _ = _; rw [hu]; exact step_next HZ.out (by omega) hy0 hx HIn.out
      unfold maxLen at hl6
      clear fc fl k2 hI6 hu hy0 hx
      cases u
      · have HF3 := Lib.hid (path_false HZ.out HU.out)
        go_wp2_with fail
        go_quiet ((go_at_call 116; exact quiet_sum (HK.out _)))
        go_wp2_with fail
        go_ret
        exact ⟨ret_bool (by rw [HF2.out, HF3.out]), below_drewN (below_drewN HB1.out _) _⟩
      · have HS2 : Hid (∀ i, i < j + 1 → stepOk ⟨sts, nxt⟩ p i = true) := fun i hi => by
          by_cases e : i = j
          · subst e; exact HU.out
          · exact HS.out i (by omega)
        go_wp2_with fail
        go_quiet ((go_at_call 116; exact quiet_sum (HK.out _)))
        go_wp2_with fail
        go_roundw
        case rel => exact ⟨j + 1, _, by omega, by go_num, HS2, rfl⟩
        case measure => simp [intOf]; omega
    · have hjj : j = p.length := by omega
      subst hjj
      have HFu := Lib.hid (path_true HS.out)
      go_wp2_with fail
      go_ret
      exact ⟨ret_bool (by rw [HF2.out, HFu.out]), below_drewN HB1.out _⟩

end Go.Proofs.Ytldnegacgjijlaa

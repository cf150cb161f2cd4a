/- The walk of spec.ShortestPath. -/
import Derived.Test.YtkeokgeaekjgeaaBp
import Derived.Test.YtkeokgeaekjgeaaGvS
import Derived.Test.YtkeokgeaekjgeaaRes
namespace Go.Proofs.Ytkeokgeaekjgeaa
open Go.RowKit

/-- The shortest path that both functions give. -/
def spath (g : Gp) (a z : Int) : List Int := if (grOk g && (inOk g.sts.length a && (inOk g.sts.length z && inB (found g.nxt a).q z))) = true then way (found g.nxt a) a g.nxt.length z else []
theorem IntsPost.sp {l : List Int} {w : World} {e' : Ending} {w' : World} (h : IntsPost l w e' w') : SpPost l w e' w' := by
  obtain ⟨g, cap, rfl, h1, h2, h3⟩ := h
  exact ⟨_, rfl, ⟨_, cap, rfl, .inr ⟨g, rfl, h1, h2⟩⟩, h3⟩
theorem spath_none {g : Gp} {a z : Int} (h : (grOk g && (inOk g.sts.length a && (inOk g.sts.length z && inB (found g.nxt a).q z))) = false) : spath g a z = [] := by
  unfold spath; rw [if_neg (by rw [h]; exact Bool.false_ne_true)]
theorem spath_bad {g : Gp} {a z : Int} (h : grOk g = false) : spath g a z = [] := spath_none (by rw [h]; rfl)
theorem spath_from {g : Gp} {a z : Int} (h : inOk g.sts.length a = false) : spath g a z = [] := spath_none (by rw [h, Bool.false_and, Bool.and_false])
theorem spath_to {g : Gp} {a z : Int} (h : inOk g.sts.length z = false) : spath g a z = [] := spath_none (by rw [h, Bool.false_and, Bool.and_false, Bool.and_false])
theorem spath_out {g : Gp} {a z : Int} (h : inB (found g.nxt a).q z = false) : spath g a z = [] := spath_none (by rw [h, Bool.and_false, Bool.and_false, Bool.and_false])
theorem spath_way {g : Gp} {a z : Int} (h0 : grOk g = true) (h1 : inOk g.sts.length a = true) (h2 : inOk g.sts.length z = true) {k : Nat} (hk : (found g.nxt a).q[k]? = some z) : spath g a z = way (found g.nxt a) a k z := by
  have h3 := inB_true (List.mem_of_getElem? hk)
  unfold spath
  rw [if_pos (by rw [h0, h1, h2, h3]; rfl)]
  obtain ⟨hr, hl, h60⟩ := ranged_of h0
  obtain ⟨m, rfl, hm⟩ : ∃ m : Nat, a = m ∧ m < g.nxt.length := by
    unfold inOk at h1
    simp only [Bool.and_eq_true, decide_eq_true_eq] at h1
    exact ⟨a.toNat, by omega, by omega⟩
  have hok := srch_ok hr hm g.nxt.length
  have hkl := (List.getElem?_eq_some_iff.1 hk).1
  have hsh : (found g.nxt m).q.length ≤ g.nxt.length := hok.short
  exact way_any hok k _ z hk (by omega)
theorem spath_len (g : Gp) (a z : Int) : (spath g a z).length ≤ 1048576 := by
  unfold spath
  split
  · rename_i h
    simp only [Bool.and_eq_true] at h
    have h1 := (ranged_of h.1).2
    have h2 := way_len (s := found g.nxt a) (a := a) g.nxt.length z
    omega
  · exact Nat.zero_le _
theorem inOk_neg {n : Nat} {z : Int} (h : z < 0) : inOk n z = false := by unfold inOk; rw [decide_eq_false (show ¬ 0 ≤ z by omega)]; rfl
theorem inOk_big {n : Nat} {z : Int} (h : (n : Int) ≤ z) : inOk n z = false := by unfold inOk; rw [decide_eq_false (show ¬ z < n by omega), Bool.and_false]
theorem inOk_ok {n : Nat} {z : Int} (h0 : ¬ z < 0) (h1 : ¬ (n : Int) ≤ z) : inOk n z = true := by unfold inOk; rw [decide_eq_true (show 0 ≤ z by omega), decide_eq_true (show z < n by omega)]; rfl

set_option maxHeartbeats 2000000 in
set_option maxRecDepth 100000 in
theorem specSp_any (e : Gp) (C : Nat → Value) (a z : Int) (w : World) (hL : Lay.gra.lies w w.heap.size e C) :
    Calls Try.prog 6 #[.agg #[C 0, C 1], .int .i64 a, .int .i64 z] w (SpPost (spath e a z) w) := by
  obtain ⟨W1, hW1⟩ : ∃ W1, W1 = w.alloc (.cells #[C 0, C 1] 31) := ⟨_, rfl⟩
  have hra : Row W1 w.heap.size 31 #[C 0, C 1] := by rw [hW1]; exact Row.new _ _ _
  have hb0 : Below w.heap.size w W1 := by rw [hW1]; exact (Below.refl _ _).alloc (Nat.le_refl _) _
  have HL := Lib.hid (Lay.gra.later hL hb0 hb0.size)
  have HW1 := Lib.hid hW1
  have HB0 := Lib.hid hb0
  have HRa := Lib.hid hra
  obtain ⟨v, hv⟩ : ∃ v, v = grOk e := ⟨_, rfl⟩
  have HV := Lib.hid hv
  clear hL hW1 hra hb0 hv
  go_enter Try.func6, Try.ntmps6
  go_wp2_with fail
  rw [← HW1.out]
  refine (specGrV_any e C W1 HL.out).mono ?_
  rintro e' w1 ⟨rfl, hb1⟩
  rw [← HV.out]
  have HB1 : Hid (Below w.heap.size w w1) := HB0.out.trans (hb1.mono HB0.out.size)
  have HBn : Hid (Below w.heap.size w (w1.alloc (.cells #[] 3))) := HB1.out.alloc HB1.out.size _
  have hL1 := Lay.gra.later HL.out hb1 hb1.size
  have hr1 := HRa.out.under hb1 HRa.out.lt
  obtain ⟨sts, nxt⟩ := e
  obtain ⟨⟨A2, cap2, b2, off2, E2, q2, hl2, hO2⟩, A3, cap3, b3, off3, E3, q3, hl3, hO3⟩ := gra_lies hL1
  rw [q2, q3] at hr1
  obtain ⟨g0, g1⟩ := hr1.two
  have H3 := Lib.hid hO3
  unfold maxLen at hl2 hl3
  clear hb1 hL1 hr1 HL HRa HW1 q2 q3 hO2 hO3
  cases v
  · have HE := Lib.hid (spath_bad (a := a) (z := z) HV.out.symm)
    go_wp2_with fail
    go_ret
    rw [HE.out]
    exact ⟨_, rfl, SliceI.none _ _ _ _, HBn.out⟩
  by_cases ha0 : a < 0
  · have HE := Lib.hid (spath_from (g := ⟨sts, nxt⟩) (z := z) (inOk_neg (n := sts.length) ha0))
    go_wp2_with fail
    go_ret
    rw [HE.out]
    exact ⟨_, rfl, SliceI.none _ _ _ _, HBn.out⟩
  by_cases hz0 : z < 0
  · have HE := Lib.hid (spath_to (g := ⟨sts, nxt⟩) (a := a) (inOk_neg (n := sts.length) hz0))
    go_wp2_with fail
    go_ret
    rw [HE.out]
    exact ⟨_, rfl, SliceI.none _ _ _ _, HBn.out⟩
  by_cases ha1 : (sts.length : Int) ≤ a
  · have HE := Lib.hid (spath_from (g := ⟨sts, nxt⟩) (z := z) (inOk_big ha1))
    go_wp2_with fail
    go_ret
    rw [HE.out]
    exact ⟨_, rfl, SliceI.none _ _ _ _, HBn.out⟩
  by_cases hz1 : (sts.length : Int) ≤ z
  · have HE := Lib.hid (spath_to (g := ⟨sts, nxt⟩) (a := a) (inOk_big hz1))
    go_wp2_with fail
    go_ret
    rw [HE.out]
    exact ⟨_, rfl, SliceI.none _ _ _ _, HBn.out⟩
  have HA := Lib.hid (inOk_ok ha0 ha1)
  have HZ := Lib.hid (inOk_ok hz0 hz1)
  have hrg := ranged_of HV.out.symm
  have HR := Lib.hid hrg.1
  have HLn := Lib.hid hrg.2.1
  have HL6 := Lib.hid hrg.2.2
  obtain ⟨m, rfl⟩ : ∃ m : Nat, a = m := ⟨a.toNat, by omega⟩
  have HM : Hid (m < nxt.length) := by show _ < _; have := HLn.out; dsimp only at this; omega
  have HN6 : Hid (nxt.length ≤ 60) := by show _ ≤ _; have h1 := HLn.out; have h2 := HL6.out; dsimp only at h1 h2; omega
  have HOk : Hid (SrOk nxt.length m (found nxt m)) := srch_ok HR.out HM.out nxt.length
  clear hrg
  go_wp2_with fail
  refine (search_any nxt m A3 cap3 b3 off3 E3 w1 HR.out HM.out HN6.out H3.out).mono ?_
  rintro e' w2 ⟨gp, capP, gq, capQ, rfl, hp2, hq2, hb2⟩
  have HB2 : Hid (Below w.heap.size w w2) := HB1.out.trans (hb2.mono HB1.out.size)
  have HP2 := Lib.hid hp2
  have HQ2 := Lib.hid hq2
  obtain ⟨u, hu⟩ : ∃ u, u = inB (found nxt m).q z := ⟨_, rfl⟩
  have HU := Lib.hid hu
  have HQl : Hid ((found nxt m).q.length ≤ maxLen) := by show _ ≤ _; have h1 := HOk.out.short; have h2 := HN6.out; unfold maxLen; omega
  clear hp2 hq2 hb2 g0 g1 hu
  go_wp2_with fail
  refine (l4In_any (found nxt m).q z _ _ capQ _ _ w2 rfl HQl.out HQ2.out.ints).mono ?_
  rintro e' w3 ⟨rfl, rfl⟩
  rw [← HU.out]
  have HBm : Hid (Below w.heap.size w (w2.alloc (.cells #[] 3))) := HB2.out.alloc HB2.out.size _
  cases u
  · have HE := Lib.hid (spath_out (g := ⟨sts, nxt⟩) HU.out.symm)
    go_wp2_with fail
    go_ret
    rw [HE.out]
    exact ⟨_, rfl, SliceI.none _ _ _ _, HBm.out⟩
  obtain ⟨k, hk⟩ := List.getElem?_of_mem (of_decide_eq_true HU.out.symm)
  have HE := Lib.hid (spath_way (g := ⟨sts, nxt⟩) HV.out.symm HA.out HZ.out hk)
  have HK := Lib.hid hk
  have HPl : Hid (nxt.length = (found nxt m).par.length) := HOk.out.len.symm
  clear hk
  go_wp2_with fail
  rw [HPl.out]
  refine (l4Path_any (found nxt m) nxt.length m z k _ capP _ _ w2 HOk.out HK.out HN6.out HP2.out.ints).mono ?_
  intro e' w3 hpost
  obtain ⟨g, cap, rfl, h1, h2, h3⟩ := hpost
  have HF : Hid (SpPost (spath ⟨sts, nxt⟩ m z) w (.returned (.slice (some ⟨g, 0, none⟩) (way (found nxt m) m k z).length cap)) w3) := by
    show SpPost _ _ _ _
    rw [HE.out]
    exact ⟨_, rfl, ⟨_, cap, rfl, .inr ⟨g, rfl, Nat.le_trans HB2.out.size h1, h2⟩⟩, HB2.out.trans (h3.mono HB2.out.size)⟩
  clear h1 h2 h3
  go_wp2_with fail
  go_ret
  exact HF.out

end Go.Proofs.Ytkeokgeaekjgeaa

/- The walk of spec.TraceValid. -/
import Derived.Test.YtldnegacgjijlaaTvAQ
import Derived.Test.YtldnegacgjijlaaPvQ
import Derived.BigQuiet
namespace Go.Proofs.Ytldnegacgjijlaa
open Go.RowKit

/-- The last state of a path, and the first of a loop. -/
def lastN (p : List Int) : Int := p.getLast?.getD 0
/-- The trace is one of the graph. -/
def trOk (g : Gp) (t : St) : Bool := decide (0 < t.vals.length) && (decide ((trAll t).length ≤ 8000) && (decide ((trAll t).headD 0 = 0) && (pathOk g (trAll t) && edgeB g (lastN (trAll t)) (t.vals.headD 0))))

theorem trOk_empty {g : Gp} {t : St} (h : t.vals.length < 1) : trOk g t = false := by unfold trOk; rw [decide_eq_false (by omega)]; rfl
theorem trOk_long {g : Gp} {t : St} (h : 8000 < (trAll t).length) : trOk g t = false := by unfold trOk; rw [decide_eq_false (show ¬ (trAll t).length ≤ 8000 by omega), Bool.false_and, Bool.and_false]
theorem trOk_start {g : Gp} {t : St} {z : Int} (h : (trAll t)[0]? = some z) (hz : z ≠ 0) : trOk g t = false := by
  unfold trOk
  have : (trAll t).headD 0 = z := by
    cases hp : trAll t with
    | nil => rw [hp] at h; cases h
    | cons a r => rw [hp] at h; injection h
  rw [this, decide_eq_false hz, Bool.false_and, Bool.and_false, Bool.and_false]
theorem trOk_path {g : Gp} {t : St} (h : pathOk g (trAll t) = false) : trOk g t = false := by unfold trOk; rw [h, Bool.false_and, Bool.and_false, Bool.and_false, Bool.and_false]
theorem head_of {p : List Int} {z : Int} (h : p[0]? = some z) : p.headD 0 = z := by
  cases p with
  | nil => cases h
  | cons a r => injection h
theorem last_of {p : List Int} {z : Int} (h : p[p.length - 1]? = some z) : lastN p = z := by
  unfold lastN
  rw [← List.getLast?_eq_getElem?] at h
  rw [h]
  rfl
theorem trOk_end {g : Gp} {t : St} {y z : Int} {x : List Int} (h0 : 0 < t.vals.length) (h1 : (trAll t).length ≤ 8000) (h2 : (trAll t)[0]? = some 0) (h3 : pathOk g (trAll t) = true) (h4 : (trAll t)[(trAll t).length - 1]? = some y) (h5 : t.vals[0]? = some z) (h6 : g.nxt[y.toNat]? = some x) : trOk g t = inB x z := by
  unfold trOk
  rw [decide_eq_true h0, decide_eq_true h1, decide_eq_true (head_of h2), h3, last_of h4, head_of h5]
  show edgeB g y z = _
  unfold edgeB
  rw [h6]
theorem pathOk_step {g : Gp} {p : List Int} (h : pathOk g p = true) {i : Nat} (hi : i < p.length) : stepOk g p i = true := by
  unfold pathOk at h
  simp only [Bool.and_eq_true, List.all_eq_true, List.mem_range] at h
  exact h.2.2 i hi
theorem pathOk_gr {g : Gp} {p : List Int} (h : pathOk g p = true) : grOk g = true := by
  unfold pathOk at h
  simp only [Bool.and_eq_true] at h
  exact h.1

set_option maxHeartbeats 2000000 in
set_option maxRecDepth 100000 in
theorem specTv_any (e : Gp) (C : Nat → Value) (t : St) (D : Nat → Value) (w : World) (hL : Lay.gra.lies w w.heap.size e C) (hM : Lay.sta.lies w w.heap.size t D) (_hd : Lay.gra.sz e ≤ 1048576) (hd' : Lay.sta.sz t ≤ 1048576) :
    Calls Try.prog 91 #[.agg #[C 0, C 1], .agg #[D 0, D 1]] w fun e' w' => e' = .returned (.bool (trOk e t)) ∧ Below w.heap.size w w' := by
  obtain ⟨W1, hW1⟩ : ∃ W1, W1 = (w.alloc (.cells #[C 0, C 1] 69)).alloc (.cells #[D 0, D 1] 86) := ⟨_, rfl⟩
  have hrows := rows2 w 69 86 #[C 0, C 1] #[D 0, D 1]
  rw [← hW1] at hrows
  obtain ⟨hra, hrb, hb0⟩ := hrows
  have HL := Lib.hid (Lay.gra.later hL hb0 hb0.size)
  have HM := Lib.hid (Lay.sta.later hM hb0 hb0.size)
  have HRa := Lib.hid hra
  have HRb := Lib.hid hrb
  have HB0 := Lib.hid hb0
  have HW1 := Lib.hid hW1
  have HD' := Lib.hid hd'
  have hlt1 : w.heap.size + 1 < W1.heap.size := hrb.lt
  clear hL hM hra hrb hb0 hW1 hd'
  obtain ⟨n, hn⟩ : ∃ n, n = (trAll t).length := ⟨_, rfl⟩
  have HN := Lib.hid hn
  have hn1 : n ≤ 1048576 := by rw [hn]; show (t.locs ++ t.vals).length ≤ _; rw [List.length_append]; have := HD'.out; rw [sta_sz] at this; omega
  have hnv : t.vals.length ≤ n := by rw [hn]; show _ ≤ (t.locs ++ t.vals).length; rw [List.length_append]; omega
  clear hn
  obtain ⟨m, hm⟩ : ∃ m, m = t.vals.length := ⟨_, rfl⟩
  rw [← hm] at hnv
  have HMl := Lib.hid hm
  clear hm
  go_enter Try.func91, Try.ntmps91
  go_wp2_with fail
  rw [← HW1.out]
  refine (specAll_any t D W1 HM.out HD'.out).mono ?_
  rintro e' w1 ⟨g, c, rfl, hI, hb1⟩
  rw [← HN.out]
  have HI := Lib.hid hI
  have HB1 : Hid (Below W1.heap.size W1 w1) := hb1
  have hL1 := HL.out
  have hM1 := Lay.sta.later HM.out hb1 hb1.size
  have hra1 := HRa.out.under hb1 HRa.out.lt
  have hrb1 := HRb.out.under hb1 HRb.out.lt
  have HL1 := Lib.hid (Lay.gra.later HL.out hb1 hb1.size)
  have hz1 : W1.heap.size ≤ w1.heap.size := hb1.size
  obtain ⟨stem, loop⟩ := t
  obtain ⟨_, A5, cap5, b5, off5, D5, q5, hl5, hO5⟩ := sta_lies hM1
  rw [q5] at hrb1
  dsimp only at HMl
  rw [← HMl.out] at hrb1
  have HJ := Lib.hid (ints_of hO5)
  have HRa1 := Lib.hid hra1
  have HRb1 := Lib.hid hrb1
  obtain ⟨g0, g1⟩ := hra1.two
  obtain ⟨f0, f1⟩ := hrb1.two
  clear hb1 hI hL1 hM1 hra1 hrb1 q5 hl5 hO5 HM HL HRa HRb
  by_cases hv : m < 1
  · have HF := Lib.hid (trOk_empty (g := e) (t := ⟨stem, loop⟩) (by show loop.length < 1; rw [← HMl.out]; exact hv))
    have hvI : (m : Int) < 1 := by omega
    go_wp2_with fail
    go_ret
    exact ⟨ret_bool HF.out.symm, HB0.out.trans (HB1.out.mono HB0.out.size)⟩
  by_cases hlong : 8000 < n
  · have HF := Lib.hid (trOk_long (g := e) (t := ⟨stem, loop⟩) (by rw [← HN.out]; exact hlong))
    go_wp2_with fail
    go_ret
    exact ⟨ret_bool HF.out.symm, HB0.out.trans (HB1.out.mono HB0.out.size)⟩
  have hn0 : 0 < n := by omega
  obtain ⟨z0, hz0⟩ : ∃ z0, (trAll ⟨stem, loop⟩)[0]? = some z0 := ⟨_, List.getElem?_eq_getElem (by rw [← HN.out]; exact hn0)⟩
  obtain ⟨_, _, c0⟩ := HI.out 0 z0 hz0
  have c0' : w1.cell? ⟨g, 0, none⟩ = some (.int .i64 z0) := c0
  clear c0
  by_cases hzz : z0 = 0
  case neg =>
    have hzB : (z0 != 0) = true := by simp [hzz]
    have HF := Lib.hid (trOk_start (g := e) (t := ⟨stem, loop⟩) hz0 hzz)
    clear hzz hz0
    go_wp2_with fail
    go_ret
    exact ⟨ret_bool HF.out.symm, HB0.out.trans (HB1.out.mono HB0.out.size)⟩
  subst hzz
  obtain ⟨v, hv'⟩ : ∃ v, v = pathOk e (trAll ⟨stem, loop⟩) := ⟨_, rfl⟩
  have HV := Lib.hid hv'
  have HZ0 := Lib.hid hz0
  clear hv' hz0
  go_wp2_with fail
  have HPl : Hid ((trAll ⟨stem, loop⟩).length ≤ maxLen) := by show _ ≤ _; rw [← HN.out]; unfold maxLen; omega
  have HPv := Lib.hid (specPv_any e C (trAll ⟨stem, loop⟩) (some ⟨g, 0, none⟩) c g 0 w1 HL1.out HPl.out HI.out)
  rw [← HN.out, ← HV.out] at HPv
  refine HPv.out.mono ?_
  rintro e' w2 ⟨rfl, hb2⟩
  have HB2 : Hid (Below W1.heap.size W1 w2) := HB1.out.trans (hb2.mono HB1.out.size)
  cases v
  · have HF := Lib.hid (trOk_path (g := e) (t := ⟨stem, loop⟩) HV.out.symm)
    clear hb2
    go_wp2_with fail
    go_ret
    exact ⟨ret_bool HF.out.symm, HB0.out.trans (HB2.out.mono HB0.out.size)⟩
  obtain ⟨y0, hy0⟩ : ∃ y0, (trAll ⟨stem, loop⟩)[n - 1]? = some y0 := ⟨_, List.getElem?_eq_getElem (by rw [← HN.out]; omega)⟩
  obtain ⟨y, rfl, hy⟩ := inOk_nat (step_in hy0 (pathOk_step HV.out.symm (by rw [← HN.out]; omega)))
  obtain ⟨z, hz⟩ : ∃ z, loop[0]? = some z := ⟨_, List.getElem?_eq_getElem (by rw [← HMl.out]; omega)⟩
  have hlen := grOk_len (pathOk_gr HV.out.symm)
  obtain ⟨x, hx⟩ : ∃ x, e.nxt[y]? = some x := ⟨_, List.getElem?_eq_getElem (by omega)⟩
  have HFin : Hid (trOk e ⟨stem, loop⟩ = inB x z) := trOk_end (by show 0 < loop.length; rw [← HMl.out]; omega) (by rw [← HN.out]; omega) HZ0.out HV.out.symm (by rw [← HN.out]; exact hy0) hz (by rw [Int.toNat_natCast]; exact hx)
  have hI2 := HI.out.under hb2 hb2.size
  have hJ2 := HJ.out.under hb2 hb2.size
  obtain ⟨_, _, c1⟩ := hI2 (n - 1) _ hy0
  have c1' : w2.cell? ⟨g, n - 1, none⟩ = some (.int .i64 (y : Int)) := by rw [Nat.zero_add] at c1; exact c1
  obtain ⟨rfl, _, c2⟩ := hJ2 0 _ hz
  have c2' : w2.cell? ⟨b5, off5, none⟩ = some (.int .i64 z) := c2
  have hL2 := Lay.gra.later HL1.out hb2 hb2.size
  have hra2 := HRa1.out.under hb2 HRa1.out.lt
  have hrb2 := HRb1.out.under hb2 HRb1.out.lt
  obtain ⟨sts, nxt⟩ := e
  obtain ⟨_, A3, cap3, b3, off3, E3, q3, hl3, hO3⟩ := gra_lies hL2
  rw [q3] at hra2
  dsimp only at hx hlen hy
  obtain ⟨rfl, hb3, fc, fl⟩ := hO3 y x hx
  obtain ⟨A6, cap6, b6, off6, k2, hl6, hI6⟩ := ints_lies fl
  have d0 : w2.cell? ⟨b3, off3 + y, none⟩ = some (E3 y 0) := by have h := fc 0 (by decide); rw [show Lay.ints.st = 1 from rfl, Nat.mul_one] at h; exact h
  rw [k2] at d0
  obtain ⟨u, hu⟩ : ∃ u, u = inB x z := ⟨_, rfl⟩
  have HK : Hid (∀ q, Calls Try.prog 116 #[.slice A6 x.length cap6, .int .i64 z] (w2.drewN q) fun e' w' => e' = .returned (.bool u) ∧ w2.drewN q = w') := fun q => by
    rw [hu]; exact l4In_any x z _ x.length cap6 b6 off6 _ rfl hl6 (hI6.under (below_drewN (Below.refl _ _) q) (Nat.le_refl _))
  have HU : Hid (trOk ⟨sts, nxt⟩ ⟨stem, loop⟩ = u) := by show _ = _; rw [hu]; exact HFin.out
  clear g0 g1 f0 f1
  obtain ⟨g0, g1⟩ := hra2.two
  obtain ⟨f0, f1⟩ := hrb2.two
  have hyl : y < nxt.length := (List.getElem?_eq_some_iff.1 hx).1
  have hyI : (y : Int) < (nxt.length : Int) := by omega
  have hn1' : IntKind.i64.wrap ((n : Int) - 1) = ((n - 1 : Nat) : Int) := by rw [IntWalk.i64_in _ (by omega)]; omega
  have hm0 : 0 < m := by omega
  unfold maxLen at hl3 hl6
  have hnn : n - 1 < n := by omega
  obtain ⟨k, hk⟩ : ∃ k, k = n - 1 := ⟨_, rfl⟩
  rw [← hk] at hnn c1' hn1'
  clear fc fl k2 hI6 hu hy0 hx hz hb2 hL2 hra2 hrb2 q3 hO3 c1 c2 hI2 hJ2 hk HFin hlen hv hlong HPv
  go_wp2_with fail
  go_quiet ((go_at_call 116; first | exact quiet_sum (HK.out _) | exact quiet_left (HK.out _)))
  go_wp2_with fail
  go_ret
  exact ⟨ret_bool HU.out.symm, HB0.out.trans ((below_drewN HB2.out _).mono HB0.out.size)⟩

end Go.Proofs.Ytldnegacgjijlaa

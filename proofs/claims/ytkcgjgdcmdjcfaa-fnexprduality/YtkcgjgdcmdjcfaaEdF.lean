/- The walk of the law laws.FnExprDuality. -/
import Derived.Test.YtkcgjgdcmdjcfaaEiF
import Derived.Deep.RegionWith
namespace Go.Proofs.Ytkcgjgdcmdjcfaa
open Go.RowKit

/-- One tree under an operator; its cells lie in the middle of a row. -/
theorem lies_one {w : World} {B q off cap : Nat} {a : Ex} {a0 a1 a2 : Value} (ha : Lies w B a a0 a1 a2) (h0 : w.cell? ⟨q, off, none⟩ = some a0) (h1 : w.cell? ⟨q, off + 1, none⟩ = some a1) (h2 : w.cell? ⟨q, off + 2, none⟩ = some a2) (hq : q < B) (k v : Int) :
    Lies w B (.node k v [a]) (.int .i64 k) (.int .i64 v) (.slice (some ⟨q, off, none⟩) 1 cap) := by
  refine .mk k v [a] _ cap q off (fun _ => a0) (fun _ => a1) (fun _ => a2) (by unfold maxLen; simp) (fun i x _ => ⟨rfl, hq⟩) ?_ ?_ ?_ ?_
  all_goals
    intro i x hx
    match i, hx with
    | 0, hx => first | (simpa using h0) | (simpa using h1) | (simpa using h2) | (simp at hx; subst hx; exact ha)

theorem evalOk_parts {e : Ex} {zs : List Int} (h : evalOk e zs = true) : shape 6 e = true ∧ (∀ i, 0 ≤ zs.getD i 0 ∧ zs.getD i 0 ≤ 3) ∧ evalOut e zs = ev zs 6 e := by
  have h2 := h
  unfold evalOk at h2
  simp only [Bool.and_eq_true] at h2
  exact ⟨shape_of_valid h2.1.symm, (valsOk_parts (n := zs.length) h2.2).2, by unfold evalOut; rw [h]; rfl⟩

theorem two_ev {zs : List Int} {a c : Ex} {k : Int} (h : evalOk (.node k 0 [a, c]) zs = true) (ha : evalOk a zs = true) (hc : evalOk c zs = true) : evalOut (.node k 0 [a, c]) zs = op k 0 zs (evalOut a zs) (evalOut c zs) := by
  obtain ⟨s1, _, e1⟩ := evalOk_parts h
  obtain ⟨_, _, e2⟩ := evalOk_parts ha
  obtain ⟨_, _, e3⟩ := evalOk_parts hc
  have sa : shape 5 a = true := shape_kid s1 (i := 0) rfl
  have sc : shape 5 c = true := shape_kid s1 (i := 1) rfl
  rw [e1, e2, e3, ev_deeper 5 a sa, ev_deeper 5 c sc]
  rfl

theorem or_ev {zs : List Int} {a c : Ex} (h : evalOk (.node 5 0 [.node 3 0 [a], .node 3 0 [c]]) zs = true) (ha : evalOk a zs = true) (hc : evalOk c zs = true) :
    evalOut (.node 5 0 [.node 3 0 [a], .node 3 0 [c]]) zs = op 5 0 zs (tb (evalOut a zs == 0)) (tb (evalOut c zs == 0)) := by
  obtain ⟨s1, _, e1⟩ := evalOk_parts h
  obtain ⟨_, _, e2⟩ := evalOk_parts ha
  obtain ⟨_, _, e3⟩ := evalOk_parts hc
  have sa : shape 5 (.node 3 0 [a]) = true := shape_kid s1 (i := 0) rfl
  have sc : shape 5 (.node 3 0 [c]) = true := shape_kid s1 (i := 1) rfl
  have sa4 : shape 4 a = true := shape_kid sa (i := 0) rfl
  have sc4 : shape 4 c = true := shape_kid sc (i := 0) rfl
  rw [e1, e2, e3, ev_deeper 5 a (shape_deeper 4 a sa4), ev_deeper 4 a sa4, ev_deeper 5 c (shape_deeper 4 c sc4), ev_deeper 4 c sc4]
  rfl

theorem evalOut_range {e : Ex} {zs : List Int} : 0 ≤ evalOut e zs ∧ evalOut e zs ≤ 3 := by
  by_cases h : evalOk e zs = true
  · obtain ⟨s1, hz, e1⟩ := evalOk_parts h
    rw [e1]
    exact ev_range hz 6 e s1
  · unfold evalOut
    rw [if_neg h]
    omega

theorem dual_math {zs : List Int} (x y : Int) : op 4 0 zs x y = 1 - op 5 0 zs (tb (x == 0)) (tb (y == 0)) := by
  rw [op4, op5]
  by_cases h1 : x = 0 <;> by_cases h2 : y = 0 <;> simp [h1, h2, tb]

theorem tri_math {zs : List Int} (x y : Int) : op 7 0 zs x y + op 6 0 zs x y + op 7 0 zs y x = 1 ∧ ((op 6 0 zs x y == 1) == (x == y)) = true := by
  rw [op7, op6, op7]
  rcases Int.lt_trichotomy x y with h | h | h
  · have h1 : ¬ x = y := by omega
    have h2 : ¬ y < x := by omega
    simp [tb, h, h1, h2]
  · subst h
    simp [tb]
  · have h1 : ¬ x = y := by omega
    have h2 : ¬ x < y := by omega
    simp [tb, h, h1, h2]

set_option maxHeartbeats 2000000 in
set_option maxRecDepth 100000 in
theorem lawDuality_any (A : Option Addr) (b off n cap : Nat) (A' : Option Addr) (b' off' n' cap' : Nat) (w : World) (hC : Seed w A b off n cap) (hC' : Seed w A' b' off' n' cap') :
    Calls Try.prog 5 #[.slice A n cap, .slice A' n' cap'] w fun e' w' => e' = .returned (.bool true) ∧ Below w.heap.size w w' := by
  have hn := hC.lenle
  have hn' := hC'.lenle
  unfold maxLen at hn hn'
  have HC := Lib.hid hC
  have HC' := Lib.hid hC'
  clear hC hC'
  by_cases h1 : 1048576 < n
  · go_enter Try.func5, Try.ntmps5
    go_wp2_with fail
    go_ret
    exact ⟨rfl, Below.refl _ _⟩
  by_cases h2 : 1048576 < n'
  · go_enter Try.func5, Try.ntmps5
    go_wp2_with fail
    go_ret
    exact ⟨rfl, Below.refl _ _⟩
  go_enter Try.func5, Try.ntmps5
  go_wp2_with fail
  refine (drawEval_any A b off n cap _ HC.out).mono ?_
  rintro e' w1 ⟨a, a0, a1, a2, zs, Av, bv, ov, cv, rfl, hoa, hda, hzl, hI1, hb1⟩
  obtain ⟨i0, i1, ia, il, ic, rfl, rfl, rfl⟩ := hoa.form
  obtain ⟨W2, hW2⟩ : ∃ W2, W2 = w1.alloc (.cells #[.int .i64 i0, .int .i64 i1, .slice ia il ic] 25) := ⟨_, rfl⟩
  have hB2 : Below w1.heap.size w1 W2 := by rw [hW2]; exact (Below.refl _ _).alloc (Nat.le_refl _) _
  have HRa2 : Hid (Row W2 w1.heap.size 25 #[.int .i64 i0, .int .i64 i1, .slice ia il ic]) := by rw [hW2]; exact Row.new _ _ _
  have HLa2 := Lib.hid (below_more hoa.lies hB2 hB2.size)
  have HI2 := Lib.hid (hI1.under hB2 hB2.size)
  have HB2 := Lib.hid (hb1.trans (hB2.mono hb1.size))
  have HC2 := Lib.hid (HC'.out.under HB2.out)
  have HW2 := Lib.hid hW2
  clear hW2 hB2 hoa hI1 hb1 HC
  go_wp2_with fail
  rw [← HW2.out]
  refine (drawEval_any A' b' off' n' cap' _ HC2.out).mono ?_
  rintro e' w3 ⟨c, c0, c1, c2, zs', Av', bv', ov', cv', rfl, hoc, hdc, _, _, hb3⟩
  obtain ⟨j0, j1, ja, jl, jc, rfl, rfl, rfl⟩ := hoc.form
  obtain ⟨W4, hW4⟩ : ∃ W4, W4 = w3.alloc (.cells #[.int .i64 j0, .int .i64 j1, .slice ja jl jc] 25) := ⟨_, rfl⟩
  have hB4 : Below w3.heap.size w3 W4 := by rw [hW4]; exact (Below.refl _ _).alloc (Nat.le_refl _) _
  have hB24 : Below W2.heap.size W2 W4 := hb3.trans (hB4.mono hb3.size)
  have HRc4 : Hid (Row W4 w3.heap.size 25 #[.int .i64 j0, .int .i64 j1, .slice ja jl jc]) := by rw [hW4]; exact Row.new _ _ _
  have HRa4 := Lib.hid (HRa2.out.under hB24 HRa2.out.lt)
  have HLa4 := Lib.hid (below_more HLa2.out hB24 hB24.size)
  have HLc4 := Lib.hid (below_more hoc.lies hB4 hB4.size)
  have HI4 := Lib.hid (HI2.out.under hB24 hB24.size)
  have HB4 := Lib.hid (HB2.out.trans (hB24.mono HB2.out.size))
  have hra3 := HRa2.out.under hb3 HRa2.out.lt
  have p0 : w3.cell? ⟨w1.heap.size, 0, none⟩ = some (.int .i64 i0) := hra3.cell 0
  have p1 : w3.cell? ⟨w1.heap.size, 1, none⟩ = some (.int .i64 i1) := hra3.cell 1
  have p2 : w3.cell? ⟨w1.heap.size, 2, none⟩ = some (.slice ia il ic) := hra3.cell 2
  have h13 : w1.heap.size < w3.heap.size := hra3.lt
  have HW4 := Lib.hid hW4
  clear hW4 hB4 hoc hb3 hB24 hra3 HRa2 HLa2 HI2 HB2 HC2 HW2
  obtain ⟨x, hx⟩ : ∃ x, x = evalOut a zs := ⟨_, rfl⟩
  obtain ⟨pk, hpk⟩ : ∃ pk, pk = evalOk a zs := ⟨_, rfl⟩
  have HX := Lib.hid hx
  have HPk := Lib.hid hpk
  clear hx hpk
  go_wp2_with fail
  rw [← HW4.out]
  have hzm : zs.length ≤ maxLen := by unfold maxLen; omega
  have HZm := Lib.hid hzm
  clear hzm
  -- the program's answer at a
  refine (implEval_any a zs _ _ _ Av bv ov cv _ HLa4.out (by omega) HZm.out HI4.out).mono ?_
  rintro e' w5 ⟨rfl, hb5⟩
  rw [← HX.out, ← HPk.out]
  have hra := HRa4.out.under hb5 HRa4.out.lt
  have q0 : w5.cell? ⟨w1.heap.size, 0, none⟩ = some (.int .i64 i0) := hra.cell 0
  have q1 : w5.cell? ⟨w1.heap.size, 1, none⟩ = some (.int .i64 i1) := hra.cell 1
  have q2 : w5.cell? ⟨w1.heap.size, 2, none⟩ = some (.slice ia il ic) := hra.cell 2
  have HRa5 := Lib.hid hra
  have HRc5 := Lib.hid (HRc4.out.under hb5 HRc4.out.lt)
  have HLa5 := Lib.hid (below_more HLa4.out hb5 hb5.size)
  have HLc5 := Lib.hid (below_more HLc4.out hb5 hb5.size)
  have HI5 := Lib.hid (HI4.out.under hb5 hb5.size)
  have HB5 := Lib.hid (HB4.out.trans (hb5.mono HB4.out.size))
  have r0' : w5.cell? ⟨w3.heap.size, 0, none⟩ = some (.int .i64 j0) := HRc5.out.cell 0
  have r1' : w5.cell? ⟨w3.heap.size, 1, none⟩ = some (.int .i64 j1) := HRc5.out.cell 1
  have r2' : w5.cell? ⟨w3.heap.size, 2, none⟩ = some (.slice ja jl jc) := HRc5.out.cell 2
  clear hb5 hra HRa4 HRc4 HLa4 HLc4 HI4 HB4 p0 p1 p2 HW4
  obtain ⟨y, hy⟩ : ∃ y, y = evalOut c zs := ⟨_, rfl⟩
  obtain ⟨qk, hqk⟩ : ∃ qk, qk = evalOk c zs := ⟨_, rfl⟩
  have HY := Lib.hid hy
  have HQk := Lib.hid hqk
  clear hy hqk
  go_wp2_with fail
  refine (implEval_any c zs _ _ _ Av bv ov cv _ HLc5.out (by omega) HZm.out HI5.out).mono ?_
  rintro e' w5b ⟨rfl, hb5⟩
  rw [← HY.out, ← HQk.out]
  have hra := HRa5.out.under hb5 HRa5.out.lt
  have q0b : w5b.cell? ⟨w1.heap.size, 0, none⟩ = some (.int .i64 i0) := hra.cell 0
  have q1b : w5b.cell? ⟨w1.heap.size, 1, none⟩ = some (.int .i64 i1) := hra.cell 1
  have q2b : w5b.cell? ⟨w1.heap.size, 2, none⟩ = some (.slice ia il ic) := hra.cell 2
  have HRa5b := Lib.hid hra
  have HRc5b := Lib.hid (HRc5.out.under hb5 HRc5.out.lt)
  have HLa5b := Lib.hid (below_more HLa5.out hb5 hb5.size)
  have HLc5b := Lib.hid (below_more HLc5.out hb5 hb5.size)
  have HI5b := Lib.hid (HI5.out.under hb5 hb5.size)
  have HB5b := Lib.hid (HB5.out.trans (hb5.mono HB5.out.size))
  clear hb5 hra HRa5 HRc5 HLa5 HLc5 HI5 HB5 q0 q1 q2 r0' r1' r2'
  go_wp2_with fail
  refine (specEval_any a zs _ _ _ Av bv ov cv _ HLa5b.out (by omega) HZm.out HI5b.out).mono ?_
  rintro e' w6 ⟨rfl, hb6⟩
  rw [← HX.out, ← HPk.out]
  have hra := HRa5b.out.under hb6 HRa5b.out.lt
  have hrc := HRc5b.out.under hb6 HRc5b.out.lt
  have q0 : w6.cell? ⟨w1.heap.size, 0, none⟩ = some (.int .i64 i0) := hra.cell 0
  have q1 : w6.cell? ⟨w1.heap.size, 1, none⟩ = some (.int .i64 i1) := hra.cell 1
  have q2 : w6.cell? ⟨w1.heap.size, 2, none⟩ = some (.slice ia il ic) := hra.cell 2
  have r0 : w6.cell? ⟨w3.heap.size, 0, none⟩ = some (.int .i64 j0) := hrc.cell 0
  have r1 : w6.cell? ⟨w3.heap.size, 1, none⟩ = some (.int .i64 j1) := hrc.cell 1
  have r2 : w6.cell? ⟨w3.heap.size, 2, none⟩ = some (.slice ja jl jc) := hrc.cell 2
  have h36 : w3.heap.size < w6.heap.size := hrc.lt
  have HRa6 := Lib.hid hra
  have HRc6 := Lib.hid hrc
  have HLa6 := Lib.hid (below_more HLa5b.out hb6 hb6.size)
  have HLc6 := Lib.hid (below_more HLc5b.out hb6 hb6.size)
  have HI6 := Lib.hid (HI5b.out.under hb6 hb6.size)
  have HB6 := Lib.hid (HB5b.out.trans (hb6.mono HB5b.out.size))
  clear hb6 hra hrc HRa5b HRc5b HLa5b HLc5b HI5b HB5b q0b q1b q2b
  cases pk
  · go_wp2_with fail
    go_ret
    exact ⟨ret_bool (by simp), HB6.out⟩
  cases qk
  · go_wp2_with fail
    go_ret
    exact ⟨ret_bool (by simp), HB6.out⟩
  -- the row of both
  obtain ⟨W7, hW7⟩ : ∃ W7, W7 = w6.alloc (.cells #[.int .i64 i0, .int .i64 i1, .slice ia il ic, .int .i64 j0, .int .i64 j1, .slice ja jl jc] 25) := ⟨_, rfl⟩
  have hb7 : Below w6.heap.size w6 W7 := by rw [hW7]; exact (Below.refl _ _).alloc (Nat.le_refl _) _
  have HK7 : Hid (Row W7 w6.heap.size 25 #[.int .i64 i0, .int .i64 i1, .slice ia il ic, .int .i64 j0, .int .i64 j1, .slice ja jl jc]) := by rw [hW7]; exact Row.new _ _ _
  have HRa7 := Lib.hid (HRa6.out.under hb7 HRa6.out.lt)
  have HRc7 := Lib.hid (HRc6.out.under hb7 HRc6.out.lt)
  have HLa7 := Lib.hid (below_more HLa6.out hb7 hb7.size)
  have HLc7 := Lib.hid (below_more HLc6.out hb7 hb7.size)
  have HI7 := Lib.hid (HI6.out.under hb7 hb7.size)
  have HB7 := Lib.hid (HB6.out.trans (hb7.mono HB6.out.size))
  have HW7 := Lib.hid hW7
  clear hW7 hb7 HRa6 HRc6 HLa6 HLc6 HI6 HB6
  obtain ⟨an, han⟩ : ∃ an, an = evalOut (.node 4 0 [a, c]) zs := ⟨_, rfl⟩
  obtain ⟨rk, hrk⟩ : ∃ rk, rk = evalOk (.node 4 0 [a, c]) zs := ⟨_, rfl⟩
  have HAn := Lib.hid han
  have HRk := Lib.hid hrk
  clear han hrk
  go_wp2_with fail
  rw [← HW7.out]
  refine (implEval_any (.node 4 0 [a, c]) zs _ _ _ Av bv ov cv _ (lies_pair HLa7.out HLc7.out HK7.out HK7.out.lt 4 0) (by simp only [desc, descL]; omega) HZm.out HI7.out).mono ?_
  rintro e' w8 ⟨rfl, hb8⟩
  rw [← HAn.out, ← HRk.out]
  have HK8 := Lib.hid (HK7.out.under hb8 HK7.out.lt)
  have HRa8 := Lib.hid (HRa7.out.under hb8 HRa7.out.lt)
  have HRc8 := Lib.hid (HRc7.out.under hb8 HRc7.out.lt)
  have HLa8 := Lib.hid (below_more HLa7.out hb8 hb8.size)
  have HLc8 := Lib.hid (below_more HLc7.out hb8 hb8.size)
  have HI8 := Lib.hid (HI7.out.under hb8 hb8.size)
  have HB8 := Lib.hid (HB7.out.trans (hb8.mono HB7.out.size))
  clear hb8 HK7 HRa7 HRc7 HLa7 HLc7 HI7 HB7 HW7 q0 q1 q2 r0 r1 r2
  obtain ⟨W9, hW9⟩ : ∃ W9, W9 = w8.drew.alloc (.cells #[.int .i64 3, .int .i64 0, .slice (some ⟨w6.heap.size, 0, none⟩) 1 2, .int .i64 3, .int .i64 0, .slice (some ⟨w6.heap.size, 3, none⟩) 1 1] 25) := ⟨_, rfl⟩
  have hb9 : Below w8.heap.size w8 W9 := by rw [hW9]; exact ((Below.refl _ _).drew).alloc (Nat.le_refl _) _
  have hr9 : Row W9 w8.heap.size 25 #[.int .i64 3, .int .i64 0, .slice (some ⟨w6.heap.size, 0, none⟩) 1 2, .int .i64 3, .int .i64 0, .slice (some ⟨w6.heap.size, 3, none⟩) 1 1] := by rw [hW9]; exact Row.new w8.drew 25 _
  have hk9 := HK8.out.under hb9 HK8.out.lt
  have hla9 := below_more HLa8.out hb9 hb9.size
  have hlc9 := below_more HLc8.out hb9 hb9.size
  have hna := lies_one (cap := 2) hla9 (hk9.cell 0) (hk9.cell 1) (hk9.cell 2) hk9.lt 3 0
  have hnc := lies_one (cap := 1) (off := 3) hlc9 (hk9.cell 3) (hk9.cell 4) (hk9.cell 5) hk9.lt 3 0
  have HOr := Lib.hid (lies_pair (cap := 2) hna hnc hr9 hr9.lt 5 0)
  have HK9 := Lib.hid hk9
  have HRa9 := Lib.hid (HRa8.out.under hb9 HRa8.out.lt)
  have HRc9 := Lib.hid (HRc8.out.under hb9 HRc8.out.lt)
  have HLa9 := Lib.hid hla9
  have HLc9 := Lib.hid hlc9
  have HI9 := Lib.hid (HI8.out.under hb9 hb9.size)
  have HB9 := Lib.hid (HB8.out.trans (hb9.mono HB8.out.size))
  rw [hW9] at HOr HI9
  have HW9 := Lib.hid hW9
  clear hW9 hb9 hr9 hk9 hla9 hlc9 hna hnc HK8 HRa8 HRc8 HLa8 HLc8 HI8 HB8
  obtain ⟨oo, hoo⟩ : ∃ oo, oo = evalOut (.node 5 0 [.node 3 0 [a], .node 3 0 [c]]) zs := ⟨_, rfl⟩
  obtain ⟨sk, hsk⟩ : ∃ sk, sk = evalOk (.node 5 0 [.node 3 0 [a], .node 3 0 [c]]) zs := ⟨_, rfl⟩
  have hoor : 0 ≤ oo ∧ oo ≤ 3 := by rw [hoo]; exact evalOut_range
  have HOo := Lib.hid hoo
  have HSk := Lib.hid hsk
  clear hoo hsk
  go_wp2_with fail
  go_region_with (first
    | (go_at_call 9
       refine (implEval_any (.node 5 0 [.node 3 0 [a], .node 3 0 [c]]) zs _ _ _ Av bv ov cv _ HOr.out (by simp only [desc, descL]; omega) HZm.out HI9.out).mono ?_
       rintro e' w10 ⟨rfl, hb10⟩
       rw [← HOo.out, ← HSk.out]
       rw [← HW9.out] at hb10
       have HK10 := Lib.hid (HK9.out.under hb10 HK9.out.lt)
       have HRa10 := Lib.hid (HRa9.out.under hb10 HRa9.out.lt)
       have HRc10 := Lib.hid (HRc9.out.under hb10 HRc9.out.lt)
       have HLa10 := Lib.hid (below_more HLa9.out hb10 hb10.size)
       have HLc10 := Lib.hid (below_more HLc9.out hb10 hb10.size)
       have HI10 : Hid (Ints w10 w10.heap.size Av bv ov zs) := by
         have h := HI9.out
         rw [← HW9.out] at h
         exact h.under hb10 hb10.size
       have HB10 := Lib.hid (HB9.out.trans (hb10.mono HB9.out.size))
       clear hb10))
  all_goals
    (clear HK9 HRa9 HRc9 HLa9 HLc9 HI9 HB9 HW9 HOr
     go_wp2_with fail)
  obtain ⟨le, hle⟩ : ∃ le, le = evalOut (.node 7 0 [a, c]) zs := ⟨_, rfl⟩
  obtain ⟨tk, htk⟩ : ∃ tk, tk = evalOk (.node 7 0 [a, c]) zs := ⟨_, rfl⟩
  have hler : 0 ≤ le ∧ le ≤ 3 := by rw [hle]; exact evalOut_range
  have HLe := Lib.hid hle
  have HTk := Lib.hid htk
  clear hle htk
  refine (implEval_any (.node 7 0 [a, c]) zs _ _ _ Av bv ov cv _ (lies_pair HLa10.out HLc10.out HK10.out HK10.out.lt 7 0) (by simp only [desc, descL]; omega) HZm.out HI10.out).mono ?_
  rintro e' w11 ⟨rfl, hb11⟩
  rw [← HLe.out, ← HTk.out]
  have HK11 := Lib.hid (HK10.out.under hb11 HK10.out.lt)
  have HRa11 := Lib.hid (HRa10.out.under hb11 HRa10.out.lt)
  have HRc11 := Lib.hid (HRc10.out.under hb11 HRc10.out.lt)
  have HLa11 := Lib.hid (below_more HLa10.out hb11 hb11.size)
  have HLc11 := Lib.hid (below_more HLc10.out hb11 hb11.size)
  have HI11 := Lib.hid (HI10.out.under hb11 hb11.size)
  have HB11 := Lib.hid (HB10.out.trans (hb11.mono HB10.out.size))
  clear hb11 HK10 HRa10 HRc10 HLa10 HLc10 HI10 HB10
  obtain ⟨eq, heq⟩ : ∃ eq, eq = evalOut (.node 6 0 [a, c]) zs := ⟨_, rfl⟩
  obtain ⟨uk, huk⟩ : ∃ uk, uk = evalOk (.node 6 0 [a, c]) zs := ⟨_, rfl⟩
  have heqr : 0 ≤ eq ∧ eq ≤ 3 := by rw [heq]; exact evalOut_range
  have HEq := Lib.hid heq
  have HUk := Lib.hid huk
  clear heq huk
  go_wp2_with fail
  refine (implEval_any (.node 6 0 [a, c]) zs _ _ _ Av bv ov cv _ (lies_pair HLa11.out HLc11.out HK11.out HK11.out.lt 6 0) (by simp only [desc, descL]; omega) HZm.out HI11.out).mono ?_
  rintro e' w12 ⟨rfl, hb12⟩
  rw [← HEq.out, ← HUk.out]
  have HK12 := Lib.hid (HK11.out.under hb12 HK11.out.lt)
  have HRa12 := Lib.hid (HRa11.out.under hb12 HRa11.out.lt)
  have HRc12 := Lib.hid (HRc11.out.under hb12 HRc11.out.lt)
  have HLa12 := Lib.hid (below_more HLa11.out hb12 hb12.size)
  have HLc12 := Lib.hid (below_more HLc11.out hb12 hb12.size)
  have HI12 := Lib.hid (HI11.out.under hb12 hb12.size)
  have HB12 := Lib.hid (HB11.out.trans (hb12.mono HB11.out.size))
  clear hb12 HK11 HRa11 HRc11 HLa11 HLc11 HI11 HB11
  have q0 : w12.cell? ⟨w1.heap.size, 0, none⟩ = some (.int .i64 i0) := HRa12.out.cell 0
  have q1 : w12.cell? ⟨w1.heap.size, 1, none⟩ = some (.int .i64 i1) := HRa12.out.cell 1
  have q2 : w12.cell? ⟨w1.heap.size, 2, none⟩ = some (.slice ia il ic) := HRa12.out.cell 2
  have r0 : w12.cell? ⟨w3.heap.size, 0, none⟩ = some (.int .i64 j0) := HRc12.out.cell 0
  have r1 : w12.cell? ⟨w3.heap.size, 1, none⟩ = some (.int .i64 j1) := HRc12.out.cell 1
  have r2 : w12.cell? ⟨w3.heap.size, 2, none⟩ = some (.slice ja jl jc) := HRc12.out.cell 2
  obtain ⟨W13, hW13⟩ : ∃ W13, W13 = w12.alloc (.cells #[.int .i64 j0, .int .i64 j1, .slice ja jl jc, .int .i64 i0, .int .i64 i1, .slice ia il ic] 25) := ⟨_, rfl⟩
  have hb13 : Below w12.heap.size w12 W13 := by rw [hW13]; exact (Below.refl _ _).alloc (Nat.le_refl _) _
  have hr13 : Row W13 w12.heap.size 25 #[.int .i64 j0, .int .i64 j1, .slice ja jl jc, .int .i64 i0, .int .i64 i1, .slice ia il ic] := by rw [hW13]; exact Row.new _ _ _
  have HGr := Lib.hid (lies_pair (cap := 2) (below_more HLc12.out hb13 hb13.size) (below_more HLa12.out hb13 hb13.size) hr13 hr13.lt 7 0)
  have HI13 := Lib.hid (HI12.out.under hb13 hb13.size)
  have HB13 := Lib.hid (HB12.out.trans (hb13.mono HB12.out.size))
  have HW13 := Lib.hid hW13
  clear hW13 hb13 hr13 HK12 HRa12 HRc12 HLa12 HLc12 HI12 HB12
  obtain ⟨gr, hgr⟩ : ∃ gr, gr = evalOut (.node 7 0 [c, a]) zs := ⟨_, rfl⟩
  obtain ⟨vk, hvk⟩ : ∃ vk, vk = evalOk (.node 7 0 [c, a]) zs := ⟨_, rfl⟩
  have hgrr : 0 ≤ gr ∧ gr ≤ 3 := by rw [hgr]; exact evalOut_range
  have HGo := Lib.hid hgr
  have HVk := Lib.hid hvk
  clear hgr hvk
  go_wp2_with fail
  rw [← HW13.out]
  refine (implEval_any (.node 7 0 [c, a]) zs _ _ _ Av bv ov cv _ HGr.out (by simp only [desc, descL]; omega) HZm.out HI13.out).mono ?_
  rintro e' w14 ⟨rfl, hb14⟩
  rw [← HGo.out, ← HVk.out]
  have HB14 := Lib.hid (HB13.out.trans (hb14.mono HB13.out.size))
  clear hb14 HB13 HI13 HGr HW13 q0 q1 q2 r0 r1 r2
  have hxr : 0 ≤ x ∧ x ≤ 3 := by rw [HX.out]; exact evalOut_range
  have hdual : rk = true → sk = true → an = 1 - oo := fun h1 h2 => by
    rw [HAn.out, HOo.out, two_ev (by rw [← HRk.out]; exact h1) HPk.out.symm HQk.out.symm, or_ev (by rw [← HSk.out]; exact h2) HPk.out.symm HQk.out.symm]
    exact dual_math _ _
  have htri : tk = true → uk = true → vk = true → le + eq + gr = 1 ∧ ((eq == 1) == (x == y)) = true := fun h1 h2 h3 => by
    rw [HLe.out, HEq.out, HGo.out, HX.out, HY.out, two_ev (by rw [← HTk.out]; exact h1) HPk.out.symm HQk.out.symm, two_ev (by rw [← HUk.out]; exact h2) HPk.out.symm HQk.out.symm, two_ev (by rw [← HVk.out]; exact h3) HQk.out.symm HPk.out.symm]
    exact tri_math _ _
  have hA : (rk = false) ∨ (rk = true ∧ sk = false) ∨ (rk = true ∧ sk = true ∧ (an == 1 - oo) = true) := by
    cases rk
    · exact .inl rfl
    · cases sk
      · exact .inr (.inl ⟨rfl, rfl⟩)
      · exact .inr (.inr ⟨rfl, rfl, by have := hdual rfl rfl; simpa using this⟩)
  have hB : (tk = false) ∨ (tk = true ∧ uk = false) ∨ (tk = true ∧ uk = true ∧ vk = false) ∨ (tk = true ∧ uk = true ∧ vk = true ∧ (le + eq + gr == 1) = true ∧ Hid (((eq == 1) == (x == y)) = true)) := by
    cases tk
    · exact .inl rfl
    · cases uk
      · exact .inr (.inl ⟨rfl, rfl⟩)
      · cases vk
        · exact .inr (.inr (.inl ⟨rfl, rfl, rfl⟩))
        · have := htri rfl rfl rfl
          exact .inr (.inr (.inr ⟨rfl, rfl, rfl, by simpa using this.1, this.2⟩))
  clear hdual htri HAn HOo HRk HSk HLe HEq HGo HTk HUk HVk HX HY HPk HQk
  obtain ⟨hle0, hle1⟩ := hler
  obtain ⟨heq0, heq1⟩ := heqr
  obtain ⟨hgr0, hgr1⟩ := hgrr
  obtain ⟨hoo0, hoo1⟩ := hoor
  obtain ⟨hx0, hx1⟩ := hxr
  rcases hA with rfl | ⟨rfl, rfl⟩ | ⟨rfl, rfl, hA⟩
  all_goals
    (rcases hB with rfl | ⟨rfl, rfl⟩ | ⟨rfl, rfl, rfl⟩ | ⟨rfl, rfl, rfl, hB, HT⟩)
  all_goals
    (go_wp2_with fail
     go_ret
     refine ⟨?_, HB14.out⟩
     first
       | rfl
       | exact ret_bool HT.out)

end Go.Proofs.Ytkcgjgdcmdjcfaa

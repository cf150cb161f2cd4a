/- The walk of the law laws.FnExprInverse. -/
import Derived.Test.YtkcgjgdcmdjcfaaE7
import Derived.Test.YtkcgjgdcmdjcfaaD7E
import Derived.Test.YtkcgjgdcmdjcfaaE1s
namespace Go.Proofs.Ytkcgjgdcmdjcfaa
open Go.RowKit

theorem ev_deeper {zs : List Int} : ∀ (d : Nat) (e : Ex), shape d e = true → ev zs (d + 1) e = ev zs d e := by
  intro d
  induction d with
  | zero => intro e h; simp [shape] at h
  | succ d ih =>
    rintro ⟨k, v, kids⟩ h
    have hr := rootOk_parts (shape_root h)
    show op k v zs (ev zs (d + 1) (kids.getD 0 default)) (ev zs (d + 1) (kids.getD 1 default)) = op k v zs (ev zs d (kids.getD 0 default)) (ev zs d (kids.getD 1 default))
    rcases hr with ⟨rfl, _⟩ | ⟨rfl, _⟩ | ⟨rfl, _, h1⟩ | ⟨_, _, _, h2⟩
    · rfl
    · rfl
    · match kids, h1 with
      | [x], _ =>
        rw [show ([x] : List Ex).getD 0 default = x from rfl, ih x (shape_kid h (i := 0) rfl)]
        rfl
    · match kids, h2 with
      | [x, y], _ =>
        rw [show ([x, y] : List Ex).getD 0 default = x from rfl, show ([x, y] : List Ex).getD 1 default = y from rfl, ih x (shape_kid h (i := 0) rfl), ih y (shape_kid h (i := 1) rfl)]

theorem shape_deeper : ∀ (d : Nat) (e : Ex), shape d e = true → shape (d + 1) e = true := by
  intro d
  induction d with
  | zero => intro e h; simp [shape] at h
  | succ d ih =>
    rintro ⟨k, v, kids⟩ h
    have h1 := shape_root h
    show (rootOk k v kids.length && kids.all (shape (d + 1))) = true
    rw [h1, Bool.true_and, List.all_eq_true]
    intro x hx
    obtain ⟨i, hi, rfl⟩ := List.getElem_of_mem hx
    exact ih _ (shape_kid h (List.getElem?_eq_getElem hi))

/-- Two trees joined by an operator. -/
theorem lies_pair {w : World} {B q cap : Nat} {a c : Ex} {a0 a1 a2 c0 c1 c2 : Value} (ha : Lies w B a a0 a1 a2) (hc : Lies w B c c0 c1 c2) (hr : Row w q 25 #[a0, a1, a2, c0, c1, c2]) (hq : q < B) (k v : Int) :
    Lies w B (.node k v [a, c]) (.int .i64 k) (.int .i64 v) (.slice (some ⟨q, 0, none⟩) 2 cap) := by
  refine .mk k v [a, c] _ cap q 0 (fun i => if i = 0 then a0 else c0) (fun i => if i = 0 then a1 else c1) (fun i => if i = 0 then a2 else c2) (by unfold maxLen; simp) (fun i x _ => ⟨rfl, hq⟩) ?_ ?_ ?_ ?_
  all_goals
    intro i x hx
    match i, hx with
    | 0, hx => first | (rw [hr.cell]; rfl) | (simp at hx; subst hx; exact ha)
    | 1, hx => first | (rw [hr.cell]; rfl) | (simp at hx; subst hx; exact hc)

theorem inverse_math {zs : List Int} {a c : Ex} (hz : ∀ i, 0 ≤ zs.getD i 0 ∧ zs.getD i 0 ≤ 3) (hs : shape 6 (.node 9 0 [.node 8 0 [a, c], c]) = true) : ev zs 6 (.node 9 0 [.node 8 0 [a, c], c]) = ev zs 6 a := by
  have h5 : shape 5 (.node 8 0 [a, c]) = true := shape_kid hs (i := 0) rfl
  have hc5 : shape 5 c = true := shape_kid hs (i := 1) rfl
  have ha4 : shape 4 a = true := shape_kid h5 (i := 0) rfl
  have hc4 : shape 4 c = true := shape_kid h5 (i := 1) rfl
  have e1 : ev zs 6 a = ev zs 4 a := by rw [ev_deeper 5 a (shape_deeper 4 a ha4), ev_deeper 4 a ha4]
  have e2 : ev zs 5 c = ev zs 4 c := ev_deeper 4 c hc4
  have ra := ev_range hz 4 a ha4
  have rc := ev_range hz 4 c hc4
  show op 9 0 zs (op 8 0 zs (ev zs 4 a) (ev zs 4 c)) (ev zs 5 c) = _
  rw [op9, op8, e1, e2]
  omega

/-- What the law compares. -/
theorem inverse_out {a c : Ex} {zs : List Int} (h1 : evalOk a zs = true) (h2 : evalOk (.node 9 0 [.node 8 0 [a, c], c]) zs = true) : evalOut (.node 9 0 [.node 8 0 [a, c], c]) zs = evalOut a zs := by
  unfold evalOut
  rw [h1, h2]
  simp only [if_true]
  unfold evalOk at h2
  simp only [Bool.and_eq_true] at h2
  exact inverse_math (valsOk_parts (n := zs.length) h2.2).2 (shape_of_valid h2.1.symm)

set_option maxHeartbeats 1000000 in
set_option maxRecDepth 100000 in
theorem lawInverse_any (A : Option Addr) (b off n cap : Nat) (A' : Option Addr) (b' off' n' cap' : Nat) (w : World) (hC : Seed w A b off n cap) (hC' : Seed w A' b' off' n' cap') :
    Calls Try.prog 6 #[.slice A n cap, .slice A' n' cap'] w fun e' w' => e' = .returned (.bool true) ∧ Below w.heap.size w w' := by
  have hn := hC.lenle
  have hn' := hC'.lenle
  unfold maxLen at hn hn'
  have HC := Lib.hid hC
  have HC' := Lib.hid hC'
  clear hC hC'
  by_cases h1 : 1048576 < n
  · go_enter Try.func6, Try.ntmps6
    go_wp2_with fail
    go_ret
    exact ⟨rfl, Below.refl _ _⟩
  by_cases h2 : 1048576 < n'
  · go_enter Try.func6, Try.ntmps6
    go_wp2_with fail
    go_ret
    exact ⟨rfl, Below.refl _ _⟩
  go_enter Try.func6, Try.ntmps6
  go_wp2_with fail
  refine (drawEval_any A b off n cap _ HC.out).mono ?_
  rintro e' w1 ⟨a, a0, a1, a2, zs, Av, bv, ov, cv, rfl, hoa, hda, hzl, hI1, hb1⟩
  obtain ⟨i0, i1, ia, il, ic, rfl, rfl, rfl⟩ := hoa.form
  obtain ⟨W2, hW2⟩ : ∃ W2, W2 = w1.alloc (.cells #[.int .i64 i0, .int .i64 i1, .slice ia il ic] 25) := ⟨_, rfl⟩
  have hB2 : Below w1.heap.size w1 W2 := by rw [hW2]; exact (Below.refl _ _).alloc (Nat.le_refl _) _
  have HRa2 : Hid (Row W2 w1.heap.size 25 #[.int .i64 i0, .int .i64 i1, .slice ia il ic]) := by rw [hW2]; exact Row.new _ _ _
  have HLa2 := Lib.hid (below_more hoa.lies hB2 hB2.size)
  have HI2 := Lib.hid (hI1.under hB2 hB2.size)
  have HB2 := Lib.hid (hb1.trans (hB2.mono hb1.size))
  have HC2 := Lib.hid (HC'.out.under HB2.out)
  have HW2 := Lib.hid hW2
  clear hW2 hB2 hoa hI1 hb1 HC
  go_wp2_with fail
  rw [← HW2.out]
  refine (drawEval_any A' b' off' n' cap' _ HC2.out).mono ?_
  rintro e' w3 ⟨c, c0, c1, c2, zs', Av', bv', ov', cv', rfl, hoc, hdc, _, _, hb3⟩
  obtain ⟨j0, j1, ja, jl, jc, rfl, rfl, rfl⟩ := hoc.form
  obtain ⟨W4, hW4⟩ : ∃ W4, W4 = w3.alloc (.cells #[.int .i64 j0, .int .i64 j1, .slice ja jl jc] 25) := ⟨_, rfl⟩
  have hB4 : Below w3.heap.size w3 W4 := by rw [hW4]; exact (Below.refl _ _).alloc (Nat.le_refl _) _
  have hB24 : Below W2.heap.size W2 W4 := hb3.trans (hB4.mono hb3.size)
  have HRc4 : Hid (Row W4 w3.heap.size 25 #[.int .i64 j0, .int .i64 j1, .slice ja jl jc]) := by rw [hW4]; exact Row.new _ _ _
  have HRa4 := Lib.hid (HRa2.out.under hB24 HRa2.out.lt)
  have HLa4 := Lib.hid (below_more HLa2.out hB24 hB24.size)
  have HLc4 := Lib.hid (below_more hoc.lies hB4 hB4.size)
  have HI4 := Lib.hid (HI2.out.under hB24 hB24.size)
  have HB4 := Lib.hid (HB2.out.trans (hB24.mono HB2.out.size))
  have hra3 := HRa2.out.under hb3 HRa2.out.lt
  have p0 : w3.cell? ⟨w1.heap.size, 0, none⟩ = some (.int .i64 i0) := hra3.cell 0
  have p1 : w3.cell? ⟨w1.heap.size, 1, none⟩ = some (.int .i64 i1) := hra3.cell 1
  have p2 : w3.cell? ⟨w1.heap.size, 2, none⟩ = some (.slice ia il ic) := hra3.cell 2
  have h13 : w1.heap.size < w3.heap.size := hra3.lt
  have HW4 := Lib.hid hW4
  clear hW4 hB4 hoc hb3 hB24 hra3 HRa2 HLa2 HI2 HB2 HC2 HW2
  obtain ⟨x, hx⟩ : ∃ x, x = evalOut a zs := ⟨_, rfl⟩
  obtain ⟨pk, hpk⟩ : ∃ pk, pk = evalOk a zs := ⟨_, rfl⟩
  have HX := Lib.hid hx
  have HPk := Lib.hid hpk
  clear hx hpk
  go_wp2_with fail
  rw [← HW4.out]
  have hzm : zs.length ≤ maxLen := by unfold maxLen; omega
  have HZm := Lib.hid hzm
  clear hzm
  -- the program's answer at a
  refine (implEval_any a zs _ _ _ Av bv ov cv _ HLa4.out (by omega) HZm.out HI4.out).mono ?_
  rintro e' w5 ⟨rfl, hb5⟩
  rw [← HX.out, ← HPk.out]
  have hra := HRa4.out.under hb5 HRa4.out.lt
  have q0 : w5.cell? ⟨w1.heap.size, 0, none⟩ = some (.int .i64 i0) := hra.cell 0
  have q1 : w5.cell? ⟨w1.heap.size, 1, none⟩ = some (.int .i64 i1) := hra.cell 1
  have q2 : w5.cell? ⟨w1.heap.size, 2, none⟩ = some (.slice ia il ic) := hra.cell 2
  have HRa5 := Lib.hid hra
  have HRc5 := Lib.hid (HRc4.out.under hb5 HRc4.out.lt)
  have HLa5 := Lib.hid (below_more HLa4.out hb5 hb5.size)
  have HLc5 := Lib.hid (below_more HLc4.out hb5 hb5.size)
  have HI5 := Lib.hid (HI4.out.under hb5 hb5.size)
  have HB5 := Lib.hid (HB4.out.trans (hb5.mono HB4.out.size))
  clear hb5 hra HRa4 HRc4 HLa4 HLc4 HI4 HB4 p0 p1 p2 HW4
  go_wp2_with fail
  -- the model's answer at a
  refine (specEval_any a zs _ _ _ Av bv ov cv _ HLa5.out (by omega) HZm.out HI5.out).mono ?_
  rintro e' w6 ⟨rfl, hb6⟩
  rw [← HX.out, ← HPk.out]
  have hra := HRa5.out.under hb6 HRa5.out.lt
  have hrc := HRc5.out.under hb6 HRc5.out.lt
  have q0 : w6.cell? ⟨w1.heap.size, 0, none⟩ = some (.int .i64 i0) := hra.cell 0
  have q1 : w6.cell? ⟨w1.heap.size, 1, none⟩ = some (.int .i64 i1) := hra.cell 1
  have q2 : w6.cell? ⟨w1.heap.size, 2, none⟩ = some (.slice ia il ic) := hra.cell 2
  have r0 : w6.cell? ⟨w3.heap.size, 0, none⟩ = some (.int .i64 j0) := hrc.cell 0
  have r1 : w6.cell? ⟨w3.heap.size, 1, none⟩ = some (.int .i64 j1) := hrc.cell 1
  have r2 : w6.cell? ⟨w3.heap.size, 2, none⟩ = some (.slice ja jl jc) := hrc.cell 2
  have h36 : w3.heap.size < w6.heap.size := hrc.lt
  have HLa6 := Lib.hid (below_more HLa5.out hb6 hb6.size)
  have HLc6 := Lib.hid (below_more HLc5.out hb6 hb6.size)
  have HI6 := Lib.hid (HI5.out.under hb6 hb6.size)
  have HB6 := Lib.hid (HB5.out.trans (hb6.mono HB5.out.size))
  clear hb6 hra hrc HRa5 HRc5 HLa5 HLc5 HI5 HB5
  obtain ⟨W9, hW9⟩ : ∃ W9, W9 = ((w6.alloc (.cells #[.int .i64 i0, .int .i64 i1, .slice ia il ic, .int .i64 j0, .int .i64 j1, .slice ja jl jc] 25)).alloc (.cells #[.int .i64 8, .int .i64 0, .slice (some ⟨w6.heap.size, 0, none⟩) 2 2] 25)).alloc (.cells #[.int .i64 8, .int .i64 0, .slice (some ⟨w6.heap.size, 0, none⟩) 2 2, .int .i64 j0, .int .i64 j1, .slice ja jl jc] 25) := ⟨_, rfl⟩
  have hb9 : Below w6.heap.size w6 W9 := by rw [hW9]; exact (((Below.refl _ _).alloc (Nat.le_refl _) _).alloc (by simp) _).alloc (by simp; omega) _
  have hz9 : W9.heap.size = w6.heap.size + 3 := by rw [hW9]; simp
  have hr9 : Row W9 w6.heap.size 25 #[.int .i64 i0, .int .i64 i1, .slice ia il ic, .int .i64 j0, .int .i64 j1, .slice ja jl jc] := by
    rw [hW9]
    refine (Row.new w6 25 _).under (B := w6.heap.size + 1) ?_ (Nat.lt_succ_self _)
    exact ((Below.refl _ _).alloc (by simp) _).alloc (by simp) _
  have hr9' : Row W9 (w6.heap.size + 1 + 1) 25 #[.int .i64 8, .int .i64 0, .slice (some ⟨w6.heap.size, 0, none⟩) 2 2, .int .i64 j0, .int .i64 j1, .slice ja jl jc] := by
    rw [hW9]
    have h := Row.new ((w6.alloc (.cells #[.int .i64 i0, .int .i64 i1, .slice ia il ic, .int .i64 j0, .int .i64 j1, .slice ja jl jc] 25)).alloc (.cells #[.int .i64 8, .int .i64 0, .slice (some ⟨w6.heap.size, 0, none⟩) 2 2] 25)) 25 #[.int .i64 8, .int .i64 0, .slice (some ⟨w6.heap.size, 0, none⟩) 2 2, .int .i64 j0, .int .i64 j1, .slice ja jl jc]
    rw [show ((w6.alloc (.cells #[.int .i64 i0, .int .i64 i1, .slice ia il ic, .int .i64 j0, .int .i64 j1, .slice ja jl jc] 25)).alloc (.cells #[.int .i64 8, .int .i64 0, .slice (some ⟨w6.heap.size, 0, none⟩) 2 2] 25)).heap.size = w6.heap.size + 1 + 1 by simp] at h
    exact h
  have hla9 := below_more HLa6.out hb9 hb9.size
  have hlc9 := below_more HLc6.out hb9 hb9.size
  have hsum := lies_pair (cap := 2) hla9 hlc9 hr9 hr9.lt 8 0
  have HSub := Lib.hid (lies_pair (cap := 2) hsum hlc9 hr9' hr9'.lt 9 0)
  have HI9 := Lib.hid (HI6.out.under hb9 hb9.size)
  have HB9 := Lib.hid (HB6.out.trans (hb9.mono HB6.out.size))
  have HW9 := Lib.hid hW9
  clear hW9 hb9 hz9 hr9 hr9' hla9 hlc9 hsum HB6 HI6
  obtain ⟨y, hy⟩ : ∃ y, y = evalOut (.node 9 0 [.node 8 0 [a, c], c]) zs := ⟨_, rfl⟩
  obtain ⟨qk, hqk⟩ : ∃ qk, qk = evalOk (.node 9 0 [.node 8 0 [a, c], c]) zs := ⟨_, rfl⟩
  have hxy : pk = true → qk = true → x = y := fun h1 h2 => by
    rw [HX.out, hy]
    exact (inverse_out (by rw [← HPk.out]; exact h1) (by rw [← hqk]; exact h2)).symm
  have HXY := Lib.hid hxy
  have HY := Lib.hid hy
  have HQ := Lib.hid hqk
  clear hy hqk hxy
  go_wp2_with fail
  rw [← HW9.out]
  refine (implEval_any (.node 9 0 [.node 8 0 [a, c], c]) zs _ _ _ Av bv ov cv _ HSub.out (by simp only [desc, descL]; omega) HZm.out HI9.out).mono ?_
  rintro e' w10 ⟨rfl, hb10⟩
  rw [← HY.out, ← HQ.out]
  have HB10 := Lib.hid (HB9.out.trans (hb10.mono HB9.out.size))
  clear hb10 HB9 HI9 HSub HW9
  cases pk
  · go_wp2_with fail
    go_ret
    exact ⟨ret_bool (by simp), HB10.out⟩
  · cases qk
    · go_wp2_with fail
      go_ret
      exact ⟨ret_bool (by simp), HB10.out⟩
    · have hxy := HXY.out rfl rfl
      subst hxy
      go_wp2_with fail
      go_ret
      exact ⟨ret_bool (by simp), HB10.out⟩

end Go.Proofs.Ytkcgjgdcmdjcfaa

/- Joined texts: XnE, XvE, W8, LbV. Nothing is assumed. -/
import Derived.Test.YtldnegacgjijlaaXcEQ
import Derived.Test.YtldnegacgjijlaaJ05
import Derived.Test.YtldnegacgjijlaaW7Q
import Derived.Test.YtldnegacgjijlaaJ08
import Derived.Deep.RegionHeld3
import Derived.Test.YtldnegacgjijlaaJ06
namespace Go.Proofs.Ytldnegacgjijlaa
open Go.RowKit

set_option maxHeartbeats 400000 in
set_option maxRecDepth 100000 in
theorem implXn_any (e : Ex) (c0 c1 c2 : Value) (w : World) (hL : Lies w w.heap.size e c0 c1 c2) (hd : desc e ≤ 1048576) :
    Calls Try.prog 144 #[.agg #[c0, c1, c2]] w fun e' w' => e' = .returned (.int .i64 (xNodes e)) ∧ Below w.heap.size w w' := by
  obtain ⟨n0, n1, a2, l2, cp2, rfl, rfl, rfl⟩ := hL.form
  obtain ⟨W1, hW1⟩ : ∃ W1, W1 = w.alloc (.cells #[.int .i64 n0, .int .i64 n1, .slice a2 l2 cp2] 99) := ⟨_, rfl⟩
  have hb0 : Below w.heap.size w W1 := by rw [hW1]; exact (Below.refl _ _).alloc (Nat.le_refl _) _
  have HW1 := Lib.hid hW1
  have HL := Lib.hid (below_more hL hb0 hb0.size)
  have HB0 := Lib.hid hb0
  clear hL hW1 hb0
  obtain ⟨sb, hsb⟩ : ∃ sb, sb = shape 6 e := ⟨_, rfl⟩
  obtain ⟨c, hc⟩ : ∃ c, c = cnt 6 e := ⟨_, rfl⟩
  have HSB := Lib.hid hsb
  have HC := Lib.hid hc
  clear hsb hc
  cases sb
  all_goals
    (go_enter Try.func144, Try.ntmps144
     go_wp2_with fail
     rw [← HW1.out]
     refine (xc_any e 6 _ _ _ _ HL.out hd (by omega) (by omega)).mono ?_
     rintro e' w1 ⟨rfl, hb1⟩
     have HB1 : Hid (Below w.heap.size w w1) := HB0.out.trans (hb1.mono HB0.out.size)
     clear hb1)
  · rw [show (6 : Int).toNat = 6 from rfl, ← HSB.out]
    go_wp2_with fail
    go_ret
    exact ⟨ret_int (by unfold xNodes valid; rw [← HSB.out]; rfl), HB1.out⟩
  · rw [show (6 : Int).toNat = 6 from rfl, ← HSB.out, xcOut_true HSB.out.symm, ← HC.out]
    by_cases h15 : c ≤ 15
    · go_wp2_with fail
      go_ret
      exact ⟨ret_int (by unfold xNodes valid; rw [← HSB.out, ← HC.out, decide_eq_true h15]; rfl), HB1.out⟩
    · go_wp2_with fail
      go_ret
      exact ⟨ret_int (by unfold xNodes valid; rw [← HSB.out, ← HC.out, decide_eq_false h15]; rfl), HB1.out⟩

end Go.Proofs.Ytldnegacgjijlaa
namespace Go.Proofs.Ytldnegacgjijlaa
open Go.RowKit

set_option maxHeartbeats 400000 in
set_option maxRecDepth 100000 in
theorem implXv_any (e : Ex) (c0 c1 c2 : Value) (w : World) (hL : Lies w w.heap.size e c0 c1 c2) (hd : desc e ≤ 1048576) :
    Calls Try.prog 121 #[.agg #[c0, c1, c2]] w fun e' w' => e' = .returned (.bool (valid e)) ∧ Below w.heap.size w w' := by
  obtain ⟨n0, n1, a2, l2, cp2, rfl, rfl, rfl⟩ := hL.form
  obtain ⟨W1, hW1⟩ : ∃ W1, W1 = w.alloc (.cells #[.int .i64 n0, .int .i64 n1, .slice a2 l2 cp2] 99) := ⟨_, rfl⟩
  have hb0 : Below w.heap.size w W1 := by rw [hW1]; exact (Below.refl _ _).alloc (Nat.le_refl _) _
  have HW1 := Lib.hid hW1
  have HL := Lib.hid (below_more hL hb0 hb0.size)
  have HB0 := Lib.hid hb0
  clear hL hW1 hb0
  obtain ⟨z, hz⟩ : ∃ z, z = xNodes e := ⟨_, rfl⟩
  have HZ := Lib.hid hz
  clear hz
  go_enter Try.func121, Try.ntmps121
  go_wp2_with fail
  rw [← HW1.out]
  refine (implXn_any e _ _ _ _ HL.out hd).mono ?_
  rintro e' w1 ⟨rfl, hb1⟩
  rw [← HZ.out]
  have HB1 : Hid (Below w.heap.size w w1) := HB0.out.trans (hb1.mono HB0.out.size)
  clear hb1
  have HV : Hid (decide (0 < z) = valid e) := by show _ = _; rw [HZ.out]; exact xNodes_pos
  by_cases hp : 0 < z
  · have HT : Hid (valid e = true) := by show _ = _; rw [← HV.out, decide_eq_true hp]
    go_wp2_with fail
    go_ret
    exact ⟨ret_bool HT.out.symm, HB1.out⟩
  · have HT : Hid (valid e = false) := by show _ = _; rw [← HV.out, decide_eq_false hp]
    go_wp2_with fail
    go_ret
    exact ⟨ret_bool (by rw [HT.out]; simp; omega), HB1.out⟩

end Go.Proofs.Ytldnegacgjijlaa
namespace Go.Proofs.Ytldnegacgjijlaa
open Go.RowKit

theorem implValid_any (e : Ex) (c0 c1 c2 : Value) (w : World) (hL : Lies w w.heap.size e c0 c1 c2) (hd : desc e ≤ 1048576) :
    Calls Try.prog 121 #[.agg #[c0, c1, c2]] w fun e' w' => e' = .returned (.bool (valid e)) ∧ Below w.heap.size w w' := implXv_any e c0 c1 c2 w hL hd

end Go.Proofs.Ytldnegacgjijlaa
namespace Go.Proofs.Ytldnegacgjijlaa
open Go.RowKit

def labsOk (xs : List Ex) : Bool := xs.all valid && decide (xs.length = 3)

set_option maxHeartbeats 400000 in
set_option maxRecDepth 100000 in
theorem specLb_any (xs : List Ex) (C : Nat → Value) (w : World) (hL : Lay.exs.lies w w.heap.size xs C) (hd : Lay.exs.sz xs ≤ 1048576) :
    Calls Try.prog 76 #[C 0] w fun e' w' => e' = .returned (.bool (labsOk xs)) ∧ Below w.heap.size w w' := by
  obtain ⟨A, cap, b, off, C0, C1, C2, e0, hl, hO⟩ := exs_lies hL
  rw [exs_sz] at hd
  rw [e0]
  unfold maxLen at hl
  have HO := Lib.hid hO
  have HD := Lib.hid hd
  clear hO hd hL e0
  go_enter Try.func76, Try.ntmps76
  go_wp2_with fail
  go_loopw [3] (fun i wl => ∃ j : Nat, j ≤ xs.length ∧ i = .int .i64 j ∧ Hid ((xs.take j).all valid = true) ∧ Hid (Below w.heap.size w wl)) (fun i _ => xs.length - (intOf i).toNat)
  case atStart => exact ⟨0, Nat.zero_le _, rfl, rfl, Below.refl _ _⟩
  case round =>
    obtain ⟨j, hj, rfl, HT, HB⟩ := hrel
    by_cases hlt : j < xs.length
    · obtain ⟨x, hx⟩ : ∃ x, xs[j]? = some x := ⟨_, List.getElem?_eq_getElem hlt⟩
      obtain ⟨rfl, hb, g0, g1, g2, gl⟩ := HO.out.below HB.out j x hx
      have hbs : b < wr.heap.size := Nat.lt_of_lt_of_le hb HB.out.size
      have HX : Hid (desc x ≤ 1048576) := by have := descL_mem (List.mem_of_getElem? hx); have := HD.out; show _ ≤ _; omega
      have HTs := Lib.hid (alls_take_succ (f := valid) hx)
      have HFx : Hid (valid x = false → labsOk xs = false) := fun h => by unfold labsOk; rw [alls_false hx h]; rfl
      have HG := Lib.hid (gl.more HB.out.size)
      obtain ⟨v, hv⟩ : ∃ v, v = valid x := ⟨_, rfl⟩
      have HV := Lib.hid hv
      clear hx hv gl
      cases v
      · go_wp2_with fail
        refine (specValid_any x _ _ _ _ HG.out HX.out).mono ?_
        rintro e' w1 ⟨rfl, hb1⟩
        rw [← HV.out]
        have HB1 : Hid (Below w.heap.size w w1) := HB.out.trans (hb1.mono HB.out.size)
        clear hb1
        go_wp2_with fail
        go_ret
        exact ⟨ret_bool (HFx.out HV.out.symm).symm, HB1.out⟩
      · go_wp2_with fail
        refine (specValid_any x _ _ _ _ HG.out HX.out).mono ?_
        rintro e' w1 ⟨rfl, hb1⟩
        rw [← HV.out]
        have HB1 : Hid (Below w.heap.size w w1) := HB.out.trans (hb1.mono HB.out.size)
        clear hb1
        go_wp2_with fail
        go_roundw
        case rel => exact ⟨j + 1, by omega, by go_num, (by show _ = _; rw [HTs.out, HT.out, ← HV.out]; rfl), HB1⟩
        case measure => simp [intOf]; omega
    · have hjj : j = xs.length := by omega
      subst hjj
      have HF : Hid (labsOk xs = decide (xs.length = 3)) := by have := HT.out; rw [List.take_length] at this; show _ = _; unfold labsOk; rw [this, Bool.true_and]
      go_wp2_with fail
      all_goals go_ret
      all_goals exact ⟨ret_bool (by rw [HF.out, Bool.eq_iff_iff]; simp; omega), HB.out⟩

set_option maxHeartbeats 400000 in
set_option maxRecDepth 100000 in
theorem implLb_any (xs : List Ex) (C : Nat → Value) (w : World) (hL : Lay.exs.lies w w.heap.size xs C) (hd : Lay.exs.sz xs ≤ 1048576) :
    Calls Try.prog 82 #[C 0] w fun e' w' => e' = .returned (.bool (labsOk xs)) ∧ Below w.heap.size w w' := by
  obtain ⟨A, cap, b, off, C0, C1, C2, e0, hl, hO⟩ := exs_lies hL
  rw [exs_sz] at hd
  rw [e0]
  unfold maxLen at hl
  have HO := Lib.hid hO
  have HD := Lib.hid hd
  clear hO hd hL e0
  by_cases hn3 : xs.length = 3
  case neg =>
    have hlenJ : ((xs.length : Int) != 3) = true := by simp; omega
    go_enter Try.func82, Try.ntmps82
    go_wp2_with fail
    go_ret
    exact ⟨ret_bool (by unfold labsOk; rw [decide_eq_false hn3, Bool.and_false]), Below.refl _ _⟩
  go_enter Try.func82, Try.ntmps82
  have hlenK : ((xs.length : Int) != 3) = false := by rw [hn3]; rfl
  have HN3 := Lib.hid hn3
  clear hn3
  go_wp2_with fail
  go_loopw [10] (fun i wl => ∃ j : Nat, j ≤ xs.length ∧ i = .int .i64 j ∧ Hid ((xs.take j).all valid = true) ∧ Hid (Below w.heap.size w wl)) (fun i _ => xs.length - (intOf i).toNat)
  case atStart => exact ⟨0, Nat.zero_le _, rfl, rfl, Below.refl _ _⟩
  case round =>
    obtain ⟨j, hj, rfl, HT, HB⟩ := hrel
    by_cases hlt : j < xs.length
    · obtain ⟨x, hx⟩ : ∃ x, xs[j]? = some x := ⟨_, List.getElem?_eq_getElem hlt⟩
      obtain ⟨rfl, hb, g0, g1, g2, gl⟩ := HO.out.below HB.out j x hx
      have hbs : b < wr.heap.size := Nat.lt_of_lt_of_le hb HB.out.size
      have HX : Hid (desc x ≤ 1048576) := by have := descL_mem (List.mem_of_getElem? hx); have := HD.out; show _ ≤ _; omega
      have HTs := Lib.hid (alls_take_succ (f := valid) hx)
      have HFx : Hid (valid x = false → labsOk xs = false) := fun h => by unfold labsOk; rw [alls_false hx h]; rfl
      skip
      obtain ⟨v, hv⟩ : ∃ v, v = valid x := ⟨_, rfl⟩
      have HV := Lib.hid hv
      clear hx hv
      cases v
      · obtain ⟨n0, n1, a2, l2, cp2, k0, k1, k2⟩ := gl.form
        rw [k0] at g0
        rw [k1] at g1
        rw [k2] at g2
        rw [k0, k1, k2] at gl
        obtain ⟨W2, hW2⟩ : ∃ W2, W2 = wr.alloc (.cells #[.int .i64 n0, .int .i64 n1, .slice a2 l2 cp2] 99) := ⟨_, rfl⟩
        have hb2 : Below wr.heap.size wr W2 := by rw [hW2]; exact (Below.refl _ _).alloc (Nat.le_refl _) _
        have HG2 := Lib.hid ((gl.more HB.out.size).keep hb2.size fun p hp => hb2.cell hp)
        have HBw : Hid (Below w.heap.size w W2) := HB.out.trans (hb2.mono HB.out.size)
        have HW2 := Lib.hid hW2
        clear gl hW2 hb2
        go_wp2_with fail
        rw [← HW2.out]
        refine (implValid_any x _ _ _ _ HG2.out HX.out).mono ?_
        rintro e' w1 ⟨rfl, hb1⟩
        rw [← HV.out]
        have HB1 : Hid (Below w.heap.size w w1) := HBw.out.trans (hb1.mono HBw.out.size)
        clear hb1
        go_wp2_with fail
        go_ret
        exact ⟨ret_bool (HFx.out HV.out.symm).symm, HB1.out⟩
      · obtain ⟨n0, n1, a2, l2, cp2, k0, k1, k2⟩ := gl.form
        rw [k0] at g0
        rw [k1] at g1
        rw [k2] at g2
        rw [k0, k1, k2] at gl
        obtain ⟨W2, hW2⟩ : ∃ W2, W2 = wr.alloc (.cells #[.int .i64 n0, .int .i64 n1, .slice a2 l2 cp2] 99) := ⟨_, rfl⟩
        have hb2 : Below wr.heap.size wr W2 := by rw [hW2]; exact (Below.refl _ _).alloc (Nat.le_refl _) _
        have HG2 := Lib.hid ((gl.more HB.out.size).keep hb2.size fun p hp => hb2.cell hp)
        have HBw : Hid (Below w.heap.size w W2) := HB.out.trans (hb2.mono HB.out.size)
        have HW2 := Lib.hid hW2
        clear gl hW2 hb2
        go_wp2_with fail
        rw [← HW2.out]
        refine (implValid_any x _ _ _ _ HG2.out HX.out).mono ?_
        rintro e' w1 ⟨rfl, hb1⟩
        rw [← HV.out]
        have HB1 : Hid (Below w.heap.size w w1) := HBw.out.trans (hb1.mono HBw.out.size)
        clear hb1
        go_wp2_with fail
        go_roundw
        case rel => exact ⟨j + 1, by omega, by go_num, (by show _ = _; rw [HTs.out, HT.out, ← HV.out]; rfl), HB1⟩
        case measure => simp [intOf]; omega
    · have hjj : j = xs.length := by omega
      subst hjj
      have HF : Hid (labsOk xs = true) := by have := HT.out; rw [List.take_length] at this; show _ = _; unfold labsOk; rw [this, decide_eq_true HN3.out]; rfl
      go_wp2_with fail
      go_ret
      exact ⟨ret_bool HF.out.symm, HB.out⟩

end Go.Proofs.Ytldnegacgjijlaa

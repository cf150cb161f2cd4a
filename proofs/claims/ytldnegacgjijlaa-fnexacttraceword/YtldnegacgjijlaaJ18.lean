/- Joined texts: E7, LeI. Nothing is assumed. -/
import Derived.Test.YtldnegacgjijlaaE6Q
import Derived.Test.YtldnegacgjijlaaJ11
import Derived.Test.YtldnegacgjijlaaJ02
namespace Go.Proofs.Ytldnegacgjijlaa
open Go.RowKit

set_option maxHeartbeats 400000 in
set_option maxRecDepth 100000 in
theorem ret_two {k : IntKind} {a b : Int} {c d : Bool} (h : a = b) (h2 : c = d) : Ending.returned (.tuple #[.int k a, .bool c]) = .returned (.tuple #[.int k b, .bool d]) := by rw [h, h2]
set_option maxHeartbeats 400000 in
set_option maxRecDepth 100000 in
theorem implEval_any (e : Ex) (zs : List Int) (c0 c1 c2 : Value) (A : Option Addr) (b off cap : Nat) (w : World) (hL : Lies w w.heap.size e c0 c1 c2) (hd : desc e ≤ 1048576) (hl : zs.length ≤ maxLen) (hI : Ints w w.heap.size A b off zs) :
    Calls Try.prog 122 #[.agg #[c0, c1, c2], .slice A zs.length cap] w fun e' w' => e' = .returned (.tuple #[.int .i64 (evalOut e zs), .bool (evalOk e zs)]) ∧ Below w.heap.size w w' := by
  obtain ⟨n0, n1, a2, l2, cp2, rfl, rfl, rfl⟩ := hL.form
  obtain ⟨W1, hW1⟩ : ∃ W1, W1 = w.alloc (.cells #[.int .i64 n0, .int .i64 n1, .slice a2 l2 cp2] 99) := ⟨_, rfl⟩
  have hb0 : Below w.heap.size w W1 := by rw [hW1]; exact (Below.refl _ _).alloc (Nat.le_refl _) _
  have HR : Hid (Row W1 w.heap.size 99 #[.int .i64 n0, .int .i64 n1, .slice a2 l2 cp2]) := by rw [hW1]; exact Row.new _ _ _
  have HW1 := Lib.hid hW1
  have HL := Lib.hid (below_more hL hb0 hb0.size)
  have HI := Lib.hid (hI.under hb0 hb0.size)
  have HB0 := Lib.hid hb0
  have HLn := Lib.hid hl
  clear hL hW1 hb0 hI hl
  obtain ⟨vb, hvb⟩ : ∃ vb, vb = valid e := ⟨_, rfl⟩
  have HV := Lib.hid hvb
  obtain ⟨zb, hzb⟩ : ∃ zb, zb = valsOk zs := ⟨_, rfl⟩
  have HZ := Lib.hid hzb
  clear hvb hzb
  cases vb
  · have HN : Hid (evalOk e zs = false) := by show _ = _; unfold evalOk; rw [← HV.out]; rfl
    go_enter Try.func122, Try.ntmps122
    go_wp2_with fail
    rw [← HW1.out]
    refine (implValid_any e _ _ _ _ HL.out hd).mono ?_
    rintro e' w1 ⟨rfl, hb1⟩
    rw [← HV.out]
    have HB1 := Lib.hid (HB0.out.trans (hb1.mono HB0.out.size))
    clear hb1
    go_wp2_with fail
    go_ret2
    exact ⟨ret_two (by unfold evalOut; rw [HN.out]; rfl) HN.out.symm, HB1.out⟩
  · go_enter Try.func122, Try.ntmps122
    go_wp2_with fail
    rw [← HW1.out]
    refine (implValid_any e _ _ _ _ HL.out hd).mono ?_
    rintro e' w1 ⟨rfl, hb1⟩
    rw [← HV.out]
    have hr1 := HR.out.under hb1 HR.out.lt
    have q0 : w1.cell? ⟨w.heap.size, 0, none⟩ = some _ := hr1.cell 0
    have q1 : w1.cell? ⟨w.heap.size, 1, none⟩ = some _ := hr1.cell 1
    have q2 : w1.cell? ⟨w.heap.size, 2, none⟩ = some _ := hr1.cell 2
    have HL1 := Lib.hid (below_more HL.out hb1 hb1.size)
    have HI1 := Lib.hid (HI.out.under hb1 hb1.size)
    have HB1 := Lib.hid (HB0.out.trans (hb1.mono HB0.out.size))
    clear hb1 hr1
    go_wp2_with fail
    refine (implVals_any zs A cap b off _ HLn.out HI1.out).mono ?_
    rintro e' w2 ⟨rfl, rfl⟩
    rw [← HZ.out]
    cases zb
    · have HN : Hid (evalOk e zs = false) := by show _ = _; unfold evalOk; rw [← HZ.out]; simp
      go_wp2_with fail
      go_ret2
      exact ⟨ret_two (by unfold evalOut; rw [HN.out]; rfl) HN.out.symm, HB1.out⟩
    · have HN : Hid (evalOk e zs = true) := by show _ = _; unfold evalOk; rw [← HZ.out, ← HV.out]; rfl
      have HVs := Lib.hid (vals_of HZ.out HI1.out)
      go_wp2_with fail
      refine (fold_any zs HVs.out.range 6 e _ _ _ _ (shape_of_valid HV.out) HL1.out).mono ?_
      rintro e' w3 ⟨nv, rfl, hn, hb3⟩
      obtain ⟨T, x, f, rfl, hm, hc, he⟩ := hn
      have HM := Lib.hid hm
      have HC := Lib.hid hc
      have HE := Lib.hid he
      have HB3 := Lib.hid (HB1.out.trans (hb3.mono HB1.out.size))
      have HV3 := Lib.hid (HVs.out.under hb3)
      clear hb3 hm hc he
      go_wp2_with fail
      rw [upon_method _ HM.out]
      rotate_left
      · kernel_rfl
      go_wp2_with fail
      rw [HC.out]
      go_wp2_with fail
      rw [HVs.out.len]
      refine (Ev.call HE.out A b off cap _ HV3.out).mono ?_
      rintro e' w4 ⟨rfl, hb4⟩
      have HB4 := Lib.hid (HB3.out.trans (hb4.mono HB3.out.size))
      clear hb4
      go_wp2_with fail
      go_ret2
      exact ⟨ret_two (by unfold evalOut; rw [HN.out]; rfl) HN.out.symm, HB4.out⟩

end Go.Proofs.Ytldnegacgjijlaa
namespace Go.Proofs.Ytldnegacgjijlaa
open Go.RowKit

set_option maxHeartbeats 400000 in
theorem withA_any (L j : Nat) (w : World) (hL : L < 8) (hj : j < 3) :
    Calls Try.prog 123 #[.int .i64 L, .int .i64 j] w fun e' w' => e' = .returned (.int .i64 ((L ||| 2 ^ j : Nat) : Int)) ∧ w = w' := by
  have HOr := Lib.hid (or_small L hL j hj)
  have hj60 : j < 60 := by omega
  go_enter Try.func123, Try.ntmps123
  go_wp2_with fail
  go_ret
  exact ⟨ret_int HOr.out, rfl⟩

set_option maxHeartbeats 2000000 in
set_option maxRecDepth 100000 in
theorem implLet_any (s : St) (C : Nat → Value) (es : List Ex) (D : Nat → Value) (w : World) (hL : Lay.sta.lies w w.heap.size s C) (hM : Lay.exs.lies w w.heap.size es D) (hd : Lay.exs.sz es ≤ 1048576) (ho : labsOk es = true) (hv : valsOk s.vals = true) :
    Calls Try.prog 85 #[.agg #[C 0, C 1], D 0] w fun e' w' => e' = .returned (.int .i64 (letterN es s.vals : Nat)) ∧ Below w.heap.size w w' := by
  obtain ⟨W1, hW1⟩ : ∃ W1, W1 = w.alloc (.cells #[C 0, C 1] 136) := ⟨_, rfl⟩
  have hb0 : Below w.heap.size w W1 := by rw [hW1]; exact (Below.refl _ _).alloc (Nat.le_refl _) _
  have hra : Row W1 w.heap.size 136 #[C 0, C 1] := by rw [hW1]; exact Row.new _ _ _
  obtain ⟨locs, zs⟩ := s
  obtain ⟨⟨A4, cap4, b4, off4, D4, q4, hl4, hO4⟩, A5, cap5, b5, off5, D5, q5, hl5, hO5⟩ := sta_lies (Lay.sta.later hL hb0 hb0.size)
  have hV : Vals W1 A5 b5 off5 zs := vals_of hv.symm (ints_of hO5)
  dsimp only at hv ⊢
  rw [q4, q5, hV.len] at hra hW1
  rw [q4, q5, hV.len]
  obtain ⟨A, cap, b, off, D0, D1, D2, e0, hl, hO⟩ := exs_lies (Lay.exs.later hM hb0 hb0.size)
  rw [e0, labs_len ho]
  have HO := Lib.hid hO
  have HV := Lib.hid hV
  have HRa := Lib.hid hra
  have HB0 := Lib.hid hb0
  have HW1 := Lib.hid hW1
  have HN3 := Lib.hid (labs_len ho)
  have HOk := Lib.hid ho
  have HD := Lib.hid hd
  have hlt1 : w.heap.size < W1.heap.size := hra.lt
  have HVo := Lib.hid hv
  clear hL hM hb0 hra hW1 hO hV q4 q5 hl4 hl5 hO4 hO5 e0 hl ho hv hd
  go_enter Try.func85, Try.ntmps85
  go_wp2_with fail
  rw [← HW1.out]
  go_loopw [5, 12] (fun o i wl => ∃ j L : Nat, j ≤ 3 ∧ i = .int .i64 j ∧ o = .int .i64 L ∧ L < 8 ∧ Hid (L = bitsN (atB es zs) j) ∧ Hid (Below W1.heap.size W1 wl)) (fun _ i _ => 3 - (intOf i).toNat)
  case atStart => exact ⟨0, 0, by omega, rfl, rfl, by omega, rfl, Below.refl _ _⟩
  case round =>
    obtain ⟨j, L, hj, rfl, rfl, hL8, HLt, HB⟩ := hrel
    by_cases hlt : j < 3
    · obtain ⟨x, hx⟩ : ∃ x, es[j]? = some x := ⟨_, List.getElem?_eq_getElem (by rw [HN3.out]; exact hlt)⟩
      obtain ⟨rfl, hb, g0, g1, g2, gl⟩ := HO.out.below HB.out j x hx
      have hbs : b < wr.heap.size := Nat.lt_of_lt_of_le hb HB.out.size
      have hwr : w.heap.size < wr.heap.size := Nat.lt_of_lt_of_le hlt1 HB.out.size
      have hwx : valid x = true := labs_get HOk.out hx
      have hdx : desc x ≤ 1048576 := by have := descL_mem (List.mem_of_getElem? hx); have h2 := HD.out; rw [exs_sz] at h2; omega
      have HAt := Lib.hid (atB_get (zs := zs) hx)
      obtain ⟨n0, n1, a2, l2, cp2, k0, k1, k2⟩ := gl.form
      rw [k0] at g0
      rw [k1] at g1
      rw [k2] at g2
      rw [k0, k1, k2] at gl
      obtain ⟨W2, hW2⟩ : ∃ W2, W2 = wr.alloc (.cells #[.int .i64 n0, .int .i64 n1, .slice a2 l2 cp2] 99) := ⟨_, rfl⟩
      have hb2 : Below wr.heap.size wr W2 := by rw [hW2]; exact (Below.refl _ _).alloc (Nat.le_refl _) _
      have hG2 := (gl.more HB.out.size).keep hb2.size fun p hp => hb2.cell hp
      have HB2 : Hid (Below W1.heap.size W1 W2) := HB.out.trans (hb2.mono HB.out.size)
      have hE := implEval_any x zs _ _ _ A5 b5 off5 cap5 W2 hG2 hdx (by rw [HV.out.len]; unfold maxLen; omega) (HV.out.ints.under HB2.out HB2.out.size)
      rw [HV.out.len, show evalOk x zs = true by unfold evalOk; rw [hwx, HVo.out]; rfl, show evalOut x zs = ev zs 6 x by unfold evalOut evalOk; rw [hwx, HVo.out]; rfl] at hE
      obtain ⟨z, hz⟩ : ∃ z, z = ev zs 6 x := ⟨_, rfl⟩
      rw [← hz] at hE
      have HE := Lib.hid hE
      have HZ := Lib.hid hz
      have HW2 := Lib.hid hW2
      have HWi := Lib.hid (withA_any L j)
      obtain ⟨f0, f1⟩ := (HRa.out.under HB.out HRa.out.lt).two
      clear hx hz gl hW2 hb2 hG2 hE hwx hdx
      by_cases hz0 : z = 0
      · have hzB : (z != 0) = false := by simp [hz0]
        have HN : Hid (L = bitsN (atB es zs) (j + 1)) := by show _ = _; rw [bits_no (by rw [HAt.out, ← HZ.out, hz0]; rfl), ← HLt.out]
        clear hz0
        go_wp2_with fail
        rw [← HW2.out]
        refine HE.out.mono ?_
        rintro e' w2 ⟨rfl, hb2⟩
        have HB3 : Hid (Below W1.heap.size W1 w2) := HB2.out.trans (hb2.mono HB2.out.size)
        clear hb2 f0 f1 g0 g1 g2
        go_wp2_with fail
        go_roundw
        case rel => exact ⟨j + 1, L, by omega, by go_num, rfl, hL8, HN, HB3⟩
        case measure => simp [intOf]; omega
      · have hzB : (z != 0) = true := by simp [hz0]
        have HN : Hid (L ||| 2 ^ j = bitsN (atB es zs) (j + 1)) := by show _ = _; rw [bits_yes (by rw [HAt.out, ← HZ.out]; simp [hz0]), ← HLt.out]
        have hN8 : L ||| 2 ^ j < 8 := by rw [HN.out]; exact bits_lt8 (by omega)
        clear hz0
        go_wp2_with fail
        rw [← HW2.out]
        refine HE.out.mono ?_
        rintro e' w2 ⟨rfl, hb2⟩
        have HB3 : Hid (Below W1.heap.size W1 w2) := HB2.out.trans (hb2.mono HB2.out.size)
        clear hb2 f0 f1 g0 g1 g2
        go_wp2_with fail
        refine (HWi.out _ hL8 hlt).mono ?_
        rintro e' w3 ⟨rfl, rfl⟩
        go_wp2_with fail
        go_roundw
        case rel => exact ⟨j + 1, L ||| 2 ^ j, by omega, by go_num, rfl, hN8, HN, HB3⟩
        case measure => simp [intOf]; omega
    · have hjj : j = 3 := by omega
      subst hjj
      have HF : Hid (L = letterN es zs) := HLt.out
      go_wp2_with fail
      go_ret
      exact ⟨ret_int (by rw [HF.out]), HB0.out.trans (HB.out.mono HB0.out.size)⟩

end Go.Proofs.Ytldnegacgjijlaa

/- The walks of spec.LabelState and impl.LabelState. -/
import Derived.Test.YtnkicididcnkbaaLeS
import Derived.Test.YtnkicididcnkbaaLeI
namespace Go.Proofs.Ytnkicididcnkbaa
open Go.RowKit

def leOk (s : St) (es : List Ex) : Bool := labsOk es && valsOk s.vals
def leOut (s : St) (es : List Ex) : Int := if leOk s es then (letterN es s.vals : Nat) else 0

set_option maxHeartbeats 1000000 in
set_option maxRecDepth 100000 in
theorem specLe_any (s : St) (C : Nat → Value) (es : List Ex) (D : Nat → Value) (w : World) (hL : Lay.sta.lies w w.heap.size s C) (hM : Lay.exs.lies w w.heap.size es D) (_hd : Lay.sta.sz s ≤ 1048576) (hd' : Lay.exs.sz es ≤ 1048576) :
    Calls Try.prog 15 #[.agg #[C 0, C 1], D 0] w fun e' w' => e' = .returned (.tuple #[.int .i64 (leOut s es), .bool (leOk s es)]) ∧ Below w.heap.size w w' := by
  obtain ⟨W1, hW1⟩ : ∃ W1, W1 = w.alloc (.cells #[C 0, C 1] 35) := ⟨_, rfl⟩
  have hb0 : Below w.heap.size w W1 := by rw [hW1]; exact (Below.refl _ _).alloc (Nat.le_refl _) _
  have HRa : Hid (Row W1 w.heap.size 35 #[C 0, C 1]) := by rw [hW1]; exact Row.new _ _ _
  have HL := Lib.hid (Lay.sta.later hL hb0 hb0.size)
  have HM := Lib.hid (Lay.exs.later hM hb0 hb0.size)
  have HB0 := Lib.hid hb0
  have HW1 := Lib.hid hW1
  have HD' := Lib.hid hd'
  clear hL hM hb0 hW1 hd'
  obtain ⟨u, hu⟩ : ∃ u, u = labsOk es := ⟨_, rfl⟩
  have HU := Lib.hid hu
  obtain ⟨v, hv⟩ : ∃ v, v = valsOk s.vals := ⟨_, rfl⟩
  have HV := Lib.hid hv
  clear hu hv
  have HNo : Hid ((u && v) = false → ∀ W, Below W1.heap.size W1 W → Ending.returned (.tuple #[.int .i64 0, .bool false]) = .returned (.tuple #[.int .i64 (leOut s es), .bool (leOk s es)]) ∧ Below w.heap.size w W) := fun h W hb => by
    have h2 : leOk s es = false := by unfold leOk; rw [← HU.out, ← HV.out]; exact h
    exact ⟨by unfold leOut; rw [h2]; rfl, HB0.out.trans (hb.mono HB0.out.size)⟩
  go_enter Try.func15, Try.ntmps15
  go_wp2_with fail
  rw [← HW1.out]
  refine (specLb_any es D W1 HM.out HD'.out).mono ?_
  rintro e' w1 ⟨rfl, hb1⟩
  rw [← HU.out]
  have HB1 : Hid (Below W1.heap.size W1 w1) := hb1
  clear hb1
  cases u
  · go_wp2_with fail
    go_ret2
    exact HNo.out rfl _ HB1.out
  obtain ⟨⟨A4, cap4, b4, off4, D4, q4, hl4, hO4⟩, A5, cap5, b5, off5, D5, q5, hl5, hO5⟩ := sta_lies (Lay.sta.later HL.out HB1.out HB1.out.size)
  have hra := HRa.out.under HB1.out HRa.out.lt
  have hra' := hra
  rw [q5] at hra'
  have HI := Lib.hid (ints_of hO5)
  have HLv := Lib.hid hl5
  have HC5 := Lib.hid q5
  obtain ⟨g0, g1⟩ := hra'.two
  clear q4 hl4 hO4 q5 hl5 hO5 hra'
  cases v
  · go_wp2_with fail
    refine (specVals_any s.vals A5 cap5 b5 off5 w1 HLv.out HI.out).mono ?_
    rintro e' w2 ⟨rfl, rfl⟩
    rw [← HV.out]
    go_wp2_with fail
    go_ret2
    exact HNo.out rfl _ HB1.out
  · have HLt := Lib.hid (specLet_any s C es D w1 (Lay.sta.later HL.out HB1.out HB1.out.size) (Lay.exs.later HM.out HB1.out HB1.out.size) HD'.out HU.out.symm HV.out.symm)
    rw [HC5.out] at HLt
    have HYes : Hid (leOut s es = (letterN es s.vals : Nat) ∧ leOk s es = true) := by
      have h2 : leOk s es = true := by unfold leOk; rw [← HU.out, ← HV.out]; rfl
      exact ⟨by unfold leOut; rw [h2]; rfl, h2⟩
    obtain ⟨z, hz⟩ : ∃ z : Int, z = (letterN es s.vals : Nat) := ⟨_, rfl⟩
    rw [← hz] at HLt HYes
    clear hz hra
    go_wp2_with fail
    refine (specVals_any s.vals A5 cap5 b5 off5 w1 HLv.out HI.out).mono ?_
    rintro e' w2 ⟨rfl, rfl⟩
    rw [← HV.out]
    go_wp2_with fail
    refine HLt.out.mono ?_
    rintro e' w2 ⟨rfl, hb2⟩
    have HB2 : Hid (Below w.heap.size w w2) := HB0.out.trans ((HB1.out.trans (hb2.mono HB1.out.size)).mono HB0.out.size)
    clear hb2
    go_wp2_with fail
    go_ret2
    exact ⟨ret_two HYes.out.1.symm HYes.out.2.symm, HB2.out⟩

set_option maxHeartbeats 1000000 in
set_option maxRecDepth 100000 in
theorem implLe_any (s : St) (C : Nat → Value) (es : List Ex) (D : Nat → Value) (w : World) (hL : Lay.sta.lies w w.heap.size s C) (hM : Lay.exs.lies w w.heap.size es D) (_hd : Lay.sta.sz s ≤ 1048576) (hd' : Lay.exs.sz es ≤ 1048576) :
    Calls Try.prog 17 #[.agg #[C 0, C 1], D 0] w fun e' w' => e' = .returned (.tuple #[.int .i64 (leOut s es), .bool (leOk s es)]) ∧ Below w.heap.size w w' := by
  obtain ⟨W1, hW1⟩ : ∃ W1, W1 = w.alloc (.cells #[C 0, C 1] 35) := ⟨_, rfl⟩
  have hb0 : Below w.heap.size w W1 := by rw [hW1]; exact (Below.refl _ _).alloc (Nat.le_refl _) _
  have HRa : Hid (Row W1 w.heap.size 35 #[C 0, C 1]) := by rw [hW1]; exact Row.new _ _ _
  have HL := Lib.hid (Lay.sta.later hL hb0 hb0.size)
  have HM := Lib.hid (Lay.exs.later hM hb0 hb0.size)
  have HB0 := Lib.hid hb0
  have HW1 := Lib.hid hW1
  have HD' := Lib.hid hd'
  clear hL hM hb0 hW1 hd'
  obtain ⟨u, hu⟩ : ∃ u, u = labsOk es := ⟨_, rfl⟩
  have HU := Lib.hid hu
  obtain ⟨v, hv⟩ : ∃ v, v = valsOk s.vals := ⟨_, rfl⟩
  have HV := Lib.hid hv
  clear hu hv
  have HNo : Hid ((u && v) = false → ∀ W, Below W1.heap.size W1 W → Ending.returned (.tuple #[.int .i64 0, .bool false]) = .returned (.tuple #[.int .i64 (leOut s es), .bool (leOk s es)]) ∧ Below w.heap.size w W) := fun h W hb => by
    have h2 : leOk s es = false := by unfold leOk; rw [← HU.out, ← HV.out]; exact h
    exact ⟨by unfold leOut; rw [h2]; rfl, HB0.out.trans (hb.mono HB0.out.size)⟩
  go_enter Try.func17, Try.ntmps17
  go_wp2_with fail
  rw [← HW1.out]
  refine (implLb_any es D W1 HM.out HD'.out).mono ?_
  rintro e' w1 ⟨rfl, hb1⟩
  rw [← HU.out]
  have HB1 : Hid (Below W1.heap.size W1 w1) := hb1
  clear hb1
  cases u
  · go_wp2_with fail
    go_ret2
    exact HNo.out rfl _ HB1.out
  obtain ⟨⟨A4, cap4, b4, off4, D4, q4, hl4, hO4⟩, A5, cap5, b5, off5, D5, q5, hl5, hO5⟩ := sta_lies (Lay.sta.later HL.out HB1.out HB1.out.size)
  have hra := HRa.out.under HB1.out HRa.out.lt
  have hra' := hra
  rw [q5] at hra'
  have HI := Lib.hid (ints_of hO5)
  have HLv := Lib.hid hl5
  have HC5 := Lib.hid q5
  obtain ⟨g0, g1⟩ := hra'.two
  clear q4 hl4 hO4 q5 hl5 hO5 hra'
  cases v
  · go_wp2_with fail
    refine (implVals_any s.vals A5 cap5 b5 off5 w1 HLv.out HI.out).mono ?_
    rintro e' w2 ⟨rfl, rfl⟩
    rw [← HV.out]
    go_wp2_with fail
    go_ret2
    exact HNo.out rfl _ HB1.out
  · have HLt := Lib.hid (implLet_any s C es D w1 (Lay.sta.later HL.out HB1.out HB1.out.size) (Lay.exs.later HM.out HB1.out HB1.out.size) HD'.out HU.out.symm HV.out.symm)
    rw [HC5.out] at HLt
    have HYes : Hid (leOut s es = (letterN es s.vals : Nat) ∧ leOk s es = true) := by
      have h2 : leOk s es = true := by unfold leOk; rw [← HU.out, ← HV.out]; rfl
      exact ⟨by unfold leOut; rw [h2]; rfl, h2⟩
    obtain ⟨z, hz⟩ : ∃ z : Int, z = (letterN es s.vals : Nat) := ⟨_, rfl⟩
    rw [← hz] at HLt HYes
    clear hz hra
    go_wp2_with fail
    refine (implVals_any s.vals A5 cap5 b5 off5 w1 HLv.out HI.out).mono ?_
    rintro e' w2 ⟨rfl, rfl⟩
    rw [← HV.out]
    go_wp2_with fail
    refine HLt.out.mono ?_
    rintro e' w2 ⟨rfl, hb2⟩
    have HB2 : Hid (Below w.heap.size w w2) := HB0.out.trans ((HB1.out.trans (hb2.mono HB1.out.size)).mono HB0.out.size)
    clear hb2
    go_wp2_with fail
    go_ret2
    exact ⟨ret_two HYes.out.1.symm HYes.out.2.symm, HB2.out⟩

end Go.Proofs.Ytnkicididcnkbaa

/- The walks of spec.LetterAt and impl.LetterAt. -/
import Derived.Test.YtiaejomdkkhimaaLtW
import Derived.Deep.RegionWith
namespace Go.Proofs.Ytiaejomdkkhimaa
namespace La
open Go.RowKit

def Rng (i : Int) : Prop := -9223372036854775808 ≤ i ∧ i ≤ 9223372036854775807
/-- The letter at a position, and whether there is one. -/
def laHas (s : St) (i : Int) : Bool := laOk s && decide (0 ≤ i)
def laGet (s : St) (i : Int) : Int := if laHas s i then (s.locs ++ s.vals).getD (laIx s.locs.length s.vals.length i.toNat) 0 else 0
theorem laGet_no {s : St} {i : Int} (h : laOk s = false ∨ i < 0) : laGet s i = 0 ∧ laHas s i = false := by
  have h2 : laHas s i = false := by
    unfold laHas
    rcases h with h | h
    · rw [h]; rfl
    · rw [decide_eq_false (show ¬ 0 ≤ i by omega), Bool.and_false]
  exact ⟨by unfold laGet; rw [h2]; rfl, h2⟩
theorem laGet_yes {s : St} {k : Nat} (h : laOk s = true) : laGet s k = (s.locs ++ s.vals).getD (laIx s.locs.length s.vals.length k) 0 ∧ laHas s k = true := by
  have h2 : laHas s k = true := by
    unfold laHas
    rw [h, decide_eq_true (show (0 : Int) ≤ k by omega)]
    rfl
  exact ⟨by unfold laGet; rw [h2]; rfl, h2⟩

set_option maxHeartbeats 1000000 in
set_option maxRecDepth 100000 in
theorem specLt_any (e : St) (C : Nat → Value) (i : Int) (w : World) (hL : Lay.sta.lies w w.heap.size e C) (hd : Lay.sta.sz e ≤ 1048576) (HI : Hid (Rng i)) :
    Calls Try.prog 16 #[.agg #[C 0, C 1], .int .i64 i] w fun e' w' => e' = .returned (.tuple #[.int .i64 (laGet e i), .bool (laHas e i)]) ∧ Below w.heap.size w w' := by
  obtain ⟨W1, hW1⟩ : ∃ W1, W1 = w.alloc (.cells #[C 0, C 1] 27) := ⟨_, rfl⟩
  have hb0 : Below w.heap.size w W1 := by rw [hW1]; exact (Below.refl _ _).alloc (Nat.le_refl _) _
  have hra : Row W1 w.heap.size 27 #[C 0, C 1] := by rw [hW1]; exact Row.new _ _ _
  have HL1 := Lib.hid (Lay.sta.later hL hb0 hb0.size)
  have HW1 := Lib.hid hW1
  have HB0 := Lib.hid hb0
  have HRa := Lib.hid hra
  have HD := Lib.hid hd
  obtain ⟨vb, hvb⟩ : ∃ vb, vb = laOk e := ⟨_, rfl⟩
  have HVb := Lib.hid hvb
  have HNo : Hid (laOk e = false ∨ i < 0 → laGet e i = 0 ∧ laHas e i = false) := fun h => laGet_no h
  obtain ⟨g0, g1⟩ := hra.two
  clear hL hW1 hb0 hra hvb hd
  go_enter Try.func16, Try.ntmps16
  go_wp2_with fail
  rw [← HW1.out]
  refine (specLv_any e C W1 HL1.out HD.out).mono ?_
  rintro e' w1 ⟨rfl, hb1⟩
  rw [← HVb.out]
  have HB1 : Hid (Below w.heap.size w w1) := HB0.out.trans (hb1.mono HB0.out.size)
  have HL2 := Lib.hid (Lay.sta.later HL1.out hb1 hb1.size)
  have HR1 := Lib.hid (HRa.out.under hb1 HRa.out.lt)
  clear g0 g1
  obtain ⟨g0, g1⟩ := HR1.out.two
  clear hb1
  cases vb
  · obtain ⟨n1, n2⟩ := HNo.out (.inl HVb.out.symm)
    have HN := Lib.hid (And.intro n1 n2)
    clear n1 n2
    go_wp2_with fail
    go_ret2
    exact ⟨ret_two HN.out.1.symm HN.out.2.symm, HB1.out⟩
  by_cases hi : i < 0
  · obtain ⟨n1, n2⟩ := HNo.out (.inr hi)
    have HN := Lib.hid (And.intro n1 n2)
    clear n1 n2
    go_wp2_with fail
    go_ret2
    exact ⟨ret_two HN.out.1.symm HN.out.2.symm, HB1.out⟩
  obtain ⟨k, rfl⟩ : ∃ k : Nat, i = k := ⟨i.toNat, by omega⟩
  obtain ⟨p1, p2, p3, p4, p5⟩ := laOk_parts HVb.out.symm
  have HK : Hid (In63 (k : Int)) := ⟨by omega, HI.out.2⟩
  have hlt := laIx_lt (n := e.locs.length) (i := k) p4
  have HG : Hid (laGet e k = (e.locs ++ e.vals).getD (laIx e.locs.length e.vals.length k) 0 ∧ laHas e k = true) := laGet_yes HVb.out.symm
  obtain ⟨ix, hix⟩ : ∃ ix, ix = laIx e.locs.length e.vals.length k := ⟨_, rfl⟩
  have HX := Lib.hid hix
  rw [← hix] at HG hlt
  clear p1 p2 hix HNo
  go_wp2_with fail
  refine (specIx_any e C k w1 HL2.out HK p3 p4 p5).mono ?_
  rintro e' w2 ⟨rfl, hb2⟩
  rw [← HX.out]
  have HB2 : Hid (Below w.heap.size w w2) := HB1.out.trans (hb2.mono HB1.out.size)
  have hL2 := Lay.sta.later HL2.out hb2 hb2.size
  have hr2 := HR1.out.under hb2 HR1.out.lt
  clear hb2 g0 g1
  obtain ⟨locs, vals⟩ := e
  obtain ⟨⟨A2, cap2, b2, off2, E2, q2, hl2, hO2⟩, A3, cap3, b3, off3, E3, q3, hl3, hO3⟩ := sta_lies hL2
  rw [q2, q3] at hr2
  obtain ⟨g0, g1⟩ := hr2.two
  have H2 := Lib.hid (ints_of hO2)
  have H3 := Lib.hid (ints_of hO3)
  dsimp only at hlt p3 p4 p5 HG
  clear hL2 hr2 q2 q3 hO2 hO3 hl2 hl3 HL2 HR1 HRa HL1 hi
  obtain ⟨r, hr⟩ : ∃ r, r = (locs ++ vals).getD ix 0 := ⟨_, rfl⟩
  rw [← hr] at HG
  by_cases h : ix < locs.length
  · obtain ⟨z, hz⟩ : ∃ z, locs[ix]? = some z := ⟨_, List.getElem?_eq_getElem h⟩
    obtain ⟨rfl, hb, c0⟩ := H2.out ix z hz
    have HZ : Hid (r = z) := by
      show _ = _
      rw [hr, List.getD_eq_getElem?_getD, List.getElem?_append_left h, hz]
      rfl
    clear hz hr
    go_wp2_with fail
    go_ret2
    exact ⟨ret_two (by rw [HG.out.1, HZ.out]) HG.out.2.symm, HB2.out⟩
  · obtain ⟨j, rfl⟩ : ∃ j, ix = locs.length + j := ⟨ix - locs.length, by omega⟩
    have hj : j < vals.length := by omega
    obtain ⟨z, hz⟩ : ∃ z, vals[j]? = some z := ⟨_, List.getElem?_eq_getElem hj⟩
    obtain ⟨rfl, hb, c0⟩ := H3.out j z hz
    have HZ : Hid (r = z) := by
      show _ = _
      rw [hr, List.getD_eq_getElem?_getD, List.getElem?_append_right (by omega), show locs.length + j - locs.length = j by omega, hz]
      rfl
    clear hz hr HX
    go_wp2_with fail
    go_ret2
    exact ⟨ret_two (by rw [HG.out.1, HZ.out]) HG.out.2.symm, HB2.out⟩

set_option maxHeartbeats 1000000 in
set_option maxRecDepth 100000 in
theorem implLt_any (e : St) (C : Nat → Value) (i : Int) (w : World) (hL : Lay.sta.lies w w.heap.size e C) (hd : Lay.sta.sz e ≤ 1048576) (HI : Hid (Rng i)) :
    Calls Try.prog 17 #[.agg #[C 0, C 1], .int .i64 i] w fun e' w' => e' = .returned (.tuple #[.int .i64 (laGet e i), .bool (laHas e i)]) ∧ Below w.heap.size w w' := by
  obtain ⟨W1, hW1⟩ : ∃ W1, W1 = w.alloc (.cells #[C 0, C 1] 27) := ⟨_, rfl⟩
  have hb0 : Below w.heap.size w W1 := by rw [hW1]; exact (Below.refl _ _).alloc (Nat.le_refl _) _
  have hra : Row W1 w.heap.size 27 #[C 0, C 1] := by rw [hW1]; exact Row.new _ _ _
  have HL1 := Lib.hid (Lay.sta.later hL hb0 hb0.size)
  have HW1 := Lib.hid hW1
  have HB0 := Lib.hid hb0
  have HRa := Lib.hid hra
  have HD := Lib.hid hd
  obtain ⟨vb, hvb⟩ : ∃ vb, vb = laOk e := ⟨_, rfl⟩
  have HVb := Lib.hid hvb
  have HNo : Hid (laOk e = false ∨ i < 0 → laGet e i = 0 ∧ laHas e i = false) := fun h => laGet_no h
  obtain ⟨g0, g1⟩ := hra.two
  clear hL hW1 hb0 hra hvb hd
  go_enter Try.func17, Try.ntmps17
  go_wp2_with fail
  rw [← HW1.out]
  refine (implLv_any e C W1 HL1.out HD.out).mono ?_
  rintro e' w1 ⟨rfl, hb1⟩
  rw [← HVb.out]
  have HB1 : Hid (Below w.heap.size w w1) := HB0.out.trans (hb1.mono HB0.out.size)
  have HL2 := Lib.hid (Lay.sta.later HL1.out hb1 hb1.size)
  have HR1 := Lib.hid (HRa.out.under hb1 HRa.out.lt)
  clear g0 g1
  obtain ⟨g0, g1⟩ := HR1.out.two
  clear hb1
  cases vb
  · obtain ⟨n1, n2⟩ := HNo.out (.inl HVb.out.symm)
    have HN := Lib.hid (And.intro n1 n2)
    clear n1 n2
    go_wp2_with fail
    go_ret2
    exact ⟨ret_two HN.out.1.symm HN.out.2.symm, HB1.out⟩
  by_cases hi : i < 0
  · obtain ⟨n1, n2⟩ := HNo.out (.inr hi)
    have HN := Lib.hid (And.intro n1 n2)
    clear n1 n2
    go_wp2_with fail
    go_ret2
    exact ⟨ret_two HN.out.1.symm HN.out.2.symm, HB1.out⟩
  obtain ⟨k, rfl⟩ : ∃ k : Nat, i = k := ⟨i.toNat, by omega⟩
  obtain ⟨p1, p2, p3, p4, p5⟩ := laOk_parts HVb.out.symm
  have HK : Hid (In63 (k : Int)) := ⟨by omega, HI.out.2⟩
  have hlt := laIx_lt (n := e.locs.length) (i := k) p4
  have HG : Hid (laGet e k = (e.locs ++ e.vals).getD (laIx e.locs.length e.vals.length k) 0 ∧ laHas e k = true) := laGet_yes HVb.out.symm
  obtain ⟨ix, hix⟩ : ∃ ix, ix = laIx e.locs.length e.vals.length k := ⟨_, rfl⟩
  have HX := Lib.hid hix
  rw [← hix] at HG hlt
  clear p1 p2 hix HNo
  have HLd : Hid (Lay.sta.lies w1.drew w1.drew.heap.size e C) := Lay.sta.later HL2.out (Below.refl _ _).drew (Nat.le_refl _)
  have HRd := Lib.hid (HR1.out.under (Below.refl _ _).drew HR1.out.lt)
  go_wp2_with fail
  go_region_with (first
    | (go_at_call 35
       refine (implIx_any e C k _ HLd.out HK p3 p4 p5).mono ?_
       rintro e' w2 ⟨rfl, hb2⟩
       rw [← HX.out]
       obtain ⟨o0, o1⟩ := (HRd.out.under hb2 HRd.out.lt).two
       have HL3 := Lib.hid (Lay.sta.later HLd.out hb2 hb2.size)
       have HB2 : Hid (Below w.heap.size w w2) := HB1.out.drew.trans (hb2.mono HB1.out.size)
       clear hb2)
    | (go_at_call 34
       refine (letter_any e C ix _ HL3.out hlt p3 p4 p5).mono ?_
       rintro e' w3 ⟨rfl, hb3⟩
       rw [← HG.out.1]
       have HB3 : Hid (Below w.heap.size w w3) := HB2.out.trans (hb3.mono HB2.out.size)
       clear hb3))
  all_goals
    (go_wp2_with fail
     go_ret2
     exact ⟨ret_two rfl HG.out.2.symm, HB3.out⟩)

end La
end Go.Proofs.Ytiaejomdkkhimaa

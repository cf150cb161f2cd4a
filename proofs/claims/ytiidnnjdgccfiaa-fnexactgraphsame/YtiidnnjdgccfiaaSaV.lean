/- The walks of spec.StateSame and impl.StateSame. -/
import Derived.Test.YtiidnnjdgccfiaaSta
import Derived.BigQuiet
namespace Go.Proofs.Ytiidnnjdgccfiaa
open Go.RowKit

def intsSame (a b : List Int) : Bool := decide (a = b)
/-- The states are equal. -/
def stSame (e f : St) : Bool := intsSame e.locs f.locs && intsSame e.vals f.vals

theorem intsSame_len {a b : List Int} (h : ¬ a.length = b.length) : intsSame a b = false := decide_eq_false fun e => h (by rw [e])
theorem intsSame_at {a b : List Int} {i : Nat} {x y : Int} (hx : a[i]? = some x) (hy : b[i]? = some y) (h : ¬ x = y) : intsSame a b = false := decide_eq_false fun e => h (by rw [e, hy] at hx; injection hx with hx; exact hx.symm)
theorem intsSame_all {a b : List Int} (hl : a.length = b.length) (h : ∀ (i : Nat) (x y : Int), a[i]? = some x → b[i]? = some y → x = y) : intsSame a b = true := decide_eq_true (List.ext_getElem? fun i => by
  rcases Nat.lt_or_ge i a.length with hi | hi
  · have hb : i < b.length := by omega
    rw [List.getElem?_eq_getElem hi, List.getElem?_eq_getElem hb]
    exact congrArg some (h i _ _ (List.getElem?_eq_getElem hi) (List.getElem?_eq_getElem hb))
  · rw [List.getElem?_eq_none hi, List.getElem?_eq_none (by omega)])

set_option maxHeartbeats 400000 in
theorem l2Ints_any (xs ys : List Int) (A A' : Option Addr) (cap b off cap' b' off' : Nat) (w : World) (hl : xs.length ≤ maxLen) (_ : ys.length ≤ maxLen) (hI : Ints w w.heap.size A b off xs) (hI' : Ints w w.heap.size A' b' off' ys) :
    Calls Try.prog 37 #[.slice A xs.length cap, .slice A' ys.length cap'] w fun e' w' => e' = .returned (.bool (intsSame xs ys)) ∧ Below w.heap.size w w' := by
  unfold maxLen at hl
  have HI := Lib.hid hI
  have HI' := Lib.hid hI'
  clear hI hI'
  by_cases hlen : xs.length = ys.length
  case neg =>
    have hlenI : ¬ ((xs.length : Int) = (ys.length : Int)) := by omega
    go_enter Try.func37, Try.ntmps37
    go_wp2_with fail
    go_ret
    exact ⟨ret_bool (intsSame_len hlen).symm, Below.refl _ _⟩
  have hlenI : (xs.length : Int) = (ys.length : Int) := by omega
  have HLn := Lib.hid hlen
  clear hlen
  go_enter Try.func37, Try.ntmps37
  go_wp2_with fail
  go_loopw [5] (fun i wl => ∃ j n : Nat, j ≤ xs.length ∧ i = .int .i64 j ∧ Hid (∀ (q : Nat) (x y : Int), q < j → xs[q]? = some x → ys[q]? = some y → x = y) ∧ wl = w.drewN n) (fun i _ => xs.length - (intOf i).toNat)
  case atStart => exact ⟨0, 0, Nat.zero_le _, rfl, (fun q x y h => absurd h (Nat.not_lt_zero _)), rfl⟩
  case round =>
    obtain ⟨j, n, hj, rfl, HT, rfl⟩ := hrel
    by_cases hlt : j < xs.length
    · obtain ⟨x, hx⟩ : ∃ x, xs[j]? = some x := ⟨_, List.getElem?_eq_getElem hlt⟩
      have hlp : j < ys.length := by have := HLn.out; omega
      obtain ⟨y, hy⟩ : ∃ y, ys[j]? = some y := ⟨_, List.getElem?_eq_getElem hlp⟩
      obtain ⟨rfl, hb, c0⟩ := HI.out j x hx
      obtain ⟨rfl, hb', d0⟩ := HI'.out j y hy
      have HX := Lib.hid hx
      have HY := Lib.hid hy
      clear hx hy
      by_cases hxy : x = y
      · have HT2 : Hid (∀ (q : Nat) (x y : Int), q < j + 1 → xs[q]? = some x → ys[q]? = some y → x = y) := fun q x' y' hq h1 h2 => by
          by_cases e : q = j
          · subst e
            rw [HX.out] at h1
            rw [HY.out] at h2
            injection h1 with h1
            injection h2 with h2
            omega
          · exact HT.out q x' y' (by omega) h1 h2
        subst hxy
        go_wp2_with fail
        go_quiet (fail)
        go_wp2_with fail
        go_roundw
        case rel => exact ⟨j + 1, _, by omega, by go_num, HT2, rfl⟩
        case measure => simp [intOf]; omega
      · go_wp2_with fail
        go_quiet (fail)
        go_wp2_with fail
        go_ret
        exact ⟨ret_bool (intsSame_at HX.out HY.out hxy).symm, below_drewN (below_drewN (Below.refl _ _) _) _⟩
    · have hjj : j = xs.length := by omega
      subst hjj
      go_wp2_with fail
      go_ret
      exact ⟨ret_bool (intsSame_all HLn.out (fun q x y h1 h2 => HT.out q x y (List.getElem?_eq_some_iff.1 h1).1 h1 h2)).symm, below_drewN (Below.refl _ _) _⟩

set_option maxHeartbeats 400000 in
theorem equalInts_any (xs ys : List Int) (A A' : Option Addr) (cap b off cap' b' off' : Nat) (w : World) (hl : xs.length ≤ maxLen) (_ : ys.length ≤ maxLen) (hI : Ints w w.heap.size A b off xs) (hI' : Ints w w.heap.size A' b' off' ys) :
    Calls Try.prog 41 #[.slice A xs.length cap, .slice A' ys.length cap'] w fun e' w' => e' = .returned (.bool (intsSame xs ys)) ∧ Below w.heap.size w w' := by
  unfold maxLen at hl
  have HI := Lib.hid hI
  have HI' := Lib.hid hI'
  clear hI hI'
  by_cases hlen : xs.length = ys.length
  case neg =>
    have hlenI : ¬ ((xs.length : Int) = (ys.length : Int)) := by omega
    go_enter Try.func41, Try.ntmps41
    go_wp2_with fail
    go_ret
    exact ⟨ret_bool (intsSame_len hlen).symm, Below.refl _ _⟩
  have hlenI : (xs.length : Int) = (ys.length : Int) := by omega
  have HLn := Lib.hid hlen
  clear hlen
  go_enter Try.func41, Try.ntmps41
  go_wp2_with fail
  go_loopw [13] (fun i wl => ∃ j n : Nat, j ≤ xs.length ∧ i = .int .i64 j ∧ Hid (∀ (q : Nat) (x y : Int), q < j → xs[q]? = some x → ys[q]? = some y → x = y) ∧ wl = w.drewN n) (fun i _ => xs.length - (intOf i).toNat)
  case atStart => exact ⟨0, 0, Nat.zero_le _, rfl, (fun q x y h => absurd h (Nat.not_lt_zero _)), rfl⟩
  case round =>
    obtain ⟨j, n, hj, rfl, HT, rfl⟩ := hrel
    by_cases hlt : j < xs.length
    · obtain ⟨x, hx⟩ : ∃ x, xs[j]? = some x := ⟨_, List.getElem?_eq_getElem hlt⟩
      have hlp : j < ys.length := by have := HLn.out; omega
      obtain ⟨y, hy⟩ : ∃ y, ys[j]? = some y := ⟨_, List.getElem?_eq_getElem hlp⟩
      obtain ⟨rfl, hb, c0⟩ := HI.out j x hx
      obtain ⟨rfl, hb', d0⟩ := HI'.out j y hy
      have HX := Lib.hid hx
      have HY := Lib.hid hy
      clear hx hy
      by_cases hxy : x = y
      · have HT2 : Hid (∀ (q : Nat) (x y : Int), q < j + 1 → xs[q]? = some x → ys[q]? = some y → x = y) := fun q x' y' hq h1 h2 => by
          by_cases e : q = j
          · subst e
            rw [HX.out] at h1
            rw [HY.out] at h2
            injection h1 with h1
            injection h2 with h2
            omega
          · exact HT.out q x' y' (by omega) h1 h2
        subst hxy
        go_wp2_with fail
        go_quiet (fail)
        go_wp2_with fail
        go_roundw
        case rel => exact ⟨j + 1, _, by omega, by go_num, HT2, rfl⟩
        case measure => simp [intOf]; omega
      · go_wp2_with fail
        go_quiet (fail)
        go_wp2_with fail
        go_ret
        exact ⟨ret_bool (intsSame_at HX.out HY.out hxy).symm, below_drewN (below_drewN (Below.refl _ _) _) _⟩
    · have hjj : j = xs.length := by omega
      subst hjj
      go_wp2_with fail
      go_ret
      exact ⟨ret_bool (intsSame_all HLn.out (fun q x y h1 h2 => HT.out q x y (List.getElem?_eq_some_iff.1 h1).1 h1 h2)).symm, below_drewN (Below.refl _ _) _⟩

set_option maxHeartbeats 400000 in
theorem specStS_any (e : St) (C : Nat → Value) (f : St) (D : Nat → Value) (w : World) (hL : Lay.sta.lies w w.heap.size e C) (hM : Lay.sta.lies w w.heap.size f D) (_ : Lay.sta.sz e ≤ 1048576) (_ : Lay.sta.sz f ≤ 1048576) :
    Calls Try.prog 36 #[.agg #[C 0, C 1], .agg #[D 0, D 1]] w fun e' w' => e' = .returned (.bool (stSame e f)) ∧ Below w.heap.size w w' := by
  obtain ⟨W1, hW1⟩ : ∃ W1, W1 = (w.alloc (.cells #[C 0, C 1] 49)).alloc (.cells #[D 0, D 1] 49) := ⟨_, rfl⟩
  have hrows := two_boxes w 49 #[C 0, C 1] #[D 0, D 1]
  rw [← hW1] at hrows
  obtain ⟨hra, hrb, hb0⟩ := hrows
  obtain ⟨locs, vals⟩ := e
  obtain ⟨locs', vals'⟩ := f
  obtain ⟨⟨A2, cap2, b2, off2, E2, q2, hl2, hO2⟩, A3, cap3, b3, off3, E3, q3, hl3, hO3⟩ := sta_lies (Lay.sta.later hL hb0 hb0.size)
  obtain ⟨⟨A4, cap4, b4, off4, E4, q4, hl4, hO4⟩, A5, cap5, b5, off5, E5, q5, hl5, hO5⟩ := sta_lies (Lay.sta.later hM hb0 hb0.size)
  rw [q2, q3] at hra
  rw [q4, q5] at hrb
  rw [q2, q3, q4, q5] at hW1 ⊢
  have HW1 := Lib.hid hW1
  have HB0 := Lib.hid hb0
  have HRa := Lib.hid hra
  have HRb := Lib.hid hrb
  have H2 := Lib.hid (ints_of hO2)
  have H3 := Lib.hid (ints_of hO3)
  have H4 := Lib.hid (ints_of hO4)
  have H5 := Lib.hid (ints_of hO5)
  have HN : Hid (locs.length ≤ maxLen ∧ vals.length ≤ maxLen ∧ locs'.length ≤ maxLen ∧ vals'.length ≤ maxLen) := ⟨hl2, hl3, hl4, hl5⟩
  have HF : Hid (stSame ⟨locs, vals⟩ ⟨locs', vals'⟩ = (intsSame locs locs' && intsSame vals vals')) := rfl
  obtain ⟨u, hu⟩ : ∃ u, u = intsSame locs locs' := ⟨_, rfl⟩
  obtain ⟨v, hv⟩ : ∃ v, v = intsSame vals vals' := ⟨_, rfl⟩
  have HU := Lib.hid hu
  have HV := Lib.hid hv
  clear hL hM hW1 hb0 hra hrb q2 q3 q4 q5 hO2 hO3 hO4 hO5 hl2 hl3 hl4 hl5 hu hv
  go_enter Try.func36, Try.ntmps36
  go_wp2_with fail
  rw [← HW1.out]
  refine (l2Ints_any locs locs' A2 A4 cap2 b2 off2 cap4 b4 off4 W1 HN.out.1 HN.out.2.2.1 H2.out H4.out).mono ?_
  rintro e' w1 ⟨rfl, hb1⟩
  rw [← HU.out]
  have HB1 : Hid (Below w.heap.size w w1) := HB0.out.trans (hb1.mono HB0.out.size)
  obtain ⟨g0, g1⟩ := (HRa.out.under hb1 HRa.out.lt).two
  obtain ⟨f0, f1⟩ := (HRb.out.under hb1 HRb.out.lt).two
  have H3' := Lib.hid (H3.out.under hb1 hb1.size)
  have H5' := Lib.hid (H5.out.under hb1 hb1.size)
  clear hb1
  cases u
  · go_wp2_with fail
    go_ret
    exact ⟨ret_bool (by rw [HF.out, ← HU.out]; rfl), HB1.out⟩
  go_wp2_with fail
  refine (l2Ints_any vals vals' A3 A5 cap3 b3 off3 cap5 b5 off5 w1 HN.out.2.1 HN.out.2.2.2 H3'.out H5'.out).mono ?_
  rintro e' w2 ⟨rfl, hb2⟩
  rw [← HV.out]
  have HB2 : Hid (Below w.heap.size w w2) := HB1.out.trans (hb2.mono HB1.out.size)
  clear hb2
  go_wp2_with fail
  go_ret
  exact ⟨ret_bool (by rw [HF.out, ← HU.out, ← HV.out]; rfl), HB2.out⟩

set_option maxHeartbeats 400000 in
theorem implStS_any (e : St) (C : Nat → Value) (f : St) (D : Nat → Value) (w : World) (hL : Lay.sta.lies w w.heap.size e C) (hM : Lay.sta.lies w w.heap.size f D) (_ : Lay.sta.sz e ≤ 1048576) (_ : Lay.sta.sz f ≤ 1048576) :
    Calls Try.prog 39 #[.agg #[C 0, C 1], .agg #[D 0, D 1]] w fun e' w' => e' = .returned (.bool (stSame e f)) ∧ Below w.heap.size w w' := by
  obtain ⟨W1, hW1⟩ : ∃ W1, W1 = (w.alloc (.cells #[C 0, C 1] 49)).alloc (.cells #[D 0, D 1] 49) := ⟨_, rfl⟩
  have hrows := two_boxes w 49 #[C 0, C 1] #[D 0, D 1]
  rw [← hW1] at hrows
  obtain ⟨hra, hrb, hb0⟩ := hrows
  obtain ⟨locs, vals⟩ := e
  obtain ⟨locs', vals'⟩ := f
  obtain ⟨⟨A2, cap2, b2, off2, E2, q2, hl2, hO2⟩, A3, cap3, b3, off3, E3, q3, hl3, hO3⟩ := sta_lies (Lay.sta.later hL hb0 hb0.size)
  obtain ⟨⟨A4, cap4, b4, off4, E4, q4, hl4, hO4⟩, A5, cap5, b5, off5, E5, q5, hl5, hO5⟩ := sta_lies (Lay.sta.later hM hb0 hb0.size)
  rw [q2, q3] at hra
  rw [q4, q5] at hrb
  rw [q2, q3, q4, q5] at hW1 ⊢
  have HW1 := Lib.hid hW1
  have HB0 := Lib.hid hb0
  have HRa := Lib.hid hra
  have HRb := Lib.hid hrb
  have H2 := Lib.hid (ints_of hO2)
  have H3 := Lib.hid (ints_of hO3)
  have H4 := Lib.hid (ints_of hO4)
  have H5 := Lib.hid (ints_of hO5)
  have HN : Hid (locs.length ≤ maxLen ∧ vals.length ≤ maxLen ∧ locs'.length ≤ maxLen ∧ vals'.length ≤ maxLen) := ⟨hl2, hl3, hl4, hl5⟩
  have HF : Hid (stSame ⟨locs, vals⟩ ⟨locs', vals'⟩ = (intsSame locs locs' && intsSame vals vals')) := rfl
  obtain ⟨u, hu⟩ : ∃ u, u = intsSame locs locs' := ⟨_, rfl⟩
  obtain ⟨v, hv⟩ : ∃ v, v = intsSame vals vals' := ⟨_, rfl⟩
  have HU := Lib.hid hu
  have HV := Lib.hid hv
  clear hL hM hW1 hb0 hra hrb q2 q3 q4 q5 hO2 hO3 hO4 hO5 hl2 hl3 hl4 hl5 hu hv
  go_enter Try.func39, Try.ntmps39
  go_wp2_with fail
  rw [← HW1.out]
  refine (equalInts_any locs locs' A2 A4 cap2 b2 off2 cap4 b4 off4 W1 HN.out.1 HN.out.2.2.1 H2.out H4.out).mono ?_
  rintro e' w1 ⟨rfl, hb1⟩
  rw [← HU.out]
  have HB1 : Hid (Below w.heap.size w w1) := HB0.out.trans (hb1.mono HB0.out.size)
  obtain ⟨g0, g1⟩ := (HRa.out.under hb1 HRa.out.lt).two
  obtain ⟨f0, f1⟩ := (HRb.out.under hb1 HRb.out.lt).two
  have H3' := Lib.hid (H3.out.under hb1 hb1.size)
  have H5' := Lib.hid (H5.out.under hb1 hb1.size)
  clear hb1
  cases u
  · go_wp2_with fail
    go_ret
    exact ⟨ret_bool (by rw [HF.out, ← HU.out]; rfl), HB1.out⟩
  go_wp2_with fail
  refine (equalInts_any vals vals' A3 A5 cap3 b3 off3 cap5 b5 off5 w1 HN.out.2.1 HN.out.2.2.2 H3'.out H5'.out).mono ?_
  rintro e' w2 ⟨rfl, hb2⟩
  rw [← HV.out]
  have HB2 : Hid (Below w.heap.size w w2) := HB1.out.trans (hb2.mono HB1.out.size)
  clear hb2
  go_wp2_with fail
  go_ret
  exact ⟨ret_bool (by rw [HF.out, ← HU.out, ← HV.out]; rfl), HB2.out⟩

end Go.Proofs.Ytiidnnjdgccfiaa

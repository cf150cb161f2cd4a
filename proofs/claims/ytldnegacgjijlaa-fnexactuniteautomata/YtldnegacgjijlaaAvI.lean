/- The walks of impl.AutomatonValid and its parts. -/
import Derived.Test.YtldnegacgjijlaaAvP
namespace Go.Proofs.Ytldnegacgjijlaa
open Go.RowKit

set_option maxHeartbeats 400000 in
theorem within_any (a b : Int) (w : World) :
    Calls Try.prog 137 #[.int .i64 a, .int .i64 b] w fun e' w' => e' = .returned (.bool (inside a b)) ∧ w = w' := by
  have HF : Hid (inside a b = (bits .andNot .i64 a b == 0)) := rfl
  go_enter Try.func137, Try.ntmps137
  go_wp2_with fail
  go_ret
  exact ⟨ret_bool HF.out.symm, rfl⟩

set_option maxHeartbeats 400000 in
theorem condValid_any (ca va : Int) (w : World) (hca : Rg ca) :
    Calls Try.prog 111 #[.agg #[.int .i64 ca, .int .i64 va]] w fun e' w' => e' = .returned (.bool (decide (0 ≤ ca ∧ ca ≤ 7) && inside va ca)) ∧ Below w.heap.size w w' := by
  have HF : Hid (decide (0 ≤ ca ∧ ca ≤ 7) = inside ca 7) := by
    show _ = _
    rw [inside_7 hca]
    by_cases h : 0 ≤ ca <;> by_cases h2 : ca ≤ 7 <;> simp [h, h2]
  have HB : Hid (∀ o : Obj, Below w.heap.size w (w.alloc o)) := fun o => (Below.refl _ _).alloc (Nat.le_refl _) o
  obtain ⟨u, hu⟩ : ∃ u, u = inside ca 7 := ⟨_, rfl⟩
  obtain ⟨v, hv⟩ : ∃ v, v = inside va ca := ⟨_, rfl⟩
  have HU := Lib.hid hu
  have HV := Lib.hid hv
  clear hu hv hca
  go_enter Try.func111, Try.ntmps111
  go_wp2_with fail
  refine (within_any ca 7 _).mono ?_
  rintro e' w1 ⟨rfl, rfl⟩
  rw [← HU.out]
  cases u
  · go_wp2_with fail
    go_ret
    exact ⟨ret_bool (by rw [HF.out, ← HU.out]; rfl), HB.out _⟩
  · go_wp2_with fail
    refine (within_any va ca _).mono ?_
    rintro e' w2 ⟨rfl, rfl⟩
    rw [← HV.out]
    go_wp2_with fail
    go_ret
    exact ⟨ret_bool (by rw [HF.out, ← HU.out, ← HV.out]; rfl), HB.out _⟩

set_option maxHeartbeats 400000 in
theorem condition_any (fr ca va tt : Int) (w : World) :
    Calls Try.prog 110 #[.agg #[.int .i64 fr, .int .i64 ca, .int .i64 va, .int .i64 tt]] w fun e' w' => e' = .returned (.agg #[.int .i64 ca, .int .i64 va]) ∧ Below w.heap.size w w' := by
  have HB : Hid (Below w.heap.size w w) := Below.refl _ _
  go_enter Try.func110, Try.ntmps110
  go_wp2_with fail
  refine bodyPost_ret (v := .agg #[.int .i64 ca, .int .i64 va]) (by simp [results, Try.results110, go_sem]) rfl ⟨rfl, ?_⟩
  repeat (first | exact HB.out | refine Below.setCell ?_ (by simp <;> omega) _ | refine Below.alloc ?_ (by simp <;> omega) _)

set_option maxHeartbeats 400000 in
theorem hasState_any (i : Value) (A : Option Addr) (n cap : Nat) (es : Value) (s : Int) (w : World) (hi : ∃ A' n' c', i = .slice A' n' c') (he : ∃ A' n' c', es = .slice A' n' c') :
    Calls Try.prog 109 #[.agg #[i, .slice A n cap, es], .int .i64 s] w fun e' w' => e' = .returned (.bool (decide (0 ≤ s ∧ s < n))) ∧ Below w.heap.size w w' := by
  obtain ⟨A1, n1, c1, rfl⟩ := hi
  obtain ⟨A2, n2, c2, rfl⟩ := he
  have HB : Hid (∀ o : Obj, Below w.heap.size w (w.alloc o)) := fun o => (Below.refl _ _).alloc (Nat.le_refl _) o
  obtain ⟨d, hd⟩ : ∃ d, d = decide (0 ≤ s ∧ s < (n : Int)) := ⟨_, rfl⟩
  rw [← hd]
  by_cases h0 : 0 ≤ s
  case neg =>
    have HD : Hid (d = false) := by show _ = _; rw [hd]; exact decide_eq_false (by omega)
    clear hd
    go_enter Try.func109, Try.ntmps109
    go_wp2_with fail
    go_ret
    exact ⟨ret_bool HD.out.symm, HB.out _⟩
  by_cases h1 : s < n
  case neg =>
    have HD : Hid (d = false) := by show _ = _; rw [hd]; exact decide_eq_false (by omega)
    clear hd
    go_enter Try.func109, Try.ntmps109
    go_wp2_with fail
    go_ret
    exact ⟨ret_bool HD.out.symm, HB.out _⟩
  have HD : Hid (d = true) := by show _ = _; rw [hd]; exact decide_eq_true (by omega)
  clear hd
  go_enter Try.func109, Try.ntmps109
  go_wp2_with fail
  go_ret
  exact ⟨ret_bool HD.out.symm, HB.out _⟩

set_option maxHeartbeats 400000 in
theorem ascB_any (zs : List Int) (n : Int) (A : Option Addr) (cap b off : Nat) (w : World) (hl : zs.length ≤ maxLen) (hI : Ints w w.heap.size A b off zs) :
    Calls Try.prog 112 #[.slice A zs.length cap, .int .i64 n] w fun e' w' => e' = .returned (.bool (asc n zs)) ∧ w = w' := by
  unfold maxLen at hl
  have HI := Lib.hid hI
  clear hI
  go_enter Try.func112, Try.ntmps112
  go_wp2_with fail
  go_loopw [5, 10] (fun p i wl => ∃ j : Nat, j ≤ zs.length ∧ i = .int .i64 j ∧ p = .int .i64 (before zs j) ∧ Hid (∀ q, q < j → okAt n zs q = true) ∧ w = wl) (fun _ i _ => zs.length - (intOf i).toNat)
  case atStart => exact ⟨0, Nat.zero_le _, rfl, rfl, fun q hq => absurd hq (Nat.not_lt_zero _), rfl⟩
  case round =>
    obtain ⟨j, hj, rfl, rfl, HK, rfl⟩ := hrel
    by_cases hlt : j < zs.length
    · obtain ⟨x, hx⟩ : ∃ x, zs[j]? = some x := ⟨_, List.getElem?_eq_getElem hlt⟩
      obtain ⟨rfl, hb, gx⟩ := HI.out j x hx
      have HX := Lib.hid (okAt_iff (n := n) hx)
      have HXb : Hid (before zs (j + 1) = x) := by show zs.getD j 0 = x; simp [List.getD, hx]
      obtain ⟨p, hp⟩ : ∃ p, p = before zs j := ⟨_, rfl⟩
      have HP := Lib.hid hp
      rw [← hp]
      clear hx hp
      by_cases d0 : x ≤ p
      · have HF : Hid (asc n zs = false) := asc_false hlt (by rw [HX.out, ← HP.out, decide_eq_false (by omega)]; rfl)
        go_wp2_with fail
        go_ret
        exact ⟨ret_bool HF.out.symm, rfl⟩
      by_cases d1 : n ≤ x
      · have HF : Hid (asc n zs = false) := asc_false hlt (by rw [HX.out, decide_eq_false (show ¬ x < n by omega), Bool.and_false])
        go_wp2_with fail
        go_ret
        exact ⟨ret_bool HF.out.symm, rfl⟩
      have HK2 : Hid (∀ q, q < j + 1 → okAt n zs q = true) := fun q hq => by
        by_cases h : q = j
        · subst h
          rw [HX.out, ← HP.out, decide_eq_true (show x < n by omega), decide_eq_true (show p < x by omega)]
          rfl
        · exact HK.out q (by omega)
      go_wp2_with fail
      go_roundw
      case rel => exact ⟨j + 1, by omega, by go_num, by rw [HXb.out], HK2, trivial⟩
      case measure => simp [intOf]; omega
    · have hjj : j = zs.length := by omega
      subst hjj
      have HF : Hid (asc n zs = true) := asc_true HK.out
      go_wp2_with fail
      go_ret
      exact ⟨ret_bool HF.out.symm, rfl⟩

end Go.Proofs.Ytldnegacgjijlaa

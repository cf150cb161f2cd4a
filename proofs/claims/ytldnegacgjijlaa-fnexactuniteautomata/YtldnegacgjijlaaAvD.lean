/- The walk of spec.l7Edge. -/
import Derived.Test.YtldnegacgjijlaaAvP
namespace Go.Proofs.Ytldnegacgjijlaa
open Go.RowKit

set_option maxHeartbeats 400000 in
theorem l7Edge_any (e : Tr) (n : Int) (w : World) (hr : TrR e) :
    Calls Try.prog 107 #[.agg #[.int .i64 e.fr, .int .i64 e.ca, .int .i64 e.va, .int .i64 e.tt], .int .i64 n] w fun e' w' => e' = .returned (.bool (trOk n e)) ∧ Below w.heap.size w w' := by
  obtain ⟨fr, ca, va, tt⟩ := e
  dsimp only
  have HB : Hid (∀ o : Obj, Below w.heap.size w (w.alloc o)) := fun o => (Below.refl _ _).alloc (Nat.le_refl _) o
  obtain ⟨_, _, hrv, _⟩ := hr
  have hv : Rg va := hrv
  clear hrv
  by_cases h0 : 0 ≤ fr
  case neg =>
    have HF : Hid (trOk n ⟨fr, ca, va, tt⟩ = false) := by show _ = _; unfold trOk; rw [decide_eq_false (by dsimp only; omega)]; rfl
    clear hv
    go_enter Try.func107, Try.ntmps107
    go_wp2_with fail
    go_ret
    exact ⟨ret_bool HF.out.symm, HB.out _⟩
  by_cases h1 : fr < n
  case neg =>
    have HF : Hid (trOk n ⟨fr, ca, va, tt⟩ = false) := by show _ = _; unfold trOk; rw [decide_eq_false (by dsimp only; omega)]; rfl
    clear hv
    go_enter Try.func107, Try.ntmps107
    go_wp2_with fail
    go_ret
    exact ⟨ret_bool HF.out.symm, HB.out _⟩
  have HT : Hid (trOk n ⟨fr, ca, va, tt⟩ = (decide (0 ≤ tt ∧ tt < n) && (decide (0 ≤ ca ∧ ca ≤ 7) && inside va ca))) := by show _ = _; unfold trOk; rw [decide_eq_true (by dsimp only; omega)]; rfl
  by_cases h2 : 0 ≤ tt
  case neg =>
    have HF : Hid (trOk n ⟨fr, ca, va, tt⟩ = false) := by show _ = _; rw [HT.out, decide_eq_false (by omega)]; rfl
    clear hv
    go_enter Try.func107, Try.ntmps107
    go_wp2_with fail
    go_ret
    exact ⟨ret_bool HF.out.symm, HB.out _⟩
  by_cases h3 : tt < n
  case neg =>
    have HF : Hid (trOk n ⟨fr, ca, va, tt⟩ = false) := by show _ = _; rw [HT.out, decide_eq_false (by omega)]; rfl
    clear hv
    go_enter Try.func107, Try.ntmps107
    go_wp2_with fail
    go_ret
    exact ⟨ret_bool HF.out.symm, HB.out _⟩
  have HT2 : Hid (trOk n ⟨fr, ca, va, tt⟩ = (decide (0 ≤ ca ∧ ca ≤ 7) && inside va ca)) := by show _ = _; rw [HT.out, decide_eq_true (by omega)]; rfl
  clear HT
  by_cases h4 : 0 ≤ ca
  case neg =>
    have HF : Hid (trOk n ⟨fr, ca, va, tt⟩ = false) := by show _ = _; rw [HT2.out, decide_eq_false (by omega)]; rfl
    clear hv
    go_enter Try.func107, Try.ntmps107
    go_wp2_with fail
    go_ret
    exact ⟨ret_bool HF.out.symm, HB.out _⟩
  by_cases h5 : ca ≤ 7
  case neg =>
    have HF : Hid (trOk n ⟨fr, ca, va, tt⟩ = false) := by show _ = _; rw [HT2.out, decide_eq_false (by omega)]; rfl
    clear hv
    go_enter Try.func107, Try.ntmps107
    go_wp2_with fail
    go_ret
    exact ⟨ret_bool HF.out.symm, HB.out _⟩
  have HT3 : Hid (trOk n ⟨fr, ca, va, tt⟩ = inside va ca) := by show _ = _; rw [HT2.out, decide_eq_true (by omega)]; rfl
  clear HT2
  by_cases h6 : 0 ≤ va
  case neg =>
    have HF : Hid (trOk n ⟨fr, ca, va, tt⟩ = false) := by
      show _ = _
      rw [HT3.out]
      cases h : inside va ca
      · rfl
      · have := inside_le hv h4 (by omega) h
        omega
    clear hv
    go_enter Try.func107, Try.ntmps107
    go_wp2_with fail
    go_ret
    exact ⟨ret_bool HF.out.symm, HB.out _⟩
  have HF : Hid (trOk n ⟨fr, ca, va, tt⟩ = (bits .and .i64 va ca == va)) := by show _ = _; rw [HT3.out, inside_iff, and_iff hv]
  clear hv
  go_enter Try.func107, Try.ntmps107
  go_wp2_with fail
  go_ret
  exact ⟨ret_bool HF.out.symm, HB.out _⟩

end Go.Proofs.Ytldnegacgjijlaa

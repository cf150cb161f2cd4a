/- The walk of spec.l6Period. -/
import Derived.Test.YtogfpgkdofhoaaaPeP
import Derived.IntWalk
import Derived.BigQuiet
namespace Go.Proofs.Ytogfpgkdofhoaaa
namespace La
open Go.RowKit

set_option maxHeartbeats 1000000 in
set_option maxRecDepth 100000 in
theorem specPer_any (zs : List Int) (A : Option Addr) (cap b off : Nat) (w : World) (h1 : 1 ≤ zs.length) (hl : zs.length ≤ 80) (hI : Ints w w.heap.size A b off zs) :
    Calls Try.prog 16 #[.slice A zs.length cap] w fun e' w' => e' = .returned (.int .i64 (per zs : Nat)) ∧ Below w.heap.size w w' := by
  obtain ⟨n, hn⟩ : ∃ n, n = zs.length := ⟨_, rfl⟩
  obtain ⟨pr, hpr⟩ : ∃ p, p = per zs := ⟨_, rfl⟩
  have HN := Lib.hid hn
  have HI := Lib.hid hI
  have HPr := Lib.hid hpr
  rw [← hn] at h1 hl ⊢
  rw [← hpr]
  clear hn hI hpr
  go_enter Try.func16, Try.ntmps16
  go_wp2_with fail
  go_loopw [3] (fun p wl => ∃ q d : Nat, 1 ≤ q ∧ q ≤ n ∧ p = .int .i64 q ∧ wl = w.drewN d ∧ Hid (∀ r, 1 ≤ r → r < q → isPer zs r = false)) (fun p _ => n - (intOf p).toNat)
  case atStart => exact ⟨1, 0, Nat.le_refl _, h1, rfl, rfl, fun r a b => by omega⟩
  case round =>
    obtain ⟨q, d, hq1, hqn, rfl, rfl, HP⟩ := hrel
    by_cases hlt : q < n
    · have e0 : ((n : Int)).tmod (q : Int) = ((n % q : Nat) : Int) := by rw [Int.tmod_eq_emod_of_nonneg (by omega)]; omega
      have z1 : ¬ ((q : Int) = 0) := by omega
      have z2 : ((q : Int) == 0) = false := by rw [beq_eq_false_iff_ne]; omega
      obtain ⟨m, hm⟩ : ∃ m, m = n % q := ⟨_, rfl⟩
      rw [← hm] at e0
      obtain ⟨o, ho⟩ : ∃ o, o = decide (m = 0) := ⟨_, rfl⟩
      have c1 : ((m : Int) == 0) = o := by rw [ho, Bool.eq_iff_iff, beq_iff_eq, decide_eq_true_eq]; omega
      have HO : Hid (okAt zs q q = o) := by show _ = _; rw [okAt_start, ← HN.out, ho, hm]
      clear hm ho
      go_wp2_with fail
      go_loopw [4, 5] (fun k i wl => ∃ j d2 : Nat, ∃ ob : Bool, q ≤ j ∧ j ≤ n ∧ i = .int .i64 j ∧ k = .bool ob ∧ wl = w.drewN d2 ∧ Hid (okAt zs q j = ob)) (fun _ i _ => n - (intOf i).toNat)
      case atStart => exact ⟨q, d, o, Nat.le_refl _, hqn, rfl, rfl, rfl, HO⟩
      case round =>
        obtain ⟨j, d2, ob, hj1, hjn, rfl, rfl, rfl, HJ⟩ := hrel
        cases ob with
        | false =>
          have HF : Hid (isPer zs q = false) := isPer_false hj1 (by rw [← HN.out]; exact hjn) HJ.out
          have HP2 : Hid (∀ r, 1 ≤ r → r < q + 1 → isPer zs r = false) := fun r a b => by
            by_cases e : r = q
            · subst e; exact HF.out
            · exact HP.out r a (by omega)
          by_cases hj : j < n
          · go_wp2_with fail
            go_roundw
            case rel => exact ⟨q + 1, _, by omega, by omega, by go_num, rfl, HP2⟩
            case measure => simp [intOf]; omega
          · go_wp2_with fail
            go_roundw
            case rel => exact ⟨q + 1, _, by omega, by omega, by go_num, rfl, HP2⟩
            case measure => simp [intOf]; omega
        | true =>
          by_cases hj : j < n
          · obtain ⟨x, hx⟩ : ∃ x, zs[j]? = some x := ⟨_, List.getElem?_eq_getElem (by rw [← HN.out]; exact hj)⟩
            obtain ⟨y, hy⟩ : ∃ y, zs[j - q]? = some y := ⟨_, List.getElem?_eq_getElem (by rw [← HN.out]; omega)⟩
            obtain ⟨rfl, hb, c0⟩ := HI.out j x hx
            obtain ⟨_, _, d0⟩ := HI.out (j - q) y hy
            obtain ⟨t, ht⟩ : ∃ t, t = j - q := ⟨_, rfl⟩
            rw [← ht] at d0
            have e3 : IntKind.i64.wrap ((j : Int) - (q : Int)) = (t : Int) := by rw [IntWalk.i64_in _ (by omega)]; omega
            have e4 : (j : Int) - (q : Int) = (t : Int) := by omega
            have htn : t < n := by omega
            have HX : Hid (okAt zs q (j + 1) = decide (x = y)) := by
              show _ = _
              rw [okAt_step hj1, HJ.out, hx, hy, Bool.true_and]
              simp
            obtain ⟨eb, heb⟩ : ∃ eb, eb = decide (x = y) := ⟨_, rfl⟩
            have c2 : (x == y) = eb := by rw [heb, Bool.eq_iff_iff, beq_iff_eq, decide_eq_true_eq]
            rw [← heb] at HX
            clear hx hy ht heb
            go_wp2_with fail
            go_quiet (fail)
            go_wp2_with fail
            go_roundw
            case rel => exact ⟨j + 1, _, eb, by omega, by omega, by go_num, rfl, rfl, HX⟩
            case measure => simp [intOf]; omega
          · have hjj : j = n := by omega
            subst hjj
            have HE : Hid (pr = q) := by
              show _ = _
              rw [HPr.out]
              refine per_eq ?_ hq1 (by rw [← HN.out]; exact hqn) HP.out
              have := HJ.out
              unfold isPer
              rw [← HN.out]
              exact this
            go_wp2_with fail
            go_ret
            exact ⟨ret_int (by rw [HE.out]), below_drewN (Below.refl _ _) _⟩
    · have hqq : q = n := by omega
      subst hqq
      have HE : Hid (pr = q) := by
        show _ = _
        rw [HPr.out]
        exact per_eq (by have := isPer_all zs; rw [← HN.out] at this; exact this) hq1 (by rw [← HN.out]; exact Nat.le_refl _) HP.out
      go_wp2_with fail
      go_ret
      exact ⟨ret_int (by rw [HE.out]), below_drewN (Below.refl _ _) _⟩

end La
end Go.Proofs.Ytogfpgkdofhoaaa

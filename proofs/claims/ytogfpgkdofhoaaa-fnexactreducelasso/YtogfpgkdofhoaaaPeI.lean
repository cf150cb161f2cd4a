/- The walk of impl.period. -/
import Derived.Test.YtogfpgkdofhoaaaPeP
import Derived.Test.YtogfpgkdofhoaaaEqQ
import Derived.Test.YtogfpgkdofhoaaaNuR
import Derived.IntWalk
import Derived.BigQuiet
import Derived.Deep.RegionWith
namespace Go.Proofs.Ytogfpgkdofhoaaa
namespace La
open Go.RowKit

set_option maxHeartbeats 1000000 in
set_option maxRecDepth 100000 in
theorem implPer_any (zs : List Int) (b : Nat) (w : World) (h1 : 1 ≤ zs.length) (hl : zs.length ≤ 80) (hI : Ints w w.heap.size (some ⟨b, 0, none⟩) b 0 zs) :
    Calls Try.prog 20 #[.slice (some ⟨b, 0, none⟩) zs.length zs.length] w fun e' w' => e' = .returned (.int .i64 (per zs : Nat)) ∧ Below w.heap.size w w' := by
  obtain ⟨n, hn⟩ : ∃ n, n = zs.length := ⟨_, rfl⟩
  obtain ⟨pr, hpr⟩ : ∃ p, p = per zs := ⟨_, rfl⟩
  have HN := Lib.hid hn
  have HI := Lib.hid hI
  have HPr := Lib.hid hpr
  rw [← hn] at h1 hl ⊢
  rw [← hpr]
  clear hn hI hpr
  go_enter Try.func20, Try.ntmps20
  go_wp2_with fail
  go_loopw [3] (fun p wl => ∃ q : Nat, 1 ≤ q ∧ q ≤ n ∧ p = .int .i64 q ∧ Hid (Below w.heap.size w wl) ∧ Hid (∀ r, 1 ≤ r → r < q → isPer zs r = false)) (fun p _ => n - (intOf p).toNat)
  case atStart => exact ⟨1, Nat.le_refl _, h1, rfl, Below.refl _ _, fun r a b => by omega⟩
  case round =>
    obtain ⟨q, hq1, hqn, rfl, HB, HP⟩ := hrel
    have e0 : ((n : Int)).tmod (q : Int) = ((n % q : Nat) : Int) := by rw [Int.tmod_eq_emod_of_nonneg (by omega)]; omega
    have z1 : ¬ ((q : Int) = 0) := by omega
    have z2 : ((q : Int) == 0) = false := by rw [beq_eq_false_iff_ne]; omega
    have hmn : n % n = 0 := Nat.mod_self n
    obtain ⟨m, hm⟩ : ∃ m, m = n % q := ⟨_, rfl⟩
    rw [← hm] at e0
    by_cases hm0 : m = 0
    case neg =>
      have hqn2 : q < n := by
        rcases Nat.lt_or_ge q n with h | h
        · exact h
        · have : q = n := by omega
          subst this
          omega
      have HF : Hid (isPer zs q = false) := isPer_no (by rw [← HN.out, ← hm]; exact hm0)
      have HP2 : Hid (∀ r, 1 ≤ r → r < q + 1 → isPer zs r = false) := fun r a b => by
        by_cases e : r = q
        · subst e; exact HF.out
        · exact HP.out r a (by omega)
      have c1 : ((m : Int) != 0) = true := by rw [bne_iff_ne]; omega
      have c2 : ((m : Int) == 0) = false := by rw [beq_eq_false_iff_ne]; omega
      clear hm hm0 hmn
      go_wp2_with fail
      go_quiet (fail)
      go_wp2_with fail
      go_roundw
      case rel => exact ⟨q + 1, by omega, by omega, by go_num, below_drewN HB.out _, HP2⟩
      case measure => simp [intOf]; omega
    case pos =>
      subst hm0
      have e00 : ((n : Int)).tmod (q : Int) = 0 := e0
      have c1 : ((0 : Int) != 0) = false := rfl
      clear e0
      have HCut : Hid (isPer zs q = intsSame (zs.drop q) (zs.take (n - q))) := by
        show _ = _
        rw [isPer_cut (by rw [← HN.out]; exact hm.symm) (by rw [← HN.out]; exact hqn), ← HN.out]
        rfl
      have hl1 : (zs.drop q).length = n - q := by rw [List.length_drop, ← HN.out]
      have hl2 : (zs.take (n - q)).length = n - q := by rw [List.length_take, ← HN.out]; omega
      obtain ⟨t, ht⟩ : ∃ t, t = n - q := ⟨_, rfl⟩
      have e3 : IntKind.i64.wrap ((n : Int) - (q : Int)) = (t : Int) := by rw [IntWalk.i64_in _ (by omega)]; omega
      have e4 : (n : Int) - (q : Int) = (t : Int) := by omega
      have htn : t ≤ n := by omega
      obtain ⟨eb, heb⟩ : ∃ eb, eb = isPer zs q := ⟨_, rfl⟩
      have HCon : Hid (∀ (a : Addr) (W : World), (q < n → a = ⟨b, q, none⟩) → Below w.heap.size w W → Calls Try.prog 29 #[.slice (some a) t t, .slice (some ⟨b, 0, none⟩) t n] W fun e' w' => e' = .returned (.bool eb) ∧ ∃ d, w' = W.drewN d) := fun a W ha hW => by
        have h0 := HI.out.under hW hW.size
        have h3 := ints_drop h0 q
        rw [Nat.zero_add] at h3
        have h4 : Ints W W.heap.size (some a) b q (zs.drop q) := fun i z hz => by
          have hlt := (List.getElem?_eq_some_iff.1 hz).1
          rw [hl1] at hlt
          rw [ha (by omega)]
          exact h3 i z hz
        have := equalQ_any (zs.drop q) (zs.take (n - q)) (some a) (some ⟨b, 0, none⟩) t b q n b 0 W (by rw [hl1]; unfold maxLen; omega) (by rw [hl2]; unfold maxLen; omega) h4 (ints_take h0 (n - q))
        rw [hl1, hl2, ← HCut.out, ← ht, ← heb] at this
        exact this
      have HEb := Lib.hid heb
      have hnq : (n - q = 0) = (t = 0) := by rw [ht]
      by_cases hqe : q = n
      · have ht0 : t = 0 := by omega
        subst ht0
        subst hqe
        have hE : eb = true := by
          rw [heb, HN.out]
          exact isPer_all zs
        subst hE
        have HE : Hid (pr = q) := by
          show _ = _
          rw [HPr.out]
          exact per_eq HEb.out.symm hq1 (by rw [← HN.out]; exact Nat.le_refl _) HP.out
        have HC1 : Hid (∀ x, Calls Try.prog 29 #[.slice (some ⟨b, 0, none⟩) 0 0, .slice (some ⟨b, 0, none⟩) 0 q] (wr.drewN x) fun e' w' => e' = .returned (.bool true) ∧ ∃ d, w' = (wr.drewN x).drewN d) := fun x => HCon.out ⟨b, 0, none⟩ _ (fun h => by omega) (below_drewN HB.out _)
        have w0 : IntKind.i64.wrap 0 = 0 := rfl
        clear hl1 hl2 ht heb hm hmn HCon hnq e3 e4 htn
        go_wp2_with fail
        go_quiet ((go_at_call 29; exact quiet_d1 (HC1.out _)))
        all_goals
          (go_wp2_with fail
           go_ret
           exact ⟨ret_int (by rw [HE.out]), below_drewN HB.out _⟩)
      · have hql : q < n := by omega
        have HC1 : Hid (∀ x, Calls Try.prog 29 #[.slice (some ⟨b, q, none⟩) t t, .slice (some ⟨b, 0, none⟩) t n] (wr.drewN x) fun e' w' => e' = .returned (.bool eb) ∧ ∃ d, w' = (wr.drewN x).drewN d) := fun x => HCon.out ⟨b, q, none⟩ _ (fun _ => rfl) (below_drewN HB.out _)
        have t0 : ¬ (n = q) := by omega
        have t1 : ¬ (t = 0) := by omega
        have ht2 : n - q = t := ht.symm
        clear hl1 hl2 ht heb hm hmn HCon hnq hqe
        cases eb with
        | false =>
          have HP2 : Hid (∀ r, 1 ≤ r → r < q + 1 → isPer zs r = false) := fun r a b => by
            by_cases e : r = q
            · subst e; exact HEb.out.symm
            · exact HP.out r a (by omega)
          go_wp2_with fail
          go_quiet ((go_at_call 29; exact quiet_d1 (HC1.out _)))
          all_goals
            (go_wp2_with fail
             go_roundw
             case rel => exact ⟨q + 1, by omega, by omega, by go_num, below_drewN HB.out _, HP2⟩
             case measure => simp [intOf]; omega)
        | true =>
          have HE : Hid (pr = q) := by
            show _ = _
            rw [HPr.out]
            exact per_eq HEb.out.symm hq1 (by rw [← HN.out]; exact hqn) HP.out
          go_wp2_with fail
          go_quiet ((go_at_call 29; exact quiet_d1 (HC1.out _)))
          all_goals
            (go_wp2_with fail
             go_ret
             exact ⟨ret_int (by rw [HE.out]), below_drewN HB.out _⟩)

end La
end Go.Proofs.Ytogfpgkdofhoaaa

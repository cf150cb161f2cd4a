/- The walk of slices.Reverse of numbers. -/
import Derived.Test.YtkeokgeaekjgeaaBl
namespace Go.Proofs.Ytkeokgeaekjgeaa
open Go.RowKit

/-- The list when i pairs have been exchanged. -/
def Rev (zs L : List Int) (i : Nat) : Prop := L.length = zs.length ∧ ∀ k, k < zs.length → L[k]? = if k < i ∨ zs.length - i ≤ k then zs[zs.length - 1 - k]? else zs[k]?
theorem Rev.start (zs : List Int) : Rev zs zs 0 := ⟨rfl, fun k hk => by rw [if_neg (by omega)]⟩
theorem Rev.stop {zs L : List Int} {i : Nat} (h : Rev zs L i) (hi : zs.length ≤ i + i + 1) (hi2 : i + i ≤ zs.length) : L = zs.reverse := by
  apply List.ext_getElem?
  intro k
  by_cases hk : k < zs.length
  · rw [h.2 k hk, List.getElem?_reverse hk]
    by_cases hc : k < i ∨ zs.length - i ≤ k
    · rw [if_pos hc]
    · rw [if_neg hc, show zs.length - 1 - k = k by omega]
  · rw [List.getElem?_eq_none (by rw [h.1]; omega), List.getElem?_eq_none (by rw [List.length_reverse]; omega)]
theorem Rev.swap {zs L : List Int} {i : Nat} (h : Rev zs L i) (hi : i + i + 1 < zs.length) {a b : Int} (ha : L[i]? = some a) (hb : L[zs.length - 1 - i]? = some b) : Rev zs ((L.set i b).set (zs.length - 1 - i) a) (i + 1) := by
  refine ⟨by simp [h.1], fun k hk => ?_⟩
  have h1 := h.2 i (by omega)
  have h2 := h.2 (zs.length - 1 - i) (by omega)
  rw [if_neg (by omega), ha] at h1
  rw [if_neg (by omega), hb] at h2
  by_cases e1 : k = zs.length - 1 - i
  · subst e1
    rw [List.getElem?_set_self (by rw [List.length_set, h.1]; omega), if_pos (by omega), show zs.length - 1 - (zs.length - 1 - i) = i by omega]
    exact h1
  · rw [List.getElem?_set_ne (Ne.symm e1)]
    by_cases e2 : k = i
    · subst e2
      rw [List.getElem?_set_self (by rw [h.1]; omega), if_pos (by omega)]
      exact h2
    · rw [List.getElem?_set_ne (Ne.symm e2), h.2 k hk]
      by_cases hc : k < i ∨ zs.length - i ≤ k
      · rw [if_pos hc, if_pos (by omega)]
      · rw [if_neg hc, if_neg (by omega)]

theorem IRow.drew {w : World} {g : Nat} {zs : List Int} (h : IRow w g zs) : IRow w.drew g zs := h
theorem Tw.drew {a b : Nat} {w w' : World} (h : Tw a b w w') : Tw a b w w'.drew := ⟨h.os, h.tape, h.output, h.size, h.other⟩

set_option maxHeartbeats 1000000 in
set_option maxRecDepth 100000 in
theorem reverse_any (zs : List Int) (g cap : Nat) (w : World) (hl1 : 1 ≤ zs.length) (hl : zs.length ≤ 1000) (hI : IRow w g zs) :
    Calls Try.prog 27 #[.slice (some ⟨g, 0, none⟩) zs.length cap] w fun e' w' => e' = .returned (.tuple #[]) ∧ IRow w' g zs.reverse ∧ Tw g g w w' := by
  obtain ⟨n, hn⟩ : ∃ n, n = zs.length := ⟨_, rfl⟩
  rw [← hn] at hl hl1 ⊢
  have HN := Lib.hid hn
  have HI := Lib.hid hI
  have e0 : IntKind.i64.wrap ((n : Int) - 1) = ((n - 1 : Nat) : Int) := by rw [show (n : Int) - 1 = ((n - 1 : Nat) : Int) by omega]; exact IntWalk.i64_in _ (by omega)
  clear hn hI
  go_enter Try.func27, Try.ntmps27
  go_wp2_with fail
  go_loopw [2, 3] (fun a b wl => ∃ (i : Nat) (L : List Int), i + i ≤ n ∧ a = .int .i64 i ∧ b = .int .i64 ((n : Int) - 1 - i) ∧ Hid (Rev zs L i) ∧ Hid (IRow wl g L) ∧ Hid (Tw g g w wl)) (fun a _ _ => n - (intOf a).toNat)
  case atStart => exact ⟨0, zs, by omega, rfl, by congr 1; omega, Rev.start _, HI, Tw.refl _ _ _⟩
  case round =>
    clear HI e0
    obtain ⟨i, L, hi, rfl, rfl, HR, HL, HT⟩ := hrel
    by_cases hlt : i + i + 1 < n
    · obtain ⟨j, hj⟩ : ∃ j, j = n - 1 - i := ⟨_, rfl⟩
      have hjI : (n : Int) - 1 - i = j := by omega
      rw [hjI]
      obtain ⟨a, ha⟩ : ∃ a, L[i]? = some a := ⟨_, List.getElem?_eq_getElem (by rw [HR.out.1, ← HN.out]; omega)⟩
      obtain ⟨b, hb⟩ : ∃ b, L[j]? = some b := ⟨_, List.getElem?_eq_getElem (by rw [HR.out.1, ← HN.out]; omega)⟩
      have hij : i < j := by omega
      have hjn : j < n := by omega
      have HR1 : Hid (Rev zs ((L.set i b).set j a) (i + 1)) := by
        have h := HR.out.swap (by rw [← HN.out]; omega) ha (by rw [← HN.out, ← hj]; exact hb)
        rw [← HN.out, ← hj] at h
        exact h
      have HLl : Hid (L.length = n) := HR.out.1.trans HN.out.symm
      have cI := HL.out.cell ha
      have cJ := HL.out.cell hb
      have zI := HL.out.frozen i
      have zJ := HL.out.frozen j
      have hin : i < n := by omega
      have HJ := Lib.hid hj
      have hjI2 : ((j : Int) - 1) = (n : Int) - 1 - ((i + 1 : Nat) : Int) := by omega
      have HJ2 := Lib.hid hjI2
      have hne1 : ¬ i = j := by omega
      have hne2 : ¬ j = i := by omega
      clear ha hb hj hjI hjI2
      have HA : Hid (IRow ((wr.setCell ⟨g, i, none⟩ (.int .i64 b)).setCell ⟨g, j, none⟩ (.int .i64 a)) g ((L.set i b).set j a)) := by
        have h0 : IRow wr g L := HL.out
        exact (h0.set (m := i) (by rw [HLl.out]; omega) b).set (m := j) (by rw [List.length_set, HLl.out]; omega) a
      go_wp2_with fail
      go_region
      all_goals (try go_wp2)
      all_goals
        (go_roundw
         case rel => exact ⟨i + 1, _, by omega, by go_num, by rw [← HJ2.out], HR1, IRow.drew HA.out, Tw.drew ((HT.out.sa _ _).sa _ _)⟩
         case measure => simp [intOf]; omega)
    · have HE : Hid (IRow wr g zs.reverse) := by
        have h := HR.out.stop (by rw [← HN.out]; omega) (by rw [← HN.out]; omega)
        show IRow _ _ _
        rw [← h]
        exact HL.out
      have hle : ¬ ((i : Int) < (n : Int) - 1 - i) := by omega
      go_wp2_with fail
      refine bodyPost_end (results_none rfl _ _ _) rfl ?_
      exact ⟨rfl, HE.out, HT.out⟩

end Go.Proofs.Ytkeokgeaekjgeaa

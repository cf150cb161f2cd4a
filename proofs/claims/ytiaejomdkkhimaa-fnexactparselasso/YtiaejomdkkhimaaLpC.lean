/- The walks of internal/stringslite.HasSuffix, CutSuffix and strings.CutSuffix with a closing bracket. -/
import Derived.Test.YtiaejomdkkhimaaLpP
namespace Go.Proofs.Ytiaejomdkkhimaa
namespace La
open Go.RowKit

theorem last_extract {t : ByteArray} {n : Nat} (hn : t.size = n + 1) : (t.extract n t.size).toList = [t[n]!] := by
  have hk : n < t.size := by omega
  rw [Lib.toList_data]
  apply List.ext_getElem
  · rw [Array.length_toList]
    show (t.extract n t.size).size = 1
    rw [ByteArray.size_extract]
    omega
  · intro i h1 h2
    have hi : i = 0 := by simp at h2; exact h2
    subst hi
    rw [getElem!_pos t n hk]
    simp
    rfl

set_option maxHeartbeats 400000 in
set_option maxRecDepth 100000 in
theorem hasSuf_any (t : ByteArray) (w : World) (hs : t.size ≤ 1048576) : Calls Try.prog 53 #[.string t, .string ⟨#[41]⟩] w fun e' w' => e' = .returned (.bool (endB t)) ∧ w = w' := by
  by_cases h0 : t.size = 0
  · have HE : Hid (endB t = false) := by show _ = _; unfold endB; rw [decide_eq_false (by omega)]; rfl
    have z : (⟨#[41]⟩ : ByteArray).size = 1 := rfl
    have h1 : ¬ (1 ≤ t.size) := by omega
    go_enter Try.func53, Try.ntmps53
    go_wp2_with fail
    go_ret
    exact ⟨ret_bool HE.out.symm, rfl⟩
  · obtain ⟨n, hn⟩ : ∃ n, t.size = n + 1 := ⟨t.size - 1, by omega⟩
    have hl := last_extract hn
    have e1 : IntKind.i64.wrap ((t.size : Int) - 1) = (n : Int) := by rw [IntWalk.i64_in _ (by omega)]; omega
    have e2 : (t.size : Int) - 1 = (n : Int) := by omega
    obtain ⟨b, hb⟩ : ∃ b, b = endB t := ⟨_, rfl⟩
    have hE : endB t = decide (t[n]! = 41) := by unfold endB; rw [decide_eq_true (by omega), show t.size - 1 = n by omega]; rfl
    have q1 : ((t.extract n t.size).toList == [41]) = b := by rw [hl, hb, hE, Bool.eq_iff_iff]; simp
    have q2 : ([41] == (t.extract n t.size).toList) = b := by rw [hl, hb, hE, Bool.eq_iff_iff]; simp; exact eq_comm
    rw [← hb]
    have h1 : 1 ≤ t.size := by omega
    clear hl hE hb h0 hn
    go_enter Try.func53, Try.ntmps53
    go_wp2_with fail
    go_ret
    exact ⟨rfl, rfl⟩

def chopA (t : ByteArray) : ByteArray := if endB t then chop t else t

set_option maxHeartbeats 400000 in
set_option maxRecDepth 100000 in
theorem cutSufL_any (t : ByteArray) (w : World) (hs : t.size ≤ 1048576) : Calls Try.prog 50 #[.string t, .string ⟨#[41]⟩] w fun e' w' => e' = .returned (.tuple #[.string (chopA t), .bool (endB t)]) ∧ w = w' := by
  have HS := Lib.hid (hasSuf_any t w hs)
  obtain ⟨b, hb⟩ : ∃ b, b = endB t := ⟨_, rfl⟩
  obtain ⟨A, hA⟩ : ∃ A, A = chopA t := ⟨_, rfl⟩
  have HB := Lib.hid hb
  have HA := Lib.hid hA
  rw [← hb] at HS ⊢
  rw [← hA]
  clear hb hA
  cases b
  · have hA2 : A = t := by rw [HA.out]; unfold chopA; rw [← HB.out]; rfl
    subst hA2
    go_enter Try.func50, Try.ntmps50
    go_wp2_with fail
    refine HS.out.mono ?_
    rintro e' w1 ⟨rfl, rfl⟩
    go_wp2_with fail
    refine bodyPost_ret (v := .tuple #[.string A, .bool false]) (by simp [results, Try.results50, go_sem]) rfl ?_
    exact ⟨rfl, rfl⟩
  · obtain ⟨hp, _⟩ := endB_parts HB.out.symm
    have hA2 : Hid (A = t.extract 0 (t.size - 1)) := by show _ = _; rw [HA.out]; unfold chopA; rw [← HB.out]; rfl
    obtain ⟨n, hn⟩ : ∃ n, n = t.size - 1 := ⟨_, rfl⟩
    rw [← hn] at hA2
    have e2 : (t.size : Int) - 1 = (n : Int) := by omega
    have hnt : n ≤ t.size := by omega
    clear hn
    go_enter Try.func50, Try.ntmps50
    go_wp2_with fail
    refine HS.out.mono ?_
    rintro e' w1 ⟨rfl, rfl⟩
    go_wp2_with fail
    refine bodyPost_ret (v := .tuple #[.string (t.extract 0 n), .bool true]) (by simp [results, Try.results50, go_sem]) rfl ?_
    exact ⟨by rw [hA2.out], rfl⟩

set_option maxHeartbeats 400000 in
set_option maxRecDepth 100000 in
theorem cutSuf_any (t : ByteArray) (w : World) (hs : t.size ≤ 1048576) : Calls Try.prog 45 #[.string t, .string ⟨#[41]⟩] w fun e' w' => e' = .returned (.tuple #[.string (chopA t), .bool (endB t)]) ∧ w = w' := by
  have HS := Lib.hid (cutSufL_any t w hs)
  obtain ⟨b, hb⟩ : ∃ b, b = endB t := ⟨_, rfl⟩
  obtain ⟨A, hA⟩ : ∃ A, A = chopA t := ⟨_, rfl⟩
  rw [← hb, ← hA] at HS ⊢
  clear hb hA
  go_enter Try.func45, Try.ntmps45
  go_wp2_with fail
  refine HS.out.mono ?_
  rintro e' w1 ⟨rfl, rfl⟩
  go_wp2_with fail
  refine bodyPost_ret (v := .tuple #[.string A, .bool b]) (by simp [results, Try.results45, go_sem]) rfl ?_
  exact ⟨rfl, rfl⟩

end La
end Go.Proofs.Ytiaejomdkkhimaa

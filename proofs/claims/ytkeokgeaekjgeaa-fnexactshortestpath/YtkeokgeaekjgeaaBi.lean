/- The walks of math/bits.Mul64 and math/bits.Mul for a factor of 1. -/
import Derived.Test.YtkeokgeaekjgeaaBg
import Derived.Laws.CopyOwn
import Derived.Deep.RegionLaw
import Derived.Deep.RegionWith
import Derived.Deep.Cut
import Derived.Deep.CutRange
namespace Go.Proofs.Ytkeokgeaekjgeaa
open Go.RowKit

theorem and_low {n : Nat} (hn : n ≤ 60) : bits .and .u64 (n : Int) 4294967295 = n := by
  have h := u64_and_nat n 4294967295 (by omega) (by decide)
  rw [show (4294967295 : Int) = ((4294967295 : Nat) : Int) from rfl, h, show (4294967295 : Nat) = 2 ^ 32 - 1 from rfl, Nat.and_two_pow_sub_one_eq_mod]
  omega

set_option maxHeartbeats 400000 in
theorem mul64_any (n : Nat) (w : World) (hn : n ≤ 60) : Calls Try.prog 51 #[.int .u64 1, .int .u64 n] w fun e' w' => e' = .returned (.tuple #[.int .u64 0, .int .u64 n]) ∧ w = w' := by
  have e1 : bits .and .u64 1 4294967295 = 1 := by kernel_rfl
  have e2 := and_low hn
  have e3 : (n : Int) / 4294967296 = 0 := by omega
  have e0 : bits .and .u64 0 4294967295 = 0 := by kernel_rfl
  go_enter Try.func51, Try.ntmps51
  go_wp2_with fail
  go_ret2
  exact ⟨rfl, rfl⟩

set_option maxHeartbeats 400000 in
theorem mul_any (n : Nat) (w : World) (hn : n ≤ 60) : Calls Try.prog 44 #[.int .u64 1, .int .u64 n] w fun e' w' => e' = .returned (.tuple #[.int .u64 0, .int .u64 n]) ∧ w = w' := by
  go_enter Try.func44, Try.ntmps44
  go_wp2_with fail
  refine (mul64_any n w hn).mono ?_
  rintro e' w1 ⟨rfl, rfl⟩
  go_wp2_with fail
  go_ret2
  exact ⟨rfl, rfl⟩

/-- What slices.Repeat leaves of a list with the one element -1. -/
def RepPost (n : Nat) (w : World) (e' : Ending) (w' : World) : Prop :=
  ∃ g : Nat, e' = .returned (.slice (some ⟨g, 0, none⟩) n n) ∧ w.heap.size ≤ g ∧ Row w' g 3 (Array.replicate n (.int .i64 (-1))) ∧ Below w.heap.size w w'

/-- The first c cells hold -1. -/
def Neg (L : List Value) (n c : Nat) : Prop := L.length = n ∧ ∀ i, i < c → L[i]? = some (.int .i64 (-1))
theorem neg_splice {L : List Value} {n c k : Nat} (h : Neg L n c) (hk : c + k ≤ n) : Neg (splice L c (List.replicate k (.int .i64 (-1)))) n (c + k) := by
  refine ⟨by rw [length_splice _ _ _ (by rw [List.length_replicate, h.1]; exact hk)]; exact h.1, fun i hi => ?_⟩
  unfold splice
  by_cases hc : i < c
  · rw [List.getElem?_append_left (by rw [List.length_take, h.1]; omega), List.getElem?_take_of_lt hc]
    exact h.2 i hc
  · rw [List.getElem?_append_right (by rw [List.length_take, h.1]; omega), List.length_take, h.1, List.getElem?_append_left (by rw [List.length_replicate]; omega), List.getElem?_replicate, if_pos (by omega)]
theorem neg_full {L : List Value} {n : Nat} (h : Neg L n n) : L.toArray = Array.replicate n (.int .i64 (-1)) := by
  apply Array.ext
  · simp [h.1]
  · intro i h1 h2
    have h3 := h.2 i (by simpa using h2)
    simp at h1
    have h4 := (List.getElem?_eq_some_iff.1 h3).2
    simpa using h4

set_option maxHeartbeats 2000000 in
set_option maxRecDepth 100000 in
theorem repeat_any (n gx : Nat) (w : World) (hn1 : 1 ≤ n) (hn : n ≤ 60) (hx : Row w gx 3 #[.int .i64 (-1)]) : Calls Try.prog 33 #[.slice (some ⟨gx, 0, none⟩) 1 1, .int .i64 n] w (RepPost n w) := by
  obtain ⟨i0, hi0, hz0, hz1, hz2⟩ := info_parts Try.info3
  have hmk := run_make_of (P := Try.prog) 27 3 i0 _ Try.underlying27 hi0 hz0 n (by rw [hz2]; omega) (by omega)
  rw [hz1, Nat.mul_one] at hmk
  have hsz : (Try.prog.info? 3).map (·.size) = some 1 := by rw [hi0]; simp [hz1]
  clear hi0 hz0 hz1 hz2
  obtain ⟨cs, hcs⟩ : ∃ cs, cs = madeCells (Value.cells (.int .i64 0)) n := ⟨_, rfl⟩
  rw [← hcs] at hmk
  have hcl : cs.toList.length = n := by rw [hcs, Array.length_toList, size_madeCells]
  have HX := Lib.hid hx
  have hxl := hx.lt
  have HSZ := Lib.hid hsz
  have HCL := Lib.hid hcl
  have e1 : IntKind.u64.wrap (n : Int) = n := by rw [IntKind.wrap_u64]; omega
  have e2 : IntKind.i64.wrap (n : Int) = n := IntWalk.i64_in _ (by omega)
  clear hcs hx hsz hcl
  go_enter Try.func33, Try.ntmps33
  go_wp2_with fail
  refine (mul_any n w hn).mono ?_
  rintro e' w1 ⟨rfl, rfl⟩
  have HG1 : Hid ((w.alloc (.cells cs 3)).heap[w.heap.size]? = some (.cells cs.toList.toArray 3 (0, 0))) := Row.new w _ cs
  have HB1 : Hid (Below w.heap.size w (w.alloc (.cells cs 3))) := (Below.refl _ _).alloc (Nat.le_refl _) _
  have HX1 : Hid (∀ (j : Nat) (v : Value), ([.int .i64 (-1)] : List Value)[j]? = some v → (w.alloc (.cells cs 3)).cell? ((⟨gx, 0, none⟩ : Addr).add j) = some v) := fun j v hj => by
    have h := (HX.out.under HB1.out hxl).cell j
    rw [Addr.add_lit, Nat.zero_add, h]
    rw [← hj, List.getElem?_toArray]
  have HM1 : Hid ([Value.int .i64 (-1)].length = Nat.min 1 n) := by show 1 = Nat.min 1 n; simp only [Nat.min_def]; split <;> omega
  have HF1 : Hid (0 + [Value.int .i64 (-1)].length ≤ cs.toList.length) := by show _ ≤ _; rw [HCL.out]; simp; omega
  obtain ⟨w2, hcp, HG2, hb2⟩ : ∃ w2, (Builtin.copy_ #[27, 27] 3 #[.slice (some ⟨w.heap.size, 0, none⟩) n n, .slice (some ⟨gx, 0, none⟩) 1 1]).run Try.prog (w.alloc (.cells cs 3)) = .ok (goInt 1) w2 ∧ Hid (w2.heap[w.heap.size]? = some (.cells (splice cs.toList 0 [.int .i64 (-1)]).toArray 3 (0, 0))) ∧ Below w.heap.size w w2 := by
    refine ⟨_, run_copy_row (P := Try.prog) (w.alloc (.cells cs 3)) 27 27 3 3 w.heap.size 0 n n ⟨gx, 0, none⟩ 1 1 cs.toList.toArray 3 [.int .i64 (-1)] Try.underlying27 HSZ.out HG1.out HM1.out HX1.out (by simpa using HF1.out) (by simp [Value.oneCell']), ?_, below_setRow HB1.out (Nat.le_refl _) _⟩
    show _ = _
    simpa [splice] using setRow_heap _ _ _ _ _ _ HG1.out
  go_wp2_with fail
  clear hcp
  have HB2 := Lib.hid hb2
  obtain ⟨L0, hL0⟩ : ∃ L0, L0 = splice cs.toList 0 [.int .i64 (-1)] := ⟨_, rfl⟩
  rw [← hL0] at HG2
  have HN0 : Hid (Neg L0 n 1) := by
    show Neg _ _ _
    rw [hL0]
    have h := neg_splice (L := cs.toList) (n := n) (c := 0) (k := 1) ⟨HCL.out, fun i hi => by omega⟩ (by omega)
    rw [Nat.zero_add] at h
    exact h
  clear hb2 hL0 HG1 HB1 HX1
  go_wp2_with fail
  go_loopw [8] (fun v wl => ∃ (c : Nat) (L : List Value), 1 ≤ c ∧ c ≤ n ∧ v = .int .i64 c ∧ Hid (Neg L n c) ∧ Hid (wl.heap[w.heap.size]? = some (.cells L.toArray 3 (0, 0))) ∧ Hid (Below w.heap.size w wl)) (fun v _ => n - (intOf v).toNat)
  case atStart => exact ⟨1, L0, Nat.le_refl _, hn1, rfl, HN0, HG2, HB2⟩
  case round =>
    clear HN0 HG2 HB2
    obtain ⟨c, L, hc1, hcn, rfl, HN, HG, HB⟩ := hrel
    by_cases hlt : c < n
    · obtain ⟨k, hk⟩ : ∃ k, k = Nat.min c (n - c) := ⟨_, rfl⟩
      have hk1 : 1 ≤ k := by rw [hk]; simp only [Nat.min_def]; split <;> omega
      have hk2 : c + k ≤ n := by rw [hk]; simp only [Nat.min_def]; split <;> omega
      have hkc : k ≤ c := by rw [hk]; exact Nat.min_le_left _ _
      have HK := Lib.hid hk
      obtain ⟨R, hR⟩ : ∃ R, R = List.replicate k (Value.int .i64 (-1)) := ⟨_, rfl⟩
      have HRl : Hid (R.length = Nat.min c (n - c)) := by show _ = _; rw [hR, List.length_replicate, hk]
      have HRk : Hid (R.length = k) := by show _ = _; rw [hR, List.length_replicate]
      have HR1 : Hid (∀ v ∈ R, v.oneCell' = true) := fun v hv => by rw [hR] at hv; rw [List.eq_of_mem_replicate hv]; rfl
      have HSrc : Hid (∀ (j : Nat) (v : Value), R[j]? = some v → wr.cell? ((⟨w.heap.size, 0, none⟩ : Addr).add j) = some v) := fun j v hj => by
        rw [hR] at hj
        have hjk : j < k := by have := (List.getElem?_eq_some_iff.1 hj).1; simpa using this
        rw [List.getElem?_replicate, if_pos hjk] at hj
        have h := (show Row wr w.heap.size 3 L.toArray from HG.out).cell j
        rw [Addr.add_lit, Nat.zero_add, h]
        rw [List.getElem?_toArray, HN.out.2 j (by omega)]
        exact hj
      have HFit : Hid (c + R.length ≤ L.length) := by show _ ≤ _; rw [HN.out.1, hR, List.length_replicate]; exact hk2
      have HN1 : Hid (Neg (splice L c R) n (c + k)) := by rw [hR]; exact neg_splice HN.out hk2
      have hnc : ¬ n = c := by omega
      clear hk hR
      have e3 : IntKind.i64.wrap ((c : Int) + (k : Int)) = ((c + k : Nat) : Int) := IntWalk.i64_in _ (by omega)
      obtain ⟨w3, hcp, HG3, HB3⟩ : ∃ w3, (Builtin.copy_ #[27, 27] 3 #[.slice (some ⟨w.heap.size, c, none⟩) (n - c) (n - c), .slice (some ⟨w.heap.size, 0, none⟩) c n]).run Try.prog wr.drew = .ok (.int .i64 (k : Int)) w3 ∧ Hid (w3.heap[w.heap.size]? = some (.cells (splice L c R).toArray 3 (0, 0))) ∧ Hid (Below w.heap.size w w3) := by
        refine ⟨wr.drew.setRow w.heap.size (L.toArray.toList.take c ++ R ++ L.toArray.toList.drop (c + R.length)).toArray, ?_, ?_, below_setRow HB.out.drew (Nat.le_refl _) _⟩
        · have h := run_copy_row (P := Try.prog) wr.drew 27 27 3 3 w.heap.size c (n - c) (n - c) ⟨w.heap.size, 0, none⟩ c n L.toArray 3 R Try.underlying27 HSZ.out HG.out HRl.out HSrc.out (by simpa using HFit.out) HR1.out
          rw [HRk.out] at h
          rw [HRk.out]
          exact h
        · show _ = _
          simpa [splice] using setRow_heap wr.drew _ _ _ _ _ HG.out
      go_wp2_with fail
      go_region
      all_goals (try go_wp2)
      all_goals
        (go_roundw
         case rel => exact ⟨c + k, _, by omega, hk2, by go_num, HN1, HG3, HB3⟩
         case measure => simp [intOf]; omega)
    · have hcc : c = n := by omega
      subst hcc
      have HF : Hid (RepPost c w (.returned (.slice (some ⟨w.heap.size, 0, none⟩) c c)) wr) := ⟨w.heap.size, rfl, Nat.le_refl _, by have h := HG.out; rw [neg_full HN.out] at h; exact h, HB.out⟩
      go_wp2_with fail
      go_ret
      exact HF.out

end Go.Proofs.Ytkeokgeaekjgeaa

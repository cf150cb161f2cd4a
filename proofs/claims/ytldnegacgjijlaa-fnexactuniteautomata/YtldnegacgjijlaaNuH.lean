/- The walks of slices.Grow from nil and of slices.Concat of two rows of truth values. -/
import Derived.Test.YtldnegacgjijlaaNuD
import Derived.Lib.AppendZeros
import Derived.IntWalk
namespace Go.Proofs.Ytldnegacgjijlaa
namespace Lb
open Go.RowKit

theorem run_grow (X : World) (ty : TypeId) (n : Nat) (h0 : 0 < n) (hn : n ≤ 1048576) : ∃ (k : Nat) (cs : Array Value), (Builtin.append_ #[27, 3] ty #[.slice none 0 0, .int .i64 (n : Int)]).run Try.prog X = .ok (.slice (some ⟨X.heap.size, 0, none⟩) n k) (X.drew.alloc (.cells cs 4)) ∧ OwnI (X.drew.alloc (.cells cs 4)) X.heap.size X.heap.size [] k := by
  obtain ⟨i0, hi0, hz0, hz1, hz2⟩ := info_parts Try.info4
  have hr := Lib.run_append_nil_zeros (P := Try.prog) X 27 3 ty 4 i0 (.bool false) .i64 .i64 Try.underlying27 Try.underlying3 hi0 hz0 n h0 (by rw [hz1]; decide) (by omega) (by rw [hz2]; omega)
  have hge := grownCap_ge X n 0 4
  have hle := grownCap_le_maxLen X n 0 4 (by unfold maxLen; omega)
  refine ⟨_, _, hr, rfl, .inr ⟨X.heap.size, _, _, rfl, Nat.le_refl _, heap_alloc_new X.drew _, Nat.zero_le _, hle, ?_, rfl⟩⟩
  rw [Array.size_append, size_zeroCells, size_zeroCells]
  show n * 1 + (_ - n) * 1 = _
  omega

def GrowPost (w : World) (e' : Ending) (w' : World) : Prop :=
  ∃ g k : Nat, e' = .returned (.slice (some ⟨g, 0, none⟩) 0 k) ∧ OwnI w' w.heap.size g [] k ∧ Below w.heap.size w w'

set_option maxHeartbeats 400000 in
set_option maxRecDepth 100000 in
theorem grow_any (n : Nat) (w : World) (h0 : 0 < n) (hn : n ≤ 1048576) : Calls Try.prog 113 #[.slice none 0 0, .int .i64 (n : Int)] w (GrowPost w) := by
  obtain ⟨k, cs, hr, ho⟩ := run_grow w 27 n h0 hn
  have HO := Lib.hid ho
  have HR := Lib.hid hr
  clear ho hr
  go_enter Try.func113, Try.ntmps113
  go_wp2_with (at_builtin; refine Lib.wpList_append_run _ rfl (.tmp 20) (.tmp 21) 27 3 rfl _ _ rfl rfl _ _ HR.out ?_)
  go_wp2_with fail
  go_ret
  exact ⟨w.heap.size, k, rfl, HO.out, ((Below.refl _ _).drew.alloc (Nat.le_refl _) _)⟩

/-- What a function leaves that gives a row of truth values of its own. -/
def RowPostO (zs : List Bool) (w : World) (e' : Ending) (w' : World) : Prop :=
  ∃ (g k : Nat), e' = .returned (.slice (some ⟨g, 0, none⟩) zs.length k) ∧ OwnI w' w.heap.size g zs k ∧ Below w.heap.size w w'
/-- The first rows, one behind another. -/
def cat2 (xs ys : List Bool) : Nat → List Bool
  | 0 => []
  | 1 => xs
  | _ => xs ++ ys

set_option maxHeartbeats 1000000 in
set_option maxRecDepth 100000 in
theorem concatO_any (xs ys : List Bool) (A B : Option Addr) (ca cb b off c pff q : Nat) (w : World) (h0 : 0 < xs.length + ys.length) (hz : xs.length + ys.length ≤ 1048576) (hq : q < w.heap.size)
    (hc0 : w.cell? ⟨q, 0, none⟩ = some (.slice A xs.length ca)) (hc1 : w.cell? ⟨q, 1, none⟩ = some (.slice B ys.length cb)) (hI : Bools w w.heap.size A b off xs) (hJ : Bools w w.heap.size B c pff ys) :
    Calls Try.prog 67 #[.slice (some ⟨q, 0, none⟩) 2 2] w (RowPostO (xs ++ ys) w) := by
  obtain ⟨n, hn⟩ : ∃ n, n = xs.length := ⟨_, rfl⟩
  obtain ⟨m, hm⟩ : ∃ m, m = ys.length := ⟨_, rfl⟩
  have HN := Lib.hid hn
  have HM := Lib.hid hm
  rw [← hn] at h0 hz hc0
  rw [← hm] at h0 hz hc1
  have HI := Lib.hid hI
  have HJ := Lib.hid hJ
  have HC : Hid (∀ W, Below w.heap.size w W → W.cell? ⟨q, 0, none⟩ = some (.slice A n ca) ∧ W.cell? ⟨q, 1, none⟩ = some (.slice B m cb)) := fun W hW =>
    ⟨(hW.cell (p := ⟨q, 0, none⟩) hq).trans hc0, (hW.cell (p := ⟨q, 1, none⟩) hq).trans hc1⟩
  clear hn hm hI hJ
  go_enter Try.func67, Try.ntmps67
  go_wp2_with fail
  go_loop [3, 11] (fun s i => ∃ j S : Nat, j ≤ 2 ∧ i = .int .i64 j ∧ s = .int .i64 S ∧ S ≤ n + m ∧ Hid (S = if j = 0 then 0 else if j = 1 then n else n + m)) (fun _ i => 2 - (intOf i).toNat)
  case atStart => exact ⟨0, 0, by omega, rfl, rfl, Nat.zero_le _, rfl⟩
  case round =>
    obtain ⟨j, S, hj, rfl, rfl, hS, HS⟩ := hrel
    by_cases e0 : j = 0
    · subst e0
      have hS0 : S = 0 := HS.out
      subst hS0
      go_wp2_with fail
      go_round
      case rel => exact ⟨1, n, by omega, rfl, by first | rfl | go_num, by omega, rfl⟩
      case measure => simp [intOf]
    by_cases e1 : j = 1
    · subst e1
      have hS1 : S = n := HS.out
      subst hS1
      go_wp2_with fail
      go_round
      case rel => exact ⟨2, S + m, by omega, rfl, by first | rfl | go_num, by omega, rfl⟩
      case measure => simp [intOf]
    have hj2 : j = 2 := by omega
    subst hj2
    have hS2 : S = n + m := HS.out
    subst hS2
    clear HS hS e0 e1 hj
    go_wp2_with fail
    refine (grow_any (n + m) w h0 hz).mono ?_
    rintro e' w1 ⟨g1, k1, rfl, ho1, hb1⟩
    have HO1 := Lib.hid ho1
    have HB1 := Lib.hid hb1
    clear ho1 hb1 hc0 hc1
    go_wp2_with fail
    go_loopw [6, 27] (fun s i wl => ∃ j g k : Nat, j ≤ 2 ∧ i = .int .i64 j ∧ s = .slice (some ⟨g, 0, none⟩) (cat2 xs ys j).length k ∧ Hid (OwnI wl w.heap.size g (cat2 xs ys j) k) ∧ Hid (Below w.heap.size w wl)) (fun _ i _ => 2 - (intOf i).toNat)
    case atStart => exact ⟨0, g1, k1, by omega, rfl, rfl, HO1, HB1⟩
    case round =>
      obtain ⟨j, g, k, hj, rfl, rfl, HO, HB⟩ := hrel
      obtain ⟨c0, c1⟩ := HC.out wr HB.out
      have hzr : w.heap.size ≤ wr.heap.size := HB.out.size
      have hgb : w.heap.size ≤ g := HO.out.le
      by_cases e0 : j = 0
      · subst e0
        have HIr := Lib.hid (HI.out.under HB.out HB.out.size)
        go_wp2_with (at_builtin; refine wpList_ints rfl (.tmp 31) (.tmp 32) rfl w.heap.size g k [] xs A b off ca rfl (by rw [← HN.out]; rfl) HO.out HIr.out (by rw [← HN.out]; simp; omega) hzr ?_; intro g2 k2 w2 hown hgrow hat hlt)
        have HO2 : Hid (OwnI w2 w.heap.size g2 (cat2 xs ys 1) k2) := hown
        have HB2 : Hid (Below w.heap.size w w2) := Below.grow HB.out hgrow hzr hgb
        clear hown hgrow hat HO HB
        go_wp2_with fail
        go_roundw
        case rel => exact ⟨1, g2, k2, by omega, rfl, rfl, HO2, HB2⟩
        case measure => simp [intOf]
      by_cases e1 : j = 1
      · subst e1
        have HIr := Lib.hid (HJ.out.under HB.out HB.out.size)
        go_wp2_with (at_builtin; refine wpList_ints rfl (.tmp 31) (.tmp 32) rfl w.heap.size g k xs ys B c pff cb rfl (by rw [← HM.out]; rfl) HO.out HIr.out (by rw [← HM.out, ← HN.out]; omega) hzr ?_; intro g2 k2 w2 hown hgrow hat hlt)
        have HO2 : Hid (OwnI w2 w.heap.size g2 (cat2 xs ys 2) k2) := hown
        have HB2 : Hid (Below w.heap.size w w2) := Below.grow HB.out hgrow hzr hgb
        clear hown hgrow hat HO HB
        go_wp2_with fail
        go_roundw
        case rel => exact ⟨2, g2, k2, by omega, rfl, (by show _ = Value.slice _ (xs ++ ys).length _; rw [List.length_append]), HO2, HB2⟩
        case measure => simp [intOf]
      have hj2 : j = 2 := by omega
      subst hj2
      have HF : Hid (RowPostO (xs ++ ys) w (.returned (.slice (some ⟨g, 0, none⟩) (cat2 xs ys 2).length k)) wr) :=
        ⟨g, k, rfl, HO.out, HB.out⟩
      go_wp2_with fail
      go_ret
      exact HF.out

end Lb
end Go.Proofs.Ytldnegacgjijlaa

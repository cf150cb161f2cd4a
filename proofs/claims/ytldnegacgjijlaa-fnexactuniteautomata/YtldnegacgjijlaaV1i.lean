/- Slices of numbers: the walks of laws.eqIntS, laws.toIntS and what they leave; values of variables as plain data. -/
import Derived.Test.YtldnegacgjijlaaBs
import Derived.Test.YtldnegacgjijlaaIv
import Derived.Test.YtldnegacgjijlaaV1q
namespace Go.Proofs.Ytldnegacgjijlaa
open Go.RowKit

set_option maxHeartbeats 400000 in
theorem eqInts_any (zs : List Int) (A A' : Option Addr) (cap b off cap' b' off' : Nat) (w : World) (hl : zs.length ≤ maxLen) (hI : Ints w w.heap.size A b off zs) (hI' : Ints w w.heap.size A' b' off' zs) :
    Calls Try.prog 33 #[.slice A zs.length cap, .slice A' zs.length cap'] w fun e' w' => e' = .returned (.bool true) ∧ Below w.heap.size w w' := by
  unfold maxLen at hl
  have HI := Lib.hid hI
  have HI' := Lib.hid hI'
  clear hI hI'
  go_enter Try.func33, Try.ntmps33
  go_wp2_with fail
  go_loopw [5] (fun i wl => ∃ j n : Nat, j ≤ zs.length ∧ i = .int .i64 j ∧ wl = w.drewN n) (fun i _ => zs.length - (intOf i).toNat)
  case atStart => exact ⟨0, 0, Nat.zero_le _, rfl, rfl⟩
  case round =>
    obtain ⟨j, n, hj, rfl, rfl⟩ := hrel
    by_cases hlt : j < zs.length
    · obtain ⟨z, hz⟩ : ∃ z, zs[j]? = some z := ⟨_, List.getElem?_eq_getElem hlt⟩
      obtain ⟨rfl, hb, g0⟩ := HI.out j z hz
      obtain ⟨rfl, hb', g0'⟩ := HI'.out j z hz
      clear hz
      go_wp2_with fail
      go_quiet (fail)
      go_wp2_with fail
      go_roundw
      case rel => exact ⟨j + 1, _, by omega, by go_num, rfl⟩
      case measure => simp [intOf]; omega
    · go_wp2_with fail
      go_ret
      exact ⟨rfl, below_drewN (Below.refl _ _) _⟩

/-- The first j numbers have been laid. -/
def LaidI (w : World) (g : Nat) (zs : List Int) (j : Nat) : Prop :=
  ∃ cs : Array Value, Row w g 3 cs ∧ cs.size = zs.length ∧ ∀ (i : Nat) (z : Int), zs[i]? = some z → i < j → cs[i]? = some (.int .i64 z)

theorem Try.info3 : (Try.prog.info? 3).map (fun i => (i.zero, i.size, i.bytes)) = some (some (.int .i64 0), 1, 8) := by kernel_rfl

/-- What a copy of a slice of ints leaves. -/
def ToIPost (zs : List Int) (w : World) (e' : Ending) (w' : World) : Prop :=
  ∃ g : Nat, e' = .returned (.slice (some ⟨g, 0, none⟩) zs.length zs.length) ∧ w.heap.size ≤ g ∧ LaidI w' g zs zs.length ∧ Below w.heap.size w w'

theorem LaidI.ints {w : World} {g : Nat} {zs : List Int} (h : LaidI w g zs zs.length) : Ints w w.heap.size (some ⟨g, 0, none⟩) g 0 zs := fun i z hz => by
  obtain ⟨cs, hr, hs, hk⟩ := h
  refine ⟨rfl, hr.lt, ?_⟩
  rw [hr.cell, Nat.zero_add]
  exact hk i z hz (List.getElem?_eq_some_iff.1 hz).1

set_option maxHeartbeats 400000 in
theorem toInts_any (zs : List Int) (A : Option Addr) (cap b off : Nat) (w : World) (hl : zs.length ≤ 1048576) (hI : Ints w w.heap.size A b off zs) :
    Calls Try.prog 53 #[.slice A zs.length cap] w (ToIPost zs w) := by
  have HI := Lib.hid hI
  clear hI
  obtain ⟨i0, hi0, hz0, hz1, hz2⟩ := info_parts Try.info3
  have hmk := run_make_of (P := Try.prog) 22 3 i0 _ Try.underlying22 hi0 hz0 zs.length (by rw [hz2]; omega) (by omega)
  rw [hz1] at hmk
  clear hi0 hz0 hz1 hz2
  obtain ⟨cs, hcs⟩ : ∃ cs, cs = madeCells (Value.cells (.int .i64 0)) (zs.length * 1) := ⟨_, rfl⟩
  have hsz : cs.size = zs.length := by rw [hcs, size_madeCells]; omega
  rw [← hcs] at hmk
  have HSZ := Lib.hid hsz
  clear hcs hsz
  go_enter Try.func53, Try.ntmps53
  go_wp2_with fail
  go_loopw [4] (fun i wl => ∃ j : Nat, j ≤ zs.length ∧ i = .int .i64 j ∧ Hid (LaidI wl w.heap.size zs j) ∧ Hid (Below w.heap.size w wl)) (fun i _ => zs.length - (intOf i).toNat)
  case atStart => exact ⟨0, Nat.zero_le _, rfl, ⟨cs, Row.new _ _ _, HSZ.out, fun _ _ _ h => absurd h (Nat.not_lt_zero _)⟩, (Below.refl _ _).alloc (Nat.le_refl _) _⟩
  case round =>
    clear hmk
    obtain ⟨j, hj, rfl, HL, HB⟩ := hrel
    by_cases hlt : j < zs.length
    · obtain ⟨z, hz⟩ : ∃ z, zs[j]? = some z := ⟨_, List.getElem?_eq_getElem hlt⟩
      obtain ⟨rfl, hb, g0⟩ := HI.out.under HB.out HB.out.size j z hz
      obtain ⟨ds, hr, hs, hk⟩ := HL.out
      obtain ⟨u0, c0⟩ : ∃ u0, wr.cell? ⟨w.heap.size, j, none⟩ = some u0 := ⟨ds[j], by rw [hr.cell]; exact Array.getElem?_eq_getElem _⟩
      have z0 := hr.frozen j
      have HST : Hid (LaidI (wr.setCell ⟨w.heap.size, j, none⟩ (.int .i64 z)) w.heap.size zs (j + 1)) := by
        refine ⟨ds.setIfInBounds j (.int .i64 z), hr.set_ _ _, by simpa using hs, fun i y hy hi => ?_⟩
        rw [Array.getElem?_setIfInBounds]
        by_cases e : j = i
        · subst e
          rw [hz] at hy
          injection hy with hy
          subst hy
          rw [if_pos rfl, if_pos (by omega)]
        · rw [if_neg e]
          exact hk i y hy (by omega)
      clear hr hs hk HL hz
      go_wp2_with fail
      go_roundw
      case rel => exact ⟨j + 1, by omega, by go_num, HST, HB.out.setCell (Nat.le_refl _) _⟩
      case measure => simp [intOf]; omega
    · have hjj : j = zs.length := by omega
      subst hjj
      go_wp2_with fail
      go_ret
      exact ⟨_, rfl, Nat.le_refl _, HL.out, HB.out⟩

end Go.Proofs.Ytldnegacgjijlaa

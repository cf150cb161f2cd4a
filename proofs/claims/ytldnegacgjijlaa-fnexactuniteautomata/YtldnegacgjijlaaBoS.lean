/- Slices of truth values: the walks of laws.szBoolS, laws.eqBoolS, laws.toBoolS and what they leave. -/
import Derived.Test.YtldnegacgjijlaaIb
import Derived.Test.YtldnegacgjijlaaAuT
namespace Go.Proofs.Ytldnegacgjijlaa
open Go.RowKit

set_option maxHeartbeats 400000 in
theorem eqBools_any (zs : List Bool) (A A' : Option Addr) (cap b off cap' b' off' : Nat) (w : World) (hl : zs.length ≤ maxLen) (hI : Bools w w.heap.size A b off zs) (hI' : Bools w w.heap.size A' b' off' zs) :
    Calls Try.prog 12 #[.slice A zs.length cap, .slice A' zs.length cap'] w fun e' w' => e' = .returned (.bool true) ∧ Below w.heap.size w w' := by
  unfold maxLen at hl
  have HI := Lib.hid hI
  have HI' := Lib.hid hI'
  clear hI hI'
  go_enter Try.func12, Try.ntmps12
  go_wp2_with fail
  go_loopw [5] (fun i wl => ∃ j n : Nat, j ≤ zs.length ∧ i = .int .i64 j ∧ wl = w.drewN n) (fun i _ => zs.length - (intOf i).toNat)
  case atStart => exact ⟨0, 0, Nat.zero_le _, rfl, rfl⟩
  case round =>
    obtain ⟨j, n, hj, rfl, rfl⟩ := hrel
    by_cases hlt : j < zs.length
    · obtain ⟨z, hz⟩ : ∃ z, zs[j]? = some z := ⟨_, List.getElem?_eq_getElem hlt⟩
      obtain ⟨rfl, hb, g0⟩ := HI.out j z hz
      obtain ⟨rfl, hb', g0'⟩ := HI'.out j z hz
      clear hz
      go_wp2_with fail
      go_quiet (fail)
      go_wp2_with fail
      go_roundw
      case rel => exact ⟨j + 1, _, by omega, by go_num, rfl⟩
      case measure => simp [intOf]; omega
    · go_wp2_with fail
      go_ret
      exact ⟨rfl, below_drewN (Below.refl _ _) _⟩

/-- The first j numbers have been laid. -/
def LaidB (w : World) (g : Nat) (zs : List Bool) (j : Nat) : Prop :=
  ∃ cs : Array Value, Row w g 4 cs ∧ cs.size = zs.length ∧ ∀ (i : Nat) (z : Bool), zs[i]? = some z → i < j → cs[i]? = some (.bool z)


/-- What a copy of a slice of ints leaves. -/
def ToBPost (zs : List Bool) (w : World) (e' : Ending) (w' : World) : Prop :=
  ∃ g : Nat, e' = .returned (.slice (some ⟨g, 0, none⟩) zs.length zs.length) ∧ w.heap.size ≤ g ∧ LaidB w' g zs zs.length ∧ Below w.heap.size w w'

theorem LaidB.bools {w : World} {g : Nat} {zs : List Bool} (h : LaidB w g zs zs.length) : Bools w w.heap.size (some ⟨g, 0, none⟩) g 0 zs := fun i z hz => by
  obtain ⟨cs, hr, hs, hk⟩ := h
  refine ⟨rfl, hr.lt, ?_⟩
  rw [hr.cell, Nat.zero_add]
  exact hk i z hz (List.getElem?_eq_some_iff.1 hz).1

set_option maxHeartbeats 400000 in
theorem toBools_any (zs : List Bool) (A : Option Addr) (cap b off : Nat) (w : World) (hl : zs.length ≤ 1048576) (hI : Bools w w.heap.size A b off zs) :
    Calls Try.prog 63 #[.slice A zs.length cap] w (ToBPost zs w) := by
  have HI := Lib.hid hI
  clear hI
  obtain ⟨i0, hi0, hz0, hz1, hz2⟩ := info_parts Try.info4
  have hmk := run_make_of (P := Try.prog) 27 4 i0 _ Try.underlying27 hi0 hz0 zs.length (by rw [hz2]; omega) (by omega)
  rw [hz1] at hmk
  clear hi0 hz0 hz1 hz2
  obtain ⟨cs, hcs⟩ : ∃ cs, cs = madeCells (Value.cells (.bool false)) (zs.length * 1) := ⟨_, rfl⟩
  have hsz : cs.size = zs.length := by rw [hcs, size_madeCells]; omega
  rw [← hcs] at hmk
  have HSZ := Lib.hid hsz
  clear hcs hsz
  go_enter Try.func63, Try.ntmps63
  go_wp2_with fail
  go_loopw [4] (fun i wl => ∃ j : Nat, j ≤ zs.length ∧ i = .int .i64 j ∧ Hid (LaidB wl w.heap.size zs j) ∧ Hid (Below w.heap.size w wl)) (fun i _ => zs.length - (intOf i).toNat)
  case atStart => exact ⟨0, Nat.zero_le _, rfl, ⟨cs, Row.new _ _ _, HSZ.out, fun _ _ _ h => absurd h (Nat.not_lt_zero _)⟩, (Below.refl _ _).alloc (Nat.le_refl _) _⟩
  case round =>
    clear hmk
    obtain ⟨j, hj, rfl, HL, HB⟩ := hrel
    by_cases hlt : j < zs.length
    · obtain ⟨z, hz⟩ : ∃ z, zs[j]? = some z := ⟨_, List.getElem?_eq_getElem hlt⟩
      obtain ⟨rfl, hb, g0⟩ := HI.out.under HB.out HB.out.size j z hz
      obtain ⟨ds, hr, hs, hk⟩ := HL.out
      obtain ⟨u0, c0⟩ : ∃ u0, wr.cell? ⟨w.heap.size, j, none⟩ = some u0 := ⟨ds[j], by rw [hr.cell]; exact Array.getElem?_eq_getElem _⟩
      have z0 := hr.frozen j
      have HST : Hid (LaidB (wr.setCell ⟨w.heap.size, j, none⟩ (.bool z)) w.heap.size zs (j + 1)) := by
        refine ⟨ds.setIfInBounds j (.bool z), hr.set_ _ _, by simpa using hs, fun i y hy hi => ?_⟩
        rw [Array.getElem?_setIfInBounds]
        by_cases e : j = i
        · subst e
          rw [hz] at hy
          injection hy with hy
          subst hy
          rw [if_pos rfl, if_pos (by omega)]
        · rw [if_neg e]
          exact hk i y hy (by omega)
      clear hr hs hk HL hz
      go_wp2_with fail
      go_roundw
      case rel => exact ⟨j + 1, by omega, by go_num, HST, HB.out.setCell (Nat.le_refl _) _⟩
      case measure => simp [intOf]; omega
    · have hjj : j = zs.length := by omega
      subst hjj
      go_wp2_with fail
      go_ret
      exact ⟨_, rfl, Nat.le_refl _, HL.out, HB.out⟩

theorem LaidB.sep {w : World} {g lo cap : Nat} {zs : List Bool} {C : Nat → Value} (h : LaidB w g zs zs.length) (hl : zs.length ≤ maxLen) (hlo : lo ≤ g) (hC : C 0 = .slice (some ⟨g, 0, none⟩) zs.length cap) : (Lay.bo.slice 4).sep w lo w.heap.size zs C := by
  obtain ⟨cs, hr, hs, hk⟩ := h
  refine ⟨_, cap, g, cs, fun i _ => .bool (zs.getD i false), fun _ => w.heap.size, hC, hl, fun _ _ => Nat.le_refl _, by have := hr.lt; dsimp only; omega, Nat.le_refl _, fun i x hx => ?_⟩
  have hi := (List.getElem?_eq_some_iff.1 hx).1
  refine ⟨rfl, hlo, hr.lt, .inl hr.lt, hr, fun j hj => ?_, ?_⟩
  · have hj0 : j = 0 := by have : j < 1 := hj; omega
    subst hj0
    show cs[i * 1 + 0]? = some (.bool (zs.getD i false))
    rw [Nat.mul_one, Nat.add_zero, hk i x hx hi]
    simp [List.getD, hx]
  · show Value.bool (zs.getD i false) = .bool x
    simp [List.getD, hx]

set_option maxHeartbeats 400000 in
theorem szBools_any (A : Option Addr) (n cap : Nat) (left : Int) (w : World) (hl : n ≤ maxLen) (h0 : 0 ≤ left) (h1 : left ≤ 1048576) :
    Calls Try.prog 60 #[.slice A n cap, .int .i64 left] w fun e' w' => e' = .returned (.int .i64 (room left n)) ∧ w = w' := by
  unfold maxLen at hl
  by_cases h : left < n
  · have HR : Hid (room left n = -1) := by show _ = _; unfold room; rw [if_pos h]
    go_enter Try.func60, Try.ntmps60
    go_wp2_with fail
    go_ret
    exact ⟨ret_int HR.out.symm, rfl⟩
  · have HR : Hid (room left n = left - n) := by show _ = _; unfold room; rw [if_neg h]
    go_enter Try.func60, Try.ntmps60
    go_wp2_with fail
    go_ret
    exact ⟨ret_int (by rw [HR.out]), rfl⟩


end Go.Proofs.Ytldnegacgjijlaa

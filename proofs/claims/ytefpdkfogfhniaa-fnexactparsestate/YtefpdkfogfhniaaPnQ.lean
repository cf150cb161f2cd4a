/- The numbers of a text's digits; the walks of spec.l3Numbers and impl.readDigits. -/
import Derived.Test.YtefpdkfogfhniaaStXQ
import Derived.OwnWalk
import Derived.Maps.AppendAt
namespace Go.Proofs.Ytefpdkfogfhniaa
open Go.RowKit

/-- The bytes of a text, less 48 each. -/
def numAt (s : ByteArray) (k : Nat) : Int := (s[k]!.toNat : Int) - 48
def nums (s : ByteArray) : List Int := (List.range s.size).map (numAt s)
theorem nums_length (s : ByteArray) : (nums s).length = s.size := by simp [nums]
theorem nums_get {s : ByteArray} {k : Nat} (h : k < s.size) : (nums s)[k]? = some (numAt s k) := by simp [nums, h]
theorem numAt_is {s : ByteArray} {k : Nat} (h : k < s.size) : numAt s k = (s[k].toNat : Int) - 48 := by unfold numAt; rw [getElem!_pos s k h]
theorem nums_take {s : ByteArray} {k : Nat} (h : k < s.size) : (nums s).take (k + 1) = (nums s).take k ++ [numAt s k] := by
  rw [List.take_add_one, nums_get h]
  rfl

/-- What a function leaves that makes a slice of numbers. -/
def NumsPost (zs : List Int) (w : World) (e' : Ending) (w' : World) : Prop :=
  ∃ (g cap : Nat) (cs : Array Value), e' = .returned (.slice (some ⟨g, 0, none⟩) zs.length cap) ∧ w.heap.size ≤ g ∧ Row w' g 3 cs ∧ (∀ (i : Nat) (z : Int), zs[i]? = some z → cs[i]? = some (Value.int .i64 z)) ∧ Below w.heap.size w w'

set_option maxHeartbeats 1000000 in
set_option maxRecDepth 100000 in
theorem numsS_any (s : ByteArray) (w : World) (hs : s.size ≤ 1048576) : Calls Try.prog 34 #[.string s] w (NumsPost (nums s) w) := by
  obtain ⟨i0, hi0, hz0, hz1, hz2⟩ := info_parts Try.info3
  have HNl := Lib.hid (nums_length s)
  go_enter Try.func34, Try.ntmps34
  go_wp2_with fail
  go_loopw [3, 4] (fun o i wl => ∃ (k g cap : Nat), k ≤ s.size ∧ o = .slice (some ⟨g, 0, none⟩) k cap ∧ i = .int .i64 k ∧ Hid (wl.ownsRow w.heap.size 3 1 (.slice (some ⟨g, 0, none⟩) k cap) k (((nums s).take k).map (Value.int .i64))) ∧ Hid (Below w.heap.size w wl)) (fun _ i _ => s.size - (intOf i).toNat)
  case atStart =>
    refine ⟨0, w.heap.size, 0, Nat.zero_le _, rfl, rfl, ⟨rfl, .inr ⟨w.heap.size, 0, #[], rfl, Nat.le_refl _, Row.new w _ _, Nat.le_refl _, Nat.zero_le _, rfl, rfl⟩⟩, (Below.refl _ _).alloc (Nat.le_refl _) _⟩
  case round =>
    obtain ⟨k, g, cap, hk, rfl, rfl, HO, HB⟩ := hrel
    by_cases hlt : k < s.size
    · have hc : (s[k].toNat : Int) ≤ 255 := by have h2 : s[k].toNat < 256 := UInt8.toNat_lt s[k]; omega
      have HT := Lib.hid (nums_take hlt)
      have HA := Lib.hid (numAt_is hlt)
      have hzw : w.heap.size ≤ wr.heap.size := HB.out.size
      go_wp2_with (at_builtin; refine wpList_append_own _ rfl (.tmp 12) (.tmp 18) 22 rfl w.heap.size 3 i0 (.int .i64 0) 1 8 Try.underlying22 hi0 hz0 hz1 hz2 rfl (by decide) (.slice (some ⟨g, 0, none⟩) k cap) k _ rfl (HO.out.alloc _) ⟨wr.heap.size, 0, none⟩ 1 1 [.int .i64 ((s[k].toNat : Int) - 48)] rfl rfl (cell_one_new _ _ _) (by simp [Value.oneCell']) (by unfold maxLen; omega) (by omega) (by simp; omega) ?_; intro v' w1 hown' hgrow hnil)
      obtain ⟨g1, cap1, rfl⟩ : ∃ g1 cap1, v' = .slice (some ⟨g1, 0, none⟩) (k + 1) cap1 := by
        rcases hown'.2 with ⟨_, h0⟩ | ⟨g1, cap1, _, hv, _⟩
        · omega
        · exact ⟨g1, cap1, hv⟩
      have HO1 : Hid (w1.ownsRow w.heap.size 3 1 (.slice (some ⟨g1, 0, none⟩) (k + 1) cap1) (k + 1) (((nums s).take (k + 1)).map (Value.int .i64))) := by
        show World.ownsRow _ _ _ _ _ _ _
        rw [HT.out, HA.out, List.map_append]
        exact hown'
      have HB1 : Hid (Below w.heap.size w w1) := (HB.out.alloc HB.out.size _).grown hgrow (by simp; omega) (fun q hq => by
        have e : g = q := by simpa [Value.ownBlock] using hq
        subst e
        obtain ⟨_, hg0, _, _⟩ := row_of_owns HO.out
        exact hg0)
      clear hown' hgrow hnil HO HB
      go_wp2_with fail
      go_roundw
      case rel => exact ⟨k + 1, g1, cap1, by omega, rfl, by go_num, HO1, HB1⟩
      case measure => simp [intOf]; omega
    · have hkk : k = s.size := by omega
      subst hkk
      have HF : Hid (NumsPost (nums s) w (.returned (.slice (some ⟨g, 0, none⟩) s.size cap)) wr) := by
        obtain ⟨cs, h1, h2, h3⟩ := row_of_owns HO.out
        refine ⟨g, cap, cs, by rw [HNl.out], h1, h2, fun i z hz => h3 i _ ?_, HB.out⟩
        rw [List.take_of_length_le (by rw [HNl.out]; exact Nat.le_refl _), List.getElem?_map, hz]
        rfl
      go_wp2_with fail
      go_ret
      exact HF.out

set_option maxHeartbeats 400000 in
set_option maxRecDepth 100000 in
theorem numsI_any (s : ByteArray) (w : World) (hs : s.size ≤ 1048576) : Calls Try.prog 39 #[.string s] w (NumsPost (nums s) w) := by
  obtain ⟨i0, hi0, hz0, hz1, hz2⟩ := info_parts Try.info3
  have hmk := run_make_of (P := Try.prog) 22 3 i0 _ Try.underlying22 hi0 hz0 s.size (by rw [hz2]; omega) (by omega)
  rw [hz1] at hmk
  clear hi0 hz0 hz1 hz2
  obtain ⟨cs, hcs⟩ : ∃ cs, cs = madeCells (Value.cells (.int .i64 0)) (s.size * 1) := ⟨_, rfl⟩
  have hsz : cs.size = s.size := by rw [hcs, size_madeCells]; omega
  rw [← hcs] at hmk
  have HSZ := Lib.hid hsz
  have HNl := Lib.hid (nums_length s)
  clear hcs hsz
  go_enter Try.func39, Try.ntmps39
  go_wp2_with fail
  go_loopw [10] (fun i wl => ∃ k : Nat, k ≤ s.size ∧ i = .int .i64 k ∧ Hid (∃ ds : Array Value, Row wl w.heap.size 3 ds ∧ ds.size = s.size ∧ ∀ q, q < k → ds[q]? = some (.int .i64 (numAt s q))) ∧ Hid (Below w.heap.size w wl)) (fun i _ => s.size - (intOf i).toNat)
  case atStart => exact ⟨0, Nat.zero_le _, rfl, ⟨cs, Row.new _ _ _, HSZ.out, fun _ h => absurd h (Nat.not_lt_zero _)⟩, (Below.refl _ _).alloc (Nat.le_refl _) _⟩
  case round =>
    clear hmk
    obtain ⟨k, hk, rfl, HL, HB⟩ := hrel
    obtain ⟨ds, hr, hs2, hq⟩ := HL.out
    by_cases hlt : k < s.size
    · have hc : (s[k].toNat : Int) ≤ 255 := by have h2 : s[k].toNat < 256 := UInt8.toNat_lt s[k]; omega
      obtain ⟨u0, c0⟩ : ∃ u0, wr.cell? ⟨w.heap.size, k, none⟩ = some u0 := ⟨ds[k], by rw [hr.cell]; exact Array.getElem?_eq_getElem _⟩
      have f0 := hr.frozen k
      have HST : Hid (∃ ds : Array Value, Row (wr.setCell ⟨w.heap.size, k, none⟩ (.int .i64 ((s[k].toNat : Int) - 48))) w.heap.size 3 ds ∧ ds.size = s.size ∧ ∀ q, q < k + 1 → ds[q]? = some (.int .i64 (numAt s q))) := by
        refine ⟨ds.setIfInBounds k (.int .i64 ((s[k].toNat : Int) - 48)), hr.set_ _ _, by simpa using hs2, fun q hq2 => ?_⟩
        rw [Array.getElem?_setIfInBounds]
        by_cases e : k = q
        · subst e
          rw [if_pos rfl, if_pos (by omega), numAt_is hlt]
        · rw [if_neg e]
          exact hq q (by omega)
      have HB2 : Hid (Below w.heap.size w (wr.setCell ⟨w.heap.size, k, none⟩ (.int .i64 ((s[k].toNat : Int) - 48)))) := HB.out.setCell (Nat.le_refl _) _
      clear hr hs2 hq HL
      go_wp2_with fail
      go_roundw
      case rel => exact ⟨k + 1, by omega, by go_num, HST, HB2⟩
      case measure => simp [intOf]; omega
    · have hkk : k = s.size := by omega
      subst hkk
      have HF : Hid (NumsPost (nums s) w (.returned (.slice (some ⟨w.heap.size, 0, none⟩) s.size s.size)) wr) := by
        refine ⟨w.heap.size, s.size, ds, by rw [HNl.out], Nat.le_refl _, hr, fun i z hz => ?_, HB.out⟩
        have hi : i < s.size := by have := (List.getElem?_eq_some_iff.1 hz).1; rw [HNl.out] at this; exact this
        rw [nums_get hi] at hz
        injection hz with hz
        rw [← hz]
        exact hq i hi
      clear hr hs2 hq HL
      go_wp2_with fail
      go_ret
      exact HF.out

end Go.Proofs.Ytefpdkfogfhniaa

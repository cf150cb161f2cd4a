/- The walk of (impl.Automaton).acceptingStates. -/
import Derived.Test.YtiikphdgnhajeaaDoorAuT
import Derived.Laws.AppendOwn
namespace Go.Proofs.YtiikphdgnhajeaaDoor
open Go.RowKit

/-- The accepting states below j. -/
def accTo (acc : List Bool) (j : Nat) : List Int := ((List.range j).filter fun i => acc.getD i false).map Int.ofNat
def accs (acc : List Bool) : List Int := accTo acc acc.length
theorem accTo_true {acc : List Bool} {j : Nat} (h : acc[j]? = some true) : accTo acc (j + 1) = accTo acc j ++ [(j : Int)] := by
  unfold accTo
  rw [List.range_succ, List.filter_append, List.map_append]
  simp [h]
theorem accTo_false {acc : List Bool} {j : Nat} (h : acc[j]? = some false) : accTo acc (j + 1) = accTo acc j := by
  unfold accTo
  rw [List.range_succ, List.filter_append, List.map_append]
  simp [h]
theorem accTo_len (acc : List Bool) (j : Nat) : (accTo acc j).length ≤ j := by
  unfold accTo
  rw [List.length_map]
  have := List.length_filter_le (fun i => acc.getD i false) (List.range j)
  rw [List.length_range] at this
  exact this
theorem accTo_mem {acc : List Bool} {j : Nat} {z : Int} (h : z ∈ accTo acc j) : 0 ≤ z ∧ z < j := by
  unfold accTo at h
  simp only [List.mem_map, List.mem_filter, List.mem_range] at h
  obtain ⟨i, ⟨h1, _⟩, rfl⟩ := h
  rw [Int.ofNat_eq_natCast]
  omega

/-- What a function leaves that gives back these numbers. -/
def NPost (zs : List Int) (w : World) (e' : Ending) (w' : World) : Prop :=
  ∃ (A : Option Addr) (cap b off : Nat), e' = .returned (.slice A zs.length cap) ∧ Ints w' w'.heap.size A b off zs ∧ Below w.heap.size w w'

set_option maxHeartbeats 400000 in
set_option maxRecDepth 100000 in
theorem accSt_any (acc : List Bool) (i0 es : Value) (A : Option Addr) (cap b off : Nat) (w : World) (hl : acc.length ≤ 1048576) (hI : Bools w w.heap.size A b off acc) (hi : ∃ A' n' c', i0 = .slice A' n' c') (he : ∃ A' n' c', es = .slice A' n' c') :
    Calls Tryd.prog 25 #[.agg #[i0, .slice A acc.length cap, es]] w (NPost (accs acc) w) := by
  obtain ⟨A1, n1, c1, rfl⟩ := hi
  obtain ⟨A2, n2, c2, rfl⟩ := he
  obtain ⟨ti, hi0, hz0, hz1, hz2⟩ := info_parts Tryd.info3
  obtain ⟨W1, hW1⟩ : ∃ W1, W1 = w.alloc (.cells #[.slice A1 n1 c1, .slice A acc.length cap, .slice A2 n2 c2] 31) := ⟨_, rfl⟩
  have hb0 : Below w.heap.size w W1 := by rw [hW1]; exact (Below.refl _ _).alloc (Nat.le_refl _) _
  have HI := Lib.hid (hI.under hb0 hb0.size)
  have HB0 := Lib.hid hb0
  have HW1 := Lib.hid hW1
  clear hI hb0 hW1
  go_enter Tryd.func25, Tryd.ntmps25
  go_wp2_with fail
  rw [← HW1.out]
  go_loopw [3, 9] (fun v i wl => ∃ j : Nat, j ≤ acc.length ∧ i = .int .i64 j ∧ Hid (wl.ownsRow W1.heap.size 3 1 v (accTo acc j).length ((accTo acc j).map (Value.int .i64))) ∧ Hid (Below W1.heap.size W1 wl)) (fun _ i _ => acc.length - (intOf i).toNat)
  case atStart => exact ⟨0, Nat.zero_le _, rfl, World.ownsRow_nil _ _ _ _, Below.refl _ _⟩
  case round =>
    obtain ⟨j, hj, rfl, HO, HB⟩ := hrel
    by_cases hlt : j < acc.length
    · obtain ⟨z, hz⟩ : ∃ z, acc[j]? = some z := ⟨_, List.getElem?_eq_getElem hlt⟩
      obtain ⟨rfl, hb, c0⟩ := HI.out.under HB.out HB.out.size j z hz
      cases z
      · have HO1 : Hid (wr.ownsRow W1.heap.size 3 1 u3 (accTo acc (j + 1)).length ((accTo acc (j + 1)).map (Value.int .i64))) := by rw [accTo_false hz]; exact HO.out
        clear hz
        go_wp2_with fail
        go_roundw
        case rel => exact ⟨j + 1, by omega, by go_num, HO1, HB⟩
        case measure => simp [intOf]; omega
      · have HT := Lib.hid (accTo_true hz)
        have hln := accTo_len acc j
        have hzw : W1.heap.size ≤ wr.heap.size := HB.out.size
        obtain ⟨n, hn⟩ : ∃ n, n = (accTo acc j).length := ⟨_, rfl⟩
        have HN := Lib.hid hn
        rw [← hn] at hln
        clear hz hn
        go_wp2_with (at_builtin; refine wpList_append_own _ rfl (.tmp 15) (.tmp 17) 22 rfl W1.heap.size 3 ti (.int .i64 0) 1 8 Tryd.underlying22 hi0 hz0 hz1 hz2 rfl (by decide) _ n _ rfl (by rw [HN.out]; exact HO.out.alloc _) ⟨wr.heap.size, 0, none⟩ 1 1 [.int .i64 j] rfl rfl (fun q u hq => by
          have hq0 : q = 0 := by
            have := (List.getElem?_eq_some_iff.1 hq).1
            simpa using this
          subst hq0
          simp at hq
          subst hq
          exact (Row.new wr 3 #[.int .i64 j]).cell 0) (by simp [Value.oneCell']) (by unfold maxLen; omega) (by omega) (by simp; omega) ?_)
        intro v' w1 hown' hgrow hnil
        have HO1 : Hid (w1.ownsRow W1.heap.size 3 1 v' (accTo acc (j + 1)).length ((accTo acc (j + 1)).map (Value.int .i64))) := by
          show World.ownsRow _ _ _ _ _ _ _
          rw [HT.out, List.length_append, List.map_append, ← HN.out]
          exact hown'
        have HB1 : Hid (Below W1.heap.size W1 w1) := (HB.out.alloc HB.out.size _).grown hgrow (by simp; omega) (fun q hq => (HO.out.lt q hq).1)
        clear hown' hgrow hnil HO HB
        go_wp2_with fail
        go_roundw
        case rel => exact ⟨j + 1, by omega, by go_num, HO1, HB1⟩
        case measure => simp [intOf]; omega
    · have hjj : j = acc.length := by omega
      subst hjj
      have HF : Hid (∃ (A : Option Addr) (cap b off : Nat), u3 = .slice A (accs acc).length cap ∧ Ints wr wr.heap.size A b off (accs acc)) := by
        have h := HO.out
        rcases h.2 with ⟨h1, h2⟩ | ⟨g, cap, cur, hv, hg, hh, _, _, _, ht⟩
        · have h3 : accs acc = [] := List.length_eq_zero_iff.1 h2
          exact ⟨none, 0, 0, 0, by rw [h1, h3]; rfl, fun i z hz => by rw [h3] at hz; cases hz⟩
        · refine ⟨some ⟨g, 0, none⟩, cap, g, 0, hv, fun i z hz => ⟨rfl, ?_, ?_⟩⟩
          · rcases Nat.lt_or_ge g wr.heap.size with h' | h'
            · exact h'
            · simp [Array.getElem?_eq_none h'] at hh
          · have hr : Row wr g 3 cur := hh
            rw [hr.cell, Nat.zero_add]
            have h5 : (((accTo acc acc.length).map (Value.int .i64)))[i]? = some (.int .i64 z) := by rw [List.getElem?_map, show (accTo acc acc.length)[i]? = some z from hz]; rfl
            rw [← ht, List.getElem?_take] at h5
            split at h5
            · simpa using h5
            · cases h5
      go_wp2_with fail
      go_ret
      obtain ⟨A', cap', b', off', rfl, h2⟩ := HF.out
      exact ⟨A', cap', b', off', rfl, h2, HB0.out.trans (HB.out.mono HB0.out.size)⟩

end Go.Proofs.YtiikphdgnhajeaaDoor

/- The walk of spec.l7Nums. -/
import Derived.Test.YtiikphdgnhajeaaDoorN16
import Derived.Test.YtiikphdgnhajeaaDoorGr
namespace Go.Proofs.YtiikphdgnhajeaaDoor
open Go.RowKit

theorem Tryd.info3L : (Tryd.prog.info? 3).map (fun i => (i.zero, i.size, i.bytes)) = some (some (.int .i64 0), 1, 8) := by kernel_rfl
/-- What is known of the numbers behind the first word of a line. -/
def NumOk (ps : List (List UInt8)) (i : Nat) (z : Int) : Prop := -1000000000000000000 ≤ z ∧ z ≤ 1000000000000000000 ∧ ∀ m : Nat, m < 100 → ps[i + 1]? = some (Lib.decDigits m) → z = m
def NumsOf (s : ByteArray) (zs : List Int) : Prop := zs.length = min 64 ((cutP 32 [] (toL s)).length - 1) ∧ ∀ (i : Nat) (z : Int), zs[i]? = some z → NumOk (cutP 32 [] (toL s)) i z
def L7Post (s : ByteArray) (w : World) (e' : Ending) (w' : World) : Prop :=
  ∃ (zs : List Int) (g cap : Nat) (cs : Array Value), e' = .returned (.slice (some ⟨g, 0, none⟩) zs.length cap) ∧ NumsOf s zs ∧ w.heap.size ≤ g ∧ Row w' g 3 cs ∧ (∀ (i : Nat) (z : Int), zs[i]? = some z → cs[i]? = some (Value.int .i64 z)) ∧ Below w.heap.size w w'
theorem cutP_pos (c : UInt8) : ∀ (l pre : List UInt8), 1 ≤ (cutP c pre l).length := by
  intro l
  induction l with
  | nil => intro pre; simp [cutP]
  | cons x r ih =>
    intro pre
    unfold cutP
    split
    · simp
    · exact ih _

theorem rowI_of_owns {w : World} {base : Nat} {g n cap : Nat} {xs : List Value} (h : w.ownsRow base 3 1 (.slice (some ⟨g, 0, none⟩) n cap) n xs) : ∃ cs : Array Value, base ≤ g ∧ Row w g 3 cs ∧ ∀ (i : Nat) (u : Value), xs[i]? = some u → cs[i]? = some u := by
  rcases h.2 with ⟨h1, _⟩ | ⟨g', cap', cur, hv, hb, hh, _, _, _, ht⟩
  · cases h1
  · injection hv with e1 e2 e3
    injection e1 with e1
    injection e1 with e1
    subst e1
    refine ⟨cur, hb, hh, fun i u hu => ?_⟩
    rw [← ht, List.getElem?_take] at hu
    split at hu
    · simpa using hu
    · cases hu

set_option maxHeartbeats 2000000 in
set_option maxRecDepth 100000 in
theorem l7n_any (s : ByteArray) (w : World) (hs : s.size ≤ 1048576) : Calls Tryd.prog 31 #[.string s] w (L7Post s w) := by
  obtain ⟨i0, hi0, hz0, hz1, hz2⟩ := info_parts Tryd.info3L
  go_enter Tryd.func31, Tryd.ntmps31
  go_wp2_with fail
  refine (cutC_any s 32 w hs).mono ?_
  rintro e' w1 ⟨done, gp, capp, cs, rfl, hdone, hdl, hgp, hrow, hcs, hb1⟩
  have hpl : done.length = (cutP 32 [] (toL s)).length := by rw [← hdone, List.length_map]
  have hp1 : 1 ≤ done.length := by rw [hpl]; exact cutP_pos _ _ _
  have HRow := Lib.hid hrow
  have HCs := Lib.hid hcs
  have HDn := Lib.hid hdone
  have HB1 := Lib.hid hb1
  have HPl := Lib.hid hpl
  have HGp : Hid (gp < w1.heap.size) := hrow.lt
  clear hdone hgp hrow hcs hb1 hpl
  go_wp2_with fail
  go_loopw [4, 5] (fun o i wl => ∃ (k g cap : Nat) (zs : List Int), zs.length + 1 = k ∧ k ≤ done.length ∧ k ≤ 65 ∧ o = .slice (some ⟨g, 0, none⟩) zs.length cap ∧ i = .int .i64 k ∧ Hid (∀ (i : Nat) (z : Int), zs[i]? = some z → NumOk (cutP 32 [] (toL s)) i z) ∧ Hid (wl.ownsRow w1.heap.size 3 1 (.slice (some ⟨g, 0, none⟩) zs.length cap) zs.length (zs.map (Value.int .i64))) ∧ Hid (Below w1.heap.size w1 wl)) (fun _ i _ => 66 - (intOf i).toNat)
  case atStart =>
    exact ⟨1, w1.heap.size, 0, [], rfl, hp1, by omega, rfl, rfl, (fun i z h => by simp at h), ⟨rfl, .inr ⟨w1.heap.size, 0, #[], rfl, Nat.le_refl _, Row.new w1 _ _, Nat.le_refl _, Nat.zero_le _, rfl, rfl⟩⟩, (Below.refl _ _).alloc (Nat.le_refl _) _⟩
  case round =>
    obtain ⟨k, g, cap, zs, hk1, hkd, hk65, rfl, rfl, HN, HO, HB⟩ := hrel
    have hzw : w1.heap.size ≤ wr.heap.size := HB.out.size
    by_cases hlt : k < done.length
    · have hltI : (k : Int) < (done.length : Int) := by omega
      by_cases h64 : k ≤ 64
      · have h64I : (k : Int) ≤ 64 := by omega
        obtain ⟨p, hp⟩ : ∃ p, done[k]? = some p := ⟨_, List.getElem?_eq_getElem hlt⟩
        have hps : p.size ≤ 1048576 := by
          have hm : toL p ∈ cutP 32 [] (toL s) := by rw [← HDn.out]; exact List.mem_map.2 ⟨p, List.mem_of_getElem? hp, rfl⟩
          have := cutP_mem 32 _ _ _ hm
          rw [toL_len, toL_len] at this
          simp at this
          omega
        have hpp : (cutP 32 [] (toL s))[k]? = some (toL p) := by rw [← HDn.out, List.getElem?_map, hp]; rfl
        have c0 : wr.cell? ⟨gp, k, none⟩ = some (.string p) := by
          rw [(HRow.out.under HB.out HGp.out).cell]
          exact HCs.out k p hp
        have HPP := Lib.hid hpp
        clear hp hpp
        go_wp2_with fail
        refine (num16_any p wr hps).mono ?_
        rintro e' w5 ⟨v, ok, rfl, rfl, hnum⟩
        have HNv := Lib.hid hnum
        clear hnum c0
        go_wp2_with (at_builtin; refine wpList_append_own _ rfl (.tmp 29) (.tmp 31) 22 rfl w1.heap.size 3 i0 (.int .i64 0) 1 8 Tryd.underlying22 hi0 hz0 hz1 hz2 rfl (by decide) (.slice (some ⟨g, 0, none⟩) zs.length cap) zs.length _ rfl (HO.out.alloc _) ⟨wr.heap.size, 0, none⟩ 1 1 [.int .i64 v] rfl rfl (cell_one_new _ _ _) (by simp [Value.oneCell']) (by unfold maxLen; omega) (by omega) (by simp; omega) ?_; intro v' w6 hown' hgrow hnil)
        obtain ⟨g1, cap1, rfl⟩ : ∃ g1 cap1, v' = .slice (some ⟨g1, 0, none⟩) (zs.length + 1) cap1 := by
          rcases hown'.2 with ⟨_, h0⟩ | ⟨g1, cap1, _, hv, _⟩
          · omega
          · exact ⟨g1, cap1, hv⟩
        have HO1 : Hid (w6.ownsRow w1.heap.size 3 1 (.slice (some ⟨g1, 0, none⟩) (zs ++ [v]).length cap1) (zs ++ [v]).length ((zs ++ [v]).map (Value.int .i64))) := by
          show World.ownsRow _ _ _ _ _ _ _
          rw [List.length_append, List.map_append]
          exact hown'
        have HB6 : Hid (Below w1.heap.size w1 w6) := (HB.out.alloc HB.out.size _).grown hgrow (by simp; omega) (fun q hq => by
          have e : g = q := by simpa [Value.ownBlock] using hq
          subst e
          obtain ⟨_, hg0, _, _⟩ := rowI_of_owns HO.out
          exact hg0)
        have HN1 : Hid (∀ (i : Nat) (z : Int), (zs ++ [v])[i]? = some z → NumOk (cutP 32 [] (toL s)) i z) := fun i z hz => by
          rcases Nat.lt_or_ge i zs.length with hi | hi
          · rw [List.getElem?_append_left hi] at hz
            exact HN.out i z hz
          · rw [List.getElem?_append_right hi] at hz
            have hi0 : i - zs.length = 0 := by
              rcases Nat.eq_zero_or_pos (i - zs.length) with h | h
              · exact h
              · rw [List.getElem?_eq_none (by simp; omega)] at hz; cases hz
            rw [hi0] at hz
            simp at hz
            subst hz
            obtain ⟨b1, b2, b3⟩ := HNv.out
            refine ⟨b1, b2, fun m hm he => b3 m hm ?_⟩
            rw [show i + 1 = k by omega, HPP.out] at he
            injection he
        clear hown' hgrow hnil HO HB HN HNv HPP
        go_wp2_with fail
        go_roundw
        case rel => exact ⟨k + 1, g1, cap1, zs ++ [v], by rw [List.length_append, List.length_singleton]; omega, by omega, by omega, by rw [List.length_append]; rfl, by go_num, HN1, HO1, HB6⟩
        case measure => simp [intOf]; omega
      · have h64I : ¬ (k : Int) ≤ 64 := by omega
        have HF : Hid (L7Post s w (.returned (.slice (some ⟨g, 0, none⟩) zs.length cap)) wr) := by
          obtain ⟨cs2, h1, h2, h3⟩ := rowI_of_owns HO.out
          exact ⟨zs, g, cap, cs2, rfl, ⟨by rw [← HPl.out]; omega, HN.out⟩, Nat.le_trans HB1.out.size h1, h2, fun i z hz => h3 i _ (by rw [List.getElem?_map, hz]; rfl), HB1.out.trans (HB.out.mono HB1.out.size)⟩
        go_wp2_with fail
        go_ret
        exact HF.out
    · have hltI : ¬ (k : Int) < (done.length : Int) := by omega
      have HF : Hid (L7Post s w (.returned (.slice (some ⟨g, 0, none⟩) zs.length cap)) wr) := by
        obtain ⟨cs2, h1, h2, h3⟩ := rowI_of_owns HO.out
        exact ⟨zs, g, cap, cs2, rfl, ⟨by rw [← HPl.out]; omega, HN.out⟩, Nat.le_trans HB1.out.size h1, h2, fun i z hz => h3 i _ (by rw [List.getElem?_map, hz]; rfl), HB1.out.trans (HB.out.mono HB1.out.size)⟩
      go_wp2_with fail
      go_ret
      exact HF.out

end Go.Proofs.YtiikphdgnhajeaaDoor

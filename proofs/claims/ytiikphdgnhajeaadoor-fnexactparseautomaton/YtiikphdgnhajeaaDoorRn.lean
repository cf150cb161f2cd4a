/- The walk of impl.readNumber. -/
import Derived.Test.YtiikphdgnhajeaaDoorZp
import Derived.Test.YtiikphdgnhajeaaDoorNu
import Derived.Test.YtiikphdgnhajeaaDoorShZ
import Derived.Lib.SmallJoins
import Derived.Lib.Strings
import Derived.Lib.AppendIntMem
namespace Go.Proofs.YtiikphdgnhajeaaDoor
open Go.RowKit

/-- What the library's functions want of its variables. -/
structure Glob (w : World) : Prop where
  tab : Lib.TabIs Tryd.prog w "internal/strconv.uint64pow10" .u64 Lib.pow10Tab
  max : ∃ m : Int, w.cell? ⟨1, 0, none⟩ = some (.int .i64 m)
  syn : ∃ ev : Value, w.cell? ⟨2, 0, none⟩ = some ev ∧ (ev = .nilIface ∨ ∃ te pe, ev = .iface te pe)
  rng : ∃ ev : Value, w.cell? ⟨3, 0, none⟩ = some ev ∧ (ev = .nilIface ∨ ∃ te pe, ev = .iface te pe)
  size : 8 ≤ w.heap.size
theorem Glob.keep {w w' : World} {B : Nat} (h : Glob w) (hb : Below B w w') (h8 : 8 ≤ B) : Glob w' := by
  obtain ⟨m, hm⟩ := h.max
  obtain ⟨e1, h1, k1⟩ := h.syn
  obtain ⟨e2, h2, k2⟩ := h.rng
  have hg : Tryd.prog.globalNamed "internal/strconv.uint64pow10" = some 0 := by kernel_rfl
  refine ⟨?_, ⟨m, ?_⟩, ⟨e1, ?_, k1⟩, ⟨e2, ?_, k2⟩, Nat.le_trans h.size hb.size⟩
  · have ht := h.tab
    unfold Lib.TabIs World.var? at ht ⊢
    rw [hg] at ht ⊢
    have hbl := hb.block 0 (by omega)
    simpa [hbl] using ht
  · exact (hb.cell (p := ⟨1, 0, none⟩) (by show (1 : Nat) < B; omega)).trans hm
  · exact (hb.cell (p := ⟨2, 0, none⟩) (by show (2 : Nat) < B; omega)).trans h1
  · exact (hb.cell (p := ⟨3, 0, none⟩) (by show (3 : Nat) < B; omega)).trans h2

/-- A number as it is written. -/
def numZ (z : Int) : ByteArray := ⟨(Lib.itoa z).toArray⟩
theorem numZ_list (z : Int) : (numZ z).data.toList = Lib.itoa z := rfl
def RgZ (z : Int) : Prop := -9223372036854775808 ≤ z ∧ z ≤ 9223372036854775807

/-- What is left when a number has been read. -/
def RnPost (s : ByteArray) (w : World) (e' : Ending) (w' : World) : Prop :=
  ((∃ z, RgZ z ∧ s = numZ z ∧ e' = .returned (.tuple #[.int .i64 z, .bool true])) ∨ ((∀ z, RgZ z → s ≠ numZ z) ∧ e' = .returned (.tuple #[.int .i64 0, .bool false]))) ∧ Below w.heap.size w w'

set_option maxHeartbeats 400000 in
set_option maxRecDepth 100000 in
theorem readNum_any (s : ByteArray) (w : World) (hg : Glob w) (hs : s.size ≤ 2097152) : Calls Tryd.prog 51 #[.string s] w (RnPost s w) := by
  have HG := Lib.hid hg
  have HA : Hid (∀ z, RgZ z → s = numZ z → Lib.atoiAll s.data.toList = .ok z) := fun z hz h => by rw [h]; exact atoi_itoa hz.1 hz.2
  clear hg
  cases hat : Lib.atoiAll s.data.toList with
  | ok v =>
    have hv := atoi_rg hat
    have HB : Hid (∀ w1 : World, (w1 = w ∨ ∃ t, w1 = Lib.bytesWorld w 5 t) → Below w.heap.size w w1) := fun w1 h => by
      rcases h with rfl | ⟨t, rfl⟩
      · exact Below.refl _ _
      · exact Lib.bytesWorld_below w _ t
    have HAt := Lib.hid hat
    clear hat
    go_enter Tryd.func51, Tryd.ntmps51
    go_wp2_with fail
    refine (Tryd.strconv_Atoi_ok s (by omega) v HAt.out w).mono ?_
    rintro e' w1 ⟨rfl, hw1⟩
    have HB1 := Lib.hid (HB.out w1 hw1)
    clear hw1
    go_wp2_with fail
    refine (Tryd.strconv_Itoa v hv.1 hv.2 w1 (HG.out.keep HB1.out HG.out.size).tab).mono ?_
    rintro e' w2 ⟨rfl, k, os, hw2⟩
    have hb2 : Below w.heap.size w1 w2 := by rw [hw2]; exact Lib.below_grow w.heap.size w1 HB1.out.size k os
    have HB2 := Lib.hid (HB1.out.trans hb2)
    clear hw2 hb2
    obtain ⟨t, ht⟩ : ∃ t, t = numZ v := ⟨_, rfl⟩
    rw [show (⟨(Lib.itoa v).toArray⟩ : ByteArray) = t from ht.symm]
    by_cases hts : t = s
    · subst hts
      have HT := Lib.hid ht
      clear ht
      have HV : Hid (RgZ v) := hv
      go_wp2_with fail
      refine bodyPost_ret (v := .tuple #[.int .i64 v, .bool true]) (by simp [results, Tryd.results51, go_sem]) rfl ?_
      exact ⟨.inl ⟨v, HV.out, HT.out, rfl⟩, HB2.out⟩
    · have hN : Hid (∀ z, RgZ z → s ≠ numZ z) := fun z hz h => by
        have h1 := HA.out z hz h
        rw [HAt.out] at h1
        injection h1 with h1
        subst h1
        exact hts (by rw [ht, h])
      have hne : (t.toList == s.toList) = false := by
        rw [Lib.toList_data, Lib.toList_data, beq_eq_false_iff_ne]
        exact fun h => hts (ByteArray.ext (Array.toList_inj.1 h))
      clear ht
      go_wp2_with fail
      refine bodyPost_ret (v := .tuple #[.int .i64 0, .bool false]) (by simp [results, Tryd.results51, go_sem]) rfl ?_
      exact ⟨.inr ⟨hN.out, rfl⟩, HB2.out⟩
  | «syntax» =>
    have hN : Hid (∀ z, RgZ z → s ≠ numZ z) := fun z hz h => by
      have h1 := HA.out z hz h
      rw [hat] at h1
      cases h1
    obtain ⟨ev, he1, he2⟩ := HG.out.syn
    have HC := Lib.hid (Tryd.strconv_Atoi_syntax s (by omega) hat ev w he1 he2)
    clear hat he1 he2
    go_enter Tryd.func51, Tryd.ntmps51
    go_wp2_with fail
    refine HC.out.mono ?_
    rintro e' w1 ⟨N, rfl, _, _, hb1⟩
    have HB1 := Lib.hid hb1
    clear hb1
    go_wp2_with fail
    refine bodyPost_ret (v := .tuple #[.int .i64 0, .bool false]) (by simp [results, Tryd.results51, go_sem]) rfl ?_
    exact ⟨.inr ⟨hN.out, rfl⟩, HB1.out⟩
  | range =>
    have hN : Hid (∀ z, RgZ z → s ≠ numZ z) := fun z hz h => by
      have h1 := HA.out z hz h
      rw [hat] at h1
      cases h1
    obtain ⟨ev, he1, he2⟩ := HG.out.rng
    have HC := Lib.hid (Tryd.strconv_Atoi_range s (by omega) hat ev w he1 he2)
    clear hat he1 he2
    go_enter Tryd.func51, Tryd.ntmps51
    go_wp2_with fail
    refine HC.out.mono ?_
    rintro e' w1 ⟨N, rfl, _, _, hb1⟩
    have HB1 := Lib.hid hb1
    clear hb1
    go_wp2_with fail
    refine bodyPost_ret (v := .tuple #[.int .i64 0, .bool false]) (by simp [results, Tryd.results51, go_sem]) rfl ?_
    exact ⟨.inr ⟨hN.out, rfl⟩, HB1.out⟩

end Go.Proofs.YtiikphdgnhajeaaDoor

/- The walk of (*impl.lineScanner).fields. -/
import Derived.Test.YtiikphdgnhajeaaDoorZf
import Derived.Test.YtiikphdgnhajeaaDoorRn
namespace Go.Proofs.YtiikphdgnhajeaaDoor
open Go.RowKit

/-- The slice holds these strings and lies below block B. -/
def Strs (w : World) (B : Nat) (A : Option Addr) (b off : Nat) (ps : List ByteArray) : Prop := ∀ (i : Nat) (p : ByteArray), ps[i]? = some p → A = some ⟨b, off, none⟩ ∧ b < B ∧ w.cell? ⟨b, off + i, none⟩ = some (.string p)
theorem Strs.under {w w' : World} {B B' : Nat} {A : Option Addr} {b off : Nat} {ps : List ByteArray} (h : Strs w B A b off ps) (hb : Below B w w') (hB : B ≤ B') : Strs w' B' A b off ps := fun i z hz => by
  obtain ⟨h1, h2, h3⟩ := h i z hz
  exact ⟨h1, by omega, (hb.cell (p := ⟨b, off + i, none⟩) h2).trans h3⟩
def FdPost (rest word : ByteArray) (lo hi : Nat) (w : World) (e' : Ending) (w' : World) : Prop :=
  ((∃ (ps : List ByteArray) (after : ByteArray) (A : Option Addr) (b cap : Nat), DecP rest word lo hi (ps.map fun b => b.data.toList) after.data.toList ∧ e' = .returned (.tuple #[.slice A ps.length cap, .string after, .bool true]) ∧ Strs w' w'.heap.size A b 1 ps) ∨
    ((∀ ps after, ¬ DecP rest word lo hi ps after) ∧ e' = .returned (.tuple #[.slice none 0 0, .string ⟨#[]⟩, .bool false]))) ∧ Below w.heap.size w w'

set_option maxHeartbeats 1000000 in
set_option maxRecDepth 100000 in
theorem fields_any (rest word : ByteArray) (lo hi sb : Nat) (w : World) (hg : Glob w) (hs : rest.size ≤ 1048576) (hw : Wd word) (hlo : lo ≤ 1048576) (hh : hi ≤ 1048576) (hc : w.cell? ⟨sb, 0, none⟩ = some (.string rest)) :
    Calls Tryd.prog 50 #[.pointer (some ⟨sb, 0, none⟩), .string word, .int .i64 lo, .int .i64 hi] w (FdPost rest word lo hi w) := by
  obtain ⟨m, hm⟩ := hg.max
  have HG := Lib.hid hg
  have HM := Lib.hid hm
  have HW := Lib.hid hw
  clear hg hm hw
  have HC : Hid (∀ k n : Nat, (w.drewN k).cell? ⟨1, 0, none⟩ = some (.int .i64 m)) := fun k _ => HM.out
  go_enter Tryd.func50, Tryd.ntmps50
  go_wp2_with fail
  refine (Tryd.strings_Cut rest ⟨#[10]⟩ m w (by omega) HM.out).mono ?_
  rintro e' w1 ⟨rfl, k, rfl⟩
  rw [show (⟨#[10]⟩ : ByteArray).data.toList = [10] from rfl]
  obtain ⟨line, hline⟩ : ∃ l : ByteArray, l = ⟨(Lib.cut rest.data.toList [10]).1.toArray⟩ := ⟨_, rfl⟩
  obtain ⟨after, hafter⟩ : ∃ l : ByteArray, l = ⟨(Lib.cut rest.data.toList [10]).2.1.toArray⟩ := ⟨_, rfl⟩
  obtain ⟨f, hf⟩ : ∃ l, l = (Lib.cut rest.data.toList [10]).2.2 := ⟨_, rfl⟩
  rw [← hline, ← hafter, ← hf]
  have hll : line.data.toList = (Lib.cut rest.data.toList [10]).1 := by rw [hline]
  have hal : after.data.toList = (Lib.cut rest.data.toList [10]).2.1 := by rw [hafter]
  have hlz : line.size ≤ 1048576 := by
    have h1 : line.data.toList.length = line.size := rfl
    have h2 : rest.data.toList.length = rest.size := rfl
    rw [hll] at h1
    have h3 : (Lib.cut rest.data.toList [10]).1.length ≤ rest.data.toList.length := by
      unfold Lib.cut
      split
      · dsimp only; rw [List.length_take]; omega
      · exact Nat.le_refl _
    omega
  have HL := Lib.hid hll
  have HA := Lib.hid hal
  have HF := Lib.hid hf
  clear hline hafter hll hal hf
  go_wp2_with fail
  have HS := Tryd.strings_SplitN line ⟨#[32]⟩ (hi + 2) m (w.drewN k) (by omega) (HC.out k 0) (by decide) (by omega) (by omega)
  rw [show (((hi + 2 : Nat) : Int)) = (hi : Int) + 2 from rfl] at HS
  refine HS.mono ?_
  clear HS
  rintro e' w2 ⟨rfl, hw2⟩
  obtain ⟨i1, i2, _⟩ := split_some (min (hi + 2) (line.size + 1) - 1) line
  have hPl := Lib.splitB_length_le spB 0 (min (hi + 2) (line.size + 1) - 1) line
  have HP : Hid (∀ ps after, DecP rest word lo hi ps after → (Lib.splitB spB 0 (min (hi + 2) (line.size + 1) - 1) line).map (fun b => b.data.toList) = word.data.toList :: ps) := fun ps after h => dec_parts HW.out h line HL.out
  have HQ : Hid (∀ ps, f = true → Lib.splitB spB 0 (min (hi + 2) (line.size + 1) - 1) line = word :: ps → lo ≤ ps.length → ps.length ≤ hi → DecP rest word lo hi (ps.map fun b => b.data.toList) after.data.toList) := fun ps hf hp h0 h1 => by
    rw [HA.out]
    exact parts_dec line HL.out (by rw [← HF.out]; exact hf) hp h0 h1
  obtain ⟨N, hN⟩ : ∃ N, N = min (hi + 2) (line.size + 1) := ⟨_, rfl⟩
  have hN1 : 1 ≤ N := by omega
  have hN2 : N ≤ 1048578 := by omega
  obtain ⟨P, hP⟩ : ∃ P, P = Lib.splitB spB 0 (min (hi + 2) (line.size + 1) - 1) line := ⟨_, rfl⟩
  rw [show (⟨#[32]⟩ : ByteArray) = spB from rfl] at hw2 ⊢
  rw [← hP] at hw2 i1 i2 hPl HP HQ ⊢
  rw [← hN] at hw2 hPl ⊢
  clear hP hN i1
  have hPN : P.length ≤ N := by omega
  clear hPl
  obtain ⟨p0, ps, rfl⟩ : ∃ p0 ps, P = p0 :: ps := by
    cases P with
    | nil => exact absurd rfl i2
    | cons p0 ps => exact ⟨p0, ps, rfl⟩
  have hb2 : Below w.heap.size w w2 := by rw [hw2]; exact (below_drewN (Below.refl _ _) _).alloc (Nat.le_refl _) _
  have hr2 : Row w2 w.heap.size 9 (Lib.cellsOf (p0 :: ps) N) := by rw [hw2]; exact Row.new (w.drewN k) _ _
  have c0 : w2.cell? ⟨w.heap.size, 0, none⟩ = some (.string p0) := by
    rw [hr2.cell]
    simp [Lib.cellsOf]
  have HSt : Hid (∀ A : Option Addr, (1 < N → A = some ⟨w.heap.size, 1, none⟩) → Strs w2 w2.heap.size A w.heap.size 1 ps) := fun A hA i p hp => by
    have hlt := (List.getElem?_eq_some_iff.1 hp).1
    refine ⟨hA (by simp only [List.length_cons] at hPN; omega), hr2.lt, ?_⟩
    rw [hr2.cell, Lib.cellsOf, List.getElem?_toArray, List.getElem?_append_left (by simp; omega), List.getElem?_map, Nat.add_comm, List.getElem?_cons_succ, hp]
    rfl
  have hsz : (w.drewN k).heap.size = w.heap.size := rfl
  rw [hsz]
  have HB2 := Lib.hid hb2
  have HF1 : Hid (f = false → ∀ ps after, ¬ DecP rest word lo hi ps after) := fun h ps after hd => by
    have := dec_cut HW.out hd
    rw [HF.out, this] at h
    cases h
  have HF2 : Hid (p0 ≠ word → ∀ ps after, ¬ DecP rest word lo hi ps after) := fun h ps' after hd => by
    have := HP.out ps' after hd
    rw [List.map_cons] at this
    injection this with h1 h2
    exact h (ByteArray.ext (Array.toList_inj.1 h1))
  have HF3 : Hid (¬ (lo ≤ ps.length ∧ ps.length ≤ hi) → ∀ ps after, ¬ DecP rest word lo hi ps after) := fun h ps' after hd => by
    have := HP.out ps' after hd
    rw [List.map_cons] at this
    injection this with h1 h2
    have h3 := congrArg List.length h2
    rw [List.length_map] at h3
    exact h (by rw [h3]; exact hd.2.1)
  rw [List.length_cons] at hPN ⊢
  clear hw2 hb2 hr2 hsz HP HL HA HF i2
  cases f
  · have HFx := Lib.hid (HF1.out rfl)
    go_wp2_with fail
    go_ret3
    exact ⟨.inr ⟨HFx.out, rfl⟩, HB2.out⟩
  by_cases hpw : p0 = word
  case neg =>
    have hne : (p0.toList == word.toList) = false := by
      rw [Lib.toList_data, Lib.toList_data, beq_eq_false_iff_ne]
      exact fun h => hpw (ByteArray.ext (Array.toList_inj.1 h))
    have HFx := Lib.hid (HF2.out hpw)
    go_wp2_with fail
    go_ret3
    exact ⟨.inr ⟨HFx.out, rfl⟩, HB2.out⟩
  subst hpw
  by_cases h0 : ps.length < lo
  · have HFx := Lib.hid (HF3.out (by omega))
    go_wp2_with fail
    go_ret3
    exact ⟨.inr ⟨HFx.out, rfl⟩, HB2.out⟩
  by_cases h1 : hi < ps.length
  · have HFx := Lib.hid (HF3.out (by omega))
    go_wp2_with fail
    go_ret3
    exact ⟨.inr ⟨HFx.out, rfl⟩, HB2.out⟩
  have HD := Lib.hid (HQ.out ps rfl rfl (by omega) (by omega))
  clear HQ HF1 HF2 HF3
  by_cases hN' : N = 1
  · have HS1 := Lib.hid (HSt.out (some ⟨w.heap.size, 0, none⟩) (fun h => by omega))
    subst hN'
    obtain rfl : ps = [] := List.length_eq_zero_iff.1 (by omega)
    go_wp2_with fail
    go_ret3
    exact ⟨.inl ⟨[], after, _, w.heap.size, _, HD.out, rfl, HS1.out⟩, HB2.out⟩
  · have HS1 := Lib.hid (HSt.out (some ⟨w.heap.size, 1, none⟩) (fun _ => rfl))
    go_wp2_with fail
    go_ret3
    exact ⟨.inl ⟨ps, after, _, w.heap.size, _, HD.out, rfl, HS1.out⟩, HB2.out⟩

end Go.Proofs.YtiikphdgnhajeaaDoor

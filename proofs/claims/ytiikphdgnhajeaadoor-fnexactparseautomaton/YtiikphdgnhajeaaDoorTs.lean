/- The walk of (*impl.lineScanner).takeStates. -/
import Derived.Test.YtiikphdgnhajeaaDoorZq
import Derived.Test.YtiikphdgnhajeaaDoorAvI
import Derived.Test.YtiikphdgnhajeaaDoorBoS
namespace Go.Proofs.YtiikphdgnhajeaaDoor
open Go.RowKit

/-- No valid automaton has this text. -/
def NoAu (t : ByteArray) : Prop := ∀ a : Au, auOk a = true → TrsR a.es → auB a ≠ t
theorem au_take {a : Au} {t : ByteArray} (h : auOk a = true) (hr : TrsR a.es) (ht : auB a = t) :
    ∃ r1 r2 r3 : ByteArray, DecN t autW 1 1 [(a.acc.length : Int)] r1.data.toList ∧ DecN r1 iniW 0 64 a.ini r2.data.toList ∧ DecN r2 accW 0 64 (accs a.acc) r3.data.toList ∧ r3.data.toList = edsL a.es := by
  obtain ⟨h1, h2, h3, h4, h5⟩ := auOk_parts h
  have hi := auOk_ini h
  have ha := auOk_accs h
  have hs : ∀ e ∈ a.es, SmallN (trNs e) := fun e he => by
    obtain ⟨i, hi⟩ := List.getElem?_of_mem he
    exact auOk_tr h hi (hr e he)
  refine ⟨lineN iniW a.ini ++ (lineN accW (accs a.acc) ++ ⟨(edsL a.es).toArray⟩), lineN accW (accs a.acc) ++ ⟨(edsL a.es).toArray⟩, ⟨(edsL a.es).toArray⟩, ?_, ?_, ?_, rfl⟩
  · refine decN_line (fun z hz => ?_) (Nat.le_refl _) (Nat.le_refl _) ?_
    · simp only [List.mem_singleton] at hz
      omega
    · rw [← ht]
      unfold auB
      rw [fold_edL _ _ hs]
      unfold headA
      simp
  · exact decN_line hi.1 (Nat.zero_le _) hi.2 (by simp)
  · exact decN_line ha.1 (Nat.zero_le _) ha.2 (by simp)

/-- What has been taken: the number of states, the initial and the accepting ones. -/
def TsOk (t : ByteArray) (n : Nat) (ini accl : List Int) (r3 : ByteArray) : Prop :=
  ∃ r1 r2 : ByteArray, DecN t autW 1 1 [(n : Int)] r1.data.toList ∧ DecN r1 iniW 0 64 ini r2.data.toList ∧ DecN r2 accW 0 64 accl r3.data.toList ∧ 1 ≤ n ∧ n ≤ 64 ∧ asc n accl = true
/-- The bools of a row. -/
def RowB (w : World) (g : Nat) (zs : List Bool) : Prop := ∃ cs : Array Value, Row w g 4 cs ∧ cs.size = zs.length ∧ ∀ (i : Nat) (z : Bool), zs[i]? = some z → cs[i]? = some (.bool z)
def TsPost (t : ByteArray) (sb : Nat) (w : World) (e' : Ending) (w' : World) : Prop :=
  ((∃ (n : Nat) (ini accl : List Int) (r3 : ByteArray) (gi ga : Nat), TsOk t n ini accl r3 ∧ e' = .returned (.tuple #[.agg #[.slice (some ⟨gi, 0, none⟩) ini.length ini.length, .slice (some ⟨ga, 0, none⟩) n n, .slice none 0 0], .bool true]) ∧ Row w' sb 67 #[.string r3] ∧ LaidI w' gi ini ini.length ∧ RowB w' ga (marksB n accl) ∧ w.heap.size ≤ gi ∧ w.heap.size ≤ ga) ∨
    (NoAu t ∧ e' = .returned (.tuple #[.agg #[.slice none 0 0, .slice none 0 0, .slice none 0 0], .bool false]))) ∧ Bt sb w w'

theorem noAu1 {t : ByteArray} (h : ∀ zs after, ¬ DecN t autW 1 1 zs after) : NoAu t := fun a ha hr e => by
  obtain ⟨r1, _, _, h1, _⟩ := au_take ha hr e
  exact h _ _ h1
theorem noAu2 {t r1 : ByteArray} {z : Int} (h1 : DecN t autW 1 1 [z] r1.data.toList) (h : ∀ zs after, ¬ DecN r1 iniW 0 64 zs after) : NoAu t := fun a ha hr e => by
  obtain ⟨s1, _, _, k1, k2, _⟩ := au_take ha hr e
  obtain ⟨_, u2⟩ := decN_unique wd_aut h1 k1
  have : r1 = s1 := ByteArray.ext (Array.toList_inj.1 u2)
  subst this
  exact h _ _ k2
theorem noAu3 {t r1 r2 : ByteArray} {z : Int} {ini : List Int} (h1 : DecN t autW 1 1 [z] r1.data.toList) (h2 : DecN r1 iniW 0 64 ini r2.data.toList) (h : ∀ zs after, ¬ DecN r2 accW 0 64 zs after) : NoAu t := fun a ha hr e => by
  obtain ⟨s1, s2, _, k1, k2, k3, _⟩ := au_take ha hr e
  obtain ⟨_, u2⟩ := decN_unique wd_aut h1 k1
  have : r1 = s1 := ByteArray.ext (Array.toList_inj.1 u2)
  subst this
  obtain ⟨_, u4⟩ := decN_unique wd_ini h2 k2
  have : r2 = s2 := ByteArray.ext (Array.toList_inj.1 u4)
  subst this
  exact h _ _ k3
theorem noAu4 {t r1 r2 r3 : ByteArray} {z : Int} {ini accl : List Int} (h1 : DecN t autW 1 1 [z] r1.data.toList) (h2 : DecN r1 iniW 0 64 ini r2.data.toList) (h3 : DecN r2 accW 0 64 accl r3.data.toList) (h : ¬ (1 ≤ z ∧ z ≤ 64 ∧ asc z accl = true)) : NoAu t := fun a ha hr e => by
  obtain ⟨s1, s2, s3, k1, k2, k3, _⟩ := au_take ha hr e
  obtain ⟨u1, u2⟩ := decN_unique wd_aut h1 k1
  have : r1 = s1 := ByteArray.ext (Array.toList_inj.1 u2)
  subst this
  obtain ⟨_, u4⟩ := decN_unique wd_ini h2 k2
  have : r2 = s2 := ByteArray.ext (Array.toList_inj.1 u4)
  subst this
  obtain ⟨u5, _⟩ := decN_unique wd_acc h3 k3
  injection u1 with u1
  obtain ⟨q1, q2, _⟩ := auOk_parts ha
  apply h
  rw [u1, u5]
  refine ⟨by omega, by omega, asc_true fun i hi => ?_⟩
  have hp := accTo_pw a.acc a.acc.length
  have hx : (accs a.acc)[i]? = some ((accs a.acc)[i]) := List.getElem?_eq_getElem hi
  rw [okAt_iff hx]
  have hm := accTo_mem (List.mem_of_getElem? hx)
  rw [decide_eq_true (show (accs a.acc)[i] < (a.acc.length : Int) from hm.2), Bool.and_true]
  apply decide_eq_true
  cases i with
  | zero => show (-1 : Int) < _; omega
  | succ i =>
    show (accs a.acc).getD i 0 < _
    have h2 := (List.pairwise_iff_getElem.1 hp) i (i + 1) (by unfold accs at hi; omega) hi (by omega)
    rw [show (accs a.acc).getD i 0 = (accs a.acc)[i]'(by omega) by simp [List.getD, show i < (accs a.acc).length by omega]]
    exact h2

end Go.Proofs.YtiikphdgnhajeaaDoor

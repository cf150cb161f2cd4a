/- The text of an automaton as plain data. -/
import Derived.Test.YtiikphdgnhajeaaDoorAvP
import Derived.Test.YtiikphdgnhajeaaDoorAc
import Derived.Test.YtiikphdgnhajeaaDoorNl
namespace Go.Proofs.YtiikphdgnhajeaaDoor
open Go.RowKit

def autW : ByteArray := ⟨#[97, 117, 116, 111, 109, 97, 116, 111, 110]⟩
def iniW : ByteArray := ⟨#[105, 110, 105, 116, 105, 97, 108]⟩
def accW : ByteArray := ⟨#[97, 99, 99, 101, 112, 116, 105, 110, 103]⟩
def edgW : ByteArray := ⟨#[101, 100, 103, 101]⟩
def trNs (e : Tr) : List Int := [e.fr, e.ca, e.va, e.tt]
def edStepA (o : ByteArray) (e : Tr) : ByteArray := o ++ lineN edgW (trNs e)
def headA (a : Au) : ByteArray := lineN autW [(a.acc.length : Int)] ++ lineN iniW a.ini ++ lineN accW (accs a.acc)
def auB (a : Au) : ByteArray := a.es.foldl edStepA (headA a)
/-- The text of an automaton; of an invalid one there is none. -/
def fmtAu (a : Au) : ByteArray := if auOk a then auB a else ⟨#[]⟩

theorem auOk_parts {a : Au} (h : auOk a = true) : 1 ≤ a.acc.length ∧ a.acc.length ≤ 64 ∧ a.es.length ≤ 2048 ∧ asc a.acc.length a.ini = true ∧ trsOk a.acc.length a.es = true := by
  unfold auOk at h
  simp only [Bool.and_eq_true, decide_eq_true_eq] at h
  exact ⟨h.1.1, h.1.2, h.2.1, h.2.2.1, h.2.2.2⟩
theorem auOk_ini {a : Au} (h : auOk a = true) : SmallN a.ini ∧ a.ini.length ≤ 64 := by
  obtain ⟨h1, h2, _, h4, _⟩ := auOk_parts h
  refine ⟨fun z hz => ?_, ?_⟩
  · obtain ⟨i, hi⟩ := List.getElem?_of_mem hz
    have hl := (List.getElem?_eq_some_iff.1 hi).1
    have := asc_ge (fun q hq => asc_at h4 hq) i hl
    have hx : a.ini.getD i 0 = z := by simp [List.getD, hi]
    omega
  · have := asc_len h4 (by omega)
    omega
theorem auOk_accs {a : Au} (h : auOk a = true) : SmallN (accs a.acc) ∧ (accs a.acc).length ≤ 64 := by
  obtain ⟨h1, h2, _⟩ := auOk_parts h
  refine ⟨fun z hz => ?_, ?_⟩
  · have := accTo_mem hz
    omega
  · have := accTo_len a.acc a.acc.length
    unfold accs
    omega
theorem auOk_tr {a : Au} (h : auOk a = true) {i : Nat} {e : Tr} (he : a.es[i]? = some e) (hr : TrR e) : SmallN (trNs e) := by
  obtain ⟨h1, h2, _, _, h5⟩ := auOk_parts h
  unfold trsOk at h5
  have h6 := List.all_eq_true.1 h5 e (List.mem_of_getElem? he)
  unfold trOk at h6
  simp only [Bool.and_eq_true, decide_eq_true_eq] at h6
  have h7 := inside_le hr.2.2.1 h6.2.2.1.1 (by omega) h6.2.2.2
  intro z hz
  unfold trNs at hz
  simp only [List.mem_cons, List.not_mem_nil, or_false] at hz
  rcases hz with rfl | rfl | rfl | rfl <;> omega
theorem lineN_size {word : ByteArray} {zs : List Int} (h : SmallN zs) : (lineN word zs).size ≤ word.size + 3 * zs.length + 1 := by
  unfold lineN
  rw [ByteArray.size_append]
  have := wordB_size (word := word) h
  show _ + 1 ≤ _
  omega
theorem foldl_take_succA {X Y : Type} {f : Y → X → Y} {a : Y} {l : List X} {j : Nat} {x : X} (h : l[j]? = some x) : (l.take (j + 1)).foldl f a = f ((l.take j).foldl f a) x := by
  have hi := (List.getElem?_eq_some_iff.1 h).1
  rw [List.take_succ_eq_append_getElem hi, (List.getElem?_eq_some_iff.1 h).2, List.foldl_append]
  rfl
theorem edFold_size {es : List Tr} (h : ∀ (i : Nat) (e : Tr), es[i]? = some e → SmallN (trNs e)) (o : ByteArray) : ∀ j, j ≤ es.length → ((es.take j).foldl edStepA o).size ≤ o.size + 17 * j := by
  intro j
  induction j with
  | zero => intro _; exact Nat.le_refl _
  | succ j ih =>
    intro hj
    obtain ⟨e, he⟩ : ∃ e, es[j]? = some e := ⟨_, List.getElem?_eq_getElem (by omega)⟩
    rw [foldl_take_succA he]
    unfold edStepA
    rw [ByteArray.size_append]
    have h1 := ih (by omega)
    unfold edStepA at h1
    have h2 := lineN_size (word := edgW) (h j e he)
    have h3 : edgW.size = 4 := rfl
    have h4 : (trNs e).length = 4 := rfl
    omega

end Go.Proofs.YtiikphdgnhajeaaDoor

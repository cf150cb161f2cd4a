/- The text of a system, as plain data. -/
import Derived.Test.YtcipnecdeipeaaaDoorFy1Q
namespace Go.Proofs.YtcipnecdeipeaaaDoor
open Go.RowKit

def iniStep (o : ByteArray) (z : Int) : ByteArray := o ++ ((⟨#[32]⟩ : ByteArray) ++ strOfNums [48 + z])
def initB (zs : List Int) : ByteArray := zs.foldl iniStep ⟨#[115, 121, 115, 116, 101, 109]⟩
def edStep (o : ByteArray) (e : Ed) : ByteArray := o ++ (lineB e ++ (⟨#[10]⟩ : ByteArray))
def headB (loc : Int) : ByteArray := (⟨#[112, 114, 111, 99, 101, 115, 115, 32]⟩ : ByteArray) ++ strOfNums [48 + loc] ++ (⟨#[10]⟩ : ByteArray)
def procB (o : ByteArray) (p : Pr) : ByteArray := p.es.foldl edStep (o ++ headB p.loc)
def sysB (s : Sy) : ByteArray := s.ps.foldl procB (initB s.ini ++ (⟨#[10]⟩ : ByteArray))
/-- The text that FormatSystem answers. -/
def fmtSy (s : Sy) : ByteArray := if syOk s then sysB s else ⟨#[]⟩

theorem foldl_take_succ {X Y : Type} {f : Y → X → Y} {a : Y} {l : List X} {j : Nat} {x : X} (h : l[j]? = some x) : (l.take (j + 1)).foldl f a = f ((l.take j).foldl f a) x := by
  have hi := (List.getElem?_eq_some_iff.1 h).1
  rw [List.take_succ_eq_append_getElem hi, (List.getElem?_eq_some_iff.1 h).2, List.foldl_append]
  rfl
theorem size_ini (zs : List Int) : ∀ o : ByteArray, (zs.foldl iniStep o).size = o.size + 2 * zs.length := by
  induction zs with
  | nil => intro o; rfl
  | cons z r ih =>
    intro o
    rw [List.foldl_cons, ih]
    unfold iniStep
    rw [ByteArray.size_append, ByteArray.size_append, one_size, List.length_cons]
    have : (⟨#[32]⟩ : ByteArray).size = 1 := rfl
    omega
theorem size_initB (zs : List Int) : (initB zs).size = 6 + 2 * zs.length := size_ini zs _
theorem size_edges (es : List Ed) : ∀ o : ByteArray, (es.foldl edStep o).size ≤ o.size + 421 * es.length := by
  induction es with
  | nil => intro o; exact Nat.le_refl _
  | cons e r ih =>
    intro o
    rw [List.foldl_cons, List.length_cons]
    have h := ih (edStep o e)
    have h2 : (edStep o e).size ≤ o.size + 421 := by
      unfold edStep
      rw [ByteArray.size_append, ByteArray.size_append]
      have := lineB_small e
      have : (⟨#[10]⟩ : ByteArray).size = 1 := rfl
      omega
    omega
theorem size_head (loc : Int) : (headB loc).size = 10 := by
  unfold headB
  rw [ByteArray.size_append, ByteArray.size_append, one_size]
  rfl
theorem size_proc {p : Pr} (h : p.es.length ≤ 6) (o : ByteArray) : (procB o p).size ≤ o.size + 2600 := by
  unfold procB
  have h1 := size_edges p.es (o ++ headB p.loc)
  rw [ByteArray.size_append, size_head] at h1
  omega
theorem size_procs (ps : List Pr) : (∀ p ∈ ps, p.es.length ≤ 6) → ∀ o : ByteArray, (ps.foldl procB o).size ≤ o.size + 2600 * ps.length := by
  induction ps with
  | nil => intro _ o; exact Nat.le_refl _
  | cons p r ih =>
    intro h o
    rw [List.foldl_cons, List.length_cons]
    have h1 := ih (fun q hq => h q (List.mem_cons_of_mem _ hq)) (procB o p)
    have h2 := size_proc (h p List.mem_cons_self) o
    omega

theorem syOk_prs {s : Sy} {k : Nat} {x : Pr} (h : syOk s = true) (hx : s.ps[k]? = some x) : prOk x = true := by
  unfold syOk at h
  simp only [Bool.and_eq_true, List.all_eq_true] at h
  exact h.1 x (List.mem_of_getElem? hx)
theorem syOk_small {s : Sy} (h : syOk s = true) : s.ps.length ≤ 3 ∧ s.ini.length = 3 ∧ (∀ i, 0 ≤ s.ini.getD i 0 ∧ s.ini.getD i 0 ≤ 3) ∧ ∀ p ∈ s.ps, p.es.length ≤ 6 := by
  unfold syOk at h
  simp only [Bool.and_eq_true, List.all_eq_true, decide_eq_true_eq] at h
  obtain ⟨h1, h2, h3, h4⟩ := h
  obtain ⟨v1, v2⟩ := valsOk_parts (n := s.ini.length) (zs := s.ini) h2
  refine ⟨h4, v1, v2, fun p hp => ?_⟩
  have := h1 p hp
  unfold prOk at this
  simp only [Bool.and_eq_true, decide_eq_true_eq] at this
  exact this.2.2.2
theorem prOk_small {p : Pr} (h : prOk p = true) : 1 ≤ p.loc ∧ p.loc ≤ 4 ∧ p.es.length ≤ 6 := by
  unfold prOk at h
  simp only [Bool.and_eq_true, decide_eq_true_eq] at h
  exact h.2
theorem prOk_ed {p : Pr} {k : Nat} {e : Ed} (h : prOk p = true) (he : p.es[k]? = some e) : edOk e p.loc = true := by
  unfold prOk at h
  simp only [Bool.and_eq_true, List.all_eq_true] at h
  exact h.1 e (List.mem_of_getElem? he)
theorem edOk_parts {e : Ed} {n : Int} (h : edOk e n = true) : 0 ≤ e.fr ∧ e.fr ≤ 3 ∧ 0 ≤ e.to ∧ e.to ≤ 3 ∧ valid e.g = true ∧ (e.vr = -1 ∨ 0 ≤ e.vr ∧ e.vr ≤ 2 ∧ valid e.vl = true) ∧ -2 ≤ e.sy ∧ e.sy ≤ 2 := by
  unfold edOk locOk actOk asgOk at h
  simp only [Bool.and_eq_true, decide_eq_true_eq] at h
  obtain ⟨h0, ⟨h1, h2, h3, h4⟩, h5, h6, h7, h8⟩ := h
  refine ⟨h1, by omega, h3, by omega, h5, ?_, h7, h8⟩
  split at h6
  · exact .inl (by assumption)
  · simp only [Bool.and_eq_true, decide_eq_true_eq] at h6
    exact .inr ⟨h6.1, by omega, h6.2.2⟩

end Go.Proofs.YtcipnecdeipeaaaDoor

/- Letters of the states of a graph as plain data. -/
import Derived.Test.YtldnegacgjijlaaLePQ
import Derived.Test.YtldnegacgjijlaaGv0Q
namespace Go.Proofs.Ytldnegacgjijlaa
open Go.RowKit

def lgOk (g : Gp) (es : List Ex) : Bool := grOk g && labsOk es
def lgL (g : Gp) (es : List Ex) : List Int := g.sts.map fun s => ((letterN es s.vals : Nat) : Int)
def lgOut (g : Gp) (es : List Ex) : List Int := if lgOk g es then lgL g es else []
theorem lgOut_le (g : Gp) (es : List Ex) : (lgOut g es).length ≤ g.sts.length := by
  unfold lgOut
  split
  · unfold lgL; rw [List.length_map]; exact Nat.le_refl _
  · exact Nat.zero_le _
theorem lgOut_len (g : Gp) (es : List Ex) (h : Lay.gra.sz g ≤ 1048576) : (lgOut g es).length ≤ 1048576 := by
  have h1 := lgOut_le g es
  have h2 := Lay.sta.szL_length g.sts
  rw [gra_sz] at h
  omega
theorem gr_node {g : Gp} (h : grOk g = true) {i : Nat} {s : St} (hs : g.sts[i]? = some s) : valsOk s.vals = true := by
  unfold grOk at h
  simp only [Bool.and_eq_true, decide_eq_true_eq] at h
  obtain ⟨_, _, h3, h4⟩ := h
  have hi := (List.getElem?_eq_some_iff.1 hs).1
  obtain ⟨y, hy⟩ : ∃ y, g.nxt[i]? = some y := ⟨_, List.getElem?_eq_getElem (by omega)⟩
  have h5 := List.all_eq_true.1 h4 (s, y) (List.mem_of_getElem? (zip_get hs hy))
  unfold nodeOk at h5
  simp only [Bool.and_eq_true] at h5
  exact h5.1
theorem gr_size {g : Gp} (h : grOk g = true) : g.sts.length ≤ 60 := by
  unfold grOk at h
  simp only [Bool.and_eq_true, decide_eq_true_eq] at h
  exact h.2.1
theorem lg_take {g : Gp} {es : List Ex} {i : Nat} {s : St} (h : g.sts[i]? = some s) : ((lgL g es).take (i + 1)) = (lgL g es).take i ++ [((letterN es s.vals : Nat) : Int)] := by
  have h2 : (lgL g es)[i]? = some ((letterN es s.vals : Nat) : Int) := by unfold lgL; rw [List.getElem?_map, h]; rfl
  rw [List.take_add_one, h2]
  rfl
theorem lg_len (g : Gp) (es : List Ex) : (lgL g es).length = g.sts.length := List.length_map _

end Go.Proofs.Ytldnegacgjijlaa

/- A map keyed by a port (a process and a channel) whose values are slices of numbers: an entry found or made, and stored. -/
import Derived.Test.YtefpdkfogfhniaaSp2Q
import Derived.WideKeyEntry
import Derived.DeepKeys4
namespace Go.Proofs.Ytefpdkfogfhniaa
open Go.RowKit
open Go.WideMaps (KeyLaw)

theorem port_laid : laidOutB Try.prog = true := by kernel_rfl
theorem port_row : (100 : TypeId) < Try.prog.types.size := of_decide_eq_true (by kernel_rfl)
theorem port_wide : (match Try.prog.underlying 100 with | some (.array _ _) | some (.struct _) => true | _ => false) = true := by kernel_rfl
set_option maxRecDepth 100000 in
theorem port_law : KeyLaw Try.prog 100 := deep_law_laid port_laid (m := 2) (by omega) port_row (by kernel_rfl) port_wide
theorem port_map : Try.prog.underlying 72 = some (.map 100 22) := by kernel_rfl

/-- A port as a value. -/
def portV (p c : Int) : Value := .agg #[.int .i64 p, .int .i64 c]
theorem portV_inj {p c p' c' : Int} (h : portV p c = portV p' c') : p = p' ∧ c = c' := by
  unfold portV at h
  injection h with h
  injection h with h
  injection h with h1 h
  injection h with h2 _
  injection h1 with _ h1
  injection h2 with _ h2
  exact ⟨h1, h2⟩
theorem port_all : ((List.range 3).all fun p => (List.range 5).all fun c => (keyOf Try.prog 100 (portV (p : Int) ((c : Int) - 2))).isSome) = true := by kernel_rfl
theorem port_key {p c : Int} (hp : 0 ≤ p ∧ p ≤ 2) (hc : -2 ≤ c ∧ c ≤ 2) : ∃ l, keyOf Try.prog 100 (portV p c) = some l := by
  have h1 := List.all_eq_true.1 port_all p.toNat (by rw [List.mem_range]; omega)
  have h2 := List.all_eq_true.1 h1 (c + 2).toNat (by rw [List.mem_range]; omega)
  rw [show ((p.toNat : Nat) : Int) = p by omega, show (((c + 2).toNat : Nat) : Int) - 2 = c by omega] at h2
  exact Option.isSome_iff_exists.1 h2

/-- A block laid anew. -/
def putM (w : World) (b : Nat) (o : Obj) : World := { w with heap := w.heap.setIfInBounds b o }
section
variable {w w1 : World} {b : Nat} {o : Obj}
theorem putM_same (h : b < w.heap.size) : (putM w b o).heap[b]? = some o := by simp [putM, h]
theorem putM_size : (putM w b o).heap.size = w.heap.size := by simp [putM]
theorem putM_grown (w : World) (b : Nat) (o : Obj) : w.grownBy (putM w b o) (some b) :=
  ⟨rfl, rfl, rfl, by rw [putM_size]; exact Nat.le_refl _, fun k _ hk => by
    have hne : ¬ b = k := fun e => hk (by rw [e])
    simp only [putM, Array.getElem?_setIfInBounds, if_neg hne]⟩
theorem lt_of_heap {w : World} {b : Nat} {o : Obj} (h : w.heap[b]? = some o) : b < w.heap.size := by
  by_cases hlt : b < w.heap.size
  · exact hlt
  · rw [Array.getElem?_eq_none (by omega)] at h
    cases h
theorem owns_grown {base size n g cap : Nat} {t : TypeId} {xs : List Value} {row : Option Nat} (h : w.ownsRow base t size (.slice (some ⟨g, 0, none⟩) n cap) n xs) (hg : w.grownBy w1 row) (hne : some g ≠ row) : w1.ownsRow base t size (.slice (some ⟨g, 0, none⟩) n cap) n xs := by
  have hlt := (owns_block h).2
  refine ⟨h.1, ?_⟩
  rcases h.2 with ⟨h1, _⟩ | ⟨g', cap', cur, hv, hb', hh, hr⟩
  · cases h1
  · refine .inr ⟨g', cap', cur, hv, hb', ?_, hr⟩
    injection hv with e1 e2 e3
    injection e1 with e1
    injection e1 with e1
    subst e1
    exact (hg.block g hlt hne).trans hh
end

section
variable {P : Program} {w : World} {t k e : TypeId} {b : Nat} {es : Array MapEntry} {clock : Nat} {key : Value} {kl : Lit}
theorem entry_hit (K : KeyLaw P k) (ht : P.underlying t = some (.map k e)) (hb : w.heap[b]? = some (.map es clock)) (hkeys : ∀ x ∈ es.toList, ∃ l, keyOf P k x.key = some l) (hkey : keyOf P k key = some kl)
    (hu : ∀ (i j : Nat) (ei ej : MapEntry), es[i]? = some ei → es[j]? = some ej → ei.key = ej.key → i = j) {j : Nat} {e0 : MapEntry} (hj : es[j]? = some e0) (hk : e0.key = key) :
    (Instr.mapEntry t (.map (some b)) key).run P w = .ok (.tuple #[e0.val, goInt e0.born]) (putM w b (.map es clock)) := by
  rcases K.find w hkey es.toList hkeys with ⟨_, h2⟩ | ⟨i, e1, h1, h2, h3⟩
  · exact absurd hk (h2 e0 (List.mem_of_getElem? (by simpa using hj)))
  · have hi : es[i]? = some e1 := by simpa using h2
    have hij : i = j := hu i j e1 e0 hi hj (by rw [h3, hk])
    subst hij
    have he : e1 = e0 := by rw [hi] at hj; injection hj
    subst he
    have hsame : es.modify i (fun e => { e with key := key }) = es := by
      apply Array.ext'
      rw [Array.toList_modify, ChangeMaps.modify_eq_set _ _ _ _ h2]
      have : ({ e1 with key := key } : MapEntry) = e1 := by rw [← h3]
      rw [this]
      exact WideElems.set_self _ _ _ h2
    simp [Instr.mapEntry, run_underlying ht, MapKept.run_getObj_map hb, K.check w false hkey, h1, hi, h3, K.stays w hkey, hsame, MapKept.run_setObj_map _ hb, Result.andThen, putM]
theorem entry_miss (K : KeyLaw P k) (ht : P.underlying t = some (.map k e)) {z : Value} (hz : ∀ u : World, (zeroValue e).run P u = .ok z u) (hb : w.heap[b]? = some (.map es clock)) (hkeys : ∀ x ∈ es.toList, ∃ l, keyOf P k x.key = some l) (hkey : keyOf P k key = some kl) (hno : ∀ x ∈ es.toList, x.key ≠ key) :
    (Instr.mapEntry t (.map (some b)) key).run P w = .ok (.tuple #[z, goInt clock]) (putM w b (.map (es.push ⟨key, z, clock⟩) (clock + 1))) := by
  rcases K.find w hkey es.toList hkeys with ⟨h1, _⟩ | ⟨i, e1, _, h2, h3⟩
  · simp [Instr.mapEntry, run_underlying ht, MapKept.run_getObj_map hb, K.check w false hkey, h1, hz, MapKept.run_setObj_map _ hb, Result.andThen, putM]
  · exact absurd h3 (hno e1 (List.mem_of_getElem? h2))
theorem entry_store (hb : w.heap[b]? = some (.map es clock)) (hborn : ∀ (j : Nat) (x : MapEntry), es[j]? = some x → x.born = j) {j : Nat} (hj : j < es.size) (v : Value) :
    (Instr.entryStore t (.map (some b)) (goInt j) v).run P w = .ok () (putM w b (.map (es.modify j fun x => { x with val := v }) clock)) := by
  have hn : (es.toList.map (·.born)).Nodup := by
    have : es.toList.map (·.born) = List.range es.size := by
      apply List.ext_getElem?
      intro i
      rw [List.getElem?_map]
      by_cases hi : i < es.size
      · have h1 : es[i]? = some es[i] := Array.getElem?_eq_getElem hi
        rw [show es.toList[i]? = some es[i] by simp, List.getElem?_range hi]
        simp [hborn i _ h1]
      · rw [List.getElem?_eq_none (by simpa using Nat.le_of_not_lt hi), List.getElem?_eq_none (by simpa using Nat.le_of_not_lt hi)]
        rfl
    rw [this]
    exact List.nodup_range
  have h0 : es[j]? = some es[j] := Array.getElem?_eq_getElem hj
  have hidx : es.findIdx? (fun x => ((x.born : Nat) : Int) == ((j : Nat) : Int)) = some j := by
    have h := WideElems.findIdx_born (l := es.toList) hn (j := j) (e0 := es[j]) (by simp)
    rw [hborn j _ h0] at h
    rw [WideElems.findIdx_arr]
    exact h
  simp [Instr.entryStore, MapKept.run_getObj_map hb, asInt, asIntOf, goInt, hidx, MapKept.run_setObj_map _ hb, Result.andThen, putM]
end

end Go.Proofs.Ytefpdkfogfhniaa

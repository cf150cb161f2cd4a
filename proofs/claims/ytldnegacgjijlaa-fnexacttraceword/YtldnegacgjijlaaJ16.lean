/- Joined texts: TwP, Ir, ResD, OwV. Nothing is assumed. -/
import Derived.Test.YtldnegacgjijlaaJ12
import Derived.Test.YtldnegacgjijlaaTvIQ
import Derived.Test.YtldnegacgjijlaaLvWQ
import Derived.Test.YtldnegacgjijlaaJ10
import Derived.Test.YtldnegacgjijlaaGrQ
import Derived.OwnWalk
import Derived.Maps.AppendAt
namespace Go.Proofs.Ytldnegacgjijlaa
open Go.RowKit

/-- The numbers at some indices. -/
def pickL (ls at_ : List Int) : List Int := at_.map fun z => ls.getD z.toNat 0
theorem pick_len (ls at_ : List Int) : (pickL ls at_).length = at_.length := List.length_map _
theorem pick_take {ls at_ : List Int} {j : Nat} {z : Int} (h : at_[j]? = some z) : (pickL ls at_).take (j + 1) = (pickL ls at_).take j ++ [ls.getD z.toNat 0] := by
  have h2 : (pickL ls at_)[j]? = some (ls.getD z.toNat 0) := by unfold pickL; rw [List.getElem?_map, h]; rfl
  rw [List.take_add_one, h2]
  rfl
def wordT (g : Gp) (es : List Ex) (t : St) : St := ⟨pickL (lgL g es) t.locs, pickL (lgL g es) t.vals⟩
def twOk (g : Gp) (es : List Ex) (t : St) : Bool := lgOk g es && (trOk g t && La.laOk (wordT g es t))
def twOut (g : Gp) (es : List Ex) (t : St) : St := if twOk g es t then wordT g es t else ⟨[], []⟩
theorem tr_parts {g : Gp} {t : St} (h : trOk g t = true) : pathOk g (trAll t) = true ∧ (trAll t).length ≤ 8000 := by
  unfold trOk at h
  simp only [Bool.and_eq_true, decide_eq_true_eq] at h
  exact ⟨h.2.2.2.1, h.2.1⟩
theorem tr_in {g : Gp} {t : St} (h : trOk g t = true) : (∀ z ∈ t.locs, inOk g.sts.length z = true) ∧ ∀ z ∈ t.vals, inOk g.sts.length z = true := by
  have h1 := (tr_parts h).1
  have key : ∀ z ∈ trAll t, inOk g.sts.length z = true := fun z hz => by
    obtain ⟨i, hi⟩ := List.getElem?_of_mem hz
    exact inOk_mem h1 hi
  exact ⟨fun z hz => key z (List.mem_append_left _ hz), fun z hz => key z (List.mem_append_right _ hz)⟩
theorem tr_len {g : Gp} {t : St} (h : trOk g t = true) : t.locs.length + t.vals.length ≤ 8000 := by
  have h1 := (tr_parts h).2
  have h2 : (trAll t).length = t.locs.length + t.vals.length := List.length_append
  omega

end Go.Proofs.Ytldnegacgjijlaa
namespace Go.Proofs.Ytldnegacgjijlaa
open Go.RowKit

theorem irow_of_owns {w : World} {base : Nat} {g n cap : Nat} {xs : List Value} (h : w.ownsRow base 3 1 (.slice (some ⟨g, 0, none⟩) n cap) n xs) : ∃ cs : Array Value, base ≤ g ∧ Row w g 3 cs ∧ ∀ (i : Nat) (u : Value), xs[i]? = some u → cs[i]? = some u := by
  rcases h.2 with ⟨h1, _⟩ | ⟨g', cap', cur, hv, hb, hh, _, _, _, ht⟩
  · cases h1
  · injection hv with e1 e2 e3
    injection e1 with e1
    injection e1 with e1
    subst e1
    refine ⟨cur, hb, hh, fun i u hu => ?_⟩
    rw [← ht, List.getElem?_take] at hu
    split at hu
    · simpa using hu
    · cases hu
theorem owns_same {w w1 : World} {base g n cap : Nat} {xs : List Value} (h : w.ownsRow base 3 1 (.slice (some ⟨g, 0, none⟩) n cap) n xs) (hb : w1.heap[g]? = w.heap[g]?) : w1.ownsRow base 3 1 (.slice (some ⟨g, 0, none⟩) n cap) n xs := by
  refine ⟨h.1, ?_⟩
  rcases h.2 with ⟨h1, _⟩ | ⟨g', cap', cur, hv, hb', hh, hr⟩
  · cases h1
  · refine .inr ⟨g', cap', cur, hv, hb', ?_, hr⟩
    injection hv with e1 e2 e3
    injection e1 with e1
    injection e1 with e1
    subst e1
    exact hb.trans hh

/-- A row of numbers of one's own. -/
def IRow (w : World) (g : Nat) (zs : List Int) : Prop := ∃ cs : Array Value, Row w g 3 cs ∧ ∀ (i : Nat) (z : Int), zs[i]? = some z → cs[i]? = some (.int .i64 z)
theorem IRow.ints {w : World} {g : Nat} {zs : List Int} (h : IRow w g zs) : Ints w w.heap.size (some ⟨g, 0, none⟩) g 0 zs := fun i z hz => by
  obtain ⟨cs, hr, hk⟩ := h
  refine ⟨rfl, hr.lt, ?_⟩
  rw [hr.cell, Nat.zero_add]
  exact hk i z hz
theorem IRow.cell {w : World} {g : Nat} {zs : List Int} (h : IRow w g zs) {i : Nat} {z : Int} (hz : zs[i]? = some z) : w.cell? ⟨g, i, none⟩ = some (.int .i64 z) := by
  obtain ⟨cs, hr, hk⟩ := h
  rw [hr.cell]; exact hk i z hz
theorem IRow.lt {w : World} {g : Nat} {zs : List Int} (h : IRow w g zs) : g < w.heap.size := by
  obtain ⟨cs, hr, hk⟩ := h
  exact hr.lt
theorem IRow.frozen {w : World} {g : Nat} {zs : List Int} (h : IRow w g zs) (i : Nat) : w.frozen? ⟨g, i, none⟩ = false := by
  obtain ⟨cs, hr, hk⟩ := h
  exact hr.frozen i
theorem IRow.same {w w1 : World} {g : Nat} {zs : List Int} (h : IRow w g zs) (hb : w1.heap[g]? = w.heap[g]?) : IRow w1 g zs := by
  obtain ⟨cs, hr, hk⟩ := h
  exact ⟨cs, hb.trans hr, hk⟩
theorem IRow.set {w : World} {g : Nat} {zs : List Int} (h : IRow w g zs) {m : Nat} (hm : m < zs.length) (x : Int) : IRow (w.setCell ⟨g, m, none⟩ (.int .i64 x)) g (zs.set m x) := by
  obtain ⟨cs, hr, hk⟩ := h
  refine ⟨cs.setIfInBounds m (.int .i64 x), hr.set_ _ _, fun i z hz => ?_⟩
  rw [Array.getElem?_setIfInBounds]
  have hc := hk m _ (List.getElem?_eq_getElem hm)
  have hmc : m < cs.size := (Array.getElem?_eq_some_iff.1 hc).1
  by_cases e : m = i
  · subst e
    rw [List.getElem?_set_self hm] at hz
    injection hz with hz
    subst hz
    rw [if_pos rfl, if_pos hmc]
  · rw [List.getElem?_set_ne e] at hz
    rw [if_neg e]
    exact hk i z hz

end Go.Proofs.Ytldnegacgjijlaa
namespace Go.Proofs.Ytldnegacgjijlaa
open Go.RowKit

/-- The slice has these numbers, in a row of one's own if there are any. -/
def SliceI (w : World) (lo : Nat) (l : List Int) (v : Value) : Prop := ∃ (A : Option Addr) (cap : Nat), v = .slice A l.length cap ∧ (l = [] ∨ ∃ g, A = some ⟨g, 0, none⟩ ∧ lo ≤ g ∧ IRow w g l)
def SpPost (l : List Int) (w : World) (e' : Ending) (w' : World) : Prop := ∃ v, e' = .returned v ∧ SliceI w' w.heap.size l v ∧ Below w.heap.size w w'
theorem SliceI.none (w : World) (lo : Nat) (A : Option Addr) (cap : Nat) : SliceI w lo [] (.slice A 0 cap) := ⟨A, cap, rfl, .inl rfl⟩
theorem SliceI.ints {w : World} {lo : Nat} {l : List Int} {v : Value} (h : SliceI w lo l v) : ∃ (A : Option Addr) (cap b off : Nat), v = .slice A l.length cap ∧ Ints w w.heap.size A b off l := by
  obtain ⟨A, cap, rfl, h1⟩ := h
  rcases h1 with rfl | ⟨g, rfl, _, h2⟩
  · exact ⟨A, cap, 0, 0, rfl, fun i z hz => by cases hz⟩
  · exact ⟨_, cap, g, 0, rfl, h2.ints⟩
theorem SliceI.sep {w : World} {lo : Nat} {l : List Int} {v : Value} (h : SliceI w lo l v) (hl : l.length ≤ maxLen) (hlo : lo ≤ w.heap.size) : (Lay.int.slice 3).sep w lo w.heap.size l (fun _ => v) := by
  obtain ⟨A, cap, rfl, h1⟩ := h
  rcases h1 with rfl | ⟨g, rfl, hg, cs, hr, hk⟩
  · exact ⟨A, cap, 0, #[], fun _ _ => undef, fun _ => lo, rfl, hl, fun _ _ => Nat.le_refl _, Nat.le_refl _, hlo, fun i x hx => by cases hx⟩
  · refine ⟨_, cap, g, cs, fun i _ => .int .i64 (l.getD i 0), fun _ => w.heap.size, rfl, hl, fun _ _ => Nat.le_refl _, hlo, Nat.le_refl _, fun i x hx => ⟨rfl, hg, hr.lt, .inl hr.lt, hr, fun j hj => ?_, ?_⟩⟩
    · have h1 : j < 1 := hj
      obtain rfl : j = 0 := by omega
      show cs[i * 1 + 0]? = some (.int .i64 (l.getD i 0))
      rw [Nat.mul_one, Nat.add_zero, hk i x hx, List.getD_eq_getElem?_getD, hx]
      rfl
    · show Value.int .i64 (l.getD i 0) = .int .i64 x
      rw [List.getD_eq_getElem?_getD, hx]
      rfl
theorem eqRes_any (l : List Int) (v v' : Value) (w : World) (hL : (Lay.int.slice 3).lies w w.heap.size l (fun _ => v)) (hL' : (Lay.int.slice 3).lies w w.heap.size l (fun _ => v')) :
    Calls Try.prog 33 #[v, v'] w fun e' w' => e' = .returned (.bool true) ∧ Below w.heap.size w w' := by
  obtain ⟨A, cap, b, off, D, e0, hl, hO⟩ := hL
  obtain ⟨A', cap', b', off', D', d0, _, hO'⟩ := hL'
  have e1 : v = .slice A l.length cap := e0
  have d1 : v' = .slice A' l.length cap' := d0
  rw [e1, d1]
  exact eqInts_any l A A' cap b off cap' b' off' w hl (ints_of hO) (ints_of hO')

end Go.Proofs.Ytldnegacgjijlaa
namespace Go.Proofs.Ytldnegacgjijlaa
open Go.RowKit

/-- The slice, nil or a row of one's own, holds the numbers. -/
def OwV (w : World) (base : Nat) (v : Value) (zs : List Int) : Prop := w.ownsRow base 3 1 v zs.length (zs.map (Value.int .i64))
theorem OwV.nil (w : World) (base : Nat) : OwV w base (.slice none 0 0) [] := ⟨rfl, .inl ⟨rfl, rfl⟩⟩
theorem OwV.empty {w : World} {base g : Nat} (hb : base ≤ g) (h : Row w g 3 #[]) : OwV w base (.slice (some ⟨g, 0, none⟩) 0 0) [] :=
  ⟨rfl, .inr ⟨g, 0, #[], rfl, hb, h, Nat.le_refl _, Nat.zero_le _, rfl, rfl⟩⟩
theorem OwV.block {w : World} {base : Nat} {v : Value} {zs : List Int} (h : OwV w base v zs) : ∀ g, v.ownBlock = some g → base ≤ g ∧ g < w.heap.size := fun g hg => by
  rcases h.2 with ⟨rfl, _⟩ | ⟨g', cap, cur, rfl, hb, hh, _⟩
  · cases hg
  · injection hg with hg
    subst hg
    refine ⟨hb, ?_⟩
    rcases Nat.lt_or_ge g' w.heap.size with h' | h'
    · exact h'
    · simp [Array.getElem?_eq_none h'] at hh
theorem OwV.keep {w w' : World} {base : Nat} {v : Value} {zs : List Int} (h : OwV w base v zs) (hk : ∀ g, base ≤ g → g < w.heap.size → w'.heap[g]? = w.heap[g]?) : OwV w' base v zs := by
  have hb := h.block
  rcases h.2 with h1 | ⟨g, cap, cur, rfl, h2, h3, h4⟩
  · exact ⟨h.1, .inl h1⟩
  · exact ⟨h.1, .inr ⟨g, cap, cur, rfl, h2, (hk g h2 (hb g rfl).2).trans h3, h4⟩⟩
theorem OwV.under {w w' : World} {base : Nat} {v : Value} {zs : List Int} (h : OwV w base v zs) (hb : Below w.heap.size w w') : OwV w' base v zs := h.keep fun g _ hg => hb.block g hg
theorem OwV.slice {w : World} {base lo : Nat} {v : Value} {zs : List Int} (h : OwV w base v zs) (hlo : lo ≤ base) : SliceI w lo zs v := by
  rcases h.2 with ⟨rfl, h2⟩ | ⟨g, cap, cur, rfl, hb, hh, _, _, _, ht⟩
  · obtain rfl : zs = [] := List.length_eq_zero_iff.1 h2
    exact SliceI.none _ _ _ _
  · refine ⟨_, cap, rfl, .inr ⟨g, rfl, by omega, cur, hh, fun i z hz => ?_⟩⟩
    have h5 : (zs.map (Value.int .i64))[i]? = some (.int .i64 z) := by rw [List.getElem?_map, hz]; rfl
    rw [← ht, List.getElem?_take] at h5
    split at h5
    · simpa using h5
    · cases h5
theorem OwV.form {w : World} {base : Nat} {v : Value} {zs : List Int} (h : OwV w base v zs) : ∃ A cap, v = .slice A zs.length cap := by
  rcases h.2 with ⟨rfl, h2⟩ | ⟨g, cap, cur, rfl, _⟩
  · exact ⟨none, 0, by rw [h2]⟩
  · exact ⟨_, cap, rfl⟩

/-- One number more: v' = append(v, z). -/
theorem wpList_push {X : World} {ops : Array Oper} {rest : List Oper} {o : Oper} {a : Act} {Q : Exit → Act → World → Prop} (hgd : o.guard = none) (s x : Operand)
    (ho : o.op = .call { callee := .builtin .append, args := #[s, x], argTypes := #[22, 22] }) (base : Nat) (v : Value) (zs : List Int) (z : Int) (q : Nat) (hs : a.eval s = v) (hx : a.eval x = .slice (some ⟨q, 0, none⟩) 1 1)
    (hown : OwV X base v zs) (hz : X.cell? ⟨q, 0, none⟩ = some (.int .i64 z)) (hl : zs.length ≤ 2097152) (hbase : base ≤ X.heap.size)
    (h : ∀ (v' : Value) (w' : World), OwV w' base v' (zs ++ [z]) → (∀ (B : Nat) (w0 : World), Below B w0 X → B ≤ base → Below B w0 w') → X.heap.size ≤ w'.heap.size → wpList Try.prog ops Q rest (a.put o.dst v') w') : wpList Try.prog ops Q (o :: rest) a X := by
  obtain ⟨i0, hi0, hz0, hz1, hz2⟩ := info_parts Try.info3
  refine wpList_append_own (P := Try.prog) X hgd s x 22 ho base 3 i0 (.int .i64 0) 1 8 Try.underlying22 hi0 hz0 hz1 hz2 rfl (by decide) v zs.length _ hs hown ⟨q, 0, none⟩ 1 1 [.int .i64 z] hx rfl (fun j u hu => ?_) (fun u hu => ?_) (by unfold maxLen; omega) (by omega) hbase (fun v' w' h1 h2 _ => h v' w' ?_ ?_ h2.size)
  · have hj : j = 0 := by
      have := (List.getElem?_eq_some_iff.1 hu).1
      simpa using this
    subst hj
    simp at hu
    subst hu
    exact hz
  · simp at hu
    subst hu
    rfl
  · show World.ownsRow _ _ _ _ _ _ _
    rw [List.length_append, List.map_append]
    exact h1
  · intro B w0 hB hle
    exact hB.grown h2 (by omega) fun k hk => by have := (hown.block k hk).1; omega

end Go.Proofs.Ytldnegacgjijlaa

/- What every walk uses: endings, room, boxes, blocks that alone are written. Nothing is assumed. -/
import Derived.Test.YtldnegacgjijlaaOwn
import Derived.Test.YtldnegacgjijlaaProg
import Derived.WalkKit
import Derived.WalkSpells
import Derived.Deep.QuietTactic
import Derived.BigQuiet
import Derived.Lib.Hide
namespace Go.Proofs.Ytldnegacgjijlaa
open Go.RowKit

theorem ret_bool {a b : Bool} (h : a = b) : Ending.returned (.bool a) = .returned (.bool b) := by rw [h]

theorem ret_int {k : IntKind} {a b : Int} (h : a = b) : Ending.returned (.int k a) = .returned (.int k b) := by rw [h]

/-- What is left of the room behind n nodes. -/
def room (left : Int) (n : Nat) : Int := if left < n then -1 else left - n

theorem quiet_left {P : Program} {f : FuncId} {args : Array Value} {w : World} {n : Nat} {v : Value}
    (h : Calls P f args (w.drewN n) fun e w' => e = .returned v ∧ w.drewN n = w') : Calls P f args (w.drewN n) fun e w'' => e = .returned v ∧ ∃ m, w'' = w.drewN m :=
  h.mono fun _ _ ⟨he, hm⟩ => ⟨he, n, hm.symm⟩

theorem below_drewN {B : Nat} {a w : World} (h : Below B a w) (n : Nat) : Below B a (w.drewN n) := ⟨h.os, h.tape, h.output, h.size, h.block⟩

theorem run_make_of {P : Program} (t e : TypeId) (i : TypeInfo) (z : Value) (ht : P.underlying t = some (.slice e)) (hi : P.info? e = some i) (hz : i.zero = some z) (n : Nat) (hb : i.bytes * n ≤ 281474976710656) (h63 : n ≤ 9223372036854775807) (w : World) :
    (Instr.makeSlice t (.int .i64 (n : Int)) (.int .i64 (n : Int))).run P w = .ok (.slice (some ⟨w.heap.size, 0, none⟩) n n) (w.alloc (.cells (madeCells z.cells (n * i.size)) e)) := by
  have hb' : (i.bytes : Int) * (n : Int) ≤ 281474976710656 := by
    have h : ((i.bytes * n : Nat) : Int) ≤ 281474976710656 := by omega
    rwa [Int.natCast_mul] at h
  have hr := run_make (P := P) w t e i z ht hi hz .i64 .i64 n n (by omega) (by omega) hb' (by omega)
  simp only [Int.toNat_natCast] at hr
  exact hr

theorem room_add {left : Int} {a b : Nat} (h : 0 ≤ room left a) : room (room left a) b = room left (a + b) := by
  unfold room at h ⊢
  by_cases h1 : left < a
  · rw [if_pos h1] at h; omega
  · rw [if_neg h1]
    by_cases h2 : left - a < b
    · rw [if_pos h2, if_pos (by omega)]
    · rw [if_neg h2, if_neg (by omega)]; omega

theorem room_neg {left : Int} {a b : Nat} (h : room left a < 0) (_h0 : 0 ≤ left) : room left (a + b) = -1 := by
  unfold room at h ⊢
  by_cases h1 : left < a
  · rw [if_pos (by omega)]
  · rw [if_neg h1] at h; omega

theorem room_le {left : Int} {a : Nat} (h : 0 ≤ left) : room left a ≤ left := by
  unfold room
  split <;> omega

theorem room_zero {left : Int} (h : 0 ≤ left) : room left 0 = left := by
  unfold room
  rw [if_neg (by omega)]
  omega

theorem room_cases (left : Int) (a : Nat) : room left a = -1 ∨ 0 ≤ room left a := by
  unfold room
  split <;> omega

theorem two_boxes (w : World) (t : TypeId) (a b : Array Value) : Row ((w.alloc (.cells a t)).alloc (.cells b t)) w.heap.size t a ∧ Row ((w.alloc (.cells a t)).alloc (.cells b t)) (w.heap.size + 1) t b ∧ Below w.heap.size w ((w.alloc (.cells a t)).alloc (.cells b t)) := by
  refine ⟨(Row.new w t a).under (B := w.heap.size + 1) ((Below.refl _ _).alloc (by simp) _) (by omega), ?_, ((Below.refl _ _).alloc (Nat.le_refl _) _).alloc (by simp) _⟩
  have h := Row.new (w.alloc (.cells a t)) t b
  rw [show (w.alloc (.cells a t)).heap.size = w.heap.size + 1 by simp] at h
  exact h

/-- Only cells of the blocks a and b have been written. -/
structure Tw (a b : Nat) (w w' : World) : Prop where
  os : w'.os = w.os
  tape : w'.tape = w.tape
  output : w'.output = w.output
  size : w'.heap.size = w.heap.size
  other : ∀ q, q ≠ a → q ≠ b → w'.heap[q]? = w.heap[q]?

theorem Tw.refl (a b : Nat) (w : World) : Tw a b w w := ⟨rfl, rfl, rfl, rfl, fun _ _ _ => rfl⟩

theorem Tw.sa {a b : Nat} {w w' : World} (h : Tw a b w w') (i : Nat) (u : Value) : Tw a b w (w'.setCell ⟨a, i, none⟩ u) :=
  ⟨h.os, h.tape, h.output, by rw [heap_setCell_size]; exact h.size, fun q q1 q2 => by rw [Below.heap_setCell _ _ _ _ (by simpa using q1)]; exact h.other q q1 q2⟩

theorem Tw.sb {a b : Nat} {w w' : World} (h : Tw a b w w') (i : Nat) (u : Value) : Tw a b w (w'.setCell ⟨b, i, none⟩ u) :=
  ⟨h.os, h.tape, h.output, by rw [heap_setCell_size]; exact h.size, fun q q1 q2 => by rw [Below.heap_setCell _ _ _ _ (by simpa using q2)]; exact h.other q q1 q2⟩

theorem Tw.below {a b B : Nat} {w0 w w' : World} (h : Tw a b w w') (hB : Below B w0 w) (ha : B ≤ a) (hb : B ≤ b) : Below B w0 w' :=
  ⟨h.os.trans hB.os, h.tape.trans hB.tape, h.output.trans hB.output, by rw [h.size]; exact hB.size, fun q hq => (h.other q (by omega) (by omega)).trans (hB.block q hq)⟩

theorem three_boxes (w : World) (t u v : TypeId) (a b c : Array Value) : Row (((w.alloc (.cells a t)).alloc (.cells b u)).alloc (.cells c v)) w.heap.size t a ∧ Row (((w.alloc (.cells a t)).alloc (.cells b u)).alloc (.cells c v)) (w.heap.size + 1) u b ∧ Row (((w.alloc (.cells a t)).alloc (.cells b u)).alloc (.cells c v)) (w.heap.size + 1 + 1) v c ∧ Below w.heap.size w (((w.alloc (.cells a t)).alloc (.cells b u)).alloc (.cells c v)) ∧ (((w.alloc (.cells a t)).alloc (.cells b u)).alloc (.cells c v)).heap.size = w.heap.size + 3 := by
  have h1 := Row.new w t a
  have h2 := Row.new (w.alloc (.cells a t)) u b
  have h3 := Row.new ((w.alloc (.cells a t)).alloc (.cells b u)) v c
  rw [show (w.alloc (.cells a t)).heap.size = w.heap.size + 1 by simp] at h2
  rw [show ((w.alloc (.cells a t)).alloc (.cells b u)).heap.size = w.heap.size + 1 + 1 by simp] at h3
  refine ⟨(h1.under (B := w.heap.size + 1) ((Below.refl _ _).alloc (by simp) _) (by omega)).under (B := w.heap.size + 1) ((Below.refl _ _).alloc (by simp) _) (by omega), h2.under (B := w.heap.size + 1 + 1) ((Below.refl _ _).alloc (by simp) _) (by omega), h3, (((Below.refl _ _).alloc (Nat.le_refl _) _).alloc (by simp) _).alloc (by simp; omega) _, by simp⟩

theorem rows2 (w : World) (t u : TypeId) (a b : Array Value) : Row ((w.alloc (.cells a t)).alloc (.cells b u)) w.heap.size t a ∧ Row ((w.alloc (.cells a t)).alloc (.cells b u)) (w.heap.size + 1) u b ∧ Below w.heap.size w ((w.alloc (.cells a t)).alloc (.cells b u)) := by
  refine ⟨(Row.new w t a).under (B := w.heap.size + 1) ((Below.refl _ _).alloc (by simp) _) (by omega), ?_, ((Below.refl _ _).alloc (Nat.le_refl _) _).alloc (by simp) _⟩
  have h := Row.new (w.alloc (.cells a t)) u b
  rw [show (w.alloc (.cells a t)).heap.size = w.heap.size + 1 by simp] at h
  exact h

theorem alls_take_succ {X : Type} {f : X → Bool} {l : List X} {i : Nat} {x : X} (h : l[i]? = some x) : (l.take (i + 1)).all f = ((l.take i).all f && f x) := by
  have hi := (List.getElem?_eq_some_iff.1 h).1
  rw [List.take_succ_eq_append_getElem hi, (List.getElem?_eq_some_iff.1 h).2]
  simp
theorem alls_false {X : Type} {f : X → Bool} {l : List X} {i : Nat} {x : X} (h : l[i]? = some x) (hf : f x = false) : l.all f = false := by
  rw [List.all_eq_false]
  exact ⟨x, List.mem_of_getElem? h, by simp [hf]⟩
theorem zip_get {X Y : Type} {xs : List X} {ys : List Y} {i : Nat} {x : X} {y : Y} (h : xs[i]? = some x) (k : ys[i]? = some y) : (xs.zip ys)[i]? = some (x, y) := by
  rw [List.getElem?_zip_eq_some]
  exact ⟨h, k⟩

end Go.Proofs.Ytldnegacgjijlaa

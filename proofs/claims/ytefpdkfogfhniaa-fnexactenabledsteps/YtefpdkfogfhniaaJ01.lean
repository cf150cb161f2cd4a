/- Joined texts: OpenY, Open, OpenZ, Bs. Nothing is assumed. -/
import Derived.Test.YtefpdkfogfhniaaProg
import Derived.ProofKit
import Derived.Deep.Slices
import Derived.Lib.SmallJoins
import Derived.Test.YtefpdkfogfhniaaOwnQ
import Derived.WalkKit
import Derived.WalkSpells
import Derived.Deep.QuietTactic
import Derived.BigQuiet
import Derived.Lib.Hide
namespace Go.Proofs.Ytefpdkfogfhniaa
open Go.ChangeShapes Go.WideShapes Go.ChangeAt Go.RowKit Go.Deep Go.Joins

theorem Try.cells3 : Try.prog.cellsOf 3 = 1 := by kernel_rfl

end Go.Proofs.Ytefpdkfogfhniaa
namespace Go.Proofs.Ytefpdkfogfhniaa
open Go.ChangeShapes Go.WideShapes Go.ChangeAt Go.RowKit Go.Deep Go.Joins

theorem Try.cells116 : Try.prog.cellsOf 116 = 3 := by kernel_rfl
theorem Try.cells114 : Try.prog.cellsOf 114 = 1 := by kernel_rfl

section
variable {H : Type} {enc : TypeId × Value → H} {W : World} {sp : Nat → Bool}

/-- The operands' slice, opened. -/
theorem open_kids (hsp : ∀ b, sp b = true) : ∀ (N n : Nat) (c : Value) (d : DataW H) (p : List MemPlace), SizeOf.sizeOf d ≤ N → DataW.trod enc Try.prog W 0 sp true n 114 [c] = some (d, p) →
    ∃ (kids : List Ex) (A : Option Addr) (cap b off : Nat) (C0 C1 C2 : Nat → Value), c = .slice A kids.length cap ∧ kids.length ≤ maxLen ∧ Opened W W.heap.size kids A b off C0 C1 C2 := by
  intro N
  induction N with
  | zero => intro n c d p hN; exfalso; cases d <;> simp at hN
  | succ N ih =>
    intro n c d p hN h
    rcases open_slice Try.underlying114 h with ⟨hc, hx⟩ | ⟨a, len, cap, m, n', D, Pl, hc, _, hl, hm, hmm, hx, hall⟩
    · simp only [List.cons.injEq, and_true] at hc
      exact ⟨[], none, 0, 0, 0, fun _ => undef, fun _ => undef, fun _ => undef, hc, Nat.zero_le _, fun i x hx => by simp at hx⟩
    · simp only [List.cons.injEq, and_true] at hc
      simp only [hsp, if_true] at hmm
      subst hmm
      simp only [Prod.mk.injEq] at hx
      obtain ⟨hd, _⟩ := hx
      rw [Try.cells116] at hall
      obtain ⟨b, off, spot⟩ := a
      have hspot : 0 < len → spot = none := fun h0 => by
        obtain ⟨cs', h1, _⟩ := hall 0 (by omega)
        obtain ⟨_, hlen, hcell⟩ := World.cells?_some h1
        match cs', hlen with
        | [v0, v1, v2], _ =>
          have := hcell 0 (by omega)
          simpa [Addr.add] using World.cell?_spot this
      have one : ∀ i, i < len → ∃ q : Ex × Value × Value × Value, spot = none ∧ b < W.heap.size ∧ W.cell? ⟨b, off + i * 3, none⟩ = some q.2.1 ∧ W.cell? ⟨b, off + i * 3 + 1, none⟩ = some q.2.2.1 ∧ W.cell? ⟨b, off + i * 3 + 2, none⟩ = some q.2.2.2 ∧ Lies W W.heap.size q.1 q.2.1 q.2.2.1 q.2.2.2 := fun i hi => by
        obtain ⟨cs', h1, h2⟩ := hall i (by omega)
        obtain ⟨_, hlen, hcell⟩ := World.cells?_some h1
        match cs', hlen with
        | [v0, v1, v2], _ =>
          obtain ⟨y0, y1, y2, k, hy, _, u0, u1, u2⟩ := trod_struct3 Try.underlying116 h2
          simp [Try.cells3] at u0 u1
          simp [Try.cells114] at u2
          obtain ⟨k0, e0, _, _⟩ := DataW.trod_int Try.underlying3 u0
          obtain ⟨k1, e1, _, _⟩ := DataW.trod_int Try.underlying3 u1
          simp only [List.cons.injEq, and_true] at e0 e1
          simp only [Prod.mk.injEq] at hy
          have hsize : SizeOf.sizeOf y2.1 ≤ N := by
            have h1 : D i ∈ (List.range len).map D := List.mem_map.2 ⟨i, List.mem_range.2 hi, rfl⟩
            have h2 := List.sizeOf_lt_of_mem h1
            rw [hd] at hN
            rw [hy.1] at h2
            simp at hN h2
            omega
          obtain ⟨kids, A, cp, b2, o2, C0, C1, C2, e2, hkl, hO⟩ := ih _ v2 y2.1 y2.2 hsize u2
          have g0 := hcell 0 (by omega)
          have g1 := hcell 1 (by omega)
          have g2 := hcell 2 (by omega)
          have hs := hspot (by omega)
          subst hs
          simp only [add_plain, Nat.add_zero] at g0 g1 g2
          refine ⟨(.node k0 k1 kids, v0, v1, v2), rfl, World.block_lt_of_cell? W _ g0, g0, g1, g2, ?_⟩
          rw [e0, e1, e2]
          exact hO.mk_ hkl
      obtain ⟨q, hq⟩ := choose_lt one
      refine ⟨(List.range len).map fun i => (q i).1, some ⟨b, off, spot⟩, m, b, off, fun i => (q i).2.1, fun i => (q i).2.2.1, fun i => (q i).2.2.2, by simpa using hc, by simp; omega, fun i x hx => ?_⟩
      have hi : i < len := by
        have := (List.getElem?_eq_some_iff.1 hx).1
        simpa using this
      obtain ⟨e0, e1, e2, e3, e4, e5⟩ := hq i hi
      have ex : (q i).1 = x := by simpa [hi] using hx
      rw [← ex, e0]
      exact ⟨rfl, e1, e2, e3, e4, e5⟩

set_option maxRecDepth 100000 in
/-- An argument of type laws.Expr, opened. -/
theorem open_expr {base : Nat} {v : Value} {d : DataW H} {p : List MemPlace} (hval : Value.okWide Try.prog W .any base 116 v) (h : DataW.Trod enc Try.prog W 0 (fun _ => true) true 116 v d p) :
    ∃ (e : Ex) (c0 c1 c2 : Value), v = .agg #[c0, c1, c2] ∧ Lies W W.heap.size e c0 c1 c2 := by
  obtain ⟨v0, v1, v2, y0, y1, y2, n, rfl, rfl, rfl, u0, u1, u2⟩ := open_agg3 Try.underlying116 (by kernel_rfl) Try.cells116 hval h
  obtain ⟨k0, e0, _, _⟩ := DataW.trod_int Try.underlying3 u0
  obtain ⟨k1, e1, _, _⟩ := DataW.trod_int Try.underlying3 u1
  simp only [List.cons.injEq, and_true] at e0 e1
  obtain ⟨kids, A, cp, b2, o2, C0, C1, C2, e2, hkl, hO⟩ := open_kids (fun _ => rfl) _ _ v2 y2.1 y2.2 (Nat.le_refl _) u2
  refine ⟨.node k0 k1 kids, _, _, _, rfl, ?_⟩
  rw [e0, e1, e2]
  exact hO.mk_ hkl

end
end Go.Proofs.Ytefpdkfogfhniaa
namespace Go.Proofs.Ytefpdkfogfhniaa
open Go.ChangeShapes Go.WideShapes Go.ChangeAt Go.RowKit Go.Deep Go.Joins

theorem Try.cells22 : Try.prog.cellsOf 22 = 1 := by kernel_rfl

end Go.Proofs.Ytefpdkfogfhniaa
namespace Go.Proofs.Ytefpdkfogfhniaa
open Go.RowKit

theorem ret_bool {a b : Bool} (h : a = b) : Ending.returned (.bool a) = .returned (.bool b) := by rw [h]

theorem ret_int {k : IntKind} {a b : Int} (h : a = b) : Ending.returned (.int k a) = .returned (.int k b) := by rw [h]

/-- What is left of the room behind n nodes. -/
def room (left : Int) (n : Nat) : Int := if left < n then -1 else left - n

theorem quiet_left {P : Program} {f : FuncId} {args : Array Value} {w : World} {n : Nat} {v : Value}
    (h : Calls P f args (w.drewN n) fun e w' => e = .returned v ∧ w.drewN n = w') : Calls P f args (w.drewN n) fun e w'' => e = .returned v ∧ ∃ m, w'' = w.drewN m :=
  h.mono fun _ _ ⟨he, hm⟩ => ⟨he, n, hm.symm⟩

theorem below_drewN {B : Nat} {a w : World} (h : Below B a w) (n : Nat) : Below B a (w.drewN n) := ⟨h.os, h.tape, h.output, h.size, h.block⟩

theorem run_make_of {P : Program} (t e : TypeId) (i : TypeInfo) (z : Value) (ht : P.underlying t = some (.slice e)) (hi : P.info? e = some i) (hz : i.zero = some z) (n : Nat) (hb : i.bytes * n ≤ 281474976710656) (h63 : n ≤ 9223372036854775807) (w : World) :
    (Instr.makeSlice t (.int .i64 (n : Int)) (.int .i64 (n : Int))).run P w = .ok (.slice (some ⟨w.heap.size, 0, none⟩) n n) (w.alloc (.cells (madeCells z.cells (n * i.size)) e)) := by
  have hb' : (i.bytes : Int) * (n : Int) ≤ 281474976710656 := by
    have h : ((i.bytes * n : Nat) : Int) ≤ 281474976710656 := by omega
    rwa [Int.natCast_mul] at h
  have hr := run_make (P := P) w t e i z ht hi hz .i64 .i64 n n (by omega) (by omega) hb' (by omega)
  simp only [Int.toNat_natCast] at hr
  exact hr

theorem room_add {left : Int} {a b : Nat} (h : 0 ≤ room left a) : room (room left a) b = room left (a + b) := by
  unfold room at h ⊢
  by_cases h1 : left < a
  · rw [if_pos h1] at h; omega
  · rw [if_neg h1]
    by_cases h2 : left - a < b
    · rw [if_pos h2, if_pos (by omega)]
    · rw [if_neg h2, if_neg (by omega)]; omega

theorem room_neg {left : Int} {a b : Nat} (h : room left a < 0) (_h0 : 0 ≤ left) : room left (a + b) = -1 := by
  unfold room at h ⊢
  by_cases h1 : left < a
  · rw [if_pos (by omega)]
  · rw [if_neg h1] at h; omega

theorem room_le {left : Int} {a : Nat} (h : 0 ≤ left) : room left a ≤ left := by
  unfold room
  split <;> omega

theorem room_zero {left : Int} (h : 0 ≤ left) : room left 0 = left := by
  unfold room
  rw [if_neg (by omega)]
  omega

theorem room_cases (left : Int) (a : Nat) : room left a = -1 ∨ 0 ≤ room left a := by
  unfold room
  split <;> omega

theorem two_boxes (w : World) (t : TypeId) (a b : Array Value) : Row ((w.alloc (.cells a t)).alloc (.cells b t)) w.heap.size t a ∧ Row ((w.alloc (.cells a t)).alloc (.cells b t)) (w.heap.size + 1) t b ∧ Below w.heap.size w ((w.alloc (.cells a t)).alloc (.cells b t)) := by
  refine ⟨(Row.new w t a).under (B := w.heap.size + 1) ((Below.refl _ _).alloc (by simp) _) (by omega), ?_, ((Below.refl _ _).alloc (Nat.le_refl _) _).alloc (by simp) _⟩
  have h := Row.new (w.alloc (.cells a t)) t b
  rw [show (w.alloc (.cells a t)).heap.size = w.heap.size + 1 by simp] at h
  exact h

/-- Only cells of the blocks a and b have been written. -/
structure Tw (a b : Nat) (w w' : World) : Prop where
  os : w'.os = w.os
  tape : w'.tape = w.tape
  output : w'.output = w.output
  size : w'.heap.size = w.heap.size
  other : ∀ q, q ≠ a → q ≠ b → w'.heap[q]? = w.heap[q]?

theorem Tw.refl (a b : Nat) (w : World) : Tw a b w w := ⟨rfl, rfl, rfl, rfl, fun _ _ _ => rfl⟩

theorem Tw.sa {a b : Nat} {w w' : World} (h : Tw a b w w') (i : Nat) (u : Value) : Tw a b w (w'.setCell ⟨a, i, none⟩ u) :=
  ⟨h.os, h.tape, h.output, by rw [heap_setCell_size]; exact h.size, fun q q1 q2 => by rw [Below.heap_setCell _ _ _ _ (by simpa using q1)]; exact h.other q q1 q2⟩

theorem Tw.sb {a b : Nat} {w w' : World} (h : Tw a b w w') (i : Nat) (u : Value) : Tw a b w (w'.setCell ⟨b, i, none⟩ u) :=
  ⟨h.os, h.tape, h.output, by rw [heap_setCell_size]; exact h.size, fun q q1 q2 => by rw [Below.heap_setCell _ _ _ _ (by simpa using q2)]; exact h.other q q1 q2⟩

theorem Tw.below {a b B : Nat} {w0 w w' : World} (h : Tw a b w w') (hB : Below B w0 w) (ha : B ≤ a) (hb : B ≤ b) : Below B w0 w' :=
  ⟨h.os.trans hB.os, h.tape.trans hB.tape, h.output.trans hB.output, by rw [h.size]; exact hB.size, fun q hq => (h.other q (by omega) (by omega)).trans (hB.block q hq)⟩

theorem three_boxes (w : World) (t u v : TypeId) (a b c : Array Value) : Row (((w.alloc (.cells a t)).alloc (.cells b u)).alloc (.cells c v)) w.heap.size t a ∧ Row (((w.alloc (.cells a t)).alloc (.cells b u)).alloc (.cells c v)) (w.heap.size + 1) u b ∧ Row (((w.alloc (.cells a t)).alloc (.cells b u)).alloc (.cells c v)) (w.heap.size + 1 + 1) v c ∧ Below w.heap.size w (((w.alloc (.cells a t)).alloc (.cells b u)).alloc (.cells c v)) ∧ (((w.alloc (.cells a t)).alloc (.cells b u)).alloc (.cells c v)).heap.size = w.heap.size + 3 := by
  have h1 := Row.new w t a
  have h2 := Row.new (w.alloc (.cells a t)) u b
  have h3 := Row.new ((w.alloc (.cells a t)).alloc (.cells b u)) v c
  rw [show (w.alloc (.cells a t)).heap.size = w.heap.size + 1 by simp] at h2
  rw [show ((w.alloc (.cells a t)).alloc (.cells b u)).heap.size = w.heap.size + 1 + 1 by simp] at h3
  refine ⟨(h1.under (B := w.heap.size + 1) ((Below.refl _ _).alloc (by simp) _) (by omega)).under (B := w.heap.size + 1) ((Below.refl _ _).alloc (by simp) _) (by omega), h2.under (B := w.heap.size + 1 + 1) ((Below.refl _ _).alloc (by simp) _) (by omega), h3, (((Below.refl _ _).alloc (Nat.le_refl _) _).alloc (by simp) _).alloc (by simp; omega) _, by simp⟩

theorem rows2 (w : World) (t u : TypeId) (a b : Array Value) : Row ((w.alloc (.cells a t)).alloc (.cells b u)) w.heap.size t a ∧ Row ((w.alloc (.cells a t)).alloc (.cells b u)) (w.heap.size + 1) u b ∧ Below w.heap.size w ((w.alloc (.cells a t)).alloc (.cells b u)) := by
  refine ⟨(Row.new w t a).under (B := w.heap.size + 1) ((Below.refl _ _).alloc (by simp) _) (by omega), ?_, ((Below.refl _ _).alloc (Nat.le_refl _) _).alloc (by simp) _⟩
  have h := Row.new (w.alloc (.cells a t)) u b
  rw [show (w.alloc (.cells a t)).heap.size = w.heap.size + 1 by simp] at h
  exact h

theorem alls_take_succ {X : Type} {f : X → Bool} {l : List X} {i : Nat} {x : X} (h : l[i]? = some x) : (l.take (i + 1)).all f = ((l.take i).all f && f x) := by
  have hi := (List.getElem?_eq_some_iff.1 h).1
  rw [List.take_succ_eq_append_getElem hi, (List.getElem?_eq_some_iff.1 h).2]
  simp
theorem alls_false {X : Type} {f : X → Bool} {l : List X} {i : Nat} {x : X} (h : l[i]? = some x) (hf : f x = false) : l.all f = false := by
  rw [List.all_eq_false]
  exact ⟨x, List.mem_of_getElem? h, by simp [hf]⟩
theorem zip_get {X Y : Type} {xs : List X} {ys : List Y} {i : Nat} {x : X} {y : Y} (h : xs[i]? = some x) (k : ys[i]? = some y) : (xs.zip ys)[i]? = some (x, y) := by
  rw [List.getElem?_zip_eq_some]
  exact ⟨h, k⟩

end Go.Proofs.Ytefpdkfogfhniaa

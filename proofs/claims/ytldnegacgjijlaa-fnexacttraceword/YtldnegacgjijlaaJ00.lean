/- Joined texts: OpenY, OpenZ, Plain, Mem. Nothing is assumed. -/
import Derived.Test.YtldnegacgjijlaaProg
import Derived.ProofKit
import Derived.Deep.Slices
import Derived.Lib.SmallJoins
import Derived.Below
import Derived.Deep.Draws
namespace Go.Proofs.Ytldnegacgjijlaa
open Go.ChangeShapes Go.WideShapes Go.ChangeAt Go.RowKit Go.Deep Go.Joins

theorem Try.cells3 : Try.prog.cellsOf 3 = 1 := by kernel_rfl

end Go.Proofs.Ytldnegacgjijlaa
namespace Go.Proofs.Ytldnegacgjijlaa
open Go.ChangeShapes Go.WideShapes Go.ChangeAt Go.RowKit Go.Deep Go.Joins

theorem Try.cells22 : Try.prog.cellsOf 22 = 1 := by kernel_rfl

end Go.Proofs.Ytldnegacgjijlaa
namespace Go.Proofs.Ytldnegacgjijlaa

/-- An expression tree as plain data. -/
inductive Ex where
  | node (k v : Int) (kids : List Ex)

instance : Inhabited Ex := ⟨.node 0 0 []⟩

mutual
/-- How many nodes lie below the root. -/
def desc : Ex → Nat
  | .node _ _ kids => descL kids
def descL : List Ex → Nat
  | [] => 0
  | e :: r => 1 + desc e + descL r
end

theorem descL_append (a b : List Ex) : descL (a ++ b) = descL a + descL b := by
  induction a with
  | nil => simp [descL]
  | cons e r ih => simp [descL, ih]; omega

theorem descL_mem {e : Ex} {l : List Ex} (h : e ∈ l) : desc e < descL l := by
  induction l with
  | nil => cases h
  | cons x r ih =>
    rcases List.mem_cons.1 h with rfl | h
    · simp only [descL]; omega
    · have := ih h; simp only [descL]; omega

theorem descL_length (l : List Ex) : l.length ≤ descL l := by
  induction l with
  | nil => simp [descL]
  | cons x r ih => simp only [descL, List.length_cons]; omega

theorem descL_take_succ {l : List Ex} {i : Nat} {x : Ex} (h : l[i]? = some x) : descL (l.take (i + 1)) = descL (l.take i) + (1 + desc x) := by
  have hi := (List.getElem?_eq_some_iff.1 h).1
  rw [List.take_succ_eq_append_getElem hi, descL_append, (List.getElem?_eq_some_iff.1 h).2]
  simp [descL]

theorem descL_take_le (l : List Ex) (i : Nat) : descL (l.take i) ≤ descL l := by
  have h := descL_append (l.take i) (l.drop i)
  rw [List.take_append_drop] at h
  omega

theorem descL_take_len (l : List Ex) (i : Nat) : descL (l.take i) + (l.length - i) ≤ descL l := by
  have h := descL_append (l.take i) (l.drop i)
  have h2 := descL_length (l.drop i)
  rw [List.take_append_drop] at h
  rw [List.length_drop] at h2
  omega

/-- Induction over trees. -/
theorem Ex.ind {P : Ex → Prop} (h : ∀ k v kids, (∀ (i : Nat) (x : Ex), kids[i]? = some x → P x) → P (.node k v kids)) : ∀ e, P e := by
  have key : ∀ (N : Nat) (e : Ex), desc e < N → P e := by
    intro N
    induction N with
    | zero => intro e he; omega
    | succ N ih =>
      intro e he
      obtain ⟨k, v, kids⟩ := e
      refine h k v kids fun i x hx => ih x ?_
      have hm := descL_mem (List.mem_of_getElem? hx)
      simp only [desc] at he
      omega
  exact fun e => key _ e (Nat.lt_succ_self _)

/-- The number of operands of a kind, or -1. -/
def arity (k : Int) : Int := if k = 1 ∨ k = 2 then 0 else if k = 3 then 1 else if 4 ≤ k ∧ k ≤ 9 then 2 else -1

/-- The largest Value of a kind. -/
def limit (k : Int) : Int := if k = 1 then 3 else if k = 2 then 2 else 0

/-- Whether the root by itself is well formed. -/
def rootOk (k v : Int) (n : Nat) : Bool := decide ((n : Int) = arity k) && (decide (0 ≤ v) && decide (v ≤ limit k))

def shape : Nat → Ex → Bool
  | 0, _ => false
  | d + 1, .node k v kids => rootOk k v kids.length && kids.all (shape d)

def cnt : Nat → Ex → Nat
  | 0, _ => 1
  | d + 1, .node _ _ kids => 1 + (kids.map (cnt d)).sum

/-- The whole verdict. -/
def valid (e : Ex) : Bool := shape 6 e && decide (cnt 6 e ≤ 15)

theorem cnt_le (d : Nat) : ∀ e, cnt d e ≤ 1 + desc e := by
  induction d with
  | zero => intro e; simp only [cnt]; omega
  | succ d ih =>
    rintro ⟨k, v, kids⟩
    have : (kids.map (cnt d)).sum ≤ descL kids := by
      induction kids with
      | nil => simp [descL]
      | cons x r ihr => simp only [List.map_cons, List.sum_cons, descL]; have := ih x; omega
    simp only [cnt, desc]; omega

theorem cnt_pos (d : Nat) (e : Ex) : 1 ≤ cnt d e := by
  cases d with
  | zero => simp [cnt]
  | succ d => obtain ⟨k, v, kids⟩ := e; simp only [cnt]; omega

theorem sum_take_succ {f : Ex → Nat} {l : List Ex} {i : Nat} {x : Ex} (h : l[i]? = some x) : ((l.take (i + 1)).map f).sum = ((l.take i).map f).sum + f x := by
  have hi := (List.getElem?_eq_some_iff.1 h).1
  rw [List.take_succ_eq_append_getElem hi, (List.getElem?_eq_some_iff.1 h).2]
  simp

theorem sum_take_le (f : Ex → Nat) (l : List Ex) (i : Nat) : ((l.take i).map f).sum ≤ (l.map f).sum := by
  have h : (l.map f).sum = ((l.take i).map f).sum + ((l.drop i).map f).sum := by
    rw [← List.sum_append, ← List.map_append, List.take_append_drop]
  omega

theorem all_take_succ {f : Ex → Bool} {l : List Ex} {i : Nat} {x : Ex} (h : l[i]? = some x) : (l.take (i + 1)).all f = ((l.take i).all f && f x) := by
  have hi := (List.getElem?_eq_some_iff.1 h).1
  rw [List.take_succ_eq_append_getElem hi, (List.getElem?_eq_some_iff.1 h).2]
  simp

theorem all_false_of {f : Ex → Bool} {l : List Ex} {i : Nat} {x : Ex} (h : l[i]? = some x) (hf : f x = false) : l.all f = false := by
  rw [List.all_eq_false]
  exact ⟨x, List.mem_of_getElem? h, by simp [hf]⟩

end Go.Proofs.Ytldnegacgjijlaa
namespace Go.Proofs.Ytldnegacgjijlaa
open Go.RowKit

/-- The three cells of a node hold the tree; every row that is reached lies below block B. -/
inductive Lies (w : World) (B : Nat) : Ex → Value → Value → Value → Prop
  | mk (k v : Int) (kids : List Ex) (A : Option Addr) (cap : Nat) (b off : Nat) (C0 C1 C2 : Nat → Value) (hl : kids.length ≤ maxLen)
      (hA : ∀ (i : Nat) (x : Ex), kids[i]? = some x → A = some ⟨b, off, none⟩ ∧ b < B)
      (h0 : ∀ (i : Nat) (x : Ex), kids[i]? = some x → w.cell? ⟨b, off + i * 3, none⟩ = some (C0 i))
      (h1 : ∀ (i : Nat) (x : Ex), kids[i]? = some x → w.cell? ⟨b, off + i * 3 + 1, none⟩ = some (C1 i))
      (h2 : ∀ (i : Nat) (x : Ex), kids[i]? = some x → w.cell? ⟨b, off + i * 3 + 2, none⟩ = some (C2 i))
      (hr : ∀ (i : Nat) (x : Ex), kids[i]? = some x → Lies w B x (C0 i) (C1 i) (C2 i)) :
      Lies w B (.node k v kids) (.int .i64 k) (.int .i64 v) (.slice A kids.length cap)

theorem Lies.keep {w w' : World} {B B' : Nat} (hB : B ≤ B') (hk : ∀ p : Addr, p.block < B → w'.cell? p = w.cell? p) {e : Ex} {c0 c1 c2 : Value} (h : Lies w B e c0 c1 c2) : Lies w' B' e c0 c1 c2 := by
  induction h with
  | mk k v kids A cap b off C0 C1 C2 hl hA h0 h1 h2 hr ih =>
    exact .mk k v kids A cap b off C0 C1 C2 hl (fun i x hx => ⟨(hA i x hx).1, Nat.lt_of_lt_of_le (hA i x hx).2 hB⟩)
      (fun i x hx => (hk _ (hA i x hx).2).trans (h0 i x hx)) (fun i x hx => (hk _ (hA i x hx).2).trans (h1 i x hx)) (fun i x hx => (hk _ (hA i x hx).2).trans (h2 i x hx)) ih

theorem Lies.under {w w' : World} {B : Nat} {e : Ex} {c0 c1 c2 : Value} (h : Lies w B e c0 c1 c2) (hb : Below B w w') : Lies w' B e c0 c1 c2 := h.keep (Nat.le_refl _) fun _ hp => hb.cell hp
theorem Lies.more {w : World} {B B' : Nat} {e : Ex} {c0 c1 c2 : Value} (h : Lies w B e c0 c1 c2) (hB : B ≤ B') : Lies w B' e c0 c1 c2 := h.keep hB fun _ _ => rfl
theorem Lies.alloc {w : World} {B : Nat} {e : Ex} {c0 c1 c2 : Value} (h : Lies w B e c0 c1 c2) (hB : B ≤ w.heap.size) (o : Obj) : Lies (w.alloc o) B e c0 c1 c2 := h.under ((Below.refl B w).alloc hB o)
theorem Lies.drew {w : World} {B : Nat} {e : Ex} {c0 c1 c2 : Value} (h : Lies w B e c0 c1 c2) : Lies w.drew B e c0 c1 c2 := h.under (Below.refl B w).drew

/-- A node, opened: its two numbers, its slice, and of each operand the three cells. -/
def Opened (w : World) (B : Nat) (kids : List Ex) (A : Option Addr) (b off : Nat) (C0 C1 C2 : Nat → Value) : Prop :=
  ∀ (i : Nat) (x : Ex), kids[i]? = some x → A = some ⟨b, off, none⟩ ∧ b < B ∧ w.cell? ⟨b, off + i * 3, none⟩ = some (C0 i) ∧ w.cell? ⟨b, off + i * 3 + 1, none⟩ = some (C1 i) ∧ w.cell? ⟨b, off + i * 3 + 2, none⟩ = some (C2 i) ∧ Lies w B x (C0 i) (C1 i) (C2 i)

theorem Lies.open_ {w : World} {B : Nat} {k v : Int} {kids : List Ex} {c0 c1 c2 : Value} (h : Lies w B (.node k v kids) c0 c1 c2) :
    ∃ (A : Option Addr) (cap b off : Nat) (C0 C1 C2 : Nat → Value), c0 = .int .i64 k ∧ c1 = .int .i64 v ∧ c2 = .slice A kids.length cap ∧ kids.length ≤ maxLen ∧ Opened w B kids A b off C0 C1 C2 := by
  cases h with
  | mk _ _ _ A cap b off C0 C1 C2 hl hA h0 h1 h2 hr =>
    exact ⟨A, cap, b, off, C0, C1, C2, rfl, rfl, rfl, hl, fun i x hx => ⟨(hA i x hx).1, (hA i x hx).2, h0 i x hx, h1 i x hx, h2 i x hx, hr i x hx⟩⟩

theorem Opened.below {w w' : World} {B : Nat} {kids : List Ex} {A : Option Addr} {b off : Nat} {C0 C1 C2 : Nat → Value} (h : Opened w B kids A b off C0 C1 C2) (hb : Below B w w') : Opened w' B kids A b off C0 C1 C2 := fun i x hx => by
  obtain ⟨h1, h2, h3, h4, h5, h6⟩ := h i x hx
  exact ⟨h1, h2, (hb.cell (p := ⟨b, off + i * 3, none⟩) h2).trans h3, (hb.cell (p := ⟨b, off + i * 3 + 1, none⟩) h2).trans h4, (hb.cell (p := ⟨b, off + i * 3 + 2, none⟩) h2).trans h5, h6.under hb⟩

theorem Opened.grow {w w' : World} {B B' : Nat} {kids : List Ex} {A : Option Addr} {b off : Nat} {C0 C1 C2 : Nat → Value} (h : Opened w B kids A b off C0 C1 C2) (hb : Below B w w') (hB : B ≤ B') : Opened w' B' kids A b off C0 C1 C2 := fun i x hx => by
  obtain ⟨h1, h2, h3, h4, h5, h6⟩ := h.below hb i x hx
  exact ⟨h1, Nat.lt_of_lt_of_le h2 hB, h3, h4, h5, h6.more hB⟩

theorem Opened.mk_ {w : World} {B : Nat} {k v : Int} {kids : List Ex} {A : Option Addr} {cap b off : Nat} {C0 C1 C2 : Nat → Value} (hl : kids.length ≤ maxLen) (h : Opened w B kids A b off C0 C1 C2) : Lies w B (.node k v kids) (.int .i64 k) (.int .i64 v) (.slice A kids.length cap) :=
  .mk k v kids A cap b off C0 C1 C2 hl (fun i x hx => ⟨(h i x hx).1, (h i x hx).2.1⟩) (fun i x hx => (h i x hx).2.2.1) (fun i x hx => (h i x hx).2.2.2.1) (fun i x hx => (h i x hx).2.2.2.2.1) (fun i x hx => (h i x hx).2.2.2.2.2)

/-- Behind a box: what was there before the box is as it was. -/
theorem boxed {w wr : World} {o : Obj} (h : Below (w.heap.size + 1) (w.alloc o) wr) : Below w.heap.size w wr :=
  ((Below.refl _ w).alloc (Nat.le_refl _) o).trans (h.mono (Nat.le_succ _))
/-- The box itself is as it was made. -/
theorem boxed_cell {w wr : World} {o : Obj} (h : Below (w.heap.size + 1) (w.alloc o) wr) (i : Nat) : wr.cell? ⟨w.heap.size, i, none⟩ = (w.alloc o).cell? ⟨w.heap.size, i, none⟩ :=
  h.cell (p := ⟨w.heap.size, i, none⟩) (Nat.lt_succ_self _)
theorem boxed_two {w wr : World} {o o2 : Obj} (h : Below (w.heap.size + 2) ((w.alloc o).alloc o2) wr) : Below w.heap.size w wr :=
  (((Below.refl _ w).alloc (Nat.le_refl _) o).alloc (by simp) o2).trans (h.mono (by omega))
/-- The heap of the later world is no smaller. -/
theorem below_more {w wr : World} {B : Nat} {e : Ex} {c0 c1 c2 : Value} (h : Lies w B e c0 c1 c2) (hb : Below B w wr) (hB : B ≤ wr.heap.size) : Lies wr wr.heap.size e c0 c1 c2 := (h.under hb).more hB

end Go.Proofs.Ytldnegacgjijlaa

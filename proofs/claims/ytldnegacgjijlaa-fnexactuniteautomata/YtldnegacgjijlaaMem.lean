/- How an expression tree lies in memory: three cells a node, the operands in one row; what keeps such a tree as it lies. Nothing is assumed. -/
import Derived.Test.YtldnegacgjijlaaPlain
import Derived.Below
import Derived.Deep.Draws
namespace Go.Proofs.Ytldnegacgjijlaa
open Go.RowKit

/-- The three cells of a node hold the tree; every row that is reached lies below block B. -/
inductive Lies (w : World) (B : Nat) : Ex → Value → Value → Value → Prop
  | mk (k v : Int) (kids : List Ex) (A : Option Addr) (cap : Nat) (b off : Nat) (C0 C1 C2 : Nat → Value) (hl : kids.length ≤ maxLen)
      (hA : ∀ (i : Nat) (x : Ex), kids[i]? = some x → A = some ⟨b, off, none⟩ ∧ b < B)
      (h0 : ∀ (i : Nat) (x : Ex), kids[i]? = some x → w.cell? ⟨b, off + i * 3, none⟩ = some (C0 i))
      (h1 : ∀ (i : Nat) (x : Ex), kids[i]? = some x → w.cell? ⟨b, off + i * 3 + 1, none⟩ = some (C1 i))
      (h2 : ∀ (i : Nat) (x : Ex), kids[i]? = some x → w.cell? ⟨b, off + i * 3 + 2, none⟩ = some (C2 i))
      (hr : ∀ (i : Nat) (x : Ex), kids[i]? = some x → Lies w B x (C0 i) (C1 i) (C2 i)) :
      Lies w B (.node k v kids) (.int .i64 k) (.int .i64 v) (.slice A kids.length cap)

theorem Lies.keep {w w' : World} {B B' : Nat} (hB : B ≤ B') (hk : ∀ p : Addr, p.block < B → w'.cell? p = w.cell? p) {e : Ex} {c0 c1 c2 : Value} (h : Lies w B e c0 c1 c2) : Lies w' B' e c0 c1 c2 := by
  induction h with
  | mk k v kids A cap b off C0 C1 C2 hl hA h0 h1 h2 hr ih =>
    exact .mk k v kids A cap b off C0 C1 C2 hl (fun i x hx => ⟨(hA i x hx).1, Nat.lt_of_lt_of_le (hA i x hx).2 hB⟩)
      (fun i x hx => (hk _ (hA i x hx).2).trans (h0 i x hx)) (fun i x hx => (hk _ (hA i x hx).2).trans (h1 i x hx)) (fun i x hx => (hk _ (hA i x hx).2).trans (h2 i x hx)) ih

theorem Lies.under {w w' : World} {B : Nat} {e : Ex} {c0 c1 c2 : Value} (h : Lies w B e c0 c1 c2) (hb : Below B w w') : Lies w' B e c0 c1 c2 := h.keep (Nat.le_refl _) fun _ hp => hb.cell hp
theorem Lies.more {w : World} {B B' : Nat} {e : Ex} {c0 c1 c2 : Value} (h : Lies w B e c0 c1 c2) (hB : B ≤ B') : Lies w B' e c0 c1 c2 := h.keep hB fun _ _ => rfl
theorem Lies.alloc {w : World} {B : Nat} {e : Ex} {c0 c1 c2 : Value} (h : Lies w B e c0 c1 c2) (hB : B ≤ w.heap.size) (o : Obj) : Lies (w.alloc o) B e c0 c1 c2 := h.under ((Below.refl B w).alloc hB o)
theorem Lies.drew {w : World} {B : Nat} {e : Ex} {c0 c1 c2 : Value} (h : Lies w B e c0 c1 c2) : Lies w.drew B e c0 c1 c2 := h.under (Below.refl B w).drew

/-- A node, opened: its two numbers, its slice, and of each operand the three cells. -/
def Opened (w : World) (B : Nat) (kids : List Ex) (A : Option Addr) (b off : Nat) (C0 C1 C2 : Nat → Value) : Prop :=
  ∀ (i : Nat) (x : Ex), kids[i]? = some x → A = some ⟨b, off, none⟩ ∧ b < B ∧ w.cell? ⟨b, off + i * 3, none⟩ = some (C0 i) ∧ w.cell? ⟨b, off + i * 3 + 1, none⟩ = some (C1 i) ∧ w.cell? ⟨b, off + i * 3 + 2, none⟩ = some (C2 i) ∧ Lies w B x (C0 i) (C1 i) (C2 i)

theorem Lies.open_ {w : World} {B : Nat} {k v : Int} {kids : List Ex} {c0 c1 c2 : Value} (h : Lies w B (.node k v kids) c0 c1 c2) :
    ∃ (A : Option Addr) (cap b off : Nat) (C0 C1 C2 : Nat → Value), c0 = .int .i64 k ∧ c1 = .int .i64 v ∧ c2 = .slice A kids.length cap ∧ kids.length ≤ maxLen ∧ Opened w B kids A b off C0 C1 C2 := by
  cases h with
  | mk _ _ _ A cap b off C0 C1 C2 hl hA h0 h1 h2 hr =>
    exact ⟨A, cap, b, off, C0, C1, C2, rfl, rfl, rfl, hl, fun i x hx => ⟨(hA i x hx).1, (hA i x hx).2, h0 i x hx, h1 i x hx, h2 i x hx, hr i x hx⟩⟩

theorem Opened.below {w w' : World} {B : Nat} {kids : List Ex} {A : Option Addr} {b off : Nat} {C0 C1 C2 : Nat → Value} (h : Opened w B kids A b off C0 C1 C2) (hb : Below B w w') : Opened w' B kids A b off C0 C1 C2 := fun i x hx => by
  obtain ⟨h1, h2, h3, h4, h5, h6⟩ := h i x hx
  exact ⟨h1, h2, (hb.cell (p := ⟨b, off + i * 3, none⟩) h2).trans h3, (hb.cell (p := ⟨b, off + i * 3 + 1, none⟩) h2).trans h4, (hb.cell (p := ⟨b, off + i * 3 + 2, none⟩) h2).trans h5, h6.under hb⟩

theorem Opened.grow {w w' : World} {B B' : Nat} {kids : List Ex} {A : Option Addr} {b off : Nat} {C0 C1 C2 : Nat → Value} (h : Opened w B kids A b off C0 C1 C2) (hb : Below B w w') (hB : B ≤ B') : Opened w' B' kids A b off C0 C1 C2 := fun i x hx => by
  obtain ⟨h1, h2, h3, h4, h5, h6⟩ := h.below hb i x hx
  exact ⟨h1, Nat.lt_of_lt_of_le h2 hB, h3, h4, h5, h6.more hB⟩

theorem Opened.mk_ {w : World} {B : Nat} {k v : Int} {kids : List Ex} {A : Option Addr} {cap b off : Nat} {C0 C1 C2 : Nat → Value} (hl : kids.length ≤ maxLen) (h : Opened w B kids A b off C0 C1 C2) : Lies w B (.node k v kids) (.int .i64 k) (.int .i64 v) (.slice A kids.length cap) :=
  .mk k v kids A cap b off C0 C1 C2 hl (fun i x hx => ⟨(h i x hx).1, (h i x hx).2.1⟩) (fun i x hx => (h i x hx).2.2.1) (fun i x hx => (h i x hx).2.2.2.1) (fun i x hx => (h i x hx).2.2.2.2.1) (fun i x hx => (h i x hx).2.2.2.2.2)

/-- Behind a box: what was there before the box is as it was. -/
theorem boxed {w wr : World} {o : Obj} (h : Below (w.heap.size + 1) (w.alloc o) wr) : Below w.heap.size w wr :=
  ((Below.refl _ w).alloc (Nat.le_refl _) o).trans (h.mono (Nat.le_succ _))
/-- The box itself is as it was made. -/
theorem boxed_cell {w wr : World} {o : Obj} (h : Below (w.heap.size + 1) (w.alloc o) wr) (i : Nat) : wr.cell? ⟨w.heap.size, i, none⟩ = (w.alloc o).cell? ⟨w.heap.size, i, none⟩ :=
  h.cell (p := ⟨w.heap.size, i, none⟩) (Nat.lt_succ_self _)
theorem boxed_two {w wr : World} {o o2 : Obj} (h : Below (w.heap.size + 2) ((w.alloc o).alloc o2) wr) : Below w.heap.size w wr :=
  (((Below.refl _ w).alloc (Nat.le_refl _) o).alloc (by simp) o2).trans (h.mono (by omega))
/-- The heap of the later world is no smaller. -/
theorem below_more {w wr : World} {B : Nat} {e : Ex} {c0 c1 c2 : Value} (h : Lies w B e c0 c1 c2) (hb : Below B w wr) (hB : B ≤ wr.heap.size) : Lies wr wr.heap.size e c0 c1 c2 := (h.under hb).more hB

end Go.Proofs.Ytldnegacgjijlaa

/- Joined texts: MkD, StX, Cl0. Nothing is assumed. -/
import Derived.Test.YtldnegacgjijlaaJ12
import Derived.Test.YtldnegacgjijlaaJ02
import Derived.Laws.AppendOwn
import Derived.Test.YtldnegacgjijlaaProg
import Derived.WalkKit
import Derived.Deep.RegionLaw
import Derived.Deep.AppendLies
namespace Go.Proofs.Ytldnegacgjijlaa
open Go.RowKit

/-- What a marked state is. -/
def markedSt (s : St) : St := ⟨from_ 1 s.locs.length, from_ (1 + s.locs.length) s.vals.length⟩
/-- A state in two rows of one's own. -/
def StR (w : World) (lo hi : Nat) (s : St) (X Y : Value) : Prop := ∃ m0 m1 n0 n1 : Nat, (lo ≤ m0 ∧ m0 ≤ m1 ∧ m1 ≤ hi ∧ lo ≤ n0 ∧ n0 ≤ n1 ∧ n1 ≤ hi ∧ (m1 ≤ n0 ∨ n1 ≤ m0)) ∧ (Lay.int.slice 3).sep w m0 m1 s.locs (fun _ => X) ∧ (Lay.int.slice 3).sep w n0 n1 s.vals (fun _ => Y)
theorem StR.keep {w w' : World} {lo hi : Nat} {s : St} {X Y : Value} (h : StR w lo hi s X Y) (hk : ∀ g, lo ≤ g → g < hi → w'.heap[g]? = w.heap[g]?) : StR w' lo hi s X Y := by
  obtain ⟨m0, m1, n0, n1, ho, h1, h2⟩ := h
  exact ⟨m0, m1, n0, n1, ho, (Lay.int.slice _).sep_keep (fun g a b => hk g (by omega) (by omega)) h1, (Lay.int.slice _).sep_keep (fun g a b => hk g (by omega) (by omega)) h2⟩
theorem StR.under {w w' : World} {lo hi : Nat} {s : St} {X Y : Value} (h : StR w lo hi s X Y) (hb : Below w.heap.size w w') (hh : hi ≤ w.heap.size) : StR w' lo hi s X Y := h.keep fun g _ hg => hb.block g (by omega)
theorem StR.kept {w w' : World} {lo hi lo' hi' : Nat} {s : St} {X Y : Value} (h : StR w lo hi s X Y) (hk : Kept lo' hi' w w') (hh : hi ≤ w.heap.size) (hd : hi ≤ lo' ∨ hi' ≤ lo) : StR w' lo hi s X Y := h.keep fun g h1 h2 => hk.other g (by omega) (by omega)
theorem StR.more {w : World} {lo hi lo' hi' : Nat} {s : St} {X Y : Value} (h : StR w lo hi s X Y) (hl : lo' ≤ lo) (hh : hi ≤ hi') : StR w lo' hi' s X Y := by
  obtain ⟨m0, m1, n0, n1, ho, h1, h2⟩ := h
  exact ⟨m0, m1, n0, n1, by omega, h1, h2⟩
theorem StR.lies {w : World} {lo hi B : Nat} {s : St} {X Y : Value} (h : StR w lo hi s X Y) (hB : hi ≤ B) : Lay.sta.lies w B s (fun j => (#[X, Y] : Array Value).getD j undef) := by
  obtain ⟨m0, m1, n0, n1, ho, h1, h2⟩ := h
  refine ⟨(Lay.int.slice _).more (B := m1) ((Lay.int.slice _).lies_ext (fun q hq => ?_) ((Lay.int.slice _).sep_lies h1)) (by omega), (Lay.int.slice _).more (B := n1) ((Lay.int.slice _).lies_ext (fun q hq => ?_) ((Lay.int.slice _).sep_lies h2)) (by omega)⟩ <;>
  · have : q = 0 := by have : q < 1 := hq; omega
    subst this
    rfl
theorem StR.form {w : World} {lo hi : Nat} {s : St} {X Y : Value} (h : StR w lo hi s X Y) : ∃ xa xc ya yc, X = .slice xa s.locs.length xc ∧ Y = .slice ya s.vals.length yc := by
  obtain ⟨m0, m1, n0, n1, ho, ⟨A, cap, _, _, _, _, e1, _⟩, ⟨A', cap', _, _, _, _, e2, _⟩⟩ := h
  exact ⟨A, cap, A', cap', e1, e2⟩

end Go.Proofs.Ytldnegacgjijlaa
namespace Go.Proofs.Ytldnegacgjijlaa
open Go.RowKit

/-- A row holds numbers. -/
theorem sep_row {w : World} {g cap : Nat} {cs : Array Value} {zs : List Int} (hr : Row w g 3 cs) (hl : zs.length ≤ maxLen) (hk : ∀ (i : Nat) (z : Int), zs[i]? = some z → cs[i]? = some (Value.int .i64 z)) : (Lay.int.slice 3).sep w g (g + 1) zs (fun _ => .slice (some ⟨g, 0, none⟩) zs.length cap) := by
  refine ⟨_, cap, g, cs, fun i _ => .int .i64 (zs.getD i 0), fun _ => g + 1, rfl, hl, fun _ _ => Nat.le_refl _, by dsimp only; omega, Nat.le_refl _, fun i x hx => ?_⟩
  have hi := (List.getElem?_eq_some_iff.1 hx).1
  have hg : zs.getD i 0 = x := by simp [List.getD, hx]
  refine ⟨rfl, Nat.le_refl _, Nat.lt_succ_self _, .inl (Nat.lt_succ_self _), hr, fun j hj => ?_, by show Value.int .i64 (zs.getD i 0) = .int .i64 x; rw [hg]⟩
  have hj0 : j = 0 := by have : j < 1 := hj; omega
  subst hj0
  show cs[i * 1 + 0]? = some (.int .i64 (zs.getD i 0))
  rw [Nat.mul_one, Nat.add_zero, hg]
  exact hk i x hx

theorem StR.none_ (w : World) (lo hi : Nat) (h : lo ≤ hi) (A A' : Option Addr) (c c' : Nat) : StR w lo hi ⟨[], []⟩ (.slice A 0 c) (.slice A' 0 c') :=
  ⟨lo, lo, lo, hi, by omega, ⟨A, c, 0, #[], fun _ _ => undef, fun _ => lo, rfl, Nat.zero_le _, fun _ _ => Nat.le_refl _, Nat.le_refl _, Nat.le_refl _, fun i x hx => by simp at hx⟩,
    ⟨A', c', 0, #[], fun _ _ => undef, fun _ => lo, rfl, Nat.zero_le _, fun _ _ => Nat.le_refl _, Nat.le_refl _, h, fun i x hx => by simp at hx⟩⟩
theorem StR.rows {w : World} {lo g h : Nat} {cs ds : Array Value} {zs ys : List Int} {k l : Nat} (hg : Row w g 3 cs) (hh : Row w h 3 ds) (hlg : lo ≤ g) (hlh : lo ≤ h) (hne : g ≠ h) (hz : zs.length ≤ 1048576) (hy : ys.length ≤ 1048576)
    (hcs : ∀ (i : Nat) (z : Int), zs[i]? = some z → cs[i]? = some (Value.int .i64 z)) (hds : ∀ (i : Nat) (z : Int), ys[i]? = some z → ds[i]? = some (Value.int .i64 z)) :
    StR w lo w.heap.size ⟨zs, ys⟩ (.slice (some ⟨g, 0, none⟩) zs.length k) (.slice (some ⟨h, 0, none⟩) ys.length l) := by
  have h1 := sep_row (cap := k) (zs := zs) hg (by unfold maxLen; omega) hcs
  have h2 := sep_row (cap := l) (zs := ys) hh (by unfold maxLen; omega) hds
  have := hg.lt
  have := hh.lt
  exact ⟨g, g + 1, h, h + 1, by omega, h1, h2⟩

theorem row_of_owns {w : World} {base : Nat} {g n cap : Nat} {xs : List Value} (h : w.ownsRow base 3 1 (.slice (some ⟨g, 0, none⟩) n cap) n xs) : ∃ cs : Array Value, base ≤ g ∧ Row w g 3 cs ∧ ∀ (i : Nat) (u : Value), xs[i]? = some u → cs[i]? = some u := by
  rcases h.2 with ⟨h1, _⟩ | ⟨g', cap', cur, hv, hb, hh, _, _, _, ht⟩
  · cases h1
  · injection hv with e1 e2 e3
    injection e1 with e1
    injection e1 with e1
    subst e1
    refine ⟨cur, hb, hh, fun i u hu => ?_⟩
    rw [← ht, List.getElem?_take] at hu
    split at hu
    · simpa using hu
    · cases hu

end Go.Proofs.Ytldnegacgjijlaa
namespace Go.Proofs.Ytldnegacgjijlaa
open Go.RowKit

section
variable {P : Program} {w w' : World}
/-- An append whose run is known, at the operation. -/
theorem wp_append_eq {o : Oper} {a : Act} {K : Act → World → Prop} {Q : Exit → Act → World → Prop} (s x : Operand) (t : TypeId)
    (ho : o.op = .call { callee := .builtin .append, args := #[s, x], argTypes := #[t, t] }) {v y r : Value} (hs : a.eval s = v) (hx : a.eval x = y)
    (hr : (Builtin.append_ #[t, t] o.type #[v, y]).run P w = .ok r w') (h : K (a.put o.dst r) w') : o.wp P a w K Q := by
  unfold Oper.wp execOp
  simp only [ho, resolve, invoke, builtin, Sem.run_bind, Sem.run_pure, Result.andThen_ok, List.map_toArray, List.map_cons, List.map_nil, hs, hx, hr]
  exact h
theorem wpList_append_eq {ops : Array Oper} {rest : List Oper} {o : Oper} {a : Act} {Q : Exit → Act → World → Prop} (hgd : o.guard = none) (s x : Operand) (t : TypeId)
    (ho : o.op = .call { callee := .builtin .append, args := #[s, x], argTypes := #[t, t] }) {v y r : Value} (hs : a.eval s = v) (hx : a.eval x = y)
    (hr : (Builtin.append_ #[t, t] o.type #[v, y]).run P w = .ok r w') (h : wpList P ops Q rest (a.put o.dst r) w') : wpList P ops Q (o :: rest) a w :=
  wpList_plain hgd fun _ hK => wp_append_eq s x t ho hs hx hr (hK _ _ h)
theorem step_append_eq {ops : Array Oper} {o : Oper} {a : Act} {K : Act → World → Prop} {Q : Exit → Act → World → Prop} {E : Prop} (hgd : o.guard = none) (s x : Operand) (t : TypeId)
    (ho : o.op = .call { callee := .builtin .append, args := #[s, x], argTypes := #[t, t] }) {v y r : Value} (hs : a.eval s = v) (hx : a.eval x = y)
    (hr : (Builtin.append_ #[t, t] o.type #[v, y]).run P w = .ok r w') (h : K (a.put o.dst r) w') :
    if Region.wanted o (yielded ops a.tmps) = true then Oper.wp P o a w K Q else E := by
  have hw : Region.wanted o (yielded ops a.tmps) = true := by simp [Region.wanted, hgd]
  rw [if_pos hw]
  exact wp_append_eq s x t ho hs hx hr h
end

end Go.Proofs.Ytldnegacgjijlaa

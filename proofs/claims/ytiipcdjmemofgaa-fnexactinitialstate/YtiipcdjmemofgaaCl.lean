/- Three numbers appended to an empty row: as an equation; the walk of slices.Clone of three numbers. -/
import Derived.Test.YtiipcdjmemofgaaStX
import Derived.Test.YtiipcdjmemofgaaBld
import Derived.Deep.AppendSrc
import Derived.Deep.AppendLies
namespace Go.Proofs.Ytiipcdjmemofgaa
open Go.RowKit

section
variable {P : Program} {w w' : World}
/-- An append whose run is known, at the operation. -/
theorem wp_append_eq {o : Oper} {a : Act} {K : Act → World → Prop} {Q : Exit → Act → World → Prop} (s x : Operand) (t : TypeId)
    (ho : o.op = .call { callee := .builtin .append, args := #[s, x], argTypes := #[t, t] }) {v y r : Value} (hs : a.eval s = v) (hx : a.eval x = y)
    (hr : (Builtin.append_ #[t, t] o.type #[v, y]).run P w = .ok r w') (h : K (a.put o.dst r) w') : o.wp P a w K Q := by
  unfold Oper.wp execOp
  simp only [ho, resolve, invoke, builtin, Sem.run_bind, Sem.run_pure, Result.andThen_ok, List.map_toArray, List.map_cons, List.map_nil, hs, hx, hr]
  exact h
theorem wpList_append_eq {ops : Array Oper} {rest : List Oper} {o : Oper} {a : Act} {Q : Exit → Act → World → Prop} (hgd : o.guard = none) (s x : Operand) (t : TypeId)
    (ho : o.op = .call { callee := .builtin .append, args := #[s, x], argTypes := #[t, t] }) {v y r : Value} (hs : a.eval s = v) (hx : a.eval x = y)
    (hr : (Builtin.append_ #[t, t] o.type #[v, y]).run P w = .ok r w') (h : wpList P ops Q rest (a.put o.dst r) w') : wpList P ops Q (o :: rest) a w :=
  wpList_plain hgd fun _ hK => wp_append_eq s x t ho hs hx hr (hK _ _ h)
theorem step_append_eq {ops : Array Oper} {o : Oper} {a : Act} {K : Act → World → Prop} {Q : Exit → Act → World → Prop} {E : Prop} (hgd : o.guard = none) (s x : Operand) (t : TypeId)
    (ho : o.op = .call { callee := .builtin .append, args := #[s, x], argTypes := #[t, t] }) {v y r : Value} (hs : a.eval s = v) (hx : a.eval x = y)
    (hr : (Builtin.append_ #[t, t] o.type #[v, y]).run P w = .ok r w') (h : K (a.put o.dst r) w') :
    if Region.wanted o (yielded ops a.tmps) = true then Oper.wp P o a w K Q else E := by
  have hw : Region.wanted o (yielded ops a.tmps) = true := by simp [Region.wanted, hgd]
  rw [if_pos hw]
  exact wp_append_eq s x t ho hs hx hr h
end

/-- What three numbers appended to an empty row with no room leave. -/
theorem app3 (X : World) (ty : TypeId) (a b c : Int) (base : Option Addr) (ad : Addr) (cap : Nat) (h0 : X.cell? (ad.add 0) = some (.int .i64 a)) (h1 : X.cell? (ad.add 1) = some (.int .i64 b)) (h2 : X.cell? (ad.add 2) = some (.int .i64 c)) :
    ∃ (k : Nat) (cs : Array Value), (Builtin.append_ #[22, 22] ty #[.slice base 0 0, .slice (some ad) 3 cap]).run Try.prog X = .ok (.slice (some ⟨X.heap.size, 0, none⟩) 3 k) (X.drew.alloc (.cells cs 3)) ∧ ∀ (i : Nat) (z : Int), ([a, b, c] : List Int)[i]? = some z → cs[i]? = some (Value.int .i64 z) := by
  obtain ⟨i0, hi0, hz0, hz1, hz2⟩ := info_parts Try.info3
  have hs : Go.Src Try.prog i0.size 22 (.slice (some ad) 3 cap) 3 [Value.int .i64 a, Value.int .i64 b, Value.int .i64 c] X := Go.Src.ofSlice X Try.underlying22 ad 3 cap _ (by rw [hz1]; rfl) (fun j u hu => by
    rcases j with _ | _ | _ | j
    · simp at hu; subst hu; exact h0
    · simp at hu; subst hu; exact h1
    · simp at hu; subst hu; exact h2
    · simp at hu) (by simp [Value.oneCell'])
  have h := run_append_grow_src X 22 22 ty 3 i0 (.int .i64 0) Try.underlying22 hi0 hz0 base 0 0 [] (by
    rw [hz1]
    cases base with
    | none => exact run_firstCells_none X.drew 1 0 0 0
    | some q => exact run_firstCells_some X.drew 1 0 q 0 0 [] rfl (fun j u h => by simp at h)) _ 3 _ hs (by omega) (by omega) (by rw [hz2]; decide)
  refine ⟨_, _, h, fun i z hz => ?_⟩
  rcases i with _ | _ | _ | i
  · simp at hz; subst hz; simp [Array.getElem?_append]
  · simp at hz; subst hz; simp [Array.getElem?_append]
  · simp at hz; subst hz; simp [Array.getElem?_append]
  · simp at hz

set_option maxHeartbeats 400000 in
set_option maxRecDepth 100000 in
theorem clone_any (a b c : Int) (ad : Addr) (cap : Nat) (w : World) (h0 : w.cell? (ad.add 0) = some (.int .i64 a)) (h1 : w.cell? (ad.add 1) = some (.int .i64 b)) (h2 : w.cell? (ad.add 2) = some (.int .i64 c)) (hb : ad.block < w.heap.size) :
    Calls Try.prog 24 #[.slice (some ad) 3 cap] w fun e' w' => ∃ (g k : Nat) (cs : Array Value), e' = .returned (.slice (some ⟨g, 0, none⟩) 3 k) ∧ w.heap.size ≤ g ∧ Row w' g 3 cs ∧ (∀ (i : Nat) (z : Int), ([a, b, c] : List Int)[i]? = some z → cs[i]? = some (Value.int .i64 z)) ∧ Below w.heap.size w w' := by
  have hk : ∀ (o : Obj) (j : Nat) (v : Value), w.cell? (ad.add j) = some v → (w.alloc o).cell? (ad.add j) = some v := fun o j v h => by
    rw [Below.cell (B := w.heap.size) ((Below.refl _ _).alloc (Nat.le_refl _) o) (by unfold Addr.add; split <;> exact hb)]
    exact h
  obtain ⟨k, cs, hap, hcs⟩ := app3 (w.alloc (.cells #[] 3)) 22 a b c (some ⟨w.heap.size, 0, none⟩) ad cap (hk _ _ _ h0) (hk _ _ _ h1) (hk _ _ _ h2)
  have HCs := Lib.hid hcs
  have hnil : Sem.run Try.prog (binOp BinOp.eql 22 (.slice (some ad) 3 cap) (.slice none 0 0)) w = .ok (.bool false) w := by kernel_rfl
  clear h0 h1 h2 hk hcs
  go_enter Try.func24, Try.ntmps24
  go_wp2_with (at_builtin; refine wpList_append_eq rfl (.tmp 5) (.tmp 6) 22 rfl rfl rfl hap ?_)
  go_wp2_with fail
  go_ret
  exact ⟨_, _, cs, rfl, Nat.le_succ _, (rows2 w 3 3 #[] cs).2.1, HCs.out, (((Below.refl _ _).alloc (Nat.le_refl _) _).alloc (by simp) _).drew⟩

end Go.Proofs.Ytiipcdjmemofgaa

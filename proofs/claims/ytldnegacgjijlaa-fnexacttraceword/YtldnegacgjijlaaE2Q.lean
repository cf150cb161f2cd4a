/- The walks of impl.newNode, the eval methods and impl.EvalExpr. -/
import Derived.Test.YtldnegacgjijlaaJ11
import Derived.Handy
namespace Go.Proofs.Ytldnegacgjijlaa
open Go.RowKit

/-- The method's name, as the program has it. -/
noncomputable def evName : String := (((Try.prog.info? 217).map (fun i => i.methods)).getD #[])[0]?.elim ("" : String) (fun m => m.name)

/-- The function f, called on the node x, answers z. -/
def Ev (f : FuncId) (x : Value) (zs : List Int) (z : Int) : Prop := ∀ (A : Option Addr) (b off cap : Nat) (w : World), Vals w A b off zs →
    Calls Try.prog f #[x, .slice A 3 cap] w fun e' w' => e' = .returned (.int .i64 z) ∧ Below w.heap.size w w'

/-- A node in the form that can be evaluated: its method answers z. -/
def NodeIs (zs : List Int) (z : Int) (nv : Value) : Prop :=
  ∃ (T : TypeId) (x : Value) (f : FuncId), nv = .iface T x ∧ (∀ W : World, (method 350 T x evName).run Try.prog W = .ok (f, x) W) ∧ (∀ (args : Array Value) (W : World), (callFunc f args).run Try.prog W = .ok (.enter f args) W) ∧ Ev f x zs z

set_option maxRecDepth 100000 in
theorem upon_method {f : FuncId} {T : TypeId} {x : Value} {nm : String} (hn : nm = evName) (hm : ∀ W : World, (method 350 T x evName).run Try.prog W = .ok (f, x) W) (W : World) :
    (method 350 T x nm).run Try.prog W = .ok (f, x) W := by subst hn; exact hm W

set_option maxHeartbeats 400000 in
set_option maxRecDepth 100000 in
theorem not_eval (zs : List Int) (z : Int) (nv : Value) (h : NodeIs zs z nv) : Ev 183 (.agg #[nv]) zs (tb (z == 0)) := by
  obtain ⟨T, x, f, rfl, hm, hc, he⟩ := h
  intro A b off cap w hV
  have HM := Lib.hid hm
  have HC := Lib.hid hc
  have HE := Lib.hid he
  have HV := Lib.hid hV
  clear hm hc he hV
  go_enter Try.func183, Try.ntmps183
  go_wp2_with fail
  rw [upon_method _ HM.out]
  rotate_left
  · kernel_rfl
  go_wp2_with fail
  rw [HC.out]
  go_wp2_with fail
  refine (HE.out A b off cap _ (HV.out.under ((Below.refl _ w).alloc (Nat.le_refl _) _))).mono ?_
  rintro e' w1 ⟨rfl, hb1⟩
  have HB1 : Hid (Below w.heap.size w w1) := boxed (hb1.mono (by simp))
  clear hb1
  go_wp2_with fail
  refine (tb_impl _ _).mono ?_
  rintro e' w2 ⟨rfl, rfl⟩
  go_wp2_with fail
  go_ret
  exact ⟨rfl, HB1.out⟩
set_option maxRecDepth 100000 in
theorem not_is (zs : List Int) (z : Int) (nv : Value) (h : NodeIs zs z nv) : NodeIs zs (tb (z == 0)) (.iface 217 (.agg #[nv])) :=
  ⟨217, _, 183, rfl, fun _ => by kernel_rfl, fun _ _ => by kernel_rfl, not_eval zs z nv h⟩

set_option maxHeartbeats 400000 in
set_option maxRecDepth 100000 in
theorem const_is (zs : List Int) (z : Int) : NodeIs zs z (.iface 226 (.agg #[.int .i64 z])) := by
  refine ⟨226, _, 191, rfl, fun _ => by kernel_rfl, fun _ _ => by kernel_rfl, ?_⟩
  intro A b off cap w hV
  clear hV
  go_enter Try.func191, Try.ntmps191
  go_wp2_with fail
  go_ret
  exact ⟨rfl, (Below.refl _ _).alloc (Nat.le_refl _) _⟩

set_option maxHeartbeats 400000 in
set_option maxRecDepth 100000 in
theorem var_is (zs : List Int) (j : Nat) (hj : j < 3) : NodeIs zs (zs.getD j 0) (.iface 215 (.agg #[.int .i64 j])) := by
  refine ⟨215, _, 182, rfl, fun _ => by kernel_rfl, fun _ _ => by kernel_rfl, ?_⟩
  intro A b off cap w hV
  obtain ⟨rfl, hc⟩ := hV.cell (i := j) hj
  clear hV
  have hb : b < w.heap.size := World.block_lt_of_cell? w _ hc
  go_enter Try.func182, Try.ntmps182
  go_wp2_with fail
  go_ret
  exact ⟨rfl, (Below.refl _ _).alloc (Nat.le_refl _) _⟩

set_option maxHeartbeats 400000 in
set_option maxRecDepth 100000 in
theorem and_is (zs : List Int) (z1 z2 : Int) (n1 n2 : Value) (h1 : NodeIs zs z1 n1) (h2 : NodeIs zs z2 n2) : NodeIs zs (tb (z1 != 0 && z2 != 0)) (.iface 219 (.agg #[n1, n2])) := by
  refine ⟨219, _, 185, rfl, fun _ => by kernel_rfl, fun _ _ => by kernel_rfl, ?_⟩
  obtain ⟨T, x, f, rfl, hm, hc, he⟩ := h1
  obtain ⟨U, y, g, rfl, km, kc, ke⟩ := h2
  intro A b off cap w hV
  have HM := Lib.hid hm
  have HC := Lib.hid hc
  have HE := Lib.hid he
  have KM := Lib.hid km
  have KC := Lib.hid kc
  have KE := Lib.hid ke
  have HV1 := Lib.hid (hV.under ((Below.refl _ w).alloc (Nat.le_refl _) (.cells #[.iface T x, .iface U y] 219)))
  clear hm hc he km kc ke hV
  by_cases h0 : z1 = 0
  · have hb0 : (z1 != 0) = false := by simpa using h0
    have HT : Hid ((z1 != 0 && z2 != 0) = false) := by show _ = _; rw [hb0]; rfl
    go_enter Try.func185, Try.ntmps185
    go_wp2_with fail
    rw [upon_method _ HM.out]
    rotate_left
    · kernel_rfl
    go_wp2_with fail
    rw [HC.out]
    go_wp2_with fail
    refine (HE.out A b off cap _ HV1.out).mono ?_
    rintro e' w1 ⟨rfl, hb1⟩
    have HB1 : Hid (Below w.heap.size w w1) := boxed (hb1.mono (by simp))
    clear hb1
    go_wp2_with fail
    refine (tb_impl _ _).mono ?_
    rintro e' w2 ⟨rfl, rfl⟩
    go_wp2_with fail
    go_ret
    exact ⟨ret_int (by rw [HT.out]), HB1.out⟩
  · have hb0 : (z1 != 0) = true := by simpa using h0
    have HT : Hid ((z1 != 0 && z2 != 0) = (z2 != 0)) := by show _ = _; rw [hb0]; rfl
    go_enter Try.func185, Try.ntmps185
    go_wp2_with fail
    rw [upon_method _ HM.out]
    rotate_left
    · kernel_rfl
    go_wp2_with fail
    rw [HC.out]
    go_wp2_with fail
    refine (HE.out A b off cap _ HV1.out).mono ?_
    rintro e' w1 ⟨rfl, hb1⟩
    have HB1 : Hid (Below (w.heap.size + 1) (w.alloc (.cells #[.iface T x, .iface U y] 219)) w1) := hb1.mono (by simp)
    have HV2 := Lib.hid (HV1.out.under hb1)
    have q1 : w1.cell? ⟨w.heap.size, 1, none⟩ = some (.iface U y) := by simpa using boxed_cell HB1.out 1
    clear hb1
    go_wp2_with fail
    rw [upon_method _ KM.out]
    rotate_left
    · kernel_rfl
    go_wp2_with fail
    rw [KC.out]
    go_wp2_with fail
    refine (KE.out A b off cap _ HV2.out).mono ?_
    rintro e' w2 ⟨rfl, hb2⟩
    have HB2 : Hid (Below w.heap.size w w2) := (boxed HB1.out).trans (hb2.mono (boxed HB1.out).size)
    clear hb2
    go_wp2_with fail
    refine (tb_impl _ _).mono ?_
    rintro e' w3 ⟨rfl, rfl⟩
    go_wp2_with fail
    go_ret
    exact ⟨ret_int (by rw [HT.out]), HB2.out⟩

set_option maxHeartbeats 400000 in
set_option maxRecDepth 100000 in
theorem or_is (zs : List Int) (z1 z2 : Int) (n1 n2 : Value) (h1 : NodeIs zs z1 n1) (h2 : NodeIs zs z2 n2) : NodeIs zs (tb (z1 != 0 || z2 != 0)) (.iface 220 (.agg #[n1, n2])) := by
  refine ⟨220, _, 186, rfl, fun _ => by kernel_rfl, fun _ _ => by kernel_rfl, ?_⟩
  obtain ⟨T, x, f, rfl, hm, hc, he⟩ := h1
  obtain ⟨U, y, g, rfl, km, kc, ke⟩ := h2
  intro A b off cap w hV
  have HM := Lib.hid hm
  have HC := Lib.hid hc
  have HE := Lib.hid he
  have KM := Lib.hid km
  have KC := Lib.hid kc
  have KE := Lib.hid ke
  have HV1 := Lib.hid (hV.under ((Below.refl _ w).alloc (Nat.le_refl _) (.cells #[.iface T x, .iface U y] 220)))
  clear hm hc he km kc ke hV
  by_cases h0 : z1 = 0
  · have hb0 : (z1 != 0) = false := by simpa using h0
    have HT : Hid ((z1 != 0 || z2 != 0) = (z2 != 0)) := by show _ = _; rw [hb0]; rfl
    go_enter Try.func186, Try.ntmps186
    go_wp2_with fail
    rw [upon_method _ HM.out]
    rotate_left
    · kernel_rfl
    go_wp2_with fail
    rw [HC.out]
    go_wp2_with fail
    refine (HE.out A b off cap _ HV1.out).mono ?_
    rintro e' w1 ⟨rfl, hb1⟩
    have HB1 : Hid (Below (w.heap.size + 1) (w.alloc (.cells #[.iface T x, .iface U y] 220)) w1) := hb1.mono (by simp)
    have HV2 := Lib.hid (HV1.out.under hb1)
    have q1 : w1.cell? ⟨w.heap.size, 1, none⟩ = some (.iface U y) := by simpa using boxed_cell HB1.out 1
    clear hb1
    go_wp2_with fail
    rw [upon_method _ KM.out]
    rotate_left
    · kernel_rfl
    go_wp2_with fail
    rw [KC.out]
    go_wp2_with fail
    refine (KE.out A b off cap _ HV2.out).mono ?_
    rintro e' w2 ⟨rfl, hb2⟩
    have HB2 : Hid (Below w.heap.size w w2) := (boxed HB1.out).trans (hb2.mono (boxed HB1.out).size)
    clear hb2
    go_wp2_with fail
    refine (tb_impl _ _).mono ?_
    rintro e' w3 ⟨rfl, rfl⟩
    go_wp2_with fail
    go_ret
    exact ⟨ret_int (by rw [HT.out]), HB2.out⟩
  · have hb0 : (z1 != 0) = true := by simpa using h0
    have HT : Hid ((z1 != 0 || z2 != 0) = true) := by show _ = _; rw [hb0]; rfl
    go_enter Try.func186, Try.ntmps186
    go_wp2_with fail
    rw [upon_method _ HM.out]
    rotate_left
    · kernel_rfl
    go_wp2_with fail
    rw [HC.out]
    go_wp2_with fail
    refine (HE.out A b off cap _ HV1.out).mono ?_
    rintro e' w1 ⟨rfl, hb1⟩
    have HB1 : Hid (Below w.heap.size w w1) := boxed (hb1.mono (by simp))
    clear hb1
    go_wp2_with fail
    refine (tb_impl _ _).mono ?_
    rintro e' w2 ⟨rfl, rfl⟩
    go_wp2_with fail
    go_ret
    exact ⟨ret_int (by rw [HT.out]), HB1.out⟩

end Go.Proofs.Ytldnegacgjijlaa

/- The walks of impl.newNode, the eval methods and impl.EvalExpr. -/
import Derived.Test.YtkcgjgdcmdjcfaaE1
import Derived.Handy
namespace Go.Proofs.Ytkcgjgdcmdjcfaa
open Go.RowKit

/-- The method's name, as the program has it. -/
noncomputable def evName : String := (((Try.prog.info? 82).map (fun i => i.methods)).getD #[])[0]?.elim ("" : String) (fun m => m.name)

/-- The function f, called on the node x, answers z. -/
def Ev (f : FuncId) (x : Value) (zs : List Int) (z : Int) : Prop := ∀ (A : Option Addr) (b off cap : Nat) (w : World), Vals w A b off zs →
    Calls Try.prog f #[x, .slice A 3 cap] w fun e' w' => e' = .returned (.int .i64 z) ∧ Below w.heap.size w w'

/-- A node in the form that can be evaluated: its method answers z. -/
def NodeIs (zs : List Int) (z : Int) (nv : Value) : Prop :=
  ∃ (T : TypeId) (x : Value) (f : FuncId), nv = .iface T x ∧ (∀ W : World, (method 215 T x evName).run Try.prog W = .ok (f, x) W) ∧ (∀ (args : Array Value) (W : World), (callFunc f args).run Try.prog W = .ok (.enter f args) W) ∧ Ev f x zs z

set_option maxRecDepth 100000 in
theorem upon_method {f : FuncId} {T : TypeId} {x : Value} {nm : String} (hn : nm = evName) (hm : ∀ W : World, (method 215 T x evName).run Try.prog W = .ok (f, x) W) (W : World) :
    (method 215 T x nm).run Try.prog W = .ok (f, x) W := by subst hn; exact hm W

set_option maxHeartbeats 400000 in
set_option maxRecDepth 100000 in
theorem not_eval (zs : List Int) (z : Int) (nv : Value) (h : NodeIs zs z nv) : Ev 75 (.agg #[nv]) zs (tb (z == 0)) := by
  obtain ⟨T, x, f, rfl, hm, hc, he⟩ := h
  intro A b off cap w hV
  have HM := Lib.hid hm
  have HC := Lib.hid hc
  have HE := Lib.hid he
  have HV := Lib.hid hV
  clear hm hc he hV
  go_enter Try.func75, Try.ntmps75
  go_wp2_with fail
  rw [upon_method _ HM.out]
  rotate_left
  · kernel_rfl
  go_wp2_with fail
  rw [HC.out]
  go_wp2_with fail
  refine (HE.out A b off cap _ (HV.out.under ((Below.refl _ w).alloc (Nat.le_refl _) _))).mono ?_
  rintro e' w1 ⟨rfl, hb1⟩
  have HB1 : Hid (Below w.heap.size w w1) := boxed (hb1.mono (by simp))
  clear hb1
  go_wp2_with fail
  refine (tb_impl _ _).mono ?_
  rintro e' w2 ⟨rfl, rfl⟩
  go_wp2_with fail
  go_ret
  exact ⟨rfl, HB1.out⟩
set_option maxRecDepth 100000 in
theorem not_is (zs : List Int) (z : Int) (nv : Value) (h : NodeIs zs z nv) : NodeIs zs (tb (z == 0)) (.iface 82 (.agg #[nv])) :=
  ⟨82, _, 75, rfl, fun _ => by kernel_rfl, fun _ _ => by kernel_rfl, not_eval zs z nv h⟩

set_option maxHeartbeats 400000 in
set_option maxRecDepth 100000 in
theorem const_is (zs : List Int) (z : Int) : NodeIs zs z (.iface 91 (.agg #[.int .i64 z])) := by
  refine ⟨91, _, 83, rfl, fun _ => by kernel_rfl, fun _ _ => by kernel_rfl, ?_⟩
  intro A b off cap w hV
  clear hV
  go_enter Try.func83, Try.ntmps83
  go_wp2_with fail
  go_ret
  exact ⟨rfl, (Below.refl _ _).alloc (Nat.le_refl _) _⟩

set_option maxHeartbeats 400000 in
set_option maxRecDepth 100000 in
theorem var_is (zs : List Int) (j : Nat) (hj : j < 3) : NodeIs zs (zs.getD j 0) (.iface 80 (.agg #[.int .i64 j])) := by
  refine ⟨80, _, 74, rfl, fun _ => by kernel_rfl, fun _ _ => by kernel_rfl, ?_⟩
  intro A b off cap w hV
  obtain ⟨rfl, hc⟩ := hV.cell (i := j) hj
  clear hV
  have hb : b < w.heap.size := World.block_lt_of_cell? w _ hc
  go_enter Try.func74, Try.ntmps74
  go_wp2_with fail
  go_ret
  exact ⟨rfl, (Below.refl _ _).alloc (Nat.le_refl _) _⟩

set_option maxHeartbeats 400000 in
set_option maxRecDepth 100000 in
theorem and_is (zs : List Int) (z1 z2 : Int) (n1 n2 : Value) (h1 : NodeIs zs z1 n1) (h2 : NodeIs zs z2 n2) : NodeIs zs (tb (z1 != 0 && z2 != 0)) (.iface 84 (.agg #[n1, n2])) := by
  refine ⟨84, _, 77, rfl, fun _ => by kernel_rfl, fun _ _ => by kernel_rfl, ?_⟩
  obtain ⟨T, x, f, rfl, hm, hc, he⟩ := h1
  obtain ⟨U, y, g, rfl, km, kc, ke⟩ := h2
  intro A b off cap w hV
  have HM := Lib.hid hm
  have HC := Lib.hid hc
  have HE := Lib.hid he
  have KM := Lib.hid km
  have KC := Lib.hid kc
  have KE := Lib.hid ke
  have HV1 := Lib.hid (hV.under ((Below.refl _ w).alloc (Nat.le_refl _) (.cells #[.iface T x, .iface U y] 84)))
  clear hm hc he km kc ke hV
  by_cases h0 : z1 = 0
  · have hb0 : (z1 != 0) = false := by simpa using h0
    have HT : Hid ((z1 != 0 && z2 != 0) = false) := by show _ = _; rw [hb0]; rfl
    go_enter Try.func77, Try.ntmps77
    go_wp2_with fail
    rw [upon_method _ HM.out]
    rotate_left
    · kernel_rfl
    go_wp2_with fail
    rw [HC.out]
    go_wp2_with fail
    refine (HE.out A b off cap _ HV1.out).mono ?_
    rintro e' w1 ⟨rfl, hb1⟩
    have HB1 : Hid (Below w.heap.size w w1) := boxed (hb1.mono (by simp))
    clear hb1
    go_wp2_with fail
    refine (tb_impl _ _).mono ?_
    rintro e' w2 ⟨rfl, rfl⟩
    go_wp2_with fail
    go_ret
    exact ⟨ret_int (by rw [HT.out]), HB1.out⟩
  · have hb0 : (z1 != 0) = true := by simpa using h0
    have HT : Hid ((z1 != 0 && z2 != 0) = (z2 != 0)) := by show _ = _; rw [hb0]; rfl
    go_enter Try.func77, Try.ntmps77
    go_wp2_with fail
    rw [upon_method _ HM.out]
    rotate_left
    · kernel_rfl
    go_wp2_with fail
    rw [HC.out]
    go_wp2_with fail
    refine (HE.out A b off cap _ HV1.out).mono ?_
    rintro e' w1 ⟨rfl, hb1⟩
    have HB1 : Hid (Below (w.heap.size + 1) (w.alloc (.cells #[.iface T x, .iface U y] 84)) w1) := hb1.mono (by simp)
    have HV2 := Lib.hid (HV1.out.under hb1)
    have q1 : w1.cell? ⟨w.heap.size, 1, none⟩ = some (.iface U y) := by simpa using boxed_cell HB1.out 1
    clear hb1
    go_wp2_with fail
    rw [upon_method _ KM.out]
    rotate_left
    · kernel_rfl
    go_wp2_with fail
    rw [KC.out]
    go_wp2_with fail
    refine (KE.out A b off cap _ HV2.out).mono ?_
    rintro e' w2 ⟨rfl, hb2⟩
    have HB2 : Hid (Below w.heap.size w w2) := (boxed HB1.out).trans (hb2.mono (boxed HB1.out).size)
    clear hb2
    go_wp2_with fail
    refine (tb_impl _ _).mono ?_
    rintro e' w3 ⟨rfl, rfl⟩
    go_wp2_with fail
    go_ret
    exact ⟨ret_int (by rw [HT.out]), HB2.out⟩

set_option maxHeartbeats 400000 in
set_option maxRecDepth 100000 in
theorem or_is (zs : List Int) (z1 z2 : Int) (n1 n2 : Value) (h1 : NodeIs zs z1 n1) (h2 : NodeIs zs z2 n2) : NodeIs zs (tb (z1 != 0 || z2 != 0)) (.iface 85 (.agg #[n1, n2])) := by
  refine ⟨85, _, 78, rfl, fun _ => by kernel_rfl, fun _ _ => by kernel_rfl, ?_⟩
  obtain ⟨T, x, f, rfl, hm, hc, he⟩ := h1
  obtain ⟨U, y, g, rfl, km, kc, ke⟩ := h2
  intro A b off cap w hV
  have HM := Lib.hid hm
  have HC := Lib.hid hc
  have HE := Lib.hid he
  have KM := Lib.hid km
  have KC := Lib.hid kc
  have KE := Lib.hid ke
  have HV1 := Lib.hid (hV.under ((Below.refl _ w).alloc (Nat.le_refl _) (.cells #[.iface T x, .iface U y] 85)))
  clear hm hc he km kc ke hV
  by_cases h0 : z1 = 0
  · have hb0 : (z1 != 0) = false := by simpa using h0
    have HT : Hid ((z1 != 0 || z2 != 0) = (z2 != 0)) := by show _ = _; rw [hb0]; rfl
    go_enter Try.func78, Try.ntmps78
    go_wp2_with fail
    rw [upon_method _ HM.out]
    rotate_left
    · kernel_rfl
    go_wp2_with fail
    rw [HC.out]
    go_wp2_with fail
    refine (HE.out A b off cap _ HV1.out).mono ?_
    rintro e' w1 ⟨rfl, hb1⟩
    have HB1 : Hid (Below (w.heap.size + 1) (w.alloc (.cells #[.iface T x, .iface U y] 85)) w1) := hb1.mono (by simp)
    have HV2 := Lib.hid (HV1.out.under hb1)
    have q1 : w1.cell? ⟨w.heap.size, 1, none⟩ = some (.iface U y) := by simpa using boxed_cell HB1.out 1
    clear hb1
    go_wp2_with fail
    rw [upon_method _ KM.out]
    rotate_left
    · kernel_rfl
    go_wp2_with fail
    rw [KC.out]
    go_wp2_with fail
    refine (KE.out A b off cap _ HV2.out).mono ?_
    rintro e' w2 ⟨rfl, hb2⟩
    have HB2 : Hid (Below w.heap.size w w2) := (boxed HB1.out).trans (hb2.mono (boxed HB1.out).size)
    clear hb2
    go_wp2_with fail
    refine (tb_impl _ _).mono ?_
    rintro e' w3 ⟨rfl, rfl⟩
    go_wp2_with fail
    go_ret
    exact ⟨ret_int (by rw [HT.out]), HB2.out⟩
  · have hb0 : (z1 != 0) = true := by simpa using h0
    have HT : Hid ((z1 != 0 || z2 != 0) = true) := by show _ = _; rw [hb0]; rfl
    go_enter Try.func78, Try.ntmps78
    go_wp2_with fail
    rw [upon_method _ HM.out]
    rotate_left
    · kernel_rfl
    go_wp2_with fail
    rw [HC.out]
    go_wp2_with fail
    refine (HE.out A b off cap _ HV1.out).mono ?_
    rintro e' w1 ⟨rfl, hb1⟩
    have HB1 : Hid (Below w.heap.size w w1) := boxed (hb1.mono (by simp))
    clear hb1
    go_wp2_with fail
    refine (tb_impl _ _).mono ?_
    rintro e' w2 ⟨rfl, rfl⟩
    go_wp2_with fail
    go_ret
    exact ⟨ret_int (by rw [HT.out]), HB1.out⟩

end Go.Proofs.Ytkcgjgdcmdjcfaa

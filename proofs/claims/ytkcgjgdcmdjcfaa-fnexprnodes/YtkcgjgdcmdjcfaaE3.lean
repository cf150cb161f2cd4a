/- The walks of the four eval methods whose operands are evaluated in an order that Go leaves open. -/
import Derived.Test.YtkcgjgdcmdjcfaaE2
import Derived.Deep.RegionWith
namespace Go.Proofs.Ytkcgjgdcmdjcfaa
open Go.RowKit

theorem Ev.call {f : FuncId} {x : Value} {zs : List Int} {z : Int} (h : Ev f x zs z) (A : Option Addr) (b off cap : Nat) (w : World) (hV : Vals w A b off zs) :
    Calls Try.prog f #[x, .slice A 3 cap] w fun e' w' => e' = .returned (.int .i64 z) ∧ Below w.heap.size w w' := h A b off cap w hV

set_option maxHeartbeats 400000 in
set_option maxRecDepth 100000 in
theorem add_is (zs : List Int) (z1 z2 : Int) (n1 n2 : Value) (h1 : NodeIs zs z1 n1) (h2 : NodeIs zs z2 n2) (hr1 : 0 ≤ z1 ∧ z1 ≤ 3) (hr2 : 0 ≤ z2 ∧ z2 ≤ 3) : NodeIs zs ((z1 + z2) % 4) (.iface 88 (.agg #[n1, n2])) := by
  refine ⟨88, _, 81, rfl, fun _ => by kernel_rfl, fun _ _ => by kernel_rfl, ?_⟩
  obtain ⟨T, x, f, rfl, hm, hc, he⟩ := h1
  obtain ⟨U, y, g, rfl, km, kc, ke⟩ := h2
  obtain ⟨hr10, hr11⟩ := hr1
  obtain ⟨hr20, hr21⟩ := hr2
  intro A b off cap w hV
  have HE := Lib.hid he
  have KE := Lib.hid ke
  have HV1 : Hid (Vals (w.alloc (.cells #[.iface T x, .iface U y] 88)).drew A b off zs) := hV.under (((Below.refl _ w).alloc (Nat.le_refl _) (.cells #[.iface T x, .iface U y] 88)).drew)
  clear he ke hV
  go_enter Try.func81, Try.ntmps81
  go_wp2_with fail
  generalize hs : Callee.invoke (Operand.tmp 6) _ = C
  have hq : C = Callee.invoke (Operand.tmp 6) evName := by rw [← hs]; kernel_rfl
  rw [← hs] at hq
  injection hq with _ hn
  subst hs
  rw [← hn] at hm km
  clear hn
  have e1 : IntKind.i64.wrap (z1 + z2) = z1 + z2 := IntWalk.i64_in _ (by omega)
  have e2 : (z1 + z2).tmod 4 = (z1 + z2) % 4 := Int.tmod_eq_emod_of_nonneg (by omega)
  have e3 : IntKind.i64.wrap ((z1 + z2) % 4) = (z1 + z2) % 4 := IntWalk.i64_in _ (by omega)
  go_region_with (first
    | ((with_reducible refine (Ev.call HE.out A b off cap _ HV1.out).mono ?_)
       rintro e' w1 ⟨rfl, hb1⟩
       have HB1 : Hid (Below (w.heap.size + 1) (w.alloc (.cells #[.iface T x, .iface U y] 88)) w1) := ((Below.refl _ _).drew).trans (hb1.mono (by simp))
       have HV2 := Lib.hid (HV1.out.under hb1)
       have q1 : w1.cell? ⟨w.heap.size, 1, none⟩ = some (.iface U y) := by simpa using boxed_cell HB1.out 1
       clear hb1)
    | ((with_reducible refine (Ev.call KE.out A b off cap _ HV2.out).mono ?_)
       rintro e' w2 ⟨rfl, hb2⟩
       have HB2 : Hid (Below w.heap.size w w2) := (boxed HB1.out).trans (hb2.mono (boxed HB1.out).size)
       clear hb2))
  all_goals
    (go_wp2_with fail
     go_ret
     refine ⟨?_, HB2.out⟩
     simp [go_sem, Act.put, *]
     done)

set_option maxHeartbeats 400000 in
set_option maxRecDepth 100000 in
theorem sub_is (zs : List Int) (z1 z2 : Int) (n1 n2 : Value) (h1 : NodeIs zs z1 n1) (h2 : NodeIs zs z2 n2) (hr1 : 0 ≤ z1 ∧ z1 ≤ 3) (hr2 : 0 ≤ z2 ∧ z2 ≤ 3) : NodeIs zs ((z1 - z2 + 3 + 1) % 4) (.iface 89 (.agg #[n1, n2])) := by
  refine ⟨89, _, 82, rfl, fun _ => by kernel_rfl, fun _ _ => by kernel_rfl, ?_⟩
  obtain ⟨T, x, f, rfl, hm, hc, he⟩ := h1
  obtain ⟨U, y, g, rfl, km, kc, ke⟩ := h2
  obtain ⟨hr10, hr11⟩ := hr1
  obtain ⟨hr20, hr21⟩ := hr2
  intro A b off cap w hV
  have HE := Lib.hid he
  have KE := Lib.hid ke
  have HV1 : Hid (Vals (w.alloc (.cells #[.iface T x, .iface U y] 89)).drew A b off zs) := hV.under (((Below.refl _ w).alloc (Nat.le_refl _) (.cells #[.iface T x, .iface U y] 89)).drew)
  clear he ke hV
  go_enter Try.func82, Try.ntmps82
  go_wp2_with fail
  generalize hs : Callee.invoke (Operand.tmp 6) _ = C
  have hq : C = Callee.invoke (Operand.tmp 6) evName := by rw [← hs]; kernel_rfl
  rw [← hs] at hq
  injection hq with _ hn
  subst hs
  rw [← hn] at hm km
  clear hn
  have e1 : IntKind.i64.wrap (z1 - z2) = z1 - z2 := IntWalk.i64_in _ (by omega)
  have e2 : IntKind.i64.wrap (z1 - z2 + 3) = z1 - z2 + 3 := IntWalk.i64_in _ (by omega)
  have e3 : IntKind.i64.wrap (z1 - z2 + 3 + 1) = z1 - z2 + 3 + 1 := IntWalk.i64_in _ (by omega)
  have e4 : (z1 - z2 + 3 + 1).tmod 4 = (z1 - z2 + 3 + 1) % 4 := Int.tmod_eq_emod_of_nonneg (by omega)
  have e5 : IntKind.i64.wrap ((z1 - z2 + 3 + 1) % 4) = (z1 - z2 + 3 + 1) % 4 := IntWalk.i64_in _ (by omega)
  go_region_with (first
    | ((with_reducible refine (Ev.call HE.out A b off cap _ HV1.out).mono ?_)
       rintro e' w1 ⟨rfl, hb1⟩
       have HB1 : Hid (Below (w.heap.size + 1) (w.alloc (.cells #[.iface T x, .iface U y] 89)) w1) := ((Below.refl _ _).drew).trans (hb1.mono (by simp))
       have HV2 := Lib.hid (HV1.out.under hb1)
       have q1 : w1.cell? ⟨w.heap.size, 1, none⟩ = some (.iface U y) := by simpa using boxed_cell HB1.out 1
       clear hb1)
    | ((with_reducible refine (Ev.call KE.out A b off cap _ HV2.out).mono ?_)
       rintro e' w2 ⟨rfl, hb2⟩
       have HB2 : Hid (Below w.heap.size w w2) := (boxed HB1.out).trans (hb2.mono (boxed HB1.out).size)
       clear hb2))
  all_goals
    (go_wp2_with fail
     go_ret
     refine ⟨?_, HB2.out⟩
     simp [go_sem, Act.put, *]
     done)

end Go.Proofs.Ytkcgjgdcmdjcfaa

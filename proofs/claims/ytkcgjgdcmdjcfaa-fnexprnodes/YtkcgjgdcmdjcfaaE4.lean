/- The walks of two eval methods that compare; their operands are evaluated in an order that Go leaves open. -/
import Derived.Test.YtkcgjgdcmdjcfaaE3
namespace Go.Proofs.Ytkcgjgdcmdjcfaa
open Go.RowKit

set_option maxHeartbeats 400000 in
set_option maxRecDepth 100000 in
theorem equal_is (zs : List Int) (z1 z2 : Int) (n1 n2 : Value) (h1 : NodeIs zs z1 n1) (h2 : NodeIs zs z2 n2) : NodeIs zs (tb (z1 == z2)) (.iface 86 (.agg #[n1, n2])) := by
  refine ⟨86, _, 79, rfl, fun _ => by kernel_rfl, fun _ _ => by kernel_rfl, ?_⟩
  obtain ⟨T, x, f, rfl, hm, hc, he⟩ := h1
  obtain ⟨U, y, g, rfl, km, kc, ke⟩ := h2
  intro A b off cap w hV
  have HE := Lib.hid he
  have KE := Lib.hid ke
  have HV1 : Hid (Vals (w.alloc (.cells #[.iface T x, .iface U y] 86)).drew A b off zs) := hV.under (((Below.refl _ w).alloc (Nat.le_refl _) (.cells #[.iface T x, .iface U y] 86)).drew)
  clear he ke hV
  go_enter Try.func79, Try.ntmps79
  go_wp2_with fail
  generalize hs : Callee.invoke (Operand.tmp 6) _ = C
  have hq : C = Callee.invoke (Operand.tmp 6) evName := by rw [← hs]; kernel_rfl
  rw [← hs] at hq
  injection hq with _ hn
  subst hs
  rw [← hn] at hm km
  clear hn
  go_region_with (first
    | ((with_reducible refine (Ev.call HE.out A b off cap _ HV1.out).mono ?_)
       rintro e' w1 ⟨rfl, hb1⟩
       have HB1 : Hid (Below (w.heap.size + 1) (w.alloc (.cells #[.iface T x, .iface U y] 86)) w1) := ((Below.refl _ _).drew).trans (hb1.mono (by simp))
       have HV2 := Lib.hid (HV1.out.under hb1)
       have q1 : w1.cell? ⟨w.heap.size, 1, none⟩ = some (.iface U y) := by simpa using boxed_cell HB1.out 1
       clear hb1)
    | ((with_reducible refine (Ev.call KE.out A b off cap _ HV2.out).mono ?_)
       rintro e' w2 ⟨rfl, hb2⟩
       have HB2 : Hid (Below w.heap.size w w2) := (boxed HB1.out).trans (hb2.mono (boxed HB1.out).size)
       clear hb2)
    | (go_at_call 76
       refine (tb_impl _ _).mono ?_
       rintro e' w3 ⟨rfl, rfl⟩))
  all_goals
    (go_wp2_with fail
     go_ret
     exact ⟨rfl, HB2.out⟩)

set_option maxHeartbeats 400000 in
set_option maxRecDepth 100000 in
theorem less_is (zs : List Int) (z1 z2 : Int) (n1 n2 : Value) (h1 : NodeIs zs z1 n1) (h2 : NodeIs zs z2 n2) : NodeIs zs (tb (decide (z1 < z2))) (.iface 87 (.agg #[n1, n2])) := by
  refine ⟨87, _, 80, rfl, fun _ => by kernel_rfl, fun _ _ => by kernel_rfl, ?_⟩
  obtain ⟨T, x, f, rfl, hm, hc, he⟩ := h1
  obtain ⟨U, y, g, rfl, km, kc, ke⟩ := h2
  intro A b off cap w hV
  have HE := Lib.hid he
  have KE := Lib.hid ke
  have HV1 : Hid (Vals (w.alloc (.cells #[.iface T x, .iface U y] 87)).drew A b off zs) := hV.under (((Below.refl _ w).alloc (Nat.le_refl _) (.cells #[.iface T x, .iface U y] 87)).drew)
  clear he ke hV
  go_enter Try.func80, Try.ntmps80
  go_wp2_with fail
  generalize hs : Callee.invoke (Operand.tmp 6) _ = C
  have hq : C = Callee.invoke (Operand.tmp 6) evName := by rw [← hs]; kernel_rfl
  rw [← hs] at hq
  injection hq with _ hn
  subst hs
  rw [← hn] at hm km
  clear hn
  go_region_with (first
    | ((with_reducible refine (Ev.call HE.out A b off cap _ HV1.out).mono ?_)
       rintro e' w1 ⟨rfl, hb1⟩
       have HB1 : Hid (Below (w.heap.size + 1) (w.alloc (.cells #[.iface T x, .iface U y] 87)) w1) := ((Below.refl _ _).drew).trans (hb1.mono (by simp))
       have HV2 := Lib.hid (HV1.out.under hb1)
       have q1 : w1.cell? ⟨w.heap.size, 1, none⟩ = some (.iface U y) := by simpa using boxed_cell HB1.out 1
       clear hb1)
    | ((with_reducible refine (Ev.call KE.out A b off cap _ HV2.out).mono ?_)
       rintro e' w2 ⟨rfl, hb2⟩
       have HB2 : Hid (Below w.heap.size w w2) := (boxed HB1.out).trans (hb2.mono (boxed HB1.out).size)
       clear hb2)
    | (go_at_call 76
       refine (tb_impl _ _).mono ?_
       rintro e' w3 ⟨rfl, rfl⟩))
  all_goals
    (go_wp2_with fail
     go_ret
     exact ⟨rfl, HB2.out⟩)

end Go.Proofs.Ytkcgjgdcmdjcfaa

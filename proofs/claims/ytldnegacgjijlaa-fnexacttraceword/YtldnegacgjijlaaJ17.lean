/- Joined texts: E3, E4, E5. Nothing is assumed. -/
import Derived.Test.YtldnegacgjijlaaE2Q
import Derived.Deep.RegionWith
namespace Go.Proofs.Ytldnegacgjijlaa
open Go.RowKit

theorem Ev.call {f : FuncId} {x : Value} {zs : List Int} {z : Int} (h : Ev f x zs z) (A : Option Addr) (b off cap : Nat) (w : World) (hV : Vals w A b off zs) :
    Calls Try.prog f #[x, .slice A 3 cap] w fun e' w' => e' = .returned (.int .i64 z) ∧ Below w.heap.size w w' := h A b off cap w hV

set_option maxHeartbeats 400000 in
set_option maxRecDepth 100000 in
theorem add_is (zs : List Int) (z1 z2 : Int) (n1 n2 : Value) (h1 : NodeIs zs z1 n1) (h2 : NodeIs zs z2 n2) (hr1 : 0 ≤ z1 ∧ z1 ≤ 3) (hr2 : 0 ≤ z2 ∧ z2 ≤ 3) : NodeIs zs ((z1 + z2) % 4) (.iface 223 (.agg #[n1, n2])) := by
  refine ⟨223, _, 189, rfl, fun _ => by kernel_rfl, fun _ _ => by kernel_rfl, ?_⟩
  obtain ⟨T, x, f, rfl, hm, hc, he⟩ := h1
  obtain ⟨U, y, g, rfl, km, kc, ke⟩ := h2
  obtain ⟨hr10, hr11⟩ := hr1
  obtain ⟨hr20, hr21⟩ := hr2
  intro A b off cap w hV
  have HE := Lib.hid he
  have KE := Lib.hid ke
  have HV1 : Hid (Vals (w.alloc (.cells #[.iface T x, .iface U y] 223)).drew A b off zs) := hV.under (((Below.refl _ w).alloc (Nat.le_refl _) (.cells #[.iface T x, .iface U y] 223)).drew)
  clear he ke hV
  go_enter Try.func189, Try.ntmps189
  go_wp2_with fail
  generalize hs : Callee.invoke (Operand.tmp 6) _ = C
  have hq : C = Callee.invoke (Operand.tmp 6) evName := by rw [← hs]; kernel_rfl
  rw [← hs] at hq
  injection hq with _ hn
  subst hs
  rw [← hn] at hm km
  clear hn
  have e1 : IntKind.i64.wrap (z1 + z2) = z1 + z2 := IntWalk.i64_in _ (by omega)
  have e2 : (z1 + z2).tmod 4 = (z1 + z2) % 4 := Int.tmod_eq_emod_of_nonneg (by omega)
  have e3 : IntKind.i64.wrap ((z1 + z2) % 4) = (z1 + z2) % 4 := IntWalk.i64_in _ (by omega)
  go_region_with (first
    | ((with_reducible refine (Ev.call HE.out A b off cap _ HV1.out).mono ?_)
       rintro e' w1 ⟨rfl, hb1⟩
       have HB1 : Hid (Below (w.heap.size + 1) (w.alloc (.cells #[.iface T x, .iface U y] 223)) w1) := ((Below.refl _ _).drew).trans (hb1.mono (by simp))
       have HV2 := Lib.hid (HV1.out.under hb1)
       have q1 : w1.cell? ⟨w.heap.size, 1, none⟩ = some (.iface U y) := by simpa using boxed_cell HB1.out 1
       clear hb1)
    | ((with_reducible refine (Ev.call KE.out A b off cap _ HV2.out).mono ?_)
       rintro e' w2 ⟨rfl, hb2⟩
       have HB2 : Hid (Below w.heap.size w w2) := (boxed HB1.out).trans (hb2.mono (boxed HB1.out).size)
       clear hb2))
  all_goals
    (go_wp2_with fail
     go_ret
     refine ⟨?_, HB2.out⟩
     simp [go_sem, Act.put, *]
     done)

set_option maxHeartbeats 400000 in
set_option maxRecDepth 100000 in
theorem sub_is (zs : List Int) (z1 z2 : Int) (n1 n2 : Value) (h1 : NodeIs zs z1 n1) (h2 : NodeIs zs z2 n2) (hr1 : 0 ≤ z1 ∧ z1 ≤ 3) (hr2 : 0 ≤ z2 ∧ z2 ≤ 3) : NodeIs zs ((z1 - z2 + 3 + 1) % 4) (.iface 224 (.agg #[n1, n2])) := by
  refine ⟨224, _, 190, rfl, fun _ => by kernel_rfl, fun _ _ => by kernel_rfl, ?_⟩
  obtain ⟨T, x, f, rfl, hm, hc, he⟩ := h1
  obtain ⟨U, y, g, rfl, km, kc, ke⟩ := h2
  obtain ⟨hr10, hr11⟩ := hr1
  obtain ⟨hr20, hr21⟩ := hr2
  intro A b off cap w hV
  have HE := Lib.hid he
  have KE := Lib.hid ke
  have HV1 : Hid (Vals (w.alloc (.cells #[.iface T x, .iface U y] 224)).drew A b off zs) := hV.under (((Below.refl _ w).alloc (Nat.le_refl _) (.cells #[.iface T x, .iface U y] 224)).drew)
  clear he ke hV
  go_enter Try.func190, Try.ntmps190
  go_wp2_with fail
  generalize hs : Callee.invoke (Operand.tmp 6) _ = C
  have hq : C = Callee.invoke (Operand.tmp 6) evName := by rw [← hs]; kernel_rfl
  rw [← hs] at hq
  injection hq with _ hn
  subst hs
  rw [← hn] at hm km
  clear hn
  have e1 : IntKind.i64.wrap (z1 - z2) = z1 - z2 := IntWalk.i64_in _ (by omega)
  have e2 : IntKind.i64.wrap (z1 - z2 + 3) = z1 - z2 + 3 := IntWalk.i64_in _ (by omega)
  have e3 : IntKind.i64.wrap (z1 - z2 + 3 + 1) = z1 - z2 + 3 + 1 := IntWalk.i64_in _ (by omega)
  have e4 : (z1 - z2 + 3 + 1).tmod 4 = (z1 - z2 + 3 + 1) % 4 := Int.tmod_eq_emod_of_nonneg (by omega)
  have e5 : IntKind.i64.wrap ((z1 - z2 + 3 + 1) % 4) = (z1 - z2 + 3 + 1) % 4 := IntWalk.i64_in _ (by omega)
  go_region_with (first
    | ((with_reducible refine (Ev.call HE.out A b off cap _ HV1.out).mono ?_)
       rintro e' w1 ⟨rfl, hb1⟩
       have HB1 : Hid (Below (w.heap.size + 1) (w.alloc (.cells #[.iface T x, .iface U y] 224)) w1) := ((Below.refl _ _).drew).trans (hb1.mono (by simp))
       have HV2 := Lib.hid (HV1.out.under hb1)
       have q1 : w1.cell? ⟨w.heap.size, 1, none⟩ = some (.iface U y) := by simpa using boxed_cell HB1.out 1
       clear hb1)
    | ((with_reducible refine (Ev.call KE.out A b off cap _ HV2.out).mono ?_)
       rintro e' w2 ⟨rfl, hb2⟩
       have HB2 : Hid (Below w.heap.size w w2) := (boxed HB1.out).trans (hb2.mono (boxed HB1.out).size)
       clear hb2))
  all_goals
    (go_wp2_with fail
     go_ret
     refine ⟨?_, HB2.out⟩
     simp [go_sem, Act.put, *]
     done)

end Go.Proofs.Ytldnegacgjijlaa
namespace Go.Proofs.Ytldnegacgjijlaa
open Go.RowKit

set_option maxHeartbeats 400000 in
set_option maxRecDepth 100000 in
theorem equal_is (zs : List Int) (z1 z2 : Int) (n1 n2 : Value) (h1 : NodeIs zs z1 n1) (h2 : NodeIs zs z2 n2) : NodeIs zs (tb (z1 == z2)) (.iface 221 (.agg #[n1, n2])) := by
  refine ⟨221, _, 187, rfl, fun _ => by kernel_rfl, fun _ _ => by kernel_rfl, ?_⟩
  obtain ⟨T, x, f, rfl, hm, hc, he⟩ := h1
  obtain ⟨U, y, g, rfl, km, kc, ke⟩ := h2
  intro A b off cap w hV
  have HE := Lib.hid he
  have KE := Lib.hid ke
  have HV1 : Hid (Vals (w.alloc (.cells #[.iface T x, .iface U y] 221)).drew A b off zs) := hV.under (((Below.refl _ w).alloc (Nat.le_refl _) (.cells #[.iface T x, .iface U y] 221)).drew)
  clear he ke hV
  go_enter Try.func187, Try.ntmps187
  go_wp2_with fail
  generalize hs : Callee.invoke (Operand.tmp 6) _ = C
  have hq : C = Callee.invoke (Operand.tmp 6) evName := by rw [← hs]; kernel_rfl
  rw [← hs] at hq
  injection hq with _ hn
  subst hs
  rw [← hn] at hm km
  clear hn
  go_region_with (first
    | ((with_reducible refine (Ev.call HE.out A b off cap _ HV1.out).mono ?_)
       rintro e' w1 ⟨rfl, hb1⟩
       have HB1 : Hid (Below (w.heap.size + 1) (w.alloc (.cells #[.iface T x, .iface U y] 221)) w1) := ((Below.refl _ _).drew).trans (hb1.mono (by simp))
       have HV2 := Lib.hid (HV1.out.under hb1)
       have q1 : w1.cell? ⟨w.heap.size, 1, none⟩ = some (.iface U y) := by simpa using boxed_cell HB1.out 1
       clear hb1)
    | ((with_reducible refine (Ev.call KE.out A b off cap _ HV2.out).mono ?_)
       rintro e' w2 ⟨rfl, hb2⟩
       have HB2 : Hid (Below w.heap.size w w2) := (boxed HB1.out).trans (hb2.mono (boxed HB1.out).size)
       clear hb2)
    | (go_at_call 184
       refine (tb_impl _ _).mono ?_
       rintro e' w3 ⟨rfl, rfl⟩))
  all_goals
    (go_wp2_with fail
     go_ret
     exact ⟨rfl, HB2.out⟩)

set_option maxHeartbeats 400000 in
set_option maxRecDepth 100000 in
theorem less_is (zs : List Int) (z1 z2 : Int) (n1 n2 : Value) (h1 : NodeIs zs z1 n1) (h2 : NodeIs zs z2 n2) : NodeIs zs (tb (decide (z1 < z2))) (.iface 222 (.agg #[n1, n2])) := by
  refine ⟨222, _, 188, rfl, fun _ => by kernel_rfl, fun _ _ => by kernel_rfl, ?_⟩
  obtain ⟨T, x, f, rfl, hm, hc, he⟩ := h1
  obtain ⟨U, y, g, rfl, km, kc, ke⟩ := h2
  intro A b off cap w hV
  have HE := Lib.hid he
  have KE := Lib.hid ke
  have HV1 : Hid (Vals (w.alloc (.cells #[.iface T x, .iface U y] 222)).drew A b off zs) := hV.under (((Below.refl _ w).alloc (Nat.le_refl _) (.cells #[.iface T x, .iface U y] 222)).drew)
  clear he ke hV
  go_enter Try.func188, Try.ntmps188
  go_wp2_with fail
  generalize hs : Callee.invoke (Operand.tmp 6) _ = C
  have hq : C = Callee.invoke (Operand.tmp 6) evName := by rw [← hs]; kernel_rfl
  rw [← hs] at hq
  injection hq with _ hn
  subst hs
  rw [← hn] at hm km
  clear hn
  go_region_with (first
    | ((with_reducible refine (Ev.call HE.out A b off cap _ HV1.out).mono ?_)
       rintro e' w1 ⟨rfl, hb1⟩
       have HB1 : Hid (Below (w.heap.size + 1) (w.alloc (.cells #[.iface T x, .iface U y] 222)) w1) := ((Below.refl _ _).drew).trans (hb1.mono (by simp))
       have HV2 := Lib.hid (HV1.out.under hb1)
       have q1 : w1.cell? ⟨w.heap.size, 1, none⟩ = some (.iface U y) := by simpa using boxed_cell HB1.out 1
       clear hb1)
    | ((with_reducible refine (Ev.call KE.out A b off cap _ HV2.out).mono ?_)
       rintro e' w2 ⟨rfl, hb2⟩
       have HB2 : Hid (Below w.heap.size w w2) := (boxed HB1.out).trans (hb2.mono (boxed HB1.out).size)
       clear hb2)
    | (go_at_call 184
       refine (tb_impl _ _).mono ?_
       rintro e' w3 ⟨rfl, rfl⟩))
  all_goals
    (go_wp2_with fail
     go_ret
     exact ⟨rfl, HB2.out⟩)

end Go.Proofs.Ytldnegacgjijlaa
namespace Go.Proofs.Ytldnegacgjijlaa
open Go.RowKit

theorem NodeIs.form {zs : List Int} {z : Int} {nv : Value} (h : NodeIs zs z nv) : ∃ T x, nv = .iface T x := by
  obtain ⟨T, x, _, rfl, _⟩ := h
  exact ⟨T, x, rfl⟩

/-- What newNode leaves. -/
def NewPost (zs : List Int) (z : Int) (w : World) (e' : Ending) (w' : World) : Prop := ∃ nv, e' = .returned nv ∧ NodeIs zs z nv ∧ Below w.heap.size w w'

set_option maxHeartbeats 400000 in
theorem new_const (zs : List Int) (v : Int) (A : Option Addr) (n cap : Nat) (S : Value) (w : World) : Calls Try.prog 146 #[.agg #[.int .i64 1, .int .i64 v, .slice A n cap], S] w (NewPost zs v w) := by
  go_enter Try.func146, Try.ntmps146
  go_wp2_with fail
  go_ret
  exact ⟨_, rfl, const_is zs v, (Below.refl _ _).alloc (Nat.le_refl _) _⟩

set_option maxHeartbeats 400000 in
theorem new_var (zs : List Int) (j : Nat) (hj : j < 3) (A : Option Addr) (n cap : Nat) (S : Value) (w : World) : Calls Try.prog 146 #[.agg #[.int .i64 2, .int .i64 j, .slice A n cap], S] w (NewPost zs (zs.getD j 0) w) := by
  go_enter Try.func146, Try.ntmps146
  go_wp2_with fail
  go_ret
  exact ⟨_, rfl, var_is zs j hj, (Below.refl _ _).alloc (Nat.le_refl _) _⟩

set_option maxHeartbeats 400000 in
theorem new_not (zs : List Int) (z1 : Int) (n1 : Value) (A : Option Addr) (n cap g cp : Nat) (w : World) (hg : g < w.heap.size) (hc : w.cell? ⟨g, 0, none⟩ = some n1) (h : NodeIs zs z1 n1) :
    Calls Try.prog 146 #[.agg #[.int .i64 3, .int .i64 0, .slice A n cap], .slice (some ⟨g, 0, none⟩) 1 cp] w (NewPost zs (tb (z1 == 0)) w) := by
  obtain ⟨T, x, rfl⟩ := h.form
  have H := Lib.hid h
  clear h
  go_enter Try.func146, Try.ntmps146
  go_wp2_with fail
  go_ret
  exact ⟨_, rfl, not_is zs z1 _ H.out, (Below.refl _ _).alloc (Nat.le_refl _) _⟩

set_option maxHeartbeats 1000000 in
set_option maxRecDepth 100000 in
theorem new_two (zs : List Int) (k z1 z2 : Int) (n1 n2 : Value) (A : Option Addr) (n cap g cp : Nat) (w : World) (hg : g < w.heap.size) (hc1 : w.cell? ⟨g, 0, none⟩ = some n1) (hc2 : w.cell? ⟨g, 1, none⟩ = some n2) (h1 : NodeIs zs z1 n1) (h2 : NodeIs zs z2 n2)
    (hr1 : 0 ≤ z1 ∧ z1 ≤ 3) (hr2 : 0 ≤ z2 ∧ z2 ≤ 3) (h4 : 4 ≤ k) (h9 : k ≤ 9) :
    Calls Try.prog 146 #[.agg #[.int .i64 k, .int .i64 0, .slice A n cap], .slice (some ⟨g, 0, none⟩) 2 cp] w (NewPost zs (op k 0 zs z1 z2) w) := by
  obtain ⟨T, x, rfl⟩ := h1.form
  obtain ⟨U, y, rfl⟩ := h2.form
  have H1 := Lib.hid h1
  have H2 := Lib.hid h2
  have R1 := Lib.hid hr1
  have R2 := Lib.hid hr2
  have hk : k = 4 ∨ k = 5 ∨ k = 6 ∨ k = 7 ∨ k = 8 ∨ k = 9 := by omega
  clear h1 h2 hr1 hr2 h4 h9
  rcases hk with rfl | rfl | rfl | rfl | rfl | rfl
  all_goals
    (go_enter Try.func146, Try.ntmps146
     go_wp2_with fail
     go_quiet (fail)
     go_wp2_with fail
     go_ret)
  · rw [op4]; exact ⟨_, rfl, and_is zs _ _ _ _ H1.out H2.out, below_drewN ((Below.refl _ _).alloc (Nat.le_refl _) _) _⟩
  · rw [op5]; exact ⟨_, rfl, or_is zs _ _ _ _ H1.out H2.out, below_drewN ((Below.refl _ _).alloc (Nat.le_refl _) _) _⟩
  · rw [op6]; exact ⟨_, rfl, equal_is zs _ _ _ _ H1.out H2.out, below_drewN ((Below.refl _ _).alloc (Nat.le_refl _) _) _⟩
  · rw [op7]; exact ⟨_, rfl, less_is zs _ _ _ _ H1.out H2.out, below_drewN ((Below.refl _ _).alloc (Nat.le_refl _) _) _⟩
  · rw [op8]; exact ⟨_, rfl, add_is zs _ _ _ _ H1.out H2.out R1.out R2.out, below_drewN ((Below.refl _ _).alloc (Nat.le_refl _) _) _⟩
  · rw [op9]; exact ⟨_, rfl, sub_is zs _ _ _ _ H1.out H2.out R1.out R2.out, below_drewN ((Below.refl _ _).alloc (Nat.le_refl _) _) _⟩

end Go.Proofs.Ytldnegacgjijlaa

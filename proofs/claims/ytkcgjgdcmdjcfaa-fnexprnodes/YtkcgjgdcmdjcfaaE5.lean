/- The walks of impl.newNode and of the fold that builds the nodes. -/
import Derived.Test.YtkcgjgdcmdjcfaaE4
namespace Go.Proofs.Ytkcgjgdcmdjcfaa
open Go.RowKit

theorem NodeIs.form {zs : List Int} {z : Int} {nv : Value} (h : NodeIs zs z nv) : ∃ T x, nv = .iface T x := by
  obtain ⟨T, x, _, rfl, _⟩ := h
  exact ⟨T, x, rfl⟩

/-- What newNode leaves. -/
def NewPost (zs : List Int) (z : Int) (w : World) (e' : Ending) (w' : World) : Prop := ∃ nv, e' = .returned nv ∧ NodeIs zs z nv ∧ Below w.heap.size w w'

set_option maxHeartbeats 400000 in
theorem new_const (zs : List Int) (v : Int) (A : Option Addr) (n cap : Nat) (S : Value) (w : World) : Calls Try.prog 31 #[.agg #[.int .i64 1, .int .i64 v, .slice A n cap], S] w (NewPost zs v w) := by
  go_enter Try.func31, Try.ntmps31
  go_wp2_with fail
  go_ret
  exact ⟨_, rfl, const_is zs v, (Below.refl _ _).alloc (Nat.le_refl _) _⟩

set_option maxHeartbeats 400000 in
theorem new_var (zs : List Int) (j : Nat) (hj : j < 3) (A : Option Addr) (n cap : Nat) (S : Value) (w : World) : Calls Try.prog 31 #[.agg #[.int .i64 2, .int .i64 j, .slice A n cap], S] w (NewPost zs (zs.getD j 0) w) := by
  go_enter Try.func31, Try.ntmps31
  go_wp2_with fail
  go_ret
  exact ⟨_, rfl, var_is zs j hj, (Below.refl _ _).alloc (Nat.le_refl _) _⟩

set_option maxHeartbeats 400000 in
theorem new_not (zs : List Int) (z1 : Int) (n1 : Value) (A : Option Addr) (n cap g cp : Nat) (w : World) (hg : g < w.heap.size) (hc : w.cell? ⟨g, 0, none⟩ = some n1) (h : NodeIs zs z1 n1) :
    Calls Try.prog 31 #[.agg #[.int .i64 3, .int .i64 0, .slice A n cap], .slice (some ⟨g, 0, none⟩) 1 cp] w (NewPost zs (tb (z1 == 0)) w) := by
  obtain ⟨T, x, rfl⟩ := h.form
  have H := Lib.hid h
  clear h
  go_enter Try.func31, Try.ntmps31
  go_wp2_with fail
  go_ret
  exact ⟨_, rfl, not_is zs z1 _ H.out, (Below.refl _ _).alloc (Nat.le_refl _) _⟩

set_option maxHeartbeats 1000000 in
set_option maxRecDepth 100000 in
theorem new_two (zs : List Int) (k z1 z2 : Int) (n1 n2 : Value) (A : Option Addr) (n cap g cp : Nat) (w : World) (hg : g < w.heap.size) (hc1 : w.cell? ⟨g, 0, none⟩ = some n1) (hc2 : w.cell? ⟨g, 1, none⟩ = some n2) (h1 : NodeIs zs z1 n1) (h2 : NodeIs zs z2 n2)
    (hr1 : 0 ≤ z1 ∧ z1 ≤ 3) (hr2 : 0 ≤ z2 ∧ z2 ≤ 3) (h4 : 4 ≤ k) (h9 : k ≤ 9) :
    Calls Try.prog 31 #[.agg #[.int .i64 k, .int .i64 0, .slice A n cap], .slice (some ⟨g, 0, none⟩) 2 cp] w (NewPost zs (op k 0 zs z1 z2) w) := by
  obtain ⟨T, x, rfl⟩ := h1.form
  obtain ⟨U, y, rfl⟩ := h2.form
  have H1 := Lib.hid h1
  have H2 := Lib.hid h2
  have R1 := Lib.hid hr1
  have R2 := Lib.hid hr2
  have hk : k = 4 ∨ k = 5 ∨ k = 6 ∨ k = 7 ∨ k = 8 ∨ k = 9 := by omega
  clear h1 h2 hr1 hr2 h4 h9
  rcases hk with rfl | rfl | rfl | rfl | rfl | rfl
  all_goals
    (go_enter Try.func31, Try.ntmps31
     go_wp2_with fail
     go_quiet (fail)
     go_wp2_with fail
     go_ret)
  · rw [op4]; exact ⟨_, rfl, and_is zs _ _ _ _ H1.out H2.out, below_drewN ((Below.refl _ _).alloc (Nat.le_refl _) _) _⟩
  · rw [op5]; exact ⟨_, rfl, or_is zs _ _ _ _ H1.out H2.out, below_drewN ((Below.refl _ _).alloc (Nat.le_refl _) _) _⟩
  · rw [op6]; exact ⟨_, rfl, equal_is zs _ _ _ _ H1.out H2.out, below_drewN ((Below.refl _ _).alloc (Nat.le_refl _) _) _⟩
  · rw [op7]; exact ⟨_, rfl, less_is zs _ _ _ _ H1.out H2.out, below_drewN ((Below.refl _ _).alloc (Nat.le_refl _) _) _⟩
  · rw [op8]; exact ⟨_, rfl, add_is zs _ _ _ _ H1.out H2.out R1.out R2.out, below_drewN ((Below.refl _ _).alloc (Nat.le_refl _) _) _⟩
  · rw [op9]; exact ⟨_, rfl, sub_is zs _ _ _ _ H1.out H2.out R1.out R2.out, below_drewN ((Below.refl _ _).alloc (Nat.le_refl _) _) _⟩

end Go.Proofs.Ytkcgjgdcmdjcfaa

/- The walk of spec.l5Not. -/
import Derived.Test.YthcohnceehndfaaDoorNgP
import Derived.Test.YthcohnceehndfaaDoorFvS
import Derived.Test.YthcohnceehndfaaDoorW7F
import Derived.Test.YthcohnceehndfaaDoorBld
namespace Go.Proofs.YthcohnceehndfaaDoor
open Go.RowKit

theorem sets3S {w wl : World} {n : Nat} (hb : Below w.heap.size w wl) (hn : w.heap.size ≤ n) (u0 u1 u2 : Value) :
    Below w.heap.size w (((wl.setCell ⟨n, 0, none⟩ u0).setCell ⟨n, 1, none⟩ u1).setCell ⟨n, 2, none⟩ u2) ∧ (((wl.setCell ⟨n, 0, none⟩ u0).setCell ⟨n, 1, none⟩ u1).setCell ⟨n, 2, none⟩ u2).heap.size = wl.heap.size ∧ ∀ q, q ≠ n → (((wl.setCell ⟨n, 0, none⟩ u0).setCell ⟨n, 1, none⟩ u1).setCell ⟨n, 2, none⟩ u2).heap[q]? = wl.heap[q]? :=
  ⟨((hb.setCell hn _).setCell hn _).setCell hn _, by simp, fun q hq => by rw [Below.heap_setCell _ _ _ _ (by simpa using hq), Below.heap_setCell _ _ _ _ (by simpa using hq), Below.heap_setCell _ _ _ _ (by simpa using hq)]⟩

theorem Own.zeroF (w : World) (t : TypeId) (lo hi : Nat) : Own w t lo hi zeroE (.int .i64 0) (.int .i64 0) (.slice none 0 0) :=
  .mk 0 0 [] none 0 0 #[] (fun _ => undef) (fun _ => undef) (fun _ => undef) (Nat.zero_le _) (fun i x hx => by simp at hx) (fun i x hx => by simp at hx) (fun i x hx => by simp at hx) (fun i x hx => by simp at hx) (fun i x hx => by simp at hx)

/-- What a function leaves that answers a formula of the call's own, from block lo on. -/
def OwPost (lo : Nat) (T : Ex) (w : World) (e' : Ending) (w' : World) : Prop :=
  ∃ (x0 x1 : Int) (xa : Option Addr) (xl xc : Nat), e' = .returned (.agg #[.int .i64 x0, .int .i64 x1, .slice xa xl xc]) ∧ Own w' 25 lo w'.heap.size T (.int .i64 x0) (.int .i64 x1) (.slice xa xl xc) ∧ Below w.heap.size w w'

set_option maxHeartbeats 1000000 in
set_option maxRecDepth 100000 in
theorem notS_any (e : Ex) (c0 c1 c2 : Value) (lo : Nat) (w : World) (hO : Own w 25 lo w.heap.size e c0 c1 c2) (hlo : lo ≤ w.heap.size) :
    Calls Tryd.prog 54 #[.agg #[c0, c1, c2]] w (OwPost lo (fNot e) w) := by
  obtain ⟨n0, n1, a2, l2, cp2, rfl, rfl, rfl⟩ := hO.form
  obtain ⟨W3, hW3⟩ : ∃ W3, W3 = ((w.alloc (.cells #[.int .i64 n0, .int .i64 n1, .slice a2 l2 cp2] 25)).alloc (.cells #[.int .i64 3, .int .i64 0, .slice (some ⟨w.heap.size + 1 + 1, 0, none⟩) 1 1] 25)).alloc (.cells #[.int .i64 n0, .int .i64 n1, .slice a2 l2 cp2] 25) := ⟨_, rfl⟩
  have hrows := three_boxes w 25 25 25 #[.int .i64 n0, .int .i64 n1, .slice a2 l2 cp2] #[.int .i64 3, .int .i64 0, .slice (some ⟨w.heap.size + 1 + 1, 0, none⟩) 1 1] #[.int .i64 n0, .int .i64 n1, .slice a2 l2 cp2]
  rw [← hW3] at hrows
  obtain ⟨_, hr1, hr2, hb3, hz3⟩ := hrows
  have h3 := ((hO.under hb3 (Nat.le_refl _)).more (Nat.le_refl lo) hb3.size).aboveF (g := w.heap.size + 1 + 1) (by omega) hr2 3 0 1
  have y0 : W3.cell? ⟨w.heap.size + 1, 0, none⟩ = some (.int .i64 3) := hr1.cell 0
  have y1 : W3.cell? ⟨w.heap.size + 1, 1, none⟩ = some (.int .i64 0) := hr1.cell 1
  have y2 : W3.cell? ⟨w.heap.size + 1, 2, none⟩ = some (.slice (some ⟨w.heap.size + 1 + 1, 0, none⟩) 1 1) := hr1.cell 2
  have HO := Lib.hid h3
  have HB := Lib.hid hb3
  have HW3 := Lib.hid hW3
  clear hW3 hr1 hr2 hb3 h3 hO
  go_enter Tryd.func54, Tryd.ntmps54
  go_wp2_with fail
  rw [← HW3.out]
  refine bodyPost_ret (v := .agg #[.int .i64 3, .int .i64 0, .slice (some ⟨w.heap.size + 1 + 1, 0, none⟩) 1 1]) (by simp [results, Tryd.results54, go_sem, y0, y1, y2]) rfl ?_
  exact ⟨_, _, _, _, _, rfl, HO.out, HB.out⟩

end Go.Proofs.YthcohnceehndfaaDoor

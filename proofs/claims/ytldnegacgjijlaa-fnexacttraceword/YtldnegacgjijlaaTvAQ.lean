/- The walk of spec.l8All. -/
import Derived.Test.YtldnegacgjijlaaJ02
import Derived.Test.YtldnegacgjijlaaNuAQ
import Derived.Deep.RegionHeld3
namespace Go.Proofs.Ytldnegacgjijlaa
open Go.RowKit

/-- The states of a trace, once through the loop. -/
def trAll (e : St) : List Int := e.locs ++ e.vals
def RowsPost (zs : List Int) (w : World) (e' : Ending) (w' : World) : Prop := ∃ g c : Nat, e' = .returned (.slice (some ⟨g, 0, none⟩) zs.length c) ∧ Ints w' w'.heap.size (some ⟨g, 0, none⟩) g 0 zs ∧ Below w.heap.size w w'

set_option maxHeartbeats 1000000 in
set_option maxRecDepth 100000 in
theorem specAll_any (e : St) (C : Nat → Value) (w : World) (hL : Lay.sta.lies w w.heap.size e C) (hd : Lay.sta.sz e ≤ 1048576) :
    Calls Try.prog 125 #[.agg #[C 0, C 1]] w (RowsPost (trAll e) w) := by
  rw [sta_sz] at hd
  obtain ⟨xs, ys⟩ := e
  obtain ⟨⟨A, cap, b, off, D, e0, hl, hO⟩, A', cap', b', off', D', e1, hl', hO'⟩ := sta_lies hL
  rw [e0, e1]
  dsimp only at hd
  obtain ⟨W1, hW1⟩ : ∃ W1, W1 = w.alloc (.cells #[.slice A xs.length cap, .slice A' ys.length cap'] 86) := ⟨_, rfl⟩
  have hb0 : Below w.heap.size w W1 := by rw [hW1]; exact (Below.refl _ _).alloc (Nat.le_refl _) _
  have HR : Hid (Row W1 w.heap.size 86 #[.slice A xs.length cap, .slice A' ys.length cap']) := by rw [hW1]; exact Row.new _ _ _
  have HI := Lib.hid ((ints_of hO).under hb0 hb0.size)
  have HJ := Lib.hid ((ints_of hO').under hb0 hb0.size)
  have HB0 := Lib.hid hb0
  have HW1 := Lib.hid hW1
  have hlt : w.heap.size < W1.heap.size := HR.out.lt
  have HKS : Hid (∀ X, Below W1.heap.size W1 X → X.cell? ⟨w.heap.size, 0, none⟩ = some (.slice A xs.length cap) ∧ X.cell? ⟨w.heap.size, 1, none⟩ = some (.slice A' ys.length cap')) := fun X h => (HR.out.under h HR.out.lt).two
  have HSz : Hid (xs.length + ys.length ≤ 1048576) := hd
  have HLN : Hid ((trAll ⟨xs, ys⟩).length = xs.length + ys.length) := List.length_append
  clear hL hO hO' e0 e1 hl hl' hb0 hW1 hd
  go_enter Try.func125, Try.ntmps125
  go_wp2_with fail
  rw [← HW1.out]
  refine wp_region_held_drew (S := (fun w' => w'.cell? ⟨w.heap.size, 0, none⟩ = some (.slice A xs.length cap) ∧ w'.cell? ⟨w.heap.size, 1, none⟩ = some (.slice A' ys.length cap'))) (by kernel_rfl) ?_ (fun hHeld => ?_)
  · exact HKS.out _ (Below.refl _ _).drew
  obtain ⟨X0, hX0⟩ : ∃ X, X = W1.drew := ⟨_, rfl⟩
  rw [← hX0] at hHeld ⊢
  have hbX0 : Below W1.heap.size W1 X0 := by rw [hX0]; exact (Below.refl _ _).drew
  clear hX0
  refine wpAnyH_take (i := 1) (oi := { dst := some 4, op := Go.Op.fieldAddr 86 (Go.Operand.tmp 1) 0, type := 0, pos := "l8_check.go:52", after := #[], guard := none }) (v := ?_) rfl (by kernel_rfl) (by kernel_rfl) (by kernel_rfl) (fun _ _ _ h => h) (Or.inl ⟨by rfl, ?_⟩) (by assumption) ?_
  rotate_left
  · intro w hSw
    try dsimp only at hSw
    go_simp
    all_goals (with_reducible rfl)
  try simp only [Act.put, List.setIfInBounds_toArray, List.set_cons_zero, List.set_cons_succ]
  refine wpAnyH_take (i := 2) (oi := { dst := some 5, op := Go.Op.load 22 (Go.Operand.tmp 4), type := 22, pos := "l8_check.go:52", after := #[{ on := 1, ground := Go.Ground.data }], guard := none }) (v := ?_) rfl (by kernel_rfl) (by kernel_rfl) (by kernel_rfl) (fun _ _ _ h => h) (Or.inl ⟨by rfl, ?_⟩) (by assumption) ?_
  rotate_left
  · intro w hSw
    try dsimp only at hSw
    go_simp
    all_goals (with_reducible rfl)
  try simp only [Act.put, List.setIfInBounds_toArray, List.set_cons_zero, List.set_cons_succ]
  refine wpAnyH_take (i := 4) (oi := { dst := some 7, op := Go.Op.fieldAddr 86 (Go.Operand.tmp 1) 1, type := 0, pos := "l8_check.go:52", after := #[], guard := none }) (v := ?_) rfl (by kernel_rfl) (by kernel_rfl) (by kernel_rfl) (fun _ _ _ h => h) (Or.inl ⟨by rfl, ?_⟩) (by assumption) ?_
  rotate_left
  · intro w hSw
    try dsimp only at hSw
    go_simp
    all_goals (with_reducible rfl)
  try simp only [Act.put, List.setIfInBounds_toArray, List.set_cons_zero, List.set_cons_succ]
  refine wpAnyH_take (i := 5) (oi := { dst := some 8, op := Go.Op.load 22 (Go.Operand.tmp 7), type := 22, pos := "l8_check.go:52", after := #[{ on := 4, ground := Go.Ground.data }], guard := none }) (v := ?_) rfl (by kernel_rfl) (by kernel_rfl) (by kernel_rfl) (fun _ _ _ h => h) (Or.inl ⟨by rfl, ?_⟩) (by assumption) ?_
  rotate_left
  · intro w hSw
    try dsimp only at hSw
    go_simp
    all_goals (with_reducible rfl)
  try simp only [Act.put, List.setIfInBounds_toArray, List.set_cons_zero, List.set_cons_succ]
  refine wpAnyH_ready (rs := [0]) (by kernel_rfl) (by simp) (AllReadyH.cons (o := { dst := some 3, op := Go.Op.buildSlice 22 0 #[], type := 22, pos := "l8_check.go:52", after := #[], guard := none }) rfl (fun K hK => ?_) AllReadyH.nil)
  go_simp
  obtain ⟨X1, hX1⟩ : ∃ X1, X1 = X0.alloc (.cells #[] 3) := ⟨_, rfl⟩
  have hb1 : Below W1.heap.size W1 X1 := by rw [hX1]; exact hbX0.alloc hbX0.size _
  have HO1 : Hid (La.OwnI X1 W1.heap.size X0.heap.size [] 0) := by rw [hX1]; exact La.OwnI.empty hbX0.size (Row.new _ _ _)
  have HB1 := Lib.hid hb1
  have hz1 : W1.heap.size ≤ X1.heap.size := hb1.size
  have hz0 : W1.heap.size ≤ X0.heap.size := hbX0.size
  rw [← hX1]
  clear hX1 hb1 hbX0
  refine hK.out _ _ ?_ (fun hHeld => ?_)
  · exact HKS.out _ HB1.out
  clear hK K
  try simp only [Act.put, List.setIfInBounds_toArray, List.set_cons_zero, List.set_cons_succ]
  refine wpAnyH_ready (rs := [3]) (by kernel_rfl) (by simp) (AllReadyH.cons (o := { dst := some 6, op := Go.Op.call { callee := Go.Callee.builtin Go.Builtin.append, args := #[Go.Operand.tmp 3, Go.Operand.tmp 5], argTypes := #[22, 22] }, type := 22, pos := "l8_check.go:52", after := #[{ on := 0, ground := Go.Ground.data }, { on := 2, ground := Go.Ground.data }], guard := none }) rfl (fun K hK => ?_) AllReadyH.nil)
  with_reducible refine La.step_ints ?_ (.tmp 3) (.tmp 5) ?_ W1.heap.size X0.heap.size 0 [] xs A b off cap ?_ ?_ ?_ ?_ ?_ ?_ ?_
  · rfl
  · rfl
  · rfl
  · rfl
  · exact HO1.out
  · exact HI.out.under HB1.out HB1.out.size
  · have := HSz.out; show 0 + xs.length ≤ 2097152; omega
  · exact hz1
  intro g2 c2 X2 hown hgrow hat hlt2
  have HO2 : Hid (La.OwnI X2 W1.heap.size g2 xs c2) := hown
  have HB2 : Hid (Below W1.heap.size W1 X2) := La.Below.grow HB1.out hgrow hz1 hz0
  have hz2 : W1.heap.size ≤ X2.heap.size := HB2.out.size
  clear hown hgrow hat hlt2
  refine hK.out _ _ ?_ (fun hHeld => ?_)
  · exact HKS.out _ HB2.out
  clear hK K
  try simp only [Act.put, List.setIfInBounds_toArray, List.set_cons_zero, List.set_cons_succ]
  refine wpAnyH_ready (rs := [6]) (by kernel_rfl) (by simp) (AllReadyH.cons (o := { dst := some 9, op := Go.Op.call { callee := Go.Callee.builtin Go.Builtin.append, args := #[Go.Operand.tmp 6, Go.Operand.tmp 8], argTypes := #[22, 22] }, type := 22, pos := "l8_check.go:52", after := #[{ on := 3, ground := Go.Ground.data }, { on := 5, ground := Go.Ground.data }, { on := 3, ground := Go.Ground.chain }], guard := none }) rfl (fun K hK => ?_) AllReadyH.nil)
  with_reducible refine La.step_ints ?_ (.tmp 6) (.tmp 8) ?_ W1.heap.size g2 c2 xs ys A' b' off' cap' ?_ ?_ ?_ ?_ ?_ ?_ ?_
  · rfl
  · rfl
  · rfl
  · rfl
  · exact HO2.out
  · exact HJ.out.under HB2.out HB2.out.size
  · have := HSz.out; omega
  · exact hz2
  intro g3 c3 X3 hown hgrow hat hlt3
  have HO3 : Hid (La.OwnI X3 W1.heap.size g3 (xs ++ ys) c3) := hown
  have HB3 : Hid (Below W1.heap.size W1 X3) := La.Below.grow HB2.out hgrow hz2 HO2.out.le
  have HI3 : Hid (Ints X3 X3.heap.size (some ⟨g3, 0, none⟩) g3 0 (xs ++ ys)) := HO3.out.ints hlt3
  clear hown hgrow hat hlt3
  refine hK.out _ _ ?_ (fun hHeld => ?_)
  · exact HKS.out _ HB3.out
  clear hK K
  try simp only [Act.put, List.setIfInBounds_toArray, List.set_cons_zero, List.set_cons_succ]
  refine wpAnyH_take (i := 7) (oi := { dst := some 2, op := Go.Op.assign (Go.Operand.tmp 9), type := 22, pos := "l8_check.go:52", after := #[{ on := 6, ground := Go.Ground.data }, { on := 6, ground := Go.Ground.chain }, { on := 0, ground := Go.Ground.phase }, { on := 1, ground := Go.Ground.phase }, { on := 2, ground := Go.Ground.phase }, { on := 3, ground := Go.Ground.phase }, { on := 4, ground := Go.Ground.phase }, { on := 5, ground := Go.Ground.phase }, { on := 6, ground := Go.Ground.phase }], guard := none }) (v := ?_) rfl (by kernel_rfl) (by kernel_rfl) (by kernel_rfl) (fun _ _ _ h => h) (Or.inl ⟨by rfl, ?_⟩) (by assumption) ?_
  rotate_left
  · intro w hSw
    try dsimp only at hSw
    go_simp
    all_goals (with_reducible rfl)
  try simp only [Act.put, List.setIfInBounds_toArray, List.set_cons_zero, List.set_cons_succ]
  refine wpAnyH_done (by kernel_rfl) ?_ _
  go_wp2_with fail
  go_ret
  exact ⟨g3, c3, by rw [HLN.out]; rfl, HI3.out, HB0.out.trans (HB3.out.mono HB0.out.size)⟩

end Go.Proofs.Ytldnegacgjijlaa

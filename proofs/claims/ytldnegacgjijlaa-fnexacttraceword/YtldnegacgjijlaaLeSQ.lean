/- The walk of spec.l8Letter. -/
import Derived.Test.YtldnegacgjijlaaJ11
import Derived.Test.YtldnegacgjijlaaJ02
import Derived.Deep.RegionHeld3
namespace Go.Proofs.Ytldnegacgjijlaa
open Go.RowKit

set_option maxHeartbeats 2000000 in
set_option maxRecDepth 100000 in
theorem specLet_any (s : St) (C : Nat → Value) (es : List Ex) (D : Nat → Value) (w : World) (hL : Lay.sta.lies w w.heap.size s C) (hM : Lay.exs.lies w w.heap.size es D) (hd : Lay.exs.sz es ≤ 1048576) (ho : labsOk es = true) (hv : valsOk s.vals = true) :
    Calls Try.prog 118 #[.agg #[C 0, C 1], D 0] w fun e' w' => e' = .returned (.int .i64 (letterN es s.vals : Nat)) ∧ Below w.heap.size w w' := by
  obtain ⟨W1, hW1⟩ : ∃ W1, W1 = w.alloc (.cells #[C 0, C 1] 136) := ⟨_, rfl⟩
  have hb0 : Below w.heap.size w W1 := by rw [hW1]; exact (Below.refl _ _).alloc (Nat.le_refl _) _
  have hra : Row W1 w.heap.size 136 #[C 0, C 1] := by rw [hW1]; exact Row.new _ _ _
  obtain ⟨locs, zs⟩ := s
  obtain ⟨⟨A4, cap4, b4, off4, D4, q4, hl4, hO4⟩, A5, cap5, b5, off5, D5, q5, hl5, hO5⟩ := sta_lies (Lay.sta.later hL hb0 hb0.size)
  have hV : Vals W1 A5 b5 off5 zs := vals_of hv.symm (ints_of hO5)
  dsimp only at hv ⊢
  rw [q4, q5, hV.len] at hra hW1
  rw [q4, q5, hV.len]
  obtain ⟨A, cap, b, off, D0, D1, D2, e0, hl, hO⟩ := exs_lies (Lay.exs.later hM hb0 hb0.size)
  rw [e0, labs_len ho]
  have HO := Lib.hid hO
  have HV := Lib.hid hV
  have HRa := Lib.hid hra
  have HB0 := Lib.hid hb0
  have HW1 := Lib.hid hW1
  have HN3 := Lib.hid (labs_len ho)
  have HOk := Lib.hid ho
  have HD := Lib.hid hd
  have hlt1 : w.heap.size < W1.heap.size := hra.lt
  clear hL hM hb0 hra hW1 hO hV q4 q5 hl4 hl5 hO4 hO5 e0 hl ho hv hd
  go_enter Try.func118, Try.ntmps118
  go_wp2_with fail
  rw [← HW1.out]
  go_loopw [5, 6] (fun o i wl => ∃ j L : Nat, j ≤ 3 ∧ i = .int .i64 j ∧ o = .int .i64 L ∧ L < 8 ∧ Hid (L = bitsN (atB es zs) j) ∧ Hid (Below W1.heap.size W1 wl)) (fun _ i _ => 3 - (intOf i).toNat)
  case atStart => exact ⟨0, 0, by omega, rfl, rfl, by omega, rfl, Below.refl _ _⟩
  case round =>
    obtain ⟨j, L, hj, rfl, rfl, hL8, HLt, HB⟩ := hrel
    by_cases hlt : j < 3
    · obtain ⟨x, hx⟩ : ∃ x, es[j]? = some x := ⟨_, List.getElem?_eq_getElem (by rw [HN3.out]; exact hlt)⟩
      obtain ⟨rfl, hb, g0, g1, g2, gl⟩ := HO.out.below HB.out j x hx
      have hbs : b < wr.heap.size := Nat.lt_of_lt_of_le hb HB.out.size
      have hwr : w.heap.size < wr.heap.size := Nat.lt_of_lt_of_le hlt1 HB.out.size
      have HSh : Hid (shape 6 x = true) := shape_of_valid (labs_get HOk.out hx).symm
      have HG := Lib.hid (gl.more HB.out.size)
      have HVr : Hid (Vals wr A5 b5 off5 zs) := ⟨HV.out.len, HV.out.range, HV.out.ints.under HB.out HB.out.size⟩
      have HAt := Lib.hid (atB_get (zs := zs) hx)
      obtain ⟨z, hz⟩ : ∃ z, z = ev zs 6 x := ⟨_, rfl⟩
      have HZ := Lib.hid hz
      have HOr := Lib.hid (or_small L hL8 j hlt)
      have hj60 : j < 60 := by omega
      have HKS : Hid (∀ X, Below wr.heap.size wr X → X.cell? ⟨b, off + j * 3, none⟩ = some (D0 j) ∧ X.cell? ⟨b, off + j * 3 + 1, none⟩ = some (D1 j) ∧ X.cell? ⟨b, off + j * 3 + 2, none⟩ = some (D2 j) ∧ X.cell? ⟨w.heap.size, 1, none⟩ = some (.slice A5 3 cap5)) := fun X h =>
        ⟨(h.cell (p := ⟨b, off + j * 3, none⟩) hbs).trans g0, (h.cell (p := ⟨b, off + j * 3 + 1, none⟩) hbs).trans g1, (h.cell (p := ⟨b, off + j * 3 + 2, none⟩) hbs).trans g2, (((HRa.out.under HB.out HRa.out.lt).under h hwr).cell 1)⟩
      clear hx hz gl g0 g1 g2
      by_cases hz0 : z = 0
      · have hzB : (z != 0) = false := by simp [hz0]
        have HN : Hid (L = bitsN (atB es zs) (j + 1)) := by show _ = _; rw [bits_no (by rw [HAt.out, ← HZ.out, hz0]; rfl), ← HLt.out]
        clear hz0
        go_wp2_with fail
        refine wp_region_held_drew (S := (fun w' => w'.cell? ⟨b, off + j * 3, none⟩ = some (D0 j) ∧ w'.cell? ⟨b, off + j * 3 + 1, none⟩ = some (D1 j) ∧ w'.cell? ⟨b, off + j * 3 + 2, none⟩ = some (D2 j) ∧ w'.cell? ⟨w.heap.size, 1, none⟩ = some (.slice A5 3 cap5))) (by kernel_rfl) ?_ (fun hHeld => ?_)
        · exact HKS.out _ (Below.refl _ _).drew
        obtain ⟨X0, hX0⟩ : ∃ X, X = wr.drew := ⟨_, rfl⟩
        rw [← hX0] at hHeld ⊢
        have hbX0 : Below wr.heap.size wr X0 := by rw [hX0]; exact (Below.refl _ _).drew
        clear hX0
        refine wpAnyH_take (i := 0) (oi := { dst := some 13, op := Go.Op.move (Go.Operand.tmp 1), type := 71, pos := "l8_check.go:19", after := #[], guard := none }) (v := ?_) rfl (by kernel_rfl) (by kernel_rfl) (by kernel_rfl) (fun _ _ _ h => h) (Or.inl ⟨by rfl, ?_⟩) (by assumption) ?_
        rotate_left
        · intro w hSw
          try dsimp only at hSw
          go_simp
          all_goals (with_reducible rfl)
        try simp only [Act.put, List.setIfInBounds_toArray, List.set_cons_zero, List.set_cons_succ]
        refine wpAnyH_take (i := 1) (oi := { dst := some 14, op := Go.Op.move (Go.Operand.tmp 6), type := 3, pos := "l8_check.go:19", after := #[], guard := none }) (v := ?_) rfl (by kernel_rfl) (by kernel_rfl) (by kernel_rfl) (fun _ _ _ h => h) (Or.inl ⟨by rfl, ?_⟩) (by assumption) ?_
        rotate_left
        · intro w hSw
          try dsimp only at hSw
          go_simp
          all_goals (with_reducible rfl)
        try simp only [Act.put, List.setIfInBounds_toArray, List.set_cons_zero, List.set_cons_succ]
        refine wpAnyH_take (i := 2) (oi := { dst := some 15, op := Go.Op.indexAddr 71 (Go.Operand.tmp 13) (Go.Operand.tmp 14), type := 0, pos := "l8_check.go:19", after := #[{ on := 0, ground := Go.Ground.data }, { on := 1, ground := Go.Ground.data }], guard := none }) (v := ?_) rfl (by kernel_rfl) (by kernel_rfl) (by kernel_rfl) (fun _ _ _ h => h) (Or.inl ⟨by rfl, ?_⟩) (by assumption) ?_
        rotate_left
        · intro w hSw
          try dsimp only at hSw
          go_simp
          all_goals (with_reducible rfl)
        try simp only [Act.put, List.setIfInBounds_toArray, List.set_cons_zero, List.set_cons_succ]
        refine wpAnyH_take (i := 3) (oi := { dst := some 16, op := Go.Op.load 99 (Go.Operand.tmp 15), type := 99, pos := "l8_check.go:19", after := #[{ on := 2, ground := Go.Ground.data }], guard := none }) (v := ?_) rfl (by kernel_rfl) (by kernel_rfl) (by kernel_rfl) (fun _ _ _ h => h) (Or.inl ⟨by rfl, ?_⟩) (by assumption) ?_
        rotate_left
        · intro w hSw
          try dsimp only at hSw
          go_simp
          all_goals (with_reducible rfl)
        try simp only [Act.put, List.setIfInBounds_toArray, List.set_cons_zero, List.set_cons_succ]
        refine wpAnyH_take (i := 4) (oi := { dst := some 17, op := Go.Op.fieldAddr 136 (Go.Operand.tmp 2) 1, type := 0, pos := "l8_check.go:19", after := #[], guard := none }) (v := ?_) rfl (by kernel_rfl) (by kernel_rfl) (by kernel_rfl) (fun _ _ _ h => h) (Or.inl ⟨by rfl, ?_⟩) (by assumption) ?_
        rotate_left
        · intro w hSw
          try dsimp only at hSw
          go_simp
          all_goals (with_reducible rfl)
        try simp only [Act.put, List.setIfInBounds_toArray, List.set_cons_zero, List.set_cons_succ]
        refine wpAnyH_take (i := 5) (oi := { dst := some 18, op := Go.Op.load 22 (Go.Operand.tmp 17), type := 22, pos := "l8_check.go:19", after := #[{ on := 4, ground := Go.Ground.data }], guard := none }) (v := ?_) rfl (by kernel_rfl) (by kernel_rfl) (by kernel_rfl) (fun _ _ _ h => h) (Or.inl ⟨by rfl, ?_⟩) (by assumption) ?_
        rotate_left
        · intro w hSw
          try dsimp only at hSw
          go_simp
          all_goals (with_reducible rfl)
        try simp only [Act.put, List.setIfInBounds_toArray, List.set_cons_zero, List.set_cons_succ]
        refine wpAnyH_ready (rs := [6]) (by kernel_rfl) (by simp) (AllReadyH.cons (o := { dst := some 19, op := Go.Op.call { callee := Go.Callee.value (Go.Operand.func 140), args := #[Go.Operand.tmp 16, Go.Operand.tmp 18], argTypes := #[99, 22] }, type := 3, pos := "l8_check.go:19", after := #[{ on := 3, ground := Go.Ground.data }, { on := 5, ground := Go.Ground.data }], guard := none }) rfl (fun K hK => ?_) AllReadyH.nil)
        go_simp
        refine (l1Eval_any zs 6 x (D0 j) (D1 j) (D2 j) A5 b5 off5 cap5 X0 HSh.out (HG.out.keep hbX0.size fun p hp => hbX0.cell hp) (HVr.out.under hbX0)).mono ?_
        rintro e' X1 ⟨rfl, hb1⟩
        rw [← HZ.out]
        have HBr : Hid (Below wr.heap.size wr X1) := hbX0.trans (hb1.mono hbX0.size)
        have HB1 : Hid (Below W1.heap.size W1 X1) := HB.out.trans (HBr.out.mono HB.out.size)
        clear hb1
        try go_wp2_with fail
        refine hK.out _ _ ?_ (fun hHeld => ?_)
        · exact HKS.out _ HBr.out
        clear hK K
        try simp only [Act.put, List.setIfInBounds_toArray, List.set_cons_zero, List.set_cons_succ]
        refine wpAnyH_take (i := 7) (oi := { dst := some 20, op := Go.Op.binOp Go.BinOp.neq 3 (Go.Operand.tmp 19) (Go.Operand.const (Go.Value.int Go.IntKind.i64 0)) 3, type := 4, pos := "l8_check.go:19", after := #[{ on := 6, ground := Go.Ground.data }], guard := none }) (v := ?_) rfl (by kernel_rfl) (by kernel_rfl) (by kernel_rfl) (fun _ _ _ h => h) (Or.inl ⟨by rfl, ?_⟩) (by assumption) ?_
        rotate_left
        · intro w hSw
          try dsimp only at hSw
          go_simp
          all_goals (with_reducible rfl)
        try simp only [Act.put, List.setIfInBounds_toArray, List.set_cons_zero, List.set_cons_succ]
        refine wpAnyH_done (by kernel_rfl) ?_ _
        go_wp2_with fail
        go_roundw
        case rel => exact ⟨j + 1, L, by omega, by go_num, rfl, hL8, HN, HB1⟩
        case measure => simp [intOf]; omega
      · have hzB : (z != 0) = true := by simp [hz0]
        have HN : Hid (L ||| 2 ^ j = bitsN (atB es zs) (j + 1)) := by show _ = _; rw [bits_yes (by rw [HAt.out, ← HZ.out]; simp [hz0]), ← HLt.out]
        have hN8 : L ||| 2 ^ j < 8 := by rw [HN.out]; exact bits_lt8 (by omega)
        clear hz0
        go_wp2_with fail
        refine wp_region_held_drew (S := (fun w' => w'.cell? ⟨b, off + j * 3, none⟩ = some (D0 j) ∧ w'.cell? ⟨b, off + j * 3 + 1, none⟩ = some (D1 j) ∧ w'.cell? ⟨b, off + j * 3 + 2, none⟩ = some (D2 j) ∧ w'.cell? ⟨w.heap.size, 1, none⟩ = some (.slice A5 3 cap5))) (by kernel_rfl) ?_ (fun hHeld => ?_)
        · exact HKS.out _ (Below.refl _ _).drew
        obtain ⟨X0, hX0⟩ : ∃ X, X = wr.drew := ⟨_, rfl⟩
        rw [← hX0] at hHeld ⊢
        have hbX0 : Below wr.heap.size wr X0 := by rw [hX0]; exact (Below.refl _ _).drew
        clear hX0
        refine wpAnyH_take (i := 0) (oi := { dst := some 13, op := Go.Op.move (Go.Operand.tmp 1), type := 71, pos := "l8_check.go:19", after := #[], guard := none }) (v := ?_) rfl (by kernel_rfl) (by kernel_rfl) (by kernel_rfl) (fun _ _ _ h => h) (Or.inl ⟨by rfl, ?_⟩) (by assumption) ?_
        rotate_left
        · intro w hSw
          try dsimp only at hSw
          go_simp
          all_goals (with_reducible rfl)
        try simp only [Act.put, List.setIfInBounds_toArray, List.set_cons_zero, List.set_cons_succ]
        refine wpAnyH_take (i := 1) (oi := { dst := some 14, op := Go.Op.move (Go.Operand.tmp 6), type := 3, pos := "l8_check.go:19", after := #[], guard := none }) (v := ?_) rfl (by kernel_rfl) (by kernel_rfl) (by kernel_rfl) (fun _ _ _ h => h) (Or.inl ⟨by rfl, ?_⟩) (by assumption) ?_
        rotate_left
        · intro w hSw
          try dsimp only at hSw
          go_simp
          all_goals (with_reducible rfl)
        try simp only [Act.put, List.setIfInBounds_toArray, List.set_cons_zero, List.set_cons_succ]
        refine wpAnyH_take (i := 2) (oi := { dst := some 15, op := Go.Op.indexAddr 71 (Go.Operand.tmp 13) (Go.Operand.tmp 14), type := 0, pos := "l8_check.go:19", after := #[{ on := 0, ground := Go.Ground.data }, { on := 1, ground := Go.Ground.data }], guard := none }) (v := ?_) rfl (by kernel_rfl) (by kernel_rfl) (by kernel_rfl) (fun _ _ _ h => h) (Or.inl ⟨by rfl, ?_⟩) (by assumption) ?_
        rotate_left
        · intro w hSw
          try dsimp only at hSw
          go_simp
          all_goals (with_reducible rfl)
        try simp only [Act.put, List.setIfInBounds_toArray, List.set_cons_zero, List.set_cons_succ]
        refine wpAnyH_take (i := 3) (oi := { dst := some 16, op := Go.Op.load 99 (Go.Operand.tmp 15), type := 99, pos := "l8_check.go:19", after := #[{ on := 2, ground := Go.Ground.data }], guard := none }) (v := ?_) rfl (by kernel_rfl) (by kernel_rfl) (by kernel_rfl) (fun _ _ _ h => h) (Or.inl ⟨by rfl, ?_⟩) (by assumption) ?_
        rotate_left
        · intro w hSw
          try dsimp only at hSw
          go_simp
          all_goals (with_reducible rfl)
        try simp only [Act.put, List.setIfInBounds_toArray, List.set_cons_zero, List.set_cons_succ]
        refine wpAnyH_take (i := 4) (oi := { dst := some 17, op := Go.Op.fieldAddr 136 (Go.Operand.tmp 2) 1, type := 0, pos := "l8_check.go:19", after := #[], guard := none }) (v := ?_) rfl (by kernel_rfl) (by kernel_rfl) (by kernel_rfl) (fun _ _ _ h => h) (Or.inl ⟨by rfl, ?_⟩) (by assumption) ?_
        rotate_left
        · intro w hSw
          try dsimp only at hSw
          go_simp
          all_goals (with_reducible rfl)
        try simp only [Act.put, List.setIfInBounds_toArray, List.set_cons_zero, List.set_cons_succ]
        refine wpAnyH_take (i := 5) (oi := { dst := some 18, op := Go.Op.load 22 (Go.Operand.tmp 17), type := 22, pos := "l8_check.go:19", after := #[{ on := 4, ground := Go.Ground.data }], guard := none }) (v := ?_) rfl (by kernel_rfl) (by kernel_rfl) (by kernel_rfl) (fun _ _ _ h => h) (Or.inl ⟨by rfl, ?_⟩) (by assumption) ?_
        rotate_left
        · intro w hSw
          try dsimp only at hSw
          go_simp
          all_goals (with_reducible rfl)
        try simp only [Act.put, List.setIfInBounds_toArray, List.set_cons_zero, List.set_cons_succ]
        refine wpAnyH_ready (rs := [6]) (by kernel_rfl) (by simp) (AllReadyH.cons (o := { dst := some 19, op := Go.Op.call { callee := Go.Callee.value (Go.Operand.func 140), args := #[Go.Operand.tmp 16, Go.Operand.tmp 18], argTypes := #[99, 22] }, type := 3, pos := "l8_check.go:19", after := #[{ on := 3, ground := Go.Ground.data }, { on := 5, ground := Go.Ground.data }], guard := none }) rfl (fun K hK => ?_) AllReadyH.nil)
        go_simp
        refine (l1Eval_any zs 6 x (D0 j) (D1 j) (D2 j) A5 b5 off5 cap5 X0 HSh.out (HG.out.keep hbX0.size fun p hp => hbX0.cell hp) (HVr.out.under hbX0)).mono ?_
        rintro e' X1 ⟨rfl, hb1⟩
        rw [← HZ.out]
        have HBr : Hid (Below wr.heap.size wr X1) := hbX0.trans (hb1.mono hbX0.size)
        have HB1 : Hid (Below W1.heap.size W1 X1) := HB.out.trans (HBr.out.mono HB.out.size)
        clear hb1
        try go_wp2_with fail
        refine hK.out _ _ ?_ (fun hHeld => ?_)
        · exact HKS.out _ HBr.out
        clear hK K
        try simp only [Act.put, List.setIfInBounds_toArray, List.set_cons_zero, List.set_cons_succ]
        refine wpAnyH_take (i := 7) (oi := { dst := some 20, op := Go.Op.binOp Go.BinOp.neq 3 (Go.Operand.tmp 19) (Go.Operand.const (Go.Value.int Go.IntKind.i64 0)) 3, type := 4, pos := "l8_check.go:19", after := #[{ on := 6, ground := Go.Ground.data }], guard := none }) (v := ?_) rfl (by kernel_rfl) (by kernel_rfl) (by kernel_rfl) (fun _ _ _ h => h) (Or.inl ⟨by rfl, ?_⟩) (by assumption) ?_
        rotate_left
        · intro w hSw
          try dsimp only at hSw
          go_simp
          all_goals (with_reducible rfl)
        try simp only [Act.put, List.setIfInBounds_toArray, List.set_cons_zero, List.set_cons_succ]
        refine wpAnyH_done (by kernel_rfl) ?_ _
        go_wp2_with fail
        go_roundw
        case rel => exact ⟨j + 1, L ||| 2 ^ j, by omega, by go_num, by rw [HOr.out], hN8, HN, HB1⟩
        case measure => simp [intOf]; omega
    · have hjj : j = 3 := by omega
      subst hjj
      have HF : Hid (L = letterN es zs) := HLt.out
      go_wp2_with fail
      go_ret
      exact ⟨ret_int (by rw [HF.out]), HB0.out.trans (HB.out.mono HB0.out.size)⟩

end Go.Proofs.Ytldnegacgjijlaa

/- The walks of spec.l8Letters and spec.LabelGraph. -/
import Derived.Test.YtldnegacgjijlaaJ12
import Derived.Test.YtldnegacgjijlaaLeSQ
import Derived.Test.YtldnegacgjijlaaJ16
import Derived.Test.YtldnegacgjijlaaGvSQ
namespace Go.Proofs.Ytldnegacgjijlaa
open Go.RowKit

def LgPost (g : Gp) (es : List Ex) (w : World) (e' : Ending) (w' : World) : Prop := ∃ v, e' = .returned (.tuple #[v, .bool (lgOk g es)]) ∧ SliceI w' w.heap.size (lgOut g es) v ∧ Below w.heap.size w w'

set_option maxHeartbeats 1000000 in
set_option maxRecDepth 100000 in
theorem specLs_any (e : Gp) (C : Nat → Value) (es : List Ex) (D : Nat → Value) (w : World) (hL : Lay.gra.lies w w.heap.size e C) (hM : Lay.exs.lies w w.heap.size es D) (hd' : Lay.exs.sz es ≤ 1048576) (hg : grOk e = true) (ho : labsOk es = true) :
    Calls Try.prog 77 #[.agg #[C 0, C 1], D 0] w (SpPost (lgL e es) w) := by
  obtain ⟨sts, nxt⟩ := e
  obtain ⟨⟨A2, cap2, b2, off2, E2, q2, hl2, hO2⟩, A3, cap3, b3, off3, E3, q3, hl3, hO3⟩ := gra_lies hL
  obtain ⟨W1, hW1⟩ : ∃ W1, W1 = w.alloc (.cells #[C 0, C 1] 69) := ⟨_, rfl⟩
  have hb0 : Below w.heap.size w W1 := by rw [hW1]; exact (Below.refl _ _).alloc (Nat.le_refl _) _
  have hra : Row W1 w.heap.size 69 #[C 0, C 1] := by rw [hW1]; exact Row.new _ _ _
  have HRa := Lib.hid hra
  have H2 := Lib.hid (hO2.grow hb0 hb0.size)
  have HM := Lib.hid (Lay.exs.later hM hb0 hb0.size)
  have HB0 := Lib.hid hb0
  have HGr := Lib.hid hg
  have HLa := Lib.hid ho
  have HD' := Lib.hid hd'
  obtain ⟨n, hn⟩ : ∃ n, n = sts.length := ⟨_, rfl⟩
  have HN := Lib.hid hn
  have hn60 : n ≤ 60 := by rw [hn]; exact gr_size hg
  have hlt1 : w.heap.size < W1.heap.size := hra.lt
  rw [q2, ← hn] at hW1 HRa
  rw [q2]
  have HW1 := Lib.hid hW1
  have HQ3 : Hid (w.alloc (.cells #[.slice A2 n cap2, C 1] 69) = W1) := hW1.symm
  obtain ⟨W2, hW2⟩ : ∃ W2, W2 = W1.alloc (.cells #[] 3) := ⟨_, rfl⟩
  have hb2 : Below W1.heap.size W1 W2 := by rw [hW2]; exact (Below.refl _ _).alloc (Nat.le_refl _) _
  have hsz1 : W1.heap.size = w.heap.size + 1 := by rw [hW1]; simp
  have HOw0 : Hid (OwV W2 W1.heap.size (.slice (some ⟨w.heap.size + 1, 0, none⟩) 0 0) ((lgL ⟨sts, nxt⟩ es).take 0)) := by
    have h := Row.new W1 3 #[]
    rw [hsz1] at h
    rw [hW2]; exact OwV.empty (by omega) h
  have HBx0 : Hid (Below W1.heap.size W1 W2) := hb2
  have HW2 := Lib.hid hW2
  rw [← hn]
  clear hL hM hd' hg ho hn q2 hO2 q3 hl3 hO3 hb0 hra hW1 hW2 hb2 hl2 hsz1
  go_enter Try.func77, Try.ntmps77
  go_wp2_with fail
  rw [← HW1.out, ← HW2.out]
  go_loopw [5, 6] (fun v i wl => ∃ j : Nat, j ≤ n ∧ i = .int .i64 j ∧ Hid (OwV wl W1.heap.size v ((lgL ⟨sts, nxt⟩ es).take j)) ∧ Hid (Below W1.heap.size W1 wl)) (fun _ i _ => n - (intOf i).toNat)
  case atStart => exact ⟨0, Nat.zero_le _, rfl, HOw0, HBx0⟩
  case round =>
    obtain ⟨j, hj, rfl, HO, HB⟩ := hrel
    by_cases hlt : j < n
    · obtain ⟨s, hs⟩ : ∃ s, sts[j]? = some s := ⟨_, List.getElem?_eq_getElem (by rw [← HN.out]; exact hlt)⟩
      obtain ⟨rfl, hb, gc, gl⟩ := H2.out.below HB.out j s hs
      have c0 : wr.cell? ⟨b2, off2 + j * 2, none⟩ = some (E2 j 0) := gc 0 (by decide)
      have c1 : wr.cell? ⟨b2, off2 + j * 2 + 1, none⟩ = some (E2 j 1) := gc 1 (by decide)
      have hwr : W1.heap.size ≤ wr.heap.size := HB.out.size
      have HG := Lib.hid (Lay.sta.more gl hwr)
      have HVs : Hid (valsOk s.vals = true) := gr_node (g := ⟨sts, nxt⟩) HGr.out hs
      have HTk := Lib.hid (lg_take (g := ⟨sts, nxt⟩) (es := es) hs)
      have HLn : Hid (((lgL ⟨sts, nxt⟩ es).take j).length ≤ 2097152) := by
        have h1 := gr_size HGr.out
        have h2 := lg_len ⟨sts, nxt⟩ es
        dsimp only at h1 h2
        show _ ≤ _
        rw [List.length_take]
        omega
      obtain ⟨z, hz⟩ : ∃ z : Int, z = ((letterN es s.vals : Nat) : Int) := ⟨_, rfl⟩
      have HZ := Lib.hid hz
      clear gl gc hs hz
      obtain ⟨a0, a1⟩ := (HRa.out.under HB.out HRa.out.lt).two
      have HBc := HB
      have HOc := HO
      go_wp2_with fail
      refine (specLet_any s (E2 j) es D wr HG.out (Lay.exs.later HM.out HB.out HB.out.size) HD'.out HLa.out HVs.out).mono ?_
      rintro e' w1 ⟨rfl, hb1⟩
      clear a0 a1
      rw [← HZ.out]
      have HB1 : Hid (Below W1.heap.size W1 w1) := HBc.out.trans (hb1.mono HBc.out.size)
      have HO1 := Lib.hid (HOc.out.under hb1)
      have hz1 : W1.heap.size ≤ w1.heap.size := HB1.out.size
      obtain ⟨W3, hW3⟩ : ∃ W3, W3 = w1.alloc (.cells #[.int .i64 z] 3) := ⟨_, rfl⟩
      have hb3 : Below w1.heap.size w1 W3 := by rw [hW3]; exact (Below.refl _ _).alloc (Nat.le_refl _) _
      have HO3 := Lib.hid (HO1.out.under hb3)
      have HB3 : Hid (Below W1.heap.size W1 W3) := HB1.out.trans (hb3.mono hz1)
      have hz3 : W1.heap.size ≤ W3.heap.size := HB3.out.size
      have HZ3 : Hid (W3.cell? ⟨w1.heap.size, 0, none⟩ = some (.int .i64 z)) := by rw [hW3]; exact (Row.new w1 3 #[.int .i64 z]).cell 0
      have HW3 := Lib.hid hW3
      clear hb1 hb3 hW3 c0 c1 HB HO
      go_wp2_with (at_builtin; rw [← HW3.out]; refine wpList_push rfl (.tmp 15) (.tmp 23) rfl W1.heap.size _ _ z w1.heap.size rfl rfl HO3.out HZ3.out HLn.out hz3 ?_; intro v' w4 hown hB4 hsz)
      have HO4 : Hid (OwV w4 W1.heap.size v' ((lgL ⟨sts, nxt⟩ es).take (j + 1))) := by show OwV _ _ _ _; rw [HTk.out, ← HZ.out]; exact hown
      have HB4 : Hid (Below W1.heap.size W1 w4) := hB4 _ _ HB3.out (Nat.le_refl _)
      clear hown hB4 hsz
      go_wp2_with fail
      go_roundw
      case rel => exact ⟨j + 1, by omega, by go_num, HO4, HB4⟩
      case measure => simp [intOf]; omega
    · have hjj : j = n := by omega
      subst hjj
      have HF : Hid (SliceI wr W1.heap.size (lgL ⟨sts, nxt⟩ es) u5) := by
        have h := HO.out.slice (Nat.le_refl _)
        rw [List.take_of_length_le (by rw [lg_len, HN.out]; exact Nat.le_refl _)] at h
        exact h
      obtain ⟨a0, a1⟩ := (HRa.out.under HB.out HRa.out.lt).two
      go_wp2_with fail
      go_ret
      obtain ⟨A, cap, h1, h2⟩ := HF.out
      exact ⟨_, rfl, ⟨A, cap, h1, h2.imp id (fun ⟨g, k1, k2, k3⟩ => ⟨g, k1, by omega, k3⟩)⟩, HB0.out.trans (HB.out.mono HB0.out.size)⟩

set_option maxHeartbeats 1000000 in
set_option maxRecDepth 100000 in
theorem specLg_any (e : Gp) (C : Nat → Value) (es : List Ex) (D : Nat → Value) (w : World) (hL : Lay.gra.lies w w.heap.size e C) (hM : Lay.exs.lies w w.heap.size es D) (_hd : Lay.gra.sz e ≤ 1048576) (hd' : Lay.exs.sz es ≤ 1048576) :
    Calls Try.prog 29 #[.agg #[C 0, C 1], D 0] w (LgPost e es w) := by
  obtain ⟨W1, hW1⟩ : ∃ W1, W1 = w.alloc (.cells #[C 0, C 1] 69) := ⟨_, rfl⟩
  have hb0 : Below w.heap.size w W1 := by rw [hW1]; exact (Below.refl _ _).alloc (Nat.le_refl _) _
  have HRa : Hid (Row W1 w.heap.size 69 #[C 0, C 1]) := by rw [hW1]; exact Row.new _ _ _
  have HL := Lib.hid (Lay.gra.later hL hb0 hb0.size)
  have HM := Lib.hid (Lay.exs.later hM hb0 hb0.size)
  have HB0 := Lib.hid hb0
  have HW1 := Lib.hid hW1
  have HD' := Lib.hid hd'
  have hz0 : w.heap.size ≤ W1.heap.size := hb0.size
  clear hL hM hb0 hW1 hd'
  obtain ⟨u, hu⟩ : ∃ u, u = grOk e := ⟨_, rfl⟩
  have HU := Lib.hid hu
  obtain ⟨v, hv⟩ : ∃ v, v = labsOk es := ⟨_, rfl⟩
  have HV := Lib.hid hv
  clear hu hv
  have HNo : Hid ((u && v) = false → ∀ W A k, Below W1.heap.size W1 W → LgPost e es w (.returned (.tuple #[.slice A 0 k, .bool false])) W) := fun h W A k hb => by
    have h2 : lgOk e es = false := by unfold lgOk; rw [← HU.out, ← HV.out]; exact h
    exact ⟨_, by rw [h2], by unfold lgOut; rw [h2]; exact SliceI.none _ _ _ _, HB0.out.trans (hb.mono HB0.out.size)⟩
  go_enter Try.func29, Try.ntmps29
  go_wp2_with fail
  rw [← HW1.out]
  refine (specGrV_any e C W1 HL.out).mono ?_
  rintro e' w1 ⟨rfl, hb1⟩
  rw [← HU.out]
  have HB1 : Hid (Below W1.heap.size W1 w1) := hb1
  have hz1 : W1.heap.size ≤ w1.heap.size := hb1.size
  clear hb1
  cases u
  · go_wp2_with fail
    go_ret2
    exact HNo.out rfl _ _ _ (HB1.out.alloc HB1.out.size _)
  skip
  have HLb := Lib.hid (specLb_any es D w1 (Lay.exs.later HM.out HB1.out HB1.out.size) HD'.out)
  skip
  go_wp2_with fail
  refine HLb.out.mono ?_
  rintro e' w2 ⟨rfl, hb2⟩
  rw [← HV.out]
  have HB2 : Hid (Below W1.heap.size W1 w2) := HB1.out.trans (hb2.mono HB1.out.size)
  have hz2 : W1.heap.size ≤ w2.heap.size := HB2.out.size
  clear hb2
  cases v
  · go_wp2_with fail
    go_ret2
    exact HNo.out rfl _ _ _ (HB2.out.alloc HB2.out.size _)
  have HYes : Hid (lgOk e es = true) := by show _ = _; unfold lgOk; rw [← HU.out, ← HV.out]; rfl
  obtain ⟨a0, a1⟩ := (HRa.out.under HB2.out HRa.out.lt).two
  go_wp2_with fail
  refine (specLs_any e C es D w2 (Lay.gra.later HL.out HB2.out HB2.out.size) (Lay.exs.later HM.out HB2.out HB2.out.size) HD'.out HU.out.symm HV.out.symm).mono ?_
  rintro e' w3 ⟨vr, rfl, hs3, hb3⟩
  have HB3 : Hid (Below W1.heap.size W1 w3) := HB2.out.trans (hb3.mono HB2.out.size)
  have HF : Hid (LgPost e es w (.returned (.tuple #[vr, .bool true])) w3) := ⟨vr, by rw [HYes.out], by unfold lgOut; rw [HYes.out]; obtain ⟨A, cap, h1, h2⟩ := hs3; exact ⟨A, cap, h1, h2.imp id (fun ⟨g, k1, k2, k3⟩ => ⟨g, k1, by omega, k3⟩)⟩, HB0.out.trans (HB3.out.mono HB0.out.size)⟩
  clear hb3 hs3
  go_wp2_with fail
  go_ret2
  exact HF.out

end Go.Proofs.Ytldnegacgjijlaa

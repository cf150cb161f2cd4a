/- The walks of impl.convert over states and impl.LabelGraph. -/
import Derived.Test.YtldnegacgjijlaaLgSQ
import Derived.Test.YtldnegacgjijlaaJ18
import Derived.Test.YtldnegacgjijlaaGvWQ
namespace Go.Proofs.Ytldnegacgjijlaa
open Go.RowKit

set_option maxHeartbeats 1000000 in
set_option maxRecDepth 100000 in
theorem clo_any (s : St) (C : Nat → Value) (es : List Ex) (D : Nat → Value) (bx : Nat) (w : World) (hL : Lay.sta.lies w w.heap.size s C) (hM : Lay.exs.lies w w.heap.size es D) (hbx : w.cell? ⟨bx, 0, none⟩ = some (D 0)) (hb : bx < w.heap.size) (hd : Lay.exs.sz es ≤ 1048576) (ho : labsOk es = true) (hv : valsOk s.vals = true) :
    Calls Try.prog 84 #[.agg #[C 0, C 1], .pointer (some ⟨bx, 0, none⟩)] w fun e' w' => e' = .returned (.int .i64 (letterN es s.vals : Nat)) ∧ Below w.heap.size w w' := by
  obtain ⟨W1, hW1⟩ : ∃ W1, W1 = w.alloc (.cells #[C 0, C 1] 136) := ⟨_, rfl⟩
  have hb0 : Below w.heap.size w W1 := by rw [hW1]; exact (Below.refl _ _).alloc (Nat.le_refl _) _
  have HLt := Lib.hid (implLet_any s C es D W1 (Lay.sta.later hL hb0 hb0.size) (Lay.exs.later hM hb0 hb0.size) hd ho hv)
  have hb1 : W1.cell? ⟨bx, 0, none⟩ = some (D 0) := (hb0.cell (p := ⟨bx, 0, none⟩) hb).trans hbx
  have HW1 := Lib.hid hW1
  have HB0 := Lib.hid hb0
  clear hW1 hb0 hL hM hd ho hv
  go_enter Try.func84, Try.ntmps84
  go_wp2_with fail
  rw [← HW1.out]
  refine HLt.out.mono ?_
  rintro e' w2 ⟨rfl, hb2⟩
  have HB2 : Hid (Below w.heap.size w w2) := HB0.out.trans (hb2.mono HB0.out.size)
  clear hb2
  go_wp2_with fail
  go_ret
  exact ⟨rfl, HB2.out⟩

set_option maxHeartbeats 1000000 in
set_option maxRecDepth 100000 in
theorem convS_any (e : Gp) (C : Nat → Value) (es : List Ex) (D : Nat → Value) (bx : Nat) (w : World) (hL : Lay.gra.lies w w.heap.size e C) (hM : Lay.exs.lies w w.heap.size es D) (hbx : w.cell? ⟨bx, 0, none⟩ = some (D 0)) (hbb : bx < w.heap.size) (hd' : Lay.exs.sz es ≤ 1048576) (hg : grOk e = true) (ho : labsOk es = true) :
    Calls Try.prog 83 #[C 0, (.func (.func 84) #[] #[.pointer (some ⟨bx, 0, none⟩)])] w (SpPost (lgL e es) w) := by
  obtain ⟨sts, nxt⟩ := e
  obtain ⟨⟨A2, cap2, b2, off2, E2, q2, hl2, hO2⟩, A3, cap3, b3, off3, E3, q3, hl3, hO3⟩ := gra_lies hL
  have H2 := Lib.hid hO2
  have HM := Lib.hid hM
  have HGr := Lib.hid hg
  have HLa := Lib.hid ho
  have HD' := Lib.hid hd'
  have HBk := Lib.hid hbx
  obtain ⟨n, hn⟩ : ∃ n, n = sts.length := ⟨_, rfl⟩
  have HN := Lib.hid hn
  have hn60 : n ≤ 60 := by rw [hn]; exact gr_size hg
  have HOw0 : Hid (OwV w w.heap.size (.slice none 0 0) ((lgL ⟨sts, nxt⟩ es).take 0)) := OwV.nil _ _
  have HBx0 : Hid (Below w.heap.size w w) := Below.refl _ _
  rw [q2, ← hn]
  clear hL hM hd' hg ho hn q2 hO2 q3 hl3 hO3 hl2 hbx
  go_enter Try.func83, Try.ntmps83
  go_wp2_with fail
  go_loopw [5, 10] (fun v i wl => ∃ j : Nat, j ≤ n ∧ i = .int .i64 j ∧ Hid (OwV wl w.heap.size v ((lgL ⟨sts, nxt⟩ es).take j)) ∧ Hid (Below w.heap.size w wl)) (fun _ i _ => n - (intOf i).toNat)
  case atStart => exact ⟨0, Nat.zero_le _, rfl, HOw0, HBx0⟩
  case round =>
    obtain ⟨j, hj, rfl, HO, HB⟩ := hrel
    by_cases hlt : j < n
    · obtain ⟨s, hs⟩ : ∃ s, sts[j]? = some s := ⟨_, List.getElem?_eq_getElem (by rw [← HN.out]; exact hlt)⟩
      obtain ⟨rfl, hb, gc, gl⟩ := H2.out.below HB.out j s hs
      have c0 : wr.cell? ⟨b2, off2 + j * 2, none⟩ = some (E2 j 0) := gc 0 (by decide)
      have c1 : wr.cell? ⟨b2, off2 + j * 2 + 1, none⟩ = some (E2 j 1) := gc 1 (by decide)
      have hwr : w.heap.size ≤ wr.heap.size := HB.out.size
      have HG := Lib.hid (Lay.sta.more gl hwr)
      have HVs : Hid (valsOk s.vals = true) := gr_node (g := ⟨sts, nxt⟩) HGr.out hs
      have HTk := Lib.hid (lg_take (g := ⟨sts, nxt⟩) (es := es) hs)
      have HLn : Hid (((lgL ⟨sts, nxt⟩ es).take j).length ≤ 2097152) := by
        have h1 := gr_size HGr.out
        have h2 := lg_len ⟨sts, nxt⟩ es
        dsimp only at h1 h2
        show _ ≤ _
        rw [List.length_take]
        omega
      obtain ⟨z, hz⟩ : ∃ z : Int, z = ((letterN es s.vals : Nat) : Int) := ⟨_, rfl⟩
      have HZ := Lib.hid hz
      clear gl gc hs hz
      obtain ⟨⟨A4, cap4, _, _, _, k0, _, _⟩, A5, cap5, _, _, _, k1, _, _⟩ := sta_lies HG.out
      rw [k0] at c0
      rw [k1] at c1
      obtain ⟨W2, hW2⟩ : ∃ W2, W2 = wr.alloc (.cells #[.slice A4 s.locs.length cap4, .slice A5 s.vals.length cap5] 136) := ⟨_, rfl⟩
      have hb2 : Below wr.heap.size wr W2 := by rw [hW2]; exact (Below.refl _ _).alloc (Nat.le_refl _) _
      have HBc : Hid (Below w.heap.size w W2) := HB.out.trans (hb2.mono HB.out.size)
      have HOc := Lib.hid (HO.out.under hb2)
      have HG2 := Lib.hid (Lay.sta.later HG.out hb2 hb2.size)
      have HW2 := Lib.hid hW2
      have HBz : Hid (W2.cell? ⟨bx, 0, none⟩ = some (D 0) ∧ bx < W2.heap.size) := ⟨(HBc.out.cell (p := ⟨bx, 0, none⟩) hbb).trans HBk.out, Nat.lt_of_lt_of_le hbb HBc.out.size⟩
      have hbs : b2 < wr.heap.size := Nat.lt_of_lt_of_le hb hwr
      have HCl := Lib.hid (clo_any s (E2 j) es D bx W2 HG2.out (Lay.exs.later HM.out HBc.out HBc.out.size) HBz.out.1 HBz.out.2 HD'.out HLa.out HVs.out)
      rw [k0, k1] at HCl
      clear hW2 hb2 k0 k1
      go_wp2_with fail
      rw [← HW2.out]
      refine HCl.out.mono ?_
      rintro e' w1 ⟨rfl, hb1⟩
      rw [← HZ.out]
      have HB1 : Hid (Below w.heap.size w w1) := HBc.out.trans (hb1.mono HBc.out.size)
      have HO1 := Lib.hid (HOc.out.under hb1)
      have hz1 : w.heap.size ≤ w1.heap.size := HB1.out.size
      obtain ⟨W3, hW3⟩ : ∃ W3, W3 = w1.alloc (.cells #[.int .i64 z] 3) := ⟨_, rfl⟩
      have hb3 : Below w1.heap.size w1 W3 := by rw [hW3]; exact (Below.refl _ _).alloc (Nat.le_refl _) _
      have HO3 := Lib.hid (HO1.out.under hb3)
      have HB3 : Hid (Below w.heap.size w W3) := HB1.out.trans (hb3.mono hz1)
      have hz3 : w.heap.size ≤ W3.heap.size := HB3.out.size
      have HZ3 : Hid (W3.cell? ⟨w1.heap.size, 0, none⟩ = some (.int .i64 z)) := by rw [hW3]; exact (Row.new w1 3 #[.int .i64 z]).cell 0
      have HW3 := Lib.hid hW3
      clear hb1 hb3 hW3 c0 c1 HB HO
      go_wp2_with (at_builtin; rw [← HW3.out]; refine wpList_push rfl (.tmp 14) (.tmp 18) rfl w.heap.size _ _ z w1.heap.size rfl rfl HO3.out HZ3.out HLn.out hz3 ?_; intro v' w4 hown hB4 hsz)
      have HO4 : Hid (OwV w4 w.heap.size v' ((lgL ⟨sts, nxt⟩ es).take (j + 1))) := by show OwV _ _ _ _; rw [HTk.out, ← HZ.out]; exact hown
      have HB4 : Hid (Below w.heap.size w w4) := hB4 _ _ HB3.out (Nat.le_refl _)
      clear hown hB4 hsz
      go_wp2_with fail
      go_roundw
      case rel => exact ⟨j + 1, by omega, by go_num, HO4, HB4⟩
      case measure => simp [intOf]; omega
    · have hjj : j = n := by omega
      subst hjj
      have HF : Hid (SliceI wr w.heap.size (lgL ⟨sts, nxt⟩ es) u5) := by
        have h := HO.out.slice (Nat.le_refl _)
        rw [List.take_of_length_le (by rw [lg_len, HN.out]; exact Nat.le_refl _)] at h
        exact h
      go_wp2_with fail
      go_ret
      exact ⟨_, rfl, HF.out, HB.out⟩

set_option maxHeartbeats 1000000 in
set_option maxRecDepth 100000 in
theorem implLg_any (e : Gp) (C : Nat → Value) (es : List Ex) (D : Nat → Value) (w : World) (hL : Lay.gra.lies w w.heap.size e C) (hM : Lay.exs.lies w w.heap.size es D) (_hd : Lay.gra.sz e ≤ 1048576) (hd' : Lay.exs.sz es ≤ 1048576) :
    Calls Try.prog 32 #[.agg #[C 0, C 1], D 0] w (LgPost e es w) := by
  obtain ⟨LA, Lc, _, _, _, _, _, hD0, _, _⟩ := exs_lies hM
  rw [hD0]
  obtain ⟨W1, hW1⟩ : ∃ W1, W1 = (w.alloc (.cells #[C 0, C 1] 69)).alloc (.cells #[.slice LA es.length Lc] 71) := ⟨_, rfl⟩
  have hrows := rows2 w 69 71 #[C 0, C 1] #[.slice LA es.length Lc]
  rw [← hW1] at hrows
  obtain ⟨hra, hrb, hb0⟩ := hrows
  have HRa := Lib.hid hra
  have HRb := Lib.hid hrb
  have hltb : w.heap.size + 1 < W1.heap.size := hrb.lt
  have HD0 := Lib.hid hD0
  have HL := Lib.hid (Lay.gra.later hL hb0 hb0.size)
  have HM := Lib.hid (Lay.exs.later hM hb0 hb0.size)
  have HB0 := Lib.hid hb0
  have HW1 := Lib.hid hW1
  have HD' := Lib.hid hd'
  have hz0 : w.heap.size ≤ W1.heap.size := hb0.size
  clear hL hM hb0 hW1 hd' hra hrb hD0
  obtain ⟨u, hu⟩ : ∃ u, u = grOk e := ⟨_, rfl⟩
  have HU := Lib.hid hu
  obtain ⟨v, hv⟩ : ∃ v, v = labsOk es := ⟨_, rfl⟩
  have HV := Lib.hid hv
  clear hu hv
  have HNo : Hid ((u && v) = false → ∀ W A k, Below W1.heap.size W1 W → LgPost e es w (.returned (.tuple #[.slice A 0 k, .bool false])) W) := fun h W A k hb => by
    have h2 : lgOk e es = false := by unfold lgOk; rw [← HU.out, ← HV.out]; exact h
    exact ⟨_, by rw [h2], by unfold lgOut; rw [h2]; exact SliceI.none _ _ _ _, HB0.out.trans (hb.mono HB0.out.size)⟩
  go_enter Try.func32, Try.ntmps32
  go_wp2_with fail
  rw [← HW1.out]
  refine (implGrV_any e C W1 HL.out).mono ?_
  rintro e' w1 ⟨rfl, hb1⟩
  rw [← HU.out]
  have HB1 : Hid (Below W1.heap.size W1 w1) := hb1
  have hz1 : W1.heap.size ≤ w1.heap.size := hb1.size
  clear hb1
  cases u
  · go_wp2_with fail
    go_ret2
    exact HNo.out rfl _ none 0 HB1.out
  obtain ⟨d0, _⟩ : w1.cell? ⟨w.heap.size + 1, 0, none⟩ = some (.slice LA es.length Lc) ∧ True := ⟨(HRb.out.under HB1.out HRb.out.lt).cell 0, trivial⟩
  have HLb := Lib.hid (implLb_any es D w1 (Lay.exs.later HM.out HB1.out HB1.out.size) HD'.out)
  rw [HD0.out] at HLb
  go_wp2_with fail
  refine HLb.out.mono ?_
  rintro e' w2 ⟨rfl, hb2⟩
  rw [← HV.out]
  have HB2 : Hid (Below W1.heap.size W1 w2) := HB1.out.trans (hb2.mono HB1.out.size)
  have hz2 : W1.heap.size ≤ w2.heap.size := HB2.out.size
  clear hb2
  cases v
  · go_wp2_with fail
    go_ret2
    exact HNo.out rfl _ none 0 HB2.out
  have HYes : Hid (lgOk e es = true) := by show _ = _; unfold lgOk; rw [← HU.out, ← HV.out]; rfl
  have hra2 := HRa.out.under HB2.out HRa.out.lt
  have hrb2 := HRb.out.under HB2.out HRb.out.lt
  obtain ⟨a0, a1⟩ := hra2.two
  have d1 : w2.cell? ⟨w.heap.size + 1, 0, none⟩ = some (D 0) := by rw [HD0.out]; exact hrb2.cell 0
  have HCv := Lib.hid (convS_any e C es D (w.heap.size + 1) w2 (Lay.gra.later HL.out HB2.out HB2.out.size) (Lay.exs.later HM.out HB2.out HB2.out.size) d1 hrb2.lt HD'.out HU.out.symm HV.out.symm)
  clear hra2 hrb2 d1
  go_wp2_with fail
  refine HCv.out.mono ?_
  rintro e' w3 ⟨vr, rfl, hs3, hb3⟩
  have HB3 : Hid (Below W1.heap.size W1 w3) := HB2.out.trans (hb3.mono HB2.out.size)
  have HF : Hid (LgPost e es w (.returned (.tuple #[vr, .bool true])) w3) := ⟨vr, by rw [HYes.out], by unfold lgOut; rw [HYes.out]; obtain ⟨A, cap, h1, h2⟩ := hs3; exact ⟨A, cap, h1, h2.imp id (fun ⟨g, k1, k2, k3⟩ => ⟨g, k1, by omega, k3⟩)⟩, HB0.out.trans (HB3.out.mono HB0.out.size)⟩
  clear hb3 hs3
  go_wp2_with fail
  go_ret2
  exact HF.out

end Go.Proofs.Ytldnegacgjijlaa

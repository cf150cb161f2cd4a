/- The walk of the law laws.FnExactLabelGraph. -/
import Derived.Test.YtldnegacgjijlaaLgIQ
import Derived.Test.YtldnegacgjijlaaGrSzQ
import Derived.Test.YtldnegacgjijlaaGrEqQ
import Derived.Test.YtldnegacgjijlaaGrToQ
import Derived.Test.YtldnegacgjijlaaMkGQ
import Derived.Test.YtldnegacgjijlaaJ10
import Derived.Deep.RegionHeld3
import Derived.Deep.RegionWith
import Derived.Deep.Cut
import Derived.Deep.CutRange
namespace Go.Proofs.Ytldnegacgjijlaa
open Go.RowKit

set_option maxHeartbeats 4000000 in
set_option maxRecDepth 100000 in
theorem lawLg_any (e0 : Gp) (C0 : Nat → Value) (e1 : List Ex) (C1 : Nat → Value) (w : World) (hL0 : Lay.gra.lies w w.heap.size e0 C0) (hL1 : Lay.exs.lies w w.heap.size e1 C1) :
    Calls Try.prog 6 #[.agg #[C0 0, C0 1], C1 0] w fun e' w' => e' = .returned (.bool true) ∧ Below w.heap.size w w' := by
  obtain ⟨W1, hW1⟩ : ∃ W1, W1 = w.alloc (.cells #[C0 0, C0 1] 61) := ⟨_, rfl⟩
  have hb0 : Below w.heap.size w W1 := by rw [hW1]; exact (Below.refl _ _).alloc (Nat.le_refl _) _
  have hr0 : Row W1 w.heap.size 61 #[C0 0, C0 1] := by rw [hW1]; exact Row.new _ _ _
  have HR0 := Lib.hid hr0
  have hltW : w.heap.size ≤ W1.heap.size := hb0.size
  have HL0 : Hid (Lay.gra.lies W1 W1.heap.size e0 C0) := Lay.gra.later hL0 hb0 hb0.size
  have HL1 : Hid (Lay.exs.lies W1 W1.heap.size e1 C1) := Lay.exs.later hL1 hb0 hb0.size
  have HB0 := Lib.hid hb0
  have HW1 := Lib.hid hW1
  have HBn : Hid (∀ X, Below W1.heap.size W1 X → Below w.heap.size w X) := fun X h => HB0.out.trans (h.mono HB0.out.size)
  have HB_W1 : Hid (Below W1.heap.size W1 W1) := Below.refl _ _
  clear hb0 hW1 hr0 hL0 hL1
  obtain ⟨r0, hr0, hc0⟩ := room_next (left := 1048576) (n := Lay.gra.sz e0) (by omega) (by omega)
  have HRm0 := Lib.hid hr0
  clear hr0
  go_enter Try.func6, Try.ntmps6
  go_wp2_with fail
  rw [← HW1.out]
  refine (szGr_any e0 C0 1048576 _ (Lay.gra.later HL0.out HB_W1.out HB_W1.out.size) (by omega) (by omega)).mono ?_
  rintro e' w1 ⟨rfl, hb⟩
  rw [← HRm0.out]
  have HB_w1 : Hid (Below W1.heap.size W1 w1) := HB_W1.out.trans (hb.mono HB_W1.out.size)
  have hz_w1 : W1.heap.size ≤ w1.heap.size := hb.size
  clear hb
  rcases hc0 with hneg | ⟨hp, hq, hn0⟩
  · go_wp2_with fail
    go_ret
    exact ⟨rfl, HBn.out _ HB_w1.out⟩
  have HD0 : Hid (Lay.gra.sz e0 ≤ 1048576) := hn0
  clear hn0
  obtain ⟨r1, hr1, hc1⟩ := room_next (left := r0) (n := Lay.exs.sz e1) hp hq
  have HRm1 := Lib.hid hr1
  clear hr1
  go_wp2_with fail
  refine (szExs_any e1 C1 r0 _ (Lay.exs.later HL1.out HB_w1.out HB_w1.out.size) (by omega) (by omega)).mono ?_
  rintro e' w2 ⟨rfl, hb⟩
  rw [← HRm1.out]
  have HB_w2 : Hid (Below W1.heap.size W1 w2) := HB_w1.out.trans (hb.mono HB_w1.out.size)
  have hz_w2 : w1.heap.size ≤ w2.heap.size := hb.size
  clear hb
  clear hp hq
  rcases hc1 with hneg | ⟨hp, hq, hn1⟩
  · go_wp2_with fail
    go_ret
    exact ⟨rfl, HBn.out _ HB_w2.out⟩
  have HD1 : Hid (Lay.exs.sz e1 ≤ 1048576) := hn1
  clear hn1
  obtain ⟨vl0, hvl0⟩ : ∃ vl0 : List Int, vl0 = lgOut e0 e1 := ⟨_, rfl⟩
  have hln0 : vl0.length ≤ 1048576 := by rw [hvl0]; exact lgOut_len _ _ HD0.out
  have hlm0 : vl0.length ≤ maxLen := by unfold maxLen; omega
  have HLm0 := Lib.hid hlm0
  clear hlm0
  have HV0 := Lib.hid hvl0
  clear hvl0
  obtain ⟨vl1, hvl1⟩ : ∃ vl1 : Bool, vl1 = lgOk e0 e1 := ⟨_, rfl⟩
  have HV1 := Lib.hid hvl1
  clear hvl1
  obtain ⟨g00, g01⟩ := (HR0.out.under HB_w2.out HR0.out.lt).two
  go_wp2_with fail
  refine (toGr_any e0 C0 _ (Lay.gra.later HL0.out HB_w2.out HB_w2.out.size) HD0.out).mono ?_
  rintro e' w3 ⟨p0xa, p0xl, p0xc, p0ya, p0yl, p0yc, rfl, hs, hb⟩
  have HB_w3 : Hid (Below W1.heap.size W1 w3) := HB_w2.out.trans (hb.mono HB_w2.out.size)
  have hz_w3 : w2.heap.size ≤ w3.heap.size := hb.size
  have HSp0_w3 : Hid (Lay.gra.sep w3 w2.heap.size w3.heap.size e0 (fun j => (#[.slice p0xa p0xl p0xc, .slice p0ya p0yl p0yc] : Array Value).getD j undef)) := hs
  clear hs hb
  go_wp2_with fail
  refine (toExs_any e1 C1 _ (Lay.exs.later HL1.out HB_w3.out HB_w3.out.size) HD1.out).mono ?_
  rintro e' w4 ⟨p1xa, p1xl, p1xc, rfl, hs, hb⟩
  have HB_w4 : Hid (Below W1.heap.size W1 w4) := HB_w3.out.trans (hb.mono HB_w3.out.size)
  have hz_w4 : w3.heap.size ≤ w4.heap.size := hb.size
  have HSp0_w4 := Lib.hid (Lay.gra.sunder HSp0_w3.out hb (by omega))
  have HSp1_w4 : Hid (Lay.exs.sep w4 w3.heap.size w4.heap.size e1 (fun j => (#[.slice p1xa p1xl p1xc] : Array Value).getD j undef)) := hs
  clear hs hb HSp0_w3
  clear g00 g01
  go_wp2_with fail
  refine (specLg_any e0 (fun j => (#[.slice p0xa p0xl p0xc, .slice p0ya p0yl p0yc] : Array Value).getD j undef) e1 (fun j => (#[.slice p1xa p1xl p1xc] : Array Value).getD j undef) _ (Lay.gra.more (Lay.gra.sep_lies HSp0_w4.out) (by omega)) (Lay.exs.more (Lay.exs.sep_lies HSp1_w4.out) (by omega)) HD0.out HD1.out).mono ?_
  rintro e' w5 ⟨vp, rfl, hS, hb⟩
  rw [← HV1.out]
  have HB_w5 : Hid (Below W1.heap.size W1 w5) := HB_w4.out.trans (hb.mono HB_w4.out.size)
  have hz_w5 : w4.heap.size ≤ w5.heap.size := hb.size
  have HSp0_w5 := Lib.hid (Lay.gra.sunder HSp0_w4.out hb (by omega))
  have HSp1_w5 := Lib.hid (Lay.exs.sunder HSp1_w4.out hb (by omega))
  rw [← HV0.out] at hS
  have HGp_w5 : Hid ((Lay.int.slice 3).sep w5 w4.heap.size w5.heap.size vl0 (fun _ => vp)) := hS.sep HLm0.out hb.size
  clear hS
  clear hb HSp0_w4 HSp1_w4
  clear HSp0_w5
  clear HSp1_w5
  obtain ⟨g00, g01⟩ := (HR0.out.under HB_w5.out HR0.out.lt).two
  have gl0 : w.heap.size < w5.heap.size := Nat.lt_of_lt_of_le HR0.out.lt HB_w5.out.size
  go_wp2_with fail
  refine (toGr_any e0 C0 _ (Lay.gra.later HL0.out HB_w5.out HB_w5.out.size) HD0.out).mono ?_
  rintro e' w6 ⟨x0xa, x0xl, x0xc, x0ya, x0yl, x0yc, rfl, hs, hb⟩
  have HB_w6 : Hid (Below W1.heap.size W1 w6) := HB_w5.out.trans (hb.mono HB_w5.out.size)
  have hz_w6 : w5.heap.size ≤ w6.heap.size := hb.size
  have HGp_w6 := Lib.hid ((Lay.int.slice 3).sunder HGp_w5.out hb (by omega))
  have HSx0_w6 : Hid (Lay.gra.sep w6 w5.heap.size w6.heap.size e0 (fun j => (#[.slice x0xa x0xl x0xc, .slice x0ya x0yl x0yc] : Array Value).getD j undef)) := hs
  clear hs hb HGp_w5
  clear g00 g01 gl0
  obtain ⟨w7, hW⟩ : ∃ X, X = w6.alloc (.cells #[.slice x0xa x0xl x0xc, .slice x0ya x0yl x0yc] 69) := ⟨_, rfl⟩
  have HW_w7 := Lib.hid hW
  have hqq : Row w7 w6.heap.size 69 #[.slice x0xa x0xl x0xc, .slice x0ya x0yl x0yc] := by rw [hW]; exact Row.new _ _ _
  have hb : Below w6.heap.size w6 w7 := by rw [hW]; exact (Below.refl _ _).alloc (Nat.le_refl _) _
  have hs_w7 : w6.heap.size < w7.heap.size := hqq.lt
  have HB_w7 : Hid (Below W1.heap.size W1 w7) := HB_w6.out.trans (hb.mono HB_w6.out.size)
  have hz_w7 : w6.heap.size ≤ w7.heap.size := hb.size
  have HGp_w7 := Lib.hid ((Lay.int.slice 3).sunder HGp_w6.out hb (by omega))
  have HSx0_w7 := Lib.hid (Lay.gra.sunder HSx0_w6.out hb (by omega))
  have HQ0_w7 := Lib.hid hqq
  clear hW hb hqq HGp_w6 HSx0_w6
  go_wp2_with fail
  rw [← HW_w7.out]
  refine (toExs_any e1 C1 _ (Lay.exs.later HL1.out HB_w7.out HB_w7.out.size) HD1.out).mono ?_
  rintro e' w8 ⟨x1xa, x1xl, x1xc, rfl, hs, hb⟩
  have HB_w8 : Hid (Below W1.heap.size W1 w8) := HB_w7.out.trans (hb.mono HB_w7.out.size)
  have hz_w8 : w7.heap.size ≤ w8.heap.size := hb.size
  have HGp_w8 := Lib.hid ((Lay.int.slice 3).sunder HGp_w7.out hb (by omega))
  have HSx0_w8 := Lib.hid (Lay.gra.sunder HSx0_w7.out hb (by omega))
  have HQ0_w8 := Lib.hid (HQ0_w7.out.under hb HQ0_w7.out.lt)
  have HSx1_w8 : Hid (Lay.exs.sep w8 w7.heap.size w8.heap.size e1 (fun j => (#[.slice x1xa x1xl x1xc] : Array Value).getD j undef)) := hs
  clear hs hb HGp_w7 HSx0_w7 HQ0_w7
  obtain ⟨q00, q01⟩ := HQ0_w8.out.two
  have ql0 := HQ0_w8.out.lt
  go_wp2_with fail
  refine (implLg_any e0 (fun j => (#[.slice x0xa x0xl x0xc, .slice x0ya x0yl x0yc] : Array Value).getD j undef) e1 (fun j => (#[.slice x1xa x1xl x1xc] : Array Value).getD j undef) _ (Lay.gra.more (Lay.gra.sep_lies HSx0_w8.out) (by omega)) (Lay.exs.more (Lay.exs.sep_lies HSx1_w8.out) (by omega)) HD0.out HD1.out).mono ?_
  rintro e' w9 ⟨vx, rfl, hS, hb⟩
  rw [← HV1.out]
  have HB_w9 : Hid (Below W1.heap.size W1 w9) := HB_w8.out.trans (hb.mono HB_w8.out.size)
  have hz_w9 : w8.heap.size ≤ w9.heap.size := hb.size
  have HGp_w9 := Lib.hid ((Lay.int.slice 3).sunder HGp_w8.out hb (by omega))
  have HSx0_w9 := Lib.hid (Lay.gra.sunder HSx0_w8.out hb (by omega))
  have HQ0_w9 := Lib.hid (HQ0_w8.out.under hb HQ0_w8.out.lt)
  have HSx1_w9 := Lib.hid (Lay.exs.sunder HSx1_w8.out hb (by omega))
  rw [← HV0.out] at hS
  have HGx_w9 : Hid ((Lay.int.slice 3).sep w9 w8.heap.size w9.heap.size vl0 (fun _ => vx)) := hS.sep HLm0.out hb.size
  clear hS
  clear hb HGp_w8 HSx0_w8 HQ0_w8 HSx1_w8
  clear q00 q01 ql0
  go_wp2_with fail
  refine (eqRes_any vl0 vx vp _ ((Lay.int.slice 3).more ((Lay.int.slice 3).sep_lies HGx_w9.out) (by omega)) ((Lay.int.slice 3).more ((Lay.int.slice 3).sep_lies HGp_w9.out) (by omega))).mono ?_
  rintro e' w10 ⟨rfl, hb⟩
  have HB_w10 : Hid (Below W1.heap.size W1 w10) := HB_w9.out.trans (hb.mono HB_w9.out.size)
  have hz_w10 : w9.heap.size ≤ w10.heap.size := hb.size
  have HGp_w10 := Lib.hid ((Lay.int.slice 3).sunder HGp_w9.out hb (by omega))
  have HSx0_w10 := Lib.hid (Lay.gra.sunder HSx0_w9.out hb (by omega))
  have HQ0_w10 := Lib.hid (HQ0_w9.out.under hb HQ0_w9.out.lt)
  have HSx1_w10 := Lib.hid (Lay.exs.sunder HSx1_w9.out hb (by omega))
  have HGx_w10 := Lib.hid ((Lay.int.slice 3).sunder HGx_w9.out hb (by omega))
  clear hb HGp_w9 HSx0_w9 HQ0_w9 HSx1_w9 HGx_w9
  obtain ⟨g00, g01⟩ := (HR0.out.under HB_w10.out HR0.out.lt).two
  have gl0 : w.heap.size < w10.heap.size := Nat.lt_of_lt_of_le HR0.out.lt HB_w10.out.size
  obtain ⟨q00, q01⟩ := HQ0_w10.out.two
  have ql0 := HQ0_w10.out.lt
  have HKS : Hid (∀ X, Below w10.heap.size w10 X → (fun w' => w'.cell? ⟨w.heap.size, 0, none⟩ = some (C0 0) ∧ w'.cell? ⟨w.heap.size, 1, none⟩ = some (C0 1) ∧ w'.cell? ⟨w6.heap.size, 0, none⟩ = some (.slice x0xa x0xl x0xc) ∧ w'.cell? ⟨w6.heap.size, 1, none⟩ = some (.slice x0ya x0yl x0yc)) X) := fun X h => ⟨((HR0.out.under HB_w10.out HR0.out.lt).under h (Nat.lt_of_lt_of_le HR0.out.lt HB_w10.out.size)).cell 0, ((HR0.out.under HB_w10.out HR0.out.lt).under h (Nat.lt_of_lt_of_le HR0.out.lt HB_w10.out.size)).cell 1, (HQ0_w10.out.under h HQ0_w10.out.lt).cell 0, (HQ0_w10.out.under h HQ0_w10.out.lt).cell 1⟩
  go_upto_region 14 with fail
  go_cut [58] from 54 to 57 (fun bb wx => bb = .bool false ∧ Hid (Below w10.heap.size w10 wx))
  case first =>
    have HBX_w10 : Hid (Below w10.heap.size w10 w10) := Below.refl _ _
    refine wp_region_held_drew (S := (fun w' => w'.cell? ⟨w.heap.size, 0, none⟩ = some (C0 0) ∧ w'.cell? ⟨w.heap.size, 1, none⟩ = some (C0 1) ∧ w'.cell? ⟨w6.heap.size, 0, none⟩ = some (.slice x0xa x0xl x0xc) ∧ w'.cell? ⟨w6.heap.size, 1, none⟩ = some (.slice x0ya x0yl x0yc))) (by kernel_rfl) ?_ (fun hHeld => ?_)
    · exact HKS.out _ HBX_w10.out.drew
    obtain ⟨w11, hX0⟩ : ∃ X, X = w10.drew := ⟨_, rfl⟩
    rw [← hX0] at hHeld ⊢
    have hb : Below w10.heap.size w10 w11 := by rw [hX0]; exact (Below.refl _ _).drew
    have HB_w11 : Hid (Below W1.heap.size W1 w11) := HB_w10.out.trans (hb.mono HB_w10.out.size)
    have hz_w11 : w10.heap.size ≤ w11.heap.size := hb.size
    have HBX_w11 : Hid (Below w10.heap.size w10 w11) := HBX_w10.out.trans (hb.mono HBX_w10.out.size)
    have HGp_w11 := Lib.hid ((Lay.int.slice 3).sunder HGp_w10.out hb (by omega))
    have HSx0_w11 := Lib.hid (Lay.gra.sunder HSx0_w10.out hb (by omega))
    have HQ0_w11 := Lib.hid (HQ0_w10.out.under hb HQ0_w10.out.lt)
    have HSx1_w11 := Lib.hid (Lay.exs.sunder HSx1_w10.out hb (by omega))
    have HGx_w11 := Lib.hid ((Lay.int.slice 3).sunder HGx_w10.out hb (by omega))
    clear hX0 hb HGp_w10 HSx0_w10 HQ0_w10 HSx1_w10 HGx_w10
    refine wpAnyH_take (i := 0) (oi := { dst := some 54, op := Go.Op.load 69 (Go.Operand.tmp 8), type := 69, pos := "exact.go:5065", after := #[], guard := none }) (v := ?_) rfl (by kernel_rfl) (by kernel_rfl) (by kernel_rfl) (fun _ _ _ h => h) (Or.inl ⟨by rfl, ?_⟩) (by assumption) ?_
    rotate_left
    · intro w hSw
      try dsimp only at hSw
      go_simp
      all_goals (with_reducible rfl)
    try simp only [Act.put, List.setIfInBounds_toArray, List.set_cons_zero, List.set_cons_succ]
    refine wpAnyH_take (i := 1) (oi := { dst := some 55, op := Go.Op.load 61 (Go.Operand.tmp 2), type := 61, pos := "exact.go:5065", after := #[], guard := none }) (v := ?_) rfl (by kernel_rfl) (by kernel_rfl) (by kernel_rfl) (fun _ _ _ h => h) (Or.inl ⟨by rfl, ?_⟩) (by assumption) ?_
    rotate_left
    · intro w hSw
      try dsimp only at hSw
      go_simp
      all_goals (with_reducible rfl)
    try simp only [Act.put, List.setIfInBounds_toArray, List.set_cons_zero, List.set_cons_succ]
    refine wpAnyH_ready (rs := [2]) (by kernel_rfl) (by simp) (AllReadyH.cons (o := { dst := some 56, op := Go.Op.call { callee := Go.Callee.value (Go.Operand.func 30), args := #[Go.Operand.tmp 55], argTypes := #[61] }, type := 69, pos := "exact.go:5065", after := #[{ on := 1, ground := Go.Ground.data }], guard := none }) rfl (fun K hK => ?_) AllReadyH.nil)
    go_simp
    refine (toGr_any e0 C0 _ (Lay.gra.later HL0.out HB_w11.out HB_w11.out.size) HD0.out).mono ?_
    rintro e' w12 ⟨t0xa, t0xl, t0xc, t0ya, t0yl, t0yc, rfl, hs, hb⟩
    have HB_w12 : Hid (Below W1.heap.size W1 w12) := HB_w11.out.trans (hb.mono HB_w11.out.size)
    have hz_w12 : w11.heap.size ≤ w12.heap.size := hb.size
    have HBX_w12 : Hid (Below w10.heap.size w10 w12) := HBX_w11.out.trans (hb.mono HBX_w11.out.size)
    have HGp_w12 := Lib.hid ((Lay.int.slice 3).sunder HGp_w11.out hb (by omega))
    have HSx0_w12 := Lib.hid (Lay.gra.sunder HSx0_w11.out hb (by omega))
    have HQ0_w12 := Lib.hid (HQ0_w11.out.under hb HQ0_w11.out.lt)
    have HSx1_w12 := Lib.hid (Lay.exs.sunder HSx1_w11.out hb (by omega))
    have HGx_w12 := Lib.hid ((Lay.int.slice 3).sunder HGx_w11.out hb (by omega))
    have HSt0_w12 : Hid (Lay.gra.sep w12 w11.heap.size w12.heap.size e0 (fun j => (#[.slice t0xa t0xl t0xc, .slice t0ya t0yl t0yc] : Array Value).getD j undef)) := hs
    clear hs hb HGp_w11 HSx0_w11 HQ0_w11 HSx1_w11 HGx_w11
    try go_wp2_with fail
    refine hK.out _ _ ?_ (fun hHeld => ?_)
    · exact HKS.out _ HBX_w12.out
    clear hK K
    try simp only [Act.put, List.setIfInBounds_toArray, List.set_cons_zero, List.set_cons_succ]
    refine wpAnyH_ready (rs := [3]) (by kernel_rfl) (by simp) (AllReadyH.cons (o := { dst := some 57, op := Go.Op.call { callee := Go.Callee.value (Go.Operand.func 34), args := #[Go.Operand.tmp 54, Go.Operand.tmp 56], argTypes := #[69, 69] }, type := 4, pos := "exact.go:5065", after := #[{ on := 0, ground := Go.Ground.data }, { on := 2, ground := Go.Ground.data }, { on := 2, ground := Go.Ground.chain }], guard := none }) rfl (fun K hK => ?_) AllReadyH.nil)
    go_simp
    refine (eqGr_any e0 (fun j => (#[.slice x0xa x0xl x0xc, .slice x0ya x0yl x0yc] : Array Value).getD j undef) (fun j => (#[.slice t0xa t0xl t0xc, .slice t0ya t0yl t0yc] : Array Value).getD j undef) _ (Lay.gra.more (Lay.gra.sep_lies HSx0_w12.out) (by omega)) (Lay.gra.more (Lay.gra.sep_lies HSt0_w12.out) (by omega))).mono ?_
    rintro e' w13 ⟨rfl, hb⟩
    have HB_w13 : Hid (Below W1.heap.size W1 w13) := HB_w12.out.trans (hb.mono HB_w12.out.size)
    have hz_w13 : w12.heap.size ≤ w13.heap.size := hb.size
    have HBX_w13 : Hid (Below w10.heap.size w10 w13) := HBX_w12.out.trans (hb.mono HBX_w12.out.size)
    have HGp_w13 := Lib.hid ((Lay.int.slice 3).sunder HGp_w12.out hb (by omega))
    have HSx0_w13 := Lib.hid (Lay.gra.sunder HSx0_w12.out hb (by omega))
    have HQ0_w13 := Lib.hid (HQ0_w12.out.under hb HQ0_w12.out.lt)
    have HSx1_w13 := Lib.hid (Lay.exs.sunder HSx1_w12.out hb (by omega))
    have HGx_w13 := Lib.hid ((Lay.int.slice 3).sunder HGx_w12.out hb (by omega))
    have HSt0_w13 := Lib.hid (Lay.gra.sunder HSt0_w12.out hb (by omega))
    clear hb HGp_w12 HSx0_w12 HQ0_w12 HSx1_w12 HGx_w12 HSt0_w12
    try go_wp2_with fail
    refine hK.out _ _ ?_ (fun hHeld => ?_)
    · exact HKS.out _ HBX_w13.out
    clear hK K
    try simp only [Act.put, List.setIfInBounds_toArray, List.set_cons_zero, List.set_cons_succ]
    refine wpAnyH_take (i := 4) (oi := { dst := some 58, op := Go.Op.unOp Go.UnOp.not 4 (Go.Operand.tmp 57), type := 4, pos := "exact.go:5065", after := #[{ on := 3, ground := Go.Ground.data }], guard := none }) (v := ?_) rfl (by kernel_rfl) (by kernel_rfl) (by kernel_rfl) (fun _ _ _ h => h) (Or.inl ⟨by rfl, ?_⟩) (by assumption) ?_
    rotate_left
    · intro w hSw
      try dsimp only at hSw
      go_simp
      all_goals (with_reducible rfl)
    try simp only [Act.put, List.setIfInBounds_toArray, List.set_cons_zero, List.set_cons_succ]
    refine wpAnyH_done (by kernel_rfl) ?_ _
    go_wp2_with fail
    go_meet
    exact ⟨rfl, HBX_w13⟩
  case rest =>
  obtain ⟨rfl, HBc⟩ := hcut
  obtain ⟨w14, rfl⟩ : ∃ x, x = wc := ⟨_, rfl⟩
  have hb : Below w10.heap.size w10 w14 := HBc.out
  have HB_w14 : Hid (Below W1.heap.size W1 w14) := HB_w10.out.trans (hb.mono HB_w10.out.size)
  have hz_w14 : w10.heap.size ≤ w14.heap.size := hb.size
  have HGp_w14 := Lib.hid ((Lay.int.slice 3).sunder HGp_w10.out hb (by omega))
  have HSx0_w14 := Lib.hid (Lay.gra.sunder HSx0_w10.out hb (by omega))
  have HQ0_w14 := Lib.hid (HQ0_w10.out.under hb HQ0_w10.out.lt)
  have HSx1_w14 := Lib.hid (Lay.exs.sunder HSx1_w10.out hb (by omega))
  have HGx_w14 := Lib.hid ((Lay.int.slice 3).sunder HGx_w10.out hb (by omega))
  clear hb HBc HKS HGp_w10 HSx0_w10 HQ0_w10 HSx1_w10 HGx_w10
  clear g00 g01 gl0 q00 q01 ql0
  go_wp2_with fail
  refine (toExs_any e1 C1 _ (Lay.exs.later HL1.out HB_w14.out HB_w14.out.size) HD1.out).mono ?_
  rintro e' w15 ⟨t1xa, t1xl, t1xc, rfl, hs, hb⟩
  have HB_w15 : Hid (Below W1.heap.size W1 w15) := HB_w14.out.trans (hb.mono HB_w14.out.size)
  have hz_w15 : w14.heap.size ≤ w15.heap.size := hb.size
  have HGp_w15 := Lib.hid ((Lay.int.slice 3).sunder HGp_w14.out hb (by omega))
  have HSx0_w15 := Lib.hid (Lay.gra.sunder HSx0_w14.out hb (by omega))
  have HQ0_w15 := Lib.hid (HQ0_w14.out.under hb HQ0_w14.out.lt)
  have HSx1_w15 := Lib.hid (Lay.exs.sunder HSx1_w14.out hb (by omega))
  have HGx_w15 := Lib.hid ((Lay.int.slice 3).sunder HGx_w14.out hb (by omega))
  have HSt1_w15 : Hid (Lay.exs.sep w15 w14.heap.size w15.heap.size e1 (fun j => (#[.slice t1xa t1xl t1xc] : Array Value).getD j undef)) := hs
  clear hs hb HGp_w14 HSx0_w14 HQ0_w14 HSx1_w14 HGx_w14
  go_wp2_with fail
  refine (eqExs_any e1 (fun j => (#[.slice x1xa x1xl x1xc] : Array Value).getD j undef) (fun j => (#[.slice t1xa t1xl t1xc] : Array Value).getD j undef) _ (Lay.exs.more (Lay.exs.sep_lies HSx1_w15.out) (by omega)) (Lay.exs.more (Lay.exs.sep_lies HSt1_w15.out) (by omega))).mono ?_
  rintro e' w16 ⟨rfl, hb⟩
  have HB_w16 : Hid (Below W1.heap.size W1 w16) := HB_w15.out.trans (hb.mono HB_w15.out.size)
  have hz_w16 : w15.heap.size ≤ w16.heap.size := hb.size
  have HGp_w16 := Lib.hid ((Lay.int.slice 3).sunder HGp_w15.out hb (by omega))
  have HSx0_w16 := Lib.hid (Lay.gra.sunder HSx0_w15.out hb (by omega))
  have HQ0_w16 := Lib.hid (HQ0_w15.out.under hb HQ0_w15.out.lt)
  have HSx1_w16 := Lib.hid (Lay.exs.sunder HSx1_w15.out hb (by omega))
  have HGx_w16 := Lib.hid ((Lay.int.slice 3).sunder HGx_w15.out hb (by omega))
  have HSt1_w16 := Lib.hid (Lay.exs.sunder HSt1_w15.out hb (by omega))
  clear hb HGp_w15 HSx0_w15 HQ0_w15 HSx1_w15 HGx_w15 HSt1_w15
  clear HSt1_w16
  obtain ⟨q00, q01⟩ := HQ0_w16.out.two
  have ql0 := HQ0_w16.out.lt
  go_wp2_with fail
  refine (mkGrM_any e0 1 x0xa x0xl x0xc x0ya x0yl x0yc w5.heap.size w6.heap.size _ HSx0_w16.out (by omega) HD0.out (by omega) (by omega)).mono ?_
  rintro e' w17 ⟨k0, rfl, hk0_0, hk1_0, hk⟩
  have HB_w17 : Hid (Below W1.heap.size W1 w17) := HB_w16.out.trans (hk.below (by omega) (by omega))
  have hz_w17 : w16.heap.size ≤ w17.heap.size := hk.size
  clear q00 q01 ql0
  clear HSx0_w16
  have HGp_w17 : Hid ((Lay.int.slice 3).sep w17 w4.heap.size w5.heap.size vl0 (fun _ => vp)) := (Lay.int.slice 3).sep_keep (fun q b1 b2 => hk.other q (by omega) (by omega)) HGp_w16.out
  have HQ0_w17 := Lib.hid (HQ0_w16.out.kept hk (by omega))
  have HSx1_w17 : Hid (Lay.exs.sep w17 w7.heap.size w8.heap.size e1 (fun j => (#[.slice x1xa x1xl x1xc] : Array Value).getD j undef)) := Lay.exs.sep_keep (fun q b1 b2 => hk.other q (by omega) (by omega)) HSx1_w16.out
  have HGx_w17 : Hid ((Lay.int.slice 3).sep w17 w8.heap.size w9.heap.size vl0 (fun _ => vx)) := (Lay.int.slice 3).sep_keep (fun q b1 b2 => hk.other q (by omega) (by omega)) HGx_w16.out
  clear hk HGp_w16 HQ0_w16 HSx1_w16 HGx_w16
  go_wp2_with fail
  refine (mkExs_any e1 k0 x1xa x1xl x1xc w7.heap.size w8.heap.size _ HSx1_w17.out (by omega) HD1.out (by omega) (by omega)).mono ?_
  rintro e' w18 ⟨k1, rfl, hk0_1, hk1_1, hk⟩
  have HB_w18 : Hid (Below W1.heap.size W1 w18) := HB_w17.out.trans (hk.below (by omega) (by omega))
  have hz_w18 : w17.heap.size ≤ w18.heap.size := hk.size
  clear HSx1_w17
  have HGp_w18 : Hid ((Lay.int.slice 3).sep w18 w4.heap.size w5.heap.size vl0 (fun _ => vp)) := (Lay.int.slice 3).sep_keep (fun q b1 b2 => hk.other q (by omega) (by omega)) HGp_w17.out
  have HQ0_w18 := Lib.hid (HQ0_w17.out.kept hk (by omega))
  have HGx_w18 : Hid ((Lay.int.slice 3).sep w18 w8.heap.size w9.heap.size vl0 (fun _ => vx)) := (Lay.int.slice 3).sep_keep (fun q b1 b2 => hk.other q (by omega) (by omega)) HGx_w17.out
  clear hk HGp_w17 HQ0_w17 HGx_w17
  go_wp2_with fail
  refine (eqRes_any vl0 vx vp _ ((Lay.int.slice 3).more ((Lay.int.slice 3).sep_lies HGx_w18.out) (by omega)) ((Lay.int.slice 3).more ((Lay.int.slice 3).sep_lies HGp_w18.out) (by omega))).mono ?_
  rintro e' w19 ⟨rfl, hb⟩
  have HB_w19 : Hid (Below W1.heap.size W1 w19) := HB_w18.out.trans (hb.mono HB_w18.out.size)
  have hz_w19 : w18.heap.size ≤ w19.heap.size := hb.size
  have HGp_w19 := Lib.hid ((Lay.int.slice 3).sunder HGp_w18.out hb (by omega))
  have HQ0_w19 := Lib.hid (HQ0_w18.out.under hb HQ0_w18.out.lt)
  have HGx_w19 := Lib.hid ((Lay.int.slice 3).sunder HGx_w18.out hb (by omega))
  clear hb HGp_w18 HQ0_w18 HGx_w18
  go_wp2_with fail
  refine (mkInX_any vl0 (fun _ => vx) 1 w8.heap.size w9.heap.size _ HGx_w19.out hln0 (by omega) (by omega)).mono ?_
  rintro e' w20 ⟨rfl, hsf, hk⟩
  have HB_w20 : Hid (Below W1.heap.size W1 w20) := HB_w19.out.trans (hk.below (by omega) (by omega))
  have hz_w20 : w19.heap.size ≤ w20.heap.size := hk.size
  have HGm_w20 := Lib.hid hsf
  have HGp_w20 : Hid ((Lay.int.slice 3).sep w20 w4.heap.size w5.heap.size vl0 (fun _ => vp)) := (Lay.int.slice 3).sep_keep (fun q b1 b2 => hk.other q (by omega) (by omega)) HGp_w19.out
  have HQ0_w20 := Lib.hid (HQ0_w19.out.kept hk (by omega))
  clear hk hsf HGx_w19 HGp_w19 HQ0_w19
  go_wp2_with fail
  refine (heldIn_any vl0.length (fun _ => vx) 1 _ ((Lay.int.slice 3).more ((Lay.int.slice 3).sep_lies HGm_w20.out) (by omega)) hln0 (by omega) (by omega)).mono ?_
  rintro e' wheld ⟨rfl, rfl⟩
  obtain ⟨g00, g01⟩ := (HR0.out.under HB_w20.out HR0.out.lt).two
  have gl0 : w.heap.size < w20.heap.size := Nat.lt_of_lt_of_le HR0.out.lt HB_w20.out.size
  go_wp2_with fail
  refine (toGr_any e0 C0 _ (Lay.gra.later HL0.out HB_w20.out HB_w20.out.size) HD0.out).mono ?_
  rintro e' w21 ⟨h0xa, h0xl, h0xc, h0ya, h0yl, h0yc, rfl, hs, hb⟩
  have HB_w21 : Hid (Below W1.heap.size W1 w21) := HB_w20.out.trans (hb.mono HB_w20.out.size)
  have hz_w21 : w20.heap.size ≤ w21.heap.size := hb.size
  have HGp_w21 := Lib.hid ((Lay.int.slice 3).sunder HGp_w20.out hb (by omega))
  have HQ0_w21 := Lib.hid (HQ0_w20.out.under hb HQ0_w20.out.lt)
  have HGm_w21 := Lib.hid ((Lay.int.slice 3).sunder HGm_w20.out hb (by omega))
  have HSh0_w21 : Hid (Lay.gra.sep w21 w20.heap.size w21.heap.size e0 (fun j => (#[.slice h0xa h0xl h0xc, .slice h0ya h0yl h0yc] : Array Value).getD j undef)) := hs
  clear hs hb HGp_w20 HQ0_w20 HGm_w20
  go_wp2_with fail
  refine (toExs_any e1 C1 _ (Lay.exs.later HL1.out HB_w21.out HB_w21.out.size) HD1.out).mono ?_
  rintro e' w22 ⟨h1xa, h1xl, h1xc, rfl, hs, hb⟩
  have HB_w22 : Hid (Below W1.heap.size W1 w22) := HB_w21.out.trans (hb.mono HB_w21.out.size)
  have hz_w22 : w21.heap.size ≤ w22.heap.size := hb.size
  have HGp_w22 := Lib.hid ((Lay.int.slice 3).sunder HGp_w21.out hb (by omega))
  have HQ0_w22 := Lib.hid (HQ0_w21.out.under hb HQ0_w21.out.lt)
  have HGm_w22 := Lib.hid ((Lay.int.slice 3).sunder HGm_w21.out hb (by omega))
  have HSh0_w22 := Lib.hid (Lay.gra.sunder HSh0_w21.out hb (by omega))
  have HSh1_w22 : Hid (Lay.exs.sep w22 w21.heap.size w22.heap.size e1 (fun j => (#[.slice h1xa h1xl h1xc] : Array Value).getD j undef)) := hs
  clear hs hb HGp_w21 HQ0_w21 HGm_w21 HSh0_w21
  clear g00 g01 gl0
  go_wp2_with fail
  refine (implLg_any e0 (fun j => (#[.slice h0xa h0xl h0xc, .slice h0ya h0yl h0yc] : Array Value).getD j undef) e1 (fun j => (#[.slice h1xa h1xl h1xc] : Array Value).getD j undef) _ (Lay.gra.more (Lay.gra.sep_lies HSh0_w22.out) (by omega)) (Lay.exs.more (Lay.exs.sep_lies HSh1_w22.out) (by omega)) HD0.out HD1.out).mono ?_
  rintro e' w23 ⟨vh, rfl, hS, hb⟩
  rw [← HV1.out]
  have HB_w23 : Hid (Below W1.heap.size W1 w23) := HB_w22.out.trans (hb.mono HB_w22.out.size)
  have hz_w23 : w22.heap.size ≤ w23.heap.size := hb.size
  have HGp_w23 := Lib.hid ((Lay.int.slice 3).sunder HGp_w22.out hb (by omega))
  have HQ0_w23 := Lib.hid (HQ0_w22.out.under hb HQ0_w22.out.lt)
  have HGm_w23 := Lib.hid ((Lay.int.slice 3).sunder HGm_w22.out hb (by omega))
  have HSh0_w23 := Lib.hid (Lay.gra.sunder HSh0_w22.out hb (by omega))
  have HSh1_w23 := Lib.hid (Lay.exs.sunder HSh1_w22.out hb (by omega))
  rw [← HV0.out] at hS
  have HGh_w23 : Hid ((Lay.int.slice 3).sep w23 w22.heap.size w23.heap.size vl0 (fun _ => vh)) := hS.sep HLm0.out hb.size
  clear hS
  clear hb HGp_w22 HQ0_w22 HGm_w22 HSh0_w22 HSh1_w22
  clear HSh0_w23
  clear HSh1_w23
  go_wp2_with fail
  refine (eqRes_any vl0 vh vp _ ((Lay.int.slice 3).more ((Lay.int.slice 3).sep_lies HGh_w23.out) (by omega)) ((Lay.int.slice 3).more ((Lay.int.slice 3).sep_lies HGp_w23.out) (by omega))).mono ?_
  rintro e' w24 ⟨rfl, hb⟩
  have HB_w24 : Hid (Below W1.heap.size W1 w24) := HB_w23.out.trans (hb.mono HB_w23.out.size)
  have hz_w24 : w23.heap.size ≤ w24.heap.size := hb.size
  have HGp_w24 := Lib.hid ((Lay.int.slice 3).sunder HGp_w23.out hb (by omega))
  have HQ0_w24 := Lib.hid (HQ0_w23.out.under hb HQ0_w23.out.lt)
  have HGm_w24 := Lib.hid ((Lay.int.slice 3).sunder HGm_w23.out hb (by omega))
  have HGh_w24 := Lib.hid ((Lay.int.slice 3).sunder HGh_w23.out hb (by omega))
  clear hb HGp_w23 HQ0_w23 HGm_w23 HGh_w23
  go_wp2_with fail
  refine (heldIn_any vl0.length (fun _ => vx) 1 _ ((Lay.int.slice 3).more ((Lay.int.slice 3).sep_lies HGm_w24.out) (by omega)) hln0 (by omega) (by omega)).mono ?_
  rintro e' wheld ⟨rfl, rfl⟩
  go_wp2_with fail
  go_ret
  exact ⟨rfl, HBn.out _ HB_w24.out⟩

end Go.Proofs.Ytldnegacgjijlaa

/- The walk of the law laws.FnExactLabelState. -/
import Derived.Test.YtnkicididcnkbaaLeV
import Derived.Test.YtnkicididcnkbaaSta
import Derived.Test.YtnkicididcnkbaaNx
import Derived.Deep.RegionHeld3
import Derived.Deep.RegionWith
import Derived.Deep.Cut
import Derived.Deep.CutRange
namespace Go.Proofs.Ytnkicididcnkbaa
open Go.RowKit

set_option maxHeartbeats 4000000 in
set_option maxRecDepth 100000 in
theorem lawLe_any (e0 : St) (C0 : Nat → Value) (e1 : List Ex) (C1 : Nat → Value) (w : World) (hL0 : Lay.sta.lies w w.heap.size e0 C0) (hL1 : Lay.exs.lies w w.heap.size e1 C1) :
    Calls Try.prog 4 #[.agg #[C0 0, C0 1], C1 0] w fun e' w' => e' = .returned (.bool true) ∧ Below w.heap.size w w' := by
  obtain ⟨W1, hW1⟩ : ∃ W1, W1 = w.alloc (.cells #[C0 0, C0 1] 31) := ⟨_, rfl⟩
  have hb0 : Below w.heap.size w W1 := by rw [hW1]; exact (Below.refl _ _).alloc (Nat.le_refl _) _
  have hr0 : Row W1 w.heap.size 31 #[C0 0, C0 1] := by rw [hW1]; exact Row.new _ _ _
  have HR0 := Lib.hid hr0
  have hltW : w.heap.size ≤ W1.heap.size := hb0.size
  have HL0 : Hid (Lay.sta.lies W1 W1.heap.size e0 C0) := Lay.sta.later hL0 hb0 hb0.size
  have HL1 : Hid (Lay.exs.lies W1 W1.heap.size e1 C1) := Lay.exs.later hL1 hb0 hb0.size
  have HB0 := Lib.hid hb0
  have HW1 := Lib.hid hW1
  have HBn : Hid (∀ X, Below W1.heap.size W1 X → Below w.heap.size w X) := fun X h => HB0.out.trans (h.mono HB0.out.size)
  have HB_W1 : Hid (Below W1.heap.size W1 W1) := Below.refl _ _
  clear hb0 hW1 hr0 hL0 hL1
  obtain ⟨r0, hr0, hc0⟩ := room_next (left := 1048576) (n := Lay.sta.sz e0) (by omega) (by omega)
  have HRm0 := Lib.hid hr0
  clear hr0
  go_enter Try.func4, Try.ntmps4
  go_wp2_with fail
  rw [← HW1.out]
  refine (szSt_any e0 C0 1048576 _ (Lay.sta.later HL0.out HB_W1.out HB_W1.out.size) (by omega) (by omega)).mono ?_
  rintro e' w1 ⟨rfl, hb⟩
  rw [← HRm0.out]
  have HB_w1 : Hid (Below W1.heap.size W1 w1) := HB_W1.out.trans (hb.mono HB_W1.out.size)
  have hz_w1 : W1.heap.size ≤ w1.heap.size := hb.size
  clear hb
  rcases hc0 with hneg | ⟨hp, hq, hn0⟩
  · go_wp2_with fail
    go_ret
    exact ⟨rfl, HBn.out _ HB_w1.out⟩
  have HD0 : Hid (Lay.sta.sz e0 ≤ 1048576) := hn0
  clear hn0
  obtain ⟨r1, hr1, hc1⟩ := room_next (left := r0) (n := Lay.exs.sz e1) hp hq
  have HRm1 := Lib.hid hr1
  clear hr1
  go_wp2_with fail
  refine (szExs_any e1 C1 r0 _ (Lay.exs.later HL1.out HB_w1.out HB_w1.out.size) (by omega) (by omega)).mono ?_
  rintro e' w2 ⟨rfl, hb⟩
  rw [← HRm1.out]
  have HB_w2 : Hid (Below W1.heap.size W1 w2) := HB_w1.out.trans (hb.mono HB_w1.out.size)
  have hz_w2 : w1.heap.size ≤ w2.heap.size := hb.size
  clear hb
  clear hp hq
  rcases hc1 with hneg | ⟨hp, hq, hn1⟩
  · go_wp2_with fail
    go_ret
    exact ⟨rfl, HBn.out _ HB_w2.out⟩
  have HD1 : Hid (Lay.exs.sz e1 ≤ 1048576) := hn1
  clear hn1
  obtain ⟨vl0, hvl0⟩ : ∃ vl0 : Int, vl0 = leOut e0 e1 := ⟨_, rfl⟩
  have HV0 := Lib.hid hvl0
  clear hvl0
  obtain ⟨vl1, hvl1⟩ : ∃ vl1 : Bool, vl1 = leOk e0 e1 := ⟨_, rfl⟩
  have HV1 := Lib.hid hvl1
  clear hvl1
  obtain ⟨g00, g01⟩ := (HR0.out.under HB_w2.out HR0.out.lt).two
  go_wp2_with fail
  refine (toSt_any e0 C0 _ (Lay.sta.later HL0.out HB_w2.out HB_w2.out.size) HD0.out).mono ?_
  rintro e' w3 ⟨p0xa, p0xl, p0xc, p0ya, p0yl, p0yc, rfl, hs, hb⟩
  have HB_w3 : Hid (Below W1.heap.size W1 w3) := HB_w2.out.trans (hb.mono HB_w2.out.size)
  have hz_w3 : w2.heap.size ≤ w3.heap.size := hb.size
  have HSp0_w3 : Hid (Lay.sta.sep w3 w2.heap.size w3.heap.size e0 (fun j => (#[.slice p0xa p0xl p0xc, .slice p0ya p0yl p0yc] : Array Value).getD j undef)) := hs
  clear hs hb
  go_wp2_with fail
  refine (toExs_any e1 C1 _ (Lay.exs.later HL1.out HB_w3.out HB_w3.out.size) HD1.out).mono ?_
  rintro e' w4 ⟨p1xa, p1xl, p1xc, rfl, hs, hb⟩
  have HB_w4 : Hid (Below W1.heap.size W1 w4) := HB_w3.out.trans (hb.mono HB_w3.out.size)
  have hz_w4 : w3.heap.size ≤ w4.heap.size := hb.size
  have HSp0_w4 := Lib.hid (Lay.sta.sunder HSp0_w3.out hb (by omega))
  have HSp1_w4 : Hid (Lay.exs.sep w4 w3.heap.size w4.heap.size e1 (fun j => (#[.slice p1xa p1xl p1xc] : Array Value).getD j undef)) := hs
  clear hs hb HSp0_w3
  clear g00 g01
  go_wp2_with fail
  refine (specLe_any e0 (fun j => (#[.slice p0xa p0xl p0xc, .slice p0ya p0yl p0yc] : Array Value).getD j undef) e1 (fun j => (#[.slice p1xa p1xl p1xc] : Array Value).getD j undef) _ (Lay.sta.more (Lay.sta.sep_lies HSp0_w4.out) (by omega)) (Lay.exs.more (Lay.exs.sep_lies HSp1_w4.out) (by omega)) HD0.out HD1.out).mono ?_
  rintro e' w5 ⟨rfl, hb⟩
  rw [← HV0.out, ← HV1.out]
  have HB_w5 : Hid (Below W1.heap.size W1 w5) := HB_w4.out.trans (hb.mono HB_w4.out.size)
  have hz_w5 : w4.heap.size ≤ w5.heap.size := hb.size
  have HSp0_w5 := Lib.hid (Lay.sta.sunder HSp0_w4.out hb (by omega))
  have HSp1_w5 := Lib.hid (Lay.exs.sunder HSp1_w4.out hb (by omega))
  clear hb HSp0_w4 HSp1_w4
  clear HSp0_w5
  clear HSp1_w5
  obtain ⟨g00, g01⟩ := (HR0.out.under HB_w5.out HR0.out.lt).two
  have gl0 : w.heap.size < w5.heap.size := Nat.lt_of_lt_of_le HR0.out.lt HB_w5.out.size
  go_wp2_with fail
  refine (toSt_any e0 C0 _ (Lay.sta.later HL0.out HB_w5.out HB_w5.out.size) HD0.out).mono ?_
  rintro e' w6 ⟨x0xa, x0xl, x0xc, x0ya, x0yl, x0yc, rfl, hs, hb⟩
  have HB_w6 : Hid (Below W1.heap.size W1 w6) := HB_w5.out.trans (hb.mono HB_w5.out.size)
  have hz_w6 : w5.heap.size ≤ w6.heap.size := hb.size
  have HSx0_w6 : Hid (Lay.sta.sep w6 w5.heap.size w6.heap.size e0 (fun j => (#[.slice x0xa x0xl x0xc, .slice x0ya x0yl x0yc] : Array Value).getD j undef)) := hs
  clear hs hb
  clear g00 g01 gl0
  obtain ⟨w7, hW⟩ : ∃ X, X = w6.alloc (.cells #[.slice x0xa x0xl x0xc, .slice x0ya x0yl x0yc] 35) := ⟨_, rfl⟩
  have HW_w7 := Lib.hid hW
  have hqq : Row w7 w6.heap.size 35 #[.slice x0xa x0xl x0xc, .slice x0ya x0yl x0yc] := by rw [hW]; exact Row.new _ _ _
  have hb : Below w6.heap.size w6 w7 := by rw [hW]; exact (Below.refl _ _).alloc (Nat.le_refl _) _
  have hs_w7 : w6.heap.size < w7.heap.size := hqq.lt
  have HB_w7 : Hid (Below W1.heap.size W1 w7) := HB_w6.out.trans (hb.mono HB_w6.out.size)
  have hz_w7 : w6.heap.size ≤ w7.heap.size := hb.size
  have HSx0_w7 := Lib.hid (Lay.sta.sunder HSx0_w6.out hb (by omega))
  have HQ0_w7 := Lib.hid hqq
  clear hW hb hqq HSx0_w6
  go_wp2_with fail
  rw [← HW_w7.out]
  refine (toExs_any e1 C1 _ (Lay.exs.later HL1.out HB_w7.out HB_w7.out.size) HD1.out).mono ?_
  rintro e' w8 ⟨x1xa, x1xl, x1xc, rfl, hs, hb⟩
  have HB_w8 : Hid (Below W1.heap.size W1 w8) := HB_w7.out.trans (hb.mono HB_w7.out.size)
  have hz_w8 : w7.heap.size ≤ w8.heap.size := hb.size
  have HSx0_w8 := Lib.hid (Lay.sta.sunder HSx0_w7.out hb (by omega))
  have HQ0_w8 := Lib.hid (HQ0_w7.out.under hb HQ0_w7.out.lt)
  have HSx1_w8 : Hid (Lay.exs.sep w8 w7.heap.size w8.heap.size e1 (fun j => (#[.slice x1xa x1xl x1xc] : Array Value).getD j undef)) := hs
  clear hs hb HSx0_w7 HQ0_w7
  obtain ⟨q00, q01⟩ := HQ0_w8.out.two
  have ql0 := HQ0_w8.out.lt
  go_wp2_with fail
  refine (implLe_any e0 (fun j => (#[.slice x0xa x0xl x0xc, .slice x0ya x0yl x0yc] : Array Value).getD j undef) e1 (fun j => (#[.slice x1xa x1xl x1xc] : Array Value).getD j undef) _ (Lay.sta.more (Lay.sta.sep_lies HSx0_w8.out) (by omega)) (Lay.exs.more (Lay.exs.sep_lies HSx1_w8.out) (by omega)) HD0.out HD1.out).mono ?_
  rintro e' w9 ⟨rfl, hb⟩
  rw [← HV0.out, ← HV1.out]
  have HB_w9 : Hid (Below W1.heap.size W1 w9) := HB_w8.out.trans (hb.mono HB_w8.out.size)
  have hz_w9 : w8.heap.size ≤ w9.heap.size := hb.size
  have HSx0_w9 := Lib.hid (Lay.sta.sunder HSx0_w8.out hb (by omega))
  have HQ0_w9 := Lib.hid (HQ0_w8.out.under hb HQ0_w8.out.lt)
  have HSx1_w9 := Lib.hid (Lay.exs.sunder HSx1_w8.out hb (by omega))
  clear hb HSx0_w8 HQ0_w8 HSx1_w8
  clear q00 q01 ql0
  obtain ⟨g00, g01⟩ := (HR0.out.under HB_w9.out HR0.out.lt).two
  have gl0 : w.heap.size < w9.heap.size := Nat.lt_of_lt_of_le HR0.out.lt HB_w9.out.size
  obtain ⟨q00, q01⟩ := HQ0_w9.out.two
  have ql0 := HQ0_w9.out.lt
  have HKS : Hid (∀ X, Below w9.heap.size w9 X → (fun w' => w'.cell? ⟨w.heap.size, 0, none⟩ = some (C0 0) ∧ w'.cell? ⟨w.heap.size, 1, none⟩ = some (C0 1) ∧ w'.cell? ⟨w6.heap.size, 0, none⟩ = some (.slice x0xa x0xl x0xc) ∧ w'.cell? ⟨w6.heap.size, 1, none⟩ = some (.slice x0ya x0yl x0yc)) X) := fun X h => ⟨((HR0.out.under HB_w9.out HR0.out.lt).under h (Nat.lt_of_lt_of_le HR0.out.lt HB_w9.out.size)).cell 0, ((HR0.out.under HB_w9.out HR0.out.lt).under h (Nat.lt_of_lt_of_le HR0.out.lt HB_w9.out.size)).cell 1, (HQ0_w9.out.under h HQ0_w9.out.lt).cell 0, (HQ0_w9.out.under h HQ0_w9.out.lt).cell 1⟩
  go_upto_region 14 with fail
  go_cut [52] from 48 to 51 (fun bb wx => bb = .bool false ∧ Hid (Below w9.heap.size w9 wx))
  case first =>
    have HBX_w9 : Hid (Below w9.heap.size w9 w9) := Below.refl _ _
    refine wp_region_held_drew (S := (fun w' => w'.cell? ⟨w.heap.size, 0, none⟩ = some (C0 0) ∧ w'.cell? ⟨w.heap.size, 1, none⟩ = some (C0 1) ∧ w'.cell? ⟨w6.heap.size, 0, none⟩ = some (.slice x0xa x0xl x0xc) ∧ w'.cell? ⟨w6.heap.size, 1, none⟩ = some (.slice x0ya x0yl x0yc))) (by kernel_rfl) ?_ (fun hHeld => ?_)
    · exact HKS.out _ HBX_w9.out.drew
    obtain ⟨w10, hX0⟩ : ∃ X, X = w9.drew := ⟨_, rfl⟩
    rw [← hX0] at hHeld ⊢
    have hb : Below w9.heap.size w9 w10 := by rw [hX0]; exact (Below.refl _ _).drew
    have HB_w10 : Hid (Below W1.heap.size W1 w10) := HB_w9.out.trans (hb.mono HB_w9.out.size)
    have hz_w10 : w9.heap.size ≤ w10.heap.size := hb.size
    have HBX_w10 : Hid (Below w9.heap.size w9 w10) := HBX_w9.out.trans (hb.mono HBX_w9.out.size)
    have HSx0_w10 := Lib.hid (Lay.sta.sunder HSx0_w9.out hb (by omega))
    have HQ0_w10 := Lib.hid (HQ0_w9.out.under hb HQ0_w9.out.lt)
    have HSx1_w10 := Lib.hid (Lay.exs.sunder HSx1_w9.out hb (by omega))
    clear hX0 hb HSx0_w9 HQ0_w9 HSx1_w9
    refine wpAnyH_take (i := 0) (oi := { dst := some 48, op := Go.Op.load 35 (Go.Operand.tmp 8), type := 35, pos := "exact.go:5038", after := #[], guard := none }) (v := ?_) rfl (by kernel_rfl) (by kernel_rfl) (by kernel_rfl) (fun _ _ _ h => h) (Or.inl ⟨by rfl, ?_⟩) (by assumption) ?_
    rotate_left
    · intro w hSw
      try dsimp only at hSw
      go_simp
      all_goals (with_reducible rfl)
    try simp only [Act.put, List.setIfInBounds_toArray, List.set_cons_zero, List.set_cons_succ]
    refine wpAnyH_take (i := 1) (oi := { dst := some 49, op := Go.Op.load 31 (Go.Operand.tmp 2), type := 31, pos := "exact.go:5038", after := #[], guard := none }) (v := ?_) rfl (by kernel_rfl) (by kernel_rfl) (by kernel_rfl) (fun _ _ _ h => h) (Or.inl ⟨by rfl, ?_⟩) (by assumption) ?_
    rotate_left
    · intro w hSw
      try dsimp only at hSw
      go_simp
      all_goals (with_reducible rfl)
    try simp only [Act.put, List.setIfInBounds_toArray, List.set_cons_zero, List.set_cons_succ]
    refine wpAnyH_ready (rs := [2]) (by kernel_rfl) (by simp) (AllReadyH.cons (o := { dst := some 50, op := Go.Op.call { callee := Go.Callee.value (Go.Operand.func 16), args := #[Go.Operand.tmp 49], argTypes := #[31] }, type := 35, pos := "exact.go:5038", after := #[{ on := 1, ground := Go.Ground.data }], guard := none }) rfl (fun K hK => ?_) AllReadyH.nil)
    go_simp
    refine (toSt_any e0 C0 _ (Lay.sta.later HL0.out HB_w10.out HB_w10.out.size) HD0.out).mono ?_
    rintro e' w11 ⟨t0xa, t0xl, t0xc, t0ya, t0yl, t0yc, rfl, hs, hb⟩
    have HB_w11 : Hid (Below W1.heap.size W1 w11) := HB_w10.out.trans (hb.mono HB_w10.out.size)
    have hz_w11 : w10.heap.size ≤ w11.heap.size := hb.size
    have HBX_w11 : Hid (Below w9.heap.size w9 w11) := HBX_w10.out.trans (hb.mono HBX_w10.out.size)
    have HSx0_w11 := Lib.hid (Lay.sta.sunder HSx0_w10.out hb (by omega))
    have HQ0_w11 := Lib.hid (HQ0_w10.out.under hb HQ0_w10.out.lt)
    have HSx1_w11 := Lib.hid (Lay.exs.sunder HSx1_w10.out hb (by omega))
    have HSt0_w11 : Hid (Lay.sta.sep w11 w10.heap.size w11.heap.size e0 (fun j => (#[.slice t0xa t0xl t0xc, .slice t0ya t0yl t0yc] : Array Value).getD j undef)) := hs
    clear hs hb HSx0_w10 HQ0_w10 HSx1_w10
    try go_wp2_with fail
    refine hK.out _ _ ?_ (fun hHeld => ?_)
    · exact HKS.out _ HBX_w11.out
    clear hK K
    try simp only [Act.put, List.setIfInBounds_toArray, List.set_cons_zero, List.set_cons_succ]
    refine wpAnyH_ready (rs := [3]) (by kernel_rfl) (by simp) (AllReadyH.cons (o := { dst := some 51, op := Go.Op.call { callee := Go.Callee.value (Go.Operand.func 18), args := #[Go.Operand.tmp 48, Go.Operand.tmp 50], argTypes := #[35, 35] }, type := 4, pos := "exact.go:5038", after := #[{ on := 0, ground := Go.Ground.data }, { on := 2, ground := Go.Ground.data }, { on := 2, ground := Go.Ground.chain }], guard := none }) rfl (fun K hK => ?_) AllReadyH.nil)
    go_simp
    refine (eqSt_any e0 (fun j => (#[.slice x0xa x0xl x0xc, .slice x0ya x0yl x0yc] : Array Value).getD j undef) (fun j => (#[.slice t0xa t0xl t0xc, .slice t0ya t0yl t0yc] : Array Value).getD j undef) _ (Lay.sta.more (Lay.sta.sep_lies HSx0_w11.out) (by omega)) (Lay.sta.more (Lay.sta.sep_lies HSt0_w11.out) (by omega))).mono ?_
    rintro e' w12 ⟨rfl, hb⟩
    have HB_w12 : Hid (Below W1.heap.size W1 w12) := HB_w11.out.trans (hb.mono HB_w11.out.size)
    have hz_w12 : w11.heap.size ≤ w12.heap.size := hb.size
    have HBX_w12 : Hid (Below w9.heap.size w9 w12) := HBX_w11.out.trans (hb.mono HBX_w11.out.size)
    have HSx0_w12 := Lib.hid (Lay.sta.sunder HSx0_w11.out hb (by omega))
    have HQ0_w12 := Lib.hid (HQ0_w11.out.under hb HQ0_w11.out.lt)
    have HSx1_w12 := Lib.hid (Lay.exs.sunder HSx1_w11.out hb (by omega))
    have HSt0_w12 := Lib.hid (Lay.sta.sunder HSt0_w11.out hb (by omega))
    clear hb HSx0_w11 HQ0_w11 HSx1_w11 HSt0_w11
    try go_wp2_with fail
    refine hK.out _ _ ?_ (fun hHeld => ?_)
    · exact HKS.out _ HBX_w12.out
    clear hK K
    try simp only [Act.put, List.setIfInBounds_toArray, List.set_cons_zero, List.set_cons_succ]
    refine wpAnyH_take (i := 4) (oi := { dst := some 52, op := Go.Op.unOp Go.UnOp.not 4 (Go.Operand.tmp 51), type := 4, pos := "exact.go:5038", after := #[{ on := 3, ground := Go.Ground.data }], guard := none }) (v := ?_) rfl (by kernel_rfl) (by kernel_rfl) (by kernel_rfl) (fun _ _ _ h => h) (Or.inl ⟨by rfl, ?_⟩) (by assumption) ?_
    rotate_left
    · intro w hSw
      try dsimp only at hSw
      go_simp
      all_goals (with_reducible rfl)
    try simp only [Act.put, List.setIfInBounds_toArray, List.set_cons_zero, List.set_cons_succ]
    refine wpAnyH_done (by kernel_rfl) ?_ _
    go_wp2_with fail
    go_meet
    exact ⟨rfl, HBX_w12⟩
  case rest =>
  obtain ⟨rfl, HBc⟩ := hcut
  obtain ⟨w13, rfl⟩ : ∃ x, x = wc := ⟨_, rfl⟩
  have hb : Below w9.heap.size w9 w13 := HBc.out
  have HB_w13 : Hid (Below W1.heap.size W1 w13) := HB_w9.out.trans (hb.mono HB_w9.out.size)
  have hz_w13 : w9.heap.size ≤ w13.heap.size := hb.size
  have HSx0_w13 := Lib.hid (Lay.sta.sunder HSx0_w9.out hb (by omega))
  have HQ0_w13 := Lib.hid (HQ0_w9.out.under hb HQ0_w9.out.lt)
  have HSx1_w13 := Lib.hid (Lay.exs.sunder HSx1_w9.out hb (by omega))
  clear hb HBc HKS HSx0_w9 HQ0_w9 HSx1_w9
  clear g00 g01 gl0 q00 q01 ql0
  go_wp2_with fail
  refine (toExs_any e1 C1 _ (Lay.exs.later HL1.out HB_w13.out HB_w13.out.size) HD1.out).mono ?_
  rintro e' w14 ⟨t1xa, t1xl, t1xc, rfl, hs, hb⟩
  have HB_w14 : Hid (Below W1.heap.size W1 w14) := HB_w13.out.trans (hb.mono HB_w13.out.size)
  have hz_w14 : w13.heap.size ≤ w14.heap.size := hb.size
  have HSx0_w14 := Lib.hid (Lay.sta.sunder HSx0_w13.out hb (by omega))
  have HQ0_w14 := Lib.hid (HQ0_w13.out.under hb HQ0_w13.out.lt)
  have HSx1_w14 := Lib.hid (Lay.exs.sunder HSx1_w13.out hb (by omega))
  have HSt1_w14 : Hid (Lay.exs.sep w14 w13.heap.size w14.heap.size e1 (fun j => (#[.slice t1xa t1xl t1xc] : Array Value).getD j undef)) := hs
  clear hs hb HSx0_w13 HQ0_w13 HSx1_w13
  go_wp2_with fail
  refine (eqExs_any e1 (fun j => (#[.slice x1xa x1xl x1xc] : Array Value).getD j undef) (fun j => (#[.slice t1xa t1xl t1xc] : Array Value).getD j undef) _ (Lay.exs.more (Lay.exs.sep_lies HSx1_w14.out) (by omega)) (Lay.exs.more (Lay.exs.sep_lies HSt1_w14.out) (by omega))).mono ?_
  rintro e' w15 ⟨rfl, hb⟩
  have HB_w15 : Hid (Below W1.heap.size W1 w15) := HB_w14.out.trans (hb.mono HB_w14.out.size)
  have hz_w15 : w14.heap.size ≤ w15.heap.size := hb.size
  have HSx0_w15 := Lib.hid (Lay.sta.sunder HSx0_w14.out hb (by omega))
  have HQ0_w15 := Lib.hid (HQ0_w14.out.under hb HQ0_w14.out.lt)
  have HSx1_w15 := Lib.hid (Lay.exs.sunder HSx1_w14.out hb (by omega))
  have HSt1_w15 := Lib.hid (Lay.exs.sunder HSt1_w14.out hb (by omega))
  clear hb HSx0_w14 HQ0_w14 HSx1_w14 HSt1_w14
  clear HSt1_w15
  go_wp2_with fail
  go_ret
  exact ⟨rfl, HBn.out _ HB_w15.out⟩

end Go.Proofs.Ytnkicididcnkbaa

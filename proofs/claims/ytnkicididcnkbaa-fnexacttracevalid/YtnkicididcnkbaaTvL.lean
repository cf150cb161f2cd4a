/- The walk of the law laws.FnExactTraceValid. -/
import Derived.Test.YtnkicididcnkbaaTvI
import Derived.Test.YtnkicididcnkbaaGrSz
import Derived.Test.YtnkicididcnkbaaGrEq
import Derived.Test.YtnkicididcnkbaaGrTo
import Derived.Test.YtnkicididcnkbaaNx
import Derived.Deep.RegionHeld3
import Derived.Deep.RegionWith
import Derived.Deep.Cut
import Derived.Deep.CutRange
namespace Go.Proofs.Ytnkicididcnkbaa
open Go.RowKit

set_option maxHeartbeats 4000000 in
set_option maxRecDepth 100000 in
theorem lawTv_any (e0 : Gp) (C0 : Nat → Value) (e1 : St) (C1 : Nat → Value) (w : World) (hL0 : Lay.gra.lies w w.heap.size e0 C0) (hL1 : Tc.trc.lies w w.heap.size e1 C1) :
    Calls Try.prog 5 #[.agg #[C0 0, C0 1], .agg #[C1 0, C1 1]] w fun e' w' => e' = .returned (.bool true) ∧ Below w.heap.size w w' := by
  obtain ⟨W1, hW1⟩ : ∃ W1, W1 = (w.alloc (.cells #[C0 0, C0 1] 42)).alloc (.cells #[C1 0, C1 1] 44) := ⟨_, rfl⟩
  have hrows := rows2 w 42 44 #[C0 0, C0 1] #[C1 0, C1 1]
  rw [← hW1] at hrows
  obtain ⟨hr0, hr1, hb0⟩ := hrows
  have HR0 := Lib.hid hr0
  have HR1 := Lib.hid hr1
  have hltW : w.heap.size ≤ W1.heap.size := hb0.size
  have HL0 : Hid (Lay.gra.lies W1 W1.heap.size e0 C0) := Lay.gra.later hL0 hb0 hb0.size
  have HL1 : Hid (Tc.trc.lies W1 W1.heap.size e1 C1) := Tc.trc.later hL1 hb0 hb0.size
  have HB0 := Lib.hid hb0
  have HW1 := Lib.hid hW1
  have HBn : Hid (∀ X, Below W1.heap.size W1 X → Below w.heap.size w X) := fun X h => HB0.out.trans (h.mono HB0.out.size)
  have HB_W1 : Hid (Below W1.heap.size W1 W1) := Below.refl _ _
  clear hb0 hW1 hr0 hr1 hL0 hL1
  obtain ⟨r0, hr0, hc0⟩ := room_next (left := 1048576) (n := Lay.gra.sz e0) (by omega) (by omega)
  have HRm0 := Lib.hid hr0
  clear hr0
  go_enter Try.func5, Try.ntmps5
  go_wp2_with fail
  rw [← HW1.out]
  refine (szGr_any e0 C0 1048576 _ (Lay.gra.later HL0.out HB_W1.out HB_W1.out.size) (by omega) (by omega)).mono ?_
  rintro e' w1 ⟨rfl, hb⟩
  rw [← HRm0.out]
  have HB_w1 : Hid (Below W1.heap.size W1 w1) := HB_W1.out.trans (hb.mono HB_W1.out.size)
  have hz_w1 : W1.heap.size ≤ w1.heap.size := hb.size
  clear hb
  rcases hc0 with hneg | ⟨hp, hq, hn0⟩
  · go_wp2_with fail
    go_ret
    exact ⟨rfl, HBn.out _ HB_w1.out⟩
  have HD0 : Hid (Lay.gra.sz e0 ≤ 1048576) := hn0
  clear hn0
  obtain ⟨r1, hr1, hc1⟩ := room_next (left := r0) (n := Tc.trc.sz e1) hp hq
  have HRm1 := Lib.hid hr1
  clear hr1
  obtain ⟨g10, g11⟩ := (HR1.out.under HB_w1.out HR1.out.lt).two
  go_wp2_with fail
  refine (Tc.szTr_any e1 C1 r0 _ (Tc.trc.later HL1.out HB_w1.out HB_w1.out.size) (by omega) (by omega)).mono ?_
  clear g10 g11
  rintro e' w2 ⟨rfl, hb⟩
  rw [← HRm1.out]
  have HB_w2 : Hid (Below W1.heap.size W1 w2) := HB_w1.out.trans (hb.mono HB_w1.out.size)
  have hz_w2 : w1.heap.size ≤ w2.heap.size := hb.size
  clear hb
  clear hp hq
  rcases hc1 with hneg | ⟨hp, hq, hn1⟩
  · go_wp2_with fail
    go_ret
    exact ⟨rfl, HBn.out _ HB_w2.out⟩
  have HD1 : Hid (Tc.trc.sz e1 ≤ 1048576) := hn1
  clear hn1
  obtain ⟨vl0, hvl0⟩ : ∃ vl0 : Bool, vl0 = trOk e0 e1 := ⟨_, rfl⟩
  have HV0 := Lib.hid hvl0
  clear hvl0
  obtain ⟨g00, g01⟩ := (HR0.out.under HB_w2.out HR0.out.lt).two
  have gl0 : w.heap.size < w2.heap.size := Nat.lt_of_lt_of_le HR0.out.lt HB_w2.out.size
  obtain ⟨g10, g11⟩ := (HR1.out.under HB_w2.out HR1.out.lt).two
  have gl1 : w.heap.size + 1 < w2.heap.size := Nat.lt_of_lt_of_le HR1.out.lt HB_w2.out.size
  have HKS : Hid (∀ X, Below W1.heap.size W1 X → (fun w' => w'.cell? ⟨w.heap.size, 0, none⟩ = some (C0 0) ∧ w'.cell? ⟨w.heap.size, 1, none⟩ = some (C0 1) ∧ w'.cell? ⟨w.heap.size + 1, 0, none⟩ = some (C1 0) ∧ w'.cell? ⟨w.heap.size + 1, 1, none⟩ = some (C1 1)) X) := fun X h => ⟨(HR0.out.under h HR0.out.lt).cell 0, (HR0.out.under h HR0.out.lt).cell 1, (HR1.out.under h HR1.out.lt).cell 0, (HR1.out.under h HR1.out.lt).cell 1⟩
  go_upto_region 8 with fail
  go_cut [6] from 20 to 24 (fun b0 wx => b0 = .bool vl0 ∧ Hid (Below w2.heap.size w2 wx))
  case first =>
    have HBX_w2 : Hid (Below w2.heap.size w2 w2) := Below.refl _ _
    refine wp_region_held_drew (S := (fun w' => w'.cell? ⟨w.heap.size, 0, none⟩ = some (C0 0) ∧ w'.cell? ⟨w.heap.size, 1, none⟩ = some (C0 1) ∧ w'.cell? ⟨w.heap.size + 1, 0, none⟩ = some (C1 0) ∧ w'.cell? ⟨w.heap.size + 1, 1, none⟩ = some (C1 1))) (by kernel_rfl) ?_ (fun hHeld => ?_)
    · exact HKS.out _ HB_w2.out.drew
    obtain ⟨w3, hX0⟩ : ∃ X, X = w2.drew := ⟨_, rfl⟩
    rw [← hX0] at hHeld ⊢
    have hb : Below w2.heap.size w2 w3 := by rw [hX0]; exact (Below.refl _ _).drew
    have HB_w3 : Hid (Below W1.heap.size W1 w3) := HB_w2.out.trans (hb.mono HB_w2.out.size)
    have hz_w3 : w2.heap.size ≤ w3.heap.size := hb.size
    have HBX_w3 : Hid (Below w2.heap.size w2 w3) := HBX_w2.out.trans (hb.mono HBX_w2.out.size)
    clear hX0 hb
    refine wpAnyH_take (i := 0) (oi := { dst := some 20, op := Go.Op.load 42 (Go.Operand.tmp 2), type := 42, pos := "exact.go:5113", after := #[], guard := none }) (v := ?_) rfl (by kernel_rfl) (by kernel_rfl) (by kernel_rfl) (fun _ _ _ h => h) (Or.inl ⟨by rfl, ?_⟩) (by assumption) ?_
    rotate_left
    · intro w hSw
      try dsimp only at hSw
      go_simp
      all_goals (with_reducible rfl)
    try simp only [Act.put, List.setIfInBounds_toArray, List.set_cons_zero, List.set_cons_succ]
    refine wpAnyH_take (i := 2) (oi := { dst := some 22, op := Go.Op.load 44 (Go.Operand.tmp 3), type := 44, pos := "exact.go:5113", after := #[], guard := none }) (v := ?_) rfl (by kernel_rfl) (by kernel_rfl) (by kernel_rfl) (fun _ _ _ h => h) (Or.inl ⟨by rfl, ?_⟩) (by assumption) ?_
    rotate_left
    · intro w hSw
      try dsimp only at hSw
      go_simp
      all_goals (with_reducible rfl)
    try simp only [Act.put, List.setIfInBounds_toArray, List.set_cons_zero, List.set_cons_succ]
    refine wpAnyH_ready (rs := [1]) (by kernel_rfl) (by simp) (AllReadyH.cons (o := { dst := some 21, op := Go.Op.call { callee := Go.Callee.value (Go.Operand.func 22), args := #[Go.Operand.tmp 20], argTypes := #[42] }, type := 50, pos := "exact.go:5113", after := #[{ on := 0, ground := Go.Ground.data }], guard := none }) rfl (fun K hK => ?_) AllReadyH.nil)
    go_simp
    refine (toGr_any e0 C0 _ (Lay.gra.later HL0.out HB_w3.out HB_w3.out.size) HD0.out).mono ?_
    rintro e' w4 ⟨p0xa, p0xl, p0xc, p0ya, p0yl, p0yc, rfl, hs, hb⟩
    have HB_w4 : Hid (Below W1.heap.size W1 w4) := HB_w3.out.trans (hb.mono HB_w3.out.size)
    have hz_w4 : w3.heap.size ≤ w4.heap.size := hb.size
    have HBX_w4 : Hid (Below w2.heap.size w2 w4) := HBX_w3.out.trans (hb.mono HBX_w3.out.size)
    have HSp0_w4 : Hid (Lay.gra.sep w4 w3.heap.size w4.heap.size e0 (fun j => (#[.slice p0xa p0xl p0xc, .slice p0ya p0yl p0yc] : Array Value).getD j undef)) := hs
    clear hs hb
    try go_wp2_with fail
    refine hK.out _ _ ?_ (fun hHeld => ?_)
    · exact HKS.out _ HB_w4.out
    clear hK K
    try simp only [Act.put, List.setIfInBounds_toArray, List.set_cons_zero, List.set_cons_succ]
    refine wpAnyH_ready (rs := [3]) (by kernel_rfl) (by simp) (AllReadyH.cons (o := { dst := some 23, op := Go.Op.call { callee := Go.Callee.value (Go.Operand.func 23), args := #[Go.Operand.tmp 22], argTypes := #[44] }, type := 52, pos := "exact.go:5113", after := #[{ on := 2, ground := Go.Ground.data }, { on := 1, ground := Go.Ground.chain }], guard := none }) rfl (fun K hK => ?_) AllReadyH.nil)
    go_simp
    refine (Tc.toTr_any e1 C1 _ (Tc.trc.later HL1.out HB_w4.out HB_w4.out.size) HD1.out).mono ?_
    rintro e' w5 ⟨p1xa, p1xl, p1xc, p1ya, p1yl, p1yc, rfl, hs, hb⟩
    have HB_w5 : Hid (Below W1.heap.size W1 w5) := HB_w4.out.trans (hb.mono HB_w4.out.size)
    have hz_w5 : w4.heap.size ≤ w5.heap.size := hb.size
    have HBX_w5 : Hid (Below w2.heap.size w2 w5) := HBX_w4.out.trans (hb.mono HBX_w4.out.size)
    have HSp0_w5 := Lib.hid (Lay.gra.sunder HSp0_w4.out hb (by omega))
    have HSp1_w5 : Hid (Tc.trc.sep w5 w4.heap.size w5.heap.size e1 (fun j => (#[.slice p1xa p1xl p1xc, .slice p1ya p1yl p1yc] : Array Value).getD j undef)) := hs
    clear hs hb HSp0_w4
    try go_wp2_with fail
    refine hK.out _ _ ?_ (fun hHeld => ?_)
    · exact HKS.out _ HB_w5.out
    clear hK K
    try simp only [Act.put, List.setIfInBounds_toArray, List.set_cons_zero, List.set_cons_succ]
    refine wpAnyH_ready (rs := [4]) (by kernel_rfl) (by simp) (AllReadyH.cons (o := { dst := some 24, op := Go.Op.call { callee := Go.Callee.value (Go.Operand.func 21), args := #[Go.Operand.tmp 21, Go.Operand.tmp 23], argTypes := #[50, 52] }, type := 4, pos := "exact.go:5113", after := #[{ on := 1, ground := Go.Ground.data }, { on := 3, ground := Go.Ground.data }, { on := 3, ground := Go.Ground.chain }], guard := none }) rfl (fun K hK => ?_) AllReadyH.nil)
    go_simp
    refine (specTvF_any e0 (fun j => (#[.slice p0xa p0xl p0xc, .slice p0ya p0yl p0yc] : Array Value).getD j undef) e1 (fun j => (#[.slice p1xa p1xl p1xc, .slice p1ya p1yl p1yc] : Array Value).getD j undef) _ (Lay.gra.more (Lay.gra.sep_lies HSp0_w5.out) (by omega)) (Tc.trc.more (Tc.trc.sep_lies HSp1_w5.out) (by omega)) HD0.out HD1.out).mono ?_
    rintro e' w6 ⟨rfl, hb⟩
    rw [← HV0.out]
    have HB_w6 : Hid (Below W1.heap.size W1 w6) := HB_w5.out.trans (hb.mono HB_w5.out.size)
    have hz_w6 : w5.heap.size ≤ w6.heap.size := hb.size
    have HBX_w6 : Hid (Below w2.heap.size w2 w6) := HBX_w5.out.trans (hb.mono HBX_w5.out.size)
    have HSp0_w6 := Lib.hid (Lay.gra.sunder HSp0_w5.out hb (by omega))
    have HSp1_w6 := Lib.hid (Tc.trc.sunder HSp1_w5.out hb (by omega))
    clear hb HSp0_w5 HSp1_w5
    try go_wp2_with fail
    refine hK.out _ _ ?_ (fun hHeld => ?_)
    · exact HKS.out _ HB_w6.out
    clear hK K
    try simp only [Act.put, List.setIfInBounds_toArray, List.set_cons_zero, List.set_cons_succ]
    refine wpAnyH_take (i := 5) (oi := { dst := some 6, op := Go.Op.assign (Go.Operand.tmp 24), type := 4, pos := "exact.go:5113", after := #[{ on := 4, ground := Go.Ground.data }, { on := 4, ground := Go.Ground.chain }, { on := 0, ground := Go.Ground.phase }, { on := 1, ground := Go.Ground.phase }, { on := 2, ground := Go.Ground.phase }, { on := 3, ground := Go.Ground.phase }, { on := 4, ground := Go.Ground.phase }], guard := none }) (v := ?_) rfl (by kernel_rfl) (by kernel_rfl) (by kernel_rfl) (fun _ _ _ h => h) (Or.inl ⟨by rfl, ?_⟩) (by assumption) ?_
    rotate_left
    · intro w hSw
      try dsimp only at hSw
      go_simp
      all_goals (with_reducible rfl)
    try simp only [Act.put, List.setIfInBounds_toArray, List.set_cons_zero, List.set_cons_succ]
    refine wpAnyH_done (by kernel_rfl) ?_ _
    go_wp2_with fail
    go_meet
    exact ⟨rfl, HBX_w6⟩
  case rest =>
  obtain ⟨rfl, HBc⟩ := hcut
  obtain ⟨w7, rfl⟩ : ∃ x, x = wc := ⟨_, rfl⟩
  have hb : Below w2.heap.size w2 w7 := HBc.out
  have HB_w7 : Hid (Below W1.heap.size W1 w7) := HB_w2.out.trans (hb.mono HB_w2.out.size)
  have hz_w7 : w2.heap.size ≤ w7.heap.size := hb.size
  clear hb HBc HKS
  clear g00 g01 gl0 g10 g11 gl1
  obtain ⟨g00, g01⟩ := (HR0.out.under HB_w7.out HR0.out.lt).two
  have gl0 : w.heap.size < w7.heap.size := Nat.lt_of_lt_of_le HR0.out.lt HB_w7.out.size
  go_wp2_with fail
  refine (toGr_any e0 C0 _ (Lay.gra.later HL0.out HB_w7.out HB_w7.out.size) HD0.out).mono ?_
  rintro e' w8 ⟨x0xa, x0xl, x0xc, x0ya, x0yl, x0yc, rfl, hs, hb⟩
  have HB_w8 : Hid (Below W1.heap.size W1 w8) := HB_w7.out.trans (hb.mono HB_w7.out.size)
  have hz_w8 : w7.heap.size ≤ w8.heap.size := hb.size
  have HSx0_w8 : Hid (Lay.gra.sep w8 w7.heap.size w8.heap.size e0 (fun j => (#[.slice x0xa x0xl x0xc, .slice x0ya x0yl x0yc] : Array Value).getD j undef)) := hs
  clear hs hb
  clear g00 g01 gl0
  obtain ⟨g10, g11⟩ := (HR1.out.under HB_w8.out HR1.out.lt).two
  have gl1 : w.heap.size + 1 < w8.heap.size := Nat.lt_of_lt_of_le HR1.out.lt HB_w8.out.size
  obtain ⟨w9, hW⟩ : ∃ X, X = w8.alloc (.cells #[.slice x0xa x0xl x0xc, .slice x0ya x0yl x0yc] 50) := ⟨_, rfl⟩
  have HW_w9 := Lib.hid hW
  have hqq : Row w9 w8.heap.size 50 #[.slice x0xa x0xl x0xc, .slice x0ya x0yl x0yc] := by rw [hW]; exact Row.new _ _ _
  have hb : Below w8.heap.size w8 w9 := by rw [hW]; exact (Below.refl _ _).alloc (Nat.le_refl _) _
  have hs_w9 : w8.heap.size < w9.heap.size := hqq.lt
  have HB_w9 : Hid (Below W1.heap.size W1 w9) := HB_w8.out.trans (hb.mono HB_w8.out.size)
  have hz_w9 : w8.heap.size ≤ w9.heap.size := hb.size
  have HSx0_w9 := Lib.hid (Lay.gra.sunder HSx0_w8.out hb (by omega))
  have HQ0_w9 := Lib.hid hqq
  clear hW hb hqq HSx0_w8
  go_wp2_with fail
  rw [← HW_w9.out]
  refine (Tc.toTr_any e1 C1 _ (Tc.trc.later HL1.out HB_w9.out HB_w9.out.size) HD1.out).mono ?_
  rintro e' w10 ⟨x1xa, x1xl, x1xc, x1ya, x1yl, x1yc, rfl, hs, hb⟩
  have HB_w10 : Hid (Below W1.heap.size W1 w10) := HB_w9.out.trans (hb.mono HB_w9.out.size)
  have hz_w10 : w9.heap.size ≤ w10.heap.size := hb.size
  have HSx0_w10 := Lib.hid (Lay.gra.sunder HSx0_w9.out hb (by omega))
  have HQ0_w10 := Lib.hid (HQ0_w9.out.under hb HQ0_w9.out.lt)
  have HSx1_w10 : Hid (Tc.trc.sep w10 w9.heap.size w10.heap.size e1 (fun j => (#[.slice x1xa x1xl x1xc, .slice x1ya x1yl x1yc] : Array Value).getD j undef)) := hs
  clear hs hb HSx0_w9 HQ0_w9
  clear g10 g11 gl1
  obtain ⟨q00, q01⟩ := HQ0_w10.out.two
  have ql0 := HQ0_w10.out.lt
  obtain ⟨w11, hW⟩ : ∃ X, X = w10.alloc (.cells #[.slice x1xa x1xl x1xc, .slice x1ya x1yl x1yc] 52) := ⟨_, rfl⟩
  have HW_w11 := Lib.hid hW
  have hqq : Row w11 w10.heap.size 52 #[.slice x1xa x1xl x1xc, .slice x1ya x1yl x1yc] := by rw [hW]; exact Row.new _ _ _
  have hb : Below w10.heap.size w10 w11 := by rw [hW]; exact (Below.refl _ _).alloc (Nat.le_refl _) _
  have hs_w11 : w10.heap.size < w11.heap.size := hqq.lt
  have HB_w11 : Hid (Below W1.heap.size W1 w11) := HB_w10.out.trans (hb.mono HB_w10.out.size)
  have hz_w11 : w10.heap.size ≤ w11.heap.size := hb.size
  have HSx0_w11 := Lib.hid (Lay.gra.sunder HSx0_w10.out hb (by omega))
  have HQ0_w11 := Lib.hid (HQ0_w10.out.under hb HQ0_w10.out.lt)
  have HSx1_w11 := Lib.hid (Tc.trc.sunder HSx1_w10.out hb (by omega))
  have HQ1_w11 := Lib.hid hqq
  clear hW hb hqq HSx0_w10 HQ0_w10 HSx1_w10
  go_wp2_with fail
  rw [← HW_w11.out]
  refine (implTv_any e0 (fun j => (#[.slice x0xa x0xl x0xc, .slice x0ya x0yl x0yc] : Array Value).getD j undef) e1 (fun j => (#[.slice x1xa x1xl x1xc, .slice x1ya x1yl x1yc] : Array Value).getD j undef) _ (Lay.gra.more (Lay.gra.sep_lies HSx0_w11.out) (by omega)) (Tc.trc.more (Tc.trc.sep_lies HSx1_w11.out) (by omega)) HD0.out HD1.out).mono ?_
  rintro e' w12 ⟨rfl, hb⟩
  rw [← HV0.out]
  have HB_w12 : Hid (Below W1.heap.size W1 w12) := HB_w11.out.trans (hb.mono HB_w11.out.size)
  have hz_w12 : w11.heap.size ≤ w12.heap.size := hb.size
  have HSx0_w12 := Lib.hid (Lay.gra.sunder HSx0_w11.out hb (by omega))
  have HQ0_w12 := Lib.hid (HQ0_w11.out.under hb HQ0_w11.out.lt)
  have HSx1_w12 := Lib.hid (Tc.trc.sunder HSx1_w11.out hb (by omega))
  have HQ1_w12 := Lib.hid (HQ1_w11.out.under hb HQ1_w11.out.lt)
  clear hb HSx0_w11 HQ0_w11 HSx1_w11 HQ1_w11
  clear q00 q01 ql0
  obtain ⟨g00, g01⟩ := (HR0.out.under HB_w12.out HR0.out.lt).two
  have gl0 : w.heap.size < w12.heap.size := Nat.lt_of_lt_of_le HR0.out.lt HB_w12.out.size
  obtain ⟨q00, q01⟩ := HQ0_w12.out.two
  have ql0 := HQ0_w12.out.lt
  have HKS : Hid (∀ X, Below w12.heap.size w12 X → (fun w' => w'.cell? ⟨w.heap.size, 0, none⟩ = some (C0 0) ∧ w'.cell? ⟨w.heap.size, 1, none⟩ = some (C0 1) ∧ w'.cell? ⟨w8.heap.size, 0, none⟩ = some (.slice x0xa x0xl x0xc) ∧ w'.cell? ⟨w8.heap.size, 1, none⟩ = some (.slice x0ya x0yl x0yc)) X) := fun X h => ⟨((HR0.out.under HB_w12.out HR0.out.lt).under h (Nat.lt_of_lt_of_le HR0.out.lt HB_w12.out.size)).cell 0, ((HR0.out.under HB_w12.out HR0.out.lt).under h (Nat.lt_of_lt_of_le HR0.out.lt HB_w12.out.size)).cell 1, (HQ0_w12.out.under h HQ0_w12.out.lt).cell 0, (HQ0_w12.out.under h HQ0_w12.out.lt).cell 1⟩
  go_upto_region 14 with fail
  go_cut [39] from 35 to 38 (fun bb wx => bb = .bool false ∧ Hid (Below w12.heap.size w12 wx))
  case first =>
    have HBX_w12 : Hid (Below w12.heap.size w12 w12) := Below.refl _ _
    refine wp_region_held_drew (S := (fun w' => w'.cell? ⟨w.heap.size, 0, none⟩ = some (C0 0) ∧ w'.cell? ⟨w.heap.size, 1, none⟩ = some (C0 1) ∧ w'.cell? ⟨w8.heap.size, 0, none⟩ = some (.slice x0xa x0xl x0xc) ∧ w'.cell? ⟨w8.heap.size, 1, none⟩ = some (.slice x0ya x0yl x0yc))) (by kernel_rfl) ?_ (fun hHeld => ?_)
    · exact HKS.out _ HBX_w12.out.drew
    obtain ⟨w13, hX0⟩ : ∃ X, X = w12.drew := ⟨_, rfl⟩
    rw [← hX0] at hHeld ⊢
    have hb : Below w12.heap.size w12 w13 := by rw [hX0]; exact (Below.refl _ _).drew
    have HB_w13 : Hid (Below W1.heap.size W1 w13) := HB_w12.out.trans (hb.mono HB_w12.out.size)
    have hz_w13 : w12.heap.size ≤ w13.heap.size := hb.size
    have HBX_w13 : Hid (Below w12.heap.size w12 w13) := HBX_w12.out.trans (hb.mono HBX_w12.out.size)
    have HSx0_w13 := Lib.hid (Lay.gra.sunder HSx0_w12.out hb (by omega))
    have HQ0_w13 := Lib.hid (HQ0_w12.out.under hb HQ0_w12.out.lt)
    have HSx1_w13 := Lib.hid (Tc.trc.sunder HSx1_w12.out hb (by omega))
    have HQ1_w13 := Lib.hid (HQ1_w12.out.under hb HQ1_w12.out.lt)
    clear hX0 hb HSx0_w12 HQ0_w12 HSx1_w12 HQ1_w12
    refine wpAnyH_take (i := 0) (oi := { dst := some 35, op := Go.Op.load 50 (Go.Operand.tmp 7), type := 50, pos := "exact.go:5120", after := #[], guard := none }) (v := ?_) rfl (by kernel_rfl) (by kernel_rfl) (by kernel_rfl) (fun _ _ _ h => h) (Or.inl ⟨by rfl, ?_⟩) (by assumption) ?_
    rotate_left
    · intro w hSw
      try dsimp only at hSw
      go_simp
      all_goals (with_reducible rfl)
    try simp only [Act.put, List.setIfInBounds_toArray, List.set_cons_zero, List.set_cons_succ]
    refine wpAnyH_take (i := 1) (oi := { dst := some 36, op := Go.Op.load 42 (Go.Operand.tmp 2), type := 42, pos := "exact.go:5120", after := #[], guard := none }) (v := ?_) rfl (by kernel_rfl) (by kernel_rfl) (by kernel_rfl) (fun _ _ _ h => h) (Or.inl ⟨by rfl, ?_⟩) (by assumption) ?_
    rotate_left
    · intro w hSw
      try dsimp only at hSw
      go_simp
      all_goals (with_reducible rfl)
    try simp only [Act.put, List.setIfInBounds_toArray, List.set_cons_zero, List.set_cons_succ]
    refine wpAnyH_ready (rs := [2]) (by kernel_rfl) (by simp) (AllReadyH.cons (o := { dst := some 37, op := Go.Op.call { callee := Go.Callee.value (Go.Operand.func 22), args := #[Go.Operand.tmp 36], argTypes := #[42] }, type := 50, pos := "exact.go:5120", after := #[{ on := 1, ground := Go.Ground.data }], guard := none }) rfl (fun K hK => ?_) AllReadyH.nil)
    go_simp
    refine (toGr_any e0 C0 _ (Lay.gra.later HL0.out HB_w13.out HB_w13.out.size) HD0.out).mono ?_
    rintro e' w14 ⟨t0xa, t0xl, t0xc, t0ya, t0yl, t0yc, rfl, hs, hb⟩
    have HB_w14 : Hid (Below W1.heap.size W1 w14) := HB_w13.out.trans (hb.mono HB_w13.out.size)
    have hz_w14 : w13.heap.size ≤ w14.heap.size := hb.size
    have HBX_w14 : Hid (Below w12.heap.size w12 w14) := HBX_w13.out.trans (hb.mono HBX_w13.out.size)
    have HSx0_w14 := Lib.hid (Lay.gra.sunder HSx0_w13.out hb (by omega))
    have HQ0_w14 := Lib.hid (HQ0_w13.out.under hb HQ0_w13.out.lt)
    have HSx1_w14 := Lib.hid (Tc.trc.sunder HSx1_w13.out hb (by omega))
    have HQ1_w14 := Lib.hid (HQ1_w13.out.under hb HQ1_w13.out.lt)
    have HSt0_w14 : Hid (Lay.gra.sep w14 w13.heap.size w14.heap.size e0 (fun j => (#[.slice t0xa t0xl t0xc, .slice t0ya t0yl t0yc] : Array Value).getD j undef)) := hs
    clear hs hb HSx0_w13 HQ0_w13 HSx1_w13 HQ1_w13
    try go_wp2_with fail
    refine hK.out _ _ ?_ (fun hHeld => ?_)
    · exact HKS.out _ HBX_w14.out
    clear hK K
    try simp only [Act.put, List.setIfInBounds_toArray, List.set_cons_zero, List.set_cons_succ]
    refine wpAnyH_ready (rs := [3]) (by kernel_rfl) (by simp) (AllReadyH.cons (o := { dst := some 38, op := Go.Op.call { callee := Go.Callee.value (Go.Operand.func 25), args := #[Go.Operand.tmp 35, Go.Operand.tmp 37], argTypes := #[50, 50] }, type := 4, pos := "exact.go:5120", after := #[{ on := 0, ground := Go.Ground.data }, { on := 2, ground := Go.Ground.data }, { on := 2, ground := Go.Ground.chain }], guard := none }) rfl (fun K hK => ?_) AllReadyH.nil)
    go_simp
    refine (eqGr_any e0 (fun j => (#[.slice x0xa x0xl x0xc, .slice x0ya x0yl x0yc] : Array Value).getD j undef) (fun j => (#[.slice t0xa t0xl t0xc, .slice t0ya t0yl t0yc] : Array Value).getD j undef) _ (Lay.gra.more (Lay.gra.sep_lies HSx0_w14.out) (by omega)) (Lay.gra.more (Lay.gra.sep_lies HSt0_w14.out) (by omega))).mono ?_
    rintro e' w15 ⟨rfl, hb⟩
    have HB_w15 : Hid (Below W1.heap.size W1 w15) := HB_w14.out.trans (hb.mono HB_w14.out.size)
    have hz_w15 : w14.heap.size ≤ w15.heap.size := hb.size
    have HBX_w15 : Hid (Below w12.heap.size w12 w15) := HBX_w14.out.trans (hb.mono HBX_w14.out.size)
    have HSx0_w15 := Lib.hid (Lay.gra.sunder HSx0_w14.out hb (by omega))
    have HQ0_w15 := Lib.hid (HQ0_w14.out.under hb HQ0_w14.out.lt)
    have HSx1_w15 := Lib.hid (Tc.trc.sunder HSx1_w14.out hb (by omega))
    have HQ1_w15 := Lib.hid (HQ1_w14.out.under hb HQ1_w14.out.lt)
    have HSt0_w15 := Lib.hid (Lay.gra.sunder HSt0_w14.out hb (by omega))
    clear hb HSx0_w14 HQ0_w14 HSx1_w14 HQ1_w14 HSt0_w14
    try go_wp2_with fail
    refine hK.out _ _ ?_ (fun hHeld => ?_)
    · exact HKS.out _ HBX_w15.out
    clear hK K
    try simp only [Act.put, List.setIfInBounds_toArray, List.set_cons_zero, List.set_cons_succ]
    refine wpAnyH_take (i := 4) (oi := { dst := some 39, op := Go.Op.unOp Go.UnOp.not 4 (Go.Operand.tmp 38), type := 4, pos := "exact.go:5120", after := #[{ on := 3, ground := Go.Ground.data }], guard := none }) (v := ?_) rfl (by kernel_rfl) (by kernel_rfl) (by kernel_rfl) (fun _ _ _ h => h) (Or.inl ⟨by rfl, ?_⟩) (by assumption) ?_
    rotate_left
    · intro w hSw
      try dsimp only at hSw
      go_simp
      all_goals (with_reducible rfl)
    try simp only [Act.put, List.setIfInBounds_toArray, List.set_cons_zero, List.set_cons_succ]
    refine wpAnyH_done (by kernel_rfl) ?_ _
    go_wp2_with fail
    go_meet
    exact ⟨rfl, HBX_w15⟩
  case rest =>
  obtain ⟨rfl, HBc⟩ := hcut
  obtain ⟨w16, rfl⟩ : ∃ x, x = wc := ⟨_, rfl⟩
  have hb : Below w12.heap.size w12 w16 := HBc.out
  have HB_w16 : Hid (Below W1.heap.size W1 w16) := HB_w12.out.trans (hb.mono HB_w12.out.size)
  have hz_w16 : w12.heap.size ≤ w16.heap.size := hb.size
  have HSx0_w16 := Lib.hid (Lay.gra.sunder HSx0_w12.out hb (by omega))
  have HQ0_w16 := Lib.hid (HQ0_w12.out.under hb HQ0_w12.out.lt)
  have HSx1_w16 := Lib.hid (Tc.trc.sunder HSx1_w12.out hb (by omega))
  have HQ1_w16 := Lib.hid (HQ1_w12.out.under hb HQ1_w12.out.lt)
  clear hb HBc HKS HSx0_w12 HQ0_w12 HSx1_w12 HQ1_w12
  clear g00 g01 gl0 q00 q01 ql0
  obtain ⟨g10, g11⟩ := (HR1.out.under HB_w16.out HR1.out.lt).two
  have gl1 : w.heap.size + 1 < w16.heap.size := Nat.lt_of_lt_of_le HR1.out.lt HB_w16.out.size
  obtain ⟨q10, q11⟩ := HQ1_w16.out.two
  have ql1 := HQ1_w16.out.lt
  have HKS : Hid (∀ X, Below w16.heap.size w16 X → (fun w' => w'.cell? ⟨w.heap.size + 1, 0, none⟩ = some (C1 0) ∧ w'.cell? ⟨w.heap.size + 1, 1, none⟩ = some (C1 1) ∧ w'.cell? ⟨w10.heap.size, 0, none⟩ = some (.slice x1xa x1xl x1xc) ∧ w'.cell? ⟨w10.heap.size, 1, none⟩ = some (.slice x1ya x1yl x1yc)) X) := fun X h => ⟨((HR1.out.under HB_w16.out HR1.out.lt).under h (Nat.lt_of_lt_of_le HR1.out.lt HB_w16.out.size)).cell 0, ((HR1.out.under HB_w16.out HR1.out.lt).under h (Nat.lt_of_lt_of_le HR1.out.lt HB_w16.out.size)).cell 1, (HQ1_w16.out.under h HQ1_w16.out.lt).cell 0, (HQ1_w16.out.under h HQ1_w16.out.lt).cell 1⟩
  go_upto_region 16 with fail
  go_cut [44] from 40 to 43 (fun bb wx => bb = .bool false ∧ Hid (Below w16.heap.size w16 wx))
  case first =>
    have HBX_w16 : Hid (Below w16.heap.size w16 w16) := Below.refl _ _
    refine wp_region_held_drew (S := (fun w' => w'.cell? ⟨w.heap.size + 1, 0, none⟩ = some (C1 0) ∧ w'.cell? ⟨w.heap.size + 1, 1, none⟩ = some (C1 1) ∧ w'.cell? ⟨w10.heap.size, 0, none⟩ = some (.slice x1xa x1xl x1xc) ∧ w'.cell? ⟨w10.heap.size, 1, none⟩ = some (.slice x1ya x1yl x1yc))) (by kernel_rfl) ?_ (fun hHeld => ?_)
    · exact HKS.out _ HBX_w16.out.drew
    obtain ⟨w17, hX0⟩ : ∃ X, X = w16.drew := ⟨_, rfl⟩
    rw [← hX0] at hHeld ⊢
    have hb : Below w16.heap.size w16 w17 := by rw [hX0]; exact (Below.refl _ _).drew
    have HB_w17 : Hid (Below W1.heap.size W1 w17) := HB_w16.out.trans (hb.mono HB_w16.out.size)
    have hz_w17 : w16.heap.size ≤ w17.heap.size := hb.size
    have HBX_w17 : Hid (Below w16.heap.size w16 w17) := HBX_w16.out.trans (hb.mono HBX_w16.out.size)
    have HSx0_w17 := Lib.hid (Lay.gra.sunder HSx0_w16.out hb (by omega))
    have HQ0_w17 := Lib.hid (HQ0_w16.out.under hb HQ0_w16.out.lt)
    have HSx1_w17 := Lib.hid (Tc.trc.sunder HSx1_w16.out hb (by omega))
    have HQ1_w17 := Lib.hid (HQ1_w16.out.under hb HQ1_w16.out.lt)
    clear hX0 hb HSx0_w16 HQ0_w16 HSx1_w16 HQ1_w16
    refine wpAnyH_take (i := 0) (oi := { dst := some 40, op := Go.Op.load 52 (Go.Operand.tmp 8), type := 52, pos := "exact.go:5123", after := #[], guard := none }) (v := ?_) rfl (by kernel_rfl) (by kernel_rfl) (by kernel_rfl) (fun _ _ _ h => h) (Or.inl ⟨by rfl, ?_⟩) (by assumption) ?_
    rotate_left
    · intro w hSw
      try dsimp only at hSw
      go_simp
      all_goals (with_reducible rfl)
    try simp only [Act.put, List.setIfInBounds_toArray, List.set_cons_zero, List.set_cons_succ]
    refine wpAnyH_take (i := 1) (oi := { dst := some 41, op := Go.Op.load 44 (Go.Operand.tmp 3), type := 44, pos := "exact.go:5123", after := #[], guard := none }) (v := ?_) rfl (by kernel_rfl) (by kernel_rfl) (by kernel_rfl) (fun _ _ _ h => h) (Or.inl ⟨by rfl, ?_⟩) (by assumption) ?_
    rotate_left
    · intro w hSw
      try dsimp only at hSw
      go_simp
      all_goals (with_reducible rfl)
    try simp only [Act.put, List.setIfInBounds_toArray, List.set_cons_zero, List.set_cons_succ]
    refine wpAnyH_ready (rs := [2]) (by kernel_rfl) (by simp) (AllReadyH.cons (o := { dst := some 42, op := Go.Op.call { callee := Go.Callee.value (Go.Operand.func 23), args := #[Go.Operand.tmp 41], argTypes := #[44] }, type := 52, pos := "exact.go:5123", after := #[{ on := 1, ground := Go.Ground.data }], guard := none }) rfl (fun K hK => ?_) AllReadyH.nil)
    go_simp
    refine (Tc.toTr_any e1 C1 _ (Tc.trc.later HL1.out HB_w17.out HB_w17.out.size) HD1.out).mono ?_
    rintro e' w18 ⟨t1xa, t1xl, t1xc, t1ya, t1yl, t1yc, rfl, hs, hb⟩
    have HB_w18 : Hid (Below W1.heap.size W1 w18) := HB_w17.out.trans (hb.mono HB_w17.out.size)
    have hz_w18 : w17.heap.size ≤ w18.heap.size := hb.size
    have HBX_w18 : Hid (Below w16.heap.size w16 w18) := HBX_w17.out.trans (hb.mono HBX_w17.out.size)
    have HSx0_w18 := Lib.hid (Lay.gra.sunder HSx0_w17.out hb (by omega))
    have HQ0_w18 := Lib.hid (HQ0_w17.out.under hb HQ0_w17.out.lt)
    have HSx1_w18 := Lib.hid (Tc.trc.sunder HSx1_w17.out hb (by omega))
    have HQ1_w18 := Lib.hid (HQ1_w17.out.under hb HQ1_w17.out.lt)
    have HSt1_w18 : Hid (Tc.trc.sep w18 w17.heap.size w18.heap.size e1 (fun j => (#[.slice t1xa t1xl t1xc, .slice t1ya t1yl t1yc] : Array Value).getD j undef)) := hs
    clear hs hb HSx0_w17 HQ0_w17 HSx1_w17 HQ1_w17
    try go_wp2_with fail
    refine hK.out _ _ ?_ (fun hHeld => ?_)
    · exact HKS.out _ HBX_w18.out
    clear hK K
    try simp only [Act.put, List.setIfInBounds_toArray, List.set_cons_zero, List.set_cons_succ]
    refine wpAnyH_ready (rs := [3]) (by kernel_rfl) (by simp) (AllReadyH.cons (o := { dst := some 43, op := Go.Op.call { callee := Go.Callee.value (Go.Operand.func 26), args := #[Go.Operand.tmp 40, Go.Operand.tmp 42], argTypes := #[52, 52] }, type := 4, pos := "exact.go:5123", after := #[{ on := 0, ground := Go.Ground.data }, { on := 2, ground := Go.Ground.data }, { on := 2, ground := Go.Ground.chain }], guard := none }) rfl (fun K hK => ?_) AllReadyH.nil)
    go_simp
    refine (Tc.eqTr_any e1 (fun j => (#[.slice x1xa x1xl x1xc, .slice x1ya x1yl x1yc] : Array Value).getD j undef) (fun j => (#[.slice t1xa t1xl t1xc, .slice t1ya t1yl t1yc] : Array Value).getD j undef) _ (Tc.trc.more (Tc.trc.sep_lies HSx1_w18.out) (by omega)) (Tc.trc.more (Tc.trc.sep_lies HSt1_w18.out) (by omega))).mono ?_
    rintro e' w19 ⟨rfl, hb⟩
    have HB_w19 : Hid (Below W1.heap.size W1 w19) := HB_w18.out.trans (hb.mono HB_w18.out.size)
    have hz_w19 : w18.heap.size ≤ w19.heap.size := hb.size
    have HBX_w19 : Hid (Below w16.heap.size w16 w19) := HBX_w18.out.trans (hb.mono HBX_w18.out.size)
    have HSx0_w19 := Lib.hid (Lay.gra.sunder HSx0_w18.out hb (by omega))
    have HQ0_w19 := Lib.hid (HQ0_w18.out.under hb HQ0_w18.out.lt)
    have HSx1_w19 := Lib.hid (Tc.trc.sunder HSx1_w18.out hb (by omega))
    have HQ1_w19 := Lib.hid (HQ1_w18.out.under hb HQ1_w18.out.lt)
    have HSt1_w19 := Lib.hid (Tc.trc.sunder HSt1_w18.out hb (by omega))
    clear hb HSx0_w18 HQ0_w18 HSx1_w18 HQ1_w18 HSt1_w18
    try go_wp2_with fail
    refine hK.out _ _ ?_ (fun hHeld => ?_)
    · exact HKS.out _ HBX_w19.out
    clear hK K
    try simp only [Act.put, List.setIfInBounds_toArray, List.set_cons_zero, List.set_cons_succ]
    refine wpAnyH_take (i := 4) (oi := { dst := some 44, op := Go.Op.unOp Go.UnOp.not 4 (Go.Operand.tmp 43), type := 4, pos := "exact.go:5123", after := #[{ on := 3, ground := Go.Ground.data }], guard := none }) (v := ?_) rfl (by kernel_rfl) (by kernel_rfl) (by kernel_rfl) (fun _ _ _ h => h) (Or.inl ⟨by rfl, ?_⟩) (by assumption) ?_
    rotate_left
    · intro w hSw
      try dsimp only at hSw
      go_simp
      all_goals (with_reducible rfl)
    try simp only [Act.put, List.setIfInBounds_toArray, List.set_cons_zero, List.set_cons_succ]
    refine wpAnyH_done (by kernel_rfl) ?_ _
    go_wp2_with fail
    go_meet
    exact ⟨rfl, HBX_w19⟩
  case rest =>
  obtain ⟨rfl, HBc⟩ := hcut
  obtain ⟨w20, rfl⟩ : ∃ x, x = wc := ⟨_, rfl⟩
  have hb : Below w16.heap.size w16 w20 := HBc.out
  have HB_w20 : Hid (Below W1.heap.size W1 w20) := HB_w16.out.trans (hb.mono HB_w16.out.size)
  have hz_w20 : w16.heap.size ≤ w20.heap.size := hb.size
  have HSx0_w20 := Lib.hid (Lay.gra.sunder HSx0_w16.out hb (by omega))
  have HQ0_w20 := Lib.hid (HQ0_w16.out.under hb HQ0_w16.out.lt)
  have HSx1_w20 := Lib.hid (Tc.trc.sunder HSx1_w16.out hb (by omega))
  have HQ1_w20 := Lib.hid (HQ1_w16.out.under hb HQ1_w16.out.lt)
  clear hb HBc HKS HSx0_w16 HQ0_w16 HSx1_w16 HQ1_w16
  clear g10 g11 gl1 q10 q11 ql1
  go_wp2_with fail
  go_ret
  exact ⟨rfl, HBn.out _ HB_w20.out⟩

end Go.Proofs.Ytnkicididcnkbaa

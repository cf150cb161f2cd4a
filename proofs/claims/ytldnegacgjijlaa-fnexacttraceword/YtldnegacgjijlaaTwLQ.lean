/- The walk of the law laws.FnExactTraceWord. -/
import Derived.Test.YtldnegacgjijlaaTwIQ
import Derived.Test.YtldnegacgjijlaaGrSzQ
import Derived.Test.YtldnegacgjijlaaGrEqQ
import Derived.Test.YtldnegacgjijlaaGrToQ
import Derived.Test.YtldnegacgjijlaaMkGQ
import Derived.Test.YtldnegacgjijlaaJ19
import Derived.Deep.RegionHeld3
import Derived.Deep.RegionWith
import Derived.Deep.Cut
import Derived.Deep.CutRange
namespace Go.Proofs.Ytldnegacgjijlaa
open Go.RowKit

theorem twOut_len (g : Gp) (es : List Ex) {t : St} (h : Tc.trc.sz t ≤ 1048576) : (twOut g es t).locs.length ≤ 1048576 ∧ (twOut g es t).vals.length ≤ 1048576 := by
  rw [Tc.trc_sz, sta_sz] at h
  unfold twOut
  split
  · unfold wordT
    dsimp only
    rw [pick_len, pick_len]
    omega
  · exact ⟨Nat.zero_le _, Nat.zero_le _⟩

set_option maxHeartbeats 4000000 in
set_option maxRecDepth 100000 in
theorem lawTw_any (e0 : Gp) (C0 : Nat → Value) (e1 : List Ex) (C1 : Nat → Value) (e2 : St) (C2 : Nat → Value) (w : World) (hL0 : Lay.gra.lies w w.heap.size e0 C0) (hL1 : Lay.exs.lies w w.heap.size e1 C1) (hL2 : Tc.trc.lies w w.heap.size e2 C2) :
    Calls Try.prog 7 #[.agg #[C0 0, C0 1], C1 0, .agg #[C2 0, C2 1]] w fun e' w' => e' = .returned (.bool true) ∧ Below w.heap.size w w' := by
  obtain ⟨W1, hW1⟩ : ∃ W1, W1 = (w.alloc (.cells #[C0 0, C0 1] 61)).alloc (.cells #[C2 0, C2 1] 81) := ⟨_, rfl⟩
  have hrows := rows2 w 61 81 #[C0 0, C0 1] #[C2 0, C2 1]
  rw [← hW1] at hrows
  obtain ⟨hr0, hr2, hb0⟩ := hrows
  have HR0 := Lib.hid hr0
  have HR2 := Lib.hid hr2
  have hltW : w.heap.size ≤ W1.heap.size := hb0.size
  have HL0 : Hid (Lay.gra.lies W1 W1.heap.size e0 C0) := Lay.gra.later hL0 hb0 hb0.size
  have HL1 : Hid (Lay.exs.lies W1 W1.heap.size e1 C1) := Lay.exs.later hL1 hb0 hb0.size
  have HL2 : Hid (Tc.trc.lies W1 W1.heap.size e2 C2) := Tc.trc.later hL2 hb0 hb0.size
  have HB0 := Lib.hid hb0
  have HW1 := Lib.hid hW1
  have HBn : Hid (∀ X, Below W1.heap.size W1 X → Below w.heap.size w X) := fun X h => HB0.out.trans (h.mono HB0.out.size)
  have HB_W1 : Hid (Below W1.heap.size W1 W1) := Below.refl _ _
  clear hb0 hW1 hr0 hr2 hL0 hL1 hL2
  obtain ⟨r0, hr0, hc0⟩ := room_next (left := 1048576) (n := Lay.gra.sz e0) (by omega) (by omega)
  have HRm0 := Lib.hid hr0
  clear hr0
  go_enter Try.func7, Try.ntmps7
  go_wp2_with fail
  rw [← HW1.out]
  refine (szGr_any e0 C0 1048576 _ (Lay.gra.later HL0.out HB_W1.out HB_W1.out.size) (by omega) (by omega)).mono ?_
  rintro e' w1 ⟨rfl, hb⟩
  rw [← HRm0.out]
  have HB_w1 : Hid (Below W1.heap.size W1 w1) := HB_W1.out.trans (hb.mono HB_W1.out.size)
  have hz_w1 : W1.heap.size ≤ w1.heap.size := hb.size
  clear hb
  rcases hc0 with hneg | ⟨hp, hq, hn0⟩
  · go_wp2_with fail
    go_ret
    exact ⟨rfl, HBn.out _ HB_w1.out⟩
  have HD0 : Hid (Lay.gra.sz e0 ≤ 1048576) := hn0
  clear hn0
  obtain ⟨r1, hr1, hc1⟩ := room_next (left := r0) (n := Lay.exs.sz e1) hp hq
  have HRm1 := Lib.hid hr1
  clear hr1
  go_wp2_with fail
  refine (szExs_any e1 C1 r0 _ (Lay.exs.later HL1.out HB_w1.out HB_w1.out.size) (by omega) (by omega)).mono ?_
  rintro e' w2 ⟨rfl, hb⟩
  rw [← HRm1.out]
  have HB_w2 : Hid (Below W1.heap.size W1 w2) := HB_w1.out.trans (hb.mono HB_w1.out.size)
  have hz_w2 : w1.heap.size ≤ w2.heap.size := hb.size
  clear hb
  clear hp hq
  rcases hc1 with hneg | ⟨hp, hq, hn1⟩
  · go_wp2_with fail
    go_ret
    exact ⟨rfl, HBn.out _ HB_w2.out⟩
  have HD1 : Hid (Lay.exs.sz e1 ≤ 1048576) := hn1
  clear hn1
  obtain ⟨r2, hr2, hc2⟩ := room_next (left := r1) (n := Tc.trc.sz e2) hp hq
  have HRm2 := Lib.hid hr2
  clear hr2
  obtain ⟨g20, g21⟩ := (HR2.out.under HB_w2.out HR2.out.lt).two
  go_wp2_with fail
  refine (Tc.szTr_any e2 C2 r1 _ (Tc.trc.later HL2.out HB_w2.out HB_w2.out.size) (by omega) (by omega)).mono ?_
  clear g20 g21
  rintro e' w3 ⟨rfl, hb⟩
  rw [← HRm2.out]
  have HB_w3 : Hid (Below W1.heap.size W1 w3) := HB_w2.out.trans (hb.mono HB_w2.out.size)
  have hz_w3 : w2.heap.size ≤ w3.heap.size := hb.size
  clear hb
  clear hp hq
  rcases hc2 with hneg | ⟨hp, hq, hn2⟩
  · go_wp2_with fail
    go_ret
    exact ⟨rfl, HBn.out _ HB_w3.out⟩
  have HD2 : Hid (Tc.trc.sz e2 ≤ 1048576) := hn2
  clear hn2
  obtain ⟨vl0, hvl0⟩ : ∃ vl0 : St, vl0 = twOut e0 e1 e2 := ⟨_, rfl⟩
  have hla : vl0.locs.length ≤ 1048576 := by rw [hvl0]; exact (twOut_len _ _ HD2.out).1
  have hlb : vl0.vals.length ≤ 1048576 := by rw [hvl0]; exact (twOut_len _ _ HD2.out).2
  have HLa := Lib.hid hla
  have HLb := Lib.hid hlb
  clear hla hlb
  have HV0 := Lib.hid hvl0
  clear hvl0
  obtain ⟨vl1, hvl1⟩ : ∃ vl1 : Bool, vl1 = twOk e0 e1 e2 := ⟨_, rfl⟩
  have HV1 := Lib.hid hvl1
  clear hvl1
  obtain ⟨g00, g01⟩ := (HR0.out.under HB_w3.out HR0.out.lt).two
  have gl0 : w.heap.size < w3.heap.size := Nat.lt_of_lt_of_le HR0.out.lt HB_w3.out.size
  obtain ⟨g20, g21⟩ := (HR2.out.under HB_w3.out HR2.out.lt).two
  have gl2 : w.heap.size + 1 < w3.heap.size := Nat.lt_of_lt_of_le HR2.out.lt HB_w3.out.size
  have HKS : Hid (∀ X, Below W1.heap.size W1 X → (fun w' => w'.cell? ⟨w.heap.size, 0, none⟩ = some (C0 0) ∧ w'.cell? ⟨w.heap.size, 1, none⟩ = some (C0 1) ∧ w'.cell? ⟨w.heap.size + 1, 0, none⟩ = some (C2 0) ∧ w'.cell? ⟨w.heap.size + 1, 1, none⟩ = some (C2 1)) X) := fun X h => ⟨(HR0.out.under h HR0.out.lt).cell 0, (HR0.out.under h HR0.out.lt).cell 1, (HR2.out.under h HR2.out.lt).cell 0, (HR2.out.under h HR2.out.lt).cell 1⟩
  go_upto_region 11 with fail
  go_cut [8, 9] from 35 to 44 (fun b0 b1 wx => ∃ (zz : Nat) (xap : Option Addr) (xcp : Nat) (yap : Option Addr) (ycp : Nat), b0 = .pointer (some ⟨zz, 0, none⟩) ∧ b1 = .bool vl1 ∧ Hid (Row wx zz 83 #[.slice xap vl0.locs.length xcp, .slice yap vl0.vals.length ycp]) ∧ Hid (StR wx w3.heap.size wx.heap.size vl0 (.slice xap vl0.locs.length xcp) (.slice yap vl0.vals.length ycp)) ∧ w3.heap.size ≤ zz ∧ Hid (Below w3.heap.size w3 wx))
  case first =>
    have HBX_w3 : Hid (Below w3.heap.size w3 w3) := Below.refl _ _
    refine wp_region_held_drew (S := (fun w' => w'.cell? ⟨w.heap.size, 0, none⟩ = some (C0 0) ∧ w'.cell? ⟨w.heap.size, 1, none⟩ = some (C0 1) ∧ w'.cell? ⟨w.heap.size + 1, 0, none⟩ = some (C2 0) ∧ w'.cell? ⟨w.heap.size + 1, 1, none⟩ = some (C2 1))) (by kernel_rfl) ?_ (fun hHeld => ?_)
    · exact HKS.out _ HB_w3.out.drew
    obtain ⟨w4, hX0⟩ : ∃ X, X = w3.drew := ⟨_, rfl⟩
    rw [← hX0] at hHeld ⊢
    have hb : Below w3.heap.size w3 w4 := by rw [hX0]; exact (Below.refl _ _).drew
    have HB_w4 : Hid (Below W1.heap.size W1 w4) := HB_w3.out.trans (hb.mono HB_w3.out.size)
    have hz_w4 : w3.heap.size ≤ w4.heap.size := hb.size
    have HBX_w4 : Hid (Below w3.heap.size w3 w4) := HBX_w3.out.trans (hb.mono HBX_w3.out.size)
    clear hX0 hb
    refine wpAnyH_take (i := 0) (oi := { dst := some 36, op := Go.Op.load 61 (Go.Operand.tmp 3), type := 61, pos := "exact.go:5144", after := #[], guard := none }) (v := ?_) rfl (by kernel_rfl) (by kernel_rfl) (by kernel_rfl) (fun _ _ _ h => h) (Or.inl ⟨by rfl, ?_⟩) (by assumption) ?_
    rotate_left
    · intro w hSw
      try dsimp only at hSw
      go_simp
      all_goals (with_reducible rfl)
    try simp only [Act.put, List.setIfInBounds_toArray, List.set_cons_zero, List.set_cons_succ]
    refine wpAnyH_take (i := 2) (oi := { dst := some 38, op := Go.Op.move (Go.Operand.tmp 1), type := 62, pos := "exact.go:5144", after := #[], guard := none }) (v := ?_) rfl (by kernel_rfl) (by kernel_rfl) (by kernel_rfl) (fun _ _ _ h => h) (Or.inl ⟨by rfl, ?_⟩) (by assumption) ?_
    rotate_left
    · intro w hSw
      try dsimp only at hSw
      go_simp
      all_goals (with_reducible rfl)
    try simp only [Act.put, List.setIfInBounds_toArray, List.set_cons_zero, List.set_cons_succ]
    refine wpAnyH_take (i := 4) (oi := { dst := some 40, op := Go.Op.load 81 (Go.Operand.tmp 5), type := 81, pos := "exact.go:5144", after := #[], guard := none }) (v := ?_) rfl (by kernel_rfl) (by kernel_rfl) (by kernel_rfl) (fun _ _ _ h => h) (Or.inl ⟨by rfl, ?_⟩) (by assumption) ?_
    rotate_left
    · intro w hSw
      try dsimp only at hSw
      go_simp
      all_goals (with_reducible rfl)
    try simp only [Act.put, List.setIfInBounds_toArray, List.set_cons_zero, List.set_cons_succ]
    refine wpAnyH_ready (rs := [1, 10]) (by kernel_rfl) (by simp) (AllReadyH.cons (o := { dst := some 37, op := Go.Op.call { callee := Go.Callee.value (Go.Operand.func 30), args := #[Go.Operand.tmp 36], argTypes := #[61] }, type := 69, pos := "exact.go:5144", after := #[{ on := 0, ground := Go.Ground.data }], guard := none }) rfl (fun K hK => ?_) (AllReadyH.cons (o := { dst := some 8, op := Go.Op.alloc 83, type := 0, pos := "exact.go:5144", after := #[], guard := none }) rfl (fun K hK => ?_) AllReadyH.nil))
    · skip
      go_simp
      refine (toGr_any e0 C0 _ (Lay.gra.later HL0.out HB_w4.out HB_w4.out.size) HD0.out).mono ?_
      rintro e' w5 ⟨p0xa, p0xl, p0xc, p0ya, p0yl, p0yc, rfl, hs, hb⟩
      have HB_w5 : Hid (Below W1.heap.size W1 w5) := HB_w4.out.trans (hb.mono HB_w4.out.size)
      have hz_w5 : w4.heap.size ≤ w5.heap.size := hb.size
      have HBX_w5 : Hid (Below w3.heap.size w3 w5) := HBX_w4.out.trans (hb.mono HBX_w4.out.size)
      have HSp0_w5 : Hid (Lay.gra.sep w5 w4.heap.size w5.heap.size e0 (fun j => (#[.slice p0xa p0xl p0xc, .slice p0ya p0yl p0yc] : Array Value).getD j undef)) := hs
      clear hs hb
      try go_wp2_with fail
      refine hK.out _ _ ?_ (fun hHeld => ?_)
      · exact HKS.out _ HB_w5.out
      clear hK K
      try simp only [Act.put, List.setIfInBounds_toArray, List.set_cons_zero, List.set_cons_succ]
      refine wpAnyH_ready (rs := [3, 10]) (by kernel_rfl) (by simp) (AllReadyH.cons (o := { dst := some 39, op := Go.Op.call { callee := Go.Callee.value (Go.Operand.func 31), args := #[Go.Operand.tmp 38], argTypes := #[62] }, type := 71, pos := "exact.go:5144", after := #[{ on := 2, ground := Go.Ground.data }, { on := 1, ground := Go.Ground.chain }], guard := none }) rfl (fun K hK => ?_) (AllReadyH.cons (o := { dst := some 8, op := Go.Op.alloc 83, type := 0, pos := "exact.go:5144", after := #[], guard := none }) rfl (fun K hK => ?_) AllReadyH.nil))
      · skip
        go_simp
        refine (toExs_any e1 C1 _ (Lay.exs.later HL1.out HB_w5.out HB_w5.out.size) HD1.out).mono ?_
        rintro e' w6 ⟨p1xa, p1xl, p1xc, rfl, hs, hb⟩
        have HB_w6 : Hid (Below W1.heap.size W1 w6) := HB_w5.out.trans (hb.mono HB_w5.out.size)
        have hz_w6 : w5.heap.size ≤ w6.heap.size := hb.size
        have HBX_w6 : Hid (Below w3.heap.size w3 w6) := HBX_w5.out.trans (hb.mono HBX_w5.out.size)
        have HSp0_w6 := Lib.hid (Lay.gra.sunder HSp0_w5.out hb (by omega))
        have HSp1_w6 : Hid (Lay.exs.sep w6 w5.heap.size w6.heap.size e1 (fun j => (#[.slice p1xa p1xl p1xc] : Array Value).getD j undef)) := hs
        clear hs hb HSp0_w5
        try go_wp2_with fail
        refine hK.out _ _ ?_ (fun hHeld => ?_)
        · exact HKS.out _ HB_w6.out
        clear hK K
        try simp only [Act.put, List.setIfInBounds_toArray, List.set_cons_zero, List.set_cons_succ]
        refine wpAnyH_ready (rs := [5, 10]) (by kernel_rfl) (by simp) (AllReadyH.cons (o := { dst := some 41, op := Go.Op.call { callee := Go.Callee.value (Go.Operand.func 42), args := #[Go.Operand.tmp 40], argTypes := #[81] }, type := 86, pos := "exact.go:5144", after := #[{ on := 4, ground := Go.Ground.data }, { on := 3, ground := Go.Ground.chain }], guard := none }) rfl (fun K hK => ?_) (AllReadyH.cons (o := { dst := some 8, op := Go.Op.alloc 83, type := 0, pos := "exact.go:5144", after := #[], guard := none }) rfl (fun K hK => ?_) AllReadyH.nil))
        · skip
          go_simp
          refine (Tc.toTr_any e2 C2 _ (Tc.trc.later HL2.out HB_w6.out HB_w6.out.size) HD2.out).mono ?_
          rintro e' w7 ⟨p2xa, p2xl, p2xc, p2ya, p2yl, p2yc, rfl, hs, hb⟩
          have HB_w7 : Hid (Below W1.heap.size W1 w7) := HB_w6.out.trans (hb.mono HB_w6.out.size)
          have hz_w7 : w6.heap.size ≤ w7.heap.size := hb.size
          have HBX_w7 : Hid (Below w3.heap.size w3 w7) := HBX_w6.out.trans (hb.mono HBX_w6.out.size)
          have HSp0_w7 := Lib.hid (Lay.gra.sunder HSp0_w6.out hb (by omega))
          have HSp1_w7 := Lib.hid (Lay.exs.sunder HSp1_w6.out hb (by omega))
          have HSp2_w7 : Hid (Tc.trc.sep w7 w6.heap.size w7.heap.size e2 (fun j => (#[.slice p2xa p2xl p2xc, .slice p2ya p2yl p2yc] : Array Value).getD j undef)) := hs
          clear hs hb HSp0_w6 HSp1_w6
          try go_wp2_with fail
          refine hK.out _ _ ?_ (fun hHeld => ?_)
          · exact HKS.out _ HB_w7.out
          clear hK K
          try simp only [Act.put, List.setIfInBounds_toArray, List.set_cons_zero, List.set_cons_succ]
          refine wpAnyH_ready (rs := [6, 10]) (by kernel_rfl) (by simp) (AllReadyH.cons (o := { dst := some 42, op := Go.Op.call { callee := Go.Callee.value (Go.Operand.func 41), args := #[Go.Operand.tmp 37, Go.Operand.tmp 39, Go.Operand.tmp 41], argTypes := #[69, 71, 86] }, type := 84, pos := "exact.go:5144", after := #[{ on := 1, ground := Go.Ground.data }, { on := 3, ground := Go.Ground.data }, { on := 5, ground := Go.Ground.data }, { on := 5, ground := Go.Ground.chain }], guard := none }) rfl (fun K hK => ?_) (AllReadyH.cons (o := { dst := some 8, op := Go.Op.alloc 83, type := 0, pos := "exact.go:5144", after := #[], guard := none }) rfl (fun K hK => ?_) AllReadyH.nil))
          · skip
            go_simp
            refine (specTw_any e0 (fun j => (#[.slice p0xa p0xl p0xc, .slice p0ya p0yl p0yc] : Array Value).getD j undef) e1 (fun j => (#[.slice p1xa p1xl p1xc] : Array Value).getD j undef) e2 (fun j => (#[.slice p2xa p2xl p2xc, .slice p2ya p2yl p2yc] : Array Value).getD j undef) _ (Lay.gra.more (Lay.gra.sep_lies HSp0_w7.out) (by omega)) (Lay.exs.more (Lay.exs.sep_lies HSp1_w7.out) (by omega)) (Tc.trc.more (Tc.trc.sep_lies HSp2_w7.out) (by omega)) HD0.out HD1.out HD2.out).mono ?_
            rintro e' w8 ⟨Xp, Yp, rfl, hS, hb⟩
            rw [← HV0.out] at hS
            rw [← HV1.out]
            obtain ⟨xap, xcp, yap, ycp, rfl, rfl⟩ := hS.form
            have HB_w8 : Hid (Below W1.heap.size W1 w8) := HB_w7.out.trans (hb.mono HB_w7.out.size)
            have hz_w8 : w7.heap.size ≤ w8.heap.size := hb.size
            have HBX_w8 : Hid (Below w3.heap.size w3 w8) := HBX_w7.out.trans (hb.mono HBX_w7.out.size)
            have HSp0_w8 := Lib.hid (Lay.gra.sunder HSp0_w7.out hb (by omega))
            have HSp1_w8 := Lib.hid (Lay.exs.sunder HSp1_w7.out hb (by omega))
            have HSp2_w8 := Lib.hid (Tc.trc.sunder HSp2_w7.out hb (by omega))
            have HGp_w8 : Hid (StR w8 w7.heap.size w8.heap.size vl0 (.slice xap vl0.locs.length xcp) (.slice yap vl0.vals.length ycp)) := hS
            clear hS hb HSp0_w7 HSp1_w7 HSp2_w7
            try go_wp2_with fail
            refine hK.out _ _ ?_ (fun hHeld => ?_)
            · exact HKS.out _ HB_w8.out
            clear hK K
            try simp only [Act.put, List.setIfInBounds_toArray, List.set_cons_zero, List.set_cons_succ]
            refine wpAnyH_take (i := 7) (oi := { dst := some 35, op := Go.Op.move (Go.Operand.tmp 42), type := 84, pos := "exact.go:5144", after := #[{ on := 6, ground := Go.Ground.data }], guard := none }) (v := ?_) rfl (by kernel_rfl) (by kernel_rfl) (by kernel_rfl) (fun _ _ _ h => h) (Or.inl ⟨by rfl, ?_⟩) (by assumption) ?_
            rotate_left
            · intro w hSw
              try dsimp only at hSw
              go_simp
              all_goals (with_reducible rfl)
            try simp only [Act.put, List.setIfInBounds_toArray, List.set_cons_zero, List.set_cons_succ]
            refine wpAnyH_take (i := 8) (oi := { dst := some 43, op := Go.Op.extract (Go.Operand.tmp 35) 0, type := 83, pos := "exact.go:5144", after := #[{ on := 7, ground := Go.Ground.data }], guard := none }) (v := ?_) rfl (by kernel_rfl) (by kernel_rfl) (by kernel_rfl) (fun _ _ _ h => h) (Or.inl ⟨by rfl, ?_⟩) (by assumption) ?_
            rotate_left
            · intro w hSw
              try dsimp only at hSw
              go_simp
              all_goals (with_reducible rfl)
            try simp only [Act.put, List.setIfInBounds_toArray, List.set_cons_zero, List.set_cons_succ]
            refine wpAnyH_take (i := 9) (oi := { dst := some 44, op := Go.Op.extract (Go.Operand.tmp 35) 1, type := 4, pos := "exact.go:5144", after := #[{ on := 7, ground := Go.Ground.data }, { on := 11, ground := Go.Ground.gcOnly Go.Departure.lateStores }], guard := none }) (v := ?_) rfl (by kernel_rfl) (by kernel_rfl) (by kernel_rfl) (fun _ _ _ h => h) (Or.inl ⟨by rfl, ?_⟩) (by assumption) ?_
            rotate_left
            · intro w hSw
              try dsimp only at hSw
              go_simp
              all_goals (with_reducible rfl)
            try simp only [Act.put, List.setIfInBounds_toArray, List.set_cons_zero, List.set_cons_succ]
            refine wpAnyH_ready (rs := [10]) (by kernel_rfl) (by simp) (AllReadyH.cons (o := { dst := some 8, op := Go.Op.alloc 83, type := 0, pos := "exact.go:5144", after := #[], guard := none }) rfl (fun K hK => ?_) AllReadyH.nil)
            go_simp
            obtain ⟨w9, hY⟩ : ∃ Y, Y = w8.alloc (.cells #[.slice none 0 0, .slice none 0 0] 83) := ⟨_, rfl⟩
            rw [← hY]
            have hb : Below w8.heap.size w8 w9 := by rw [hY]; exact (Below.refl _ _).alloc (Nat.le_refl _) _
            have hnew : Row w9 w8.heap.size 83 #[.slice none 0 0, .slice none 0 0] := by rw [hY]; exact Row.new _ _ _
            have hs_w9 : w8.heap.size < w9.heap.size := hnew.lt
            have HB_w9 : Hid (Below W1.heap.size W1 w9) := HB_w8.out.trans (hb.mono HB_w8.out.size)
            have hz_w9 : w8.heap.size ≤ w9.heap.size := hb.size
            have HBX_w9 : Hid (Below w3.heap.size w3 w9) := HBX_w8.out.trans (hb.mono HBX_w8.out.size)
            have HSp0_w9 := Lib.hid (Lay.gra.sunder HSp0_w8.out hb (by omega))
            have HSp1_w9 := Lib.hid (Lay.exs.sunder HSp1_w8.out hb (by omega))
            have HSp2_w9 := Lib.hid (Tc.trc.sunder HSp2_w8.out hb (by omega))
            have HGp_w9 := Lib.hid (HGp_w8.out.under hb (by omega))
            have HZp_w9 := Lib.hid hnew
            clear hnew hb hY HSp0_w8 HSp1_w8 HSp2_w8 HGp_w8
            refine hK.out _ _ ?_ (fun hHeld => ?_)
            · exact HKS.out _ HB_w9.out
            clear hK K
            try simp only [Act.put, List.setIfInBounds_toArray, List.set_cons_zero, List.set_cons_succ]
            refine wpAnyH_ready (rs := [11]) (by kernel_rfl) (by simp) (AllReadyH.cons (o := { dst := none, op := Go.Op.store 83 (Go.Operand.tmp 8) (Go.Operand.tmp 43), type := 0, pos := "exact.go:5144", after := #[{ on := 10, ground := Go.Ground.data }, { on := 8, ground := Go.Ground.data }, { on := 6, ground := Go.Ground.chain }, { on := 0, ground := Go.Ground.phase }, { on := 1, ground := Go.Ground.phase }, { on := 2, ground := Go.Ground.phase }, { on := 3, ground := Go.Ground.phase }, { on := 4, ground := Go.Ground.phase }, { on := 5, ground := Go.Ground.phase }, { on := 6, ground := Go.Ground.phase }, { on := 7, ground := Go.Ground.phase }, { on := 8, ground := Go.Ground.phase }, { on := 9, ground := Go.Ground.textOnly Go.Departure.lateStores }, { on := 10, ground := Go.Ground.phase }], guard := none }) rfl (fun K hK => ?_) AllReadyH.nil)
            obtain ⟨x0, x1⟩ := HZp_w9.out.two
            have u0 := HZp_w9.out.frozen 0
            have u1 := HZp_w9.out.frozen 1
            go_simp
            obtain ⟨w10, hY⟩ : ∃ Y, Y = (w9.setCell ⟨w8.heap.size, 0, none⟩ (.slice xap vl0.locs.length xcp)).setCell ⟨w8.heap.size, 1, none⟩ (.slice yap vl0.vals.length ycp) := ⟨_, rfl⟩
            rw [← hY]
            have hk : Kept w8.heap.size (w8.heap.size + 1) w9 w10 := by rw [hY]; exact ((Kept.refl w8.heap.size (w8.heap.size + 1) w9).trans (Kept.set_ w8.heap.size (w8.heap.size + 1) _ (Nat.le_refl _) (Nat.lt_succ_self _) 0 _)).trans (Kept.set_ w8.heap.size (w8.heap.size + 1) _ (Nat.le_refl _) (Nat.lt_succ_self _) 1 _)
            have hnew : Row w10 w8.heap.size 83 #[(.slice xap vl0.locs.length xcp), (.slice yap vl0.vals.length ycp)] := by rw [hY]; exact ((HZp_w9.out.set_ 0 (.slice xap vl0.locs.length xcp)).set_ 1 (.slice yap vl0.vals.length ycp))
            have HB_w10 : Hid (Below W1.heap.size W1 w10) := HB_w9.out.trans (hk.below (by omega) (by omega))
            have hz_w10 : w9.heap.size ≤ w10.heap.size := hk.size
            have HBX_w10 : Hid (Below w3.heap.size w3 w10) := HBX_w9.out.trans (hk.below (by omega) (by omega))
            have HSp0_w10 : Hid (Lay.gra.sep w10 w4.heap.size w5.heap.size e0 (fun j => (#[.slice p0xa p0xl p0xc, .slice p0ya p0yl p0yc] : Array Value).getD j undef)) := Lay.gra.sep_keep (fun q b1 b2 => hk.other q (by omega) (by omega)) HSp0_w9.out
            have HSp1_w10 : Hid (Lay.exs.sep w10 w5.heap.size w6.heap.size e1 (fun j => (#[.slice p1xa p1xl p1xc] : Array Value).getD j undef)) := Lay.exs.sep_keep (fun q b1 b2 => hk.other q (by omega) (by omega)) HSp1_w9.out
            have HSp2_w10 : Hid (Tc.trc.sep w10 w6.heap.size w7.heap.size e2 (fun j => (#[.slice p2xa p2xl p2xc, .slice p2ya p2yl p2yc] : Array Value).getD j undef)) := Tc.trc.sep_keep (fun q b1 b2 => hk.other q (by omega) (by omega)) HSp2_w9.out
            have HGp_w10 := Lib.hid (HGp_w9.out.kept hk (by omega) (by omega))
            have HZp_w10 := Lib.hid hnew
            clear hk hnew hY HZp_w9 x0 u0 x1 u1 HSp0_w9 HSp1_w9 HSp2_w9 HGp_w9
            refine hK.out _ _ ?_ (fun hHeld => ?_)
            · exact HKS.out _ HB_w10.out
            clear hK K
            try simp only [Act.put, List.setIfInBounds_toArray, List.set_cons_zero, List.set_cons_succ]
            refine wpAnyH_take (i := 12) (oi := { dst := some 9, op := Go.Op.assign (Go.Operand.tmp 44), type := 4, pos := "exact.go:5144", after := #[{ on := 9, ground := Go.Ground.data }, { on := 11, ground := Go.Ground.chain }, { on := 0, ground := Go.Ground.phase }, { on := 1, ground := Go.Ground.phase }, { on := 2, ground := Go.Ground.phase }, { on := 3, ground := Go.Ground.phase }, { on := 4, ground := Go.Ground.phase }, { on := 5, ground := Go.Ground.phase }, { on := 6, ground := Go.Ground.phase }, { on := 7, ground := Go.Ground.phase }, { on := 8, ground := Go.Ground.phase }, { on := 9, ground := Go.Ground.phase }, { on := 10, ground := Go.Ground.phase }, { on := 11, ground := Go.Ground.phase }], guard := none }) (v := ?_) rfl (by kernel_rfl) (by kernel_rfl) (by kernel_rfl) (fun _ _ _ h => h) (Or.inl ⟨by rfl, ?_⟩) (by assumption) ?_
            rotate_left
            · intro w hSw
              try dsimp only at hSw
              go_simp
              all_goals (with_reducible rfl)
            try simp only [Act.put, List.setIfInBounds_toArray, List.set_cons_zero, List.set_cons_succ]
            refine wpAnyH_done (by kernel_rfl) ?_ _
            go_wp2_with fail
            go_meet
            exact ⟨_, xap, xcp, yap, ycp, rfl, rfl, HZp_w10, Lib.hid (HGp_w10.out.more (by omega) (by omega)), (by omega), HBX_w10⟩
          · skip
            go_simp
            obtain ⟨w11, hY⟩ : ∃ Y, Y = w7.alloc (.cells #[.slice none 0 0, .slice none 0 0] 83) := ⟨_, rfl⟩
            rw [← hY]
            have hb : Below w7.heap.size w7 w11 := by rw [hY]; exact (Below.refl _ _).alloc (Nat.le_refl _) _
            have hnew : Row w11 w7.heap.size 83 #[.slice none 0 0, .slice none 0 0] := by rw [hY]; exact Row.new _ _ _
            have hs_w11 : w7.heap.size < w11.heap.size := hnew.lt
            have HB_w11 : Hid (Below W1.heap.size W1 w11) := HB_w7.out.trans (hb.mono HB_w7.out.size)
            have hz_w11 : w7.heap.size ≤ w11.heap.size := hb.size
            have HBX_w11 : Hid (Below w3.heap.size w3 w11) := HBX_w7.out.trans (hb.mono HBX_w7.out.size)
            have HSp0_w11 := Lib.hid (Lay.gra.sunder HSp0_w7.out hb (by omega))
            have HSp1_w11 := Lib.hid (Lay.exs.sunder HSp1_w7.out hb (by omega))
            have HSp2_w11 := Lib.hid (Tc.trc.sunder HSp2_w7.out hb (by omega))
            have HZp_w11 := Lib.hid hnew
            clear hnew hb hY HSp0_w7 HSp1_w7 HSp2_w7
            refine hK.out _ _ ?_ (fun hHeld => ?_)
            · exact HKS.out _ HB_w11.out
            clear hK K
            try simp only [Act.put, List.setIfInBounds_toArray, List.set_cons_zero, List.set_cons_succ]
            refine wpAnyH_ready (rs := [6]) (by kernel_rfl) (by simp) (AllReadyH.cons (o := { dst := some 42, op := Go.Op.call { callee := Go.Callee.value (Go.Operand.func 41), args := #[Go.Operand.tmp 37, Go.Operand.tmp 39, Go.Operand.tmp 41], argTypes := #[69, 71, 86] }, type := 84, pos := "exact.go:5144", after := #[{ on := 1, ground := Go.Ground.data }, { on := 3, ground := Go.Ground.data }, { on := 5, ground := Go.Ground.data }, { on := 5, ground := Go.Ground.chain }], guard := none }) rfl (fun K hK => ?_) AllReadyH.nil)
            go_simp
            refine (specTw_any e0 (fun j => (#[.slice p0xa p0xl p0xc, .slice p0ya p0yl p0yc] : Array Value).getD j undef) e1 (fun j => (#[.slice p1xa p1xl p1xc] : Array Value).getD j undef) e2 (fun j => (#[.slice p2xa p2xl p2xc, .slice p2ya p2yl p2yc] : Array Value).getD j undef) _ (Lay.gra.more (Lay.gra.sep_lies HSp0_w11.out) (by omega)) (Lay.exs.more (Lay.exs.sep_lies HSp1_w11.out) (by omega)) (Tc.trc.more (Tc.trc.sep_lies HSp2_w11.out) (by omega)) HD0.out HD1.out HD2.out).mono ?_
            rintro e' w12 ⟨Xp, Yp, rfl, hS, hb⟩
            rw [← HV0.out] at hS
            rw [← HV1.out]
            obtain ⟨xap, xcp, yap, ycp, rfl, rfl⟩ := hS.form
            have HB_w12 : Hid (Below W1.heap.size W1 w12) := HB_w11.out.trans (hb.mono HB_w11.out.size)
            have hz_w12 : w11.heap.size ≤ w12.heap.size := hb.size
            have HBX_w12 : Hid (Below w3.heap.size w3 w12) := HBX_w11.out.trans (hb.mono HBX_w11.out.size)
            have HSp0_w12 := Lib.hid (Lay.gra.sunder HSp0_w11.out hb (by omega))
            have HSp1_w12 := Lib.hid (Lay.exs.sunder HSp1_w11.out hb (by omega))
            have HSp2_w12 := Lib.hid (Tc.trc.sunder HSp2_w11.out hb (by omega))
            have HZp_w12 := Lib.hid (HZp_w11.out.under hb HZp_w11.out.lt)
            have HGp_w12 : Hid (StR w12 w11.heap.size w12.heap.size vl0 (.slice xap vl0.locs.length xcp) (.slice yap vl0.vals.length ycp)) := hS
            clear hS hb HSp0_w11 HSp1_w11 HSp2_w11 HZp_w11
            try go_wp2_with fail
            refine hK.out _ _ ?_ (fun hHeld => ?_)
            · exact HKS.out _ HB_w12.out
            clear hK K
            try simp only [Act.put, List.setIfInBounds_toArray, List.set_cons_zero, List.set_cons_succ]
            refine wpAnyH_take (i := 7) (oi := { dst := some 35, op := Go.Op.move (Go.Operand.tmp 42), type := 84, pos := "exact.go:5144", after := #[{ on := 6, ground := Go.Ground.data }], guard := none }) (v := ?_) rfl (by kernel_rfl) (by kernel_rfl) (by kernel_rfl) (fun _ _ _ h => h) (Or.inl ⟨by rfl, ?_⟩) (by assumption) ?_
            rotate_left
            · intro w hSw
              try dsimp only at hSw
              go_simp
              all_goals (with_reducible rfl)
            try simp only [Act.put, List.setIfInBounds_toArray, List.set_cons_zero, List.set_cons_succ]
            refine wpAnyH_take (i := 8) (oi := { dst := some 43, op := Go.Op.extract (Go.Operand.tmp 35) 0, type := 83, pos := "exact.go:5144", after := #[{ on := 7, ground := Go.Ground.data }], guard := none }) (v := ?_) rfl (by kernel_rfl) (by kernel_rfl) (by kernel_rfl) (fun _ _ _ h => h) (Or.inl ⟨by rfl, ?_⟩) (by assumption) ?_
            rotate_left
            · intro w hSw
              try dsimp only at hSw
              go_simp
              all_goals (with_reducible rfl)
            try simp only [Act.put, List.setIfInBounds_toArray, List.set_cons_zero, List.set_cons_succ]
            refine wpAnyH_take (i := 9) (oi := { dst := some 44, op := Go.Op.extract (Go.Operand.tmp 35) 1, type := 4, pos := "exact.go:5144", after := #[{ on := 7, ground := Go.Ground.data }, { on := 11, ground := Go.Ground.gcOnly Go.Departure.lateStores }], guard := none }) (v := ?_) rfl (by kernel_rfl) (by kernel_rfl) (by kernel_rfl) (fun _ _ _ h => h) (Or.inl ⟨by rfl, ?_⟩) (by assumption) ?_
            rotate_left
            · intro w hSw
              try dsimp only at hSw
              go_simp
              all_goals (with_reducible rfl)
            try simp only [Act.put, List.setIfInBounds_toArray, List.set_cons_zero, List.set_cons_succ]
            refine wpAnyH_ready (rs := [11]) (by kernel_rfl) (by simp) (AllReadyH.cons (o := { dst := none, op := Go.Op.store 83 (Go.Operand.tmp 8) (Go.Operand.tmp 43), type := 0, pos := "exact.go:5144", after := #[{ on := 10, ground := Go.Ground.data }, { on := 8, ground := Go.Ground.data }, { on := 6, ground := Go.Ground.chain }, { on := 0, ground := Go.Ground.phase }, { on := 1, ground := Go.Ground.phase }, { on := 2, ground := Go.Ground.phase }, { on := 3, ground := Go.Ground.phase }, { on := 4, ground := Go.Ground.phase }, { on := 5, ground := Go.Ground.phase }, { on := 6, ground := Go.Ground.phase }, { on := 7, ground := Go.Ground.phase }, { on := 8, ground := Go.Ground.phase }, { on := 9, ground := Go.Ground.textOnly Go.Departure.lateStores }, { on := 10, ground := Go.Ground.phase }], guard := none }) rfl (fun K hK => ?_) AllReadyH.nil)
            obtain ⟨x0, x1⟩ := HZp_w12.out.two
            have u0 := HZp_w12.out.frozen 0
            have u1 := HZp_w12.out.frozen 1
            go_simp
            obtain ⟨w13, hY⟩ : ∃ Y, Y = (w12.setCell ⟨w7.heap.size, 0, none⟩ (.slice xap vl0.locs.length xcp)).setCell ⟨w7.heap.size, 1, none⟩ (.slice yap vl0.vals.length ycp) := ⟨_, rfl⟩
            rw [← hY]
            have hk : Kept w7.heap.size (w7.heap.size + 1) w12 w13 := by rw [hY]; exact ((Kept.refl w7.heap.size (w7.heap.size + 1) w12).trans (Kept.set_ w7.heap.size (w7.heap.size + 1) _ (Nat.le_refl _) (Nat.lt_succ_self _) 0 _)).trans (Kept.set_ w7.heap.size (w7.heap.size + 1) _ (Nat.le_refl _) (Nat.lt_succ_self _) 1 _)
            have hnew : Row w13 w7.heap.size 83 #[(.slice xap vl0.locs.length xcp), (.slice yap vl0.vals.length ycp)] := by rw [hY]; exact ((HZp_w12.out.set_ 0 (.slice xap vl0.locs.length xcp)).set_ 1 (.slice yap vl0.vals.length ycp))
            have HB_w13 : Hid (Below W1.heap.size W1 w13) := HB_w12.out.trans (hk.below (by omega) (by omega))
            have hz_w13 : w12.heap.size ≤ w13.heap.size := hk.size
            have HBX_w13 : Hid (Below w3.heap.size w3 w13) := HBX_w12.out.trans (hk.below (by omega) (by omega))
            have HSp0_w13 : Hid (Lay.gra.sep w13 w4.heap.size w5.heap.size e0 (fun j => (#[.slice p0xa p0xl p0xc, .slice p0ya p0yl p0yc] : Array Value).getD j undef)) := Lay.gra.sep_keep (fun q b1 b2 => hk.other q (by omega) (by omega)) HSp0_w12.out
            have HSp1_w13 : Hid (Lay.exs.sep w13 w5.heap.size w6.heap.size e1 (fun j => (#[.slice p1xa p1xl p1xc] : Array Value).getD j undef)) := Lay.exs.sep_keep (fun q b1 b2 => hk.other q (by omega) (by omega)) HSp1_w12.out
            have HSp2_w13 : Hid (Tc.trc.sep w13 w6.heap.size w7.heap.size e2 (fun j => (#[.slice p2xa p2xl p2xc, .slice p2ya p2yl p2yc] : Array Value).getD j undef)) := Tc.trc.sep_keep (fun q b1 b2 => hk.other q (by omega) (by omega)) HSp2_w12.out
            have HGp_w13 := Lib.hid (HGp_w12.out.kept hk (by omega) (by omega))
            have HZp_w13 := Lib.hid hnew
            clear hk hnew hY HZp_w12 x0 u0 x1 u1 HSp0_w12 HSp1_w12 HSp2_w12 HGp_w12
            refine hK.out _ _ ?_ (fun hHeld => ?_)
            · exact HKS.out _ HB_w13.out
            clear hK K
            try simp only [Act.put, List.setIfInBounds_toArray, List.set_cons_zero, List.set_cons_succ]
            refine wpAnyH_take (i := 12) (oi := { dst := some 9, op := Go.Op.assign (Go.Operand.tmp 44), type := 4, pos := "exact.go:5144", after := #[{ on := 9, ground := Go.Ground.data }, { on := 11, ground := Go.Ground.chain }, { on := 0, ground := Go.Ground.phase }, { on := 1, ground := Go.Ground.phase }, { on := 2, ground := Go.Ground.phase }, { on := 3, ground := Go.Ground.phase }, { on := 4, ground := Go.Ground.phase }, { on := 5, ground := Go.Ground.phase }, { on := 6, ground := Go.Ground.phase }, { on := 7, ground := Go.Ground.phase }, { on := 8, ground := Go.Ground.phase }, { on := 9, ground := Go.Ground.phase }, { on := 10, ground := Go.Ground.phase }, { on := 11, ground := Go.Ground.phase }], guard := none }) (v := ?_) rfl (by kernel_rfl) (by kernel_rfl) (by kernel_rfl) (fun _ _ _ h => h) (Or.inl ⟨by rfl, ?_⟩) (by assumption) ?_
            rotate_left
            · intro w hSw
              try dsimp only at hSw
              go_simp
              all_goals (with_reducible rfl)
            try simp only [Act.put, List.setIfInBounds_toArray, List.set_cons_zero, List.set_cons_succ]
            refine wpAnyH_done (by kernel_rfl) ?_ _
            go_wp2_with fail
            go_meet
            exact ⟨_, xap, xcp, yap, ycp, rfl, rfl, HZp_w13, Lib.hid (HGp_w13.out.more (by omega) (by omega)), (by omega), HBX_w13⟩
        · skip
          go_simp
          obtain ⟨w14, hY⟩ : ∃ Y, Y = w6.alloc (.cells #[.slice none 0 0, .slice none 0 0] 83) := ⟨_, rfl⟩
          rw [← hY]
          have hb : Below w6.heap.size w6 w14 := by rw [hY]; exact (Below.refl _ _).alloc (Nat.le_refl _) _
          have hnew : Row w14 w6.heap.size 83 #[.slice none 0 0, .slice none 0 0] := by rw [hY]; exact Row.new _ _ _
          have hs_w14 : w6.heap.size < w14.heap.size := hnew.lt
          have HB_w14 : Hid (Below W1.heap.size W1 w14) := HB_w6.out.trans (hb.mono HB_w6.out.size)
          have hz_w14 : w6.heap.size ≤ w14.heap.size := hb.size
          have HBX_w14 : Hid (Below w3.heap.size w3 w14) := HBX_w6.out.trans (hb.mono HBX_w6.out.size)
          have HSp0_w14 := Lib.hid (Lay.gra.sunder HSp0_w6.out hb (by omega))
          have HSp1_w14 := Lib.hid (Lay.exs.sunder HSp1_w6.out hb (by omega))
          have HZp_w14 := Lib.hid hnew
          clear hnew hb hY HSp0_w6 HSp1_w6
          refine hK.out _ _ ?_ (fun hHeld => ?_)
          · exact HKS.out _ HB_w14.out
          clear hK K
          try simp only [Act.put, List.setIfInBounds_toArray, List.set_cons_zero, List.set_cons_succ]
          refine wpAnyH_ready (rs := [5]) (by kernel_rfl) (by simp) (AllReadyH.cons (o := { dst := some 41, op := Go.Op.call { callee := Go.Callee.value (Go.Operand.func 42), args := #[Go.Operand.tmp 40], argTypes := #[81] }, type := 86, pos := "exact.go:5144", after := #[{ on := 4, ground := Go.Ground.data }, { on := 3, ground := Go.Ground.chain }], guard := none }) rfl (fun K hK => ?_) AllReadyH.nil)
          go_simp
          refine (Tc.toTr_any e2 C2 _ (Tc.trc.later HL2.out HB_w14.out HB_w14.out.size) HD2.out).mono ?_
          rintro e' w15 ⟨p2xa, p2xl, p2xc, p2ya, p2yl, p2yc, rfl, hs, hb⟩
          have HB_w15 : Hid (Below W1.heap.size W1 w15) := HB_w14.out.trans (hb.mono HB_w14.out.size)
          have hz_w15 : w14.heap.size ≤ w15.heap.size := hb.size
          have HBX_w15 : Hid (Below w3.heap.size w3 w15) := HBX_w14.out.trans (hb.mono HBX_w14.out.size)
          have HSp0_w15 := Lib.hid (Lay.gra.sunder HSp0_w14.out hb (by omega))
          have HSp1_w15 := Lib.hid (Lay.exs.sunder HSp1_w14.out hb (by omega))
          have HZp_w15 := Lib.hid (HZp_w14.out.under hb HZp_w14.out.lt)
          have HSp2_w15 : Hid (Tc.trc.sep w15 w14.heap.size w15.heap.size e2 (fun j => (#[.slice p2xa p2xl p2xc, .slice p2ya p2yl p2yc] : Array Value).getD j undef)) := hs
          clear hs hb HSp0_w14 HSp1_w14 HZp_w14
          try go_wp2_with fail
          refine hK.out _ _ ?_ (fun hHeld => ?_)
          · exact HKS.out _ HB_w15.out
          clear hK K
          try simp only [Act.put, List.setIfInBounds_toArray, List.set_cons_zero, List.set_cons_succ]
          refine wpAnyH_ready (rs := [6]) (by kernel_rfl) (by simp) (AllReadyH.cons (o := { dst := some 42, op := Go.Op.call { callee := Go.Callee.value (Go.Operand.func 41), args := #[Go.Operand.tmp 37, Go.Operand.tmp 39, Go.Operand.tmp 41], argTypes := #[69, 71, 86] }, type := 84, pos := "exact.go:5144", after := #[{ on := 1, ground := Go.Ground.data }, { on := 3, ground := Go.Ground.data }, { on := 5, ground := Go.Ground.data }, { on := 5, ground := Go.Ground.chain }], guard := none }) rfl (fun K hK => ?_) AllReadyH.nil)
          go_simp
          refine (specTw_any e0 (fun j => (#[.slice p0xa p0xl p0xc, .slice p0ya p0yl p0yc] : Array Value).getD j undef) e1 (fun j => (#[.slice p1xa p1xl p1xc] : Array Value).getD j undef) e2 (fun j => (#[.slice p2xa p2xl p2xc, .slice p2ya p2yl p2yc] : Array Value).getD j undef) _ (Lay.gra.more (Lay.gra.sep_lies HSp0_w15.out) (by omega)) (Lay.exs.more (Lay.exs.sep_lies HSp1_w15.out) (by omega)) (Tc.trc.more (Tc.trc.sep_lies HSp2_w15.out) (by omega)) HD0.out HD1.out HD2.out).mono ?_
          rintro e' w16 ⟨Xp, Yp, rfl, hS, hb⟩
          rw [← HV0.out] at hS
          rw [← HV1.out]
          obtain ⟨xap, xcp, yap, ycp, rfl, rfl⟩ := hS.form
          have HB_w16 : Hid (Below W1.heap.size W1 w16) := HB_w15.out.trans (hb.mono HB_w15.out.size)
          have hz_w16 : w15.heap.size ≤ w16.heap.size := hb.size
          have HBX_w16 : Hid (Below w3.heap.size w3 w16) := HBX_w15.out.trans (hb.mono HBX_w15.out.size)
          have HSp0_w16 := Lib.hid (Lay.gra.sunder HSp0_w15.out hb (by omega))
          have HSp1_w16 := Lib.hid (Lay.exs.sunder HSp1_w15.out hb (by omega))
          have HZp_w16 := Lib.hid (HZp_w15.out.under hb HZp_w15.out.lt)
          have HSp2_w16 := Lib.hid (Tc.trc.sunder HSp2_w15.out hb (by omega))
          have HGp_w16 : Hid (StR w16 w15.heap.size w16.heap.size vl0 (.slice xap vl0.locs.length xcp) (.slice yap vl0.vals.length ycp)) := hS
          clear hS hb HSp0_w15 HSp1_w15 HZp_w15 HSp2_w15
          try go_wp2_with fail
          refine hK.out _ _ ?_ (fun hHeld => ?_)
          · exact HKS.out _ HB_w16.out
          clear hK K
          try simp only [Act.put, List.setIfInBounds_toArray, List.set_cons_zero, List.set_cons_succ]
          refine wpAnyH_take (i := 7) (oi := { dst := some 35, op := Go.Op.move (Go.Operand.tmp 42), type := 84, pos := "exact.go:5144", after := #[{ on := 6, ground := Go.Ground.data }], guard := none }) (v := ?_) rfl (by kernel_rfl) (by kernel_rfl) (by kernel_rfl) (fun _ _ _ h => h) (Or.inl ⟨by rfl, ?_⟩) (by assumption) ?_
          rotate_left
          · intro w hSw
            try dsimp only at hSw
            go_simp
            all_goals (with_reducible rfl)
          try simp only [Act.put, List.setIfInBounds_toArray, List.set_cons_zero, List.set_cons_succ]
          refine wpAnyH_take (i := 8) (oi := { dst := some 43, op := Go.Op.extract (Go.Operand.tmp 35) 0, type := 83, pos := "exact.go:5144", after := #[{ on := 7, ground := Go.Ground.data }], guard := none }) (v := ?_) rfl (by kernel_rfl) (by kernel_rfl) (by kernel_rfl) (fun _ _ _ h => h) (Or.inl ⟨by rfl, ?_⟩) (by assumption) ?_
          rotate_left
          · intro w hSw
            try dsimp only at hSw
            go_simp
            all_goals (with_reducible rfl)
          try simp only [Act.put, List.setIfInBounds_toArray, List.set_cons_zero, List.set_cons_succ]
          refine wpAnyH_take (i := 9) (oi := { dst := some 44, op := Go.Op.extract (Go.Operand.tmp 35) 1, type := 4, pos := "exact.go:5144", after := #[{ on := 7, ground := Go.Ground.data }, { on := 11, ground := Go.Ground.gcOnly Go.Departure.lateStores }], guard := none }) (v := ?_) rfl (by kernel_rfl) (by kernel_rfl) (by kernel_rfl) (fun _ _ _ h => h) (Or.inl ⟨by rfl, ?_⟩) (by assumption) ?_
          rotate_left
          · intro w hSw
            try dsimp only at hSw
            go_simp
            all_goals (with_reducible rfl)
          try simp only [Act.put, List.setIfInBounds_toArray, List.set_cons_zero, List.set_cons_succ]
          refine wpAnyH_ready (rs := [11]) (by kernel_rfl) (by simp) (AllReadyH.cons (o := { dst := none, op := Go.Op.store 83 (Go.Operand.tmp 8) (Go.Operand.tmp 43), type := 0, pos := "exact.go:5144", after := #[{ on := 10, ground := Go.Ground.data }, { on := 8, ground := Go.Ground.data }, { on := 6, ground := Go.Ground.chain }, { on := 0, ground := Go.Ground.phase }, { on := 1, ground := Go.Ground.phase }, { on := 2, ground := Go.Ground.phase }, { on := 3, ground := Go.Ground.phase }, { on := 4, ground := Go.Ground.phase }, { on := 5, ground := Go.Ground.phase }, { on := 6, ground := Go.Ground.phase }, { on := 7, ground := Go.Ground.phase }, { on := 8, ground := Go.Ground.phase }, { on := 9, ground := Go.Ground.textOnly Go.Departure.lateStores }, { on := 10, ground := Go.Ground.phase }], guard := none }) rfl (fun K hK => ?_) AllReadyH.nil)
          obtain ⟨x0, x1⟩ := HZp_w16.out.two
          have u0 := HZp_w16.out.frozen 0
          have u1 := HZp_w16.out.frozen 1
          go_simp
          obtain ⟨w17, hY⟩ : ∃ Y, Y = (w16.setCell ⟨w6.heap.size, 0, none⟩ (.slice xap vl0.locs.length xcp)).setCell ⟨w6.heap.size, 1, none⟩ (.slice yap vl0.vals.length ycp) := ⟨_, rfl⟩
          rw [← hY]
          have hk : Kept w6.heap.size (w6.heap.size + 1) w16 w17 := by rw [hY]; exact ((Kept.refl w6.heap.size (w6.heap.size + 1) w16).trans (Kept.set_ w6.heap.size (w6.heap.size + 1) _ (Nat.le_refl _) (Nat.lt_succ_self _) 0 _)).trans (Kept.set_ w6.heap.size (w6.heap.size + 1) _ (Nat.le_refl _) (Nat.lt_succ_self _) 1 _)
          have hnew : Row w17 w6.heap.size 83 #[(.slice xap vl0.locs.length xcp), (.slice yap vl0.vals.length ycp)] := by rw [hY]; exact ((HZp_w16.out.set_ 0 (.slice xap vl0.locs.length xcp)).set_ 1 (.slice yap vl0.vals.length ycp))
          have HB_w17 : Hid (Below W1.heap.size W1 w17) := HB_w16.out.trans (hk.below (by omega) (by omega))
          have hz_w17 : w16.heap.size ≤ w17.heap.size := hk.size
          have HBX_w17 : Hid (Below w3.heap.size w3 w17) := HBX_w16.out.trans (hk.below (by omega) (by omega))
          have HSp0_w17 : Hid (Lay.gra.sep w17 w4.heap.size w5.heap.size e0 (fun j => (#[.slice p0xa p0xl p0xc, .slice p0ya p0yl p0yc] : Array Value).getD j undef)) := Lay.gra.sep_keep (fun q b1 b2 => hk.other q (by omega) (by omega)) HSp0_w16.out
          have HSp1_w17 : Hid (Lay.exs.sep w17 w5.heap.size w6.heap.size e1 (fun j => (#[.slice p1xa p1xl p1xc] : Array Value).getD j undef)) := Lay.exs.sep_keep (fun q b1 b2 => hk.other q (by omega) (by omega)) HSp1_w16.out
          have HSp2_w17 : Hid (Tc.trc.sep w17 w14.heap.size w15.heap.size e2 (fun j => (#[.slice p2xa p2xl p2xc, .slice p2ya p2yl p2yc] : Array Value).getD j undef)) := Tc.trc.sep_keep (fun q b1 b2 => hk.other q (by omega) (by omega)) HSp2_w16.out
          have HGp_w17 := Lib.hid (HGp_w16.out.kept hk (by omega) (by omega))
          have HZp_w17 := Lib.hid hnew
          clear hk hnew hY HZp_w16 x0 u0 x1 u1 HSp0_w16 HSp1_w16 HSp2_w16 HGp_w16
          refine hK.out _ _ ?_ (fun hHeld => ?_)
          · exact HKS.out _ HB_w17.out
          clear hK K
          try simp only [Act.put, List.setIfInBounds_toArray, List.set_cons_zero, List.set_cons_succ]
          refine wpAnyH_take (i := 12) (oi := { dst := some 9, op := Go.Op.assign (Go.Operand.tmp 44), type := 4, pos := "exact.go:5144", after := #[{ on := 9, ground := Go.Ground.data }, { on := 11, ground := Go.Ground.chain }, { on := 0, ground := Go.Ground.phase }, { on := 1, ground := Go.Ground.phase }, { on := 2, ground := Go.Ground.phase }, { on := 3, ground := Go.Ground.phase }, { on := 4, ground := Go.Ground.phase }, { on := 5, ground := Go.Ground.phase }, { on := 6, ground := Go.Ground.phase }, { on := 7, ground := Go.Ground.phase }, { on := 8, ground := Go.Ground.phase }, { on := 9, ground := Go.Ground.phase }, { on := 10, ground := Go.Ground.phase }, { on := 11, ground := Go.Ground.phase }], guard := none }) (v := ?_) rfl (by kernel_rfl) (by kernel_rfl) (by kernel_rfl) (fun _ _ _ h => h) (Or.inl ⟨by rfl, ?_⟩) (by assumption) ?_
          rotate_left
          · intro w hSw
            try dsimp only at hSw
            go_simp
            all_goals (with_reducible rfl)
          try simp only [Act.put, List.setIfInBounds_toArray, List.set_cons_zero, List.set_cons_succ]
          refine wpAnyH_done (by kernel_rfl) ?_ _
          go_wp2_with fail
          go_meet
          exact ⟨_, xap, xcp, yap, ycp, rfl, rfl, HZp_w17, Lib.hid (HGp_w17.out.more (by omega) (by omega)), (by omega), HBX_w17⟩
      · skip
        go_simp
        obtain ⟨w18, hY⟩ : ∃ Y, Y = w5.alloc (.cells #[.slice none 0 0, .slice none 0 0] 83) := ⟨_, rfl⟩
        rw [← hY]
        have hb : Below w5.heap.size w5 w18 := by rw [hY]; exact (Below.refl _ _).alloc (Nat.le_refl _) _
        have hnew : Row w18 w5.heap.size 83 #[.slice none 0 0, .slice none 0 0] := by rw [hY]; exact Row.new _ _ _
        have hs_w18 : w5.heap.size < w18.heap.size := hnew.lt
        have HB_w18 : Hid (Below W1.heap.size W1 w18) := HB_w5.out.trans (hb.mono HB_w5.out.size)
        have hz_w18 : w5.heap.size ≤ w18.heap.size := hb.size
        have HBX_w18 : Hid (Below w3.heap.size w3 w18) := HBX_w5.out.trans (hb.mono HBX_w5.out.size)
        have HSp0_w18 := Lib.hid (Lay.gra.sunder HSp0_w5.out hb (by omega))
        have HZp_w18 := Lib.hid hnew
        clear hnew hb hY HSp0_w5
        refine hK.out _ _ ?_ (fun hHeld => ?_)
        · exact HKS.out _ HB_w18.out
        clear hK K
        try simp only [Act.put, List.setIfInBounds_toArray, List.set_cons_zero, List.set_cons_succ]
        refine wpAnyH_ready (rs := [3]) (by kernel_rfl) (by simp) (AllReadyH.cons (o := { dst := some 39, op := Go.Op.call { callee := Go.Callee.value (Go.Operand.func 31), args := #[Go.Operand.tmp 38], argTypes := #[62] }, type := 71, pos := "exact.go:5144", after := #[{ on := 2, ground := Go.Ground.data }, { on := 1, ground := Go.Ground.chain }], guard := none }) rfl (fun K hK => ?_) AllReadyH.nil)
        go_simp
        refine (toExs_any e1 C1 _ (Lay.exs.later HL1.out HB_w18.out HB_w18.out.size) HD1.out).mono ?_
        rintro e' w19 ⟨p1xa, p1xl, p1xc, rfl, hs, hb⟩
        have HB_w19 : Hid (Below W1.heap.size W1 w19) := HB_w18.out.trans (hb.mono HB_w18.out.size)
        have hz_w19 : w18.heap.size ≤ w19.heap.size := hb.size
        have HBX_w19 : Hid (Below w3.heap.size w3 w19) := HBX_w18.out.trans (hb.mono HBX_w18.out.size)
        have HSp0_w19 := Lib.hid (Lay.gra.sunder HSp0_w18.out hb (by omega))
        have HZp_w19 := Lib.hid (HZp_w18.out.under hb HZp_w18.out.lt)
        have HSp1_w19 : Hid (Lay.exs.sep w19 w18.heap.size w19.heap.size e1 (fun j => (#[.slice p1xa p1xl p1xc] : Array Value).getD j undef)) := hs
        clear hs hb HSp0_w18 HZp_w18
        try go_wp2_with fail
        refine hK.out _ _ ?_ (fun hHeld => ?_)
        · exact HKS.out _ HB_w19.out
        clear hK K
        try simp only [Act.put, List.setIfInBounds_toArray, List.set_cons_zero, List.set_cons_succ]
        refine wpAnyH_ready (rs := [5]) (by kernel_rfl) (by simp) (AllReadyH.cons (o := { dst := some 41, op := Go.Op.call { callee := Go.Callee.value (Go.Operand.func 42), args := #[Go.Operand.tmp 40], argTypes := #[81] }, type := 86, pos := "exact.go:5144", after := #[{ on := 4, ground := Go.Ground.data }, { on := 3, ground := Go.Ground.chain }], guard := none }) rfl (fun K hK => ?_) AllReadyH.nil)
        go_simp
        refine (Tc.toTr_any e2 C2 _ (Tc.trc.later HL2.out HB_w19.out HB_w19.out.size) HD2.out).mono ?_
        rintro e' w20 ⟨p2xa, p2xl, p2xc, p2ya, p2yl, p2yc, rfl, hs, hb⟩
        have HB_w20 : Hid (Below W1.heap.size W1 w20) := HB_w19.out.trans (hb.mono HB_w19.out.size)
        have hz_w20 : w19.heap.size ≤ w20.heap.size := hb.size
        have HBX_w20 : Hid (Below w3.heap.size w3 w20) := HBX_w19.out.trans (hb.mono HBX_w19.out.size)
        have HSp0_w20 := Lib.hid (Lay.gra.sunder HSp0_w19.out hb (by omega))
        have HZp_w20 := Lib.hid (HZp_w19.out.under hb HZp_w19.out.lt)
        have HSp1_w20 := Lib.hid (Lay.exs.sunder HSp1_w19.out hb (by omega))
        have HSp2_w20 : Hid (Tc.trc.sep w20 w19.heap.size w20.heap.size e2 (fun j => (#[.slice p2xa p2xl p2xc, .slice p2ya p2yl p2yc] : Array Value).getD j undef)) := hs
        clear hs hb HSp0_w19 HZp_w19 HSp1_w19
        try go_wp2_with fail
        refine hK.out _ _ ?_ (fun hHeld => ?_)
        · exact HKS.out _ HB_w20.out
        clear hK K
        try simp only [Act.put, List.setIfInBounds_toArray, List.set_cons_zero, List.set_cons_succ]
        refine wpAnyH_ready (rs := [6]) (by kernel_rfl) (by simp) (AllReadyH.cons (o := { dst := some 42, op := Go.Op.call { callee := Go.Callee.value (Go.Operand.func 41), args := #[Go.Operand.tmp 37, Go.Operand.tmp 39, Go.Operand.tmp 41], argTypes := #[69, 71, 86] }, type := 84, pos := "exact.go:5144", after := #[{ on := 1, ground := Go.Ground.data }, { on := 3, ground := Go.Ground.data }, { on := 5, ground := Go.Ground.data }, { on := 5, ground := Go.Ground.chain }], guard := none }) rfl (fun K hK => ?_) AllReadyH.nil)
        go_simp
        refine (specTw_any e0 (fun j => (#[.slice p0xa p0xl p0xc, .slice p0ya p0yl p0yc] : Array Value).getD j undef) e1 (fun j => (#[.slice p1xa p1xl p1xc] : Array Value).getD j undef) e2 (fun j => (#[.slice p2xa p2xl p2xc, .slice p2ya p2yl p2yc] : Array Value).getD j undef) _ (Lay.gra.more (Lay.gra.sep_lies HSp0_w20.out) (by omega)) (Lay.exs.more (Lay.exs.sep_lies HSp1_w20.out) (by omega)) (Tc.trc.more (Tc.trc.sep_lies HSp2_w20.out) (by omega)) HD0.out HD1.out HD2.out).mono ?_
        rintro e' w21 ⟨Xp, Yp, rfl, hS, hb⟩
        rw [← HV0.out] at hS
        rw [← HV1.out]
        obtain ⟨xap, xcp, yap, ycp, rfl, rfl⟩ := hS.form
        have HB_w21 : Hid (Below W1.heap.size W1 w21) := HB_w20.out.trans (hb.mono HB_w20.out.size)
        have hz_w21 : w20.heap.size ≤ w21.heap.size := hb.size
        have HBX_w21 : Hid (Below w3.heap.size w3 w21) := HBX_w20.out.trans (hb.mono HBX_w20.out.size)
        have HSp0_w21 := Lib.hid (Lay.gra.sunder HSp0_w20.out hb (by omega))
        have HZp_w21 := Lib.hid (HZp_w20.out.under hb HZp_w20.out.lt)
        have HSp1_w21 := Lib.hid (Lay.exs.sunder HSp1_w20.out hb (by omega))
        have HSp2_w21 := Lib.hid (Tc.trc.sunder HSp2_w20.out hb (by omega))
        have HGp_w21 : Hid (StR w21 w20.heap.size w21.heap.size vl0 (.slice xap vl0.locs.length xcp) (.slice yap vl0.vals.length ycp)) := hS
        clear hS hb HSp0_w20 HZp_w20 HSp1_w20 HSp2_w20
        try go_wp2_with fail
        refine hK.out _ _ ?_ (fun hHeld => ?_)
        · exact HKS.out _ HB_w21.out
        clear hK K
        try simp only [Act.put, List.setIfInBounds_toArray, List.set_cons_zero, List.set_cons_succ]
        refine wpAnyH_take (i := 7) (oi := { dst := some 35, op := Go.Op.move (Go.Operand.tmp 42), type := 84, pos := "exact.go:5144", after := #[{ on := 6, ground := Go.Ground.data }], guard := none }) (v := ?_) rfl (by kernel_rfl) (by kernel_rfl) (by kernel_rfl) (fun _ _ _ h => h) (Or.inl ⟨by rfl, ?_⟩) (by assumption) ?_
        rotate_left
        · intro w hSw
          try dsimp only at hSw
          go_simp
          all_goals (with_reducible rfl)
        try simp only [Act.put, List.setIfInBounds_toArray, List.set_cons_zero, List.set_cons_succ]
        refine wpAnyH_take (i := 8) (oi := { dst := some 43, op := Go.Op.extract (Go.Operand.tmp 35) 0, type := 83, pos := "exact.go:5144", after := #[{ on := 7, ground := Go.Ground.data }], guard := none }) (v := ?_) rfl (by kernel_rfl) (by kernel_rfl) (by kernel_rfl) (fun _ _ _ h => h) (Or.inl ⟨by rfl, ?_⟩) (by assumption) ?_
        rotate_left
        · intro w hSw
          try dsimp only at hSw
          go_simp
          all_goals (with_reducible rfl)
        try simp only [Act.put, List.setIfInBounds_toArray, List.set_cons_zero, List.set_cons_succ]
        refine wpAnyH_take (i := 9) (oi := { dst := some 44, op := Go.Op.extract (Go.Operand.tmp 35) 1, type := 4, pos := "exact.go:5144", after := #[{ on := 7, ground := Go.Ground.data }, { on := 11, ground := Go.Ground.gcOnly Go.Departure.lateStores }], guard := none }) (v := ?_) rfl (by kernel_rfl) (by kernel_rfl) (by kernel_rfl) (fun _ _ _ h => h) (Or.inl ⟨by rfl, ?_⟩) (by assumption) ?_
        rotate_left
        · intro w hSw
          try dsimp only at hSw
          go_simp
          all_goals (with_reducible rfl)
        try simp only [Act.put, List.setIfInBounds_toArray, List.set_cons_zero, List.set_cons_succ]
        refine wpAnyH_ready (rs := [11]) (by kernel_rfl) (by simp) (AllReadyH.cons (o := { dst := none, op := Go.Op.store 83 (Go.Operand.tmp 8) (Go.Operand.tmp 43), type := 0, pos := "exact.go:5144", after := #[{ on := 10, ground := Go.Ground.data }, { on := 8, ground := Go.Ground.data }, { on := 6, ground := Go.Ground.chain }, { on := 0, ground := Go.Ground.phase }, { on := 1, ground := Go.Ground.phase }, { on := 2, ground := Go.Ground.phase }, { on := 3, ground := Go.Ground.phase }, { on := 4, ground := Go.Ground.phase }, { on := 5, ground := Go.Ground.phase }, { on := 6, ground := Go.Ground.phase }, { on := 7, ground := Go.Ground.phase }, { on := 8, ground := Go.Ground.phase }, { on := 9, ground := Go.Ground.textOnly Go.Departure.lateStores }, { on := 10, ground := Go.Ground.phase }], guard := none }) rfl (fun K hK => ?_) AllReadyH.nil)
        obtain ⟨x0, x1⟩ := HZp_w21.out.two
        have u0 := HZp_w21.out.frozen 0
        have u1 := HZp_w21.out.frozen 1
        go_simp
        obtain ⟨w22, hY⟩ : ∃ Y, Y = (w21.setCell ⟨w5.heap.size, 0, none⟩ (.slice xap vl0.locs.length xcp)).setCell ⟨w5.heap.size, 1, none⟩ (.slice yap vl0.vals.length ycp) := ⟨_, rfl⟩
        rw [← hY]
        have hk : Kept w5.heap.size (w5.heap.size + 1) w21 w22 := by rw [hY]; exact ((Kept.refl w5.heap.size (w5.heap.size + 1) w21).trans (Kept.set_ w5.heap.size (w5.heap.size + 1) _ (Nat.le_refl _) (Nat.lt_succ_self _) 0 _)).trans (Kept.set_ w5.heap.size (w5.heap.size + 1) _ (Nat.le_refl _) (Nat.lt_succ_self _) 1 _)
        have hnew : Row w22 w5.heap.size 83 #[(.slice xap vl0.locs.length xcp), (.slice yap vl0.vals.length ycp)] := by rw [hY]; exact ((HZp_w21.out.set_ 0 (.slice xap vl0.locs.length xcp)).set_ 1 (.slice yap vl0.vals.length ycp))
        have HB_w22 : Hid (Below W1.heap.size W1 w22) := HB_w21.out.trans (hk.below (by omega) (by omega))
        have hz_w22 : w21.heap.size ≤ w22.heap.size := hk.size
        have HBX_w22 : Hid (Below w3.heap.size w3 w22) := HBX_w21.out.trans (hk.below (by omega) (by omega))
        have HSp0_w22 : Hid (Lay.gra.sep w22 w4.heap.size w5.heap.size e0 (fun j => (#[.slice p0xa p0xl p0xc, .slice p0ya p0yl p0yc] : Array Value).getD j undef)) := Lay.gra.sep_keep (fun q b1 b2 => hk.other q (by omega) (by omega)) HSp0_w21.out
        have HSp1_w22 : Hid (Lay.exs.sep w22 w18.heap.size w19.heap.size e1 (fun j => (#[.slice p1xa p1xl p1xc] : Array Value).getD j undef)) := Lay.exs.sep_keep (fun q b1 b2 => hk.other q (by omega) (by omega)) HSp1_w21.out
        have HSp2_w22 : Hid (Tc.trc.sep w22 w19.heap.size w20.heap.size e2 (fun j => (#[.slice p2xa p2xl p2xc, .slice p2ya p2yl p2yc] : Array Value).getD j undef)) := Tc.trc.sep_keep (fun q b1 b2 => hk.other q (by omega) (by omega)) HSp2_w21.out
        have HGp_w22 := Lib.hid (HGp_w21.out.kept hk (by omega) (by omega))
        have HZp_w22 := Lib.hid hnew
        clear hk hnew hY HZp_w21 x0 u0 x1 u1 HSp0_w21 HSp1_w21 HSp2_w21 HGp_w21
        refine hK.out _ _ ?_ (fun hHeld => ?_)
        · exact HKS.out _ HB_w22.out
        clear hK K
        try simp only [Act.put, List.setIfInBounds_toArray, List.set_cons_zero, List.set_cons_succ]
        refine wpAnyH_take (i := 12) (oi := { dst := some 9, op := Go.Op.assign (Go.Operand.tmp 44), type := 4, pos := "exact.go:5144", after := #[{ on := 9, ground := Go.Ground.data }, { on := 11, ground := Go.Ground.chain }, { on := 0, ground := Go.Ground.phase }, { on := 1, ground := Go.Ground.phase }, { on := 2, ground := Go.Ground.phase }, { on := 3, ground := Go.Ground.phase }, { on := 4, ground := Go.Ground.phase }, { on := 5, ground := Go.Ground.phase }, { on := 6, ground := Go.Ground.phase }, { on := 7, ground := Go.Ground.phase }, { on := 8, ground := Go.Ground.phase }, { on := 9, ground := Go.Ground.phase }, { on := 10, ground := Go.Ground.phase }, { on := 11, ground := Go.Ground.phase }], guard := none }) (v := ?_) rfl (by kernel_rfl) (by kernel_rfl) (by kernel_rfl) (fun _ _ _ h => h) (Or.inl ⟨by rfl, ?_⟩) (by assumption) ?_
        rotate_left
        · intro w hSw
          try dsimp only at hSw
          go_simp
          all_goals (with_reducible rfl)
        try simp only [Act.put, List.setIfInBounds_toArray, List.set_cons_zero, List.set_cons_succ]
        refine wpAnyH_done (by kernel_rfl) ?_ _
        go_wp2_with fail
        go_meet
        exact ⟨_, xap, xcp, yap, ycp, rfl, rfl, HZp_w22, Lib.hid (HGp_w22.out.more (by omega) (by omega)), (by omega), HBX_w22⟩
    · skip
      go_simp
      obtain ⟨w23, hY⟩ : ∃ Y, Y = w4.alloc (.cells #[.slice none 0 0, .slice none 0 0] 83) := ⟨_, rfl⟩
      rw [← hY]
      have hb : Below w4.heap.size w4 w23 := by rw [hY]; exact (Below.refl _ _).alloc (Nat.le_refl _) _
      have hnew : Row w23 w4.heap.size 83 #[.slice none 0 0, .slice none 0 0] := by rw [hY]; exact Row.new _ _ _
      have hs_w23 : w4.heap.size < w23.heap.size := hnew.lt
      have HB_w23 : Hid (Below W1.heap.size W1 w23) := HB_w4.out.trans (hb.mono HB_w4.out.size)
      have hz_w23 : w4.heap.size ≤ w23.heap.size := hb.size
      have HBX_w23 : Hid (Below w3.heap.size w3 w23) := HBX_w4.out.trans (hb.mono HBX_w4.out.size)
      have HZp_w23 := Lib.hid hnew
      clear hnew hb hY
      refine hK.out _ _ ?_ (fun hHeld => ?_)
      · exact HKS.out _ HB_w23.out
      clear hK K
      try simp only [Act.put, List.setIfInBounds_toArray, List.set_cons_zero, List.set_cons_succ]
      refine wpAnyH_ready (rs := [1]) (by kernel_rfl) (by simp) (AllReadyH.cons (o := { dst := some 37, op := Go.Op.call { callee := Go.Callee.value (Go.Operand.func 30), args := #[Go.Operand.tmp 36], argTypes := #[61] }, type := 69, pos := "exact.go:5144", after := #[{ on := 0, ground := Go.Ground.data }], guard := none }) rfl (fun K hK => ?_) AllReadyH.nil)
      go_simp
      refine (toGr_any e0 C0 _ (Lay.gra.later HL0.out HB_w23.out HB_w23.out.size) HD0.out).mono ?_
      rintro e' w24 ⟨p0xa, p0xl, p0xc, p0ya, p0yl, p0yc, rfl, hs, hb⟩
      have HB_w24 : Hid (Below W1.heap.size W1 w24) := HB_w23.out.trans (hb.mono HB_w23.out.size)
      have hz_w24 : w23.heap.size ≤ w24.heap.size := hb.size
      have HBX_w24 : Hid (Below w3.heap.size w3 w24) := HBX_w23.out.trans (hb.mono HBX_w23.out.size)
      have HZp_w24 := Lib.hid (HZp_w23.out.under hb HZp_w23.out.lt)
      have HSp0_w24 : Hid (Lay.gra.sep w24 w23.heap.size w24.heap.size e0 (fun j => (#[.slice p0xa p0xl p0xc, .slice p0ya p0yl p0yc] : Array Value).getD j undef)) := hs
      clear hs hb HZp_w23
      try go_wp2_with fail
      refine hK.out _ _ ?_ (fun hHeld => ?_)
      · exact HKS.out _ HB_w24.out
      clear hK K
      try simp only [Act.put, List.setIfInBounds_toArray, List.set_cons_zero, List.set_cons_succ]
      refine wpAnyH_ready (rs := [3]) (by kernel_rfl) (by simp) (AllReadyH.cons (o := { dst := some 39, op := Go.Op.call { callee := Go.Callee.value (Go.Operand.func 31), args := #[Go.Operand.tmp 38], argTypes := #[62] }, type := 71, pos := "exact.go:5144", after := #[{ on := 2, ground := Go.Ground.data }, { on := 1, ground := Go.Ground.chain }], guard := none }) rfl (fun K hK => ?_) AllReadyH.nil)
      go_simp
      refine (toExs_any e1 C1 _ (Lay.exs.later HL1.out HB_w24.out HB_w24.out.size) HD1.out).mono ?_
      rintro e' w25 ⟨p1xa, p1xl, p1xc, rfl, hs, hb⟩
      have HB_w25 : Hid (Below W1.heap.size W1 w25) := HB_w24.out.trans (hb.mono HB_w24.out.size)
      have hz_w25 : w24.heap.size ≤ w25.heap.size := hb.size
      have HBX_w25 : Hid (Below w3.heap.size w3 w25) := HBX_w24.out.trans (hb.mono HBX_w24.out.size)
      have HZp_w25 := Lib.hid (HZp_w24.out.under hb HZp_w24.out.lt)
      have HSp0_w25 := Lib.hid (Lay.gra.sunder HSp0_w24.out hb (by omega))
      have HSp1_w25 : Hid (Lay.exs.sep w25 w24.heap.size w25.heap.size e1 (fun j => (#[.slice p1xa p1xl p1xc] : Array Value).getD j undef)) := hs
      clear hs hb HZp_w24 HSp0_w24
      try go_wp2_with fail
      refine hK.out _ _ ?_ (fun hHeld => ?_)
      · exact HKS.out _ HB_w25.out
      clear hK K
      try simp only [Act.put, List.setIfInBounds_toArray, List.set_cons_zero, List.set_cons_succ]
      refine wpAnyH_ready (rs := [5]) (by kernel_rfl) (by simp) (AllReadyH.cons (o := { dst := some 41, op := Go.Op.call { callee := Go.Callee.value (Go.Operand.func 42), args := #[Go.Operand.tmp 40], argTypes := #[81] }, type := 86, pos := "exact.go:5144", after := #[{ on := 4, ground := Go.Ground.data }, { on := 3, ground := Go.Ground.chain }], guard := none }) rfl (fun K hK => ?_) AllReadyH.nil)
      go_simp
      refine (Tc.toTr_any e2 C2 _ (Tc.trc.later HL2.out HB_w25.out HB_w25.out.size) HD2.out).mono ?_
      rintro e' w26 ⟨p2xa, p2xl, p2xc, p2ya, p2yl, p2yc, rfl, hs, hb⟩
      have HB_w26 : Hid (Below W1.heap.size W1 w26) := HB_w25.out.trans (hb.mono HB_w25.out.size)
      have hz_w26 : w25.heap.size ≤ w26.heap.size := hb.size
      have HBX_w26 : Hid (Below w3.heap.size w3 w26) := HBX_w25.out.trans (hb.mono HBX_w25.out.size)
      have HZp_w26 := Lib.hid (HZp_w25.out.under hb HZp_w25.out.lt)
      have HSp0_w26 := Lib.hid (Lay.gra.sunder HSp0_w25.out hb (by omega))
      have HSp1_w26 := Lib.hid (Lay.exs.sunder HSp1_w25.out hb (by omega))
      have HSp2_w26 : Hid (Tc.trc.sep w26 w25.heap.size w26.heap.size e2 (fun j => (#[.slice p2xa p2xl p2xc, .slice p2ya p2yl p2yc] : Array Value).getD j undef)) := hs
      clear hs hb HZp_w25 HSp0_w25 HSp1_w25
      try go_wp2_with fail
      refine hK.out _ _ ?_ (fun hHeld => ?_)
      · exact HKS.out _ HB_w26.out
      clear hK K
      try simp only [Act.put, List.setIfInBounds_toArray, List.set_cons_zero, List.set_cons_succ]
      refine wpAnyH_ready (rs := [6]) (by kernel_rfl) (by simp) (AllReadyH.cons (o := { dst := some 42, op := Go.Op.call { callee := Go.Callee.value (Go.Operand.func 41), args := #[Go.Operand.tmp 37, Go.Operand.tmp 39, Go.Operand.tmp 41], argTypes := #[69, 71, 86] }, type := 84, pos := "exact.go:5144", after := #[{ on := 1, ground := Go.Ground.data }, { on := 3, ground := Go.Ground.data }, { on := 5, ground := Go.Ground.data }, { on := 5, ground := Go.Ground.chain }], guard := none }) rfl (fun K hK => ?_) AllReadyH.nil)
      go_simp
      refine (specTw_any e0 (fun j => (#[.slice p0xa p0xl p0xc, .slice p0ya p0yl p0yc] : Array Value).getD j undef) e1 (fun j => (#[.slice p1xa p1xl p1xc] : Array Value).getD j undef) e2 (fun j => (#[.slice p2xa p2xl p2xc, .slice p2ya p2yl p2yc] : Array Value).getD j undef) _ (Lay.gra.more (Lay.gra.sep_lies HSp0_w26.out) (by omega)) (Lay.exs.more (Lay.exs.sep_lies HSp1_w26.out) (by omega)) (Tc.trc.more (Tc.trc.sep_lies HSp2_w26.out) (by omega)) HD0.out HD1.out HD2.out).mono ?_
      rintro e' w27 ⟨Xp, Yp, rfl, hS, hb⟩
      rw [← HV0.out] at hS
      rw [← HV1.out]
      obtain ⟨xap, xcp, yap, ycp, rfl, rfl⟩ := hS.form
      have HB_w27 : Hid (Below W1.heap.size W1 w27) := HB_w26.out.trans (hb.mono HB_w26.out.size)
      have hz_w27 : w26.heap.size ≤ w27.heap.size := hb.size
      have HBX_w27 : Hid (Below w3.heap.size w3 w27) := HBX_w26.out.trans (hb.mono HBX_w26.out.size)
      have HZp_w27 := Lib.hid (HZp_w26.out.under hb HZp_w26.out.lt)
      have HSp0_w27 := Lib.hid (Lay.gra.sunder HSp0_w26.out hb (by omega))
      have HSp1_w27 := Lib.hid (Lay.exs.sunder HSp1_w26.out hb (by omega))
      have HSp2_w27 := Lib.hid (Tc.trc.sunder HSp2_w26.out hb (by omega))
      have HGp_w27 : Hid (StR w27 w26.heap.size w27.heap.size vl0 (.slice xap vl0.locs.length xcp) (.slice yap vl0.vals.length ycp)) := hS
      clear hS hb HZp_w26 HSp0_w26 HSp1_w26 HSp2_w26
      try go_wp2_with fail
      refine hK.out _ _ ?_ (fun hHeld => ?_)
      · exact HKS.out _ HB_w27.out
      clear hK K
      try simp only [Act.put, List.setIfInBounds_toArray, List.set_cons_zero, List.set_cons_succ]
      refine wpAnyH_take (i := 7) (oi := { dst := some 35, op := Go.Op.move (Go.Operand.tmp 42), type := 84, pos := "exact.go:5144", after := #[{ on := 6, ground := Go.Ground.data }], guard := none }) (v := ?_) rfl (by kernel_rfl) (by kernel_rfl) (by kernel_rfl) (fun _ _ _ h => h) (Or.inl ⟨by rfl, ?_⟩) (by assumption) ?_
      rotate_left
      · intro w hSw
        try dsimp only at hSw
        go_simp
        all_goals (with_reducible rfl)
      try simp only [Act.put, List.setIfInBounds_toArray, List.set_cons_zero, List.set_cons_succ]
      refine wpAnyH_take (i := 8) (oi := { dst := some 43, op := Go.Op.extract (Go.Operand.tmp 35) 0, type := 83, pos := "exact.go:5144", after := #[{ on := 7, ground := Go.Ground.data }], guard := none }) (v := ?_) rfl (by kernel_rfl) (by kernel_rfl) (by kernel_rfl) (fun _ _ _ h => h) (Or.inl ⟨by rfl, ?_⟩) (by assumption) ?_
      rotate_left
      · intro w hSw
        try dsimp only at hSw
        go_simp
        all_goals (with_reducible rfl)
      try simp only [Act.put, List.setIfInBounds_toArray, List.set_cons_zero, List.set_cons_succ]
      refine wpAnyH_take (i := 9) (oi := { dst := some 44, op := Go.Op.extract (Go.Operand.tmp 35) 1, type := 4, pos := "exact.go:5144", after := #[{ on := 7, ground := Go.Ground.data }, { on := 11, ground := Go.Ground.gcOnly Go.Departure.lateStores }], guard := none }) (v := ?_) rfl (by kernel_rfl) (by kernel_rfl) (by kernel_rfl) (fun _ _ _ h => h) (Or.inl ⟨by rfl, ?_⟩) (by assumption) ?_
      rotate_left
      · intro w hSw
        try dsimp only at hSw
        go_simp
        all_goals (with_reducible rfl)
      try simp only [Act.put, List.setIfInBounds_toArray, List.set_cons_zero, List.set_cons_succ]
      refine wpAnyH_ready (rs := [11]) (by kernel_rfl) (by simp) (AllReadyH.cons (o := { dst := none, op := Go.Op.store 83 (Go.Operand.tmp 8) (Go.Operand.tmp 43), type := 0, pos := "exact.go:5144", after := #[{ on := 10, ground := Go.Ground.data }, { on := 8, ground := Go.Ground.data }, { on := 6, ground := Go.Ground.chain }, { on := 0, ground := Go.Ground.phase }, { on := 1, ground := Go.Ground.phase }, { on := 2, ground := Go.Ground.phase }, { on := 3, ground := Go.Ground.phase }, { on := 4, ground := Go.Ground.phase }, { on := 5, ground := Go.Ground.phase }, { on := 6, ground := Go.Ground.phase }, { on := 7, ground := Go.Ground.phase }, { on := 8, ground := Go.Ground.phase }, { on := 9, ground := Go.Ground.textOnly Go.Departure.lateStores }, { on := 10, ground := Go.Ground.phase }], guard := none }) rfl (fun K hK => ?_) AllReadyH.nil)
      obtain ⟨x0, x1⟩ := HZp_w27.out.two
      have u0 := HZp_w27.out.frozen 0
      have u1 := HZp_w27.out.frozen 1
      go_simp
      obtain ⟨w28, hY⟩ : ∃ Y, Y = (w27.setCell ⟨w4.heap.size, 0, none⟩ (.slice xap vl0.locs.length xcp)).setCell ⟨w4.heap.size, 1, none⟩ (.slice yap vl0.vals.length ycp) := ⟨_, rfl⟩
      rw [← hY]
      have hk : Kept w4.heap.size (w4.heap.size + 1) w27 w28 := by rw [hY]; exact ((Kept.refl w4.heap.size (w4.heap.size + 1) w27).trans (Kept.set_ w4.heap.size (w4.heap.size + 1) _ (Nat.le_refl _) (Nat.lt_succ_self _) 0 _)).trans (Kept.set_ w4.heap.size (w4.heap.size + 1) _ (Nat.le_refl _) (Nat.lt_succ_self _) 1 _)
      have hnew : Row w28 w4.heap.size 83 #[(.slice xap vl0.locs.length xcp), (.slice yap vl0.vals.length ycp)] := by rw [hY]; exact ((HZp_w27.out.set_ 0 (.slice xap vl0.locs.length xcp)).set_ 1 (.slice yap vl0.vals.length ycp))
      have HB_w28 : Hid (Below W1.heap.size W1 w28) := HB_w27.out.trans (hk.below (by omega) (by omega))
      have hz_w28 : w27.heap.size ≤ w28.heap.size := hk.size
      have HBX_w28 : Hid (Below w3.heap.size w3 w28) := HBX_w27.out.trans (hk.below (by omega) (by omega))
      have HSp0_w28 : Hid (Lay.gra.sep w28 w23.heap.size w24.heap.size e0 (fun j => (#[.slice p0xa p0xl p0xc, .slice p0ya p0yl p0yc] : Array Value).getD j undef)) := Lay.gra.sep_keep (fun q b1 b2 => hk.other q (by omega) (by omega)) HSp0_w27.out
      have HSp1_w28 : Hid (Lay.exs.sep w28 w24.heap.size w25.heap.size e1 (fun j => (#[.slice p1xa p1xl p1xc] : Array Value).getD j undef)) := Lay.exs.sep_keep (fun q b1 b2 => hk.other q (by omega) (by omega)) HSp1_w27.out
      have HSp2_w28 : Hid (Tc.trc.sep w28 w25.heap.size w26.heap.size e2 (fun j => (#[.slice p2xa p2xl p2xc, .slice p2ya p2yl p2yc] : Array Value).getD j undef)) := Tc.trc.sep_keep (fun q b1 b2 => hk.other q (by omega) (by omega)) HSp2_w27.out
      have HGp_w28 := Lib.hid (HGp_w27.out.kept hk (by omega) (by omega))
      have HZp_w28 := Lib.hid hnew
      clear hk hnew hY HZp_w27 x0 u0 x1 u1 HSp0_w27 HSp1_w27 HSp2_w27 HGp_w27
      refine hK.out _ _ ?_ (fun hHeld => ?_)
      · exact HKS.out _ HB_w28.out
      clear hK K
      try simp only [Act.put, List.setIfInBounds_toArray, List.set_cons_zero, List.set_cons_succ]
      refine wpAnyH_take (i := 12) (oi := { dst := some 9, op := Go.Op.assign (Go.Operand.tmp 44), type := 4, pos := "exact.go:5144", after := #[{ on := 9, ground := Go.Ground.data }, { on := 11, ground := Go.Ground.chain }, { on := 0, ground := Go.Ground.phase }, { on := 1, ground := Go.Ground.phase }, { on := 2, ground := Go.Ground.phase }, { on := 3, ground := Go.Ground.phase }, { on := 4, ground := Go.Ground.phase }, { on := 5, ground := Go.Ground.phase }, { on := 6, ground := Go.Ground.phase }, { on := 7, ground := Go.Ground.phase }, { on := 8, ground := Go.Ground.phase }, { on := 9, ground := Go.Ground.phase }, { on := 10, ground := Go.Ground.phase }, { on := 11, ground := Go.Ground.phase }], guard := none }) (v := ?_) rfl (by kernel_rfl) (by kernel_rfl) (by kernel_rfl) (fun _ _ _ h => h) (Or.inl ⟨by rfl, ?_⟩) (by assumption) ?_
      rotate_left
      · intro w hSw
        try dsimp only at hSw
        go_simp
        all_goals (with_reducible rfl)
      try simp only [Act.put, List.setIfInBounds_toArray, List.set_cons_zero, List.set_cons_succ]
      refine wpAnyH_done (by kernel_rfl) ?_ _
      go_wp2_with fail
      go_meet
      exact ⟨_, xap, xcp, yap, ycp, rfl, rfl, HZp_w28, Lib.hid (HGp_w28.out.more (by omega) (by omega)), (by omega), HBX_w28⟩
  case rest =>
  obtain ⟨zzp, xap, xcp, yap, ycp, rfl, rfl, HZc, HGc, hzp, HBc⟩ := hcut
  obtain ⟨w29, rfl⟩ : ∃ x, x = wc := ⟨_, rfl⟩
  have hb : Below w3.heap.size w3 w29 := HBc.out
  have HB_w29 : Hid (Below W1.heap.size W1 w29) := HB_w3.out.trans (hb.mono HB_w3.out.size)
  have hz_w29 : w3.heap.size ≤ w29.heap.size := hb.size
  have HGp_w29 := HGc
  have HZp_w29 := HZc
  clear HGc HZc
  have zltp : zzp < w29.heap.size := HZp_w29.out.lt
  clear hb HBc HKS
  clear g00 g01 gl0 g20 g21 gl2
  obtain ⟨g00, g01⟩ := (HR0.out.under HB_w29.out HR0.out.lt).two
  have gl0 : w.heap.size < w29.heap.size := Nat.lt_of_lt_of_le HR0.out.lt HB_w29.out.size
  go_wp2_with fail
  refine (toGr_any e0 C0 _ (Lay.gra.later HL0.out HB_w29.out HB_w29.out.size) HD0.out).mono ?_
  rintro e' w30 ⟨x0xa, x0xl, x0xc, x0ya, x0yl, x0yc, rfl, hs, hb⟩
  have HB_w30 : Hid (Below W1.heap.size W1 w30) := HB_w29.out.trans (hb.mono HB_w29.out.size)
  have hz_w30 : w29.heap.size ≤ w30.heap.size := hb.size
  have HGp_w30 := Lib.hid (HGp_w29.out.under hb (by omega))
  have HZp_w30 := Lib.hid (HZp_w29.out.under hb HZp_w29.out.lt)
  have HSx0_w30 : Hid (Lay.gra.sep w30 w29.heap.size w30.heap.size e0 (fun j => (#[.slice x0xa x0xl x0xc, .slice x0ya x0yl x0yc] : Array Value).getD j undef)) := hs
  clear hs hb HGp_w29 HZp_w29
  clear g00 g01 gl0
  obtain ⟨w31, hW⟩ : ∃ X, X = w30.alloc (.cells #[.slice x0xa x0xl x0xc, .slice x0ya x0yl x0yc] 69) := ⟨_, rfl⟩
  have HW_w31 := Lib.hid hW
  have hqq : Row w31 w30.heap.size 69 #[.slice x0xa x0xl x0xc, .slice x0ya x0yl x0yc] := by rw [hW]; exact Row.new _ _ _
  have hb : Below w30.heap.size w30 w31 := by rw [hW]; exact (Below.refl _ _).alloc (Nat.le_refl _) _
  have hs_w31 : w30.heap.size < w31.heap.size := hqq.lt
  have HB_w31 : Hid (Below W1.heap.size W1 w31) := HB_w30.out.trans (hb.mono HB_w30.out.size)
  have hz_w31 : w30.heap.size ≤ w31.heap.size := hb.size
  have HGp_w31 := Lib.hid (HGp_w30.out.under hb (by omega))
  have HZp_w31 := Lib.hid (HZp_w30.out.under hb HZp_w30.out.lt)
  have HSx0_w31 := Lib.hid (Lay.gra.sunder HSx0_w30.out hb (by omega))
  have HQ0_w31 := Lib.hid hqq
  clear hW hb hqq HGp_w30 HZp_w30 HSx0_w30
  go_wp2_with fail
  rw [← HW_w31.out]
  refine (toExs_any e1 C1 _ (Lay.exs.later HL1.out HB_w31.out HB_w31.out.size) HD1.out).mono ?_
  rintro e' w32 ⟨x1xa, x1xl, x1xc, rfl, hs, hb⟩
  have HB_w32 : Hid (Below W1.heap.size W1 w32) := HB_w31.out.trans (hb.mono HB_w31.out.size)
  have hz_w32 : w31.heap.size ≤ w32.heap.size := hb.size
  have HGp_w32 := Lib.hid (HGp_w31.out.under hb (by omega))
  have HZp_w32 := Lib.hid (HZp_w31.out.under hb HZp_w31.out.lt)
  have HSx0_w32 := Lib.hid (Lay.gra.sunder HSx0_w31.out hb (by omega))
  have HQ0_w32 := Lib.hid (HQ0_w31.out.under hb HQ0_w31.out.lt)
  have HSx1_w32 : Hid (Lay.exs.sep w32 w31.heap.size w32.heap.size e1 (fun j => (#[.slice x1xa x1xl x1xc] : Array Value).getD j undef)) := hs
  clear hs hb HGp_w31 HZp_w31 HSx0_w31 HQ0_w31
  obtain ⟨g20, g21⟩ := (HR2.out.under HB_w32.out HR2.out.lt).two
  have gl2 : w.heap.size + 1 < w32.heap.size := Nat.lt_of_lt_of_le HR2.out.lt HB_w32.out.size
  go_wp2_with fail
  refine (Tc.toTr_any e2 C2 _ (Tc.trc.later HL2.out HB_w32.out HB_w32.out.size) HD2.out).mono ?_
  rintro e' w33 ⟨x2xa, x2xl, x2xc, x2ya, x2yl, x2yc, rfl, hs, hb⟩
  have HB_w33 : Hid (Below W1.heap.size W1 w33) := HB_w32.out.trans (hb.mono HB_w32.out.size)
  have hz_w33 : w32.heap.size ≤ w33.heap.size := hb.size
  have HGp_w33 := Lib.hid (HGp_w32.out.under hb (by omega))
  have HZp_w33 := Lib.hid (HZp_w32.out.under hb HZp_w32.out.lt)
  have HSx0_w33 := Lib.hid (Lay.gra.sunder HSx0_w32.out hb (by omega))
  have HQ0_w33 := Lib.hid (HQ0_w32.out.under hb HQ0_w32.out.lt)
  have HSx1_w33 := Lib.hid (Lay.exs.sunder HSx1_w32.out hb (by omega))
  have HSx2_w33 : Hid (Tc.trc.sep w33 w32.heap.size w33.heap.size e2 (fun j => (#[.slice x2xa x2xl x2xc, .slice x2ya x2yl x2yc] : Array Value).getD j undef)) := hs
  clear hs hb HGp_w32 HZp_w32 HSx0_w32 HQ0_w32 HSx1_w32
  clear g20 g21 gl2
  obtain ⟨q00, q01⟩ := HQ0_w33.out.two
  have ql0 := HQ0_w33.out.lt
  obtain ⟨w34, hW⟩ : ∃ X, X = w33.alloc (.cells #[.slice x2xa x2xl x2xc, .slice x2ya x2yl x2yc] 86) := ⟨_, rfl⟩
  have HW_w34 := Lib.hid hW
  have hqq : Row w34 w33.heap.size 86 #[.slice x2xa x2xl x2xc, .slice x2ya x2yl x2yc] := by rw [hW]; exact Row.new _ _ _
  have hb : Below w33.heap.size w33 w34 := by rw [hW]; exact (Below.refl _ _).alloc (Nat.le_refl _) _
  have hs_w34 : w33.heap.size < w34.heap.size := hqq.lt
  have HB_w34 : Hid (Below W1.heap.size W1 w34) := HB_w33.out.trans (hb.mono HB_w33.out.size)
  have hz_w34 : w33.heap.size ≤ w34.heap.size := hb.size
  have HGp_w34 := Lib.hid (HGp_w33.out.under hb (by omega))
  have HZp_w34 := Lib.hid (HZp_w33.out.under hb HZp_w33.out.lt)
  have HSx0_w34 := Lib.hid (Lay.gra.sunder HSx0_w33.out hb (by omega))
  have HQ0_w34 := Lib.hid (HQ0_w33.out.under hb HQ0_w33.out.lt)
  have HSx1_w34 := Lib.hid (Lay.exs.sunder HSx1_w33.out hb (by omega))
  have HSx2_w34 := Lib.hid (Tc.trc.sunder HSx2_w33.out hb (by omega))
  have HQ2_w34 := Lib.hid hqq
  clear hW hb hqq HGp_w33 HZp_w33 HSx0_w33 HQ0_w33 HSx1_w33 HSx2_w33
  go_wp2_with fail
  rw [← HW_w34.out]
  refine (implTw_any e0 (fun j => (#[.slice x0xa x0xl x0xc, .slice x0ya x0yl x0yc] : Array Value).getD j undef) e1 (fun j => (#[.slice x1xa x1xl x1xc] : Array Value).getD j undef) e2 (fun j => (#[.slice x2xa x2xl x2xc, .slice x2ya x2yl x2yc] : Array Value).getD j undef) _ (Lay.gra.more (Lay.gra.sep_lies HSx0_w34.out) (by omega)) (Lay.exs.more (Lay.exs.sep_lies HSx1_w34.out) (by omega)) (Tc.trc.more (Tc.trc.sep_lies HSx2_w34.out) (by omega)) HD0.out HD1.out HD2.out).mono ?_
  rintro e' w35 ⟨Xx, Yx, rfl, hS, hb⟩
  rw [← HV0.out] at hS
  rw [← HV1.out]
  obtain ⟨xax, xcx, yax, ycx, rfl, rfl⟩ := hS.form
  have HB_w35 : Hid (Below W1.heap.size W1 w35) := HB_w34.out.trans (hb.mono HB_w34.out.size)
  have hz_w35 : w34.heap.size ≤ w35.heap.size := hb.size
  have HGp_w35 := Lib.hid (HGp_w34.out.under hb (by omega))
  have HZp_w35 := Lib.hid (HZp_w34.out.under hb HZp_w34.out.lt)
  have HSx0_w35 := Lib.hid (Lay.gra.sunder HSx0_w34.out hb (by omega))
  have HQ0_w35 := Lib.hid (HQ0_w34.out.under hb HQ0_w34.out.lt)
  have HSx1_w35 := Lib.hid (Lay.exs.sunder HSx1_w34.out hb (by omega))
  have HSx2_w35 := Lib.hid (Tc.trc.sunder HSx2_w34.out hb (by omega))
  have HQ2_w35 := Lib.hid (HQ2_w34.out.under hb HQ2_w34.out.lt)
  have HGx_w35 : Hid (StR w35 w34.heap.size w35.heap.size vl0 (.slice xax vl0.locs.length xcx) (.slice yax vl0.vals.length ycx)) := hS
  clear hS hb HGp_w34 HZp_w34 HSx0_w34 HQ0_w34 HSx1_w34 HSx2_w34 HQ2_w34
  obtain ⟨zp0, zp1⟩ := HZp_w35.out.two
  have zlp := HZp_w35.out.lt
  obtain ⟨w36, hW⟩ : ∃ X, X = w35.alloc (.cells #[.slice xax vl0.locs.length xcx, .slice yax vl0.vals.length ycx] 83) := ⟨_, rfl⟩
  have HW_w36 := Lib.hid hW
  have hqq : Row w36 w35.heap.size 83 #[.slice xax vl0.locs.length xcx, .slice yax vl0.vals.length ycx] := by rw [hW]; exact Row.new _ _ _
  have hb : Below w35.heap.size w35 w36 := by rw [hW]; exact (Below.refl _ _).alloc (Nat.le_refl _) _
  have hs_w36 : w35.heap.size < w36.heap.size := hqq.lt
  have HB_w36 : Hid (Below W1.heap.size W1 w36) := HB_w35.out.trans (hb.mono HB_w35.out.size)
  have hz_w36 : w35.heap.size ≤ w36.heap.size := hb.size
  have HGp_w36 := Lib.hid (HGp_w35.out.under hb (by omega))
  have HZp_w36 := Lib.hid (HZp_w35.out.under hb HZp_w35.out.lt)
  have HSx0_w36 := Lib.hid (Lay.gra.sunder HSx0_w35.out hb (by omega))
  have HQ0_w36 := Lib.hid (HQ0_w35.out.under hb HQ0_w35.out.lt)
  have HSx1_w36 := Lib.hid (Lay.exs.sunder HSx1_w35.out hb (by omega))
  have HSx2_w36 := Lib.hid (Tc.trc.sunder HSx2_w35.out hb (by omega))
  have HQ2_w36 := Lib.hid (HQ2_w35.out.under hb HQ2_w35.out.lt)
  have HGx_w36 := Lib.hid (HGx_w35.out.under hb (by omega))
  have HZx_w36 := Lib.hid hqq
  clear hW hb hqq HGp_w35 HZp_w35 HSx0_w35 HQ0_w35 HSx1_w35 HSx2_w35 HQ2_w35 HGx_w35
  clear q00 q01 ql0
  go_wp2_with fail
  rw [← HW_w36.out]
  refine (La.eqSt_any vl0 (fun j => (#[.slice xax vl0.locs.length xcx, .slice yax vl0.vals.length ycx] : Array Value).getD j undef) (fun j => (#[.slice xap vl0.locs.length xcp, .slice yap vl0.vals.length ycp] : Array Value).getD j undef) _ (HGx_w36.out.lies (by omega)) (HGp_w36.out.lies (by omega))).mono ?_
  rintro e' w37 ⟨rfl, hb⟩
  have HB_w37 : Hid (Below W1.heap.size W1 w37) := HB_w36.out.trans (hb.mono HB_w36.out.size)
  have hz_w37 : w36.heap.size ≤ w37.heap.size := hb.size
  have HGp_w37 := Lib.hid (HGp_w36.out.under hb (by omega))
  have HZp_w37 := Lib.hid (HZp_w36.out.under hb HZp_w36.out.lt)
  have HSx0_w37 := Lib.hid (Lay.gra.sunder HSx0_w36.out hb (by omega))
  have HQ0_w37 := Lib.hid (HQ0_w36.out.under hb HQ0_w36.out.lt)
  have HSx1_w37 := Lib.hid (Lay.exs.sunder HSx1_w36.out hb (by omega))
  have HSx2_w37 := Lib.hid (Tc.trc.sunder HSx2_w36.out hb (by omega))
  have HQ2_w37 := Lib.hid (HQ2_w36.out.under hb HQ2_w36.out.lt)
  have HGx_w37 := Lib.hid (HGx_w36.out.under hb (by omega))
  have HZx_w37 := Lib.hid (HZx_w36.out.under hb HZx_w36.out.lt)
  clear hb HGp_w36 HZp_w36 HSx0_w36 HQ0_w36 HSx1_w36 HSx2_w36 HQ2_w36 HGx_w36 HZx_w36
  clear zp0 zp1 zlp
  obtain ⟨g00, g01⟩ := (HR0.out.under HB_w37.out HR0.out.lt).two
  have gl0 : w.heap.size < w37.heap.size := Nat.lt_of_lt_of_le HR0.out.lt HB_w37.out.size
  obtain ⟨q00, q01⟩ := HQ0_w37.out.two
  have ql0 := HQ0_w37.out.lt
  have HKS : Hid (∀ X, Below w37.heap.size w37 X → (fun w' => w'.cell? ⟨w.heap.size, 0, none⟩ = some (C0 0) ∧ w'.cell? ⟨w.heap.size, 1, none⟩ = some (C0 1) ∧ w'.cell? ⟨w30.heap.size, 0, none⟩ = some (.slice x0xa x0xl x0xc) ∧ w'.cell? ⟨w30.heap.size, 1, none⟩ = some (.slice x0ya x0yl x0yc)) X) := fun X h => ⟨((HR0.out.under HB_w37.out HR0.out.lt).under h (Nat.lt_of_lt_of_le HR0.out.lt HB_w37.out.size)).cell 0, ((HR0.out.under HB_w37.out HR0.out.lt).under h (Nat.lt_of_lt_of_le HR0.out.lt HB_w37.out.size)).cell 1, (HQ0_w37.out.under h HQ0_w37.out.lt).cell 0, (HQ0_w37.out.under h HQ0_w37.out.lt).cell 1⟩
  go_upto_region 18 with fail
  go_cut [71] from 67 to 70 (fun bb wx => bb = .bool false ∧ Hid (Below w37.heap.size w37 wx))
  case first =>
    have HBX_w37 : Hid (Below w37.heap.size w37 w37) := Below.refl _ _
    refine wp_region_held_drew (S := (fun w' => w'.cell? ⟨w.heap.size, 0, none⟩ = some (C0 0) ∧ w'.cell? ⟨w.heap.size, 1, none⟩ = some (C0 1) ∧ w'.cell? ⟨w30.heap.size, 0, none⟩ = some (.slice x0xa x0xl x0xc) ∧ w'.cell? ⟨w30.heap.size, 1, none⟩ = some (.slice x0ya x0yl x0yc))) (by kernel_rfl) ?_ (fun hHeld => ?_)
    · exact HKS.out _ HBX_w37.out.drew
    obtain ⟨w38, hX0⟩ : ∃ X, X = w37.drew := ⟨_, rfl⟩
    rw [← hX0] at hHeld ⊢
    have hb : Below w37.heap.size w37 w38 := by rw [hX0]; exact (Below.refl _ _).drew
    have HB_w38 : Hid (Below W1.heap.size W1 w38) := HB_w37.out.trans (hb.mono HB_w37.out.size)
    have hz_w38 : w37.heap.size ≤ w38.heap.size := hb.size
    have HBX_w38 : Hid (Below w37.heap.size w37 w38) := HBX_w37.out.trans (hb.mono HBX_w37.out.size)
    have HGp_w38 := Lib.hid (HGp_w37.out.under hb (by omega))
    have HZp_w38 := Lib.hid (HZp_w37.out.under hb HZp_w37.out.lt)
    have HSx0_w38 := Lib.hid (Lay.gra.sunder HSx0_w37.out hb (by omega))
    have HQ0_w38 := Lib.hid (HQ0_w37.out.under hb HQ0_w37.out.lt)
    have HSx1_w38 := Lib.hid (Lay.exs.sunder HSx1_w37.out hb (by omega))
    have HSx2_w38 := Lib.hid (Tc.trc.sunder HSx2_w37.out hb (by omega))
    have HQ2_w38 := Lib.hid (HQ2_w37.out.under hb HQ2_w37.out.lt)
    have HGx_w38 := Lib.hid (HGx_w37.out.under hb (by omega))
    have HZx_w38 := Lib.hid (HZx_w37.out.under hb HZx_w37.out.lt)
    clear hX0 hb HGp_w37 HZp_w37 HSx0_w37 HQ0_w37 HSx1_w37 HSx2_w37 HQ2_w37 HGx_w37 HZx_w37
    refine wpAnyH_take (i := 0) (oi := { dst := some 67, op := Go.Op.load 69 (Go.Operand.tmp 10), type := 69, pos := "exact.go:5152", after := #[], guard := none }) (v := ?_) rfl (by kernel_rfl) (by kernel_rfl) (by kernel_rfl) (fun _ _ _ h => h) (Or.inl ⟨by rfl, ?_⟩) (by assumption) ?_
    rotate_left
    · intro w hSw
      try dsimp only at hSw
      go_simp
      all_goals (with_reducible rfl)
    try simp only [Act.put, List.setIfInBounds_toArray, List.set_cons_zero, List.set_cons_succ]
    refine wpAnyH_take (i := 1) (oi := { dst := some 68, op := Go.Op.load 61 (Go.Operand.tmp 3), type := 61, pos := "exact.go:5152", after := #[], guard := none }) (v := ?_) rfl (by kernel_rfl) (by kernel_rfl) (by kernel_rfl) (fun _ _ _ h => h) (Or.inl ⟨by rfl, ?_⟩) (by assumption) ?_
    rotate_left
    · intro w hSw
      try dsimp only at hSw
      go_simp
      all_goals (with_reducible rfl)
    try simp only [Act.put, List.setIfInBounds_toArray, List.set_cons_zero, List.set_cons_succ]
    refine wpAnyH_ready (rs := [2]) (by kernel_rfl) (by simp) (AllReadyH.cons (o := { dst := some 69, op := Go.Op.call { callee := Go.Callee.value (Go.Operand.func 30), args := #[Go.Operand.tmp 68], argTypes := #[61] }, type := 69, pos := "exact.go:5152", after := #[{ on := 1, ground := Go.Ground.data }], guard := none }) rfl (fun K hK => ?_) AllReadyH.nil)
    go_simp
    refine (toGr_any e0 C0 _ (Lay.gra.later HL0.out HB_w38.out HB_w38.out.size) HD0.out).mono ?_
    rintro e' w39 ⟨t0xa, t0xl, t0xc, t0ya, t0yl, t0yc, rfl, hs, hb⟩
    have HB_w39 : Hid (Below W1.heap.size W1 w39) := HB_w38.out.trans (hb.mono HB_w38.out.size)
    have hz_w39 : w38.heap.size ≤ w39.heap.size := hb.size
    have HBX_w39 : Hid (Below w37.heap.size w37 w39) := HBX_w38.out.trans (hb.mono HBX_w38.out.size)
    have HGp_w39 := Lib.hid (HGp_w38.out.under hb (by omega))
    have HZp_w39 := Lib.hid (HZp_w38.out.under hb HZp_w38.out.lt)
    have HSx0_w39 := Lib.hid (Lay.gra.sunder HSx0_w38.out hb (by omega))
    have HQ0_w39 := Lib.hid (HQ0_w38.out.under hb HQ0_w38.out.lt)
    have HSx1_w39 := Lib.hid (Lay.exs.sunder HSx1_w38.out hb (by omega))
    have HSx2_w39 := Lib.hid (Tc.trc.sunder HSx2_w38.out hb (by omega))
    have HQ2_w39 := Lib.hid (HQ2_w38.out.under hb HQ2_w38.out.lt)
    have HGx_w39 := Lib.hid (HGx_w38.out.under hb (by omega))
    have HZx_w39 := Lib.hid (HZx_w38.out.under hb HZx_w38.out.lt)
    have HSt0_w39 : Hid (Lay.gra.sep w39 w38.heap.size w39.heap.size e0 (fun j => (#[.slice t0xa t0xl t0xc, .slice t0ya t0yl t0yc] : Array Value).getD j undef)) := hs
    clear hs hb HGp_w38 HZp_w38 HSx0_w38 HQ0_w38 HSx1_w38 HSx2_w38 HQ2_w38 HGx_w38 HZx_w38
    try go_wp2_with fail
    refine hK.out _ _ ?_ (fun hHeld => ?_)
    · exact HKS.out _ HBX_w39.out
    clear hK K
    try simp only [Act.put, List.setIfInBounds_toArray, List.set_cons_zero, List.set_cons_succ]
    refine wpAnyH_ready (rs := [3]) (by kernel_rfl) (by simp) (AllReadyH.cons (o := { dst := some 70, op := Go.Op.call { callee := Go.Callee.value (Go.Operand.func 34), args := #[Go.Operand.tmp 67, Go.Operand.tmp 69], argTypes := #[69, 69] }, type := 4, pos := "exact.go:5152", after := #[{ on := 0, ground := Go.Ground.data }, { on := 2, ground := Go.Ground.data }, { on := 2, ground := Go.Ground.chain }], guard := none }) rfl (fun K hK => ?_) AllReadyH.nil)
    go_simp
    refine (eqGr_any e0 (fun j => (#[.slice x0xa x0xl x0xc, .slice x0ya x0yl x0yc] : Array Value).getD j undef) (fun j => (#[.slice t0xa t0xl t0xc, .slice t0ya t0yl t0yc] : Array Value).getD j undef) _ (Lay.gra.more (Lay.gra.sep_lies HSx0_w39.out) (by omega)) (Lay.gra.more (Lay.gra.sep_lies HSt0_w39.out) (by omega))).mono ?_
    rintro e' w40 ⟨rfl, hb⟩
    have HB_w40 : Hid (Below W1.heap.size W1 w40) := HB_w39.out.trans (hb.mono HB_w39.out.size)
    have hz_w40 : w39.heap.size ≤ w40.heap.size := hb.size
    have HBX_w40 : Hid (Below w37.heap.size w37 w40) := HBX_w39.out.trans (hb.mono HBX_w39.out.size)
    have HGp_w40 := Lib.hid (HGp_w39.out.under hb (by omega))
    have HZp_w40 := Lib.hid (HZp_w39.out.under hb HZp_w39.out.lt)
    have HSx0_w40 := Lib.hid (Lay.gra.sunder HSx0_w39.out hb (by omega))
    have HQ0_w40 := Lib.hid (HQ0_w39.out.under hb HQ0_w39.out.lt)
    have HSx1_w40 := Lib.hid (Lay.exs.sunder HSx1_w39.out hb (by omega))
    have HSx2_w40 := Lib.hid (Tc.trc.sunder HSx2_w39.out hb (by omega))
    have HQ2_w40 := Lib.hid (HQ2_w39.out.under hb HQ2_w39.out.lt)
    have HGx_w40 := Lib.hid (HGx_w39.out.under hb (by omega))
    have HZx_w40 := Lib.hid (HZx_w39.out.under hb HZx_w39.out.lt)
    have HSt0_w40 := Lib.hid (Lay.gra.sunder HSt0_w39.out hb (by omega))
    clear hb HGp_w39 HZp_w39 HSx0_w39 HQ0_w39 HSx1_w39 HSx2_w39 HQ2_w39 HGx_w39 HZx_w39 HSt0_w39
    try go_wp2_with fail
    refine hK.out _ _ ?_ (fun hHeld => ?_)
    · exact HKS.out _ HBX_w40.out
    clear hK K
    try simp only [Act.put, List.setIfInBounds_toArray, List.set_cons_zero, List.set_cons_succ]
    refine wpAnyH_take (i := 4) (oi := { dst := some 71, op := Go.Op.unOp Go.UnOp.not 4 (Go.Operand.tmp 70), type := 4, pos := "exact.go:5152", after := #[{ on := 3, ground := Go.Ground.data }], guard := none }) (v := ?_) rfl (by kernel_rfl) (by kernel_rfl) (by kernel_rfl) (fun _ _ _ h => h) (Or.inl ⟨by rfl, ?_⟩) (by assumption) ?_
    rotate_left
    · intro w hSw
      try dsimp only at hSw
      go_simp
      all_goals (with_reducible rfl)
    try simp only [Act.put, List.setIfInBounds_toArray, List.set_cons_zero, List.set_cons_succ]
    refine wpAnyH_done (by kernel_rfl) ?_ _
    go_wp2_with fail
    go_meet
    exact ⟨rfl, HBX_w40⟩
  case rest =>
  obtain ⟨rfl, HBc⟩ := hcut
  obtain ⟨w41, rfl⟩ : ∃ x, x = wc := ⟨_, rfl⟩
  have hb : Below w37.heap.size w37 w41 := HBc.out
  have HB_w41 : Hid (Below W1.heap.size W1 w41) := HB_w37.out.trans (hb.mono HB_w37.out.size)
  have hz_w41 : w37.heap.size ≤ w41.heap.size := hb.size
  have HGp_w41 := Lib.hid (HGp_w37.out.under hb (by omega))
  have HZp_w41 := Lib.hid (HZp_w37.out.under hb HZp_w37.out.lt)
  have HSx0_w41 := Lib.hid (Lay.gra.sunder HSx0_w37.out hb (by omega))
  have HQ0_w41 := Lib.hid (HQ0_w37.out.under hb HQ0_w37.out.lt)
  have HSx1_w41 := Lib.hid (Lay.exs.sunder HSx1_w37.out hb (by omega))
  have HSx2_w41 := Lib.hid (Tc.trc.sunder HSx2_w37.out hb (by omega))
  have HQ2_w41 := Lib.hid (HQ2_w37.out.under hb HQ2_w37.out.lt)
  have HGx_w41 := Lib.hid (HGx_w37.out.under hb (by omega))
  have HZx_w41 := Lib.hid (HZx_w37.out.under hb HZx_w37.out.lt)
  clear hb HBc HKS HGp_w37 HZp_w37 HSx0_w37 HQ0_w37 HSx1_w37 HSx2_w37 HQ2_w37 HGx_w37 HZx_w37
  clear g00 g01 gl0 q00 q01 ql0
  go_wp2_with fail
  refine (toExs_any e1 C1 _ (Lay.exs.later HL1.out HB_w41.out HB_w41.out.size) HD1.out).mono ?_
  rintro e' w42 ⟨t1xa, t1xl, t1xc, rfl, hs, hb⟩
  have HB_w42 : Hid (Below W1.heap.size W1 w42) := HB_w41.out.trans (hb.mono HB_w41.out.size)
  have hz_w42 : w41.heap.size ≤ w42.heap.size := hb.size
  have HGp_w42 := Lib.hid (HGp_w41.out.under hb (by omega))
  have HZp_w42 := Lib.hid (HZp_w41.out.under hb HZp_w41.out.lt)
  have HSx0_w42 := Lib.hid (Lay.gra.sunder HSx0_w41.out hb (by omega))
  have HQ0_w42 := Lib.hid (HQ0_w41.out.under hb HQ0_w41.out.lt)
  have HSx1_w42 := Lib.hid (Lay.exs.sunder HSx1_w41.out hb (by omega))
  have HSx2_w42 := Lib.hid (Tc.trc.sunder HSx2_w41.out hb (by omega))
  have HQ2_w42 := Lib.hid (HQ2_w41.out.under hb HQ2_w41.out.lt)
  have HGx_w42 := Lib.hid (HGx_w41.out.under hb (by omega))
  have HZx_w42 := Lib.hid (HZx_w41.out.under hb HZx_w41.out.lt)
  have HSt1_w42 : Hid (Lay.exs.sep w42 w41.heap.size w42.heap.size e1 (fun j => (#[.slice t1xa t1xl t1xc] : Array Value).getD j undef)) := hs
  clear hs hb HGp_w41 HZp_w41 HSx0_w41 HQ0_w41 HSx1_w41 HSx2_w41 HQ2_w41 HGx_w41 HZx_w41
  go_wp2_with fail
  refine (eqExs_any e1 (fun j => (#[.slice x1xa x1xl x1xc] : Array Value).getD j undef) (fun j => (#[.slice t1xa t1xl t1xc] : Array Value).getD j undef) _ (Lay.exs.more (Lay.exs.sep_lies HSx1_w42.out) (by omega)) (Lay.exs.more (Lay.exs.sep_lies HSt1_w42.out) (by omega))).mono ?_
  rintro e' w43 ⟨rfl, hb⟩
  have HB_w43 : Hid (Below W1.heap.size W1 w43) := HB_w42.out.trans (hb.mono HB_w42.out.size)
  have hz_w43 : w42.heap.size ≤ w43.heap.size := hb.size
  have HGp_w43 := Lib.hid (HGp_w42.out.under hb (by omega))
  have HZp_w43 := Lib.hid (HZp_w42.out.under hb HZp_w42.out.lt)
  have HSx0_w43 := Lib.hid (Lay.gra.sunder HSx0_w42.out hb (by omega))
  have HQ0_w43 := Lib.hid (HQ0_w42.out.under hb HQ0_w42.out.lt)
  have HSx1_w43 := Lib.hid (Lay.exs.sunder HSx1_w42.out hb (by omega))
  have HSx2_w43 := Lib.hid (Tc.trc.sunder HSx2_w42.out hb (by omega))
  have HQ2_w43 := Lib.hid (HQ2_w42.out.under hb HQ2_w42.out.lt)
  have HGx_w43 := Lib.hid (HGx_w42.out.under hb (by omega))
  have HZx_w43 := Lib.hid (HZx_w42.out.under hb HZx_w42.out.lt)
  have HSt1_w43 := Lib.hid (Lay.exs.sunder HSt1_w42.out hb (by omega))
  clear hb HGp_w42 HZp_w42 HSx0_w42 HQ0_w42 HSx1_w42 HSx2_w42 HQ2_w42 HGx_w42 HZx_w42 HSt1_w42
  clear HSt1_w43
  obtain ⟨g20, g21⟩ := (HR2.out.under HB_w43.out HR2.out.lt).two
  have gl2 : w.heap.size + 1 < w43.heap.size := Nat.lt_of_lt_of_le HR2.out.lt HB_w43.out.size
  obtain ⟨q20, q21⟩ := HQ2_w43.out.two
  have ql2 := HQ2_w43.out.lt
  have HKS : Hid (∀ X, Below w43.heap.size w43 X → (fun w' => w'.cell? ⟨w.heap.size + 1, 0, none⟩ = some (C2 0) ∧ w'.cell? ⟨w.heap.size + 1, 1, none⟩ = some (C2 1) ∧ w'.cell? ⟨w33.heap.size, 0, none⟩ = some (.slice x2xa x2xl x2xc) ∧ w'.cell? ⟨w33.heap.size, 1, none⟩ = some (.slice x2ya x2yl x2yc)) X) := fun X h => ⟨((HR2.out.under HB_w43.out HR2.out.lt).under h (Nat.lt_of_lt_of_le HR2.out.lt HB_w43.out.size)).cell 0, ((HR2.out.under HB_w43.out HR2.out.lt).under h (Nat.lt_of_lt_of_le HR2.out.lt HB_w43.out.size)).cell 1, (HQ2_w43.out.under h HQ2_w43.out.lt).cell 0, (HQ2_w43.out.under h HQ2_w43.out.lt).cell 1⟩
  go_upto_region 22 with fail
  go_cut [81] from 77 to 80 (fun bb wx => bb = .bool false ∧ Hid (Below w43.heap.size w43 wx))
  case first =>
    have HBX_w43 : Hid (Below w43.heap.size w43 w43) := Below.refl _ _
    refine wp_region_held_drew (S := (fun w' => w'.cell? ⟨w.heap.size + 1, 0, none⟩ = some (C2 0) ∧ w'.cell? ⟨w.heap.size + 1, 1, none⟩ = some (C2 1) ∧ w'.cell? ⟨w33.heap.size, 0, none⟩ = some (.slice x2xa x2xl x2xc) ∧ w'.cell? ⟨w33.heap.size, 1, none⟩ = some (.slice x2ya x2yl x2yc))) (by kernel_rfl) ?_ (fun hHeld => ?_)
    · exact HKS.out _ HBX_w43.out.drew
    obtain ⟨w44, hX0⟩ : ∃ X, X = w43.drew := ⟨_, rfl⟩
    rw [← hX0] at hHeld ⊢
    have hb : Below w43.heap.size w43 w44 := by rw [hX0]; exact (Below.refl _ _).drew
    have HB_w44 : Hid (Below W1.heap.size W1 w44) := HB_w43.out.trans (hb.mono HB_w43.out.size)
    have hz_w44 : w43.heap.size ≤ w44.heap.size := hb.size
    have HBX_w44 : Hid (Below w43.heap.size w43 w44) := HBX_w43.out.trans (hb.mono HBX_w43.out.size)
    have HGp_w44 := Lib.hid (HGp_w43.out.under hb (by omega))
    have HZp_w44 := Lib.hid (HZp_w43.out.under hb HZp_w43.out.lt)
    have HSx0_w44 := Lib.hid (Lay.gra.sunder HSx0_w43.out hb (by omega))
    have HQ0_w44 := Lib.hid (HQ0_w43.out.under hb HQ0_w43.out.lt)
    have HSx1_w44 := Lib.hid (Lay.exs.sunder HSx1_w43.out hb (by omega))
    have HSx2_w44 := Lib.hid (Tc.trc.sunder HSx2_w43.out hb (by omega))
    have HQ2_w44 := Lib.hid (HQ2_w43.out.under hb HQ2_w43.out.lt)
    have HGx_w44 := Lib.hid (HGx_w43.out.under hb (by omega))
    have HZx_w44 := Lib.hid (HZx_w43.out.under hb HZx_w43.out.lt)
    clear hX0 hb HGp_w43 HZp_w43 HSx0_w43 HQ0_w43 HSx1_w43 HSx2_w43 HQ2_w43 HGx_w43 HZx_w43
    refine wpAnyH_take (i := 0) (oi := { dst := some 77, op := Go.Op.load 86 (Go.Operand.tmp 12), type := 86, pos := "exact.go:5158", after := #[], guard := none }) (v := ?_) rfl (by kernel_rfl) (by kernel_rfl) (by kernel_rfl) (fun _ _ _ h => h) (Or.inl ⟨by rfl, ?_⟩) (by assumption) ?_
    rotate_left
    · intro w hSw
      try dsimp only at hSw
      go_simp
      all_goals (with_reducible rfl)
    try simp only [Act.put, List.setIfInBounds_toArray, List.set_cons_zero, List.set_cons_succ]
    refine wpAnyH_take (i := 1) (oi := { dst := some 78, op := Go.Op.load 81 (Go.Operand.tmp 5), type := 81, pos := "exact.go:5158", after := #[], guard := none }) (v := ?_) rfl (by kernel_rfl) (by kernel_rfl) (by kernel_rfl) (fun _ _ _ h => h) (Or.inl ⟨by rfl, ?_⟩) (by assumption) ?_
    rotate_left
    · intro w hSw
      try dsimp only at hSw
      go_simp
      all_goals (with_reducible rfl)
    try simp only [Act.put, List.setIfInBounds_toArray, List.set_cons_zero, List.set_cons_succ]
    refine wpAnyH_ready (rs := [2]) (by kernel_rfl) (by simp) (AllReadyH.cons (o := { dst := some 79, op := Go.Op.call { callee := Go.Callee.value (Go.Operand.func 42), args := #[Go.Operand.tmp 78], argTypes := #[81] }, type := 86, pos := "exact.go:5158", after := #[{ on := 1, ground := Go.Ground.data }], guard := none }) rfl (fun K hK => ?_) AllReadyH.nil)
    go_simp
    refine (Tc.toTr_any e2 C2 _ (Tc.trc.later HL2.out HB_w44.out HB_w44.out.size) HD2.out).mono ?_
    rintro e' w45 ⟨t2xa, t2xl, t2xc, t2ya, t2yl, t2yc, rfl, hs, hb⟩
    have HB_w45 : Hid (Below W1.heap.size W1 w45) := HB_w44.out.trans (hb.mono HB_w44.out.size)
    have hz_w45 : w44.heap.size ≤ w45.heap.size := hb.size
    have HBX_w45 : Hid (Below w43.heap.size w43 w45) := HBX_w44.out.trans (hb.mono HBX_w44.out.size)
    have HGp_w45 := Lib.hid (HGp_w44.out.under hb (by omega))
    have HZp_w45 := Lib.hid (HZp_w44.out.under hb HZp_w44.out.lt)
    have HSx0_w45 := Lib.hid (Lay.gra.sunder HSx0_w44.out hb (by omega))
    have HQ0_w45 := Lib.hid (HQ0_w44.out.under hb HQ0_w44.out.lt)
    have HSx1_w45 := Lib.hid (Lay.exs.sunder HSx1_w44.out hb (by omega))
    have HSx2_w45 := Lib.hid (Tc.trc.sunder HSx2_w44.out hb (by omega))
    have HQ2_w45 := Lib.hid (HQ2_w44.out.under hb HQ2_w44.out.lt)
    have HGx_w45 := Lib.hid (HGx_w44.out.under hb (by omega))
    have HZx_w45 := Lib.hid (HZx_w44.out.under hb HZx_w44.out.lt)
    have HSt2_w45 : Hid (Tc.trc.sep w45 w44.heap.size w45.heap.size e2 (fun j => (#[.slice t2xa t2xl t2xc, .slice t2ya t2yl t2yc] : Array Value).getD j undef)) := hs
    clear hs hb HGp_w44 HZp_w44 HSx0_w44 HQ0_w44 HSx1_w44 HSx2_w44 HQ2_w44 HGx_w44 HZx_w44
    try go_wp2_with fail
    refine hK.out _ _ ?_ (fun hHeld => ?_)
    · exact HKS.out _ HBX_w45.out
    clear hK K
    try simp only [Act.put, List.setIfInBounds_toArray, List.set_cons_zero, List.set_cons_succ]
    refine wpAnyH_ready (rs := [3]) (by kernel_rfl) (by simp) (AllReadyH.cons (o := { dst := some 80, op := Go.Op.call { callee := Go.Callee.value (Go.Operand.func 45), args := #[Go.Operand.tmp 77, Go.Operand.tmp 79], argTypes := #[86, 86] }, type := 4, pos := "exact.go:5158", after := #[{ on := 0, ground := Go.Ground.data }, { on := 2, ground := Go.Ground.data }, { on := 2, ground := Go.Ground.chain }], guard := none }) rfl (fun K hK => ?_) AllReadyH.nil)
    go_simp
    refine (Tc.eqTr_any e2 (fun j => (#[.slice x2xa x2xl x2xc, .slice x2ya x2yl x2yc] : Array Value).getD j undef) (fun j => (#[.slice t2xa t2xl t2xc, .slice t2ya t2yl t2yc] : Array Value).getD j undef) _ (Tc.trc.more (Tc.trc.sep_lies HSx2_w45.out) (by omega)) (Tc.trc.more (Tc.trc.sep_lies HSt2_w45.out) (by omega))).mono ?_
    rintro e' w46 ⟨rfl, hb⟩
    have HB_w46 : Hid (Below W1.heap.size W1 w46) := HB_w45.out.trans (hb.mono HB_w45.out.size)
    have hz_w46 : w45.heap.size ≤ w46.heap.size := hb.size
    have HBX_w46 : Hid (Below w43.heap.size w43 w46) := HBX_w45.out.trans (hb.mono HBX_w45.out.size)
    have HGp_w46 := Lib.hid (HGp_w45.out.under hb (by omega))
    have HZp_w46 := Lib.hid (HZp_w45.out.under hb HZp_w45.out.lt)
    have HSx0_w46 := Lib.hid (Lay.gra.sunder HSx0_w45.out hb (by omega))
    have HQ0_w46 := Lib.hid (HQ0_w45.out.under hb HQ0_w45.out.lt)
    have HSx1_w46 := Lib.hid (Lay.exs.sunder HSx1_w45.out hb (by omega))
    have HSx2_w46 := Lib.hid (Tc.trc.sunder HSx2_w45.out hb (by omega))
    have HQ2_w46 := Lib.hid (HQ2_w45.out.under hb HQ2_w45.out.lt)
    have HGx_w46 := Lib.hid (HGx_w45.out.under hb (by omega))
    have HZx_w46 := Lib.hid (HZx_w45.out.under hb HZx_w45.out.lt)
    have HSt2_w46 := Lib.hid (Tc.trc.sunder HSt2_w45.out hb (by omega))
    clear hb HGp_w45 HZp_w45 HSx0_w45 HQ0_w45 HSx1_w45 HSx2_w45 HQ2_w45 HGx_w45 HZx_w45 HSt2_w45
    try go_wp2_with fail
    refine hK.out _ _ ?_ (fun hHeld => ?_)
    · exact HKS.out _ HBX_w46.out
    clear hK K
    try simp only [Act.put, List.setIfInBounds_toArray, List.set_cons_zero, List.set_cons_succ]
    refine wpAnyH_take (i := 4) (oi := { dst := some 81, op := Go.Op.unOp Go.UnOp.not 4 (Go.Operand.tmp 80), type := 4, pos := "exact.go:5158", after := #[{ on := 3, ground := Go.Ground.data }], guard := none }) (v := ?_) rfl (by kernel_rfl) (by kernel_rfl) (by kernel_rfl) (fun _ _ _ h => h) (Or.inl ⟨by rfl, ?_⟩) (by assumption) ?_
    rotate_left
    · intro w hSw
      try dsimp only at hSw
      go_simp
      all_goals (with_reducible rfl)
    try simp only [Act.put, List.setIfInBounds_toArray, List.set_cons_zero, List.set_cons_succ]
    refine wpAnyH_done (by kernel_rfl) ?_ _
    go_wp2_with fail
    go_meet
    exact ⟨rfl, HBX_w46⟩
  case rest =>
  obtain ⟨rfl, HBc⟩ := hcut
  obtain ⟨w47, rfl⟩ : ∃ x, x = wc := ⟨_, rfl⟩
  have hb : Below w43.heap.size w43 w47 := HBc.out
  have HB_w47 : Hid (Below W1.heap.size W1 w47) := HB_w43.out.trans (hb.mono HB_w43.out.size)
  have hz_w47 : w43.heap.size ≤ w47.heap.size := hb.size
  have HGp_w47 := Lib.hid (HGp_w43.out.under hb (by omega))
  have HZp_w47 := Lib.hid (HZp_w43.out.under hb HZp_w43.out.lt)
  have HSx0_w47 := Lib.hid (Lay.gra.sunder HSx0_w43.out hb (by omega))
  have HQ0_w47 := Lib.hid (HQ0_w43.out.under hb HQ0_w43.out.lt)
  have HSx1_w47 := Lib.hid (Lay.exs.sunder HSx1_w43.out hb (by omega))
  have HSx2_w47 := Lib.hid (Tc.trc.sunder HSx2_w43.out hb (by omega))
  have HQ2_w47 := Lib.hid (HQ2_w43.out.under hb HQ2_w43.out.lt)
  have HGx_w47 := Lib.hid (HGx_w43.out.under hb (by omega))
  have HZx_w47 := Lib.hid (HZx_w43.out.under hb HZx_w43.out.lt)
  clear hb HBc HKS HGp_w43 HZp_w43 HSx0_w43 HQ0_w43 HSx1_w43 HSx2_w43 HQ2_w43 HGx_w43 HZx_w43
  clear g20 g21 gl2 q20 q21 ql2
  obtain ⟨q00, q01⟩ := HQ0_w47.out.two
  have ql0 := HQ0_w47.out.lt
  go_wp2_with fail
  refine (mkGrM_any e0 1 x0xa x0xl x0xc x0ya x0yl x0yc w29.heap.size w30.heap.size _ HSx0_w47.out (by omega) HD0.out (by omega) (by omega)).mono ?_
  rintro e' w48 ⟨k0, rfl, hk0_0, hk1_0, hk⟩
  have HB_w48 : Hid (Below W1.heap.size W1 w48) := HB_w47.out.trans (hk.below (by omega) (by omega))
  have hz_w48 : w47.heap.size ≤ w48.heap.size := hk.size
  clear q00 q01 ql0
  clear HSx0_w47
  have HGp_w48 := Lib.hid (HGp_w47.out.kept hk (by omega) (by omega))
  have HZp_w48 := Lib.hid (HZp_w47.out.kept hk (by omega))
  have HQ0_w48 := Lib.hid (HQ0_w47.out.kept hk (by omega))
  have HSx1_w48 : Hid (Lay.exs.sep w48 w31.heap.size w32.heap.size e1 (fun j => (#[.slice x1xa x1xl x1xc] : Array Value).getD j undef)) := Lay.exs.sep_keep (fun q b1 b2 => hk.other q (by omega) (by omega)) HSx1_w47.out
  have HSx2_w48 : Hid (Tc.trc.sep w48 w32.heap.size w33.heap.size e2 (fun j => (#[.slice x2xa x2xl x2xc, .slice x2ya x2yl x2yc] : Array Value).getD j undef)) := Tc.trc.sep_keep (fun q b1 b2 => hk.other q (by omega) (by omega)) HSx2_w47.out
  have HQ2_w48 := Lib.hid (HQ2_w47.out.kept hk (by omega))
  have HGx_w48 := Lib.hid (HGx_w47.out.kept hk (by omega) (by omega))
  have HZx_w48 := Lib.hid (HZx_w47.out.kept hk (by omega))
  clear hk HGp_w47 HZp_w47 HQ0_w47 HSx1_w47 HSx2_w47 HQ2_w47 HGx_w47 HZx_w47
  go_wp2_with fail
  refine (mkExs_any e1 k0 x1xa x1xl x1xc w31.heap.size w32.heap.size _ HSx1_w48.out (by omega) HD1.out (by omega) (by omega)).mono ?_
  rintro e' w49 ⟨k1, rfl, hk0_1, hk1_1, hk⟩
  have HB_w49 : Hid (Below W1.heap.size W1 w49) := HB_w48.out.trans (hk.below (by omega) (by omega))
  have hz_w49 : w48.heap.size ≤ w49.heap.size := hk.size
  clear HSx1_w48
  have HGp_w49 := Lib.hid (HGp_w48.out.kept hk (by omega) (by omega))
  have HZp_w49 := Lib.hid (HZp_w48.out.kept hk (by omega))
  have HQ0_w49 := Lib.hid (HQ0_w48.out.kept hk (by omega))
  have HSx2_w49 : Hid (Tc.trc.sep w49 w32.heap.size w33.heap.size e2 (fun j => (#[.slice x2xa x2xl x2xc, .slice x2ya x2yl x2yc] : Array Value).getD j undef)) := Tc.trc.sep_keep (fun q b1 b2 => hk.other q (by omega) (by omega)) HSx2_w48.out
  have HQ2_w49 := Lib.hid (HQ2_w48.out.kept hk (by omega))
  have HGx_w49 := Lib.hid (HGx_w48.out.kept hk (by omega) (by omega))
  have HZx_w49 := Lib.hid (HZx_w48.out.kept hk (by omega))
  clear hk HGp_w48 HZp_w48 HQ0_w48 HSx2_w48 HQ2_w48 HGx_w48 HZx_w48
  obtain ⟨q20, q21⟩ := HQ2_w49.out.two
  have ql2 := HQ2_w49.out.lt
  go_wp2_with fail
  refine (Tc.mkTr_any e2 k1 x2xa x2xl x2xc x2ya x2yl x2yc w32.heap.size w33.heap.size _ HSx2_w49.out (by omega) HD2.out (by omega) (by omega)).mono ?_
  rintro e' w50 ⟨k2, rfl, hk0_2, hk1_2, hk⟩
  have HB_w50 : Hid (Below W1.heap.size W1 w50) := HB_w49.out.trans (hk.below (by omega) (by omega))
  have hz_w50 : w49.heap.size ≤ w50.heap.size := hk.size
  clear q20 q21 ql2
  clear HSx2_w49
  have HGp_w50 := Lib.hid (HGp_w49.out.kept hk (by omega) (by omega))
  have HZp_w50 := Lib.hid (HZp_w49.out.kept hk (by omega))
  have HQ0_w50 := Lib.hid (HQ0_w49.out.kept hk (by omega))
  have HQ2_w50 := Lib.hid (HQ2_w49.out.kept hk (by omega))
  have HGx_w50 := Lib.hid (HGx_w49.out.kept hk (by omega) (by omega))
  have HZx_w50 := Lib.hid (HZx_w49.out.kept hk (by omega))
  clear hk HGp_w49 HZp_w49 HQ0_w49 HQ2_w49 HGx_w49 HZx_w49
  obtain ⟨zx0, zx1⟩ := HZx_w50.out.two
  have zlx := HZx_w50.out.lt
  obtain ⟨zp0, zp1⟩ := HZp_w50.out.two
  have zlp := HZp_w50.out.lt
  go_wp2_with fail
  refine (La.eqSt_any vl0 (fun j => (#[.slice xax vl0.locs.length xcx, .slice yax vl0.vals.length ycx] : Array Value).getD j undef) (fun j => (#[.slice xap vl0.locs.length xcp, .slice yap vl0.vals.length ycp] : Array Value).getD j undef) _ (HGx_w50.out.lies (by omega)) (HGp_w50.out.lies (by omega))).mono ?_
  rintro e' w51 ⟨rfl, hb⟩
  have HB_w51 : Hid (Below W1.heap.size W1 w51) := HB_w50.out.trans (hb.mono HB_w50.out.size)
  have hz_w51 : w50.heap.size ≤ w51.heap.size := hb.size
  have HGp_w51 := Lib.hid (HGp_w50.out.under hb (by omega))
  have HZp_w51 := Lib.hid (HZp_w50.out.under hb HZp_w50.out.lt)
  have HQ0_w51 := Lib.hid (HQ0_w50.out.under hb HQ0_w50.out.lt)
  have HQ2_w51 := Lib.hid (HQ2_w50.out.under hb HQ2_w50.out.lt)
  have HGx_w51 := Lib.hid (HGx_w50.out.under hb (by omega))
  have HZx_w51 := Lib.hid (HZx_w50.out.under hb HZx_w50.out.lt)
  clear hb HGp_w50 HZp_w50 HQ0_w50 HQ2_w50 HGx_w50 HZx_w50
  clear zx0 zx1 zlx zp0 zp1 zlp
  obtain ⟨zx0, zx1⟩ := HZx_w51.out.two
  have zlx := HZx_w51.out.lt
  go_wp2_with fail
  refine (La.mkSt_any vl0 xax _ xcx yax _ ycx _ _ _ HGx_w51.out (by omega) HLa.out HLb.out).mono ?_
  rintro e' w52 ⟨rfl, hsf, hk⟩
  have HB_w52 : Hid (Below W1.heap.size W1 w52) := HB_w51.out.trans (hk.below (by omega) (by omega))
  have hz_w52 : w51.heap.size ≤ w52.heap.size := hk.size
  have HGm_w52 := Lib.hid hsf
  clear zx0 zx1 zlx
  have HGp_w52 := Lib.hid (HGp_w51.out.kept hk (by omega) (by omega))
  have HZp_w52 := Lib.hid (HZp_w51.out.kept hk (by omega))
  have HQ0_w52 := Lib.hid (HQ0_w51.out.kept hk (by omega))
  have HQ2_w52 := Lib.hid (HQ2_w51.out.kept hk (by omega))
  have HZx_w52 := Lib.hid (HZx_w51.out.kept hk (by omega))
  clear hk hsf HGx_w51 HGp_w51 HZp_w51 HQ0_w51 HQ2_w51 HZx_w51
  obtain ⟨zx0, zx1⟩ := HZx_w52.out.two
  have zlx := HZx_w52.out.lt
  go_wp2_with fail
  refine (La.heldSt_any vl0 (fun j => (#[.slice xax vl0.locs.length xcx, .slice yax vl0.vals.length ycx] : Array Value).getD j undef) _ (HGm_w52.out.lies (by omega)) HLa.out HLb.out).mono ?_
  rintro e' w53 ⟨rfl, hb⟩
  clear zx0 zx1 zlx
  have HB_w53 : Hid (Below W1.heap.size W1 w53) := HB_w52.out.trans (hb.mono HB_w52.out.size)
  have hz_w53 : w52.heap.size ≤ w53.heap.size := hb.size
  have HGp_w53 := Lib.hid (HGp_w52.out.under hb (by omega))
  have HZp_w53 := Lib.hid (HZp_w52.out.under hb HZp_w52.out.lt)
  have HQ0_w53 := Lib.hid (HQ0_w52.out.under hb HQ0_w52.out.lt)
  have HQ2_w53 := Lib.hid (HQ2_w52.out.under hb HQ2_w52.out.lt)
  have HZx_w53 := Lib.hid (HZx_w52.out.under hb HZx_w52.out.lt)
  have HGm_w53 := Lib.hid (HGm_w52.out.under hb (by omega))
  clear hb HGp_w52 HZp_w52 HQ0_w52 HQ2_w52 HZx_w52 HGm_w52
  obtain ⟨g00, g01⟩ := (HR0.out.under HB_w53.out HR0.out.lt).two
  have gl0 : w.heap.size < w53.heap.size := Nat.lt_of_lt_of_le HR0.out.lt HB_w53.out.size
  obtain ⟨g20, g21⟩ := (HR2.out.under HB_w53.out HR2.out.lt).two
  have gl2 : w.heap.size + 1 < w53.heap.size := Nat.lt_of_lt_of_le HR2.out.lt HB_w53.out.size
  have HKS : Hid (∀ X, Below W1.heap.size W1 X → (fun w' => w'.cell? ⟨w.heap.size, 0, none⟩ = some (C0 0) ∧ w'.cell? ⟨w.heap.size, 1, none⟩ = some (C0 1) ∧ w'.cell? ⟨w.heap.size + 1, 0, none⟩ = some (C2 0) ∧ w'.cell? ⟨w.heap.size + 1, 1, none⟩ = some (C2 1)) X) := fun X h => ⟨(HR0.out.under h HR0.out.lt).cell 0, (HR0.out.under h HR0.out.lt).cell 1, (HR2.out.under h HR2.out.lt).cell 0, (HR2.out.under h HR2.out.lt).cell 1⟩
  go_upto_region 38 with fail
  go_cut [18, 19] from 115 to 124 (fun b0 b1 wx => ∃ (zz : Nat) (xah : Option Addr) (xch : Nat) (yah : Option Addr) (ych : Nat), b0 = .pointer (some ⟨zz, 0, none⟩) ∧ b1 = .bool vl1 ∧ Hid (Row wx zz 83 #[.slice xah vl0.locs.length xch, .slice yah vl0.vals.length ych]) ∧ Hid (StR wx w53.heap.size wx.heap.size vl0 (.slice xah vl0.locs.length xch) (.slice yah vl0.vals.length ych)) ∧ w53.heap.size ≤ zz ∧ Hid (Below w53.heap.size w53 wx))
  case first =>
    have HBX_w53 : Hid (Below w53.heap.size w53 w53) := Below.refl _ _
    refine wp_region_held_drew (S := (fun w' => w'.cell? ⟨w.heap.size, 0, none⟩ = some (C0 0) ∧ w'.cell? ⟨w.heap.size, 1, none⟩ = some (C0 1) ∧ w'.cell? ⟨w.heap.size + 1, 0, none⟩ = some (C2 0) ∧ w'.cell? ⟨w.heap.size + 1, 1, none⟩ = some (C2 1))) (by kernel_rfl) ?_ (fun hHeld => ?_)
    · exact HKS.out _ HB_w53.out.drew
    obtain ⟨w54, hX0⟩ : ∃ X, X = w53.drew := ⟨_, rfl⟩
    rw [← hX0] at hHeld ⊢
    have hb : Below w53.heap.size w53 w54 := by rw [hX0]; exact (Below.refl _ _).drew
    have HB_w54 : Hid (Below W1.heap.size W1 w54) := HB_w53.out.trans (hb.mono HB_w53.out.size)
    have hz_w54 : w53.heap.size ≤ w54.heap.size := hb.size
    have HBX_w54 : Hid (Below w53.heap.size w53 w54) := HBX_w53.out.trans (hb.mono HBX_w53.out.size)
    have HGp_w54 := Lib.hid (HGp_w53.out.under hb (by omega))
    have HZp_w54 := Lib.hid (HZp_w53.out.under hb HZp_w53.out.lt)
    have HQ0_w54 := Lib.hid (HQ0_w53.out.under hb HQ0_w53.out.lt)
    have HQ2_w54 := Lib.hid (HQ2_w53.out.under hb HQ2_w53.out.lt)
    have HZx_w54 := Lib.hid (HZx_w53.out.under hb HZx_w53.out.lt)
    have HGm_w54 := Lib.hid (HGm_w53.out.under hb (by omega))
    clear hX0 hb HGp_w53 HZp_w53 HQ0_w53 HQ2_w53 HZx_w53 HGm_w53
    refine wpAnyH_take (i := 0) (oi := { dst := some 116, op := Go.Op.load 61 (Go.Operand.tmp 3), type := 61, pos := "exact.go:5178", after := #[], guard := none }) (v := ?_) rfl (by kernel_rfl) (by kernel_rfl) (by kernel_rfl) (fun _ _ _ h => h) (Or.inl ⟨by rfl, ?_⟩) (by assumption) ?_
    rotate_left
    · intro w hSw
      try dsimp only at hSw
      go_simp
      all_goals (with_reducible rfl)
    try simp only [Act.put, List.setIfInBounds_toArray, List.set_cons_zero, List.set_cons_succ]
    refine wpAnyH_take (i := 2) (oi := { dst := some 118, op := Go.Op.move (Go.Operand.tmp 1), type := 62, pos := "exact.go:5178", after := #[], guard := none }) (v := ?_) rfl (by kernel_rfl) (by kernel_rfl) (by kernel_rfl) (fun _ _ _ h => h) (Or.inl ⟨by rfl, ?_⟩) (by assumption) ?_
    rotate_left
    · intro w hSw
      try dsimp only at hSw
      go_simp
      all_goals (with_reducible rfl)
    try simp only [Act.put, List.setIfInBounds_toArray, List.set_cons_zero, List.set_cons_succ]
    refine wpAnyH_take (i := 4) (oi := { dst := some 120, op := Go.Op.load 81 (Go.Operand.tmp 5), type := 81, pos := "exact.go:5178", after := #[], guard := none }) (v := ?_) rfl (by kernel_rfl) (by kernel_rfl) (by kernel_rfl) (fun _ _ _ h => h) (Or.inl ⟨by rfl, ?_⟩) (by assumption) ?_
    rotate_left
    · intro w hSw
      try dsimp only at hSw
      go_simp
      all_goals (with_reducible rfl)
    try simp only [Act.put, List.setIfInBounds_toArray, List.set_cons_zero, List.set_cons_succ]
    refine wpAnyH_ready (rs := [1, 10]) (by kernel_rfl) (by simp) (AllReadyH.cons (o := { dst := some 117, op := Go.Op.call { callee := Go.Callee.value (Go.Operand.func 30), args := #[Go.Operand.tmp 116], argTypes := #[61] }, type := 69, pos := "exact.go:5178", after := #[{ on := 0, ground := Go.Ground.data }], guard := none }) rfl (fun K hK => ?_) (AllReadyH.cons (o := { dst := some 18, op := Go.Op.alloc 83, type := 0, pos := "exact.go:5178", after := #[], guard := none }) rfl (fun K hK => ?_) AllReadyH.nil))
    · skip
      go_simp
      refine (toGr_any e0 C0 _ (Lay.gra.later HL0.out HB_w54.out HB_w54.out.size) HD0.out).mono ?_
      rintro e' w55 ⟨h0xa, h0xl, h0xc, h0ya, h0yl, h0yc, rfl, hs, hb⟩
      have HB_w55 : Hid (Below W1.heap.size W1 w55) := HB_w54.out.trans (hb.mono HB_w54.out.size)
      have hz_w55 : w54.heap.size ≤ w55.heap.size := hb.size
      have HBX_w55 : Hid (Below w53.heap.size w53 w55) := HBX_w54.out.trans (hb.mono HBX_w54.out.size)
      have HGp_w55 := Lib.hid (HGp_w54.out.under hb (by omega))
      have HZp_w55 := Lib.hid (HZp_w54.out.under hb HZp_w54.out.lt)
      have HQ0_w55 := Lib.hid (HQ0_w54.out.under hb HQ0_w54.out.lt)
      have HQ2_w55 := Lib.hid (HQ2_w54.out.under hb HQ2_w54.out.lt)
      have HZx_w55 := Lib.hid (HZx_w54.out.under hb HZx_w54.out.lt)
      have HGm_w55 := Lib.hid (HGm_w54.out.under hb (by omega))
      have HSh0_w55 : Hid (Lay.gra.sep w55 w54.heap.size w55.heap.size e0 (fun j => (#[.slice h0xa h0xl h0xc, .slice h0ya h0yl h0yc] : Array Value).getD j undef)) := hs
      clear hs hb HGp_w54 HZp_w54 HQ0_w54 HQ2_w54 HZx_w54 HGm_w54
      try go_wp2_with fail
      refine hK.out _ _ ?_ (fun hHeld => ?_)
      · exact HKS.out _ HB_w55.out
      clear hK K
      try simp only [Act.put, List.setIfInBounds_toArray, List.set_cons_zero, List.set_cons_succ]
      refine wpAnyH_ready (rs := [3, 10]) (by kernel_rfl) (by simp) (AllReadyH.cons (o := { dst := some 119, op := Go.Op.call { callee := Go.Callee.value (Go.Operand.func 31), args := #[Go.Operand.tmp 118], argTypes := #[62] }, type := 71, pos := "exact.go:5178", after := #[{ on := 2, ground := Go.Ground.data }, { on := 1, ground := Go.Ground.chain }], guard := none }) rfl (fun K hK => ?_) (AllReadyH.cons (o := { dst := some 18, op := Go.Op.alloc 83, type := 0, pos := "exact.go:5178", after := #[], guard := none }) rfl (fun K hK => ?_) AllReadyH.nil))
      · skip
        go_simp
        refine (toExs_any e1 C1 _ (Lay.exs.later HL1.out HB_w55.out HB_w55.out.size) HD1.out).mono ?_
        rintro e' w56 ⟨h1xa, h1xl, h1xc, rfl, hs, hb⟩
        have HB_w56 : Hid (Below W1.heap.size W1 w56) := HB_w55.out.trans (hb.mono HB_w55.out.size)
        have hz_w56 : w55.heap.size ≤ w56.heap.size := hb.size
        have HBX_w56 : Hid (Below w53.heap.size w53 w56) := HBX_w55.out.trans (hb.mono HBX_w55.out.size)
        have HGp_w56 := Lib.hid (HGp_w55.out.under hb (by omega))
        have HZp_w56 := Lib.hid (HZp_w55.out.under hb HZp_w55.out.lt)
        have HQ0_w56 := Lib.hid (HQ0_w55.out.under hb HQ0_w55.out.lt)
        have HQ2_w56 := Lib.hid (HQ2_w55.out.under hb HQ2_w55.out.lt)
        have HZx_w56 := Lib.hid (HZx_w55.out.under hb HZx_w55.out.lt)
        have HGm_w56 := Lib.hid (HGm_w55.out.under hb (by omega))
        have HSh0_w56 := Lib.hid (Lay.gra.sunder HSh0_w55.out hb (by omega))
        have HSh1_w56 : Hid (Lay.exs.sep w56 w55.heap.size w56.heap.size e1 (fun j => (#[.slice h1xa h1xl h1xc] : Array Value).getD j undef)) := hs
        clear hs hb HGp_w55 HZp_w55 HQ0_w55 HQ2_w55 HZx_w55 HGm_w55 HSh0_w55
        try go_wp2_with fail
        refine hK.out _ _ ?_ (fun hHeld => ?_)
        · exact HKS.out _ HB_w56.out
        clear hK K
        try simp only [Act.put, List.setIfInBounds_toArray, List.set_cons_zero, List.set_cons_succ]
        refine wpAnyH_ready (rs := [5, 10]) (by kernel_rfl) (by simp) (AllReadyH.cons (o := { dst := some 121, op := Go.Op.call { callee := Go.Callee.value (Go.Operand.func 42), args := #[Go.Operand.tmp 120], argTypes := #[81] }, type := 86, pos := "exact.go:5178", after := #[{ on := 4, ground := Go.Ground.data }, { on := 3, ground := Go.Ground.chain }], guard := none }) rfl (fun K hK => ?_) (AllReadyH.cons (o := { dst := some 18, op := Go.Op.alloc 83, type := 0, pos := "exact.go:5178", after := #[], guard := none }) rfl (fun K hK => ?_) AllReadyH.nil))
        · skip
          go_simp
          refine (Tc.toTr_any e2 C2 _ (Tc.trc.later HL2.out HB_w56.out HB_w56.out.size) HD2.out).mono ?_
          rintro e' w57 ⟨h2xa, h2xl, h2xc, h2ya, h2yl, h2yc, rfl, hs, hb⟩
          have HB_w57 : Hid (Below W1.heap.size W1 w57) := HB_w56.out.trans (hb.mono HB_w56.out.size)
          have hz_w57 : w56.heap.size ≤ w57.heap.size := hb.size
          have HBX_w57 : Hid (Below w53.heap.size w53 w57) := HBX_w56.out.trans (hb.mono HBX_w56.out.size)
          have HGp_w57 := Lib.hid (HGp_w56.out.under hb (by omega))
          have HZp_w57 := Lib.hid (HZp_w56.out.under hb HZp_w56.out.lt)
          have HQ0_w57 := Lib.hid (HQ0_w56.out.under hb HQ0_w56.out.lt)
          have HQ2_w57 := Lib.hid (HQ2_w56.out.under hb HQ2_w56.out.lt)
          have HZx_w57 := Lib.hid (HZx_w56.out.under hb HZx_w56.out.lt)
          have HGm_w57 := Lib.hid (HGm_w56.out.under hb (by omega))
          have HSh0_w57 := Lib.hid (Lay.gra.sunder HSh0_w56.out hb (by omega))
          have HSh1_w57 := Lib.hid (Lay.exs.sunder HSh1_w56.out hb (by omega))
          have HSh2_w57 : Hid (Tc.trc.sep w57 w56.heap.size w57.heap.size e2 (fun j => (#[.slice h2xa h2xl h2xc, .slice h2ya h2yl h2yc] : Array Value).getD j undef)) := hs
          clear hs hb HGp_w56 HZp_w56 HQ0_w56 HQ2_w56 HZx_w56 HGm_w56 HSh0_w56 HSh1_w56
          try go_wp2_with fail
          refine hK.out _ _ ?_ (fun hHeld => ?_)
          · exact HKS.out _ HB_w57.out
          clear hK K
          try simp only [Act.put, List.setIfInBounds_toArray, List.set_cons_zero, List.set_cons_succ]
          refine wpAnyH_ready (rs := [6, 10]) (by kernel_rfl) (by simp) (AllReadyH.cons (o := { dst := some 122, op := Go.Op.call { callee := Go.Callee.value (Go.Operand.func 43), args := #[Go.Operand.tmp 117, Go.Operand.tmp 119, Go.Operand.tmp 121], argTypes := #[69, 71, 86] }, type := 84, pos := "exact.go:5178", after := #[{ on := 1, ground := Go.Ground.data }, { on := 3, ground := Go.Ground.data }, { on := 5, ground := Go.Ground.data }, { on := 5, ground := Go.Ground.chain }], guard := none }) rfl (fun K hK => ?_) (AllReadyH.cons (o := { dst := some 18, op := Go.Op.alloc 83, type := 0, pos := "exact.go:5178", after := #[], guard := none }) rfl (fun K hK => ?_) AllReadyH.nil))
          · skip
            go_simp
            refine (implTw_any e0 (fun j => (#[.slice h0xa h0xl h0xc, .slice h0ya h0yl h0yc] : Array Value).getD j undef) e1 (fun j => (#[.slice h1xa h1xl h1xc] : Array Value).getD j undef) e2 (fun j => (#[.slice h2xa h2xl h2xc, .slice h2ya h2yl h2yc] : Array Value).getD j undef) _ (Lay.gra.more (Lay.gra.sep_lies HSh0_w57.out) (by omega)) (Lay.exs.more (Lay.exs.sep_lies HSh1_w57.out) (by omega)) (Tc.trc.more (Tc.trc.sep_lies HSh2_w57.out) (by omega)) HD0.out HD1.out HD2.out).mono ?_
            rintro e' w58 ⟨Xh, Yh, rfl, hS, hb⟩
            rw [← HV0.out] at hS
            rw [← HV1.out]
            obtain ⟨xah, xch, yah, ych, rfl, rfl⟩ := hS.form
            have HB_w58 : Hid (Below W1.heap.size W1 w58) := HB_w57.out.trans (hb.mono HB_w57.out.size)
            have hz_w58 : w57.heap.size ≤ w58.heap.size := hb.size
            have HBX_w58 : Hid (Below w53.heap.size w53 w58) := HBX_w57.out.trans (hb.mono HBX_w57.out.size)
            have HGp_w58 := Lib.hid (HGp_w57.out.under hb (by omega))
            have HZp_w58 := Lib.hid (HZp_w57.out.under hb HZp_w57.out.lt)
            have HQ0_w58 := Lib.hid (HQ0_w57.out.under hb HQ0_w57.out.lt)
            have HQ2_w58 := Lib.hid (HQ2_w57.out.under hb HQ2_w57.out.lt)
            have HZx_w58 := Lib.hid (HZx_w57.out.under hb HZx_w57.out.lt)
            have HGm_w58 := Lib.hid (HGm_w57.out.under hb (by omega))
            have HSh0_w58 := Lib.hid (Lay.gra.sunder HSh0_w57.out hb (by omega))
            have HSh1_w58 := Lib.hid (Lay.exs.sunder HSh1_w57.out hb (by omega))
            have HSh2_w58 := Lib.hid (Tc.trc.sunder HSh2_w57.out hb (by omega))
            have HGh_w58 : Hid (StR w58 w57.heap.size w58.heap.size vl0 (.slice xah vl0.locs.length xch) (.slice yah vl0.vals.length ych)) := hS
            clear hS hb HGp_w57 HZp_w57 HQ0_w57 HQ2_w57 HZx_w57 HGm_w57 HSh0_w57 HSh1_w57 HSh2_w57
            try go_wp2_with fail
            refine hK.out _ _ ?_ (fun hHeld => ?_)
            · exact HKS.out _ HB_w58.out
            clear hK K
            try simp only [Act.put, List.setIfInBounds_toArray, List.set_cons_zero, List.set_cons_succ]
            refine wpAnyH_take (i := 7) (oi := { dst := some 115, op := Go.Op.move (Go.Operand.tmp 122), type := 84, pos := "exact.go:5178", after := #[{ on := 6, ground := Go.Ground.data }], guard := none }) (v := ?_) rfl (by kernel_rfl) (by kernel_rfl) (by kernel_rfl) (fun _ _ _ h => h) (Or.inl ⟨by rfl, ?_⟩) (by assumption) ?_
            rotate_left
            · intro w hSw
              try dsimp only at hSw
              go_simp
              all_goals (with_reducible rfl)
            try simp only [Act.put, List.setIfInBounds_toArray, List.set_cons_zero, List.set_cons_succ]
            refine wpAnyH_take (i := 8) (oi := { dst := some 123, op := Go.Op.extract (Go.Operand.tmp 115) 0, type := 83, pos := "exact.go:5178", after := #[{ on := 7, ground := Go.Ground.data }], guard := none }) (v := ?_) rfl (by kernel_rfl) (by kernel_rfl) (by kernel_rfl) (fun _ _ _ h => h) (Or.inl ⟨by rfl, ?_⟩) (by assumption) ?_
            rotate_left
            · intro w hSw
              try dsimp only at hSw
              go_simp
              all_goals (with_reducible rfl)
            try simp only [Act.put, List.setIfInBounds_toArray, List.set_cons_zero, List.set_cons_succ]
            refine wpAnyH_take (i := 9) (oi := { dst := some 124, op := Go.Op.extract (Go.Operand.tmp 115) 1, type := 4, pos := "exact.go:5178", after := #[{ on := 7, ground := Go.Ground.data }, { on := 11, ground := Go.Ground.gcOnly Go.Departure.lateStores }], guard := none }) (v := ?_) rfl (by kernel_rfl) (by kernel_rfl) (by kernel_rfl) (fun _ _ _ h => h) (Or.inl ⟨by rfl, ?_⟩) (by assumption) ?_
            rotate_left
            · intro w hSw
              try dsimp only at hSw
              go_simp
              all_goals (with_reducible rfl)
            try simp only [Act.put, List.setIfInBounds_toArray, List.set_cons_zero, List.set_cons_succ]
            refine wpAnyH_ready (rs := [10]) (by kernel_rfl) (by simp) (AllReadyH.cons (o := { dst := some 18, op := Go.Op.alloc 83, type := 0, pos := "exact.go:5178", after := #[], guard := none }) rfl (fun K hK => ?_) AllReadyH.nil)
            go_simp
            obtain ⟨w59, hY⟩ : ∃ Y, Y = w58.alloc (.cells #[.slice none 0 0, .slice none 0 0] 83) := ⟨_, rfl⟩
            rw [← hY]
            have hb : Below w58.heap.size w58 w59 := by rw [hY]; exact (Below.refl _ _).alloc (Nat.le_refl _) _
            have hnew : Row w59 w58.heap.size 83 #[.slice none 0 0, .slice none 0 0] := by rw [hY]; exact Row.new _ _ _
            have hs_w59 : w58.heap.size < w59.heap.size := hnew.lt
            have HB_w59 : Hid (Below W1.heap.size W1 w59) := HB_w58.out.trans (hb.mono HB_w58.out.size)
            have hz_w59 : w58.heap.size ≤ w59.heap.size := hb.size
            have HBX_w59 : Hid (Below w53.heap.size w53 w59) := HBX_w58.out.trans (hb.mono HBX_w58.out.size)
            have HGp_w59 := Lib.hid (HGp_w58.out.under hb (by omega))
            have HZp_w59 := Lib.hid (HZp_w58.out.under hb HZp_w58.out.lt)
            have HQ0_w59 := Lib.hid (HQ0_w58.out.under hb HQ0_w58.out.lt)
            have HQ2_w59 := Lib.hid (HQ2_w58.out.under hb HQ2_w58.out.lt)
            have HZx_w59 := Lib.hid (HZx_w58.out.under hb HZx_w58.out.lt)
            have HGm_w59 := Lib.hid (HGm_w58.out.under hb (by omega))
            have HSh0_w59 := Lib.hid (Lay.gra.sunder HSh0_w58.out hb (by omega))
            have HSh1_w59 := Lib.hid (Lay.exs.sunder HSh1_w58.out hb (by omega))
            have HSh2_w59 := Lib.hid (Tc.trc.sunder HSh2_w58.out hb (by omega))
            have HGh_w59 := Lib.hid (HGh_w58.out.under hb (by omega))
            have HZh_w59 := Lib.hid hnew
            clear hnew hb hY HGp_w58 HZp_w58 HQ0_w58 HQ2_w58 HZx_w58 HGm_w58 HSh0_w58 HSh1_w58 HSh2_w58 HGh_w58
            refine hK.out _ _ ?_ (fun hHeld => ?_)
            · exact HKS.out _ HB_w59.out
            clear hK K
            try simp only [Act.put, List.setIfInBounds_toArray, List.set_cons_zero, List.set_cons_succ]
            refine wpAnyH_ready (rs := [11]) (by kernel_rfl) (by simp) (AllReadyH.cons (o := { dst := none, op := Go.Op.store 83 (Go.Operand.tmp 18) (Go.Operand.tmp 123), type := 0, pos := "exact.go:5178", after := #[{ on := 10, ground := Go.Ground.data }, { on := 8, ground := Go.Ground.data }, { on := 6, ground := Go.Ground.chain }, { on := 0, ground := Go.Ground.phase }, { on := 1, ground := Go.Ground.phase }, { on := 2, ground := Go.Ground.phase }, { on := 3, ground := Go.Ground.phase }, { on := 4, ground := Go.Ground.phase }, { on := 5, ground := Go.Ground.phase }, { on := 6, ground := Go.Ground.phase }, { on := 7, ground := Go.Ground.phase }, { on := 8, ground := Go.Ground.phase }, { on := 9, ground := Go.Ground.textOnly Go.Departure.lateStores }, { on := 10, ground := Go.Ground.phase }], guard := none }) rfl (fun K hK => ?_) AllReadyH.nil)
            obtain ⟨x0, x1⟩ := HZh_w59.out.two
            have u0 := HZh_w59.out.frozen 0
            have u1 := HZh_w59.out.frozen 1
            go_simp
            obtain ⟨w60, hY⟩ : ∃ Y, Y = (w59.setCell ⟨w58.heap.size, 0, none⟩ (.slice xah vl0.locs.length xch)).setCell ⟨w58.heap.size, 1, none⟩ (.slice yah vl0.vals.length ych) := ⟨_, rfl⟩
            rw [← hY]
            have hk : Kept w58.heap.size (w58.heap.size + 1) w59 w60 := by rw [hY]; exact ((Kept.refl w58.heap.size (w58.heap.size + 1) w59).trans (Kept.set_ w58.heap.size (w58.heap.size + 1) _ (Nat.le_refl _) (Nat.lt_succ_self _) 0 _)).trans (Kept.set_ w58.heap.size (w58.heap.size + 1) _ (Nat.le_refl _) (Nat.lt_succ_self _) 1 _)
            have hnew : Row w60 w58.heap.size 83 #[(.slice xah vl0.locs.length xch), (.slice yah vl0.vals.length ych)] := by rw [hY]; exact ((HZh_w59.out.set_ 0 (.slice xah vl0.locs.length xch)).set_ 1 (.slice yah vl0.vals.length ych))
            have HB_w60 : Hid (Below W1.heap.size W1 w60) := HB_w59.out.trans (hk.below (by omega) (by omega))
            have hz_w60 : w59.heap.size ≤ w60.heap.size := hk.size
            have HBX_w60 : Hid (Below w53.heap.size w53 w60) := HBX_w59.out.trans (hk.below (by omega) (by omega))
            have HGp_w60 := Lib.hid (HGp_w59.out.kept hk (by omega) (by omega))
            have HZp_w60 := Lib.hid (HZp_w59.out.kept hk (by omega))
            have HQ0_w60 := Lib.hid (HQ0_w59.out.kept hk (by omega))
            have HQ2_w60 := Lib.hid (HQ2_w59.out.kept hk (by omega))
            have HZx_w60 := Lib.hid (HZx_w59.out.kept hk (by omega))
            have HGm_w60 := Lib.hid (HGm_w59.out.kept hk (by omega) (by omega))
            have HSh0_w60 : Hid (Lay.gra.sep w60 w54.heap.size w55.heap.size e0 (fun j => (#[.slice h0xa h0xl h0xc, .slice h0ya h0yl h0yc] : Array Value).getD j undef)) := Lay.gra.sep_keep (fun q b1 b2 => hk.other q (by omega) (by omega)) HSh0_w59.out
            have HSh1_w60 : Hid (Lay.exs.sep w60 w55.heap.size w56.heap.size e1 (fun j => (#[.slice h1xa h1xl h1xc] : Array Value).getD j undef)) := Lay.exs.sep_keep (fun q b1 b2 => hk.other q (by omega) (by omega)) HSh1_w59.out
            have HSh2_w60 : Hid (Tc.trc.sep w60 w56.heap.size w57.heap.size e2 (fun j => (#[.slice h2xa h2xl h2xc, .slice h2ya h2yl h2yc] : Array Value).getD j undef)) := Tc.trc.sep_keep (fun q b1 b2 => hk.other q (by omega) (by omega)) HSh2_w59.out
            have HGh_w60 := Lib.hid (HGh_w59.out.kept hk (by omega) (by omega))
            have HZh_w60 := Lib.hid hnew
            clear hk hnew hY HZh_w59 x0 u0 x1 u1 HGp_w59 HZp_w59 HQ0_w59 HQ2_w59 HZx_w59 HGm_w59 HSh0_w59 HSh1_w59 HSh2_w59 HGh_w59
            refine hK.out _ _ ?_ (fun hHeld => ?_)
            · exact HKS.out _ HB_w60.out
            clear hK K
            try simp only [Act.put, List.setIfInBounds_toArray, List.set_cons_zero, List.set_cons_succ]
            refine wpAnyH_take (i := 12) (oi := { dst := some 19, op := Go.Op.assign (Go.Operand.tmp 124), type := 4, pos := "exact.go:5178", after := #[{ on := 9, ground := Go.Ground.data }, { on := 11, ground := Go.Ground.chain }, { on := 0, ground := Go.Ground.phase }, { on := 1, ground := Go.Ground.phase }, { on := 2, ground := Go.Ground.phase }, { on := 3, ground := Go.Ground.phase }, { on := 4, ground := Go.Ground.phase }, { on := 5, ground := Go.Ground.phase }, { on := 6, ground := Go.Ground.phase }, { on := 7, ground := Go.Ground.phase }, { on := 8, ground := Go.Ground.phase }, { on := 9, ground := Go.Ground.phase }, { on := 10, ground := Go.Ground.phase }, { on := 11, ground := Go.Ground.phase }], guard := none }) (v := ?_) rfl (by kernel_rfl) (by kernel_rfl) (by kernel_rfl) (fun _ _ _ h => h) (Or.inl ⟨by rfl, ?_⟩) (by assumption) ?_
            rotate_left
            · intro w hSw
              try dsimp only at hSw
              go_simp
              all_goals (with_reducible rfl)
            try simp only [Act.put, List.setIfInBounds_toArray, List.set_cons_zero, List.set_cons_succ]
            refine wpAnyH_done (by kernel_rfl) ?_ _
            go_wp2_with fail
            go_meet
            exact ⟨_, xah, xch, yah, ych, rfl, rfl, HZh_w60, Lib.hid (HGh_w60.out.more (by omega) (by omega)), (by omega), HBX_w60⟩
          · skip
            go_simp
            obtain ⟨w61, hY⟩ : ∃ Y, Y = w57.alloc (.cells #[.slice none 0 0, .slice none 0 0] 83) := ⟨_, rfl⟩
            rw [← hY]
            have hb : Below w57.heap.size w57 w61 := by rw [hY]; exact (Below.refl _ _).alloc (Nat.le_refl _) _
            have hnew : Row w61 w57.heap.size 83 #[.slice none 0 0, .slice none 0 0] := by rw [hY]; exact Row.new _ _ _
            have hs_w61 : w57.heap.size < w61.heap.size := hnew.lt
            have HB_w61 : Hid (Below W1.heap.size W1 w61) := HB_w57.out.trans (hb.mono HB_w57.out.size)
            have hz_w61 : w57.heap.size ≤ w61.heap.size := hb.size
            have HBX_w61 : Hid (Below w53.heap.size w53 w61) := HBX_w57.out.trans (hb.mono HBX_w57.out.size)
            have HGp_w61 := Lib.hid (HGp_w57.out.under hb (by omega))
            have HZp_w61 := Lib.hid (HZp_w57.out.under hb HZp_w57.out.lt)
            have HQ0_w61 := Lib.hid (HQ0_w57.out.under hb HQ0_w57.out.lt)
            have HQ2_w61 := Lib.hid (HQ2_w57.out.under hb HQ2_w57.out.lt)
            have HZx_w61 := Lib.hid (HZx_w57.out.under hb HZx_w57.out.lt)
            have HGm_w61 := Lib.hid (HGm_w57.out.under hb (by omega))
            have HSh0_w61 := Lib.hid (Lay.gra.sunder HSh0_w57.out hb (by omega))
            have HSh1_w61 := Lib.hid (Lay.exs.sunder HSh1_w57.out hb (by omega))
            have HSh2_w61 := Lib.hid (Tc.trc.sunder HSh2_w57.out hb (by omega))
            have HZh_w61 := Lib.hid hnew
            clear hnew hb hY HGp_w57 HZp_w57 HQ0_w57 HQ2_w57 HZx_w57 HGm_w57 HSh0_w57 HSh1_w57 HSh2_w57
            refine hK.out _ _ ?_ (fun hHeld => ?_)
            · exact HKS.out _ HB_w61.out
            clear hK K
            try simp only [Act.put, List.setIfInBounds_toArray, List.set_cons_zero, List.set_cons_succ]
            refine wpAnyH_ready (rs := [6]) (by kernel_rfl) (by simp) (AllReadyH.cons (o := { dst := some 122, op := Go.Op.call { callee := Go.Callee.value (Go.Operand.func 43), args := #[Go.Operand.tmp 117, Go.Operand.tmp 119, Go.Operand.tmp 121], argTypes := #[69, 71, 86] }, type := 84, pos := "exact.go:5178", after := #[{ on := 1, ground := Go.Ground.data }, { on := 3, ground := Go.Ground.data }, { on := 5, ground := Go.Ground.data }, { on := 5, ground := Go.Ground.chain }], guard := none }) rfl (fun K hK => ?_) AllReadyH.nil)
            go_simp
            refine (implTw_any e0 (fun j => (#[.slice h0xa h0xl h0xc, .slice h0ya h0yl h0yc] : Array Value).getD j undef) e1 (fun j => (#[.slice h1xa h1xl h1xc] : Array Value).getD j undef) e2 (fun j => (#[.slice h2xa h2xl h2xc, .slice h2ya h2yl h2yc] : Array Value).getD j undef) _ (Lay.gra.more (Lay.gra.sep_lies HSh0_w61.out) (by omega)) (Lay.exs.more (Lay.exs.sep_lies HSh1_w61.out) (by omega)) (Tc.trc.more (Tc.trc.sep_lies HSh2_w61.out) (by omega)) HD0.out HD1.out HD2.out).mono ?_
            rintro e' w62 ⟨Xh, Yh, rfl, hS, hb⟩
            rw [← HV0.out] at hS
            rw [← HV1.out]
            obtain ⟨xah, xch, yah, ych, rfl, rfl⟩ := hS.form
            have HB_w62 : Hid (Below W1.heap.size W1 w62) := HB_w61.out.trans (hb.mono HB_w61.out.size)
            have hz_w62 : w61.heap.size ≤ w62.heap.size := hb.size
            have HBX_w62 : Hid (Below w53.heap.size w53 w62) := HBX_w61.out.trans (hb.mono HBX_w61.out.size)
            have HGp_w62 := Lib.hid (HGp_w61.out.under hb (by omega))
            have HZp_w62 := Lib.hid (HZp_w61.out.under hb HZp_w61.out.lt)
            have HQ0_w62 := Lib.hid (HQ0_w61.out.under hb HQ0_w61.out.lt)
            have HQ2_w62 := Lib.hid (HQ2_w61.out.under hb HQ2_w61.out.lt)
            have HZx_w62 := Lib.hid (HZx_w61.out.under hb HZx_w61.out.lt)
            have HGm_w62 := Lib.hid (HGm_w61.out.under hb (by omega))
            have HSh0_w62 := Lib.hid (Lay.gra.sunder HSh0_w61.out hb (by omega))
            have HSh1_w62 := Lib.hid (Lay.exs.sunder HSh1_w61.out hb (by omega))
            have HSh2_w62 := Lib.hid (Tc.trc.sunder HSh2_w61.out hb (by omega))
            have HZh_w62 := Lib.hid (HZh_w61.out.under hb HZh_w61.out.lt)
            have HGh_w62 : Hid (StR w62 w61.heap.size w62.heap.size vl0 (.slice xah vl0.locs.length xch) (.slice yah vl0.vals.length ych)) := hS
            clear hS hb HGp_w61 HZp_w61 HQ0_w61 HQ2_w61 HZx_w61 HGm_w61 HSh0_w61 HSh1_w61 HSh2_w61 HZh_w61
            try go_wp2_with fail
            refine hK.out _ _ ?_ (fun hHeld => ?_)
            · exact HKS.out _ HB_w62.out
            clear hK K
            try simp only [Act.put, List.setIfInBounds_toArray, List.set_cons_zero, List.set_cons_succ]
            refine wpAnyH_take (i := 7) (oi := { dst := some 115, op := Go.Op.move (Go.Operand.tmp 122), type := 84, pos := "exact.go:5178", after := #[{ on := 6, ground := Go.Ground.data }], guard := none }) (v := ?_) rfl (by kernel_rfl) (by kernel_rfl) (by kernel_rfl) (fun _ _ _ h => h) (Or.inl ⟨by rfl, ?_⟩) (by assumption) ?_
            rotate_left
            · intro w hSw
              try dsimp only at hSw
              go_simp
              all_goals (with_reducible rfl)
            try simp only [Act.put, List.setIfInBounds_toArray, List.set_cons_zero, List.set_cons_succ]
            refine wpAnyH_take (i := 8) (oi := { dst := some 123, op := Go.Op.extract (Go.Operand.tmp 115) 0, type := 83, pos := "exact.go:5178", after := #[{ on := 7, ground := Go.Ground.data }], guard := none }) (v := ?_) rfl (by kernel_rfl) (by kernel_rfl) (by kernel_rfl) (fun _ _ _ h => h) (Or.inl ⟨by rfl, ?_⟩) (by assumption) ?_
            rotate_left
            · intro w hSw
              try dsimp only at hSw
              go_simp
              all_goals (with_reducible rfl)
            try simp only [Act.put, List.setIfInBounds_toArray, List.set_cons_zero, List.set_cons_succ]
            refine wpAnyH_take (i := 9) (oi := { dst := some 124, op := Go.Op.extract (Go.Operand.tmp 115) 1, type := 4, pos := "exact.go:5178", after := #[{ on := 7, ground := Go.Ground.data }, { on := 11, ground := Go.Ground.gcOnly Go.Departure.lateStores }], guard := none }) (v := ?_) rfl (by kernel_rfl) (by kernel_rfl) (by kernel_rfl) (fun _ _ _ h => h) (Or.inl ⟨by rfl, ?_⟩) (by assumption) ?_
            rotate_left
            · intro w hSw
              try dsimp only at hSw
              go_simp
              all_goals (with_reducible rfl)
            try simp only [Act.put, List.setIfInBounds_toArray, List.set_cons_zero, List.set_cons_succ]
            refine wpAnyH_ready (rs := [11]) (by kernel_rfl) (by simp) (AllReadyH.cons (o := { dst := none, op := Go.Op.store 83 (Go.Operand.tmp 18) (Go.Operand.tmp 123), type := 0, pos := "exact.go:5178", after := #[{ on := 10, ground := Go.Ground.data }, { on := 8, ground := Go.Ground.data }, { on := 6, ground := Go.Ground.chain }, { on := 0, ground := Go.Ground.phase }, { on := 1, ground := Go.Ground.phase }, { on := 2, ground := Go.Ground.phase }, { on := 3, ground := Go.Ground.phase }, { on := 4, ground := Go.Ground.phase }, { on := 5, ground := Go.Ground.phase }, { on := 6, ground := Go.Ground.phase }, { on := 7, ground := Go.Ground.phase }, { on := 8, ground := Go.Ground.phase }, { on := 9, ground := Go.Ground.textOnly Go.Departure.lateStores }, { on := 10, ground := Go.Ground.phase }], guard := none }) rfl (fun K hK => ?_) AllReadyH.nil)
            obtain ⟨x0, x1⟩ := HZh_w62.out.two
            have u0 := HZh_w62.out.frozen 0
            have u1 := HZh_w62.out.frozen 1
            go_simp
            obtain ⟨w63, hY⟩ : ∃ Y, Y = (w62.setCell ⟨w57.heap.size, 0, none⟩ (.slice xah vl0.locs.length xch)).setCell ⟨w57.heap.size, 1, none⟩ (.slice yah vl0.vals.length ych) := ⟨_, rfl⟩
            rw [← hY]
            have hk : Kept w57.heap.size (w57.heap.size + 1) w62 w63 := by rw [hY]; exact ((Kept.refl w57.heap.size (w57.heap.size + 1) w62).trans (Kept.set_ w57.heap.size (w57.heap.size + 1) _ (Nat.le_refl _) (Nat.lt_succ_self _) 0 _)).trans (Kept.set_ w57.heap.size (w57.heap.size + 1) _ (Nat.le_refl _) (Nat.lt_succ_self _) 1 _)
            have hnew : Row w63 w57.heap.size 83 #[(.slice xah vl0.locs.length xch), (.slice yah vl0.vals.length ych)] := by rw [hY]; exact ((HZh_w62.out.set_ 0 (.slice xah vl0.locs.length xch)).set_ 1 (.slice yah vl0.vals.length ych))
            have HB_w63 : Hid (Below W1.heap.size W1 w63) := HB_w62.out.trans (hk.below (by omega) (by omega))
            have hz_w63 : w62.heap.size ≤ w63.heap.size := hk.size
            have HBX_w63 : Hid (Below w53.heap.size w53 w63) := HBX_w62.out.trans (hk.below (by omega) (by omega))
            have HGp_w63 := Lib.hid (HGp_w62.out.kept hk (by omega) (by omega))
            have HZp_w63 := Lib.hid (HZp_w62.out.kept hk (by omega))
            have HQ0_w63 := Lib.hid (HQ0_w62.out.kept hk (by omega))
            have HQ2_w63 := Lib.hid (HQ2_w62.out.kept hk (by omega))
            have HZx_w63 := Lib.hid (HZx_w62.out.kept hk (by omega))
            have HGm_w63 := Lib.hid (HGm_w62.out.kept hk (by omega) (by omega))
            have HSh0_w63 : Hid (Lay.gra.sep w63 w54.heap.size w55.heap.size e0 (fun j => (#[.slice h0xa h0xl h0xc, .slice h0ya h0yl h0yc] : Array Value).getD j undef)) := Lay.gra.sep_keep (fun q b1 b2 => hk.other q (by omega) (by omega)) HSh0_w62.out
            have HSh1_w63 : Hid (Lay.exs.sep w63 w55.heap.size w56.heap.size e1 (fun j => (#[.slice h1xa h1xl h1xc] : Array Value).getD j undef)) := Lay.exs.sep_keep (fun q b1 b2 => hk.other q (by omega) (by omega)) HSh1_w62.out
            have HSh2_w63 : Hid (Tc.trc.sep w63 w56.heap.size w57.heap.size e2 (fun j => (#[.slice h2xa h2xl h2xc, .slice h2ya h2yl h2yc] : Array Value).getD j undef)) := Tc.trc.sep_keep (fun q b1 b2 => hk.other q (by omega) (by omega)) HSh2_w62.out
            have HGh_w63 := Lib.hid (HGh_w62.out.kept hk (by omega) (by omega))
            have HZh_w63 := Lib.hid hnew
            clear hk hnew hY HZh_w62 x0 u0 x1 u1 HGp_w62 HZp_w62 HQ0_w62 HQ2_w62 HZx_w62 HGm_w62 HSh0_w62 HSh1_w62 HSh2_w62 HGh_w62
            refine hK.out _ _ ?_ (fun hHeld => ?_)
            · exact HKS.out _ HB_w63.out
            clear hK K
            try simp only [Act.put, List.setIfInBounds_toArray, List.set_cons_zero, List.set_cons_succ]
            refine wpAnyH_take (i := 12) (oi := { dst := some 19, op := Go.Op.assign (Go.Operand.tmp 124), type := 4, pos := "exact.go:5178", after := #[{ on := 9, ground := Go.Ground.data }, { on := 11, ground := Go.Ground.chain }, { on := 0, ground := Go.Ground.phase }, { on := 1, ground := Go.Ground.phase }, { on := 2, ground := Go.Ground.phase }, { on := 3, ground := Go.Ground.phase }, { on := 4, ground := Go.Ground.phase }, { on := 5, ground := Go.Ground.phase }, { on := 6, ground := Go.Ground.phase }, { on := 7, ground := Go.Ground.phase }, { on := 8, ground := Go.Ground.phase }, { on := 9, ground := Go.Ground.phase }, { on := 10, ground := Go.Ground.phase }, { on := 11, ground := Go.Ground.phase }], guard := none }) (v := ?_) rfl (by kernel_rfl) (by kernel_rfl) (by kernel_rfl) (fun _ _ _ h => h) (Or.inl ⟨by rfl, ?_⟩) (by assumption) ?_
            rotate_left
            · intro w hSw
              try dsimp only at hSw
              go_simp
              all_goals (with_reducible rfl)
            try simp only [Act.put, List.setIfInBounds_toArray, List.set_cons_zero, List.set_cons_succ]
            refine wpAnyH_done (by kernel_rfl) ?_ _
            go_wp2_with fail
            go_meet
            exact ⟨_, xah, xch, yah, ych, rfl, rfl, HZh_w63, Lib.hid (HGh_w63.out.more (by omega) (by omega)), (by omega), HBX_w63⟩
        · skip
          go_simp
          obtain ⟨w64, hY⟩ : ∃ Y, Y = w56.alloc (.cells #[.slice none 0 0, .slice none 0 0] 83) := ⟨_, rfl⟩
          rw [← hY]
          have hb : Below w56.heap.size w56 w64 := by rw [hY]; exact (Below.refl _ _).alloc (Nat.le_refl _) _
          have hnew : Row w64 w56.heap.size 83 #[.slice none 0 0, .slice none 0 0] := by rw [hY]; exact Row.new _ _ _
          have hs_w64 : w56.heap.size < w64.heap.size := hnew.lt
          have HB_w64 : Hid (Below W1.heap.size W1 w64) := HB_w56.out.trans (hb.mono HB_w56.out.size)
          have hz_w64 : w56.heap.size ≤ w64.heap.size := hb.size
          have HBX_w64 : Hid (Below w53.heap.size w53 w64) := HBX_w56.out.trans (hb.mono HBX_w56.out.size)
          have HGp_w64 := Lib.hid (HGp_w56.out.under hb (by omega))
          have HZp_w64 := Lib.hid (HZp_w56.out.under hb HZp_w56.out.lt)
          have HQ0_w64 := Lib.hid (HQ0_w56.out.under hb HQ0_w56.out.lt)
          have HQ2_w64 := Lib.hid (HQ2_w56.out.under hb HQ2_w56.out.lt)
          have HZx_w64 := Lib.hid (HZx_w56.out.under hb HZx_w56.out.lt)
          have HGm_w64 := Lib.hid (HGm_w56.out.under hb (by omega))
          have HSh0_w64 := Lib.hid (Lay.gra.sunder HSh0_w56.out hb (by omega))
          have HSh1_w64 := Lib.hid (Lay.exs.sunder HSh1_w56.out hb (by omega))
          have HZh_w64 := Lib.hid hnew
          clear hnew hb hY HGp_w56 HZp_w56 HQ0_w56 HQ2_w56 HZx_w56 HGm_w56 HSh0_w56 HSh1_w56
          refine hK.out _ _ ?_ (fun hHeld => ?_)
          · exact HKS.out _ HB_w64.out
          clear hK K
          try simp only [Act.put, List.setIfInBounds_toArray, List.set_cons_zero, List.set_cons_succ]
          refine wpAnyH_ready (rs := [5]) (by kernel_rfl) (by simp) (AllReadyH.cons (o := { dst := some 121, op := Go.Op.call { callee := Go.Callee.value (Go.Operand.func 42), args := #[Go.Operand.tmp 120], argTypes := #[81] }, type := 86, pos := "exact.go:5178", after := #[{ on := 4, ground := Go.Ground.data }, { on := 3, ground := Go.Ground.chain }], guard := none }) rfl (fun K hK => ?_) AllReadyH.nil)
          go_simp
          refine (Tc.toTr_any e2 C2 _ (Tc.trc.later HL2.out HB_w64.out HB_w64.out.size) HD2.out).mono ?_
          rintro e' w65 ⟨h2xa, h2xl, h2xc, h2ya, h2yl, h2yc, rfl, hs, hb⟩
          have HB_w65 : Hid (Below W1.heap.size W1 w65) := HB_w64.out.trans (hb.mono HB_w64.out.size)
          have hz_w65 : w64.heap.size ≤ w65.heap.size := hb.size
          have HBX_w65 : Hid (Below w53.heap.size w53 w65) := HBX_w64.out.trans (hb.mono HBX_w64.out.size)
          have HGp_w65 := Lib.hid (HGp_w64.out.under hb (by omega))
          have HZp_w65 := Lib.hid (HZp_w64.out.under hb HZp_w64.out.lt)
          have HQ0_w65 := Lib.hid (HQ0_w64.out.under hb HQ0_w64.out.lt)
          have HQ2_w65 := Lib.hid (HQ2_w64.out.under hb HQ2_w64.out.lt)
          have HZx_w65 := Lib.hid (HZx_w64.out.under hb HZx_w64.out.lt)
          have HGm_w65 := Lib.hid (HGm_w64.out.under hb (by omega))
          have HSh0_w65 := Lib.hid (Lay.gra.sunder HSh0_w64.out hb (by omega))
          have HSh1_w65 := Lib.hid (Lay.exs.sunder HSh1_w64.out hb (by omega))
          have HZh_w65 := Lib.hid (HZh_w64.out.under hb HZh_w64.out.lt)
          have HSh2_w65 : Hid (Tc.trc.sep w65 w64.heap.size w65.heap.size e2 (fun j => (#[.slice h2xa h2xl h2xc, .slice h2ya h2yl h2yc] : Array Value).getD j undef)) := hs
          clear hs hb HGp_w64 HZp_w64 HQ0_w64 HQ2_w64 HZx_w64 HGm_w64 HSh0_w64 HSh1_w64 HZh_w64
          try go_wp2_with fail
          refine hK.out _ _ ?_ (fun hHeld => ?_)
          · exact HKS.out _ HB_w65.out
          clear hK K
          try simp only [Act.put, List.setIfInBounds_toArray, List.set_cons_zero, List.set_cons_succ]
          refine wpAnyH_ready (rs := [6]) (by kernel_rfl) (by simp) (AllReadyH.cons (o := { dst := some 122, op := Go.Op.call { callee := Go.Callee.value (Go.Operand.func 43), args := #[Go.Operand.tmp 117, Go.Operand.tmp 119, Go.Operand.tmp 121], argTypes := #[69, 71, 86] }, type := 84, pos := "exact.go:5178", after := #[{ on := 1, ground := Go.Ground.data }, { on := 3, ground := Go.Ground.data }, { on := 5, ground := Go.Ground.data }, { on := 5, ground := Go.Ground.chain }], guard := none }) rfl (fun K hK => ?_) AllReadyH.nil)
          go_simp
          refine (implTw_any e0 (fun j => (#[.slice h0xa h0xl h0xc, .slice h0ya h0yl h0yc] : Array Value).getD j undef) e1 (fun j => (#[.slice h1xa h1xl h1xc] : Array Value).getD j undef) e2 (fun j => (#[.slice h2xa h2xl h2xc, .slice h2ya h2yl h2yc] : Array Value).getD j undef) _ (Lay.gra.more (Lay.gra.sep_lies HSh0_w65.out) (by omega)) (Lay.exs.more (Lay.exs.sep_lies HSh1_w65.out) (by omega)) (Tc.trc.more (Tc.trc.sep_lies HSh2_w65.out) (by omega)) HD0.out HD1.out HD2.out).mono ?_
          rintro e' w66 ⟨Xh, Yh, rfl, hS, hb⟩
          rw [← HV0.out] at hS
          rw [← HV1.out]
          obtain ⟨xah, xch, yah, ych, rfl, rfl⟩ := hS.form
          have HB_w66 : Hid (Below W1.heap.size W1 w66) := HB_w65.out.trans (hb.mono HB_w65.out.size)
          have hz_w66 : w65.heap.size ≤ w66.heap.size := hb.size
          have HBX_w66 : Hid (Below w53.heap.size w53 w66) := HBX_w65.out.trans (hb.mono HBX_w65.out.size)
          have HGp_w66 := Lib.hid (HGp_w65.out.under hb (by omega))
          have HZp_w66 := Lib.hid (HZp_w65.out.under hb HZp_w65.out.lt)
          have HQ0_w66 := Lib.hid (HQ0_w65.out.under hb HQ0_w65.out.lt)
          have HQ2_w66 := Lib.hid (HQ2_w65.out.under hb HQ2_w65.out.lt)
          have HZx_w66 := Lib.hid (HZx_w65.out.under hb HZx_w65.out.lt)
          have HGm_w66 := Lib.hid (HGm_w65.out.under hb (by omega))
          have HSh0_w66 := Lib.hid (Lay.gra.sunder HSh0_w65.out hb (by omega))
          have HSh1_w66 := Lib.hid (Lay.exs.sunder HSh1_w65.out hb (by omega))
          have HZh_w66 := Lib.hid (HZh_w65.out.under hb HZh_w65.out.lt)
          have HSh2_w66 := Lib.hid (Tc.trc.sunder HSh2_w65.out hb (by omega))
          have HGh_w66 : Hid (StR w66 w65.heap.size w66.heap.size vl0 (.slice xah vl0.locs.length xch) (.slice yah vl0.vals.length ych)) := hS
          clear hS hb HGp_w65 HZp_w65 HQ0_w65 HQ2_w65 HZx_w65 HGm_w65 HSh0_w65 HSh1_w65 HZh_w65 HSh2_w65
          try go_wp2_with fail
          refine hK.out _ _ ?_ (fun hHeld => ?_)
          · exact HKS.out _ HB_w66.out
          clear hK K
          try simp only [Act.put, List.setIfInBounds_toArray, List.set_cons_zero, List.set_cons_succ]
          refine wpAnyH_take (i := 7) (oi := { dst := some 115, op := Go.Op.move (Go.Operand.tmp 122), type := 84, pos := "exact.go:5178", after := #[{ on := 6, ground := Go.Ground.data }], guard := none }) (v := ?_) rfl (by kernel_rfl) (by kernel_rfl) (by kernel_rfl) (fun _ _ _ h => h) (Or.inl ⟨by rfl, ?_⟩) (by assumption) ?_
          rotate_left
          · intro w hSw
            try dsimp only at hSw
            go_simp
            all_goals (with_reducible rfl)
          try simp only [Act.put, List.setIfInBounds_toArray, List.set_cons_zero, List.set_cons_succ]
          refine wpAnyH_take (i := 8) (oi := { dst := some 123, op := Go.Op.extract (Go.Operand.tmp 115) 0, type := 83, pos := "exact.go:5178", after := #[{ on := 7, ground := Go.Ground.data }], guard := none }) (v := ?_) rfl (by kernel_rfl) (by kernel_rfl) (by kernel_rfl) (fun _ _ _ h => h) (Or.inl ⟨by rfl, ?_⟩) (by assumption) ?_
          rotate_left
          · intro w hSw
            try dsimp only at hSw
            go_simp
            all_goals (with_reducible rfl)
          try simp only [Act.put, List.setIfInBounds_toArray, List.set_cons_zero, List.set_cons_succ]
          refine wpAnyH_take (i := 9) (oi := { dst := some 124, op := Go.Op.extract (Go.Operand.tmp 115) 1, type := 4, pos := "exact.go:5178", after := #[{ on := 7, ground := Go.Ground.data }, { on := 11, ground := Go.Ground.gcOnly Go.Departure.lateStores }], guard := none }) (v := ?_) rfl (by kernel_rfl) (by kernel_rfl) (by kernel_rfl) (fun _ _ _ h => h) (Or.inl ⟨by rfl, ?_⟩) (by assumption) ?_
          rotate_left
          · intro w hSw
            try dsimp only at hSw
            go_simp
            all_goals (with_reducible rfl)
          try simp only [Act.put, List.setIfInBounds_toArray, List.set_cons_zero, List.set_cons_succ]
          refine wpAnyH_ready (rs := [11]) (by kernel_rfl) (by simp) (AllReadyH.cons (o := { dst := none, op := Go.Op.store 83 (Go.Operand.tmp 18) (Go.Operand.tmp 123), type := 0, pos := "exact.go:5178", after := #[{ on := 10, ground := Go.Ground.data }, { on := 8, ground := Go.Ground.data }, { on := 6, ground := Go.Ground.chain }, { on := 0, ground := Go.Ground.phase }, { on := 1, ground := Go.Ground.phase }, { on := 2, ground := Go.Ground.phase }, { on := 3, ground := Go.Ground.phase }, { on := 4, ground := Go.Ground.phase }, { on := 5, ground := Go.Ground.phase }, { on := 6, ground := Go.Ground.phase }, { on := 7, ground := Go.Ground.phase }, { on := 8, ground := Go.Ground.phase }, { on := 9, ground := Go.Ground.textOnly Go.Departure.lateStores }, { on := 10, ground := Go.Ground.phase }], guard := none }) rfl (fun K hK => ?_) AllReadyH.nil)
          obtain ⟨x0, x1⟩ := HZh_w66.out.two
          have u0 := HZh_w66.out.frozen 0
          have u1 := HZh_w66.out.frozen 1
          go_simp
          obtain ⟨w67, hY⟩ : ∃ Y, Y = (w66.setCell ⟨w56.heap.size, 0, none⟩ (.slice xah vl0.locs.length xch)).setCell ⟨w56.heap.size, 1, none⟩ (.slice yah vl0.vals.length ych) := ⟨_, rfl⟩
          rw [← hY]
          have hk : Kept w56.heap.size (w56.heap.size + 1) w66 w67 := by rw [hY]; exact ((Kept.refl w56.heap.size (w56.heap.size + 1) w66).trans (Kept.set_ w56.heap.size (w56.heap.size + 1) _ (Nat.le_refl _) (Nat.lt_succ_self _) 0 _)).trans (Kept.set_ w56.heap.size (w56.heap.size + 1) _ (Nat.le_refl _) (Nat.lt_succ_self _) 1 _)
          have hnew : Row w67 w56.heap.size 83 #[(.slice xah vl0.locs.length xch), (.slice yah vl0.vals.length ych)] := by rw [hY]; exact ((HZh_w66.out.set_ 0 (.slice xah vl0.locs.length xch)).set_ 1 (.slice yah vl0.vals.length ych))
          have HB_w67 : Hid (Below W1.heap.size W1 w67) := HB_w66.out.trans (hk.below (by omega) (by omega))
          have hz_w67 : w66.heap.size ≤ w67.heap.size := hk.size
          have HBX_w67 : Hid (Below w53.heap.size w53 w67) := HBX_w66.out.trans (hk.below (by omega) (by omega))
          have HGp_w67 := Lib.hid (HGp_w66.out.kept hk (by omega) (by omega))
          have HZp_w67 := Lib.hid (HZp_w66.out.kept hk (by omega))
          have HQ0_w67 := Lib.hid (HQ0_w66.out.kept hk (by omega))
          have HQ2_w67 := Lib.hid (HQ2_w66.out.kept hk (by omega))
          have HZx_w67 := Lib.hid (HZx_w66.out.kept hk (by omega))
          have HGm_w67 := Lib.hid (HGm_w66.out.kept hk (by omega) (by omega))
          have HSh0_w67 : Hid (Lay.gra.sep w67 w54.heap.size w55.heap.size e0 (fun j => (#[.slice h0xa h0xl h0xc, .slice h0ya h0yl h0yc] : Array Value).getD j undef)) := Lay.gra.sep_keep (fun q b1 b2 => hk.other q (by omega) (by omega)) HSh0_w66.out
          have HSh1_w67 : Hid (Lay.exs.sep w67 w55.heap.size w56.heap.size e1 (fun j => (#[.slice h1xa h1xl h1xc] : Array Value).getD j undef)) := Lay.exs.sep_keep (fun q b1 b2 => hk.other q (by omega) (by omega)) HSh1_w66.out
          have HSh2_w67 : Hid (Tc.trc.sep w67 w64.heap.size w65.heap.size e2 (fun j => (#[.slice h2xa h2xl h2xc, .slice h2ya h2yl h2yc] : Array Value).getD j undef)) := Tc.trc.sep_keep (fun q b1 b2 => hk.other q (by omega) (by omega)) HSh2_w66.out
          have HGh_w67 := Lib.hid (HGh_w66.out.kept hk (by omega) (by omega))
          have HZh_w67 := Lib.hid hnew
          clear hk hnew hY HZh_w66 x0 u0 x1 u1 HGp_w66 HZp_w66 HQ0_w66 HQ2_w66 HZx_w66 HGm_w66 HSh0_w66 HSh1_w66 HSh2_w66 HGh_w66
          refine hK.out _ _ ?_ (fun hHeld => ?_)
          · exact HKS.out _ HB_w67.out
          clear hK K
          try simp only [Act.put, List.setIfInBounds_toArray, List.set_cons_zero, List.set_cons_succ]
          refine wpAnyH_take (i := 12) (oi := { dst := some 19, op := Go.Op.assign (Go.Operand.tmp 124), type := 4, pos := "exact.go:5178", after := #[{ on := 9, ground := Go.Ground.data }, { on := 11, ground := Go.Ground.chain }, { on := 0, ground := Go.Ground.phase }, { on := 1, ground := Go.Ground.phase }, { on := 2, ground := Go.Ground.phase }, { on := 3, ground := Go.Ground.phase }, { on := 4, ground := Go.Ground.phase }, { on := 5, ground := Go.Ground.phase }, { on := 6, ground := Go.Ground.phase }, { on := 7, ground := Go.Ground.phase }, { on := 8, ground := Go.Ground.phase }, { on := 9, ground := Go.Ground.phase }, { on := 10, ground := Go.Ground.phase }, { on := 11, ground := Go.Ground.phase }], guard := none }) (v := ?_) rfl (by kernel_rfl) (by kernel_rfl) (by kernel_rfl) (fun _ _ _ h => h) (Or.inl ⟨by rfl, ?_⟩) (by assumption) ?_
          rotate_left
          · intro w hSw
            try dsimp only at hSw
            go_simp
            all_goals (with_reducible rfl)
          try simp only [Act.put, List.setIfInBounds_toArray, List.set_cons_zero, List.set_cons_succ]
          refine wpAnyH_done (by kernel_rfl) ?_ _
          go_wp2_with fail
          go_meet
          exact ⟨_, xah, xch, yah, ych, rfl, rfl, HZh_w67, Lib.hid (HGh_w67.out.more (by omega) (by omega)), (by omega), HBX_w67⟩
      · skip
        go_simp
        obtain ⟨w68, hY⟩ : ∃ Y, Y = w55.alloc (.cells #[.slice none 0 0, .slice none 0 0] 83) := ⟨_, rfl⟩
        rw [← hY]
        have hb : Below w55.heap.size w55 w68 := by rw [hY]; exact (Below.refl _ _).alloc (Nat.le_refl _) _
        have hnew : Row w68 w55.heap.size 83 #[.slice none 0 0, .slice none 0 0] := by rw [hY]; exact Row.new _ _ _
        have hs_w68 : w55.heap.size < w68.heap.size := hnew.lt
        have HB_w68 : Hid (Below W1.heap.size W1 w68) := HB_w55.out.trans (hb.mono HB_w55.out.size)
        have hz_w68 : w55.heap.size ≤ w68.heap.size := hb.size
        have HBX_w68 : Hid (Below w53.heap.size w53 w68) := HBX_w55.out.trans (hb.mono HBX_w55.out.size)
        have HGp_w68 := Lib.hid (HGp_w55.out.under hb (by omega))
        have HZp_w68 := Lib.hid (HZp_w55.out.under hb HZp_w55.out.lt)
        have HQ0_w68 := Lib.hid (HQ0_w55.out.under hb HQ0_w55.out.lt)
        have HQ2_w68 := Lib.hid (HQ2_w55.out.under hb HQ2_w55.out.lt)
        have HZx_w68 := Lib.hid (HZx_w55.out.under hb HZx_w55.out.lt)
        have HGm_w68 := Lib.hid (HGm_w55.out.under hb (by omega))
        have HSh0_w68 := Lib.hid (Lay.gra.sunder HSh0_w55.out hb (by omega))
        have HZh_w68 := Lib.hid hnew
        clear hnew hb hY HGp_w55 HZp_w55 HQ0_w55 HQ2_w55 HZx_w55 HGm_w55 HSh0_w55
        refine hK.out _ _ ?_ (fun hHeld => ?_)
        · exact HKS.out _ HB_w68.out
        clear hK K
        try simp only [Act.put, List.setIfInBounds_toArray, List.set_cons_zero, List.set_cons_succ]
        refine wpAnyH_ready (rs := [3]) (by kernel_rfl) (by simp) (AllReadyH.cons (o := { dst := some 119, op := Go.Op.call { callee := Go.Callee.value (Go.Operand.func 31), args := #[Go.Operand.tmp 118], argTypes := #[62] }, type := 71, pos := "exact.go:5178", after := #[{ on := 2, ground := Go.Ground.data }, { on := 1, ground := Go.Ground.chain }], guard := none }) rfl (fun K hK => ?_) AllReadyH.nil)
        go_simp
        refine (toExs_any e1 C1 _ (Lay.exs.later HL1.out HB_w68.out HB_w68.out.size) HD1.out).mono ?_
        rintro e' w69 ⟨h1xa, h1xl, h1xc, rfl, hs, hb⟩
        have HB_w69 : Hid (Below W1.heap.size W1 w69) := HB_w68.out.trans (hb.mono HB_w68.out.size)
        have hz_w69 : w68.heap.size ≤ w69.heap.size := hb.size
        have HBX_w69 : Hid (Below w53.heap.size w53 w69) := HBX_w68.out.trans (hb.mono HBX_w68.out.size)
        have HGp_w69 := Lib.hid (HGp_w68.out.under hb (by omega))
        have HZp_w69 := Lib.hid (HZp_w68.out.under hb HZp_w68.out.lt)
        have HQ0_w69 := Lib.hid (HQ0_w68.out.under hb HQ0_w68.out.lt)
        have HQ2_w69 := Lib.hid (HQ2_w68.out.under hb HQ2_w68.out.lt)
        have HZx_w69 := Lib.hid (HZx_w68.out.under hb HZx_w68.out.lt)
        have HGm_w69 := Lib.hid (HGm_w68.out.under hb (by omega))
        have HSh0_w69 := Lib.hid (Lay.gra.sunder HSh0_w68.out hb (by omega))
        have HZh_w69 := Lib.hid (HZh_w68.out.under hb HZh_w68.out.lt)
        have HSh1_w69 : Hid (Lay.exs.sep w69 w68.heap.size w69.heap.size e1 (fun j => (#[.slice h1xa h1xl h1xc] : Array Value).getD j undef)) := hs
        clear hs hb HGp_w68 HZp_w68 HQ0_w68 HQ2_w68 HZx_w68 HGm_w68 HSh0_w68 HZh_w68
        try go_wp2_with fail
        refine hK.out _ _ ?_ (fun hHeld => ?_)
        · exact HKS.out _ HB_w69.out
        clear hK K
        try simp only [Act.put, List.setIfInBounds_toArray, List.set_cons_zero, List.set_cons_succ]
        refine wpAnyH_ready (rs := [5]) (by kernel_rfl) (by simp) (AllReadyH.cons (o := { dst := some 121, op := Go.Op.call { callee := Go.Callee.value (Go.Operand.func 42), args := #[Go.Operand.tmp 120], argTypes := #[81] }, type := 86, pos := "exact.go:5178", after := #[{ on := 4, ground := Go.Ground.data }, { on := 3, ground := Go.Ground.chain }], guard := none }) rfl (fun K hK => ?_) AllReadyH.nil)
        go_simp
        refine (Tc.toTr_any e2 C2 _ (Tc.trc.later HL2.out HB_w69.out HB_w69.out.size) HD2.out).mono ?_
        rintro e' w70 ⟨h2xa, h2xl, h2xc, h2ya, h2yl, h2yc, rfl, hs, hb⟩
        have HB_w70 : Hid (Below W1.heap.size W1 w70) := HB_w69.out.trans (hb.mono HB_w69.out.size)
        have hz_w70 : w69.heap.size ≤ w70.heap.size := hb.size
        have HBX_w70 : Hid (Below w53.heap.size w53 w70) := HBX_w69.out.trans (hb.mono HBX_w69.out.size)
        have HGp_w70 := Lib.hid (HGp_w69.out.under hb (by omega))
        have HZp_w70 := Lib.hid (HZp_w69.out.under hb HZp_w69.out.lt)
        have HQ0_w70 := Lib.hid (HQ0_w69.out.under hb HQ0_w69.out.lt)
        have HQ2_w70 := Lib.hid (HQ2_w69.out.under hb HQ2_w69.out.lt)
        have HZx_w70 := Lib.hid (HZx_w69.out.under hb HZx_w69.out.lt)
        have HGm_w70 := Lib.hid (HGm_w69.out.under hb (by omega))
        have HSh0_w70 := Lib.hid (Lay.gra.sunder HSh0_w69.out hb (by omega))
        have HZh_w70 := Lib.hid (HZh_w69.out.under hb HZh_w69.out.lt)
        have HSh1_w70 := Lib.hid (Lay.exs.sunder HSh1_w69.out hb (by omega))
        have HSh2_w70 : Hid (Tc.trc.sep w70 w69.heap.size w70.heap.size e2 (fun j => (#[.slice h2xa h2xl h2xc, .slice h2ya h2yl h2yc] : Array Value).getD j undef)) := hs
        clear hs hb HGp_w69 HZp_w69 HQ0_w69 HQ2_w69 HZx_w69 HGm_w69 HSh0_w69 HZh_w69 HSh1_w69
        try go_wp2_with fail
        refine hK.out _ _ ?_ (fun hHeld => ?_)
        · exact HKS.out _ HB_w70.out
        clear hK K
        try simp only [Act.put, List.setIfInBounds_toArray, List.set_cons_zero, List.set_cons_succ]
        refine wpAnyH_ready (rs := [6]) (by kernel_rfl) (by simp) (AllReadyH.cons (o := { dst := some 122, op := Go.Op.call { callee := Go.Callee.value (Go.Operand.func 43), args := #[Go.Operand.tmp 117, Go.Operand.tmp 119, Go.Operand.tmp 121], argTypes := #[69, 71, 86] }, type := 84, pos := "exact.go:5178", after := #[{ on := 1, ground := Go.Ground.data }, { on := 3, ground := Go.Ground.data }, { on := 5, ground := Go.Ground.data }, { on := 5, ground := Go.Ground.chain }], guard := none }) rfl (fun K hK => ?_) AllReadyH.nil)
        go_simp
        refine (implTw_any e0 (fun j => (#[.slice h0xa h0xl h0xc, .slice h0ya h0yl h0yc] : Array Value).getD j undef) e1 (fun j => (#[.slice h1xa h1xl h1xc] : Array Value).getD j undef) e2 (fun j => (#[.slice h2xa h2xl h2xc, .slice h2ya h2yl h2yc] : Array Value).getD j undef) _ (Lay.gra.more (Lay.gra.sep_lies HSh0_w70.out) (by omega)) (Lay.exs.more (Lay.exs.sep_lies HSh1_w70.out) (by omega)) (Tc.trc.more (Tc.trc.sep_lies HSh2_w70.out) (by omega)) HD0.out HD1.out HD2.out).mono ?_
        rintro e' w71 ⟨Xh, Yh, rfl, hS, hb⟩
        rw [← HV0.out] at hS
        rw [← HV1.out]
        obtain ⟨xah, xch, yah, ych, rfl, rfl⟩ := hS.form
        have HB_w71 : Hid (Below W1.heap.size W1 w71) := HB_w70.out.trans (hb.mono HB_w70.out.size)
        have hz_w71 : w70.heap.size ≤ w71.heap.size := hb.size
        have HBX_w71 : Hid (Below w53.heap.size w53 w71) := HBX_w70.out.trans (hb.mono HBX_w70.out.size)
        have HGp_w71 := Lib.hid (HGp_w70.out.under hb (by omega))
        have HZp_w71 := Lib.hid (HZp_w70.out.under hb HZp_w70.out.lt)
        have HQ0_w71 := Lib.hid (HQ0_w70.out.under hb HQ0_w70.out.lt)
        have HQ2_w71 := Lib.hid (HQ2_w70.out.under hb HQ2_w70.out.lt)
        have HZx_w71 := Lib.hid (HZx_w70.out.under hb HZx_w70.out.lt)
        have HGm_w71 := Lib.hid (HGm_w70.out.under hb (by omega))
        have HSh0_w71 := Lib.hid (Lay.gra.sunder HSh0_w70.out hb (by omega))
        have HZh_w71 := Lib.hid (HZh_w70.out.under hb HZh_w70.out.lt)
        have HSh1_w71 := Lib.hid (Lay.exs.sunder HSh1_w70.out hb (by omega))
        have HSh2_w71 := Lib.hid (Tc.trc.sunder HSh2_w70.out hb (by omega))
        have HGh_w71 : Hid (StR w71 w70.heap.size w71.heap.size vl0 (.slice xah vl0.locs.length xch) (.slice yah vl0.vals.length ych)) := hS
        clear hS hb HGp_w70 HZp_w70 HQ0_w70 HQ2_w70 HZx_w70 HGm_w70 HSh0_w70 HZh_w70 HSh1_w70 HSh2_w70
        try go_wp2_with fail
        refine hK.out _ _ ?_ (fun hHeld => ?_)
        · exact HKS.out _ HB_w71.out
        clear hK K
        try simp only [Act.put, List.setIfInBounds_toArray, List.set_cons_zero, List.set_cons_succ]
        refine wpAnyH_take (i := 7) (oi := { dst := some 115, op := Go.Op.move (Go.Operand.tmp 122), type := 84, pos := "exact.go:5178", after := #[{ on := 6, ground := Go.Ground.data }], guard := none }) (v := ?_) rfl (by kernel_rfl) (by kernel_rfl) (by kernel_rfl) (fun _ _ _ h => h) (Or.inl ⟨by rfl, ?_⟩) (by assumption) ?_
        rotate_left
        · intro w hSw
          try dsimp only at hSw
          go_simp
          all_goals (with_reducible rfl)
        try simp only [Act.put, List.setIfInBounds_toArray, List.set_cons_zero, List.set_cons_succ]
        refine wpAnyH_take (i := 8) (oi := { dst := some 123, op := Go.Op.extract (Go.Operand.tmp 115) 0, type := 83, pos := "exact.go:5178", after := #[{ on := 7, ground := Go.Ground.data }], guard := none }) (v := ?_) rfl (by kernel_rfl) (by kernel_rfl) (by kernel_rfl) (fun _ _ _ h => h) (Or.inl ⟨by rfl, ?_⟩) (by assumption) ?_
        rotate_left
        · intro w hSw
          try dsimp only at hSw
          go_simp
          all_goals (with_reducible rfl)
        try simp only [Act.put, List.setIfInBounds_toArray, List.set_cons_zero, List.set_cons_succ]
        refine wpAnyH_take (i := 9) (oi := { dst := some 124, op := Go.Op.extract (Go.Operand.tmp 115) 1, type := 4, pos := "exact.go:5178", after := #[{ on := 7, ground := Go.Ground.data }, { on := 11, ground := Go.Ground.gcOnly Go.Departure.lateStores }], guard := none }) (v := ?_) rfl (by kernel_rfl) (by kernel_rfl) (by kernel_rfl) (fun _ _ _ h => h) (Or.inl ⟨by rfl, ?_⟩) (by assumption) ?_
        rotate_left
        · intro w hSw
          try dsimp only at hSw
          go_simp
          all_goals (with_reducible rfl)
        try simp only [Act.put, List.setIfInBounds_toArray, List.set_cons_zero, List.set_cons_succ]
        refine wpAnyH_ready (rs := [11]) (by kernel_rfl) (by simp) (AllReadyH.cons (o := { dst := none, op := Go.Op.store 83 (Go.Operand.tmp 18) (Go.Operand.tmp 123), type := 0, pos := "exact.go:5178", after := #[{ on := 10, ground := Go.Ground.data }, { on := 8, ground := Go.Ground.data }, { on := 6, ground := Go.Ground.chain }, { on := 0, ground := Go.Ground.phase }, { on := 1, ground := Go.Ground.phase }, { on := 2, ground := Go.Ground.phase }, { on := 3, ground := Go.Ground.phase }, { on := 4, ground := Go.Ground.phase }, { on := 5, ground := Go.Ground.phase }, { on := 6, ground := Go.Ground.phase }, { on := 7, ground := Go.Ground.phase }, { on := 8, ground := Go.Ground.phase }, { on := 9, ground := Go.Ground.textOnly Go.Departure.lateStores }, { on := 10, ground := Go.Ground.phase }], guard := none }) rfl (fun K hK => ?_) AllReadyH.nil)
        obtain ⟨x0, x1⟩ := HZh_w71.out.two
        have u0 := HZh_w71.out.frozen 0
        have u1 := HZh_w71.out.frozen 1
        go_simp
        obtain ⟨w72, hY⟩ : ∃ Y, Y = (w71.setCell ⟨w55.heap.size, 0, none⟩ (.slice xah vl0.locs.length xch)).setCell ⟨w55.heap.size, 1, none⟩ (.slice yah vl0.vals.length ych) := ⟨_, rfl⟩
        rw [← hY]
        have hk : Kept w55.heap.size (w55.heap.size + 1) w71 w72 := by rw [hY]; exact ((Kept.refl w55.heap.size (w55.heap.size + 1) w71).trans (Kept.set_ w55.heap.size (w55.heap.size + 1) _ (Nat.le_refl _) (Nat.lt_succ_self _) 0 _)).trans (Kept.set_ w55.heap.size (w55.heap.size + 1) _ (Nat.le_refl _) (Nat.lt_succ_self _) 1 _)
        have hnew : Row w72 w55.heap.size 83 #[(.slice xah vl0.locs.length xch), (.slice yah vl0.vals.length ych)] := by rw [hY]; exact ((HZh_w71.out.set_ 0 (.slice xah vl0.locs.length xch)).set_ 1 (.slice yah vl0.vals.length ych))
        have HB_w72 : Hid (Below W1.heap.size W1 w72) := HB_w71.out.trans (hk.below (by omega) (by omega))
        have hz_w72 : w71.heap.size ≤ w72.heap.size := hk.size
        have HBX_w72 : Hid (Below w53.heap.size w53 w72) := HBX_w71.out.trans (hk.below (by omega) (by omega))
        have HGp_w72 := Lib.hid (HGp_w71.out.kept hk (by omega) (by omega))
        have HZp_w72 := Lib.hid (HZp_w71.out.kept hk (by omega))
        have HQ0_w72 := Lib.hid (HQ0_w71.out.kept hk (by omega))
        have HQ2_w72 := Lib.hid (HQ2_w71.out.kept hk (by omega))
        have HZx_w72 := Lib.hid (HZx_w71.out.kept hk (by omega))
        have HGm_w72 := Lib.hid (HGm_w71.out.kept hk (by omega) (by omega))
        have HSh0_w72 : Hid (Lay.gra.sep w72 w54.heap.size w55.heap.size e0 (fun j => (#[.slice h0xa h0xl h0xc, .slice h0ya h0yl h0yc] : Array Value).getD j undef)) := Lay.gra.sep_keep (fun q b1 b2 => hk.other q (by omega) (by omega)) HSh0_w71.out
        have HSh1_w72 : Hid (Lay.exs.sep w72 w68.heap.size w69.heap.size e1 (fun j => (#[.slice h1xa h1xl h1xc] : Array Value).getD j undef)) := Lay.exs.sep_keep (fun q b1 b2 => hk.other q (by omega) (by omega)) HSh1_w71.out
        have HSh2_w72 : Hid (Tc.trc.sep w72 w69.heap.size w70.heap.size e2 (fun j => (#[.slice h2xa h2xl h2xc, .slice h2ya h2yl h2yc] : Array Value).getD j undef)) := Tc.trc.sep_keep (fun q b1 b2 => hk.other q (by omega) (by omega)) HSh2_w71.out
        have HGh_w72 := Lib.hid (HGh_w71.out.kept hk (by omega) (by omega))
        have HZh_w72 := Lib.hid hnew
        clear hk hnew hY HZh_w71 x0 u0 x1 u1 HGp_w71 HZp_w71 HQ0_w71 HQ2_w71 HZx_w71 HGm_w71 HSh0_w71 HSh1_w71 HSh2_w71 HGh_w71
        refine hK.out _ _ ?_ (fun hHeld => ?_)
        · exact HKS.out _ HB_w72.out
        clear hK K
        try simp only [Act.put, List.setIfInBounds_toArray, List.set_cons_zero, List.set_cons_succ]
        refine wpAnyH_take (i := 12) (oi := { dst := some 19, op := Go.Op.assign (Go.Operand.tmp 124), type := 4, pos := "exact.go:5178", after := #[{ on := 9, ground := Go.Ground.data }, { on := 11, ground := Go.Ground.chain }, { on := 0, ground := Go.Ground.phase }, { on := 1, ground := Go.Ground.phase }, { on := 2, ground := Go.Ground.phase }, { on := 3, ground := Go.Ground.phase }, { on := 4, ground := Go.Ground.phase }, { on := 5, ground := Go.Ground.phase }, { on := 6, ground := Go.Ground.phase }, { on := 7, ground := Go.Ground.phase }, { on := 8, ground := Go.Ground.phase }, { on := 9, ground := Go.Ground.phase }, { on := 10, ground := Go.Ground.phase }, { on := 11, ground := Go.Ground.phase }], guard := none }) (v := ?_) rfl (by kernel_rfl) (by kernel_rfl) (by kernel_rfl) (fun _ _ _ h => h) (Or.inl ⟨by rfl, ?_⟩) (by assumption) ?_
        rotate_left
        · intro w hSw
          try dsimp only at hSw
          go_simp
          all_goals (with_reducible rfl)
        try simp only [Act.put, List.setIfInBounds_toArray, List.set_cons_zero, List.set_cons_succ]
        refine wpAnyH_done (by kernel_rfl) ?_ _
        go_wp2_with fail
        go_meet
        exact ⟨_, xah, xch, yah, ych, rfl, rfl, HZh_w72, Lib.hid (HGh_w72.out.more (by omega) (by omega)), (by omega), HBX_w72⟩
    · skip
      go_simp
      obtain ⟨w73, hY⟩ : ∃ Y, Y = w54.alloc (.cells #[.slice none 0 0, .slice none 0 0] 83) := ⟨_, rfl⟩
      rw [← hY]
      have hb : Below w54.heap.size w54 w73 := by rw [hY]; exact (Below.refl _ _).alloc (Nat.le_refl _) _
      have hnew : Row w73 w54.heap.size 83 #[.slice none 0 0, .slice none 0 0] := by rw [hY]; exact Row.new _ _ _
      have hs_w73 : w54.heap.size < w73.heap.size := hnew.lt
      have HB_w73 : Hid (Below W1.heap.size W1 w73) := HB_w54.out.trans (hb.mono HB_w54.out.size)
      have hz_w73 : w54.heap.size ≤ w73.heap.size := hb.size
      have HBX_w73 : Hid (Below w53.heap.size w53 w73) := HBX_w54.out.trans (hb.mono HBX_w54.out.size)
      have HGp_w73 := Lib.hid (HGp_w54.out.under hb (by omega))
      have HZp_w73 := Lib.hid (HZp_w54.out.under hb HZp_w54.out.lt)
      have HQ0_w73 := Lib.hid (HQ0_w54.out.under hb HQ0_w54.out.lt)
      have HQ2_w73 := Lib.hid (HQ2_w54.out.under hb HQ2_w54.out.lt)
      have HZx_w73 := Lib.hid (HZx_w54.out.under hb HZx_w54.out.lt)
      have HGm_w73 := Lib.hid (HGm_w54.out.under hb (by omega))
      have HZh_w73 := Lib.hid hnew
      clear hnew hb hY HGp_w54 HZp_w54 HQ0_w54 HQ2_w54 HZx_w54 HGm_w54
      refine hK.out _ _ ?_ (fun hHeld => ?_)
      · exact HKS.out _ HB_w73.out
      clear hK K
      try simp only [Act.put, List.setIfInBounds_toArray, List.set_cons_zero, List.set_cons_succ]
      refine wpAnyH_ready (rs := [1]) (by kernel_rfl) (by simp) (AllReadyH.cons (o := { dst := some 117, op := Go.Op.call { callee := Go.Callee.value (Go.Operand.func 30), args := #[Go.Operand.tmp 116], argTypes := #[61] }, type := 69, pos := "exact.go:5178", after := #[{ on := 0, ground := Go.Ground.data }], guard := none }) rfl (fun K hK => ?_) AllReadyH.nil)
      go_simp
      refine (toGr_any e0 C0 _ (Lay.gra.later HL0.out HB_w73.out HB_w73.out.size) HD0.out).mono ?_
      rintro e' w74 ⟨h0xa, h0xl, h0xc, h0ya, h0yl, h0yc, rfl, hs, hb⟩
      have HB_w74 : Hid (Below W1.heap.size W1 w74) := HB_w73.out.trans (hb.mono HB_w73.out.size)
      have hz_w74 : w73.heap.size ≤ w74.heap.size := hb.size
      have HBX_w74 : Hid (Below w53.heap.size w53 w74) := HBX_w73.out.trans (hb.mono HBX_w73.out.size)
      have HGp_w74 := Lib.hid (HGp_w73.out.under hb (by omega))
      have HZp_w74 := Lib.hid (HZp_w73.out.under hb HZp_w73.out.lt)
      have HQ0_w74 := Lib.hid (HQ0_w73.out.under hb HQ0_w73.out.lt)
      have HQ2_w74 := Lib.hid (HQ2_w73.out.under hb HQ2_w73.out.lt)
      have HZx_w74 := Lib.hid (HZx_w73.out.under hb HZx_w73.out.lt)
      have HGm_w74 := Lib.hid (HGm_w73.out.under hb (by omega))
      have HZh_w74 := Lib.hid (HZh_w73.out.under hb HZh_w73.out.lt)
      have HSh0_w74 : Hid (Lay.gra.sep w74 w73.heap.size w74.heap.size e0 (fun j => (#[.slice h0xa h0xl h0xc, .slice h0ya h0yl h0yc] : Array Value).getD j undef)) := hs
      clear hs hb HGp_w73 HZp_w73 HQ0_w73 HQ2_w73 HZx_w73 HGm_w73 HZh_w73
      try go_wp2_with fail
      refine hK.out _ _ ?_ (fun hHeld => ?_)
      · exact HKS.out _ HB_w74.out
      clear hK K
      try simp only [Act.put, List.setIfInBounds_toArray, List.set_cons_zero, List.set_cons_succ]
      refine wpAnyH_ready (rs := [3]) (by kernel_rfl) (by simp) (AllReadyH.cons (o := { dst := some 119, op := Go.Op.call { callee := Go.Callee.value (Go.Operand.func 31), args := #[Go.Operand.tmp 118], argTypes := #[62] }, type := 71, pos := "exact.go:5178", after := #[{ on := 2, ground := Go.Ground.data }, { on := 1, ground := Go.Ground.chain }], guard := none }) rfl (fun K hK => ?_) AllReadyH.nil)
      go_simp
      refine (toExs_any e1 C1 _ (Lay.exs.later HL1.out HB_w74.out HB_w74.out.size) HD1.out).mono ?_
      rintro e' w75 ⟨h1xa, h1xl, h1xc, rfl, hs, hb⟩
      have HB_w75 : Hid (Below W1.heap.size W1 w75) := HB_w74.out.trans (hb.mono HB_w74.out.size)
      have hz_w75 : w74.heap.size ≤ w75.heap.size := hb.size
      have HBX_w75 : Hid (Below w53.heap.size w53 w75) := HBX_w74.out.trans (hb.mono HBX_w74.out.size)
      have HGp_w75 := Lib.hid (HGp_w74.out.under hb (by omega))
      have HZp_w75 := Lib.hid (HZp_w74.out.under hb HZp_w74.out.lt)
      have HQ0_w75 := Lib.hid (HQ0_w74.out.under hb HQ0_w74.out.lt)
      have HQ2_w75 := Lib.hid (HQ2_w74.out.under hb HQ2_w74.out.lt)
      have HZx_w75 := Lib.hid (HZx_w74.out.under hb HZx_w74.out.lt)
      have HGm_w75 := Lib.hid (HGm_w74.out.under hb (by omega))
      have HZh_w75 := Lib.hid (HZh_w74.out.under hb HZh_w74.out.lt)
      have HSh0_w75 := Lib.hid (Lay.gra.sunder HSh0_w74.out hb (by omega))
      have HSh1_w75 : Hid (Lay.exs.sep w75 w74.heap.size w75.heap.size e1 (fun j => (#[.slice h1xa h1xl h1xc] : Array Value).getD j undef)) := hs
      clear hs hb HGp_w74 HZp_w74 HQ0_w74 HQ2_w74 HZx_w74 HGm_w74 HZh_w74 HSh0_w74
      try go_wp2_with fail
      refine hK.out _ _ ?_ (fun hHeld => ?_)
      · exact HKS.out _ HB_w75.out
      clear hK K
      try simp only [Act.put, List.setIfInBounds_toArray, List.set_cons_zero, List.set_cons_succ]
      refine wpAnyH_ready (rs := [5]) (by kernel_rfl) (by simp) (AllReadyH.cons (o := { dst := some 121, op := Go.Op.call { callee := Go.Callee.value (Go.Operand.func 42), args := #[Go.Operand.tmp 120], argTypes := #[81] }, type := 86, pos := "exact.go:5178", after := #[{ on := 4, ground := Go.Ground.data }, { on := 3, ground := Go.Ground.chain }], guard := none }) rfl (fun K hK => ?_) AllReadyH.nil)
      go_simp
      refine (Tc.toTr_any e2 C2 _ (Tc.trc.later HL2.out HB_w75.out HB_w75.out.size) HD2.out).mono ?_
      rintro e' w76 ⟨h2xa, h2xl, h2xc, h2ya, h2yl, h2yc, rfl, hs, hb⟩
      have HB_w76 : Hid (Below W1.heap.size W1 w76) := HB_w75.out.trans (hb.mono HB_w75.out.size)
      have hz_w76 : w75.heap.size ≤ w76.heap.size := hb.size
      have HBX_w76 : Hid (Below w53.heap.size w53 w76) := HBX_w75.out.trans (hb.mono HBX_w75.out.size)
      have HGp_w76 := Lib.hid (HGp_w75.out.under hb (by omega))
      have HZp_w76 := Lib.hid (HZp_w75.out.under hb HZp_w75.out.lt)
      have HQ0_w76 := Lib.hid (HQ0_w75.out.under hb HQ0_w75.out.lt)
      have HQ2_w76 := Lib.hid (HQ2_w75.out.under hb HQ2_w75.out.lt)
      have HZx_w76 := Lib.hid (HZx_w75.out.under hb HZx_w75.out.lt)
      have HGm_w76 := Lib.hid (HGm_w75.out.under hb (by omega))
      have HZh_w76 := Lib.hid (HZh_w75.out.under hb HZh_w75.out.lt)
      have HSh0_w76 := Lib.hid (Lay.gra.sunder HSh0_w75.out hb (by omega))
      have HSh1_w76 := Lib.hid (Lay.exs.sunder HSh1_w75.out hb (by omega))
      have HSh2_w76 : Hid (Tc.trc.sep w76 w75.heap.size w76.heap.size e2 (fun j => (#[.slice h2xa h2xl h2xc, .slice h2ya h2yl h2yc] : Array Value).getD j undef)) := hs
      clear hs hb HGp_w75 HZp_w75 HQ0_w75 HQ2_w75 HZx_w75 HGm_w75 HZh_w75 HSh0_w75 HSh1_w75
      try go_wp2_with fail
      refine hK.out _ _ ?_ (fun hHeld => ?_)
      · exact HKS.out _ HB_w76.out
      clear hK K
      try simp only [Act.put, List.setIfInBounds_toArray, List.set_cons_zero, List.set_cons_succ]
      refine wpAnyH_ready (rs := [6]) (by kernel_rfl) (by simp) (AllReadyH.cons (o := { dst := some 122, op := Go.Op.call { callee := Go.Callee.value (Go.Operand.func 43), args := #[Go.Operand.tmp 117, Go.Operand.tmp 119, Go.Operand.tmp 121], argTypes := #[69, 71, 86] }, type := 84, pos := "exact.go:5178", after := #[{ on := 1, ground := Go.Ground.data }, { on := 3, ground := Go.Ground.data }, { on := 5, ground := Go.Ground.data }, { on := 5, ground := Go.Ground.chain }], guard := none }) rfl (fun K hK => ?_) AllReadyH.nil)
      go_simp
      refine (implTw_any e0 (fun j => (#[.slice h0xa h0xl h0xc, .slice h0ya h0yl h0yc] : Array Value).getD j undef) e1 (fun j => (#[.slice h1xa h1xl h1xc] : Array Value).getD j undef) e2 (fun j => (#[.slice h2xa h2xl h2xc, .slice h2ya h2yl h2yc] : Array Value).getD j undef) _ (Lay.gra.more (Lay.gra.sep_lies HSh0_w76.out) (by omega)) (Lay.exs.more (Lay.exs.sep_lies HSh1_w76.out) (by omega)) (Tc.trc.more (Tc.trc.sep_lies HSh2_w76.out) (by omega)) HD0.out HD1.out HD2.out).mono ?_
      rintro e' w77 ⟨Xh, Yh, rfl, hS, hb⟩
      rw [← HV0.out] at hS
      rw [← HV1.out]
      obtain ⟨xah, xch, yah, ych, rfl, rfl⟩ := hS.form
      have HB_w77 : Hid (Below W1.heap.size W1 w77) := HB_w76.out.trans (hb.mono HB_w76.out.size)
      have hz_w77 : w76.heap.size ≤ w77.heap.size := hb.size
      have HBX_w77 : Hid (Below w53.heap.size w53 w77) := HBX_w76.out.trans (hb.mono HBX_w76.out.size)
      have HGp_w77 := Lib.hid (HGp_w76.out.under hb (by omega))
      have HZp_w77 := Lib.hid (HZp_w76.out.under hb HZp_w76.out.lt)
      have HQ0_w77 := Lib.hid (HQ0_w76.out.under hb HQ0_w76.out.lt)
      have HQ2_w77 := Lib.hid (HQ2_w76.out.under hb HQ2_w76.out.lt)
      have HZx_w77 := Lib.hid (HZx_w76.out.under hb HZx_w76.out.lt)
      have HGm_w77 := Lib.hid (HGm_w76.out.under hb (by omega))
      have HZh_w77 := Lib.hid (HZh_w76.out.under hb HZh_w76.out.lt)
      have HSh0_w77 := Lib.hid (Lay.gra.sunder HSh0_w76.out hb (by omega))
      have HSh1_w77 := Lib.hid (Lay.exs.sunder HSh1_w76.out hb (by omega))
      have HSh2_w77 := Lib.hid (Tc.trc.sunder HSh2_w76.out hb (by omega))
      have HGh_w77 : Hid (StR w77 w76.heap.size w77.heap.size vl0 (.slice xah vl0.locs.length xch) (.slice yah vl0.vals.length ych)) := hS
      clear hS hb HGp_w76 HZp_w76 HQ0_w76 HQ2_w76 HZx_w76 HGm_w76 HZh_w76 HSh0_w76 HSh1_w76 HSh2_w76
      try go_wp2_with fail
      refine hK.out _ _ ?_ (fun hHeld => ?_)
      · exact HKS.out _ HB_w77.out
      clear hK K
      try simp only [Act.put, List.setIfInBounds_toArray, List.set_cons_zero, List.set_cons_succ]
      refine wpAnyH_take (i := 7) (oi := { dst := some 115, op := Go.Op.move (Go.Operand.tmp 122), type := 84, pos := "exact.go:5178", after := #[{ on := 6, ground := Go.Ground.data }], guard := none }) (v := ?_) rfl (by kernel_rfl) (by kernel_rfl) (by kernel_rfl) (fun _ _ _ h => h) (Or.inl ⟨by rfl, ?_⟩) (by assumption) ?_
      rotate_left
      · intro w hSw
        try dsimp only at hSw
        go_simp
        all_goals (with_reducible rfl)
      try simp only [Act.put, List.setIfInBounds_toArray, List.set_cons_zero, List.set_cons_succ]
      refine wpAnyH_take (i := 8) (oi := { dst := some 123, op := Go.Op.extract (Go.Operand.tmp 115) 0, type := 83, pos := "exact.go:5178", after := #[{ on := 7, ground := Go.Ground.data }], guard := none }) (v := ?_) rfl (by kernel_rfl) (by kernel_rfl) (by kernel_rfl) (fun _ _ _ h => h) (Or.inl ⟨by rfl, ?_⟩) (by assumption) ?_
      rotate_left
      · intro w hSw
        try dsimp only at hSw
        go_simp
        all_goals (with_reducible rfl)
      try simp only [Act.put, List.setIfInBounds_toArray, List.set_cons_zero, List.set_cons_succ]
      refine wpAnyH_take (i := 9) (oi := { dst := some 124, op := Go.Op.extract (Go.Operand.tmp 115) 1, type := 4, pos := "exact.go:5178", after := #[{ on := 7, ground := Go.Ground.data }, { on := 11, ground := Go.Ground.gcOnly Go.Departure.lateStores }], guard := none }) (v := ?_) rfl (by kernel_rfl) (by kernel_rfl) (by kernel_rfl) (fun _ _ _ h => h) (Or.inl ⟨by rfl, ?_⟩) (by assumption) ?_
      rotate_left
      · intro w hSw
        try dsimp only at hSw
        go_simp
        all_goals (with_reducible rfl)
      try simp only [Act.put, List.setIfInBounds_toArray, List.set_cons_zero, List.set_cons_succ]
      refine wpAnyH_ready (rs := [11]) (by kernel_rfl) (by simp) (AllReadyH.cons (o := { dst := none, op := Go.Op.store 83 (Go.Operand.tmp 18) (Go.Operand.tmp 123), type := 0, pos := "exact.go:5178", after := #[{ on := 10, ground := Go.Ground.data }, { on := 8, ground := Go.Ground.data }, { on := 6, ground := Go.Ground.chain }, { on := 0, ground := Go.Ground.phase }, { on := 1, ground := Go.Ground.phase }, { on := 2, ground := Go.Ground.phase }, { on := 3, ground := Go.Ground.phase }, { on := 4, ground := Go.Ground.phase }, { on := 5, ground := Go.Ground.phase }, { on := 6, ground := Go.Ground.phase }, { on := 7, ground := Go.Ground.phase }, { on := 8, ground := Go.Ground.phase }, { on := 9, ground := Go.Ground.textOnly Go.Departure.lateStores }, { on := 10, ground := Go.Ground.phase }], guard := none }) rfl (fun K hK => ?_) AllReadyH.nil)
      obtain ⟨x0, x1⟩ := HZh_w77.out.two
      have u0 := HZh_w77.out.frozen 0
      have u1 := HZh_w77.out.frozen 1
      go_simp
      obtain ⟨w78, hY⟩ : ∃ Y, Y = (w77.setCell ⟨w54.heap.size, 0, none⟩ (.slice xah vl0.locs.length xch)).setCell ⟨w54.heap.size, 1, none⟩ (.slice yah vl0.vals.length ych) := ⟨_, rfl⟩
      rw [← hY]
      have hk : Kept w54.heap.size (w54.heap.size + 1) w77 w78 := by rw [hY]; exact ((Kept.refl w54.heap.size (w54.heap.size + 1) w77).trans (Kept.set_ w54.heap.size (w54.heap.size + 1) _ (Nat.le_refl _) (Nat.lt_succ_self _) 0 _)).trans (Kept.set_ w54.heap.size (w54.heap.size + 1) _ (Nat.le_refl _) (Nat.lt_succ_self _) 1 _)
      have hnew : Row w78 w54.heap.size 83 #[(.slice xah vl0.locs.length xch), (.slice yah vl0.vals.length ych)] := by rw [hY]; exact ((HZh_w77.out.set_ 0 (.slice xah vl0.locs.length xch)).set_ 1 (.slice yah vl0.vals.length ych))
      have HB_w78 : Hid (Below W1.heap.size W1 w78) := HB_w77.out.trans (hk.below (by omega) (by omega))
      have hz_w78 : w77.heap.size ≤ w78.heap.size := hk.size
      have HBX_w78 : Hid (Below w53.heap.size w53 w78) := HBX_w77.out.trans (hk.below (by omega) (by omega))
      have HGp_w78 := Lib.hid (HGp_w77.out.kept hk (by omega) (by omega))
      have HZp_w78 := Lib.hid (HZp_w77.out.kept hk (by omega))
      have HQ0_w78 := Lib.hid (HQ0_w77.out.kept hk (by omega))
      have HQ2_w78 := Lib.hid (HQ2_w77.out.kept hk (by omega))
      have HZx_w78 := Lib.hid (HZx_w77.out.kept hk (by omega))
      have HGm_w78 := Lib.hid (HGm_w77.out.kept hk (by omega) (by omega))
      have HSh0_w78 : Hid (Lay.gra.sep w78 w73.heap.size w74.heap.size e0 (fun j => (#[.slice h0xa h0xl h0xc, .slice h0ya h0yl h0yc] : Array Value).getD j undef)) := Lay.gra.sep_keep (fun q b1 b2 => hk.other q (by omega) (by omega)) HSh0_w77.out
      have HSh1_w78 : Hid (Lay.exs.sep w78 w74.heap.size w75.heap.size e1 (fun j => (#[.slice h1xa h1xl h1xc] : Array Value).getD j undef)) := Lay.exs.sep_keep (fun q b1 b2 => hk.other q (by omega) (by omega)) HSh1_w77.out
      have HSh2_w78 : Hid (Tc.trc.sep w78 w75.heap.size w76.heap.size e2 (fun j => (#[.slice h2xa h2xl h2xc, .slice h2ya h2yl h2yc] : Array Value).getD j undef)) := Tc.trc.sep_keep (fun q b1 b2 => hk.other q (by omega) (by omega)) HSh2_w77.out
      have HGh_w78 := Lib.hid (HGh_w77.out.kept hk (by omega) (by omega))
      have HZh_w78 := Lib.hid hnew
      clear hk hnew hY HZh_w77 x0 u0 x1 u1 HGp_w77 HZp_w77 HQ0_w77 HQ2_w77 HZx_w77 HGm_w77 HSh0_w77 HSh1_w77 HSh2_w77 HGh_w77
      refine hK.out _ _ ?_ (fun hHeld => ?_)
      · exact HKS.out _ HB_w78.out
      clear hK K
      try simp only [Act.put, List.setIfInBounds_toArray, List.set_cons_zero, List.set_cons_succ]
      refine wpAnyH_take (i := 12) (oi := { dst := some 19, op := Go.Op.assign (Go.Operand.tmp 124), type := 4, pos := "exact.go:5178", after := #[{ on := 9, ground := Go.Ground.data }, { on := 11, ground := Go.Ground.chain }, { on := 0, ground := Go.Ground.phase }, { on := 1, ground := Go.Ground.phase }, { on := 2, ground := Go.Ground.phase }, { on := 3, ground := Go.Ground.phase }, { on := 4, ground := Go.Ground.phase }, { on := 5, ground := Go.Ground.phase }, { on := 6, ground := Go.Ground.phase }, { on := 7, ground := Go.Ground.phase }, { on := 8, ground := Go.Ground.phase }, { on := 9, ground := Go.Ground.phase }, { on := 10, ground := Go.Ground.phase }, { on := 11, ground := Go.Ground.phase }], guard := none }) (v := ?_) rfl (by kernel_rfl) (by kernel_rfl) (by kernel_rfl) (fun _ _ _ h => h) (Or.inl ⟨by rfl, ?_⟩) (by assumption) ?_
      rotate_left
      · intro w hSw
        try dsimp only at hSw
        go_simp
        all_goals (with_reducible rfl)
      try simp only [Act.put, List.setIfInBounds_toArray, List.set_cons_zero, List.set_cons_succ]
      refine wpAnyH_done (by kernel_rfl) ?_ _
      go_wp2_with fail
      go_meet
      exact ⟨_, xah, xch, yah, ych, rfl, rfl, HZh_w78, Lib.hid (HGh_w78.out.more (by omega) (by omega)), (by omega), HBX_w78⟩
  case rest =>
  obtain ⟨zzh, xah, xch, yah, ych, rfl, rfl, HZc, HGc, hzh, HBc⟩ := hcut
  obtain ⟨w79, rfl⟩ : ∃ x, x = wc := ⟨_, rfl⟩
  have hb : Below w53.heap.size w53 w79 := HBc.out
  have HB_w79 : Hid (Below W1.heap.size W1 w79) := HB_w53.out.trans (hb.mono HB_w53.out.size)
  have hz_w79 : w53.heap.size ≤ w79.heap.size := hb.size
  have HGp_w79 := Lib.hid (HGp_w53.out.under hb (by omega))
  have HZp_w79 := Lib.hid (HZp_w53.out.under hb HZp_w53.out.lt)
  have HQ0_w79 := Lib.hid (HQ0_w53.out.under hb HQ0_w53.out.lt)
  have HQ2_w79 := Lib.hid (HQ2_w53.out.under hb HQ2_w53.out.lt)
  have HZx_w79 := Lib.hid (HZx_w53.out.under hb HZx_w53.out.lt)
  have HGm_w79 := Lib.hid (HGm_w53.out.under hb (by omega))
  have HGh_w79 := HGc
  have HZh_w79 := HZc
  clear HGc HZc
  have zlth : zzh < w79.heap.size := HZh_w79.out.lt
  clear hb HBc HKS HGp_w53 HZp_w53 HQ0_w53 HQ2_w53 HZx_w53 HGm_w53
  clear g00 g01 gl0 g20 g21 gl2
  obtain ⟨zh0, zh1⟩ := HZh_w79.out.two
  have zlh := HZh_w79.out.lt
  obtain ⟨zp0, zp1⟩ := HZp_w79.out.two
  have zlp := HZp_w79.out.lt
  go_wp2_with fail
  refine (La.eqSt_any vl0 (fun j => (#[.slice xah vl0.locs.length xch, .slice yah vl0.vals.length ych] : Array Value).getD j undef) (fun j => (#[.slice xap vl0.locs.length xcp, .slice yap vl0.vals.length ycp] : Array Value).getD j undef) _ (HGh_w79.out.lies (by omega)) (HGp_w79.out.lies (by omega))).mono ?_
  rintro e' w80 ⟨rfl, hb⟩
  have HB_w80 : Hid (Below W1.heap.size W1 w80) := HB_w79.out.trans (hb.mono HB_w79.out.size)
  have hz_w80 : w79.heap.size ≤ w80.heap.size := hb.size
  have HGp_w80 := Lib.hid (HGp_w79.out.under hb (by omega))
  have HZp_w80 := Lib.hid (HZp_w79.out.under hb HZp_w79.out.lt)
  have HQ0_w80 := Lib.hid (HQ0_w79.out.under hb HQ0_w79.out.lt)
  have HQ2_w80 := Lib.hid (HQ2_w79.out.under hb HQ2_w79.out.lt)
  have HZx_w80 := Lib.hid (HZx_w79.out.under hb HZx_w79.out.lt)
  have HGm_w80 := Lib.hid (HGm_w79.out.under hb (by omega))
  have HGh_w80 := Lib.hid (HGh_w79.out.under hb (by omega))
  have HZh_w80 := Lib.hid (HZh_w79.out.under hb HZh_w79.out.lt)
  clear hb HGp_w79 HZp_w79 HQ0_w79 HQ2_w79 HZx_w79 HGm_w79 HGh_w79 HZh_w79
  clear zh0 zh1 zlh zp0 zp1 zlp
  obtain ⟨zx0, zx1⟩ := HZx_w80.out.two
  have zlx := HZx_w80.out.lt
  go_wp2_with fail
  refine (La.heldSt_any vl0 (fun j => (#[.slice xax vl0.locs.length xcx, .slice yax vl0.vals.length ycx] : Array Value).getD j undef) _ (HGm_w80.out.lies (by omega)) HLa.out HLb.out).mono ?_
  rintro e' w81 ⟨rfl, hb⟩
  clear zx0 zx1 zlx
  have HB_w81 : Hid (Below W1.heap.size W1 w81) := HB_w80.out.trans (hb.mono HB_w80.out.size)
  have hz_w81 : w80.heap.size ≤ w81.heap.size := hb.size
  have HGp_w81 := Lib.hid (HGp_w80.out.under hb (by omega))
  have HZp_w81 := Lib.hid (HZp_w80.out.under hb HZp_w80.out.lt)
  have HQ0_w81 := Lib.hid (HQ0_w80.out.under hb HQ0_w80.out.lt)
  have HQ2_w81 := Lib.hid (HQ2_w80.out.under hb HQ2_w80.out.lt)
  have HZx_w81 := Lib.hid (HZx_w80.out.under hb HZx_w80.out.lt)
  have HGm_w81 := Lib.hid (HGm_w80.out.under hb (by omega))
  have HGh_w81 := Lib.hid (HGh_w80.out.under hb (by omega))
  have HZh_w81 := Lib.hid (HZh_w80.out.under hb HZh_w80.out.lt)
  clear hb HGp_w80 HZp_w80 HQ0_w80 HQ2_w80 HZx_w80 HGm_w80 HGh_w80 HZh_w80
  go_wp2_with fail
  go_ret
  exact ⟨rfl, HBn.out _ HB_w81.out⟩

end Go.Proofs.Ytldnegacgjijlaa

/- The walk of the law laws.FnExactUniteAutomata. -/
import Derived.Test.YtldnegacgjijlaaUaI
import Derived.Test.YtldnegacgjijlaaUaS
import Derived.Test.YtldnegacgjijlaaAuK
import Derived.Test.YtldnegacgjijlaaAuZ
import Derived.Test.YtldnegacgjijlaaAuE
import Derived.Test.YtldnegacgjijlaaAuO
import Derived.Test.YtldnegacgjijlaaNx
import Derived.Deep.RegionHeld3
import Derived.Deep.RegionWith
import Derived.Deep.Cut
import Derived.Deep.CutRange
namespace Go.Proofs.Ytldnegacgjijlaa
open Go.RowKit

theorem au_rgs {w : World} {B : Nat} {e : Au} {C : Nat → Value} (h : Lay.au.lies w B e C) : ∀ x ∈ e.es, TrR x := by
  obtain ⟨ini, acc, es⟩ := e
  obtain ⟨_, _, ⟨A, cap, b, off, D, _, _, hO⟩⟩ := au_lies h
  intro x hx
  obtain ⟨i, hi⟩ := List.getElem?_of_mem hx
  exact tr_rg (hO i x hi).2.2.2
theorem AuR.liesE {w : World} {lo hi : Nat} {T : Au} {v0 v1 v2 : Value} (h : AuR w lo hi T.ini T.acc T.es v0 v1 v2) (hh : hi ≤ w.heap.size) (hr : ∀ e ∈ T.es, TrR e) (l3 : T.es.length ≤ 1048576) : Lay.au.lies w w.heap.size T (fun j => (#[v0, v1, v2] : Array Value).getD j undef) := h.lies hh hr l3
/-- What marks from 1 on leave of an automaton. -/
abbrev mkV (T : Au) : Au := ⟨mkI T.ini, mkB T.ini T.acc, mkE T.ini T.acc T.es⟩

set_option maxHeartbeats 4000000 in
set_option maxRecDepth 100000 in
theorem lawUa_any (e0 : Au) (C0 : Nat → Value) (e1 : Au) (C1 : Nat → Value) (w : World) (hL0 : Lay.au.lies w w.heap.size e0 C0) (hL1 : Lay.au.lies w w.heap.size e1 C1) :
    Calls Try.prog 5 #[.agg #[C0 0, C0 1, C0 2], .agg #[C1 0, C1 1, C1 2]] w fun e' w' => e' = .returned (.bool true) ∧ Below w.heap.size w w' := by
  obtain ⟨W1, hW1⟩ : ∃ W1, W1 = (w.alloc (.cells #[C0 0, C0 1, C0 2] 47)).alloc (.cells #[C1 0, C1 1, C1 2] 47) := ⟨_, rfl⟩
  have hrows := rows2 w 47 47 #[C0 0, C0 1, C0 2] #[C1 0, C1 1, C1 2]
  rw [← hW1] at hrows
  obtain ⟨hr0, hr1, hb0⟩ := hrows
  have HR0 := Lib.hid hr0
  have HR1 := Lib.hid hr1
  have hltW : w.heap.size ≤ W1.heap.size := hb0.size
  have HL0 : Hid (Lay.au.lies W1 W1.heap.size e0 C0) := Lay.au.later hL0 hb0 hb0.size
  have HL1 : Hid (Lay.au.lies W1 W1.heap.size e1 C1) := Lay.au.later hL1 hb0 hb0.size
  have HB0 := Lib.hid hb0
  have HW1 := Lib.hid hW1
  have HBn : Hid (∀ X, Below W1.heap.size W1 X → Below w.heap.size w X) := fun X h => HB0.out.trans (h.mono HB0.out.size)
  have HB_W1 : Hid (Below W1.heap.size W1 W1) := Below.refl _ _
  clear hb0 hW1 hr0 hr1 hL0 hL1
  obtain ⟨r0, hr0, hc0⟩ := room_next (left := 1048576) (n := Lay.au.sz e0) (by omega) (by omega)
  have HRm0 := Lib.hid hr0
  clear hr0
  go_enter Try.func5, Try.ntmps5
  go_wp2_with fail
  rw [← HW1.out]
  refine (szAu_any e0 C0 1048576 _ (Lay.au.later HL0.out HB_W1.out HB_W1.out.size) (by omega) (by omega)).mono ?_
  rintro e' w1 ⟨rfl, hb⟩
  rw [← HRm0.out]
  have HB_w1 : Hid (Below W1.heap.size W1 w1) := HB_W1.out.trans (hb.mono HB_W1.out.size)
  have hz_w1 : W1.heap.size ≤ w1.heap.size := hb.size
  clear hb
  rcases hc0 with hneg | ⟨hp, hq, hn0⟩
  · go_wp2_with fail
    go_ret
    exact ⟨rfl, HBn.out _ HB_w1.out⟩
  have HD0 : Hid (Lay.au.sz e0 ≤ 1048576) := hn0
  clear hn0
  obtain ⟨r1, hr1, hc1⟩ := room_next (left := r0) (n := Lay.au.sz e1) hp hq
  have HRm1 := Lib.hid hr1
  clear hr1
  obtain ⟨g10, g11, g12⟩ := (HR1.out.under HB_w1.out HR1.out.lt).three
  go_wp2_with fail
  refine (szAu_any e1 C1 r0 _ (Lay.au.later HL1.out HB_w1.out HB_w1.out.size) (by omega) (by omega)).mono ?_
  clear g10 g11 g12
  rintro e' w2 ⟨rfl, hb⟩
  rw [← HRm1.out]
  have HB_w2 : Hid (Below W1.heap.size W1 w2) := HB_w1.out.trans (hb.mono HB_w1.out.size)
  have hz_w2 : w1.heap.size ≤ w2.heap.size := hb.size
  clear hb
  clear hp hq
  rcases hc1 with hneg | ⟨hp, hq, hn1⟩
  · go_wp2_with fail
    go_ret
    exact ⟨rfl, HBn.out _ HB_w2.out⟩
  have HD1 : Hid (Lay.au.sz e1 ≤ 1048576) := hn1
  clear hn1
  obtain ⟨vl0, hvl0⟩ : ∃ vl0 : Au, vl0 = uaOut e0 e1 := ⟨_, rfl⟩
  have HLn : Hid (vl0.ini.length ≤ 64 ∧ vl0.acc.length ≤ 64 ∧ vl0.es.length ≤ 2048) := by show _ ∧ _; rw [hvl0]; exact uaOut_small _ _
  have HLr : Hid (∀ e ∈ vl0.es, TrR e) := by show ∀ e ∈ _, _; rw [hvl0]; exact uaOut_rg (au_rgs HL0.out) (au_rgs HL1.out)
  have HV0 := Lib.hid hvl0
  clear hvl0
  obtain ⟨vl1, hvl1⟩ : ∃ vl1 : Bool, vl1 = uaOk e0 e1 := ⟨_, rfl⟩
  have HV1 := Lib.hid hvl1
  clear hvl1
  obtain ⟨g00, g01, g02⟩ := (HR0.out.under HB_w2.out HR0.out.lt).three
  have gl0 : w.heap.size < w2.heap.size := Nat.lt_of_lt_of_le HR0.out.lt HB_w2.out.size
  obtain ⟨g10, g11, g12⟩ := (HR1.out.under HB_w2.out HR1.out.lt).three
  have gl1 : w.heap.size + 1 < w2.heap.size := Nat.lt_of_lt_of_le HR1.out.lt HB_w2.out.size
  have HKS : Hid (∀ X, Below W1.heap.size W1 X → (fun w' => w'.cell? ⟨w.heap.size, 0, none⟩ = some (C0 0) ∧ w'.cell? ⟨w.heap.size, 1, none⟩ = some (C0 1) ∧ w'.cell? ⟨w.heap.size, 2, none⟩ = some (C0 2) ∧ w'.cell? ⟨w.heap.size + 1, 0, none⟩ = some (C1 0) ∧ w'.cell? ⟨w.heap.size + 1, 1, none⟩ = some (C1 1) ∧ w'.cell? ⟨w.heap.size + 1, 2, none⟩ = some (C1 2)) X) := fun X h => ⟨(HR0.out.under h HR0.out.lt).cell 0, (HR0.out.under h HR0.out.lt).cell 1, (HR0.out.under h HR0.out.lt).cell 2, (HR1.out.under h HR1.out.lt).cell 0, (HR1.out.under h HR1.out.lt).cell 1, (HR1.out.under h HR1.out.lt).cell 2⟩
  go_upto_region 8 with fail
  go_cut [6, 7] from 27 to 34 (fun b0 b1 wx => ∃ (zz : Nat) (xap : Option Addr) (xcp : Nat) (yap : Option Addr) (ycp : Nat) (zap : Option Addr) (zcp : Nat), b0 = .pointer (some ⟨zz, 0, none⟩) ∧ b1 = .bool vl1 ∧ Hid (Row wx zz 51 #[.slice xap vl0.ini.length xcp, .slice yap vl0.acc.length ycp, .slice zap vl0.es.length zcp]) ∧ Hid (AuR wx w2.heap.size wx.heap.size vl0.ini vl0.acc vl0.es (.slice xap vl0.ini.length xcp) (.slice yap vl0.acc.length ycp) (.slice zap vl0.es.length zcp)) ∧ w2.heap.size ≤ zz ∧ Hid (Below w2.heap.size w2 wx))
  case first =>
    have HBX_w2 : Hid (Below w2.heap.size w2 w2) := Below.refl _ _
    refine wp_region_held_drew (S := (fun w' => w'.cell? ⟨w.heap.size, 0, none⟩ = some (C0 0) ∧ w'.cell? ⟨w.heap.size, 1, none⟩ = some (C0 1) ∧ w'.cell? ⟨w.heap.size, 2, none⟩ = some (C0 2) ∧ w'.cell? ⟨w.heap.size + 1, 0, none⟩ = some (C1 0) ∧ w'.cell? ⟨w.heap.size + 1, 1, none⟩ = some (C1 1) ∧ w'.cell? ⟨w.heap.size + 1, 2, none⟩ = some (C1 2))) (by kernel_rfl) ?_ (fun hHeld => ?_)
    · exact HKS.out _ HB_w2.out.drew
    obtain ⟨w3, hX0⟩ : ∃ X, X = w2.drew := ⟨_, rfl⟩
    rw [← hX0] at hHeld ⊢
    have hb : Below w2.heap.size w2 w3 := by rw [hX0]; exact (Below.refl _ _).drew
    have HB_w3 : Hid (Below W1.heap.size W1 w3) := HB_w2.out.trans (hb.mono HB_w2.out.size)
    have hz_w3 : w2.heap.size ≤ w3.heap.size := hb.size
    have HBX_w3 : Hid (Below w2.heap.size w2 w3) := HBX_w2.out.trans (hb.mono HBX_w2.out.size)
    clear hX0 hb
    refine wpAnyH_take (i := 0) (oi := { dst := some 28, op := Go.Op.load 47 (Go.Operand.tmp 2), type := 47, pos := "exact.go:4865", after := #[], guard := none }) (v := ?_) rfl (by kernel_rfl) (by kernel_rfl) (by kernel_rfl) (fun _ _ _ h => h) (Or.inl ⟨by rfl, ?_⟩) (by assumption) ?_
    rotate_left
    · intro w hSw
      try dsimp only at hSw
      go_simp
      all_goals (with_reducible rfl)
    try simp only [Act.put, List.setIfInBounds_toArray, List.set_cons_zero, List.set_cons_succ]
    refine wpAnyH_take (i := 2) (oi := { dst := some 30, op := Go.Op.load 47 (Go.Operand.tmp 3), type := 47, pos := "exact.go:4865", after := #[], guard := none }) (v := ?_) rfl (by kernel_rfl) (by kernel_rfl) (by kernel_rfl) (fun _ _ _ h => h) (Or.inl ⟨by rfl, ?_⟩) (by assumption) ?_
    rotate_left
    · intro w hSw
      try dsimp only at hSw
      go_simp
      all_goals (with_reducible rfl)
    try simp only [Act.put, List.setIfInBounds_toArray, List.set_cons_zero, List.set_cons_succ]
    refine wpAnyH_ready (rs := [1, 8]) (by kernel_rfl) (by simp) (AllReadyH.cons (o := { dst := some 29, op := Go.Op.call { callee := Go.Callee.value (Go.Operand.func 22), args := #[Go.Operand.tmp 28], argTypes := #[47] }, type := 51, pos := "exact.go:4865", after := #[{ on := 0, ground := Go.Ground.data }], guard := none }) rfl (fun K hK => ?_) (AllReadyH.cons (o := { dst := some 6, op := Go.Op.alloc 51, type := 0, pos := "exact.go:4865", after := #[], guard := none }) rfl (fun K hK => ?_) AllReadyH.nil))
    · skip
      go_simp
      refine (toAu_any e0 C0 _ (Lay.au.later HL0.out HB_w3.out HB_w3.out.size) HD0.out).mono ?_
      rintro e' w4 ⟨p0xa, p0xl, p0xc, p0ya, p0yl, p0yc, p0za, p0zl, p0zc, rfl, hs, hb⟩
      have HB_w4 : Hid (Below W1.heap.size W1 w4) := HB_w3.out.trans (hb.mono HB_w3.out.size)
      have hz_w4 : w3.heap.size ≤ w4.heap.size := hb.size
      have HBX_w4 : Hid (Below w2.heap.size w2 w4) := HBX_w3.out.trans (hb.mono HBX_w3.out.size)
      have HSp0_w4 : Hid (Lay.au.sep w4 w3.heap.size w4.heap.size e0 (fun j => (#[.slice p0xa p0xl p0xc, .slice p0ya p0yl p0yc, .slice p0za p0zl p0zc] : Array Value).getD j undef)) := hs
      clear hs hb
      try go_wp2_with fail
      refine hK.out _ _ ?_ (fun hHeld => ?_)
      · exact HKS.out _ HB_w4.out
      clear hK K
      try simp only [Act.put, List.setIfInBounds_toArray, List.set_cons_zero, List.set_cons_succ]
      refine wpAnyH_ready (rs := [3, 8]) (by kernel_rfl) (by simp) (AllReadyH.cons (o := { dst := some 31, op := Go.Op.call { callee := Go.Callee.value (Go.Operand.func 22), args := #[Go.Operand.tmp 30], argTypes := #[47] }, type := 51, pos := "exact.go:4865", after := #[{ on := 2, ground := Go.Ground.data }, { on := 1, ground := Go.Ground.chain }], guard := none }) rfl (fun K hK => ?_) (AllReadyH.cons (o := { dst := some 6, op := Go.Op.alloc 51, type := 0, pos := "exact.go:4865", after := #[], guard := none }) rfl (fun K hK => ?_) AllReadyH.nil))
      · skip
        go_simp
        refine (toAu_any e1 C1 _ (Lay.au.later HL1.out HB_w4.out HB_w4.out.size) HD1.out).mono ?_
        rintro e' w5 ⟨p1xa, p1xl, p1xc, p1ya, p1yl, p1yc, p1za, p1zl, p1zc, rfl, hs, hb⟩
        have HB_w5 : Hid (Below W1.heap.size W1 w5) := HB_w4.out.trans (hb.mono HB_w4.out.size)
        have hz_w5 : w4.heap.size ≤ w5.heap.size := hb.size
        have HBX_w5 : Hid (Below w2.heap.size w2 w5) := HBX_w4.out.trans (hb.mono HBX_w4.out.size)
        have HSp0_w5 := Lib.hid (Lay.au.sunder HSp0_w4.out hb (by omega))
        have HSp1_w5 : Hid (Lay.au.sep w5 w4.heap.size w5.heap.size e1 (fun j => (#[.slice p1xa p1xl p1xc, .slice p1ya p1yl p1yc, .slice p1za p1zl p1zc] : Array Value).getD j undef)) := hs
        clear hs hb HSp0_w4
        try go_wp2_with fail
        refine hK.out _ _ ?_ (fun hHeld => ?_)
        · exact HKS.out _ HB_w5.out
        clear hK K
        try simp only [Act.put, List.setIfInBounds_toArray, List.set_cons_zero, List.set_cons_succ]
        refine wpAnyH_ready (rs := [4, 8]) (by kernel_rfl) (by simp) (AllReadyH.cons (o := { dst := some 32, op := Go.Op.call { callee := Go.Callee.value (Go.Operand.func 21), args := #[Go.Operand.tmp 29, Go.Operand.tmp 31], argTypes := #[51, 51] }, type := 52, pos := "exact.go:4865", after := #[{ on := 1, ground := Go.Ground.data }, { on := 3, ground := Go.Ground.data }, { on := 3, ground := Go.Ground.chain }], guard := none }) rfl (fun K hK => ?_) (AllReadyH.cons (o := { dst := some 6, op := Go.Op.alloc 51, type := 0, pos := "exact.go:4865", after := #[], guard := none }) rfl (fun K hK => ?_) AllReadyH.nil))
        · skip
          go_simp
          refine (specUa_any e0 (fun j => (#[.slice p0xa p0xl p0xc, .slice p0ya p0yl p0yc, .slice p0za p0zl p0zc] : Array Value).getD j undef) e1 (fun j => (#[.slice p1xa p1xl p1xc, .slice p1ya p1yl p1yc, .slice p1za p1zl p1zc] : Array Value).getD j undef) _ (Lay.au.more (Lay.au.sep_lies HSp0_w5.out) (by omega)) (Lay.au.more (Lay.au.sep_lies HSp1_w5.out) (by omega)) HD0.out HD1.out).mono ?_
          rintro e' w6 ⟨Xp, Yp, Zp, rfl, hS, hb⟩
          rw [← HV0.out] at hS
          rw [← HV1.out]
          obtain ⟨xap, xcp, yap, ycp, zap, zcp, rfl, rfl, rfl⟩ := hS.form
          have HB_w6 : Hid (Below W1.heap.size W1 w6) := HB_w5.out.trans (hb.mono HB_w5.out.size)
          have hz_w6 : w5.heap.size ≤ w6.heap.size := hb.size
          have HBX_w6 : Hid (Below w2.heap.size w2 w6) := HBX_w5.out.trans (hb.mono HBX_w5.out.size)
          have HSp0_w6 := Lib.hid (Lay.au.sunder HSp0_w5.out hb (by omega))
          have HSp1_w6 := Lib.hid (Lay.au.sunder HSp1_w5.out hb (by omega))
          have HGp_w6 : Hid (AuR w6 w5.heap.size w6.heap.size vl0.ini vl0.acc vl0.es (.slice xap vl0.ini.length xcp) (.slice yap vl0.acc.length ycp) (.slice zap vl0.es.length zcp)) := hS
          clear hS hb HSp0_w5 HSp1_w5
          try go_wp2_with fail
          refine hK.out _ _ ?_ (fun hHeld => ?_)
          · exact HKS.out _ HB_w6.out
          clear hK K
          try simp only [Act.put, List.setIfInBounds_toArray, List.set_cons_zero, List.set_cons_succ]
          refine wpAnyH_take (i := 5) (oi := { dst := some 27, op := Go.Op.move (Go.Operand.tmp 32), type := 52, pos := "exact.go:4865", after := #[{ on := 4, ground := Go.Ground.data }], guard := none }) (v := ?_) rfl (by kernel_rfl) (by kernel_rfl) (by kernel_rfl) (fun _ _ _ h => h) (Or.inl ⟨by rfl, ?_⟩) (by assumption) ?_
          rotate_left
          · intro w hSw
            try dsimp only at hSw
            go_simp
            all_goals (with_reducible rfl)
          try simp only [Act.put, List.setIfInBounds_toArray, List.set_cons_zero, List.set_cons_succ]
          refine wpAnyH_take (i := 6) (oi := { dst := some 33, op := Go.Op.extract (Go.Operand.tmp 27) 0, type := 51, pos := "exact.go:4865", after := #[{ on := 5, ground := Go.Ground.data }], guard := none }) (v := ?_) rfl (by kernel_rfl) (by kernel_rfl) (by kernel_rfl) (fun _ _ _ h => h) (Or.inl ⟨by rfl, ?_⟩) (by assumption) ?_
          rotate_left
          · intro w hSw
            try dsimp only at hSw
            go_simp
            all_goals (with_reducible rfl)
          try simp only [Act.put, List.setIfInBounds_toArray, List.set_cons_zero, List.set_cons_succ]
          refine wpAnyH_take (i := 7) (oi := { dst := some 34, op := Go.Op.extract (Go.Operand.tmp 27) 1, type := 4, pos := "exact.go:4865", after := #[{ on := 5, ground := Go.Ground.data }, { on := 9, ground := Go.Ground.gcOnly Go.Departure.lateStores }], guard := none }) (v := ?_) rfl (by kernel_rfl) (by kernel_rfl) (by kernel_rfl) (fun _ _ _ h => h) (Or.inl ⟨by rfl, ?_⟩) (by assumption) ?_
          rotate_left
          · intro w hSw
            try dsimp only at hSw
            go_simp
            all_goals (with_reducible rfl)
          try simp only [Act.put, List.setIfInBounds_toArray, List.set_cons_zero, List.set_cons_succ]
          refine wpAnyH_ready (rs := [8]) (by kernel_rfl) (by simp) (AllReadyH.cons (o := { dst := some 6, op := Go.Op.alloc 51, type := 0, pos := "exact.go:4865", after := #[], guard := none }) rfl (fun K hK => ?_) AllReadyH.nil)
          go_simp
          obtain ⟨w7, hY⟩ : ∃ Y, Y = w6.alloc (.cells #[.slice none 0 0, .slice none 0 0, .slice none 0 0] 51) := ⟨_, rfl⟩
          rw [← hY]
          have hb : Below w6.heap.size w6 w7 := by rw [hY]; exact (Below.refl _ _).alloc (Nat.le_refl _) _
          have hnew : Row w7 w6.heap.size 51 #[.slice none 0 0, .slice none 0 0, .slice none 0 0] := by rw [hY]; exact Row.new _ _ _
          have hs_w7 : w6.heap.size < w7.heap.size := hnew.lt
          have HB_w7 : Hid (Below W1.heap.size W1 w7) := HB_w6.out.trans (hb.mono HB_w6.out.size)
          have hz_w7 : w6.heap.size ≤ w7.heap.size := hb.size
          have HBX_w7 : Hid (Below w2.heap.size w2 w7) := HBX_w6.out.trans (hb.mono HBX_w6.out.size)
          have HSp0_w7 := Lib.hid (Lay.au.sunder HSp0_w6.out hb (by omega))
          have HSp1_w7 := Lib.hid (Lay.au.sunder HSp1_w6.out hb (by omega))
          have HGp_w7 := Lib.hid (HGp_w6.out.under hb (by omega))
          have HZp_w7 := Lib.hid hnew
          clear hnew hb hY HSp0_w6 HSp1_w6 HGp_w6
          refine hK.out _ _ ?_ (fun hHeld => ?_)
          · exact HKS.out _ HB_w7.out
          clear hK K
          try simp only [Act.put, List.setIfInBounds_toArray, List.set_cons_zero, List.set_cons_succ]
          refine wpAnyH_ready (rs := [9]) (by kernel_rfl) (by simp) (AllReadyH.cons (o := { dst := none, op := Go.Op.store 51 (Go.Operand.tmp 6) (Go.Operand.tmp 33), type := 0, pos := "exact.go:4865", after := #[{ on := 8, ground := Go.Ground.data }, { on := 6, ground := Go.Ground.data }, { on := 4, ground := Go.Ground.chain }, { on := 0, ground := Go.Ground.phase }, { on := 1, ground := Go.Ground.phase }, { on := 2, ground := Go.Ground.phase }, { on := 3, ground := Go.Ground.phase }, { on := 4, ground := Go.Ground.phase }, { on := 5, ground := Go.Ground.phase }, { on := 6, ground := Go.Ground.phase }, { on := 7, ground := Go.Ground.textOnly Go.Departure.lateStores }, { on := 8, ground := Go.Ground.phase }], guard := none }) rfl (fun K hK => ?_) AllReadyH.nil)
          obtain ⟨x0, x1, x2⟩ := HZp_w7.out.three
          have u0 := HZp_w7.out.frozen 0
          have u1 := HZp_w7.out.frozen 1
          have u2 := HZp_w7.out.frozen 2
          go_simp
          obtain ⟨w8, hY⟩ : ∃ Y, Y = ((w7.setCell ⟨w6.heap.size, 0, none⟩ (.slice xap vl0.ini.length xcp)).setCell ⟨w6.heap.size, 1, none⟩ (.slice yap vl0.acc.length ycp)).setCell ⟨w6.heap.size, 2, none⟩ (.slice zap vl0.es.length zcp) := ⟨_, rfl⟩
          rw [← hY]
          have hk : Kept w6.heap.size (w6.heap.size + 1) w7 w8 := by rw [hY]; exact (((Kept.refl w6.heap.size (w6.heap.size + 1) w7).trans (Kept.set_ w6.heap.size (w6.heap.size + 1) _ (Nat.le_refl _) (Nat.lt_succ_self _) 0 _)).trans (Kept.set_ w6.heap.size (w6.heap.size + 1) _ (Nat.le_refl _) (Nat.lt_succ_self _) 1 _)).trans (Kept.set_ w6.heap.size (w6.heap.size + 1) _ (Nat.le_refl _) (Nat.lt_succ_self _) 2 _)
          have hnew : Row w8 w6.heap.size 51 #[(.slice xap vl0.ini.length xcp), (.slice yap vl0.acc.length ycp), (.slice zap vl0.es.length zcp)] := by rw [hY]; exact (((HZp_w7.out.set_ 0 (.slice xap vl0.ini.length xcp)).set_ 1 (.slice yap vl0.acc.length ycp)).set_ 2 (.slice zap vl0.es.length zcp))
          have HB_w8 : Hid (Below W1.heap.size W1 w8) := HB_w7.out.trans (hk.below (by omega) (by omega))
          have hz_w8 : w7.heap.size ≤ w8.heap.size := hk.size
          have HBX_w8 : Hid (Below w2.heap.size w2 w8) := HBX_w7.out.trans (hk.below (by omega) (by omega))
          have HSp0_w8 : Hid (Lay.au.sep w8 w3.heap.size w4.heap.size e0 (fun j => (#[.slice p0xa p0xl p0xc, .slice p0ya p0yl p0yc, .slice p0za p0zl p0zc] : Array Value).getD j undef)) := Lay.au.sep_keep (fun q b1 b2 => hk.other q (by omega) (by omega)) HSp0_w7.out
          have HSp1_w8 : Hid (Lay.au.sep w8 w4.heap.size w5.heap.size e1 (fun j => (#[.slice p1xa p1xl p1xc, .slice p1ya p1yl p1yc, .slice p1za p1zl p1zc] : Array Value).getD j undef)) := Lay.au.sep_keep (fun q b1 b2 => hk.other q (by omega) (by omega)) HSp1_w7.out
          have HGp_w8 := Lib.hid (HGp_w7.out.kept hk (by omega) (by omega))
          have HZp_w8 := Lib.hid hnew
          clear hk hnew hY HZp_w7 x0 u0 x1 u1 x2 u2 HSp0_w7 HSp1_w7 HGp_w7
          refine hK.out _ _ ?_ (fun hHeld => ?_)
          · exact HKS.out _ HB_w8.out
          clear hK K
          try simp only [Act.put, List.setIfInBounds_toArray, List.set_cons_zero, List.set_cons_succ]
          refine wpAnyH_take (i := 10) (oi := { dst := some 7, op := Go.Op.assign (Go.Operand.tmp 34), type := 4, pos := "exact.go:4865", after := #[{ on := 7, ground := Go.Ground.data }, { on := 9, ground := Go.Ground.chain }, { on := 0, ground := Go.Ground.phase }, { on := 1, ground := Go.Ground.phase }, { on := 2, ground := Go.Ground.phase }, { on := 3, ground := Go.Ground.phase }, { on := 4, ground := Go.Ground.phase }, { on := 5, ground := Go.Ground.phase }, { on := 6, ground := Go.Ground.phase }, { on := 7, ground := Go.Ground.phase }, { on := 8, ground := Go.Ground.phase }, { on := 9, ground := Go.Ground.phase }], guard := none }) (v := ?_) rfl (by kernel_rfl) (by kernel_rfl) (by kernel_rfl) (fun _ _ _ h => h) (Or.inl ⟨by rfl, ?_⟩) (by assumption) ?_
          rotate_left
          · intro w hSw
            try dsimp only at hSw
            go_simp
            all_goals (with_reducible rfl)
          try simp only [Act.put, List.setIfInBounds_toArray, List.set_cons_zero, List.set_cons_succ]
          refine wpAnyH_done (by kernel_rfl) ?_ _
          go_wp2_with fail
          go_meet
          exact ⟨_, xap, xcp, yap, ycp, zap, zcp, rfl, rfl, HZp_w8, Lib.hid (HGp_w8.out.more (by omega) (by omega)), (by omega), HBX_w8⟩
        · skip
          go_simp
          obtain ⟨w9, hY⟩ : ∃ Y, Y = w5.alloc (.cells #[.slice none 0 0, .slice none 0 0, .slice none 0 0] 51) := ⟨_, rfl⟩
          rw [← hY]
          have hb : Below w5.heap.size w5 w9 := by rw [hY]; exact (Below.refl _ _).alloc (Nat.le_refl _) _
          have hnew : Row w9 w5.heap.size 51 #[.slice none 0 0, .slice none 0 0, .slice none 0 0] := by rw [hY]; exact Row.new _ _ _
          have hs_w9 : w5.heap.size < w9.heap.size := hnew.lt
          have HB_w9 : Hid (Below W1.heap.size W1 w9) := HB_w5.out.trans (hb.mono HB_w5.out.size)
          have hz_w9 : w5.heap.size ≤ w9.heap.size := hb.size
          have HBX_w9 : Hid (Below w2.heap.size w2 w9) := HBX_w5.out.trans (hb.mono HBX_w5.out.size)
          have HSp0_w9 := Lib.hid (Lay.au.sunder HSp0_w5.out hb (by omega))
          have HSp1_w9 := Lib.hid (Lay.au.sunder HSp1_w5.out hb (by omega))
          have HZp_w9 := Lib.hid hnew
          clear hnew hb hY HSp0_w5 HSp1_w5
          refine hK.out _ _ ?_ (fun hHeld => ?_)
          · exact HKS.out _ HB_w9.out
          clear hK K
          try simp only [Act.put, List.setIfInBounds_toArray, List.set_cons_zero, List.set_cons_succ]
          refine wpAnyH_ready (rs := [4]) (by kernel_rfl) (by simp) (AllReadyH.cons (o := { dst := some 32, op := Go.Op.call { callee := Go.Callee.value (Go.Operand.func 21), args := #[Go.Operand.tmp 29, Go.Operand.tmp 31], argTypes := #[51, 51] }, type := 52, pos := "exact.go:4865", after := #[{ on := 1, ground := Go.Ground.data }, { on := 3, ground := Go.Ground.data }, { on := 3, ground := Go.Ground.chain }], guard := none }) rfl (fun K hK => ?_) AllReadyH.nil)
          go_simp
          refine (specUa_any e0 (fun j => (#[.slice p0xa p0xl p0xc, .slice p0ya p0yl p0yc, .slice p0za p0zl p0zc] : Array Value).getD j undef) e1 (fun j => (#[.slice p1xa p1xl p1xc, .slice p1ya p1yl p1yc, .slice p1za p1zl p1zc] : Array Value).getD j undef) _ (Lay.au.more (Lay.au.sep_lies HSp0_w9.out) (by omega)) (Lay.au.more (Lay.au.sep_lies HSp1_w9.out) (by omega)) HD0.out HD1.out).mono ?_
          rintro e' w10 ⟨Xp, Yp, Zp, rfl, hS, hb⟩
          rw [← HV0.out] at hS
          rw [← HV1.out]
          obtain ⟨xap, xcp, yap, ycp, zap, zcp, rfl, rfl, rfl⟩ := hS.form
          have HB_w10 : Hid (Below W1.heap.size W1 w10) := HB_w9.out.trans (hb.mono HB_w9.out.size)
          have hz_w10 : w9.heap.size ≤ w10.heap.size := hb.size
          have HBX_w10 : Hid (Below w2.heap.size w2 w10) := HBX_w9.out.trans (hb.mono HBX_w9.out.size)
          have HSp0_w10 := Lib.hid (Lay.au.sunder HSp0_w9.out hb (by omega))
          have HSp1_w10 := Lib.hid (Lay.au.sunder HSp1_w9.out hb (by omega))
          have HZp_w10 := Lib.hid (HZp_w9.out.under hb HZp_w9.out.lt)
          have HGp_w10 : Hid (AuR w10 w9.heap.size w10.heap.size vl0.ini vl0.acc vl0.es (.slice xap vl0.ini.length xcp) (.slice yap vl0.acc.length ycp) (.slice zap vl0.es.length zcp)) := hS
          clear hS hb HSp0_w9 HSp1_w9 HZp_w9
          try go_wp2_with fail
          refine hK.out _ _ ?_ (fun hHeld => ?_)
          · exact HKS.out _ HB_w10.out
          clear hK K
          try simp only [Act.put, List.setIfInBounds_toArray, List.set_cons_zero, List.set_cons_succ]
          refine wpAnyH_take (i := 5) (oi := { dst := some 27, op := Go.Op.move (Go.Operand.tmp 32), type := 52, pos := "exact.go:4865", after := #[{ on := 4, ground := Go.Ground.data }], guard := none }) (v := ?_) rfl (by kernel_rfl) (by kernel_rfl) (by kernel_rfl) (fun _ _ _ h => h) (Or.inl ⟨by rfl, ?_⟩) (by assumption) ?_
          rotate_left
          · intro w hSw
            try dsimp only at hSw
            go_simp
            all_goals (with_reducible rfl)
          try simp only [Act.put, List.setIfInBounds_toArray, List.set_cons_zero, List.set_cons_succ]
          refine wpAnyH_take (i := 6) (oi := { dst := some 33, op := Go.Op.extract (Go.Operand.tmp 27) 0, type := 51, pos := "exact.go:4865", after := #[{ on := 5, ground := Go.Ground.data }], guard := none }) (v := ?_) rfl (by kernel_rfl) (by kernel_rfl) (by kernel_rfl) (fun _ _ _ h => h) (Or.inl ⟨by rfl, ?_⟩) (by assumption) ?_
          rotate_left
          · intro w hSw
            try dsimp only at hSw
            go_simp
            all_goals (with_reducible rfl)
          try simp only [Act.put, List.setIfInBounds_toArray, List.set_cons_zero, List.set_cons_succ]
          refine wpAnyH_take (i := 7) (oi := { dst := some 34, op := Go.Op.extract (Go.Operand.tmp 27) 1, type := 4, pos := "exact.go:4865", after := #[{ on := 5, ground := Go.Ground.data }, { on := 9, ground := Go.Ground.gcOnly Go.Departure.lateStores }], guard := none }) (v := ?_) rfl (by kernel_rfl) (by kernel_rfl) (by kernel_rfl) (fun _ _ _ h => h) (Or.inl ⟨by rfl, ?_⟩) (by assumption) ?_
          rotate_left
          · intro w hSw
            try dsimp only at hSw
            go_simp
            all_goals (with_reducible rfl)
          try simp only [Act.put, List.setIfInBounds_toArray, List.set_cons_zero, List.set_cons_succ]
          refine wpAnyH_ready (rs := [9]) (by kernel_rfl) (by simp) (AllReadyH.cons (o := { dst := none, op := Go.Op.store 51 (Go.Operand.tmp 6) (Go.Operand.tmp 33), type := 0, pos := "exact.go:4865", after := #[{ on := 8, ground := Go.Ground.data }, { on := 6, ground := Go.Ground.data }, { on := 4, ground := Go.Ground.chain }, { on := 0, ground := Go.Ground.phase }, { on := 1, ground := Go.Ground.phase }, { on := 2, ground := Go.Ground.phase }, { on := 3, ground := Go.Ground.phase }, { on := 4, ground := Go.Ground.phase }, { on := 5, ground := Go.Ground.phase }, { on := 6, ground := Go.Ground.phase }, { on := 7, ground := Go.Ground.textOnly Go.Departure.lateStores }, { on := 8, ground := Go.Ground.phase }], guard := none }) rfl (fun K hK => ?_) AllReadyH.nil)
          obtain ⟨x0, x1, x2⟩ := HZp_w10.out.three
          have u0 := HZp_w10.out.frozen 0
          have u1 := HZp_w10.out.frozen 1
          have u2 := HZp_w10.out.frozen 2
          go_simp
          obtain ⟨w11, hY⟩ : ∃ Y, Y = ((w10.setCell ⟨w5.heap.size, 0, none⟩ (.slice xap vl0.ini.length xcp)).setCell ⟨w5.heap.size, 1, none⟩ (.slice yap vl0.acc.length ycp)).setCell ⟨w5.heap.size, 2, none⟩ (.slice zap vl0.es.length zcp) := ⟨_, rfl⟩
          rw [← hY]
          have hk : Kept w5.heap.size (w5.heap.size + 1) w10 w11 := by rw [hY]; exact (((Kept.refl w5.heap.size (w5.heap.size + 1) w10).trans (Kept.set_ w5.heap.size (w5.heap.size + 1) _ (Nat.le_refl _) (Nat.lt_succ_self _) 0 _)).trans (Kept.set_ w5.heap.size (w5.heap.size + 1) _ (Nat.le_refl _) (Nat.lt_succ_self _) 1 _)).trans (Kept.set_ w5.heap.size (w5.heap.size + 1) _ (Nat.le_refl _) (Nat.lt_succ_self _) 2 _)
          have hnew : Row w11 w5.heap.size 51 #[(.slice xap vl0.ini.length xcp), (.slice yap vl0.acc.length ycp), (.slice zap vl0.es.length zcp)] := by rw [hY]; exact (((HZp_w10.out.set_ 0 (.slice xap vl0.ini.length xcp)).set_ 1 (.slice yap vl0.acc.length ycp)).set_ 2 (.slice zap vl0.es.length zcp))
          have HB_w11 : Hid (Below W1.heap.size W1 w11) := HB_w10.out.trans (hk.below (by omega) (by omega))
          have hz_w11 : w10.heap.size ≤ w11.heap.size := hk.size
          have HBX_w11 : Hid (Below w2.heap.size w2 w11) := HBX_w10.out.trans (hk.below (by omega) (by omega))
          have HSp0_w11 : Hid (Lay.au.sep w11 w3.heap.size w4.heap.size e0 (fun j => (#[.slice p0xa p0xl p0xc, .slice p0ya p0yl p0yc, .slice p0za p0zl p0zc] : Array Value).getD j undef)) := Lay.au.sep_keep (fun q b1 b2 => hk.other q (by omega) (by omega)) HSp0_w10.out
          have HSp1_w11 : Hid (Lay.au.sep w11 w4.heap.size w5.heap.size e1 (fun j => (#[.slice p1xa p1xl p1xc, .slice p1ya p1yl p1yc, .slice p1za p1zl p1zc] : Array Value).getD j undef)) := Lay.au.sep_keep (fun q b1 b2 => hk.other q (by omega) (by omega)) HSp1_w10.out
          have HGp_w11 := Lib.hid (HGp_w10.out.kept hk (by omega) (by omega))
          have HZp_w11 := Lib.hid hnew
          clear hk hnew hY HZp_w10 x0 u0 x1 u1 x2 u2 HSp0_w10 HSp1_w10 HGp_w10
          refine hK.out _ _ ?_ (fun hHeld => ?_)
          · exact HKS.out _ HB_w11.out
          clear hK K
          try simp only [Act.put, List.setIfInBounds_toArray, List.set_cons_zero, List.set_cons_succ]
          refine wpAnyH_take (i := 10) (oi := { dst := some 7, op := Go.Op.assign (Go.Operand.tmp 34), type := 4, pos := "exact.go:4865", after := #[{ on := 7, ground := Go.Ground.data }, { on := 9, ground := Go.Ground.chain }, { on := 0, ground := Go.Ground.phase }, { on := 1, ground := Go.Ground.phase }, { on := 2, ground := Go.Ground.phase }, { on := 3, ground := Go.Ground.phase }, { on := 4, ground := Go.Ground.phase }, { on := 5, ground := Go.Ground.phase }, { on := 6, ground := Go.Ground.phase }, { on := 7, ground := Go.Ground.phase }, { on := 8, ground := Go.Ground.phase }, { on := 9, ground := Go.Ground.phase }], guard := none }) (v := ?_) rfl (by kernel_rfl) (by kernel_rfl) (by kernel_rfl) (fun _ _ _ h => h) (Or.inl ⟨by rfl, ?_⟩) (by assumption) ?_
          rotate_left
          · intro w hSw
            try dsimp only at hSw
            go_simp
            all_goals (with_reducible rfl)
          try simp only [Act.put, List.setIfInBounds_toArray, List.set_cons_zero, List.set_cons_succ]
          refine wpAnyH_done (by kernel_rfl) ?_ _
          go_wp2_with fail
          go_meet
          exact ⟨_, xap, xcp, yap, ycp, zap, zcp, rfl, rfl, HZp_w11, Lib.hid (HGp_w11.out.more (by omega) (by omega)), (by omega), HBX_w11⟩
      · skip
        go_simp
        obtain ⟨w12, hY⟩ : ∃ Y, Y = w4.alloc (.cells #[.slice none 0 0, .slice none 0 0, .slice none 0 0] 51) := ⟨_, rfl⟩
        rw [← hY]
        have hb : Below w4.heap.size w4 w12 := by rw [hY]; exact (Below.refl _ _).alloc (Nat.le_refl _) _
        have hnew : Row w12 w4.heap.size 51 #[.slice none 0 0, .slice none 0 0, .slice none 0 0] := by rw [hY]; exact Row.new _ _ _
        have hs_w12 : w4.heap.size < w12.heap.size := hnew.lt
        have HB_w12 : Hid (Below W1.heap.size W1 w12) := HB_w4.out.trans (hb.mono HB_w4.out.size)
        have hz_w12 : w4.heap.size ≤ w12.heap.size := hb.size
        have HBX_w12 : Hid (Below w2.heap.size w2 w12) := HBX_w4.out.trans (hb.mono HBX_w4.out.size)
        have HSp0_w12 := Lib.hid (Lay.au.sunder HSp0_w4.out hb (by omega))
        have HZp_w12 := Lib.hid hnew
        clear hnew hb hY HSp0_w4
        refine hK.out _ _ ?_ (fun hHeld => ?_)
        · exact HKS.out _ HB_w12.out
        clear hK K
        try simp only [Act.put, List.setIfInBounds_toArray, List.set_cons_zero, List.set_cons_succ]
        refine wpAnyH_ready (rs := [3]) (by kernel_rfl) (by simp) (AllReadyH.cons (o := { dst := some 31, op := Go.Op.call { callee := Go.Callee.value (Go.Operand.func 22), args := #[Go.Operand.tmp 30], argTypes := #[47] }, type := 51, pos := "exact.go:4865", after := #[{ on := 2, ground := Go.Ground.data }, { on := 1, ground := Go.Ground.chain }], guard := none }) rfl (fun K hK => ?_) AllReadyH.nil)
        go_simp
        refine (toAu_any e1 C1 _ (Lay.au.later HL1.out HB_w12.out HB_w12.out.size) HD1.out).mono ?_
        rintro e' w13 ⟨p1xa, p1xl, p1xc, p1ya, p1yl, p1yc, p1za, p1zl, p1zc, rfl, hs, hb⟩
        have HB_w13 : Hid (Below W1.heap.size W1 w13) := HB_w12.out.trans (hb.mono HB_w12.out.size)
        have hz_w13 : w12.heap.size ≤ w13.heap.size := hb.size
        have HBX_w13 : Hid (Below w2.heap.size w2 w13) := HBX_w12.out.trans (hb.mono HBX_w12.out.size)
        have HSp0_w13 := Lib.hid (Lay.au.sunder HSp0_w12.out hb (by omega))
        have HZp_w13 := Lib.hid (HZp_w12.out.under hb HZp_w12.out.lt)
        have HSp1_w13 : Hid (Lay.au.sep w13 w12.heap.size w13.heap.size e1 (fun j => (#[.slice p1xa p1xl p1xc, .slice p1ya p1yl p1yc, .slice p1za p1zl p1zc] : Array Value).getD j undef)) := hs
        clear hs hb HSp0_w12 HZp_w12
        try go_wp2_with fail
        refine hK.out _ _ ?_ (fun hHeld => ?_)
        · exact HKS.out _ HB_w13.out
        clear hK K
        try simp only [Act.put, List.setIfInBounds_toArray, List.set_cons_zero, List.set_cons_succ]
        refine wpAnyH_ready (rs := [4]) (by kernel_rfl) (by simp) (AllReadyH.cons (o := { dst := some 32, op := Go.Op.call { callee := Go.Callee.value (Go.Operand.func 21), args := #[Go.Operand.tmp 29, Go.Operand.tmp 31], argTypes := #[51, 51] }, type := 52, pos := "exact.go:4865", after := #[{ on := 1, ground := Go.Ground.data }, { on := 3, ground := Go.Ground.data }, { on := 3, ground := Go.Ground.chain }], guard := none }) rfl (fun K hK => ?_) AllReadyH.nil)
        go_simp
        refine (specUa_any e0 (fun j => (#[.slice p0xa p0xl p0xc, .slice p0ya p0yl p0yc, .slice p0za p0zl p0zc] : Array Value).getD j undef) e1 (fun j => (#[.slice p1xa p1xl p1xc, .slice p1ya p1yl p1yc, .slice p1za p1zl p1zc] : Array Value).getD j undef) _ (Lay.au.more (Lay.au.sep_lies HSp0_w13.out) (by omega)) (Lay.au.more (Lay.au.sep_lies HSp1_w13.out) (by omega)) HD0.out HD1.out).mono ?_
        rintro e' w14 ⟨Xp, Yp, Zp, rfl, hS, hb⟩
        rw [← HV0.out] at hS
        rw [← HV1.out]
        obtain ⟨xap, xcp, yap, ycp, zap, zcp, rfl, rfl, rfl⟩ := hS.form
        have HB_w14 : Hid (Below W1.heap.size W1 w14) := HB_w13.out.trans (hb.mono HB_w13.out.size)
        have hz_w14 : w13.heap.size ≤ w14.heap.size := hb.size
        have HBX_w14 : Hid (Below w2.heap.size w2 w14) := HBX_w13.out.trans (hb.mono HBX_w13.out.size)
        have HSp0_w14 := Lib.hid (Lay.au.sunder HSp0_w13.out hb (by omega))
        have HZp_w14 := Lib.hid (HZp_w13.out.under hb HZp_w13.out.lt)
        have HSp1_w14 := Lib.hid (Lay.au.sunder HSp1_w13.out hb (by omega))
        have HGp_w14 : Hid (AuR w14 w13.heap.size w14.heap.size vl0.ini vl0.acc vl0.es (.slice xap vl0.ini.length xcp) (.slice yap vl0.acc.length ycp) (.slice zap vl0.es.length zcp)) := hS
        clear hS hb HSp0_w13 HZp_w13 HSp1_w13
        try go_wp2_with fail
        refine hK.out _ _ ?_ (fun hHeld => ?_)
        · exact HKS.out _ HB_w14.out
        clear hK K
        try simp only [Act.put, List.setIfInBounds_toArray, List.set_cons_zero, List.set_cons_succ]
        refine wpAnyH_take (i := 5) (oi := { dst := some 27, op := Go.Op.move (Go.Operand.tmp 32), type := 52, pos := "exact.go:4865", after := #[{ on := 4, ground := Go.Ground.data }], guard := none }) (v := ?_) rfl (by kernel_rfl) (by kernel_rfl) (by kernel_rfl) (fun _ _ _ h => h) (Or.inl ⟨by rfl, ?_⟩) (by assumption) ?_
        rotate_left
        · intro w hSw
          try dsimp only at hSw
          go_simp
          all_goals (with_reducible rfl)
        try simp only [Act.put, List.setIfInBounds_toArray, List.set_cons_zero, List.set_cons_succ]
        refine wpAnyH_take (i := 6) (oi := { dst := some 33, op := Go.Op.extract (Go.Operand.tmp 27) 0, type := 51, pos := "exact.go:4865", after := #[{ on := 5, ground := Go.Ground.data }], guard := none }) (v := ?_) rfl (by kernel_rfl) (by kernel_rfl) (by kernel_rfl) (fun _ _ _ h => h) (Or.inl ⟨by rfl, ?_⟩) (by assumption) ?_
        rotate_left
        · intro w hSw
          try dsimp only at hSw
          go_simp
          all_goals (with_reducible rfl)
        try simp only [Act.put, List.setIfInBounds_toArray, List.set_cons_zero, List.set_cons_succ]
        refine wpAnyH_take (i := 7) (oi := { dst := some 34, op := Go.Op.extract (Go.Operand.tmp 27) 1, type := 4, pos := "exact.go:4865", after := #[{ on := 5, ground := Go.Ground.data }, { on := 9, ground := Go.Ground.gcOnly Go.Departure.lateStores }], guard := none }) (v := ?_) rfl (by kernel_rfl) (by kernel_rfl) (by kernel_rfl) (fun _ _ _ h => h) (Or.inl ⟨by rfl, ?_⟩) (by assumption) ?_
        rotate_left
        · intro w hSw
          try dsimp only at hSw
          go_simp
          all_goals (with_reducible rfl)
        try simp only [Act.put, List.setIfInBounds_toArray, List.set_cons_zero, List.set_cons_succ]
        refine wpAnyH_ready (rs := [9]) (by kernel_rfl) (by simp) (AllReadyH.cons (o := { dst := none, op := Go.Op.store 51 (Go.Operand.tmp 6) (Go.Operand.tmp 33), type := 0, pos := "exact.go:4865", after := #[{ on := 8, ground := Go.Ground.data }, { on := 6, ground := Go.Ground.data }, { on := 4, ground := Go.Ground.chain }, { on := 0, ground := Go.Ground.phase }, { on := 1, ground := Go.Ground.phase }, { on := 2, ground := Go.Ground.phase }, { on := 3, ground := Go.Ground.phase }, { on := 4, ground := Go.Ground.phase }, { on := 5, ground := Go.Ground.phase }, { on := 6, ground := Go.Ground.phase }, { on := 7, ground := Go.Ground.textOnly Go.Departure.lateStores }, { on := 8, ground := Go.Ground.phase }], guard := none }) rfl (fun K hK => ?_) AllReadyH.nil)
        obtain ⟨x0, x1, x2⟩ := HZp_w14.out.three
        have u0 := HZp_w14.out.frozen 0
        have u1 := HZp_w14.out.frozen 1
        have u2 := HZp_w14.out.frozen 2
        go_simp
        obtain ⟨w15, hY⟩ : ∃ Y, Y = ((w14.setCell ⟨w4.heap.size, 0, none⟩ (.slice xap vl0.ini.length xcp)).setCell ⟨w4.heap.size, 1, none⟩ (.slice yap vl0.acc.length ycp)).setCell ⟨w4.heap.size, 2, none⟩ (.slice zap vl0.es.length zcp) := ⟨_, rfl⟩
        rw [← hY]
        have hk : Kept w4.heap.size (w4.heap.size + 1) w14 w15 := by rw [hY]; exact (((Kept.refl w4.heap.size (w4.heap.size + 1) w14).trans (Kept.set_ w4.heap.size (w4.heap.size + 1) _ (Nat.le_refl _) (Nat.lt_succ_self _) 0 _)).trans (Kept.set_ w4.heap.size (w4.heap.size + 1) _ (Nat.le_refl _) (Nat.lt_succ_self _) 1 _)).trans (Kept.set_ w4.heap.size (w4.heap.size + 1) _ (Nat.le_refl _) (Nat.lt_succ_self _) 2 _)
        have hnew : Row w15 w4.heap.size 51 #[(.slice xap vl0.ini.length xcp), (.slice yap vl0.acc.length ycp), (.slice zap vl0.es.length zcp)] := by rw [hY]; exact (((HZp_w14.out.set_ 0 (.slice xap vl0.ini.length xcp)).set_ 1 (.slice yap vl0.acc.length ycp)).set_ 2 (.slice zap vl0.es.length zcp))
        have HB_w15 : Hid (Below W1.heap.size W1 w15) := HB_w14.out.trans (hk.below (by omega) (by omega))
        have hz_w15 : w14.heap.size ≤ w15.heap.size := hk.size
        have HBX_w15 : Hid (Below w2.heap.size w2 w15) := HBX_w14.out.trans (hk.below (by omega) (by omega))
        have HSp0_w15 : Hid (Lay.au.sep w15 w3.heap.size w4.heap.size e0 (fun j => (#[.slice p0xa p0xl p0xc, .slice p0ya p0yl p0yc, .slice p0za p0zl p0zc] : Array Value).getD j undef)) := Lay.au.sep_keep (fun q b1 b2 => hk.other q (by omega) (by omega)) HSp0_w14.out
        have HSp1_w15 : Hid (Lay.au.sep w15 w12.heap.size w13.heap.size e1 (fun j => (#[.slice p1xa p1xl p1xc, .slice p1ya p1yl p1yc, .slice p1za p1zl p1zc] : Array Value).getD j undef)) := Lay.au.sep_keep (fun q b1 b2 => hk.other q (by omega) (by omega)) HSp1_w14.out
        have HGp_w15 := Lib.hid (HGp_w14.out.kept hk (by omega) (by omega))
        have HZp_w15 := Lib.hid hnew
        clear hk hnew hY HZp_w14 x0 u0 x1 u1 x2 u2 HSp0_w14 HSp1_w14 HGp_w14
        refine hK.out _ _ ?_ (fun hHeld => ?_)
        · exact HKS.out _ HB_w15.out
        clear hK K
        try simp only [Act.put, List.setIfInBounds_toArray, List.set_cons_zero, List.set_cons_succ]
        refine wpAnyH_take (i := 10) (oi := { dst := some 7, op := Go.Op.assign (Go.Operand.tmp 34), type := 4, pos := "exact.go:4865", after := #[{ on := 7, ground := Go.Ground.data }, { on := 9, ground := Go.Ground.chain }, { on := 0, ground := Go.Ground.phase }, { on := 1, ground := Go.Ground.phase }, { on := 2, ground := Go.Ground.phase }, { on := 3, ground := Go.Ground.phase }, { on := 4, ground := Go.Ground.phase }, { on := 5, ground := Go.Ground.phase }, { on := 6, ground := Go.Ground.phase }, { on := 7, ground := Go.Ground.phase }, { on := 8, ground := Go.Ground.phase }, { on := 9, ground := Go.Ground.phase }], guard := none }) (v := ?_) rfl (by kernel_rfl) (by kernel_rfl) (by kernel_rfl) (fun _ _ _ h => h) (Or.inl ⟨by rfl, ?_⟩) (by assumption) ?_
        rotate_left
        · intro w hSw
          try dsimp only at hSw
          go_simp
          all_goals (with_reducible rfl)
        try simp only [Act.put, List.setIfInBounds_toArray, List.set_cons_zero, List.set_cons_succ]
        refine wpAnyH_done (by kernel_rfl) ?_ _
        go_wp2_with fail
        go_meet
        exact ⟨_, xap, xcp, yap, ycp, zap, zcp, rfl, rfl, HZp_w15, Lib.hid (HGp_w15.out.more (by omega) (by omega)), (by omega), HBX_w15⟩
    · skip
      go_simp
      obtain ⟨w16, hY⟩ : ∃ Y, Y = w3.alloc (.cells #[.slice none 0 0, .slice none 0 0, .slice none 0 0] 51) := ⟨_, rfl⟩
      rw [← hY]
      have hb : Below w3.heap.size w3 w16 := by rw [hY]; exact (Below.refl _ _).alloc (Nat.le_refl _) _
      have hnew : Row w16 w3.heap.size 51 #[.slice none 0 0, .slice none 0 0, .slice none 0 0] := by rw [hY]; exact Row.new _ _ _
      have hs_w16 : w3.heap.size < w16.heap.size := hnew.lt
      have HB_w16 : Hid (Below W1.heap.size W1 w16) := HB_w3.out.trans (hb.mono HB_w3.out.size)
      have hz_w16 : w3.heap.size ≤ w16.heap.size := hb.size
      have HBX_w16 : Hid (Below w2.heap.size w2 w16) := HBX_w3.out.trans (hb.mono HBX_w3.out.size)
      have HZp_w16 := Lib.hid hnew
      clear hnew hb hY
      refine hK.out _ _ ?_ (fun hHeld => ?_)
      · exact HKS.out _ HB_w16.out
      clear hK K
      try simp only [Act.put, List.setIfInBounds_toArray, List.set_cons_zero, List.set_cons_succ]
      refine wpAnyH_ready (rs := [1]) (by kernel_rfl) (by simp) (AllReadyH.cons (o := { dst := some 29, op := Go.Op.call { callee := Go.Callee.value (Go.Operand.func 22), args := #[Go.Operand.tmp 28], argTypes := #[47] }, type := 51, pos := "exact.go:4865", after := #[{ on := 0, ground := Go.Ground.data }], guard := none }) rfl (fun K hK => ?_) AllReadyH.nil)
      go_simp
      refine (toAu_any e0 C0 _ (Lay.au.later HL0.out HB_w16.out HB_w16.out.size) HD0.out).mono ?_
      rintro e' w17 ⟨p0xa, p0xl, p0xc, p0ya, p0yl, p0yc, p0za, p0zl, p0zc, rfl, hs, hb⟩
      have HB_w17 : Hid (Below W1.heap.size W1 w17) := HB_w16.out.trans (hb.mono HB_w16.out.size)
      have hz_w17 : w16.heap.size ≤ w17.heap.size := hb.size
      have HBX_w17 : Hid (Below w2.heap.size w2 w17) := HBX_w16.out.trans (hb.mono HBX_w16.out.size)
      have HZp_w17 := Lib.hid (HZp_w16.out.under hb HZp_w16.out.lt)
      have HSp0_w17 : Hid (Lay.au.sep w17 w16.heap.size w17.heap.size e0 (fun j => (#[.slice p0xa p0xl p0xc, .slice p0ya p0yl p0yc, .slice p0za p0zl p0zc] : Array Value).getD j undef)) := hs
      clear hs hb HZp_w16
      try go_wp2_with fail
      refine hK.out _ _ ?_ (fun hHeld => ?_)
      · exact HKS.out _ HB_w17.out
      clear hK K
      try simp only [Act.put, List.setIfInBounds_toArray, List.set_cons_zero, List.set_cons_succ]
      refine wpAnyH_ready (rs := [3]) (by kernel_rfl) (by simp) (AllReadyH.cons (o := { dst := some 31, op := Go.Op.call { callee := Go.Callee.value (Go.Operand.func 22), args := #[Go.Operand.tmp 30], argTypes := #[47] }, type := 51, pos := "exact.go:4865", after := #[{ on := 2, ground := Go.Ground.data }, { on := 1, ground := Go.Ground.chain }], guard := none }) rfl (fun K hK => ?_) AllReadyH.nil)
      go_simp
      refine (toAu_any e1 C1 _ (Lay.au.later HL1.out HB_w17.out HB_w17.out.size) HD1.out).mono ?_
      rintro e' w18 ⟨p1xa, p1xl, p1xc, p1ya, p1yl, p1yc, p1za, p1zl, p1zc, rfl, hs, hb⟩
      have HB_w18 : Hid (Below W1.heap.size W1 w18) := HB_w17.out.trans (hb.mono HB_w17.out.size)
      have hz_w18 : w17.heap.size ≤ w18.heap.size := hb.size
      have HBX_w18 : Hid (Below w2.heap.size w2 w18) := HBX_w17.out.trans (hb.mono HBX_w17.out.size)
      have HZp_w18 := Lib.hid (HZp_w17.out.under hb HZp_w17.out.lt)
      have HSp0_w18 := Lib.hid (Lay.au.sunder HSp0_w17.out hb (by omega))
      have HSp1_w18 : Hid (Lay.au.sep w18 w17.heap.size w18.heap.size e1 (fun j => (#[.slice p1xa p1xl p1xc, .slice p1ya p1yl p1yc, .slice p1za p1zl p1zc] : Array Value).getD j undef)) := hs
      clear hs hb HZp_w17 HSp0_w17
      try go_wp2_with fail
      refine hK.out _ _ ?_ (fun hHeld => ?_)
      · exact HKS.out _ HB_w18.out
      clear hK K
      try simp only [Act.put, List.setIfInBounds_toArray, List.set_cons_zero, List.set_cons_succ]
      refine wpAnyH_ready (rs := [4]) (by kernel_rfl) (by simp) (AllReadyH.cons (o := { dst := some 32, op := Go.Op.call { callee := Go.Callee.value (Go.Operand.func 21), args := #[Go.Operand.tmp 29, Go.Operand.tmp 31], argTypes := #[51, 51] }, type := 52, pos := "exact.go:4865", after := #[{ on := 1, ground := Go.Ground.data }, { on := 3, ground := Go.Ground.data }, { on := 3, ground := Go.Ground.chain }], guard := none }) rfl (fun K hK => ?_) AllReadyH.nil)
      go_simp
      refine (specUa_any e0 (fun j => (#[.slice p0xa p0xl p0xc, .slice p0ya p0yl p0yc, .slice p0za p0zl p0zc] : Array Value).getD j undef) e1 (fun j => (#[.slice p1xa p1xl p1xc, .slice p1ya p1yl p1yc, .slice p1za p1zl p1zc] : Array Value).getD j undef) _ (Lay.au.more (Lay.au.sep_lies HSp0_w18.out) (by omega)) (Lay.au.more (Lay.au.sep_lies HSp1_w18.out) (by omega)) HD0.out HD1.out).mono ?_
      rintro e' w19 ⟨Xp, Yp, Zp, rfl, hS, hb⟩
      rw [← HV0.out] at hS
      rw [← HV1.out]
      obtain ⟨xap, xcp, yap, ycp, zap, zcp, rfl, rfl, rfl⟩ := hS.form
      have HB_w19 : Hid (Below W1.heap.size W1 w19) := HB_w18.out.trans (hb.mono HB_w18.out.size)
      have hz_w19 : w18.heap.size ≤ w19.heap.size := hb.size
      have HBX_w19 : Hid (Below w2.heap.size w2 w19) := HBX_w18.out.trans (hb.mono HBX_w18.out.size)
      have HZp_w19 := Lib.hid (HZp_w18.out.under hb HZp_w18.out.lt)
      have HSp0_w19 := Lib.hid (Lay.au.sunder HSp0_w18.out hb (by omega))
      have HSp1_w19 := Lib.hid (Lay.au.sunder HSp1_w18.out hb (by omega))
      have HGp_w19 : Hid (AuR w19 w18.heap.size w19.heap.size vl0.ini vl0.acc vl0.es (.slice xap vl0.ini.length xcp) (.slice yap vl0.acc.length ycp) (.slice zap vl0.es.length zcp)) := hS
      clear hS hb HZp_w18 HSp0_w18 HSp1_w18
      try go_wp2_with fail
      refine hK.out _ _ ?_ (fun hHeld => ?_)
      · exact HKS.out _ HB_w19.out
      clear hK K
      try simp only [Act.put, List.setIfInBounds_toArray, List.set_cons_zero, List.set_cons_succ]
      refine wpAnyH_take (i := 5) (oi := { dst := some 27, op := Go.Op.move (Go.Operand.tmp 32), type := 52, pos := "exact.go:4865", after := #[{ on := 4, ground := Go.Ground.data }], guard := none }) (v := ?_) rfl (by kernel_rfl) (by kernel_rfl) (by kernel_rfl) (fun _ _ _ h => h) (Or.inl ⟨by rfl, ?_⟩) (by assumption) ?_
      rotate_left
      · intro w hSw
        try dsimp only at hSw
        go_simp
        all_goals (with_reducible rfl)
      try simp only [Act.put, List.setIfInBounds_toArray, List.set_cons_zero, List.set_cons_succ]
      refine wpAnyH_take (i := 6) (oi := { dst := some 33, op := Go.Op.extract (Go.Operand.tmp 27) 0, type := 51, pos := "exact.go:4865", after := #[{ on := 5, ground := Go.Ground.data }], guard := none }) (v := ?_) rfl (by kernel_rfl) (by kernel_rfl) (by kernel_rfl) (fun _ _ _ h => h) (Or.inl ⟨by rfl, ?_⟩) (by assumption) ?_
      rotate_left
      · intro w hSw
        try dsimp only at hSw
        go_simp
        all_goals (with_reducible rfl)
      try simp only [Act.put, List.setIfInBounds_toArray, List.set_cons_zero, List.set_cons_succ]
      refine wpAnyH_take (i := 7) (oi := { dst := some 34, op := Go.Op.extract (Go.Operand.tmp 27) 1, type := 4, pos := "exact.go:4865", after := #[{ on := 5, ground := Go.Ground.data }, { on := 9, ground := Go.Ground.gcOnly Go.Departure.lateStores }], guard := none }) (v := ?_) rfl (by kernel_rfl) (by kernel_rfl) (by kernel_rfl) (fun _ _ _ h => h) (Or.inl ⟨by rfl, ?_⟩) (by assumption) ?_
      rotate_left
      · intro w hSw
        try dsimp only at hSw
        go_simp
        all_goals (with_reducible rfl)
      try simp only [Act.put, List.setIfInBounds_toArray, List.set_cons_zero, List.set_cons_succ]
      refine wpAnyH_ready (rs := [9]) (by kernel_rfl) (by simp) (AllReadyH.cons (o := { dst := none, op := Go.Op.store 51 (Go.Operand.tmp 6) (Go.Operand.tmp 33), type := 0, pos := "exact.go:4865", after := #[{ on := 8, ground := Go.Ground.data }, { on := 6, ground := Go.Ground.data }, { on := 4, ground := Go.Ground.chain }, { on := 0, ground := Go.Ground.phase }, { on := 1, ground := Go.Ground.phase }, { on := 2, ground := Go.Ground.phase }, { on := 3, ground := Go.Ground.phase }, { on := 4, ground := Go.Ground.phase }, { on := 5, ground := Go.Ground.phase }, { on := 6, ground := Go.Ground.phase }, { on := 7, ground := Go.Ground.textOnly Go.Departure.lateStores }, { on := 8, ground := Go.Ground.phase }], guard := none }) rfl (fun K hK => ?_) AllReadyH.nil)
      obtain ⟨x0, x1, x2⟩ := HZp_w19.out.three
      have u0 := HZp_w19.out.frozen 0
      have u1 := HZp_w19.out.frozen 1
      have u2 := HZp_w19.out.frozen 2
      go_simp
      obtain ⟨w20, hY⟩ : ∃ Y, Y = ((w19.setCell ⟨w3.heap.size, 0, none⟩ (.slice xap vl0.ini.length xcp)).setCell ⟨w3.heap.size, 1, none⟩ (.slice yap vl0.acc.length ycp)).setCell ⟨w3.heap.size, 2, none⟩ (.slice zap vl0.es.length zcp) := ⟨_, rfl⟩
      rw [← hY]
      have hk : Kept w3.heap.size (w3.heap.size + 1) w19 w20 := by rw [hY]; exact (((Kept.refl w3.heap.size (w3.heap.size + 1) w19).trans (Kept.set_ w3.heap.size (w3.heap.size + 1) _ (Nat.le_refl _) (Nat.lt_succ_self _) 0 _)).trans (Kept.set_ w3.heap.size (w3.heap.size + 1) _ (Nat.le_refl _) (Nat.lt_succ_self _) 1 _)).trans (Kept.set_ w3.heap.size (w3.heap.size + 1) _ (Nat.le_refl _) (Nat.lt_succ_self _) 2 _)
      have hnew : Row w20 w3.heap.size 51 #[(.slice xap vl0.ini.length xcp), (.slice yap vl0.acc.length ycp), (.slice zap vl0.es.length zcp)] := by rw [hY]; exact (((HZp_w19.out.set_ 0 (.slice xap vl0.ini.length xcp)).set_ 1 (.slice yap vl0.acc.length ycp)).set_ 2 (.slice zap vl0.es.length zcp))
      have HB_w20 : Hid (Below W1.heap.size W1 w20) := HB_w19.out.trans (hk.below (by omega) (by omega))
      have hz_w20 : w19.heap.size ≤ w20.heap.size := hk.size
      have HBX_w20 : Hid (Below w2.heap.size w2 w20) := HBX_w19.out.trans (hk.below (by omega) (by omega))
      have HSp0_w20 : Hid (Lay.au.sep w20 w16.heap.size w17.heap.size e0 (fun j => (#[.slice p0xa p0xl p0xc, .slice p0ya p0yl p0yc, .slice p0za p0zl p0zc] : Array Value).getD j undef)) := Lay.au.sep_keep (fun q b1 b2 => hk.other q (by omega) (by omega)) HSp0_w19.out
      have HSp1_w20 : Hid (Lay.au.sep w20 w17.heap.size w18.heap.size e1 (fun j => (#[.slice p1xa p1xl p1xc, .slice p1ya p1yl p1yc, .slice p1za p1zl p1zc] : Array Value).getD j undef)) := Lay.au.sep_keep (fun q b1 b2 => hk.other q (by omega) (by omega)) HSp1_w19.out
      have HGp_w20 := Lib.hid (HGp_w19.out.kept hk (by omega) (by omega))
      have HZp_w20 := Lib.hid hnew
      clear hk hnew hY HZp_w19 x0 u0 x1 u1 x2 u2 HSp0_w19 HSp1_w19 HGp_w19
      refine hK.out _ _ ?_ (fun hHeld => ?_)
      · exact HKS.out _ HB_w20.out
      clear hK K
      try simp only [Act.put, List.setIfInBounds_toArray, List.set_cons_zero, List.set_cons_succ]
      refine wpAnyH_take (i := 10) (oi := { dst := some 7, op := Go.Op.assign (Go.Operand.tmp 34), type := 4, pos := "exact.go:4865", after := #[{ on := 7, ground := Go.Ground.data }, { on := 9, ground := Go.Ground.chain }, { on := 0, ground := Go.Ground.phase }, { on := 1, ground := Go.Ground.phase }, { on := 2, ground := Go.Ground.phase }, { on := 3, ground := Go.Ground.phase }, { on := 4, ground := Go.Ground.phase }, { on := 5, ground := Go.Ground.phase }, { on := 6, ground := Go.Ground.phase }, { on := 7, ground := Go.Ground.phase }, { on := 8, ground := Go.Ground.phase }, { on := 9, ground := Go.Ground.phase }], guard := none }) (v := ?_) rfl (by kernel_rfl) (by kernel_rfl) (by kernel_rfl) (fun _ _ _ h => h) (Or.inl ⟨by rfl, ?_⟩) (by assumption) ?_
      rotate_left
      · intro w hSw
        try dsimp only at hSw
        go_simp
        all_goals (with_reducible rfl)
      try simp only [Act.put, List.setIfInBounds_toArray, List.set_cons_zero, List.set_cons_succ]
      refine wpAnyH_done (by kernel_rfl) ?_ _
      go_wp2_with fail
      go_meet
      exact ⟨_, xap, xcp, yap, ycp, zap, zcp, rfl, rfl, HZp_w20, Lib.hid (HGp_w20.out.more (by omega) (by omega)), (by omega), HBX_w20⟩
  case rest =>
  obtain ⟨zzp, xap, xcp, yap, ycp, zap, zcp, rfl, rfl, HZc, HGc, hzp, HBc⟩ := hcut
  obtain ⟨w21, rfl⟩ : ∃ x, x = wc := ⟨_, rfl⟩
  have hb : Below w2.heap.size w2 w21 := HBc.out
  have HB_w21 : Hid (Below W1.heap.size W1 w21) := HB_w2.out.trans (hb.mono HB_w2.out.size)
  have hz_w21 : w2.heap.size ≤ w21.heap.size := hb.size
  have HGp_w21 := HGc
  have HZp_w21 := HZc
  clear HGc HZc
  have zltp : zzp < w21.heap.size := HZp_w21.out.lt
  clear hb HBc HKS
  clear g00 g01 g02 gl0 g10 g11 g12 gl1
  obtain ⟨g00, g01, g02⟩ := (HR0.out.under HB_w21.out HR0.out.lt).three
  have gl0 : w.heap.size < w21.heap.size := Nat.lt_of_lt_of_le HR0.out.lt HB_w21.out.size
  go_wp2_with fail
  refine (toAu_any e0 C0 _ (Lay.au.later HL0.out HB_w21.out HB_w21.out.size) HD0.out).mono ?_
  rintro e' w22 ⟨x0xa, x0xl, x0xc, x0ya, x0yl, x0yc, x0za, x0zl, x0zc, rfl, hs, hb⟩
  have HB_w22 : Hid (Below W1.heap.size W1 w22) := HB_w21.out.trans (hb.mono HB_w21.out.size)
  have hz_w22 : w21.heap.size ≤ w22.heap.size := hb.size
  have HGp_w22 := Lib.hid (HGp_w21.out.under hb (by omega))
  have HZp_w22 := Lib.hid (HZp_w21.out.under hb HZp_w21.out.lt)
  have HSx0_w22 : Hid (Lay.au.sep w22 w21.heap.size w22.heap.size e0 (fun j => (#[.slice x0xa x0xl x0xc, .slice x0ya x0yl x0yc, .slice x0za x0zl x0zc] : Array Value).getD j undef)) := hs
  clear hs hb HGp_w21 HZp_w21
  clear g00 g01 g02 gl0
  obtain ⟨g10, g11, g12⟩ := (HR1.out.under HB_w22.out HR1.out.lt).three
  have gl1 : w.heap.size + 1 < w22.heap.size := Nat.lt_of_lt_of_le HR1.out.lt HB_w22.out.size
  obtain ⟨w23, hW⟩ : ∃ X, X = w22.alloc (.cells #[.slice x0xa x0xl x0xc, .slice x0ya x0yl x0yc, .slice x0za x0zl x0zc] 51) := ⟨_, rfl⟩
  have HW_w23 := Lib.hid hW
  have hqq : Row w23 w22.heap.size 51 #[.slice x0xa x0xl x0xc, .slice x0ya x0yl x0yc, .slice x0za x0zl x0zc] := by rw [hW]; exact Row.new _ _ _
  have hb : Below w22.heap.size w22 w23 := by rw [hW]; exact (Below.refl _ _).alloc (Nat.le_refl _) _
  have hs_w23 : w22.heap.size < w23.heap.size := hqq.lt
  have HB_w23 : Hid (Below W1.heap.size W1 w23) := HB_w22.out.trans (hb.mono HB_w22.out.size)
  have hz_w23 : w22.heap.size ≤ w23.heap.size := hb.size
  have HGp_w23 := Lib.hid (HGp_w22.out.under hb (by omega))
  have HZp_w23 := Lib.hid (HZp_w22.out.under hb HZp_w22.out.lt)
  have HSx0_w23 := Lib.hid (Lay.au.sunder HSx0_w22.out hb (by omega))
  have HQ0_w23 := Lib.hid hqq
  clear hW hb hqq HGp_w22 HZp_w22 HSx0_w22
  go_wp2_with fail
  rw [← HW_w23.out]
  refine (toAu_any e1 C1 _ (Lay.au.later HL1.out HB_w23.out HB_w23.out.size) HD1.out).mono ?_
  rintro e' w24 ⟨x1xa, x1xl, x1xc, x1ya, x1yl, x1yc, x1za, x1zl, x1zc, rfl, hs, hb⟩
  have HB_w24 : Hid (Below W1.heap.size W1 w24) := HB_w23.out.trans (hb.mono HB_w23.out.size)
  have hz_w24 : w23.heap.size ≤ w24.heap.size := hb.size
  have HGp_w24 := Lib.hid (HGp_w23.out.under hb (by omega))
  have HZp_w24 := Lib.hid (HZp_w23.out.under hb HZp_w23.out.lt)
  have HSx0_w24 := Lib.hid (Lay.au.sunder HSx0_w23.out hb (by omega))
  have HQ0_w24 := Lib.hid (HQ0_w23.out.under hb HQ0_w23.out.lt)
  have HSx1_w24 : Hid (Lay.au.sep w24 w23.heap.size w24.heap.size e1 (fun j => (#[.slice x1xa x1xl x1xc, .slice x1ya x1yl x1yc, .slice x1za x1zl x1zc] : Array Value).getD j undef)) := hs
  clear hs hb HGp_w23 HZp_w23 HSx0_w23 HQ0_w23
  clear g10 g11 g12 gl1
  obtain ⟨q00, q01, q02⟩ := HQ0_w24.out.three
  have ql0 := HQ0_w24.out.lt
  obtain ⟨w25, hW⟩ : ∃ X, X = w24.alloc (.cells #[.slice x1xa x1xl x1xc, .slice x1ya x1yl x1yc, .slice x1za x1zl x1zc] 51) := ⟨_, rfl⟩
  have HW_w25 := Lib.hid hW
  have hqq : Row w25 w24.heap.size 51 #[.slice x1xa x1xl x1xc, .slice x1ya x1yl x1yc, .slice x1za x1zl x1zc] := by rw [hW]; exact Row.new _ _ _
  have hb : Below w24.heap.size w24 w25 := by rw [hW]; exact (Below.refl _ _).alloc (Nat.le_refl _) _
  have hs_w25 : w24.heap.size < w25.heap.size := hqq.lt
  have HB_w25 : Hid (Below W1.heap.size W1 w25) := HB_w24.out.trans (hb.mono HB_w24.out.size)
  have hz_w25 : w24.heap.size ≤ w25.heap.size := hb.size
  have HGp_w25 := Lib.hid (HGp_w24.out.under hb (by omega))
  have HZp_w25 := Lib.hid (HZp_w24.out.under hb HZp_w24.out.lt)
  have HSx0_w25 := Lib.hid (Lay.au.sunder HSx0_w24.out hb (by omega))
  have HQ0_w25 := Lib.hid (HQ0_w24.out.under hb HQ0_w24.out.lt)
  have HSx1_w25 := Lib.hid (Lay.au.sunder HSx1_w24.out hb (by omega))
  have HQ1_w25 := Lib.hid hqq
  clear hW hb hqq HGp_w24 HZp_w24 HSx0_w24 HQ0_w24 HSx1_w24
  go_wp2_with fail
  rw [← HW_w25.out]
  refine (implUa_any e0 (fun j => (#[.slice x0xa x0xl x0xc, .slice x0ya x0yl x0yc, .slice x0za x0zl x0zc] : Array Value).getD j undef) e1 (fun j => (#[.slice x1xa x1xl x1xc, .slice x1ya x1yl x1yc, .slice x1za x1zl x1zc] : Array Value).getD j undef) _ (Lay.au.more (Lay.au.sep_lies HSx0_w25.out) (by omega)) (Lay.au.more (Lay.au.sep_lies HSx1_w25.out) (by omega)) HD0.out HD1.out).mono ?_
  rintro e' w26 ⟨Xx, Yx, Zx, rfl, hS, hb⟩
  rw [← HV0.out] at hS
  rw [← HV1.out]
  obtain ⟨xax, xcx, yax, ycx, zax, zcx, rfl, rfl, rfl⟩ := hS.form
  have HB_w26 : Hid (Below W1.heap.size W1 w26) := HB_w25.out.trans (hb.mono HB_w25.out.size)
  have hz_w26 : w25.heap.size ≤ w26.heap.size := hb.size
  have HGp_w26 := Lib.hid (HGp_w25.out.under hb (by omega))
  have HZp_w26 := Lib.hid (HZp_w25.out.under hb HZp_w25.out.lt)
  have HSx0_w26 := Lib.hid (Lay.au.sunder HSx0_w25.out hb (by omega))
  have HQ0_w26 := Lib.hid (HQ0_w25.out.under hb HQ0_w25.out.lt)
  have HSx1_w26 := Lib.hid (Lay.au.sunder HSx1_w25.out hb (by omega))
  have HQ1_w26 := Lib.hid (HQ1_w25.out.under hb HQ1_w25.out.lt)
  have HGx_w26 : Hid (AuR w26 w25.heap.size w26.heap.size vl0.ini vl0.acc vl0.es (.slice xax vl0.ini.length xcx) (.slice yax vl0.acc.length ycx) (.slice zax vl0.es.length zcx)) := hS
  clear hS hb HGp_w25 HZp_w25 HSx0_w25 HQ0_w25 HSx1_w25 HQ1_w25
  obtain ⟨zp0, zp1, zp2⟩ := HZp_w26.out.three
  have zlp := HZp_w26.out.lt
  obtain ⟨w27, hW⟩ : ∃ X, X = w26.alloc (.cells #[.slice xax vl0.ini.length xcx, .slice yax vl0.acc.length ycx, .slice zax vl0.es.length zcx] 51) := ⟨_, rfl⟩
  have HW_w27 := Lib.hid hW
  have hqq : Row w27 w26.heap.size 51 #[.slice xax vl0.ini.length xcx, .slice yax vl0.acc.length ycx, .slice zax vl0.es.length zcx] := by rw [hW]; exact Row.new _ _ _
  have hb : Below w26.heap.size w26 w27 := by rw [hW]; exact (Below.refl _ _).alloc (Nat.le_refl _) _
  have hs_w27 : w26.heap.size < w27.heap.size := hqq.lt
  have HB_w27 : Hid (Below W1.heap.size W1 w27) := HB_w26.out.trans (hb.mono HB_w26.out.size)
  have hz_w27 : w26.heap.size ≤ w27.heap.size := hb.size
  have HGp_w27 := Lib.hid (HGp_w26.out.under hb (by omega))
  have HZp_w27 := Lib.hid (HZp_w26.out.under hb HZp_w26.out.lt)
  have HSx0_w27 := Lib.hid (Lay.au.sunder HSx0_w26.out hb (by omega))
  have HQ0_w27 := Lib.hid (HQ0_w26.out.under hb HQ0_w26.out.lt)
  have HSx1_w27 := Lib.hid (Lay.au.sunder HSx1_w26.out hb (by omega))
  have HQ1_w27 := Lib.hid (HQ1_w26.out.under hb HQ1_w26.out.lt)
  have HGx_w27 := Lib.hid (HGx_w26.out.under hb (by omega))
  have HZx_w27 := Lib.hid hqq
  clear hW hb hqq HGp_w26 HZp_w26 HSx0_w26 HQ0_w26 HSx1_w26 HQ1_w26 HGx_w26
  clear q00 q01 q02 ql0
  go_wp2_with fail
  rw [← HW_w27.out]
  refine (eqAu_any vl0 (fun j => (#[.slice xax vl0.ini.length xcx, .slice yax vl0.acc.length ycx, .slice zax vl0.es.length zcx] : Array Value).getD j undef) (fun j => (#[.slice xap vl0.ini.length xcp, .slice yap vl0.acc.length ycp, .slice zap vl0.es.length zcp] : Array Value).getD j undef) _ (HGx_w27.out.liesE (by omega) HLr.out (by have := HLn.out; omega)) (HGp_w27.out.liesE (by omega) HLr.out (by have := HLn.out; omega))).mono ?_
  rintro e' w28 ⟨rfl, hb⟩
  have HB_w28 : Hid (Below W1.heap.size W1 w28) := HB_w27.out.trans (hb.mono HB_w27.out.size)
  have hz_w28 : w27.heap.size ≤ w28.heap.size := hb.size
  have HGp_w28 := Lib.hid (HGp_w27.out.under hb (by omega))
  have HZp_w28 := Lib.hid (HZp_w27.out.under hb HZp_w27.out.lt)
  have HSx0_w28 := Lib.hid (Lay.au.sunder HSx0_w27.out hb (by omega))
  have HQ0_w28 := Lib.hid (HQ0_w27.out.under hb HQ0_w27.out.lt)
  have HSx1_w28 := Lib.hid (Lay.au.sunder HSx1_w27.out hb (by omega))
  have HQ1_w28 := Lib.hid (HQ1_w27.out.under hb HQ1_w27.out.lt)
  have HGx_w28 := Lib.hid (HGx_w27.out.under hb (by omega))
  have HZx_w28 := Lib.hid (HZx_w27.out.under hb HZx_w27.out.lt)
  clear hb HGp_w27 HZp_w27 HSx0_w27 HQ0_w27 HSx1_w27 HQ1_w27 HGx_w27 HZx_w27
  clear zp0 zp1 zp2 zlp
  obtain ⟨g00, g01, g02⟩ := (HR0.out.under HB_w28.out HR0.out.lt).three
  have gl0 : w.heap.size < w28.heap.size := Nat.lt_of_lt_of_le HR0.out.lt HB_w28.out.size
  obtain ⟨q00, q01, q02⟩ := HQ0_w28.out.three
  have ql0 := HQ0_w28.out.lt
  have HKS : Hid (∀ X, Below w28.heap.size w28 X → (fun w' => w'.cell? ⟨w.heap.size, 0, none⟩ = some (C0 0) ∧ w'.cell? ⟨w.heap.size, 1, none⟩ = some (C0 1) ∧ w'.cell? ⟨w.heap.size, 2, none⟩ = some (C0 2) ∧ w'.cell? ⟨w22.heap.size, 0, none⟩ = some (.slice x0xa x0xl x0xc) ∧ w'.cell? ⟨w22.heap.size, 1, none⟩ = some (.slice x0ya x0yl x0yc) ∧ w'.cell? ⟨w22.heap.size, 2, none⟩ = some (.slice x0za x0zl x0zc)) X) := fun X h => ⟨((HR0.out.under HB_w28.out HR0.out.lt).under h (Nat.lt_of_lt_of_le HR0.out.lt HB_w28.out.size)).cell 0, ((HR0.out.under HB_w28.out HR0.out.lt).under h (Nat.lt_of_lt_of_le HR0.out.lt HB_w28.out.size)).cell 1, ((HR0.out.under HB_w28.out HR0.out.lt).under h (Nat.lt_of_lt_of_le HR0.out.lt HB_w28.out.size)).cell 2, (HQ0_w28.out.under h HQ0_w28.out.lt).cell 0, (HQ0_w28.out.under h HQ0_w28.out.lt).cell 1, (HQ0_w28.out.under h HQ0_w28.out.lt).cell 2⟩
  go_upto_region 14 with fail
  go_cut [58] from 54 to 57 (fun bb wx => bb = .bool false ∧ Hid (Below w28.heap.size w28 wx))
  case first =>
    have HBX_w28 : Hid (Below w28.heap.size w28 w28) := Below.refl _ _
    refine wp_region_held_drew (S := (fun w' => w'.cell? ⟨w.heap.size, 0, none⟩ = some (C0 0) ∧ w'.cell? ⟨w.heap.size, 1, none⟩ = some (C0 1) ∧ w'.cell? ⟨w.heap.size, 2, none⟩ = some (C0 2) ∧ w'.cell? ⟨w22.heap.size, 0, none⟩ = some (.slice x0xa x0xl x0xc) ∧ w'.cell? ⟨w22.heap.size, 1, none⟩ = some (.slice x0ya x0yl x0yc) ∧ w'.cell? ⟨w22.heap.size, 2, none⟩ = some (.slice x0za x0zl x0zc))) (by kernel_rfl) ?_ (fun hHeld => ?_)
    · exact HKS.out _ HBX_w28.out.drew
    obtain ⟨w29, hX0⟩ : ∃ X, X = w28.drew := ⟨_, rfl⟩
    rw [← hX0] at hHeld ⊢
    have hb : Below w28.heap.size w28 w29 := by rw [hX0]; exact (Below.refl _ _).drew
    have HB_w29 : Hid (Below W1.heap.size W1 w29) := HB_w28.out.trans (hb.mono HB_w28.out.size)
    have hz_w29 : w28.heap.size ≤ w29.heap.size := hb.size
    have HBX_w29 : Hid (Below w28.heap.size w28 w29) := HBX_w28.out.trans (hb.mono HBX_w28.out.size)
    have HGp_w29 := Lib.hid (HGp_w28.out.under hb (by omega))
    have HZp_w29 := Lib.hid (HZp_w28.out.under hb HZp_w28.out.lt)
    have HSx0_w29 := Lib.hid (Lay.au.sunder HSx0_w28.out hb (by omega))
    have HQ0_w29 := Lib.hid (HQ0_w28.out.under hb HQ0_w28.out.lt)
    have HSx1_w29 := Lib.hid (Lay.au.sunder HSx1_w28.out hb (by omega))
    have HQ1_w29 := Lib.hid (HQ1_w28.out.under hb HQ1_w28.out.lt)
    have HGx_w29 := Lib.hid (HGx_w28.out.under hb (by omega))
    have HZx_w29 := Lib.hid (HZx_w28.out.under hb HZx_w28.out.lt)
    clear hX0 hb HGp_w28 HZp_w28 HSx0_w28 HQ0_w28 HSx1_w28 HQ1_w28 HGx_w28 HZx_w28
    refine wpAnyH_take (i := 0) (oi := { dst := some 54, op := Go.Op.load 51 (Go.Operand.tmp 8), type := 51, pos := "exact.go:4872", after := #[], guard := none }) (v := ?_) rfl (by kernel_rfl) (by kernel_rfl) (by kernel_rfl) (fun _ _ _ h => h) (Or.inl ⟨by rfl, ?_⟩) (by assumption) ?_
    rotate_left
    · intro w hSw
      try dsimp only at hSw
      go_simp
      all_goals (with_reducible rfl)
    try simp only [Act.put, List.setIfInBounds_toArray, List.set_cons_zero, List.set_cons_succ]
    refine wpAnyH_take (i := 1) (oi := { dst := some 55, op := Go.Op.load 47 (Go.Operand.tmp 2), type := 47, pos := "exact.go:4872", after := #[], guard := none }) (v := ?_) rfl (by kernel_rfl) (by kernel_rfl) (by kernel_rfl) (fun _ _ _ h => h) (Or.inl ⟨by rfl, ?_⟩) (by assumption) ?_
    rotate_left
    · intro w hSw
      try dsimp only at hSw
      go_simp
      all_goals (with_reducible rfl)
    try simp only [Act.put, List.setIfInBounds_toArray, List.set_cons_zero, List.set_cons_succ]
    refine wpAnyH_ready (rs := [2]) (by kernel_rfl) (by simp) (AllReadyH.cons (o := { dst := some 56, op := Go.Op.call { callee := Go.Callee.value (Go.Operand.func 22), args := #[Go.Operand.tmp 55], argTypes := #[47] }, type := 51, pos := "exact.go:4872", after := #[{ on := 1, ground := Go.Ground.data }], guard := none }) rfl (fun K hK => ?_) AllReadyH.nil)
    go_simp
    refine (toAu_any e0 C0 _ (Lay.au.later HL0.out HB_w29.out HB_w29.out.size) HD0.out).mono ?_
    rintro e' w30 ⟨t0xa, t0xl, t0xc, t0ya, t0yl, t0yc, t0za, t0zl, t0zc, rfl, hs, hb⟩
    have HB_w30 : Hid (Below W1.heap.size W1 w30) := HB_w29.out.trans (hb.mono HB_w29.out.size)
    have hz_w30 : w29.heap.size ≤ w30.heap.size := hb.size
    have HBX_w30 : Hid (Below w28.heap.size w28 w30) := HBX_w29.out.trans (hb.mono HBX_w29.out.size)
    have HGp_w30 := Lib.hid (HGp_w29.out.under hb (by omega))
    have HZp_w30 := Lib.hid (HZp_w29.out.under hb HZp_w29.out.lt)
    have HSx0_w30 := Lib.hid (Lay.au.sunder HSx0_w29.out hb (by omega))
    have HQ0_w30 := Lib.hid (HQ0_w29.out.under hb HQ0_w29.out.lt)
    have HSx1_w30 := Lib.hid (Lay.au.sunder HSx1_w29.out hb (by omega))
    have HQ1_w30 := Lib.hid (HQ1_w29.out.under hb HQ1_w29.out.lt)
    have HGx_w30 := Lib.hid (HGx_w29.out.under hb (by omega))
    have HZx_w30 := Lib.hid (HZx_w29.out.under hb HZx_w29.out.lt)
    have HSt0_w30 : Hid (Lay.au.sep w30 w29.heap.size w30.heap.size e0 (fun j => (#[.slice t0xa t0xl t0xc, .slice t0ya t0yl t0yc, .slice t0za t0zl t0zc] : Array Value).getD j undef)) := hs
    clear hs hb HGp_w29 HZp_w29 HSx0_w29 HQ0_w29 HSx1_w29 HQ1_w29 HGx_w29 HZx_w29
    try go_wp2_with fail
    refine hK.out _ _ ?_ (fun hHeld => ?_)
    · exact HKS.out _ HBX_w30.out
    clear hK K
    try simp only [Act.put, List.setIfInBounds_toArray, List.set_cons_zero, List.set_cons_succ]
    refine wpAnyH_ready (rs := [3]) (by kernel_rfl) (by simp) (AllReadyH.cons (o := { dst := some 57, op := Go.Op.call { callee := Go.Callee.value (Go.Operand.func 24), args := #[Go.Operand.tmp 54, Go.Operand.tmp 56], argTypes := #[51, 51] }, type := 4, pos := "exact.go:4872", after := #[{ on := 0, ground := Go.Ground.data }, { on := 2, ground := Go.Ground.data }, { on := 2, ground := Go.Ground.chain }], guard := none }) rfl (fun K hK => ?_) AllReadyH.nil)
    go_simp
    refine (eqAu_any e0 (fun j => (#[.slice x0xa x0xl x0xc, .slice x0ya x0yl x0yc, .slice x0za x0zl x0zc] : Array Value).getD j undef) (fun j => (#[.slice t0xa t0xl t0xc, .slice t0ya t0yl t0yc, .slice t0za t0zl t0zc] : Array Value).getD j undef) _ (Lay.au.more (Lay.au.sep_lies HSx0_w30.out) (by omega)) (Lay.au.more (Lay.au.sep_lies HSt0_w30.out) (by omega))).mono ?_
    rintro e' w31 ⟨rfl, hb⟩
    have HB_w31 : Hid (Below W1.heap.size W1 w31) := HB_w30.out.trans (hb.mono HB_w30.out.size)
    have hz_w31 : w30.heap.size ≤ w31.heap.size := hb.size
    have HBX_w31 : Hid (Below w28.heap.size w28 w31) := HBX_w30.out.trans (hb.mono HBX_w30.out.size)
    have HGp_w31 := Lib.hid (HGp_w30.out.under hb (by omega))
    have HZp_w31 := Lib.hid (HZp_w30.out.under hb HZp_w30.out.lt)
    have HSx0_w31 := Lib.hid (Lay.au.sunder HSx0_w30.out hb (by omega))
    have HQ0_w31 := Lib.hid (HQ0_w30.out.under hb HQ0_w30.out.lt)
    have HSx1_w31 := Lib.hid (Lay.au.sunder HSx1_w30.out hb (by omega))
    have HQ1_w31 := Lib.hid (HQ1_w30.out.under hb HQ1_w30.out.lt)
    have HGx_w31 := Lib.hid (HGx_w30.out.under hb (by omega))
    have HZx_w31 := Lib.hid (HZx_w30.out.under hb HZx_w30.out.lt)
    have HSt0_w31 := Lib.hid (Lay.au.sunder HSt0_w30.out hb (by omega))
    clear hb HGp_w30 HZp_w30 HSx0_w30 HQ0_w30 HSx1_w30 HQ1_w30 HGx_w30 HZx_w30 HSt0_w30
    try go_wp2_with fail
    refine hK.out _ _ ?_ (fun hHeld => ?_)
    · exact HKS.out _ HBX_w31.out
    clear hK K
    try simp only [Act.put, List.setIfInBounds_toArray, List.set_cons_zero, List.set_cons_succ]
    refine wpAnyH_take (i := 4) (oi := { dst := some 58, op := Go.Op.unOp Go.UnOp.not 4 (Go.Operand.tmp 57), type := 4, pos := "exact.go:4872", after := #[{ on := 3, ground := Go.Ground.data }], guard := none }) (v := ?_) rfl (by kernel_rfl) (by kernel_rfl) (by kernel_rfl) (fun _ _ _ h => h) (Or.inl ⟨by rfl, ?_⟩) (by assumption) ?_
    rotate_left
    · intro w hSw
      try dsimp only at hSw
      go_simp
      all_goals (with_reducible rfl)
    try simp only [Act.put, List.setIfInBounds_toArray, List.set_cons_zero, List.set_cons_succ]
    refine wpAnyH_done (by kernel_rfl) ?_ _
    go_wp2_with fail
    go_meet
    exact ⟨rfl, HBX_w31⟩
  case rest =>
  obtain ⟨rfl, HBc⟩ := hcut
  obtain ⟨w32, rfl⟩ : ∃ x, x = wc := ⟨_, rfl⟩
  have hb : Below w28.heap.size w28 w32 := HBc.out
  have HB_w32 : Hid (Below W1.heap.size W1 w32) := HB_w28.out.trans (hb.mono HB_w28.out.size)
  have hz_w32 : w28.heap.size ≤ w32.heap.size := hb.size
  have HGp_w32 := Lib.hid (HGp_w28.out.under hb (by omega))
  have HZp_w32 := Lib.hid (HZp_w28.out.under hb HZp_w28.out.lt)
  have HSx0_w32 := Lib.hid (Lay.au.sunder HSx0_w28.out hb (by omega))
  have HQ0_w32 := Lib.hid (HQ0_w28.out.under hb HQ0_w28.out.lt)
  have HSx1_w32 := Lib.hid (Lay.au.sunder HSx1_w28.out hb (by omega))
  have HQ1_w32 := Lib.hid (HQ1_w28.out.under hb HQ1_w28.out.lt)
  have HGx_w32 := Lib.hid (HGx_w28.out.under hb (by omega))
  have HZx_w32 := Lib.hid (HZx_w28.out.under hb HZx_w28.out.lt)
  clear hb HBc HKS HGp_w28 HZp_w28 HSx0_w28 HQ0_w28 HSx1_w28 HQ1_w28 HGx_w28 HZx_w28
  clear g00 g01 g02 gl0 q00 q01 q02 ql0
  obtain ⟨g10, g11, g12⟩ := (HR1.out.under HB_w32.out HR1.out.lt).three
  have gl1 : w.heap.size + 1 < w32.heap.size := Nat.lt_of_lt_of_le HR1.out.lt HB_w32.out.size
  obtain ⟨q10, q11, q12⟩ := HQ1_w32.out.three
  have ql1 := HQ1_w32.out.lt
  have HKS : Hid (∀ X, Below w32.heap.size w32 X → (fun w' => w'.cell? ⟨w.heap.size + 1, 0, none⟩ = some (C1 0) ∧ w'.cell? ⟨w.heap.size + 1, 1, none⟩ = some (C1 1) ∧ w'.cell? ⟨w.heap.size + 1, 2, none⟩ = some (C1 2) ∧ w'.cell? ⟨w24.heap.size, 0, none⟩ = some (.slice x1xa x1xl x1xc) ∧ w'.cell? ⟨w24.heap.size, 1, none⟩ = some (.slice x1ya x1yl x1yc) ∧ w'.cell? ⟨w24.heap.size, 2, none⟩ = some (.slice x1za x1zl x1zc)) X) := fun X h => ⟨((HR1.out.under HB_w32.out HR1.out.lt).under h (Nat.lt_of_lt_of_le HR1.out.lt HB_w32.out.size)).cell 0, ((HR1.out.under HB_w32.out HR1.out.lt).under h (Nat.lt_of_lt_of_le HR1.out.lt HB_w32.out.size)).cell 1, ((HR1.out.under HB_w32.out HR1.out.lt).under h (Nat.lt_of_lt_of_le HR1.out.lt HB_w32.out.size)).cell 2, (HQ1_w32.out.under h HQ1_w32.out.lt).cell 0, (HQ1_w32.out.under h HQ1_w32.out.lt).cell 1, (HQ1_w32.out.under h HQ1_w32.out.lt).cell 2⟩
  go_upto_region 16 with fail
  go_cut [63] from 59 to 62 (fun bb wx => bb = .bool false ∧ Hid (Below w32.heap.size w32 wx))
  case first =>
    have HBX_w32 : Hid (Below w32.heap.size w32 w32) := Below.refl _ _
    refine wp_region_held_drew (S := (fun w' => w'.cell? ⟨w.heap.size + 1, 0, none⟩ = some (C1 0) ∧ w'.cell? ⟨w.heap.size + 1, 1, none⟩ = some (C1 1) ∧ w'.cell? ⟨w.heap.size + 1, 2, none⟩ = some (C1 2) ∧ w'.cell? ⟨w24.heap.size, 0, none⟩ = some (.slice x1xa x1xl x1xc) ∧ w'.cell? ⟨w24.heap.size, 1, none⟩ = some (.slice x1ya x1yl x1yc) ∧ w'.cell? ⟨w24.heap.size, 2, none⟩ = some (.slice x1za x1zl x1zc))) (by kernel_rfl) ?_ (fun hHeld => ?_)
    · exact HKS.out _ HBX_w32.out.drew
    obtain ⟨w33, hX0⟩ : ∃ X, X = w32.drew := ⟨_, rfl⟩
    rw [← hX0] at hHeld ⊢
    have hb : Below w32.heap.size w32 w33 := by rw [hX0]; exact (Below.refl _ _).drew
    have HB_w33 : Hid (Below W1.heap.size W1 w33) := HB_w32.out.trans (hb.mono HB_w32.out.size)
    have hz_w33 : w32.heap.size ≤ w33.heap.size := hb.size
    have HBX_w33 : Hid (Below w32.heap.size w32 w33) := HBX_w32.out.trans (hb.mono HBX_w32.out.size)
    have HGp_w33 := Lib.hid (HGp_w32.out.under hb (by omega))
    have HZp_w33 := Lib.hid (HZp_w32.out.under hb HZp_w32.out.lt)
    have HSx0_w33 := Lib.hid (Lay.au.sunder HSx0_w32.out hb (by omega))
    have HQ0_w33 := Lib.hid (HQ0_w32.out.under hb HQ0_w32.out.lt)
    have HSx1_w33 := Lib.hid (Lay.au.sunder HSx1_w32.out hb (by omega))
    have HQ1_w33 := Lib.hid (HQ1_w32.out.under hb HQ1_w32.out.lt)
    have HGx_w33 := Lib.hid (HGx_w32.out.under hb (by omega))
    have HZx_w33 := Lib.hid (HZx_w32.out.under hb HZx_w32.out.lt)
    clear hX0 hb HGp_w32 HZp_w32 HSx0_w32 HQ0_w32 HSx1_w32 HQ1_w32 HGx_w32 HZx_w32
    refine wpAnyH_take (i := 0) (oi := { dst := some 59, op := Go.Op.load 51 (Go.Operand.tmp 9), type := 51, pos := "exact.go:4875", after := #[], guard := none }) (v := ?_) rfl (by kernel_rfl) (by kernel_rfl) (by kernel_rfl) (fun _ _ _ h => h) (Or.inl ⟨by rfl, ?_⟩) (by assumption) ?_
    rotate_left
    · intro w hSw
      try dsimp only at hSw
      go_simp
      all_goals (with_reducible rfl)
    try simp only [Act.put, List.setIfInBounds_toArray, List.set_cons_zero, List.set_cons_succ]
    refine wpAnyH_take (i := 1) (oi := { dst := some 60, op := Go.Op.load 47 (Go.Operand.tmp 3), type := 47, pos := "exact.go:4875", after := #[], guard := none }) (v := ?_) rfl (by kernel_rfl) (by kernel_rfl) (by kernel_rfl) (fun _ _ _ h => h) (Or.inl ⟨by rfl, ?_⟩) (by assumption) ?_
    rotate_left
    · intro w hSw
      try dsimp only at hSw
      go_simp
      all_goals (with_reducible rfl)
    try simp only [Act.put, List.setIfInBounds_toArray, List.set_cons_zero, List.set_cons_succ]
    refine wpAnyH_ready (rs := [2]) (by kernel_rfl) (by simp) (AllReadyH.cons (o := { dst := some 61, op := Go.Op.call { callee := Go.Callee.value (Go.Operand.func 22), args := #[Go.Operand.tmp 60], argTypes := #[47] }, type := 51, pos := "exact.go:4875", after := #[{ on := 1, ground := Go.Ground.data }], guard := none }) rfl (fun K hK => ?_) AllReadyH.nil)
    go_simp
    refine (toAu_any e1 C1 _ (Lay.au.later HL1.out HB_w33.out HB_w33.out.size) HD1.out).mono ?_
    rintro e' w34 ⟨t1xa, t1xl, t1xc, t1ya, t1yl, t1yc, t1za, t1zl, t1zc, rfl, hs, hb⟩
    have HB_w34 : Hid (Below W1.heap.size W1 w34) := HB_w33.out.trans (hb.mono HB_w33.out.size)
    have hz_w34 : w33.heap.size ≤ w34.heap.size := hb.size
    have HBX_w34 : Hid (Below w32.heap.size w32 w34) := HBX_w33.out.trans (hb.mono HBX_w33.out.size)
    have HGp_w34 := Lib.hid (HGp_w33.out.under hb (by omega))
    have HZp_w34 := Lib.hid (HZp_w33.out.under hb HZp_w33.out.lt)
    have HSx0_w34 := Lib.hid (Lay.au.sunder HSx0_w33.out hb (by omega))
    have HQ0_w34 := Lib.hid (HQ0_w33.out.under hb HQ0_w33.out.lt)
    have HSx1_w34 := Lib.hid (Lay.au.sunder HSx1_w33.out hb (by omega))
    have HQ1_w34 := Lib.hid (HQ1_w33.out.under hb HQ1_w33.out.lt)
    have HGx_w34 := Lib.hid (HGx_w33.out.under hb (by omega))
    have HZx_w34 := Lib.hid (HZx_w33.out.under hb HZx_w33.out.lt)
    have HSt1_w34 : Hid (Lay.au.sep w34 w33.heap.size w34.heap.size e1 (fun j => (#[.slice t1xa t1xl t1xc, .slice t1ya t1yl t1yc, .slice t1za t1zl t1zc] : Array Value).getD j undef)) := hs
    clear hs hb HGp_w33 HZp_w33 HSx0_w33 HQ0_w33 HSx1_w33 HQ1_w33 HGx_w33 HZx_w33
    try go_wp2_with fail
    refine hK.out _ _ ?_ (fun hHeld => ?_)
    · exact HKS.out _ HBX_w34.out
    clear hK K
    try simp only [Act.put, List.setIfInBounds_toArray, List.set_cons_zero, List.set_cons_succ]
    refine wpAnyH_ready (rs := [3]) (by kernel_rfl) (by simp) (AllReadyH.cons (o := { dst := some 62, op := Go.Op.call { callee := Go.Callee.value (Go.Operand.func 24), args := #[Go.Operand.tmp 59, Go.Operand.tmp 61], argTypes := #[51, 51] }, type := 4, pos := "exact.go:4875", after := #[{ on := 0, ground := Go.Ground.data }, { on := 2, ground := Go.Ground.data }, { on := 2, ground := Go.Ground.chain }], guard := none }) rfl (fun K hK => ?_) AllReadyH.nil)
    go_simp
    refine (eqAu_any e1 (fun j => (#[.slice x1xa x1xl x1xc, .slice x1ya x1yl x1yc, .slice x1za x1zl x1zc] : Array Value).getD j undef) (fun j => (#[.slice t1xa t1xl t1xc, .slice t1ya t1yl t1yc, .slice t1za t1zl t1zc] : Array Value).getD j undef) _ (Lay.au.more (Lay.au.sep_lies HSx1_w34.out) (by omega)) (Lay.au.more (Lay.au.sep_lies HSt1_w34.out) (by omega))).mono ?_
    rintro e' w35 ⟨rfl, hb⟩
    have HB_w35 : Hid (Below W1.heap.size W1 w35) := HB_w34.out.trans (hb.mono HB_w34.out.size)
    have hz_w35 : w34.heap.size ≤ w35.heap.size := hb.size
    have HBX_w35 : Hid (Below w32.heap.size w32 w35) := HBX_w34.out.trans (hb.mono HBX_w34.out.size)
    have HGp_w35 := Lib.hid (HGp_w34.out.under hb (by omega))
    have HZp_w35 := Lib.hid (HZp_w34.out.under hb HZp_w34.out.lt)
    have HSx0_w35 := Lib.hid (Lay.au.sunder HSx0_w34.out hb (by omega))
    have HQ0_w35 := Lib.hid (HQ0_w34.out.under hb HQ0_w34.out.lt)
    have HSx1_w35 := Lib.hid (Lay.au.sunder HSx1_w34.out hb (by omega))
    have HQ1_w35 := Lib.hid (HQ1_w34.out.under hb HQ1_w34.out.lt)
    have HGx_w35 := Lib.hid (HGx_w34.out.under hb (by omega))
    have HZx_w35 := Lib.hid (HZx_w34.out.under hb HZx_w34.out.lt)
    have HSt1_w35 := Lib.hid (Lay.au.sunder HSt1_w34.out hb (by omega))
    clear hb HGp_w34 HZp_w34 HSx0_w34 HQ0_w34 HSx1_w34 HQ1_w34 HGx_w34 HZx_w34 HSt1_w34
    try go_wp2_with fail
    refine hK.out _ _ ?_ (fun hHeld => ?_)
    · exact HKS.out _ HBX_w35.out
    clear hK K
    try simp only [Act.put, List.setIfInBounds_toArray, List.set_cons_zero, List.set_cons_succ]
    refine wpAnyH_take (i := 4) (oi := { dst := some 63, op := Go.Op.unOp Go.UnOp.not 4 (Go.Operand.tmp 62), type := 4, pos := "exact.go:4875", after := #[{ on := 3, ground := Go.Ground.data }], guard := none }) (v := ?_) rfl (by kernel_rfl) (by kernel_rfl) (by kernel_rfl) (fun _ _ _ h => h) (Or.inl ⟨by rfl, ?_⟩) (by assumption) ?_
    rotate_left
    · intro w hSw
      try dsimp only at hSw
      go_simp
      all_goals (with_reducible rfl)
    try simp only [Act.put, List.setIfInBounds_toArray, List.set_cons_zero, List.set_cons_succ]
    refine wpAnyH_done (by kernel_rfl) ?_ _
    go_wp2_with fail
    go_meet
    exact ⟨rfl, HBX_w35⟩
  case rest =>
  obtain ⟨rfl, HBc⟩ := hcut
  obtain ⟨w36, rfl⟩ : ∃ x, x = wc := ⟨_, rfl⟩
  have hb : Below w32.heap.size w32 w36 := HBc.out
  have HB_w36 : Hid (Below W1.heap.size W1 w36) := HB_w32.out.trans (hb.mono HB_w32.out.size)
  have hz_w36 : w32.heap.size ≤ w36.heap.size := hb.size
  have HGp_w36 := Lib.hid (HGp_w32.out.under hb (by omega))
  have HZp_w36 := Lib.hid (HZp_w32.out.under hb HZp_w32.out.lt)
  have HSx0_w36 := Lib.hid (Lay.au.sunder HSx0_w32.out hb (by omega))
  have HQ0_w36 := Lib.hid (HQ0_w32.out.under hb HQ0_w32.out.lt)
  have HSx1_w36 := Lib.hid (Lay.au.sunder HSx1_w32.out hb (by omega))
  have HQ1_w36 := Lib.hid (HQ1_w32.out.under hb HQ1_w32.out.lt)
  have HGx_w36 := Lib.hid (HGx_w32.out.under hb (by omega))
  have HZx_w36 := Lib.hid (HZx_w32.out.under hb HZx_w32.out.lt)
  clear hb HBc HKS HGp_w32 HZp_w32 HSx0_w32 HQ0_w32 HSx1_w32 HQ1_w32 HGx_w32 HZx_w32
  clear g10 g11 g12 gl1 q10 q11 q12 ql1
  obtain ⟨q00, q01, q02⟩ := HQ0_w36.out.three
  have ql0 := HQ0_w36.out.lt
  go_wp2_with fail
  refine (mkAuM_any e0 1 x0xa x0xl x0xc x0ya x0yl x0yc x0za x0zl x0zc w21.heap.size w22.heap.size _ HSx0_w36.out (by omega) HD0.out (by omega) (by omega)).mono ?_
  rintro e' w37 ⟨k0, rfl, hk0_0, hk1_0, hk⟩
  have HB_w37 : Hid (Below W1.heap.size W1 w37) := HB_w36.out.trans (hk.below (by omega) (by omega))
  have hz_w37 : w36.heap.size ≤ w37.heap.size := hk.size
  clear q00 q01 q02 ql0
  clear HSx0_w36
  have HGp_w37 := Lib.hid (HGp_w36.out.kept hk (by omega) (by omega))
  have HZp_w37 := Lib.hid (HZp_w36.out.kept hk (by omega))
  have HQ0_w37 := Lib.hid (HQ0_w36.out.kept hk (by omega))
  have HSx1_w37 : Hid (Lay.au.sep w37 w23.heap.size w24.heap.size e1 (fun j => (#[.slice x1xa x1xl x1xc, .slice x1ya x1yl x1yc, .slice x1za x1zl x1zc] : Array Value).getD j undef)) := Lay.au.sep_keep (fun q b1 b2 => hk.other q (by omega) (by omega)) HSx1_w36.out
  have HQ1_w37 := Lib.hid (HQ1_w36.out.kept hk (by omega))
  have HGx_w37 := Lib.hid (HGx_w36.out.kept hk (by omega) (by omega))
  have HZx_w37 := Lib.hid (HZx_w36.out.kept hk (by omega))
  clear hk HGp_w36 HZp_w36 HQ0_w36 HSx1_w36 HQ1_w36 HGx_w36 HZx_w36
  obtain ⟨q10, q11, q12⟩ := HQ1_w37.out.three
  have ql1 := HQ1_w37.out.lt
  go_wp2_with fail
  refine (mkAuM_any e1 k0 x1xa x1xl x1xc x1ya x1yl x1yc x1za x1zl x1zc w23.heap.size w24.heap.size _ HSx1_w37.out (by omega) HD1.out (by omega) (by omega)).mono ?_
  rintro e' w38 ⟨k1, rfl, hk0_1, hk1_1, hk⟩
  have HB_w38 : Hid (Below W1.heap.size W1 w38) := HB_w37.out.trans (hk.below (by omega) (by omega))
  have hz_w38 : w37.heap.size ≤ w38.heap.size := hk.size
  clear q10 q11 q12 ql1
  clear HSx1_w37
  have HGp_w38 := Lib.hid (HGp_w37.out.kept hk (by omega) (by omega))
  have HZp_w38 := Lib.hid (HZp_w37.out.kept hk (by omega))
  have HQ0_w38 := Lib.hid (HQ0_w37.out.kept hk (by omega))
  have HQ1_w38 := Lib.hid (HQ1_w37.out.kept hk (by omega))
  have HGx_w38 := Lib.hid (HGx_w37.out.kept hk (by omega) (by omega))
  have HZx_w38 := Lib.hid (HZx_w37.out.kept hk (by omega))
  clear hk HGp_w37 HZp_w37 HQ0_w37 HQ1_w37 HGx_w37 HZx_w37
  obtain ⟨zx0, zx1, zx2⟩ := HZx_w38.out.three
  have zlx := HZx_w38.out.lt
  obtain ⟨zp0, zp1, zp2⟩ := HZp_w38.out.three
  have zlp := HZp_w38.out.lt
  go_wp2_with fail
  refine (eqAu_any vl0 (fun j => (#[.slice xax vl0.ini.length xcx, .slice yax vl0.acc.length ycx, .slice zax vl0.es.length zcx] : Array Value).getD j undef) (fun j => (#[.slice xap vl0.ini.length xcp, .slice yap vl0.acc.length ycp, .slice zap vl0.es.length zcp] : Array Value).getD j undef) _ (HGx_w38.out.liesE (by omega) HLr.out (by have := HLn.out; omega)) (HGp_w38.out.liesE (by omega) HLr.out (by have := HLn.out; omega))).mono ?_
  rintro e' w39 ⟨rfl, hb⟩
  have HB_w39 : Hid (Below W1.heap.size W1 w39) := HB_w38.out.trans (hb.mono HB_w38.out.size)
  have hz_w39 : w38.heap.size ≤ w39.heap.size := hb.size
  have HGp_w39 := Lib.hid (HGp_w38.out.under hb (by omega))
  have HZp_w39 := Lib.hid (HZp_w38.out.under hb HZp_w38.out.lt)
  have HQ0_w39 := Lib.hid (HQ0_w38.out.under hb HQ0_w38.out.lt)
  have HQ1_w39 := Lib.hid (HQ1_w38.out.under hb HQ1_w38.out.lt)
  have HGx_w39 := Lib.hid (HGx_w38.out.under hb (by omega))
  have HZx_w39 := Lib.hid (HZx_w38.out.under hb HZx_w38.out.lt)
  clear hb HGp_w38 HZp_w38 HQ0_w38 HQ1_w38 HGx_w38 HZx_w38
  clear zx0 zx1 zx2 zlx zp0 zp1 zp2 zlp
  obtain ⟨zx0, zx1, zx2⟩ := HZx_w39.out.three
  have zlx := HZx_w39.out.lt
  go_wp2_with fail
  refine (mkAu_any vl0.ini vl0.acc vl0.es _ _ _ _ _ _ HGx_w39.out (by omega) (by have := HLn.out; omega) (by have := HLn.out; omega) (by have := HLn.out; omega)).mono ?_
  rintro e' w40 ⟨rfl, hsf, hk⟩
  have HB_w40 : Hid (Below W1.heap.size W1 w40) := HB_w39.out.trans (hk.below (by omega) (by omega))
  have hz_w40 : w39.heap.size ≤ w40.heap.size := hk.size
  have HGm_w40 := Lib.hid hsf
  clear zx0 zx1 zx2 zlx
  have HGp_w40 := Lib.hid (HGp_w39.out.kept hk (by omega) (by omega))
  have HZp_w40 := Lib.hid (HZp_w39.out.kept hk (by omega))
  have HQ0_w40 := Lib.hid (HQ0_w39.out.kept hk (by omega))
  have HQ1_w40 := Lib.hid (HQ1_w39.out.kept hk (by omega))
  have HZx_w40 := Lib.hid (HZx_w39.out.kept hk (by omega))
  clear hk hsf HGx_w39 HGp_w39 HZp_w39 HQ0_w39 HQ1_w39 HZx_w39
  obtain ⟨zx0, zx1, zx2⟩ := HZx_w40.out.three
  have zlx := HZx_w40.out.lt
  go_wp2_with fail
  refine (heldAu_any vl0.ini vl0.acc vl0.es _ _ _ _ _ _ HGm_w40.out (by omega) (by have := HLn.out; omega) (by have := HLn.out; omega) (by have := HLn.out; omega)).mono ?_
  rintro e' w41 ⟨rfl, hb⟩
  clear zx0 zx1 zx2 zlx
  have HB_w41 : Hid (Below W1.heap.size W1 w41) := HB_w40.out.trans (hb.mono HB_w40.out.size)
  have hz_w41 : w40.heap.size ≤ w41.heap.size := hb.size
  have HGp_w41 := Lib.hid (HGp_w40.out.under hb (by omega))
  have HZp_w41 := Lib.hid (HZp_w40.out.under hb HZp_w40.out.lt)
  have HQ0_w41 := Lib.hid (HQ0_w40.out.under hb HQ0_w40.out.lt)
  have HQ1_w41 := Lib.hid (HQ1_w40.out.under hb HQ1_w40.out.lt)
  have HZx_w41 := Lib.hid (HZx_w40.out.under hb HZx_w40.out.lt)
  have HGm_w41 := Lib.hid (HGm_w40.out.under hb (by omega))
  clear hb HGp_w40 HZp_w40 HQ0_w40 HQ1_w40 HZx_w40 HGm_w40
  obtain ⟨g00, g01, g02⟩ := (HR0.out.under HB_w41.out HR0.out.lt).three
  have gl0 : w.heap.size < w41.heap.size := Nat.lt_of_lt_of_le HR0.out.lt HB_w41.out.size
  obtain ⟨g10, g11, g12⟩ := (HR1.out.under HB_w41.out HR1.out.lt).three
  have gl1 : w.heap.size + 1 < w41.heap.size := Nat.lt_of_lt_of_le HR1.out.lt HB_w41.out.size
  have HKS : Hid (∀ X, Below W1.heap.size W1 X → (fun w' => w'.cell? ⟨w.heap.size, 0, none⟩ = some (C0 0) ∧ w'.cell? ⟨w.heap.size, 1, none⟩ = some (C0 1) ∧ w'.cell? ⟨w.heap.size, 2, none⟩ = some (C0 2) ∧ w'.cell? ⟨w.heap.size + 1, 0, none⟩ = some (C1 0) ∧ w'.cell? ⟨w.heap.size + 1, 1, none⟩ = some (C1 1) ∧ w'.cell? ⟨w.heap.size + 1, 2, none⟩ = some (C1 2)) X) := fun X h => ⟨(HR0.out.under h HR0.out.lt).cell 0, (HR0.out.under h HR0.out.lt).cell 1, (HR0.out.under h HR0.out.lt).cell 2, (HR1.out.under h HR1.out.lt).cell 0, (HR1.out.under h HR1.out.lt).cell 1, (HR1.out.under h HR1.out.lt).cell 2⟩
  go_upto_region 31 with fail
  go_cut [15, 16] from 94 to 101 (fun b0 b1 wx => ∃ (zz : Nat) (xah : Option Addr) (xch : Nat) (yah : Option Addr) (ych : Nat) (zah : Option Addr) (zch : Nat), b0 = .pointer (some ⟨zz, 0, none⟩) ∧ b1 = .bool vl1 ∧ Hid (Row wx zz 51 #[.slice xah vl0.ini.length xch, .slice yah vl0.acc.length ych, .slice zah vl0.es.length zch]) ∧ Hid (AuR wx w41.heap.size wx.heap.size vl0.ini vl0.acc vl0.es (.slice xah vl0.ini.length xch) (.slice yah vl0.acc.length ych) (.slice zah vl0.es.length zch)) ∧ w41.heap.size ≤ zz ∧ Hid (Below w41.heap.size w41 wx))
  case first =>
    have HBX_w41 : Hid (Below w41.heap.size w41 w41) := Below.refl _ _
    refine wp_region_held_drew (S := (fun w' => w'.cell? ⟨w.heap.size, 0, none⟩ = some (C0 0) ∧ w'.cell? ⟨w.heap.size, 1, none⟩ = some (C0 1) ∧ w'.cell? ⟨w.heap.size, 2, none⟩ = some (C0 2) ∧ w'.cell? ⟨w.heap.size + 1, 0, none⟩ = some (C1 0) ∧ w'.cell? ⟨w.heap.size + 1, 1, none⟩ = some (C1 1) ∧ w'.cell? ⟨w.heap.size + 1, 2, none⟩ = some (C1 2))) (by kernel_rfl) ?_ (fun hHeld => ?_)
    · exact HKS.out _ HB_w41.out.drew
    obtain ⟨w42, hX0⟩ : ∃ X, X = w41.drew := ⟨_, rfl⟩
    rw [← hX0] at hHeld ⊢
    have hb : Below w41.heap.size w41 w42 := by rw [hX0]; exact (Below.refl _ _).drew
    have HB_w42 : Hid (Below W1.heap.size W1 w42) := HB_w41.out.trans (hb.mono HB_w41.out.size)
    have hz_w42 : w41.heap.size ≤ w42.heap.size := hb.size
    have HBX_w42 : Hid (Below w41.heap.size w41 w42) := HBX_w41.out.trans (hb.mono HBX_w41.out.size)
    have HGp_w42 := Lib.hid (HGp_w41.out.under hb (by omega))
    have HZp_w42 := Lib.hid (HZp_w41.out.under hb HZp_w41.out.lt)
    have HQ0_w42 := Lib.hid (HQ0_w41.out.under hb HQ0_w41.out.lt)
    have HQ1_w42 := Lib.hid (HQ1_w41.out.under hb HQ1_w41.out.lt)
    have HZx_w42 := Lib.hid (HZx_w41.out.under hb HZx_w41.out.lt)
    have HGm_w42 := Lib.hid (HGm_w41.out.under hb (by omega))
    clear hX0 hb HGp_w41 HZp_w41 HQ0_w41 HQ1_w41 HZx_w41 HGm_w41
    refine wpAnyH_take (i := 0) (oi := { dst := some 95, op := Go.Op.load 47 (Go.Operand.tmp 2), type := 47, pos := "exact.go:4894", after := #[], guard := none }) (v := ?_) rfl (by kernel_rfl) (by kernel_rfl) (by kernel_rfl) (fun _ _ _ h => h) (Or.inl ⟨by rfl, ?_⟩) (by assumption) ?_
    rotate_left
    · intro w hSw
      try dsimp only at hSw
      go_simp
      all_goals (with_reducible rfl)
    try simp only [Act.put, List.setIfInBounds_toArray, List.set_cons_zero, List.set_cons_succ]
    refine wpAnyH_take (i := 2) (oi := { dst := some 97, op := Go.Op.load 47 (Go.Operand.tmp 3), type := 47, pos := "exact.go:4894", after := #[], guard := none }) (v := ?_) rfl (by kernel_rfl) (by kernel_rfl) (by kernel_rfl) (fun _ _ _ h => h) (Or.inl ⟨by rfl, ?_⟩) (by assumption) ?_
    rotate_left
    · intro w hSw
      try dsimp only at hSw
      go_simp
      all_goals (with_reducible rfl)
    try simp only [Act.put, List.setIfInBounds_toArray, List.set_cons_zero, List.set_cons_succ]
    refine wpAnyH_ready (rs := [1, 8]) (by kernel_rfl) (by simp) (AllReadyH.cons (o := { dst := some 96, op := Go.Op.call { callee := Go.Callee.value (Go.Operand.func 22), args := #[Go.Operand.tmp 95], argTypes := #[47] }, type := 51, pos := "exact.go:4894", after := #[{ on := 0, ground := Go.Ground.data }], guard := none }) rfl (fun K hK => ?_) (AllReadyH.cons (o := { dst := some 15, op := Go.Op.alloc 51, type := 0, pos := "exact.go:4894", after := #[], guard := none }) rfl (fun K hK => ?_) AllReadyH.nil))
    · skip
      go_simp
      refine (toAu_any e0 C0 _ (Lay.au.later HL0.out HB_w42.out HB_w42.out.size) HD0.out).mono ?_
      rintro e' w43 ⟨h0xa, h0xl, h0xc, h0ya, h0yl, h0yc, h0za, h0zl, h0zc, rfl, hs, hb⟩
      have HB_w43 : Hid (Below W1.heap.size W1 w43) := HB_w42.out.trans (hb.mono HB_w42.out.size)
      have hz_w43 : w42.heap.size ≤ w43.heap.size := hb.size
      have HBX_w43 : Hid (Below w41.heap.size w41 w43) := HBX_w42.out.trans (hb.mono HBX_w42.out.size)
      have HGp_w43 := Lib.hid (HGp_w42.out.under hb (by omega))
      have HZp_w43 := Lib.hid (HZp_w42.out.under hb HZp_w42.out.lt)
      have HQ0_w43 := Lib.hid (HQ0_w42.out.under hb HQ0_w42.out.lt)
      have HQ1_w43 := Lib.hid (HQ1_w42.out.under hb HQ1_w42.out.lt)
      have HZx_w43 := Lib.hid (HZx_w42.out.under hb HZx_w42.out.lt)
      have HGm_w43 := Lib.hid (HGm_w42.out.under hb (by omega))
      have HSh0_w43 : Hid (Lay.au.sep w43 w42.heap.size w43.heap.size e0 (fun j => (#[.slice h0xa h0xl h0xc, .slice h0ya h0yl h0yc, .slice h0za h0zl h0zc] : Array Value).getD j undef)) := hs
      clear hs hb HGp_w42 HZp_w42 HQ0_w42 HQ1_w42 HZx_w42 HGm_w42
      try go_wp2_with fail
      refine hK.out _ _ ?_ (fun hHeld => ?_)
      · exact HKS.out _ HB_w43.out
      clear hK K
      try simp only [Act.put, List.setIfInBounds_toArray, List.set_cons_zero, List.set_cons_succ]
      refine wpAnyH_ready (rs := [3, 8]) (by kernel_rfl) (by simp) (AllReadyH.cons (o := { dst := some 98, op := Go.Op.call { callee := Go.Callee.value (Go.Operand.func 22), args := #[Go.Operand.tmp 97], argTypes := #[47] }, type := 51, pos := "exact.go:4894", after := #[{ on := 2, ground := Go.Ground.data }, { on := 1, ground := Go.Ground.chain }], guard := none }) rfl (fun K hK => ?_) (AllReadyH.cons (o := { dst := some 15, op := Go.Op.alloc 51, type := 0, pos := "exact.go:4894", after := #[], guard := none }) rfl (fun K hK => ?_) AllReadyH.nil))
      · skip
        go_simp
        refine (toAu_any e1 C1 _ (Lay.au.later HL1.out HB_w43.out HB_w43.out.size) HD1.out).mono ?_
        rintro e' w44 ⟨h1xa, h1xl, h1xc, h1ya, h1yl, h1yc, h1za, h1zl, h1zc, rfl, hs, hb⟩
        have HB_w44 : Hid (Below W1.heap.size W1 w44) := HB_w43.out.trans (hb.mono HB_w43.out.size)
        have hz_w44 : w43.heap.size ≤ w44.heap.size := hb.size
        have HBX_w44 : Hid (Below w41.heap.size w41 w44) := HBX_w43.out.trans (hb.mono HBX_w43.out.size)
        have HGp_w44 := Lib.hid (HGp_w43.out.under hb (by omega))
        have HZp_w44 := Lib.hid (HZp_w43.out.under hb HZp_w43.out.lt)
        have HQ0_w44 := Lib.hid (HQ0_w43.out.under hb HQ0_w43.out.lt)
        have HQ1_w44 := Lib.hid (HQ1_w43.out.under hb HQ1_w43.out.lt)
        have HZx_w44 := Lib.hid (HZx_w43.out.under hb HZx_w43.out.lt)
        have HGm_w44 := Lib.hid (HGm_w43.out.under hb (by omega))
        have HSh0_w44 := Lib.hid (Lay.au.sunder HSh0_w43.out hb (by omega))
        have HSh1_w44 : Hid (Lay.au.sep w44 w43.heap.size w44.heap.size e1 (fun j => (#[.slice h1xa h1xl h1xc, .slice h1ya h1yl h1yc, .slice h1za h1zl h1zc] : Array Value).getD j undef)) := hs
        clear hs hb HGp_w43 HZp_w43 HQ0_w43 HQ1_w43 HZx_w43 HGm_w43 HSh0_w43
        try go_wp2_with fail
        refine hK.out _ _ ?_ (fun hHeld => ?_)
        · exact HKS.out _ HB_w44.out
        clear hK K
        try simp only [Act.put, List.setIfInBounds_toArray, List.set_cons_zero, List.set_cons_succ]
        refine wpAnyH_ready (rs := [4, 8]) (by kernel_rfl) (by simp) (AllReadyH.cons (o := { dst := some 99, op := Go.Op.call { callee := Go.Callee.value (Go.Operand.func 23), args := #[Go.Operand.tmp 96, Go.Operand.tmp 98], argTypes := #[51, 51] }, type := 52, pos := "exact.go:4894", after := #[{ on := 1, ground := Go.Ground.data }, { on := 3, ground := Go.Ground.data }, { on := 3, ground := Go.Ground.chain }], guard := none }) rfl (fun K hK => ?_) (AllReadyH.cons (o := { dst := some 15, op := Go.Op.alloc 51, type := 0, pos := "exact.go:4894", after := #[], guard := none }) rfl (fun K hK => ?_) AllReadyH.nil))
        · skip
          go_simp
          refine (implUa_any e0 (fun j => (#[.slice h0xa h0xl h0xc, .slice h0ya h0yl h0yc, .slice h0za h0zl h0zc] : Array Value).getD j undef) e1 (fun j => (#[.slice h1xa h1xl h1xc, .slice h1ya h1yl h1yc, .slice h1za h1zl h1zc] : Array Value).getD j undef) _ (Lay.au.more (Lay.au.sep_lies HSh0_w44.out) (by omega)) (Lay.au.more (Lay.au.sep_lies HSh1_w44.out) (by omega)) HD0.out HD1.out).mono ?_
          rintro e' w45 ⟨Xh, Yh, Zh, rfl, hS, hb⟩
          rw [← HV0.out] at hS
          rw [← HV1.out]
          obtain ⟨xah, xch, yah, ych, zah, zch, rfl, rfl, rfl⟩ := hS.form
          have HB_w45 : Hid (Below W1.heap.size W1 w45) := HB_w44.out.trans (hb.mono HB_w44.out.size)
          have hz_w45 : w44.heap.size ≤ w45.heap.size := hb.size
          have HBX_w45 : Hid (Below w41.heap.size w41 w45) := HBX_w44.out.trans (hb.mono HBX_w44.out.size)
          have HGp_w45 := Lib.hid (HGp_w44.out.under hb (by omega))
          have HZp_w45 := Lib.hid (HZp_w44.out.under hb HZp_w44.out.lt)
          have HQ0_w45 := Lib.hid (HQ0_w44.out.under hb HQ0_w44.out.lt)
          have HQ1_w45 := Lib.hid (HQ1_w44.out.under hb HQ1_w44.out.lt)
          have HZx_w45 := Lib.hid (HZx_w44.out.under hb HZx_w44.out.lt)
          have HGm_w45 := Lib.hid (HGm_w44.out.under hb (by omega))
          have HSh0_w45 := Lib.hid (Lay.au.sunder HSh0_w44.out hb (by omega))
          have HSh1_w45 := Lib.hid (Lay.au.sunder HSh1_w44.out hb (by omega))
          have HGh_w45 : Hid (AuR w45 w44.heap.size w45.heap.size vl0.ini vl0.acc vl0.es (.slice xah vl0.ini.length xch) (.slice yah vl0.acc.length ych) (.slice zah vl0.es.length zch)) := hS
          clear hS hb HGp_w44 HZp_w44 HQ0_w44 HQ1_w44 HZx_w44 HGm_w44 HSh0_w44 HSh1_w44
          try go_wp2_with fail
          refine hK.out _ _ ?_ (fun hHeld => ?_)
          · exact HKS.out _ HB_w45.out
          clear hK K
          try simp only [Act.put, List.setIfInBounds_toArray, List.set_cons_zero, List.set_cons_succ]
          refine wpAnyH_take (i := 5) (oi := { dst := some 94, op := Go.Op.move (Go.Operand.tmp 99), type := 52, pos := "exact.go:4894", after := #[{ on := 4, ground := Go.Ground.data }], guard := none }) (v := ?_) rfl (by kernel_rfl) (by kernel_rfl) (by kernel_rfl) (fun _ _ _ h => h) (Or.inl ⟨by rfl, ?_⟩) (by assumption) ?_
          rotate_left
          · intro w hSw
            try dsimp only at hSw
            go_simp
            all_goals (with_reducible rfl)
          try simp only [Act.put, List.setIfInBounds_toArray, List.set_cons_zero, List.set_cons_succ]
          refine wpAnyH_take (i := 6) (oi := { dst := some 100, op := Go.Op.extract (Go.Operand.tmp 94) 0, type := 51, pos := "exact.go:4894", after := #[{ on := 5, ground := Go.Ground.data }], guard := none }) (v := ?_) rfl (by kernel_rfl) (by kernel_rfl) (by kernel_rfl) (fun _ _ _ h => h) (Or.inl ⟨by rfl, ?_⟩) (by assumption) ?_
          rotate_left
          · intro w hSw
            try dsimp only at hSw
            go_simp
            all_goals (with_reducible rfl)
          try simp only [Act.put, List.setIfInBounds_toArray, List.set_cons_zero, List.set_cons_succ]
          refine wpAnyH_take (i := 7) (oi := { dst := some 101, op := Go.Op.extract (Go.Operand.tmp 94) 1, type := 4, pos := "exact.go:4894", after := #[{ on := 5, ground := Go.Ground.data }, { on := 9, ground := Go.Ground.gcOnly Go.Departure.lateStores }], guard := none }) (v := ?_) rfl (by kernel_rfl) (by kernel_rfl) (by kernel_rfl) (fun _ _ _ h => h) (Or.inl ⟨by rfl, ?_⟩) (by assumption) ?_
          rotate_left
          · intro w hSw
            try dsimp only at hSw
            go_simp
            all_goals (with_reducible rfl)
          try simp only [Act.put, List.setIfInBounds_toArray, List.set_cons_zero, List.set_cons_succ]
          refine wpAnyH_ready (rs := [8]) (by kernel_rfl) (by simp) (AllReadyH.cons (o := { dst := some 15, op := Go.Op.alloc 51, type := 0, pos := "exact.go:4894", after := #[], guard := none }) rfl (fun K hK => ?_) AllReadyH.nil)
          go_simp
          obtain ⟨w46, hY⟩ : ∃ Y, Y = w45.alloc (.cells #[.slice none 0 0, .slice none 0 0, .slice none 0 0] 51) := ⟨_, rfl⟩
          rw [← hY]
          have hb : Below w45.heap.size w45 w46 := by rw [hY]; exact (Below.refl _ _).alloc (Nat.le_refl _) _
          have hnew : Row w46 w45.heap.size 51 #[.slice none 0 0, .slice none 0 0, .slice none 0 0] := by rw [hY]; exact Row.new _ _ _
          have hs_w46 : w45.heap.size < w46.heap.size := hnew.lt
          have HB_w46 : Hid (Below W1.heap.size W1 w46) := HB_w45.out.trans (hb.mono HB_w45.out.size)
          have hz_w46 : w45.heap.size ≤ w46.heap.size := hb.size
          have HBX_w46 : Hid (Below w41.heap.size w41 w46) := HBX_w45.out.trans (hb.mono HBX_w45.out.size)
          have HGp_w46 := Lib.hid (HGp_w45.out.under hb (by omega))
          have HZp_w46 := Lib.hid (HZp_w45.out.under hb HZp_w45.out.lt)
          have HQ0_w46 := Lib.hid (HQ0_w45.out.under hb HQ0_w45.out.lt)
          have HQ1_w46 := Lib.hid (HQ1_w45.out.under hb HQ1_w45.out.lt)
          have HZx_w46 := Lib.hid (HZx_w45.out.under hb HZx_w45.out.lt)
          have HGm_w46 := Lib.hid (HGm_w45.out.under hb (by omega))
          have HSh0_w46 := Lib.hid (Lay.au.sunder HSh0_w45.out hb (by omega))
          have HSh1_w46 := Lib.hid (Lay.au.sunder HSh1_w45.out hb (by omega))
          have HGh_w46 := Lib.hid (HGh_w45.out.under hb (by omega))
          have HZh_w46 := Lib.hid hnew
          clear hnew hb hY HGp_w45 HZp_w45 HQ0_w45 HQ1_w45 HZx_w45 HGm_w45 HSh0_w45 HSh1_w45 HGh_w45
          refine hK.out _ _ ?_ (fun hHeld => ?_)
          · exact HKS.out _ HB_w46.out
          clear hK K
          try simp only [Act.put, List.setIfInBounds_toArray, List.set_cons_zero, List.set_cons_succ]
          refine wpAnyH_ready (rs := [9]) (by kernel_rfl) (by simp) (AllReadyH.cons (o := { dst := none, op := Go.Op.store 51 (Go.Operand.tmp 15) (Go.Operand.tmp 100), type := 0, pos := "exact.go:4894", after := #[{ on := 8, ground := Go.Ground.data }, { on := 6, ground := Go.Ground.data }, { on := 4, ground := Go.Ground.chain }, { on := 0, ground := Go.Ground.phase }, { on := 1, ground := Go.Ground.phase }, { on := 2, ground := Go.Ground.phase }, { on := 3, ground := Go.Ground.phase }, { on := 4, ground := Go.Ground.phase }, { on := 5, ground := Go.Ground.phase }, { on := 6, ground := Go.Ground.phase }, { on := 7, ground := Go.Ground.textOnly Go.Departure.lateStores }, { on := 8, ground := Go.Ground.phase }], guard := none }) rfl (fun K hK => ?_) AllReadyH.nil)
          obtain ⟨x0, x1, x2⟩ := HZh_w46.out.three
          have u0 := HZh_w46.out.frozen 0
          have u1 := HZh_w46.out.frozen 1
          have u2 := HZh_w46.out.frozen 2
          go_simp
          obtain ⟨w47, hY⟩ : ∃ Y, Y = ((w46.setCell ⟨w45.heap.size, 0, none⟩ (.slice xah vl0.ini.length xch)).setCell ⟨w45.heap.size, 1, none⟩ (.slice yah vl0.acc.length ych)).setCell ⟨w45.heap.size, 2, none⟩ (.slice zah vl0.es.length zch) := ⟨_, rfl⟩
          rw [← hY]
          have hk : Kept w45.heap.size (w45.heap.size + 1) w46 w47 := by rw [hY]; exact (((Kept.refl w45.heap.size (w45.heap.size + 1) w46).trans (Kept.set_ w45.heap.size (w45.heap.size + 1) _ (Nat.le_refl _) (Nat.lt_succ_self _) 0 _)).trans (Kept.set_ w45.heap.size (w45.heap.size + 1) _ (Nat.le_refl _) (Nat.lt_succ_self _) 1 _)).trans (Kept.set_ w45.heap.size (w45.heap.size + 1) _ (Nat.le_refl _) (Nat.lt_succ_self _) 2 _)
          have hnew : Row w47 w45.heap.size 51 #[(.slice xah vl0.ini.length xch), (.slice yah vl0.acc.length ych), (.slice zah vl0.es.length zch)] := by rw [hY]; exact (((HZh_w46.out.set_ 0 (.slice xah vl0.ini.length xch)).set_ 1 (.slice yah vl0.acc.length ych)).set_ 2 (.slice zah vl0.es.length zch))
          have HB_w47 : Hid (Below W1.heap.size W1 w47) := HB_w46.out.trans (hk.below (by omega) (by omega))
          have hz_w47 : w46.heap.size ≤ w47.heap.size := hk.size
          have HBX_w47 : Hid (Below w41.heap.size w41 w47) := HBX_w46.out.trans (hk.below (by omega) (by omega))
          have HGp_w47 := Lib.hid (HGp_w46.out.kept hk (by omega) (by omega))
          have HZp_w47 := Lib.hid (HZp_w46.out.kept hk (by omega))
          have HQ0_w47 := Lib.hid (HQ0_w46.out.kept hk (by omega))
          have HQ1_w47 := Lib.hid (HQ1_w46.out.kept hk (by omega))
          have HZx_w47 := Lib.hid (HZx_w46.out.kept hk (by omega))
          have HGm_w47 := Lib.hid (HGm_w46.out.kept hk (by omega) (by omega))
          have HSh0_w47 : Hid (Lay.au.sep w47 w42.heap.size w43.heap.size e0 (fun j => (#[.slice h0xa h0xl h0xc, .slice h0ya h0yl h0yc, .slice h0za h0zl h0zc] : Array Value).getD j undef)) := Lay.au.sep_keep (fun q b1 b2 => hk.other q (by omega) (by omega)) HSh0_w46.out
          have HSh1_w47 : Hid (Lay.au.sep w47 w43.heap.size w44.heap.size e1 (fun j => (#[.slice h1xa h1xl h1xc, .slice h1ya h1yl h1yc, .slice h1za h1zl h1zc] : Array Value).getD j undef)) := Lay.au.sep_keep (fun q b1 b2 => hk.other q (by omega) (by omega)) HSh1_w46.out
          have HGh_w47 := Lib.hid (HGh_w46.out.kept hk (by omega) (by omega))
          have HZh_w47 := Lib.hid hnew
          clear hk hnew hY HZh_w46 x0 u0 x1 u1 x2 u2 HGp_w46 HZp_w46 HQ0_w46 HQ1_w46 HZx_w46 HGm_w46 HSh0_w46 HSh1_w46 HGh_w46
          refine hK.out _ _ ?_ (fun hHeld => ?_)
          · exact HKS.out _ HB_w47.out
          clear hK K
          try simp only [Act.put, List.setIfInBounds_toArray, List.set_cons_zero, List.set_cons_succ]
          refine wpAnyH_take (i := 10) (oi := { dst := some 16, op := Go.Op.assign (Go.Operand.tmp 101), type := 4, pos := "exact.go:4894", after := #[{ on := 7, ground := Go.Ground.data }, { on := 9, ground := Go.Ground.chain }, { on := 0, ground := Go.Ground.phase }, { on := 1, ground := Go.Ground.phase }, { on := 2, ground := Go.Ground.phase }, { on := 3, ground := Go.Ground.phase }, { on := 4, ground := Go.Ground.phase }, { on := 5, ground := Go.Ground.phase }, { on := 6, ground := Go.Ground.phase }, { on := 7, ground := Go.Ground.phase }, { on := 8, ground := Go.Ground.phase }, { on := 9, ground := Go.Ground.phase }], guard := none }) (v := ?_) rfl (by kernel_rfl) (by kernel_rfl) (by kernel_rfl) (fun _ _ _ h => h) (Or.inl ⟨by rfl, ?_⟩) (by assumption) ?_
          rotate_left
          · intro w hSw
            try dsimp only at hSw
            go_simp
            all_goals (with_reducible rfl)
          try simp only [Act.put, List.setIfInBounds_toArray, List.set_cons_zero, List.set_cons_succ]
          refine wpAnyH_done (by kernel_rfl) ?_ _
          go_wp2_with fail
          go_meet
          exact ⟨_, xah, xch, yah, ych, zah, zch, rfl, rfl, HZh_w47, Lib.hid (HGh_w47.out.more (by omega) (by omega)), (by omega), HBX_w47⟩
        · skip
          go_simp
          obtain ⟨w48, hY⟩ : ∃ Y, Y = w44.alloc (.cells #[.slice none 0 0, .slice none 0 0, .slice none 0 0] 51) := ⟨_, rfl⟩
          rw [← hY]
          have hb : Below w44.heap.size w44 w48 := by rw [hY]; exact (Below.refl _ _).alloc (Nat.le_refl _) _
          have hnew : Row w48 w44.heap.size 51 #[.slice none 0 0, .slice none 0 0, .slice none 0 0] := by rw [hY]; exact Row.new _ _ _
          have hs_w48 : w44.heap.size < w48.heap.size := hnew.lt
          have HB_w48 : Hid (Below W1.heap.size W1 w48) := HB_w44.out.trans (hb.mono HB_w44.out.size)
          have hz_w48 : w44.heap.size ≤ w48.heap.size := hb.size
          have HBX_w48 : Hid (Below w41.heap.size w41 w48) := HBX_w44.out.trans (hb.mono HBX_w44.out.size)
          have HGp_w48 := Lib.hid (HGp_w44.out.under hb (by omega))
          have HZp_w48 := Lib.hid (HZp_w44.out.under hb HZp_w44.out.lt)
          have HQ0_w48 := Lib.hid (HQ0_w44.out.under hb HQ0_w44.out.lt)
          have HQ1_w48 := Lib.hid (HQ1_w44.out.under hb HQ1_w44.out.lt)
          have HZx_w48 := Lib.hid (HZx_w44.out.under hb HZx_w44.out.lt)
          have HGm_w48 := Lib.hid (HGm_w44.out.under hb (by omega))
          have HSh0_w48 := Lib.hid (Lay.au.sunder HSh0_w44.out hb (by omega))
          have HSh1_w48 := Lib.hid (Lay.au.sunder HSh1_w44.out hb (by omega))
          have HZh_w48 := Lib.hid hnew
          clear hnew hb hY HGp_w44 HZp_w44 HQ0_w44 HQ1_w44 HZx_w44 HGm_w44 HSh0_w44 HSh1_w44
          refine hK.out _ _ ?_ (fun hHeld => ?_)
          · exact HKS.out _ HB_w48.out
          clear hK K
          try simp only [Act.put, List.setIfInBounds_toArray, List.set_cons_zero, List.set_cons_succ]
          refine wpAnyH_ready (rs := [4]) (by kernel_rfl) (by simp) (AllReadyH.cons (o := { dst := some 99, op := Go.Op.call { callee := Go.Callee.value (Go.Operand.func 23), args := #[Go.Operand.tmp 96, Go.Operand.tmp 98], argTypes := #[51, 51] }, type := 52, pos := "exact.go:4894", after := #[{ on := 1, ground := Go.Ground.data }, { on := 3, ground := Go.Ground.data }, { on := 3, ground := Go.Ground.chain }], guard := none }) rfl (fun K hK => ?_) AllReadyH.nil)
          go_simp
          refine (implUa_any e0 (fun j => (#[.slice h0xa h0xl h0xc, .slice h0ya h0yl h0yc, .slice h0za h0zl h0zc] : Array Value).getD j undef) e1 (fun j => (#[.slice h1xa h1xl h1xc, .slice h1ya h1yl h1yc, .slice h1za h1zl h1zc] : Array Value).getD j undef) _ (Lay.au.more (Lay.au.sep_lies HSh0_w48.out) (by omega)) (Lay.au.more (Lay.au.sep_lies HSh1_w48.out) (by omega)) HD0.out HD1.out).mono ?_
          rintro e' w49 ⟨Xh, Yh, Zh, rfl, hS, hb⟩
          rw [← HV0.out] at hS
          rw [← HV1.out]
          obtain ⟨xah, xch, yah, ych, zah, zch, rfl, rfl, rfl⟩ := hS.form
          have HB_w49 : Hid (Below W1.heap.size W1 w49) := HB_w48.out.trans (hb.mono HB_w48.out.size)
          have hz_w49 : w48.heap.size ≤ w49.heap.size := hb.size
          have HBX_w49 : Hid (Below w41.heap.size w41 w49) := HBX_w48.out.trans (hb.mono HBX_w48.out.size)
          have HGp_w49 := Lib.hid (HGp_w48.out.under hb (by omega))
          have HZp_w49 := Lib.hid (HZp_w48.out.under hb HZp_w48.out.lt)
          have HQ0_w49 := Lib.hid (HQ0_w48.out.under hb HQ0_w48.out.lt)
          have HQ1_w49 := Lib.hid (HQ1_w48.out.under hb HQ1_w48.out.lt)
          have HZx_w49 := Lib.hid (HZx_w48.out.under hb HZx_w48.out.lt)
          have HGm_w49 := Lib.hid (HGm_w48.out.under hb (by omega))
          have HSh0_w49 := Lib.hid (Lay.au.sunder HSh0_w48.out hb (by omega))
          have HSh1_w49 := Lib.hid (Lay.au.sunder HSh1_w48.out hb (by omega))
          have HZh_w49 := Lib.hid (HZh_w48.out.under hb HZh_w48.out.lt)
          have HGh_w49 : Hid (AuR w49 w48.heap.size w49.heap.size vl0.ini vl0.acc vl0.es (.slice xah vl0.ini.length xch) (.slice yah vl0.acc.length ych) (.slice zah vl0.es.length zch)) := hS
          clear hS hb HGp_w48 HZp_w48 HQ0_w48 HQ1_w48 HZx_w48 HGm_w48 HSh0_w48 HSh1_w48 HZh_w48
          try go_wp2_with fail
          refine hK.out _ _ ?_ (fun hHeld => ?_)
          · exact HKS.out _ HB_w49.out
          clear hK K
          try simp only [Act.put, List.setIfInBounds_toArray, List.set_cons_zero, List.set_cons_succ]
          refine wpAnyH_take (i := 5) (oi := { dst := some 94, op := Go.Op.move (Go.Operand.tmp 99), type := 52, pos := "exact.go:4894", after := #[{ on := 4, ground := Go.Ground.data }], guard := none }) (v := ?_) rfl (by kernel_rfl) (by kernel_rfl) (by kernel_rfl) (fun _ _ _ h => h) (Or.inl ⟨by rfl, ?_⟩) (by assumption) ?_
          rotate_left
          · intro w hSw
            try dsimp only at hSw
            go_simp
            all_goals (with_reducible rfl)
          try simp only [Act.put, List.setIfInBounds_toArray, List.set_cons_zero, List.set_cons_succ]
          refine wpAnyH_take (i := 6) (oi := { dst := some 100, op := Go.Op.extract (Go.Operand.tmp 94) 0, type := 51, pos := "exact.go:4894", after := #[{ on := 5, ground := Go.Ground.data }], guard := none }) (v := ?_) rfl (by kernel_rfl) (by kernel_rfl) (by kernel_rfl) (fun _ _ _ h => h) (Or.inl ⟨by rfl, ?_⟩) (by assumption) ?_
          rotate_left
          · intro w hSw
            try dsimp only at hSw
            go_simp
            all_goals (with_reducible rfl)
          try simp only [Act.put, List.setIfInBounds_toArray, List.set_cons_zero, List.set_cons_succ]
          refine wpAnyH_take (i := 7) (oi := { dst := some 101, op := Go.Op.extract (Go.Operand.tmp 94) 1, type := 4, pos := "exact.go:4894", after := #[{ on := 5, ground := Go.Ground.data }, { on := 9, ground := Go.Ground.gcOnly Go.Departure.lateStores }], guard := none }) (v := ?_) rfl (by kernel_rfl) (by kernel_rfl) (by kernel_rfl) (fun _ _ _ h => h) (Or.inl ⟨by rfl, ?_⟩) (by assumption) ?_
          rotate_left
          · intro w hSw
            try dsimp only at hSw
            go_simp
            all_goals (with_reducible rfl)
          try simp only [Act.put, List.setIfInBounds_toArray, List.set_cons_zero, List.set_cons_succ]
          refine wpAnyH_ready (rs := [9]) (by kernel_rfl) (by simp) (AllReadyH.cons (o := { dst := none, op := Go.Op.store 51 (Go.Operand.tmp 15) (Go.Operand.tmp 100), type := 0, pos := "exact.go:4894", after := #[{ on := 8, ground := Go.Ground.data }, { on := 6, ground := Go.Ground.data }, { on := 4, ground := Go.Ground.chain }, { on := 0, ground := Go.Ground.phase }, { on := 1, ground := Go.Ground.phase }, { on := 2, ground := Go.Ground.phase }, { on := 3, ground := Go.Ground.phase }, { on := 4, ground := Go.Ground.phase }, { on := 5, ground := Go.Ground.phase }, { on := 6, ground := Go.Ground.phase }, { on := 7, ground := Go.Ground.textOnly Go.Departure.lateStores }, { on := 8, ground := Go.Ground.phase }], guard := none }) rfl (fun K hK => ?_) AllReadyH.nil)
          obtain ⟨x0, x1, x2⟩ := HZh_w49.out.three
          have u0 := HZh_w49.out.frozen 0
          have u1 := HZh_w49.out.frozen 1
          have u2 := HZh_w49.out.frozen 2
          go_simp
          obtain ⟨w50, hY⟩ : ∃ Y, Y = ((w49.setCell ⟨w44.heap.size, 0, none⟩ (.slice xah vl0.ini.length xch)).setCell ⟨w44.heap.size, 1, none⟩ (.slice yah vl0.acc.length ych)).setCell ⟨w44.heap.size, 2, none⟩ (.slice zah vl0.es.length zch) := ⟨_, rfl⟩
          rw [← hY]
          have hk : Kept w44.heap.size (w44.heap.size + 1) w49 w50 := by rw [hY]; exact (((Kept.refl w44.heap.size (w44.heap.size + 1) w49).trans (Kept.set_ w44.heap.size (w44.heap.size + 1) _ (Nat.le_refl _) (Nat.lt_succ_self _) 0 _)).trans (Kept.set_ w44.heap.size (w44.heap.size + 1) _ (Nat.le_refl _) (Nat.lt_succ_self _) 1 _)).trans (Kept.set_ w44.heap.size (w44.heap.size + 1) _ (Nat.le_refl _) (Nat.lt_succ_self _) 2 _)
          have hnew : Row w50 w44.heap.size 51 #[(.slice xah vl0.ini.length xch), (.slice yah vl0.acc.length ych), (.slice zah vl0.es.length zch)] := by rw [hY]; exact (((HZh_w49.out.set_ 0 (.slice xah vl0.ini.length xch)).set_ 1 (.slice yah vl0.acc.length ych)).set_ 2 (.slice zah vl0.es.length zch))
          have HB_w50 : Hid (Below W1.heap.size W1 w50) := HB_w49.out.trans (hk.below (by omega) (by omega))
          have hz_w50 : w49.heap.size ≤ w50.heap.size := hk.size
          have HBX_w50 : Hid (Below w41.heap.size w41 w50) := HBX_w49.out.trans (hk.below (by omega) (by omega))
          have HGp_w50 := Lib.hid (HGp_w49.out.kept hk (by omega) (by omega))
          have HZp_w50 := Lib.hid (HZp_w49.out.kept hk (by omega))
          have HQ0_w50 := Lib.hid (HQ0_w49.out.kept hk (by omega))
          have HQ1_w50 := Lib.hid (HQ1_w49.out.kept hk (by omega))
          have HZx_w50 := Lib.hid (HZx_w49.out.kept hk (by omega))
          have HGm_w50 := Lib.hid (HGm_w49.out.kept hk (by omega) (by omega))
          have HSh0_w50 : Hid (Lay.au.sep w50 w42.heap.size w43.heap.size e0 (fun j => (#[.slice h0xa h0xl h0xc, .slice h0ya h0yl h0yc, .slice h0za h0zl h0zc] : Array Value).getD j undef)) := Lay.au.sep_keep (fun q b1 b2 => hk.other q (by omega) (by omega)) HSh0_w49.out
          have HSh1_w50 : Hid (Lay.au.sep w50 w43.heap.size w44.heap.size e1 (fun j => (#[.slice h1xa h1xl h1xc, .slice h1ya h1yl h1yc, .slice h1za h1zl h1zc] : Array Value).getD j undef)) := Lay.au.sep_keep (fun q b1 b2 => hk.other q (by omega) (by omega)) HSh1_w49.out
          have HGh_w50 := Lib.hid (HGh_w49.out.kept hk (by omega) (by omega))
          have HZh_w50 := Lib.hid hnew
          clear hk hnew hY HZh_w49 x0 u0 x1 u1 x2 u2 HGp_w49 HZp_w49 HQ0_w49 HQ1_w49 HZx_w49 HGm_w49 HSh0_w49 HSh1_w49 HGh_w49
          refine hK.out _ _ ?_ (fun hHeld => ?_)
          · exact HKS.out _ HB_w50.out
          clear hK K
          try simp only [Act.put, List.setIfInBounds_toArray, List.set_cons_zero, List.set_cons_succ]
          refine wpAnyH_take (i := 10) (oi := { dst := some 16, op := Go.Op.assign (Go.Operand.tmp 101), type := 4, pos := "exact.go:4894", after := #[{ on := 7, ground := Go.Ground.data }, { on := 9, ground := Go.Ground.chain }, { on := 0, ground := Go.Ground.phase }, { on := 1, ground := Go.Ground.phase }, { on := 2, ground := Go.Ground.phase }, { on := 3, ground := Go.Ground.phase }, { on := 4, ground := Go.Ground.phase }, { on := 5, ground := Go.Ground.phase }, { on := 6, ground := Go.Ground.phase }, { on := 7, ground := Go.Ground.phase }, { on := 8, ground := Go.Ground.phase }, { on := 9, ground := Go.Ground.phase }], guard := none }) (v := ?_) rfl (by kernel_rfl) (by kernel_rfl) (by kernel_rfl) (fun _ _ _ h => h) (Or.inl ⟨by rfl, ?_⟩) (by assumption) ?_
          rotate_left
          · intro w hSw
            try dsimp only at hSw
            go_simp
            all_goals (with_reducible rfl)
          try simp only [Act.put, List.setIfInBounds_toArray, List.set_cons_zero, List.set_cons_succ]
          refine wpAnyH_done (by kernel_rfl) ?_ _
          go_wp2_with fail
          go_meet
          exact ⟨_, xah, xch, yah, ych, zah, zch, rfl, rfl, HZh_w50, Lib.hid (HGh_w50.out.more (by omega) (by omega)), (by omega), HBX_w50⟩
      · skip
        go_simp
        obtain ⟨w51, hY⟩ : ∃ Y, Y = w43.alloc (.cells #[.slice none 0 0, .slice none 0 0, .slice none 0 0] 51) := ⟨_, rfl⟩
        rw [← hY]
        have hb : Below w43.heap.size w43 w51 := by rw [hY]; exact (Below.refl _ _).alloc (Nat.le_refl _) _
        have hnew : Row w51 w43.heap.size 51 #[.slice none 0 0, .slice none 0 0, .slice none 0 0] := by rw [hY]; exact Row.new _ _ _
        have hs_w51 : w43.heap.size < w51.heap.size := hnew.lt
        have HB_w51 : Hid (Below W1.heap.size W1 w51) := HB_w43.out.trans (hb.mono HB_w43.out.size)
        have hz_w51 : w43.heap.size ≤ w51.heap.size := hb.size
        have HBX_w51 : Hid (Below w41.heap.size w41 w51) := HBX_w43.out.trans (hb.mono HBX_w43.out.size)
        have HGp_w51 := Lib.hid (HGp_w43.out.under hb (by omega))
        have HZp_w51 := Lib.hid (HZp_w43.out.under hb HZp_w43.out.lt)
        have HQ0_w51 := Lib.hid (HQ0_w43.out.under hb HQ0_w43.out.lt)
        have HQ1_w51 := Lib.hid (HQ1_w43.out.under hb HQ1_w43.out.lt)
        have HZx_w51 := Lib.hid (HZx_w43.out.under hb HZx_w43.out.lt)
        have HGm_w51 := Lib.hid (HGm_w43.out.under hb (by omega))
        have HSh0_w51 := Lib.hid (Lay.au.sunder HSh0_w43.out hb (by omega))
        have HZh_w51 := Lib.hid hnew
        clear hnew hb hY HGp_w43 HZp_w43 HQ0_w43 HQ1_w43 HZx_w43 HGm_w43 HSh0_w43
        refine hK.out _ _ ?_ (fun hHeld => ?_)
        · exact HKS.out _ HB_w51.out
        clear hK K
        try simp only [Act.put, List.setIfInBounds_toArray, List.set_cons_zero, List.set_cons_succ]
        refine wpAnyH_ready (rs := [3]) (by kernel_rfl) (by simp) (AllReadyH.cons (o := { dst := some 98, op := Go.Op.call { callee := Go.Callee.value (Go.Operand.func 22), args := #[Go.Operand.tmp 97], argTypes := #[47] }, type := 51, pos := "exact.go:4894", after := #[{ on := 2, ground := Go.Ground.data }, { on := 1, ground := Go.Ground.chain }], guard := none }) rfl (fun K hK => ?_) AllReadyH.nil)
        go_simp
        refine (toAu_any e1 C1 _ (Lay.au.later HL1.out HB_w51.out HB_w51.out.size) HD1.out).mono ?_
        rintro e' w52 ⟨h1xa, h1xl, h1xc, h1ya, h1yl, h1yc, h1za, h1zl, h1zc, rfl, hs, hb⟩
        have HB_w52 : Hid (Below W1.heap.size W1 w52) := HB_w51.out.trans (hb.mono HB_w51.out.size)
        have hz_w52 : w51.heap.size ≤ w52.heap.size := hb.size
        have HBX_w52 : Hid (Below w41.heap.size w41 w52) := HBX_w51.out.trans (hb.mono HBX_w51.out.size)
        have HGp_w52 := Lib.hid (HGp_w51.out.under hb (by omega))
        have HZp_w52 := Lib.hid (HZp_w51.out.under hb HZp_w51.out.lt)
        have HQ0_w52 := Lib.hid (HQ0_w51.out.under hb HQ0_w51.out.lt)
        have HQ1_w52 := Lib.hid (HQ1_w51.out.under hb HQ1_w51.out.lt)
        have HZx_w52 := Lib.hid (HZx_w51.out.under hb HZx_w51.out.lt)
        have HGm_w52 := Lib.hid (HGm_w51.out.under hb (by omega))
        have HSh0_w52 := Lib.hid (Lay.au.sunder HSh0_w51.out hb (by omega))
        have HZh_w52 := Lib.hid (HZh_w51.out.under hb HZh_w51.out.lt)
        have HSh1_w52 : Hid (Lay.au.sep w52 w51.heap.size w52.heap.size e1 (fun j => (#[.slice h1xa h1xl h1xc, .slice h1ya h1yl h1yc, .slice h1za h1zl h1zc] : Array Value).getD j undef)) := hs
        clear hs hb HGp_w51 HZp_w51 HQ0_w51 HQ1_w51 HZx_w51 HGm_w51 HSh0_w51 HZh_w51
        try go_wp2_with fail
        refine hK.out _ _ ?_ (fun hHeld => ?_)
        · exact HKS.out _ HB_w52.out
        clear hK K
        try simp only [Act.put, List.setIfInBounds_toArray, List.set_cons_zero, List.set_cons_succ]
        refine wpAnyH_ready (rs := [4]) (by kernel_rfl) (by simp) (AllReadyH.cons (o := { dst := some 99, op := Go.Op.call { callee := Go.Callee.value (Go.Operand.func 23), args := #[Go.Operand.tmp 96, Go.Operand.tmp 98], argTypes := #[51, 51] }, type := 52, pos := "exact.go:4894", after := #[{ on := 1, ground := Go.Ground.data }, { on := 3, ground := Go.Ground.data }, { on := 3, ground := Go.Ground.chain }], guard := none }) rfl (fun K hK => ?_) AllReadyH.nil)
        go_simp
        refine (implUa_any e0 (fun j => (#[.slice h0xa h0xl h0xc, .slice h0ya h0yl h0yc, .slice h0za h0zl h0zc] : Array Value).getD j undef) e1 (fun j => (#[.slice h1xa h1xl h1xc, .slice h1ya h1yl h1yc, .slice h1za h1zl h1zc] : Array Value).getD j undef) _ (Lay.au.more (Lay.au.sep_lies HSh0_w52.out) (by omega)) (Lay.au.more (Lay.au.sep_lies HSh1_w52.out) (by omega)) HD0.out HD1.out).mono ?_
        rintro e' w53 ⟨Xh, Yh, Zh, rfl, hS, hb⟩
        rw [← HV0.out] at hS
        rw [← HV1.out]
        obtain ⟨xah, xch, yah, ych, zah, zch, rfl, rfl, rfl⟩ := hS.form
        have HB_w53 : Hid (Below W1.heap.size W1 w53) := HB_w52.out.trans (hb.mono HB_w52.out.size)
        have hz_w53 : w52.heap.size ≤ w53.heap.size := hb.size
        have HBX_w53 : Hid (Below w41.heap.size w41 w53) := HBX_w52.out.trans (hb.mono HBX_w52.out.size)
        have HGp_w53 := Lib.hid (HGp_w52.out.under hb (by omega))
        have HZp_w53 := Lib.hid (HZp_w52.out.under hb HZp_w52.out.lt)
        have HQ0_w53 := Lib.hid (HQ0_w52.out.under hb HQ0_w52.out.lt)
        have HQ1_w53 := Lib.hid (HQ1_w52.out.under hb HQ1_w52.out.lt)
        have HZx_w53 := Lib.hid (HZx_w52.out.under hb HZx_w52.out.lt)
        have HGm_w53 := Lib.hid (HGm_w52.out.under hb (by omega))
        have HSh0_w53 := Lib.hid (Lay.au.sunder HSh0_w52.out hb (by omega))
        have HZh_w53 := Lib.hid (HZh_w52.out.under hb HZh_w52.out.lt)
        have HSh1_w53 := Lib.hid (Lay.au.sunder HSh1_w52.out hb (by omega))
        have HGh_w53 : Hid (AuR w53 w52.heap.size w53.heap.size vl0.ini vl0.acc vl0.es (.slice xah vl0.ini.length xch) (.slice yah vl0.acc.length ych) (.slice zah vl0.es.length zch)) := hS
        clear hS hb HGp_w52 HZp_w52 HQ0_w52 HQ1_w52 HZx_w52 HGm_w52 HSh0_w52 HZh_w52 HSh1_w52
        try go_wp2_with fail
        refine hK.out _ _ ?_ (fun hHeld => ?_)
        · exact HKS.out _ HB_w53.out
        clear hK K
        try simp only [Act.put, List.setIfInBounds_toArray, List.set_cons_zero, List.set_cons_succ]
        refine wpAnyH_take (i := 5) (oi := { dst := some 94, op := Go.Op.move (Go.Operand.tmp 99), type := 52, pos := "exact.go:4894", after := #[{ on := 4, ground := Go.Ground.data }], guard := none }) (v := ?_) rfl (by kernel_rfl) (by kernel_rfl) (by kernel_rfl) (fun _ _ _ h => h) (Or.inl ⟨by rfl, ?_⟩) (by assumption) ?_
        rotate_left
        · intro w hSw
          try dsimp only at hSw
          go_simp
          all_goals (with_reducible rfl)
        try simp only [Act.put, List.setIfInBounds_toArray, List.set_cons_zero, List.set_cons_succ]
        refine wpAnyH_take (i := 6) (oi := { dst := some 100, op := Go.Op.extract (Go.Operand.tmp 94) 0, type := 51, pos := "exact.go:4894", after := #[{ on := 5, ground := Go.Ground.data }], guard := none }) (v := ?_) rfl (by kernel_rfl) (by kernel_rfl) (by kernel_rfl) (fun _ _ _ h => h) (Or.inl ⟨by rfl, ?_⟩) (by assumption) ?_
        rotate_left
        · intro w hSw
          try dsimp only at hSw
          go_simp
          all_goals (with_reducible rfl)
        try simp only [Act.put, List.setIfInBounds_toArray, List.set_cons_zero, List.set_cons_succ]
        refine wpAnyH_take (i := 7) (oi := { dst := some 101, op := Go.Op.extract (Go.Operand.tmp 94) 1, type := 4, pos := "exact.go:4894", after := #[{ on := 5, ground := Go.Ground.data }, { on := 9, ground := Go.Ground.gcOnly Go.Departure.lateStores }], guard := none }) (v := ?_) rfl (by kernel_rfl) (by kernel_rfl) (by kernel_rfl) (fun _ _ _ h => h) (Or.inl ⟨by rfl, ?_⟩) (by assumption) ?_
        rotate_left
        · intro w hSw
          try dsimp only at hSw
          go_simp
          all_goals (with_reducible rfl)
        try simp only [Act.put, List.setIfInBounds_toArray, List.set_cons_zero, List.set_cons_succ]
        refine wpAnyH_ready (rs := [9]) (by kernel_rfl) (by simp) (AllReadyH.cons (o := { dst := none, op := Go.Op.store 51 (Go.Operand.tmp 15) (Go.Operand.tmp 100), type := 0, pos := "exact.go:4894", after := #[{ on := 8, ground := Go.Ground.data }, { on := 6, ground := Go.Ground.data }, { on := 4, ground := Go.Ground.chain }, { on := 0, ground := Go.Ground.phase }, { on := 1, ground := Go.Ground.phase }, { on := 2, ground := Go.Ground.phase }, { on := 3, ground := Go.Ground.phase }, { on := 4, ground := Go.Ground.phase }, { on := 5, ground := Go.Ground.phase }, { on := 6, ground := Go.Ground.phase }, { on := 7, ground := Go.Ground.textOnly Go.Departure.lateStores }, { on := 8, ground := Go.Ground.phase }], guard := none }) rfl (fun K hK => ?_) AllReadyH.nil)
        obtain ⟨x0, x1, x2⟩ := HZh_w53.out.three
        have u0 := HZh_w53.out.frozen 0
        have u1 := HZh_w53.out.frozen 1
        have u2 := HZh_w53.out.frozen 2
        go_simp
        obtain ⟨w54, hY⟩ : ∃ Y, Y = ((w53.setCell ⟨w43.heap.size, 0, none⟩ (.slice xah vl0.ini.length xch)).setCell ⟨w43.heap.size, 1, none⟩ (.slice yah vl0.acc.length ych)).setCell ⟨w43.heap.size, 2, none⟩ (.slice zah vl0.es.length zch) := ⟨_, rfl⟩
        rw [← hY]
        have hk : Kept w43.heap.size (w43.heap.size + 1) w53 w54 := by rw [hY]; exact (((Kept.refl w43.heap.size (w43.heap.size + 1) w53).trans (Kept.set_ w43.heap.size (w43.heap.size + 1) _ (Nat.le_refl _) (Nat.lt_succ_self _) 0 _)).trans (Kept.set_ w43.heap.size (w43.heap.size + 1) _ (Nat.le_refl _) (Nat.lt_succ_self _) 1 _)).trans (Kept.set_ w43.heap.size (w43.heap.size + 1) _ (Nat.le_refl _) (Nat.lt_succ_self _) 2 _)
        have hnew : Row w54 w43.heap.size 51 #[(.slice xah vl0.ini.length xch), (.slice yah vl0.acc.length ych), (.slice zah vl0.es.length zch)] := by rw [hY]; exact (((HZh_w53.out.set_ 0 (.slice xah vl0.ini.length xch)).set_ 1 (.slice yah vl0.acc.length ych)).set_ 2 (.slice zah vl0.es.length zch))
        have HB_w54 : Hid (Below W1.heap.size W1 w54) := HB_w53.out.trans (hk.below (by omega) (by omega))
        have hz_w54 : w53.heap.size ≤ w54.heap.size := hk.size
        have HBX_w54 : Hid (Below w41.heap.size w41 w54) := HBX_w53.out.trans (hk.below (by omega) (by omega))
        have HGp_w54 := Lib.hid (HGp_w53.out.kept hk (by omega) (by omega))
        have HZp_w54 := Lib.hid (HZp_w53.out.kept hk (by omega))
        have HQ0_w54 := Lib.hid (HQ0_w53.out.kept hk (by omega))
        have HQ1_w54 := Lib.hid (HQ1_w53.out.kept hk (by omega))
        have HZx_w54 := Lib.hid (HZx_w53.out.kept hk (by omega))
        have HGm_w54 := Lib.hid (HGm_w53.out.kept hk (by omega) (by omega))
        have HSh0_w54 : Hid (Lay.au.sep w54 w42.heap.size w43.heap.size e0 (fun j => (#[.slice h0xa h0xl h0xc, .slice h0ya h0yl h0yc, .slice h0za h0zl h0zc] : Array Value).getD j undef)) := Lay.au.sep_keep (fun q b1 b2 => hk.other q (by omega) (by omega)) HSh0_w53.out
        have HSh1_w54 : Hid (Lay.au.sep w54 w51.heap.size w52.heap.size e1 (fun j => (#[.slice h1xa h1xl h1xc, .slice h1ya h1yl h1yc, .slice h1za h1zl h1zc] : Array Value).getD j undef)) := Lay.au.sep_keep (fun q b1 b2 => hk.other q (by omega) (by omega)) HSh1_w53.out
        have HGh_w54 := Lib.hid (HGh_w53.out.kept hk (by omega) (by omega))
        have HZh_w54 := Lib.hid hnew
        clear hk hnew hY HZh_w53 x0 u0 x1 u1 x2 u2 HGp_w53 HZp_w53 HQ0_w53 HQ1_w53 HZx_w53 HGm_w53 HSh0_w53 HSh1_w53 HGh_w53
        refine hK.out _ _ ?_ (fun hHeld => ?_)
        · exact HKS.out _ HB_w54.out
        clear hK K
        try simp only [Act.put, List.setIfInBounds_toArray, List.set_cons_zero, List.set_cons_succ]
        refine wpAnyH_take (i := 10) (oi := { dst := some 16, op := Go.Op.assign (Go.Operand.tmp 101), type := 4, pos := "exact.go:4894", after := #[{ on := 7, ground := Go.Ground.data }, { on := 9, ground := Go.Ground.chain }, { on := 0, ground := Go.Ground.phase }, { on := 1, ground := Go.Ground.phase }, { on := 2, ground := Go.Ground.phase }, { on := 3, ground := Go.Ground.phase }, { on := 4, ground := Go.Ground.phase }, { on := 5, ground := Go.Ground.phase }, { on := 6, ground := Go.Ground.phase }, { on := 7, ground := Go.Ground.phase }, { on := 8, ground := Go.Ground.phase }, { on := 9, ground := Go.Ground.phase }], guard := none }) (v := ?_) rfl (by kernel_rfl) (by kernel_rfl) (by kernel_rfl) (fun _ _ _ h => h) (Or.inl ⟨by rfl, ?_⟩) (by assumption) ?_
        rotate_left
        · intro w hSw
          try dsimp only at hSw
          go_simp
          all_goals (with_reducible rfl)
        try simp only [Act.put, List.setIfInBounds_toArray, List.set_cons_zero, List.set_cons_succ]
        refine wpAnyH_done (by kernel_rfl) ?_ _
        go_wp2_with fail
        go_meet
        exact ⟨_, xah, xch, yah, ych, zah, zch, rfl, rfl, HZh_w54, Lib.hid (HGh_w54.out.more (by omega) (by omega)), (by omega), HBX_w54⟩
    · skip
      go_simp
      obtain ⟨w55, hY⟩ : ∃ Y, Y = w42.alloc (.cells #[.slice none 0 0, .slice none 0 0, .slice none 0 0] 51) := ⟨_, rfl⟩
      rw [← hY]
      have hb : Below w42.heap.size w42 w55 := by rw [hY]; exact (Below.refl _ _).alloc (Nat.le_refl _) _
      have hnew : Row w55 w42.heap.size 51 #[.slice none 0 0, .slice none 0 0, .slice none 0 0] := by rw [hY]; exact Row.new _ _ _
      have hs_w55 : w42.heap.size < w55.heap.size := hnew.lt
      have HB_w55 : Hid (Below W1.heap.size W1 w55) := HB_w42.out.trans (hb.mono HB_w42.out.size)
      have hz_w55 : w42.heap.size ≤ w55.heap.size := hb.size
      have HBX_w55 : Hid (Below w41.heap.size w41 w55) := HBX_w42.out.trans (hb.mono HBX_w42.out.size)
      have HGp_w55 := Lib.hid (HGp_w42.out.under hb (by omega))
      have HZp_w55 := Lib.hid (HZp_w42.out.under hb HZp_w42.out.lt)
      have HQ0_w55 := Lib.hid (HQ0_w42.out.under hb HQ0_w42.out.lt)
      have HQ1_w55 := Lib.hid (HQ1_w42.out.under hb HQ1_w42.out.lt)
      have HZx_w55 := Lib.hid (HZx_w42.out.under hb HZx_w42.out.lt)
      have HGm_w55 := Lib.hid (HGm_w42.out.under hb (by omega))
      have HZh_w55 := Lib.hid hnew
      clear hnew hb hY HGp_w42 HZp_w42 HQ0_w42 HQ1_w42 HZx_w42 HGm_w42
      refine hK.out _ _ ?_ (fun hHeld => ?_)
      · exact HKS.out _ HB_w55.out
      clear hK K
      try simp only [Act.put, List.setIfInBounds_toArray, List.set_cons_zero, List.set_cons_succ]
      refine wpAnyH_ready (rs := [1]) (by kernel_rfl) (by simp) (AllReadyH.cons (o := { dst := some 96, op := Go.Op.call { callee := Go.Callee.value (Go.Operand.func 22), args := #[Go.Operand.tmp 95], argTypes := #[47] }, type := 51, pos := "exact.go:4894", after := #[{ on := 0, ground := Go.Ground.data }], guard := none }) rfl (fun K hK => ?_) AllReadyH.nil)
      go_simp
      refine (toAu_any e0 C0 _ (Lay.au.later HL0.out HB_w55.out HB_w55.out.size) HD0.out).mono ?_
      rintro e' w56 ⟨h0xa, h0xl, h0xc, h0ya, h0yl, h0yc, h0za, h0zl, h0zc, rfl, hs, hb⟩
      have HB_w56 : Hid (Below W1.heap.size W1 w56) := HB_w55.out.trans (hb.mono HB_w55.out.size)
      have hz_w56 : w55.heap.size ≤ w56.heap.size := hb.size
      have HBX_w56 : Hid (Below w41.heap.size w41 w56) := HBX_w55.out.trans (hb.mono HBX_w55.out.size)
      have HGp_w56 := Lib.hid (HGp_w55.out.under hb (by omega))
      have HZp_w56 := Lib.hid (HZp_w55.out.under hb HZp_w55.out.lt)
      have HQ0_w56 := Lib.hid (HQ0_w55.out.under hb HQ0_w55.out.lt)
      have HQ1_w56 := Lib.hid (HQ1_w55.out.under hb HQ1_w55.out.lt)
      have HZx_w56 := Lib.hid (HZx_w55.out.under hb HZx_w55.out.lt)
      have HGm_w56 := Lib.hid (HGm_w55.out.under hb (by omega))
      have HZh_w56 := Lib.hid (HZh_w55.out.under hb HZh_w55.out.lt)
      have HSh0_w56 : Hid (Lay.au.sep w56 w55.heap.size w56.heap.size e0 (fun j => (#[.slice h0xa h0xl h0xc, .slice h0ya h0yl h0yc, .slice h0za h0zl h0zc] : Array Value).getD j undef)) := hs
      clear hs hb HGp_w55 HZp_w55 HQ0_w55 HQ1_w55 HZx_w55 HGm_w55 HZh_w55
      try go_wp2_with fail
      refine hK.out _ _ ?_ (fun hHeld => ?_)
      · exact HKS.out _ HB_w56.out
      clear hK K
      try simp only [Act.put, List.setIfInBounds_toArray, List.set_cons_zero, List.set_cons_succ]
      refine wpAnyH_ready (rs := [3]) (by kernel_rfl) (by simp) (AllReadyH.cons (o := { dst := some 98, op := Go.Op.call { callee := Go.Callee.value (Go.Operand.func 22), args := #[Go.Operand.tmp 97], argTypes := #[47] }, type := 51, pos := "exact.go:4894", after := #[{ on := 2, ground := Go.Ground.data }, { on := 1, ground := Go.Ground.chain }], guard := none }) rfl (fun K hK => ?_) AllReadyH.nil)
      go_simp
      refine (toAu_any e1 C1 _ (Lay.au.later HL1.out HB_w56.out HB_w56.out.size) HD1.out).mono ?_
      rintro e' w57 ⟨h1xa, h1xl, h1xc, h1ya, h1yl, h1yc, h1za, h1zl, h1zc, rfl, hs, hb⟩
      have HB_w57 : Hid (Below W1.heap.size W1 w57) := HB_w56.out.trans (hb.mono HB_w56.out.size)
      have hz_w57 : w56.heap.size ≤ w57.heap.size := hb.size
      have HBX_w57 : Hid (Below w41.heap.size w41 w57) := HBX_w56.out.trans (hb.mono HBX_w56.out.size)
      have HGp_w57 := Lib.hid (HGp_w56.out.under hb (by omega))
      have HZp_w57 := Lib.hid (HZp_w56.out.under hb HZp_w56.out.lt)
      have HQ0_w57 := Lib.hid (HQ0_w56.out.under hb HQ0_w56.out.lt)
      have HQ1_w57 := Lib.hid (HQ1_w56.out.under hb HQ1_w56.out.lt)
      have HZx_w57 := Lib.hid (HZx_w56.out.under hb HZx_w56.out.lt)
      have HGm_w57 := Lib.hid (HGm_w56.out.under hb (by omega))
      have HZh_w57 := Lib.hid (HZh_w56.out.under hb HZh_w56.out.lt)
      have HSh0_w57 := Lib.hid (Lay.au.sunder HSh0_w56.out hb (by omega))
      have HSh1_w57 : Hid (Lay.au.sep w57 w56.heap.size w57.heap.size e1 (fun j => (#[.slice h1xa h1xl h1xc, .slice h1ya h1yl h1yc, .slice h1za h1zl h1zc] : Array Value).getD j undef)) := hs
      clear hs hb HGp_w56 HZp_w56 HQ0_w56 HQ1_w56 HZx_w56 HGm_w56 HZh_w56 HSh0_w56
      try go_wp2_with fail
      refine hK.out _ _ ?_ (fun hHeld => ?_)
      · exact HKS.out _ HB_w57.out
      clear hK K
      try simp only [Act.put, List.setIfInBounds_toArray, List.set_cons_zero, List.set_cons_succ]
      refine wpAnyH_ready (rs := [4]) (by kernel_rfl) (by simp) (AllReadyH.cons (o := { dst := some 99, op := Go.Op.call { callee := Go.Callee.value (Go.Operand.func 23), args := #[Go.Operand.tmp 96, Go.Operand.tmp 98], argTypes := #[51, 51] }, type := 52, pos := "exact.go:4894", after := #[{ on := 1, ground := Go.Ground.data }, { on := 3, ground := Go.Ground.data }, { on := 3, ground := Go.Ground.chain }], guard := none }) rfl (fun K hK => ?_) AllReadyH.nil)
      go_simp
      refine (implUa_any e0 (fun j => (#[.slice h0xa h0xl h0xc, .slice h0ya h0yl h0yc, .slice h0za h0zl h0zc] : Array Value).getD j undef) e1 (fun j => (#[.slice h1xa h1xl h1xc, .slice h1ya h1yl h1yc, .slice h1za h1zl h1zc] : Array Value).getD j undef) _ (Lay.au.more (Lay.au.sep_lies HSh0_w57.out) (by omega)) (Lay.au.more (Lay.au.sep_lies HSh1_w57.out) (by omega)) HD0.out HD1.out).mono ?_
      rintro e' w58 ⟨Xh, Yh, Zh, rfl, hS, hb⟩
      rw [← HV0.out] at hS
      rw [← HV1.out]
      obtain ⟨xah, xch, yah, ych, zah, zch, rfl, rfl, rfl⟩ := hS.form
      have HB_w58 : Hid (Below W1.heap.size W1 w58) := HB_w57.out.trans (hb.mono HB_w57.out.size)
      have hz_w58 : w57.heap.size ≤ w58.heap.size := hb.size
      have HBX_w58 : Hid (Below w41.heap.size w41 w58) := HBX_w57.out.trans (hb.mono HBX_w57.out.size)
      have HGp_w58 := Lib.hid (HGp_w57.out.under hb (by omega))
      have HZp_w58 := Lib.hid (HZp_w57.out.under hb HZp_w57.out.lt)
      have HQ0_w58 := Lib.hid (HQ0_w57.out.under hb HQ0_w57.out.lt)
      have HQ1_w58 := Lib.hid (HQ1_w57.out.under hb HQ1_w57.out.lt)
      have HZx_w58 := Lib.hid (HZx_w57.out.under hb HZx_w57.out.lt)
      have HGm_w58 := Lib.hid (HGm_w57.out.under hb (by omega))
      have HZh_w58 := Lib.hid (HZh_w57.out.under hb HZh_w57.out.lt)
      have HSh0_w58 := Lib.hid (Lay.au.sunder HSh0_w57.out hb (by omega))
      have HSh1_w58 := Lib.hid (Lay.au.sunder HSh1_w57.out hb (by omega))
      have HGh_w58 : Hid (AuR w58 w57.heap.size w58.heap.size vl0.ini vl0.acc vl0.es (.slice xah vl0.ini.length xch) (.slice yah vl0.acc.length ych) (.slice zah vl0.es.length zch)) := hS
      clear hS hb HGp_w57 HZp_w57 HQ0_w57 HQ1_w57 HZx_w57 HGm_w57 HZh_w57 HSh0_w57 HSh1_w57
      try go_wp2_with fail
      refine hK.out _ _ ?_ (fun hHeld => ?_)
      · exact HKS.out _ HB_w58.out
      clear hK K
      try simp only [Act.put, List.setIfInBounds_toArray, List.set_cons_zero, List.set_cons_succ]
      refine wpAnyH_take (i := 5) (oi := { dst := some 94, op := Go.Op.move (Go.Operand.tmp 99), type := 52, pos := "exact.go:4894", after := #[{ on := 4, ground := Go.Ground.data }], guard := none }) (v := ?_) rfl (by kernel_rfl) (by kernel_rfl) (by kernel_rfl) (fun _ _ _ h => h) (Or.inl ⟨by rfl, ?_⟩) (by assumption) ?_
      rotate_left
      · intro w hSw
        try dsimp only at hSw
        go_simp
        all_goals (with_reducible rfl)
      try simp only [Act.put, List.setIfInBounds_toArray, List.set_cons_zero, List.set_cons_succ]
      refine wpAnyH_take (i := 6) (oi := { dst := some 100, op := Go.Op.extract (Go.Operand.tmp 94) 0, type := 51, pos := "exact.go:4894", after := #[{ on := 5, ground := Go.Ground.data }], guard := none }) (v := ?_) rfl (by kernel_rfl) (by kernel_rfl) (by kernel_rfl) (fun _ _ _ h => h) (Or.inl ⟨by rfl, ?_⟩) (by assumption) ?_
      rotate_left
      · intro w hSw
        try dsimp only at hSw
        go_simp
        all_goals (with_reducible rfl)
      try simp only [Act.put, List.setIfInBounds_toArray, List.set_cons_zero, List.set_cons_succ]
      refine wpAnyH_take (i := 7) (oi := { dst := some 101, op := Go.Op.extract (Go.Operand.tmp 94) 1, type := 4, pos := "exact.go:4894", after := #[{ on := 5, ground := Go.Ground.data }, { on := 9, ground := Go.Ground.gcOnly Go.Departure.lateStores }], guard := none }) (v := ?_) rfl (by kernel_rfl) (by kernel_rfl) (by kernel_rfl) (fun _ _ _ h => h) (Or.inl ⟨by rfl, ?_⟩) (by assumption) ?_
      rotate_left
      · intro w hSw
        try dsimp only at hSw
        go_simp
        all_goals (with_reducible rfl)
      try simp only [Act.put, List.setIfInBounds_toArray, List.set_cons_zero, List.set_cons_succ]
      refine wpAnyH_ready (rs := [9]) (by kernel_rfl) (by simp) (AllReadyH.cons (o := { dst := none, op := Go.Op.store 51 (Go.Operand.tmp 15) (Go.Operand.tmp 100), type := 0, pos := "exact.go:4894", after := #[{ on := 8, ground := Go.Ground.data }, { on := 6, ground := Go.Ground.data }, { on := 4, ground := Go.Ground.chain }, { on := 0, ground := Go.Ground.phase }, { on := 1, ground := Go.Ground.phase }, { on := 2, ground := Go.Ground.phase }, { on := 3, ground := Go.Ground.phase }, { on := 4, ground := Go.Ground.phase }, { on := 5, ground := Go.Ground.phase }, { on := 6, ground := Go.Ground.phase }, { on := 7, ground := Go.Ground.textOnly Go.Departure.lateStores }, { on := 8, ground := Go.Ground.phase }], guard := none }) rfl (fun K hK => ?_) AllReadyH.nil)
      obtain ⟨x0, x1, x2⟩ := HZh_w58.out.three
      have u0 := HZh_w58.out.frozen 0
      have u1 := HZh_w58.out.frozen 1
      have u2 := HZh_w58.out.frozen 2
      go_simp
      obtain ⟨w59, hY⟩ : ∃ Y, Y = ((w58.setCell ⟨w42.heap.size, 0, none⟩ (.slice xah vl0.ini.length xch)).setCell ⟨w42.heap.size, 1, none⟩ (.slice yah vl0.acc.length ych)).setCell ⟨w42.heap.size, 2, none⟩ (.slice zah vl0.es.length zch) := ⟨_, rfl⟩
      rw [← hY]
      have hk : Kept w42.heap.size (w42.heap.size + 1) w58 w59 := by rw [hY]; exact (((Kept.refl w42.heap.size (w42.heap.size + 1) w58).trans (Kept.set_ w42.heap.size (w42.heap.size + 1) _ (Nat.le_refl _) (Nat.lt_succ_self _) 0 _)).trans (Kept.set_ w42.heap.size (w42.heap.size + 1) _ (Nat.le_refl _) (Nat.lt_succ_self _) 1 _)).trans (Kept.set_ w42.heap.size (w42.heap.size + 1) _ (Nat.le_refl _) (Nat.lt_succ_self _) 2 _)
      have hnew : Row w59 w42.heap.size 51 #[(.slice xah vl0.ini.length xch), (.slice yah vl0.acc.length ych), (.slice zah vl0.es.length zch)] := by rw [hY]; exact (((HZh_w58.out.set_ 0 (.slice xah vl0.ini.length xch)).set_ 1 (.slice yah vl0.acc.length ych)).set_ 2 (.slice zah vl0.es.length zch))
      have HB_w59 : Hid (Below W1.heap.size W1 w59) := HB_w58.out.trans (hk.below (by omega) (by omega))
      have hz_w59 : w58.heap.size ≤ w59.heap.size := hk.size
      have HBX_w59 : Hid (Below w41.heap.size w41 w59) := HBX_w58.out.trans (hk.below (by omega) (by omega))
      have HGp_w59 := Lib.hid (HGp_w58.out.kept hk (by omega) (by omega))
      have HZp_w59 := Lib.hid (HZp_w58.out.kept hk (by omega))
      have HQ0_w59 := Lib.hid (HQ0_w58.out.kept hk (by omega))
      have HQ1_w59 := Lib.hid (HQ1_w58.out.kept hk (by omega))
      have HZx_w59 := Lib.hid (HZx_w58.out.kept hk (by omega))
      have HGm_w59 := Lib.hid (HGm_w58.out.kept hk (by omega) (by omega))
      have HSh0_w59 : Hid (Lay.au.sep w59 w55.heap.size w56.heap.size e0 (fun j => (#[.slice h0xa h0xl h0xc, .slice h0ya h0yl h0yc, .slice h0za h0zl h0zc] : Array Value).getD j undef)) := Lay.au.sep_keep (fun q b1 b2 => hk.other q (by omega) (by omega)) HSh0_w58.out
      have HSh1_w59 : Hid (Lay.au.sep w59 w56.heap.size w57.heap.size e1 (fun j => (#[.slice h1xa h1xl h1xc, .slice h1ya h1yl h1yc, .slice h1za h1zl h1zc] : Array Value).getD j undef)) := Lay.au.sep_keep (fun q b1 b2 => hk.other q (by omega) (by omega)) HSh1_w58.out
      have HGh_w59 := Lib.hid (HGh_w58.out.kept hk (by omega) (by omega))
      have HZh_w59 := Lib.hid hnew
      clear hk hnew hY HZh_w58 x0 u0 x1 u1 x2 u2 HGp_w58 HZp_w58 HQ0_w58 HQ1_w58 HZx_w58 HGm_w58 HSh0_w58 HSh1_w58 HGh_w58
      refine hK.out _ _ ?_ (fun hHeld => ?_)
      · exact HKS.out _ HB_w59.out
      clear hK K
      try simp only [Act.put, List.setIfInBounds_toArray, List.set_cons_zero, List.set_cons_succ]
      refine wpAnyH_take (i := 10) (oi := { dst := some 16, op := Go.Op.assign (Go.Operand.tmp 101), type := 4, pos := "exact.go:4894", after := #[{ on := 7, ground := Go.Ground.data }, { on := 9, ground := Go.Ground.chain }, { on := 0, ground := Go.Ground.phase }, { on := 1, ground := Go.Ground.phase }, { on := 2, ground := Go.Ground.phase }, { on := 3, ground := Go.Ground.phase }, { on := 4, ground := Go.Ground.phase }, { on := 5, ground := Go.Ground.phase }, { on := 6, ground := Go.Ground.phase }, { on := 7, ground := Go.Ground.phase }, { on := 8, ground := Go.Ground.phase }, { on := 9, ground := Go.Ground.phase }], guard := none }) (v := ?_) rfl (by kernel_rfl) (by kernel_rfl) (by kernel_rfl) (fun _ _ _ h => h) (Or.inl ⟨by rfl, ?_⟩) (by assumption) ?_
      rotate_left
      · intro w hSw
        try dsimp only at hSw
        go_simp
        all_goals (with_reducible rfl)
      try simp only [Act.put, List.setIfInBounds_toArray, List.set_cons_zero, List.set_cons_succ]
      refine wpAnyH_done (by kernel_rfl) ?_ _
      go_wp2_with fail
      go_meet
      exact ⟨_, xah, xch, yah, ych, zah, zch, rfl, rfl, HZh_w59, Lib.hid (HGh_w59.out.more (by omega) (by omega)), (by omega), HBX_w59⟩
  case rest =>
  obtain ⟨zzh, xah, xch, yah, ych, zah, zch, rfl, rfl, HZc, HGc, hzh, HBc⟩ := hcut
  obtain ⟨w60, rfl⟩ : ∃ x, x = wc := ⟨_, rfl⟩
  have hb : Below w41.heap.size w41 w60 := HBc.out
  have HB_w60 : Hid (Below W1.heap.size W1 w60) := HB_w41.out.trans (hb.mono HB_w41.out.size)
  have hz_w60 : w41.heap.size ≤ w60.heap.size := hb.size
  have HGp_w60 := Lib.hid (HGp_w41.out.under hb (by omega))
  have HZp_w60 := Lib.hid (HZp_w41.out.under hb HZp_w41.out.lt)
  have HQ0_w60 := Lib.hid (HQ0_w41.out.under hb HQ0_w41.out.lt)
  have HQ1_w60 := Lib.hid (HQ1_w41.out.under hb HQ1_w41.out.lt)
  have HZx_w60 := Lib.hid (HZx_w41.out.under hb HZx_w41.out.lt)
  have HGm_w60 := Lib.hid (HGm_w41.out.under hb (by omega))
  have HGh_w60 := HGc
  have HZh_w60 := HZc
  clear HGc HZc
  have zlth : zzh < w60.heap.size := HZh_w60.out.lt
  clear hb HBc HKS HGp_w41 HZp_w41 HQ0_w41 HQ1_w41 HZx_w41 HGm_w41
  clear g00 g01 g02 gl0 g10 g11 g12 gl1
  obtain ⟨zh0, zh1, zh2⟩ := HZh_w60.out.three
  have zlh := HZh_w60.out.lt
  obtain ⟨zp0, zp1, zp2⟩ := HZp_w60.out.three
  have zlp := HZp_w60.out.lt
  go_wp2_with fail
  refine (eqAu_any vl0 (fun j => (#[.slice xah vl0.ini.length xch, .slice yah vl0.acc.length ych, .slice zah vl0.es.length zch] : Array Value).getD j undef) (fun j => (#[.slice xap vl0.ini.length xcp, .slice yap vl0.acc.length ycp, .slice zap vl0.es.length zcp] : Array Value).getD j undef) _ (HGh_w60.out.liesE (by omega) HLr.out (by have := HLn.out; omega)) (HGp_w60.out.liesE (by omega) HLr.out (by have := HLn.out; omega))).mono ?_
  rintro e' w61 ⟨rfl, hb⟩
  have HB_w61 : Hid (Below W1.heap.size W1 w61) := HB_w60.out.trans (hb.mono HB_w60.out.size)
  have hz_w61 : w60.heap.size ≤ w61.heap.size := hb.size
  have HGp_w61 := Lib.hid (HGp_w60.out.under hb (by omega))
  have HZp_w61 := Lib.hid (HZp_w60.out.under hb HZp_w60.out.lt)
  have HQ0_w61 := Lib.hid (HQ0_w60.out.under hb HQ0_w60.out.lt)
  have HQ1_w61 := Lib.hid (HQ1_w60.out.under hb HQ1_w60.out.lt)
  have HZx_w61 := Lib.hid (HZx_w60.out.under hb HZx_w60.out.lt)
  have HGm_w61 := Lib.hid (HGm_w60.out.under hb (by omega))
  have HGh_w61 := Lib.hid (HGh_w60.out.under hb (by omega))
  have HZh_w61 := Lib.hid (HZh_w60.out.under hb HZh_w60.out.lt)
  clear hb HGp_w60 HZp_w60 HQ0_w60 HQ1_w60 HZx_w60 HGm_w60 HGh_w60 HZh_w60
  clear zh0 zh1 zh2 zlh zp0 zp1 zp2 zlp
  obtain ⟨zx0, zx1, zx2⟩ := HZx_w61.out.three
  have zlx := HZx_w61.out.lt
  go_wp2_with fail
  refine (heldAu_any vl0.ini vl0.acc vl0.es _ _ _ _ _ _ HGm_w61.out (by omega) (by have := HLn.out; omega) (by have := HLn.out; omega) (by have := HLn.out; omega)).mono ?_
  rintro e' w62 ⟨rfl, hb⟩
  clear zx0 zx1 zx2 zlx
  have HB_w62 : Hid (Below W1.heap.size W1 w62) := HB_w61.out.trans (hb.mono HB_w61.out.size)
  have hz_w62 : w61.heap.size ≤ w62.heap.size := hb.size
  have HGp_w62 := Lib.hid (HGp_w61.out.under hb (by omega))
  have HZp_w62 := Lib.hid (HZp_w61.out.under hb HZp_w61.out.lt)
  have HQ0_w62 := Lib.hid (HQ0_w61.out.under hb HQ0_w61.out.lt)
  have HQ1_w62 := Lib.hid (HQ1_w61.out.under hb HQ1_w61.out.lt)
  have HZx_w62 := Lib.hid (HZx_w61.out.under hb HZx_w61.out.lt)
  have HGm_w62 := Lib.hid (HGm_w61.out.under hb (by omega))
  have HGh_w62 := Lib.hid (HGh_w61.out.under hb (by omega))
  have HZh_w62 := Lib.hid (HZh_w61.out.under hb HZh_w61.out.lt)
  clear hb HGp_w61 HZp_w61 HQ0_w61 HQ1_w61 HZx_w61 HGm_w61 HGh_w61 HZh_w61
  go_wp2_with fail
  go_ret
  exact ⟨rfl, HBn.out _ HB_w62.out⟩

end Go.Proofs.Ytldnegacgjijlaa

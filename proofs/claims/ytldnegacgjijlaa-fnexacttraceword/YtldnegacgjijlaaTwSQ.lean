/- The walk of spec.TraceWord. -/
import Derived.Test.YtldnegacgjijlaaTwKQ
import Derived.Test.YtldnegacgjijlaaLgSQ
import Derived.Test.YtldnegacgjijlaaJ13
import Derived.Deep.RegionHeld3
import Derived.Deep.Cut
import Derived.Deep.CutRange
namespace Go.Proofs.Ytldnegacgjijlaa
open Go.RowKit

def TwPost (g : Gp) (es : List Ex) (t : St) (w : World) (e' : Ending) (w' : World) : Prop := ∃ X Y, e' = .returned (.tuple #[.agg #[X, Y], .bool (twOk g es t)]) ∧ StR w' w.heap.size w'.heap.size (twOut g es t) X Y ∧ Below w.heap.size w w'

set_option maxHeartbeats 4000000 in
set_option maxRecDepth 100000 in
theorem specTw_any (e : Gp) (C : Nat → Value) (es : List Ex) (D : Nat → Value) (t : St) (E : Nat → Value) (w : World) (hL : Lay.gra.lies w w.heap.size e C) (hM : Lay.exs.lies w w.heap.size es D) (hT : Tc.trc.lies w w.heap.size t E) (hd0 : Lay.gra.sz e ≤ 1048576) (hd1 : Lay.exs.sz es ≤ 1048576) (hd2 : Tc.trc.sz t ≤ 1048576) :
    Calls Try.prog 41 #[.agg #[C 0, C 1], D 0, .agg #[E 0, E 1]] w (TwPost e es t w) := by
  obtain ⟨stem, loop⟩ := t
  obtain ⟨⟨A4, cap4, b4, off4, D4, q4, hl4, hO4⟩, A5, cap5, b5, off5, D5, q5, hl5, hO5⟩ := sta_lies (Tc.trc_sta hT)
  obtain ⟨ns, hns⟩ : ∃ n, n = stem.length := ⟨_, rfl⟩
  obtain ⟨nv, hnv⟩ : ∃ n, n = loop.length := ⟨_, rfl⟩
  rw [← hns] at q4
  rw [← hnv] at q5
  rw [q4, q5]
  obtain ⟨W1, hW1⟩ : ∃ W1, W1 = ((w.alloc (.cells #[C 0, C 1] 69)).alloc (.cells #[.slice A4 ns cap4, .slice A5 nv cap5] 86)).alloc (.cells #[.slice none 0 0, .slice none 0 0] 83) := ⟨_, rfl⟩
  have hrows := three_boxes w 69 86 83 #[C 0, C 1] #[.slice A4 ns cap4, .slice A5 nv cap5] #[.slice none 0 0, .slice none 0 0]
  rw [← hW1] at hrows
  obtain ⟨hra, hrb, hrc, hb0, _⟩ := hrows
  have HL := Lib.hid (Lay.gra.later hL hb0 hb0.size)
  have HM := Lib.hid (Lay.exs.later hM hb0 hb0.size)
  have HT0 := Tc.trc.later hT hb0 hb0.size
  have hT1 : Tc.trc.lies W1 W1.heap.size ⟨stem, loop⟩ (fun j => (#[.slice A4 ns cap4, .slice A5 nv cap5] : Array Value).getD j undef) := Tc.trc.lies_ext (fun j hj => by
    have hj2 : j < 2 := hj
    rcases (by omega : j = 0 ∨ j = 1) with rfl | rfl
    · exact q4.symm
    · exact q5.symm) HT0
  have HT := Lib.hid hT1
  have HI4 : Hid (∀ X, Below W1.heap.size W1 X → Ints X X.heap.size A4 b4 off4 stem) := fun X h => ((ints_of hO4).under hb0 hb0.size).under h h.size
  have HI5 : Hid (∀ X, Below W1.heap.size W1 X → Ints X X.heap.size A5 b5 off5 loop) := fun X h => ((ints_of hO5).under hb0 hb0.size).under h h.size
  have HRa := Lib.hid hra
  have HRb := Lib.hid hrb
  have HRc := Lib.hid hrc
  have HB0 := Lib.hid hb0
  have HW1 := Lib.hid hW1
  have hltc : w.heap.size + 1 + 1 < W1.heap.size := hrc.lt
  have HKS : Hid (∀ X, Below W1.heap.size W1 X → (fun w' => w'.cell? ⟨w.heap.size + 1, 0, none⟩ = some (.slice A4 ns cap4) ∧ w'.cell? ⟨w.heap.size + 1, 1, none⟩ = some (.slice A5 nv cap5)) X) := fun X h => (HRb.out.under h HRb.out.lt).two
  have HNs := Lib.hid hns
  have HNv := Lib.hid hnv
  have HD2 := Lib.hid hd2
  have hs8 : ns + nv ≤ 1048576 := by rw [Tc.trc_sz, sta_sz] at hd2; dsimp only at hd2; omega
  clear hL hM hT hra hrb hrc hb0 hW1 q4 q5 hl4 hl5 hO4 hO5 hT1 HT0 hd2 hns hnv
  obtain ⟨u, hu⟩ : ∃ u, u = lgOk e es := ⟨_, rfl⟩
  have HU := Lib.hid hu
  obtain ⟨v, hv⟩ : ∃ v, v = trOk e ⟨stem, loop⟩ := ⟨_, rfl⟩
  have HV := Lib.hid hv
  obtain ⟨x, hx⟩ : ∃ x, x = La.laOk (wordT e es ⟨stem, loop⟩) := ⟨_, rfl⟩
  have HX := Lib.hid hx
  have HTw : Hid (twOk e es ⟨stem, loop⟩ = (u && (v && x))) := by show _ = _; rw [hu, hv, hx]; rfl
  clear hu hv hx
  have HNo : Hid ((u && (v && x)) = false → ∀ W, Below W1.heap.size W1 W → TwPost e es ⟨stem, loop⟩ w (.returned (.tuple #[.agg #[.slice none 0 0, .slice none 0 0], .bool false])) ((W.setCell ⟨w.heap.size + 1 + 1, 0, none⟩ (.slice none 0 0)).setCell ⟨w.heap.size + 1 + 1, 1, none⟩ (.slice none 0 0))) := fun h W hb => by
    have h2 : twOk e es ⟨stem, loop⟩ = false := HTw.out.trans h
    have hb' : Below w.heap.size w ((W.setCell ⟨w.heap.size + 1 + 1, 0, none⟩ (.slice none 0 0)).setCell ⟨w.heap.size + 1 + 1, 1, none⟩ (.slice none 0 0)) := ((HB0.out.trans (hb.mono HB0.out.size)).setCell (by simp; omega) _).setCell (by simp; omega) _
    exact ⟨_, _, by rw [h2], by unfold twOut; rw [h2]; exact StR.none_ _ _ _ hb'.size _ _ _ _, hb'⟩
  go_enter Try.func41, Try.ntmps41
  go_wp2_with fail
  rw [← HW1.out]
  refine (specLg_any e C es D W1 HL.out HM.out hd0 hd1).mono ?_
  rintro e' w1 ⟨vl, rfl, hS, hb1⟩
  obtain ⟨A6, cap6, b6, off6, rfl, hI6⟩ := hS.ints
  rw [← HU.out]
  have HB1 : Hid (Below W1.heap.size W1 w1) := hb1
  obtain ⟨X1, hX1⟩ : ∃ X1, X1 = w1 := ⟨_, rfl⟩
  have HBx1 : Hid (Below W1.heap.size W1 X1) := by rw [hX1]; exact HB1.out
  have hI7 : Ints X1 X1.heap.size A6 b6 off6 (lgOut e es) := by rw [hX1]; exact hI6
  have HX1 : Hid (X1 = w1) := hX1
  clear hI6
  subst hX1
  clear hb1 hS
  have HI7 := Lib.hid hI7
  clear hI7
  cases u
  · obtain ⟨p0, p1⟩ := (HRc.out.under HBx1.out HRc.out.lt).two
    have z0 := (HRc.out.under HBx1.out HRc.out.lt).frozen 0
    have z1 := (HRc.out.under HBx1.out HRc.out.lt).frozen 1
    have hq1 : w.heap.size + 1 + 1 < X1.heap.size := Nat.lt_of_lt_of_le HRc.out.lt HBx1.out.size
    have hFin := HNo.out rfl X1 HBx1.out
    have HFin := Lib.hid hFin
    clear hFin
    go_wp2_with fail
    refine bodyPost_ret (v := .tuple #[.agg #[.slice none 0 0, .slice none 0 0], .bool false]) (by simp [results, Try.results41, go_sem, p0, p1]) rfl ?_
    exact HFin.out
  have hra1 := HRa.out.under HBx1.out HRa.out.lt
  have hrb1 := HRb.out.under HBx1.out HRb.out.lt
  obtain ⟨a0, a1⟩ := hra1.two
  obtain ⟨f0, f1⟩ := hrb1.two
  have ha1 : w.heap.size < X1.heap.size := hra1.lt
  have hb1' : w.heap.size + 1 < X1.heap.size := hrb1.lt
  have HLo : Hid (lgOut e es = lgL e es) := by show _ = _; unfold lgOut; rw [← HU.out]; rfl
  rw [HLo.out] at HI7
  try rw [HLo.out]
  clear hra1 hrb1
  go_wp2_with fail
  skip
  refine (specTvF_any e C ⟨stem, loop⟩ (fun j => (#[.slice A4 ns cap4, .slice A5 nv cap5] : Array Value).getD j undef) X1 (Lay.gra.later HL.out HBx1.out HBx1.out.size) (Tc.trc.later HT.out HBx1.out HBx1.out.size) hd0 HD2.out).mono ?_
  rintro e' w2 ⟨rfl, hb2⟩
  rw [← HV.out]
  have HB2 : Hid (Below W1.heap.size W1 w2) := HBx1.out.trans (hb2.mono HBx1.out.size)
  have hX12 : X1.heap.size ≤ w2.heap.size := hb2.size
  have hw12 : W1.heap.size ≤ w2.heap.size := HB2.out.size
  have HI6 : Hid (∀ X, Below w2.heap.size w2 X → Ints X X.heap.size A6 b6 off6 (lgL e es)) := fun X h => (HI7.out.under hb2 hb2.size).under h h.size
  skip
  clear a0 a1 f0 f1 hb2
  cases v
  · obtain ⟨p0, p1⟩ := (HRc.out.under HB2.out HRc.out.lt).two
    have z0 := (HRc.out.under HB2.out HRc.out.lt).frozen 0
    have z1 := (HRc.out.under HB2.out HRc.out.lt).frozen 1
    have HFin := Lib.hid (HNo.out rfl w2 HB2.out)
    go_wp2_with fail
    refine bodyPost_ret (v := .tuple #[.agg #[.slice none 0 0, .slice none 0 0], .bool false]) (by simp [results, Try.results41, go_sem, p0, p1]) rfl ?_
    exact HFin.out
  have hGr : grOk e = true := pathOk_gr (tr_parts HV.out.symm).1
  have hin0 := tr_in HV.out.symm
  have HIn : Hid ((∀ z ∈ stem, inOk (lgL e es).length z = true) ∧ ∀ z ∈ loop, inOk (lgL e es).length z = true) := by rw [lg_len]; exact hin0
  have HLl : Hid ((lgL e es).length ≤ 1048576) := by rw [lg_len]; have := gr_size hGr; show _ ≤ _; omega
  have HSl : Hid (stem.length ≤ 1048576) := by show _ ≤ _; rw [← HNs.out]; omega
  have HVl : Hid (loop.length ≤ 1048576) := by show _ ≤ _; rw [← HNv.out]; omega
  have hSl := HSl.out
  have hVl := HVl.out
  clear hGr hin0
  go_upto_region 4 with fail
  go_cut [10] from 26 to 34 (fun v wx => ∃ (q : Nat) (X Y : Value) (m0 m1 n0 n1 : Nat), v = .pointer (some ⟨q, 0, none⟩) ∧ Hid (Row wx q 83 #[X, Y]) ∧ Hid ((Lay.int.slice 3).sep wx m0 m1 (pickL (lgL e es) stem) (fun _ => X)) ∧ Hid ((Lay.int.slice 3).sep wx n0 n1 (pickL (lgL e es) loop) (fun _ => Y)) ∧ W1.heap.size ≤ m0 ∧ m0 ≤ m1 ∧ m1 ≤ n0 ∧ n0 ≤ n1 ∧ n1 ≤ wx.heap.size ∧ Hid (Below W1.heap.size W1 wx))
  case first =>
    have HB_w2 := HB2
    have HBX_w2 : Hid (Below w2.heap.size w2 w2) := Below.refl _ _
    refine wp_region_held_drew (S := (fun w' => w'.cell? ⟨w.heap.size + 1, 0, none⟩ = some (.slice A4 ns cap4) ∧ w'.cell? ⟨w.heap.size + 1, 1, none⟩ = some (.slice A5 nv cap5))) (by kernel_rfl) ?_ (fun hHeld => ?_)
    · exact HKS.out _ HB_w2.out.drew
    obtain ⟨w101, hX0⟩ : ∃ X, X = w2.drew := ⟨_, rfl⟩
    rw [← hX0] at hHeld ⊢
    have hb : Below w2.heap.size w2 w101 := by rw [hX0]; exact (Below.refl _ _).drew
    have HB_w101 : Hid (Below W1.heap.size W1 w101) := HB_w2.out.trans (hb.mono HB_w2.out.size)
    have hz_w101 : w2.heap.size ≤ w101.heap.size := hb.size
    have HBX_w101 : Hid (Below w2.heap.size w2 w101) := HBX_w2.out.trans (hb.mono HBX_w2.out.size)
    clear hX0 hb
    refine wpAnyH_take (i := 0) (oi := { dst := some 26, op := Go.Op.move (Go.Operand.tmp 8), type := 22, pos := "l8_check.go:78", after := #[], guard := none }) (v := ?_) rfl (by kernel_rfl) (by kernel_rfl) (by kernel_rfl) (fun _ _ _ h => h) (Or.inl ⟨by rfl, ?_⟩) (by assumption) ?_
    rotate_left
    · intro w hSw
      try dsimp only at hSw
      go_simp
      all_goals (with_reducible rfl)
    try simp only [Act.put, List.setIfInBounds_toArray, List.set_cons_zero, List.set_cons_succ]
    refine wpAnyH_take (i := 1) (oi := { dst := some 27, op := Go.Op.fieldAddr 86 (Go.Operand.tmp 5) 0, type := 0, pos := "l8_check.go:78", after := #[], guard := none }) (v := ?_) rfl (by kernel_rfl) (by kernel_rfl) (by kernel_rfl) (fun _ _ _ h => h) (Or.inl ⟨by rfl, ?_⟩) (by assumption) ?_
    rotate_left
    · intro w hSw
      try dsimp only at hSw
      go_simp
      all_goals (with_reducible rfl)
    try simp only [Act.put, List.setIfInBounds_toArray, List.set_cons_zero, List.set_cons_succ]
    refine wpAnyH_take (i := 2) (oi := { dst := some 28, op := Go.Op.load 22 (Go.Operand.tmp 27), type := 22, pos := "l8_check.go:78", after := #[{ on := 1, ground := Go.Ground.data }], guard := none }) (v := ?_) rfl (by kernel_rfl) (by kernel_rfl) (by kernel_rfl) (fun _ _ _ h => h) (Or.inl ⟨by rfl, ?_⟩) (by assumption) ?_
    rotate_left
    · intro w hSw
      try dsimp only at hSw
      go_simp
      all_goals (with_reducible rfl)
    try simp only [Act.put, List.setIfInBounds_toArray, List.set_cons_zero, List.set_cons_succ]
    refine wpAnyH_take (i := 4) (oi := { dst := some 30, op := Go.Op.move (Go.Operand.tmp 8), type := 22, pos := "l8_check.go:78", after := #[], guard := none }) (v := ?_) rfl (by kernel_rfl) (by kernel_rfl) (by kernel_rfl) (fun _ _ _ h => h) (Or.inl ⟨by rfl, ?_⟩) (by assumption) ?_
    rotate_left
    · intro w hSw
      try dsimp only at hSw
      go_simp
      all_goals (with_reducible rfl)
    try simp only [Act.put, List.setIfInBounds_toArray, List.set_cons_zero, List.set_cons_succ]
    refine wpAnyH_take (i := 5) (oi := { dst := some 31, op := Go.Op.fieldAddr 86 (Go.Operand.tmp 5) 1, type := 0, pos := "l8_check.go:78", after := #[], guard := none }) (v := ?_) rfl (by kernel_rfl) (by kernel_rfl) (by kernel_rfl) (fun _ _ _ h => h) (Or.inl ⟨by rfl, ?_⟩) (by assumption) ?_
    rotate_left
    · intro w hSw
      try dsimp only at hSw
      go_simp
      all_goals (with_reducible rfl)
    try simp only [Act.put, List.setIfInBounds_toArray, List.set_cons_zero, List.set_cons_succ]
    refine wpAnyH_take (i := 6) (oi := { dst := some 32, op := Go.Op.load 22 (Go.Operand.tmp 31), type := 22, pos := "l8_check.go:78", after := #[{ on := 5, ground := Go.Ground.data }], guard := none }) (v := ?_) rfl (by kernel_rfl) (by kernel_rfl) (by kernel_rfl) (fun _ _ _ h => h) (Or.inl ⟨by rfl, ?_⟩) (by assumption) ?_
    rotate_left
    · intro w hSw
      try dsimp only at hSw
      go_simp
      all_goals (with_reducible rfl)
    try simp only [Act.put, List.setIfInBounds_toArray, List.set_cons_zero, List.set_cons_succ]
    refine wpAnyH_ready (rs := [3, 9]) (by kernel_rfl) (by simp) (AllReadyH.cons (o := { dst := some 29, op := Go.Op.call { callee := Go.Callee.value (Go.Operand.func 92), args := #[Go.Operand.tmp 26, Go.Operand.tmp 28], argTypes := #[22, 22] }, type := 22, pos := "l8_check.go:78", after := #[{ on := 0, ground := Go.Ground.data }, { on := 2, ground := Go.Ground.data }], guard := none }) rfl (fun K hK => ?_) (AllReadyH.cons (o := { dst := some 10, op := Go.Op.alloc 83, type := 0, pos := "l8_check.go:78", after := #[], guard := none }) rfl (fun K hK => ?_) AllReadyH.nil))
    · skip
      go_simp
      refine (specPickN_any (lgL e es) stem ns HNs.out A6 cap6 b6 off6 A4 cap4 b4 off4 w101 (HI6.out _ HBX_w101.out) (HI4.out _ HB_w101.out) HLl.out HSl.out HIn.out.1).mono ?_
      rintro e' w102 ⟨vv, rfl, hS, hb⟩
      obtain ⟨xa, xc, hx⟩ : ∃ A k, vv = .slice A (pickL (lgL e es) stem).length k := by obtain ⟨A, k, h, _⟩ := hS; exact ⟨A, k, h⟩
      subst hx
      have hnew : (Lay.int.slice 3).sep w102 w101.heap.size w102.heap.size (pickL (lgL e es) stem) (fun _ => (.slice xa (pickL (lgL e es) stem).length xc)) := hS.sep (by rw [pick_len]; unfold maxLen; omega) hb.size
      have HB_w102 : Hid (Below W1.heap.size W1 w102) := HB_w101.out.trans (hb.mono HB_w101.out.size)
      have hz_w102 : w101.heap.size ≤ w102.heap.size := hb.size
      have HBX_w102 : Hid (Below w2.heap.size w2 w102) := HBX_w101.out.trans (hb.mono HBX_w101.out.size)
      have HP1_w102 := Lib.hid hnew
      clear hnew hS hb
      try go_wp2_with fail
      refine hK.out _ _ ?_ (fun hHeld => ?_)
      · exact HKS.out _ HB_w102.out
      clear hK K
      try simp only [Act.put, List.setIfInBounds_toArray, List.set_cons_zero, List.set_cons_succ]
      refine wpAnyH_ready (rs := [7, 9]) (by kernel_rfl) (by simp) (AllReadyH.cons (o := { dst := some 33, op := Go.Op.call { callee := Go.Callee.value (Go.Operand.func 92), args := #[Go.Operand.tmp 30, Go.Operand.tmp 32], argTypes := #[22, 22] }, type := 22, pos := "l8_check.go:78", after := #[{ on := 4, ground := Go.Ground.data }, { on := 6, ground := Go.Ground.data }, { on := 3, ground := Go.Ground.chain }], guard := none }) rfl (fun K hK => ?_) (AllReadyH.cons (o := { dst := some 10, op := Go.Op.alloc 83, type := 0, pos := "l8_check.go:78", after := #[], guard := none }) rfl (fun K hK => ?_) AllReadyH.nil))
      · skip
        go_simp
        refine (specPickN_any (lgL e es) loop nv HNv.out A6 cap6 b6 off6 A5 cap5 b5 off5 w102 (HI6.out _ HBX_w102.out) (HI5.out _ HB_w102.out) HLl.out HVl.out HIn.out.2).mono ?_
        rintro e' w103 ⟨vv, rfl, hS, hb⟩
        obtain ⟨ya, yc, hx⟩ : ∃ A k, vv = .slice A (pickL (lgL e es) loop).length k := by obtain ⟨A, k, h, _⟩ := hS; exact ⟨A, k, h⟩
        subst hx
        have hnew : (Lay.int.slice 3).sep w103 w102.heap.size w103.heap.size (pickL (lgL e es) loop) (fun _ => (.slice ya (pickL (lgL e es) loop).length yc)) := hS.sep (by rw [pick_len]; unfold maxLen; omega) hb.size
        have HB_w103 : Hid (Below W1.heap.size W1 w103) := HB_w102.out.trans (hb.mono HB_w102.out.size)
        have hz_w103 : w102.heap.size ≤ w103.heap.size := hb.size
        have HBX_w103 : Hid (Below w2.heap.size w2 w103) := HBX_w102.out.trans (hb.mono HBX_w102.out.size)
        have HP1_w103 := Lib.hid ((Lay.int.slice 3).sunder HP1_w102.out hb (by omega))
        have HP2_w103 := Lib.hid hnew
        clear hnew hS hb HP1_w102
        try go_wp2_with fail
        refine hK.out _ _ ?_ (fun hHeld => ?_)
        · exact HKS.out _ HB_w103.out
        clear hK K
        try simp only [Act.put, List.setIfInBounds_toArray, List.set_cons_zero, List.set_cons_succ]
        refine wpAnyH_take (i := 8) (oi := { dst := some 34, op := Go.Op.build 83 #[(0, Go.Operand.tmp 29), (1, Go.Operand.tmp 33)], type := 83, pos := "l8_check.go:78", after := #[{ on := 3, ground := Go.Ground.data }, { on := 7, ground := Go.Ground.data }], guard := none }) (v := ?_) rfl (by kernel_rfl) (by kernel_rfl) (by kernel_rfl) (fun _ _ _ h => h) (Or.inl ⟨by rfl, ?_⟩) (by assumption) ?_
        rotate_left
        · intro w hSw
          try dsimp only at hSw
          go_simp
          all_goals (with_reducible rfl)
        try simp only [Act.put, List.setIfInBounds_toArray, List.set_cons_zero, List.set_cons_succ]
        refine wpAnyH_ready (rs := [9]) (by kernel_rfl) (by simp) (AllReadyH.cons (o := { dst := some 10, op := Go.Op.alloc 83, type := 0, pos := "l8_check.go:78", after := #[], guard := none }) rfl (fun K hK => ?_) AllReadyH.nil)
        go_simp
        obtain ⟨w104, hY⟩ : ∃ Y, Y = w103.alloc (.cells #[.slice none 0 0, .slice none 0 0] 83) := ⟨_, rfl⟩
        rw [← hY]
        have hb : Below w103.heap.size w103 w104 := by rw [hY]; exact (Below.refl _ _).alloc (Nat.le_refl _) _
        have hnew : Row w104 w103.heap.size 83 #[.slice none 0 0, .slice none 0 0] := by rw [hY]; exact Row.new _ _ _
        have hs_w104 : w103.heap.size < w104.heap.size := hnew.lt
        have HB_w104 : Hid (Below W1.heap.size W1 w104) := HB_w103.out.trans (hb.mono HB_w103.out.size)
        have hz_w104 : w103.heap.size ≤ w104.heap.size := hb.size
        have HBX_w104 : Hid (Below w2.heap.size w2 w104) := HBX_w103.out.trans (hb.mono HBX_w103.out.size)
        have HP1_w104 := Lib.hid ((Lay.int.slice 3).sunder HP1_w103.out hb (by omega))
        have HP2_w104 := Lib.hid ((Lay.int.slice 3).sunder HP2_w103.out hb (by omega))
        have HLx_w104 := Lib.hid hnew
        clear hnew hb hY HP1_w103 HP2_w103
        refine hK.out _ _ ?_ (fun hHeld => ?_)
        · exact HKS.out _ HB_w104.out
        clear hK K
        try simp only [Act.put, List.setIfInBounds_toArray, List.set_cons_zero, List.set_cons_succ]
        refine wpAnyH_ready (rs := [10]) (by kernel_rfl) (by simp) (AllReadyH.cons (o := { dst := none, op := Go.Op.store 83 (Go.Operand.tmp 10) (Go.Operand.tmp 34), type := 0, pos := "l8_check.go:78", after := #[{ on := 9, ground := Go.Ground.data }, { on := 8, ground := Go.Ground.data }, { on := 7, ground := Go.Ground.chain }, { on := 0, ground := Go.Ground.phase }, { on := 1, ground := Go.Ground.phase }, { on := 2, ground := Go.Ground.phase }, { on := 3, ground := Go.Ground.phase }, { on := 4, ground := Go.Ground.phase }, { on := 5, ground := Go.Ground.phase }, { on := 6, ground := Go.Ground.phase }, { on := 7, ground := Go.Ground.phase }, { on := 8, ground := Go.Ground.phase }, { on := 9, ground := Go.Ground.phase }], guard := none }) rfl (fun K hK => ?_) AllReadyH.nil)
        obtain ⟨x0, x1⟩ := HLx_w104.out.two
        have u0 := HLx_w104.out.frozen 0
        have u1 := HLx_w104.out.frozen 1
        go_simp
        obtain ⟨w105, hY⟩ : ∃ Y, Y = (w104.setCell ⟨w103.heap.size, 0, none⟩ (.slice xa (pickL (lgL e es) stem).length xc)).setCell ⟨w103.heap.size, 1, none⟩ (.slice ya (pickL (lgL e es) loop).length yc) := ⟨_, rfl⟩
        rw [← hY]
        have hk : Kept w103.heap.size (w103.heap.size + 1) w104 w105 := by rw [hY]; exact ((Kept.refl w103.heap.size (w103.heap.size + 1) w104).trans (Kept.set_ w103.heap.size (w103.heap.size + 1) _ (Nat.le_refl _) (Nat.lt_succ_self _) 0 _)).trans (Kept.set_ w103.heap.size (w103.heap.size + 1) _ (Nat.le_refl _) (Nat.lt_succ_self _) 1 _)
        have hnew : Row w105 w103.heap.size 83 #[(.slice xa (pickL (lgL e es) stem).length xc), (.slice ya (pickL (lgL e es) loop).length yc)] := by rw [hY]; exact ((HLx_w104.out.set_ 0 (.slice xa (pickL (lgL e es) stem).length xc)).set_ 1 (.slice ya (pickL (lgL e es) loop).length yc))
        have HB_w105 : Hid (Below W1.heap.size W1 w105) := HB_w104.out.trans (hk.below (by omega) (by omega))
        have hz_w105 : w104.heap.size ≤ w105.heap.size := hk.size
        have HP1_w105 : Hid ((Lay.int.slice 3).sep w105 w101.heap.size w102.heap.size (pickL (lgL e es) stem) (fun _ => (.slice xa (pickL (lgL e es) stem).length xc))) := (Lay.int.slice 3).sep_keep (fun q b1 b2 => hk.other q (by omega) (by omega)) HP1_w104.out
        have HP2_w105 : Hid ((Lay.int.slice 3).sep w105 w102.heap.size w103.heap.size (pickL (lgL e es) loop) (fun _ => (.slice ya (pickL (lgL e es) loop).length yc))) := (Lay.int.slice 3).sep_keep (fun q b1 b2 => hk.other q (by omega) (by omega)) HP2_w104.out
        have HLx_w105 := Lib.hid hnew
        clear hk hnew hY HLx_w104 x0 u0 x1 u1 HP1_w104 HP2_w104
        refine hK.out _ _ ?_ (fun hHeld => ?_)
        · exact HKS.out _ HB_w105.out
        clear hK K
        try simp only [Act.put, List.setIfInBounds_toArray, List.set_cons_zero, List.set_cons_succ]
        refine wpAnyH_done (by kernel_rfl) ?_ _
        go_wp2_with fail
        go_meet
        exact ⟨_, _, _, w101.heap.size, w102.heap.size, w102.heap.size, w103.heap.size, rfl, HLx_w105, HP1_w105, HP2_w105, (by omega), (by omega), (by omega), (by omega), (by omega), HB_w105⟩
      · skip
        go_simp
        obtain ⟨w106, hY⟩ : ∃ Y, Y = w102.alloc (.cells #[.slice none 0 0, .slice none 0 0] 83) := ⟨_, rfl⟩
        rw [← hY]
        have hb : Below w102.heap.size w102 w106 := by rw [hY]; exact (Below.refl _ _).alloc (Nat.le_refl _) _
        have hnew : Row w106 w102.heap.size 83 #[.slice none 0 0, .slice none 0 0] := by rw [hY]; exact Row.new _ _ _
        have hs_w106 : w102.heap.size < w106.heap.size := hnew.lt
        have HB_w106 : Hid (Below W1.heap.size W1 w106) := HB_w102.out.trans (hb.mono HB_w102.out.size)
        have hz_w106 : w102.heap.size ≤ w106.heap.size := hb.size
        have HBX_w106 : Hid (Below w2.heap.size w2 w106) := HBX_w102.out.trans (hb.mono HBX_w102.out.size)
        have HP1_w106 := Lib.hid ((Lay.int.slice 3).sunder HP1_w102.out hb (by omega))
        have HLx_w106 := Lib.hid hnew
        clear hnew hb hY HP1_w102
        refine hK.out _ _ ?_ (fun hHeld => ?_)
        · exact HKS.out _ HB_w106.out
        clear hK K
        try simp only [Act.put, List.setIfInBounds_toArray, List.set_cons_zero, List.set_cons_succ]
        refine wpAnyH_ready (rs := [7]) (by kernel_rfl) (by simp) (AllReadyH.cons (o := { dst := some 33, op := Go.Op.call { callee := Go.Callee.value (Go.Operand.func 92), args := #[Go.Operand.tmp 30, Go.Operand.tmp 32], argTypes := #[22, 22] }, type := 22, pos := "l8_check.go:78", after := #[{ on := 4, ground := Go.Ground.data }, { on := 6, ground := Go.Ground.data }, { on := 3, ground := Go.Ground.chain }], guard := none }) rfl (fun K hK => ?_) AllReadyH.nil)
        go_simp
        refine (specPickN_any (lgL e es) loop nv HNv.out A6 cap6 b6 off6 A5 cap5 b5 off5 w106 (HI6.out _ HBX_w106.out) (HI5.out _ HB_w106.out) HLl.out HVl.out HIn.out.2).mono ?_
        rintro e' w107 ⟨vv, rfl, hS, hb⟩
        obtain ⟨ya, yc, hx⟩ : ∃ A k, vv = .slice A (pickL (lgL e es) loop).length k := by obtain ⟨A, k, h, _⟩ := hS; exact ⟨A, k, h⟩
        subst hx
        have hnew : (Lay.int.slice 3).sep w107 w106.heap.size w107.heap.size (pickL (lgL e es) loop) (fun _ => (.slice ya (pickL (lgL e es) loop).length yc)) := hS.sep (by rw [pick_len]; unfold maxLen; omega) hb.size
        have HB_w107 : Hid (Below W1.heap.size W1 w107) := HB_w106.out.trans (hb.mono HB_w106.out.size)
        have hz_w107 : w106.heap.size ≤ w107.heap.size := hb.size
        have HBX_w107 : Hid (Below w2.heap.size w2 w107) := HBX_w106.out.trans (hb.mono HBX_w106.out.size)
        have HP1_w107 := Lib.hid ((Lay.int.slice 3).sunder HP1_w106.out hb (by omega))
        have HLx_w107 := Lib.hid (HLx_w106.out.under hb HLx_w106.out.lt)
        have HP2_w107 := Lib.hid hnew
        clear hnew hS hb HP1_w106 HLx_w106
        try go_wp2_with fail
        refine hK.out _ _ ?_ (fun hHeld => ?_)
        · exact HKS.out _ HB_w107.out
        clear hK K
        try simp only [Act.put, List.setIfInBounds_toArray, List.set_cons_zero, List.set_cons_succ]
        refine wpAnyH_take (i := 8) (oi := { dst := some 34, op := Go.Op.build 83 #[(0, Go.Operand.tmp 29), (1, Go.Operand.tmp 33)], type := 83, pos := "l8_check.go:78", after := #[{ on := 3, ground := Go.Ground.data }, { on := 7, ground := Go.Ground.data }], guard := none }) (v := ?_) rfl (by kernel_rfl) (by kernel_rfl) (by kernel_rfl) (fun _ _ _ h => h) (Or.inl ⟨by rfl, ?_⟩) (by assumption) ?_
        rotate_left
        · intro w hSw
          try dsimp only at hSw
          go_simp
          all_goals (with_reducible rfl)
        try simp only [Act.put, List.setIfInBounds_toArray, List.set_cons_zero, List.set_cons_succ]
        refine wpAnyH_ready (rs := [10]) (by kernel_rfl) (by simp) (AllReadyH.cons (o := { dst := none, op := Go.Op.store 83 (Go.Operand.tmp 10) (Go.Operand.tmp 34), type := 0, pos := "l8_check.go:78", after := #[{ on := 9, ground := Go.Ground.data }, { on := 8, ground := Go.Ground.data }, { on := 7, ground := Go.Ground.chain }, { on := 0, ground := Go.Ground.phase }, { on := 1, ground := Go.Ground.phase }, { on := 2, ground := Go.Ground.phase }, { on := 3, ground := Go.Ground.phase }, { on := 4, ground := Go.Ground.phase }, { on := 5, ground := Go.Ground.phase }, { on := 6, ground := Go.Ground.phase }, { on := 7, ground := Go.Ground.phase }, { on := 8, ground := Go.Ground.phase }, { on := 9, ground := Go.Ground.phase }], guard := none }) rfl (fun K hK => ?_) AllReadyH.nil)
        obtain ⟨x0, x1⟩ := HLx_w107.out.two
        have u0 := HLx_w107.out.frozen 0
        have u1 := HLx_w107.out.frozen 1
        go_simp
        obtain ⟨w108, hY⟩ : ∃ Y, Y = (w107.setCell ⟨w102.heap.size, 0, none⟩ (.slice xa (pickL (lgL e es) stem).length xc)).setCell ⟨w102.heap.size, 1, none⟩ (.slice ya (pickL (lgL e es) loop).length yc) := ⟨_, rfl⟩
        rw [← hY]
        have hk : Kept w102.heap.size (w102.heap.size + 1) w107 w108 := by rw [hY]; exact ((Kept.refl w102.heap.size (w102.heap.size + 1) w107).trans (Kept.set_ w102.heap.size (w102.heap.size + 1) _ (Nat.le_refl _) (Nat.lt_succ_self _) 0 _)).trans (Kept.set_ w102.heap.size (w102.heap.size + 1) _ (Nat.le_refl _) (Nat.lt_succ_self _) 1 _)
        have hnew : Row w108 w102.heap.size 83 #[(.slice xa (pickL (lgL e es) stem).length xc), (.slice ya (pickL (lgL e es) loop).length yc)] := by rw [hY]; exact ((HLx_w107.out.set_ 0 (.slice xa (pickL (lgL e es) stem).length xc)).set_ 1 (.slice ya (pickL (lgL e es) loop).length yc))
        have HB_w108 : Hid (Below W1.heap.size W1 w108) := HB_w107.out.trans (hk.below (by omega) (by omega))
        have hz_w108 : w107.heap.size ≤ w108.heap.size := hk.size
        have HP1_w108 : Hid ((Lay.int.slice 3).sep w108 w101.heap.size w102.heap.size (pickL (lgL e es) stem) (fun _ => (.slice xa (pickL (lgL e es) stem).length xc))) := (Lay.int.slice 3).sep_keep (fun q b1 b2 => hk.other q (by omega) (by omega)) HP1_w107.out
        have HP2_w108 : Hid ((Lay.int.slice 3).sep w108 w106.heap.size w107.heap.size (pickL (lgL e es) loop) (fun _ => (.slice ya (pickL (lgL e es) loop).length yc))) := (Lay.int.slice 3).sep_keep (fun q b1 b2 => hk.other q (by omega) (by omega)) HP2_w107.out
        have HLx_w108 := Lib.hid hnew
        clear hk hnew hY HLx_w107 x0 u0 x1 u1 HP1_w107 HP2_w107
        refine hK.out _ _ ?_ (fun hHeld => ?_)
        · exact HKS.out _ HB_w108.out
        clear hK K
        try simp only [Act.put, List.setIfInBounds_toArray, List.set_cons_zero, List.set_cons_succ]
        refine wpAnyH_done (by kernel_rfl) ?_ _
        go_wp2_with fail
        go_meet
        exact ⟨_, _, _, w101.heap.size, w102.heap.size, w106.heap.size, w107.heap.size, rfl, HLx_w108, HP1_w108, HP2_w108, (by omega), (by omega), (by omega), (by omega), (by omega), HB_w108⟩
    · skip
      go_simp
      obtain ⟨w109, hY⟩ : ∃ Y, Y = w101.alloc (.cells #[.slice none 0 0, .slice none 0 0] 83) := ⟨_, rfl⟩
      rw [← hY]
      have hb : Below w101.heap.size w101 w109 := by rw [hY]; exact (Below.refl _ _).alloc (Nat.le_refl _) _
      have hnew : Row w109 w101.heap.size 83 #[.slice none 0 0, .slice none 0 0] := by rw [hY]; exact Row.new _ _ _
      have hs_w109 : w101.heap.size < w109.heap.size := hnew.lt
      have HB_w109 : Hid (Below W1.heap.size W1 w109) := HB_w101.out.trans (hb.mono HB_w101.out.size)
      have hz_w109 : w101.heap.size ≤ w109.heap.size := hb.size
      have HBX_w109 : Hid (Below w2.heap.size w2 w109) := HBX_w101.out.trans (hb.mono HBX_w101.out.size)
      have HLx_w109 := Lib.hid hnew
      clear hnew hb hY
      refine hK.out _ _ ?_ (fun hHeld => ?_)
      · exact HKS.out _ HB_w109.out
      clear hK K
      try simp only [Act.put, List.setIfInBounds_toArray, List.set_cons_zero, List.set_cons_succ]
      refine wpAnyH_ready (rs := [3]) (by kernel_rfl) (by simp) (AllReadyH.cons (o := { dst := some 29, op := Go.Op.call { callee := Go.Callee.value (Go.Operand.func 92), args := #[Go.Operand.tmp 26, Go.Operand.tmp 28], argTypes := #[22, 22] }, type := 22, pos := "l8_check.go:78", after := #[{ on := 0, ground := Go.Ground.data }, { on := 2, ground := Go.Ground.data }], guard := none }) rfl (fun K hK => ?_) AllReadyH.nil)
      go_simp
      refine (specPickN_any (lgL e es) stem ns HNs.out A6 cap6 b6 off6 A4 cap4 b4 off4 w109 (HI6.out _ HBX_w109.out) (HI4.out _ HB_w109.out) HLl.out HSl.out HIn.out.1).mono ?_
      rintro e' w110 ⟨vv, rfl, hS, hb⟩
      obtain ⟨xa, xc, hx⟩ : ∃ A k, vv = .slice A (pickL (lgL e es) stem).length k := by obtain ⟨A, k, h, _⟩ := hS; exact ⟨A, k, h⟩
      subst hx
      have hnew : (Lay.int.slice 3).sep w110 w109.heap.size w110.heap.size (pickL (lgL e es) stem) (fun _ => (.slice xa (pickL (lgL e es) stem).length xc)) := hS.sep (by rw [pick_len]; unfold maxLen; omega) hb.size
      have HB_w110 : Hid (Below W1.heap.size W1 w110) := HB_w109.out.trans (hb.mono HB_w109.out.size)
      have hz_w110 : w109.heap.size ≤ w110.heap.size := hb.size
      have HBX_w110 : Hid (Below w2.heap.size w2 w110) := HBX_w109.out.trans (hb.mono HBX_w109.out.size)
      have HLx_w110 := Lib.hid (HLx_w109.out.under hb HLx_w109.out.lt)
      have HP1_w110 := Lib.hid hnew
      clear hnew hS hb HLx_w109
      try go_wp2_with fail
      refine hK.out _ _ ?_ (fun hHeld => ?_)
      · exact HKS.out _ HB_w110.out
      clear hK K
      try simp only [Act.put, List.setIfInBounds_toArray, List.set_cons_zero, List.set_cons_succ]
      refine wpAnyH_ready (rs := [7]) (by kernel_rfl) (by simp) (AllReadyH.cons (o := { dst := some 33, op := Go.Op.call { callee := Go.Callee.value (Go.Operand.func 92), args := #[Go.Operand.tmp 30, Go.Operand.tmp 32], argTypes := #[22, 22] }, type := 22, pos := "l8_check.go:78", after := #[{ on := 4, ground := Go.Ground.data }, { on := 6, ground := Go.Ground.data }, { on := 3, ground := Go.Ground.chain }], guard := none }) rfl (fun K hK => ?_) AllReadyH.nil)
      go_simp
      refine (specPickN_any (lgL e es) loop nv HNv.out A6 cap6 b6 off6 A5 cap5 b5 off5 w110 (HI6.out _ HBX_w110.out) (HI5.out _ HB_w110.out) HLl.out HVl.out HIn.out.2).mono ?_
      rintro e' w111 ⟨vv, rfl, hS, hb⟩
      obtain ⟨ya, yc, hx⟩ : ∃ A k, vv = .slice A (pickL (lgL e es) loop).length k := by obtain ⟨A, k, h, _⟩ := hS; exact ⟨A, k, h⟩
      subst hx
      have hnew : (Lay.int.slice 3).sep w111 w110.heap.size w111.heap.size (pickL (lgL e es) loop) (fun _ => (.slice ya (pickL (lgL e es) loop).length yc)) := hS.sep (by rw [pick_len]; unfold maxLen; omega) hb.size
      have HB_w111 : Hid (Below W1.heap.size W1 w111) := HB_w110.out.trans (hb.mono HB_w110.out.size)
      have hz_w111 : w110.heap.size ≤ w111.heap.size := hb.size
      have HBX_w111 : Hid (Below w2.heap.size w2 w111) := HBX_w110.out.trans (hb.mono HBX_w110.out.size)
      have HLx_w111 := Lib.hid (HLx_w110.out.under hb HLx_w110.out.lt)
      have HP1_w111 := Lib.hid ((Lay.int.slice 3).sunder HP1_w110.out hb (by omega))
      have HP2_w111 := Lib.hid hnew
      clear hnew hS hb HLx_w110 HP1_w110
      try go_wp2_with fail
      refine hK.out _ _ ?_ (fun hHeld => ?_)
      · exact HKS.out _ HB_w111.out
      clear hK K
      try simp only [Act.put, List.setIfInBounds_toArray, List.set_cons_zero, List.set_cons_succ]
      refine wpAnyH_take (i := 8) (oi := { dst := some 34, op := Go.Op.build 83 #[(0, Go.Operand.tmp 29), (1, Go.Operand.tmp 33)], type := 83, pos := "l8_check.go:78", after := #[{ on := 3, ground := Go.Ground.data }, { on := 7, ground := Go.Ground.data }], guard := none }) (v := ?_) rfl (by kernel_rfl) (by kernel_rfl) (by kernel_rfl) (fun _ _ _ h => h) (Or.inl ⟨by rfl, ?_⟩) (by assumption) ?_
      rotate_left
      · intro w hSw
        try dsimp only at hSw
        go_simp
        all_goals (with_reducible rfl)
      try simp only [Act.put, List.setIfInBounds_toArray, List.set_cons_zero, List.set_cons_succ]
      refine wpAnyH_ready (rs := [10]) (by kernel_rfl) (by simp) (AllReadyH.cons (o := { dst := none, op := Go.Op.store 83 (Go.Operand.tmp 10) (Go.Operand.tmp 34), type := 0, pos := "l8_check.go:78", after := #[{ on := 9, ground := Go.Ground.data }, { on := 8, ground := Go.Ground.data }, { on := 7, ground := Go.Ground.chain }, { on := 0, ground := Go.Ground.phase }, { on := 1, ground := Go.Ground.phase }, { on := 2, ground := Go.Ground.phase }, { on := 3, ground := Go.Ground.phase }, { on := 4, ground := Go.Ground.phase }, { on := 5, ground := Go.Ground.phase }, { on := 6, ground := Go.Ground.phase }, { on := 7, ground := Go.Ground.phase }, { on := 8, ground := Go.Ground.phase }, { on := 9, ground := Go.Ground.phase }], guard := none }) rfl (fun K hK => ?_) AllReadyH.nil)
      obtain ⟨x0, x1⟩ := HLx_w111.out.two
      have u0 := HLx_w111.out.frozen 0
      have u1 := HLx_w111.out.frozen 1
      go_simp
      obtain ⟨w112, hY⟩ : ∃ Y, Y = (w111.setCell ⟨w101.heap.size, 0, none⟩ (.slice xa (pickL (lgL e es) stem).length xc)).setCell ⟨w101.heap.size, 1, none⟩ (.slice ya (pickL (lgL e es) loop).length yc) := ⟨_, rfl⟩
      rw [← hY]
      have hk : Kept w101.heap.size (w101.heap.size + 1) w111 w112 := by rw [hY]; exact ((Kept.refl w101.heap.size (w101.heap.size + 1) w111).trans (Kept.set_ w101.heap.size (w101.heap.size + 1) _ (Nat.le_refl _) (Nat.lt_succ_self _) 0 _)).trans (Kept.set_ w101.heap.size (w101.heap.size + 1) _ (Nat.le_refl _) (Nat.lt_succ_self _) 1 _)
      have hnew : Row w112 w101.heap.size 83 #[(.slice xa (pickL (lgL e es) stem).length xc), (.slice ya (pickL (lgL e es) loop).length yc)] := by rw [hY]; exact ((HLx_w111.out.set_ 0 (.slice xa (pickL (lgL e es) stem).length xc)).set_ 1 (.slice ya (pickL (lgL e es) loop).length yc))
      have HB_w112 : Hid (Below W1.heap.size W1 w112) := HB_w111.out.trans (hk.below (by omega) (by omega))
      have hz_w112 : w111.heap.size ≤ w112.heap.size := hk.size
      have HP1_w112 : Hid ((Lay.int.slice 3).sep w112 w109.heap.size w110.heap.size (pickL (lgL e es) stem) (fun _ => (.slice xa (pickL (lgL e es) stem).length xc))) := (Lay.int.slice 3).sep_keep (fun q b1 b2 => hk.other q (by omega) (by omega)) HP1_w111.out
      have HP2_w112 : Hid ((Lay.int.slice 3).sep w112 w110.heap.size w111.heap.size (pickL (lgL e es) loop) (fun _ => (.slice ya (pickL (lgL e es) loop).length yc))) := (Lay.int.slice 3).sep_keep (fun q b1 b2 => hk.other q (by omega) (by omega)) HP2_w111.out
      have HLx_w112 := Lib.hid hnew
      clear hk hnew hY HLx_w111 x0 u0 x1 u1 HP1_w111 HP2_w111
      refine hK.out _ _ ?_ (fun hHeld => ?_)
      · exact HKS.out _ HB_w112.out
      clear hK K
      try simp only [Act.put, List.setIfInBounds_toArray, List.set_cons_zero, List.set_cons_succ]
      refine wpAnyH_done (by kernel_rfl) ?_ _
      go_wp2_with fail
      go_meet
      exact ⟨_, _, _, w109.heap.size, w110.heap.size, w110.heap.size, w111.heap.size, rfl, HLx_w112, HP1_w112, HP2_w112, (by omega), (by omega), (by omega), (by omega), (by omega), HB_w112⟩
  case rest =>
  obtain ⟨q, X, Y, m0, m1, n0, n1, rfl, HRq, HSx, HSy, hm0, hm1, hm2, hm3, hm4, HBc⟩ := hcut
  obtain ⟨xa, xc, hxf⟩ : ∃ A k, X = .slice A (pickL (lgL e es) stem).length k := by obtain ⟨A, k, _, _, _, _, h, _⟩ := HSx.out; exact ⟨A, k, h⟩
  obtain ⟨ya, yc, hyf⟩ : ∃ A k, Y = .slice A (pickL (lgL e es) loop).length k := by obtain ⟨A, k, _, _, _, _, h, _⟩ := HSy.out; exact ⟨A, k, h⟩
  subst hxf hyf
  have HSr : Hid (StR wc W1.heap.size wc.heap.size (wordT e es ⟨stem, loop⟩) (.slice xa (pickL (lgL e es) stem).length xc) (.slice ya (pickL (lgL e es) loop).length yc)) := ⟨m0, m1, n0, n1, by omega, HSx.out, HSy.out⟩
  have HLas := Lib.hid (HSr.out.lies (Nat.le_refl _))
  have HDl : Hid (Lay.sta.sz (wordT e es ⟨stem, loop⟩) ≤ 1048576) := by rw [sta_sz]; show (pickL _ _).length + (pickL _ _).length ≤ _; rw [pick_len, pick_len, ← HNs.out, ← HNv.out]; exact hs8
  obtain ⟨r0, r1⟩ := HRq.out.two
  have hrqlt := HRq.out.lt
  go_wp2_with fail
  refine (La.specLv_any (wordT e es ⟨stem, loop⟩) (fun j => (#[.slice xa (pickL (lgL e es) stem).length xc, .slice ya (pickL (lgL e es) loop).length yc] : Array Value).getD j undef) wc HLas.out HDl.out).mono ?_
  rintro e' w3 ⟨rfl, hb3⟩
  rw [← HX.out]
  have HB3 : Hid (Below W1.heap.size W1 w3) := HBc.out.trans (hb3.mono HBc.out.size)
  have HSr3 := Lib.hid (HSr.out.under hb3 (Nat.le_refl _))
  have hz3 : wc.heap.size ≤ w3.heap.size := hb3.size
  have hzc : W1.heap.size ≤ wc.heap.size := HBc.out.size
  have HRq3 := Lib.hid (HRq.out.under hb3 HRq.out.lt)
  clear r0 r1 hb3
  obtain ⟨p0, p1⟩ := (HRc.out.under HB3.out HRc.out.lt).two
  have z0 := (HRc.out.under HB3.out HRc.out.lt).frozen 0
  have z1 := (HRc.out.under HB3.out HRc.out.lt).frozen 1
  cases x
  · have HFin := Lib.hid (HNo.out rfl w3 HB3.out)
    go_wp2_with fail
    refine bodyPost_ret (v := .tuple #[.agg #[.slice none 0 0, .slice none 0 0], .bool false]) (by simp [results, Try.results41, go_sem, p0, p1]) rfl ?_
    exact HFin.out
  · obtain ⟨r0, r1⟩ := HRq3.out.two
    have HFin : Hid (TwPost e es ⟨stem, loop⟩ w (.returned (.tuple #[.agg #[.slice xa (pickL (lgL e es) stem).length xc, .slice ya (pickL (lgL e es) loop).length yc], .bool true])) ((w3.setCell ⟨w.heap.size + 1 + 1, 0, none⟩ (.slice xa (pickL (lgL e es) stem).length xc)).setCell ⟨w.heap.size + 1 + 1, 1, none⟩ (.slice ya (pickL (lgL e es) loop).length yc))) := by
      have h2 : twOk e es ⟨stem, loop⟩ = true := HTw.out
      have hb' : Below w.heap.size w ((w3.setCell ⟨w.heap.size + 1 + 1, 0, none⟩ (.slice xa (pickL (lgL e es) stem).length xc)).setCell ⟨w.heap.size + 1 + 1, 1, none⟩ (.slice ya (pickL (lgL e es) loop).length yc)) := ((HB0.out.trans (HB3.out.mono HB0.out.size)).setCell (by simp; omega) _).setCell (by simp; omega) _
      refine ⟨_, _, by rw [h2], ?_, hb'⟩
      have hb0s := HB0.out.size
      unfold twOut
      rw [h2]
      refine (HSr3.out.keep fun g g1 g2 => ?_).more hb0s (Nat.le_trans hz3 (by simp))
      rw [Below.heap_setCell _ _ _ _ (by show ¬ _ = _; simp; omega), Below.heap_setCell _ _ _ _ (by show ¬ _ = _; simp; omega)]
    go_wp2_with fail
    refine bodyPost_ret (v := .tuple #[.agg #[.slice xa (pickL (lgL e es) stem).length xc, .slice ya (pickL (lgL e es) loop).length yc], .bool true]) (by simp [results, Try.results41, go_sem, p0, p1]) rfl ?_
    exact HFin.out

end Go.Proofs.Ytldnegacgjijlaa

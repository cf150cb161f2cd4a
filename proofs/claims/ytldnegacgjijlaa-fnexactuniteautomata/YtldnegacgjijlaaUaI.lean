/- The walk of impl.UniteAutomata. -/
import Derived.Test.YtldnegacgjijlaaUaO
import Derived.Test.YtldnegacgjijlaaCl0
import Derived.Deep.RegionHeld3
import Derived.Deep.RegionWith
import Derived.Deep.Cut
import Derived.Deep.CutRange
import Derived.Test.YtldnegacgjijlaaUaQ
import Derived.Test.YtldnegacgjijlaaAvW
namespace Go.Proofs.Ytldnegacgjijlaa
open Go.RowKit

set_option maxHeartbeats 8000000 in
set_option maxRecDepth 100000 in
theorem implUa_any (a : Au) (C : Nat → Value) (b : Au) (D : Nat → Value) (w : World) (hL : Lay.au.lies w w.heap.size a C) (hM : Lay.au.lies w w.heap.size b D) (hd0 : Lay.au.sz a ≤ 1048576) (hd1 : Lay.au.sz b ≤ 1048576) :
    Calls Try.prog 23 #[.agg #[C 0, C 1, C 2], .agg #[D 0, D 1, D 2]] w (UaPost a b w) := by
  obtain ⟨xi, xa, xe⟩ := a
  obtain ⟨yi, ya, ye⟩ := b
  obtain ⟨⟨A0, c0, p0, o0, q0, _, I0⟩, ⟨A1, c1, p1, o1, q1, _, I1⟩, ⟨A2, c2, p2, o2, D2, q2, _, I2⟩⟩ := au_lies hL
  obtain ⟨⟨B0, d0, r0, s0, t0, _, J0⟩, ⟨B1, d1, r1, s1, t1, _, J1⟩, ⟨B2, d2, r2, s2, E2, t2, _, J2⟩⟩ := au_lies hM
  have hLa := au_lit q0 q1 q2 hL
  have hMb := au_lit t0 t1 t2 hM
  rw [q0, q1, q2, t0, t1, t2]
  obtain ⟨W1, hW1⟩ : ∃ W1, W1 = ((w.alloc (.cells #[.slice A0 xi.length c0, .slice A1 xa.length c1, .slice A2 xe.length c2] 51)).alloc (.cells #[.slice B0 yi.length d0, .slice B1 ya.length d1, .slice B2 ye.length d2] 51)).alloc (.cells #[.slice none 0 0, .slice none 0 0, .slice none 0 0] 51) := ⟨_, rfl⟩
  have hrows := three_boxes w 51 51 51 #[.slice A0 xi.length c0, .slice A1 xa.length c1, .slice A2 xe.length c2] #[.slice B0 yi.length d0, .slice B1 ya.length d1, .slice B2 ye.length d2] #[.slice none 0 0, .slice none 0 0, .slice none 0 0]
  rw [← hW1] at hrows
  obtain ⟨hra, hrb, hrc, hb0, _⟩ := hrows
  have HL := Lib.hid (Lay.au.later hLa hb0 hb0.size)
  have HM := Lib.hid (Lay.au.later hMb hb0 hb0.size)
  have hjt := trs_of J2
  have hit := trs_of I2
  have HI0 : Hid (∀ X, Below W1.heap.size W1 X → Ints X X.heap.size A0 p0 o0 xi) := fun X h => (I0.under hb0 hb0.size).under h h.size
  have HI1 : Hid (∀ X, Below W1.heap.size W1 X → Bools X X.heap.size A1 p1 o1 xa) := fun X h => (I1.under hb0 hb0.size).under h h.size
  have HI2 : Hid (∀ X, Below W1.heap.size W1 X → Trs X X.heap.size A2 p2 o2 xe) := fun X h => (hit.under hb0 hb0.size).under h h.size
  have HJ0 : Hid (∀ X, Below W1.heap.size W1 X → Ints X X.heap.size B0 r0 s0 yi) := fun X h => (J0.under hb0 hb0.size).under h h.size
  have HJ1 : Hid (∀ X, Below W1.heap.size W1 X → Bools X X.heap.size B1 r1 s1 ya) := fun X h => (J1.under hb0 hb0.size).under h h.size
  have HJ2 : Hid (∀ X, Below W1.heap.size W1 X → Trs X X.heap.size B2 r2 s2 ye) := fun X h => (hjt.under hb0 hb0.size).under h h.size
  have HRx : Hid (∀ e ∈ xe, TrR e) := fun e he => by
    obtain ⟨i, hi⟩ := List.getElem?_of_mem he
    exact (hit i e hi).2.2.2.2.2.2
  have HRy : Hid (∀ e ∈ ye, TrR e) := fun e he => by
    obtain ⟨i, hi⟩ := List.getElem?_of_mem he
    exact (hjt i e hi).2.2.2.2.2.2
  have HRa := Lib.hid hra
  have HRb := Lib.hid hrb
  have HRc := Lib.hid hrc
  have HB0 := Lib.hid hb0
  have HW1 := Lib.hid hW1
  have HD0 := Lib.hid hd0
  have HD1 := Lib.hid hd1
  have hltc : w.heap.size + 1 + 1 < W1.heap.size := hrc.lt
  obtain ⟨ys, hys⟩ : ∃ ys, ys = xa ++ ya := ⟨_, rfl⟩
  have HYs := Lib.hid hys
  clear hL hM hLa hMb hra hrb hrc hb0 hW1 I0 I1 I2 J0 J1 J2 q0 q1 q2 t0 t1 t2 hit hjt hd0 hd1 hys
  have HKS : Hid (∀ X, Below W1.heap.size W1 X → (fun w' => w'.cell? ⟨w.heap.size, 0, none⟩ = some (.slice A0 xi.length c0) ∧ w'.cell? ⟨w.heap.size, 1, none⟩ = some (.slice A1 xa.length c1) ∧ w'.cell? ⟨w.heap.size, 2, none⟩ = some (.slice A2 xe.length c2) ∧ w'.cell? ⟨w.heap.size + 1, 1, none⟩ = some (.slice B1 ya.length d1)) X) := fun X h => by
    obtain ⟨a0, a1, a2⟩ := (HRa.out.under h HRa.out.lt).three
    obtain ⟨_, b1, _⟩ := (HRb.out.under h HRb.out.lt).three
    exact ⟨a0, a1, a2, b1⟩
  obtain ⟨u, hu⟩ : ∃ u, u = auOk ⟨xi, xa, xe⟩ := ⟨_, rfl⟩
  obtain ⟨v, hv⟩ : ∃ v, v = auOk ⟨yi, ya, ye⟩ := ⟨_, rfl⟩
  obtain ⟨x, hx⟩ : ∃ x, x = auOk (joinA ⟨xi, xa, xe⟩ ⟨yi, ya, ye⟩) := ⟨_, rfl⟩
  have HU := Lib.hid hu
  have HV := Lib.hid hv
  have HX := Lib.hid hx
  have HUa : Hid (uaOk ⟨xi, xa, xe⟩ ⟨yi, ya, ye⟩ = (u && (v && x))) := by show _ = _; rw [hu, hv, hx]; rfl
  clear hu hv hx
  have HNo : Hid ((u && (v && x)) = false → ∀ W, Below W1.heap.size W1 W → UaPost ⟨xi, xa, xe⟩ ⟨yi, ya, ye⟩ w (.returned (.tuple #[.agg #[.slice none 0 0, .slice none 0 0, .slice none 0 0], .bool false])) (((W.setCell ⟨w.heap.size + 1 + 1, 0, none⟩ (.slice none 0 0)).setCell ⟨w.heap.size + 1 + 1, 1, none⟩ (.slice none 0 0)).setCell ⟨w.heap.size + 1 + 1, 2, none⟩ (.slice none 0 0))) := fun h W hb => by
    have h2 : uaOk ⟨xi, xa, xe⟩ ⟨yi, ya, ye⟩ = false := HUa.out.trans h
    have hb' : Below w.heap.size w (((W.setCell ⟨w.heap.size + 1 + 1, 0, none⟩ (.slice none 0 0)).setCell ⟨w.heap.size + 1 + 1, 1, none⟩ (.slice none 0 0)).setCell ⟨w.heap.size + 1 + 1, 2, none⟩ (.slice none 0 0)) := (((HB0.out.trans (hb.mono HB0.out.size)).setCell (by simp; omega) _).setCell (by simp; omega) _).setCell (by simp; omega) _
    exact ⟨_, _, _, by rw [h2], by rw [uaOut_no h2]; exact AuR.nil_ _ _ _ hb'.size, hb'⟩
  go_enter Try.func23, Try.ntmps23
  go_wp2_with fail
  rw [← HW1.out]
  refine (implAv_any ⟨xi, xa, xe⟩ (fun j => (#[.slice A0 xi.length c0, .slice A1 xa.length c1, .slice A2 xe.length c2] : Array Value).getD j undef) W1 HL.out HD0.out).mono ?_
  rintro e' w1 ⟨rfl, hb1⟩
  rw [← HU.out]
  have HB1 : Hid (Below W1.heap.size W1 w1) := hb1
  have hz1 : W1.heap.size ≤ w1.heap.size := hb1.size
  clear hb1
  cases u
  · obtain ⟨p0, p1, p2⟩ := (HRc.out.under HB1.out HRc.out.lt).three
    have z0 := (HRc.out.under HB1.out HRc.out.lt).frozen 0
    have z1 := (HRc.out.under HB1.out HRc.out.lt).frozen 1
    have z2 := (HRc.out.under HB1.out HRc.out.lt).frozen 2
    have hq1 : w.heap.size + 1 + 1 < w1.heap.size := Nat.lt_of_lt_of_le HRc.out.lt HB1.out.size
    have HFin := Lib.hid (HNo.out (by first | rfl | (cases u <;> rfl) | (cases u <;> cases v <;> rfl)) w1 HB1.out)
    go_wp2_with fail
    refine bodyPost_ret (v := .tuple #[.agg #[.slice none 0 0, .slice none 0 0, .slice none 0 0], .bool false]) (by simp [results, Try.results23, go_sem, p0, p1, p2]) rfl ?_
    exact HFin.out
  obtain ⟨f0, f1, f2⟩ := (HRb.out.under HB1.out HRb.out.lt).three
  have hbl1 : w.heap.size + 1 < w1.heap.size := by omega
  go_wp2_with fail
  refine (implAv_any ⟨yi, ya, ye⟩ (fun j => (#[.slice B0 yi.length d0, .slice B1 ya.length d1, .slice B2 ye.length d2] : Array Value).getD j undef) w1 (Lay.au.later HM.out HB1.out HB1.out.size) HD1.out).mono ?_
  rintro e' w2 ⟨rfl, hb2⟩
  rw [← HV.out]
  have HB2 : Hid (Below W1.heap.size W1 w2) := HB1.out.trans (hb2.mono HB1.out.size)
  have hz2 : W1.heap.size ≤ w2.heap.size := HB2.out.size
  clear hb2 f0 f1 f2
  cases v
  · obtain ⟨p0, p1, p2⟩ := (HRc.out.under HB2.out HRc.out.lt).three
    have z0 := (HRc.out.under HB2.out HRc.out.lt).frozen 0
    have z1 := (HRc.out.under HB2.out HRc.out.lt).frozen 1
    have z2 := (HRc.out.under HB2.out HRc.out.lt).frozen 2
    have hq1 : w.heap.size + 1 + 1 < w2.heap.size := Nat.lt_of_lt_of_le HRc.out.lt HB2.out.size
    have HFin := Lib.hid (HNo.out (by first | rfl | (cases u <;> rfl) | (cases u <;> cases v <;> rfl)) w2 HB2.out)
    go_wp2_with fail
    refine bodyPost_ret (v := .tuple #[.agg #[.slice none 0 0, .slice none 0 0, .slice none 0 0], .bool false]) (by simp [results, Try.results23, go_sem, p0, p1, p2]) rfl ?_
    exact HFin.out
  have hOa := au_parts HU.out.symm
  have hOb := au_parts HV.out.symm
  have hia := au_ini HU.out.symm
  have hib := au_ini HV.out.symm
  have HTr : Hid (∀ e ∈ ye, 0 ≤ e.fr ∧ e.fr ≤ 64 ∧ 0 ≤ e.tt ∧ e.tt ≤ 64) := fun e he => au_tr HV.out.symm he
  have HIb : Hid (∀ z ∈ yi, 0 ≤ z ∧ z ≤ 64) := hib.2
  obtain ⟨hxa1, hxa2, hxe, _⟩ := hOa
  obtain ⟨hya1, hya2, hye, _⟩ := hOb
  have hxi := hia.1
  have hyi := hib.1
  dsimp only at hxa1 hxa2 hxe hya1 hya2 hye hxi hyi
  have HLx : Hid (xi.length ≤ 1048576 ∧ xe.length ≤ 1048576) := ⟨by omega, by omega⟩
  have HL4 : Hid (xi.length ≤ 4096 ∧ xa.length ≤ 4096 ∧ xe.length ≤ 4096) := ⟨by omega, by omega, by omega⟩
  have HYl : Hid (ys.length = xa.length + ya.length) := by show _ = _; rw [HYs.out, List.length_append]
  clear hia hib
  obtain ⟨g0, g1, g2⟩ := (HRa.out.under HB2.out HRa.out.lt).three
  have hal2 : w.heap.size < w2.heap.size := by omega
  go_upto_region 4 with fail
  clear g0 g1 g2
  go_cut [7] from 24 to 36 (fun v wx => ∃ (g : Nat) (A3 : Option Addr) (k3 gB kB : Nat) (A5 : Option Addr) (k5 : Nat), v = .pointer (some ⟨g, 0, none⟩) ∧ Hid (Uk W1.heap.size g W1 wx (.slice (some ⟨gB, 0, none⟩) ys.length kB) xi ys xe (.slice A3 xi.length k3) (.slice A5 xe.length k5)))
  case first =>
    have HB_w2 := HB2
    refine wp_region_held_drew (S := (fun w' => w'.cell? ⟨w.heap.size, 0, none⟩ = some (.slice A0 xi.length c0) ∧ w'.cell? ⟨w.heap.size, 1, none⟩ = some (.slice A1 xa.length c1) ∧ w'.cell? ⟨w.heap.size, 2, none⟩ = some (.slice A2 xe.length c2) ∧ w'.cell? ⟨w.heap.size + 1, 1, none⟩ = some (.slice B1 ya.length d1))) (by kernel_rfl) ?_ (fun hHeld => ?_)
    · exact HKS.out _ HB_w2.out.drew
    obtain ⟨w101, hX0⟩ : ∃ X, X = w2.drew := ⟨_, rfl⟩
    rw [← hX0] at hHeld ⊢
    have hb : Below w2.heap.size w2 w101 := by rw [hX0]; exact (Below.refl _ _).drew
    have HB_w101 : Hid (Below W1.heap.size W1 w101) := HB_w2.out.trans (hb.mono HB_w2.out.size)
    have hz_w101 : w2.heap.size ≤ w101.heap.size := hb.size
    clear hX0 hb
    refine wpAnyH_take (i := 0) (oi := { dst := some 24, op := Go.Op.fieldAddr 51 (Go.Operand.tmp 2) 0, type := 0, pos := "l7_automaton.go:601", after := #[], guard := none }) (v := ?_) rfl (by kernel_rfl) (by kernel_rfl) (by kernel_rfl) (fun _ _ _ h => h) (Or.inl ⟨by rfl, ?_⟩) (by assumption) ?_
    rotate_left
    · intro w hSw
      try dsimp only at hSw
      go_simp
      all_goals (with_reducible rfl)
    try simp only [Act.put, List.setIfInBounds_toArray, List.set_cons_zero, List.set_cons_succ]
    refine wpAnyH_take (i := 1) (oi := { dst := some 25, op := Go.Op.load 22 (Go.Operand.tmp 24), type := 22, pos := "l7_automaton.go:601", after := #[{ on := 0, ground := Go.Ground.data }], guard := none }) (v := ?_) rfl (by kernel_rfl) (by kernel_rfl) (by kernel_rfl) (fun _ _ _ h => h) (Or.inl ⟨by rfl, ?_⟩) (by assumption) ?_
    rotate_left
    · intro w hSw
      try dsimp only at hSw
      go_simp
      all_goals (with_reducible rfl)
    try simp only [Act.put, List.setIfInBounds_toArray, List.set_cons_zero, List.set_cons_succ]
    refine wpAnyH_take (i := 3) (oi := { dst := some 27, op := Go.Op.fieldAddr 51 (Go.Operand.tmp 2) 1, type := 0, pos := "l7_automaton.go:601", after := #[], guard := none }) (v := ?_) rfl (by kernel_rfl) (by kernel_rfl) (by kernel_rfl) (fun _ _ _ h => h) (Or.inl ⟨by rfl, ?_⟩) (by assumption) ?_
    rotate_left
    · intro w hSw
      try dsimp only at hSw
      go_simp
      all_goals (with_reducible rfl)
    try simp only [Act.put, List.setIfInBounds_toArray, List.set_cons_zero, List.set_cons_succ]
    refine wpAnyH_take (i := 4) (oi := { dst := some 28, op := Go.Op.load 27 (Go.Operand.tmp 27), type := 27, pos := "l7_automaton.go:601", after := #[{ on := 3, ground := Go.Ground.data }], guard := none }) (v := ?_) rfl (by kernel_rfl) (by kernel_rfl) (by kernel_rfl) (fun _ _ _ h => h) (Or.inl ⟨by rfl, ?_⟩) (by assumption) ?_
    rotate_left
    · intro w hSw
      try dsimp only at hSw
      go_simp
      all_goals (with_reducible rfl)
    try simp only [Act.put, List.setIfInBounds_toArray, List.set_cons_zero, List.set_cons_succ]
    refine wpAnyH_take (i := 5) (oi := { dst := some 29, op := Go.Op.fieldAddr 51 (Go.Operand.tmp 3) 1, type := 0, pos := "l7_automaton.go:601", after := #[], guard := none }) (v := ?_) rfl (by kernel_rfl) (by kernel_rfl) (by kernel_rfl) (fun _ _ _ h => h) (Or.inl ⟨by rfl, ?_⟩) (by assumption) ?_
    rotate_left
    · intro w hSw
      try dsimp only at hSw
      go_simp
      all_goals (with_reducible rfl)
    try simp only [Act.put, List.setIfInBounds_toArray, List.set_cons_zero, List.set_cons_succ]
    refine wpAnyH_take (i := 6) (oi := { dst := some 30, op := Go.Op.load 27 (Go.Operand.tmp 29), type := 27, pos := "l7_automaton.go:601", after := #[{ on := 5, ground := Go.Ground.data }], guard := none }) (v := ?_) rfl (by kernel_rfl) (by kernel_rfl) (by kernel_rfl) (fun _ _ _ h => h) (Or.inl ⟨by rfl, ?_⟩) (by assumption) ?_
    rotate_left
    · intro w hSw
      try dsimp only at hSw
      go_simp
      all_goals (with_reducible rfl)
    try simp only [Act.put, List.setIfInBounds_toArray, List.set_cons_zero, List.set_cons_succ]
    refine wpAnyH_take (i := 9) (oi := { dst := some 33, op := Go.Op.fieldAddr 51 (Go.Operand.tmp 2) 2, type := 0, pos := "l7_automaton.go:601", after := #[], guard := none }) (v := ?_) rfl (by kernel_rfl) (by kernel_rfl) (by kernel_rfl) (fun _ _ _ h => h) (Or.inl ⟨by rfl, ?_⟩) (by assumption) ?_
    rotate_left
    · intro w hSw
      try dsimp only at hSw
      go_simp
      all_goals (with_reducible rfl)
    try simp only [Act.put, List.setIfInBounds_toArray, List.set_cons_zero, List.set_cons_succ]
    refine wpAnyH_take (i := 10) (oi := { dst := some 34, op := Go.Op.load 49 (Go.Operand.tmp 33), type := 49, pos := "l7_automaton.go:601", after := #[{ on := 9, ground := Go.Ground.data }], guard := none }) (v := ?_) rfl (by kernel_rfl) (by kernel_rfl) (by kernel_rfl) (fun _ _ _ h => h) (Or.inl ⟨by rfl, ?_⟩) (by assumption) ?_
    rotate_left
    · intro w hSw
      try dsimp only at hSw
      go_simp
      all_goals (with_reducible rfl)
    try simp only [Act.put, List.setIfInBounds_toArray, List.set_cons_zero, List.set_cons_succ]
    refine wpAnyH_ready (rs := [2, 7, 13]) (by kernel_rfl) (by simp) (AllReadyH.cons (o := { dst := some 26, op := Go.Op.call { callee := Go.Callee.value (Go.Operand.func 66), args := #[Go.Operand.tmp 25], argTypes := #[22] }, type := 22, pos := "l7_automaton.go:601", after := #[{ on := 1, ground := Go.Ground.data }], guard := none }) rfl (fun K hK => ?_) (AllReadyH.cons (o := { dst := some 31, op := Go.Op.buildSlice 168 2 #[(0, Go.Operand.tmp 28), (1, Go.Operand.tmp 30)], type := 168, pos := "l7_automaton.go:601", after := #[{ on := 4, ground := Go.Ground.data }, { on := 6, ground := Go.Ground.data }], guard := none }) rfl (fun K hK => ?_) (AllReadyH.cons (o := { dst := some 7, op := Go.Op.alloc 51, type := 0, pos := "l7_automaton.go:601", after := #[], guard := none }) rfl (fun K hK => ?_) AllReadyH.nil)))
    · skip
      go_simp
      refine (La.cloneV_any xi A0 c0 p0 o0 w101 HLx.out.1 (HI0.out _ HB_w101.out)).mono ?_
      rintro e' w102 ⟨A3, k3, rfl, ho, hb⟩
      have hnew : OwnV w102 W1.heap.size (.slice A3 xi.length k3) xi := ho.base HB_w101.out.size
      have HB_w102 : Hid (Below W1.heap.size W1 w102) := HB_w101.out.trans (hb.mono HB_w101.out.size)
      have hz_w102 : w101.heap.size ≤ w102.heap.size := hb.size
      have HV_w102 := Lib.hid hnew
      clear hnew hb ho
      try go_wp2_with fail
      refine hK.out _ _ ?_ (fun hHeld => ?_)
      · exact HKS.out _ HB_w102.out
      clear hK K
      try simp only [Act.put, List.setIfInBounds_toArray, List.set_cons_zero, List.set_cons_succ]
      refine wpAnyH_ready (rs := [7, 13]) (by kernel_rfl) (by simp) (AllReadyH.cons (o := { dst := some 31, op := Go.Op.buildSlice 168 2 #[(0, Go.Operand.tmp 28), (1, Go.Operand.tmp 30)], type := 168, pos := "l7_automaton.go:601", after := #[{ on := 4, ground := Go.Ground.data }, { on := 6, ground := Go.Ground.data }], guard := none }) rfl (fun K hK => ?_) (AllReadyH.cons (o := { dst := some 7, op := Go.Op.alloc 51, type := 0, pos := "l7_automaton.go:601", after := #[], guard := none }) rfl (fun K hK => ?_) AllReadyH.nil))
      · skip
        go_simp
        obtain ⟨w103, hY⟩ : ∃ Y, Y = w102.alloc (.cells #[.slice A1 xa.length c1, .slice B1 ya.length d1] 27) := ⟨_, rfl⟩
        rw [← hY]
        have hb : Below w102.heap.size w102 w103 := by rw [hY]; exact (Below.refl _ _).alloc (Nat.le_refl _) _
        have hnew : Row w103 w102.heap.size 27 #[.slice A1 xa.length c1, .slice B1 ya.length d1] := by rw [hY]; exact Row.new _ _ _
        have hs_w103 : w102.heap.size < w103.heap.size := hnew.lt
        have HB_w103 : Hid (Below W1.heap.size W1 w103) := HB_w102.out.trans (hb.mono HB_w102.out.size)
        have hz_w103 : w102.heap.size ≤ w103.heap.size := hb.size
        have HV_w103 := Lib.hid (HV_w102.out.under hb)
        have HP_w103 := Lib.hid hnew
        clear hnew hb hY HV_w102
        refine hK.out _ _ ?_ (fun hHeld => ?_)
        · exact HKS.out _ HB_w103.out
        clear hK K
        try simp only [Act.put, List.setIfInBounds_toArray, List.set_cons_zero, List.set_cons_succ]
        refine wpAnyH_ready (rs := [8, 13]) (by kernel_rfl) (by simp) (AllReadyH.cons (o := { dst := some 32, op := Go.Op.call { callee := Go.Callee.value (Go.Operand.func 67), args := #[Go.Operand.tmp 31], argTypes := #[168] }, type := 27, pos := "l7_automaton.go:601", after := #[{ on := 7, ground := Go.Ground.data }, { on := 2, ground := Go.Ground.chain }], guard := none }) rfl (fun K hK => ?_) (AllReadyH.cons (o := { dst := some 7, op := Go.Op.alloc 51, type := 0, pos := "l7_automaton.go:601", after := #[], guard := none }) rfl (fun K hK => ?_) AllReadyH.nil))
        · skip
          go_simp
          refine (Lb.concatO_any xa ya A1 B1 c1 d1 p1 o1 r1 s1 (w102.heap.size) w103 (by omega) (by omega) HP_w103.out.lt (HP_w103.out.cell 0) (HP_w103.out.cell 1) (HI1.out _ HB_w103.out) (HJ1.out _ HB_w103.out)).mono ?_
          rintro e' w104 ⟨gB, kB, rfl, ho, hb⟩
          rw [← HYs.out] at ho ⊢
          have hnew : Lb.OwnI w104 W1.heap.size gB ys kB := ho.base (Nat.le_trans HB_w103.out.size ho.le)
          clear HP_w103
          have HB_w104 : Hid (Below W1.heap.size W1 w104) := HB_w103.out.trans (hb.mono HB_w103.out.size)
          have hz_w104 : w103.heap.size ≤ w104.heap.size := hb.size
          have HV_w104 := Lib.hid (HV_w103.out.under hb)
          have HO_w104 := Lib.hid hnew
          clear hnew hb ho HV_w103
          try go_wp2_with fail
          refine hK.out _ _ ?_ (fun hHeld => ?_)
          · exact HKS.out _ HB_w104.out
          clear hK K
          try simp only [Act.put, List.setIfInBounds_toArray, List.set_cons_zero, List.set_cons_succ]
          refine wpAnyH_ready (rs := [11, 13]) (by kernel_rfl) (by simp) (AllReadyH.cons (o := { dst := some 35, op := Go.Op.call { callee := Go.Callee.value (Go.Operand.func 68), args := #[Go.Operand.tmp 34], argTypes := #[49] }, type := 49, pos := "l7_automaton.go:601", after := #[{ on := 10, ground := Go.Ground.data }, { on := 8, ground := Go.Ground.chain }], guard := none }) rfl (fun K hK => ?_) (AllReadyH.cons (o := { dst := some 7, op := Go.Op.alloc 51, type := 0, pos := "l7_automaton.go:601", after := #[], guard := none }) rfl (fun K hK => ?_) AllReadyH.nil))
          · skip
            go_simp
            refine (cloneT_any xe A2 c2 p2 o2 w104 HLx.out.2 (HI2.out _ HB_w104.out)).mono ?_
            rintro e' w105 ⟨A5, k5, rfl, ho, hb⟩
            have hnew : OwnT w105 W1.heap.size (.slice A5 xe.length k5) xe := by
              rcases ho with ⟨rfl, h0, rfl⟩ | ⟨g5, rfl, ho⟩
              · rw [h0]; exact ⟨rfl, .inl ⟨rfl, rfl⟩⟩
              · exact OwnT.baseB (show OwnT w105 w104.heap.size _ xe from ho) HB_w104.out.size
            have HB_w105 : Hid (Below W1.heap.size W1 w105) := HB_w104.out.trans (hb.mono HB_w104.out.size)
            have hz_w105 : w104.heap.size ≤ w105.heap.size := hb.size
            have HV_w105 := Lib.hid (HV_w104.out.under hb)
            have HO_w105 := Lib.hid (HO_w104.out.keep (hb.block _ HO_w104.out.lt))
            have HT_w105 := Lib.hid hnew
            clear hnew hb ho HV_w104 HO_w104
            try go_wp2_with fail
            refine hK.out _ _ ?_ (fun hHeld => ?_)
            · exact HKS.out _ HB_w105.out
            clear hK K
            try simp only [Act.put, List.setIfInBounds_toArray, List.set_cons_zero, List.set_cons_succ]
            refine wpAnyH_take (i := 12) (oi := { dst := some 36, op := Go.Op.build 51 #[(0, Go.Operand.tmp 26), (1, Go.Operand.tmp 32), (2, Go.Operand.tmp 35)], type := 51, pos := "l7_automaton.go:601", after := #[{ on := 2, ground := Go.Ground.data }, { on := 8, ground := Go.Ground.data }, { on := 11, ground := Go.Ground.data }], guard := none }) (v := ?_) rfl (by kernel_rfl) (by kernel_rfl) (by kernel_rfl) (fun _ _ _ h => h) (Or.inl ⟨by rfl, ?_⟩) (by assumption) ?_
            rotate_left
            · intro w hSw
              try dsimp only at hSw
              go_simp
              all_goals (with_reducible rfl)
            try simp only [Act.put, List.setIfInBounds_toArray, List.set_cons_zero, List.set_cons_succ]
            refine wpAnyH_ready (rs := [13]) (by kernel_rfl) (by simp) (AllReadyH.cons (o := { dst := some 7, op := Go.Op.alloc 51, type := 0, pos := "l7_automaton.go:601", after := #[], guard := none }) rfl (fun K hK => ?_) AllReadyH.nil)
            go_simp
            obtain ⟨w106, hY⟩ : ∃ Y, Y = w105.alloc (.cells #[.slice none 0 0, .slice none 0 0, .slice none 0 0] 51) := ⟨_, rfl⟩
            rw [← hY]
            have hb : Below w105.heap.size w105 w106 := by rw [hY]; exact (Below.refl _ _).alloc (Nat.le_refl _) _
            have hnew : Row w106 w105.heap.size 51 #[.slice none 0 0, .slice none 0 0, .slice none 0 0] := by rw [hY]; exact Row.new _ _ _
            have hs_w106 : w105.heap.size < w106.heap.size := hnew.lt
            have HB_w106 : Hid (Below W1.heap.size W1 w106) := HB_w105.out.trans (hb.mono HB_w105.out.size)
            have hz_w106 : w105.heap.size ≤ w106.heap.size := hb.size
            have HV_w106 := Lib.hid (HV_w105.out.under hb)
            have HO_w106 := Lib.hid (HO_w105.out.keep (hb.block _ HO_w105.out.lt))
            have HT_w106 := Lib.hid (HT_w105.out.underB hb)
            have HZ_w106 := Lib.hid hnew
            clear hnew hb hY HV_w105 HO_w105 HT_w105
            refine hK.out _ _ ?_ (fun hHeld => ?_)
            · exact HKS.out _ HB_w106.out
            clear hK K
            try simp only [Act.put, List.setIfInBounds_toArray, List.set_cons_zero, List.set_cons_succ]
            refine wpAnyH_ready (rs := [14]) (by kernel_rfl) (by simp) (AllReadyH.cons (o := { dst := none, op := Go.Op.store 51 (Go.Operand.tmp 7) (Go.Operand.tmp 36), type := 0, pos := "l7_automaton.go:601", after := #[{ on := 13, ground := Go.Ground.data }, { on := 12, ground := Go.Ground.data }, { on := 11, ground := Go.Ground.chain }, { on := 0, ground := Go.Ground.phase }, { on := 1, ground := Go.Ground.phase }, { on := 2, ground := Go.Ground.phase }, { on := 3, ground := Go.Ground.phase }, { on := 4, ground := Go.Ground.phase }, { on := 5, ground := Go.Ground.phase }, { on := 6, ground := Go.Ground.phase }, { on := 7, ground := Go.Ground.phase }, { on := 8, ground := Go.Ground.phase }, { on := 9, ground := Go.Ground.phase }, { on := 10, ground := Go.Ground.phase }, { on := 11, ground := Go.Ground.phase }, { on := 12, ground := Go.Ground.phase }, { on := 13, ground := Go.Ground.phase }], guard := none }) rfl (fun K hK => ?_) AllReadyH.nil)
            obtain ⟨x0, x1, x2⟩ := HZ_w106.out.three
            have u0 := HZ_w106.out.frozen 0
            have u1 := HZ_w106.out.frozen 1
            have u2 := HZ_w106.out.frozen 2
            have hlz := HZ_w106.out.lt
            go_simp
            obtain ⟨w107, hY⟩ : ∃ Y, Y = ((w106.setCell ⟨w105.heap.size, 0, none⟩ (.slice A3 xi.length k3)).setCell ⟨w105.heap.size, 1, none⟩ (.slice (some ⟨gB, 0, none⟩) ys.length kB)).setCell ⟨w105.heap.size, 2, none⟩ (.slice A5 xe.length k5) := ⟨_, rfl⟩
            rw [← hY]
            have hU : Uk W1.heap.size (w105.heap.size) W1 w107 (.slice (some ⟨gB, 0, none⟩) ys.length kB) xi ys xe (.slice A3 xi.length k3) (.slice A5 xe.length k5) := by rw [hY]; exact Uk.make HZ_w106.out ⟨_, _, _, rfl⟩ (by omega) HV_w106.out HO_w106.out HT_w106.out HB_w106.out
            have HB_w107 : Hid (Below W1.heap.size W1 w107) := hU.frame
            have HU_w107 := Lib.hid hU
            clear hU hY x0 x1 x2 u0 u1 u2 hlz HZ_w106 HV_w106 HO_w106 HT_w106
            refine hK.out _ _ ?_ (fun hHeld => ?_)
            · exact HKS.out _ HB_w107.out
            clear hK K
            try simp only [Act.put, List.setIfInBounds_toArray, List.set_cons_zero, List.set_cons_succ]
            refine wpAnyH_done (by kernel_rfl) ?_ _
            go_wp2_with fail
            go_meet
            exact ⟨_, _, _, _, _, _, _, rfl, HU_w107⟩
          · skip
            go_simp
            obtain ⟨w108, hY⟩ : ∃ Y, Y = w104.alloc (.cells #[.slice none 0 0, .slice none 0 0, .slice none 0 0] 51) := ⟨_, rfl⟩
            rw [← hY]
            have hb : Below w104.heap.size w104 w108 := by rw [hY]; exact (Below.refl _ _).alloc (Nat.le_refl _) _
            have hnew : Row w108 w104.heap.size 51 #[.slice none 0 0, .slice none 0 0, .slice none 0 0] := by rw [hY]; exact Row.new _ _ _
            have hs_w108 : w104.heap.size < w108.heap.size := hnew.lt
            have HB_w108 : Hid (Below W1.heap.size W1 w108) := HB_w104.out.trans (hb.mono HB_w104.out.size)
            have hz_w108 : w104.heap.size ≤ w108.heap.size := hb.size
            have HV_w108 := Lib.hid (HV_w104.out.under hb)
            have HO_w108 := Lib.hid (HO_w104.out.keep (hb.block _ HO_w104.out.lt))
            have HZ_w108 := Lib.hid hnew
            clear hnew hb hY HV_w104 HO_w104
            refine hK.out _ _ ?_ (fun hHeld => ?_)
            · exact HKS.out _ HB_w108.out
            clear hK K
            try simp only [Act.put, List.setIfInBounds_toArray, List.set_cons_zero, List.set_cons_succ]
            refine wpAnyH_ready (rs := [11]) (by kernel_rfl) (by simp) (AllReadyH.cons (o := { dst := some 35, op := Go.Op.call { callee := Go.Callee.value (Go.Operand.func 68), args := #[Go.Operand.tmp 34], argTypes := #[49] }, type := 49, pos := "l7_automaton.go:601", after := #[{ on := 10, ground := Go.Ground.data }, { on := 8, ground := Go.Ground.chain }], guard := none }) rfl (fun K hK => ?_) AllReadyH.nil)
            go_simp
            refine (cloneT_any xe A2 c2 p2 o2 w108 HLx.out.2 (HI2.out _ HB_w108.out)).mono ?_
            rintro e' w109 ⟨A5, k5, rfl, ho, hb⟩
            have hnew : OwnT w109 W1.heap.size (.slice A5 xe.length k5) xe := by
              rcases ho with ⟨rfl, h0, rfl⟩ | ⟨g5, rfl, ho⟩
              · rw [h0]; exact ⟨rfl, .inl ⟨rfl, rfl⟩⟩
              · exact OwnT.baseB (show OwnT w109 w108.heap.size _ xe from ho) HB_w108.out.size
            have HB_w109 : Hid (Below W1.heap.size W1 w109) := HB_w108.out.trans (hb.mono HB_w108.out.size)
            have hz_w109 : w108.heap.size ≤ w109.heap.size := hb.size
            have HV_w109 := Lib.hid (HV_w108.out.under hb)
            have HO_w109 := Lib.hid (HO_w108.out.keep (hb.block _ HO_w108.out.lt))
            have HZ_w109 := Lib.hid (HZ_w108.out.under hb HZ_w108.out.lt)
            have HT_w109 := Lib.hid hnew
            clear hnew hb ho HV_w108 HO_w108 HZ_w108
            try go_wp2_with fail
            refine hK.out _ _ ?_ (fun hHeld => ?_)
            · exact HKS.out _ HB_w109.out
            clear hK K
            try simp only [Act.put, List.setIfInBounds_toArray, List.set_cons_zero, List.set_cons_succ]
            refine wpAnyH_take (i := 12) (oi := { dst := some 36, op := Go.Op.build 51 #[(0, Go.Operand.tmp 26), (1, Go.Operand.tmp 32), (2, Go.Operand.tmp 35)], type := 51, pos := "l7_automaton.go:601", after := #[{ on := 2, ground := Go.Ground.data }, { on := 8, ground := Go.Ground.data }, { on := 11, ground := Go.Ground.data }], guard := none }) (v := ?_) rfl (by kernel_rfl) (by kernel_rfl) (by kernel_rfl) (fun _ _ _ h => h) (Or.inl ⟨by rfl, ?_⟩) (by assumption) ?_
            rotate_left
            · intro w hSw
              try dsimp only at hSw
              go_simp
              all_goals (with_reducible rfl)
            try simp only [Act.put, List.setIfInBounds_toArray, List.set_cons_zero, List.set_cons_succ]
            refine wpAnyH_ready (rs := [14]) (by kernel_rfl) (by simp) (AllReadyH.cons (o := { dst := none, op := Go.Op.store 51 (Go.Operand.tmp 7) (Go.Operand.tmp 36), type := 0, pos := "l7_automaton.go:601", after := #[{ on := 13, ground := Go.Ground.data }, { on := 12, ground := Go.Ground.data }, { on := 11, ground := Go.Ground.chain }, { on := 0, ground := Go.Ground.phase }, { on := 1, ground := Go.Ground.phase }, { on := 2, ground := Go.Ground.phase }, { on := 3, ground := Go.Ground.phase }, { on := 4, ground := Go.Ground.phase }, { on := 5, ground := Go.Ground.phase }, { on := 6, ground := Go.Ground.phase }, { on := 7, ground := Go.Ground.phase }, { on := 8, ground := Go.Ground.phase }, { on := 9, ground := Go.Ground.phase }, { on := 10, ground := Go.Ground.phase }, { on := 11, ground := Go.Ground.phase }, { on := 12, ground := Go.Ground.phase }, { on := 13, ground := Go.Ground.phase }], guard := none }) rfl (fun K hK => ?_) AllReadyH.nil)
            obtain ⟨x0, x1, x2⟩ := HZ_w109.out.three
            have u0 := HZ_w109.out.frozen 0
            have u1 := HZ_w109.out.frozen 1
            have u2 := HZ_w109.out.frozen 2
            have hlz := HZ_w109.out.lt
            go_simp
            obtain ⟨w110, hY⟩ : ∃ Y, Y = ((w109.setCell ⟨w104.heap.size, 0, none⟩ (.slice A3 xi.length k3)).setCell ⟨w104.heap.size, 1, none⟩ (.slice (some ⟨gB, 0, none⟩) ys.length kB)).setCell ⟨w104.heap.size, 2, none⟩ (.slice A5 xe.length k5) := ⟨_, rfl⟩
            rw [← hY]
            have hU : Uk W1.heap.size (w104.heap.size) W1 w110 (.slice (some ⟨gB, 0, none⟩) ys.length kB) xi ys xe (.slice A3 xi.length k3) (.slice A5 xe.length k5) := by rw [hY]; exact Uk.make HZ_w109.out ⟨_, _, _, rfl⟩ (by omega) HV_w109.out HO_w109.out HT_w109.out HB_w109.out
            have HB_w110 : Hid (Below W1.heap.size W1 w110) := hU.frame
            have HU_w110 := Lib.hid hU
            clear hU hY x0 x1 x2 u0 u1 u2 hlz HZ_w109 HV_w109 HO_w109 HT_w109
            refine hK.out _ _ ?_ (fun hHeld => ?_)
            · exact HKS.out _ HB_w110.out
            clear hK K
            try simp only [Act.put, List.setIfInBounds_toArray, List.set_cons_zero, List.set_cons_succ]
            refine wpAnyH_done (by kernel_rfl) ?_ _
            go_wp2_with fail
            go_meet
            exact ⟨_, _, _, _, _, _, _, rfl, HU_w110⟩
        · skip
          go_simp
          obtain ⟨w111, hY⟩ : ∃ Y, Y = w103.alloc (.cells #[.slice none 0 0, .slice none 0 0, .slice none 0 0] 51) := ⟨_, rfl⟩
          rw [← hY]
          have hb : Below w103.heap.size w103 w111 := by rw [hY]; exact (Below.refl _ _).alloc (Nat.le_refl _) _
          have hnew : Row w111 w103.heap.size 51 #[.slice none 0 0, .slice none 0 0, .slice none 0 0] := by rw [hY]; exact Row.new _ _ _
          have hs_w111 : w103.heap.size < w111.heap.size := hnew.lt
          have HB_w111 : Hid (Below W1.heap.size W1 w111) := HB_w103.out.trans (hb.mono HB_w103.out.size)
          have hz_w111 : w103.heap.size ≤ w111.heap.size := hb.size
          have HV_w111 := Lib.hid (HV_w103.out.under hb)
          have HP_w111 := Lib.hid (HP_w103.out.under hb HP_w103.out.lt)
          have HZ_w111 := Lib.hid hnew
          clear hnew hb hY HV_w103 HP_w103
          refine hK.out _ _ ?_ (fun hHeld => ?_)
          · exact HKS.out _ HB_w111.out
          clear hK K
          try simp only [Act.put, List.setIfInBounds_toArray, List.set_cons_zero, List.set_cons_succ]
          refine wpAnyH_ready (rs := [8]) (by kernel_rfl) (by simp) (AllReadyH.cons (o := { dst := some 32, op := Go.Op.call { callee := Go.Callee.value (Go.Operand.func 67), args := #[Go.Operand.tmp 31], argTypes := #[168] }, type := 27, pos := "l7_automaton.go:601", after := #[{ on := 7, ground := Go.Ground.data }, { on := 2, ground := Go.Ground.chain }], guard := none }) rfl (fun K hK => ?_) AllReadyH.nil)
          go_simp
          refine (Lb.concatO_any xa ya A1 B1 c1 d1 p1 o1 r1 s1 (w102.heap.size) w111 (by omega) (by omega) HP_w111.out.lt (HP_w111.out.cell 0) (HP_w111.out.cell 1) (HI1.out _ HB_w111.out) (HJ1.out _ HB_w111.out)).mono ?_
          rintro e' w112 ⟨gB, kB, rfl, ho, hb⟩
          rw [← HYs.out] at ho ⊢
          have hnew : Lb.OwnI w112 W1.heap.size gB ys kB := ho.base (Nat.le_trans HB_w111.out.size ho.le)
          clear HP_w111
          have HB_w112 : Hid (Below W1.heap.size W1 w112) := HB_w111.out.trans (hb.mono HB_w111.out.size)
          have hz_w112 : w111.heap.size ≤ w112.heap.size := hb.size
          have HV_w112 := Lib.hid (HV_w111.out.under hb)
          have HZ_w112 := Lib.hid (HZ_w111.out.under hb HZ_w111.out.lt)
          have HO_w112 := Lib.hid hnew
          clear hnew hb ho HV_w111 HZ_w111
          try go_wp2_with fail
          refine hK.out _ _ ?_ (fun hHeld => ?_)
          · exact HKS.out _ HB_w112.out
          clear hK K
          try simp only [Act.put, List.setIfInBounds_toArray, List.set_cons_zero, List.set_cons_succ]
          refine wpAnyH_ready (rs := [11]) (by kernel_rfl) (by simp) (AllReadyH.cons (o := { dst := some 35, op := Go.Op.call { callee := Go.Callee.value (Go.Operand.func 68), args := #[Go.Operand.tmp 34], argTypes := #[49] }, type := 49, pos := "l7_automaton.go:601", after := #[{ on := 10, ground := Go.Ground.data }, { on := 8, ground := Go.Ground.chain }], guard := none }) rfl (fun K hK => ?_) AllReadyH.nil)
          go_simp
          refine (cloneT_any xe A2 c2 p2 o2 w112 HLx.out.2 (HI2.out _ HB_w112.out)).mono ?_
          rintro e' w113 ⟨A5, k5, rfl, ho, hb⟩
          have hnew : OwnT w113 W1.heap.size (.slice A5 xe.length k5) xe := by
            rcases ho with ⟨rfl, h0, rfl⟩ | ⟨g5, rfl, ho⟩
            · rw [h0]; exact ⟨rfl, .inl ⟨rfl, rfl⟩⟩
            · exact OwnT.baseB (show OwnT w113 w112.heap.size _ xe from ho) HB_w112.out.size
          have HB_w113 : Hid (Below W1.heap.size W1 w113) := HB_w112.out.trans (hb.mono HB_w112.out.size)
          have hz_w113 : w112.heap.size ≤ w113.heap.size := hb.size
          have HV_w113 := Lib.hid (HV_w112.out.under hb)
          have HZ_w113 := Lib.hid (HZ_w112.out.under hb HZ_w112.out.lt)
          have HO_w113 := Lib.hid (HO_w112.out.keep (hb.block _ HO_w112.out.lt))
          have HT_w113 := Lib.hid hnew
          clear hnew hb ho HV_w112 HZ_w112 HO_w112
          try go_wp2_with fail
          refine hK.out _ _ ?_ (fun hHeld => ?_)
          · exact HKS.out _ HB_w113.out
          clear hK K
          try simp only [Act.put, List.setIfInBounds_toArray, List.set_cons_zero, List.set_cons_succ]
          refine wpAnyH_take (i := 12) (oi := { dst := some 36, op := Go.Op.build 51 #[(0, Go.Operand.tmp 26), (1, Go.Operand.tmp 32), (2, Go.Operand.tmp 35)], type := 51, pos := "l7_automaton.go:601", after := #[{ on := 2, ground := Go.Ground.data }, { on := 8, ground := Go.Ground.data }, { on := 11, ground := Go.Ground.data }], guard := none }) (v := ?_) rfl (by kernel_rfl) (by kernel_rfl) (by kernel_rfl) (fun _ _ _ h => h) (Or.inl ⟨by rfl, ?_⟩) (by assumption) ?_
          rotate_left
          · intro w hSw
            try dsimp only at hSw
            go_simp
            all_goals (with_reducible rfl)
          try simp only [Act.put, List.setIfInBounds_toArray, List.set_cons_zero, List.set_cons_succ]
          refine wpAnyH_ready (rs := [14]) (by kernel_rfl) (by simp) (AllReadyH.cons (o := { dst := none, op := Go.Op.store 51 (Go.Operand.tmp 7) (Go.Operand.tmp 36), type := 0, pos := "l7_automaton.go:601", after := #[{ on := 13, ground := Go.Ground.data }, { on := 12, ground := Go.Ground.data }, { on := 11, ground := Go.Ground.chain }, { on := 0, ground := Go.Ground.phase }, { on := 1, ground := Go.Ground.phase }, { on := 2, ground := Go.Ground.phase }, { on := 3, ground := Go.Ground.phase }, { on := 4, ground := Go.Ground.phase }, { on := 5, ground := Go.Ground.phase }, { on := 6, ground := Go.Ground.phase }, { on := 7, ground := Go.Ground.phase }, { on := 8, ground := Go.Ground.phase }, { on := 9, ground := Go.Ground.phase }, { on := 10, ground := Go.Ground.phase }, { on := 11, ground := Go.Ground.phase }, { on := 12, ground := Go.Ground.phase }, { on := 13, ground := Go.Ground.phase }], guard := none }) rfl (fun K hK => ?_) AllReadyH.nil)
          obtain ⟨x0, x1, x2⟩ := HZ_w113.out.three
          have u0 := HZ_w113.out.frozen 0
          have u1 := HZ_w113.out.frozen 1
          have u2 := HZ_w113.out.frozen 2
          have hlz := HZ_w113.out.lt
          go_simp
          obtain ⟨w114, hY⟩ : ∃ Y, Y = ((w113.setCell ⟨w103.heap.size, 0, none⟩ (.slice A3 xi.length k3)).setCell ⟨w103.heap.size, 1, none⟩ (.slice (some ⟨gB, 0, none⟩) ys.length kB)).setCell ⟨w103.heap.size, 2, none⟩ (.slice A5 xe.length k5) := ⟨_, rfl⟩
          rw [← hY]
          have hU : Uk W1.heap.size (w103.heap.size) W1 w114 (.slice (some ⟨gB, 0, none⟩) ys.length kB) xi ys xe (.slice A3 xi.length k3) (.slice A5 xe.length k5) := by rw [hY]; exact Uk.make HZ_w113.out ⟨_, _, _, rfl⟩ (by omega) HV_w113.out HO_w113.out HT_w113.out HB_w113.out
          have HB_w114 : Hid (Below W1.heap.size W1 w114) := hU.frame
          have HU_w114 := Lib.hid hU
          clear hU hY x0 x1 x2 u0 u1 u2 hlz HZ_w113 HV_w113 HO_w113 HT_w113
          refine hK.out _ _ ?_ (fun hHeld => ?_)
          · exact HKS.out _ HB_w114.out
          clear hK K
          try simp only [Act.put, List.setIfInBounds_toArray, List.set_cons_zero, List.set_cons_succ]
          refine wpAnyH_done (by kernel_rfl) ?_ _
          go_wp2_with fail
          go_meet
          exact ⟨_, _, _, _, _, _, _, rfl, HU_w114⟩
      · skip
        go_simp
        obtain ⟨w115, hY⟩ : ∃ Y, Y = w102.alloc (.cells #[.slice none 0 0, .slice none 0 0, .slice none 0 0] 51) := ⟨_, rfl⟩
        rw [← hY]
        have hb : Below w102.heap.size w102 w115 := by rw [hY]; exact (Below.refl _ _).alloc (Nat.le_refl _) _
        have hnew : Row w115 w102.heap.size 51 #[.slice none 0 0, .slice none 0 0, .slice none 0 0] := by rw [hY]; exact Row.new _ _ _
        have hs_w115 : w102.heap.size < w115.heap.size := hnew.lt
        have HB_w115 : Hid (Below W1.heap.size W1 w115) := HB_w102.out.trans (hb.mono HB_w102.out.size)
        have hz_w115 : w102.heap.size ≤ w115.heap.size := hb.size
        have HV_w115 := Lib.hid (HV_w102.out.under hb)
        have HZ_w115 := Lib.hid hnew
        clear hnew hb hY HV_w102
        refine hK.out _ _ ?_ (fun hHeld => ?_)
        · exact HKS.out _ HB_w115.out
        clear hK K
        try simp only [Act.put, List.setIfInBounds_toArray, List.set_cons_zero, List.set_cons_succ]
        refine wpAnyH_ready (rs := [7]) (by kernel_rfl) (by simp) (AllReadyH.cons (o := { dst := some 31, op := Go.Op.buildSlice 168 2 #[(0, Go.Operand.tmp 28), (1, Go.Operand.tmp 30)], type := 168, pos := "l7_automaton.go:601", after := #[{ on := 4, ground := Go.Ground.data }, { on := 6, ground := Go.Ground.data }], guard := none }) rfl (fun K hK => ?_) AllReadyH.nil)
        go_simp
        obtain ⟨w116, hY⟩ : ∃ Y, Y = w115.alloc (.cells #[.slice A1 xa.length c1, .slice B1 ya.length d1] 27) := ⟨_, rfl⟩
        rw [← hY]
        have hb : Below w115.heap.size w115 w116 := by rw [hY]; exact (Below.refl _ _).alloc (Nat.le_refl _) _
        have hnew : Row w116 w115.heap.size 27 #[.slice A1 xa.length c1, .slice B1 ya.length d1] := by rw [hY]; exact Row.new _ _ _
        have hs_w116 : w115.heap.size < w116.heap.size := hnew.lt
        have HB_w116 : Hid (Below W1.heap.size W1 w116) := HB_w115.out.trans (hb.mono HB_w115.out.size)
        have hz_w116 : w115.heap.size ≤ w116.heap.size := hb.size
        have HV_w116 := Lib.hid (HV_w115.out.under hb)
        have HZ_w116 := Lib.hid (HZ_w115.out.under hb HZ_w115.out.lt)
        have HP_w116 := Lib.hid hnew
        clear hnew hb hY HV_w115 HZ_w115
        refine hK.out _ _ ?_ (fun hHeld => ?_)
        · exact HKS.out _ HB_w116.out
        clear hK K
        try simp only [Act.put, List.setIfInBounds_toArray, List.set_cons_zero, List.set_cons_succ]
        refine wpAnyH_ready (rs := [8]) (by kernel_rfl) (by simp) (AllReadyH.cons (o := { dst := some 32, op := Go.Op.call { callee := Go.Callee.value (Go.Operand.func 67), args := #[Go.Operand.tmp 31], argTypes := #[168] }, type := 27, pos := "l7_automaton.go:601", after := #[{ on := 7, ground := Go.Ground.data }, { on := 2, ground := Go.Ground.chain }], guard := none }) rfl (fun K hK => ?_) AllReadyH.nil)
        go_simp
        refine (Lb.concatO_any xa ya A1 B1 c1 d1 p1 o1 r1 s1 (w115.heap.size) w116 (by omega) (by omega) HP_w116.out.lt (HP_w116.out.cell 0) (HP_w116.out.cell 1) (HI1.out _ HB_w116.out) (HJ1.out _ HB_w116.out)).mono ?_
        rintro e' w117 ⟨gB, kB, rfl, ho, hb⟩
        rw [← HYs.out] at ho ⊢
        have hnew : Lb.OwnI w117 W1.heap.size gB ys kB := ho.base (Nat.le_trans HB_w116.out.size ho.le)
        clear HP_w116
        have HB_w117 : Hid (Below W1.heap.size W1 w117) := HB_w116.out.trans (hb.mono HB_w116.out.size)
        have hz_w117 : w116.heap.size ≤ w117.heap.size := hb.size
        have HV_w117 := Lib.hid (HV_w116.out.under hb)
        have HZ_w117 := Lib.hid (HZ_w116.out.under hb HZ_w116.out.lt)
        have HO_w117 := Lib.hid hnew
        clear hnew hb ho HV_w116 HZ_w116
        try go_wp2_with fail
        refine hK.out _ _ ?_ (fun hHeld => ?_)
        · exact HKS.out _ HB_w117.out
        clear hK K
        try simp only [Act.put, List.setIfInBounds_toArray, List.set_cons_zero, List.set_cons_succ]
        refine wpAnyH_ready (rs := [11]) (by kernel_rfl) (by simp) (AllReadyH.cons (o := { dst := some 35, op := Go.Op.call { callee := Go.Callee.value (Go.Operand.func 68), args := #[Go.Operand.tmp 34], argTypes := #[49] }, type := 49, pos := "l7_automaton.go:601", after := #[{ on := 10, ground := Go.Ground.data }, { on := 8, ground := Go.Ground.chain }], guard := none }) rfl (fun K hK => ?_) AllReadyH.nil)
        go_simp
        refine (cloneT_any xe A2 c2 p2 o2 w117 HLx.out.2 (HI2.out _ HB_w117.out)).mono ?_
        rintro e' w118 ⟨A5, k5, rfl, ho, hb⟩
        have hnew : OwnT w118 W1.heap.size (.slice A5 xe.length k5) xe := by
          rcases ho with ⟨rfl, h0, rfl⟩ | ⟨g5, rfl, ho⟩
          · rw [h0]; exact ⟨rfl, .inl ⟨rfl, rfl⟩⟩
          · exact OwnT.baseB (show OwnT w118 w117.heap.size _ xe from ho) HB_w117.out.size
        have HB_w118 : Hid (Below W1.heap.size W1 w118) := HB_w117.out.trans (hb.mono HB_w117.out.size)
        have hz_w118 : w117.heap.size ≤ w118.heap.size := hb.size
        have HV_w118 := Lib.hid (HV_w117.out.under hb)
        have HZ_w118 := Lib.hid (HZ_w117.out.under hb HZ_w117.out.lt)
        have HO_w118 := Lib.hid (HO_w117.out.keep (hb.block _ HO_w117.out.lt))
        have HT_w118 := Lib.hid hnew
        clear hnew hb ho HV_w117 HZ_w117 HO_w117
        try go_wp2_with fail
        refine hK.out _ _ ?_ (fun hHeld => ?_)
        · exact HKS.out _ HB_w118.out
        clear hK K
        try simp only [Act.put, List.setIfInBounds_toArray, List.set_cons_zero, List.set_cons_succ]
        refine wpAnyH_take (i := 12) (oi := { dst := some 36, op := Go.Op.build 51 #[(0, Go.Operand.tmp 26), (1, Go.Operand.tmp 32), (2, Go.Operand.tmp 35)], type := 51, pos := "l7_automaton.go:601", after := #[{ on := 2, ground := Go.Ground.data }, { on := 8, ground := Go.Ground.data }, { on := 11, ground := Go.Ground.data }], guard := none }) (v := ?_) rfl (by kernel_rfl) (by kernel_rfl) (by kernel_rfl) (fun _ _ _ h => h) (Or.inl ⟨by rfl, ?_⟩) (by assumption) ?_
        rotate_left
        · intro w hSw
          try dsimp only at hSw
          go_simp
          all_goals (with_reducible rfl)
        try simp only [Act.put, List.setIfInBounds_toArray, List.set_cons_zero, List.set_cons_succ]
        refine wpAnyH_ready (rs := [14]) (by kernel_rfl) (by simp) (AllReadyH.cons (o := { dst := none, op := Go.Op.store 51 (Go.Operand.tmp 7) (Go.Operand.tmp 36), type := 0, pos := "l7_automaton.go:601", after := #[{ on := 13, ground := Go.Ground.data }, { on := 12, ground := Go.Ground.data }, { on := 11, ground := Go.Ground.chain }, { on := 0, ground := Go.Ground.phase }, { on := 1, ground := Go.Ground.phase }, { on := 2, ground := Go.Ground.phase }, { on := 3, ground := Go.Ground.phase }, { on := 4, ground := Go.Ground.phase }, { on := 5, ground := Go.Ground.phase }, { on := 6, ground := Go.Ground.phase }, { on := 7, ground := Go.Ground.phase }, { on := 8, ground := Go.Ground.phase }, { on := 9, ground := Go.Ground.phase }, { on := 10, ground := Go.Ground.phase }, { on := 11, ground := Go.Ground.phase }, { on := 12, ground := Go.Ground.phase }, { on := 13, ground := Go.Ground.phase }], guard := none }) rfl (fun K hK => ?_) AllReadyH.nil)
        obtain ⟨x0, x1, x2⟩ := HZ_w118.out.three
        have u0 := HZ_w118.out.frozen 0
        have u1 := HZ_w118.out.frozen 1
        have u2 := HZ_w118.out.frozen 2
        have hlz := HZ_w118.out.lt
        go_simp
        obtain ⟨w119, hY⟩ : ∃ Y, Y = ((w118.setCell ⟨w102.heap.size, 0, none⟩ (.slice A3 xi.length k3)).setCell ⟨w102.heap.size, 1, none⟩ (.slice (some ⟨gB, 0, none⟩) ys.length kB)).setCell ⟨w102.heap.size, 2, none⟩ (.slice A5 xe.length k5) := ⟨_, rfl⟩
        rw [← hY]
        have hU : Uk W1.heap.size (w102.heap.size) W1 w119 (.slice (some ⟨gB, 0, none⟩) ys.length kB) xi ys xe (.slice A3 xi.length k3) (.slice A5 xe.length k5) := by rw [hY]; exact Uk.make HZ_w118.out ⟨_, _, _, rfl⟩ (by omega) HV_w118.out HO_w118.out HT_w118.out HB_w118.out
        have HB_w119 : Hid (Below W1.heap.size W1 w119) := hU.frame
        have HU_w119 := Lib.hid hU
        clear hU hY x0 x1 x2 u0 u1 u2 hlz HZ_w118 HV_w118 HO_w118 HT_w118
        refine hK.out _ _ ?_ (fun hHeld => ?_)
        · exact HKS.out _ HB_w119.out
        clear hK K
        try simp only [Act.put, List.setIfInBounds_toArray, List.set_cons_zero, List.set_cons_succ]
        refine wpAnyH_done (by kernel_rfl) ?_ _
        go_wp2_with fail
        go_meet
        exact ⟨_, _, _, _, _, _, _, rfl, HU_w119⟩
    · skip
      go_simp
      obtain ⟨w120, hY⟩ : ∃ Y, Y = w101.alloc (.cells #[.slice A1 xa.length c1, .slice B1 ya.length d1] 27) := ⟨_, rfl⟩
      rw [← hY]
      have hb : Below w101.heap.size w101 w120 := by rw [hY]; exact (Below.refl _ _).alloc (Nat.le_refl _) _
      have hnew : Row w120 w101.heap.size 27 #[.slice A1 xa.length c1, .slice B1 ya.length d1] := by rw [hY]; exact Row.new _ _ _
      have hs_w120 : w101.heap.size < w120.heap.size := hnew.lt
      have HB_w120 : Hid (Below W1.heap.size W1 w120) := HB_w101.out.trans (hb.mono HB_w101.out.size)
      have hz_w120 : w101.heap.size ≤ w120.heap.size := hb.size
      have HP_w120 := Lib.hid hnew
      clear hnew hb hY
      refine hK.out _ _ ?_ (fun hHeld => ?_)
      · exact HKS.out _ HB_w120.out
      clear hK K
      try simp only [Act.put, List.setIfInBounds_toArray, List.set_cons_zero, List.set_cons_succ]
      refine wpAnyH_ready (rs := [2, 13]) (by kernel_rfl) (by simp) (AllReadyH.cons (o := { dst := some 26, op := Go.Op.call { callee := Go.Callee.value (Go.Operand.func 66), args := #[Go.Operand.tmp 25], argTypes := #[22] }, type := 22, pos := "l7_automaton.go:601", after := #[{ on := 1, ground := Go.Ground.data }], guard := none }) rfl (fun K hK => ?_) (AllReadyH.cons (o := { dst := some 7, op := Go.Op.alloc 51, type := 0, pos := "l7_automaton.go:601", after := #[], guard := none }) rfl (fun K hK => ?_) AllReadyH.nil))
      · skip
        go_simp
        refine (La.cloneV_any xi A0 c0 p0 o0 w120 HLx.out.1 (HI0.out _ HB_w120.out)).mono ?_
        rintro e' w121 ⟨A3, k3, rfl, ho, hb⟩
        have hnew : OwnV w121 W1.heap.size (.slice A3 xi.length k3) xi := ho.base HB_w120.out.size
        have HB_w121 : Hid (Below W1.heap.size W1 w121) := HB_w120.out.trans (hb.mono HB_w120.out.size)
        have hz_w121 : w120.heap.size ≤ w121.heap.size := hb.size
        have HP_w121 := Lib.hid (HP_w120.out.under hb HP_w120.out.lt)
        have HV_w121 := Lib.hid hnew
        clear hnew hb ho HP_w120
        try go_wp2_with fail
        refine hK.out _ _ ?_ (fun hHeld => ?_)
        · exact HKS.out _ HB_w121.out
        clear hK K
        try simp only [Act.put, List.setIfInBounds_toArray, List.set_cons_zero, List.set_cons_succ]
        refine wpAnyH_ready (rs := [8, 13]) (by kernel_rfl) (by simp) (AllReadyH.cons (o := { dst := some 32, op := Go.Op.call { callee := Go.Callee.value (Go.Operand.func 67), args := #[Go.Operand.tmp 31], argTypes := #[168] }, type := 27, pos := "l7_automaton.go:601", after := #[{ on := 7, ground := Go.Ground.data }, { on := 2, ground := Go.Ground.chain }], guard := none }) rfl (fun K hK => ?_) (AllReadyH.cons (o := { dst := some 7, op := Go.Op.alloc 51, type := 0, pos := "l7_automaton.go:601", after := #[], guard := none }) rfl (fun K hK => ?_) AllReadyH.nil))
        · skip
          go_simp
          refine (Lb.concatO_any xa ya A1 B1 c1 d1 p1 o1 r1 s1 (w101.heap.size) w121 (by omega) (by omega) HP_w121.out.lt (HP_w121.out.cell 0) (HP_w121.out.cell 1) (HI1.out _ HB_w121.out) (HJ1.out _ HB_w121.out)).mono ?_
          rintro e' w122 ⟨gB, kB, rfl, ho, hb⟩
          rw [← HYs.out] at ho ⊢
          have hnew : Lb.OwnI w122 W1.heap.size gB ys kB := ho.base (Nat.le_trans HB_w121.out.size ho.le)
          clear HP_w121
          have HB_w122 : Hid (Below W1.heap.size W1 w122) := HB_w121.out.trans (hb.mono HB_w121.out.size)
          have hz_w122 : w121.heap.size ≤ w122.heap.size := hb.size
          have HV_w122 := Lib.hid (HV_w121.out.under hb)
          have HO_w122 := Lib.hid hnew
          clear hnew hb ho HV_w121
          try go_wp2_with fail
          refine hK.out _ _ ?_ (fun hHeld => ?_)
          · exact HKS.out _ HB_w122.out
          clear hK K
          try simp only [Act.put, List.setIfInBounds_toArray, List.set_cons_zero, List.set_cons_succ]
          refine wpAnyH_ready (rs := [11, 13]) (by kernel_rfl) (by simp) (AllReadyH.cons (o := { dst := some 35, op := Go.Op.call { callee := Go.Callee.value (Go.Operand.func 68), args := #[Go.Operand.tmp 34], argTypes := #[49] }, type := 49, pos := "l7_automaton.go:601", after := #[{ on := 10, ground := Go.Ground.data }, { on := 8, ground := Go.Ground.chain }], guard := none }) rfl (fun K hK => ?_) (AllReadyH.cons (o := { dst := some 7, op := Go.Op.alloc 51, type := 0, pos := "l7_automaton.go:601", after := #[], guard := none }) rfl (fun K hK => ?_) AllReadyH.nil))
          · skip
            go_simp
            refine (cloneT_any xe A2 c2 p2 o2 w122 HLx.out.2 (HI2.out _ HB_w122.out)).mono ?_
            rintro e' w123 ⟨A5, k5, rfl, ho, hb⟩
            have hnew : OwnT w123 W1.heap.size (.slice A5 xe.length k5) xe := by
              rcases ho with ⟨rfl, h0, rfl⟩ | ⟨g5, rfl, ho⟩
              · rw [h0]; exact ⟨rfl, .inl ⟨rfl, rfl⟩⟩
              · exact OwnT.baseB (show OwnT w123 w122.heap.size _ xe from ho) HB_w122.out.size
            have HB_w123 : Hid (Below W1.heap.size W1 w123) := HB_w122.out.trans (hb.mono HB_w122.out.size)
            have hz_w123 : w122.heap.size ≤ w123.heap.size := hb.size
            have HV_w123 := Lib.hid (HV_w122.out.under hb)
            have HO_w123 := Lib.hid (HO_w122.out.keep (hb.block _ HO_w122.out.lt))
            have HT_w123 := Lib.hid hnew
            clear hnew hb ho HV_w122 HO_w122
            try go_wp2_with fail
            refine hK.out _ _ ?_ (fun hHeld => ?_)
            · exact HKS.out _ HB_w123.out
            clear hK K
            try simp only [Act.put, List.setIfInBounds_toArray, List.set_cons_zero, List.set_cons_succ]
            refine wpAnyH_take (i := 12) (oi := { dst := some 36, op := Go.Op.build 51 #[(0, Go.Operand.tmp 26), (1, Go.Operand.tmp 32), (2, Go.Operand.tmp 35)], type := 51, pos := "l7_automaton.go:601", after := #[{ on := 2, ground := Go.Ground.data }, { on := 8, ground := Go.Ground.data }, { on := 11, ground := Go.Ground.data }], guard := none }) (v := ?_) rfl (by kernel_rfl) (by kernel_rfl) (by kernel_rfl) (fun _ _ _ h => h) (Or.inl ⟨by rfl, ?_⟩) (by assumption) ?_
            rotate_left
            · intro w hSw
              try dsimp only at hSw
              go_simp
              all_goals (with_reducible rfl)
            try simp only [Act.put, List.setIfInBounds_toArray, List.set_cons_zero, List.set_cons_succ]
            refine wpAnyH_ready (rs := [13]) (by kernel_rfl) (by simp) (AllReadyH.cons (o := { dst := some 7, op := Go.Op.alloc 51, type := 0, pos := "l7_automaton.go:601", after := #[], guard := none }) rfl (fun K hK => ?_) AllReadyH.nil)
            go_simp
            obtain ⟨w124, hY⟩ : ∃ Y, Y = w123.alloc (.cells #[.slice none 0 0, .slice none 0 0, .slice none 0 0] 51) := ⟨_, rfl⟩
            rw [← hY]
            have hb : Below w123.heap.size w123 w124 := by rw [hY]; exact (Below.refl _ _).alloc (Nat.le_refl _) _
            have hnew : Row w124 w123.heap.size 51 #[.slice none 0 0, .slice none 0 0, .slice none 0 0] := by rw [hY]; exact Row.new _ _ _
            have hs_w124 : w123.heap.size < w124.heap.size := hnew.lt
            have HB_w124 : Hid (Below W1.heap.size W1 w124) := HB_w123.out.trans (hb.mono HB_w123.out.size)
            have hz_w124 : w123.heap.size ≤ w124.heap.size := hb.size
            have HV_w124 := Lib.hid (HV_w123.out.under hb)
            have HO_w124 := Lib.hid (HO_w123.out.keep (hb.block _ HO_w123.out.lt))
            have HT_w124 := Lib.hid (HT_w123.out.underB hb)
            have HZ_w124 := Lib.hid hnew
            clear hnew hb hY HV_w123 HO_w123 HT_w123
            refine hK.out _ _ ?_ (fun hHeld => ?_)
            · exact HKS.out _ HB_w124.out
            clear hK K
            try simp only [Act.put, List.setIfInBounds_toArray, List.set_cons_zero, List.set_cons_succ]
            refine wpAnyH_ready (rs := [14]) (by kernel_rfl) (by simp) (AllReadyH.cons (o := { dst := none, op := Go.Op.store 51 (Go.Operand.tmp 7) (Go.Operand.tmp 36), type := 0, pos := "l7_automaton.go:601", after := #[{ on := 13, ground := Go.Ground.data }, { on := 12, ground := Go.Ground.data }, { on := 11, ground := Go.Ground.chain }, { on := 0, ground := Go.Ground.phase }, { on := 1, ground := Go.Ground.phase }, { on := 2, ground := Go.Ground.phase }, { on := 3, ground := Go.Ground.phase }, { on := 4, ground := Go.Ground.phase }, { on := 5, ground := Go.Ground.phase }, { on := 6, ground := Go.Ground.phase }, { on := 7, ground := Go.Ground.phase }, { on := 8, ground := Go.Ground.phase }, { on := 9, ground := Go.Ground.phase }, { on := 10, ground := Go.Ground.phase }, { on := 11, ground := Go.Ground.phase }, { on := 12, ground := Go.Ground.phase }, { on := 13, ground := Go.Ground.phase }], guard := none }) rfl (fun K hK => ?_) AllReadyH.nil)
            obtain ⟨x0, x1, x2⟩ := HZ_w124.out.three
            have u0 := HZ_w124.out.frozen 0
            have u1 := HZ_w124.out.frozen 1
            have u2 := HZ_w124.out.frozen 2
            have hlz := HZ_w124.out.lt
            go_simp
            obtain ⟨w125, hY⟩ : ∃ Y, Y = ((w124.setCell ⟨w123.heap.size, 0, none⟩ (.slice A3 xi.length k3)).setCell ⟨w123.heap.size, 1, none⟩ (.slice (some ⟨gB, 0, none⟩) ys.length kB)).setCell ⟨w123.heap.size, 2, none⟩ (.slice A5 xe.length k5) := ⟨_, rfl⟩
            rw [← hY]
            have hU : Uk W1.heap.size (w123.heap.size) W1 w125 (.slice (some ⟨gB, 0, none⟩) ys.length kB) xi ys xe (.slice A3 xi.length k3) (.slice A5 xe.length k5) := by rw [hY]; exact Uk.make HZ_w124.out ⟨_, _, _, rfl⟩ (by omega) HV_w124.out HO_w124.out HT_w124.out HB_w124.out
            have HB_w125 : Hid (Below W1.heap.size W1 w125) := hU.frame
            have HU_w125 := Lib.hid hU
            clear hU hY x0 x1 x2 u0 u1 u2 hlz HZ_w124 HV_w124 HO_w124 HT_w124
            refine hK.out _ _ ?_ (fun hHeld => ?_)
            · exact HKS.out _ HB_w125.out
            clear hK K
            try simp only [Act.put, List.setIfInBounds_toArray, List.set_cons_zero, List.set_cons_succ]
            refine wpAnyH_done (by kernel_rfl) ?_ _
            go_wp2_with fail
            go_meet
            exact ⟨_, _, _, _, _, _, _, rfl, HU_w125⟩
          · skip
            go_simp
            obtain ⟨w126, hY⟩ : ∃ Y, Y = w122.alloc (.cells #[.slice none 0 0, .slice none 0 0, .slice none 0 0] 51) := ⟨_, rfl⟩
            rw [← hY]
            have hb : Below w122.heap.size w122 w126 := by rw [hY]; exact (Below.refl _ _).alloc (Nat.le_refl _) _
            have hnew : Row w126 w122.heap.size 51 #[.slice none 0 0, .slice none 0 0, .slice none 0 0] := by rw [hY]; exact Row.new _ _ _
            have hs_w126 : w122.heap.size < w126.heap.size := hnew.lt
            have HB_w126 : Hid (Below W1.heap.size W1 w126) := HB_w122.out.trans (hb.mono HB_w122.out.size)
            have hz_w126 : w122.heap.size ≤ w126.heap.size := hb.size
            have HV_w126 := Lib.hid (HV_w122.out.under hb)
            have HO_w126 := Lib.hid (HO_w122.out.keep (hb.block _ HO_w122.out.lt))
            have HZ_w126 := Lib.hid hnew
            clear hnew hb hY HV_w122 HO_w122
            refine hK.out _ _ ?_ (fun hHeld => ?_)
            · exact HKS.out _ HB_w126.out
            clear hK K
            try simp only [Act.put, List.setIfInBounds_toArray, List.set_cons_zero, List.set_cons_succ]
            refine wpAnyH_ready (rs := [11]) (by kernel_rfl) (by simp) (AllReadyH.cons (o := { dst := some 35, op := Go.Op.call { callee := Go.Callee.value (Go.Operand.func 68), args := #[Go.Operand.tmp 34], argTypes := #[49] }, type := 49, pos := "l7_automaton.go:601", after := #[{ on := 10, ground := Go.Ground.data }, { on := 8, ground := Go.Ground.chain }], guard := none }) rfl (fun K hK => ?_) AllReadyH.nil)
            go_simp
            refine (cloneT_any xe A2 c2 p2 o2 w126 HLx.out.2 (HI2.out _ HB_w126.out)).mono ?_
            rintro e' w127 ⟨A5, k5, rfl, ho, hb⟩
            have hnew : OwnT w127 W1.heap.size (.slice A5 xe.length k5) xe := by
              rcases ho with ⟨rfl, h0, rfl⟩ | ⟨g5, rfl, ho⟩
              · rw [h0]; exact ⟨rfl, .inl ⟨rfl, rfl⟩⟩
              · exact OwnT.baseB (show OwnT w127 w126.heap.size _ xe from ho) HB_w126.out.size
            have HB_w127 : Hid (Below W1.heap.size W1 w127) := HB_w126.out.trans (hb.mono HB_w126.out.size)
            have hz_w127 : w126.heap.size ≤ w127.heap.size := hb.size
            have HV_w127 := Lib.hid (HV_w126.out.under hb)
            have HO_w127 := Lib.hid (HO_w126.out.keep (hb.block _ HO_w126.out.lt))
            have HZ_w127 := Lib.hid (HZ_w126.out.under hb HZ_w126.out.lt)
            have HT_w127 := Lib.hid hnew
            clear hnew hb ho HV_w126 HO_w126 HZ_w126
            try go_wp2_with fail
            refine hK.out _ _ ?_ (fun hHeld => ?_)
            · exact HKS.out _ HB_w127.out
            clear hK K
            try simp only [Act.put, List.setIfInBounds_toArray, List.set_cons_zero, List.set_cons_succ]
            refine wpAnyH_take (i := 12) (oi := { dst := some 36, op := Go.Op.build 51 #[(0, Go.Operand.tmp 26), (1, Go.Operand.tmp 32), (2, Go.Operand.tmp 35)], type := 51, pos := "l7_automaton.go:601", after := #[{ on := 2, ground := Go.Ground.data }, { on := 8, ground := Go.Ground.data }, { on := 11, ground := Go.Ground.data }], guard := none }) (v := ?_) rfl (by kernel_rfl) (by kernel_rfl) (by kernel_rfl) (fun _ _ _ h => h) (Or.inl ⟨by rfl, ?_⟩) (by assumption) ?_
            rotate_left
            · intro w hSw
              try dsimp only at hSw
              go_simp
              all_goals (with_reducible rfl)
            try simp only [Act.put, List.setIfInBounds_toArray, List.set_cons_zero, List.set_cons_succ]
            refine wpAnyH_ready (rs := [14]) (by kernel_rfl) (by simp) (AllReadyH.cons (o := { dst := none, op := Go.Op.store 51 (Go.Operand.tmp 7) (Go.Operand.tmp 36), type := 0, pos := "l7_automaton.go:601", after := #[{ on := 13, ground := Go.Ground.data }, { on := 12, ground := Go.Ground.data }, { on := 11, ground := Go.Ground.chain }, { on := 0, ground := Go.Ground.phase }, { on := 1, ground := Go.Ground.phase }, { on := 2, ground := Go.Ground.phase }, { on := 3, ground := Go.Ground.phase }, { on := 4, ground := Go.Ground.phase }, { on := 5, ground := Go.Ground.phase }, { on := 6, ground := Go.Ground.phase }, { on := 7, ground := Go.Ground.phase }, { on := 8, ground := Go.Ground.phase }, { on := 9, ground := Go.Ground.phase }, { on := 10, ground := Go.Ground.phase }, { on := 11, ground := Go.Ground.phase }, { on := 12, ground := Go.Ground.phase }, { on := 13, ground := Go.Ground.phase }], guard := none }) rfl (fun K hK => ?_) AllReadyH.nil)
            obtain ⟨x0, x1, x2⟩ := HZ_w127.out.three
            have u0 := HZ_w127.out.frozen 0
            have u1 := HZ_w127.out.frozen 1
            have u2 := HZ_w127.out.frozen 2
            have hlz := HZ_w127.out.lt
            go_simp
            obtain ⟨w128, hY⟩ : ∃ Y, Y = ((w127.setCell ⟨w122.heap.size, 0, none⟩ (.slice A3 xi.length k3)).setCell ⟨w122.heap.size, 1, none⟩ (.slice (some ⟨gB, 0, none⟩) ys.length kB)).setCell ⟨w122.heap.size, 2, none⟩ (.slice A5 xe.length k5) := ⟨_, rfl⟩
            rw [← hY]
            have hU : Uk W1.heap.size (w122.heap.size) W1 w128 (.slice (some ⟨gB, 0, none⟩) ys.length kB) xi ys xe (.slice A3 xi.length k3) (.slice A5 xe.length k5) := by rw [hY]; exact Uk.make HZ_w127.out ⟨_, _, _, rfl⟩ (by omega) HV_w127.out HO_w127.out HT_w127.out HB_w127.out
            have HB_w128 : Hid (Below W1.heap.size W1 w128) := hU.frame
            have HU_w128 := Lib.hid hU
            clear hU hY x0 x1 x2 u0 u1 u2 hlz HZ_w127 HV_w127 HO_w127 HT_w127
            refine hK.out _ _ ?_ (fun hHeld => ?_)
            · exact HKS.out _ HB_w128.out
            clear hK K
            try simp only [Act.put, List.setIfInBounds_toArray, List.set_cons_zero, List.set_cons_succ]
            refine wpAnyH_done (by kernel_rfl) ?_ _
            go_wp2_with fail
            go_meet
            exact ⟨_, _, _, _, _, _, _, rfl, HU_w128⟩
        · skip
          go_simp
          obtain ⟨w129, hY⟩ : ∃ Y, Y = w121.alloc (.cells #[.slice none 0 0, .slice none 0 0, .slice none 0 0] 51) := ⟨_, rfl⟩
          rw [← hY]
          have hb : Below w121.heap.size w121 w129 := by rw [hY]; exact (Below.refl _ _).alloc (Nat.le_refl _) _
          have hnew : Row w129 w121.heap.size 51 #[.slice none 0 0, .slice none 0 0, .slice none 0 0] := by rw [hY]; exact Row.new _ _ _
          have hs_w129 : w121.heap.size < w129.heap.size := hnew.lt
          have HB_w129 : Hid (Below W1.heap.size W1 w129) := HB_w121.out.trans (hb.mono HB_w121.out.size)
          have hz_w129 : w121.heap.size ≤ w129.heap.size := hb.size
          have HP_w129 := Lib.hid (HP_w121.out.under hb HP_w121.out.lt)
          have HV_w129 := Lib.hid (HV_w121.out.under hb)
          have HZ_w129 := Lib.hid hnew
          clear hnew hb hY HP_w121 HV_w121
          refine hK.out _ _ ?_ (fun hHeld => ?_)
          · exact HKS.out _ HB_w129.out
          clear hK K
          try simp only [Act.put, List.setIfInBounds_toArray, List.set_cons_zero, List.set_cons_succ]
          refine wpAnyH_ready (rs := [8]) (by kernel_rfl) (by simp) (AllReadyH.cons (o := { dst := some 32, op := Go.Op.call { callee := Go.Callee.value (Go.Operand.func 67), args := #[Go.Operand.tmp 31], argTypes := #[168] }, type := 27, pos := "l7_automaton.go:601", after := #[{ on := 7, ground := Go.Ground.data }, { on := 2, ground := Go.Ground.chain }], guard := none }) rfl (fun K hK => ?_) AllReadyH.nil)
          go_simp
          refine (Lb.concatO_any xa ya A1 B1 c1 d1 p1 o1 r1 s1 (w101.heap.size) w129 (by omega) (by omega) HP_w129.out.lt (HP_w129.out.cell 0) (HP_w129.out.cell 1) (HI1.out _ HB_w129.out) (HJ1.out _ HB_w129.out)).mono ?_
          rintro e' w130 ⟨gB, kB, rfl, ho, hb⟩
          rw [← HYs.out] at ho ⊢
          have hnew : Lb.OwnI w130 W1.heap.size gB ys kB := ho.base (Nat.le_trans HB_w129.out.size ho.le)
          clear HP_w129
          have HB_w130 : Hid (Below W1.heap.size W1 w130) := HB_w129.out.trans (hb.mono HB_w129.out.size)
          have hz_w130 : w129.heap.size ≤ w130.heap.size := hb.size
          have HV_w130 := Lib.hid (HV_w129.out.under hb)
          have HZ_w130 := Lib.hid (HZ_w129.out.under hb HZ_w129.out.lt)
          have HO_w130 := Lib.hid hnew
          clear hnew hb ho HV_w129 HZ_w129
          try go_wp2_with fail
          refine hK.out _ _ ?_ (fun hHeld => ?_)
          · exact HKS.out _ HB_w130.out
          clear hK K
          try simp only [Act.put, List.setIfInBounds_toArray, List.set_cons_zero, List.set_cons_succ]
          refine wpAnyH_ready (rs := [11]) (by kernel_rfl) (by simp) (AllReadyH.cons (o := { dst := some 35, op := Go.Op.call { callee := Go.Callee.value (Go.Operand.func 68), args := #[Go.Operand.tmp 34], argTypes := #[49] }, type := 49, pos := "l7_automaton.go:601", after := #[{ on := 10, ground := Go.Ground.data }, { on := 8, ground := Go.Ground.chain }], guard := none }) rfl (fun K hK => ?_) AllReadyH.nil)
          go_simp
          refine (cloneT_any xe A2 c2 p2 o2 w130 HLx.out.2 (HI2.out _ HB_w130.out)).mono ?_
          rintro e' w131 ⟨A5, k5, rfl, ho, hb⟩
          have hnew : OwnT w131 W1.heap.size (.slice A5 xe.length k5) xe := by
            rcases ho with ⟨rfl, h0, rfl⟩ | ⟨g5, rfl, ho⟩
            · rw [h0]; exact ⟨rfl, .inl ⟨rfl, rfl⟩⟩
            · exact OwnT.baseB (show OwnT w131 w130.heap.size _ xe from ho) HB_w130.out.size
          have HB_w131 : Hid (Below W1.heap.size W1 w131) := HB_w130.out.trans (hb.mono HB_w130.out.size)
          have hz_w131 : w130.heap.size ≤ w131.heap.size := hb.size
          have HV_w131 := Lib.hid (HV_w130.out.under hb)
          have HZ_w131 := Lib.hid (HZ_w130.out.under hb HZ_w130.out.lt)
          have HO_w131 := Lib.hid (HO_w130.out.keep (hb.block _ HO_w130.out.lt))
          have HT_w131 := Lib.hid hnew
          clear hnew hb ho HV_w130 HZ_w130 HO_w130
          try go_wp2_with fail
          refine hK.out _ _ ?_ (fun hHeld => ?_)
          · exact HKS.out _ HB_w131.out
          clear hK K
          try simp only [Act.put, List.setIfInBounds_toArray, List.set_cons_zero, List.set_cons_succ]
          refine wpAnyH_take (i := 12) (oi := { dst := some 36, op := Go.Op.build 51 #[(0, Go.Operand.tmp 26), (1, Go.Operand.tmp 32), (2, Go.Operand.tmp 35)], type := 51, pos := "l7_automaton.go:601", after := #[{ on := 2, ground := Go.Ground.data }, { on := 8, ground := Go.Ground.data }, { on := 11, ground := Go.Ground.data }], guard := none }) (v := ?_) rfl (by kernel_rfl) (by kernel_rfl) (by kernel_rfl) (fun _ _ _ h => h) (Or.inl ⟨by rfl, ?_⟩) (by assumption) ?_
          rotate_left
          · intro w hSw
            try dsimp only at hSw
            go_simp
            all_goals (with_reducible rfl)
          try simp only [Act.put, List.setIfInBounds_toArray, List.set_cons_zero, List.set_cons_succ]
          refine wpAnyH_ready (rs := [14]) (by kernel_rfl) (by simp) (AllReadyH.cons (o := { dst := none, op := Go.Op.store 51 (Go.Operand.tmp 7) (Go.Operand.tmp 36), type := 0, pos := "l7_automaton.go:601", after := #[{ on := 13, ground := Go.Ground.data }, { on := 12, ground := Go.Ground.data }, { on := 11, ground := Go.Ground.chain }, { on := 0, ground := Go.Ground.phase }, { on := 1, ground := Go.Ground.phase }, { on := 2, ground := Go.Ground.phase }, { on := 3, ground := Go.Ground.phase }, { on := 4, ground := Go.Ground.phase }, { on := 5, ground := Go.Ground.phase }, { on := 6, ground := Go.Ground.phase }, { on := 7, ground := Go.Ground.phase }, { on := 8, ground := Go.Ground.phase }, { on := 9, ground := Go.Ground.phase }, { on := 10, ground := Go.Ground.phase }, { on := 11, ground := Go.Ground.phase }, { on := 12, ground := Go.Ground.phase }, { on := 13, ground := Go.Ground.phase }], guard := none }) rfl (fun K hK => ?_) AllReadyH.nil)
          obtain ⟨x0, x1, x2⟩ := HZ_w131.out.three
          have u0 := HZ_w131.out.frozen 0
          have u1 := HZ_w131.out.frozen 1
          have u2 := HZ_w131.out.frozen 2
          have hlz := HZ_w131.out.lt
          go_simp
          obtain ⟨w132, hY⟩ : ∃ Y, Y = ((w131.setCell ⟨w121.heap.size, 0, none⟩ (.slice A3 xi.length k3)).setCell ⟨w121.heap.size, 1, none⟩ (.slice (some ⟨gB, 0, none⟩) ys.length kB)).setCell ⟨w121.heap.size, 2, none⟩ (.slice A5 xe.length k5) := ⟨_, rfl⟩
          rw [← hY]
          have hU : Uk W1.heap.size (w121.heap.size) W1 w132 (.slice (some ⟨gB, 0, none⟩) ys.length kB) xi ys xe (.slice A3 xi.length k3) (.slice A5 xe.length k5) := by rw [hY]; exact Uk.make HZ_w131.out ⟨_, _, _, rfl⟩ (by omega) HV_w131.out HO_w131.out HT_w131.out HB_w131.out
          have HB_w132 : Hid (Below W1.heap.size W1 w132) := hU.frame
          have HU_w132 := Lib.hid hU
          clear hU hY x0 x1 x2 u0 u1 u2 hlz HZ_w131 HV_w131 HO_w131 HT_w131
          refine hK.out _ _ ?_ (fun hHeld => ?_)
          · exact HKS.out _ HB_w132.out
          clear hK K
          try simp only [Act.put, List.setIfInBounds_toArray, List.set_cons_zero, List.set_cons_succ]
          refine wpAnyH_done (by kernel_rfl) ?_ _
          go_wp2_with fail
          go_meet
          exact ⟨_, _, _, _, _, _, _, rfl, HU_w132⟩
      · skip
        go_simp
        obtain ⟨w133, hY⟩ : ∃ Y, Y = w120.alloc (.cells #[.slice none 0 0, .slice none 0 0, .slice none 0 0] 51) := ⟨_, rfl⟩
        rw [← hY]
        have hb : Below w120.heap.size w120 w133 := by rw [hY]; exact (Below.refl _ _).alloc (Nat.le_refl _) _
        have hnew : Row w133 w120.heap.size 51 #[.slice none 0 0, .slice none 0 0, .slice none 0 0] := by rw [hY]; exact Row.new _ _ _
        have hs_w133 : w120.heap.size < w133.heap.size := hnew.lt
        have HB_w133 : Hid (Below W1.heap.size W1 w133) := HB_w120.out.trans (hb.mono HB_w120.out.size)
        have hz_w133 : w120.heap.size ≤ w133.heap.size := hb.size
        have HP_w133 := Lib.hid (HP_w120.out.under hb HP_w120.out.lt)
        have HZ_w133 := Lib.hid hnew
        clear hnew hb hY HP_w120
        refine hK.out _ _ ?_ (fun hHeld => ?_)
        · exact HKS.out _ HB_w133.out
        clear hK K
        try simp only [Act.put, List.setIfInBounds_toArray, List.set_cons_zero, List.set_cons_succ]
        refine wpAnyH_ready (rs := [2]) (by kernel_rfl) (by simp) (AllReadyH.cons (o := { dst := some 26, op := Go.Op.call { callee := Go.Callee.value (Go.Operand.func 66), args := #[Go.Operand.tmp 25], argTypes := #[22] }, type := 22, pos := "l7_automaton.go:601", after := #[{ on := 1, ground := Go.Ground.data }], guard := none }) rfl (fun K hK => ?_) AllReadyH.nil)
        go_simp
        refine (La.cloneV_any xi A0 c0 p0 o0 w133 HLx.out.1 (HI0.out _ HB_w133.out)).mono ?_
        rintro e' w134 ⟨A3, k3, rfl, ho, hb⟩
        have hnew : OwnV w134 W1.heap.size (.slice A3 xi.length k3) xi := ho.base HB_w133.out.size
        have HB_w134 : Hid (Below W1.heap.size W1 w134) := HB_w133.out.trans (hb.mono HB_w133.out.size)
        have hz_w134 : w133.heap.size ≤ w134.heap.size := hb.size
        have HP_w134 := Lib.hid (HP_w133.out.under hb HP_w133.out.lt)
        have HZ_w134 := Lib.hid (HZ_w133.out.under hb HZ_w133.out.lt)
        have HV_w134 := Lib.hid hnew
        clear hnew hb ho HP_w133 HZ_w133
        try go_wp2_with fail
        refine hK.out _ _ ?_ (fun hHeld => ?_)
        · exact HKS.out _ HB_w134.out
        clear hK K
        try simp only [Act.put, List.setIfInBounds_toArray, List.set_cons_zero, List.set_cons_succ]
        refine wpAnyH_ready (rs := [8]) (by kernel_rfl) (by simp) (AllReadyH.cons (o := { dst := some 32, op := Go.Op.call { callee := Go.Callee.value (Go.Operand.func 67), args := #[Go.Operand.tmp 31], argTypes := #[168] }, type := 27, pos := "l7_automaton.go:601", after := #[{ on := 7, ground := Go.Ground.data }, { on := 2, ground := Go.Ground.chain }], guard := none }) rfl (fun K hK => ?_) AllReadyH.nil)
        go_simp
        refine (Lb.concatO_any xa ya A1 B1 c1 d1 p1 o1 r1 s1 (w101.heap.size) w134 (by omega) (by omega) HP_w134.out.lt (HP_w134.out.cell 0) (HP_w134.out.cell 1) (HI1.out _ HB_w134.out) (HJ1.out _ HB_w134.out)).mono ?_
        rintro e' w135 ⟨gB, kB, rfl, ho, hb⟩
        rw [← HYs.out] at ho ⊢
        have hnew : Lb.OwnI w135 W1.heap.size gB ys kB := ho.base (Nat.le_trans HB_w134.out.size ho.le)
        clear HP_w134
        have HB_w135 : Hid (Below W1.heap.size W1 w135) := HB_w134.out.trans (hb.mono HB_w134.out.size)
        have hz_w135 : w134.heap.size ≤ w135.heap.size := hb.size
        have HZ_w135 := Lib.hid (HZ_w134.out.under hb HZ_w134.out.lt)
        have HV_w135 := Lib.hid (HV_w134.out.under hb)
        have HO_w135 := Lib.hid hnew
        clear hnew hb ho HZ_w134 HV_w134
        try go_wp2_with fail
        refine hK.out _ _ ?_ (fun hHeld => ?_)
        · exact HKS.out _ HB_w135.out
        clear hK K
        try simp only [Act.put, List.setIfInBounds_toArray, List.set_cons_zero, List.set_cons_succ]
        refine wpAnyH_ready (rs := [11]) (by kernel_rfl) (by simp) (AllReadyH.cons (o := { dst := some 35, op := Go.Op.call { callee := Go.Callee.value (Go.Operand.func 68), args := #[Go.Operand.tmp 34], argTypes := #[49] }, type := 49, pos := "l7_automaton.go:601", after := #[{ on := 10, ground := Go.Ground.data }, { on := 8, ground := Go.Ground.chain }], guard := none }) rfl (fun K hK => ?_) AllReadyH.nil)
        go_simp
        refine (cloneT_any xe A2 c2 p2 o2 w135 HLx.out.2 (HI2.out _ HB_w135.out)).mono ?_
        rintro e' w136 ⟨A5, k5, rfl, ho, hb⟩
        have hnew : OwnT w136 W1.heap.size (.slice A5 xe.length k5) xe := by
          rcases ho with ⟨rfl, h0, rfl⟩ | ⟨g5, rfl, ho⟩
          · rw [h0]; exact ⟨rfl, .inl ⟨rfl, rfl⟩⟩
          · exact OwnT.baseB (show OwnT w136 w135.heap.size _ xe from ho) HB_w135.out.size
        have HB_w136 : Hid (Below W1.heap.size W1 w136) := HB_w135.out.trans (hb.mono HB_w135.out.size)
        have hz_w136 : w135.heap.size ≤ w136.heap.size := hb.size
        have HZ_w136 := Lib.hid (HZ_w135.out.under hb HZ_w135.out.lt)
        have HV_w136 := Lib.hid (HV_w135.out.under hb)
        have HO_w136 := Lib.hid (HO_w135.out.keep (hb.block _ HO_w135.out.lt))
        have HT_w136 := Lib.hid hnew
        clear hnew hb ho HZ_w135 HV_w135 HO_w135
        try go_wp2_with fail
        refine hK.out _ _ ?_ (fun hHeld => ?_)
        · exact HKS.out _ HB_w136.out
        clear hK K
        try simp only [Act.put, List.setIfInBounds_toArray, List.set_cons_zero, List.set_cons_succ]
        refine wpAnyH_take (i := 12) (oi := { dst := some 36, op := Go.Op.build 51 #[(0, Go.Operand.tmp 26), (1, Go.Operand.tmp 32), (2, Go.Operand.tmp 35)], type := 51, pos := "l7_automaton.go:601", after := #[{ on := 2, ground := Go.Ground.data }, { on := 8, ground := Go.Ground.data }, { on := 11, ground := Go.Ground.data }], guard := none }) (v := ?_) rfl (by kernel_rfl) (by kernel_rfl) (by kernel_rfl) (fun _ _ _ h => h) (Or.inl ⟨by rfl, ?_⟩) (by assumption) ?_
        rotate_left
        · intro w hSw
          try dsimp only at hSw
          go_simp
          all_goals (with_reducible rfl)
        try simp only [Act.put, List.setIfInBounds_toArray, List.set_cons_zero, List.set_cons_succ]
        refine wpAnyH_ready (rs := [14]) (by kernel_rfl) (by simp) (AllReadyH.cons (o := { dst := none, op := Go.Op.store 51 (Go.Operand.tmp 7) (Go.Operand.tmp 36), type := 0, pos := "l7_automaton.go:601", after := #[{ on := 13, ground := Go.Ground.data }, { on := 12, ground := Go.Ground.data }, { on := 11, ground := Go.Ground.chain }, { on := 0, ground := Go.Ground.phase }, { on := 1, ground := Go.Ground.phase }, { on := 2, ground := Go.Ground.phase }, { on := 3, ground := Go.Ground.phase }, { on := 4, ground := Go.Ground.phase }, { on := 5, ground := Go.Ground.phase }, { on := 6, ground := Go.Ground.phase }, { on := 7, ground := Go.Ground.phase }, { on := 8, ground := Go.Ground.phase }, { on := 9, ground := Go.Ground.phase }, { on := 10, ground := Go.Ground.phase }, { on := 11, ground := Go.Ground.phase }, { on := 12, ground := Go.Ground.phase }, { on := 13, ground := Go.Ground.phase }], guard := none }) rfl (fun K hK => ?_) AllReadyH.nil)
        obtain ⟨x0, x1, x2⟩ := HZ_w136.out.three
        have u0 := HZ_w136.out.frozen 0
        have u1 := HZ_w136.out.frozen 1
        have u2 := HZ_w136.out.frozen 2
        have hlz := HZ_w136.out.lt
        go_simp
        obtain ⟨w137, hY⟩ : ∃ Y, Y = ((w136.setCell ⟨w120.heap.size, 0, none⟩ (.slice A3 xi.length k3)).setCell ⟨w120.heap.size, 1, none⟩ (.slice (some ⟨gB, 0, none⟩) ys.length kB)).setCell ⟨w120.heap.size, 2, none⟩ (.slice A5 xe.length k5) := ⟨_, rfl⟩
        rw [← hY]
        have hU : Uk W1.heap.size (w120.heap.size) W1 w137 (.slice (some ⟨gB, 0, none⟩) ys.length kB) xi ys xe (.slice A3 xi.length k3) (.slice A5 xe.length k5) := by rw [hY]; exact Uk.make HZ_w136.out ⟨_, _, _, rfl⟩ (by omega) HV_w136.out HO_w136.out HT_w136.out HB_w136.out
        have HB_w137 : Hid (Below W1.heap.size W1 w137) := hU.frame
        have HU_w137 := Lib.hid hU
        clear hU hY x0 x1 x2 u0 u1 u2 hlz HZ_w136 HV_w136 HO_w136 HT_w136
        refine hK.out _ _ ?_ (fun hHeld => ?_)
        · exact HKS.out _ HB_w137.out
        clear hK K
        try simp only [Act.put, List.setIfInBounds_toArray, List.set_cons_zero, List.set_cons_succ]
        refine wpAnyH_done (by kernel_rfl) ?_ _
        go_wp2_with fail
        go_meet
        exact ⟨_, _, _, _, _, _, _, rfl, HU_w137⟩
    · skip
      go_simp
      obtain ⟨w138, hY⟩ : ∃ Y, Y = w101.alloc (.cells #[.slice none 0 0, .slice none 0 0, .slice none 0 0] 51) := ⟨_, rfl⟩
      rw [← hY]
      have hb : Below w101.heap.size w101 w138 := by rw [hY]; exact (Below.refl _ _).alloc (Nat.le_refl _) _
      have hnew : Row w138 w101.heap.size 51 #[.slice none 0 0, .slice none 0 0, .slice none 0 0] := by rw [hY]; exact Row.new _ _ _
      have hs_w138 : w101.heap.size < w138.heap.size := hnew.lt
      have HB_w138 : Hid (Below W1.heap.size W1 w138) := HB_w101.out.trans (hb.mono HB_w101.out.size)
      have hz_w138 : w101.heap.size ≤ w138.heap.size := hb.size
      have HZ_w138 := Lib.hid hnew
      clear hnew hb hY
      refine hK.out _ _ ?_ (fun hHeld => ?_)
      · exact HKS.out _ HB_w138.out
      clear hK K
      try simp only [Act.put, List.setIfInBounds_toArray, List.set_cons_zero, List.set_cons_succ]
      refine wpAnyH_ready (rs := [2, 7]) (by kernel_rfl) (by simp) (AllReadyH.cons (o := { dst := some 26, op := Go.Op.call { callee := Go.Callee.value (Go.Operand.func 66), args := #[Go.Operand.tmp 25], argTypes := #[22] }, type := 22, pos := "l7_automaton.go:601", after := #[{ on := 1, ground := Go.Ground.data }], guard := none }) rfl (fun K hK => ?_) (AllReadyH.cons (o := { dst := some 31, op := Go.Op.buildSlice 168 2 #[(0, Go.Operand.tmp 28), (1, Go.Operand.tmp 30)], type := 168, pos := "l7_automaton.go:601", after := #[{ on := 4, ground := Go.Ground.data }, { on := 6, ground := Go.Ground.data }], guard := none }) rfl (fun K hK => ?_) AllReadyH.nil))
      · skip
        go_simp
        refine (La.cloneV_any xi A0 c0 p0 o0 w138 HLx.out.1 (HI0.out _ HB_w138.out)).mono ?_
        rintro e' w139 ⟨A3, k3, rfl, ho, hb⟩
        have hnew : OwnV w139 W1.heap.size (.slice A3 xi.length k3) xi := ho.base HB_w138.out.size
        have HB_w139 : Hid (Below W1.heap.size W1 w139) := HB_w138.out.trans (hb.mono HB_w138.out.size)
        have hz_w139 : w138.heap.size ≤ w139.heap.size := hb.size
        have HZ_w139 := Lib.hid (HZ_w138.out.under hb HZ_w138.out.lt)
        have HV_w139 := Lib.hid hnew
        clear hnew hb ho HZ_w138
        try go_wp2_with fail
        refine hK.out _ _ ?_ (fun hHeld => ?_)
        · exact HKS.out _ HB_w139.out
        clear hK K
        try simp only [Act.put, List.setIfInBounds_toArray, List.set_cons_zero, List.set_cons_succ]
        refine wpAnyH_ready (rs := [7]) (by kernel_rfl) (by simp) (AllReadyH.cons (o := { dst := some 31, op := Go.Op.buildSlice 168 2 #[(0, Go.Operand.tmp 28), (1, Go.Operand.tmp 30)], type := 168, pos := "l7_automaton.go:601", after := #[{ on := 4, ground := Go.Ground.data }, { on := 6, ground := Go.Ground.data }], guard := none }) rfl (fun K hK => ?_) AllReadyH.nil)
        go_simp
        obtain ⟨w140, hY⟩ : ∃ Y, Y = w139.alloc (.cells #[.slice A1 xa.length c1, .slice B1 ya.length d1] 27) := ⟨_, rfl⟩
        rw [← hY]
        have hb : Below w139.heap.size w139 w140 := by rw [hY]; exact (Below.refl _ _).alloc (Nat.le_refl _) _
        have hnew : Row w140 w139.heap.size 27 #[.slice A1 xa.length c1, .slice B1 ya.length d1] := by rw [hY]; exact Row.new _ _ _
        have hs_w140 : w139.heap.size < w140.heap.size := hnew.lt
        have HB_w140 : Hid (Below W1.heap.size W1 w140) := HB_w139.out.trans (hb.mono HB_w139.out.size)
        have hz_w140 : w139.heap.size ≤ w140.heap.size := hb.size
        have HZ_w140 := Lib.hid (HZ_w139.out.under hb HZ_w139.out.lt)
        have HV_w140 := Lib.hid (HV_w139.out.under hb)
        have HP_w140 := Lib.hid hnew
        clear hnew hb hY HZ_w139 HV_w139
        refine hK.out _ _ ?_ (fun hHeld => ?_)
        · exact HKS.out _ HB_w140.out
        clear hK K
        try simp only [Act.put, List.setIfInBounds_toArray, List.set_cons_zero, List.set_cons_succ]
        refine wpAnyH_ready (rs := [8]) (by kernel_rfl) (by simp) (AllReadyH.cons (o := { dst := some 32, op := Go.Op.call { callee := Go.Callee.value (Go.Operand.func 67), args := #[Go.Operand.tmp 31], argTypes := #[168] }, type := 27, pos := "l7_automaton.go:601", after := #[{ on := 7, ground := Go.Ground.data }, { on := 2, ground := Go.Ground.chain }], guard := none }) rfl (fun K hK => ?_) AllReadyH.nil)
        go_simp
        refine (Lb.concatO_any xa ya A1 B1 c1 d1 p1 o1 r1 s1 (w139.heap.size) w140 (by omega) (by omega) HP_w140.out.lt (HP_w140.out.cell 0) (HP_w140.out.cell 1) (HI1.out _ HB_w140.out) (HJ1.out _ HB_w140.out)).mono ?_
        rintro e' w141 ⟨gB, kB, rfl, ho, hb⟩
        rw [← HYs.out] at ho ⊢
        have hnew : Lb.OwnI w141 W1.heap.size gB ys kB := ho.base (Nat.le_trans HB_w140.out.size ho.le)
        clear HP_w140
        have HB_w141 : Hid (Below W1.heap.size W1 w141) := HB_w140.out.trans (hb.mono HB_w140.out.size)
        have hz_w141 : w140.heap.size ≤ w141.heap.size := hb.size
        have HZ_w141 := Lib.hid (HZ_w140.out.under hb HZ_w140.out.lt)
        have HV_w141 := Lib.hid (HV_w140.out.under hb)
        have HO_w141 := Lib.hid hnew
        clear hnew hb ho HZ_w140 HV_w140
        try go_wp2_with fail
        refine hK.out _ _ ?_ (fun hHeld => ?_)
        · exact HKS.out _ HB_w141.out
        clear hK K
        try simp only [Act.put, List.setIfInBounds_toArray, List.set_cons_zero, List.set_cons_succ]
        refine wpAnyH_ready (rs := [11]) (by kernel_rfl) (by simp) (AllReadyH.cons (o := { dst := some 35, op := Go.Op.call { callee := Go.Callee.value (Go.Operand.func 68), args := #[Go.Operand.tmp 34], argTypes := #[49] }, type := 49, pos := "l7_automaton.go:601", after := #[{ on := 10, ground := Go.Ground.data }, { on := 8, ground := Go.Ground.chain }], guard := none }) rfl (fun K hK => ?_) AllReadyH.nil)
        go_simp
        refine (cloneT_any xe A2 c2 p2 o2 w141 HLx.out.2 (HI2.out _ HB_w141.out)).mono ?_
        rintro e' w142 ⟨A5, k5, rfl, ho, hb⟩
        have hnew : OwnT w142 W1.heap.size (.slice A5 xe.length k5) xe := by
          rcases ho with ⟨rfl, h0, rfl⟩ | ⟨g5, rfl, ho⟩
          · rw [h0]; exact ⟨rfl, .inl ⟨rfl, rfl⟩⟩
          · exact OwnT.baseB (show OwnT w142 w141.heap.size _ xe from ho) HB_w141.out.size
        have HB_w142 : Hid (Below W1.heap.size W1 w142) := HB_w141.out.trans (hb.mono HB_w141.out.size)
        have hz_w142 : w141.heap.size ≤ w142.heap.size := hb.size
        have HZ_w142 := Lib.hid (HZ_w141.out.under hb HZ_w141.out.lt)
        have HV_w142 := Lib.hid (HV_w141.out.under hb)
        have HO_w142 := Lib.hid (HO_w141.out.keep (hb.block _ HO_w141.out.lt))
        have HT_w142 := Lib.hid hnew
        clear hnew hb ho HZ_w141 HV_w141 HO_w141
        try go_wp2_with fail
        refine hK.out _ _ ?_ (fun hHeld => ?_)
        · exact HKS.out _ HB_w142.out
        clear hK K
        try simp only [Act.put, List.setIfInBounds_toArray, List.set_cons_zero, List.set_cons_succ]
        refine wpAnyH_take (i := 12) (oi := { dst := some 36, op := Go.Op.build 51 #[(0, Go.Operand.tmp 26), (1, Go.Operand.tmp 32), (2, Go.Operand.tmp 35)], type := 51, pos := "l7_automaton.go:601", after := #[{ on := 2, ground := Go.Ground.data }, { on := 8, ground := Go.Ground.data }, { on := 11, ground := Go.Ground.data }], guard := none }) (v := ?_) rfl (by kernel_rfl) (by kernel_rfl) (by kernel_rfl) (fun _ _ _ h => h) (Or.inl ⟨by rfl, ?_⟩) (by assumption) ?_
        rotate_left
        · intro w hSw
          try dsimp only at hSw
          go_simp
          all_goals (with_reducible rfl)
        try simp only [Act.put, List.setIfInBounds_toArray, List.set_cons_zero, List.set_cons_succ]
        refine wpAnyH_ready (rs := [14]) (by kernel_rfl) (by simp) (AllReadyH.cons (o := { dst := none, op := Go.Op.store 51 (Go.Operand.tmp 7) (Go.Operand.tmp 36), type := 0, pos := "l7_automaton.go:601", after := #[{ on := 13, ground := Go.Ground.data }, { on := 12, ground := Go.Ground.data }, { on := 11, ground := Go.Ground.chain }, { on := 0, ground := Go.Ground.phase }, { on := 1, ground := Go.Ground.phase }, { on := 2, ground := Go.Ground.phase }, { on := 3, ground := Go.Ground.phase }, { on := 4, ground := Go.Ground.phase }, { on := 5, ground := Go.Ground.phase }, { on := 6, ground := Go.Ground.phase }, { on := 7, ground := Go.Ground.phase }, { on := 8, ground := Go.Ground.phase }, { on := 9, ground := Go.Ground.phase }, { on := 10, ground := Go.Ground.phase }, { on := 11, ground := Go.Ground.phase }, { on := 12, ground := Go.Ground.phase }, { on := 13, ground := Go.Ground.phase }], guard := none }) rfl (fun K hK => ?_) AllReadyH.nil)
        obtain ⟨x0, x1, x2⟩ := HZ_w142.out.three
        have u0 := HZ_w142.out.frozen 0
        have u1 := HZ_w142.out.frozen 1
        have u2 := HZ_w142.out.frozen 2
        have hlz := HZ_w142.out.lt
        go_simp
        obtain ⟨w143, hY⟩ : ∃ Y, Y = ((w142.setCell ⟨w101.heap.size, 0, none⟩ (.slice A3 xi.length k3)).setCell ⟨w101.heap.size, 1, none⟩ (.slice (some ⟨gB, 0, none⟩) ys.length kB)).setCell ⟨w101.heap.size, 2, none⟩ (.slice A5 xe.length k5) := ⟨_, rfl⟩
        rw [← hY]
        have hU : Uk W1.heap.size (w101.heap.size) W1 w143 (.slice (some ⟨gB, 0, none⟩) ys.length kB) xi ys xe (.slice A3 xi.length k3) (.slice A5 xe.length k5) := by rw [hY]; exact Uk.make HZ_w142.out ⟨_, _, _, rfl⟩ (by omega) HV_w142.out HO_w142.out HT_w142.out HB_w142.out
        have HB_w143 : Hid (Below W1.heap.size W1 w143) := hU.frame
        have HU_w143 := Lib.hid hU
        clear hU hY x0 x1 x2 u0 u1 u2 hlz HZ_w142 HV_w142 HO_w142 HT_w142
        refine hK.out _ _ ?_ (fun hHeld => ?_)
        · exact HKS.out _ HB_w143.out
        clear hK K
        try simp only [Act.put, List.setIfInBounds_toArray, List.set_cons_zero, List.set_cons_succ]
        refine wpAnyH_done (by kernel_rfl) ?_ _
        go_wp2_with fail
        go_meet
        exact ⟨_, _, _, _, _, _, _, rfl, HU_w143⟩
      · skip
        go_simp
        obtain ⟨w144, hY⟩ : ∃ Y, Y = w138.alloc (.cells #[.slice A1 xa.length c1, .slice B1 ya.length d1] 27) := ⟨_, rfl⟩
        rw [← hY]
        have hb : Below w138.heap.size w138 w144 := by rw [hY]; exact (Below.refl _ _).alloc (Nat.le_refl _) _
        have hnew : Row w144 w138.heap.size 27 #[.slice A1 xa.length c1, .slice B1 ya.length d1] := by rw [hY]; exact Row.new _ _ _
        have hs_w144 : w138.heap.size < w144.heap.size := hnew.lt
        have HB_w144 : Hid (Below W1.heap.size W1 w144) := HB_w138.out.trans (hb.mono HB_w138.out.size)
        have hz_w144 : w138.heap.size ≤ w144.heap.size := hb.size
        have HZ_w144 := Lib.hid (HZ_w138.out.under hb HZ_w138.out.lt)
        have HP_w144 := Lib.hid hnew
        clear hnew hb hY HZ_w138
        refine hK.out _ _ ?_ (fun hHeld => ?_)
        · exact HKS.out _ HB_w144.out
        clear hK K
        try simp only [Act.put, List.setIfInBounds_toArray, List.set_cons_zero, List.set_cons_succ]
        refine wpAnyH_ready (rs := [2]) (by kernel_rfl) (by simp) (AllReadyH.cons (o := { dst := some 26, op := Go.Op.call { callee := Go.Callee.value (Go.Operand.func 66), args := #[Go.Operand.tmp 25], argTypes := #[22] }, type := 22, pos := "l7_automaton.go:601", after := #[{ on := 1, ground := Go.Ground.data }], guard := none }) rfl (fun K hK => ?_) AllReadyH.nil)
        go_simp
        refine (La.cloneV_any xi A0 c0 p0 o0 w144 HLx.out.1 (HI0.out _ HB_w144.out)).mono ?_
        rintro e' w145 ⟨A3, k3, rfl, ho, hb⟩
        have hnew : OwnV w145 W1.heap.size (.slice A3 xi.length k3) xi := ho.base HB_w144.out.size
        have HB_w145 : Hid (Below W1.heap.size W1 w145) := HB_w144.out.trans (hb.mono HB_w144.out.size)
        have hz_w145 : w144.heap.size ≤ w145.heap.size := hb.size
        have HZ_w145 := Lib.hid (HZ_w144.out.under hb HZ_w144.out.lt)
        have HP_w145 := Lib.hid (HP_w144.out.under hb HP_w144.out.lt)
        have HV_w145 := Lib.hid hnew
        clear hnew hb ho HZ_w144 HP_w144
        try go_wp2_with fail
        refine hK.out _ _ ?_ (fun hHeld => ?_)
        · exact HKS.out _ HB_w145.out
        clear hK K
        try simp only [Act.put, List.setIfInBounds_toArray, List.set_cons_zero, List.set_cons_succ]
        refine wpAnyH_ready (rs := [8]) (by kernel_rfl) (by simp) (AllReadyH.cons (o := { dst := some 32, op := Go.Op.call { callee := Go.Callee.value (Go.Operand.func 67), args := #[Go.Operand.tmp 31], argTypes := #[168] }, type := 27, pos := "l7_automaton.go:601", after := #[{ on := 7, ground := Go.Ground.data }, { on := 2, ground := Go.Ground.chain }], guard := none }) rfl (fun K hK => ?_) AllReadyH.nil)
        go_simp
        refine (Lb.concatO_any xa ya A1 B1 c1 d1 p1 o1 r1 s1 (w138.heap.size) w145 (by omega) (by omega) HP_w145.out.lt (HP_w145.out.cell 0) (HP_w145.out.cell 1) (HI1.out _ HB_w145.out) (HJ1.out _ HB_w145.out)).mono ?_
        rintro e' w146 ⟨gB, kB, rfl, ho, hb⟩
        rw [← HYs.out] at ho ⊢
        have hnew : Lb.OwnI w146 W1.heap.size gB ys kB := ho.base (Nat.le_trans HB_w145.out.size ho.le)
        clear HP_w145
        have HB_w146 : Hid (Below W1.heap.size W1 w146) := HB_w145.out.trans (hb.mono HB_w145.out.size)
        have hz_w146 : w145.heap.size ≤ w146.heap.size := hb.size
        have HZ_w146 := Lib.hid (HZ_w145.out.under hb HZ_w145.out.lt)
        have HV_w146 := Lib.hid (HV_w145.out.under hb)
        have HO_w146 := Lib.hid hnew
        clear hnew hb ho HZ_w145 HV_w145
        try go_wp2_with fail
        refine hK.out _ _ ?_ (fun hHeld => ?_)
        · exact HKS.out _ HB_w146.out
        clear hK K
        try simp only [Act.put, List.setIfInBounds_toArray, List.set_cons_zero, List.set_cons_succ]
        refine wpAnyH_ready (rs := [11]) (by kernel_rfl) (by simp) (AllReadyH.cons (o := { dst := some 35, op := Go.Op.call { callee := Go.Callee.value (Go.Operand.func 68), args := #[Go.Operand.tmp 34], argTypes := #[49] }, type := 49, pos := "l7_automaton.go:601", after := #[{ on := 10, ground := Go.Ground.data }, { on := 8, ground := Go.Ground.chain }], guard := none }) rfl (fun K hK => ?_) AllReadyH.nil)
        go_simp
        refine (cloneT_any xe A2 c2 p2 o2 w146 HLx.out.2 (HI2.out _ HB_w146.out)).mono ?_
        rintro e' w147 ⟨A5, k5, rfl, ho, hb⟩
        have hnew : OwnT w147 W1.heap.size (.slice A5 xe.length k5) xe := by
          rcases ho with ⟨rfl, h0, rfl⟩ | ⟨g5, rfl, ho⟩
          · rw [h0]; exact ⟨rfl, .inl ⟨rfl, rfl⟩⟩
          · exact OwnT.baseB (show OwnT w147 w146.heap.size _ xe from ho) HB_w146.out.size
        have HB_w147 : Hid (Below W1.heap.size W1 w147) := HB_w146.out.trans (hb.mono HB_w146.out.size)
        have hz_w147 : w146.heap.size ≤ w147.heap.size := hb.size
        have HZ_w147 := Lib.hid (HZ_w146.out.under hb HZ_w146.out.lt)
        have HV_w147 := Lib.hid (HV_w146.out.under hb)
        have HO_w147 := Lib.hid (HO_w146.out.keep (hb.block _ HO_w146.out.lt))
        have HT_w147 := Lib.hid hnew
        clear hnew hb ho HZ_w146 HV_w146 HO_w146
        try go_wp2_with fail
        refine hK.out _ _ ?_ (fun hHeld => ?_)
        · exact HKS.out _ HB_w147.out
        clear hK K
        try simp only [Act.put, List.setIfInBounds_toArray, List.set_cons_zero, List.set_cons_succ]
        refine wpAnyH_take (i := 12) (oi := { dst := some 36, op := Go.Op.build 51 #[(0, Go.Operand.tmp 26), (1, Go.Operand.tmp 32), (2, Go.Operand.tmp 35)], type := 51, pos := "l7_automaton.go:601", after := #[{ on := 2, ground := Go.Ground.data }, { on := 8, ground := Go.Ground.data }, { on := 11, ground := Go.Ground.data }], guard := none }) (v := ?_) rfl (by kernel_rfl) (by kernel_rfl) (by kernel_rfl) (fun _ _ _ h => h) (Or.inl ⟨by rfl, ?_⟩) (by assumption) ?_
        rotate_left
        · intro w hSw
          try dsimp only at hSw
          go_simp
          all_goals (with_reducible rfl)
        try simp only [Act.put, List.setIfInBounds_toArray, List.set_cons_zero, List.set_cons_succ]
        refine wpAnyH_ready (rs := [14]) (by kernel_rfl) (by simp) (AllReadyH.cons (o := { dst := none, op := Go.Op.store 51 (Go.Operand.tmp 7) (Go.Operand.tmp 36), type := 0, pos := "l7_automaton.go:601", after := #[{ on := 13, ground := Go.Ground.data }, { on := 12, ground := Go.Ground.data }, { on := 11, ground := Go.Ground.chain }, { on := 0, ground := Go.Ground.phase }, { on := 1, ground := Go.Ground.phase }, { on := 2, ground := Go.Ground.phase }, { on := 3, ground := Go.Ground.phase }, { on := 4, ground := Go.Ground.phase }, { on := 5, ground := Go.Ground.phase }, { on := 6, ground := Go.Ground.phase }, { on := 7, ground := Go.Ground.phase }, { on := 8, ground := Go.Ground.phase }, { on := 9, ground := Go.Ground.phase }, { on := 10, ground := Go.Ground.phase }, { on := 11, ground := Go.Ground.phase }, { on := 12, ground := Go.Ground.phase }, { on := 13, ground := Go.Ground.phase }], guard := none }) rfl (fun K hK => ?_) AllReadyH.nil)
        obtain ⟨x0, x1, x2⟩ := HZ_w147.out.three
        have u0 := HZ_w147.out.frozen 0
        have u1 := HZ_w147.out.frozen 1
        have u2 := HZ_w147.out.frozen 2
        have hlz := HZ_w147.out.lt
        go_simp
        obtain ⟨w148, hY⟩ : ∃ Y, Y = ((w147.setCell ⟨w101.heap.size, 0, none⟩ (.slice A3 xi.length k3)).setCell ⟨w101.heap.size, 1, none⟩ (.slice (some ⟨gB, 0, none⟩) ys.length kB)).setCell ⟨w101.heap.size, 2, none⟩ (.slice A5 xe.length k5) := ⟨_, rfl⟩
        rw [← hY]
        have hU : Uk W1.heap.size (w101.heap.size) W1 w148 (.slice (some ⟨gB, 0, none⟩) ys.length kB) xi ys xe (.slice A3 xi.length k3) (.slice A5 xe.length k5) := by rw [hY]; exact Uk.make HZ_w147.out ⟨_, _, _, rfl⟩ (by omega) HV_w147.out HO_w147.out HT_w147.out HB_w147.out
        have HB_w148 : Hid (Below W1.heap.size W1 w148) := hU.frame
        have HU_w148 := Lib.hid hU
        clear hU hY x0 x1 x2 u0 u1 u2 hlz HZ_w147 HV_w147 HO_w147 HT_w147
        refine hK.out _ _ ?_ (fun hHeld => ?_)
        · exact HKS.out _ HB_w148.out
        clear hK K
        try simp only [Act.put, List.setIfInBounds_toArray, List.set_cons_zero, List.set_cons_succ]
        refine wpAnyH_done (by kernel_rfl) ?_ _
        go_wp2_with fail
        go_meet
        exact ⟨_, _, _, _, _, _, _, rfl, HU_w148⟩
  case rest =>
  obtain ⟨g, A3, k3, gB, kB, A5, k5, rfl, HK⟩ := hcut
  have HKr : Hid (∀ X, Below W1.heap.size W1 X → X.cell? ⟨w.heap.size + 1, 0, none⟩ = some (.slice B0 yi.length d0) ∧ X.cell? ⟨w.heap.size + 1, 2, none⟩ = some (.slice B2 ye.length d2) ∧ w.heap.size + 1 < X.heap.size ∧ X.cell? ⟨w.heap.size + 1, 1, none⟩ = some (.slice B1 ya.length d1)) := fun X h => by
    have hr := HRb.out.under h HRb.out.lt
    obtain ⟨b0, b1, b2⟩ := hr.three
    exact ⟨b0, b2, hr.lt, b1⟩
  obtain ⟨f0, _, f3, _⟩ := HKr.out wc HK.out.frame
  go_wp2_with fail
  go_loopw [40] (fun i wl => ∃ (j : Nat) (zs : List Int) (A : Option Addr) (k : Nat), j ≤ yi.length ∧ i = .int .i64 j ∧ Hid (zs = xi ++ (yi.take j).map (fun z => z + (xa.length : Int))) ∧ Hid (Uk W1.heap.size g W1 wl (.slice (some ⟨gB, 0, none⟩) ys.length kB) zs ys xe (.slice A zs.length k) (.slice A5 xe.length k5))) (fun i _ => yi.length - (intOf i).toNat)
  case atStart => exact ⟨0, xi, A3, k3, Nat.zero_le _, rfl, (show xi = xi ++ (yi.take 0).map (fun z => z + (xa.length : Int)) by simp), HK⟩
  case round =>
    clear HK f0 f3
    obtain ⟨j, zs, A, k, hj, rfl, HZs, HK⟩ := hrel
    rename World => wo
    have hzw : W1.heap.size ≤ wo.heap.size := HK.out.frame.size
    have hbx := HK.out.box.cell 0
    have hgl := HK.out.box.lt
    have HZl : Hid (zs.length = xi.length + j) := by show _ = _; rw [HZs.out]; simp; omega
    have hzl : zs.length ≤ 4096 := by have := HZl.out; omega
    by_cases hlt : j < yi.length
    · obtain ⟨z, hz⟩ : ∃ z, yi[j]? = some z := ⟨_, List.getElem?_eq_getElem hlt⟩
      have hzr := HIb.out z (List.mem_of_getElem? hz)
      obtain ⟨hz0, hz64⟩ := hzr
      have HZn : Hid (zs ++ [z + (xa.length : Int)] = xi ++ (yi.take (j + 1)).map (fun z => z + (xa.length : Int))) := by
        show _ = _
        rw [HZs.out, List.take_add_one, hz, List.map_append, List.append_assoc]
        rfl
      obtain ⟨rfl, hba, h0⟩ := HJ0.out wo HK.out.frame j z hz
      obtain ⟨X1, hX1⟩ : ∃ X1, X1 = wo.alloc (.cells #[.int .i64 ((xa.length : Int) + z)] 3) := ⟨_, rfl⟩
      have hb1 : Below wo.heap.size wo X1 := by rw [hX1]; exact (Below.refl _ _).alloc (Nat.le_refl _) _
      have hrw : Row X1 wo.heap.size 3 #[.int .i64 (z + (xa.length : Int))] := by rw [hX1, Int.add_comm]; exact Row.new _ _ _
      have hk1 := HK.out.below hb1 hzw
      have hz1' := hb1.size
      obtain ⟨g2, cp2, w3, hap, hown, hgr⟩ := run_appendV X1 22 W1.heap.size (.slice A zs.length k) zs (z + (xa.length : Int)) wo.heap.size hk1.oi hrw (by omega) (by omega)
      obtain ⟨e0, e1, e2, hk3⟩ := hk1.stepI (by omega) hown hgr
      have HK3 : Hid (Uk W1.heap.size g W1 (w3.setCell ⟨g, 0, none⟩ (.slice (some ⟨g2, 0, none⟩) (zs.length + 1) cp2)) (.slice (some ⟨gB, 0, none⟩) ys.length kB) (zs ++ [z + (xa.length : Int)]) ys xe (.slice (some ⟨g2, 0, none⟩) (zs ++ [z + (xa.length : Int)]).length cp2) (.slice A5 xe.length k5)) := by
        rw [show (zs ++ [z + (xa.length : Int)]).length = zs.length + 1 by simp]
        exact hk3
      have HAp := Lib.hid hap
      have HX1 := Lib.hid hX1
      clear hz hX1 hb1 hrw hk1 hap hown hgr hk3 HK HZs HZl
      go_wp2_with (at_builtin; rw [← HX1.out]; refine wpList_append_eq rfl (.tmp 45) (.tmp 49) 22 rfl rfl rfl HAp.out ?_)
      go_wp2_with fail
      go_roundw
      case rel => exact ⟨j + 1, zs ++ [z + (xa.length : Int)], _, _, by omega, by go_num, HZn, HK3⟩
      case measure => simp [intOf]; omega
    · have hjj : j = yi.length := by omega
      subst hjj
      have HZf : Hid (zs = xi ++ yi.map (fun z => z + (xa.length : Int))) := by show _ = _; rw [HZs.out, List.take_length]
      obtain ⟨_, f2, f3, f4⟩ := HKr.out wo HK.out.frame
      clear hbx HZs
      go_wp2_with fail
      go_loopw [56] (fun i wl => ∃ (q : Nat) (es : List Tr) (A' : Option Addr) (k' : Nat), q ≤ ye.length ∧ i = .int .i64 q ∧ Hid (es = xe ++ (ye.take q).map (shT xa.length)) ∧ Hid (Uk W1.heap.size g W1 wl (.slice (some ⟨gB, 0, none⟩) ys.length kB) zs ys es (.slice A zs.length k) (.slice A' es.length k'))) (fun i _ => ye.length - (intOf i).toNat)
      case atStart => exact ⟨0, xe, A5, k5, Nat.zero_le _, rfl, (show xe = xe ++ (ye.take 0).map (shT xa.length) by simp), HK⟩
      case round =>
        clear HK f2 f3 f4 hgl hzw hlt hj
        obtain ⟨q, es, A', k', hq, rfl, HEs, HK⟩ := hrel
        have hzw : W1.heap.size ≤ wr.heap.size := HK.out.frame.size
        have hbx := HK.out.box.cell 2
        have hgl := HK.out.box.lt
        have HEl : Hid (es.length = xe.length + q) := by show _ = _; rw [HEs.out]; simp; omega
        have hel : es.length ≤ 8192 := by have := HEl.out; omega
        by_cases hlt : q < ye.length
        · obtain ⟨y, hy⟩ : ∃ y, ye[q]? = some y := ⟨_, List.getElem?_eq_getElem hlt⟩
          have hyr := HTr.out y (List.mem_of_getElem? hy)
          have HEn : Hid (es ++ [shT xa.length y] = xe ++ (ye.take (q + 1)).map (shT xa.length)) := by
            show _ = _
            rw [HEs.out, List.take_add_one, hy, List.map_append, List.append_assoc]
            rfl
          obtain ⟨rfl, hba, h0, h1, h2, h3, _⟩ := HJ2.out wr HK.out.frame q y hy
          obtain ⟨fr, ca, va, tt⟩ := y
          dsimp only at hyr h0 h1 h2 h3
          obtain ⟨hf0, hf1, ht0, ht1⟩ := hyr
          obtain ⟨X1, hX1⟩ : ∃ X1, X1 = (wr.alloc (.cells #[.int .i64 fr, .int .i64 ca, .int .i64 va, .int .i64 tt] 116)).alloc (.cells #[.int .i64 ((xa.length : Int) + fr), .int .i64 ca, .int .i64 va, .int .i64 ((xa.length : Int) + tt)] 116) := ⟨_, rfl⟩
          have hb1 : Below wr.heap.size wr X1 := by rw [hX1]; exact ((Below.refl _ _).alloc (Nat.le_refl _) _).alloc (by simp) _
          have hrw : Row X1 (wr.heap.size + 1) 116 #[.int .i64 (fr + (xa.length : Int)), .int .i64 ca, .int .i64 va, .int .i64 (tt + (xa.length : Int))] := by
            rw [hX1, Int.add_comm _ fr, Int.add_comm _ tt]
            have h := Row.new (wr.alloc (.cells #[.int .i64 fr, .int .i64 ca, .int .i64 va, .int .i64 tt] 116)) 116 #[.int .i64 (fr + (xa.length : Int)), .int .i64 ca, .int .i64 va, .int .i64 (tt + (xa.length : Int))]
            rw [show (wr.alloc (.cells #[.int .i64 fr, .int .i64 ca, .int .i64 va, .int .i64 tt] 116)).heap.size = wr.heap.size + 1 by simp] at h
            exact h
          have hk1 := HK.out.below hb1 hzw
          have hz1' := hb1.size
          obtain ⟨g2, cp2, w3, hap, hown, hgr⟩ := run_appendE X1 49 W1.heap.size (.slice A' es.length k') es (shT xa.length ⟨fr, ca, va, tt⟩) (wr.heap.size + 1) hk1.ot hrw (by omega) (by omega)
          obtain ⟨e0, e1, e2, hk3⟩ := hk1.stepT (by omega) hown hgr
          have HK3 : Hid (Uk W1.heap.size g W1 (w3.setCell ⟨g, 2, none⟩ (.slice (some ⟨g2, 0, none⟩) (es.length + 1) cp2)) (.slice (some ⟨gB, 0, none⟩) ys.length kB) zs ys (es ++ [shT xa.length ⟨fr, ca, va, tt⟩]) (.slice A zs.length k) (.slice (some ⟨g2, 0, none⟩) (es ++ [shT xa.length ⟨fr, ca, va, tt⟩]).length cp2)) := by
            rw [show (es ++ [shT xa.length ⟨fr, ca, va, tt⟩]).length = es.length + 1 by simp]
            exact hk3
          have HAp := Lib.hid hap
          have HX1 := Lib.hid hX1
          clear hy hX1 hb1 hrw hk1 hap hown hgr hk3 HK HEs HEl
          go_wp2_with (at_builtin; rw [← HX1.out]; refine wpList_append_eq rfl (.tmp 61) (.tmp 75) 49 rfl rfl rfl HAp.out ?_)
          go_wp2_with fail
          go_roundw
          case rel => exact ⟨q + 1, es ++ [shT xa.length ⟨fr, ca, va, tt⟩], _, _, by omega, by go_num, HEn, HK3⟩
          case measure => simp [intOf]; omega
        · have hqq : q = ye.length := by omega
          subst hqq
          have HJo : Hid (joinA ⟨xi, xa, xe⟩ ⟨yi, ya, ye⟩ = ⟨zs, ys, es⟩) := by
            show _ = _
            rw [HZf.out, HYs.out, HEs.out, List.take_length]
            rfl
          have hyl : ys.length ≤ 128 := by have := HYl.out; omega
          have hbs := HK.out.box
          obtain ⟨b0, b1, b2⟩ := hbs.three
          have HAu : Hid (AuR wr W1.heap.size wr.heap.size zs ys es (.slice A zs.length k) (.slice (some ⟨gB, 0, none⟩) ys.length kB) (.slice A' es.length k')) := HK.out.aur (by omega) (by omega)
          have HRg : Hid (∀ e ∈ es, TrR e) := by
            have h := ua_rg (a := ⟨xi, xa, xe⟩) (b := ⟨yi, ya, ye⟩) HRx.out HRy.out hxa2 HTr.out
            rw [HJo.out] at h
            exact h
          have HLi := Lib.hid (HAu.out.lies (Nat.le_refl _) HRg.out (by omega))
          have HSz : Hid (Lay.au.sz ⟨zs, ys, es⟩ ≤ 1048576) := by show _ ≤ _; rw [au_sz]; dsimp only; omega
          have HXj : Hid (x = auOk ⟨zs, ys, es⟩) := by show _ = _; rw [← HJo.out]; exact HX.out
          clear hbx hbs
          go_wp2_with fail
          refine (implAv_any ⟨zs, ys, es⟩ (fun j => (#[.slice A zs.length k, (.slice (some ⟨gB, 0, none⟩) ys.length kB), .slice A' es.length k'] : Array Value).getD j undef) wr HLi.out HSz.out).mono ?_
          rintro e' w4 ⟨rfl, hb4⟩
          rw [← HXj.out]
          have HB4 : Hid (Below W1.heap.size W1 w4) := HK.out.frame.trans (hb4.mono hzw)
          have HK4 := Lib.hid (HK.out.below hb4 hzw)
          have hz4 : W1.heap.size ≤ w4.heap.size := HB4.out.size
          clear hb4 b0 b1 b2
          cases x
          · obtain ⟨p0, p1, p2⟩ := (HRc.out.under HB4.out HRc.out.lt).three
            have z0 := (HRc.out.under HB4.out HRc.out.lt).frozen 0
            have z1 := (HRc.out.under HB4.out HRc.out.lt).frozen 1
            have z2 := (HRc.out.under HB4.out HRc.out.lt).frozen 2
            have hq1 : w.heap.size + 1 + 1 < w4.heap.size := Nat.lt_of_lt_of_le HRc.out.lt HB4.out.size
            have HFin := Lib.hid (HNo.out (by first | rfl | (cases u <;> rfl) | (cases u <;> cases v <;> rfl)) w4 HB4.out)
            go_wp2_with fail
            refine bodyPost_ret (v := .tuple #[.agg #[.slice none 0 0, .slice none 0 0, .slice none 0 0], .bool false]) (by simp [results, Try.results23, go_sem, p0, p1, p2]) rfl ?_
            exact HFin.out
          · obtain ⟨b0, b1, b2⟩ := HK4.out.box.three
            have hgl4 := HK4.out.box.lt
            have HFin : Hid (UaPost ⟨xi, xa, xe⟩ ⟨yi, ya, ye⟩ w (.returned (.tuple #[.agg #[.slice A zs.length k, (.slice (some ⟨gB, 0, none⟩) ys.length kB), .slice A' es.length k'], .bool true])) (((w4.setCell ⟨w.heap.size + 1 + 1, 0, none⟩ (.slice A zs.length k)).setCell ⟨w.heap.size + 1 + 1, 1, none⟩ (.slice (some ⟨gB, 0, none⟩) ys.length kB)).setCell ⟨w.heap.size + 1 + 1, 2, none⟩ (.slice A' es.length k'))) := by
              have h2 : uaOk ⟨xi, xa, xe⟩ ⟨yi, ya, ye⟩ = true := HUa.out
              have hb' : Below w.heap.size w (((w4.setCell ⟨w.heap.size + 1 + 1, 0, none⟩ (.slice A zs.length k)).setCell ⟨w.heap.size + 1 + 1, 1, none⟩ (.slice (some ⟨gB, 0, none⟩) ys.length kB)).setCell ⟨w.heap.size + 1 + 1, 2, none⟩ (.slice A' es.length k')) := (((HB0.out.trans (HB4.out.mono HB0.out.size)).setCell (by simp; omega) _).setCell (by simp; omega) _).setCell (by simp; omega) _
              refine ⟨_, _, _, by rw [h2], ?_, hb'⟩
              rw [uaOut_yes h2, HJo.out]
              have h3 := HK4.out.aur (by omega) (by omega)
              refine (h3.keep fun p k1 k2 => ?_).more (by omega) (by simp)
              rw [Below.heap_setCell _ _ _ _ (by show ¬ _ = _; simp; omega), Below.heap_setCell _ _ _ _ (by show ¬ _ = _; simp; omega), Below.heap_setCell _ _ _ _ (by show ¬ _ = _; simp; omega)]
            obtain ⟨p0, p1, p2⟩ := (HRc.out.under HB4.out HRc.out.lt).three
            have z0 := (HRc.out.under HB4.out HRc.out.lt).frozen 0
            have z1 := (HRc.out.under HB4.out HRc.out.lt).frozen 1
            have z2 := (HRc.out.under HB4.out HRc.out.lt).frozen 2
            have hq1 : w.heap.size + 1 + 1 < w4.heap.size := Nat.lt_of_lt_of_le HRc.out.lt HB4.out.size
            go_wp2_with fail
            refine bodyPost_ret (v := .tuple #[.agg #[.slice A zs.length k, (.slice (some ⟨gB, 0, none⟩) ys.length kB), .slice A' es.length k'], .bool true]) (by simp [results, Try.results23, go_sem, p0, p1, p2]) rfl ?_
            exact HFin.out

end Go.Proofs.Ytldnegacgjijlaa

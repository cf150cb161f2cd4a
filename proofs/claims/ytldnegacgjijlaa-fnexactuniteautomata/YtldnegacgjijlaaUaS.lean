/- The walk of spec.UniteAutomata. -/
import Derived.Test.YtldnegacgjijlaaUaO
import Derived.Test.YtldnegacgjijlaaCl0
import Derived.Deep.RegionHeld3
import Derived.Deep.RegionWith
import Derived.Deep.Cut
import Derived.Deep.CutRange
import Derived.Test.YtldnegacgjijlaaUaQ
import Derived.Test.YtldnegacgjijlaaUs4
import Derived.Test.YtldnegacgjijlaaRl
import Derived.Test.YtldnegacgjijlaaAvS
namespace Go.Proofs.Ytldnegacgjijlaa
open Go.RowKit

set_option maxHeartbeats 8000000 in
set_option maxRecDepth 100000 in
theorem specUa_any (a : Au) (C : Nat → Value) (b : Au) (D : Nat → Value) (w : World) (hL : Lay.au.lies w w.heap.size a C) (hM : Lay.au.lies w w.heap.size b D) (hd0 : Lay.au.sz a ≤ 1048576) (hd1 : Lay.au.sz b ≤ 1048576) :
    Calls Try.prog 21 #[.agg #[C 0, C 1, C 2], .agg #[D 0, D 1, D 2]] w (UaPost a b w) := by
  obtain ⟨xi, xa, xe⟩ := a
  obtain ⟨yi, ya, ye⟩ := b
  obtain ⟨⟨A0, c0, p0, o0, q0, _, I0⟩, ⟨A1, c1, p1, o1, q1, _, I1⟩, ⟨A2, c2, p2, o2, D2, q2, _, I2⟩⟩ := au_lies hL
  obtain ⟨⟨B0, d0, r0, s0, t0, _, J0⟩, ⟨B1, d1, r1, s1, t1, _, J1⟩, ⟨B2, d2, r2, s2, E2, t2, _, J2⟩⟩ := au_lies hM
  have hLa := au_lit q0 q1 q2 hL
  have hMb := au_lit t0 t1 t2 hM
  rw [q0, q1, q2, t0, t1, t2]
  obtain ⟨W1, hW1⟩ : ∃ W1, W1 = ((w.alloc (.cells #[.slice A0 xi.length c0, .slice A1 xa.length c1, .slice A2 xe.length c2] 51)).alloc (.cells #[.slice B0 yi.length d0, .slice B1 ya.length d1, .slice B2 ye.length d2] 51)).alloc (.cells #[.slice none 0 0, .slice none 0 0, .slice none 0 0] 51) := ⟨_, rfl⟩
  have hrows := three_boxes w 51 51 51 #[.slice A0 xi.length c0, .slice A1 xa.length c1, .slice A2 xe.length c2] #[.slice B0 yi.length d0, .slice B1 ya.length d1, .slice B2 ye.length d2] #[.slice none 0 0, .slice none 0 0, .slice none 0 0]
  rw [← hW1] at hrows
  obtain ⟨hra, hrb, hrc, hb0, _⟩ := hrows
  have HL := Lib.hid (Lay.au.later hLa hb0 hb0.size)
  have HM := Lib.hid (Lay.au.later hMb hb0 hb0.size)
  have hjt := trs_of J2
  have hit := trs_of I2
  have HI0 : Hid (∀ X, Below W1.heap.size W1 X → Ints X X.heap.size A0 p0 o0 xi) := fun X h => (I0.under hb0 hb0.size).under h h.size
  have HI1 : Hid (∀ X, Below W1.heap.size W1 X → Bools X X.heap.size A1 p1 o1 xa) := fun X h => (I1.under hb0 hb0.size).under h h.size
  have HI2 : Hid (∀ X, Below W1.heap.size W1 X → Trs X X.heap.size A2 p2 o2 xe) := fun X h => (hit.under hb0 hb0.size).under h h.size
  have HJ0 : Hid (∀ X, Below W1.heap.size W1 X → Ints X X.heap.size B0 r0 s0 yi) := fun X h => (J0.under hb0 hb0.size).under h h.size
  have HJ1 : Hid (∀ X, Below W1.heap.size W1 X → Bools X X.heap.size B1 r1 s1 ya) := fun X h => (J1.under hb0 hb0.size).under h h.size
  have HJ2 : Hid (∀ X, Below W1.heap.size W1 X → Trs X X.heap.size B2 r2 s2 ye) := fun X h => (hjt.under hb0 hb0.size).under h h.size
  have HRx : Hid (∀ e ∈ xe, TrR e) := fun e he => by
    obtain ⟨i, hi⟩ := List.getElem?_of_mem he
    exact (hit i e hi).2.2.2.2.2.2
  have HRy : Hid (∀ e ∈ ye, TrR e) := fun e he => by
    obtain ⟨i, hi⟩ := List.getElem?_of_mem he
    exact (hjt i e hi).2.2.2.2.2.2
  have HRa := Lib.hid hra
  have HRb := Lib.hid hrb
  have HRc := Lib.hid hrc
  have HB0 := Lib.hid hb0
  have HW1 := Lib.hid hW1
  have HD0 := Lib.hid hd0
  have HD1 := Lib.hid hd1
  have hltc : w.heap.size + 1 + 1 < W1.heap.size := hrc.lt
  obtain ⟨ys, hys⟩ : ∃ ys, ys = xa ++ ya := ⟨_, rfl⟩
  have HYs := Lib.hid hys
  clear hL hM hLa hMb hra hrb hrc hb0 hW1 I0 I1 I2 J0 J1 J2 q0 q1 q2 t0 t1 t2 hit hjt hd0 hd1 hys
  have HKS : Hid (∀ X, Below W1.heap.size W1 X → (fun w' => w'.cell? ⟨w.heap.size, 0, none⟩ = some (.slice A0 xi.length c0) ∧ w'.cell? ⟨w.heap.size, 1, none⟩ = some (.slice A1 xa.length c1) ∧ w'.cell? ⟨w.heap.size, 2, none⟩ = some (.slice A2 xe.length c2)) X) := fun X h => by
    obtain ⟨a0, a1, a2⟩ := (HRa.out.under h HRa.out.lt).three
    obtain ⟨_, b1, _⟩ := (HRb.out.under h HRb.out.lt).three
    exact ⟨a0, a1, a2⟩
  obtain ⟨u, hu⟩ : ∃ u, u = auOk ⟨xi, xa, xe⟩ := ⟨_, rfl⟩
  obtain ⟨v, hv⟩ : ∃ v, v = auOk ⟨yi, ya, ye⟩ := ⟨_, rfl⟩
  obtain ⟨x, hx⟩ : ∃ x, x = auOk (joinA ⟨xi, xa, xe⟩ ⟨yi, ya, ye⟩) := ⟨_, rfl⟩
  have HU := Lib.hid hu
  have HV := Lib.hid hv
  have HX := Lib.hid hx
  have HUa : Hid (uaOk ⟨xi, xa, xe⟩ ⟨yi, ya, ye⟩ = (u && (v && x))) := by show _ = _; rw [hu, hv, hx]; rfl
  clear hu hv hx
  have HNo : Hid ((u && (v && x)) = false → ∀ W, Below W1.heap.size W1 W → UaPost ⟨xi, xa, xe⟩ ⟨yi, ya, ye⟩ w (.returned (.tuple #[.agg #[.slice none 0 0, .slice none 0 0, .slice none 0 0], .bool false])) (((W.setCell ⟨w.heap.size + 1 + 1, 0, none⟩ (.slice none 0 0)).setCell ⟨w.heap.size + 1 + 1, 1, none⟩ (.slice none 0 0)).setCell ⟨w.heap.size + 1 + 1, 2, none⟩ (.slice none 0 0))) := fun h W hb => by
    have h2 : uaOk ⟨xi, xa, xe⟩ ⟨yi, ya, ye⟩ = false := HUa.out.trans h
    have hb' : Below w.heap.size w (((W.setCell ⟨w.heap.size + 1 + 1, 0, none⟩ (.slice none 0 0)).setCell ⟨w.heap.size + 1 + 1, 1, none⟩ (.slice none 0 0)).setCell ⟨w.heap.size + 1 + 1, 2, none⟩ (.slice none 0 0)) := (((HB0.out.trans (hb.mono HB0.out.size)).setCell (by simp; omega) _).setCell (by simp; omega) _).setCell (by simp; omega) _
    exact ⟨_, _, _, by rw [h2], by rw [uaOut_no h2]; exact AuR.nil_ _ _ _ hb'.size, hb'⟩
  go_enter Try.func21, Try.ntmps21
  go_wp2_with fail
  rw [← HW1.out]
  refine (specAv_any ⟨xi, xa, xe⟩ (fun j => (#[.slice A0 xi.length c0, .slice A1 xa.length c1, .slice A2 xe.length c2] : Array Value).getD j undef) W1 HL.out HD0.out).mono ?_
  rintro e' w1 ⟨rfl, hb1⟩
  rw [← HU.out]
  have HB1 : Hid (Below W1.heap.size W1 w1) := hb1
  have hz1 : W1.heap.size ≤ w1.heap.size := hb1.size
  clear hb1
  cases u
  · obtain ⟨p0, p1, p2⟩ := (HRc.out.under HB1.out HRc.out.lt).three
    have z0 := (HRc.out.under HB1.out HRc.out.lt).frozen 0
    have z1 := (HRc.out.under HB1.out HRc.out.lt).frozen 1
    have z2 := (HRc.out.under HB1.out HRc.out.lt).frozen 2
    have hq1 : w.heap.size + 1 + 1 < w1.heap.size := Nat.lt_of_lt_of_le HRc.out.lt HB1.out.size
    have HFin := Lib.hid (HNo.out (by first | rfl | (cases u <;> rfl) | (cases u <;> cases v <;> rfl)) w1 HB1.out)
    go_wp2_with fail
    refine bodyPost_ret (v := .tuple #[.agg #[.slice none 0 0, .slice none 0 0, .slice none 0 0], .bool false]) (by simp [results, Try.results21, go_sem, p0, p1, p2]) rfl ?_
    exact HFin.out
  obtain ⟨f0, f1, f2⟩ := (HRb.out.under HB1.out HRb.out.lt).three
  have hbl1 : w.heap.size + 1 < w1.heap.size := by omega
  go_wp2_with fail
  refine (specAv_any ⟨yi, ya, ye⟩ (fun j => (#[.slice B0 yi.length d0, .slice B1 ya.length d1, .slice B2 ye.length d2] : Array Value).getD j undef) w1 (Lay.au.later HM.out HB1.out HB1.out.size) HD1.out).mono ?_
  rintro e' w2 ⟨rfl, hb2⟩
  rw [← HV.out]
  have HB2 : Hid (Below W1.heap.size W1 w2) := HB1.out.trans (hb2.mono HB1.out.size)
  have hz2 : W1.heap.size ≤ w2.heap.size := HB2.out.size
  clear hb2 f0 f1 f2
  cases v
  · obtain ⟨p0, p1, p2⟩ := (HRc.out.under HB2.out HRc.out.lt).three
    have z0 := (HRc.out.under HB2.out HRc.out.lt).frozen 0
    have z1 := (HRc.out.under HB2.out HRc.out.lt).frozen 1
    have z2 := (HRc.out.under HB2.out HRc.out.lt).frozen 2
    have hq1 : w.heap.size + 1 + 1 < w2.heap.size := Nat.lt_of_lt_of_le HRc.out.lt HB2.out.size
    have HFin := Lib.hid (HNo.out (by first | rfl | (cases u <;> rfl) | (cases u <;> cases v <;> rfl)) w2 HB2.out)
    go_wp2_with fail
    refine bodyPost_ret (v := .tuple #[.agg #[.slice none 0 0, .slice none 0 0, .slice none 0 0], .bool false]) (by simp [results, Try.results21, go_sem, p0, p1, p2]) rfl ?_
    exact HFin.out
  have hOa := au_parts HU.out.symm
  have hOb := au_parts HV.out.symm
  have hia := au_ini HU.out.symm
  have hib := au_ini HV.out.symm
  have HTr : Hid (∀ e ∈ ye, 0 ≤ e.fr ∧ e.fr ≤ 64 ∧ 0 ≤ e.tt ∧ e.tt ≤ 64) := fun e he => au_tr HV.out.symm he
  have HIb : Hid (∀ z ∈ yi, 0 ≤ z ∧ z ≤ 64) := hib.2
  obtain ⟨hxa1, hxa2, hxe, _⟩ := hOa
  obtain ⟨hya1, hya2, hye, _⟩ := hOb
  have hxi := hia.1
  have hyi := hib.1
  dsimp only at hxa1 hxa2 hxe hya1 hya2 hye hxi hyi
  have HLx : Hid (xi.length ≤ 1048576 ∧ xe.length ≤ 1048576) := ⟨by omega, by omega⟩
  have HL4 : Hid (xi.length ≤ 4096 ∧ xa.length ≤ 4096 ∧ xe.length ≤ 4096) := ⟨by omega, by omega, by omega⟩
  have HYl : Hid (ys.length = xa.length + ya.length) := by show _ = _; rw [HYs.out, List.length_append]
  clear hia hib
  obtain ⟨g0, g1, g2⟩ := (HRa.out.under HB2.out HRa.out.lt).three
  have hal2 : w.heap.size < w2.heap.size := by omega
  go_upto_region 4 with fail
  clear g0 g1 g2
  go_cut [7] from 23 to 35 (fun v wx => ∃ (g : Nat) (A3 : Option Addr) (k3 gB kB : Nat) (A5 : Option Addr) (k5 : Nat), v = .pointer (some ⟨g, 0, none⟩) ∧ Hid (Uk W1.heap.size g W1 wx (.slice (some ⟨gB, 0, none⟩) xa.length kB) xi xa xe (.slice A3 xi.length k3) (.slice A5 xe.length k5)))
  case first =>
    have HB_w2 := HB2
    refine wp_region_held_drew (S := (fun w' => w'.cell? ⟨w.heap.size, 0, none⟩ = some (.slice A0 xi.length c0) ∧ w'.cell? ⟨w.heap.size, 1, none⟩ = some (.slice A1 xa.length c1) ∧ w'.cell? ⟨w.heap.size, 2, none⟩ = some (.slice A2 xe.length c2))) (by kernel_rfl) ?_ (fun hHeld => ?_)
    · exact HKS.out _ HB2.out.drew
    refine wpAnyH_take (i := 1) (oi := { dst := some 24, op := Go.Op.fieldAddr 51 (Go.Operand.tmp 2) 0, type := 0, pos := "l7_automaton.go:407", after := #[], guard := none }) (v := ?_) rfl (by kernel_rfl) (by kernel_rfl) (by kernel_rfl) (fun _ _ _ h => h) (Or.inl ⟨by rfl, ?_⟩) (by assumption) ?_
    rotate_left
    · intro w hSw
      try dsimp only at hSw
      go_simp
      all_goals (with_reducible rfl)
    try simp only [Act.put, List.setIfInBounds_toArray, List.set_cons_zero, List.set_cons_succ]
    refine wpAnyH_take (i := 2) (oi := { dst := some 25, op := Go.Op.load 22 (Go.Operand.tmp 24), type := 22, pos := "l7_automaton.go:407", after := #[{ on := 1, ground := Go.Ground.data }], guard := none }) (v := ?_) rfl (by kernel_rfl) (by kernel_rfl) (by kernel_rfl) (fun _ _ _ h => h) (Or.inl ⟨by rfl, ?_⟩) (by assumption) ?_
    rotate_left
    · intro w hSw
      try dsimp only at hSw
      go_simp
      all_goals (with_reducible rfl)
    try simp only [Act.put, List.setIfInBounds_toArray, List.set_cons_zero, List.set_cons_succ]
    refine wpAnyH_take (i := 5) (oi := { dst := some 28, op := Go.Op.fieldAddr 51 (Go.Operand.tmp 2) 1, type := 0, pos := "l7_automaton.go:407", after := #[], guard := none }) (v := ?_) rfl (by kernel_rfl) (by kernel_rfl) (by kernel_rfl) (fun _ _ _ h => h) (Or.inl ⟨by rfl, ?_⟩) (by assumption) ?_
    rotate_left
    · intro w hSw
      try dsimp only at hSw
      go_simp
      all_goals (with_reducible rfl)
    try simp only [Act.put, List.setIfInBounds_toArray, List.set_cons_zero, List.set_cons_succ]
    refine wpAnyH_take (i := 6) (oi := { dst := some 29, op := Go.Op.load 27 (Go.Operand.tmp 28), type := 27, pos := "l7_automaton.go:407", after := #[{ on := 5, ground := Go.Ground.data }], guard := none }) (v := ?_) rfl (by kernel_rfl) (by kernel_rfl) (by kernel_rfl) (fun _ _ _ h => h) (Or.inl ⟨by rfl, ?_⟩) (by assumption) ?_
    rotate_left
    · intro w hSw
      try dsimp only at hSw
      go_simp
      all_goals (with_reducible rfl)
    try simp only [Act.put, List.setIfInBounds_toArray, List.set_cons_zero, List.set_cons_succ]
    refine wpAnyH_take (i := 9) (oi := { dst := some 32, op := Go.Op.fieldAddr 51 (Go.Operand.tmp 2) 2, type := 0, pos := "l7_automaton.go:407", after := #[], guard := none }) (v := ?_) rfl (by kernel_rfl) (by kernel_rfl) (by kernel_rfl) (fun _ _ _ h => h) (Or.inl ⟨by rfl, ?_⟩) (by assumption) ?_
    rotate_left
    · intro w hSw
      try dsimp only at hSw
      go_simp
      all_goals (with_reducible rfl)
    try simp only [Act.put, List.setIfInBounds_toArray, List.set_cons_zero, List.set_cons_succ]
    refine wpAnyH_take (i := 10) (oi := { dst := some 33, op := Go.Op.load 49 (Go.Operand.tmp 32), type := 49, pos := "l7_automaton.go:407", after := #[{ on := 9, ground := Go.Ground.data }], guard := none }) (v := ?_) rfl (by kernel_rfl) (by kernel_rfl) (by kernel_rfl) (fun _ _ _ h => h) (Or.inl ⟨by rfl, ?_⟩) (by assumption) ?_
    rotate_left
    · intro w hSw
      try dsimp only at hSw
      go_simp
      all_goals (with_reducible rfl)
    try simp only [Act.put, List.setIfInBounds_toArray, List.set_cons_zero, List.set_cons_succ]
    refine (spec4_any xi xa xe A0 c0 p0 o0 A1 c1 p1 o1 A2 c2 p2 o2 w.heap.size W1 _ HI0 HI1 HI2 HL4 HKS (Lib.hid fun _ _ _ _ _ h => h) (Lib.hid fun u23 u24 u25 u26 u27 u28 u29 u30 u31 u32 u33 u34 u35 g g3 k3 g7 k7 g11 k11 X hU => ?_)) _ (by kernel_rfl) _ _ _ _ _ _ _ _ _ _ _ _ HB2.out.drew
    go_wp2_with fail
    go_meet
    exact ⟨g, _, _, _, _, _, _, rfl, Lib.hid hU⟩
  case rest =>
  obtain ⟨g, A3, k3, gB, kB, A5, k5, rfl, HK⟩ := hcut
  have HKr : Hid (∀ X, Below W1.heap.size W1 X → X.cell? ⟨w.heap.size + 1, 0, none⟩ = some (.slice B0 yi.length d0) ∧ X.cell? ⟨w.heap.size + 1, 2, none⟩ = some (.slice B2 ye.length d2) ∧ w.heap.size + 1 < X.heap.size ∧ X.cell? ⟨w.heap.size + 1, 1, none⟩ = some (.slice B1 ya.length d1)) := fun X h => by
    have hr := HRb.out.under h HRb.out.lt
    obtain ⟨b0, b1, b2⟩ := hr.three
    exact ⟨b0, b2, hr.lt, b1⟩
  obtain ⟨f0, _, f3, _⟩ := HKr.out wc HK.out.frame
  go_wp2_with fail
  go_loopw [8] (fun i wl => ∃ (j : Nat) (zs : List Int) (A : Option Addr) (k : Nat), j ≤ yi.length ∧ i = .int .i64 j ∧ Hid (zs = xi ++ (yi.take j).map (fun z => z + (xa.length : Int))) ∧ Hid (Uk W1.heap.size g W1 wl (.slice (some ⟨gB, 0, none⟩) xa.length kB) zs xa xe (.slice A zs.length k) (.slice A5 xe.length k5))) (fun i _ => yi.length - (intOf i).toNat)
  case atStart => exact ⟨0, xi, A3, k3, Nat.zero_le _, rfl, (show xi = xi ++ (yi.take 0).map (fun z => z + (xa.length : Int)) by simp), HK⟩
  case round =>
    clear HK f0 f3
    obtain ⟨j, zs, A, k, hj, rfl, HZs, HK⟩ := hrel
    rename World => wo
    have hzw : W1.heap.size ≤ wo.heap.size := HK.out.frame.size
    have hbx := HK.out.box.cell 0
    obtain ⟨f0, _, f3, _⟩ := HKr.out wo HK.out.frame
    have hgl := HK.out.box.lt
    have HZl : Hid (zs.length = xi.length + j) := by show _ = _; rw [HZs.out]; simp; omega
    have hzl : zs.length ≤ 4096 := by have := HZl.out; omega
    by_cases hlt : j < yi.length
    · obtain ⟨z, hz⟩ : ∃ z, yi[j]? = some z := ⟨_, List.getElem?_eq_getElem hlt⟩
      have hzr := HIb.out z (List.mem_of_getElem? hz)
      obtain ⟨hz0, hz64⟩ := hzr
      have HZn : Hid (zs ++ [z + (xa.length : Int)] = xi ++ (yi.take (j + 1)).map (fun z => z + (xa.length : Int))) := by
        show _ = _
        rw [HZs.out, List.take_add_one, hz, List.map_append, List.append_assoc]
        rfl
      obtain ⟨rfl, hba, h0⟩ := HJ0.out wo HK.out.frame j z hz
      have ew : IntKind.i64.wrap (z + (xa.length : Int)) = z + (xa.length : Int) := IntWalk.i64_in _ (by omega)
      obtain ⟨X1, hX1⟩ : ∃ X1, X1 = (wo.alloc (.cells #[.int .i64 (z + (xa.length : Int))] 3)).drew := ⟨_, rfl⟩
      have hb1 : Below wo.heap.size wo X1 := by rw [hX1]; exact ((Below.refl _ _).alloc (Nat.le_refl _) _).drew
      have hrw : Row X1 wo.heap.size 3 #[.int .i64 (z + (xa.length : Int))] := by rw [hX1]; exact Row.new _ _ _
      have hk1 := HK.out.below hb1 hzw
      have hz1' := hb1.size
      obtain ⟨g2, cp2, w3, hap, hown, hgr⟩ := run_appendV X1 22 W1.heap.size (.slice A zs.length k) zs (z + (xa.length : Int)) wo.heap.size hk1.oi hrw (by omega) (by omega)
      obtain ⟨e0, e1, e2, hk3⟩ := hk1.stepI (by omega) hown hgr
      have hf3 : Below W1.heap.size W1 w3 := hk1.frame.grown hgr (by omega) (fun q hq => (hk1.oi.row hq).1)
      have HS : Hid (∀ X, Below W1.heap.size W1 X → X.cell? ⟨w.heap.size + 1, 0, none⟩ = some (.slice (some ⟨r0, s0, none⟩) yi.length d0) ∧ X.cell? ⟨r0, s0 + j, none⟩ = some (.int .i64 z)) := fun X h => by
        obtain ⟨a0, _⟩ := HKr.out X h
        obtain ⟨_, _, a1⟩ := HJ0.out X h j z hz
        exact ⟨a0, a1⟩
      have HS0 : Hid (wo.cell? ⟨g, 0, none⟩ = some (.slice A zs.length k) ∧ wo.cell? ⟨w.heap.size + 1, 0, none⟩ = some (.slice (some ⟨r0, s0, none⟩) yi.length d0) ∧ wo.cell? ⟨r0, s0 + j, none⟩ = some (.int .i64 z)) := ⟨HK.out.box.cell 0, HS.out wo HK.out.frame⟩
      have HS1 : Hid (X1.cell? ⟨g, 0, none⟩ = some (.slice A zs.length k) ∧ X1.cell? ⟨w.heap.size + 1, 0, none⟩ = some (.slice (some ⟨r0, s0, none⟩) yi.length d0) ∧ X1.cell? ⟨r0, s0 + j, none⟩ = some (.int .i64 z)) := ⟨hk1.box.cell 0, HS.out X1 hk1.frame⟩
      have HS3 : Hid (w3.cell? ⟨g, 0, none⟩ = some (.slice A zs.length k) ∧ w3.cell? ⟨w.heap.size + 1, 0, none⟩ = some (.slice (some ⟨r0, s0, none⟩) yi.length d0) ∧ w3.cell? ⟨r0, s0 + j, none⟩ = some (.int .i64 z)) := ⟨e0, HS.out w3 hf3⟩
      have HK3 : Hid (Uk W1.heap.size g W1 (w3.setCell ⟨g, 0, none⟩ (.slice (some ⟨g2, 0, none⟩) (zs.length + 1) cp2)) (.slice (some ⟨gB, 0, none⟩) xa.length kB) (zs ++ [z + (xa.length : Int)]) xa xe (.slice (some ⟨g2, 0, none⟩) (zs ++ [z + (xa.length : Int)]).length cp2) (.slice A5 xe.length k5)) := by
        rw [show (zs ++ [z + (xa.length : Int)]).length = zs.length + 1 by simp]
        exact hk3
      have HAp := Lib.hid hap
      have HX1 := Lib.hid hX1
      have hgl3 : g < w3.heap.size := e2
      clear hz hX1 hb1 hrw hk1 hap hown hgr hk3 HK HZs HZl hf3 HS
      go_upto_region 8 with fail
      refine wp_region_last (S := (fun w' => w'.cell? ⟨g, 0, none⟩ = some (.slice A zs.length k) ∧ w'.cell? ⟨w.heap.size + 1, 0, none⟩ = some (.slice (some ⟨r0, s0, none⟩) yi.length d0) ∧ w'.cell? ⟨r0, s0 + j, none⟩ = some (.int .i64 z))) 12 (by kernel_rfl) (by kernel_rfl) ?_ (fun hHeld => ?_)
      · exact HS0.out
      refine wpAnyH_take (i := 0) (oi := { dst := some 43, op := Go.Op.fieldAddr 51 (Go.Operand.tmp 7) 0, type := 0, pos := "l7_automaton.go:409", after := #[], guard := none }) (v := ?_) rfl (by kernel_rfl) (by kernel_rfl) (by kernel_rfl) (fun _ _ _ h => h) (Or.inl ⟨by rfl, ?_⟩) (by assumption) ?_
      rotate_left
      · intro w hSw
        try dsimp only at hSw
        go_simp
        all_goals (with_reducible rfl)
      try simp only [Act.put, List.setIfInBounds_toArray, List.set_cons_zero, List.set_cons_succ]
      refine wpAnyH_take (i := 1) (oi := { dst := some 44, op := Go.Op.load 22 (Go.Operand.tmp 43), type := 22, pos := "l7_automaton.go:409", after := #[{ on := 0, ground := Go.Ground.data }], guard := none }) (v := ?_) rfl (by kernel_rfl) (by kernel_rfl) (by kernel_rfl) (fun _ _ _ h => h) (Or.inl ⟨by rfl, ?_⟩) (by assumption) ?_
      rotate_left
      · intro w hSw
        try dsimp only at hSw
        go_simp
        all_goals (with_reducible rfl)
      try simp only [Act.put, List.setIfInBounds_toArray, List.set_cons_zero, List.set_cons_succ]
      refine wpAnyH_take (i := 2) (oi := { dst := some 45, op := Go.Op.fieldAddr 51 (Go.Operand.tmp 3) 0, type := 0, pos := "l7_automaton.go:409", after := #[], guard := none }) (v := ?_) rfl (by kernel_rfl) (by kernel_rfl) (by kernel_rfl) (fun _ _ _ h => h) (Or.inl ⟨by rfl, ?_⟩) (by assumption) ?_
      rotate_left
      · intro w hSw
        try dsimp only at hSw
        go_simp
        all_goals (with_reducible rfl)
      try simp only [Act.put, List.setIfInBounds_toArray, List.set_cons_zero, List.set_cons_succ]
      refine wpAnyH_take (i := 3) (oi := { dst := some 46, op := Go.Op.load 22 (Go.Operand.tmp 45), type := 22, pos := "l7_automaton.go:409", after := #[{ on := 2, ground := Go.Ground.data }], guard := none }) (v := ?_) rfl (by kernel_rfl) (by kernel_rfl) (by kernel_rfl) (fun _ _ _ h => h) (Or.inl ⟨by rfl, ?_⟩) (by assumption) ?_
      rotate_left
      · intro w hSw
        try dsimp only at hSw
        go_simp
        all_goals (with_reducible rfl)
      try simp only [Act.put, List.setIfInBounds_toArray, List.set_cons_zero, List.set_cons_succ]
      refine wpAnyH_take (i := 4) (oi := { dst := some 47, op := Go.Op.move (Go.Operand.tmp 8), type := 3, pos := "l7_automaton.go:409", after := #[], guard := none }) (v := ?_) rfl (by kernel_rfl) (by kernel_rfl) (by kernel_rfl) (fun _ _ _ h => h) (Or.inl ⟨by rfl, ?_⟩) (by assumption) ?_
      rotate_left
      · intro w hSw
        try dsimp only at hSw
        go_simp
        all_goals (with_reducible rfl)
      try simp only [Act.put, List.setIfInBounds_toArray, List.set_cons_zero, List.set_cons_succ]
      refine wpAnyH_take (i := 5) (oi := { dst := some 48, op := Go.Op.indexAddr 22 (Go.Operand.tmp 46) (Go.Operand.tmp 47), type := 0, pos := "l7_automaton.go:409", after := #[{ on := 3, ground := Go.Ground.data }, { on := 4, ground := Go.Ground.data }], guard := none }) (v := ?_) rfl (by kernel_rfl) (by kernel_rfl) (by kernel_rfl) (fun _ _ _ h => h) (Or.inl ⟨by rfl, ?_⟩) (by assumption) ?_
      rotate_left
      · intro w hSw
        try dsimp only at hSw
        go_simp
        all_goals (with_reducible rfl)
      try simp only [Act.put, List.setIfInBounds_toArray, List.set_cons_zero, List.set_cons_succ]
      refine wpAnyH_take (i := 6) (oi := { dst := some 49, op := Go.Op.load 3 (Go.Operand.tmp 48), type := 3, pos := "l7_automaton.go:409", after := #[{ on := 5, ground := Go.Ground.data }], guard := none }) (v := ?_) rfl (by kernel_rfl) (by kernel_rfl) (by kernel_rfl) (fun _ _ _ h => h) (Or.inl ⟨by rfl, ?_⟩) (by assumption) ?_
      rotate_left
      · intro w hSw
        try dsimp only at hSw
        go_simp
        all_goals (with_reducible rfl)
      try simp only [Act.put, List.setIfInBounds_toArray, List.set_cons_zero, List.set_cons_succ]
      refine wpAnyH_take (i := 7) (oi := { dst := some 50, op := Go.Op.move (Go.Operand.tmp 6), type := 3, pos := "l7_automaton.go:409", after := #[], guard := none }) (v := ?_) rfl (by kernel_rfl) (by kernel_rfl) (by kernel_rfl) (fun _ _ _ h => h) (Or.inl ⟨by rfl, ?_⟩) (by assumption) ?_
      rotate_left
      · intro w hSw
        try dsimp only at hSw
        go_simp
        all_goals (with_reducible rfl)
      try simp only [Act.put, List.setIfInBounds_toArray, List.set_cons_zero, List.set_cons_succ]
      refine wpAnyH_take (i := 8) (oi := { dst := some 51, op := Go.Op.binOp Go.BinOp.add 3 (Go.Operand.tmp 49) (Go.Operand.tmp 50) 3, type := 3, pos := "l7_automaton.go:409", after := #[{ on := 6, ground := Go.Ground.data }, { on := 7, ground := Go.Ground.data }], guard := none }) (v := ?_) rfl (by kernel_rfl) (by kernel_rfl) (by kernel_rfl) (fun _ _ _ h => h) (Or.inl ⟨by rfl, ?_⟩) (by assumption) ?_
      rotate_left
      · intro w hSw
        try dsimp only at hSw
        go_simp
        all_goals (with_reducible rfl)
      try simp only [Act.put, List.setIfInBounds_toArray, List.set_cons_zero, List.set_cons_succ]
      refine wpAnyH_ready (rs := [9]) (by kernel_rfl) (by simp) (AllReadyH.cons (o := { dst := some 52, op := Go.Op.buildSlice 22 1 #[(0, Go.Operand.tmp 51)], type := 22, pos := "l7_automaton.go:409", after := #[{ on := 8, ground := Go.Ground.data }], guard := none }) rfl (fun K hK => ?_) AllReadyH.nil)
      go_simp
      try rw [ew]
      rw [← HX1.out]
      refine hK.out _ _ ?_ (fun hHeld => ?_)
      · (first | with_reducible exact HS1.out | with_reducible exact HS3.out)
      clear hK K
      try simp only [Act.put, List.setIfInBounds_toArray, List.set_cons_zero, List.set_cons_succ]
      refine wpAnyH_ready (rs := [10]) (by kernel_rfl) (by simp) (AllReadyH.cons (o := { dst := some 53, op := Go.Op.call { callee := Go.Callee.builtin Go.Builtin.append, args := #[Go.Operand.tmp 44, Go.Operand.tmp 52], argTypes := #[22, 22] }, type := 22, pos := "l7_automaton.go:409", after := #[{ on := 1, ground := Go.Ground.data }, { on := 9, ground := Go.Ground.data }], guard := none }) rfl (fun K hK => ?_) AllReadyH.nil)
      with_reducible refine step_append_eq ?_ (.tmp 44) (.tmp 52) 22 ?_ ?_ ?_ HAp.out ?_
      · rfl
      · rfl
      · rfl
      · rfl
      refine hK.out _ _ ?_ (fun hHeld => ?_)
      · (first | with_reducible exact HS1.out | with_reducible exact HS3.out)
      clear hK K
      try simp only [Act.put, List.setIfInBounds_toArray, List.set_cons_zero, List.set_cons_succ]
      refine wpAnyH_take (i := 11) (oi := { dst := some 54, op := Go.Op.fieldAddr 51 (Go.Operand.tmp 7) 0, type := 0, pos := "l7_automaton.go:409", after := #[{ on := 0, ground := Go.Ground.phase }, { on := 1, ground := Go.Ground.phase }, { on := 2, ground := Go.Ground.phase }, { on := 3, ground := Go.Ground.phase }, { on := 4, ground := Go.Ground.phase }, { on := 5, ground := Go.Ground.phase }, { on := 6, ground := Go.Ground.phase }, { on := 7, ground := Go.Ground.phase }, { on := 8, ground := Go.Ground.phase }, { on := 9, ground := Go.Ground.phase }, { on := 10, ground := Go.Ground.phase }], guard := none }) (v := ?_) rfl (by kernel_rfl) (by kernel_rfl) (by kernel_rfl) (fun _ _ _ h => h) (Or.inl ⟨by rfl, ?_⟩) (by assumption) ?_
      rotate_left
      · intro w hSw
        try dsimp only at hSw
        go_simp
        all_goals (with_reducible rfl)
      try simp only [Act.put, List.setIfInBounds_toArray, List.set_cons_zero, List.set_cons_succ]
      refine ⟨by kernel_rfl, ?_⟩
      refine then_last (o := { dst := none, op := Go.Op.store 22 (Go.Operand.tmp 54) (Go.Operand.tmp 53), type := 0, pos := "l7_automaton.go:409", after := #[{ on := 11, ground := Go.Ground.data }, { on := 10, ground := Go.Ground.data }, { on := 10, ground := Go.Ground.chain }, { on := 0, ground := Go.Ground.phase }, { on := 1, ground := Go.Ground.phase }, { on := 2, ground := Go.Ground.phase }, { on := 3, ground := Go.Ground.phase }, { on := 4, ground := Go.Ground.phase }, { on := 5, ground := Go.Ground.phase }, { on := 6, ground := Go.Ground.phase }, { on := 7, ground := Go.Ground.phase }, { on := 8, ground := Go.Ground.phase }, { on := 9, ground := Go.Ground.phase }, { on := 10, ground := Go.Ground.phase }], guard := none }) rfl (fun K hK => ?_)
      go_simp
      refine hK.out _ _ ?_
      clear hK K
      go_wp2_with fail
      go_roundw
      case rel => exact ⟨j + 1, zs ++ [z + (xa.length : Int)], _, _, by omega, by go_num, HZn, HK3⟩
      case measure => simp [intOf]; omega
    · have hjj : j = yi.length := by omega
      subst hjj
      have HZf : Hid (zs = xi ++ yi.map (fun z => z + (xa.length : Int))) := by show _ = _; rw [HZs.out, List.take_length]
      obtain ⟨_, f2, f3, f4⟩ := HKr.out wo HK.out.frame
      clear hbx HZs
      have hob : Lb.OwnI wo W1.heap.size gB xa kB := by
        obtain ⟨q, k9, h1, h2⟩ := HK.out.ob
        injection h1 with h1 _ h3
        injection h1 with h1
        injection h1 with h1
        rw [h1, h3]
        exact h2
      have hxl := HLx.out
      obtain ⟨gC, kC, w5, hapB, hownB, hgrB, _⟩ := Lb.run_ints wo 27 W1.heap.size gB kB xa ya hob B1 r1 s1 d1 (HJ1.out wo HK.out.frame) (by omega) hzw
      rw [← HYs.out] at hapB hownB
      obtain ⟨e0, e1, e2, hk6⟩ := HK.out.stepB hzw hownB ⟨kB, rfl⟩ hgrB
      have hbx1 := HK.out.box.cell 1
      have HK6 := Lib.hid hk6
      have HApB := Lib.hid hapB
      clear hob hapB hownB hgrB hk6
      go_wp2_with (at_builtin; refine wpList_append_eq rfl (.tmp 56) (.tmp 58) 27 rfl rfl rfl HApB.out ?_)
      obtain ⟨_, f5, f6, _⟩ := HKr.out _ HK6.out.frame
      clear hbx1
      go_wp2_with fail
      go_loopw [9] (fun i wl => ∃ (q : Nat) (es : List Tr) (A' : Option Addr) (k' : Nat), q ≤ ye.length ∧ i = .int .i64 q ∧ Hid (es = xe ++ (ye.take q).map (shT xa.length)) ∧ Hid (Uk W1.heap.size g W1 wl (.slice (some ⟨gC, 0, none⟩) ys.length kC) zs ys es (.slice A zs.length k) (.slice A' es.length k'))) (fun i _ => ye.length - (intOf i).toNat)
      case atStart => exact ⟨0, xe, A5, k5, Nat.zero_le _, rfl, (show xe = xe ++ (ye.take 0).map (shT xa.length) by simp), HK6⟩
      case round =>
        clear HK f2 f3 f4 hgl hzw hlt hj HK6
        obtain ⟨q, es, A', k', hq, rfl, HEs, HK⟩ := hrel
        have hzw : W1.heap.size ≤ wr.heap.size := HK.out.frame.size
        have hbx := HK.out.box.cell 2
        obtain ⟨_, f2, f3, _⟩ := HKr.out wr HK.out.frame
        have hgl := HK.out.box.lt
        have HEl : Hid (es.length = xe.length + q) := by show _ = _; rw [HEs.out]; simp; omega
        have hel : es.length ≤ 8192 := by have := HEl.out; omega
        by_cases hlt : q < ye.length
        · obtain ⟨y, hy⟩ : ∃ y, ye[q]? = some y := ⟨_, List.getElem?_eq_getElem hlt⟩
          have hyr := HTr.out y (List.mem_of_getElem? hy)
          have HEn : Hid (es ++ [shT xa.length y] = xe ++ (ye.take (q + 1)).map (shT xa.length)) := by
            show _ = _
            rw [HEs.out, List.take_add_one, hy, List.map_append, List.append_assoc]
            rfl
          obtain ⟨rfl, hba, h0, h1, h2, h3, _⟩ := HJ2.out wr HK.out.frame q y hy
          obtain ⟨fr, ca, va, tt⟩ := y
          dsimp only at hyr h0 h1 h2 h3
          obtain ⟨hf0, hf1, ht0, ht1⟩ := hyr
          obtain ⟨X1, hX1⟩ : ∃ X1, X1 = (wr.alloc (.cells #[.int .i64 fr, .int .i64 ca, .int .i64 va, .int .i64 tt] 116)).alloc (.cells #[.int .i64 (fr + (xa.length : Int)), .int .i64 ca, .int .i64 va, .int .i64 (tt + (xa.length : Int))] 116) := ⟨_, rfl⟩
          have hb1 : Below wr.heap.size wr X1 := by rw [hX1]; exact ((Below.refl _ _).alloc (Nat.le_refl _) _).alloc (by simp) _
          have hrw : Row X1 (wr.heap.size + 1) 116 #[.int .i64 (fr + (xa.length : Int)), .int .i64 ca, .int .i64 va, .int .i64 (tt + (xa.length : Int))] := by
            rw [hX1]
            have h := Row.new (wr.alloc (.cells #[.int .i64 fr, .int .i64 ca, .int .i64 va, .int .i64 tt] 116)) 116 #[.int .i64 (fr + (xa.length : Int)), .int .i64 ca, .int .i64 va, .int .i64 (tt + (xa.length : Int))]
            rw [show (wr.alloc (.cells #[.int .i64 fr, .int .i64 ca, .int .i64 va, .int .i64 tt] 116)).heap.size = wr.heap.size + 1 by simp] at h
            exact h
          have hk1 := HK.out.below hb1 hzw
          have hz1' := hb1.size
          obtain ⟨g2, cp2, w3, hap, hown, hgr⟩ := run_appendE X1 49 W1.heap.size (.slice A' es.length k') es (shT xa.length ⟨fr, ca, va, tt⟩) (wr.heap.size + 1) hk1.ot hrw (by omega) (by omega)
          obtain ⟨e0, e1, e2, hk3⟩ := hk1.stepT (by omega) hown hgr
          have HK3 : Hid (Uk W1.heap.size g W1 (w3.setCell ⟨g, 2, none⟩ (.slice (some ⟨g2, 0, none⟩) (es.length + 1) cp2)) (.slice (some ⟨gC, 0, none⟩) ys.length kC) zs ys (es ++ [shT xa.length ⟨fr, ca, va, tt⟩]) (.slice A zs.length k) (.slice (some ⟨g2, 0, none⟩) (es ++ [shT xa.length ⟨fr, ca, va, tt⟩]).length cp2)) := by
            rw [show (es ++ [shT xa.length ⟨fr, ca, va, tt⟩]).length = es.length + 1 by simp]
            exact hk3
          have HAp := Lib.hid hap
          have HX1 := Lib.hid hX1
          clear hy hX1 hb1 hrw hk1 hap hown hgr hk3 HK HEs HEl
          go_wp2_with (at_builtin; rw [← HX1.out]; refine wpList_append_eq rfl (.tmp 74) (.tmp 88) 49 rfl rfl rfl HAp.out ?_)
          go_wp2_with fail
          go_roundw
          case rel => exact ⟨q + 1, es ++ [shT xa.length ⟨fr, ca, va, tt⟩], _, _, by omega, by go_num, HEn, HK3⟩
          case measure => simp [intOf]; omega
        · have hqq : q = ye.length := by omega
          subst hqq
          have HJo : Hid (joinA ⟨xi, xa, xe⟩ ⟨yi, ya, ye⟩ = ⟨zs, ys, es⟩) := by
            show _ = _
            rw [HZf.out, HYs.out, HEs.out, List.take_length]
            rfl
          have hyl : ys.length ≤ 128 := by have := HYl.out; omega
          have hbs := HK.out.box
          obtain ⟨b0, b1, b2⟩ := hbs.three
          have HAu : Hid (AuR wr W1.heap.size wr.heap.size zs ys es (.slice A zs.length k) (.slice (some ⟨gC, 0, none⟩) ys.length kC) (.slice A' es.length k')) := HK.out.aur (by omega) (by omega)
          have HRg : Hid (∀ e ∈ es, TrR e) := by
            have h := ua_rg (a := ⟨xi, xa, xe⟩) (b := ⟨yi, ya, ye⟩) HRx.out HRy.out hxa2 HTr.out
            rw [HJo.out] at h
            exact h
          have HLi := Lib.hid (HAu.out.lies (Nat.le_refl _) HRg.out (by omega))
          have HSz : Hid (Lay.au.sz ⟨zs, ys, es⟩ ≤ 1048576) := by show _ ≤ _; rw [au_sz]; dsimp only; omega
          have HXj : Hid (x = auOk ⟨zs, ys, es⟩) := by show _ = _; rw [← HJo.out]; exact HX.out
          clear hbx hbs
          go_wp2_with fail
          refine (specAv_any ⟨zs, ys, es⟩ (fun j => (#[.slice A zs.length k, (.slice (some ⟨gC, 0, none⟩) ys.length kC), .slice A' es.length k'] : Array Value).getD j undef) wr HLi.out HSz.out).mono ?_
          rintro e' w4 ⟨rfl, hb4⟩
          rw [← HXj.out]
          have HB4 : Hid (Below W1.heap.size W1 w4) := HK.out.frame.trans (hb4.mono hzw)
          have HK4 := Lib.hid (HK.out.below hb4 hzw)
          have hz4 : W1.heap.size ≤ w4.heap.size := HB4.out.size
          clear hb4 b0 b1 b2
          cases x
          · obtain ⟨p0, p1, p2⟩ := (HRc.out.under HB4.out HRc.out.lt).three
            have z0 := (HRc.out.under HB4.out HRc.out.lt).frozen 0
            have z1 := (HRc.out.under HB4.out HRc.out.lt).frozen 1
            have z2 := (HRc.out.under HB4.out HRc.out.lt).frozen 2
            have hq1 : w.heap.size + 1 + 1 < w4.heap.size := Nat.lt_of_lt_of_le HRc.out.lt HB4.out.size
            have HFin := Lib.hid (HNo.out (by first | rfl | (cases u <;> rfl) | (cases u <;> cases v <;> rfl)) w4 HB4.out)
            go_wp2_with fail
            refine bodyPost_ret (v := .tuple #[.agg #[.slice none 0 0, .slice none 0 0, .slice none 0 0], .bool false]) (by simp [results, Try.results21, go_sem, p0, p1, p2]) rfl ?_
            exact HFin.out
          · obtain ⟨b0, b1, b2⟩ := HK4.out.box.three
            have hgl4 := HK4.out.box.lt
            have HFin : Hid (UaPost ⟨xi, xa, xe⟩ ⟨yi, ya, ye⟩ w (.returned (.tuple #[.agg #[.slice A zs.length k, (.slice (some ⟨gC, 0, none⟩) ys.length kC), .slice A' es.length k'], .bool true])) (((w4.setCell ⟨w.heap.size + 1 + 1, 0, none⟩ (.slice A zs.length k)).setCell ⟨w.heap.size + 1 + 1, 1, none⟩ (.slice (some ⟨gC, 0, none⟩) ys.length kC)).setCell ⟨w.heap.size + 1 + 1, 2, none⟩ (.slice A' es.length k'))) := by
              have h2 : uaOk ⟨xi, xa, xe⟩ ⟨yi, ya, ye⟩ = true := HUa.out
              have hb' : Below w.heap.size w (((w4.setCell ⟨w.heap.size + 1 + 1, 0, none⟩ (.slice A zs.length k)).setCell ⟨w.heap.size + 1 + 1, 1, none⟩ (.slice (some ⟨gC, 0, none⟩) ys.length kC)).setCell ⟨w.heap.size + 1 + 1, 2, none⟩ (.slice A' es.length k')) := (((HB0.out.trans (HB4.out.mono HB0.out.size)).setCell (by simp; omega) _).setCell (by simp; omega) _).setCell (by simp; omega) _
              refine ⟨_, _, _, by rw [h2], ?_, hb'⟩
              rw [uaOut_yes h2, HJo.out]
              have h3 := HK4.out.aur (by omega) (by omega)
              refine (h3.keep fun p k1 k2 => ?_).more (by omega) (by simp)
              rw [Below.heap_setCell _ _ _ _ (by show ¬ _ = _; simp; omega), Below.heap_setCell _ _ _ _ (by show ¬ _ = _; simp; omega), Below.heap_setCell _ _ _ _ (by show ¬ _ = _; simp; omega)]
            obtain ⟨p0, p1, p2⟩ := (HRc.out.under HB4.out HRc.out.lt).three
            have z0 := (HRc.out.under HB4.out HRc.out.lt).frozen 0
            have z1 := (HRc.out.under HB4.out HRc.out.lt).frozen 1
            have z2 := (HRc.out.under HB4.out HRc.out.lt).frozen 2
            have hq1 : w.heap.size + 1 + 1 < w4.heap.size := Nat.lt_of_lt_of_le HRc.out.lt HB4.out.size
            go_wp2_with fail
            refine bodyPost_ret (v := .tuple #[.agg #[.slice A zs.length k, (.slice (some ⟨gC, 0, none⟩) ys.length kC), .slice A' es.length k'], .bool true]) (by simp [results, Try.results21, go_sem, p0, p1, p2]) rfl ?_
            exact HFin.out

end Go.Proofs.Ytldnegacgjijlaa

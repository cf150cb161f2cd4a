/- The walks of slices.EqualFunc of edges and of processes, of their function values and of impl.SystemSame. -/
import Derived.Test.YtgdhmdhbpakahaaSeE
namespace Go.Proofs.Ytgdhmdhbpakahaa
open Go.RowKit

set_option maxHeartbeats 4000000 in
set_option maxRecDepth 100000 in
theorem eqfEd_any (xs ys : List Ed) (A : Option Addr) (cap g : Nat) (C : Nat → Nat → Value) (A' : Option Addr) (cap' b' off' : Nat) (D : Nat → Nat → Value) (lo hi : Nat) (w : World) (hl : xs.length ≤ maxLen)
    (hO : SOp Lay.ed w lo hi xs A g C) (hlo : lo ≤ w.heap.size) (hhi : hi ≤ w.heap.size) (hO' : Lay.ed.Opn w w.heap.size ys A' b' off' D) (hsz : ∀ x, x ∈ xs → Lay.ed.sz x ≤ 1048576) :
    Calls Try.prog 23 #[.slice A xs.length cap, .slice A' ys.length cap', .func (.func 24) #[] #[]] w fun e' w' => e' = .returned (.bool (edsSame xs ys)) ∧ Below w.heap.size w w' := by
  unfold maxLen at hl
  have HO := Lib.hid hO
  have HO' := Lib.hid hO'
  clear hO hO'
  by_cases hlen : xs.length = ys.length
  case neg =>
    have hlenI : ¬ ((xs.length : Int) = (ys.length : Int)) := by omega
    have HN : Hid (edsSame xs ys = false) := by show _ = _; unfold edsSame; rw [decide_eq_false hlen]; rfl
    go_enter Try.func23, Try.ntmps23
    go_wp2_with fail
    go_ret
    exact ⟨ret_bool HN.out.symm, Below.refl _ _⟩
  have hlenI : (xs.length : Int) = (ys.length : Int) := by omega
  have HAll : Hid (edsSame xs ys = (xs.zip ys).all fun q => edSame q.1 q.2) := by show _ = _; unfold edsSame; rw [decide_eq_true hlen, Bool.true_and]
  obtain ⟨vv, hvv⟩ : ∃ v, v = edsSame xs ys := ⟨_, rfl⟩
  rw [← hvv] at HAll ⊢
  have HLn := Lib.hid hlen
  have HSa := Lib.hid hsz
  have HLo : Hid (lo ≤ w.heap.size ∧ hi ≤ w.heap.size) := ⟨hlo, hhi⟩
  clear hsz hlo hhi hvv
  clear hlen
  go_enter Try.func23, Try.ntmps23
  go_wp2_with fail
  go_loopw [17] (fun i wl => ∃ j : Nat, j ≤ xs.length ∧ i = .int .i64 j ∧ Hid (((xs.zip ys).take j).all (fun q => edSame q.1 q.2) = true) ∧ Hid (Below w.heap.size w wl)) (fun i _ => xs.length - (intOf i).toNat)
  case atStart => exact ⟨0, Nat.zero_le _, rfl, rfl, Below.refl _ _⟩
  case round =>
    obtain ⟨j, hj, rfl, HT, HB⟩ := hrel
    by_cases hlt : j < xs.length
    · obtain ⟨x, hx⟩ : ∃ x, xs[j]? = some x := ⟨_, List.getElem?_eq_getElem hlt⟩
      have hlp : j < ys.length := by have := HLn.out; omega
      obtain ⟨y, hy⟩ : ∃ y, ys[j]? = some y := ⟨_, List.getElem?_eq_getElem hlp⟩
      obtain ⟨rfl, hb, gc0, gl⟩ := (HO.out.below HB.out HLo.out.2) j x hx
      have gc : ∀ q, q < 10 → wr.cell? ⟨g, j * 10 + q, none⟩ = some (C j q) := gc0
      obtain ⟨rfl, hb', fc, fl⟩ := HO'.out.below HB.out j y hy
      have c0 : wr.cell? ⟨g, j * 10, none⟩ = some (C j 0) := gc 0 (by decide)
      have d0 : wr.cell? ⟨b', off' + j * 10, none⟩ = some (D j 0) := fc 0 (by decide)
      have c1 : wr.cell? ⟨g, j * 10 + 1, none⟩ = some (C j 1) := gc 1 (by decide)
      have d1 : wr.cell? ⟨b', off' + j * 10 + 1, none⟩ = some (D j 1) := fc 1 (by decide)
      have c2 : wr.cell? ⟨g, j * 10 + 2, none⟩ = some (C j 2) := gc 2 (by decide)
      have d2 : wr.cell? ⟨b', off' + j * 10 + 2, none⟩ = some (D j 2) := fc 2 (by decide)
      have c3 : wr.cell? ⟨g, j * 10 + 3, none⟩ = some (C j 3) := gc 3 (by decide)
      have d3 : wr.cell? ⟨b', off' + j * 10 + 3, none⟩ = some (D j 3) := fc 3 (by decide)
      have c4 : wr.cell? ⟨g, j * 10 + 4, none⟩ = some (C j 4) := gc 4 (by decide)
      have d4 : wr.cell? ⟨b', off' + j * 10 + 4, none⟩ = some (D j 4) := fc 4 (by decide)
      have c5 : wr.cell? ⟨g, j * 10 + 5, none⟩ = some (C j 5) := gc 5 (by decide)
      have d5 : wr.cell? ⟨b', off' + j * 10 + 5, none⟩ = some (D j 5) := fc 5 (by decide)
      have c6 : wr.cell? ⟨g, j * 10 + 6, none⟩ = some (C j 6) := gc 6 (by decide)
      have d6 : wr.cell? ⟨b', off' + j * 10 + 6, none⟩ = some (D j 6) := fc 6 (by decide)
      have c7 : wr.cell? ⟨g, j * 10 + 7, none⟩ = some (C j 7) := gc 7 (by decide)
      have d7 : wr.cell? ⟨b', off' + j * 10 + 7, none⟩ = some (D j 7) := fc 7 (by decide)
      have c8 : wr.cell? ⟨g, j * 10 + 8, none⟩ = some (C j 8) := gc 8 (by decide)
      have d8 : wr.cell? ⟨b', off' + j * 10 + 8, none⟩ = some (D j 8) := fc 8 (by decide)
      have c9 : wr.cell? ⟨g, j * 10 + 9, none⟩ = some (C j 9) := gc 9 (by decide)
      have d9 : wr.cell? ⟨b', off' + j * 10 + 9, none⟩ = some (D j 9) := fc 9 (by decide)
      obtain ⟨W2, hW2⟩ : ∃ W2, W2 = (wr.alloc (.cells #[C j 0, C j 1, C j 2, C j 3, C j 4, C j 5, C j 6, C j 7, C j 8, C j 9] 44)).alloc (.cells #[D j 0, D j 1, D j 2, D j 3, D j 4, D j 5, D j 6, D j 7, D j 8, D j 9] 44) := ⟨_, rfl⟩
      obtain ⟨_, _, hb2⟩ := two_boxes wr 44 #[C j 0, C j 1, C j 2, C j 3, C j 4, C j 5, C j 6, C j 7, C j 8, C j 9] #[D j 0, D j 1, D j 2, D j 3, D j 4, D j 5, D j 6, D j 7, D j 8, D j 9]
      rw [← hW2] at hb2
      have HW2 := Lib.hid hW2
      have HBW : Hid (Below w.heap.size w W2) := HB.out.trans (hb2.mono HB.out.size)
      have hgs := HB.out.size
      have HG := Lib.hid (Lay.ed.sunder gl hb2 (Nat.le_trans HLo.out.2 HB.out.size))
      have HG' := Lib.hid (Lay.ed.later (Lay.ed.more fl HB.out.size) hb2 hb2.size)
      have HLw : Hid (lo ≤ W2.heap.size ∧ hi ≤ W2.heap.size) := by have := hb2.size; have := HLo.out; exact ⟨by omega, by omega⟩
      obtain ⟨x0, x1, xa, xl, xc, u0, u1, ua, ul, uc, ⟨k0, k1, k2, k3, k4, k5, k6, k7, k8, k9⟩, _⟩ := ed_lit (Lay.ed.sep_lies gl)
      obtain ⟨z0, z1, za, zl, zc, v0, v1, va, vl, vc, ⟨l0, l1, l2, l3, l4, l5, l6, l7, l8, l9⟩, _⟩ := ed_lit fl
      rw [k0, k1, k2, k3, k4, k5, k6, k7, k8, k9, l0, l1, l2, l3, l4, l5, l6, l7, l8, l9] at hW2
      rw [k0] at c0
      rw [l0] at d0
      rw [k1] at c1
      rw [l1] at d1
      rw [k2] at c2
      rw [l2] at d2
      rw [k3] at c3
      rw [l3] at d3
      rw [k4] at c4
      rw [l4] at d4
      rw [k5] at c5
      rw [l5] at d5
      rw [k6] at c6
      rw [l6] at d6
      rw [k7] at c7
      rw [l7] at d7
      rw [k8] at c8
      rw [l8] at d8
      rw [k9] at c9
      rw [l9] at d9
      have HK : Hid ((C j 0 = .int .i64 x.1 ∧ C j 1 = .int .i64 x.2 ∧ C j 2 = .int .i64 x0 ∧ C j 3 = .int .i64 x1 ∧ C j 4 = .slice xa xl xc ∧ C j 5 = .int .i64 x.4 ∧ C j 6 = .int .i64 u0 ∧ C j 7 = .int .i64 u1 ∧ C j 8 = .slice ua ul uc ∧ C j 9 = .int .i64 x.6) ∧ D j 0 = .int .i64 y.1 ∧ D j 1 = .int .i64 y.2 ∧ D j 2 = .int .i64 z0 ∧ D j 3 = .int .i64 z1 ∧ D j 4 = .slice za zl zc ∧ D j 5 = .int .i64 y.4 ∧ D j 6 = .int .i64 v0 ∧ D j 7 = .int .i64 v1 ∧ D j 8 = .slice va vl vc ∧ D j 9 = .int .i64 y.6) := ⟨⟨k0, k1, k2, k3, k4, k5, k6, k7, k8, k9⟩, l0, l1, l2, l3, l4, l5, l6, l7, l8, l9⟩
      have HW3 := Lib.hid hW2
      clear hW2 hb2 HW2 k0 l0 k1 l1 k2 l2 k3 l3 k4 l4 k5 l5 k6 l6 k7 l7 k8 l8 k9 l9
      have HZ := Lib.hid (zip_get hx hy)
      have hsx := HSa.out x (List.mem_of_getElem? hx)
      have hbs : g < wr.heap.size := by have := HLo.out.2; omega
      have hbs' : b' < wr.heap.size := Nat.lt_of_lt_of_le hb' HB.out.size
      obtain ⟨v, hv⟩ : ∃ v, v = edSame x y := ⟨_, rfl⟩
      have HV := Lib.hid hv
      have HTs := Lib.hid (alls_take_succ (f := fun q : Ed × Ed => edSame q.1 q.2) HZ.out)
      have key := implEdS_any x (C j) y (D j) lo hi W2 HG.out HLw.out.1 HLw.out.2 HG'.out hsx
      obtain ⟨⟨k0, k1, k2, k3, k4, k5, k6, k7, k8, k9⟩, l0, l1, l2, l3, l4, l5, l6, l7, l8, l9⟩ := HK.out
      rw [k0, k1, k2, k3, k4, k5, k6, k7, k8, k9, l0, l1, l2, l3, l4, l5, l6, l7, l8, l9] at key
      have HKey := Lib.hid key
      clear gl fl gc gc0 fc hx hy hv key hsx k0 l0 k1 l1 k2 l2 k3 l3 k4 l4 k5 l5 k6 l6 k7 l7 k8 l8 k9 l9
      go_wp2_with fail
      rw [← HW3.out]
      refine HKey.out.mono ?_
      rintro e' w1 ⟨rfl, hb1⟩
      rw [← HV.out]
      have HB1 : Hid (Below w.heap.size w w1) := HBW.out.trans (hb1.mono HBW.out.size)
      clear hb1
      cases v
      · go_wp2_with fail
        go_ret
        exact ⟨ret_bool (by rw [HAll.out, alls_false HZ.out (f := fun q : Ed × Ed => edSame q.1 q.2) HV.out.symm]), HB1.out⟩
      · have HT2 : Hid (((xs.zip ys).take (j + 1)).all (fun q => edSame q.1 q.2) = true) := by show _ = _; rw [HTs.out, HT.out, ← HV.out]; rfl
        go_wp2_with fail
        go_roundw
        case rel => exact ⟨j + 1, by omega, by go_num, HT2, HB1⟩
        case measure => simp [intOf]; omega
    · have hjj : j = xs.length := by omega
      subst hjj
      have HF : Hid (vv = true) := by
        have := HT.out
        rw [show xs.length = (xs.zip ys).length by rw [List.length_zip, HLn.out, Nat.min_self], List.take_length] at this
        show _ = _
        rw [HAll.out]
        exact this
      go_wp2_with fail
      go_ret
      exact ⟨ret_bool HF.out.symm, HB.out⟩

set_option maxHeartbeats 1000000 in
set_option maxRecDepth 100000 in
theorem implPrS_any (p : Pr) (C : Nat → Value) (q : Pr) (D : Nat → Value) (lo hi : Nat) (w : World) (hA : Lay.pr.sep w lo hi p C) (_ : lo ≤ w.heap.size) (hhi : hi ≤ w.heap.size) (hB : Lay.pr.lies w w.heap.size q D) (hd : Lay.pr.sz p ≤ 1048576) :
    Calls Try.prog 17 #[.agg #[C 0, C 1], .agg #[D 0, D 1]] w fun e' w' => e' = .returned (.bool (prSame p q)) ∧ Below w.heap.size w w' := by
  rw [pr_sz] at hd
  obtain ⟨loc, es⟩ := p
  obtain ⟨loc2, es2⟩ := q
  dsimp only at hd
  obtain ⟨m, hm1, hm2, e0, hs⟩ := hA
  obtain ⟨A, cap, g, E, e1, hl, hO⟩ := SOp.of hs
  obtain ⟨d0, A2, cap2, b2, off2, E2, d1, hl2, hO2⟩ := pr_lies hB
  replace e0 : C 0 = .int .i64 loc := e0
  replace e1 : C 1 = .slice A es.length cap := e1
  rw [e0, e1, d0, d1]
  obtain ⟨W1, hW1⟩ : ∃ W1, W1 = (w.alloc (.cells #[.int .i64 loc, .slice A es.length cap] 38)).alloc (.cells #[.int .i64 loc2, .slice A2 es2.length cap2] 38) := ⟨_, rfl⟩
  have hrows := two_boxes w 38 #[.int .i64 loc, .slice A es.length cap] #[.int .i64 loc2, .slice A2 es2.length cap2]
  rw [← hW1] at hrows
  obtain ⟨_, _, hb0⟩ := hrows
  have HW1 := Lib.hid hW1
  have HB0 := Lib.hid hb0
  have HO := Lib.hid (hO.below hb0 hhi)
  have HO2 := Lib.hid (hO2.grow hb0 hb0.size)
  have HLo : Hid (m ≤ W1.heap.size ∧ hi ≤ W1.heap.size) := by have := hb0.size; exact ⟨by omega, by omega⟩
  have HLn := Lib.hid hl
  have HSz : Hid (∀ x, x ∈ es → Lay.ed.sz x ≤ 1048576) := fun x hx => by
    obtain ⟨i, hi⟩ := List.mem_iff_getElem?.1 hx
    have := Lay.ed.szL_mem hi
    omega
  have HF : Hid (prSame ⟨loc, es⟩ ⟨loc2, es2⟩ = (decide (loc = loc2) && edsSame es es2)) := rfl
  obtain ⟨vv, hvv⟩ : ∃ v, v = prSame ⟨loc, es⟩ ⟨loc2, es2⟩ := ⟨_, rfl⟩
  obtain ⟨o, ho⟩ : ∃ v, v = edsSame es es2 := ⟨_, rfl⟩
  rw [← hvv, ← ho] at HF
  rw [← hvv]
  have HOo := Lib.hid ho
  clear hvv ho hs e0 e1 d0 d1 hB hO hO2 hb0 hW1 hl hl2 hd hhi hm1 hm2
  by_cases h : loc = loc2
  case neg =>
    have HN : Hid (vv = false) := by show _ = _; rw [HF.out, decide_eq_false h]; rfl
    have cN : (loc == loc2) = false := by rw [beq_eq_false_iff_ne]; exact h
    go_enter Try.func17, Try.ntmps17
    go_wp2_with fail
    rw [← HW1.out]
    go_ret
    exact ⟨ret_bool HN.out.symm, HB0.out⟩
  subst h
  have HF2 : Hid (vv = o) := by show _ = _; rw [HF.out]; simp
  clear HF
  go_enter Try.func17, Try.ntmps17
  go_wp2_with fail
  rw [← HW1.out]
  refine (eqfEd_any es es2 A cap g E A2 cap2 b2 off2 E2 m hi W1 HLn.out HO.out HLo.out.1 HLo.out.2 HO2.out HSz.out).mono ?_
  rintro e' w1 ⟨rfl, hb1⟩
  rw [← HOo.out]
  have HB1 := Lib.hid (HB0.out.trans (hb1.mono HB0.out.size))
  clear hb1
  go_wp2_with fail
  go_ret
  exact ⟨ret_bool HF2.out.symm, HB1.out⟩

end Go.Proofs.Ytgdhmdhbpakahaa
namespace Go.Proofs.Ytgdhmdhbpakahaa
open Go.RowKit

set_option maxHeartbeats 4000000 in
set_option maxRecDepth 100000 in
theorem eqfPr_any (xs ys : List Pr) (A : Option Addr) (cap g : Nat) (C : Nat → Nat → Value) (A' : Option Addr) (cap' b' off' : Nat) (D : Nat → Nat → Value) (lo hi : Nat) (w : World) (hl : xs.length ≤ maxLen)
    (hO : SOp Lay.pr w lo hi xs A g C) (hlo : lo ≤ w.heap.size) (hhi : hi ≤ w.heap.size) (hO' : Lay.pr.Opn w w.heap.size ys A' b' off' D) (hsz : ∀ x, x ∈ xs → Lay.pr.sz x ≤ 1048576) :
    Calls Try.prog 16 #[.slice A xs.length cap, .slice A' ys.length cap', .func (.func 17) #[] #[]] w fun e' w' => e' = .returned (.bool (prsSame xs ys)) ∧ Below w.heap.size w w' := by
  unfold maxLen at hl
  have HO := Lib.hid hO
  have HO' := Lib.hid hO'
  clear hO hO'
  by_cases hlen : xs.length = ys.length
  case neg =>
    have hlenI : ¬ ((xs.length : Int) = (ys.length : Int)) := by omega
    have HN : Hid (prsSame xs ys = false) := by show _ = _; unfold prsSame; rw [decide_eq_false hlen]; rfl
    go_enter Try.func16, Try.ntmps16
    go_wp2_with fail
    go_ret
    exact ⟨ret_bool HN.out.symm, Below.refl _ _⟩
  have hlenI : (xs.length : Int) = (ys.length : Int) := by omega
  have HAll : Hid (prsSame xs ys = (xs.zip ys).all fun q => prSame q.1 q.2) := by show _ = _; unfold prsSame; rw [decide_eq_true hlen, Bool.true_and]
  obtain ⟨vv, hvv⟩ : ∃ v, v = prsSame xs ys := ⟨_, rfl⟩
  rw [← hvv] at HAll ⊢
  have HLn := Lib.hid hlen
  have HSa := Lib.hid hsz
  have HLo : Hid (lo ≤ w.heap.size ∧ hi ≤ w.heap.size) := ⟨hlo, hhi⟩
  clear hsz hlo hhi hvv
  clear hlen
  go_enter Try.func16, Try.ntmps16
  go_wp2_with fail
  go_loopw [17] (fun i wl => ∃ j : Nat, j ≤ xs.length ∧ i = .int .i64 j ∧ Hid (((xs.zip ys).take j).all (fun q => prSame q.1 q.2) = true) ∧ Hid (Below w.heap.size w wl)) (fun i _ => xs.length - (intOf i).toNat)
  case atStart => exact ⟨0, Nat.zero_le _, rfl, rfl, Below.refl _ _⟩
  case round =>
    obtain ⟨j, hj, rfl, HT, HB⟩ := hrel
    by_cases hlt : j < xs.length
    · obtain ⟨x, hx⟩ : ∃ x, xs[j]? = some x := ⟨_, List.getElem?_eq_getElem hlt⟩
      have hlp : j < ys.length := by have := HLn.out; omega
      obtain ⟨y, hy⟩ : ∃ y, ys[j]? = some y := ⟨_, List.getElem?_eq_getElem hlp⟩
      obtain ⟨rfl, hb, gc0, gl⟩ := (HO.out.below HB.out HLo.out.2) j x hx
      have gc : ∀ q, q < 2 → wr.cell? ⟨g, j * 2 + q, none⟩ = some (C j q) := gc0
      obtain ⟨rfl, hb', fc, fl⟩ := HO'.out.below HB.out j y hy
      have c0 : wr.cell? ⟨g, j * 2, none⟩ = some (C j 0) := gc 0 (by decide)
      have d0 : wr.cell? ⟨b', off' + j * 2, none⟩ = some (D j 0) := fc 0 (by decide)
      have c1 : wr.cell? ⟨g, j * 2 + 1, none⟩ = some (C j 1) := gc 1 (by decide)
      have d1 : wr.cell? ⟨b', off' + j * 2 + 1, none⟩ = some (D j 1) := fc 1 (by decide)
      obtain ⟨W2, hW2⟩ : ∃ W2, W2 = (wr.alloc (.cells #[C j 0, C j 1] 38)).alloc (.cells #[D j 0, D j 1] 38) := ⟨_, rfl⟩
      obtain ⟨_, _, hb2⟩ := two_boxes wr 38 #[C j 0, C j 1] #[D j 0, D j 1]
      rw [← hW2] at hb2
      have HW2 := Lib.hid hW2
      have HBW : Hid (Below w.heap.size w W2) := HB.out.trans (hb2.mono HB.out.size)
      have hgs := HB.out.size
      have HG := Lib.hid (Lay.pr.sunder gl hb2 (Nat.le_trans HLo.out.2 HB.out.size))
      have HG' := Lib.hid (Lay.pr.later (Lay.pr.more fl HB.out.size) hb2 hb2.size)
      have HLw : Hid (lo ≤ W2.heap.size ∧ hi ≤ W2.heap.size) := by have := hb2.size; have := HLo.out; exact ⟨by omega, by omega⟩
      obtain ⟨xa, xl, xc, ⟨k0, k1⟩, _⟩ := pr_lit (Lay.pr.sep_lies gl)
      obtain ⟨ya, yl, yc, ⟨l0, l1⟩, _⟩ := pr_lit fl
      rw [k0, k1, l0, l1] at hW2
      rw [k0] at c0
      rw [l0] at d0
      rw [k1] at c1
      rw [l1] at d1
      have HK : Hid ((C j 0 = .int .i64 x.loc ∧ C j 1 = .slice xa xl xc) ∧ D j 0 = .int .i64 y.loc ∧ D j 1 = .slice ya yl yc) := ⟨⟨k0, k1⟩, l0, l1⟩
      have HW3 := Lib.hid hW2
      clear hW2 hb2 HW2 k0 l0 k1 l1
      have HZ := Lib.hid (zip_get hx hy)
      have hsx := HSa.out x (List.mem_of_getElem? hx)
      have hbs : g < wr.heap.size := by have := HLo.out.2; omega
      have hbs' : b' < wr.heap.size := Nat.lt_of_lt_of_le hb' HB.out.size
      obtain ⟨v, hv⟩ : ∃ v, v = prSame x y := ⟨_, rfl⟩
      have HV := Lib.hid hv
      have HTs := Lib.hid (alls_take_succ (f := fun q : Pr × Pr => prSame q.1 q.2) HZ.out)
      have key := implPrS_any x (C j) y (D j) lo hi W2 HG.out HLw.out.1 HLw.out.2 HG'.out hsx
      obtain ⟨⟨k0, k1⟩, l0, l1⟩ := HK.out
      rw [k0, k1, l0, l1] at key
      have HKey := Lib.hid key
      clear gl fl gc gc0 fc hx hy hv key hsx k0 l0 k1 l1
      go_wp2_with fail
      rw [← HW3.out]
      refine HKey.out.mono ?_
      rintro e' w1 ⟨rfl, hb1⟩
      rw [← HV.out]
      have HB1 : Hid (Below w.heap.size w w1) := HBW.out.trans (hb1.mono HBW.out.size)
      clear hb1
      cases v
      · go_wp2_with fail
        go_ret
        exact ⟨ret_bool (by rw [HAll.out, alls_false HZ.out (f := fun q : Pr × Pr => prSame q.1 q.2) HV.out.symm]), HB1.out⟩
      · have HT2 : Hid (((xs.zip ys).take (j + 1)).all (fun q => prSame q.1 q.2) = true) := by show _ = _; rw [HTs.out, HT.out, ← HV.out]; rfl
        go_wp2_with fail
        go_roundw
        case rel => exact ⟨j + 1, by omega, by go_num, HT2, HB1⟩
        case measure => simp [intOf]; omega
    · have hjj : j = xs.length := by omega
      subst hjj
      have HF : Hid (vv = true) := by
        have := HT.out
        rw [show xs.length = (xs.zip ys).length by rw [List.length_zip, HLn.out, Nat.min_self], List.take_length] at this
        show _ = _
        rw [HAll.out]
        exact this
      go_wp2_with fail
      go_ret
      exact ⟨ret_bool HF.out.symm, HB.out⟩

set_option maxHeartbeats 1000000 in
set_option maxRecDepth 100000 in
theorem implSyS_any (p : Sy) (C : Nat → Value) (q : Sy) (D : Nat → Value) (lo hi : Nat) (w : World) (hA : Lay.sy.sep w lo hi p C) (_ : lo ≤ w.heap.size) (hhi : hi ≤ w.heap.size) (hB : Lay.sy.lies w w.heap.size q D) (hd : Lay.sy.sz p ≤ 1048576) :
    Calls Try.prog 7 #[.agg #[C 0, C 1], .agg #[D 0, D 1]] w fun e' w' => e' = .returned (.bool (sySame p q)) ∧ Below w.heap.size w w' := by
  rw [sy_sz] at hd
  have hLA := Lay.sy.more (Lay.sy.sep_lies hA) hhi
  obtain ⟨ini, ps⟩ := p
  obtain ⟨ini2, ps2⟩ := q
  dsimp only at hd
  obtain ⟨m, hm1, hm2, _, hs⟩ := hA
  obtain ⟨A, cap, g, E, e1, hl, hO⟩ := SOp.of hs
  obtain ⟨⟨B, cbp, b, off, F, e0, hli, hI⟩, _⟩ := sy_lies hLA
  obtain ⟨⟨B2, cbp2, c2, pff2, F2, d0, hli2, hI2⟩, A2, cap2, b2, off2, E2, d1, hl2, hO2⟩ := sy_lies hB
  replace e1 : C 1 = .slice A ps.length cap := e1
  rw [e0, e1, d0, d1]
  obtain ⟨W1, hW1⟩ : ∃ W1, W1 = (w.alloc (.cells #[.slice B ini.length cbp, .slice A ps.length cap] 30)).alloc (.cells #[.slice B2 ini2.length cbp2, .slice A2 ps2.length cap2] 30) := ⟨_, rfl⟩
  have hrows := two_boxes w 30 #[.slice B ini.length cbp, .slice A ps.length cap] #[.slice B2 ini2.length cbp2, .slice A2 ps2.length cap2]
  rw [← hW1] at hrows
  obtain ⟨hra, hrb, hb0⟩ := hrows
  have HW1 := Lib.hid hW1
  have HB0 := Lib.hid hb0
  have HRa := Lib.hid hra
  have HRb := Lib.hid hrb
  have HI := Lib.hid (ints_of (hI.grow hb0 hb0.size))
  have HI2 := Lib.hid (ints_of (hI2.grow hb0 hb0.size))
  have HO := Lib.hid (hO.below hb0 hhi)
  have HO2 := Lib.hid (hO2.grow hb0 hb0.size)
  have HLo : Hid (m ≤ W1.heap.size ∧ hi ≤ W1.heap.size) := by have := hb0.size; exact ⟨by omega, by omega⟩
  have HLn := Lib.hid hl
  have HLi := Lib.hid hli
  have HLi2 := Lib.hid hli2
  have HSz : Hid (∀ x, x ∈ ps → Lay.pr.sz x ≤ 1048576) := fun x hx => by
    obtain ⟨i, hi⟩ := List.mem_iff_getElem?.1 hx
    have := Lay.pr.szL_mem hi
    omega
  have HF : Hid (sySame ⟨ini, ps⟩ ⟨ini2, ps2⟩ = (intsSame ini ini2 && prsSame ps ps2)) := rfl
  obtain ⟨vv, hvv⟩ : ∃ v, v = sySame ⟨ini, ps⟩ ⟨ini2, ps2⟩ := ⟨_, rfl⟩
  obtain ⟨o, ho⟩ : ∃ v, v = prsSame ps ps2 := ⟨_, rfl⟩
  obtain ⟨u, hu⟩ : ∃ v, v = intsSame ini ini2 := ⟨_, rfl⟩
  rw [← hvv, ← ho, ← hu] at HF
  rw [← hvv]
  have HOo := Lib.hid ho
  have HU := Lib.hid hu
  clear hvv ho hu hs e0 e1 d0 d1 hB hO hO2 hI hI2 hb0 hW1 hl hl2 hli hli2 hd hhi hm1 hm2 hLA hra hrb
  go_enter Try.func7, Try.ntmps7
  go_wp2_with fail
  rw [← HW1.out]
  refine (equalInts_any ini ini2 B B2 cbp b off cbp2 c2 pff2 W1 HLi.out HLi2.out HI.out HI2.out).mono ?_
  rintro e' w1 ⟨rfl, hb1⟩
  rw [← HU.out]
  have HB1 := Lib.hid (HB0.out.trans (hb1.mono HB0.out.size))
  obtain ⟨g0, g1⟩ := (HRa.out.under hb1 HRa.out.lt).two
  obtain ⟨f0, f1⟩ := (HRb.out.under hb1 HRb.out.lt).two
  have HO1 := Lib.hid (HO.out.below hb1 HLo.out.2)
  have HO21 := Lib.hid (HO2.out.grow hb1 hb1.size)
  have HLo1 : Hid (m ≤ w1.heap.size ∧ hi ≤ w1.heap.size) := by have := hb1.size; have := HLo.out; exact ⟨by omega, by omega⟩
  clear hb1
  cases u
  · go_wp2_with fail
    go_ret
    exact ⟨ret_bool (by rw [HF.out]; rfl), HB1.out⟩
  go_wp2_with fail
  refine (eqfPr_any ps ps2 A cap g E A2 cap2 b2 off2 E2 m hi w1 HLn.out HO1.out HLo1.out.1 HLo1.out.2 HO21.out HSz.out).mono ?_
  rintro e' w2 ⟨rfl, hb2⟩
  rw [← HOo.out]
  have HB2 := Lib.hid (HB1.out.trans (hb2.mono HB1.out.size))
  clear hb2
  go_wp2_with fail
  go_ret
  exact ⟨ret_bool (by rw [HF.out]; rfl), HB2.out⟩

end Go.Proofs.Ytgdhmdhbpakahaa

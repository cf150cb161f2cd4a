/- spec.AutomatonSame. -/
import Derived.Test.YtiikphdgnhajeaaAsE
import Derived.BigQuiet
namespace Go.Proofs.Ytiikphdgnhajeaa
open Go.RowKit

set_option maxHeartbeats 4000000 in
theorem specAs_any (e : Au) (C : Nat → Value) (f : Au) (D : Nat → Value) (w : World) (hL : Lay.au.lies w w.heap.size e C) (hM : Lay.au.lies w w.heap.size f D) (_ : Lay.au.sz e ≤ 1048576) (_ : Lay.au.sz f ≤ 1048576) :
    Calls Try.prog 11 #[.agg #[C 0, C 1, C 2], .agg #[D 0, D 1, D 2]] w fun e' w' => e' = .returned (.bool (auSame e f)) ∧ Below w.heap.size w w' := by
  obtain ⟨ini, acc, es⟩ := e
  obtain ⟨ini', acc', es'⟩ := f
  obtain ⟨W1, hW1⟩ : ∃ W1, W1 = (w.alloc (.cells #[C 0, C 1, C 2] 31)).alloc (.cells #[D 0, D 1, D 2] 31) := ⟨_, rfl⟩
  have hrows := two_boxes w 31 #[C 0, C 1, C 2] #[D 0, D 1, D 2]
  rw [← hW1] at hrows
  obtain ⟨hra, hrb, hb0⟩ := hrows
  obtain ⟨⟨A, cap, b, off, p0, hl, hO⟩, ⟨A2, cap2, b2, off2, p1, hl2, hO2⟩, ⟨A3, cap3, b3, off3, D3, p2, hl3, hO3⟩⟩ := au_lies (Lay.au.later hL hb0 hb0.size)
  obtain ⟨⟨A', cap', b', off', q0, hl', hO'⟩, ⟨A2', cap2', b2', off2', q1, hl2', hO2'⟩, ⟨A3', cap3', b3', off3', D3', q2, hl3', hO3'⟩⟩ := au_lies (Lay.au.later hM hb0 hb0.size)
  rw [p0, p1, p2] at hra
  rw [q0, q1, q2] at hrb
  rw [p0, p1, p2, q0, q1, q2] at hW1 ⊢
  have HW1 := Lib.hid hW1
  have HB0 := Lib.hid hb0
  have HRa := Lib.hid hra
  have HRb := Lib.hid hrb
  have H1 := Lib.hid hO
  have H1' := Lib.hid hO'
  have H2 := Lib.hid hO2
  have H2' := Lib.hid hO2'
  have H3 := Lib.hid (trs_of hO3)
  have H3' := Lib.hid (trs_of hO3')
  have HN : Hid (ini.length ≤ maxLen ∧ ini'.length ≤ maxLen ∧ acc.length ≤ maxLen ∧ acc'.length ≤ maxLen ∧ es.length ≤ maxLen ∧ es'.length ≤ maxLen) := ⟨hl, hl', hl2, hl2', hl3, hl3'⟩
  have HF : Hid (auSame ⟨ini, acc, es⟩ ⟨ini', acc', es'⟩ = (intsSame ini ini' && (lstSame acc acc' && lstSame es es'))) := rfl
  obtain ⟨u, hu⟩ : ∃ u, u = intsSame ini ini' := ⟨_, rfl⟩
  have HU := Lib.hid hu
  have hlt0 : w.heap.size < W1.heap.size := hra.lt
  have hlt1 : w.heap.size + 1 < W1.heap.size := hrb.lt
  unfold maxLen at hl hl' hl2 hl2' hl3 hl3'
  clear p0 p1 p2 q0 q1 q2 hL hM hW1 hb0 hra hrb hO hO2 hO3 hO' hO2' hO3' hu
  by_cases hlen : acc.length = acc'.length
  case neg =>
    have hlenI : ¬ ((acc.length : Int) = (acc'.length : Int)) := by omega
    have HFx : Hid (auSame ⟨ini, acc, es⟩ ⟨ini', acc', es'⟩ = false) := by show _ = _; rw [HF.out, lstSame_len hlen]; cases intsSame ini ini' <;> rfl
    go_enter Try.func11, Try.ntmps11
    go_wp2_with fail
    rw [← HW1.out]
    refine (l2Ints_any ini ini' A A' cap b off cap' b' off' W1 HN.out.1 HN.out.2.1 H1.out H1'.out).mono ?_
    rintro e' w1 ⟨rfl, hb1⟩
    rw [← HU.out]
    have HB1 : Hid (Below W1.heap.size W1 w1) := hb1
    obtain ⟨g0, g1, g2⟩ := (HRa.out.under HB1.out HRa.out.lt).three
    obtain ⟨f0, f1, f2⟩ := (HRb.out.under HB1.out HRb.out.lt).three
    clear hb1
    cases u <;>
    (go_wp2_with fail
     go_ret
     exact ⟨ret_bool HFx.out.symm, HB0.out.trans (HB1.out.mono HB0.out.size)⟩)
  rw [← hlen] at HW1 HRb ⊢
  have HLn := Lib.hid hlen
  clear hlen
  by_cases hlen2 : es.length = es'.length
  case neg =>
    have hlenJ : ¬ ((es.length : Int) = (es'.length : Int)) := by omega
    have HFx : Hid (auSame ⟨ini, acc, es⟩ ⟨ini', acc', es'⟩ = false) := by show _ = _; rw [HF.out, lstSame_len hlen2]; cases intsSame ini ini' <;> cases lstSame acc acc' <;> rfl
    go_enter Try.func11, Try.ntmps11
    go_wp2_with fail
    rw [← HW1.out]
    refine (l2Ints_any ini ini' A A' cap b off cap' b' off' W1 HN.out.1 HN.out.2.1 H1.out H1'.out).mono ?_
    rintro e' w1 ⟨rfl, hb1⟩
    rw [← HU.out]
    have HB1 : Hid (Below W1.heap.size W1 w1) := hb1
    obtain ⟨g0, g1, g2⟩ := (HRa.out.under HB1.out HRa.out.lt).three
    obtain ⟨f0, f1, f2⟩ := (HRb.out.under HB1.out HRb.out.lt).three
    clear hb1
    cases u <;>
    (go_wp2_with fail
     go_ret
     exact ⟨ret_bool HFx.out.symm, HB0.out.trans (HB1.out.mono HB0.out.size)⟩)
  rw [← hlen2] at HW1 HRb ⊢
  have HLm := Lib.hid hlen2
  clear hlen2
  go_enter Try.func11, Try.ntmps11
  go_wp2_with fail
  rw [← HW1.out]
  refine (l2Ints_any ini ini' A A' cap b off cap' b' off' W1 HN.out.1 HN.out.2.1 H1.out H1'.out).mono ?_
  rintro e' w1 ⟨rfl, hb1⟩
  rw [← HU.out]
  have HB : Hid (Below W1.heap.size W1 w1) := hb1
  obtain ⟨g0, g1, g2⟩ := (HRa.out.under HB.out HRa.out.lt).three
  obtain ⟨f0, f1, f2⟩ := (HRb.out.under HB.out HRb.out.lt).three
  clear hb1
  cases u
  · go_wp2_with fail
    go_ret
    exact ⟨ret_bool (by rw [HF.out, ← HU.out]; rfl), HB0.out.trans (HB.out.mono HB0.out.size)⟩
  have HF2 : Hid (auSame ⟨ini, acc, es⟩ ⟨ini', acc', es'⟩ = (lstSame acc acc' && lstSame es es')) := by show _ = _; rw [HF.out, ← HU.out]; rfl
  go_wp2_with fail
  clear g0 g1 g2 f0 f1 f2
  go_loopw [5] (fun i wl => ∃ j : Nat, j ≤ acc.length ∧ i = .int .i64 j ∧ Hid (∀ (q : Nat) (x y : Bool), q < j → acc[q]? = some x → acc'[q]? = some y → x = y) ∧ Hid (Below W1.heap.size W1 wl)) (fun i _ => acc.length - (intOf i).toNat)
  case atStart => exact ⟨0, Nat.zero_le _, rfl, (fun q x y h => absurd h (Nat.not_lt_zero _)), HB⟩
  case round =>
    clear HB
    obtain ⟨j, hj, rfl, HT, HB⟩ := hrel
    obtain ⟨g0, g1, g2⟩ := (HRa.out.under HB.out HRa.out.lt).three
    obtain ⟨f0, f1, f2⟩ := (HRb.out.under HB.out HRb.out.lt).three
    by_cases hlt : j < acc.length
    · obtain ⟨x, hx⟩ : ∃ x, acc[j]? = some x := ⟨_, List.getElem?_eq_getElem hlt⟩
      have hlp : j < acc'.length := by have := HLn.out; omega
      obtain ⟨y, hy⟩ : ∃ y, acc'[j]? = some y := ⟨_, List.getElem?_eq_getElem hlp⟩
      obtain ⟨rfl, hb, c0⟩ := H2.out.under HB.out HB.out.size j x hx
      obtain ⟨rfl, hb', d0⟩ := H2'.out.under HB.out HB.out.size j y hy
      have HX := Lib.hid hx
      have HY := Lib.hid hy
      clear hx hy
      by_cases hxy : x = y
      · have HT2 : Hid (∀ (q : Nat) (x y : Bool), q < j + 1 → acc[q]? = some x → acc'[q]? = some y → x = y) := fun q x' y' hq h1 h2 => by
          by_cases e : q = j
          · subst e
            rw [HX.out] at h1
            rw [HY.out] at h2
            injection h1 with h1
            injection h2 with h2
            rw [← h1, ← h2]
            exact hxy
          · exact HT.out q x' y' (by omega) h1 h2
        clear HX HY
        subst hxy
        cases x
        · go_wp2_with fail
          go_quiet (fail)
          go_wp2_with fail
          go_roundw
          case rel => exact ⟨j + 1, by omega, by go_num, HT2, below_drewN HB.out _⟩
          case measure => simp [intOf]; omega
        · go_wp2_with fail
          go_quiet (fail)
          go_wp2_with fail
          go_roundw
          case rel => exact ⟨j + 1, by omega, by go_num, HT2, below_drewN HB.out _⟩
          case measure => simp [intOf]; omega
      · have HFx : Hid (auSame ⟨ini, acc, es⟩ ⟨ini', acc', es'⟩ = false) := by show _ = _; rw [HF2.out, lstSame_at HX.out HY.out hxy]; rfl
        clear HX HY
        cases x <;> cases y
        · exact absurd rfl hxy
        · go_wp2_with fail
          go_quiet (fail)
          go_wp2_with fail
          go_ret
          exact ⟨ret_bool HFx.out.symm, below_drewN (HB0.out.trans (HB.out.mono HB0.out.size)) _⟩
        · go_wp2_with fail
          go_quiet (fail)
          go_wp2_with fail
          go_ret
          exact ⟨ret_bool HFx.out.symm, below_drewN (HB0.out.trans (HB.out.mono HB0.out.size)) _⟩
        · exact absurd rfl hxy
    · have hjj : j = acc.length := by omega
      subst hjj
      have HF3 : Hid (auSame ⟨ini, acc, es⟩ ⟨ini', acc', es'⟩ = lstSame es es') := by show _ = _; rw [HF2.out, lstSame_all HLn.out (fun q x y h1 h2 => HT.out q x y (List.getElem?_eq_some_iff.1 h1).1 h1 h2)]; rfl
      clear HF2 HT H2 H2'
      go_wp2_with fail
      go_loopw [6] (fun i wl => ∃ j : Nat, j ≤ es.length ∧ i = .int .i64 j ∧ Hid (∀ (q : Nat) (x y : Tr), q < j → es[q]? = some x → es'[q]? = some y → x = y) ∧ Hid (Below W1.heap.size W1 wl)) (fun i _ => es.length - (intOf i).toNat)
      case atStart => exact ⟨0, Nat.zero_le _, rfl, (fun q x y h => absurd h (Nat.not_lt_zero _)), HB⟩
      case round =>
        clear HB g0 g1 g2 f0 f1 f2
        obtain ⟨j, hj, rfl, HT, HB⟩ := hrel
        obtain ⟨g0, g1, g2⟩ := (HRa.out.under HB.out HRa.out.lt).three
        obtain ⟨f0, f1, f2⟩ := (HRb.out.under HB.out HRb.out.lt).three
        by_cases hlt : j < es.length
        · obtain ⟨x, hx⟩ : ∃ x, es[j]? = some x := ⟨_, List.getElem?_eq_getElem hlt⟩
          have hlp : j < es'.length := by have := HLm.out; omega
          obtain ⟨y, hy⟩ : ∃ y, es'[j]? = some y := ⟨_, List.getElem?_eq_getElem hlp⟩
          obtain ⟨rfl, hb, c0, c1, c2, c3, _⟩ := H3.out.under HB.out HB.out.size j x hx
          obtain ⟨rfl, hb', d0, d1, d2, d3, _⟩ := H3'.out.under HB.out HB.out.size j y hy
          have HX := Lib.hid hx
          have HY := Lib.hid hy
          clear hx hy
          by_cases hxy : x = y
          · have HT2 : Hid (∀ (q : Nat) (x y : Tr), q < j + 1 → es[q]? = some x → es'[q]? = some y → x = y) := fun q x' y' hq h1 h2 => by
              by_cases e : q = j
              · subst e
                rw [HX.out] at h1
                rw [HY.out] at h2
                injection h1 with h1
                injection h2 with h2
                rw [← h1, ← h2]
                exact hxy
              · exact HT.out q x' y' (by omega) h1 h2
            clear HX HY
            subst hxy
            obtain ⟨fr, ca, va, tt⟩ := x
            dsimp only at c0 c1 c2 c3 d0 d1 d2 d3
            go_wp2_with fail
            go_quiet (fail)
            go_wp2_with fail
            go_roundw
            case rel => exact ⟨j + 1, by omega, by go_num, HT2, below_drewN HB.out _⟩
            case measure => simp [intOf]; omega
          · have HFx : Hid (auSame ⟨ini, acc, es⟩ ⟨ini', acc', es'⟩ = false) := by show _ = _; rw [HF3.out, lstSame_at HX.out HY.out hxy]
            clear HX HY
            obtain ⟨fr, ca, va, tt⟩ := x
            obtain ⟨fr', ca', va', tt'⟩ := y
            dsimp only at c0 c1 c2 c3 d0 d1 d2 d3
            have HN : Hid (¬ (fr = fr' ∧ ca = ca' ∧ va = va' ∧ tt = tt')) := fun h => hxy (by rw [h.1, h.2.1, h.2.2.1, h.2.2.2])
            clear hxy
            by_cases e0 : fr = fr'
            case neg =>
              go_wp2_with fail
              go_quiet (fail)
              go_wp2_with fail
              go_ret
              exact ⟨ret_bool HFx.out.symm, below_drewN (HB0.out.trans (HB.out.mono HB0.out.size)) _⟩
            subst e0
            by_cases e1 : ca = ca'
            case neg =>
              go_wp2_with fail
              go_quiet (fail)
              go_wp2_with fail
              go_ret
              exact ⟨ret_bool HFx.out.symm, below_drewN (HB0.out.trans (HB.out.mono HB0.out.size)) _⟩
            subst e1
            by_cases e2 : va = va'
            case neg =>
              go_wp2_with fail
              go_quiet (fail)
              go_wp2_with fail
              go_ret
              exact ⟨ret_bool HFx.out.symm, below_drewN (HB0.out.trans (HB.out.mono HB0.out.size)) _⟩
            subst e2
            have e3 : ¬ tt = tt' := fun h => HN.out ⟨rfl, rfl, rfl, h⟩
            go_wp2_with fail
            go_quiet (fail)
            go_wp2_with fail
            go_ret
            exact ⟨ret_bool HFx.out.symm, below_drewN (HB0.out.trans (HB.out.mono HB0.out.size)) _⟩
        · have hjj : j = es.length := by omega
          subst hjj
          have HFx : Hid (auSame ⟨ini, acc, es⟩ ⟨ini', acc', es'⟩ = true) := by show _ = _; rw [HF3.out, lstSame_all HLm.out (fun q x y h1 h2 => HT.out q x y (List.getElem?_eq_some_iff.1 h1).1 h1 h2)]
          go_wp2_with fail
          go_ret
          exact ⟨ret_bool HFx.out.symm, HB0.out.trans (HB.out.mono HB0.out.size)⟩

end Go.Proofs.Ytiikphdgnhajeaa

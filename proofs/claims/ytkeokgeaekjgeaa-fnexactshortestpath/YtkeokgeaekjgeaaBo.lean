/- The walk of impl.ShortestPath. -/
import Derived.Test.YtkeokgeaekjgeaaBm
import Derived.Test.YtkeokgeaekjgeaaBq
import Derived.Test.YtkeokgeaekjgeaaGvW
namespace Go.Proofs.Ytkeokgeaekjgeaa
open Go.RowKit

set_option maxHeartbeats 2000000 in
set_option maxRecDepth 100000 in
theorem implSp_any (e : Gp) (C : Nat → Value) (a z : Int) (w : World) (hL : Lay.gra.lies w w.heap.size e C) :
    Calls Try.prog 8 #[.agg #[C 0, C 1], .int .i64 a, .int .i64 z] w (SpPost (spath e a z) w) := by
  obtain ⟨i0, hi0, hz0, hz1, hz2⟩ := info_parts Try.info3
  obtain ⟨W1, hW1⟩ : ∃ W1, W1 = w.alloc (.cells #[C 0, C 1] 31) := ⟨_, rfl⟩
  have hra : Row W1 w.heap.size 31 #[C 0, C 1] := by rw [hW1]; exact Row.new _ _ _
  have hb0 : Below w.heap.size w W1 := by rw [hW1]; exact (Below.refl _ _).alloc (Nat.le_refl _) _
  have hL1 := Lay.gra.later hL hb0 hb0.size
  have hG := implGrV_any e C W1 hL1
  have HL := Lib.hid hL1
  obtain ⟨v, hv⟩ : ∃ v, v = grOk e := ⟨_, rfl⟩
  rw [← hv] at hG
  obtain ⟨⟨A2, cap2, b2, off2, E2, q2, hl2, _⟩, A3, cap3, b3, off3, E3, q3, hl3, _⟩ := gra_lies (sts := e.sts) (nxt := e.nxt) hL
  have HQ2 := Lib.hid q2
  have HQ3 := Lib.hid q3
  rw [q2, q3] at hG hW1 hra ⊢
  obtain ⟨n, hn⟩ : ∃ n, n = e.sts.length := ⟨_, rfl⟩
  obtain ⟨n', hn'⟩ : ∃ n', n' = e.nxt.length := ⟨_, rfl⟩
  rw [← hn, ← hn'] at hG hW1 hra ⊢
  have HN := Lib.hid hn
  have HN' := Lib.hid hn'
  have HG := Lib.hid hG
  have HW1 := Lib.hid hW1
  have HB0 := Lib.hid hb0
  have HRa := Lib.hid hra
  have HV := Lib.hid hv
  obtain ⟨g0, g1⟩ := hra.two
  clear hL hW1 hra hb0 hv hL1 hG q2 q3 hn hn' hl2 hl3
  go_enter Try.func8, Try.ntmps8
  go_wp2_with fail
  rw [← HW1.out]
  refine HG.out.mono ?_
  rintro e' w1 ⟨rfl, hb1⟩
  have HB1 : Hid (Below w.heap.size w w1) := HB0.out.trans (hb1.mono HB0.out.size)
  have HL1 := Lib.hid (Lay.gra.later HL.out hb1 hb1.size)
  have HRa1 := Lib.hid (HRa.out.under hb1 HRa.out.lt)
  obtain ⟨g2, g3⟩ := HRa1.out.two
  clear hb1 g0 g1 HL HRa HG HW1
  cases v
  · have HE := Lib.hid (spath_bad (a := a) (z := z) HV.out.symm)
    go_wp2_with fail
    go_ret
    rw [HE.out]
    exact ⟨_, rfl, SliceI.none _ _ _ _, HB1.out⟩
  obtain ⟨ia, hia⟩ : ∃ ia, ia = inOk n a := ⟨_, rfl⟩
  have HIa := Lib.hid hia
  clear hia
  go_wp2_with fail
  refine (hasState_any A2 n cap2 A3 n' cap3 a w1).mono ?_
  rintro e' w2 ⟨rfl, hb2⟩
  rw [← HIa.out]
  have HB2 : Hid (Below w.heap.size w w2) := HB1.out.trans (hb2.mono HB1.out.size)
  have HL2 := Lib.hid (Lay.gra.later HL1.out hb2 hb2.size)
  have HRa2 := Lib.hid (HRa1.out.under hb2 HRa1.out.lt)
  obtain ⟨g4, g5⟩ := HRa2.out.two
  clear hb2 g2 g3 HL1 HRa1
  cases ia
  · have HE := Lib.hid (spath_from (g := e) (a := a) (z := z) (by rw [← HN.out]; exact HIa.out.symm))
    go_wp2_with fail
    go_ret
    rw [HE.out]
    exact ⟨_, rfl, SliceI.none _ _ _ _, HB2.out⟩
  obtain ⟨iz, hiz⟩ : ∃ iz, iz = inOk n z := ⟨_, rfl⟩
  have HIz := Lib.hid hiz
  clear hiz
  go_wp2_with fail
  refine (hasState_any A2 n cap2 A3 n' cap3 z w2).mono ?_
  rintro e' w3 ⟨rfl, hb3⟩
  rw [← HIz.out]
  have HB3 : Hid (Below w.heap.size w w3) := HB2.out.trans (hb3.mono HB2.out.size)
  have HL3 := Lib.hid (Lay.gra.later HL2.out hb3 hb3.size)
  have HRa3 := Lib.hid (HRa2.out.under hb3 HRa2.out.lt)
  obtain ⟨g6, g7⟩ := HRa3.out.two
  clear hb3 g4 g5 HL2 HRa2
  cases iz
  · have HE := Lib.hid (spath_to (g := e) (a := a) (z := z) (by rw [← HN.out]; exact HIz.out.symm))
    go_wp2_with fail
    go_ret
    rw [HE.out]
    exact ⟨_, rfl, SliceI.none _ _ _ _, HB3.out⟩
  obtain ⟨hr, hlen, h60⟩ := ranged_of HV.out.symm
  obtain ⟨m, rfl, hm⟩ : ∃ m : Nat, a = m ∧ m < n := by
    have h1 := HIa.out.symm
    unfold inOk at h1
    simp only [Bool.and_eq_true, decide_eq_true_eq] at h1
    exact ⟨a.toNat, by omega, by omega⟩
  obtain ⟨c0, rfl, hc0⟩ : ∃ c0 : Nat, z = c0 ∧ c0 < n := by
    have h1 := HIz.out.symm
    unfold inOk at h1
    simp only [Bool.and_eq_true, decide_eq_true_eq] at h1
    exact ⟨z.toNat, by omega, by omega⟩
  have hn6 : n ≤ 60 := by have := HN.out; omega
  have hmn : m < e.nxt.length := by have := HN.out; omega
  have HOk : Hid (SrOk e.nxt.length m (found e.nxt m)) := srch_ok hr hmn e.nxt.length
  have HLn : Hid (e.nxt.length = n) := hlen.trans HN.out.symm
  have HP : Hid (Calls Try.prog 26 #[.agg #[.slice A2 n cap2, .slice A3 n' cap3], .int .i64 m] w3 (IntsPost (befo (found e.nxt m) m) w3)) := by
    have h := pred_any e C m w3 HL3.out hr hlen hmn (by omega)
    rw [HQ2.out, HQ3.out, ← HN.out, ← HN'.out] at h
    exact h
  clear hr hlen h60 hmn HL3
  go_wp2_with fail
  refine HP.out.mono ?_
  rintro e' w4 ⟨gb, capb, rfl, hgb, hIb, hb4⟩
  have HB4 : Hid (Below w.heap.size w w4) := HB3.out.trans (hb4.mono HB3.out.size)
  have HIb := Lib.hid hIb
  have HLb : Hid ((befo (found e.nxt m) m).length = n) := HOk.out.befo_len.trans HLn.out
  rw [HLb.out]
  have hbl := hIb.lt
  clear hIb hb4 g6 g7 HP
  cases hin : inB (found e.nxt m).q c0
  · have p0 : w4.cell? ⟨gb, c0, none⟩ = some (.int .i64 (-1)) := HIb.out.cell (HOk.out.befo_out (by rw [HLn.out]; exact hc0) hin)
    have HE := Lib.hid (spath_out (g := e) (a := m) hin)
    clear hin
    go_wp2_with fail
    go_ret
    rw [HE.out]
    exact ⟨_, rfl, SliceI.none _ _ _ _, HB4.out⟩
  obtain ⟨y0, hy0⟩ := HOk.out.befo_in hin
  have p0 : w4.cell? ⟨gb, c0, none⟩ = some (.int .i64 y0) := HIb.out.cell hy0
  have hye : ((y0 : Int) == -1) = false := by simp
  have hye' : ¬ (y0 : Int) = -1 := by omega
  obtain ⟨k0, hk0⟩ := List.getElem?_of_mem (of_decide_eq_true hin)
  have HE := Lib.hid (spath_way (g := e) HV.out.symm (by rw [← HN.out]; exact HIa.out.symm) (by rw [← HN.out]; exact HIz.out.symm) hk0)
  have hk6 : k0 < 60 := by
    have h1 := (List.getElem?_eq_some_iff.1 hk0).1
    have h2 := HOk.out.short
    have h3 := HLn.out
    omega
  have HK0 := Lib.hid hk0
  obtain ⟨s, hs⟩ : ∃ s, s = found e.nxt m := ⟨_, rfl⟩
  rw [← hs] at HE HK0 HOk HIb HLb
  have hsb : w.heap.size ≤ w4.heap.size := HB4.out.size
  clear hin hy0 hk0 hs
  go_wp2_with fail
  go_loopg [8, 9] k0 (fun gk o st wl => ∃ (g cap len c : Nat) (rest : List Int), len ≤ k0 + 1 ∧ 1 ≤ len ∧ c < n ∧ o = .slice (some ⟨g, 0, none⟩) len cap ∧ st = .int .i64 c ∧ Hid (len = rest.length + 1) ∧ Hid (wl.ownsRow w4.heap.size 3 1 (.slice (some ⟨g, 0, none⟩) len cap) len (((c : Int) :: rest).reverse.map (Value.int .i64))) ∧ Hid (s.q[gk]? = some (c : Int)) ∧ Hid (way s m gk c ++ rest = way s m k0 c0) ∧ Hid (Below w4.heap.size w4 wl))
  case atStart =>
    exact ⟨w4.heap.size, 1, 1, c0, [], by omega, Nat.le_refl _, hc0, rfl, rfl, rfl, (show World.ownsRow _ _ _ _ _ _ _ from ⟨rfl, .inr ⟨w4.heap.size, 1, #[.int .i64 c0], rfl, Nat.le_refl _, Row.new w4 _ _, Nat.le_refl _, by unfold maxLen; omega, rfl, rfl⟩⟩), HK0, List.append_nil _, (Below.refl _ _).alloc (Nat.le_refl _) _⟩
  case round =>
    clear p0 hye hye'
    obtain ⟨g, cap, len, c, rest, hle, hl1, hc, rfl, rfl, HLen, HOw, HC, HWy, HB⟩ := hrel
    have hgl := queue_lt HOw.out
    have hsw : w4.heap.size ≤ wr.heap.size := HB.out.size
    by_cases hca : c = m
    · subst hca
      have HWe : Hid ((c : Int) :: rest = way s c k0 c0) := by
        show _ = _
        rw [← HWy.out, way_first]; rfl
      have HRl : Hid (((c : Int) :: rest).reverse.length = len) := by show _ = _; rw [List.length_reverse, List.length_cons, HLen.out]
      have hcb : ((c : Int) != c) = false := by simp
      have HRv : Hid (Calls Try.prog 27 #[.slice (some ⟨g, 0, none⟩) len cap] wr fun e' w' => e' = .returned (.tuple #[]) ∧ IRow w' g ((c : Int) :: rest) ∧ Tw g g wr w') := by
        have h := reverse_any ((c : Int) :: rest).reverse g cap wr (by rw [HRl.out]; exact hl1) (by rw [HRl.out]; omega) (owns_irow HOw.out)
        rw [HRl.out, List.reverse_reverse] at h
        exact h
      go_wp2_with fail
      refine HRv.out.mono ?_
      rintro e' w5 ⟨rfl, hi5, ht5⟩
      have HF : Hid (SpPost (spath e c c0) w (.returned (.slice (some ⟨g, 0, none⟩) len cap)) w5) := by
        have hl5 : len = (way s c k0 c0).length := by rw [← HWe.out, List.length_cons, HLen.out]
        show SpPost _ _ _ _
        rw [HE.out]
        refine ⟨_, rfl, ⟨_, cap, by rw [← hl5], .inr ⟨g, rfl, by omega, by rw [← HWe.out]; exact hi5⟩⟩, ?_⟩
        exact ht5.below (HB4.out.trans (HB.out.mono hsb)) (by omega) (by omega)
      clear hi5 ht5
      go_wp2_with fail
      go_ret
      exact HF.out
    · have hcb : ((c : Int) != m) = true := by simp; omega
      have hcn : ¬ (c : Int) = m := by omega
      obtain ⟨hk1, j, y, hj, hjy, hpy⟩ := HOk.out.up HC.out hcn
      obtain ⟨d, rfl, hd⟩ := HOk.out.range y (List.mem_of_getElem? hjy)
      have hd2 : d < n := by have := HLn.out; omega
      have p1 : wr.cell? ⟨gb, c, none⟩ = some (.int .i64 d) := by
        rw [HB.out.cell (p := ⟨gb, c, none⟩) hbl]
        refine HIb.out.cell ?_
        rw [befo_up HOk.out hca]
        rw [Int.toNat_natCast] at hpy
        exact hpy
      have HWy2 : Hid (way s m j d ++ ((c : Int) :: rest) = way s m k0 c0) := by
        show _ = _
        rw [← HWy.out, way_step HOk.out HC.out hcn hj hjy hpy]
        simp
      have HJ := Lib.hid hjy
      have hln : len + 1 ≤ k0 + 1 := by
        have h1 := congrArg List.length HWy2.out
        rw [List.length_append, List.length_cons] at h1
        have h2 := way_pos s m j d
        have h3 := way_len (s := s) (a := m) k0 c0
        have h4 := HLen.out
        omega
      clear hjy hpy
      go_wp2_with (at_builtin; refine wpList_append_own_at _ rfl (.tmp 43) (.tmp 45) 27 rfl w4.heap.size 3 i0 (.int .i64 0) 1 8 Try.underlying27 hi0 hz0 hz1 hz2 rfl (by decide) (.slice (some ⟨g, 0, none⟩) len cap) len _ rfl (HOw.out.alloc _) ⟨wr.heap.size, 0, none⟩ 1 1 [.int .i64 d] rfl rfl (cell_one_new _ _ _) (by simp [Value.oneCell']) (by unfold maxLen; omega) (by omega) (by simp; omega) ?_; intro v' w5 hown' hgrow hnil hat)
      obtain ⟨g1, cap1, rfl⟩ : ∃ g1 cap1, v' = .slice (some ⟨g1, 0, none⟩) (len + 1) cap1 := by
        rcases hown'.2 with ⟨_, h0⟩ | ⟨g1, cap1, _, hv, _⟩
        · omega
        · exact ⟨g1, cap1, hv⟩
      have HO1 : Hid (w5.ownsRow w4.heap.size 3 1 (.slice (some ⟨g1, 0, none⟩) (len + 1) cap1) (len + 1) (((d : Int) :: ((c : Int) :: rest)).reverse.map (Value.int .i64))) := by
        show World.ownsRow _ _ _ _ _ _ _
        rw [List.reverse_cons (a := (d : Int)), List.map_append]
        exact hown'
      have HB1' : Hid (Below w4.heap.size w4 w5) := (HB.out.alloc HB.out.size _).grown hgrow (by simp; omega) (fun q hq => by
        have e : g = q := by simpa [Value.ownBlock] using hq
        subst e
        exact hgl.1)
      have HLen1 : Hid (len + 1 = ((c : Int) :: rest).length + 1) := by show _ = _; rw [List.length_cons, ← HLen.out]
      clear hown' hgrow hnil hat HOw HB p1
      go_wp2_with fail
      go_roundg j
      case measure => exact hj
      case rel => exact ⟨g1, cap1, len + 1, d, _, hln, by omega, hd2, rfl, rfl, HLen1, HO1, HJ, HWy2, HB1'⟩

end Go.Proofs.Ytkeokgeaekjgeaa

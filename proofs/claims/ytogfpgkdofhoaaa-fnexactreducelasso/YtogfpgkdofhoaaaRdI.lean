/- The walk of impl.ReduceLasso. -/
import Derived.Test.YtogfpgkdofhoaaaRdP
import Derived.Test.YtogfpgkdofhoaaaPeI
import Derived.Deep.RegionWith
import Derived.Deep.Cut
import Derived.Deep.CutRange
import Derived.BigQuiet
namespace Go.Proofs.Ytogfpgkdofhoaaa
namespace La
open Go.RowKit

set_option maxHeartbeats 8000000 in
set_option maxRecDepth 100000 in
theorem implRd_any (e : St) (ga gb : Nat) (w : World) (hL : Lay.sta.lies w w.heap.size e (fun j => (arr e ga gb).getD j undef)) (hd : Lay.sta.sz e ≤ 1048576) :
    Calls Try.prog 8 #[.agg (arr e ga gb)] w (RdPost e w) := by
  obtain ⟨hI0, hJ0⟩ := arr_ints hL
  obtain ⟨n, hn⟩ : ∃ n, n = e.locs.length := ⟨_, rfl⟩
  obtain ⟨m, hm⟩ : ∃ m, m = e.vals.length := ⟨_, rfl⟩
  unfold arr at hL ⊢
  rw [← hn, ← hm] at hL ⊢
  have HN := Lib.hid hn
  have HM := Lib.hid hm
  have hnm : n ≤ 1048576 ∧ m ≤ 1048576 := by rw [sta_sz, ← hn, ← hm] at hd; omega
  obtain ⟨hn1, hm1⟩ := hnm
  obtain ⟨W1, hW1⟩ : ∃ W1, W1 = (w.alloc (.cells #[.slice (some ⟨ga, 0, none⟩) n n, .slice (some ⟨gb, 0, none⟩) m m] 26)).alloc (.cells #[.slice none 0 0, .slice none 0 0] 26) := ⟨_, rfl⟩
  have hrows := rows2 w 26 26 #[.slice (some ⟨ga, 0, none⟩) n n, .slice (some ⟨gb, 0, none⟩) m m] #[.slice none 0 0, .slice none 0 0]
  rw [← hW1] at hrows
  obtain ⟨hra, hrb, hb0⟩ := hrows
  have HL1 := Lib.hid (Lay.sta.later hL hb0 hb0.size)
  have HB0 := Lib.hid hb0
  have HW1 := Lib.hid hW1
  have HRa := Lib.hid hra
  have HRb := Lib.hid hrb
  have HD := Lib.hid hd
  have hlt1 : w.heap.size + 1 < W1.heap.size := hrb.lt
  have HI0 : Hid (∀ W, Below W1.heap.size W1 W → Ints W W.heap.size (some ⟨ga, 0, none⟩) ga 0 e.locs ∧ Ints W W.heap.size (some ⟨gb, 0, none⟩) gb 0 e.vals) := fun W hW =>
    ⟨(hI0.under hb0 hb0.size).under hW hW.size, (hJ0.under hb0 hb0.size).under hW hW.size⟩
  have HF : Hid (laOk e = false → ∀ W, Below w.heap.size w W → RdPost e w (.returned (.tuple #[.agg #[.slice none 0 0, .slice none 0 0], .bool false])) W) := fun hk W hb =>
    ⟨_, _, by rw [hk], by rw [redSt_no hk]; exact StR.none_ _ _ _ hb.size _ _ _ _, hb⟩
  have HBx : Hid (∀ W, Below W1.heap.size W1 W → W.cell? ⟨w.heap.size, 0, none⟩ = some (.slice (some ⟨ga, 0, none⟩) n n) ∧ W.cell? ⟨w.heap.size, 1, none⟩ = some (.slice (some ⟨gb, 0, none⟩) m m) ∧ W.cell? ⟨w.heap.size + 1, 0, none⟩ = some (.slice none 0 0) ∧ W.cell? ⟨w.heap.size + 1, 1, none⟩ = some (.slice none 0 0) ∧ W.frozen? ⟨w.heap.size + 1, 0, none⟩ = false ∧ W.frozen? ⟨w.heap.size + 1, 1, none⟩ = false) := fun W hW => by
    obtain ⟨a0, a1⟩ := (HRa.out.under hW HRa.out.lt).two
    have hb := HRb.out.under hW HRb.out.lt
    obtain ⟨b0, b1⟩ := hb.two
    exact ⟨a0, a1, b0, b1, hb.frozen 0, hb.frozen 1⟩
  obtain ⟨vb, hvb⟩ : ∃ vb, vb = laOk e := ⟨_, rfl⟩
  have HVb := Lib.hid hvb
  clear hL hb0 hra hrb hd hn hm hW1 hI0 hJ0 hvb
  go_enter Try.func8, Try.ntmps8
  go_wp2_with fail
  rw [← HW1.out]
  refine (implLv_any e (fun j => (#[.slice (some ⟨ga, 0, none⟩) n n, .slice (some ⟨gb, 0, none⟩) m m] : Array Value).getD j undef) W1 HL1.out HD.out).mono ?_
  rintro e' w1 ⟨rfl, hb1⟩
  rw [← HVb.out]
  have HB1 : Hid (Below W1.heap.size W1 w1) := hb1
  clear hb1
  obtain ⟨p0, p1, z0, z1, y0, y1⟩ := HBx.out w1 HB1.out
  have hw1 : w.heap.size + 1 < w1.heap.size := Nat.lt_of_lt_of_le hlt1 HB1.out.size
  have hw10 : w.heap.size < w1.heap.size := by omega
  cases vb
  · have HFf := Lib.hid (HF.out HVb.out.symm ((w1.setCell ⟨w.heap.size + 1, 0, none⟩ (.slice none 0 0)).setCell ⟨w.heap.size + 1, 1, none⟩ (.slice none 0 0)) (((HB0.out.trans (HB1.out.mono HB0.out.size)).setCell (by simp) _).setCell (by simp) _))
    go_wp2_with fail
    refine bodyPost_ret (v := .tuple #[.agg #[.slice none 0 0, .slice none 0 0], .bool false]) (by simp [results, Try.results8, go_sem, z0, z1]) rfl ?_
    exact HFf.out
  obtain ⟨q1, q2, q3, q4, q5⟩ := laOk_parts HVb.out.symm
  have hn80 : n ≤ 80 := by rw [HN.out]; exact q3
  have hm1' : 1 ≤ m := by rw [HM.out]; exact q4
  have hm80 : m ≤ 80 := by rw [HM.out]; exact q5
  obtain ⟨S, hS⟩ : ∃ S, S = e.locs := ⟨_, rfl⟩
  obtain ⟨p, hp⟩ : ∃ p, p = per e.vals := ⟨_, rfl⟩
  have hpb := per_bound q4
  rw [← hp, ← HM.out] at hpb
  obtain ⟨hp1, hpm⟩ := hpb
  obtain ⟨lp, hlp⟩ : ∃ lp, lp = e.vals.take p := ⟨_, rfl⟩
  have HSn : Hid (S.length = n) := by show _ = _; rw [hS, HN.out]
  have HLp : Hid (lp.length = p) := by show _ = _; rw [hlp, List.length_take, ← HM.out]; omega
  have HRd : Hid (redSt e = redK S n lp) := by show _ = _; rw [redSt_yes HVb.out.symm, hlp, hp, hS, HN.out]
  have HP := Lib.hid hp
  have HIs : Hid (∀ W, Below W1.heap.size W1 W → Ints W W.heap.size (some ⟨ga, 0, none⟩) ga 0 S ∧ Ints W W.heap.size (some ⟨gb, 0, none⟩) gb 0 lp ∧ Ints W W.heap.size (some ⟨gb, 0, none⟩) gb 0 e.vals) := fun W hW => by
    obtain ⟨h1, h2⟩ := HI0.out W hW
    rw [hS, hlp]
    exact ⟨h1, ints_take h2 p, h2⟩
  have HFo : Hid (∀ (W : World) (gs ks gl kl k : Nat) (l : List Int), Below W1.heap.size W1 W → OwnI W W1.heap.size gs S ks → OwnI W W1.heap.size gl l kl → gs ≠ gl → k ≤ n → l.length = p → redK S n lp = ⟨S.take k, l⟩ → RdPost e w (.returned (.tuple #[.agg #[.slice (some ⟨gs, 0, none⟩) k ks, .slice (some ⟨gl, 0, none⟩) p kl], .bool true])) ((W.setCell ⟨w.heap.size + 1, 0, none⟩ (.slice (some ⟨gs, 0, none⟩) k ks)).setCell ⟨w.heap.size + 1, 1, none⟩ (.slice (some ⟨gl, 0, none⟩) p kl))) := fun W gs ks gl kl k l hb h1 h2 hne hk hl hr => by
    have h0 := HB0.out.size
    have h3 := h1.lt
    have h4 := h2.lt
    have h5 := h1.le
    have h6 := h2.le
    have hkp : ∀ q, W1.heap.size ≤ q → ((W.setCell ⟨w.heap.size + 1, 0, none⟩ (.slice (some ⟨gs, 0, none⟩) k ks)).setCell ⟨w.heap.size + 1, 1, none⟩ (.slice (some ⟨gl, 0, none⟩) p kl)).heap[q]? = W.heap[q]? := fun q hq => by
      rw [Below.heap_setCell _ _ _ _ (by show ¬ _ = _; simp; omega), Below.heap_setCell _ _ _ _ (by show ¬ _ = _; simp; omega)]
    refine ⟨_, _, by rw [← HVb.out], ?_, ((HB0.out.trans (hb.mono HB0.out.size)).setCell (by simp) _).setCell (by simp) _⟩
    rw [HRd.out, hr]
    have hs1 := h1.sepTake (by rw [HSn.out]; omega) k (by rw [HSn.out]; exact hk)
    have hs2 := h2.sep (by rw [hl]; omega)
    rw [hl] at hs2
    exact StR.of ((Lay.int.slice _).sep_keep (fun q a _ => hkp q (by omega)) hs1) ((Lay.int.slice _).sep_keep (fun q a _ => hkp q (by omega)) hs2) (by simp; omega)
  clear q1 q2 q3 q4 q5 hS hp hlp HF HL1 HI0 p0 p1 z0 z1 y0 y1
  obtain ⟨p0, p1, z0, z1, y0, y1⟩ := HBx.out w1 HB1.out
  have HZ1 : Hid (W1.heap.size ≤ w1.heap.size) := HB1.out.size
  have HBd : Hid (Below W1.heap.size W1 w1.drew) := HB1.out.drew
  have HC1 : Hid (Calls Try.prog 19 #[.slice (some ⟨ga, 0, none⟩) n n] w1.drew (OwnPost S w1.drew)) := by
    have := cloneO_any S ⟨ga, 0, none⟩ n ga 0 w1.drew (by rw [HSn.out]; omega) (HIs.out _ HBd.out).1
    rw [HSn.out] at this
    exact this
  have HC2 : Hid (∀ W, Below W1.heap.size W1 W → Calls Try.prog 20 #[.slice (some ⟨gb, 0, none⟩) m m] W fun e' w' => e' = .returned (.int .i64 (p : Nat)) ∧ Below W.heap.size W w') := fun W hW => by
    have := implPer_any e.vals gb W (by rw [← HM.out]; exact hm1') (by rw [← HM.out]; exact hm80) (HIs.out W hW).2.2
    rw [← HM.out, ← HP.out] at this
    exact this
  have HC3 : Hid (∀ W, Below W1.heap.size W1 W → Calls Try.prog 19 #[.slice (some ⟨gb, 0, none⟩) p m] W (OwnPost lp W)) := fun W hW => by
    have := cloneO_any lp ⟨gb, 0, none⟩ m gb 0 W (by rw [HLp.out]; omega) (HIs.out W hW).2.1
    rw [HLp.out] at this
    exact this
  have u1 : (0 : Int) ≤ (p : Int) := by omega
  have u2 : (p : Int) ≤ (m : Int) := by omega
  go_upto_region 3 with fail
  go_cut [4, 5] from 11 to 20 (fun s l wx => ∃ gs ks gl kl : Nat, s = .slice (some ⟨gs, 0, none⟩) n ks ∧ l = .slice (some ⟨gl, 0, none⟩) p kl ∧ Hid (OwnI wx W1.heap.size gs S ks) ∧ Hid (OwnI wx W1.heap.size gl lp kl) ∧ gs ≠ gl ∧ Hid (Below W1.heap.size W1 wx))
  case first =>
    go_region_with (first
      | (go_at_call 19
         with_reducible refine HC1.out.mono ?_
         rintro e' w2 ⟨gs, ks, rfl, ho2, hb2⟩
         rw [HSn.out]
         have HB2 : Hid (Below W1.heap.size W1 w2) := HBd.out.trans (hb2.mono HZ1.out)
         have HO2 : Hid (OwnI w2 W1.heap.size gs S ks) := ho2.base (Nat.le_trans HZ1.out ho2.le)
         obtain ⟨x0, x1, _⟩ := HBx.out w2 HB2.out
         have hx2 : w.heap.size < w2.heap.size := Nat.lt_of_lt_of_le hw10 hb2.size
         clear hb2 ho2)
      | (go_at_call 20
         with_reducible refine (HC2.out w2 HB2.out).mono ?_
         rintro e' w3 ⟨rfl, hb3⟩
         have HB3 : Hid (Below W1.heap.size W1 w3) := HB2.out.trans (hb3.mono HB2.out.size)
         have HO3 := Lib.hid (HO2.out.under hb3)
         obtain ⟨x0, x1, _⟩ := HBx.out w3 HB3.out
         have hx3 : w.heap.size < w3.heap.size := Nat.lt_of_lt_of_le hx2 hb3.size
         clear hb3)
      | (go_at_call 19
         with_reducible refine (HC3.out w3 HB3.out).mono ?_
         rintro e' w4 ⟨gl, kl, rfl, ho4, hb4⟩
         rw [HLp.out]
         have HB4 : Hid (Below W1.heap.size W1 w4) := HB3.out.trans (hb4.mono HB3.out.size)
         have HO4 := Lib.hid (HO3.out.under hb4)
         have HO5 : Hid (OwnI w4 W1.heap.size gl lp kl) := ho4.base (Nat.le_trans HB3.out.size ho4.le)
         have hne4 : gs ≠ gl := by have := HO3.out.lt; have := ho4.le; omega
         obtain ⟨x0, x1, _⟩ := HBx.out w4 HB4.out
         clear hb4 ho4))
    all_goals
      (go_wp2_with fail
       go_meet
       exact ⟨gs, ks, gl, kl, rfl, rfl, HO4, HO5, hne4, HB4⟩)
  case rest =>
  obtain ⟨gs, ks, gl0, kl0, rfl, rfl, HOs, HOl, hne0, HBc⟩ := hcut
  rename World => wc
  obtain ⟨r, hr⟩ : ∃ r, r = p - 1 := ⟨_, rfl⟩
  have t2 : (p : Int) - 1 = (r : Int) := by omega
  have hrp : r < p := by omega
  have HR := Lib.hid hr
  clear hr p0 p1 z0 z1 y0 y1 HC1 HC2 HC3 HIs
  go_wp2_with fail
  go_loopw [4, 5] (fun s l wl => ∃ (k gl kl : Nat) (L : List Int), k ≤ n ∧ s = .slice (some ⟨gs, 0, none⟩) k ks ∧ l = .slice (some ⟨gl, 0, none⟩) p kl ∧ gs ≠ gl ∧ Hid (L.length = p) ∧ Hid (redK S n lp = redK S k L) ∧ Hid (OwnI wl W1.heap.size gs S ks) ∧ Hid (OwnI wl W1.heap.size gl L kl) ∧ Hid (Below W1.heap.size W1 wl)) (fun s _ _ => lenOfV s)
  case atStart => exact ⟨n, gl0, kl0, lp, Nat.le_refl _, rfl, rfl, hne0, HLp, rfl, HOs, HOl, HBc⟩
  case round =>
    clear HOs HOl HBc hne0
    obtain ⟨k, gl, kl, L, hk, rfl, rfl, hne, HL, HRk, HOs, HOl, HBr⟩ := hrel
    have hks : n ≤ ks := by have := HOs.out.cap; rw [HSn.out] at this; exact this
    by_cases hk0 : k = 0
    · subst hk0
      have HFin := Lib.hid fun d : Nat => HFo.out (wr.drewN d) gs ks gl kl 0 L (below_drewN HBr.out d) (HOs.out.drewN d) (HOl.out.drewN d) hne (Nat.zero_le _) HL.out (by rw [HRk.out]; rfl)
      have hzr := HBr.out.size
      have hwr : w.heap.size + 1 < wr.heap.size := by omega
      obtain ⟨_, _, z0, z1, y0, y1⟩ := HBx.out wr HBr.out
      go_wp2_with fail
      go_quiet (fail)
      go_wp2_with fail
      refine bodyPost_ret (v := .tuple #[.agg #[.slice (some ⟨gs, 0, none⟩) 0 ks, .slice (some ⟨gl, 0, none⟩) p kl], .bool true]) (by simp [results, Try.results8, go_sem, z0, z1]) rfl ?_
      exact HFin.out _
    obtain ⟨k1, hk1⟩ : ∃ k1, k1 = k - 1 := ⟨_, rfl⟩
    obtain ⟨x, hx⟩ : ∃ x, S[k1]? = some x := ⟨_, List.getElem?_eq_getElem (by rw [HSn.out]; omega)⟩
    obtain ⟨y, hy⟩ : ∃ y, L[r]? = some y := ⟨_, List.getElem?_eq_getElem (by rw [HL.out]; exact hrp)⟩
    have c0 := HOs.out.at hx
    have d0 := HOl.out.at hy
    have hkk : k = k1 + 1 := by omega
    have HKk := Lib.hid hkk
    have e1 : IntKind.i64.wrap ((k : Int) - 1) = (k1 : Int) := by rw [IntWalk.i64_in _ (by omega)]; omega
    have e2 : (k : Int) - 1 = (k1 : Int) := by omega
    have hlk : k1 < k := by omega
    have hk0' : 0 < k := by omega
    have hkI : (0 : Int) < (k : Int) := by omega
    have hyr : L[L.length - 1]? = some y := by rw [HL.out, ← HR.out]; exact hy
    by_cases hxy : x = y
    · have HGo : Hid (redK S k L = redK S k1 (rotL L)) := by
        show _ = _
        rw [HKk.out]
        exact redK_go (by rw [hx, hyr, hxy])
      have HCr : Hid (∀ W, Below wr.heap.size wr W → Calls Try.prog 21 #[.slice (some ⟨gl, 0, none⟩) p kl, .int .i64 (r : Int)] W (OwnPost (rotL L) W)) := fun W hW => by
        have h1 := (HOl.out.under hW)
        have := rotateO_any L gl kl r W (by rw [HL.out]; have := HOl.out.cap; rw [HL.out] at this; exact this) (by rw [HL.out]; exact hrp) (by rw [HL.out]; omega) (h1.ints h1.lt)
        unfold rotL
        rw [HL.out] at this ⊢
        rw [HR.out] at this ⊢
        exact this
      subst hxy
      clear hx hy hyr hk1 hkk hk0
      go_upto_region 5 with fail
      go_cut [39] from 24 to 39 (fun bb wx => bb = .bool true ∧ Hid (Below wr.heap.size wr wx))
      case first =>
        go_quiet (fail)
        go_wp2_with fail
        go_meet
        exact ⟨rfl, below_drewN (Below.refl _ _) _⟩
      case rest =>
      obtain ⟨rfl, HBx2⟩ := hcut
      rename World => wx
      have HBw : Hid (Below W1.heap.size W1 wx) := HBr.out.trans (HBx2.out.mono HBr.out.size)
      have HCw := Lib.hid (HCr.out wx.drew HBx2.out.drew)
      have HOw := Lib.hid (HOs.out.under HBx2.out)
      have v1 : (0 : Int) ≤ (k1 : Int) := by omega
      have v2 : (k1 : Int) ≤ (ks : Int) := by omega
      have v3 : k1 ≤ ks := by omega
      have v4 : ¬ (ks : Int) < (k1 : Int) := by omega
      have v5 : ¬ (k1 : Int) < 0 := by omega
      have v6 : IntKind.i64.wrap (k1 : Int) = (k1 : Int) := IntWalk.i64_in _ (by omega)
      clear HCr c0 d0
      go_wp2_with fail
      go_region_with (first
        | (go_at_call 21
           with_reducible refine HCw.out.mono ?_
           rintro e' w5 ⟨g5, k5, rfl, ho5, hb5⟩
           rw [rotL_length, HL.out]
           have HB5 : Hid (Below W1.heap.size W1 w5) := HBw.out.drew.trans (hb5.mono HBw.out.size)
           have HO5 : Hid (OwnI w5 W1.heap.size g5 (rotL L) k5) := ho5.base (Nat.le_trans HBw.out.size ho5.le)
           have HO6 : Hid (OwnI w5 W1.heap.size gs S ks) := HOw.out.keep (hb5.block gs HOw.out.lt)
           have hne5 : gs ≠ g5 := by
             have h1 := HOw.out.lt
             have h2 : wx.heap.size ≤ g5 := ho5.le
             omega
           have HL5 : Hid ((rotL L).length = p) := by show _ = _; rw [rotL_length, HL.out]
           clear hb5 ho5))
      all_goals (try go_wp2)
      all_goals
        (go_roundw
         case rel => ((repeat apply Exists.intro); exact ⟨⟨k1, g5, k5, rotL L, by omega, rfl, rfl, hne5, HL5, HRk.out.trans HGo.out, HO6, HO5, HB5⟩, rfl⟩)
         case measure => exact hlk)
    · have HStop : Hid (redK S n lp = ⟨S.take k, L⟩) := by
        show _ = _
        rw [HRk.out, HKk.out]
        exact redK_stop (by rw [hx, hyr]; simpa using hxy)
      have HFin := Lib.hid fun d : Nat => HFo.out (wr.drewN d) gs ks gl kl k L (below_drewN HBr.out d) (HOs.out.drewN d) (HOl.out.drewN d) hne hk HL.out HStop.out
      have hzr := HBr.out.size
      have hwr : w.heap.size + 1 < wr.heap.size := by omega
      obtain ⟨_, _, z0, z1, y0, y1⟩ := HBx.out wr HBr.out
      have c2 : (x == y) = false := by rw [beq_eq_false_iff_ne]; exact hxy
      clear hx hy hyr hk1 hkk hk0
      go_wp2_with fail
      go_quiet (fail)
      go_wp2_with fail
      refine bodyPost_ret (v := .tuple #[.agg #[.slice (some ⟨gs, 0, none⟩) k ks, .slice (some ⟨gl, 0, none⟩) p kl], .bool true]) (by simp [results, Try.results8, go_sem, z0, z1]) rfl ?_
      exact HFin.out _

end La
end Go.Proofs.Ytogfpgkdofhoaaa

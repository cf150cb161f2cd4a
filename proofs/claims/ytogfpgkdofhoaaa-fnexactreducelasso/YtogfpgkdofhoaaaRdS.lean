/- The walk of spec.ReduceLasso. -/
import Derived.Test.YtogfpgkdofhoaaaRdP
import Derived.Test.YtogfpgkdofhoaaaPeS
import Derived.Deep.RegionLaw
import Derived.Deep.RegionWith
import Derived.Deep.Cut
import Derived.Deep.CutRange
import Derived.BigQuiet
namespace Go.Proofs.Ytogfpgkdofhoaaa
namespace La
open Go.RowKit

set_option maxHeartbeats 8000000 in
set_option maxRecDepth 100000 in
theorem specRd_any (e : St) (ga gb : Nat) (w : World) (hL : Lay.sta.lies w w.heap.size e (fun j => (arr e ga gb).getD j undef)) (hd : Lay.sta.sz e ≤ 1048576) :
    Calls Try.prog 6 #[.agg (arr e ga gb)] w (RdPost e w) := by
  obtain ⟨hI0, hJ0⟩ := arr_ints hL
  obtain ⟨n, hn⟩ : ∃ n, n = e.locs.length := ⟨_, rfl⟩
  obtain ⟨m, hm⟩ : ∃ m, m = e.vals.length := ⟨_, rfl⟩
  unfold arr at hL ⊢
  rw [← hn, ← hm] at hL ⊢
  have HN := Lib.hid hn
  have HM := Lib.hid hm
  have hnm : n ≤ 1048576 ∧ m ≤ 1048576 := by rw [sta_sz, ← hn, ← hm] at hd; omega
  obtain ⟨hn1, hm1⟩ := hnm
  obtain ⟨W1, hW1⟩ : ∃ W1, W1 = (w.alloc (.cells #[.slice (some ⟨ga, 0, none⟩) n n, .slice (some ⟨gb, 0, none⟩) m m] 26)).alloc (.cells #[.slice none 0 0, .slice none 0 0] 26) := ⟨_, rfl⟩
  have hrows := rows2 w 26 26 #[.slice (some ⟨ga, 0, none⟩) n n, .slice (some ⟨gb, 0, none⟩) m m] #[.slice none 0 0, .slice none 0 0]
  rw [← hW1] at hrows
  obtain ⟨hra, hrb, hb0⟩ := hrows
  have HL1 := Lib.hid (Lay.sta.later hL hb0 hb0.size)
  have HB0 := Lib.hid hb0
  have HW1 := Lib.hid hW1
  have HRa := Lib.hid hra
  have HRb := Lib.hid hrb
  have HD := Lib.hid hd
  have hlt1 : w.heap.size + 1 < W1.heap.size := hrb.lt
  have HI0 : Hid (∀ W, Below W1.heap.size W1 W → Ints W W.heap.size (some ⟨ga, 0, none⟩) ga 0 e.locs ∧ Ints W W.heap.size (some ⟨gb, 0, none⟩) gb 0 e.vals) := fun W hW =>
    ⟨(hI0.under hb0 hb0.size).under hW hW.size, (hJ0.under hb0 hb0.size).under hW hW.size⟩
  have HF : Hid (laOk e = false → ∀ W, Below w.heap.size w W → RdPost e w (.returned (.tuple #[.agg #[.slice none 0 0, .slice none 0 0], .bool false])) W) := fun hk W hb =>
    ⟨_, _, by rw [hk], by rw [redSt_no hk]; exact StR.none_ _ _ _ hb.size _ _ _ _, hb⟩
  have HBx : Hid (∀ W, Below W1.heap.size W1 W → W.cell? ⟨w.heap.size, 0, none⟩ = some (.slice (some ⟨ga, 0, none⟩) n n) ∧ W.cell? ⟨w.heap.size, 1, none⟩ = some (.slice (some ⟨gb, 0, none⟩) m m) ∧ W.cell? ⟨w.heap.size + 1, 0, none⟩ = some (.slice none 0 0) ∧ W.cell? ⟨w.heap.size + 1, 1, none⟩ = some (.slice none 0 0) ∧ W.frozen? ⟨w.heap.size + 1, 0, none⟩ = false ∧ W.frozen? ⟨w.heap.size + 1, 1, none⟩ = false) := fun W hW => by
    obtain ⟨a0, a1⟩ := (HRa.out.under hW HRa.out.lt).two
    have hb := HRb.out.under hW HRb.out.lt
    obtain ⟨b0, b1⟩ := hb.two
    exact ⟨a0, a1, b0, b1, hb.frozen 0, hb.frozen 1⟩
  obtain ⟨vb, hvb⟩ : ∃ vb, vb = laOk e := ⟨_, rfl⟩
  have HVb := Lib.hid hvb
  clear hL hb0 hra hrb hd hn hm hW1 hI0 hJ0 hvb
  go_enter Try.func6, Try.ntmps6
  go_wp2_with fail
  rw [← HW1.out]
  refine (specLv_any e (fun j => (#[.slice (some ⟨ga, 0, none⟩) n n, .slice (some ⟨gb, 0, none⟩) m m] : Array Value).getD j undef) W1 HL1.out HD.out).mono ?_
  rintro e' w1 ⟨rfl, hb1⟩
  rw [← HVb.out]
  have HB1 : Hid (Below W1.heap.size W1 w1) := hb1
  clear hb1
  obtain ⟨p0, p1, z0, z1, y0, y1⟩ := HBx.out w1 HB1.out
  have hw1 : w.heap.size + 1 < w1.heap.size := Nat.lt_of_lt_of_le hlt1 HB1.out.size
  have hw10 : w.heap.size < w1.heap.size := by omega
  cases vb
  · have HFf := Lib.hid (HF.out HVb.out.symm ((w1.setCell ⟨w.heap.size + 1, 0, none⟩ (.slice none 0 0)).setCell ⟨w.heap.size + 1, 1, none⟩ (.slice none 0 0)) (((HB0.out.trans (HB1.out.mono HB0.out.size)).setCell (by simp) _).setCell (by simp) _))
    go_wp2_with fail
    refine bodyPost_ret (v := .tuple #[.agg #[.slice none 0 0, .slice none 0 0], .bool false]) (by simp [results, Try.results6, go_sem, z0, z1]) rfl ?_
    exact HFf.out
  obtain ⟨q1, q2, q3, q4, q5⟩ := laOk_parts HVb.out.symm
  have hn80 : n ≤ 80 := by rw [HN.out]; exact q3
  have hm1' : 1 ≤ m := by rw [HM.out]; exact q4
  have hm80 : m ≤ 80 := by rw [HM.out]; exact q5
  obtain ⟨S, hS⟩ : ∃ S, S = e.locs := ⟨_, rfl⟩
  obtain ⟨p, hp⟩ : ∃ p, p = per e.vals := ⟨_, rfl⟩
  have hpb := per_bound q4
  rw [← hp, ← HM.out] at hpb
  obtain ⟨hp1, hpm⟩ := hpb
  obtain ⟨lp, hlp⟩ : ∃ lp, lp = e.vals.take p := ⟨_, rfl⟩
  have HSn : Hid (S.length = n) := by show _ = _; rw [hS, HN.out]
  have HLp : Hid (lp.length = p) := by show _ = _; rw [hlp, List.length_take, ← HM.out]; omega
  have HRd : Hid (redSt e = redK S n lp) := by show _ = _; rw [redSt_yes HVb.out.symm, hlp, hp, hS, HN.out]
  have HP := Lib.hid hp
  have HIs : Hid (∀ W, Below W1.heap.size W1 W → Ints W W.heap.size (some ⟨ga, 0, none⟩) ga 0 S ∧ Ints W W.heap.size (some ⟨gb, 0, none⟩) gb 0 lp ∧ Ints W W.heap.size (some ⟨gb, 0, none⟩) gb 0 e.vals) := fun W hW => by
    obtain ⟨h1, h2⟩ := HI0.out W hW
    rw [hS, hlp]
    exact ⟨h1, ints_take h2 p, h2⟩
  have HFo : Hid (∀ (W : World) (gs ks gl kl k : Nat) (l : List Int), Below W1.heap.size W1 W → OwnI W W1.heap.size gs S ks → OwnI W W1.heap.size gl l kl → gs ≠ gl → k ≤ n → l.length = p → redK S n lp = ⟨S.take k, l⟩ → RdPost e w (.returned (.tuple #[.agg #[.slice (some ⟨gs, 0, none⟩) k ks, .slice (some ⟨gl, 0, none⟩) p kl], .bool true])) ((W.setCell ⟨w.heap.size + 1, 0, none⟩ (.slice (some ⟨gs, 0, none⟩) k ks)).setCell ⟨w.heap.size + 1, 1, none⟩ (.slice (some ⟨gl, 0, none⟩) p kl))) := fun W gs ks gl kl k l hb h1 h2 hne hk hl hr => by
    have h0 := HB0.out.size
    have h3 := h1.lt
    have h4 := h2.lt
    have h5 := h1.le
    have h6 := h2.le
    have hkp : ∀ q, W1.heap.size ≤ q → ((W.setCell ⟨w.heap.size + 1, 0, none⟩ (.slice (some ⟨gs, 0, none⟩) k ks)).setCell ⟨w.heap.size + 1, 1, none⟩ (.slice (some ⟨gl, 0, none⟩) p kl)).heap[q]? = W.heap[q]? := fun q hq => by
      rw [Below.heap_setCell _ _ _ _ (by show ¬ _ = _; simp; omega), Below.heap_setCell _ _ _ _ (by show ¬ _ = _; simp; omega)]
    refine ⟨_, _, by rw [← HVb.out], ?_, ((HB0.out.trans (hb.mono HB0.out.size)).setCell (by simp) _).setCell (by simp) _⟩
    rw [HRd.out, hr]
    have hs1 := h1.sepTake (by rw [HSn.out]; omega) k (by rw [HSn.out]; exact hk)
    have hs2 := h2.sep (by rw [hl]; omega)
    rw [hl] at hs2
    exact StR.of ((Lay.int.slice _).sep_keep (fun q a _ => hkp q (by omega)) hs1) ((Lay.int.slice _).sep_keep (fun q a _ => hkp q (by omega)) hs2) (by simp; omega)
  clear q1 q2 q3 q4 q5 hS hp hlp HF HL1 HI0 p0 p1 z0 z1 y0 y1
  obtain ⟨p0, p1, z0, z1, y0, y1⟩ := HBx.out w1 HB1.out
  have HZ1 : Hid (W1.heap.size ≤ w1.heap.size) := HB1.out.size
  have HC2 : Hid (∀ W, Below W1.heap.size W1 W → Calls Try.prog 16 #[.slice (some ⟨gb, 0, none⟩) m m] W fun e' w' => e' = .returned (.int .i64 (p : Nat)) ∧ Below W.heap.size W w') := fun W hW => by
    have := specPer_any e.vals (some ⟨gb, 0, none⟩) m gb 0 W (by rw [← HM.out]; exact hm1') (by rw [← HM.out]; exact hm80) (HIs.out W hW).2.2
    rw [← HM.out, ← HP.out] at this
    exact this
  have u1 : (0 : Int) ≤ (p : Int) := by omega
  have u2 : (p : Int) ≤ (m : Int) := by omega
  have HBa : Hid (Below W1.heap.size W1 w1.drew) := HB1.out.drew
  have HBb : Hid (Below W1.heap.size W1 (w1.alloc (.cells #[] 3)).drew) := (HB1.out.alloc HB1.out.size _).drew
  have HOb : Hid (OwnI (w1.alloc (.cells #[] 3)).drew W1.heap.size w1.heap.size [] 0) := own_newd HB1.out.size
  have HSb : Hid (w1.heap.size + 1 ≤ (w1.alloc (.cells #[] 3)).drew.heap.size) := by show _ ≤ _; simp
  go_upto_region 3 with fail
  go_cut [4] from 10 to 17 (fun l wx => ∃ gl kl : Nat, l = .slice (some ⟨gl, 0, none⟩) p kl ∧ Hid (OwnI wx W1.heap.size gl lp kl) ∧ Hid (Below W1.heap.size W1 wx))
  case first =>
    go_region_law (first
      | (go_simp
         go_at_call 16
         with_reducible refine (HC2.out w1.drew HBa.out).mono ?_
         rintro e' w3 ⟨rfl, hb3⟩
         have HB3 : Hid (Below W1.heap.size W1 w3) := HBa.out.trans (hb3.mono HZ1.out)
         obtain ⟨x0, x1, _⟩ := HBx.out w3 HB3.out
         have hx3 : w.heap.size < w3.heap.size := Nat.lt_of_lt_of_le hw10 hb3.size
         clear hb3)
      | (go_simp
         go_at_call 16
         with_reducible refine (HC2.out (w1.alloc (.cells #[] 3)).drew HBb.out).mono ?_
         rintro e' w3 ⟨rfl, hb3⟩
         have HB3 : Hid (Below W1.heap.size W1 w3) := HBb.out.trans (hb3.mono (Nat.le_trans HZ1.out (Nat.le_trans (Nat.le_succ _) HSb.out)))
         have HE3 : Hid (OwnI w3 W1.heap.size w1.heap.size [] 0) := HOb.out.under hb3
         obtain ⟨x0, x1, _⟩ := HBx.out w3 HB3.out
         have hx3 : w.heap.size < w3.heap.size := Nat.lt_of_lt_of_le hw10 (Nat.le_trans (Nat.le_trans (Nat.le_succ _) HSb.out) hb3.size)
         clear hb3)
      | (with_reducible refine step_ints ?_ (.tmp 10) (.tmp 16) ?_ W1.heap.size w1.heap.size 0 [] lp (some ⟨gb, 0, none⟩) gb 0 m ?_ ?_ ?_ ?_ ?_ ?_ ?_
         · rfl
         · rfl
         · rfl
         · (rw [HLp.out]; rfl)
         · exact HE3.out
         · exact (HIs.out w3 HB3.out).2.1
         · (rw [HLp.out]; simp only [List.length_nil]; omega)
         · exact HB3.out.size
         intro gl kl w4 hown hgrow hat hlt
         rw [List.nil_append, HLp.out]
         have HO4 : Hid (OwnI w4 W1.heap.size gl lp kl) := hown
         have HB4 : Hid (Below W1.heap.size W1 w4) := Below.grow HB3.out hgrow HB3.out.size HE3.out.le
         clear hown hgrow hat hlt)
      | (with_reducible refine step_ints ?_ (.tmp 10) (.tmp 16) ?_ W1.heap.size w3.heap.size 0 [] lp (some ⟨gb, 0, none⟩) gb 0 m ?_ ?_ ?_ ?_ ?_ ?_ ?_
         · rfl
         · rfl
         · rfl
         · (rw [HLp.out]; rfl)
         · exact own_new HB3.out.size
         · exact (HIs.out _ (HB3.out.alloc HB3.out.size _)).2.1
         · (rw [HLp.out]; simp only [List.length_nil]; omega)
         · exact (HB3.out.alloc HB3.out.size _).size
         intro gl kl w4 hown hgrow hat hlt
         rw [List.nil_append, HLp.out]
         have HO4 : Hid (OwnI w4 W1.heap.size gl lp kl) := hown
         have HB4 : Hid (Below W1.heap.size W1 w4) := Below.grow (HB3.out.alloc HB3.out.size _) hgrow (HB3.out.alloc HB3.out.size _).size HB3.out.size
         clear hown hgrow hat hlt))
    all_goals
      (go_wp2_with fail
       go_meet
       exact ⟨gl, kl, rfl, HO4, HB4⟩)
  case rest =>
  obtain ⟨gl0, kl0, rfl, HOl0, HBc0⟩ := hcut
  rename World => wb
  clear p0 p1 z0 z1 y0 y1 HC2
  obtain ⟨p0, p1, _⟩ := HBx.out wb HBc0.out
  have hzb : w.heap.size < wb.heap.size := by have := HBc0.out.size; omega
  have HBe : Hid (Below W1.heap.size W1 (wb.alloc (.cells #[] 3))) := HBc0.out.alloc HBc0.out.size _
  have HIe := Lib.hid (HIs.out _ HBe.out).1
  have HOe : Hid (OwnI (wb.alloc (.cells #[] 3)) W1.heap.size wb.heap.size [] 0) := own_new HBc0.out.size
  have HSe : Hid (W1.heap.size ≤ (wb.alloc (.cells #[] 3)).heap.size) := HBe.out.size
  go_wp2_with (at_builtin; refine wpList_ints rfl (.tmp 18) (.tmp 20) rfl W1.heap.size wb.heap.size 0 [] S (some ⟨ga, 0, none⟩) ga 0 n rfl (by rw [HSn.out]; rfl) HOe.out HIe.out (by rw [HSn.out]; simp only [List.length_nil]; omega) HSe.out ?_; intro gs ks wc hown hgrow hat hlt; rw [List.nil_append, HSn.out])
  have HOs : Hid (OwnI wc W1.heap.size gs S ks) := hown
  have HBc : Hid (Below W1.heap.size W1 wc) := Below.grow HBe.out hgrow HSe.out HBc0.out.size
  have HOl : Hid (OwnI wc W1.heap.size gl0 lp kl0) := by
    have h1 : OwnI (wb.alloc (.cells #[] 3)) W1.heap.size gl0 lp kl0 := HOl0.out.keep (heap_alloc_old wb _ HOl0.out.lt)
    exact h1.keep (hgrow.block gl0 h1.lt (by have := HOl0.out.lt; simp; omega))
  have hne0 : gs ≠ gl0 := by
    have h1 := HOl0.out.lt
    have h2 : gs = wb.heap.size ∨ gs = (wb.alloc (.cells #[] 3)).heap.size := hat
    simp at h2
    omega
  clear hown hgrow hat hlt HBe HIe HOe HSe HOl0 HBc0 HIs p0 p1
  obtain ⟨r, hr⟩ : ∃ r, r = p - 1 := ⟨_, rfl⟩
  have t2 : (p : Int) - 1 = (r : Int) := by omega
  have t3 : IntKind.i64.wrap ((p : Int) - 1) = (r : Int) := by rw [IntWalk.i64_in _ (by omega)]; omega
  have hrp : r < p := by omega
  have HR := Lib.hid hr
  clear hr
  go_wp2_with fail
  go_loopw [4, 5] (fun l s wl => ∃ (k gl kl : Nat) (L : List Int), k ≤ n ∧ s = .slice (some ⟨gs, 0, none⟩) k ks ∧ l = .slice (some ⟨gl, 0, none⟩) p kl ∧ gs ≠ gl ∧ Hid (L.length = p) ∧ Hid (redK S n lp = redK S k L) ∧ Hid (OwnI wl W1.heap.size gs S ks) ∧ Hid (OwnI wl W1.heap.size gl L kl) ∧ Hid (Below W1.heap.size W1 wl)) (fun _ s _ => lenOfV s)
  case atStart => exact ⟨n, gl0, kl0, lp, Nat.le_refl _, rfl, rfl, hne0, HLp, rfl, HOs, HOl, HBc⟩
  case round =>
    clear HOs HOl HBc hne0
    obtain ⟨k, gl, kl, L, hk, rfl, rfl, hne, HL, HRk, HOs, HOl, HBr⟩ := hrel
    have hks : n ≤ ks := by have := HOs.out.cap; rw [HSn.out] at this; exact this
    have hpk : p ≤ kl := by have := HOl.out.cap; rw [HL.out] at this; exact this
    by_cases hk0 : k = 0
    · subst hk0
      have HFin := Lib.hid fun d : Nat => HFo.out (wr.drewN d) gs ks gl kl 0 L (below_drewN HBr.out d) (HOs.out.drewN d) (HOl.out.drewN d) hne (Nat.zero_le _) HL.out (by rw [HRk.out]; rfl)
      have hzr := HBr.out.size
      have hwr : w.heap.size + 1 < wr.heap.size := by omega
      obtain ⟨_, _, z0, z1, y0, y1⟩ := HBx.out wr HBr.out
      go_wp2_with fail
      go_quiet (fail)
      go_wp2_with fail
      refine bodyPost_ret (v := .tuple #[.agg #[.slice (some ⟨gs, 0, none⟩) 0 ks, .slice (some ⟨gl, 0, none⟩) p kl], .bool true]) (by simp [results, Try.results6, go_sem, z0, z1]) rfl ?_
      exact HFin.out _
    obtain ⟨k1, hk1⟩ : ∃ k1, k1 = k - 1 := ⟨_, rfl⟩
    obtain ⟨x, hx⟩ : ∃ x, S[k1]? = some x := ⟨_, List.getElem?_eq_getElem (by rw [HSn.out]; omega)⟩
    obtain ⟨y, hy⟩ : ∃ y, L[r]? = some y := ⟨_, List.getElem?_eq_getElem (by rw [HL.out]; exact hrp)⟩
    have c0 := HOs.out.at hx
    have d0 := HOl.out.at hy
    have hkk : k = k1 + 1 := by omega
    have HKk := Lib.hid hkk
    have e1 : IntKind.i64.wrap ((k : Int) - 1) = (k1 : Int) := by rw [IntWalk.i64_in _ (by omega)]; omega
    have e2 : (k : Int) - 1 = (k1 : Int) := by omega
    have hlk : k1 < k := by omega
    have hk0' : 0 < k := by omega
    have hkI : (0 : Int) < (k : Int) := by omega
    have hyr : L[L.length - 1]? = some y := by rw [HL.out, ← HR.out]; exact hy
    by_cases hxy : x = y
    · have HGo : Hid (redK S k L = redK S k1 (rotL L)) := by
        show _ = _
        rw [HKk.out]
        exact redK_go (by rw [hx, hyr, hxy])
      have HRo : Hid (rotL L = [x] ++ L.take r) := by
        show _ = _
        exact rotL_cons (by rw [HL.out, HR.out]; omega) (by rw [hxy]; exact hy)
      have HTl : Hid ((L.take r).length = r) := by show _ = _; rw [List.length_take, HL.out]; omega
      have HL5 : Hid ((rotL L).length = p) := by show _ = _; rw [rotL_length, HL.out]
      have HIy : Hid (∀ W, Below wr.heap.size wr W → Ints W W.heap.size (some ⟨gl, 0, none⟩) gl 0 (L.take r)) := fun W hW => by
        have h1 := (HOl.out.under hW)
        exact ints_take (h1.ints h1.lt) r
      subst hxy
      clear hx hy hyr hk1 hkk hk0
      go_upto_region 5 with fail
      go_cut [39] from 22 to 39 (fun bb wx => bb = .bool true ∧ Hid (Below wr.heap.size wr wx))
      case first =>
        go_quiet (fail)
        go_wp2_with fail
        go_meet
        exact ⟨rfl, below_drewN (Below.refl _ _) _⟩
      case rest =>
      obtain ⟨rfl, HBx2⟩ := hcut
      rename World => wx
      have HBw : Hid (Below W1.heap.size W1 wx) := HBr.out.trans (HBx2.out.mono HBr.out.size)
      have HOw := Lib.hid (HOs.out.under HBx2.out)
      have HOlw := Lib.hid (HOl.out.under HBx2.out)
      have d1 : wx.cell? ⟨gl, r, none⟩ = some (.int .i64 x) := (HBx2.out.cell (p := ⟨gl, r, none⟩) HOl.out.lt).trans d0
      obtain ⟨XX, hXX⟩ : ∃ XX, XX = (wx.alloc (.cells #[.int .i64 x] 3)).drew := ⟨_, rfl⟩
      have hbX : Below wx.heap.size wx XX := by rw [hXX]; exact ((Below.refl _ _).alloc (Nat.le_refl _) _).drew
      have HBX := Lib.hid (HBw.out.trans (hbX.mono HBw.out.size))
      have HIX := Lib.hid (HIy.out XX (HBx2.out.trans (hbX.mono HBx2.out.size)))
      have HOX : Hid (OwnI XX W1.heap.size wx.heap.size [x] 1) := by
        show OwnI _ _ _ _ _
        rw [hXX]
        exact OwnI.single HBw.out.size (Row.new wx 3 #[.int .i64 x])
      have HOsX : Hid (OwnI XX W1.heap.size gs S ks) := HOw.out.under hbX
      rw [hXX] at HBX HIX HOX HOsX
      have v1 : (0 : Int) ≤ (k1 : Int) := by omega
      have v2 : (k1 : Int) ≤ (ks : Int) := by omega
      have v3 : (0 : Int) ≤ (r : Int) := by omega
      have v4 : (r : Int) ≤ (kl : Int) := by omega
      have v6 : IntKind.i64.wrap (r : Int) = (r : Int) := IntWalk.i64_in _ (by omega)
      have hgw : gs < wx.heap.size := HOw.out.lt
      clear hbX hXX c0 d0 HIy
      go_wp2_with fail
      go_region_law (first
        | (with_reducible refine step_ints ?_ (.tmp 51) (.tmp 56) ?_ W1.heap.size wx.heap.size 1 [x] (L.take r) (some ⟨gl, 0, none⟩) gl 0 kl ?_ ?_ ?_ ?_ ?_ ?_ ?_
           · rfl
           · rfl
           · rfl
           · (rw [HTl.out]; rfl)
           · exact HOX.out
           · exact HIX.out
           · (rw [HTl.out]; simp only [List.length_cons, List.length_nil]; omega)
           · exact HBX.out.size
           intro g5 k5 w5 hown hgrow hat hlt
           rw [← HRo.out, HL5.out]
           have HO5 : Hid (OwnI w5 W1.heap.size g5 (rotL L) k5) := by
             show OwnI _ _ _ _ _
             rw [HRo.out]
             exact hown
           have HB5 : Hid (Below W1.heap.size W1 w5) := Below.grow HBX.out hgrow HBX.out.size HBw.out.size
           have HO6 : Hid (OwnI w5 W1.heap.size gs S ks) := HOsX.out.keep (hgrow.block gs HOsX.out.lt (by simp; omega))
           have hne5 : gs ≠ g5 := by
             have h2 : g5 = wx.heap.size ∨ g5 = (wx.alloc (.cells #[.int .i64 x] 3)).drew.heap.size := hat
             simp at h2
             omega
           clear hown hgrow hat hlt))
      all_goals (try go_wp2)
      all_goals
        (go_roundw
         case rel => ((repeat apply Exists.intro); exact ⟨⟨k1, g5, k5, rotL L, by omega, rfl, rfl, hne5, HL5, HRk.out.trans HGo.out, HO6, HO5, HB5⟩, rfl⟩)
         case measure => exact hlk)
    · have HStop : Hid (redK S n lp = ⟨S.take k, L⟩) := by
        show _ = _
        rw [HRk.out, HKk.out]
        exact redK_stop (by rw [hx, hyr]; simpa using hxy)
      have HFin := Lib.hid fun d : Nat => HFo.out (wr.drewN d) gs ks gl kl k L (below_drewN HBr.out d) (HOs.out.drewN d) (HOl.out.drewN d) hne hk HL.out HStop.out
      have hzr := HBr.out.size
      have hwr : w.heap.size + 1 < wr.heap.size := by omega
      obtain ⟨_, _, z0, z1, y0, y1⟩ := HBx.out wr HBr.out
      have c2 : (x == y) = false := by rw [beq_eq_false_iff_ne]; exact hxy
      clear hx hy hyr hk1 hkk hk0
      go_wp2_with fail
      go_quiet (fail)
      go_wp2_with fail
      refine bodyPost_ret (v := .tuple #[.agg #[.slice (some ⟨gs, 0, none⟩) k ks, .slice (some ⟨gl, 0, none⟩) p kl], .bool true]) (by simp [results, Try.results6, go_sem, z0, z1]) rfl ?_
      exact HFin.out _

end La
end Go.Proofs.Ytogfpgkdofhoaaa

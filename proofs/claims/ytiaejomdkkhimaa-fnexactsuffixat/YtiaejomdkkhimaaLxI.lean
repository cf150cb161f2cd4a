/- The walk of impl.SuffixAt. -/
import Derived.Test.YtiaejomdkkhimaaLxP
import Derived.Deep.RegionHeld3
import Derived.Deep.RegionWith
import Derived.Deep.Cut
import Derived.Deep.CutRange
namespace Go.Proofs.Ytiaejomdkkhimaa
namespace La
open Go.RowKit

set_option maxHeartbeats 8000000 in
set_option maxRecDepth 100000 in
theorem implLx_any (e : St) (ga gb : Nat) (i : Int) (w : World) (hL : Lay.sta.lies w w.heap.size e (fun j => (arr e ga gb).getD j undef)) (hd : Lay.sta.sz e ≤ 1048576) (HI : Hid (Rng i)) :
    Calls Try.prog 19 #[.agg (arr e ga gb), .int .i64 i] w (LxPost e i w) := by
  have hlies := hL
  obtain ⟨hI0, hJ0⟩ := arr_ints hL
  obtain ⟨n, hn⟩ : ∃ n, n = e.locs.length := ⟨_, rfl⟩
  obtain ⟨m, hm⟩ : ∃ m, m = e.vals.length := ⟨_, rfl⟩
  unfold arr at hL ⊢
  rw [← hn, ← hm] at hL ⊢
  have HN := Lib.hid hn
  have HM := Lib.hid hm
  have hnm : n ≤ 1048576 ∧ m ≤ 1048576 := by rw [sta_sz, ← hn, ← hm] at hd; omega
  obtain ⟨hn1, hm1⟩ := hnm
  obtain ⟨W1, hW1⟩ : ∃ W1, W1 = (w.alloc (.cells #[.slice (some ⟨ga, 0, none⟩) n n, .slice (some ⟨gb, 0, none⟩) m m] 27)).alloc (.cells #[.slice none 0 0, .slice none 0 0] 27) := ⟨_, rfl⟩
  have hrows := rows2 w 27 27 #[.slice (some ⟨ga, 0, none⟩) n n, .slice (some ⟨gb, 0, none⟩) m m] #[.slice none 0 0, .slice none 0 0]
  rw [← hW1] at hrows
  obtain ⟨hra, hrb, hb0⟩ := hrows
  have HL1 := Lib.hid (Lay.sta.later hL hb0 hb0.size)
  have HB0 := Lib.hid hb0
  have HW1 := Lib.hid hW1
  have HRa := Lib.hid hra
  have HRb := Lib.hid hrb
  have HD := Lib.hid hd
  have hlt1 : w.heap.size + 1 < W1.heap.size := hrb.lt
  have HI0 : Hid (∀ W, Below W1.heap.size W1 W → Ints W W1.heap.size (some ⟨ga, 0, none⟩) ga 0 e.locs ∧ Ints W W1.heap.size (some ⟨gb, 0, none⟩) gb 0 e.vals) := fun W hW =>
    ⟨(hI0.under hb0 hb0.size).under hW (Nat.le_refl _), (hJ0.under hb0 hb0.size).under hW (Nat.le_refl _)⟩
  have HF : Hid (laHas e i = false → ∀ W, Below w.heap.size w W → LxPost e i w (.returned (.tuple #[.agg #[.slice none 0 0, .slice none 0 0], .bool false])) W) := fun hk W hb =>
    ⟨_, _, by rw [hk], by rw [sufSt_no hk]; exact StR.none_ _ _ _ hb.size _ _ _ _, hb⟩
  have HBx : Hid (∀ W, Below W1.heap.size W1 W → W.cell? ⟨w.heap.size, 0, none⟩ = some (.slice (some ⟨ga, 0, none⟩) n n) ∧ W.cell? ⟨w.heap.size, 1, none⟩ = some (.slice (some ⟨gb, 0, none⟩) m m) ∧ W.cell? ⟨w.heap.size + 1, 0, none⟩ = some (.slice none 0 0) ∧ W.cell? ⟨w.heap.size + 1, 1, none⟩ = some (.slice none 0 0) ∧ W.frozen? ⟨w.heap.size + 1, 0, none⟩ = false ∧ W.frozen? ⟨w.heap.size + 1, 1, none⟩ = false) := fun W hW => by
    obtain ⟨a0, a1⟩ := (HRa.out.under hW HRa.out.lt).two
    have hb := HRb.out.under hW HRb.out.lt
    obtain ⟨b0, b1⟩ := hb.two
    exact ⟨a0, a1, b0, b1, hb.frozen 0, hb.frozen 1⟩
  have HNo : Hid (laOk e = false ∨ i < 0 → laHas e i = false) := fun h => (laGet_no h).2
  obtain ⟨vb, hvb⟩ : ∃ vb, vb = laOk e := ⟨_, rfl⟩
  have HVb := Lib.hid hvb
  clear hL hb0 hra hrb hd hn hm hW1 hI0 hJ0 hlies hvb
  go_enter Try.func19, Try.ntmps19
  go_wp2_with fail
  rw [← HW1.out]
  refine (implLv_any e (fun j => (#[.slice (some ⟨ga, 0, none⟩) n n, .slice (some ⟨gb, 0, none⟩) m m] : Array Value).getD j undef) W1 HL1.out HD.out).mono ?_
  rintro e' w1 ⟨rfl, hb1⟩
  rw [← HVb.out]
  have HB1 : Hid (Below W1.heap.size W1 w1) := hb1
  clear hb1
  obtain ⟨p0, p1, z0, z1, y0, y1⟩ := HBx.out w1 HB1.out
  have hw1 : w.heap.size + 1 < w1.heap.size := Nat.lt_of_lt_of_le hlt1 HB1.out.size
  cases vb
  · have HFf := Lib.hid (HF.out (HNo.out (.inl HVb.out.symm)) ((w1.setCell ⟨w.heap.size + 1, 0, none⟩ (.slice none 0 0)).setCell ⟨w.heap.size + 1, 1, none⟩ (.slice none 0 0)) (((HB0.out.trans (HB1.out.mono HB0.out.size)).setCell (by simp) _).setCell (by simp) _))
    go_wp2_with fail
    refine bodyPost_ret (v := .tuple #[.agg #[.slice none 0 0, .slice none 0 0], .bool false]) (by simp [results, Try.results19, go_sem, z0, z1]) rfl ?_
    exact HFf.out
  by_cases hi : i < 0
  · have HFf := Lib.hid (HF.out (HNo.out (.inr hi)) ((w1.setCell ⟨w.heap.size + 1, 0, none⟩ (.slice none 0 0)).setCell ⟨w.heap.size + 1, 1, none⟩ (.slice none 0 0)) (((HB0.out.trans (HB1.out.mono HB0.out.size)).setCell (by simp) _).setCell (by simp) _))
    go_wp2_with fail
    refine bodyPost_ret (v := .tuple #[.agg #[.slice none 0 0, .slice none 0 0], .bool false]) (by simp [results, Try.results19, go_sem, z0, z1]) rfl ?_
    exact HFf.out
  obtain ⟨k, rfl⟩ : ∃ k : Nat, i = k := ⟨i.toNat, by omega⟩
  obtain ⟨q1, q2, q3, q4, q5⟩ := laOk_parts HVb.out.symm
  have hhas : laHas e k = true := (laGet_yes HVb.out.symm).2
  have HHas := Lib.hid hhas
  have HQ : Hid (e.locs.length ≤ 80 ∧ 1 ≤ e.vals.length ∧ e.vals.length ≤ 80) := ⟨q3, q4, q5⟩
  have hn80 : n ≤ 80 := by rw [HN.out]; exact q3
  have hm1' : 1 ≤ m := by rw [HM.out]; exact q4
  have hm80 : m ≤ 80 := by rw [HM.out]; exact q5
  have HK : Hid (In63 (k : Int)) := ⟨by omega, HI.out.2⟩
  have hlt := laIx_lt (n := n) (i := k) hm1'
  obtain ⟨ix, hix⟩ : ∃ ix, ix = laIx n m k := ⟨_, rfl⟩
  have HX : Hid (laIx e.locs.length e.vals.length k = ix) := by show _ = _; rw [← HN.out, ← HM.out, hix]
  have HXi : Hid (k < n → ix = k) := fun h => by rw [hix, laIx_in h]
  have HXo : Hid (¬ k < n → ix = n + (k - n) % m ∧ (k - n) % m < m) := fun h => ⟨by rw [hix, laIx_out h], Nat.mod_lt _ (by omega)⟩
  have e1 : IntKind.i64.wrap ((ix : Int) - (n : Int)) = (ix : Int) - (n : Int) := IntWalk.i64_in _ (by rw [← hix] at hlt; omega)
  rw [← hix] at hlt
  have HL2 := Lib.hid (Lay.sta.later HL1.out HB1.out HB1.out.size)
  have HFo : Hid (∀ (W : World) (X Y : Value) (m0 m1 n0 n1 : Nat) (s : St), sufSt e k = s → Below W1.heap.size W1 W → (Lay.int.slice 3).sep W m0 m1 s.locs (fun _ => X) → (Lay.int.slice 3).sep W n0 n1 s.vals (fun _ => Y) → (W1.heap.size ≤ m0 ∧ m0 ≤ m1 ∧ m1 ≤ W.heap.size ∧ W1.heap.size ≤ n0 ∧ n0 ≤ n1 ∧ n1 ≤ W.heap.size ∧ (m1 ≤ n0 ∨ n1 ≤ m0)) → LxPost e k w (.returned (.tuple #[.agg #[X, Y], .bool true])) ((W.setCell ⟨w.heap.size + 1, 0, none⟩ X).setCell ⟨w.heap.size + 1, 1, none⟩ Y)) := fun W X Y m0 m1 n0 n1 s hs hb h1 h2 ho => by
    have h0 := HB0.out.size
    have hk : ∀ q, W1.heap.size ≤ q → ((W.setCell ⟨w.heap.size + 1, 0, none⟩ X).setCell ⟨w.heap.size + 1, 1, none⟩ Y).heap[q]? = W.heap[q]? := fun q hq => by
      rw [Below.heap_setCell _ _ _ _ (by show ¬ _ = _; simp; omega), Below.heap_setCell _ _ _ _ (by show ¬ _ = _; simp; omega)]
    refine ⟨X, Y, by rw [HHas.out], ?_, ((HB0.out.trans (hb.mono HB0.out.size)).setCell (by simp) _).setCell (by simp) _⟩
    rw [hs]
    exact StR.of ((Lay.int.slice _).sep_keep (fun q a _ => hk q (by omega)) h1) ((Lay.int.slice _).sep_keep (fun q a _ => hk q (by omega)) h2) (by simp; omega)
  clear q1 q2 q3 q4 q5 hhas hix HNo HF HL1
  clear p0 p1 z0 z1 y0 y1
  have HRa1 := Lib.hid (HRa.out.under HB1.out HRa.out.lt)
  obtain ⟨p0, p1⟩ := HRa1.out.two
  go_upto_region 3 with fail
  go_cut [6] from 15 to 21 (fun v wx => v = .int .i64 ((ix : Int) - (n : Int)) ∧ Hid (Below W1.heap.size W1 wx))
  case first =>
    have HLd : Hid (Lay.sta.lies w1.drew w1.drew.heap.size e (fun j => (#[.slice (some ⟨ga, 0, none⟩) n n, .slice (some ⟨gb, 0, none⟩) m m] : Array Value).getD j undef)) := Lay.sta.later HL2.out (Below.refl _ _).drew (Nat.le_refl _)
    have HRd := Lib.hid (HRa1.out.under (Below.refl _ _).drew HRa1.out.lt)
    go_region_with (first
      | (go_at_call 35
         refine (implIx_any e (fun j => (#[.slice (some ⟨ga, 0, none⟩) n n, .slice (some ⟨gb, 0, none⟩) m m] : Array Value).getD j undef) k _ HLd.out HK HQ.out.1 HQ.out.2.1 HQ.out.2.2).mono ?_
         rintro e' w2 ⟨rfl, hb2⟩
         rw [HX.out]
         obtain ⟨o0, o1⟩ := (HRd.out.under hb2 HRd.out.lt).two
         have HB2 : Hid (Below W1.heap.size W1 w2) := HB1.out.drew.trans (hb2.mono HB1.out.size)
         clear hb2))
    all_goals
      (go_wp2_with fail
       go_meet
       exact ⟨rfl, HB2⟩)
  case rest =>
  obtain ⟨rfl, HBc⟩ := hcut
  rename World => wc
  clear p0 p1 HL2 HRa1
  obtain ⟨p0, p1, z0, z1, y0, y1⟩ := HBx.out wc HBc.out
  have hwc : w.heap.size + 1 < wc.heap.size := Nat.lt_of_lt_of_le hlt1 HBc.out.size
  have hwc0 : w.heap.size < wc.heap.size := by omega
  by_cases hk : k < n
  · obtain rfl : ix = k := HXi.out hk
    have t1 : ((ix : Int) - (n : Int) < 0) := by omega
    have HS := Lib.hid (sufSt_in HHas.out (by rw [← HN.out]; exact hk))
    have HC1 : Hid (∀ W, Below W1.heap.size W1 W → Calls Try.prog 36 #[.slice (some ⟨ga, ix, none⟩) (n - ix) (n - ix)] W (RowPost (e.locs.drop ix) W)) := fun W hW => by
      have h1 := ints_drop (HI0.out W hW).1 ix
      rw [Nat.zero_add] at h1
      have := cloneN_any (e.locs.drop ix) (some ⟨ga, ix, none⟩) (n - ix) ga ix W (by rw [List.length_drop, ← HN.out]; omega) (fun q z hz => ⟨(h1 q z hz).1, Nat.lt_of_lt_of_le (h1 q z hz).2.1 hW.size, (h1 q z hz).2.2⟩)
      rw [List.length_drop, ← HN.out] at this
      exact this
    have HC2 : Hid (∀ W, Below W1.heap.size W1 W → Calls Try.prog 36 #[.slice (some ⟨gb, 0, none⟩) m m] W (RowPost e.vals W)) := fun W hW => by
      have h1 := (HI0.out W hW).2
      have := cloneN_any e.vals (some ⟨gb, 0, none⟩) m gb 0 W (by rw [← HM.out]; omega) (fun q z hz => ⟨(h1 q z hz).1, Nat.lt_of_lt_of_le (h1 q z hz).2.1 hW.size, (h1 q z hz).2.2⟩)
      rw [← HM.out] at this
      exact this
    obtain ⟨xs, hxs⟩ : ∃ xs, xs = e.locs.drop ix := ⟨_, rfl⟩
    obtain ⟨ys, hys⟩ : ∃ ys, ys = e.vals := ⟨_, rfl⟩
    rw [← hxs] at HC1 HS
    rw [← hys] at HC2 HS
    clear hxs hys
    have BD : Hid (Below W1.heap.size W1 wc.drew) := HBc.out.drew
    have BS : Hid (W1.heap.size ≤ wc.heap.size) := HBc.out.size
    have u1 : (0 : Int) ≤ (ix : Int) := by omega
    have u2 : (ix : Int) ≤ (n : Int) := by omega
    have u3 : (ix : Int) < (n : Int) := by omega
    have u4 : ¬ (n : Int) < (ix : Int) := by omega
    have u5 : ¬ (ix : Int) < 0 := by omega
    have u6 : ¬ n - ix = 0 := by omega
    go_wp2_with fail
    go_region_with (first
      | (go_at_call 36
         with_reducible refine (HC1.out wc.drew BD.out).mono ?_
         rintro e' w3 ⟨A, c, rfl, hs3, hb3⟩
         have HB3 : Hid (Below W1.heap.size W1 w3) := BD.out.trans (hb3.mono BS.out)
         have HS3 := Lib.hid hs3
         have HZ3 : Hid (wc.heap.size ≤ w3.heap.size) := hb3.size
         obtain ⟨x0, x1, _⟩ := HBx.out w3 HB3.out
         clear hb3 hs3)
      | (go_at_call 36
         with_reducible refine (HC2.out w3 HB3.out).mono ?_
         rintro e' w4 ⟨B, d, rfl, hs4, hb4⟩
         have HB4 : Hid (Below W1.heap.size W1 w4) := HB3.out.trans (hb4.mono HB3.out.size)
         have HFin := Lib.hid (HFo.out w4 (.slice A xs.length c) (.slice B ys.length d) wc.heap.size w3.heap.size w3.heap.size w4.heap.size ⟨xs, ys⟩ HS.out HB4.out ((Lay.int.slice _).sep_keep (fun q _ hq => hb4.block q hq) HS3.out) hs4 ⟨BS.out, HZ3.out, hb4.size, Nat.le_trans BS.out HZ3.out, hb4.size, Nat.le_refl _, .inl (Nat.le_refl _)⟩)
         obtain ⟨x0, x1, x2, x3, x4, x5⟩ := HBx.out w4 HB4.out
         have hw4 : w.heap.size + 1 < w4.heap.size := Nat.lt_of_lt_of_le hlt1 HB4.out.size
         clear hb4 hs4))
    all_goals go_wp2_with fail
    all_goals
      (refine bodyPost_ret (v := .tuple #[.agg #[.slice A xs.length c, .slice B ys.length d], .bool true]) (by simp [results, Try.results19, go_sem, x2, x3]) rfl ?_
       exact HFin.out)
  · obtain ⟨hx1, hq⟩ := HXo.out hk
    have HS := Lib.hid (sufSt_out HHas.out (by rw [← HN.out]; exact hk))
    rw [← HN.out, ← HM.out] at HS
    obtain ⟨q, hqe⟩ : ∃ q, q = (k - n) % m := ⟨_, rfl⟩
    rw [← hqe] at hx1 hq HS
    have t1 : ¬ ((ix : Int) - (n : Int) < 0) := by omega
    have t2 : (ix : Int) - (n : Int) = (q : Int) := by omega
    have HC := HI0.out wc HBc.out
    have HCr : Hid (Calls Try.prog 37 #[.slice (some ⟨gb, 0, none⟩) m m, .int .i64 (q : Int)] wc (RowPost (e.vals.drop q ++ e.vals.take q) wc)) := by
      have := rotate_any e.vals gb m q wc (by rw [← HM.out]; exact Nat.le_refl _) (by rw [← HM.out]; exact hq) (by rw [← HM.out]; omega) (fun q z hz => ⟨(HC.2 q z hz).1, Nat.lt_of_lt_of_le (HC.2 q z hz).2.1 HBc.out.size, (HC.2 q z hz).2.2⟩)
      rw [← HM.out] at this
      exact this
    obtain ⟨rs, hrs⟩ : ∃ rs, rs = e.vals.drop q ++ e.vals.take q := ⟨_, rfl⟩
    rw [← hrs] at HCr HS
    rw [t2]
    clear hrs HC hqe hx1 t1 t2 e1
    have t1 : ¬ ((q : Int) < 0) := by omega
    go_wp2_with fail
    refine HCr.out.mono ?_
    rintro e' w3 ⟨A, c, rfl, hs3, hb3⟩
    have HB3 : Hid (Below W1.heap.size W1 w3) := HBc.out.trans (hb3.mono HBc.out.size)
    have HFin := Lib.hid (HFo.out w3 (.slice none 0 0) (.slice A rs.length c) W1.heap.size W1.heap.size wc.heap.size w3.heap.size ⟨[], rs⟩ HS.out HB3.out (sep_nil _ _ _ (Nat.le_refl _) _ _) hs3 ⟨Nat.le_refl _, Nat.le_refl _, HB3.out.size, HBc.out.size, hb3.size, Nat.le_refl _, .inl HBc.out.size⟩)
    clear hb3 hs3 p0 p1 z0 z1 y0 y1
    obtain ⟨x0, x1, x2, x3, x4, x5⟩ := HBx.out w3 HB3.out
    have hw3 : w.heap.size + 1 < w3.heap.size := Nat.lt_of_lt_of_le hlt1 HB3.out.size
    go_wp2_with fail
    refine bodyPost_ret (v := .tuple #[.agg #[.slice none 0 0, .slice A rs.length c], .bool true]) (by simp [results, Try.results19, go_sem, x2, x3]) rfl ?_
    exact HFin.out

end La
end Go.Proofs.Ytiaejomdkkhimaa

/- The walk of spec.SuffixAt at a position in the loop. -/
import Derived.Test.YtiaejomdkkhimaaLxQ
namespace Go.Proofs.Ytiaejomdkkhimaa
namespace La
open Go.RowKit

set_option maxHeartbeats 8000000 in
set_option maxRecDepth 100000 in
theorem specLxB_any (e : St) (ga gb : Nat) (i : Int) (w : World) (hL : Lay.sta.lies w w.heap.size e (fun j => (arr e ga gb).getD j undef)) (hd : Lay.sta.sz e ≤ 1048576) (HI : Hid (Rng i)) (hcase : 0 ≤ i ∧ (e.locs.length : Int) ≤ i) :
    Calls Try.prog 18 #[.agg (arr e ga gb), .int .i64 i] w (LxPost e i w) := by
  have HCase := Lib.hid hcase
  clear hcase
  have hlies := hL
  obtain ⟨hI0, hJ0⟩ := arr_ints hL
  obtain ⟨n, hn⟩ : ∃ n, n = e.locs.length := ⟨_, rfl⟩
  obtain ⟨m, hm⟩ : ∃ m, m = e.vals.length := ⟨_, rfl⟩
  unfold arr at hL ⊢
  rw [← hn, ← hm] at hL ⊢
  have HN := Lib.hid hn
  have HM := Lib.hid hm
  have hnm : n ≤ 1048576 ∧ m ≤ 1048576 := by rw [sta_sz, ← hn, ← hm] at hd; omega
  obtain ⟨hn1, hm1⟩ := hnm
  obtain ⟨W1, hW1⟩ : ∃ W1, W1 = (w.alloc (.cells #[.slice (some ⟨ga, 0, none⟩) n n, .slice (some ⟨gb, 0, none⟩) m m] 27)).alloc (.cells #[.slice none 0 0, .slice none 0 0] 27) := ⟨_, rfl⟩
  have hrows := rows2 w 27 27 #[.slice (some ⟨ga, 0, none⟩) n n, .slice (some ⟨gb, 0, none⟩) m m] #[.slice none 0 0, .slice none 0 0]
  rw [← hW1] at hrows
  obtain ⟨hra, hrb, hb0⟩ := hrows
  have HL1 := Lib.hid (Lay.sta.later hL hb0 hb0.size)
  have HB0 := Lib.hid hb0
  have HW1 := Lib.hid hW1
  have HRa := Lib.hid hra
  have HRb := Lib.hid hrb
  have HD := Lib.hid hd
  have hlt1 : w.heap.size + 1 < W1.heap.size := hrb.lt
  have HI0 : Hid (∀ W, Below W1.heap.size W1 W → Ints W W1.heap.size (some ⟨ga, 0, none⟩) ga 0 e.locs ∧ Ints W W1.heap.size (some ⟨gb, 0, none⟩) gb 0 e.vals) := fun W hW =>
    ⟨(hI0.under hb0 hb0.size).under hW (Nat.le_refl _), (hJ0.under hb0 hb0.size).under hW (Nat.le_refl _)⟩
  have HF : Hid (laHas e i = false → ∀ W, Below w.heap.size w W → LxPost e i w (.returned (.tuple #[.agg #[.slice none 0 0, .slice none 0 0], .bool false])) W) := fun hk W hb =>
    ⟨_, _, by rw [hk], by rw [sufSt_no hk]; exact StR.none_ _ _ _ hb.size _ _ _ _, hb⟩
  have HBx : Hid (∀ W, Below W1.heap.size W1 W → W.cell? ⟨w.heap.size, 0, none⟩ = some (.slice (some ⟨ga, 0, none⟩) n n) ∧ W.cell? ⟨w.heap.size, 1, none⟩ = some (.slice (some ⟨gb, 0, none⟩) m m) ∧ W.cell? ⟨w.heap.size + 1, 0, none⟩ = some (.slice none 0 0) ∧ W.cell? ⟨w.heap.size + 1, 1, none⟩ = some (.slice none 0 0) ∧ W.frozen? ⟨w.heap.size + 1, 0, none⟩ = false ∧ W.frozen? ⟨w.heap.size + 1, 1, none⟩ = false) := fun W hW => by
    obtain ⟨a0, a1⟩ := (HRa.out.under hW HRa.out.lt).two
    have hb := HRb.out.under hW HRb.out.lt
    obtain ⟨b0, b1⟩ := hb.two
    exact ⟨a0, a1, b0, b1, hb.frozen 0, hb.frozen 1⟩
  have HNo : Hid (laOk e = false ∨ i < 0 → laHas e i = false) := fun h => (laGet_no h).2
  obtain ⟨vb, hvb⟩ : ∃ vb, vb = laOk e := ⟨_, rfl⟩
  have HVb := Lib.hid hvb
  clear hL hb0 hra hrb hd hn hm hW1 hI0 hJ0 hlies hvb
  go_enter Try.func18, Try.ntmps18
  go_wp2_with fail
  rw [← HW1.out]
  refine (specLv_any e (fun j => (#[.slice (some ⟨ga, 0, none⟩) n n, .slice (some ⟨gb, 0, none⟩) m m] : Array Value).getD j undef) W1 HL1.out HD.out).mono ?_
  rintro e' w1 ⟨rfl, hb1⟩
  rw [← HVb.out]
  have HB1 : Hid (Below W1.heap.size W1 w1) := hb1
  clear hb1
  obtain ⟨p0, p1, z0, z1, y0, y1⟩ := HBx.out w1 HB1.out
  have hw1 : w.heap.size + 1 < w1.heap.size := Nat.lt_of_lt_of_le hlt1 HB1.out.size
  cases vb
  · have HFf := Lib.hid (HF.out (HNo.out (.inl HVb.out.symm)) ((w1.setCell ⟨w.heap.size + 1, 0, none⟩ (.slice none 0 0)).setCell ⟨w.heap.size + 1, 1, none⟩ (.slice none 0 0)) (((HB0.out.trans (HB1.out.mono HB0.out.size)).setCell (by simp) _).setCell (by simp) _))
    go_wp2_with fail
    refine bodyPost_ret (v := .tuple #[.agg #[.slice none 0 0, .slice none 0 0], .bool false]) (by simp [results, Try.results18, go_sem, z0, z1]) rfl ?_
    exact HFf.out
  by_cases hi : i < 0
  · have HFf := Lib.hid (HF.out (HNo.out (.inr hi)) ((w1.setCell ⟨w.heap.size + 1, 0, none⟩ (.slice none 0 0)).setCell ⟨w.heap.size + 1, 1, none⟩ (.slice none 0 0)) (((HB0.out.trans (HB1.out.mono HB0.out.size)).setCell (by simp) _).setCell (by simp) _))
    go_wp2_with fail
    refine bodyPost_ret (v := .tuple #[.agg #[.slice none 0 0, .slice none 0 0], .bool false]) (by simp [results, Try.results18, go_sem, z0, z1]) rfl ?_
    exact HFf.out
  obtain ⟨k, rfl⟩ : ∃ k : Nat, i = k := ⟨i.toNat, by omega⟩
  obtain ⟨q1, q2, q3, q4, q5⟩ := laOk_parts HVb.out.symm
  have hhas : laHas e k = true := (laGet_yes HVb.out.symm).2
  have HHas := Lib.hid hhas
  have HQ : Hid (e.locs.length ≤ 80 ∧ 1 ≤ e.vals.length ∧ e.vals.length ≤ 80) := ⟨q3, q4, q5⟩
  have hn80 : n ≤ 80 := by rw [HN.out]; exact q3
  have hm1' : 1 ≤ m := by rw [HM.out]; exact q4
  have hm80 : m ≤ 80 := by rw [HM.out]; exact q5
  have HK : Hid (In63 (k : Int)) := ⟨by omega, HI.out.2⟩
  have hlt := laIx_lt (n := n) (i := k) hm1'
  obtain ⟨ix, hix⟩ : ∃ ix, ix = laIx n m k := ⟨_, rfl⟩
  have HX : Hid (laIx e.locs.length e.vals.length k = ix) := by show _ = _; rw [← HN.out, ← HM.out, hix]
  have HXi : Hid (k < n → ix = k) := fun h => by rw [hix, laIx_in h]
  have HXo : Hid (¬ k < n → ix = n + (k - n) % m ∧ (k - n) % m < m) := fun h => ⟨by rw [hix, laIx_out h], Nat.mod_lt _ (by omega)⟩
  have e1 : IntKind.i64.wrap ((ix : Int) - (n : Int)) = (ix : Int) - (n : Int) := IntWalk.i64_in _ (by rw [← hix] at hlt; omega)
  rw [← hix] at hlt
  have HL2 := Lib.hid (Lay.sta.later HL1.out HB1.out HB1.out.size)
  have HFo : Hid (∀ (W : World) (X Y : Value) (m0 m1 n0 n1 : Nat) (s : St), sufSt e k = s → Below W1.heap.size W1 W → (Lay.int.slice 3).sep W m0 m1 s.locs (fun _ => X) → (Lay.int.slice 3).sep W n0 n1 s.vals (fun _ => Y) → (W1.heap.size ≤ m0 ∧ m0 ≤ m1 ∧ m1 ≤ W.heap.size ∧ W1.heap.size ≤ n0 ∧ n0 ≤ n1 ∧ n1 ≤ W.heap.size ∧ (m1 ≤ n0 ∨ n1 ≤ m0)) → LxPost e k w (.returned (.tuple #[.agg #[X, Y], .bool true])) ((W.setCell ⟨w.heap.size + 1, 0, none⟩ X).setCell ⟨w.heap.size + 1, 1, none⟩ Y)) := fun W X Y m0 m1 n0 n1 s hs hb h1 h2 ho => by
    have h0 := HB0.out.size
    have hk : ∀ q, W1.heap.size ≤ q → ((W.setCell ⟨w.heap.size + 1, 0, none⟩ X).setCell ⟨w.heap.size + 1, 1, none⟩ Y).heap[q]? = W.heap[q]? := fun q hq => by
      rw [Below.heap_setCell _ _ _ _ (by show ¬ _ = _; simp; omega), Below.heap_setCell _ _ _ _ (by show ¬ _ = _; simp; omega)]
    refine ⟨X, Y, by rw [HHas.out], ?_, ((HB0.out.trans (hb.mono HB0.out.size)).setCell (by simp) _).setCell (by simp) _⟩
    rw [hs]
    exact StR.of ((Lay.int.slice _).sep_keep (fun q a _ => hk q (by omega)) h1) ((Lay.int.slice _).sep_keep (fun q a _ => hk q (by omega)) h2) (by simp; omega)
  clear q1 q2 q3 q4 q5 hhas hix HNo HF HL1
  go_wp2_with fail
  refine (specIx_any e (fun j => (#[.slice (some ⟨ga, 0, none⟩) n n, .slice (some ⟨gb, 0, none⟩) m m] : Array Value).getD j undef) k w1 HL2.out HK HQ.out.1 HQ.out.2.1 HQ.out.2.2).mono ?_
  rintro e' w2 ⟨rfl, hb2⟩
  rw [HX.out]
  have HB2 : Hid (Below W1.heap.size W1 w2) := HB1.out.trans (hb2.mono HB1.out.size)
  clear hb2 p0 p1 z0 z1 y0 y1 HL2
  obtain ⟨p0, p1, z0, z1, y0, y1⟩ := HBx.out w2 HB2.out
  have hw2 : w.heap.size + 1 < w2.heap.size := Nat.lt_of_lt_of_le hlt1 HB2.out.size
  have hw20 : w.heap.size < w2.heap.size := by omega
  have HZ2 : Hid (W1.heap.size ≤ w2.heap.size) := HB2.out.size
  have HBy : Hid (∀ W, Below w2.heap.size w2 W → W.cell? ⟨w.heap.size, 0, none⟩ = some (.slice (some ⟨ga, 0, none⟩) n n) ∧ W.cell? ⟨w.heap.size, 1, none⟩ = some (.slice (some ⟨gb, 0, none⟩) m m) ∧ W.cell? ⟨w.heap.size + 1, 0, none⟩ = some (.slice none 0 0) ∧ W.cell? ⟨w.heap.size + 1, 1, none⟩ = some (.slice none 0 0) ∧ W.frozen? ⟨w.heap.size + 1, 0, none⟩ = false ∧ W.frozen? ⟨w.heap.size + 1, 1, none⟩ = false) := fun W hW => HBx.out W (HB2.out.trans (hW.mono HZ2.out))
  have HIy : Hid (∀ W, Below w2.heap.size w2 W → Ints W W.heap.size (some ⟨ga, 0, none⟩) ga 0 e.locs ∧ Ints W W.heap.size (some ⟨gb, 0, none⟩) gb 0 e.vals) := fun W hW => by
    have h1 := HI0.out W (HB2.out.trans (hW.mono HZ2.out))
    have h2 : W1.heap.size ≤ W.heap.size := Nat.le_trans HZ2.out hW.size
    exact ⟨fun q z hz => ⟨(h1.1 q z hz).1, Nat.lt_of_lt_of_le (h1.1 q z hz).2.1 h2, (h1.1 q z hz).2.2⟩, fun q z hz => ⟨(h1.2 q z hz).1, Nat.lt_of_lt_of_le (h1.2 q z hz).2.1 h2, (h1.2 q z hz).2.2⟩⟩
  clear HX
  have hk : ¬ k < n := by have := HN.out; have := HCase.out.2; omega
  obtain ⟨hx1, hq⟩ := HXo.out hk
  have HS := Lib.hid (sufSt_out HHas.out (by rw [← HN.out]; exact hk))
  rw [← HN.out, ← HM.out] at HS
  obtain ⟨q, hqe⟩ : ∃ q, q = (k - n) % m := ⟨_, rfl⟩
  rw [← hqe] at hx1 hq HS
  have t2 : (ix : Int) - (n : Int) = (q : Int) := by omega
  have hlx : ¬ (ix < n) := by omega
  clear hqe hx1
  have HIa : Hid (∀ W, Below w2.heap.size w2 W → Ints W W.heap.size (some ⟨gb, q, none⟩) gb q (e.vals.drop q)) := fun W hW => by
    have h1 := ints_drop (HIy.out W hW).2 q
    rw [Nat.zero_add] at h1
    exact h1
  have HIb : Hid (∀ W, Below w2.heap.size w2 W → Ints W W.heap.size (some ⟨gb, 0, none⟩) gb 0 (e.vals.take q)) := fun W hW => ints_take (HIy.out W hW).2 q
  have HYl : Hid ((e.vals.drop q).length = m - q) := by show _ = _; rw [List.length_drop, ← HM.out]
  have HTl : Hid ((e.vals.take q).length = q) := by show _ = _; rw [List.length_take, ← HM.out]; omega
  have HSm : Hid (n ≤ 80 ∧ m ≤ 80) := ⟨hn80, hm80⟩
  have HLr : Hid ((e.vals.drop q ++ e.vals.take q).length = m) := by show _ = _; rw [List.length_append, HYl.out, HTl.out]; omega
  obtain ⟨ys1, hys1⟩ : ∃ ys1, ys1 = e.vals.drop q := ⟨_, rfl⟩
  obtain ⟨ys2, hys2⟩ : ∃ ys2, ys2 = e.vals.take q := ⟨_, rfl⟩
  rw [← hys1] at HIa HS HYl HLr
  rw [← hys2] at HIb HS HTl HLr
  clear hys1 hys2
  have HFn : Hid (∀ (w4 : World) (g4 c4 bb : Nat), Below w2.heap.size w2 w4 → OwnI w4 w2.heap.size g4 (ys1 ++ ys2) c4 → LxPost e k w (.returned (.tuple #[.agg #[.slice (some ⟨bb, 0, none⟩) 0 0, .slice (some ⟨g4, 0, none⟩) m c4], .bool true])) ((w4.setCell ⟨w.heap.size + 1, 0, none⟩ (.slice (some ⟨bb, 0, none⟩) 0 0)).setCell ⟨w.heap.size + 1, 1, none⟩ (.slice (some ⟨g4, 0, none⟩) m c4))) := fun w4 g4 c4 bb hB ho => by
    have h1 := ho.lt
    have h3 := ho.le
    have h6 := HZ2.out
    have h7 := HLr.out
    have h8 := HSm.out
    have hs := ho.sep (by omega)
    rw [h7] at hs
    exact HFo.out w4 _ _ W1.heap.size W1.heap.size g4 (g4 + 1) ⟨[], ys1 ++ ys2⟩ HS.out (HB2.out.trans (hB.mono HZ2.out)) (sep_nil _ _ _ (Nat.le_refl _) _ _) hs (by have := hB.size; omega)
  have HRs : Hid (∀ (w4 : World) (g4 c4 : Nat), Below w2.heap.size w2 w4 → (((w4.setCell ⟨w.heap.size + 1, 0, none⟩ (.slice (some ⟨w4.heap.size, 0, none⟩) 0 0)).setCell ⟨w.heap.size + 1, 1, none⟩ (.slice (some ⟨g4, 0, none⟩) m c4)).alloc (.cells #[] 3)).cell? ⟨w.heap.size + 1, 0, none⟩ = some (.slice (some ⟨w4.heap.size, 0, none⟩) 0 0) ∧ (((w4.setCell ⟨w.heap.size + 1, 0, none⟩ (.slice (some ⟨w4.heap.size, 0, none⟩) 0 0)).setCell ⟨w.heap.size + 1, 1, none⟩ (.slice (some ⟨g4, 0, none⟩) m c4)).alloc (.cells #[] 3)).cell? ⟨w.heap.size + 1, 1, none⟩ = some (.slice (some ⟨g4, 0, none⟩) m c4)) := fun w4 g4 c4 hB => by
    have hr3 := HRb.out.under (HB2.out.trans (hB.mono HZ2.out)) HRb.out.lt
    have hr4 : Row ((w4.setCell ⟨w.heap.size + 1, 0, none⟩ (.slice (some ⟨w4.heap.size, 0, none⟩) 0 0)).setCell ⟨w.heap.size + 1, 1, none⟩ (.slice (some ⟨g4, 0, none⟩) m c4)) (w.heap.size + 1) 27 #[.slice (some ⟨w4.heap.size, 0, none⟩) 0 0, .slice (some ⟨g4, 0, none⟩) m c4] := (hr3.set_ 0 _).set_ 1 _
    exact (hr4.under ((Below.refl _ _).alloc (Nat.le_refl _) _) hr4.lt).two
  have u1 : (0 : Int) ≤ (q : Int) := by omega
  have u2 : (q : Int) ≤ (m : Int) := by omega
  have HIf : Hid ((if m = q then (some (⟨gb, 0, none⟩ : Addr)) else some ⟨gb, q, none⟩) = some ⟨gb, q, none⟩) := if_neg (by omega)
  clear HFo HI0 HIy HXi HXo hlt hlt1 hi HK hw1 hk
  go_wp2_with fail
  go_region_law (first
      | (with_reducible refine step_ints ?_ (.tmp 40) (.tmp 44) ?_ w2.heap.size w2.heap.size 0 [] ys1 (some ⟨gb, q, none⟩) gb q (m - q) ?_ ?_ ?_ ?_ ?_ ?_ ?_
         · rfl
         · rfl
         · rfl
         · (rw [HYl.out]; exact congrArg (fun z => Value.slice z (m - q) (m - q)) HIf.out)
         · exact own_a w2
         · exact HIa.out _ (bel_a w2)
         · (have := HSm.out; have := HYl.out; simp only [List.length_nil]; omega)
         · exact sz_a w2
         intro g3 c3 w3 hown hgrow hat hlt
         have HB3 := Lib.hid (ap_a hgrow)
         have HO3 : Hid (OwnI w3 w2.heap.size g3 ys1 c3) := hown
         obtain ⟨x0, x1, _⟩ := HBy.out w3 HB3.out
         have hw3 : w.heap.size < w3.heap.size := Nat.lt_of_lt_of_le hw20 HB3.out.size
         clear hown hgrow hat hlt)
      | (with_reducible refine step_ints ?_ (.tmp 40) (.tmp 44) ?_ w2.heap.size w2.heap.size 0 [] ys1 (some ⟨gb, q, none⟩) gb q (m - q) ?_ ?_ ?_ ?_ ?_ ?_ ?_
         · rfl
         · rfl
         · rfl
         · (rw [HYl.out]; exact congrArg (fun z => Value.slice z (m - q) (m - q)) HIf.out)
         · exact own_b w2
         · exact HIa.out _ (bel_b w2)
         · (have := HSm.out; have := HYl.out; simp only [List.length_nil]; omega)
         · exact sz_b w2
         intro g3 c3 w3 hown hgrow hat hlt
         have HB3 := Lib.hid ((ap_b hgrow hat).1)
         have HO3 : Hid (OwnI w3 w2.heap.size g3 ys1 c3) := hown
         obtain ⟨x0, x1, _⟩ := HBy.out w3 HB3.out
         have hw3 : w.heap.size < w3.heap.size := Nat.lt_of_lt_of_le hw20 HB3.out.size
         clear hown hgrow hat hlt)
      | (with_reducible refine step_ints ?_ (.tmp 40) (.tmp 44) ?_ w2.heap.size (w2.heap.size + 1) 0 [] ys1 (some ⟨gb, q, none⟩) gb q (m - q) ?_ ?_ ?_ ?_ ?_ ?_ ?_
         · rfl
         · rfl
         · rfl
         · (rw [HYl.out]; exact congrArg (fun z => Value.slice z (m - q) (m - q)) HIf.out)
         · exact own_c w2
         · exact HIa.out _ (bel_b w2)
         · (have := HSm.out; have := HYl.out; simp only [List.length_nil]; omega)
         · exact sz_b w2
         intro g3 c3 w3 hown hgrow hat hlt
         have HB3 := Lib.hid ((ap_c hgrow hat).1)
         have HO3 : Hid (OwnI w3 w2.heap.size g3 ys1 c3) := hown
         obtain ⟨x0, x1, _⟩ := HBy.out w3 HB3.out
         have hw3 : w.heap.size < w3.heap.size := Nat.lt_of_lt_of_le hw20 HB3.out.size
         clear hown hgrow hat hlt)
      | (with_reducible refine step_ints ?_ (.tmp 45) (.tmp 49) ?_ w2.heap.size g3 c3 ys1 ys2 (some ⟨gb, 0, none⟩) gb 0 m ?_ ?_ ?_ ?_ ?_ ?_ ?_
         · rfl
         · rfl
         · rfl
         · (rw [HTl.out]; rfl)
         · exact HO3.out
         · exact HIb.out _ HB3.out
         · (have := HSm.out; have := HTl.out; have := HYl.out; omega)
         · exact HB3.out.size
         intro g4 c4 w4 hown hgrow hat hlt
         rw [HLr.out]
         have HB4 : Hid (Below w2.heap.size w2 w4) := Below.grow HB3.out hgrow HB3.out.size HO3.out.le
         have HO4 : Hid (OwnI w4 w2.heap.size g4 (ys1 ++ ys2) c4) := hown
         obtain ⟨x0, x1, x2, x3, x4, x5⟩ := HBy.out w4 HB4.out
         have hw4 : w.heap.size + 1 < w4.heap.size := Nat.lt_of_lt_of_le hw2 HB4.out.size
         have hw40 : w.heap.size < w4.heap.size := Nat.lt_of_lt_of_le hw20 HB4.out.size
         clear hown hgrow hat hlt)
      | (with_reducible refine step_ints ?_ (.tmp 45) (.tmp 49) ?_ w2.heap.size g3 c3 ys1 ys2 (some ⟨gb, 0, none⟩) gb 0 m ?_ ?_ ?_ ?_ ?_ ?_ ?_
         · rfl
         · rfl
         · rfl
         · (rw [HTl.out]; rfl)
         · exact (HO3.out.keep (heap_alloc_old w3 _ HO3.out.lt))
         · exact HIb.out _ (bel_n HB3.out)
         · (have := HSm.out; have := HTl.out; have := HYl.out; omega)
         · exact (bel_n HB3.out).size
         intro g4 c4 w4 hown hgrow hat hlt
         rw [HLr.out]
         have HB4 : Hid (Below w2.heap.size w2 w4) := Below.grow (bel_n HB3.out) hgrow (bel_n HB3.out).size HO3.out.le
         have HO4 : Hid (OwnI w4 w2.heap.size g4 (ys1 ++ ys2) c4) := hown
         obtain ⟨x0, x1, x2, x3, x4, x5⟩ := HBy.out w4 HB4.out
         have hw4 : w.heap.size + 1 < w4.heap.size := Nat.lt_of_lt_of_le hw2 HB4.out.size
         have hw40 : w.heap.size < w4.heap.size := Nat.lt_of_lt_of_le hw20 HB4.out.size
         clear hown hgrow hat hlt))
  all_goals go_wp2_with fail
  all_goals first
    | (refine bodyPost_ret (v := .tuple #[.agg #[.slice (some ⟨w2.heap.size, 0, none⟩) 0 0, .slice (some ⟨g4, 0, none⟩) m c4], .bool true]) (by simp [results, Try.results18, go_sem, x2, x3]) rfl ?_
       exact HFn.out w4 g4 c4 (w2.heap.size) HB4.out HO4.out)
    | (refine bodyPost_ret (v := .tuple #[.agg #[.slice (some ⟨w2.heap.size + 1, 0, none⟩) 0 0, .slice (some ⟨g4, 0, none⟩) m c4], .bool true]) (by simp [results, Try.results18, go_sem, x2, x3]) rfl ?_
       exact HFn.out w4 g4 c4 (w2.heap.size + 1) HB4.out HO4.out)
    | (refine bodyPost_ret (v := .tuple #[.agg #[.slice (some ⟨w3.heap.size, 0, none⟩) 0 0, .slice (some ⟨g4, 0, none⟩) m c4], .bool true]) (by simp [results, Try.results18, go_sem, x2, x3]) rfl ?_
       exact HFn.out w4 g4 c4 (w3.heap.size) HB4.out HO4.out)
    | (obtain ⟨r0, r1⟩ := HRs.out w4 g4 c4 HB4.out
       refine bodyPost_ret (v := .tuple #[.agg #[.slice (some ⟨w4.heap.size, 0, none⟩) 0 0, .slice (some ⟨g4, 0, none⟩) m c4], .bool true]) (by simp [results, Try.results18, go_sem, r0, r1]) rfl ?_
       exact (HFn.out w4 g4 c4 (w4.heap.size) HB4.out HO4.out).alloc _)

end La
end Go.Proofs.Ytiaejomdkkhimaa

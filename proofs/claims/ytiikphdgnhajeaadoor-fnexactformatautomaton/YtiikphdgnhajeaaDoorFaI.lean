/- The walk of impl.FormatAutomaton. -/
import Derived.Test.YtiikphdgnhajeaaDoorFaP
import Derived.Test.YtiikphdgnhajeaaDoorAvW
import Derived.Test.YtiikphdgnhajeaaDoorBu
namespace Go.Proofs.YtiikphdgnhajeaaDoor
open Go.RowKit

theorem ints_lit {w : World} {cs : Array Value} {zs : List Int} (h : ∀ (i : Nat) (z : Int), zs[i]? = some z → cs[i]? = some (.int .i64 z)) : Ints (w.alloc (.cells cs 3)) (w.alloc (.cells cs 3)).heap.size (some ⟨w.heap.size, 0, none⟩) w.heap.size 0 zs := fun i z hz => by
  have hr := Row.new w 3 cs
  exact ⟨rfl, hr.lt, by rw [hr.cell, Nat.zero_add]; exact h i z hz⟩

set_option maxHeartbeats 2000000 in
set_option maxRecDepth 100000 in
theorem implFa_any (e : Au) (C : Nat → Value) (w : World) (hL : Lay.au.lies w w.heap.size e C) (hd : Lay.au.sz e ≤ 1048576) :
    Calls Tryd.prog 8 #[.agg #[C 0, C 1, C 2]] w fun e' w' => e' = .returned (.string (fmtAu e)) ∧ Below w.heap.size w w' := by
  have hv0 := fun w' (h : Below w.heap.size w w') => implAv_any e C w' (Lay.au.later hL h h.size) hd
  obtain ⟨ini, acc, es⟩ := e
  obtain ⟨W1, hW1⟩ : ∃ W1, W1 = w.alloc (.cells #[C 0, C 1, C 2] 31) := ⟨_, rfl⟩
  have hb0 : Below w.heap.size w W1 := by rw [hW1]; exact (Below.refl _ _).alloc (Nat.le_refl _) _
  have hra : Row W1 w.heap.size 31 #[C 0, C 1, C 2] := by rw [hW1]; exact Row.new _ _ _
  obtain ⟨⟨A, cap, b, off, e0, hl, hO⟩, ⟨A2, cap2, b2, off2, e1, hl2, hO2⟩, ⟨A3, cap3, b3, off3, D3, e2, hl3, hO3⟩⟩ := au_lies (Lay.au.later hL hb0 hb0.size)
  have hv := hv0 W1 hb0
  rw [e0, e1, e2] at hra hW1 hv ⊢
  have HV := Lib.hid hv
  have HW1 := Lib.hid hW1
  have HB0 := Lib.hid hb0
  have HRa := Lib.hid hra
  have HI := Lib.hid hO
  have HA := Lib.hid hO2
  have HE := Lib.hid (trs_of hO3)
  have hlt0 : w.heap.size < W1.heap.size := hra.lt
  rw [au_sz] at hd
  dsimp only at hd
  unfold maxLen at hl hl2 hl3
  clear e0 e1 e2 hL hW1 hb0 hra hO hO2 hO3 hv hv0
  have HF : Hid (fmtAu ⟨ini, acc, es⟩ = if auOk ⟨ini, acc, es⟩ then auB ⟨ini, acc, es⟩ else ⟨#[]⟩) := rfl
  obtain ⟨u, hu⟩ : ∃ u, u = auOk ⟨ini, acc, es⟩ := ⟨_, rfl⟩
  have HU := Lib.hid hu
  clear hu
  obtain ⟨g0, g1, g2⟩ := HRa.out.three
  go_enter Tryd.func8, Tryd.ntmps8
  go_wp2_with fail
  rw [← HW1.out]
  refine HV.out.mono ?_
  rintro e' w1 ⟨rfl, hb1⟩
  rw [← HU.out]
  have HB1 : Hid (Below W1.heap.size W1 w1) := hb1
  clear hb1 g0 g1 g2 HV
  cases u
  · have HF2 : Hid (fmtAu ⟨ini, acc, es⟩ = ⟨#[]⟩) := by show _ = _; rw [HF.out, ← HU.out]; rfl
    go_wp2_with fail
    go_ret
    exact ⟨ret_string HF2.out.symm, HB0.out.trans (HB1.out.mono HB0.out.size)⟩
  have HOK : Hid (auOk ⟨ini, acc, es⟩ = true) := HU.out.symm
  have HF2 : Hid (fmtAu ⟨ini, acc, es⟩ = es.foldl edStepA (headA ⟨ini, acc, es⟩)) := by show _ = _; rw [HF.out, ← HU.out]; rfl
  clear HF HU
  have hp := auOk_parts HOK.out
  have hn1 : 1 ≤ acc.length := hp.1
  have hn2 : acc.length ≤ 64 := hp.2.1
  have hes : es.length ≤ 2048 := hp.2.2.1
  have HSi := Lib.hid (auOk_ini HOK.out)
  have HSa := Lib.hid (auOk_accs HOK.out)
  have HSt : Hid (∀ (i : Nat) (e : Tr), es[i]? = some e → SmallN (trNs e)) := fun i e he => auOk_tr HOK.out he (HE.out i e he).2.2.2.2.2.2
  obtain ⟨x1, hx1⟩ : ∃ x, x = lineN autW [(acc.length : Int)] := ⟨_, rfl⟩
  obtain ⟨x2, hx2⟩ : ∃ x, x = lineN iniW ini := ⟨_, rfl⟩
  obtain ⟨x3, hx3⟩ : ∃ x, x = lineN accW (accs acc) := ⟨_, rfl⟩
  have hs1 : x1.size ≤ 300 := by
    have h1 := lineN_size (word := autW) (zs := [(acc.length : Int)]) (fun z hz => by simp at hz; omega)
    have h2 : autW.size = 9 := rfl
    rw [← hx1] at h1
    simp at h1
    omega
  have hs2 : x2.size ≤ 300 := by
    have h1 := lineN_size (word := iniW) HSi.out.1
    have h2 : iniW.size = 7 := rfl
    have h3 := HSi.out.2
    rw [← hx2] at h1
    dsimp only at h1 h3
    omega
  have hs3 : x3.size ≤ 300 := by
    have h1 := lineN_size (word := accW) HSa.out.1
    have h2 : accW.size = 9 := rfl
    have h3 := HSa.out.2
    rw [← hx3] at h1
    dsimp only at h1 h3
    omega
  have HX1 := Lib.hid hx1
  have HX2 := Lib.hid hx2
  have HX3 := Lib.hid hx3
  have HS : Hid (x1.size ≤ 300 ∧ x2.size ≤ 300 ∧ x3.size ≤ 300) := ⟨hs1, hs2, hs3⟩
  have hlt1 : w.heap.size < w1.heap.size := Nat.lt_of_lt_of_le hlt0 HB1.out.size
  clear hx1 hx2 hx3 hs1 hs2 hs3 hp
  -- the builder, and the first line
  obtain ⟨W3, hW3⟩ : ∃ W3, W3 = (w1.alloc (.cells #[.pointer none, .slice none 0 0] 52)).alloc (.cells #[.int .i64 acc.length] 3) := ⟨_, rfl⟩
  have HBd3 : Hid (Bld w1.heap.size w1.heap.size ⟨#[]⟩ W3) := by rw [hW3]; exact (Bld.fresh w1).under ((Below.refl _ _).alloc (Nat.le_refl _) _)
  have hb3 : Below w1.heap.size w1 W3 := by rw [hW3]; exact ((Below.refl _ _).alloc (Nat.le_refl _) _).alloc (by simp) _
  have HB3 := Lib.hid hb3
  have HI3 : Hid (Ints W3 W3.heap.size (some ⟨(w1.alloc (.cells #[.pointer none, .slice none 0 0] 52)).heap.size, 0, none⟩) (w1.alloc (.cells #[.pointer none, .slice none 0 0] 52)).heap.size 0 [(acc.length : Int)]) := by
    rw [hW3]
    exact ints_lit (fun i z hz => by
      cases i with
      | zero => simpa using hz
      | succ i => simp at hz)
  rw [show (w1.alloc (.cells #[.pointer none, .slice none 0 0] 52)).heap.size = w1.heap.size + 1 by simp] at HI3
  have HW3 := Lib.hid hW3
  clear hW3 hb3
  obtain ⟨g0, g1, g2⟩ := (HRa.out.under HB1.out HRa.out.lt).three
  go_wp2_with fail
  rw [← HW3.out]
  refine (numLine_any ⟨#[97, 117, 116, 111, 109, 97, 116, 111, 110]⟩ [(acc.length : Int)] _ 1 _ 0 W3 (show 1 ≤ 1048576 by decide) HI3.out (by decide) (fun z hz => by simp at hz; omega)).mono ?_
  rintro e' w3 ⟨rfl, rfl⟩
  rw [show lineN ⟨#[97, 117, 116, 111, 109, 97, 116, 111, 110]⟩ [(acc.length : Int)] = x1 from HX1.out.symm]
  clear g0 g1 g2
  go_wp2_with fail
  refine (writeString_any w1.heap.size w1.heap.size ⟨#[]⟩ x1 W3 HBd3.out (by have := HS.out.1; show 0 + _ ≤ _; omega) HB3.out.size).mono ?_
  rintro e' w4 ⟨rfl, hbd4, hb4⟩
  have HBd4 : Hid (Bld w1.heap.size w1.heap.size x1 w4) := by rw [show x1 = ⟨#[]⟩ ++ x1 by apply ByteArray.ext; simp]; exact hbd4
  have HB4 : Hid (Below w1.heap.size w1 w4) := HB3.out.trans hb4
  clear hbd4 hb4 HBd3 HB3 HI3 HW3
  -- the second line
  obtain ⟨g0, g1, g2⟩ := ((HRa.out.under HB1.out HRa.out.lt).under HB4.out hlt1).three
  have HI4 := Lib.hid ((HI.out.under HB1.out HB1.out.size).under HB4.out HB4.out.size)
  go_wp2_with fail
  refine (numLine_any ⟨#[105, 110, 105, 116, 105, 97, 108]⟩ ini A cap b off w4 (by omega) HI4.out (by decide) HSi.out.1).mono ?_
  rintro e' w5 ⟨rfl, rfl⟩
  rw [show lineN ⟨#[105, 110, 105, 116, 105, 97, 108]⟩ ini = x2 from HX2.out.symm]
  go_wp2_with fail
  refine (writeString_any w1.heap.size w1.heap.size x1 x2 w4 HBd4.out (by have := HS.out; omega) HB4.out.size).mono ?_
  rintro e' w5 ⟨rfl, hbd5, hb5⟩
  have HBd5 : Hid (Bld w1.heap.size w1.heap.size (x1 ++ x2) w5) := hbd5
  have HB5 : Hid (Below w1.heap.size w1 w5) := HB4.out.trans hb5
  clear hbd5 hb5 HBd4 HB4 HI4 g0 g1 g2
  -- the third line
  obtain ⟨g0, g1, g2⟩ := ((HRa.out.under HB1.out HRa.out.lt).under HB5.out hlt1).three
  have HA5 := Lib.hid ((HA.out.under HB1.out HB1.out.size).under HB5.out HB5.out.size)
  go_wp2_with fail
  refine (accSt_any acc _ _ A2 cap2 b2 off2 w5 (by omega) HA5.out ⟨_, _, _, rfl⟩ ⟨_, _, _, rfl⟩).mono ?_
  rintro e' w6 ⟨A', cap', b', off', rfl, hI6, hb6⟩
  have HI6 := Lib.hid hI6
  have HB6 : Hid (Below w1.heap.size w1 w6) := HB5.out.trans (hb6.mono HB5.out.size)
  have HBd6 := Lib.hid (HBd5.out.under hb6)
  have hla : (accs acc).length ≤ 1048576 := Nat.le_trans HSa.out.2 (by decide)
  clear hb6 hI6 HB5 HBd5 HA5 g0 g1 g2
  go_wp2_with fail
  refine (numLine_any ⟨#[97, 99, 99, 101, 112, 116, 105, 110, 103]⟩ (accs acc) A' cap' b' off' w6 hla HI6.out (by decide) HSa.out.1).mono ?_
  rintro e' w7 ⟨rfl, rfl⟩
  rw [show lineN ⟨#[97, 99, 99, 101, 112, 116, 105, 110, 103]⟩ (accs acc) = x3 from HX3.out.symm]
  go_wp2_with fail
  refine (writeString_any w1.heap.size w1.heap.size (x1 ++ x2) x3 w6 HBd6.out (by rw [ByteArray.size_append]; have := HS.out; omega) HB6.out.size).mono ?_
  rintro e' w7 ⟨rfl, hbd7, hb7⟩
  obtain ⟨h0, hh0⟩ : ∃ h, h = x1 ++ x2 ++ x3 := ⟨_, rfl⟩
  have hsz0 : h0.size ≤ 900 := by rw [hh0, ByteArray.size_append, ByteArray.size_append]; have := HS.out; omega
  have HH0 : Hid (headA ⟨ini, acc, es⟩ = h0) := by show _ = _; rw [hh0, HX1.out, HX2.out, HX3.out]; rfl
  rw [← hh0] at hbd7
  have HBd7 : Hid (Bld w1.heap.size w1.heap.size h0 w7) := hbd7
  have HB7 : Hid (Below w1.heap.size w1 w7) := HB6.out.trans hb7
  have hsf := fun j hj => edFold_size HSt.out h0 j hj
  have HSf := Lib.hid hsf
  clear hbd7 hb7 HBd6 HB6 HI6 hh0 hsf
  obtain ⟨g0, g1, g2⟩ := ((HRa.out.under HB1.out HRa.out.lt).under HB7.out hlt1).three
  go_wp2_with fail
  go_loopw [26] (fun i wl => ∃ j : Nat, j ≤ es.length ∧ i = .int .i64 j ∧ Hid (Bld w1.heap.size w1.heap.size ((es.take j).foldl edStepA h0) wl) ∧ Hid (Below w1.heap.size w1 wl)) (fun i _ => es.length - (intOf i).toNat)
  case atStart => exact ⟨0, Nat.zero_le _, rfl, HBd7.out, HB7⟩
  case round =>
    clear g0 g1 g2 HBd7 HB7
    obtain ⟨j, hj, rfl, HBd, HB⟩ := hrel
    by_cases hlt : j < es.length
    · obtain ⟨x, hx⟩ : ∃ x, es[j]? = some x := ⟨_, List.getElem?_eq_getElem hlt⟩
      obtain ⟨rfl, hb, f0, f1, f2, f3, hrx⟩ := ((HE.out.under HB1.out HB1.out.size).under HB.out HB.out.size) j x hx
      have HSx := Lib.hid (HSt.out j x hx)
      have HT := Lib.hid (foldl_take_succA (f := edStepA) (a := h0) hx)
      have hsj := HSf.out j hj
      obtain ⟨fr, ca, va, tt⟩ := x
      dsimp only at f0 f1 f2 f3
      obtain ⟨t0, ht0⟩ : ∃ t, t = (es.take j).foldl edStepA h0 := ⟨_, rfl⟩
      rw [← ht0] at HBd HT hsj
      obtain ⟨x4, hx4⟩ : ∃ x, x = lineN edgW (trNs ⟨fr, ca, va, tt⟩) := ⟨_, rfl⟩
      have hs4 : x4.size ≤ 17 := by
        have h1 := lineN_size (word := edgW) HSx.out
        rw [← hx4] at h1
        exact h1
      have HX4 := Lib.hid hx4
      have HT2 : Hid ((es.take (j + 1)).foldl edStepA h0 = t0 ++ x4) := by show _ = _; rw [HT.out, hx4]; rfl
      obtain ⟨W5, hW5⟩ : ∃ W5, W5 = (wr.alloc (.cells #[.int .i64 fr, .int .i64 ca, .int .i64 va, .int .i64 tt] 45)).alloc (.cells #[.int .i64 fr, .int .i64 ca, .int .i64 va, .int .i64 tt] 3) := ⟨_, rfl⟩
      have hb5 : Below wr.heap.size wr W5 := by rw [hW5]; exact ((Below.refl _ _).alloc (Nat.le_refl _) _).alloc (by simp) _
      have HBd5 := Lib.hid (HBd.out.under hb5)
      have HB5 : Hid (Below w1.heap.size w1 W5) := HB.out.trans (hb5.mono HB.out.size)
      have HI5 : Hid (Ints W5 W5.heap.size (some ⟨(wr.alloc (.cells #[.int .i64 fr, .int .i64 ca, .int .i64 va, .int .i64 tt] 45)).heap.size, 0, none⟩) (wr.alloc (.cells #[.int .i64 fr, .int .i64 ca, .int .i64 va, .int .i64 tt] 45)).heap.size 0 (trNs ⟨fr, ca, va, tt⟩)) := by
        rw [hW5]
        exact ints_lit (fun i z hz => by
          unfold trNs at hz
          match i, hz with
          | 0, hz => simpa using hz
          | 1, hz => simpa using hz
          | 2, hz => simpa using hz
          | 3, hz => simpa using hz
          | i + 4, hz => simp at hz)
      rw [show (wr.alloc (.cells #[.int .i64 fr, .int .i64 ca, .int .i64 va, .int .i64 tt] 45)).heap.size = wr.heap.size + 1 by simp] at HI5
      have HW5 := Lib.hid hW5
      clear hx hrx hb5 hW5 ht0 hx4 HT
      go_wp2_with fail
      rw [← HW5.out]
      refine (numLine_any ⟨#[101, 100, 103, 101]⟩ (trNs ⟨fr, ca, va, tt⟩) _ 4 _ 0 W5 (show 4 ≤ 1048576 by decide) HI5.out (by decide) HSx.out).mono ?_
      rintro e' w6 ⟨rfl, rfl⟩
      rw [show lineN ⟨#[101, 100, 103, 101]⟩ (trNs ⟨fr, ca, va, tt⟩) = x4 from HX4.out.symm]
      clear f0 f1 f2 f3
      go_wp2_with fail
      refine (writeString_any w1.heap.size w1.heap.size t0 x4 W5 HBd5.out (by omega) HB5.out.size).mono ?_
      rintro e' w6 ⟨rfl, hbd6, hb6⟩
      have HBd6 : Hid (Bld w1.heap.size w1.heap.size ((es.take (j + 1)).foldl edStepA h0) w6) := by rw [HT2.out]; exact hbd6
      have HB6 : Hid (Below w1.heap.size w1 w6) := HB5.out.trans hb6
      clear hbd6 hb6
      go_wp2_with fail
      go_roundw
      case rel => exact ⟨j + 1, by omega, by go_num, HBd6, HB6⟩
      case measure => simp [intOf]; omega
    · have hjj : j = es.length := by omega
      subst hjj
      have HF3 : Hid (fmtAu ⟨ini, acc, es⟩ = (es.take es.length).foldl edStepA h0) := by show _ = _; rw [HF2.out, HH0.out, List.take_length]
      obtain ⟨t0, ht0⟩ : ∃ t, t = (es.take es.length).foldl edStepA h0 := ⟨_, rfl⟩
      rw [← ht0] at HBd HF3
      clear ht0
      go_wp2_with fail
      refine (string_any w1.heap.size w1.heap.size t0 wr HBd.out HB.out.size).mono ?_
      rintro e' w8 ⟨rfl, hb8⟩
      have HB8 : Hid (Below w.heap.size w w8) := HB0.out.trans ((HB1.out.trans ((HB.out.trans hb8).mono HB1.out.size)).mono HB0.out.size)
      clear hb8
      go_wp2_with fail
      go_ret
      exact ⟨ret_string HF3.out.symm, HB8.out⟩

end Go.Proofs.YtiikphdgnhajeaaDoor

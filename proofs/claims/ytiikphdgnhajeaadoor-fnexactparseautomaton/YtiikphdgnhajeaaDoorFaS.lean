/- The walk of spec.FormatAutomaton. -/
import Derived.Test.YtiikphdgnhajeaaDoorFaP
import Derived.Test.YtiikphdgnhajeaaDoorAvS
import Derived.Deep.RegionHeld3
import Derived.Deep.RegionWith
import Derived.Deep.Cut
import Derived.Deep.CutRange
namespace Go.Proofs.YtiikphdgnhajeaaDoor
open Go.RowKit

/-- The accepting states below j, as words behind the text. -/
theorem wordB_one (o : ByteArray) (z : Int) : wordB o [z] = o ++ ((⟨#[32]⟩ : ByteArray) ++ numB z.toNat) := rfl

set_option maxHeartbeats 4000000 in
set_option maxRecDepth 100000 in
theorem specFa_any (e : Au) (C : Nat → Value) (w : World) (hL : Lay.au.lies w w.heap.size e C) (hd : Lay.au.sz e ≤ 1048576) :
    Calls Tryd.prog 6 #[.agg #[C 0, C 1, C 2]] w fun e' w' => e' = .returned (.string (fmtAu e)) ∧ Below w.heap.size w w' := by
  have hv0 := fun w' (h : Below w.heap.size w w') => specAv_any e C w' (Lay.au.later hL h h.size) hd
  obtain ⟨ini, acc, es⟩ := e
  obtain ⟨W1, hW1⟩ : ∃ W1, W1 = w.alloc (.cells #[C 0, C 1, C 2] 31) := ⟨_, rfl⟩
  have hb0 : Below w.heap.size w W1 := by rw [hW1]; exact (Below.refl _ _).alloc (Nat.le_refl _) _
  have hra : Row W1 w.heap.size 31 #[C 0, C 1, C 2] := by rw [hW1]; exact Row.new _ _ _
  obtain ⟨⟨A, cap, b, off, e0, hl, hO⟩, ⟨A2, cap2, b2, off2, e1, hl2, hO2⟩, ⟨A3, cap3, b3, off3, D3, e2, hl3, hO3⟩⟩ := au_lies (Lay.au.later hL hb0 hb0.size)
  have hv := hv0 W1 hb0
  rw [e0, e1, e2] at hra hW1 hv ⊢
  have HV := Lib.hid hv
  have HW1 := Lib.hid hW1
  have HB0 := Lib.hid hb0
  have HRa := Lib.hid hra
  have HI := Lib.hid hO
  have HA := Lib.hid hO2
  have HE := Lib.hid (trs_of hO3)
  have hlt0 : w.heap.size < W1.heap.size := hra.lt
  rw [au_sz] at hd
  dsimp only at hd
  unfold maxLen at hl hl2 hl3
  clear e0 e1 e2 hL hW1 hb0 hra hO hO2 hO3 hv hv0
  have HF : Hid (fmtAu ⟨ini, acc, es⟩ = if auOk ⟨ini, acc, es⟩ then auB ⟨ini, acc, es⟩ else ⟨#[]⟩) := rfl
  obtain ⟨u, hu⟩ : ∃ u, u = auOk ⟨ini, acc, es⟩ := ⟨_, rfl⟩
  have HU := Lib.hid hu
  clear hu
  obtain ⟨g0, g1, g2⟩ := HRa.out.three
  go_enter Tryd.func6, Tryd.ntmps6
  go_wp2_with fail
  rw [← HW1.out]
  refine HV.out.mono ?_
  rintro e' w1 ⟨rfl, hb1⟩
  rw [← HU.out]
  have HB1 : Hid (Below W1.heap.size W1 w1) := hb1
  clear hb1 g0 g1 g2 HV
  cases u
  · have HF2 : Hid (fmtAu ⟨ini, acc, es⟩ = ⟨#[]⟩) := by show _ = _; rw [HF.out, ← HU.out]; rfl
    go_wp2_with fail
    go_ret
    exact ⟨ret_string HF2.out.symm, HB0.out.trans (HB1.out.mono HB0.out.size)⟩
  have HOK : Hid (auOk ⟨ini, acc, es⟩ = true) := HU.out.symm
  have HF2 : Hid (fmtAu ⟨ini, acc, es⟩ = es.foldl edStepA (headA ⟨ini, acc, es⟩)) := by show _ = _; rw [HF.out, ← HU.out]; rfl
  clear HF HU
  have hp := auOk_parts HOK.out
  have hn1 : 1 ≤ acc.length := hp.1
  have hn2 : acc.length ≤ 64 := hp.2.1
  have hes : es.length ≤ 2048 := hp.2.2.1
  have HSi := Lib.hid (auOk_ini HOK.out)
  have HSa := Lib.hid (auOk_accs HOK.out)
  have HSt : Hid (∀ (i : Nat) (e : Tr), es[i]? = some e → SmallN (trNs e)) := fun i e he => auOk_tr HOK.out he (HE.out i e he).2.2.2.2.2.2
  clear hp
  obtain ⟨g0, g1, g2⟩ := (HRa.out.under HB1.out HRa.out.lt).three
  obtain ⟨x0, hx0⟩ : ∃ x, x = numB acc.length := ⟨_, rfl⟩
  have hs0 : x0.size ≤ 2 := by rw [hx0]; exact numB_size 1 _ (by omega)
  have HX0 := Lib.hid hx0
  have HB : Hid (Below W1.heap.size W1 w1) := HB1.out
  go_wp2_with fail
  refine (decN_any acc.length w1 (by omega)).mono ?_
  rintro e' w2 ⟨rfl, hb2⟩
  rw [← HX0.out]
  have HB2 : Hid (Below W1.heap.size W1 w2) := HB1.out.trans (hb2.mono HB1.out.size)
  clear hb2 g0 g1 g2 HB hx0
  -- the text so far
  have HT0 : Hid ((⟨#[97, 117, 116, 111, 109, 97, 116, 111, 110, 32]⟩ : ByteArray) ++ x0 ++ (⟨#[10, 105, 110, 105, 116, 105, 97, 108]⟩ : ByteArray) = lineN autW [(acc.length : Int)] ++ iniW) := by
    show _ = _
    rw [HX0.out]
    apply ByteArray.ext
    simp [lineN, wordB, autW, iniW]
  obtain ⟨t0, ht0⟩ : ∃ t, t = (⟨#[97, 117, 116, 111, 109, 97, 116, 111, 110, 32]⟩ : ByteArray) ++ x0 ++ (⟨#[10, 105, 110, 105, 116, 105, 97, 108]⟩ : ByteArray) := ⟨_, rfl⟩
  have hst0 : t0.size ≤ 20 := by
    rw [ht0, ByteArray.size_append, ByteArray.size_append]
    show 10 + _ + 8 ≤ _
    omega
  go_wp2_with fail
  rw [← ht0] at HT0 ⊢
  clear ht0
  have HSw : Hid (∀ j, (wordB t0 (ini.take j)).size ≤ 300) := fun j => by
    have h1 := wordB_size (word := t0) (HSi.out.1.take j)
    have h2 : ini.length ≤ 64 := HSi.out.2
    rw [List.length_take] at h1
    omega
  go_loopw [3, 4] (fun o i wl => ∃ j : Nat, j ≤ ini.length ∧ i = .int .i64 j ∧ o = .string (wordB t0 (ini.take j)) ∧ Hid (Below W1.heap.size W1 wl)) (fun _ i _ => ini.length - (intOf i).toNat)
  case atStart => exact ⟨0, Nat.zero_le _, rfl, rfl, HB2⟩
  case round =>
    clear HB2
    obtain ⟨j, hj, rfl, rfl, HB⟩ := hrel
    obtain ⟨g0, g1, g2⟩ := (HRa.out.under HB.out HRa.out.lt).three
    by_cases hlt : j < ini.length
    · obtain ⟨z, hz⟩ : ∃ z, ini[j]? = some z := ⟨_, List.getElem?_eq_getElem hlt⟩
      obtain ⟨rfl, hb, c0⟩ := HI.out.under HB.out HB.out.size j z hz
      have hzz := HSi.out.1 z (List.mem_of_getElem? hz)
      obtain ⟨k, rfl⟩ := Int.eq_ofNat_of_zero_le hzz.1
      have hk : k < 100 := by omega
      have HS := Lib.hid (wordB_take (word := t0) hz)
      have hD := HSw.out j
      have hE : (numB k).size ≤ 2 := numB_size 1 _ (by omega)
      rw [Int.toNat_natCast] at HS
      obtain ⟨D, hDd⟩ : ∃ D, D = wordB t0 (ini.take j) := ⟨_, rfl⟩
      rw [← hDd] at hD HS ⊢
      obtain ⟨E, hEd⟩ : ∃ E, E = numB k := ⟨_, rfl⟩
      rw [← hEd] at hE HS
      have HE2 := Lib.hid hEd
      clear hz hzz hDd hEd
      go_wp2_with fail
      refine (decN_any k wr (by omega)).mono ?_
      rintro e' w3 ⟨rfl, hb3⟩
      rw [← HE2.out]
      have HB3 : Hid (Below W1.heap.size W1 w3) := HB.out.trans (hb3.mono HB.out.size)
      clear hb3 g0 g1 g2 c0
      go_wp2_with fail
      go_roundw
      case rel => exact ⟨j + 1, by omega, by go_num, by rw [HS.out, ByteArray.append_assoc], HB3⟩
      case measure => simp [intOf]; omega
    · have hjj : j = ini.length := by omega
      subst hjj
      have hD := HSw.out ini.length
      have HT1 : Hid (wordB t0 (ini.take ini.length) ++ (⟨#[10, 97, 99, 99, 101, 112, 116, 105, 110, 103]⟩ : ByteArray) = lineN autW [(acc.length : Int)] ++ lineN iniW ini ++ accW) := by
        show _ = _
        rw [List.take_length, HT0.out]
        have h1 : ∀ (zs : List Int) (a b : ByteArray), wordB (a ++ b) zs = a ++ wordB b zs := by
          intro zs
          induction zs with
          | nil => intro a b; rfl
          | cons z r ih =>
            intro a b
            show wordB (a ++ b ++ ((⟨#[32]⟩ : ByteArray) ++ numB z.toNat)) r = a ++ wordB (b ++ ((⟨#[32]⟩ : ByteArray) ++ numB z.toNat)) r
            rw [ByteArray.append_assoc, ih]
        rw [h1]
        unfold lineN
        apply ByteArray.ext
        simp [accW]
      obtain ⟨D, hDd⟩ : ∃ D, D = wordB t0 (ini.take ini.length) := ⟨_, rfl⟩
      rw [← hDd] at hD HT1 ⊢
      clear hDd HSw
      obtain ⟨t1, ht1⟩ : ∃ t, t = D ++ (⟨#[10, 97, 99, 99, 101, 112, 116, 105, 110, 103]⟩ : ByteArray) := ⟨_, rfl⟩
      have hst1 : t1.size ≤ 310 := by
        rw [ht1, ByteArray.size_append]
        show _ + 10 ≤ _
        omega
      have HSw : Hid (∀ j, j ≤ acc.length → (wordB t1 (accTo acc j)).size ≤ 600) := fun j hj => by
        have h1 := wordB_size (word := t1) (zs := accTo acc j) (fun z hz => by have := accTo_mem hz; omega)
        have h2 := accTo_len acc j
        omega
      go_wp2_with fail
      rw [← ht1] at HT1 ⊢
      clear ht1
      have HBs : Hid (Below W1.heap.size W1 wr) := HB.out
      go_loopw [3, 5] (fun o i wl => ∃ j : Nat, j ≤ acc.length ∧ i = .int .i64 j ∧ o = .string (wordB t1 (accTo acc j)) ∧ Hid (Below W1.heap.size W1 wl)) (fun _ i _ => acc.length - (intOf i).toNat)
      case atStart => exact ⟨0, Nat.zero_le _, rfl, rfl, HBs⟩
      case round =>
        clear HB HBs g0 g1 g2
        obtain ⟨j, hj, rfl, rfl, HB⟩ := hrel
        obtain ⟨g0, g1, g2⟩ := (HRa.out.under HB.out HRa.out.lt).three
        by_cases hlt : j < acc.length
        · obtain ⟨z, hz⟩ : ∃ z, acc[j]? = some z := ⟨_, List.getElem?_eq_getElem hlt⟩
          obtain ⟨rfl, hb, c0⟩ := HA.out.under HB.out HB.out.size j z hz
          have hD := HSw.out j hj
          cases z
          · have HS : Hid (accTo acc (j + 1) = accTo acc j) := accTo_false hz
            clear hz
            go_wp2_with fail
            go_roundw
            case rel => exact ⟨j + 1, by omega, by go_num, by rw [HS.out], HB⟩
            case measure => simp [intOf]; omega
          · have HS : Hid (wordB t1 (accTo acc (j + 1)) = wordB t1 (accTo acc j) ++ ((⟨#[32]⟩ : ByteArray) ++ numB j)) := by
              show _ = _
              rw [accTo_true hz, wordB_append, wordB_one, Int.toNat_natCast]
            have hE : (numB j).size ≤ 2 := numB_size 1 _ (by omega)
            obtain ⟨D, hDd⟩ : ∃ D, D = wordB t1 (accTo acc j) := ⟨_, rfl⟩
            rw [← hDd] at hD HS ⊢
            obtain ⟨E, hEd⟩ : ∃ E, E = numB j := ⟨_, rfl⟩
            rw [← hEd] at hE HS
            have HE2 := Lib.hid hEd
            clear hz hDd hEd
            go_wp2_with fail
            refine (decN_any j wr (by omega)).mono ?_
            rintro e' w3 ⟨rfl, hb3⟩
            rw [← HE2.out]
            have HB3 : Hid (Below W1.heap.size W1 w3) := HB.out.trans (hb3.mono HB.out.size)
            clear hb3 g0 g1 g2 c0
            go_wp2_with fail
            go_roundw
            case rel => exact ⟨j + 1, by omega, by go_num, by rw [HS.out, ByteArray.append_assoc], HB3⟩
            case measure => simp [intOf]; omega
        · have hjj : j = acc.length := by omega
          subst hjj
          have hD := HSw.out acc.length (Nat.le_refl _)
          have HT2 : Hid (wordB t1 (accTo acc acc.length) ++ (⟨#[10]⟩ : ByteArray) = headA ⟨ini, acc, es⟩) := by
            show _ = _
            rw [HT1.out]
            have h1 : ∀ (zs : List Int) (a b : ByteArray), wordB (a ++ b) zs = a ++ wordB b zs := by
              intro zs
              induction zs with
              | nil => intro a b; rfl
              | cons z r ih =>
                intro a b
                show wordB (a ++ b ++ ((⟨#[32]⟩ : ByteArray) ++ numB z.toNat)) r = a ++ wordB (b ++ ((⟨#[32]⟩ : ByteArray) ++ numB z.toNat)) r
                rw [ByteArray.append_assoc, ih]
            rw [h1, ByteArray.append_assoc]
            rfl
          obtain ⟨D, hDd⟩ : ∃ D, D = wordB t1 (accTo acc acc.length) := ⟨_, rfl⟩
          rw [← hDd] at hD HT2 ⊢
          clear hDd HSw
          obtain ⟨h0, hh0⟩ : ∃ t, t = D ++ (⟨#[10]⟩ : ByteArray) := ⟨_, rfl⟩
          have hst2 : h0.size ≤ 900 := by
            rw [hh0, ByteArray.size_append]
            show _ + 1 ≤ _
            omega
          have hsf := fun j hj => edFold_size HSt.out h0 j hj
          have HSf := Lib.hid hsf
          clear hsf
          go_wp2_with fail
          rw [← hh0] at HT2 ⊢
          clear hh0
          have HBs : Hid (Below W1.heap.size W1 wr) := HB.out
          go_loopw [3, 6] (fun o i wl => ∃ j : Nat, j ≤ es.length ∧ i = .int .i64 j ∧ o = .string ((es.take j).foldl edStepA h0) ∧ Hid (Below W1.heap.size W1 wl)) (fun _ i _ => es.length - (intOf i).toNat)
          case atStart => exact ⟨0, Nat.zero_le _, rfl, rfl, HBs⟩
          case round =>
            clear HB HBs g0 g1 g2
            obtain ⟨j, hj, rfl, rfl, HB⟩ := hrel
            obtain ⟨g0, g1, g2⟩ := (HRa.out.under HB.out HRa.out.lt).three
            by_cases hlt : j < es.length
            · obtain ⟨x, hx⟩ : ∃ x, es[j]? = some x := ⟨_, List.getElem?_eq_getElem hlt⟩
              obtain ⟨rfl, hb, f0, f1, f2, f3, hrx⟩ := (HE.out.under HB.out HB.out.size) j x hx
              have hSx := HSt.out j x hx
              have HT := Lib.hid (foldl_take_succA (f := edStepA) (a := h0) hx)
              have hsj := HSf.out j hj
              obtain ⟨fr, ca, va, tt⟩ := x
              dsimp only at f0 f1 f2 f3
              obtain ⟨q0, q1⟩ := hSx fr (by simp [trNs])
              obtain ⟨q2, q3⟩ := hSx ca (by simp [trNs])
              obtain ⟨q4, q5⟩ := hSx va (by simp [trNs])
              obtain ⟨q6, q7⟩ := hSx tt (by simp [trNs])
              obtain ⟨n0, rfl⟩ := Int.eq_ofNat_of_zero_le q0
              obtain ⟨n1, rfl⟩ := Int.eq_ofNat_of_zero_le q2
              obtain ⟨n2, rfl⟩ := Int.eq_ofNat_of_zero_le q4
              obtain ⟨n3, rfl⟩ := Int.eq_ofNat_of_zero_le q6
              obtain ⟨T, ht⟩ : ∃ t, t = (es.take j).foldl edStepA h0 := ⟨_, rfl⟩
              rw [← ht] at HT hsj ⊢
              obtain ⟨F0, hF0⟩ : ∃ t, t = numB n0 := ⟨_, rfl⟩
              obtain ⟨F1, hF1⟩ : ∃ t, t = numB n1 := ⟨_, rfl⟩
              obtain ⟨F2, hF2⟩ : ∃ t, t = numB n2 := ⟨_, rfl⟩
              obtain ⟨F3, hF3⟩ : ∃ t, t = numB n3 := ⟨_, rfl⟩
              have hz0 : F0.size ≤ 2 := by rw [hF0]; exact numB_size 1 _ (by omega)
              have hz1 : F1.size ≤ 2 := by rw [hF1]; exact numB_size 1 _ (by omega)
              have hz2 : F2.size ≤ 2 := by rw [hF2]; exact numB_size 1 _ (by omega)
              have hz3 : F3.size ≤ 2 := by rw [hF3]; exact numB_size 1 _ (by omega)
              have HT3 : Hid ((es.take (j + 1)).foldl edStepA h0 = T ++ (⟨#[101, 100, 103, 101, 32]⟩ : ByteArray) ++ F0 ++ (⟨#[32]⟩ : ByteArray) ++ F1 ++ (⟨#[32]⟩ : ByteArray) ++ F2 ++ (⟨#[32]⟩ : ByteArray) ++ F3 ++ (⟨#[10]⟩ : ByteArray)) := by
                show _ = _
                rw [HT.out, hF0, hF1, hF2, hF3]
                apply ByteArray.ext
                simp [edStepA, lineN, wordB, trNs, edgW]
              have HC0 : Hid (∀ W, Calls Tryd.prog 18 #[.int .i64 n0] W fun e' w' => e' = .returned (.string F0) ∧ Below W.heap.size W w') := fun W => by rw [hF0]; exact decN_any n0 W (by omega)
              have HC1 : Hid (∀ W, Calls Tryd.prog 18 #[.int .i64 n1] W fun e' w' => e' = .returned (.string F1) ∧ Below W.heap.size W w') := fun W => by rw [hF1]; exact decN_any n1 W (by omega)
              have HC2 : Hid (∀ W, Calls Tryd.prog 18 #[.int .i64 n2] W fun e' w' => e' = .returned (.string F2) ∧ Below W.heap.size W w') := fun W => by rw [hF2]; exact decN_any n2 W (by omega)
              have HC3 : Hid (∀ W, Calls Tryd.prog 18 #[.int .i64 n3] W fun e' w' => e' = .returned (.string F3) ∧ Below W.heap.size W w') := fun W => by rw [hF3]; exact decN_any n3 W (by omega)
              obtain ⟨W5, hW5⟩ : ∃ W5, W5 = wr.alloc (.cells #[.int .i64 n0, .int .i64 n1, .int .i64 n2, .int .i64 n3] 45) := ⟨_, rfl⟩
              have hb5 : Below wr.heap.size wr W5 := by rw [hW5]; exact (Below.refl _ _).alloc (Nat.le_refl _) _
              have HB5 : Hid (Below W1.heap.size W1 W5) := HB.out.trans (hb5.mono HB.out.size)
              have HR5 : Hid (Row W5 wr.heap.size 45 #[.int .i64 n0, .int .i64 n1, .int .i64 n2, .int .i64 n3]) := by rw [hW5]; exact Row.new _ _ _
              have HSk : Hid (∀ W, Below W5.heap.size W5 W → W.cell? ⟨wr.heap.size, 0, none⟩ = some (.int .i64 n0) ∧ W.cell? ⟨wr.heap.size, 1, none⟩ = some (.int .i64 n1) ∧ W.cell? ⟨wr.heap.size, 2, none⟩ = some (.int .i64 n2) ∧ W.cell? ⟨wr.heap.size, 3, none⟩ = some (.int .i64 n3)) := fun W hW => (HR5.out.under hW HR5.out.lt).four
              have HW5 := Lib.hid hW5
              clear hx hrx hb5 hW5 ht HT hF0 hF1 hF2 hF3 hSx q0 q1 q2 q3 q4 q5 q6 q7
              have c1 : (⟨#[32]⟩ : ByteArray).size = 1 := rfl
              have c2 : (⟨#[101, 100, 103, 101, 32]⟩ : ByteArray).size = 5 := rfl
              have c3 : (⟨#[10]⟩ : ByteArray).size = 1 := rfl
              have k0 : ¬ (9223372036854775807 < T.size + 5) := by omega
              have k1 : ¬ (9223372036854775807 < T.size + 5 + F0.size) := by omega
              have k2 : ¬ (9223372036854775807 < T.size + 5 + F0.size + 1) := by omega
              have k3 : ¬ (9223372036854775807 < T.size + 5 + F0.size + 1 + F1.size) := by omega
              have k4 : ¬ (9223372036854775807 < T.size + 5 + F0.size + 1 + F1.size + 1) := by omega
              have k5 : ¬ (9223372036854775807 < T.size + 5 + F0.size + 1 + F1.size + 1 + F2.size) := by omega
              have k6 : ¬ (9223372036854775807 < T.size + 5 + F0.size + 1 + F1.size + 1 + F2.size + 1) := by omega
              have k7 : ¬ (9223372036854775807 < T.size + 5 + F0.size + 1 + F1.size + 1 + F2.size + 1 + F3.size) := by omega
              have k8 : ¬ (9223372036854775807 < T.size + 5 + F0.size + 1 + F1.size + 1 + F2.size + 1 + F3.size + 1) := by omega
              go_upto_region 19 with fail
              rw [← HW5.out]
              obtain ⟨s0, s1, s2, s3⟩ := HSk.out W5.drew (Below.refl _ _).drew
              clear g0 g1 g2 f0 f1 f2 f3
              go_region_held3 (fun w' => w'.cell? ⟨wr.heap.size, 0, none⟩ = some (.int .i64 n0) ∧ w'.cell? ⟨wr.heap.size, 1, none⟩ = some (.int .i64 n1) ∧ w'.cell? ⟨wr.heap.size, 2, none⟩ = some (.int .i64 n2) ∧ w'.cell? ⟨wr.heap.size, 3, none⟩ = some (.int .i64 n3)) (first | assumption | (exact ⟨s0, s1, s2, s3⟩) | (go_keep; done)) (first
                | (go_at_call 18
                   with_reducible refine (HC0.out W5.drew).mono ?_
                   rintro e' w2 ⟨rfl, hb2⟩
                   have HB2 : Hid (Below W5.heap.size W5 w2) := (Below.refl _ _).drew.trans hb2
                   have hS2 := HSk.out w2 HB2.out
                   clear hb2)
                | (go_at_call 18
                   with_reducible refine (HC1.out _).mono ?_
                   rintro e' w3 ⟨rfl, hb3⟩
                   have HB3 : Hid (Below W5.heap.size W5 w3) := HB2.out.trans (hb3.mono HB2.out.size)
                   have hS3 := HSk.out w3 HB3.out
                   clear hb3)
                | (go_at_call 18
                   with_reducible refine (HC2.out _).mono ?_
                   rintro e' w4 ⟨rfl, hb4⟩
                   have HB4 : Hid (Below W5.heap.size W5 w4) := HB3.out.trans (hb4.mono HB3.out.size)
                   have hS4 := HSk.out w4 HB4.out
                   clear hb4)
                | (go_at_call 18
                   with_reducible refine (HC3.out _).mono ?_
                   rintro e' w5 ⟨rfl, hb5⟩
                   have HB6 : Hid (Below W5.heap.size W5 w5) := HB4.out.trans (hb5.mono HB4.out.size)
                   have hS5 := HSk.out w5 HB6.out
                   clear hb5))
              all_goals
                (go_wp2_with fail
                 go_roundw
                 case rel => exact ⟨j + 1, by omega, by go_num, by rw [HT3.out], HB5.out.trans (HB6.out.mono HB5.out.size)⟩
                 case measure => simp [intOf]; omega)
            · have hjj : j = es.length := by omega
              subst hjj
              have HF3 : Hid (fmtAu ⟨ini, acc, es⟩ = (es.take es.length).foldl edStepA h0) := by show _ = _; rw [HF2.out, ← HT2.out, List.take_length]
              obtain ⟨T, ht⟩ : ∃ t, t = (es.take es.length).foldl edStepA h0 := ⟨_, rfl⟩
              rw [← ht] at HF3 ⊢
              clear ht
              go_wp2_with fail
              go_ret
              exact ⟨ret_string HF3.out.symm, HB0.out.trans (HB.out.mono HB0.out.size)⟩

end Go.Proofs.YtiikphdgnhajeaaDoor

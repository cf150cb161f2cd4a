/- The walk of spec.l2Line. -/
import Derived.Test.YtcipnecdeipeaaaDoorFy1Q
namespace Go.Proofs.YtcipnecdeipeaaaDoor
open Go.RowKit

theorem lit2 (a b : UInt8) : (⟨#[a, b]⟩ : ByteArray) = ⟨#[a]⟩ ++ ⟨#[b]⟩ := by apply ByteArray.ext; simp
theorem lit3 (a b c : UInt8) : (⟨#[a, b, c]⟩ : ByteArray) = ⟨#[a]⟩ ++ (⟨#[b]⟩ ++ ⟨#[c]⟩) := by apply ByteArray.ext; simp

set_option maxHeartbeats 2000000 in
set_option maxRecDepth 100000 in
theorem specLine_any (g vl : Ex) (fr t0 vr sy n0 n1 m0 m1 : Int) (a2 b2 : Option Addr) (l2 cp2 k2 dp2 : Nat) (w : World) (hg : Lies w w.heap.size g (.int .i64 n0) (.int .i64 n1) (.slice a2 l2 cp2)) (hv : Lies w w.heap.size vl (.int .i64 m0) (.int .i64 m1) (.slice b2 k2 dp2)) (hvg : valid g = true) (hok : vr = -1 ∨ 0 ≤ vr ∧ vr ≤ 2 ∧ valid vl = true) (h0 : -2 ≤ sy) (h2 : sy ≤ 2) (hf0 : 0 ≤ fr) (hf3 : fr ≤ 3) (ht0 : 0 ≤ t0) (ht3 : t0 ≤ 3) :
    Calls Tryd.prog 13 #[.agg #[.int .i64 fr, .int .i64 t0, .int .i64 n0, .int .i64 n1, .slice a2 l2 cp2, .int .i64 vr, .int .i64 m0, .int .i64 m1, .slice b2 k2 dp2, .int .i64 sy]] w (FmPost (lineB ⟨fr, t0, g, vr, vl, sy⟩ ++ (⟨#[10]⟩ : ByteArray)) w) := by
  obtain ⟨W1, hW1⟩ : ∃ W1, W1 = w.alloc (.cells #[.int .i64 fr, .int .i64 t0, .int .i64 n0, .int .i64 n1, .slice a2 l2 cp2, .int .i64 vr, .int .i64 m0, .int .i64 m1, .slice b2 k2 dp2, .int .i64 sy] 46) := ⟨_, rfl⟩
  have hb0 : Below w.heap.size w W1 := by rw [hW1]; exact (Below.refl _ _).alloc (Nat.le_refl _) _
  have HR : Hid (Row W1 w.heap.size 46 #[.int .i64 fr, .int .i64 t0, .int .i64 n0, .int .i64 n1, .slice a2 l2 cp2, .int .i64 vr, .int .i64 m0, .int .i64 m1, .slice b2 k2 dp2, .int .i64 sy]) := by rw [hW1]; exact Row.new _ _ _
  have HV := Lib.hid (below_more hv hb0 hb0.size)
  have HG := Lib.hid (below_more hg hb0 hb0.size)
  have HB0 := Lib.hid hb0
  have HW1 := Lib.hid hW1
  have hxg : fmtX g = fmtE 6 g := by unfold fmtX; rw [hvg]; rfl
  have hFs := one_size (48 + fr)
  have hTs := one_size (48 + t0)
  have hGs := fmtX_small g
  have hVs := fmtX_small vl
  have HC1 : Hid (∀ W, Calls Tryd.prog 12 #[.int .i64 fr] W (FmPost (strOfNums [48 + fr]) W)) := fun W => dec_any fr W hf0 (by omega)
  have HC2 : Hid (∀ W, Calls Tryd.prog 12 #[.int .i64 t0] W (FmPost (strOfNums [48 + t0]) W)) := fun W => dec_any t0 W ht0 (by omega)
  have HC3 : Hid (∀ W, Below W1.heap.size W1 W → Calls Tryd.prog 25 #[.agg #[.int .i64 n0, .int .i64 n1, .slice a2 l2 cp2]] W (FmPost (fmtX g) W)) := fun W hW => by
    rw [hxg]
    exact fmt_any 6 (by omega) g _ _ _ W (shape_of_valid hvg.symm) (below_more HG.out hW hW.size)
  have HC4 : Hid (valid vl = true → ∀ W, Below W1.heap.size W1 W → Calls Tryd.prog 25 #[.agg #[.int .i64 m0, .int .i64 m1, .slice b2 k2 dp2]] W (FmPost (fmtX vl) W)) := fun hvv W hW => by
    rw [show fmtX vl = fmtE 6 vl by unfold fmtX; rw [hvv]; rfl]
    exact fmt_any 6 (by omega) vl _ _ _ W (shape_of_valid hvv.symm) (below_more HV.out hW hW.size)
  obtain ⟨O1, hO1⟩ : ∃ O, O = (⟨#[101, 100, 103, 101, 32]⟩ : ByteArray) ++ strOfNums [48 + fr] ++ (⟨#[32]⟩ : ByteArray) ++ strOfNums [48 + t0] ++ (⟨#[32]⟩ : ByteArray) ++ fmtX g ++ (⟨#[32]⟩ : ByteArray) := ⟨_, rfl⟩
  have c1 : (⟨#[32]⟩ : ByteArray).size = 1 := rfl
  have c2 : (⟨#[101, 100, 103, 101, 32]⟩ : ByteArray).size = 5 := rfl
  have hO1s : O1.size ≤ 202 := by
    rw [hO1, ByteArray.size_append, ByteArray.size_append, ByteArray.size_append, ByteArray.size_append, ByteArray.size_append, ByteArray.size_append, one_size, one_size]
    omega
  have HE : Hid (lineB ⟨fr, t0, g, vr, vl, sy⟩ ++ (⟨#[10]⟩ : ByteArray) = O1 ++ asgB vr vl ++ (⟨#[32]⟩ : ByteArray) ++ synB sy ++ (⟨#[10]⟩ : ByteArray)) := by
    show _ = _
    rw [hO1]
    unfold lineB actB
    simp only [ByteArray.append_assoc]
  obtain ⟨F, hF⟩ : ∃ F, F = strOfNums [48 + fr] := ⟨_, rfl⟩
  obtain ⟨T, hT⟩ : ∃ F, F = strOfNums [48 + t0] := ⟨_, rfl⟩
  obtain ⟨G, hG⟩ : ∃ F, F = fmtX g := ⟨_, rfl⟩
  rw [← hF] at hFs HC1 hO1
  rw [← hT] at hTs HC2 hO1
  rw [← hG] at hGs HC3 hO1
  have HO1 := Lib.hid hO1
  have HSk : Hid (∀ W, Below W1.heap.size W1 W → W.cell? ⟨w.heap.size, 0, none⟩ = some (.int .i64 fr) ∧ W.cell? ⟨w.heap.size, 1, none⟩ = some (.int .i64 t0) ∧ W.cell? ⟨w.heap.size, 2, none⟩ = some (.int .i64 n0) ∧ W.cell? ⟨w.heap.size, 3, none⟩ = some (.int .i64 n1) ∧ W.cell? ⟨w.heap.size, 4, none⟩ = some (.slice a2 l2 cp2) ∧ W.cell? ⟨w.heap.size, 5, none⟩ = some (.int .i64 vr) ∧ W.cell? ⟨w.heap.size, 6, none⟩ = some (.int .i64 m0) ∧ W.cell? ⟨w.heap.size, 7, none⟩ = some (.int .i64 m1) ∧ W.cell? ⟨w.heap.size, 8, none⟩ = some (.slice b2 k2 dp2) ∧ W.cell? ⟨w.heap.size, 9, none⟩ = some (.int .i64 sy)) := fun W hW => (HR.out.under hW HR.out.lt).ten
  have HOk := Lib.hid hok
  clear hv hg hb0 hW1 hF hT hG HV HG hO1 hf0 hf3 ht0 ht3 hxg hvg hok
  go_enter Tryd.func13, Tryd.ntmps13
  go_upto_region 1 with fail
  rw [← HW1.out]
  go_cut [3] from 4 to 18 (fun o wx => o = .string O1 ∧ Hid (Below W1.heap.size W1 wx))
  case first =>
    obtain ⟨s0, s1, s2, s3, s4, _⟩ := HSk.out W1.drew (Below.refl _ _).drew
    have f1 : ¬ (9223372036854775807 < 9 + G.size) := by omega
    have f2 : ¬ (9223372036854775807 < 9 + G.size + 1) := by omega
    go_region_held3 (fun w' => w'.cell? ⟨w.heap.size, 0, none⟩ = some (.int .i64 fr) ∧ w'.cell? ⟨w.heap.size, 1, none⟩ = some (.int .i64 t0) ∧ w'.cell? ⟨w.heap.size, 2, none⟩ = some (.int .i64 n0) ∧ w'.cell? ⟨w.heap.size, 3, none⟩ = some (.int .i64 n1) ∧ w'.cell? ⟨w.heap.size, 4, none⟩ = some (.slice a2 l2 cp2)) (first | assumption | (exact ⟨s0, s1, s2, s3, s4⟩) | (go_keep; done)) (first
      | (go_at_call 12
         with_reducible refine (HC1.out W1.drew).mono ?_
         rintro e' w2 ⟨rfl, hb2⟩
         have HB2 : Hid (Below W1.heap.size W1 w2) := (Below.refl _ _).drew.trans hb2
         obtain ⟨p0, p1, p2, p3, p4, _⟩ := HSk.out w2 HB2.out
         have hS2 := And.intro p0 (And.intro p1 (And.intro p2 (And.intro p3 p4)))
         clear hb2 p0 p1 p2 p3 p4)
      | (go_at_call 12
         with_reducible refine (HC2.out _).mono ?_
         rintro e' w3 ⟨rfl, hb3⟩
         have HB3 : Hid (Below W1.heap.size W1 w3) := HB2.out.trans (hb3.mono HB2.out.size)
         obtain ⟨p0, p1, p2, p3, p4, _⟩ := HSk.out w3 HB3.out
         have hS3 := And.intro p0 (And.intro p1 (And.intro p2 (And.intro p3 p4)))
         clear hb3 p0 p1 p2 p3 p4)
      | (go_at_call 25
         with_reducible refine (HC3.out _ HB3.out).mono ?_
         rintro e' w4 ⟨rfl, hb4⟩
         have HB4 : Hid (Below W1.heap.size W1 w4) := HB3.out.trans (hb4.mono HB3.out.size)
         obtain ⟨p0, p1, p2, p3, p4, _⟩ := HSk.out w4 HB4.out
         have hS4 := And.intro p0 (And.intro p1 (And.intro p2 (And.intro p3 p4)))
         clear hb4 p0 p1 p2 p3 p4))
    all_goals
      (go_wp2_with fail
       go_meet
       exact ⟨by rw [HO1.out], HB4⟩)
  case rest =>
  obtain ⟨rfl, HBa⟩ := hcut
  rename World => wa
  clear HC1 HC2 HC3 HO1 hFs hTs hGs
  obtain ⟨O2, hO2⟩ : ∃ O, O = O1 ++ asgB vr vl := ⟨_, rfl⟩
  have hO2s : O2.size ≤ 400 := by
    rw [hO2, ByteArray.size_append]
    have := asgB_small vr vl
    omega
  have HO2 := Lib.hid hO2
  rw [← hO2] at HE
  clear hO2
  obtain ⟨_, _, _, _, _, s5, s6, s7, s8, s9⟩ := HSk.out wa HBa.out
  have hwa : w.heap.size < wa.heap.size := Nat.lt_of_lt_of_le HR.out.lt HBa.out.size
  rcases HOk.out with rfl | ⟨hv0, hv2, hvv⟩
  · have c3 : (⟨#[45]⟩ : ByteArray).size = 1 := rfl
    go_upto_region 3 with fail
    go_cut [3] from 22 to 23 (fun o wx => o = .string O2 ∧ Hid (Below W1.heap.size W1 wx))
    case first =>
      go_wp2_with fail
      go_meet
      exact ⟨by rw [HO2.out]; rfl, HBa⟩
    case rest =>
      obtain ⟨rfl, HBb⟩ := hcut
      rename World => wb
      clear s5 s6 s7 s8 s9 HO2 HC4
      obtain ⟨_, _, _, _, _, _, _, _, _, s9⟩ := HSk.out wb HBb.out
      have hwb : w.heap.size < wb.heap.size := Nat.lt_of_lt_of_le HR.out.lt HBb.out.size
      have HBw := Lib.hid (HB0.out.trans (HBb.out.mono HB0.out.size))
      have c4 : (⟨#[10]⟩ : ByteArray).size = 1 := rfl
      by_cases hn : sy < 0
      · have HS : Hid (synB sy = (⟨#[63]⟩ : ByteArray) ++ strOfNums [48 + -sy]) := by show _ = _; unfold synB; rw [if_neg (by omega), if_pos hn]
        have hDs := one_size (48 + -sy)
        obtain ⟨D, hD⟩ : ∃ F, F = strOfNums [48 + -sy] := ⟨_, rfl⟩
        rw [← hD] at hDs HS
        have HD := Lib.hid hD
        have c5 : (⟨#[32, 63]⟩ : ByteArray).size = 2 := rfl
        clear hD
        go_wp2_with fail
        refine (dec_any (-sy) _ (by omega) (by omega)).mono ?_
        rintro e' w5 ⟨rfl, hb5⟩
        rw [← HD.out]
        have HB5 := Lib.hid (HBw.out.trans (hb5.mono HBw.out.size))
        clear hb5
        go_wp2_with fail
        go_ret
        exact ⟨ret_str (by rw [HE.out, HS.out, lit2]; simp only [ByteArray.append_assoc]), HB5.out⟩
      by_cases hp : 0 < sy
      · have HS : Hid (synB sy = (⟨#[33]⟩ : ByteArray) ++ strOfNums [48 + sy]) := by show _ = _; unfold synB; rw [if_pos hp]
        have hDs := one_size (48 + sy)
        obtain ⟨D, hD⟩ : ∃ F, F = strOfNums [48 + sy] := ⟨_, rfl⟩
        rw [← hD] at hDs HS
        have HD := Lib.hid hD
        have c5 : (⟨#[32, 33]⟩ : ByteArray).size = 2 := rfl
        clear hD
        go_wp2_with fail
        refine (dec_any sy _ (by omega) (by omega)).mono ?_
        rintro e' w5 ⟨rfl, hb5⟩
        rw [← HD.out]
        have HB5 := Lib.hid (HBw.out.trans (hb5.mono HBw.out.size))
        clear hb5
        go_wp2_with fail
        go_ret
        exact ⟨ret_str (by rw [HE.out, HS.out, lit2]; simp only [ByteArray.append_assoc]), HB5.out⟩
      · have HS : Hid (synB sy = ⟨#[45]⟩) := by show _ = _; unfold synB; rw [if_neg hp, if_neg hn]
        have c5 : (⟨#[32, 45, 10]⟩ : ByteArray).size = 3 := rfl
        have : sy = 0 := by omega
        subst this
        go_wp2_with fail
        go_ret
        exact ⟨ret_str (by rw [HE.out, HS.out, lit3]; simp only [ByteArray.append_assoc]), HBw.out⟩
  · have HC5 := Lib.hid (HC4.out hvv)
    have HA : Hid (asgB vr vl = strOfNums [120 + vr] ++ (⟨#[58, 61]⟩ : ByteArray) ++ fmtX vl) := by show _ = _; unfold asgB; rw [if_neg (by omega)]
    obtain ⟨V, hV⟩ : ∃ F, F = fmtX vl := ⟨_, rfl⟩
    rw [← hV] at hVs HC5 HA
    have f1 : ¬ (9223372036854775807 < O1.size + 1) := by omega
    have f2 : ¬ (9223372036854775807 < O1.size + 1 + 2) := by omega
    have f3 : ¬ (9223372036854775807 < O1.size + 3) := by omega
    have f4 : ¬ (9223372036854775807 < O1.size + 1 + 2 + V.size) := by omega
    have f5 : ¬ (9223372036854775807 < O1.size + 3 + V.size) := by omega
    have c3 : (⟨#[58, 61]⟩ : ByteArray).size = 2 := rfl
    clear hV
    have : vr = 0 ∨ vr = 1 ∨ vr = 2 := by omega
    rcases this with rfl | rfl | rfl
    · have k1 : IntKind.i64.wrap 1 = 1 := rfl
      obtain ⟨_, _, _, _, _, p5, p6, p7, p8, _⟩ := HSk.out wa.drew HBa.out.drew
      go_upto_region 4 with fail
      go_cut [3] from 24 to 36 (fun o wx => o = .string O2 ∧ Hid (Below W1.heap.size W1 wx))
      case first =>
        go_region_held3 (fun w' => w'.cell? ⟨w.heap.size, 5, none⟩ = some (.int .i64 0) ∧ w'.cell? ⟨w.heap.size, 6, none⟩ = some (.int .i64 m0) ∧ w'.cell? ⟨w.heap.size, 7, none⟩ = some (.int .i64 m1) ∧ w'.cell? ⟨w.heap.size, 8, none⟩ = some (.slice b2 k2 dp2)) (first | assumption | (exact ⟨p5, p6, p7, p8⟩) | (go_keep; done)) (first
          | (go_at_call 25
             with_reducible refine (HC5.out _ HBa.out.drew).mono ?_
             rintro e' w2 ⟨rfl, hb2⟩
             have HB2 : Hid (Below W1.heap.size W1 w2) := HBa.out.drew.trans (hb2.mono HBa.out.size)
             obtain ⟨_, _, _, _, _, z5, z6, z7, z8, _⟩ := HSk.out w2 HB2.out
             have hS2 := And.intro z5 (And.intro z6 (And.intro z7 z8))
             clear hb2 z5 z6 z7 z8))
        all_goals
          (go_wp2_with fail
           go_meet
           exact ⟨by rw [HO2.out, HA.out]; simp only [← ByteArray.append_assoc]; rfl, HB2⟩)
      case rest =>
      clear f1 f2 f3 f4 f5 p5 p6 p7 p8 k1
      obtain ⟨rfl, HBb⟩ := hcut
      rename World => wb
      clear s5 s6 s7 s8 s9 HO2 HC4
      obtain ⟨_, _, _, _, _, _, _, _, _, s9⟩ := HSk.out wb HBb.out
      have hwb : w.heap.size < wb.heap.size := Nat.lt_of_lt_of_le HR.out.lt HBb.out.size
      have HBw := Lib.hid (HB0.out.trans (HBb.out.mono HB0.out.size))
      have c4 : (⟨#[10]⟩ : ByteArray).size = 1 := rfl
      by_cases hn : sy < 0
      · have HS : Hid (synB sy = (⟨#[63]⟩ : ByteArray) ++ strOfNums [48 + -sy]) := by show _ = _; unfold synB; rw [if_neg (by omega), if_pos hn]
        have hDs := one_size (48 + -sy)
        obtain ⟨D, hD⟩ : ∃ F, F = strOfNums [48 + -sy] := ⟨_, rfl⟩
        rw [← hD] at hDs HS
        have HD := Lib.hid hD
        have c5 : (⟨#[32, 63]⟩ : ByteArray).size = 2 := rfl
        clear hD
        go_wp2_with fail
        refine (dec_any (-sy) _ (by omega) (by omega)).mono ?_
        rintro e' w5 ⟨rfl, hb5⟩
        rw [← HD.out]
        have HB5 := Lib.hid (HBw.out.trans (hb5.mono HBw.out.size))
        clear hb5
        go_wp2_with fail
        go_ret
        exact ⟨ret_str (by rw [HE.out, HS.out, lit2]; simp only [ByteArray.append_assoc]), HB5.out⟩
      by_cases hp : 0 < sy
      · have HS : Hid (synB sy = (⟨#[33]⟩ : ByteArray) ++ strOfNums [48 + sy]) := by show _ = _; unfold synB; rw [if_pos hp]
        have hDs := one_size (48 + sy)
        obtain ⟨D, hD⟩ : ∃ F, F = strOfNums [48 + sy] := ⟨_, rfl⟩
        rw [← hD] at hDs HS
        have HD := Lib.hid hD
        have c5 : (⟨#[32, 33]⟩ : ByteArray).size = 2 := rfl
        clear hD
        go_wp2_with fail
        refine (dec_any sy _ (by omega) (by omega)).mono ?_
        rintro e' w5 ⟨rfl, hb5⟩
        rw [← HD.out]
        have HB5 := Lib.hid (HBw.out.trans (hb5.mono HBw.out.size))
        clear hb5
        go_wp2_with fail
        go_ret
        exact ⟨ret_str (by rw [HE.out, HS.out, lit2]; simp only [ByteArray.append_assoc]), HB5.out⟩
      · have HS : Hid (synB sy = ⟨#[45]⟩) := by show _ = _; unfold synB; rw [if_neg hp, if_neg hn]
        have c5 : (⟨#[32, 45, 10]⟩ : ByteArray).size = 3 := rfl
        have : sy = 0 := by omega
        subst this
        go_wp2_with fail
        go_ret
        exact ⟨ret_str (by rw [HE.out, HS.out, lit3]; simp only [ByteArray.append_assoc]), HBw.out⟩
    · have k1 : IntKind.i64.wrap 2 = 2 := rfl
      obtain ⟨_, _, _, _, _, p5, p6, p7, p8, _⟩ := HSk.out wa.drew HBa.out.drew
      go_upto_region 4 with fail
      go_cut [3] from 24 to 36 (fun o wx => o = .string O2 ∧ Hid (Below W1.heap.size W1 wx))
      case first =>
        go_region_held3 (fun w' => w'.cell? ⟨w.heap.size, 5, none⟩ = some (.int .i64 1) ∧ w'.cell? ⟨w.heap.size, 6, none⟩ = some (.int .i64 m0) ∧ w'.cell? ⟨w.heap.size, 7, none⟩ = some (.int .i64 m1) ∧ w'.cell? ⟨w.heap.size, 8, none⟩ = some (.slice b2 k2 dp2)) (first | assumption | (exact ⟨p5, p6, p7, p8⟩) | (go_keep; done)) (first
          | (go_at_call 25
             with_reducible refine (HC5.out _ HBa.out.drew).mono ?_
             rintro e' w2 ⟨rfl, hb2⟩
             have HB2 : Hid (Below W1.heap.size W1 w2) := HBa.out.drew.trans (hb2.mono HBa.out.size)
             obtain ⟨_, _, _, _, _, z5, z6, z7, z8, _⟩ := HSk.out w2 HB2.out
             have hS2 := And.intro z5 (And.intro z6 (And.intro z7 z8))
             clear hb2 z5 z6 z7 z8))
        all_goals
          (go_wp2_with fail
           go_meet
           exact ⟨by rw [HO2.out, HA.out]; simp only [← ByteArray.append_assoc]; rfl, HB2⟩)
      case rest =>
      clear f1 f2 f3 f4 f5 p5 p6 p7 p8 k1
      obtain ⟨rfl, HBb⟩ := hcut
      rename World => wb
      clear s5 s6 s7 s8 s9 HO2 HC4
      obtain ⟨_, _, _, _, _, _, _, _, _, s9⟩ := HSk.out wb HBb.out
      have hwb : w.heap.size < wb.heap.size := Nat.lt_of_lt_of_le HR.out.lt HBb.out.size
      have HBw := Lib.hid (HB0.out.trans (HBb.out.mono HB0.out.size))
      have c4 : (⟨#[10]⟩ : ByteArray).size = 1 := rfl
      by_cases hn : sy < 0
      · have HS : Hid (synB sy = (⟨#[63]⟩ : ByteArray) ++ strOfNums [48 + -sy]) := by show _ = _; unfold synB; rw [if_neg (by omega), if_pos hn]
        have hDs := one_size (48 + -sy)
        obtain ⟨D, hD⟩ : ∃ F, F = strOfNums [48 + -sy] := ⟨_, rfl⟩
        rw [← hD] at hDs HS
        have HD := Lib.hid hD
        have c5 : (⟨#[32, 63]⟩ : ByteArray).size = 2 := rfl
        clear hD
        go_wp2_with fail
        refine (dec_any (-sy) _ (by omega) (by omega)).mono ?_
        rintro e' w5 ⟨rfl, hb5⟩
        rw [← HD.out]
        have HB5 := Lib.hid (HBw.out.trans (hb5.mono HBw.out.size))
        clear hb5
        go_wp2_with fail
        go_ret
        exact ⟨ret_str (by rw [HE.out, HS.out, lit2]; simp only [ByteArray.append_assoc]), HB5.out⟩
      by_cases hp : 0 < sy
      · have HS : Hid (synB sy = (⟨#[33]⟩ : ByteArray) ++ strOfNums [48 + sy]) := by show _ = _; unfold synB; rw [if_pos hp]
        have hDs := one_size (48 + sy)
        obtain ⟨D, hD⟩ : ∃ F, F = strOfNums [48 + sy] := ⟨_, rfl⟩
        rw [← hD] at hDs HS
        have HD := Lib.hid hD
        have c5 : (⟨#[32, 33]⟩ : ByteArray).size = 2 := rfl
        clear hD
        go_wp2_with fail
        refine (dec_any sy _ (by omega) (by omega)).mono ?_
        rintro e' w5 ⟨rfl, hb5⟩
        rw [← HD.out]
        have HB5 := Lib.hid (HBw.out.trans (hb5.mono HBw.out.size))
        clear hb5
        go_wp2_with fail
        go_ret
        exact ⟨ret_str (by rw [HE.out, HS.out, lit2]; simp only [ByteArray.append_assoc]), HB5.out⟩
      · have HS : Hid (synB sy = ⟨#[45]⟩) := by show _ = _; unfold synB; rw [if_neg hp, if_neg hn]
        have c5 : (⟨#[32, 45, 10]⟩ : ByteArray).size = 3 := rfl
        have : sy = 0 := by omega
        subst this
        go_wp2_with fail
        go_ret
        exact ⟨ret_str (by rw [HE.out, HS.out, lit3]; simp only [ByteArray.append_assoc]), HBw.out⟩
    · have k1 : IntKind.i64.wrap 3 = 3 := rfl
      obtain ⟨_, _, _, _, _, p5, p6, p7, p8, _⟩ := HSk.out wa.drew HBa.out.drew
      go_upto_region 4 with fail
      go_cut [3] from 24 to 36 (fun o wx => o = .string O2 ∧ Hid (Below W1.heap.size W1 wx))
      case first =>
        go_region_held3 (fun w' => w'.cell? ⟨w.heap.size, 5, none⟩ = some (.int .i64 2) ∧ w'.cell? ⟨w.heap.size, 6, none⟩ = some (.int .i64 m0) ∧ w'.cell? ⟨w.heap.size, 7, none⟩ = some (.int .i64 m1) ∧ w'.cell? ⟨w.heap.size, 8, none⟩ = some (.slice b2 k2 dp2)) (first | assumption | (exact ⟨p5, p6, p7, p8⟩) | (go_keep; done)) (first
          | (go_at_call 25
             with_reducible refine (HC5.out _ HBa.out.drew).mono ?_
             rintro e' w2 ⟨rfl, hb2⟩
             have HB2 : Hid (Below W1.heap.size W1 w2) := HBa.out.drew.trans (hb2.mono HBa.out.size)
             obtain ⟨_, _, _, _, _, z5, z6, z7, z8, _⟩ := HSk.out w2 HB2.out
             have hS2 := And.intro z5 (And.intro z6 (And.intro z7 z8))
             clear hb2 z5 z6 z7 z8))
        all_goals
          (go_wp2_with fail
           go_meet
           exact ⟨by rw [HO2.out, HA.out]; simp only [← ByteArray.append_assoc]; rfl, HB2⟩)
      case rest =>
      clear f1 f2 f3 f4 f5 p5 p6 p7 p8 k1
      obtain ⟨rfl, HBb⟩ := hcut
      rename World => wb
      clear s5 s6 s7 s8 s9 HO2 HC4
      obtain ⟨_, _, _, _, _, _, _, _, _, s9⟩ := HSk.out wb HBb.out
      have hwb : w.heap.size < wb.heap.size := Nat.lt_of_lt_of_le HR.out.lt HBb.out.size
      have HBw := Lib.hid (HB0.out.trans (HBb.out.mono HB0.out.size))
      have c4 : (⟨#[10]⟩ : ByteArray).size = 1 := rfl
      by_cases hn : sy < 0
      · have HS : Hid (synB sy = (⟨#[63]⟩ : ByteArray) ++ strOfNums [48 + -sy]) := by show _ = _; unfold synB; rw [if_neg (by omega), if_pos hn]
        have hDs := one_size (48 + -sy)
        obtain ⟨D, hD⟩ : ∃ F, F = strOfNums [48 + -sy] := ⟨_, rfl⟩
        rw [← hD] at hDs HS
        have HD := Lib.hid hD
        have c5 : (⟨#[32, 63]⟩ : ByteArray).size = 2 := rfl
        clear hD
        go_wp2_with fail
        refine (dec_any (-sy) _ (by omega) (by omega)).mono ?_
        rintro e' w5 ⟨rfl, hb5⟩
        rw [← HD.out]
        have HB5 := Lib.hid (HBw.out.trans (hb5.mono HBw.out.size))
        clear hb5
        go_wp2_with fail
        go_ret
        exact ⟨ret_str (by rw [HE.out, HS.out, lit2]; simp only [ByteArray.append_assoc]), HB5.out⟩
      by_cases hp : 0 < sy
      · have HS : Hid (synB sy = (⟨#[33]⟩ : ByteArray) ++ strOfNums [48 + sy]) := by show _ = _; unfold synB; rw [if_pos hp]
        have hDs := one_size (48 + sy)
        obtain ⟨D, hD⟩ : ∃ F, F = strOfNums [48 + sy] := ⟨_, rfl⟩
        rw [← hD] at hDs HS
        have HD := Lib.hid hD
        have c5 : (⟨#[32, 33]⟩ : ByteArray).size = 2 := rfl
        clear hD
        go_wp2_with fail
        refine (dec_any sy _ (by omega) (by omega)).mono ?_
        rintro e' w5 ⟨rfl, hb5⟩
        rw [← HD.out]
        have HB5 := Lib.hid (HBw.out.trans (hb5.mono HBw.out.size))
        clear hb5
        go_wp2_with fail
        go_ret
        exact ⟨ret_str (by rw [HE.out, HS.out, lit2]; simp only [ByteArray.append_assoc]), HB5.out⟩
      · have HS : Hid (synB sy = ⟨#[45]⟩) := by show _ = _; unfold synB; rw [if_neg hp, if_neg hn]
        have c5 : (⟨#[32, 45, 10]⟩ : ByteArray).size = 3 := rfl
        have : sy = 0 := by omega
        subst this
        go_wp2_with fail
        go_ret
        exact ⟨ret_str (by rw [HE.out, HS.out, lit3]; simp only [ByteArray.append_assoc]), HBw.out⟩

end Go.Proofs.YtcipnecdeipeaaaDoor

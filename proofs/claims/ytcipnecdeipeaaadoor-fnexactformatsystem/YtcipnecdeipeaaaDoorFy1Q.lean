/- The text of an edge, as plain data; the walks of impl's action.assignmentText, action.syncText, action.text and arc.line. -/
import Derived.Test.YtcipnecdeipeaaaDoorJ07
import Derived.Test.YtcipnecdeipeaaaDoorVsQ
import Derived.StillTailTactics
namespace Go.Proofs.YtcipnecdeipeaaaDoor
open Go.RowKit

def asgB (vr : Int) (vl : Ex) : ByteArray := if vr = -1 then ⟨#[45]⟩ else strOfNums [120 + vr] ++ (⟨#[58, 61]⟩ : ByteArray) ++ fmtX vl
def synB (sy : Int) : ByteArray := if 0 < sy then (⟨#[33]⟩ : ByteArray) ++ strOfNums [48 + sy] else if sy < 0 then (⟨#[63]⟩ : ByteArray) ++ strOfNums [48 + -sy] else ⟨#[45]⟩
def actB (g : Ex) (vr : Int) (vl : Ex) (sy : Int) : ByteArray := fmtX g ++ (⟨#[32]⟩ : ByteArray) ++ asgB vr vl ++ (⟨#[32]⟩ : ByteArray) ++ synB sy
/-- The line of an edge, without its end. -/
def lineB (e : Ed) : ByteArray := (⟨#[101, 100, 103, 101, 32]⟩ : ByteArray) ++ strOfNums [48 + e.fr] ++ (⟨#[32]⟩ : ByteArray) ++ strOfNums [48 + e.to] ++ (⟨#[32]⟩ : ByteArray) ++ actB e.g e.vr e.vl e.sy

theorem fmtX_small (e : Ex) : (fmtX e).size ≤ 192 := by
  unfold fmtX
  split
  · exact fmtE_small (Nat.le_refl _) e
  · exact Nat.zero_le _
theorem one_size (z : Int) : (strOfNums [z]).size = 1 := by rw [strOfNums_size]; rfl
theorem asgB_small (vr : Int) (vl : Ex) : (asgB vr vl).size ≤ 195 := by
  unfold asgB
  split
  · exact (show 1 ≤ 195 by omega)
  · rw [ByteArray.size_append, ByteArray.size_append, one_size]
    have := fmtX_small vl
    have e2 : (⟨#[58, 61]⟩ : ByteArray).size = 2 := rfl
    omega
theorem synB_small (sy : Int) : (synB sy).size ≤ 2 := by
  unfold synB
  split
  · rw [ByteArray.size_append, one_size]; exact Nat.le_refl _
  split
  · rw [ByteArray.size_append, one_size]; exact Nat.le_refl _
  · exact (show 1 ≤ 2 by omega)
theorem actB_small (g : Ex) (vr : Int) (vl : Ex) (sy : Int) : (actB g vr vl sy).size ≤ 400 := by
  unfold actB
  rw [ByteArray.size_append, ByteArray.size_append, ByteArray.size_append, ByteArray.size_append]
  have h1 := fmtX_small g
  have h2 := asgB_small vr vl
  have h3 := synB_small sy
  have e1 : (⟨#[32]⟩ : ByteArray).size = 1 := rfl
  omega
theorem lineB_small (e : Ed) : (lineB e).size ≤ 420 := by
  unfold lineB
  rw [ByteArray.size_append, ByteArray.size_append, ByteArray.size_append, ByteArray.size_append, ByteArray.size_append, one_size, one_size]
  have h1 := actB_small e.g e.vr e.vl e.sy
  have e1 : (⟨#[32]⟩ : ByteArray).size = 1 := rfl
  have e2 : (⟨#[101, 100, 103, 101, 32]⟩ : ByteArray).size = 5 := rfl
  omega

set_option maxHeartbeats 400000 in
set_option maxRecDepth 100000 in
theorem asgT_any (vl : Ex) (vr sy n0 n1 m0 m1 : Int) (a2 b2 : Option Addr) (l2 cp2 k2 dp2 : Nat) (w : World) (hv : Lies w w.heap.size vl (.int .i64 m0) (.int .i64 m1) (.slice b2 k2 dp2)) (hd : desc vl ≤ 1048576) (hok : vr = -1 ∨ 0 ≤ vr ∧ vr ≤ 2) :
    Calls Tryd.prog 39 #[.agg #[.int .i64 n0, .int .i64 n1, .slice a2 l2 cp2, .int .i64 vr, .int .i64 m0, .int .i64 m1, .slice b2 k2 dp2, .int .i64 sy]] w (FmPost (asgB vr vl) w) := by
  rcases hok with rfl | ⟨h0, h2⟩
  · go_enter Tryd.func39, Tryd.ntmps39
    go_wp2_with fail
    go_ret
    exact ⟨ret_str rfl, (Below.refl _ _).alloc (Nat.le_refl _) _⟩
  · obtain ⟨W1, hW1⟩ : ∃ W1, W1 = w.alloc (.cells #[.int .i64 n0, .int .i64 n1, .slice a2 l2 cp2, .int .i64 vr, .int .i64 m0, .int .i64 m1, .slice b2 k2 dp2, .int .i64 sy] 51) := ⟨_, rfl⟩
    have hb0 : Below w.heap.size w W1 := by rw [hW1]; exact (Below.refl _ _).alloc (Nat.le_refl _) _
    have HR : Hid (Row W1 w.heap.size 51 #[.int .i64 n0, .int .i64 n1, .slice a2 l2 cp2, .int .i64 vr, .int .i64 m0, .int .i64 m1, .slice b2 k2 dp2, .int .i64 sy]) := by rw [hW1]; exact Row.new _ _ _
    have HV := Lib.hid (below_more hv hb0 hb0.size)
    have HB0 := Lib.hid hb0
    have HW1 := Lib.hid hW1
    have HE : Hid (asgB vr vl = strOfNums [120 + vr] ++ (⟨#[58, 61]⟩ : ByteArray) ++ fmtX vl) := by show _ = _; unfold asgB; rw [if_neg (by omega)]
    have hFs := fmtX_small vl
    have HC : Hid (∀ W, Below W1.heap.size W1 W → Calls Tryd.prog 38 #[.agg #[.int .i64 m0, .int .i64 m1, .slice b2 k2 dp2]] W (FmPost (fmtX vl) W)) := fun W hW => implFx_any vl _ _ _ W (below_more HV.out hW hW.size) hd
    obtain ⟨F, hF⟩ : ∃ F, F = fmtX vl := ⟨_, rfl⟩
    rw [← hF] at hFs HC HE
    have f1 : ¬ (9223372036854775807 < 3 + F.size) := by omega
    have HSk : Hid (∀ W, Below W1.heap.size W1 W → W.cell? ⟨w.heap.size, 3, none⟩ = some (.int .i64 vr) ∧ W.cell? ⟨w.heap.size, 4, none⟩ = some (.int .i64 m0) ∧ W.cell? ⟨w.heap.size, 5, none⟩ = some (.int .i64 m1) ∧ W.cell? ⟨w.heap.size, 6, none⟩ = some (.slice b2 k2 dp2)) := fun W hW => by
      obtain ⟨_, _, _, q3, q4, q5, q6, _⟩ := (HR.out.under hW HR.out.lt).eight
      exact ⟨q3, q4, q5, q6⟩
    clear hv hb0 hW1 hF HV
    have : vr = 0 ∨ vr = 1 ∨ vr = 2 := by omega
    rcases this with rfl | rfl | rfl
    · have hS1 := HSk.out W1.drew (Below.refl _ _).drew
      obtain ⟨r3, _⟩ := HSk.out W1 (Below.refl _ _)
      have k1 : IntKind.i64.wrap 1 = 1 := rfl
      go_enter Tryd.func39, Tryd.ntmps39
      go_upto_region 3 with fail
      rw [← HW1.out]
      go_region_held3 (fun w' => w'.cell? ⟨w.heap.size, 3, none⟩ = some (.int .i64 0) ∧ w'.cell? ⟨w.heap.size, 4, none⟩ = some (.int .i64 m0) ∧ w'.cell? ⟨w.heap.size, 5, none⟩ = some (.int .i64 m1) ∧ w'.cell? ⟨w.heap.size, 6, none⟩ = some (.slice b2 k2 dp2)) (first | assumption | (go_keep; done)) (first
        | (go_at_call 38
           with_reducible refine (HC.out _ (Below.refl _ _).drew).mono ?_
           rintro e' w2 ⟨rfl, hb2⟩
           have HB2 : Hid (Below W1.heap.size W1 w2) := (Below.refl _ _).drew.trans hb2
           have hS2 := HSk.out w2 HB2.out
           clear hb2))
      all_goals
        (go_wp2_with fail
         go_ret
         exact ⟨ret_str (HE.out.trans rfl).symm, HB0.out.trans (HB2.out.mono HB0.out.size)⟩)
    · have hS1 := HSk.out W1.drew (Below.refl _ _).drew
      obtain ⟨r3, _⟩ := HSk.out W1 (Below.refl _ _)
      have k1 : IntKind.i64.wrap 2 = 2 := rfl
      go_enter Tryd.func39, Tryd.ntmps39
      go_upto_region 3 with fail
      rw [← HW1.out]
      go_region_held3 (fun w' => w'.cell? ⟨w.heap.size, 3, none⟩ = some (.int .i64 1) ∧ w'.cell? ⟨w.heap.size, 4, none⟩ = some (.int .i64 m0) ∧ w'.cell? ⟨w.heap.size, 5, none⟩ = some (.int .i64 m1) ∧ w'.cell? ⟨w.heap.size, 6, none⟩ = some (.slice b2 k2 dp2)) (first | assumption | (go_keep; done)) (first
        | (go_at_call 38
           with_reducible refine (HC.out _ (Below.refl _ _).drew).mono ?_
           rintro e' w2 ⟨rfl, hb2⟩
           have HB2 : Hid (Below W1.heap.size W1 w2) := (Below.refl _ _).drew.trans hb2
           have hS2 := HSk.out w2 HB2.out
           clear hb2))
      all_goals
        (go_wp2_with fail
         go_ret
         exact ⟨ret_str (HE.out.trans rfl).symm, HB0.out.trans (HB2.out.mono HB0.out.size)⟩)
    · have hS1 := HSk.out W1.drew (Below.refl _ _).drew
      obtain ⟨r3, _⟩ := HSk.out W1 (Below.refl _ _)
      have k1 : IntKind.i64.wrap 3 = 3 := rfl
      go_enter Tryd.func39, Tryd.ntmps39
      go_upto_region 3 with fail
      rw [← HW1.out]
      go_region_held3 (fun w' => w'.cell? ⟨w.heap.size, 3, none⟩ = some (.int .i64 2) ∧ w'.cell? ⟨w.heap.size, 4, none⟩ = some (.int .i64 m0) ∧ w'.cell? ⟨w.heap.size, 5, none⟩ = some (.int .i64 m1) ∧ w'.cell? ⟨w.heap.size, 6, none⟩ = some (.slice b2 k2 dp2)) (first | assumption | (go_keep; done)) (first
        | (go_at_call 38
           with_reducible refine (HC.out _ (Below.refl _ _).drew).mono ?_
           rintro e' w2 ⟨rfl, hb2⟩
           have HB2 : Hid (Below W1.heap.size W1 w2) := (Below.refl _ _).drew.trans hb2
           have hS2 := HSk.out w2 HB2.out
           clear hb2))
      all_goals
        (go_wp2_with fail
         go_ret
         exact ⟨ret_str (HE.out.trans rfl).symm, HB0.out.trans (HB2.out.mono HB0.out.size)⟩)

set_option maxHeartbeats 400000 in
set_option maxRecDepth 100000 in
theorem synT_any (vr sy n0 n1 m0 m1 : Int) (a2 b2 : Option Addr) (l2 cp2 k2 dp2 : Nat) (w : World) (h0 : -2 ≤ sy) (h2 : sy ≤ 2) :
    Calls Tryd.prog 40 #[.agg #[.int .i64 n0, .int .i64 n1, .slice a2 l2 cp2, .int .i64 vr, .int .i64 m0, .int .i64 m1, .slice b2 k2 dp2, .int .i64 sy]] w (FmPost (synB sy) w) := by
  have HB0 : Hid (Below w.heap.size w (w.alloc (.cells #[.int .i64 n0, .int .i64 n1, .slice a2 l2 cp2, .int .i64 vr, .int .i64 m0, .int .i64 m1, .slice b2 k2 dp2, .int .i64 sy] 51))) := (Below.refl _ _).alloc (Nat.le_refl _) _
  have c1 : (⟨#[33]⟩ : ByteArray).size = 1 := rfl
  have c2 : (⟨#[63]⟩ : ByteArray).size = 1 := rfl
  by_cases hp : 0 < sy
  · have HE : Hid (synB sy = (⟨#[33]⟩ : ByteArray) ++ strOfNums [48 + sy]) := by show _ = _; unfold synB; rw [if_pos hp]
    have hFs := one_size (48 + sy)
    obtain ⟨F, hF⟩ : ∃ F, F = strOfNums [48 + sy] := ⟨_, rfl⟩
    rw [← hF] at hFs HE
    have HF := Lib.hid hF
    clear hF
    go_enter Tryd.func40, Tryd.ntmps40
    go_wp2_with fail
    refine (itoa_any sy _ (by omega) (by omega)).mono ?_
    rintro e' w1 ⟨rfl, hb1⟩
    rw [← HF.out]
    have HB1 := Lib.hid (HB0.out.trans (hb1.mono HB0.out.size))
    clear hb1
    go_wp2_with fail
    go_ret
    exact ⟨ret_str HE.out.symm, HB1.out⟩
  by_cases hn : sy < 0
  · have HE : Hid (synB sy = (⟨#[63]⟩ : ByteArray) ++ strOfNums [48 + -sy]) := by show _ = _; unfold synB; rw [if_neg hp, if_pos hn]
    have hFs := one_size (48 + -sy)
    obtain ⟨F, hF⟩ : ∃ F, F = strOfNums [48 + -sy] := ⟨_, rfl⟩
    rw [← hF] at hFs HE
    have HF := Lib.hid hF
    clear hF
    go_enter Tryd.func40, Tryd.ntmps40
    go_wp2_with fail
    refine (itoa_any (-sy) _ (by omega) (by omega)).mono ?_
    rintro e' w1 ⟨rfl, hb1⟩
    rw [← HF.out]
    have HB1 := Lib.hid (HB0.out.trans (hb1.mono HB0.out.size))
    clear hb1
    go_wp2_with fail
    go_ret
    exact ⟨ret_str HE.out.symm, HB1.out⟩
  · have HE : Hid (synB sy = ⟨#[45]⟩) := by show _ = _; unfold synB; rw [if_neg hp, if_neg hn]
    have : sy = 0 := by omega
    subst this
    go_enter Tryd.func40, Tryd.ntmps40
    go_wp2_with fail
    go_ret
    exact ⟨ret_str HE.out.symm, HB0.out⟩

set_option maxHeartbeats 1000000 in
set_option maxRecDepth 100000 in
theorem actT_any (g vl : Ex) (vr sy n0 n1 m0 m1 : Int) (a2 b2 : Option Addr) (l2 cp2 k2 dp2 : Nat) (w : World) (hg : Lies w w.heap.size g (.int .i64 n0) (.int .i64 n1) (.slice a2 l2 cp2)) (hv : Lies w w.heap.size vl (.int .i64 m0) (.int .i64 m1) (.slice b2 k2 dp2)) (hdg : desc g ≤ 1048576) (hd : desc vl ≤ 1048576) (hok : vr = -1 ∨ 0 ≤ vr ∧ vr ≤ 2) (h0 : -2 ≤ sy) (h2 : sy ≤ 2) :
    Calls Tryd.prog 30 #[.agg #[.int .i64 n0, .int .i64 n1, .slice a2 l2 cp2, .int .i64 vr, .int .i64 m0, .int .i64 m1, .slice b2 k2 dp2, .int .i64 sy]] w (FmPost (actB g vr vl sy) w) := by
  obtain ⟨W1, hW1⟩ : ∃ W1, W1 = w.alloc (.cells #[.int .i64 n0, .int .i64 n1, .slice a2 l2 cp2, .int .i64 vr, .int .i64 m0, .int .i64 m1, .slice b2 k2 dp2, .int .i64 sy] 51) := ⟨_, rfl⟩
  have hb0 : Below w.heap.size w W1 := by rw [hW1]; exact (Below.refl _ _).alloc (Nat.le_refl _) _
  have HR : Hid (Row W1 w.heap.size 51 #[.int .i64 n0, .int .i64 n1, .slice a2 l2 cp2, .int .i64 vr, .int .i64 m0, .int .i64 m1, .slice b2 k2 dp2, .int .i64 sy]) := by rw [hW1]; exact Row.new _ _ _
  have HV := Lib.hid (below_more hv hb0 hb0.size)
  have HG := Lib.hid (below_more hg hb0 hb0.size)
  have HB0 := Lib.hid hb0
  have HW1 := Lib.hid hW1
  have HE : Hid (actB g vr vl sy = fmtX g ++ (⟨#[32]⟩ : ByteArray) ++ asgB vr vl ++ (⟨#[32]⟩ : ByteArray) ++ synB sy) := rfl
  have hGs := fmtX_small g
  have hAs := asgB_small vr vl
  have hYs := synB_small sy
  have HC1 : Hid (∀ W, Below W1.heap.size W1 W → Calls Tryd.prog 38 #[.agg #[.int .i64 n0, .int .i64 n1, .slice a2 l2 cp2]] W (FmPost (fmtX g) W)) := fun W hW => implFx_any g _ _ _ W (below_more HG.out hW hW.size) hdg
  have HC2 : Hid (∀ W, Below W1.heap.size W1 W → Calls Tryd.prog 39 #[.agg #[.int .i64 n0, .int .i64 n1, .slice a2 l2 cp2, .int .i64 vr, .int .i64 m0, .int .i64 m1, .slice b2 k2 dp2, .int .i64 sy]] W (FmPost (asgB vr vl) W)) := fun W hW => asgT_any vl vr sy n0 n1 m0 m1 a2 b2 l2 cp2 k2 dp2 W (below_more HV.out hW hW.size) hd hok
  have HC3 : Hid (∀ W, Calls Tryd.prog 40 #[.agg #[.int .i64 n0, .int .i64 n1, .slice a2 l2 cp2, .int .i64 vr, .int .i64 m0, .int .i64 m1, .slice b2 k2 dp2, .int .i64 sy]] W (FmPost (synB sy) W)) := fun W => synT_any vr sy n0 n1 m0 m1 a2 b2 l2 cp2 k2 dp2 W h0 h2
  obtain ⟨G, hG⟩ : ∃ F, F = fmtX g := ⟨_, rfl⟩
  obtain ⟨A, hA⟩ : ∃ F, F = asgB vr vl := ⟨_, rfl⟩
  obtain ⟨Y, hY⟩ : ∃ F, F = synB sy := ⟨_, rfl⟩
  rw [← hG] at hGs HC1 HE
  rw [← hA] at hAs HC2 HE
  rw [← hY] at hYs HC3 HE
  have f1 : ¬ (9223372036854775807 < G.size + 1) := by omega
  have f2 : ¬ (9223372036854775807 < G.size + 1 + A.size) := by omega
  have f3 : ¬ (9223372036854775807 < G.size + 1 + A.size + 1) := by omega
  have f4 : ¬ (9223372036854775807 < G.size + 1 + A.size + 1 + Y.size) := by omega
  have c1 : (⟨#[32]⟩ : ByteArray).size = 1 := rfl
  have HSk : Hid (∀ W, Below W1.heap.size W1 W → W.cell? ⟨w.heap.size, 0, none⟩ = some (.int .i64 n0) ∧ W.cell? ⟨w.heap.size, 1, none⟩ = some (.int .i64 n1) ∧ W.cell? ⟨w.heap.size, 2, none⟩ = some (.slice a2 l2 cp2) ∧ W.cell? ⟨w.heap.size, 3, none⟩ = some (.int .i64 vr) ∧ W.cell? ⟨w.heap.size, 4, none⟩ = some (.int .i64 m0) ∧ W.cell? ⟨w.heap.size, 5, none⟩ = some (.int .i64 m1) ∧ W.cell? ⟨w.heap.size, 6, none⟩ = some (.slice b2 k2 dp2) ∧ W.cell? ⟨w.heap.size, 7, none⟩ = some (.int .i64 sy)) := fun W hW => (HR.out.under hW HR.out.lt).eight
  have hS1 := HSk.out W1.drew (Below.refl _ _).drew
  clear hv hg hb0 hW1 hG hA hY HV HG hok h0 h2
  go_enter Tryd.func30, Tryd.ntmps30
  go_upto_region 1 with fail
  rw [← HW1.out]
  go_region_held3 (fun w' => w'.cell? ⟨w.heap.size, 0, none⟩ = some (.int .i64 n0) ∧ w'.cell? ⟨w.heap.size, 1, none⟩ = some (.int .i64 n1) ∧ w'.cell? ⟨w.heap.size, 2, none⟩ = some (.slice a2 l2 cp2) ∧ w'.cell? ⟨w.heap.size, 3, none⟩ = some (.int .i64 vr) ∧ w'.cell? ⟨w.heap.size, 4, none⟩ = some (.int .i64 m0) ∧ w'.cell? ⟨w.heap.size, 5, none⟩ = some (.int .i64 m1) ∧ w'.cell? ⟨w.heap.size, 6, none⟩ = some (.slice b2 k2 dp2) ∧ w'.cell? ⟨w.heap.size, 7, none⟩ = some (.int .i64 sy)) (first | assumption | (go_keep; done)) (first
    | (go_at_call 38
       with_reducible refine (HC1.out _ (Below.refl _ _).drew).mono ?_
       rintro e' w2 ⟨rfl, hb2⟩
       have HB2 : Hid (Below W1.heap.size W1 w2) := (Below.refl _ _).drew.trans hb2
       have hS2 := HSk.out w2 HB2.out
       clear hb2)
    | (go_at_call 39
       with_reducible refine (HC2.out _ HB2.out).mono ?_
       rintro e' w3 ⟨rfl, hb3⟩
       have HB3 : Hid (Below W1.heap.size W1 w3) := HB2.out.trans (hb3.mono HB2.out.size)
       have hS3 := HSk.out w3 HB3.out
       clear hb3)
    | (go_at_call 40
       with_reducible refine (HC3.out _).mono ?_
       rintro e' w4 ⟨rfl, hb4⟩
       have HB4 : Hid (Below W1.heap.size W1 w4) := HB3.out.trans (hb4.mono HB3.out.size)
       have hS4 := HSk.out w4 HB4.out
       clear hb4))
  all_goals
    (go_wp2_with fail
     go_ret
     exact ⟨ret_str HE.out.symm, HB0.out.trans (HB4.out.mono HB0.out.size)⟩)

set_option maxHeartbeats 1000000 in
set_option maxRecDepth 100000 in
theorem lineT_any (g vl : Ex) (fr t0 vr sy n0 n1 m0 m1 : Int) (a2 b2 : Option Addr) (l2 cp2 k2 dp2 : Nat) (w : World) (hg : Lies w w.heap.size g (.int .i64 n0) (.int .i64 n1) (.slice a2 l2 cp2)) (hv : Lies w w.heap.size vl (.int .i64 m0) (.int .i64 m1) (.slice b2 k2 dp2)) (hdg : desc g ≤ 1048576) (hd : desc vl ≤ 1048576) (hok : vr = -1 ∨ 0 ≤ vr ∧ vr ≤ 2) (h0 : -2 ≤ sy) (h2 : sy ≤ 2) (hf0 : 0 ≤ fr) (hf3 : fr ≤ 3) (ht0 : 0 ≤ t0) (ht3 : t0 ≤ 3) :
    Calls Tryd.prog 19 #[.agg #[.int .i64 fr, .int .i64 t0, .int .i64 n0, .int .i64 n1, .slice a2 l2 cp2, .int .i64 vr, .int .i64 m0, .int .i64 m1, .slice b2 k2 dp2, .int .i64 sy]] w (FmPost (lineB ⟨fr, t0, g, vr, vl, sy⟩) w) := by
  obtain ⟨W1, hW1⟩ : ∃ W1, W1 = w.alloc (.cells #[.int .i64 fr, .int .i64 t0, .int .i64 n0, .int .i64 n1, .slice a2 l2 cp2, .int .i64 vr, .int .i64 m0, .int .i64 m1, .slice b2 k2 dp2, .int .i64 sy] 53) := ⟨_, rfl⟩
  have hb0 : Below w.heap.size w W1 := by rw [hW1]; exact (Below.refl _ _).alloc (Nat.le_refl _) _
  have HR : Hid (Row W1 w.heap.size 53 #[.int .i64 fr, .int .i64 t0, .int .i64 n0, .int .i64 n1, .slice a2 l2 cp2, .int .i64 vr, .int .i64 m0, .int .i64 m1, .slice b2 k2 dp2, .int .i64 sy]) := by rw [hW1]; exact Row.new _ _ _
  have HV := Lib.hid (below_more hv hb0 hb0.size)
  have HG := Lib.hid (below_more hg hb0 hb0.size)
  have HB0 := Lib.hid hb0
  have HW1 := Lib.hid hW1
  have HE : Hid (lineB ⟨fr, t0, g, vr, vl, sy⟩ = (⟨#[101, 100, 103, 101, 32]⟩ : ByteArray) ++ strOfNums [48 + fr] ++ (⟨#[32]⟩ : ByteArray) ++ strOfNums [48 + t0] ++ (⟨#[32]⟩ : ByteArray) ++ actB g vr vl sy) := rfl
  have hFs := one_size (48 + fr)
  have hTs := one_size (48 + t0)
  have hXs := actB_small g vr vl sy
  have HC1 : Hid (∀ W, Calls Tryd.prog 29 #[.int .i64 fr] W (FmPost (strOfNums [48 + fr]) W)) := fun W => itoa_any fr W hf0 (by omega)
  have HC2 : Hid (∀ W, Calls Tryd.prog 29 #[.int .i64 t0] W (FmPost (strOfNums [48 + t0]) W)) := fun W => itoa_any t0 W ht0 (by omega)
  have HC3 : Hid (∀ W, Below W1.heap.size W1 W → Calls Tryd.prog 30 #[.agg #[.int .i64 n0, .int .i64 n1, .slice a2 l2 cp2, .int .i64 vr, .int .i64 m0, .int .i64 m1, .slice b2 k2 dp2, .int .i64 sy]] W (FmPost (actB g vr vl sy) W)) := fun W hW => actT_any g vl vr sy n0 n1 m0 m1 a2 b2 l2 cp2 k2 dp2 W (below_more HG.out hW hW.size) (below_more HV.out hW hW.size) hdg hd hok h0 h2
  obtain ⟨F, hF⟩ : ∃ F, F = strOfNums [48 + fr] := ⟨_, rfl⟩
  obtain ⟨T, hT⟩ : ∃ F, F = strOfNums [48 + t0] := ⟨_, rfl⟩
  obtain ⟨X, hX⟩ : ∃ F, F = actB g vr vl sy := ⟨_, rfl⟩
  rw [← hF] at hFs HC1 HE
  rw [← hT] at hTs HC2 HE
  rw [← hX] at hXs HC3 HE
  have f1 : ¬ (9223372036854775807 < 9 + X.size) := by omega
  have c1 : (⟨#[32]⟩ : ByteArray).size = 1 := rfl
  have c2 : (⟨#[101, 100, 103, 101, 32]⟩ : ByteArray).size = 5 := rfl
  have HSk : Hid (∀ W, Below W1.heap.size W1 W → W.cell? ⟨w.heap.size, 0, none⟩ = some (.int .i64 fr) ∧ W.cell? ⟨w.heap.size, 1, none⟩ = some (.int .i64 t0) ∧ W.cell? ⟨w.heap.size, 2, none⟩ = some (.int .i64 n0) ∧ W.cell? ⟨w.heap.size, 3, none⟩ = some (.int .i64 n1) ∧ W.cell? ⟨w.heap.size, 4, none⟩ = some (.slice a2 l2 cp2) ∧ W.cell? ⟨w.heap.size, 5, none⟩ = some (.int .i64 vr) ∧ W.cell? ⟨w.heap.size, 6, none⟩ = some (.int .i64 m0) ∧ W.cell? ⟨w.heap.size, 7, none⟩ = some (.int .i64 m1) ∧ W.cell? ⟨w.heap.size, 8, none⟩ = some (.slice b2 k2 dp2) ∧ W.cell? ⟨w.heap.size, 9, none⟩ = some (.int .i64 sy)) := fun W hW => (HR.out.under hW HR.out.lt).ten
  have hS1 := HSk.out W1.drew (Below.refl _ _).drew
  clear hv hg hb0 hW1 hF hT hX HV HG hok h0 h2 hf0 hf3 ht0 ht3
  go_enter Tryd.func19, Tryd.ntmps19
  go_upto_region 1 with fail
  rw [← HW1.out]
  go_region_held3 (fun w' => w'.cell? ⟨w.heap.size, 0, none⟩ = some (.int .i64 fr) ∧ w'.cell? ⟨w.heap.size, 1, none⟩ = some (.int .i64 t0) ∧ w'.cell? ⟨w.heap.size, 2, none⟩ = some (.int .i64 n0) ∧ w'.cell? ⟨w.heap.size, 3, none⟩ = some (.int .i64 n1) ∧ w'.cell? ⟨w.heap.size, 4, none⟩ = some (.slice a2 l2 cp2) ∧ w'.cell? ⟨w.heap.size, 5, none⟩ = some (.int .i64 vr) ∧ w'.cell? ⟨w.heap.size, 6, none⟩ = some (.int .i64 m0) ∧ w'.cell? ⟨w.heap.size, 7, none⟩ = some (.int .i64 m1) ∧ w'.cell? ⟨w.heap.size, 8, none⟩ = some (.slice b2 k2 dp2) ∧ w'.cell? ⟨w.heap.size, 9, none⟩ = some (.int .i64 sy)) (first | assumption | (go_keep; done)) (first
    | (go_at_call 29
       with_reducible refine (HC1.out W1.drew).mono ?_
       rintro e' w2 ⟨rfl, hb2⟩
       have HB2 : Hid (Below W1.heap.size W1 w2) := (Below.refl _ _).drew.trans hb2
       have hS2 := HSk.out w2 HB2.out
       clear hb2)
    | (go_at_call 29
       with_reducible refine (HC2.out _).mono ?_
       rintro e' w3 ⟨rfl, hb3⟩
       have HB3 : Hid (Below W1.heap.size W1 w3) := HB2.out.trans (hb3.mono HB2.out.size)
       have hS3 := HSk.out w3 HB3.out
       clear hb3)
    | (go_at_call 30
       with_reducible refine (HC3.out _ HB3.out).mono ?_
       rintro e' w4 ⟨rfl, hb4⟩
       have HB4 : Hid (Below W1.heap.size W1 w4) := HB3.out.trans (hb4.mono HB3.out.size)
       have hS4 := HSk.out w4 HB4.out
       clear hb4))
  all_goals
    (go_wp2_with fail
     go_ret
     exact ⟨ret_str HE.out.symm, HB0.out.trans (HB4.out.mono HB0.out.size)⟩)

end Go.Proofs.YtcipnecdeipeaaaDoor

/- The walks of spec.FormatExpr and impl.FormatExpr; the copies of expressions by their layout. -/
import Derived.Test.YtkcgjgdcmdjcfaaDoorFtS
import Derived.Test.YtkcgjgdcmdjcfaaDoorTS
import Derived.Test.YtkcgjgdcmdjcfaaDoorSv
import Derived.Test.YtkcgjgdcmdjcfaaDoorLay
namespace Go.Proofs.YtkcgjgdcmdjcfaaDoor
open Go.RowKit

/-- The text that FormatExpr answers. -/
def fmtX (e : Ex) : ByteArray := if valid e then fmtE 6 e else ⟨#[]⟩

theorem Row.three {w : World} {g : Nat} {t : TypeId} {a0 a1 a2 : Value} (h : Row w g t #[a0, a1, a2]) : w.cell? ⟨g, 0, none⟩ = some a0 ∧ w.cell? ⟨g, 1, none⟩ = some a1 ∧ w.cell? ⟨g, 2, none⟩ = some a2 := ⟨h.cell 0, h.cell 1, h.cell 2⟩

set_option maxHeartbeats 400000 in
set_option maxRecDepth 100000 in
theorem specFx_any (e : Ex) (c0 c1 c2 : Value) (w : World) (hL : Lies w w.heap.size e c0 c1 c2) (hd : desc e ≤ 1048576) :
    Calls Tryd.prog 5 #[.agg #[c0, c1, c2]] w (FmPost (fmtX e) w) := by
  obtain ⟨n0, n1, a2, l2, cp2, rfl, rfl, rfl⟩ := hL.form
  obtain ⟨W1, hW1⟩ : ∃ W1, W1 = w.alloc (.cells #[.int .i64 n0, .int .i64 n1, .slice a2 l2 cp2] 29) := ⟨_, rfl⟩
  have hb0 : Below w.heap.size w W1 := by rw [hW1]; exact (Below.refl _ _).alloc (Nat.le_refl _) _
  have HR : Hid (Row W1 w.heap.size 29 #[.int .i64 n0, .int .i64 n1, .slice a2 l2 cp2]) := by rw [hW1]; exact Row.new _ _ _
  have HW1 := Lib.hid hW1
  have HL := Lib.hid (below_more hL hb0 hb0.size)
  have HB0 := Lib.hid hb0
  clear hL hW1 hb0
  obtain ⟨vb, hvb⟩ : ∃ vb, vb = valid e := ⟨_, rfl⟩
  have HV := Lib.hid hvb
  clear hvb
  go_enter Tryd.func5, Tryd.ntmps5
  go_wp2_with fail
  rw [← HW1.out]
  refine (specValid_any e _ _ _ _ HL.out hd).mono ?_
  rintro e' w1 ⟨rfl, hb1⟩
  rw [← HV.out]
  have HL1 := Lib.hid (below_more HL.out hb1 hb1.size)
  have HB1 := Lib.hid (HB0.out.trans (hb1.mono HB0.out.size))
  obtain ⟨g0, g1, g2⟩ := (HR.out.under hb1 HR.out.lt).three
  clear hb1
  cases vb
  · have HN : Hid (fmtX e = ⟨#[]⟩) := by show _ = _; unfold fmtX; rw [← HV.out]; rfl
    go_wp2_with fail
    go_ret
    exact ⟨ret_str HN.out.symm, HB1.out⟩
  · have HN : Hid (fmtX e = fmtE 6 e) := by show _ = _; unfold fmtX; rw [← HV.out]; rfl
    go_wp2_with fail
    refine (fmt_any 6 (by omega) e _ _ _ _ (shape_of_valid HV.out) HL1.out).mono ?_
    rintro e' w2 ⟨rfl, hb2⟩
    rw [← HN.out]
    have HB2 := Lib.hid (HB1.out.trans (hb2.mono HB1.out.size))
    obtain ⟨F, hF⟩ : ∃ F, F = fmtX e := ⟨_, rfl⟩
    rw [← hF]
    have HF := Lib.hid hF
    clear hb2 hF
    go_wp2_with fail
    go_ret
    exact ⟨ret_str HF.out, HB2.out⟩

set_option maxHeartbeats 400000 in
set_option maxRecDepth 100000 in
theorem implFx_any (e : Ex) (c0 c1 c2 : Value) (w : World) (hL : Lies w w.heap.size e c0 c1 c2) (hd : desc e ≤ 1048576) :
    Calls Tryd.prog 7 #[.agg #[c0, c1, c2]] w (FmPost (fmtX e) w) := by
  obtain ⟨n0, n1, a2, l2, cp2, rfl, rfl, rfl⟩ := hL.form
  obtain ⟨W1, hW1⟩ : ∃ W1, W1 = w.alloc (.cells #[.int .i64 n0, .int .i64 n1, .slice a2 l2 cp2] 29) := ⟨_, rfl⟩
  have hb0 : Below w.heap.size w W1 := by rw [hW1]; exact (Below.refl _ _).alloc (Nat.le_refl _) _
  have HR : Hid (Row W1 w.heap.size 29 #[.int .i64 n0, .int .i64 n1, .slice a2 l2 cp2]) := by rw [hW1]; exact Row.new _ _ _
  have HW1 := Lib.hid hW1
  have HL := Lib.hid (below_more hL hb0 hb0.size)
  have HB0 := Lib.hid hb0
  clear hL hW1 hb0
  obtain ⟨vb, hvb⟩ : ∃ vb, vb = valid e := ⟨_, rfl⟩
  have HV := Lib.hid hvb
  clear hvb
  go_enter Tryd.func7, Tryd.ntmps7
  go_wp2_with fail
  rw [← HW1.out]
  refine (implValid_any e _ _ _ _ HL.out hd).mono ?_
  rintro e' w1 ⟨rfl, hb1⟩
  rw [← HV.out]
  have HL1 := Lib.hid (below_more HL.out hb1 hb1.size)
  have HB1 := Lib.hid (HB0.out.trans (hb1.mono HB0.out.size))
  obtain ⟨g0, g1, g2⟩ := (HR.out.under hb1 HR.out.lt).three
  clear hb1
  cases vb
  · have HN : Hid (fmtX e = ⟨#[]⟩) := by show _ = _; unfold fmtX; rw [← HV.out]; rfl
    go_wp2_with fail
    go_ret
    exact ⟨ret_str HN.out.symm, HB1.out⟩
  · have HN : Hid (fmtX e = fmtE 6 e) := by show _ = _; unfold fmtX; rw [← HV.out]; rfl
    go_wp2_with fail
    refine (foldF_any 6 (by omega) e _ _ _ _ (shape_of_valid HV.out) HL1.out).mono ?_
    rintro e' w2 ⟨rfl, hb2⟩
    rw [← HN.out]
    have HB2 := Lib.hid (HB1.out.trans (hb2.mono HB1.out.size))
    obtain ⟨F, hF⟩ : ∃ F, F = fmtX e := ⟨_, rfl⟩
    rw [← hF]
    have HF := Lib.hid hF
    clear hb2 hF
    go_wp2_with fail
    go_ret
    exact ⟨ret_str HF.out, HB2.out⟩

theorem szEx_any (e : Ex) (C : Nat → Value) (left : Int) (w : World) (hL : Lay.ex.lies w w.heap.size e C) (h0 : 0 ≤ left) (h1 : left ≤ 1048576) :
    Calls Tryd.prog 4 #[.agg #[C 0, C 1, C 2], .int .i64 left] w fun e' w' => e' = .returned (.int .i64 (room left (Lay.ex.sz e))) ∧ Below w.heap.size w w' := sz_any e left _ _ _ w hL h0 h1
theorem eqEx_any (e : Ex) (C D : Nat → Value) (w : World) (hL : Lay.ex.lies w w.heap.size e C) (hL' : Lay.ex.lies w w.heap.size e D) :
    Calls Tryd.prog 8 #[.agg #[C 0, C 1, C 2], .agg #[D 0, D 1, D 2]] w fun e' w' => e' = .returned (.bool true) ∧ Below w.heap.size w w' := eq_any e _ _ _ _ _ _ w hL hL'
def ToExPost (e : Ex) (w : World) (e' : Ending) (w' : World) : Prop :=
  ∃ (x0 x1 : Int) (xa : Option Addr) (xl xc : Nat), e' = .returned (.agg #[.int .i64 x0, .int .i64 x1, .slice xa xl xc]) ∧ Lay.ex.sep w' w.heap.size w'.heap.size e (fun j => (#[.int .i64 x0, .int .i64 x1, .slice xa xl xc] : Array Value).getD j undef) ∧ Below w.heap.size w w'
theorem toEx_any (e : Ex) (C : Nat → Value) (w : World) (hL : Lay.ex.lies w w.heap.size e C) (hd : Lay.ex.sz e ≤ 1048576) :
    Calls Tryd.prog 6 #[.agg #[C 0, C 1, C 2]] w (ToExPost e w) := by
  refine (ts_any e _ _ _ w hL hd).mono ?_
  rintro e' w' ⟨d0, d1, d2, rfl, hs, hb⟩
  obtain ⟨n0, n1, a, l, c, rfl, rfl, rfl⟩ := hs.form
  exact ⟨n0, n1, a, l, c, rfl, hs, hb⟩
theorem specFe_any (e : Ex) (C : Nat → Value) (w : World) (hL : Lay.ex.lies w w.heap.size e C) (hd : Lay.ex.sz e ≤ 1048576) :
    Calls Tryd.prog 5 #[.agg #[C 0, C 1, C 2]] w (FmPost (fmtX e) w) := specFx_any e _ _ _ w hL hd
theorem implFe_any (e : Ex) (C : Nat → Value) (w : World) (hL : Lay.ex.lies w w.heap.size e C) (hd : Lay.ex.sz e ≤ 1048576) :
    Calls Tryd.prog 7 #[.agg #[C 0, C 1, C 2]] w (FmPost (fmtX e) w) := implFx_any e _ _ _ w hL hd

end Go.Proofs.YtkcgjgdcmdjcfaaDoor

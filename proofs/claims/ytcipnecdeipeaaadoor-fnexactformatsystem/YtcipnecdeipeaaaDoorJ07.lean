/- Joined texts: Sv, FtY, Lit. Nothing is assumed. -/
import Derived.Test.YtcipnecdeipeaaaDoorPlain
import Derived.Test.YtcipnecdeipeaaaDoorFtSQ
import Derived.Test.YtcipnecdeipeaaaDoorJ01
import Derived.Test.YtcipnecdeipeaaaDoorJ03
namespace Go.Proofs.YtcipnecdeipeaaaDoor

theorem shape_of_valid {e : Ex} (h : true = valid e) : shape 6 e = true := by
  unfold valid at h
  cases hs : shape 6 e
  · rw [hs] at h; exact h.symm
  · rfl

end Go.Proofs.YtcipnecdeipeaaaDoor
namespace Go.Proofs.YtcipnecdeipeaaaDoor
open Go.RowKit

/-- The text that FormatExpr answers. -/
def fmtX (e : Ex) : ByteArray := if valid e then fmtE 6 e else ⟨#[]⟩

theorem Row.three {w : World} {g : Nat} {t : TypeId} {a0 a1 a2 : Value} (h : Row w g t #[a0, a1, a2]) : w.cell? ⟨g, 0, none⟩ = some a0 ∧ w.cell? ⟨g, 1, none⟩ = some a1 ∧ w.cell? ⟨g, 2, none⟩ = some a2 := ⟨h.cell 0, h.cell 1, h.cell 2⟩


set_option maxHeartbeats 400000 in
set_option maxRecDepth 100000 in
theorem implFx_any (e : Ex) (c0 c1 c2 : Value) (w : World) (hL : Lies w w.heap.size e c0 c1 c2) (hd : desc e ≤ 1048576) :
    Calls Tryd.prog 38 #[.agg #[c0, c1, c2]] w (FmPost (fmtX e) w) := by
  obtain ⟨n0, n1, a2, l2, cp2, rfl, rfl, rfl⟩ := hL.form
  obtain ⟨W1, hW1⟩ : ∃ W1, W1 = w.alloc (.cells #[.int .i64 n0, .int .i64 n1, .slice a2 l2 cp2] 44) := ⟨_, rfl⟩
  have hb0 : Below w.heap.size w W1 := by rw [hW1]; exact (Below.refl _ _).alloc (Nat.le_refl _) _
  have HR : Hid (Row W1 w.heap.size 44 #[.int .i64 n0, .int .i64 n1, .slice a2 l2 cp2]) := by rw [hW1]; exact Row.new _ _ _
  have HW1 := Lib.hid hW1
  have HL := Lib.hid (below_more hL hb0 hb0.size)
  have HB0 := Lib.hid hb0
  clear hL hW1 hb0
  obtain ⟨vb, hvb⟩ : ∃ vb, vb = valid e := ⟨_, rfl⟩
  have HV := Lib.hid hvb
  clear hvb
  go_enter Tryd.func38, Tryd.ntmps38
  go_wp2_with fail
  rw [← HW1.out]
  refine (implValid_any e _ _ _ _ HL.out hd).mono ?_
  rintro e' w1 ⟨rfl, hb1⟩
  rw [← HV.out]
  have HL1 := Lib.hid (below_more HL.out hb1 hb1.size)
  have HB1 := Lib.hid (HB0.out.trans (hb1.mono HB0.out.size))
  obtain ⟨g0, g1, g2⟩ := (HR.out.under hb1 HR.out.lt).three
  clear hb1
  cases vb
  · have HN : Hid (fmtX e = ⟨#[]⟩) := by show _ = _; unfold fmtX; rw [← HV.out]; rfl
    go_wp2_with fail
    go_ret
    exact ⟨ret_str HN.out.symm, HB1.out⟩
  · have HN : Hid (fmtX e = fmtE 6 e) := by show _ = _; unfold fmtX; rw [← HV.out]; rfl
    go_wp2_with fail
    refine (foldF_any 6 (by omega) e _ _ _ _ (shape_of_valid HV.out) HL1.out).mono ?_
    rintro e' w2 ⟨rfl, hb2⟩
    rw [← HN.out]
    have HB2 := Lib.hid (HB1.out.trans (hb2.mono HB1.out.size))
    obtain ⟨F, hF⟩ : ∃ F, F = fmtX e := ⟨_, rfl⟩
    rw [← hF]
    have HF := Lib.hid hF
    clear hb2 hF
    go_wp2_with fail
    go_ret
    exact ⟨ret_str HF.out, HB2.out⟩

end Go.Proofs.YtcipnecdeipeaaaDoor
namespace Go.Proofs.YtcipnecdeipeaaaDoor
open Go.RowKit

theorem ed_lit {w : World} {B : Nat} {e : Ed} {C : Nat → Value} (h : Lay.ed.lies w B e C) : ∃ (x0 x1 : Int) (xa : Option Addr) (xl xc : Nat) (y0 y1 : Int) (ya : Option Addr) (yl yc : Nat),
    (C 0 = .int .i64 e.fr ∧ C 1 = .int .i64 e.to ∧ C 2 = .int .i64 x0 ∧ C 3 = .int .i64 x1 ∧ C 4 = .slice xa xl xc ∧ C 5 = .int .i64 e.vr ∧ C 6 = .int .i64 y0 ∧ C 7 = .int .i64 y1 ∧ C 8 = .slice ya yl yc ∧ C 9 = .int .i64 e.sy) ∧ Lay.ed.lies w B e (fun j => (#[.int .i64 e.fr, .int .i64 e.to, .int .i64 x0, .int .i64 x1, .slice xa xl xc, .int .i64 e.vr, .int .i64 y0, .int .i64 y1, .slice ya yl yc, .int .i64 e.sy] : Array Value).getD j undef) := by
  obtain ⟨fr, tq, g, vr, vl, sy⟩ := e
  obtain ⟨e0, e1, hg, e5, hv, e9⟩ := ed_lies h
  obtain ⟨n0, n1, a2, l2, cp2, q2, q3, q4⟩ := hg.form
  obtain ⟨m0, m1, b2, k2, dp2, q6, q7, q8⟩ := hv.form
  rw [q2, q3, q4] at hg
  rw [q6, q7, q8] at hv
  exact ⟨n0, n1, a2, l2, cp2, m0, m1, b2, k2, dp2, ⟨e0, e1, q2, q3, q4, e5, q6, q7, q8, e9⟩, rfl, rfl, hg, rfl, hv, rfl⟩
theorem pr_lit {w : World} {B : Nat} {p : Pr} {C : Nat → Value} (h : Lay.pr.lies w B p C) : ∃ (xa : Option Addr) (xl xc : Nat), (C 0 = .int .i64 p.loc ∧ C 1 = .slice xa xl xc) ∧ Lay.pr.lies w B p (fun j => (#[.int .i64 p.loc, .slice xa xl xc] : Array Value).getD j undef) := by
  obtain ⟨loc, es⟩ := p
  obtain ⟨e0, A, cap, b, off, D, e1, hl, hO⟩ := pr_lies h
  exact ⟨A, es.length, cap, ⟨e0, e1⟩, rfl, A, cap, b, off, D, rfl, hl, hO⟩

end Go.Proofs.YtcipnecdeipeaaaDoor

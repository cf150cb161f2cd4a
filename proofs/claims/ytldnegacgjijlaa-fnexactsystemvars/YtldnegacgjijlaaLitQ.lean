/- Edges and processes, their cells written out. -/
import Derived.Test.YtldnegacgjijlaaJ01
namespace Go.Proofs.Ytldnegacgjijlaa
open Go.RowKit

theorem ed_lit {w : World} {B : Nat} {e : Ed} {C : Nat → Value} (h : Lay.ed.lies w B e C) : ∃ (x0 x1 : Int) (xa : Option Addr) (xl xc : Nat) (y0 y1 : Int) (ya : Option Addr) (yl yc : Nat),
    (C 0 = .int .i64 e.fr ∧ C 1 = .int .i64 e.to ∧ C 2 = .int .i64 x0 ∧ C 3 = .int .i64 x1 ∧ C 4 = .slice xa xl xc ∧ C 5 = .int .i64 e.vr ∧ C 6 = .int .i64 y0 ∧ C 7 = .int .i64 y1 ∧ C 8 = .slice ya yl yc ∧ C 9 = .int .i64 e.sy) ∧ Lay.ed.lies w B e (fun j => (#[.int .i64 e.fr, .int .i64 e.to, .int .i64 x0, .int .i64 x1, .slice xa xl xc, .int .i64 e.vr, .int .i64 y0, .int .i64 y1, .slice ya yl yc, .int .i64 e.sy] : Array Value).getD j undef) := by
  obtain ⟨fr, to, g, vr, vl, sy⟩ := e
  obtain ⟨e0, e1, hg, e5, hv, e9⟩ := ed_lies h
  obtain ⟨n0, n1, a2, l2, cp2, q2, q3, q4⟩ := hg.form
  obtain ⟨m0, m1, b2, k2, dp2, q6, q7, q8⟩ := hv.form
  rw [q2, q3, q4] at hg
  rw [q6, q7, q8] at hv
  exact ⟨n0, n1, a2, l2, cp2, m0, m1, b2, k2, dp2, ⟨e0, e1, q2, q3, q4, e5, q6, q7, q8, e9⟩, rfl, rfl, hg, rfl, hv, rfl⟩
theorem pr_lit {w : World} {B : Nat} {p : Pr} {C : Nat → Value} (h : Lay.pr.lies w B p C) : ∃ (xa : Option Addr) (xl xc : Nat), (C 0 = .int .i64 p.loc ∧ C 1 = .slice xa xl xc) ∧ Lay.pr.lies w B p (fun j => (#[.int .i64 p.loc, .slice xa xl xc] : Array Value).getD j undef) := by
  obtain ⟨loc, es⟩ := p
  obtain ⟨e0, A, cap, b, off, D, e1, hl, hO⟩ := pr_lies h
  exact ⟨A, es.length, cap, ⟨e0, e1⟩, rfl, A, cap, b, off, D, rfl, hl, hO⟩

end Go.Proofs.Ytldnegacgjijlaa

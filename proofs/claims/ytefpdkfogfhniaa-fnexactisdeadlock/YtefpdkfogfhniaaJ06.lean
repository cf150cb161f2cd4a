/- Joined texts: OpenA, OpenT, Lit. Nothing is assumed. -/
import Derived.Test.YtefpdkfogfhniaaOpenCQ
import Derived.Test.YtefpdkfogfhniaaStaQ
import Derived.Test.YtefpdkfogfhniaaJ05
namespace Go.Proofs.Ytefpdkfogfhniaa
open Go.ChangeShapes Go.WideShapes Go.ChangeAt Go.RowKit Go.Deep Go.Joins

section
variable {H : Type} {enc : TypeId × Value → H} {W : World} {sp : Nat → Bool}

theorem Try.cells40 : Try.prog.cellsOf 40 = 2 := by kernel_rfl

set_option maxRecDepth 100000 in
theorem opens_sta (hsp : ∀ b, sp b = true) : Opens enc W sp Lay.sta 40 := fun n cs x h => by
  obtain ⟨xs, n, _, rfl, hl, hlen, hf⟩ := DataW.trod_struct Try.underlying40 h
  rw [Try.cells40] at hl
  match xs, hlen, cs, hl with
  | [y0, y1], _, [c0, c1], _ =>
    have u0 := hf 0 _ rfl
    have u1 := hf 1 _ rfl
    simp [Try.cells22] at u0
    simp [Try.cells22] at u1
    obtain ⟨z0, p0⟩ := opens_slice (t' := 3) hsp Try.underlying22 Try.cells3 (by decide) opens_int _ _ _ u0
    obtain ⟨z1, p1⟩ := opens_slice (t' := 3) hsp Try.underlying22 Try.cells3 (by decide) opens_int _ _ _ u1
    exact ⟨⟨z0, z1⟩, p0, p1⟩

set_option maxRecDepth 100000 in
theorem open_state {base : Nat} {v : Value} {d : DataW H} {p : List MemPlace} (hval : Value.okWide Try.prog W .any base 40 v) (h : DataW.Trod enc Try.prog W 0 (fun _ => true) true 40 v d p) :
    ∃ (s : St) (C : Nat → Value), v = .agg #[C 0, C 1] ∧ Lay.sta.lies W W.heap.size s C := by
  obtain ⟨cs, rfl, hsz⟩ := okWide_struct Try.underlying40 hval
  obtain ⟨c0, c1, rfl⟩ := array2 (hsz.trans Try.cells40)
  obtain ⟨fuel, hf⟩ := h
  obtain ⟨s, hs⟩ := opens_sta (fun _ => rfl) _ _ _ hf
  exact ⟨s, fun j => [c0, c1].getD j undef, rfl, hs⟩

end
end Go.Proofs.Ytefpdkfogfhniaa
namespace Go.Proofs.Ytefpdkfogfhniaa
open Go.ChangeShapes Go.WideShapes Go.ChangeAt Go.RowKit Go.Deep Go.Joins

section
variable {H : Type} {enc : TypeId × Value → H} {W : World} {sp : Nat → Bool}

theorem Try.cells50 : Try.prog.cellsOf 50 = 4 := by kernel_rfl

theorem array4 {cs : Array Value} (h : cs.size = 4) : ∃ c0 c1 c2 c3, cs = #[c0, c1, c2, c3] := by
  obtain ⟨l⟩ := cs
  match l, h with
  | [c0, c1, c2, c3], _ => exact ⟨c0, c1, c2, c3, rfl⟩

set_option maxRecDepth 100000 in
theorem step_cells {n : Nat} {cs : List Value} {x : DataW H × List MemPlace} (h : DataW.trod enc Try.prog W 0 sp true n 50 cs = some x) : ∃ (a b c e : Int), cs = [.int .i64 a, .int .i64 b, .int .i64 c, .int .i64 e] := by
  obtain ⟨xs, n, _, rfl, hl, hlen, hf⟩ := DataW.trod_struct Try.underlying50 h
  rw [Try.cells50] at hl
  match xs, hlen, cs, hl with
  | [y0, y1, y2, y3], _, [c0, c1, c2, c3], _ =>
    have u0 := hf 0 _ rfl
    have u1 := hf 1 _ rfl
    have u2 := hf 2 _ rfl
    have u3 := hf 3 _ rfl
    simp [Try.cells3] at u0 u1 u2 u3
    obtain ⟨k0, e0, _, _⟩ := DataW.trod_int Try.underlying3 u0
    obtain ⟨k1, e1, _, _⟩ := DataW.trod_int Try.underlying3 u1
    obtain ⟨k2, e2, _, _⟩ := DataW.trod_int Try.underlying3 u2
    obtain ⟨k3, e3, _, _⟩ := DataW.trod_int Try.underlying3 u3
    simp only [List.cons.injEq, and_true] at e0 e1 e2 e3
    exact ⟨k0, k1, k2, k3, by rw [e0, e1, e2, e3]⟩

set_option maxRecDepth 100000 in
theorem open_step {base : Nat} {v : Value} {d : DataW H} {p : List MemPlace} (hval : Value.okWide Try.prog W .any base 50 v) (h : DataW.Trod enc Try.prog W 0 (fun _ => true) true 50 v d p) :
    ∃ (a b c e : Int), v = .agg #[.int .i64 a, .int .i64 b, .int .i64 c, .int .i64 e] := by
  obtain ⟨cs, rfl, hsz⟩ := okWide_struct Try.underlying50 hval
  obtain ⟨c0, c1, c2, c3, rfl⟩ := array4 (hsz.trans Try.cells50)
  obtain ⟨fuel, hf⟩ := h
  obtain ⟨a, b, c, e, hh⟩ := step_cells hf
  have hh' : [c0, c1, c2, c3] = [.int .i64 a, .int .i64 b, .int .i64 c, .int .i64 e] := hh
  simp only [List.cons.injEq, and_true] at hh'
  obtain ⟨rfl, rfl, rfl, rfl⟩ := hh'
  exact ⟨a, b, c, e, rfl⟩

end
end Go.Proofs.Ytefpdkfogfhniaa
namespace Go.Proofs.Ytefpdkfogfhniaa
open Go.RowKit

theorem ed_lit {w : World} {B : Nat} {e : Ed} {C : Nat → Value} (h : Lay.ed.lies w B e C) : ∃ (x0 x1 : Int) (xa : Option Addr) (xl xc : Nat) (y0 y1 : Int) (ya : Option Addr) (yl yc : Nat),
    (C 0 = .int .i64 e.fr ∧ C 1 = .int .i64 e.to ∧ C 2 = .int .i64 x0 ∧ C 3 = .int .i64 x1 ∧ C 4 = .slice xa xl xc ∧ C 5 = .int .i64 e.vr ∧ C 6 = .int .i64 y0 ∧ C 7 = .int .i64 y1 ∧ C 8 = .slice ya yl yc ∧ C 9 = .int .i64 e.sy) ∧ Lay.ed.lies w B e (fun j => (#[.int .i64 e.fr, .int .i64 e.to, .int .i64 x0, .int .i64 x1, .slice xa xl xc, .int .i64 e.vr, .int .i64 y0, .int .i64 y1, .slice ya yl yc, .int .i64 e.sy] : Array Value).getD j undef) := by
  obtain ⟨fr, to, g, vr, vl, sy⟩ := e
  obtain ⟨e0, e1, hg, e5, hv, e9⟩ := ed_lies h
  obtain ⟨n0, n1, a2, l2, cp2, q2, q3, q4⟩ := hg.form
  obtain ⟨m0, m1, b2, k2, dp2, q6, q7, q8⟩ := hv.form
  rw [q2, q3, q4] at hg
  rw [q6, q7, q8] at hv
  exact ⟨n0, n1, a2, l2, cp2, m0, m1, b2, k2, dp2, ⟨e0, e1, q2, q3, q4, e5, q6, q7, q8, e9⟩, rfl, rfl, hg, rfl, hv, rfl⟩
theorem pr_lit {w : World} {B : Nat} {p : Pr} {C : Nat → Value} (h : Lay.pr.lies w B p C) : ∃ (xa : Option Addr) (xl xc : Nat), (C 0 = .int .i64 p.loc ∧ C 1 = .slice xa xl xc) ∧ Lay.pr.lies w B p (fun j => (#[.int .i64 p.loc, .slice xa xl xc] : Array Value).getD j undef) := by
  obtain ⟨loc, es⟩ := p
  obtain ⟨e0, A, cap, b, off, D, e1, hl, hO⟩ := pr_lies h
  exact ⟨A, es.length, cap, ⟨e0, e1⟩, rfl, A, cap, b, off, D, rfl, hl, hO⟩

end Go.Proofs.Ytefpdkfogfhniaa

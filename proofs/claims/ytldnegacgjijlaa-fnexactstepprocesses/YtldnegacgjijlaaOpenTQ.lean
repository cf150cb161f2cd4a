/- Arguments of the types laws.State and laws.Step, opened. -/
import Derived.Test.YtldnegacgjijlaaOpenSQ
import Derived.Test.YtldnegacgjijlaaOpenA
namespace Go.Proofs.Ytldnegacgjijlaa
open Go.ChangeShapes Go.WideShapes Go.ChangeAt Go.RowKit Go.Deep Go.Joins

section
variable {H : Type} {enc : TypeId × Value → H} {W : World} {sp : Nat → Bool}

theorem Try.cells40 : Try.prog.cellsOf 40 = 4 := by kernel_rfl

theorem array4 {cs : Array Value} (h : cs.size = 4) : ∃ c0 c1 c2 c3, cs = #[c0, c1, c2, c3] := by
  obtain ⟨l⟩ := cs
  match l, h with
  | [c0, c1, c2, c3], _ => exact ⟨c0, c1, c2, c3, rfl⟩

set_option maxRecDepth 100000 in
theorem step_cells {n : Nat} {cs : List Value} {x : DataW H × List MemPlace} (h : DataW.trod enc Try.prog W 0 sp true n 40 cs = some x) : ∃ (a b c e : Int), cs = [.int .i64 a, .int .i64 b, .int .i64 c, .int .i64 e] := by
  obtain ⟨xs, n, _, rfl, hl, hlen, hf⟩ := DataW.trod_struct Try.underlying40 h
  rw [Try.cells40] at hl
  match xs, hlen, cs, hl with
  | [y0, y1, y2, y3], _, [c0, c1, c2, c3], _ =>
    have u0 := hf 0 _ rfl
    have u1 := hf 1 _ rfl
    have u2 := hf 2 _ rfl
    have u3 := hf 3 _ rfl
    simp [Try.cells3] at u0 u1 u2 u3
    obtain ⟨k0, e0, _, _⟩ := DataW.trod_int Try.underlying3 u0
    obtain ⟨k1, e1, _, _⟩ := DataW.trod_int Try.underlying3 u1
    obtain ⟨k2, e2, _, _⟩ := DataW.trod_int Try.underlying3 u2
    obtain ⟨k3, e3, _, _⟩ := DataW.trod_int Try.underlying3 u3
    simp only [List.cons.injEq, and_true] at e0 e1 e2 e3
    exact ⟨k0, k1, k2, k3, by rw [e0, e1, e2, e3]⟩

set_option maxRecDepth 100000 in
theorem open_step {base : Nat} {v : Value} {d : DataW H} {p : List MemPlace} (hval : Value.okWide Try.prog W .any base 40 v) (h : DataW.Trod enc Try.prog W 0 (fun _ => true) true 40 v d p) :
    ∃ (a b c e : Int), v = .agg #[.int .i64 a, .int .i64 b, .int .i64 c, .int .i64 e] := by
  obtain ⟨cs, rfl, hsz⟩ := okWide_struct Try.underlying40 hval
  obtain ⟨c0, c1, c2, c3, rfl⟩ := array4 (hsz.trans Try.cells40)
  obtain ⟨fuel, hf⟩ := h
  obtain ⟨a, b, c, e, hh⟩ := step_cells hf
  have hh' : [c0, c1, c2, c3] = [.int .i64 a, .int .i64 b, .int .i64 c, .int .i64 e] := hh
  simp only [List.cons.injEq, and_true] at hh'
  obtain ⟨rfl, rfl, rfl, rfl⟩ := hh'
  exact ⟨a, b, c, e, rfl⟩

end
end Go.Proofs.Ytldnegacgjijlaa

/- From what the row says of the table impl.formulaForms to what the walks ask of memory. -/
import Derived.Test.YtipicboilegieaaDoorRows
import Derived.Test.YtipicboilegieaaDoorFvR
import Derived.ProofKit
import Derived.Lib.LaidU8
import Derived.Lib.SmallJoins
namespace Go.Proofs.YtipicboilegieaaDoor
open Go.ChangeShapes Go.WideShapes Go.ChangeAt Go.WideMaps Go.WideElems Go.RowKit

theorem Tryd.gForms : Tryd.prog.globalNamed "loop.example/ltlcheck/impl.formulaForms" = some 0 := by kernel_rfl
theorem Tryd.gFormsType : (Tryd.prog.globals[0]?).map (·.type) = some 40 := by kernel_rfl
theorem Tryd.cellsForm : Tryd.prog.cellsOf 39 = 2 := by kernel_rfl
theorem Tryd.cellsOne : Tryd.prog.cellsOf 3 = 1 := by kernel_rfl
theorem Tryd.cellsStr : Tryd.prog.cellsOf 9 = 1 := by kernel_rfl

set_option maxRecDepth 100000 in
theorem form_of {w : World} {fuel : Nat} {cs : List Value} {k : Int} {s : List UInt8} {q : List MemPlace}
    (h : DataW.trod (fun _ => ()) Tryd.prog w 0 (fun _ => true) false fuel 39 cs = some (.agg [.lit (.int .i64 k), .lit (.string s)], q)) :
    cs = [.int .i64 k, .string ⟨s.toArray⟩] := by
  obtain ⟨y0, y1, n, hx, hlen, h0, h1⟩ := trod_struct2 Tryd.underlying39 h
  rw [Tryd.cellsForm] at hlen
  match cs, hlen with
  | [v0, v1], _ =>
    simp [Tryd.cellsOne] at h0
    simp [Tryd.cellsStr] at h1
    obtain ⟨k0, e0, f0, _⟩ := DataW.trod_int Tryd.underlying3 h0
    obtain ⟨s0, e1, f1, _⟩ := DataW.trod_string Tryd.underlying9 h1
    simp only [List.cons.injEq, and_true] at e0 e1
    rw [f0, f1] at hx
    simp only [Prod.mk.injEq, DataW.agg.injEq, List.cons.injEq, DataW.lit.injEq, Lit.int.injEq, Lit.string.injEq, true_and, and_true] at hx
    rw [e0, e1]
    simp [hx]

theorem laidMetH_of_filter {w : World} (h : laidMetH Tryd.prog [("loop.example/ltlcheck/impl.formulaForms", Rows.laid_loop_example_ltlcheck_impl_formulaForms)] w) : laidMet Tryd.prog [("loop.example/ltlcheck/impl.formulaForms", Rows.laid_loop_example_ltlcheck_impl_formulaForms)] w := h

set_option maxRecDepth 100000 in
theorem forms_of {w : World} (h : laidMetH Tryd.prog [("loop.example/ltlcheck/impl.formulaForms", Rows.laid_loop_example_ltlcheck_impl_formulaForms)] w) : Forms w := by
  have h := (laidMetH_of_filter h)
  obtain ⟨g, t, cs, fuel, p, hg, ht, hvar, hd⟩ := Lib.laidMet.reads h (.head _)
  obtain rfl : g = 0 := Option.some.inj (hg.symm.trans Tryd.gForms)
  obtain rfl : t = 40 := Option.some.inj (ht.symm.trans Tryd.gFormsType)
  have hcell := fun i => World.var?_cell hg hvar i
  have key : ∀ i : Nat, i < 11 → cs[i * 2]? = some (.int .i64 (fOps.getD i 0)) ∧ cs[i * 2 + 1]? = some (.string (fSigns.getD i ⟨#[]⟩)) := by
    intro i hi
    obtain ⟨f', d, q, hdi, htr⟩ := Lib.array_elem Tryd.underlying40 hd i hi
    rw [Tryd.cellsForm] at htr
    have fin : ∀ (k : Int) (s : List UInt8), d = .agg [.lit (.int .i64 k), .lit (.string s)] → cs[i * 2]? = some (.int .i64 k) ∧ cs[i * 2 + 1]? = some (.string ⟨s.toArray⟩) := by
      intro k s hds
      subst hds
      have := form_of htr
      have h0 := congrArg (·[0]?) this
      have h1 := congrArg (·[1]?) this
      simp [List.getElem?_drop] at h0 h1
      exact ⟨by simpa using h0, by simpa using h1⟩
    match i, hi with
    | 0, _ => exact fin 0 [] (Option.some.inj hdi).symm
    | 1, _ => exact fin 0 [84] (Option.some.inj hdi).symm
    | 2, _ => exact fin 0 [] (Option.some.inj hdi).symm
    | 3, _ => exact fin 1 [33] (Option.some.inj hdi).symm
    | 4, _ => exact fin 2 [38] (Option.some.inj hdi).symm
    | 5, _ => exact fin 2 [124] (Option.some.inj hdi).symm
    | 6, _ => exact fin 1 [88] (Option.some.inj hdi).symm
    | 7, _ => exact fin 2 [85] (Option.some.inj hdi).symm
    | 8, _ => exact fin 2 [82] (Option.some.inj hdi).symm
    | 9, _ => exact fin 1 [70] (Option.some.inj hdi).symm
    | 10, _ => exact fin 1 [71] (Option.some.inj hdi).symm
  refine ⟨?_, fun k hk => by rw [hcell]; exact (key k hk).1, fun k hk => by rw [hcell]; exact (key k hk).2⟩
  exact World.block_lt_of_cell? w ⟨0, 0, none⟩ (by rw [hcell]; exact (key 0 (by omega)).1)

end Go.Proofs.YtipicboilegieaaDoor

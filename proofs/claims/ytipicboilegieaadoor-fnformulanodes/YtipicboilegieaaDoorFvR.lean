/- The table impl.formulaForms in memory; the walk of impl.formulaWellFormed and of the method operands. -/
import Derived.Test.YtipicboilegieaaDoorPlainF
import Derived.Test.YtipicboilegieaaDoorBs
import Derived.Test.YtipicboilegieaaDoorOpF
namespace Go.Proofs.YtipicboilegieaaDoor
open Go.RowKit

/-- The number of operands of each kind, as the table has it. -/
def fOps : List Int := [0, 0, 0, 1, 2, 2, 1, 2, 2, 1, 1]
/-- The sign of each kind, as the table has it. -/
def fSigns : List ByteArray := [⟨#[]⟩, ⟨#[84]⟩, ⟨#[]⟩, ⟨#[33]⟩, ⟨#[38]⟩, ⟨#[124]⟩, ⟨#[88]⟩, ⟨#[85]⟩, ⟨#[82]⟩, ⟨#[70]⟩, ⟨#[71]⟩]

/-- The table lies in the first block. -/
structure Forms (w : World) : Prop where
  pos : 0 < w.heap.size
  ops : ∀ k : Nat, k < 11 → w.cell? ⟨0, k * 2, none⟩ = some (.int .i64 (fOps.getD k 0))
  sign : ∀ k : Nat, k < 11 → w.cell? ⟨0, k * 2 + 1, none⟩ = some (.string (fSigns.getD k ⟨#[]⟩))

theorem Forms.below {w w' : World} {B : Nat} (h : Forms w) (hb : Below B w w') (hB : 0 < B) : Forms w' :=
  ⟨Nat.lt_of_lt_of_le h.pos hb.size, fun k hk => (hb.cell (p := ⟨0, k * 2, none⟩) hB).trans (h.ops k hk), fun k hk => (hb.cell (p := ⟨0, k * 2 + 1, none⟩) hB).trans (h.sign k hk)⟩
theorem Forms.later {w w' : World} (h : Forms w) (hb : Below w.heap.size w w') : Forms w' := h.below hb h.pos

set_option maxHeartbeats 1000000 in
theorem fRoot_any (k v : Int) (A : Option Addr) (n cap : Nat) (w : World) (hF : Forms w) : Calls Tryd.prog 10 #[.agg #[.int .i64 k, .int .i64 v, .slice A n cap]] w fun e w' => e = .returned (.bool (fRoot k v n)) ∧ Below w.heap.size w w' := by
  by_cases hr : k < 1 ∨ 10 < k
  · have HR : Hid (fRoot k v n = false) := by
      show _ = _
      unfold fRoot fArity
      rw [if_neg (by omega), if_neg (by omega), if_neg (by omega)]
      simp
    clear hF
    rcases hr with hr | hr
    · go_enter Tryd.func10, Tryd.ntmps10
      go_wp2_with fail
      go_ret
      exact ⟨ret_bool HR.out.symm, (Below.refl _ _).alloc (Nat.le_refl _) _⟩
    · have hr1 : ¬ k < 1 := by omega
      go_enter Tryd.func10, Tryd.ntmps10
      go_wp2_with fail
      go_ret
      exact ⟨ret_bool HR.out.symm, (Below.refl _ _).alloc (Nat.le_refl _) _⟩
  have hpos := hF.pos
  have hne : ¬ (0 = w.heap.size) := by omega
  have t1 := hF.ops 1 (by decide)
  have t2 := hF.ops 2 (by decide)
  have t3 := hF.ops 3 (by decide)
  have t4 := hF.ops 4 (by decide)
  have t5 := hF.ops 5 (by decide)
  have t6 := hF.ops 6 (by decide)
  have t7 := hF.ops 7 (by decide)
  have t8 := hF.ops 8 (by decide)
  have t9 := hF.ops 9 (by decide)
  have t10 := hF.ops 10 (by decide)
  simp only [fOps, List.getD_eq_getElem?_getD, List.getElem?_cons_succ, List.getElem?_cons_zero, Option.getD_some, Nat.reduceMul] at t1 t2 t3 t4 t5 t6 t7 t8 t9 t10
  clear hF
  have hk : k = 1 ∨ k = 2 ∨ k = 3 ∨ k = 4 ∨ k = 5 ∨ k = 6 ∨ k = 7 ∨ k = 8 ∨ k = 9 ∨ k = 10 := by omega
  clear hr
  rcases hk with rfl | rfl | rfl | rfl | rfl | rfl | rfl | rfl | rfl | rfl
  all_goals
    (go_enter Tryd.func10, Tryd.ntmps10
     go_wp2_with fail
     go_quiet (fail)
     go_wp2_with fail
     all_goals go_ret
     all_goals (refine ⟨ret_bool ?_, below_drewN ((Below.refl _ _).alloc (Nat.le_refl _) _) _⟩)
     all_goals clear t1 t2 t3 t4 t5 t6 t7 t8 t9 t10
     all_goals (try simp only [bne_iff_ne, ne_eq, bne_eq_false_iff_eq] at *)
     all_goals (rw [Bool.eq_iff_iff]; simp [fRoot, fArity, fLimit]; try omega))

end Go.Proofs.YtipicboilegieaaDoor

/- The walk of the method label of formulas; when two labels are equal. -/
import Derived.Test.YtalfmkebmejafaaOpF
import Derived.Test.YtalfmkebmejafaaW7F
import Derived.Laws.StructEq
namespace Go.Proofs.Ytalfmkebmejafaa
open Go.RowKit

set_option maxHeartbeats 400000 in
set_option maxRecDepth 100000 in
theorem labelF_any (k v : Int) (A : Option Addr) (n cap : Nat) (w : World) : Calls Try.prog 28 #[.agg #[.int .i64 k, .int .i64 v, .slice A n cap]] w fun e w' => e = .returned (.agg #[.int .i64 k, .int .i64 v]) ∧ Below w.heap.size w w' := by
  go_enter Try.func28, Try.ntmps28
  go_wp2_with fail
  refine bodyPost_ret (v := .agg #[.int .i64 k, .int .i64 v]) (by simp [results, Try.results28, go_sem]) rfl ?_
  exact ⟨rfl, ((Below.refl _ _).alloc (Nat.le_refl _) _).alloc (by simp) _⟩

set_option maxRecDepth 100000 in
theorem label_method (x : Value) (W : World) : (method 162 29 x "loop.example/ltlcheck/impl.label").run Try.prog W = .ok (28, x) W := by kernel_rfl
set_option maxRecDepth 100000 in
theorem operands_method (x : Value) (W : World) : (method 162 29 x "loop.example/ltlcheck/impl.operands").run Try.prog W = .ok (29, x) W := by kernel_rfl
set_option maxRecDepth 100000 in
theorem label_enter (args : Array Value) (W : World) : (callFunc 28 args).run Try.prog W = .ok (.enter 28 args) W := by kernel_rfl
set_option maxRecDepth 100000 in
theorem operands_enter (args : Array Value) (W : World) : (callFunc 29 args).run Try.prog W = .ok (.enter 29 args) W := by kernel_rfl

set_option maxRecDepth 100000 in
theorem label_eq (a b c d : Int) (w : World) : (Op.equalIn 10000 42 (.agg #[.int .i64 a, .int .i64 b]) (.agg #[.int .i64 c, .int .i64 d])).run Try.prog w = .ok (a == c && b == d) w := by
  have u3 := Try.underlying3
  have u42 := Try.underlying42
  have a3 := Try.isAgg3
  have z3 := Try.sizeOf3
  rw [show (10000 : Nat) = 9999 + 1 from rfl, Op.equalIn]
  simp only [Sem.run_bind, run_underlying u42, Result.andThen_ok]
  simp only [Std.Legacy.Range.forIn_eq_forIn_range', Std.Legacy.Range.size, Nat.sub_zero, Nat.add_sub_cancel, Nat.div_one, List.range'_succ, List.range'_zero, List.forIn_cons, List.forIn_nil]
  go_simp
  by_cases h1 : a = c <;> by_cases h2 : b = d <;> simp [h1, h2]

end Go.Proofs.Ytalfmkebmejafaa

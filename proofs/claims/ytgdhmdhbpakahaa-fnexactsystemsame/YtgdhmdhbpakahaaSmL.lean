/- The walk of the method label of formulas; when two labels are equal. -/
import Derived.Test.YtgdhmdhbpakahaaOpF
import Derived.Test.YtgdhmdhbpakahaaW7F
import Derived.Laws.StructEq
namespace Go.Proofs.Ytgdhmdhbpakahaa
open Go.RowKit

set_option maxHeartbeats 400000 in
set_option maxRecDepth 100000 in
theorem labelF_any (k v : Int) (A : Option Addr) (n cap : Nat) (w : World) : Calls Try.prog 55 #[.agg #[.int .i64 k, .int .i64 v, .slice A n cap]] w fun e w' => e = .returned (.agg #[.int .i64 k, .int .i64 v]) ∧ Below w.heap.size w w' := by
  go_enter Try.func55, Try.ntmps55
  go_wp2_with fail
  refine bodyPost_ret (v := .agg #[.int .i64 k, .int .i64 v]) (by simp [results, Try.results55, go_sem]) rfl ?_
  exact ⟨rfl, ((Below.refl _ _).alloc (Nat.le_refl _) _).alloc (by simp) _⟩

set_option maxRecDepth 100000 in
theorem label_method (x : Value) (W : World) : (method 199 42 x "loop.example/ltlcheck/impl.label").run Try.prog W = .ok (55, x) W := by kernel_rfl
set_option maxRecDepth 100000 in
theorem operands_method (x : Value) (W : World) : (method 199 42 x "loop.example/ltlcheck/impl.operands").run Try.prog W = .ok (56, x) W := by kernel_rfl
set_option maxRecDepth 100000 in
theorem label_enter (args : Array Value) (W : World) : (callFunc 55 args).run Try.prog W = .ok (.enter 55 args) W := by kernel_rfl
set_option maxRecDepth 100000 in
theorem operands_enter (args : Array Value) (W : World) : (callFunc 56 args).run Try.prog W = .ok (.enter 56 args) W := by kernel_rfl

set_option maxRecDepth 100000 in
theorem label_eq (a b c d : Int) (w : World) : (Op.equalIn 10000 76 (.agg #[.int .i64 a, .int .i64 b]) (.agg #[.int .i64 c, .int .i64 d])).run Try.prog w = .ok (a == c && b == d) w := by
  have u3 := Try.underlying3
  have u42 := Try.underlying76
  have a3 := Try.isAgg3
  have z3 := Try.sizeOf3
  rw [show (10000 : Nat) = 9999 + 1 from rfl, Op.equalIn]
  simp only [Sem.run_bind, run_underlying u42, Result.andThen_ok]
  simp only [Std.Legacy.Range.forIn_eq_forIn_range', Std.Legacy.Range.size, Nat.sub_zero, Nat.add_sub_cancel, Nat.div_one, List.range'_succ, List.range'_zero, List.forIn_cons, List.forIn_nil]
  go_simp
  by_cases h1 : a = c <;> by_cases h2 : b = d <;> simp [h1, h2]

end Go.Proofs.Ytgdhmdhbpakahaa

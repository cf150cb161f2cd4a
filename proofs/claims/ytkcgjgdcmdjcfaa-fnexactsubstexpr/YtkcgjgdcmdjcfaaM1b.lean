/- The walk of laws.markExpr. -/
import Derived.Test.YtkcgjgdcmdjcfaaM1
namespace Go.Proofs.Ytkcgjgdcmdjcfaa
open Go.RowKit

set_option maxHeartbeats 400000 in
theorem markExpr_any (e : Ex) (c0 c1 c2 : Value) (m : Int) (lo hi : Nat) (w : World) (hO : Own w 25 lo hi e c0 c1 c2) (hhi : hi ≤ w.heap.size) (hd : desc e ≤ 1048576) (hm0 : 0 ≤ m) (hm : m + 2 * desc e ≤ 4194304) :
    Calls Try.prog 22 #[.agg #[c0, c1, c2], .int .i64 m] w fun e' w' => e' = .returned (.int .i64 (m + 2 * desc e)) ∧ Scr lo hi w w' := by
  obtain ⟨n0, n1, a2, l2, cp2, rfl, rfl, rfl⟩ := hO.form
  obtain ⟨W1, hW1⟩ : ∃ W1, W1 = w.alloc (.cells #[.int .i64 n0, .int .i64 n1, .slice a2 l2 cp2] 25) := ⟨_, rfl⟩
  have hb0 : Below w.heap.size w W1 := by rw [hW1]; exact (Below.refl _ _).alloc (Nat.le_refl _) _
  have HSk := Lib.hid (hO.under hb0 hhi).sk
  have HSc : Hid (Scr lo hi w W1) := by
    refine ⟨hb0.os, hb0.tape, hb0.output, hb0.size, fun g hg _ => hb0.block g hg, fun g cs hr => ⟨cs, hr.under hb0 hr.lt, fun _ => .inl rfl⟩⟩
  have HW1 := Lib.hid hW1
  clear hW1 hb0 hO
  go_enter Try.func22, Try.ntmps22
  go_wp2_with fail
  rw [← HW1.out]
  refine (mk_any e m lo hi _ _ HSk.out hd hm0 hm).mono ?_
  rintro e' w2 ⟨rfl, hs2⟩
  have HSc2 := Lib.hid (HSc.out.trans hs2)
  clear hs2
  go_wp2_with fail
  go_ret
  exact ⟨rfl, HSc2.out⟩

end Go.Proofs.Ytkcgjgdcmdjcfaa

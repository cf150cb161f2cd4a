/- The walk of impl.FormulaSame. -/
import Derived.Test.YtgdhmdhbpakahaaSmI
namespace Go.Proofs.Ytgdhmdhbpakahaa
open Go.RowKit

set_option maxHeartbeats 1000000 in
set_option maxRecDepth 100000 in
theorem implSm_any (a b : Ex) (c0 c1 c2 d0 d1 d2 : Value) (lo hi : Nat) (w : World) (hA : SepF w lo hi a c0 c1 c2) (hlo : lo ≤ w.heap.size) (hhi : hi ≤ w.heap.size) (hB : Lies w w.heap.size b d0 d1 d2) (hda : desc a ≤ 1048576) :
    Calls Try.prog 28 #[.agg #[c0, c1, c2], .agg #[d0, d1, d2]] w fun e' w' => e' = .returned (.bool (sameE a b)) ∧ Below w.heap.size w w' := by
  obtain ⟨n0, n1, a2, l2, cp2, rfl, rfl, rfl⟩ := hA.form
  obtain ⟨m0, m1, b2, k2, cq2, rfl, rfl, rfl⟩ := hB.form
  obtain ⟨W2, hW2⟩ : ∃ W2, W2 = (w.alloc (.cells #[.int .i64 n0, .int .i64 n1, .slice a2 l2 cp2] 42)).alloc (.cells #[.int .i64 m0, .int .i64 m1, .slice b2 k2 cq2] 42) := ⟨_, rfl⟩
  have hrows := two_boxes w 42 #[.int .i64 n0, .int .i64 n1, .slice a2 l2 cp2] #[.int .i64 m0, .int .i64 m1, .slice b2 k2 cq2]
  rw [← hW2] at hrows
  obtain ⟨_, _, hb2⟩ := hrows
  have hz := hb2.size
  have HA := Lib.hid ((hA.under hb2 hhi).more (Nat.le_refl _) (show hi ≤ W2.heap.size by omega))
  have HB := Lib.hid (below_more hB hb2 hb2.size)
  have HB2 := Lib.hid hb2
  have HW2 := Lib.hid hW2
  have HL : Hid (lo ≤ W2.heap.size) := by show _ ≤ _; omega
  clear hW2 hb2 hA hB hz
  go_enter Try.func28, Try.ntmps28
  go_wp2_with fail
  rw [← HW2.out]
  refine (sameT_any a b _ _ _ _ _ _ lo W2 HA.out HB.out HL.out hda).mono ?_
  rintro e' w3 ⟨rfl, hb3⟩
  have HB3 := Lib.hid (HB2.out.trans (hb3.mono HB2.out.size))
  obtain ⟨R, hR⟩ : ∃ R, R = sameE a b := ⟨_, rfl⟩
  rw [← hR]
  have HR := Lib.hid hR
  clear hb3 hR
  go_wp2_with fail
  go_ret
  exact ⟨ret_bool HR.out, HB3.out⟩

end Go.Proofs.Ytgdhmdhbpakahaa

/- The walk of laws.szAutomaton. -/
import Derived.Test.YtldnegacgjijlaaBoS
import Derived.Test.YtldnegacgjijlaaTrT
namespace Go.Proofs.Ytldnegacgjijlaa
open Go.RowKit

set_option maxHeartbeats 400000 in
theorem szAu_any (s : Au) (C : Nat → Value) (left : Int) (w : World) (hL : Lay.au.lies w w.heap.size s C) (h0 : 0 ≤ left) (h1 : left ≤ 1048576) :
    Calls Try.prog 20 #[.agg #[C 0, C 1, C 2], .int .i64 left] w fun e' w' => e' = .returned (.int .i64 (room left (Lay.au.sz s))) ∧ Below w.heap.size w w' := by
  rw [au_sz]
  obtain ⟨ini, acc, es⟩ := s
  obtain ⟨⟨A, cap, b, off, e0, hl, hO⟩, ⟨A', cap', b', off', e1, hl', hO'⟩, ⟨A2, cap2, b2, off2, D2, e2, hl2, hO2⟩⟩ := au_lies hL
  rw [e0, e1, e2]
  clear e0 e1 e2 hL hO hO' hO2
  dsimp only
  obtain ⟨W1, hW1⟩ : ∃ W1, W1 = w.alloc (.cells #[.slice A ini.length cap, .slice A' acc.length cap', .slice A2 es.length cap2] 47) := ⟨_, rfl⟩
  have hb0 : Below w.heap.size w W1 := by rw [hW1]; exact (Below.refl _ _).alloc (Nat.le_refl _) _
  have HRw : Hid (Row W1 w.heap.size 47 #[.slice A ini.length cap, .slice A' acc.length cap', .slice A2 es.length cap2]) := by rw [hW1]; exact Row.new _ _ _
  have HB0 := Lib.hid hb0
  have HW1 := Lib.hid hW1
  have HLn := Lib.hid hl
  have HLn' := Lib.hid hl'
  have HLn2 := Lib.hid hl2
  have HN := Lib.hid (room_neg (left := left) (a := ini.length) (b := acc.length + es.length))
  have HDd := Lib.hid (room_add (left := left) (a := ini.length) (b := acc.length + es.length))
  have hle : room left ini.length ≤ left := room_le h0
  have hcs := room_cases left ini.length
  obtain ⟨r, hr⟩ : ∃ r, r = room left ini.length := ⟨_, rfl⟩
  rw [← hr] at hle hcs
  have HRr := Lib.hid hr
  have HN' := Lib.hid (room_neg (left := r) (a := acc.length) (b := es.length))
  have HDd' := Lib.hid (room_add (left := r) (a := acc.length) (b := es.length))
  clear hb0 hW1 hl hl' hl2 hr
  go_enter Try.func20, Try.ntmps20
  go_wp2_with fail
  rw [← HW1.out]
  refine (szInts_any A ini.length cap left _ HLn.out h0 h1).mono ?_
  rintro e' w1 ⟨rfl, rfl⟩
  rw [← HRr.out]
  by_cases hn : r < 0
  · go_wp2_with fail
    go_ret
    exact ⟨ret_int (by rw [HN.out (by rw [← HRr.out]; exact hn) h0]), HB0.out⟩
  have hr0 : 0 ≤ r := by omega
  have HE1 : Hid (room left (ini.length + (acc.length + es.length)) = room r (acc.length + es.length)) := by
    show _ = _
    rw [← HDd.out (by rw [← HRr.out]; exact hr0), ← HRr.out]
  clear HN HDd
  obtain ⟨g0, g1, g2⟩ := HRw.out.three
  obtain ⟨s, hs⟩ : ∃ s, s = room r acc.length := ⟨_, rfl⟩
  have hs2 := room_cases r acc.length
  have hsl : room r acc.length ≤ r := room_le hr0
  rw [← hs] at hs2 hsl
  have HS := Lib.hid hs
  clear hs g0
  go_wp2_with fail
  refine (szBools_any A' acc.length cap' r _ HLn'.out hr0 (by omega)).mono ?_
  rintro e' w2 ⟨rfl, rfl⟩
  rw [← HS.out]
  by_cases hn2 : s < 0
  · go_wp2_with fail
    go_ret
    exact ⟨ret_int (by rw [HE1.out, HN'.out (by rw [← HS.out]; exact hn2) hr0]), HB0.out⟩
  have hs0 : 0 ≤ s := by omega
  have HE2 : Hid (room left (ini.length + (acc.length + es.length)) = room s es.length) := by
    show _ = _
    rw [HE1.out, ← HDd'.out (by rw [← HS.out]; exact hs0), ← HS.out]
  clear HN' HDd' HE1
  obtain ⟨t, ht⟩ : ∃ t, t = room s es.length := ⟨_, rfl⟩
  have ht2 := room_cases s es.length
  rw [← ht] at ht2
  have HT := Lib.hid ht
  clear ht g1
  go_wp2_with fail
  refine (szTrS_any A2 es.length cap2 s _ HLn2.out hs0 (by omega)).mono ?_
  rintro e' w3 ⟨rfl, rfl⟩
  rw [← HT.out]
  have HE : Hid (room left (ini.length + (acc.length + es.length)) = t) := by show _ = _; rw [HE2.out, ← HT.out]
  by_cases hn3 : t < 0
  · have : t = -1 := by omega
    subst this
    go_wp2_with fail
    go_ret
    exact ⟨ret_int HE.out.symm, HB0.out⟩
  · go_wp2_with fail
    go_ret
    exact ⟨ret_int HE.out.symm, HB0.out⟩

end Go.Proofs.Ytldnegacgjijlaa

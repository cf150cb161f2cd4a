/- The walk of laws.szSystem. -/
import Derived.Test.YtcaffghfejneaaaSzPr
namespace Go.Proofs.Ytcaffghfejneaaa
open Go.RowKit

set_option maxHeartbeats 400000 in
theorem szSy_any (s : Sy) (C : Nat → Value) (left : Int) (w : World) (hL : Lay.sy.lies w w.heap.size s C) (h0 : 0 ≤ left) (h1 : left ≤ 1048576) :
    Calls Try.prog 11 #[.agg #[C 0, C 1], .int .i64 left] w fun e' w' => e' = .returned (.int .i64 (room left (Lay.sy.sz s))) ∧ Below w.heap.size w w' := by
  rw [sy_sz, int_szL]
  obtain ⟨ini, ps⟩ := s
  obtain ⟨⟨A, cap, b, off, D, e0, hl, hO⟩, A', cap', b', off', D', e1, hl', hO'⟩ := sy_lies hL
  rw [e0, e1]
  clear e0 e1 hL hO
  dsimp only
  obtain ⟨W1, hW1⟩ : ∃ W1, W1 = w.alloc (.cells #[.slice A ini.length cap, .slice A' ps.length cap'] 40) := ⟨_, rfl⟩
  have hb0 : Below w.heap.size w W1 := by rw [hW1]; exact (Below.refl _ _).alloc (Nat.le_refl _) _
  have HRw : Hid (Row W1 w.heap.size 40 #[.slice A ini.length cap, .slice A' ps.length cap']) := by rw [hW1]; exact Row.new _ _ _
  have HO := Lib.hid (hO'.grow hb0 hb0.size)
  have HB0 := Lib.hid hb0
  have HW1 := Lib.hid hW1
  have HLn := Lib.hid hl
  have HLn' := Lib.hid hl'
  have HDd := Lib.hid (room_add (left := left) (a := ini.length) (b := Lay.pr.szL ps))
  have HN := Lib.hid (room_neg (left := left) (a := ini.length) (b := Lay.pr.szL ps))
  have hle : room left ini.length ≤ left := room_le h0
  have hcs := room_cases left ini.length
  obtain ⟨r, hr⟩ : ∃ r, r = room left ini.length := ⟨_, rfl⟩
  rw [← hr] at hle hcs
  have HRr := Lib.hid hr
  clear hO' hb0 hW1 hl hl' hr
  go_enter Try.func11, Try.ntmps11
  go_wp2_with fail
  rw [← HW1.out]
  refine (szInts_any A ini.length cap left _ HLn.out h0 h1).mono ?_
  rintro e' w1 ⟨rfl, rfl⟩
  rw [← HRr.out]
  by_cases hn : r < 0
  · go_wp2_with fail
    go_ret
    exact ⟨ret_int (by rw [HN.out (by rw [← HRr.out]; exact hn) h0]), HB0.out⟩
  · have hr0 : 0 ≤ r := by omega
    obtain ⟨g0, g1⟩ := HRw.out.two
    obtain ⟨s, hs⟩ : ∃ s, s = room r (Lay.pr.szL ps) := ⟨_, rfl⟩
    have hs2 := room_cases r (Lay.pr.szL ps)
    rw [← hs] at hs2
    have HS := Lib.hid hs
    clear hs g0
    go_wp2_with fail
    refine (szPrS_any ps A' cap' b' off' D' r _ HLn'.out HO.out hr0 (by omega)).mono ?_
    rintro e' w2 ⟨rfl, hb2⟩
    rw [← HS.out]
    have HBf := Lib.hid (HB0.out.trans (hb2.mono HB0.out.size))
    have HE : Hid (room left (ini.length + Lay.pr.szL ps) = s) := by
      show _ = _
      rw [← HDd.out (by rw [← HRr.out]; exact hr0), ← HRr.out, ← HS.out]
    clear hb2 g1
    by_cases hn2 : s < 0
    · have : s = -1 := by omega
      subst this
      go_wp2_with fail
      go_ret
      exact ⟨ret_int HE.out.symm, HBf.out⟩
    · go_wp2_with fail
      go_ret
      exact ⟨ret_int HE.out.symm, HBf.out⟩

end Go.Proofs.Ytcaffghfejneaaa

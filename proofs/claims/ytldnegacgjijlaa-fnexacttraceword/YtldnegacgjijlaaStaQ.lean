/- The walks of laws.szState, laws.eqState and laws.toState. -/
import Derived.Test.YtldnegacgjijlaaJ02
namespace Go.Proofs.Ytldnegacgjijlaa
open Go.RowKit

set_option maxHeartbeats 400000 in
theorem szSt_any (s : St) (C : Nat → Value) (left : Int) (w : World) (hL : Lay.sta.lies w w.heap.size s C) (h0 : 0 ≤ left) (h1 : left ≤ 1048576) :
    Calls Try.prog 115 #[.agg #[C 0, C 1], .int .i64 left] w fun e' w' => e' = .returned (.int .i64 (room left (Lay.sta.sz s))) ∧ Below w.heap.size w w' := by
  rw [sta_sz]
  obtain ⟨ini, ps⟩ := s
  obtain ⟨⟨A, cap, b, off, D, e0, hl, hO⟩, A', cap', b', off', D', e1, hl', hO'⟩ := sta_lies hL
  rw [e0, e1]
  clear e0 e1 hL hO hO'
  dsimp only
  obtain ⟨W1, hW1⟩ : ∃ W1, W1 = w.alloc (.cells #[.slice A ini.length cap, .slice A' ps.length cap'] 172) := ⟨_, rfl⟩
  have hb0 : Below w.heap.size w W1 := by rw [hW1]; exact (Below.refl _ _).alloc (Nat.le_refl _) _
  have HRw : Hid (Row W1 w.heap.size 172 #[.slice A ini.length cap, .slice A' ps.length cap']) := by rw [hW1]; exact Row.new _ _ _
  have HB0 := Lib.hid hb0
  have HW1 := Lib.hid hW1
  have HLn := Lib.hid hl
  have HLn' := Lib.hid hl'
  have HDd := Lib.hid (room_add (left := left) (a := ini.length) (b := ps.length))
  have HN := Lib.hid (room_neg (left := left) (a := ini.length) (b := ps.length))
  have hle : room left ini.length ≤ left := room_le h0
  have hcs := room_cases left ini.length
  obtain ⟨r, hr⟩ : ∃ r, r = room left ini.length := ⟨_, rfl⟩
  rw [← hr] at hle hcs
  have HRr := Lib.hid hr
  clear hb0 hW1 hl hl' hr
  go_enter Try.func115, Try.ntmps115
  go_wp2_with fail
  rw [← HW1.out]
  refine (szInts_any A ini.length cap left _ HLn.out h0 h1).mono ?_
  rintro e' w1 ⟨rfl, rfl⟩
  rw [← HRr.out]
  by_cases hn : r < 0
  · go_wp2_with fail
    go_ret
    exact ⟨ret_int (by rw [HN.out (by rw [← HRr.out]; exact hn) h0]), HB0.out⟩
  · have hr0 : 0 ≤ r := by omega
    obtain ⟨g0, g1⟩ := HRw.out.two
    obtain ⟨s, hs⟩ : ∃ s, s = room r ps.length := ⟨_, rfl⟩
    have hs2 := room_cases r ps.length
    rw [← hs] at hs2
    have HS := Lib.hid hs
    clear hs g0
    go_wp2_with fail
    refine (szInts_any A' ps.length cap' r _ HLn'.out hr0 (by omega)).mono ?_
    rintro e' w2 ⟨rfl, rfl⟩
    rw [← HS.out]
    have HE : Hid (room left (ini.length + ps.length) = s) := by
      show _ = _
      rw [← HDd.out (by rw [← HRr.out]; exact hr0), ← HRr.out, ← HS.out]
    clear g1
    by_cases hn2 : s < 0
    · have : s = -1 := by omega
      subst this
      go_wp2_with fail
      go_ret
      exact ⟨ret_int HE.out.symm, HB0.out⟩
    · go_wp2_with fail
      go_ret
      exact ⟨ret_int HE.out.symm, HB0.out⟩

set_option maxHeartbeats 400000 in
theorem eqSt_any (s : St) (C D : Nat → Value) (w : World) (hL : Lay.sta.lies w w.heap.size s C) (hL' : Lay.sta.lies w w.heap.size s D) :
    Calls Try.prog 124 #[.agg #[C 0, C 1], .agg #[D 0, D 1]] w fun e' w' => e' = .returned (.bool true) ∧ Below w.heap.size w w' := by
  obtain ⟨ini, ps⟩ := s
  obtain ⟨⟨A, cap, b, off, E, e0, hl, hO⟩, B, cbp, c, pff, F, e1, hm, hP⟩ := sta_lies hL
  obtain ⟨⟨A', cap', b', off', E', d0, _, hO'⟩, B', cbp', c', pff', F', d1, _, hP'⟩ := sta_lies hL'
  rw [e0, e1, d0, d1]
  clear e0 e1 d0 d1 hL hL'
  obtain ⟨W1, hW1⟩ : ∃ W1, W1 = (w.alloc (.cells #[.slice A ini.length cap, .slice B ps.length cbp] 136)).alloc (.cells #[.slice A' ini.length cap', .slice B' ps.length cbp'] 136) := ⟨_, rfl⟩
  have hrows := two_boxes w 136 #[.slice A ini.length cap, .slice B ps.length cbp] #[.slice A' ini.length cap', .slice B' ps.length cbp']
  rw [← hW1] at hrows
  obtain ⟨ra, rb, hb0⟩ := hrows
  have HRa := Lib.hid ra
  have HRb := Lib.hid rb
  have HO := Lib.hid (ints_of (hO.grow hb0 hb0.size))
  have HO' := Lib.hid (ints_of (hO'.grow hb0 hb0.size))
  have HP := Lib.hid (hP.grow hb0 hb0.size)
  have HP' := Lib.hid (hP'.grow hb0 hb0.size)
  have HB0 := Lib.hid hb0
  have HW1 := Lib.hid hW1
  have HLn := Lib.hid hl
  have HMn := Lib.hid hm
  clear hO hO' hP hP' hb0 hW1 hl hm ra rb
  go_enter Try.func124, Try.ntmps124
  go_wp2_with fail
  rw [← HW1.out]
  refine (eqInts_any ini A A' cap b off cap' b' off' _ HLn.out HO.out HO'.out).mono ?_
  rintro e' w1 ⟨rfl, hb1⟩
  obtain ⟨g0, g1⟩ := (HRa.out.under hb1 HRa.out.lt).two
  obtain ⟨f0, f1⟩ := (HRb.out.under hb1 HRb.out.lt).two
  have HP1 := Lib.hid (ints_of (HP.out.grow hb1 hb1.size))
  have HP1' := Lib.hid (ints_of (HP'.out.grow hb1 hb1.size))
  have HB1 := Lib.hid (HB0.out.trans (hb1.mono HB0.out.size))
  clear hb1 g0 f0
  go_wp2_with fail
  refine (eqInts_any ps B B' cbp c pff cbp' c' pff' _ HMn.out HP1.out HP1'.out).mono ?_
  rintro e' w2 ⟨rfl, hb2⟩
  have HB2 := Lib.hid (HB1.out.trans (hb2.mono HB1.out.size))
  clear hb2 g1 f1
  go_wp2_with fail
  go_ret
  exact ⟨rfl, HB2.out⟩

def ToStPost (s : St) (w : World) (e' : Ending) (w' : World) : Prop :=
  ∃ (xa : Option Addr) (xl xc : Nat) (ya : Option Addr) (yl yc : Nat), e' = .returned (.agg #[.slice xa xl xc, .slice ya yl yc]) ∧ Lay.sta.sep w' w.heap.size w'.heap.size s (fun j => (#[.slice xa xl xc, .slice ya yl yc] : Array Value).getD j undef) ∧ Below w.heap.size w w'

set_option maxHeartbeats 1000000 in
set_option maxRecDepth 100000 in
theorem toSt_any (s : St) (C : Nat → Value) (w : World) (hL : Lay.sta.lies w w.heap.size s C) (hd : Lay.sta.sz s ≤ 1048576) :
    Calls Try.prog 119 #[.agg #[C 0, C 1]] w (ToStPost s w) := by
  rw [sta_sz] at hd
  obtain ⟨ini, ps⟩ := s
  obtain ⟨⟨A, cap, b, off, E, e0, hl, hO⟩, B, cbp, c, pff, F, e1, hm, hP⟩ := sta_lies hL
  rw [e0, e1]
  clear e0 e1 hL
  dsimp only at hd
  have HD1 : Hid (ini.length ≤ 1048576) := by show _ ≤ _; omega
  have HD2 : Hid (ps.length ≤ 1048576) := by show _ ≤ _; omega
  obtain ⟨W3, hW3⟩ : ∃ W3, W3 = ((w.alloc (.cells #[.slice A ini.length cap, .slice B ps.length cbp] 172)).alloc (.cells #[.slice none 0 0, .slice none 0 0] 136)).alloc (.cells #[.slice none 0 0, .slice none 0 0] 136) := ⟨_, rfl⟩
  have hrows := three_boxes w 172 136 136 #[.slice A ini.length cap, .slice B ps.length cbp] #[.slice none 0 0, .slice none 0 0] #[.slice none 0 0, .slice none 0 0]
  rw [← hW3] at hrows
  obtain ⟨ra, rb, rc, hb0, hz0⟩ := hrows
  have HRa := Lib.hid ra
  have HRb := Lib.hid rb
  have HRc := Lib.hid rc
  have HB0 := Lib.hid hb0
  have HZ0 := Lib.hid hz0
  have HO := Lib.hid (ints_of (hO.grow hb0 hb0.size))
  have HP0 := Lib.hid hP
  have HLn := Lib.hid hl
  have HMn := Lib.hid hm
  have HW3 := Lib.hid hW3
  clear hO hP hb0 hz0 hW3 ra rb rc hd hl hm
  go_enter Try.func119, Try.ntmps119
  go_wp2_with fail
  rw [← HW3.out]
  refine (toInts_any ini A cap b off _ HD1.out HO.out).mono ?_
  rintro e' w1 ⟨g, rfl, hg, hLd, hb1⟩
  have hz1 : w.heap.size + 3 ≤ w1.heap.size := by rw [← HZ0.out]; exact hb1.size
  have hRa1 := HRa.out.under hb1 HRa.out.lt
  have hRb1 := HRb.out.under hb1 HRb.out.lt
  have hRc1 := HRc.out.under hb1 HRc.out.lt
  obtain ⟨g0, g1⟩ := hRa1.two
  obtain ⟨c0, c1⟩ := hRc1.two
  have z0 := hRc1.frozen 0
  obtain ⟨W4, hW4⟩ : ∃ W4, W4 = w1.setCell ⟨w.heap.size + 1 + 1, 0, none⟩ (.slice (some ⟨g, 0, none⟩) ini.length ini.length) := ⟨_, rfl⟩
  have hk4 : ∀ q, q ≠ w.heap.size + 1 + 1 → W4.heap[q]? = w1.heap[q]? := fun q hq => by
    rw [hW4, Below.heap_setCell _ _ _ _ (by simpa using hq)]
  have hz4 : W4.heap.size = w1.heap.size := by rw [hW4]; simp
  have hb4 : Below w.heap.size w W4 := by
    rw [hW4]
    exact (HB0.out.trans (hb1.mono HB0.out.size)).setCell (by simp; omega) _
  have HRa4 : Hid (Row W4 w.heap.size 172 #[.slice A ini.length cap, .slice B ps.length cbp]) := (hk4 _ (by omega)).trans hRa1
  have HRb4 : Hid (Row W4 (w.heap.size + 1) 136 #[.slice none 0 0, .slice none 0 0]) := (hk4 _ (by omega)).trans hRb1
  have HRc4 : Hid (Row W4 (w.heap.size + 1 + 1) 136 #[.slice (some ⟨g, 0, none⟩) ini.length ini.length, .slice none 0 0]) := by rw [hW4]; exact hRc1.set_ 0 _
  have HS4 : Hid ((Lay.int.slice 3).sep W4 g w1.heap.size ini (fun _ => .slice (some ⟨g, 0, none⟩) ini.length ini.length)) :=
    (Lay.int.slice _).sep_keep (fun q q1 q2 => hk4 q (by have := HZ0.out; omega)) (hLd.sep HLn.out (Nat.le_refl _) rfl)
  have HP4 := Lib.hid (ints_of (HP0.out.grow hb4 hb4.size))
  have HB4 := Lib.hid hb4
  have HZ4 := Lib.hid hz4
  have HW4 := Lib.hid hW4
  have hg3 : w.heap.size + 3 ≤ g := by rw [← HZ0.out]; exact hg
  clear hb1 hRa1 hRb1 hRc1 hLd hg hk4 hz4 hb4 hW4 g0
  go_wp2_with fail
  rw [← HW4.out]
  refine (toInts_any ps B cbp c pff _ HD2.out HP4.out).mono ?_
  rintro e' w2 ⟨h, rfl, hh, hLd, hb2⟩
  have hRb2 := HRb4.out.under hb2 HRb4.out.lt
  have hRc2 := HRc4.out.under hb2 HRc4.out.lt
  clear g1 c0 c1 z0
  obtain ⟨p0, p1⟩ := hRb2.two
  obtain ⟨c0, c1⟩ := hRc2.two
  have z1 := hRc2.frozen 1
  have y0' := hRb2.frozen 0
  have y1' := hRb2.frozen 1
  have KEY : Hid (∀ W, Tw (w.heap.size + 1) (w.heap.size + 1 + 1) w2 W → Lay.sta.sep W w.heap.size W.heap.size ⟨ini, ps⟩ (fun j => (#[.slice (some ⟨g, 0, none⟩) ini.length ini.length, .slice (some ⟨h, 0, none⟩) ps.length ps.length] : Array Value).getD j undef) ∧ Below w.heap.size w W) := fun W hT => by
    have hZ4 := HZ4.out
    have hs2 := hb2.size
    refine ⟨⟨w1.heap.size, by omega, by rw [hT.size]; omega, ?_, ?_⟩, hT.below (HB4.out.trans (hb2.mono HB4.out.size)) (by omega) (by omega)⟩
    · refine (Lay.int.slice _).sep_more (lo := g) (by omega) (Nat.le_refl _) ((Lay.int.slice _).sep_keep (fun q q1 q2 => (hT.other q (by omega) (by omega)).trans (hb2.block q (by omega))) ((Lay.int.slice _).sep_ext (fun j hj => ?_) HS4.out))
      have : j = 0 := by have : j < 1 := hj; omega
      subst this
      rfl
    · exact (Lay.int.slice _).sep_more (lo := h) (by omega) (by rw [hT.size]; exact Nat.le_refl _) ((Lay.int.slice _).sep_keep (fun q q1 q2 => hT.other q (by omega) (by omega)) (hLd.sep HMn.out (Nat.le_refl _) (cap := ps.length) rfl))
  clear hb2 hRb2 hRc2 hLd hh
  go_wp2_with fail
  refine bodyPost_ret (v := .agg #[.slice (some ⟨g, 0, none⟩) ini.length ini.length, .slice (some ⟨h, 0, none⟩) ps.length ps.length]) (by simp [results, Try.results119, go_sem, p0, p1]) rfl ⟨some ⟨g, 0, none⟩, ini.length, ini.length, some ⟨h, 0, none⟩, ps.length, ps.length, rfl, ?_⟩
  exact KEY.out _ ((((Tw.refl _ _ _).sb _ _).sa _ _).sa _ _)

end Go.Proofs.Ytldnegacgjijlaa

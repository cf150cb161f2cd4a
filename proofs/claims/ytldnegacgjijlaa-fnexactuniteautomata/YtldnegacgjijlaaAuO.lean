/- The walk of laws.toAutomaton. -/
import Derived.Test.YtldnegacgjijlaaBoS
import Derived.Test.YtldnegacgjijlaaTrS
namespace Go.Proofs.Ytldnegacgjijlaa
open Go.RowKit

def ToAuPost (s : Au) (w : World) (e' : Ending) (w' : World) : Prop :=
  ∃ (xa : Option Addr) (xl xc : Nat) (ya : Option Addr) (yl yc : Nat) (za : Option Addr) (zl zc : Nat), e' = .returned (.agg #[.slice xa xl xc, .slice ya yl yc, .slice za zl zc]) ∧ Lay.au.sep w' w.heap.size w'.heap.size s (fun j => (#[.slice xa xl xc, .slice ya yl yc, .slice za zl zc] : Array Value).getD j undef) ∧ Below w.heap.size w w'

set_option maxHeartbeats 1000000 in
set_option maxRecDepth 100000 in
theorem toAu_any (s : Au) (C : Nat → Value) (w : World) (hL : Lay.au.lies w w.heap.size s C) (hd : Lay.au.sz s ≤ 1048576) :
    Calls Try.prog 22 #[.agg #[C 0, C 1, C 2]] w (ToAuPost s w) := by
  rw [au_sz] at hd
  obtain ⟨ini, acc, es⟩ := s
  obtain ⟨⟨A, cap, b, off, e0, hl, hO⟩, ⟨A2, cap2, b2, off2, e1, hl2, hO2⟩, ⟨A3, cap3, b3, off3, D3, e2, hl3, hO3⟩⟩ := au_lies hL
  rw [e0, e1, e2]
  clear e0 e1 e2 hL
  dsimp only at hd
  have HD1 : Hid (ini.length ≤ 1048576) := by show _ ≤ _; omega
  have HD2 : Hid (acc.length ≤ 1048576) := by show _ ≤ _; omega
  have HD3 : Hid (Lay.tr.szL es ≤ 1048576) := by show _ ≤ _; rw [tr_szL]; omega
  obtain ⟨W3, hW3⟩ : ∃ W3, W3 = ((w.alloc (.cells #[.slice A ini.length cap, .slice A2 acc.length cap2, .slice A3 es.length cap3] 47)).alloc (.cells #[.slice none 0 0, .slice none 0 0, .slice none 0 0] 51)).alloc (.cells #[.slice none 0 0, .slice none 0 0, .slice none 0 0] 51) := ⟨_, rfl⟩
  have hrows := three_boxes w 47 51 51 #[.slice A ini.length cap, .slice A2 acc.length cap2, .slice A3 es.length cap3] #[.slice none 0 0, .slice none 0 0, .slice none 0 0] #[.slice none 0 0, .slice none 0 0, .slice none 0 0]
  rw [← hW3] at hrows
  obtain ⟨ra, rb, rc, hb0, hz0⟩ := hrows
  have HRa := Lib.hid ra
  have HRb := Lib.hid rb
  have HRc := Lib.hid rc
  have HB0 := Lib.hid hb0
  have HZ0 := Lib.hid hz0
  have HO := Lib.hid (hO.under hb0 hb0.size)
  have HP0 := Lib.hid hO2
  have HQ0 := Lib.hid hO3
  have HLn := Lib.hid hl
  have HLm := Lib.hid hl2
  have HLk := Lib.hid hl3
  have HW3 := Lib.hid hW3
  clear hO hO2 hO3 hb0 hz0 hW3 ra rb rc hd hl hl2 hl3
  go_enter Try.func22, Try.ntmps22
  go_wp2_with fail
  rw [← HW3.out]
  refine (toInts_any ini A cap b off _ HD1.out HO.out).mono ?_
  rintro e' w1 ⟨g, rfl, hg, hLd, hb1⟩
  have hz1 : w.heap.size + 3 ≤ w1.heap.size := by rw [← HZ0.out]; exact hb1.size
  have hRa1 := HRa.out.under hb1 HRa.out.lt
  have hRb1 := HRb.out.under hb1 HRb.out.lt
  have hRc1 := HRc.out.under hb1 HRc.out.lt
  obtain ⟨g0, g1, g2⟩ := hRa1.three
  obtain ⟨c0, c1, c2⟩ := hRc1.three
  have z0 := hRc1.frozen 0
  obtain ⟨W4, hW4⟩ : ∃ W4, W4 = w1.setCell ⟨w.heap.size + 1 + 1, 0, none⟩ (.slice (some ⟨g, 0, none⟩) ini.length ini.length) := ⟨_, rfl⟩
  have hk4 : ∀ q, q ≠ w.heap.size + 1 + 1 → W4.heap[q]? = w1.heap[q]? := fun q hq => by
    rw [hW4, Below.heap_setCell _ _ _ _ (by simpa using hq)]
  have hz4 : W4.heap.size = w1.heap.size := by rw [hW4]; simp
  have hb4 : Below w.heap.size w W4 := by
    rw [hW4]
    exact (HB0.out.trans (hb1.mono HB0.out.size)).setCell (by simp; omega) _
  have HRa4 : Hid (Row W4 w.heap.size 47 #[.slice A ini.length cap, .slice A2 acc.length cap2, .slice A3 es.length cap3]) := (hk4 _ (by omega)).trans hRa1
  have HRb4 : Hid (Row W4 (w.heap.size + 1) 51 #[.slice none 0 0, .slice none 0 0, .slice none 0 0]) := (hk4 _ (by omega)).trans hRb1
  have HRc4 : Hid (Row W4 (w.heap.size + 1 + 1) 51 #[.slice (some ⟨g, 0, none⟩) ini.length ini.length, .slice none 0 0, .slice none 0 0]) := by rw [hW4]; exact hRc1.set_ 0 _
  have hg3 : w.heap.size + 3 ≤ g := by rw [← HZ0.out]; exact hg
  have HS4 : Hid ((Lay.int.slice 3).sep W4 g w1.heap.size ini (fun _ => .slice (some ⟨g, 0, none⟩) ini.length ini.length)) :=
    (Lay.int.slice _).sep_keep (fun q q1 q2 => hk4 q (by omega)) (hLd.sep HLn.out (Nat.le_refl _) rfl)
  have HP4 := Lib.hid (HP0.out.under hb4 hb4.size)
  have HB4 := Lib.hid hb4
  have HZ4 := Lib.hid hz4
  have HW4 := Lib.hid hW4
  clear hb1 hRa1 hRb1 hRc1 hLd hg hk4 hz4 hb4 hW4 g0 g2 c1 c2
  go_wp2_with fail
  rw [← HW4.out]
  refine (toBools_any acc A2 cap2 b2 off2 _ HD2.out HP4.out).mono ?_
  rintro e' w2 ⟨h, rfl, hh, hLd, hb2⟩
  have hz2 : w1.heap.size ≤ w2.heap.size := by rw [← HZ4.out]; exact hb2.size
  have hRa2 := HRa4.out.under hb2 HRa4.out.lt
  have hRb2 := HRb4.out.under hb2 HRb4.out.lt
  have hRc2 := HRc4.out.under hb2 HRc4.out.lt
  clear g1 c0 z0
  obtain ⟨g0, g1, g2⟩ := hRa2.three
  obtain ⟨c0, c1, c2⟩ := hRc2.three
  have z1 := hRc2.frozen 1
  obtain ⟨W5, hW5⟩ : ∃ W5, W5 = w2.setCell ⟨w.heap.size + 1 + 1, 0 + 1, none⟩ (.slice (some ⟨h, 0, none⟩) acc.length acc.length) := ⟨_, rfl⟩
  have hk5 : ∀ q, q ≠ w.heap.size + 1 + 1 → W5.heap[q]? = w2.heap[q]? := fun q hq => by
    rw [hW5, Below.heap_setCell _ _ _ _ (by simpa using hq)]
  have hz5 : W5.heap.size = w2.heap.size := by rw [hW5]; simp
  have hb5 : Below w.heap.size w W5 := by
    rw [hW5]
    exact (HB4.out.trans (hb2.mono HB4.out.size)).setCell (by simp; omega) _
  have hh4 : w1.heap.size ≤ h := by rw [← HZ4.out]; exact hh
  have HRa5 : Hid (Row W5 w.heap.size 47 #[.slice A ini.length cap, .slice A2 acc.length cap2, .slice A3 es.length cap3]) := (hk5 _ (by omega)).trans hRa2
  have HRb5 : Hid (Row W5 (w.heap.size + 1) 51 #[.slice none 0 0, .slice none 0 0, .slice none 0 0]) := (hk5 _ (by omega)).trans hRb2
  have HRc5 : Hid (Row W5 (w.heap.size + 1 + 1) 51 #[.slice (some ⟨g, 0, none⟩) ini.length ini.length, .slice (some ⟨h, 0, none⟩) acc.length acc.length, .slice none 0 0]) := by rw [hW5]; exact hRc2.set_ 1 _
  have HS5 : Hid ((Lay.int.slice 3).sep W5 g w1.heap.size ini (fun _ => .slice (some ⟨g, 0, none⟩) ini.length ini.length)) :=
    (Lay.int.slice _).sep_keep (fun q q1 q2 => (hk5 q (by omega)).trans (hb2.block q (by rw [HZ4.out]; exact q2))) HS4.out
  have HT5 : Hid ((Lay.bo.slice 4).sep W5 h w2.heap.size acc (fun _ => .slice (some ⟨h, 0, none⟩) acc.length acc.length)) :=
    (Lay.bo.slice _).sep_keep (fun q q1 q2 => hk5 q (by omega)) (hLd.sep HLm.out (Nat.le_refl _) rfl)
  have HQ5 := Lib.hid (HQ0.out.grow hb5 hb5.size)
  have HB5 := Lib.hid hb5
  have HZ5 := Lib.hid hz5
  have HW5 := Lib.hid hW5
  clear hb2 hRa2 hRb2 hRc2 hLd hh hk5 hz5 hb5 hW5 g0 g1 c0 c2 HS4 HB4 HZ4 HW4 HP4
  go_wp2_with fail
  rw [← HW5.out]
  refine (toTrS_any es A3 cap3 b3 off3 D3 _ HD3.out HQ5.out).mono ?_
  rintro e' w3 ⟨k, rfl, hk, hLd, hb3⟩
  have hz3 : w2.heap.size ≤ w3.heap.size := by rw [← HZ5.out]; exact hb3.size
  have hk3 : w2.heap.size ≤ k := by rw [← HZ5.out]; exact hk
  have hRb3 := HRb5.out.under hb3 HRb5.out.lt
  have hRc3 := HRc5.out.under hb3 HRc5.out.lt
  clear g2 c1 z1
  obtain ⟨p0, p1, p2⟩ := hRb3.three
  obtain ⟨c0, c1, c2⟩ := hRc3.three
  have z2 := hRc3.frozen 2
  have y0' := hRb3.frozen 0
  have y1' := hRb3.frozen 1
  have y2' := hRb3.frozen 2
  have KEY : Hid (∀ W, Tw (w.heap.size + 1) (w.heap.size + 1 + 1) w3 W → Lay.au.sep W w.heap.size W.heap.size ⟨ini, acc, es⟩ (fun j => (#[.slice (some ⟨g, 0, none⟩) ini.length ini.length, .slice (some ⟨h, 0, none⟩) acc.length acc.length, .slice (some ⟨k, 0, none⟩) es.length es.length] : Array Value).getD j undef) ∧ Below w.heap.size w W) := fun W hT => by
    have hZ5 := HZ5.out
    have hkeep : ∀ q, w.heap.size + 3 ≤ q → q < w2.heap.size → W.heap[q]? = W5.heap[q]? := fun q q1 q2 => (hT.other q (by omega) (by omega)).trans (hb3.block q (by omega))
    refine ⟨⟨w1.heap.size, by omega, by rw [hT.size]; omega, ?_, w2.heap.size, by omega, by rw [hT.size]; omega, ?_, ?_⟩, hT.below (HB5.out.trans (hb3.mono HB5.out.size)) (by omega) (by omega)⟩
    · refine (Lay.int.slice _).sep_more (lo := g) (by omega) (Nat.le_refl _) ((Lay.int.slice _).sep_keep (fun q q1 q2 => hkeep q (by omega) (by omega)) ((Lay.int.slice _).sep_ext (fun j hj => ?_) HS5.out))
      have : j = 0 := by have : j < 1 := hj; omega
      subst this
      rfl
    · refine (Lay.bo.slice _).sep_more (lo := h) (by omega) (Nat.le_refl _) ((Lay.bo.slice _).sep_keep (fun q q1 q2 => hkeep q (by omega) (by omega)) ((Lay.bo.slice _).sep_ext (fun j hj => ?_) HT5.out))
      have : j = 0 := by have : j < 1 := hj; omega
      subst this
      rfl
    · exact (Lay.tr.slice _).sep_more (lo := k) (by omega) (by rw [hT.size]; exact Nat.le_refl _) ((Lay.tr.slice _).sep_keep (fun q q1 q2 => hT.other q (by omega) (by omega)) (hLd.sep HLk.out (cap := es.length) rfl))
  clear hb3 hRb3 hRc3 hLd hk
  go_wp2_with fail
  refine bodyPost_ret (v := .agg #[.slice (some ⟨g, 0, none⟩) ini.length ini.length, .slice (some ⟨h, 0, none⟩) acc.length acc.length, .slice (some ⟨k, 0, none⟩) es.length es.length]) (by simp [results, Try.results22, go_sem, p0, p1, p2]) rfl ⟨some ⟨g, 0, none⟩, ini.length, ini.length, some ⟨h, 0, none⟩, acc.length, acc.length, some ⟨k, 0, none⟩, es.length, es.length, rfl, ?_⟩
  exact KEY.out _ (((((Tw.refl _ _ _).sb _ _).sa _ _).sa _ _).sa _ _)

end Go.Proofs.Ytldnegacgjijlaa

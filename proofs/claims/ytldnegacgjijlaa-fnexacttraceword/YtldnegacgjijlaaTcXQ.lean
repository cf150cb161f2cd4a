/- laws.toTrace: where the copy lies. -/
import Derived.Test.YtldnegacgjijlaaTcTQ
namespace Go.Proofs.Ytldnegacgjijlaa
namespace Tc
open Go.RowKit

/-- A lasso's two slices, each a row of its own, as long as it is. -/
def arr (s : St) (g h : Nat) : Array Value := #[.slice (some ⟨g, 0, none⟩) s.locs.length s.locs.length, .slice (some ⟨h, 0, none⟩) s.vals.length s.vals.length]
theorem ints_row {w : World} {B g : Nat} {zs : List Int} {C : Nat → Value} (h : (Lay.int.slice 3).lies w B zs C) (hC : C 0 = .slice (some ⟨g, 0, none⟩) zs.length zs.length) : Ints w B (some ⟨g, 0, none⟩) g 0 zs := by
  obtain ⟨A, cap, b, off, D, e0, hl, hO⟩ := h
  rw [hC] at e0
  injection e0 with e0 _ _
  intro i z hz
  obtain ⟨h1, h2, h3⟩ := ints_of hO i z hz
  rw [← e0] at h1
  injection h1 with h1
  injection h1 with h1 h4
  subst h1
  subst h4
  exact ⟨rfl, h2, h3⟩
theorem arr_ints {w : World} {B g h : Nat} {s : St} (hL : Lay.sta.lies w B s (fun j => (arr s g h).getD j undef)) : Ints w B (some ⟨g, 0, none⟩) g 0 s.locs ∧ Ints w B (some ⟨h, 0, none⟩) h 0 s.vals :=
  ⟨ints_row hL.1 rfl, ints_row hL.2 rfl⟩
def ToLxPost (s : St) (w : World) (e' : Ending) (w' : World) : Prop :=
  ∃ g h : Nat, e' = .returned (.agg (arr s g h)) ∧ Lay.sta.sep w' w.heap.size w'.heap.size s (fun j => (arr s g h).getD j undef) ∧ Below w.heap.size w w'

set_option maxHeartbeats 1000000 in
set_option maxRecDepth 100000 in
theorem toLx_any (s : St) (C : Nat → Value) (w : World) (hL : Lay.sta.lies w w.heap.size s C) (hd : Lay.sta.sz s ≤ 1048576) :
    Calls Try.prog 42 #[.agg #[C 0, C 1]] w (ToLxPost s w) := by
  rw [sta_sz] at hd
  obtain ⟨ini, ps⟩ := s
  obtain ⟨⟨A, cap, b, off, E, e0, hl, hO⟩, B, cbp, c, pff, F, e1, hm, hP⟩ := sta_lies hL
  rw [e0, e1]
  clear e0 e1 hL
  dsimp only at hd
  have HD1 : Hid (ini.length ≤ 1048576) := by show _ ≤ _; omega
  have HD2 : Hid (ps.length ≤ 1048576) := by show _ ≤ _; omega
  obtain ⟨W3, hW3⟩ : ∃ W3, W3 = ((w.alloc (.cells #[.slice A ini.length cap, .slice B ps.length cbp] 81)).alloc (.cells #[.slice none 0 0, .slice none 0 0] 86)).alloc (.cells #[.slice none 0 0, .slice none 0 0] 86) := ⟨_, rfl⟩
  have hrows := three_boxes w 81 86 86 #[.slice A ini.length cap, .slice B ps.length cbp] #[.slice none 0 0, .slice none 0 0] #[.slice none 0 0, .slice none 0 0]
  rw [← hW3] at hrows
  obtain ⟨ra, rb, rc, hb0, hz0⟩ := hrows
  have HRa := Lib.hid ra
  have HRb := Lib.hid rb
  have HRc := Lib.hid rc
  have HB0 := Lib.hid hb0
  have HZ0 := Lib.hid hz0
  have HO := Lib.hid (ints_of (hO.grow hb0 hb0.size))
  have HP0 := Lib.hid hP
  have HLn := Lib.hid hl
  have HMn := Lib.hid hm
  have HW3 := Lib.hid hW3
  clear hO hP hb0 hz0 hW3 ra rb rc hd hl hm
  go_enter Try.func42, Try.ntmps42
  go_wp2_with fail
  rw [← HW3.out]
  refine (toInts_any ini A cap b off _ HD1.out HO.out).mono ?_
  rintro e' w1 ⟨g, rfl, hg, hLd, hb1⟩
  have hz1 : w.heap.size + 3 ≤ w1.heap.size := by rw [← HZ0.out]; exact hb1.size
  have hRa1 := HRa.out.under hb1 HRa.out.lt
  have hRb1 := HRb.out.under hb1 HRb.out.lt
  have hRc1 := HRc.out.under hb1 HRc.out.lt
  obtain ⟨g0, g1⟩ := hRa1.two
  obtain ⟨c0, c1⟩ := hRc1.two
  have z0 := hRc1.frozen 0
  obtain ⟨W4, hW4⟩ : ∃ W4, W4 = w1.setCell ⟨w.heap.size + 1 + 1, 0, none⟩ (.slice (some ⟨g, 0, none⟩) ini.length ini.length) := ⟨_, rfl⟩
  have hk4 : ∀ q, q ≠ w.heap.size + 1 + 1 → W4.heap[q]? = w1.heap[q]? := fun q hq => by
    rw [hW4, Below.heap_setCell _ _ _ _ (by simpa using hq)]
  have hz4 : W4.heap.size = w1.heap.size := by rw [hW4]; simp
  have hb4 : Below w.heap.size w W4 := by
    rw [hW4]
    exact (HB0.out.trans (hb1.mono HB0.out.size)).setCell (by simp; omega) _
  have HRa4 : Hid (Row W4 w.heap.size 81 #[.slice A ini.length cap, .slice B ps.length cbp]) := (hk4 _ (by omega)).trans hRa1
  have HRb4 : Hid (Row W4 (w.heap.size + 1) 86 #[.slice none 0 0, .slice none 0 0]) := (hk4 _ (by omega)).trans hRb1
  have HRc4 : Hid (Row W4 (w.heap.size + 1 + 1) 86 #[.slice (some ⟨g, 0, none⟩) ini.length ini.length, .slice none 0 0]) := by rw [hW4]; exact hRc1.set_ 0 _
  have HS4 : Hid ((Lay.int.slice 3).sep W4 g w1.heap.size ini (fun _ => .slice (some ⟨g, 0, none⟩) ini.length ini.length)) :=
    (Lay.int.slice _).sep_keep (fun q q1 q2 => hk4 q (by have := HZ0.out; omega)) (hLd.sep HLn.out (Nat.le_refl _) rfl)
  have HP4 := Lib.hid (ints_of (HP0.out.grow hb4 hb4.size))
  have HB4 := Lib.hid hb4
  have HZ4 := Lib.hid hz4
  have HW4 := Lib.hid hW4
  have hg3 : w.heap.size + 3 ≤ g := by rw [← HZ0.out]; exact hg
  clear hb1 hRa1 hRb1 hRc1 hLd hg hk4 hz4 hb4 hW4 g0
  go_wp2_with fail
  rw [← HW4.out]
  refine (toInts_any ps B cbp c pff _ HD2.out HP4.out).mono ?_
  rintro e' w2 ⟨h, rfl, hh, hLd, hb2⟩
  have hRb2 := HRb4.out.under hb2 HRb4.out.lt
  have hRc2 := HRc4.out.under hb2 HRc4.out.lt
  clear g1 c0 c1 z0
  obtain ⟨p0, p1⟩ := hRb2.two
  obtain ⟨c0, c1⟩ := hRc2.two
  have z1 := hRc2.frozen 1
  have y0' := hRb2.frozen 0
  have y1' := hRb2.frozen 1
  have KEY : Hid (∀ W, Tw (w.heap.size + 1) (w.heap.size + 1 + 1) w2 W → Lay.sta.sep W w.heap.size W.heap.size ⟨ini, ps⟩ (fun j => (#[.slice (some ⟨g, 0, none⟩) ini.length ini.length, .slice (some ⟨h, 0, none⟩) ps.length ps.length] : Array Value).getD j undef) ∧ Below w.heap.size w W) := fun W hT => by
    have hZ4 := HZ4.out
    have hs2 := hb2.size
    refine ⟨⟨w1.heap.size, by omega, by rw [hT.size]; omega, ?_, ?_⟩, hT.below (HB4.out.trans (hb2.mono HB4.out.size)) (by omega) (by omega)⟩
    · refine (Lay.int.slice _).sep_more (lo := g) (by omega) (Nat.le_refl _) ((Lay.int.slice _).sep_keep (fun q q1 q2 => (hT.other q (by omega) (by omega)).trans (hb2.block q (by omega))) ((Lay.int.slice _).sep_ext (fun j hj => ?_) HS4.out))
      have : j = 0 := by have : j < 1 := hj; omega
      subst this
      rfl
    · exact (Lay.int.slice _).sep_more (lo := h) (by omega) (by rw [hT.size]; exact Nat.le_refl _) ((Lay.int.slice _).sep_keep (fun q q1 q2 => hT.other q (by omega) (by omega)) (hLd.sep HMn.out (Nat.le_refl _) (cap := ps.length) rfl))
  clear hb2 hRb2 hRc2 hLd hh
  go_wp2_with fail
  refine bodyPost_ret (v := .agg #[.slice (some ⟨g, 0, none⟩) ini.length ini.length, .slice (some ⟨h, 0, none⟩) ps.length ps.length]) (by simp [results, Try.results42, go_sem, p0, p1]) rfl ⟨g, h, rfl, ?_⟩
  exact KEY.out _ ((((Tw.refl _ _ _).sb _ _).sa _ _).sa _ _)

end Tc
end Go.Proofs.Ytldnegacgjijlaa

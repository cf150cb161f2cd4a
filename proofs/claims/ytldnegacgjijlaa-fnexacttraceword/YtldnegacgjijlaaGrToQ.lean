/- The walks of laws.toStateS, laws.toIntSS and laws.toGraph. -/
import Derived.Test.YtldnegacgjijlaaJ03
namespace Go.Proofs.Ytldnegacgjijlaa
open Go.RowKit

theorem put_2 (w : World) (g o : Nat) (d : Nat → Value) : putCells w g o d 2 = ((w.setCell ⟨g, o, none⟩ (d 0)).setCell ⟨g, o + 1, none⟩ (d 1)) := rfl

theorem Try.info136 : (Try.prog.info? 136).map (fun i => (i.zero, i.size, i.bytes)) = some (some (.agg #[.slice none 0 0, .slice none 0 0]), 2, 48) := by kernel_rfl

def ToStSPost (xs : List St) (w : World) (e' : Ending) (w' : World) : Prop :=
  ∃ g : Nat, e' = .returned (.slice (some ⟨g, 0, none⟩) xs.length xs.length) ∧ w.heap.size ≤ g ∧ LaidL Lay.sta 136 w' g xs xs.length ∧ Below w.heap.size w w'

set_option maxHeartbeats 1000000 in
set_option maxRecDepth 100000 in
theorem toStS_any (xs : List St) (A : Option Addr) (cap b off : Nat) (D : Nat → Nat → Value) (w : World) (hd : Lay.sta.szL xs ≤ 1048576)
    (hO : Lay.sta.Opn w w.heap.size xs A b off D) : Calls Try.prog 78 #[.slice A xs.length cap] w (ToStSPost xs w) := by
  have HO := Lib.hid hO
  clear hO
  have hlen : xs.length ≤ 1048576 := by have := Lay.sta.szL_length xs; omega
  have HSz := Lib.hid hd
  clear hd
  obtain ⟨i0, hi0, hz0, hz1, hz2⟩ := info_parts Try.info136
  have hmk := run_make_of (P := Try.prog) 67 136 i0 _ Try.underlying67 hi0 hz0 xs.length (by rw [hz2]; omega) (by omega)
  rw [hz1] at hmk
  clear hi0 hz0 hz1 hz2
  obtain ⟨cs, hcs⟩ : ∃ cs, cs = madeCells (Value.cells (.agg #[.slice none 0 0, .slice none 0 0])) (xs.length * 2) := ⟨_, rfl⟩
  have hsz : cs.size = xs.length * 2 := by rw [hcs, size_madeCells]
  rw [← hcs] at hmk
  have HSZ := Lib.hid hsz
  clear hcs hsz
  go_enter Try.func78, Try.ntmps78
  go_wp2_with fail
  go_loopw [4] (fun i wl => ∃ j : Nat, j ≤ xs.length ∧ i = .int .i64 j ∧ Hid (LaidL Lay.sta 136 wl w.heap.size xs j) ∧ Hid (Below w.heap.size w wl)) (fun i _ => xs.length - (intOf i).toNat)
  case atStart => exact ⟨0, Nat.zero_le _, rfl, LaidL.start HSZ.out, (Below.refl _ _).alloc (Nat.le_refl _) _⟩
  case round =>
    clear hmk
    obtain ⟨j, hj, rfl, HL, HB⟩ := hrel
    by_cases hlt : j < xs.length
    · obtain ⟨x, hx⟩ : ∃ x, xs[j]? = some x := ⟨_, List.getElem?_eq_getElem hlt⟩
      obtain ⟨rfl, hb, gc, gl⟩ := HO.out.below HB.out j x hx
      have g0 : wr.cell? ⟨b, off + j * 2, none⟩ = some (D j 0) := gc 0 (by decide)
      have g1 : wr.cell? ⟨b, off + j * 2 + 1, none⟩ = some (D j 1) := gc 1 (by decide)
      have hdx : Lay.sta.sz x ≤ 1048576 := by have := Lay.sta.szL_mem hx; have := HSz.out; omega
      have HDX := Lib.hid hdx
      have HG := Lib.hid (Lay.sta.more gl HB.out.size)
      have HX := Lib.hid hx
      clear gl hx gc hdx
      go_wp2_with fail
      refine (toSt_any x (D j) _ HG.out HDX.out).mono ?_
      rintro e' w1 ⟨xa, xl, xc, ya, yl, yc, rfl, hs1, hb1⟩
      have HB1 := Lib.hid (HB.out.trans (hb1.mono HB.out.size))
      obtain ⟨hcl, hfz⟩ := (HL.out.under hb1).cells hlt
      obtain ⟨u0, hu0⟩ := hcl 0 (by decide)
      have f0 : w1.cell? ⟨w.heap.size, j * 2, none⟩ = some u0 := hu0
      have z0 : w1.frozen? ⟨w.heap.size, j * 2, none⟩ = false := hfz _
      obtain ⟨u1, hu1⟩ := hcl 1 (by decide)
      have f1 : w1.cell? ⟨w.heap.size, j * 2 + 1, none⟩ = some u1 := hu1
      have z1 : w1.frozen? ⟨w.heap.size, j * 2 + 1, none⟩ = false := hfz _
      have HST : Hid (LaidL Lay.sta 136 ((w1.setCell ⟨w.heap.size, j * 2, none⟩ (.slice xa xl xc)).setCell ⟨w.heap.size, j * 2 + 1, none⟩ (.slice ya yl yc)) w.heap.size xs (j + 1)) := by
        have h := HL.out.step hb1 hlt HX.out hs1
        rw [show Lay.sta.st = 2 from rfl, put_2] at h
        exact h
      have HBP : Hid (Below w.heap.size w ((w1.setCell ⟨w.heap.size, j * 2, none⟩ (.slice xa xl xc)).setCell ⟨w.heap.size, j * 2 + 1, none⟩ (.slice ya yl yc))) := by
        have h := Below.put (o := j * 2) HB1.out (Nat.le_refl _) (fun j => (#[.slice xa xl xc, .slice ya yl yc] : Array Value).getD j undef) 2
        rw [put_2] at h
        exact h
      have hg1 : w.heap.size ≤ w1.heap.size := HB1.out.size
      clear hb1 hs1 HB HL g0 g1 HG hcl hfz hu0 hu1
      go_wp2_with fail
      go_roundw
      case rel => exact ⟨j + 1, by omega, by go_num, HST.out, HBP.out⟩
      case measure => simp [intOf]; omega
    · have hjj : j = xs.length := by omega
      subst hjj
      go_wp2_with fail
      go_ret
      exact ⟨_, rfl, Nat.le_refl _, HL.out, HB.out⟩

theorem put_1 (w : World) (g o : Nat) (d : Nat → Value) : putCells w g o d 1 = (w.setCell ⟨g, o, none⟩ (d 0)) := rfl

theorem Try.info22 : (Try.prog.info? 22).map (fun i => (i.zero, i.size, i.bytes)) = some (some (.slice none 0 0), 1, 24) := by kernel_rfl

def ToIsSPost (xs : List (List Int)) (w : World) (e' : Ending) (w' : World) : Prop :=
  ∃ g : Nat, e' = .returned (.slice (some ⟨g, 0, none⟩) xs.length xs.length) ∧ w.heap.size ≤ g ∧ LaidL Lay.ints 22 w' g xs xs.length ∧ Below w.heap.size w w'

set_option maxHeartbeats 1000000 in
set_option maxRecDepth 100000 in
theorem toIsS_any (xs : List (List Int)) (A : Option Addr) (cap b off : Nat) (D : Nat → Nat → Value) (w : World) (hd : Lay.ints.szL xs ≤ 1048576)
    (hO : Lay.ints.Opn w w.heap.size xs A b off D) : Calls Try.prog 79 #[.slice A xs.length cap] w (ToIsSPost xs w) := by
  have HO := Lib.hid hO
  clear hO
  have hlen : xs.length ≤ 1048576 := by have := Lay.ints.szL_length xs; omega
  have HSz := Lib.hid hd
  clear hd
  obtain ⟨i0, hi0, hz0, hz1, hz2⟩ := info_parts Try.info22
  have hmk := run_make_of (P := Try.prog) 59 22 i0 _ Try.underlying59 hi0 hz0 xs.length (by rw [hz2]; omega) (by omega)
  rw [hz1, Nat.mul_one] at hmk
  clear hi0 hz0 hz1 hz2
  obtain ⟨cs, hcs⟩ : ∃ cs, cs = madeCells (Value.cells (.slice none 0 0)) (xs.length) := ⟨_, rfl⟩
  have hsz : cs.size = xs.length := by rw [hcs, size_madeCells]
  rw [← hcs] at hmk
  have HSZ := Lib.hid hsz
  clear hcs hsz
  go_enter Try.func79, Try.ntmps79
  go_wp2_with fail
  go_loopw [4] (fun i wl => ∃ j : Nat, j ≤ xs.length ∧ i = .int .i64 j ∧ Hid (LaidL Lay.ints 22 wl w.heap.size xs j) ∧ Hid (Below w.heap.size w wl)) (fun i _ => xs.length - (intOf i).toNat)
  case atStart => exact ⟨0, Nat.zero_le _, rfl, LaidL.start (HSZ.out.trans (Nat.mul_one _).symm), (Below.refl _ _).alloc (Nat.le_refl _) _⟩
  case round =>
    clear hmk
    obtain ⟨j, hj, rfl, HL, HB⟩ := hrel
    by_cases hlt : j < xs.length
    · obtain ⟨x, hx⟩ : ∃ x, xs[j]? = some x := ⟨_, List.getElem?_eq_getElem hlt⟩
      obtain ⟨rfl, hb, gc, gl⟩ := HO.out.below HB.out j x hx
      have g0 : wr.cell? ⟨b, off + j, none⟩ = some (D j 0) := by have h := gc 0 (by decide); rw [show Lay.ints.st = 1 from rfl, Nat.mul_one] at h; exact h
      have hdx : Lay.ints.sz x ≤ 1048576 := by have := Lay.ints.szL_mem hx; have := HSz.out; omega
      have HDX := Lib.hid hdx
      have HG := Lib.hid (Lay.ints.more gl HB.out.size)
      have HX := Lib.hid hx
      clear gl hx gc hdx
      go_wp2_with fail
      refine (toIs_any x (D j) _ HG.out HDX.out).mono ?_
      rintro e' w1 ⟨xa, xl, xc, rfl, hs1, hb1⟩
      have HB1 := Lib.hid (HB.out.trans (hb1.mono HB.out.size))
      obtain ⟨hcl, hfz⟩ := (HL.out.under hb1).cells hlt
      obtain ⟨u0, hu0⟩ := hcl 0 (by decide)
      have f0 : w1.cell? ⟨w.heap.size, j, none⟩ = some u0 := by rw [show Lay.ints.st = 1 from rfl, Nat.mul_one] at hu0; exact hu0
      have z0 : w1.frozen? ⟨w.heap.size, j, none⟩ = false := hfz _
      have HST : Hid (LaidL Lay.ints 22 (w1.setCell ⟨w.heap.size, j, none⟩ (.slice xa xl xc)) w.heap.size xs (j + 1)) := by
        have h := HL.out.step hb1 hlt HX.out hs1
        rw [show Lay.ints.st = 1 from rfl, put_1, Nat.mul_one] at h
        exact h
      have HBP : Hid (Below w.heap.size w (w1.setCell ⟨w.heap.size, j, none⟩ (.slice xa xl xc))) := by
        have h := Below.put (o := j) HB1.out (Nat.le_refl _) (fun j => (#[.slice xa xl xc] : Array Value).getD j undef) 1
        rw [put_1] at h
        exact h
      have hg1 : w.heap.size ≤ w1.heap.size := HB1.out.size
      clear hb1 hs1 HB HL g0 HG hcl hfz hu0
      go_wp2_with fail
      go_roundw
      case rel => exact ⟨j + 1, by omega, by go_num, HST.out, HBP.out⟩
      case measure => simp [intOf]; omega
    · have hjj : j = xs.length := by omega
      subst hjj
      go_wp2_with fail
      go_ret
      exact ⟨_, rfl, Nat.le_refl _, HL.out, HB.out⟩

def ToGrPost (s : Gp) (w : World) (e' : Ending) (w' : World) : Prop :=
  ∃ (xa : Option Addr) (xl xc : Nat) (ya : Option Addr) (yl yc : Nat), e' = .returned (.agg #[.slice xa xl xc, .slice ya yl yc]) ∧ Lay.gra.sep w' w.heap.size w'.heap.size s (fun j => (#[.slice xa xl xc, .slice ya yl yc] : Array Value).getD j undef) ∧ Below w.heap.size w w'

set_option maxHeartbeats 1000000 in
set_option maxRecDepth 100000 in
theorem toGr_any (s : Gp) (C : Nat → Value) (w : World) (hL : Lay.gra.lies w w.heap.size s C) (hd : Lay.gra.sz s ≤ 1048576) :
    Calls Try.prog 30 #[.agg #[C 0, C 1]] w (ToGrPost s w) := by
  rw [gra_sz] at hd
  obtain ⟨ini, ps⟩ := s
  obtain ⟨⟨A, cap, b, off, E, e0, hl, hO⟩, B, cbp, c, pff, F, e1, hm, hP⟩ := gra_lies hL
  rw [e0, e1]
  clear e0 e1 hL
  dsimp only at hd
  have HD1 : Hid (Lay.sta.szL ini ≤ 1048576) := by show _ ≤ _; omega
  have HD2 : Hid (Lay.ints.szL ps ≤ 1048576) := by show _ ≤ _; omega
  obtain ⟨W3, hW3⟩ : ∃ W3, W3 = ((w.alloc (.cells #[.slice A ini.length cap, .slice B ps.length cbp] 61)).alloc (.cells #[.slice none 0 0, .slice none 0 0] 69)).alloc (.cells #[.slice none 0 0, .slice none 0 0] 69) := ⟨_, rfl⟩
  have hrows := three_boxes w 61 69 69 #[.slice A ini.length cap, .slice B ps.length cbp] #[.slice none 0 0, .slice none 0 0] #[.slice none 0 0, .slice none 0 0]
  rw [← hW3] at hrows
  obtain ⟨ra, rb, rc, hb0, hz0⟩ := hrows
  have HRa := Lib.hid ra
  have HRb := Lib.hid rb
  have HRc := Lib.hid rc
  have HB0 := Lib.hid hb0
  have HZ0 := Lib.hid hz0
  have HO := Lib.hid (hO.grow hb0 hb0.size)
  have HP0 := Lib.hid hP
  have HLn := Lib.hid hl
  have HMn := Lib.hid hm
  have HW3 := Lib.hid hW3
  clear hO hP hb0 hz0 hW3 ra rb rc hd hl hm
  go_enter Try.func30, Try.ntmps30
  go_wp2_with fail
  rw [← HW3.out]
  refine (toStS_any ini A cap b off E _ HD1.out HO.out).mono ?_
  rintro e' w1 ⟨g, rfl, hg, hLd, hb1⟩
  have hz1 : w.heap.size + 3 ≤ w1.heap.size := by rw [← HZ0.out]; exact hb1.size
  have hRa1 := HRa.out.under hb1 HRa.out.lt
  have hRb1 := HRb.out.under hb1 HRb.out.lt
  have hRc1 := HRc.out.under hb1 HRc.out.lt
  obtain ⟨g0, g1⟩ := hRa1.two
  obtain ⟨c0, c1⟩ := hRc1.two
  have z0 := hRc1.frozen 0
  obtain ⟨W4, hW4⟩ : ∃ W4, W4 = w1.setCell ⟨w.heap.size + 1 + 1, 0, none⟩ (.slice (some ⟨g, 0, none⟩) ini.length ini.length) := ⟨_, rfl⟩
  have hk4 : ∀ q, q ≠ w.heap.size + 1 + 1 → W4.heap[q]? = w1.heap[q]? := fun q hq => by
    rw [hW4, Below.heap_setCell _ _ _ _ (by simpa using hq)]
  have hz4 : W4.heap.size = w1.heap.size := by rw [hW4]; simp
  have hb4 : Below w.heap.size w W4 := by
    rw [hW4]
    exact (HB0.out.trans (hb1.mono HB0.out.size)).setCell (by simp; omega) _
  have HRa4 : Hid (Row W4 w.heap.size 61 #[.slice A ini.length cap, .slice B ps.length cbp]) := (hk4 _ (by omega)).trans hRa1
  have HRb4 : Hid (Row W4 (w.heap.size + 1) 69 #[.slice none 0 0, .slice none 0 0]) := (hk4 _ (by omega)).trans hRb1
  have HRc4 : Hid (Row W4 (w.heap.size + 1 + 1) 69 #[.slice (some ⟨g, 0, none⟩) ini.length ini.length, .slice none 0 0]) := by rw [hW4]; exact hRc1.set_ 0 _
  have HS4 : Hid ((Lay.sta.slice 136).sep W4 g w1.heap.size ini (fun _ => .slice (some ⟨g, 0, none⟩) ini.length ini.length)) :=
    (Lay.sta.slice _).sep_keep (fun q q1 q2 => hk4 q (by have := HZ0.out; omega)) (hLd.sep HLn.out rfl)
  have HP4 := Lib.hid (HP0.out.grow hb4 hb4.size)
  have HB4 := Lib.hid hb4
  have HZ4 := Lib.hid hz4
  have HW4 := Lib.hid hW4
  have hg3 : w.heap.size + 3 ≤ g := by rw [← HZ0.out]; exact hg
  clear hb1 hRa1 hRb1 hRc1 hLd hg hk4 hz4 hb4 hW4 g0
  go_wp2_with fail
  rw [← HW4.out]
  refine (toIsS_any ps B cbp c pff F _ HD2.out HP4.out).mono ?_
  rintro e' w2 ⟨h, rfl, hh, hLd, hb2⟩
  have hRb2 := HRb4.out.under hb2 HRb4.out.lt
  have hRc2 := HRc4.out.under hb2 HRc4.out.lt
  clear g1 c0 c1 z0
  obtain ⟨p0, p1⟩ := hRb2.two
  obtain ⟨c0, c1⟩ := hRc2.two
  have z1 := hRc2.frozen 1
  have y0' := hRb2.frozen 0
  have y1' := hRb2.frozen 1
  have KEY : Hid (∀ W, Tw (w.heap.size + 1) (w.heap.size + 1 + 1) w2 W → Lay.gra.sep W w.heap.size W.heap.size ⟨ini, ps⟩ (fun j => (#[.slice (some ⟨g, 0, none⟩) ini.length ini.length, .slice (some ⟨h, 0, none⟩) ps.length ps.length] : Array Value).getD j undef) ∧ Below w.heap.size w W) := fun W hT => by
    have hZ4 := HZ4.out
    have hs2 := hb2.size
    refine ⟨⟨w1.heap.size, by omega, by rw [hT.size]; omega, ?_, ?_⟩, hT.below (HB4.out.trans (hb2.mono HB4.out.size)) (by omega) (by omega)⟩
    · refine (Lay.sta.slice _).sep_more (lo := g) (by omega) (Nat.le_refl _) ((Lay.sta.slice _).sep_keep (fun q q1 q2 => (hT.other q (by omega) (by omega)).trans (hb2.block q (by omega))) ((Lay.sta.slice _).sep_ext (fun j hj => ?_) HS4.out))
      have : j = 0 := by have : j < 1 := hj; omega
      subst this
      rfl
    · exact (Lay.ints.slice _).sep_more (lo := h) (by omega) (by rw [hT.size]; exact Nat.le_refl _) ((Lay.ints.slice _).sep_keep (fun q q1 q2 => hT.other q (by omega) (by omega)) (hLd.sep HMn.out (cap := ps.length) rfl))
  clear hb2 hRb2 hRc2 hLd hh
  go_wp2_with fail
  refine bodyPost_ret (v := .agg #[.slice (some ⟨g, 0, none⟩) ini.length ini.length, .slice (some ⟨h, 0, none⟩) ps.length ps.length]) (by simp [results, Try.results30, go_sem, p0, p1]) rfl ⟨some ⟨g, 0, none⟩, ini.length, ini.length, some ⟨h, 0, none⟩, ps.length, ps.length, rfl, ?_⟩
  exact KEY.out _ ((((Tw.refl _ _ _).sb _ _).sa _ _).sa _ _)


end Go.Proofs.Ytldnegacgjijlaa

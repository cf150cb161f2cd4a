/- The copies of slices of edges, of processes and systems (ToEd, ToPr, ToSy in one). -/
import Derived.Test.YtcipnecdeipeaaaDoorEd2Q
import Derived.Test.YtcipnecdeipeaaaDoorJ03
namespace Go.Proofs.YtcipnecdeipeaaaDoor
open Go.RowKit

theorem put_10 (w : World) (g o : Nat) (d : Nat → Value) : putCells w g o d 10 = ((((((((((w.setCell ⟨g, o, none⟩ (d 0)).setCell ⟨g, o + 1, none⟩ (d 1)).setCell ⟨g, o + 2, none⟩ (d 2)).setCell ⟨g, o + 3, none⟩ (d 3)).setCell ⟨g, o + 4, none⟩ (d 4)).setCell ⟨g, o + 5, none⟩ (d 5)).setCell ⟨g, o + 6, none⟩ (d 6)).setCell ⟨g, o + 7, none⟩ (d 7)).setCell ⟨g, o + 8, none⟩ (d 8)).setCell ⟨g, o + 9, none⟩ (d 9)) := rfl

theorem Tryd.info46 : (Tryd.prog.info? 46).map (fun i => (i.zero, i.size, i.bytes)) = some (some (.agg #[.int .i64 0, .int .i64 0, .int .i64 0, .int .i64 0, .slice none 0 0, .int .i64 0, .int .i64 0, .int .i64 0, .slice none 0 0, .int .i64 0]), 10, 112) := by kernel_rfl

def ToEdSPost (xs : List Ed) (w : World) (e' : Ending) (w' : World) : Prop :=
  ∃ g : Nat, e' = .returned (.slice (some ⟨g, 0, none⟩) xs.length xs.length) ∧ w.heap.size ≤ g ∧ LaidL Lay.ed 46 w' g xs xs.length ∧ Below w.heap.size w w'

set_option maxHeartbeats 1000000 in
set_option maxRecDepth 100000 in
theorem toEdS_any (xs : List Ed) (A : Option Addr) (cap b off : Nat) (D : Nat → Nat → Value) (w : World) (hd : Lay.ed.szL xs ≤ 1048576)
    (hO : Lay.ed.Opn w w.heap.size xs A b off D) : Calls Tryd.prog 35 #[.slice A xs.length cap] w (ToEdSPost xs w) := by
  have HO := Lib.hid hO
  clear hO
  have hlen : xs.length ≤ 1048576 := by have := Lay.ed.szL_length xs; omega
  have HSz := Lib.hid hd
  clear hd
  obtain ⟨i0, hi0, hz0, hz1, hz2⟩ := info_parts Tryd.info46
  have hmk := run_make_of (P := Tryd.prog) 38 46 i0 _ Tryd.underlying38 hi0 hz0 xs.length (by rw [hz2]; omega) (by omega)
  rw [hz1] at hmk
  clear hi0 hz0 hz1 hz2
  obtain ⟨cs, hcs⟩ : ∃ cs, cs = madeCells (Value.cells (.agg #[.int .i64 0, .int .i64 0, .int .i64 0, .int .i64 0, .slice none 0 0, .int .i64 0, .int .i64 0, .int .i64 0, .slice none 0 0, .int .i64 0])) (xs.length * 10) := ⟨_, rfl⟩
  have hsz : cs.size = xs.length * 10 := by rw [hcs, size_madeCells]
  rw [← hcs] at hmk
  have HSZ := Lib.hid hsz
  clear hcs hsz
  go_enter Tryd.func35, Tryd.ntmps35
  go_wp2_with fail
  go_loopw [4] (fun i wl => ∃ j : Nat, j ≤ xs.length ∧ i = .int .i64 j ∧ Hid (LaidL Lay.ed 46 wl w.heap.size xs j) ∧ Hid (Below w.heap.size w wl)) (fun i _ => xs.length - (intOf i).toNat)
  case atStart => exact ⟨0, Nat.zero_le _, rfl, LaidL.start HSZ.out, (Below.refl _ _).alloc (Nat.le_refl _) _⟩
  case round =>
    clear hmk
    obtain ⟨j, hj, rfl, HL, HB⟩ := hrel
    by_cases hlt : j < xs.length
    · obtain ⟨x, hx⟩ : ∃ x, xs[j]? = some x := ⟨_, List.getElem?_eq_getElem hlt⟩
      obtain ⟨rfl, hb, gc, gl⟩ := HO.out.below HB.out j x hx
      have g0 : wr.cell? ⟨b, off + j * 10, none⟩ = some (D j 0) := gc 0 (by decide)
      have g1 : wr.cell? ⟨b, off + j * 10 + 1, none⟩ = some (D j 1) := gc 1 (by decide)
      have g2 : wr.cell? ⟨b, off + j * 10 + 2, none⟩ = some (D j 2) := gc 2 (by decide)
      have g3 : wr.cell? ⟨b, off + j * 10 + 3, none⟩ = some (D j 3) := gc 3 (by decide)
      have g4 : wr.cell? ⟨b, off + j * 10 + 4, none⟩ = some (D j 4) := gc 4 (by decide)
      have g5 : wr.cell? ⟨b, off + j * 10 + 5, none⟩ = some (D j 5) := gc 5 (by decide)
      have g6 : wr.cell? ⟨b, off + j * 10 + 6, none⟩ = some (D j 6) := gc 6 (by decide)
      have g7 : wr.cell? ⟨b, off + j * 10 + 7, none⟩ = some (D j 7) := gc 7 (by decide)
      have g8 : wr.cell? ⟨b, off + j * 10 + 8, none⟩ = some (D j 8) := gc 8 (by decide)
      have g9 : wr.cell? ⟨b, off + j * 10 + 9, none⟩ = some (D j 9) := gc 9 (by decide)
      have hdx : Lay.ed.sz x ≤ 1048576 := by have := Lay.ed.szL_mem hx; have := HSz.out; omega
      have HDX := Lib.hid hdx
      have HG := Lib.hid (Lay.ed.more gl HB.out.size)
      have HX := Lib.hid hx
      clear gl hx gc hdx
      go_wp2_with fail
      refine (toEd_any x (D j) _ HG.out HDX.out).mono ?_
      rintro e' w1 ⟨x0, x1, xa, xl, xc, y0, y1, ya, yl, yc, rfl, hs1, hb1⟩
      have HB1 := Lib.hid (HB.out.trans (hb1.mono HB.out.size))
      obtain ⟨hcl, hfz⟩ := (HL.out.under hb1).cells hlt
      obtain ⟨u0, hu0⟩ := hcl 0 (by decide)
      have f0 : w1.cell? ⟨w.heap.size, j * 10, none⟩ = some u0 := hu0
      have z0 : w1.frozen? ⟨w.heap.size, j * 10, none⟩ = false := hfz _
      obtain ⟨u1, hu1⟩ := hcl 1 (by decide)
      have f1 : w1.cell? ⟨w.heap.size, j * 10 + 1, none⟩ = some u1 := hu1
      have z1 : w1.frozen? ⟨w.heap.size, j * 10 + 1, none⟩ = false := hfz _
      obtain ⟨u2, hu2⟩ := hcl 2 (by decide)
      have f2 : w1.cell? ⟨w.heap.size, j * 10 + 2, none⟩ = some u2 := hu2
      have z2 : w1.frozen? ⟨w.heap.size, j * 10 + 2, none⟩ = false := hfz _
      obtain ⟨u3, hu3⟩ := hcl 3 (by decide)
      have f3 : w1.cell? ⟨w.heap.size, j * 10 + 3, none⟩ = some u3 := hu3
      have z3 : w1.frozen? ⟨w.heap.size, j * 10 + 3, none⟩ = false := hfz _
      obtain ⟨u4, hu4⟩ := hcl 4 (by decide)
      have f4 : w1.cell? ⟨w.heap.size, j * 10 + 4, none⟩ = some u4 := hu4
      have z4 : w1.frozen? ⟨w.heap.size, j * 10 + 4, none⟩ = false := hfz _
      obtain ⟨u5, hu5⟩ := hcl 5 (by decide)
      have f5 : w1.cell? ⟨w.heap.size, j * 10 + 5, none⟩ = some u5 := hu5
      have z5 : w1.frozen? ⟨w.heap.size, j * 10 + 5, none⟩ = false := hfz _
      obtain ⟨u6, hu6⟩ := hcl 6 (by decide)
      have f6 : w1.cell? ⟨w.heap.size, j * 10 + 6, none⟩ = some u6 := hu6
      have z6 : w1.frozen? ⟨w.heap.size, j * 10 + 6, none⟩ = false := hfz _
      obtain ⟨u7, hu7⟩ := hcl 7 (by decide)
      have f7 : w1.cell? ⟨w.heap.size, j * 10 + 7, none⟩ = some u7 := hu7
      have z7 : w1.frozen? ⟨w.heap.size, j * 10 + 7, none⟩ = false := hfz _
      obtain ⟨u8, hu8⟩ := hcl 8 (by decide)
      have f8 : w1.cell? ⟨w.heap.size, j * 10 + 8, none⟩ = some u8 := hu8
      have z8 : w1.frozen? ⟨w.heap.size, j * 10 + 8, none⟩ = false := hfz _
      obtain ⟨u9, hu9⟩ := hcl 9 (by decide)
      have f9 : w1.cell? ⟨w.heap.size, j * 10 + 9, none⟩ = some u9 := hu9
      have z9 : w1.frozen? ⟨w.heap.size, j * 10 + 9, none⟩ = false := hfz _
      have HST : Hid (LaidL Lay.ed 46 ((((((((((w1.setCell ⟨w.heap.size, j * 10, none⟩ (.int .i64 x.fr)).setCell ⟨w.heap.size, j * 10 + 1, none⟩ (.int .i64 x.to)).setCell ⟨w.heap.size, j * 10 + 2, none⟩ (.int .i64 x0)).setCell ⟨w.heap.size, j * 10 + 3, none⟩ (.int .i64 x1)).setCell ⟨w.heap.size, j * 10 + 4, none⟩ (.slice xa xl xc)).setCell ⟨w.heap.size, j * 10 + 5, none⟩ (.int .i64 x.vr)).setCell ⟨w.heap.size, j * 10 + 6, none⟩ (.int .i64 y0)).setCell ⟨w.heap.size, j * 10 + 7, none⟩ (.int .i64 y1)).setCell ⟨w.heap.size, j * 10 + 8, none⟩ (.slice ya yl yc)).setCell ⟨w.heap.size, j * 10 + 9, none⟩ (.int .i64 x.sy)) w.heap.size xs (j + 1)) := by
        have h := HL.out.step hb1 hlt HX.out hs1
        rw [show Lay.ed.st = 10 from rfl, put_10] at h
        exact h
      have HBP : Hid (Below w.heap.size w ((((((((((w1.setCell ⟨w.heap.size, j * 10, none⟩ (.int .i64 x.fr)).setCell ⟨w.heap.size, j * 10 + 1, none⟩ (.int .i64 x.to)).setCell ⟨w.heap.size, j * 10 + 2, none⟩ (.int .i64 x0)).setCell ⟨w.heap.size, j * 10 + 3, none⟩ (.int .i64 x1)).setCell ⟨w.heap.size, j * 10 + 4, none⟩ (.slice xa xl xc)).setCell ⟨w.heap.size, j * 10 + 5, none⟩ (.int .i64 x.vr)).setCell ⟨w.heap.size, j * 10 + 6, none⟩ (.int .i64 y0)).setCell ⟨w.heap.size, j * 10 + 7, none⟩ (.int .i64 y1)).setCell ⟨w.heap.size, j * 10 + 8, none⟩ (.slice ya yl yc)).setCell ⟨w.heap.size, j * 10 + 9, none⟩ (.int .i64 x.sy))) := by
        have h := Below.put (o := j * 10) HB1.out (Nat.le_refl _) (fun j => (#[.int .i64 x.fr, .int .i64 x.to, .int .i64 x0, .int .i64 x1, .slice xa xl xc, .int .i64 x.vr, .int .i64 y0, .int .i64 y1, .slice ya yl yc, .int .i64 x.sy] : Array Value).getD j undef) 10
        rw [put_10] at h
        exact h
      have hg1 : w.heap.size ≤ w1.heap.size := HB1.out.size
      clear hb1 hs1 HB HL g0 g1 g2 g3 g4 g5 g6 g7 g8 g9 HG hcl hfz hu0 hu1 hu2 hu3 hu4 hu5 hu6 hu7 hu8 hu9
      go_wp2_with fail
      go_roundw
      case rel => exact ⟨j + 1, by omega, by go_num, HST.out, HBP.out⟩
      case measure => simp [intOf]; omega
    · have hjj : j = xs.length := by omega
      subst hjj
      go_wp2_with fail
      go_ret
      exact ⟨_, rfl, Nat.le_refl _, HL.out, HB.out⟩


def ToPrPost (p : Pr) (w : World) (e' : Ending) (w' : World) : Prop :=
  ∃ (xa : Option Addr) (xl xc : Nat), e' = .returned (.agg #[.int .i64 p.loc, .slice xa xl xc]) ∧ Lay.pr.sep w' w.heap.size w'.heap.size p (fun j => (#[.int .i64 p.loc, .slice xa xl xc] : Array Value).getD j undef) ∧ Below w.heap.size w w'

set_option maxHeartbeats 1000000 in
set_option maxRecDepth 100000 in
theorem toPr_any (p : Pr) (C : Nat → Value) (w : World) (hL : Lay.pr.lies w w.heap.size p C) (hd : Lay.pr.sz p ≤ 1048576) :
    Calls Tryd.prog 26 #[.agg #[C 0, C 1]] w (ToPrPost p w) := by
  rw [pr_sz] at hd
  obtain ⟨loc, es⟩ := p
  obtain ⟨e0, A, cap, b, off, D, e1, hl, hO⟩ := pr_lies hL
  rw [e0, e1]
  clear e0 e1 hL
  obtain ⟨W3, hW3⟩ : ∃ W3, W3 = ((w.alloc (.cells #[.int .i64 loc, .slice A es.length cap] 61)).alloc (.cells #[.int .i64 0, .slice none 0 0] 40)).alloc (.cells #[.int .i64 loc, .slice none 0 0] 40) := ⟨_, rfl⟩
  have hrows := three_boxes w 61 40 40 #[.int .i64 loc, .slice A es.length cap] #[.int .i64 0, .slice none 0 0] #[.int .i64 loc, .slice none 0 0]
  rw [← hW3] at hrows
  obtain ⟨ra, rb, rc, hb0, hz0⟩ := hrows
  have HRb := Lib.hid rb
  have HRc := Lib.hid rc
  have HB0 := Lib.hid hb0
  have HZ0 := Lib.hid hz0
  have HO := Lib.hid (hO.grow hb0 hb0.size)
  have HLn := Lib.hid hl
  have HD := Lib.hid hd
  have HW3 := Lib.hid hW3
  clear hO hb0 hz0 hW3 ra rb rc hd hl
  go_enter Tryd.func26, Tryd.ntmps26
  go_wp2_with fail
  rw [← HW3.out]
  refine (toEdS_any es A cap b off D _ HD.out HO.out).mono ?_
  rintro e' w1 ⟨g, rfl, hg, hLd, hb1⟩
  have hz1 : w.heap.size + 3 ≤ w1.heap.size := by rw [← HZ0.out]; exact hb1.size
  have hRb1 := HRb.out.under hb1 HRb.out.lt
  have hRc1 := HRc.out.under hb1 HRc.out.lt
  obtain ⟨p0, p1⟩ := hRb1.two
  obtain ⟨c0, c1⟩ := hRc1.two
  have z1 := hRc1.frozen 1
  have y0' := hRb1.frozen 0
  have y1' := hRb1.frozen 1
  have KEY : Hid (∀ W, Tw (w.heap.size + 1) (w.heap.size + 1 + 1) w1 W → Lay.pr.sep W w.heap.size W.heap.size ⟨loc, es⟩ (fun j => (#[.int .i64 loc, .slice (some ⟨g, 0, none⟩) es.length es.length] : Array Value).getD j undef) ∧ Below w.heap.size w W) := fun W hT => by
    have hZ0 := HZ0.out
    refine ⟨⟨w.heap.size, Nat.le_refl _, by rw [hT.size]; omega, rfl, ?_⟩, hT.below (HB0.out.trans (hb1.mono HB0.out.size)) (by omega) (by omega)⟩
    refine (Lay.ed.slice _).sep_more (lo := g) (by omega) (by rw [hT.size]; exact Nat.le_refl _) ((Lay.ed.slice _).sep_keep (fun q q1 q2 => hT.other q (by omega) (by omega)) (hLd.sep HLn.out (cap := es.length) rfl))
  clear hb1 hRb1 hRc1 hLd hg
  go_wp2_with fail
  refine bodyPost_ret (v := .agg #[.int .i64 loc, .slice (some ⟨g, 0, none⟩) es.length es.length]) (by simp [results, Tryd.results26, go_sem, p0, p1]) rfl ⟨some ⟨g, 0, none⟩, es.length, es.length, rfl, ?_⟩
  exact KEY.out _ ((((Tw.refl _ _ _).sb _ _).sa _ _).sa _ _)

theorem put_2 (w : World) (g o : Nat) (d : Nat → Value) : putCells w g o d 2 = ((w.setCell ⟨g, o, none⟩ (d 0)).setCell ⟨g, o + 1, none⟩ (d 1)) := rfl

theorem Tryd.info40 : (Tryd.prog.info? 40).map (fun i => (i.zero, i.size, i.bytes)) = some (some (.agg #[.int .i64 0, .slice none 0 0]), 2, 32) := by kernel_rfl

def ToPrSPost (xs : List Pr) (w : World) (e' : Ending) (w' : World) : Prop :=
  ∃ g : Nat, e' = .returned (.slice (some ⟨g, 0, none⟩) xs.length xs.length) ∧ w.heap.size ≤ g ∧ LaidL Lay.pr 40 w' g xs xs.length ∧ Below w.heap.size w w'

set_option maxHeartbeats 1000000 in
set_option maxRecDepth 100000 in
theorem toPrS_any (xs : List Pr) (A : Option Addr) (cap b off : Nat) (D : Nat → Nat → Value) (w : World) (hd : Lay.pr.szL xs ≤ 1048576)
    (hO : Lay.pr.Opn w w.heap.size xs A b off D) : Calls Tryd.prog 15 #[.slice A xs.length cap] w (ToPrSPost xs w) := by
  have HO := Lib.hid hO
  clear hO
  have hlen : xs.length ≤ 1048576 := by have := Lay.pr.szL_length xs; omega
  have HSz := Lib.hid hd
  clear hd
  obtain ⟨i0, hi0, hz0, hz1, hz2⟩ := info_parts Tryd.info40
  have hmk := run_make_of (P := Tryd.prog) 28 40 i0 _ Tryd.underlying28 hi0 hz0 xs.length (by rw [hz2]; omega) (by omega)
  rw [hz1] at hmk
  clear hi0 hz0 hz1 hz2
  obtain ⟨cs, hcs⟩ : ∃ cs, cs = madeCells (Value.cells (.agg #[.int .i64 0, .slice none 0 0])) (xs.length * 2) := ⟨_, rfl⟩
  have hsz : cs.size = xs.length * 2 := by rw [hcs, size_madeCells]
  rw [← hcs] at hmk
  have HSZ := Lib.hid hsz
  clear hcs hsz
  go_enter Tryd.func15, Tryd.ntmps15
  go_wp2_with fail
  go_loopw [4] (fun i wl => ∃ j : Nat, j ≤ xs.length ∧ i = .int .i64 j ∧ Hid (LaidL Lay.pr 40 wl w.heap.size xs j) ∧ Hid (Below w.heap.size w wl)) (fun i _ => xs.length - (intOf i).toNat)
  case atStart => exact ⟨0, Nat.zero_le _, rfl, LaidL.start HSZ.out, (Below.refl _ _).alloc (Nat.le_refl _) _⟩
  case round =>
    clear hmk
    obtain ⟨j, hj, rfl, HL, HB⟩ := hrel
    by_cases hlt : j < xs.length
    · obtain ⟨x, hx⟩ : ∃ x, xs[j]? = some x := ⟨_, List.getElem?_eq_getElem hlt⟩
      obtain ⟨rfl, hb, gc, gl⟩ := HO.out.below HB.out j x hx
      have g0 : wr.cell? ⟨b, off + j * 2, none⟩ = some (D j 0) := gc 0 (by decide)
      have g1 : wr.cell? ⟨b, off + j * 2 + 1, none⟩ = some (D j 1) := gc 1 (by decide)
      have hdx : Lay.pr.sz x ≤ 1048576 := by have := Lay.pr.szL_mem hx; have := HSz.out; omega
      have HDX := Lib.hid hdx
      have HG := Lib.hid (Lay.pr.more gl HB.out.size)
      have HX := Lib.hid hx
      clear gl hx gc hdx
      go_wp2_with fail
      refine (toPr_any x (D j) _ HG.out HDX.out).mono ?_
      rintro e' w1 ⟨xa, xl, xc, rfl, hs1, hb1⟩
      have HB1 := Lib.hid (HB.out.trans (hb1.mono HB.out.size))
      obtain ⟨hcl, hfz⟩ := (HL.out.under hb1).cells hlt
      obtain ⟨u0, hu0⟩ := hcl 0 (by decide)
      have f0 : w1.cell? ⟨w.heap.size, j * 2, none⟩ = some u0 := hu0
      have z0 : w1.frozen? ⟨w.heap.size, j * 2, none⟩ = false := hfz _
      obtain ⟨u1, hu1⟩ := hcl 1 (by decide)
      have f1 : w1.cell? ⟨w.heap.size, j * 2 + 1, none⟩ = some u1 := hu1
      have z1 : w1.frozen? ⟨w.heap.size, j * 2 + 1, none⟩ = false := hfz _
      have HST : Hid (LaidL Lay.pr 40 ((w1.setCell ⟨w.heap.size, j * 2, none⟩ (.int .i64 x.loc)).setCell ⟨w.heap.size, j * 2 + 1, none⟩ (.slice xa xl xc)) w.heap.size xs (j + 1)) := by
        have h := HL.out.step hb1 hlt HX.out hs1
        rw [show Lay.pr.st = 2 from rfl, put_2] at h
        exact h
      have HBP : Hid (Below w.heap.size w ((w1.setCell ⟨w.heap.size, j * 2, none⟩ (.int .i64 x.loc)).setCell ⟨w.heap.size, j * 2 + 1, none⟩ (.slice xa xl xc))) := by
        have h := Below.put (o := j * 2) HB1.out (Nat.le_refl _) (fun j => (#[.int .i64 x.loc, .slice xa xl xc] : Array Value).getD j undef) 2
        rw [put_2] at h
        exact h
      have hg1 : w.heap.size ≤ w1.heap.size := HB1.out.size
      clear hb1 hs1 HB HL g0 g1 HG hcl hfz hu0 hu1
      go_wp2_with fail
      go_roundw
      case rel => exact ⟨j + 1, by omega, by go_num, HST.out, HBP.out⟩
      case measure => simp [intOf]; omega
    · have hjj : j = xs.length := by omega
      subst hjj
      go_wp2_with fail
      go_ret
      exact ⟨_, rfl, Nat.le_refl _, HL.out, HB.out⟩


def ToSyPost (s : Sy) (w : World) (e' : Ending) (w' : World) : Prop :=
  ∃ (xa : Option Addr) (xl xc : Nat) (ya : Option Addr) (yl yc : Nat), e' = .returned (.agg #[.slice xa xl xc, .slice ya yl yc]) ∧ Lay.sy.sep w' w.heap.size w'.heap.size s (fun j => (#[.slice xa xl xc, .slice ya yl yc] : Array Value).getD j undef) ∧ Below w.heap.size w w'

set_option maxHeartbeats 1000000 in
set_option maxRecDepth 100000 in
theorem toSy_any (s : Sy) (C : Nat → Value) (w : World) (hL : Lay.sy.lies w w.heap.size s C) (hd : Lay.sy.sz s ≤ 1048576) :
    Calls Tryd.prog 6 #[.agg #[C 0, C 1]] w (ToSyPost s w) := by
  rw [sy_sz, int_szL] at hd
  obtain ⟨ini, ps⟩ := s
  obtain ⟨⟨A, cap, b, off, E, e0, hl, hO⟩, B, cbp, c, pff, F, e1, hm, hP⟩ := sy_lies hL
  rw [e0, e1]
  clear e0 e1 hL
  dsimp only at hd
  have HD1 : Hid (ini.length ≤ 1048576) := by show _ ≤ _; omega
  have HD2 : Hid (Lay.pr.szL ps ≤ 1048576) := by show _ ≤ _; omega
  obtain ⟨W3, hW3⟩ : ∃ W3, W3 = ((w.alloc (.cells #[.slice A ini.length cap, .slice B ps.length cbp] 25)).alloc (.cells #[.slice none 0 0, .slice none 0 0] 30)).alloc (.cells #[.slice none 0 0, .slice none 0 0] 30) := ⟨_, rfl⟩
  have hrows := three_boxes w 25 30 30 #[.slice A ini.length cap, .slice B ps.length cbp] #[.slice none 0 0, .slice none 0 0] #[.slice none 0 0, .slice none 0 0]
  rw [← hW3] at hrows
  obtain ⟨ra, rb, rc, hb0, hz0⟩ := hrows
  have HRa := Lib.hid ra
  have HRb := Lib.hid rb
  have HRc := Lib.hid rc
  have HB0 := Lib.hid hb0
  have HZ0 := Lib.hid hz0
  have HO := Lib.hid (ints_of (hO.grow hb0 hb0.size))
  have HP0 := Lib.hid hP
  have HLn := Lib.hid hl
  have HMn := Lib.hid hm
  have HW3 := Lib.hid hW3
  clear hO hP hb0 hz0 hW3 ra rb rc hd hl hm
  go_enter Tryd.func6, Tryd.ntmps6
  go_wp2_with fail
  rw [← HW3.out]
  refine (toInts_any ini A cap b off _ HD1.out HO.out).mono ?_
  rintro e' w1 ⟨g, rfl, hg, hLd, hb1⟩
  have hz1 : w.heap.size + 3 ≤ w1.heap.size := by rw [← HZ0.out]; exact hb1.size
  have hRa1 := HRa.out.under hb1 HRa.out.lt
  have hRb1 := HRb.out.under hb1 HRb.out.lt
  have hRc1 := HRc.out.under hb1 HRc.out.lt
  obtain ⟨g0, g1⟩ := hRa1.two
  obtain ⟨c0, c1⟩ := hRc1.two
  have z0 := hRc1.frozen 0
  obtain ⟨W4, hW4⟩ : ∃ W4, W4 = w1.setCell ⟨w.heap.size + 1 + 1, 0, none⟩ (.slice (some ⟨g, 0, none⟩) ini.length ini.length) := ⟨_, rfl⟩
  have hk4 : ∀ q, q ≠ w.heap.size + 1 + 1 → W4.heap[q]? = w1.heap[q]? := fun q hq => by
    rw [hW4, Below.heap_setCell _ _ _ _ (by simpa using hq)]
  have hz4 : W4.heap.size = w1.heap.size := by rw [hW4]; simp
  have hb4 : Below w.heap.size w W4 := by
    rw [hW4]
    exact (HB0.out.trans (hb1.mono HB0.out.size)).setCell (by simp; omega) _
  have HRa4 : Hid (Row W4 w.heap.size 25 #[.slice A ini.length cap, .slice B ps.length cbp]) := (hk4 _ (by omega)).trans hRa1
  have HRb4 : Hid (Row W4 (w.heap.size + 1) 30 #[.slice none 0 0, .slice none 0 0]) := (hk4 _ (by omega)).trans hRb1
  have HRc4 : Hid (Row W4 (w.heap.size + 1 + 1) 30 #[.slice (some ⟨g, 0, none⟩) ini.length ini.length, .slice none 0 0]) := by rw [hW4]; exact hRc1.set_ 0 _
  have HS4 : Hid ((Lay.int.slice 3).sep W4 g w1.heap.size ini (fun _ => .slice (some ⟨g, 0, none⟩) ini.length ini.length)) :=
    (Lay.int.slice _).sep_keep (fun q q1 q2 => hk4 q (by have := HZ0.out; omega)) (hLd.sep HLn.out (Nat.le_refl _) rfl)
  have HP4 := Lib.hid (HP0.out.grow hb4 hb4.size)
  have HB4 := Lib.hid hb4
  have HZ4 := Lib.hid hz4
  have HW4 := Lib.hid hW4
  have hg3 : w.heap.size + 3 ≤ g := by rw [← HZ0.out]; exact hg
  clear hb1 hRa1 hRb1 hRc1 hLd hg hk4 hz4 hb4 hW4 g0
  go_wp2_with fail
  rw [← HW4.out]
  refine (toPrS_any ps B cbp c pff F _ HD2.out HP4.out).mono ?_
  rintro e' w2 ⟨h, rfl, hh, hLd, hb2⟩
  have hRb2 := HRb4.out.under hb2 HRb4.out.lt
  have hRc2 := HRc4.out.under hb2 HRc4.out.lt
  clear g1 c0 c1 z0
  obtain ⟨p0, p1⟩ := hRb2.two
  obtain ⟨c0, c1⟩ := hRc2.two
  have z1 := hRc2.frozen 1
  have y0' := hRb2.frozen 0
  have y1' := hRb2.frozen 1
  have KEY : Hid (∀ W, Tw (w.heap.size + 1) (w.heap.size + 1 + 1) w2 W → Lay.sy.sep W w.heap.size W.heap.size ⟨ini, ps⟩ (fun j => (#[.slice (some ⟨g, 0, none⟩) ini.length ini.length, .slice (some ⟨h, 0, none⟩) ps.length ps.length] : Array Value).getD j undef) ∧ Below w.heap.size w W) := fun W hT => by
    have hZ4 := HZ4.out
    have hs2 := hb2.size
    refine ⟨⟨w1.heap.size, by omega, by rw [hT.size]; omega, ?_, ?_⟩, hT.below (HB4.out.trans (hb2.mono HB4.out.size)) (by omega) (by omega)⟩
    · refine (Lay.int.slice _).sep_more (lo := g) (by omega) (Nat.le_refl _) ((Lay.int.slice _).sep_keep (fun q q1 q2 => (hT.other q (by omega) (by omega)).trans (hb2.block q (by omega))) ((Lay.int.slice _).sep_ext (fun j hj => ?_) HS4.out))
      have : j = 0 := by have : j < 1 := hj; omega
      subst this
      rfl
    · exact (Lay.pr.slice _).sep_more (lo := h) (by omega) (by rw [hT.size]; exact Nat.le_refl _) ((Lay.pr.slice _).sep_keep (fun q q1 q2 => hT.other q (by omega) (by omega)) (hLd.sep HMn.out (cap := ps.length) rfl))
  clear hb2 hRb2 hRc2 hLd hh
  go_wp2_with fail
  refine bodyPost_ret (v := .agg #[.slice (some ⟨g, 0, none⟩) ini.length ini.length, .slice (some ⟨h, 0, none⟩) ps.length ps.length]) (by simp [results, Tryd.results6, go_sem, p0, p1]) rfl ⟨some ⟨g, 0, none⟩, ini.length, ini.length, some ⟨h, 0, none⟩, ps.length, ps.length, rfl, ?_⟩
  exact KEY.out _ ((((Tw.refl _ _ _).sb _ _).sa _ _).sa _ _)

end Go.Proofs.YtcipnecdeipeaaaDoor

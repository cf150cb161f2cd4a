/- The walk of laws.toEdgeS. -/
import Derived.Test.YtcaffghfejneaaaEd2
namespace Go.Proofs.Ytcaffghfejneaaa
open Go.RowKit

theorem put_10 (w : World) (g o : Nat) (d : Nat → Value) : putCells w g o d 10 = ((((((((((w.setCell ⟨g, o, none⟩ (d 0)).setCell ⟨g, o + 1, none⟩ (d 1)).setCell ⟨g, o + 2, none⟩ (d 2)).setCell ⟨g, o + 3, none⟩ (d 3)).setCell ⟨g, o + 4, none⟩ (d 4)).setCell ⟨g, o + 5, none⟩ (d 5)).setCell ⟨g, o + 6, none⟩ (d 6)).setCell ⟨g, o + 7, none⟩ (d 7)).setCell ⟨g, o + 8, none⟩ (d 8)).setCell ⟨g, o + 9, none⟩ (d 9)) := rfl

theorem Try.info33 : (Try.prog.info? 33).map (fun i => (i.zero, i.size, i.bytes)) = some (some (.agg #[.int .i64 0, .int .i64 0, .int .i64 0, .int .i64 0, .slice none 0 0, .int .i64 0, .int .i64 0, .int .i64 0, .slice none 0 0, .int .i64 0]), 10, 112) := by kernel_rfl

def ToEdSPost (xs : List Ed) (w : World) (e' : Ending) (w' : World) : Prop :=
  ∃ g : Nat, e' = .returned (.slice (some ⟨g, 0, none⟩) xs.length xs.length) ∧ w.heap.size ≤ g ∧ LaidL Lay.ed 33 w' g xs xs.length ∧ Below w.heap.size w w'

set_option maxHeartbeats 1000000 in
set_option maxRecDepth 100000 in
theorem toEdS_any (xs : List Ed) (A : Option Addr) (cap b off : Nat) (D : Nat → Nat → Value) (w : World) (hd : Lay.ed.szL xs ≤ 1048576)
    (hO : Lay.ed.Opn w w.heap.size xs A b off D) : Calls Try.prog 59 #[.slice A xs.length cap] w (ToEdSPost xs w) := by
  have HO := Lib.hid hO
  clear hO
  have hlen : xs.length ≤ 1048576 := by have := Lay.ed.szL_length xs; omega
  have HSz := Lib.hid hd
  clear hd
  obtain ⟨i0, hi0, hz0, hz1, hz2⟩ := info_parts Try.info33
  have hmk := run_make_of (P := Try.prog) 69 33 i0 _ Try.underlying69 hi0 hz0 xs.length (by rw [hz2]; omega) (by omega)
  rw [hz1] at hmk
  clear hi0 hz0 hz1 hz2
  obtain ⟨cs, hcs⟩ : ∃ cs, cs = madeCells (Value.cells (.agg #[.int .i64 0, .int .i64 0, .int .i64 0, .int .i64 0, .slice none 0 0, .int .i64 0, .int .i64 0, .int .i64 0, .slice none 0 0, .int .i64 0])) (xs.length * 10) := ⟨_, rfl⟩
  have hsz : cs.size = xs.length * 10 := by rw [hcs, size_madeCells]
  rw [← hcs] at hmk
  have HSZ := Lib.hid hsz
  clear hcs hsz
  go_enter Try.func59, Try.ntmps59
  go_wp2_with fail
  go_loopw [4] (fun i wl => ∃ j : Nat, j ≤ xs.length ∧ i = .int .i64 j ∧ Hid (LaidL Lay.ed 33 wl w.heap.size xs j) ∧ Hid (Below w.heap.size w wl)) (fun i _ => xs.length - (intOf i).toNat)
  case atStart => exact ⟨0, Nat.zero_le _, rfl, LaidL.start HSZ.out, (Below.refl _ _).alloc (Nat.le_refl _) _⟩
  case round =>
    clear hmk
    obtain ⟨j, hj, rfl, HL, HB⟩ := hrel
    by_cases hlt : j < xs.length
    · obtain ⟨x, hx⟩ : ∃ x, xs[j]? = some x := ⟨_, List.getElem?_eq_getElem hlt⟩
      obtain ⟨rfl, hb, gc, gl⟩ := HO.out.below HB.out j x hx
      have g0 : wr.cell? ⟨b, off + j * 10, none⟩ = some (D j 0) := gc 0 (by decide)
      have g1 : wr.cell? ⟨b, off + j * 10 + 1, none⟩ = some (D j 1) := gc 1 (by decide)
      have g2 : wr.cell? ⟨b, off + j * 10 + 2, none⟩ = some (D j 2) := gc 2 (by decide)
      have g3 : wr.cell? ⟨b, off + j * 10 + 3, none⟩ = some (D j 3) := gc 3 (by decide)
      have g4 : wr.cell? ⟨b, off + j * 10 + 4, none⟩ = some (D j 4) := gc 4 (by decide)
      have g5 : wr.cell? ⟨b, off + j * 10 + 5, none⟩ = some (D j 5) := gc 5 (by decide)
      have g6 : wr.cell? ⟨b, off + j * 10 + 6, none⟩ = some (D j 6) := gc 6 (by decide)
      have g7 : wr.cell? ⟨b, off + j * 10 + 7, none⟩ = some (D j 7) := gc 7 (by decide)
      have g8 : wr.cell? ⟨b, off + j * 10 + 8, none⟩ = some (D j 8) := gc 8 (by decide)
      have g9 : wr.cell? ⟨b, off + j * 10 + 9, none⟩ = some (D j 9) := gc 9 (by decide)
      have hdx : Lay.ed.sz x ≤ 1048576 := by have := Lay.ed.szL_mem hx; have := HSz.out; omega
      have HDX := Lib.hid hdx
      have HG := Lib.hid (Lay.ed.more gl HB.out.size)
      have HX := Lib.hid hx
      clear gl hx gc hdx
      go_wp2_with fail
      refine (toEd_any x (D j) _ HG.out HDX.out).mono ?_
      rintro e' w1 ⟨x0, x1, xa, xl, xc, y0, y1, ya, yl, yc, rfl, hs1, hb1⟩
      have HB1 := Lib.hid (HB.out.trans (hb1.mono HB.out.size))
      obtain ⟨hcl, hfz⟩ := (HL.out.under hb1).cells hlt
      obtain ⟨u0, hu0⟩ := hcl 0 (by decide)
      have f0 : w1.cell? ⟨w.heap.size, j * 10, none⟩ = some u0 := hu0
      have z0 : w1.frozen? ⟨w.heap.size, j * 10, none⟩ = false := hfz _
      obtain ⟨u1, hu1⟩ := hcl 1 (by decide)
      have f1 : w1.cell? ⟨w.heap.size, j * 10 + 1, none⟩ = some u1 := hu1
      have z1 : w1.frozen? ⟨w.heap.size, j * 10 + 1, none⟩ = false := hfz _
      obtain ⟨u2, hu2⟩ := hcl 2 (by decide)
      have f2 : w1.cell? ⟨w.heap.size, j * 10 + 2, none⟩ = some u2 := hu2
      have z2 : w1.frozen? ⟨w.heap.size, j * 10 + 2, none⟩ = false := hfz _
      obtain ⟨u3, hu3⟩ := hcl 3 (by decide)
      have f3 : w1.cell? ⟨w.heap.size, j * 10 + 3, none⟩ = some u3 := hu3
      have z3 : w1.frozen? ⟨w.heap.size, j * 10 + 3, none⟩ = false := hfz _
      obtain ⟨u4, hu4⟩ := hcl 4 (by decide)
      have f4 : w1.cell? ⟨w.heap.size, j * 10 + 4, none⟩ = some u4 := hu4
      have z4 : w1.frozen? ⟨w.heap.size, j * 10 + 4, none⟩ = false := hfz _
      obtain ⟨u5, hu5⟩ := hcl 5 (by decide)
      have f5 : w1.cell? ⟨w.heap.size, j * 10 + 5, none⟩ = some u5 := hu5
      have z5 : w1.frozen? ⟨w.heap.size, j * 10 + 5, none⟩ = false := hfz _
      obtain ⟨u6, hu6⟩ := hcl 6 (by decide)
      have f6 : w1.cell? ⟨w.heap.size, j * 10 + 6, none⟩ = some u6 := hu6
      have z6 : w1.frozen? ⟨w.heap.size, j * 10 + 6, none⟩ = false := hfz _
      obtain ⟨u7, hu7⟩ := hcl 7 (by decide)
      have f7 : w1.cell? ⟨w.heap.size, j * 10 + 7, none⟩ = some u7 := hu7
      have z7 : w1.frozen? ⟨w.heap.size, j * 10 + 7, none⟩ = false := hfz _
      obtain ⟨u8, hu8⟩ := hcl 8 (by decide)
      have f8 : w1.cell? ⟨w.heap.size, j * 10 + 8, none⟩ = some u8 := hu8
      have z8 : w1.frozen? ⟨w.heap.size, j * 10 + 8, none⟩ = false := hfz _
      obtain ⟨u9, hu9⟩ := hcl 9 (by decide)
      have f9 : w1.cell? ⟨w.heap.size, j * 10 + 9, none⟩ = some u9 := hu9
      have z9 : w1.frozen? ⟨w.heap.size, j * 10 + 9, none⟩ = false := hfz _
      have HST : Hid (LaidL Lay.ed 33 ((((((((((w1.setCell ⟨w.heap.size, j * 10, none⟩ (.int .i64 x.fr)).setCell ⟨w.heap.size, j * 10 + 1, none⟩ (.int .i64 x.to)).setCell ⟨w.heap.size, j * 10 + 2, none⟩ (.int .i64 x0)).setCell ⟨w.heap.size, j * 10 + 3, none⟩ (.int .i64 x1)).setCell ⟨w.heap.size, j * 10 + 4, none⟩ (.slice xa xl xc)).setCell ⟨w.heap.size, j * 10 + 5, none⟩ (.int .i64 x.vr)).setCell ⟨w.heap.size, j * 10 + 6, none⟩ (.int .i64 y0)).setCell ⟨w.heap.size, j * 10 + 7, none⟩ (.int .i64 y1)).setCell ⟨w.heap.size, j * 10 + 8, none⟩ (.slice ya yl yc)).setCell ⟨w.heap.size, j * 10 + 9, none⟩ (.int .i64 x.sy)) w.heap.size xs (j + 1)) := by
        have h := HL.out.step hb1 hlt HX.out hs1
        rw [show Lay.ed.st = 10 from rfl, put_10] at h
        exact h
      have HBP : Hid (Below w.heap.size w ((((((((((w1.setCell ⟨w.heap.size, j * 10, none⟩ (.int .i64 x.fr)).setCell ⟨w.heap.size, j * 10 + 1, none⟩ (.int .i64 x.to)).setCell ⟨w.heap.size, j * 10 + 2, none⟩ (.int .i64 x0)).setCell ⟨w.heap.size, j * 10 + 3, none⟩ (.int .i64 x1)).setCell ⟨w.heap.size, j * 10 + 4, none⟩ (.slice xa xl xc)).setCell ⟨w.heap.size, j * 10 + 5, none⟩ (.int .i64 x.vr)).setCell ⟨w.heap.size, j * 10 + 6, none⟩ (.int .i64 y0)).setCell ⟨w.heap.size, j * 10 + 7, none⟩ (.int .i64 y1)).setCell ⟨w.heap.size, j * 10 + 8, none⟩ (.slice ya yl yc)).setCell ⟨w.heap.size, j * 10 + 9, none⟩ (.int .i64 x.sy))) := by
        have h := Below.put (o := j * 10) HB1.out (Nat.le_refl _) (fun j => (#[.int .i64 x.fr, .int .i64 x.to, .int .i64 x0, .int .i64 x1, .slice xa xl xc, .int .i64 x.vr, .int .i64 y0, .int .i64 y1, .slice ya yl yc, .int .i64 x.sy] : Array Value).getD j undef) 10
        rw [put_10] at h
        exact h
      have hg1 : w.heap.size ≤ w1.heap.size := HB1.out.size
      clear hb1 hs1 HB HL g0 g1 g2 g3 g4 g5 g6 g7 g8 g9 HG hcl hfz hu0 hu1 hu2 hu3 hu4 hu5 hu6 hu7 hu8 hu9
      go_wp2_with fail
      go_roundw
      case rel => exact ⟨j + 1, by omega, by go_num, HST.out, HBP.out⟩
      case measure => simp [intOf]; omega
    · have hjj : j = xs.length := by omega
      subst hjj
      go_wp2_with fail
      go_ret
      exact ⟨_, rfl, Nat.le_refl _, HL.out, HB.out⟩

end Go.Proofs.Ytcaffghfejneaaa

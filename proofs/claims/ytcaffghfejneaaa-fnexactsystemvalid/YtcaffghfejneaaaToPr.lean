/- The walks of laws.toProcess and laws.toProcessS. -/
import Derived.Test.YtcaffghfejneaaaSys
import Derived.Test.YtcaffghfejneaaaToEd
namespace Go.Proofs.Ytcaffghfejneaaa
open Go.RowKit

def ToPrPost (p : Pr) (w : World) (e' : Ending) (w' : World) : Prop :=
  ∃ (xa : Option Addr) (xl xc : Nat), e' = .returned (.agg #[.int .i64 p.loc, .slice xa xl xc]) ∧ Lay.pr.sep w' w.heap.size w'.heap.size p (fun j => (#[.int .i64 p.loc, .slice xa xl xc] : Array Value).getD j undef) ∧ Below w.heap.size w w'

set_option maxHeartbeats 1000000 in
set_option maxRecDepth 100000 in
theorem toPr_any (p : Pr) (C : Nat → Value) (w : World) (hL : Lay.pr.lies w w.heap.size p C) (hd : Lay.pr.sz p ≤ 1048576) :
    Calls Try.prog 52 #[.agg #[C 0, C 1]] w (ToPrPost p w) := by
  rw [pr_sz] at hd
  obtain ⟨loc, es⟩ := p
  obtain ⟨e0, A, cap, b, off, D, e1, hl, hO⟩ := pr_lies hL
  rw [e0, e1]
  clear e0 e1 hL
  obtain ⟨W3, hW3⟩ : ∃ W3, W3 = ((w.alloc (.cells #[.int .i64 loc, .slice A es.length cap] 88)).alloc (.cells #[.int .i64 0, .slice none 0 0] 71)).alloc (.cells #[.int .i64 loc, .slice none 0 0] 71) := ⟨_, rfl⟩
  have hrows := three_boxes w 88 71 71 #[.int .i64 loc, .slice A es.length cap] #[.int .i64 0, .slice none 0 0] #[.int .i64 loc, .slice none 0 0]
  rw [← hW3] at hrows
  obtain ⟨ra, rb, rc, hb0, hz0⟩ := hrows
  have HRb := Lib.hid rb
  have HRc := Lib.hid rc
  have HB0 := Lib.hid hb0
  have HZ0 := Lib.hid hz0
  have HO := Lib.hid (hO.grow hb0 hb0.size)
  have HLn := Lib.hid hl
  have HD := Lib.hid hd
  have HW3 := Lib.hid hW3
  clear hO hb0 hz0 hW3 ra rb rc hd hl
  go_enter Try.func52, Try.ntmps52
  go_wp2_with fail
  rw [← HW3.out]
  refine (toEdS_any es A cap b off D _ HD.out HO.out).mono ?_
  rintro e' w1 ⟨g, rfl, hg, hLd, hb1⟩
  have hz1 : w.heap.size + 3 ≤ w1.heap.size := by rw [← HZ0.out]; exact hb1.size
  have hRb1 := HRb.out.under hb1 HRb.out.lt
  have hRc1 := HRc.out.under hb1 HRc.out.lt
  obtain ⟨p0, p1⟩ := hRb1.two
  obtain ⟨c0, c1⟩ := hRc1.two
  have z1 := hRc1.frozen 1
  have y0' := hRb1.frozen 0
  have y1' := hRb1.frozen 1
  have KEY : Hid (∀ W, Tw (w.heap.size + 1) (w.heap.size + 1 + 1) w1 W → Lay.pr.sep W w.heap.size W.heap.size ⟨loc, es⟩ (fun j => (#[.int .i64 loc, .slice (some ⟨g, 0, none⟩) es.length es.length] : Array Value).getD j undef) ∧ Below w.heap.size w W) := fun W hT => by
    have hZ0 := HZ0.out
    refine ⟨⟨w.heap.size, Nat.le_refl _, by rw [hT.size]; omega, rfl, ?_⟩, hT.below (HB0.out.trans (hb1.mono HB0.out.size)) (by omega) (by omega)⟩
    refine (Lay.ed.slice _).sep_more (lo := g) (by omega) (by rw [hT.size]; exact Nat.le_refl _) ((Lay.ed.slice _).sep_keep (fun q q1 q2 => hT.other q (by omega) (by omega)) (hLd.sep HLn.out (cap := es.length) rfl))
  clear hb1 hRb1 hRc1 hLd hg
  go_wp2_with fail
  refine bodyPost_ret (v := .agg #[.int .i64 loc, .slice (some ⟨g, 0, none⟩) es.length es.length]) (by simp [results, Try.results52, go_sem, p0, p1]) rfl ⟨some ⟨g, 0, none⟩, es.length, es.length, rfl, ?_⟩
  exact KEY.out _ ((((Tw.refl _ _ _).sb _ _).sa _ _).sa _ _)

theorem put_2 (w : World) (g o : Nat) (d : Nat → Value) : putCells w g o d 2 = ((w.setCell ⟨g, o, none⟩ (d 0)).setCell ⟨g, o + 1, none⟩ (d 1)) := rfl

theorem Try.info71 : (Try.prog.info? 71).map (fun i => (i.zero, i.size, i.bytes)) = some (some (.agg #[.int .i64 0, .slice none 0 0]), 2, 32) := by kernel_rfl

def ToPrSPost (xs : List Pr) (w : World) (e' : Ending) (w' : World) : Prop :=
  ∃ g : Nat, e' = .returned (.slice (some ⟨g, 0, none⟩) xs.length xs.length) ∧ w.heap.size ≤ g ∧ LaidL Lay.pr 71 w' g xs xs.length ∧ Below w.heap.size w w'

set_option maxHeartbeats 1000000 in
set_option maxRecDepth 100000 in
theorem toPrS_any (xs : List Pr) (A : Option Addr) (cap b off : Nat) (D : Nat → Nat → Value) (w : World) (hd : Lay.pr.szL xs ≤ 1048576)
    (hO : Lay.pr.Opn w w.heap.size xs A b off D) : Calls Try.prog 35 #[.slice A xs.length cap] w (ToPrSPost xs w) := by
  have HO := Lib.hid hO
  clear hO
  have hlen : xs.length ≤ 1048576 := by have := Lay.pr.szL_length xs; omega
  have HSz := Lib.hid hd
  clear hd
  obtain ⟨i0, hi0, hz0, hz1, hz2⟩ := info_parts Try.info71
  have hmk := run_make_of (P := Try.prog) 43 71 i0 _ Try.underlying43 hi0 hz0 xs.length (by rw [hz2]; omega) (by omega)
  rw [hz1] at hmk
  clear hi0 hz0 hz1 hz2
  obtain ⟨cs, hcs⟩ : ∃ cs, cs = madeCells (Value.cells (.agg #[.int .i64 0, .slice none 0 0])) (xs.length * 2) := ⟨_, rfl⟩
  have hsz : cs.size = xs.length * 2 := by rw [hcs, size_madeCells]
  rw [← hcs] at hmk
  have HSZ := Lib.hid hsz
  clear hcs hsz
  go_enter Try.func35, Try.ntmps35
  go_wp2_with fail
  go_loopw [4] (fun i wl => ∃ j : Nat, j ≤ xs.length ∧ i = .int .i64 j ∧ Hid (LaidL Lay.pr 71 wl w.heap.size xs j) ∧ Hid (Below w.heap.size w wl)) (fun i _ => xs.length - (intOf i).toNat)
  case atStart => exact ⟨0, Nat.zero_le _, rfl, LaidL.start HSZ.out, (Below.refl _ _).alloc (Nat.le_refl _) _⟩
  case round =>
    clear hmk
    obtain ⟨j, hj, rfl, HL, HB⟩ := hrel
    by_cases hlt : j < xs.length
    · obtain ⟨x, hx⟩ : ∃ x, xs[j]? = some x := ⟨_, List.getElem?_eq_getElem hlt⟩
      obtain ⟨rfl, hb, gc, gl⟩ := HO.out.below HB.out j x hx
      have g0 : wr.cell? ⟨b, off + j * 2, none⟩ = some (D j 0) := gc 0 (by decide)
      have g1 : wr.cell? ⟨b, off + j * 2 + 1, none⟩ = some (D j 1) := gc 1 (by decide)
      have hdx : Lay.pr.sz x ≤ 1048576 := by have := Lay.pr.szL_mem hx; have := HSz.out; omega
      have HDX := Lib.hid hdx
      have HG := Lib.hid (Lay.pr.more gl HB.out.size)
      have HX := Lib.hid hx
      clear gl hx gc hdx
      go_wp2_with fail
      refine (toPr_any x (D j) _ HG.out HDX.out).mono ?_
      rintro e' w1 ⟨xa, xl, xc, rfl, hs1, hb1⟩
      have HB1 := Lib.hid (HB.out.trans (hb1.mono HB.out.size))
      obtain ⟨hcl, hfz⟩ := (HL.out.under hb1).cells hlt
      obtain ⟨u0, hu0⟩ := hcl 0 (by decide)
      have f0 : w1.cell? ⟨w.heap.size, j * 2, none⟩ = some u0 := hu0
      have z0 : w1.frozen? ⟨w.heap.size, j * 2, none⟩ = false := hfz _
      obtain ⟨u1, hu1⟩ := hcl 1 (by decide)
      have f1 : w1.cell? ⟨w.heap.size, j * 2 + 1, none⟩ = some u1 := hu1
      have z1 : w1.frozen? ⟨w.heap.size, j * 2 + 1, none⟩ = false := hfz _
      have HST : Hid (LaidL Lay.pr 71 ((w1.setCell ⟨w.heap.size, j * 2, none⟩ (.int .i64 x.loc)).setCell ⟨w.heap.size, j * 2 + 1, none⟩ (.slice xa xl xc)) w.heap.size xs (j + 1)) := by
        have h := HL.out.step hb1 hlt HX.out hs1
        rw [show Lay.pr.st = 2 from rfl, put_2] at h
        exact h
      have HBP : Hid (Below w.heap.size w ((w1.setCell ⟨w.heap.size, j * 2, none⟩ (.int .i64 x.loc)).setCell ⟨w.heap.size, j * 2 + 1, none⟩ (.slice xa xl xc))) := by
        have h := Below.put (o := j * 2) HB1.out (Nat.le_refl _) (fun j => (#[.int .i64 x.loc, .slice xa xl xc] : Array Value).getD j undef) 2
        rw [put_2] at h
        exact h
      have hg1 : w.heap.size ≤ w1.heap.size := HB1.out.size
      clear hb1 hs1 HB HL g0 g1 HG hcl hfz hu0 hu1
      go_wp2_with fail
      go_roundw
      case rel => exact ⟨j + 1, by omega, by go_num, HST.out, HBP.out⟩
      case measure => simp [intOf]; omega
    · have hjj : j = xs.length := by omega
      subst hjj
      go_wp2_with fail
      go_ret
      exact ⟨_, rfl, Nat.le_refl _, HL.out, HB.out⟩

end Go.Proofs.Ytcaffghfejneaaa

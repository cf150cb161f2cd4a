/- The walks of laws.toTransition and laws.toTransitionS. -/
import Derived.Test.YtldnegacgjijlaaTrT
namespace Go.Proofs.Ytldnegacgjijlaa
open Go.RowKit

def ToTrPost (e : Tr) (w : World) (e' : Ending) (w' : World) : Prop :=
  e' = .returned (.agg #[.int .i64 e.fr, .int .i64 e.ca, .int .i64 e.va, .int .i64 e.tt]) ∧ Lay.tr.sep w' w.heap.size w'.heap.size e (fun j => (#[.int .i64 e.fr, .int .i64 e.ca, .int .i64 e.va, .int .i64 e.tt] : Array Value).getD j undef) ∧ Below w.heap.size w w'

set_option maxHeartbeats 1000000 in
set_option maxRecDepth 100000 in
theorem toTr_any (e : Tr) (C : Nat → Value) (w : World) (hL : Lay.tr.lies w w.heap.size e C) (_ : Lay.tr.sz e ≤ 1048576) :
    Calls Try.prog 108 #[.agg #[C 0, C 1, C 2, C 3]] w (ToTrPost e w) := by
  obtain ⟨fr, ca, va, tt⟩ := e
  obtain ⟨c0, c1, c2, c3⟩ := tr_lies hL
  have HRg := Lib.hid (tr_rg hL)
  rw [c0, c1, c2, c3]
  clear c0 c1 c2 c3 hL
  have KEY : Hid (∀ W, Below w.heap.size w W → ToTrPost ⟨fr, ca, va, tt⟩ w (.returned (.agg #[.int .i64 fr, .int .i64 ca, .int .i64 va, .int .i64 tt])) W) := fun W hW => ⟨rfl, tr_sep _ _ _ hW.size _ _ _ _ HRg.out, hW⟩
  have HB : Hid (Below w.heap.size w w) := Below.refl _ _
  go_enter Try.func108, Try.ntmps108
  go_wp2_with fail
  refine bodyPost_ret (v := .agg #[.int .i64 fr, .int .i64 ca, .int .i64 va, .int .i64 tt]) (by simp [results, Try.results108, go_sem]) rfl ?_
  refine KEY.out _ ?_
  repeat (first | exact HB.out | refine Below.setCell ?_ (by simp <;> omega) _ | refine Below.alloc ?_ (by simp <;> omega) _)

theorem put_4 (w : World) (g o : Nat) (d : Nat → Value) : putCells w g o d 4 = ((((w.setCell ⟨g, o, none⟩ (d 0)).setCell ⟨g, o + 1, none⟩ (d 1)).setCell ⟨g, o + 2, none⟩ (d 2)).setCell ⟨g, o + 3, none⟩ (d 3)) := rfl

theorem Try.info116 : (Try.prog.info? 116).map (fun i => (i.zero, i.size, i.bytes)) = some (some (.agg #[.int .i64 0, .int .i64 0, .int .i64 0, .int .i64 0]), 4, 32) := by kernel_rfl

def ToTrSPost (xs : List Tr) (w : World) (e' : Ending) (w' : World) : Prop :=
  ∃ g : Nat, e' = .returned (.slice (some ⟨g, 0, none⟩) xs.length xs.length) ∧ w.heap.size ≤ g ∧ LaidL Lay.tr 116 w' g xs xs.length ∧ Below w.heap.size w w'

set_option maxHeartbeats 1000000 in
set_option maxRecDepth 100000 in
theorem toTrS_any (xs : List Tr) (A : Option Addr) (cap b off : Nat) (D : Nat → Nat → Value) (w : World) (hd : Lay.tr.szL xs ≤ 1048576)
    (hO : Lay.tr.Opn w w.heap.size xs A b off D) : Calls Try.prog 64 #[.slice A xs.length cap] w (ToTrSPost xs w) := by
  have HO := Lib.hid hO
  clear hO
  have hlen : xs.length ≤ 1048576 := by have := Lay.tr.szL_length xs; omega
  have HSz := Lib.hid hd
  clear hd
  obtain ⟨i0, hi0, hz0, hz1, hz2⟩ := info_parts Try.info116
  have hmk := run_make_of (P := Try.prog) 49 116 i0 _ Try.underlying49 hi0 hz0 xs.length (by rw [hz2]; omega) (by omega)
  rw [hz1] at hmk
  clear hi0 hz0 hz1 hz2
  obtain ⟨cs, hcs⟩ : ∃ cs, cs = madeCells (Value.cells (.agg #[.int .i64 0, .int .i64 0, .int .i64 0, .int .i64 0])) (xs.length * 4) := ⟨_, rfl⟩
  have hsz : cs.size = xs.length * 4 := by rw [hcs, size_madeCells]
  rw [← hcs] at hmk
  have HSZ := Lib.hid hsz
  clear hcs hsz
  go_enter Try.func64, Try.ntmps64
  go_wp2_with fail
  go_loopw [4] (fun i wl => ∃ j : Nat, j ≤ xs.length ∧ i = .int .i64 j ∧ Hid (LaidL Lay.tr 116 wl w.heap.size xs j) ∧ Hid (Below w.heap.size w wl)) (fun i _ => xs.length - (intOf i).toNat)
  case atStart => exact ⟨0, Nat.zero_le _, rfl, LaidL.start HSZ.out, (Below.refl _ _).alloc (Nat.le_refl _) _⟩
  case round =>
    clear hmk
    obtain ⟨j, hj, rfl, HL, HB⟩ := hrel
    by_cases hlt : j < xs.length
    · obtain ⟨x, hx⟩ : ∃ x, xs[j]? = some x := ⟨_, List.getElem?_eq_getElem hlt⟩
      obtain ⟨rfl, hb, gc, gl⟩ := HO.out.below HB.out j x hx
      have g0 : wr.cell? ⟨b, off + j * 4, none⟩ = some (D j 0) := gc 0 (by decide)
      have g1 : wr.cell? ⟨b, off + j * 4 + 1, none⟩ = some (D j 1) := gc 1 (by decide)
      have g2 : wr.cell? ⟨b, off + j * 4 + 2, none⟩ = some (D j 2) := gc 2 (by decide)
      have g3 : wr.cell? ⟨b, off + j * 4 + 3, none⟩ = some (D j 3) := gc 3 (by decide)
      have hdx : Lay.tr.sz x ≤ 1048576 := by have := Lay.tr.szL_mem hx; have := HSz.out; omega
      have HDX := Lib.hid hdx
      have HG := Lib.hid (Lay.tr.more gl HB.out.size)
      have HX := Lib.hid hx
      clear gl hx gc hdx
      go_wp2_with fail
      refine (toTr_any x (D j) _ HG.out HDX.out).mono ?_
      rintro e' w1 ⟨rfl, hs1, hb1⟩
      have HB1 := Lib.hid (HB.out.trans (hb1.mono HB.out.size))
      obtain ⟨hcl, hfz⟩ := (HL.out.under hb1).cells hlt
      obtain ⟨u0, hu0⟩ := hcl 0 (by decide)
      have f0 : w1.cell? ⟨w.heap.size, j * 4, none⟩ = some u0 := hu0
      have z0 : w1.frozen? ⟨w.heap.size, j * 4, none⟩ = false := hfz _
      obtain ⟨u1, hu1⟩ := hcl 1 (by decide)
      have f1 : w1.cell? ⟨w.heap.size, j * 4 + 1, none⟩ = some u1 := hu1
      have z1 : w1.frozen? ⟨w.heap.size, j * 4 + 1, none⟩ = false := hfz _
      obtain ⟨u2, hu2⟩ := hcl 2 (by decide)
      have f2 : w1.cell? ⟨w.heap.size, j * 4 + 2, none⟩ = some u2 := hu2
      have z2 : w1.frozen? ⟨w.heap.size, j * 4 + 2, none⟩ = false := hfz _
      obtain ⟨u3, hu3⟩ := hcl 3 (by decide)
      have f3 : w1.cell? ⟨w.heap.size, j * 4 + 3, none⟩ = some u3 := hu3
      have z3 : w1.frozen? ⟨w.heap.size, j * 4 + 3, none⟩ = false := hfz _
      have HST : Hid (LaidL Lay.tr 116 ((((w1.setCell ⟨w.heap.size, j * 4, none⟩ (.int .i64 x.fr)).setCell ⟨w.heap.size, j * 4 + 1, none⟩ (.int .i64 x.ca)).setCell ⟨w.heap.size, j * 4 + 2, none⟩ (.int .i64 x.va)).setCell ⟨w.heap.size, j * 4 + 3, none⟩ (.int .i64 x.tt)) w.heap.size xs (j + 1)) := by
        have h := HL.out.step hb1 hlt HX.out hs1
        rw [show Lay.tr.st = 4 from rfl, put_4] at h
        exact h
      have HBP : Hid (Below w.heap.size w ((((w1.setCell ⟨w.heap.size, j * 4, none⟩ (.int .i64 x.fr)).setCell ⟨w.heap.size, j * 4 + 1, none⟩ (.int .i64 x.ca)).setCell ⟨w.heap.size, j * 4 + 2, none⟩ (.int .i64 x.va)).setCell ⟨w.heap.size, j * 4 + 3, none⟩ (.int .i64 x.tt))) := by
        have h := Below.put (o := j * 4) HB1.out (Nat.le_refl _) (fun j => (#[.int .i64 x.fr, .int .i64 x.ca, .int .i64 x.va, .int .i64 x.tt] : Array Value).getD j undef) 4
        rw [put_4] at h
        exact h
      have hg1 : w.heap.size ≤ w1.heap.size := HB1.out.size
      clear hb1 hs1 HB HL g0 g1 g2 g3 HG hcl hfz hu0 hu1 hu2 hu3
      go_wp2_with fail
      go_roundw
      case rel => exact ⟨j + 1, by omega, by go_num, HST.out, HBP.out⟩
      case measure => simp [intOf]; omega
    · have hjj : j = xs.length := by omega
      subst hjj
      go_wp2_with fail
      go_ret
      exact ⟨_, rfl, Nat.le_refl _, HL.out, HB.out⟩

end Go.Proofs.Ytldnegacgjijlaa

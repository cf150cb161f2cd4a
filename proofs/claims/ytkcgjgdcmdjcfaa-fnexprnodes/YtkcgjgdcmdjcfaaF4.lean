/- The walk of the fold that says which variables occur. -/
import Derived.Test.YtkcgjgdcmdjcfaaF3
import Derived.Test.YtkcgjgdcmdjcfaaOpE
namespace Go.Proofs.Ytkcgjgdcmdjcfaa
open Go.RowKit

theorem LaidB.cells {w : World} {g d : Nat} {kids : List Ex} {j : Nat} (h : LaidB w g d kids j) (hj : j < kids.length) :
    (∃ u0 u1 u2, w.cell? ⟨g, j * 3, none⟩ = some u0 ∧ w.cell? ⟨g, j * 3 + 1, none⟩ = some u1 ∧ w.cell? ⟨g, j * 3 + 2, none⟩ = some u2) ∧ ∀ i, w.frozen? ⟨g, i, none⟩ = false := by
  obtain ⟨cs, hr, hs, hk⟩ := h
  refine ⟨⟨cs[j * 3], cs[j * 3 + 1], cs[j * 3 + 2], ?_, ?_, ?_⟩, hr.frozen⟩ <;> rw [hr.cell] <;> exact Array.getElem?_eq_getElem _

theorem LaidB.step {w : World} {g d : Nat} {kids : List Ex} {j : Nat} (h : LaidB w g d kids j) (hj : j < kids.length) {x : Ex} (hx : kids[j]? = some x) :
    LaidB (((w.setCell ⟨g, j * 3, none⟩ (.bool (occ d x 0))).setCell ⟨g, j * 3 + 1, none⟩ (.bool (occ d x 1))).setCell ⟨g, j * 3 + 2, none⟩ (.bool (occ d x 2))) g d kids (j + 1) := by
  obtain ⟨cs, hr, hs, hk⟩ := h
  refine ⟨((cs.setIfInBounds (j * 3) _).setIfInBounds (j * 3 + 1) _).setIfInBounds (j * 3 + 2) _, ((hr.set_ _ _).set_ _ _).set_ _ _, by simp [hs], fun i y hy hi q hq => ?_⟩
  simp only [Array.getElem?_setIfInBounds, Array.size_setIfInBounds, hs]
  by_cases e : i = j
  · subst e
    rw [hy] at hx
    injection hx with hx
    subst hx
    match q, hq with
    | 0, _ => rw [if_neg (by omega), if_neg (by omega), if_pos (by omega), if_pos (by omega)]
    | 1, _ => rw [if_neg (by omega), if_pos (by omega), if_pos (by omega)]
    | 2, _ => rw [if_pos (by omega), if_pos (by omega)]
  · rw [if_neg (by omega), if_neg (by omega), if_neg (by omega)]
    exact hk i y hy (by omega) q hq

theorem Try.info60 : (Try.prog.info? 60).map (fun i => (i.zero, i.size, i.bytes)) = some (some (.agg #[.bool false, .bool false, .bool false]), 3, 3) := by kernel_rfl

theorem two_rows (w : World) (a b : Array Value) : Row ((w.alloc (.cells a 25)).alloc (.cells b 60)) w.heap.size 25 a ∧ Row ((w.alloc (.cells a 25)).alloc (.cells b 60)) (w.heap.size + 1) 60 b ∧ Below w.heap.size w ((w.alloc (.cells a 25)).alloc (.cells b 60)) := by
  refine ⟨(Row.new w 25 a).under (B := w.heap.size + 1) ((Below.refl _ _).alloc (by simp) _) (by omega), ?_, ((Below.refl _ _).alloc (Nat.le_refl _) _).alloc (by simp) _⟩
  have h := Row.new (w.alloc (.cells a 25)) 60 b
  rw [show (w.alloc (.cells a 25)).heap.size = w.heap.size + 1 by simp] at h
  exact h

def FoldBSaid (d : Nat) : Prop := ∀ (e : Ex) (c0 c1 c2 : Value) (w : World), shape d e = true → Lies w w.heap.size e c0 c1 c2 →
    Calls Try.prog 34 #[.agg #[c0, c1, c2], .func (.func 35) #[] #[]] w (OccPost (occ d e) w)

set_option maxHeartbeats 1000000 in
set_option maxRecDepth 100000 in
theorem foldB_any : ∀ d : Nat, FoldBSaid d := by
  intro d
  induction d with
  | zero => intro e c0 c1 c2 w h; simp [shape] at h
  | succ d ih =>
    rintro ⟨k, v, kids⟩ c0 c1 c2 w hs hL
    obtain ⟨K, cp, kb, ko, C0, C1, C2, rfl, rfl, rfl, hl, hO⟩ := hL.open_
    have HIH := Lib.hid ih
    have HO := Lib.hid hO
    have HK : Hid (∀ (i : Nat) (x : Ex), kids[i]? = some x → shape d x = true) := fun i x hx => shape_kid hs hx
    have HSh := Lib.hid hs
    have hlen : kids.length ≤ 2 := by have := rootOk_parts (shape_root hs); omega
    have HM : Hid (∃ b0 b1 b2, tri (occ (d + 1) (.node k v kids)) = #[.bool b0, .bool b1, .bool b2]) := ⟨_, _, _, rfl⟩
    clear ih hL hO hs hl
    by_cases hz0 : kids.length = 0
    · obtain rfl : kids = [] := List.length_eq_zero_iff.1 hz0
      clear HK HO hz0 hlen
      obtain ⟨W1, hW1⟩ : ∃ W1, W1 = (w.alloc (.cells #[.int .i64 k, .int .i64 v, .slice K 0 cp] 25)).alloc (.cells #[.bool false, .bool false, .bool false] 60) := ⟨_, rfl⟩
      have hrr := two_rows w #[.int .i64 k, .int .i64 v, .slice K 0 cp] #[.bool false, .bool false, .bool false]
      rw [← hW1] at hrr
      have HRa := Lib.hid hrr.1
      have HRb := Lib.hid hrr.2.1
      have HB0 := Lib.hid hrr.2.2
      have HW1 := Lib.hid hW1
      have q0 : W1.cell? ⟨w.heap.size, 0, none⟩ = some (.int .i64 k) := HRa.out.cell 0
      have q1 : W1.cell? ⟨w.heap.size, 1, none⟩ = some (.int .i64 v) := HRa.out.cell 1
      have q2 : W1.cell? ⟨w.heap.size, 2, none⟩ = some (.slice K 0 cp) := HRa.out.cell 2
      have hlt1 : w.heap.size < W1.heap.size := HRa.out.lt
      clear hW1 hrr
      go_enter Try.func34, Try.ntmps34
      go_wp2_with fail
      rw [← HW1.out]
      go_wp2_with fail
      refine (operandsF_any k v K 0 cp _).mono ?_
      rintro e' w2 ⟨rfl, hbo⟩
      have HR0 := Lib.hid (HRa.out.under hbo HRa.out.lt)
      have HR1 := Lib.hid (HRb.out.under hbo HRb.out.lt)
      have HBo : Hid (Below w.heap.size w w2) := HB0.out.trans (hbo.mono HB0.out.size)
      have HL2 : Hid (w.heap.size + 1 < w2.heap.size) := HR1.out.lt
      clear hbo q0 q1 q2 hlt1
      go_wp2_with fail
      go_loopw [20] (fun i wl => i = .int .i64 0 ∧ Hid (Row wl w.heap.size 25 #[.int .i64 k, .int .i64 v, .slice K 0 cp]) ∧ Hid (Row wl (w.heap.size + 1) 60 #[.bool false, .bool false, .bool false]) ∧ Hid (Below w.heap.size w wl)) (fun _ _ => 0)
      case atStart => exact ⟨rfl, HR0, HR1, HBo⟩
      case round =>
        clear HR0 HR1
        obtain ⟨rfl, HR0, HR1, HB⟩ := hrel
        have h0 := HR0.out
        have q0 : wr.cell? ⟨w.heap.size, 0, none⟩ = some (.int .i64 k) := h0.cell 0
        have q1 : wr.cell? ⟨w.heap.size, 1, none⟩ = some (.int .i64 v) := h0.cell 1
        have q2 : wr.cell? ⟨w.heap.size, 2, none⟩ = some (.slice K 0 cp) := h0.cell 2
        clear h0 HR0
        go_wp2_with fail
        refine (occ_any d k v [] K none 0 cp 0 0 _ HSh.out (fun i x hx => by simp at hx)).mono ?_
        rintro e' w3 ⟨rfl, hb3⟩
        obtain ⟨b0, b1, b2, hM⟩ := HM.out
        rw [hM]
        have HM' := Lib.hid hM
        have h1 := HR1.out.under hb3 HR1.out.lt
        have y0 : w3.cell? ⟨w.heap.size + 1, 0, none⟩ = some (.bool false) := h1.cell 0
        have y1 : w3.cell? ⟨w.heap.size + 1, 1, none⟩ = some (.bool false) := h1.cell 1
        have y2 : w3.cell? ⟨w.heap.size + 1, 2, none⟩ = some (.bool false) := h1.cell 2
        have z0 := h1.frozen 0
        have z1 := h1.frozen 1
        have z2 := h1.frozen 2
        have HB3 := Lib.hid (HB.out.trans (hb3.mono HB.out.size))
        clear hb3 hM h1 HR1 HB
        go_wp2_with fail
        refine bodyPost_ret (v := .agg (tri (occ (d + 1) (.node k v [])))) (by rw [HM'.out]; simp [results, Try.results34, go_sem, y0, y1, y2]) rfl ?_
        exact ⟨rfl, occ_end HB3.out (by omega) _ _ _⟩
    · obtain ⟨i0, hi0, hz0', hz1, hz2⟩ := info_parts Try.info60
      have hmk := run_make_of (P := Try.prog) 93 60 i0 _ Try.underlying93 hi0 hz0' kids.length (by rw [hz2]; omega) (by omega)
      rw [hz1] at hmk
      clear hi0 hz0' hz1 hz2
      obtain ⟨cs, hcs⟩ : ∃ cs, cs = madeCells (Value.cells (.agg #[.bool false, .bool false, .bool false])) (kids.length * 3) := ⟨_, rfl⟩
      have hsz : cs.size = kids.length * 3 := by rw [hcs, size_madeCells]
      rw [← hcs] at hmk
      have HSZ := Lib.hid hsz
      clear hcs hsz
      have hpos : 0 < kids.length := by omega
      clear hz0
      obtain ⟨W1, hW1⟩ : ∃ W1, W1 = (w.alloc (.cells #[.int .i64 k, .int .i64 v, .slice K kids.length cp] 25)).alloc (.cells #[.bool false, .bool false, .bool false] 60) := ⟨_, rfl⟩
      have hrr := two_rows w #[.int .i64 k, .int .i64 v, .slice K kids.length cp] #[.bool false, .bool false, .bool false]
      rw [← hW1] at hrr
      have HRa := Lib.hid hrr.1
      have HRb := Lib.hid hrr.2.1
      have HB0 := Lib.hid hrr.2.2
      have HW1 := Lib.hid hW1
      have q0 : W1.cell? ⟨w.heap.size, 0, none⟩ = some (.int .i64 k) := HRa.out.cell 0
      have q1 : W1.cell? ⟨w.heap.size, 1, none⟩ = some (.int .i64 v) := HRa.out.cell 1
      have q2 : W1.cell? ⟨w.heap.size, 2, none⟩ = some (.slice K kids.length cp) := HRa.out.cell 2
      have hlt1 : w.heap.size < W1.heap.size := HRa.out.lt
      clear hW1 hrr
      go_enter Try.func34, Try.ntmps34
      go_wp2_with fail
      rw [← HW1.out]
      go_wp2_with fail
      refine (operandsF_any k v K kids.length cp _).mono ?_
      rintro e' w2 ⟨rfl, hbo⟩
      have HR0 := Lib.hid (HRa.out.under hbo HRa.out.lt)
      have HR1 := Lib.hid (HRb.out.under hbo HRb.out.lt)
      have HBo : Hid (Below w.heap.size w w2) := HB0.out.trans (hbo.mono HB0.out.size)
      have HL2 : Hid (w.heap.size + 1 < w2.heap.size) := HR1.out.lt
      clear hbo q0 q1 q2 hlt1
      go_wp2_with fail
      go_loopw [20] (fun i wl => ∃ j : Nat, j ≤ kids.length ∧ i = .int .i64 j ∧ Hid (LaidB wl w2.heap.size d kids j) ∧ Hid (Row wl w.heap.size 25 #[.int .i64 k, .int .i64 v, .slice K kids.length cp]) ∧ Hid (Row wl (w.heap.size + 1) 60 #[.bool false, .bool false, .bool false]) ∧ Hid (Below w.heap.size w wl)) (fun i _ => kids.length - (intOf i).toNat)
      case atStart =>
        have hb : Below w2.heap.size w2 (w2.alloc (.cells cs 60)) := (Below.refl _ _).alloc (Nat.le_refl _) _
        exact ⟨0, Nat.zero_le _, rfl, ⟨cs, Row.new w2 _ _, HSZ.out, fun _ _ _ h => absurd h (Nat.not_lt_zero _)⟩, HR0.out.under hb HR0.out.lt, HR1.out.under hb HR1.out.lt, HBo.out.trans (hb.mono HBo.out.size)⟩
      case round =>
        clear hmk HSZ HR0 HR1
        have hL2 := HL2.out
        obtain ⟨j, hj, rfl, HL, HR0, HR1, HB⟩ := hrel
        by_cases hlt : j < kids.length
        · obtain ⟨x, hx⟩ : ∃ x, kids[j]? = some x := ⟨_, List.getElem?_eq_getElem hlt⟩
          obtain ⟨rfl, hb, g0, g1, g2, gl⟩ := HO.out.below HB.out j x hx
          have HX := Lib.hid hx
          obtain ⟨n0, n1, a2, l2, cp2, q0, q1, q2⟩ := gl.form
          rw [q0] at g0
          rw [q1] at g1
          rw [q2] at g2
          have hsz : w.heap.size ≤ wr.heap.size := HB.out.size
          have hlw : w2.heap.size < wr.heap.size := HL.out.lt
          have hb1 : Below wr.heap.size wr (wr.alloc (.cells #[.int .i64 n0, .int .i64 n1, .slice a2 l2 cp2] 25)) := (Below.refl _ _).alloc (Nat.le_refl _) _
          have HQ : Hid (Lies (wr.alloc (.cells #[.int .i64 n0, .int .i64 n1, .slice a2 l2 cp2] 25)) (wr.alloc (.cells #[.int .i64 n0, .int .i64 n1, .slice a2 l2 cp2] 25)).heap.size x (.int .i64 n0) (.int .i64 n1) (.slice a2 l2 cp2)) := by
            rw [q0, q1, q2] at gl
            exact (gl.alloc (by omega) _).more (by simp; omega)
          have HL1 := Lib.hid (HL.out.under hb1 HL.out.lt)
          have HR01 := Lib.hid (HR0.out.under hb1 HR0.out.lt)
          have HR11 := Lib.hid (HR1.out.under hb1 HR1.out.lt)
          have HB1 := Lib.hid (HB.out.trans (hb1.mono hsz))
          have HM2 : Hid (∃ b0 b1 b2, b0 = occ d x 0 ∧ b1 = occ d x 1 ∧ b2 = occ d x 2) := ⟨_, _, _, rfl, rfl, rfl⟩
          clear gl hx q0 q1 q2 hb1 HL HB HR0 HR1
          go_wp2_with fail
          refine (HIH.out x _ _ _ _ (HK.out j x HX.out) HQ.out).mono ?_
          rintro e' w3 ⟨rfl, hb2⟩
          have hl2 := HL1.out.under hb2 HL1.out.lt
          obtain ⟨⟨u0, u1, u2, f0, f1, f2⟩, hfz⟩ := hl2.cells hlt
          have fz0 := hfz (j * 3)
          have fz1 := hfz (j * 3 + 1)
          have fz2 := hfz (j * 3 + 2)
          have hst := hl2.step hlt HX.out
          obtain ⟨b0, b1, b2, hb0', hb1', hb2'⟩ := HM2.out
          rw [← hb0', ← hb1', ← hb2'] at hst
          have HST := Lib.hid hst
          rw [show tri (occ d x) = #[.bool b0, .bool b1, .bool b2] by rw [hb0', hb1', hb2']; rfl]
          have HR02 := Lib.hid (HR01.out.under hb2 HR01.out.lt)
          have HR12 := Lib.hid (HR11.out.under hb2 HR11.out.lt)
          have HB2 := Lib.hid (HB1.out.trans (hb2.mono HB1.out.size))
          clear hb2 hl2 hst g0 g1 g2 hfz hb0' hb1' hb2' HR01 HR11 HL1 HB1 HQ HM2
          go_wp2_with fail
          go_roundw
          case rel =>
            have s0 := fun (W : World) (i : Nat) (u : Value) (h : Row W w.heap.size 25 #[.int .i64 k, .int .i64 v, .slice (some ⟨kb, ko, none⟩) kids.length cp]) => h.grown (grown_set W w2.heap.size i u) (by omega)
            have s1 := fun (W : World) (i : Nat) (u : Value) (h : Row W (w.heap.size + 1) 60 #[.bool false, .bool false, .bool false]) => h.grown (grown_set W w2.heap.size i u) (by omega)
            exact ⟨j + 1, by omega, by go_num, HST, s0 _ _ _ (s0 _ _ _ (s0 _ _ _ HR02.out)), s1 _ _ _ (s1 _ _ _ (s1 _ _ _ HR12.out)), ((HB2.out.setCell (by simp; omega) _).setCell (by simp; omega) _).setCell (by simp; omega) _⟩
          case measure => simp [intOf]; omega
        · have hjj : j = kids.length := by omega
          subst hjj
          have h0 := HR0.out
          have q0 : wr.cell? ⟨w.heap.size, 0, none⟩ = some (.int .i64 k) := h0.cell 0
          have q1 : wr.cell? ⟨w.heap.size, 1, none⟩ = some (.int .i64 v) := h0.cell 1
          have q2 : wr.cell? ⟨w.heap.size, 2, none⟩ = some (.slice K kids.length cp) := h0.cell 2
          clear h0 HR0
          go_wp2_with fail
          refine (occ_any d k v kids K (some ⟨w2.heap.size, 0, none⟩) kids.length cp kids.length w2.heap.size _ HSh.out (fun i x hx => ⟨rfl, HL.out⟩)).mono ?_
          rintro e' w3 ⟨rfl, hb3⟩
          obtain ⟨b0, b1, b2, hM⟩ := HM.out
          rw [hM]
          have HM' := Lib.hid hM
          have h1 := HR1.out.under hb3 HR1.out.lt
          have y0 : w3.cell? ⟨w.heap.size + 1, 0, none⟩ = some (.bool false) := h1.cell 0
          have y1 : w3.cell? ⟨w.heap.size + 1, 1, none⟩ = some (.bool false) := h1.cell 1
          have y2 : w3.cell? ⟨w.heap.size + 1, 2, none⟩ = some (.bool false) := h1.cell 2
          have z0 := h1.frozen 0
          have z1 := h1.frozen 1
          have z2 := h1.frozen 2
          have HB3 := Lib.hid (HB.out.trans (hb3.mono HB.out.size))
          clear hb3 hM h1 HR1 HB
          go_wp2_with fail
          refine bodyPost_ret (v := .agg (tri (occ (d + 1) (.node k v kids)))) (by rw [HM'.out]; simp [results, Try.results34, go_sem, y0, y1, y2]) rfl ?_
          exact ⟨rfl, occ_end HB3.out (by omega) _ _ _⟩

end Go.Proofs.Ytkcgjgdcmdjcfaa

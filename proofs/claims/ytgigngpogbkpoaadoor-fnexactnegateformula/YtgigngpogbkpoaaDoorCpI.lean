/- The walks of impl.foldTree where it copies a formula, and of impl.copyFormula. -/
import Derived.Test.YtgigngpogbkpoaaDoorT1F
import Derived.Test.YtgigngpogbkpoaaDoorW7F
import Derived.Test.YtgigngpogbkpoaaDoorFvR
namespace Go.Proofs.YtgigngpogbkpoaaDoor
open Go.RowKit

set_option maxHeartbeats 400000 in
set_option maxRecDepth 100000 in
theorem cpNode_any (k v : Int) (K A : Option Addr) (n cp m cap : Nat) (w : World) : Calls Tryd.prog 38 #[.agg #[.int .i64 k, .int .i64 v, .slice K n cp], .slice A m cap] w fun e' w' => e' = .returned (.agg #[.int .i64 k, .int .i64 v, .slice A m cap]) ∧ Below w.heap.size w w' := by
  go_enter Tryd.func38, Tryd.ntmps38
  go_wp2_with fail
  refine bodyPost_ret (v := .agg #[.int .i64 k, .int .i64 v, .slice A m cap]) (by simp [results, Tryd.results38, go_sem]) rfl ?_
  refine ⟨rfl, ?_⟩
  first
    | exact ((Below.refl _ _).alloc (Nat.le_refl _) _).alloc (by simp) _
    | exact occ_end (((Below.refl _ _).alloc (Nat.le_refl _) _).alloc (by simp) _) (by omega) _ _ _

theorem cpClo (k v : Int) (K A : Option Addr) (n cp cap lo m : Nat) (ks : List Ex) (w : World) (hm : m = ks.length) (h : SepF w lo w.heap.size (.node k v ks) (.int .i64 k) (.int .i64 v) (.slice A ks.length cap)) :
    Calls Tryd.prog 38 #[.agg #[.int .i64 k, .int .i64 v, .slice K n cp], .slice A m cap] w (SepPostF lo (.node k v ks) w) :=
  (cpNode_any k v K A n cp m cap w).mono fun e' w' ⟨h1, hb⟩ => ⟨_, _, _, h1, by rw [hm]; exact (h.under hb (Nat.le_refl _)).more (Nat.le_refl _) hb.size, hb⟩

def CfSaid (e : Ex) : Prop := ∀ (c0 c1 c2 : Value) (w : World), Lies w w.heap.size e c0 c1 c2 → desc e ≤ 1048576 →
    Calls Tryd.prog 37 #[.agg #[c0, c1, c2], .func (.func 38) #[] #[]] w (SepPostF w.heap.size e w)

set_option maxHeartbeats 1000000 in
set_option maxRecDepth 100000 in
theorem cf_any : ∀ e : Ex, CfSaid e := by
  intro e
  induction e using Ex.ind with
  | h k v kids ih =>
    intro c0 c1 c2 w hL hd
    obtain ⟨K, cp, kb, ko, C0, C1, C2, rfl, rfl, rfl, hl, hO⟩ := hL.open_
    have HIH := Lib.hid ih
    have HO := Lib.hid hO
    simp only [desc] at hd
    have hlen : kids.length ≤ 1048576 := by have := descL_length kids; omega
    have HD : Hid (∀ (i : Nat) (x : Ex), kids[i]? = some x → desc x ≤ 1048576) := fun i x hx => by have := descL_mem (List.mem_of_getElem? hx); omega
    clear ih hL hO hl hd
    obtain ⟨W2, hW2⟩ : ∃ W2, W2 = (w.alloc (.cells #[.int .i64 k, .int .i64 v, .slice K kids.length cp] 29)).alloc (.cells #[.int .i64 0, .int .i64 0, .slice none 0 0] 29) := ⟨_, rfl⟩
    have hrows := two_boxes w 29 #[.int .i64 k, .int .i64 v, .slice K kids.length cp] #[.int .i64 0, .int .i64 0, .slice none 0 0]
    rw [← hW2] at hrows
    obtain ⟨hr0, hr1, hb2⟩ := hrows
    have HW2 := Lib.hid hW2
    have HR0 := Lib.hid hr0
    have HR1 := Lib.hid hr1
    have HB2 := Lib.hid hb2
    have hs2 : W2.heap.size = w.heap.size + 2 := by rw [hW2]; simp
    clear hW2 hr0 hr1 hb2
    go_enter Tryd.func37, Tryd.ntmps37
    go_wp2_with fail
    rw [← HW2.out]
    refine (operandsF_any k v K kids.length cp _).mono ?_
    rintro e' w1 ⟨rfl, hb1⟩
    have hsz1 := hb1.size
    have HR01 := Lib.hid (HR0.out.under hb1 HR0.out.lt)
    have HR11 := Lib.hid (HR1.out.under hb1 HR1.out.lt)
    have HB1 := Lib.hid (HB2.out.trans (hb1.mono HB2.out.size))
    clear hb1 HR0 HR1 HB2 HW2
    by_cases hz0 : kids.length = 0
    · obtain rfl : kids = [] := List.length_eq_zero_iff.1 hz0
      clear HO hz0 hlen
      go_wp2_with fail
      go_loopw [20] (fun i wl => i = .int .i64 0 ∧ Hid (Row wl w.heap.size 29 #[.int .i64 k, .int .i64 v, .slice K 0 cp]) ∧ Hid (Row wl (w.heap.size + 1) 29 #[.int .i64 0, .int .i64 0, .slice none 0 0]) ∧ Hid (Below w.heap.size w wl)) (fun _ _ => 0)
      case atStart => exact ⟨rfl, HR01, HR11, HB1⟩
      case round =>
        clear HR01 HR11 HB1
        obtain ⟨rfl, HR0, HR1, HB⟩ := hrel
        have h0 := HR0.out
        have q0 : wr.cell? ⟨w.heap.size, 0, none⟩ = some (.int .i64 k) := h0.cell 0
        have q1 : wr.cell? ⟨w.heap.size, 1, none⟩ = some (.int .i64 v) := h0.cell 1
        have q2 : wr.cell? ⟨w.heap.size, 2, none⟩ = some (.slice K 0 cp) := h0.cell 2
        have hN1 := HR1.out.lt
        clear h0 HR0
        go_wp2_with fail
        refine (cpClo k v K none 0 cp 0 (w.heap.size + 1 + 1) 0 [] _ rfl (SepF.leaf _ _ _ k v none 0)).mono ?_
        rintro e' w3 ⟨d0, d1, d2, rfl, hsp, hb3⟩
        obtain ⟨i0, i1, ia, il, ic, rfl, rfl, rfl⟩ := hsp.form
        have HSp := Lib.hid hsp
        have h1 := HR1.out.under hb3 HR1.out.lt
        have y0 : w3.cell? ⟨w.heap.size + 1, 0, none⟩ = some (.int .i64 0) := h1.cell 0
        have y1 : w3.cell? ⟨w.heap.size + 1, 1, none⟩ = some (.int .i64 0) := h1.cell 1
        have y2 : w3.cell? ⟨w.heap.size + 1, 2, none⟩ = some (.slice none 0 0) := h1.cell 2
        have z0 := h1.frozen 0
        have z1 := h1.frozen 1
        have z2 := h1.frozen 2
        have HB3 := Lib.hid (HB.out.trans (hb3.mono HB.out.size))
        clear hb3 h1 HR1 HB hsp
        go_wp2_with fail
        refine bodyPost_ret (v := .agg #[.int .i64 i0, .int .i64 i1, .slice ia il ic]) (by simp [results, Tryd.results37, go_sem, y0, y1, y2]) rfl ?_
        have hfin := sep_endF HB3.out (n := w.heap.size + 1) (by omega) (by omega) (.int .i64 i0) (.int .i64 i1) (.slice ia il ic) HSp.out
        exact ⟨_, _, _, rfl, hfin.1.more (by omega) (Nat.le_refl _), hfin.2⟩
    · obtain ⟨i0, hi0, hz0', hz1, hz2⟩ := info_parts Tryd.info29
      have hmk := run_make_of (P := Tryd.prog) 27 29 i0 _ Tryd.underlying27 hi0 hz0' kids.length (by rw [hz2]; omega) (by omega)
      rw [hz1] at hmk
      clear hi0 hz0' hz1 hz2
      obtain ⟨cs, hcs⟩ : ∃ cs, cs = madeCells (Value.cells (.agg #[.int .i64 0, .int .i64 0, .slice none 0 0])) (kids.length * 3) := ⟨_, rfl⟩
      have hsz : cs.size = kids.length * 3 := by rw [hcs, size_madeCells]
      rw [← hcs] at hmk
      have HSZ := Lib.hid hsz
      clear hcs hsz
      have hpos : 0 < kids.length := by omega
      clear hz0
      have hG2 : w.heap.size + 2 ≤ w1.heap.size := by omega
      clear hsz1 hs2
      go_wp2_with fail
      go_loopw [20] (fun i wl => ∃ j : Nat, j ≤ kids.length ∧ i = .int .i64 j ∧ Hid (LaidSF wl w1.heap.size kids j) ∧ Hid (Row wl w.heap.size 29 #[.int .i64 k, .int .i64 v, .slice K kids.length cp]) ∧ Hid (Row wl (w.heap.size + 1) 29 #[.int .i64 0, .int .i64 0, .slice none 0 0]) ∧ Hid (Below w.heap.size w wl)) (fun i _ => kids.length - (intOf i).toNat)
      case atStart =>
        have h := LaidSF.start (w := w1) (ks := kids) HSZ.out
        have hb : Below w1.heap.size w1 (w1.alloc (.cells cs 29)) := (Below.refl _ _).alloc (Nat.le_refl _) _
        exact ⟨0, Nat.zero_le _, rfl, h, HR01.out.under hb HR01.out.lt, HR11.out.under hb HR11.out.lt, HB1.out.trans (hb.mono HB1.out.size)⟩
      case round =>
        clear hmk HSZ HR01 HR11 HB1
        obtain ⟨j, hj, rfl, HL, HR0, HR1, HB⟩ := hrel
        by_cases hlt : j < kids.length
        · obtain ⟨x, hx⟩ : ∃ x, kids[j]? = some x := ⟨_, List.getElem?_eq_getElem hlt⟩
          obtain ⟨rfl, hb, g0, g1, g2, gl⟩ := HO.out.below HB.out j x hx
          have HX := Lib.hid hx
          obtain ⟨n0, n1, a2, l2, cp2, q0, q1, q2⟩ := gl.form
          rw [q0] at g0
          rw [q1] at g1
          rw [q2] at g2
          have hsz : w.heap.size ≤ wr.heap.size := HB.out.size
          have hlw : w1.heap.size < wr.heap.size := HL.out.lt
          have hb1 : Below wr.heap.size wr (wr.alloc (.cells #[.int .i64 n0, .int .i64 n1, .slice a2 l2 cp2] 29)) := (Below.refl _ _).alloc (Nat.le_refl _) _
          have HQ : Hid (Lies (wr.alloc (.cells #[.int .i64 n0, .int .i64 n1, .slice a2 l2 cp2] 29)) (wr.alloc (.cells #[.int .i64 n0, .int .i64 n1, .slice a2 l2 cp2] 29)).heap.size x (.int .i64 n0) (.int .i64 n1) (.slice a2 l2 cp2)) := by
            rw [q0, q1, q2] at gl
            exact (gl.alloc (by omega) _).more (by simp; omega)
          have HL1 := Lib.hid (HL.out.under hb1)
          have HR01 := Lib.hid (HR0.out.under hb1 HR0.out.lt)
          have HR11 := Lib.hid (HR1.out.under hb1 HR1.out.lt)
          have HB1 := Lib.hid (HB.out.trans (hb1.mono hsz))
          clear gl hx q0 q1 q2 hb1 HL HB HR0 HR1
          go_wp2_with fail
          refine (HIH.out j x HX.out _ _ _ _ HQ.out (HD.out j x HX.out)).mono ?_
          rintro e' w2 ⟨d0, d1, d2, rfl, hsp, hb2⟩
          obtain ⟨i0, i1, ia, il, ic, rfl, rfl, rfl⟩ := hsp.form
          have hl2 := HL1.out.under hb2
          obtain ⟨⟨u0, u1, u2, f0, f1, f2⟩, hfz⟩ := hl2.cells (by omega)
          have fz0 := hfz (j * 3)
          have fz1 := hfz (j * 3 + 1)
          have fz2 := hfz (j * 3 + 2)
          have HST := Lib.hid (HL1.out.step hb2 (by omega) HX.out hsp)
          have HR02 := Lib.hid (HR01.out.under hb2 HR01.out.lt)
          have HR12 := Lib.hid (HR11.out.under hb2 HR11.out.lt)
          have HB2 := Lib.hid (HB1.out.trans (hb2.mono HB1.out.size))
          clear hb2 hl2 hsp g0 g1 g2 hfz HR01 HR11 HL1 HB1 HQ
          go_wp2_with fail
          go_roundw
          case rel =>
            have s0 := fun (W : World) (i : Nat) (u : Value) (h : Row W w.heap.size 29 #[.int .i64 k, .int .i64 v, .slice (some ⟨kb, ko, none⟩) kids.length cp]) => h.grown (grown_set W w1.heap.size i u) (by omega)
            have s1 := fun (W : World) (i : Nat) (u : Value) (h : Row W (w.heap.size + 1) 29 #[.int .i64 0, .int .i64 0, .slice none 0 0]) => h.grown (grown_set W w1.heap.size i u) (by omega)
            exact ⟨j + 1, by omega, by go_num, HST, s0 _ _ _ (s0 _ _ _ (s0 _ _ _ HR02.out)), s1 _ _ _ (s1 _ _ _ (s1 _ _ _ HR12.out)), ((HB2.out.setCell (by simp; omega) _).setCell (by simp; omega) _).setCell (by simp; omega) _⟩
          case measure => simp [intOf]; omega
        · have hjj : j = kids.length := by omega
          subst hjj
          have h0 := HR0.out
          have q0 : wr.cell? ⟨w.heap.size, 0, none⟩ = some (.int .i64 k) := h0.cell 0
          have q1 : wr.cell? ⟨w.heap.size, 1, none⟩ = some (.int .i64 v) := h0.cell 1
          have q2 : wr.cell? ⟨w.heap.size, 2, none⟩ = some (.slice K kids.length cp) := h0.cell 2
          have hN1 := HR1.out.lt
          have hwl : w1.heap.size < wr.heap.size := HL.out.lt
          have hse := HL.out.sep (lo := w1.heap.size) (by unfold maxLen; omega) (Nat.le_refl _) k v kids.length
          have HSe := Lib.hid hse
          clear h0 HR0 hse
          go_wp2_with fail
          refine (cpClo k v K (some ⟨w1.heap.size, 0, none⟩) kids.length cp kids.length w1.heap.size kids.length kids _ rfl HSe.out).mono ?_
          rintro e' w3 ⟨d0, d1, d2, rfl, hsp, hb3⟩
          obtain ⟨i0, i1, ia, il, ic, rfl, rfl, rfl⟩ := hsp.form
          have HSp := Lib.hid hsp
          have h1 := HR1.out.under hb3 HR1.out.lt
          have y0 : w3.cell? ⟨w.heap.size + 1, 0, none⟩ = some (.int .i64 0) := h1.cell 0
          have y1 : w3.cell? ⟨w.heap.size + 1, 1, none⟩ = some (.int .i64 0) := h1.cell 1
          have y2 : w3.cell? ⟨w.heap.size + 1, 2, none⟩ = some (.slice none 0 0) := h1.cell 2
          have z0 := h1.frozen 0
          have z1 := h1.frozen 1
          have z2 := h1.frozen 2
          have HB3 := Lib.hid (HB.out.trans (hb3.mono HB.out.size))
          clear hb3 h1 HR1 HB hsp HSe
          go_wp2_with fail
          refine bodyPost_ret (v := .agg #[.int .i64 i0, .int .i64 i1, .slice ia il ic]) (by simp [results, Tryd.results37, go_sem, y0, y1, y2]) rfl ?_
          have hfin := sep_endF HB3.out (n := w.heap.size + 1) (by omega) (by omega) (.int .i64 i0) (.int .i64 i1) (.slice ia il ic) HSp.out
          exact ⟨_, _, _, rfl, hfin.1.more (by omega) (Nat.le_refl _), hfin.2⟩

set_option maxHeartbeats 400000 in
set_option maxRecDepth 100000 in
theorem cpI_any (e : Ex) (c0 c1 c2 : Value) (w : World) (hL : Lies w w.heap.size e c0 c1 c2) (hd : desc e ≤ 1048576) :
    Calls Tryd.prog 29 #[.agg #[c0, c1, c2]] w (SepPostF w.heap.size e w) := by
  obtain ⟨n0, n1, a2, l2, cp2, rfl, rfl, rfl⟩ := hL.form
  obtain ⟨W2, hW2⟩ : ∃ W2, W2 = (w.alloc (.cells #[.int .i64 n0, .int .i64 n1, .slice a2 l2 cp2] 29)).alloc (.cells #[.int .i64 0, .int .i64 0, .slice none 0 0] 29) := ⟨_, rfl⟩
  have hrows := two_boxes w 29 #[.int .i64 n0, .int .i64 n1, .slice a2 l2 cp2] #[.int .i64 0, .int .i64 0, .slice none 0 0]
  rw [← hW2] at hrows
  obtain ⟨hr0, hr1, hb2⟩ := hrows
  have HW2 := Lib.hid hW2
  have HR1 := Lib.hid hr1
  have HB2 := Lib.hid hb2
  have HL := Lib.hid (below_more hL hb2 hb2.size)
  have hs2 : W2.heap.size = w.heap.size + 2 := by rw [hW2]; simp
  clear hW2 hr0 hr1 hb2 hL
  go_enter Tryd.func29, Tryd.ntmps29
  go_wp2_with fail
  rw [← HW2.out]
  refine (cf_any e _ _ _ _ HL.out hd).mono ?_
  rintro e' w3 ⟨d0, d1, d2, rfl, hsp, hb3⟩
  obtain ⟨i0, i1, ia, il, ic, rfl, rfl, rfl⟩ := hsp.form
  have HSp := Lib.hid hsp
  have h1 := HR1.out.under hb3 HR1.out.lt
  have y0 : w3.cell? ⟨w.heap.size + 1, 0, none⟩ = some (.int .i64 0) := h1.cell 0
  have y1 : w3.cell? ⟨w.heap.size + 1, 1, none⟩ = some (.int .i64 0) := h1.cell 1
  have y2 : w3.cell? ⟨w.heap.size + 1, 2, none⟩ = some (.slice none 0 0) := h1.cell 2
  have z0 := h1.frozen 0
  have z1 := h1.frozen 1
  have z2 := h1.frozen 2
  have HB3 := Lib.hid (HB2.out.trans (hb3.mono HB2.out.size))
  have HS2 := Lib.hid hs2
  clear hb3 h1 HR1 HB2 hsp hs2
  go_wp2_with fail
  refine bodyPost_ret (v := .agg #[.int .i64 i0, .int .i64 i1, .slice ia il ic]) (by simp [results, Tryd.results29, go_sem, y0, y1, y2]) rfl ?_
  have hfin := sep_endF HB3.out (n := w.heap.size + 1) (by omega) (by have := HS2.out; omega) (.int .i64 i0) (.int .i64 i1) (.slice ia il ic) HSp.out
  exact ⟨_, _, _, rfl, hfin.1.more (by have := HS2.out; omega) (Nat.le_refl _), hfin.2⟩

end Go.Proofs.YtgigngpogbkpoaaDoor

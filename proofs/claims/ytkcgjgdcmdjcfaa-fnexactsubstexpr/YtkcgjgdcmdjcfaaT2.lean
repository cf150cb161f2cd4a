/- The walk of the fold that copies. -/
import Derived.Test.YtkcgjgdcmdjcfaaT1b
import Derived.Test.YtkcgjgdcmdjcfaaOpE
namespace Go.Proofs.Ytkcgjgdcmdjcfaa
open Go.RowKit

theorem cloC (k v : Int) (K A : Option Addr) (n cp cap lo m : Nat) (ks : List Ex) (w : World) (hm : m = ks.length) (h : Sep w lo w.heap.size (.node k v ks) (.int .i64 k) (.int .i64 v) (.slice A ks.length cap)) :
    Calls Try.prog 47 #[.agg #[.int .i64 k, .int .i64 v, .slice K n cp], .slice A m cap] w (SepPost lo (.node k v ks) w) :=
  (rebuild_any k v K A n cp m cap w).mono fun e' w' ⟨h1, hb⟩ => ⟨_, _, _, h1, by rw [hm]; exact (h.under hb (Nat.le_refl _)).more (Nat.le_refl _) hb.size, hb⟩

def FoldCSaid (d : Nat) : Prop := ∀ (e : Ex) (c0 c1 c2 : Value) (w : World), shape d e = true → Lies w w.heap.size e c0 c1 c2 →
    Calls Try.prog 45 #[.agg #[c0, c1, c2], .func (.func 47) #[] #[]] w (SepPost w.heap.size e w)

set_option maxHeartbeats 1000000 in
set_option maxRecDepth 100000 in
theorem foldC_any : ∀ d : Nat, FoldCSaid d := by
  intro d
  induction d with
  | zero => intro e c0 c1 c2 w h; simp [shape] at h
  | succ d ih =>
    rintro ⟨k, v, kids⟩ c0 c1 c2 w hs hL 
    obtain ⟨K, cp, kb, ko, C0, C1, C2, rfl, rfl, rfl, hl, hO⟩ := hL.open_
    have HIH := Lib.hid ih
    have HO := Lib.hid hO
    have HK : Hid (∀ (i : Nat) (x : Ex), kids[i]? = some x → shape d x = true) := fun i x hx => shape_kid hs hx
    have hlen : kids.length ≤ 2 := by have := rootOk_parts (shape_root hs); omega
    obtain ⟨ks, hks⟩ : ∃ ks, ks = kids := ⟨_, rfl⟩
    have hkl : ks.length = kids.length := by rw [hks]
    have HKx : Hid (∀ (i : Nat) (x : Ex), kids[i]? = some x → ks[i]? = some x) := fun i x hx => by rw [hks]; exact hx
    have HKs := Lib.hid hks
    clear hks
    clear ih hL hO hs hl
    by_cases hz0 : kids.length = 0
    · obtain rfl : kids = [] := List.length_eq_zero_iff.1 hz0
      obtain rfl : ks = [] := List.length_eq_zero_iff.1 (by rw [hkl]; exact hz0)
      clear HK HO hz0 hlen
      obtain ⟨W1, hW1⟩ : ∃ W1, W1 = (w.alloc (.cells #[.int .i64 k, .int .i64 v, .slice K 0 cp] 25)).alloc (.cells #[.int .i64 0, .int .i64 0, .slice none 0 0] 25) := ⟨_, rfl⟩
      have hrr := pair_rows w #[.int .i64 k, .int .i64 v, .slice K 0 cp] #[.int .i64 0, .int .i64 0, .slice none 0 0]
      rw [← hW1] at hrr
      have HRa := Lib.hid hrr.1
      have HRb := Lib.hid hrr.2.1
      have HB0 := Lib.hid hrr.2.2
      have HW1 := Lib.hid hW1
      have q0 : W1.cell? ⟨w.heap.size, 0, none⟩ = some (.int .i64 k) := HRa.out.cell 0
      have q1 : W1.cell? ⟨w.heap.size, 1, none⟩ = some (.int .i64 v) := HRa.out.cell 1
      have q2 : W1.cell? ⟨w.heap.size, 2, none⟩ = some (.slice K 0 cp) := HRa.out.cell 2
      have hlt1 : w.heap.size < W1.heap.size := HRa.out.lt
      clear hW1 hrr
      go_enter Try.func45, Try.ntmps45
      go_wp2_with fail
      rw [← HW1.out]
      go_wp2_with fail
      refine (operandsF_any k v K 0 cp _).mono ?_
      rintro e' w2 ⟨rfl, hbo⟩
      have HR0 := Lib.hid (HRa.out.under hbo HRa.out.lt)
      have HR1 := Lib.hid (HRb.out.under hbo HRb.out.lt)
      have HBo : Hid (Below w.heap.size w w2) := HB0.out.trans (hbo.mono HB0.out.size)
      have HL2 : Hid (w.heap.size + 1 < w2.heap.size) := HR1.out.lt
      clear hbo q0 q1 q2 hlt1
      go_wp2_with fail
      go_loopw [20] (fun i wl => i = .int .i64 0 ∧ Hid (Row wl w.heap.size 25 #[.int .i64 k, .int .i64 v, .slice K 0 cp]) ∧ Hid (Row wl (w.heap.size + 1) 25 #[.int .i64 0, .int .i64 0, .slice none 0 0]) ∧ Hid (Below w.heap.size w wl)) (fun _ _ => 0)
      case atStart => exact ⟨rfl, HR0, HR1, HBo⟩
      case round =>
        clear HR0 HR1
        obtain ⟨rfl, HR0, HR1, HB⟩ := hrel
        have h0 := HR0.out
        have q0 : wr.cell? ⟨w.heap.size, 0, none⟩ = some (.int .i64 k) := h0.cell 0
        have q1 : wr.cell? ⟨w.heap.size, 1, none⟩ = some (.int .i64 v) := h0.cell 1
        have q2 : wr.cell? ⟨w.heap.size, 2, none⟩ = some (.slice K 0 cp) := h0.cell 2
        have hN1 := HR1.out.lt
        clear h0 HR0
        go_wp2_with fail
        refine (cloC k v K none 0 cp 0 (w.heap.size + 1 + 1) 0 [] _ rfl (Sep.leaf _ _ _ k v none 0)).mono ?_
        rintro e' w3 ⟨d0, d1, d2, rfl, hsp, hb3⟩
        obtain ⟨i0, i1, ia, il, ic, rfl, rfl, rfl⟩ := hsp.form
        have HSp := Lib.hid hsp
        have h1 := HR1.out.under hb3 HR1.out.lt
        have y0 : w3.cell? ⟨w.heap.size + 1, 0, none⟩ = some (.int .i64 0) := h1.cell 0
        have y1 : w3.cell? ⟨w.heap.size + 1, 1, none⟩ = some (.int .i64 0) := h1.cell 1
        have y2 : w3.cell? ⟨w.heap.size + 1, 2, none⟩ = some (.slice none 0 0) := h1.cell 2
        have z0 := h1.frozen 0
        have z1 := h1.frozen 1
        have z2 := h1.frozen 2
        have HB3 := Lib.hid (HB.out.trans (hb3.mono HB.out.size))
        clear hb3 h1 HR1 HB hsp
        go_wp2_with fail
        refine bodyPost_ret (v := .agg #[.int .i64 i0, .int .i64 i1, .slice ia il ic]) (by simp [results, Try.results45, go_sem, y0, y1, y2]) rfl ?_
        have hfin := sep_end HB3.out (n := w.heap.size + 1) (by omega) (by omega) (.int .i64 i0) (.int .i64 i1) (.slice ia il ic) HSp.out
        exact ⟨_, _, _, rfl, hfin.1.more (by omega) (Nat.le_refl _), hfin.2⟩
    · obtain ⟨i0, hi0, hz0', hz1, hz2⟩ := info_parts Try.info25
      have hmk := run_make_of (P := Try.prog) 23 25 i0 _ Try.underlying23 hi0 hz0' kids.length (by rw [hz2]; omega) (by omega)
      rw [hz1] at hmk
      clear hi0 hz0' hz1 hz2
      obtain ⟨cs, hcs⟩ : ∃ cs, cs = madeCells (Value.cells (.agg #[.int .i64 0, .int .i64 0, .slice none 0 0])) (kids.length * 3) := ⟨_, rfl⟩
      have hsz : cs.size = ks.length * 3 := by rw [hcs, size_madeCells, hkl]
      rw [← hcs] at hmk
      have HSZ := Lib.hid hsz
      clear hcs hsz
      have hpos : 0 < kids.length := by omega
      clear hz0
      obtain ⟨W1, hW1⟩ : ∃ W1, W1 = (w.alloc (.cells #[.int .i64 k, .int .i64 v, .slice K kids.length cp] 25)).alloc (.cells #[.int .i64 0, .int .i64 0, .slice none 0 0] 25) := ⟨_, rfl⟩
      have hrr := pair_rows w #[.int .i64 k, .int .i64 v, .slice K kids.length cp] #[.int .i64 0, .int .i64 0, .slice none 0 0]
      rw [← hW1] at hrr
      have HRa := Lib.hid hrr.1
      have HRb := Lib.hid hrr.2.1
      have HB0 := Lib.hid hrr.2.2
      have HW1 := Lib.hid hW1
      have q0 : W1.cell? ⟨w.heap.size, 0, none⟩ = some (.int .i64 k) := HRa.out.cell 0
      have q1 : W1.cell? ⟨w.heap.size, 1, none⟩ = some (.int .i64 v) := HRa.out.cell 1
      have q2 : W1.cell? ⟨w.heap.size, 2, none⟩ = some (.slice K kids.length cp) := HRa.out.cell 2
      have hlt1 : w.heap.size < W1.heap.size := HRa.out.lt
      clear hW1 hrr
      go_enter Try.func45, Try.ntmps45
      go_wp2_with fail
      rw [← HW1.out]
      go_wp2_with fail
      refine (operandsF_any k v K kids.length cp _).mono ?_
      rintro e' w2 ⟨rfl, hbo⟩
      have HR0 := Lib.hid (HRa.out.under hbo HRa.out.lt)
      have HR1 := Lib.hid (HRb.out.under hbo HRb.out.lt)
      have HBo : Hid (Below w.heap.size w w2) := HB0.out.trans (hbo.mono HB0.out.size)
      have HL2 : Hid (w.heap.size + 1 < w2.heap.size) := HR1.out.lt
      clear hbo q0 q1 q2 hlt1
      go_wp2_with fail
      go_loopw [20] (fun i wl => ∃ j : Nat, j ≤ kids.length ∧ i = .int .i64 j ∧ Hid (LaidS wl w2.heap.size ks j) ∧ Hid (Row wl w.heap.size 25 #[.int .i64 k, .int .i64 v, .slice K kids.length cp]) ∧ Hid (Row wl (w.heap.size + 1) 25 #[.int .i64 0, .int .i64 0, .slice none 0 0]) ∧ Hid (Below w.heap.size w wl)) (fun i _ => kids.length - (intOf i).toNat)
      case atStart =>
        have hb : Below w2.heap.size w2 (w2.alloc (.cells cs 25)) := (Below.refl _ _).alloc (Nat.le_refl _) _
        exact ⟨0, Nat.zero_le _, rfl, LaidS.start (w := w2) HSZ.out, HR0.out.under hb HR0.out.lt, HR1.out.under hb HR1.out.lt, HBo.out.trans (hb.mono HBo.out.size)⟩
      case round =>
        clear hmk HSZ HR0 HR1
        have hL2 := HL2.out
        obtain ⟨j, hj, rfl, HL, HR0, HR1, HB⟩ := hrel
        by_cases hlt : j < kids.length
        · obtain ⟨x, hx⟩ : ∃ x, kids[j]? = some x := ⟨_, List.getElem?_eq_getElem hlt⟩
          obtain ⟨rfl, hb, g0, g1, g2, gl⟩ := HO.out.below HB.out j x hx
          have HX := Lib.hid hx
          obtain ⟨n0, n1, a2, l2, cp2, q0, q1, q2⟩ := gl.form
          rw [q0] at g0
          rw [q1] at g1
          rw [q2] at g2
          have hsz : w.heap.size ≤ wr.heap.size := HB.out.size
          have hlw : w2.heap.size < wr.heap.size := HL.out.lt
          have hb1 : Below wr.heap.size wr (wr.alloc (.cells #[.int .i64 n0, .int .i64 n1, .slice a2 l2 cp2] 25)) := (Below.refl _ _).alloc (Nat.le_refl _) _
          have HQ : Hid (Lies (wr.alloc (.cells #[.int .i64 n0, .int .i64 n1, .slice a2 l2 cp2] 25)) (wr.alloc (.cells #[.int .i64 n0, .int .i64 n1, .slice a2 l2 cp2] 25)).heap.size x (.int .i64 n0) (.int .i64 n1) (.slice a2 l2 cp2)) := by
            rw [q0, q1, q2] at gl
            exact (gl.alloc (by omega) _).more (by simp; omega)
          have HL1 := Lib.hid (HL.out.under hb1)
          have HR01 := Lib.hid (HR0.out.under hb1 HR0.out.lt)
          have HR11 := Lib.hid (HR1.out.under hb1 HR1.out.lt)
          have HB1 := Lib.hid (HB.out.trans (hb1.mono hsz))
          clear gl hx q0 q1 q2 hb1 HL HB HR0 HR1
          go_wp2_with fail
          refine (HIH.out x _ _ _ _ (HK.out j x HX.out) HQ.out ).mono ?_
          rintro e' w5 ⟨d0, d1, d2, rfl, hsp, hb2⟩
          obtain ⟨i0, i1, ia, il, ic, rfl, rfl, rfl⟩ := hsp.form
          have hl2 := HL1.out.under hb2
          obtain ⟨⟨u0, u1, u2, f0, f1, f2⟩, hfz⟩ := hl2.cells (by omega)
          have fz0 := hfz (j * 3)
          have fz1 := hfz (j * 3 + 1)
          have fz2 := hfz (j * 3 + 2)
          have HST := Lib.hid (HL1.out.step hb2 (by omega) (HKx.out j x HX.out) hsp)
          have HR02 := Lib.hid (HR01.out.under hb2 HR01.out.lt)
          have HR12 := Lib.hid (HR11.out.under hb2 HR11.out.lt)
          have HB2 := Lib.hid (HB1.out.trans (hb2.mono HB1.out.size))
          clear hb2 hl2 hsp g0 g1 g2 hfz HR01 HR11 HL1 HB1 HQ
          go_wp2_with fail
          go_roundw
          case rel =>
            have s0 := fun (W : World) (i : Nat) (u : Value) (h : Row W w.heap.size 25 #[.int .i64 k, .int .i64 v, .slice (some ⟨kb, ko, none⟩) kids.length cp]) => h.grown (grown_set W w2.heap.size i u) (by omega)
            have s1 := fun (W : World) (i : Nat) (u : Value) (h : Row W (w.heap.size + 1) 25 #[.int .i64 0, .int .i64 0, .slice none 0 0]) => h.grown (grown_set W w2.heap.size i u) (by omega)
            exact ⟨j + 1, by omega, by go_num, HST, s0 _ _ _ (s0 _ _ _ (s0 _ _ _ HR02.out)), s1 _ _ _ (s1 _ _ _ (s1 _ _ _ HR12.out)), ((HB2.out.setCell (by simp; omega) _).setCell (by simp; omega) _).setCell (by simp; omega) _⟩
          case measure => simp [intOf]; omega
        · have hjj : j = kids.length := by omega
          subst hjj
          have h0 := HR0.out
          have q0 : wr.cell? ⟨w.heap.size, 0, none⟩ = some (.int .i64 k) := h0.cell 0
          have q1 : wr.cell? ⟨w.heap.size, 1, none⟩ = some (.int .i64 v) := h0.cell 1
          have q2 : wr.cell? ⟨w.heap.size, 2, none⟩ = some (.slice K kids.length cp) := h0.cell 2
          have hN1 := HR1.out.lt
          have hwl : w2.heap.size < wr.heap.size := HL.out.lt
          have hla := HL.out
          rw [← hkl] at hla
          have hse := hla.sep (lo := w2.heap.size) (by unfold maxLen; omega) (Nat.le_refl _) k v kids.length
          have HSe := Lib.hid hse
          clear h0 HR0 hla hse
          go_wp2_with fail
          refine (cloC k v K (some ⟨w2.heap.size, 0, none⟩) kids.length cp kids.length w2.heap.size kids.length ks _ hkl.symm HSe.out).mono ?_
          rintro e' w3 ⟨d0, d1, d2, rfl, hsp, hb3⟩
          obtain ⟨i0, i1, ia, il, ic, rfl, rfl, rfl⟩ := hsp.form
          have HSp := Lib.hid hsp
          have h1 := HR1.out.under hb3 HR1.out.lt
          have y0 : w3.cell? ⟨w.heap.size + 1, 0, none⟩ = some (.int .i64 0) := h1.cell 0
          have y1 : w3.cell? ⟨w.heap.size + 1, 1, none⟩ = some (.int .i64 0) := h1.cell 1
          have y2 : w3.cell? ⟨w.heap.size + 1, 2, none⟩ = some (.slice none 0 0) := h1.cell 2
          have z0 := h1.frozen 0
          have z1 := h1.frozen 1
          have z2 := h1.frozen 2
          have HB3 := Lib.hid (HB.out.trans (hb3.mono HB.out.size))
          clear hb3 h1 HR1 HB hsp
          go_wp2_with fail
          refine bodyPost_ret (v := .agg #[.int .i64 i0, .int .i64 i1, .slice ia il ic]) (by simp [results, Try.results45, go_sem, y0, y1, y2]) rfl ?_
          have hfin := sep_end HB3.out (n := w.heap.size + 1) (by omega) (by omega) (.int .i64 i0) (.int .i64 i1) (.slice ia il ic) HSp.out
          exact ⟨_, _, _, rfl, (by rw [← HKs.out]; exact hfin.1.more (by omega) (Nat.le_refl _)), hfin.2⟩

end Go.Proofs.Ytkcgjgdcmdjcfaa

/- The walk of the fold that copies. -/
import Derived.Test.YtgfmonhfkhkaaaaT1
namespace Go.Proofs.Ytgfmonhfkhkaaaa
open Go.RowKit

theorem cloC (k v : Int) (K A : Option Addr) (n cp cap lo m : Nat) (ks : List Ex) (w : World) (hm : m = ks.length) (h : Sep w lo w.heap.size (.node k v ks) (.int .i64 k) (.int .i64 v) (.slice A ks.length cap)) :
    Calls Try.prog 83 #[.agg #[.int .i64 k, .int .i64 v, .slice K n cp], .slice A m cap] w (SepPost lo (.node k v ks) w) :=
  (rebuild_any k v K A n cp m cap w).mono fun e' w' ⟨h1, hb⟩ => ⟨_, _, _, h1, by rw [hm]; exact (h.under hb (Nat.le_refl _)).more (Nat.le_refl _) hb.size, hb⟩

def FoldCSaid (d : Nat) : Prop := ∀ (e : Ex) (c0 c1 c2 : Value) (w : World), shape d e = true → Lies w w.heap.size e c0 c1 c2 →
    Calls Try.prog 81 #[.agg #[c0, c1, c2], .func (.func 83) #[] #[]] w (SepPost w.heap.size e w)

set_option maxHeartbeats 1000000 in
set_option maxRecDepth 100000 in
theorem foldC_any : ∀ d : Nat, FoldCSaid d := by
  intro d
  induction d with
  | zero => intro e c0 c1 c2 w h; simp [shape] at h
  | succ d ih =>
    rintro ⟨k, v, kids⟩ c0 c1 c2 w hs hL 
    obtain ⟨K, cp, kb, ko, C0, C1, C2, rfl, rfl, rfl, hl, hO⟩ := hL.open_
    have HIH := Lib.hid ih
    have HO := Lib.hid hO
    have HK : Hid (∀ (i : Nat) (x : Ex), kids[i]? = some x → shape d x = true) := fun i x hx => shape_kid hs hx
    have hlen : kids.length ≤ 2 := by have := rootOk_parts (shape_root hs); omega
    obtain ⟨ks, hks⟩ : ∃ ks, ks = kids := ⟨_, rfl⟩
    have hkl : ks.length = kids.length := by rw [hks]
    have HKx : Hid (∀ (i : Nat) (x : Ex), kids[i]? = some x → ks[i]? = some x) := fun i x hx => by rw [hks]; exact hx
    have HKs := Lib.hid hks
    clear hks
    clear ih hL hO hs hl
    by_cases hz0 : kids.length = 0
    · obtain rfl : kids = [] := List.length_eq_zero_iff.1 hz0
      obtain rfl : ks = [] := List.length_eq_zero_iff.1 (by rw [hkl]; exact hz0)
      clear HK HO hz0 hlen
      go_enter Try.func81, Try.ntmps81
      go_wp2_with fail
      go_loopw [19] (fun i wl => i = .int .i64 0 ∧ Hid (Row wl w.heap.size 35 #[.int .i64 k, .int .i64 v, .slice K 0 cp]) ∧ Hid (Row wl (w.heap.size + 1) 35 #[.int .i64 0, .int .i64 0, .slice none 0 0]) ∧ Hid (Below w.heap.size w wl)) (fun _ _ => 0)
      case atStart => exact ⟨rfl, (pair_rows w _ _).1, (pair_rows w _ _).2.1, (pair_rows w _ _).2.2⟩
      case round =>
        obtain ⟨rfl, HR0, HR1, HB⟩ := hrel
        have h0 := HR0.out
        have q0 : wr.cell? ⟨w.heap.size, 0, none⟩ = some (.int .i64 k) := h0.cell 0
        have q1 : wr.cell? ⟨w.heap.size, 1, none⟩ = some (.int .i64 v) := h0.cell 1
        have q2 : wr.cell? ⟨w.heap.size, 2, none⟩ = some (.slice K 0 cp) := h0.cell 2
        have hN1 := HR1.out.lt
        clear h0 HR0
        go_wp2_with fail
        refine (cloC k v K none 0 cp 0 (w.heap.size + 1 + 1) 0 [] _ rfl (Sep.leaf _ _ _ k v none 0)).mono ?_
        rintro e' w3 ⟨d0, d1, d2, rfl, hsp, hb3⟩
        obtain ⟨i0, i1, ia, il, ic, rfl, rfl, rfl⟩ := hsp.form
        have HSp := Lib.hid hsp
        have h1 := HR1.out.under hb3 HR1.out.lt
        have y0 : w3.cell? ⟨w.heap.size + 1, 0, none⟩ = some (.int .i64 0) := h1.cell 0
        have y1 : w3.cell? ⟨w.heap.size + 1, 1, none⟩ = some (.int .i64 0) := h1.cell 1
        have y2 : w3.cell? ⟨w.heap.size + 1, 2, none⟩ = some (.slice none 0 0) := h1.cell 2
        have z0 := h1.frozen 0
        have z1 := h1.frozen 1
        have z2 := h1.frozen 2
        have HB3 := Lib.hid (HB.out.trans (hb3.mono HB.out.size))
        clear hb3 h1 HR1 HB hsp
        go_wp2_with fail
        refine bodyPost_ret (v := .agg #[.int .i64 i0, .int .i64 i1, .slice ia il ic]) (by simp [results, Try.results81, go_sem, y0, y1, y2]) rfl ?_
        have hfin := sep_end HB3.out (n := w.heap.size + 1) (by omega) (by omega) (.int .i64 i0) (.int .i64 i1) (.slice ia il ic) HSp.out
        exact ⟨_, _, _, rfl, hfin.1.more (by omega) (Nat.le_refl _), hfin.2⟩
    · obtain ⟨i0, hi0, hz0', hz1, hz2⟩ := info_parts Try.info35
      have hmk := run_make_of (P := Try.prog) 33 35 i0 _ Try.underlying33 hi0 hz0' kids.length (by rw [hz2]; omega) (by omega)
      rw [hz1] at hmk
      clear hi0 hz0' hz1 hz2
      obtain ⟨cs, hcs⟩ : ∃ cs, cs = madeCells (Value.cells (.agg #[.int .i64 0, .int .i64 0, .slice none 0 0])) (kids.length * 3) := ⟨_, rfl⟩
      have hsz : cs.size = ks.length * 3 := by rw [hcs, size_madeCells, hkl]
      rw [← hcs] at hmk
      have HSZ := Lib.hid hsz
      clear hcs hsz
      have hpos : 0 < kids.length := by omega
      clear hz0
      go_enter Try.func81, Try.ntmps81
      go_wp2_with fail
      go_loopw [19] (fun i wl => ∃ j : Nat, j ≤ kids.length ∧ i = .int .i64 j ∧ Hid (LaidS wl (w.heap.size + 1 + 1) ks j) ∧ Hid (Row wl w.heap.size 35 #[.int .i64 k, .int .i64 v, .slice K kids.length cp]) ∧ Hid (Row wl (w.heap.size + 1) 35 #[.int .i64 0, .int .i64 0, .slice none 0 0]) ∧ Hid (Below w.heap.size w wl)) (fun i _ => kids.length - (intOf i).toNat)
      case atStart =>
        have hr := pair_rows w #[.int .i64 k, .int .i64 v, .slice K kids.length cp] #[.int .i64 0, .int .i64 0, .slice none 0 0]
        have h := LaidS.start (w := (w.alloc (.cells #[.int .i64 k, .int .i64 v, .slice K kids.length cp] 35)).alloc (.cells #[.int .i64 0, .int .i64 0, .slice none 0 0] 35)) HSZ.out
        rw [show ((w.alloc (.cells #[.int .i64 k, .int .i64 v, .slice K kids.length cp] 35)).alloc (.cells #[.int .i64 0, .int .i64 0, .slice none 0 0] 35)).heap.size = w.heap.size + 1 + 1 by simp] at h
        have hb := (Below.refl (w.heap.size + 1 + 1) ((w.alloc (.cells #[.int .i64 k, .int .i64 v, .slice K kids.length cp] 35)).alloc (.cells #[.int .i64 0, .int .i64 0, .slice none 0 0] 35))).alloc (by simp) (.cells cs 35)
        exact ⟨0, Nat.zero_le _, rfl, h, hr.1.under hb (by omega), hr.2.1.under hb (by omega), hr.2.2.trans (hb.mono (by omega))⟩
      case round =>
        clear hmk HSZ
        obtain ⟨j, hj, rfl, HL, HR0, HR1, HB⟩ := hrel
        by_cases hlt : j < kids.length
        · obtain ⟨x, hx⟩ : ∃ x, kids[j]? = some x := ⟨_, List.getElem?_eq_getElem hlt⟩
          obtain ⟨rfl, hb, g0, g1, g2, gl⟩ := HO.out.below HB.out j x hx
          have HX := Lib.hid hx
          obtain ⟨n0, n1, a2, l2, cp2, q0, q1, q2⟩ := gl.form
          rw [q0] at g0
          rw [q1] at g1
          rw [q2] at g2
          have hsz : w.heap.size ≤ wr.heap.size := HB.out.size
          have hlw : w.heap.size + 1 + 1 < wr.heap.size := HL.out.lt
          have hb1 : Below wr.heap.size wr (wr.alloc (.cells #[.int .i64 n0, .int .i64 n1, .slice a2 l2 cp2] 35)) := (Below.refl _ _).alloc (Nat.le_refl _) _
          have HQ : Hid (Lies (wr.alloc (.cells #[.int .i64 n0, .int .i64 n1, .slice a2 l2 cp2] 35)) (wr.alloc (.cells #[.int .i64 n0, .int .i64 n1, .slice a2 l2 cp2] 35)).heap.size x (.int .i64 n0) (.int .i64 n1) (.slice a2 l2 cp2)) := by
            rw [q0, q1, q2] at gl
            exact (gl.alloc (by omega) _).more (by simp; omega)
          have HL1 := Lib.hid (HL.out.under hb1)
          have HR01 := Lib.hid (HR0.out.under hb1 HR0.out.lt)
          have HR11 := Lib.hid (HR1.out.under hb1 HR1.out.lt)
          have HB1 := Lib.hid (HB.out.trans (hb1.mono hsz))
          clear gl hx q0 q1 q2 hb1 HL HB HR0 HR1
          go_wp2_with fail
          refine (HIH.out x _ _ _ _ (HK.out j x HX.out) HQ.out ).mono ?_
          rintro e' w2 ⟨d0, d1, d2, rfl, hsp, hb2⟩
          obtain ⟨i0, i1, ia, il, ic, rfl, rfl, rfl⟩ := hsp.form
          have hl2 := HL1.out.under hb2
          obtain ⟨⟨u0, u1, u2, f0, f1, f2⟩, hfz⟩ := hl2.cells (by omega)
          have fz0 := hfz (j * 3)
          have fz1 := hfz (j * 3 + 1)
          have fz2 := hfz (j * 3 + 2)
          have HST := Lib.hid (HL1.out.step hb2 (by omega) (HKx.out j x HX.out) hsp)
          have HR02 := Lib.hid (HR01.out.under hb2 HR01.out.lt)
          have HR12 := Lib.hid (HR11.out.under hb2 HR11.out.lt)
          have HB2 := Lib.hid (HB1.out.trans (hb2.mono HB1.out.size))
          clear hb2 hl2 hsp g0 g1 g2 hfz HR01 HR11 HL1 HB1 HQ
          go_wp2_with fail
          go_roundw
          case rel =>
            have s0 := fun (W : World) (i : Nat) (u : Value) (h : Row W w.heap.size 35 #[.int .i64 k, .int .i64 v, .slice (some ⟨kb, ko, none⟩) kids.length cp]) => h.grown (grown_set W (w.heap.size + 1 + 1) i u) (by omega)
            have s1 := fun (W : World) (i : Nat) (u : Value) (h : Row W (w.heap.size + 1) 35 #[.int .i64 0, .int .i64 0, .slice none 0 0]) => h.grown (grown_set W (w.heap.size + 1 + 1) i u) (by omega)
            exact ⟨j + 1, by omega, by go_num, HST, s0 _ _ _ (s0 _ _ _ (s0 _ _ _ HR02.out)), s1 _ _ _ (s1 _ _ _ (s1 _ _ _ HR12.out)), ((HB2.out.setCell (by simp; omega) _).setCell (by simp; omega) _).setCell (by simp; omega) _⟩
          case measure => simp [intOf]; omega
        · have hjj : j = kids.length := by omega
          subst hjj
          have h0 := HR0.out
          have q0 : wr.cell? ⟨w.heap.size, 0, none⟩ = some (.int .i64 k) := h0.cell 0
          have q1 : wr.cell? ⟨w.heap.size, 1, none⟩ = some (.int .i64 v) := h0.cell 1
          have q2 : wr.cell? ⟨w.heap.size, 2, none⟩ = some (.slice K kids.length cp) := h0.cell 2
          have hN1 := HR1.out.lt
          have hwl : w.heap.size + 1 + 1 < wr.heap.size := HL.out.lt
          have hla := HL.out
          rw [← hkl] at hla
          have hse := hla.sep (lo := w.heap.size + 1 + 1) (by unfold maxLen; omega) (Nat.le_refl _) k v kids.length
          have HSe := Lib.hid hse
          clear h0 HR0 hla hse
          go_wp2_with fail
          refine (cloC k v K (some ⟨w.heap.size + 1 + 1, 0, none⟩) kids.length cp kids.length (w.heap.size + 1 + 1) kids.length ks _ hkl.symm HSe.out).mono ?_
          rintro e' w3 ⟨d0, d1, d2, rfl, hsp, hb3⟩
          obtain ⟨i0, i1, ia, il, ic, rfl, rfl, rfl⟩ := hsp.form
          have HSp := Lib.hid hsp
          have h1 := HR1.out.under hb3 HR1.out.lt
          have y0 : w3.cell? ⟨w.heap.size + 1, 0, none⟩ = some (.int .i64 0) := h1.cell 0
          have y1 : w3.cell? ⟨w.heap.size + 1, 1, none⟩ = some (.int .i64 0) := h1.cell 1
          have y2 : w3.cell? ⟨w.heap.size + 1, 2, none⟩ = some (.slice none 0 0) := h1.cell 2
          have z0 := h1.frozen 0
          have z1 := h1.frozen 1
          have z2 := h1.frozen 2
          have HB3 := Lib.hid (HB.out.trans (hb3.mono HB.out.size))
          clear hb3 h1 HR1 HB hsp
          go_wp2_with fail
          refine bodyPost_ret (v := .agg #[.int .i64 i0, .int .i64 i1, .slice ia il ic]) (by simp [results, Try.results81, go_sem, y0, y1, y2]) rfl ?_
          have hfin := sep_end HB3.out (n := w.heap.size + 1) (by omega) (by omega) (.int .i64 i0) (.int .i64 i1) (.slice ia il ic) HSp.out
          exact ⟨_, _, _, rfl, (by rw [← HKs.out]; exact hfin.1.more (by omega) (Nat.le_refl _)), hfin.2⟩

end Go.Proofs.Ytgfmonhfkhkaaaa

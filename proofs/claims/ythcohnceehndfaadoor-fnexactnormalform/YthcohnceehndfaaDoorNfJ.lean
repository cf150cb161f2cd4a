/- The walk of the fold that builds the nodes of a formula. -/
import Derived.Test.YthcohnceehndfaaDoorNfH
import Derived.Test.YthcohnceehndfaaDoorFvR
import Derived.Test.YthcohnceehndfaaDoorGr
namespace Go.Proofs.YthcohnceehndfaaDoor
open Go.RowKit

def FoldNSaid (d : Nat) : Prop := ∀ (e : Ex) (c0 c1 c2 : Value) (w : World), fShape d e = true → Lies w w.heap.size e c0 c1 c2 →
    Calls Tryd.prog 38 #[.agg #[c0, c1, c2], .func (.func 39) #[] #[]] w (NewN (fun p => nf d p e) w)

set_option maxHeartbeats 1000000 in
set_option maxRecDepth 100000 in
theorem foldN_any : ∀ d : Nat, FoldNSaid d := by
  intro d
  induction d with
  | zero => intro e c0 c1 c2 w h; simp [fShape] at h
  | succ d ih =>
    rintro ⟨k, v, kids⟩ c0 c1 c2 w hs hL
    obtain ⟨K, cp, kb, ko, C0, C1, C2, rfl, rfl, rfl, hl, hO⟩ := hL.open_
    have HIH := Lib.hid ih
    have HO := Lib.hid hO
    have HK : Hid (∀ (i : Nat) (x : Ex), kids[i]? = some x → fShape d x = true) := fun i x hx => fShape_kid hs hx
    have HRo := Lib.hid (fRoot_cases (fShape_root hs))
    have hlen : kids.length ≤ 2 := by have := HRo.out; omega
    clear ih hL hO hs hl
    obtain ⟨Q, hQ⟩ : ∃ Q : Bool → Ex, Q = (fun p => nf (d + 1) p (.node k v kids)) := ⟨_, rfl⟩
    rw [← hQ]
    have HQ := Lib.hid hQ
    clear hQ
    obtain ⟨W1, hW1⟩ : ∃ W1, W1 = w.alloc (.cells #[.int .i64 k, .int .i64 v, .slice K kids.length cp] 25) := ⟨_, rfl⟩
    have hb0 : Below w.heap.size w W1 := by rw [hW1]; exact (Below.refl _ _).alloc (Nat.le_refl _) _
    have hr0 : Row W1 w.heap.size 25 #[.int .i64 k, .int .i64 v, .slice K kids.length cp] := by rw [hW1]; exact Row.new _ _ _
    have HW1 := Lib.hid hW1
    have HB0 := Lib.hid hb0
    have HR0 := Lib.hid hr0
    have hs1 : W1.heap.size = w.heap.size + 1 := by rw [hW1]; simp
    clear hW1 hb0 hr0
    go_enter Tryd.func38, Tryd.ntmps38
    go_wp2_with fail
    rw [← HW1.out]
    refine (operandsF_any k v K kids.length cp _).mono ?_
    rintro e' w1 ⟨rfl, hb1⟩
    have hsz1 : w.heap.size + 1 ≤ w1.heap.size := by have := hb1.size; omega
    have HR01 := Lib.hid (HR0.out.under hb1 HR0.out.lt)
    have HB1 := Lib.hid (HB0.out.trans (hb1.mono HB0.out.size))
    clear hb1 HR0 HB0 HW1 hs1
    by_cases hz0 : kids.length = 0
    · obtain rfl : kids = [] := List.length_eq_zero_iff.1 hz0
      have HC : Hid (∀ W : World, Calls Tryd.prog 39 #[.agg #[.int .i64 k, .int .i64 v, .slice K 0 cp], .slice none 0 0] W (NewN (fun p => nf (d + 1) p (.node k v [])) W)) := by
        intro W
        rcases HRo.out with ⟨rfl, rfl, _⟩ | ⟨rfl, h0, h2, _⟩ | ⟨_, _, h⟩ | ⟨_, _, h⟩
        · have e : (fun p => nf (d + 1) p (.node 1 0 [])) = (fun p => fLit p fTrue) := funext fun p => nf_leaf d p 0 [] (.inl rfl)
          rw [e]; exact newN_true K 0 cp _ W
        · have e : (fun p => nf (d + 1) p (.node 2 v [])) = (fun p => fLit p (.node 2 v [])) := funext fun p => nf_leaf d p v [] (.inr rfl)
          rw [e]; exact newN_atom v K 0 cp _ W
        · simp at h
        · simp at h
      rw [← HQ.out] at HC
      clear HRo HK HO hz0 hlen
      go_wp2_with fail
      go_loopw [20] (fun i wl => i = .int .i64 0 ∧ Hid (Row wl w.heap.size 25 #[.int .i64 k, .int .i64 v, .slice K 0 cp]) ∧ Hid (Below w.heap.size w wl)) (fun _ _ => 0)
      case atStart => exact ⟨rfl, HR01, HB1⟩
      case round =>
        clear HR01 HB1
        obtain ⟨rfl, HR0, HB⟩ := hrel
        have h0 := HR0.out
        have q0 : wr.cell? ⟨w.heap.size, 0, none⟩ = some (.int .i64 k) := h0.cell 0
        have q1 : wr.cell? ⟨w.heap.size, 1, none⟩ = some (.int .i64 v) := h0.cell 1
        have q2 : wr.cell? ⟨w.heap.size, 2, none⟩ = some (.slice K 0 cp) := h0.cell 2
        clear h0 HR0
        go_wp2_with fail
        refine (HC.out _).mono ?_
        rintro e' w3 ⟨nv, rfl, hn, hb3⟩
        have HN := Lib.hid hn
        have HB3 := Lib.hid (HB.out.trans (hb3.mono HB.out.size))
        clear hb3 hn
        go_wp2_with fail
        go_ret
        exact ⟨_, rfl, HN.out, HB3.out⟩
    · obtain ⟨i0, hi0, hz0', hz1, hz2⟩ := info_parts Tryd.info58
      have hmk := run_make_of (P := Tryd.prog) 84 58 i0 _ Tryd.underlying84 hi0 hz0' kids.length (by rw [hz2]; omega) (by omega)
      rw [hz1] at hmk
      clear hi0 hz0' hz1 hz2
      obtain ⟨cs, hcs⟩ : ∃ cs, cs = madeCells (Value.cells .nilIface) (kids.length * 1) := ⟨_, rfl⟩
      have hsz : cs.size = kids.length := by rw [hcs, size_madeCells]; omega
      rw [← hcs] at hmk
      have HSZ := Lib.hid hsz
      clear hcs hsz
      have hpos : 0 < kids.length := by omega
      clear hz0
      go_wp2_with fail
      go_loopw [20] (fun i wl => ∃ j : Nat, j ≤ kids.length ∧ i = .int .i64 j ∧ Hid (LaidQ wl w1.heap.size 58 (fun x nv => NIs (fun p => nf d p x) nv) kids j) ∧ Hid (Row wl w.heap.size 25 #[.int .i64 k, .int .i64 v, .slice K kids.length cp]) ∧ Hid (Below w.heap.size w wl)) (fun i _ => kids.length - (intOf i).toNat)
      case atStart =>
        have hb : Below w1.heap.size w1 (w1.alloc (.cells cs 58)) := (Below.refl _ _).alloc (Nat.le_refl _) _
        exact ⟨0, Nat.zero_le _, rfl, ⟨cs, Row.new _ _ _, HSZ.out, fun _ _ _ h => absurd h (Nat.not_lt_zero _)⟩, HR01.out.under hb HR01.out.lt, HB1.out.trans (hb.mono HB1.out.size)⟩
      case round =>
        clear hmk HSZ HR01 HB1
        obtain ⟨j, hj, rfl, HL, HR0, HB⟩ := hrel
        by_cases hlt : j < kids.length
        · obtain ⟨x, hx⟩ : ∃ x, kids[j]? = some x := ⟨_, List.getElem?_eq_getElem hlt⟩
          obtain ⟨rfl, hb, g0, g1, g2, gl⟩ := HO.out.below HB.out j x hx
          have HX := Lib.hid hx
          obtain ⟨n0, n1, a2, l2, cp2, q0, q1, q2⟩ := gl.form
          rw [q0] at g0
          rw [q1] at g1
          rw [q2] at g2
          have hsz : w.heap.size ≤ wr.heap.size := HB.out.size
          have hlw : w1.heap.size < wr.heap.size := HL.out.lt
          have hb1 : Below wr.heap.size wr (wr.alloc (.cells #[.int .i64 n0, .int .i64 n1, .slice a2 l2 cp2] 25)) := (Below.refl _ _).alloc (Nat.le_refl _) _
          have HQL : Hid (Lies (wr.alloc (.cells #[.int .i64 n0, .int .i64 n1, .slice a2 l2 cp2] 25)) (wr.alloc (.cells #[.int .i64 n0, .int .i64 n1, .slice a2 l2 cp2] 25)).heap.size x (.int .i64 n0) (.int .i64 n1) (.slice a2 l2 cp2)) := by
            rw [q0, q1, q2] at gl
            exact (gl.alloc (by omega) _).more (by simp; omega)
          have HL1 := Lib.hid (HL.out.under hb1 HL.out.lt)
          have HR01 := Lib.hid (HR0.out.under hb1 HR0.out.lt)
          have HB1 := Lib.hid (HB.out.trans (hb1.mono hsz))
          clear gl hx q0 q1 q2 hb1 HL HB HR0
          go_wp2_with fail
          refine (HIH.out x _ _ _ _ (HK.out j x HX.out) HQL.out).mono ?_
          rintro e' w2 ⟨nv, rfl, hn, hb2⟩
          obtain ⟨T, y, rfl⟩ := hn.form
          have hl2 := HL1.out.under hb2 HL1.out.lt
          obtain ⟨⟨u, f0⟩, fz⟩ := hl2.cell hlt
          have HST := Lib.hid (hl2.step hlt HX.out hn)
          have HR02 := Lib.hid (HR01.out.under hb2 HR01.out.lt)
          have HB2 := Lib.hid (HB1.out.trans (hb2.mono HB1.out.size))
          clear hb2 hl2 g0 g1 g2 hn HR01 HL1 HB1 HQL
          go_wp2_with fail
          go_roundw
          case rel => exact ⟨j + 1, by omega, by go_num, HST, HR02.out.grown (grown_set _ w1.heap.size j _) (by omega), HB2.out.setCell (by simp; omega) _⟩
          case measure => simp [intOf]; omega
        · have hjj : j = kids.length := by omega
          subst hjj
          have h0 := HR0.out
          have q0 : wr.cell? ⟨w.heap.size, 0, none⟩ = some (.int .i64 k) := h0.cell 0
          have q1 : wr.cell? ⟨w.heap.size, 1, none⟩ = some (.int .i64 v) := h0.cell 1
          have q2 : wr.cell? ⟨w.heap.size, 2, none⟩ = some (.slice K kids.length cp) := h0.cell 2
          clear h0 HR0
          go_wp2_with fail
          refine (newN_kids K kids.length cp HRo.out hpos HL.out).mono ?_
          rintro e' w3 ⟨nv, rfl, hn, hb3⟩
          rw [← HQ.out] at hn
          have HN := Lib.hid hn
          have HB3 := Lib.hid (HB.out.trans (hb3.mono HB.out.size))
          clear hb3 hn
          go_wp2_with fail
          go_ret
          exact ⟨_, rfl, HN.out, HB3.out⟩

end Go.Proofs.YthcohnceehndfaaDoor

/- The walk of impl.foldTree where it makes the text of a formula. -/
import Derived.Test.YtljjbffdenfngaaDoorFmN
import Derived.Test.YtljjbffdenfngaaDoorLtF
import Derived.Test.YtljjbffdenfngaaDoorGr
import Derived.Test.YtljjbffdenfngaaDoorW7F
namespace Go.Proofs.YtljjbffdenfngaaDoor
open Go.RowKit

theorem fnode_kids {d : Nat} {k v : Int} {kids : List Ex} {g : Nat} {w : World} (A : Option Addr) (n cap : Nat) (hd : d ≤ 6) (hF : Forms w)
    (hr : k = 1 ∧ v = 0 ∧ kids.length = 0 ∨ k = 2 ∧ 0 ≤ v ∧ v ≤ 2 ∧ kids.length = 0 ∨ (k = 3 ∨ k = 6 ∨ k = 9 ∨ k = 10) ∧ v = 0 ∧ kids.length = 1 ∨ (k = 4 ∨ k = 5 ∨ k = 7 ∨ k = 8) ∧ v = 0 ∧ kids.length = 2)
    (hpos : 0 < kids.length) (hL : LaidT w g (fmtF d) kids kids.length) :
    Calls Tryd.prog 29 #[.agg #[.int .i64 k, .int .i64 v, .slice A n cap], .slice (some ⟨g, 0, none⟩) kids.length kids.length] w (FmPost (fmtF (d + 1) (.node k v kids)) w) := by
  rcases hr with h | h | ⟨hk, rfl, h⟩ | ⟨hk, rfl, h⟩
  · omega
  · omega
  · match kids, h with
    | [x], _ =>
      rw [fmtF_one d 0 (x := x) hk rfl]
      exact fnode_one k (fmtF d x) A n cap g w hF (fmtF_small hd x) hL.lt (hL.get (i := 0) rfl) hk
  · match kids, h with
    | [x, y], _ =>
      rw [fmtF_two d 0 hk (x := x) (y := y) rfl rfl]
      exact fnode_two k (fmtF d x) (fmtF d y) A n cap g w hF (fmtF_small hd x) (fmtF_small hd y) hL.lt (hL.get (i := 0) rfl) (hL.get (i := 1) rfl) hk

def FoldTSaid (d : Nat) : Prop := ∀ (e : Ex) (c0 c1 c2 : Value) (w : World), Forms w → fShape d e = true → Lies w w.heap.size e c0 c1 c2 →
    Calls Tryd.prog 28 #[.agg #[c0, c1, c2], .func (.func 29) #[] #[]] w (FmPost (fmtF d e) w)

set_option maxHeartbeats 1000000 in
set_option maxRecDepth 100000 in
theorem foldT_any : ∀ d : Nat, d ≤ 7 → FoldTSaid d := by
  intro d
  induction d with
  | zero => intro _ e c0 c1 c2 w _ h; simp [fShape] at h
  | succ d ih =>
    rintro hd7 ⟨k, v, kids⟩ c0 c1 c2 w hFm hs hL
    obtain ⟨K, cp, kb, ko, C0, C1, C2, rfl, rfl, rfl, hl, hO⟩ := hL.open_
    have HIH := Lib.hid (ih (by omega))
    have HO := Lib.hid hO
    have HFm := Lib.hid hFm
    have HK : Hid (∀ (i : Nat) (x : Ex), kids[i]? = some x → fShape d x = true) := fun i x hx => fShape_kid hs hx
    have HRo := Lib.hid (fRoot_cases (fShape_root hs))
    have hlen : kids.length ≤ 2 := by have := HRo.out; omega
    have HD6 : Hid (d ≤ 6) := by show _ ≤ _; omega
    clear ih hL hO hs hl hd7 hFm
    obtain ⟨W1, hW1⟩ : ∃ W1, W1 = w.alloc (.cells #[.int .i64 k, .int .i64 v, .slice K kids.length cp] 29) := ⟨_, rfl⟩
    have hb0 : Below w.heap.size w W1 := by rw [hW1]; exact (Below.refl _ _).alloc (Nat.le_refl _) _
    have hr0 : Row W1 w.heap.size 29 #[.int .i64 k, .int .i64 v, .slice K kids.length cp] := by rw [hW1]; exact Row.new _ _ _
    have HW1 := Lib.hid hW1
    have HB0 := Lib.hid hb0
    have HR0 := Lib.hid hr0
    have hs1 : W1.heap.size = w.heap.size + 1 := by rw [hW1]; simp
    clear hW1 hb0 hr0
    go_enter Tryd.func28, Tryd.ntmps28
    go_wp2_with fail
    rw [← HW1.out]
    refine (operandsF_any k v K kids.length cp _).mono ?_
    rintro e' w1 ⟨rfl, hb1⟩
    have hsz1 : w.heap.size + 1 ≤ w1.heap.size := by have := hb1.size; omega
    have HR01 := Lib.hid (HR0.out.under hb1 HR0.out.lt)
    have HB1 := Lib.hid (HB0.out.trans (hb1.mono HB0.out.size))
    clear hb1 HR0 HB0 HW1 hs1
    by_cases hz0 : kids.length = 0
    · obtain rfl : kids = [] := List.length_eq_zero_iff.1 hz0
      have HC : Hid (∀ W : World, Forms W → Calls Tryd.prog 29 #[.agg #[.int .i64 k, .int .i64 v, .slice K 0 cp], .slice none 0 0] W (FmPost (fmtF (d + 1) (.node k v [])) W)) := by
        intro W hW
        rcases HRo.out with ⟨rfl, rfl, _⟩ | ⟨rfl, h0, h2, _⟩ | ⟨_, _, h⟩ | ⟨_, _, h⟩
        · rw [fmtF_true]; exact fnode_true K 0 cp W hW
        · rw [fmtF_atom]; exact fnode_atom v K 0 cp _ W h0 h2
        · simp at h
        · simp at h
      clear HRo HK HO hz0 hlen
      go_wp2_with fail
      go_loopw [20] (fun i wl => i = .int .i64 0 ∧ Hid (Row wl w.heap.size 29 #[.int .i64 k, .int .i64 v, .slice K 0 cp]) ∧ Hid (Below w.heap.size w wl)) (fun _ _ => 0)
      case atStart => exact ⟨rfl, HR01, HB1⟩
      case round =>
        clear HR01 HB1
        obtain ⟨rfl, HR0, HB⟩ := hrel
        have h0 := HR0.out
        have q0 : wr.cell? ⟨w.heap.size, 0, none⟩ = some (.int .i64 k) := h0.cell 0
        have q1 : wr.cell? ⟨w.heap.size, 1, none⟩ = some (.int .i64 v) := h0.cell 1
        have q2 : wr.cell? ⟨w.heap.size, 2, none⟩ = some (.slice K 0 cp) := h0.cell 2
        clear h0 HR0
        go_wp2_with fail
        refine (HC.out _ (HFm.out.later HB.out)).mono ?_
        rintro e' w3 ⟨rfl, hb3⟩
        have HB3 := Lib.hid (HB.out.trans (hb3.mono HB.out.size))
        obtain ⟨F, hF⟩ : ∃ F, F = fmtF (d + 1) (.node k v []) := ⟨_, rfl⟩
        rw [← hF]
        have HF := Lib.hid hF
        clear hb3 hF
        go_wp2_with fail
        go_ret
        exact ⟨ret_str HF.out, HB3.out⟩
    · obtain ⟨i0, hi0, hz0', hz1, hz2⟩ := info_parts Tryd.info9
      have hmk := run_make_of (P := Tryd.prog) 53 9 i0 _ Tryd.underlying53 hi0 hz0' kids.length (by rw [hz2]; omega) (by omega)
      rw [hz1] at hmk
      clear hi0 hz0' hz1 hz2
      obtain ⟨cs, hcs⟩ : ∃ cs, cs = madeCells (Value.cells (.string ⟨#[]⟩)) (kids.length * 1) := ⟨_, rfl⟩
      have hsz : cs.size = kids.length := by rw [hcs, size_madeCells]; omega
      rw [← hcs] at hmk
      have HSZ := Lib.hid hsz
      clear hcs hsz
      have hpos : 0 < kids.length := by omega
      clear hz0
      go_wp2_with fail
      go_loopw [20] (fun i wl => ∃ j : Nat, j ≤ kids.length ∧ i = .int .i64 j ∧ Hid (LaidT wl w1.heap.size (fmtF d) kids j) ∧ Hid (Row wl w.heap.size 29 #[.int .i64 k, .int .i64 v, .slice K kids.length cp]) ∧ Hid (Below w.heap.size w wl)) (fun i _ => kids.length - (intOf i).toNat)
      case atStart =>
        have hb : Below w1.heap.size w1 (w1.alloc (.cells cs 9)) := (Below.refl _ _).alloc (Nat.le_refl _) _
        exact ⟨0, Nat.zero_le _, rfl, ⟨cs, Row.new _ _ _, HSZ.out, fun _ _ _ h => absurd h (Nat.not_lt_zero _)⟩, HR01.out.under hb HR01.out.lt, HB1.out.trans (hb.mono HB1.out.size)⟩
      case round =>
        clear hmk HSZ HR01 HB1
        obtain ⟨j, hj, rfl, HL, HR0, HB⟩ := hrel
        by_cases hlt : j < kids.length
        · obtain ⟨x, hx⟩ : ∃ x, kids[j]? = some x := ⟨_, List.getElem?_eq_getElem hlt⟩
          obtain ⟨rfl, hb, g0, g1, g2, gl⟩ := HO.out.below HB.out j x hx
          have HX := Lib.hid hx
          obtain ⟨n0, n1, a2, l2, cp2, q0, q1, q2⟩ := gl.form
          rw [q0] at g0
          rw [q1] at g1
          rw [q2] at g2
          have hsz : w.heap.size ≤ wr.heap.size := HB.out.size
          have hlw : w1.heap.size < wr.heap.size := HL.out.lt
          have hb1 : Below wr.heap.size wr (wr.alloc (.cells #[.int .i64 n0, .int .i64 n1, .slice a2 l2 cp2] 29)) := (Below.refl _ _).alloc (Nat.le_refl _) _
          have HQ : Hid (Lies (wr.alloc (.cells #[.int .i64 n0, .int .i64 n1, .slice a2 l2 cp2] 29)) (wr.alloc (.cells #[.int .i64 n0, .int .i64 n1, .slice a2 l2 cp2] 29)).heap.size x (.int .i64 n0) (.int .i64 n1) (.slice a2 l2 cp2)) := by
            rw [q0, q1, q2] at gl
            exact (gl.alloc (by omega) _).more (by simp; omega)
          have HL1 := Lib.hid (HL.out.under hb1 HL.out.lt)
          have HR01 := Lib.hid (HR0.out.under hb1 HR0.out.lt)
          have HB1 := Lib.hid (HB.out.trans (hb1.mono hsz))
          clear gl hx q0 q1 q2 hb1 HL HB HR0
          go_wp2_with fail
          refine (HIH.out x _ _ _ _ (HFm.out.later HB1.out) (HK.out j x HX.out) HQ.out).mono ?_
          rintro e' w2 ⟨rfl, hb2⟩
          have hl2 := HL1.out.under hb2 HL1.out.lt
          obtain ⟨⟨u, f0⟩, fz⟩ := hl2.cell hlt
          have HST := Lib.hid (hl2.step hlt HX.out)
          have HR02 := Lib.hid (HR01.out.under hb2 HR01.out.lt)
          have HB2 := Lib.hid (HB1.out.trans (hb2.mono HB1.out.size))
          obtain ⟨F, hF⟩ : ∃ F, F = fmtF d x := ⟨_, rfl⟩
          rw [← hF] at HST ⊢
          clear hb2 hl2 g0 g1 g2 hF HR01 HL1 HB1 HQ
          go_wp2_with fail
          go_roundw
          case rel => exact ⟨j + 1, by omega, by go_num, HST, HR02.out.grown (grown_set _ w1.heap.size j _) (by omega), HB2.out.setCell (by simp; omega) _⟩
          case measure => simp [intOf]; omega
        · have hjj : j = kids.length := by omega
          subst hjj
          have h0 := HR0.out
          have q0 : wr.cell? ⟨w.heap.size, 0, none⟩ = some (.int .i64 k) := h0.cell 0
          have q1 : wr.cell? ⟨w.heap.size, 1, none⟩ = some (.int .i64 v) := h0.cell 1
          have q2 : wr.cell? ⟨w.heap.size, 2, none⟩ = some (.slice K kids.length cp) := h0.cell 2
          clear h0 HR0
          go_wp2_with fail
          refine (fnode_kids K kids.length cp HD6.out (HFm.out.later HB.out) HRo.out hpos HL.out).mono ?_
          rintro e' w3 ⟨rfl, hb3⟩
          have HB3 := Lib.hid (HB.out.trans (hb3.mono HB.out.size))
          obtain ⟨F, hF⟩ : ∃ F, F = fmtF (d + 1) (.node k v kids) := ⟨_, rfl⟩
          rw [← hF]
          have HF := Lib.hid hF
          clear hb3 hF
          go_wp2_with fail
          go_ret
          exact ⟨ret_str HF.out, HB3.out⟩

end Go.Proofs.YtljjbffdenfngaaDoor

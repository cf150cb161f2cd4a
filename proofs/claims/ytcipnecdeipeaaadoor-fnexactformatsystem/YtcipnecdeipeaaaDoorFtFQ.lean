/- The walk of impl.foldTree[impl.Expr,string] with impl.formatNode. -/
import Derived.Test.YtcipnecdeipeaaaDoorFtNQ
import Derived.Test.YtcipnecdeipeaaaDoorJ05
namespace Go.Proofs.YtcipnecdeipeaaaDoor
open Go.RowKit

/-- The texts of the first j operands have been laid. -/
def LaidF (w : World) (g : Nat) (d : Nat) (kids : List Ex) (j : Nat) : Prop :=
  ∃ cs : Array Value, Row w g 9 cs ∧ cs.size = kids.length ∧ ∀ (i : Nat) (x : Ex), kids[i]? = some x → i < j → cs[i]? = some (.string (fmtE d x))

theorem LaidF.under {w w' : World} {g : Nat} {d : Nat} {kids : List Ex} {j : Nat} (h : LaidF w g d kids j) {B : Nat} (hb : Below B w w') (hg : g < B) : LaidF w' g d kids j := by
  obtain ⟨cs, hr, hs, hk⟩ := h
  exact ⟨cs, hr.under hb hg, hs, hk⟩
theorem LaidF.cell {w : World} {g : Nat} {d : Nat} {kids : List Ex} {j : Nat} (h : LaidF w g d kids j) (hj : j < kids.length) : (∃ u, w.cell? ⟨g, j, none⟩ = some u) ∧ w.frozen? ⟨g, j, none⟩ = false := by
  obtain ⟨cs, hr, hs, hk⟩ := h
  exact ⟨⟨cs[j], by rw [hr.cell]; exact Array.getElem?_eq_getElem _⟩, hr.frozen j⟩
theorem LaidF.lt {w : World} {g : Nat} {d : Nat} {kids : List Ex} {j : Nat} (h : LaidF w g d kids j) : g < w.heap.size := by
  obtain ⟨cs, hr, _⟩ := h
  exact hr.lt
theorem LaidF.step {w : World} {g : Nat} {d : Nat} {kids : List Ex} {j : Nat} (h : LaidF w g d kids j) (hj : j < kids.length) {x : Ex} (hx : kids[j]? = some x) :
    LaidF (w.setCell ⟨g, j, none⟩ (.string (fmtE d x))) g d kids (j + 1) := by
  obtain ⟨cs, hr, hs, hk⟩ := h
  refine ⟨cs.setIfInBounds j _, hr.set_ _ _, by simpa using hs, fun i y hy hi => ?_⟩
  rw [Array.getElem?_setIfInBounds]
  by_cases e : j = i
  · subst e
    rw [hx] at hy
    injection hy with hy
    subst hy
    rw [if_pos rfl, if_pos (by omega)]
  · rw [if_neg e]
    exact hk i y hy (by omega)
theorem LaidF.get {w : World} {g : Nat} {d : Nat} {kids : List Ex} (h : LaidF w g d kids kids.length) {i : Nat} {x : Ex} (hx : kids[i]? = some x) : w.cell? ⟨g, i, none⟩ = some (.string (fmtE d x)) := by
  obtain ⟨cs, hr, hs, hk⟩ := h
  rw [hr.cell]
  exact hk i x hx (List.getElem?_eq_some_iff.1 hx).1

theorem Tryd.info9 : (Tryd.prog.info? 9).map (fun i => (i.zero, i.size, i.bytes)) = some (some (.string ⟨#[]⟩), 1, 16) := by kernel_rfl

theorem node_kids {d : Nat} {k v : Int} {kids : List Ex} {g : Nat} {w : World} (A : Option Addr) (n cap : Nat) (hd : d ≤ 6)
    (hr : k = 1 ∧ 0 ≤ v ∧ v ≤ 3 ∧ kids.length = 0 ∨ k = 2 ∧ 0 ≤ v ∧ v ≤ 2 ∧ kids.length = 0 ∨ k = 3 ∧ v = 0 ∧ kids.length = 1 ∨ 4 ≤ k ∧ k ≤ 9 ∧ v = 0 ∧ kids.length = 2)
    (hpos : 0 < kids.length) (hL : LaidF w g d kids kids.length) :
    Calls Tryd.prog 51 #[.agg #[.int .i64 k, .int .i64 v, .slice A n cap], .slice (some ⟨g, 0, none⟩) kids.length kids.length] w (FmPost (fmtE (d + 1) (.node k v kids)) w) := by
  rcases hr with h | h | ⟨rfl, rfl, h⟩ | ⟨h4, h9, rfl, h⟩
  · omega
  · omega
  · match kids, h with
    | [x], _ =>
      rw [fmtE_not d 0 (x := x) rfl]
      exact node_not (fmtE d x) A n cap g 1 w (fmtE_small hd x) hL.lt (by omega) (hL.get (i := 0) rfl)
  · match kids, h with
    | [x, y], _ =>
      rw [fmtE_two d 0 h4 (x := x) (y := y) rfl rfl]
      exact node_two k (fmtE d x) (fmtE d y) A n cap g 2 w (fmtE_small hd x) (fmtE_small hd y) hL.lt (by omega) (hL.get (i := 0) rfl) (hL.get (i := 1) rfl) h4 h9

def FoldFSaid (d : Nat) : Prop := ∀ (e : Ex) (c0 c1 c2 : Value) (w : World), shape d e = true → Lies w w.heap.size e c0 c1 c2 →
    Calls Tryd.prog 50 #[.agg #[c0, c1, c2], .func (.func 51) #[] #[]] w (FmPost (fmtE d e) w)

set_option maxHeartbeats 1000000 in
set_option maxRecDepth 100000 in
theorem foldF_any : ∀ d : Nat, d ≤ 7 → FoldFSaid d := by
  intro d
  induction d with
  | zero => intro _ e c0 c1 c2 w h; simp [shape] at h
  | succ d ih =>
    rintro hd7 ⟨k, v, kids⟩ c0 c1 c2 w hs hL
    obtain ⟨K, cp, kb, ko, C0, C1, C2, rfl, rfl, rfl, hl, hO⟩ := hL.open_
    have HIH := Lib.hid (ih (by omega))
    have HO := Lib.hid hO
    have HK : Hid (∀ (i : Nat) (x : Ex), kids[i]? = some x → shape d x = true) := fun i x hx => shape_kid hs hx
    have HRo := Lib.hid (rootOk_parts (shape_root hs))
    have hlen : kids.length ≤ 2 := by have := HRo.out; omega
    have HD6 : Hid (d ≤ 6) := by show _ ≤ _; omega
    clear ih hL hO hs hl hd7
    by_cases hz0 : kids.length = 0
    · obtain rfl : kids = [] := List.length_eq_zero_iff.1 hz0
      have HC : Hid (∀ W : World, Calls Tryd.prog 51 #[.agg #[.int .i64 k, .int .i64 v, .slice K 0 cp], .slice none 0 0] W (FmPost (fmtE (d + 1) (.node k v [])) W)) := by
        intro W
        rcases HRo.out with ⟨rfl, h0, h3, _⟩ | ⟨rfl, h0, h2, _⟩ | ⟨_, _, h⟩ | ⟨_, _, _, h⟩
        · rw [fmtE_const]; exact node_const v K 0 cp _ W h0 h3
        · rw [fmtE_var]; exact node_var v K 0 cp _ W h0 h2
        · simp at h
        · simp at h
      clear HRo HK HO hz0 hlen
      obtain ⟨W1, hW1⟩ : ∃ W1, W1 = w.alloc (.cells #[.int .i64 k, .int .i64 v, .slice K 0 cp] 44) := ⟨_, rfl⟩
      have hb0 : Below w.heap.size w W1 := by rw [hW1]; exact (Below.refl _ _).alloc (Nat.le_refl _) _
      have HR : Hid (Row W1 w.heap.size 44 #[.int .i64 k, .int .i64 v, .slice K 0 cp]) := by rw [hW1]; exact Row.new _ _ _
      have HB0 := Lib.hid hb0
      have HW1 := Lib.hid hW1
      have q0 : W1.cell? ⟨w.heap.size, 0, none⟩ = some (.int .i64 k) := HR.out.cell 0
      have q1 : W1.cell? ⟨w.heap.size, 1, none⟩ = some (.int .i64 v) := HR.out.cell 1
      have q2 : W1.cell? ⟨w.heap.size, 2, none⟩ = some (.slice K 0 cp) := HR.out.cell 2
      clear hW1 hb0
      go_enter Tryd.func50, Tryd.ntmps50
      go_wp2_with fail
      rw [← HW1.out]
      go_wp2_with fail
      refine (operandsF_any k v K 0 cp _).mono ?_
      rintro e' w2 ⟨rfl, hbo⟩
      have HR2 := Lib.hid (HR.out.under hbo HR.out.lt)
      have HBo : Hid (Below w.heap.size w w2) := HB0.out.trans (hbo.mono HB0.out.size)
      have HW2 : Hid (w.heap.size < w2.heap.size) := HR2.out.lt
      clear hbo q0 q1 q2
      have q0 : w2.cell? ⟨w.heap.size, 0, none⟩ = some (.int .i64 k) := HR2.out.cell 0
      have q1 : w2.cell? ⟨w.heap.size, 1, none⟩ = some (.int .i64 v) := HR2.out.cell 1
      have q2 : w2.cell? ⟨w.heap.size, 2, none⟩ = some (.slice K 0 cp) := HR2.out.cell 2
      go_wp2_with fail
      go_loop [20] (fun i => i = .int .i64 0) (fun _ => 0)
      case atStart => rfl
      case round =>
        subst hrel
        go_wp2_with fail
        refine (HC.out _).mono ?_
        rintro e' w3 ⟨rfl, hb3⟩
        have HB3 : Hid (Below w.heap.size w w3) := HBo.out.trans (hb3.mono HBo.out.size)
        obtain ⟨F, hF⟩ : ∃ F, F = fmtE (d + 1) (.node k v []) := ⟨_, rfl⟩
        rw [← hF]
        have HF := Lib.hid hF
        clear hb3 hF
        go_wp2_with fail
        go_ret
        exact ⟨ret_str HF.out, HB3.out⟩
    · obtain ⟨i0, hi0, hz0', hz1, hz2⟩ := info_parts Tryd.info9
      have hmk := run_make_of (P := Tryd.prog) 98 9 i0 _ Tryd.underlying98 hi0 hz0' kids.length (by rw [hz2]; omega) (by omega)
      rw [hz1] at hmk
      clear hi0 hz0' hz1 hz2
      obtain ⟨cs, hcs⟩ : ∃ cs, cs = madeCells (Value.cells (.string ⟨#[]⟩)) (kids.length * 1) := ⟨_, rfl⟩
      have hsz : cs.size = kids.length := by rw [hcs, size_madeCells]; omega
      rw [← hcs] at hmk
      have HSZ := Lib.hid hsz
      clear hcs hsz
      have hpos : 0 < kids.length := by omega
      clear hz0
      obtain ⟨W1, hW1⟩ : ∃ W1, W1 = w.alloc (.cells #[.int .i64 k, .int .i64 v, .slice K kids.length cp] 44) := ⟨_, rfl⟩
      have hb0 : Below w.heap.size w W1 := by rw [hW1]; exact (Below.refl _ _).alloc (Nat.le_refl _) _
      have HR : Hid (Row W1 w.heap.size 44 #[.int .i64 k, .int .i64 v, .slice K kids.length cp]) := by rw [hW1]; exact Row.new _ _ _
      have HB0 := Lib.hid hb0
      have HW1 := Lib.hid hW1
      have q0 : W1.cell? ⟨w.heap.size, 0, none⟩ = some (.int .i64 k) := HR.out.cell 0
      have q1 : W1.cell? ⟨w.heap.size, 1, none⟩ = some (.int .i64 v) := HR.out.cell 1
      have q2 : W1.cell? ⟨w.heap.size, 2, none⟩ = some (.slice K kids.length cp) := HR.out.cell 2
      clear hW1 hb0
      go_enter Tryd.func50, Tryd.ntmps50
      go_wp2_with fail
      rw [← HW1.out]
      go_wp2_with fail
      refine (operandsF_any k v K kids.length cp _).mono ?_
      rintro e' w2 ⟨rfl, hbo⟩
      have HR2 := Lib.hid (HR.out.under hbo HR.out.lt)
      have HBo : Hid (Below w.heap.size w w2) := HB0.out.trans (hbo.mono HB0.out.size)
      have HW2 : Hid (w.heap.size < w2.heap.size) := HR2.out.lt
      clear hbo q0 q1 q2
      go_wp2_with fail
      go_loopw [20] (fun i wl => ∃ j : Nat, j ≤ kids.length ∧ i = .int .i64 j ∧ Hid (LaidF wl w2.heap.size d kids j) ∧ Hid (Below w2.heap.size w2 wl)) (fun i _ => kids.length - (intOf i).toNat)
      case atStart =>
        exact ⟨0, Nat.zero_le _, rfl, ⟨cs, Row.new w2 _ _, HSZ.out, fun _ _ _ h => absurd h (Nat.not_lt_zero _)⟩, (Below.refl _ _).alloc (Nat.le_refl _) _⟩
      case round =>
        clear hmk HSZ
        obtain ⟨j, hj, rfl, HL, HB⟩ := hrel
        by_cases hlt : j < kids.length
        · obtain ⟨x, hx⟩ : ∃ x, kids[j]? = some x := ⟨_, List.getElem?_eq_getElem hlt⟩
          obtain ⟨rfl, hb, g0, g1, g2, gl⟩ := HO.out.below (HBo.out.trans (HB.out.mono HBo.out.size)) j x hx
          have HX := Lib.hid hx
          obtain ⟨n0, n1, a2, l2, cp2, q0, q1, q2⟩ := gl.form
          rw [q0] at g0
          rw [q1] at g1
          rw [q2] at g2
          have hsz : w2.heap.size ≤ wr.heap.size := HB.out.size
          have hwz : w.heap.size ≤ w2.heap.size := HBo.out.size
          have HQ : Hid (Lies (wr.alloc (.cells #[.int .i64 n0, .int .i64 n1, .slice a2 l2 cp2] 44)) (wr.alloc (.cells #[.int .i64 n0, .int .i64 n1, .slice a2 l2 cp2] 44)).heap.size x (.int .i64 n0) (.int .i64 n1) (.slice a2 l2 cp2)) := by
            rw [q0, q1, q2] at gl
            exact (gl.alloc (by omega) _).more (by simp; omega)
          have hb1 : Below wr.heap.size wr (wr.alloc (.cells #[.int .i64 n0, .int .i64 n1, .slice a2 l2 cp2] 44)) := (Below.refl _ _).alloc (Nat.le_refl _) _
          have HL1 := Lib.hid (HL.out.under hb1 HL.out.lt)
          have HB1 := Lib.hid (HB.out.trans (hb1.mono hsz))
          have HLt := Lib.hid HL.out.lt
          clear gl hx q0 q1 q2 hb1 HL HB
          go_wp2_with fail
          refine (HIH.out x _ _ _ _ (HK.out j x HX.out) HQ.out).mono ?_
          rintro e' w5 ⟨rfl, hb2⟩
          have hl2 := HL1.out.under hb2 HL1.out.lt
          obtain ⟨⟨u, f0⟩, fz⟩ := hl2.cell hlt
          have HST := Lib.hid (hl2.step hlt HX.out)
          have HB2 := Lib.hid (HB1.out.trans (hb2.mono (by simp; omega)))
          obtain ⟨F, hF⟩ : ∃ F, F = fmtE d x := ⟨_, rfl⟩
          rw [← hF] at HST ⊢
          clear hb2 hl2 g0 g1 g2 hF
          go_wp2_with fail
          go_roundw
          case rel => exact ⟨j + 1, by omega, by go_num, HST, HB2.out.setCell (Nat.le_refl _) _⟩
          case measure => simp [intOf]; omega
        · have hjj : j = kids.length := by omega
          subst hjj
          have hrb := HR2.out.under HB.out HW2.out
          have q0 : wr.cell? ⟨w.heap.size, 0, none⟩ = some (.int .i64 k) := hrb.cell 0
          have q1 : wr.cell? ⟨w.heap.size, 1, none⟩ = some (.int .i64 v) := hrb.cell 1
          have q2 : wr.cell? ⟨w.heap.size, 2, none⟩ = some (.slice K kids.length cp) := hrb.cell 2
          go_wp2_with fail
          refine (node_kids K kids.length cp HD6.out HRo.out hpos HL.out).mono ?_
          rintro e' w3 ⟨rfl, hb3⟩
          have HBz : Hid (Below w.heap.size w wr) := HBo.out.trans (HB.out.mono HBo.out.size)
          have HB3 := Lib.hid (HBz.out.trans (hb3.mono HBz.out.size))
          obtain ⟨F, hF⟩ : ∃ F, F = fmtE (d + 1) (.node k v kids) := ⟨_, rfl⟩
          rw [← hF]
          have HF := Lib.hid hF
          clear hb3 hF
          go_wp2_with fail
          go_ret
          exact ⟨ret_str HF.out, HB3.out⟩

end Go.Proofs.YtcipnecdeipeaaaDoor

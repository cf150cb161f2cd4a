/- The walks of spec.l1Eval and spec.EvalExpr. -/
import Derived.Test.YtkcgjgdcmdjcfaaE0
import Derived.Test.YtkcgjgdcmdjcfaaSv
import Derived.Test.YtkcgjgdcmdjcfaaV1
import Derived.Test.YtkcgjgdcmdjcfaaW8
namespace Go.Proofs.Ytkcgjgdcmdjcfaa
open Go.RowKit

theorem tb_spec (b : Bool) (w : World) : Calls Try.prog 54 #[.bool b] w fun e' w' => e' = .returned (.int .i64 (tb b)) ∧ w = w' := by
  cases b <;> (go_enter Try.func54, Try.ntmps54; go_wp2; go_ret; exact ⟨rfl, rfl⟩)
theorem tb_impl (b : Bool) (w : World) : Calls Try.prog 76 #[.bool b] w fun e' w' => e' = .returned (.int .i64 (tb b)) ∧ w = w' := by
  cases b <;> (go_enter Try.func76, Try.ntmps76; go_wp2; go_ret; exact ⟨rfl, rfl⟩)

/-- The values of the variables, in memory. -/
structure Vals (w : World) (A : Option Addr) (b off : Nat) (zs : List Int) : Prop where
  len : zs.length = 3
  range : ∀ i, 0 ≤ zs.getD i 0 ∧ zs.getD i 0 ≤ 3
  ints : Ints w w.heap.size A b off zs

theorem Vals.under {w w' : World} {A : Option Addr} {b off : Nat} {zs : List Int} (h : Vals w A b off zs) (hb : Below w.heap.size w w') : Vals w' A b off zs := ⟨h.len, h.range, h.ints.under hb hb.size⟩

theorem Vals.cell {w : World} {A : Option Addr} {b off : Nat} {zs : List Int} (h : Vals w A b off zs) {i : Nat} (hi : i < 3) : A = some ⟨b, off, none⟩ ∧ w.cell? ⟨b, off + i, none⟩ = some (.int .i64 (zs.getD i 0)) := by
  have hl := h.len
  have hx : zs[i]? = some (zs.getD i 0) := by simp [List.getD, List.getElem?_eq_getElem (show i < zs.length by omega)]
  exact ⟨(h.ints i _ hx).1, (h.ints i _ hx).2.2⟩

def L1Said (zs : List Int) (d : Nat) : Prop := ∀ (e : Ex) (c0 c1 c2 : Value) (A : Option Addr) (b off cap : Nat) (w : World), shape d e = true → Lies w w.heap.size e c0 c1 c2 → Vals w A b off zs →
    Calls Try.prog 33 #[.agg #[c0, c1, c2], .slice A 3 cap] w fun e' w' => e' = .returned (.int .i64 (ev zs d e)) ∧ Below w.heap.size w w'

theorem one_kid {w : World} {B : Nat} {x : Ex} {A : Option Addr} {b off : Nat} {C0 C1 C2 : Nat → Value} (h : Opened w B [x] A b off C0 C1 C2) :
    A = some ⟨b, off, none⟩ ∧ b < B ∧ w.cell? ⟨b, off, none⟩ = some (C0 0) ∧ w.cell? ⟨b, off + 1, none⟩ = some (C1 0) ∧ w.cell? ⟨b, off + 2, none⟩ = some (C2 0) ∧ Lies w B x (C0 0) (C1 0) (C2 0) := by
  have := h 0 x rfl
  simpa using this
theorem two_kids {w : World} {B : Nat} {x y : Ex} {A : Option Addr} {b off : Nat} {C0 C1 C2 : Nat → Value} (h : Opened w B [x, y] A b off C0 C1 C2) :
    A = some ⟨b, off, none⟩ ∧ b < B ∧ w.cell? ⟨b, off, none⟩ = some (C0 0) ∧ w.cell? ⟨b, off + 1, none⟩ = some (C1 0) ∧ w.cell? ⟨b, off + 2, none⟩ = some (C2 0) ∧ Lies w B x (C0 0) (C1 0) (C2 0) ∧
    w.cell? ⟨b, off + 3, none⟩ = some (C0 1) ∧ w.cell? ⟨b, off + 3 + 1, none⟩ = some (C1 1) ∧ w.cell? ⟨b, off + 3 + 2, none⟩ = some (C2 1) ∧ Lies w B y (C0 1) (C1 1) (C2 1) := by
  have h0 := h 0 x rfl
  have h1 := h 1 y rfl
  simp only [Nat.zero_mul, Nat.add_zero, Nat.one_mul] at h0 h1
  exact ⟨h0.1, h0.2.1, h0.2.2.1, h0.2.2.2.1, h0.2.2.2.2.1, h0.2.2.2.2.2, h1.2.2.1, h1.2.2.2.1, h1.2.2.2.2.1, h1.2.2.2.2.2⟩

set_option maxHeartbeats 1000000 in
theorem l1Eval_any (zs : List Int) : ∀ d : Nat, L1Said zs d := by
  intro d
  induction d with
  | zero => intro e c0 c1 c2 A b off cap w h; simp [shape] at h
  | succ d ih =>
    rintro ⟨k, v, kids⟩ c0 c1 c2 A b off cap w hs hL hV
    obtain ⟨K, cp, kb, ko, C0, C1, C2, rfl, rfl, rfl, hl, hO⟩ := hL.open_
    have HIH := Lib.hid ih
    have HV := Lib.hid hV
    have HK : Hid (∀ (i : Nat) (x : Ex), kids[i]? = some x → shape d x = true) := fun i x hx => shape_kid hs hx
    clear ih hL
    rcases rootOk_parts (shape_root hs) with ⟨rfl, _⟩ | ⟨rfl, h0, h2, h3⟩ | ⟨rfl, rfl, h3⟩ | ⟨h4, h9, rfl, h3⟩
    · clear hs hO hV
      go_enter Try.func33, Try.ntmps33
      go_wp2_with fail
      go_ret
      exact ⟨rfl, (Below.refl _ _).alloc (Nat.le_refl _) _⟩
    · obtain ⟨j, rfl⟩ : ∃ j : Nat, v = j := ⟨v.toNat, by omega⟩
      obtain ⟨rfl, hc⟩ := hV.cell (i := j) (by omega)
      have hj : j < 3 := by omega
      clear hs hO hV
      have hb : b < w.heap.size := World.block_lt_of_cell? w _ hc
      go_enter Try.func33, Try.ntmps33
      go_wp2_with fail
      go_ret
      exact ⟨rfl, (Below.refl _ _).alloc (Nat.le_refl _) _⟩
    · match kids, h3 with
      | [x], _ =>
        obtain ⟨rfl, hkb, g0, g1, g2, gl⟩ := one_kid hO
        clear hs hV hO
        have HG : Hid (Lies (w.alloc (.cells #[.int .i64 3, .int .i64 0, .slice (some ⟨kb, ko, none⟩) [x].length cp] 25)) (w.alloc (.cells #[.int .i64 3, .int .i64 0, .slice (some ⟨kb, ko, none⟩) [x].length cp] 25)).heap.size x (C0 0) (C1 0) (C2 0)) := (gl.alloc (Nat.le_refl _) _).more (by simp)
        have HV1 := Lib.hid (HV.out.under ((Below.refl _ w).alloc (Nat.le_refl _) (.cells #[.int .i64 3, .int .i64 0, .slice (some ⟨kb, ko, none⟩) [x].length cp] 25)))
        clear gl
        obtain ⟨a, ha⟩ : ∃ a, a = ev zs d x := ⟨_, rfl⟩
        have HA := Lib.hid ha
        clear ha
        go_enter Try.func33, Try.ntmps33
        go_wp2_with fail
        refine (HIH.out x _ _ _ A b off cap _ (HK.out 0 x rfl) HG.out HV1.out).mono ?_
        rintro e' w1 ⟨rfl, hb1⟩
        rw [← HA.out]
        have HB1 : Hid (Below w.heap.size w w1) := boxed (hb1.mono (by simp))
        clear hb1
        go_wp2_with fail
        refine (tb_spec _ _).mono ?_
        rintro e' w2 ⟨rfl, rfl⟩
        go_wp2_with fail
        go_ret
        refine ⟨ret_int ?_, HB1.out⟩
        simp only [ev]
        rw [show ([x] : List Ex).getD 0 default = x from rfl, ← HA.out]
        rfl
    · match kids, h3 with
      | [x, y], _ =>
        obtain ⟨rfl, hkb, g0, g1, g2, gl, f0, f1, f2, fl⟩ := two_kids hO
        clear hs hV hO h3
        obtain ⟨a, ha⟩ : ∃ a, a = ev zs d x := ⟨_, rfl⟩
        obtain ⟨c, hc⟩ : ∃ c, c = ev zs d y := ⟨_, rfl⟩
        have hra : 0 ≤ a ∧ a ≤ 3 := by rw [ha]; exact ev_range HV.out.range d x (HK.out 0 x rfl)
        have hrc : 0 ≤ c ∧ c ≤ 3 := by rw [hc]; exact ev_range HV.out.range d y (HK.out 1 y rfl)
        obtain ⟨hra0, hra1⟩ := hra
        obtain ⟨hrc0, hrc1⟩ := hrc
        have HE : Hid (ev zs (d + 1) (.node k 0 [x, y]) = op k 0 zs a c) := by
          show _ = _
          rw [ha, hc]
          rfl
        have HA := Lib.hid ha
        have HC := Lib.hid hc
        clear ha hc
        obtain ⟨W1, hW1⟩ : ∃ W1, W1 = w.alloc (.cells #[.int .i64 k, .int .i64 0, .slice (some ⟨kb, ko, none⟩) 2 cp] 25) := ⟨_, rfl⟩
        have hb0 : Below w.heap.size w W1 := by rw [hW1]; exact (Below.refl _ _).alloc (Nat.le_refl _) _
        have HR : Hid (Row W1 w.heap.size 25 #[.int .i64 k, .int .i64 0, .slice (some ⟨kb, ko, none⟩) 2 cp]) := by rw [hW1]; exact Row.new _ _ _
        have HW1 := Lib.hid hW1
        have HGx := Lib.hid (below_more gl hb0 hb0.size)
        have HGy := Lib.hid (below_more fl hb0 hb0.size)
        have HV1 := Lib.hid (HV.out.under hb0)
        have HB0 := Lib.hid hb0
        have H3 : Hid ((hb0.cell (p := ⟨kb, ko + 3, none⟩) hkb).trans f0 = (hb0.cell (p := ⟨kb, ko + 3, none⟩) hkb).trans f0) := rfl
        have HF0 := Lib.hid ((hb0.cell (p := ⟨kb, ko + 3, none⟩) hkb).trans f0)
        have HF1 := Lib.hid ((hb0.cell (p := ⟨kb, ko + 3 + 1, none⟩) hkb).trans f1)
        have HF2 := Lib.hid ((hb0.cell (p := ⟨kb, ko + 3 + 2, none⟩) hkb).trans f2)
        clear gl fl hb0 hW1 f0 f1 f2 H3
        have hk : k = 4 ∨ k = 5 ∨ k = 6 ∨ k = 7 ∨ k = 8 ∨ k = 9 := by omega
        clear h4 h9
        rcases hk with rfl | rfl | rfl | rfl | rfl | rfl
        all_goals
          (go_enter Try.func33, Try.ntmps33
           go_wp2_with fail
           rw [← HW1.out]
           refine (HIH.out x _ _ _ A b off cap _ (HK.out 0 x rfl) HGx.out HV1.out).mono ?_
           rintro e' w1 ⟨rfl, hb1⟩
           rw [← HA.out]
           have hr1 := HR.out.under hb1 HR.out.lt
           have q0 : w1.cell? ⟨w.heap.size, 0, none⟩ = some _ := hr1.cell 0
           have q2 : w1.cell? ⟨w.heap.size, 2, none⟩ = some _ := hr1.cell 2
           have hkb1 : kb < W1.heap.size := Nat.lt_of_lt_of_le hkb HB0.out.size
           have f0 := (hb1.cell (p := ⟨kb, ko + 3, none⟩) hkb1).trans HF0.out
           have f1 := (hb1.cell (p := ⟨kb, ko + 3 + 1, none⟩) hkb1).trans HF1.out
           have f2 := (hb1.cell (p := ⟨kb, ko + 3 + 2, none⟩) hkb1).trans HF2.out
           have HGy1 := Lib.hid (below_more HGy.out hb1 hb1.size)
           have HV2 := Lib.hid (HV1.out.under hb1)
           have HR1 := Lib.hid hr1
           have HB1 := Lib.hid (HB0.out.trans (hb1.mono HB0.out.size))
           clear hb1 hr1 g0 g1 g2
           go_wp2_with fail
           refine (HIH.out y _ _ _ A b off cap _ (HK.out 1 y rfl) HGy1.out HV2.out).mono ?_
           rintro e' w2 ⟨rfl, hb2⟩
           rw [← HC.out]
           have hr2 := HR1.out.under hb2 HR1.out.lt
           have q0' : w2.cell? ⟨w.heap.size, 0, none⟩ = some _ := hr2.cell 0
           have HB2 := Lib.hid (HB1.out.trans (hb2.mono HB1.out.size))
           clear hb2 hr2 f0 f1 f2 q0 q2
           go_wp2_with fail)
        all_goals first
          | (refine (tb_spec _ _).mono ?_
             rintro e' w3 ⟨rfl, rfl⟩
             go_wp2_with fail)
          | skip
        all_goals go_ret
        all_goals (refine ⟨ret_int ?_, HB2.out⟩)
        all_goals (rw [HE.out])
        · exact (op4_no _ _ _ _ ‹_›).symm
        · exact (op4 _ _ _ _).symm
        · exact (op5_no _ _ _ _ ‹_›).symm
        · exact (op5_yes _ _ _ _ ‹_›).symm
        · exact (op6 _ _ _ _).symm
        · exact (op7 _ _ _ _).symm
        · exact (op8 _ _ _ _).symm
        · exact (op9 _ _ _ _).symm

/-- The answer of EvalExpr. -/
def evalOk (e : Ex) (zs : List Int) : Bool := valid e && valsOk zs
def evalOut (e : Ex) (zs : List Int) : Int := if evalOk e zs then ev zs 6 e else 0

theorem vals_of {w : World} {A : Option Addr} {b off : Nat} {zs : List Int} (h : true = valsOk zs) (hI : Ints w w.heap.size A b off zs) : Vals w A b off zs := by
  obtain ⟨h1, h2⟩ := valsOk_parts (n := zs.length) (zs := zs) h.symm
  exact ⟨h1, h2, hI⟩

end Go.Proofs.Ytkcgjgdcmdjcfaa

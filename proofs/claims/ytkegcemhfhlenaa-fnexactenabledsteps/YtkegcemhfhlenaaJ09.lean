/- Joined texts: E0, Sv, E1. Nothing is assumed. -/
import Derived.Test.YtkegcemhfhlenaaJ00
import Derived.Test.YtkegcemhfhlenaaV1Q
import Derived.Test.YtkegcemhfhlenaaJ08
namespace Go.Proofs.Ytkegcemhfhlenaa

def tb (b : Bool) : Int := if b then 1 else 0

/-- The value of a root from those of its operands. -/
def op (k v : Int) (zs : List Int) (a b : Int) : Int :=
  if k = 1 then v else if k = 2 then zs.getD v.toNat 0 else if k = 3 then tb (decide (a = 0)) else if k = 4 then tb (decide (a ≠ 0) && decide (b ≠ 0)) else if k = 5 then tb (decide (a ≠ 0) || decide (b ≠ 0))
  else if k = 6 then tb (decide (a = b)) else if k = 7 then tb (decide (a < b)) else if k = 8 then (a + b) % 4 else (a - b + 4) % 4

/-- The value of a tree, down to a depth. -/
def ev (zs : List Int) : Nat → Ex → Int
  | 0, _ => 0
  | d + 1, .node k v kids => op k v zs (ev zs d (kids.getD 0 default)) (ev zs d (kids.getD 1 default))

section
variable (v : Int) (zs : List Int) (a c : Int)
theorem op3 : op 3 v zs a c = tb (a == 0) := rfl
theorem op4 : op 4 v zs a c = tb (a != 0 && c != 0) := by
  show tb (decide (a ≠ 0) && decide (c ≠ 0)) = _
  rw [show (decide (a ≠ 0) && decide (c ≠ 0)) = (a != 0 && c != 0) by rw [Bool.eq_iff_iff]; simp]
theorem op4_no (h : a = 0) : op 4 v zs a c = tb false := by simp [op, h]
theorem op5 : op 5 v zs a c = tb (a != 0 || c != 0) := by
  show tb (decide (a ≠ 0) || decide (c ≠ 0)) = _
  rw [show (decide (a ≠ 0) || decide (c ≠ 0)) = (a != 0 || c != 0) by rw [Bool.eq_iff_iff]; simp]
theorem op5_no (h : a = 0) : op 5 v zs a c = tb (c != 0) := by
  rw [op5, h]; rfl
theorem op5_yes (h : ¬ a = 0) : op 5 v zs a c = tb true := by simp [op, h]
theorem op6 : op 6 v zs a c = tb (a == c) := rfl
theorem op7 : op 7 v zs a c = tb (decide (a < c)) := rfl
theorem op8 : op 8 v zs a c = (a + c) % 4 := rfl
theorem op9 : op 9 v zs a c = (a - c + 3 + 1) % 4 := by simp only [op]; simp; omega
end

theorem tb_range (b : Bool) : 0 ≤ tb b ∧ tb b ≤ 3 := by cases b <;> simp [tb]

theorem op_range {k v : Int} {zs : List Int} {a b : Int} (hz : ∀ i, 0 ≤ zs.getD i 0 ∧ zs.getD i 0 ≤ 3) (hv : k = 1 → 0 ≤ v ∧ v ≤ 3) : 0 ≤ op k v zs a b ∧ op k v zs a b ≤ 3 := by
  unfold op
  split
  · exact hv ‹_›
  split
  · exact hz _
  split
  · exact tb_range _
  split
  · exact tb_range _
  split
  · exact tb_range _
  split
  · exact tb_range _
  split
  · exact tb_range _
  split <;> omega

theorem rootOk_parts {k v : Int} {n : Nat} (h : rootOk k v n = true) : (k = 1 ∧ 0 ≤ v ∧ v ≤ 3 ∧ n = 0) ∨ (k = 2 ∧ 0 ≤ v ∧ v ≤ 2 ∧ n = 0) ∨ (k = 3 ∧ v = 0 ∧ n = 1) ∨ (4 ≤ k ∧ k ≤ 9 ∧ v = 0 ∧ n = 2) := by
  unfold rootOk arity limit at h
  simp only [Bool.and_eq_true, decide_eq_true_eq] at h
  obtain ⟨h1, h2, h3⟩ := h
  by_cases k1 : k = 1
  · subst k1; simp at h1 h3; omega
  by_cases k2 : k = 2
  · subst k2; simp at h1 h3; omega
  by_cases k3 : k = 3
  · subst k3; simp at h1 h3; omega
  rw [if_neg (by omega), if_neg k3] at h1
  rw [if_neg k1, if_neg k2] at h3
  by_cases k4 : 4 ≤ k ∧ k ≤ 9
  · rw [if_pos k4] at h1; omega
  · rw [if_neg k4] at h1; omega

theorem shape_kid {d : Nat} {k v : Int} {kids : List Ex} (h : shape (d + 1) (.node k v kids) = true) {i : Nat} {x : Ex} (hx : kids[i]? = some x) : shape d x = true := by
  simp only [shape, Bool.and_eq_true, List.all_eq_true] at h
  exact h.2 x (List.mem_of_getElem? hx)

theorem shape_root {d : Nat} {k v : Int} {kids : List Ex} (h : shape (d + 1) (.node k v kids) = true) : rootOk k v kids.length = true := by
  simp only [shape, Bool.and_eq_true] at h
  exact h.1

theorem ev_range {zs : List Int} (hz : ∀ i, 0 ≤ zs.getD i 0 ∧ zs.getD i 0 ≤ 3) : ∀ (d : Nat) (e : Ex), shape d e = true → 0 ≤ ev zs d e ∧ ev zs d e ≤ 3 := by
  intro d e h
  cases d with
  | zero => simp [shape] at h
  | succ d =>
    obtain ⟨k, v, kids⟩ := e
    have hr := rootOk_parts (shape_root h)
    exact op_range hz (fun e => by omega)

theorem valsOk_parts {n : Nat} {zs : List Int} (h : (zs.all (fun z => decide (0 ≤ z) && decide (z ≤ 3)) && decide (n = 3)) = true) : n = 3 ∧ ∀ i, 0 ≤ zs.getD i 0 ∧ zs.getD i 0 ≤ 3 := by
  simp only [Bool.and_eq_true, decide_eq_true_eq, List.all_eq_true] at h
  refine ⟨h.2, fun i => ?_⟩
  by_cases hi : i < zs.length
  · have := h.1 (zs[i]) (List.getElem_mem hi)
    simpa [List.getD, hi] using this
  · simp [List.getD, hi]

end Go.Proofs.Ytkegcemhfhlenaa
namespace Go.Proofs.Ytkegcemhfhlenaa

theorem shape_of_valid {e : Ex} (h : true = valid e) : shape 6 e = true := by
  unfold valid at h
  cases hs : shape 6 e
  · rw [hs] at h; exact h.symm
  · rfl

end Go.Proofs.Ytkegcemhfhlenaa
namespace Go.Proofs.Ytkegcemhfhlenaa
open Go.RowKit

theorem tb_spec (b : Bool) (w : World) : Calls Try.prog 69 #[.bool b] w fun e' w' => e' = .returned (.int .i64 (tb b)) ∧ w = w' := by
  cases b <;> (go_enter Try.func69, Try.ntmps69; go_wp2; go_ret; exact ⟨rfl, rfl⟩)
theorem tb_impl (b : Bool) (w : World) : Calls Try.prog 111 #[.bool b] w fun e' w' => e' = .returned (.int .i64 (tb b)) ∧ w = w' := by
  cases b <;> (go_enter Try.func111, Try.ntmps111; go_wp2; go_ret; exact ⟨rfl, rfl⟩)

/-- The values of the variables, in memory. -/
structure Vals (w : World) (A : Option Addr) (b off : Nat) (zs : List Int) : Prop where
  len : zs.length = 3
  range : ∀ i, 0 ≤ zs.getD i 0 ∧ zs.getD i 0 ≤ 3
  ints : Ints w w.heap.size A b off zs

theorem Vals.under {w w' : World} {A : Option Addr} {b off : Nat} {zs : List Int} (h : Vals w A b off zs) (hb : Below w.heap.size w w') : Vals w' A b off zs := ⟨h.len, h.range, h.ints.under hb hb.size⟩

theorem Vals.cell {w : World} {A : Option Addr} {b off : Nat} {zs : List Int} (h : Vals w A b off zs) {i : Nat} (hi : i < 3) : A = some ⟨b, off, none⟩ ∧ w.cell? ⟨b, off + i, none⟩ = some (.int .i64 (zs.getD i 0)) := by
  have hl := h.len
  have hx : zs[i]? = some (zs.getD i 0) := by simp [List.getD, List.getElem?_eq_getElem (show i < zs.length by omega)]
  exact ⟨(h.ints i _ hx).1, (h.ints i _ hx).2.2⟩

def L1Said (zs : List Int) (d : Nat) : Prop := ∀ (e : Ex) (c0 c1 c2 : Value) (A : Option Addr) (b off cap : Nat) (w : World), shape d e = true → Lies w w.heap.size e c0 c1 c2 → Vals w A b off zs →
    Calls Try.prog 59 #[.agg #[c0, c1, c2], .slice A 3 cap] w fun e' w' => e' = .returned (.int .i64 (ev zs d e)) ∧ Below w.heap.size w w'

theorem one_kid {w : World} {B : Nat} {x : Ex} {A : Option Addr} {b off : Nat} {C0 C1 C2 : Nat → Value} (h : Opened w B [x] A b off C0 C1 C2) :
    A = some ⟨b, off, none⟩ ∧ b < B ∧ w.cell? ⟨b, off, none⟩ = some (C0 0) ∧ w.cell? ⟨b, off + 1, none⟩ = some (C1 0) ∧ w.cell? ⟨b, off + 2, none⟩ = some (C2 0) ∧ Lies w B x (C0 0) (C1 0) (C2 0) := by
  have := h 0 x rfl
  simpa using this
theorem two_kids {w : World} {B : Nat} {x y : Ex} {A : Option Addr} {b off : Nat} {C0 C1 C2 : Nat → Value} (h : Opened w B [x, y] A b off C0 C1 C2) :
    A = some ⟨b, off, none⟩ ∧ b < B ∧ w.cell? ⟨b, off, none⟩ = some (C0 0) ∧ w.cell? ⟨b, off + 1, none⟩ = some (C1 0) ∧ w.cell? ⟨b, off + 2, none⟩ = some (C2 0) ∧ Lies w B x (C0 0) (C1 0) (C2 0) ∧
    w.cell? ⟨b, off + 3, none⟩ = some (C0 1) ∧ w.cell? ⟨b, off + 3 + 1, none⟩ = some (C1 1) ∧ w.cell? ⟨b, off + 3 + 2, none⟩ = some (C2 1) ∧ Lies w B y (C0 1) (C1 1) (C2 1) := by
  have h0 := h 0 x rfl
  have h1 := h 1 y rfl
  simp only [Nat.zero_mul, Nat.add_zero, Nat.one_mul] at h0 h1
  exact ⟨h0.1, h0.2.1, h0.2.2.1, h0.2.2.2.1, h0.2.2.2.2.1, h0.2.2.2.2.2, h1.2.2.1, h1.2.2.2.1, h1.2.2.2.2.1, h1.2.2.2.2.2⟩

set_option maxHeartbeats 1000000 in
theorem l1Eval_any (zs : List Int) : ∀ d : Nat, L1Said zs d := by
  intro d
  induction d with
  | zero => intro e c0 c1 c2 A b off cap w h; simp [shape] at h
  | succ d ih =>
    rintro ⟨k, v, kids⟩ c0 c1 c2 A b off cap w hs hL hV
    obtain ⟨K, cp, kb, ko, C0, C1, C2, rfl, rfl, rfl, hl, hO⟩ := hL.open_
    have HIH := Lib.hid ih
    have HV := Lib.hid hV
    have HK : Hid (∀ (i : Nat) (x : Ex), kids[i]? = some x → shape d x = true) := fun i x hx => shape_kid hs hx
    clear ih hL
    rcases rootOk_parts (shape_root hs) with ⟨rfl, _⟩ | ⟨rfl, h0, h2, h3⟩ | ⟨rfl, rfl, h3⟩ | ⟨h4, h9, rfl, h3⟩
    · clear hs hO hV
      go_enter Try.func59, Try.ntmps59
      go_wp2_with fail
      go_ret
      exact ⟨rfl, (Below.refl _ _).alloc (Nat.le_refl _) _⟩
    · obtain ⟨j, rfl⟩ : ∃ j : Nat, v = j := ⟨v.toNat, by omega⟩
      obtain ⟨rfl, hc⟩ := hV.cell (i := j) (by omega)
      have hj : j < 3 := by omega
      clear hs hO hV
      have hb : b < w.heap.size := World.block_lt_of_cell? w _ hc
      go_enter Try.func59, Try.ntmps59
      go_wp2_with fail
      go_ret
      exact ⟨rfl, (Below.refl _ _).alloc (Nat.le_refl _) _⟩
    · match kids, h3 with
      | [x], _ =>
        obtain ⟨rfl, hkb, g0, g1, g2, gl⟩ := one_kid hO
        clear hs hV hO
        have HG : Hid (Lies (w.alloc (.cells #[.int .i64 3, .int .i64 0, .slice (some ⟨kb, ko, none⟩) [x].length cp] 81)) (w.alloc (.cells #[.int .i64 3, .int .i64 0, .slice (some ⟨kb, ko, none⟩) [x].length cp] 81)).heap.size x (C0 0) (C1 0) (C2 0)) := (gl.alloc (Nat.le_refl _) _).more (by simp)
        have HV1 := Lib.hid (HV.out.under ((Below.refl _ w).alloc (Nat.le_refl _) (.cells #[.int .i64 3, .int .i64 0, .slice (some ⟨kb, ko, none⟩) [x].length cp] 81)))
        clear gl
        obtain ⟨a, ha⟩ : ∃ a, a = ev zs d x := ⟨_, rfl⟩
        have HA := Lib.hid ha
        clear ha
        go_enter Try.func59, Try.ntmps59
        go_wp2_with fail
        refine (HIH.out x _ _ _ A b off cap _ (HK.out 0 x rfl) HG.out HV1.out).mono ?_
        rintro e' w1 ⟨rfl, hb1⟩
        rw [← HA.out]
        have HB1 : Hid (Below w.heap.size w w1) := boxed (hb1.mono (by simp))
        clear hb1
        go_wp2_with fail
        refine (tb_spec _ _).mono ?_
        rintro e' w2 ⟨rfl, rfl⟩
        go_wp2_with fail
        go_ret
        refine ⟨ret_int ?_, HB1.out⟩
        simp only [ev]
        rw [show ([x] : List Ex).getD 0 default = x from rfl, ← HA.out]
        rfl
    · match kids, h3 with
      | [x, y], _ =>
        obtain ⟨rfl, hkb, g0, g1, g2, gl, f0, f1, f2, fl⟩ := two_kids hO
        clear hs hV hO h3
        obtain ⟨a, ha⟩ : ∃ a, a = ev zs d x := ⟨_, rfl⟩
        obtain ⟨c, hc⟩ : ∃ c, c = ev zs d y := ⟨_, rfl⟩
        have hra : 0 ≤ a ∧ a ≤ 3 := by rw [ha]; exact ev_range HV.out.range d x (HK.out 0 x rfl)
        have hrc : 0 ≤ c ∧ c ≤ 3 := by rw [hc]; exact ev_range HV.out.range d y (HK.out 1 y rfl)
        obtain ⟨hra0, hra1⟩ := hra
        obtain ⟨hrc0, hrc1⟩ := hrc
        have HE : Hid (ev zs (d + 1) (.node k 0 [x, y]) = op k 0 zs a c) := by
          show _ = _
          rw [ha, hc]
          rfl
        have HA := Lib.hid ha
        have HC := Lib.hid hc
        clear ha hc
        obtain ⟨W1, hW1⟩ : ∃ W1, W1 = w.alloc (.cells #[.int .i64 k, .int .i64 0, .slice (some ⟨kb, ko, none⟩) 2 cp] 81) := ⟨_, rfl⟩
        have hb0 : Below w.heap.size w W1 := by rw [hW1]; exact (Below.refl _ _).alloc (Nat.le_refl _) _
        have HR : Hid (Row W1 w.heap.size 81 #[.int .i64 k, .int .i64 0, .slice (some ⟨kb, ko, none⟩) 2 cp]) := by rw [hW1]; exact Row.new _ _ _
        have HW1 := Lib.hid hW1
        have HGx := Lib.hid (below_more gl hb0 hb0.size)
        have HGy := Lib.hid (below_more fl hb0 hb0.size)
        have HV1 := Lib.hid (HV.out.under hb0)
        have HB0 := Lib.hid hb0
        have H3 : Hid ((hb0.cell (p := ⟨kb, ko + 3, none⟩) hkb).trans f0 = (hb0.cell (p := ⟨kb, ko + 3, none⟩) hkb).trans f0) := rfl
        have HF0 := Lib.hid ((hb0.cell (p := ⟨kb, ko + 3, none⟩) hkb).trans f0)
        have HF1 := Lib.hid ((hb0.cell (p := ⟨kb, ko + 3 + 1, none⟩) hkb).trans f1)
        have HF2 := Lib.hid ((hb0.cell (p := ⟨kb, ko + 3 + 2, none⟩) hkb).trans f2)
        clear gl fl hb0 hW1 f0 f1 f2 H3
        have hk : k = 4 ∨ k = 5 ∨ k = 6 ∨ k = 7 ∨ k = 8 ∨ k = 9 := by omega
        clear h4 h9
        rcases hk with rfl | rfl | rfl | rfl | rfl | rfl
        all_goals
          (go_enter Try.func59, Try.ntmps59
           go_wp2_with fail
           rw [← HW1.out]
           refine (HIH.out x _ _ _ A b off cap _ (HK.out 0 x rfl) HGx.out HV1.out).mono ?_
           rintro e' w1 ⟨rfl, hb1⟩
           rw [← HA.out]
           have hr1 := HR.out.under hb1 HR.out.lt
           have q0 : w1.cell? ⟨w.heap.size, 0, none⟩ = some _ := hr1.cell 0
           have q2 : w1.cell? ⟨w.heap.size, 2, none⟩ = some _ := hr1.cell 2
           have hkb1 : kb < W1.heap.size := Nat.lt_of_lt_of_le hkb HB0.out.size
           have f0 := (hb1.cell (p := ⟨kb, ko + 3, none⟩) hkb1).trans HF0.out
           have f1 := (hb1.cell (p := ⟨kb, ko + 3 + 1, none⟩) hkb1).trans HF1.out
           have f2 := (hb1.cell (p := ⟨kb, ko + 3 + 2, none⟩) hkb1).trans HF2.out
           have HGy1 := Lib.hid (below_more HGy.out hb1 hb1.size)
           have HV2 := Lib.hid (HV1.out.under hb1)
           have HR1 := Lib.hid hr1
           have HB1 := Lib.hid (HB0.out.trans (hb1.mono HB0.out.size))
           clear hb1 hr1 g0 g1 g2
           go_wp2_with fail
           refine (HIH.out y _ _ _ A b off cap _ (HK.out 1 y rfl) HGy1.out HV2.out).mono ?_
           rintro e' w2 ⟨rfl, hb2⟩
           rw [← HC.out]
           have hr2 := HR1.out.under hb2 HR1.out.lt
           have q0' : w2.cell? ⟨w.heap.size, 0, none⟩ = some _ := hr2.cell 0
           have HB2 := Lib.hid (HB1.out.trans (hb2.mono HB1.out.size))
           clear hb2 hr2 f0 f1 f2 q0 q2
           go_wp2_with fail)
        all_goals first
          | (refine (tb_spec _ _).mono ?_
             rintro e' w3 ⟨rfl, rfl⟩
             go_wp2_with fail)
          | skip
        all_goals go_ret
        all_goals (refine ⟨ret_int ?_, HB2.out⟩)
        all_goals (rw [HE.out])
        · exact (op4_no _ _ _ _ ‹_›).symm
        · exact (op4 _ _ _ _).symm
        · exact (op5_no _ _ _ _ ‹_›).symm
        · exact (op5_yes _ _ _ _ ‹_›).symm
        · exact (op6 _ _ _ _).symm
        · exact (op7 _ _ _ _).symm
        · exact (op8 _ _ _ _).symm
        · exact (op9 _ _ _ _).symm

/-- The answer of EvalExpr. -/
def evalOk (e : Ex) (zs : List Int) : Bool := valid e && valsOk zs
def evalOut (e : Ex) (zs : List Int) : Int := if evalOk e zs then ev zs 6 e else 0

theorem vals_of {w : World} {A : Option Addr} {b off : Nat} {zs : List Int} (h : true = valsOk zs) (hI : Ints w w.heap.size A b off zs) : Vals w A b off zs := by
  obtain ⟨h1, h2⟩ := valsOk_parts (n := zs.length) (zs := zs) h.symm
  exact ⟨h1, h2, hI⟩

end Go.Proofs.Ytkegcemhfhlenaa

/- Reached locations (Rc, Rl, Rp in one). -/
import Derived.Test.YtponbjclecdafaaVp
import Derived.Test.YtponbjclecdafaaVs
import Derived.Test.YtponbjclecdafaaBn
import Derived.Test.YtponbjclecdafaaIb
namespace Go.Proofs.Ytponbjclecdafaa
open Go.RowKit

/-- The locations that the edges lead to from location 0. -/
inductive Rch (es : List Ed) : Int → Prop
  | zero : Rch es 0
  | step (e : Ed) : e ∈ es → Rch es e.fr → Rch es e.to

open Classical in
noncomputable def rcB (es : List Ed) (i : Nat) : Bool := decide (Rch es (i : Int))

open Classical in
theorem rcB_yes {es : List Ed} {i : Nat} (h : Rch es (i : Int)) : rcB es i = true := by unfold rcB; exact decide_eq_true h
open Classical in
theorem rcB_no {es : List Ed} {i : Nat} (h : ¬ Rch es (i : Int)) : rcB es i = false := by unfold rcB; exact decide_eq_false h

/-- A closed set that holds only what is reached and holds 0 is the set of the reached. -/
theorem rch_eq {es : List Ed} {m : Nat → Bool} {n : Nat} (h0 : m 0 = true) (hs : ∀ i, i < n → m i = true → Rch es (i : Int)) (hb : ∀ e ∈ es, 0 ≤ e.fr ∧ e.fr < n ∧ 0 ≤ e.to ∧ e.to < n) (hc : ∀ e ∈ es, m e.fr.toNat = true → m e.to.toNat = true) : ∀ i, i < n → m i = rcB es i := by
  have key : ∀ x, Rch es x → 0 ≤ x ∧ m x.toNat = true := by
    intro x hx
    induction hx with
    | zero => exact ⟨Int.le_refl _, h0⟩
    | step e he _ ih => exact ⟨(hb e he).2.2.1, hc e he ih.2⟩
  intro i hi
  by_cases h : Rch es (i : Int)
  · rw [rcB_yes h]
    have := (key _ h).2
    simpa using this
  · rw [rcB_no h]
    cases hm : m i
    · rfl
    · exact absurd (hs i hi hm) h

set_option maxHeartbeats 2000000 in
theorem has_any (r l : Nat) (w : World) (hr : r < 16) (hl : l < 4) : Calls Try.prog 111 #[.int .u8 r, .int .i64 l] w fun e' w' => e' = .returned (.bool (r.testBit l)) ∧ w = w' := by
  rcases (by omega : l = 0 ∨ l = 1 ∨ l = 2 ∨ l = 3) with rfl | rfl | rfl | rfl
  all_goals rcases (by omega : r = 0 ∨ r = 1 ∨ r = 2 ∨ r = 3 ∨ r = 4 ∨ r = 5 ∨ r = 6 ∨ r = 7 ∨ r = 8 ∨ r = 9 ∨ r = 10 ∨ r = 11 ∨ r = 12 ∨ r = 13 ∨ r = 14 ∨ r = 15) with rfl | rfl | rfl | rfl | rfl | rfl | rfl | rfl | rfl | rfl | rfl | rfl | rfl | rfl | rfl | rfl
  all_goals
    (go_enter Try.func111, Try.ntmps111
     go_wp2
     go_ret
     exact ⟨rfl, rfl⟩)

set_option maxHeartbeats 2000000 in
theorem with_any (r l : Nat) (w : World) (hr : r < 16) (hl : l < 4) : Calls Try.prog 143 #[.int .u8 r, .int .i64 l] w fun e' w' => e' = .returned (.int .u8 ((r ||| 2 ^ l : Nat) : Int)) ∧ w = w' := by
  rcases (by omega : l = 0 ∨ l = 1 ∨ l = 2 ∨ l = 3) with rfl | rfl | rfl | rfl
  all_goals rcases (by omega : r = 0 ∨ r = 1 ∨ r = 2 ∨ r = 3 ∨ r = 4 ∨ r = 5 ∨ r = 6 ∨ r = 7 ∨ r = 8 ∨ r = 9 ∨ r = 10 ∨ r = 11 ∨ r = 12 ∨ r = 13 ∨ r = 14 ∨ r = 15) with rfl | rfl | rfl | rfl | rfl | rfl | rfl | rfl | rfl | rfl | rfl | rfl | rfl | rfl | rfl | rfl
  all_goals
    (go_enter Try.func143, Try.ntmps143
     go_wp2
     go_ret
     exact ⟨rfl, rfl⟩)


theorem or_facts (q t : Nat) (hq : q < 16) (ht : t < 4) : q ≤ q ||| 2 ^ t ∧ q ||| 2 ^ t < 16 ∧ ∀ i, (q ||| 2 ^ t).testBit i = (q.testBit i || decide (t = i)) :=
  ⟨Nat.left_le_or, by
    have h : 2 ^ t < 2 ^ 4 := Nat.pow_lt_pow_right (by omega) ht
    exact Nat.or_lt_two_pow (n := 4) hq h, fun i => by rw [Nat.testBit_or, Nat.testBit_two_pow]⟩

/-- The edges keep to the locations, of which there are at most four. -/
def Fit (es : List Ed) (n : Nat) : Prop := n ≤ 4 ∧ ∀ e ∈ es, 0 ≤ e.fr ∧ e.fr < n ∧ 0 ≤ e.to ∧ e.to < n

/-- What has been found so far. -/
structure Fnd (es : List Ed) (q : Nat) : Prop where
  zero : q.testBit 0 = true
  sound : ∀ i, i < 4 → q.testBit i = true → Rch es (i : Int)

theorem Fnd.more {es : List Ed} {q f t : Nat} (h : Fnd es q) (hq : q < 16) (ht : t < 4) (hf4 : f < 4) (hf : q.testBit f = true) {e : Ed} (he : e ∈ es) (h1 : e.fr = f) (h2 : e.to = t) : Fnd es (q ||| 2 ^ t) := by
  obtain ⟨_, _, h5⟩ := or_facts q t hq ht
  refine ⟨by rw [h5, h.zero]; rfl, fun i hi hb => ?_⟩
  rw [h5] at hb
  by_cases ht : t = i
  · subst ht
    rw [← h2]
    exact .step e he (by rw [h1]; exact h.sound f hf4 hf)
  · rw [decide_eq_false ht, Bool.or_false] at hb
    exact h.sound i hi hb

set_option maxHeartbeats 2000000 in
set_option maxRecDepth 100000 in
theorem reached_any (loc : Int) (es : List Ed) (n : Nat) (A : Option Addr) (cap b off : Nat) (D : Nat → Nat → Value) (w : World) (hl : es.length ≤ 6) (hO : Lay.ed.Opn w w.heap.size es A b off D) (hF : Fit es n) :
    Calls Try.prog 110 #[.agg #[.int .i64 loc, .slice A es.length cap]] w fun e' w' => (∃ r : Nat, r < 16 ∧ e' = .returned (.int .u8 (r : Int)) ∧ ∀ i, i < n → r.testBit i = rcB es i) ∧ Below w.heap.size w w' := by
  have HO := Lib.hid hO
  have HF := Lib.hid hF
  clear hO hF
  obtain ⟨W1, hW1⟩ : ∃ W1, W1 = w.alloc (.cells #[.int .i64 loc, .slice A es.length cap] 152) := ⟨_, rfl⟩
  have HB0 : Hid (Below w.heap.size w W1) := by rw [hW1]; exact (Below.refl _ _).alloc (Nat.le_refl _) _
  have HR0 : Hid (Row W1 w.heap.size 152 #[.int .i64 loc, .slice A es.length cap]) := by rw [hW1]; exact Row.new _ _ _
  have HW1 := Lib.hid hW1
  clear hW1
  go_enter Try.func110, Try.ntmps110
  go_wp2_with fail
  rw [← HW1.out]
  refine (with_any 0 0 W1 (by omega) (by omega)).mono ?_
  rintro e' w1 ⟨rfl, rfl⟩
  go_wp2_with fail
  go_loopw [3] (fun rv wl => ∃ r : Nat, rv = .int .u8 (r : Int) ∧ r < 16 ∧ Hid (Fnd es r) ∧ Hid (Row wl w.heap.size 152 #[.int .i64 loc, .slice A es.length cap]) ∧ Hid (Below w.heap.size w wl)) (fun rv _ => 16 - (intOf rv).toNat)
  case atStart =>
    refine ⟨1, rfl, by omega, ⟨rfl, fun i hi hb => ?_⟩, HR0, HB0⟩
    rcases (by omega : i = 0 ∨ i = 1 ∨ i = 2 ∨ i = 3) with rfl | rfl | rfl | rfl
    · exact .zero
    all_goals exact absurd hb (by decide)
  case round =>
    obtain ⟨r, rfl, hr, HFn, HR, HB⟩ := hrel
    obtain ⟨r0, r1⟩ := HR.out.two
    rename World => wo
    go_wp2_with fail
    go_loopw [3, 12] (fun rv i wl => ∃ k q : Nat, k ≤ es.length ∧ i = .int .i64 k ∧ rv = .int .u8 (q : Int) ∧ r ≤ q ∧ q < 16 ∧ Hid (Fnd es q) ∧ Hid (∀ i, r.testBit i = true → q.testBit i = true) ∧ Hid (q = r → ∀ e ∈ es.take k, r.testBit e.fr.toNat = true → r.testBit e.to.toNat = true) ∧ Hid (Row wl w.heap.size 152 #[.int .i64 loc, .slice A es.length cap]) ∧ Hid (Below w.heap.size w wl)) (fun _ i _ => es.length - (intOf i).toNat)
    case atStart => exact ⟨0, r, Nat.zero_le _, rfl, rfl, Nat.le_refl _, hr, HFn, fun _ h => h, fun _ e he => by simp at he, HR, HB⟩
    case round =>
      clear r0 r1 HR HB HFn
      obtain ⟨k, q, hk, rfl, rfl, hrq, hq, HFn, HSub, HCl, HR, HB⟩ := hrel
      obtain ⟨r0, r1⟩ := HR.out.two
      have hwl : w.heap.size < wr.heap.size := HR.out.lt
      by_cases hlt : k < es.length
      · obtain ⟨x, hx⟩ : ∃ x, es[k]? = some x := ⟨_, List.getElem?_eq_getElem hlt⟩
        obtain ⟨rfl, hb, gc, gl⟩ := HO.out.below HB.out k x hx
        have g0 : wr.cell? ⟨b, off + k * 10, none⟩ = some (D k 0) := gc 0 (by decide)
        have g1 : wr.cell? ⟨b, off + k * 10 + 1, none⟩ = some (D k 1) := gc 1 (by decide)
        have g2 : wr.cell? ⟨b, off + k * 10 + 2, none⟩ = some (D k 2) := gc 2 (by decide)
        have g3 : wr.cell? ⟨b, off + k * 10 + 3, none⟩ = some (D k 3) := gc 3 (by decide)
        have g4 : wr.cell? ⟨b, off + k * 10 + 4, none⟩ = some (D k 4) := gc 4 (by decide)
        have g5 : wr.cell? ⟨b, off + k * 10 + 5, none⟩ = some (D k 5) := gc 5 (by decide)
        have g6 : wr.cell? ⟨b, off + k * 10 + 6, none⟩ = some (D k 6) := gc 6 (by decide)
        have g7 : wr.cell? ⟨b, off + k * 10 + 7, none⟩ = some (D k 7) := gc 7 (by decide)
        have g8 : wr.cell? ⟨b, off + k * 10 + 8, none⟩ = some (D k 8) := gc 8 (by decide)
        have g9 : wr.cell? ⟨b, off + k * 10 + 9, none⟩ = some (D k 9) := gc 9 (by decide)
        have hmem : x ∈ es := List.mem_of_getElem? hx
        obtain ⟨hn4, hfit⟩ := HF.out
        have hfx := hfit x hmem
        obtain ⟨x0, x1, xa, xl, xc, y0, y1, ya, yl, yc, ⟨q0, q1, q2, q3, q4, q5, q6, q7, q8, q9⟩, _⟩ := ed_lit gl
        have HTk : Hid (es.take (k + 1) = es.take k ++ [x]) := by
          show _ = _
          rw [List.take_succ_eq_append_getElem hlt, (List.getElem?_eq_some_iff.1 hx).2]
        obtain ⟨fr, to, gd, vr, vl, sy⟩ := x
        dsimp only at hfx q0 q1 q5 q9
        obtain ⟨f, rfl⟩ : ∃ f : Nat, fr = f := ⟨fr.toNat, by omega⟩
        obtain ⟨t, rfl⟩ : ∃ t : Nat, to = t := ⟨to.toNat, by omega⟩
        have hf4 : f < 4 := by omega
        have ht4 : t < 4 := by omega
        rw [q0] at g0
        rw [q1] at g1
        rw [q2] at g2
        rw [q3] at g3
        rw [q4] at g4
        rw [q5] at g5
        rw [q6] at g6
        rw [q7] at g7
        rw [q8] at g8
        rw [q9] at g9
        have HMem := Lib.hid hmem
        obtain ⟨W2, hW2⟩ : ∃ W2, W2 = wr.alloc (.cells #[.int .i64 (f : Int), .int .i64 (t : Int), .int .i64 x0, .int .i64 x1, .slice xa xl xc, .int .i64 vr, .int .i64 y0, .int .i64 y1, .slice ya yl yc, .int .i64 sy] 154) := ⟨_, rfl⟩
        have hb2 : Below wr.heap.size wr W2 := by rw [hW2]; exact (Below.refl _ _).alloc (Nat.le_refl _) _
        have HR2 := Lib.hid (HR.out.under hb2 HR.out.lt)
        have HB2 := Lib.hid (HB.out.trans (hb2.mono HB.out.size))
        have HRw : Hid (Row W2 wr.heap.size 154 #[.int .i64 (f : Int), .int .i64 (t : Int), .int .i64 x0, .int .i64 x1, .slice xa xl xc, .int .i64 vr, .int .i64 y0, .int .i64 y1, .slice ya yl yc, .int .i64 sy]) := by rw [hW2]; exact Row.new _ _ _
        have HW2 := Lib.hid hW2
        obtain ⟨hb, hhb⟩ : ∃ hb, hb = q.testBit f := ⟨_, rfl⟩
        have HHb := Lib.hid hhb
        clear gl hx gc hfx hfit hn4 hmem q0 q1 q2 q3 q4 q5 q6 q7 q8 q9 hb2 hW2 hhb
        go_wp2_with fail
        rw [← HW2.out]
        refine (has_any q f W2 hq hf4).mono ?_
        rintro e' w2 ⟨rfl, rfl⟩
        rw [← HHb.out]
        clear g0 g1 g2 g3 g4 g5 g6 g7 g8 g9 r0 r1
        cases hb
        · have HCl2 : Hid (q = r → ∀ e ∈ es.take (k + 1), r.testBit e.fr.toNat = true → r.testBit e.to.toNat = true) := fun e1 e he hh => by
            rw [HTk.out, List.mem_append] at he
            rcases he with he | he
            · exact HCl.out e1 e he hh
            · rw [List.mem_singleton] at he
              subst he
              exfalso
              have := HSub.out _ hh
              have h2 := HHb.out
              rw [show ((f : Int)).toNat = f by omega] at this
              rw [this] at h2
              cases h2
          go_wp2_with fail
          go_roundw
          case rel => exact ⟨k + 1, q, by omega, by go_num, rfl, hrq, hq, HFn, HSub, HCl2, HR2, HB2⟩
          case measure => simp [intOf]; omega
        · obtain ⟨g0, g1, _⟩ := HRw.out.ten
          obtain ⟨f1, f2, f3⟩ := or_facts q t hq ht4
          obtain ⟨p, hp⟩ : ∃ p, p = q ||| 2 ^ t := ⟨_, rfl⟩
          rw [← hp] at f1 f2 f3
          have HFn2 : Hid (Fnd es p) := by rw [hp]; exact HFn.out.more hq ht4 hf4 HHb.out.symm HMem.out rfl rfl
          have HSub2 : Hid (∀ i, r.testBit i = true → p.testBit i = true) := fun i hi => by rw [f3, HSub.out i hi]; rfl
          have HCl2 : Hid (p = r → ∀ e ∈ es.take (k + 1), r.testBit e.fr.toNat = true → r.testBit e.to.toNat = true) := fun e1 e he hh => by
            rw [HTk.out, List.mem_append] at he
            rcases he with he | he
            · exact HCl.out (by omega) e he hh
            · rw [List.mem_singleton] at he
              subst he
              rw [show ((t : Int)).toNat = t by omega, ← e1, f3, decide_eq_true rfl, Bool.or_true]
          have HP := Lib.hid hp
          clear hp f3
          go_wp2_with fail
          refine (with_any q t _ hq ht4).mono ?_
          rintro e' w3 ⟨rfl, rfl⟩
          rw [← HP.out]
          clear g0 g1
          go_wp2_with fail
          go_roundw
          case rel => exact ⟨k + 1, p, by omega, by go_num, rfl, by omega, f2, HFn2, HSub2, HCl2, HR2, HB2⟩
          case measure => simp [intOf]; omega
      · have hkk : k = es.length := by omega
        subst hkk
        have HCl2 : Hid (q = r → ∀ e ∈ es, r.testBit e.fr.toNat = true → r.testBit e.to.toNat = true) := by have := HCl.out; rw [List.take_length] at this; exact this
        by_cases hqr : q = r
        · subst hqr
          have hf := HF.out
          have HEq : Hid (∀ i, i < n → q.testBit i = rcB es i) := rch_eq HFn.out.zero (fun i hi hb => HFn.out.sound i (by have := hf.1; omega) hb) hf.2 (HCl2.out rfl)
          clear hf HCl2 HCl
          go_wp2_with fail
          go_ret
          exact ⟨⟨q, hq, rfl, HEq.out⟩, HB.out⟩
        · have hne : ((q : Int) == (r : Int)) = false := by simp; omega
          go_wp2_with fail
          go_roundw
          case rel => exact ⟨q, rfl, hq, HFn, HR, HB⟩
          case measure => simp [intOf]; omega


/-- How many locations are answered for. -/
def rN (s : Sy) (p : Int) : Nat := if syOk s = true ∧ 0 ≤ p ∧ p < s.ps.length then (s.ps.getD p.toNat default).loc.toNat else 0
noncomputable def rM (s : Sy) (p : Int) : Nat → Bool := rcB (s.ps.getD p.toNat default).es
def RPost (s : Sy) (p : Int) (w : World) (e' : Ending) (w' : World) : Prop := ∃ S : Value, e' = .returned S ∧ BN (rN s p) w' w.heap.size w'.heap.size S (rM s p) ∧ Below w.heap.size w w'

theorem rN_no {s : Sy} {p : Int} (h : ¬ (syOk s = true ∧ 0 ≤ p ∧ p < s.ps.length)) : rN s p = 0 := by unfold rN; rw [if_neg h]
theorem rpost_no {s : Sy} {p : Int} {w w' : World} (h : ¬ (syOk s = true ∧ 0 ≤ p ∧ p < s.ps.length)) (hb : Below w.heap.size w w') (A : Option Addr) (cap : Nat) : RPost s p w (.returned (.slice A 0 cap)) w' :=
  ⟨_, rfl, by rw [rN_no h]; exact BN.empty _ _ _ _ _ _, hb⟩
theorem rN_yes {s : Sy} {k n : Nat} {x : Pr} (hs : syOk s = true) (hx : s.ps[k]? = some x) (hn : x.loc = n) : rN s (k : Int) = n ∧ rM s (k : Int) = rcB x.es := by
  have hk := (List.getElem?_eq_some_iff.1 hx).1
  have hg : s.ps.getD k default = x := by simp [List.getD, hx]
  unfold rN rM
  rw [if_pos ⟨hs, by omega, by omega⟩, Int.toNat_natCast, hg, hn]
  exact ⟨by omega, rfl⟩
theorem prOk_fit {x : Pr} {n : Nat} (h : prOk x = true) (hn : x.loc = n) : 1 ≤ n ∧ n ≤ 4 ∧ x.es.length ≤ 6 ∧ Fit x.es n := by
  unfold prOk at h
  simp only [Bool.and_eq_true, decide_eq_true_eq, List.all_eq_true] at h
  obtain ⟨h1, h2, h3, h4⟩ := h
  refine ⟨by omega, by omega, h4, by omega, fun e he => ?_⟩
  have h5 := h1 e he
  unfold edOk locOk at h5
  simp only [Bool.and_eq_true, decide_eq_true_eq] at h5
  rw [hn] at h5
  omega
theorem syOk_pr {s : Sy} {k : Nat} {x : Pr} (h : syOk s = true) (hx : s.ps[k]? = some x) : prOk x = true := by
  unfold syOk at h
  simp only [Bool.and_eq_true, List.all_eq_true] at h
  exact h.1 x (List.mem_of_getElem? hx)
theorem rN_le (s : Sy) (p : Int) : rN s p ≤ 1048576 := by
  by_cases h : syOk s = true ∧ 0 ≤ p ∧ p < s.ps.length
  · obtain ⟨k, rfl⟩ : ∃ k : Nat, p = k := ⟨p.toNat, by omega⟩
    have hk : k < s.ps.length := by omega
    obtain ⟨x, hx⟩ : ∃ x, s.ps[k]? = some x := ⟨_, List.getElem?_eq_getElem hk⟩
    have hok := syOk_pr h.1 hx
    obtain ⟨n, hn⟩ : ∃ n : Nat, x.loc = n := ⟨x.loc.toNat, by
      unfold prOk at hok
      simp only [Bool.and_eq_true, decide_eq_true_eq] at hok
      omega⟩
    rw [(rN_yes h.1 hx hn).1]
    have := prOk_fit hok hn
    omega
  · rw [rN_no h]
    omega
theorem make_bools (n : Nat) (hn : n ≤ 1048576) (w : World) : ∃ cs : Array Value, cs.size = n ∧ (∀ i, i < n → cs[i]? = some (.bool false)) ∧ (Instr.makeSlice 69 (.int .i64 (n : Int)) (.int .i64 (n : Int))).run Try.prog w = .ok (.slice (some ⟨w.heap.size, 0, none⟩) n n) (w.alloc (.cells cs 4)) := by
  obtain ⟨i0, hi0, hz0, hz1, hz2⟩ := info_parts Try.info4
  have hmk := run_make_of (P := Try.prog) 69 4 i0 _ Try.underlying69 hi0 hz0 n (by rw [hz2]; omega) (by omega) w
  rw [hz1] at hmk
  refine ⟨_, ?_, fun i hi => ?_, hmk⟩
  · rw [size_madeCells]; omega
  · rw [← Array.getElem?_toList, show Value.cells (.bool false) = #[.bool false] from rfl, toList_madeCells_one, List.getElem?_replicate, if_pos (by omega)]

end Go.Proofs.Ytponbjclecdafaa

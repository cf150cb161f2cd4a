/- Joined texts: W5, W8. Nothing is assumed. -/
import Derived.Test.YtkegcemhfhlenaaJ07
import Derived.Test.YtkegcemhfhlenaaJ04
import Derived.Test.YtkegcemhfhlenaaJ03
import Derived.Test.YtkegcemhfhlenaaW7Q
import Derived.Deep.RegionHeld3
namespace Go.Proofs.Ytkegcemhfhlenaa
open Go.RowKit

/-- The first result of countNodes. -/
def cnOut (d : Nat) (e : Ex) : Int := if shape d e then (cnt d e : Int) else 0

theorem cnOut_true {d : Nat} {e : Ex} (h : shape d e = true) : cnOut d e = cnt d e := by unfold cnOut; rw [if_pos h]
theorem cnOut_false {d : Nat} {e : Ex} (h : shape d e = false) : cnOut d e = 0 := by unfold cnOut; rw [if_neg (by simp [h])]
theorem ret_two {k : IntKind} {a b : Int} {c d : Bool} (h : a = b) (h2 : c = d) : Ending.returned (.tuple #[.int k a, .bool c]) = .returned (.tuple #[.int k b, .bool d]) := by rw [h, h2]

def CnSaid (e : Ex) : Prop := ∀ (dd : Int) (c0 c1 c2 : Value) (w : World), Lies w w.heap.size e c0 c1 c2 → desc e ≤ 1048576 → 0 ≤ dd → dd ≤ 6 →
    Calls Try.prog 83 #[.agg #[c0, c1, c2], .int .i64 dd] w fun e' w' => e' = .returned (.tuple #[.int .i64 (cnOut dd.toNat e), .bool (shape dd.toNat e)]) ∧ Below w.heap.size w w'

set_option maxHeartbeats 400000 in
theorem cn_any : ∀ (e : Ex), CnSaid e := by
  intro e
  induction e using Ex.ind with
  | h k v kids ih =>
    intro dd c0 c1 c2 w hL hd h0 h6
    obtain ⟨A, cap, b, off, C0, C1, C2, rfl, rfl, rfl, hl, hO⟩ := hL.open_
    unfold maxLen at hl
    have HIH := Lib.hid ih
    have HO := Lib.hid hO
    clear ih hL hO
    simp only [desc] at hd
    have hlen : kids.length ≤ 1048576 := by have := descL_length kids; omega
    by_cases hz : dd < 1
    · have : dd = 0 := by omega
      subst this
      go_enter Try.func83, Try.ntmps83
      go_wp2_with fail
      go_ret2
      exact ⟨ret_two rfl rfl, (Below.refl _ _).alloc (Nat.le_refl _) _⟩
    have HF := Lib.hid (shape_pred (k := k) (v := v) (kids := kids) hz)
    have HC := Lib.hid (cnt_pred (dd := dd) (k := k) (v := v) (kids := kids) (by omega))
    have hzb : (dd == 0) = false := by rw [beq_eq_false_iff_ne]; omega
    obtain ⟨rb, hrb⟩ : ∃ rb, rb = rootOk k v kids.length := ⟨_, rfl⟩
    have HRB := Lib.hid hrb
    clear hrb
    cases rb
    · have HN : Hid (shape dd.toNat (.node k v kids) = false) := by show _ = _; rw [HF.out, ← HRB.out]; rfl
      go_enter Try.func83, Try.ntmps83
      go_wp2_with fail
      refine (root_any k v A kids.length cap _).mono ?_
      rintro e' w1 ⟨rfl, hb1⟩
      rw [← HRB.out]
      have HB1 := Lib.hid (boxed (hb1.mono (by simp)))
      clear hb1
      go_wp2_with fail
      go_ret2
      exact ⟨ret_two (cnOut_false HN.out).symm HN.out.symm, HB1.out⟩
    · go_enter Try.func83, Try.ntmps83
      go_wp2_with fail
      refine (root_any k v A kids.length cap _).mono ?_
      rintro e' w1 ⟨rfl, hb1⟩
      rw [← HRB.out]
      have HB1 : Hid (Below (w.heap.size + 1) (w.alloc (.cells #[.int .i64 k, .int .i64 v, .slice A kids.length cap] 81)) w1) := hb1.mono (by simp)
      clear hb1
      have hbox : w1.cell? ⟨w.heap.size, 2, none⟩ = some (.slice A kids.length cap) := by simpa using boxed_cell HB1.out 2
      go_wp2_with fail
      go_loopw [6, 21] (fun n i wl => ∃ j S : Nat, j ≤ kids.length ∧ i = .int .i64 j ∧ n = .int .i64 (S : Int) ∧ Hid (S = 1 + ((kids.take j).map (cnt (dd - 1).toNat)).sum) ∧ Hid ((kids.take j).all (shape (dd - 1).toNat) = true) ∧ Hid (Below (w.heap.size + 1) (w.alloc (.cells #[.int .i64 k, .int .i64 v, .slice A kids.length cap] 81)) wl)) (fun _ i _ => kids.length - (intOf i).toNat)
      case atStart => exact ⟨0, 1, Nat.zero_le _, rfl, rfl, rfl, rfl, HB1⟩
      case round =>
        clear hbox HB1
        obtain ⟨j, S, hj, rfl, rfl, HS, HT, HB⟩ := hrel
        by_cases hlt : j < kids.length
        · obtain ⟨x, hx⟩ : ∃ x, kids[j]? = some x := ⟨_, List.getElem?_eq_getElem hlt⟩
          obtain ⟨rfl, hb, g0, g1, g2, gl⟩ := HO.out.below (boxed HB.out) j x hx
          have hdx : desc x ≤ 1048576 := by have := descL_mem (List.mem_of_getElem? hx); omega
          obtain ⟨c, hc⟩ : ∃ c : Nat, c = cnt (dd - 1).toNat x := ⟨_, rfl⟩
          have hcS : S ≤ 1048577 ∧ c ≤ 1048577 := by
            have h1 := sum_take_le (cnt (dd - 1).toNat) kids j
            have h2 := cnt_le dd.toNat (Ex.node k v kids)
            rw [cnt_pred (by omega)] at h2
            simp only [desc] at h2
            have h3 := cnt_le (dd - 1).toNat x
            rw [HS.out, hc]
            omega
          have HC2 := Lib.hid hc
          have HT2 := Lib.hid (sum_take_succ (f := cnt (dd - 1).toNat) hx)
          obtain ⟨sb, hsb⟩ : ∃ sb, sb = shape (dd - 1).toNat x := ⟨_, rfl⟩
          have HSB := Lib.hid hsb
          have HG := Lib.hid gl
          have HX := Lib.hid hx
          have HD := Lib.hid hdx
          obtain ⟨q0, q1, q2⟩ : (∃ n, C0 j = .int .i64 n) ∧ (∃ n, C1 j = .int .i64 n) ∧ (∃ a l cp, C2 j = .slice a l cp) := by
            obtain ⟨kx, vx, kidsx⟩ := x
            obtain ⟨_, _, _, _, _, _, _, e0, e1, e2, _⟩ := gl.open_
            exact ⟨⟨_, e0⟩, ⟨_, e1⟩, ⟨_, _, _, e2⟩⟩
          obtain ⟨n0, q0⟩ := q0
          obtain ⟨n1, q1⟩ := q1
          obtain ⟨a2, l2, cp2, q2⟩ := q2
          rw [q0] at g0
          rw [q1] at g1
          rw [q2] at g2
          have HQ : Hid (Lies wr w.heap.size x (.int .i64 n0) (.int .i64 n1) (.slice a2 l2 cp2)) := by show Lies _ _ _ _ _ _; rw [← q0, ← q1, ← q2]; exact gl
          clear gl hx hc hsb q0 q1 q2 HG hdx
          have hsz : w.heap.size + 1 ≤ wr.heap.size := by have := HB.out.size; simpa using this
          have HQ2 : Hid (Lies (wr.alloc (.cells #[.int .i64 n0, .int .i64 n1, .slice a2 l2 cp2] 81)) (wr.alloc (.cells #[.int .i64 n0, .int .i64 n1, .slice a2 l2 cp2] 81)).heap.size x (.int .i64 n0) (.int .i64 n1) (.slice a2 l2 cp2)) :=
            (HQ.out.alloc (by omega) _).more (by simp; omega)
          have HB2 : Hid (Below (w.heap.size + 1) (w.alloc (.cells #[.int .i64 k, .int .i64 v, .slice (some ⟨b, off, none⟩) kids.length cap] 81)) (wr.alloc (.cells #[.int .i64 n0, .int .i64 n1, .slice a2 l2 cp2] 81))) := HB.out.alloc hsz _
          cases sb
          all_goals
            (go_wp2_with fail
             refine (HIH.out j x HX.out (dd - 1) _ _ _ _ HQ2.out HD.out (by omega) (by omega)).mono ?_
             rintro e' w2 ⟨rfl, hb2⟩
             have HB3 := Lib.hid (HB2.out.trans (hb2.mono (by simp; omega)))
             clear hb2 HB2 HQ2)
          · rw [← HSB.out, cnOut_false HSB.out.symm]
            have HN : Hid (shape dd.toNat (.node k v kids) = false) := by show _ = _; rw [HF.out, all_false_of HX.out HSB.out.symm]; simp
            go_wp2_with fail
            go_ret2
            exact ⟨ret_two (cnOut_false HN.out).symm HN.out.symm, boxed HB3.out⟩
          · rw [← HSB.out, cnOut_true HSB.out.symm, ← HC2.out]
            go_wp2_with fail
            go_roundw
            case rel => exact ⟨j + 1, S + c, by omega, by go_num, by go_num, (by show _ = _; rw [HT2.out, ← HC2.out, HS.out]; omega), (by show _ = _; rw [all_take_succ HX.out, HT.out, ← HSB.out]; rfl), HB3⟩
            case measure => simp [intOf]; omega
        · have hjj : j = kids.length := by omega
          subst hjj
          have HN : Hid (shape dd.toNat (.node k v kids) = true) := by
            show _ = _
            have := HT.out
            rw [List.take_length] at this
            rw [HF.out, ← HRB.out, this]
            rfl
          go_wp2_with fail
          go_ret2
          exact ⟨ret_two (by rw [cnOut_true HN.out, HC.out, HS.out, List.take_length]) HN.out.symm, boxed HB.out⟩

end Go.Proofs.Ytkegcemhfhlenaa
namespace Go.Proofs.Ytkegcemhfhlenaa
open Go.RowKit

set_option maxHeartbeats 400000 in
theorem specValid_any (e : Ex) (c0 c1 c2 : Value) (w : World) (hL : Lies w w.heap.size e c0 c1 c2) (hd : desc e ≤ 1048576) :
    Calls Try.prog 78 #[.agg #[c0, c1, c2]] w fun e' w' => e' = .returned (.bool (valid e)) ∧ Below w.heap.size w w' := by
  obtain ⟨n0, n1, a2, l2, cp2, rfl, rfl, rfl⟩ := hL.form
  have HL : Hid (Lies (w.alloc (.cells #[.int .i64 n0, .int .i64 n1, .slice a2 l2 cp2] 81)) (w.alloc (.cells #[.int .i64 n0, .int .i64 n1, .slice a2 l2 cp2] 81)).heap.size e (.int .i64 n0) (.int .i64 n1) (.slice a2 l2 cp2)) := (hL.alloc (Nat.le_refl _) _).more (by simp)
  clear hL
  obtain ⟨sb, hsb⟩ : ∃ sb, sb = shape 6 e := ⟨_, rfl⟩
  obtain ⟨c, hc⟩ : ∃ c, c = cnt 6 e := ⟨_, rfl⟩
  have HSB := Lib.hid hsb
  have HC := Lib.hid hc
  clear hsb hc
  cases sb
  · go_enter Try.func78, Try.ntmps78
    go_wp2_with fail
    refine (shape_any e 6 _ _ _ _ HL.out (by omega) (by omega)).mono ?_
    rintro e' w1 ⟨rfl, hb1⟩
    rw [show (6 : Int).toNat = 6 from rfl, ← HSB.out]
    have HB1 : Hid (Below w.heap.size w w1) := boxed (hb1.mono (by simp))
    clear hb1
    go_wp2_with fail
    go_ret
    exact ⟨ret_bool (by unfold valid; rw [← HSB.out]; rfl), HB1.out⟩
  · go_enter Try.func78, Try.ntmps78
    go_wp2_with fail
    refine (shape_any e 6 _ _ _ _ HL.out (by omega) (by omega)).mono ?_
    rintro e' w1 ⟨rfl, hb1⟩
    rw [show (6 : Int).toNat = 6 from rfl, ← HSB.out]
    have HB1 : Hid (Below (w.heap.size + 1) (w.alloc (.cells #[.int .i64 n0, .int .i64 n1, .slice a2 l2 cp2] 81)) w1) := hb1.mono (by simp)
    have HL1 := Lib.hid (below_more HL.out hb1 hb1.size)
    clear hb1
    have g0 : w1.cell? ⟨w.heap.size, 0, none⟩ = some (.int .i64 n0) := by simpa using boxed_cell HB1.out 0
    have g1 : w1.cell? ⟨w.heap.size, 1, none⟩ = some (.int .i64 n1) := by simpa using boxed_cell HB1.out 1
    have g2 : w1.cell? ⟨w.heap.size, 2, none⟩ = some (.slice a2 l2 cp2) := by simpa using boxed_cell HB1.out 2
    go_wp2_with fail
    refine (count_any e 6 _ _ _ _ HL1.out hd (by omega) (by omega)).mono ?_
    rintro e' w2 ⟨rfl, hb2⟩
    rw [show (6 : Int).toNat = 6 from rfl, ← HC.out]
    have HB2 : Hid (Below w.heap.size w w2) := (boxed HB1.out).trans (hb2.mono (boxed HB1.out).size)
    clear hb2
    go_wp2_with fail
    all_goals go_ret
    all_goals exact ⟨ret_bool (by unfold valid; rw [← HSB.out, ← HC.out]; simp; omega), HB2.out⟩

set_option maxHeartbeats 400000 in
theorem implValid_any (e : Ex) (c0 c1 c2 : Value) (w : World) (hL : Lies w w.heap.size e c0 c1 c2) (hd : desc e ≤ 1048576) :
    Calls Try.prog 72 #[.agg #[c0, c1, c2]] w fun e' w' => e' = .returned (.bool (valid e)) ∧ Below w.heap.size w w' := by
  obtain ⟨n0, n1, a2, l2, cp2, rfl, rfl, rfl⟩ := hL.form
  have HL : Hid (Lies (w.alloc (.cells #[.int .i64 n0, .int .i64 n1, .slice a2 l2 cp2] 81)) (w.alloc (.cells #[.int .i64 n0, .int .i64 n1, .slice a2 l2 cp2] 81)).heap.size e (.int .i64 n0) (.int .i64 n1) (.slice a2 l2 cp2)) := (hL.alloc (Nat.le_refl _) _).more (by simp)
  clear hL
  obtain ⟨sb, hsb⟩ : ∃ sb, sb = shape 6 e := ⟨_, rfl⟩
  obtain ⟨c, hc⟩ : ∃ c, c = cnt 6 e := ⟨_, rfl⟩
  have HSB := Lib.hid hsb
  have HC := Lib.hid hc
  clear hsb hc
  cases sb
  all_goals
    (go_enter Try.func72, Try.ntmps72
     go_wp2_with fail
     refine (cn_any e 6 _ _ _ _ HL.out hd (by omega) (by omega)).mono ?_
     rintro e' w1 ⟨rfl, hb1⟩
     have HB1 : Hid (Below w.heap.size w w1) := boxed (hb1.mono (by simp))
     clear hb1)
  · rw [show (6 : Int).toNat = 6 from rfl, ← HSB.out]
    go_wp2_with fail
    go_ret
    exact ⟨ret_bool (by unfold valid; rw [← HSB.out]; rfl), HB1.out⟩
  · rw [show (6 : Int).toNat = 6 from rfl, ← HSB.out, cnOut_true HSB.out.symm, ← HC.out]
    go_wp2_with fail
    all_goals go_ret
    all_goals exact ⟨ret_bool (by unfold valid; rw [← HSB.out, ← HC.out]; simp; omega), HB1.out⟩

end Go.Proofs.Ytkegcemhfhlenaa

/- The walk of impl.countNodes at expressions. -/
import Derived.Test.YtcipnecdeipeaaaDoorW1
import Derived.Test.YtcipnecdeipeaaaDoorW2
import Derived.Test.YtcipnecdeipeaaaDoorW4
import Derived.Test.YtcipnecdeipeaaaDoorJ05
namespace Go.Proofs.YtcipnecdeipeaaaDoor
open Go.RowKit

theorem ret_twoX {k : IntKind} {a b : Int} {c d : Bool} (h : a = b) (h2 : c = d) : Ending.returned (.tuple #[.int k a, .bool c]) = .returned (.tuple #[.int k b, .bool d]) := by rw [h, h2]

/-- The first result of countNodes; the number of nodes of a valid expression, or 0. -/
def xcOut (d : Nat) (e : Ex) : Int := if shape d e then (cnt d e : Int) else 0
theorem xcOut_true {d : Nat} {e : Ex} (h : shape d e = true) : xcOut d e = cnt d e := by unfold xcOut; rw [if_pos h]
theorem xcOut_false {d : Nat} {e : Ex} (h : shape d e = false) : xcOut d e = 0 := by unfold xcOut; rw [if_neg (by simp [h])]
def xNodes (e : Ex) : Int := if valid e then (cnt 6 e : Int) else 0
theorem xNodes_pos {e : Ex} : decide (0 < xNodes e) = valid e := by
  unfold xNodes
  cases h : valid e
  · simp
  · have := cnt_pos 6 e
    simp; omega

def XcSaid (e : Ex) : Prop := ∀ (dd : Int) (c0 c1 c2 : Value) (w : World), Lies w w.heap.size e c0 c1 c2 → desc e ≤ 1048576 → 0 ≤ dd → dd ≤ 6 →
    Calls Tryd.prog 72 #[.agg #[c0, c1, c2], .int .i64 dd, .func (.func 73) #[] #[]] w fun e' w' => e' = .returned (.tuple #[.int .i64 (xcOut dd.toNat e), .bool (shape dd.toNat e)]) ∧ Below w.heap.size w w'

set_option maxHeartbeats 1000000 in
set_option maxRecDepth 100000 in
theorem xc_any : ∀ (e : Ex), XcSaid e := by
  intro e
  induction e using Ex.ind with
  | h k v kids ih =>
    intro dd c0 c1 c2 w hL hd h0 h6
    obtain ⟨A, cap, b, off, C0, C1, C2, rfl, rfl, rfl, hl, hO⟩ := hL.open_
    unfold maxLen at hl
    have HIH := Lib.hid ih
    have HO := Lib.hid hO
    clear ih hL hO
    simp only [desc] at hd
    have hlen : kids.length ≤ 1048576 := by have := descL_length kids; omega
    by_cases hz : dd < 1
    · have : dd = 0 := by omega
      subst this
      go_enter Tryd.func72, Tryd.ntmps72
      go_wp2_with fail
      go_ret2
      exact ⟨ret_twoX rfl rfl, (Below.refl _ _).alloc (Nat.le_refl _) _⟩
    have HF := Lib.hid (shape_pred (k := k) (v := v) (kids := kids) hz)
    have HC := Lib.hid (cnt_pred (dd := dd) (k := k) (v := v) (kids := kids) (by omega))
    have hzb : (dd == 0) = false := by rw [beq_eq_false_iff_ne]; omega
    obtain ⟨W1, hW1⟩ : ∃ W1, W1 = w.alloc (.cells #[.int .i64 k, .int .i64 v, .slice A kids.length cap] 44) := ⟨_, rfl⟩
    have hb0 : Below w.heap.size w W1 := by rw [hW1]; exact (Below.refl _ _).alloc (Nat.le_refl _) _
    have hs1 : W1.heap.size = w.heap.size + 1 := by rw [hW1]; simp
    have HR : Hid (Row W1 w.heap.size 44 #[.int .i64 k, .int .i64 v, .slice A kids.length cap]) := by rw [hW1]; exact Row.new _ _ _
    have HO1 := Lib.hid (HO.out.grow hb0 hb0.size)
    have HW1 := Lib.hid hW1
    have HS1 := Lib.hid hs1
    have HB0 := Lib.hid hb0
    clear hW1 hb0 hs1
    obtain ⟨rb, hrb⟩ : ∃ rb, rb = rootOk k v kids.length := ⟨_, rfl⟩
    have HRB := Lib.hid hrb
    clear hrb
    cases rb
    · have HN : Hid (shape dd.toNat (.node k v kids) = false) := by show _ = _; rw [HF.out, ← HRB.out]; rfl
      go_enter Tryd.func72, Tryd.ntmps72
      go_wp2_with fail
      rw [← HW1.out]
      refine (root_any k v A kids.length cap _).mono ?_
      rintro e' w1 ⟨rfl, hb1⟩
      rw [← HRB.out]
      have HB1 := Lib.hid (HB0.out.trans (hb1.mono HB0.out.size))
      clear hb1
      go_wp2_with fail
      go_ret2
      exact ⟨ret_twoX (xcOut_false HN.out).symm HN.out.symm, HB1.out⟩
    · go_enter Tryd.func72, Tryd.ntmps72
      go_wp2_with fail
      rw [← HW1.out]
      refine (root_any k v A kids.length cap _).mono ?_
      rintro e' w1 ⟨rfl, hb1⟩
      rw [← HRB.out]
      have HB1 : Hid (Below W1.heap.size W1 w1) := hb1
      have hr1 := HR.out.under hb1 HR.out.lt
      have g0 : w1.cell? ⟨w.heap.size, 0, none⟩ = some (.int .i64 k) := hr1.cell 0
      have g1 : w1.cell? ⟨w.heap.size, 1, none⟩ = some (.int .i64 v) := hr1.cell 1
      have g2 : w1.cell? ⟨w.heap.size, 2, none⟩ = some (.slice A kids.length cap) := hr1.cell 2
      clear hb1 hr1
      go_wp2_with fail
      refine (operandsF_any k v A kids.length cap _).mono ?_
      rintro e' w2 ⟨rfl, hb2⟩
      have HB2 : Hid (Below W1.heap.size W1 w2) := HB1.out.trans (hb2.mono HB1.out.size)
      clear hb2 HB1 g0 g1 g2
      go_wp2_with fail
      go_loopw [8, 25] (fun n i wl => ∃ j S : Nat, j ≤ kids.length ∧ i = .int .i64 j ∧ n = .int .i64 (S : Int) ∧ Hid (S = 1 + ((kids.take j).map (cnt (dd - 1).toNat)).sum) ∧ Hid ((kids.take j).all (shape (dd - 1).toNat) = true) ∧ Hid (Below W1.heap.size W1 wl)) (fun _ i _ => kids.length - (intOf i).toNat)
      case atStart => exact ⟨0, 1, Nat.zero_le _, rfl, rfl, rfl, rfl, HB2⟩
      case round =>
        clear HB2
        obtain ⟨j, S, hj, rfl, rfl, HS, HT, HB⟩ := hrel
        by_cases hlt : j < kids.length
        · obtain ⟨x, hx⟩ : ∃ x, kids[j]? = some x := ⟨_, List.getElem?_eq_getElem hlt⟩
          obtain ⟨rfl, hb, g0, g1, g2, gl⟩ := HO1.out.below HB.out j x hx
          have hdx : desc x ≤ 1048576 := by have := descL_mem (List.mem_of_getElem? hx); omega
          obtain ⟨c, hc⟩ : ∃ c : Nat, c = cnt (dd - 1).toNat x := ⟨_, rfl⟩
          have hcS : S ≤ 1048577 ∧ c ≤ 1048577 := by
            have h1 := sum_take_le (cnt (dd - 1).toNat) kids j
            have h2 := cnt_le dd.toNat (Ex.node k v kids)
            rw [cnt_pred (by omega)] at h2
            simp only [desc] at h2
            have h3 := cnt_le (dd - 1).toNat x
            rw [HS.out, hc]
            omega
          have HC2 := Lib.hid hc
          have HT2 := Lib.hid (sum_take_succ (f := cnt (dd - 1).toNat) hx)
          obtain ⟨sb, hsb⟩ : ∃ sb, sb = shape (dd - 1).toNat x := ⟨_, rfl⟩
          have HSB := Lib.hid hsb
          have HX := Lib.hid hx
          have HD := Lib.hid hdx
          obtain ⟨n0, n1, a2, l2, cp2, q0, q1, q2⟩ := gl.form
          rw [q0] at g0
          rw [q1] at g1
          rw [q2] at g2
          have hsz : W1.heap.size ≤ wr.heap.size := HB.out.size
          obtain ⟨W2, hW2⟩ : ∃ W2, W2 = wr.alloc (.cells #[.int .i64 n0, .int .i64 n1, .slice a2 l2 cp2] 44) := ⟨_, rfl⟩
          have hb2 : Below wr.heap.size wr W2 := by rw [hW2]; exact (Below.refl _ _).alloc (Nat.le_refl _) _
          have HQ2 : Hid (Lies W2 W2.heap.size x (.int .i64 n0) (.int .i64 n1) (.slice a2 l2 cp2)) := by
            rw [q0, q1, q2] at gl
            exact below_more (gl.more hsz) hb2 hb2.size
          have HB2 : Hid (Below W1.heap.size W1 W2) := HB.out.trans (hb2.mono HB.out.size)
          have HW2 := Lib.hid hW2
          clear gl hx hc hsb q0 q1 q2 hdx hW2 hb2
          cases sb
          all_goals
            (go_wp2_with fail
             rw [← HW2.out]
             refine (HIH.out j x HX.out (dd - 1) _ _ _ _ HQ2.out HD.out (by omega) (by omega)).mono ?_
             rintro e' w2 ⟨rfl, hb2⟩
             have HB3 : Hid (Below W1.heap.size W1 w2) := HB2.out.trans (hb2.mono HB2.out.size)
             clear hb2 HB2 HQ2)
          · rw [← HSB.out, xcOut_false HSB.out.symm]
            have HN : Hid (shape dd.toNat (.node k v kids) = false) := by show _ = _; rw [HF.out, all_false_of HX.out HSB.out.symm]; simp
            go_wp2_with fail
            go_ret2
            exact ⟨ret_twoX (xcOut_false HN.out).symm HN.out.symm, HB0.out.trans (HB3.out.mono HB0.out.size)⟩
          · rw [← HSB.out, xcOut_true HSB.out.symm, ← HC2.out]
            go_wp2_with fail
            go_roundw
            case rel => exact ⟨j + 1, S + c, by omega, by go_num, by go_num, (by show _ = _; rw [HT2.out, ← HC2.out, HS.out]; omega), (by show _ = _; rw [all_take_succ HX.out, HT.out, ← HSB.out]; rfl), HB3⟩
            case measure => simp [intOf]; omega
        · have hjj : j = kids.length := by omega
          subst hjj
          have HN : Hid (shape dd.toNat (.node k v kids) = true) := by
            show _ = _
            have := HT.out
            rw [List.take_length] at this
            rw [HF.out, ← HRB.out, this]
            rfl
          go_wp2_with fail
          go_ret2
          exact ⟨ret_twoX (by rw [xcOut_true HN.out, HC.out, HS.out, List.take_length]) HN.out.symm, HB0.out.trans (HB.out.mono HB0.out.size)⟩

end Go.Proofs.YtcipnecdeipeaaaDoor

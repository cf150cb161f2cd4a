/- The walk of spec.l1Shape. -/
import Derived.Test.YtcipnecdeipeaaaDoorW1
import Derived.Lib.Hide
namespace Go.Proofs.YtcipnecdeipeaaaDoor
open Go.RowKit

theorem shape_pred {dd : Int} {k v : Int} {kids : List Ex} (h : ¬ dd < 1) : shape dd.toNat (.node k v kids) = (rootOk k v kids.length && kids.all (shape (dd - 1).toNat)) := by
  obtain ⟨n, rfl⟩ : ∃ n : Nat, dd = n + 1 := ⟨(dd - 1).toNat, by omega⟩
  rw [show ((n : Int) + 1).toNat = n + 1 by omega, show ((n : Int) + 1 - 1).toNat = n by omega]
  rfl

def ShapeSaid (e : Ex) : Prop := ∀ (dd : Int) (c0 c1 c2 : Value) (w : World), Lies w w.heap.size e c0 c1 c2 → 0 ≤ dd → dd ≤ 6 →
    Calls Tryd.prog 54 #[.agg #[c0, c1, c2], .int .i64 dd] w fun e' w' => e' = .returned (.bool (shape dd.toNat e)) ∧ Below w.heap.size w w'

set_option maxHeartbeats 400000 in
theorem shape_any : ∀ (e : Ex), ShapeSaid e := by
  intro e
  induction e using Ex.ind with
  | h k v kids ih =>
    intro dd c0 c1 c2 w hL h0 h6
    obtain ⟨A, cap, b, off, C0, C1, C2, rfl, rfl, rfl, hl, hO⟩ := hL.open_
    unfold maxLen at hl
    have HIH := Lib.hid ih
    have HO := Lib.hid hO
    clear ih hL hO
    by_cases hz : dd < 1
    · have : dd = 0 := by omega
      subst this
      go_enter Tryd.func54, Tryd.ntmps54
      go_wp2_with fail
      go_quiet (fail)
      go_wp2_with fail
      go_ret
      exact ⟨rfl, ((Below.refl _ _).alloc (Nat.le_refl _) _).trans ⟨rfl, rfl, rfl, Nat.le_refl _, fun _ _ => rfl⟩⟩
    have HF := Lib.hid (shape_pred (k := k) (v := v) (kids := kids) hz)
    have hzd : decide (dd < 1) = false := by simpa using hz
    by_cases ha : (kids.length : Int) = arity k
    · have hab : ((kids.length : Int) != arity k) = false := by simpa using ha
      have hab2 : ((kids.length : Int) == arity k) = true := by simpa using ha
      have HA := Lib.hid ha
      clear ha
      have hlim : limit k = 3 ∧ k = 1 ∨ limit k = 2 ∧ k = 2 ∨ limit k = 0 ∧ (k == 1) = false ∧ (k == 2) = false := by
        unfold limit
        by_cases h1 : k = 1
        · simp [h1]
        · by_cases h2 : k = 2
          · simp [h2]
          · simp [h1, h2]
      obtain ⟨lim, hlm⟩ : ∃ lim, lim = limit k := ⟨_, rfl⟩
      rw [← hlm] at hlim
      have HLM := Lib.hid hlm
      clear hlm
      by_cases hv : v < 0 ∨ lim < v
      · have HZ : Hid (rootOk k v kids.length = false) := by
          show _ = _
          unfold rootOk
          rw [← HLM.out]
          rcases hv with h | h
          · rw [show decide (0 ≤ v) = false by simpa using h]; simp
          · rw [show decide (v ≤ lim) = false by simpa using h]; simp
        rcases hlim with ⟨rfl, rfl⟩ | ⟨rfl, rfl⟩ | ⟨rfl, hk1, hk2⟩
        all_goals
          (rcases hv with hv | hv
           all_goals
             (go_enter Tryd.func54, Tryd.ntmps54
              go_wp2_with fail
              go_quiet ((go_at_call 65; exact quiet_left (arity_any _ _)))
              go_wp2_with fail
              all_goals go_ret
              all_goals exact ⟨ret_bool (by rw [HF.out, HZ.out]; rfl), below_drewN ((Below.refl _ _).alloc (Nat.le_refl _) _) _⟩))
      · have hv0 : 0 ≤ v := by omega
        have hv1 : v ≤ lim := by omega
        have HZ : Hid (rootOk k v kids.length = true) := by
          show _ = _
          unfold rootOk
          rw [← HLM.out]
          simp [HA.out, hv0, hv1]
        clear hv
        have hv0b : decide (v < 0) = false := by simpa using hv0
        have hv1b : decide (lim < v) = false := by simpa using hv1
        rcases hlim with ⟨rfl, rfl⟩ | ⟨rfl, rfl⟩ | ⟨rfl, hk1, hk2⟩
        all_goals
          (go_enter Tryd.func54, Tryd.ntmps54
           go_wp2_with fail
           go_quiet ((go_at_call 65; exact quiet_left (arity_any _ _)))
           go_wp2_with fail
           go_loopw [6] (fun i wl => ∃ j : Nat, j ≤ kids.length ∧ i = .int .i64 j ∧ Hid ((kids.take j).all (shape (dd - 1).toNat) = true) ∧ Hid (∃ kk, Below (w.heap.size + 1) (w.alloc (.cells #[.int .i64 kk, .int .i64 v, .slice A kids.length cap] 44)) wl)) (fun i _ => kids.length - (intOf i).toNat)
           case atStart => exact ⟨0, Nat.zero_le _, rfl, rfl, _, below_drewN (Below.refl _ _) _⟩
           case round =>
             obtain ⟨j, hj, rfl, HT, HB⟩ := hrel
             obtain ⟨kk, HB⟩ := HB
             have HB := Lib.hid HB
             have hbox : wr.cell? ⟨w.heap.size, 2, none⟩ = some (.slice A kids.length cap) := by simpa using boxed_cell HB.out 2
             by_cases hlt : j < kids.length
             · obtain ⟨x, hx⟩ : ∃ x, kids[j]? = some x := ⟨_, List.getElem?_eq_getElem hlt⟩
               obtain ⟨rfl, hb, g0, g1, g2, gl⟩ := HO.out.below (boxed HB.out) j x hx
               obtain ⟨sb, hsb⟩ : ∃ sb, sb = shape (dd - 1).toNat x := ⟨_, rfl⟩
               have HSB := Lib.hid hsb
               have HG := Lib.hid gl
               have HX := Lib.hid hx
               clear gl hx hsb
               cases sb
               all_goals
                 (go_wp2_with fail
                  refine (HIH.out j x HX.out (dd - 1) _ _ _ _ (HG.out.more (boxed HB.out).size) (by omega) (by omega)).mono ?_
                  rintro e' w1 ⟨rfl, hb1⟩
                  rw [← HSB.out]
                  have HB1 := Lib.hid (HB.out.trans (hb1.mono (by have := HB.out.size; simpa using this)))
                  clear hb1 HB
                  go_wp2_with fail)
               · go_ret
                 exact ⟨ret_bool (by rw [HF.out, all_false_of HX.out HSB.out.symm]; simp), boxed HB1.out⟩
               · go_roundw
                 case rel => exact ⟨j + 1, by omega, by go_num, (by show _ = _; rw [all_take_succ HX.out, HT.out, ← HSB.out]; rfl), _, HB1.out⟩
                 case measure => simp [intOf]; omega
             · have hjj : j = kids.length := by omega
               subst hjj
               go_wp2_with fail
               go_ret
               exact ⟨ret_bool (by have := HT.out; rw [List.take_length] at this; rw [HF.out, HZ.out, this]; rfl), boxed HB.out⟩)
    · have hab : ((kids.length : Int) != arity k) = true := by rw [bne_iff_ne]; exact ha
      have hab2 : ((kids.length : Int) == arity k) = false := by rw [beq_eq_false_iff_ne]; exact ha
      have HZ : Hid (rootOk k v kids.length = false) := by show _ = _; unfold rootOk; simp [ha]
      clear ha
      go_enter Tryd.func54, Tryd.ntmps54
      go_wp2_with fail
      go_quiet ((go_at_call 65; exact quiet_left (arity_any _ _)))
      go_wp2_with fail
      go_ret
      exact ⟨ret_bool (by rw [HF.out, HZ.out]; rfl), below_drewN ((Below.refl _ _).alloc (Nat.le_refl _) _) _⟩

end Go.Proofs.YtcipnecdeipeaaaDoor

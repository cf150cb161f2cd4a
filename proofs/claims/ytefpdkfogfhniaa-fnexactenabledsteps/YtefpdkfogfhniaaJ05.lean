/- Joined texts: OpenA, OpenT, Lit, W2, W1. Nothing is assumed. -/
import Derived.Test.YtefpdkfogfhniaaOpenCQ
import Derived.Test.YtefpdkfogfhniaaStaQ
import Derived.Test.YtefpdkfogfhniaaJ04
import Derived.Test.YtefpdkfogfhniaaJ01
import Derived.Lib.Hide
import Derived.WalkKit
import Derived.WalkSpells
import Derived.Deep.QuietTactic
import Derived.BigQuiet
namespace Go.Proofs.Ytefpdkfogfhniaa
open Go.ChangeShapes Go.WideShapes Go.ChangeAt Go.RowKit Go.Deep Go.Joins

section
variable {H : Type} {enc : TypeId × Value → H} {W : World} {sp : Nat → Bool}

theorem Try.cells40 : Try.prog.cellsOf 40 = 2 := by kernel_rfl

set_option maxRecDepth 100000 in
theorem opens_sta (hsp : ∀ b, sp b = true) : Opens enc W sp Lay.sta 40 := fun n cs x h => by
  obtain ⟨xs, n, _, rfl, hl, hlen, hf⟩ := DataW.trod_struct Try.underlying40 h
  rw [Try.cells40] at hl
  match xs, hlen, cs, hl with
  | [y0, y1], _, [c0, c1], _ =>
    have u0 := hf 0 _ rfl
    have u1 := hf 1 _ rfl
    simp [Try.cells22] at u0
    simp [Try.cells22] at u1
    obtain ⟨z0, p0⟩ := opens_slice (t' := 3) hsp Try.underlying22 Try.cells3 (by decide) opens_int _ _ _ u0
    obtain ⟨z1, p1⟩ := opens_slice (t' := 3) hsp Try.underlying22 Try.cells3 (by decide) opens_int _ _ _ u1
    exact ⟨⟨z0, z1⟩, p0, p1⟩

set_option maxRecDepth 100000 in
theorem open_state {base : Nat} {v : Value} {d : DataW H} {p : List MemPlace} (hval : Value.okWide Try.prog W .any base 40 v) (h : DataW.Trod enc Try.prog W 0 (fun _ => true) true 40 v d p) :
    ∃ (s : St) (C : Nat → Value), v = .agg #[C 0, C 1] ∧ Lay.sta.lies W W.heap.size s C := by
  obtain ⟨cs, rfl, hsz⟩ := okWide_struct Try.underlying40 hval
  obtain ⟨c0, c1, rfl⟩ := array2 (hsz.trans Try.cells40)
  obtain ⟨fuel, hf⟩ := h
  obtain ⟨s, hs⟩ := opens_sta (fun _ => rfl) _ _ _ hf
  exact ⟨s, fun j => [c0, c1].getD j undef, rfl, hs⟩

end
end Go.Proofs.Ytefpdkfogfhniaa
namespace Go.Proofs.Ytefpdkfogfhniaa
open Go.ChangeShapes Go.WideShapes Go.ChangeAt Go.RowKit Go.Deep Go.Joins

section
variable {H : Type} {enc : TypeId × Value → H} {W : World} {sp : Nat → Bool}

theorem Try.cells50 : Try.prog.cellsOf 50 = 4 := by kernel_rfl

theorem array4 {cs : Array Value} (h : cs.size = 4) : ∃ c0 c1 c2 c3, cs = #[c0, c1, c2, c3] := by
  obtain ⟨l⟩ := cs
  match l, h with
  | [c0, c1, c2, c3], _ => exact ⟨c0, c1, c2, c3, rfl⟩

set_option maxRecDepth 100000 in
theorem step_cells {n : Nat} {cs : List Value} {x : DataW H × List MemPlace} (h : DataW.trod enc Try.prog W 0 sp true n 50 cs = some x) : ∃ (a b c e : Int), cs = [.int .i64 a, .int .i64 b, .int .i64 c, .int .i64 e] := by
  obtain ⟨xs, n, _, rfl, hl, hlen, hf⟩ := DataW.trod_struct Try.underlying50 h
  rw [Try.cells50] at hl
  match xs, hlen, cs, hl with
  | [y0, y1, y2, y3], _, [c0, c1, c2, c3], _ =>
    have u0 := hf 0 _ rfl
    have u1 := hf 1 _ rfl
    have u2 := hf 2 _ rfl
    have u3 := hf 3 _ rfl
    simp [Try.cells3] at u0 u1 u2 u3
    obtain ⟨k0, e0, _, _⟩ := DataW.trod_int Try.underlying3 u0
    obtain ⟨k1, e1, _, _⟩ := DataW.trod_int Try.underlying3 u1
    obtain ⟨k2, e2, _, _⟩ := DataW.trod_int Try.underlying3 u2
    obtain ⟨k3, e3, _, _⟩ := DataW.trod_int Try.underlying3 u3
    simp only [List.cons.injEq, and_true] at e0 e1 e2 e3
    exact ⟨k0, k1, k2, k3, by rw [e0, e1, e2, e3]⟩

set_option maxRecDepth 100000 in
theorem open_step {base : Nat} {v : Value} {d : DataW H} {p : List MemPlace} (hval : Value.okWide Try.prog W .any base 50 v) (h : DataW.Trod enc Try.prog W 0 (fun _ => true) true 50 v d p) :
    ∃ (a b c e : Int), v = .agg #[.int .i64 a, .int .i64 b, .int .i64 c, .int .i64 e] := by
  obtain ⟨cs, rfl, hsz⟩ := okWide_struct Try.underlying50 hval
  obtain ⟨c0, c1, c2, c3, rfl⟩ := array4 (hsz.trans Try.cells50)
  obtain ⟨fuel, hf⟩ := h
  obtain ⟨a, b, c, e, hh⟩ := step_cells hf
  have hh' : [c0, c1, c2, c3] = [.int .i64 a, .int .i64 b, .int .i64 c, .int .i64 e] := hh
  simp only [List.cons.injEq, and_true] at hh'
  obtain ⟨rfl, rfl, rfl, rfl⟩ := hh'
  exact ⟨a, b, c, e, rfl⟩

end
end Go.Proofs.Ytefpdkfogfhniaa
namespace Go.Proofs.Ytefpdkfogfhniaa
open Go.RowKit

theorem ed_lit {w : World} {B : Nat} {e : Ed} {C : Nat → Value} (h : Lay.ed.lies w B e C) : ∃ (x0 x1 : Int) (xa : Option Addr) (xl xc : Nat) (y0 y1 : Int) (ya : Option Addr) (yl yc : Nat),
    (C 0 = .int .i64 e.fr ∧ C 1 = .int .i64 e.to ∧ C 2 = .int .i64 x0 ∧ C 3 = .int .i64 x1 ∧ C 4 = .slice xa xl xc ∧ C 5 = .int .i64 e.vr ∧ C 6 = .int .i64 y0 ∧ C 7 = .int .i64 y1 ∧ C 8 = .slice ya yl yc ∧ C 9 = .int .i64 e.sy) ∧ Lay.ed.lies w B e (fun j => (#[.int .i64 e.fr, .int .i64 e.to, .int .i64 x0, .int .i64 x1, .slice xa xl xc, .int .i64 e.vr, .int .i64 y0, .int .i64 y1, .slice ya yl yc, .int .i64 e.sy] : Array Value).getD j undef) := by
  obtain ⟨fr, to, g, vr, vl, sy⟩ := e
  obtain ⟨e0, e1, hg, e5, hv, e9⟩ := ed_lies h
  obtain ⟨n0, n1, a2, l2, cp2, q2, q3, q4⟩ := hg.form
  obtain ⟨m0, m1, b2, k2, dp2, q6, q7, q8⟩ := hv.form
  rw [q2, q3, q4] at hg
  rw [q6, q7, q8] at hv
  exact ⟨n0, n1, a2, l2, cp2, m0, m1, b2, k2, dp2, ⟨e0, e1, q2, q3, q4, e5, q6, q7, q8, e9⟩, rfl, rfl, hg, rfl, hv, rfl⟩
theorem pr_lit {w : World} {B : Nat} {p : Pr} {C : Nat → Value} (h : Lay.pr.lies w B p C) : ∃ (xa : Option Addr) (xl xc : Nat), (C 0 = .int .i64 p.loc ∧ C 1 = .slice xa xl xc) ∧ Lay.pr.lies w B p (fun j => (#[.int .i64 p.loc, .slice xa xl xc] : Array Value).getD j undef) := by
  obtain ⟨loc, es⟩ := p
  obtain ⟨e0, A, cap, b, off, D, e1, hl, hO⟩ := pr_lies h
  exact ⟨A, es.length, cap, ⟨e0, e1⟩, rfl, A, cap, b, off, D, rfl, hl, hO⟩

end Go.Proofs.Ytefpdkfogfhniaa
namespace Go.Proofs.Ytefpdkfogfhniaa
open Go.RowKit

theorem cnt_pred {dd : Int} {k v : Int} {kids : List Ex} (h : 0 < dd) : cnt dd.toNat (.node k v kids) = 1 + (kids.map (cnt (dd - 1).toNat)).sum := by
  obtain ⟨n, rfl⟩ : ∃ n : Nat, dd = n + 1 := ⟨(dd - 1).toNat, by omega⟩
  rw [show ((n : Int) + 1).toNat = n + 1 by omega, show ((n : Int) + 1 - 1).toNat = n by omega]
  rfl

set_option maxHeartbeats 400000 in
theorem count_any : ∀ (e : Ex) (dd : Int) (c0 c1 c2 : Value) (w : World), Lies w w.heap.size e c0 c1 c2 → desc e ≤ 1048576 → 0 ≤ dd → dd ≤ 6 →
    Calls Try.prog 99 #[.agg #[c0, c1, c2], .int .i64 dd] w fun e' w' => e' = .returned (.int .i64 (cnt dd.toNat e : Nat)) ∧ Below w.heap.size w w' := by
  intro e
  induction e using Ex.ind with
  | h k v kids ih =>
    intro dd c0 c1 c2 w hL hd h0 h6
    obtain ⟨A, cap, b, off, C0, C1, C2, rfl, rfl, rfl, hl, hO⟩ := hL.open_
    unfold maxLen at hl
    have HIH := Lib.hid ih
    have HO := Lib.hid hO
    clear ih hL hO
    simp only [desc] at hd
    have hlen : kids.length ≤ 1048576 := by have := descL_length kids; omega
    by_cases hz : 0 < dd
    · go_enter Try.func99, Try.ntmps99
      go_wp2_with fail
      go_loopw [5, 6] (fun n i wl => ∃ j S : Nat, j ≤ kids.length ∧ i = .int .i64 j ∧ n = .int .i64 (S : Int) ∧ Hid (S = 1 + ((kids.take j).map (cnt (dd - 1).toNat)).sum) ∧ Hid (Below (w.heap.size + 1) (w.alloc (.cells #[.int .i64 k, .int .i64 v, .slice A kids.length cap] 91)) wl)) (fun _ i _ => kids.length - (intOf i).toNat)
      case atStart => exact ⟨0, 1, Nat.zero_le _, rfl, rfl, rfl, Below.refl _ _⟩
      case round =>
        obtain ⟨j, S, hj, rfl, rfl, HS, HB⟩ := hrel
        have hbox : wr.cell? ⟨w.heap.size, 2, none⟩ = some (.slice A kids.length cap) := by simpa using boxed_cell HB.out 2
        by_cases hlt : j < kids.length
        · obtain ⟨x, hx⟩ : ∃ x, kids[j]? = some x := ⟨_, List.getElem?_eq_getElem hlt⟩
          obtain ⟨rfl, hb, g0, g1, g2, gl⟩ := HO.out.below (boxed HB.out) j x hx
          have hdx : desc x ≤ 1048576 := by have := descL_mem (List.mem_of_getElem? hx); omega
          obtain ⟨c, hc⟩ : ∃ c : Nat, c = cnt (dd - 1).toNat x := ⟨_, rfl⟩
          have hcS : S ≤ 1048577 ∧ c ≤ 1048577 := by
            have h1 := sum_take_le (cnt (dd - 1).toNat) kids j
            have h2 := cnt_le dd.toNat (Ex.node k v kids)
            rw [cnt_pred hz] at h2
            simp only [desc] at h2
            have h3 := cnt_le (dd - 1).toNat x
            rw [HS.out, hc]
            omega
          have HC := Lib.hid hc
          have HT := Lib.hid (sum_take_succ (f := cnt (dd - 1).toNat) hx)
          clear hc
          have HL := Lib.hid gl
          have HX := Lib.hid hx
          clear gl hx
          go_wp2_with fail
          refine (HIH.out j x HX.out (dd - 1) _ _ _ _ (HL.out.more (boxed HB.out).size) hdx (by omega) (by omega)).mono ?_
          rintro e' w1 ⟨rfl, hb1⟩
          rw [← HC.out]
          have HB1 := Lib.hid (HB.out.trans (hb1.mono (by have := HB.out.size; simpa using this)))
          clear hb1 HB
          go_wp2_with fail
          go_roundw
          case rel => exact ⟨j + 1, S + c, by omega, by go_num, by go_num, (by show _ = _; rw [HT.out, ← HC.out, HS.out]; omega), HB1⟩
          case measure => simp [intOf]; omega
        · have : j = kids.length := by omega
          subst this
          have HF := Lib.hid (cnt_pred (k := k) (v := v) (kids := kids) hz)
          go_wp2_with fail
          go_ret
          exact ⟨ret_int (by rw [HF.out, HS.out, List.take_length]), boxed HB.out⟩
    · have : dd = 0 := by omega
      subst this
      go_enter Try.func99, Try.ntmps99
      go_wp2_with fail
      go_loop [5, 6] (fun n i => n = .int .i64 1 ∧ i = .int .i64 0) (fun _ _ => 0)
      case atStart => exact ⟨rfl, rfl⟩
      case round =>
        obtain ⟨rfl, rfl⟩ := hrel
        go_wp2_with fail
        all_goals go_ret
        all_goals exact ⟨rfl, (Below.refl _ _).alloc (Nat.le_refl _) _⟩

end Go.Proofs.Ytefpdkfogfhniaa
namespace Go.Proofs.Ytefpdkfogfhniaa
open Go.RowKit

set_option maxHeartbeats 400000 in
theorem arity_any (k : Int) (w : World) : Calls Try.prog 106 #[.int .i64 k] w fun e w' => e = .returned (.int .i64 (arity k)) ∧ w = w' := by
  by_cases h1 : k = 1
  · subst h1; go_enter Try.func106, Try.ntmps106; go_wp2; go_ret; exact ⟨rfl, rfl⟩
  by_cases h2 : k = 2
  · subst h2; go_enter Try.func106, Try.ntmps106; go_wp2; go_ret; exact ⟨rfl, rfl⟩
  by_cases h3 : k = 3
  · subst h3; go_enter Try.func106, Try.ntmps106; go_wp2; go_ret; exact ⟨rfl, rfl⟩
  by_cases h4 : 4 ≤ k
  · by_cases h5 : k ≤ 9
    · have HA : Hid (arity k = 2) := by show _ = _; unfold arity; rw [if_neg (by omega), if_neg h3, if_pos ⟨h4, h5⟩]
      go_enter Try.func106, Try.ntmps106; go_wp2; go_ret; exact ⟨by rw [HA.out]; rfl, rfl⟩
    · have HA : Hid (arity k = -1) := by show _ = _; unfold arity; rw [if_neg (by omega), if_neg h3, if_neg (by omega)]
      go_enter Try.func106, Try.ntmps106; go_wp2; go_ret; exact ⟨by rw [HA.out]; rfl, rfl⟩
  · have HA : Hid (arity k = -1) := by show _ = _; unfold arity; rw [if_neg (by omega), if_neg h3, if_neg (by omega)]
    go_enter Try.func106, Try.ntmps106; go_wp2; go_ret; exact ⟨by rw [HA.out]; rfl, rfl⟩


set_option maxHeartbeats 1000000 in
theorem root_any (k v : Int) (A : Option Addr) (n cap : Nat) (w : World) : Calls Try.prog 105 #[.agg #[.int .i64 k, .int .i64 v, .slice A n cap]] w fun e w' => e = .returned (.bool (rootOk k v n)) ∧ Below w.heap.size w w' := by
  by_cases h1 : k = 1
  · subst h1
    go_enter Try.func105, Try.ntmps105
    go_wp2
    all_goals go_ret
    all_goals (refine ⟨ret_bool ?_, (Below.refl _ _).alloc (Nat.le_refl _) _⟩)
    all_goals (rw [Bool.eq_iff_iff]; simp [rootOk, arity, limit]; try omega)
  by_cases h2 : k = 2
  · subst h2
    go_enter Try.func105, Try.ntmps105
    go_wp2
    all_goals go_ret
    all_goals (refine ⟨ret_bool ?_, (Below.refl _ _).alloc (Nat.le_refl _) _⟩)
    all_goals (rw [Bool.eq_iff_iff]; simp [rootOk, arity, limit]; try omega)
  by_cases h3 : k = 3
  · subst h3
    go_enter Try.func105, Try.ntmps105
    go_wp2
    all_goals go_ret
    all_goals (refine ⟨ret_bool ?_, (Below.refl _ _).alloc (Nat.le_refl _) _⟩)
    all_goals (rw [Bool.eq_iff_iff]; simp [rootOk, arity, limit]; try omega)
  by_cases h4 : k = 4
  · subst h4
    go_enter Try.func105, Try.ntmps105
    go_wp2
    all_goals go_ret
    all_goals (refine ⟨ret_bool ?_, (Below.refl _ _).alloc (Nat.le_refl _) _⟩)
    all_goals (rw [Bool.eq_iff_iff]; simp [rootOk, arity, limit]; try omega)
  by_cases h5 : k = 5
  · subst h5
    go_enter Try.func105, Try.ntmps105
    go_wp2
    all_goals go_ret
    all_goals (refine ⟨ret_bool ?_, (Below.refl _ _).alloc (Nat.le_refl _) _⟩)
    all_goals (rw [Bool.eq_iff_iff]; simp [rootOk, arity, limit]; try omega)
  by_cases h6 : k = 6
  · subst h6
    go_enter Try.func105, Try.ntmps105
    go_wp2
    all_goals go_ret
    all_goals (refine ⟨ret_bool ?_, (Below.refl _ _).alloc (Nat.le_refl _) _⟩)
    all_goals (rw [Bool.eq_iff_iff]; simp [rootOk, arity, limit]; try omega)
  by_cases h7 : k = 7
  · subst h7
    go_enter Try.func105, Try.ntmps105
    go_wp2
    all_goals go_ret
    all_goals (refine ⟨ret_bool ?_, (Below.refl _ _).alloc (Nat.le_refl _) _⟩)
    all_goals (rw [Bool.eq_iff_iff]; simp [rootOk, arity, limit]; try omega)
  by_cases h8 : k = 8
  · subst h8
    go_enter Try.func105, Try.ntmps105
    go_wp2
    all_goals go_ret
    all_goals (refine ⟨ret_bool ?_, (Below.refl _ _).alloc (Nat.le_refl _) _⟩)
    all_goals (rw [Bool.eq_iff_iff]; simp [rootOk, arity, limit]; try omega)
  by_cases h9 : k = 9
  · subst h9
    go_enter Try.func105, Try.ntmps105
    go_wp2
    all_goals go_ret
    all_goals (refine ⟨ret_bool ?_, (Below.refl _ _).alloc (Nat.le_refl _) _⟩)
    all_goals (rw [Bool.eq_iff_iff]; simp [rootOk, arity, limit]; try omega)
  have HR : Hid (rootOk k v n = false) := by
    show _ = _
    unfold rootOk arity
    rw [if_neg (by omega), if_neg (by omega), if_neg (by omega)]
    simp
  go_enter Try.func105, Try.ntmps105
  go_wp2
  go_ret
  exact ⟨ret_bool HR.out.symm, (Below.refl _ _).alloc (Nat.le_refl _) _⟩

end Go.Proofs.Ytefpdkfogfhniaa

/- Joined texts: TcY, TcO, W2, W1. Nothing is assumed. -/
import Derived.Test.YtldnegacgjijlaaTcXQ
import Derived.Test.YtldnegacgjijlaaJ03
import Derived.Test.YtldnegacgjijlaaJ04
import Derived.Test.YtldnegacgjijlaaBsQ
import Derived.Lib.Hide
import Derived.WalkKit
import Derived.WalkSpells
import Derived.Deep.QuietTactic
import Derived.BigQuiet
namespace Go.Proofs.Ytldnegacgjijlaa
namespace Tc
open Go.RowKit

def trc : Lay St := (Lay.ints.prod Lay.ints).map fun s => (s.locs, s.vals)
theorem trc_sta {w : World} {B : Nat} {s : St} {C : Nat → Value} (h : trc.lies w B s C) : Lay.sta.lies w B s C := ⟨h.1.1, h.2.1⟩
theorem trc_fit {w : World} {B : Nat} {s : St} {C : Nat → Value} (h : trc.lies w B s C) : Fits (C 0) ∧ Fits (C 1) := ⟨h.1.2, h.2.2⟩
theorem trc_sz (s : St) : trc.sz s = Lay.sta.sz s := rfl
theorem fits_self (A : Option Addr) (n : Nat) : Fits (.slice A n n) := fun A' l c e => by injection e with _ h1 h2; omega
theorem trc_sep {w : World} {lo hi g h : Nat} {s : St} (hs : Lay.sta.sep w lo hi s (fun j => (arr s g h).getD j undef)) : trc.sep w lo hi s (fun j => (arr s g h).getD j undef) := by
  obtain ⟨m, h1, h2, h3, h4⟩ := hs
  exact ⟨m, h1, h2, ⟨h3, fits_self _ _⟩, ⟨h4, fits_self _ _⟩⟩
theorem szTr_any (s : St) (C : Nat → Value) (left : Int) (w : World) (hL : trc.lies w w.heap.size s C) (h0 : 0 ≤ left) (h1 : left ≤ 1048576) :
    Calls Try.prog 40 #[.agg #[C 0, C 1], .int .i64 left] w fun e' w' => e' = .returned (.int .i64 (room left (trc.sz s))) ∧ Below w.heap.size w w' := szSt_any s C left w (trc_sta hL) h0 h1
theorem eqTr_any (s : St) (C D : Nat → Value) (w : World) (hL : trc.lies w w.heap.size s C) (hL' : trc.lies w w.heap.size s D) :
    Calls Try.prog 45 #[.agg #[C 0, C 1], .agg #[D 0, D 1]] w fun e' w' => e' = .returned (.bool true) ∧ Below w.heap.size w w' := eqSt_any s C D w (trc_sta hL) (trc_sta hL')
def ToTrPost (s : St) (w : World) (e' : Ending) (w' : World) : Prop :=
  ∃ (xa : Option Addr) (xl xc : Nat) (ya : Option Addr) (yl yc : Nat), e' = .returned (.agg #[.slice xa xl xc, .slice ya yl yc]) ∧ trc.sep w' w.heap.size w'.heap.size s (fun j => (#[.slice xa xl xc, .slice ya yl yc] : Array Value).getD j undef) ∧ Below w.heap.size w w'
theorem toTr_any (s : St) (C : Nat → Value) (w : World) (hL : trc.lies w w.heap.size s C) (hd : trc.sz s ≤ 1048576) :
    Calls Try.prog 42 #[.agg #[C 0, C 1]] w (ToTrPost s w) := by
  refine (toLx_any s C w (trc_sta hL) hd).mono ?_
  rintro e' w1 ⟨g, h, rfl, hs, hb⟩
  exact ⟨_, _, _, _, _, _, rfl, trc_sep hs, hb⟩

end Tc
end Go.Proofs.Ytldnegacgjijlaa
namespace Go.Proofs.Ytldnegacgjijlaa
namespace Tc
open Go.ChangeShapes Go.WideShapes Go.ChangeAt Go.RowKit Go.Deep Go.Joins

section
variable {H : Type} {enc : TypeId × Value → H} {W : World} {sp : Nat → Bool}

theorem Try.cells81 : Try.prog.cellsOf 81 = 2 := by kernel_rfl

set_option maxRecDepth 100000 in
theorem opens_trace (hsp : ∀ b, sp b = true) : Opens enc W sp trc 81 := fun n cs x h => by
  obtain ⟨xs, n, _, rfl, hl, hlen, hf⟩ := DataW.trod_struct Try.underlying81 h
  rw [Try.cells81] at hl
  match xs, hlen, cs, hl with
  | [y0, y1], _, [c0, c1], _ =>
    have u0 := hf 0 _ rfl
    have u1 := hf 1 _ rfl
    simp [Try.cells22] at u0
    simp [Try.cells22] at u1
    obtain ⟨z0, p0⟩ := opens_ints hsp _ _ _ u0
    obtain ⟨z1, p1⟩ := opens_ints hsp _ _ _ u1
    exact ⟨⟨z0, z1⟩, p0, p1⟩

set_option maxRecDepth 100000 in
theorem open_trace {base : Nat} {v : Value} {d : DataW H} {p : List MemPlace} (hval : Value.okWide Try.prog W .any base 81 v) (h : DataW.Trod enc Try.prog W 0 (fun _ => true) true 81 v d p) :
    ∃ (s : St) (C : Nat → Value), v = .agg #[C 0, C 1] ∧ trc.lies W W.heap.size s C := by
  obtain ⟨cs, rfl, hsz⟩ := okWide_struct Try.underlying81 hval
  obtain ⟨c0, c1, rfl⟩ := array2 (hsz.trans Try.cells81)
  obtain ⟨fuel, hf⟩ := h
  obtain ⟨s, hs⟩ := opens_trace (fun _ => rfl) _ _ _ hf
  exact ⟨s, fun j => [c0, c1].getD j undef, rfl, hs⟩

end
end Tc
end Go.Proofs.Ytldnegacgjijlaa
namespace Go.Proofs.Ytldnegacgjijlaa
open Go.RowKit

theorem cnt_pred {dd : Int} {k v : Int} {kids : List Ex} (h : 0 < dd) : cnt dd.toNat (.node k v kids) = 1 + (kids.map (cnt (dd - 1).toNat)).sum := by
  obtain ⟨n, rfl⟩ : ∃ n : Nat, dd = n + 1 := ⟨(dd - 1).toNat, by omega⟩
  rw [show ((n : Int) + 1).toNat = n + 1 by omega, show ((n : Int) + 1 - 1).toNat = n by omega]
  rfl

set_option maxHeartbeats 400000 in
theorem count_any : ∀ (e : Ex) (dd : Int) (c0 c1 c2 : Value) (w : World), Lies w w.heap.size e c0 c1 c2 → desc e ≤ 1048576 → 0 ≤ dd → dd ≤ 6 →
    Calls Try.prog 139 #[.agg #[c0, c1, c2], .int .i64 dd] w fun e' w' => e' = .returned (.int .i64 (cnt dd.toNat e : Nat)) ∧ Below w.heap.size w w' := by
  intro e
  induction e using Ex.ind with
  | h k v kids ih =>
    intro dd c0 c1 c2 w hL hd h0 h6
    obtain ⟨A, cap, b, off, C0, C1, C2, rfl, rfl, rfl, hl, hO⟩ := hL.open_
    unfold maxLen at hl
    have HIH := Lib.hid ih
    have HO := Lib.hid hO
    clear ih hL hO
    simp only [desc] at hd
    have hlen : kids.length ≤ 1048576 := by have := descL_length kids; omega
    by_cases hz : 0 < dd
    · go_enter Try.func139, Try.ntmps139
      go_wp2_with fail
      go_loopw [5, 6] (fun n i wl => ∃ j S : Nat, j ≤ kids.length ∧ i = .int .i64 j ∧ n = .int .i64 (S : Int) ∧ Hid (S = 1 + ((kids.take j).map (cnt (dd - 1).toNat)).sum) ∧ Hid (Below (w.heap.size + 1) (w.alloc (.cells #[.int .i64 k, .int .i64 v, .slice A kids.length cap] 99)) wl)) (fun _ i _ => kids.length - (intOf i).toNat)
      case atStart => exact ⟨0, 1, Nat.zero_le _, rfl, rfl, rfl, Below.refl _ _⟩
      case round =>
        obtain ⟨j, S, hj, rfl, rfl, HS, HB⟩ := hrel
        have hbox : wr.cell? ⟨w.heap.size, 2, none⟩ = some (.slice A kids.length cap) := by simpa using boxed_cell HB.out 2
        by_cases hlt : j < kids.length
        · obtain ⟨x, hx⟩ : ∃ x, kids[j]? = some x := ⟨_, List.getElem?_eq_getElem hlt⟩
          obtain ⟨rfl, hb, g0, g1, g2, gl⟩ := HO.out.below (boxed HB.out) j x hx
          have hdx : desc x ≤ 1048576 := by have := descL_mem (List.mem_of_getElem? hx); omega
          obtain ⟨c, hc⟩ : ∃ c : Nat, c = cnt (dd - 1).toNat x := ⟨_, rfl⟩
          have hcS : S ≤ 1048577 ∧ c ≤ 1048577 := by
            have h1 := sum_take_le (cnt (dd - 1).toNat) kids j
            have h2 := cnt_le dd.toNat (Ex.node k v kids)
            rw [cnt_pred hz] at h2
            simp only [desc] at h2
            have h3 := cnt_le (dd - 1).toNat x
            rw [HS.out, hc]
            omega
          have HC := Lib.hid hc
          have HT := Lib.hid (sum_take_succ (f := cnt (dd - 1).toNat) hx)
          clear hc
          have HL := Lib.hid gl
          have HX := Lib.hid hx
          clear gl hx
          go_wp2_with fail
          refine (HIH.out j x HX.out (dd - 1) _ _ _ _ (HL.out.more (boxed HB.out).size) hdx (by omega) (by omega)).mono ?_
          rintro e' w1 ⟨rfl, hb1⟩
          rw [← HC.out]
          have HB1 := Lib.hid (HB.out.trans (hb1.mono (by have := HB.out.size; simpa using this)))
          clear hb1 HB
          go_wp2_with fail
          go_roundw
          case rel => exact ⟨j + 1, S + c, by omega, by go_num, by go_num, (by show _ = _; rw [HT.out, ← HC.out, HS.out]; omega), HB1⟩
          case measure => simp [intOf]; omega
        · have : j = kids.length := by omega
          subst this
          have HF := Lib.hid (cnt_pred (k := k) (v := v) (kids := kids) hz)
          go_wp2_with fail
          go_ret
          exact ⟨ret_int (by rw [HF.out, HS.out, List.take_length]), boxed HB.out⟩
    · have : dd = 0 := by omega
      subst this
      go_enter Try.func139, Try.ntmps139
      go_wp2_with fail
      go_loop [5, 6] (fun n i => n = .int .i64 1 ∧ i = .int .i64 0) (fun _ _ => 0)
      case atStart => exact ⟨rfl, rfl⟩
      case round =>
        obtain ⟨rfl, rfl⟩ := hrel
        go_wp2_with fail
        all_goals go_ret
        all_goals exact ⟨rfl, (Below.refl _ _).alloc (Nat.le_refl _) _⟩

end Go.Proofs.Ytldnegacgjijlaa
namespace Go.Proofs.Ytldnegacgjijlaa
open Go.RowKit

set_option maxHeartbeats 400000 in
theorem arity_any (k : Int) (w : World) : Calls Try.prog 157 #[.int .i64 k] w fun e w' => e = .returned (.int .i64 (arity k)) ∧ w = w' := by
  by_cases h1 : k = 1
  · subst h1; go_enter Try.func157, Try.ntmps157; go_wp2; go_ret; exact ⟨rfl, rfl⟩
  by_cases h2 : k = 2
  · subst h2; go_enter Try.func157, Try.ntmps157; go_wp2; go_ret; exact ⟨rfl, rfl⟩
  by_cases h3 : k = 3
  · subst h3; go_enter Try.func157, Try.ntmps157; go_wp2; go_ret; exact ⟨rfl, rfl⟩
  by_cases h4 : 4 ≤ k
  · by_cases h5 : k ≤ 9
    · have HA : Hid (arity k = 2) := by show _ = _; unfold arity; rw [if_neg (by omega), if_neg h3, if_pos ⟨h4, h5⟩]
      go_enter Try.func157, Try.ntmps157; go_wp2; go_ret; exact ⟨by rw [HA.out]; rfl, rfl⟩
    · have HA : Hid (arity k = -1) := by show _ = _; unfold arity; rw [if_neg (by omega), if_neg h3, if_neg (by omega)]
      go_enter Try.func157, Try.ntmps157; go_wp2; go_ret; exact ⟨by rw [HA.out]; rfl, rfl⟩
  · have HA : Hid (arity k = -1) := by show _ = _; unfold arity; rw [if_neg (by omega), if_neg h3, if_neg (by omega)]
    go_enter Try.func157, Try.ntmps157; go_wp2; go_ret; exact ⟨by rw [HA.out]; rfl, rfl⟩


set_option maxHeartbeats 1000000 in
theorem root_any (k v : Int) (A : Option Addr) (n cap : Nat) (w : World) : Calls Try.prog 160 #[.agg #[.int .i64 k, .int .i64 v, .slice A n cap]] w fun e w' => e = .returned (.bool (rootOk k v n)) ∧ Below w.heap.size w w' := by
  by_cases h1 : k = 1
  · subst h1
    go_enter Try.func160, Try.ntmps160
    go_wp2
    all_goals go_ret
    all_goals (refine ⟨ret_bool ?_, (Below.refl _ _).alloc (Nat.le_refl _) _⟩)
    all_goals (rw [Bool.eq_iff_iff]; simp [rootOk, arity, limit]; try omega)
  by_cases h2 : k = 2
  · subst h2
    go_enter Try.func160, Try.ntmps160
    go_wp2
    all_goals go_ret
    all_goals (refine ⟨ret_bool ?_, (Below.refl _ _).alloc (Nat.le_refl _) _⟩)
    all_goals (rw [Bool.eq_iff_iff]; simp [rootOk, arity, limit]; try omega)
  by_cases h3 : k = 3
  · subst h3
    go_enter Try.func160, Try.ntmps160
    go_wp2
    all_goals go_ret
    all_goals (refine ⟨ret_bool ?_, (Below.refl _ _).alloc (Nat.le_refl _) _⟩)
    all_goals (rw [Bool.eq_iff_iff]; simp [rootOk, arity, limit]; try omega)
  by_cases h4 : k = 4
  · subst h4
    go_enter Try.func160, Try.ntmps160
    go_wp2
    all_goals go_ret
    all_goals (refine ⟨ret_bool ?_, (Below.refl _ _).alloc (Nat.le_refl _) _⟩)
    all_goals (rw [Bool.eq_iff_iff]; simp [rootOk, arity, limit]; try omega)
  by_cases h5 : k = 5
  · subst h5
    go_enter Try.func160, Try.ntmps160
    go_wp2
    all_goals go_ret
    all_goals (refine ⟨ret_bool ?_, (Below.refl _ _).alloc (Nat.le_refl _) _⟩)
    all_goals (rw [Bool.eq_iff_iff]; simp [rootOk, arity, limit]; try omega)
  by_cases h6 : k = 6
  · subst h6
    go_enter Try.func160, Try.ntmps160
    go_wp2
    all_goals go_ret
    all_goals (refine ⟨ret_bool ?_, (Below.refl _ _).alloc (Nat.le_refl _) _⟩)
    all_goals (rw [Bool.eq_iff_iff]; simp [rootOk, arity, limit]; try omega)
  by_cases h7 : k = 7
  · subst h7
    go_enter Try.func160, Try.ntmps160
    go_wp2
    all_goals go_ret
    all_goals (refine ⟨ret_bool ?_, (Below.refl _ _).alloc (Nat.le_refl _) _⟩)
    all_goals (rw [Bool.eq_iff_iff]; simp [rootOk, arity, limit]; try omega)
  by_cases h8 : k = 8
  · subst h8
    go_enter Try.func160, Try.ntmps160
    go_wp2
    all_goals go_ret
    all_goals (refine ⟨ret_bool ?_, (Below.refl _ _).alloc (Nat.le_refl _) _⟩)
    all_goals (rw [Bool.eq_iff_iff]; simp [rootOk, arity, limit]; try omega)
  by_cases h9 : k = 9
  · subst h9
    go_enter Try.func160, Try.ntmps160
    go_wp2
    all_goals go_ret
    all_goals (refine ⟨ret_bool ?_, (Below.refl _ _).alloc (Nat.le_refl _) _⟩)
    all_goals (rw [Bool.eq_iff_iff]; simp [rootOk, arity, limit]; try omega)
  have HR : Hid (rootOk k v n = false) := by
    show _ = _
    unfold rootOk arity
    rw [if_neg (by omega), if_neg (by omega), if_neg (by omega)]
    simp
  go_enter Try.func160, Try.ntmps160
  go_wp2
  go_ret
  exact ⟨ret_bool HR.out.symm, (Below.refl _ _).alloc (Nat.le_refl _) _⟩

end Go.Proofs.Ytldnegacgjijlaa

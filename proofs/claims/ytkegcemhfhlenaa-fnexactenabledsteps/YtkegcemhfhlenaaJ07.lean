/- Joined texts: OpenA, OpenT, W2. Nothing is assumed. -/
import Derived.Test.YtkegcemhfhlenaaOpenCQ
import Derived.Test.YtkegcemhfhlenaaStaQ
import Derived.Test.YtkegcemhfhlenaaJ06
import Derived.Test.YtkegcemhfhlenaaJ03
import Derived.Lib.Hide
namespace Go.Proofs.Ytkegcemhfhlenaa
open Go.ChangeShapes Go.WideShapes Go.ChangeAt Go.RowKit Go.Deep Go.Joins

section
variable {H : Type} {enc : TypeId × Value → H} {W : World} {sp : Nat → Bool}

theorem Try.cells27 : Try.prog.cellsOf 27 = 2 := by kernel_rfl

set_option maxRecDepth 100000 in
theorem opens_sta (hsp : ∀ b, sp b = true) : Opens enc W sp Lay.sta 27 := fun n cs x h => by
  obtain ⟨xs, n, _, rfl, hl, hlen, hf⟩ := DataW.trod_struct Try.underlying27 h
  rw [Try.cells27] at hl
  match xs, hlen, cs, hl with
  | [y0, y1], _, [c0, c1], _ =>
    have u0 := hf 0 _ rfl
    have u1 := hf 1 _ rfl
    simp [Try.cells22] at u0
    simp [Try.cells22] at u1
    obtain ⟨z0, p0⟩ := opens_slice (t' := 3) hsp Try.underlying22 Try.cells3 (by decide) opens_int _ _ _ u0
    obtain ⟨z1, p1⟩ := opens_slice (t' := 3) hsp Try.underlying22 Try.cells3 (by decide) opens_int _ _ _ u1
    exact ⟨⟨z0, z1⟩, p0, p1⟩

set_option maxRecDepth 100000 in
theorem open_state {base : Nat} {v : Value} {d : DataW H} {p : List MemPlace} (hval : Value.okWide Try.prog W .any base 27 v) (h : DataW.Trod enc Try.prog W 0 (fun _ => true) true 27 v d p) :
    ∃ (s : St) (C : Nat → Value), v = .agg #[C 0, C 1] ∧ Lay.sta.lies W W.heap.size s C := by
  obtain ⟨cs, rfl, hsz⟩ := okWide_struct Try.underlying27 hval
  obtain ⟨c0, c1, rfl⟩ := array2 (hsz.trans Try.cells27)
  obtain ⟨fuel, hf⟩ := h
  obtain ⟨s, hs⟩ := opens_sta (fun _ => rfl) _ _ _ hf
  exact ⟨s, fun j => [c0, c1].getD j undef, rfl, hs⟩

end
end Go.Proofs.Ytkegcemhfhlenaa
namespace Go.Proofs.Ytkegcemhfhlenaa
open Go.ChangeShapes Go.WideShapes Go.ChangeAt Go.RowKit Go.Deep Go.Joins

section
variable {H : Type} {enc : TypeId × Value → H} {W : World} {sp : Nat → Bool}

theorem Try.cells46 : Try.prog.cellsOf 46 = 4 := by kernel_rfl

theorem array4 {cs : Array Value} (h : cs.size = 4) : ∃ c0 c1 c2 c3, cs = #[c0, c1, c2, c3] := by
  obtain ⟨l⟩ := cs
  match l, h with
  | [c0, c1, c2, c3], _ => exact ⟨c0, c1, c2, c3, rfl⟩

set_option maxRecDepth 100000 in
theorem step_cells {n : Nat} {cs : List Value} {x : DataW H × List MemPlace} (h : DataW.trod enc Try.prog W 0 sp true n 46 cs = some x) : ∃ (a b c e : Int), cs = [.int .i64 a, .int .i64 b, .int .i64 c, .int .i64 e] := by
  obtain ⟨xs, n, _, rfl, hl, hlen, hf⟩ := DataW.trod_struct Try.underlying46 h
  rw [Try.cells46] at hl
  match xs, hlen, cs, hl with
  | [y0, y1, y2, y3], _, [c0, c1, c2, c3], _ =>
    have u0 := hf 0 _ rfl
    have u1 := hf 1 _ rfl
    have u2 := hf 2 _ rfl
    have u3 := hf 3 _ rfl
    simp [Try.cells3] at u0 u1 u2 u3
    obtain ⟨k0, e0, _, _⟩ := DataW.trod_int Try.underlying3 u0
    obtain ⟨k1, e1, _, _⟩ := DataW.trod_int Try.underlying3 u1
    obtain ⟨k2, e2, _, _⟩ := DataW.trod_int Try.underlying3 u2
    obtain ⟨k3, e3, _, _⟩ := DataW.trod_int Try.underlying3 u3
    simp only [List.cons.injEq, and_true] at e0 e1 e2 e3
    exact ⟨k0, k1, k2, k3, by rw [e0, e1, e2, e3]⟩

set_option maxRecDepth 100000 in
theorem open_step {base : Nat} {v : Value} {d : DataW H} {p : List MemPlace} (hval : Value.okWide Try.prog W .any base 46 v) (h : DataW.Trod enc Try.prog W 0 (fun _ => true) true 46 v d p) :
    ∃ (a b c e : Int), v = .agg #[.int .i64 a, .int .i64 b, .int .i64 c, .int .i64 e] := by
  obtain ⟨cs, rfl, hsz⟩ := okWide_struct Try.underlying46 hval
  obtain ⟨c0, c1, c2, c3, rfl⟩ := array4 (hsz.trans Try.cells46)
  obtain ⟨fuel, hf⟩ := h
  obtain ⟨a, b, c, e, hh⟩ := step_cells hf
  have hh' : [c0, c1, c2, c3] = [.int .i64 a, .int .i64 b, .int .i64 c, .int .i64 e] := hh
  simp only [List.cons.injEq, and_true] at hh'
  obtain ⟨rfl, rfl, rfl, rfl⟩ := hh'
  exact ⟨a, b, c, e, rfl⟩

end
end Go.Proofs.Ytkegcemhfhlenaa
namespace Go.Proofs.Ytkegcemhfhlenaa
open Go.RowKit

theorem cnt_pred {dd : Int} {k v : Int} {kids : List Ex} (h : 0 < dd) : cnt dd.toNat (.node k v kids) = 1 + (kids.map (cnt (dd - 1).toNat)).sum := by
  obtain ⟨n, rfl⟩ : ∃ n : Nat, dd = n + 1 := ⟨(dd - 1).toNat, by omega⟩
  rw [show ((n : Int) + 1).toNat = n + 1 by omega, show ((n : Int) + 1 - 1).toNat = n by omega]
  rfl

set_option maxHeartbeats 400000 in
theorem count_any : ∀ (e : Ex) (dd : Int) (c0 c1 c2 : Value) (w : World), Lies w w.heap.size e c0 c1 c2 → desc e ≤ 1048576 → 0 ≤ dd → dd ≤ 6 →
    Calls Try.prog 87 #[.agg #[c0, c1, c2], .int .i64 dd] w fun e' w' => e' = .returned (.int .i64 (cnt dd.toNat e : Nat)) ∧ Below w.heap.size w w' := by
  intro e
  induction e using Ex.ind with
  | h k v kids ih =>
    intro dd c0 c1 c2 w hL hd h0 h6
    obtain ⟨A, cap, b, off, C0, C1, C2, rfl, rfl, rfl, hl, hO⟩ := hL.open_
    unfold maxLen at hl
    have HIH := Lib.hid ih
    have HO := Lib.hid hO
    clear ih hL hO
    simp only [desc] at hd
    have hlen : kids.length ≤ 1048576 := by have := descL_length kids; omega
    by_cases hz : 0 < dd
    · go_enter Try.func87, Try.ntmps87
      go_wp2_with fail
      go_loopw [5, 6] (fun n i wl => ∃ j S : Nat, j ≤ kids.length ∧ i = .int .i64 j ∧ n = .int .i64 (S : Int) ∧ Hid (S = 1 + ((kids.take j).map (cnt (dd - 1).toNat)).sum) ∧ Hid (Below (w.heap.size + 1) (w.alloc (.cells #[.int .i64 k, .int .i64 v, .slice A kids.length cap] 81)) wl)) (fun _ i _ => kids.length - (intOf i).toNat)
      case atStart => exact ⟨0, 1, Nat.zero_le _, rfl, rfl, rfl, Below.refl _ _⟩
      case round =>
        obtain ⟨j, S, hj, rfl, rfl, HS, HB⟩ := hrel
        have hbox : wr.cell? ⟨w.heap.size, 2, none⟩ = some (.slice A kids.length cap) := by simpa using boxed_cell HB.out 2
        by_cases hlt : j < kids.length
        · obtain ⟨x, hx⟩ : ∃ x, kids[j]? = some x := ⟨_, List.getElem?_eq_getElem hlt⟩
          obtain ⟨rfl, hb, g0, g1, g2, gl⟩ := HO.out.below (boxed HB.out) j x hx
          have hdx : desc x ≤ 1048576 := by have := descL_mem (List.mem_of_getElem? hx); omega
          obtain ⟨c, hc⟩ : ∃ c : Nat, c = cnt (dd - 1).toNat x := ⟨_, rfl⟩
          have hcS : S ≤ 1048577 ∧ c ≤ 1048577 := by
            have h1 := sum_take_le (cnt (dd - 1).toNat) kids j
            have h2 := cnt_le dd.toNat (Ex.node k v kids)
            rw [cnt_pred hz] at h2
            simp only [desc] at h2
            have h3 := cnt_le (dd - 1).toNat x
            rw [HS.out, hc]
            omega
          have HC := Lib.hid hc
          have HT := Lib.hid (sum_take_succ (f := cnt (dd - 1).toNat) hx)
          clear hc
          have HL := Lib.hid gl
          have HX := Lib.hid hx
          clear gl hx
          go_wp2_with fail
          refine (HIH.out j x HX.out (dd - 1) _ _ _ _ (HL.out.more (boxed HB.out).size) hdx (by omega) (by omega)).mono ?_
          rintro e' w1 ⟨rfl, hb1⟩
          rw [← HC.out]
          have HB1 := Lib.hid (HB.out.trans (hb1.mono (by have := HB.out.size; simpa using this)))
          clear hb1 HB
          go_wp2_with fail
          go_roundw
          case rel => exact ⟨j + 1, S + c, by omega, by go_num, by go_num, (by show _ = _; rw [HT.out, ← HC.out, HS.out]; omega), HB1⟩
          case measure => simp [intOf]; omega
        · have : j = kids.length := by omega
          subst this
          have HF := Lib.hid (cnt_pred (k := k) (v := v) (kids := kids) hz)
          go_wp2_with fail
          go_ret
          exact ⟨ret_int (by rw [HF.out, HS.out, List.take_length]), boxed HB.out⟩
    · have : dd = 0 := by omega
      subst this
      go_enter Try.func87, Try.ntmps87
      go_wp2_with fail
      go_loop [5, 6] (fun n i => n = .int .i64 1 ∧ i = .int .i64 0) (fun _ _ => 0)
      case atStart => exact ⟨rfl, rfl⟩
      case round =>
        obtain ⟨rfl, rfl⟩ := hrel
        go_wp2_with fail
        all_goals go_ret
        all_goals exact ⟨rfl, (Below.refl _ _).alloc (Nat.le_refl _) _⟩

end Go.Proofs.Ytkegcemhfhlenaa

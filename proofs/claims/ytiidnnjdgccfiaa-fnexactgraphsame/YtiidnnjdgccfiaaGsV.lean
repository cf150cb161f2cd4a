/- slices.EqualFunc over states and over lists of numbers. -/
import Derived.Test.YtiidnnjdgccfiaaGra
import Derived.Test.YtiidnnjdgccfiaaSaV
import Derived.BigQuiet
namespace Go.Proofs.Ytiidnnjdgccfiaa
open Go.RowKit

def stsSame (a b : List St) : Bool := (a.zip b).all fun q => stSame q.1 q.2
def nxtSame (a b : List (List Int)) : Bool := (a.zip b).all fun q => intsSame q.1 q.2
/-- The graphs are equal. -/
def grSame (e f : Gp) : Bool := decide (e.sts.length = f.sts.length) && (decide (e.nxt.length = f.nxt.length) && (stsSame e.sts f.sts && nxtSame e.nxt f.nxt))

theorem zip_len {X Y : Type} {xs : List X} {ys : List Y} (h : xs.length = ys.length) : xs.length = (xs.zip ys).length := by rw [List.length_zip, h, Nat.min_self]

theorem specIsS_any (x y : List Int) (C D : Nat → Value) (w : World) (hL : Lay.ints.lies w w.heap.size x C) (hM : Lay.ints.lies w w.heap.size y D) :
    Calls Try.prog 37 #[C 0, D 0] w fun e' w' => e' = .returned (.bool (intsSame x y)) ∧ Below w.heap.size w w' := by
  obtain ⟨A, cap, b, off, e0, hl, hO⟩ := ints_lies hL
  obtain ⟨A', cap', b', off', d0, hl', hO'⟩ := ints_lies hM
  rw [e0, d0]
  exact l2Ints_any x y A A' cap b off cap' b' off' w hl hl' hO hO'
theorem implIsS_any (x y : List Int) (C D : Nat → Value) (w : World) (hL : Lay.ints.lies w w.heap.size x C) (hM : Lay.ints.lies w w.heap.size y D) :
    Calls Try.prog 41 #[C 0, D 0] w fun e' w' => e' = .returned (.bool (intsSame x y)) ∧ Below w.heap.size w w' := by
  obtain ⟨A, cap, b, off, e0, hl, hO⟩ := ints_lies hL
  obtain ⟨A', cap', b', off', d0, hl', hO'⟩ := ints_lies hM
  rw [e0, d0]
  exact equalInts_any x y A A' cap b off cap' b' off' w hl hl' hO hO'

theorem sta_forms {w : World} {B : Nat} {s : St} {C : Nat → Value} (h : Lay.sta.lies w B s C) : ∃ (xa : Option Addr) (xl xc : Nat) (ya : Option Addr) (yl yc : Nat), C 0 = .slice xa xl xc ∧ C 1 = .slice ya yl yc := by
  obtain ⟨locs, vals⟩ := s
  obtain ⟨⟨A, cap, _, _, _, e0, _, _⟩, A', cap', _, _, _, e1, _, _⟩ := sta_lies h
  exact ⟨_, _, _, _, _, _, e0, e1⟩

set_option maxHeartbeats 1000000 in
set_option maxRecDepth 100000 in
theorem eqfSt_any (xs ys : List St) (A : Option Addr) (cap b off : Nat) (C : Nat → Nat → Value) (A' : Option Addr) (cap' b' off' : Nat) (D : Nat → Nat → Value) (w : World) (hl : xs.length ≤ maxLen) (_ : ys.length ≤ maxLen)
    (hO : Lay.sta.Opn w w.heap.size xs A b off C) (hO' : Lay.sta.Opn w w.heap.size ys A' b' off' D) (hsz : ∀ x, x ∈ xs → Lay.sta.sz x ≤ 1048576) (hsz2 : ∀ x, x ∈ ys → Lay.sta.sz x ≤ 1048576) :
    Calls Try.prog 38 #[.slice A xs.length cap, .slice A' ys.length cap', .func (.func 39) #[] #[]] w fun e' w' => e' = .returned (.bool (decide (xs.length = ys.length) && stsSame xs ys)) ∧ Below w.heap.size w w' := by
  unfold maxLen at hl
  have HO := Lib.hid hO
  have HO' := Lib.hid hO'
  clear hO hO'
  by_cases hlen : xs.length = ys.length
  case neg =>
    have hlenI : ¬ ((xs.length : Int) = (ys.length : Int)) := by omega
    go_enter Try.func38, Try.ntmps38
    go_wp2_with fail
    go_ret
    exact ⟨ret_bool (by rw [decide_eq_false hlen]; rfl), Below.refl _ _⟩
  have hlenI : (xs.length : Int) = (ys.length : Int) := by omega
  rw [decide_eq_true hlen, Bool.true_and]
  have HLn := Lib.hid hlen
  have HSa := Lib.hid hsz
  have HSb := Lib.hid hsz2
  clear hsz hsz2
  clear hlen
  go_enter Try.func38, Try.ntmps38
  go_wp2_with fail
  go_loopw [17] (fun i wl => ∃ j : Nat, j ≤ xs.length ∧ i = .int .i64 j ∧ Hid (((xs.zip ys).take j).all (fun q => stSame q.1 q.2) = true) ∧ Hid (Below w.heap.size w wl)) (fun i _ => xs.length - (intOf i).toNat)
  case atStart => exact ⟨0, Nat.zero_le _, rfl, rfl, Below.refl _ _⟩
  case round =>
    obtain ⟨j, hj, rfl, HT, HB⟩ := hrel
    by_cases hlt : j < xs.length
    · obtain ⟨x, hx⟩ : ∃ x, xs[j]? = some x := ⟨_, List.getElem?_eq_getElem hlt⟩
      have hlp : j < ys.length := by have := HLn.out; omega
      obtain ⟨y, hy⟩ : ∃ y, ys[j]? = some y := ⟨_, List.getElem?_eq_getElem hlp⟩
      obtain ⟨rfl, hb, gc, gl⟩ := HO.out.below HB.out j x hx
      obtain ⟨rfl, hb', fc, fl⟩ := HO'.out.below HB.out j y hy
      have c0 : wr.cell? ⟨b, off + j * 2, none⟩ = some (C j 0) := gc 0 (by decide)
      have c1 : wr.cell? ⟨b, off + j * 2 + 1, none⟩ = some (C j 1) := gc 1 (by decide)
      have d0 : wr.cell? ⟨b', off' + j * 2, none⟩ = some (D j 0) := fc 0 (by decide)
      have d1 : wr.cell? ⟨b', off' + j * 2 + 1, none⟩ = some (D j 1) := fc 1 (by decide)
      obtain ⟨W2, hW2⟩ : ∃ W2, W2 = (wr.alloc (.cells #[C j 0, C j 1] 49)).alloc (.cells #[D j 0, D j 1] 49) := ⟨_, rfl⟩
      obtain ⟨_, _, hb2⟩ := two_boxes wr 49 #[C j 0, C j 1] #[D j 0, D j 1]
      rw [← hW2] at hb2
      have HW2 := Lib.hid hW2
      have HBW : Hid (Below w.heap.size w W2) := HB.out.trans (hb2.mono HB.out.size)
      have HG := Lib.hid (Lay.sta.later (Lay.sta.more gl HB.out.size) hb2 hb2.size)
      have HG' := Lib.hid (Lay.sta.later (Lay.sta.more fl HB.out.size) hb2 hb2.size)
      obtain ⟨xa, xl, xc, ya, yl, yc, k0, k1⟩ := sta_forms gl
      obtain ⟨xa', xl', xc', ya', yl', yc', k0', k1'⟩ := sta_forms fl
      rw [k0, k1] at hW2
      rw [k0', k1'] at hW2
      rw [k0] at c0
      rw [k1] at c1
      rw [k0'] at d0
      rw [k1'] at d1
      have HK : Hid (((C j 0 = .slice xa xl xc) ∧ (C j 1 = .slice ya yl yc)) ∧ (D j 0 = .slice xa' xl' xc') ∧ (D j 1 = .slice ya' yl' yc')) := ⟨⟨k0, k1⟩, k0', k1'⟩
      rw [HK.out.1.1, HK.out.1.2, HK.out.2.1, HK.out.2.2] at HW2
      clear hW2 hb2 k0 k1 k0' k1'
      have HZ := Lib.hid (zip_get hx hy)
      have hsx := HSa.out x (List.mem_of_getElem? hx)
      have hsy := HSb.out y (List.mem_of_getElem? hy)
      have hbs : b < wr.heap.size := Nat.lt_of_lt_of_le hb HB.out.size
      have hbs' : b' < wr.heap.size := Nat.lt_of_lt_of_le hb' HB.out.size
      obtain ⟨v, hv⟩ : ∃ v, v = stSame x y := ⟨_, rfl⟩
      have HV := Lib.hid hv
      have HTs := Lib.hid (alls_take_succ (f := fun q : St × St => stSame q.1 q.2) HZ.out)
      clear gl fl gc fc hx hy hv
      go_wp2_with fail
      rw [← HW2.out]
      have key := (implStS_any x (C j) y (D j) W2 HG.out HG'.out (by omega) (by omega))
      rw [HK.out.1.1, HK.out.1.2, HK.out.2.1, HK.out.2.2] at key
      refine key.mono ?_
      rintro e' w1 ⟨rfl, hb1⟩
      rw [← HV.out]
      have HB1 : Hid (Below w.heap.size w w1) := HBW.out.trans (hb1.mono HBW.out.size)
      clear hb1 key
      cases v
      · go_wp2_with fail
        go_ret
        exact ⟨ret_bool (alls_false (f := fun q : St × St => stSame q.1 q.2) HZ.out HV.out.symm).symm, HB1.out⟩
      · have HT2 : Hid (((xs.zip ys).take (j + 1)).all (fun q => stSame q.1 q.2) = true) := by show _ = _; rw [HTs.out, HT.out]; exact HV.out.symm
        go_wp2_with fail
        go_roundw
        case rel => exact ⟨j + 1, by omega, by go_num, HT2, HB1⟩
        case measure => simp [intOf]; omega
    · have hjj : j = xs.length := by omega
      subst hjj
      have HFt : Hid (stsSame xs ys = true) := by
        have := HT.out
        rw [zip_len HLn.out, List.take_length] at this
        exact this
      go_wp2_with fail
      go_ret
      exact ⟨ret_bool HFt.out.symm, HB.out⟩

set_option maxHeartbeats 1000000 in
set_option maxRecDepth 100000 in
theorem eqfIs_any (xs ys : List (List Int)) (A : Option Addr) (cap b off : Nat) (C : Nat → Nat → Value) (A' : Option Addr) (cap' b' off' : Nat) (D : Nat → Nat → Value) (w : World) (hl : xs.length ≤ maxLen) (_ : ys.length ≤ maxLen)
    (hO : Lay.ints.Opn w w.heap.size xs A b off C) (hO' : Lay.ints.Opn w w.heap.size ys A' b' off' D) :
    Calls Try.prog 40 #[.slice A xs.length cap, .slice A' ys.length cap', .func (.func 41) #[] #[]] w fun e' w' => e' = .returned (.bool (decide (xs.length = ys.length) && nxtSame xs ys)) ∧ Below w.heap.size w w' := by
  unfold maxLen at hl
  have HO := Lib.hid hO
  have HO' := Lib.hid hO'
  clear hO hO'
  by_cases hlen : xs.length = ys.length
  case neg =>
    have hlenI : ¬ ((xs.length : Int) = (ys.length : Int)) := by omega
    go_enter Try.func40, Try.ntmps40
    go_wp2_with fail
    go_ret
    exact ⟨ret_bool (by rw [decide_eq_false hlen]; rfl), Below.refl _ _⟩
  have hlenI : (xs.length : Int) = (ys.length : Int) := by omega
  rw [decide_eq_true hlen, Bool.true_and]
  have HLn := Lib.hid hlen
  clear hlen
  go_enter Try.func40, Try.ntmps40
  go_wp2_with fail
  go_loopw [17] (fun i wl => ∃ j : Nat, j ≤ xs.length ∧ i = .int .i64 j ∧ Hid (((xs.zip ys).take j).all (fun q => intsSame q.1 q.2) = true) ∧ Hid (Below w.heap.size w wl)) (fun i _ => xs.length - (intOf i).toNat)
  case atStart => exact ⟨0, Nat.zero_le _, rfl, rfl, Below.refl _ _⟩
  case round =>
    obtain ⟨j, hj, rfl, HT, HB⟩ := hrel
    by_cases hlt : j < xs.length
    · obtain ⟨x, hx⟩ : ∃ x, xs[j]? = some x := ⟨_, List.getElem?_eq_getElem hlt⟩
      have hlp : j < ys.length := by have := HLn.out; omega
      obtain ⟨y, hy⟩ : ∃ y, ys[j]? = some y := ⟨_, List.getElem?_eq_getElem hlp⟩
      obtain ⟨rfl, hb, gc, gl⟩ := HO.out.below HB.out j x hx
      obtain ⟨rfl, hb', fc, fl⟩ := HO'.out.below HB.out j y hy
      have c0 : wr.cell? ⟨b, off + j, none⟩ = some (C j 0) := by have h := gc 0 (by decide); rw [show Lay.ints.st = 1 from rfl, Nat.mul_one] at h; exact h
      have d0 : wr.cell? ⟨b', off' + j, none⟩ = some (D j 0) := by have h := fc 0 (by decide); rw [show Lay.ints.st = 1 from rfl, Nat.mul_one] at h; exact h
      have HG := Lib.hid (Lay.ints.more gl HB.out.size)
      have HG' := Lib.hid (Lay.ints.more fl HB.out.size)
      have HZ := Lib.hid (zip_get hx hy)
      have hbs : b < wr.heap.size := Nat.lt_of_lt_of_le hb HB.out.size
      have hbs' : b' < wr.heap.size := Nat.lt_of_lt_of_le hb' HB.out.size
      obtain ⟨v, hv⟩ : ∃ v, v = intsSame x y := ⟨_, rfl⟩
      have HV := Lib.hid hv
      have HTs := Lib.hid (alls_take_succ (f := fun q : (List Int) × (List Int) => intsSame q.1 q.2) HZ.out)
      clear gl fl gc fc hx hy hv
      go_wp2_with fail
      refine (implIsS_any x y (C j) (D j) wr HG.out HG'.out).mono ?_
      rintro e' w1 ⟨rfl, hb1⟩
      rw [← HV.out]
      have HB1 : Hid (Below w.heap.size w w1) := HB.out.trans (hb1.mono HB.out.size)
      clear hb1
      cases v
      · go_wp2_with fail
        go_ret
        exact ⟨ret_bool (alls_false (f := fun q : (List Int) × (List Int) => intsSame q.1 q.2) HZ.out HV.out.symm).symm, HB1.out⟩
      · have HT2 : Hid (((xs.zip ys).take (j + 1)).all (fun q => intsSame q.1 q.2) = true) := by show _ = _; rw [HTs.out, HT.out]; exact HV.out.symm
        go_wp2_with fail
        go_roundw
        case rel => exact ⟨j + 1, by omega, by go_num, HT2, HB1⟩
        case measure => simp [intOf]; omega
    · have hjj : j = xs.length := by omega
      subst hjj
      have HFt : Hid (nxtSame xs ys = true) := by
        have := HT.out
        rw [zip_len HLn.out, List.take_length] at this
        exact this
      go_wp2_with fail
      go_ret
      exact ⟨ret_bool HFt.out.symm, HB.out⟩

end Go.Proofs.Ytiidnnjdgccfiaa

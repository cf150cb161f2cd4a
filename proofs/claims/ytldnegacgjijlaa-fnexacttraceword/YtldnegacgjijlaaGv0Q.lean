/- Valid graphs as plain data; membership in a list of numbers, sets of states as bits, the successors of a state. -/
import Derived.Test.YtldnegacgjijlaaJ03
import Derived.BigQuiet
namespace Go.Proofs.Ytldnegacgjijlaa
open Go.RowKit

/-- The number is in the list. -/
def inB (x : List Int) (z : Int) : Bool := decide (z ∈ x)
def inOk (n : Nat) (z : Int) : Bool := decide (0 ≤ z) && decide (z < n)
/-- The successor at k is a state and is not among those before it. -/
def fresh (n : Nat) (x : List Int) (k : Nat) : Bool := match x[k]? with
  | some z => inOk n z && !(inB (x.take k) z)
  | none => true
def sucsOk (n : Nat) (x : List Int) : Bool := (List.range x.length).all (fresh n x)
def nodeOk (n : Nat) (q : St × List Int) : Bool := valsOk q.1.vals && (decide (0 < q.2.length) && sucsOk n q.2)
/-- The graph is valid. -/
def grOk (g : Gp) : Bool := decide (1 ≤ g.sts.length) && (decide (g.sts.length ≤ 60) && (decide (g.nxt.length = g.sts.length) && (g.sts.zip g.nxt).all (nodeOk g.sts.length)))

theorem zip_len2 {X Y : Type} {xs : List X} {ys : List Y} (h : xs.length = ys.length) : xs.length = (xs.zip ys).length := by rw [List.length_zip, h, Nat.min_self]
theorem fresh_some {n : Nat} {x : List Int} {k : Nat} {z : Int} (h : x[k]? = some z) : fresh n x k = (inOk n z && !(inB (x.take k) z)) := by
  unfold fresh; rw [h]
theorem sucs_true {n : Nat} {x : List Int} (h : ∀ k, k < x.length → fresh n x k = true) : sucsOk n x = true := List.all_eq_true.2 fun k hk => h k (List.mem_range.1 hk)
theorem sucs_false {n : Nat} {x : List Int} {k : Nat} {z : Int} (h : x[k]? = some z) (hf : fresh n x k = false) : sucsOk n x = false :=
  List.all_eq_false.2 ⟨k, List.mem_range.2 (List.getElem?_eq_some_iff.1 h).1, by simp [hf]⟩

theorem few : ∀ (n : Nat) (x : List Int), (∀ z, z ∈ x → 0 ≤ z ∧ z < n) → x.Nodup → x.length ≤ n
  | 0, x, h, _ => by
    cases x with
    | nil => exact Nat.le_refl _
    | cons a t => have := h a (List.mem_cons_self ..); omega
  | n + 1, x, h, hn => by
    by_cases hm : (n : Int) ∈ x
    · have h1 := List.length_erase_of_mem hm
      have h2 := few n (x.erase (n : Int)) (fun z hz => by
        have h3 := (List.Nodup.mem_erase_iff hn).1 hz
        have h4 := h z h3.2
        have h5 := h3.1
        omega) (hn.erase _)
      omega
    · exact Nat.le_trans (few n x (fun z hz => by
        have h4 := h z hz
        have h5 : z ≠ (n : Int) := fun e => hm (e ▸ hz)
        omega) hn) (Nat.le_succ n)

theorem sucs_few {n : Nat} {x : List Int} (h : sucsOk n x = true) : x.length ≤ n := by
  have hk : ∀ k, k < x.length → fresh n x k = true := fun k hk => List.all_eq_true.1 h k (List.mem_range.2 hk)
  refine few n x (fun z hz => ?_) ?_
  · obtain ⟨i, hi⟩ := List.getElem?_of_mem hz
    have h1 := hk i (List.getElem?_eq_some_iff.1 hi).1
    rw [fresh_some hi] at h1
    simp [inOk] at h1
    exact h1.1
  · refine List.pairwise_iff_getElem.2 fun i j hi hj hij e => ?_
    have h1 := hk j hj
    rw [fresh_some (List.getElem?_eq_getElem hj)] at h1
    simp only [Bool.and_eq_true, Bool.not_eq_true', inB, decide_eq_false_iff_not] at h1
    refine h1.2 ?_
    rw [← e]
    exact List.mem_of_getElem? (l := x.take j) (i := i) (by rw [List.getElem?_take_of_lt hij]; exact List.getElem?_eq_getElem hi)

set_option maxHeartbeats 400000 in
theorem l4In_any (zs : List Int) (n : Int) (A : Option Addr) (l cap b off : Nat) (w : World) (hz : l = zs.length) (hl : l ≤ maxLen) (hI : Ints w w.heap.size A b off zs) :
    Calls Try.prog 116 #[.slice A l cap, .int .i64 n] w fun e' w' => e' = .returned (.bool (inB zs n)) ∧ w = w' := by
  subst hz
  unfold maxLen at hl
  have HI := Lib.hid hI
  clear hI
  go_enter Try.func116, Try.ntmps116
  go_wp2_with fail
  go_loop [5] (fun i => ∃ j : Nat, j ≤ zs.length ∧ i = .int .i64 j ∧ Hid (inB (zs.take j) n = false)) (fun i => zs.length - (intOf i).toNat)
  case atStart => exact ⟨0, Nat.zero_le _, rfl, rfl⟩
  case round =>
    obtain ⟨j, hj, rfl, HT⟩ := hrel
    by_cases hlt : j < zs.length
    · obtain ⟨z, hz⟩ : ∃ z, zs[j]? = some z := ⟨_, List.getElem?_eq_getElem hlt⟩
      obtain ⟨rfl, hb, g0⟩ := HI.out j z hz
      have HZ := Lib.hid hz
      clear hz
      by_cases h0 : z = n
      · subst h0
        have HF : Hid (inB zs z = true) := decide_eq_true (List.mem_of_getElem? HZ.out)
        go_wp2_with fail
        go_ret
        exact ⟨ret_bool HF.out.symm, rfl⟩
      · have HV : Hid (inB (zs.take (j + 1)) n = false) := by
          show _ = _
          have h1 := HT.out
          unfold inB at h1 ⊢
          simp only [decide_eq_false_iff_not] at h1 ⊢
          rw [List.take_add_one, HZ.out]
          simp only [Option.toList_some, List.mem_append, List.mem_singleton]
          rintro (h2 | h2)
          · exact h1 h2
          · exact h0 h2.symm
        go_wp2_with fail
        go_round
        case rel => exact ⟨j + 1, by omega, by go_num, HV⟩
        case measure => simp [intOf]; omega
    · have hjj : j = zs.length := by omega
      subst hjj
      go_wp2_with fail
      go_ret
      exact ⟨ret_bool (by have := HT.out; rw [List.take_length] at this; exact this.symm), rfl⟩

/-- The first place of n in the list, or a negative number. -/
def AtIdx (zs : List Int) (n r : Int) : Prop := decide (0 ≤ r) = inB zs n ∧ (0 ≤ r → ∃ k : Nat, r = k ∧ zs[k]? = some n ∧ inB (zs.take k) n = false)

set_option maxHeartbeats 400000 in
theorem index_any (zs : List Int) (n : Int) (A : Option Addr) (cap b off : Nat) (w : World) (hl : zs.length ≤ maxLen) (hI : Ints w w.heap.size A b off zs) :
    Calls Try.prog 161 #[.slice A zs.length cap, .int .i64 n] w fun e' w' => (∃ r : Int, e' = .returned (.int .i64 r) ∧ AtIdx zs n r) ∧ w = w' := by
  unfold maxLen at hl
  have HI := Lib.hid hI
  clear hI
  go_enter Try.func161, Try.ntmps161
  go_wp2_with fail
  go_loop [8] (fun i => ∃ j : Nat, j ≤ zs.length ∧ i = .int .i64 j ∧ Hid (inB (zs.take j) n = false)) (fun i => zs.length - (intOf i).toNat)
  case atStart => exact ⟨0, Nat.zero_le _, rfl, rfl⟩
  case round =>
    obtain ⟨j, hj, rfl, HT⟩ := hrel
    by_cases hlt : j < zs.length
    · obtain ⟨z, hz⟩ : ∃ z, zs[j]? = some z := ⟨_, List.getElem?_eq_getElem hlt⟩
      obtain ⟨rfl, hb, g0⟩ := HI.out j z hz
      have HZ := Lib.hid hz
      clear hz
      by_cases h0 : n = z
      · subst h0
        have HF : Hid (inB zs n = true) := decide_eq_true (List.mem_of_getElem? HZ.out)
        go_wp2_with fail
        go_ret
        exact ⟨⟨_, rfl, by rw [HF.out]; exact decide_eq_true (by omega), fun _ => ⟨j, rfl, HZ.out, HT.out⟩⟩, rfl⟩
      · have HV : Hid (inB (zs.take (j + 1)) n = false) := by
          show _ = _
          have h1 := HT.out
          unfold inB at h1 ⊢
          simp only [decide_eq_false_iff_not] at h1 ⊢
          rw [List.take_add_one, HZ.out]
          simp only [Option.toList_some, List.mem_append, List.mem_singleton]
          rintro (h2 | h2)
          · exact h1 h2
          · exact h0 h2
        go_wp2_with fail
        go_round
        case rel => exact ⟨j + 1, by omega, by go_num, HV⟩
        case measure => simp [intOf]; omega
    · have hjj : j = zs.length := by omega
      subst hjj
      go_wp2_with fail
      go_ret
      exact ⟨⟨_, rfl, by have := HT.out; rw [List.take_length] at this; rw [this]; rfl, fun h => by omega⟩, rfl⟩

set_option maxHeartbeats 400000 in
theorem hasState_any (A : Option Addr) (n cap : Nat) (A' : Option Addr) (n' cap' : Nat) (z : Int) (w : World) :
    Calls Try.prog 141 #[.agg #[.slice A n cap, .slice A' n' cap'], .int .i64 z] w fun e' w' => e' = .returned (.bool (inOk n z)) ∧ Below w.heap.size w w' := by
  have HB : Hid (Below w.heap.size w (w.alloc (.cells #[.slice A n cap, .slice A' n' cap'] 69))) := (Below.refl _ _).alloc (Nat.le_refl _) _
  by_cases h0 : z < 0
  · go_enter Try.func141, Try.ntmps141
    go_wp2_with fail
    go_ret
    exact ⟨ret_bool (by unfold inOk; rw [decide_eq_false (by omega)]; rfl), HB.out⟩
  by_cases h1 : z < n
  · go_enter Try.func141, Try.ntmps141
    go_wp2_with fail
    go_ret
    exact ⟨ret_bool (by unfold inOk; rw [decide_eq_true (show (0 : Int) ≤ z by omega), decide_eq_true h1]; rfl), HB.out⟩
  · go_enter Try.func141, Try.ntmps141
    go_wp2_with fail
    go_ret
    exact ⟨ret_bool (by unfold inOk; rw [decide_eq_false (show ¬ z < n by omega), Bool.and_false]), HB.out⟩

theorem pow_nat (k : Nat) : ((2 : Int) ^ k) = ((2 ^ k : Nat) : Int) := by rw [Int.natCast_pow]; rfl
theorem pow_lt {k : Nat} (hk : k < 60) : 2 ^ k < 18446744073709551616 := Nat.lt_trans (Nat.pow_lt_pow_right (by decide) hk) (by decide)

theorem bit_of {m k : Nat} (hm : m < 18446744073709551616) : (bits .and .u64 ((m : Int) / 2 ^ k) 1 != 0) = m.testBit k := by
  have h1 : (m : Int) / 2 ^ k = ((m / 2 ^ k : Nat) : Int) := by rw [pow_nat]; rfl
  have h2 := u64_and_nat (m / 2 ^ k) 1 (Nat.lt_of_le_of_lt (Nat.div_le_self _ _) hm) (by decide)
  rw [h1, show (1 : Int) = ((1 : Nat) : Int) from rfl, h2, Nat.and_one_is_mod, Nat.testBit_eq_decide_div_mod_eq, Bool.eq_iff_iff]
  simp only [bne_iff_ne, decide_eq_true_eq]
  omega

theorem or_of {m k : Nat} (hm : m < 18446744073709551616) (hk : k < 60) : bits .or .u64 (m : Int) (IntKind.u64.wrap (2 ^ k)) = ((m ||| 2 ^ k : Nat) : Int) := by
  have h1 := pow_lt hk
  rw [IntKind.wrap_u64, pow_nat, show ((2 ^ k : Nat) : Int) % 18446744073709551616 = ((2 ^ k : Nat) : Int) from Int.emod_eq_of_lt (Int.natCast_nonneg _) (Int.ofNat_lt.2 h1)]
  exact u64_or_nat m (2 ^ k) hm h1

set_option maxHeartbeats 400000 in
theorem has_any (m k : Nat) (w : World) (hm : m < 18446744073709551616) (hk : k < 60) :
    Calls Try.prog 142 #[.int .u64 m, .int .i64 k] w fun e' w' => e' = .returned (.bool (m.testBit k)) ∧ w = w' := by
  go_enter Try.func142, Try.ntmps142
  go_wp2_with fail
  go_ret
  exact ⟨ret_bool (bit_of hm), rfl⟩

set_option maxHeartbeats 400000 in
theorem with_any (m k : Nat) (w : World) (hm : m < 18446744073709551616) (hk : k < 60) :
    Calls Try.prog 143 #[.int .u64 m, .int .i64 k] w fun e' w' => e' = .returned (.int .u64 ((m ||| 2 ^ k : Nat) : Int)) ∧ w = w' := by
  go_enter Try.func143, Try.ntmps143
  go_wp2_with fail
  go_ret
  exact ⟨ret_int (or_of hm hk), rfl⟩

/-- The set has the states among the first j successors. -/
def BitsOf (m : Nat) (x : List Int) (j : Nat) : Prop := m < 18446744073709551616 ∧ ∀ k : Nat, k < 64 → m.testBit k = inB (x.take j) k

theorem BitsOf.zero (x : List Int) : BitsOf 0 x 0 := ⟨by decide, fun k _ => by rw [Nat.zero_testBit]; rfl⟩
theorem BitsOf.next {m : Nat} {x : List Int} {j k : Nat} (h : BitsOf m x j) (hx : x[j]? = some (k : Int)) (hk : k < 60) : BitsOf (m ||| 2 ^ k) x (j + 1) := by
  refine ⟨Nat.or_lt_two_pow (n := 64) h.1 (pow_lt hk), fun i hi => ?_⟩
  rw [Nat.testBit_or, h.2 i hi, Nat.testBit_two_pow]
  unfold inB
  rw [List.take_add_one, hx, Bool.eq_iff_iff]
  simp only [Option.toList_some, List.mem_append, List.mem_singleton, Bool.or_eq_true, decide_eq_true_eq]
  constructor
  · rintro (h1 | h1)
    · exact .inl h1
    · exact .inr (by omega)
  · rintro (h1 | h1)
    · exact .inl h1
    · exact .inr (by omega)

set_option maxHeartbeats 1000000 in
theorem sucs_any (x : List Int) (A : Option Addr) (n cap : Nat) (A' : Option Addr) (n' cap' : Nat) (B : Option Addr) (capB b off : Nat) (w : World) (hn : n ≤ 60) (hl : x.length ≤ maxLen) (hI : Ints w w.heap.size B b off x) :
    Calls Try.prog 120 #[.agg #[.slice A n cap, .slice A' n' cap'], .slice B x.length capB] w fun e' w' => e' = .returned (.bool (decide (0 < x.length) && sucsOk n x)) ∧ Below w.heap.size w w' := by
  obtain ⟨W1, hW1⟩ : ∃ W1, W1 = w.alloc (.cells #[.slice A n cap, .slice A' n' cap'] 69) := ⟨_, rfl⟩
  have hr : Row W1 w.heap.size 69 #[.slice A n cap, .slice A' n' cap'] := by rw [hW1]; exact Row.new _ _ _
  have hb0 : Below w.heap.size w W1 := by rw [hW1]; exact (Below.refl _ _).alloc (Nat.le_refl _) _
  have HW1 := Lib.hid hW1
  have HR := Lib.hid hr
  have HB0 := Lib.hid hb0
  have HI := Lib.hid (hI.under hb0 hb0.size)
  have HN := Lib.hid hn
  unfold maxLen at hl
  clear hI hW1 hr hb0 hn
  go_enter Try.func120, Try.ntmps120
  go_wp2_with fail
  rw [← HW1.out]
  go_loopw [5, 10] (fun s i wl => ∃ j m : Nat, j ≤ x.length ∧ s = .int .u64 m ∧ i = .int .i64 j ∧ Hid (BitsOf m x j) ∧ Hid (∀ k, k < j → fresh n x k = true) ∧ Hid (Below W1.heap.size W1 wl)) (fun _ i _ => x.length - (intOf i).toNat)
  case atStart => exact ⟨0, 0, Nat.zero_le _, rfl, rfl, BitsOf.zero x, fun k h => absurd h (Nat.not_lt_zero k), Below.refl _ _⟩
  case round =>
    obtain ⟨j, m, hj, rfl, rfl, HM, HT, HB⟩ := hrel
    have HBw : Hid (Below w.heap.size w wr) := HB0.out.trans (HB.out.mono HB0.out.size)
    by_cases hlt : j < x.length
    · obtain ⟨z, hz⟩ : ∃ z, x[j]? = some z := ⟨_, List.getElem?_eq_getElem hlt⟩
      obtain ⟨rfl, hb, c0⟩ := HI.out.under HB.out HB.out.size j z hz
      obtain ⟨g0, g1⟩ := (HR.out.under HB.out HR.out.lt).two
      have HZ := Lib.hid hz
      obtain ⟨v, hv⟩ : ∃ v, v = inOk n z := ⟨_, rfl⟩
      have HV := Lib.hid hv
      clear hz hv
      go_wp2_with fail
      refine (hasState_any A n cap A' n' cap' z wr).mono ?_
      rintro e' w1 ⟨rfl, hb1⟩
      rw [← HV.out]
      have HB1 : Hid (Below W1.heap.size W1 w1) := HB.out.trans (hb1.mono HB.out.size)
      clear hb1 g0 g1 c0 HBw HB
      have HBx : Hid (Below w.heap.size w w1) := HB0.out.trans (HB1.out.mono HB0.out.size)
      cases v
      · have HF : Hid (sucsOk n x = false) := sucs_false HZ.out (by rw [fresh_some HZ.out, ← HV.out]; rfl)
        go_wp2_with fail
        go_ret
        exact ⟨ret_bool (by rw [HF.out, Bool.and_false]), HBx.out⟩
      · obtain ⟨k, rfl, hk⟩ : ∃ k : Nat, z = k ∧ k < 60 := by
          have h1 := HV.out
          unfold inOk at h1
          simp only [Bool.true_eq, Bool.and_eq_true, decide_eq_true_eq] at h1
          have := HN.out
          exact ⟨z.toNat, by omega, by omega⟩
        have HM2 := Lib.hid (HM.out.next HZ.out hk)
        obtain ⟨u, hu⟩ : ∃ u, u = inB (x.take j) k := ⟨_, rfl⟩
        have HU := Lib.hid hu
        have HFr : Hid (fresh n x j = !u) := by show _ = _; rw [fresh_some HZ.out, ← HV.out, hu]; rfl
        clear hu
        go_wp2_with fail
        refine (has_any m k w1 HM.out.1 hk).mono ?_
        rintro e' w2 ⟨rfl, rfl⟩
        rw [HM.out.2 k (by omega), ← HU.out]
        cases u
        · have HT2 : Hid (∀ i, i < j + 1 → fresh n x i = true) := fun i hi => by
            by_cases e : i = j
            · subst e; exact HFr.out
            · exact HT.out i (by omega)
          go_wp2_with fail
          refine (with_any m k w1 HM.out.1 hk).mono ?_
          rintro e' w3 ⟨rfl, rfl⟩
          go_wp2_with fail
          go_roundw
          case rel => exact ⟨j + 1, _, by omega, rfl, by go_num, HM2, HT2, HB1⟩
          case measure => simp [intOf]; omega
        · have HF : Hid (sucsOk n x = false) := sucs_false HZ.out HFr.out
          go_wp2_with fail
          go_ret
          exact ⟨ret_bool (by rw [HF.out, Bool.and_false]), HBx.out⟩
    · have hjj : j = x.length := by omega
      subst hjj
      have HF := Lib.hid (sucs_true HT.out)
      go_wp2_with fail
      go_ret
      exact ⟨ret_bool (by rw [HF.out, Bool.and_true, Bool.eq_iff_iff]), HBw.out⟩

end Go.Proofs.Ytldnegacgjijlaa

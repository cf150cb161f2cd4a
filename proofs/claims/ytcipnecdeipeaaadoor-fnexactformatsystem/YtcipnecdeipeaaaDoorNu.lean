/- Numbers as texts: the walk of spec.l16Dec. -/
import Derived.Test.YtcipnecdeipeaaaDoorBs
import Derived.Laws.BytesArg
import Derived.Lib.ItoaNum
namespace Go.Proofs.YtcipnecdeipeaaaDoor
open Go.RowKit

/-- The digits of a number. -/
def numB (k : Nat) : ByteArray := ⟨(Lib.decDigits k).toArray⟩
theorem numB_lt {k : Nat} (h : k < 10) : numB k = strOfNums [48 + (k : Int)] := by
  unfold numB
  rw [Lib.decDigits, dif_pos h]
  apply ByteArray.ext
  simp only [strOfNums, List.map_cons, List.map_nil]
  rw [show ((48 + (k : Int)).toNat) = 48 + k by omega]
theorem numB_ge {k : Nat} (h : ¬ k < 10) : numB k = numB (k / 10) ++ strOfNums [48 + ((k % 10 : Nat) : Int)] := by
  unfold numB
  rw [Lib.decDigits, dif_neg h]
  apply ByteArray.ext
  simp only [strOfNums, List.map_cons, List.map_nil, ByteArray.data_append]
  rw [show ((48 + ((k % 10 : Nat) : Int)).toNat) = 48 + k % 10 by omega]
  simp
theorem numB_pos (k : Nat) : 1 ≤ (numB k).size := by
  by_cases h : k < 10
  · rw [numB_lt h, strOfNums_size]; exact Nat.le_refl _
  · rw [numB_ge h, ByteArray.size_append, strOfNums_size]; exact Nat.le_add_left _ _
theorem numB_size : ∀ (m k : Nat), k < 10 ^ (m + 1) → (numB k).size ≤ m + 1 := by
  intro m
  induction m with
  | zero =>
    intro k h
    rw [numB_lt (by omega), strOfNums_size]
    exact Nat.le_refl _
  | succ m ih =>
    intro k h
    by_cases hk : k < 10
    · rw [numB_lt hk, strOfNums_size]; show 1 ≤ _; omega
    · rw [numB_ge hk, ByteArray.size_append, strOfNums_size]
      have h2 : k / 10 < 10 ^ (m + 1) := Nat.div_lt_of_lt_mul (by rw [Nat.pow_succ] at h; omega)
      have := ih _ h2
      show _ + 1 ≤ _
      omega
theorem numB_19 {k : Nat} (h : k ≤ 9223372036854775807) : (numB k).size ≤ 19 := numB_size 18 k (by omega)
theorem ret_string {a b : ByteArray} (h : a = b) : Ending.returned (.string a) = Ending.returned (.string b) := by rw [h]
theorem u8_digit {d : Nat} (h : d < 10) : IntKind.u8.wrap (48 + (d : Int)) = 48 + (d : Int) := by
  have : d = 0 ∨ d = 1 ∨ d = 2 ∨ d = 3 ∨ d = 4 ∨ d = 5 ∨ d = 6 ∨ d = 7 ∨ d = 8 ∨ d = 9 := by omega
  rcases this with h | h | h | h | h | h | h | h | h | h <;> subst h <;> rfl

set_option maxHeartbeats 400000 in
set_option maxRecDepth 100000 in
theorem decN_any (k : Nat) (w : World) (hk : k ≤ 9223372036854775807) :
    Calls Tryd.prog 12 #[.int .i64 k] w fun e' w' => e' = .returned (.string (numB k)) ∧ Below w.heap.size w w' := by
  have HK := Lib.hid (numB_19 hk)
  go_enter Tryd.func12, Tryd.ntmps12
  go_wp2_with fail
  go_loopw [0, 3] (fun i o wl => ∃ (n : Nat) (b : ByteArray), n ≤ k ∧ i = .int .i64 n ∧ o = .string b ∧ Hid (numB k = numB n ++ b) ∧ b.size ≤ 19 ∧ Hid (Below w.heap.size w wl)) (fun i _ _ => (intOf i).toNat)
  case atStart => exact ⟨k, ⟨#[]⟩, Nat.le_refl _, rfl, rfl, by show _ = _; apply ByteArray.ext; simp, Nat.zero_le _, Below.refl _ _⟩
  case round =>
    obtain ⟨n, b, hn, rfl, rfl, HN, hb, HB⟩ := hrel
    by_cases h9 : 9 < n
    · obtain ⟨d, hd⟩ : ∃ d, d = n % 10 := ⟨_, rfl⟩
      obtain ⟨q, hq⟩ : ∃ q, q = n / 10 := ⟨_, rfl⟩
      have hd10 : d < 10 := by omega
      have hqn : q < n := by omega
      have htm : (n : Int).tmod 10 = (d : Int) := by rw [hd]; rfl
      have htd : (n : Int).tdiv 10 = (q : Int) := by rw [hq]; rfl
      have e1 := u8_digit hd10
      have HE : Hid (numB n = numB q ++ strOfNums [48 + (d : Int)]) := by show _ = _; rw [numB_ge (by omega), hd, hq]
      have hconv := run_convert_bytes_arg (P := Tryd.prog) (wr.alloc (.cells #[.int .u8 (48 + (d : Int))] 5)) 64 5 Tryd.underlying64 Tryd.underlying5 wr.heap.size 0 1 1 [48 + (d : Int)] rfl (fun i hi => by
        have hi0 : i = 0 := by omega
        subst hi0
        exact (Row.new wr 5 #[.int .u8 (48 + (d : Int))]).cell 0) 9 Tryd.underlying9
      obtain ⟨c, hc⟩ : ∃ c, c = strOfNums [48 + (d : Int)] := ⟨_, rfl⟩
      rw [← hc] at hconv HE
      have hcs : c.size = 1 := by rw [hc, strOfNums_size]; rfl
      have HN2 : Hid (numB k = numB q ++ (c ++ b)) := by show _ = _; rw [HN.out, HE.out]; apply ByteArray.ext; simp
      have hsz2 : (c ++ b).size ≤ 19 := by
        have h1 := congrArg ByteArray.size HN2.out
        have h2 := HK.out
        rw [ByteArray.size_append (a := numB q)] at h1
        omega
      have HS2 := Lib.hid hsz2
      have hnk : (n : Int) ≤ 9223372036854775807 := by omega
      clear hd hq hc hsz2
      go_wp2_with fail
      go_roundw
      case rel => exact ⟨q, c ++ b, by omega, rfl, rfl, HN2, HS2.out, HB.out.alloc (Nat.le_trans (Nat.le_refl _) HB.out.size) _⟩
      case measure => simp [intOf]; omega
    · have hd10 : n < 10 := by omega
      have e1 := u8_digit hd10
      have hconv := run_convert_bytes_arg (P := Tryd.prog) (wr.alloc (.cells #[.int .u8 (48 + (n : Int))] 5)) 64 5 Tryd.underlying64 Tryd.underlying5 wr.heap.size 0 1 1 [48 + (n : Int)] rfl (fun i hi => by
        have hi0 : i = 0 := by omega
        subst hi0
        exact (Row.new wr 5 #[.int .u8 (48 + (n : Int))]).cell 0) 9 Tryd.underlying9
      obtain ⟨c, hc⟩ : ∃ c, c = strOfNums [48 + (n : Int)] := ⟨_, rfl⟩
      rw [← hc] at hconv
      have hcs : c.size = 1 := by rw [hc, strOfNums_size]; rfl
      have HF : Hid (c ++ b = numB k) := by show _ = _; rw [HN.out, numB_lt hd10, hc]
      clear hc
      go_wp2_with fail
      go_ret
      exact ⟨ret_string HF.out, HB.out.alloc HB.out.size _⟩

end Go.Proofs.YtcipnecdeipeaaaDoor

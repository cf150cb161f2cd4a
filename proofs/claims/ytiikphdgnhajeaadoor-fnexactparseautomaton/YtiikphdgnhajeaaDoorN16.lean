/- The walk of spec.l16Num. -/
import Derived.Test.YtiikphdgnhajeaaDoorCk
import Derived.Test.YtiikphdgnhajeaaDoorRl
import Derived.Deep.Cut
import Derived.Deep.CutRange
namespace Go.Proofs.YtiikphdgnhajeaaDoor
open Go.RowKit

/-- The number that digits make. -/
def valN (l : List UInt8) : Nat := l.foldl (fun n b => n * 10 + (b.toNat - 48)) 0
theorem valN_take {x : ByteArray} {k : Nat} (h : k < x.size) : valN ((toL x).take (k + 1)) = valN ((toL x).take k) * 10 + (x[k].toNat - 48) := by
  have hg : (toL x)[k]? = some x[k] := by
    rw [List.getElem?_eq_getElem (by rw [toL_len]; exact h)]
    rfl
  rw [List.take_add_one, hg]
  unfold valN
  rw [Option.toList_some, List.foldl_append]
  rfl
def dec2 (m : Nat) : List UInt8 := if m < 10 then [UInt8.ofNat (48 + m)] else [UInt8.ofNat (48 + m / 10), UInt8.ofNat (48 + m % 10)]
theorem dec2_eq {m : Nat} (h : m < 100) : Lib.decDigits m = dec2 m := by
  unfold dec2
  rw [Lib.decDigits]
  split
  · rfl
  · rw [Lib.decDigits, dif_pos (by omega)]
    rfl
theorem dec2_facts : ∀ m : Fin 100, dec2 m.val ≠ [] ∧ (dec2 m.val).length ≤ 17 ∧ ((dec2 m.val).head? = some 48 → (dec2 m.val).length ≤ 1) ∧ (dec2 m.val).head? ≠ some 45 ∧ (∀ b ∈ dec2 m.val, 48 ≤ b.toNat ∧ b.toNat ≤ 57) ∧ valN (dec2 m.val) = m.val := by decide +kernel
theorem d100 {m : Nat} (h : m < 100) : Lib.decDigits m ≠ [] ∧ (Lib.decDigits m).length ≤ 17 ∧ ((Lib.decDigits m).head? = some 48 → (Lib.decDigits m).length ≤ 1) ∧ (Lib.decDigits m).head? ≠ some 45 ∧ (∀ b ∈ Lib.decDigits m, 48 ≤ b.toNat ∧ b.toNat ≤ 57) ∧ valN (Lib.decDigits m) = m := by
  rw [dec2_eq h]
  exact dec2_facts ⟨m, h⟩
theorem toL_head {x : ByteArray} (h : 0 < x.size) : (toL x).head? = some x[0] := by
  have hl : 0 < (toL x).length := by rw [toL_len]; exact h
  rw [List.head?_eq_getElem?, List.getElem?_eq_getElem hl]
  rfl
theorem d100_ne {m : Nat} {x : ByteArray} (h : m < 100) (e : toL x = Lib.decDigits m) (h0 : x.size = 0) : False := by
  have := (d100 h).1
  rw [← e] at this
  exact this (List.length_eq_zero_iff.1 (by rw [toL_len]; exact h0))
theorem d100_size {m : Nat} {x : ByteArray} (h : m < 100) (e : toL x = Lib.decDigits m) : x.size ≤ 17 := by
  have := (d100 h).2.1
  rw [← e, toL_len] at this
  exact this
theorem d100_lead {m : Nat} {x : ByteArray} (h : m < 100) (e : toL x = Lib.decDigits m) (h0 : 0 < x.size) (h48 : x[0].toNat = 48) : x.size ≤ 1 := by
  have h1 := (d100 h).2.2.1
  rw [← e, toL_head h0, toL_len] at h1
  exact h1 (by rw [show x[0] = 48 from UInt8.toNat_inj.1 h48])
theorem d100_minus {m : Nat} {x : ByteArray} (h : m < 100) (e : toL x = Lib.decDigits m) (h0 : 0 < x.size) (h45 : x[0].toNat = 45) : False := by
  have h1 := (d100 h).2.2.2.1
  rw [← e, toL_head h0] at h1
  exact h1 (by rw [show x[0] = 45 from UInt8.toNat_inj.1 h45])
theorem d100_digits {m : Nat} {x : ByteArray} (h : m < 100) (e : toL x = Lib.decDigits m) {k : Nat} (hk : k < x.size) : 48 ≤ x[k].toNat ∧ x[k].toNat ≤ 57 := by
  have h1 := (d100 h).2.2.2.2.1
  rw [← e] at h1
  have hl : k < (toL x).length := by rw [toL_len]; exact hk
  exact h1 x[k] (List.mem_of_getElem? (i := k) (by rw [List.getElem?_eq_getElem hl]; rfl))

/-- What is known of the number that a text is read as. -/
def Num16 (s : ByteArray) (v : Int) : Prop := -1000000000000000000 ≤ v ∧ v ≤ 1000000000000000000 ∧ ∀ m : Nat, m < 100 → toL s = Lib.decDigits m → v = m
theorem num16_no {s : ByteArray} (h : ∀ m : Nat, m < 100 → toL s = Lib.decDigits m → False) : Num16 s 0 := ⟨by decide, by decide, fun m hm e => (h m hm e).elim⟩
def N16Post (s : ByteArray) (w : World) (e' : Ending) (w' : World) : Prop := ∃ (v : Int) (ok : Bool), e' = .returned (.tuple #[.int .i64 v, .bool ok]) ∧ w = w' ∧ Num16 s v

set_option maxHeartbeats 2000000 in
set_option maxRecDepth 100000 in
theorem num16_any (s : ByteArray) (w : World) (hs : s.size ≤ 1048576) : Calls Tryd.prog 49 #[.string s] w (N16Post s w) := by
  by_cases hz : s.size = 0
  · have hzI : ¬ (0 : Int) < (s.size : Int) := by omega
    have hzB : ((s.size : Int) == 0) = true := by rw [beq_iff_eq]; omega
    have HN : Hid (Num16 s 0) := num16_no fun m hm e => d100_ne hm e hz
    go_enter Tryd.func49, Tryd.ntmps49
    go_wp2_with fail
    go_ret2
    exact ⟨0, false, rfl, rfl, HN.out⟩
  have hp : 0 < s.size := by omega
  have hpI : (0 : Int) < (s.size : Int) := by omega
  by_cases h45 : s[0].toNat = 45
  · have HNe : Hid (∀ m : Nat, m < 100 → ¬ toL s = Lib.decDigits m) := fun m hm e => d100_minus hm e hp h45
    have HNo : Hid (Num16 s 0) := num16_no fun m hm e => HNe.out m hm e
    obtain ⟨x, hx⟩ : ∃ x, x = s.extract 1 s.size := ⟨_, rfl⟩
    have hxs : x.size ≤ 1048576 := by rw [hx, ByteArray.size_extract]; omega
    have HX := Lib.hid hx
    have h45B : ((s[0].toNat : Int) == 45) = true := by rw [beq_iff_eq]; omega
    clear hx
    go_enter Tryd.func49, Tryd.ntmps49
    go_upto_region 4 with fail
    rw [← HX.out]
    clear h45B
    by_cases h0 : x.size = 0
    · have hI : (((x.size : Nat) : Int) == 0) = true := by rw [beq_iff_eq]; omega
      have HN : Hid (Num16 s 0) := HNo.out
      go_wp2_with fail
      go_ret2
      exact ⟨0, false, rfl, rfl, HN.out⟩
    have hI0 : (((x.size : Nat) : Int) == 0) = false := by rw [beq_eq_false_iff_ne]; omega
    by_cases h17 : 17 < x.size
    · have HN : Hid (Num16 s 0) := HNo.out
      have h17I : (17 : Int) < (x.size : Int) := by omega
      go_wp2_with fail
      go_ret2
      exact ⟨0, false, rfl, rfl, HN.out⟩
    have h17I : ¬ (17 : Int) < (x.size : Int) := by omega
    have hx0 : 0 < x.size := by omega
    by_cases h48 : x[0].toNat = 48
    · have h48I : ((x[0].toNat : Int) == 48) = true := by rw [beq_iff_eq]; omega
      by_cases h1 : 1 < x.size
      · have h1I : (1 : Int) < (x.size : Int) := by omega
        go_wp2_with fail
        go_ret2
        exact ⟨0, false, rfl, rfl, HNo.out⟩
      · have h1I : ¬ (1 : Int) < (x.size : Int) := by omega
        go_wp2_with fail
        go_ret2
        exact ⟨0, false, rfl, rfl, HNo.out⟩
    · have h48I : ((x[0].toNat : Int) == 48) = false := by rw [beq_eq_false_iff_ne]; omega
      go_wp2_with fail
      go_loop [5, 6] (fun n i => ∃ (k v : Nat), k ≤ x.size ∧ i = .int .i64 k ∧ n = .int .i64 v ∧ Hid (v = valN ((toL x).take k) ∧ v < 10 ^ k ∧ ∀ j, j < k → 48 ≤ (x[j]!).toNat ∧ (x[j]!).toNat ≤ 57)) (fun _ i => x.size - (intOf i).toNat)
      case atStart => exact ⟨0, 0, Nat.zero_le _, rfl, rfl, by simp [valN], by decide, fun j hj => absurd hj (Nat.not_lt_zero _)⟩
      case round =>
        obtain ⟨k, v, hk, rfl, rfl, HV⟩ := hrel
        have hv16 : v ≤ 100000000000000000 := by
          have h1 : 10 ^ k ≤ 10 ^ 17 := Nat.pow_le_pow_right (by decide) (by omega)
          have := HV.out.2.1
          omega
        by_cases hlt : k < x.size
        · have hv15 : v ≤ 10000000000000000 := by
            have h1 : 10 ^ k ≤ 10 ^ 16 := Nat.pow_le_pow_right (by decide) (by omega)
            have := HV.out.2.1
            omega
          have hb : x[k].toNat < 256 := UInt8.toNat_lt _
          have hget : x[k]! = x[k] := getElem!_pos x k hlt
          by_cases hd : 48 ≤ x[k].toNat ∧ x[k].toNat ≤ 57
          · obtain ⟨hd1, hd2⟩ := hd
            have HV2 : Hid (v * 10 + (x[k].toNat - 48) = valN ((toL x).take (k + 1)) ∧ v * 10 + (x[k].toNat - 48) < 10 ^ (k + 1) ∧ ∀ j, j < k + 1 → 48 ≤ (x[j]!).toNat ∧ (x[j]!).toNat ≤ 57) := by
              refine ⟨by rw [valN_take hlt, ← HV.out.1], ?_, fun j hj => ?_⟩
              · have := HV.out.2.1
                rw [Nat.pow_succ]
                omega
              · by_cases e : j = k
                · subst e; rw [hget]; exact ⟨hd1, hd2⟩
                · exact HV.out.2.2 j (by omega)
            have hd1I : ¬ ((x[k].toNat : Int) < 48) := by omega
            have hd2I : ¬ ((57 : Int) < (x[k].toNat : Int)) := by omega
            clear hget
            go_wp2_with fail
            go_round
            case rel => exact ⟨k + 1, v * 10 + (x[k].toNat - 48), by omega, by go_num, by go_num, HV2⟩
            case measure => simp [intOf]; omega
          · have HN : Hid (Num16 s 0) := HNo.out
            by_cases hlo : x[k].toNat < 48
            · have hloI : (x[k].toNat : Int) < 48 := by omega
              clear hget hd
              go_wp2_with fail
              go_ret2
              exact ⟨0, false, rfl, rfl, HN.out⟩
            · have hloI : ¬ (x[k].toNat : Int) < 48 := by omega
              have hhiI : (57 : Int) < (x[k].toNat : Int) := by omega
              clear hget hd
              go_wp2_with fail
              go_ret2
              exact ⟨0, false, rfl, rfl, HN.out⟩
        · have hkk : k = x.size := by omega
          subst hkk
          have HE : Hid (Num16 s (-(v : Int))) := ⟨by omega, by omega, fun m hm e => absurd e (HNe.out m hm)⟩
          go_wp2_with fail
          go_ret2
          exact ⟨-(v : Int), true, by first | rfl | go_num, rfl, HE.out⟩
  · have h45B : ((s[0].toNat : Int) == 45) = false := by rw [beq_eq_false_iff_ne]; omega
    go_enter Tryd.func49, Tryd.ntmps49
    go_upto_region 4 with fail
    clear h45B hpI
    by_cases h0 : s.size = 0
    · have hI : (((s.size : Nat) : Int) == 0) = true := by rw [beq_iff_eq]; omega
      have HN : Hid (Num16 s 0) := num16_no fun m hm e => d100_ne hm e h0
      go_wp2_with fail
      go_ret2
      exact ⟨0, false, rfl, rfl, HN.out⟩
    have hI0 : (((s.size : Nat) : Int) == 0) = false := by rw [beq_eq_false_iff_ne]; omega
    by_cases h17 : 17 < s.size
    · have HN : Hid (Num16 s 0) := num16_no fun m hm e => by have := d100_size hm e; omega
      have h17I : (17 : Int) < (s.size : Int) := by omega
      go_wp2_with fail
      go_ret2
      exact ⟨0, false, rfl, rfl, HN.out⟩
    have h17I : ¬ (17 : Int) < (s.size : Int) := by omega
    have hx0 : 0 < s.size := by omega
    by_cases h48 : s[0].toNat = 48
    · have h48I : ((s[0].toNat : Int) == 48) = true := by rw [beq_iff_eq]; omega
      by_cases h1 : 1 < s.size
      · have h1I : (1 : Int) < (s.size : Int) := by omega
        have HN : Hid (Num16 s 0) := num16_no fun m hm e => absurd (d100_lead hm e hx0 h48) (by omega)
        go_wp2_with fail
        go_ret2
        exact ⟨0, false, rfl, rfl, HN.out⟩
      · have h1I : ¬ (1 : Int) < (s.size : Int) := by omega
        go_wp2_with fail
        go_loop [5, 6] (fun n i => ∃ (k v : Nat), k ≤ s.size ∧ i = .int .i64 k ∧ n = .int .i64 v ∧ Hid (v = valN ((toL s).take k) ∧ v < 10 ^ k ∧ ∀ j, j < k → 48 ≤ (s[j]!).toNat ∧ (s[j]!).toNat ≤ 57)) (fun _ i => s.size - (intOf i).toNat)
        case atStart => exact ⟨0, 0, Nat.zero_le _, rfl, rfl, by simp [valN], by decide, fun j hj => absurd hj (Nat.not_lt_zero _)⟩
        case round =>
          obtain ⟨k, v, hk, rfl, rfl, HV⟩ := hrel
          have hv16 : v ≤ 100000000000000000 := by
            have h1 : 10 ^ k ≤ 10 ^ 17 := Nat.pow_le_pow_right (by decide) (by omega)
            have := HV.out.2.1
            omega
          by_cases hlt : k < s.size
          · have hv15 : v ≤ 10000000000000000 := by
              have h1 : 10 ^ k ≤ 10 ^ 16 := Nat.pow_le_pow_right (by decide) (by omega)
              have := HV.out.2.1
              omega
            have hb : s[k].toNat < 256 := UInt8.toNat_lt _
            have hget : s[k]! = s[k] := getElem!_pos s k hlt
            by_cases hd : 48 ≤ s[k].toNat ∧ s[k].toNat ≤ 57
            · obtain ⟨hd1, hd2⟩ := hd
              have HV2 : Hid (v * 10 + (s[k].toNat - 48) = valN ((toL s).take (k + 1)) ∧ v * 10 + (s[k].toNat - 48) < 10 ^ (k + 1) ∧ ∀ j, j < k + 1 → 48 ≤ (s[j]!).toNat ∧ (s[j]!).toNat ≤ 57) := by
                refine ⟨by rw [valN_take hlt, ← HV.out.1], ?_, fun j hj => ?_⟩
                · have := HV.out.2.1
                  rw [Nat.pow_succ]
                  omega
                · by_cases e : j = k
                  · subst e; rw [hget]; exact ⟨hd1, hd2⟩
                  · exact HV.out.2.2 j (by omega)
              have hd1I : ¬ ((s[k].toNat : Int) < 48) := by omega
              have hd2I : ¬ ((57 : Int) < (s[k].toNat : Int)) := by omega
              clear hget
              go_wp2_with fail
              go_round
              case rel => exact ⟨k + 1, v * 10 + (s[k].toNat - 48), by omega, by go_num, by go_num, HV2⟩
              case measure => simp [intOf]; omega
            · have HN : Hid (Num16 s 0) := num16_no fun m hm e => hd (by have := d100_digits hm e hlt; exact this)
              by_cases hlo : s[k].toNat < 48
              · have hloI : (s[k].toNat : Int) < 48 := by omega
                clear hget hd
                go_wp2_with fail
                go_ret2
                exact ⟨0, false, rfl, rfl, HN.out⟩
              · have hloI : ¬ (s[k].toNat : Int) < 48 := by omega
                have hhiI : (57 : Int) < (s[k].toNat : Int) := by omega
                clear hget hd
                go_wp2_with fail
                go_ret2
                exact ⟨0, false, rfl, rfl, HN.out⟩
          · have hkk : k = s.size := by omega
            subst hkk
            have HE : Hid (Num16 s (v : Int)) := ⟨by omega, by omega, fun m hm e => by
              have h1 := HV.out.1
              rw [List.take_of_length_le (by rw [toL_len]; exact Nat.le_refl _), e, (d100 hm).2.2.2.2.2] at h1
              omega⟩
            go_wp2_with fail
            go_ret2
            exact ⟨(v : Int), true, rfl, rfl, HE.out⟩
    · have h48I : ((s[0].toNat : Int) == 48) = false := by rw [beq_eq_false_iff_ne]; omega
      go_wp2_with fail
      go_loop [5, 6] (fun n i => ∃ (k v : Nat), k ≤ s.size ∧ i = .int .i64 k ∧ n = .int .i64 v ∧ Hid (v = valN ((toL s).take k) ∧ v < 10 ^ k ∧ ∀ j, j < k → 48 ≤ (s[j]!).toNat ∧ (s[j]!).toNat ≤ 57)) (fun _ i => s.size - (intOf i).toNat)
      case atStart => exact ⟨0, 0, Nat.zero_le _, rfl, rfl, by simp [valN], by decide, fun j hj => absurd hj (Nat.not_lt_zero _)⟩
      case round =>
        obtain ⟨k, v, hk, rfl, rfl, HV⟩ := hrel
        have hv16 : v ≤ 100000000000000000 := by
          have h1 : 10 ^ k ≤ 10 ^ 17 := Nat.pow_le_pow_right (by decide) (by omega)
          have := HV.out.2.1
          omega
        by_cases hlt : k < s.size
        · have hv15 : v ≤ 10000000000000000 := by
            have h1 : 10 ^ k ≤ 10 ^ 16 := Nat.pow_le_pow_right (by decide) (by omega)
            have := HV.out.2.1
            omega
          have hb : s[k].toNat < 256 := UInt8.toNat_lt _
          have hget : s[k]! = s[k] := getElem!_pos s k hlt
          by_cases hd : 48 ≤ s[k].toNat ∧ s[k].toNat ≤ 57
          · obtain ⟨hd1, hd2⟩ := hd
            have HV2 : Hid (v * 10 + (s[k].toNat - 48) = valN ((toL s).take (k + 1)) ∧ v * 10 + (s[k].toNat - 48) < 10 ^ (k + 1) ∧ ∀ j, j < k + 1 → 48 ≤ (s[j]!).toNat ∧ (s[j]!).toNat ≤ 57) := by
              refine ⟨by rw [valN_take hlt, ← HV.out.1], ?_, fun j hj => ?_⟩
              · have := HV.out.2.1
                rw [Nat.pow_succ]
                omega
              · by_cases e : j = k
                · subst e; rw [hget]; exact ⟨hd1, hd2⟩
                · exact HV.out.2.2 j (by omega)
            have hd1I : ¬ ((s[k].toNat : Int) < 48) := by omega
            have hd2I : ¬ ((57 : Int) < (s[k].toNat : Int)) := by omega
            clear hget
            go_wp2_with fail
            go_round
            case rel => exact ⟨k + 1, v * 10 + (s[k].toNat - 48), by omega, by go_num, by go_num, HV2⟩
            case measure => simp [intOf]; omega
          · have HN : Hid (Num16 s 0) := num16_no fun m hm e => hd (by have := d100_digits hm e hlt; exact this)
            by_cases hlo : s[k].toNat < 48
            · have hloI : (s[k].toNat : Int) < 48 := by omega
              clear hget hd
              go_wp2_with fail
              go_ret2
              exact ⟨0, false, rfl, rfl, HN.out⟩
            · have hloI : ¬ (s[k].toNat : Int) < 48 := by omega
              have hhiI : (57 : Int) < (s[k].toNat : Int) := by omega
              clear hget hd
              go_wp2_with fail
              go_ret2
              exact ⟨0, false, rfl, rfl, HN.out⟩
        · have hkk : k = s.size := by omega
          subst hkk
          have HE : Hid (Num16 s (v : Int)) := ⟨by omega, by omega, fun m hm e => by
            have h1 := HV.out.1
            rw [List.take_of_length_le (by rw [toL_len]; exact Nat.le_refl _), e, (d100 hm).2.2.2.2.2] at h1
            omega⟩
          go_wp2_with fail
          go_ret2
          exact ⟨(v : Int), true, rfl, rfl, HE.out⟩

end Go.Proofs.YtiikphdgnhajeaaDoor

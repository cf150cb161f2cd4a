/- Digits of small numbers as a text: the walks of spec.l16Dec, spec.l3Digits and impl.formatDigits. -/
import Derived.Test.YtiaejomdkkhimaaStD
import Derived.Laws.BytesArg
namespace Go.Proofs.Ytiaejomdkkhimaa
open Go.RowKit

def digIn (z : Int) : Bool := decide (0 ≤ z) && decide (z ≤ 9)
def digOk (zs : List Int) : Bool := zs.all digIn
/-- The digits of numbers, as a text. -/
def dig (zs : List Int) : ByteArray := strOfNums (zs.map fun z => 48 + z)
def digS (zs : List Int) : ByteArray := if digOk zs then dig zs else ⟨#[]⟩
/-- The text of a state. -/
def fmtSt (s : St) : ByteArray := if digOk s.locs && digOk s.vals then dig s.locs ++ ⟨#[47]⟩ ++ dig s.vals else ⟨#[]⟩

theorem strOfNums_append (xs ys : List Int) : strOfNums (xs ++ ys) = strOfNums xs ++ strOfNums ys := by
  apply ByteArray.ext
  simp [strOfNums]
theorem dig_succ {zs : List Int} {j : Nat} {z : Int} (h : zs[j]? = some z) : dig (zs.take (j + 1)) = dig (zs.take j) ++ strOfNums [48 + z] := by
  have hi := (List.getElem?_eq_some_iff.1 h).1
  unfold dig
  rw [List.take_succ_eq_append_getElem hi, (List.getElem?_eq_some_iff.1 h).2, List.map_append, strOfNums_append]
  rfl
theorem dig_size (zs : List Int) : (dig zs).size = zs.length := by unfold dig; rw [strOfNums_size, List.length_map]
theorem bytes_nil (a : ByteArray) : a ++ ⟨#[]⟩ = a := by
  apply ByteArray.ext
  simp
theorem digIn_of {z : Int} (h0 : ¬ z < 0) (h1 : ¬ 9 < z) : digIn z = true := by
  unfold digIn
  rw [decide_eq_true (show (0 : Int) ≤ z by omega), decide_eq_true (show z ≤ 9 by omega)]
  rfl
theorem digIn_neg {z : Int} (h0 : z < 0) : digIn z = false := by
  unfold digIn
  rw [decide_eq_false (show ¬ (0 : Int) ≤ z by omega)]
  rfl
theorem digIn_big {z : Int} (h1 : 9 < z) : digIn z = false := by
  unfold digIn
  rw [decide_eq_false (show ¬ z ≤ 9 by omega), Bool.and_false]
theorem digOk_false {zs : List Int} {j : Nat} {z : Int} (h : zs[j]? = some z) (hf : digIn z = false) : digOk zs = false ∧ digS zs = ⟨#[]⟩ := by
  have h0 : digOk zs = false := by
    unfold digOk
    rw [List.all_eq_false]
    exact ⟨z, List.mem_of_getElem? h, by rw [hf]; exact Bool.false_ne_true⟩
  exact ⟨h0, by unfold digS; rw [h0]; rfl⟩
theorem dig_take_succ {l : List Int} {i : Nat} {x : Int} (h : l[i]? = some x) : (l.take (i + 1)).all digIn = ((l.take i).all digIn && digIn x) := by
  have hi := (List.getElem?_eq_some_iff.1 h).1
  rw [List.take_succ_eq_append_getElem hi, (List.getElem?_eq_some_iff.1 h).2]
  simp

theorem ret_str {a b : ByteArray} (h : a = b) : Ending.returned (.string a) = Ending.returned (.string b) := by rw [h]

set_option maxHeartbeats 400000 in
set_option maxRecDepth 100000 in
theorem dec_any (z : Int) (w : World) (h0 : 0 ≤ z) (h9 : z ≤ 9) :
    Calls Try.prog 48 #[.int .i64 z] w fun e' w' => e' = .returned (.string (strOfNums [48 + z])) ∧ Below w.heap.size w w' := by
  have e1 : IntKind.u8.wrap (48 + z) = 48 + z := by
    have : z = 0 ∨ z = 1 ∨ z = 2 ∨ z = 3 ∨ z = 4 ∨ z = 5 ∨ z = 6 ∨ z = 7 ∨ z = 8 ∨ z = 9 := by omega
    rcases this with h | h | h | h | h | h | h | h | h | h <;> subst h <;> rfl
  have hconv := run_convert_bytes_arg (P := Try.prog) (w.alloc (.cells #[.int .u8 (48 + z)] 5)) 59 5 Try.underlying59 Try.underlying5 w.heap.size 0 1 1 [48 + z] rfl (fun i hi => by
    have hi0 : i = 0 := by omega
    subst hi0
    exact (Row.new w 5 #[.int .u8 (48 + z)]).cell 0) 9 Try.underlying9
  have HN := Lib.hid (bytes_nil (strOfNums [48 + z]))
  go_enter Try.func48, Try.ntmps48
  go_wp2_with fail
  go_loopw [0, 3] (fun n o wl => n = .int .i64 z ∧ o = .string ⟨#[]⟩ ∧ w = wl) (fun _ _ _ => 0)
  case atStart => exact ⟨rfl, rfl, rfl⟩
  case round =>
    obtain ⟨rfl, rfl, rfl⟩ := hrel
    go_wp2_with fail
    go_ret
    exact ⟨ret_str HN.out, (Below.refl _ _).alloc (Nat.le_refl _) _⟩

/-- What the digits' functions leave. -/
def DigPost (zs : List Int) (w : World) (e' : Ending) (w' : World) : Prop := e' = .returned (.tuple #[.string (digS zs), .bool (digOk zs)]) ∧ Below w.heap.size w w'

set_option maxHeartbeats 400000 in
set_option maxRecDepth 100000 in
theorem specDig_any (zs : List Int) (A : Option Addr) (cap b off : Nat) (w : World) (hl : zs.length ≤ maxLen) (hI : Ints w w.heap.size A b off zs) :
    Calls Try.prog 40 #[.slice A zs.length cap] w (DigPost zs w) := by
  unfold maxLen at hl
  have HI := Lib.hid hI
  clear hI
  go_enter Try.func40, Try.ntmps40
  go_wp2_with fail
  go_loopw [4, 5] (fun o i wl => ∃ j : Nat, j ≤ zs.length ∧ i = .int .i64 j ∧ o = .string (dig (zs.take j)) ∧ Hid ((zs.take j).all digIn = true) ∧ Hid (Below w.heap.size w wl)) (fun _ i _ => zs.length - (intOf i).toNat)
  case atStart => exact ⟨0, Nat.zero_le _, rfl, rfl, rfl, Below.refl _ _⟩
  case round =>
    obtain ⟨j, hj, rfl, rfl, HT, HB⟩ := hrel
    by_cases hlt : j < zs.length
    · obtain ⟨z, hz⟩ : ∃ z, zs[j]? = some z := ⟨_, List.getElem?_eq_getElem hlt⟩
      obtain ⟨rfl, hb, c0⟩ := HI.out.under HB.out HB.out.size j z hz
      have HZ := Lib.hid hz
      have HS := Lib.hid (dig_succ hz)
      clear hz
      by_cases hz0 : z < 0
      · have HF := Lib.hid (digOk_false HZ.out (digIn_neg hz0))
        go_wp2_with fail
        refine bodyPost_ret (v := .tuple #[.string ⟨#[]⟩, .bool false]) (by simp [results, Try.results40, go_sem]) rfl ?_
        exact ⟨by rw [HF.out.1, HF.out.2], HB.out⟩
      by_cases hz1 : 9 < z
      · have HF := Lib.hid (digOk_false HZ.out (digIn_big hz1))
        go_wp2_with fail
        refine bodyPost_ret (v := .tuple #[.string ⟨#[]⟩, .bool false]) (by simp [results, Try.results40, go_sem]) rfl ?_
        exact ⟨by rw [HF.out.1, HF.out.2], HB.out⟩
      have HT2 : Hid ((zs.take (j + 1)).all digIn = true) := by show _ = _; rw [dig_take_succ HZ.out, HT.out, digIn_of hz0 hz1]; rfl
      obtain ⟨D, hD⟩ : ∃ D, D = dig (zs.take j) := ⟨_, rfl⟩
      have hDs : D.size = j := by rw [hD, dig_size, List.length_take]; omega
      rw [← hD] at HS ⊢
      clear hD
      obtain ⟨E, hE⟩ : ∃ E, E = strOfNums [48 + z] := ⟨_, rfl⟩
      have hEs : E.size = 1 := by rw [hE, strOfNums_size]; rfl
      rw [← hE] at HS
      have HE := Lib.hid hE
      clear hE
      go_wp2_with fail
      refine (dec_any z wr (by omega) (by omega)).mono ?_
      rintro e' w1 ⟨rfl, hb1⟩
      rw [← HE.out]
      have HB1 := Lib.hid (HB.out.trans (hb1.mono HB.out.size))
      clear hb1 HB
      go_wp2_with fail
      go_roundw
      case rel => exact ⟨j + 1, by omega, by go_num, by rw [HS.out], HT2, HB1⟩
      case measure => simp [intOf]; omega
    · have hjj : j = zs.length := by omega
      subst hjj
      have HF : Hid (digS zs = dig (zs.take zs.length) ∧ digOk zs = true) := by
        have := HT.out
        rw [List.take_length] at this
        refine ⟨?_, this⟩
        unfold digS
        rw [show digOk zs = true from this, List.take_length]
        rfl
      obtain ⟨D, hD⟩ : ∃ D, D = dig (zs.take zs.length) := ⟨_, rfl⟩
      rw [← hD] at HF ⊢
      clear hD
      go_wp2_with fail
      refine bodyPost_ret (v := .tuple #[.string D, .bool true]) (by simp [results, Try.results40, go_sem]) rfl ?_
      exact ⟨by rw [HF.out.1, HF.out.2], HB.out⟩

theorem Try.info5 : (Try.prog.info? 5).map (fun i => (i.zero, i.size, i.bytes)) = some (some (.int .u8 0), 1, 1) := by kernel_rfl

set_option maxHeartbeats 400000 in
set_option maxRecDepth 100000 in
theorem implDig_any (zs : List Int) (A : Option Addr) (cap b off : Nat) (w : World) (hl : zs.length ≤ 1048576) (hI : Ints w w.heap.size A b off zs) :
    Calls Try.prog 41 #[.slice A zs.length cap] w (DigPost zs w) := by
  have HI := Lib.hid hI
  clear hI
  obtain ⟨i0, hi0, hz0, hz1, hz2⟩ := info_parts Try.info5
  have hmk := run_make_of (P := Try.prog) 59 5 i0 _ Try.underlying59 hi0 hz0 zs.length (by rw [hz2]; omega) (by omega)
  rw [hz1] at hmk
  clear hi0 hz0 hz1 hz2
  obtain ⟨cs, hcs⟩ : ∃ cs, cs = madeCells (Value.cells (.int .u8 0)) (zs.length * 1) := ⟨_, rfl⟩
  have hsz : cs.size = zs.length := by rw [hcs, size_madeCells]; omega
  rw [← hcs] at hmk
  have HSZ := Lib.hid hsz
  clear hcs hsz
  go_enter Try.func41, Try.ntmps41
  go_wp2_with fail
  go_loopw [12] (fun i wl => ∃ j : Nat, j ≤ zs.length ∧ i = .int .i64 j ∧ Hid (∃ ds : Array Value, Row wl w.heap.size 5 ds ∧ ds.size = zs.length ∧ ∀ (q : Nat) (z : Int), zs[q]? = some z → q < j → ds[q]? = some (.int .u8 (48 + z))) ∧ Hid ((zs.take j).all digIn = true) ∧ Hid (Below w.heap.size w wl)) (fun i _ => zs.length - (intOf i).toNat)
  case atStart => exact ⟨0, Nat.zero_le _, rfl, ⟨cs, Row.new _ _ _, HSZ.out, fun _ _ _ h => absurd h (Nat.not_lt_zero _)⟩, rfl, (Below.refl _ _).alloc (Nat.le_refl _) _⟩
  case round =>
    clear hmk
    obtain ⟨j, hj, rfl, HL, HT, HB⟩ := hrel
    by_cases hlt : j < zs.length
    · obtain ⟨z, hz⟩ : ∃ z, zs[j]? = some z := ⟨_, List.getElem?_eq_getElem hlt⟩
      obtain ⟨rfl, hb, g0⟩ := HI.out.under HB.out HB.out.size j z hz
      have HZ := Lib.hid hz
      by_cases hz0 : z < 0
      · have HF := Lib.hid (digOk_false HZ.out (digIn_neg hz0))
        clear hz
        go_wp2_with fail
        refine bodyPost_ret (v := .tuple #[.string ⟨#[]⟩, .bool false]) (by simp [results, Try.results41, go_sem]) rfl ?_
        exact ⟨by rw [HF.out.1, HF.out.2], HB.out⟩
      by_cases hz1 : 9 < z
      · have HF := Lib.hid (digOk_false HZ.out (digIn_big hz1))
        clear hz
        go_wp2_with fail
        refine bodyPost_ret (v := .tuple #[.string ⟨#[]⟩, .bool false]) (by simp [results, Try.results41, go_sem]) rfl ?_
        exact ⟨by rw [HF.out.1, HF.out.2], HB.out⟩
      have HT2 : Hid ((zs.take (j + 1)).all digIn = true) := by show _ = _; rw [dig_take_succ HZ.out, HT.out, digIn_of hz0 hz1]; rfl
      obtain ⟨ds, hr, hs, hk⟩ := HL.out
      obtain ⟨u0, c0⟩ : ∃ u0, wr.cell? ⟨w.heap.size, j, none⟩ = some u0 := ⟨ds[j], by rw [hr.cell]; exact Array.getElem?_eq_getElem _⟩
      have f0 := hr.frozen j
      have HST : Hid (∃ ds : Array Value, Row (wr.setCell ⟨w.heap.size, j, none⟩ (.int .u8 (48 + z))) w.heap.size 5 ds ∧ ds.size = zs.length ∧ ∀ (q : Nat) (z : Int), zs[q]? = some z → q < j + 1 → ds[q]? = some (.int .u8 (48 + z))) := by
        refine ⟨ds.setIfInBounds j (.int .u8 (48 + z)), hr.set_ _ _, by simpa using hs, fun i y hy hi => ?_⟩
        rw [Array.getElem?_setIfInBounds]
        by_cases e : j = i
        · subst e
          rw [hz] at hy
          injection hy with hy
          subst hy
          rw [if_pos rfl, if_pos (by omega)]
        · rw [if_neg e]
          exact hk i y hy (by omega)
      have w1 : IntKind.u8.wrap z = z ∧ IntKind.u8.wrap (48 + z) = 48 + z := by
        have : z = 0 ∨ z = 1 ∨ z = 2 ∨ z = 3 ∨ z = 4 ∨ z = 5 ∨ z = 6 ∨ z = 7 ∨ z = 8 ∨ z = 9 := by omega
        rcases this with h | h | h | h | h | h | h | h | h | h <;> subst h <;> exact ⟨rfl, rfl⟩
      obtain ⟨e1, e2⟩ := w1
      clear hr hs hk HL hz
      go_wp2_with fail
      go_roundw
      case rel => exact ⟨j + 1, by omega, by go_num, HST, HT2, HB.out.setCell (Nat.le_refl _) _⟩
      case measure => simp [intOf]; omega
    · have hjj : j = zs.length := by omega
      subst hjj
      have HF : Hid (digS zs = dig zs ∧ digOk zs = true) := by
        have := HT.out
        rw [List.take_length] at this
        refine ⟨?_, this⟩
        unfold digS
        rw [show digOk zs = true from this]
        rfl
      have hconv := run_convert_bytes_arg (P := Try.prog) wr 59 5 Try.underlying59 Try.underlying5 w.heap.size 0 zs.length zs.length (zs.map fun z => 48 + z) (by simp) (fun i hi => by
        obtain ⟨ds, hr, hs, hk⟩ := HL.out
        rw [hr.cell, Nat.zero_add, hk i _ (List.getElem?_eq_getElem hi) hi]
        simp [List.getD, hi]) 9 Try.underlying9
      rw [show strOfNums (zs.map fun z => 48 + z) = dig zs from rfl] at hconv
      obtain ⟨D, hD⟩ : ∃ D, D = dig zs := ⟨_, rfl⟩
      rw [← hD] at HF hconv
      clear hD
      go_wp2_with fail
      refine bodyPost_ret (v := .tuple #[.string D, .bool true]) (by simp [results, Try.results41, go_sem]) rfl ?_
      exact ⟨by rw [HF.out.1, HF.out.2], HB.out⟩

end Go.Proofs.Ytiaejomdkkhimaa

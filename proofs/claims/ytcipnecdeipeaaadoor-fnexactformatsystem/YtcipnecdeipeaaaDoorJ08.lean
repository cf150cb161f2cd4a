/- Joined texts: NlP, Nl4. Nothing is assumed. -/
import Derived.Test.YtcipnecdeipeaaaDoorNu
import Derived.Test.YtcipnecdeipeaaaDoorJ02
import Derived.Test.YtcipnecdeipeaaaDoorFtNQ
namespace Go.Proofs.YtcipnecdeipeaaaDoor
open Go.RowKit

/-- A word and the numbers behind it. -/
def wordB (word : ByteArray) (zs : List Int) : ByteArray := zs.foldl (fun o z => o ++ ((⟨#[32]⟩ : ByteArray) ++ numB z.toNat)) word
def lineN (word : ByteArray) (zs : List Int) : ByteArray := wordB word zs ++ (⟨#[10]⟩ : ByteArray)
theorem wordB_take {word : ByteArray} {zs : List Int} {j : Nat} {z : Int} (h : zs[j]? = some z) : wordB word (zs.take (j + 1)) = wordB word (zs.take j) ++ ((⟨#[32]⟩ : ByteArray) ++ numB z.toNat) := by
  have hi := (List.getElem?_eq_some_iff.1 h).1
  unfold wordB
  rw [List.take_succ_eq_append_getElem hi, (List.getElem?_eq_some_iff.1 h).2, List.foldl_append]
  rfl
theorem wordB_append (word : ByteArray) (xs ys : List Int) : wordB word (xs ++ ys) = wordB (wordB word xs) ys := List.foldl_append ..
/-- The numbers have at most two digits. -/
def SmallN (zs : List Int) : Prop := ∀ z, z ∈ zs → 0 ≤ z ∧ z < 100
theorem numB_2 {z : Int} (h : 0 ≤ z ∧ z < 100) : (numB z.toNat).size ≤ 2 := numB_size 1 _ (by omega)
theorem wordB_size {word : ByteArray} : ∀ {zs : List Int}, SmallN zs → (wordB word zs).size ≤ word.size + 3 * zs.length := by
  intro zs
  induction zs generalizing word with
  | nil => intro _; simp [wordB]
  | cons a r ih =>
    intro h
    have h1 := ih (word := word ++ ((⟨#[32]⟩ : ByteArray) ++ numB a.toNat)) fun z hz => h z (List.mem_cons_of_mem _ hz)
    have h2 := numB_2 (h a List.mem_cons_self)
    rw [ByteArray.size_append, ByteArray.size_append] at h1
    have h3 : ((⟨#[32]⟩ : ByteArray)).size = 1 := rfl
    show (wordB (word ++ ((⟨#[32]⟩ : ByteArray) ++ numB a.toNat)) r).size ≤ _
    simp only [List.length_cons]
    omega
theorem SmallN.take {zs : List Int} (h : SmallN zs) (j : Nat) : SmallN (zs.take j) := fun z hz => h z (List.mem_of_mem_take hz)

end Go.Proofs.YtcipnecdeipeaaaDoor
namespace Go.Proofs.YtcipnecdeipeaaaDoor
open Go.RowKit

set_option maxHeartbeats 400000 in
set_option maxRecDepth 100000 in
theorem numLine4_any (word : ByteArray) (zs : List Int) (A : Option Addr) (cap b off : Nat) (w : World) (hl : zs.length ≤ 1048576) (hI : Ints w w.heap.size A b off zs) (hw : word.size ≤ 1048576) (hz : SmallN zs) (h4 : ∀ z ∈ zs, z ≤ 4) :
    Calls Tryd.prog 17 #[.string word, .slice A zs.length cap] w fun e' w' => e' = .returned (.string (lineN word zs)) ∧ Below w.heap.size w w' := by
  have HI := Lib.hid hI
  have HZ := Lib.hid hz
  have H4 := Lib.hid h4
  have HF : Hid (lineN word zs = wordB word zs ++ (⟨#[10]⟩ : ByteArray)) := rfl
  clear hI hz h4
  go_enter Tryd.func17, Tryd.ntmps17
  go_wp2_with fail
  go_loopw [5, 11] (fun o i wl => ∃ j : Nat, j ≤ zs.length ∧ i = .int .i64 j ∧ o = .string (wordB word (zs.take j)) ∧ Hid (Below w.heap.size w wl)) (fun _ i _ => zs.length - (intOf i).toNat)
  case atStart => exact ⟨0, Nat.zero_le _, rfl, rfl, Below.refl _ _⟩
  case round =>
    obtain ⟨j, hj, rfl, rfl, HB⟩ := hrel
    by_cases hlt : j < zs.length
    · obtain ⟨z, hz⟩ : ∃ z, zs[j]? = some z := ⟨_, List.getElem?_eq_getElem hlt⟩
      obtain ⟨rfl, hb, c0⟩ := HI.out.under HB.out HB.out.size j z hz
      have hzz := HZ.out z (List.mem_of_getElem? hz)
      obtain ⟨k, rfl⟩ := Int.eq_ofNat_of_zero_le hzz.1
      have hk : k < 100 := by omega
      have hk4 := H4.out _ (List.mem_of_getElem? hz)
      have HS := Lib.hid (wordB_take (word := word) hz)
      have hD : (wordB word (zs.take j)).size ≤ 4194305 := by
        have := wordB_size (word := word) (HZ.out.take j)
        rw [List.length_take] at this
        omega
      have hE : (numB k).size ≤ 2 := numB_size 1 _ (by omega)
      rw [Int.toNat_natCast] at HS
      obtain ⟨D, hDd⟩ : ∃ D, D = wordB word (zs.take j) := ⟨_, rfl⟩
      rw [← hDd] at hD HS ⊢
      obtain ⟨E, hEd⟩ : ∃ E, E = numB k := ⟨_, rfl⟩
      rw [← hEd] at hE HS
      have HE := Lib.hid hEd
      clear hz hDd hEd
      go_wp2_with fail
      refine (itoa_any (k : Int) _ hzz.1 hk4).mono ?_
      rintro e' w1 ⟨rfl, hb1⟩
      have HB1 := Lib.hid (HB.out.trans (hb1.mono HB.out.size))
      rw [show strOfNums [48 + (k : Int)] = E by rw [HE.out, numB_lt (by omega)]]
      clear hb1 c0
      go_wp2_with fail
      go_roundw
      case rel => exact ⟨j + 1, by omega, by go_num, by rw [HS.out], HB1⟩
      case measure => simp [intOf]; omega
    · have hjj : j = zs.length := by omega
      subst hjj
      have hD : (wordB word (zs.take zs.length)).size ≤ 4194305 := by
        have := wordB_size (word := word) (HZ.out.take zs.length)
        rw [List.length_take] at this
        omega
      have HF2 : Hid (wordB word (zs.take zs.length) ++ (⟨#[10]⟩ : ByteArray) = lineN word zs) := by show _ = _; rw [HF.out, List.take_length]
      obtain ⟨D, hDd⟩ : ∃ D, D = wordB word (zs.take zs.length) := ⟨_, rfl⟩
      rw [← hDd] at hD HF2 ⊢
      clear hDd
      go_wp2_with fail
      go_ret
      exact ⟨ret_string HF2.out, HB.out⟩

end Go.Proofs.YtcipnecdeipeaaaDoor

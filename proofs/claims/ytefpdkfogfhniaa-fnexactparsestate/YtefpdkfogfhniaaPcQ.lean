/- Where a text is cut at slashes; the walks of spec.l16Cut, internal/stringslite.IndexByte, Index and Cut, and strings.Cut at a slash. -/
import Derived.Test.YtefpdkfogfhniaaPnQ
import Derived.Laws.Externs
import Derived.IntWalk
import Derived.Lib.Strings
import Derived.Deep.RegionWith
namespace Go.Proofs.Ytefpdkfogfhniaa
open Go.RowKit

/-- How many slashes there are among the first bytes. -/
def cnt47 (s : ByteArray) : Nat → Nat
  | 0 => 0
  | i + 1 => cnt47 s i + if s[i]! = 47 then 1 else 0
/-- The first slash. -/
def First (s : ByteArray) (p : Nat) : Prop := p < s.size ∧ s[p]! = 47 ∧ ∀ i, i < p → s[i]! ≠ 47

theorem cnt47_le (s : ByteArray) (i : Nat) : cnt47 s i ≤ i := by
  induction i with
  | zero => exact Nat.le_refl _
  | succ i ih => simp only [cnt47]; split <;> omega
theorem cnt47_pos {s : ByteArray} {p : Nat} (h : s[p]! = 47) : ∀ i, p < i → 1 ≤ cnt47 s i := by
  intro i
  induction i with
  | zero => intro h; omega
  | succ i ih =>
    intro hi
    simp only [cnt47]
    by_cases e : p = i
    · subst e; rw [if_pos h]; omega
    · have := ih (by omega); omega
theorem cnt47_none {s : ByteArray} : ∀ i, (∀ q, q < i → s[q]! ≠ 47) → cnt47 s i = 0 := by
  intro i
  induction i with
  | zero => intro _; rfl
  | succ i ih =>
    intro h
    simp only [cnt47]
    rw [ih fun q hq => h q (by omega), if_neg (h i (by omega))]
theorem first_cases (s : ByteArray) : (firstIdx s 47 = -1 ∧ ∀ i, i < s.size → s[i]! ≠ 47) ∨ ∃ p : Nat, firstIdx s 47 = p ∧ First s p := by
  unfold firstIdx
  cases h : (List.range s.size).find? fun i => s[i]! == 47 with
  | none =>
    left
    refine ⟨rfl, fun i hi => ?_⟩
    rw [List.find?_eq_none] at h
    have := h i (List.mem_range.2 hi)
    simpa using this
  | some p =>
    right
    rw [List.find?_range_eq_some] at h
    obtain ⟨h1, h2, h3⟩ := h
    refine ⟨p, rfl, List.mem_range.1 h2, by simpa using h1, fun i hi => ?_⟩
    have := h3 i hi
    simpa using this

/-- Before byte i these pieces have been cut off, and the next one begins at fr. -/
def CutInv (s : ByteArray) (i fr : Nat) (done : List ByteArray) : Prop :=
  (i ≤ s.size ∧ fr ≤ i ∧ done.length = cnt47 s i ∧ ∀ p, First s p → (i ≤ p → done = [] ∧ fr = 0) ∧ (p < i → cnt47 s i = 1 → done = [s.extract 0 p] ∧ fr = p + 1)) ∨
  (i = s.size + 1 ∧ done.length = cnt47 s s.size + 1 ∧ ∀ p, First s p → cnt47 s s.size = 1 → done = [s.extract 0 p, s.extract (p + 1) s.size])

theorem CutInv.start (s : ByteArray) : CutInv s 0 0 [] := .inl ⟨Nat.zero_le _, Nat.le_refl _, rfl, fun p _ => ⟨fun _ => ⟨rfl, rfl⟩, fun h => by omega⟩⟩
theorem CutInv.fr_le {s : ByteArray} {i fr : Nat} {done : List ByteArray} (h : CutInv s i fr done) (hi : i ≤ s.size) : fr ≤ i ∧ done.length ≤ s.size := by
  rcases h with ⟨h1, h2, h3, _⟩ | ⟨h1, _⟩
  · exact ⟨h2, by have := cnt47_le s i; omega⟩
  · omega
theorem CutInv.other {s : ByteArray} {i fr : Nat} {done : List ByteArray} (h : CutInv s i fr done) (hi : i < s.size) (hc : s[i]! ≠ 47) : CutInv s (i + 1) fr done := by
  rcases h with ⟨h1, h2, h3, h4⟩ | ⟨h1, _⟩
  · have e : cnt47 s (i + 1) = cnt47 s i := by simp only [cnt47]; rw [if_neg hc]; omega
    refine .inl ⟨by omega, by omega, by rw [e]; exact h3, fun p hp => ⟨fun h => (h4 p hp).1 (by omega), fun h h' => (h4 p hp).2 ?_ (by rw [← e]; exact h')⟩⟩
    by_cases e2 : p = i
    · subst e2; exact absurd hp.2.1 hc
    · omega
  · omega
theorem CutInv.slash {s : ByteArray} {i fr : Nat} {done : List ByteArray} (h : CutInv s i fr done) (hi : i < s.size) (hc : s[i]! = 47) : CutInv s (i + 1) (i + 1) (done ++ [s.extract fr i]) := by
  rcases h with ⟨h1, h2, h3, h4⟩ | ⟨h1, _⟩
  · have e : cnt47 s (i + 1) = cnt47 s i + 1 := by simp only [cnt47]; rw [if_pos hc]
    refine .inl ⟨by omega, Nat.le_refl _, by rw [e, List.length_append, h3]; rfl, fun p hp => ⟨fun h => absurd hc (hp.2.2 i (by omega)), fun h h' => ?_⟩⟩
    have hz : cnt47 s i = 0 := by omega
    have hpi : i = p := by
      by_cases e2 : p < i
      · have := cnt47_pos hp.2.1 i e2; omega
      · omega
    subst hpi
    obtain ⟨rfl, rfl⟩ := (h4 i hp).1 (Nat.le_refl _)
    exact ⟨rfl, rfl⟩
  · omega
theorem CutInv.finish {s : ByteArray} {fr : Nat} {done : List ByteArray} (h : CutInv s s.size fr done) (x : Nat) : CutInv s (s.size + 1) x (done ++ [s.extract fr s.size]) := by
  rcases h with ⟨h1, h2, h3, h4⟩ | ⟨h1, _⟩
  · refine .inr ⟨rfl, by rw [List.length_append, h3]; rfl, fun p hp h' => ?_⟩
    obtain ⟨rfl, rfl⟩ := (h4 p hp).2 hp.1 h'
    rfl
  · omega

theorem Try.info9 : (Try.prog.info? 9).map (fun i => (i.zero, i.size, i.bytes)) = some (some (.string ⟨#[]⟩), 1, 16) := by kernel_rfl

/-- What l16Cut leaves. -/
def CutPost (s : ByteArray) (w : World) (e' : Ending) (w' : World) : Prop :=
  ∃ (done : List ByteArray) (g cap : Nat) (cs : Array Value), e' = .returned (.slice (some ⟨g, 0, none⟩) done.length cap) ∧ done.length = cnt47 s s.size + 1 ∧ (∀ p, First s p → cnt47 s s.size = 1 → done = [s.extract 0 p, s.extract (p + 1) s.size]) ∧ w.heap.size ≤ g ∧ Row w' g 9 cs ∧ (∀ (i : Nat) (t : ByteArray), done[i]? = some t → cs[i]? = some (Value.string t)) ∧ Below w.heap.size w w'

theorem rowS_of_owns {w : World} {base : Nat} {g n cap : Nat} {xs : List Value} (h : w.ownsRow base 9 1 (.slice (some ⟨g, 0, none⟩) n cap) n xs) : ∃ cs : Array Value, base ≤ g ∧ Row w g 9 cs ∧ ∀ (i : Nat) (u : Value), xs[i]? = some u → cs[i]? = some u := by
  rcases h.2 with ⟨h1, _⟩ | ⟨g', cap', cur, hv, hb, hh, _, _, _, ht⟩
  · cases h1
  · injection hv with e1 e2 e3
    injection e1 with e1
    injection e1 with e1
    subst e1
    refine ⟨cur, hb, hh, fun i u hu => ?_⟩
    rw [← ht, List.getElem?_take] at hu
    split at hu
    · simpa using hu
    · cases hu

set_option maxHeartbeats 1000000 in
set_option maxRecDepth 100000 in
theorem cutS_any (s : ByteArray) (w : World) (hs : s.size ≤ 1048576) : Calls Try.prog 33 #[.string s, .int .u8 47] w (CutPost s w) := by
  obtain ⟨i0, hi0, hz0, hz1, hz2⟩ := info_parts Try.info9
  go_enter Try.func33, Try.ntmps33
  go_wp2_with fail
  go_loopw [5, 6, 7] (fun o f i wl => ∃ (k fr g cap : Nat) (done : List ByteArray), k ≤ s.size + 1 ∧ o = .slice (some ⟨g, 0, none⟩) done.length cap ∧ f = .int .i64 fr ∧ i = .int .i64 k ∧ Hid (CutInv s k fr done) ∧ Hid (wl.ownsRow w.heap.size 9 1 (.slice (some ⟨g, 0, none⟩) done.length cap) done.length (done.map Value.string)) ∧ Hid (Below w.heap.size w wl)) (fun _ _ i _ => s.size + 1 - (intOf i).toNat)
  case atStart =>
    exact ⟨0, 0, w.heap.size, 0, [], Nat.zero_le _, rfl, rfl, rfl, CutInv.start s, ⟨rfl, .inr ⟨w.heap.size, 0, #[], rfl, Nat.le_refl _, Row.new w _ _, Nat.le_refl _, Nat.zero_le _, rfl, rfl⟩⟩, (Below.refl _ _).alloc (Nat.le_refl _) _⟩
  case round =>
    obtain ⟨k, fr, g, cap, done, hk, rfl, rfl, rfl, HI, HO, HB⟩ := hrel
    have hzw : w.heap.size ≤ wr.heap.size := HB.out.size
    by_cases hle : k ≤ s.size
    · obtain ⟨hfr, hdl⟩ := HI.out.fr_le hle
      have HAp : Hid (∀ (v' : Value) (w1 : World) (t : ByteArray) (o : Obj), w1.ownsRow w.heap.size 9 1 v' (done.length + 1) (done.map Value.string ++ [Value.string t]) → (wr.alloc o).grownBy w1 (Value.slice (some ⟨g, 0, none⟩) done.length cap).ownBlock →
          ∃ g1 cap1, v' = .slice (some ⟨g1, 0, none⟩) (done ++ [t]).length cap1 ∧ w1.ownsRow w.heap.size 9 1 (.slice (some ⟨g1, 0, none⟩) (done ++ [t]).length cap1) (done ++ [t]).length ((done ++ [t]).map Value.string) ∧ Below w.heap.size w w1) := fun v' w1 t o hown' hgrow => by
        obtain ⟨g1, cap1, rfl⟩ : ∃ g1 cap1, v' = .slice (some ⟨g1, 0, none⟩) (done.length + 1) cap1 := by
          rcases hown'.2 with ⟨_, h0⟩ | ⟨g1, cap1, _, hv, _⟩
          · omega
          · exact ⟨g1, cap1, hv⟩
        refine ⟨g1, cap1, by rw [List.length_append]; rfl, by rw [List.length_append, List.map_append]; exact hown', (HB.out.alloc HB.out.size o).grown hgrow (by simp; omega) (fun q hq => ?_)⟩
        have e : g = q := by simpa [Value.ownBlock] using hq
        subst e
        obtain ⟨_, hg0, _, _⟩ := rowS_of_owns HO.out
        exact hg0
      by_cases hlt : k < s.size
      · have hget : s[k]! = s[k] := getElem!_pos s k hlt
        by_cases hc : s[k].toNat = 47
        · have hcI : (s[k].toNat : Int) = 47 := by omega
          have hkn : ¬ ((k : Int) = (s.size : Int)) := by omega
          have HN := Lib.hid (HI.out.slash hlt (by rw [hget]; exact UInt8.toNat_inj.1 hc))
          go_wp2_with (at_builtin; refine wpList_append_own _ rfl (.tmp 26) (.tmp 31) 60 rfl w.heap.size 9 i0 (.string ⟨#[]⟩) 1 16 Try.underlying60 hi0 hz0 hz1 hz2 rfl (by decide) (.slice (some ⟨g, 0, none⟩) done.length cap) done.length _ rfl (HO.out.alloc _) ⟨wr.heap.size, 0, none⟩ 1 1 [.string (s.extract fr k)] rfl rfl (cell_one_new _ _ _) (by simp [Value.oneCell']) (by unfold maxLen; omega) (by omega) (by simp; omega) ?_; intro v' w1 hown' hgrow hnil)
          obtain ⟨g1, cap1, rfl, ho1, hb1⟩ := HAp.out v' w1 _ _ hown' hgrow
          have HO1 := Lib.hid ho1
          have HB1 := Lib.hid hb1
          clear hown' hgrow hnil HO HB ho1 hb1 HAp
          go_wp2_with fail
          go_roundw
          case rel => exact ⟨k + 1, k + 1, g1, cap1, done ++ [s.extract fr k], by omega, rfl, by go_num, by go_num, HN, HO1, HB1⟩
          case measure => simp [intOf]; omega
        · have hcB : ((s[k].toNat : Int) == 47) = false := by rw [beq_eq_false_iff_ne]; omega
          have hkB : ((k : Int) == (s.size : Int)) = false := by rw [beq_eq_false_iff_ne]; omega
          have HN := Lib.hid (HI.out.other hlt (by rw [hget]; exact fun h => hc (by rw [h]; rfl)))
          clear hc hget
          go_wp2_with fail
          go_roundw
          case rel => exact ⟨k + 1, fr, g, cap, done, by omega, rfl, rfl, by go_num, HN, HO, HB⟩
          case measure => simp [intOf]; omega
      · have hkk : k = s.size := by omega
        subst hkk
        have HN := Lib.hid (HI.out.finish (s.size + 1))
        go_wp2_with (at_builtin; refine wpList_append_own _ rfl (.tmp 26) (.tmp 31) 60 rfl w.heap.size 9 i0 (.string ⟨#[]⟩) 1 16 Try.underlying60 hi0 hz0 hz1 hz2 rfl (by decide) (.slice (some ⟨g, 0, none⟩) done.length cap) done.length _ rfl (HO.out.alloc _) ⟨wr.heap.size, 0, none⟩ 1 1 [.string (s.extract fr s.size)] rfl rfl (cell_one_new _ _ _) (by simp [Value.oneCell']) (by unfold maxLen; omega) (by omega) (by simp; omega) ?_; intro v' w1 hown' hgrow hnil)
        obtain ⟨g1, cap1, rfl, ho1, hb1⟩ := HAp.out v' w1 _ _ hown' hgrow
        have HO1 := Lib.hid ho1
        have HB1 := Lib.hid hb1
        clear hown' hgrow hnil HO HB ho1 hb1 HAp
        go_wp2_with fail
        go_roundw
        case rel => exact ⟨s.size + 1, s.size + 1, g1, cap1, done ++ [s.extract fr s.size], by omega, rfl, by first | rfl | go_num, by first | rfl | go_num, HN, HO1, HB1⟩
        case measure => simp [intOf]
    · have hkk : k = s.size + 1 := by omega
      subst hkk
      have HF : Hid (CutPost s w (.returned (.slice (some ⟨g, 0, none⟩) done.length cap)) wr) := by
        obtain ⟨cs, h1, h2, h3⟩ := rowS_of_owns HO.out
        rcases HI.out with ⟨h, _⟩ | ⟨_, q1, q2⟩
        · omega
        · refine ⟨done, g, cap, cs, rfl, q1, q2, h1, h2, fun i t ht => h3 i _ ?_, HB.out⟩
          rw [List.getElem?_map, ht]
          rfl
      go_wp2_with fail
      go_ret
      exact HF.out

set_option maxHeartbeats 400000 in
set_option maxRecDepth 100000 in
theorem indexByte_any (s : ByteArray) (w : World) : Calls Try.prog 78 #[.string s, .int .u8 47] w fun e' w' => e' = .returned (.int .i64 (firstIdx s 47)) ∧ w = w' := by
  go_enter Try.func78, Try.ntmps78
  go_wp2_with fail
  rw [run_callFunc_extern Try.func94 (by kernel_rfl) (by kernel_rfl) (by kernel_rfl) (e := Extern.BytealgIndexByte.indexByte) (by kernel_rfl), run_indexByte_string]
  simp only [Result.andThen]
  rw [Oper.upon_value]
  go_wp2_with fail
  go_ret
  exact ⟨rfl, rfl⟩

set_option maxHeartbeats 400000 in
set_option maxRecDepth 100000 in
theorem index_any (s : ByteArray) (w : World) (h2 : 2 ≤ s.size) (hs : s.size ≤ 1048576) : Calls Try.prog 69 #[.string s, .string ⟨#[47]⟩] w fun e' w' => e' = .returned (.int .i64 (firstIdx s 47)) ∧ w = w' := by
  have hne : ([47] == s.toList) = false := by
    rw [beq_eq_false_iff_ne, Lib.toList_data]
    intro h
    have h3 := congrArg List.length h
    have h4 : s.data.toList.length = s.size := Array.length_toList
    rw [h4] at h3
    simp at h3
    omega
  go_enter Try.func69, Try.ntmps69
  go_wp2_with fail
  refine (indexByte_any s w).mono ?_
  rintro e' w1 ⟨rfl, rfl⟩
  go_wp2_with fail
  go_ret
  exact ⟨rfl, rfl⟩

/-- What a cut at the first slash answers. -/
def cutA (s : ByteArray) : ByteArray := if firstIdx s 47 = -1 then s else s.extract 0 (firstIdx s 47).toNat
def cutB (s : ByteArray) : ByteArray := if firstIdx s 47 = -1 then ⟨#[]⟩ else s.extract ((firstIdx s 47).toNat + 1) s.size
def cutF (s : ByteArray) : Bool := decide (firstIdx s 47 ≠ -1)

set_option maxHeartbeats 400000 in
set_option maxRecDepth 100000 in
theorem cutL_any (s : ByteArray) (w : World) (h2 : 2 ≤ s.size) (hs : s.size ≤ 1048576) : Calls Try.prog 56 #[.string s, .string ⟨#[47]⟩] w fun e' w' => e' = .returned (.tuple #[.string (cutA s), .string (cutB s), .bool (cutF s)]) ∧ Below w.heap.size w w' := by
  have HI := Lib.hid (index_any s w h2 hs)
  rcases first_cases s with ⟨hf, _⟩ | ⟨p, hf, hp, _⟩
  · have HA : Hid (cutA s = s ∧ cutB s = ⟨#[]⟩ ∧ cutF s = false) := by refine ⟨?_, ?_, ?_⟩ <;> simp [cutA, cutB, cutF, hf]
    rw [hf] at HI
    clear hf
    go_enter Try.func56, Try.ntmps56
    go_wp2_with fail
    refine HI.out.mono ?_
    rintro e' w1 ⟨rfl, rfl⟩
    go_wp2_with fail
    refine bodyPost_ret (v := .tuple #[.string s, .string ⟨#[]⟩, .bool false]) (by simp [results, Try.results56, go_sem]) rfl ?_
    exact ⟨by rw [HA.out.1, HA.out.2.1, HA.out.2.2], Below.refl _ _⟩
  · have HA : Hid (cutA s = s.extract 0 p ∧ cutB s = s.extract (p + 1) s.size ∧ cutF s = true) := by
      have hn : ¬ ((p : Int) = -1) := by omega
      refine ⟨?_, ?_, ?_⟩ <;> simp [cutA, cutB, cutF, hf, hn]
    rw [hf] at HI
    have e1 : IntKind.i64.wrap ((p : Int) + 1) = (p : Int) + 1 := IntWalk.i64_in _ (by omega)
    have e2 : (0 : Int) ≤ (p : Int) + 1 := by omega
    have e3 : ((p : Int) + 1).toNat = p + 1 := by omega
    clear hf
    go_enter Try.func56, Try.ntmps56
    go_wp2_with fail
    refine HI.out.mono ?_
    rintro e' w1 ⟨rfl, rfl⟩
    go_wp2_with fail
    go_region
    all_goals
      (go_wp2_with fail
       refine bodyPost_ret (v := .tuple #[.string (s.extract 0 p), .string (s.extract (p + 1) s.size), .bool true]) (by simp [results, Try.results56, go_sem]) rfl ?_
       exact ⟨by rw [HA.out.1, HA.out.2.1, HA.out.2.2], (Below.refl _ _).drew⟩)

set_option maxHeartbeats 400000 in
set_option maxRecDepth 100000 in
theorem cut_any (s : ByteArray) (w : World) (h2 : 2 ≤ s.size) (hs : s.size ≤ 1048576) : Calls Try.prog 38 #[.string s, .string ⟨#[47]⟩] w fun e' w' => e' = .returned (.tuple #[.string (cutA s), .string (cutB s), .bool (cutF s)]) ∧ Below w.heap.size w w' := by
  obtain ⟨A, hA⟩ : ∃ X, X = cutA s := ⟨_, rfl⟩
  obtain ⟨B, hB⟩ : ∃ X, X = cutB s := ⟨_, rfl⟩
  obtain ⟨f, hf⟩ : ∃ X, X = cutF s := ⟨_, rfl⟩
  have HI := Lib.hid (cutL_any s w h2 hs)
  rw [← hA, ← hB, ← hf] at HI ⊢
  clear hA hB hf
  go_enter Try.func38, Try.ntmps38
  go_wp2_with fail
  refine HI.out.mono ?_
  rintro e' w1 ⟨rfl, hb1⟩
  have HB1 := Lib.hid hb1
  clear hb1
  go_wp2_with fail
  refine bodyPost_ret (v := .tuple #[.string A, .string B, .bool f]) (by simp [results, Try.results38, go_sem]) rfl ?_
  exact ⟨rfl, HB1.out⟩

end Go.Proofs.Ytefpdkfogfhniaa

/- The walks of spec.l8Pick and of impl.convert over numbers. -/
import Derived.Test.YtldnegacgjijlaaJ16
namespace Go.Proofs.Ytldnegacgjijlaa
open Go.RowKit

set_option maxHeartbeats 1000000 in
set_option maxRecDepth 100000 in
theorem specPick_any (ls at_ : List Int) (A : Option Addr) (cap b off : Nat) (A' : Option Addr) (cap' b' off' : Nat) (w : World) (hI : Ints w w.heap.size A b off ls) (hA : Ints w w.heap.size A' b' off' at_) (hls : ls.length ≤ 1048576) (hat : at_.length ≤ 1048576) (hin : ∀ z ∈ at_, inOk ls.length z = true) :
    Calls Try.prog 92 #[.slice A ls.length cap, .slice A' at_.length cap'] w (SpPost (pickL ls at_) w) := by
  have HI := Lib.hid hI
  have HA := Lib.hid hA
  have HIn := Lib.hid hin
  obtain ⟨n, hn⟩ : ∃ n, n = at_.length := ⟨_, rfl⟩
  obtain ⟨nl, hnl⟩ : ∃ n, n = ls.length := ⟨_, rfl⟩
  have HN := Lib.hid hn
  have HNl := Lib.hid hnl
  have hn8 : n ≤ 1048576 := by rw [hn]; exact hat
  have hl8 : nl ≤ 1048576 := by rw [hnl]; exact hls
  rw [← hn]
  rw [← hnl]
  obtain ⟨W2, hW2⟩ : ∃ W2, W2 = w.alloc (.cells #[] 3) := ⟨_, rfl⟩
  have HBx0 : Hid (Below w.heap.size w W2) := by rw [hW2]; exact (Below.refl _ _).alloc (Nat.le_refl _) _
  have HOw0 : Hid (OwV W2 w.heap.size (.slice (some ⟨w.heap.size, 0, none⟩) 0 0) ((pickL ls at_).take 0)) := by rw [hW2]; exact OwV.empty (Nat.le_refl _) (Row.new _ _ _)
  have HW2 := Lib.hid hW2
  clear hI hA hn hnl hls hat hin hW2
  go_enter Try.func92, Try.ntmps92
  go_wp2_with fail
  rw [← HW2.out]
  go_loopw [5, 6] (fun v i wl => ∃ j : Nat, j ≤ n ∧ i = .int .i64 j ∧ Hid (OwV wl w.heap.size v ((pickL ls at_).take j)) ∧ Hid (Below w.heap.size w wl)) (fun _ i _ => n - (intOf i).toNat)
  case atStart => exact ⟨0, Nat.zero_le _, rfl, HOw0, HBx0⟩
  case round =>
    obtain ⟨j, hj, rfl, HO, HB⟩ := hrel
    by_cases hlt : j < n
    · obtain ⟨k0, hs⟩ : ∃ z, at_[j]? = some z := ⟨_, List.getElem?_eq_getElem (by rw [← HN.out]; exact hlt)⟩
      obtain ⟨k, rfl, hk⟩ := inOk_nat (HIn.out k0 (List.mem_of_getElem? hs))
      obtain ⟨y, hy⟩ : ∃ y, ls[k]? = some y := ⟨_, List.getElem?_eq_getElem hk⟩
      obtain ⟨rfl, hba, c0⟩ := (HA.out.under HB.out HB.out.size) j _ hs
      obtain ⟨rfl, hbl, d0⟩ := (HI.out.under HB.out HB.out.size) k _ hy
      have hwr : w.heap.size ≤ wr.heap.size := HB.out.size
      have HTk : Hid ((pickL ls at_).take (j + 1) = (pickL ls at_).take j ++ [y]) := by show _ = _; rw [pick_take hs, Int.toNat_natCast, List.getD_eq_getElem?_getD, hy]; rfl
      have HLn : Hid (((pickL ls at_).take j).length ≤ 2097152) := by
        have h2 := pick_len ls at_
        show _ ≤ _
        rw [List.length_take]
        omega
      have hkI : (k : Int) < (nl : Int) := by rw [HNl.out]; omega
      have hkN : k < nl := by omega
      clear hs hy hk
      obtain ⟨w1, hw1⟩ : ∃ w1, w1 = wr := ⟨_, rfl⟩
      have HB1 : Hid (Below w.heap.size w w1) := by rw [hw1]; exact HB.out
      have HO1 : Hid (OwV w1 w.heap.size u5 ((pickL ls at_).take j)) := by rw [hw1]; exact HO.out
      subst hw1
      have hz1 : w.heap.size ≤ w1.heap.size := HB1.out.size
      obtain ⟨W3, hW3⟩ : ∃ W3, W3 = w1.alloc (.cells #[.int .i64 y] 3) := ⟨_, rfl⟩
      have hb3 : Below w1.heap.size w1 W3 := by rw [hW3]; exact (Below.refl _ _).alloc (Nat.le_refl _) _
      have HO3 := Lib.hid (HO1.out.under hb3)
      have HB3 : Hid (Below w.heap.size w W3) := HB1.out.trans (hb3.mono hz1)
      have hz3 : w.heap.size ≤ W3.heap.size := HB3.out.size
      have HZ3 : Hid (W3.cell? ⟨w1.heap.size, 0, none⟩ = some (.int .i64 y)) := by rw [hW3]; exact (Row.new w1 3 #[.int .i64 y]).cell 0
      have HW3 := Lib.hid hW3
      clear hb3 hW3 HB HO
      go_wp2_with (at_builtin; rw [← HW3.out]; refine wpList_push rfl (.tmp 14) (.tmp 22) rfl w.heap.size _ _ y w1.heap.size rfl rfl HO3.out HZ3.out HLn.out hz3 ?_; intro v' w4 hown hB4 hsz)
      have HO4 : Hid (OwV w4 w.heap.size v' ((pickL ls at_).take (j + 1))) := by show OwV _ _ _ _; rw [HTk.out]; exact hown
      have HB4 : Hid (Below w.heap.size w w4) := hB4 _ _ HB3.out (Nat.le_refl _)
      clear hown hB4 hsz
      go_wp2_with fail
      go_roundw
      case rel => exact ⟨j + 1, by omega, by go_num, HO4, HB4⟩
      case measure => simp [intOf]; omega
    · have hjj : j = n := by omega
      subst hjj
      have HF : Hid (SliceI wr w.heap.size (pickL ls at_) u5) := by
        have h := HO.out.slice (Nat.le_refl _)
        rw [List.take_of_length_le (by rw [pick_len, HN.out]; exact Nat.le_refl _)] at h
        exact h
      go_wp2_with fail
      go_ret
      exact ⟨_, rfl, HF.out, HB.out⟩

set_option maxHeartbeats 1000000 in
set_option maxRecDepth 100000 in
theorem cloW_any (ls : List Int) (k : Nat) (y : Int) (A : Option Addr) (nl cap b off bx : Nat) (w : World) (hI : Ints w w.heap.size A b off ls) (hy : ls[k]? = some y) (hn : nl = ls.length) (hbx : w.cell? ⟨bx, 0, none⟩ = some (.slice A nl cap)) :
    Calls Try.prog 95 #[.int .i64 k, .pointer (some ⟨bx, 0, none⟩)] w fun e' w' => e' = .returned (.int .i64 y) ∧ w = w' := by
  obtain ⟨rfl, hb, c0⟩ := hI k y hy
  have hk : k < nl := by rw [hn]; exact (List.getElem?_eq_some_iff.1 hy).1
  have hkI : (k : Int) < (nl : Int) := by omega
  clear hI hy hn
  go_enter Try.func95, Try.ntmps95
  go_wp2_with fail
  go_ret
  exact ⟨rfl, rfl⟩

set_option maxHeartbeats 1000000 in
set_option maxRecDepth 100000 in
theorem convI_any (ls at_ : List Int) (A : Option Addr) (cap b off bx : Nat) (A' : Option Addr) (cap' b' off' : Nat) (w : World) (hI : Ints w w.heap.size A b off ls) (hbx : w.cell? ⟨bx, 0, none⟩ = some (.slice A ls.length cap)) (hbb : bx < w.heap.size) (hA : Ints w w.heap.size A' b' off' at_) (hls : ls.length ≤ 1048576) (hat : at_.length ≤ 1048576) (hin : ∀ z ∈ at_, inOk ls.length z = true) :
    Calls Try.prog 96 #[.slice A' at_.length cap', .func (.func 95) #[] #[.pointer (some ⟨bx, 0, none⟩)]] w (SpPost (pickL ls at_) w) := by
  have HI := Lib.hid hI
  have HA := Lib.hid hA
  have HIn := Lib.hid hin
  obtain ⟨n, hn⟩ : ∃ n, n = at_.length := ⟨_, rfl⟩
  obtain ⟨nl, hnl⟩ : ∃ n, n = ls.length := ⟨_, rfl⟩
  have HN := Lib.hid hn
  have HNl := Lib.hid hnl
  have hn8 : n ≤ 1048576 := by rw [hn]; exact hat
  have hl8 : nl ≤ 1048576 := by rw [hnl]; exact hls
  rw [← hn]
  rw [← hnl] at hbx
  have HBk := Lib.hid hbx
  have HOw0 : Hid (OwV w w.heap.size (.slice none 0 0) ((pickL ls at_).take 0)) := OwV.nil _ _
  have HBx0 : Hid (Below w.heap.size w w) := Below.refl _ _
  clear hI hA hn hnl hls hat hin hbx
  go_enter Try.func96, Try.ntmps96
  go_wp2_with fail
  go_loopw [5, 10] (fun v i wl => ∃ j : Nat, j ≤ n ∧ i = .int .i64 j ∧ Hid (OwV wl w.heap.size v ((pickL ls at_).take j)) ∧ Hid (Below w.heap.size w wl)) (fun _ i _ => n - (intOf i).toNat)
  case atStart => exact ⟨0, Nat.zero_le _, rfl, HOw0, HBx0⟩
  case round =>
    obtain ⟨j, hj, rfl, HO, HB⟩ := hrel
    by_cases hlt : j < n
    · obtain ⟨k0, hs⟩ : ∃ z, at_[j]? = some z := ⟨_, List.getElem?_eq_getElem (by rw [← HN.out]; exact hlt)⟩
      obtain ⟨k, rfl, hk⟩ := inOk_nat (HIn.out k0 (List.mem_of_getElem? hs))
      obtain ⟨y, hy⟩ : ∃ y, ls[k]? = some y := ⟨_, List.getElem?_eq_getElem hk⟩
      obtain ⟨rfl, hba, c0⟩ := (HA.out.under HB.out HB.out.size) j _ hs
      obtain ⟨rfl, hbl, d0⟩ := (HI.out.under HB.out HB.out.size) k _ hy
      have hwr : w.heap.size ≤ wr.heap.size := HB.out.size
      have HTk : Hid ((pickL ls at_).take (j + 1) = (pickL ls at_).take j ++ [y]) := by show _ = _; rw [pick_take hs, Int.toNat_natCast, List.getD_eq_getElem?_getD, hy]; rfl
      have HLn : Hid (((pickL ls at_).take j).length ≤ 2097152) := by
        have h2 := pick_len ls at_
        show _ ≤ _
        rw [List.length_take]
        omega
      have hkI : (k : Int) < (nl : Int) := by rw [HNl.out]; omega
      have hkN : k < nl := by omega
      have hy0 := hy
      clear hs hy hk
      have HCl := Lib.hid (cloW_any ls k y (some ⟨b, off, none⟩) nl cap b off bx wr (HI.out.under HB.out HB.out.size) hy0 HNl.out ((HB.out.cell (p := ⟨bx, 0, none⟩) hbb).trans HBk.out))
      clear hy0
      go_wp2_with fail
      refine HCl.out.mono ?_
      rintro e' w1 ⟨rfl, rfl⟩
      have HB1 := HB
      have HO1 := HO
      have hz1 : w.heap.size ≤ wr.heap.size := HB1.out.size
      obtain ⟨W3, hW3⟩ : ∃ W3, W3 = wr.alloc (.cells #[.int .i64 y] 3) := ⟨_, rfl⟩
      have hb3 : Below wr.heap.size wr W3 := by rw [hW3]; exact (Below.refl _ _).alloc (Nat.le_refl _) _
      have HO3 := Lib.hid (HO1.out.under hb3)
      have HB3 : Hid (Below w.heap.size w W3) := HB1.out.trans (hb3.mono hz1)
      have hz3 : w.heap.size ≤ W3.heap.size := HB3.out.size
      have HZ3 : Hid (W3.cell? ⟨wr.heap.size, 0, none⟩ = some (.int .i64 y)) := by rw [hW3]; exact (Row.new wr 3 #[.int .i64 y]).cell 0
      have HW3 := Lib.hid hW3
      clear hb3 hW3 c0 d0 HB HO
      go_wp2_with (at_builtin; rw [← HW3.out]; refine wpList_push rfl (.tmp 14) (.tmp 18) rfl w.heap.size _ _ y wr.heap.size rfl rfl HO3.out HZ3.out HLn.out hz3 ?_; intro v' w4 hown hB4 hsz)
      have HO4 : Hid (OwV w4 w.heap.size v' ((pickL ls at_).take (j + 1))) := by show OwV _ _ _ _; rw [HTk.out]; exact hown
      have HB4 : Hid (Below w.heap.size w w4) := hB4 _ _ HB3.out (Nat.le_refl _)
      clear hown hB4 hsz
      go_wp2_with fail
      go_roundw
      case rel => exact ⟨j + 1, by omega, by go_num, HO4, HB4⟩
      case measure => simp [intOf]; omega
    · have hjj : j = n := by omega
      subst hjj
      have HF : Hid (SliceI wr w.heap.size (pickL ls at_) u5) := by
        have h := HO.out.slice (Nat.le_refl _)
        rw [List.take_of_length_le (by rw [pick_len, HN.out]; exact Nat.le_refl _)] at h
        exact h
      go_wp2_with fail
      go_ret
      exact ⟨_, rfl, HF.out, HB.out⟩


theorem specPickN_any (ls at_ : List Int) (n : Nat) (hn : n = at_.length) (A : Option Addr) (cap b off : Nat) (A' : Option Addr) (cap' b' off' : Nat) (w : World) (hI : Ints w w.heap.size A b off ls) (hA : Ints w w.heap.size A' b' off' at_) (hls : ls.length ≤ 1048576) (hat : at_.length ≤ 1048576) (hin : ∀ z ∈ at_, inOk ls.length z = true) :
    Calls Try.prog 92 #[.slice A ls.length cap, .slice A' n cap'] w (SpPost (pickL ls at_) w) := by
  subst hn
  exact specPick_any ls at_ A cap b off A' cap' b' off' w hI hA hls hat hin
theorem convIN_any (ls at_ : List Int) (n : Nat) (hn : n = at_.length) (A : Option Addr) (cap b off bx : Nat) (A' : Option Addr) (cap' b' off' : Nat) (w : World) (hI : Ints w w.heap.size A b off ls) (hbx : w.cell? ⟨bx, 0, none⟩ = some (.slice A ls.length cap)) (hbb : bx < w.heap.size) (hA : Ints w w.heap.size A' b' off' at_) (hls : ls.length ≤ 1048576) (hat : at_.length ≤ 1048576) (hin : ∀ z ∈ at_, inOk ls.length z = true) :
    Calls Try.prog 96 #[.slice A' n cap', .func (.func 95) #[] #[.pointer (some ⟨bx, 0, none⟩)]] w (SpPost (pickL ls at_) w) := by
  subst hn
  exact convI_any ls at_ A cap b off bx A' cap' b' off' w hI hbx hbb hA hls hat hin

end Go.Proofs.Ytldnegacgjijlaa

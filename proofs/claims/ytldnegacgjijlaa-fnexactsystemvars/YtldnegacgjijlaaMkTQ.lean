/- Marks of processes and systems. -/
import Derived.Test.YtldnegacgjijlaaMkSQ
namespace Go.Proofs.Ytldnegacgjijlaa
open Go.RowKit

set_option maxHeartbeats 1000000 in
set_option maxRecDepth 100000 in
theorem mkPrS_any (ps : List Pr) (C : Nat → Value) (m : Int) (lo hi : Nat) (w : World) (h : (Lay.pr.slice 97).sep w lo hi ps C) (hhi : hi ≤ w.heap.size) (hz : Lay.pr.szL ps ≤ 1048576) (hm0 : 0 ≤ m) (hm1 : m ≤ 1048577) :
    Calls Try.prog 59 #[C 0, .int .i64 m] w fun e' w' => ∃ M : Int, e' = .returned (.int .i64 M) ∧ m ≤ M ∧ M ≤ m + 8 * Lay.pr.szL ps ∧ Kept lo hi w w' := by
  obtain ⟨A, cap, g, cs, D, s, hC, hl, h3, h4, h5, h6⟩ := h
  rw [hC]
  have H6 := Lib.hid h6
  have H3 := Lib.hid h3
  have H4 := Lib.hid h4
  have H5 := Lib.hid h5
  have HZ := Lib.hid hz
  have HH := Lib.hid hhi
  have hlen : ps.length ≤ 1048576 := by have := Lay.pr.szL_length ps; omega
  clear hC hl h3 h4 h5 h6 hz hhi
  go_enter Try.func59, Try.ntmps59
  go_wp2_with fail
  go_loopw [1, 5] (fun mm i wl => ∃ (j : Nat) (M : Int), j ≤ ps.length ∧ i = .int .i64 j ∧ mm = .int .i64 M ∧ m ≤ M ∧ M ≤ 9437185 ∧ Hid (M ≤ m + 8 * Lay.pr.szL (ps.take j)) ∧ Hid (Tail g 97 (j * 2) w wl) ∧ Hid (Beyond g (s j) w wl) ∧ Hid (Kept lo hi w wl)) (fun _ i _ => ps.length - (intOf i).toNat)
  case atStart => exact ⟨0, m, Nat.zero_le _, rfl, rfl, Int.le_refl _, by omega, by show _ ≤ _; simp [Lay.szL], Tail.refl _ _ _ _, fun _ _ _ _ => rfl, Kept.refl _ _ _⟩
  case round =>
    obtain ⟨j, M, hj, rfl, rfl, hM0, hM1, HM, HT, HBy, HK⟩ := hrel
    by_cases hlt : j < ps.length
    · obtain ⟨x, hx⟩ : ∃ x, ps[j]? = some x := ⟨_, List.getElem?_eq_getElem hlt⟩
      obtain ⟨rfl, a2, a3, a4, a5, a6, a7⟩ := H6.out j x hx
      have hsj := mono_to H3.out j 0 (Nat.zero_le _) (by omega)
      have hsn := mono_to H3.out ps.length (j + 1) (by omega) (Nat.le_refl _)
      have hs1 := H3.out j hlt
      have hlo := H4.out
      have hhi := H5.out
      have hhw := HH.out
      have hks := HK.out.size
      obtain ⟨mid, o1, o2, q0, sv⟩ := a7
      have q0' : D j 0 = .int .i64 x.loc := q0
      obtain ⟨xa, xl, xc, ⟨_, q1⟩, _⟩ := pr_lit (Lay.pr.sep_lies (lo := s j) (hi := s (j + 1)) ⟨mid, o1, o2, q0, sv⟩)
      have hde : Lay.ed.szL x.es ≤ 1048576 := by have := Lay.pr.szL_mem hx; have := HZ.out; have := pr_sz x; omega
      have hTs := Lay.pr.szL_take_succ hx
      rw [pr_sz] at hTs
      obtain ⟨de, hde1⟩ : ∃ de : Nat, de = Lay.ed.szL x.es := ⟨_, rfl⟩
      rw [← hde1] at hTs hde
      have hMm : M + 1 + 8 * de ≤ m + 8 * Lay.pr.szL (ps.take (j + 1)) := by have := HM.out; omega
      have hMb : m + 8 * Lay.pr.szL (ps.take (j + 1)) ≤ 9437185 := by
        have h1 := Lay.pr.szL_take_len ps (j + 1)
        have h2 := HZ.out
        omega
      have HDe := Lib.hid hde1
      obtain ⟨cs', r1, e1, e2⟩ := HT.out cs a5
      have cell : ∀ q, q < 2 → wr.cell? ⟨g, j * 2 + q, none⟩ = some (D j q) := fun q hq => by
        rw [r1.cell, e2 _ (by omega)]
        exact a6 q hq
      have c0 : wr.cell? ⟨g, j * 2, none⟩ = some (.int .i64 x.loc) := by rw [← q0']; exact cell 0 (by omega)
      have c1 : wr.cell? ⟨g, j * 2 + 1, none⟩ = some (.slice xa xl xc) := by rw [← q1]; exact cell 1 (by omega)
      have z0 := r1.frozen (j * 2)
      have l0 := r1.lt
      have hgn : g < s j ∨ s (j + 1) ≤ g := by omega
      obtain ⟨W1, hW1⟩ : ∃ W1, W1 = wr.setCell ⟨g, j * 2, none⟩ (.int .i64 M) := ⟨_, rfl⟩
      have hS1 : W1.heap.size = wr.heap.size := by rw [hW1]; simp
      have hT1 : Tail g 97 ((j + 1) * 2) w W1 := by rw [hW1]; exact HT.out.set_ (m := (j + 1) * 2) (by omega) (by omega) _
      have hB1 : Beyond g (s j) w W1 := by rw [hW1]; exact HBy.out.set_ _
      have hK1 : Kept lo hi w W1 := by rw [hW1]; exact HK.out.trans (Kept.set_ lo hi _ a2 a3 _ _)
      have HSv1 : Hid ((Lay.ed.slice 101).sep W1 mid (s (j + 1)) x.es (fun _ => .slice xa xl xc)) :=
        (Lay.ed.slice _).sep_ext (C := fun q => D j (Lay.int.st + q)) (fun q hq => by
          have : q = 0 := by have : q < 1 := hq; omega
          subst this
          exact q1.symm) ((Lay.ed.slice _).sep_keep (fun q b1 b2 => hB1 q (by omega) (by omega) (by omega)) sv)
      have HT1 := Lib.hid hT1
      have HB1 := Lib.hid hB1
      have HK1 := Lib.hid hK1
      have HW1 := Lib.hid hW1
      have HMm := Lib.hid hMm
      clear hW1 hT1 hB1 hK1 sv a5 a6 e1 e2 cell r1 q0 q0' q1 hTs hMm hx hde1
      go_wp2_with fail
      rw [← HW1.out]
      refine (mkEdS_any x.es (fun _ => .slice xa xl xc) (M + 1) mid (s (j + 1)) _ HSv1.out (by omega) (by have := HDe.out; omega) (by omega) (by omega)).mono ?_
      rintro e' w2 ⟨M2, rfl, hm1', hm2', hk2⟩
      rw [← HDe.out] at hm2'
      have hz2 := hk2.size
      have HT2 := Lib.hid (HT1.out.kept hk2 (by omega))
      have HB2 := Lib.hid (HB1.out.kept (by omega) hk2 (m := s (j + 1)) hs1 (Nat.le_refl _))
      have HK2 := Lib.hid (HK1.out.trans (hk2.more (by omega) (by omega)))
      have HM2 : Hid (M2 ≤ m + 8 * Lay.pr.szL (ps.take (j + 1))) := by have := HMm.out; show _ ≤ _; omega
      have hM2b : M2 ≤ 9437185 := by have := HMm.out; omega
      clear hk2 c0 c1 z0
      go_wp2_with fail
      go_roundw
      case rel => exact ⟨j + 1, M2, by omega, by go_num, rfl, by omega, hM2b, HM2, HT2, HB2, HK2⟩
      case measure => simp [intOf]; omega
    · have hjj : j = ps.length := by omega
      subst hjj
      have HMf : Hid (M ≤ m + 8 * Lay.pr.szL ps) := by have := HM.out; rw [List.take_length] at this; exact this
      go_wp2_with fail
      go_ret
      exact ⟨M, rfl, hM0, HMf.out, HK.out⟩

set_option maxHeartbeats 400000 in
theorem mkSyB_any (s : Sy) (xa : Option Addr) (xl xc : Nat) (ya : Option Addr) (yl yc lo hi : Nat) (w : World) (h : Lay.sy.sep w lo hi s (fun j => (#[.slice xa xl xc, .slice ya yl yc] : Array Value).getD j undef)) (hhi : hi ≤ w.heap.size) (hz : Lay.sy.sz s ≤ 1048576) :
    Calls Try.prog 14 #[.agg #[.slice xa xl xc, .slice ya yl yc], .int .i64 1] w fun e' w' => ∃ M : Int, e' = .returned (.int .i64 M) ∧ (0 ≤ M ∧ M ≤ 16777216) ∧ Kept lo hi w w' := by
  rw [sy_sz, int_szL] at hz
  obtain ⟨ini, ps⟩ := s
  obtain ⟨mid, o1, o2, hi1, hp1⟩ := h
  dsimp only at hz
  obtain ⟨W1, hW1⟩ : ∃ W1, W1 = w.alloc (.cells #[.slice xa xl xc, .slice ya yl yc] 32) := ⟨_, rfl⟩
  have hb0 : Below w.heap.size w W1 := by rw [hW1]; exact (Below.refl _ _).alloc (Nat.le_refl _) _
  have HR : Hid (Row W1 w.heap.size 32 #[.slice xa xl xc, .slice ya yl yc]) := by rw [hW1]; exact Row.new _ _ _
  have HI : Hid ((Lay.int.slice 3).sep W1 lo mid ini (fun _ => .slice xa xl xc)) := (Lay.int.slice _).sep_ext (C := fun j => (#[.slice xa xl xc, .slice ya yl yc] : Array Value).getD j undef) (fun q hq => by
      have : q = 0 := by have : q < 1 := hq; omega
      subst this
      rfl) ((Lay.int.slice _).sunder hi1 hb0 (by omega))
  have HP : Hid ((Lay.pr.slice 97).sep W1 mid hi ps (fun _ => .slice ya yl yc)) := (Lay.pr.slice _).sep_ext (C := fun j => (#[.slice xa xl xc, .slice ya yl yc] : Array Value).getD ((Lay.int.slice 3).st + j) undef) (fun q hq => by
      have : q = 0 := by have : q < 1 := hq; omega
      subst this
      rfl) ((Lay.pr.slice _).sunder hp1 hb0 hhi)
  have HZ1 : Hid (ini.length ≤ 1048576) := by show _ ≤ _; omega
  have HZ2 : Hid (Lay.pr.szL ps ≤ 1048576) := by show _ ≤ _; omega
  have HK0 : Hid (Kept lo hi w W1) := Kept.of_below hb0 lo hi
  have hs1 := hb0.size
  have hin : ini.length ≤ 1048576 := by omega
  have HW1 := Lib.hid hW1
  clear hW1 hb0 hi1 hp1 hz
  go_enter Try.func14, Try.ntmps14
  go_wp2_with fail
  rw [← HW1.out]
  refine (mkIn_any ini (fun _ => .slice xa xl xc) 1 lo mid _ HI.out HZ1.out (by omega) (by omega)).mono ?_
  rintro e' w2 ⟨rfl, hk2⟩
  obtain ⟨g0, g1⟩ := (HR.out.kept hk2 (by omega)).two
  have hz2 := hk2.size
  have HP2 := Lib.hid ((Lay.pr.slice 97).sep_keep (fun q b1 b2 => hk2.other q (by omega) (.inr (by omega))) HP.out)
  have HK2 := Lib.hid (HK0.out.trans (hk2.more (Nat.le_refl _) o2))
  clear hk2 g0
  go_wp2_with fail
  refine (mkPrS_any ps (fun _ => .slice ya yl yc) (1 + ini.length) mid hi _ HP2.out (by omega) HZ2.out (by omega) (by omega)).mono ?_
  rintro e' w3 ⟨M, rfl, hM0, hM1, hk3⟩
  have HK3 := Lib.hid (HK2.out.trans (hk3.more o1 (Nat.le_refl _)))
  have HMb : Hid (M ≤ 16777216) := by show _ ≤ _; have := HZ2.out; omega
  clear hk3 g1
  go_wp2_with fail
  go_ret
  exact ⟨M, rfl, ⟨by omega, HMb.out⟩, HK3.out⟩
theorem mkSy_any (s : Sy) (xa : Option Addr) (xl xc : Nat) (ya : Option Addr) (yl yc lo hi : Nat) (w : World) (h : Lay.sy.sep w lo hi s (fun j => (#[.slice xa xl xc, .slice ya yl yc] : Array Value).getD j undef)) (hhi : hi ≤ w.heap.size) (hz : Lay.sy.sz s ≤ 1048576) :
    Calls Try.prog 14 #[.agg #[.slice xa xl xc, .slice ya yl yc], .int .i64 1] w fun e' w' => ∃ M : Int, e' = .returned (.int .i64 M) ∧ 0 ≤ M ∧ Kept lo hi w w' :=
  (mkSyB_any s xa xl xc ya yl yc lo hi w h hhi hz).mono fun _ _ ⟨M, h1, h2, h3⟩ => ⟨M, h1, h2.1, h3⟩

end Go.Proofs.Ytldnegacgjijlaa

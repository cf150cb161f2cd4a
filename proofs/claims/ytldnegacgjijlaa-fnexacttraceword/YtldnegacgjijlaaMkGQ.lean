/- Marks of graphs: the walks of laws.markStateS, laws.markIntSS and laws.markGraph: nothing outside their rows is written. -/
import Derived.Test.YtldnegacgjijlaaJ12
import Derived.Test.YtldnegacgjijlaaJ03
namespace Go.Proofs.Ytldnegacgjijlaa
open Go.RowKit

theorem int_sep_const {w : World} {lo hi : Nat} {zs : List Int} {C : Nat → Value} (h : (Lay.int.slice 3).sep w lo hi zs C) : (Lay.int.slice 3).sep w lo hi zs (fun _ => C 0) := by
  refine (Lay.int.slice _).sep_ext (fun q hq => ?_) h
  have h1 : q < 1 := hq
  obtain rfl : q = 0 := by omega
  rfl
theorem sta_sep_open {w : World} {lo hi : Nat} {s : St} {C : Nat → Value} (h : Lay.sta.sep w lo hi s C) : ∃ m, lo ≤ m ∧ m ≤ hi ∧ (Lay.int.slice 3).sep w lo m s.locs (fun _ => C 0) ∧ (Lay.int.slice 3).sep w m hi s.vals (fun _ => C 1) := by
  obtain ⟨m, h1, h2, h3, h4⟩ := h
  exact ⟨m, h1, h2, int_sep_const h3, int_sep_const h4⟩
theorem int_sep_form {w : World} {lo hi : Nat} {zs : List Int} {v : Value} (h : (Lay.int.slice 3).sep w lo hi zs (fun _ => v)) : ∃ A cap, v = .slice A zs.length cap := by
  obtain ⟨A, cap, g, cs, D, s, hC, _⟩ := h
  exact ⟨A, cap, hC⟩

set_option maxHeartbeats 1000000 in
set_option maxRecDepth 100000 in
theorem mkStS_any (xs : List St) (C : Nat → Value) (m : Int) (lo hi : Nat) (w : World) (h : (Lay.sta.slice 136).sep w lo hi xs C) (hhi : hi ≤ w.heap.size) (hz : Lay.sta.szL xs ≤ 1048576) (hm0 : 0 ≤ m) (hm1 : m ≤ 8388608) :
    Calls Try.prog 89 #[C 0, .int .i64 m] w fun e' w' => ∃ M : Int, e' = .returned (.int .i64 M) ∧ m ≤ M ∧ M ≤ m + Lay.sta.szL xs ∧ Kept lo hi w w' := by
  obtain ⟨A, cap, g, cs, D, s, hC, hl, h3, h4, h5, h6⟩ := h
  rw [hC]
  have H6 := Lib.hid h6
  have H3 := Lib.hid h3
  have H4 := Lib.hid h4
  have H5 := Lib.hid h5
  have HZ := Lib.hid hz
  have HH := Lib.hid hhi
  have hlen : xs.length ≤ 1048576 := by have := Lay.sta.szL_length xs; omega
  clear hC hl h3 h4 h5 h6 hz hhi
  go_enter Try.func89, Try.ntmps89
  go_wp2_with fail
  go_loopw [1, 5] (fun mm i wl => ∃ (j : Nat) (M : Int), j ≤ xs.length ∧ i = .int .i64 j ∧ mm = .int .i64 M ∧ m ≤ M ∧ M ≤ 9437185 ∧ Hid (M ≤ m + Lay.sta.szL (xs.take j)) ∧ Hid (wl.heap[g]? = w.heap[g]?) ∧ Hid (Beyond g (s j) w wl) ∧ Hid (Kept lo hi w wl)) (fun _ i _ => xs.length - (intOf i).toNat)
  case atStart => exact ⟨0, m, Nat.zero_le _, rfl, rfl, Int.le_refl _, by omega, by show _ ≤ _; simp [Lay.szL], rfl, fun _ _ _ _ => rfl, Kept.refl _ _ _⟩
  case round =>
    obtain ⟨j, M, hj, rfl, rfl, hM0, hM1, HM, HG, HBy, HK⟩ := hrel
    by_cases hlt : j < xs.length
    · obtain ⟨x, hx⟩ : ∃ x, xs[j]? = some x := ⟨_, List.getElem?_eq_getElem hlt⟩
      obtain ⟨rfl, a2, a3, a4, a5, a6, a7⟩ := H6.out j x hx
      have hsj := mono_to H3.out j 0 (Nat.zero_le _) (by omega)
      have hsn := mono_to H3.out xs.length (j + 1) (by omega) (Nat.le_refl _)
      have hs1 := H3.out j hlt
      have hlo := H4.out
      have hhi := H5.out
      have hhw := HH.out
      have hks := HK.out.size
      have hgn : g < s j ∨ s (j + 1) ≤ g := by omega
      obtain ⟨mid, o1, o2, sl, sv⟩ := sta_sep_open a7
      have hxs : x.locs.length + x.vals.length ≤ 1048576 := by have := Lay.sta.szL_mem hx; have := HZ.out; have := sta_sz x; omega
      have hTs := Lay.sta.szL_take_succ hx
      rw [sta_sz] at hTs
      obtain ⟨nl, hnl⟩ : ∃ nl : Nat, nl = x.locs.length := ⟨_, rfl⟩
      obtain ⟨nv, hnv⟩ : ∃ nv : Nat, nv = x.vals.length := ⟨_, rfl⟩
      rw [← hnl, ← hnv] at hTs hxs
      have hMm : M + nl + nv ≤ m + Lay.sta.szL (xs.take (j + 1)) := by have := HM.out; omega
      have hMb : m + Lay.sta.szL (xs.take (j + 1)) ≤ 9437185 := by
        have h1 := Lay.sta.szL_take_len xs (j + 1)
        have h2 := HZ.out
        omega
      have r1 : Row wr g 136 cs := HG.out.trans a5
      have cell : ∀ q, q < 2 → wr.cell? ⟨g, j * 2 + q, none⟩ = some (D j q) := fun q hq => by
        rw [r1.cell]
        exact a6 q hq
      have sl1 : (Lay.int.slice 3).sep wr (s j) mid x.locs (fun _ => D j 0) := (Lay.int.slice _).sep_keep (fun q b1 b2 => HBy.out q (by omega) (by omega) (by omega)) sl
      have sv1 : (Lay.int.slice 3).sep wr mid (s (j + 1)) x.vals (fun _ => D j 1) := (Lay.int.slice _).sep_keep (fun q b1 b2 => HBy.out q (by omega) (by omega) (by omega)) sv
      obtain ⟨xa, xc, qx⟩ := int_sep_form sl1
      obtain ⟨ya, yc, qy⟩ := int_sep_form sv1
      have c0 : wr.cell? ⟨g, j * 2, none⟩ = some (.slice xa nl xc) := by rw [hnl, ← qx]; exact cell 0 (by omega)
      rw [qx] at sl1
      rw [qy] at sv1
      have HSl := Lib.hid sl1
      have HSv := Lib.hid sv1
      have HR1 := Lib.hid r1
      have HNl := Lib.hid hnl
      have HNv := Lib.hid hnv
      have HQy : Hid (cs[j * 2 + 1]? = some (.slice ya nv yc)) := by show _ = _; rw [hnv, ← qy]; exact a6 1 (by decide)
      have HMm := Lib.hid hMm
      clear sl sv sl1 sv1 a5 a6 a7 cell r1 qx qy hTs hx hnl hnv
      go_wp2_with fail
      rw [HNl.out]
      refine (mkIn_any x.locs (fun _ => .slice xa x.locs.length xc) M (s j) mid wr HSl.out (by have := HNl.out; omega) (by omega) (by omega)).mono ?_
      rintro e' w2 ⟨rfl, hk2⟩
      rw [← HNl.out]
      have hk2s := hk2.size
      have HR2 := Lib.hid (HR1.out.kept hk2 (by omega))
      have c1 : w2.cell? ⟨g, j * 2 + 1, none⟩ = some (.slice ya nv yc) := by rw [HR2.out.cell]; exact HQy.out
      have HSv2 : Hid ((Lay.int.slice 3).sep w2 mid (s (j + 1)) x.vals (fun _ => .slice ya x.vals.length yc)) := (Lay.int.slice _).sep_keep (fun q b1 b2 => hk2.other q (by omega) (by omega)) HSv.out
      have HK2 := Lib.hid (HK.out.trans (hk2.more (lo' := lo) (hi' := hi) (by omega) (by omega)))
      have HBy2 : Hid (Beyond g mid w w2) := HBy.out.kept HK.out.size hk2 (by omega) (Nat.le_refl _)
      clear hk2
      go_wp2_with fail
      rw [HNv.out]
      refine (mkIn_any x.vals (fun _ => .slice ya x.vals.length yc) (M + nl) mid (s (j + 1)) w2 HSv2.out (by have := HNv.out; omega) (by omega) (by omega)).mono ?_
      rintro e' w3 ⟨rfl, hk3⟩
      rw [← HNv.out]
      have HG3 : Hid (w3.heap[g]? = w.heap[g]?) := by
        show _ = _
        have h := HR2.out.kept hk3 (by omega)
        exact (show w3.heap[g]? = _ from h).trans ((show wr.heap[g]? = _ from HR1.out).symm.trans HG.out)
      have HK3 := Lib.hid (HK2.out.trans (hk3.more (lo' := lo) (hi' := hi) (by omega) (by omega)))
      have HBy3 : Hid (Beyond g (s (j + 1)) w w3) := HBy2.out.kept HK2.out.size hk3 (by omega) (Nat.le_refl _)
      clear hk3 c0 c1
      go_wp2_with fail
      go_roundw
      case rel => exact ⟨j + 1, M + nl + nv, by omega, by go_num, rfl, by omega, by omega, HMm, HG3, HBy3, HK3⟩
      case measure => simp [intOf]; omega
    · obtain rfl : j = xs.length := by omega
      have HMf : Hid (M ≤ m + Lay.sta.szL xs) := by have := HM.out; rwa [List.take_length] at this
      go_wp2_with fail
      go_ret
      exact ⟨M, rfl, hM0, HMf.out, HK.out⟩

set_option maxHeartbeats 1000000 in
set_option maxRecDepth 100000 in
theorem mkIsS_any (xs : List (List Int)) (C : Nat → Value) (m : Int) (lo hi : Nat) (w : World) (h : (Lay.ints.slice 22).sep w lo hi xs C) (hhi : hi ≤ w.heap.size) (hz : Lay.ints.szL xs ≤ 1048576) (hm0 : 0 ≤ m) (hm1 : m ≤ 9437185) :
    Calls Try.prog 90 #[C 0, .int .i64 m] w fun e' w' => ∃ M : Int, e' = .returned (.int .i64 M) ∧ m ≤ M ∧ M ≤ m + Lay.ints.szL xs ∧ Kept lo hi w w' := by
  obtain ⟨A, cap, g, cs, D, s, hC, hl, h3, h4, h5, h6⟩ := h
  rw [hC]
  have H6 := Lib.hid h6
  have H3 := Lib.hid h3
  have H4 := Lib.hid h4
  have H5 := Lib.hid h5
  have HZ := Lib.hid hz
  have HH := Lib.hid hhi
  have hlen : xs.length ≤ 1048576 := by have := Lay.ints.szL_length xs; omega
  clear hC hl h3 h4 h5 h6 hz hhi
  go_enter Try.func90, Try.ntmps90
  go_wp2_with fail
  go_loopw [1, 5] (fun mm i wl => ∃ (j : Nat) (M : Int), j ≤ xs.length ∧ i = .int .i64 j ∧ mm = .int .i64 M ∧ m ≤ M ∧ M ≤ 16777217 ∧ Hid (M ≤ m + Lay.ints.szL (xs.take j)) ∧ Hid (wl.heap[g]? = w.heap[g]?) ∧ Hid (Beyond g (s j) w wl) ∧ Hid (Kept lo hi w wl)) (fun _ i _ => xs.length - (intOf i).toNat)
  case atStart => exact ⟨0, m, Nat.zero_le _, rfl, rfl, Int.le_refl _, by omega, by show _ ≤ _; simp [Lay.szL], rfl, fun _ _ _ _ => rfl, Kept.refl _ _ _⟩
  case round =>
    obtain ⟨j, M, hj, rfl, rfl, hM0, hM1, HM, HG, HBy, HK⟩ := hrel
    by_cases hlt : j < xs.length
    · obtain ⟨x, hx⟩ : ∃ x, xs[j]? = some x := ⟨_, List.getElem?_eq_getElem hlt⟩
      obtain ⟨rfl, a2, a3, a4, a5, a6, a7⟩ := H6.out j x hx
      have hsj := mono_to H3.out j 0 (Nat.zero_le _) (by omega)
      have hsn := mono_to H3.out xs.length (j + 1) (by omega) (Nat.le_refl _)
      have hs1 := H3.out j hlt
      have hlo := H4.out
      have hhi := H5.out
      have hhw := HH.out
      have hks := HK.out.size
      have hgn : g < s j ∨ s (j + 1) ≤ g := by omega
      have hxs : x.length ≤ 1048576 := by have := Lay.ints.szL_mem hx; have := HZ.out; have := ints_sz x; omega
      have hTs := Lay.ints.szL_take_succ hx
      rw [ints_sz] at hTs
      obtain ⟨nl, hnl⟩ : ∃ nl : Nat, nl = x.length := ⟨_, rfl⟩
      rw [← hnl] at hTs hxs
      have hMm : M + nl ≤ m + Lay.ints.szL (xs.take (j + 1)) := by have := HM.out; omega
      have hMb : m + Lay.ints.szL (xs.take (j + 1)) ≤ 16777217 := by
        have h1 := Lay.ints.szL_take_len xs (j + 1)
        have h2 := HZ.out
        omega
      have r1 : Row wr g 22 cs := HG.out.trans a5
      have sl1 : (Lay.int.slice 3).sep wr (s j) (s (j + 1)) x (fun _ => D j 0) := int_sep_const ((Lay.int.slice _).sep_keep (fun q b1 b2 => HBy.out q (by omega) (by omega) (by omega)) a7.1)
      obtain ⟨xa, xc, qx⟩ := int_sep_form sl1
      have c0 : wr.cell? ⟨g, j, none⟩ = some (.slice xa nl xc) := by
        rw [hnl, ← qx, r1.cell]
        have h := a6 0 (by decide)
        rw [show Lay.ints.st = 1 from rfl, Nat.mul_one, Nat.add_zero] at h
        exact h
      rw [qx] at sl1
      have HSl := Lib.hid sl1
      have HR1 := Lib.hid r1
      have HNl := Lib.hid hnl
      have HMm := Lib.hid hMm
      clear sl1 a5 a6 a7 r1 qx hTs hx hnl
      go_wp2_with fail
      rw [HNl.out]
      refine (mkIn_any x (fun _ => .slice xa x.length xc) M (s j) (s (j + 1)) wr HSl.out (by have := HNl.out; omega) (by omega) (by omega)).mono ?_
      rintro e' w2 ⟨rfl, hk2⟩
      rw [← HNl.out]
      have HG2 : Hid (w2.heap[g]? = w.heap[g]?) := by
        show _ = _
        have h := HR1.out.kept hk2 (by omega)
        exact (show w2.heap[g]? = _ from h).trans ((show wr.heap[g]? = _ from HR1.out).symm.trans HG.out)
      have HK2 := Lib.hid (HK.out.trans (hk2.more (lo' := lo) (hi' := hi) (by omega) (by omega)))
      have HBy2 : Hid (Beyond g (s (j + 1)) w w2) := HBy.out.kept HK.out.size hk2 (by omega) (Nat.le_refl _)
      clear hk2 c0
      go_wp2_with fail
      go_roundw
      case rel => exact ⟨j + 1, M + nl, by omega, by go_num, rfl, by omega, by omega, HMm, HG2, HBy2, HK2⟩
      case measure => simp [intOf]; omega
    · obtain rfl : j = xs.length := by omega
      have HMf : Hid (M ≤ m + Lay.ints.szL xs) := by have := HM.out; rwa [List.take_length] at this
      go_wp2_with fail
      go_ret
      exact ⟨M, rfl, hM0, HMf.out, HK.out⟩

set_option maxHeartbeats 400000 in
theorem mkGrM_any (e : Gp) (m : Int) (xa : Option Addr) (xl xc : Nat) (ya : Option Addr) (yl yc lo hi : Nat) (w : World) (h : Lay.gra.sep w lo hi e (fun j => (#[.slice xa xl xc, .slice ya yl yc] : Array Value).getD j undef)) (hhi : hi ≤ w.heap.size) (hz : Lay.gra.sz e ≤ 1048576) (hm0 : 0 ≤ m) (hm1 : m ≤ 8388608) :
    Calls Try.prog 36 #[.agg #[.slice xa xl xc, .slice ya yl yc], .int .i64 m] w fun e' w' => ∃ M : Int, e' = .returned (.int .i64 M) ∧ m ≤ M ∧ M ≤ m + 1048576 ∧ Kept lo hi w w' := by
  rw [gra_sz] at hz
  obtain ⟨sts, nxt⟩ := e
  obtain ⟨mid, o1, o2, hi1, hp1⟩ := h
  dsimp only at hz
  obtain ⟨W1, hW1⟩ : ∃ W1, W1 = w.alloc (.cells #[.slice xa xl xc, .slice ya yl yc] 69) := ⟨_, rfl⟩
  have hb0 : Below w.heap.size w W1 := by rw [hW1]; exact (Below.refl _ _).alloc (Nat.le_refl _) _
  have HR : Hid (Row W1 w.heap.size 69 #[.slice xa xl xc, .slice ya yl yc]) := by rw [hW1]; exact Row.new _ _ _
  have HI : Hid ((Lay.sta.slice 136).sep W1 lo mid sts (fun _ => .slice xa xl xc)) := (Lay.sta.slice _).sep_ext (C := fun j => (#[.slice xa xl xc, .slice ya yl yc] : Array Value).getD j undef) (fun q hq => by
      have : q = 0 := by have : q < 1 := hq; omega
      subst this
      rfl) ((Lay.sta.slice _).sunder hi1 hb0 (by omega))
  have HP : Hid ((Lay.ints.slice 22).sep W1 mid hi nxt (fun _ => .slice ya yl yc)) := (Lay.ints.slice _).sep_ext (C := fun j => (#[.slice xa xl xc, .slice ya yl yc] : Array Value).getD ((Lay.sta.slice 136).st + j) undef) (fun q hq => by
      have : q = 0 := by have : q < 1 := hq; omega
      subst this
      rfl) ((Lay.ints.slice _).sunder hp1 hb0 hhi)
  have HZ3 : Hid (Lay.sta.szL sts + Lay.ints.szL nxt ≤ 1048576) := hz
  have HZ1 : Hid (Lay.sta.szL sts ≤ 1048576) := by show _ ≤ _; omega
  have HZ2 : Hid (Lay.ints.szL nxt ≤ 1048576) := by show _ ≤ _; omega
  have HK0 : Hid (Kept lo hi w W1) := Kept.of_below hb0 lo hi
  have hs1 := hb0.size
  have HW1 := Lib.hid hW1
  clear hW1 hb0 hi1 hp1 hz
  go_enter Try.func36, Try.ntmps36
  go_wp2_with fail
  rw [← HW1.out]
  refine (mkStS_any sts (fun _ => .slice xa xl xc) m lo mid _ HI.out (by omega) HZ1.out (by omega) (by omega)).mono ?_
  rintro e' w2 ⟨M1, rfl, hM0, hM1, hk2⟩
  obtain ⟨g0, g1⟩ := (HR.out.kept hk2 (by omega)).two
  have hz2 := hk2.size
  have HP2 := Lib.hid ((Lay.ints.slice 22).sep_keep (fun q b1 b2 => hk2.other q (by omega) (.inr (by omega))) HP.out)
  have HK2 := Lib.hid (HK0.out.trans (hk2.more (Nat.le_refl _) o2))
  have hMb : M1 ≤ 9437185 := by have := HZ1.out; omega
  have hMc : M1 + Lay.ints.szL nxt ≤ m + 1048576 := by have := HZ3.out; omega
  clear hk2 g0 hM1
  go_wp2_with fail
  refine (mkIsS_any nxt (fun _ => .slice ya yl yc) M1 mid hi _ HP2.out (by omega) HZ2.out (by omega) (by omega)).mono ?_
  rintro e' w3 ⟨M, rfl, hM2, hM3, hk3⟩
  have HK3 := Lib.hid (HK2.out.trans (hk3.more o1 (Nat.le_refl _)))
  have hMd : M ≤ m + 1048576 := by omega
  clear hk3 hM3
  go_wp2_with fail
  go_ret
  exact ⟨M, rfl, by omega, hMd, HK3.out⟩

theorem mkGr_any (e : Gp) (xa : Option Addr) (xl xc : Nat) (ya : Option Addr) (yl yc lo hi : Nat) (w : World) (h : Lay.gra.sep w lo hi e (fun j => (#[.slice xa xl xc, .slice ya yl yc] : Array Value).getD j undef)) (hhi : hi ≤ w.heap.size) (hz : Lay.gra.sz e ≤ 1048576) :
    Calls Try.prog 36 #[.agg #[.slice xa xl xc, .slice ya yl yc], .int .i64 1] w fun e' w' => ∃ M : Int, e' = .returned (.int .i64 M) ∧ 0 ≤ M ∧ Kept lo hi w w' := by
  refine (mkGrM_any e 1 xa xl xc ya yl yc lo hi w h hhi hz (by omega) (by omega)).mono ?_
  rintro e' w1 ⟨M, rfl, h1, _, h3⟩
  exact ⟨M, rfl, by omega, h3⟩

end Go.Proofs.Ytldnegacgjijlaa

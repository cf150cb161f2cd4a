/- Joined texts: ExM, TcM, LaE, LaM, Nx. Nothing is assumed. -/
import Derived.Test.YtldnegacgjijlaaM1Q
import Derived.Test.YtldnegacgjijlaaJ06
import Derived.Test.YtldnegacgjijlaaJ12
import Derived.Test.YtldnegacgjijlaaJ13
import Derived.Test.YtldnegacgjijlaaJ07
import Derived.Test.YtldnegacgjijlaaJ02
import Derived.Test.YtldnegacgjijlaaBsQ
namespace Go.Proofs.Ytldnegacgjijlaa
open Go.RowKit

theorem mkExs_any (xs : List Ex) (m : Int) (xa : Option Addr) (xl xc lo hi : Nat) (w : World) (h : Lay.exs.sep w lo hi xs (fun j => (#[.slice xa xl xc] : Array Value).getD j undef)) (_hhi : hi ≤ w.heap.size) (hz : Lay.exs.sz xs ≤ 1048576) (hm0 : 0 ≤ m) (hm1 : m ≤ 8388608) :
    Calls Try.prog 37 #[.slice xa xl xc, .int .i64 m] w fun e' w' => ∃ M : Int, e' = .returned (.int .i64 M) ∧ m ≤ M ∧ M ≤ m + 2097152 ∧ Kept lo hi w w' := by
  rw [exs_sz] at hz
  obtain ⟨A, cap, g, cs, D, s, h0, hl, h1, h2, h3, h4⟩ := h
  have h0' : Value.slice xa xl xc = .slice A xs.length cap := h0
  have hS : Sk w lo hi (.node 0 0 xs) (.slice A xs.length cap) := by
    refine .mk 0 0 xs A cap g cs (fun i => D i 2) (fun i x hx => ?_) (fun i x hx => ?_) (fun i x hx => ?_) (fun i x hx => ?_) (fun i x hx => ?_)
    all_goals obtain ⟨a1, a2, a3, a4, a5, a6, a7⟩ := h4 i x hx
    · exact ⟨a1, a2, a3, a5⟩
    · obtain ⟨n0, _, _, _, _, e0, _⟩ := (show Sep w (s i) (s (i + 1)) x (D i 0) (D i 1) (D i 2) from a7).own.form
      exact ⟨n0, by rw [← e0]; exact a6 0 (by decide)⟩
    · obtain ⟨_, n1, _, _, _, _, e1, _⟩ := (show Sep w (s i) (s (i + 1)) x (D i 0) (D i 1) (D i 2) from a7).own.form
      exact ⟨n1, by rw [← e1]; exact a6 1 (by decide)⟩
    · exact a6 2 (by decide)
    · have hi := (List.getElem?_eq_some_iff.1 hx).1
      have m1 := mono_to h1 i 0 (Nat.zero_le _) (by omega)
      have m2 := mono_to h1 xs.length (i + 1) (by omega) (Nat.le_refl _)
      exact ((show Sep w (s i) (s (i + 1)) x (D i 0) (D i 1) (D i 2) from a7).own.more (by omega) (by omega)).sk
  rw [h0']
  refine (mkB_any (.node 0 0 xs) m lo hi _ w hS (by simpa only [desc] using hz) hm0 (by simp only [desc]; omega)).mono ?_
  rintro e' w1 ⟨rfl, hk⟩
  exact ⟨_, rfl, by simp only [desc]; omega, by simp only [desc]; omega, hk.kept⟩

end Go.Proofs.Ytldnegacgjijlaa
namespace Go.Proofs.Ytldnegacgjijlaa
namespace Tc
open Go.RowKit

set_option maxHeartbeats 400000 in
set_option maxRecDepth 100000 in
theorem mkTr_any (e : St) (m : Int) (xa : Option Addr) (xl xc : Nat) (ya : Option Addr) (yl yc lo hi : Nat) (w : World) (h : trc.sep w lo hi e (fun j => (#[.slice xa xl xc, .slice ya yl yc] : Array Value).getD j undef)) (hhi : hi ≤ w.heap.size) (hz : trc.sz e ≤ 1048576) (hm0 : 0 ≤ m) (hm1 : m ≤ 16777216) :
    Calls Try.prog 46 #[.agg #[.slice xa xl xc, .slice ya yl yc], .int .i64 m] w fun e' w' => ∃ M : Int, e' = .returned (.int .i64 M) ∧ m ≤ M ∧ M ≤ m + 2097152 ∧ Kept lo hi w w' := by
  have hz2 : e.locs.length ≤ 1048576 ∧ e.vals.length ≤ 1048576 := by
    rw [trc_sz] at hz
    have := sta_sz e
    omega
  obtain ⟨locs, vals⟩ := e
  obtain ⟨mid, o1, o2, ⟨hi1, _⟩, ⟨hp1, _⟩⟩ := h
  dsimp only at hz2
  obtain ⟨W1, hW1⟩ : ∃ W1, W1 = w.alloc (.cells #[.slice xa xl xc, .slice ya yl yc] 86) := ⟨_, rfl⟩
  have hb0 : Below w.heap.size w W1 := by rw [hW1]; exact (Below.refl _ _).alloc (Nat.le_refl _) _
  have HR : Hid (Row W1 w.heap.size 86 #[.slice xa xl xc, .slice ya yl yc]) := by rw [hW1]; exact Row.new _ _ _
  have HI : Hid ((Lay.int.slice 3).sep W1 lo mid locs (fun _ => .slice xa xl xc)) := (Lay.int.slice _).sep_ext (C := fun j => (#[.slice xa xl xc, .slice ya yl yc] : Array Value).getD j undef) (fun q hq => by
      have : q = 0 := by have : q < 1 := hq; omega
      subst this
      rfl) ((Lay.int.slice _).sunder hi1 hb0 (by omega))
  have HP : Hid ((Lay.int.slice 3).sep W1 mid hi vals (fun _ => .slice ya yl yc)) := (Lay.int.slice _).sep_ext (C := fun j => (#[.slice xa xl xc, .slice ya yl yc] : Array Value).getD (1 + j) undef) (fun q hq => by
      have : q = 0 := by have : q < 1 := hq; omega
      subst this
      rfl) ((Lay.int.slice _).sunder hp1 hb0 hhi)
  have HK0 : Hid (Kept lo hi w W1) := Kept.of_below hb0 lo hi
  have hs1 := hb0.size
  have HW1 := Lib.hid hW1
  clear hW1 hb0 hi1 hp1
  go_enter Try.func46, Try.ntmps46
  go_wp2_with fail
  rw [← HW1.out]
  refine (mkIn_any locs (fun _ => .slice xa xl xc) m lo mid _ HI.out hz2.1 (by omega) (by omega)).mono ?_
  rintro e' w2 ⟨rfl, hk2⟩
  obtain ⟨g0, g1⟩ := (HR.out.kept hk2 (by omega)).two
  have hz2' := hk2.size
  have HP2 := Lib.hid ((Lay.int.slice 3).sep_keep (fun q b1 b2 => hk2.other q (by omega) (.inr (by omega))) HP.out)
  have HK2 := Lib.hid (HK0.out.trans (hk2.more (Nat.le_refl _) o2))
  clear hk2 g0
  go_wp2_with fail
  refine (mkIn_any vals (fun _ => .slice ya yl yc) (m + locs.length) mid hi _ HP2.out hz2.2 (by omega) (by omega)).mono ?_
  rintro e' w3 ⟨rfl, hk3⟩
  have HK3 := Lib.hid (HK2.out.trans (hk3.more o1 (Nat.le_refl _)))
  clear hk3
  go_wp2_with fail
  go_ret
  exact ⟨_, rfl, by omega, by omega, HK3.out⟩

end Tc
end Go.Proofs.Ytldnegacgjijlaa
namespace Go.Proofs.Ytldnegacgjijlaa
namespace La
open Go.RowKit

set_option maxHeartbeats 400000 in
theorem eqSt_any (s : St) (C D : Nat → Value) (w : World) (hL : Lay.sta.lies w w.heap.size s C) (hL' : Lay.sta.lies w w.heap.size s D) :
    Calls Try.prog 44 #[.agg #[C 0, C 1], .agg #[D 0, D 1]] w fun e' w' => e' = .returned (.bool true) ∧ Below w.heap.size w w' := by
  obtain ⟨ini, ps⟩ := s
  obtain ⟨⟨A, cap, b, off, E, e0, hl, hO⟩, B, cbp, c, pff, F, e1, hm, hP⟩ := sta_lies hL
  obtain ⟨⟨A', cap', b', off', E', d0, _, hO'⟩, B', cbp', c', pff', F', d1, _, hP'⟩ := sta_lies hL'
  rw [e0, e1, d0, d1]
  clear e0 e1 d0 d1 hL hL'
  obtain ⟨W1, hW1⟩ : ∃ W1, W1 = (w.alloc (.cells #[.slice A ini.length cap, .slice B ps.length cbp] 83)).alloc (.cells #[.slice A' ini.length cap', .slice B' ps.length cbp'] 83) := ⟨_, rfl⟩
  have hrows := two_boxes w 83 #[.slice A ini.length cap, .slice B ps.length cbp] #[.slice A' ini.length cap', .slice B' ps.length cbp']
  rw [← hW1] at hrows
  obtain ⟨ra, rb, hb0⟩ := hrows
  have HRa := Lib.hid ra
  have HRb := Lib.hid rb
  have HO := Lib.hid (ints_of (hO.grow hb0 hb0.size))
  have HO' := Lib.hid (ints_of (hO'.grow hb0 hb0.size))
  have HP := Lib.hid (hP.grow hb0 hb0.size)
  have HP' := Lib.hid (hP'.grow hb0 hb0.size)
  have HB0 := Lib.hid hb0
  have HW1 := Lib.hid hW1
  have HLn := Lib.hid hl
  have HMn := Lib.hid hm
  clear hO hO' hP hP' hb0 hW1 hl hm ra rb
  go_enter Try.func44, Try.ntmps44
  go_wp2_with fail
  rw [← HW1.out]
  refine (eqInts_any ini A A' cap b off cap' b' off' _ HLn.out HO.out HO'.out).mono ?_
  rintro e' w1 ⟨rfl, hb1⟩
  obtain ⟨g0, g1⟩ := (HRa.out.under hb1 HRa.out.lt).two
  obtain ⟨f0, f1⟩ := (HRb.out.under hb1 HRb.out.lt).two
  have HP1 := Lib.hid (ints_of (HP.out.grow hb1 hb1.size))
  have HP1' := Lib.hid (ints_of (HP'.out.grow hb1 hb1.size))
  have HB1 := Lib.hid (HB0.out.trans (hb1.mono HB0.out.size))
  clear hb1 g0 f0
  go_wp2_with fail
  refine (eqInts_any ps B B' cbp c pff cbp' c' pff' _ HMn.out HP1.out HP1'.out).mono ?_
  rintro e' w2 ⟨rfl, hb2⟩
  have HB2 := Lib.hid (HB1.out.trans (hb2.mono HB1.out.size))
  clear hb2 g1 f1
  go_wp2_with fail
  go_ret
  exact ⟨rfl, HB2.out⟩

end La
end Go.Proofs.Ytldnegacgjijlaa
namespace Go.Proofs.Ytldnegacgjijlaa
namespace La
open Go.RowKit

set_option maxHeartbeats 400000 in
theorem mkSt_any (s : St) (xa : Option Addr) (xl xc : Nat) (ya : Option Addr) (yl yc lo hi : Nat) (w : World) (h : StR w lo hi s (.slice xa xl xc) (.slice ya yl yc)) (hhi : hi ≤ w.heap.size) (h1 : s.locs.length ≤ 1048576) (h2 : s.vals.length ≤ 1048576) :
    Calls Try.prog 47 #[.agg #[.slice xa xl xc, .slice ya yl yc], .int .i64 1] w fun e' w' => e' = .returned (.int .i64 (1 + s.locs.length + s.vals.length)) ∧ StR w' lo hi (markedSt s) (.slice xa xl xc) (.slice ya yl yc) ∧ Kept lo hi w w' := by
  obtain ⟨locs, vals⟩ := s
  obtain ⟨m0, m1, n0, n1, ho, hi1, hp1⟩ := h
  dsimp only at hi1 hp1 h1 h2
  obtain ⟨W1, hW1⟩ : ∃ W1, W1 = w.alloc (.cells #[.slice xa xl xc, .slice ya yl yc] 83) := ⟨_, rfl⟩
  have hb0 : Below w.heap.size w W1 := by rw [hW1]; exact (Below.refl _ _).alloc (Nat.le_refl _) _
  have HR : Hid (Row W1 w.heap.size 83 #[.slice xa xl xc, .slice ya yl yc]) := by rw [hW1]; exact Row.new _ _ _
  have HI := Lib.hid ((Lay.int.slice _).sunder hi1 hb0 (by omega))
  have HP := Lib.hid ((Lay.int.slice _).sunder hp1 hb0 (by omega))
  have HK0 : Hid (Kept lo hi w W1) := Kept.of_below hb0 lo hi
  have hs1 := hb0.size
  have HW1 := Lib.hid hW1
  have HO := Lib.hid ho
  clear hW1 hb0 hi1 hp1 ho
  go_enter Try.func47, Try.ntmps47
  go_wp2_with fail
  rw [← HW1.out]
  refine (mkInX_any locs (fun _ => .slice xa xl xc) 1 m0 m1 _ HI.out h1 (by omega) (by omega)).mono ?_
  rintro e' w2 ⟨rfl, hx2, hk2⟩
  obtain ⟨g0, g1⟩ := (HR.out.kept hk2 (by have := HO.out; omega)).two
  have hz2 := hk2.size
  have HP2 := Lib.hid ((Lay.int.slice 3).sep_keep (fun q b1 b2 => hk2.other q (by have := HO.out; omega) (by have := HO.out; omega)) HP.out)
  have HX2 := Lib.hid hx2
  have HK2 := Lib.hid (HK0.out.trans (hk2.more HO.out.1 HO.out.2.2.1))
  clear hk2 g0 hx2
  go_wp2_with fail
  refine (mkInX_any vals (fun _ => .slice ya yl yc) (1 + locs.length) n0 n1 _ HP2.out h2 (by omega) (by omega)).mono ?_
  rintro e' w3 ⟨rfl, hx3, hk3⟩
  have HK3 := Lib.hid (HK2.out.trans (hk3.more HO.out.2.2.2.1 HO.out.2.2.2.2.2.1))
  have HX3 : Hid (StR w3 lo hi (markedSt ⟨locs, vals⟩) (.slice xa xl xc) (.slice ya yl yc)) := ⟨m0, m1, n0, n1, HO.out, (Lay.int.slice _).sep_keep (fun q b1 b2 => hk3.other q (by have := HO.out; omega) (by have := HO.out; omega)) HX2.out, hx3⟩
  clear hk3 g1 hx3
  go_wp2_with fail
  go_ret
  exact ⟨rfl, HX3.out, HK3.out⟩

set_option maxHeartbeats 400000 in
theorem heldSt_any (s : St) (C : Nat → Value) (w : World) (h : Lay.sta.lies w w.heap.size (markedSt s) C) (h1 : s.locs.length ≤ 1048576) (h2 : s.vals.length ≤ 1048576) :
    Calls Try.prog 48 #[.agg #[C 0, C 1], .int .i64 1] w fun e' w' => e' = .returned (.int .i64 (1 + s.locs.length + s.vals.length)) ∧ Below w.heap.size w w' := by
  obtain ⟨locs, vals⟩ := s
  obtain ⟨h3, h4⟩ := h
  dsimp only [markedSt] at h1 h2 h3 h4
  obtain ⟨W1, hW1⟩ : ∃ W1, W1 = w.alloc (.cells #[C 0, C 1] 83) := ⟨_, rfl⟩
  have hb0 : Below w.heap.size w W1 := by rw [hW1]; exact (Below.refl _ _).alloc (Nat.le_refl _) _
  have HR : Hid (Row W1 w.heap.size 83 #[C 0, C 1]) := by rw [hW1]; exact Row.new _ _ _
  have HI := Lib.hid ((Lay.int.slice _).later h3 hb0 hb0.size)
  have HP := Lib.hid ((Lay.int.slice _).later h4 hb0 hb0.size)
  have HB0 := Lib.hid hb0
  have HW1 := Lib.hid hW1
  clear hW1 hb0 h3 h4
  go_enter Try.func48, Try.ntmps48
  go_wp2_with fail
  rw [← HW1.out]
  refine (heldIn_any locs.length C 1 _ HI.out h1 (by omega) (by omega)).mono ?_
  rintro e' w2 ⟨rfl, rfl⟩
  obtain ⟨g0, g1⟩ := HR.out.two
  go_wp2_with fail
  refine (heldIn_any vals.length (fun j => C ((Lay.int.slice 3).st + j)) (1 + locs.length) _ HP.out h2 (by omega) (by omega)).mono ?_
  rintro e' w3 ⟨rfl, rfl⟩
  go_wp2_with fail
  go_ret
  exact ⟨rfl, HB0.out⟩

end La
end Go.Proofs.Ytldnegacgjijlaa
namespace Go.Proofs.Ytldnegacgjijlaa
open Go.RowKit

theorem room_next {left : Int} {n : Nat} (h0 : 0 ≤ left) (h1 : left ≤ 1048576) : ∃ r, r = room left n ∧ (r < 0 ∨ 0 ≤ r ∧ r ≤ 1048576 ∧ n ≤ 1048576) := by
  refine ⟨_, rfl, ?_⟩
  unfold room
  by_cases h : left < (n : Int)
  · rw [if_pos h]; left; omega
  · rw [if_neg h]; right; omega

end Go.Proofs.Ytldnegacgjijlaa

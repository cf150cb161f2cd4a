/- The walk of laws.markAutomaton at any automaton of one's own, from any mark on. -/
import Derived.Test.YtldnegacgjijlaaAuM
import Derived.Test.YtldnegacgjijlaaAuO
namespace Go.Proofs.Ytldnegacgjijlaa
open Go.RowKit

theorem tri_of_sep {w : World} {lo hi : Nat} {es : List Tr} {C : Nat → Value} (h : (Lay.tr.slice 116).sep w lo hi es C) : TrI w lo hi es (C 0) := by
  obtain ⟨A, cap, g, cs, D, s, hC, hl, h3, h4, h5, h6⟩ := h
  refine ⟨A, cap, hC, ?_⟩
  cases es with
  | nil => exact .inl rfl
  | cons a r =>
    obtain ⟨a1, a2, a3, _, a5, _, _⟩ := h6 0 a rfl
    refine .inr ⟨g, cs, a1, a2, a3, a5, fun i x hx => ?_⟩
    obtain ⟨_, _, _, _, _, b6, b7⟩ := h6 i x hx
    obtain ⟨f0, f1, f2, f3⟩ := tr_lies (Lay.tr.sep_lies b7)
    have e0 := b6 0 (by decide)
    have e1 := b6 1 (by decide)
    have e2 := b6 2 (by decide)
    have e3 := b6 3 (by decide)
    rw [f0] at e0
    rw [f1] at e1
    rw [f2] at e2
    rw [f3] at e3
    exact ⟨e0, e1, e2, e3⟩

set_option maxHeartbeats 1000000 in
set_option maxRecDepth 100000 in
theorem mkAuM_any (e : Au) (m : Int) (A0 : Option Addr) (l0 c0 : Nat) (A1 : Option Addr) (l1 c1 : Nat) (A2 : Option Addr) (l2 c2 lo hi : Nat) (w : World)
    (h : Lay.au.sep w lo hi e (fun j => (#[.slice A0 l0 c0, .slice A1 l1 c1, .slice A2 l2 c2] : Array Value).getD j undef)) (hhi : hi ≤ w.heap.size) (hz : Lay.au.sz e ≤ 1048576) (hm0 : 0 ≤ m) (hm1 : m ≤ 8388608) :
    Calls Try.prog 25 #[.agg #[.slice A0 l0 c0, .slice A1 l1 c1, .slice A2 l2 c2], .int .i64 m] w fun e' w' => ∃ M : Int, e' = .returned (.int .i64 M) ∧ m ≤ M ∧ M ≤ m + 4194304 ∧ Kept lo hi w w' := by
  rw [au_sz] at hz
  obtain ⟨ini, acc, es⟩ := e
  dsimp only at hz
  obtain ⟨m0, hlm0, hm0h, hi1, m1, hlm1, hm1h, hp1, ht1⟩ := h
  have hi1' : (Lay.int.slice 3).sep w lo m0 ini (fun _ => .slice A0 l0 c0) := (Lay.int.slice _).sep_ext (fun j hj => by obtain rfl : j = 0 := Nat.lt_one_iff.1 hj; rfl) hi1
  have hp1' : (Lay.bo.slice 4).sep w m0 m1 acc (fun _ => .slice A1 l1 c1) := (Lay.bo.slice _).sep_ext (fun j hj => by obtain rfl : j = 0 := Nat.lt_one_iff.1 hj; rfl) hp1
  have ht1' : TrI w m1 hi es (.slice A2 l2 c2) := tri_of_sep ht1
  obtain ⟨W1, hW1⟩ : ∃ W1, W1 = w.alloc (.cells #[.slice A0 l0 c0, .slice A1 l1 c1, .slice A2 l2 c2] 51) := ⟨_, rfl⟩
  have hb0 : Below w.heap.size w W1 := by rw [hW1]; exact (Below.refl _ _).alloc (Nat.le_refl _) _
  have HR : Hid (Row W1 w.heap.size 51 #[.slice A0 l0 c0, .slice A1 l1 c1, .slice A2 l2 c2]) := by rw [hW1]; exact Row.new _ _ _
  have HI := Lib.hid ((Lay.int.slice _).sunder hi1' hb0 (by omega))
  have HP := Lib.hid ((Lay.bo.slice _).sunder hp1' hb0 (by omega))
  have HT : Hid (TrI W1 m1 hi es (.slice A2 l2 c2)) := ht1'.under hb0 hhi
  have HK0 : Hid (Kept lo hi w W1) := Kept.of_below hb0 lo hi
  have hs1 := hb0.size
  have HW1 := Lib.hid hW1
  clear hW1 hb0 hi1 hp1 ht1 hi1' hp1' ht1'
  go_enter Try.func25, Try.ntmps25
  go_wp2_with fail
  rw [← HW1.out]
  refine (mkInX_any ini (fun _ => .slice A0 l0 c0) m lo m0 _ HI.out (by omega) (by omega) (by omega)).mono ?_
  rintro e' w2 ⟨rfl, hx2, hk2⟩
  have hr2 := HR.out.kept hk2 (by omega)
  obtain ⟨g0, g1, g2⟩ := hr2.three
  have hz2 := hk2.size
  have HP2 := Lib.hid ((Lay.bo.slice 4).sep_keep (fun q b1 b2 => hk2.other q (by omega) (by omega)) HP.out)
  have HT2 : Hid (TrI w2 m1 hi es (.slice A2 l2 c2)) := HT.out.keep fun q b1 b2 => hk2.other q (by omega) (by omega)
  have HK2 := Lib.hid (HK0.out.trans (hk2.more (Nat.le_refl _) hm0h))
  have HR2 := Lib.hid hr2
  clear hk2 g0 g2 hx2 HI HP HT HK0 hr2 HR
  go_wp2_with fail
  refine (mkBoX_any acc (fun _ => .slice A1 l1 c1) (m + ini.length) m0 m1 _ HP2.out (by omega) (by omega) (by omega)).mono ?_
  rintro e' w3 ⟨rfl, hx3, hk3⟩
  have hr3 := HR2.out.kept hk3 (by omega)
  clear g1
  obtain ⟨g0, g1, g2⟩ := hr3.three
  have hz3 := hk3.size
  have HT3 : Hid (TrI w3 m1 hi es (.slice A2 l2 c2)) := HT2.out.keep fun q b1 b2 => hk3.other q (by omega) (by omega)
  have HK3 := Lib.hid (HK2.out.trans (hk3.more hlm0 hm1h))
  clear hk3 g0 g1 hx3 HT2 HK2 hr3 HR2 HP2
  go_wp2_with fail
  refine (mkTrs_any es (.slice A2 l2 c2) (m + ini.length + acc.length) m1 hi _ HT3.out (by omega) (by omega) (by omega)).mono ?_
  rintro e' w4 ⟨rfl, hx4, hk4⟩
  have HK4 := Lib.hid (HK3.out.trans (hk4.more (by omega) (Nat.le_refl _)))
  clear hk4 g2 hx4
  go_wp2_with fail
  go_ret
  exact ⟨_, rfl, by omega, by omega, HK4.out⟩

end Go.Proofs.Ytldnegacgjijlaa

/- Slices of truth values of any length: the walks of laws.eqBoolS, laws.markBoolS and laws.heldBoolS. -/
import Derived.Test.YtldnegacgjijlaaGr
import Derived.Test.YtldnegacgjijlaaBs
import Derived.BigQuiet
namespace Go.Proofs.Ytldnegacgjijlaa
open Go.RowKit

/-- The slice holds n truth values in a row from lo on and below hi. -/
def BN (n : Nat) (w : World) (lo hi : Nat) (S : Value) (m : Nat → Bool) : Prop :=
  ∃ (A : Option Addr) (cap g : Nat) (t : TypeId), S = .slice A n cap ∧ n ≤ 1048576 ∧ ∀ i, i < n → A = some ⟨g, 0, none⟩ ∧ lo ≤ g ∧ g < hi ∧ ∃ cs, Row w g t cs ∧ ∀ q, q < n → cs[q]? = some (.bool (m q))

theorem BN.kept {n : Nat} {w w' : World} {lo hi lo' hi' : Nat} {S : Value} {m : Nat → Bool} (h : BN n w lo hi S m) (hk : Kept lo' hi' w w') (hn : hi ≤ lo' ∨ hi' ≤ lo) : BN n w' lo hi S m := by
  obtain ⟨A, cap, g, t, hS, hn1, h⟩ := h
  refine ⟨A, cap, g, t, hS, hn1, fun i hi => ?_⟩
  obtain ⟨h1, h2, h3, cs, h4, h5⟩ := h i hi
  exact ⟨h1, h2, h3, cs, h4.kept hk (by omega), h5⟩
theorem BN.under {n : Nat} {w w' : World} {lo hi : Nat} {S : Value} {m : Nat → Bool} (h : BN n w lo hi S m) (hb : Below w.heap.size w w') : BN n w' lo hi S m := by
  obtain ⟨A, cap, g, t, hS, hn1, h⟩ := h
  refine ⟨A, cap, g, t, hS, hn1, fun i hi => ?_⟩
  obtain ⟨h1, h2, h3, cs, h4, h5⟩ := h i hi
  exact ⟨h1, h2, h3, cs, h4.under hb h4.lt, h5⟩
theorem BN.congr {n : Nat} {w : World} {lo hi : Nat} {S : Value} {m m' : Nat → Bool} (h : BN n w lo hi S m) (hm : ∀ i, i < n → m i = m' i) : BN n w lo hi S m' := by
  obtain ⟨A, cap, g, t, hS, hn1, h⟩ := h
  refine ⟨A, cap, g, t, hS, hn1, fun i hi => ?_⟩
  obtain ⟨h1, h2, h3, cs, h4, h5⟩ := h i hi
  exact ⟨h1, h2, h3, cs, h4, fun q hq => by rw [h5 q hq, hm q hq]⟩
theorem BN.more {n : Nat} {w : World} {lo hi lo' hi' : Nat} {S : Value} {m : Nat → Bool} (h : BN n w lo hi S m) (hl : lo' ≤ lo) (hh : hi ≤ hi') : BN n w lo' hi' S m := by
  obtain ⟨A, cap, g, t, hS, hn1, h⟩ := h
  refine ⟨A, cap, g, t, hS, hn1, fun i hi => ?_⟩
  obtain ⟨h1, h2, h3, cs, h4, h5⟩ := h i hi
  exact ⟨h1, by omega, by omega, cs, h4, h5⟩
theorem BN.empty (w : World) (lo hi : Nat) (A : Option Addr) (cap : Nat) (m : Nat → Bool) : BN 0 w lo hi (.slice A 0 cap) m := ⟨A, cap, 0, 0, rfl, by omega, fun i hi => by omega⟩

set_option maxHeartbeats 400000 in
theorem eqBn_any {n : Nat} {w : World} {lo hi lo' hi' : Nat} {S S' : Value} {m : Nat → Bool} (h : BN n w lo hi S m) (h' : BN n w lo' hi' S' m) : Calls Try.prog 12 #[S, S'] w fun e' w' => e' = .returned (.bool true) ∧ Below w.heap.size w w' := by
  obtain ⟨A, cap, g, t, rfl, hn, h⟩ := h
  obtain ⟨A', cap', g', t', rfl, _, h'⟩ := h'
  have H := Lib.hid h
  have H' := Lib.hid h'
  clear h h'
  go_enter Try.func12, Try.ntmps12
  go_wp2_with fail
  go_loopw [5] (fun i wl => ∃ q : Nat, q ≤ n ∧ i = .int .i64 q ∧ Hid (Below w.heap.size w wl)) (fun i _ => n - (intOf i).toNat)
  case atStart => exact ⟨0, Nat.zero_le _, rfl, Below.refl _ _⟩
  case round =>
    obtain ⟨q, hq, rfl, HB⟩ := hrel
    by_cases hq3 : q < n
    · obtain ⟨a, ha⟩ : ∃ a, a = m q := ⟨_, rfl⟩
      obtain ⟨rfl, _, _, cs, r1, k1⟩ := H.out q hq3
      obtain ⟨rfl, _, _, cs', r2, k2⟩ := H'.out q hq3
      have s1 := r1.under HB.out r1.lt
      have s2 := r2.under HB.out r2.lt
      have c1 : wr.cell? ⟨g, q, none⟩ = some (.bool a) := by rw [s1.cell, k1 q hq3, ha]
      have c2 : wr.cell? ⟨g', q, none⟩ = some (.bool a) := by rw [s2.cell, k2 q hq3, ha]
      have l1 := s1.lt
      have l2 := s2.lt
      clear ha r1 r2 k1 k2 s1 s2
      cases a
      all_goals
        (go_wp2_with fail
         go_quiet (fail)
         go_wp2_with fail
         go_roundw
         case rel => exact ⟨q + 1, by omega, by go_num, below_drewN HB.out _⟩
         case measure => simp [intOf]; omega)
    · go_wp2_with fail
      go_ret
      exact ⟨rfl, HB.out⟩

/-- What a mark is. -/
def mk3 (k : Int) (i : Nat) : Bool := (k + i) % 3 == 0

theorem BN.set_ {n : Nat} {w : World} {lo hi q : Nat} {A : Option Addr} {cap : Nat} {m : Nat → Bool} (h : BN n w lo hi (.slice A n cap) m) (hq : q < n) (b : Bool) {g : Nat} (hA : A = some ⟨g, 0, none⟩) : BN n (w.setCell ⟨g, q, none⟩ (.bool b)) lo hi (.slice A n cap) (fun r => if r = q then b else m r) := by
  obtain ⟨A', cap', g', t, hS, hn, h⟩ := h
  injection hS with e1 e2 e3
  subst e1 e3
  refine ⟨A, cap, g', t, rfl, hn, fun i hi => ?_⟩
  obtain ⟨h1, h2, h3, cs, h4, h5⟩ := h i hi
  rw [hA] at h1
  injection h1 with h1
  injection h1 with h1
  subst h1
  refine ⟨hA, h2, h3, _, h4.set_ q (.bool b), fun r hr => ?_⟩
  rw [Array.getElem?_setIfInBounds]
  by_cases e : q = r
  · subst e
    have hs : q < cs.size := by
      rcases Nat.lt_or_ge q cs.size with hlt | hge
      · exact hlt
      · have := h5 q hq
        rw [Array.getElem?_eq_none hge] at this
        cases this
    dsimp only
    rw [if_pos rfl, if_pos hs, if_pos rfl]
  · dsimp only
    rw [if_neg e, if_neg (show ¬ r = q from fun h => e h.symm)]
    exact h5 r hr

set_option maxHeartbeats 400000 in
theorem markBn_any {n : Nat} {w : World} {lo hi : Nat} {S : Value} {m : Nat → Bool} (k : Int) (h : BN n w lo hi S m) (hk0 : 0 ≤ k) (hk1 : k ≤ 1099511627776) :
    Calls Try.prog 15 #[S, .int .i64 k] w fun e' w' => e' = .returned (.int .i64 (k + n)) ∧ BN n w' lo hi S (mk3 k) ∧ Kept lo hi w w' := by
  obtain ⟨A, cap, g, t, rfl, hn, h⟩ := h
  have H : Hid (BN n w lo hi (.slice A n cap) m) := ⟨A, cap, g, t, rfl, hn, h⟩
  clear h
  go_enter Try.func15, Try.ntmps15
  go_wp2_with fail
  go_loopw [1, 5] (fun mm i wl => ∃ q : Nat, q ≤ n ∧ i = .int .i64 q ∧ mm = .int .i64 (k + q) ∧ Hid (BN n wl lo hi (.slice A n cap) (fun r => if r < q then mk3 k r else m r)) ∧ Hid (Kept lo hi w wl)) (fun _ i _ => n - (intOf i).toNat)
  case atStart => exact ⟨0, Nat.zero_le _, rfl, by simp, H.out.congr (fun i _ => by simp), Kept.refl _ _ _⟩
  case round =>
    obtain ⟨q, hq, rfl, rfl, HN, HK⟩ := hrel
    by_cases hq3 : q < n
    · obtain ⟨A', cap', g', t', hS, _, h⟩ := HN.out
      injection hS with e1 e2 e3
      subst e1 e3
      obtain ⟨rfl, hlo, hhi, cs, r1, k1⟩ := h q hq3
      have c1 := r1.cell q
      rw [k1 q hq3] at c1
      have z1 := r1.frozen q
      have l1 := r1.lt
      have HST := Lib.hid ((HN.out.set_ hq3 (mk3 k q) rfl).congr (m' := fun r => if r < q + 1 then mk3 k r else m r) (fun r _ => by
        by_cases e : r = q
        · subst e; rw [if_pos rfl, if_pos (by omega)]
        · rw [if_neg e]
          by_cases e2 : r < q
          · rw [if_pos e2, if_pos (by omega)]
          · rw [if_neg e2, if_neg (by omega)]))
      have HK2 := Lib.hid (HK.out.trans (Kept.set_ lo hi wr hlo hhi q (.bool (mk3 k q))))
      clear h r1 k1
      go_wp2_with fail
      go_roundw
      case rel => exact ⟨q + 1, by omega, by go_num, by go_num, HST.out, HK2.out⟩
      case measure => simp [intOf]; omega
    · have hqq : q = n := by omega
      subst hqq
      go_wp2_with fail
      go_ret
      exact ⟨rfl, HN.out.congr (fun i hi => by rw [if_pos hi]), HK.out⟩

set_option maxHeartbeats 400000 in
theorem heldBn_any {n : Nat} {w : World} {lo hi : Nat} {S : Value} (k : Int) (h : BN n w lo hi S (mk3 k)) (hk0 : 0 ≤ k) (hk1 : k ≤ 1099511627776) :
    Calls Try.prog 16 #[S, .int .i64 k] w fun e' w' => e' = .returned (.int .i64 (k + n)) ∧ Below w.heap.size w w' := by
  obtain ⟨A, cap, g, t, rfl, hn, h⟩ := h
  have H := Lib.hid h
  clear h
  go_enter Try.func16, Try.ntmps16
  go_wp2_with fail
  go_loopw [1, 5] (fun mm i wl => ∃ q : Nat, q ≤ n ∧ i = .int .i64 q ∧ mm = .int .i64 (k + q) ∧ Hid (Below w.heap.size w wl)) (fun _ i _ => n - (intOf i).toNat)
  case atStart => exact ⟨0, Nat.zero_le _, rfl, by simp, Below.refl _ _⟩
  case round =>
    obtain ⟨q, hq, rfl, rfl, HB⟩ := hrel
    by_cases hq3 : q < n
    · obtain ⟨rfl, hlo, hhi, cs, r1, k1⟩ := H.out q hq3
      have s1 := r1.under HB.out r1.lt
      have c1 : wr.cell? ⟨g, q, none⟩ = some (.bool ((k + q) % 3 == 0)) := by rw [s1.cell, k1 q hq3]; rfl
      have l1 := s1.lt
      clear r1 k1 s1
      go_wp2_with fail
      go_roundw
      case rel => exact ⟨q + 1, by omega, by go_num, by go_num, HB⟩
      case measure => simp [intOf]; omega
    · have hqq : q = n := by omega
      subst hqq
      go_wp2_with fail
      go_ret
      exact ⟨rfl, HB.out⟩

end Go.Proofs.Ytldnegacgjijlaa

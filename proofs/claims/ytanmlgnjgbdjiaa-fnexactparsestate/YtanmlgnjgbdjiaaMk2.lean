/- Marks of states, exactly: the walks of laws.markIntS, laws.heldIntS, laws.markState and laws.heldState. -/
import Derived.Test.YtanmlgnjgbdjiaaMkS
import Derived.Test.YtanmlgnjgbdjiaaSta
namespace Go.Proofs.Ytanmlgnjgbdjiaa
open Go.RowKit

/-- The n numbers from m on. -/
def from_ (m : Int) (n : Nat) : List Int := (List.range n).map fun i : Nat => m + (i : Int)
theorem from_length (m : Int) (n : Nat) : (from_ m n).length = n := by simp [from_]
theorem from_get {m : Int} {n i : Nat} {z : Int} (h : (from_ m n)[i]? = some z) : i < n ∧ z = m + i := by
  have hi := (List.getElem?_eq_some_iff.1 h).1
  rw [from_length] at hi
  refine ⟨hi, ?_⟩
  simp [from_, hi] at h
  omega
theorem from_at {m : Int} {n i : Nat} (h : i < n) : (from_ m n)[i]? = some (m + i) := by simp [from_, h]

/-- The first n cells of the row hold the numbers from m on, the others what they held. -/
def Half (g : Nat) (t : TypeId) (m : Int) (n : Nat) (w w' : World) : Prop := ∀ cs, Row w g t cs → ∃ cs', Row w' g t cs' ∧ cs'.size = cs.size ∧ (∀ i, n ≤ i → cs'[i]? = cs[i]?) ∧ ∀ i, i < n → i < cs.size → cs'[i]? = some (.int .i64 (m + i))
theorem Half.refl (g : Nat) (t : TypeId) (m : Int) (w : World) : Half g t m 0 w w := fun cs h => ⟨cs, h, rfl, fun _ _ => rfl, fun _ h => absurd h (Nat.not_lt_zero _)⟩
theorem Half.step {g : Nat} {t : TypeId} {m : Int} {n : Nat} {w w' : World} (h : Half g t m n w w') : Half g t m (n + 1) w (w'.setCell ⟨g, n, none⟩ (.int .i64 (m + n))) := fun cs hr => by
  obtain ⟨cs', h1, h2, h3, h4⟩ := h cs hr
  refine ⟨_, h1.set_ n _, by simp [h2], fun i hi => ?_, fun i hi hs => ?_⟩
  · rw [Array.getElem?_setIfInBounds, if_neg (by omega)]
    exact h3 i (by omega)
  · rw [Array.getElem?_setIfInBounds]
    by_cases e : n = i
    · subst e
      rw [if_pos rfl, if_pos (by omega)]
    · rw [if_neg e]
      exact h4 i (by omega) hs

set_option maxHeartbeats 400000 in
theorem mkInX_any (zs : List Int) (C : Nat → Value) (m : Int) (lo hi : Nat) (w : World) (h : (Lay.int.slice 3).sep w lo hi zs C) (hz : zs.length ≤ 1048576) (hm0 : 0 ≤ m) (hm1 : m ≤ 549755813888) :
    Calls Try.prog 65 #[C 0, .int .i64 m] w fun e' w' => e' = .returned (.int .i64 (m + zs.length)) ∧ (Lay.int.slice 3).sep w' lo hi (from_ m zs.length) C ∧ Kept lo hi w w' := by
  obtain ⟨A, cap, g, cs, D, s, hC, hl, h3, h4, h5, h6⟩ := h
  have KEY : Hid (∀ w', Half g 3 m zs.length w w' → (Lay.int.slice 3).sep w' lo hi (from_ m zs.length) C) := fun w' hH => by
    by_cases h0 : zs.length = 0
    · rw [h0] at hC ⊢
      exact ⟨A, cap, g, #[], fun _ _ => undef, fun _ => lo, by rw [from_length]; exact hC, by rw [from_length]; exact Nat.zero_le _, fun _ _ => Nat.le_refl _, Nat.le_refl _, by
        rw [h0] at h5
        dsimp only
        omega, fun i x hx => by have := (from_get hx).1; omega⟩
    · obtain ⟨x0, hx0⟩ : ∃ x, zs[0]? = some x := ⟨_, List.getElem?_eq_getElem (by omega)⟩
      obtain ⟨a1, a2, a3, a4, a5, a6, a7⟩ := h6 0 x0 hx0
      obtain ⟨cs', r1, r2, r3, r4⟩ := hH cs a5
      refine ⟨A, cap, g, cs', fun i _ => .int .i64 (m + i), s, by rw [from_length]; exact hC, by rw [from_length]; exact hl, by rw [from_length]; exact h3, h4, by rw [from_length]; exact h5, fun i x hx => ?_⟩
      rw [from_length]
      obtain ⟨hi, hxe⟩ := from_get hx
      refine ⟨a1, a2, a3, a4, r1, fun j hj => ?_, by rw [hxe]; rfl⟩
      have hj0 : j = 0 := by have : j < 1 := hj; omega
      subst hj0
      obtain ⟨y, hy⟩ : ∃ y, zs[i]? = some y := ⟨_, List.getElem?_eq_getElem hi⟩
      obtain ⟨_, _, _, _, _, b6, _⟩ := h6 i y hy
      have hb := b6 0 (by decide)
      show cs'[i * 1 + 0]? = some (.int .i64 (m + i))
      rw [show Lay.int.st = 1 from rfl, Nat.mul_one, Nat.add_zero] at hb
      rw [Nat.mul_one, Nat.add_zero]
      exact r4 i hi (by
        rcases Nat.lt_or_ge i cs.size with hlt | hge
        · exact hlt
        · rw [Array.getElem?_eq_none hge] at hb; cases hb)
  rw [hC]
  have H6 := Lib.hid h6
  clear hC hl h3 h4 h5 h6
  go_enter Try.func65, Try.ntmps65
  go_wp2_with fail
  go_loopw [1, 5] (fun mm i wl => ∃ j : Nat, j ≤ zs.length ∧ i = .int .i64 j ∧ mm = .int .i64 (m + j) ∧ Hid (Half g 3 m j w wl) ∧ Hid (Kept lo hi w wl)) (fun _ i _ => zs.length - (intOf i).toNat)
  case atStart => exact ⟨0, Nat.zero_le _, rfl, by simp, Half.refl _ _ _ _, Kept.refl _ _ _⟩
  case round =>
    obtain ⟨j, hj, rfl, rfl, HT, HK⟩ := hrel
    by_cases hlt : j < zs.length
    · obtain ⟨x, hx⟩ : ∃ x, zs[j]? = some x := ⟨_, List.getElem?_eq_getElem hlt⟩
      obtain ⟨rfl, a2, a3, a4, a5, a6, a7⟩ := H6.out j x hx
      obtain ⟨cs', r1, e1, e2, _⟩ := HT.out cs a5
      have c0 : wr.cell? ⟨g, j, none⟩ = some (D j 0) := by
        rw [r1.cell, e2 j (Nat.le_refl _)]
        have := a6 0 (by decide)
        rw [show Lay.int.st = 1 from rfl, Nat.mul_one, Nat.add_zero] at this
        exact this
      have z0 := r1.frozen j
      have l0 := r1.lt
      have HT2 := Lib.hid HT.out.step
      have HK2 := Lib.hid (HK.out.trans (Kept.set_ lo hi wr a2 a3 j (.int .i64 (m + j))))
      clear hx a5 a6 a7 r1 e1 e2
      go_wp2_with fail
      go_roundw
      case rel => exact ⟨j + 1, by omega, by go_num, by go_num, HT2, HK2⟩
      case measure => simp [intOf]; omega
    · have hjj : j = zs.length := by omega
      subst hjj
      go_wp2_with fail
      go_ret
      exact ⟨rfl, KEY.out _ HT.out, HK.out⟩

set_option maxHeartbeats 400000 in
theorem heldIn_any (n : Nat) (C : Nat → Value) (m : Int) (w : World) (h : (Lay.int.slice 3).lies w w.heap.size (from_ m n) C) (hn : n ≤ 1048576) (hm0 : 0 ≤ m) (hm1 : m ≤ 549755813888) :
    Calls Try.prog 67 #[C 0, .int .i64 m] w fun e' w' => e' = .returned (.int .i64 (m + n)) ∧ w = w' := by
  obtain ⟨A, cap, b, off, D, hC, hl, hO⟩ := h
  rw [hC, from_length]
  have HI := Lib.hid (ints_of hO)
  clear hC hl hO
  go_enter Try.func67, Try.ntmps67
  go_wp2_with fail
  go_loopw [1, 5] (fun mm i wl => ∃ q : Nat, q ≤ n ∧ i = .int .i64 q ∧ mm = .int .i64 (m + q) ∧ wl = w) (fun _ i _ => n - (intOf i).toNat)
  case atStart => exact ⟨0, Nat.zero_le _, rfl, by simp, rfl⟩
  case round =>
    obtain ⟨q, hq, rfl, rfl, rfl⟩ := hrel
    by_cases hq3 : q < n
    · obtain ⟨rfl, hb, g0⟩ := HI.out q (m + q) (from_at hq3)
      go_wp2_with fail
      go_roundw
      case rel => exact ⟨q + 1, by omega, by go_num, by go_num, (by first | rfl | trivial)⟩
      case measure => simp [intOf]; omega
    · have hqq : q = n := by omega
      subst hqq
      go_wp2_with fail
      go_ret
      exact ⟨rfl, (by first | rfl | trivial)⟩

/-- What a marked state is. -/
def markedSt (s : St) : St := ⟨from_ 1 s.locs.length, from_ (1 + s.locs.length) s.vals.length⟩
/-- A state in two rows of one's own. -/
def StR (w : World) (lo hi : Nat) (s : St) (X Y : Value) : Prop := ∃ m0 m1 n0 n1 : Nat, (lo ≤ m0 ∧ m0 ≤ m1 ∧ m1 ≤ hi ∧ lo ≤ n0 ∧ n0 ≤ n1 ∧ n1 ≤ hi ∧ (m1 ≤ n0 ∨ n1 ≤ m0)) ∧ (Lay.int.slice 3).sep w m0 m1 s.locs (fun _ => X) ∧ (Lay.int.slice 3).sep w n0 n1 s.vals (fun _ => Y)
theorem StR.keep {w w' : World} {lo hi : Nat} {s : St} {X Y : Value} (h : StR w lo hi s X Y) (hk : ∀ g, lo ≤ g → g < hi → w'.heap[g]? = w.heap[g]?) : StR w' lo hi s X Y := by
  obtain ⟨m0, m1, n0, n1, ho, h1, h2⟩ := h
  exact ⟨m0, m1, n0, n1, ho, (Lay.int.slice _).sep_keep (fun g a b => hk g (by omega) (by omega)) h1, (Lay.int.slice _).sep_keep (fun g a b => hk g (by omega) (by omega)) h2⟩
theorem StR.under {w w' : World} {lo hi : Nat} {s : St} {X Y : Value} (h : StR w lo hi s X Y) (hb : Below w.heap.size w w') (hh : hi ≤ w.heap.size) : StR w' lo hi s X Y := h.keep fun g _ hg => hb.block g (by omega)
theorem StR.kept {w w' : World} {lo hi lo' hi' : Nat} {s : St} {X Y : Value} (h : StR w lo hi s X Y) (hk : Kept lo' hi' w w') (hh : hi ≤ w.heap.size) (hd : hi ≤ lo' ∨ hi' ≤ lo) : StR w' lo hi s X Y := h.keep fun g h1 h2 => hk.other g (by omega) (by omega)
theorem StR.more {w : World} {lo hi lo' hi' : Nat} {s : St} {X Y : Value} (h : StR w lo hi s X Y) (hl : lo' ≤ lo) (hh : hi ≤ hi') : StR w lo' hi' s X Y := by
  obtain ⟨m0, m1, n0, n1, ho, h1, h2⟩ := h
  exact ⟨m0, m1, n0, n1, by omega, h1, h2⟩
theorem StR.lies {w : World} {lo hi B : Nat} {s : St} {X Y : Value} (h : StR w lo hi s X Y) (hB : hi ≤ B) : Lay.sta.lies w B s (fun j => (#[X, Y] : Array Value).getD j undef) := by
  obtain ⟨m0, m1, n0, n1, ho, h1, h2⟩ := h
  refine ⟨(Lay.int.slice _).more (B := m1) ((Lay.int.slice _).lies_ext (fun q hq => ?_) ((Lay.int.slice _).sep_lies h1)) (by omega), (Lay.int.slice _).more (B := n1) ((Lay.int.slice _).lies_ext (fun q hq => ?_) ((Lay.int.slice _).sep_lies h2)) (by omega)⟩ <;>
  · have : q = 0 := by have : q < 1 := hq; omega
    subst this
    rfl
theorem StR.form {w : World} {lo hi : Nat} {s : St} {X Y : Value} (h : StR w lo hi s X Y) : ∃ xa xc ya yc, X = .slice xa s.locs.length xc ∧ Y = .slice ya s.vals.length yc := by
  obtain ⟨m0, m1, n0, n1, ho, ⟨A, cap, _, _, _, _, e1, _⟩, ⟨A', cap', _, _, _, _, e2, _⟩⟩ := h
  exact ⟨A, cap, A', cap', e1, e2⟩

set_option maxHeartbeats 400000 in
theorem mkSt_any (s : St) (xa : Option Addr) (xl xc : Nat) (ya : Option Addr) (yl yc lo hi : Nat) (w : World) (h : StR w lo hi s (.slice xa xl xc) (.slice ya yl yc)) (hhi : hi ≤ w.heap.size) (h1 : s.locs.length ≤ 1048576) (h2 : s.vals.length ≤ 1048576) :
    Calls Try.prog 20 #[.agg #[.slice xa xl xc, .slice ya yl yc], .int .i64 1] w fun e' w' => e' = .returned (.int .i64 (1 + s.locs.length + s.vals.length)) ∧ StR w' lo hi (markedSt s) (.slice xa xl xc) (.slice ya yl yc) ∧ Kept lo hi w w' := by
  obtain ⟨locs, vals⟩ := s
  obtain ⟨m0, m1, n0, n1, ho, hi1, hp1⟩ := h
  dsimp only at hi1 hp1 h1 h2
  obtain ⟨W1, hW1⟩ : ∃ W1, W1 = w.alloc (.cells #[.slice xa xl xc, .slice ya yl yc] 28) := ⟨_, rfl⟩
  have hb0 : Below w.heap.size w W1 := by rw [hW1]; exact (Below.refl _ _).alloc (Nat.le_refl _) _
  have HR : Hid (Row W1 w.heap.size 28 #[.slice xa xl xc, .slice ya yl yc]) := by rw [hW1]; exact Row.new _ _ _
  have HI := Lib.hid ((Lay.int.slice _).sunder hi1 hb0 (by omega))
  have HP := Lib.hid ((Lay.int.slice _).sunder hp1 hb0 (by omega))
  have HK0 : Hid (Kept lo hi w W1) := Kept.of_below hb0 lo hi
  have hs1 := hb0.size
  have HW1 := Lib.hid hW1
  have HO := Lib.hid ho
  clear hW1 hb0 hi1 hp1 ho
  go_enter Try.func20, Try.ntmps20
  go_wp2_with fail
  rw [← HW1.out]
  refine (mkInX_any locs (fun _ => .slice xa xl xc) 1 m0 m1 _ HI.out h1 (by omega) (by omega)).mono ?_
  rintro e' w2 ⟨rfl, hx2, hk2⟩
  obtain ⟨g0, g1⟩ := (HR.out.kept hk2 (by have := HO.out; omega)).two
  have hz2 := hk2.size
  have HP2 := Lib.hid ((Lay.int.slice 3).sep_keep (fun q b1 b2 => hk2.other q (by have := HO.out; omega) (by have := HO.out; omega)) HP.out)
  have HX2 := Lib.hid hx2
  have HK2 := Lib.hid (HK0.out.trans (hk2.more HO.out.1 HO.out.2.2.1))
  clear hk2 g0 hx2
  go_wp2_with fail
  refine (mkInX_any vals (fun _ => .slice ya yl yc) (1 + locs.length) n0 n1 _ HP2.out h2 (by omega) (by omega)).mono ?_
  rintro e' w3 ⟨rfl, hx3, hk3⟩
  have HK3 := Lib.hid (HK2.out.trans (hk3.more HO.out.2.2.2.1 HO.out.2.2.2.2.2.1))
  have HX3 : Hid (StR w3 lo hi (markedSt ⟨locs, vals⟩) (.slice xa xl xc) (.slice ya yl yc)) := ⟨m0, m1, n0, n1, HO.out, (Lay.int.slice _).sep_keep (fun q b1 b2 => hk3.other q (by have := HO.out; omega) (by have := HO.out; omega)) HX2.out, hx3⟩
  clear hk3 g1 hx3
  go_wp2_with fail
  go_ret
  exact ⟨rfl, HX3.out, HK3.out⟩

set_option maxHeartbeats 400000 in
theorem heldSt_any (s : St) (C : Nat → Value) (w : World) (h : Lay.sta.lies w w.heap.size (markedSt s) C) (h1 : s.locs.length ≤ 1048576) (h2 : s.vals.length ≤ 1048576) :
    Calls Try.prog 21 #[.agg #[C 0, C 1], .int .i64 1] w fun e' w' => e' = .returned (.int .i64 (1 + s.locs.length + s.vals.length)) ∧ Below w.heap.size w w' := by
  obtain ⟨locs, vals⟩ := s
  obtain ⟨h3, h4⟩ := h
  dsimp only [markedSt] at h1 h2 h3 h4
  obtain ⟨W1, hW1⟩ : ∃ W1, W1 = w.alloc (.cells #[C 0, C 1] 28) := ⟨_, rfl⟩
  have hb0 : Below w.heap.size w W1 := by rw [hW1]; exact (Below.refl _ _).alloc (Nat.le_refl _) _
  have HR : Hid (Row W1 w.heap.size 28 #[C 0, C 1]) := by rw [hW1]; exact Row.new _ _ _
  have HI := Lib.hid ((Lay.int.slice _).later h3 hb0 hb0.size)
  have HP := Lib.hid ((Lay.int.slice _).later h4 hb0 hb0.size)
  have HB0 := Lib.hid hb0
  have HW1 := Lib.hid hW1
  clear hW1 hb0 h3 h4
  go_enter Try.func21, Try.ntmps21
  go_wp2_with fail
  rw [← HW1.out]
  refine (heldIn_any locs.length C 1 _ HI.out h1 (by omega) (by omega)).mono ?_
  rintro e' w2 ⟨rfl, rfl⟩
  obtain ⟨g0, g1⟩ := HR.out.two
  go_wp2_with fail
  refine (heldIn_any vals.length (fun j => C ((Lay.int.slice 3).st + j)) (1 + locs.length) _ HP.out h2 (by omega) (by omega)).mono ?_
  rintro e' w3 ⟨rfl, rfl⟩
  go_wp2_with fail
  go_ret
  exact ⟨rfl, HB0.out⟩

end Go.Proofs.Ytanmlgnjgbdjiaa

/- Marks of edges: the walks of laws.markTransitionS and laws.heldTransitionS. -/
import Derived.Test.YtldnegacgjijlaaTrT
import Derived.Test.YtldnegacgjijlaaMkI
import Derived.StillTailTactics
namespace Go.Proofs.Ytldnegacgjijlaa
open Go.RowKit

/-- The steps that marks from m on leave. -/
def mkTr (m : Int) (i : Nat) : Tr := ⟨m + 4 * i, m + 4 * i + 1, m + 4 * i + 2, m + 4 * i + 3⟩
def mkTrs (m : Int) (n : Nat) : List Tr := (List.range n).map (mkTr m)
theorem mkTrs_length (m : Int) (n : Nat) : (mkTrs m n).length = n := by simp [mkTrs]
theorem mkTrs_get {m : Int} {n i : Nat} {s : Tr} (h : (mkTrs m n)[i]? = some s) : i < n ∧ s = mkTr m i := by
  have hi := (List.getElem?_eq_some_iff.1 h).1
  rw [mkTrs_length] at hi
  refine ⟨hi, ?_⟩
  simp [mkTrs, hi] at h
  exact h.symm
theorem mkTrs_at {m : Int} {n i : Nat} (h : i < n) : (mkTrs m n)[i]? = some (mkTr m i) := by simp [mkTrs, h]

/-- A slice of steps in one row of one's own. -/
def TrI (w : World) (lo hi : Nat) (l : List Tr) (v : Value) : Prop := ∃ (A : Option Addr) (cap : Nat), v = .slice A l.length cap ∧ (l = [] ∨ ∃ g cs, A = some ⟨g, 0, none⟩ ∧ lo ≤ g ∧ g < hi ∧ Row w g 116 cs ∧ ∀ (i : Nat) (s : Tr), l[i]? = some s → cs[i * 4]? = some (.int .i64 s.fr) ∧ cs[i * 4 + 1]? = some (.int .i64 s.ca) ∧ cs[i * 4 + 2]? = some (.int .i64 s.va) ∧ cs[i * 4 + 3]? = some (.int .i64 s.tt))
theorem TrI.keep {w w1 : World} {lo hi : Nat} {l : List Tr} {v : Value} (h : TrI w lo hi l v) (hk : ∀ g, lo ≤ g → g < hi → w1.heap[g]? = w.heap[g]?) : TrI w1 lo hi l v := by
  obtain ⟨A, cap, hv, h1⟩ := h
  refine ⟨A, cap, hv, ?_⟩
  rcases h1 with h1 | ⟨g, cs, hA, h2, h3, hr, hc⟩
  · exact .inl h1
  · exact .inr ⟨g, cs, hA, h2, h3, (hk g h2 h3).trans hr, hc⟩
theorem TrI.under {w w1 : World} {lo hi B : Nat} {l : List Tr} {v : Value} (h : TrI w lo hi l v) (hb : Below B w w1) (hB : hi ≤ B) : TrI w1 lo hi l v := h.keep fun g _ hg => hb.block g (by omega)
theorem TrI.kept {w w1 : World} {lo hi lo' hi' : Nat} {l : List Tr} {v : Value} (h : TrI w lo hi l v) (hk : Kept lo' hi' w w1) (hh : hi ≤ w.heap.size) (hd : hi ≤ lo' ∨ hi' ≤ lo) : TrI w1 lo hi l v := h.keep fun g h1 h2 => hk.other g (by omega) (by omega)
/-- The first n steps are marked, the rest is as it was. -/
def HalfT (g : Nat) (m : Int) (n : Nat) (w w' : World) : Prop := ∀ cs, Row w g 116 cs → ∃ cs', Row w' g 116 cs' ∧ cs'.size = cs.size ∧ (∀ i, n * 4 ≤ i → cs'[i]? = cs[i]?) ∧ ∀ i, i < n → i * 4 + 3 < cs.size → cs'[i * 4]? = some (.int .i64 (mkTr m i).fr) ∧ cs'[i * 4 + 1]? = some (.int .i64 (mkTr m i).ca) ∧ cs'[i * 4 + 2]? = some (.int .i64 (mkTr m i).va) ∧ cs'[i * 4 + 3]? = some (.int .i64 (mkTr m i).tt)
theorem HalfT.refl (g : Nat) (m : Int) (w : World) : HalfT g m 0 w w := fun cs h => ⟨cs, h, rfl, fun _ _ => rfl, fun _ h => absurd h (Nat.not_lt_zero _)⟩
theorem HalfT.step {g : Nat} {m : Int} {n : Nat} {w w' : World} (h : HalfT g m n w w') : HalfT g m (n + 1) w ((((w'.setCell ⟨g, n * 4, none⟩ (.int .i64 (mkTr m n).fr)).setCell ⟨g, n * 4 + 1, none⟩ (.int .i64 (mkTr m n).ca)).setCell ⟨g, n * 4 + 2, none⟩ (.int .i64 (mkTr m n).va)).setCell ⟨g, n * 4 + 3, none⟩ (.int .i64 (mkTr m n).tt)) := fun cs hr => by
  obtain ⟨cs', h1, h2, h3, h4⟩ := h cs hr
  refine ⟨_, (((h1.set_ _ _).set_ _ _).set_ _ _).set_ _ _, by simp [h2], fun i hi => ?_, fun i hi hs => ?_⟩
  · simp only [Array.getElem?_setIfInBounds]
    rw [if_neg (by omega), if_neg (by omega), if_neg (by omega), if_neg (by omega)]
    exact h3 i (by omega)
  · by_cases e : i = n
    · subst e
      simp only [Array.getElem?_setIfInBounds, Array.size_setIfInBounds, h2]
      refine ⟨?_, ?_, ?_, ?_⟩
      · rw [if_neg (by omega), if_neg (by omega), if_neg (by omega), if_pos trivial, if_pos (by omega)]
      · rw [if_neg (by omega), if_neg (by omega), if_pos trivial, if_pos (by omega)]
      · rw [if_neg (by omega), if_pos trivial, if_pos (by omega)]
      · rw [if_pos trivial, if_pos (by omega)]
    · simp only [Array.getElem?_setIfInBounds]
      obtain ⟨a0, a1, a2, a3⟩ := h4 i (by omega) hs
      refine ⟨?_, ?_, ?_, ?_⟩
      all_goals rw [if_neg (by omega), if_neg (by omega), if_neg (by omega), if_neg (by omega)]; assumption

set_option maxHeartbeats 1000000 in
set_option maxRecDepth 100000 in
theorem mkTrs_any (l : List Tr) (v : Value) (m : Int) (lo hi : Nat) (w : World) (h : TrI w lo hi l v) (hz : l.length ≤ 1048576) (hm0 : 0 ≤ m) (hm1 : m ≤ 549755813888) :
    Calls Try.prog 70 #[v, .int .i64 m] w fun e' w' => e' = .returned (.int .i64 (m + 4 * l.length)) ∧ TrI w' lo hi (mkTrs m l.length) v ∧ Kept lo hi w w' := by
  obtain ⟨A, cap, hv, h1⟩ := h
  subst hv
  obtain ⟨n, hn⟩ : ∃ n, n = l.length := ⟨_, rfl⟩
  have KEY : Hid (∀ g cs w', A = some ⟨g, 0, none⟩ → lo ≤ g → g < hi → Row w g 116 cs → (∀ i, i < n → i * 4 + 3 < cs.size) → HalfT g m n w w' → TrI w' lo hi (mkTrs m n) (.slice A n cap)) := fun g cs w' hA h2 h3 hr hcs hH => by
    obtain ⟨cs', r1, r2, r3, r4⟩ := hH cs hr
    refine ⟨A, cap, by rw [mkTrs_length], .inr ⟨g, cs', hA, h2, h3, r1, fun i s hs => ?_⟩⟩
    obtain ⟨hi', rfl⟩ := mkTrs_get hs
    exact r4 i hi' (hcs i hi')
  have HN := Lib.hid hn
  rw [← hn] at hz ⊢
  rcases h1 with h1 | ⟨g, cs, hA, h2, h3, hr, hc⟩
  · have hn0 : n = 0 := by rw [hn, h1]; rfl
    clear hn
    subst hn0
    go_enter Try.func70, Try.ntmps70
    go_wp2_with fail
    go_loopw [1, 5] (fun mm i wl => mm = .int .i64 m ∧ i = .int .i64 0 ∧ w = wl) (fun _ _ _ => 0)
    case atStart => exact ⟨rfl, rfl, rfl⟩
    case round =>
      obtain ⟨rfl, rfl, rfl⟩ := hrel
      go_wp2_with fail
      go_ret
      exact ⟨ret_int (by omega), ⟨A, cap, rfl, .inl rfl⟩, Kept.refl _ _ _⟩
  · have hcs : ∀ i, i < n → i * 4 + 3 < cs.size := fun i hi => by
      obtain ⟨x, hx⟩ : ∃ x, l[i]? = some x := ⟨_, List.getElem?_eq_getElem (by rw [← hn]; exact hi)⟩
      exact (Array.getElem?_eq_some_iff.1 (hc i x hx).2.2.2).1
    have HCs := Lib.hid hcs
    have HRw := Lib.hid hr
    have HA := Lib.hid hA
    clear hn hr hc hcs
    go_enter Try.func70, Try.ntmps70
    go_wp2_with fail
    go_loopw [1, 5] (fun mm i wl => ∃ j : Nat, j ≤ n ∧ i = .int .i64 j ∧ mm = .int .i64 (m + 4 * j) ∧ Hid (HalfT g m j w wl) ∧ Hid (Kept lo hi w wl)) (fun _ i _ => n - (intOf i).toNat)
    case atStart => exact ⟨0, Nat.zero_le _, rfl, by simp, HalfT.refl _ _ _, Kept.refl _ _ _⟩
    case round =>
      obtain ⟨j, hj, rfl, rfl, HT, HK⟩ := hrel
      by_cases hlt : j < n
      · subst hA
        obtain ⟨cs', r1, e1, e2, _⟩ := HT.out cs HRw.out
        have hs := HCs.out j hlt
        obtain ⟨y0, c0⟩ : ∃ y, wr.cell? ⟨g, j * 4, none⟩ = some y := ⟨_, by rw [r1.cell]; exact Array.getElem?_eq_getElem (by omega)⟩
        obtain ⟨y1, c1⟩ : ∃ y, wr.cell? ⟨g, j * 4 + 1, none⟩ = some y := ⟨_, by rw [r1.cell]; exact Array.getElem?_eq_getElem (by omega)⟩
        obtain ⟨y2, c2⟩ : ∃ y, wr.cell? ⟨g, j * 4 + 2, none⟩ = some y := ⟨_, by rw [r1.cell]; exact Array.getElem?_eq_getElem (by omega)⟩
        obtain ⟨y3, c3⟩ : ∃ y, wr.cell? ⟨g, j * 4 + 3, none⟩ = some y := ⟨_, by rw [r1.cell]; exact Array.getElem?_eq_getElem (by omega)⟩
        have z0 := r1.frozen (j * 4)
        have z1 := r1.frozen (j * 4 + 1)
        have z2 := r1.frozen (j * 4 + 2)
        have z3 := r1.frozen (j * 4 + 3)
        have l0 := r1.lt
        have HT2 : Hid (HalfT g m (j + 1) w ((((wr.setCell ⟨g, j * 4, none⟩ (.int .i64 (m + 4 * j))).setCell ⟨g, j * 4 + 1, none⟩ (.int .i64 (m + 4 * j + 1))).setCell ⟨g, j * 4 + 2, none⟩ (.int .i64 (m + 4 * j + 1 + 1))).setCell ⟨g, j * 4 + 3, none⟩ (.int .i64 (m + 4 * j + 1 + 1 + 1)))) := by
          have h := HT.out.step
          rw [show (mkTr m j).fr = m + 4 * j from rfl, show (mkTr m j).ca = m + 4 * j + 1 from rfl, show (mkTr m j).va = m + 4 * j + 1 + 1 from by show m + 4 * j + 2 = _; omega, show (mkTr m j).tt = m + 4 * j + 1 + 1 + 1 from by show m + 4 * j + 3 = _; omega] at h
          exact h
        have HK2 : Hid (Kept lo hi w ((((wr.setCell ⟨g, j * 4, none⟩ (.int .i64 (m + 4 * j))).setCell ⟨g, j * 4 + 1, none⟩ (.int .i64 (m + 4 * j + 1))).setCell ⟨g, j * 4 + 2, none⟩ (.int .i64 (m + 4 * j + 1 + 1))).setCell ⟨g, j * 4 + 3, none⟩ (.int .i64 (m + 4 * j + 1 + 1 + 1)))) :=
          (((HK.out.trans (Kept.set_ lo hi _ h2 h3 _ _)).trans (Kept.set_ lo hi _ h2 h3 _ _)).trans (Kept.set_ lo hi _ h2 h3 _ _)).trans (Kept.set_ lo hi _ h2 h3 _ _)
        clear r1 e1 e2
        go_wp2_with fail
        go_roundw
        case rel => exact ⟨j + 1, by omega, by go_num, by go_num, HT2, HK2⟩
        case measure => simp [intOf]; omega
      · have hjj : j = n := by omega
        subst hjj
        have HF := Lib.hid (KEY.out g cs wr HA.out h2 h3 HRw.out HCs.out HT.out)
        go_wp2_with fail
        go_ret
        exact ⟨rfl, HF.out, HK.out⟩

set_option maxHeartbeats 1000000 in
set_option maxRecDepth 100000 in
theorem heldTrs_any (n : Nat) (v : Value) (m : Int) (lo hi : Nat) (w : World) (h : TrI w lo hi (mkTrs m n) v) (hz : n ≤ 1048576) (hm0 : 0 ≤ m) (hm1 : m ≤ 1048576) :
    Calls Try.prog 71 #[v, .int .i64 m] w fun e' w' => e' = .returned (.int .i64 (m + 4 * n)) ∧ w = w' := by
  obtain ⟨A, cap, hv, h1⟩ := h
  rw [mkTrs_length] at hv
  subst hv
  have HA : Hid (∀ j, j < n → ∃ g, A = some ⟨g, 0, none⟩ ∧ w.cell? ⟨g, j * 4, none⟩ = some (.int .i64 (m + 4 * j)) ∧ w.cell? ⟨g, j * 4 + 1, none⟩ = some (.int .i64 (m + 4 * j + 1)) ∧ w.cell? ⟨g, j * 4 + 2, none⟩ = some (.int .i64 (m + 4 * j + 1 + 1)) ∧ w.cell? ⟨g, j * 4 + 3, none⟩ = some (.int .i64 (m + 4 * j + 1 + 1 + 1))) := fun j hj => by
    rcases h1 with h1 | ⟨g, cs, hA, _, _, hr, hc⟩
    · have := congrArg List.length h1
      rw [mkTrs_length] at this
      simp at this
      omega
    · obtain ⟨k0, k1, k2, k3⟩ := hc j _ (mkTrs_at hj)
      refine ⟨g, hA, ?_, ?_, ?_, ?_⟩
      · rw [hr.cell]; exact k0
      · rw [hr.cell]; exact k1
      · rw [hr.cell, k2]; show some (Value.int .i64 (m + 4 * j + 2)) = _; rw [show m + 4 * (j : Int) + 1 + 1 = m + 4 * j + 2 by omega]
      · rw [hr.cell, k3]; show some (Value.int .i64 (m + 4 * j + 3)) = _; rw [show m + 4 * (j : Int) + 1 + 1 + 1 = m + 4 * j + 3 by omega]
  clear h1
  go_enter Try.func71, Try.ntmps71
  go_wp2_with fail
  go_loop [1, 5] (fun mm i => ∃ j : Nat, j ≤ n ∧ i = .int .i64 j ∧ mm = .int .i64 (m + 4 * j)) (fun _ i => n - (intOf i).toNat)
  case atStart => exact ⟨0, Nat.zero_le _, rfl, by simp⟩
  case round =>
    obtain ⟨j, hj, rfl, rfl⟩ := hrel
    by_cases hlt : j < n
    · obtain ⟨g, rfl, c0, c1, c2, c3⟩ := HA.out j hlt
      go_wp2_with fail
      go_round
      case rel => exact ⟨j + 1, by omega, by go_num, by go_num⟩
      case measure => simp [intOf]; omega
    · have hjj : j = n := by omega
      subst hjj
      go_wp2_with fail
      go_ret
      exact ⟨rfl, rfl⟩

end Go.Proofs.Ytldnegacgjijlaa

/- Steps in memory; the walks of laws.eqStepS, laws.markStepS and laws.heldStepS. -/
import Derived.Test.YtefpdkfogfhniaaSp0Q
import Derived.Test.YtefpdkfogfhniaaJ13
import Derived.StillTailTactics
namespace Go.Proofs.Ytefpdkfogfhniaa
open Go.RowKit

/-- A step's four numbers. -/
def Lay.stp : Lay Stp := (Lay.int.prod (Lay.int.prod (Lay.int.prod Lay.int))).map fun s => (s.p, (s.e, (s.pa, s.pe)))
theorem stp_lies {w : World} {B : Nat} {s : Stp} {C : Nat → Value} (h : Lay.stp.lies w B s C) : C 0 = .int .i64 s.p ∧ C 1 = .int .i64 s.e ∧ C 2 = .int .i64 s.pa ∧ C 3 = .int .i64 s.pe := ⟨h.1, h.2.1, h.2.2.1, h.2.2.2⟩

set_option maxHeartbeats 400000 in
theorem eqSp_any (s : Stp) (C D : Nat → Value) (w : World) (hL : Lay.stp.lies w w.heap.size s C) (hL' : Lay.stp.lies w w.heap.size s D) :
    Calls Try.prog 50 #[.agg #[C 0, C 1, C 2, C 3], .agg #[D 0, D 1, D 2, D 3]] w fun e' w' => e' = .returned (.bool true) ∧ Below w.heap.size w w' := by
  obtain ⟨c0, c1, c2, c3⟩ := stp_lies hL
  obtain ⟨d0, d1, d2, d3⟩ := stp_lies hL'
  rw [c0, c1, c2, c3, d0, d1, d2, d3]
  obtain ⟨a, b, c, d⟩ := s
  have HB : Hid (Below w.heap.size w ((w.alloc (.cells #[.int .i64 a, .int .i64 b, .int .i64 c, .int .i64 d] 53)).alloc (.cells #[.int .i64 a, .int .i64 b, .int .i64 c, .int .i64 d] 53))) := ((Below.refl _ _).alloc (Nat.le_refl _) _).alloc (by simp) _
  clear hL hL' c0 c1 c2 c3 d0 d1 d2 d3
  dsimp only
  go_enter Try.func50, Try.ntmps50
  go_wp2_with fail
  go_ret
  exact ⟨rfl, HB.out⟩

set_option maxHeartbeats 1000000 in
set_option maxRecDepth 100000 in
theorem eqSpS_any (xs : List Stp) (A : Option Addr) (cap b off : Nat) (C : Nat → Nat → Value) (A' : Option Addr) (cap' b' off' : Nat) (D : Nat → Nat → Value) (w : World) (hl : xs.length ≤ maxLen)
    (hO : Lay.stp.Opn w w.heap.size xs A b off C) (hO' : Lay.stp.Opn w w.heap.size xs A' b' off' D) :
    Calls Try.prog 20 #[.slice A xs.length cap, .slice A' xs.length cap'] w fun e' w' => e' = .returned (.bool true) ∧ Below w.heap.size w w' := by
  unfold maxLen at hl
  have HO := Lib.hid hO
  have HO' := Lib.hid hO'
  clear hO hO'
  go_enter Try.func20, Try.ntmps20
  go_wp2_with fail
  go_loopw [5] (fun i wl => ∃ j : Nat, j ≤ xs.length ∧ i = .int .i64 j ∧ Hid (Below w.heap.size w wl)) (fun i _ => xs.length - (intOf i).toNat)
  case atStart => exact ⟨0, Nat.zero_le _, rfl, Below.refl _ _⟩
  case round =>
    obtain ⟨j, hj, rfl, HB⟩ := hrel
    by_cases hlt : j < xs.length
    · obtain ⟨x, hx⟩ : ∃ x, xs[j]? = some x := ⟨_, List.getElem?_eq_getElem hlt⟩
      obtain ⟨rfl, hb, gc, gl⟩ := HO.out.below HB.out j x hx
      obtain ⟨rfl, hb', fc, fl⟩ := HO'.out.below HB.out j x hx
      have g0 : wr.cell? ⟨b, off + j * 4, none⟩ = some (C j 0) := gc 0 (by decide)
      have g1 : wr.cell? ⟨b, off + j * 4 + 1, none⟩ = some (C j 1) := gc 1 (by decide)
      have g2 : wr.cell? ⟨b, off + j * 4 + 2, none⟩ = some (C j 2) := gc 2 (by decide)
      have g3 : wr.cell? ⟨b, off + j * 4 + 3, none⟩ = some (C j 3) := gc 3 (by decide)
      have f0 : wr.cell? ⟨b', off' + j * 4, none⟩ = some (D j 0) := fc 0 (by decide)
      have f1 : wr.cell? ⟨b', off' + j * 4 + 1, none⟩ = some (D j 1) := fc 1 (by decide)
      have f2 : wr.cell? ⟨b', off' + j * 4 + 2, none⟩ = some (D j 2) := fc 2 (by decide)
      have f3 : wr.cell? ⟨b', off' + j * 4 + 3, none⟩ = some (D j 3) := fc 3 (by decide)
      have HG := Lib.hid (Lay.stp.later gl (Below.refl _ _).drew HB.out.size)
      have HG' := Lib.hid (Lay.stp.later fl (Below.refl _ _).drew HB.out.size)
      clear gl fl hx gc fc
      go_wp2_with fail
      go_still_tail 8, (by kernel_rfl)
      go_wp2_with fail
      refine (eqSp_any x (C j) (D j) wr.drew HG.out HG'.out).mono ?_
      rintro e' w1 ⟨rfl, hb1⟩
      have HB1 : Hid (Below w.heap.size w w1) := HB.out.drew.trans (hb1.mono HB.out.size)
      clear hb1 HB HG HG' g0 f0 g1 f1 g2 f2 g3 f3
      go_wp2_with fail
      go_roundw
      case rel => exact ⟨j + 1, by omega, by go_num, HB1⟩
      case measure => simp [intOf]; omega
    · go_wp2_with fail
      go_ret
      exact ⟨rfl, HB.out⟩

/-- The steps that marks from m on leave. -/
def mkStp (m : Int) (i : Nat) : Stp := ⟨m + 4 * i, m + 4 * i + 1, m + 4 * i + 2, m + 4 * i + 3⟩
def mkStps (m : Int) (n : Nat) : List Stp := (List.range n).map (mkStp m)
theorem mkStps_length (m : Int) (n : Nat) : (mkStps m n).length = n := by simp [mkStps]
theorem mkStps_get {m : Int} {n i : Nat} {s : Stp} (h : (mkStps m n)[i]? = some s) : i < n ∧ s = mkStp m i := by
  have hi := (List.getElem?_eq_some_iff.1 h).1
  rw [mkStps_length] at hi
  refine ⟨hi, ?_⟩
  simp [mkStps, hi] at h
  exact h.symm
theorem mkStps_at {m : Int} {n i : Nat} (h : i < n) : (mkStps m n)[i]? = some (mkStp m i) := by simp [mkStps, h]

/-- A slice of steps in one row of one's own. -/
def StpI (w : World) (lo hi : Nat) (l : List Stp) (v : Value) : Prop := ∃ (A : Option Addr) (cap : Nat), v = .slice A l.length cap ∧ (l = [] ∨ ∃ g cs, A = some ⟨g, 0, none⟩ ∧ lo ≤ g ∧ g < hi ∧ Row w g 53 cs ∧ ∀ (i : Nat) (s : Stp), l[i]? = some s → cs[i * 4]? = some (.int .i64 s.p) ∧ cs[i * 4 + 1]? = some (.int .i64 s.e) ∧ cs[i * 4 + 2]? = some (.int .i64 s.pa) ∧ cs[i * 4 + 3]? = some (.int .i64 s.pe))
theorem StpI.keep {w w1 : World} {lo hi : Nat} {l : List Stp} {v : Value} (h : StpI w lo hi l v) (hk : ∀ g, lo ≤ g → g < hi → w1.heap[g]? = w.heap[g]?) : StpI w1 lo hi l v := by
  obtain ⟨A, cap, hv, h1⟩ := h
  refine ⟨A, cap, hv, ?_⟩
  rcases h1 with h1 | ⟨g, cs, hA, h2, h3, hr, hc⟩
  · exact .inl h1
  · exact .inr ⟨g, cs, hA, h2, h3, (hk g h2 h3).trans hr, hc⟩
theorem StpI.under {w w1 : World} {lo hi B : Nat} {l : List Stp} {v : Value} (h : StpI w lo hi l v) (hb : Below B w w1) (hB : hi ≤ B) : StpI w1 lo hi l v := h.keep fun g _ hg => hb.block g (by omega)
theorem StpI.kept {w w1 : World} {lo hi lo' hi' : Nat} {l : List Stp} {v : Value} (h : StpI w lo hi l v) (hk : Kept lo' hi' w w1) (hh : hi ≤ w.heap.size) (hd : hi ≤ lo' ∨ hi' ≤ lo) : StpI w1 lo hi l v := h.keep fun g h1 h2 => hk.other g (by omega) (by omega)
theorem StpI.opn {w : World} {lo hi : Nat} {l : List Stp} {v : Value} (h : StpI w lo hi l v) (hh : hi ≤ w.heap.size) : ∃ (A : Option Addr) (cap b off : Nat) (D : Nat → Nat → Value), v = .slice A l.length cap ∧ Lay.stp.Opn w w.heap.size l A b off D := by
  obtain ⟨A, cap, hv, h1⟩ := h
  rcases h1 with rfl | ⟨g, cs, rfl, h2, h3, hr, hc⟩
  · exact ⟨A, cap, 0, 0, fun _ _ => undef, hv, fun i x hx => by cases hx⟩
  · refine ⟨_, cap, g, 0, fun i j => (cs[i * 4 + j]?).getD undef, hv, fun i x hx => ?_⟩
    obtain ⟨k0, k1, k2, k3⟩ := hc i x hx
    refine ⟨rfl, by omega, fun j hj => ?_, ?_⟩
    · have hj4 : j < 4 := hj
      rw [hr.cell, Nat.zero_add]
      show cs[i * 4 + j]? = some ((cs[i * 4 + j]?).getD undef)
      rcases (by omega : j = 0 ∨ j = 1 ∨ j = 2 ∨ j = 3) with rfl | rfl | rfl | rfl
      · simp only [Nat.add_zero]; rw [k0]; rfl
      · rw [k1]; rfl
      · rw [k2]; rfl
      · rw [k3]; rfl
    · refine ⟨?_, ?_, ?_, ?_⟩
      · show (cs[i * 4 + 0]?).getD undef = _
        rw [Nat.add_zero, k0]; rfl
      · show (cs[i * 4 + 1]?).getD undef = _
        rw [k1]; rfl
      · show (cs[i * 4 + 2]?).getD undef = _
        rw [k2]; rfl
      · show (cs[i * 4 + 3]?).getD undef = _
        rw [k3]; rfl
theorem eqStps_any (l : List Stp) (v v' : Value) {lo hi lo' hi' : Nat} (w : World) (h : StpI w lo hi l v) (h' : StpI w lo' hi' l v') (hh : hi ≤ w.heap.size) (hh' : hi' ≤ w.heap.size) (hl : l.length ≤ maxLen) :
    Calls Try.prog 20 #[v, v'] w fun e' w' => e' = .returned (.bool true) ∧ Below w.heap.size w w' := by
  obtain ⟨A, cap, b, off, D, rfl, hO⟩ := h.opn hh
  obtain ⟨A', cap', b', off', D', rfl, hO'⟩ := h'.opn hh'
  exact eqSpS_any l A cap b off D A' cap' b' off' D' w hl hO hO'

/-- The first n steps are marked, the rest is as it was. -/
def HalfS (g : Nat) (m : Int) (n : Nat) (w w' : World) : Prop := ∀ cs, Row w g 53 cs → ∃ cs', Row w' g 53 cs' ∧ cs'.size = cs.size ∧ (∀ i, n * 4 ≤ i → cs'[i]? = cs[i]?) ∧ ∀ i, i < n → i * 4 + 3 < cs.size → cs'[i * 4]? = some (.int .i64 (mkStp m i).p) ∧ cs'[i * 4 + 1]? = some (.int .i64 (mkStp m i).e) ∧ cs'[i * 4 + 2]? = some (.int .i64 (mkStp m i).pa) ∧ cs'[i * 4 + 3]? = some (.int .i64 (mkStp m i).pe)
theorem HalfS.refl (g : Nat) (m : Int) (w : World) : HalfS g m 0 w w := fun cs h => ⟨cs, h, rfl, fun _ _ => rfl, fun _ h => absurd h (Nat.not_lt_zero _)⟩
theorem HalfS.step {g : Nat} {m : Int} {n : Nat} {w w' : World} (h : HalfS g m n w w') : HalfS g m (n + 1) w ((((w'.setCell ⟨g, n * 4, none⟩ (.int .i64 (mkStp m n).p)).setCell ⟨g, n * 4 + 1, none⟩ (.int .i64 (mkStp m n).e)).setCell ⟨g, n * 4 + 2, none⟩ (.int .i64 (mkStp m n).pa)).setCell ⟨g, n * 4 + 3, none⟩ (.int .i64 (mkStp m n).pe)) := fun cs hr => by
  obtain ⟨cs', h1, h2, h3, h4⟩ := h cs hr
  refine ⟨_, (((h1.set_ _ _).set_ _ _).set_ _ _).set_ _ _, by simp [h2], fun i hi => ?_, fun i hi hs => ?_⟩
  · simp only [Array.getElem?_setIfInBounds]
    rw [if_neg (by omega), if_neg (by omega), if_neg (by omega), if_neg (by omega)]
    exact h3 i (by omega)
  · by_cases e : i = n
    · subst e
      simp only [Array.getElem?_setIfInBounds, Array.size_setIfInBounds, h2]
      refine ⟨?_, ?_, ?_, ?_⟩
      · rw [if_neg (by omega), if_neg (by omega), if_neg (by omega), if_pos trivial, if_pos (by omega)]
      · rw [if_neg (by omega), if_neg (by omega), if_pos trivial, if_pos (by omega)]
      · rw [if_neg (by omega), if_pos trivial, if_pos (by omega)]
      · rw [if_pos trivial, if_pos (by omega)]
    · simp only [Array.getElem?_setIfInBounds]
      obtain ⟨a0, a1, a2, a3⟩ := h4 i (by omega) hs
      refine ⟨?_, ?_, ?_, ?_⟩
      all_goals rw [if_neg (by omega), if_neg (by omega), if_neg (by omega), if_neg (by omega)]; assumption

set_option maxHeartbeats 1000000 in
set_option maxRecDepth 100000 in
theorem mkStps_any (l : List Stp) (v : Value) (m : Int) (lo hi : Nat) (w : World) (h : StpI w lo hi l v) (hz : l.length ≤ 1048576) (hm0 : 0 ≤ m) (hm1 : m ≤ 1048576) :
    Calls Try.prog 21 #[v, .int .i64 m] w fun e' w' => e' = .returned (.int .i64 (m + 4 * l.length)) ∧ StpI w' lo hi (mkStps m l.length) v ∧ Kept lo hi w w' := by
  obtain ⟨A, cap, hv, h1⟩ := h
  subst hv
  obtain ⟨n, hn⟩ : ∃ n, n = l.length := ⟨_, rfl⟩
  have KEY : Hid (∀ g cs w', A = some ⟨g, 0, none⟩ → lo ≤ g → g < hi → Row w g 53 cs → (∀ i, i < n → i * 4 + 3 < cs.size) → HalfS g m n w w' → StpI w' lo hi (mkStps m n) (.slice A n cap)) := fun g cs w' hA h2 h3 hr hcs hH => by
    obtain ⟨cs', r1, r2, r3, r4⟩ := hH cs hr
    refine ⟨A, cap, by rw [mkStps_length], .inr ⟨g, cs', hA, h2, h3, r1, fun i s hs => ?_⟩⟩
    obtain ⟨hi', rfl⟩ := mkStps_get hs
    exact r4 i hi' (hcs i hi')
  have HN := Lib.hid hn
  rw [← hn] at hz ⊢
  rcases h1 with h1 | ⟨g, cs, hA, h2, h3, hr, hc⟩
  · have hn0 : n = 0 := by rw [hn, h1]; rfl
    clear hn
    subst hn0
    go_enter Try.func21, Try.ntmps21
    go_wp2_with fail
    go_loopw [1, 5] (fun mm i wl => mm = .int .i64 m ∧ i = .int .i64 0 ∧ w = wl) (fun _ _ _ => 0)
    case atStart => exact ⟨rfl, rfl, rfl⟩
    case round =>
      obtain ⟨rfl, rfl, rfl⟩ := hrel
      go_wp2_with fail
      go_ret
      exact ⟨ret_int (by omega), ⟨A, cap, rfl, .inl rfl⟩, Kept.refl _ _ _⟩
  · have hcs : ∀ i, i < n → i * 4 + 3 < cs.size := fun i hi => by
      obtain ⟨x, hx⟩ : ∃ x, l[i]? = some x := ⟨_, List.getElem?_eq_getElem (by rw [← hn]; exact hi)⟩
      exact (Array.getElem?_eq_some_iff.1 (hc i x hx).2.2.2).1
    have HCs := Lib.hid hcs
    have HRw := Lib.hid hr
    have HA := Lib.hid hA
    clear hn hr hc hcs
    go_enter Try.func21, Try.ntmps21
    go_wp2_with fail
    go_loopw [1, 5] (fun mm i wl => ∃ j : Nat, j ≤ n ∧ i = .int .i64 j ∧ mm = .int .i64 (m + 4 * j) ∧ Hid (HalfS g m j w wl) ∧ Hid (Kept lo hi w wl)) (fun _ i _ => n - (intOf i).toNat)
    case atStart => exact ⟨0, Nat.zero_le _, rfl, by simp, HalfS.refl _ _ _, Kept.refl _ _ _⟩
    case round =>
      obtain ⟨j, hj, rfl, rfl, HT, HK⟩ := hrel
      by_cases hlt : j < n
      · subst hA
        obtain ⟨cs', r1, e1, e2, _⟩ := HT.out cs HRw.out
        have hs := HCs.out j hlt
        obtain ⟨y0, c0⟩ : ∃ y, wr.cell? ⟨g, j * 4, none⟩ = some y := ⟨_, by rw [r1.cell]; exact Array.getElem?_eq_getElem (by omega)⟩
        obtain ⟨y1, c1⟩ : ∃ y, wr.cell? ⟨g, j * 4 + 1, none⟩ = some y := ⟨_, by rw [r1.cell]; exact Array.getElem?_eq_getElem (by omega)⟩
        obtain ⟨y2, c2⟩ : ∃ y, wr.cell? ⟨g, j * 4 + 2, none⟩ = some y := ⟨_, by rw [r1.cell]; exact Array.getElem?_eq_getElem (by omega)⟩
        obtain ⟨y3, c3⟩ : ∃ y, wr.cell? ⟨g, j * 4 + 3, none⟩ = some y := ⟨_, by rw [r1.cell]; exact Array.getElem?_eq_getElem (by omega)⟩
        have z0 := r1.frozen (j * 4)
        have z1 := r1.frozen (j * 4 + 1)
        have z2 := r1.frozen (j * 4 + 2)
        have z3 := r1.frozen (j * 4 + 3)
        have l0 := r1.lt
        have HT2 : Hid (HalfS g m (j + 1) w ((((wr.setCell ⟨g, j * 4, none⟩ (.int .i64 (m + 4 * j))).setCell ⟨g, j * 4 + 1, none⟩ (.int .i64 (m + 4 * j + 1))).setCell ⟨g, j * 4 + 2, none⟩ (.int .i64 (m + 4 * j + 1 + 1))).setCell ⟨g, j * 4 + 3, none⟩ (.int .i64 (m + 4 * j + 1 + 1 + 1)))) := by
          have h := HT.out.step
          rw [show (mkStp m j).p = m + 4 * j from rfl, show (mkStp m j).e = m + 4 * j + 1 from rfl, show (mkStp m j).pa = m + 4 * j + 1 + 1 from by show m + 4 * j + 2 = _; omega, show (mkStp m j).pe = m + 4 * j + 1 + 1 + 1 from by show m + 4 * j + 3 = _; omega] at h
          exact h
        have HK2 : Hid (Kept lo hi w ((((wr.setCell ⟨g, j * 4, none⟩ (.int .i64 (m + 4 * j))).setCell ⟨g, j * 4 + 1, none⟩ (.int .i64 (m + 4 * j + 1))).setCell ⟨g, j * 4 + 2, none⟩ (.int .i64 (m + 4 * j + 1 + 1))).setCell ⟨g, j * 4 + 3, none⟩ (.int .i64 (m + 4 * j + 1 + 1 + 1)))) :=
          (((HK.out.trans (Kept.set_ lo hi _ h2 h3 _ _)).trans (Kept.set_ lo hi _ h2 h3 _ _)).trans (Kept.set_ lo hi _ h2 h3 _ _)).trans (Kept.set_ lo hi _ h2 h3 _ _)
        clear r1 e1 e2
        go_wp2_with fail
        go_roundw
        case rel => exact ⟨j + 1, by omega, by go_num, by go_num, HT2, HK2⟩
        case measure => simp [intOf]; omega
      · have hjj : j = n := by omega
        subst hjj
        have HF := Lib.hid (KEY.out g cs wr HA.out h2 h3 HRw.out HCs.out HT.out)
        go_wp2_with fail
        go_ret
        exact ⟨rfl, HF.out, HK.out⟩

set_option maxHeartbeats 1000000 in
set_option maxRecDepth 100000 in
theorem heldStps_any (n : Nat) (v : Value) (m : Int) (lo hi : Nat) (w : World) (h : StpI w lo hi (mkStps m n) v) (hz : n ≤ 1048576) (hm0 : 0 ≤ m) (hm1 : m ≤ 1048576) :
    Calls Try.prog 22 #[v, .int .i64 m] w fun e' w' => e' = .returned (.int .i64 (m + 4 * n)) ∧ w = w' := by
  obtain ⟨A, cap, hv, h1⟩ := h
  rw [mkStps_length] at hv
  subst hv
  have HA : Hid (∀ j, j < n → ∃ g, A = some ⟨g, 0, none⟩ ∧ w.cell? ⟨g, j * 4, none⟩ = some (.int .i64 (m + 4 * j)) ∧ w.cell? ⟨g, j * 4 + 1, none⟩ = some (.int .i64 (m + 4 * j + 1)) ∧ w.cell? ⟨g, j * 4 + 2, none⟩ = some (.int .i64 (m + 4 * j + 1 + 1)) ∧ w.cell? ⟨g, j * 4 + 3, none⟩ = some (.int .i64 (m + 4 * j + 1 + 1 + 1))) := fun j hj => by
    rcases h1 with h1 | ⟨g, cs, hA, _, _, hr, hc⟩
    · have := congrArg List.length h1
      rw [mkStps_length] at this
      simp at this
      omega
    · obtain ⟨k0, k1, k2, k3⟩ := hc j _ (mkStps_at hj)
      refine ⟨g, hA, ?_, ?_, ?_, ?_⟩
      · rw [hr.cell]; exact k0
      · rw [hr.cell]; exact k1
      · rw [hr.cell, k2]; show some (Value.int .i64 (m + 4 * j + 2)) = _; rw [show m + 4 * (j : Int) + 1 + 1 = m + 4 * j + 2 by omega]
      · rw [hr.cell, k3]; show some (Value.int .i64 (m + 4 * j + 3)) = _; rw [show m + 4 * (j : Int) + 1 + 1 + 1 = m + 4 * j + 3 by omega]
  clear h1
  go_enter Try.func22, Try.ntmps22
  go_wp2_with fail
  go_loop [1, 5] (fun mm i => ∃ j : Nat, j ≤ n ∧ i = .int .i64 j ∧ mm = .int .i64 (m + 4 * j)) (fun _ i => n - (intOf i).toNat)
  case atStart => exact ⟨0, Nat.zero_le _, rfl, by simp⟩
  case round =>
    obtain ⟨j, hj, rfl, rfl⟩ := hrel
    by_cases hlt : j < n
    · obtain ⟨g, rfl, c0, c1, c2, c3⟩ := HA.out j hlt
      go_wp2_with fail
      go_round
      case rel => exact ⟨j + 1, by omega, by go_num, by go_num⟩
      case measure => simp [intOf]; omega
    · have hjj : j = n := by omega
      subst hjj
      go_wp2_with fail
      go_ret
      exact ⟨rfl, rfl⟩

end Go.Proofs.Ytefpdkfogfhniaa

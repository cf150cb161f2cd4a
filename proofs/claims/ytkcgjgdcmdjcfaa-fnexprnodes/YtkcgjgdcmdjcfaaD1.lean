/- The walks of the random source: l16Open, pick and num. Of a number that is picked only its range is told. -/
import Derived.Test.YtkcgjgdcmdjcfaaIv
import Derived.Deep.AppendLies
namespace Go.Proofs.Ytkcgjgdcmdjcfaa
open Go.RowKit

/-- The bytes of the source lie in old memory, below block B. -/
def Bytes (w : World) (B : Nat) (A : Option Addr) (b off : Nat) (n : Nat) : Prop :=
  ∃ zs : Nat → Int, ∀ i, i < n → A = some ⟨b, off, none⟩ ∧ b < B ∧ w.cell? ⟨b, off + i, none⟩ = some (.int .u8 (zs i)) ∧ 0 ≤ zs i ∧ zs i ≤ 255

theorem Bytes.under {w w' : World} {B B' : Nat} {A : Option Addr} {b off n : Nat} (h : Bytes w B A b off n) (hb : Below B w w') (hB : B ≤ B') : Bytes w' B' A b off n := by
  obtain ⟨zs, h⟩ := h
  refine ⟨zs, fun i hi => ?_⟩
  obtain ⟨h1, h2, h3, h4⟩ := h i hi
  exact ⟨h1, by omega, (hb.cell (p := ⟨b, off + i, none⟩) h2).trans h3, h4⟩

/-- The source: block g holds its slice of bytes and the count of numbers picked. -/
def Src (w : World) (g : Nat) (A : Option Addr) (b off n cap : Nat) (p : Int) : Prop :=
  Row w g 74 #[.slice A n cap, .int .i64 p] ∧ Bytes w g A b off n ∧ n ≤ 2000

/-- What a call that picks leaves: below the source nothing has turned, above the old size only new blocks, and the source has picked at most m numbers more. -/
def Picked (g : Nat) (A : Option Addr) (b off n cap : Nat) (p : Int) (m : Int) (w w' : World) : Prop :=
  w.grownBy w' (some g) ∧ ∃ p', p ≤ p' ∧ p' ≤ p + m ∧ Src w' g A b off n cap p'

theorem xor_i64 (a c : Nat) (ha : a < 4294967296) (hc : c < 4294967296) : bits .xor .i64 (a : Int) (c : Int) = ((a ^^^ c : Nat) : Int) := by
  have h1 : (BitVec.ofInt 64 (a : Int)).toNat = a := by rw [BitVec.ofInt_natCast, BitVec.toNat_ofNat]; exact Nat.mod_eq_of_lt (by omega)
  have h2 : (BitVec.ofInt 64 (c : Int)).toNat = c := by rw [BitVec.ofInt_natCast, BitVec.toNat_ofNat]; exact Nat.mod_eq_of_lt (by omega)
  have hx : a ^^^ c < 2 ^ 32 := Nat.xor_lt_two_pow (by omega) (by omega)
  show IntKind.i64.wrap ((BitVec.ofInt 64 (a : Int) ^^^ BitVec.ofInt 64 (c : Int)).toNat : Int) = _
  rw [BitVec.toNat_xor, h1, h2, IntKind.wrap_i64]
  omega

theorem Picked.one {g : Nat} {A : Option Addr} {b off n cap : Nat} {p : Int} {w : World} (hS : Src w g A b off n cap p) (k : Nat) : Picked g A b off n cap p 1 w ((w.setCell ⟨g, 1, none⟩ (.int .i64 (p + 1))).drewN k) := by
  obtain ⟨hr, hby, hn⟩ := hS
  have hb : Below g w (w.setCell ⟨g, 1, none⟩ (.int .i64 (p + 1))) := (Below.refl _ _).setCell (p := ⟨g, 1, none⟩) (Nat.le_refl g) _
  refine ⟨⟨rfl, rfl, rfl, by simp, fun i hi hne => Below.heap_setCell _ _ _ _ (fun e => hne (by rw [e]))⟩, p + 1, by omega, by omega, ?_, ?_, hn⟩
  · show Row (w.setCell ⟨g, 1, none⟩ (.int .i64 (p + 1))) g 74 _
    have := hr.set_ 1 (.int .i64 (p + 1))
    simpa using this
  · exact hby.under (below_drewN hb k) (Nat.le_refl _)

/-- What pick answers. -/
def PickPost (g : Nat) (A : Option Addr) (b off n cap : Nat) (p : Int) (m : Int) (w : World) (e' : Ending) (w' : World) : Prop := ∃ r : Int, e' = .returned (.int .i64 r) ∧ 0 ≤ r ∧ r < m ∧ Picked g A b off n cap p 1 w w'

set_option maxHeartbeats 1000000 in
set_option maxRecDepth 100000 in
theorem pick_any (g : Nat) (A : Option Addr) (b off n cap : Nat) (p : Int) (m : Int) (w : World) (hS : Src w g A b off n cap p) (hp0 : 0 ≤ p) (hp1 : p ≤ 1000000) (hm : 1 ≤ m) (hm1 : m ≤ 256) :
    Calls Try.prog 51 #[.pointer (some ⟨g, 0, none⟩), .int .i64 m] w (PickPost g A b off n cap p m w) := by
  have HFin := Lib.hid (Picked.one hS)
  obtain ⟨hr, hby, hn⟩ := hS
  obtain ⟨zs, hzs⟩ := hby
  have c0 : w.cell? ⟨g, 0, none⟩ = some (.slice A n cap) := hr.cell 0
  have c1 : w.cell? ⟨g, 1, none⟩ = some (.int .i64 p) := hr.cell 1
  have z1 := hr.frozen 1
  have HZs := Lib.hid hzs
  clear hr hzs
  have hmb : decide (m < 1) = false := by simpa using hm
  by_cases hz : n = 0
  · subst hz
    go_enter Try.func51, Try.ntmps51
    go_wp2_with fail
    go_ret
    exact ⟨0, rfl, by omega, by omega, HFin.out 0⟩
  · obtain ⟨q, rfl⟩ : ∃ q : Nat, p = q := ⟨p.toNat, by omega⟩
    have hnb : ((n : Int) == 0) = false := by rw [beq_eq_false_iff_ne]; omega
    by_cases hlt : q < n
    · obtain ⟨rfl, hbg, g0, h0, h255⟩ := HZs.out q hlt
      obtain ⟨z, hzz⟩ : ∃ z, z = zs q := ⟨_, rfl⟩
      rw [← hzz] at g0 h0 h255
      clear hzz
      have hne : ¬ b = g := by omega
      go_enter Try.func51, Try.ntmps51
      go_wp2_with fail
      go_ret
      exact ⟨z % m, rfl, Int.emod_nonneg _ (by omega), Int.emod_lt_of_pos _ (by omega), HFin.out 0⟩
    · obtain ⟨i1, hi1⟩ : ∃ i1, i1 = q % n := ⟨_, rfl⟩
      obtain ⟨i2, hi2⟩ : ∃ i2, i2 = (q * 7 + 3) % n := ⟨_, rfl⟩
      obtain ⟨dv, hdv⟩ : ∃ dv, dv = q / n := ⟨_, rfl⟩
      have hl1 : i1 < n := by rw [hi1]; exact Nat.mod_lt _ (by omega)
      have hl2 : i2 < n := by rw [hi2]; exact Nat.mod_lt _ (by omega)
      have hdl : dv ≤ 1000000 := by rw [hdv]; exact Nat.le_trans (Nat.div_le_self _ _) (by omega)
      obtain ⟨rfl, hbg, g1, a0, a1⟩ := HZs.out i1 hl1
      obtain ⟨_, _, g2, b0, b1⟩ := HZs.out i2 hl2
      obtain ⟨x1, hx1⟩ : ∃ x1 : Nat, (x1 : Int) = zs i1 := ⟨(zs i1).toNat, by omega⟩
      obtain ⟨x2, hx2⟩ : ∃ x2 : Nat, (x2 : Int) = zs i2 := ⟨(zs i2).toNat, by omega⟩
      rw [← hx1] at g1 a0 a1
      rw [← hx2] at g2 b0 b1
      have hne : ¬ b = g := by omega
      have hge : ¬ q < n := hlt
      have e1 : ((q : Int)).tmod (n : Int) = (i1 : Int) := by rw [hi1]; rw [Int.tmod_eq_emod_of_nonneg (by omega)]; omega
      have e2 : IntKind.i64.wrap ((i1 : Int)) = (i1 : Int) := IntWalk.i64_in _ (by omega)
      have e3 : IntKind.i64.wrap ((x1 : Int)) = (x1 : Int) := IntWalk.i64_in _ (by omega)
      have e4 : IntKind.i64.wrap ((x1 : Int) * 131) = (x1 : Int) * 131 := IntWalk.i64_in _ (by omega)
      have e5 : IntKind.i64.wrap ((q : Int) * 7) = (q : Int) * 7 := IntWalk.i64_in _ (by omega)
      have e6 : IntKind.i64.wrap ((q : Int) * 7 + 3) = (q : Int) * 7 + 3 := IntWalk.i64_in _ (by omega)
      have e7 : ((q : Int) * 7 + 3).tmod (n : Int) = (i2 : Int) := by rw [hi2, Int.tmod_eq_emod_of_nonneg (by omega), show ((q : Int) * 7 + 3) = ((q * 7 + 3 : Nat) : Int) by omega]; omega
      have e8 : IntKind.i64.wrap ((i2 : Int)) = (i2 : Int) := IntWalk.i64_in _ (by omega)
      have e9 : IntKind.i64.wrap ((x2 : Int)) = (x2 : Int) := IntWalk.i64_in _ (by omega)
      have e10 : IntKind.i64.wrap ((x2 : Int) * 1117) = (x2 : Int) * 1117 := IntWalk.i64_in _ (by omega)
      have e11 : IntKind.i64.wrap ((x1 : Int) * 131 + (x2 : Int) * 1117) = (x1 : Int) * 131 + (x2 : Int) * 1117 := IntWalk.i64_in _ (by omega)
      have e12 : IntKind.i64.wrap ((q : Int) * 29) = (q : Int) * 29 := IntWalk.i64_in _ (by omega)
      have e13 : IntKind.i64.wrap ((x1 : Int) * 131 + (x2 : Int) * 1117 + (q : Int) * 29) = (x1 : Int) * 131 + (x2 : Int) * 1117 + (q : Int) * 29 := IntWalk.i64_in _ (by omega)
      have e14 : ((q : Int)).tdiv (n : Int) = (dv : Int) := by rw [hdv, Int.tdiv_eq_ediv_of_nonneg (by omega)]; omega
      have e15 : IntKind.i64.wrap ((dv : Int)) = (dv : Int) := IntWalk.i64_in _ (by omega)
      have e16 : IntKind.i64.wrap ((dv : Int) * 53) = (dv : Int) * 53 := IntWalk.i64_in _ (by omega)
      have e17 : IntKind.i64.wrap ((x1 : Int) * 131 + (x2 : Int) * 1117 + (q : Int) * 29 + (dv : Int) * 53) = (x1 : Int) * 131 + (x2 : Int) * 1117 + (q : Int) * 29 + (dv : Int) * 53 := IntWalk.i64_in _ (by omega)
      have j1 : (0 : Int) ≤ (i1 : Int) := Int.natCast_nonneg _
      have j2 : (i1 : Int) < (n : Int) := by omega
      have j3 : (0 : Int) ≤ (i2 : Int) := Int.natCast_nonneg _
      have j4 : (i2 : Int) < (n : Int) := by omega
      clear hi1 hi2 hdv hx1 hx2
      go_enter Try.func51, Try.ntmps51
      go_wp2_with fail
      go_quiet (fail)
      clear e1 e2 e3 e4 e5 e6 e7 e8 e9 e10 e11 e12 e13 e14 e15 e16 e17 j1 j2 j3 j4 g1 g2 c0 c1 z1 hge
      obtain ⟨X, hX⟩ : ∃ X : Nat, (x1 : Int) * 131 + (x2 : Int) * 1117 + (q : Int) * 29 + (dv : Int) * 53 = (X : Int) := ⟨x1 * 131 + x2 * 1117 + q * 29 + dv * 53, by omega⟩
      have hXl : X < 4294967296 := by omega
      rw [hX]
      have hxor : bits .xor .i64 (X : Int) ((X : Int) / 64) = ((X ^^^ (X / 64) : Nat) : Int) := by
        have := xor_i64 X (X / 64) hXl (by omega)
        rw [show ((X / 64 : Nat) : Int) = (X : Int) / 64 by omega] at this
        exact this
      obtain ⟨Y, hY⟩ : ∃ Y : Nat, Y = X ^^^ (X / 64) := ⟨_, rfl⟩
      rw [← hY] at hxor
      have hYl : Y < 4294967296 := by rw [hY]; exact Nat.xor_lt_two_pow (n := 32) (by omega) (by omega)
      clear hX hY
      go_wp2_with fail
      go_ret
      exact ⟨(Y : Int) % m, rfl, Int.emod_nonneg _ (by omega), Int.emod_lt_of_pos _ (by omega), HFin.out nq⟩

theorem Src.lt {w : World} {g : Nat} {A : Option Addr} {b off n cap : Nat} {p : Int} (h : Src w g A b off n cap p) : g < w.heap.size := h.1.lt

/-- What num answers. -/
def NumPost (zs : List Int) (g : Nat) (A : Option Addr) (b off n cap : Nat) (p : Int) (w : World) (e' : Ending) (w' : World) : Prop := ∃ r : Int, e' = .returned (.int .i64 r) ∧ r ∈ zs ∧ Picked g A b off n cap p 1 w w'

set_option maxHeartbeats 400000 in
theorem num_any (zs : List Int) (g : Nat) (A : Option Addr) (b off n cap : Nat) (p : Int) (w : World) (hS : Src w g A b off n cap p) (hp0 : 0 ≤ p) (hp1 : p ≤ 1000000) (A' : Option Addr) (b' off' cap' : Nat) (hI : Ints w w.heap.size A' b' off' zs) (hne : b' ≠ g) (h0 : 0 < zs.length) (hl : zs.length ≤ 256) :
    Calls Try.prog 52 #[.pointer (some ⟨g, 0, none⟩), .slice A' zs.length cap'] w (NumPost zs g A b off n cap p w) := by
  have HS := Lib.hid hS
  have HI := Lib.hid hI
  clear hS hI
  go_enter Try.func52, Try.ntmps52
  go_wp2_with fail
  refine (pick_any g A b off n cap p zs.length w HS.out hp0 hp1 (by omega) (by omega)).mono ?_
  rintro e' w1 ⟨r, rfl, hr0, hr1, hP⟩
  obtain ⟨i, rfl⟩ : ∃ i : Nat, r = i := ⟨r.toNat, by omega⟩
  have hi : i < zs.length := by omega
  have hz : zs[i]? = some zs[i] := List.getElem?_eq_getElem hi
  obtain ⟨rfl, hb, g0⟩ := HI.out i _ hz
  have g1 : w1.cell? ⟨b', off' + i, none⟩ = some (.int .i64 zs[i]) := (hP.1.cell_far ⟨b', off' + i, none⟩ hb (fun e => hne (by injection e))).trans g0
  obtain ⟨z, hzz⟩ : ∃ z, z = zs[i] := ⟨_, rfl⟩
  have HM : Hid (z ∈ zs) := by rw [hzz]; exact List.getElem_mem hi
  rw [← hzz] at g1
  have HP := Lib.hid hP
  clear hzz hz g0 hP hr1
  go_wp2_with fail
  go_ret
  exact ⟨z, rfl, HM.out, HP.out⟩

/-- What l16Open leaves: a new source. -/
def OpenPost (w : World) (e' : Ending) (w' : World) : Prop := ∃ (g : Nat) (A : Option Addr) (b off n cap : Nat), e' = .returned (.pointer (some ⟨g, 0, none⟩)) ∧ w.heap.size ≤ g ∧ Src w' g A b off n cap 0 ∧ Below w.heap.size w w'

theorem Bytes.less {w : World} {B : Nat} {A : Option Addr} {b off n m : Nat} (h : Bytes w B A b off n) (hm : m ≤ n) : Bytes w B A b off m := by
  obtain ⟨zs, h⟩ := h
  exact ⟨zs, fun i hi => h i (by omega)⟩

set_option maxHeartbeats 400000 in
theorem open_any (A : Option Addr) (b off n cap : Nat) (w : World) (hB : Bytes w w.heap.size A b off n) (hn : n ≤ maxLen) (hc : n ≤ cap) (hA : 0 < cap → ∃ ad, A = some ad) : Calls Try.prog 24 #[.slice A n cap] w (OpenPost w) := by
  unfold maxLen at hn
  have HB := Lib.hid hB
  clear hB
  by_cases h2 : 2000 < n
  · obtain ⟨ad, rfl⟩ := hA (by omega)
    go_enter Try.func24, Try.ntmps24
    go_wp2_with fail
    go_ret
    refine ⟨w.heap.size, _, b, off, 2000, cap, rfl, Nat.le_refl _, ⟨Row.new _ _ _, ?_, by omega⟩, (Below.refl _ _).alloc (Nat.le_refl _) _⟩
    exact (HB.out.less (by omega)).under ((Below.refl _ _).alloc (Nat.le_refl _) _) (Nat.le_refl _)
  · clear hA
    go_enter Try.func24, Try.ntmps24
    go_wp2_with fail
    go_ret
    refine ⟨w.heap.size, _, b, off, n, cap, rfl, Nat.le_refl _, ⟨Row.new _ _ _, ?_, by omega⟩, (Below.refl _ _).alloc (Nat.le_refl _) _⟩
    exact HB.out.under ((Below.refl _ _).alloc (Nat.le_refl _) _) (Nat.le_refl _)

end Go.Proofs.Ytkcgjgdcmdjcfaa

/- Joined texts: Iv, V1i, Si, Sys, OpenS, StD. Nothing is assumed. -/
import Derived.Test.YtefpdkfogfhniaaJ01
import Derived.Test.YtefpdkfogfhniaaLayBQ
import Derived.Test.YtefpdkfogfhniaaEd2Q
import Derived.Test.YtefpdkfogfhniaaJ03
namespace Go.Proofs.Ytefpdkfogfhniaa
open Go.RowKit

/-- The slice holds these numbers and lies below block B. -/
def Ints (w : World) (B : Nat) (A : Option Addr) (b off : Nat) (zs : List Int) : Prop :=
  ∀ (i : Nat) (z : Int), zs[i]? = some z → A = some ⟨b, off, none⟩ ∧ b < B ∧ w.cell? ⟨b, off + i, none⟩ = some (.int .i64 z)

theorem Ints.under {w w' : World} {B B' : Nat} {A : Option Addr} {b off : Nat} {zs : List Int} (h : Ints w B A b off zs) (hb : Below B w w') (hB : B ≤ B') : Ints w' B' A b off zs := fun i z hz => by
  obtain ⟨h1, h2, h3⟩ := h i z hz
  exact ⟨h1, by omega, (hb.cell (p := ⟨b, off + i, none⟩) h2).trans h3⟩

end Go.Proofs.Ytefpdkfogfhniaa
namespace Go.Proofs.Ytefpdkfogfhniaa
open Go.RowKit

def valOk (z : Int) : Bool := decide (0 ≤ z) && decide (z ≤ 3)
def valsOk (zs : List Int) : Bool := zs.all valOk && decide (zs.length = 3)

theorem allv_take_succ {l : List Int} {i : Nat} {x : Int} (h : l[i]? = some x) : (l.take (i + 1)).all valOk = ((l.take i).all valOk && valOk x) := by
  have hi := (List.getElem?_eq_some_iff.1 h).1
  rw [List.take_succ_eq_append_getElem hi, (List.getElem?_eq_some_iff.1 h).2]
  simp

theorem allv_false {l : List Int} {i : Nat} {x : Int} (h : l[i]? = some x) (hf : valOk x = false) : valsOk l = false := by
  unfold valsOk
  rw [show l.all valOk = false from List.all_eq_false.2 ⟨x, List.mem_of_getElem? h, by simp [hf]⟩]
  rfl

set_option maxHeartbeats 400000 in
theorem eqInts_any (zs : List Int) (A A' : Option Addr) (cap b off cap' b' off' : Nat) (w : World) (hl : zs.length ≤ maxLen) (hI : Ints w w.heap.size A b off zs) (hI' : Ints w w.heap.size A' b' off' zs) :
    Calls Try.prog 41 #[.slice A zs.length cap, .slice A' zs.length cap'] w fun e' w' => e' = .returned (.bool true) ∧ Below w.heap.size w w' := by
  unfold maxLen at hl
  have HI := Lib.hid hI
  have HI' := Lib.hid hI'
  clear hI hI'
  go_enter Try.func41, Try.ntmps41
  go_wp2_with fail
  go_loopw [5] (fun i wl => ∃ j n : Nat, j ≤ zs.length ∧ i = .int .i64 j ∧ wl = w.drewN n) (fun i _ => zs.length - (intOf i).toNat)
  case atStart => exact ⟨0, 0, Nat.zero_le _, rfl, rfl⟩
  case round =>
    obtain ⟨j, n, hj, rfl, rfl⟩ := hrel
    by_cases hlt : j < zs.length
    · obtain ⟨z, hz⟩ : ∃ z, zs[j]? = some z := ⟨_, List.getElem?_eq_getElem hlt⟩
      obtain ⟨rfl, hb, g0⟩ := HI.out j z hz
      obtain ⟨rfl, hb', g0'⟩ := HI'.out j z hz
      clear hz
      go_wp2_with fail
      go_quiet (fail)
      go_wp2_with fail
      go_roundw
      case rel => exact ⟨j + 1, _, by omega, by go_num, rfl⟩
      case measure => simp [intOf]; omega
    · go_wp2_with fail
      go_ret
      exact ⟨rfl, below_drewN (Below.refl _ _) _⟩

/-- The first j numbers have been laid. -/
def LaidI (w : World) (g : Nat) (zs : List Int) (j : Nat) : Prop :=
  ∃ cs : Array Value, Row w g 3 cs ∧ cs.size = zs.length ∧ ∀ (i : Nat) (z : Int), zs[i]? = some z → i < j → cs[i]? = some (.int .i64 z)

theorem Try.info3 : (Try.prog.info? 3).map (fun i => (i.zero, i.size, i.bytes)) = some (some (.int .i64 0), 1, 8) := by kernel_rfl

/-- What a copy of a slice of ints leaves. -/
def ToIPost (zs : List Int) (w : World) (e' : Ending) (w' : World) : Prop :=
  ∃ g : Nat, e' = .returned (.slice (some ⟨g, 0, none⟩) zs.length zs.length) ∧ w.heap.size ≤ g ∧ LaidI w' g zs zs.length ∧ Below w.heap.size w w'

theorem LaidI.ints {w : World} {g : Nat} {zs : List Int} (h : LaidI w g zs zs.length) : Ints w w.heap.size (some ⟨g, 0, none⟩) g 0 zs := fun i z hz => by
  obtain ⟨cs, hr, hs, hk⟩ := h
  refine ⟨rfl, hr.lt, ?_⟩
  rw [hr.cell, Nat.zero_add]
  exact hk i z hz (List.getElem?_eq_some_iff.1 hz).1

set_option maxHeartbeats 400000 in
theorem toInts_any (zs : List Int) (A : Option Addr) (cap b off : Nat) (w : World) (hl : zs.length ≤ 1048576) (hI : Ints w w.heap.size A b off zs) :
    Calls Try.prog 36 #[.slice A zs.length cap] w (ToIPost zs w) := by
  have HI := Lib.hid hI
  clear hI
  obtain ⟨i0, hi0, hz0, hz1, hz2⟩ := info_parts Try.info3
  have hmk := run_make_of (P := Try.prog) 22 3 i0 _ Try.underlying22 hi0 hz0 zs.length (by rw [hz2]; omega) (by omega)
  rw [hz1] at hmk
  clear hi0 hz0 hz1 hz2
  obtain ⟨cs, hcs⟩ : ∃ cs, cs = madeCells (Value.cells (.int .i64 0)) (zs.length * 1) := ⟨_, rfl⟩
  have hsz : cs.size = zs.length := by rw [hcs, size_madeCells]; omega
  rw [← hcs] at hmk
  have HSZ := Lib.hid hsz
  clear hcs hsz
  go_enter Try.func36, Try.ntmps36
  go_wp2_with fail
  go_loopw [4] (fun i wl => ∃ j : Nat, j ≤ zs.length ∧ i = .int .i64 j ∧ Hid (LaidI wl w.heap.size zs j) ∧ Hid (Below w.heap.size w wl)) (fun i _ => zs.length - (intOf i).toNat)
  case atStart => exact ⟨0, Nat.zero_le _, rfl, ⟨cs, Row.new _ _ _, HSZ.out, fun _ _ _ h => absurd h (Nat.not_lt_zero _)⟩, (Below.refl _ _).alloc (Nat.le_refl _) _⟩
  case round =>
    clear hmk
    obtain ⟨j, hj, rfl, HL, HB⟩ := hrel
    by_cases hlt : j < zs.length
    · obtain ⟨z, hz⟩ : ∃ z, zs[j]? = some z := ⟨_, List.getElem?_eq_getElem hlt⟩
      obtain ⟨rfl, hb, g0⟩ := HI.out.under HB.out HB.out.size j z hz
      obtain ⟨ds, hr, hs, hk⟩ := HL.out
      obtain ⟨u0, c0⟩ : ∃ u0, wr.cell? ⟨w.heap.size, j, none⟩ = some u0 := ⟨ds[j], by rw [hr.cell]; exact Array.getElem?_eq_getElem _⟩
      have z0 := hr.frozen j
      have HST : Hid (LaidI (wr.setCell ⟨w.heap.size, j, none⟩ (.int .i64 z)) w.heap.size zs (j + 1)) := by
        refine ⟨ds.setIfInBounds j (.int .i64 z), hr.set_ _ _, by simpa using hs, fun i y hy hi => ?_⟩
        rw [Array.getElem?_setIfInBounds]
        by_cases e : j = i
        · subst e
          rw [hz] at hy
          injection hy with hy
          subst hy
          rw [if_pos rfl, if_pos (by omega)]
        · rw [if_neg e]
          exact hk i y hy (by omega)
      clear hr hs hk HL hz
      go_wp2_with fail
      go_roundw
      case rel => exact ⟨j + 1, by omega, by go_num, HST, HB.out.setCell (Nat.le_refl _) _⟩
      case measure => simp [intOf]; omega
    · have hjj : j = zs.length := by omega
      subst hjj
      go_wp2_with fail
      go_ret
      exact ⟨_, rfl, Nat.le_refl _, HL.out, HB.out⟩

end Go.Proofs.Ytefpdkfogfhniaa
namespace Go.Proofs.Ytefpdkfogfhniaa
open Go.RowKit

theorem int_szL (zs : List Int) : Lay.int.szL zs = zs.length := by
  induction zs with
  | nil => rfl
  | cons a r ih =>
    have : Lay.int.szL (a :: r) = 1 + 0 + Lay.int.szL r := rfl
    rw [this, ih, List.length_cons]
    omega

theorem Row.two {w : World} {g : Nat} {t : TypeId} {a0 a1 : Value} (h : Row w g t #[a0, a1]) : w.cell? ⟨g, 0, none⟩ = some a0 ∧ w.cell? ⟨g, 1, none⟩ = some a1 := ⟨h.cell 0, h.cell 1⟩

theorem ints_of {w : World} {B : Nat} {zs : List Int} {A : Option Addr} {b off : Nat} {D : Nat → Nat → Value} (h : Lay.int.Opn w B zs A b off D) : Ints w B A b off zs := fun i z hz => by
  obtain ⟨h1, h2, h3, h4⟩ := h i z hz
  have h5 : w.cell? ⟨b, off + i * 1 + 0, none⟩ = some (D i 0) := h3 0 (by decide)
  have h6 : D i 0 = .int .i64 z := h4
  rw [Nat.mul_one, Nat.add_zero, h6] at h5
  exact ⟨h1, h2, h5⟩

theorem LaidI.sep {w : World} {g lo cap : Nat} {zs : List Int} {C : Nat → Value} (h : LaidI w g zs zs.length) (hl : zs.length ≤ maxLen) (hlo : lo ≤ g) (hC : C 0 = .slice (some ⟨g, 0, none⟩) zs.length cap) : (Lay.int.slice 3).sep w lo w.heap.size zs C := by
  obtain ⟨cs, hr, hs, hk⟩ := h
  refine ⟨_, cap, g, cs, fun i _ => .int .i64 (zs.getD i 0), fun _ => w.heap.size, hC, hl, fun _ _ => Nat.le_refl _, by have := hr.lt; dsimp only; omega, Nat.le_refl _, fun i x hx => ?_⟩
  have hi := (List.getElem?_eq_some_iff.1 hx).1
  refine ⟨rfl, hlo, hr.lt, .inl hr.lt, hr, fun j hj => ?_, ?_⟩
  · have hj0 : j = 0 := by have : j < 1 := hj; omega
    subst hj0
    show cs[i * 1 + 0]? = some (.int .i64 (zs.getD i 0))
    rw [Nat.mul_one, Nat.add_zero, hk i x hx hi]
    simp [List.getD, hx]
  · show Value.int .i64 (zs.getD i 0) = .int .i64 x
    simp [List.getD, hx]

set_option maxHeartbeats 400000 in
theorem szInts_any (A : Option Addr) (n cap : Nat) (left : Int) (w : World) (hl : n ≤ maxLen) (h0 : 0 ≤ left) (h1 : left ≤ 1048576) :
    Calls Try.prog 31 #[.slice A n cap, .int .i64 left] w fun e' w' => e' = .returned (.int .i64 (room left n)) ∧ w = w' := by
  unfold maxLen at hl
  by_cases h : left < n
  · have HR : Hid (room left n = -1) := by show _ = _; unfold room; rw [if_pos h]
    go_enter Try.func31, Try.ntmps31
    go_wp2_with fail
    go_ret
    exact ⟨ret_int HR.out.symm, rfl⟩
  · have HR : Hid (room left n = left - n) := by show _ = _; unfold room; rw [if_neg h]
    go_enter Try.func31, Try.ntmps31
    go_wp2_with fail
    go_ret
    exact ⟨ret_int (by rw [HR.out]), rfl⟩

end Go.Proofs.Ytefpdkfogfhniaa
namespace Go.Proofs.Ytefpdkfogfhniaa
open Go.RowKit

/-- A process as plain data. -/
structure Pr where
  loc : Int
  es : List Ed
/-- A system as plain data. -/
structure Sy where
  ini : List Int
  ps : List Pr
instance : Inhabited Pr := ⟨⟨0, []⟩⟩
instance : Inhabited Sy := ⟨⟨[], []⟩⟩

def Lay.pr : Lay Pr := (Lay.int.prod (Lay.ed.slice 93)).map fun p => (p.loc, p.es)
def Lay.sy : Lay Sy := ((Lay.int.slice 3).prod (Lay.pr.slice 85)).map fun s => (s.ini, s.ps)

theorem pr_lies {w : World} {B : Nat} {loc : Int} {es : List Ed} {C : Nat → Value} (h : Lay.pr.lies w B ⟨loc, es⟩ C) :
    C 0 = .int .i64 loc ∧ ∃ (A : Option Addr) (cap b off : Nat) (D : Nat → Nat → Value), C 1 = .slice A es.length cap ∧ es.length ≤ maxLen ∧ Lay.ed.Opn w B es A b off D := h
theorem sy_lies {w : World} {B : Nat} {ini : List Int} {ps : List Pr} {C : Nat → Value} (h : Lay.sy.lies w B ⟨ini, ps⟩ C) :
    (∃ (A : Option Addr) (cap b off : Nat) (D : Nat → Nat → Value), C 0 = .slice A ini.length cap ∧ ini.length ≤ maxLen ∧ Lay.int.Opn w B ini A b off D) ∧
    ∃ (A : Option Addr) (cap b off : Nat) (D : Nat → Nat → Value), C 1 = .slice A ps.length cap ∧ ps.length ≤ maxLen ∧ Lay.pr.Opn w B ps A b off D := h
theorem pr_sz (p : Pr) : Lay.pr.sz p = Lay.ed.szL p.es := Nat.zero_add _
theorem sy_sz (s : Sy) : Lay.sy.sz s = Lay.int.szL s.ini + Lay.pr.szL s.ps := rfl
end Go.Proofs.Ytefpdkfogfhniaa
namespace Go.Proofs.Ytefpdkfogfhniaa
open Go.ChangeShapes Go.WideShapes Go.ChangeAt Go.RowKit Go.Deep Go.Joins

section
variable {H : Type} {enc : TypeId × Value → H} {W : World} {sp : Nat → Bool}

theorem Try.cells81 : Try.prog.cellsOf 81 = 2 := by kernel_rfl
theorem Try.cells25 : Try.prog.cellsOf 25 = 2 := by kernel_rfl
theorem Try.cells79 : Try.prog.cellsOf 79 = 1 := by kernel_rfl
theorem Try.cells23 : Try.prog.cellsOf 23 = 1 := by kernel_rfl

set_option maxRecDepth 100000 in
theorem opens_pr (hsp : ∀ b, sp b = true) : Opens enc W sp Lay.pr 81 := fun n cs x h => by
  obtain ⟨xs, n, _, rfl, hl, hlen, hf⟩ := DataW.trod_struct Try.underlying81 h
  rw [Try.cells81] at hl
  match xs, hlen, cs, hl with
  | [y0, y1], _, [c0, c1], _ =>
    have u0 := hf 0 _ rfl
    have u1 := hf 1 _ rfl
    simp [Try.cells3] at u0
    simp [Try.cells79] at u1
    obtain ⟨z0, p0⟩ := opens_int _ _ _ u0
    obtain ⟨z1, p1⟩ := opens_slice (t' := 93) hsp Try.underlying79 Try.cells118 (by decide) (opens_ed hsp) _ _ _ u1
    exact ⟨⟨z0, z1⟩, p0, p1⟩

set_option maxRecDepth 100000 in
theorem opens_sy (hsp : ∀ b, sp b = true) : Opens enc W sp Lay.sy 25 := fun n cs x h => by
  obtain ⟨xs, n, _, rfl, hl, hlen, hf⟩ := DataW.trod_struct Try.underlying25 h
  rw [Try.cells25] at hl
  match xs, hlen, cs, hl with
  | [y0, y1], _, [c0, c1], _ =>
    have u0 := hf 0 _ rfl
    have u1 := hf 1 _ rfl
    simp [Try.cells22] at u0
    simp [Try.cells23] at u1
    obtain ⟨z0, p0⟩ := opens_slice (t' := 3) hsp Try.underlying22 Try.cells3 (by decide) opens_int _ _ _ u0
    obtain ⟨z1, p1⟩ := opens_slice (t' := 85) hsp Try.underlying23 Try.cells81 (by decide) (opens_pr hsp) _ _ _ u1
    exact ⟨⟨z0, z1⟩, p0, p1⟩

set_option maxRecDepth 100000 in
theorem open_system {base : Nat} {v : Value} {d : DataW H} {p : List MemPlace} (hval : Value.okWide Try.prog W .any base 25 v) (h : DataW.Trod enc Try.prog W 0 (fun _ => true) true 25 v d p) :
    ∃ (s : Sy) (C : Nat → Value), v = .agg #[C 0, C 1] ∧ Lay.sy.lies W W.heap.size s C := by
  obtain ⟨cs, rfl, hsz⟩ := okWide_struct Try.underlying25 hval
  obtain ⟨c0, c1, rfl⟩ := array2 (hsz.trans Try.cells25)
  obtain ⟨fuel, hf⟩ := h
  obtain ⟨s, hs⟩ := opens_sy (fun _ => rfl) _ _ _ hf
  exact ⟨s, fun j => [c0, c1].getD j undef, rfl, hs⟩

end
end Go.Proofs.Ytefpdkfogfhniaa
namespace Go.Proofs.Ytefpdkfogfhniaa
open Go.RowKit

/-- A state as plain data. -/
structure St where
  locs : List Int
  vals : List Int
instance : Inhabited St := ⟨⟨[], []⟩⟩
def Lay.sta : Lay St := ((Lay.int.slice 3).prod (Lay.int.slice 3)).map fun s => (s.locs, s.vals)
theorem sta_lies {w : World} {B : Nat} {locs vals : List Int} {C : Nat → Value} (h : Lay.sta.lies w B ⟨locs, vals⟩ C) :
    (∃ (A : Option Addr) (cap b off : Nat) (D : Nat → Nat → Value), C 0 = .slice A locs.length cap ∧ locs.length ≤ maxLen ∧ Lay.int.Opn w B locs A b off D) ∧
    ∃ (A : Option Addr) (cap b off : Nat) (D : Nat → Nat → Value), C 1 = .slice A vals.length cap ∧ vals.length ≤ maxLen ∧ Lay.int.Opn w B vals A b off D := h
theorem sta_sz (s : St) : Lay.sta.sz s = s.locs.length + s.vals.length := by
  show Lay.int.szL s.locs + Lay.int.szL s.vals = _
  rw [int_szL, int_szL]

end Go.Proofs.Ytefpdkfogfhniaa

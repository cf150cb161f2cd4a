/- Joined texts: Si, Sys, OpenS, StD. Nothing is assumed. -/
import Derived.Test.YtefpdkfogfhniaaLayBQ
import Derived.Test.YtefpdkfogfhniaaJ04
import Derived.Test.YtefpdkfogfhniaaEd2Q
import Derived.Test.YtefpdkfogfhniaaJ03
namespace Go.Proofs.Ytefpdkfogfhniaa
open Go.RowKit

theorem int_szL (zs : List Int) : Lay.int.szL zs = zs.length := by
  induction zs with
  | nil => rfl
  | cons a r ih =>
    have : Lay.int.szL (a :: r) = 1 + 0 + Lay.int.szL r := rfl
    rw [this, ih, List.length_cons]
    omega

theorem Row.two {w : World} {g : Nat} {t : TypeId} {a0 a1 : Value} (h : Row w g t #[a0, a1]) : w.cell? ⟨g, 0, none⟩ = some a0 ∧ w.cell? ⟨g, 1, none⟩ = some a1 := ⟨h.cell 0, h.cell 1⟩

theorem ints_of {w : World} {B : Nat} {zs : List Int} {A : Option Addr} {b off : Nat} {D : Nat → Nat → Value} (h : Lay.int.Opn w B zs A b off D) : Ints w B A b off zs := fun i z hz => by
  obtain ⟨h1, h2, h3, h4⟩ := h i z hz
  have h5 : w.cell? ⟨b, off + i * 1 + 0, none⟩ = some (D i 0) := h3 0 (by decide)
  have h6 : D i 0 = .int .i64 z := h4
  rw [Nat.mul_one, Nat.add_zero, h6] at h5
  exact ⟨h1, h2, h5⟩

theorem LaidI.sep {w : World} {g lo cap : Nat} {zs : List Int} {C : Nat → Value} (h : LaidI w g zs zs.length) (hl : zs.length ≤ maxLen) (hlo : lo ≤ g) (hC : C 0 = .slice (some ⟨g, 0, none⟩) zs.length cap) : (Lay.int.slice 3).sep w lo w.heap.size zs C := by
  obtain ⟨cs, hr, hs, hk⟩ := h
  refine ⟨_, cap, g, cs, fun i _ => .int .i64 (zs.getD i 0), fun _ => w.heap.size, hC, hl, fun _ _ => Nat.le_refl _, by have := hr.lt; dsimp only; omega, Nat.le_refl _, fun i x hx => ?_⟩
  have hi := (List.getElem?_eq_some_iff.1 hx).1
  refine ⟨rfl, hlo, hr.lt, .inl hr.lt, hr, fun j hj => ?_, ?_⟩
  · have hj0 : j = 0 := by have : j < 1 := hj; omega
    subst hj0
    show cs[i * 1 + 0]? = some (.int .i64 (zs.getD i 0))
    rw [Nat.mul_one, Nat.add_zero, hk i x hx hi]
    simp [List.getD, hx]
  · show Value.int .i64 (zs.getD i 0) = .int .i64 x
    simp [List.getD, hx]

set_option maxHeartbeats 400000 in
theorem szInts_any (A : Option Addr) (n cap : Nat) (left : Int) (w : World) (hl : n ≤ maxLen) (h0 : 0 ≤ left) (h1 : left ≤ 1048576) :
    Calls Try.prog 31 #[.slice A n cap, .int .i64 left] w fun e' w' => e' = .returned (.int .i64 (room left n)) ∧ w = w' := by
  unfold maxLen at hl
  by_cases h : left < n
  · have HR : Hid (room left n = -1) := by show _ = _; unfold room; rw [if_pos h]
    go_enter Try.func31, Try.ntmps31
    go_wp2_with fail
    go_ret
    exact ⟨ret_int HR.out.symm, rfl⟩
  · have HR : Hid (room left n = left - n) := by show _ = _; unfold room; rw [if_neg h]
    go_enter Try.func31, Try.ntmps31
    go_wp2_with fail
    go_ret
    exact ⟨ret_int (by rw [HR.out]), rfl⟩

end Go.Proofs.Ytefpdkfogfhniaa
namespace Go.Proofs.Ytefpdkfogfhniaa
open Go.RowKit

/-- A process as plain data. -/
structure Pr where
  loc : Int
  es : List Ed
/-- A system as plain data. -/
structure Sy where
  ini : List Int
  ps : List Pr
instance : Inhabited Pr := ⟨⟨0, []⟩⟩
instance : Inhabited Sy := ⟨⟨[], []⟩⟩

def Lay.pr : Lay Pr := (Lay.int.prod (Lay.ed.slice 93)).map fun p => (p.loc, p.es)
def Lay.sy : Lay Sy := ((Lay.int.slice 3).prod (Lay.pr.slice 85)).map fun s => (s.ini, s.ps)

theorem pr_lies {w : World} {B : Nat} {loc : Int} {es : List Ed} {C : Nat → Value} (h : Lay.pr.lies w B ⟨loc, es⟩ C) :
    C 0 = .int .i64 loc ∧ ∃ (A : Option Addr) (cap b off : Nat) (D : Nat → Nat → Value), C 1 = .slice A es.length cap ∧ es.length ≤ maxLen ∧ Lay.ed.Opn w B es A b off D := h
theorem sy_lies {w : World} {B : Nat} {ini : List Int} {ps : List Pr} {C : Nat → Value} (h : Lay.sy.lies w B ⟨ini, ps⟩ C) :
    (∃ (A : Option Addr) (cap b off : Nat) (D : Nat → Nat → Value), C 0 = .slice A ini.length cap ∧ ini.length ≤ maxLen ∧ Lay.int.Opn w B ini A b off D) ∧
    ∃ (A : Option Addr) (cap b off : Nat) (D : Nat → Nat → Value), C 1 = .slice A ps.length cap ∧ ps.length ≤ maxLen ∧ Lay.pr.Opn w B ps A b off D := h
theorem pr_sz (p : Pr) : Lay.pr.sz p = Lay.ed.szL p.es := Nat.zero_add _
theorem sy_sz (s : Sy) : Lay.sy.sz s = Lay.int.szL s.ini + Lay.pr.szL s.ps := rfl
end Go.Proofs.Ytefpdkfogfhniaa
namespace Go.Proofs.Ytefpdkfogfhniaa
open Go.ChangeShapes Go.WideShapes Go.ChangeAt Go.RowKit Go.Deep Go.Joins

section
variable {H : Type} {enc : TypeId × Value → H} {W : World} {sp : Nat → Bool}

theorem Try.cells81 : Try.prog.cellsOf 81 = 2 := by kernel_rfl
theorem Try.cells25 : Try.prog.cellsOf 25 = 2 := by kernel_rfl
theorem Try.cells79 : Try.prog.cellsOf 79 = 1 := by kernel_rfl
theorem Try.cells23 : Try.prog.cellsOf 23 = 1 := by kernel_rfl

set_option maxRecDepth 100000 in
theorem opens_pr (hsp : ∀ b, sp b = true) : Opens enc W sp Lay.pr 81 := fun n cs x h => by
  obtain ⟨xs, n, _, rfl, hl, hlen, hf⟩ := DataW.trod_struct Try.underlying81 h
  rw [Try.cells81] at hl
  match xs, hlen, cs, hl with
  | [y0, y1], _, [c0, c1], _ =>
    have u0 := hf 0 _ rfl
    have u1 := hf 1 _ rfl
    simp [Try.cells3] at u0
    simp [Try.cells79] at u1
    obtain ⟨z0, p0⟩ := opens_int _ _ _ u0
    obtain ⟨z1, p1⟩ := opens_slice (t' := 93) hsp Try.underlying79 Try.cells118 (by decide) (opens_ed hsp) _ _ _ u1
    exact ⟨⟨z0, z1⟩, p0, p1⟩

set_option maxRecDepth 100000 in
theorem opens_sy (hsp : ∀ b, sp b = true) : Opens enc W sp Lay.sy 25 := fun n cs x h => by
  obtain ⟨xs, n, _, rfl, hl, hlen, hf⟩ := DataW.trod_struct Try.underlying25 h
  rw [Try.cells25] at hl
  match xs, hlen, cs, hl with
  | [y0, y1], _, [c0, c1], _ =>
    have u0 := hf 0 _ rfl
    have u1 := hf 1 _ rfl
    simp [Try.cells22] at u0
    simp [Try.cells23] at u1
    obtain ⟨z0, p0⟩ := opens_slice (t' := 3) hsp Try.underlying22 Try.cells3 (by decide) opens_int _ _ _ u0
    obtain ⟨z1, p1⟩ := opens_slice (t' := 85) hsp Try.underlying23 Try.cells81 (by decide) (opens_pr hsp) _ _ _ u1
    exact ⟨⟨z0, z1⟩, p0, p1⟩

set_option maxRecDepth 100000 in
theorem open_system {base : Nat} {v : Value} {d : DataW H} {p : List MemPlace} (hval : Value.okWide Try.prog W .any base 25 v) (h : DataW.Trod enc Try.prog W 0 (fun _ => true) true 25 v d p) :
    ∃ (s : Sy) (C : Nat → Value), v = .agg #[C 0, C 1] ∧ Lay.sy.lies W W.heap.size s C := by
  obtain ⟨cs, rfl, hsz⟩ := okWide_struct Try.underlying25 hval
  obtain ⟨c0, c1, rfl⟩ := array2 (hsz.trans Try.cells25)
  obtain ⟨fuel, hf⟩ := h
  obtain ⟨s, hs⟩ := opens_sy (fun _ => rfl) _ _ _ hf
  exact ⟨s, fun j => [c0, c1].getD j undef, rfl, hs⟩

end
end Go.Proofs.Ytefpdkfogfhniaa
namespace Go.Proofs.Ytefpdkfogfhniaa
open Go.RowKit

/-- A state as plain data. -/
structure St where
  locs : List Int
  vals : List Int
instance : Inhabited St := ⟨⟨[], []⟩⟩
def Lay.sta : Lay St := ((Lay.int.slice 3).prod (Lay.int.slice 3)).map fun s => (s.locs, s.vals)
theorem sta_lies {w : World} {B : Nat} {locs vals : List Int} {C : Nat → Value} (h : Lay.sta.lies w B ⟨locs, vals⟩ C) :
    (∃ (A : Option Addr) (cap b off : Nat) (D : Nat → Nat → Value), C 0 = .slice A locs.length cap ∧ locs.length ≤ maxLen ∧ Lay.int.Opn w B locs A b off D) ∧
    ∃ (A : Option Addr) (cap b off : Nat) (D : Nat → Nat → Value), C 1 = .slice A vals.length cap ∧ vals.length ≤ maxLen ∧ Lay.int.Opn w B vals A b off D := h
theorem sta_sz (s : St) : Lay.sta.sz s = s.locs.length + s.vals.length := by
  show Lay.int.szL s.locs + Lay.int.szL s.vals = _
  rw [int_szL, int_szL]

end Go.Proofs.Ytefpdkfogfhniaa

/- Automata: as plain data and in memory. -/
import Derived.Test.YtldnegacgjijlaaSi
namespace Go.Proofs.Ytldnegacgjijlaa
open Go.RowKit

/-- The slice holds these truth values and lies below block B. -/
def Bools (w : World) (B : Nat) (A : Option Addr) (b off : Nat) (zs : List Bool) : Prop :=
  ∀ (i : Nat) (z : Bool), zs[i]? = some z → A = some ⟨b, off, none⟩ ∧ b < B ∧ w.cell? ⟨b, off + i, none⟩ = some (.bool z)
theorem Bools.under {w w' : World} {B B' : Nat} {A : Option Addr} {b off : Nat} {zs : List Bool} (h : Bools w B A b off zs) (hb : Below B w w') (hB : B ≤ B') : Bools w' B' A b off zs := fun i z hz => by
  obtain ⟨h1, h2, h3⟩ := h i z hz
  exact ⟨h1, by omega, (hb.cell (p := ⟨b, off + i, none⟩) h2).trans h3⟩

def Lay.bo : Lay Bool where
  st := 1
  sz _ := 0
  lies _ _ n C := C 0 = .bool n
  sep _ _ _ n C := C 0 = .bool n
  lies_keep _ _ h := h
  lies_ext h k := (h 0 (by omega)).trans k
  sep_keep _ h := h
  sep_more _ _ h := h
  sep_ext h k := (h 0 (by omega)).trans k
  sep_lies h := h

theorem bo_szL (zs : List Bool) : Lay.bo.szL zs = zs.length := by
  induction zs with
  | nil => rfl
  | cons a r ih =>
    have : Lay.bo.szL (a :: r) = 1 + 0 + Lay.bo.szL r := rfl
    rw [this, ih, List.length_cons]
    omega
theorem bools_of {w : World} {B : Nat} {zs : List Bool} {A : Option Addr} {b off : Nat} {D : Nat → Nat → Value} (h : Lay.bo.Opn w B zs A b off D) : Bools w B A b off zs := fun i z hz => by
  obtain ⟨h1, h2, h3, h4⟩ := h i z hz
  have h5 : w.cell? ⟨b, off + i * 1 + 0, none⟩ = some (D i 0) := h3 0 (by decide)
  have h6 : D i 0 = .bool z := h4
  rw [Nat.mul_one, Nat.add_zero, h6] at h5
  exact ⟨h1, h2, h5⟩

/-- A number that an int holds. -/
def Rg (n : Int) : Prop := -9223372036854775808 ≤ n ∧ n ≤ 9223372036854775807
/-- A number with its range. -/
def Lay.rin : Lay Int where
  st := 1
  sz _ := 0
  lies _ _ n C := C 0 = .int .i64 n ∧ Rg n
  sep _ _ _ n C := C 0 = .int .i64 n ∧ Rg n
  lies_keep _ _ h := h
  lies_ext h k := ⟨(h 0 (by omega)).trans k.1, k.2⟩
  sep_keep _ h := h
  sep_more _ _ h := h
  sep_ext h k := ⟨(h 0 (by omega)).trans k.1, k.2⟩
  sep_lies h := h

/-- An edge of an automaton as plain data. -/
structure Tr where
  fr : Int
  ca : Int
  va : Int
  tt : Int
instance : Inhabited Tr := ⟨⟨0, 0, 0, 0⟩⟩
deriving instance DecidableEq for Tr
def TrR (e : Tr) : Prop := Rg e.fr ∧ Rg e.ca ∧ Rg e.va ∧ Rg e.tt
def Lay.tr : Lay Tr := (Lay.rin.prod (Lay.rin.prod (Lay.rin.prod Lay.rin))).map fun e => (e.fr, e.ca, e.va, e.tt)
theorem tr_lies {w : World} {B : Nat} {fr ca va tt : Int} {C : Nat → Value} (h : Lay.tr.lies w B ⟨fr, ca, va, tt⟩ C) :
    C 0 = .int .i64 fr ∧ C 1 = .int .i64 ca ∧ C 2 = .int .i64 va ∧ C 3 = .int .i64 tt := ⟨h.1.1, h.2.1.1, h.2.2.1.1, h.2.2.2.1⟩
theorem tr_rg {w : World} {B : Nat} {e : Tr} {C : Nat → Value} (h : Lay.tr.lies w B e C) : TrR e := ⟨h.1.2, h.2.1.2, h.2.2.1.2, h.2.2.2.2⟩
theorem tr_mk (w : World) (B : Nat) (fr ca va tt : Int) (hr : TrR ⟨fr, ca, va, tt⟩) : Lay.tr.lies w B ⟨fr, ca, va, tt⟩ (fun j => (#[.int .i64 fr, .int .i64 ca, .int .i64 va, .int .i64 tt] : Array Value).getD j undef) := ⟨⟨rfl, hr.1⟩, ⟨rfl, hr.2.1⟩, ⟨rfl, hr.2.2.1⟩, ⟨rfl, hr.2.2.2⟩⟩
theorem tr_sep (w : World) (lo hi : Nat) (h : lo ≤ hi) (fr ca va tt : Int) (hr : TrR ⟨fr, ca, va, tt⟩) : Lay.tr.sep w lo hi ⟨fr, ca, va, tt⟩ (fun j => (#[.int .i64 fr, .int .i64 ca, .int .i64 va, .int .i64 tt] : Array Value).getD j undef) :=
  ⟨lo, Nat.le_refl _, h, ⟨rfl, hr.1⟩, lo, Nat.le_refl _, h, ⟨rfl, hr.2.1⟩, lo, Nat.le_refl _, h, ⟨rfl, hr.2.2.1⟩, ⟨rfl, hr.2.2.2⟩⟩
theorem tr_szL (zs : List Tr) : Lay.tr.szL zs = zs.length := by
  induction zs with
  | nil => rfl
  | cons a r ih =>
    have : Lay.tr.szL (a :: r) = 1 + (0 + (0 + (0 + 0))) + Lay.tr.szL r := rfl
    rw [this, ih, List.length_cons]
    omega
/-- The slice holds these edges and lies below block B. -/
def Trs (w : World) (B : Nat) (A : Option Addr) (b off : Nat) (es : List Tr) : Prop :=
  ∀ (i : Nat) (e : Tr), es[i]? = some e → A = some ⟨b, off, none⟩ ∧ b < B ∧ w.cell? ⟨b, off + i * 4, none⟩ = some (.int .i64 e.fr) ∧ w.cell? ⟨b, off + i * 4 + 1, none⟩ = some (.int .i64 e.ca) ∧ w.cell? ⟨b, off + i * 4 + 2, none⟩ = some (.int .i64 e.va) ∧ w.cell? ⟨b, off + i * 4 + 3, none⟩ = some (.int .i64 e.tt) ∧ TrR e
theorem Trs.under {w w' : World} {B B' : Nat} {A : Option Addr} {b off : Nat} {es : List Tr} (h : Trs w B A b off es) (hb : Below B w w') (hB : B ≤ B') : Trs w' B' A b off es := fun i e he => by
  obtain ⟨h1, h2, h3, h4, h5, h6, h7⟩ := h i e he
  exact ⟨h1, by omega, (hb.cell (p := ⟨b, off + i * 4, none⟩) h2).trans h3, (hb.cell (p := ⟨b, off + i * 4 + 1, none⟩) h2).trans h4, (hb.cell (p := ⟨b, off + i * 4 + 2, none⟩) h2).trans h5, (hb.cell (p := ⟨b, off + i * 4 + 3, none⟩) h2).trans h6, h7⟩
theorem trs_of {w : World} {B : Nat} {es : List Tr} {A : Option Addr} {b off : Nat} {D : Nat → Nat → Value} (h : Lay.tr.Opn w B es A b off D) : Trs w B A b off es := fun i e he => by
  obtain ⟨h1, h2, h3, h4⟩ := h i e he
  have e0 : w.cell? ⟨b, off + i * 4, none⟩ = some (D i 0) := h3 0 (by decide)
  have e1 : w.cell? ⟨b, off + i * 4 + 1, none⟩ = some (D i 1) := h3 1 (by decide)
  have e2 : w.cell? ⟨b, off + i * 4 + 2, none⟩ = some (D i 2) := h3 2 (by decide)
  have e3 : w.cell? ⟨b, off + i * 4 + 3, none⟩ = some (D i 3) := h3 3 (by decide)
  obtain ⟨f0, f1, f2, f3⟩ := tr_lies h4
  rw [f0] at e0
  rw [f1] at e1
  rw [f2] at e2
  rw [f3] at e3
  exact ⟨h1, h2, e0, e1, e2, e3, tr_rg h4⟩

/-- An automaton as plain data. -/
structure Au where
  ini : List Int
  acc : List Bool
  es : List Tr
instance : Inhabited Au := ⟨⟨[], [], []⟩⟩
def Lay.au : Lay Au := ((Lay.int.slice 3).prod ((Lay.bo.slice 4).prod (Lay.tr.slice 116))).map fun a => (a.ini, a.acc, a.es)
theorem au_lies {w : World} {B : Nat} {ini : List Int} {acc : List Bool} {es : List Tr} {C : Nat → Value} (h : Lay.au.lies w B ⟨ini, acc, es⟩ C) :
    (∃ (A : Option Addr) (cap b off : Nat), C 0 = .slice A ini.length cap ∧ ini.length ≤ maxLen ∧ Ints w B A b off ini) ∧
    (∃ (A : Option Addr) (cap b off : Nat), C 1 = .slice A acc.length cap ∧ acc.length ≤ maxLen ∧ Bools w B A b off acc) ∧
    ∃ (A : Option Addr) (cap b off : Nat) (D : Nat → Nat → Value), C 2 = .slice A es.length cap ∧ es.length ≤ maxLen ∧ Lay.tr.Opn w B es A b off D := by
  obtain ⟨⟨A, cap, b, off, D, h1, h2, h3⟩, ⟨A', cap', b', off', D', h1', h2', h3'⟩, h4⟩ := h
  exact ⟨⟨A, cap, b, off, h1, h2, ints_of h3⟩, ⟨A', cap', b', off', h1', h2', bools_of h3'⟩, h4⟩
theorem au_sz (a : Au) : Lay.au.sz a = a.ini.length + (a.acc.length + a.es.length) := by
  show Lay.int.szL a.ini + (Lay.bo.szL a.acc + Lay.tr.szL a.es) = _
  rw [int_szL, bo_szL, tr_szL]
theorem Row.three {w : World} {g : Nat} {t : TypeId} {a0 a1 a2 : Value} (h : Row w g t #[a0, a1, a2]) : w.cell? ⟨g, 0, none⟩ = some a0 ∧ w.cell? ⟨g, 1, none⟩ = some a1 ∧ w.cell? ⟨g, 2, none⟩ = some a2 := ⟨h.cell 0, h.cell 1, h.cell 2⟩
theorem Row.four {w : World} {g : Nat} {t : TypeId} {a0 a1 a2 a3 : Value} (h : Row w g t #[a0, a1, a2, a3]) : w.cell? ⟨g, 0, none⟩ = some a0 ∧ w.cell? ⟨g, 1, none⟩ = some a1 ∧ w.cell? ⟨g, 2, none⟩ = some a2 ∧ w.cell? ⟨g, 3, none⟩ = some a3 := ⟨h.cell 0, h.cell 1, h.cell 2, h.cell 3⟩

end Go.Proofs.Ytldnegacgjijlaa

/- A map whose keys hold the addresses of two rows: a key whose first row is new is not found, and is put at the end. -/
import Derived.Test.YtgdhmdhbpakahaaOwn
import Derived.Test.YtgdhmdhbpakahaaProg
import Derived.LaidEql
import Derived.Laws.StructEq
import Derived.MapKept
import Derived.WalkKit
import Derived.KernelRfl
namespace Go.Proofs.Ytgdhmdhbpakahaa
open Go.RowKit

/-- The key of two rows and a length. -/
def placeV (g : Nat) (h : Addr) (n : Nat) : Value := .agg #[.pointer (some ⟨g, 0, none⟩), .pointer (some h), .int .i64 n]

theorem placeMap : Try.prog.underlying 72 = some (.map 75 4) := by kernel_rfl

set_option maxRecDepth 100000 in
theorem place_check (g : Nat) (h : Addr) (n : Nat) (w : World) : (Instr.checkKey false 10000 75 (placeV g h n)).run Try.prog w = .ok () w := by kernel_rfl
set_option maxRecDepth 100000 in
theorem place_check' (g : Nat) (h : Addr) (n : Nat) (w : World) : (Instr.checkKey true 10000 75 (placeV g h n)).run Try.prog w = .ok () w := by kernel_rfl

theorem placeStruct : Try.prog.underlying 75 = some (.struct (Try.prog.fieldsOf 75)) := by kernel_rfl
theorem placePtr : Try.prog.underlying 73 = some (.pointer 42) := by kernel_rfl
theorem placeInfo : (Try.prog.info? 42).map (·.size) = some 3 := by kernel_rfl
theorem placeHead : ((Try.prog.fieldsOf 75).toList.head?).map (fun f => (f.type, f.offset, f.name == "_")) = some (73, 0, false) := by kernel_rfl
theorem placeFields : ∃ f fs, (Try.prog.fieldsOf 75).toList = f :: fs ∧ f.name ≠ "_" ∧ f.type = 73 ∧ f.offset = 0 := by
  have h := placeHead
  cases hl : (Try.prog.fieldsOf 75).toList with
  | nil => rw [hl] at h; cases h
  | cons f fs =>
    rw [hl] at h
    simp only [List.head?_cons, Option.map_some, Option.some.injEq, Prod.mk.injEq, beq_eq_false_iff_ne] at h
    exact ⟨f, fs, rfl, h.2.2, h.1, h.2.1⟩
set_option maxRecDepth 100000 in
theorem placePart (g : Nat) (h : Addr) (n : Nat) (w : World) : (part 73 #[.pointer (some ⟨g, 0, none⟩), .pointer (some h), .int .i64 n] 0).run Try.prog w = .ok (.pointer (some ⟨g, 0, none⟩)) w := by kernel_rfl
theorem placeHeld : Try.prog.stoodInHeld 75 = false := by kernel_rfl

theorem place_ne {w : World} {g n q m : Nat} {h r : Addr} {ca cb : Array Value} {ta tb : TypeId} (hne : g ≠ q) (ha : Row w g ta ca) (hb : Row w q tb cb) :
    (Op.equal 75 (placeV g h n) (placeV q r m)).run Try.prog w = .ok false w := by
  obtain ⟨f, fs, hf, h1, h2, h3⟩ := placeFields
  obtain ⟨i, hi, hz⟩ : ∃ i, Try.prog.info? 42 = some i ∧ i.size = 3 := by
    have := placeInfo
    cases hh : Try.prog.info? 42 with
    | none => rw [hh] at this; cases this
    | some i => rw [hh] at this; exact ⟨i, rfl, by simpa using this⟩
  have hsame := run_sameAddr_other (P := Try.prog) w (a := ⟨g, 0, none⟩) (b := ⟨q, 0, none⟩) (by intro e; injection e with e; exact hne e) ha hb
  have hpd : ∀ d : Nat, (Op.equalIn (d + 1) 73 (.pointer (some ⟨g, 0, none⟩)) (.pointer (some ⟨q, 0, none⟩))).run Try.prog w = .ok false w := fun d => by
    simp [Op.equalIn, run_underlying placePtr, sizeOf, typeInfo, hi, hz, hsame]
  have hp := hpd 9998
  unfold Op.equal placeV
  rw [show Op.maxDepth = 9999 + 1 from rfl, run_equalIn_struct w 9999 _ _ _ placeStruct placeHeld, hf]
  simp only [Op.eqFields, h1, ne_eq, not_false_eq_true, if_true, Sem.run_bind, h2, h3, placePart, Result.andThen_ok, hp]
  rfl

theorem find_none {w : World} {g n : Nat} {h : Addr} {t : TypeId} {cs : Array Value} (hg : Row w g t cs) : ∀ (es : List MapEntry) (i : Nat), (∀ x ∈ es, ∃ q r m, x.key = placeV q r m ∧ (∃ t cs, Row w q t cs) ∧ g ≠ q) →
    (Instr.findAsking 75 (placeV g h n) es i).run Try.prog w = .ok none w := by
  intro es
  induction es with
  | nil => intro i _; simp [Instr.findAsking]
  | cons x es ih =>
    intro i hx
    obtain ⟨q, r, m, hk, ⟨t', cs', hq⟩, hne⟩ := hx x (by simp)
    have e := place_ne (h := h) (n := n) (r := r) (m := m) hne hg hq
    rw [← hk] at e
    simp only [Instr.findAsking, Sem.run_bind, e, Result.andThen_ok]
    have := ih (i + 1) fun y hy => hx y (by simp [hy])
    simpa using this

theorem findNow_struct (k : Value) (es : List MapEntry) (fs : Array Field) (i : Nat) : es = [] ∨ Instr.findNow (.struct fs) k es i = none := by
  cases es with
  | nil => exact .inl rfl
  | cons x es =>
    right
    simp [Instr.findNow, Instr.sameNow]

theorem findKey_none {w : World} {g n : Nat} {h : Addr} {t : TypeId} {cs : Array Value} (hg : Row w g t cs) (es : List MapEntry) (he : ∀ x ∈ es, ∃ q r m, x.key = placeV q r m ∧ (∃ t cs, Row w q t cs) ∧ g ≠ q) :
    (Instr.findKey 75 (placeV g h n) es).run Try.prog w = .ok none w := by
  have h1 := find_none (h := h) (n := n) hg es 0 he
  unfold Instr.findKey
  simp only [Sem.run_bind, run_underlying placeStruct, Result.andThen_ok]
  rcases findNow_struct (placeV g h n) es (Try.prog.fieldsOf 75) 0 with rfl | h2
  · simp [Instr.findNow]
  · rw [h2]
    exact h1

/-- A block laid anew. -/
def putMp (w : World) (b : Nat) (o : Obj) : World := { w with heap := w.heap.setIfInBounds b o }

theorem zeroBool (u : World) : (zeroValue 4).run Try.prog u = .ok (.bool false) u := by kernel_rfl

theorem lookup_none {w : World} {b : Nat} {es : Array MapEntry} {clock : Nat} (hb : w.heap[b]? = some (.map es clock)) {g n : Nat} {h : Addr} {t : TypeId} {cs : Array Value} (hg : Row w g t cs)
    (he : ∀ x ∈ es.toList, ∃ q r m, x.key = placeV q r m ∧ (∃ t cs, Row w q t cs) ∧ g ≠ q) :
    (Instr.lookup 72 (.map (some b)) (placeV g h n) false).run Try.prog w = .ok (.bool false) w := by
  have hc : (Instr.checkKey es.isEmpty 10000 75 (placeV g h n)).run Try.prog w = .ok () w := by
    cases es.isEmpty
    · exact place_check g h n w
    · exact place_check' g h n w
  simp [Instr.lookup, run_underlying placeMap, MapKept.run_getObj_map hb, hc, findKey_none hg es.toList he, Result.andThen]

theorem update_new {w : World} {b : Nat} {es : Array MapEntry} {clock : Nat} (hb : w.heap[b]? = some (.map es clock)) {g n : Nat} {h : Addr} {t : TypeId} {cs : Array Value} (hg : Row w g t cs)
    (he : ∀ x ∈ es.toList, ∃ q r m, x.key = placeV q r m ∧ (∃ t cs, Row w q t cs) ∧ g ≠ q) (v : Value) :
    (Instr.mapUpdate 72 (.map (some b)) (placeV g h n) v).run Try.prog w = .ok () (putMp w b (.map (es.push ⟨placeV g h n, v, clock⟩) (clock + 1))) := by
  simp [Instr.mapUpdate, run_underlying placeMap, MapKept.run_getObj_map hb, place_check, findKey_none hg es.toList he, MapKept.run_setObj_map _ hb, Result.andThen, putMp]

end Go.Proofs.Ytgdhmdhbpakahaa

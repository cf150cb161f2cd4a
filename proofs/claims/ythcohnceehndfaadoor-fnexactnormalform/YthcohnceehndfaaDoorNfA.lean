/- The walks of impl.polarity's literal and pair. -/
import Derived.Test.YthcohnceehndfaaDoorNfP
import Derived.Test.YthcohnceehndfaaDoorBs
import Derived.Test.YthcohnceehndfaaDoorT1F
import Derived.Test.YthcohnceehndfaaDoorW7F
import Derived.Handy
namespace Go.Proofs.YthcohnceehndfaaDoor
open Go.RowKit

theorem boxes2 (w : World) (t u : TypeId) (a b : Array Value) : Row ((w.alloc (.cells a t)).alloc (.cells b u)) w.heap.size t a ∧ Row ((w.alloc (.cells a t)).alloc (.cells b u)) (w.heap.size + 1) u b ∧ Below w.heap.size w ((w.alloc (.cells a t)).alloc (.cells b u)) := by
  have h1 : Below w.heap.size w (w.alloc (.cells a t)) := (Below.refl _ _).alloc (Nat.le_refl _) _
  have h2 : Below (w.alloc (.cells a t)).heap.size (w.alloc (.cells a t)) ((w.alloc (.cells a t)).alloc (.cells b u)) := (Below.refl _ _).alloc (Nat.le_refl _) _
  have r1 : Row (w.alloc (.cells a t)) w.heap.size t a := Row.new _ _ _
  have r2 : Row ((w.alloc (.cells a t)).alloc (.cells b u)) (w.alloc (.cells a t)).heap.size u b := Row.new _ _ _
  have hs : (w.alloc (.cells a t)).heap.size = w.heap.size + 1 := by simp
  rw [hs] at r2
  exact ⟨r1.under h2 r1.lt, r2, h1.trans (h2.mono h1.size)⟩

/-- One node above two trees, its row behind theirs. -/
theorem SepF.pair {w : World} {lo mid hi g : Nat} {a b : Ex} {a0 a1 a2 b0 b1 b2 : Value} (ha : SepF w lo mid a a0 a1 a2) (hb : SepF w mid hi b b0 b1 b2) (h1 : lo ≤ mid) (h2 : mid ≤ hi) (h3 : hi ≤ g) (hr : Row w g 25 #[a0, a1, a2, b0, b1, b2]) (k v : Int) (cap : Nat) :
    SepF w lo w.heap.size (.node k v [a, b]) (.int .i64 k) (.int .i64 v) (.slice (some ⟨g, 0, none⟩) 2 cap) := by
  have hl := hr.lt
  have two : ∀ (i : Nat) (x : Ex), ([a, b] : List Ex)[i]? = some x → (i = 0 ∧ x = a) ∨ (i = 1 ∧ x = b) := by
    intro i x hx
    match i, hx with
    | 0, hx => exact .inl ⟨rfl, by simpa using hx.symm⟩
    | 1, hx => exact .inr ⟨rfl, by simpa using hx.symm⟩
    | i + 2, hx => simp at hx
  refine .mk lo w.heap.size k v [a, b] _ cap g #[a0, a1, a2, b0, b1, b2] (fun i => if i = 0 then a0 else b0) (fun i => if i = 0 then a1 else b1) (fun i => if i = 0 then a2 else b2) (fun i => if i = 0 then lo else if i = 1 then mid else hi) (by unfold maxLen; simp) (fun i x hx => ⟨rfl, by omega, hl, .inr ?_, ?_, ?_, hr⟩) (fun i x hx => ?_) (fun i x hx => ?_) (fun i x hx => ?_) (fun i hi => ?_) (fun i x hx => ?_)
  · simp; omega
  · simp
  · simp; omega
  · rcases two i x hx with ⟨rfl, rfl⟩ | ⟨rfl, rfl⟩ <;> rfl
  · rcases two i x hx with ⟨rfl, rfl⟩ | ⟨rfl, rfl⟩ <;> rfl
  · rcases two i x hx with ⟨rfl, rfl⟩ | ⟨rfl, rfl⟩ <;> rfl
  · have : i = 0 ∨ i = 1 := by simp at hi; omega
    rcases this with rfl | rfl <;> simp <;> omega
  · rcases two i x hx with ⟨rfl, rfl⟩ | ⟨rfl, rfl⟩
    · simpa using ha
    · simpa using hb

/-- The world behind the stores of a result and the row that it names. -/
theorem set_pair {w w3 : World} {n lo mid : Nat} {a b : Ex} {a0 a1 a2 b0 b1 b2 : Value} (hb : Below w.heap.size w w3) (hn : w.heap.size ≤ n) (hlo : n < lo) (hm : lo ≤ mid) (hh : mid ≤ w3.heap.size)
    (ha : SepF w3 lo mid a a0 a1 a2) (hbb : SepF w3 mid w3.heap.size b b0 b1 b2) {c0 c1 c2 : Value} (hr : Row w3 n 25 #[c0, c1, c2]) (k v : Int) :
    (∃ Y : World, Y = ((((w3.setCell ⟨n, 0, none⟩ (.int .i64 k)).setCell ⟨n, 1, none⟩ (.int .i64 v)).setCell ⟨n, 2, none⟩ (.slice (some ⟨w3.heap.size, 0, none⟩) 2 2)).alloc (.cells #[a0, a1, a2, b0, b1, b2] 25)) ∧
      SepF Y lo Y.heap.size (.node k v [a, b]) (.int .i64 k) (.int .i64 v) (.slice (some ⟨w3.heap.size, 0, none⟩) 2 2) ∧ Below w.heap.size w Y ∧ Y.cell? ⟨n, 0, none⟩ = some (.int .i64 k) ∧ Y.cell? ⟨n, 1, none⟩ = some (.int .i64 v) ∧ Y.cell? ⟨n, 2, none⟩ = some (.slice (some ⟨w3.heap.size, 0, none⟩) 2 2)) := by
  have hX := sep_endF hb hn hlo (.int .i64 k) (.int .i64 v) (.slice (some ⟨w3.heap.size, 0, none⟩) 2 2) (hbb.more hm (Nat.le_refl _))
  obtain ⟨X, hXe⟩ : ∃ X, X = ((w3.setCell ⟨n, 0, none⟩ (.int .i64 k)).setCell ⟨n, 1, none⟩ (.int .i64 v)).setCell ⟨n, 2, none⟩ (.slice (some ⟨w3.heap.size, 0, none⟩) 2 2) := ⟨_, rfl⟩
  have hXs : X.heap.size = w3.heap.size := by rw [hXe]; simp
  have hk : ∀ q, q ≠ n → X.heap[q]? = w3.heap[q]? := fun q hq => by
    rw [hXe, Below.heap_setCell _ _ _ _ (by simpa using hq), Below.heap_setCell _ _ _ _ (by simpa using hq), Below.heap_setCell _ _ _ _ (by simpa using hq)]
  have hrX : Row X n 25 #[.int .i64 k, .int .i64 v, .slice (some ⟨w3.heap.size, 0, none⟩) 2 2] := by rw [hXe]; exact ((hr.set_ 0 _).set_ 1 _).set_ 2 _
  have hBX : Below w.heap.size w X := by rw [hXe]; exact hX.2
  rw [← hXe]
  refine ⟨_, rfl, ?_⟩
  obtain ⟨Y, hY⟩ : ∃ Y, Y = X.alloc (.cells #[a0, a1, a2, b0, b1, b2] 25) := ⟨_, rfl⟩
  rw [← hY]
  have hbY : Below X.heap.size X Y := by rw [hY]; exact (Below.refl _ _).alloc (Nat.le_refl _) _
  have hrY : Row Y w3.heap.size 25 #[a0, a1, a2, b0, b1, b2] := by rw [← hXs, hY]; exact Row.new _ _ _
  have hrn := hrX.under hbY hrX.lt
  exact ⟨SepF.pair ((ha.keep fun q q1 q2 => hk q (by omega)).under hbY (by omega)) ((hbb.keep fun q q1 q2 => hk q (by omega)).under hbY (by omega)) hm hh (Nat.le_refl _) hrY k v 2, hBX.trans (hbY.mono hBX.size), hrn.cell 0, hrn.cell 1, hrn.cell 2⟩
theorem set_one {w w3 : World} {n lo : Nat} {a : Ex} {a0 a1 a2 : Value} (hb : Below w.heap.size w w3) (hn : w.heap.size ≤ n) (hlo : n < lo) (hh : lo ≤ w3.heap.size)
    (ha : SepF w3 lo w3.heap.size a a0 a1 a2) {c0 c1 c2 : Value} (hr : Row w3 n 25 #[c0, c1, c2]) (k v : Int) :
    (∃ Y : World, Y = ((((w3.setCell ⟨n, 0, none⟩ (.int .i64 k)).setCell ⟨n, 1, none⟩ (.int .i64 v)).setCell ⟨n, 2, none⟩ (.slice (some ⟨w3.heap.size, 0, none⟩) 1 1)).alloc (.cells #[a0, a1, a2] 25)) ∧
      SepF Y lo Y.heap.size (.node k v [a]) (.int .i64 k) (.int .i64 v) (.slice (some ⟨w3.heap.size, 0, none⟩) 1 1) ∧ Below w.heap.size w Y ∧ Y.cell? ⟨n, 0, none⟩ = some (.int .i64 k) ∧ Y.cell? ⟨n, 1, none⟩ = some (.int .i64 v) ∧ Y.cell? ⟨n, 2, none⟩ = some (.slice (some ⟨w3.heap.size, 0, none⟩) 1 1)) := by
  have hX := sep_endF hb hn hlo (.int .i64 k) (.int .i64 v) (.slice (some ⟨w3.heap.size, 0, none⟩) 1 1) ha
  obtain ⟨X, hXe⟩ : ∃ X, X = ((w3.setCell ⟨n, 0, none⟩ (.int .i64 k)).setCell ⟨n, 1, none⟩ (.int .i64 v)).setCell ⟨n, 2, none⟩ (.slice (some ⟨w3.heap.size, 0, none⟩) 1 1) := ⟨_, rfl⟩
  have hXs : X.heap.size = w3.heap.size := by rw [hXe]; simp
  have hk : ∀ q, q ≠ n → X.heap[q]? = w3.heap[q]? := fun q hq => by
    rw [hXe, Below.heap_setCell _ _ _ _ (by simpa using hq), Below.heap_setCell _ _ _ _ (by simpa using hq), Below.heap_setCell _ _ _ _ (by simpa using hq)]
  have hrX : Row X n 25 #[.int .i64 k, .int .i64 v, .slice (some ⟨w3.heap.size, 0, none⟩) 1 1] := by rw [hXe]; exact ((hr.set_ 0 _).set_ 1 _).set_ 2 _
  have hBX : Below w.heap.size w X := by rw [hXe]; exact hX.2
  rw [← hXe]
  refine ⟨_, rfl, ?_⟩
  obtain ⟨Y, hY⟩ : ∃ Y, Y = X.alloc (.cells #[a0, a1, a2] 25) := ⟨_, rfl⟩
  rw [← hY]
  have hbY : Below X.heap.size X Y := by rw [hY]; exact (Below.refl _ _).alloc (Nat.le_refl _) _
  have hrY : Row Y w3.heap.size 25 #[a0, a1, a2] := by rw [← hXs, hY]; exact Row.new _ _ _
  have hrn := hrX.under hbY hrX.lt
  exact ⟨((ha.keep fun q q1 q2 => hk q (by omega)).under hbY (by omega)).above hh hrY k v 1, hBX.trans (hbY.mono hBX.size), hrn.cell 0, hrn.cell 1, hrn.cell 2⟩

/-- The method's name, as the program has it. -/
noncomputable def nmName : String := (((Tryd.prog.info? 88).map (fun i => i.methods)).getD #[])[0]?.elim ("" : String) (fun m => m.name)

/-- The function f, called on the node x, answers the normal form. -/
def Nf (f : FuncId) (x : Value) (T : Bool → Ex) : Prop := ∀ (p : Bool) (w : World), Calls Tryd.prog f #[x, .bool p] w (SepPostF w.heap.size (T p) w)

/-- A node in the form that can be rewritten. -/
def NIs (T : Bool → Ex) (nv : Value) : Prop :=
  ∃ (U : TypeId) (x : Value) (f : FuncId), nv = .iface U x ∧ (∀ W : World, (method 236 U x nmName).run Tryd.prog W = .ok (f, x) W) ∧ (∀ (args : Array Value) (W : World), (callFunc f args).run Tryd.prog W = .ok (.enter f args) W) ∧ Nf f x T

set_option maxRecDepth 100000 in
theorem upon_methodN {f : FuncId} {T : TypeId} {x : Value} {nm : String} (hn : nm = nmName) (hm : ∀ W : World, (method 236 T x nmName).run Tryd.prog W = .ok (f, x) W) (W : World) :
    (method 236 T x nm).run Tryd.prog W = .ok (f, x) W := by subst hn; exact hm W

theorem NIs.form {T : Bool → Ex} {nv : Value} (h : NIs T nv) : ∃ U x, nv = .iface U x := by
  obtain ⟨U, x, _, rfl, _⟩ := h
  exact ⟨U, x, rfl⟩

set_option maxHeartbeats 1000000 in
set_option maxRecDepth 100000 in
theorem lit_any (p : Bool) (k v : Int) (w : World) : Calls Tryd.prog 91 #[.bool p, .agg #[.int .i64 k, .int .i64 v, .slice none 0 0]] w (SepPostF w.heap.size (fLit p (.node k v [])) w) := by
  cases p
  · obtain ⟨W3, hW3⟩ : ∃ W3, W3 = ((w.alloc (.cells #[.int .i64 k, .int .i64 v, .slice none 0 0] 25)).alloc (.cells #[.int .i64 3, .int .i64 0, .slice (some ⟨w.heap.size + 1 + 1, 0, none⟩) 1 1] 25)).alloc (.cells #[.int .i64 k, .int .i64 v, .slice none 0 0] 25) := ⟨_, rfl⟩
    have hrows := three_boxes w 25 25 25 #[.int .i64 k, .int .i64 v, .slice none 0 0] #[.int .i64 3, .int .i64 0, .slice (some ⟨w.heap.size + 1 + 1, 0, none⟩) 1 1] #[.int .i64 k, .int .i64 v, .slice none 0 0]
    rw [← hW3] at hrows
    obtain ⟨_, hr1, hr2, hb3, hz3⟩ := hrows
    have h3 := (SepF.leaf W3 w.heap.size (w.heap.size + 1 + 1) k v none 0).above (by omega) hr2 3 0 1
    have y0 : W3.cell? ⟨w.heap.size + 1, 0, none⟩ = some (.int .i64 3) := hr1.cell 0
    have y1 : W3.cell? ⟨w.heap.size + 1, 1, none⟩ = some (.int .i64 0) := hr1.cell 1
    have y2 : W3.cell? ⟨w.heap.size + 1, 2, none⟩ = some (.slice (some ⟨w.heap.size + 1 + 1, 0, none⟩) 1 1) := hr1.cell 2
    have HO := Lib.hid h3
    have HB := Lib.hid hb3
    have HW3 := Lib.hid hW3
    clear hW3 hr1 hr2 hb3 h3
    go_enter Tryd.func91, Tryd.ntmps91
    go_wp2_with fail
    rw [← HW3.out]
    refine bodyPost_ret (v := .agg #[.int .i64 3, .int .i64 0, .slice (some ⟨w.heap.size + 1 + 1, 0, none⟩) 1 1]) (by simp [results, Tryd.results91, go_sem, y0, y1, y2]) rfl ?_
    exact ⟨_, _, _, rfl, HO.out, HB.out⟩
  · obtain ⟨W2, hW2⟩ : ∃ W2, W2 = (w.alloc (.cells #[.int .i64 k, .int .i64 v, .slice none 0 0] 25)).alloc (.cells #[.int .i64 k, .int .i64 v, .slice none 0 0] 25) := ⟨_, rfl⟩
    have hrows := boxes2 w 25 25 #[.int .i64 k, .int .i64 v, .slice none 0 0] #[.int .i64 k, .int .i64 v, .slice none 0 0]
    rw [← hW2] at hrows
    obtain ⟨_, hr1, hb2⟩ := hrows
    have y0 : W2.cell? ⟨w.heap.size + 1, 0, none⟩ = some (.int .i64 k) := hr1.cell 0
    have y1 : W2.cell? ⟨w.heap.size + 1, 1, none⟩ = some (.int .i64 v) := hr1.cell 1
    have y2 : W2.cell? ⟨w.heap.size + 1, 2, none⟩ = some (.slice none 0 0) := hr1.cell 2
    have HB := Lib.hid hb2
    have HW2 := Lib.hid hW2
    clear hW2 hr1 hb2
    go_enter Tryd.func91, Tryd.ntmps91
    go_wp2_with fail
    rw [← HW2.out]
    refine bodyPost_ret (v := .agg #[.int .i64 k, .int .i64 v, .slice none 0 0]) (by simp [results, Tryd.results91, go_sem, y0, y1, y2]) rfl ?_
    exact ⟨_, _, _, rfl, SepF.leaf _ _ _ _ _ _ _, HB.out⟩

set_option maxHeartbeats 1000000 in
set_option maxRecDepth 100000 in
theorem pairN_any (p : Bool) (kd du : Int) (Ta Tb : Bool → Ex) (na nb : Value) (ha : NIs Ta na) (hb : NIs Tb nb) (w : World) :
    Calls Tryd.prog 96 #[.bool p, .int .i64 kd, .int .i64 du, na, nb] w (SepPostF w.heap.size (.node (if p then kd else du) 0 [Ta p, Tb p]) w) := by
  obtain ⟨U, x, f, rfl, hm, hc, he⟩ := ha
  obtain ⟨V, y, g, rfl, km, kc, ke⟩ := hb
  have HM := Lib.hid hm
  have HC := Lib.hid hc
  have HE := Lib.hid (he p)
  have KM := Lib.hid km
  have KC := Lib.hid kc
  have KE := Lib.hid (ke p)
  clear hm hc he km kc ke
  obtain ⟨W1, hW1⟩ : ∃ W1, W1 = w.alloc (.cells #[.int .i64 0, .int .i64 0, .slice none 0 0] 25) := ⟨_, rfl⟩
  have hr1 : Row W1 w.heap.size 25 #[.int .i64 0, .int .i64 0, .slice none 0 0] := by rw [hW1]; exact Row.new _ _ _
  have hb1 : Below w.heap.size w W1 := by rw [hW1]; exact (Below.refl _ _).alloc (Nat.le_refl _) _
  have hs1 : W1.heap.size = w.heap.size + 1 := by rw [hW1]; simp
  have HW1 := Lib.hid hW1
  have HR1 := Lib.hid hr1
  have HB1 := Lib.hid hb1
  clear hW1 hr1 hb1
  obtain ⟨A, hA⟩ : ∃ A, A = Ta p := ⟨_, rfl⟩
  obtain ⟨B, hB⟩ : ∃ B, B = Tb p := ⟨_, rfl⟩
  rw [← hA] at HE
  rw [← hB] at KE
  have HA := Lib.hid hA
  have HBt := Lib.hid hB
  clear hA hB
  obtain ⟨kk, hkk⟩ : ∃ kk : Int, kk = if p then kd else du := ⟨_, rfl⟩
  have HK := Lib.hid hkk
  cases p
  all_goals
    (simp at hkk
     subst hkk
     go_enter Tryd.func96, Tryd.ntmps96
     go_wp2_with fail
     rw [← HW1.out]
     rw [upon_methodN _ HM.out]
     rotate_left
     · kernel_rfl
     go_wp2_with fail
     rw [HC.out]
     go_wp2_with fail
     refine (HE.out W1).mono ?_
     rintro e' w2 ⟨d0, d1, d2, rfl, hsp, hb2⟩
     obtain ⟨i0, i1, ia, il, ic, rfl, rfl, rfl⟩ := hsp.form
     have HSa := Lib.hid hsp
     have hs2 := hb2.size
     have HR2 := Lib.hid (HR1.out.under hb2 HR1.out.lt)
     have HB2 := Lib.hid (HB1.out.trans (hb2.mono HB1.out.size))
     clear hsp hb2
     go_wp2_with fail
     rw [upon_methodN _ KM.out]
     rotate_left
     · kernel_rfl
     go_wp2_with fail
     rw [KC.out]
     go_wp2_with fail
     refine (KE.out w2).mono ?_
     rintro e' w3 ⟨d0, d1, d2, rfl, hsp, hb3⟩
     obtain ⟨j0, j1, ja, jl, jc, rfl, rfl, rfl⟩ := hsp.form
     have hs3 := hb3.size
     have h0 := HR2.out.under hb3 HR2.out.lt
     have hlt0 : w.heap.size < w3.heap.size := h0.lt
     obtain ⟨Y, hY, hS, hBY, y0, y1, y2⟩ := set_pair (HB2.out.trans (hb3.mono HB2.out.size)) (Nat.le_refl _) (by omega) hs2 hs3 (HSa.out.under hb3 (Nat.le_refl _)) hsp h0 kk 0
     have x0 : w3.cell? ⟨w.heap.size, 0, none⟩ = some (.int .i64 0) := h0.cell 0
     have x1 : w3.cell? ⟨w.heap.size, 1, none⟩ = some (.int .i64 0) := h0.cell 1
     have x2 : w3.cell? ⟨w.heap.size, 2, none⟩ = some (.slice none 0 0) := h0.cell 2
     have v0 := h0.frozen 0
     have v1 := h0.frozen 1
     have v2 := h0.frozen 2
     have HF : Hid (SepPostF w.heap.size (.node kk 0 [A, B]) w (.returned (.agg #[.int .i64 kk, .int .i64 0, .slice (some ⟨w3.heap.size, 0, none⟩) 2 2])) Y) := ⟨_, _, _, rfl, hS.more (by omega) (Nat.le_refl _), hBY⟩
     have HY := Lib.hid hY
     clear hsp hb3 h0 hs2 hs3 hs1 hS hBY hY
     go_wp2_with fail
     rw [← HY.out]
     refine bodyPost_ret (v := .agg #[.int .i64 kk, .int .i64 0, .slice (some ⟨w3.heap.size, 0, none⟩) 2 2]) (by simp [results, Tryd.results96, go_sem, y0, y1, y2]) rfl ?_
     rw [← HA.out, ← HBt.out]
     exact HF.out)

end Go.Proofs.YthcohnceehndfaaDoor

/- The walks of impl.newFormulaNode and of the fold that builds the nodes. -/
import Derived.Test.YthcohnceehndfaaDoorNfB
import Derived.Test.YthcohnceehndfaaDoorNfC
import Derived.Test.YthcohnceehndfaaDoorNfC2
import Derived.Test.YthcohnceehndfaaDoorNfD
import Derived.Test.YthcohnceehndfaaDoorNfE
import Derived.Test.YthcohnceehndfaaDoorNfF
import Derived.Test.YthcohnceehndfaaDoorNfG
import Derived.Test.YthcohnceehndfaaDoorLqF
import Derived.Test.YthcohnceehndfaaDoorFmF
namespace Go.Proofs.YthcohnceehndfaaDoor
open Go.RowKit

/-- What newFormulaNode leaves. -/
def NewN (T : Bool → Ex) (w : World) (e' : Ending) (w' : World) : Prop := ∃ nv, e' = .returned nv ∧ NIs T nv ∧ Below w.heap.size w w'

set_option maxHeartbeats 400000 in
set_option maxRecDepth 100000 in
theorem newN_true (A : Option Addr) (n cap : Nat) (S : Value) (w : World) : Calls Tryd.prog 39 #[.agg #[.int .i64 1, .int .i64 0, .slice A n cap], S] w (NewN (fun p => fLit p fTrue) w) := by
  go_enter Tryd.func39, Tryd.ntmps39
  go_wp2_with fail
  go_ret
  exact ⟨_, rfl, true_is, (Below.refl _ _).alloc (Nat.le_refl _) _⟩

set_option maxHeartbeats 400000 in
set_option maxRecDepth 100000 in
theorem newN_atom (v : Int) (A : Option Addr) (n cap : Nat) (S : Value) (w : World) : Calls Tryd.prog 39 #[.agg #[.int .i64 2, .int .i64 v, .slice A n cap], S] w (NewN (fun p => fLit p (.node 2 v [])) w) := by
  go_enter Tryd.func39, Tryd.ntmps39
  go_wp2_with fail
  go_ret
  exact ⟨_, rfl, atom_is v, (Below.refl _ _).alloc (Nat.le_refl _) _⟩

set_option maxHeartbeats 1000000 in
set_option maxRecDepth 100000 in
theorem newN_one (k : Int) (d : Nat) (x : Ex) (n1 : Value) (A : Option Addr) (n cap g cp : Nat) (w : World) (hg : g < w.heap.size) (hc : w.cell? ⟨g, 0, none⟩ = some n1) (h : NIs (fun p => nf d p x) n1) (hk : k = 3 ∨ k = 6 ∨ k = 9 ∨ k = 10) :
    Calls Tryd.prog 39 #[.agg #[.int .i64 k, .int .i64 0, .slice A n cap], .slice (some ⟨g, 0, none⟩) 1 cp] w (NewN (fun p => nf (d + 1) p (.node k 0 [x])) w) := by
  obtain ⟨T, y, rfl⟩ := h.form
  have H := Lib.hid h
  have HR : Hid (∀ nv W, (k = 3 → NIs (fun p => nf d (!p) x) nv) → (k = 6 → NIs (fun p => .node 6 0 [nf d p x]) nv) → (k = 9 → NIs (fun p => .node (if p then 7 else 8) 0 [fLit p fTrue, nf d p x]) nv) → (k = 10 → NIs (fun p => .node (if p then 8 else 7) 0 [fLit (!p) fTrue, nf d p x]) nv) → Below w.heap.size w W → NewN (fun p => nf (d + 1) p (.node k 0 [x])) w (.returned nv) W) := by
    intro nv W q3 q6 q9 q10 hb
    refine ⟨nv, rfl, ?_, hb⟩
    rcases hk with rfl | rfl | rfl | rfl
    · have e : (fun p => nf (d + 1) p (.node 3 0 [x])) = (fun p => nf d (!p) x) := funext fun p => nf_not d p 0 x
      rw [e]; exact q3 rfl
    · have e : (fun p => nf (d + 1) p (.node 6 0 [x])) = (fun p => .node 6 0 [nf d p x]) := funext fun p => nf_next d p 0 x
      rw [e]; exact q6 rfl
    · have e : (fun p => nf (d + 1) p (.node 9 0 [x])) = (fun p => .node (if p then 7 else 8) 0 [fLit p fTrue, nf d p x]) := funext fun p => nf_ev d p 0 x
      rw [e]; exact q9 rfl
    · have e : (fun p => nf (d + 1) p (.node 10 0 [x])) = (fun p => .node (if p then 8 else 7) 0 [fLit (!p) fTrue, nf d p x]) := funext fun p => nf_al d p 0 x
      rw [e]; exact q10 rfl
  obtain ⟨Q, hQ⟩ : ∃ Q, Q = NewN (fun p => nf (d + 1) p (.node k 0 [x])) w := ⟨_, rfl⟩
  rw [← hQ] at HR ⊢
  clear h hQ
  rcases hk with rfl | rfl | rfl | rfl
  all_goals
    (go_enter Tryd.func39, Tryd.ntmps39
     go_wp2_with fail
     try go_ret)
  · exact HR.out _ _ (fun _ => not_isN _ _ H.out) (fun h => by omega) (fun h => by omega) (fun h => by omega) ((Below.refl _ _).alloc (Nat.le_refl _) _)
  · exact HR.out _ _ (fun h => by omega) (fun _ => next_isN _ _ H.out) (fun h => by omega) (fun h => by omega) ((Below.refl _ _).alloc (Nat.le_refl _) _)
  · exact HR.out _ _ (fun h => by omega) (fun h => by omega) (fun _ => ev_isN _ _ H.out) (fun h => by omega) ((Below.refl _ _).alloc (Nat.le_refl _) _)
  · exact HR.out _ _ (fun h => by omega) (fun h => by omega) (fun h => by omega) (fun _ => al_isN _ _ H.out) ((Below.refl _ _).alloc (Nat.le_refl _) _)

set_option maxHeartbeats 1000000 in
set_option maxRecDepth 100000 in
theorem newN_two (k : Int) (d : Nat) (x y : Ex) (n1 n2 : Value) (A : Option Addr) (n cap g cp : Nat) (w : World) (hg : g < w.heap.size) (hc1 : w.cell? ⟨g, 0, none⟩ = some n1) (hc2 : w.cell? ⟨g, 1, none⟩ = some n2) (h1 : NIs (fun p => nf d p x) n1) (h2 : NIs (fun p => nf d p y) n2) (hk : k = 4 ∨ k = 5 ∨ k = 7 ∨ k = 8) :
    Calls Tryd.prog 39 #[.agg #[.int .i64 k, .int .i64 0, .slice A n cap], .slice (some ⟨g, 0, none⟩) 2 cp] w (NewN (fun p => nf (d + 1) p (.node k 0 [x, y])) w) := by
  obtain ⟨T, u, rfl⟩ := h1.form
  obtain ⟨U, v, rfl⟩ := h2.form
  have H1 := Lib.hid h1
  have H2 := Lib.hid h2
  have HR : Hid (∀ nv W, NIs (fun p => .node (if p then k else fDual k) 0 [nf d p x, nf d p y]) nv → Below w.heap.size w W → NewN (fun p => nf (d + 1) p (.node k 0 [x, y])) w (.returned nv) W) := by
    intro nv W q hb
    refine ⟨nv, rfl, ?_, hb⟩
    have e : (fun p => nf (d + 1) p (.node k 0 [x, y])) = (fun p => .node (if p then k else fDual k) 0 [nf d p x, nf d p y]) := funext fun p => nf_two d p 0 x y hk
    rw [e]; exact q
  obtain ⟨Q, hQ⟩ : ∃ Q, Q = NewN (fun p => nf (d + 1) p (.node k 0 [x, y])) w := ⟨_, rfl⟩
  rw [← hQ] at HR ⊢
  clear h1 h2 hQ
  rcases hk with rfl | rfl | rfl | rfl
  all_goals
    (go_enter Tryd.func39, Tryd.ntmps39
     go_wp2_with fail
     go_quiet (fail)
     go_wp2_with fail
     try go_ret)
  · exact HR.out _ _ (and_isN _ _ _ _ H1.out H2.out) (below_drewN ((Below.refl _ _).alloc (Nat.le_refl _) _) _)
  · exact HR.out _ _ (or_isN _ _ _ _ H1.out H2.out) (below_drewN ((Below.refl _ _).alloc (Nat.le_refl _) _) _)
  · exact HR.out _ _ (until_isN _ _ _ _ H1.out H2.out) (below_drewN ((Below.refl _ _).alloc (Nat.le_refl _) _) _)
  · exact HR.out _ _ (release_isN _ _ _ _ H1.out H2.out) (below_drewN ((Below.refl _ _).alloc (Nat.le_refl _) _) _)

theorem Tryd.info58 : (Tryd.prog.info? 58).map (fun i => (i.zero, i.size, i.bytes)) = some (some .nilIface, 1, 16) := by kernel_rfl

theorem newN_kids {d : Nat} {k v : Int} {kids : List Ex} {g : Nat} {w : World} (A : Option Addr) (n cap : Nat)
    (hr : k = 1 ∧ v = 0 ∧ kids.length = 0 ∨ k = 2 ∧ 0 ≤ v ∧ v ≤ 2 ∧ kids.length = 0 ∨ (k = 3 ∨ k = 6 ∨ k = 9 ∨ k = 10) ∧ v = 0 ∧ kids.length = 1 ∨ (k = 4 ∨ k = 5 ∨ k = 7 ∨ k = 8) ∧ v = 0 ∧ kids.length = 2)
    (hpos : 0 < kids.length) (hL : LaidQ w g 58 (fun x nv => NIs (fun p => nf d p x) nv) kids kids.length) :
    Calls Tryd.prog 39 #[.agg #[.int .i64 k, .int .i64 v, .slice A n cap], .slice (some ⟨g, 0, none⟩) kids.length kids.length] w (NewN (fun p => nf (d + 1) p (.node k v kids)) w) := by
  rcases hr with h | h | ⟨hk, rfl, h⟩ | ⟨hk, rfl, h⟩
  · omega
  · omega
  · match kids, h with
    | [x], _ =>
      obtain ⟨n1, hc, hn⟩ := hL.get (i := 0) (x := x) rfl
      exact newN_one k d x n1 A n cap g 1 w hL.lt hc hn hk
  · match kids, h with
    | [x, y], _ =>
      obtain ⟨n1, hc1, hn1⟩ := hL.get (i := 0) (x := x) rfl
      obtain ⟨n2, hc2, hn2⟩ := hL.get (i := 1) (x := y) rfl
      exact newN_two k d x y n1 n2 A n cap g 2 w hL.lt hc1 hc2 hn1 hn2 hk

end Go.Proofs.YthcohnceehndfaaDoor

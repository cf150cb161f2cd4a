/- The walk of impl.formatFormulaNode. -/
import Derived.Test.YtljjbffdenfngaaDoorFmF
import Derived.Test.YtljjbffdenfngaaDoorFm
namespace Go.Proofs.YtljjbffdenfngaaDoor
open Go.RowKit

set_option maxHeartbeats 1000000 in
set_option maxRecDepth 100000 in
theorem fnode_true (K : Option Addr) (n cp : Nat) (w : World) (hF : Forms w) :
    Calls Tryd.prog 29 #[.agg #[.int .i64 1, .int .i64 0, .slice K n cp], .slice none 0 0] w (FmPost ⟨#[84]⟩ w) := by
  have hpos := hF.pos
  have hne : ¬ (0 = w.heap.size) := by omega
  have t1 : w.cell? ⟨0, 3, none⟩ = some (.string ⟨#[84]⟩) := hF.sign 1 (by decide)
  clear hF
  go_enter Tryd.func29, Tryd.ntmps29
  go_wp2_with fail
  go_ret
  exact ⟨ret_str rfl, (Below.refl _ _).alloc (Nat.le_refl _) _⟩

set_option maxHeartbeats 1000000 in
set_option maxRecDepth 100000 in
theorem fnode_atom (v : Int) (K : Option Addr) (n cp : Nat) (S : Value) (w : World) (h0 : 0 ≤ v) (h2 : v ≤ 2) :
    Calls Tryd.prog 29 #[.agg #[.int .i64 2, .int .i64 v, .slice K n cp], S] w (FmPost (strOfNums [112 + v]) w) := by
  have : v = 0 ∨ v = 1 ∨ v = 2 := by omega
  rcases this with rfl | rfl | rfl
  all_goals
    (go_enter Tryd.func29, Tryd.ntmps29
     go_wp2_with fail
     go_ret
     exact ⟨ret_str rfl, (Below.refl _ _).alloc (Nat.le_refl _) _⟩)

set_option maxHeartbeats 1000000 in
set_option maxRecDepth 100000 in
theorem fnode_one (k : Int) (b : ByteArray) (K : Option Addr) (n cp g : Nat) (w : World) (hF : Forms w) (hb : b.size ≤ 192) (hg : g < w.heap.size) (hc : w.cell? ⟨g, 0, none⟩ = some (.string b)) (hk : k = 3 ∨ k = 6 ∨ k = 9 ∨ k = 10) :
    Calls Tryd.prog 29 #[.agg #[.int .i64 k, .int .i64 0, .slice K n cp], .slice (some ⟨g, 0, none⟩) 1 1] w (FmPost (fSg k ++ b) w) := by
  have hpos := hF.pos
  have hne : ¬ (0 = w.heap.size) := by omega
  have t3 : w.cell? ⟨0, 7, none⟩ = some (.string ⟨#[33]⟩) := hF.sign 3 (by decide)
  have t6 : w.cell? ⟨0, 13, none⟩ = some (.string ⟨#[88]⟩) := hF.sign 6 (by decide)
  have t9 : w.cell? ⟨0, 19, none⟩ = some (.string ⟨#[70]⟩) := hF.sign 9 (by decide)
  have t10 : w.cell? ⟨0, 21, none⟩ = some (.string ⟨#[71]⟩) := hF.sign 10 (by decide)
  have s3 : (⟨#[33]⟩ : ByteArray).size = 1 := rfl
  have s6 : (⟨#[88]⟩ : ByteArray).size = 1 := rfl
  have s9 : (⟨#[70]⟩ : ByteArray).size = 1 := rfl
  have s10 : (⟨#[71]⟩ : ByteArray).size = 1 := rfl
  clear hF
  rcases hk with rfl | rfl | rfl | rfl
  all_goals
    (go_enter Tryd.func29, Tryd.ntmps29
     go_wp2_with fail
     go_ret
     exact ⟨ret_str rfl, (Below.refl _ _).alloc (Nat.le_refl _) _⟩)

set_option maxHeartbeats 1000000 in
set_option maxRecDepth 100000 in
theorem fnode_two (k : Int) (a b : ByteArray) (K : Option Addr) (n cp g : Nat) (w : World) (hF : Forms w) (ha : a.size ≤ 192) (hb : b.size ≤ 192) (hg : g < w.heap.size) (hc : w.cell? ⟨g, 0, none⟩ = some (.string a)) (hd : w.cell? ⟨g, 1, none⟩ = some (.string b)) (hk : k = 4 ∨ k = 5 ∨ k = 7 ∨ k = 8) :
    Calls Tryd.prog 29 #[.agg #[.int .i64 k, .int .i64 0, .slice K n cp], .slice (some ⟨g, 0, none⟩) 2 2] w (FmPost ((⟨#[40]⟩ : ByteArray) ++ a ++ fSg k ++ b ++ (⟨#[41]⟩ : ByteArray)) w) := by
  have hpos := hF.pos
  have hne : ¬ (0 = w.heap.size) := by omega
  have t3 : w.cell? ⟨0, 9, none⟩ = some (.string ⟨#[38]⟩) := hF.sign 4 (by decide)
  have t6 : w.cell? ⟨0, 11, none⟩ = some (.string ⟨#[124]⟩) := hF.sign 5 (by decide)
  have t9 : w.cell? ⟨0, 15, none⟩ = some (.string ⟨#[85]⟩) := hF.sign 7 (by decide)
  have t10 : w.cell? ⟨0, 17, none⟩ = some (.string ⟨#[82]⟩) := hF.sign 8 (by decide)
  have s3 : (⟨#[38]⟩ : ByteArray).size = 1 := rfl
  have s6 : (⟨#[124]⟩ : ByteArray).size = 1 := rfl
  have s9 : (⟨#[85]⟩ : ByteArray).size = 1 := rfl
  have s10 : (⟨#[82]⟩ : ByteArray).size = 1 := rfl
  have c1 : (⟨#[40]⟩ : ByteArray).size = 1 := rfl
  have c2 : (⟨#[41]⟩ : ByteArray).size = 1 := rfl
  clear hF
  rcases hk with rfl | rfl | rfl | rfl
  all_goals
    (go_enter Tryd.func29, Tryd.ntmps29
     go_wp2_with fail
     go_quiet (fail)
     go_wp2_with fail
     go_ret
     exact ⟨ret_str rfl, below_drewN ((Below.refl _ _).alloc (Nat.le_refl _) _) _⟩)

end Go.Proofs.YtljjbffdenfngaaDoor

/- The walks of strconv.Itoa at small numbers and of impl.formatNode. -/
import Derived.Test.YtcipnecdeipeaaaDoorJ04
import Derived.Test.YtcipnecdeipeaaaDoorJ06
import Derived.BigQuiet
namespace Go.Proofs.YtcipnecdeipeaaaDoor
open Go.RowKit


set_option maxHeartbeats 400000 in
set_option maxRecDepth 100000 in
theorem small_any (v : Int) (w : World) (h0 : 0 ≤ v) (h3 : v ≤ 4) : Calls Tryd.prog 58 #[.int .i64 v] w (FmPost (strOfNums [48 + v]) w) := by
  have : v = 0 ∨ v = 1 ∨ v = 2 ∨ v = 3 ∨ v = 4 := by omega
  rcases this with rfl | rfl | rfl | rfl | rfl
  all_goals
    (go_enter Tryd.func58, Tryd.ntmps58
     go_wp2_with fail
     go_ret
     exact ⟨ret_str rfl, Below.refl _ _⟩)

set_option maxHeartbeats 400000 in
set_option maxRecDepth 100000 in
theorem formatInt_any (v : Int) (w : World) (h0 : 0 ≤ v) (h3 : v ≤ 4) : Calls Tryd.prog 48 #[.int .i64 v, .int .i64 10] w (FmPost (strOfNums [48 + v]) w) := by
  go_enter Tryd.func48, Tryd.ntmps48
  go_wp2_with fail
  refine (small_any v w h0 h3).mono ?_
  rintro e' w1 ⟨rfl, hb1⟩
  have HB := Lib.hid hb1
  obtain ⟨F, hF⟩ : ∃ F, F = strOfNums [48 + v] := ⟨_, rfl⟩
  rw [← hF]
  have HF := Lib.hid hF
  clear hb1 hF
  go_wp2_with fail
  go_ret
  exact ⟨ret_str HF.out, HB.out⟩

set_option maxHeartbeats 400000 in
set_option maxRecDepth 100000 in
theorem itoaI_any (v : Int) (w : World) (h0 : 0 ≤ v) (h3 : v ≤ 4) : Calls Tryd.prog 37 #[.int .i64 v] w (FmPost (strOfNums [48 + v]) w) := by
  go_enter Tryd.func37, Tryd.ntmps37
  go_wp2_with fail
  refine (formatInt_any v w h0 h3).mono ?_
  rintro e' w1 ⟨rfl, hb1⟩
  have HB := Lib.hid hb1
  obtain ⟨F, hF⟩ : ∃ F, F = strOfNums [48 + v] := ⟨_, rfl⟩
  rw [← hF]
  have HF := Lib.hid hF
  clear hb1 hF
  go_wp2_with fail
  go_ret
  exact ⟨ret_str HF.out, HB.out⟩

set_option maxHeartbeats 400000 in
set_option maxRecDepth 100000 in
theorem itoa_any (v : Int) (w : World) (h0 : 0 ≤ v) (h3 : v ≤ 4) : Calls Tryd.prog 29 #[.int .i64 v] w (FmPost (strOfNums [48 + v]) w) := by
  go_enter Tryd.func29, Tryd.ntmps29
  go_wp2_with fail
  refine (itoaI_any v w h0 h3).mono ?_
  rintro e' w1 ⟨rfl, hb1⟩
  have HB := Lib.hid hb1
  obtain ⟨F, hF⟩ : ∃ F, F = strOfNums [48 + v] := ⟨_, rfl⟩
  rw [← hF]
  have HF := Lib.hid hF
  clear hb1 hF
  go_wp2_with fail
  go_ret
  exact ⟨ret_str HF.out, HB.out⟩

set_option maxHeartbeats 400000 in
set_option maxRecDepth 100000 in
theorem node_const (v : Int) (K : Option Addr) (n cp : Nat) (S : Value) (w : World) (h0 : 0 ≤ v) (h3 : v ≤ 3) :
    Calls Tryd.prog 51 #[.agg #[.int .i64 1, .int .i64 v, .slice K n cp], S] w (FmPost (strOfNums [48 + v]) w) := by
  have HB0 : Hid (Below w.heap.size w (w.alloc (.cells #[.int .i64 1, .int .i64 v, .slice K n cp] 44))) := (Below.refl _ _).alloc (Nat.le_refl _) _
  go_enter Tryd.func51, Tryd.ntmps51
  go_wp2_with fail
  refine (itoa_any v _ h0 (by omega)).mono ?_
  rintro e' w1 ⟨rfl, hb1⟩
  have HB := Lib.hid (HB0.out.trans (hb1.mono HB0.out.size))
  obtain ⟨F, hF⟩ : ∃ F, F = strOfNums [48 + v] := ⟨_, rfl⟩
  rw [← hF]
  have HF := Lib.hid hF
  clear hb1 hF
  go_wp2_with fail
  go_ret
  exact ⟨ret_str HF.out, HB.out⟩

set_option maxHeartbeats 400000 in
set_option maxRecDepth 100000 in
theorem node_var (v : Int) (K : Option Addr) (n cp : Nat) (S : Value) (w : World) (h0 : 0 ≤ v) (h2 : v ≤ 2) :
    Calls Tryd.prog 51 #[.agg #[.int .i64 2, .int .i64 v, .slice K n cp], S] w (FmPost (strOfNums [120 + v]) w) := by
  have : v = 0 ∨ v = 1 ∨ v = 2 := by omega
  rcases this with rfl | rfl | rfl
  all_goals
    (go_enter Tryd.func51, Tryd.ntmps51
     go_wp2_with fail
     go_ret
     exact ⟨ret_str rfl, (Below.refl _ _).alloc (Nat.le_refl _) _⟩)

set_option maxHeartbeats 400000 in
set_option maxRecDepth 100000 in
theorem node_not (b : ByteArray) (K : Option Addr) (n cp g m : Nat) (w : World) (hb : b.size ≤ 192) (hg : g < w.heap.size) (hm : 1 ≤ m) (hc : w.cell? ⟨g, 0, none⟩ = some (.string b)) :
    Calls Tryd.prog 51 #[.agg #[.int .i64 3, .int .i64 0, .slice K n cp], .slice (some ⟨g, 0, none⟩) m m] w (FmPost ((⟨#[33]⟩ : ByteArray) ++ b) w) := by
  have hs : (⟨#[33]⟩ : ByteArray).size = 1 := rfl
  go_enter Tryd.func51, Tryd.ntmps51
  go_wp2_with fail
  go_ret
  exact ⟨ret_str rfl, (Below.refl _ _).alloc (Nat.le_refl _) _⟩

set_option maxHeartbeats 1000000 in
set_option maxRecDepth 100000 in
theorem node_two (k : Int) (a b : ByteArray) (K : Option Addr) (n cp g m : Nat) (w : World) (ha : a.size ≤ 192) (hb : b.size ≤ 192) (hg : g < w.heap.size) (hm : 2 ≤ m) (hc : w.cell? ⟨g, 0, none⟩ = some (.string a)) (hd : w.cell? ⟨g, 1, none⟩ = some (.string b)) (h4 : 4 ≤ k) (h9 : k ≤ 9) :
    Calls Tryd.prog 51 #[.agg #[.int .i64 k, .int .i64 0, .slice K n cp], .slice (some ⟨g, 0, none⟩) m m] w (FmPost ((⟨#[40]⟩ : ByteArray) ++ a ++ strOfNums [signB k] ++ b ++ (⟨#[41]⟩ : ByteArray)) w) := by
  have c1 : (⟨#[40]⟩ : ByteArray).size = 1 := rfl
  have c2 : (⟨#[41]⟩ : ByteArray).size = 1 := rfl
  have : k = 4 ∨ k = 5 ∨ k = 6 ∨ k = 7 ∨ k = 8 ∨ k = 9 := by omega
  rcases this with rfl | rfl | rfl | rfl | rfl | rfl
  all_goals
    (go_enter Tryd.func51, Tryd.ntmps51
     go_wp2_with fail
     go_quiet (fail)
     go_wp2_with fail
     go_ret
     exact ⟨ret_str rfl, below_drewN ((Below.refl _ _).alloc (Nat.le_refl _) _) _⟩)

end Go.Proofs.YtcipnecdeipeaaaDoor

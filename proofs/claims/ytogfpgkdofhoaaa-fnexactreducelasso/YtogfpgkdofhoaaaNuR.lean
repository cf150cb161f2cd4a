/- The walk of impl.rotate. -/
import Derived.Test.YtogfpgkdofhoaaaNuG
import Derived.Deep.RegionWith
namespace Go.Proofs.Ytogfpgkdofhoaaa
namespace La
open Go.RowKit

theorem ints_drop {w : World} {B b : Nat} {zs : List Int} {A : Option Addr} {off : Nat} (h : Ints w B A b off zs) (k : Nat) : Ints w B (some ⟨b, off + k, none⟩) b (off + k) (zs.drop k) := fun i z hz => by
  rw [List.getElem?_drop] at hz
  obtain ⟨_, h2, h3⟩ := h (k + i) z hz
  exact ⟨rfl, h2, by rw [Nat.add_assoc]; exact h3⟩
theorem ints_take {w : World} {B b : Nat} {zs : List Int} {A : Option Addr} {off : Nat} (h : Ints w B A b off zs) (k : Nat) : Ints w B A b off (zs.take k) := fun i z hz => by
  rw [List.getElem?_take] at hz
  split at hz
  · exact h i z hz
  · cases hz

set_option maxHeartbeats 400000 in
set_option maxRecDepth 100000 in
theorem rotate_any (zs : List Int) (b cap k : Nat) (w : World) (hc : zs.length ≤ cap) (hk : k < zs.length) (hz : zs.length ≤ 1048576) (hI : Ints w w.heap.size (some ⟨b, 0, none⟩) b 0 zs) :
    Calls Try.prog 21 #[.slice (some ⟨b, 0, none⟩) zs.length cap, .int .i64 (k : Int)] w (RowPost (zs.drop k ++ zs.take k) w) := by
  obtain ⟨n, hn⟩ : ∃ n, n = zs.length := ⟨_, rfl⟩
  have HI := Lib.hid hI
  have HN := Lib.hid hn
  rw [← hn] at hc hk hz ⊢

  have hl1 : (zs.drop k).length = n - k := by rw [List.length_drop, ← hn]
  have hl2 : (zs.take k).length = k := by rw [List.length_take, ← hn]; omega
  obtain ⟨W, hW⟩ : ∃ W, W = w.alloc (.cells #[.slice (some ⟨b, k, none⟩) (n - k) (cap - k), .slice (some ⟨b, 0, none⟩) k cap] 22) := ⟨_, rfl⟩
  have hb : Below w.heap.size w W := by rw [hW]; exact (Below.refl _ _).alloc (Nat.le_refl _) _
  have hr : Row W w.heap.size 22 #[.slice (some ⟨b, k, none⟩) (n - k) (cap - k), .slice (some ⟨b, 0, none⟩) k cap] := by rw [hW]; exact Row.new _ _ _
  have hI1 := hI.under hb.drew hb.size
  have hI2 := ints_drop hI1 k
  rw [Nat.zero_add] at hI2
  have HCon : Hid (Calls Try.prog 30 #[.slice (some ⟨w.heap.size, 0, none⟩) 2 2] W.drew (RowPost (zs.drop k ++ zs.take k) W.drew)) :=
    concat_any (zs.drop k) (zs.take k) (some ⟨b, k, none⟩) (some ⟨b, 0, none⟩) (cap - k) cap b k b 0 w.heap.size W.drew (by rw [hl1, hl2]; omega) (by rw [hl1, hl2]; omega) hr.lt (by rw [hl1]; exact hr.cell 0) (by rw [hl2]; exact hr.cell 1) hI2 (ints_take hI1 k)
  have HB := Lib.hid hb
  rw [hW] at HCon HB
  obtain ⟨rs, hrs⟩ : ∃ rs, rs = zs.drop k ++ zs.take k := ⟨_, rfl⟩
  rw [← hrs] at HCon ⊢
  clear hrs
  clear hn hI hl1 hl2 hW hb hr hI1 hI2 W
  go_enter Try.func21, Try.ntmps21
  go_wp2_with fail
  go_region_with (first
    | (go_at_call 30
       with_reducible refine HCon.out.mono ?_
       rintro e' w1 ⟨A, c, rfl, hsep, hb1⟩
       have HSep := Lib.hid hsep
       have HB1 : Hid (Below w.heap.size w w1) := HB.out.drew.trans (hb1.mono HB.out.size)
       have hsz := HB.out.size
       clear hsep hb1))
  all_goals
    (go_wp2_with fail
     go_ret
     exact ⟨A, c, rfl, (Lay.int.slice _).sep_more hsz (Nat.le_refl _) HSep.out, HB1.out⟩)

end La
end Go.Proofs.Ytogfpgkdofhoaaa

/- slices.Clone, slices.Concat of two rows and impl.rotate: the row that they give is owned. -/
import Derived.Test.YtogfpgkdofhoaaaNuR
namespace Go.Proofs.Ytogfpgkdofhoaaa
namespace La
open Go.RowKit

def OwnPost (zs : List Int) (w : World) (e' : Ending) (w' : World) : Prop :=
  ∃ g k : Nat, e' = .returned (.slice (some ⟨g, 0, none⟩) zs.length k) ∧ OwnI w' w.heap.size g zs k ∧ Below w.heap.size w w'

set_option maxHeartbeats 400000 in
set_option maxRecDepth 100000 in
theorem cloneO_any (zs : List Int) (ad : Addr) (cap b off : Nat) (w : World) (hz : zs.length ≤ 1048576) (hI : Ints w w.heap.size (some ad) b off zs) :
    Calls Try.prog 19 #[.slice (some ad) zs.length cap] w (OwnPost zs w) := by
  have hnil : Sem.run Try.prog (binOp BinOp.eql 22 (.slice (some ad) zs.length cap) (.slice none 0 0)) w = .ok (.bool false) w := by kernel_rfl
  have HI := Lib.hid (hI.under (B' := (w.alloc (.cells #[] 3)).heap.size) ((Below.refl _ w).alloc (Nat.le_refl _) (.cells #[] 3)) (by simp))
  have HO : Hid (OwnI (w.alloc (.cells #[] 3)) w.heap.size w.heap.size [] 0) := OwnI.empty (Nat.le_refl _) (Row.new _ _ _)
  obtain ⟨n, hn⟩ : ∃ n, n = zs.length := ⟨_, rfl⟩
  have HN := Lib.hid hn
  rw [← hn] at hnil ⊢
  clear hI hn
  go_enter Try.func19, Try.ntmps19
  go_wp2_with (at_builtin; refine wpList_ints rfl (.tmp 5) (.tmp 6) rfl w.heap.size w.heap.size 0 [] zs (some ad) b off cap rfl (by rw [← HN.out]; rfl) HO.out HI.out (by simp; omega) (by simp) ?_; intro g k w' hown hgrow hat hlt)
  have HOw := Lib.hid hown
  have HB : Hid (Below w.heap.size w w') := Below.grow ((Below.refl _ w).alloc (Nat.le_refl _) _) hgrow (by simp) (Nat.le_refl _)
  clear hown hgrow hat hlt
  go_wp2_with fail
  go_ret
  exact ⟨g, k, rfl, HOw.out, HB.out⟩

set_option maxHeartbeats 1000000 in
set_option maxRecDepth 100000 in
theorem concatO_any (xs ys : List Int) (A B : Option Addr) (ca cb b off c pff q : Nat) (w : World) (h0 : 0 < xs.length + ys.length) (hz : xs.length + ys.length ≤ 1048576) (hq : q < w.heap.size)
    (hc0 : w.cell? ⟨q, 0, none⟩ = some (.slice A xs.length ca)) (hc1 : w.cell? ⟨q, 1, none⟩ = some (.slice B ys.length cb)) (hI : Ints w w.heap.size A b off xs) (hJ : Ints w w.heap.size B c pff ys) :
    Calls Try.prog 30 #[.slice (some ⟨q, 0, none⟩) 2 2] w (OwnPost (xs ++ ys) w) := by
  obtain ⟨n, hn⟩ : ∃ n, n = xs.length := ⟨_, rfl⟩
  obtain ⟨m, hm⟩ : ∃ m, m = ys.length := ⟨_, rfl⟩
  have HN := Lib.hid hn
  have HM := Lib.hid hm
  rw [← hn] at h0 hz hc0
  rw [← hm] at h0 hz hc1
  have HI := Lib.hid hI
  have HJ := Lib.hid hJ
  have HC : Hid (∀ W, Below w.heap.size w W → W.cell? ⟨q, 0, none⟩ = some (.slice A n ca) ∧ W.cell? ⟨q, 1, none⟩ = some (.slice B m cb)) := fun W hW =>
    ⟨(hW.cell (p := ⟨q, 0, none⟩) hq).trans hc0, (hW.cell (p := ⟨q, 1, none⟩) hq).trans hc1⟩
  clear hn hm hI hJ
  go_enter Try.func30, Try.ntmps30
  go_wp2_with fail
  go_loop [3, 11] (fun s i => ∃ j S : Nat, j ≤ 2 ∧ i = .int .i64 j ∧ s = .int .i64 S ∧ S ≤ n + m ∧ Hid (S = if j = 0 then 0 else if j = 1 then n else n + m)) (fun _ i => 2 - (intOf i).toNat)
  case atStart => exact ⟨0, 0, by omega, rfl, rfl, Nat.zero_le _, rfl⟩
  case round =>
    obtain ⟨j, S, hj, rfl, rfl, hS, HS⟩ := hrel
    by_cases e0 : j = 0
    · subst e0
      have hS0 : S = 0 := HS.out
      subst hS0
      go_wp2_with fail
      go_round
      case rel => exact ⟨1, n, by omega, rfl, by first | rfl | go_num, by omega, rfl⟩
      case measure => simp [intOf]
    by_cases e1 : j = 1
    · subst e1
      have hS1 : S = n := HS.out
      subst hS1
      go_wp2_with fail
      go_round
      case rel => exact ⟨2, S + m, by omega, rfl, by first | rfl | go_num, by omega, rfl⟩
      case measure => simp [intOf]
    have hj2 : j = 2 := by omega
    subst hj2
    have hS2 : S = n + m := HS.out
    subst hS2
    clear HS hS e0 e1 hj
    go_wp2_with fail
    refine (grow_any (n + m) w h0 hz).mono ?_
    rintro e' w1 ⟨g1, k1, rfl, ho1, hb1⟩
    have HO1 := Lib.hid ho1
    have HB1 := Lib.hid hb1
    clear ho1 hb1 hc0 hc1
    go_wp2_with fail
    go_loopw [6, 27] (fun s i wl => ∃ j g k : Nat, j ≤ 2 ∧ i = .int .i64 j ∧ s = .slice (some ⟨g, 0, none⟩) (cat2 xs ys j).length k ∧ Hid (OwnI wl w.heap.size g (cat2 xs ys j) k) ∧ Hid (Below w.heap.size w wl)) (fun _ i _ => 2 - (intOf i).toNat)
    case atStart => exact ⟨0, g1, k1, by omega, rfl, rfl, HO1, HB1⟩
    case round =>
      obtain ⟨j, g, k, hj, rfl, rfl, HO, HB⟩ := hrel
      obtain ⟨c0, c1⟩ := HC.out wr HB.out
      have hzr : w.heap.size ≤ wr.heap.size := HB.out.size
      have hgb : w.heap.size ≤ g := HO.out.le
      by_cases e0 : j = 0
      · subst e0
        have HIr := Lib.hid (HI.out.under HB.out HB.out.size)
        go_wp2_with (at_builtin; refine wpList_ints rfl (.tmp 31) (.tmp 32) rfl w.heap.size g k [] xs A b off ca rfl (by rw [← HN.out]; rfl) HO.out HIr.out (by rw [← HN.out]; simp; omega) hzr ?_; intro g2 k2 w2 hown hgrow hat hlt)
        have HO2 : Hid (OwnI w2 w.heap.size g2 (cat2 xs ys 1) k2) := hown
        have HB2 : Hid (Below w.heap.size w w2) := Below.grow HB.out hgrow hzr hgb
        clear hown hgrow hat HO HB
        go_wp2_with fail
        go_roundw
        case rel => exact ⟨1, g2, k2, by omega, rfl, rfl, HO2, HB2⟩
        case measure => simp [intOf]
      by_cases e1 : j = 1
      · subst e1
        have HIr := Lib.hid (HJ.out.under HB.out HB.out.size)
        go_wp2_with (at_builtin; refine wpList_ints rfl (.tmp 31) (.tmp 32) rfl w.heap.size g k xs ys B c pff cb rfl (by rw [← HM.out]; rfl) HO.out HIr.out (by rw [← HM.out, ← HN.out]; omega) hzr ?_; intro g2 k2 w2 hown hgrow hat hlt)
        have HO2 : Hid (OwnI w2 w.heap.size g2 (cat2 xs ys 2) k2) := hown
        have HB2 : Hid (Below w.heap.size w w2) := Below.grow HB.out hgrow hzr hgb
        clear hown hgrow hat HO HB
        go_wp2_with fail
        go_roundw
        case rel => exact ⟨2, g2, k2, by omega, rfl, (by show _ = Value.slice _ (xs ++ ys).length _; rw [List.length_append]), HO2, HB2⟩
        case measure => simp [intOf]
      have hj2 : j = 2 := by omega
      subst hj2
      have HF : Hid (OwnPost (xs ++ ys) w (.returned (.slice (some ⟨g, 0, none⟩) (cat2 xs ys 2).length k)) wr) := by
        exact ⟨g, k, rfl, HO.out, HB.out⟩
      go_wp2_with fail
      go_ret
      exact HF.out

set_option maxHeartbeats 400000 in
set_option maxRecDepth 100000 in
theorem rotateO_any (zs : List Int) (b cap k : Nat) (w : World) (hc : zs.length ≤ cap) (hk : k < zs.length) (hz : zs.length ≤ 1048576) (hI : Ints w w.heap.size (some ⟨b, 0, none⟩) b 0 zs) :
    Calls Try.prog 21 #[.slice (some ⟨b, 0, none⟩) zs.length cap, .int .i64 (k : Int)] w (OwnPost (zs.drop k ++ zs.take k) w) := by
  obtain ⟨n, hn⟩ : ∃ n, n = zs.length := ⟨_, rfl⟩
  have HI := Lib.hid hI
  have HN := Lib.hid hn
  rw [← hn] at hc hk hz ⊢

  have hl1 : (zs.drop k).length = n - k := by rw [List.length_drop, ← hn]
  have hl2 : (zs.take k).length = k := by rw [List.length_take, ← hn]; omega
  obtain ⟨W, hW⟩ : ∃ W, W = w.alloc (.cells #[.slice (some ⟨b, k, none⟩) (n - k) (cap - k), .slice (some ⟨b, 0, none⟩) k cap] 22) := ⟨_, rfl⟩
  have hb : Below w.heap.size w W := by rw [hW]; exact (Below.refl _ _).alloc (Nat.le_refl _) _
  have hr : Row W w.heap.size 22 #[.slice (some ⟨b, k, none⟩) (n - k) (cap - k), .slice (some ⟨b, 0, none⟩) k cap] := by rw [hW]; exact Row.new _ _ _
  have hI1 := hI.under hb.drew hb.size
  have hI2 := ints_drop hI1 k
  rw [Nat.zero_add] at hI2
  have HCon : Hid (Calls Try.prog 30 #[.slice (some ⟨w.heap.size, 0, none⟩) 2 2] W.drew (OwnPost (zs.drop k ++ zs.take k) W.drew)) :=
    concatO_any (zs.drop k) (zs.take k) (some ⟨b, k, none⟩) (some ⟨b, 0, none⟩) (cap - k) cap b k b 0 w.heap.size W.drew (by rw [hl1, hl2]; omega) (by rw [hl1, hl2]; omega) hr.lt (by rw [hl1]; exact hr.cell 0) (by rw [hl2]; exact hr.cell 1) hI2 (ints_take hI1 k)
  have HB := Lib.hid hb
  rw [hW] at HCon HB
  obtain ⟨rs, hrs⟩ : ∃ rs, rs = zs.drop k ++ zs.take k := ⟨_, rfl⟩
  rw [← hrs] at HCon ⊢
  clear hrs
  clear hn hI hl1 hl2 hW hb hr hI1 hI2 W
  go_enter Try.func21, Try.ntmps21
  go_wp2_with fail
  go_region_with (first
    | (go_at_call 30
       with_reducible refine HCon.out.mono ?_
       rintro e' w1 ⟨g, c, rfl, hsep, hb1⟩
       have HSep := Lib.hid hsep
       have HB1 : Hid (Below w.heap.size w w1) := HB.out.drew.trans (hb1.mono HB.out.size)
       have hsz := HB.out.size
       clear hsep hb1))
  all_goals
    (go_wp2_with fail
     go_ret
     exact ⟨g, c, rfl, HSep.out.base (Nat.le_trans hsz HSep.out.le), HB1.out⟩)

end La
end Go.Proofs.Ytogfpgkdofhoaaa

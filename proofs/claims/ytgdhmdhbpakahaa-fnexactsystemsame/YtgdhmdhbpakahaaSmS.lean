/- The walk of spec.FormulaSame. -/
import Derived.Test.YtgdhmdhbpakahaaSmP
import Derived.Test.YtgdhmdhbpakahaaBs
import Derived.Deep.RegionHeld3
import Derived.Deep.RegionWith
import Derived.Deep.Cut
import Derived.Deep.CutRange
namespace Go.Proofs.Ytgdhmdhbpakahaa
open Go.RowKit

def SmSaid (e : Ex) : Prop := ∀ (e2 : Ex) (c0 c1 c2 d0 d1 d2 : Value) (w : World), Lies w w.heap.size e c0 c1 c2 → Lies w w.heap.size e2 d0 d1 d2 →
    Calls Try.prog 21 #[.agg #[c0, c1, c2], .agg #[d0, d1, d2]] w fun e' w' => e' = .returned (.bool (sameE e e2)) ∧ Below w.heap.size w w'

set_option maxHeartbeats 2000000 in
set_option maxRecDepth 100000 in
theorem smS_any : ∀ e : Ex, SmSaid e := by
  intro e
  induction e using Ex.ind with
  | h k v kids ih =>
    rintro ⟨k', v', kids'⟩ c0 c1 c2 d0 d1 d2 w hL hM
    obtain ⟨A, cap, b, off, C0, C1, C2, rfl, rfl, rfl, hl, hO⟩ := hL.open_
    obtain ⟨A', cap', b', off', D0, D1, D2, rfl, rfl, rfl, hl', hO'⟩ := hM.open_
    unfold maxLen at hl hl'
    obtain ⟨W2, hW2⟩ : ∃ W2, W2 = (w.alloc (.cells #[.int .i64 k, .int .i64 v, .slice A kids.length cap] 42)).alloc (.cells #[.int .i64 k', .int .i64 v', .slice A' kids'.length cap'] 42) := ⟨_, rfl⟩
    have hrows := two_boxes w 42 #[.int .i64 k, .int .i64 v, .slice A kids.length cap] #[.int .i64 k', .int .i64 v', .slice A' kids'.length cap']
    rw [← hW2] at hrows
    obtain ⟨hr0, hr1, hb2⟩ := hrows
    have HIH := Lib.hid ih
    have HO := Lib.hid (hO.grow hb2 hb2.size)
    have HO' := Lib.hid (hO'.grow hb2 hb2.size)
    have HW2 := Lib.hid hW2
    have HR0 := Lib.hid hr0
    have HR1 := Lib.hid hr1
    have HB2 := Lib.hid hb2
    clear ih hL hM hO hO' hW2 hr0 hr1 hb2
    by_cases hk : k = k'
    case neg =>
      have hkb : (k != k') = true := by simpa using hk
      have hkc : (k == k') = false := by simpa using hk
      have HN := Lib.hid (sameE_kind (v := v) (v' := v') (ks := kids) (ks' := kids') hk)
      go_enter Try.func21, Try.ntmps21
      go_wp2_with fail
      rw [← HW2.out]
      go_ret
      exact ⟨ret_bool HN.out.symm, HB2.out⟩
    subst hk
    by_cases hv : v = v'
    case neg =>
      have hkb : (v != v') = true := by simpa using hv
      have hkc : (v == v') = false := by simpa using hv
      have HN := Lib.hid (sameE_value (k := k) (k' := k) (ks := kids) (ks' := kids') hv)
      go_enter Try.func21, Try.ntmps21
      go_wp2_with fail
      rw [← HW2.out]
      go_ret
      exact ⟨ret_bool HN.out.symm, HB2.out⟩
    subst hv
    by_cases hn : kids.length = kids'.length
    case neg =>
      have hkb : ((kids.length : Int) != (kids'.length : Int)) = true := by rw [bne_iff_ne]; omega
      have hkc : ((kids.length : Int) == (kids'.length : Int)) = false := by rw [beq_eq_false_iff_ne]; omega
      have HN := Lib.hid (sameE_len (k := k) (k' := k) (v := v) (v' := v) hn)
      go_enter Try.func21, Try.ntmps21
      go_wp2_with fail
      rw [← HW2.out]
      go_ret
      exact ⟨ret_bool HN.out.symm, HB2.out⟩
    have HZ := Lib.hid (sameE_node (k := k) (k' := k) (v := v) (v' := v) rfl rfl hn)
    rw [← hn] at HW2 HR1 ⊢
    have HLn := Lib.hid hn
    clear hn
    go_enter Try.func21, Try.ntmps21
    go_wp2_with fail
    rw [← HW2.out]
    go_loopw [5] (fun i wl => ∃ j : Nat, j ≤ kids.length ∧ i = .int .i64 j ∧ Hid (((kids.zip kids').take j).all (fun p => sameE p.1 p.2) = true) ∧ Hid (Below W2.heap.size W2 wl)) (fun i _ => kids.length - (intOf i).toNat)
    case atStart => exact ⟨0, Nat.zero_le _, rfl, rfl, Below.refl _ _⟩
    case round =>
      obtain ⟨j, hj, rfl, HT, HB⟩ := hrel
      have HSk : Hid (∀ W, Below W2.heap.size W2 W → W.cell? ⟨w.heap.size, 2, none⟩ = some (.slice A kids.length cap) ∧ W.cell? ⟨w.heap.size + 1, 2, none⟩ = some (.slice A' kids.length cap')) := fun W hW => ⟨(HR0.out.under hW HR0.out.lt).cell 2, (HR1.out.under hW HR1.out.lt).cell 2⟩
      obtain ⟨s0, s1⟩ := HSk.out wr HB.out
      by_cases hlt : j < kids.length
      · obtain ⟨x, hx⟩ : ∃ x, kids[j]? = some x := ⟨_, List.getElem?_eq_getElem hlt⟩
        obtain ⟨y, hy⟩ : ∃ y, kids'[j]? = some y := ⟨_, List.getElem?_eq_getElem (by have := HLn.out; omega)⟩
        obtain ⟨rfl, hb, g0, g1, g2, gl⟩ := HO.out.below HB.out j x hx
        obtain ⟨rfl, hb', f0, f1, f2, fl⟩ := HO'.out.below HB.out j y hy
        have hsz := HB.out.size
        have HZp := Lib.hid (zip_get hx hy)
        have HC : Hid (∀ W, Below wr.heap.size wr W → Calls Try.prog 21 #[.agg #[C0 j, C1 j, C2 j], .agg #[D0 j, D1 j, D2 j]] W fun e' w' => e' = .returned (.bool (sameE x y)) ∧ Below W.heap.size W w') := fun W hW => HIH.out j x hx y _ _ _ _ _ _ W (below_more (gl.more hsz) hW hW.size) (below_more (fl.more hsz) hW hW.size)
        obtain ⟨sb, hsb⟩ : ∃ sb, sb = sameE x y := ⟨_, rfl⟩
        rw [← hsb] at HC
        have HSB := Lib.hid hsb
        have HCs : Hid (∀ W, Below wr.heap.size wr W → W.cell? ⟨w.heap.size, 2, none⟩ = some (.slice (some ⟨b, off, none⟩) kids.length cap) ∧ W.cell? ⟨w.heap.size + 1, 2, none⟩ = some (.slice (some ⟨b', off', none⟩) kids.length cap') ∧ W.cell? ⟨b, off + j * 3, none⟩ = some (C0 j) ∧ W.cell? ⟨b, off + j * 3 + 1, none⟩ = some (C1 j) ∧ W.cell? ⟨b, off + j * 3 + 2, none⟩ = some (C2 j) ∧ W.cell? ⟨b', off' + j * 3, none⟩ = some (D0 j) ∧ W.cell? ⟨b', off' + j * 3 + 1, none⟩ = some (D1 j) ∧ W.cell? ⟨b', off' + j * 3 + 2, none⟩ = some (D2 j)) := fun W hW => by
          obtain ⟨q0, q1⟩ := HSk.out W (HB.out.trans (hW.mono hsz))
          have hbb : b < wr.heap.size := by omega
          have hbb' : b' < wr.heap.size := by omega
          exact ⟨q0, q1, (hW.cell hbb).trans g0, (hW.cell hbb).trans g1, (hW.cell hbb).trans g2, (hW.cell hbb').trans f0, (hW.cell hbb').trans f1, (hW.cell hbb').trans f2⟩
        have hS0 := HCs.out wr.drew (Below.refl _ _).drew
        clear gl fl hx hy g0 g1 g2 f0 f1 f2 hsb
        go_upto_region 6 with fail
        go_region_held3 (fun w' => w'.cell? ⟨w.heap.size, 2, none⟩ = some (.slice (some ⟨b, off, none⟩) kids.length cap) ∧ w'.cell? ⟨w.heap.size + 1, 2, none⟩ = some (.slice (some ⟨b', off', none⟩) kids.length cap') ∧ w'.cell? ⟨b, off + j * 3, none⟩ = some (C0 j) ∧ w'.cell? ⟨b, off + j * 3 + 1, none⟩ = some (C1 j) ∧ w'.cell? ⟨b, off + j * 3 + 2, none⟩ = some (C2 j) ∧ w'.cell? ⟨b', off' + j * 3, none⟩ = some (D0 j) ∧ w'.cell? ⟨b', off' + j * 3 + 1, none⟩ = some (D1 j) ∧ w'.cell? ⟨b', off' + j * 3 + 2, none⟩ = some (D2 j)) (first | assumption | (go_keep; done)) (first
          | (go_at_call 21
             with_reducible refine (HC.out _ (Below.refl _ _).drew).mono ?_
             rintro e' w3 ⟨rfl, hb3⟩
             have HB3 : Hid (Below wr.heap.size wr w3) := (Below.refl _ _).drew.trans hb3
             have hS3 := HCs.out w3 HB3.out
             clear hb3))
        all_goals
          (have HB4 : Hid (Below W2.heap.size W2 w3) := HB.out.trans (HB3.out.mono HB.out.size)
           cases sb)
        · go_wp2_with fail
          go_ret
          exact ⟨ret_bool (by rw [HZ.out, allp_false_of HZp.out HSB.out.symm]), HB2.out.trans (HB4.out.mono HB2.out.size)⟩
        · go_wp2_with fail
          go_roundw
          case rel => exact ⟨j + 1, by omega, by go_num, (by show _ = _; rw [allp_take_succ HZp.out, HT.out, ← HSB.out]; rfl), HB4⟩
          case measure => simp [intOf]; omega
      · have hjj : j = kids.length := by omega
        subst hjj
        have HN : Hid (sameE (.node k v kids) (.node k v kids') = true) := by
          show _ = _
          have := HT.out
          rw [List.take_of_length_le (by rw [List.length_zip]; have := HLn.out; omega)] at this
          rw [HZ.out, this]
        go_wp2_with fail
        go_ret
        exact ⟨ret_bool HN.out.symm, HB2.out.trans (HB.out.mono HB2.out.size)⟩

end Go.Proofs.Ytgdhmdhbpakahaa

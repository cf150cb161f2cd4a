/- The walks of spec.l5Sign and spec.l5Format. -/
import Derived.Test.YtljjbffdenfngaaDoorFmF
import Derived.Test.YtljjbffdenfngaaDoorFm
import Derived.Test.YtljjbffdenfngaaDoorW2F
import Derived.Deep.RegionHeld3
import Derived.Deep.RegionWith
import Derived.Deep.Cut
import Derived.Deep.CutRange
namespace Go.Proofs.YtljjbffdenfngaaDoor
open Go.RowKit

set_option maxHeartbeats 400000 in
set_option maxRecDepth 100000 in
theorem fsign_any (k : Int) (w : World) (hk : (k = 3 ∨ k = 6 ∨ k = 9 ∨ k = 10) ∨ (k = 4 ∨ k = 5 ∨ k = 7 ∨ k = 8)) : Calls Tryd.prog 37 #[.int .i64 k] w (FmPost (fSg k) w) := by
  have : k = 3 ∨ k = 4 ∨ k = 5 ∨ k = 6 ∨ k = 7 ∨ k = 8 ∨ k = 9 ∨ k = 10 := by omega
  rcases this with rfl | rfl | rfl | rfl | rfl | rfl | rfl | rfl
  all_goals
    (go_enter Tryd.func37, Tryd.ntmps37
     go_wp2_with fail
     go_ret
     exact ⟨ret_str rfl, Below.refl _ _⟩)

def FmtSSaid (d : Nat) : Prop := ∀ (e : Ex) (c0 c1 c2 : Value) (w : World), fShape d e = true → Lies w w.heap.size e c0 c1 c2 →
    Calls Tryd.prog 27 #[.agg #[c0, c1, c2]] w (FmPost (fmtF d e) w)

set_option maxHeartbeats 1000000 in
set_option maxRecDepth 100000 in
theorem fmtS_any : ∀ d : Nat, d ≤ 7 → FmtSSaid d := by
  intro d
  induction d with
  | zero => intro _ e c0 c1 c2 w h; simp [fShape] at h
  | succ d ih =>
    rintro hd7 ⟨k, v, kids⟩ c0 c1 c2 w hs hL
    obtain ⟨K, cp, kb, ko, C0, C1, C2, rfl, rfl, rfl, hl, hO⟩ := hL.open_
    have HIH := Lib.hid (ih (by omega))
    have HK : Hid (∀ (i : Nat) (x : Ex), kids[i]? = some x → fShape d x = true) := fun i x hx => fShape_kid hs hx
    have hro := fRoot_cases (fShape_root hs)
    have HD6 : Hid (d ≤ 6) := by show _ ≤ _; omega
    obtain ⟨W1, hW1⟩ : ∃ W1, W1 = w.alloc (.cells #[.int .i64 k, .int .i64 v, .slice K kids.length cp] 29) := ⟨_, rfl⟩
    have hb0 : Below w.heap.size w W1 := by rw [hW1]; exact (Below.refl _ _).alloc (Nat.le_refl _) _
    have HR0 : Hid (Row W1 w.heap.size 29 #[.int .i64 k, .int .i64 v, .slice K kids.length cp]) := by rw [hW1]; exact Row.new _ _ _
    have HB0 := Lib.hid hb0
    have HO := Lib.hid (hO.below hb0)
    have HOw := Lib.hid hO
    have HW1 := Lib.hid hW1
    have HWs : Hid (w.heap.size ≤ W1.heap.size) := hb0.size
    clear ih hL hO hs hl hd7 hb0 hW1
    rcases hro with ⟨rfl, rfl, hn⟩ | ⟨rfl, h0, h2, hn⟩ | ⟨hk, rfl, hn⟩ | ⟨hk, rfl, hn⟩
    · have HF := Lib.hid (fmtF_true d 0 kids)
      clear hn
      go_enter Tryd.func27, Tryd.ntmps27
      go_wp2_with fail
      go_ret
      exact ⟨ret_str (HF.out.trans rfl).symm, (Below.refl _ _).alloc (Nat.le_refl _) _⟩
    · have HF := Lib.hid (fmtF_atom d v kids)
      clear hn
      have : v = 0 ∨ v = 1 ∨ v = 2 := by omega
      rcases this with rfl | rfl | rfl
      all_goals
        (go_enter Tryd.func27, Tryd.ntmps27
         go_wp2_with fail
         go_ret
         exact ⟨ret_str (HF.out.trans rfl).symm, (Below.refl _ _).alloc (Nat.le_refl _) _⟩)
    · obtain ⟨x, hx⟩ : ∃ x, kids[0]? = some x := ⟨_, List.getElem?_eq_getElem (by omega)⟩
      have HF := Lib.hid (fmtF_one d 0 hk hx)
      have hsx := HK.out 0 x hx
      obtain ⟨_, _, _, _, _, gl⟩ := HO.out 0 x hx
      obtain ⟨rfl, hb, g0, g1, g2, _⟩ := HOw.out 0 x hx
      rw [Nat.zero_mul, Nat.add_zero] at g0 g1 g2
      have HC : Hid (∀ W, Below W1.heap.size W1 W → Calls Tryd.prog 27 #[.agg #[C0 0, C1 0, C2 0]] W (FmPost (fmtF d x) W)) := fun W hW => HIH.out x _ _ _ W hsx (below_more (gl.more HWs.out) hW hW.size)
      have HR1 := HR0.out
      rw [hn] at HW1 HR1 ⊢
      have hz := fmtF_small HD6.out x
      obtain ⟨a, ha⟩ : ∃ a, a = fmtF d x := ⟨_, rfl⟩
      obtain ⟨sg, hsg⟩ : ∃ sg, sg = fSg k := ⟨_, rfl⟩
      have hzs : sg.size ≤ 1 := by rw [hsg]; exact fSg_size k
      rw [← ha] at hz HC HF
      rw [← hsg] at HF
      have HSg := Lib.hid hsg
      have f1' : ¬ (9223372036854775807 < sg.size + a.size) := by omega
      have hk1 : ¬ k = 1 := by omega
      have hk2 : ¬ k = 2 := by omega
      have HKk : Hid ((k = 3 ∨ k = 6 ∨ k = 9 ∨ k = 10) ∨ (k = 4 ∨ k = 5 ∨ k = 7 ∨ k = 8)) := .inl hk
      have HSk : Hid (∀ W, Below W1.heap.size W1 W → W.cell? ⟨w.heap.size, 2, none⟩ = some (.slice (some ⟨kb, ko, none⟩) 1 cp) ∧ W.cell? ⟨w.heap.size, 0, none⟩ = some (.int .i64 k) ∧ W.cell? ⟨kb, ko, none⟩ = some (C0 0) ∧ W.cell? ⟨kb, ko + 1, none⟩ = some (C1 0) ∧ W.cell? ⟨kb, ko + 2, none⟩ = some (C2 0)) := fun W hW => by
        have hr := HR1.under hW HR1.lt
        have hkb : kb < W1.heap.size := Nat.lt_of_lt_of_le hb HWs.out
        have hbw := HB0.out
        exact ⟨hr.cell 2, hr.cell 0, (hW.cell hkb).trans ((hbw.cell (p := ⟨kb, ko, none⟩) hb).trans g0), (hW.cell hkb).trans ((hbw.cell (p := ⟨kb, ko + 1, none⟩) hb).trans g1), (hW.cell hkb).trans ((hbw.cell (p := ⟨kb, ko + 2, none⟩) hb).trans g2)⟩
      have hS1 := HSk.out W1.drew (Below.refl _ _).drew
      obtain ⟨r2, r0, _⟩ := HSk.out W1 (Below.refl _ _)
      clear hx gl hsx ha hn hk hsg g0 g1 g2
      go_enter Tryd.func27, Tryd.ntmps27
      go_upto_region 6 with fail
      rw [← HW1.out]
      go_region_held3 (fun w' => w'.cell? ⟨w.heap.size, 2, none⟩ = some (.slice (some ⟨kb, ko, none⟩) 1 cp) ∧ w'.cell? ⟨w.heap.size, 0, none⟩ = some (.int .i64 k) ∧ w'.cell? ⟨kb, ko, none⟩ = some (C0 0) ∧ w'.cell? ⟨kb, ko + 1, none⟩ = some (C1 0) ∧ w'.cell? ⟨kb, ko + 2, none⟩ = some (C2 0)) (first | assumption | (go_keep; done)) (first
        | (go_at_call 37
           refine (fsign_any k _ HKk.out).mono ?_
           rintro e' w3 ⟨rfl, hb3⟩
           rw [← HSg.out]
           have HB3 : Hid (Below W1.heap.size W1 w3) := (Below.refl _ _).drew.trans hb3
           have hS3 := HSk.out w3 HB3.out
           clear hb3)
        | (go_at_call 27
           with_reducible refine (HC.out _ HB3.out).mono ?_
           rintro e' w4 ⟨rfl, hb4⟩
           have HB4 : Hid (Below w.heap.size w w4) := HB0.out.trans ((HB3.out.trans (hb4.mono HB3.out.size)).mono HB0.out.size)
           have hS4 := HSk.out w4 (HB3.out.trans (hb4.mono HB3.out.size))
           clear hb4))
      all_goals
        (go_wp2_with fail
         go_ret
         exact ⟨ret_str HF.out.symm, HB4.out⟩)
    · obtain ⟨x, hx⟩ : ∃ x, kids[0]? = some x := ⟨_, List.getElem?_eq_getElem (by omega)⟩
      obtain ⟨y, hy⟩ : ∃ y, kids[1]? = some y := ⟨_, List.getElem?_eq_getElem (by omega)⟩
      have HF := Lib.hid (fmtF_two d 0 hk hx hy)
      have hsx := HK.out 0 x hx
      have hsy := HK.out 1 y hy
      obtain ⟨rfl, hb, g0, g1, g2, gl⟩ := HO.out 0 x hx
      obtain ⟨_, _, f0, f1, f2, fl⟩ := HO.out 1 y hy
      rw [Nat.zero_mul, Nat.add_zero] at g0 g1 g2
      rw [Nat.one_mul] at f0 f1 f2
      have HCx : Hid (∀ W, Below W1.heap.size W1 W → Calls Tryd.prog 27 #[.agg #[C0 0, C1 0, C2 0]] W (FmPost (fmtF d x) W)) := fun W hW => HIH.out x _ _ _ W hsx (below_more (gl.more HWs.out) hW hW.size)
      have HCy : Hid (∀ W, Below W1.heap.size W1 W → Calls Tryd.prog 27 #[.agg #[C0 1, C1 1, C2 1]] W (FmPost (fmtF d y) W)) := fun W hW => HIH.out y _ _ _ W hsy (below_more (fl.more HWs.out) hW hW.size)
      have HR1 := HR0.out
      rw [hn] at HW1 HR1 ⊢
      have hza := fmtF_small HD6.out x
      have hzb := fmtF_small HD6.out y
      obtain ⟨a, ha⟩ : ∃ a, a = fmtF d x := ⟨_, rfl⟩
      obtain ⟨b, hb'⟩ : ∃ b, b = fmtF d y := ⟨_, rfl⟩
      obtain ⟨sg, hsg⟩ : ∃ sg, sg = fSg k := ⟨_, rfl⟩
      have hzs : sg.size ≤ 1 := by rw [hsg]; exact fSg_size k
      rw [← ha] at hza HCx HF
      rw [← hb'] at hzb HCy HF
      rw [← hsg] at HF
      have HSg := Lib.hid hsg
      have hk1 : ¬ k = 1 := by omega
      have hk2 : ¬ k = 2 := by omega
      have HKk : Hid ((k = 3 ∨ k = 6 ∨ k = 9 ∨ k = 10) ∨ (k = 4 ∨ k = 5 ∨ k = 7 ∨ k = 8)) := .inr hk
      have HSk : Hid (∀ W, Below W1.heap.size W1 W → W.cell? ⟨w.heap.size, 2, none⟩ = some (.slice (some ⟨kb, ko, none⟩) 2 cp) ∧ W.cell? ⟨w.heap.size, 0, none⟩ = some (.int .i64 k) ∧ W.cell? ⟨kb, ko, none⟩ = some (C0 0) ∧ W.cell? ⟨kb, ko + 1, none⟩ = some (C1 0) ∧ W.cell? ⟨kb, ko + 2, none⟩ = some (C2 0) ∧ W.cell? ⟨kb, ko + 3, none⟩ = some (C0 1) ∧ W.cell? ⟨kb, ko + 3 + 1, none⟩ = some (C1 1) ∧ W.cell? ⟨kb, ko + 3 + 2, none⟩ = some (C2 1)) := fun W hW => by
        have hr := HR1.under hW HR1.lt
        have hkb : kb < W1.heap.size := Nat.lt_of_lt_of_le hb HWs.out
        exact ⟨hr.cell 2, hr.cell 0, (hW.cell hkb).trans g0, (hW.cell hkb).trans g1, (hW.cell hkb).trans g2, (hW.cell hkb).trans f0, (hW.cell hkb).trans f1, (hW.cell hkb).trans f2⟩
      have hS1 := HSk.out W1.drew (Below.refl _ _).drew
      obtain ⟨r2, r0, _⟩ := HSk.out W1 (Below.refl _ _)
      clear hx hy gl fl hsx hsy ha hb' hn hk hsg g0 g1 g2 f0 f1 f2
      have c1 : (⟨#[40]⟩ : ByteArray).size = 1 := rfl
      have c2 : (⟨#[41]⟩ : ByteArray).size = 1 := rfl
      have f1' : ¬ (9223372036854775807 < 1 + a.size) := by omega
      have f2' : ¬ (9223372036854775807 < 1 + a.size + sg.size) := by omega
      have f3' : ¬ (9223372036854775807 < 1 + a.size + sg.size + b.size) := by omega
      have f4' : ¬ (9223372036854775807 < 1 + a.size + sg.size + b.size + 1) := by omega
      go_enter Tryd.func27, Tryd.ntmps27
      go_upto_region 7 with fail
      rw [← HW1.out]
      go_region_held3 (fun w' => w'.cell? ⟨w.heap.size, 2, none⟩ = some (.slice (some ⟨kb, ko, none⟩) 2 cp) ∧ w'.cell? ⟨w.heap.size, 0, none⟩ = some (.int .i64 k) ∧ w'.cell? ⟨kb, ko, none⟩ = some (C0 0) ∧ w'.cell? ⟨kb, ko + 1, none⟩ = some (C1 0) ∧ w'.cell? ⟨kb, ko + 2, none⟩ = some (C2 0) ∧ w'.cell? ⟨kb, ko + 3, none⟩ = some (C0 1) ∧ w'.cell? ⟨kb, ko + 3 + 1, none⟩ = some (C1 1) ∧ w'.cell? ⟨kb, ko + 3 + 2, none⟩ = some (C2 1)) (first | assumption | (go_keep; done)) (first
        | (go_at_call 27
           with_reducible refine (HCx.out _ (Below.refl _ _).drew).mono ?_
           rintro e' w2 ⟨rfl, hb2⟩
           have HB2 : Hid (Below W1.heap.size W1 w2) := (Below.refl _ _).drew.trans hb2
           have hS2 := HSk.out w2 HB2.out
           clear hb2)
        | (go_at_call 37
           refine (fsign_any k _ HKk.out).mono ?_
           rintro e' w3 ⟨rfl, hb3⟩
           rw [← HSg.out]
           have HB3 : Hid (Below W1.heap.size W1 w3) := HB2.out.trans (hb3.mono HB2.out.size)
           have hS3 := HSk.out w3 HB3.out
           clear hb3)
        | (go_at_call 27
           with_reducible refine (HCy.out _ HB3.out).mono ?_
           rintro e' w4 ⟨rfl, hb4⟩
           have HB4 : Hid (Below w.heap.size w w4) := HB0.out.trans ((HB3.out.trans (hb4.mono HB3.out.size)).mono HB0.out.size)
           have hS4 := HSk.out w4 (HB3.out.trans (hb4.mono HB3.out.size))
           clear hb4))
      all_goals
        (go_wp2_with fail
         go_ret
         exact ⟨ret_str HF.out.symm, HB4.out⟩)

end Go.Proofs.YtljjbffdenfngaaDoor

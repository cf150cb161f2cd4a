/- The walks of spec.l1Sign, spec.l16Dec at small numbers, spec.l1Format, spec.FormatExpr and impl.FormatExpr. -/
import Derived.Test.YtcipnecdeipeaaaDoorFtFQ
import Derived.Deep.RegionHeld3
import Derived.Deep.RegionWith
import Derived.Deep.Cut
import Derived.Deep.CutRange
namespace Go.Proofs.YtcipnecdeipeaaaDoor
open Go.RowKit

theorem bytes_nil (a : ByteArray) : a ++ ⟨#[]⟩ = a := by
  apply ByteArray.ext
  simp

set_option maxHeartbeats 400000 in
set_option maxRecDepth 100000 in
theorem sign_any (k : Int) (w : World) (h4 : 4 ≤ k) (h9 : k ≤ 9) : Calls Tryd.prog 34 #[.int .i64 k] w (FmPost (strOfNums [signB k]) w) := by
  have : k = 4 ∨ k = 5 ∨ k = 6 ∨ k = 7 ∨ k = 8 ∨ k = 9 := by omega
  rcases this with rfl | rfl | rfl | rfl | rfl | rfl
  all_goals
    (go_enter Tryd.func34, Tryd.ntmps34
     go_wp2_with fail
     go_ret
     exact ⟨ret_str rfl, Below.refl _ _⟩)

set_option maxHeartbeats 400000 in
set_option maxRecDepth 100000 in
theorem dec_any (z : Int) (w : World) (h0 : 0 ≤ z) (h9 : z ≤ 9) :
    Calls Tryd.prog 12 #[.int .i64 z] w (FmPost (strOfNums [48 + z]) w) := by
  have e1 : IntKind.u8.wrap (48 + z) = 48 + z := by
    have : z = 0 ∨ z = 1 ∨ z = 2 ∨ z = 3 ∨ z = 4 ∨ z = 5 ∨ z = 6 ∨ z = 7 ∨ z = 8 ∨ z = 9 := by omega
    rcases this with h | h | h | h | h | h | h | h | h | h <;> subst h <;> rfl
  have hconv := run_convert_bytes_arg (P := Tryd.prog) (w.alloc (.cells #[.int .u8 (48 + z)] 5)) 64 5 Tryd.underlying64 Tryd.underlying5 w.heap.size 0 1 1 [48 + z] rfl (fun i hi => by
    have hi0 : i = 0 := by omega
    subst hi0
    exact (Row.new w 5 #[.int .u8 (48 + z)]).cell 0) 9 Tryd.underlying9
  have HN := Lib.hid (bytes_nil (strOfNums [48 + z]))
  go_enter Tryd.func12, Tryd.ntmps12
  go_wp2_with fail
  go_loopw [0, 3] (fun n o wl => n = .int .i64 z ∧ o = .string ⟨#[]⟩ ∧ w = wl) (fun _ _ _ => 0)
  case atStart => exact ⟨rfl, rfl, rfl⟩
  case round =>
    obtain ⟨rfl, rfl, rfl⟩ := hrel
    go_wp2_with fail
    go_ret
    exact ⟨ret_str HN.out, (Below.refl _ _).alloc (Nat.le_refl _) _⟩

def FmtSaid (d : Nat) : Prop := ∀ (e : Ex) (c0 c1 c2 : Value) (w : World), shape d e = true → Lies w w.heap.size e c0 c1 c2 →
    Calls Tryd.prog 25 #[.agg #[c0, c1, c2]] w (FmPost (fmtE d e) w)

set_option maxHeartbeats 1000000 in
set_option maxRecDepth 100000 in
theorem fmt_any : ∀ d : Nat, d ≤ 7 → FmtSaid d := by
  intro d
  induction d with
  | zero => intro _ e c0 c1 c2 w h; simp [shape] at h
  | succ d ih =>
    rintro hd7 ⟨k, v, kids⟩ c0 c1 c2 w hs hL
    obtain ⟨K, cp, kb, ko, C0, C1, C2, rfl, rfl, rfl, hl, hO⟩ := hL.open_
    have HIH := Lib.hid (ih (by omega))
    have HK : Hid (∀ (i : Nat) (x : Ex), kids[i]? = some x → shape d x = true) := fun i x hx => shape_kid hs hx
    have hro := rootOk_parts (shape_root hs)
    have HD6 : Hid (d ≤ 6) := by show _ ≤ _; omega
    obtain ⟨W1, hW1⟩ : ∃ W1, W1 = w.alloc (.cells #[.int .i64 k, .int .i64 v, .slice K kids.length cp] 44) := ⟨_, rfl⟩
    have hb0 : Below w.heap.size w W1 := by rw [hW1]; exact (Below.refl _ _).alloc (Nat.le_refl _) _
    have HR0 : Hid (Row W1 w.heap.size 44 #[.int .i64 k, .int .i64 v, .slice K kids.length cp]) := by rw [hW1]; exact Row.new _ _ _
    have HB0 := Lib.hid hb0
    have HO := Lib.hid (hO.below hb0)
    have HOw := Lib.hid hO
    have HW1 := Lib.hid hW1
    have HWs : Hid (w.heap.size ≤ W1.heap.size) := hb0.size
    clear ih hL hO hs hl hd7 hb0 hW1
    rcases hro with ⟨rfl, h0, h3, hn⟩ | ⟨rfl, h0, h2, hn⟩ | ⟨rfl, rfl, hn⟩ | ⟨h4, h9, rfl, hn⟩
    · have HF := Lib.hid (fmtE_const d v kids)
      clear hn
      go_enter Tryd.func25, Tryd.ntmps25
      go_wp2_with fail
      rw [← HW1.out]
      refine (dec_any v W1 h0 (by omega)).mono ?_
      rintro e' w1 ⟨rfl, hb1⟩
      rw [← HF.out]
      have HB := Lib.hid (HB0.out.trans (hb1.mono HB0.out.size))
      obtain ⟨F, hF⟩ : ∃ F, F = fmtE (d + 1) (.node 1 v kids) := ⟨_, rfl⟩
      rw [← hF]
      have HF2 := Lib.hid hF
      clear hb1 hF
      go_wp2_with fail
      go_ret
      exact ⟨ret_str HF2.out, HB.out⟩
    · have HF := Lib.hid (fmtE_var d v kids)
      clear hn
      have : v = 0 ∨ v = 1 ∨ v = 2 := by omega
      rcases this with rfl | rfl | rfl
      all_goals
        (go_enter Tryd.func25, Tryd.ntmps25
         go_wp2_with fail
         go_ret
         exact ⟨ret_str (HF.out.trans rfl).symm, (Below.refl _ _).alloc (Nat.le_refl _) _⟩)
    · obtain ⟨x, hx⟩ : ∃ x, kids[0]? = some x := ⟨_, List.getElem?_eq_getElem (by omega)⟩
      have HF := Lib.hid (fmtE_not d 0 hx)
      have hsx := HK.out 0 x hx
      obtain ⟨_, _, _, _, _, gl⟩ := HO.out 0 x hx
      obtain ⟨rfl, hb, g0, g1, g2, _⟩ := HOw.out 0 x hx
      rw [Nat.zero_mul, Nat.add_zero] at g0 g1 g2
      have HC : Hid (Calls Tryd.prog 25 #[.agg #[C0 0, C1 0, C2 0]] W1 (FmPost (fmtE d x) W1)) := HIH.out x _ _ _ W1 hsx (gl.more HWs.out)
      rw [hn] at HW1 ⊢
      have hz := fmtE_small HD6.out x
      obtain ⟨a, ha⟩ : ∃ a, a = fmtE d x := ⟨_, rfl⟩
      rw [← ha] at hz HC HF
      have hs : (⟨#[33]⟩ : ByteArray).size = 1 := rfl
      clear hx gl hsx ha hn
      go_enter Tryd.func25, Tryd.ntmps25
      go_wp2_with fail
      rw [← HW1.out]
      refine HC.out.mono ?_
      rintro e' w1 ⟨rfl, hb1⟩
      have HB := Lib.hid (HB0.out.trans (hb1.mono HB0.out.size))
      clear hb1
      go_wp2_with fail
      go_ret
      exact ⟨ret_str HF.out.symm, HB.out⟩
    · obtain ⟨x, hx⟩ : ∃ x, kids[0]? = some x := ⟨_, List.getElem?_eq_getElem (by omega)⟩
      obtain ⟨y, hy⟩ : ∃ y, kids[1]? = some y := ⟨_, List.getElem?_eq_getElem (by omega)⟩
      have HF := Lib.hid (fmtE_two d 0 h4 hx hy)
      have hsx := HK.out 0 x hx
      have hsy := HK.out 1 y hy
      obtain ⟨rfl, hb, g0, g1, g2, gl⟩ := HO.out 0 x hx
      obtain ⟨_, _, f0, f1, f2, fl⟩ := HO.out 1 y hy
      rw [Nat.zero_mul, Nat.add_zero] at g0 g1 g2
      rw [Nat.one_mul] at f0 f1 f2
      have HCx : Hid (∀ W, Below W1.heap.size W1 W → Calls Tryd.prog 25 #[.agg #[C0 0, C1 0, C2 0]] W (FmPost (fmtE d x) W)) := fun W hW => HIH.out x _ _ _ W hsx (below_more (gl.more HWs.out) hW hW.size)
      have HCy : Hid (∀ W, Below W1.heap.size W1 W → Calls Tryd.prog 25 #[.agg #[C0 1, C1 1, C2 1]] W (FmPost (fmtE d y) W)) := fun W hW => HIH.out y _ _ _ W hsy (below_more (fl.more HWs.out) hW hW.size)
      have HR1 := HR0.out
      rw [hn] at HW1 HR1 ⊢
      have hza := fmtE_small HD6.out x
      have hzb := fmtE_small HD6.out y
      obtain ⟨a, ha⟩ : ∃ a, a = fmtE d x := ⟨_, rfl⟩
      obtain ⟨b, hb'⟩ : ∃ b, b = fmtE d y := ⟨_, rfl⟩
      obtain ⟨sg, hsg⟩ : ∃ sg, sg = strOfNums [signB k] := ⟨_, rfl⟩
      have hzs : sg.size = 1 := by rw [hsg, strOfNums_size]; rfl
      rw [← ha] at hza HCx HF
      rw [← hb'] at hzb HCy HF
      rw [← hsg] at HF
      have HSg := Lib.hid hsg
      have c1 : (⟨#[40]⟩ : ByteArray).size = 1 := rfl
      have c2 : (⟨#[41]⟩ : ByteArray).size = 1 := rfl
      have f1' : ¬ (9223372036854775807 < 1 + a.size) := by omega
      have f2' : ¬ (9223372036854775807 < 1 + a.size + 1) := by omega
      have f3' : ¬ (9223372036854775807 < 1 + a.size + 1 + b.size) := by omega
      have f4' : ¬ (9223372036854775807 < 1 + a.size + 1 + b.size + 1) := by omega
      have HSk : Hid (∀ W, Below W1.heap.size W1 W → W.cell? ⟨w.heap.size, 2, none⟩ = some (.slice (some ⟨kb, ko, none⟩) 2 cp) ∧ W.cell? ⟨w.heap.size, 0, none⟩ = some (.int .i64 k) ∧ W.cell? ⟨kb, ko, none⟩ = some (C0 0) ∧ W.cell? ⟨kb, ko + 1, none⟩ = some (C1 0) ∧ W.cell? ⟨kb, ko + 2, none⟩ = some (C2 0) ∧ W.cell? ⟨kb, ko + 3, none⟩ = some (C0 1) ∧ W.cell? ⟨kb, ko + 3 + 1, none⟩ = some (C1 1) ∧ W.cell? ⟨kb, ko + 3 + 2, none⟩ = some (C2 1)) := fun W hW => by
        have hr := HR1.under hW HR1.lt
        have hkb : kb < W1.heap.size := Nat.lt_of_lt_of_le hb HWs.out
        exact ⟨hr.cell 2, hr.cell 0, (hW.cell hkb).trans g0, (hW.cell hkb).trans g1, (hW.cell hkb).trans g2, (hW.cell hkb).trans f0, (hW.cell hkb).trans f1, (hW.cell hkb).trans f2⟩
      have hS1 := HSk.out W1.drew (Below.refl _ _).drew
      obtain ⟨r2, r0, _⟩ := HSk.out W1 (Below.refl _ _)
      clear hx hy gl fl hsx hsy ha hb' hn hsg g0 g1 g2 f0 f1 f2
      have c1 : (⟨#[40]⟩ : ByteArray).size = 1 := rfl
      have c2 : (⟨#[41]⟩ : ByteArray).size = 1 := rfl
      have f1' : ¬ (9223372036854775807 < 1 + a.size) := by omega
      have f2' : ¬ (9223372036854775807 < 1 + a.size + 1) := by omega
      have f3' : ¬ (9223372036854775807 < 1 + a.size + 1 + b.size) := by omega
      have f4' : ¬ (9223372036854775807 < 1 + a.size + 1 + b.size + 1) := by omega
      go_enter Tryd.func25, Tryd.ntmps25
      go_upto_region 8 with fail
      rw [← HW1.out]
      go_region_held3 (fun w' => w'.cell? ⟨w.heap.size, 2, none⟩ = some (.slice (some ⟨kb, ko, none⟩) 2 cp) ∧ w'.cell? ⟨w.heap.size, 0, none⟩ = some (.int .i64 k) ∧ w'.cell? ⟨kb, ko, none⟩ = some (C0 0) ∧ w'.cell? ⟨kb, ko + 1, none⟩ = some (C1 0) ∧ w'.cell? ⟨kb, ko + 2, none⟩ = some (C2 0) ∧ w'.cell? ⟨kb, ko + 3, none⟩ = some (C0 1) ∧ w'.cell? ⟨kb, ko + 3 + 1, none⟩ = some (C1 1) ∧ w'.cell? ⟨kb, ko + 3 + 2, none⟩ = some (C2 1)) (first | assumption | (go_keep; done)) (first
        | (go_at_call 25
           with_reducible refine (HCx.out _ (Below.refl _ _).drew).mono ?_
           rintro e' w2 ⟨rfl, hb2⟩
           have HB2 : Hid (Below W1.heap.size W1 w2) := (Below.refl _ _).drew.trans hb2
           have hS2 := HSk.out w2 HB2.out
           clear hb2)
        | (go_at_call 34
           refine (sign_any k _ h4 h9).mono ?_
           rintro e' w3 ⟨rfl, hb3⟩
           rw [← HSg.out]
           have HB3 : Hid (Below W1.heap.size W1 w3) := HB2.out.trans (hb3.mono HB2.out.size)
           have hS3 := HSk.out w3 HB3.out
           clear hb3)
        | (go_at_call 25
           with_reducible refine (HCy.out _ HB3.out).mono ?_
           rintro e' w4 ⟨rfl, hb4⟩
           have HB4 : Hid (Below w.heap.size w w4) := HB0.out.trans ((HB3.out.trans (hb4.mono HB3.out.size)).mono HB0.out.size)
           have hS4 := HSk.out w4 (HB3.out.trans (hb4.mono HB3.out.size))
           clear hb4))
      all_goals
        (go_wp2_with fail
         go_ret
         exact ⟨ret_str HF.out.symm, HB4.out⟩)

end Go.Proofs.YtcipnecdeipeaaaDoor

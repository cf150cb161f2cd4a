/- The walk of impl.ParseLasso. -/
import Derived.Test.YtiaejomdkkhimaaLpC
import Derived.Test.YtiaejomdkkhimaaLaT
namespace Go.Proofs.Ytiaejomdkkhimaa
namespace La
open Go.RowKit

theorem chopA_size (t : ByteArray) : (chopA t).size ≤ t.size := by
  unfold chopA
  split
  · rw [chop_size]; omega
  · exact Nat.le_refl _
theorem chopA_end {t : ByteArray} (h : endB t = true) : chopA t = chop t := by unfold chopA; rw [h]; rfl

set_option maxHeartbeats 1000000 in
set_option maxRecDepth 100000 in
theorem implLp_any (s : ByteArray) (w : World) (hs : s.size ≤ 1048576) :
    Calls Try.prog 25 #[.string s] w (LpPost s w) := by
  obtain ⟨W1, hW1⟩ : ∃ W1, W1 = w.alloc (.cells #[.slice none 0 0, .slice none 0 0] 27) := ⟨_, rfl⟩
  have hb0 : Below w.heap.size w W1 := by rw [hW1]; exact (Below.refl _ _).alloc (Nat.le_refl _) _
  have hrb : Row W1 w.heap.size 27 #[.slice none 0 0, .slice none 0 0] := by rw [hW1]; exact Row.new _ _ _
  have HB0 := Lib.hid hb0
  have HW1 := Lib.hid hW1
  have HRb := Lib.hid hrb
  have hlt1 : w.heap.size < W1.heap.size := hrb.lt
  have HF : Hid (okL s = false → ∀ W, Below w.heap.size w W → LpPost s w (.returned (.tuple #[.agg #[.slice none 0 0, .slice none 0 0], .bool false])) W) := fun hk W hb =>
    ⟨_, _, by rw [hk], by rw [stL_no hk]; exact StR.none_ _ _ _ hb.size _ _ _ _, hb⟩
  have HBx : Hid (∀ W, Below W1.heap.size W1 W → W.cell? ⟨w.heap.size, 0, none⟩ = some (.slice none 0 0) ∧ W.cell? ⟨w.heap.size, 1, none⟩ = some (.slice none 0 0) ∧ W.frozen? ⟨w.heap.size, 0, none⟩ = false ∧ W.frozen? ⟨w.heap.size, 1, none⟩ = false) := fun W hW => by
    have hb := HRb.out.under hW HRb.out.lt
    obtain ⟨b0, b1⟩ := hb.two
    exact ⟨b0, b1, hb.frozen 0, hb.frozen 1⟩
  have hAB := cut_sizes s
  have HOk := Lib.hid (stL_yes (s := s))
  have HOl := Lib.hid (okL_len (s := s))
  obtain ⟨z0, z1, y0, y1⟩ := HBx.out W1 (Below.refl _ _)
  clear hb0 hrb hW1
  by_cases hlen : 162 < s.size
  · have hk : okL s = false := by
      cases h : okL s with
      | false => rfl
      | true => have := HOl.out h; omega
    have HFf := Lib.hid (HF.out hk W1 HB0.out)
    have hl2 : (162 : Int) < (s.size : Int) := by omega
    clear hk HOl hlen hAB
    go_enter Try.func25, Try.ntmps25
    go_wp2_with fail
    refine bodyPost_ret (v := .tuple #[.agg #[.slice none 0 0, .slice none 0 0], .bool false]) (by simp [results, Try.results25, go_sem]) rfl ?_
    have := HFf.out
    rw [HW1.out] at this
    exact this
  have HFd := Lib.hid (okL_found (s := s))
  have HNo : Hid (cutF s = false → okL s = false) := fun h => okL_no (by rw [none_of_cutF h]; omega)
  have HNe := Lib.hid (okL_end (s := s))
  have HCut : Hid (∀ W, Calls Try.prog 44 #[.string s, .string ⟨#[40]⟩] W fun e' w' => e' = .returned (.tuple #[.string (cutA s), .string (cutB s), .bool (cutF s)]) ∧ Below W.heap.size W w') := fun W => cut_any s W hs
  have HCf : Hid (endB (cutB s) = true → chopA (cutB s) = chop (cutB s)) := chopA_end
  obtain ⟨A, hA⟩ : ∃ X, X = cutA s := ⟨_, rfl⟩
  obtain ⟨B, hB⟩ : ∃ X, X = cutB s := ⟨_, rfl⟩
  obtain ⟨f, hf⟩ : ∃ X, X = cutF s := ⟨_, rfl⟩
  rw [← hA, ← hB] at hAB HFd HOk
  rw [← hB] at HNe HCf
  rw [← hA, ← hB, ← hf] at HCut
  rw [← hf] at HFd HNo
  have HSu : Hid (∀ W, Calls Try.prog 45 #[.string B, .string ⟨#[41]⟩] W fun e' w' => e' = .returned (.tuple #[.string (chopA B), .bool (endB B)]) ∧ W = w') := fun W => cutSuf_any B W (by omega)
  have hBc := chopA_size B
  obtain ⟨D, hD⟩ : ∃ X, X = chopA B := ⟨_, rfl⟩
  obtain ⟨o, ho⟩ : ∃ X, X = endB B := ⟨_, rfl⟩
  rw [← hD, ← ho] at HSu
  rw [← ho] at HFd HNe
  rw [← hD, ← ho] at HCf
  rw [← hD] at hBc
  have hAs : A.size ≤ 1048576 := by omega
  have hDs : D.size ≤ 1048576 := by omega
  have hAl := nums_length A
  have hDl := nums_length D
  obtain ⟨za, hza⟩ : ∃ z, z = nums A := ⟨_, rfl⟩
  obtain ⟨zb, hzb⟩ : ∃ z, z = nums D := ⟨_, rfl⟩
  have HZa := Lib.hid hza
  have HZb := Lib.hid hzb
  have hzal : za.length ≤ 1048576 := by rw [hza, hAl]; exact hAs
  have hzbl : zb.length ≤ 1048576 := by rw [hzb, hDl]; exact hDs
  have HSz : Hid (Lay.sta.sz ⟨za, zb⟩ ≤ 1048576) := by show _ ≤ _; rw [sta_sz]; show za.length + zb.length ≤ _; rw [hza, hzb, hAl, hDl]; omega
  have HOk2 : Hid (okL s = true → stL s = ⟨za, zb⟩) := fun h => by
    have h1 := HOk.out h
    rw [h1, hza, hzb]
    cases ho2 : o with
    | true => rw [HCf.out ho2]
    | false => have := HNe.out ho2; rw [this] at h; cases h
  have HFd2 : Hid (f = true → o = true → okL s = laOk ⟨za, zb⟩) := fun h1 h2 => by rw [HFd.out h1 h2, hza, hzb, HCf.out h2]
  have hl2 : ¬ (162 : Int) < (s.size : Int) := by omega
  clear hA hB hf HOl hlen hAB hAl hDl hza hzb hs hD ho hBc HFd HOk HCf z0 z1 y0 y1
  go_enter Try.func25, Try.ntmps25
  go_wp2_with fail
  rw [← HW1.out]
  refine (HCut.out W1).mono ?_
  rintro e' w1 ⟨rfl, hb1⟩
  have HB1 : Hid (Below W1.heap.size W1 w1) := hb1
  clear hb1
  go_wp2_with fail
  refine (HSu.out w1).mono ?_
  rintro e' w1' ⟨rfl, rfl⟩
  go_wp2_with fail
  refine (numsI_any A w1 hAs).mono ?_
  rintro e' w2 ⟨g, ca, cs, rfl, hg, hr, hz, hb2⟩
  rw [← HZa.out] at hz ⊢
  have HB2 : Hid (Below W1.heap.size W1 w2) := HB1.out.trans (hb2.mono HB1.out.size)
  have HRg := Lib.hid hr
  have HZg := Lib.hid hz
  have hg1 : W1.heap.size ≤ g := Nat.le_trans HB1.out.size hg
  have hg2 : g < w2.heap.size := hr.lt
  clear hb2 hr hz hg
  go_wp2_with fail
  refine (numsI_any D w2 hDs).mono ?_
  rintro e' w3 ⟨h, cb, ds, rfl, hh, hr, hz, hb3⟩
  rw [← HZb.out] at hz ⊢
  have HB3 : Hid (Below W1.heap.size W1 w3) := HB2.out.trans (hb3.mono HB2.out.size)
  have hh1 : W1.heap.size ≤ h := by have := HB2.out.size; omega
  have HSt3 : Hid (StR w3 W1.heap.size w3.heap.size ⟨za, zb⟩ (.slice (some ⟨g, 0, none⟩) za.length ca) (.slice (some ⟨h, 0, none⟩) zb.length cb)) := StR.rows (HRg.out.under hb3 HRg.out.lt) hr hg1 hh1 (by omega) hzal hzbl HZg.out hz
  obtain ⟨W4, hW4⟩ : ∃ W4, W4 = w3.alloc (.cells #[.slice (some ⟨g, 0, none⟩) za.length ca, .slice (some ⟨h, 0, none⟩) zb.length cb] 27) := ⟨_, rfl⟩
  have hb4 : Below w3.heap.size w3 W4 := by rw [hW4]; exact (Below.refl _ _).alloc (Nat.le_refl _) _
  have HR4 : Hid (Row W4 w3.heap.size 27 #[.slice (some ⟨g, 0, none⟩) za.length ca, .slice (some ⟨h, 0, none⟩) zb.length cb]) := by rw [hW4]; exact Row.new _ _ _
  have HB4 : Hid (Below W1.heap.size W1 W4) := HB3.out.trans (hb4.mono HB3.out.size)
  have HSt4 : Hid (StR W4 W1.heap.size w3.heap.size ⟨za, zb⟩ (.slice (some ⟨g, 0, none⟩) za.length ca) (.slice (some ⟨h, 0, none⟩) zb.length cb)) := HSt3.out.under hb4 (Nat.le_refl _)
  have h34 : w3.heap.size < W4.heap.size := HR4.out.lt
  have HW4 := Lib.hid hW4
  have h13 : W1.heap.size ≤ w3.heap.size := HB3.out.size
  have hl3 : w.heap.size < w3.heap.size := by omega
  have hne : ¬ w3.heap.size = w.heap.size := by omega
  have hne' : ¬ w.heap.size = w3.heap.size := by omega
  clear hb3 hr hz hh hb4 hW4
  obtain ⟨z0, z1, y0, y1⟩ := HBx.out w3 HB3.out
  by_cases hfo : f = true ∧ o = true
  case neg =>
    have hok : okL s = false := by
      cases f with
      | false => exact HNo.out rfl
      | true => cases o with
        | false => exact HNe.out rfl
        | true => exact absurd ⟨rfl, rfl⟩ hfo
    have hbw : ∀ o : Obj, Below w.heap.size w (((w3.setCell ⟨w.heap.size, 0, none⟩ (.slice none 0 0)).setCell ⟨w.heap.size, 1, none⟩ (.slice none 0 0)).alloc o) := fun o => by
      have h1 : Below w.heap.size w ((w3.setCell ⟨w.heap.size, 0, none⟩ (.slice none 0 0)).setCell ⟨w.heap.size, 1, none⟩ (.slice none 0 0)) := ((HB0.out.trans (HB3.out.mono HB0.out.size)).setCell (Nat.le_refl _) _).setCell (Nat.le_refl _) _
      exact h1.alloc h1.size o
    have HFf : Hid (∀ o : Obj, LpPost s w (.returned (.tuple #[.agg #[.slice none 0 0, .slice none 0 0], .bool false])) (((w3.setCell ⟨w.heap.size, 0, none⟩ (.slice none 0 0)).setCell ⟨w.heap.size, 1, none⟩ (.slice none 0 0)).alloc o)) := fun o => HF.out hok _ (hbw o)
    have HRs : Hid (∀ o : Obj, (((w3.setCell ⟨w.heap.size, 0, none⟩ (.slice none 0 0)).setCell ⟨w.heap.size, 1, none⟩ (.slice none 0 0)).alloc o).cell? ⟨w.heap.size, 0, none⟩ = some (.slice none 0 0) ∧ (((w3.setCell ⟨w.heap.size, 0, none⟩ (.slice none 0 0)).setCell ⟨w.heap.size, 1, none⟩ (.slice none 0 0)).alloc o).cell? ⟨w.heap.size, 1, none⟩ = some (.slice none 0 0)) := fun o => by
      have hr3 := HRb.out.under HB3.out HRb.out.lt
      have hr4 : Row ((w3.setCell ⟨w.heap.size, 0, none⟩ (.slice none 0 0)).setCell ⟨w.heap.size, 1, none⟩ (.slice none 0 0)) w.heap.size 27 #[.slice none 0 0, .slice none 0 0] := (hr3.set_ 0 _).set_ 1 _
      exact (hr4.under ((Below.refl _ _).alloc (Nat.le_refl _) o) hr4.lt).two
    clear hbw hok
    cases f
    case false =>
      clear hfo
      go_wp2_with fail
      obtain ⟨c0, c1⟩ := HRs.out (.cells #[.slice (some ⟨g, 0, none⟩) za.length ca, .slice (some ⟨h, 0, none⟩) zb.length cb] 27)
      refine bodyPost_ret (v := .tuple #[.agg #[.slice none 0 0, .slice none 0 0], .bool false]) (by simp [results, Try.results25, go_sem, c0, c1]) rfl ?_
      exact HFf.out _
    case true =>
      have ho : o = false := by
        cases o
        · rfl
        · exact absurd ⟨rfl, rfl⟩ hfo
      subst ho
      clear hfo
      go_wp2_with fail
      obtain ⟨c0, c1⟩ := HRs.out (.cells #[.slice (some ⟨g, 0, none⟩) za.length ca, .slice (some ⟨h, 0, none⟩) zb.length cb] 27)
      refine bodyPost_ret (v := .tuple #[.agg #[.slice none 0 0, .slice none 0 0], .bool false]) (by simp [results, Try.results25, go_sem, c0, c1]) rfl ?_
      exact HFf.out _
  obtain ⟨rfl, rfl⟩ := hfo
  have HFd3 := Lib.hid (HFd2.out rfl rfl)
  go_wp2_with fail
  rw [← HW4.out]
  refine (implLv_any ⟨za, zb⟩ (fun j => (#[.slice (some ⟨g, 0, none⟩) za.length ca, .slice (some ⟨h, 0, none⟩) zb.length cb] : Array Value).getD j undef) W4 (HSt4.out.lies (by omega)) HSz.out).mono ?_
  rintro e' w5 ⟨rfl, hb5⟩
  rw [← HFd3.out]
  have HB5 : Hid (Below W1.heap.size W1 w5) := HB4.out.trans (hb5.mono HB4.out.size)
  have HSt5 : Hid (StR w5 W1.heap.size w3.heap.size ⟨za, zb⟩ (.slice (some ⟨g, 0, none⟩) za.length ca) (.slice (some ⟨h, 0, none⟩) zb.length cb)) := HSt4.out.under hb5 (by omega)
  obtain ⟨v0, v1⟩ := (HR4.out.under hb5 HR4.out.lt).two
  have h45 : W4.heap.size ≤ w5.heap.size := hb5.size
  clear hb5 z0 z1 y0 y1
  obtain ⟨z0, z1, y0, y1⟩ := HBx.out w5 HB5.out
  cases hok : okL s with
  | false =>
    have HFf : Hid (LpPost s w (.returned (.tuple #[.agg #[.slice none 0 0, .slice none 0 0], .bool false])) ((w5.setCell ⟨w.heap.size, 0, none⟩ (.slice none 0 0)).setCell ⟨w.heap.size, 1, none⟩ (.slice none 0 0))) := HF.out hok _ (((HB0.out.trans (HB5.out.mono HB0.out.size)).setCell (Nat.le_refl _) _).setCell (Nat.le_refl _) _)
    clear hok
    go_wp2_with fail
    refine bodyPost_ret (v := .tuple #[.agg #[.slice none 0 0, .slice none 0 0], .bool false]) (by simp [results, Try.results25, go_sem, z0, z1]) rfl ?_
    exact HFf.out
  | true =>
    have HFin : Hid (LpPost s w (.returned (.tuple #[.agg #[.slice (some ⟨g, 0, none⟩) za.length ca, .slice (some ⟨h, 0, none⟩) zb.length cb], .bool true])) ((w5.setCell ⟨w.heap.size, 0, none⟩ (.slice (some ⟨g, 0, none⟩) za.length ca)).setCell ⟨w.heap.size, 1, none⟩ (.slice (some ⟨h, 0, none⟩) zb.length cb))) := by
      have hb : Below w.heap.size w ((w5.setCell ⟨w.heap.size, 0, none⟩ (.slice (some ⟨g, 0, none⟩) za.length ca)).setCell ⟨w.heap.size, 1, none⟩ (.slice (some ⟨h, 0, none⟩) zb.length cb)) := ((HB0.out.trans (HB5.out.mono HB0.out.size)).setCell (Nat.le_refl _) _).setCell (Nat.le_refl _) _
      refine ⟨_, _, by rw [hok], ?_, hb⟩
      rw [HOk2.out hok]
      have hk : StR ((w5.setCell ⟨w.heap.size, 0, none⟩ (.slice (some ⟨g, 0, none⟩) za.length ca)).setCell ⟨w.heap.size, 1, none⟩ (.slice (some ⟨h, 0, none⟩) zb.length cb)) W1.heap.size w3.heap.size ⟨za, zb⟩ (.slice (some ⟨g, 0, none⟩) za.length ca) (.slice (some ⟨h, 0, none⟩) zb.length cb) := HSt5.out.keep fun q h1 h2 => by
        rw [Below.heap_setCell _ _ _ _ (by show ¬ _ = _; simp; omega), Below.heap_setCell _ _ _ _ (by show ¬ _ = _; simp; omega)]
      exact hk.more (by omega) (by simp; omega)
    clear hok
    go_wp2_with fail
    refine bodyPost_ret (v := .tuple #[.agg #[.slice (some ⟨g, 0, none⟩) za.length ca, .slice (some ⟨h, 0, none⟩) zb.length cb], .bool true]) (by simp [results, Try.results25, go_sem, z0, z1]) rfl ?_
    exact HFin.out

end La
end Go.Proofs.Ytiaejomdkkhimaa

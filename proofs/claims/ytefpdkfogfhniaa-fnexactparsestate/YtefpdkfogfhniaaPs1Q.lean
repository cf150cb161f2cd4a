/- What ParseState answers, as plain data; the walk of impl.ParseState. -/
import Derived.Test.YtefpdkfogfhniaaPcQ
import Derived.Test.YtefpdkfogfhniaaStVQ
import Derived.Test.YtefpdkfogfhniaaE0
import Derived.Test.YtefpdkfogfhniaaCl0
import Derived.Test.YtefpdkfogfhniaaStXQ
import Derived.Test.YtefpdkfogfhniaaBld
namespace Go.Proofs.Ytefpdkfogfhniaa
open Go.RowKit

def okP (e : Sy) (s : ByteArray) : Bool := decide (cnt47 s s.size = 1) && stOk e ⟨nums (cutA s), nums (cutB s)⟩
def stP (e : Sy) (s : ByteArray) : St := if okP e s then ⟨nums (cutA s), nums (cutB s)⟩ else ⟨[], []⟩
def PsPost (e : Sy) (s : ByteArray) (w : World) (e' : Ending) (w' : World) : Prop :=
  ∃ X Y : Value, e' = .returned (.tuple #[.agg #[X, Y], .bool (okP e s)]) ∧ StR w' w.heap.size w'.heap.size (stP e s) X Y ∧ Below w.heap.size w w'

theorem cut_of_first {s : ByteArray} {p : Nat} (h : First s p) : cutA s = s.extract 0 p ∧ cutB s = s.extract (p + 1) s.size ∧ cutF s = true := by
  have hf : firstIdx s 47 = p := by
    rcases first_cases s with ⟨_, h2⟩ | ⟨q, h1, h2⟩
    · exact absurd h.2.1 (h2 p h.1)
    · have : q = p := by
        rcases Nat.lt_trichotomy q p with a | a | a
        · exact absurd h2.2.1 (h.2.2 q a)
        · exact a
        · exact absurd h.2.1 (h2.2.2 p a)
      rw [h1, this]
  have hn : ¬ ((p : Int) = -1) := by omega
  refine ⟨?_, ?_, ?_⟩ <;> simp [cutA, cutB, cutF, hf, hn]
theorem first_of_cutF {s : ByteArray} (h : cutF s = true) : ∃ p, First s p := by
  rcases first_cases s with ⟨h1, _⟩ | ⟨p, _, h2⟩
  · simp [cutF, h1] at h
  · exact ⟨p, h2⟩
theorem none_of_cutF {s : ByteArray} (h : cutF s = false) : cnt47 s s.size = 0 := by
  rcases first_cases s with ⟨_, h2⟩ | ⟨p, _, h2⟩
  · exact cnt47_none _ h2
  · rw [(cut_of_first h2).2.2] at h; cases h
theorem cut_sizes (s : ByteArray) : (cutA s).size + (cutB s).size ≤ s.size := by
  rcases first_cases s with ⟨h1, _⟩ | ⟨p, _, h2⟩
  · have h0 : (⟨#[]⟩ : ByteArray).size = 0 := rfl
    simp [cutA, cutB, h1, h0]
  · rw [(cut_of_first h2).1, (cut_of_first h2).2.1, ByteArray.size_extract, ByteArray.size_extract]
    have := h2.1
    omega
theorem extract_get {s : ByteArray} {a k : Nat} (h : a + k < s.size) : (s.extract a s.size)[k]! = s[a + k]! := by
  have hk : k < (s.extract a s.size).size := by rw [ByteArray.size_extract]; omega
  rw [getElem!_pos _ k hk, getElem!_pos s (a + k) h, ByteArray.getElem_extract]
theorem cnt47_one {s : ByteArray} {p : Nat} (h : First s p) : ∀ j, p + 1 + j ≤ s.size → (∀ i, p < i → i < p + 1 + j → s[i]! ≠ 47) → cnt47 s (p + 1 + j) = 1 := by
  intro j
  induction j with
  | zero =>
    intro _ _
    show cnt47 s p + _ = 1
    rw [cnt47_none p h.2.2, if_pos h.2.1]
  | succ j ih =>
    intro hj hi
    show cnt47 s (p + 1 + j) + (if s[p + 1 + j]! = 47 then 1 else 0) = 1
    rw [ih (by omega) fun i a b => hi i a (by omega), if_neg (hi (p + 1 + j) (by omega) (by omega))]
theorem stOk_parts {e : Sy} {f : St} (h : stOk e f = true) : f.locs.length = e.ps.length ∧ f.vals.length = 3 ∧ ∀ i, 0 ≤ f.vals.getD i 0 := by
  unfold stOk at h
  simp only [Bool.and_eq_true, decide_eq_true_eq] at h
  obtain ⟨v1, v2⟩ := valsOk_parts (n := f.vals.length) (zs := f.vals) h.2.2.1
  exact ⟨h.2.1, v1, fun i => (v2 i).1⟩
theorem okP_len {e : Sy} {s : ByteArray} (h : okP e s = true) : s.size = e.ps.length + 4 := by
  unfold okP at h
  simp only [Bool.and_eq_true, decide_eq_true_eq] at h
  obtain ⟨h1, h2⟩ := h
  have hf : cutF s = true := by
    cases hc : cutF s with
    | true => rfl
    | false => have := none_of_cutF hc; omega
  obtain ⟨p, hp⟩ := first_of_cutF hf
  obtain ⟨q1, q2, _⟩ := stOk_parts h2
  dsimp only at q1 q2
  rw [nums_length, (cut_of_first hp).1, ByteArray.size_extract] at q1
  rw [nums_length, (cut_of_first hp).2.1, ByteArray.size_extract] at q2
  have := hp.1
  omega
theorem okP_found {e : Sy} {s : ByteArray} (hf : cutF s = true) : okP e s = stOk e ⟨nums (cutA s), nums (cutB s)⟩ := by
  cases hc : stOk e ⟨nums (cutA s), nums (cutB s)⟩ with
  | false => unfold okP; rw [hc, Bool.and_false]
  | true =>
    obtain ⟨p, hp⟩ := first_of_cutF hf
    have : cnt47 s s.size = 1 := by
      have h1 := cnt47_one hp (s.size - (p + 1)) (by have := hp.1; omega) (fun i hi1 hi2 h47 => by
        have hi : i < s.size := by omega
        have hv := (stOk_parts hc).2.2 (i - (p + 1))
        dsimp only at hv
        have hk : i - (p + 1) < (cutB s).size := by rw [(cut_of_first hp).2.1, ByteArray.size_extract]; omega
        rw [show (nums (cutB s)).getD (i - (p + 1)) 0 = numAt (cutB s) (i - (p + 1)) by simp [List.getD, nums_get hk]] at hv
        unfold numAt at hv
        rw [(cut_of_first hp).2.1, extract_get (by omega), show p + 1 + (i - (p + 1)) = i by omega, h47] at hv
        revert hv
        decide)
      rw [show p + 1 + (s.size - (p + 1)) = s.size by have := hp.1; omega] at h1
      exact h1
    unfold okP
    rw [hc, this]
    rfl

set_option maxHeartbeats 1000000 in
set_option maxRecDepth 100000 in
theorem implPs_any (e : Sy) (C : Nat → Value) (s : ByteArray) (w : World) (hL : Lay.sy.lies w w.heap.size e C) (hd : Lay.sy.sz e ≤ 1048576) (hs : s.size ≤ 1048576) :
    Calls Try.prog 10 #[.agg #[C 0, C 1], .string s] w (PsPost e s w) := by
  obtain ⟨W1, hW1⟩ : ∃ W1, W1 = (w.alloc (.cells #[C 0, C 1] 33)).alloc (.cells #[.slice none 0 0, .slice none 0 0] 28) := ⟨_, rfl⟩
  have hrows := rows2 w 33 28 #[C 0, C 1] #[.slice none 0 0, .slice none 0 0]
  rw [← hW1] at hrows
  obtain ⟨hra, hrb, hb0⟩ := hrows
  have HL : Hid (Lay.sy.lies W1 W1.heap.size e C) := Lay.sy.later hL hb0 hb0.size
  have HB0 := Lib.hid hb0
  have HW1 := Lib.hid hW1
  have HRa := Lib.hid hra
  have HRb := Lib.hid hrb
  have HD := Lib.hid hd
  have hlt1 : w.heap.size + 1 < W1.heap.size := hrb.lt
  obtain ⟨n, hn⟩ : ∃ n, n = e.ps.length := ⟨_, rfl⟩
  obtain ⟨A1, cap1, hC1, hn1⟩ : ∃ A1 cap1, C 1 = .slice A1 n cap1 ∧ n ≤ 1048576 := by
    obtain ⟨ini, ps⟩ := e
    obtain ⟨_, A1, cap1, _, _, _, q1, _, _⟩ := sy_lies hL
    refine ⟨A1, cap1, by rw [q1, hn], ?_⟩
    rw [sy_sz] at hd
    have := Lay.pr.szL_length ps
    dsimp only at hd hn
    omega
  have HOl := Lib.hid (okP_len (e := e) (s := s))
  rw [← hn] at HOl
  have HF : Hid (okP e s = false → ∀ W, Below w.heap.size w W → PsPost e s w (.returned (.tuple #[.agg #[.slice none 0 0, .slice none 0 0], .bool false])) W) := fun hk W hb =>
    ⟨_, _, by rw [hk], by unfold stP; rw [hk]; exact StR.none_ _ _ _ hb.size _ _ _ _, hb⟩
  have HBx : Hid (∀ W, Below W1.heap.size W1 W → W.cell? ⟨w.heap.size, 0, none⟩ = some (C 0) ∧ W.cell? ⟨w.heap.size, 1, none⟩ = some (.slice A1 n cap1) ∧ W.cell? ⟨w.heap.size + 1, 0, none⟩ = some (.slice none 0 0) ∧ W.cell? ⟨w.heap.size + 1, 1, none⟩ = some (.slice none 0 0) ∧ W.frozen? ⟨w.heap.size + 1, 0, none⟩ = false ∧ W.frozen? ⟨w.heap.size + 1, 1, none⟩ = false) := fun W hW => by
    obtain ⟨a0, a1⟩ := (HRa.out.under hW HRa.out.lt).two
    have hb := HRb.out.under hW HRb.out.lt
    obtain ⟨b0, b1⟩ := hb.two
    rw [hC1] at a1
    exact ⟨a0, a1, b0, b1, hb.frozen 0, hb.frozen 1⟩
  obtain ⟨p0, p1, z0, z1, y0, y1⟩ := HBx.out W1 (Below.refl _ _)
  clear hL hb0 hra hrb hd hn
  rw [hC1] at hW1 ⊢
  replace HW1 := Lib.hid hW1
  clear hW1
  by_cases hlen : s.size = n + 4
  case neg =>
    have hk : okP e s = false := by
      cases h : okP e s with
      | false => rfl
      | true => exact absurd (HOl.out h) hlen
    have HFf := Lib.hid (HF.out hk W1 HB0.out)
    have t1 : ((s.size : Int) != (n : Int) + 1 + 3) = true := by rw [bne_iff_ne]; omega
    have t2 : ((s.size : Int) == (n : Int) + 1 + 3) = false := by rw [beq_eq_false_iff_ne]; omega
    clear hk HOl hlen
    go_enter Try.func10, Try.ntmps10
    go_wp2_with fail
    refine bodyPost_ret (v := .tuple #[.agg #[.slice none 0 0, .slice none 0 0], .bool false]) (by simp [results, Try.results10, go_sem]) rfl ?_
    rw [← HW1.out]
    exact HFf.out
  case pos =>
    have hAB := cut_sizes s
    have HFd := Lib.hid (okP_found (e := e) (s := s))
    have HNo := Lib.hid (none_of_cutF (s := s))
    have HCut : Hid (∀ W, Calls Try.prog 38 #[.string s, .string ⟨#[47]⟩] W fun e' w' => e' = .returned (.tuple #[.string (cutA s), .string (cutB s), .bool (cutF s)]) ∧ Below W.heap.size W w') := fun W => cut_any s W (by omega) hs
    have HOk : Hid (okP e s = true → stP e s = ⟨nums (cutA s), nums (cutB s)⟩) := fun h => by unfold stP; rw [h]; rfl
    have HOf : Hid (cnt47 s s.size = 0 → okP e s = false) := fun h => by unfold okP; rw [h]; rfl
    obtain ⟨A, hA⟩ : ∃ X, X = cutA s := ⟨_, rfl⟩
    obtain ⟨B, hB⟩ : ∃ X, X = cutB s := ⟨_, rfl⟩
    obtain ⟨f, hf⟩ : ∃ X, X = cutF s := ⟨_, rfl⟩
    rw [← hA, ← hB] at hAB HFd HOk
    rw [← hA, ← hB, ← hf] at HCut
    rw [← hf] at HFd HNo
    have hAs : A.size ≤ 1048576 := by omega
    have hBs : B.size ≤ 1048576 := by omega
    have hAl := nums_length A
    have hBl := nums_length B
    have HAl := Lib.hid hAl
    have HBl := Lib.hid hBl
    have t1 : ((s.size : Int) != (n : Int) + 1 + 3) = false := by rw [bne_eq_false_iff_eq]; omega
    have t2 : ((s.size : Int) == (n : Int) + 1 + 3) = true := by rw [beq_iff_eq]; omega
    obtain ⟨za, hza⟩ : ∃ z, z = nums A := ⟨_, rfl⟩
    obtain ⟨zb, hzb⟩ : ∃ z, z = nums B := ⟨_, rfl⟩
    have HZa := Lib.hid hza
    have HZb := Lib.hid hzb
    rw [← hza, ← hzb] at HFd HOk
    have hzal : za.length ≤ 1048576 := by rw [hza, hAl]; exact hAs
    have hzbl : zb.length ≤ 1048576 := by rw [hzb, hBl]; exact hBs
    have HSz : Hid (Lay.sta.sz ⟨za, zb⟩ ≤ 1048576) := by show _ ≤ _; rw [sta_sz]; show za.length + zb.length ≤ _; rw [hza, hzb, hAl, hBl]; omega
    clear hA hB hf HOl hlen hAB hAl hBl hza hzb hs
    go_enter Try.func10, Try.ntmps10
    go_wp2_with fail
    rw [← HW1.out]
    refine (HCut.out W1).mono ?_
    rintro e' w1 ⟨rfl, hb1⟩
    have HB1 : Hid (Below W1.heap.size W1 w1) := hb1
    clear hb1
    go_wp2_with fail
    refine (numsI_any A w1 hAs).mono ?_
    rintro e' w2 ⟨g, ca, cs, rfl, hg, hr, hz, hb2⟩
    rw [← HZa.out] at hz ⊢
    have HB2 : Hid (Below W1.heap.size W1 w2) := HB1.out.trans (hb2.mono HB1.out.size)
    have HRg := Lib.hid hr
    have HZg := Lib.hid hz
    have hg1 : W1.heap.size ≤ g := Nat.le_trans HB1.out.size hg
    have hg2 : g < w2.heap.size := hr.lt
    clear hb2 hr hz hg
    go_wp2_with fail
    refine (numsI_any B w2 hBs).mono ?_
    rintro e' w3 ⟨h, cb, ds, rfl, hh, hr, hz, hb3⟩
    rw [← HZb.out] at hz ⊢
    have HB3 : Hid (Below W1.heap.size W1 w3) := HB2.out.trans (hb3.mono HB2.out.size)
    have hh1 : W1.heap.size ≤ h := by have := HB2.out.size; omega
    have HSt3 : Hid (StR w3 W1.heap.size w3.heap.size ⟨za, zb⟩ (.slice (some ⟨g, 0, none⟩) za.length ca) (.slice (some ⟨h, 0, none⟩) zb.length cb)) := StR.rows (HRg.out.under hb3 HRg.out.lt) hr hg1 hh1 (by omega) hzal hzbl HZg.out hz
    obtain ⟨W4, hW4⟩ : ∃ W4, W4 = w3.alloc (.cells #[.slice (some ⟨g, 0, none⟩) za.length ca, .slice (some ⟨h, 0, none⟩) zb.length cb] 28) := ⟨_, rfl⟩
    have hb4 : Below w3.heap.size w3 W4 := by rw [hW4]; exact (Below.refl _ _).alloc (Nat.le_refl _) _
    have HR4 : Hid (Row W4 w3.heap.size 28 #[.slice (some ⟨g, 0, none⟩) za.length ca, .slice (some ⟨h, 0, none⟩) zb.length cb]) := by rw [hW4]; exact Row.new _ _ _
    have HB4 : Hid (Below W1.heap.size W1 W4) := HB3.out.trans (hb4.mono HB3.out.size)
    have HSt4 : Hid (StR W4 W1.heap.size w3.heap.size ⟨za, zb⟩ (.slice (some ⟨g, 0, none⟩) za.length ca) (.slice (some ⟨h, 0, none⟩) zb.length cb)) := HSt3.out.under hb4 (Nat.le_refl _)
    have h34 : w3.heap.size < W4.heap.size := HR4.out.lt
    have HW4 := Lib.hid hW4
    have h13 : W1.heap.size ≤ w3.heap.size := HB3.out.size
    have hl3 : w.heap.size + 1 < w3.heap.size := by omega
    have hl3' : w.heap.size < w3.heap.size := by omega
    have hne : ¬ w3.heap.size = w.heap.size + 1 := by omega
    have hne' : ¬ w.heap.size + 1 = w3.heap.size := by omega
    clear hb3 hr hz hh hb4 hW4 p0 p1 z0 z1 y0 y1
    obtain ⟨p0, p1, z0, z1, y0, y1⟩ := HBx.out w3 HB3.out
    cases f
    · have hbw : ∀ o : Obj, Below w.heap.size w (((w3.setCell ⟨w.heap.size + 1, 0, none⟩ (.slice none 0 0)).setCell ⟨w.heap.size + 1, 1, none⟩ (.slice none 0 0)).alloc o) := fun o => by
        have h1 : Below w.heap.size w ((w3.setCell ⟨w.heap.size + 1, 0, none⟩ (.slice none 0 0)).setCell ⟨w.heap.size + 1, 1, none⟩ (.slice none 0 0)) := ((HB0.out.trans (HB3.out.mono HB0.out.size)).setCell (by simp) _).setCell (by simp) _
        exact h1.alloc h1.size o
      have HFf : Hid (∀ o : Obj, PsPost e s w (.returned (.tuple #[.agg #[.slice none 0 0, .slice none 0 0], .bool false])) (((w3.setCell ⟨w.heap.size + 1, 0, none⟩ (.slice none 0 0)).setCell ⟨w.heap.size + 1, 1, none⟩ (.slice none 0 0)).alloc o)) := fun o => HF.out (HOf.out (HNo.out rfl)) _ (hbw o)
      have HRs : Hid (∀ o : Obj, (((w3.setCell ⟨w.heap.size + 1, 0, none⟩ (.slice none 0 0)).setCell ⟨w.heap.size + 1, 1, none⟩ (.slice none 0 0)).alloc o).cell? ⟨w.heap.size + 1, 0, none⟩ = some (.slice none 0 0) ∧ (((w3.setCell ⟨w.heap.size + 1, 0, none⟩ (.slice none 0 0)).setCell ⟨w.heap.size + 1, 1, none⟩ (.slice none 0 0)).alloc o).cell? ⟨w.heap.size + 1, 1, none⟩ = some (.slice none 0 0)) := fun o => by
        have hr3 := HRb.out.under HB3.out HRb.out.lt
        have hr4 : Row ((w3.setCell ⟨w.heap.size + 1, 0, none⟩ (.slice none 0 0)).setCell ⟨w.heap.size + 1, 1, none⟩ (.slice none 0 0)) (w.heap.size + 1) 28 #[.slice none 0 0, .slice none 0 0] := (hr3.set_ 0 _).set_ 1 _
        exact (hr4.under ((Below.refl _ _).alloc (Nat.le_refl _) o) hr4.lt).two
      clear hbw
      go_wp2_with fail
      obtain ⟨c0, c1⟩ := HRs.out (.cells #[.slice (some ⟨g, 0, none⟩) za.length ca, .slice (some ⟨h, 0, none⟩) zb.length cb] 28)
      refine bodyPost_ret (v := .tuple #[.agg #[.slice none 0 0, .slice none 0 0], .bool false]) (by simp [results, Try.results10, go_sem, c0, c1]) rfl ?_
      exact HFf.out _
    · have HFd2 := Lib.hid (HFd.out rfl)
      have hcon := implStV_any e C ⟨za, zb⟩ (fun j => (#[.slice (some ⟨g, 0, none⟩) za.length ca, .slice (some ⟨h, 0, none⟩) zb.length cb] : Array Value).getD j undef) W4 (Lay.sy.later HL.out HB4.out HB4.out.size) (HSt4.out.lies (by omega)) HD.out HSz.out
      rw [hC1] at hcon
      have HCon := Lib.hid hcon
      clear hcon
      go_wp2_with fail
      rw [← HW4.out]
      refine HCon.out.mono ?_
      rintro e' w5 ⟨rfl, hb5⟩
      rw [← HFd2.out]
      have HB5 : Hid (Below W1.heap.size W1 w5) := HB4.out.trans (hb5.mono HB4.out.size)
      have HSt5 : Hid (StR w5 W1.heap.size w3.heap.size ⟨za, zb⟩ (.slice (some ⟨g, 0, none⟩) za.length ca) (.slice (some ⟨h, 0, none⟩) zb.length cb)) := HSt4.out.under hb5 (by omega)
      obtain ⟨v0, v1⟩ := (HR4.out.under hb5 HR4.out.lt).two
      have h45 : W4.heap.size ≤ w5.heap.size := hb5.size
      clear hb5 p0 p1 z0 z1 y0 y1
      obtain ⟨p0, p1, z0, z1, y0, y1⟩ := HBx.out w5 HB5.out
      cases hok : okP e s with
      | false =>
        have HFf : Hid (PsPost e s w (.returned (.tuple #[.agg #[.slice none 0 0, .slice none 0 0], .bool false])) ((w5.setCell ⟨w.heap.size + 1, 0, none⟩ (.slice none 0 0)).setCell ⟨w.heap.size + 1, 1, none⟩ (.slice none 0 0))) := HF.out hok _ (((HB0.out.trans (HB5.out.mono HB0.out.size)).setCell (by simp) _).setCell (by simp) _)
        clear hok
        go_wp2_with fail
        refine bodyPost_ret (v := .tuple #[.agg #[.slice none 0 0, .slice none 0 0], .bool false]) (by simp [results, Try.results10, go_sem, z0, z1]) rfl ?_
        exact HFf.out
      | true =>
        have HFin : Hid (PsPost e s w (.returned (.tuple #[.agg #[.slice (some ⟨g, 0, none⟩) za.length ca, .slice (some ⟨h, 0, none⟩) zb.length cb], .bool true])) ((w5.setCell ⟨w.heap.size + 1, 0, none⟩ (.slice (some ⟨g, 0, none⟩) za.length ca)).setCell ⟨w.heap.size + 1, 1, none⟩ (.slice (some ⟨h, 0, none⟩) zb.length cb))) := by
          have hb : Below w.heap.size w ((w5.setCell ⟨w.heap.size + 1, 0, none⟩ (.slice (some ⟨g, 0, none⟩) za.length ca)).setCell ⟨w.heap.size + 1, 1, none⟩ (.slice (some ⟨h, 0, none⟩) zb.length cb)) := ((HB0.out.trans (HB5.out.mono HB0.out.size)).setCell (by simp) _).setCell (by simp) _
          refine ⟨_, _, by rw [hok], ?_, hb⟩
          rw [HOk.out hok]
          have hk : StR ((w5.setCell ⟨w.heap.size + 1, 0, none⟩ (.slice (some ⟨g, 0, none⟩) za.length ca)).setCell ⟨w.heap.size + 1, 1, none⟩ (.slice (some ⟨h, 0, none⟩) zb.length cb)) W1.heap.size w3.heap.size ⟨za, zb⟩ (.slice (some ⟨g, 0, none⟩) za.length ca) (.slice (some ⟨h, 0, none⟩) zb.length cb) := HSt5.out.keep fun q h1 h2 => by
            rw [Below.heap_setCell _ _ _ _ (by show ¬ _ = _; simp; omega), Below.heap_setCell _ _ _ _ (by show ¬ _ = _; simp; omega)]
          exact hk.more HB0.out.size (by simp; omega)
        clear hok
        go_wp2_with fail
        refine bodyPost_ret (v := .tuple #[.agg #[.slice (some ⟨g, 0, none⟩) za.length ca, .slice (some ⟨h, 0, none⟩) zb.length cb], .bool true]) (by simp [results, Try.results10, go_sem, z0, z1]) rfl ?_
        exact HFin.out

end Go.Proofs.Ytefpdkfogfhniaa

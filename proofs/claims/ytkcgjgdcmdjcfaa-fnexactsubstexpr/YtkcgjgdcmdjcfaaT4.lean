/- Marks that are held: laws.markExpr and laws.heldExpr on a tree whose rows are apart. -/
import Derived.Test.YtkcgjgdcmdjcfaaT1
import Derived.Test.YtkcgjgdcmdjcfaaM1b
import Derived.Test.YtkcgjgdcmdjcfaaGr
namespace Go.Proofs.Ytkcgjgdcmdjcfaa
open Go.RowKit

/-- The rows of the tree hold the marks from m on. -/
inductive Held (w : World) : Nat → Nat → Ex → Value → Int → Prop
  | mk (lo hi : Nat) (k v : Int) (kids : List Ex) (A : Option Addr) (cap g : Nat) (cs : Array Value) (C2 : Nat → Value) (s : Nat → Nat) (m : Int)
      (hA : ∀ (i : Nat) (x : Ex), kids[i]? = some x → A = some ⟨g, 0, none⟩ ∧ lo ≤ g ∧ g < hi ∧ (g < s 0 ∨ s kids.length ≤ g) ∧ lo ≤ s 0 ∧ s kids.length ≤ hi ∧ Row w g 25 cs)
      (h0 : ∀ (i : Nat) (x : Ex), kids[i]? = some x → cs[i * 3]? = some (.int .i64 (m + 2 * descL (kids.take i))))
      (h1 : ∀ (i : Nat) (x : Ex), kids[i]? = some x → cs[i * 3 + 1]? = some (.int .i64 (m + 2 * descL (kids.take i) + 1)))
      (h2 : ∀ (i : Nat) (x : Ex), kids[i]? = some x → cs[i * 3 + 2]? = some (C2 i))
      (hs : ∀ i, i < kids.length → s i ≤ s (i + 1))
      (hr : ∀ (i : Nat) (x : Ex), kids[i]? = some x → Held w (s i) (s (i + 1)) x (C2 i) (m + 2 * descL (kids.take i) + 1 + 1)) :
      Held w lo hi (.node k v kids) (.slice A kids.length cap) m

theorem Held.keep {w w' : World} {lo hi : Nat} {e : Ex} {c : Value} {m : Int} (h : Held w lo hi e c m) : (∀ g, lo ≤ g → g < hi → w'.heap[g]? = w.heap[g]?) → Held w' lo hi e c m := by
  induction h with
  | mk lo hi k v kids A cap g cs C2 s m hA h0 h1 h2 hs hr ih =>
    intro hk
    refine .mk lo hi k v kids A cap g cs C2 s m (fun i x hx => ?_) h0 h1 h2 hs (fun i x hx => ih i x hx fun q q1 q2 => ?_)
    · obtain ⟨a, b, c, d, e1, e2, r⟩ := hA i x hx
      exact ⟨a, b, c, d, e1, e2, (hk g b c).trans r⟩
    · obtain ⟨a, b, c, d, e1, e2, r⟩ := hA i x hx
      have hi := (List.getElem?_eq_some_iff.1 hx).1
      have m1 := mono_to hs i 0 (Nat.zero_le _) (by omega)
      have m2 := mono_to hs kids.length (i + 1) (by omega) (Nat.le_refl _)
      exact hk q (by omega) (by omega)

theorem Held.form {w : World} {lo hi : Nat} {e : Ex} {c : Value} {m : Int} (h : Held w lo hi e c m) : ∃ A n cap, c = .slice A n cap := by
  cases h with
  | mk => exact ⟨_, _, _, rfl⟩


theorem Kept.set2_ (lo hi : Nat) (w : World) {g : Nat} (i : Nat) (u : Value) (hl : lo ≤ g) (hh : g < hi) : Kept lo hi w (w.setCell ⟨g, i, none⟩ u) := Kept.of_grown (grown_set w g i u) hl hh

/-- Half-way through the operands. -/
def Half (w : World) (g : Nat) (kids : List Ex) (C0 C1 C2 : Nat → Value) (s : Nat → Nat) (m : Int) (j : Nat) : Prop :=
  ∃ cs, Row w g 25 cs ∧ (∀ (i : Nat) (x : Ex), kids[i]? = some x → cs[i * 3 + 2]? = some (C2 i)) ∧
    (∀ (i : Nat) (x : Ex), kids[i]? = some x → i < j → cs[i * 3]? = some (.int .i64 (m + 2 * descL (kids.take i))) ∧ cs[i * 3 + 1]? = some (.int .i64 (m + 2 * descL (kids.take i) + 1)) ∧ Held w (s i) (s (i + 1)) x (C2 i) (m + 2 * descL (kids.take i) + 1 + 1)) ∧
    (∀ (i : Nat) (x : Ex), kids[i]? = some x → j ≤ i → Sep w (s i) (s (i + 1)) x (C0 i) (C1 i) (C2 i))

theorem size_of_get {cs : Array Value} {i : Nat} {u : Value} (h : cs[i]? = some u) : i < cs.size := by
  rcases Nat.lt_or_ge i cs.size with hlt | hge
  · exact hlt
  · rw [Array.getElem?_eq_none hge] at h; cases h

theorem Half.step {w w2 : World} {g : Nat} {kids : List Ex} {C0 C1 C2 : Nat → Value} {s : Nat → Nat} {m : Int} {j : Nat} (h : Half w g kids C0 C1 C2 s m j) (hg : g < s 0 ∨ s kids.length ≤ g) (hs : ∀ i, i < kids.length → s i ≤ s (i + 1)) (hz : s kids.length ≤ w.heap.size) {x : Ex} (hx : kids[j]? = some x) {M : Int} (hM : M = m + 2 * descL (kids.take j))
    (hk : Kept (s j) (s (j + 1)) ((w.setCell ⟨g, j * 3, none⟩ (.int .i64 M)).setCell ⟨g, j * 3 + 1, none⟩ (.int .i64 (M + 1))) w2) (hh : Held w2 (s j) (s (j + 1)) x (C2 j) (M + 1 + 1)) : Half w2 g kids C0 C1 C2 s m (j + 1) := by
  obtain ⟨cs, hr, h2, hd, hu⟩ := h
  have hj := (List.getElem?_eq_some_iff.1 hx).1
  have hcs := size_of_get (h2 j x hx)
  have hsj := mono_to hs j 0 (Nat.zero_le _) (by omega)
  have hsk := mono_to hs kids.length (j + 1) (by omega) (Nat.le_refl _)
  have hr2 := (((hr.set_ (j * 3) (.int .i64 M)).set_ (j * 3 + 1) (.int .i64 (M + 1)))).kept hk (by omega)
  have kept : ∀ q, q < w.heap.size → q ≠ g → (q < s j ∨ s (j + 1) ≤ q) → w2.heap[q]? = w.heap[q]? := fun q hq hn ho => by
    rw [hk.other q (by simpa using hq) ho, Below.heap_setCell _ _ _ _ (by simpa using hn), Below.heap_setCell _ _ _ _ (by simpa using hn)]
  subst hM
  refine ⟨_, hr2, fun i y hy => ?_, fun i y hy hi => ?_, fun i y hy hi => ?_⟩
  · simp only [Array.getElem?_setIfInBounds, Array.size_setIfInBounds]
    rw [if_neg (by omega), if_neg (by omega)]
    exact h2 i y hy
  · simp only [Array.getElem?_setIfInBounds, Array.size_setIfInBounds]
    by_cases e : i = j
    · subst e
      rw [hx] at hy
      injection hy with hy
      subst hy
      refine ⟨?_, ?_, hh⟩
      · rw [if_neg (by omega), if_pos rfl, if_pos (by omega)]
      · rw [if_pos rfl, if_pos (by omega)]
    · obtain ⟨a, b, c⟩ := hd i y hy (by omega)
      have m1 := mono_to hs j (i + 1) (by omega) (by omega)
      have m2 := mono_to hs i 0 (Nat.zero_le _) (by omega)
      have m3 := mono_to hs kids.length j (by omega) (Nat.le_refl _)
      refine ⟨?_, ?_, c.keep fun q q1 q2 => kept q (by omega) (by omega) (.inl (by omega))⟩
      · rw [if_neg (by omega), if_neg (by omega)]; exact a
      · rw [if_neg (by omega), if_neg (by omega)]; exact b
  · have hi' := (List.getElem?_eq_some_iff.1 hy).1
    have m1 := mono_to hs i (j + 1) (by omega) (by omega)
    have m2 := mono_to hs i 0 (Nat.zero_le _) (by omega)
    have m3 := mono_to hs kids.length (i + 1) (by omega) (Nat.le_refl _)
    exact (hu i y hy (by omega)).keep fun q q1 q2 => kept q (by omega) (by omega) (.inr (by omega))

def MhSaid (e : Ex) : Prop := ∀ (m : Int) (lo hi : Nat) (c0 c1 c2 : Value) (w : World), Sep w lo hi e c0 c1 c2 → hi ≤ w.heap.size → desc e ≤ 1048576 → 0 ≤ m → m + 2 * desc e ≤ 4194304 →
    Calls Try.prog 49 #[c2, .int .i64 m] w fun e' w' => e' = .returned (.int .i64 (m + 2 * desc e)) ∧ Held w' lo hi e c2 m ∧ Kept lo hi w w'

set_option maxHeartbeats 400000 in
set_option maxRecDepth 100000 in
theorem mh_any : ∀ e : Ex, MhSaid e := by
  intro e
  induction e using Ex.ind with
  | h k v kids ih =>
    intro m lo hi c0 c1 c2 w hS hhi hd hm0 hm
    cases hS with
    | mk _ _ _ _ _ A cap g cs C0 C1 C2 s hl hA h0 h1 h2 hs hr =>
    have HIH := Lib.hid ih
    have HA := Lib.hid hA
    have HS := Lib.hid hs
    have HH : Hid (∀ x, kids[0]? = some x → Half w g kids C0 C1 C2 s m 0) := fun x hx => ⟨cs, (hA 0 x hx).2.2.2.2.2.2, h2, fun i y _ h => absurd h (Nat.not_lt_zero _), fun i y hy _ => hr i y hy⟩
    simp only [desc] at hd hm
    have hlen : kids.length ≤ 1048576 := by have := descL_length kids; omega
    clear ih h0 h1 h2 hr hl
    go_enter Try.func49, Try.ntmps49
    go_wp2_with fail
    go_loopw [1, 5] (fun mm i wl => ∃ (j : Nat) (M : Int), j ≤ kids.length ∧ i = .int .i64 j ∧ mm = .int .i64 M ∧ Hid (M = m + 2 * descL (kids.take j)) ∧ Hid (∀ x, kids[0]? = some x → Half wl g kids C0 C1 C2 s m j) ∧ Hid (Kept lo hi w wl)) (fun _ i _ => kids.length - (intOf i).toNat)
    case atStart => exact ⟨0, m, Nat.zero_le _, rfl, rfl, by show _ = _; simp [descL], HH, Kept.of_below (Below.refl _ _) _ _⟩
    case round =>
      clear HH
      obtain ⟨j, M, hj, rfl, rfl, HM, HHf, HKp⟩ := hrel
      by_cases hlt : j < kids.length
      · obtain ⟨x, hx⟩ : ∃ x, kids[j]? = some x := ⟨_, List.getElem?_eq_getElem hlt⟩
        obtain ⟨x0, hx0⟩ : ∃ x, kids[0]? = some x := ⟨_, List.getElem?_eq_getElem (by omega)⟩
        obtain ⟨rfl, hlo, hghi, hg0, hl0, hsz, _⟩ := HA.out j x hx
        have hT := descL_take_succ hx
        have hTl := descL_take_le kids (j + 1)
        have hM := HM.out
        have hdx : desc x ≤ 1048576 := by omega
        obtain ⟨D, hD⟩ : ∃ D : Nat, D = desc x := ⟨_, rfl⟩
        have hMr : 0 ≤ M ∧ M + 2 + 2 * D ≤ 4194304 := by omega
        obtain ⟨hMa, hMb⟩ := hMr
        have HM' : Hid (M + 2 + 2 * D = m + 2 * descL (kids.take (j + 1))) := by show _ = _; omega
        have hhf := HHf.out x0 hx0
        have HHf' := Lib.hid hhf
        obtain ⟨cs', hrow, hc2, hdn, hup⟩ := hhf
        have hsep := hup j x hx (Nat.le_refl _)
        have hcs := size_of_get (hc2 j x hx)
        have m1 := mono_to HS.out j 0 (Nat.zero_le _) (by omega)
        have m2 := mono_to HS.out kids.length (j + 1) (by omega) (Nat.le_refl _)
        have m3 := HS.out j hlt
        obtain ⟨e0, e1, A2, l2, p2, hC0, hC1, hC2⟩ := hsep.form
        have f0 : wr.cell? ⟨g, j * 3, none⟩ = some cs'[j * 3] := by rw [hrow.cell]; exact Array.getElem?_eq_getElem _
        have f1 : wr.cell? ⟨g, j * 3 + 1, none⟩ = some cs'[j * 3 + 1] := by rw [hrow.cell]; exact Array.getElem?_eq_getElem _
        have f2 : wr.cell? ⟨g, j * 3 + 2, none⟩ = some (.slice A2 l2 p2) := by rw [hrow.cell, ← hC2]; exact hc2 j x hx
        generalize cs'[j * 3] = t0 at f0
        generalize cs'[j * 3 + 1] = t1 at f1
        have z0 := hrow.frozen (j * 3)
        have z1 := hrow.frozen (j * 3 + 1)
        have hgl : g < wr.heap.size := hrow.lt
        have hsz' : w.heap.size ≤ wr.heap.size := HKp.out.size
        have HSp : Hid (Sep ((wr.setCell ⟨g, j * 3, none⟩ (.int .i64 M)).setCell ⟨g, j * 3 + 1, none⟩ (.int .i64 (M + 1))) (s j) (s (j + 1)) x (C0 j) (C1 j) (.slice A2 l2 p2)) := by
          have h := hsep.keep (w' := (wr.setCell ⟨g, j * 3, none⟩ (.int .i64 M)).setCell ⟨g, j * 3 + 1, none⟩ (.int .i64 (M + 1))) fun q q1 q2 => by rw [Below.heap_setCell _ _ _ _ (by simp; omega), Below.heap_setCell _ _ _ _ (by simp; omega)]
          rw [hC2] at h
          exact h
        have HKp2 := Lib.hid ((HKp.out.trans (Kept.set2_ lo hi wr (j * 3) (.int .i64 M) hlo (by omega))).trans (Kept.set2_ lo hi _ (j * 3 + 1) (.int .i64 (M + 1)) hlo (by omega)))
        have HX := Lib.hid hx
        have HD := Lib.hid hD
        have HC2 := Lib.hid hC2
        have HM1 := Lib.hid hM
        clear hx hT hTl hM hD hrow hsep hcs hC0 hC1 hC2 hc2 hdn hup HM
        go_wp2_with fail
        refine (HIH.out j x HX.out (M + 1 + 1) (s j) (s (j + 1)) _ _ _ _ HSp.out (by simp; omega) hdx (by omega) (by have := HD.out; omega)).mono ?_
        rintro e' w2 ⟨rfl, hh2, hk2⟩
        rw [← HD.out]
        have HKp3 := Lib.hid (HKp2.out.trans (hk2.more (by omega) (by omega)))
        have HHf2 := Lib.hid (HHf'.out.step hg0 HS.out (by omega) HX.out HM1.out hk2 (by rw [HC2.out]; exact hh2))
        clear hh2 hk2
        go_wp2_with fail
        go_roundw
        case rel => exact ⟨j + 1, M + 2 + 2 * D, by omega, by go_num, by go_num, HM', fun _ _ => HHf2.out, HKp3⟩
        case measure => simp [intOf]; omega
      · have hjj : j = kids.length := by omega
        subst hjj
        have hM := HM.out
        rw [List.take_length] at hM
        have HMf := Lib.hid hM
        clear hM
        go_wp2_with fail
        go_ret
        refine ⟨ret_int (by rw [HMf.out]; rfl), ?_, HKp.out⟩
        by_cases hk : kids = []
        · subst hk
          exact .mk lo hi k v [] A cap g cs C2 s m (fun i x hx => by simp at hx) (fun i x hx => by simp at hx) (fun i x hx => by simp at hx) (fun i x hx => by simp at hx) HS.out (fun i x hx => by simp at hx)
        · obtain ⟨x0, hx0⟩ : ∃ x, kids[0]? = some x := ⟨_, List.getElem?_eq_getElem (List.length_pos_iff.2 hk)⟩
          obtain ⟨cs', hrow, hc2, hdn, _⟩ := HHf.out x0 hx0
          have lt : ∀ (i : Nat) (x : Ex), kids[i]? = some x → i < kids.length := fun i x hx => (List.getElem?_eq_some_iff.1 hx).1
          exact .mk lo hi k v kids A cap g cs' C2 s m (fun i x hx => by
            obtain ⟨a, b, c, d, e1, e2, _⟩ := HA.out i x hx
            exact ⟨a, b, c, d, e1, e2, hrow⟩) (fun i x hx => (hdn i x hx (lt i x hx)).1) (fun i x hx => (hdn i x hx (lt i x hx)).2.1) hc2 HS.out (fun i x hx => (hdn i x hx (lt i x hx)).2.2)

def HhSaid (e : Ex) : Prop := ∀ (m : Int) (lo hi : Nat) (c : Value) (w : World), Held w lo hi e c m → hi ≤ w.heap.size → desc e ≤ 1048576 → 0 ≤ m → m + 2 * desc e ≤ 4194304 →
    Calls Try.prog 50 #[c, .int .i64 m] w fun e' w' => e' = .returned (.int .i64 (m + 2 * desc e)) ∧ Below w.heap.size w w'

set_option maxHeartbeats 400000 in
set_option maxRecDepth 100000 in
theorem hh_any : ∀ e : Ex, HhSaid e := by
  intro e
  induction e using Ex.ind with
  | h k v kids ih =>
    intro m lo hi c w hS hhi hd hm0 hm
    cases hS with
    | mk _ _ _ _ _ A cap g cs C2 s _ hA h0 h1 h2 hs hr =>
    have HIH := Lib.hid ih
    have HA := Lib.hid hA
    have H0 := Lib.hid h0
    have H1 := Lib.hid h1
    have H2 := Lib.hid h2
    have HS := Lib.hid hs
    have HR := Lib.hid hr
    simp only [desc] at hd hm
    have hlen : kids.length ≤ 1048576 := by have := descL_length kids; omega
    clear ih hA h0 h1 h2 hs hr
    go_enter Try.func50, Try.ntmps50
    go_wp2_with fail
    go_loopw [1, 5] (fun mm i wl => ∃ (j : Nat) (M : Int), j ≤ kids.length ∧ i = .int .i64 j ∧ mm = .int .i64 M ∧ Hid (M = m + 2 * descL (kids.take j)) ∧ Hid (Below w.heap.size w wl)) (fun _ i _ => kids.length - (intOf i).toNat)
    case atStart => exact ⟨0, m, Nat.zero_le _, rfl, rfl, by show _ = _; simp [descL], Below.refl _ _⟩
    case round =>
      obtain ⟨j, M, hj, rfl, rfl, HM, HB⟩ := hrel
      by_cases hlt : j < kids.length
      · obtain ⟨x, hx⟩ : ∃ x, kids[j]? = some x := ⟨_, List.getElem?_eq_getElem hlt⟩
        obtain ⟨rfl, hlo, hghi, hg0, hl0, hsz, hrow⟩ := HA.out j x hx
        have hT := descL_take_succ hx
        have hTl := descL_take_le kids (j + 1)
        have hM := HM.out
        have hdx : desc x ≤ 1048576 := by omega
        obtain ⟨D, hD⟩ : ∃ D : Nat, D = desc x := ⟨_, rfl⟩
        have hMr : 0 ≤ M ∧ M + 2 + 2 * D ≤ 4194304 := by omega
        obtain ⟨hMa, hMb⟩ := hMr
        have HM' : Hid (M + 2 + 2 * D = m + 2 * descL (kids.take (j + 1))) := by show _ = _; omega
        have hrow' := hrow.under HB.out hrow.lt
        have hhe := HR.out j x hx
        rw [← hM] at hhe
        obtain ⟨A2, l2, p2, hC2⟩ := hhe.form
        have f0 : wr.cell? ⟨g, j * 3, none⟩ = some (.int .i64 M) := by rw [hrow'.cell, H0.out j x hx, hM]
        have f1 : wr.cell? ⟨g, j * 3 + 1, none⟩ = some (.int .i64 (M + 1)) := by rw [hrow'.cell, H1.out j x hx, hM]
        have f2 : wr.cell? ⟨g, j * 3 + 2, none⟩ = some (.slice A2 l2 p2) := by rw [hrow'.cell, H2.out j x hx, hC2]
        have hgl : g < wr.heap.size := hrow'.lt
        have m1 := mono_to HS.out j 0 (Nat.zero_le _) (by omega)
        have m2 := mono_to HS.out kids.length (j + 1) (by omega) (Nat.le_refl _)
        have HHe : Hid (Held wr (s j) (s (j + 1)) x (.slice A2 l2 p2) (M + 1 + 1)) := by
          have h := hhe.keep (w' := wr) fun q q1 q2 => by
            rcases Nat.lt_or_ge q w.heap.size with h | h
            · exact HB.out.block q h
            · omega
          rw [hC2] at h
          exact h
        have HX := Lib.hid hx
        have HD := Lib.hid hD
        have hww : w.heap.size ≤ wr.heap.size := HB.out.size
        clear hx hT hTl hM hD hrow hrow' hhe hC2 HM
        go_wp2_with fail
        refine (HIH.out j x HX.out (M + 1 + 1) (s j) (s (j + 1)) _ _ HHe.out (by omega) hdx (by omega) (by have := HD.out; omega)).mono ?_
        rintro e' w2 ⟨rfl, hb2⟩
        rw [← HD.out]
        have HB2 := Lib.hid (HB.out.trans (hb2.mono HB.out.size))
        clear hb2
        go_wp2_with fail
        go_roundw
        case rel => exact ⟨j + 1, M + 2 + 2 * D, by omega, by go_num, by go_num, HM', HB2⟩
        case measure => simp [intOf]; omega
      · have hjj : j = kids.length := by omega
        subst hjj
        have hM := HM.out
        rw [List.take_length] at hM
        have HMf := Lib.hid hM
        clear hM
        go_wp2_with fail
        go_ret
        exact ⟨ret_int (by rw [HMf.out]; rfl), HB.out⟩

set_option maxHeartbeats 400000 in
theorem markHeld_any (e : Ex) (c0 c1 c2 : Value) (m : Int) (lo hi : Nat) (w : World) (hO : Sep w lo hi e c0 c1 c2) (hhi : hi ≤ w.heap.size) (hd : desc e ≤ 1048576) (hm0 : 0 ≤ m) (hm : m + 2 * desc e ≤ 4194304) :
    Calls Try.prog 22 #[.agg #[c0, c1, c2], .int .i64 m] w fun e' w' => e' = .returned (.int .i64 (m + 2 * desc e)) ∧ Held w' lo hi e c2 m ∧ Kept lo hi w w' := by
  obtain ⟨n0, n1, a2, l2, cp2, rfl, rfl, rfl⟩ := hO.form
  obtain ⟨W1, hW1⟩ : ∃ W1, W1 = w.alloc (.cells #[.int .i64 n0, .int .i64 n1, .slice a2 l2 cp2] 25) := ⟨_, rfl⟩
  have hb0 : Below w.heap.size w W1 := by rw [hW1]; exact (Below.refl _ _).alloc (Nat.le_refl _) _
  have HSp := Lib.hid (hO.under hb0 hhi)
  have HKp : Hid (Kept lo hi w W1) := Kept.of_below hb0 _ _
  have HW1 := Lib.hid hW1
  have hz : w.heap.size ≤ W1.heap.size := hb0.size
  clear hW1 hb0 hO
  go_enter Try.func22, Try.ntmps22
  go_wp2_with fail
  rw [← HW1.out]
  refine (mh_any e m lo hi _ _ _ _ HSp.out (by omega) hd hm0 hm).mono ?_
  rintro e' w2 ⟨rfl, hh2, hk2⟩
  have HK2 := Lib.hid (HKp.out.trans hk2)
  have HH2 := Lib.hid hh2
  clear hk2 hh2
  go_wp2_with fail
  go_ret
  exact ⟨rfl, HH2.out, HK2.out⟩

set_option maxHeartbeats 400000 in
theorem heldExpr_any (e : Ex) (n0 n1 : Int) (a2 : Option Addr) (l2 cp2 : Nat) (m : Int) (lo hi : Nat) (w : World) (hO : Held w lo hi e (.slice a2 l2 cp2) m) (hhi : hi ≤ w.heap.size) (hd : desc e ≤ 1048576) (hm0 : 0 ≤ m) (hm : m + 2 * desc e ≤ 4194304) :
    Calls Try.prog 23 #[.agg #[.int .i64 n0, .int .i64 n1, .slice a2 l2 cp2], .int .i64 m] w fun e' w' => e' = .returned (.int .i64 (m + 2 * desc e)) ∧ Below w.heap.size w w' := by
  obtain ⟨W1, hW1⟩ : ∃ W1, W1 = w.alloc (.cells #[.int .i64 n0, .int .i64 n1, .slice a2 l2 cp2] 25) := ⟨_, rfl⟩
  have hb0 : Below w.heap.size w W1 := by rw [hW1]; exact (Below.refl _ _).alloc (Nat.le_refl _) _
  have HHe := Lib.hid (hO.keep (w' := W1) fun q _ q2 => hb0.block q (by omega))
  have HB0 := Lib.hid hb0
  have HW1 := Lib.hid hW1
  have hz : w.heap.size ≤ W1.heap.size := hb0.size
  clear hW1 hb0 hO
  go_enter Try.func23, Try.ntmps23
  go_wp2_with fail
  rw [← HW1.out]
  refine (hh_any e m lo hi _ _ HHe.out (by omega) hd hm0 hm).mono ?_
  rintro e' w2 ⟨rfl, hb2⟩
  have HB2 := Lib.hid (HB0.out.trans (hb2.mono HB0.out.size))
  clear hb2
  go_wp2_with fail
  go_ret
  exact ⟨rfl, HB2.out⟩

end Go.Proofs.Ytkcgjgdcmdjcfaa

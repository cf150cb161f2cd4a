/- The walks of laws.markExprS and laws.markExpr: numbers are written all over a tree; its slices stay. -/
import Derived.Test.YtkcgjgdcmdjcfaaW7
import Derived.Test.YtkcgjgdcmdjcfaaGr
namespace Go.Proofs.Ytkcgjgdcmdjcfaa
open Go.RowKit

/-- The skeleton of a tree: slices and somewhere numbers, in rows from lo on and below hi. -/
inductive Sk (w : World) (lo hi : Nat) : Ex → Value → Prop
  | mk (k v : Int) (kids : List Ex) (A : Option Addr) (cap g : Nat) (cs : Array Value) (C2 : Nat → Value)
      (hA : ∀ (i : Nat) (x : Ex), kids[i]? = some x → A = some ⟨g, 0, none⟩ ∧ lo ≤ g ∧ g < hi ∧ Row w g 25 cs)
      (h0 : ∀ (i : Nat) (x : Ex), kids[i]? = some x → ∃ n, cs[i * 3]? = some (.int .i64 n))
      (h1 : ∀ (i : Nat) (x : Ex), kids[i]? = some x → ∃ n, cs[i * 3 + 1]? = some (.int .i64 n))
      (h2 : ∀ (i : Nat) (x : Ex), kids[i]? = some x → cs[i * 3 + 2]? = some (C2 i))
      (hr : ∀ (i : Nat) (x : Ex), kids[i]? = some x → Sk w lo hi x (C2 i)) :
      Sk w lo hi (.node k v kids) (.slice A kids.length cap)

/-- Only numbers have been written, and only into the rows from lo on and below hi. -/
structure Scr (lo hi : Nat) (w w' : World) : Prop where
  os : w'.os = w.os
  tape : w'.tape = w.tape
  output : w'.output = w.output
  size : w.heap.size ≤ w'.heap.size
  other : ∀ g, g < w.heap.size → g < lo ∨ hi ≤ g → w'.heap[g]? = w.heap[g]?
  row : ∀ g cs, Row w g 25 cs → ∃ cs', Row w' g 25 cs' ∧ ∀ i : Nat, cs'[i]? = cs[i]? ∨ (i % 3 ≠ 2 ∧ ∃ n, cs'[i]? = some (.int .i64 n))

theorem Scr.refl (lo hi : Nat) (w : World) : Scr lo hi w w := ⟨rfl, rfl, rfl, Nat.le_refl _, fun _ _ _ => rfl, fun _ cs h => ⟨cs, h, fun _ => .inl rfl⟩⟩

theorem Scr.trans {lo hi : Nat} {a b c : World} (h : Scr lo hi a b) (k : Scr lo hi b c) : Scr lo hi a c := by
  refine ⟨k.os.trans h.os, k.tape.trans h.tape, k.output.trans h.output, Nat.le_trans h.size k.size, fun g hg hh => (k.other g (Nat.lt_of_lt_of_le hg h.size) hh).trans (h.other g hg hh), fun g cs hr => ?_⟩
  obtain ⟨c1, r1, e1⟩ := h.row g cs hr
  obtain ⟨c2, r2, e2⟩ := k.row g c1 r1
  refine ⟨c2, r2, fun i => ?_⟩
  rcases e2 i with e2 | e2
  · rcases e1 i with e1 | ⟨hi, n, e1⟩
    · exact .inl (e2.trans e1)
    · exact .inr ⟨hi, n, e2.trans e1⟩
  · exact .inr e2

theorem Scr.kept {lo hi : Nat} {w w' : World} (h : Scr lo hi w w') : Kept lo hi w w' := ⟨h.os, h.tape, h.output, h.size, h.other⟩
theorem Scr.below {lo hi : Nat} {w w' : World} (h : Scr lo hi w w') (hl : lo ≤ w.heap.size) : Below lo w w' :=
  ⟨h.os, h.tape, h.output, h.size, fun g hg => h.other g (by omega) (.inl hg)⟩

theorem Scr.set_ {lo hi g i : Nat} {w : World} (hg : lo ≤ g) (hh : g < hi) {cs : Array Value} (hr : Row w g 25 cs) (hs : i < cs.size) (h3 : i % 3 ≠ 2) (n : Int) : Scr lo hi w (w.setCell ⟨g, i, none⟩ (.int .i64 n)) := by
  refine ⟨rfl, rfl, rfl, by simp, fun q _ hq => Below.heap_setCell _ _ _ _ (by show ¬ _ = _; simp; omega), fun q cq hq => ?_⟩
  by_cases e : q = g
  · subst e
    have : cq = cs := by
      have h1 := hq
      have h2 := hr
      unfold Row at h1 h2
      rw [h1] at h2
      injection h2 with h2
      injection h2
    subst this
    refine ⟨_, hr.set_ i _, fun r => ?_⟩
    rw [Array.getElem?_setIfInBounds]
    by_cases e2 : i = r
    · subst e2
      exact .inr ⟨h3, n, by rw [if_pos rfl, if_pos hs]⟩
    · exact .inl (by rw [if_neg e2])
  · exact ⟨cq, hq.grown (grown_set w g i _) e, fun _ => .inl rfl⟩

theorem Sk.scr {w w' : World} {lo hi : Nat} (hs : Scr lo hi w w') {e : Ex} {c : Value} (h : Sk w lo hi e c) : Sk w' lo hi e c := by
  induction h with
  | mk k v kids A cap g cs C2 hA h0 h1 h2 hr ih =>
    by_cases hk : kids = []
    · subst hk
      exact .mk k v [] A cap g cs C2 (fun i x hx => by simp at hx) (fun i x hx => by simp at hx) (fun i x hx => by simp at hx) (fun i x hx => by simp at hx) (fun i x hx => by simp at hx)
    · obtain ⟨x0, hx0⟩ : ∃ x0, kids[0]? = some x0 := by
        cases kids with
        | nil => exact absurd rfl hk
        | cons a r => exact ⟨a, rfl⟩
      obtain ⟨cs', r', e'⟩ := hs.row g cs (hA 0 x0 hx0).2.2.2
      refine .mk k v kids A cap g cs' C2 (fun i x hx => ⟨(hA i x hx).1, (hA i x hx).2.1, (hA i x hx).2.2.1, r'⟩) (fun i x hx => ?_) (fun i x hx => ?_) (fun i x hx => ?_) ih
      · obtain ⟨n, hn⟩ := h0 i x hx
        rcases e' (i * 3) with e | ⟨_, m, e⟩
        · exact ⟨n, e.trans hn⟩
        · exact ⟨m, e⟩
      · obtain ⟨n, hn⟩ := h1 i x hx
        rcases e' (i * 3 + 1) with e | ⟨_, m, e⟩
        · exact ⟨n, e.trans hn⟩
        · exact ⟨m, e⟩
      · rcases e' (i * 3 + 2) with e | ⟨h, _⟩
        · exact e.trans (h2 i x hx)
        · omega

theorem Own.sk {w : World} {lo hi : Nat} {e : Ex} {c0 c1 c2 : Value} (h : Own w 25 lo hi e c0 c1 c2) : Sk w lo hi e c2 := by
  induction h with
  | mk k v kids A cap g cs C0 C1 C2 hl hA h0 h1 h2 hr ih =>
    exact .mk k v kids A cap g cs C2 hA (fun i x hx => by
      obtain ⟨n0, _, _, _, _, e0, _⟩ := (hr i x hx).form
      exact ⟨n0, by rw [← e0]; exact h0 i x hx⟩) (fun i x hx => by
      obtain ⟨_, n1, _, _, _, _, e1, _⟩ := (hr i x hx).form
      exact ⟨n1, by rw [← e1]; exact h1 i x hx⟩) h2 ih

theorem Sk.open_ {w : World} {lo hi : Nat} {k v : Int} {kids : List Ex} {c : Value} (h : Sk w lo hi (.node k v kids) c) : ∃ (A : Option Addr) (cap g : Nat) (C2 : Nat → Value), c = .slice A kids.length cap ∧
    ∀ (i : Nat) (x : Ex), kids[i]? = some x → A = some ⟨g, 0, none⟩ ∧ lo ≤ g ∧ g < hi ∧ (∃ cs, Row w g 25 cs ∧ i * 3 + 2 < cs.size) ∧ (∃ n, w.cell? ⟨g, i * 3, none⟩ = some (.int .i64 n)) ∧ (∃ n, w.cell? ⟨g, i * 3 + 1, none⟩ = some (.int .i64 n)) ∧ w.cell? ⟨g, i * 3 + 2, none⟩ = some (C2 i) ∧ Sk w lo hi x (C2 i) := by
  cases h with
  | mk _ _ _ A cap g cs C2 hA h0 h1 h2 hr =>
    refine ⟨A, cap, g, C2, rfl, fun i x hx => ?_⟩
    obtain ⟨a1, a2, a3, a4⟩ := hA i x hx
    refine ⟨a1, a2, a3, ⟨cs, a4, ?_⟩, ?_, ?_, ?_, hr i x hx⟩
    · have h := h2 i x hx
      rcases Nat.lt_or_ge (i * 3 + 2) cs.size with hlt | hge
      · exact hlt
      · rw [Array.getElem?_eq_none hge] at h; cases h
    · obtain ⟨n, hn⟩ := h0 i x hx
      exact ⟨n, by rw [a4.cell]; exact hn⟩
    · obtain ⟨n, hn⟩ := h1 i x hx
      exact ⟨n, by rw [a4.cell]; exact hn⟩
    · rw [a4.cell]; exact h2 i x hx

theorem Sk.form {w : World} {lo hi : Nat} {e : Ex} {c : Value} (h : Sk w lo hi e c) : ∃ A n cap, c = .slice A n cap := by
  cases h with
  | mk _ _ _ A cap g cs C2 hA h0 h1 h2 hr => exact ⟨A, _, cap, rfl⟩

def MkSaidB (e : Ex) : Prop := ∀ (m : Int) (lo hi : Nat) (c : Value) (w : World), Sk w lo hi e c → desc e ≤ 1048576 → 0 ≤ m → m + 2 * desc e ≤ 16777216 → Calls Try.prog 49 #[c, .int .i64 m] w fun e' w' => e' = .returned (.int .i64 (m + 2 * desc e)) ∧ Scr lo hi w w'

set_option maxHeartbeats 400000 in
set_option maxRecDepth 100000 in
theorem mkB_any : ∀ e : Ex, MkSaidB e := by
  intro e
  induction e using Ex.ind with
  | h k v kids ih =>
    intro m lo hi c w hS hd hm0 hm
    obtain ⟨A, cap, g, C2, rfl, hO⟩ := hS.open_
    have HIH := Lib.hid ih
    have HS := Lib.hid hS
    simp only [desc] at hd hm
    have hlen : kids.length ≤ 1048576 := by have := descL_length kids; omega
    clear ih hS hO
    go_enter Try.func49, Try.ntmps49
    go_wp2_with fail
    go_loopw [1, 5] (fun mm i wl => ∃ (j : Nat) (M : Int), j ≤ kids.length ∧ i = .int .i64 j ∧ mm = .int .i64 M ∧ Hid (M = m + 2 * descL (kids.take j)) ∧ Hid (Scr lo hi w wl)) (fun _ i _ => kids.length - (intOf i).toNat)
    case atStart => exact ⟨0, m, Nat.zero_le _, rfl, rfl, by show _ = _; simp [descL], Scr.refl _ _ _⟩
    case round =>
      obtain ⟨j, M, hj, rfl, rfl, HM, HSc⟩ := hrel
      by_cases hlt : j < kids.length
      · obtain ⟨x, hx⟩ : ∃ x, kids[j]? = some x := ⟨_, List.getElem?_eq_getElem hlt⟩
        have hT := descL_take_succ hx
        have hTl := descL_take_le kids (j + 1)
        have hM := HM.out
        have hdx : desc x ≤ 1048576 := by omega
        obtain ⟨D, hD⟩ : ∃ D : Nat, D = desc x := ⟨_, rfl⟩
        have hMr : 0 ≤ M ∧ M + 2 + 2 * D ≤ 16777216 := by omega
        obtain ⟨hMa, hMb⟩ := hMr
        have HM' : Hid (M + 2 + 2 * D = m + 2 * descL (kids.take (j + 1))) := by show _ = _; omega
        have HX := Lib.hid hx
        have HD := Lib.hid hD
        obtain ⟨A', cap', g', C2', hc, hO⟩ := (HS.out.scr HSc.out).open_
        injection hc with hc1 hc2 hc3
        subst hc1 hc3
        obtain ⟨rfl, hlo, hhi, ⟨cs, hrow, hcs⟩, ⟨n0, f0⟩, ⟨n1, f1⟩, f2, hsk⟩ := hO j x hx
        obtain ⟨A2, l2, p2, hC2⟩ := hsk.form
        rw [hC2] at f2
        have z0 := hrow.frozen (j * 3)
        have z1 := hrow.frozen (j * 3 + 1)
        have s1 := Scr.set_ (i := j * 3) hlo hhi hrow (by omega) (by omega) M
        have hrow1 := hrow.set_ (j * 3) (.int .i64 M)
        have s2 := s1.trans (Scr.set_ (i := j * 3 + 1) hlo hhi hrow1 (by simp; omega) (by omega) (M + 1))
        have hgl : g' < wr.heap.size := hrow.lt
        have HSk : Hid (Sk ((wr.setCell ⟨g', j * 3, none⟩ (.int .i64 M)).setCell ⟨g', j * 3 + 1, none⟩ (.int .i64 (M + 1))) lo hi x (.slice A2 l2 p2)) := by
          have h := hsk.scr s2
          rw [hC2] at h
          exact h
        have HSc2 := Lib.hid (HSc.out.trans s2)
        clear hx hT hTl hM hD hO s1 s2 hrow hrow1 hsk hcs HM hC2
        go_wp2_with fail
        refine (HIH.out j x HX.out (M + 1 + 1) lo hi _ _ HSk.out hdx (by omega) (by have := HD.out; omega)).mono ?_
        rintro e' w2 ⟨rfl, hs2⟩
        rw [← HD.out]
        have HSc3 := Lib.hid (HSc2.out.trans hs2)
        clear hs2
        go_wp2_with fail
        go_roundw
        case rel => exact ⟨j + 1, M + 2 + 2 * D, by omega, by go_num, by go_num, HM', HSc3⟩
        case measure => simp [intOf]; omega
      · have hjj : j = kids.length := by omega
        subst hjj
        have hM := HM.out
        rw [List.take_length] at hM
        have HMf := Lib.hid hM
        clear hM
        go_wp2_with fail
        go_ret
        exact ⟨ret_int (by rw [HMf.out]; rfl), HSc.out⟩

def MkSaid (e : Ex) : Prop := ∀ (m : Int) (lo hi : Nat) (c : Value) (w : World), Sk w lo hi e c → desc e ≤ 1048576 → 0 ≤ m → m + 2 * desc e ≤ 4194304 → Calls Try.prog 49 #[c, .int .i64 m] w fun e' w' => e' = .returned (.int .i64 (m + 2 * desc e)) ∧ Scr lo hi w w'
theorem mk_any (e : Ex) : MkSaid e := fun m lo hi c w hS hd hm0 hm => mkB_any e m lo hi c w hS hd hm0 (by omega)

end Go.Proofs.Ytkcgjgdcmdjcfaa

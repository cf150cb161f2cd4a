/- Variables read and written (Va, Vn in one). -/
import Derived.Test.YtldnegacgjijlaaF5Q
import Derived.Test.YtldnegacgjijlaaBn
import Derived.Test.YtldnegacgjijlaaVsQ
namespace Go.Proofs.Ytldnegacgjijlaa
open Go.RowKit

/-- Only the blocks a and b may have changed. -/
structure Two (a b : Nat) (w w' : World) : Prop where
  os : w'.os = w.os
  tape : w'.tape = w.tape
  output : w'.output = w.output
  size : w.heap.size ≤ w'.heap.size
  other : ∀ q, q < w.heap.size → q ≠ a → q ≠ b → w'.heap[q]? = w.heap[q]?
theorem Two.refl (a b : Nat) (w : World) : Two a b w w := ⟨rfl, rfl, rfl, Nat.le_refl _, fun _ _ _ _ => rfl⟩
theorem Two.trans {a b : Nat} {w w1 w2 : World} (h : Two a b w w1) (k : Two a b w1 w2) : Two a b w w2 :=
  ⟨k.os.trans h.os, k.tape.trans h.tape, k.output.trans h.output, Nat.le_trans h.size k.size, fun q h1 h2 h3 => (k.other q (Nat.lt_of_lt_of_le h1 h.size) h2 h3).trans (h.other q h1 h2 h3)⟩
theorem Two.left {a b : Nat} {w w' : World} (h : Kept a (a + 1) w w') : Two a b w w' := ⟨h.os, h.tape, h.output, h.size, fun q h1 h2 _ => h.other q h1 (by omega)⟩
theorem Two.right {a b : Nat} {w w' : World} (h : Kept b (b + 1) w w') : Two a b w w' := ⟨h.os, h.tape, h.output, h.size, fun q h1 _ h3 => h.other q h1 (by omega)⟩
theorem Two.below {a b B : Nat} {w w' : World} (h : Two a b w w') (ha : B ≤ a) (hb : B ≤ b) (hB : B ≤ w.heap.size) : Below B w w' := ⟨h.os, h.tape, h.output, h.size, fun q hq => h.other q (by omega) (by omega) (by omega)⟩
theorem Two.of_below {a b : Nat} {w w' : World} (h : Below w.heap.size w w') : Two a b w w' := ⟨h.os, h.tape, h.output, h.size, fun q h1 _ _ => h.block q h1⟩
theorem Row.two_ {a b g : Nat} {t : TypeId} {cs : Array Value} {w w' : World} (h : Row w g t cs) (hk : Two a b w w') (h1 : g ≠ a) (h2 : g ≠ b) : Row w' g t cs := (hk.other g h.lt h1 h2).trans h

set_option maxHeartbeats 1000000 in
set_option maxRecDepth 100000 in
theorem markOcc_any (e : Ex) (c0 c1 c2 : Value) (g : Nat) (t : TypeId) (m : Nat → Bool) (w : World) (hv : valid e = true) (hL : Lies w w.heap.size e c0 c1 c2) (hd : desc e ≤ 1048576) (hR : Row w g t (tri m)) :
    Calls Try.prog 104 #[.slice (some ⟨g, 0, none⟩) 3 3, .agg #[c0, c1, c2]] w fun e' w' => e' = .returned (.tuple #[]) ∧ Row w' g t (tri fun i => m i || occ 6 e i) ∧ Kept g (g + 1) w w' := by
  obtain ⟨n0, n1, a2, l2, cp2, rfl, rfl, rfl⟩ := hL.form
  obtain ⟨W1, hW1⟩ : ∃ W1, W1 = w.alloc (.cells #[.int .i64 n0, .int .i64 n1, .slice a2 l2 cp2] 99) := ⟨_, rfl⟩
  have hb0 : Below w.heap.size w W1 := by rw [hW1]; exact (Below.refl _ _).alloc (Nat.le_refl _) _
  have HL := Lib.hid (below_more hL hb0 hb0.size)
  have HR := Lib.hid (hR.under hb0 hR.lt)
  have HK0 : Hid (Kept g (g + 1) w W1) := Kept.of_below hb0 _ _
  have HW1 := Lib.hid hW1
  have HV := Lib.hid hv
  have hgW : g < W1.heap.size := HR.out.lt
  clear hL hW1 hb0 hv hR
  go_enter Try.func104, Try.ntmps104
  go_wp2_with fail
  rw [← HW1.out]
  refine (implVars_any e _ _ _ _ HL.out hd).mono ?_
  rintro e' w2 ⟨h | ⟨_, h, t', rfl, hh, hrh⟩, hb2⟩
  · obtain ⟨hf, _⟩ := h
    rw [HV.out] at hf
    cases hf
  have HRh := Lib.hid hrh
  have HRg := Lib.hid (HR.out.under hb2 HR.out.lt)
  have HK2 := Lib.hid (HK0.out.trans (Kept.of_below hb2 g (g + 1)))
  have hne : h ≠ g := by omega
  have hgl : g < w2.heap.size := HRg.out.lt
  clear hrh hb2 hh
  go_wp2_with fail
  go_loopw [9] (fun i wl => ∃ q : Nat, q ≤ 3 ∧ i = .int .i64 q ∧ Hid (Row wl g t (tri fun r => if r < q then m r || occ 6 e r else m r)) ∧ Hid (Row wl h t' (tri (occ 6 e))) ∧ Hid (Kept g (g + 1) w wl)) (fun i _ => 3 - (intOf i).toNat)
  case atStart => exact ⟨0, by omega, rfl, (by show Row _ _ _ _; rw [tri_congr (m' := m) fun i => by simp]; exact HRg.out), HRh, HK2⟩
  case round =>
    obtain ⟨q, hq, rfl, HA, HB, HK⟩ := hrel
    by_cases hq3 : q < 3
    · have c1 : wr.cell? ⟨g, q, none⟩ = some (.bool (m q)) := by rw [HA.out.cell, tri_get _ hq3, if_neg (Nat.lt_irrefl _)]
      have c2 : wr.cell? ⟨h, q, none⟩ = some (.bool (occ 6 e q)) := by rw [HB.out.cell, tri_get _ hq3]
      have z1 := HA.out.frozen q
      have l1 := HA.out.lt
      have l2' := HB.out.lt
      obtain ⟨a, ha⟩ : ∃ a, a = m q := ⟨_, rfl⟩
      obtain ⟨b, hb⟩ : ∃ b, b = occ 6 e q := ⟨_, rfl⟩
      rw [← ha] at c1
      rw [← hb] at c2
      have HST : Hid (∀ u : Bool, u = (a || b) → Row (wr.setCell ⟨g, q, none⟩ (.bool u)) g t (tri fun r => if r < q + 1 then m r || occ 6 e r else m r) ∧ Row (wr.setCell ⟨g, q, none⟩ (.bool u)) h t' (tri (occ 6 e)) ∧ Kept g (g + 1) w (wr.setCell ⟨g, q, none⟩ (.bool u))) := fun u hu => by
        have hk := Kept.set_ g (g + 1) wr (Nat.le_refl g) (Nat.lt_succ_self g) q (.bool u)
        refine ⟨?_, HB.out.kept hk (by omega), HK.out.trans hk⟩
        have h1 := HA.out.set_ q (.bool u)
        rw [tri_set _ _ hq3] at h1
        rw [tri_congr3 (m' := fun j => if j = q then u else if j < q then m j || occ 6 e j else m j)]
        · exact h1
        · intro i _
          by_cases e1 : i = q
          · subst e1
            rw [if_pos (by omega), if_pos rfl, hu, ha, hb]
          · rw [if_neg e1]
            by_cases e2 : i < q
            · rw [if_pos (by omega), if_pos e2]
            · rw [if_neg (by omega), if_neg e2]
      clear ha hb
      cases a
      all_goals
        (go_wp2_with fail
         go_roundw
         case rel => exact ⟨q + 1, by omega, by go_num, (HST.out _ (by simp)).1, (HST.out _ (by simp)).2.1, (HST.out _ (by simp)).2.2⟩
         case measure => simp [intOf]; omega)
    · have hqq : q = 3 := by omega
      subst hqq
      have HF : Hid (Row wr g t (tri fun i => m i || occ 6 e i)) := by
        show Row _ _ _ _
        rw [tri_congr3 (m' := fun r => if r < 3 then m r || occ 6 e r else m r)]
        · exact HA.out
        · intro i hi
          rw [if_pos hi]
      go_wp2_with fail
      refine bodyPost_end (results_none rfl _ _ _) rfl ?_
      exact ⟨rfl, HF.out, HK.out⟩

/-- What an edge reads, and what it writes. -/
def rdOne (g : Ex) (vr : Int) (vl : Ex) (i : Nat) : Bool := occ 6 g i || (decide (0 ≤ vr) && occ 6 vl i)
def wrOne (vr : Int) (i : Nat) : Bool := decide (vr = (i : Int))

theorem actOk_parts {g vl : Ex} {vr sy : Int} (h : actOk g vr vl sy = true) : valid g = true ∧ (vr = -1 ∨ (0 ≤ vr ∧ vr < 3 ∧ valid vl = true)) := by
  unfold actOk asgOk at h
  by_cases h1 : vr = -1
  · simp only [Bool.and_eq_true] at h
    exact ⟨h.1, .inl h1⟩
  · rw [if_neg h1] at h
    simp only [Bool.and_eq_true, decide_eq_true_eq] at h
    exact ⟨h.1, .inr ⟨h.2.1.1, h.2.1.2.1, h.2.1.2.2⟩⟩

set_option maxHeartbeats 1000000 in
set_option maxRecDepth 100000 in
theorem markVars_any (gd vl : Ex) (vr sy : Int) (n0 n1 m0 m1 : Int) (a2 b2 : Option Addr) (l2 cp2 k2 dp2 : Nat) (g h : Nat) (t u : TypeId) (mr mw : Nat → Bool) (w : World) (hok : actOk gd vr vl sy = true) (hg : Lies w w.heap.size gd (.int .i64 n0) (.int .i64 n1) (.slice a2 l2 cp2)) (hv : Lies w g vl (.int .i64 m0) (.int .i64 m1) (.slice b2 k2 dp2)) (hdg : desc gd ≤ 1048576) (hd : desc vl ≤ 1048576) (hR : Row w g t (tri mr)) (hS : Row w h u (tri mw)) (hgh : g ≠ h) :
    Calls Try.prog 57 #[.agg #[.int .i64 n0, .int .i64 n1, .slice a2 l2 cp2, .int .i64 vr, .int .i64 m0, .int .i64 m1, .slice b2 k2 dp2, .int .i64 sy], .slice (some ⟨g, 0, none⟩) 3 3, .slice (some ⟨h, 0, none⟩) 3 3] w fun e' w' => e' = .returned (.tuple #[]) ∧ Row w' g t (tri fun i => mr i || rdOne gd vr vl i) ∧ Row w' h u (tri fun i => mw i || wrOne vr i) ∧ Two g h w w' := by
  obtain ⟨hvg, hor⟩ := actOk_parts hok
  obtain ⟨W1, hW1⟩ : ∃ W1, W1 = w.alloc (.cells #[.int .i64 n0, .int .i64 n1, .slice a2 l2 cp2, .int .i64 vr, .int .i64 m0, .int .i64 m1, .slice b2 k2 dp2, .int .i64 sy] 106) := ⟨_, rfl⟩
  have hb0 : Below w.heap.size w W1 := by rw [hW1]; exact (Below.refl _ _).alloc (Nat.le_refl _) _
  have HRx : Hid (Row W1 w.heap.size 106 #[.int .i64 n0, .int .i64 n1, .slice a2 l2 cp2, .int .i64 vr, .int .i64 m0, .int .i64 m1, .slice b2 k2 dp2, .int .i64 sy]) := by rw [hW1]; exact Row.new _ _ _
  have HG := Lib.hid (below_more hg hb0 hb0.size)
  have HV := Lib.hid (hv.under (hb0.mono (Nat.le_of_lt hR.lt)))
  have HR := Lib.hid (hR.under hb0 hR.lt)
  have HS := Lib.hid (hS.under hb0 hS.lt)
  have HT0 : Hid (Two g h w W1) := Two.of_below hb0
  have HVg := Lib.hid hvg
  have HW1 := Lib.hid hW1
  have hgl : g < w.heap.size := hR.lt
  have hhl : h < w.heap.size := hS.lt
  clear hg hv hW1 hb0 hR hS hok hvg
  go_enter Try.func57, Try.ntmps57
  go_wp2_with fail
  rw [← HW1.out]
  refine (markOcc_any gd _ _ _ g t mr _ HVg.out HG.out hdg HR.out).mono ?_
  rintro e' w2 ⟨rfl, hr2, hk2⟩
  have HR2 := Lib.hid hr2
  have HS2 := Lib.hid (HS.out.kept hk2 (by omega))
  have hx2 := HRx.out.kept hk2 (by omega)
  obtain ⟨c0, c1, c2, c3, c4, c5, c6, c7⟩ := hx2.eight
  have HX2 := Lib.hid hx2
  have HV2 := Lib.hid (HV.out.under (hk2.below (Nat.le_refl _) (by have := HRx.out.lt; omega)))
  have HT2 := Lib.hid (HT0.out.trans (Two.left (b := h) hk2))
  have hxl := hx2.lt
  clear hr2 hk2 hx2
  rcases hor with rfl | ⟨hv0, hv3, hvv⟩
  · have HF1 : Hid (Row w2 g t (tri fun i => mr i || rdOne gd (-1) vl i)) := by
      show Row _ _ _ _
      rw [tri_congr (m' := fun i => mr i || occ 6 gd i) fun i => by unfold rdOne; simp]
      exact HR2.out
    have HF2 : Hid (Row w2 h u (tri fun i => mw i || wrOne (-1) i)) := by
      show Row _ _ _ _
      rw [tri_congr (m' := mw) fun i => by unfold wrOne; rw [decide_eq_false (by omega), Bool.or_false]]
      exact HS2.out
    go_wp2_with fail
    refine bodyPost_end (results_none rfl _ _ _) rfl ?_
    exact ⟨rfl, HF1.out, HF2.out, HT2.out⟩
  · have HVv := Lib.hid hvv
    have hne : ¬ vr = -1 := by omega
    obtain ⟨k, rfl⟩ : ∃ k : Nat, vr = k := ⟨vr.toNat, by omega⟩
    have hk3 : k < 3 := by omega
    clear hvv
    go_wp2_with fail
    refine (markOcc_any vl _ _ _ g t (fun i => mr i || occ 6 gd i) _ HVv.out (HV2.out.more (by omega)) hd HR2.out).mono ?_
    rintro e' w3 ⟨rfl, hr3, hk3'⟩
    have HS3 := Lib.hid (HS2.out.kept hk3' (by omega))
    have hx3 := HX2.out.kept hk3' (by omega)
    clear c0 c1 c2 c3 c4 c5 c6 c7
    obtain ⟨c0, c1, c2, c3, c4, c5, c6, c7⟩ := hx3.eight
    have ck : w3.cell? ⟨h, k, none⟩ = some (.bool (mw k)) := by rw [HS3.out.cell, tri_get _ hk3]
    have zk := HS3.out.frozen k
    have hs := Kept.set_ h (h + 1) w3 (Nat.le_refl h) (Nat.lt_succ_self h) k (.bool true)
    have HF1 : Hid (Row (w3.setCell ⟨h, k, none⟩ (.bool true)) g t (tri fun i => mr i || rdOne gd (k : Int) vl i)) := by
      show Row _ _ _ _
      rw [tri_congr (m' := fun i => (mr i || occ 6 gd i) || occ 6 vl i) fun i => by unfold rdOne; rw [decide_eq_true (by omega), Bool.true_and, Bool.or_assoc]]
      exact hr3.kept hs (by omega)
    have HF2 : Hid (Row (w3.setCell ⟨h, k, none⟩ (.bool true)) h u (tri fun i => mw i || wrOne (k : Int) i)) := by
      show Row _ _ _ _
      have h1 := HS3.out.set_ k (.bool true)
      rw [tri_set _ _ hk3] at h1
      rw [tri_congr (m' := fun j => if j = k then true else mw j) fun i => by
        unfold wrOne
        by_cases e : i = k
        · subst e; rw [if_pos rfl, decide_eq_true rfl, Bool.or_true]
        · rw [if_neg e, decide_eq_false (by omega), Bool.or_false]]
      exact h1
    have HF3 := Lib.hid (HT2.out.trans ((Two.left (b := h) hk3').trans (Two.right (a := g) hs)))
    have l3 := HS3.out.lt
    clear hr3 hk3' hx3 hs
    go_wp2_with fail
    refine bodyPost_end (results_none rfl _ _ _) rfl ?_
    exact ⟨rfl, HF1.out, HF2.out, HF3.out⟩


theorem anys_take_succ {X : Type} {f : X → Bool} {l : List X} {i : Nat} {x : X} (h : l[i]? = some x) : (l.take (i + 1)).any f = ((l.take i).any f || f x) := by
  have hi := (List.getElem?_eq_some_iff.1 h).1
  rw [List.take_succ_eq_append_getElem hi, (List.getElem?_eq_some_iff.1 h).2]
  simp
def rdE (es : List Ed) (i : Nat) : Bool := es.any fun e => rdOne e.g e.vr e.vl i
def wrE (es : List Ed) (i : Nat) : Bool := es.any fun e => wrOne e.vr i
def rdS (ps : List Pr) (i : Nat) : Bool := ps.any fun p => rdE p.es i
def wrS (ps : List Pr) (i : Nat) : Bool := ps.any fun p => wrE p.es i
def vN (s : Sy) : Nat := if syOk s then 3 else 0
/-- Two slices of truth values in rows apart. -/
def VPost (s : Sy) (w : World) (e' : Ending) (w' : World) : Prop :=
  ∃ (S U : Value) (a b c d : Nat), e' = .returned (.tuple #[S, U]) ∧ BN (vN s) w' a b S (rdS s.ps) ∧ BN (vN s) w' c d U (wrS s.ps) ∧ (b ≤ c ∨ d ≤ a) ∧ w.heap.size ≤ a ∧ b ≤ w'.heap.size ∧ w.heap.size ≤ c ∧ d ≤ w'.heap.size ∧ Below w.heap.size w w'
theorem tri_bn {w : World} {g : Nat} {t : TypeId} {m : Nat → Bool} (h : Row w g t (tri m)) : BN 3 w g (g + 1) (.slice (some ⟨g, 0, none⟩) 3 3) m := ⟨_, 3, g, t, rfl, by omega, fun _ _ => ⟨rfl, Nat.le_refl _, Nat.lt_succ_self _, _, h, fun _ hq => tri_get m hq⟩⟩
theorem vpost_no {s : Sy} {w w' : World} (h : syOk s = false) (hb : Below w.heap.size w w') (A A' : Option Addr) (cap cap' : Nat) : VPost s w (.returned (.tuple #[.slice A 0 cap, .slice A' 0 cap'])) w' :=
  ⟨_, _, w.heap.size, w.heap.size, w.heap.size, w.heap.size, rfl, by unfold vN; rw [h]; exact BN.empty _ _ _ _ _ _, by unfold vN; rw [h]; exact BN.empty _ _ _ _ _ _, .inl (Nat.le_refl _), Nat.le_refl _, hb.size, Nat.le_refl _, hb.size, hb⟩
theorem vpost_yes {s : Sy} {w w' : World} {g h : Nat} {t u : TypeId} (hs : syOk s = true) (hb : Below w.heap.size w w') (hr : Row w' g t (tri (rdS s.ps))) (hw : Row w' h u (tri (wrS s.ps))) (hgh : g ≠ h) (hg : w.heap.size ≤ g) (hh : w.heap.size ≤ h) : VPost s w (.returned (.tuple #[.slice (some ⟨g, 0, none⟩) 3 3, .slice (some ⟨h, 0, none⟩) 3 3])) w' :=
  ⟨_, _, g, g + 1, h, h + 1, rfl, by unfold vN; rw [hs]; exact tri_bn hr, by unfold vN; rw [hs]; exact tri_bn hw, by omega, hg, hr.lt, hh, hw.lt, hb⟩
theorem edOk_act {e : Ed} {n : Int} (h : edOk e n = true) : actOk e.g e.vr e.vl e.sy = true := by
  unfold edOk at h
  simp only [Bool.and_eq_true] at h
  exact h.2.2
theorem prOk_ed {p : Pr} {k : Nat} {e : Ed} (h : prOk p = true) (he : p.es[k]? = some e) : edOk e p.loc = true := by
  unfold prOk at h
  simp only [Bool.and_eq_true, List.all_eq_true] at h
  exact h.1 e (List.mem_of_getElem? he)
theorem syOk_prs {s : Sy} {k : Nat} {x : Pr} (h : syOk s = true) (hx : s.ps[k]? = some x) : prOk x = true := by
  unfold syOk at h
  simp only [Bool.and_eq_true, List.all_eq_true] at h
  exact h.1 x (List.mem_of_getElem? hx)
theorem tri_false (f : Nat → Bool) (h : ∀ i, f i = false) : tri f = tri (fun _ => false) := tri_congr h

end Go.Proofs.Ytldnegacgjijlaa

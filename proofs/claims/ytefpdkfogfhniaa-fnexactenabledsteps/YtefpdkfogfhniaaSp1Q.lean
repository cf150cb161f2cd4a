/- The walk of spec.l3Ready. -/
import Derived.Test.YtefpdkfogfhniaaSp0Q
import Derived.Deep.RegionHeld3
import Derived.Deep.RegionWith
import Derived.BigQuiet
import Derived.Deep.QuietTactic
import Derived.Deep.Cut
import Derived.Deep.CutRange
namespace Go.Proofs.Ytefpdkfogfhniaa
open Go.RowKit

/-- An edge of a process, found in memory. -/
theorem Have.edge {e : Sy} {C : Nat → Value} {f : St} {D : Nat → Value} {w : World} (hH : Have e C f D w) {i k : Nat} {p : Pr} {d : Ed} (hp : e.ps[i]? = some p) (hd : p.es[k]? = some d) :
    ∃ (cap1 b1 off1 : Nat) (A2 : Option Addr) (cap2 b2 off2 : Nat) (n0 n1 : Int) (a2 : Option Addr) (l2 cp2 : Nat) (m0 m1 : Int) (a3 : Option Addr) (l3 cp3 : Nat), C 1 = .slice (some ⟨b1, off1, none⟩) e.ps.length cap1 ∧ b1 < w.heap.size ∧ w.cell? ⟨b1, off1 + i * 2, none⟩ = some (.int .i64 p.loc) ∧ w.cell? ⟨b1, off1 + i * 2 + 1, none⟩ = some (.slice A2 p.es.length cap2) ∧
      A2 = some ⟨b2, off2, none⟩ ∧ b2 < w.heap.size ∧ (w.cell? ⟨b2, off2 + k * 10, none⟩ = some (.int .i64 d.fr) ∧ w.cell? ⟨b2, off2 + k * 10 + 1, none⟩ = some (.int .i64 d.to) ∧ w.cell? ⟨b2, off2 + k * 10 + 2, none⟩ = some (.int .i64 n0) ∧ w.cell? ⟨b2, off2 + k * 10 + 3, none⟩ = some (.int .i64 n1) ∧ w.cell? ⟨b2, off2 + k * 10 + 4, none⟩ = some (.slice a2 l2 cp2) ∧ w.cell? ⟨b2, off2 + k * 10 + 5, none⟩ = some (.int .i64 d.vr) ∧ w.cell? ⟨b2, off2 + k * 10 + 6, none⟩ = some (.int .i64 m0) ∧ w.cell? ⟨b2, off2 + k * 10 + 7, none⟩ = some (.int .i64 m1) ∧ w.cell? ⟨b2, off2 + k * 10 + 8, none⟩ = some (.slice a3 l3 cp3) ∧ w.cell? ⟨b2, off2 + k * 10 + 9, none⟩ = some (.int .i64 d.sy)) ∧
      Lies w w.heap.size d.g (.int .i64 n0) (.int .i64 n1) (.slice a2 l2 cp2) ∧ Lies w w.heap.size d.vl (.int .i64 m0) (.int .i64 m1) (.slice a3 l3 cp3) := by
  obtain ⟨ini, ps⟩ := e
  obtain ⟨_, A1, cap1, b1, off1, E1, q1, _, hP⟩ := sy_lies hH.sy
  obtain ⟨rfl, hb1, gc, gl⟩ := hP i p hp
  obtain ⟨loc, es⟩ := p
  obtain ⟨u0, A2, cap2, b2, off2, E2, u1, _, hE⟩ := pr_lies gl
  obtain ⟨rfl, hb2, hc, hl⟩ := hE k d hd
  obtain ⟨fr, t0, g, vr, vl, sy⟩ := d
  obtain ⟨e0, e1, hg, e5, hv, e9⟩ := ed_lies hl
  obtain ⟨n0, n1, a2, l2, cp2, q2, q3, q4⟩ := hg.form
  obtain ⟨m0, m1, a3, l3, cp3, q6, q7, q8⟩ := hv.form
  rw [q2, q3, q4] at hg
  rw [q6, q7, q8] at hv
  have c0 := gc 0 (by decide)
  have c1 := gc 1 (by decide)
  rw [u0] at c0
  rw [u1] at c1
  have k0 := hc 0 (by decide)
  have k1 := hc 1 (by decide)
  have k2 := hc 2 (by decide)
  have k3 := hc 3 (by decide)
  have k4 := hc 4 (by decide)
  have k5 := hc 5 (by decide)
  have k6 := hc 6 (by decide)
  have k7 := hc 7 (by decide)
  have k8 := hc 8 (by decide)
  have k9 := hc 9 (by decide)
  rw [e0] at k0
  rw [e1] at k1
  rw [q2] at k2
  rw [q3] at k3
  rw [q4] at k4
  rw [e5] at k5
  rw [q6] at k6
  rw [q7] at k7
  rw [q8] at k8
  rw [e9] at k9
  exact ⟨cap1, b1, off1, _, cap2, b2, off2, n0, n1, a2, l2, cp2, m0, m1, a3, l3, cp3, q1, hb1, c0, c1, rfl, hb2, ⟨k0, k1, k2, k3, k4, k5, k6, k7, k8, k9⟩, hg, hv⟩

/-- The location of a process and the values, found in memory. -/
theorem Have.state {e : Sy} {C : Nat → Value} {f : St} {D : Nat → Value} {w : World} (hH : Have e C f D w) {i : Nat} (hi : i < e.ps.length) :
    ∃ (cap b off : Nat) (A4 : Option Addr) (cap4 b4 off4 : Nat), D 0 = .slice (some ⟨b, off, none⟩) e.ps.length cap ∧ b < w.heap.size ∧ w.cell? ⟨b, off + i, none⟩ = some (.int .i64 (f.locs.getD i 0)) ∧ D 1 = .slice A4 3 cap4 ∧ Vals w A4 b4 off4 f.vals ∧ f.vals.length = 3 := by
  obtain ⟨h1, h2, h3⟩ := stOk_sy hH.ok
  obtain ⟨locs, vals⟩ := f
  obtain ⟨⟨A, cap, b, off, E, q0, _, hO⟩, A4, cap4, b4, off4, E4, q1, _, hO4⟩ := sta_lies hH.st
  dsimp only at h2 h3
  have hz : locs[i]? = some (locs.getD i 0) := by simp [List.getD, List.getElem?_eq_getElem (show i < locs.length by omega)]
  obtain ⟨rfl, hb, hc⟩ := ints_of hO i _ hz
  have hV := vals_of (w := w) h3.symm (ints_of hO4)
  rw [h2] at q0
  have hl : vals.length = 3 := hV.len
  rw [hl] at q1
  exact ⟨cap, b, off, A4, cap4, b4, off4, q0, hb, hc, q1, hV, hl⟩

set_option maxHeartbeats 2000000 in
set_option maxRecDepth 100000 in
theorem readyS_any (e : Sy) (C : Nat → Value) (f : St) (D : Nat → Value) (w : World) (hH : Have e C f D w) (i k : Nat) (p : Pr) (d : Ed) (hp : e.ps[i]? = some p) (hd : p.es[k]? = some d) :
    Calls Try.prog 60 #[.agg #[C 0, C 1], .agg #[D 0, D 1], .int .i64 i, .int .i64 k] w fun e' w' => e' = .returned (.bool (rdyB f i d)) ∧ Below w.heap.size w w' := by
  have hi : i < e.ps.length := (List.getElem?_eq_some_iff.1 hp).1
  have hk : k < p.es.length := (List.getElem?_eq_some_iff.1 hd).1
  have h3 : e.ps.length ≤ 3 := syOk_le (stOk_sy hH.ok).1
  have hpo := (syOk_pr (stOk_sy hH.ok).1 hp).1
  have h6 := prOk_le hpo
  have HVg := Lib.hid (prOk_edge hpo hd).1
  obtain ⟨cap1, b1, off1, A2, cap2, b2, off2, n0, n1, a2, l2, cp2, m0, m1, a3, l3, cp3, q1, hb1, _, c1, rfl, hb2, ⟨k0, k1, k2, k3, k4, k5, k6, k7, k8, k9⟩, hg, _⟩ := hH.edge hp hd
  obtain ⟨cap, b, off, A4, cap4, b4, off4, r0, hb, hc, r1, hV, hl⟩ := hH.state hi
  have HR : Hid (rdyB f i d = (decide (d.fr = f.locs.getD i 0) && decide (ev f.vals 6 d.g ≠ 0))) := rfl
  obtain ⟨z, hz⟩ : ∃ z, z = f.locs.getD i 0 := ⟨_, rfl⟩
  obtain ⟨v, hv⟩ : ∃ v, v = ev f.vals 6 d.g := ⟨_, rfl⟩
  obtain ⟨fr, t0, gd, vr, vl, sy⟩ := d
  dsimp only at k0 k1 k5 k9 HR hg HVg hv
  rw [← hz] at hc HR
  rw [← hv] at HR
  obtain ⟨c0', hc0'⟩ : ∃ c0, c0 = C 0 := ⟨_, rfl⟩
  rw [q1, r0, r1, ← hc0']
  obtain ⟨W1, hW1⟩ : ∃ W1, W1 = (w.alloc (.cells #[c0', .slice (some ⟨b1, off1, none⟩) e.ps.length cap1] 33)).alloc (.cells #[.slice (some ⟨b, off, none⟩) e.ps.length cap, .slice A4 3 cap4] 28) := ⟨_, rfl⟩
  have hrows := rows2 w 33 28 #[c0', .slice (some ⟨b1, off1, none⟩) e.ps.length cap1] #[.slice (some ⟨b, off, none⟩) e.ps.length cap, .slice A4 3 cap4]
  rw [← hW1] at hrows
  obtain ⟨hra, hrb, hb0⟩ := hrows
  obtain ⟨W2, hW2⟩ : ∃ W2, W2 = W1.alloc (.cells #[.int .i64 fr, .int .i64 t0, .int .i64 n0, .int .i64 n1, .slice a2 l2 cp2, .int .i64 vr, .int .i64 m0, .int .i64 m1, .slice a3 l3 cp3, .int .i64 sy] 93) := ⟨_, rfl⟩
  have hr2 : Row W2 W1.heap.size 93 #[.int .i64 fr, .int .i64 t0, .int .i64 n0, .int .i64 n1, .slice a2 l2 cp2, .int .i64 vr, .int .i64 m0, .int .i64 m1, .slice a3 l3 cp3, .int .i64 sy] := by rw [hW2]; exact Row.new _ _ _
  have hb12 : Below W1.heap.size W1 W2 := by rw [hW2]; exact (Below.refl _ _).alloc (Nat.le_refl _) _
  have hb02 : Below w.heap.size w W2 := hb0.trans (hb12.mono hb0.size)
  have HB2 := Lib.hid hb02
  have HG2 := Lib.hid (below_more hg hb02 hb02.size)
  have HV2 := Lib.hid (hV.under hb02)
  have hrb2 := hrb.under hb12 hrb.lt
  have HSk : Hid (∀ W, Below W2.heap.size W2 W → W.cell? ⟨W1.heap.size, 0, none⟩ = some (.int .i64 fr) ∧ W.cell? ⟨W1.heap.size, 2, none⟩ = some (.int .i64 n0) ∧ W.cell? ⟨W1.heap.size, 3, none⟩ = some (.int .i64 n1) ∧ W.cell? ⟨W1.heap.size, 4, none⟩ = some (.slice a2 l2 cp2) ∧ W.cell? ⟨w.heap.size + 1, 0, none⟩ = some (.slice (some ⟨b, off, none⟩) e.ps.length cap) ∧ W.cell? ⟨w.heap.size + 1, 1, none⟩ = some (.slice A4 3 cap4) ∧ W.cell? ⟨b, off + i, none⟩ = some (.int .i64 z)) := fun W hW => by
    have x2 := hr2.under hW hr2.lt
    have x1 := hrb2.under hW hrb2.lt
    refine ⟨x2.cell 0, x2.cell 2, x2.cell 3, x2.cell 4, x1.cell 0, x1.cell 1, ?_⟩
    rw [Below.cell (p := ⟨b, off + i, none⟩) hW (Nat.lt_of_lt_of_le hb hb02.size), Below.cell (p := ⟨b, off + i, none⟩) hb02 hb]
    exact hc
  have hS2 := HSk.out W2.drew (Below.refl _ _).drew
  have HW1 := Lib.hid hW1
  have HW2 := Lib.hid hW2
  obtain ⟨_, s1⟩ := hra.two
  have hcA : ∀ (q o : Nat), q < w.heap.size → W1.cell? ⟨q, o, none⟩ = w.cell? ⟨q, o, none⟩ := fun q o hq => hb0.cell (p := ⟨q, o, none⟩) hq
  rw [← hcA b1 _ hb1] at c1
  rw [← hcA b2 _ hb2] at k0 k1 k2 k3 k4 k5 k6 k7 k8 k9
  have HCl : Hid (Calls Try.prog 72 #[.agg #[.int .i64 n0, .int .i64 n1, .slice a2 l2 cp2], .slice A4 3 cap4] W2.drew fun e' w' => e' = .returned (.int .i64 v) ∧ Below W2.heap.size W2 w') := by
    have h0 := l1Eval_any f.vals 6 gd _ _ _ A4 b4 off4 cap4 W2.drew (shape_of_valid HVg.out.symm) (HG2.out.under (Below.refl _ _).drew) (HV2.out.under (Below.refl _ _).drew)
    rw [← hv] at h0
    exact h0.mono fun e' w' ⟨a, b⟩ => ⟨a, (Below.refl _ _).drew.trans b⟩
  clear hH hp hd hpo hg hV hz hv hc hb0 hra hrb hrb2 hr2 hb12 hb02 hW1 hW2 hcA q1 r0 r1 hc0' hb hb1 hb2
  go_enter Try.func60, Try.ntmps60
  go_upto_region 1 with fail
  rw [← HW1.out]
  go_upto_region 2 with fail
  rw [← HW2.out]
  by_cases heq : fr = z
  · subst heq
    by_cases hv0 : v = 0
    all_goals
      (go_region_with (first
        | ((with_reducible refine HCl.out.mono ?_)
           rintro e' w3 ⟨rfl, hb3⟩
           have HB3 : Hid (Below w.heap.size w w3) := HB2.out.trans (hb3.mono HB2.out.size)
           clear hb3)))
    all_goals
      (go_wp2_with fail
       go_ret
       refine ⟨?_, HB3.out⟩
       rw [HR.out]
       simp [go_sem, Act.put, hv0])
  · have t1 : (fr == z) = false := by rw [beq_eq_false_iff_ne]; exact heq
    have t2 : decide (fr = z) = false := by simp [heq]
    first
      | go_region_with (fail)
      | fail
    all_goals
      (go_wp2_with fail
       go_ret
       refine ⟨?_, HB2.out.drew⟩
       rw [HR.out]
       simp [go_sem, heq])

end Go.Proofs.Ytefpdkfogfhniaa

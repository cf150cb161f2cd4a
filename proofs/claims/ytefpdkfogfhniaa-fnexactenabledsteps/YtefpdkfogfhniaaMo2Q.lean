/- The walk of impl.momentOf. -/
import Derived.Test.YtefpdkfogfhniaaMp1Q
import Derived.Test.YtefpdkfogfhniaaJ11
import Derived.Carry
namespace Go.Proofs.Ytefpdkfogfhniaa
open Go.RowKit

/-- A system's processes and their edges, found in memory, with all cells. -/
theorem Have.all {e : Sy} {C : Nat → Value} {f : St} {D : Nat → Value} {w : World} (hH : Have e C f D w) :
    ∃ (A1 : Option Addr) (cap1 b1 off1 : Nat), C 1 = .slice A1 e.ps.length cap1 ∧ ∀ (i : Nat) (p : Pr), e.ps[i]? = some p → A1 = some ⟨b1, off1, none⟩ ∧ b1 < w.heap.size ∧ w.cell? ⟨b1, off1 + i * 2, none⟩ = some (.int .i64 p.loc) ∧
      ∃ (A2 : Option Addr) (cap2 b2 off2 : Nat), w.cell? ⟨b1, off1 + i * 2 + 1, none⟩ = some (.slice A2 p.es.length cap2) ∧ ∀ (k : Nat) (d : Ed), p.es[k]? = some d → A2 = some ⟨b2, off2, none⟩ ∧ b2 < w.heap.size ∧
        ∃ (n0 n1 : Int) (a2 : Option Addr) (l2 cp2 : Nat) (m0 m1 : Int) (a3 : Option Addr) (l3 cp3 : Nat), (w.cell? ⟨b2, off2 + k * 10, none⟩ = some (.int .i64 d.fr) ∧ w.cell? ⟨b2, off2 + k * 10 + 1, none⟩ = some (.int .i64 d.to) ∧ w.cell? ⟨b2, off2 + k * 10 + 2, none⟩ = some (.int .i64 n0) ∧ w.cell? ⟨b2, off2 + k * 10 + 3, none⟩ = some (.int .i64 n1) ∧ w.cell? ⟨b2, off2 + k * 10 + 4, none⟩ = some (.slice a2 l2 cp2) ∧ w.cell? ⟨b2, off2 + k * 10 + 5, none⟩ = some (.int .i64 d.vr) ∧ w.cell? ⟨b2, off2 + k * 10 + 6, none⟩ = some (.int .i64 m0) ∧ w.cell? ⟨b2, off2 + k * 10 + 7, none⟩ = some (.int .i64 m1) ∧ w.cell? ⟨b2, off2 + k * 10 + 8, none⟩ = some (.slice a3 l3 cp3) ∧ w.cell? ⟨b2, off2 + k * 10 + 9, none⟩ = some (.int .i64 d.sy)) ∧
          Lies w w.heap.size d.g (.int .i64 n0) (.int .i64 n1) (.slice a2 l2 cp2) := by
  have hH' := hH
  obtain ⟨ini, ps⟩ := e
  obtain ⟨_, A1, cap1, b1, off1, E1, q1, _, hP⟩ := sy_lies hH.sy
  refine ⟨A1, cap1, b1, off1, q1, fun i p hp => ?_⟩
  obtain ⟨r, hb1, gc, gl⟩ := hP i p hp
  obtain ⟨loc, es⟩ := p
  obtain ⟨u0, A2, cap2, b2, off2, E2, u1, _, hE⟩ := pr_lies gl
  have c0 := gc 0 (by decide)
  have c1 := gc 1 (by decide)
  rw [u0] at c0
  rw [u1] at c1
  refine ⟨r, hb1, c0, A2, cap2, b2, off2, c1, fun k d hd => ?_⟩
  obtain ⟨r2, hb2, hc, hl⟩ := hE k d hd
  obtain ⟨fr, t0, g, vr, vl, sy⟩ := d
  obtain ⟨e0, e1, hg, e5, hv, e9⟩ := ed_lies hl
  obtain ⟨n0, n1, a2, l2, cp2, q2, q3, q4⟩ := hg.form
  obtain ⟨m0, m1, a3, l3, cp3, q6, q7, q8⟩ := hv.form
  rw [q2, q3, q4] at hg
  have k0 := hc 0 (by decide)
  have k1 := hc 1 (by decide)
  have k2 := hc 2 (by decide)
  have k3 := hc 3 (by decide)
  have k4 := hc 4 (by decide)
  have k5 := hc 5 (by decide)
  have k6 := hc 6 (by decide)
  have k7 := hc 7 (by decide)
  have k8 := hc 8 (by decide)
  have k9 := hc 9 (by decide)
  rw [e0] at k0
  rw [e1] at k1
  rw [q2] at k2
  rw [q3] at k3
  rw [q4] at k4
  rw [e5] at k5
  rw [q6] at k6
  rw [q7] at k7
  rw [q8] at k8
  rw [e9] at k9
  exact ⟨r2, hb2, n0, n1, a2, l2, cp2, m0, m1, a3, l3, cp3, ⟨k0, k1, k2, k3, k4, k5, k6, k7, k8, k9⟩, hg⟩

theorem Have.forms {e : Sy} {C : Nat → Value} {f : St} {D : Nat → Value} {w : World} (hH : Have e C f D w) : (∃ (A : Option Addr) (l cap : Nat), C 0 = .slice A l cap) ∧ (∃ (A : Option Addr) (l cap : Nat), D 0 = .slice A l cap) ∧ ∃ (A : Option Addr) (l cap : Nat), D 1 = .slice A l cap := by
  obtain ⟨ini, ps⟩ := e
  obtain ⟨locs, vals⟩ := f
  obtain ⟨⟨A0, cap0, _, _, _, q0, _⟩, _⟩ := sy_lies hH.sy
  obtain ⟨⟨A, cap, b, off, E, p0, _, hO⟩, A4, cap4, b4, off4, E4, p1, _, hO4⟩ := sta_lies hH.st
  exact ⟨⟨_, _, _, q0⟩, ⟨_, _, _, p0⟩, ⟨_, _, _, p1⟩⟩

/-- The receivers that edge k of process i brings at channel c. -/
def rcE (f : St) (c : Int) (i k : Nat) (d : Ed) : List Int := if d.sy < 0 && rdyB f i d && decide (-d.sy = c) then [(k : Int)] else []
/-- The receivers found up to edge k of process j. -/
def rcN (e : Sy) (f : St) (j k : Nat) (p c : Int) : List Int :=
  if p < 0 then [] else match e.ps[p.toNat]? with
    | none => []
    | some pr => if p.toNat < j then acc (rcE f c p.toNat) pr.es else if p.toNat = j then acc (rcE f c j) (pr.es.take k) else []
theorem rcN_zero (e : Sy) (f : St) (p c : Int) : rcN e f 0 0 p c = [] := by
  unfold rcN
  split
  · rfl
  split
  · rfl
  · split
    · omega
    · split
      · rfl
      · rfl
theorem rcN_none {e : Sy} {f : St} {j k : Nat} {pr : Pr} {d : Ed} (hp : e.ps[j]? = some pr) (hd : pr.es[k]? = some d) (h : (decide (d.sy < 0) && rdyB f j d) = false) : rcN e f j (k + 1) = rcN e f j k := by
  funext p c
  unfold rcN
  split
  · rfl
  · split
    · rfl
    · next pr' hq =>
      split
      · rfl
      · split
        · next e1 =>
          rw [e1, hp] at hq
          injection hq with hq
          subst hq
          rw [acc_take_succ hd]
          have : rcE f c j k d = [] := by unfold rcE; rw [if_neg]; rw [h]; simp
          rw [this, List.append_nil]
        · rfl
theorem rcN_some {e : Sy} {f : St} {j k : Nat} {pr : Pr} {d : Ed} (hp : e.ps[j]? = some pr) (hd : pr.es[k]? = some d) (h1 : d.sy < 0) (h2 : rdyB f j d = true) : rcN e f j (k + 1) = updR (rcN e f j k) j (-d.sy) k := by
  funext p c
  unfold updR
  by_cases hpc : p = (j : Int) ∧ c = -d.sy
  · rw [if_pos hpc]
    obtain ⟨rfl, rfl⟩ := hpc
    unfold rcN
    have e1 : ¬ ((j : Int) < 0) := by omega
    simp only [if_neg e1, Int.toNat_natCast, hp, Nat.lt_irrefl, if_false, if_true]
    rw [acc_take_succ hd]
    have : rcE f (-d.sy) j k d = [(k : Int)] := by unfold rcE; rw [if_pos]; simp [h1, h2]
    rw [this]
  · rw [if_neg hpc]
    unfold rcN
    split
    · rfl
    · next h0 =>
      split
      · rfl
      · next pr' hq =>
        split
        · rfl
        · split
          · next e1 =>
            rw [e1, hp] at hq
            injection hq with hq
            subst hq
            rw [acc_take_succ hd]
            have hcc : ¬ (-d.sy = c) := fun e2 => hpc ⟨by omega, e2.symm⟩
            have : rcE f c j k d = [] := by unfold rcE; rw [if_neg]; simp [hcc]
            rw [this, List.append_nil]
          · rfl
theorem rcN_next {e : Sy} {f : St} {j : Nat} {pr : Pr} (hp : e.ps[j]? = some pr) : rcN e f j pr.es.length = rcN e f (j + 1) 0 := by
  funext p c
  unfold rcN
  split
  · rfl
  · split
    · rfl
    · next pr' hq =>
      by_cases h1 : p.toNat < j
      · rw [if_pos h1, if_pos (by omega)]
      · rw [if_neg h1]
        by_cases h2 : p.toNat = j
        · rw [if_pos h2, if_pos (by omega)]
          rw [h2, hp] at hq
          injection hq with hq
          subst hq
          rw [List.take_length, h2]
        · rw [if_neg h2, if_neg (by omega)]
          split
          · rfl
          · rfl

theorem rcN_len {e : Sy} {f : St} {j k : Nat} {pr : Pr} (hp : e.ps[j]? = some pr) (hk : k ≤ pr.es.length) (c : Int) : (rcN e f j k j c).length ≤ k := by
  unfold rcN
  have e1 : ¬ ((j : Int) < 0) := by omega
  simp only [if_neg e1, Int.toNat_natCast, hp, Nat.lt_irrefl, if_false, if_true]
  have := acc_length (F := rcE f c j) (K := 1) (l := pr.es) (fun k x _ => by unfold rcE; split <;> simp) k hk
  omega
theorem zero_ints (u : World) : (zeroValue 22).run Try.prog u = .ok (.slice none 0 0) u := by kernel_rfl

/-- What is kept while the receivers are gathered. -/
structure MM (c0 c1 d0 d1 : Value) (w wl : World) (rc : Int → Int → List Int) : Prop where
  below : Below w.heap.size w wl
  rm : Row wl (w.heap.size + 4) 74 #[c0, c1, d0, d1, .map (some (w.heap.size + 3))]
  rr : Row wl (w.heap.size + 2) 74 #[.slice none 0 0, .slice none 0 0, .slice none 0 0, .slice none 0 0, .map none]
  recv : ∃ es, Recv wl (w.heap.size + 3) (w.heap.size + 5) rc es
section
variable {c0 c1 d0 d1 : Value} {w wl w1 : World} {rc : Int → Int → List Int}
theorem own_ge {base size n : Nat} {t : TypeId} {v : Value} {xs : List Value} (h : wl.ownsRow base t size v n xs) : ∀ g, v.ownBlock = some g → base ≤ g := by
  intro g hg
  rcases h.2 with ⟨rfl, _⟩ | ⟨g', cap', cur, rfl, hb, _⟩
  · cases hg
  · injection hg with hg
    rw [← hg]
    exact hb
theorem MM.push (h : MM c0 c1 d0 d1 w wl rc) {w2 w3 : World} {es1 es3 : Array MapEntry} {j : Nat} {p c : Int} {v0 : Value} {rc' : Int → Int → List Int} (hH : Half w1 (w.heap.size + 3) (w.heap.size + 5) rc es1 j p c v0) (hg1 : wl.grownBy w1 (some (w.heap.size + 3))) (hg2 : w1.grownBy w2 v0.ownBlock) (hg3 : w2.grownBy w3 (some (w.heap.size + 3))) (hR : Recv w3 (w.heap.size + 3) (w.heap.size + 5) rc' es3) : MM c0 c1 d0 d1 w w3 rc' := by
  have hge := own_ge hH.own
  have hrow : ∀ {q : Nat} {t : TypeId} {cs : Array Value}, Row wl q t cs → q < w.heap.size + 5 → q ≠ w.heap.size + 3 → Row w3 q t cs := fun {q t cs} hr hq hne => by
    have a1 : Row w1 q t cs := (hg1.block q hr.lt (by intro e; injection e with e; exact hne e)).trans hr
    have a2 : Row w2 q t cs := (hg2.block q a1.lt (by intro e; have := hge q e.symm; omega)).trans a1
    exact (hg3.block q a2.lt (by intro e; injection e with e; exact hne e)).trans a2
  refine ⟨?_, hrow h.rm (by omega) (by omega), hrow h.rr (by omega) (by omega), es3, hR⟩
  have b1 := h.below.grown hg1 h.below.size (fun k e => by injection e with e; omega)
  have b2 := b1.grown hg2 b1.size (fun k e => by have := hge k e; omega)
  exact b2.grown hg3 b2.size (fun k e => by injection e with e; omega)
theorem MM.step (h : MM c0 c1 d0 d1 w wl rc) (hb : Below wl.heap.size wl w1) : MM c0 c1 d0 d1 w w1 rc := by
  obtain ⟨es, hr⟩ := h.recv
  exact ⟨h.below.trans (hb.mono h.below.size), h.rm.under hb h.rm.lt, h.rr.under hb h.rr.lt, es, hr.under hb⟩
end

end Go.Proofs.Ytefpdkfogfhniaa

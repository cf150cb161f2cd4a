/- A moment's steps, as far as the first one: the walk of (impl.moment).stepsOfEdge with a yield that says no. -/
import Derived.Test.YtefpdkfogfhniaaMo3Q
import Derived.RangeFuncNested
import Derived.RangeFuncBound
import Derived.RangeFuncCalls
import Derived.RangeFuncLeaves
import Derived.OwnWalkIn
import Derived.TacticsInMore
import Derived.LoopNIn
import Derived.LoopIn
namespace Go.Proofs.Ytefpdkfogfhniaa
open Go.RowKit
attribute [local go_sem] Oper.semAt_some

theorem Recv.look {w : World} {b base : Nat} {rc : Int → Int → List Int} {es : Array MapEntry} (h : Recv w b base rc es) {p c : Int} (hpc : inP p c) :
    ∃ (A : Option Addr) (cap : Nat), (Instr.lookup 72 (.map (some b)) (portV p c) false).run Try.prog w = .ok (.slice A (rc p c).length cap) w ∧ ∀ x, (rc p c)[0]? = some x → ∃ g, A = some ⟨g, 0, none⟩ ∧ w.cell? ⟨g, 0, none⟩ = some (.int .i64 x) := by
  obtain ⟨kl, hkl⟩ := port_key hpc.1 hpc.2
  rcases port_law.find w hkl es.toList h.keys with ⟨h1, h2⟩ | ⟨j, x, h1, h2, h3⟩
  · have hrc : rc p c = [] := Classical.byContradiction fun hne => by
      obtain ⟨j, x, hj, hk⟩ := h.has p c hne
      exact h2 x (List.mem_of_getElem? (by simpa using hj)) hk
    refine ⟨none, 0, ?_, fun x hx => by rw [hrc] at hx; cases hx⟩
    rw [hrc]
    simp [Instr.lookup, run_underlying port_map, MapKept.run_getObj_map h.heap, port_law.check w _ hkl, h1, Result.andThen]
  · obtain ⟨g, cap, hv, ho⟩ := h.val j x p c (by simpa using h2) h3
    refine ⟨some ⟨g, 0, none⟩, cap, ?_, fun y hy => ⟨g, rfl, ?_⟩⟩
    · rw [← hv]
      simp [Instr.lookup, run_underlying port_map, MapKept.run_getObj_map h.heap, port_law.check w _ hkl, h1, Result.andThen]
    · have := ho.cells (g := g) rfl 0 (.int .i64 y) (by rw [List.getElem?_map, hy]; rfl)
      simpa [Addr.add] using this

/-- A step as a value. -/
def stpV (s : Stp) : Value := .agg #[.int .i64 s.p, .int .i64 s.e, .int .i64 s.pa, .int .i64 s.pe]

set_option maxHeartbeats 2000000 in
set_option maxRecDepth 100000 in
theorem edge_first (e : Sy) (C : Nat → Value) (f : St) (D : Nat → Value) (W : World) (hH : Have e C f D W) (b base : Nat) (es : Array MapEntry) (hR : Recv W b base (rcN e f e.ps.length 0) es) (i k : Nat) (p : Pr) (d : Ed) (hp : e.ps[i]? = some p) (hd : p.es[k]? = some d) (n l : Nat) (Jx : World → Prop)
    (hY : ∀ (m : Nat) (x0 x1 x2 x3 : Int) (W1 : World), Below W.heap.size W W1 → YieldAt Fence.wide m Try.prog l #[.agg #[.int .i64 x0, .int .i64 x1, .int .i64 x2, .int .i64 x3]] W1 fun e' W' => e' = .returned (.bool false) ∧ Jx W') :
    CallsIn Fence.wide n Try.prog 64 #[.agg #[C 0, C 1, D 0, D 1, .map (some b)], .int .i64 i, .int .i64 k, .func (.yield l) #[] #[]] W fun e' W' =>
      ((d.sy ≠ 0 ∧ ∀ j : Nat, j < e.ps.length → j ≠ i → rcN e f e.ps.length 0 j d.sy = []) ∧ e' = .returned (.bool true) ∧ Below W.heap.size W W') ∨
      ((d.sy = 0 ∨ ∃ j : Nat, j < e.ps.length ∧ j ≠ i ∧ rcN e f e.ps.length 0 j d.sy ≠ []) ∧ e' = .returned (.bool false) ∧ Jx W') := by
  have hsy := (stOk_sy hH.ok).1
  have h3 : e.ps.length ≤ 3 := syOk_le hsy
  have hil : i < e.ps.length := (List.getElem?_eq_some_iff.1 hp).1
  have hkl : k < p.es.length := (List.getElem?_eq_some_iff.1 hd).1
  obtain ⟨_, hs1, hs2⟩ := prOk_edge (syOk_pr hsy hp).1 hd
  have h60 := prOk_le (syOk_pr hsy hp).1
  obtain ⟨A1, cap1, b1, off1, q1, hP⟩ := hH.proc
  obtain ⟨rfl, hb1, A2, cap2, b2, off2, x1, x2⟩ := hP i p hp
  obtain ⟨rfl, hb2, x3⟩ := x2 k d hd
  obtain ⟨sy, hsd⟩ : ∃ sy, sy = d.sy := ⟨_, rfl⟩
  rw [← hsd] at x3 hs1 hs2 ⊢
  obtain ⟨c0, hc0⟩ : ∃ c0, c0 = C 0 := ⟨_, rfl⟩
  obtain ⟨u0, hu0⟩ : ∃ u0, u0 = D 0 := ⟨_, rfl⟩
  obtain ⟨u1, hu1⟩ : ∃ u1, u1 = D 1 := ⟨_, rfl⟩
  rw [q1, ← hc0, ← hu0, ← hu1]
  obtain ⟨W1, hW1⟩ : ∃ W1, W1 = W.alloc (.cells #[c0, .slice (some ⟨b1, off1, none⟩) e.ps.length cap1, u0, u1, .map (some b)] 74) := ⟨_, rfl⟩
  have hbw : Below W.heap.size W W1 := by rw [hW1]; exact (Below.refl _ _).alloc (Nat.le_refl _) _
  have rm : Row W1 W.heap.size 74 #[c0, .slice (some ⟨b1, off1, none⟩) e.ps.length cap1, u0, u1, .map (some b)] := by rw [hW1]; exact Row.new _ _ _
  have y1 := (hbw.cell (p := ⟨b1, off1 + i * 2 + 1, none⟩) hb1).trans x1
  have y3 := (hbw.cell (p := ⟨b2, off2 + k * 10 + 9, none⟩) hb2).trans x3
  have m1 : W1.cell? ⟨W.heap.size, 1, none⟩ = some (.slice (some ⟨b1, off1, none⟩) e.ps.length cap1) := rm.cell 1
  have m4 : W1.cell? ⟨W.heap.size, 4, none⟩ = some (.map (some b)) := rm.cell 4
  have HR1 := Lib.hid (hR.under hbw)
  have HB1 := Lib.hid hbw
  have HW1 := Lib.hid hW1
  have HYd := Lib.hid hY
  obtain ⟨rc, hrc⟩ : ∃ rc, rc = rcN e f e.ps.length 0 := ⟨_, rfl⟩
  rw [← hrc] at HR1 ⊢
  clear hp hd hsy hH q1 hP x2 hc0 hu0 hu1 hW1 hbw rm hY hR hsd hrc y1 y3 m1 m4
  refine callsIn_of_wp Try.func64 rfl trivial ?_ rfl
  simp only [Try.ntmps64, List.size_toArray, List.length_cons, List.length_nil, Nat.reduceAdd, Nat.reduceSub, Array.replicate_succ, Array.replicate_zero, List.push_toArray, List.append_toArray, List.nil_append, List.cons_append]
  by_cases hz : sy = 0
  · subst hz
    obtain ⟨fn, tmps, assign, body, hy, hRd⟩ := HYd.out (n - 1) i k (-1) (-1) W1 HB1.out
    rw [HW1.out] at hy hRd
    gi_wp2_with fail
    refine ⟨fun h => (by cases h), hRd.mono ?_⟩
    rintro e' W' ⟨rfl, hj⟩
    gi_wp2_with fail
    go_ret
    exact ⟨rfl, hj⟩
  · have tz : (sy == 0) = false := by rw [beq_eq_false_iff_ne]; exact hz
    rw [HW1.out] at HR1 HB1
    gi_wp2_with fail
    gi_loopw [35] (fun v wl => ∃ j : Nat, j ≤ e.ps.length ∧ v = .int .i64 j ∧ Hid (∀ j' : Nat, j' < j → j' ≠ i → rc j' sy = []) ∧ W.alloc (.cells #[c0, .slice (some ⟨b1, off1, none⟩) e.ps.length cap1, u0, u1, .map (some b)] 74) = wl) (fun v _ => e.ps.length - (intOf v).toNat)
    case atStart => exact ⟨0, Nat.zero_le _, rfl, fun j' h _ => absurd h (Nat.not_lt_zero _), rfl⟩
    case round =>
      obtain ⟨j, hj, rfl, HN, rfl⟩ := hrel
      by_cases hlt : j < e.ps.length
      · by_cases hji : j = i
        · subst hji
          have HN2 : Hid (∀ j' : Nat, j' < j + 1 → j' ≠ j → rc j' sy = []) := fun j' h1 h2 => HN.out j' (by omega) h2
          gi_wp2_with fail
          go_roundw
          case rel => exact ⟨j + 1, by omega, by go_num, HN2, trivial⟩
          case measure => simp [intOf]; omega
        · have tj : ((j : Int) == (i : Int)) = false := by rw [beq_eq_false_iff_ne]; omega
          obtain ⟨A, cap, hlk, hx⟩ := HR1.out.look (p := j) (c := sy) ⟨⟨by omega, by omega⟩, by omega, by omega⟩
          have hlk' : (Instr.lookup 72 (.map (some b)) (.agg #[.int .i64 j, .int .i64 sy]) false).run Try.prog (W.alloc (.cells #[c0, .slice (some ⟨b1, off1, none⟩) e.ps.length cap1, u0, u1, .map (some b)] 74)) = .ok (.slice A (rc j sy).length cap) _ := hlk
          obtain ⟨L, hL⟩ : ∃ L, L = rc j sy := ⟨_, rfl⟩
          rw [← hL] at hlk' hx
          have HL := Lib.hid hL
          clear hlk hL
          cases L with
          | nil =>
            have HN2 : Hid (∀ j' : Nat, j' < j + 1 → j' ≠ i → rc j' sy = []) := fun j' h1 h2 => by
              by_cases e9 : j' = j
              · subst e9
                exact HL.out.symm
              · exact HN.out j' (by omega) h2
            clear hx
            gi_wp2_with fail
            gi_loopw [48] (fun v wl => v = .int .i64 0 ∧ W.alloc (.cells #[c0, .slice (some ⟨b1, off1, none⟩) e.ps.length cap1, u0, u1, .map (some b)] 74) = wl) (fun _ _ => 0)
            case atStart => exact ⟨rfl, rfl⟩
            case round =>
              obtain ⟨rfl, rfl⟩ := hrel
              gi_wp2_with fail
              go_roundw
              case rel => exact ⟨j + 1, by omega, by go_num, HN2, trivial⟩
              case measure => simp [intOf]; omega
          | cons x r =>
            obtain ⟨g, rfl, hcx⟩ := hx x rfl
            have HNe : Hid (∃ j : Nat, j < e.ps.length ∧ j ≠ i ∧ rc j sy ≠ []) := ⟨j, hlt, hji, by rw [← HL.out]; simp⟩
            obtain ⟨fn, tmps, assign, body, hy, hRd⟩ := HYd.out (n - 1) i k j x _ HB1.out
            have hcx' := hcx
            have hl1 : (0 : Int) < ((x :: r).length : Int) := by rw [List.length_cons]; omega
            obtain ⟨len, hlen⟩ : ∃ len, len = (x :: r).length := ⟨_, rfl⟩
            rw [← hlen] at hlk' hl1
            clear hlen hcx
            gi_wp2_with fail
            gi_loopw [48] (fun v wl => v = .int .i64 0 ∧ W.alloc (.cells #[c0, .slice (some ⟨b1, off1, none⟩) e.ps.length cap1, u0, u1, .map (some b)] 74) = wl) (fun _ _ => 0)
            case atStart => exact ⟨rfl, rfl⟩
            case round =>
              obtain ⟨rfl, rfl⟩ := hrel
              gi_wp2_with fail
              refine ⟨fun h => (by cases h), hRd.mono ?_⟩
              rintro e' W' ⟨rfl, hjx⟩
              gi_wp2_with fail
              go_ret
              exact .inr ⟨.inr HNe.out, rfl, hjx⟩
      · have hjj : j = e.ps.length := by omega
        subst hjj
        gi_wp2_with fail
        go_ret
        exact .inl ⟨⟨hz, fun j' h1 h2 => HN.out j' h1 h2⟩, rfl, HB1.out⟩

end Go.Proofs.Ytefpdkfogfhniaa

/- The walk of spec.l3Partners. -/
import Derived.Test.YtefpdkfogfhniaaSp1Q
import Derived.OwnWalk
import Derived.Maps.AppendAt
namespace Go.Proofs.Ytefpdkfogfhniaa
open Go.RowKit

theorem Try.info53 : (Try.prog.info? 53).map (fun i => (i.zero, i.size, i.bytes)) = some (some (.agg #[.int .i64 0, .int .i64 0, .int .i64 0, .int .i64 0]), 4, 32) := by kernel_rfl

/-- A system's processes and their edges, found in memory. -/
theorem Have.proc {e : Sy} {C : Nat → Value} {f : St} {D : Nat → Value} {w : World} (hH : Have e C f D w) :
    ∃ (A1 : Option Addr) (cap1 b1 off1 : Nat), C 1 = .slice A1 e.ps.length cap1 ∧ ∀ (i : Nat) (p : Pr), e.ps[i]? = some p → A1 = some ⟨b1, off1, none⟩ ∧ b1 < w.heap.size ∧
      ∃ (A2 : Option Addr) (cap2 b2 off2 : Nat), w.cell? ⟨b1, off1 + i * 2 + 1, none⟩ = some (.slice A2 p.es.length cap2) ∧ ∀ (k : Nat) (d : Ed), p.es[k]? = some d → A2 = some ⟨b2, off2, none⟩ ∧ b2 < w.heap.size ∧ w.cell? ⟨b2, off2 + k * 10 + 9, none⟩ = some (.int .i64 d.sy) := by
  obtain ⟨ini, ps⟩ := e
  obtain ⟨_, A1, cap1, b1, off1, E1, q1, _, hP⟩ := sy_lies hH.sy
  refine ⟨A1, cap1, b1, off1, q1, fun i p hp => ?_⟩
  obtain ⟨r, hb1, gc, gl⟩ := hP i p hp
  obtain ⟨loc, es⟩ := p
  obtain ⟨u0, A2, cap2, b2, off2, E2, u1, _, hE⟩ := pr_lies gl
  have c1 := gc 1 (by decide)
  rw [u1] at c1
  refine ⟨r, hb1, A2, cap2, b2, off2, c1, fun k d hd => ?_⟩
  obtain ⟨r2, hb2, hc, hl⟩ := hE k d hd
  obtain ⟨fr, t0, g, vr, vl, sy⟩ := d
  obtain ⟨e0, e1, hg, e5, hv, e9⟩ := ed_lies hl
  have k9 := hc 9 (by decide)
  rw [e9] at k9
  exact ⟨r2, hb2, k9⟩

/-- What a function leaves that makes a slice of steps. -/
def StpsPost (l : List Stp) (w : World) (e' : Ending) (w' : World) : Prop :=
  ∃ (g cap : Nat), e' = .returned (.slice (some ⟨g, 0, none⟩) l.length cap) ∧ w'.ownsRow w.heap.size 53 4 (.slice (some ⟨g, 0, none⟩) l.length cap) l.length (cellsS l) ∧ Below w.heap.size w w'

/-- Steps gathered so far. -/
structure Mid (c0 c1 d0 d1 : Value) (w wl : World) (l : List Stp) (n g cap : Nat) : Prop where
  len : n = l.length
  below : Below w.heap.size w wl
  rs : Row wl w.heap.size 33 #[c0, c1]
  rt : Row wl (w.heap.size + 1) 28 #[d0, d1]
  own : wl.ownsRow (w.heap.size + 2) 53 4 (.slice (some ⟨g, 0, none⟩) n cap) n (cellsS l)
section
variable {c0 c1 d0 d1 : Value} {w wl w1 : World} {l : List Stp} {n g cap : Nat}
theorem owns_block {base size : Nat} {t : TypeId} {xs : List Value} (h : wl.ownsRow base t size (.slice (some ⟨g, 0, none⟩) n cap) n xs) : base ≤ g ∧ g < wl.heap.size := by
  rcases h.2 with ⟨h1, _⟩ | ⟨g', cap', cur, hv, hb, hh, _⟩
  · cases h1
  · injection hv with e1 e2 e3
    injection e1 with e1
    injection e1 with e1
    subst e1
    refine ⟨hb, ?_⟩
    by_cases hlt : g < wl.heap.size
    · exact hlt
    · rw [Array.getElem?_eq_none (by omega)] at hh
      cases hh
theorem owns_under {base size : Nat} {t : TypeId} {xs : List Value} (h : wl.ownsRow base t size (.slice (some ⟨g, 0, none⟩) n cap) n xs) (hb : Below wl.heap.size wl w1) : w1.ownsRow base t size (.slice (some ⟨g, 0, none⟩) n cap) n xs := by
  have hg := (owns_block h).2
  refine ⟨h.1, ?_⟩
  rcases h.2 with ⟨h1, _⟩ | ⟨g', cap', cur, hv, hb', hh, hr⟩
  · cases h1
  · refine .inr ⟨g', cap', cur, hv, hb', ?_, hr⟩
    injection hv with e1 e2 e3
    injection e1 with e1
    injection e1 with e1
    subst e1
    exact (hb.block g hg).trans hh
theorem owns_base {base base' size : Nat} {t : TypeId} {v : Value} {xs : List Value} (hb : base' ≤ base) (h : wl.ownsRow base t size v n xs) : wl.ownsRow base' t size v n xs := by
  refine ⟨h.1, ?_⟩
  rcases h.2 with h1 | ⟨g', cap', cur, hv, hb', hr⟩
  · exact .inl h1
  · exact .inr ⟨g', cap', cur, hv, Nat.le_trans hb hb', hr⟩
theorem Mid.step (h : Mid c0 c1 d0 d1 w wl l n g cap) (hb : Below wl.heap.size wl w1) : Mid c0 c1 d0 d1 w w1 l n g cap :=
  ⟨h.len, h.below.trans (hb.mono h.below.size), h.rs.under hb h.rs.lt, h.rt.under hb h.rt.lt, owns_under h.own hb⟩
theorem Mid.app (h : Mid c0 c1 d0 d1 w wl l n g cap) {m : List Stp} {k : Nat} {v' : Value} (hk : k = m.length) (ho : w1.ownsRow (w.heap.size + 2) 53 4 v' (n + k) (cellsS l ++ cellsS m)) (hg : wl.grownBy w1 (some g)) (hn : v' = .slice none 0 0 → False) :
    ∃ g1 cap1, v' = .slice (some ⟨g1, 0, none⟩) (n + k) cap1 ∧ Mid c0 c1 d0 d1 w w1 (l ++ m) (n + k) g1 cap1 := by
  obtain ⟨g1, cap1, rfl⟩ : ∃ g1 cap1, v' = .slice (some ⟨g1, 0, none⟩) (n + k) cap1 := by
    rcases ho.2 with ⟨h0, _⟩ | ⟨g1, cap1, _, hv, _⟩
    · exact (hn h0).elim
    · exact ⟨g1, cap1, hv⟩
  have hlo := (owns_block h.own).1
  refine ⟨g1, cap1, rfl, by rw [List.length_append, h.len, hk], ?_, h.rs.grown hg (by omega), h.rt.grown hg (by omega), by rw [cellsS_append]; exact ho⟩
  refine h.below.trans (below_of hg ?_ |>.mono ?_)
  · exact Nat.le_of_lt (owns_block h.own).2
  · omega
end

/-- What process j brings up to its edge k. -/
def ptX (f : St) (ch : Int) (i0 k0 j : Nat) (es : List Ed) (k : Nat) : List Stp := if j = i0 then [] else acc (ptE f ch i0 k0 j) (es.take k)
theorem ptX_zero (f : St) (ch : Int) (i0 k0 j : Nat) (es : List Ed) : ptX f ch i0 k0 j es 0 = [] := by unfold ptX; split <;> simp [acc]
theorem ptX_none {f : St} {ch : Int} {i0 k0 j : Nat} {es : List Ed} {k : Nat} {d : Ed} (hd : es[k]? = some d) (h : j = i0 ∨ (d.sy = -ch && rdyB f j d) = false) : ptX f ch i0 k0 j es (k + 1) = ptX f ch i0 k0 j es k := by
  unfold ptX
  by_cases hj : j = i0
  · rw [if_pos hj, if_pos hj]
  · have h2 : (d.sy = -ch && rdyB f j d) = false := h.resolve_left hj
    rw [if_neg hj, if_neg hj, acc_take_succ hd]
    have h3 : ptE f ch i0 k0 j k d = [] := by unfold ptE; rw [if_neg (by rw [h2]; simp)]
    rw [h3, List.append_nil]
theorem ptX_some {f : St} {ch : Int} {i0 k0 j : Nat} {es : List Ed} {k : Nat} {d : Ed} (hd : es[k]? = some d) (hj : j ≠ i0) (h1 : d.sy = -ch) (h2 : rdyB f j d = true) : ptX f ch i0 k0 j es (k + 1) = ptX f ch i0 k0 j es k ++ [⟨i0, k0, j, k⟩] := by
  unfold ptX
  rw [if_neg hj, if_neg hj, acc_take_succ hd]
  have h3 : ptE f ch i0 k0 j k d = [⟨i0, k0, j, k⟩] := by unfold ptE; rw [if_pos (by simp [h1, h2])]
  rw [h3]
theorem ptX_full {f : St} {ch : Int} {i0 k0 j : Nat} {p : Pr} {ps : List Pr} (hp : ps[j]? = some p) : acc (ptP f ch i0 k0) (ps.take j) ++ ptX f ch i0 k0 j p.es p.es.length = acc (ptP f ch i0 k0) (ps.take (j + 1)) := by
  rw [acc_take_succ hp]
  unfold ptX ptP
  rw [List.take_length]
theorem ptX_le {f : St} {ch : Int} {i0 k0 j : Nat} {p : Pr} (h : prOk p = true) {k : Nat} (hk : k ≤ p.es.length) : (ptX f ch i0 k0 j p.es k).length ≤ 6 := by
  unfold ptX
  split
  · simp
  · have := acc_length (F := ptE f ch i0 k0 j) (K := 1) (l := p.es) (fun k x _ => ptE_le f ch i0 k0 j k x) k hk
    have := prOk_le h
    omega
theorem cells_new (w : World) (cs : Array Value) (t : TypeId) : ∀ (j : Nat) (u : Value), cs.toList[j]? = some u → (w.alloc (.cells cs t)).cell? ((⟨w.heap.size, 0, none⟩ : Addr).add j) = some u := by
  intro j u hj
  have h := (Row.new w t cs).cell j
  rw [show (⟨w.heap.size, 0, none⟩ : Addr).add j = ⟨w.heap.size, j, none⟩ by simp [Addr.add]; exact Eq.symm, h]
  simpa using hj

set_option maxHeartbeats 2000000 in
set_option maxRecDepth 100000 in
theorem partsS_any (e : Sy) (C : Nat → Value) (f : St) (D : Nat → Value) (w : World) (hH : Have e C f D w) (i0 k0 : Nat) (p0 : Pr) (d0 : Ed) (hp0 : e.ps[i0]? = some p0) (hd0 : p0.es[k0]? = some d0) :
    Calls Try.prog 61 #[.agg #[C 0, C 1], .agg #[D 0, D 1], .int .i64 i0, .int .i64 k0] w (StpsPost (parts e f d0.sy i0 k0) w) := by
  obtain ⟨ti, hi0, hz0, hz1, hz2⟩ := info_parts Try.info53
  have hsy := (stOk_sy hH.ok).1
  have h3 : e.ps.length ≤ 3 := syOk_le hsy
  have hil : i0 < e.ps.length := (List.getElem?_eq_some_iff.1 hp0).1
  have hkl : k0 < p0.es.length := (List.getElem?_eq_some_iff.1 hd0).1
  obtain ⟨_, hs1, hs2⟩ := prOk_edge (syOk_pr hsy hp0).1 hd0
  have h60 := prOk_le (syOk_pr hsy hp0).1
  obtain ⟨A1, cap1, b1, off1, q1, hP⟩ := hH.proc
  have HP := Lib.hid hP
  obtain ⟨rfl, hb1, A2, cap2, b2, off2, x1, x2⟩ := hP i0 p0 hp0
  obtain ⟨rfl, hb2, x3⟩ := x2 k0 d0 hd0
  obtain ⟨ch, hch⟩ : ∃ ch, ch = d0.sy := ⟨_, rfl⟩
  rw [← hch] at x3 hs1 hs2 ⊢
  have HS := Lib.hid hsy
  have HH := Lib.hid hH
  have e1 : IntKind.i64.wrap (-ch) = -ch := IntWalk.i64_in _ (by omega)
  obtain ⟨c0, hc0⟩ : ∃ c0, c0 = C 0 := ⟨_, rfl⟩
  obtain ⟨u0, hu0⟩ : ∃ u0, u0 = D 0 := ⟨_, rfl⟩
  obtain ⟨u1, hu1⟩ : ∃ u1, u1 = D 1 := ⟨_, rfl⟩
  have HRdy : Hid (∀ (wl : World), Below w.heap.size w wl → ∀ (i k : Nat) (p : Pr) (d : Ed), e.ps[i]? = some p → p.es[k]? = some d → Calls Try.prog 60 #[.agg #[c0, .slice (some ⟨b1, off1, none⟩) e.ps.length cap1], .agg #[u0, u1], .int .i64 i, .int .i64 k] wl fun e' w' => e' = .returned (.bool (rdyB f i d)) ∧ Below wl.heap.size wl w') := fun wl hb i k p d hp hd => by
    have := readyS_any e C f D wl (HH.out.later hb) i k p d hp hd
    rw [q1, ← hc0, ← hu0, ← hu1] at this
    exact this
  rw [q1, ← hc0, ← hu0, ← hu1]
  obtain ⟨W1, hW1⟩ : ∃ W1, W1 = ((w.alloc (.cells #[c0, .slice (some ⟨b1, off1, none⟩) e.ps.length cap1] 33)).alloc (.cells #[u0, u1] 28)) := ⟨_, rfl⟩
  obtain ⟨W2, hW2⟩ : ∃ W2, W2 = W1.alloc (.cells #[] 53) := ⟨_, rfl⟩
  have hM0 : Mid c0 (.slice (some ⟨b1, off1, none⟩) e.ps.length cap1) u0 u1 w W2 [] 0 W1.heap.size 0 := by
    have hsz : W1.heap.size = w.heap.size + 2 := by rw [hW1]; simp
    obtain ⟨r1, r2, r3⟩ := rows2 w 33 28 #[c0, .slice (some ⟨b1, off1, none⟩) e.ps.length cap1] #[u0, u1]
    rw [← hW1] at r1 r2 r3
    have r4 := Row.new W1 53 #[]
    rw [← hW2] at r4
    have hb : Below W1.heap.size W1 W2 := by rw [hW2]; exact (Below.refl _ _).alloc (Nat.le_refl _) _
    rw [hsz] at r4 hb ⊢
    exact ⟨rfl, r3.trans (hb.mono (by omega)), r1.under hb (by omega), r2.under hb (by omega), ⟨rfl, .inr ⟨w.heap.size + 2, 0, #[], rfl, Nat.le_refl _, r4, Nat.le_refl _, Nat.zero_le _, rfl, rfl⟩⟩⟩
  have HM0 := Lib.hid hM0
  have HW2 := Lib.hid hW2
  have HW1 := Lib.hid hW1
  have x1' := (hM0.below.cell (p := ⟨b1, off1 + i0 * 2 + 1, none⟩) hb1).trans x1
  have x3' := (hM0.below.cell (p := ⟨b2, off2 + k0 * 10 + 9, none⟩) hb2).trans x3
  have hb1' : b1 < w.heap.size := hb1
  obtain ⟨_, s1⟩ := hM0.rs.two
  have Hp0 := Lib.hid hp0
  clear hp0 hd0 hsy hH q1 hP x1 x2 x3 hch hc0 hu0 hu1 hM0 hW2 hW1 hb1 hb2
  go_enter Try.func61, Try.ntmps61
  go_upto_region 1 with fail
  rw [← HW1.out]
  go_upto_region 2 with fail
  rw [← HW2.out]
  go_wp2_with fail
  clear x1' x3' s1
  go_loopw [9, 11] (fun o i wl => ∃ (j g cap n : Nat), j ≤ e.ps.length ∧ o = .slice (some ⟨g, 0, none⟩) n cap ∧ i = .int .i64 j ∧ Hid (Mid c0 (.slice (some ⟨b1, off1, none⟩) e.ps.length cap1) u0 u1 w wl (acc (ptP f ch i0 k0) (e.ps.take j)) n g cap)) (fun _ i _ => e.ps.length - (intOf i).toNat)
  case atStart => exact ⟨0, W1.heap.size, 0, 0, Nat.zero_le _, rfl, rfl, HM0⟩
  case round =>
    obtain ⟨j, g, cap, n, hj, rfl, rfl, HM⟩ := hrel
    obtain ⟨_, s1⟩ := HM.out.rs.two
    by_cases hlt : j < e.ps.length
    · obtain ⟨p, hp⟩ : ∃ p, e.ps[j]? = some p := ⟨_, List.getElem?_eq_getElem hlt⟩
      have hpo := (syOk_pr HS.out hp).1
      have h6 := prOk_le hpo
      obtain ⟨_, _, A3, cap3, b3, off3, y1, y2⟩ := HP.out j p hp
      have Hp := Lib.hid hp
      have HPo := Lib.hid hpo
      have HY1 := Lib.hid y1
      have HY2 := Lib.hid y2
      clear hp hpo y1 y2
      go_wp2_with fail
      clear s1
      go_loopw [9, 12] (fun o i wl => ∃ (k g cap n : Nat), k ≤ p.es.length ∧ o = .slice (some ⟨g, 0, none⟩) n cap ∧ i = .int .i64 k ∧ Hid (Mid c0 (.slice (some ⟨b1, off1, none⟩) e.ps.length cap1) u0 u1 w wl (acc (ptP f ch i0 k0) (e.ps.take j) ++ ptX f ch i0 k0 j p.es k) n g cap)) (fun _ i _ => p.es.length - (intOf i).toNat)
      case atStart => exact ⟨0, g, cap, n, Nat.zero_le _, rfl, rfl, by rw [ptX_zero, List.append_nil]; exact HM⟩
      case round =>
        clear HM HM0
        obtain ⟨k, g2, cap2', n2, hk, rfl, rfl, HK⟩ := hrel
        obtain ⟨s0, s1⟩ := HK.out.rs.two
        obtain ⟨t0, t1⟩ := HK.out.rt.two
        have y1 := (HK.out.below.cell (p := ⟨b1, off1 + j * 2 + 1, none⟩) hb1').trans HY1.out
        by_cases hlk : k < p.es.length
        · obtain ⟨d, hd⟩ : ∃ d, p.es[k]? = some d := ⟨_, List.getElem?_eq_getElem hlk⟩
          obtain ⟨rfl, hb3, y2⟩ := HY2.out k d hd
          have y3 := (HK.out.below.cell (p := ⟨b3, off3 + k * 10 + 9, none⟩) hb3).trans y2
          have Hd := Lib.hid hd
          have hnl : n2 ≤ 18 + 6 := by
            have a1 := HK.out.len
            have a2 := ptX_le (f := f) (ch := ch) (i0 := i0) (k0 := k0) (j := j) HPo.out hk
            have a3 := acc_length (F := ptP f ch i0 k0) (K := 6) (l := e.ps) (fun k x hx => ptP_le (syOk_pr HS.out hx).1) j hj
            rw [List.length_append] at a1
            omega
          clear y2 hd
          by_cases hji : j = i0
          · subst hji
            have HK2 : Hid (Mid c0 (.slice (some ⟨b1, off1, none⟩) e.ps.length cap1) u0 u1 w wr (acc (ptP f ch j k0) (e.ps.take j) ++ ptX f ch j k0 j p.es (k + 1)) n2 g2 cap2') := by show Mid _ _ _ _ _ _ _ _ _ _; rw [ptX_none Hd.out (.inl rfl)]; exact HK.out
            clear HK
            go_wp2_with fail
            go_roundw
            case rel => exact ⟨k + 1, g2, cap2', n2, by omega, rfl, by go_num, HK2⟩
            case measure => simp [intOf]; omega
          · have tj : ((j : Int) == (i0 : Int)) = false := by rw [beq_eq_false_iff_ne]; omega
            obtain ⟨sy, hsd⟩ : ∃ sy, sy = d.sy := ⟨_, rfl⟩
            rw [← hsd] at y3
            by_cases hsc : sy = -ch
            · subst hsc
              obtain ⟨o, ho⟩ : ∃ o, o = rdyB f j d := ⟨_, rfl⟩
              have HO := Lib.hid ho
              have HSD := Lib.hid hsd
              clear ho hsd
              go_wp2_with fail
              refine (HRdy.out wr HK.out.below j k p d Hp.out Hd.out).mono ?_
              rintro e' w1 ⟨rfl, hbw⟩
              rw [← HO.out]
              have HK1 := Lib.hid (HK.out.step hbw)
              clear hbw HK s0 s1 t0 t1 y1 y3
              cases o
              · have HK2 : Hid (Mid c0 (.slice (some ⟨b1, off1, none⟩) e.ps.length cap1) u0 u1 w w1 (acc (ptP f ch i0 k0) (e.ps.take j) ++ ptX f ch i0 k0 j p.es (k + 1)) n2 g2 cap2') := by
                  show Mid _ _ _ _ _ _ _ _ _ _
                  rw [ptX_none Hd.out (.inr (by rw [← HO.out, Bool.and_false]))]
                  exact HK1.out
                clear HK1
                go_wp2_with fail
                go_roundw
                case rel => exact ⟨k + 1, g2, cap2', n2, by omega, rfl, by go_num, HK2⟩
                case measure => simp [intOf]; omega
              · have hzw : w.heap.size + 2 ≤ w1.heap.size := HK1.out.rt.lt
                go_wp2_with (at_builtin; refine wpList_append_own _ rfl (.tmp 67) (.tmp 73) 42 rfl (w.heap.size + 2) 53 ti (.agg #[.int .i64 0, .int .i64 0, .int .i64 0, .int .i64 0]) 4 32 Try.underlying42 hi0 hz0 hz1 hz2 rfl (by decide) (.slice (some ⟨g2, 0, none⟩) n2 cap2') n2 _ rfl (HK1.out.own.alloc _) ⟨w1.heap.size, 0, none⟩ 1 1 (cellsS [⟨i0, k0, j, k⟩]) rfl rfl (cells_new w1 #[.int .i64 i0, .int .i64 k0, .int .i64 j, .int .i64 k] 53) (by simp [cellsS, cells4, Value.oneCell']) (by unfold maxLen; omega) (by omega) (by simp; omega) ?_; intro v' w3 hown' hgrow hnil)
                obtain ⟨g3, cap3', rfl, hM3⟩ := (HK1.out.step ((Below.refl _ _).alloc (Nat.le_refl _) _)).app (m := [⟨i0, k0, j, k⟩]) rfl hown' hgrow (fun h => by have := (hnil.1 h).1; cases this)
                have HK2 : Hid (Mid c0 (.slice (some ⟨b1, off1, none⟩) e.ps.length cap1) u0 u1 w w3 (acc (ptP f ch i0 k0) (e.ps.take j) ++ ptX f ch i0 k0 j p.es (k + 1)) (n2 + 1) g3 cap3') := by
                  show Mid _ _ _ _ _ _ _ _ _ _
                  rw [ptX_some Hd.out hji HSD.out.symm HO.out.symm, ← List.append_assoc]
                  exact hM3
                clear HK1 hM3 hown' hgrow hnil
                go_wp2_with fail
                go_roundw
                case rel => exact ⟨k + 1, g3, cap3', n2 + 1, by omega, rfl, by go_num, HK2⟩
                case measure => simp [intOf]; omega
            · have ts : (sy == -ch) = false := by rw [beq_eq_false_iff_ne]; exact hsc
              have HK2 : Hid (Mid c0 (.slice (some ⟨b1, off1, none⟩) e.ps.length cap1) u0 u1 w wr (acc (ptP f ch i0 k0) (e.ps.take j) ++ ptX f ch i0 k0 j p.es (k + 1)) n2 g2 cap2') := by
                show Mid _ _ _ _ _ _ _ _ _ _
                rw [ptX_none Hd.out (.inr (by rw [← hsd]; simp [hsc]))]
                exact HK.out
              clear HK
              go_wp2_with fail
              go_roundw
              case rel => exact ⟨k + 1, g2, cap2', n2, by omega, rfl, by go_num, HK2⟩
              case measure => simp [intOf]; omega
        · have hkk : k = p.es.length := by omega
          subst hkk
          have HK2 : Hid (Mid c0 (.slice (some ⟨b1, off1, none⟩) e.ps.length cap1) u0 u1 w wr (acc (ptP f ch i0 k0) (e.ps.take (j + 1))) n2 g2 cap2') := by show Mid _ _ _ _ _ _ _ _ _ _; rw [← ptX_full Hp.out]; exact HK.out
          clear HK
          go_wp2_with fail
          go_roundw
          case rel => exact ⟨j + 1, g2, cap2', n2, by omega, rfl, by go_num, HK2⟩
          case measure => simp [intOf]; omega
    · have hjj : j = e.ps.length := by omega
      subst hjj
      have HF : Hid (StpsPost (parts e f ch i0 k0) w (.returned (.slice (some ⟨g, 0, none⟩) n cap)) wr) := by
        have a1 := HM.out.len
        have a2 := HM.out.own
        rw [acc_full] at a1 a2
        subst a1
        refine ⟨g, cap, rfl, ?_, HM.out.below⟩
        exact owns_base (Nat.le_add_right _ 2) a2
      clear HM
      go_wp2_with fail
      go_ret
      exact HF.out

end Go.Proofs.Ytefpdkfogfhniaa

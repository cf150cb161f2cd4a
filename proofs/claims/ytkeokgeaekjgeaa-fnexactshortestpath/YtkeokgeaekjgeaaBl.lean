/- The walk of (impl.Graph).predecessors. -/
import Derived.Test.YtkeokgeaekjgeaaBk
namespace Go.Proofs.Ytkeokgeaekjgeaa
open Go.RowKit

set_option maxHeartbeats 2000000 in
set_option maxRecDepth 100000 in
theorem pred_any (e : Gp) (C : Nat → Value) (m : Nat) (w : World) (hL : Lay.gra.lies w w.heap.size e C) (hr : Ranged e.nxt) (hl : e.nxt.length = e.sts.length) (hm : m < e.nxt.length) (hn : e.nxt.length ≤ 60) :
    Calls Try.prog 26 #[.agg #[C 0, C 1], .int .i64 m] w (IntsPost (befo (found e.nxt m) m) w) := by
  obtain ⟨sts, nxt⟩ := e
  obtain ⟨⟨A2, cap2, b2, off2, E2, q2, _, _⟩, A3, cap3, b3, off3, E3, q3, _, hO3⟩ := gra_lies hL
  dsimp only at hr hl hm hn ⊢
  rw [← hl] at q2
  rw [q2, q3]
  obtain ⟨i0, hi0, hz0, hz1, hz2⟩ := info_parts Try.info3
  obtain ⟨W2, hW2⟩ : ∃ W2, W2 = (w.alloc (.cells #[.slice A2 nxt.length cap2, .slice A3 nxt.length cap3] 31)).alloc (.cells #[.int .i64 (-1)] 3) := ⟨_, rfl⟩
  obtain ⟨hR1, hR2, hb2⟩ := rows2 w 31 3 #[.slice A2 nxt.length cap2, .slice A3 nxt.length cap3] #[.int .i64 (-1)]
  rw [← hW2] at hR1 hR2 hb2
  have hz2' : W2.heap.size = w.heap.size + 2 := by rw [hW2]; simp
  have HW2 := Lib.hid hW2
  have HR1 := Lib.hid hR1
  have HR2 := Lib.hid hR2
  have HB2 := Lib.hid hb2
  have HZ2 := Lib.hid hz2'
  have HO : Hid (Lay.ints.Opn W2 W2.heap.size nxt A3 b3 off3 E3) := hO3.grow hb2 hb2.size
  have HRg := Lib.hid hr
  have hn1 : 1 ≤ nxt.length := by omega
  clear hW2 hR1 hR2 hb2 hz2' hO3 hr hL hl q2 q3
  go_enter Try.func26, Try.ntmps26
  go_wp2_with fail
  rw [← HW2.out]
  refine (repeat_any nxt.length (w.heap.size + 1) W2 hn1 hn HR2.out).mono ?_
  rintro e' w1 ⟨gb, rfl, hgb, hRb, hb1⟩
  obtain ⟨u0, c0⟩ : ∃ u0, w1.cell? ⟨gb, m, none⟩ = some u0 := ⟨.int .i64 (-1), by rw [hRb.cell]; simp [hm]⟩
  have z0 := hRb.frozen m
  have hgl := hRb.lt
  obtain ⟨W3, hW3⟩ : ∃ W3, W3 = (w1.setCell ⟨gb, m, none⟩ (.int .i64 m)).alloc (.cells #[.int .i64 m] 3) := ⟨_, rfl⟩
  have HP0 : Hid (Prs W2 W3 (srch nxt m 0) m 0 gb w1.heap.size 0 1) := by
    have hsz : (w1.setCell ⟨gb, m, none⟩ (.int .i64 m)).heap.size = w1.heap.size := by simp
    have hI : IRow w1 gb (List.replicate nxt.length (-1)) := ⟨_, hRb, fun i z hz => by
      have hi := (List.getElem?_eq_some_iff.1 hz).1
      rw [List.length_replicate] at hi
      rw [List.getElem?_replicate, if_pos hi] at hz
      injection hz with hz
      subst hz
      simp [hi]⟩
    have hn2 := Row.new (w1.setCell ⟨gb, m, none⟩ (.int .i64 m)) 3 #[.int .i64 m]
    rw [hsz] at hn2
    refine ⟨?_, ?_, ⟨⟨#[.int .i64 m], by rw [hW3]; exact hn2, Nat.le_refl _, fun i z hz => ?_⟩, Nat.le_refl _, by unfold maxLen; omega, hb1.size⟩, hgb, by omega⟩
    · rw [hW3]; exact (hb1.setCell hgb _).alloc (by rw [hsz]; exact hb1.size) _
    · refine (hI.set (m := m) (by rw [List.length_replicate]; exact hm) m).same ?_
      rw [hW3, Below.heap_alloc _ _ _ (by rw [hsz]; exact hgl)]
    · change [(m : Int)][i]? = some z at hz
      cases i with
      | zero => injection hz with hz; subst hz; rfl
      | succ i => simp at hz
  have HW3 := Lib.hid hW3
  clear hb1 hRb hW3
  go_wp2_with fail
  rw [← HW3.out]
  go_loopg [6] (nxt.length) (fun gk v wl => ∃ (k len gq off cap : Nat) (s : Sr), gk + k = nxt.length ∧ len + k ≤ nxt.length ∧ v = .slice (some ⟨gq, off, none⟩) len cap ∧ Hid (s = srch nxt m k) ∧ Hid (len + k = s.q.length) ∧ Hid (Prs W2 wl s m k gb gq off cap))
  case atStart => exact ⟨0, 1, w1.heap.size, 0, 1, _, rfl, by omega, rfl, rfl, rfl, HP0⟩
  case round =>
    clear HP0 HW3 c0 z0 hgl
    obtain ⟨k, len, gq, off, cap, s, hgk, hlk, rfl, HS, HN, HP⟩ := hrel
    have HOk : Hid (SrOk nxt.length m s) := by show SrOk _ _ _; rw [HS.out]; exact srch_ok HRg.out hm k
    by_cases hpos : 0 < len
    · obtain ⟨l1, rfl⟩ : ∃ l1, len = l1 + 1 := ⟨len - 1, by omega⟩
      obtain ⟨x, hx⟩ : ∃ x, s.q[k]? = some x := ⟨_, List.getElem?_eq_getElem (by have := HN.out; omega)⟩
      obtain ⟨y, rfl, hy⟩ := HOk.out.range x (List.mem_of_getElem? hx)
      have hdr : s.q.drop k = (y : Int) :: s.q.drop (k + 1) := by
        rw [List.drop_eq_getElem_cons (List.getElem?_eq_some_iff.1 hx).1, (List.getElem?_eq_some_iff.1 hx).2]
      have hP := HP.out
      have hQ := hP.que
      rw [hdr] at hQ
      have hcap := hQ.len
      rw [List.length_cons, List.length_drop] at hcap
      obtain ⟨c1, rfl⟩ : ∃ c1, cap = c1 + 1 := ⟨cap - 1, by have := HN.out; omega⟩
      have hl1c : l1 ≤ c1 := by have := HN.out; omega
      have hcm := hQ.cap_le
      unfold maxLen at hcm
      have q0 : wr.cell? ⟨gq, off, none⟩ = some (.int .i64 y) := hQ.cell (i := 0) rfl
      obtain ⟨off1, hoff, hQ1⟩ : ∃ off1, (if c1 = 0 then some (⟨gq, off, none⟩ : Addr) else some ⟨gq, off + 1, none⟩) = some ⟨gq, off1, none⟩ ∧ Que wr W2.heap.size gq off1 c1 (s.q.drop (k + 1)) := by
        by_cases h0 : c1 = 0
        · have hnil : s.q.drop (k + 1) = [] := List.eq_nil_of_length_eq_zero (by rw [List.length_drop]; have := HN.out; omega)
          rw [hnil] at hQ ⊢
          exact ⟨off, by rw [if_pos h0], hQ.rest⟩
        · exact ⟨off + 1, by rw [if_neg h0], hQ.tail⟩
      have HP1 : Hid (Prs W2 wr s m (k + 1) gb gq off1 c1) := ⟨hP.below, hP.bef, hQ1, hP.lb, hP.bq⟩
      obtain ⟨l, hl⟩ : ∃ l, nxt[y]? = some l := ⟨_, List.getElem?_eq_getElem hy⟩
      have HX := Lib.hid hx
      have HLy := Lib.hid hl
      have HNx : Hid (srch nxt m (k + 1) = visits y s l) := by
        show _ = _
        rw [srch_next (x := (y : Int)) (by rw [← HS.out]; exact hx), ← HS.out]
        unfold outs
        rw [Int.toNat_natCast, hl]
        rfl
      obtain ⟨rfl, hb, fc, fl⟩ := HO.out y l hl
      obtain ⟨A6, cap6, b6, off6, k2, hl6, hI6⟩ := ints_lies fl
      have d0 : W2.cell? ⟨b3, off3 + y, none⟩ = some (E3 y 0) := by have h := fc 0 (by decide); rw [show Lay.ints.st = 1 from rfl, Nat.mul_one] at h; exact h
      rw [k2] at d0
      have HI6 := Lib.hid hI6
      have d1 : wr.cell? ⟨b3, off3 + y, none⟩ = some (.slice A6 l.length cap6) := (hP.below.cell (p := ⟨b3, off3 + y, none⟩) hb).trans d0
      obtain ⟨f0, f1⟩ := (HR1.out.under hP.below HR1.out.lt).two
      unfold maxLen at hl6
      clear hx hdr hP hQ hcap hQ1 hl fc fl k2 d0 hI6 HP
      go_wp2_with fail
      go_loopw [6, 35] (fun v i wl => ∃ (j nv gv ov cv : Nat) (sv : Sr), j ≤ l.length ∧ nv + (k + 1) ≤ nxt.length ∧ v = .slice (some ⟨gv, ov, none⟩) nv cv ∧ i = .int .i64 j ∧ Hid (sv = visits y s (l.take j)) ∧ Hid (nv + (k + 1) = sv.q.length) ∧ Hid (Prs W2 wl sv m (k + 1) gb gv ov cv)) (fun _ i _ => l.length - (intOf i).toNat)
      case atStart => exact ⟨0, l1, gq, off1, c1, s, Nat.zero_le _, by omega, rfl, rfl, rfl, (show _ = _ by have := HN.out; omega), HP1⟩
      case round =>
        clear HP1 hoff q0 d1 f0 f1
        obtain ⟨j, nv, gv, ov, cv, sv, hj, hnv, rfl, rfl, HSv, HNv, HPv⟩ := hrel
        have HOv : Hid (SrOk nxt.length m sv) := by
          show SrOk _ _ _
          rw [HSv.out]
          exact HOk.out.visits _ HX.out (fun z hz => HRg.out y l HLy.out z (List.mem_of_mem_take hz))
        by_cases hlt : j < l.length
        · obtain ⟨z, hz⟩ : ∃ z, l[j]? = some z := ⟨_, List.getElem?_eq_getElem hlt⟩
          obtain ⟨c, rfl, hc⟩ := HRg.out y l HLy.out z (List.mem_of_getElem? hz)
          obtain ⟨rfl, hb6, g0⟩ := HI6.out.under HPv.out.below HPv.out.below.size j c hz
          have HSv1 : Hid (visit y sv c = visits y s (l.take (j + 1))) := by
            show _ = _
            rw [HSv.out]; exact (visits_take_succ hz).symm
          clear hz
          cases hin : inB sv.q c
          · have p0 : wr.cell? ⟨gb, c, none⟩ = some (.int .i64 (-1)) := HPv.out.bef.cell (HOv.out.befo_out hc hin)
            have pz := HPv.out.bef.frozen c
            have hgl := HPv.out.bef.lt
            have hvl := HPv.out.que.lt
            have hws : W2.heap.size ≤ wr.heap.size := HPv.out.below.size
            have HQa : Hid (Que ((wr.setCell ⟨gb, c, none⟩ (.int .i64 y)).alloc (.cells #[.int .i64 c] 3)) W2.heap.size gv ov cv (sv.q.drop (k + 1))) := by
              refine HPv.out.que.same ?_
              rw [Below.heap_alloc _ _ _ (by simpa using hvl), Below.heap_setCell _ _ _ _ (by simpa using HPv.out.bq.symm)]
            have HLa : Hid ((sv.q.drop (k + 1)).length = nv) := by show _ = _; rw [List.length_drop]; have := HNv.out; omega
            have HCa : Hid (((wr.setCell ⟨gb, c, none⟩ (.int .i64 y)).alloc (.cells #[.int .i64 c] 3)).cell? ⟨wr.heap.size, 0, none⟩ = some (.int .i64 c)) := by
              have h := (Row.new (wr.setCell ⟨gb, c, none⟩ (.int .i64 y)) 3 #[.int .i64 c]).cell 0
              rw [show (wr.setCell ⟨gb, c, none⟩ (.int .i64 y)).heap.size = wr.heap.size by simp] at h
              exact h
            have HIn := Lib.hid hin
            have hnn : nv + (k + 1) < nxt.length := by
              have h1 := (HOv.out.visit (x := (y : Int)) (kx := k) (by rw [HSv.out]; exact visits_q _ HX.out) (m := c) rfl hc).short
              rw [visit_out hin] at h1
              simp at h1
              have := HNv.out
              omega
            clear hin
            go_wp2_with (at_builtin; refine wpList_append_que rfl (.tmp 48) (.tmp 50) rfl i0 hi0 hz0 hz1 hz2 W2.heap.size gv ov nv cv (sv.q.drop (k + 1)) HLa.out rfl HQa.out wr.heap.size 1 c rfl HCa.out (by omega) (by simp; omega) ?_; intro g1 off1' cap1 w5 hq5 hg5 hb5)
            have HP5 : Hid (Prs W2 w5 (visit y sv c) m (k + 1) gb g1 off1' cap1) := HPv.out.visit HOv.out hc (by have := HNv.out; omega) HIn.out hq5 hg5 hb5
            have HN5 : Hid (nv + 1 + (k + 1) = (visit (y : Int) sv (c : Int)).q.length) := by
              show _ = _
              rw [visit_out HIn.out]
              simp
              have := HNv.out
              omega
            clear hq5 hg5 hb5 HPv HQa HCa HLa
            go_wp2_with fail
            go_roundw
            case rel => exact ⟨j + 1, nv + 1, g1, off1', cap1, _, by omega, by omega, rfl, by go_num, HSv1, HN5, HP5⟩
            case measure => simp [intOf]; omega
          · obtain ⟨v, hv⟩ := HOv.out.befo_in hin
            have p0 : wr.cell? ⟨gb, c, none⟩ = some (.int .i64 v) := HPv.out.bef.cell hv
            have hve : ((v : Int) == -1) = false := by simp
            have hve' : ¬ (v : Int) = -1 := by omega
            have HSv2 : Hid (sv = visits y s (l.take (j + 1))) := by
              show _ = _
              rw [← HSv1.out, visit_in hin]
            clear hin hv HSv1
            go_wp2_with fail
            go_roundw
            case rel => exact ⟨j + 1, nv, gv, ov, cv, _, by omega, hnv, rfl, by go_num, HSv2, HNv, HPv⟩
            case measure => simp [intOf]; omega
        · obtain rfl : j = l.length := by omega
          have HSe : Hid (sv = srch nxt m (k + 1)) := by
            show _ = _
            rw [HSv.out, List.take_length, HNx.out]
          go_wp2_with fail
          go_roundg (nxt.length - (k + 1))
          case measure => omega
          case rel => exact ⟨k + 1, nv, gv, ov, cv, sv, by omega, hnv, rfl, HSe, HNv, HPv⟩
    · obtain rfl : len = 0 := by omega
      have HF : Hid (IntsPost (befo (found nxt m) m) w (.returned (.slice (some ⟨gb, 0, none⟩) nxt.length nxt.length)) wr) := by
        have h1 : srch nxt m k = found nxt m := srch_end (by rw [← HS.out]; have := HN.out; omega) (by omega)
        have h2 := HP.out.bef
        rw [HS.out, h1] at h2
        refine ⟨gb, nxt.length, ?_, by have := HZ2.out; omega, h2, HB2.out.trans (HP.out.below.mono (by have := HZ2.out; omega))⟩
        have h3 : (befo (found nxt m) m).length = nxt.length := (srch_ok HRg.out hm nxt.length).befo_len
        rw [h3]
      go_wp2_with fail
      go_ret
      exact HF.out

end Go.Proofs.Ytkeokgeaekjgeaa

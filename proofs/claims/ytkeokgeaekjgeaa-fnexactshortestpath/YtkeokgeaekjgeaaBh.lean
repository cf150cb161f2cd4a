/- The walk of spec.l4Search. -/
import Derived.Test.YtkeokgeaekjgeaaBg
namespace Go.Proofs.Ytkeokgeaekjgeaa
open Go.RowKit

/-- What spec.l4Search leaves. -/
def SearchPost (nxt : List (List Int)) (m : Nat) (w : World) (e' : Ending) (w' : World) : Prop :=
  ∃ gp capP gq capQ : Nat, e' = .returned (.tuple #[.slice (some ⟨gp, 0, none⟩) nxt.length capP, .slice (some ⟨gq, 0, none⟩) (found nxt m).q.length capQ]) ∧ IRow w' gp (found nxt m).par ∧ IRow w' gq (found nxt m).q ∧ Below w.heap.size w w'

theorem neg_list (k : Nat) : (List.replicate (k + 1) (-1 : Int)).map (Value.int .i64) = (List.replicate k (-1 : Int)).map (Value.int .i64) ++ [.int .i64 (-1)] := by
  rw [List.replicate_succ', List.map_append]; rfl

set_option maxHeartbeats 2000000 in
set_option maxRecDepth 100000 in
theorem search_any (nxt : List (List Int)) (m : Nat) (A : Option Addr) (capN b off : Nat) (D : Nat → Nat → Value) (w : World) (hr : Ranged nxt) (hm : m < nxt.length) (hn : nxt.length ≤ 60) (hO : Lay.ints.Opn w w.heap.size nxt A b off D) :
    Calls Try.prog 19 #[.slice A nxt.length capN, .int .i64 m] w (SearchPost nxt m w) := by
  obtain ⟨i0, hi0, hz0, hz1, hz2⟩ := info_parts Try.info3
  obtain ⟨j0, hj0, hy0, hy1, hy2⟩ := info_parts Try.info4
  have hmk := run_make_of (P := Try.prog) 67 4 j0 _ Try.underlying67 hj0 hy0 nxt.length (by rw [hy2]; omega) (by omega)
  rw [hy1, Nat.mul_one] at hmk
  clear hj0 hy0 hy1 hy2
  obtain ⟨cs, hcs⟩ : ∃ cs, cs = madeCells (Value.cells (.bool false)) nxt.length := ⟨_, rfl⟩
  rw [← hcs] at hmk
  have hcf : ∀ i : Nat, i < nxt.length → cs[i]? = some (.bool (inB [] i)) := fun i hi => by
    have h := toList_madeCells_one (.bool false) nxt.length
    rw [← Array.getElem?_toList, hcs, show madeCells (Value.cells (.bool false)) nxt.length = madeCells #[.bool false] nxt.length from rfl, h, List.getElem?_replicate, if_pos hi]
    rfl
  have HCF := Lib.hid hcf
  have HO := Lib.hid hO
  have HRg := Lib.hid hr
  clear hcs hcf hO hr
  go_enter Try.func19, Try.ntmps19
  go_wp2_with fail
  go_loopw [6, 8] (fun o i wl => ∃ (k g cap : Nat), k ≤ nxt.length ∧ o = .slice (some ⟨g, 0, none⟩) k cap ∧ i = .int .i64 k ∧ Hid (wl.ownsRow w.heap.size 3 1 (.slice (some ⟨g, 0, none⟩) k cap) k ((List.replicate k (-1 : Int)).map (Value.int .i64))) ∧ Hid (g ≠ w.heap.size + 1) ∧ Hid (BRow wl (w.heap.size + 1) nxt.length []) ∧ Hid (Below w.heap.size w wl)) (fun _ i _ => nxt.length - (intOf i).toNat)
  case atStart =>
    refine ⟨0, w.heap.size, 0, Nat.zero_le _, rfl, rfl, (show World.ownsRow _ _ _ _ _ _ _ from ⟨rfl, .inr ⟨w.heap.size, 0, #[], rfl, Nat.le_refl _, (Row.new w _ _).under ((Below.refl _ _).alloc (Nat.le_refl _) _) (by simp), Nat.le_refl _, Nat.zero_le _, rfl, rfl⟩⟩), (show _ ≠ _ by omega), ?_, ((Below.refl _ _).alloc (Nat.le_refl _) _).alloc (by simp) _⟩
    have h := Row.new (w.alloc (.cells #[] 3)) 4 cs
    rw [show (w.alloc (.cells #[] 3)).heap.size = w.heap.size + 1 by simp] at h
    exact ⟨cs, h, HCF.out⟩
  case round =>
    clear hmk
    obtain ⟨k, g, cap, hk, rfl, rfl, HOw, HNe, HBr, HB⟩ := hrel
    by_cases hlt : k < nxt.length
    · have hzw : w.heap.size ≤ wr.heap.size := HB.out.size
      go_wp2_with (at_builtin; refine wpList_append_own_at _ rfl (.tmp 23) (.tmp 24) 27 rfl w.heap.size 3 i0 (.int .i64 0) 1 8 Try.underlying27 hi0 hz0 hz1 hz2 rfl (by decide) (.slice (some ⟨g, 0, none⟩) k cap) k _ rfl (HOw.out.alloc _) ⟨wr.heap.size, 0, none⟩ 1 1 [.int .i64 (-1)] rfl rfl (cell_one_new _ _ _) (by simp [Value.oneCell']) (by unfold maxLen; omega) (by omega) (by simp; omega) ?_; intro v' w1 hown' hgrow hnil hat)
      obtain ⟨g1, cap1, rfl⟩ : ∃ g1 cap1, v' = .slice (some ⟨g1, 0, none⟩) (k + 1) cap1 := by
        rcases hown'.2 with ⟨_, h0⟩ | ⟨g1, cap1, _, hv, _⟩
        · omega
        · exact ⟨g1, cap1, hv⟩
      have HO1 : Hid (w1.ownsRow w.heap.size 3 1 (.slice (some ⟨g1, 0, none⟩) (k + 1) cap1) (k + 1) ((List.replicate (k + 1) (-1 : Int)).map (Value.int .i64))) := by
        show World.ownsRow _ _ _ _ _ _ _
        rw [neg_list]
        exact hown'
      have hgl := queue_lt HOw.out
      have hbl := HBr.out.lt
      have HNe1 : Hid (g1 ≠ w.heap.size + 1) := by
        show _ ≠ _
        rcases hat with h | h
        · have e : g1 = g := by simpa [Value.ownBlock] using h
          rw [e]; exact HNe.out
        · have e : g1 = wr.heap.size + 1 := by simpa [Value.ownBlock] using h
          omega
      have HBr1 : Hid (BRow w1 (w.heap.size + 1) nxt.length []) := by
        refine HBr.out.same ?_
        rw [hgrow.block _ (by simp; omega) (fun e => HNe.out (by have h := Option.some.inj e; exact h.symm)), Below.heap_alloc _ _ _ hbl]
      have HB1 : Hid (Below w.heap.size w w1) := (HB.out.alloc HB.out.size _).grown hgrow (by simp; omega) (fun q hq => by
        have e : g = q := by simpa [Value.ownBlock] using hq
        subst e
        exact hgl.1)
      clear hown' hgrow hnil hat HOw HNe HBr HB hgl hbl
      go_wp2_with fail
      go_roundw
      case rel => exact ⟨k + 1, g1, cap1, by omega, rfl, by go_num, HO1, HNe1, HBr1, HB1⟩
      case measure => simp [intOf]; omega
    · have hkk : k = nxt.length := by omega
      subst hkk
      obtain ⟨u0, c0⟩ : ∃ u0, wr.cell? ⟨w.heap.size + 1, m, none⟩ = some u0 := ⟨_, HBr.out.cell hm⟩
      have z0 := HBr.out.frozen m
      have hbl := HBr.out.lt
      have hgl := queue_lt HOw.out
      obtain ⟨W1, hW1⟩ : ∃ W1, W1 = (wr.setCell ⟨w.heap.size + 1, m, none⟩ (.bool true)).alloc (.cells #[.int .i64 m] 3) := ⟨_, rfl⟩
      have HS0 : Hid (Srs nxt.length w W1 (srch nxt m 0) g (w.heap.size + 1) wr.heap.size 1) := by
        obtain ⟨cs1, h1, h2, h3⟩ := irow_of_owns HOw.out
        have hp : IRow wr g (List.replicate nxt.length (-1)) := ⟨cs1, h2, fun i z hz => h3 i _ (by rw [List.getElem?_map, hz]; rfl)⟩
        have hs := HBr.out.set (q' := [(m : Int)]) hm (fun i => inB_snoc [] m i)
        have hne := HNe.out
        have hsz : (wr.setCell ⟨w.heap.size + 1, m, none⟩ (.bool true)).heap.size = wr.heap.size := by simp
        refine ⟨?_, hp.same ?_, hs.same ?_, ?_, hgl.1, Nat.le_succ _, hne, Nat.ne_of_lt hgl.2, by omega⟩
        · rw [hW1]; exact (HB.out.setCell (Nat.le_succ _) _).alloc (by rw [hsz]; exact HB.out.size) _
        · rw [hW1, Below.heap_alloc _ _ _ (by rw [hsz]; exact hgl.2), Below.heap_setCell _ _ _ _ (by simpa using hne)]
        · rw [hW1, Below.heap_alloc _ _ _ (by rw [hsz]; exact hbl)]
        · have h := Row.new (wr.setCell ⟨w.heap.size + 1, m, none⟩ (.bool true)) 3 #[.int .i64 m]
          rw [hsz] at h
          rw [hW1]
          exact ⟨rfl, .inr ⟨wr.heap.size, 1, #[.int .i64 m], rfl, HB.out.size, h, Nat.le_refl _, by unfold maxLen; omega, rfl, rfl⟩⟩
      have HW1 := Lib.hid hW1
      clear hW1 HOw HNe HBr HB
      go_wp2_with fail
      rw [← HW1.out]
      go_loopw [9, 10] (fun q i wl => ∃ (k nq gq cap : Nat) (s : Sr), k ≤ nq ∧ nq ≤ nxt.length ∧ q = .slice (some ⟨gq, 0, none⟩) nq cap ∧ i = .int .i64 k ∧ Hid (s = srch nxt m k) ∧ Hid (nq = s.q.length) ∧ Hid (Srs nxt.length w wl s g (w.heap.size + 1) gq cap)) (fun _ i _ => nxt.length - (intOf i).toNat)
      case atStart => exact ⟨0, 1, wr.heap.size, 1, _, Nat.zero_le _, by omega, rfl, rfl, rfl, rfl, HS0⟩
      case round =>
        clear HS0 HW1 c0 z0 hbl hgl
        obtain ⟨k, nq, gq, cap1, s, hk1, hk2, rfl, rfl, HS, HN, HSr⟩ := hrel
        have hok : SrOk nxt.length m s := by rw [HS.out]; exact srch_ok HRg.out hm k
        have HOk := Lib.hid hok
        by_cases hlt2 : k < nq
        · obtain ⟨x, hx⟩ : ∃ x, s.q[k]? = some x := ⟨_, List.getElem?_eq_getElem (by rw [← HN.out]; exact hlt2)⟩
          obtain ⟨y, rfl, hy⟩ := hok.range x (List.mem_of_getElem? hx)
          obtain ⟨l, hl⟩ : ∃ l, nxt[y]? = some l := ⟨_, List.getElem?_eq_getElem hy⟩
          have HX := Lib.hid hx
          have HLy := Lib.hid hl
          have HNx : Hid (srch nxt m (k + 1) = visits y s l) := by
            show _ = _
            rw [srch_next (x := (y : Int)) (by rw [← HS.out]; exact hx), ← HS.out]
            unfold outs
            rw [Int.toNat_natCast, hl]
            rfl
          obtain ⟨rfl, hb, fc, fl⟩ := HO.out y l hl
          obtain ⟨A6, cap6, b6, off6, k2, hl6, hI6⟩ := ints_lies fl
          have d0 : w.cell? ⟨b, off + y, none⟩ = some (D y 0) := by have h := fc 0 (by decide); rw [show Lay.ints.st = 1 from rfl, Nat.mul_one] at h; exact h
          rw [k2] at d0
          have HD0 := Lib.hid d0
          have HI6 := Lib.hid hI6
          unfold maxLen at hl6
          clear hok hx hl fc fl k2 d0 hI6
          go_wp2_with fail
          go_loopw [9, 11] (fun q i wl => ∃ (j nq gq cap : Nat) (sv : Sr), j ≤ l.length ∧ k < nq ∧ nq ≤ nxt.length ∧ q = .slice (some ⟨gq, 0, none⟩) nq cap ∧ i = .int .i64 j ∧ Hid (sv = visits y s (l.take j)) ∧ Hid (nq = sv.q.length) ∧ Hid (Srs nxt.length w wl sv g (w.heap.size + 1) gq cap)) (fun _ i _ => l.length - (intOf i).toNat)
          case atStart => exact ⟨0, nq, gq, cap1, s, Nat.zero_le _, hlt2, hk2, rfl, rfl, rfl, HN, HSr⟩
          case round =>
            clear HSr
            obtain ⟨j, nv, gv, cap2, sv, hj, hkv, hnv, rfl, rfl, HSv, HNv, HSr⟩ := hrel
            have HOv : Hid (SrOk nxt.length m sv) := by
              show SrOk _ _ _
              rw [HSv.out]
              exact HOk.out.visits _ HX.out (fun z hz => HRg.out y l HLy.out z (List.mem_of_mem_take hz))
            have HXv : Hid (sv.q[k]? = some (y : Int)) := by show _ = _; rw [HSv.out]; exact visits_q _ HX.out
            have hsb : w.heap.size ≤ wr.heap.size := HSr.out.below.size
            have q0 := queue_cell (by have h := HSr.out.own; exact h) HXv.out
            have d1 : wr.cell? ⟨b, off + y, none⟩ = some (.slice A6 l.length cap6) := (HSr.out.below.cell (p := ⟨b, off + y, none⟩) hb).trans HD0.out
            by_cases hjl : j < l.length
            · obtain ⟨z, hz⟩ : ∃ z, l[j]? = some z := ⟨_, List.getElem?_eq_getElem hjl⟩
              obtain ⟨mz, rfl, hmz⟩ := HRg.out y l HLy.out z (List.mem_of_getElem? hz)
              obtain ⟨rfl, hb6, cz⟩ := HI6.out.under HSr.out.below HSr.out.below.size j _ hz
              have HT := Lib.hid (visits_take_succ (x := (y : Int)) (s := s) hz)
              have s0 := HSr.out.seen.cell hmz
              obtain ⟨u, hu⟩ : ∃ u, u = inB sv.q mz := ⟨_, rfl⟩
              rw [← hu] at s0
              have HU := Lib.hid hu
              clear hu hz
              cases u
              · have zs := HSr.out.seen.frozen mz
                have zp := HSr.out.par.frozen mz
                obtain ⟨up, p0⟩ : ∃ up, wr.cell? ⟨g, mz, none⟩ = some up := ⟨_, HSr.out.par.cell (List.getElem?_eq_getElem (by rw [HOv.out.len]; exact hmz))⟩
                have hne1 : g ≠ w.heap.size + 1 := HSr.out.ps
                have hne2 : g ≠ gv := HSr.out.pq
                have hne3 : w.heap.size + 1 ≠ gv := HSr.out.sq
                have hne1' := hne1.symm
                have hne2' := hne2.symm
                have hne3' := hne3.symm
                have hgl := queue_lt HSr.out.own
                have hpl := HSr.out.par.lt
                have hbl := HSr.out.seen.lt
                have HOw : Hid (((wr.setCell ⟨w.heap.size + 1, mz, none⟩ (.bool true)).setCell ⟨g, mz, none⟩ (.int .i64 y)).ownsRow w.heap.size 3 1 (.slice (some ⟨gv, 0, none⟩) nv cap2) nv (sv.q.map (Value.int .i64))) := by
                  show World.ownsRow _ _ _ _ _ _ _
                  rw [HNv.out]
                  refine owns_same HSr.out.own ?_
                  rw [Below.heap_setCell _ _ _ _ (by simpa using hne2'), Below.heap_setCell _ _ _ _ (by simpa using hne3')]
                go_wp2_with (at_builtin; refine wpList_append_own_at _ rfl (.tmp 74) (.tmp 76) 27 rfl w.heap.size 3 i0 (.int .i64 0) 1 8 Try.underlying27 hi0 hz0 hz1 hz2 rfl (by decide) (.slice (some ⟨gv, 0, none⟩) nv cap2) nv _ rfl (HOw.out.alloc _) ⟨wr.heap.size, 0, none⟩ 1 1 [.int .i64 mz] rfl rfl (by have h := cell_one_new ((wr.setCell ⟨w.heap.size + 1, mz, none⟩ (.bool true)).setCell ⟨g, mz, none⟩ (.int .i64 y)) (.int .i64 mz) 3; simpa using h) (by simp [Value.oneCell']) (by unfold maxLen; omega) (by omega) (by simp; omega) ?_; intro v' w1 hown' hgrow hnil hat)
                rw [HNv.out] at hown'
                obtain ⟨g1, cap3, rfl, hS2⟩ := HSr.out.visit hmz HOv.out.len HU.out.symm hown' hgrow (by simpa [Value.ownBlock] using hat)
                have HS2 : Hid (Srs nxt.length w w1 (visits y s (l.take (j + 1))) g (w.heap.size + 1) g1 cap3) := by
                  show Srs _ _ _ _ _ _ _ _
                  rw [HT.out, ← HSv.out]; exact hS2
                have HN2 : Hid (nv + 1 = (visits y s (l.take (j + 1))).q.length) := by
                  show _ = _
                  rw [HT.out, ← HSv.out, visit_out HU.out.symm, HNv.out]; simp
                have HK2 : Hid (nv + 1 ≤ nxt.length) := by
                  show _ ≤ _
                  rw [HN2.out]
                  exact (HOk.out.visits _ HX.out (fun z hz => HRg.out y l HLy.out z (List.mem_of_mem_take hz))).short
                rw [← HNv.out]
                clear hown' hgrow hnil hat hS2 HSr HOw
                go_wp2_with fail
                go_roundw
                case rel => exact ⟨j + 1, nv + 1, g1, cap3, _, by omega, by omega, HK2.out, rfl, by go_num, rfl, HN2, HS2⟩
                case measure => simp [intOf]; omega
              · have HS2 : Hid (sv = visits y s (l.take (j + 1))) := by
                  show _ = _
                  rw [HT.out, ← HSv.out, visit_in HU.out.symm]
                go_wp2_with fail
                go_roundw
                case rel => exact ⟨j + 1, nv, gv, cap2, sv, by omega, hkv, hnv, rfl, by go_num, HS2, HNv, HSr⟩
                case measure => simp [intOf]; omega
            · have hjj : j = l.length := by omega
              subst hjj
              have HS2 : Hid (sv = srch nxt m (k + 1)) := by
                show _ = _
                rw [HNx.out, HSv.out, List.take_length]
              go_wp2_with fail
              go_roundw
              case rel => exact ⟨k + 1, nv, gv, cap2, sv, by omega, hnv, rfl, by go_num, HS2, HNv, HSr⟩
              case measure => simp [intOf]; omega
        · have hkk : k = nq := by omega
          have HFd : Hid (s = found nxt m) := by
            show _ = _
            rw [HS.out]
            exact srch_end (by rw [← HS.out, ← HN.out]; omega) (by omega)
          have HQ : Hid (IRow wr gq s.q) := by
            obtain ⟨cs1, _, h2, h3⟩ := irow_of_owns HSr.out.own
            exact ⟨cs1, h2, fun i z hz => h3 i _ (by rw [List.getElem?_map, hz]; rfl)⟩
          go_wp2_with fail
          go_ret2
          refine ⟨g, cap, gq, cap1, ?_, ?_, ?_, HSr.out.below⟩
          · rw [← HFd.out, ← HN.out]; rfl
          · rw [← HFd.out]; exact HSr.out.par
          · rw [← HFd.out]; exact HQ.out

end Go.Proofs.Ytkeokgeaekjgeaa

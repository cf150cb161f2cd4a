/- A moment's steps, all of them: the walk of (impl.moment).stepsOfEdge with a yield that may go on. -/
import Derived.Test.YtefpdkfogfhniaaJ12
namespace Go.Proofs.Ytefpdkfogfhniaa
open Go.RowKit
attribute [local go_sem] Oper.semAt_some

/-- What a consumer keeps: J when it goes on, Jx when it stops. -/
structure Cons (Wb : World) (l : Nat) (T : List Stp) (J Jx : List Stp → (Nat → Prop) → World → Prop) : Prop where
  bound : ∀ pre U W, J pre U W → ∀ q, U q → Wb.heap.size ≤ q ∧ q < W.heap.size
  below : ∀ pre U W W1, J pre U W → Below W.heap.size W W1 → J pre U W1
  yield : ∀ (m : Nat) (pre : List Stp) (U : Nat → Prop) (W1 : World) (x0 x1 x2 x3 : Int), J pre U W1 → Below Wb.heap.size Wb W1 → pre ++ [⟨x0, x1, x2, x3⟩] <+: T → YieldAt Fence.wide m Try.prog l #[.agg #[.int .i64 x0, .int .i64 x1, .int .i64 x2, .int .i64 x3]] W1 fun e' W' =>
    ∃ U', Fr U W1 U' W' ∧ ((e' = .returned (.bool true) ∧ J (pre ++ [⟨x0, x1, x2, x3⟩]) U' W') ∨ (e' = .returned (.bool false) ∧ Jx (pre ++ [⟨x0, x1, x2, x3⟩]) U' W'))

/-- What a piece of the iterator leaves: it has gone on through E, or it has been stopped within E. -/
def ItPost (J Jx : List Stp → (Nat → Prop) → World → Prop) (pre E : List Stp) (U : Nat → Prop) (W : World) (go : Bool) (W' : World) : Prop :=
  ∃ U', Fr U W U' W' ∧ ((go = true ∧ J (pre ++ E) U' W') ∨ (go = false ∧ ∃ d, d <+: pre ++ E ∧ Jx d U' W'))

theorem acc_prefix {X Y : Type} (F : Nat → X → List Y) (l : List X) (k : Nat) (h : k ≤ l.length) : acc F (l.take k) <+: acc F l := by
  obtain ⟨m, hm⟩ : ∃ m, m + k = l.length := ⟨l.length - k, by omega⟩
  induction m generalizing k with
  | zero => rw [show k = l.length by omega, acc_full]; exact List.prefix_refl _
  | succ m ih =>
    have hx : l[k]? = some l[k] := List.getElem?_eq_getElem (by omega)
    refine List.IsPrefix.trans ?_ (ih (k + 1) (by omega) (by omega))
    rw [acc_take_succ hx]
    exact List.prefix_append _ _
theorem prefix_more {d a b : List Stp} (h : d <+: a) : d <+: a ++ b := h.trans (List.prefix_append _ _)

set_option maxHeartbeats 2000000 in
set_option maxRecDepth 100000 in
theorem edge_all (e : Sy) (C : Nat → Value) (f : St) (D : Nat → Value) (Wb : World) (hH : Have e C f D Wb) (b base : Nat) (es : Array MapEntry) (hR : Recv Wb b base (rcN e f e.ps.length 0) es) (i k : Nat) (p : Pr) (d : Ed) (hp : e.ps[i]? = some p) (hd : p.es[k]? = some d) (n l : Nat) (J Jx : List Stp → (Nat → Prop) → World → Prop) (T : List Stp) (hY : Cons Wb l T J Jx)
    (pre : List Stp) (U : Nat → Prop) (W : World) (hWb : Below Wb.heap.size Wb W) (hJ : J pre U W) (hT : pre ++ edS e f i k d.sy <+: T) :
    CallsIn Fence.wide n Try.prog 64 #[.agg #[C 0, C 1, D 0, D 1, .map (some b)], .int .i64 i, .int .i64 k, .func (.yield l) #[] #[]] W fun e' W' => ∃ go, e' = .returned (.bool go) ∧ ItPost J Jx pre (edS e f i k d.sy) U W go W' := by
  have hsy := (stOk_sy hH.ok).1
  have h3 : e.ps.length ≤ 3 := syOk_le hsy
  have hil : i < e.ps.length := (List.getElem?_eq_some_iff.1 hp).1
  have hkl : k < p.es.length := (List.getElem?_eq_some_iff.1 hd).1
  obtain ⟨_, hs1, hs2⟩ := prOk_edge (syOk_pr hsy hp).1 hd
  have h60 := prOk_le (syOk_pr hsy hp).1
  obtain ⟨A1, cap1, b1, off1, q1, hP⟩ := hH.proc
  obtain ⟨rfl, hb1, A2, cap2, b2, off2, x1, x2⟩ := hP i p hp
  obtain ⟨rfl, hb2, x3⟩ := x2 k d hd
  obtain ⟨sy, hsd⟩ : ∃ sy, sy = d.sy := ⟨_, rfl⟩
  rw [← hsd] at x3 hs1 hs2 hT ⊢
  obtain ⟨c0, hc0⟩ : ∃ c0, c0 = C 0 := ⟨_, rfl⟩
  obtain ⟨u0, hu0⟩ : ∃ u0, u0 = D 0 := ⟨_, rfl⟩
  obtain ⟨u1, hu1⟩ : ∃ u1, u1 = D 1 := ⟨_, rfl⟩
  rw [q1, ← hc0, ← hu0, ← hu1]
  obtain ⟨W1, hW1⟩ : ∃ W1, W1 = W.alloc (.cells #[c0, .slice (some ⟨b1, off1, none⟩) e.ps.length cap1, u0, u1, .map (some b)] 74) := ⟨_, rfl⟩
  have hbw : Below W.heap.size W W1 := by rw [hW1]; exact (Below.refl _ _).alloc (Nat.le_refl _) _
  have rm : Row W1 W.heap.size 74 #[c0, .slice (some ⟨b1, off1, none⟩) e.ps.length cap1, u0, u1, .map (some b)] := by rw [hW1]; exact Row.new _ _ _
  have hwb1 : Below Wb.heap.size Wb W1 := hWb.trans (hbw.mono hWb.size)
  have y1 := (hwb1.cell (p := ⟨b1, off1 + i * 2 + 1, none⟩) hb1).trans x1
  have y3 := (hwb1.cell (p := ⟨b2, off2 + k * 10 + 9, none⟩) hb2).trans x3
  have m1 : W1.cell? ⟨W.heap.size, 1, none⟩ = some (.slice (some ⟨b1, off1, none⟩) e.ps.length cap1) := rm.cell 1
  have m4 : W1.cell? ⟨W.heap.size, 4, none⟩ = some (.map (some b)) := rm.cell 4
  have HRm := Lib.hid rm
  have HWB := Lib.hid hwb1
  have HRb := Lib.hid hR
  have HYd := Lib.hid hY
  have HF1 : Hid (Fr U W U W1) := (Fr.refl U W).step hbw
  have HJ1 : Hid (J pre U W1) := hY.below _ _ _ _ hJ hbw
  have HU : Hid (∀ q, U q → Wb.heap.size ≤ q ∧ q < W.heap.size) := hY.bound _ _ _ hJ
  obtain ⟨rc, hrc⟩ : ∃ rc, rc = rcN e f e.ps.length 0 := ⟨_, rfl⟩
  rw [← hrc] at HRb
  obtain ⟨E, hE⟩ : ∃ E, E = edS e f i k sy := ⟨_, rfl⟩
  have HE := Lib.hid hE
  rw [← hE] at hT
  have HT := Lib.hid hT
  have HRc := Lib.hid hrc
  have HSy := Lib.hid hsy
  rw [← hE]
  have HW1 := Lib.hid hW1
  clear hp hd hsy hH q1 hP x2 hc0 hu0 hu1 hbw rm hY hR hsd hrc hJ hWb hwb1 hE x1 x3 hW1 hT
  refine callsIn_of_wp Try.func64 rfl trivial ?_ rfl
  simp only [Try.ntmps64, List.size_toArray, List.length_cons, List.length_nil, Nat.reduceAdd, Nat.reduceSub, Array.replicate_succ, Array.replicate_zero, List.push_toArray, List.append_toArray, List.nil_append, List.cons_append]
  by_cases hz : sy = 0
  · subst hz
    have HE1 : Hid (E = [⟨i, k, -1, -1⟩]) := by show _ = _; rw [HE.out]; unfold edS; rw [if_pos rfl]
    obtain ⟨fn, tmps, assign, body, hy, hRd⟩ := HYd.out.yield (n - 1) pre U W1 i k (-1) (-1) HJ1.out HWB.out (by have h := HT.out; rw [HE1.out] at h; exact h)
    rw [HW1.out] at y1 y3 m1 m4 hy hRd
    gi_wp2_with fail
    refine ⟨fun h => (by cases h), hRd.mono ?_⟩
    rintro e' W' ⟨U', hf, hj⟩
    have HG : Hid (∃ go, e' = .returned (.bool go) ∧ ItPost J Jx pre E U W go W') := by
      have hf2 := HF1.out.trans (by rw [HW1.out]; exact hf)
      rcases hj with ⟨rfl, hj⟩ | ⟨rfl, hj⟩
      · exact ⟨true, rfl, U', hf2, .inl ⟨rfl, by rw [HE1.out]; exact hj⟩⟩
      · exact ⟨false, rfl, U', hf2, .inr ⟨rfl, _, by rw [HE1.out]; exact List.prefix_refl _, hj⟩⟩
    obtain ⟨go, rfl, hgo⟩ := HG.out
    have HGo := Lib.hid hgo
    clear hf hj HG hgo
    gi_wp2_with fail
    go_ret
    exact ⟨go, rfl, HGo.out⟩
  · have tz : (sy == 0) = false := by rw [beq_eq_false_iff_ne]; exact hz
    have HE1 : Hid (E = acc (fun j (_ : Pr) => if j = i then [] else (rc j sy).map fun x => (⟨i, k, j, x⟩ : Stp)) e.ps) := by show _ = _; rw [HE.out, HRc.out]; unfold edS; rw [if_neg hz]
    obtain ⟨F, hF⟩ : ∃ F : Nat → Pr → List Stp, F = fun j (_ : Pr) => if j = i then [] else (rc j sy).map fun x => (⟨i, k, j, x⟩ : Stp) := ⟨_, rfl⟩
    rw [← hF] at HE1
    have HFd := Lib.hid hF
    clear hF
    rw [HW1.out] at y1 y3 m1 m4
    gi_wp2_with fail
    rw [← HW1.out]
    clear y1 y3 m1 m4
    gi_loopw [35] (fun v wl => ∃ (j : Nat) (Uc : Nat → Prop), j ≤ e.ps.length ∧ v = .int .i64 j ∧ Hid (Fr U W1 Uc wl) ∧ Hid (J (pre ++ acc F (e.ps.take j)) Uc wl)) (fun v _ => e.ps.length - (intOf v).toNat)
    case atStart => exact ⟨0, U, Nat.zero_le _, rfl, Fr.refl _ _, by show J _ _ _; rw [List.take_zero, acc_nil, List.append_nil]; exact HJ1.out⟩
    case round =>
      clear HJ1
      obtain ⟨j, Uc, hj, rfl, HF, HJ⟩ := hrel
      have HBl : Hid (Below Wb.heap.size Wb wr) := HF.out.below HWB.out HWB.out.size (fun q hq => (HU.out q hq).1)
      have hm1 : wr.cell? ⟨W.heap.size, 4, none⟩ = some (.map (some b)) := (HF.out.row HRm.out (fun hu => by have := (HU.out _ hu).2; omega)).cell 4
      by_cases hlt : j < e.ps.length
      · obtain ⟨pj, hpj⟩ : ∃ pj, e.ps[j]? = some pj := ⟨_, List.getElem?_eq_getElem hlt⟩
        have HPj := Lib.hid hpj
        clear hpj
        by_cases hji : j = i
        · have HJ2 : Hid (J (pre ++ acc F (e.ps.take (j + 1))) Uc wr) := by
            show J _ _ _
            have hFi : F j pj = [] := by rw [HFd.out]; exact if_pos hji
            rw [acc_take_succ HPj.out, hFi, List.append_nil]
            exact HJ.out
          subst hji
          gi_wp2_with fail
          go_roundw
          case rel => exact ⟨j + 1, Uc, by omega, by go_num, HF, HJ2⟩
          case measure => simp [intOf]; omega
        · have tj : ((j : Int) == (i : Int)) = false := by rw [beq_eq_false_iff_ne]; omega
          obtain ⟨A, cap, hlks, hx⟩ := HRb.out.looks (p := j) (c := sy) ⟨⟨by omega, by omega⟩, by omega, by omega⟩
          have hlk' : (Instr.lookup 72 (.map (some b)) (.agg #[.int .i64 j, .int .i64 sy]) false).run Try.prog wr = .ok (.slice A (rc j sy).length cap) wr := hlks wr HBl.out
          obtain ⟨L, hL⟩ : ∃ L, L = rc j sy := ⟨_, rfl⟩
          rw [← hL] at hlk' hx
          have HFj : Hid (F j pj = L.map fun x => (⟨i, k, j, x⟩ : Stp)) := by show _ = _; rw [HFd.out, hL]; exact if_neg hji
          have HX := Lib.hid hx
          obtain ⟨len, hlen⟩ : ∃ len, len = L.length := ⟨_, rfl⟩
          have hl6 : len ≤ 6 := by rw [hlen, hL, HRc.out]; exact rcN_le HSy.out HPj.out sy
          rw [← hlen] at hlk'
          have HLn := Lib.hid hlen
          clear hlks hL hx hlen
          gi_wp2_with fail
          gi_loopw [48] (fun v wl => ∃ (q : Nat) (Uc : Nat → Prop), q ≤ len ∧ v = .int .i64 q ∧ Hid (Fr U W1 Uc wl) ∧ Hid (J (pre ++ acc F (e.ps.take j) ++ ((L.take q).map fun x => (⟨i, k, j, x⟩ : Stp))) Uc wl)) (fun v _ => len - (intOf v).toNat)
          case atStart => exact ⟨0, Uc, Nat.zero_le _, rfl, HF, by show J _ _ _; rw [List.take_zero, List.map_nil, List.append_nil]; exact HJ.out⟩
          case round =>
            clear HF HJ HBl hm1 hlk'
            obtain ⟨q, Uq, hq, rfl, HF, HJ⟩ := hrel
            have HBl : Hid (Below Wb.heap.size Wb wr) := HF.out.below HWB.out HWB.out.size (fun q hq => (HU.out q hq).1)
            by_cases hql : q < len
            · obtain ⟨x, hxq⟩ : ∃ x, L[q]? = some x := ⟨_, List.getElem?_eq_getElem (by rw [← HLn.out]; exact hql)⟩
              obtain ⟨g, rfl, hgl, hcx⟩ := HX.out q x hxq
              have hcw : wr.cell? ⟨g, q, none⟩ = some (.int .i64 x) := (HBl.out.cell (p := ⟨g, q, none⟩) hgl).trans hcx
              have HTk : Hid ((L.take (q + 1)).map (fun x => (⟨i, k, j, x⟩ : Stp)) = (L.take q).map (fun x => (⟨i, k, j, x⟩ : Stp)) ++ [⟨i, k, j, x⟩]) := by
                show _ = _
                rw [List.take_add_one, hxq]
                simp
              have HPfx : Hid (pre ++ acc F (e.ps.take j) ++ ((L.take q).map fun x => (⟨i, k, j, x⟩ : Stp)) ++ [⟨i, k, j, x⟩] <+: pre ++ E) := by
                show _ <+: _
                rw [List.append_assoc (pre ++ acc F (e.ps.take j)), ← HTk.out, List.append_assoc]
                refine (List.prefix_append_right_inj _).2 ?_
                have h1 : acc F (e.ps.take j) ++ (L.map fun x => (⟨i, k, j, x⟩ : Stp)) <+: E := by
                  rw [← HFj.out, ← acc_take_succ HPj.out, HE1.out]
                  exact acc_prefix F e.ps (j + 1) (by omega)
                refine List.IsPrefix.trans ((List.prefix_append_right_inj _).2 ?_) h1
                rw [List.map_take]
                exact List.take_prefix _ _
              obtain ⟨fn, tmps, assign, body, hy, hRd⟩ := HYd.out.yield (n - 1) _ Uq wr i k j x HJ.out HBl.out (HPfx.out.trans HT.out)
              clear hxq hcx
              gi_wp2_with fail
              refine ⟨fun h => (by cases h), hRd.mono ?_⟩
              rintro e' W' ⟨U', hf, (⟨rfl, hj2⟩ | ⟨rfl, hj2⟩)⟩
              · have HF2 := Lib.hid (HF.out.trans hf)
                have HJ2 : Hid (J (pre ++ acc F (e.ps.take j) ++ ((L.take (q + 1)).map fun x => (⟨i, k, j, x⟩ : Stp))) U' W') := by
                  show J _ _ _
                  rw [HTk.out, ← List.append_assoc]
                  exact hj2
                clear hf hj2 hcw hy hRd
                gi_wp2_with fail
                go_roundw
                case rel => exact ⟨q + 1, U', by omega, by go_num, HF2, HJ2⟩
                case measure => simp [intOf]; omega
              · have HGo : Hid (ItPost J Jx pre E U W false W') := ⟨U', (HF1.out.trans HF.out).trans hf, .inr ⟨rfl, _, HPfx.out, hj2⟩⟩
                clear hf hj2 hcw hy hRd
                gi_wp2_with fail
                go_ret
                exact ⟨false, rfl, HGo.out⟩
            · obtain rfl : q = len := by omega
              have HJ2 : Hid (J (pre ++ acc F (e.ps.take (j + 1))) Uq wr) := by
                show J _ _ _
                have h := HJ.out
                rw [HLn.out, List.take_length, ← HFj.out, List.append_assoc, ← acc_take_succ HPj.out] at h
                exact h
              gi_wp2_with fail
              go_roundw
              case rel => exact ⟨j + 1, Uq, by omega, by go_num, HF, HJ2⟩
              case measure => simp [intOf]; omega
      · have hjj : j = e.ps.length := by omega
        subst hjj
        have HGo : Hid (ItPost J Jx pre E U W true wr) := by
          refine ⟨Uc, HF1.out.trans HF.out, .inl ⟨rfl, ?_⟩⟩
          have h := HJ.out
          rw [acc_full, ← HE1.out] at h
          exact h
        gi_wp2_with fail
        go_ret
        exact ⟨true, rfl, HGo.out⟩

end Go.Proofs.Ytefpdkfogfhniaa

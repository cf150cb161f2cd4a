/- The walk of impl.TraceValid. -/
import Derived.Test.YtldnegacgjijlaaJ14
import Derived.Test.YtldnegacgjijlaaTvSQ
import Derived.Test.YtldnegacgjijlaaJ15
import Derived.Test.YtldnegacgjijlaaJ07
import Derived.Deep.RegionHeld3
namespace Go.Proofs.Ytldnegacgjijlaa
open Go.RowKit

theorem pathOk_more {g : Gp} {p : List Int} {x : Int} (hp : 0 < p.length) (hx : inOk g.sts.length x = true) : pathOk g (p ++ [x]) = (pathOk g p && edgeB g (lastN p) x) := by
  have hs : ∀ i, i < p.length → stepOk g (p ++ [x]) i = stepOk g p i := fun i hi => by
    unfold stepOk
    rw [List.getElem?_append_left hi]
    cases hz : p[i]? with
    | none => rfl
    | some z =>
      dsimp only
      by_cases h0 : i = 0
      · rw [decide_eq_true h0, Bool.true_or, Bool.true_or]
      · rw [List.getElem?_append_left (by omega)]
  obtain ⟨y, hy⟩ : ∃ y, p[p.length - 1]? = some y := ⟨_, List.getElem?_eq_getElem (by omega)⟩
  have hl : stepOk g (p ++ [x]) p.length = edgeB g (lastN p) x := by
    unfold stepOk
    rw [List.getElem?_concat_length]
    dsimp only
    rw [List.getElem?_append_left (by omega), hy, last_of hy, decide_eq_false (by omega), hx]
    rfl
  unfold pathOk
  rw [List.length_append, List.length_singleton, decide_eq_true (show 0 < p.length + 1 by omega), decide_eq_true hp, List.range_succ, List.all_append]
  have : (List.range p.length).all (stepOk g (p ++ [x])) = (List.range p.length).all (stepOk g p) := by
    rw [Bool.eq_iff_iff, List.all_eq_true, List.all_eq_true]
    exact ⟨fun h i hi => by rw [← hs i (List.mem_range.1 hi)]; exact h i hi, fun h i hi => by rw [hs i (List.mem_range.1 hi)]; exact h i hi⟩
  rw [this, Bool.true_and, Bool.true_and]
  simp [hl, Bool.and_assoc]
theorem inOk_mem {g : Gp} {p : List Int} {x : Int} (h : pathOk g p = true) {i : Nat} (hi : p[i]? = some x) : inOk g.sts.length x = true := step_in hi (pathOk_step h (List.getElem?_eq_some_iff.1 hi).1)
theorem path_pre {g : Gp} {p : List Int} {x : Int} (hp : 0 < p.length) (h : pathOk g p = false) : pathOk g (p ++ [x]) = false := by
  by_cases hx : inOk g.sts.length x = true
  · rw [pathOk_more hp hx, h]; rfl
  · cases hq : pathOk g (p ++ [x]) with
    | false => rfl
    | true => exact absurd (inOk_mem hq (i := p.length) List.getElem?_concat_length) hx
/-- What the program asks: once round the loop and back. -/
theorem trOk_round {g : Gp} {t : St} {x : Int} (h0 : t.vals[0]? = some x) (h1 : (trAll t).length ≤ 8000) : (decide ((trAll t).headD 0 = 0) && pathOk g (trAll t ++ [x])) = trOk g t := by
  have hv : 0 < t.vals.length := (List.getElem?_eq_some_iff.1 h0).1
  have hp : 0 < (trAll t).length := by show 0 < (t.locs ++ t.vals).length; rw [List.length_append]; omega
  unfold trOk
  rw [decide_eq_true hv, decide_eq_true h1, head_of h0, Bool.true_and, Bool.true_and]
  cases hq : pathOk g (trAll t) with
  | false => rw [path_pre hp hq, Bool.false_and]
  | true => rw [pathOk_more hp (inOk_mem hq (i := t.locs.length) (by show (t.locs ++ t.vals)[t.locs.length]? = _; rw [List.getElem?_append_right (Nat.le_refl _), Nat.sub_self]; exact h0)), hq]

theorem ints_take1 {w : World} {B : Nat} {A : Option Addr} {b off : Nat} {zs : List Int} {x : Int} (h : Ints w B A b off zs) (hx : zs[0]? = some x) : Ints w B A b off [x] := fun i z hz => by
  cases i with
  | zero => injection hz with hz; subst hz; exact h 0 x hx
  | succ i => cases hz

theorem specTvF_any (e : Gp) (C : Nat → Value) (t : St) (D : Nat → Value) (w : World) (hL : Lay.gra.lies w w.heap.size e C) (hM : Tc.trc.lies w w.heap.size t D) (hd : Lay.gra.sz e ≤ 1048576) (hd' : Tc.trc.sz t ≤ 1048576) :
    Calls Try.prog 91 #[.agg #[C 0, C 1], .agg #[D 0, D 1]] w fun e' w' => e' = .returned (.bool (trOk e t)) ∧ Below w.heap.size w w' := specTv_any e C t D w hL (Tc.trc_sta hM) hd (by rw [← Tc.trc_sz]; exact hd')

set_option maxHeartbeats 2000000 in
set_option maxRecDepth 100000 in
theorem implTv_any (e : Gp) (C : Nat → Value) (t : St) (D : Nat → Value) (w : World) (hL : Lay.gra.lies w w.heap.size e C) (hM : Tc.trc.lies w w.heap.size t D) (_hd : Lay.gra.sz e ≤ 1048576) (hd' : Tc.trc.sz t ≤ 1048576) :
    Calls Try.prog 94 #[.agg #[C 0, C 1], .agg #[D 0, D 1]] w fun e' w' => e' = .returned (.bool (trOk e t)) ∧ Below w.heap.size w w' := by
  obtain ⟨W1, hW1⟩ : ∃ W1, W1 = (w.alloc (.cells #[C 0, C 1] 69)).alloc (.cells #[D 0, D 1] 86) := ⟨_, rfl⟩
  have hrows := rows2 w 69 86 #[C 0, C 1] #[D 0, D 1]
  rw [← hW1] at hrows
  obtain ⟨hra, hrb, hb0⟩ := hrows
  have HL := Lib.hid (Lay.gra.later hL hb0 hb0.size)
  have hM1 := Lay.sta.later (Tc.trc_sta hM) hb0 hb0.size
  obtain ⟨_, hfit⟩ := Tc.trc_fit hM
  obtain ⟨stem, loop⟩ := t
  obtain ⟨⟨A4, cap4, b4, off4, D4, q4, hl4, hO4⟩, A5, cap5, b5, off5, D5, q5, hl5, hO5⟩ := sta_lies hM1
  have hfl : loop.length ≤ cap5 := hfit _ _ _ q5
  rw [q4, q5] at hrb hW1 ⊢
  have hsz : stem.length + loop.length ≤ 1048576 := by rw [Tc.trc_sz, sta_sz] at hd'; exact hd'
  have HI := Lib.hid (ints_of hO4)
  have HJ := Lib.hid (ints_of hO5)
  have HRa := Lib.hid hra
  have HRb := Lib.hid hrb
  have HB0 := Lib.hid hb0
  have HW1 := Lib.hid hW1
  have hlt1 : w.heap.size + 1 < W1.heap.size := hrb.lt
  obtain ⟨n, hn⟩ : ∃ n, n = stem.length := ⟨_, rfl⟩
  obtain ⟨m, hm⟩ : ∃ m, m = loop.length := ⟨_, rfl⟩
  have HN := Lib.hid hn
  have HMl := Lib.hid hm
  have HAl : Hid ((trAll ⟨stem, loop⟩).length = n + m) := by show (stem ++ loop).length = _; rw [List.length_append, hn, hm]
  rw [← hn, ← hm] at HRb HW1 hsz ⊢
  rw [← hm] at hfl
  clear hL hM hra hrb hb0 hW1 hd' hM1 hfit q4 q5 hl4 hl5 hO4 hO5 hn hm
  by_cases hv : m < 1
  · have HF := Lib.hid (trOk_empty (g := e) (t := ⟨stem, loop⟩) (by show loop.length < 1; rw [← HMl.out]; exact hv))
    obtain rfl : m = 0 := by omega
    go_enter Try.func94, Try.ntmps94
    go_wp2_with fail
    go_ret
    rw [← HW1.out]
    exact ⟨ret_bool HF.out.symm, HB0.out⟩
  have hmB : ((m : Int) == 0) = false := by simp; omega
  have hwr : IntKind.i64.wrap ((n : Int) + (m : Int)) = (n : Int) + (m : Int) := IntWalk.i64_in _ (by omega)
  by_cases hlong : 8000 < n + m
  · have HF := Lib.hid (trOk_long (g := e) (t := ⟨stem, loop⟩) (by rw [HAl.out]; exact hlong))
    have hlI : (8000 : Int) < (n : Int) + (m : Int) := by omega
    clear hv
    go_enter Try.func94, Try.ntmps94
    go_wp2_with fail
    go_ret
    rw [← HW1.out]
    exact ⟨ret_bool HF.out.symm, HB0.out⟩
  have hlI : ¬ (8000 : Int) < (n : Int) + (m : Int) := by omega
  obtain ⟨x, hx⟩ : ∃ x, loop[0]? = some x := ⟨_, List.getElem?_eq_getElem (by rw [← HMl.out]; omega)⟩
  have HR := Lib.hid (trOk_round (g := e) (t := ⟨stem, loop⟩) hx (by rw [HAl.out]; omega))
  obtain ⟨y, hy⟩ : ∃ y, (trAll ⟨stem, loop⟩)[0]? = some y := ⟨_, List.getElem?_eq_getElem (by rw [HAl.out]; omega)⟩
  have HHd := Lib.hid (head_of hy)
  have HX := Lib.hid hx
  have HY := Lib.hid hy
  have hc1 : (1 : Int) ≤ (cap5 : Int) := by omega
  have HKS : Hid (∀ X, Below W1.heap.size W1 X → X.cell? ⟨w.heap.size + 1, 0, none⟩ = some (.slice A4 n cap4) ∧ X.cell? ⟨w.heap.size + 1, 1, none⟩ = some (.slice A5 m cap5)) := fun X h => (HRb.out.under h HRb.out.lt).two
  clear hv hlong hx hy
  go_enter Try.func94, Try.ntmps94
  go_wp2_with fail
  rw [← HW1.out]
  obtain ⟨f0, f1⟩ := HRb.out.two
  go_upto_region 3 with fail
  go_cut [5] from 20 to 28 (fun v wx => ∃ (G : Option Addr) (g o c : Nat), v = .slice G (n + m + 1) c ∧ Hid (Ints wx wx.heap.size G g o (trAll ⟨stem, loop⟩ ++ [x])) ∧ Hid (Below W1.heap.size W1 wx))
  case first =>
    refine wp_region_held_drew (S := (fun w' => w'.cell? ⟨w.heap.size + 1, 0, none⟩ = some (.slice A4 n cap4) ∧ w'.cell? ⟨w.heap.size + 1, 1, none⟩ = some (.slice A5 m cap5))) (by kernel_rfl) ?_ (fun hHeld => ?_)
    · exact HKS.out _ (Below.refl _ _).drew
    obtain ⟨X0, hX0⟩ : ∃ X, X = W1.drew := ⟨_, rfl⟩
    rw [← hX0] at hHeld ⊢
    have hbX0 : Below W1.heap.size W1 X0 := by rw [hX0]; exact (Below.refl _ _).drew
    clear hX0
    refine wpAnyH_take (i := 0) (oi := { dst := some 20, op := Go.Op.fieldAddr 86 (Go.Operand.tmp 3) 0, type := 0, pos := "l8_check.go:72", after := #[], guard := none }) (v := ?_) rfl (by kernel_rfl) (by kernel_rfl) (by kernel_rfl) (fun _ _ _ h => h) (Or.inl ⟨by rfl, ?_⟩) (by assumption) ?_
    rotate_left
    · intro w hSw
      try dsimp only at hSw
      go_simp
      all_goals (with_reducible rfl)
    try simp only [Act.put, List.setIfInBounds_toArray, List.set_cons_zero, List.set_cons_succ]
    refine wpAnyH_take (i := 1) (oi := { dst := some 21, op := Go.Op.load 22 (Go.Operand.tmp 20), type := 22, pos := "l8_check.go:72", after := #[{ on := 0, ground := Go.Ground.data }], guard := none }) (v := ?_) rfl (by kernel_rfl) (by kernel_rfl) (by kernel_rfl) (fun _ _ _ h => h) (Or.inl ⟨by rfl, ?_⟩) (by assumption) ?_
    rotate_left
    · intro w hSw
      try dsimp only at hSw
      go_simp
      all_goals (with_reducible rfl)
    try simp only [Act.put, List.setIfInBounds_toArray, List.set_cons_zero, List.set_cons_succ]
    refine wpAnyH_take (i := 2) (oi := { dst := some 22, op := Go.Op.fieldAddr 86 (Go.Operand.tmp 3) 1, type := 0, pos := "l8_check.go:72", after := #[], guard := none }) (v := ?_) rfl (by kernel_rfl) (by kernel_rfl) (by kernel_rfl) (fun _ _ _ h => h) (Or.inl ⟨by rfl, ?_⟩) (by assumption) ?_
    rotate_left
    · intro w hSw
      try dsimp only at hSw
      go_simp
      all_goals (with_reducible rfl)
    try simp only [Act.put, List.setIfInBounds_toArray, List.set_cons_zero, List.set_cons_succ]
    refine wpAnyH_take (i := 3) (oi := { dst := some 23, op := Go.Op.load 22 (Go.Operand.tmp 22), type := 22, pos := "l8_check.go:72", after := #[{ on := 2, ground := Go.Ground.data }], guard := none }) (v := ?_) rfl (by kernel_rfl) (by kernel_rfl) (by kernel_rfl) (fun _ _ _ h => h) (Or.inl ⟨by rfl, ?_⟩) (by assumption) ?_
    rotate_left
    · intro w hSw
      try dsimp only at hSw
      go_simp
      all_goals (with_reducible rfl)
    try simp only [Act.put, List.setIfInBounds_toArray, List.set_cons_zero, List.set_cons_succ]
    refine wpAnyH_take (i := 4) (oi := { dst := some 24, op := Go.Op.fieldAddr 86 (Go.Operand.tmp 3) 1, type := 0, pos := "l8_check.go:72", after := #[], guard := none }) (v := ?_) rfl (by kernel_rfl) (by kernel_rfl) (by kernel_rfl) (fun _ _ _ h => h) (Or.inl ⟨by rfl, ?_⟩) (by assumption) ?_
    rotate_left
    · intro w hSw
      try dsimp only at hSw
      go_simp
      all_goals (with_reducible rfl)
    try simp only [Act.put, List.setIfInBounds_toArray, List.set_cons_zero, List.set_cons_succ]
    refine wpAnyH_take (i := 5) (oi := { dst := some 25, op := Go.Op.load 22 (Go.Operand.tmp 24), type := 22, pos := "l8_check.go:72", after := #[{ on := 4, ground := Go.Ground.data }], guard := none }) (v := ?_) rfl (by kernel_rfl) (by kernel_rfl) (by kernel_rfl) (fun _ _ _ h => h) (Or.inl ⟨by rfl, ?_⟩) (by assumption) ?_
    rotate_left
    · intro w hSw
      try dsimp only at hSw
      go_simp
      all_goals (with_reducible rfl)
    try simp only [Act.put, List.setIfInBounds_toArray, List.set_cons_zero, List.set_cons_succ]
    refine wpAnyH_take (i := 6) (oi := { dst := some 26, op := Go.Op.slice 22 (Go.Operand.tmp 25) none (some (Go.Operand.const (Go.Value.int Go.IntKind.i64 1))) none, type := 22, pos := "l8_check.go:72", after := #[{ on := 5, ground := Go.Ground.data }], guard := none }) (v := ?_) rfl (by kernel_rfl) (by kernel_rfl) (by kernel_rfl) (fun _ _ _ h => h) (Or.inl ⟨by rfl, ?_⟩) (by assumption) ?_
    rotate_left
    · intro w hSw
      try dsimp only at hSw
      go_simp
      all_goals (with_reducible rfl)
    try simp only [Act.put, List.setIfInBounds_toArray, List.set_cons_zero, List.set_cons_succ]
    refine wpAnyH_ready (rs := [7]) (by kernel_rfl) (by simp) (AllReadyH.cons (o := { dst := some 27, op := Go.Op.buildSlice 59 3 #[(0, Go.Operand.tmp 21), (1, Go.Operand.tmp 23), (2, Go.Operand.tmp 26)], type := 59, pos := "l8_check.go:72", after := #[{ on := 1, ground := Go.Ground.data }, { on := 3, ground := Go.Ground.data }, { on := 6, ground := Go.Ground.data }], guard := none }) rfl (fun K hK => ?_) AllReadyH.nil)
    go_simp
    obtain ⟨X1, hX1⟩ : ∃ X1, X1 = X0.alloc (.cells #[.slice A4 n cap4, .slice A5 m cap5, .slice A5 1 cap5] 22) := ⟨_, rfl⟩
    have hb1 : Below W1.heap.size W1 X1 := by rw [hX1]; exact hbX0.alloc hbX0.size _
    have HQ : Hid (Row X1 X0.heap.size 22 #[.slice A4 n cap4, .slice A5 m cap5, .slice A5 1 cap5]) := by rw [hX1]; exact Row.new _ _ _
    have HB1 := Lib.hid hb1
    have hq1 : X0.heap.size < X1.heap.size := HQ.out.lt
    rw [← hX1]
    clear hX1 hb1 hbX0
    refine hK.out _ _ ?_ (fun hHeld => ?_)
    · exact HKS.out _ HB1.out
    clear hK K
    try simp only [Act.put, List.setIfInBounds_toArray, List.set_cons_zero, List.set_cons_succ]
    refine wpAnyH_ready (rs := [8]) (by kernel_rfl) (by simp) (AllReadyH.cons (o := { dst := some 28, op := Go.Op.call { callee := Go.Callee.value (Go.Operand.func 128), args := #[Go.Operand.tmp 27], argTypes := #[59] }, type := 22, pos := "l8_check.go:72", after := #[{ on := 7, ground := Go.Ground.data }], guard := none }) rfl (fun K hK => ?_) AllReadyH.nil)
    go_simp
    refine (La.concatN_any [stem, loop, [x]] X0.heap.size X1 (by simp) (by simp; have := HMl.out; omega) (by simp; have := HMl.out; have := HN.out; omega) hq1 (fun i xs hx => ?_)).mono ?_
    · have h4 := (HI.out.under HB1.out HB1.out.size)
      have h5 := (HJ.out.under HB1.out HB1.out.size)
      rcases i with _ | _ | _ | i
      · injection hx with hx; subst hx; exact ⟨A4, cap4, b4, off4, by rw [← HN.out]; exact HQ.out.cell 0, h4⟩
      · injection hx with hx; subst hx; exact ⟨A5, cap5, b5, off5, by rw [← HMl.out]; exact HQ.out.cell 1, h5⟩
      · injection hx with hx; subst hx; exact ⟨A5, cap5, b5, off5, HQ.out.cell 2, ints_take1 h5 HX.out⟩
      · cases hx
    rintro e' X2 ⟨Ag, kg, rfl, hs2, hb2⟩
    have HB2 : Hid (Below W1.heap.size W1 X2) := HB1.out.trans (hb2.mono HB1.out.size)
    have HS2 := Lib.hid hs2
    clear hb2 hs2
    try go_wp2_with fail
    refine hK.out _ _ ?_ (fun hHeld => ?_)
    · exact HKS.out _ HB2.out
    clear hK K
    try simp only [Act.put, List.setIfInBounds_toArray, List.set_cons_zero, List.set_cons_succ]
    refine wpAnyH_take (i := 9) (oi := { dst := some 5, op := Go.Op.assign (Go.Operand.tmp 28), type := 22, pos := "l8_check.go:72", after := #[{ on := 8, ground := Go.Ground.data }, { on := 8, ground := Go.Ground.chain }, { on := 0, ground := Go.Ground.phase }, { on := 1, ground := Go.Ground.phase }, { on := 2, ground := Go.Ground.phase }, { on := 3, ground := Go.Ground.phase }, { on := 4, ground := Go.Ground.phase }, { on := 5, ground := Go.Ground.phase }, { on := 6, ground := Go.Ground.phase }, { on := 7, ground := Go.Ground.phase }, { on := 8, ground := Go.Ground.phase }], guard := none }) (v := ?_) rfl (by kernel_rfl) (by kernel_rfl) (by kernel_rfl) (fun _ _ _ h => h) (Or.inl ⟨by rfl, ?_⟩) (by assumption) ?_
    rotate_left
    · intro w hSw
      try dsimp only at hSw
      go_simp
      all_goals (with_reducible rfl)
    try simp only [Act.put, List.setIfInBounds_toArray, List.set_cons_zero, List.set_cons_succ]
    refine wpAnyH_done (by kernel_rfl) ?_ _
    go_wp2_with fail
    go_meet
    have hfl : ([stem, loop, [x]] : List (List Int)).flatten = trAll ⟨stem, loop⟩ ++ [x] := by simp [trAll]
    obtain ⟨A', cap', b', off', D', e0, _, hO⟩ := (Lay.int.slice 3).sep_lies HS2.out
    injection e0 with e1 e2 e3
    subst e1
    exact ⟨Ag, b', off', kg, by rw [show stem.length + (loop.length + 1) = n + m + 1 by have := HN.out; have := HMl.out; omega], by rw [← hfl]; exact ints_of hO, HB2⟩
  case rest =>
  obtain ⟨G, g, o, c, rfl, HIc, HBc⟩ := hcut
  obtain ⟨rfl, _, c0⟩ := HIc.out 0 y (by rw [List.getElem?_append_left (List.getElem?_eq_some_iff.1 HY.out).1]; exact HY.out)
  have c0' : wc.cell? ⟨g, o, none⟩ = some (.int .i64 y) := c0
  obtain ⟨a0, a1⟩ := (HRa.out.under HBc.out HRa.out.lt).two
  clear c0 f0 f1
  by_cases hy0 : y = 0
  case neg =>
    have hyB : (y == 0) = false := by simp [hy0]
    have HF : Hid (trOk e ⟨stem, loop⟩ = false) := by show _ = _; rw [← HR.out, HHd.out, decide_eq_false hy0]; rfl
    clear hy0
    go_wp2_with fail
    go_ret
    exact ⟨ret_bool HF.out.symm, HB0.out.trans (HBc.out.mono HB0.out.size)⟩
  subst hy0
  obtain ⟨v, hv⟩ : ∃ v, v = pathOk e (trAll ⟨stem, loop⟩ ++ [x]) := ⟨_, rfl⟩
  have HF : Hid (trOk e ⟨stem, loop⟩ = v) := by show _ = _; rw [← HR.out, HHd.out, hv]; rfl
  have HV := Lib.hid hv
  clear hv
  have HPv := Lib.hid (implPv_any e C (trAll ⟨stem, loop⟩ ++ [x]) (some ⟨g, o, none⟩) c g o wc (Lay.gra.later HL.out HBc.out HBc.out.size) (by rw [List.length_append, HAl.out]; unfold maxLen; simp; omega) HIc.out)
  rw [List.length_append, HAl.out, ← HV.out] at HPv
  go_wp2_with fail
  refine HPv.out.mono ?_
  rintro e' w2 ⟨rfl, hb2⟩
  have HB2 : Hid (Below W1.heap.size W1 w2) := HBc.out.trans (hb2.mono HBc.out.size)
  clear hb2
  cases v
  · go_wp2_with fail
    go_ret
    exact ⟨ret_bool HF.out.symm, HB0.out.trans (HB2.out.mono HB0.out.size)⟩
  · go_wp2_with fail
    go_ret
    exact ⟨ret_bool HF.out.symm, HB0.out.trans (HB2.out.mono HB0.out.size)⟩

end Go.Proofs.Ytldnegacgjijlaa

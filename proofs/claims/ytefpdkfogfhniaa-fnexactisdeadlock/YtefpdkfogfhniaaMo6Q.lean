/- The walk of impl.IsDeadlock. -/
import Derived.Test.YtefpdkfogfhniaaMo5Q
import Derived.Test.YtefpdkfogfhniaaSpDQ
import Derived.Shelf.Abstract
namespace Go.Proofs.Ytefpdkfogfhniaa
open Go.RowKit
attribute [local go_sem] Oper.semAt_some

theorem rows3 (w : World) (t u v : TypeId) (a b c : Array Value) : Row (((w.alloc (.cells a t)).alloc (.cells b u)).alloc (.cells c v)) w.heap.size t a ∧ Row (((w.alloc (.cells a t)).alloc (.cells b u)).alloc (.cells c v)) (w.heap.size + 1) u b ∧ Row (((w.alloc (.cells a t)).alloc (.cells b u)).alloc (.cells c v)) (w.heap.size + 2) v c ∧ Below w.heap.size w (((w.alloc (.cells a t)).alloc (.cells b u)).alloc (.cells c v)) := by
  obtain ⟨r1, r2, r3⟩ := rows2 w t u a b
  have hb : Below (w.heap.size + 2) ((w.alloc (.cells a t)).alloc (.cells b u)) (((w.alloc (.cells a t)).alloc (.cells b u)).alloc (.cells c v)) := (Below.refl _ _).alloc (by simp) _
  refine ⟨r1.under hb (by omega), r2.under hb (by omega), ?_, r3.trans (hb.mono (by omega))⟩
  have h := Row.new ((w.alloc (.cells a t)).alloc (.cells b u)) v c
  rw [show ((w.alloc (.cells a t)).alloc (.cells b u)).heap.size = w.heap.size + 2 by simp] at h
  exact h

set_option maxHeartbeats 2000000 in
set_option maxRecDepth 100000 in
theorem deadI_any (e : Sy) (C : Nat → Value) (f : St) (D : Nat → Value) (w : World) (hL : Lay.sy.lies w w.heap.size e C) (hM : Lay.sta.lies w w.heap.size f D) (hd : Lay.sy.sz e ≤ 1048576) (hd2 : Lay.sta.sz f ≤ 1048576) :
    Calls Try.prog 24 #[.agg #[C 0, C 1], .agg #[D 0, D 1]] w fun e' w' => e' = .returned (.bool (deadB e f)) ∧ Below w.heap.size w w' := by
  have hds : ∀ (i : Nat) (p : Pr), e.ps[i]? = some p → ∀ (k : Nat) (d : Ed), p.es[k]? = some d → desc d.g ≤ 1048576 := fun i p hp k d hdd => by
    have h1 := Lay.pr.szL_mem hp
    have h2 := Lay.ed.szL_mem hdd
    have h3 := sy_sz e
    have h4 := pr_sz p
    have h5 := ed_sz d
    omega
  obtain ⟨W1, hW1⟩ : ∃ W1, W1 = (((w.alloc (.cells #[C 0, C 1] 33)).alloc (.cells #[D 0, D 1] 28)).alloc (.cells #[.bool false] 4)) := ⟨_, rfl⟩
  obtain ⟨r1, r2, r4, r3⟩ := rows3 w 33 28 4 #[C 0, C 1] #[D 0, D 1] #[.bool false]
  rw [← hW1] at r1 r2 r3 r4
  have HV : Hid (Calls Try.prog 40 #[.agg #[C 0, C 1], .agg #[D 0, D 1]] W1 fun e' w' => e' = .returned (.bool (stOk e f)) ∧ Below W1.heap.size W1 w') := implStV_any e C f D W1 (Lay.sy.later hL r3 r3.size) (Lay.sta.later hM r3 r3.size) hd hd2
  have HD : Hid (deadB e f = (stOk e f && decide ((steps e f).length = 0))) := rfl
  have HHv : Hid (stOk e f = true → ∀ w2, Below w.heap.size w w2 → Have e C f D w2) := fun hok w2 hb => ⟨Lay.sy.later hL hb hb.size, Lay.sta.later hM hb hb.size, hok⟩
  have HDs := Lib.hid hds
  have HR1 := Lib.hid r1
  have HR2 := Lib.hid r2
  have HR4 := Lib.hid r4
  have HB1 := Lib.hid r3
  have HW1 := Lib.hid hW1
  have HMo : Hid (∀ w2, Have e C f D w2 → Calls Try.prog 48 #[.agg #[C 0, C 1], .agg #[D 0, D 1]] w2 fun e' w' => ∃ (b : Nat) (es : Array MapEntry), e' = .returned (.agg #[C 0, C 1, D 0, D 1, .map (some b)]) ∧ w2.heap.size ≤ b ∧ Recv w' b (b + 2) (rcN e f e.ps.length 0) es ∧ Below w2.heap.size w2 w') := fun w2 hh => momentOf_any e C f D w2 hh HDs.out
  have HSt : Hid (∀ W, Have e C f D W → ∀ (b base : Nat) (es : Array MapEntry), Recv W b base (rcN e f e.ps.length 0) es → ∀ (n l : Nat) (Jx : World → Prop), (∀ (m : Nat) (x0 x1 x2 x3 : Int) (W1 : World), Below W.heap.size W W1 → YieldAt Fence.wide m Try.prog l #[.agg #[.int .i64 x0, .int .i64 x1, .int .i64 x2, .int .i64 x3]] W1 fun e' W' => e' = .returned (.bool false) ∧ Jx W') →
      CallsIn Fence.wide n Try.prog 49 #[.agg #[C 0, C 1, D 0, D 1, .map (some b)], .func (.yield l) #[] #[]] W fun e' W' => (∃ v, e' = .returned v) ∧ ((steps e f = [] ∧ Below W.heap.size W W') ∨ (steps e f ≠ [] ∧ Jx W'))) := fun W hh b base es hR n l Jx hY => steps_first e C f D W hh HDs.out b base es hR n l Jx hY
  obtain ⟨c0, hc0⟩ : ∃ c0, c0 = C 0 := ⟨_, rfl⟩
  obtain ⟨c1, hc1⟩ : ∃ c1, c1 = C 1 := ⟨_, rfl⟩
  obtain ⟨u0, hu0⟩ : ∃ u0, u0 = D 0 := ⟨_, rfl⟩
  obtain ⟨u1, hu1⟩ : ∃ u1, u1 = D 1 := ⟨_, rfl⟩
  rw [← hc0, ← hc1, ← hu0, ← hu1] at HV HW1 HMo HSt ⊢
  rw [← hc0, ← hc1] at HR1
  rw [← hu0, ← hu1] at HR2
  obtain ⟨s0, s1⟩ := HR1.out.two
  obtain ⟨t0, t1⟩ := HR2.out.two
  have hf4 : W1.frozen? ⟨w.heap.size + 1 + 1, 0, none⟩ = false := HR4.out.frozen 0
  have hc4 : W1.cell? ⟨w.heap.size + 1 + 1, 0, none⟩ = some (.bool false) := HR4.out.cell 0
  clear hL hM hc0 hc1 hu0 hu1 r1 r2 r3 r4 hW1 hds hd hd2
  refine (callsIn_wide (n := 3)).1 ?_
  refine callsIn_of_wp_marks Try.func24 rfl trivial ?_ rfl
  simp only [Try.ntmps24, List.size_toArray, List.length_cons, List.length_nil, Nat.reduceAdd, Nat.reduceSub, Array.replicate_succ, Array.replicate_zero, List.push_toArray, List.append_toArray, List.nil_append, List.cons_append]
  gi_wp2_with fail
  rw [← HW1.out]
  refine ⟨trivial, (callsIn_wide.2 HV.out).mono ?_⟩
  rintro e' w2 ⟨rfl, hb2⟩
  obtain ⟨o, ho⟩ : ∃ o, o = stOk e f := ⟨_, rfl⟩
  rw [← ho] at HD HHv ⊢
  have HB2 : Hid (Below w.heap.size w w2) := HB1.out.trans (hb2.mono HB1.out.size)
  have HR42 := Lib.hid (HR4.out.under hb2 HR4.out.lt)
  obtain ⟨s0, s1⟩ := (HR1.out.under hb2 HR1.out.lt).two
  obtain ⟨t0, t1⟩ := (HR2.out.under hb2 HR2.out.lt).two
  have hf4 : w2.frozen? ⟨w.heap.size + 1 + 1, 0, none⟩ = false := HR42.out.frozen 0
  have hc4 : w2.cell? ⟨w.heap.size + 1 + 1, 0, none⟩ = some (.bool false) := HR42.out.cell 0
  clear hb2 HR1 HR2 HR4 ho
  cases o
  · have HR5 : Hid (Row (w2.setCell ⟨w.heap.size + 1 + 1, 0, none⟩ (.bool false)) (w.heap.size + 2) 4 #[.bool false]) := by
      exact HR42.out.set_ 0 (.bool false)
    have HB5 : Hid (Below w.heap.size w (w2.setCell ⟨w.heap.size + 1 + 1, 0, none⟩ (.bool false))) := HB2.out.setCell (p := ⟨w.heap.size + 1 + 1, 0, none⟩) (by show w.heap.size ≤ w.heap.size + 1 + 1; omega) _
    gi_wp2_with fail
    have q5 : (w2.setCell ⟨w.heap.size + 1 + 1, 0, none⟩ (.bool false)).cell? ⟨w.heap.size + 1 + 1, 0, none⟩ = some (.bool false) := HR5.out.cell 0
    show LeavesInM _ _ _ _ _ _ [] _ _
    unfold LeavesInM
    refine ⟨.bool false, by simp [results, Try.results24, go_sem, q5], ?_⟩
    exact ⟨by rw [HD.out]; rfl, HB5.out⟩
  · have HH2 := Lib.hid (HHv.out rfl w2 HB2.out)
    clear HHv
    gi_wp2_with fail
    refine ⟨trivial, (callsIn_wide.2 (HMo.out w2 HH2.out)).mono ?_⟩
    rintro e' w3 ⟨b, es, rfl, hbb, hR, hb3⟩
    have HB3 : Hid (Below w.heap.size w w3) := HB2.out.trans (hb3.mono HB2.out.size)
    have HR43 := Lib.hid (HR42.out.under hb3 HR42.out.lt)
    have HRv := Lib.hid hR
    have HH3 := Lib.hid (HH2.out.later hb3)
    clear hb3 hR s0 s1 t0 t1 hf4 hc4
    gi_wp2_with fail
    have eg := steps_enters
    refine wpIn_range_bound rfl rfl trivial eg (fun h => (by cases h)) ?_
    intro fn R0 _ hR0
    obtain ⟨W4, hW4⟩ : ∃ W4, W4 = (w3.alloc (.deferred (some []))).alloc (.loop R0) := ⟨_, rfl⟩
    rw [← hW4]
    have hb4 : Below w3.heap.size w3 W4 := by rw [hW4]; exact ((Below.refl _ _).alloc (Nat.le_refl _) _).alloc (by simp) _
    have hsz4 : W4.heap.size = w3.heap.size + 2 := by rw [hW4]; simp
    have hL4 : W4.heap[w3.heap.size + 1]? = some (.loop R0) := by
      have h := heap_alloc_new (w3.alloc (.deferred (some []))) (.loop R0)
      rw [← hW4] at h
      simpa using h
    have hK4 : W4.heap[w3.heap.size]? = some (.deferred (some [])) := by
      have h := heap_alloc_new w3 (.deferred (some []))
      have hb : Below (w3.heap.size + 1) (w3.alloc (.deferred (some []))) W4 := by rw [hW4]; exact (Below.refl _ _).alloc (by simp) _
      exact (hb.block _ (by omega)).trans h
    have h2s : w.heap.size + 2 < w3.heap.size := HR43.out.lt
    refine (HSt.out W4 (HH3.out.later hb4) b (b + 2) es (HRv.out.under hb4) (3 - 1) (w3.heap.size + 1) (fun W' => W'.heap[w3.heap.size + 1]? = some (.loop { R0 with state := .done, pending := some .ret }) ∧ W'.heap[w3.heap.size]? = some (.deferred (some [])) ∧ Row W' (w.heap.size + 2) 4 #[.bool false] ∧ Below w.heap.size w W') ?_).mono ?_
    · intro m x0 x1 x2 x3 W5 hb5
      have hl5 : W5.heap[w3.heap.size + 1]? = some (.loop R0) := (hb5.block _ (by omega)).trans hL4
      have hk5 : W5.heap[w3.heap.size]? = some (.deferred (some [])) := (hb5.block _ (by omega)).trans hK4
      have hr5 : Row W5 (w.heap.size + 2) 4 #[.bool false] := (HR43.out.under hb4 HR43.out.lt).under hb5 (by omega)
      have hbw5 : Below w.heap.size w W5 := (HB3.out.trans (hb4.mono HB3.out.size)).trans (hb5.mono (HB3.out.trans (hb4.mono HB3.out.size)).size)
      have hy := run_yield (P := Try.prog) (args := #[.agg #[.int .i64 x0, .int .i64 x1, .int .i64 x2, .int .i64 x3]]) hl5 (by rw [hR0]; rfl)
      obtain ⟨W6, hW6⟩ : ∃ W6, W6 = W5.putObj (w3.heap.size + 1) (.loop { R0 with state := .busy }) := ⟨_, rfl⟩
      have hlt5 : w3.heap.size + 1 < W5.heap.size := lt_of_heap hl5
      have hl6 : W6.heap[w3.heap.size + 1]? = some (.loop { R0 with state := .busy }) := by rw [hW6]; exact World.putObj_heap_same hlt5
      have hk6 : W6.heap[w3.heap.size]? = some (.deferred (some [])) := by rw [hW6]; exact (World.putObj_heap_other (by omega)).trans hk5
      have hr6 : Row W6 (w.heap.size + 2) 4 #[.bool false] := by rw [hW6]; exact (World.putObj_heap_other (by omega)).trans hr5
      have hbr := run_beginRound (P := Try.prog) hl5 (by rw [hR0])
      rw [← hW6] at hbr
      obtain ⟨Rp, HRp⟩ : ∃ Rp : Ending → World → Prop, Hid (∀ (e' : Ending) (W' : World), Rp e' W' ↔ (e' = .returned (.bool false) ∧ W'.heap[w3.heap.size + 1]? = some (.loop { R0 with state := .done, pending := some .ret }) ∧ W'.heap[w3.heap.size]? = some (.deferred (some [])) ∧ Row W' (w.heap.size + 2) 4 #[.bool false] ∧ Below w.heap.size w W')) := ⟨_, fun _ _ => Iff.rfl⟩
      refine ⟨_, _, _, _, hy, (roundIn_of_wpIn (R := Rp) trivial ?_).mono fun e' W' h => (HRp.out e' W').1 h⟩
      have hc6 : W6.cell? ⟨w.heap.size + 1 + 1, 0, none⟩ = some (.bool false) := hr6.cell 0
      have hf6 : W6.frozen? ⟨w.heap.size + 1 + 1, 0, none⟩ = false := hr6.frozen 0
      have hg7 := grown_set W6 (w.heap.size + 2) 0 (.bool false)
      have hl7 : (W6.setCell ⟨w.heap.size + 1 + 1, 0, none⟩ (.bool false)).heap[w3.heap.size + 1]? = some (.loop { R0 with state := .busy }) := (hg7.block _ (lt_of_heap hl6) (by intro e9; injection e9 with e9; omega)).trans hl6
      have hend := run_endRound (P := Try.prog) (some .ret) hl7
      have HF : Hid (Rp (.returned (.bool false)) ((W6.setCell ⟨w.heap.size + 1 + 1, 0, none⟩ (.bool false)).putObj (w3.heap.size + 1) (.loop { R0 with state := .done, pending := some .ret }))) := by
        refine (HRp.out _ _).2 ⟨rfl, World.putObj_heap_same (lt_of_heap hl7), ?_, ?_, ?_⟩
        · exact (World.putObj_heap_other (by omega)).trans ((hg7.block _ (lt_of_heap hk6) (by intro e9; injection e9 with e9; omega)).trans hk6)
        · exact (World.putObj_heap_other (by omega)).trans (hr6.set_ 0 (.bool false))
        · have b6 : Below w.heap.size w W6 := by rw [hW6]; exact hbw5.grown (putM_grown W5 _ _) hbw5.size (fun k e9 => by injection e9 with e9; omega)
          have b7 := b6.grown hg7 b6.size (fun k e9 => by injection e9 with e9; omega)
          exact b7.grown (putM_grown _ (w3.heap.size + 1) _) b7.size (fun k e9 => by injection e9 with e9; omega)
      have HEn := Lib.hid hend
      have HBR := Lib.hid hbr
      clear hl6 hk6 hr6 hbr hbw5 hW6 hend hl7 hg7 hy hr5 hk5 hl5 hb5 HRp hL4 hK4 hb4 hW4
      rw [hR0]
      dsimp only
      clear hR0
      gi_wp2_with fail
      refine ⟨W6, HBR.out, ?_⟩
      gi_wp2_with fail
      exact ⟨_, _, HEn.out, HF.out⟩
    · rintro e' W6 ⟨⟨v, rfl⟩, (⟨hnil, hb6⟩ | ⟨hne, hl6, hk6, hr6, hb6⟩)⟩
      · have hl6 : W6.heap[w3.heap.size + 1]? = some (.loop R0) := (hb6.block _ (by omega)).trans hL4
        have hk6 : W6.heap[w3.heap.size]? = some (.deferred (some [])) := (hb6.block _ (by omega)).trans hK4
        have hr6 : Row W6 (w.heap.size + 2) 4 #[.bool false] := (HR43.out.under hb4 HR43.out.lt).under hb6 (by omega)
        have hbw6 : Below w.heap.size w W6 := (HB3.out.trans (hb4.mono HB3.out.size)).trans (hb6.mono (HB3.out.trans (hb4.mono HB3.out.size)).size)
        have hel := run_endLoop (P := Try.prog) hl6 (by rw [hR0]; simp)
        rw [show R0.pending = none by rw [hR0]] at hel
        obtain ⟨W7, hW7⟩ : ∃ W7, W7 = W6.putObj (w3.heap.size + 1) (.loop { R0 with state := .exhausted, pending := none }) := ⟨_, rfl⟩
        rw [← hW7] at hel
        have hk7 : W7.heap[w3.heap.size]? = some (.deferred (some [])) := by rw [hW7]; exact (World.putObj_heap_other (by omega)).trans hk6
        have hr7 : Row W7 (w.heap.size + 2) 4 #[.bool false] := by rw [hW7]; exact (World.putObj_heap_other (by omega)).trans hr6
        have hb7 : Below w.heap.size w W7 := by rw [hW7]; exact hbw6.grown (putM_grown W6 _ _) hbw6.size (fun k e9 => by injection e9 with e9; omega)
        have hg8 := grown_set W7 (w.heap.size + 2) 0 (.bool true)
        have hk8 : (W7.setCell ⟨w.heap.size + 1 + 1, 0, none⟩ (.bool true)).heap[w3.heap.size]? = some (.deferred (some [])) := (hg8.block _ (lt_of_heap hk7) (by intro e9; injection e9 with e9; omega)).trans hk7
        have hr9 : Row ((W7.setCell ⟨w.heap.size + 1 + 1, 0, none⟩ (.bool true)).putObj w3.heap.size (.deferred none)) (w.heap.size + 2) 4 #[.bool true] := (World.putObj_heap_other (by omega)).trans (hr7.set_ 0 (.bool true))
        have hb8 := hb7.grown hg8 hb7.size (fun k e9 => by injection e9 with e9; omega)
        have HB9 : Hid (Below w.heap.size w ((W7.setCell ⟨w.heap.size + 1 + 1, 0, none⟩ (.bool true)).putObj w3.heap.size (.deferred none))) := hb8.grown (putM_grown _ w3.heap.size _) hb8.size (fun k e9 => by injection e9 with e9; omega)
        have q9 : ((W7.setCell ⟨w.heap.size + 1 + 1, 0, none⟩ (.bool true)).putObj w3.heap.size (.deferred none)).cell? ⟨w.heap.size + 1 + 1, 0, none⟩ = some (.bool true) := hr9.cell 0
        have HTk := Lib.hid (run_takeDeferred (P := Try.prog) hk8)
        have hc7 : W7.cell? ⟨w.heap.size + 1 + 1, 0, none⟩ = some (.bool false) := hr7.cell 0
        have hf7 : W7.frozen? ⟨w.heap.size + 1 + 1, 0, none⟩ = false := hr7.frozen 0
        have HT : Hid (deadB e f = true) := by show _ = _; rw [HD.out, hnil]; rfl
        refine ⟨none, W7, hel, ?_⟩
        clear hl6 hk6 hr6 hbw6 hel hW7 hk7 hr7 hb7 hg8 hk8 hr9 hb8 hb6 hnil hL4 hK4 hb4 hW4 hR0
        gi_wp2_with fail
        refine ⟨by simp, .inl ⟨_, _, rfl, HTk.out, ?_⟩⟩
        show LeavesInM _ _ _ _ _ _ [] _ _
        unfold LeavesInM
        refine ⟨.bool true, by simp [results, Try.results24, go_sem, q9], ?_⟩
        exact ⟨by rw [HT.out], HB9.out⟩
      · have hel := run_endLoop (P := Try.prog) hl6 (by simp)
        obtain ⟨W7, hW7⟩ : ∃ W7, W7 = W6.putObj (w3.heap.size + 1) (.loop { R0 with state := .exhausted, pending := some .ret }) := ⟨_, rfl⟩
        have hel' : (Instr.endLoop (w3.heap.size + 1)).run Try.prog W6 = .ok (some .ret) W7 := by rw [hW7]; exact hel
        have hk7 : W7.heap[w3.heap.size]? = some (.deferred (some [])) := by rw [hW7]; exact (World.putObj_heap_other (by omega)).trans hk6
        have hr7 : Row W7 (w.heap.size + 2) 4 #[.bool false] := by rw [hW7]; exact (World.putObj_heap_other (by omega)).trans hr6
        have hb7 : Below w.heap.size w W7 := by rw [hW7]; exact hb6.grown (putM_grown W6 _ _) hb6.size (fun k e9 => by injection e9 with e9; omega)
        have hr9 : Row (W7.putObj w3.heap.size (.deferred none)) (w.heap.size + 2) 4 #[.bool false] := (World.putObj_heap_other (by omega)).trans hr7
        have HB9 : Hid (Below w.heap.size w (W7.putObj w3.heap.size (.deferred none))) := hb7.grown (putM_grown _ w3.heap.size _) hb7.size (fun k e9 => by injection e9 with e9; omega)
        have q9 : (W7.putObj w3.heap.size (.deferred none)).cell? ⟨w.heap.size + 1 + 1, 0, none⟩ = some (.bool false) := hr9.cell 0
        have HTk := Lib.hid (run_takeDeferred (P := Try.prog) hk7)
        have HT : Hid (deadB e f = false) := by
          show _ = _
          rw [HD.out, Bool.true_and]
          exact decide_eq_false fun h9 => hne (List.length_eq_zero_iff.1 h9)
        refine ⟨some .ret, W7, hel', ?_⟩
        clear hl6 hk6 hr6 hel hel' hW7 hk7 hr7 hb7 hr9 hb6 hne hL4 hK4 hb4 hW4 hR0
        gi_wp2_with fail
        refine ⟨by simp, .inl ⟨_, _, rfl, HTk.out, ?_⟩⟩
        show LeavesInM _ _ _ _ _ _ [] _ _
        unfold LeavesInM
        refine ⟨.bool false, by simp [results, Try.results24, go_sem, q9], ?_⟩
        exact ⟨by rw [HT.out], HB9.out⟩

end Go.Proofs.Ytefpdkfogfhniaa

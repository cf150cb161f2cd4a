/- The walk of slices.AppendSeq over a moment's steps. -/
import Derived.Test.YtefpdkfogfhniaaMi2Q
import Derived.Maps.AppendAt
namespace Go.Proofs.Ytefpdkfogfhniaa
open Go.RowKit
attribute [local go_sem] Oper.semAt_some

theorem wpListIn_append_own_at {F : Fence} {n : Nat} {P : Program} (w : World) {ops : Array Oper} {rest : List Oper} {o : Oper} {a : Act} {Q : Exit → Act → World → Prop}
    (hg : o.guard = none) (s x : Operand) (t : TypeId) (hop : o.op = Op.call { callee := Callee.builtin Builtin.append, args := #[s, x], argTypes := #[t, t] })
    (base : Nat) (e : TypeId) (i : TypeInfo) (z : Value) (size bytes : Nat) (h1 : P.underlying t = some (.slice e)) (h2 : P.info? e = some i) (h3 : i.zero = some z) (h4 : i.size = size) (h5 : i.bytes = bytes) (h6 : z.cells.size = size) (h7 : 0 < size)
    (v : Value) (k : Nat) (xs : List Value) (hs : a.eval s = v) (hown : w.ownsRow base e size v k xs) (ad : Addr) (m c : Nat) (news : List Value) (hx : a.eval x = .slice (some ad) m c) (hn : news.length = m * size)
    (hc : ∀ j u, news[j]? = some u → w.cell? (ad.add j) = some u) (h1c : ∀ u ∈ news, u.oneCell' = true) (b1 : k + m ≤ maxLen) (b2 : (k + m) * bytes ≤ 140737488355328) (b3 : base ≤ w.heap.size)
    (hK : ∀ v' w', w'.ownsRow base e size v' (k + m) (xs ++ news) → w.grownBy w' v.ownBlock → (v'.ownBlock = v.ownBlock ∨ v'.ownBlock = some w.heap.size) → wpListIn F n P ops Q rest (a.put o.dst v') w') :
    wpListIn F n P ops Q (o :: rest) a w := by
  refine wpListIn_plain hg fun K hK' => ?_
  obtain ⟨v', w', hrun, r1, r2, r3, r4⟩ := run_append_own_at (P := P) w base t o.type e i z size bytes h1 h2 h3 h4 h5 h6 h7 v k xs hown ad m c news hn hc h1c b1 b2 b3
  unfold Oper.wpIn
  refine ⟨?_, ?_⟩
  · simp [Oper.about, hop, resolve, Target.leads, Sem.run_pure]
  · rw [Oper.semAt_plain F _ _ (by rw [hop]; intro c hc'; cases hc')]
    simp [execOp, hop, resolve, invoke, builtin, hs, hx, hrun, Result.andThen]
    exact hK' _ _ (hK v' w' r1 r2 r4)

/-- What the collecting loop keeps: its slice in a box at B, the steps so far in a row of its own, the loop's own blocks lo - 1 and lo. -/
def CollJ (w : World) (B lo : Nat) (R0 : Loop) (pre : List Stp) (U : Nat → Prop) (W : World) : Prop :=
  ∃ v : Value, U = (fun q => q = B ∨ q = lo ∨ v.ownBlock = some q) ∧ Row W B 42 #[v] ∧ W.heap[lo]? = some (.loop R0) ∧ W.heap[lo - 1]? = some (.deferred (some [])) ∧ W.ownsRow (lo + 1) 53 4 v pre.length (cellsS pre) ∧ pre.length ≤ 1000000 ∧ Below w.heap.size w W

theorem owns_below {w w1 : World} {base size n : Nat} {t : TypeId} {v : Value} {xs : List Value} (h : w.ownsRow base t size v n xs) (hb : ∀ g, v.ownBlock = some g → w1.heap[g]? = w.heap[g]?) : w1.ownsRow base t size v n xs := by
  refine ⟨h.1, ?_⟩
  rcases h.2 with h1 | ⟨g, cap, cur, hv, hb', hh, hr⟩
  · exact .inl h1
  · exact .inr ⟨g, cap, cur, hv, hb', (hb g (by rw [hv]; rfl)).trans hh, hr⟩
theorem owns_at {w : World} {base size n : Nat} {t : TypeId} {v : Value} {xs : List Value} (h : w.ownsRow base t size v n xs) {g : Nat} (hg : v.ownBlock = some g) : base ≤ g ∧ g < w.heap.size := by
  rcases h.2 with ⟨h1, _⟩ | ⟨g', cap, cur, hv, hb', hh, hr⟩
  · rw [h1] at hg; cases hg
  · rw [hv] at hg
    have e : g' = g := by simpa [Value.ownBlock] using hg
    subst e
    exact ⟨hb', lt_of_heap hh⟩
theorem owns_mono {w : World} {base base' size n : Nat} {t : TypeId} {v : Value} {xs : List Value} (h : w.ownsRow base t size v n xs) (hb : base' ≤ base) : w.ownsRow base' t size v n xs := by
  refine ⟨h.1, ?_⟩
  rcases h.2 with h1 | ⟨g, cap, cur, hv, hb', hr⟩
  · exact .inl h1
  · exact .inr ⟨g, cap, cur, hv, by omega, hr⟩
theorem owns_form {w : World} {base size n : Nat} {t : TypeId} {v : Value} {xs : List Value} (h : w.ownsRow base t size v (n + 1) xs) : ∃ g cap, v = .slice (some ⟨g, 0, none⟩) (n + 1) cap := by
  rcases h.2 with ⟨_, h1⟩ | ⟨g, cap, _, hv, _⟩
  · omega
  · exact ⟨g, cap, hv⟩
theorem steps_le {e : Sy} {f : St} (h : syOk e = true) : (steps e f).length ≤ 324 := by
  have h1 := acc_length (F := stPr e f) (K := 108) (l := e.ps) (fun k x hx => stPr_le h (syOk_pr h hx).1) e.ps.length (Nat.le_refl _)
  rw [acc_full] at h1
  have h2 := syOk_le h
  have h3 : (steps e f).length ≤ 108 * e.ps.length := h1
  omega
theorem cellsS_snoc (l : List Stp) (s : Stp) : cellsS (l ++ [s]) = cellsS l ++ cells4 s := by unfold cellsS; simp

set_option maxHeartbeats 2000000 in
set_option maxRecDepth 100000 in
theorem appendSeq_any (e : Sy) (C : Nat → Value) (f : St) (D : Nat → Value) (w : World) (hH : Have e C f D w) (hds : ∀ (i : Nat) (p : Pr), e.ps[i]? = some p → ∀ (k : Nat) (d : Ed), p.es[k]? = some d → desc d.g ≤ 1048576) (b base : Nat) (es : Array MapEntry) (hR : Recv w b base (rcN e f e.ps.length 0) es) (n : Nat) :
    CallsIn Fence.wide n Try.prog 62 #[.slice none 0 0, .func (.func 49) #[.agg #[C 0, C 1, D 0, D 1, .map (some b)]] #[]] w fun e' w' => ∃ v, e' = .returned v ∧ w'.ownsRow w.heap.size 53 4 v (steps e f).length (cellsS (steps e f)) ∧ Below w.heap.size w w' := by
  obtain ⟨ti, hi0, hz0, hz1, hz2⟩ := info_parts Try.info53
  have HSt : Hid (∀ (n l : Nat) (J Jx : List Stp → (Nat → Prop) → World → Prop), Cons w l (steps e f) J Jx → ∀ (U : Nat → Prop) (W : World), Below w.heap.size w W → J [] U W → CallsIn Fence.wide n Try.prog 49 #[.agg #[C 0, C 1, D 0, D 1, .map (some b)], .func (.yield l) #[] #[]] W fun e' W' => (∃ v, e' = .returned v) ∧ ∃ go, ItPost J Jx [] (steps e f) U W go W') := fun n l J Jx hY U W hb hj => steps_all e C f D w hH hds b base es hR n l J Jx hY U W hb hj
  have hle := steps_le (f := f) (stOk_sy hH.ok).1
  obtain ⟨mo, hmo⟩ : ∃ mo : Value, mo = .agg #[C 0, C 1, D 0, D 1, .map (some b)] := ⟨_, rfl⟩
  rw [← hmo] at HSt ⊢
  obtain ⟨W1, hW1⟩ : ∃ W1, W1 = w.alloc (.cells #[.slice none 0 0] 42) := ⟨_, rfl⟩
  have hb1 : Below w.heap.size w W1 := by rw [hW1]; exact (Below.refl _ _).alloc (Nat.le_refl _) _
  have HR1 : Hid (Row W1 w.heap.size 42 #[.slice none 0 0]) := by rw [hW1]; exact Row.new _ _ _
  have hz1w : W1.heap.size = w.heap.size + 1 := by rw [hW1]; simp
  have HB1 := Lib.hid hb1
  have HW1 := Lib.hid hW1
  have HZ1 := Lib.hid hz1w
  have HLe := Lib.hid hle
  clear hH hds hR hmo hW1 hb1 hz1w hle
  refine callsIn_of_wp_marks Try.func62 rfl trivial ?_ rfl
  simp only [Try.ntmps62, List.size_toArray, List.length_cons, List.length_nil, Nat.reduceAdd, Nat.reduceSub, Array.replicate_succ, Array.replicate_zero, List.push_toArray, List.append_toArray, List.nil_append, List.cons_append]
  gi_wp2_with fail
  rw [← HW1.out]
  have eg := steps_enters
  refine wpIn_range_bound rfl rfl trivial eg (fun h => (by cases h)) ?_
  intro fn R0 _ hR0
  obtain ⟨W4, hW4⟩ : ∃ W4, W4 = (W1.alloc (.deferred (some []))).alloc (.loop R0) := ⟨_, rfl⟩
  rw [← hW4]
  have hb4 : Below W1.heap.size W1 W4 := by rw [hW4]; exact ((Below.refl _ _).alloc (Nat.le_refl _) _).alloc (by simp) _
  have hL4 : W4.heap[W1.heap.size + 1]? = some (.loop R0) := by
    have h := heap_alloc_new (W1.alloc (.deferred (some []))) (.loop R0)
    rw [← hW4] at h
    simpa using h
  have hK4 : W4.heap[W1.heap.size]? = some (.deferred (some [])) := by
    have h := heap_alloc_new W1 (.deferred (some []))
    have hb : Below (W1.heap.size + 1) (W1.alloc (.deferred (some []))) W4 := by rw [hW4]; exact (Below.refl _ _).alloc (by simp) _
    exact (hb.block _ (by omega)).trans h
  have hw4 : Below w.heap.size w W4 := HB1.out.trans (hb4.mono HB1.out.size)
  have HJ0 : Hid (CollJ w w.heap.size (W1.heap.size + 1) R0 [] (fun q => q = w.heap.size ∨ q = W1.heap.size + 1 ∨ (Value.slice none 0 0).ownBlock = some q) W4) := ⟨.slice none 0 0, rfl, HR1.out.under hb4 HR1.out.lt, hL4, hK4, World.ownsRow_nil _ _ _ _, Nat.zero_le _, hw4⟩
  have HC : Hid (Cons w (W1.heap.size + 1) (steps e f) (CollJ w w.heap.size (W1.heap.size + 1) R0) (fun _ _ _ => False)) := by
    refine ⟨?_, ?_, ?_⟩
    · rintro pre U W ⟨v, rfl, h1, h2, h3, h4, h5, h6⟩ q hq
      have hz := HZ1.out
      have := h1.lt
      have := lt_of_heap h2
      rcases hq with rfl | rfl | hq
      · exact ⟨Nat.le_refl _, h1.lt⟩
      · exact ⟨by omega, lt_of_heap h2⟩
      · have := owns_at h4 hq
        exact ⟨by omega, this.2⟩
    · rintro pre U W W' ⟨v, rfl, h1, h2, h3, h4, h5, h6⟩ hb
      exact ⟨v, rfl, h1.under hb h1.lt, (hb.block _ (lt_of_heap h2)).trans h2, (hb.block _ (lt_of_heap h3)).trans h3, owns_below h4 (fun g hg => hb.block g (owns_at h4 hg).2), h5, h6.trans (hb.mono h6.size)⟩
    · rintro m pre U W5 x0 x1 x2 x3 ⟨v, rfl, hr5, hl5, hk5, ho5, hlen5, hbw5⟩ _ hpx
      have hpl : pre.length + 1 ≤ 324 := by
        have h1 := hpx.length_le
        rw [List.length_append, List.length_singleton] at h1
        have := HLe.out
        omega
      have hy := run_yield (P := Try.prog) (args := #[.agg #[.int .i64 x0, .int .i64 x1, .int .i64 x2, .int .i64 x3]]) hl5 (by rw [hR0]; rfl)
      have hzw := HZ1.out
      have hrl5 := hr5.lt
      have hll5 := lt_of_heap hl5
      have hkl5 := lt_of_heap hk5
      obtain ⟨W5a, hW5a⟩ : ∃ W5a, W5a = W5.alloc (.cells #[.int .i64 x0, .int .i64 x1, .int .i64 x2, .int .i64 x3] 53) := ⟨_, rfl⟩
      have hba : Below W5.heap.size W5 W5a := by rw [hW5a]; exact (Below.refl _ _).alloc (Nat.le_refl _) _
      have hza : W5a.heap.size = W5.heap.size + 1 := by rw [hW5a]; simp
      have hsa : Row W5a W5.heap.size 53 #[.int .i64 x0, .int .i64 x1, .int .i64 x2, .int .i64 x3] := by rw [hW5a]; exact Row.new _ _ _
      have hla : W5a.heap[W1.heap.size + 1]? = some (.loop R0) := (hba.block _ hll5).trans hl5
      obtain ⟨W6, hW6⟩ : ∃ W6, W6 = W5a.putObj (W1.heap.size + 1) (.loop { R0 with state := .busy }) := ⟨_, rfl⟩
      have hbr := run_beginRound (P := Try.prog) hla (by rw [hR0])
      rw [← hW6] at hbr
      have hg6 : W5a.grownBy W6 (some (W1.heap.size + 1)) := by rw [hW6]; exact putM_grown _ _ _
      have hz6 : W6.heap.size = W5.heap.size + 1 := by rw [hW6, ← hza]; exact putM_size
      have h6 : ∀ q, q < W5.heap.size → q ≠ W1.heap.size + 1 → W6.heap[q]? = W5.heap[q]? := fun q hq hn => (hg6.block q (by omega) (fun e9 => hn (Option.some.inj e9))).trans (hba.block q hq)
      have hl6 : W6.heap[W1.heap.size + 1]? = some (.loop { R0 with state := .busy }) := by rw [hW6]; exact World.putObj_heap_same (by omega)
      have hr6 : Row W6 w.heap.size 42 #[v] := (h6 _ hrl5 (by omega)).trans hr5
      have hs6 : Row W6 W5.heap.size 53 #[.int .i64 x0, .int .i64 x1, .int .i64 x2, .int .i64 x3] := (hg6.block _ (by omega) (fun e9 => by have := Option.some.inj e9; omega)).trans hsa
      have ho6 : W6.ownsRow (W1.heap.size + 1 + 1) 53 4 v pre.length (cellsS pre) := owns_below ho5 (fun g hg => h6 g (owns_at ho5 hg).2 (by have := (owns_at ho5 hg).1; omega))
      have HOw : Hid ((W6.alloc (.cells #[.int .i64 x0, .int .i64 x1, .int .i64 x2, .int .i64 x3] 53)).ownsRow (W1.heap.size + 1 + 1) 53 4 v pre.length (cellsS pre)) := ho6.alloc _
      obtain ⟨Rp, HRp⟩ : ∃ Rp : Ending → World → Prop, Hid (∀ (e' : Ending) (W' : World), Rp e' W' ↔ (∃ U', Fr (fun q => q = w.heap.size ∨ q = W1.heap.size + 1 ∨ v.ownBlock = some q) W5 U' W' ∧ ((e' = .returned (.bool true) ∧ CollJ w w.heap.size (W1.heap.size + 1) R0 (pre ++ [⟨x0, x1, x2, x3⟩]) U' W') ∨ (e' = .returned (.bool false) ∧ False)))) := ⟨_, fun _ _ => Iff.rfl⟩
      refine ⟨_, _, _, _, hy, (roundIn_of_wpIn (R := Rp) trivial ?_).mono fun e' W' h => (HRp.out e' W').1 h⟩
      have HB8 : Hid (∀ W8, (W6.alloc (.cells #[.int .i64 x0, .int .i64 x1, .int .i64 x2, .int .i64 x3] 53)).grownBy W8 v.ownBlock → Row W8 w.heap.size 42 #[v] ∧ W8.heap[W1.heap.size + 1]? = some (.loop { R0 with state := .busy })) := fun W8 hg => by
        have hn : ∀ q, q < W1.heap.size + 1 + 1 → some q ≠ v.ownBlock := fun q hq e9 => by have := (owns_at ho6 e9.symm).1; omega
        exact ⟨((hg.block _ (by simp; omega) (hn _ (by omega))).trans (Below.heap_alloc _ _ _ (by omega))).trans hr6, ((hg.block _ (by simp; omega) (hn _ (by omega))).trans (Below.heap_alloc _ _ _ (by omega))).trans hl6⟩
      have HEnd : Hid (∀ v' W8, (W6.alloc (.cells #[.int .i64 x0, .int .i64 x1, .int .i64 x2, .int .i64 x3] 53)).grownBy W8 v.ownBlock → W8.ownsRow (W1.heap.size + 1 + 1) 53 4 v' (pre.length + 1) (cellsS pre ++ cellsS [⟨x0, x1, x2, x3⟩]) → (v'.ownBlock = v.ownBlock ∨ v'.ownBlock = some (W6.alloc (.cells #[.int .i64 x0, .int .i64 x1, .int .i64 x2, .int .i64 x3] 53)).heap.size) →
          ∃ vv w', (Instr.endRound (W1.heap.size + 1) none).run Try.prog (W8.setCell ⟨w.heap.size, 0, none⟩ v') = .ok vv w' ∧ Rp (.returned vv) w') := fun v' W8 hg hown hat => by
        obtain ⟨hr8, hl8⟩ := HB8.out W8 hg
        have hsz8 : W6.heap.size + 1 ≤ W8.heap.size := by have h9 := hg.size; simpa using h9
        have hg9 := grown_set W8 w.heap.size 0 v'
        have hl9 : (W8.setCell ⟨w.heap.size, 0, none⟩ v').heap[W1.heap.size + 1]? = some (.loop { R0 with state := .busy }) := (hg9.block _ (lt_of_heap hl8) (by intro e9; injection e9 with e9; omega)).trans hl8
        refine ⟨_, _, run_endRound (P := Try.prog) none hl9, (HRp.out _ _).2 ?_⟩
        have hat' : ∀ q, v'.ownBlock = some q → v.ownBlock = some q ∨ W5.heap.size ≤ q := fun q hq => by
          rcases hat with e9 | e9
          · exact .inl (e9 ▸ hq)
          · rw [hq] at e9
            have h9 := Option.some.inj e9
            have h8 : q = W6.heap.size + 1 := by simpa using h9
            exact .inr (by omega)
        have hall : ∀ (o : Obj) q, q < W5.heap.size → ¬ (q = w.heap.size ∨ q = W1.heap.size + 1 ∨ v.ownBlock = some q) → ((W8.setCell ⟨w.heap.size, 0, none⟩ v').putObj (W1.heap.size + 1) o).heap[q]? = W5.heap[q]? := fun o q hq hn => by
          have n1 : q ≠ w.heap.size := fun e9 => hn (.inl e9)
          have n2 : q ≠ W1.heap.size + 1 := fun e9 => hn (.inr (.inl e9))
          have n3 : some q ≠ v.ownBlock := fun e9 => hn (.inr (.inr e9.symm))
          rw [World.putObj_heap_other (by omega), hg9.block q (by omega) (by intro e9; injection e9 with e9; omega), hg.block q (by simp; omega) n3, Below.heap_alloc _ _ _ (by omega)]
          exact h6 q hq n2
        have hszf : ∀ o : Obj, ((W8.setCell ⟨w.heap.size, 0, none⟩ v').putObj (W1.heap.size + 1) o).heap.size = W8.heap.size := fun o => by
          have h9 : ((W8.setCell ⟨w.heap.size, 0, none⟩ v').putObj (W1.heap.size + 1) o).heap.size = (W8.setCell ⟨w.heap.size, 0, none⟩ v').heap.size := putM_size
          rw [h9]
          simp
        refine ⟨fun q => q = w.heap.size ∨ q = W1.heap.size + 1 ∨ v'.ownBlock = some q, ⟨?_, ?_, ?_, ?_, hall _, ?_⟩, .inl ⟨rfl, v', rfl, ?_, ?_, ?_, ?_, ?_, ?_⟩⟩
        · exact hg.os.trans (hg6.os.trans hba.os)
        · exact hg.tape.trans (hg6.tape.trans hba.tape)
        · exact hg.output.trans (hg6.output.trans hba.output)
        · rw [hszf]; omega
        · rintro q (e9 | e9 | e9)
          · exact .inl (.inl e9)
          · exact .inl (.inr (.inl e9))
          · rcases hat' q e9 with e8 | e8
            · exact .inl (.inr (.inr e8))
            · exact .inr e8
        · exact (World.putObj_heap_other (by omega)).trans (hr8.set_ 0 v')
        · rw [World.putObj_heap_same (lt_of_heap hl9), hR0]; rfl
        · refine (hall _ (W1.heap.size + 1 - 1) (by omega) ?_).trans hk5
          rintro (e9 | e9 | e9)
          · omega
          · omega
          · have := (owns_at ho5 e9).1; omega
        · rw [cellsS_snoc, List.length_append, List.length_singleton]
          have h9 : cellsS [(⟨x0, x1, x2, x3⟩ : Stp)] = cells4 ⟨x0, x1, x2, x3⟩ := by simp [cellsS]
          rw [← h9]
          refine owns_below hown (fun g hg' => ?_)
          have := (owns_at hown hg').1
          exact (World.putObj_heap_other (by omega)).trans (hg9.block g (owns_at hown hg').2 (by intro e9; injection e9 with e9; omega))
        · rw [List.length_append, List.length_singleton]; omega
        · exact hbw5.trans ⟨hg.os.trans (hg6.os.trans hba.os), hg.tape.trans (hg6.tape.trans hba.tape), hg.output.trans (hg6.output.trans hba.output), by rw [hszf]; omega, fun q hq => hall _ q (by omega) (by
            rintro (e9 | e9 | e9)
            · omega
            · omega
            · have := (owns_at ho5 e9).1; omega)⟩
      have HBR := Lib.hid hbr
      have HWa := Lib.hid hW5a
      have HZ6 : Hid (W1.heap.size + 1 + 1 ≤ W6.heap.size) := by show _ ≤ _; omega
      have c6 : W6.cell? ⟨w.heap.size, 0, none⟩ = some v := hr6.cell 0
      have s0 : W6.cell? ⟨W5.heap.size, 0, none⟩ = some (.int .i64 x0) := hs6.cell 0
      have s1 : W6.cell? ⟨W5.heap.size, 1, none⟩ = some (.int .i64 x1) := hs6.cell 1
      have s2 : W6.cell? ⟨W5.heap.size, 2, none⟩ = some (.int .i64 x2) := hs6.cell 2
      have s3 : W6.cell? ⟨W5.heap.size, 3, none⟩ = some (.int .i64 x3) := hs6.cell 3
      clear hba hza hsa hla hbr hg6 h6 hl6 hr6 hs6 ho6 hW5a hW6 hy hr5 hl5 hk5 ho5 hbw5 hpx HRp HJ0 hL4 hK4 hw4 hb4 hW4 hz6 hzw hrl5 hll5 hkl5
      rw [hR0]
      dsimp only
      clear hR0
      gi_wp2_with fail
      rw [← HWa.out]
      refine ⟨W6, HBR.out, ?_⟩
      gi_wp2_with (gi_at_builtin; refine wpListIn_append_own_at _ rfl (.tmp 8) (.tmp 10) 42 rfl (W1.heap.size + 1 + 1) 53 ti (.agg #[.int .i64 0, .int .i64 0, .int .i64 0, .int .i64 0]) 4 32 Try.underlying42 hi0 hz0 hz1 hz2 rfl (by decide) v pre.length _ rfl HOw.out ⟨W6.heap.size, 0, none⟩ 1 1 (cellsS [⟨x0, x1, x2, x3⟩]) rfl rfl (cells_new W6 #[.int .i64 x0, .int .i64 x1, .int .i64 x2, .int .i64 x3] 53) (by simp [cellsS, cells4, Value.oneCell']) (by unfold maxLen; omega) (by omega) (by have h9 := HZ6.out; simp; omega) ?_; intro v' W8 hown' hgrow hat; obtain ⟨g1, cap1, rfl⟩ := owns_form hown'; obtain ⟨hr8, hl8⟩ := HB8.out W8 hgrow; have c8 : W8.cell? ⟨w.heap.size, 0, none⟩ = some v := hr8.cell 0; have z8 := hr8.frozen 0; have HFin := Lib.hid (HEnd.out _ W8 hgrow hown' hat); clear hr8 hl8 hown' hgrow hat)
      exact HFin.out
  refine (HSt.out (n - 1) (W1.heap.size + 1) _ _ HC.out _ W4 hw4 HJ0.out).mono ?_
  rintro e' W6 ⟨⟨vv, rfl⟩, go, U', _, (⟨_, v, _, hr6, hl6, hk6, ho6, _, hb6⟩ | ⟨_, _, _, hF⟩)⟩
  · rw [List.nil_append] at ho6
    rw [Nat.add_sub_cancel] at hk6
    have hzw := HZ1.out
    have hel := run_endLoop (P := Try.prog) hl6 (by rw [hR0]; simp)
    rw [show R0.pending = none by rw [hR0]] at hel
    obtain ⟨W7, hW7⟩ : ∃ W7, W7 = W6.putObj (W1.heap.size + 1) (.loop { R0 with state := .exhausted, pending := none }) := ⟨_, rfl⟩
    have hel' : (Instr.endLoop (W1.heap.size + 1)).run Try.prog W6 = .ok none W7 := by
      rw [hW7, hel]
    have h7 : ∀ q, q ≠ W1.heap.size + 1 → W7.heap[q]? = W6.heap[q]? := fun q hq => by rw [hW7]; exact World.putObj_heap_other (by omega)
    have hz7 : W7.heap.size = W6.heap.size := by rw [hW7]; exact putM_size
    have hk7 : W7.heap[W1.heap.size]? = some (.deferred (some [])) := (h7 _ (by omega)).trans hk6
    have hr7 : Row W7 w.heap.size 42 #[v] := (h7 _ (by omega)).trans hr6
    have hb7 : Below w.heap.size w W7 := by rw [hW7]; exact hb6.grown (putM_grown W6 _ _) hb6.size (fun k e9 => by injection e9 with e9; omega)
    have HB9 : Hid (Below w.heap.size w (W7.putObj W1.heap.size (.deferred none))) := hb7.grown (putM_grown _ W1.heap.size _) hb7.size (fun k e9 => by injection e9 with e9; omega)
    have HO9 : Hid ((W7.putObj W1.heap.size (.deferred none)).ownsRow w.heap.size 53 4 v (steps e f).length (cellsS (steps e f))) := by
      have h9 : (W7.putObj W1.heap.size (.deferred none)).ownsRow (W1.heap.size + 1 + 1) 53 4 v (steps e f).length (cellsS (steps e f)) := owns_below ho6 (fun g hg => by
        have := (owns_at ho6 hg).1
        exact (World.putObj_heap_other (by omega)).trans (h7 g (by omega)))
      exact owns_mono h9 (by omega)
    have HTk := Lib.hid (run_takeDeferred (P := Try.prog) hk7)
    have c7 : W7.cell? ⟨w.heap.size, 0, none⟩ = some v := hr7.cell 0
    refine ⟨none, W7, hel', ?_⟩
    clear hl6 hk6 hr6 hel hel' hW7 hk7 hr7 hb7 hb6 ho6 hL4 hK4 hb4 hW4 hR0 hzw hz7 h7 hw4 HC HJ0
    gi_wp2_with fail
    refine ⟨by simp, .inl ⟨_, _, rfl, HTk.out, ?_⟩⟩
    show LeavesInM _ _ _ _ _ _ [] _ _
    unfold LeavesInM
    refine ⟨v, by simp [results, Try.results62, go_sem], ?_⟩
    exact ⟨v, rfl, HO9.out, HB9.out⟩
  · exact hF.elim

end Go.Proofs.Ytefpdkfogfhniaa

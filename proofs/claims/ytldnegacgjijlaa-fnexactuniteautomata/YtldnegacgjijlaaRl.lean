/- A region that draws its order and whose last operation waits for all the others: the others in whatever order, a condition on the world kept by each of them, then the last one. -/
import Derived.Deep.RegionHeld3
namespace Go.Proofs.Ytldnegacgjijlaa

section
variable {P : Program} {ops : Array Oper} {Q : Exit → Act → World → Prop} {md : Region.Mode} {S : World → Prop}

theorem op_then {N : Act → World → Prop} {i : Nat} {K : Act → World → Prop} {a : Act} {w : World} (h : wpOp P ops (Exit.then N Q) i K a w) : wpOp P ops Q i K a w := by
  unfold wpOp at *
  split
  · rename_i ho
    simpa [ho] using h
  · rename_i o ho
    simp only [ho] at h
    by_cases hw : Region.wanted o (yielded ops a.tmps) = true
    · rw [if_pos hw] at h ⊢
      rcases h with h | h
      · refine .inl ?_
        unfold Oper.wp at *
        generalize (execOp a.eval o).run P w = r at h ⊢
        cases r with
        | ok n w' =>
          cases n <;> simp only [Oper.upon] at h ⊢ <;>
            first
              | exact h
              | exact Calls.mono h (fun e w'' he => by cases e <;> exact he)
        | halt x w' => cases x <;> simp only [Oper.upon] at h ⊢ <;> exact h
      · exact .inr h
    · rw [if_neg hw] at h ⊢
      exact h

/-- Every operation waits only for earlier ones; the last (number m) waits for every other. -/
structure LastOp (md : Region.Mode) (ops : Array Oper) (m : Nat) : Prop where
  size : ops.size = m + 1
  back : ∀ (j : Nat) (oj : Oper), ops[j]? = some oj → ∀ e ∈ oj.after, e.on < j
  waits : ∀ (om : Oper), ops[m]? = some om → ∀ i : Nat, i < m → ∃ e ∈ om.after, Region.binds md e = true ∧ e.on = i

def lastB (md : Region.Mode) (ops : Array Oper) (m : Nat) : Bool :=
  ops.size == m + 1 && ((List.range (m + 1)).all fun j => match ops[j]? with | some o => o.after.all fun e => decide (e.on < j) | none => true) &&
    match ops[m]? with | some o => (List.range m).all fun i => o.after.any fun e => Region.binds md e && e.on == i | none => true

theorem lastB_spec {m : Nat} (h : lastB md ops m = true) : LastOp md ops m := by
  unfold lastB at h
  simp only [Bool.and_eq_true, beq_iff_eq] at h
  obtain ⟨⟨h1, h2⟩, h3⟩ := h
  refine ⟨h1, fun j oj hj e he => ?_, fun om hm i hi => ?_⟩
  · have hlt : j < ops.size := (Array.getElem?_eq_some_iff.1 hj).1
    have h4 := List.all_eq_true.1 h2 j (List.mem_range.2 (by omega))
    simp only [hj] at h4
    have h5 := Array.all_eq_true_iff_forall_mem.1 h4 e he
    simpa using h5
  · simp only [hm] at h3
    have h4 := List.all_eq_true.1 h3 i (List.mem_range.2 hi)
    obtain ⟨e, he, hb⟩ := Array.any_eq_true'.1 h4
    simp only [Bool.and_eq_true, beq_iff_eq] at hb
    exact ⟨e, he, hb.1, hb.2⟩

/-- While an operation has not come up, some one may. -/
theorem LastOp.some_ready {m : Nat} (hL : LastOp md ops m) {listed : Array Bool} : ∀ (n i : Nat), i ≤ n → i < ops.size → listed.getD i true = false → (∀ j, j < ops.size → listed.getD j false = true ∨ listed.getD j true = false) → ∃ j, j ≤ i ∧ j ∈ Region.ready md ops listed := by
  intro n
  induction n with
  | zero =>
    intro i hi hs hu _
    obtain rfl : i = 0 := by omega
    refine ⟨0, Nat.le_refl _, mem_ready.2 ⟨hu, ops[0], Array.getElem?_eq_getElem hs, fun e he _ => ?_⟩⟩
    have := hL.back 0 _ (Array.getElem?_eq_getElem hs) e he
    omega
  | succ n ih =>
    intro i hi hs hu hall
    by_cases hr : i ∈ Region.ready md ops listed
    · exact ⟨i, Nat.le_refl _, hr⟩
    · have hx : ∃ j, j < i ∧ listed.getD j true = false := by
        refine Classical.byContradiction fun hc => hr (mem_ready.2 ⟨hu, ops[i], Array.getElem?_eq_getElem hs, fun e he _ => ?_⟩)
        have hj := hL.back i _ (Array.getElem?_eq_getElem hs) e he
        rcases hall e.on (by omega) with h | h
        · exact h
        · exact absurd ⟨e.on, hj, h⟩ hc
      obtain ⟨j, hj, hju⟩ := hx
      obtain ⟨k, hk, hkr⟩ := ih j (by omega) (by omega) hju hall
      exact ⟨k, by omega, hkr⟩

theorem getD_two (listed : Array Bool) (n : Nat) (hz : listed.size = n) (j : Nat) (hj : j < n) : listed.getD j false = true ∨ listed.getD j true = false := by
  have hlt : j < listed.size := by omega
  simp [hlt]

theorem LastOp.any {m : Nat} (hL : LastOp md ops m) : ∀ (fuel : Nat) (listed : Array Bool) (a : Act) (w : World), listed.size = ops.size → listed.getD m true = false →
    wpAnyH P md ops (Exit.then (fun a w => wpOp P ops Q m (Q .normal) a w) Q) S fuel (listed.setIfInBounds m true) a w → wpAny P md ops Q (fuel + 1) listed a w := by
  have hm : m < ops.size := by have := hL.size; omega
  have key : ∀ (listed : Array Bool), listed.size = ops.size → listed.getD m true = false → Region.ready md ops listed ≠ [] := fun listed hz hu h => by
    obtain ⟨j, _, hj⟩ := hL.some_ready m m (Nat.le_refl _) hm hu (getD_two listed _ hz)
    rw [h] at hj
    cases hj
  -- the last may come up only when the others have
  have alone : ∀ (listed : Array Bool), listed.size = ops.size → m ∈ Region.ready md ops listed → Region.ready md ops (listed.setIfInBounds m true) = [] := fun listed hz hr => by
    rw [List.eq_nil_iff_forall_not_mem]
    intro j hj
    obtain ⟨hju, oj, hoj, _⟩ := mem_ready.1 hj
    obtain ⟨_, om, hom, hall⟩ := mem_ready.1 hr
    have hjs : j < ops.size := (Array.getElem?_eq_some_iff.1 hoj).1
    by_cases hjm : j = m
    · subst hjm
      have : j < listed.size := by omega
      simp [this] at hju
    · rw [getD_set_ne true (Ne.symm hjm)] at hju
      obtain ⟨e, he, hb, he2⟩ := hL.waits om hom j (by have := hL.size; omega)
      have h1 := hall e he hb
      rw [he2] at h1
      have : j < listed.size := by omega
      simp [this] at hju h1
      rw [hju] at h1
      cases h1
  intro fuel
  induction fuel with
  | zero =>
    intro listed a w hz hu h
    obtain ⟨h1, h2⟩ := h
    refine ⟨fun h0 => absurd h0 (key listed hz hu), fun i hi => ?_⟩
    by_cases him : i = m
    · subst him
      exact wpOp_mono (fun a w hq => ⟨h1, hq⟩) h2
    · have := ready_mono hi him
      rw [h1] at this
      cases this
  | succ fuel ih =>
    intro listed a w hz hu h
    obtain ⟨h1, h2⟩ := h
    refine ⟨fun h0 => absurd h0 (key listed hz hu), fun i hi => ?_⟩
    by_cases him : i = m
    · subst him
      have h3 := alone listed hz hi
      exact wpOp_mono (fun a w hq => wpAny_done h3 hq _) (h1 h3)
    · have h3 := op_then (h2 i (ready_mono hi him))
      refine wpOp_mono (fun a w hq => ih (listed.setIfInBounds i true) a w (by simpa using hz) (by rw [getD_set_ne true him]; exact hu) ?_) h3
      rw [Array.setIfInBounds_comm _ _ him]
      exact hq.2

theorem wp_region_last {id : Nat} {a : Act} {w : World} (m : Nat) (hm : P.follows .mixedOrders = true) (hB : lastB .any ops m = true) (hS : S w.drew)
    (h : S w.drew → wpAnyH P .any ops (Exit.then (fun a w => wpOp P ops Q m (Q .normal) a w) Q) S m ((Array.replicate (m + 1) false).setIfInBounds m true) a w.drew) : (Code.region id ops true).wp P Q a w := by
  have hL := lastB_spec hB
  refine wp_region_any hm ?_
  rw [hL.size]
  refine hL.any (S := S) m _ a _ (by rw [hL.size]; simp) ?_ (h hS)
  simp
/-- The last one, behind the others. -/
theorem then_last {m : Nat} {o : Oper} {a : Act} {w : World} (ho : ops[m]? = some o)
    (h : ∀ K' : Act → World → Prop, Shut (∀ a w, Q .normal a w → K' a w) → if Region.wanted o (yielded ops a.tmps) = true then Oper.wp P o a w K' Q else K' (a.put o.dst undef) w) :
    Exit.then (fun a w => wpOp P ops Q m (Q .normal) a w) Q .normal a w := wpOp_step ho (fun K' hK => h K' hK)

/-- How many have not come up. -/
def leftOf (listed : Array Bool) : Nat := listed.toList.count false
theorem leftOf_set {listed : Array Bool} {i : Nat} (h : listed.getD i true = false) : leftOf (listed.setIfInBounds i true) + 1 = leftOf listed := by
  have hlt : i < listed.size := by
    rcases Nat.lt_or_ge i listed.size with h' | h'
    · exact h'
    · simp [Array.getElem?_eq_none h'] at h
  have hv : listed[i] = false := by simpa [hlt] using h
  unfold leftOf
  rw [Array.setIfInBounds, dif_pos hlt, Array.toList_set]
  have hl : i < listed.toList.length := by simpa using hlt
  have hg : listed.toList[i] = false := by simpa using hv
  rw [List.count_set hl, hg]
  have hpos : 1 ≤ listed.toList.count false := List.count_pos_iff.2 (by rw [← hg]; exact List.getElem_mem hl)
  rw [if_pos (by decide), if_neg (by decide)]
  omega
/-- Whatever order is picked: a condition on what has come up, the frame and the world, which each operation that may come up keeps. -/
theorem wpAnyH_inv {I : Array Bool → Act → World → Prop} (hS : ∀ listed a w, I listed a w → S w)
    (hstep : ∀ listed a w, I listed a w → ∀ i ∈ Region.ready md ops listed, wpOp P ops Q i (fun a' w' => I (listed.setIfInBounds i true) a' w') a w)
    (hend : ∀ listed a w, I listed a w → Region.ready md ops listed = [] → Q .normal a w) :
    ∀ (fuel : Nat) (listed : Array Bool) (a : Act) (w : World), leftOf listed ≤ fuel → I listed a w → wpAnyH P md ops Q S fuel listed a w := by
  intro fuel
  induction fuel with
  | zero =>
    intro listed a w hl h
    have h0 : Region.ready md ops listed = [] := by
      rw [List.eq_nil_iff_forall_not_mem]
      intro j hj
      obtain ⟨hu, _⟩ := mem_ready.1 hj
      have := leftOf_set hu
      omega
    exact ⟨h0, hend listed a w h h0⟩
  | succ fuel ih =>
    intro listed a w hl h
    refine ⟨hend listed a w h, fun i hi => ?_⟩
    obtain ⟨hu, _⟩ := mem_ready.1 hi
    have h1 := leftOf_set hu
    exact wpOp_mono (fun a' w' h' => ⟨hS _ _ _ h', ih _ a' w' (by omega) h'⟩) (hstep listed a w h i hi)
end

end Go.Proofs.Ytldnegacgjijlaa

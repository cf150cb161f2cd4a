/- The walks of slices.Collect over a moment's steps and of impl.EnabledSteps. -/
import Derived.Test.YtefpdkfogfhniaaMi3Q
import Derived.Test.YtefpdkfogfhniaaJ13
import Derived.Test.YtefpdkfogfhniaaStpMQ
namespace Go.Proofs.Ytefpdkfogfhniaa
open Go.RowKit

theorem cellsS_get : ∀ {l : List Stp} {i q : Nat} {s : Stp}, l[i]? = some s → q < 4 → (cellsS l)[i * 4 + q]? = (cells4 s)[q]?
  | [], i, q, s, h, _ => by cases h
  | a :: r, 0, q, s, h, hq => by
    injection h with h
    subst h
    show (cells4 a ++ cellsS r)[0 * 4 + q]? = _
    rw [Nat.zero_mul, Nat.zero_add, List.getElem?_append_left (by simpa [cells4] using hq)]
  | a :: r, i + 1, q, s, h, hq => by
    show (cells4 a ++ cellsS r)[(i + 1) * 4 + q]? = _
    rw [List.getElem?_append_right (by simp [cells4]; omega), show (i + 1) * 4 + q - (cells4 a).length = i * 4 + q by simp [cells4]; omega]
    exact cellsS_get (l := r) h hq
/-- A slice of steps of one's own. -/
theorem owns_stpI {w : World} {lo : Nat} {l : List Stp} {v : Value} (h : w.ownsRow lo 53 4 v l.length (cellsS l)) : StpI w lo w.heap.size l v := by
  rcases h.2 with ⟨rfl, h0⟩ | ⟨g, cap, cur, rfl, hb, hh, hc, hm, hz, ht⟩
  · exact ⟨none, 0, by rw [h0], .inl (List.eq_nil_of_length_eq_zero h0)⟩
  · refine ⟨_, cap, rfl, .inr ⟨g, cur, rfl, hb, lt_of_heap hh, hh, fun i s hs => ?_⟩⟩
    have hi := (List.getElem?_eq_some_iff.1 hs).1
    have hcell : ∀ q, q < 4 → cur[i * 4 + q]? = (cells4 s)[q]? := fun q hq => by
      have h1 : (cellsS l)[i * 4 + q]? = (cells4 s)[q]? := cellsS_get hs hq
      rw [← ht, List.getElem?_take, if_pos (by omega)] at h1
      simpa using h1
    refine ⟨?_, ?_, ?_, ?_⟩
    · have := hcell 0 (by omega); simpa [cells4] using this
    · have := hcell 1 (by omega); simpa [cells4] using this
    · have := hcell 2 (by omega); simpa [cells4] using this
    · have := hcell 3 (by omega); simpa [cells4] using this

def EnPost (l : List Stp) (w : World) (e' : Ending) (w' : World) : Prop := ∃ v, e' = .returned v ∧ w'.ownsRow w.heap.size 53 4 v l.length (cellsS l) ∧ Below w.heap.size w w'

set_option maxHeartbeats 400000 in
theorem collect_any (e : Sy) (C : Nat → Value) (f : St) (D : Nat → Value) (w : World) (hH : Have e C f D w) (hds : ∀ (i : Nat) (p : Pr), e.ps[i]? = some p → ∀ (k : Nat) (d : Ed), p.es[k]? = some d → desc d.g ≤ 1048576) (b base : Nat) (es : Array MapEntry) (hR : Recv w b base (rcN e f e.ps.length 0) es) :
    Calls Try.prog 47 #[.func (.func 49) #[.agg #[C 0, C 1, D 0, D 1, .map (some b)]] #[]] w (EnPost (steps e f) w) := by
  have HA := Lib.hid ((callsIn_wide (n := 3)).1 (appendSeq_any e C f D w hH hds b base es hR 3))
  obtain ⟨mo, hmo⟩ : ∃ mo : Value, mo = .agg #[C 0, C 1, D 0, D 1, .map (some b)] := ⟨_, rfl⟩
  rw [← hmo] at HA ⊢
  clear hH hds hR hmo
  go_enter Try.func47, Try.ntmps47
  go_wp2_with fail
  refine HA.out.mono ?_
  rintro e' w1 ⟨v, rfl, h1, h2⟩
  have HF : Hid (EnPost (steps e f) w (.returned v) w1) := ⟨v, rfl, h1, h2⟩
  clear h1 h2
  go_wp2_with fail
  go_ret
  exact HF.out

set_option maxHeartbeats 1000000 in
set_option maxRecDepth 100000 in
theorem enabledI_any (e : Sy) (C : Nat → Value) (f : St) (D : Nat → Value) (w : World) (hL : Lay.sy.lies w w.heap.size e C) (hM : Lay.sta.lies w w.heap.size f D) (hd : Lay.sy.sz e ≤ 1048576) (hd2 : Lay.sta.sz f ≤ 1048576) :
    Calls Try.prog 19 #[.agg #[C 0, C 1], .agg #[D 0, D 1]] w (EnPost (stepsB e f) w) := by
  have hds : ∀ (i : Nat) (p : Pr), e.ps[i]? = some p → ∀ (k : Nat) (d : Ed), p.es[k]? = some d → desc d.g ≤ 1048576 := fun i p hp k d hdd => by
    have h1 := Lay.pr.szL_mem hp
    have h2 := Lay.ed.szL_mem hdd
    have h3 := sy_sz e
    have h4 := pr_sz p
    have h5 := ed_sz d
    omega
  obtain ⟨W1, hW1⟩ : ∃ W1, W1 = ((w.alloc (.cells #[C 0, C 1] 33)).alloc (.cells #[D 0, D 1] 28)) := ⟨_, rfl⟩
  obtain ⟨r1, r2, r3⟩ := rows2 w 33 28 #[C 0, C 1] #[D 0, D 1]
  rw [← hW1] at r1 r2 r3
  have HV : Hid (Calls Try.prog 40 #[.agg #[C 0, C 1], .agg #[D 0, D 1]] W1 fun e' w' => e' = .returned (.bool (stOk e f)) ∧ Below W1.heap.size W1 w') := implStV_any e C f D W1 (Lay.sy.later hL r3 r3.size) (Lay.sta.later hM r3 r3.size) hd hd2
  have HD : Hid (stepsB e f = if stOk e f then steps e f else []) := rfl
  have HHv : Hid (stOk e f = true → ∀ w2, Below w.heap.size w w2 → Have e C f D w2) := fun hok w2 hb => ⟨Lay.sy.later hL hb hb.size, Lay.sta.later hM hb hb.size, hok⟩
  have HMo : Hid (∀ w2, Have e C f D w2 → Calls Try.prog 48 #[.agg #[C 0, C 1], .agg #[D 0, D 1]] w2 fun e' w' => ∃ (b : Nat) (es : Array MapEntry), e' = .returned (.agg #[C 0, C 1, D 0, D 1, .map (some b)]) ∧ w2.heap.size ≤ b ∧ Recv w' b (b + 2) (rcN e f e.ps.length 0) es ∧ Below w2.heap.size w2 w') := fun w2 hh => momentOf_any e C f D w2 hh hds
  have HCo : Hid (∀ W, Have e C f D W → ∀ (b base : Nat) (es : Array MapEntry), Recv W b base (rcN e f e.ps.length 0) es → Calls Try.prog 47 #[.func (.func 49) #[.agg #[C 0, C 1, D 0, D 1, .map (some b)]] #[]] W (EnPost (steps e f) W)) := fun W hh b base es hR => collect_any e C f D W hh hds b base es hR
  obtain ⟨c0, hc0⟩ : ∃ c0, c0 = C 0 := ⟨_, rfl⟩
  obtain ⟨c1, hc1⟩ : ∃ c1, c1 = C 1 := ⟨_, rfl⟩
  obtain ⟨u0, hu0⟩ : ∃ u0, u0 = D 0 := ⟨_, rfl⟩
  obtain ⟨u1, hu1⟩ : ∃ u1, u1 = D 1 := ⟨_, rfl⟩
  rw [← hc0, ← hc1, ← hu0, ← hu1] at HV hW1 HMo HCo ⊢
  rw [← hc0, ← hc1] at r1
  rw [← hu0, ← hu1] at r2
  have HR1 := Lib.hid r1
  have HR2 := Lib.hid r2
  have HB1 := Lib.hid r3
  have HW1 := Lib.hid hW1
  obtain ⟨s0, s1⟩ := r1.two
  obtain ⟨t0, t1⟩ := r2.two
  obtain ⟨o, ho⟩ : ∃ o, o = stOk e f := ⟨_, rfl⟩
  rw [← ho] at HD HHv HV
  clear hL hM hc0 hc1 hu0 hu1 r1 r2 r3 hW1 hds hd hd2 ho
  go_enter Try.func19, Try.ntmps19
  go_wp2_with fail
  rw [← HW1.out]
  refine HV.out.mono ?_
  rintro e' w2 ⟨rfl, hb2⟩
  have HB2 : Hid (Below w.heap.size w w2) := HB1.out.trans (hb2.mono HB1.out.size)
  obtain ⟨s2, s3⟩ := (HR1.out.under hb2 HR1.out.lt).two
  obtain ⟨t2, t3⟩ := (HR2.out.under hb2 HR2.out.lt).two
  clear hb2 s0 s1 t0 t1
  cases o
  · have HF : Hid (EnPost (stepsB e f) w (.returned (.slice none 0 0)) w2) := by
      show EnPost _ _ _ _
      rw [HD.out]
      exact ⟨_, rfl, World.ownsRow_nil _ _ _ _, HB2.out⟩
    go_wp2_with fail
    go_ret
    exact HF.out
  · have HH2 := Lib.hid (HHv.out rfl w2 HB2.out)
    clear HHv
    go_wp2_with fail
    refine (HMo.out w2 HH2.out).mono ?_
    rintro e' w3 ⟨b, es, rfl, hbb, hR, hb3⟩
    have HB3 : Hid (Below w.heap.size w w3) := HB2.out.trans (hb3.mono HB2.out.size)
    have HCw := Lib.hid (HCo.out w3 (HH2.out.later hb3) b (b + 2) es hR)
    clear hb3 hR s2 s3 t2 t3 hbb
    go_wp2_with fail
    refine HCw.out.mono ?_
    rintro e' w4 ⟨v, rfl, ho4, hb4⟩
    have HF : Hid (EnPost (stepsB e f) w (.returned v) w4) := by
      show EnPost _ _ _ _
      rw [HD.out]
      exact ⟨v, rfl, owns_mono ho4 HB3.out.size, HB3.out.trans (hb4.mono HB3.out.size)⟩
    clear ho4 hb4
    go_wp2_with fail
    go_ret
    exact HF.out

end Go.Proofs.Ytefpdkfogfhniaa

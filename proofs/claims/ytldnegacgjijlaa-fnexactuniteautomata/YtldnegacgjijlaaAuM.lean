/- Automata in rows of one's own; the walks of laws.markAutomaton and laws.heldAutomaton. -/
import Derived.Test.YtldnegacgjijlaaBoM
import Derived.Test.YtldnegacgjijlaaTrM
namespace Go.Proofs.Ytldnegacgjijlaa
open Go.RowKit

/-- Three stretches of blocks, apart from each other, from lo on and below hi. -/
structure Apart3 (lo hi m0 m1 n0 n1 e0 e1 : Nat) : Prop where
  l0 : lo ≤ m0
  l1 : m1 ≤ hi
  l2 : lo ≤ n0
  l3 : n1 ≤ hi
  l4 : lo ≤ e0
  l5 : e1 ≤ hi
  mn : m1 ≤ n0 ∨ n1 ≤ m0
  me : m1 ≤ e0 ∨ e1 ≤ m0
  ne : n1 ≤ e0 ∨ e1 ≤ n0
/-- An automaton in rows of one's own. -/
def AuR (w : World) (lo hi : Nat) (ini : List Int) (acc : List Bool) (es : List Tr) (v0 v1 v2 : Value) : Prop :=
  ∃ m0 m1 n0 n1 e0 e1 : Nat, Apart3 lo hi m0 m1 n0 n1 e0 e1 ∧ (Lay.int.slice 3).sep w m0 m1 ini (fun _ => v0) ∧ (Lay.bo.slice 4).sep w n0 n1 acc (fun _ => v1) ∧ TrI w e0 e1 es v2
theorem AuR.keep {w w' : World} {lo hi : Nat} {ini : List Int} {acc : List Bool} {es : List Tr} {v0 v1 v2 : Value} (h : AuR w lo hi ini acc es v0 v1 v2) (hk : ∀ g, lo ≤ g → g < hi → w'.heap[g]? = w.heap[g]?) : AuR w' lo hi ini acc es v0 v1 v2 := by
  obtain ⟨m0, m1, n0, n1, e0, e1, ha, h1, h2, h3⟩ := h
  have hb := ha
  obtain ⟨l0, l1, l2, l3, l4, l5, _, _, _⟩ := hb
  exact ⟨m0, m1, n0, n1, e0, e1, ha, (Lay.int.slice _).sep_keep (fun g a b => hk g (by omega) (by omega)) h1, (Lay.bo.slice _).sep_keep (fun g a b => hk g (by omega) (by omega)) h2, h3.keep fun g a b => hk g (by omega) (by omega)⟩
theorem AuR.under {w w' : World} {lo hi B : Nat} {ini : List Int} {acc : List Bool} {es : List Tr} {v0 v1 v2 : Value} (h : AuR w lo hi ini acc es v0 v1 v2) (hb : Below B w w') (hB : hi ≤ B) : AuR w' lo hi ini acc es v0 v1 v2 := h.keep fun g _ k => hb.block g (by omega)
theorem AuR.kept {w w' : World} {lo hi lo' hi' : Nat} {ini : List Int} {acc : List Bool} {es : List Tr} {v0 v1 v2 : Value} (h : AuR w lo hi ini acc es v0 v1 v2) (hk : Kept lo' hi' w w') (hh : hi ≤ w.heap.size) (hd : hi ≤ lo' ∨ hi' ≤ lo) : AuR w' lo hi ini acc es v0 v1 v2 := h.keep fun g a b => hk.other g (by omega) (by omega)
theorem AuR.form {w : World} {lo hi : Nat} {ini : List Int} {acc : List Bool} {es : List Tr} {v0 v1 v2 : Value} (h : AuR w lo hi ini acc es v0 v1 v2) : ∃ A c A' c' A'' c'', v0 = .slice A ini.length c ∧ v1 = .slice A' acc.length c' ∧ v2 = .slice A'' es.length c'' := by
  obtain ⟨_, _, _, _, _, _, _, h1, h2, h3⟩ := h
  obtain ⟨A, c, _, _, _, _, e0, _⟩ := h1
  obtain ⟨A', c', _, _, _, _, e1, _⟩ := h2
  obtain ⟨A'', c'', e2, _⟩ := h3
  exact ⟨A, c, A', c', A'', c'', e0, e1, e2⟩
theorem TrI.opn {w : World} {lo hi : Nat} {l : List Tr} {v : Value} (h : TrI w lo hi l v) (hh : hi ≤ w.heap.size) (hr : ∀ e ∈ l, TrR e) : ∃ (A : Option Addr) (cap b off : Nat) (D : Nat → Nat → Value), v = .slice A l.length cap ∧ Lay.tr.Opn w w.heap.size l A b off D := by
  obtain ⟨A, cap, hv, h1⟩ := h
  rcases h1 with rfl | ⟨g, cs, rfl, h2, h3, hrw, hc⟩
  · exact ⟨A, cap, 0, 0, fun _ _ => undef, hv, fun i x hx => by cases hx⟩
  · refine ⟨_, cap, g, 0, fun i j => (cs[i * 4 + j]?).getD undef, hv, fun i x hx => ?_⟩
    obtain ⟨k0, k1, k2, k3⟩ := hc i x hx
    have hx4 := hr x (List.mem_of_getElem? hx)
    refine ⟨rfl, by omega, fun j hj => ?_, ⟨?_, hx4.1⟩, ⟨?_, hx4.2.1⟩, ⟨?_, hx4.2.2.1⟩, ⟨?_, hx4.2.2.2⟩⟩
    · have hj4 : j < 4 := hj
      rw [hrw.cell, Nat.zero_add]
      show cs[i * 4 + j]? = some ((cs[i * 4 + j]?).getD undef)
      rcases (by omega : j = 0 ∨ j = 1 ∨ j = 2 ∨ j = 3) with rfl | rfl | rfl | rfl
      · simp only [Nat.add_zero]; rw [k0]; rfl
      · rw [k1]; rfl
      · rw [k2]; rfl
      · rw [k3]; rfl
    · show (cs[i * 4 + 0]?).getD undef = _
      rw [Nat.add_zero, k0]; rfl
    · show (cs[i * 4 + 1]?).getD undef = _
      rw [k1]; rfl
    · show (cs[i * 4 + 2]?).getD undef = _
      rw [k2]; rfl
    · show (cs[i * 4 + 3]?).getD undef = _
      rw [k3]; rfl
theorem AuR.lies {w : World} {lo hi : Nat} {ini : List Int} {acc : List Bool} {es : List Tr} {v0 v1 v2 : Value} (h : AuR w lo hi ini acc es v0 v1 v2) (hh : hi ≤ w.heap.size) (hr : ∀ e ∈ es, TrR e) (l3 : es.length ≤ 1048576) : Lay.au.lies w w.heap.size ⟨ini, acc, es⟩ (fun j => (#[v0, v1, v2] : Array Value).getD j undef) := by
  obtain ⟨m0, m1, n0, n1, e0, e1, ha, h1, h2, h3⟩ := h
  obtain ⟨l0, l1, l2, l3', l4, l5, _, _, _⟩ := ha
  obtain ⟨A, cap, b, off, D, rfl, hO⟩ := h3.opn (by omega) hr
  exact ⟨(Lay.int.slice _).more ((Lay.int.slice _).sep_lies h1) (by omega), (Lay.bo.slice _).more ((Lay.bo.slice _).sep_lies h2) (by omega), A, cap, b, off, D, rfl, (show es.length ≤ maxLen by unfold maxLen; omega), hO⟩

/-- What marks from 1 on leave of an automaton. -/
abbrev mkI (ini : List Int) : List Int := from_ 1 ini.length
abbrev mkB (ini : List Int) (acc : List Bool) : List Bool := bfrom (1 + ini.length) acc.length
abbrev mkE (ini : List Int) (acc : List Bool) (es : List Tr) : List Tr := mkTrs (1 + ini.length + acc.length) es.length

set_option maxHeartbeats 1000000 in
set_option maxRecDepth 100000 in
theorem mkAu_any (ini : List Int) (acc : List Bool) (es : List Tr) (v0 v1 v2 : Value) (lo hi : Nat) (w : World) (h : AuR w lo hi ini acc es v0 v1 v2) (hhi : hi ≤ w.heap.size) (h1 : ini.length ≤ 4096) (h2 : acc.length ≤ 4096) (h3 : es.length ≤ 1048576) :
    Calls Try.prog 25 #[.agg #[v0, v1, v2], .int .i64 1] w fun e' w' => e' = .returned (.int .i64 (1 + ini.length + acc.length + 4 * es.length)) ∧ AuR w' lo hi (mkI ini) (mkB ini acc) (mkE ini acc es) v0 v1 v2 ∧ Kept lo hi w w' := by
  obtain ⟨A0, c0, A1, c1, A2, c2, e0, e1, e2⟩ := h.form
  obtain ⟨m0, m1, n0, n1, x0, x1, ha, hi1, hp1, ht1⟩ := h
  subst e0 e1 e2
  obtain ⟨W1, hW1⟩ : ∃ W1, W1 = w.alloc (.cells #[.slice A0 ini.length c0, .slice A1 acc.length c1, .slice A2 es.length c2] 51) := ⟨_, rfl⟩
  have hb0 : Below w.heap.size w W1 := by rw [hW1]; exact (Below.refl _ _).alloc (Nat.le_refl _) _
  have HR : Hid (Row W1 w.heap.size 51 #[.slice A0 ini.length c0, .slice A1 acc.length c1, .slice A2 es.length c2]) := by rw [hW1]; exact Row.new _ _ _
  have HAp := Lib.hid ha
  have HI := Lib.hid ((Lay.int.slice _).sunder hi1 hb0 (by have := ha.l1; omega))
  have HP := Lib.hid ((Lay.bo.slice _).sunder hp1 hb0 (by have := ha.l3; omega))
  have HT : Hid (TrI W1 x0 x1 es (.slice A2 es.length c2)) := ht1.keep fun g a b => hb0.block g (by have := ha.l5; omega)
  have HK0 : Hid (Kept lo hi w W1) := Kept.of_below hb0 lo hi
  have hs1 := hb0.size
  have HW1 := Lib.hid hW1
  clear hW1 hb0 hi1 hp1 ht1 ha
  go_enter Try.func25, Try.ntmps25
  go_wp2_with fail
  rw [← HW1.out]
  refine (mkInX_any ini (fun _ => .slice A0 ini.length c0) 1 m0 m1 _ HI.out (by omega) (by omega) (by omega)).mono ?_
  rintro e' w2 ⟨rfl, hx2, hk2⟩
  have hr2 := HR.out.kept hk2 (by have := HAp.out.l1; omega)
  obtain ⟨g0, g1, g2⟩ := hr2.three
  have hz2 := hk2.size
  have HP2 := Lib.hid ((Lay.bo.slice 4).sep_keep (fun q b1 b2 => hk2.other q (by have := HAp.out.l3; omega) (by have := HAp.out.mn; omega)) HP.out)
  have HT2 : Hid (TrI w2 x0 x1 es (.slice A2 es.length c2)) := HT.out.keep fun q b1 b2 => hk2.other q (by have := HAp.out.l5; omega) (by have := HAp.out.me; omega)
  have HX2 := Lib.hid hx2
  have HK2 := Lib.hid (HK0.out.trans (hk2.more HAp.out.l0 HAp.out.l1))
  have HR2 := Lib.hid hr2
  clear hk2 g0 g2 hx2 HI HP HT HK0 hr2 HR
  go_wp2_with fail
  refine (mkBoX_any acc (fun _ => .slice A1 acc.length c1) (1 + ini.length) n0 n1 _ HP2.out (by omega) (by omega) (by omega)).mono ?_
  rintro e' w3 ⟨rfl, hx3, hk3⟩
  have hr3 := HR2.out.kept hk3 (by have := HAp.out.l3; omega)
  clear g1
  obtain ⟨g0, g1, g2⟩ := hr3.three
  have hz3 := hk3.size
  have HT3 : Hid (TrI w3 x0 x1 es (.slice A2 es.length c2)) := HT2.out.keep fun q b1 b2 => hk3.other q (by have := HAp.out.l5; omega) (by have := HAp.out.ne; omega)
  have HX3 := Lib.hid ((Lay.int.slice 3).sep_keep (fun q b1 b2 => hk3.other q (by have := HAp.out.l1; omega) (by have := HAp.out.mn; omega)) HX2.out)
  have HY3 := Lib.hid hx3
  have HK3 := Lib.hid (HK2.out.trans (hk3.more HAp.out.l2 HAp.out.l3))
  clear hk3 g0 g1 hx3 HT2 HX2 HK2 hr3 HR2 HP2
  go_wp2_with fail
  refine (mkTrs_any es (.slice A2 es.length c2) (1 + ini.length + acc.length) x0 x1 _ HT3.out h3 (by omega) (by omega)).mono ?_
  rintro e' w4 ⟨rfl, hx4, hk4⟩
  have HK4 := Lib.hid (HK3.out.trans (hk4.more HAp.out.l4 HAp.out.l5))
  have HF : Hid (AuR w4 lo hi (mkI ini) (mkB ini acc) (mkE ini acc es) (.slice A0 ini.length c0) (.slice A1 acc.length c1) (.slice A2 es.length c2)) :=
    ⟨m0, m1, n0, n1, x0, x1, HAp.out, (Lay.int.slice 3).sep_keep (fun q b1 b2 => hk4.other q (by have := HAp.out.l1; omega) (by have := HAp.out.me; omega)) HX3.out, (Lay.bo.slice 4).sep_keep (fun q b1 b2 => hk4.other q (by have := HAp.out.l3; omega) (by have := HAp.out.ne; omega)) HY3.out, hx4⟩
  clear hk4 g2 hx4
  go_wp2_with fail
  go_ret
  exact ⟨rfl, HF.out, HK4.out⟩

set_option maxHeartbeats 1000000 in
set_option maxRecDepth 100000 in
theorem heldAu_any (ini : List Int) (acc : List Bool) (es : List Tr) (v0 v1 v2 : Value) (lo hi : Nat) (w : World) (h : AuR w lo hi (mkI ini) (mkB ini acc) (mkE ini acc es) v0 v1 v2) (hhi : hi ≤ w.heap.size) (h1 : ini.length ≤ 4096) (h2 : acc.length ≤ 4096) (h3 : es.length ≤ 1048576) :
    Calls Try.prog 26 #[.agg #[v0, v1, v2], .int .i64 1] w fun e' w' => e' = .returned (.int .i64 (1 + ini.length + acc.length + 4 * es.length)) ∧ Below w.heap.size w w' := by
  obtain ⟨A0, c0, A1, c1, A2, c2, e0, e1, e2⟩ := h.form
  obtain ⟨m0, m1, n0, n1, x0, x1, ha, hi1, hp1, ht1⟩ := h
  subst e0 e1 e2
  obtain ⟨W1, hW1⟩ : ∃ W1, W1 = w.alloc (.cells #[.slice A0 (mkI ini).length c0, .slice A1 (mkB ini acc).length c1, .slice A2 (mkE ini acc es).length c2] 51) := ⟨_, rfl⟩
  have hb0 : Below w.heap.size w W1 := by rw [hW1]; exact (Below.refl _ _).alloc (Nat.le_refl _) _
  have HR : Hid (Row W1 w.heap.size 51 #[.slice A0 (mkI ini).length c0, .slice A1 (mkB ini acc).length c1, .slice A2 (mkE ini acc es).length c2]) := by rw [hW1]; exact Row.new _ _ _
  have HI := Lib.hid ((Lay.int.slice _).later ((Lay.int.slice _).more ((Lay.int.slice _).sep_lies hi1) (show m1 ≤ w.heap.size by have := ha.l1; omega)) hb0 hb0.size)
  have HP := Lib.hid ((Lay.bo.slice _).later ((Lay.bo.slice _).more ((Lay.bo.slice _).sep_lies hp1) (show n1 ≤ w.heap.size by have := ha.l3; omega)) hb0 hb0.size)
  have HT : Hid (TrI W1 x0 x1 (mkE ini acc es) (.slice A2 (mkE ini acc es).length c2)) := ht1.keep fun g a b => hb0.block g (by have := ha.l5; omega)
  have HB0 := Lib.hid hb0
  have HW1 := Lib.hid hW1
  clear hW1 hb0 hi1 hp1 ht1 ha
  go_enter Try.func26, Try.ntmps26
  go_wp2_with fail
  rw [← HW1.out]
  refine (heldIn_any ini.length (fun _ => .slice A0 (mkI ini).length c0) 1 _ HI.out (by omega) (by omega) (by omega)).mono ?_
  rintro e' w2 ⟨rfl, rfl⟩
  obtain ⟨g0, g1, g2⟩ := HR.out.three
  go_wp2_with fail
  refine (heldBo_any acc.length (fun _ => .slice A1 (mkB ini acc).length c1) (1 + ini.length) _ HP.out (by omega) (by omega) (by omega)).mono ?_
  rintro e' w3 ⟨rfl, rfl⟩
  go_wp2_with fail
  refine (heldTrs_any es.length (.slice A2 (mkE ini acc es).length c2) (1 + ini.length + acc.length) x0 x1 _ HT.out h3 (by omega) (by omega)).mono ?_
  rintro e' w4 ⟨rfl, rfl⟩
  go_wp2_with fail
  go_ret
  exact ⟨rfl, HB0.out⟩

end Go.Proofs.Ytldnegacgjijlaa

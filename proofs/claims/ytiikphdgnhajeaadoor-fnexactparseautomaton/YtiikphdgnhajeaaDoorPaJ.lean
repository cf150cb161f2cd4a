/- How reading an automaton ends, as plain data; an automaton in rows of one's own lies in memory. -/
import Derived.Test.YtiikphdgnhajeaaDoorPaI
namespace Go.Proofs.YtiikphdgnhajeaaDoor
open Go.RowKit

theorem end_parts {t r3 r : ByteArray} {n : Nat} {ini accl : List Int} {es : List Tr} (h : TsOk t n ini accl r3) (h3 : r3.data.toList = edsL es ++ r.data.toList) (hr : TrsR es) {a : Au} (ha : auOk a = true) (hra : TrsR a.es) (e : auB a = t) :
    a.acc.length = n ∧ a.ini = ini ∧ accs a.acc = accl ∧ ∃ tl, a.es = es ++ tl ∧ r.data.toList = edsL tl := by
  obtain ⟨r1, r2, d1, d2, d3, _⟩ := h
  obtain ⟨s1, s2, s3, k1, k2, k3, k4⟩ := au_take ha hra e
  obtain ⟨u1, u2⟩ := decN_unique wd_aut k1 d1
  have e1 : s1 = r1 := ByteArray.ext (Array.toList_inj.1 u2)
  subst e1
  obtain ⟨u3, u4⟩ := decN_unique wd_ini k2 d2
  have e2 : s2 = r2 := ByteArray.ext (Array.toList_inj.1 u4)
  subst e2
  obtain ⟨u5, u6⟩ := decN_unique wd_acc k3 d3
  rw [← u6, k4] at h3
  obtain ⟨tl, q1, q2⟩ := eds_prefix es a.es r.data.toList hr hra h3.symm
  injection u1 with u1
  exact ⟨by omega, u3, u5, tl, q1, q2⟩
theorem end_rest {t r3 r : ByteArray} {n : Nat} {ini accl : List Int} {es : List Tr} (h : TsOk t n ini accl r3) (h3 : r3.data.toList = edsL es ++ r.data.toList) (hr : TrsR es) (hne : r ≠ ⟨#[]⟩)
    (hno : (∀ zs after, ¬ DecN r edgW 4 4 zs after) ∨ 2048 ≤ es.length) : NoAu t := fun a ha hra e => by
  obtain ⟨_, _, _, tl, q1, q2⟩ := end_parts h h3 hr ha hra e
  have htl : tl = [] := by
    rcases hno with hno | hno
    · cases tl with
      | nil => rfl
      | cons f s =>
        rw [edsL_cons] at q2
        exact absurd (decN_ed (hra f (by rw [q1]; simp)) q2) (hno _ _)
    · obtain ⟨_, _, h5, _⟩ := auOk_parts ha
      rw [q1, List.length_append] at h5
      exact List.length_eq_zero_iff.1 (by omega)
  rw [htl] at q2
  exact hne (ByteArray.ext (Array.toList_inj.1 q2))
theorem end_bad {t r3 r : ByteArray} {n : Nat} {ini accl : List Int} {es : List Tr} (h : TsOk t n ini accl r3) (h3 : r3.data.toList = edsL es ++ r.data.toList) (hr : TrsR es) (he : r = ⟨#[]⟩)
    (hb : auOk ⟨ini, marksB n accl, es⟩ = false) : NoAu t := fun a ha hra e => by
  obtain ⟨p1, p2, p3, tl, q1, q2⟩ := end_parts h h3 hr ha hra e
  have htl : tl = [] := by
    cases tl with
    | nil => rfl
    | cons f s =>
      rw [he, edsL_cons] at q2
      unfold edL at q2
      have := congrArg List.length q2
      simp at this
  rw [htl, List.append_nil] at q1
  have : a = ⟨ini, marksB n accl, es⟩ := by
    obtain ⟨i, c, s⟩ := a
    dsimp only at p1 p2 p3 q1
    rw [← p1, ← p2, ← p3, ← q1, asc_eq_marks]
  rw [this, hb] at ha
  cases ha
theorem end_good {t r3 r : ByteArray} {n : Nat} {ini accl : List Int} {es : List Tr} (h : TsOk t n ini accl r3) (h3 : r3.data.toList = edsL es ++ r.data.toList) (hr : TrsR es) (he : r = ⟨#[]⟩)
    (hb : auOk ⟨ini, marksB n accl, es⟩ = true) : auB ⟨ini, marksB n accl, es⟩ = t := by
  obtain ⟨r1, r2, d1, d2, d3, _, _, hasc⟩ := h
  have hi := auOk_ini hb
  have ha := auOk_accs hb
  have hs : ∀ e ∈ es, SmallN (trNs e) := fun e he => by
    obtain ⟨i, hi⟩ := List.getElem?_of_mem he
    exact auOk_tr hb hi (hr e he)
  dsimp only at hi ha
  rw [accs_marks hasc] at ha
  apply ByteArray.ext
  apply Array.toList_inj.1
  unfold auB
  rw [fold_edL _ _ hs]
  unfold headA
  dsimp only
  rw [accs_marks hasc, marksB_len]
  have e1 := decN_back d1 (fun z hz => by simp only [List.mem_singleton] at hz; omega)
  have e2 := decN_back d2 (fun z hz => (hi.1 z hz).1)
  have e3 := decN_back d3 (fun z hz => (ha.1 z hz).1)
  rw [e1, e2, e3, h3, he]
  simp

theorem au_mk {w : World} {gi ga base : Nat} {v : Value} {ini : List Int} {acc : List Bool} {es : List Tr} (h1 : LaidI w gi ini ini.length) (h2 : RowB w ga acc) (h3 : OwnT w base v es) (hr : TrsR es) (l1 : ini.length ≤ 1048576) (l2 : acc.length ≤ 1048576) (l3 : es.length ≤ 1048576) :
    Lay.au.lies w w.heap.size ⟨ini, acc, es⟩ (fun j => (#[.slice (some ⟨gi, 0, none⟩) ini.length ini.length, .slice (some ⟨ga, 0, none⟩) acc.length acc.length, v] : Array Value).getD j undef) := by
  have m1 : ini.length ≤ maxLen := by unfold maxLen; omega
  have m2 : acc.length ≤ maxLen := by unfold maxLen; omega
  have m3 : es.length ≤ maxLen := by unfold maxLen; omega
  refine ⟨(Lay.int.slice 3).sep_lies (h1.sep (lo := gi) (cap := ini.length) m1 (Nat.le_refl _) rfl), ?_, ?_⟩
  · obtain ⟨cs, k1, k2, k3⟩ := h2
    refine ⟨some ⟨ga, 0, none⟩, acc.length, ga, 0, fun i _ => .bool (acc.getD i false), rfl, m2, fun i x hx => ⟨rfl, k1.lt, fun j hj => ?_, ?_⟩⟩
    · have hj0 : j = 0 := by have : j < 1 := hj; omega
      subst hj0
      show w.cell? ⟨ga, 0 + i * 1 + 0, none⟩ = some (.bool (acc.getD i false))
      rw [k1.cell, Nat.mul_one, Nat.add_zero, Nat.zero_add, k3 i x hx]
      simp [List.getD, hx]
    · show Value.bool (acc.getD i false) = .bool x
      simp [List.getD, hx]
  · rcases h3.2 with ⟨hv, hl⟩ | ⟨g, cap, cur, hv, hg, hh, _, _, _, ht⟩
    · have : es = [] := List.length_eq_zero_iff.1 hl
      subst this
      exact ⟨none, 0, 0, 0, fun _ _ => undef, hv, Nat.zero_le _, fun i x hx => by simp at hx⟩
    · have hrow : Row w g 45 cur := hh
      refine ⟨some ⟨g, 0, none⟩, cap, g, 0, fun i j => (cellsT es).getD (i * 4 + j) undef, hv, m3, fun i x hx => ⟨rfl, hrow.lt, fun j hj => ?_, ?_⟩⟩
      · have hi : i < es.length := (List.getElem?_eq_some_iff.1 hx).1
        have hj4 : j < 4 := hj
        show w.cell? ⟨g, 0 + i * 4 + j, none⟩ = _
        rw [hrow.cell, Nat.zero_add]
        have hlt : i * 4 + j < (cellsT es).length := by rw [cellsT_len]; omega
        obtain ⟨u, h5⟩ : ∃ u, (cellsT es)[i * 4 + j]? = some u := ⟨_, List.getElem?_eq_getElem hlt⟩
        have h6 := h5
        rw [← ht, List.getElem?_take] at h6
        split at h6
        · rw [Array.getElem?_toList] at h6
          rw [h6]
          simp [List.getD, h5]
        · cases h6
      · obtain ⟨c0, c1, c2, c3⟩ := cellsT_at hx
        have hrx := hr x (List.mem_of_getElem? hx)
        refine ⟨⟨?_, hrx.1⟩, ⟨?_, hrx.2.1⟩, ⟨?_, hrx.2.2.1⟩, ⟨?_, hrx.2.2.2⟩⟩
        · show (cellsT es).getD (i * 4 + 0) undef = _
          simp [List.getD, c0]
        · show (cellsT es).getD (i * 4 + (1 + 0)) undef = _
          simp [List.getD, c1]
        · show (cellsT es).getD (i * 4 + (1 + (1 + 0))) undef = _
          simp [List.getD, c2]
        · show (cellsT es).getD (i * 4 + (1 + (1 + 1))) undef = _
          simp [List.getD, c3]

end Go.Proofs.YtiikphdgnhajeaaDoor

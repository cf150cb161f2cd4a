/- The lines of an automaton's text, as spec.ParseAutomaton takes them, as plain data. -/
import Derived.Test.YtiikphdgnhajeaaDoorL7n
import Derived.Test.YtiikphdgnhajeaaDoorTs
namespace Go.Proofs.YtiikphdgnhajeaaDoor
open Go.RowKit

def IsAu (t : ByteArray) (a : Au) : Prop := auOk a = true ∧ TrsR a.es ∧ auB a = t
theorem noAu_of {t : ByteArray} (h : ∀ a, IsAu t a → False) : NoAu t := fun a h1 h2 h3 => h a ⟨h1, h2, h3⟩
def lineW (word : ByteArray) (zs : List Int) : List UInt8 := joinL (word.data.toList :: zs.map Lib.itoa)
theorem lineW_free {word : ByteArray} (hw : Wd word) (zs : List Int) : (10 : UInt8) ∉ lineW word zs := joinL_mem (by decide) _ fun p hp => by
  rcases List.mem_cons.1 hp with rfl | hp
  · exact hw.2
  · exact (itoa_free zs p hp).2
theorem cut_joinL : ∀ (ps : List (List UInt8)), ps ≠ [] → (∀ p ∈ ps, (32 : UInt8) ∉ p) → cutP 32 [] (joinL ps) = ps := by
  intro ps
  induction ps with
  | nil => intro h; exact absurd rfl h
  | cons x r ih =>
    intro _ h
    cases r with
    | nil => exact cutP_end x [] (h x List.mem_cons_self)
    | cons y r =>
      show cutP 32 [] (x ++ 32 :: joinL (y :: r)) = _
      rw [cutP_hit x [] (h x List.mem_cons_self), ih (by simp) fun p hp => h p (List.mem_cons_of_mem _ hp)]
      rfl
theorem cut_line {word : ByteArray} (hw : Wd word) (zs : List Int) : cutP 32 [] (lineW word zs) = word.data.toList :: zs.map Lib.itoa := cut_joinL _ (by simp) fun p hp => by
  rcases List.mem_cons.1 hp with rfl | hp
  · exact hw.1
  · exact (itoa_free zs p hp).1
theorem nums_line {word line : ByteArray} {zs zs' : List Int} (hw : Wd word) (h : SmallN zs) (hl : zs.length ≤ 64) (e : toL line = lineW word zs) (hn : NumsOf line zs') : zs' = zs := by
  obtain ⟨h1, h2⟩ := hn
  rw [e, cut_line hw] at h1 h2
  rw [List.length_cons, List.length_map] at h1
  refine List.ext_getElem? fun i => ?_
  rcases Nat.lt_or_ge i zs.length with hi | hi
  · have hi' : i < zs'.length := by omega
    have ha : zs'[i]? = some zs'[i] := List.getElem?_eq_getElem hi'
    have hb : zs[i]? = some zs[i] := List.getElem?_eq_getElem hi
    have hs := h zs[i] (List.mem_of_getElem? hb)
    have h3 := (h2 i _ ha).2.2 zs[i].toNat (by omega) (by rw [List.getElem?_cons_succ, List.getElem?_map, hb]; show some (Lib.itoa zs[i]) = _; rw [itoa_nn hs.1])
    rw [ha, hb, h3]
    congr 1
    omega
  · rw [List.getElem?_eq_none hi, List.getElem?_eq_none (by omega)]
theorem cut_eds : ∀ (es : List Tr), cutP 10 [] (edsL es) = es.map (fun e => lineW edgW (trNs e)) ++ [[]] := by
  intro es
  induction es with
  | nil => rfl
  | cons e r ih =>
    rw [edsL_cons]
    show cutP 10 [] ((lineW edgW (trNs e) ++ [10]) ++ edsL r) = _
    rw [List.append_assoc]
    show cutP 10 [] (lineW edgW (trNs e) ++ 10 :: edsL r) = _
    rw [cutP_hit _ [] (lineW_free wd_edg _), ih]
    rfl
theorem small_one {n : Nat} (h : n ≤ 64) : SmallN [(n : Int)] := fun z hz => by
  simp only [List.mem_singleton] at hz
  omega
theorem lines_of {t : ByteArray} {a : Au} (h : IsAu t a) : cutP 10 [] (toL t) = lineW autW [(a.acc.length : Int)] :: lineW iniW a.ini :: lineW accW (accs a.acc) :: (a.es.map (fun e => lineW edgW (trNs e)) ++ [[]]) := by
  obtain ⟨h1, h2, rfl⟩ := h
  obtain ⟨p1, p2, p3, p4, p5⟩ := auOk_parts h1
  have hi := auOk_ini h1
  have ha := auOk_accs h1
  have hs : ∀ e ∈ a.es, SmallN (trNs e) := fun e he => by
    obtain ⟨i, hi⟩ := List.getElem?_of_mem he
    exact auOk_tr h1 hi (h2 e he)
  have e : toL (auB a) = lineW autW [(a.acc.length : Int)] ++ 10 :: (lineW iniW a.ini ++ 10 :: (lineW accW (accs a.acc) ++ 10 :: edsL a.es)) := by
    unfold toL auB
    rw [fold_edL _ _ hs]
    unfold headA
    rw [ByteArray.data_append, Array.toList_append, ByteArray.data_append, Array.toList_append, lineN_list autW (rg_small (small_one p2)).2, lineN_list iniW (rg_small hi.1).2, lineN_list accW (rg_small ha.1).2]
    unfold lineW
    simp
  rw [e, cutP_hit _ [] (lineW_free wd_aut _), cutP_hit _ [] (lineW_free wd_ini _), cutP_hit _ [] (lineW_free wd_acc _), cut_eds]
  rfl

section
variable {t : ByteArray} {a : Au} {done : List ByteArray} (h : IsAu t a) (hd : done.map toL = cutP 10 [] (toL t))
include h hd
theorem au_len : done.length = a.es.length + 4 := by
  have := congrArg List.length hd
  rw [List.length_map, lines_of h] at this
  simp at this
  omega
omit h in
theorem au_at {k : Nat} {p : ByteArray} (hp : done[k]? = some p) : (cutP 10 [] (toL t))[k]? = some (toL p) := by rw [← hd, List.getElem?_map, hp]; rfl
theorem au_k0 {p : ByteArray} {zs : List Int} (hp : done[0]? = some p) (hn : NumsOf p zs) : zs = [(a.acc.length : Int)] := by
  have e := au_at hd hp
  rw [lines_of h] at e
  simp only [List.getElem?_cons_zero, Option.some.injEq] at e
  obtain ⟨p1, p2, _⟩ := auOk_parts h.1
  exact nums_line wd_aut (small_one p2) (by simp) e.symm hn
theorem au_k1 {p : ByteArray} {zs : List Int} (hp : done[1]? = some p) (hn : NumsOf p zs) : zs = a.ini := by
  have e := au_at hd hp
  rw [lines_of h] at e
  simp only [List.getElem?_cons_zero, List.getElem?_cons_succ, Option.some.injEq] at e
  have hi := auOk_ini h.1
  exact nums_line wd_ini hi.1 hi.2 e.symm hn
theorem au_k2 {p : ByteArray} {zs : List Int} (hp : done[2]? = some p) (hn : NumsOf p zs) : zs = accs a.acc := by
  have e := au_at hd hp
  rw [lines_of h] at e
  simp only [List.getElem?_cons_zero, List.getElem?_cons_succ, Option.some.injEq] at e
  have hi := auOk_accs h.1
  exact nums_line wd_acc hi.1 hi.2 e.symm hn
theorem au_kE {i : Nat} {p : ByteArray} {zs : List Int} (hp : done[i + 3]? = some p) (hi : i + 4 < done.length) (hn : NumsOf p zs) : ∃ e, a.es[i]? = some e ∧ zs = trNs e := by
  have hl := au_len h hd
  have e := au_at hd hp
  rw [lines_of h] at e
  simp only [List.getElem?_cons_succ] at e
  have hi2 : i < a.es.length := by omega
  have he : a.es[i]? = some a.es[i] := List.getElem?_eq_getElem hi2
  rw [List.getElem?_append_left (by rw [List.length_map]; exact hi2), List.getElem?_map, he] at e
  injection e with e
  exact ⟨_, he, nums_line wd_edg (auOk_tr h.1 he (h.2.1 _ (List.mem_of_getElem? he))) (by unfold trNs; simp) e.symm hn⟩
end
theorem text_ne {t : ByteArray} {done : List ByteArray} (hd : done.map toL = cutP 10 [] (toL t)) (h4 : 4 ≤ done.length) : t ≠ ⟨#[]⟩ := fun e => by
  subst e
  have := congrArg List.length hd
  rw [List.length_map] at this
  simp [cutP] at this
  omega
/-- What is read of an automaton's text is the automaton. -/
theorem au_read {t : ByteArray} {a : Au} {done : List ByteArray} (h : IsAu t a) (hd : done.map toL = cutP 10 [] (toL t)) {p0 p1 p2 : ByteArray} {zs1 zs2 : List Int} {n : Nat} {es : List Tr}
    (q0 : done[0]? = some p0) (q1 : done[1]? = some p1) (q2 : done[2]? = some p2) (n0 : NumsOf p0 [(n : Int)]) (n1 : NumsOf p1 zs1) (n2 : NumsOf p2 zs2) (he : es = a.es.take es.length) (hl : es.length + 4 = done.length) : (⟨zs1, marksB n zs2, es⟩ : Au) = a := by
  have e0 := au_k0 h hd q0 n0
  have e1 := au_k1 h hd q1 n1
  have e2 := au_k2 h hd q2 n2
  have el := au_len h hd
  injection e0 with e0
  have en : n = a.acc.length := by omega
  rw [e1, e2, en, asc_eq_marks]
  have : es = a.es := by rw [he, List.take_of_length_le (by omega)]
  rw [this]
theorem au_inj {t : ByteArray} {a b : Au} (h : IsAu t a) (k : IsAu t b) : a = b := by
  obtain ⟨done, hd⟩ : ∃ done : List ByteArray, done.map toL = cutP 10 [] (toL t) := ⟨(cutP 10 [] (toL t)).map fun l => ⟨l.toArray⟩, by simp [toL, Function.comp_def]⟩
  have l1 := lines_of h
  rw [lines_of k] at l1
  have i1 := auOk_ini h.1
  have i2 := auOk_ini k.1
  have a1 := auOk_accs h.1
  have a2 := auOk_accs k.1
  have hl := (au_len h hd).symm.trans (au_len k hd)
  have inj : ∀ {word : ByteArray} {xs ys : List Int}, Wd word → SmallN xs → SmallN ys → lineW word xs = lineW word ys → xs = ys := fun {word xs ys} hw hx hy e => by
    have e1 := cut_line hw xs
    rw [e, cut_line hw ys] at e1
    injection e1 with _ e1
    have hln := congrArg List.length e1
    rw [List.length_map, List.length_map] at hln
    refine List.ext_getElem? fun i => ?_
    rcases Nat.lt_or_ge i xs.length with hi | hi
    · have ha : xs[i]? = some xs[i] := List.getElem?_eq_getElem hi
      have hb : ys[i]? = some (ys[i]'(by omega)) := List.getElem?_eq_getElem (by omega)
      have e2 := congrArg (fun l => l[i]?) e1
      simp only [List.getElem?_map, ha, hb, Option.map_some, Option.some.injEq] at e2
      have sx := hx xs[i] (List.mem_of_getElem? ha)
      have sy := hy (ys[i]'(by omega)) (List.mem_of_getElem? hb)
      have e3 := atoi_itoa (z := xs[i]) (by omega) (by omega)
      rw [← e2, atoi_itoa (by omega) (by omega)] at e3
      injection e3 with e3
      rw [ha, hb, e3]
    · rw [List.getElem?_eq_none hi, List.getElem?_eq_none (by omega)]
  injection l1 with k0 l1
  injection l1 with k1 l1
  injection l1 with k2 l1
  have hacc : a.acc.length = b.acc.length := by
    obtain ⟨_, p2, _⟩ := auOk_parts h.1
    obtain ⟨_, r2, _⟩ := auOk_parts k.1
    have := inj wd_aut (small_one r2) (small_one p2) k0
    injection this with this
    omega
  have hini := inj wd_ini i2.1 i1.1 k1
  have hac := inj wd_acc a2.1 a1.1 k2
  have hes : b.es = a.es := by
    have e1 := List.append_cancel_right l1
    refine List.ext_getElem? fun i => ?_
    rcases Nat.lt_or_ge i a.es.length with hi | hi
    · have ha : a.es[i]? = some a.es[i] := List.getElem?_eq_getElem hi
      have hb : b.es[i]? = some (b.es[i]'(by omega)) := List.getElem?_eq_getElem (by omega)
      have e2 := congrArg (fun l => l[i]?) e1
      simp only [List.getElem?_map, ha, hb, Option.map_some, Option.some.injEq] at e2
      have := inj wd_edg (auOk_tr k.1 hb (k.2.1 _ (List.mem_of_getElem? hb))) (auOk_tr h.1 ha (h.2.1 _ (List.mem_of_getElem? ha))) e2
      rw [ha, hb, trNs_inj this]
    · rw [List.getElem?_eq_none hi, List.getElem?_eq_none (by omega)]
  have h3 : marksB a.acc.length (accs a.acc) = marksB b.acc.length (accs b.acc) := by rw [hacc, hac]
  rw [asc_eq_marks, asc_eq_marks] at h3
  obtain ⟨x, y, z⟩ := a
  obtain ⟨x', y', z'⟩ := b
  dsimp only at hini hes h3
  rw [hini, hes, h3]

end Go.Proofs.YtiikphdgnhajeaaDoor

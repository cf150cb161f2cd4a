/- The text of an automaton, taken apart, as plain data. -/
import Derived.Test.YtiikphdgnhajeaaDoorFaP
import Derived.Test.YtiikphdgnhajeaaDoorTn
namespace Go.Proofs.YtiikphdgnhajeaaDoor
open Go.RowKit

theorem joinL_shift (a b : List UInt8) (r : List (List UInt8)) : joinL ((a ++ 32 :: b) :: r) = joinL (a :: b :: r) := by
  cases r with
  | nil => rfl
  | cons c s =>
    show (a ++ 32 :: b) ++ 32 :: joinL (c :: s) = a ++ 32 :: (b ++ 32 :: joinL (c :: s))
    simp
theorem itoa_nn {z : Int} (h : 0 ≤ z) : Lib.itoa z = Lib.decDigits z.toNat := by unfold Lib.itoa; rw [if_neg (by omega)]
theorem wordB_list : ∀ (zs : List Int) (word : ByteArray), (∀ z ∈ zs, 0 ≤ z) → (wordB word zs).data.toList = joinL (word.data.toList :: zs.map Lib.itoa) := by
  intro zs
  induction zs with
  | nil => intro word _; rfl
  | cons z r ih =>
    intro word h
    show (wordB (word ++ ((⟨#[32]⟩ : ByteArray) ++ numB z.toNat)) r).data.toList = _
    rw [ih _ fun y hy => h y (List.mem_cons_of_mem _ hy), List.map_cons, itoa_nn (h z List.mem_cons_self), ← joinL_shift]
    congr 2
theorem lineN_list {zs : List Int} (word : ByteArray) (h : ∀ z ∈ zs, 0 ≤ z) : (lineN word zs).data.toList = joinL (word.data.toList :: zs.map Lib.itoa) ++ [10] := by
  unfold lineN
  rw [ByteArray.data_append, Array.toList_append, wordB_list zs word h]
theorem rg_small {zs : List Int} (h : SmallN zs) : (∀ z ∈ zs, RgZ z) ∧ ∀ z ∈ zs, 0 ≤ z := ⟨fun z hz => by have := h z hz; unfold RgZ; omega, fun z hz => (h z hz).1⟩
theorem itoa_free (zs : List Int) : ∀ p ∈ zs.map Lib.itoa, (32 : UInt8) ∉ p ∧ (10 : UInt8) ∉ p := fun p hp => by
  rw [List.mem_map] at hp
  obtain ⟨z, _, rfl⟩ := hp
  exact ⟨fun hm => (itoa_byte hm).1 rfl, fun hm => (itoa_byte hm).2 rfl⟩
theorem decN_line {zs : List Int} {word : ByteArray} {lo hi : Nat} {t r : ByteArray} (h : SmallN zs) (h0 : lo ≤ zs.length) (h1 : zs.length ≤ hi) (ht : t.data.toList = (lineN word zs).data.toList ++ r.data.toList) : DecN t word lo hi zs r.data.toList := by
  refine ⟨⟨?_, ⟨by rw [List.length_map]; exact h0, by rw [List.length_map]; exact h1⟩, itoa_free zs⟩, (rg_small h).1⟩
  rw [ht, lineN_list word (rg_small h).2, List.append_assoc]
  rfl
theorem decN_back {zs : List Int} {word : ByteArray} {lo hi : Nat} {t : ByteArray} {r : List UInt8} (h : DecN t word lo hi zs r) (hn : ∀ z ∈ zs, 0 ≤ z) : t.data.toList = (lineN word zs).data.toList ++ r := by
  rw [lineN_list word hn, List.append_assoc]
  exact h.1.1

/-- The lines of edges. -/
def edL (e : Tr) : List UInt8 := joinL (edgW.data.toList :: (trNs e).map Lib.itoa) ++ [10]
def edsL (es : List Tr) : List UInt8 := es.flatMap edL
theorem edsL_cons (e : Tr) (es : List Tr) : edsL (e :: es) = edL e ++ edsL es := by unfold edsL; rw [List.flatMap_cons]
theorem edsL_snoc (es : List Tr) (e : Tr) : edsL (es ++ [e]) = edsL es ++ edL e := by unfold edsL; rw [List.flatMap_append, List.flatMap_cons, List.flatMap_nil, List.append_nil]
theorem fold_edL : ∀ (es : List Tr) (h : ByteArray), (∀ e ∈ es, SmallN (trNs e)) → (es.foldl edStepA h).data.toList = h.data.toList ++ edsL es := by
  intro es
  induction es with
  | nil => intro h _; simp [edsL]
  | cons e r ih =>
    intro h hs
    rw [List.foldl_cons, ih _ fun x hx => hs x (List.mem_cons_of_mem _ hx), edsL_cons]
    unfold edStepA edL
    rw [ByteArray.data_append, Array.toList_append, lineN_list edgW (rg_small (hs e List.mem_cons_self)).2]
    simp
def TrsR (es : List Tr) : Prop := ∀ e ∈ es, TrR e
theorem trNs_inj {e f : Tr} (h : trNs e = trNs f) : e = f := by
  obtain ⟨a, b, c, d⟩ := e
  obtain ⟨a', b', c', d'⟩ := f
  unfold trNs at h
  simp only [List.cons.injEq, and_true] at h
  obtain ⟨rfl, rfl, rfl, rfl⟩ := h
  rfl
theorem wd_edg : Wd edgW := by unfold Wd; decide
theorem wd_aut : Wd autW := by unfold Wd; decide
theorem wd_ini : Wd iniW := by unfold Wd; decide
theorem wd_acc : Wd accW := by unfold Wd; decide
theorem decN_ed {e : Tr} {t : ByteArray} {r : List UInt8} (h : TrR e) (ht : t.data.toList = edL e ++ r) : DecN t edgW 4 4 (trNs e) r := by
  refine ⟨⟨?_, ⟨Nat.le_refl _, Nat.le_refl _⟩, itoa_free _⟩, fun z hz => ?_⟩
  · rw [ht]
    unfold edL
    rw [List.append_assoc]
    rfl
  · obtain ⟨h0, h1, h2, h3⟩ := h
    unfold trNs at hz
    simp only [List.mem_cons, List.not_mem_nil, or_false] at hz
    rcases hz with rfl | rfl | rfl | rfl
    · exact h0
    · exact h1
    · exact h2
    · exact h3
theorem decN_ed_back {zs : List Int} {t : ByteArray} {r : List UInt8} (h : DecN t edgW 4 4 zs r) : ∃ e : Tr, zs = trNs e ∧ TrR e ∧ t.data.toList = edL e ++ r := by
  have hl := h.1.2.1
  rw [List.length_map] at hl
  match zs, hl with
  | [a, b, c, d], _ =>
    refine ⟨⟨a, b, c, d⟩, rfl, ⟨h.2 a (by simp), h.2 b (by simp), h.2 c (by simp), h.2 d (by simp)⟩, ?_⟩
    rw [h.1.1]
    unfold edL
    rw [List.append_assoc]
    rfl
theorem eds_prefix : ∀ (es : List Tr) (fs : List Tr) (r : List UInt8), TrsR es → TrsR fs → edsL es ++ r = edsL fs → ∃ tl, fs = es ++ tl ∧ r = edsL tl := by
  intro es
  induction es with
  | nil => intro fs r _ _ h; exact ⟨fs, rfl, h⟩
  | cons e t ih =>
    intro fs r he hf h
    rw [edsL_cons, List.append_assoc] at h
    cases fs with
    | nil =>
      have h1 := congrArg List.length h
      unfold edsL edL at h1
      simp at h1
    | cons f s =>
      rw [edsL_cons] at h
      have d1 := decN_ed (t := ⟨(edL e ++ (edsL t ++ r)).toArray⟩) (r := edsL t ++ r) (he e List.mem_cons_self) (by simp)
      have d2 := decN_ed (t := ⟨(edL e ++ (edsL t ++ r)).toArray⟩) (e := f) (r := edsL s) (hf f List.mem_cons_self) (by rw [h])
      obtain ⟨u1, u2⟩ := decN_unique wd_edg d1 d2
      obtain rfl := trNs_inj u1
      obtain ⟨tl, k1, k2⟩ := ih s r (fun x hx => he x (List.mem_cons_of_mem _ hx)) (fun x hx => hf x (List.mem_cons_of_mem _ hx)) u2
      exact ⟨tl, by rw [k1]; rfl, k2⟩

/-- Truth values with these accepting states. -/
def marksB (n : Nat) (zs : List Int) : List Bool := (List.range n).map fun i : Nat => decide ((i : Int) ∈ zs)
theorem marksB_len (n : Nat) (zs : List Int) : (marksB n zs).length = n := by simp [marksB]
theorem marksB_get {n : Nat} {zs : List Int} {i : Nat} (h : i < n) : (marksB n zs)[i]? = some (decide ((i : Int) ∈ zs)) := by
  unfold marksB
  rw [List.getElem?_map, List.getElem?_range h]
  rfl
theorem accs_mem {acc : List Bool} {z : Int} : z ∈ accs acc ↔ ∃ i : Nat, z = i ∧ acc[i]? = some true := by
  unfold accs accTo
  simp only [List.mem_map, List.mem_filter, List.mem_range]
  constructor
  · rintro ⟨i, ⟨h1, h2⟩, rfl⟩
    refine ⟨i, rfl, ?_⟩
    rw [List.getD_eq_getElem?_getD, List.getElem?_eq_getElem h1] at h2
    rw [List.getElem?_eq_getElem h1]
    exact congrArg some h2
  · rintro ⟨i, rfl, h⟩
    have hi := (List.getElem?_eq_some_iff.1 h).1
    exact ⟨i, ⟨hi, by rw [List.getD_eq_getElem?_getD, h]; rfl⟩, rfl⟩
theorem asc_eq_marks (acc : List Bool) : marksB acc.length (accs acc) = acc := by
  apply List.ext_getElem?
  intro i
  rcases Nat.lt_or_ge i acc.length with hi | hi
  · rw [marksB_get hi]
    rw [List.getElem?_eq_getElem hi]
    congr 1
    cases hv : acc[i]
    · rw [decide_eq_false]
      rw [accs_mem]
      rintro ⟨j, hj, h⟩
      have : j = i := by omega
      subst this
      rw [List.getElem?_eq_getElem hi, hv] at h
      cases h
    · rw [decide_eq_true]
      rw [accs_mem]
      exact ⟨i, rfl, by rw [List.getElem?_eq_getElem hi, hv]⟩
  · rw [List.getElem?_eq_none (by rw [marksB_len]; exact hi), List.getElem?_eq_none hi]
/-- Ascending lists with the same elements are the same. -/
theorem pw_ext : ∀ (a b : List Int), a.Pairwise (· < ·) → b.Pairwise (· < ·) → (∀ z, z ∈ a ↔ z ∈ b) → a = b := by
  intro a
  induction a with
  | nil =>
    intro b _ _ h
    cases b with
    | nil => rfl
    | cons y s => exact absurd ((h y).2 List.mem_cons_self) (by simp)
  | cons x r ih =>
    intro b ha hb h
    cases b with
    | nil => exact absurd ((h x).1 List.mem_cons_self) (by simp)
    | cons y s =>
      rw [List.pairwise_cons] at ha hb
      have hx := (h x).1 List.mem_cons_self
      have hy := (h y).2 List.mem_cons_self
      rw [List.mem_cons] at hx hy
      have hxy : x = y := by
        rcases hx with hx | hx
        · exact hx
        · rcases hy with hy | hy
          · exact hy.symm
          · have h1 := hb.1 x hx
            have h2 := ha.1 y hy
            omega
      subst hxy
      rw [ih s ha.2 hb.2 fun z => ?_]
      constructor
      · intro hz
        have h1 := (h z).1 (List.mem_cons_of_mem _ hz)
        rw [List.mem_cons] at h1
        rcases h1 with rfl | h1
        · have := ha.1 z hz; omega
        · exact h1
      · intro hz
        have h1 := (h z).2 (List.mem_cons_of_mem _ hz)
        rw [List.mem_cons] at h1
        rcases h1 with rfl | h1
        · have := hb.1 z hz; omega
        · exact h1
theorem accTo_pw (acc : List Bool) : ∀ j, (accTo acc j).Pairwise (· < ·) := by
  intro j
  induction j with
  | zero => exact List.Pairwise.nil
  | succ j ih =>
    have h : accTo acc (j + 1) = accTo acc j ∨ accTo acc (j + 1) = accTo acc j ++ [(j : Int)] := by
      unfold accTo
      rw [List.range_succ, List.filter_append, List.map_append]
      cases h : acc.getD j false
      · left
        rw [List.filter_cons_of_neg (by rw [h]; exact Bool.false_ne_true)]
        simp
      · right
        rw [List.filter_cons_of_pos (p := fun i => acc.getD i false) (a := j) (by exact h)]
        simp
    rcases h with h | h
    · rw [h]; exact ih
    · rw [h, List.pairwise_append]
      exact ⟨ih, by simp, fun a ha b hb => by
        simp only [List.mem_singleton] at hb
        subst hb
        exact (accTo_mem ha).2⟩
theorem asc_pw {n : Int} {zs : List Int} (h : asc n zs = true) : zs.Pairwise (· < ·) := by
  rw [List.pairwise_iff_getElem]
  have key : ∀ (d i j : Nat) (hj : j < zs.length), j = i + d + 1 → zs.getD i 0 < zs.getD j 0 := by
    intro d
    induction d with
    | zero =>
      intro i j hj e
      subst e
      have := asc_at h hj
      unfold okAt at this
      simp only [Bool.and_eq_true, decide_eq_true_eq] at this
      exact this.1
    | succ d ih =>
      intro i j hj e
      subst e
      have h1 := ih i (i + d + 1) (by omega) rfl
      have := asc_at h hj
      unfold okAt at this
      simp only [Bool.and_eq_true, decide_eq_true_eq] at this
      have h2 : zs.getD (i + d + 1) 0 < zs.getD (i + (d + 1) + 1) 0 := this.1
      omega
  intro i j hi hj hij
  have := key (j - i - 1) i j hj (by omega)
  simpa [List.getD, hi, hj] using this
theorem accs_marks {n : Nat} {zs : List Int} (h : asc n zs = true) : accs (marksB n zs) = zs := by
  refine pw_ext _ _ (accTo_pw _ _) (asc_pw h) fun z => ?_
  rw [accs_mem]
  constructor
  · rintro ⟨i, rfl, hi⟩
    have hn : i < n := by have := (List.getElem?_eq_some_iff.1 hi).1; rw [marksB_len] at this; exact this
    rw [marksB_get hn] at hi
    injection hi with hi
    exact of_decide_eq_true hi
  · intro hz
    obtain ⟨i, hi⟩ := List.getElem?_of_mem hz
    have hlt := (List.getElem?_eq_some_iff.1 hi).1
    have hb := asc_ge (fun q hq => asc_at h hq) i hlt
    have hg : zs.getD i 0 = z := by simp [List.getD, hi]
    rw [hg] at hb
    obtain ⟨k, rfl⟩ := Int.eq_ofNat_of_zero_le (show (0 : Int) ≤ z by omega)
    exact ⟨k, rfl, by rw [marksB_get (by omega), decide_eq_true hz]⟩

end Go.Proofs.YtiikphdgnhajeaaDoor

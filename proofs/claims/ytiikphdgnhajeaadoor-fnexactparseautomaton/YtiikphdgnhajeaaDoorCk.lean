/- Where a text is cut at a byte; the walk of spec.l16Cut. -/
import Derived.Test.YtiikphdgnhajeaaDoorZp
import Derived.OwnWalk
import Derived.Maps.AppendAt
import Derived.Laws.Externs
import Derived.IntWalk
namespace Go.Proofs.YtiikphdgnhajeaaDoor
open Go.RowKit

/-- The pieces of a text that is cut at every byte c, the first one behind what has been read of it. -/
def cutP (c : UInt8) : List UInt8 → List UInt8 → List (List UInt8)
  | pre, [] => [pre]
  | pre, x :: r => if x = c then pre :: cutP c [] r else cutP c (pre ++ [x]) r
theorem cutP_len (c : UInt8) : ∀ (l pre : List UInt8), (cutP c pre l).length ≤ l.length + 1 := by
  intro l
  induction l with
  | nil => intro pre; simp [cutP]
  | cons x r ih =>
    intro pre
    unfold cutP
    split
    · have := ih []; simp only [List.length_cons]; omega
    · have := ih (pre ++ [x]); simp only [List.length_cons]; omega
theorem cutP_mem (c : UInt8) : ∀ (l pre : List UInt8) (p : List UInt8), p ∈ cutP c pre l → p.length ≤ pre.length + l.length := by
  intro l
  induction l with
  | nil => intro pre p h; simp [cutP] at h; subst h; omega
  | cons x r ih =>
    intro pre p h
    unfold cutP at h
    split at h
    · rcases List.mem_cons.1 h with rfl | h
      · simp
      · have := ih [] p h; simp only [List.length_cons, List.length_nil] at this ⊢; omega
    · have := ih (pre ++ [x]) p h; simp only [List.length_append, List.length_cons, List.length_nil] at this ⊢; omega
theorem cutP_hit {c : UInt8} {b : List UInt8} : ∀ (a pre : List UInt8), c ∉ a → cutP c pre (a ++ c :: b) = (pre ++ a) :: cutP c [] b := by
  intro a
  induction a with
  | nil => intro pre _; simp [cutP]
  | cons x r ih =>
    intro pre h
    have hx : ¬ x = c := fun e => h (by rw [e]; simp)
    rw [List.cons_append, cutP, if_neg hx, ih (pre ++ [x]) (fun e => h (List.mem_cons_of_mem _ e)), List.append_assoc]
    rfl
theorem cutP_end {c : UInt8} : ∀ (a pre : List UInt8), c ∉ a → cutP c pre a = [pre ++ a] := by
  intro a
  induction a with
  | nil => intro pre _; simp [cutP]
  | cons x r ih =>
    intro pre h
    have hx : ¬ x = c := fun e => h (by rw [e]; simp)
    rw [cutP, if_neg hx, ih (pre ++ [x]) (fun e => h (List.mem_cons_of_mem _ e)), List.append_assoc]
    rfl

abbrev toL (b : ByteArray) : List UInt8 := b.data.toList
theorem toL_len (b : ByteArray) : (toL b).length = b.size := Array.length_toList
/-- Before byte k these pieces have been cut off, and the next one begins at fr. -/
def CkInv (s : ByteArray) (c : UInt8) (k fr : Nat) (done : List ByteArray) : Prop :=
  (k ≤ s.size ∧ fr ≤ k ∧ done.length ≤ k ∧ done.map toL ++ cutP c (toL (s.extract fr k)) ((toL s).drop k) = cutP c [] (toL s)) ∨
  (k = s.size + 1 ∧ done.length ≤ k ∧ done.map toL = cutP c [] (toL s))
theorem ext_self (s : ByteArray) (k : Nat) : toL (s.extract k k) = [] := by
  unfold toL
  rw [extract_list]
  simp
theorem ext_snoc {s : ByteArray} {fr k : Nat} (h : fr ≤ k) (hk : k < s.size) : toL (s.extract fr (k + 1)) = toL (s.extract fr k) ++ [s[k]] := by
  unfold toL
  rw [extract_list, extract_list, show k + 1 - fr = (k - fr) + 1 by omega, List.take_add_one, List.getElem?_drop, show fr + (k - fr) = k by omega]
  have hg : s.data.toList[k]? = some s[k] := by
    rw [List.getElem?_eq_getElem (by rw [Array.length_toList]; exact hk)]
    rfl
  rw [hg]
  rfl
theorem drop_at {s : ByteArray} {k : Nat} (hk : k < s.size) : (toL s).drop k = s[k] :: (toL s).drop (k + 1) := by
  have hg : k < (toL s).length := by rw [toL_len]; exact hk
  rw [List.drop_eq_getElem_cons hg]
  rfl
theorem CkInv.start (s : ByteArray) (c : UInt8) : CkInv s c 0 0 [] := .inl ⟨Nat.zero_le _, Nat.le_refl _, Nat.le_refl _, by rw [ext_self]; simp⟩
theorem CkInv.fr_le {s : ByteArray} {c : UInt8} {k fr : Nat} {done : List ByteArray} (h : CkInv s c k fr done) (hk : k ≤ s.size) : fr ≤ k ∧ done.length ≤ k := by
  rcases h with ⟨_, h1, h2, _⟩ | ⟨h1, _⟩
  · exact ⟨h1, h2⟩
  · omega
theorem CkInv.other {s : ByteArray} {c : UInt8} {k fr : Nat} {done : List ByteArray} (h : CkInv s c k fr done) (hk : k < s.size) (hc : s[k] ≠ c) : CkInv s c (k + 1) fr done := by
  rcases h with ⟨_, h1, h2, h3⟩ | ⟨h1, _⟩
  · refine .inl ⟨hk, by omega, by omega, ?_⟩
    rw [drop_at hk, cutP, if_neg hc] at h3
    rw [ext_snoc h1 hk, h3]
  · omega
theorem CkInv.hit {s : ByteArray} {c : UInt8} {k fr : Nat} {done : List ByteArray} (h : CkInv s c k fr done) (hk : k < s.size) (hc : s[k] = c) : CkInv s c (k + 1) (k + 1) (done ++ [s.extract fr k]) := by
  rcases h with ⟨_, h1, h2, h3⟩ | ⟨h1, _⟩
  · refine .inl ⟨hk, Nat.le_refl _, by rw [List.length_append, List.length_singleton]; omega, ?_⟩
    rw [drop_at hk, cutP, if_pos hc] at h3
    rw [ext_self, List.map_append, List.append_assoc]
    exact h3
  · omega
theorem CkInv.finish {s : ByteArray} {c : UInt8} {fr : Nat} {done : List ByteArray} (h : CkInv s c s.size fr done) (x : Nat) : CkInv s c (s.size + 1) x (done ++ [s.extract fr s.size]) := by
  rcases h with ⟨_, h1, h2, h3⟩ | ⟨h1, _⟩
  · refine .inr ⟨rfl, by rw [List.length_append, List.length_singleton]; omega, ?_⟩
    have e : (toL s).drop s.size = [] := by rw [List.drop_eq_nil_iff, toL_len]; exact Nat.le_refl _
    rw [e, cutP] at h3
    rw [List.map_append]
    exact h3
  · omega

theorem Tryd.info9 : (Tryd.prog.info? 9).map (fun i => (i.zero, i.size, i.bytes)) = some (some (.string ⟨#[]⟩), 1, 16) := by kernel_rfl
/-- What the cutting leaves. -/
def CkPost (s : ByteArray) (c : UInt8) (w : World) (e' : Ending) (w' : World) : Prop :=
  ∃ (done : List ByteArray) (g cap : Nat) (cs : Array Value), e' = .returned (.slice (some ⟨g, 0, none⟩) done.length cap) ∧ done.map toL = cutP c [] (toL s) ∧ done.length ≤ s.size + 1 ∧ w.heap.size ≤ g ∧ Row w' g 9 cs ∧ (∀ (i : Nat) (t : ByteArray), done[i]? = some t → cs[i]? = some (Value.string t)) ∧ Below w.heap.size w w'

theorem rowS_of_owns {w : World} {base : Nat} {g n cap : Nat} {xs : List Value} (h : w.ownsRow base 9 1 (.slice (some ⟨g, 0, none⟩) n cap) n xs) : ∃ cs : Array Value, base ≤ g ∧ Row w g 9 cs ∧ ∀ (i : Nat) (u : Value), xs[i]? = some u → cs[i]? = some u := by
  rcases h.2 with ⟨h1, _⟩ | ⟨g', cap', cur, hv, hb, hh, _, _, _, ht⟩
  · cases h1
  · injection hv with e1 e2 e3
    injection e1 with e1
    injection e1 with e1
    subst e1
    refine ⟨cur, hb, hh, fun i u hu => ?_⟩
    rw [← ht, List.getElem?_take] at hu
    split at hu
    · simpa using hu
    · cases hu

set_option maxHeartbeats 1000000 in
set_option maxRecDepth 100000 in
theorem cutC_any (s : ByteArray) (c : UInt8) (w : World) (hs : s.size ≤ 1048576) : Calls Tryd.prog 30 #[.string s, .int .u8 c.toNat] w (CkPost s c w) := by
  obtain ⟨i0, hi0, hz0, hz1, hz2⟩ := info_parts Tryd.info9
  obtain ⟨cn, hcn⟩ : ∃ cn : Nat, cn = c.toNat := ⟨_, rfl⟩
  rw [← hcn]
  have HCN := Lib.hid hcn
  clear hcn
  go_enter Tryd.func30, Tryd.ntmps30
  go_wp2_with fail
  go_loopw [5, 6, 7] (fun o f i wl => ∃ (k fr g cap : Nat) (done : List ByteArray), k ≤ s.size + 1 ∧ o = .slice (some ⟨g, 0, none⟩) done.length cap ∧ f = .int .i64 fr ∧ i = .int .i64 k ∧ Hid (CkInv s c k fr done) ∧ Hid (wl.ownsRow w.heap.size 9 1 (.slice (some ⟨g, 0, none⟩) done.length cap) done.length (done.map Value.string)) ∧ Hid (Below w.heap.size w wl)) (fun _ _ i _ => s.size + 1 - (intOf i).toNat)
  case atStart =>
    exact ⟨0, 0, w.heap.size, 0, [], Nat.zero_le _, rfl, rfl, rfl, CkInv.start s c, ⟨rfl, .inr ⟨w.heap.size, 0, #[], rfl, Nat.le_refl _, Row.new w _ _, Nat.le_refl _, Nat.zero_le _, rfl, rfl⟩⟩, (Below.refl _ _).alloc (Nat.le_refl _) _⟩
  case round =>
    obtain ⟨k, fr, g, cap, done, hk, rfl, rfl, rfl, HI, HO, HB⟩ := hrel
    have hzw : w.heap.size ≤ wr.heap.size := HB.out.size
    by_cases hle : k ≤ s.size
    · obtain ⟨hfr, hdl⟩ := HI.out.fr_le hle
      have HAp : Hid (∀ (v' : Value) (w1 : World) (t : ByteArray) (o : Obj), w1.ownsRow w.heap.size 9 1 v' (done.length + 1) (done.map Value.string ++ [Value.string t]) → (wr.alloc o).grownBy w1 (Value.slice (some ⟨g, 0, none⟩) done.length cap).ownBlock →
          ∃ g1 cap1, v' = .slice (some ⟨g1, 0, none⟩) (done ++ [t]).length cap1 ∧ w1.ownsRow w.heap.size 9 1 (.slice (some ⟨g1, 0, none⟩) (done ++ [t]).length cap1) (done ++ [t]).length ((done ++ [t]).map Value.string) ∧ Below w.heap.size w w1) := fun v' w1 t o hown' hgrow => by
        obtain ⟨g1, cap1, rfl⟩ : ∃ g1 cap1, v' = .slice (some ⟨g1, 0, none⟩) (done.length + 1) cap1 := by
          rcases hown'.2 with ⟨_, h0⟩ | ⟨g1, cap1, _, hv, _⟩
          · omega
          · exact ⟨g1, cap1, hv⟩
        refine ⟨g1, cap1, by rw [List.length_append]; rfl, by rw [List.length_append, List.map_append]; exact hown', (HB.out.alloc HB.out.size o).grown hgrow (by simp; omega) (fun q hq => ?_)⟩
        have e : g = q := by simpa [Value.ownBlock] using hq
        subst e
        obtain ⟨_, hg0, _, _⟩ := rowS_of_owns HO.out
        exact hg0
      by_cases hlt : k < s.size
      · have hkB : ((k : Int) == (s.size : Int)) = false := by rw [beq_eq_false_iff_ne]; omega
        by_cases hc : s[k] = c
        · have hcB : ((s[k].toNat : Int) == (cn : Int)) = true := by rw [beq_iff_eq, hc, HCN.out]
          have HN := Lib.hid (HI.out.hit hlt hc)
          clear hc
          go_wp2_with (at_builtin; refine wpList_append_own _ rfl (.tmp 26) (.tmp 31) 63 rfl w.heap.size 9 i0 (.string ⟨#[]⟩) 1 16 Tryd.underlying63 hi0 hz0 hz1 hz2 rfl (by decide) (.slice (some ⟨g, 0, none⟩) done.length cap) done.length _ rfl (HO.out.alloc _) ⟨wr.heap.size, 0, none⟩ 1 1 [.string (s.extract fr k)] rfl rfl (cell_one_new _ _ _) (by simp [Value.oneCell']) (by unfold maxLen; omega) (by omega) (by simp; omega) ?_; intro v' w1 hown' hgrow hnil)
          obtain ⟨g1, cap1, rfl, ho1, hb1⟩ := HAp.out v' w1 _ _ hown' hgrow
          have HO1 := Lib.hid ho1
          have HB1 := Lib.hid hb1
          clear hown' hgrow hnil HO HB ho1 hb1 HAp
          go_wp2_with fail
          go_roundw
          case rel => exact ⟨k + 1, k + 1, g1, cap1, done ++ [s.extract fr k], by omega, rfl, by go_num, by go_num, HN, HO1, HB1⟩
          case measure => simp [intOf]; omega
        · have hcB : ((s[k].toNat : Int) == (cn : Int)) = false := by
            rw [beq_eq_false_iff_ne, HCN.out]
            exact fun h => hc (UInt8.toNat_inj.1 (by omega))
          have HN := Lib.hid (HI.out.other hlt hc)
          clear hc
          go_wp2_with fail
          go_roundw
          case rel => exact ⟨k + 1, fr, g, cap, done, by omega, rfl, rfl, by go_num, HN, HO, HB⟩
          case measure => simp [intOf]; omega
      · have hkk : k = s.size := by omega
        subst hkk
        have HN := Lib.hid (HI.out.finish (s.size + 1))
        go_wp2_with (at_builtin; refine wpList_append_own _ rfl (.tmp 26) (.tmp 31) 63 rfl w.heap.size 9 i0 (.string ⟨#[]⟩) 1 16 Tryd.underlying63 hi0 hz0 hz1 hz2 rfl (by decide) (.slice (some ⟨g, 0, none⟩) done.length cap) done.length _ rfl (HO.out.alloc _) ⟨wr.heap.size, 0, none⟩ 1 1 [.string (s.extract fr s.size)] rfl rfl (cell_one_new _ _ _) (by simp [Value.oneCell']) (by unfold maxLen; omega) (by omega) (by simp; omega) ?_; intro v' w1 hown' hgrow hnil)
        obtain ⟨g1, cap1, rfl, ho1, hb1⟩ := HAp.out v' w1 _ _ hown' hgrow
        have HO1 := Lib.hid ho1
        have HB1 := Lib.hid hb1
        clear hown' hgrow hnil HO HB ho1 hb1 HAp
        go_wp2_with fail
        go_roundw
        case rel => exact ⟨s.size + 1, s.size + 1, g1, cap1, done ++ [s.extract fr s.size], by omega, rfl, by first | rfl | go_num, by first | rfl | go_num, HN, HO1, HB1⟩
        case measure => simp [intOf]
    · have hkk : k = s.size + 1 := by omega
      subst hkk
      have HF : Hid (CkPost s c w (.returned (.slice (some ⟨g, 0, none⟩) done.length cap)) wr) := by
        obtain ⟨cs, h1, h2, h3⟩ := rowS_of_owns HO.out
        rcases HI.out with ⟨h, _⟩ | ⟨_, q1, q2⟩
        · omega
        · refine ⟨done, g, cap, cs, rfl, q2, q1, h1, h2, fun i t ht => h3 i _ ?_, HB.out⟩
          rw [List.getElem?_map, ht]
          rfl
      go_wp2_with fail
      go_ret
      exact HF.out

end Go.Proofs.YtiikphdgnhajeaaDoor

/- Which variables occur: plain facts, and the walk of spec.l1Mark. -/
import Derived.Test.YtkcgjgdcmdjcfaaF0
import Derived.Test.YtkcgjgdcmdjcfaaGr
import Derived.Test.YtkcgjgdcmdjcfaaBs
import Derived.Test.YtkcgjgdcmdjcfaaE0
import Derived.Test.YtkcgjgdcmdjcfaaW8
namespace Go.Proofs.Ytkcgjgdcmdjcfaa
open Go.RowKit

def MarkPost (g : Nat) (t : TypeId) (m : Nat → Bool) (w : World) (e' : Ending) (w' : World) : Prop :=
  e' = .returned (.slice (some ⟨g, 0, none⟩) 3 3) ∧ Row w' g t (tri m) ∧ w.grownBy w' (some g)

def MarkSaid (d : Nat) : Prop := ∀ (e : Ex) (c0 c1 c2 : Value) (g : Nat) (t : TypeId) (m : Nat → Bool) (w : World), shape d e = true → Lies w g e c0 c1 c2 → Row w g t (tri m) →
    Calls Try.prog 41 #[.slice (some ⟨g, 0, none⟩) 3 3, .agg #[c0, c1, c2]] w (MarkPost g t (fun i => m i || occ d e i) w)

set_option maxHeartbeats 400000 in
set_option maxRecDepth 100000 in
theorem mark_any : ∀ d : Nat, MarkSaid d := by
  intro d
  induction d with
  | zero => intro e c0 c1 c2 g t m w h; simp [shape] at h
  | succ d ih =>
    rintro ⟨k, v, kids⟩ c0 c1 c2 g t m w hs hL hR
    obtain ⟨K, cp, kb, ko, C0, C1, C2, rfl, rfl, rfl, hl, hO⟩ := hL.open_
    have HIH := Lib.hid ih
    have HO := Lib.hid hO
    have HK : Hid (∀ (i : Nat) (x : Ex), kids[i]? = some x → shape d x = true) := fun i x hx => shape_kid hs hx
    have HRo := Lib.hid (rootOk_parts (shape_root hs))
    have hlen : kids.length ≤ 2 := by have := HRo.out; omega
    have hgl : g < w.heap.size := hR.lt
    clear ih hL hO hs hl
    by_cases h2 : k = 2
    · subst h2
      obtain ⟨hv0, hv2, hk0⟩ : 0 ≤ v ∧ v ≤ 2 ∧ kids.length = 0 := by have := HRo.out; omega
      obtain rfl : kids = [] := List.length_eq_zero_iff.1 hk0
      obtain ⟨j, rfl⟩ : ∃ j : Nat, v = j := ⟨v.toNat, by omega⟩
      have hj : j < 3 := by omega
      have hc : w.cell? ⟨g, j, none⟩ = some (.bool (m j)) := by rw [hR.cell]; exact tri_get m hj
      have hf := hR.frozen j
      have HR := Lib.hid hR
      clear hR HO HK HIH HRo
      go_enter Try.func41, Try.ntmps41
      go_wp2_with fail
      go_loop [0, 5] (fun o i => o = .slice (some ⟨g, 0, none⟩) 3 3 ∧ i = .int .i64 0) (fun _ _ => 0)
      case atStart => exact ⟨rfl, rfl⟩
      case round =>
        obtain ⟨rfl, rfl⟩ := hrel
        go_wp2_with fail
        go_ret
        refine ⟨rfl, ?_, (grown_set _ _ _ _).trans (grown_alloc _ _ _)⟩
        have h0 := HR.out.set_ j (.bool true)
        rw [tri_set m true hj] at h0
        have h := h0.under ((Below.refl _ _).alloc (Nat.le_refl _) (.cells #[.int .i64 2, .int .i64 j, .slice K 0 cp] 25)) h0.lt
        rw [tri_congr (m' := fun i => if i = j then true else m i)]
        · exact h
        · intro i
          simp only [occ, List.any_nil, Bool.or_false, decide_true, Bool.true_and]
          by_cases hij : i = j
          · subst hij; simp
          · rw [if_neg hij, show decide ((j : Int) = (i : Int)) = false by simp; omega, Bool.or_false]
    · have HR := Lib.hid hR
      have hk2 : (k == 2) = false := by simp [h2]
      clear hR
      go_enter Try.func41, Try.ntmps41
      go_wp2_with fail
      go_loopw [0, 5] (fun o i wl => ∃ j : Nat, j ≤ kids.length ∧ i = .int .i64 j ∧ o = .slice (some ⟨g, 0, none⟩) 3 3 ∧ Hid (Row wl g t (tri (fun i => m i || (kids.take j).any (fun x => occ d x i)))) ∧ Hid ((w.alloc (.cells #[.int .i64 k, .int .i64 v, .slice K kids.length cp] 25)).grownBy wl (some g))) (fun _ i _ => kids.length - (intOf i).toNat)
      case atStart =>
        refine ⟨0, Nat.zero_le _, rfl, rfl, ?_, (⟨rfl, rfl, rfl, Nat.le_refl _, fun _ _ _ => rfl⟩ : World.grownBy _ _ _)⟩
        have h := HR.out.under ((Below.refl _ _).alloc (Nat.le_refl _) (.cells #[.int .i64 k, .int .i64 v, .slice K kids.length cp] 25)) HR.out.lt
        rw [tri_congr (m' := fun i => m i || (kids.take 0).any (fun x => occ d x i)) (fun i => by simp)] at h
        exact h
      case round =>
        obtain ⟨j, hj, rfl, rfl, HT, HG⟩ := hrel
        have hbox : Row wr w.heap.size 25 #[.int .i64 k, .int .i64 v, .slice K kids.length cp] := (Row.new w 25 _).grown HG.out (by omega)
        have q2 : wr.cell? ⟨w.heap.size, 2, none⟩ = some (.slice K kids.length cp) := hbox.cell 2
        have hGw : w.grownBy wr (some g) := (grown_alloc _ _ _).trans HG.out
        have hB : Below g w wr := below_of hGw (by omega)
        by_cases hlt : j < kids.length
        · obtain ⟨x, hx⟩ : ∃ x, kids[j]? = some x := ⟨_, List.getElem?_eq_getElem hlt⟩
          obtain ⟨rfl, hb, g0, g1, g2, gl⟩ := HO.out.below hB j x hx
          have HT' := Lib.hid (fun i => any_take_succ (f := fun x => occ d x i) hx)
          have HX := Lib.hid hx
          have HL := Lib.hid gl
          clear hx gl hbox hGw hB
          go_wp2_with fail
          refine (HIH.out x _ _ _ g t _ _ (HK.out j x HX.out) HL.out HT.out).mono ?_
          rintro e' w2 ⟨rfl, hr2, hg2⟩
          have HG2 := Lib.hid (HG.out.trans hg2)
          have HR2 := Lib.hid hr2
          clear hr2 hg2 HG
          go_wp2_with fail
          go_roundw
          case rel =>
            refine ⟨j + 1, by omega, by go_num, rfl, ?_, HG2⟩
            have h := HR2.out
            rw [tri_congr (m' := fun i => m i || (kids.take (j + 1)).any (fun x => occ d x i)) (fun i => by rw [HT'.out i, Bool.or_assoc])] at h
            exact h
          case measure => simp [intOf]; omega
        · have hjj : j = kids.length := by omega
          subst hjj
          have HGw := Lib.hid hGw
          clear hGw hbox hB
          go_wp2_with fail
          go_ret
          refine ⟨rfl, ?_, HGw.out⟩
          have h := HT.out
          rw [List.take_length] at h
          rw [tri_congr (m' := fun i => m i || kids.any (fun x => occ d x i))]
          · exact h
          · intro i
            simp only [occ]
            rw [show decide (k = 2) = false by simp [h2], Bool.false_and, Bool.false_or]

end Go.Proofs.Ytkcgjgdcmdjcfaa

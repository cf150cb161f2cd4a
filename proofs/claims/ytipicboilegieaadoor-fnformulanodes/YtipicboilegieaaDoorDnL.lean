/- The walk of the law laws.FnFormulaNodes. -/
import Derived.Test.YtipicboilegieaaDoorDnP
import Derived.Test.YtipicboilegieaaDoorD7F
import Derived.Test.YtipicboilegieaaDoorFnI
import Derived.Test.YtipicboilegieaaDoorFnS
namespace Go.Proofs.YtipicboilegieaaDoor
open Go.RowKit

set_option maxHeartbeats 1000000 in
set_option maxRecDepth 100000 in
theorem lawDn_any (A : Option Addr) (b off n cap : Nat) (w : World) (hF : Forms w) (hC : Seed w A b off n cap) :
    Calls Tryd.prog 3 #[.slice A n cap] w fun e' w' => e' = .returned (.bool true) ∧ Below w.heap.size w w' := by
  have hn := hC.lenle
  unfold maxLen at hn
  have HC := Lib.hid hC
  have HFm := Lib.hid hF
  clear hC hF
  by_cases h1 : 1048576 < n
  · go_enter Tryd.func3, Tryd.ntmps3
    go_wp2_with fail
    go_ret
    exact ⟨rfl, Below.refl _ _⟩
  go_enter Tryd.func3, Tryd.ntmps3
  go_wp2_with fail
  refine (drawFn_any A b off n cap _ HC.out).mono ?_
  rintro e' w1 ⟨a, a0, a1, a2, rfl, hoa, hda, hb1⟩
  obtain ⟨i0, i1, ia, il, ic, rfl, rfl, rfl⟩ := hoa.form
  obtain ⟨W2, hW2⟩ : ∃ W2, W2 = w1.alloc (.cells #[.int .i64 i0, .int .i64 i1, .slice ia il ic] 25) := ⟨_, rfl⟩
  have hB2 : Below w1.heap.size w1 W2 := by rw [hW2]; exact (Below.refl _ _).alloc (Nat.le_refl _) _
  have HRa2 : Hid (Row W2 w1.heap.size 25 #[.int .i64 i0, .int .i64 i1, .slice ia il ic]) := by rw [hW2]; exact Row.new _ _ _
  have HLa2 := Lib.hid (below_more hoa.lies hB2 hB2.size)
  have HB2 := Lib.hid (hb1.trans (hB2.mono hb1.size))
  have HW2 := Lib.hid hW2
  have hd : desc a ≤ 1048576 := by omega
  clear hW2 hB2 hoa hb1 HC
  obtain ⟨c, hc⟩ : ∃ c, c = fNodes a := ⟨_, rfl⟩
  obtain ⟨vb, hvb⟩ : ∃ vb, vb = fValid a := ⟨_, rfl⟩
  have HNd := Lib.hid hc
  have HV := Lib.hid hvb
  clear hc hvb
  go_wp2_with fail
  rw [← HW2.out]
  refine (implFn_any a _ _ _ _ (HFm.out.later HB2.out) HLa2.out hd).mono ?_
  rintro e' w3 ⟨rfl, hb3⟩
  rw [← HNd.out]
  have hr3 := HRa2.out.under hb3 HRa2.out.lt
  have q0 : w3.cell? ⟨w1.heap.size, 0, none⟩ = some (.int .i64 i0) := hr3.cell 0
  have q1 : w3.cell? ⟨w1.heap.size, 1, none⟩ = some (.int .i64 i1) := hr3.cell 1
  have q2 : w3.cell? ⟨w1.heap.size, 2, none⟩ = some (.slice ia il ic) := hr3.cell 2
  have HR3 := Lib.hid hr3
  have HL3 := Lib.hid (below_more HLa2.out hb3 hb3.size)
  have HB3 := Lib.hid (HB2.out.trans (hb3.mono HB2.out.size))
  clear hb3 hr3 HRa2 HLa2 HB2 HW2
  go_wp2_with fail
  refine (specFn_any a _ _ _ _ HL3.out hd).mono ?_
  rintro e' w4 ⟨rfl, hb4⟩
  rw [← HNd.out]
  have hr4 := HR3.out.under hb4 HR3.out.lt
  have q0 : w4.cell? ⟨w1.heap.size, 0, none⟩ = some (.int .i64 i0) := hr4.cell 0
  have q1 : w4.cell? ⟨w1.heap.size, 1, none⟩ = some (.int .i64 i1) := hr4.cell 1
  have q2 : w4.cell? ⟨w1.heap.size, 2, none⟩ = some (.slice ia il ic) := hr4.cell 2
  have HR4 := Lib.hid hr4
  have HL4 := Lib.hid (below_more HL3.out hb4 hb4.size)
  have HB4 := Lib.hid (HB3.out.trans (hb4.mono HB3.out.size))
  clear hb4 hr4 HR3 HL3 HB3
  go_wp2_with fail
  refine (specFv_any a _ _ _ _ HL4.out hd).mono ?_
  rintro e' w5 ⟨rfl, hb5⟩
  rw [← HV.out]
  have hr5 := HR4.out.under hb5 HR4.out.lt
  have q0 : w5.cell? ⟨w1.heap.size, 0, none⟩ = some (.int .i64 i0) := hr5.cell 0
  have q1 : w5.cell? ⟨w1.heap.size, 1, none⟩ = some (.int .i64 i1) := hr5.cell 1
  have q2 : w5.cell? ⟨w1.heap.size, 2, none⟩ = some (.slice ia il ic) := hr5.cell 2
  have HR5 := Lib.hid hr5
  have HL5 := Lib.hid (below_more HL4.out hb5 hb5.size)
  have HB5 := Lib.hid (HB4.out.trans (hb5.mono HB4.out.size))
  clear hb5 hr5 HR4 HL4 HB4
  cases vb
  · go_wp2_with fail
    refine (specFn_any a _ _ _ _ HL5.out hd).mono ?_
    rintro e' w6 ⟨rfl, hb6⟩
    rw [← HNd.out]
    have HB6 := Lib.hid (HB5.out.trans (hb6.mono HB5.out.size))
    clear hb6
    go_wp2_with fail
    go_ret
    exact ⟨ret_bool (by simp), HB6.out⟩
  · obtain ⟨k, v, kids⟩ := a
    obtain ⟨K, cp, kb, ko, C0, C1, C2, h0', h1', h2', hl, hO⟩ := HL5.out.open_
    injection h0' with _ h0'
    injection h1' with _ h1'
    injection h2' with h2' h3' h4'
    subst h0' h1' h2' h3' h4'
    have HO := Lib.hid hO
    have HKv : Hid (∀ (i : Nat) (x : Ex), kids[i]? = some x → fNodes x = (cnt 5 x : Int) ∧ cnt 5 x ≤ 12) := fun i x hx => kid_fnodes HV.out hx
    have hlen : kids.length ≤ 15 := by
      have h := descL_length kids
      simp only [desc] at hda
      omega
    have HCn : Hid (c = ((1 + (kids.map (cnt 5)).sum : Nat) : Int) ∧ 1 + (kids.map (cnt 5)).sum ≤ 12) := by
      show _ ∧ _
      rw [HNd.out]
      exact root_fnodes HV.out
    have h15 : w1.heap.size < w5.heap.size := HR5.out.lt
    have HR5' := Lib.hid HR5.out
    have HBs : Hid (Below w5.heap.size w5 w5) := Below.refl _ _
    clear hO hl HR5 HNd
    go_wp2_with fail
    clear q0 q1 q2
    go_loopw [5, 6] (fun s i wl => ∃ jj S : Nat, jj ≤ kids.length ∧ i = .int .i64 jj ∧ s = .int .i64 (S : Int) ∧ Hid (S = 1 + ((kids.take jj).map (cnt 5)).sum) ∧ Hid (Below w5.heap.size w5 wl)) (fun _ i _ => kids.length - (intOf i).toNat)
    case atStart => exact ⟨0, 1, Nat.zero_le _, rfl, rfl, rfl, HBs⟩
    case round =>
      clear HBs
      obtain ⟨jj, S, hjj, rfl, rfl, HS, HB⟩ := hrel
      have hrb := HR5'.out.under HB.out h15
      have q0 := hrb.cell 0
      have q1 := hrb.cell 1
      have q2 := hrb.cell 2
      simp at q0 q1 q2
      by_cases hlt : jj < kids.length
      · obtain ⟨x, hx⟩ : ∃ x, kids[jj]? = some x := ⟨_, List.getElem?_eq_getElem hlt⟩
        obtain ⟨rfl, hb, g0, g1, g2, gl⟩ := HO.out.below HB.out jj x hx
        obtain ⟨hnx, hc12⟩ := HKv.out jj x hx
        have hdx : desc x ≤ 1048576 := by
          have h1 := descL_mem (List.mem_of_getElem? hx)
          simp only [desc] at hd
          omega
        obtain ⟨c', hc'⟩ : ∃ c' : Nat, c' = cnt 5 x := ⟨_, rfl⟩
        have HNx : Hid (fNodes x = (c' : Int)) := by show _ = _; rw [hnx, hc']
        have hcS : S ≤ 12 ∧ c' ≤ 12 := by
          have h2 := sum_take_le (cnt 5) kids (jj + 1)
          have h3 := sum_take_succ (f := cnt 5) hx
          have h4 := HCn.out.2
          have h5 := HS.out
          omega
        obtain ⟨hS12, hc12'⟩ := hcS
        have HS' : Hid (S + c' = 1 + ((kids.take (jj + 1)).map (cnt 5)).sum) := by
          show _ = _
          have h3 := sum_take_succ (f := cnt 5) hx
          have h5 := HS.out
          omega
        have hw5 : w5.heap.size ≤ wr.heap.size := HB.out.size
        have HLx : Hid (Lies wr wr.heap.size x (C0 jj) (C1 jj) (C2 jj)) := gl.more hw5
        have HFx : Hid (Forms wr) := HFm.out.later (HB5.out.trans (HB.out.mono HB5.out.size))
        clear hc' hx gl hrb HS hnx hc12
        go_wp2_with fail
        refine (implFn_any x _ _ _ _ HFx.out HLx.out hdx).mono ?_
        rintro e' w7 ⟨rfl, hb7⟩
        rw [HNx.out]
        have HB7 := Lib.hid (HB.out.trans (hb7.mono hw5))
        clear hb7 g0 g1 g2 q0 q1 q2 HLx HB hw5 HFx
        go_wp2_with fail
        go_roundw
        case rel => exact ⟨jj + 1, S + c', by omega, by go_num, by go_num, HS', HB7⟩
        case measure => simp [intOf]; omega
      · have hjj' : jj = kids.length := by omega
        subst hjj'
        have HSf : Hid (c = (S : Int) ∧ S ≤ 12) := by
          have h := HS.out
          rw [List.take_length] at h
          rw [h]
          exact HCn.out
        obtain ⟨hcS, hS12⟩ := HSf.out
        have HB6 := Lib.hid (HB5.out.trans (HB.out.mono HB5.out.size))
        subst hcS
        clear hrb HS HB HSf
        go_wp2_with fail
        go_ret
        exact ⟨ret_bool (by simp; try omega), HB6.out⟩

end Go.Proofs.YtipicboilegieaaDoor

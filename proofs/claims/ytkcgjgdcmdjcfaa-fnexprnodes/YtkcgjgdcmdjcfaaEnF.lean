/- The walk of the law laws.FnExprNodes. -/
import Derived.Test.YtkcgjgdcmdjcfaaF5
import Derived.Test.YtkcgjgdcmdjcfaaF2s
import Derived.Test.YtkcgjgdcmdjcfaaEiF
import Derived.Test.YtkcgjgdcmdjcfaaD7N
import Derived.Test.YtkcgjgdcmdjcfaaXnT
import Derived.BigQuiet
namespace Go.Proofs.Ytkcgjgdcmdjcfaa
open Go.RowKit

theorem occ_deeper (i : Nat) : ∀ (d : Nat) (e : Ex), shape d e = true → occ (d + 1) e i = occ d e i := by
  intro d
  induction d with
  | zero => intro e h; simp [shape] at h
  | succ d ih =>
    rintro ⟨k, v, kids⟩ h
    show ((decide (k = 2) && decide (v = (i : Int))) || kids.any (fun x => occ (d + 1) x i)) = ((decide (k = 2) && decide (v = (i : Int))) || kids.any (fun x => occ d x i))
    congr 1
    have : ∀ x ∈ kids, occ (d + 1) x i = occ d x i := fun x hx => by
      obtain ⟨j, hj, rfl⟩ := List.getElem_of_mem hx
      exact ih _ (shape_kid h (List.getElem?_eq_getElem hj))
    clear h ih
    induction kids with
    | nil => rfl
    | cons a r ihr => rw [List.any_cons, List.any_cons, this a (by simp), ihr fun x hx => this x (by simp [hx])]

theorem cnt_deeper : ∀ (d : Nat) (e : Ex), shape d e = true → cnt (d + 1) e = cnt d e := by
  intro d
  induction d with
  | zero => intro e h; simp [shape] at h
  | succ d ih =>
    rintro ⟨k, v, kids⟩ h
    show 1 + (kids.map (cnt (d + 1))).sum = 1 + (kids.map (cnt d)).sum
    have hk : ∀ x ∈ kids, cnt (d + 1) x = cnt d x := fun x hx => by
      obtain ⟨j, hj, rfl⟩ := List.getElem_of_mem hx
      exact ih _ (shape_kid h (List.getElem?_eq_getElem hj))
    clear h ih
    induction kids with
    | nil => rfl
    | cons a r ihr =>
      have h2 := ihr fun x hx => hk x (by simp [hx])
      have h1 := hk a (by simp)
      simp only [List.map_cons, List.sum_cons]
      omega

theorem Row.eq_ {w : World} {g : Nat} {t : TypeId} {cs cs' : Array Value} (h : Row w g t cs) (e : cs = cs') : Row w g t cs' := e ▸ h

theorem kid_cnt {k v : Int} {kids : List Ex} {i : Nat} {x : Ex} (hx : kids[i]? = some x) (d : Nat) : cnt d x < cnt (d + 1) (.node k v kids) := by
  have h1 := sum_take_succ (f := cnt d) hx
  have h2 := sum_take_le (cnt d) kids (i + 1)
  show cnt d x < 1 + (kids.map (cnt d)).sum
  omega

theorem kid_valid {k v : Int} {kids : List Ex} (h : true = valid (.node k v kids)) {i : Nat} {x : Ex} (hx : kids[i]? = some x) : shape 5 x = true ∧ true = valid x ∧ cnt 6 x = cnt 5 x := by
  have hs := shape_kid (shape_of_valid h) hx
  have hc : cnt 6 x = cnt 5 x := cnt_deeper 5 x hs
  refine ⟨hs, ?_, hc⟩
  have h1 : cnt 5 x < cnt 6 (.node k v kids) := kid_cnt hx 5
  unfold valid at h ⊢
  simp only [Bool.true_eq, Bool.and_eq_true, decide_eq_true_eq] at h ⊢
  exact ⟨shape_deeper 5 x hs, by omega⟩

set_option maxHeartbeats 1000000 in
set_option maxRecDepth 100000 in
theorem lawExprNodes_any (A : Option Addr) (b off n cap : Nat) (w : World) (hC : Seed w A b off n cap) :
    Calls Try.prog 4 #[.slice A n cap] w fun e' w' => e' = .returned (.bool true) ∧ Below w.heap.size w w' := by
  have hn := hC.lenle
  unfold maxLen at hn
  have HC := Lib.hid hC
  clear hC
  by_cases h1 : 1048576 < n
  · go_enter Try.func4, Try.ntmps4
    go_wp2_with fail
    go_ret
    exact ⟨rfl, Below.refl _ _⟩
  go_enter Try.func4, Try.ntmps4
  go_wp2_with fail
  refine (drawNodes_any A b off n cap _ HC.out).mono ?_
  rintro e' w1 ⟨a, a0, a1, a2, rfl, hoa, hda, hb1⟩
  obtain ⟨i0, i1, ia, il, ic, rfl, rfl, rfl⟩ := hoa.form
  obtain ⟨W2, hW2⟩ : ∃ W2, W2 = w1.alloc (.cells #[.int .i64 i0, .int .i64 i1, .slice ia il ic] 25) := ⟨_, rfl⟩
  have hB2 : Below w1.heap.size w1 W2 := by rw [hW2]; exact (Below.refl _ _).alloc (Nat.le_refl _) _
  have HRa2 : Hid (Row W2 w1.heap.size 25 #[.int .i64 i0, .int .i64 i1, .slice ia il ic]) := by rw [hW2]; exact Row.new _ _ _
  have HLa2 := Lib.hid (below_more hoa.lies hB2 hB2.size)
  have HB2 := Lib.hid (hb1.trans (hB2.mono hb1.size))
  have HW2 := Lib.hid hW2
  have hd : desc a ≤ 1048576 := by omega
  clear hW2 hB2 hoa hb1 HC
  obtain ⟨c, hc⟩ : ∃ c, c = nodesOf a := ⟨_, rfl⟩
  obtain ⟨vb, hvb⟩ : ∃ vb, vb = valid a := ⟨_, rfl⟩
  have HNd := Lib.hid hc
  have HV := Lib.hid hvb
  clear hc hvb
  go_wp2_with fail
  rw [← HW2.out]
  refine (implNodes_any a _ _ _ _ HLa2.out hd).mono ?_
  rintro e' w3 ⟨rfl, hb3⟩
  rw [← HNd.out]
  have hr3 := HRa2.out.under hb3 HRa2.out.lt
  have q0 : w3.cell? ⟨w1.heap.size, 0, none⟩ = some (.int .i64 i0) := hr3.cell 0
  have q1 : w3.cell? ⟨w1.heap.size, 1, none⟩ = some (.int .i64 i1) := hr3.cell 1
  have q2 : w3.cell? ⟨w1.heap.size, 2, none⟩ = some (.slice ia il ic) := hr3.cell 2
  have HR3 := Lib.hid hr3
  have HL3 := Lib.hid (below_more HLa2.out hb3 hb3.size)
  have HB3 := Lib.hid (HB2.out.trans (hb3.mono HB2.out.size))
  clear hb3 hr3 HRa2 HLa2 HB2 HW2
  go_wp2_with fail
  refine (specNodes_any a _ _ _ _ HL3.out hd).mono ?_
  rintro e' w4 ⟨rfl, hb4⟩
  rw [← HNd.out]
  have hr4 := HR3.out.under hb4 HR3.out.lt
  have q0 : w4.cell? ⟨w1.heap.size, 0, none⟩ = some (.int .i64 i0) := hr4.cell 0
  have q1 : w4.cell? ⟨w1.heap.size, 1, none⟩ = some (.int .i64 i1) := hr4.cell 1
  have q2 : w4.cell? ⟨w1.heap.size, 2, none⟩ = some (.slice ia il ic) := hr4.cell 2
  have HR4 := Lib.hid hr4
  have HL4 := Lib.hid (below_more HL3.out hb4 hb4.size)
  have HB4 := Lib.hid (HB3.out.trans (hb4.mono HB3.out.size))
  clear hb4 hr4 HR3 HL3 HB3
  go_wp2_with fail
  refine (specValid_any a _ _ _ _ HL4.out hd).mono ?_
  rintro e' w5 ⟨rfl, hb5⟩
  rw [← HV.out]
  have hr5 := HR4.out.under hb5 HR4.out.lt
  have q0 : w5.cell? ⟨w1.heap.size, 0, none⟩ = some (.int .i64 i0) := hr5.cell 0
  have q1 : w5.cell? ⟨w1.heap.size, 1, none⟩ = some (.int .i64 i1) := hr5.cell 1
  have q2 : w5.cell? ⟨w1.heap.size, 2, none⟩ = some (.slice ia il ic) := hr5.cell 2
  have HR5 := Lib.hid hr5
  have HL5 := Lib.hid (below_more HL4.out hb5 hb5.size)
  have HB5 := Lib.hid (HB4.out.trans (hb5.mono HB4.out.size))
  clear hb5 hr5 HR4 HL4 HB4
  cases vb
  · go_wp2_with fail
    have HRc : Hid (Row w5.drew w1.heap.size 25 #[.int .i64 i0, .int .i64 i1, .slice ia il ic]) := HR5.out
    have HLc : Hid (Lies w5.drew w5.drew.heap.size a (.int .i64 i0) (.int .i64 i1) (.slice ia il ic)) := HL5.out.drew
    have HBc : Hid (Below w.heap.size w w5.drew) := HB5.out.drew
    clear HR5 HL5 HB5
    go_region_with (first
      | (go_at_call 14
         refine (specNodes_any a _ _ _ _ HLc.out hd).mono ?_
         rintro e' w6 ⟨rfl, hb6⟩
         rw [← HNd.out]
         have hr6 := HRc.out.under hb6 HRc.out.lt
         have p0 : w6.cell? ⟨w1.heap.size, 0, none⟩ = some (.int .i64 i0) := hr6.cell 0
         have p1 : w6.cell? ⟨w1.heap.size, 1, none⟩ = some (.int .i64 i1) := hr6.cell 1
         have p2 : w6.cell? ⟨w1.heap.size, 2, none⟩ = some (.slice ia il ic) := hr6.cell 2
         replace HRc := Lib.hid hr6
         replace HLc := Lib.hid (below_more HLc.out hb6 hb6.size)
         replace HBc := Lib.hid (HBc.out.trans (hb6.mono HBc.out.size))
         clear hb6 hr6)
      | (go_at_call 11
         refine (implVars_any a _ _ _ _ HLc.out hd).mono ?_
         rintro e' w6 ⟨hv6, hb6⟩
         obtain ⟨_, A6, cap6, rfl⟩ | ⟨h, _⟩ := hv6
         rotate_left
         · exact absurd (HV.out.trans h) (by simp)
         have hr6 := HRc.out.under hb6 HRc.out.lt
         have p0 : w6.cell? ⟨w1.heap.size, 0, none⟩ = some (.int .i64 i0) := hr6.cell 0
         have p1 : w6.cell? ⟨w1.heap.size, 1, none⟩ = some (.int .i64 i1) := hr6.cell 1
         have p2 : w6.cell? ⟨w1.heap.size, 2, none⟩ = some (.slice ia il ic) := hr6.cell 2
         replace HRc := Lib.hid hr6
         replace HLc := Lib.hid (below_more HLc.out hb6 hb6.size)
         replace HBc := Lib.hid (HBc.out.trans (hb6.mono HBc.out.size))
         clear hb6 hr6)
      | (go_at_call 16
         refine (specVars_any a _ _ _ _ HLc.out hd).mono ?_
         rintro e' w6 ⟨hv6, hb6⟩
         obtain ⟨_, A6, cap6, rfl⟩ | ⟨h, _⟩ := hv6
         rotate_left
         · exact absurd (HV.out.trans h) (by simp)
         have hr6 := HRc.out.under hb6 HRc.out.lt
         have p0 : w6.cell? ⟨w1.heap.size, 0, none⟩ = some (.int .i64 i0) := hr6.cell 0
         have p1 : w6.cell? ⟨w1.heap.size, 1, none⟩ = some (.int .i64 i1) := hr6.cell 1
         have p2 : w6.cell? ⟨w1.heap.size, 2, none⟩ = some (.slice ia il ic) := hr6.cell 2
         replace HRc := Lib.hid hr6
         replace HLc := Lib.hid (below_more HLc.out hb6 hb6.size)
         replace HBc := Lib.hid (HBc.out.trans (hb6.mono HBc.out.size))
         clear hb6 hr6))
    all_goals
      (go_wp2_with fail
       go_ret
       exact ⟨ret_bool (by simp), HBc.out⟩)
  · obtain ⟨k, v, kids⟩ := a
    obtain ⟨K, cp, kb, ko, C0, C1, C2, h0', h1', h2', hl, hO⟩ := HL5.out.open_
    injection h0' with _ h0'
    injection h1' with _ h1'
    injection h2' with h2' h3' h4'
    subst h0' h1' h2' h3' h4'
    have HO := Lib.hid hO
    have HKv : Hid (∀ (i : Nat) (x : Ex), kids[i]? = some x → shape 5 x = true ∧ true = valid x ∧ cnt 6 x = cnt 5 x) := fun i x hx => kid_valid HV.out hx
    have hro := rootOk_parts (shape_root (shape_of_valid HV.out))
    have hlen : kids.length ≤ 2 := by omega
    have HRo := Lib.hid hro
    have HCn : Hid (c = ((1 + (kids.map (cnt 5)).sum : Nat) : Int) ∧ 1 + (kids.map (cnt 5)).sum ≤ 15) := by
      have hv := HV.out
      have hc := HNd.out
      unfold nodesOf at hc
      rw [← hv, if_pos rfl] at hc
      unfold valid at hv
      simp only [Bool.true_eq, Bool.and_eq_true, decide_eq_true_eq] at hv
      exact ⟨hc, hv.2⟩
    have hmk : (Instr.makeSlice 31 (.int .i64 3) (.int .i64 3)).run Try.prog w5 = .ok (.slice (some ⟨w5.heap.size, 0, none⟩) 3 3) (w5.alloc (.cells (tri fun _ => false) 4)) := make_three w5
    obtain ⟨m0, hm0⟩ : ∃ m0 : Nat → Bool, m0 = fun i : Nat => decide (i0 = 2) && decide (i1 = (i : Int)) := ⟨_, rfl⟩
    have h15 : w1.heap.size < w5.heap.size := HR5.out.lt
    have hr6 : Row (w5.alloc (.cells (tri fun _ => false) 4)) w5.heap.size 4 (tri fun _ => false) := Row.new _ _ _
    have hb6 : Below w5.heap.size w5 (w5.alloc (.cells (tri fun _ => false) 4)) := (Below.refl _ _).alloc (Nat.le_refl _) _
    obtain ⟨F, hF⟩ : ∃ F, F = occ 6 (.node i0 i1 kids) := ⟨_, rfl⟩
    have HFF := Lib.hid hF
    have HF : Hid (∀ q, F q = (m0 q || kids.any (fun x => occ 5 x q))) := fun q => by rw [hm0, hF]; rfl
    clear hF
    have hm : (∃ j : Nat, i1 = j ∧ j < 3 ∧ i0 = 2 ∧ tri m0 = tri (fun q => if q = j then true else false)) ∨ ((i0 == 2) = false ∧ tri m0 = tri (fun _ => false)) := by
      by_cases hk2 : i0 = 2
      · left
        refine ⟨i1.toNat, by omega, by omega, hk2, ?_⟩
        refine tri_congr fun i => ?_
        rw [hm0]
        show (decide (i0 = 2) && decide (i1 = (i : Int))) = _
        by_cases hij : i = i1.toNat
        · rw [if_pos hij]; simp [hk2]; omega
        · rw [if_neg hij]; simp; omega
      · right
        refine ⟨by simp [hk2], ?_⟩
        rw [hm0]
        unfold tri
        simp [hk2]
    have HR5' := Lib.hid HR5.out
    clear hO hro hl hm0 HR5 HNd HRo
    rcases hm with ⟨j, rfl, hj3, rfl, hm⟩ | ⟨hk2, hm⟩
    · have c1 : (w5.alloc (.cells (tri fun _ => false) 4)).cell? ⟨w5.heap.size, j, none⟩ = some (.bool false) := by rw [hr6.cell]; exact tri_get _ hj3
      have c2 := hr6.frozen j
      have HRs : Hid (Row (w5.alloc (.cells ((tri fun _ => false).setIfInBounds j (.bool true)) 4)) w5.heap.size 4 (tri m0)) := (Row.new w5 4 _).eq_ ((tri_set _ _ hj3).trans hm.symm)
      have HBs : Hid (Below w5.heap.size w5 (w5.alloc (.cells ((tri fun _ => false).setIfInBounds j (.bool true)) 4))) := (Below.refl _ _).alloc (Nat.le_refl _) _
      clear hm hr6 hb6
      go_wp2_with fail
      clear hmk c1 c2 q0 q1 q2

      go_loopw [5, 7] (fun s i wl => ∃ jj S : Nat, jj ≤ kids.length ∧ i = .int .i64 jj ∧ s = .int .i64 (S : Int) ∧ Hid (S = 1 + ((kids.take jj).map (cnt 5)).sum) ∧ Hid (Row wl w5.heap.size 4 (tri (fun q => m0 q || (kids.take jj).any (fun x => occ 5 x q)))) ∧ Hid (Below w5.heap.size w5 wl)) (fun _ i _ => kids.length - (intOf i).toNat)
      case atStart =>
        refine ⟨0, 1, Nat.zero_le _, rfl, rfl, rfl, ?_, HBs⟩
        exact HRs.out.eq_ (tri_congr (m' := fun q => m0 q || (kids.take 0).any (fun x => occ 5 x q)) (fun q => by simp))
      case round =>
        clear HRs HBs
        obtain ⟨jj, S, hjj, rfl, rfl, HS, HRv, HB⟩ := hrel
        have hrb := HR5'.out.under HB.out h15
        have q0 := hrb.cell 0
        have q1 := hrb.cell 1
        have q2 := hrb.cell 2
        simp at q0 q1 q2
        have hvl := HRv.out.lt
        by_cases hlt : jj < kids.length
        · obtain ⟨x, hx⟩ : ∃ x, kids[jj]? = some x := ⟨_, List.getElem?_eq_getElem hlt⟩
          obtain ⟨rfl, hb, g0, g1, g2, gl⟩ := HO.out.below HB.out jj x hx
          obtain ⟨hs5, hvx, hcx⟩ := HKv.out jj x hx
          have hdx : desc x ≤ 1048576 := by
            have h1 := descL_mem (List.mem_of_getElem? hx)
            simp only [desc] at hd
            omega
          obtain ⟨c', hc'⟩ : ∃ c' : Nat, c' = cnt 5 x := ⟨_, rfl⟩
          have HNx : Hid (nodesOf x = (c' : Int)) := by show _ = _; unfold nodesOf; rw [← hvx, if_pos rfl, hcx, hc']
          have hcS : S ≤ 15 ∧ c' ≤ 15 := by
            have h2 := sum_take_le (cnt 5) kids (jj + 1)
            have h3 := sum_take_succ (f := cnt 5) hx
            have h4 := HCn.out.2
            have h5 := HS.out
            omega
          obtain ⟨hS15, hc15⟩ := hcS
          have HS' : Hid (S + c' = 1 + ((kids.take (jj + 1)).map (cnt 5)).sum) := by
            show _ = _
            have h3 := sum_take_succ (f := cnt 5) hx
            have h5 := HS.out
            omega
          obtain ⟨M, hM⟩ : ∃ M : Nat → Bool, M = fun q => m0 q || (kids.take jj).any (fun x => occ 5 x q) := ⟨_, rfl⟩
          have HT2 : Hid (∀ q, (m0 q || (kids.take (jj + 1)).any (fun x => occ 5 x q)) = (M q || occ 6 x q)) := fun q => by rw [any_take_succ (f := fun x => occ 5 x q) hx, hM, occ_deeper q 5 x hs5, Bool.or_assoc]
          rw [← hM] at HRv
          have HVx := Lib.hid hvx
          have HX := Lib.hid hx
          have hw5 : w5.heap.size ≤ wr.heap.size := HB.out.size
          have HLx : Hid (Lies wr wr.heap.size x (C0 jj) (C1 jj) (C2 jj)) := gl.more hw5
          clear hM hc' hx hs5 hvx hcx gl hrb HS
          rename World => wo
          go_wp2_with fail
          refine (implNodes_any x _ _ _ _ HLx.out hdx).mono ?_
          rintro e' w7 ⟨rfl, hb7⟩
          rw [HNx.out]
          have HB7 := Lib.hid (HB.out.trans (hb7.mono hw5))
          have HRv7 := Lib.hid (HRv.out.under hb7 hvl)
          have hrb := HR5'.out.under HB7.out h15
          have p0 := hrb.cell 0
          have p1 := hrb.cell 1
          have p2 := hrb.cell 2
          simp at p0 p1 p2
          obtain ⟨_, _, f0, f1, f2, _⟩ := HO.out.below HB7.out jj x HX.out
          have HLx7 := Lib.hid (below_more HLx.out hb7 hb7.size)
          have hvl7 := HRv7.out.lt
          have hw57 : w5.heap.size ≤ w7.heap.size := HB7.out.size
          clear hb7 hrb g0 g1 g2 q0 q1 q2 HLx HB HRv hvl hw5
          go_wp2_with fail
          refine (implVars_any x _ _ _ _ HLx7.out hdx).mono ?_
          rintro e' w8 ⟨hv8, hb8⟩
          obtain ⟨hvf, _⟩ | ⟨_, g8, t8, rfl, hg8, hr8⟩ := hv8
          · exact absurd (HVx.out.trans hvf) (by simp)
          have HB8 := Lib.hid (HB7.out.trans (hb8.mono hw57))
          have HRv8 := Lib.hid (HRv7.out.under hb8 hvl7)
          have HR8 := Lib.hid hr8
          have h58 : w5.heap.size < g8 := by omega
          clear hb8 hr8 p0 p1 p2 f0 f1 f2 HLx7 HB7 HRv7 hvl7 hw57
          go_wp2_with fail
          go_loopw [9] (fun i wl => ∃ q : Nat, q ≤ 3 ∧ i = .int .i64 q ∧ Hid (Row wl w5.heap.size 4 (tri (fun r => if r < q then M r || occ 6 x r else M r))) ∧ Hid (Row wl g8 t8 (tri (occ 6 x))) ∧ Hid (Below w5.heap.size w5 wl)) (fun i _ => 3 - (intOf i).toNat)
          case atStart => exact ⟨0, by omega, rfl, HRv8, HR8, HB8⟩
          case round =>
            obtain ⟨q, hq, rfl, HS2, HS3, HB'⟩ := hrel
            by_cases hq3 : q < 3
            · obtain ⟨bb, hbb⟩ : ∃ bb, bb = M q := ⟨_, rfl⟩
              obtain ⟨aa, haa⟩ : ∃ aa, aa = occ 6 x q := ⟨_, rfl⟩
              have c1 : wr.cell? ⟨w5.heap.size, q, none⟩ = some (.bool bb) := by
                rw [HS2.out.cell, tri_get _ hq3, hbb]
                simp
              have c2 : wr.cell? ⟨g8, q, none⟩ = some (.bool aa) := by rw [HS3.out.cell, tri_get _ hq3, haa]
              have c3 := HS2.out.frozen q
              have hN3 := HS3.out.lt
              have hN2 := HS2.out.lt
              have HST : Hid (∀ u : Bool, u = (bb || aa) → Row (wr.setCell ⟨w5.heap.size, q, none⟩ (.bool u)) w5.heap.size 4 (tri (fun r => if r < q + 1 then M r || occ 6 x r else M r))) := by
                intro u hu
                have h := HS2.out.set_ q (.bool u)
                rw [tri_set _ u hq3] at h
                rw [tri_congr (m' := fun j => if j = q then u else if j < q then M j || occ 6 x j else M j)]
                · exact h
                · intro r
                  by_cases e1 : r = q
                  · subst e1
                    rw [if_pos (by omega), if_pos rfl, hu, hbb, haa]
                  · rw [if_neg e1]
                    by_cases e2 : r < q
                    · rw [if_pos (by omega), if_pos e2]
                    · rw [if_neg (by omega), if_neg e2]
              have HS3' : Hid (∀ u : Bool, Row (wr.setCell ⟨w5.heap.size, q, none⟩ (.bool u)) g8 t8 (tri (occ 6 x))) := fun u => HS3.out.grown (grown_set wr w5.heap.size q (.bool u)) (by omega)
              have HB3 : Hid (∀ u : Bool, Below w5.heap.size w5 (wr.setCell ⟨w5.heap.size, q, none⟩ (.bool u))) := fun u => HB'.out.setCell (Nat.le_refl _) _
              clear hbb haa HS2 HS3 HB'
              cases bb
              all_goals
                (go_wp2_with fail
                 go_roundw
                 case rel => exact ⟨q + 1, by omega, by go_num, HST.out _ (by simp), HS3'.out _, HB3.out _⟩
                 case measure => simp [intOf]; omega)
            · have hqq : q = 3 := by omega
              subst hqq
              have HS2' : Hid (Row wr w5.heap.size 4 (tri (fun q => m0 q || (kids.take (jj + 1)).any (fun x => occ 5 x q)))) := by
                have h := HS2.out
                show Row _ _ _ _
                have e : tri (fun r => if r < 3 then M r || occ 6 x r else M r) = tri (fun q => m0 q || (kids.take (jj + 1)).any (fun x => occ 5 x q)) :=
                  tri_congr3 fun r hr => (if_pos hr).trans (HT2.out r).symm
                rw [← e]
                exact h
              clear HS2
              go_wp2_with fail
              go_roundw
              case rel => exact ⟨jj + 1, S + c', by omega, by go_num, by go_num, HS', HS2', HB'⟩
              case measure => simp [intOf]; omega
        · have hjj' : jj = kids.length := by omega
          subst hjj'
          have hbx := below_more HL5.out HB.out HB.out.size
          have HLx := Lib.hid hbx
          have HRvf : Hid (Row wr w5.heap.size 4 (tri F)) := HRv.out.eq_ (tri_congr (fun q => by rw [List.take_length]; exact (HF.out q).symm))
          have HSf : Hid (c = (S : Int)) := by
            have h := HS.out
            rw [List.take_length] at h
            rw [h]
            exact HCn.out.1
          have hw5 : w5.heap.size ≤ wr.heap.size := HB.out.size
          clear hbx hrb HRv HS
          go_wp2_with fail
          refine (implVars_any _ _ _ _ _ HLx.out hd).mono ?_
          rintro e' w8 ⟨hv8, hb8⟩
          obtain ⟨hvf, _⟩ | ⟨_, g8, t8, rfl, hg8, hr8⟩ := hv8
          · exact absurd (HV.out.trans hvf) (by simp)
          rw [← HFF.out] at hr8
          have HB8 := Lib.hid (HB5.out.trans ((HB.out.trans (hb8.mono hw5)).mono HB5.out.size))
          have HRv8 := Lib.hid (HRvf.out.under hb8 hvl)
          have HR8 := Lib.hid hr8
          clear hb8 hr8 HLx HRvf HB hvl hw5 q0 q1 q2
          have hcS := HSf.out
          subst hcS
          go_wp2_with fail
          go_loopw [11] (fun i wl => ∃ q : Nat, q ≤ 3 ∧ i = .int .i64 q ∧ Hid (Row wl w5.heap.size 4 (tri F)) ∧ Hid (Row wl g8 t8 (tri F)) ∧ Hid (Below w.heap.size w wl)) (fun i _ => 3 - (intOf i).toNat)
          case atStart => exact ⟨0, by omega, rfl, HRv8, HR8, HB8⟩
          case round =>
            obtain ⟨q, hq, rfl, HS2, HS3, HB'⟩ := hrel
            by_cases hq3 : q < 3
            · obtain ⟨aa, haa⟩ : ∃ aa, aa = F q := ⟨_, rfl⟩
              have c1 : wr.cell? ⟨w5.heap.size, q, none⟩ = some (.bool aa) := by rw [HS2.out.cell, tri_get _ hq3, haa]
              have c2 : wr.cell? ⟨g8, q, none⟩ = some (.bool aa) := by rw [HS3.out.cell, tri_get _ hq3, haa]
              have hN3 := HS3.out.lt
              have hN2 := HS2.out.lt
              have hdd : decide ((3 : Int) ≤ (q : Int)) = false := by simp; omega
              clear haa
              cases aa
              all_goals
                (go_wp2_with fail
                 go_quiet (fail)
                 go_wp2_with fail
                 go_roundw
                 case rel => exact ⟨q + 1, by omega, by go_num, HS2.out, HS3.out, below_drewN HB'.out _⟩
                 case measure => simp [intOf]; omega)
            · have hqq : q = 3 := by omega
              subst hqq
              go_wp2_with fail
              go_ret
              exact ⟨ret_bool (by simp), HB'.out⟩
    · have HRs := Lib.hid (hr6.eq_ hm.symm)
      have HBs := Lib.hid hb6
      clear hm hr6 hb6
      go_wp2_with fail
      clear hmk q0 q1 q2

      go_loopw [5, 7] (fun s i wl => ∃ jj S : Nat, jj ≤ kids.length ∧ i = .int .i64 jj ∧ s = .int .i64 (S : Int) ∧ Hid (S = 1 + ((kids.take jj).map (cnt 5)).sum) ∧ Hid (Row wl w5.heap.size 4 (tri (fun q => m0 q || (kids.take jj).any (fun x => occ 5 x q)))) ∧ Hid (Below w5.heap.size w5 wl)) (fun _ i _ => kids.length - (intOf i).toNat)
      case atStart =>
        refine ⟨0, 1, Nat.zero_le _, rfl, rfl, rfl, ?_, HBs⟩
        exact HRs.out.eq_ (tri_congr (m' := fun q => m0 q || (kids.take 0).any (fun x => occ 5 x q)) (fun q => by simp))
      case round =>
        clear HRs HBs
        obtain ⟨jj, S, hjj, rfl, rfl, HS, HRv, HB⟩ := hrel
        have hrb := HR5'.out.under HB.out h15
        have q0 := hrb.cell 0
        have q1 := hrb.cell 1
        have q2 := hrb.cell 2
        simp at q0 q1 q2
        have hvl := HRv.out.lt
        by_cases hlt : jj < kids.length
        · obtain ⟨x, hx⟩ : ∃ x, kids[jj]? = some x := ⟨_, List.getElem?_eq_getElem hlt⟩
          obtain ⟨rfl, hb, g0, g1, g2, gl⟩ := HO.out.below HB.out jj x hx
          obtain ⟨hs5, hvx, hcx⟩ := HKv.out jj x hx
          have hdx : desc x ≤ 1048576 := by
            have h1 := descL_mem (List.mem_of_getElem? hx)
            simp only [desc] at hd
            omega
          obtain ⟨c', hc'⟩ : ∃ c' : Nat, c' = cnt 5 x := ⟨_, rfl⟩
          have HNx : Hid (nodesOf x = (c' : Int)) := by show _ = _; unfold nodesOf; rw [← hvx, if_pos rfl, hcx, hc']
          have hcS : S ≤ 15 ∧ c' ≤ 15 := by
            have h2 := sum_take_le (cnt 5) kids (jj + 1)
            have h3 := sum_take_succ (f := cnt 5) hx
            have h4 := HCn.out.2
            have h5 := HS.out
            omega
          obtain ⟨hS15, hc15⟩ := hcS
          have HS' : Hid (S + c' = 1 + ((kids.take (jj + 1)).map (cnt 5)).sum) := by
            show _ = _
            have h3 := sum_take_succ (f := cnt 5) hx
            have h5 := HS.out
            omega
          obtain ⟨M, hM⟩ : ∃ M : Nat → Bool, M = fun q => m0 q || (kids.take jj).any (fun x => occ 5 x q) := ⟨_, rfl⟩
          have HT2 : Hid (∀ q, (m0 q || (kids.take (jj + 1)).any (fun x => occ 5 x q)) = (M q || occ 6 x q)) := fun q => by rw [any_take_succ (f := fun x => occ 5 x q) hx, hM, occ_deeper q 5 x hs5, Bool.or_assoc]
          rw [← hM] at HRv
          have HVx := Lib.hid hvx
          have HX := Lib.hid hx
          have hw5 : w5.heap.size ≤ wr.heap.size := HB.out.size
          have HLx : Hid (Lies wr wr.heap.size x (C0 jj) (C1 jj) (C2 jj)) := gl.more hw5
          clear hM hc' hx hs5 hvx hcx gl hrb HS
          rename World => wo
          go_wp2_with fail
          refine (implNodes_any x _ _ _ _ HLx.out hdx).mono ?_
          rintro e' w7 ⟨rfl, hb7⟩
          rw [HNx.out]
          have HB7 := Lib.hid (HB.out.trans (hb7.mono hw5))
          have HRv7 := Lib.hid (HRv.out.under hb7 hvl)
          have hrb := HR5'.out.under HB7.out h15
          have p0 := hrb.cell 0
          have p1 := hrb.cell 1
          have p2 := hrb.cell 2
          simp at p0 p1 p2
          obtain ⟨_, _, f0, f1, f2, _⟩ := HO.out.below HB7.out jj x HX.out
          have HLx7 := Lib.hid (below_more HLx.out hb7 hb7.size)
          have hvl7 := HRv7.out.lt
          have hw57 : w5.heap.size ≤ w7.heap.size := HB7.out.size
          clear hb7 hrb g0 g1 g2 q0 q1 q2 HLx HB HRv hvl hw5
          go_wp2_with fail
          refine (implVars_any x _ _ _ _ HLx7.out hdx).mono ?_
          rintro e' w8 ⟨hv8, hb8⟩
          obtain ⟨hvf, _⟩ | ⟨_, g8, t8, rfl, hg8, hr8⟩ := hv8
          · exact absurd (HVx.out.trans hvf) (by simp)
          have HB8 := Lib.hid (HB7.out.trans (hb8.mono hw57))
          have HRv8 := Lib.hid (HRv7.out.under hb8 hvl7)
          have HR8 := Lib.hid hr8
          have h58 : w5.heap.size < g8 := by omega
          clear hb8 hr8 p0 p1 p2 f0 f1 f2 HLx7 HB7 HRv7 hvl7 hw57
          go_wp2_with fail
          go_loopw [9] (fun i wl => ∃ q : Nat, q ≤ 3 ∧ i = .int .i64 q ∧ Hid (Row wl w5.heap.size 4 (tri (fun r => if r < q then M r || occ 6 x r else M r))) ∧ Hid (Row wl g8 t8 (tri (occ 6 x))) ∧ Hid (Below w5.heap.size w5 wl)) (fun i _ => 3 - (intOf i).toNat)
          case atStart => exact ⟨0, by omega, rfl, HRv8, HR8, HB8⟩
          case round =>
            obtain ⟨q, hq, rfl, HS2, HS3, HB'⟩ := hrel
            by_cases hq3 : q < 3
            · obtain ⟨bb, hbb⟩ : ∃ bb, bb = M q := ⟨_, rfl⟩
              obtain ⟨aa, haa⟩ : ∃ aa, aa = occ 6 x q := ⟨_, rfl⟩
              have c1 : wr.cell? ⟨w5.heap.size, q, none⟩ = some (.bool bb) := by
                rw [HS2.out.cell, tri_get _ hq3, hbb]
                simp
              have c2 : wr.cell? ⟨g8, q, none⟩ = some (.bool aa) := by rw [HS3.out.cell, tri_get _ hq3, haa]
              have c3 := HS2.out.frozen q
              have hN3 := HS3.out.lt
              have hN2 := HS2.out.lt
              have HST : Hid (∀ u : Bool, u = (bb || aa) → Row (wr.setCell ⟨w5.heap.size, q, none⟩ (.bool u)) w5.heap.size 4 (tri (fun r => if r < q + 1 then M r || occ 6 x r else M r))) := by
                intro u hu
                have h := HS2.out.set_ q (.bool u)
                rw [tri_set _ u hq3] at h
                rw [tri_congr (m' := fun j => if j = q then u else if j < q then M j || occ 6 x j else M j)]
                · exact h
                · intro r
                  by_cases e1 : r = q
                  · subst e1
                    rw [if_pos (by omega), if_pos rfl, hu, hbb, haa]
                  · rw [if_neg e1]
                    by_cases e2 : r < q
                    · rw [if_pos (by omega), if_pos e2]
                    · rw [if_neg (by omega), if_neg e2]
              have HS3' : Hid (∀ u : Bool, Row (wr.setCell ⟨w5.heap.size, q, none⟩ (.bool u)) g8 t8 (tri (occ 6 x))) := fun u => HS3.out.grown (grown_set wr w5.heap.size q (.bool u)) (by omega)
              have HB3 : Hid (∀ u : Bool, Below w5.heap.size w5 (wr.setCell ⟨w5.heap.size, q, none⟩ (.bool u))) := fun u => HB'.out.setCell (Nat.le_refl _) _
              clear hbb haa HS2 HS3 HB'
              cases bb
              all_goals
                (go_wp2_with fail
                 go_roundw
                 case rel => exact ⟨q + 1, by omega, by go_num, HST.out _ (by simp), HS3'.out _, HB3.out _⟩
                 case measure => simp [intOf]; omega)
            · have hqq : q = 3 := by omega
              subst hqq
              have HS2' : Hid (Row wr w5.heap.size 4 (tri (fun q => m0 q || (kids.take (jj + 1)).any (fun x => occ 5 x q)))) := by
                have h := HS2.out
                show Row _ _ _ _
                have e : tri (fun r => if r < 3 then M r || occ 6 x r else M r) = tri (fun q => m0 q || (kids.take (jj + 1)).any (fun x => occ 5 x q)) :=
                  tri_congr3 fun r hr => (if_pos hr).trans (HT2.out r).symm
                rw [← e]
                exact h
              clear HS2
              go_wp2_with fail
              go_roundw
              case rel => exact ⟨jj + 1, S + c', by omega, by go_num, by go_num, HS', HS2', HB'⟩
              case measure => simp [intOf]; omega
        · have hjj' : jj = kids.length := by omega
          subst hjj'
          have hbx := below_more HL5.out HB.out HB.out.size
          have HLx := Lib.hid hbx
          have HRvf : Hid (Row wr w5.heap.size 4 (tri F)) := HRv.out.eq_ (tri_congr (fun q => by rw [List.take_length]; exact (HF.out q).symm))
          have HSf : Hid (c = (S : Int)) := by
            have h := HS.out
            rw [List.take_length] at h
            rw [h]
            exact HCn.out.1
          have hw5 : w5.heap.size ≤ wr.heap.size := HB.out.size
          clear hbx hrb HRv HS
          go_wp2_with fail
          refine (implVars_any _ _ _ _ _ HLx.out hd).mono ?_
          rintro e' w8 ⟨hv8, hb8⟩
          obtain ⟨hvf, _⟩ | ⟨_, g8, t8, rfl, hg8, hr8⟩ := hv8
          · exact absurd (HV.out.trans hvf) (by simp)
          rw [← HFF.out] at hr8
          have HB8 := Lib.hid (HB5.out.trans ((HB.out.trans (hb8.mono hw5)).mono HB5.out.size))
          have HRv8 := Lib.hid (HRvf.out.under hb8 hvl)
          have HR8 := Lib.hid hr8
          clear hb8 hr8 HLx HRvf HB hvl hw5 q0 q1 q2
          have hcS := HSf.out
          subst hcS
          go_wp2_with fail
          go_loopw [11] (fun i wl => ∃ q : Nat, q ≤ 3 ∧ i = .int .i64 q ∧ Hid (Row wl w5.heap.size 4 (tri F)) ∧ Hid (Row wl g8 t8 (tri F)) ∧ Hid (Below w.heap.size w wl)) (fun i _ => 3 - (intOf i).toNat)
          case atStart => exact ⟨0, by omega, rfl, HRv8, HR8, HB8⟩
          case round =>
            obtain ⟨q, hq, rfl, HS2, HS3, HB'⟩ := hrel
            by_cases hq3 : q < 3
            · obtain ⟨aa, haa⟩ : ∃ aa, aa = F q := ⟨_, rfl⟩
              have c1 : wr.cell? ⟨w5.heap.size, q, none⟩ = some (.bool aa) := by rw [HS2.out.cell, tri_get _ hq3, haa]
              have c2 : wr.cell? ⟨g8, q, none⟩ = some (.bool aa) := by rw [HS3.out.cell, tri_get _ hq3, haa]
              have hN3 := HS3.out.lt
              have hN2 := HS2.out.lt
              have hdd : decide ((3 : Int) ≤ (q : Int)) = false := by simp; omega
              clear haa
              cases aa
              all_goals
                (go_wp2_with fail
                 go_quiet (fail)
                 go_wp2_with fail
                 go_roundw
                 case rel => exact ⟨q + 1, by omega, by go_num, HS2.out, HS3.out, below_drewN HB'.out _⟩
                 case measure => simp [intOf]; omega)
            · have hqq : q = 3 := by omega
              subst hqq
              go_wp2_with fail
              go_ret
              exact ⟨ret_bool (by simp), HB'.out⟩

end Go.Proofs.Ytkcgjgdcmdjcfaa

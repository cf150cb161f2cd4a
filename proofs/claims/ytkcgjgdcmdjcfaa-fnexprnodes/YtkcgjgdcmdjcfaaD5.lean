/- The walk of spec.l1Mutate: a copy, sometimes made invalid. -/
import Derived.Test.YtkcgjgdcmdjcfaaD4
import Derived.Test.YtkcgjgdcmdjcfaaS1
namespace Go.Proofs.Ytkcgjgdcmdjcfaa
open Go.RowKit

theorem copy_any (e : Ex) (c0 c1 c2 : Value) (w : World) (hs : shape 6 e = true) (hL : Lies w w.heap.size e c0 c1 c2) :
    Calls Try.prog 43 #[.agg #[c0, c1, c2], .int .i64 (-1), .agg #[.int .i64 0, .int .i64 0, .slice none 0 0]] w (SubPost e w) := by
  have h := sub_any (-1) (.node 0 0 []) 0 0 none 0 0 (.inl (by omega)) 6 e c0 c1 c2 w hs hL (.mk 0 0 [] none 0 0 0 (fun _ => undef) (fun _ => undef) (fun _ => undef) (by simp) (fun i x hx => by simp at hx) (fun i x hx => by simp at hx) (fun i x hx => by simp at hx) (fun i x hx => by simp at hx) (fun i x hx => by simp at hx))
  rw [substE_none (by omega) _ 6 e hs] at h
  exact h

/-- The rows of a copy, kept to a later world. -/
theorem kept_own {w1 w' : World} {lo hi N : Nat} {A : Option Addr} {n cap : Nat} {es : List Ex} (hB : BuiltP w1 25 (fun b => lo ≤ b ∧ b < hi) (.slice A n cap) es) (hn : n = es.length) (hl : es.length ≤ maxLen) (hk : ∀ q, lo ≤ q → q < hi → w'.heap[q]? = w1.heap[q]?) (hN : N ≤ lo) (hhi : hi ≤ w'.heap.size) (k v : Int) :
    Own w' 25 N w'.heap.size (.node k v es) (.int .i64 k) (.int .i64 v) (.slice A n cap) :=
  ((hB.keep (w' := w') fun g hg => hk g hg.1 hg.2).lies hn hl k v).own fun g hg => ⟨by omega, by omega⟩

/-- What l1Mutate leaves. -/
def MutPost (g : Nat) (A : Option Addr) (b off n cap : Nat) (p : Int) (D : Nat) (m : Int) (w : World) (e' : Ending) (w' : World) : Prop :=
  ∃ (e : Ex) (d0 d1 d2 : Value), e' = .returned (.agg #[d0, d1, d2]) ∧ Own w' 25 w.heap.size w'.heap.size e d0 d1 d2 ∧ desc e ≤ D ∧ Picked g A b off n cap p m w w'

/-- The end of a mutation: the result's block, of the call's own, has been written. -/
theorem mut_end {g : Nat} {A : Option Addr} {b off n cap : Nat} {p pq : Int} {D : Nat} {m : Int} {w wz : World} (hgN : g < w.heap.size) (hG : w.grownBy wz (some g)) (hS : Src wz g A b off n cap pq) (hp : p ≤ pq) (hm : pq ≤ p + m)
    {e : Ex} {d0 d1 d2 u0 u1 u2 : Value} {lo : Nat} (hN : w.heap.size + 2 ≤ lo) (ho : Own wz 25 lo wz.heap.size e d0 d1 d2) (hd : desc e ≤ D) :
    MutPost g A b off n cap p D m w (.returned (.agg #[d0, d1, d2])) (((wz.setCell ⟨w.heap.size + 1, 0, none⟩ u0).setCell ⟨w.heap.size + 1, 1, none⟩ u1).setCell ⟨w.heap.size + 1, 2, none⟩ u2) := by
  have hb : Below w.heap.size wz (((wz.setCell ⟨w.heap.size + 1, 0, none⟩ u0).setCell ⟨w.heap.size + 1, 1, none⟩ u1).setCell ⟨w.heap.size + 1, 2, none⟩ u2) :=
    (((Below.refl _ _).setCell (p := ⟨w.heap.size + 1, 0, none⟩) (Nat.le_succ _) _).setCell (p := ⟨w.heap.size + 1, 1, none⟩) (Nat.le_succ _) _).setCell (p := ⟨w.heap.size + 1, 2, none⟩) (Nat.le_succ _) _
  refine ⟨e, d0, d1, d2, rfl, ho.keep (by omega) (by simp) fun q hq _ => ?_, hd, grown_below hG hb (Nat.le_refl _), pq, hp, hm, hS.under hb hgN⟩
  rw [Below.heap_setCell _ _ _ _ (by simp; omega), Below.heap_setCell _ _ _ _ (by simp; omega), Below.heap_setCell _ _ _ _ (by simp; omega)]

set_option maxHeartbeats 2000000 in
set_option maxRecDepth 100000 in
theorem l1Mutate_any (g : Nat) (A : Option Addr) (b off n cap : Nat) (p : Int) (e : Ex) (c0 c1 c2 : Value) (w : World) (hS : Src w g A b off n cap p) (hp0 : 0 ≤ p) (hp1 : p ≤ 900000) (hs : shape 6 e = true) (hL : Lies w w.heap.size e c0 c1 c2) (hd : desc e ≤ 14) :
    Calls Try.prog 25 #[.pointer (some ⟨g, 0, none⟩), .agg #[c0, c1, c2]] w (MutPost g A b off n cap p 15 2 w) := by
  obtain ⟨n0, n1, a2, l2, cp2, rfl, rfl, rfl⟩ := hL.form
  have hgN : g < w.heap.size := hS.lt
  obtain ⟨W2, hW2⟩ : ∃ W2, W2 = (w.alloc (.cells #[.int .i64 n0, .int .i64 n1, .slice a2 l2 cp2] 25)).alloc (.cells #[.int .i64 0, .int .i64 0, .slice none 0 0] 25) := ⟨_, rfl⟩
  have hB2 : Below w.heap.size w W2 := by rw [hW2]; exact ((Below.refl _ _).alloc (Nat.le_refl _) _).alloc (by simp) _
  have HZ2 : Hid (W2.heap.size = w.heap.size + 2) := by show _ = _; rw [hW2]; simp
  have HR2 : Hid (Row W2 (w.heap.size + 1) 25 #[.int .i64 0, .int .i64 0, .slice none 0 0]) := by
    rw [hW2]
    have h := Row.new (w.alloc (.cells #[.int .i64 n0, .int .i64 n1, .slice a2 l2 cp2] 25)) 25 #[.int .i64 0, .int .i64 0, .slice none 0 0]
    rw [show (w.alloc (.cells #[.int .i64 n0, .int .i64 n1, .slice a2 l2 cp2] 25)).heap.size = w.heap.size + 1 by simp] at h
    exact h
  have HL2 := Lib.hid (below_more hL hB2 hB2.size)
  have HS2 := Lib.hid (hS.under hB2 hS.lt)
  have HB2 := Lib.hid hB2
  have HSh := Lib.hid hs
  have HW2 := Lib.hid hW2
  clear hW2 hB2 hL hS hs
  obtain ⟨i0, hi0, hz0, hz1, hz2⟩ := info_parts Try.info25
  go_enter Try.func25, Try.ntmps25
  go_wp2_with fail
  rw [← HW2.out]
  refine (copy_any e _ _ _ _ HSh.out HL2.out).mono ?_
  rintro e' w1 ⟨k, v, es, A1, m1, cp1, he, rfl, hbu, hb1⟩
  have hes : es.length ≤ 2 := by
    have h := HSh.out
    rw [he] at h
    have := rootOk_parts (shape_root (d := 5) h)
    omega
  obtain ⟨A1', cp1', hSl, hml, _⟩ := hbu.form
  injection hSl with e1 e2 e3
  subst e1 e3
  have HN1 := Lib.hid e2
  have hde : descL es ≤ 14 := by rw [he] at hd; simpa only [desc] using hd
  have HP1 := Lib.hid hbu.toP
  have hsz1 : w.heap.size + 2 ≤ w1.heap.size := by rw [← HZ2.out]; exact hb1.size
  obtain ⟨W3, hW3⟩ : ∃ W3, W3 = w1.alloc (.cells #[.int .i64 k, .int .i64 v, .slice A1 m1 cp1] 25) := ⟨_, rfl⟩
  have hB3 : Below w1.heap.size w1 W3 := by rw [hW3]; exact (Below.refl _ _).alloc (Nat.le_refl _) _
  have HR3 : Hid (Row W3 w1.heap.size 25 #[.int .i64 k, .int .i64 v, .slice A1 m1 cp1]) := by rw [hW3]; exact Row.new _ _ _
  have hB13 : Below w.heap.size w W3 := (HB2.out.trans (hb1.mono HB2.out.size)).trans (hB3.mono (by omega))
  have HG3 : Hid (w.grownBy W3 (some g)) := ⟨hB13.os, hB13.tape, hB13.output, hB13.size, fun k hk _ => hB13.block k hk⟩
  have HS3 := Lib.hid ((HS2.out.under hb1 HS2.out.lt).under hB3 (by have := HS2.out.lt; have := hb1.size; omega))
  have HRr3 := Lib.hid ((HR2.out.under hb1 HR2.out.lt).under hB3 (by omega))
  have HK3 : Hid (∀ q, W2.heap.size ≤ q → q < w1.heap.size → W3.heap[q]? = w1.heap[q]?) := fun q _ h2 => hB3.block q h2
  have hz3 : w1.heap.size < W3.heap.size := HR3.out.lt
  have HW3 := Lib.hid hW3
  clear hW3 hB3 hB13 hb1 hbu e2
  go_wp2_with fail
  rw [← HW3.out]
  refine (pick_any g A b off n cap p 40 _ HS3.out (by omega) (by omega) (by omega) (by omega)).mono ?_
  rintro e' wa ⟨r, rfl, hr0, hr1, hPa⟩
  obtain ⟨hga, p1, hpa0, hpa1, hSa⟩ := hPa
  have hro := HR3.out.grown hga (by omega)
  have o0 : wa.cell? ⟨w1.heap.size, 0, none⟩ = some (.int .i64 k) := hro.cell 0
  have o1 : wa.cell? ⟨w1.heap.size, 1, none⟩ = some (.int .i64 v) := hro.cell 1
  have o2 : wa.cell? ⟨w1.heap.size, 2, none⟩ = some (.slice A1 m1 cp1) := hro.cell 2
  have HRo := Lib.hid hro
  have HGa := Lib.hid (grown_trans HG3.out hga)
  have HSa := Lib.hid hSa
  have HRa := Lib.hid (HRr3.out.grown hga (by omega))
  have HKa : Hid (∀ q, W2.heap.size ≤ q → q < w1.heap.size → wa.heap[q]? = w1.heap[q]?) := fun q h1 h2 => (hga.block q (by omega) (fun e => by injection e with e; have := HZ2.out; omega)).trans (HK3.out q h1 h2)
  have hza : w1.heap.size < wa.heap.size := hro.lt
  clear hga hSa hro HG3 HS3 HRr3 HK3 HR3 HW3
  have hZ2 : Hid (w.heap.size + 2 ≤ W2.heap.size) := by show _ ≤ _; rw [HZ2.out]; omega
  by_cases hr3 : r = 3
  · subst hr3
    have y0 : wa.cell? ⟨w.heap.size + 1, 0, none⟩ = some (.int .i64 0) := HRa.out.cell 0
    have y1 : wa.cell? ⟨w.heap.size + 1, 1, none⟩ = some (.int .i64 0) := HRa.out.cell 1
    have y2 : wa.cell? ⟨w.heap.size + 1, 2, none⟩ = some (.slice none 0 0) := HRa.out.cell 2
    have z0 := HRa.out.frozen 0
    have z1 := HRa.out.frozen 1
    have z2 := HRa.out.frozen 2
    go_wp2_with fail
    refine bodyPost_ret (v := .agg #[.int .i64 0, .int .i64 0, .slice none 0 0]) (by simp [results, Try.results25, go_sem, y0, y1, y2]) rfl ?_
    exact mut_end (lo := w.heap.size + 2) hgN HGa.out HSa.out (by omega) (by omega) (Nat.le_refl _) ((Built.nil _ _ _).own 0 0) (by simp [desc, descL])
  by_cases hrz : r = 0
  · subst hrz
    have HIl : Hid (Ints (wa.alloc (.cells #[.int .i64 0, .int .i64 10, .int .i64 (-1), .int .i64 1, .int .i64 2, .int .i64 3, .int .i64 4] 3)) (wa.alloc (.cells #[.int .i64 0, .int .i64 10, .int .i64 (-1), .int .i64 1, .int .i64 2, .int .i64 3, .int .i64 4] 3)).heap.size (some ⟨wa.heap.size, 0, none⟩) wa.heap.size 0 [0, 10, -1, 1, 2, 3, 4]) := ints_lit wa [0, 10, -1, 1, 2, 3, 4]
    clear o0 o1 o2
    go_wp2_with fail
    refine (num_any [0, 10, -1, 1, 2, 3, 4] g A b off n cap p1 _ (HSa.out.under ((Below.refl _ wa).alloc (Nat.le_refl _) _) HSa.out.lt) (by omega) (by omega) _ wa.heap.size 0 7 HIl.out (by have := HSa.out.lt; omega) (by simp) (by simp)).mono ?_
    rintro e' wc ⟨kk, rfl, hmem, hPc⟩
    obtain ⟨hgc, p2, hpc0, hpc1, hSc⟩ := hPc
    have hgc' : wa.grownBy wc (some g) := below_grown ((Below.refl _ wa).alloc (Nat.le_refl _) _) hgc
    have hrc := HRo.out.grown hgc' (by omega)
    have hrr := HRa.out.grown hgc' (by omega)
    have o0 : wc.cell? ⟨w1.heap.size, 0, none⟩ = some (.int .i64 k) := hrc.cell 0
    have o1 : wc.cell? ⟨w1.heap.size, 1, none⟩ = some (.int .i64 v) := hrc.cell 1
    have o2 : wc.cell? ⟨w1.heap.size, 2, none⟩ = some (.slice A1 m1 cp1) := hrc.cell 2
    have of := hrc.frozen 0
    have y0 : wc.cell? ⟨w.heap.size + 1, 0, none⟩ = some (.int .i64 0) := hrr.cell 0
    have y1 : wc.cell? ⟨w.heap.size + 1, 1, none⟩ = some (.int .i64 0) := hrr.cell 1
    have y2 : wc.cell? ⟨w.heap.size + 1, 2, none⟩ = some (.slice none 0 0) := hrr.cell 2
    have z0 := hrr.frozen 0
    have z1 := hrr.frozen 1
    have z2 := hrr.frozen 2
    have hne : ¬ w1.heap.size = w.heap.size + 1 := by omega
    have hne2 : ¬ w.heap.size + 1 = w1.heap.size := by omega
    have HGc := Lib.hid (grown_trans HGa.out hgc')
    have HSc := Lib.hid hSc
    have hzc : wa.heap.size ≤ wc.heap.size := hgc'.size
    have HKc : Hid (∀ q, W2.heap.size ≤ q → q < w1.heap.size → (wc.setCell ⟨w1.heap.size, 0, none⟩ (.int .i64 kk)).heap[q]? = w1.heap[q]?) := fun q h1 h2 => (Below.heap_setCell _ _ _ _ (by simp; omega)).trans ((hgc'.block q (by omega) (fun e => by injection e with e; have := HZ2.out; omega)).trans (HKa.out q h1 h2))
    have hbx : Below w1.heap.size wc (wc.setCell ⟨w1.heap.size, 0, none⟩ (.int .i64 kk)) := (Below.refl _ _).setCell (p := ⟨w1.heap.size, 0, none⟩) (Nat.le_refl _) _
    have HGx := Lib.hid (grown_below HGc.out hbx (by omega))
    have HSx := Lib.hid (HSc.out.under hbx (by omega))
    clear hmem hgc hgc' hSc hrc hrr hbx
    go_wp2_with fail
    refine bodyPost_ret (v := .agg #[.int .i64 kk, .int .i64 v, .slice A1 m1 cp1]) (by simp [results, Try.results25, go_sem, y0, y1, y2]) rfl ?_
    exact mut_end hgN HGx.out HSx.out (by omega) (by omega) hZ2.out (kept_own HP1.out HN1.out hml HKc.out (Nat.le_refl _) (by simp; omega) kk v) (by simp only [desc]; omega)
  by_cases hr1' : r = 1
  · subst hr1'
    have HIl : Hid (Ints (wa.alloc (.cells #[.int .i64 (-1), .int .i64 4, .int .i64 3, .int .i64 9223372036854775807] 3)) (wa.alloc (.cells #[.int .i64 (-1), .int .i64 4, .int .i64 3, .int .i64 9223372036854775807] 3)).heap.size (some ⟨wa.heap.size, 0, none⟩) wa.heap.size 0 [-1, 4, 3, 9223372036854775807]) := ints_lit wa [-1, 4, 3, 9223372036854775807]
    clear o0 o1 o2
    go_wp2_with fail
    refine (num_any [-1, 4, 3, 9223372036854775807] g A b off n cap p1 _ (HSa.out.under ((Below.refl _ wa).alloc (Nat.le_refl _) _) HSa.out.lt) (by omega) (by omega) _ wa.heap.size 0 4 HIl.out (by have := HSa.out.lt; omega) (by simp) (by simp)).mono ?_
    rintro e' wc ⟨kk, rfl, hmem, hPc⟩
    obtain ⟨hgc, p2, hpc0, hpc1, hSc⟩ := hPc
    have hgc' : wa.grownBy wc (some g) := below_grown ((Below.refl _ wa).alloc (Nat.le_refl _) _) hgc
    have hrc := HRo.out.grown hgc' (by omega)
    have hrr := HRa.out.grown hgc' (by omega)
    have o0 : wc.cell? ⟨w1.heap.size, 0, none⟩ = some (.int .i64 k) := hrc.cell 0
    have o1 : wc.cell? ⟨w1.heap.size, 1, none⟩ = some (.int .i64 v) := hrc.cell 1
    have o2 : wc.cell? ⟨w1.heap.size, 2, none⟩ = some (.slice A1 m1 cp1) := hrc.cell 2
    have of := hrc.frozen 1
    have y0 : wc.cell? ⟨w.heap.size + 1, 0, none⟩ = some (.int .i64 0) := hrr.cell 0
    have y1 : wc.cell? ⟨w.heap.size + 1, 1, none⟩ = some (.int .i64 0) := hrr.cell 1
    have y2 : wc.cell? ⟨w.heap.size + 1, 2, none⟩ = some (.slice none 0 0) := hrr.cell 2
    have z0 := hrr.frozen 0
    have z1 := hrr.frozen 1
    have z2 := hrr.frozen 2
    have hne : ¬ w1.heap.size = w.heap.size + 1 := by omega
    have hne2 : ¬ w.heap.size + 1 = w1.heap.size := by omega
    have HGc := Lib.hid (grown_trans HGa.out hgc')
    have HSc := Lib.hid hSc
    have hzc : wa.heap.size ≤ wc.heap.size := hgc'.size
    have HKc : Hid (∀ q, W2.heap.size ≤ q → q < w1.heap.size → (wc.setCell ⟨w1.heap.size, 1, none⟩ (.int .i64 kk)).heap[q]? = w1.heap[q]?) := fun q h1 h2 => (Below.heap_setCell _ _ _ _ (by simp; omega)).trans ((hgc'.block q (by omega) (fun e => by injection e with e; have := HZ2.out; omega)).trans (HKa.out q h1 h2))
    have hbx : Below w1.heap.size wc (wc.setCell ⟨w1.heap.size, 1, none⟩ (.int .i64 kk)) := (Below.refl _ _).setCell (p := ⟨w1.heap.size, 1, none⟩) (Nat.le_refl _) _
    have HGx := Lib.hid (grown_below HGc.out hbx (by omega))
    have HSx := Lib.hid (HSc.out.under hbx (by omega))
    clear hmem hgc hgc' hSc hrc hrr hbx
    go_wp2_with fail
    refine bodyPost_ret (v := .agg #[.int .i64 k, .int .i64 kk, .slice A1 m1 cp1]) (by simp [results, Try.results25, go_sem, y0, y1, y2]) rfl ?_
    exact mut_end hgN HGx.out HSx.out (by omega) (by omega) hZ2.out (kept_own HP1.out HN1.out hml HKc.out (Nat.le_refl _) (by simp; omega) k kk) (by simp only [desc]; omega)
  by_cases hr2' : r = 2
  · subst hr2'
    have hxo := HP1.out.keep (w' := wa.alloc (.cells #[.int .i64 1, .int .i64 0, .slice none 0 0] 25)) fun q hq => (Below.heap_alloc _ _ _ (by omega)).trans (HKa.out q hq.1 hq.2)
    have HXo := Lib.hid hxo
    obtain ⟨xs, _, _, _, hxs, _⟩ := hxo
    rw [← HN1.out] at hxs
    have hm1 : m1 ≤ 2 := by have := HN1.out; omega
    have HXs := Lib.hid hxs
    clear hxs
    have y0 : wa.cell? ⟨w.heap.size + 1, 0, none⟩ = some (.int .i64 0) := HRa.out.cell 0
    have hne : ¬ w1.heap.size = w.heap.size + 1 := by omega
    have hne2 : ¬ w.heap.size + 1 = w1.heap.size := by omega
    go_wp2_with (at_builtin; refine wpList_append_lies _ rfl (.tmp 26) (.tmp 28) 23 rfl 0 25 i0 _ 3 40 Try.underlying23 hi0 hz0 hz1 hz2 rfl (by omega) (.slice A1 m1 cp1) m1 xs rfl HXs.out ⟨wa.heap.size, 0, none⟩ 1 1 [.int .i64 1, .int .i64 0, .slice none 0 0] rfl rfl (World.news_of_block (cs := #[.int .i64 1, .int .i64 0, .slice none 0 0]) (t := 25) (fr := (0, 0)) (heap_alloc_new wa _)) (by simp [Value.oneCell']) (by omega) (by unfold maxLen; omega) (by omega) (Nat.zero_le _) (wa.heap.size + 1) (by simp) ?_)
    intro gq cap' wc hown hgrow hat hlt2
    have hSb : ∀ q, (Value.slice A1 m1 cp1).ownBlock = some q → W2.heap.size ≤ q ∧ q < w1.heap.size := by
      obtain ⟨_, _, _, _, _, h, _⟩ := HP1.out
      exact h
    have hW2le : W2.heap.size ≤ w1.heap.size := by have := HZ2.out; omega
    have hbc : Below W2.heap.size wa wc := ((Below.refl _ wa).alloc (by omega) _).grown hgrow (by simp; omega) fun q hq => (hSb q hq).1
    have hrc : Row wc w1.heap.size 25 #[.int .i64 k, .int .i64 v, .slice A1 m1 cp1] := (hgrow.block _ (by simp; omega) (fun e => by have := (hSb _ e.symm).2; omega)).trans (HRo.out.under ((Below.refl _ wa).alloc (Nat.le_refl _) _) HRo.out.lt)
    have hrr := HRa.out.under hbc (by have := HZ2.out; omega)
    have o0' : wc.cell? ⟨w1.heap.size, 0, none⟩ = some (.int .i64 k) := hrc.cell 0
    have o1' : wc.cell? ⟨w1.heap.size, 1, none⟩ = some (.int .i64 v) := hrc.cell 1
    have o2' : wc.cell? ⟨w1.heap.size, 2, none⟩ = some (.slice A1 m1 cp1) := hrc.cell 2
    have of := hrc.frozen 2
    have y0' : wc.cell? ⟨w.heap.size + 1, 0, none⟩ = some (.int .i64 0) := hrr.cell 0
    have y1' : wc.cell? ⟨w.heap.size + 1, 1, none⟩ = some (.int .i64 0) := hrr.cell 1
    have y2' : wc.cell? ⟨w.heap.size + 1, 2, none⟩ = some (.slice none 0 0) := hrr.cell 2
    have z0 := hrr.frozen 0
    have z1 := hrr.frozen 1
    have z2 := hrr.frozen 2
    have hgq : W2.heap.size ≤ gq ∧ gq < wc.heap.size ∧ gq ≠ w1.heap.size := by
      rcases hat with hat | hat
      · have := hSb _ hat; omega
      · omega
    have hleaf : OwnP (wa.alloc (.cells #[.int .i64 1, .int .i64 0, .slice none 0 0] 25)) 25 (fun b => (W2.heap.size ≤ b ∧ b < w1.heap.size) ∧ (Value.slice A1 m1 cp1).ownBlock ≠ some b) (.node 1 0 []) (.int .i64 1) (.int .i64 0) (.slice none 0 0) :=
      .mk 1 0 [] none 0 0 #[] (fun _ => undef) (fun _ => undef) (fun _ => undef) (by simp) (fun i x hx => by simp at hx) (fun i x hx => by simp at hx) (fun i x hx => by simp at hx) (fun i x hx => by simp at hx) (fun i x hx => by simp at hx)
    have hmade := HXo.out.append (ok' := fun b => W2.heap.size ≤ b ∧ b < wc.heap.size ∧ b ≠ w1.heap.size) (fun b hb => ⟨⟨hb.1, by have := hgrow.size; simp at this; omega, by omega⟩, by simp; omega⟩) hgq hleaf (by rw [← HN1.out]; exact HXs.out) (by rw [← HN1.out]; exact hown) (by exact hgrow) (by simpa using hat)
    rw [← HN1.out] at hmade
    have hmade2 := hmade.keep (w' := wc.setCell ⟨w1.heap.size, 2, none⟩ (.slice (some ⟨gq, 0, none⟩) (m1 + 1) cap')) fun q hq => Below.heap_setCell _ _ _ _ (by simp; omega)
    have hlx : (es ++ [Ex.node 1 0 []]).length = m1 + 1 := by have := HN1.out; simp; omega
    have hown2 := (hmade2.lies hlx.symm (by rw [hlx]; unfold maxLen; omega) k v).own (lo := W2.heap.size) (hi := (wc.setCell ⟨w1.heap.size, 2, none⟩ (.slice (some ⟨gq, 0, none⟩) (m1 + 1) cap')).heap.size) fun q hq => ⟨hq.1, by simp; omega⟩
    have hbx : Below W2.heap.size wc (wc.setCell ⟨w1.heap.size, 2, none⟩ (.slice (some ⟨gq, 0, none⟩) (m1 + 1) cap')) := (Below.refl _ _).setCell (p := ⟨w1.heap.size, 2, none⟩) (by have := HZ2.out; omega) _
    have HOw := Lib.hid hown2
    have HGx := Lib.hid (grown_below HGa.out (hbc.trans hbx) (by have := HZ2.out; omega))
    have HSx := Lib.hid (HSa.out.under (hbc.trans hbx) (by have := HZ2.out; omega))
    clear hown hgrow hat hlt2 hSb hbc hrc hrr hgq hleaf hmade hmade2 hlx hown2 hbx o0 o1 o2 y0
    go_wp2_with fail
    refine bodyPost_ret (v := .agg #[.int .i64 k, .int .i64 v, .slice (some ⟨gq, 0, none⟩) (m1 + 1) cap']) (by simp [results, Try.results25, go_sem, y0', y1', y2']) rfl ?_
    exact mut_end hgN HGx.out HSx.out (by omega) (by omega) hZ2.out HOw.out (by simp only [desc]; rw [descL_append]; simp only [descL, desc]; omega)
  · have b0 : (r == 0) = false := by rw [beq_eq_false_iff_ne]; exact hrz
    have b1 : (r == 1) = false := by rw [beq_eq_false_iff_ne]; exact hr1'
    have b2 : (r == 2) = false := by rw [beq_eq_false_iff_ne]; exact hr2'
    have b3 : (r == 3) = false := by rw [beq_eq_false_iff_ne]; exact hr3
    have y0 : wa.cell? ⟨w.heap.size + 1, 0, none⟩ = some (.int .i64 0) := HRa.out.cell 0
    have y1 : wa.cell? ⟨w.heap.size + 1, 1, none⟩ = some (.int .i64 0) := HRa.out.cell 1
    have y2 : wa.cell? ⟨w.heap.size + 1, 2, none⟩ = some (.slice none 0 0) := HRa.out.cell 2
    have z0 := HRa.out.frozen 0
    have z1 := HRa.out.frozen 1
    have z2 := HRa.out.frozen 2
    have hne : ¬ w1.heap.size = w.heap.size + 1 := by omega
    have hne2 : ¬ w.heap.size + 1 = w1.heap.size := by omega
    go_wp2_with fail
    refine bodyPost_ret (v := .agg #[.int .i64 k, .int .i64 v, .slice A1 m1 cp1]) (by simp [results, Try.results25, go_sem, y0, y1, y2]) rfl ?_
    exact mut_end hgN HGa.out HSa.out (by omega) (by omega) hZ2.out (kept_own HP1.out HN1.out hml HKa.out (Nat.le_refl _) (by omega) k v) (by simp only [desc]; omega)

end Go.Proofs.Ytkcgjgdcmdjcfaa

/- The walk of spec.l1Subst: a copy of a tree in which a variable is replaced. -/
import Derived.Test.YtkcgjgdcmdjcfaaE0
import Derived.Test.YtkcgjgdcmdjcfaaBld
import Derived.Test.YtkcgjgdcmdjcfaaW7
import Derived.Deep.RegionLaw
namespace Go.Proofs.Ytkcgjgdcmdjcfaa
open Go.RowKit

/-- The tree with a variable replaced, down to a depth. -/
def substE (j : Int) (bb : Ex) : Nat → Ex → Ex
  | 0, e => e
  | d + 1, .node k v kids => if k = 2 ∧ v = j then bb else .node k v (kids.map (substE j bb d))

theorem substE_none {j : Int} (hj : j < 0) (bb : Ex) : ∀ (d : Nat) (e : Ex), shape d e = true → substE j bb d e = e := by
  intro d
  induction d with
  | zero => intro e h; rfl
  | succ d ih =>
    rintro ⟨k, v, kids⟩ h
    have hr := rootOk_parts (shape_root h)
    simp only [substE]
    rw [if_neg (by omega)]
    congr 1
    rw [List.map_congr_left (g := id) fun x hx => ?_]
    · simp
    · obtain ⟨i, hi, rfl⟩ := List.getElem_of_mem hx
      exact ih _ (shape_kid h (List.getElem?_eq_getElem hi))

/-- What a substitution leaves: the root's slice owns its row. -/
def SubPost (e : Ex) (w : World) (e' : Ending) (w' : World) : Prop :=
  ∃ (k v : Int) (es : List Ex) (A : Option Addr) (n cap : Nat), e = .node k v es ∧ e' = .returned (.agg #[.int .i64 k, .int .i64 v, .slice A n cap]) ∧ Built w' 25 w.heap.size (.slice A n cap) es ∧ Below w.heap.size w w'

theorem SubPost.to {e : Ex} {w : World} {e' : Ending} {w' : World} (h : SubPost e w e' w') : ToPost e w e' w' := by
  obtain ⟨k, v, es, A, n, cap, rfl, rfl, hb, hl⟩ := h
  exact ⟨_, _, _, rfl, hb.own k v, hl⟩

def SubSaid (j : Int) (bb : Ex) (b0 b1 b2 : Value) (d : Nat) : Prop := ∀ (e : Ex) (c0 c1 c2 : Value) (w : World), shape d e = true → Lies w w.heap.size e c0 c1 c2 → Lies w w.heap.size bb b0 b1 b2 →
    Calls Try.prog 43 #[.agg #[c0, c1, c2], .int .i64 j, .agg #[b0, b1, b2]] w (SubPost (substE j bb d e) w)

set_option maxHeartbeats 1000000 in
set_option maxRecDepth 100000 in
theorem sub_any (j : Int) (bb : Ex) (b0 b1 : Int) (B2 : Option Addr) (bn bcap : Nat) (hc : j < 0 ∨ ∀ W : World, Lies W W.heap.size bb (.int .i64 b0) (.int .i64 b1) (.slice B2 bn bcap) → Calls Try.prog 43 #[.agg #[.int .i64 b0, .int .i64 b1, .slice B2 bn bcap], .int .i64 (-1), .agg #[.int .i64 0, .int .i64 0, .slice none 0 0]] W (SubPost bb W)) :
    ∀ d : Nat, SubSaid j bb (.int .i64 b0) (.int .i64 b1) (.slice B2 bn bcap) d := by
  intro d
  induction d with
  | zero => intro e c0 c1 c2 w h; simp [shape] at h
  | succ d ih =>
    rintro ⟨k, v, kids⟩ c0 c1 c2 w hs hL hBy
    obtain ⟨K, cp, kb, ko, C0, C1, C2, rfl, rfl, rfl, hl, hO⟩ := hL.open_
    have HIH := Lib.hid ih
    have HO := Lib.hid hO
    have HBy := Lib.hid hBy
    have HC := Lib.hid hc
    have HK : Hid (∀ (i : Nat) (x : Ex), kids[i]? = some x → shape d x = true) := fun i x hx => shape_kid hs hx
    have hro := rootOk_parts (shape_root hs)
    have hlen : kids.length ≤ 2 := by omega
    have hneg : k = 2 → 0 ≤ v := by omega
    clear ih hL hO hs hl hBy hc hro
    obtain ⟨W3, hW3⟩ : ∃ W3, W3 = ((w.alloc (.cells #[.int .i64 k, .int .i64 v, .slice K kids.length cp] 25)).alloc (.cells #[.int .i64 b0, .int .i64 b1, .slice B2 bn bcap] 25)).alloc (.cells #[.int .i64 0, .int .i64 0, .slice none 0 0] 25) := ⟨_, rfl⟩
    have HW3 := Lib.hid hW3
    have hB3 : Below w.heap.size w W3 := by rw [hW3]; exact (((Below.refl _ _).alloc (Nat.le_refl _) _).alloc (by simp) _).alloc (by simp; omega) _
    have HZ3 : Hid (W3.heap.size = w.heap.size + 3) := by show _ = _; rw [hW3]; simp
    have HRe : Hid (Row W3 w.heap.size 25 #[.int .i64 k, .int .i64 v, .slice K kids.length cp]) := by
      rw [hW3]
      refine ((Row.new w 25 _).under (B := w.heap.size + 1) ?_ (Nat.lt_succ_self _))
      exact ((Below.refl _ _).alloc (by simp) _).alloc (by simp) _
    have HRb : Hid (Row W3 (w.heap.size + 1) 25 #[.int .i64 b0, .int .i64 b1, .slice B2 bn bcap]) := by
      rw [hW3]
      have h := Row.new (w.alloc (.cells #[.int .i64 k, .int .i64 v, .slice K kids.length cp] 25)) 25 #[.int .i64 b0, .int .i64 b1, .slice B2 bn bcap]
      rw [show (w.alloc (.cells #[.int .i64 k, .int .i64 v, .slice K kids.length cp] 25)).heap.size = w.heap.size + 1 by simp] at h
      exact h.under (B := w.heap.size + 2) ((Below.refl _ _).alloc (by simp) _) (by omega)
    have HRr : Hid (Row W3 (w.heap.size + 1 + 1) 25 #[.int .i64 0, .int .i64 0, .slice none 0 0]) := by
      rw [hW3]
      have h := Row.new ((w.alloc (.cells #[.int .i64 k, .int .i64 v, .slice K kids.length cp] 25)).alloc (.cells #[.int .i64 b0, .int .i64 b1, .slice B2 bn bcap] 25)) 25 #[.int .i64 0, .int .i64 0, .slice none 0 0]
      rw [show ((w.alloc (.cells #[.int .i64 k, .int .i64 v, .slice K kids.length cp] 25)).alloc (.cells #[.int .i64 b0, .int .i64 b1, .slice B2 bn bcap] 25)).heap.size = w.heap.size + 1 + 1 by simp] at h
      exact h
    have HB3 := Lib.hid hB3
    have HBy3 := Lib.hid (below_more HBy.out hB3 hB3.size)
    have HO3 := Lib.hid (HO.out.grow hB3 hB3.size)
    clear hW3 hB3
    by_cases hit : k = 2 ∧ v = j
    · obtain ⟨rfl, rfl⟩ := hit
      have hcopy := HC.out.resolve_left (by have := hneg rfl; omega)
      have HCp := Lib.hid hcopy
      have HE : Hid (substE v bb (d + 1) (.node 2 v kids) = bb) := by show _ = _; simp [substE]
      clear hcopy hneg
      go_enter Try.func43, Try.ntmps43
      go_wp2_with fail
      rw [← HW3.out]
      refine (HCp.out _ HBy3.out).mono ?_
      rintro e' w1 ⟨n0, n1, es1, a2, l2, cp2, hbb, rfl, ho1, hb1⟩
      have HBB := Lib.hid hbb
      clear hbb
      have hr := HRr.out.under hb1 HRr.out.lt
      have p0 : w1.cell? ⟨w.heap.size + 1 + 1, 0, none⟩ = some (.int .i64 0) := hr.cell 0
      have p1 : w1.cell? ⟨w.heap.size + 1 + 1, 1, none⟩ = some (.int .i64 0) := hr.cell 1
      have p2 : w1.cell? ⟨w.heap.size + 1 + 1, 2, none⟩ = some (.slice none 0 0) := hr.cell 2
      have z0 := hr.frozen 0
      have z1 := hr.frozen 1
      have z2 := hr.frozen 2
      have HO1 := Lib.hid ho1
      have HB1 := Lib.hid (HB3.out.trans (hb1.mono HB3.out.size))
      clear hr hb1 ho1
      go_wp2_with fail
      refine bodyPost_ret (v := .agg #[.int .i64 n0, .int .i64 n1, .slice a2 l2 cp2]) (by simp [results, Try.results43, go_sem, p0, p1, p2]) rfl ⟨n0, n1, es1, a2, l2, cp2, by rw [HE.out]; exact HBB.out, rfl, ?_, ?_⟩
      · refine (HO1.out.keep (by simp) fun q hq _ => ?_).more (by have := HZ3.out; omega)
        have := HZ3.out
        rw [Below.heap_setCell _ _ _ _ (by simp; omega), Below.heap_setCell _ _ _ _ (by simp; omega), Below.heap_setCell _ _ _ _ (by simp; omega)]
      · exact ((HB1.out.setCell (by simp; omega) _).setCell (by simp; omega) _).setCell (by simp; omega) _
    · have HE : Hid (substE j bb (d + 1) (.node k v kids) = .node k v (kids.map (substE j bb d))) := by show _ = _; simp only [substE]; rw [if_neg hit]
      obtain ⟨i0, hi0, hz0, hz1, hz2⟩ := info_parts Try.info25
      have hor : (k == 2) = false ∨ (k == 2) = true ∧ (v == j) = false := by
        by_cases h2 : k = 2
        · right; exact ⟨by simpa using h2, by simpa using fun e => hit ⟨h2, e⟩⟩
        · left; simpa using h2
      clear hneg hit
      rcases hor with hkb | ⟨hkb, hvb⟩
      all_goals
        (go_enter Try.func43, Try.ntmps43
         go_wp2_with fail
         rw [← HW3.out]
         go_loopw [8] (fun i wl => ∃ (n : Nat) (A : Option Addr) (cap : Nat), n ≤ kids.length ∧ i = .int .i64 n ∧ Hid (Making W3 25 W3.heap.size k v ((kids.take n).map (substE j bb d)) A cap wl)) (fun i _ => kids.length - (intOf i).toNat)
         case atStart => exact ⟨0, none, 0, Nat.zero_le _, rfl, Making.start⟩
         case round =>
           obtain ⟨n, A, cap, hn, rfl, HM⟩ := hrel
           have hle : ((kids.take n).map (substE j bb d)).length = n := by rw [List.length_map, List.length_take]; omega
           have HLe := Lib.hid hle
           have hrow := HM.out.1
           rw [hle, HZ3.out] at hrow
           have hbel : Below (w.heap.size + 3) W3 wr := by rw [← HZ3.out]; exact HM.out.2.2
           have hre := HRe.out.under hbel (by omega)
           have q2 : wr.cell? ⟨w.heap.size, 2, none⟩ = some (.slice K kids.length cp) := hre.cell 2
           by_cases hlt : n < kids.length
           · obtain ⟨x, hx⟩ : ∃ x, kids[n]? = some x := ⟨_, List.getElem?_eq_getElem hlt⟩
             obtain ⟨rfl, hb, g0, g1, g2, gl⟩ := HO3.out.below HM.out.2.2 n x hx
             have hrb := HRb.out.under hbel (by omega)
             have y0 : wr.cell? ⟨w.heap.size + 1, 0, none⟩ = some (.int .i64 b0) := hrb.cell 0
             have y1 : wr.cell? ⟨w.heap.size + 1, 1, none⟩ = some (.int .i64 b1) := hrb.cell 1
             have y2 : wr.cell? ⟨w.heap.size + 1, 2, none⟩ = some (.slice B2 bn bcap) := hrb.cell 2
             have o2 : wr.cell? ⟨w.heap.size + 1 + 1 + 1, 2, none⟩ = some (.slice A n cap) := hrow.cell 2
             have HX := Lib.hid hx
             have hszr : W3.heap.size ≤ wr.heap.size := HM.out.2.2.size
             have HG : Hid (Lies wr.drew wr.drew.heap.size x (C0 n) (C1 n) (C2 n)) := (gl.more hszr).drew
             have HBr : Hid (Lies wr.drew wr.drew.heap.size bb (.int .i64 b0) (.int .i64 b1) (.slice B2 bn bcap)) := (below_more HBy3.out HM.out.2.2 hszr).drew
             have n0 : (0 : Int) ≤ (n : Int) := Int.natCast_nonneg _
             have n1 : (n : Int) < (kids.length : Int) := by omega
             have HMd : Hid (Making W3 25 W3.heap.size k v ((kids.take n).map (substE j bb d)) A cap wr.drew) := HM.out.drew
             clear gl hx hre hrb hrow hle hbel HM
             go_wp2_with fail
             go_region_law (first
               | (refine step_append_lies _ (by rfl) (.tmp 34) (.tmp 43) 23 (by rfl) (W3.heap.size + 1) 25 i0 _ 3 40 Try.underlying23 hi0 hz0 hz1 hz2 rfl (by omega) (.slice A n cap) n xs (by rfl) HXs.out ⟨w1.heap.size, 0, none⟩ 1 1 [.int .i64 m0, .int .i64 m1, .slice m2 ml mc] (by rfl) (by rfl) (World.news_of_block (cs := #[.int .i64 m0, .int .i64 m1, .slice m2 ml mc]) (t := 25) (fr := (0, 0)) (heap_alloc_new w1 _)) (by simp [Value.oneCell']) (by omega) (by unfold maxLen; omega) (by omega) (by have := HZ3.out; simp; omega) (w1.heap.size + 1) (by simp) ?_
                  intro g cap' w2 hown hgrow hat hlt2
                  have hfin := Making.step HMd.out HBe.out HOw.out (by rw [HLe.out]; exact HXs.out) (by rw [HLe.out]; exact hown) (by rw [HLe.out]; exact hgrow) (by rw [HLe.out]; exact hat)
                  have o2' : w2.cell? ⟨w.heap.size + 1 + 1 + 1, 2, none⟩ = some (.slice A n cap) := by have := hfin.1.1; rw [HLe.out, HZ3.out] at this; exact this
                  have o2f : w2.frozen? ⟨w.heap.size + 1 + 1 + 1, 2, none⟩ = false := by have := hfin.1.2; rw [HZ3.out] at this; exact this
                  have HFin := Lib.hid hfin.2
                  clear hfin hown hgrow hat hlt2)
               | (go_simp
                  go_at_call 43
                  refine (HIH.out x _ _ _ _ (HK.out n x HX.out) HG.out HBr.out).mono ?_
                  intro e' w1 hpost
                  obtain ⟨d0, d1, d2, rfl, ho1, hb1⟩ := hpost.to
                  obtain ⟨m0, m1, m2, ml, mc, rfl, rfl, rfl⟩ := ho1.form
                  clear hpost
                  have hbu := HMd.out.2.1.under (hb1.trans ((Below.refl _ _).alloc hb1.size (.cells #[.int .i64 m0, .int .i64 m1, .slice m2 ml mc] 25)))
                  obtain ⟨xs, _, _, _, hxs, _⟩ := hbu
                  rw [HLe.out] at hxs
                  have o2 : w1.cell? ⟨w.heap.size + 1 + 1 + 1, 2, none⟩ = some (.slice A n cap) := by
                    have hr := HMd.out.1.under hb1 HMd.out.1.lt
                    rw [HLe.out, HZ3.out] at hr
                    exact hr.cell 2
                  have HXs := Lib.hid hxs
                  have HBe := Lib.hid hb1
                  have HOw := Lib.hid ho1
                  have hs1 : W3.heap.size ≤ w1.heap.size := Nat.le_trans hszr hb1.size
                  have hs2 : w.heap.size + 1 + 1 + 1 < w1.heap.size := by have h1 := HMd.out.1.lt; have h2 := hb1.size; have h3 := HZ3.out; omega
                  clear hxs hb1 ho1))
             all_goals
               (go_wp2_with fail
                go_roundw
                case rel =>
                  refine ⟨n + 1, some ⟨g, 0, none⟩, cap', by omega, by go_num, ?_⟩
                  have := HFin.out
                  rw [HLe.out, HZ3.out] at this
                  rw [HZ3.out, List.take_succ_eq_append_getElem hlt, List.map_append, (List.getElem?_eq_some_iff.1 HX.out).2]
                  exact this
                case measure => simp [intOf]; omega)
           · have hnn : n = kids.length := by omega
             subst hnn
             have hrr := HRr.out.under hbel (by omega)
             have p0 : wr.cell? ⟨w.heap.size + 1 + 1, 0, none⟩ = some (.int .i64 0) := hrr.cell 0
             have p1 : wr.cell? ⟨w.heap.size + 1 + 1, 1, none⟩ = some (.int .i64 0) := hrr.cell 1
             have p2 : wr.cell? ⟨w.heap.size + 1 + 1, 2, none⟩ = some (.slice none 0 0) := hrr.cell 2
             have z0 := hrr.frozen 0
             have z1 := hrr.frozen 1
             have z2 := hrr.frozen 2
             have o0 : wr.cell? ⟨w.heap.size + 1 + 1 + 1, 0, none⟩ = some (.int .i64 k) := hrow.cell 0
             have o1 : wr.cell? ⟨w.heap.size + 1 + 1 + 1, 1, none⟩ = some (.int .i64 v) := hrow.cell 1
             have o2 : wr.cell? ⟨w.heap.size + 1 + 1 + 1, 2, none⟩ = some (.slice A kids.length cap) := hrow.cell 2
             clear hrr hrow hre hbel hle
             go_wp2_with fail
             refine bodyPost_ret (v := .agg #[.int .i64 k, .int .i64 v, .slice A kids.length cap]) (by simp [results, Try.results43, go_sem, p0, p1, p2]) rfl ⟨k, v, _, A, kids.length, cap, HE.out, rfl, ?_, ?_⟩
             · have hm := HM.out.2.1
               rw [HLe.out, List.take_length] at hm
               refine (hm.keep (by simp) fun q hq _ => ?_).more (by have := HZ3.out; omega)
               have := HZ3.out
               rw [Below.heap_setCell _ _ _ _ (by simp; omega), Below.heap_setCell _ _ _ _ (by simp; omega), Below.heap_setCell _ _ _ _ (by simp; omega)]
             · exact (((HB3.out.trans (HM.out.2.2.mono HB3.out.size)).setCell (by simp; omega) _).setCell (by simp; omega) _).setCell (by simp; omega) _)

end Go.Proofs.Ytkcgjgdcmdjcfaa

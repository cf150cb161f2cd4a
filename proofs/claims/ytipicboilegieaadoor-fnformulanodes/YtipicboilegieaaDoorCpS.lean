/- The walk of spec.l5Copy: a copy of a formula whose rows grow by append. -/
import Derived.Test.YtipicboilegieaaDoorBld
import Derived.Test.YtipicboilegieaaDoorTpF
import Derived.Deep.RegionLaw
namespace Go.Proofs.YtipicboilegieaaDoor
open Go.RowKit

/-- What a copy leaves: the root's slice owns its row. -/
def CpPost (e : Ex) (w : World) (e' : Ending) (w' : World) : Prop :=
  ∃ (k v : Int) (es : List Ex) (A : Option Addr) (n cap : Nat), e = .node k v es ∧ e' = .returned (.agg #[.int .i64 k, .int .i64 v, .slice A n cap]) ∧ Built w' 25 w.heap.size (.slice A n cap) es ∧ Below w.heap.size w w'

theorem CpPost.to {e : Ex} {w : World} {e' : Ending} {w' : World} (h : CpPost e w e' w') : ToPostF e w e' w' := by
  obtain ⟨k, v, es, A, n, cap, rfl, rfl, hb, hl⟩ := h
  exact ⟨_, _, _, rfl, hb.own k v, hl⟩

def CpSaid (e : Ex) : Prop := ∀ (c0 c1 c2 : Value) (w : World), Lies w w.heap.size e c0 c1 c2 → desc e ≤ 1048576 → Calls Tryd.prog 17 #[.agg #[c0, c1, c2]] w (CpPost e w)

set_option maxHeartbeats 1000000 in
set_option maxRecDepth 100000 in
theorem cpS_any : ∀ e : Ex, CpSaid e := by
  intro e
  induction e using Ex.ind with
  | h k v kids ih =>
    intro c0 c1 c2 w hL hd
    obtain ⟨K, cp, kb, ko, C0, C1, C2, rfl, rfl, rfl, hl, hO⟩ := hL.open_
    have HIH := Lib.hid ih
    have HO := Lib.hid hO
    simp only [desc] at hd
    have hlen : kids.length ≤ 1048576 := by have := descL_length kids; omega
    have HD : Hid (∀ (i : Nat) (x : Ex), kids[i]? = some x → desc x ≤ 1048576) := fun i x hx => by have := descL_mem (List.mem_of_getElem? hx); omega
    clear ih hL hO hl hd
    obtain ⟨W3, hW3⟩ : ∃ W3, W3 = (w.alloc (.cells #[.int .i64 k, .int .i64 v, .slice K kids.length cp] 25)).alloc (.cells #[.int .i64 0, .int .i64 0, .slice none 0 0] 25) := ⟨_, rfl⟩
    have HW3 := Lib.hid hW3
    have hrows := two_boxes w 25 #[.int .i64 k, .int .i64 v, .slice K kids.length cp] #[.int .i64 0, .int .i64 0, .slice none 0 0]
    rw [← hW3] at hrows
    obtain ⟨hre, hrr, hB3⟩ := hrows
    have HZ3 : Hid (W3.heap.size = w.heap.size + 2) := by show _ = _; rw [hW3]; simp
    have HRe := Lib.hid hre
    have HRr := Lib.hid hrr
    have HB3 := Lib.hid hB3
    have HO3 := Lib.hid (HO.out.grow hB3 hB3.size)
    clear hW3 hB3 hre hrr
    obtain ⟨i0, hi0, hz0, hz1, hz2⟩ := info_parts Tryd.info25
    go_enter Tryd.func17, Tryd.ntmps17
    go_wp2_with fail
    rw [← HW3.out]
    go_loopw [4] (fun i wl => ∃ (n : Nat) (A : Option Addr) (cap : Nat), n ≤ kids.length ∧ i = .int .i64 n ∧ Hid (Making W3 25 W3.heap.size k v (kids.take n) A cap wl)) (fun i _ => kids.length - (intOf i).toNat)
    case atStart => exact ⟨0, none, 0, Nat.zero_le _, rfl, Making.start⟩
    case round =>
      obtain ⟨n, A, cap, hn, rfl, HM⟩ := hrel
      have hle : (kids.take n).length = n := by rw [List.length_take]; omega
      have HLe := Lib.hid hle
      have hrow := HM.out.1
      rw [hle, HZ3.out] at hrow
      have hbel : Below (w.heap.size + 2) W3 wr := by rw [← HZ3.out]; exact HM.out.2.2
      have hre := HRe.out.under hbel (by omega)
      have q2 : wr.cell? ⟨w.heap.size, 2, none⟩ = some (.slice K kids.length cp) := hre.cell 2
      by_cases hlt : n < kids.length
      · obtain ⟨x, hx⟩ : ∃ x, kids[n]? = some x := ⟨_, List.getElem?_eq_getElem hlt⟩
        obtain ⟨rfl, hb, g0, g1, g2, gl⟩ := HO3.out.below HM.out.2.2 n x hx
        have o2 : wr.cell? ⟨w.heap.size + 1 + 1, 2, none⟩ = some (.slice A n cap) := hrow.cell 2
        have HX := Lib.hid hx
        have hszr : W3.heap.size ≤ wr.heap.size := HM.out.2.2.size
        have HG : Hid (Lies wr.drew wr.drew.heap.size x (C0 n) (C1 n) (C2 n)) := (gl.more hszr).drew
        have n0 : (0 : Int) ≤ (n : Int) := Int.natCast_nonneg _
        have n1 : (n : Int) < (kids.length : Int) := by omega
        have HMd : Hid (Making W3 25 W3.heap.size k v (kids.take n) A cap wr.drew) := HM.out.drew
        clear gl hx hre hrow hle hbel HM
        go_wp2_with fail
        go_region_law (first
          | (refine step_append_lies _ (by rfl) (.tmp 18) (.tmp 25) 23 (by rfl) (W3.heap.size + 1) 25 i0 _ 3 40 Tryd.underlying23 hi0 hz0 hz1 hz2 rfl (by omega) (.slice A n cap) n xs (by rfl) HXs.out ⟨w1.heap.size, 0, none⟩ 1 1 [.int .i64 m0, .int .i64 m1, .slice m2 ml mc] (by rfl) (by rfl) (World.news_of_block (cs := #[.int .i64 m0, .int .i64 m1, .slice m2 ml mc]) (t := 25) (fr := (0, 0)) (heap_alloc_new w1 _)) (by simp [Value.oneCell']) (by omega) (by unfold maxLen; omega) (by omega) (by have := HZ3.out; simp; omega) (w1.heap.size + 1) (by simp) ?_
             intro g cap' w2 hown hgrow hat hlt2
             have hfin := Making.step HMd.out HBe.out HOw.out (by rw [HLe.out]; exact HXs.out) (by rw [HLe.out]; exact hown) (by rw [HLe.out]; exact hgrow) (by rw [HLe.out]; exact hat)
             have o2' : w2.cell? ⟨w.heap.size + 1 + 1, 2, none⟩ = some (.slice A n cap) := by have := hfin.1.1; rw [HLe.out, HZ3.out] at this; exact this
             have o2f : w2.frozen? ⟨w.heap.size + 1 + 1, 2, none⟩ = false := by have := hfin.1.2; rw [HZ3.out] at this; exact this
             have HFin := Lib.hid hfin.2
             clear hfin hown hgrow hat hlt2)
          | (go_simp
             go_at_call 17
             refine (HIH.out n x HX.out _ _ _ _ HG.out (HD.out n x HX.out)).mono ?_
             intro e' w1 hpost
             obtain ⟨d0, d1, d2, rfl, ho1, hb1⟩ := hpost.to
             obtain ⟨m0, m1, m2, ml, mc, rfl, rfl, rfl⟩ := ho1.form
             clear hpost
             have hbu := HMd.out.2.1.under (hb1.trans ((Below.refl _ _).alloc hb1.size (.cells #[.int .i64 m0, .int .i64 m1, .slice m2 ml mc] 25)))
             obtain ⟨xs, _, _, _, hxs, _⟩ := hbu
             rw [HLe.out] at hxs
             have o2 : w1.cell? ⟨w.heap.size + 1 + 1, 2, none⟩ = some (.slice A n cap) := by
               have hr := HMd.out.1.under hb1 HMd.out.1.lt
               rw [HLe.out, HZ3.out] at hr
               exact hr.cell 2
             have HXs := Lib.hid hxs
             have HBe := Lib.hid hb1
             have HOw := Lib.hid ho1
             have hs1 : W3.heap.size ≤ w1.heap.size := Nat.le_trans hszr hb1.size
             have hs2 : w.heap.size + 1 + 1 < w1.heap.size := by have h1 := HMd.out.1.lt; have h2 := hb1.size; have h3 := HZ3.out; omega
             clear hxs hb1 ho1))
        all_goals
          (go_wp2_with fail
           go_roundw
           case rel =>
             refine ⟨n + 1, some ⟨g, 0, none⟩, cap', by omega, by go_num, ?_⟩
             have := HFin.out
             rw [HLe.out, HZ3.out] at this
             rw [HZ3.out, List.take_succ_eq_append_getElem hlt, (List.getElem?_eq_some_iff.1 HX.out).2]
             exact this
           case measure => simp [intOf]; omega)
      · have hnn : n = kids.length := by omega
        subst hnn
        have hrr := HRr.out.under hbel (by omega)
        have p0 : wr.cell? ⟨w.heap.size + 1, 0, none⟩ = some (.int .i64 0) := hrr.cell 0
        have p1 : wr.cell? ⟨w.heap.size + 1, 1, none⟩ = some (.int .i64 0) := hrr.cell 1
        have p2 : wr.cell? ⟨w.heap.size + 1, 2, none⟩ = some (.slice none 0 0) := hrr.cell 2
        have z0 := hrr.frozen 0
        have z1 := hrr.frozen 1
        have z2 := hrr.frozen 2
        have o0 : wr.cell? ⟨w.heap.size + 1 + 1, 0, none⟩ = some (.int .i64 k) := hrow.cell 0
        have o1 : wr.cell? ⟨w.heap.size + 1 + 1, 1, none⟩ = some (.int .i64 v) := hrow.cell 1
        have o2 : wr.cell? ⟨w.heap.size + 1 + 1, 2, none⟩ = some (.slice A kids.length cap) := hrow.cell 2
        clear hrr hrow hre hbel hle
        go_wp2_with fail
        refine bodyPost_ret (v := .agg #[.int .i64 k, .int .i64 v, .slice A kids.length cap]) (by simp [results, Tryd.results17, go_sem, p0, p1, p2]) rfl ⟨k, v, _, A, kids.length, cap, rfl, rfl, ?_, ?_⟩
        · have hm := HM.out.2.1
          rw [HLe.out, List.take_length] at hm
          refine (hm.keep (by simp) fun q hq _ => ?_).more (by have := HZ3.out; omega)
          have := HZ3.out
          rw [Below.heap_setCell _ _ _ _ (by simp; omega), Below.heap_setCell _ _ _ _ (by simp; omega), Below.heap_setCell _ _ _ _ (by simp; omega)]
        · exact (((HB3.out.trans (HM.out.2.2.mono HB3.out.size)).setCell (by simp) _).setCell (by simp) _).setCell (by simp) _

end Go.Proofs.YtipicboilegieaaDoor

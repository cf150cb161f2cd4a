/- The walk of impl.sameTrees at formulas. -/
import Derived.Test.YtgdhmdhbpakahaaSmU
import Derived.Test.YtgdhmdhbpakahaaSmL
import Derived.Test.YtgdhmdhbpakahaaCl0
import Derived.Test.YtgdhmdhbpakahaaNgP
import Derived.Deep.RegionHeld3
import Derived.Deep.RegionWith
import Derived.Deep.Cut
import Derived.Deep.CutRange
import Derived.Deep.LoopGhost
namespace Go.Proofs.Ytgdhmdhbpakahaa
open Go.RowKit

/-- The stack at the loop's start, as a relation of its number. -/
def OutR (R : Bool) (w0 : World) (B m : Nat) (gk : Nat) (v : Value) (wl : World) : Prop :=
  ∃ (en : List Ent) (g cap L : Nat) (es : Array MapEntry) (clock : Nat), v = .slice (some ⟨g, 0, none⟩) L cap ∧ Hid (L = en.length) ∧ Hid (tot en = gk) ∧ gk ≤ 1048580 ∧ Hid (StE w0 B m wl en v es clock) ∧ Hid (R = en.all entOk)

theorem StE.caps {w0 w : World} {B m : Nat} {en : List Ent} {g L cap : Nat} {es : Array MapEntry} {clock : Nat} (h : StE w0 B m w en (.slice (some ⟨g, 0, none⟩) L cap) es clock) (hL : L = en.length) : L ≤ cap ∧ cap ≤ maxLen ∧ g < w.heap.size := by
  rcases h.own.2 with ⟨h3, _⟩ | ⟨g', cap', cur, hv, q1, q2, q3, q4, q5, q6⟩
  · cases h3
  · injection hv with e1 e2 e3
    subst e3
    exact ⟨by omega, q4, (h.own.lt g rfl).2⟩

set_option maxHeartbeats 2000000 in
set_option maxRecDepth 100000 in
theorem sameT_any (a b : Ex) (c0 c1 c2 d0 d1 d2 : Value) (lo : Nat) (w : World) (hA : SepF w lo w.heap.size a c0 c1 c2) (hB : Lies w w.heap.size b d0 d1 d2) (hlo : lo ≤ w.heap.size) (hda : desc a ≤ 1048576) :
    Calls Try.prog 32 #[.agg #[c0, c1, c2], .agg #[d0, d1, d2]] w fun e' w' => e' = .returned (.bool (sameE a b)) ∧ Below w.heap.size w w' := by
  obtain ⟨n0, n1, a2, l2, cp2, rfl, rfl, rfl⟩ := hA.form
  obtain ⟨m0, m1, b2, k2, cq2, rfl, rfl, rfl⟩ := hB.form
  obtain ⟨s, hs⟩ : ∃ s, s = w.heap.size := ⟨_, rfl⟩
  obtain ⟨W4, hW4⟩ : ∃ W4, W4 = (((w.alloc (.cells #[.int .i64 n0, .int .i64 n1, .slice a2 l2 cp2] 42)).alloc (.cells #[.int .i64 m0, .int .i64 m1, .slice b2 k2 cq2] 42)).alloc (.cells #[.int .i64 n0, .int .i64 n1, .slice a2 l2 cp2] 42)).alloc (.cells #[.int .i64 m0, .int .i64 m1, .slice b2 k2 cq2] 42) := ⟨_, rfl⟩
  obtain ⟨W6, hW6⟩ : ∃ W6, W6 = (W4.alloc (.cells #[.slice (some ⟨s + 2, 0, none⟩) 1 1, .slice (some ⟨s + 3, 0, none⟩) 1 1] 70)).alloc (.map #[] 0) := ⟨_, rfl⟩
  have h4 : W4.heap.size = s + 4 := by rw [hW4, hs]; simp
  have hra : Row W4 (s + 2) 42 #[.int .i64 n0, .int .i64 n1, .slice a2 l2 cp2] := by
    rw [hW4, hs]
    have := Row.new ((w.alloc (.cells #[.int .i64 n0, .int .i64 n1, .slice a2 l2 cp2] 42)).alloc (.cells #[.int .i64 m0, .int .i64 m1, .slice b2 k2 cq2] 42)) 42 #[.int .i64 n0, .int .i64 n1, .slice a2 l2 cp2]
    have h2 := this.under ((Below.refl _ _).alloc (Nat.le_refl _) (.cells #[.int .i64 m0, .int .i64 m1, .slice b2 k2 cq2] 42)) this.lt
    simpa using h2
  have hrb : Row W4 (s + 3) 42 #[.int .i64 m0, .int .i64 m1, .slice b2 k2 cq2] := by
    rw [hW4, hs]
    have := Row.new (((w.alloc (.cells #[.int .i64 n0, .int .i64 n1, .slice a2 l2 cp2] 42)).alloc (.cells #[.int .i64 m0, .int .i64 m1, .slice b2 k2 cq2] 42)).alloc (.cells #[.int .i64 n0, .int .i64 n1, .slice a2 l2 cp2] 42)) 42 #[.int .i64 m0, .int .i64 m1, .slice b2 k2 cq2]
    simpa using this
  have hb4 : Below w.heap.size w W4 := by
    rw [hW4]
    exact ((((Below.refl _ _).alloc (Nat.le_refl _) _).alloc (by simp) _).alloc (by simp; omega) _).alloc (by simp; omega) _
  have hb6 : Below W4.heap.size W4 W6 := by
    rw [hW6]
    exact ((Below.refl _ _).alloc (Nat.le_refl _) _).alloc (by simp) _
  have hSA : SepF W4 lo W4.heap.size (.node 0 0 [a]) (.int .i64 0) (.int .i64 0) (.slice (some ⟨s + 2, 0, none⟩) 1 1) := ((hA.under hb4 (Nat.le_refl _)).more (Nat.le_refl _) (by omega)).above (by omega) hra 0 0 1
  have hLB : Lies W4 W4.heap.size (.node 0 0 [b]) (.int .i64 0) (.int .i64 0) (.slice (some ⟨s + 3, 0, none⟩) 1 1) := by
    refine .mk 0 0 [b] _ 1 (s + 3) 0 (fun _ => .int .i64 m0) (fun _ => .int .i64 m1) (fun _ => .slice b2 k2 cq2) (by unfold maxLen; simp) (fun i x hx => ⟨rfl, by omega⟩) (fun i x hx => ?_) (fun i x hx => ?_) (fun i x hx => ?_) (fun i x hx => ?_)
    all_goals
      (obtain rfl : i = 0 := by have := (List.getElem?_eq_some_iff.1 hx).1; simpa using this)
    · exact hrb.cell 0
    · exact hrb.cell 1
    · exact hrb.cell 2
    · obtain rfl : b = x := by simpa using hx
      exact below_more hB hb4 hb4.size
  have hrw : Row W6 (s + 4) 70 #[.slice (some ⟨s + 2, 0, none⟩) 1 1, .slice (some ⟨s + 3, 0, none⟩) 1 1] := by
    rw [hW6]
    have h1 : Row (W4.alloc (.cells #[.slice (some ⟨s + 2, 0, none⟩) 1 1, .slice (some ⟨s + 3, 0, none⟩) 1 1] 70)) W4.heap.size 70 #[.slice (some ⟨s + 2, 0, none⟩) 1 1, .slice (some ⟨s + 3, 0, none⟩) 1 1] := Row.new _ _ _
    rw [h4] at h1
    exact h1.under ((Below.refl _ _).alloc (Nat.le_refl _) _) (by simp; omega)
  have hmap : W6.heap[s + 5]? = some (.map #[] 0) := by
    rw [hW6]
    have := heap_alloc_new (W4.alloc (.cells #[.slice (some ⟨s + 2, 0, none⟩) 1 1, .slice (some ⟨s + 3, 0, none⟩) 1 1] 70)) (.map #[] 0)
    rw [show (W4.alloc (.cells #[.slice (some ⟨s + 2, 0, none⟩) 1 1, .slice (some ⟨s + 3, 0, none⟩) 1 1] 70)).heap.size = s + 5 by simp; omega] at this
    exact this
  have hSt : OutR (sameE a b) W4 (s + 4) (s + 5) (1 + (1 + desc a)) (.slice (some ⟨s + 4, 0, none⟩) 1 1) W6 := by
    refine ⟨[⟨.node 0 0 [a], .node 0 0 [b], .slice (some ⟨s + 2, 0, none⟩) 1 1, .slice (some ⟨s + 3, 0, none⟩) 1 1, lo, s + 4⟩], s + 4, 1, 1, #[], 0, rfl, rfl, ?_, by omega, ?_, ?_⟩
    · show _ = _; simp [tot, desc, descL]
    · rw [h4] at hSA hLB hb6
      refine ⟨hb6, ⟨rfl, .inr ⟨s + 4, 1, _, rfl, Nat.le_refl _, hrw, Nat.le_refl _, by unfold maxLen; omega, rfl, rfl⟩⟩, ⟨s + 4, 1, rfl, by omega⟩, hmap, by omega, ⟨fun e he => ?_, fun e he => ?_, fun e he => ?_, by simp⟩, fun x hx => by simp at hx⟩
      · obtain rfl := List.mem_singleton.1 he; exact ⟨_, _, hSA⟩
      · obtain rfl := List.mem_singleton.1 he; exact ⟨_, _, hLB⟩
      · obtain rfl := List.mem_singleton.1 he; exact Nat.le_refl _
    · show _ = _; simp [entOk, kidsE, sameL]
  have HSt := Lib.hid hSt
  have HB4 := Lib.hid hb4
  have HW4 := Lib.hid hW4
  have HW6 := Lib.hid hW6
  have HS4 := Lib.hid h4
  obtain ⟨R, hR⟩ : ∃ R, R = sameE a b := ⟨_, rfl⟩
  rw [← hR] at HSt ⊢
  have HRr := Lib.hid hR
  obtain ⟨k0, hk0⟩ : ∃ k0, k0 = 1 + (1 + desc a) := ⟨_, rfl⟩
  rw [← hk0] at HSt
  have hmk : ∀ W : World, (Instr.makeMap 72 none).run Try.prog W = .ok (.map (some W.heap.size)) (W.alloc (.map #[] 0)) := fun W => by kernel_rfl
  clear hA hB hW4 hW6 h4 hra hrb hb4 hb6 hSA hLB hrw hmap hSt hR hk0 hda hlo
  subst hs
  go_enter Try.func32, Try.ntmps32
  go_wp2_with fail
  rw [← HW4.out]
  obtain ⟨B, hBB⟩ : ∃ B, B = w.heap.size + 4 := ⟨_, rfl⟩
  go_loopg [5] k0 (fun gk v wl => OutR R W4 (w.heap.size + 4) (w.heap.size + 5) gk v wl)
  case atStart => have h := HSt.out; rw [HW6.out] at h; exact h
  case round =>
    clear hBB HSt HW6 HW4 hmk
    obtain ⟨en, g, cap, L, es, clock, rfl, HL, HT, hgk, HE, HRv⟩ := hrel
    by_cases hpos : 0 < L
    · obtain ⟨rest, e, hen⟩ : ∃ rest e, en = rest ++ [e] := by
        rcases List.eq_nil_or_concat en with h | ⟨r, e, h⟩
        · have := HL.out; rw [h] at this; simp at this; omega
        · exact ⟨r, e, by rw [h, List.concat_eq_append]⟩
      subst hen
      obtain ⟨n, hn⟩ : ∃ n, n = rest.length := ⟨_, rfl⟩
      obtain rfl : L = n + 1 := by have := HL.out; rw [List.length_append] at this; simp at this; omega
      have hE := HE.out
      obtain ⟨hc1, hc2, hgl⟩ := hE.caps HL.out
      unfold maxLen at hc2
      have hlast := hE
      rw [HL.out] at hlast
      obtain ⟨l0, l1, _⟩ := hlast.last
      rw [← hn] at l0 l1
      have HPop := Lib.hid hlast.pop
      obtain ⟨k, v, la, k', v', lb, A, ca, A', cb, hx, hy, hV, hU⟩ := ent_form hE.pend (e := e) (by simp)
      rw [hV] at l0
      rw [hU] at l1
      have HX := Lib.hid hx
      have HY := Lib.hid hy
      have HVv := Lib.hid hV
      have HUv := Lib.hid hU
      have HN := Lib.hid hn
      have hmlt := hE.lt
      have hla : la.length ≤ 1048580 := by
        have h1 := HT.out
        rw [tot_append] at h1
        simp only [tot, hx, desc] at h1
        have := descL_length la
        omega
      have hnn : n + 1 ≤ 1048580 := by
        have h1 := HT.out
        have h2 := tot_len (rest ++ [e])
        have h3 := HL.out
        omega
      have HEnt : Hid ((rest ++ [e]).all entOk = (rest.all entOk && sameL la lb)) := by show _ = _; simp [entOk, kidsE, hx, hy]
      clear hE hlast hx hy hV hU hn
      by_cases hlen : la.length = lb.length
      case neg =>
        have t1 : ((la.length : Int) != (lb.length : Int)) = true := by rw [bne_iff_ne]; omega
        have t2 : ((la.length : Int) == (lb.length : Int)) = false := by rw [beq_eq_false_iff_ne]; omega
        have HF : Hid (R = false) := by show _ = _; rw [HRv.out, HEnt.out, sameL_ne hlen]; simp
        have HB5 := Lib.hid (HE.out.below)
        go_wp2_with fail
        go_ret
        exact ⟨ret_bool HF.out.symm, HB4.out.trans ((HB5.out.alloc (by have := HE.out.below.size; have := HS4.out; omega) _).mono (by have := HS4.out; omega))⟩
      obtain ⟨N, hN⟩ : ∃ N, N = la.length := ⟨_, rfl⟩
      have hN' : lb.length = N := by omega
      rw [← hN] at l0
      rw [hN'] at l1
      have HLen := Lib.hid hlen
      have HNa := Lib.hid hN
      have HNb := Lib.hid hN'
      rw [← hN] at hla
      clear hlen hN'
      by_cases hz : N = 0
      · subst hz
        have HF : Hid (R = rest.all entOk) := by
          show _ = _
          have e1 : la = [] := List.length_eq_zero_iff.1 hN.symm
          have e2 : lb = [] := List.length_eq_zero_iff.1 HNb.out
          rw [HRv.out, HEnt.out, e1, e2]; simp [sameL]
        have hTT := HT.out
        rw [tot_append] at hTT
        simp only [tot] at hTT
        clear hN
        go_wp2_with fail
        go_roundg (tot rest)
        case rel => exact ⟨rest, g, cap, n, es, clock, rfl, HN, rfl, by omega, by rw [← HN.out] at HPop; exact HPop.out.later ((Below.refl _ _).alloc (Nat.le_refl _) _), HF⟩
        case measure => omega
      · have t3 : ((N : Int) == 0) = false := by rw [beq_eq_false_iff_ne]; omega
        obtain ⟨gr, cs, C0, C1, C2, D0, D1, D2, s, ca', cb', b, off, hV, hU, hgB, hbB, hgin, hrow, hkid, hO, hlm, hpend, hout, hrest⟩ := ent_kids HE.out.pend HX.out HY.out HLen.out (by omega)
        rw [HVv.out] at hV
        rw [HUv.out] at hU
        injection hV with hV1 hV2 hV3
        injection hU with hU1 hU2 hU3
        subst hV1 hU1 hV3 hU3
        have hN0 : (0 : Int) < (N : Int) := by omega
        have HHrow := Lib.hid hrow
        have HHkid := Lib.hid hkid
        have HHO := Lib.hid hO
        have HPend := Lib.hid hpend
        have HOut := Lib.hid hout
        have HRest := Lib.hid hrest
        have hS4 := HS4.out
        have hwlt : w.heap.size + 4 ≤ wr.heap.size := by have := HE.out.below.size; omega
        clear hrow hkid hO hpend hout hrest hU2 hlm hN
        go_upto_region 9 with fail
        obtain ⟨W7, hW7⟩ : ∃ W7, W7 = wr.alloc (.cells #[.slice (some ⟨gr, 0, none⟩) N ca, .slice (some ⟨b, off, none⟩) N cb] 70) := ⟨_, rfl⟩
        have hb7 : Below wr.heap.size wr W7 := by rw [hW7]; exact (Below.refl _ _).alloc (Nat.le_refl _) _
        have hr7 : Row W7 wr.heap.size 70 #[.slice (some ⟨gr, 0, none⟩) N ca, .slice (some ⟨b, off, none⟩) N cb] := by rw [hW7]; exact Row.new _ _ _
        have h7 : W7.heap.size = wr.heap.size + 1 := by rw [hW7]; simp
        have v0 : W7.cell? ⟨wr.heap.size, 0, none⟩ = some (.slice (some ⟨gr, 0, none⟩) N ca) := hr7.cell 0
        have v1 : W7.cell? ⟨wr.heap.size, 1, none⟩ = some (.slice (some ⟨b, off, none⟩) N cb) := hr7.cell 1
        have hne7 : ¬ wr.heap.size = W7.heap.size := by omega
        have hne7' : ¬ W7.heap.size = wr.heap.size := by omega
        have hlt7 : wr.heap.size < W7.heap.size := by omega
        have hN0n : 0 < N := by omega
        have HR7 := Lib.hid hr7
        have HB7 := Lib.hid hb7
        have HW7 := Lib.hid hW7
        have HH7 := Lib.hid h7
        rw [← hW7]
        clear hW7 hb7 hr7 h7
        go_region
        obtain ⟨W8, hW8⟩ : ∃ W8, W8 = (W7.alloc (.cells #[.pointer (some ⟨gr, 0, none⟩), .pointer (some ⟨b, off, none⟩), .int .i64 N] 75)).drew := ⟨_, rfl⟩
        have hb8 : Below wr.heap.size wr W8 := by rw [hW8]; exact HB7.out.trans (((Below.refl _ _).alloc (Nat.le_refl _) _).drew.mono HB7.out.size)
        have hb78 : Below W7.heap.size W7 W8 := by rw [hW8]; exact ((Below.refl _ _).alloc (Nat.le_refl _) _).drew
        have hr8 : Row W8 W7.heap.size 75 #[.pointer (some ⟨gr, 0, none⟩), .pointer (some ⟨b, off, none⟩), .int .i64 N] := by rw [hW8]; exact (show Row (W7.alloc _) _ _ _ from Row.new _ _ _)
        have HSt8 := Lib.hid (HPop.out.later hb8)
        have hrow8 : Row W8 gr 42 cs := HHrow.out.under HSt8.out.below (by omega)
        have hseen : ∀ x ∈ es.toList, ∃ q r m, x.key = placeV q r m ∧ (∃ t cs, Row W8 q t cs) ∧ gr ≠ q := fun x hx => by
          obtain ⟨q, r, m, h1, h2, ⟨t, cs', h3⟩, h4⟩ := HE.out.seen x hx
          refine ⟨q, r, m, h1, ⟨t, cs', h3.under HSt8.out.below h2⟩, fun e1 => ?_⟩
          have := h4 e (by simp)
          omega
        have hlook : (Instr.lookup 72 (.map (some (w.heap.size + 1 + 1 + 1 + 1 + 1))) (.agg #[.pointer (some ⟨gr, 0, none⟩), .pointer (some ⟨b, off, none⟩), .int .i64 N]) false).run Try.prog W8 = .ok (.bool false) W8 := lookup_none (HSt8.out.map) hrow8 hseen
        obtain ⟨W9, hW9⟩ : ∃ W9, W9 = putMp W8 (w.heap.size + 5) (.map (es.push ⟨placeV gr ⟨b, off, none⟩ N, .bool true, clock⟩) (clock + 1)) := ⟨_, rfl⟩
        have hupd : (Instr.mapUpdate 72 (.map (some (w.heap.size + 1 + 1 + 1 + 1 + 1))) (.agg #[.pointer (some ⟨gr, 0, none⟩), .pointer (some ⟨b, off, none⟩), .int .i64 N]) (.bool true)).run Try.prog W8 = .ok () W9 := by rw [hW9]; exact update_new (HSt8.out.map) hrow8 hseen (.bool true)
        have HSt9 : Hid (StE W4 (w.heap.size + 4) (w.heap.size + 5) W9 rest (.slice (some ⟨g, 0, none⟩) rest.length cap) (es.push ⟨placeV gr ⟨b, off, none⟩ N, .bool true, clock⟩) (clock + 1)) := by
          show StE _ _ _ _ _ _ _ _
          rw [hW9]
          exact HSt8.out.put hgB ⟨_, _, HHrow.out⟩ HRest.out (.bool true)
        have hk9 : ∀ q, q ≠ w.heap.size + 5 → W9.heap[q]? = W8.heap[q]? := fun q hq => by
          rw [hW9]
          simp only [putMp, Array.getElem?_setIfInBounds, if_neg (fun e1 : w.heap.size + 5 = q => hq e1.symm)]
        have hm8 : w.heap.size + 5 < wr.heap.size := hmlt
        have HR79 : Hid (Row W9 wr.heap.size 70 #[.slice (some ⟨gr, 0, none⟩) N ca, .slice (some ⟨b, off, none⟩) N cb]) := (hk9 _ (by omega)).trans (HR7.out.under hb78 HR7.out.lt)
        have h9s : W9.heap.size = W8.heap.size := by rw [hW9]; simp [putMp]
        have hHs8 : wr.heap.size < W8.heap.size := by have := hb78.size; omega
        obtain ⟨k8a, k8b, k8c⟩ : W8.cell? ⟨W7.heap.size, 0, none⟩ = some (.pointer (some ⟨gr, 0, none⟩)) ∧ W8.cell? ⟨W7.heap.size, 1, none⟩ = some (.pointer (some ⟨b, off, none⟩)) ∧ W8.cell? ⟨W7.heap.size, 2, none⟩ = some (.int .i64 N) := ⟨hr8.cell 0, hr8.cell 1, hr8.cell 2⟩
        have v09 : W9.cell? ⟨wr.heap.size, 0, none⟩ = some (.slice (some ⟨gr, 0, none⟩) N ca) := HR79.out.cell 0
        have HSeen9 : Hid (∀ x ∈ (es.push ⟨placeV gr ⟨b, off, none⟩ N, .bool true, clock⟩ : Array MapEntry).toList, ∀ q r m, x.key = placeV q r m → ∀ i, i < la.length → q < s i ∨ s (i + 1) ≤ q) := fun x hx q r m hk i hi => by
          simp only [Array.toList_push, List.mem_append, List.mem_singleton] at hx
          rcases hx with hx | rfl
          · obtain ⟨q', r', m', h1, _, _, h4⟩ := HE.out.seen x hx
            have hq : q = q' := by
              rw [h1] at hk
              simp only [placeV, Value.agg.injEq] at hk
              injection hk with hk
              injection hk with hk _
              injection hk with hk
              injection hk with hk
              injection hk with hk
              exact hk.symm
            subst hq
            have := h4 e (by simp)
            exact HOut.out q (by omega) i hi
          · have hq : gr = q := by
              simp only [placeV, Value.agg.injEq] at hk
              injection hk with hk
              injection hk with hk _
              injection hk with hk
              injection hk with hk
              injection hk with hk
            subst hq
            exact HOut.out gr (.inr (.inr rfl)) i hi
        have HWs : Hid (W9.heap.size = W8.heap.size ∧ wr.heap.size < W8.heap.size ∧ w.heap.size + 5 < wr.heap.size ∧ gr < w.heap.size + 4 ∧ b < w.heap.size + 4 ∧ g ≠ wr.heap.size) := ⟨h9s, hHs8, hm8, hgB, hbB, by omega⟩
        have HTot : Hid (tot rest + (1 + desc e.x) = gk) := by have := HT.out; rw [tot_append] at this; show _ = _; simp only [tot] at this; omega
        rw [← hW8]
        have HXe := HX
        obtain ⟨wo, hwo⟩ : ∃ wo, wo = wr := ⟨_, rfl⟩
        subst hwo
        obtain ⟨es9, hes9⟩ : ∃ es9 : Array MapEntry, es9 = es.push ⟨placeV gr ⟨b, off, none⟩ N, .bool true, clock⟩ := ⟨_, rfl⟩
        rw [← hes9] at HSt9 HSeen9
        clear hW8 hb8 hb78 hr8 HSt8 hrow8 hseen hW9 hk9 hm8 h9s hHs8 HR7 HB7 HW7 HH7 hne7 hne7' hlt7 v0 v1 HPop HE hgin HOut HRest hes9 l0 l1 hwlt hmlt
        go_wp2_with fail
        go_loopw [5, 62] (fun vv ii wl => ∃ (j g' cap' L' : Nat), j ≤ N ∧ ii = .int .i64 j ∧ vv = .slice (some ⟨g', 0, none⟩) L' cap' ∧ Hid (L' = (rest ++ news la lb C2 D2 s j).length) ∧ Hid (g' ≠ wo.heap.size) ∧ Hid (StE W4 (w.heap.size + 4) (w.heap.size + 5) wl (rest ++ news la lb C2 D2 s j) (.slice (some ⟨g', 0, none⟩) L' cap') es9 (clock + 1)) ∧ Hid (Row wl wo.heap.size 70 #[.slice (some ⟨gr, 0, none⟩) N ca, .slice (some ⟨b, off, none⟩) N cb]) ∧ Hid (R = (rest.all entOk && ((news la lb C2 D2 s j).all entOk && ((la.zip lb).drop j).all (fun p => sameE p.1 p.2))))) (fun _ ii _ => N - (intOf ii).toNat)
        case atStart =>
          refine ⟨0, g, cap, n, Nat.zero_le _, rfl, rfl, ?_, HWs.out.2.2.2.2.2, ?_, HR79, ?_⟩
          · show _ = _; simp [news, HN.out]
          · have h := HSt9.out
            rw [← HN.out] at h
            show StE _ _ _ _ _ _ _ _
            simpa [news] using h
          · show _ = _
            rw [HRv.out, HEnt.out, sameL_zip HLen.out]
            simp [news]
        case round =>
          clear HSt9 HR79 v09 k8a k8b k8c hlook hupd
          obtain ⟨j, g', cap', L', hj, rfl, rfl, HL', Hg', HS, HR7, HRj⟩ := hrel
          have v0 : wr.cell? ⟨wo.heap.size, 0, none⟩ = some (.slice (some ⟨gr, 0, none⟩) N ca) := HR7.out.cell 0
          have v1 : wr.cell? ⟨wo.heap.size, 1, none⟩ = some (.slice (some ⟨b, off, none⟩) N cb) := HR7.out.cell 1
          have hwor : wo.heap.size < wr.heap.size := HR7.out.lt
          by_cases hlt : j < N
          · obtain ⟨x, hx⟩ : ∃ x, la[j]? = some x := ⟨_, List.getElem?_eq_getElem (by have := HNa.out; omega)⟩
            obtain ⟨y, hy⟩ : ∃ y, lb[j]? = some y := ⟨_, List.getElem?_eq_getElem (by have := HNb.out; omega)⟩
            obtain ⟨q0, q1, q2, hsx⟩ := HHkid.out j x hx
            obtain ⟨_, _, f0, f1, f2, hly⟩ := HHO.out j y hy
            obtain ⟨kx, vx, ksx, Ax, cx, rfl, e0, e1, e2⟩ := sep_form hsx
            obtain ⟨ky, vy, ksy, Ay, cy, rfl, e3, e4, e5⟩ := lies_form hly
            rw [e0] at q0
            rw [e1] at q1
            rw [e2] at q2
            rw [e3] at f0
            rw [e4] at f1
            rw [e5] at f2
            have hbel := HS.out.below
            have hgB4 : gr < w.heap.size + 4 := HWs.out.2.2.2.1
            have hbB4 : b < w.heap.size + 4 := HWs.out.2.2.2.2.1
            have hrwr : Row wr gr 42 cs := HHrow.out.under hbel hgB4
            have a0 : wr.cell? ⟨gr, j * 3, none⟩ = some (.int .i64 kx) := (hrwr.cell _).trans q0
            have a1 : wr.cell? ⟨gr, j * 3 + 1, none⟩ = some (.int .i64 vx) := (hrwr.cell _).trans q1
            have a2 : wr.cell? ⟨gr, j * 3 + 2, none⟩ = some (.slice Ax ksx.length cx) := (hrwr.cell _).trans q2
            have b0 : wr.cell? ⟨b, off + j * 3, none⟩ = some (.int .i64 ky) := (hbel.cell (p := ⟨b, _, none⟩) hbB4).trans f0
            have b1 : wr.cell? ⟨b, off + j * 3 + 1, none⟩ = some (.int .i64 vy) := (hbel.cell (p := ⟨b, _, none⟩) hbB4).trans f1
            have b2 : wr.cell? ⟨b, off + j * 3 + 2, none⟩ = some (.slice Ay ksy.length cy) := (hbel.cell (p := ⟨b, _, none⟩) hbB4).trans f2
            have hjN : (j : Int) < (N : Int) := by omega
            have hgwr : gr < wr.heap.size := hrwr.lt
            have hbwr : b < wr.heap.size := by have := HWs.out; omega
            have HX0 := HXe
            have HX := Lib.hid hx
            have HY := Lib.hid hy
            have He2 := Lib.hid e2
            have He5 := Lib.hid e5
            obtain ⟨W10, hW10⟩ : ∃ W10, W10 = (wr.alloc (.cells #[.int .i64 kx, .int .i64 vx, .slice Ax ksx.length cx] 42)).alloc (.cells #[.int .i64 ky, .int .i64 vy, .slice Ay ksy.length cy] 42) := ⟨_, rfl⟩
            have hrows := two_boxes wr 42 #[.int .i64 kx, .int .i64 vx, .slice Ax ksx.length cx] #[.int .i64 ky, .int .i64 vy, .slice Ay ksy.length cy]
            rw [← hW10] at hrows
            obtain ⟨hrx, hry, hb10⟩ := hrows
            have HRx := Lib.hid hrx
            have HRy := Lib.hid hry
            have HB10 := Lib.hid hb10
            have HW10 := Lib.hid hW10
            have HCs : Hid (∀ W, Below W10.heap.size W10 W → W.cell? ⟨wr.heap.size, 0, none⟩ = some (.int .i64 kx) ∧ W.cell? ⟨wr.heap.size, 1, none⟩ = some (.int .i64 vx) ∧ W.cell? ⟨wr.heap.size, 2, none⟩ = some (.slice Ax ksx.length cx) ∧ W.cell? ⟨wr.heap.size + 1, 0, none⟩ = some (.int .i64 ky) ∧ W.cell? ⟨wr.heap.size + 1, 1, none⟩ = some (.int .i64 vy) ∧ W.cell? ⟨wr.heap.size + 1, 2, none⟩ = some (.slice Ay ksy.length cy)) := fun W hW => by
              have h1 := HRx.out.under hW HRx.out.lt
              have h2 := HRy.out.under hW HRy.out.lt
              exact ⟨h1.cell 0, h1.cell 1, h1.cell 2, h2.cell 0, h2.cell 1, h2.cell 2⟩
            have hS10 := HCs.out W10.drew (Below.refl _ _).drew
            have HZ := Lib.hid (zip_get hx hy)
            clear q0 q1 q2 f0 f1 f2 e0 e1 e2 e3 e4 e5 hsx hly hx hy hbel hrwr hrx hry hb10 hW10
            go_upto_region 16 with fail
            rw [← HW10.out]
            have hml := label_method
            have hmo := operands_method
            have hel := label_enter
            have heo := operands_enter
            by_cases hlab : kx = ky ∧ vx = vy
            case neg =>
              have hleq : ∀ W : World, (Op.equalIn 10000 76 (.agg #[.int .i64 kx, .int .i64 vx]) (.agg #[.int .i64 ky, .int .i64 vy])).run Try.prog W = .ok false W := fun W => by
                rw [label_eq]
                have : (kx == ky && vx == vy) = false := by
                  rw [Bool.and_eq_false_iff, beq_eq_false_iff_ne, beq_eq_false_iff_ne]
                  by_cases h1 : kx = ky
                  · exact .inr fun h2 => hlab ⟨h1, h2⟩
                  · exact .inl h1
                rw [this]
              have HF : Hid (R = false) := by
                show _ = _
                have hs : sameE (.node kx vx ksx) (.node ky vy ksy) = false := by
                  by_cases h1 : kx = ky
                  · exact sameE_value fun h2 => hlab ⟨h1, h2⟩
                  · exact sameE_kind h1
                have hd : ((la.zip lb).drop j)[0]? = some (.node kx vx ksx, .node ky vy ksy) := by rw [List.getElem?_drop]; exact HZ.out
                rw [HRj.out, allp_false_of hd hs]; simp
              clear hlab
              go_region_held3 (fun w' => w'.cell? ⟨wr.heap.size, 0, none⟩ = some (.int .i64 kx) ∧ w'.cell? ⟨wr.heap.size, 1, none⟩ = some (.int .i64 vx) ∧ w'.cell? ⟨wr.heap.size, 2, none⟩ = some (.slice Ax ksx.length cx) ∧ w'.cell? ⟨wr.heap.size + 1, 0, none⟩ = some (.int .i64 ky) ∧ w'.cell? ⟨wr.heap.size + 1, 1, none⟩ = some (.int .i64 vy) ∧ w'.cell? ⟨wr.heap.size + 1, 2, none⟩ = some (.slice Ay ksy.length cy)) (first | assumption | (go_keep; done)) (first
                | (go_at_call 55
                   with_reducible refine (labelF_any kx vx Ax ksx.length cx _).mono ?_
                   rintro e' w11 ⟨rfl, hb11⟩
                   have HB11 : Hid (Below W10.heap.size W10 w11) := (Below.refl _ _).drew.trans hb11
                   have hS11 := HCs.out w11 HB11.out
                   clear hb11)
                | (go_at_call 55
                   with_reducible refine (labelF_any ky vy Ay ksy.length cy _).mono ?_
                   rintro e' w12 ⟨rfl, hb12⟩
                   have HB12 : Hid (Below W10.heap.size W10 w12) := HB11.out.trans (hb12.mono HB11.out.size)
                   have hS12 := HCs.out w12 HB12.out
                   clear hb12))
              all_goals
                (have HBe : Hid (Below w.heap.size w w12) := by
                   have h1 := HS.out.below
                   have h2 := HS4.out
                   have h3 := HWs.out
                   exact HB4.out.trans (((h1.trans (HB10.out.mono (by omega))).trans (HB12.out.mono (by have := HB10.out.size; omega))).mono (by omega))
                 go_wp2_with fail
                 go_ret
                 exact ⟨ret_bool HF.out.symm, HBe.out⟩)
            obtain ⟨rfl, rfl⟩ := hlab
            have hleq : ∀ W : World, (Op.equalIn 10000 76 (.agg #[.int .i64 kx, .int .i64 vx]) (.agg #[.int .i64 kx, .int .i64 vx])).run Try.prog W = .ok true W := fun W => by
              rw [label_eq]; simp
            have HOne : Hid ((newE la lb C2 D2 s j).V.oneCell' = true ∧ (newE la lb C2 D2 s j).U.oneCell' = true) := by
              show _ ∧ _
              simp only [newE, He2.out, He5.out]
              exact ⟨rfl, rfl⟩
            have HPj : Hid (Pend W4 (w.heap.size + 4) ((rest ++ news la lb C2 D2 s j) ++ [newE la lb C2 D2 s j])) := by
              have h1 := HPend.out (j + 1) (by have := HNa.out; omega)
              rw [news_succ, ← List.append_assoc] at h1
              exact h1
            have HSj : Hid (∀ x ∈ es9.toList, ∀ q r k, x.key = placeV q r k → q < (newE la lb C2 D2 s j).lo ∨ (newE la lb C2 D2 s j).hi ≤ q) := fun x hx q r k hk => HSeen9.out x hx q r k hk j (by have := HNa.out; omega)
            have HLb := Lib.hid (sameE_label (k := kx) (v := vx) (ks := ksx) (ks' := ksy))
            have HJL : Hid (j < la.length) := by show _ < _; have := HNa.out; omega
            have HLe : Hid (L' ≤ 1048580) := by
              have h1 := tot_len (rest ++ news la lb C2 D2 s j)
              rw [← HL'.out, tot_append, tot_news j (by have := HJL.out; omega)] at h1
              have h2 := descL_take_le la j
              have h3 : desc e.x = descL la := by rw [HX0.out]; rfl
              have h4 := HTot.out
              show _ ≤ _
              omega
            have HNew : Hid ((⟨.node kx vx ksx, .node kx vx ksy, .slice Ax ksx.length cx, .slice Ay ksy.length cy, s j, s (j + 1)⟩ : Ent) = newE la lb C2 D2 s j) := by
              show _ = _
              simp only [newE, getD_some HX.out, getD_some HY.out, He2.out, He5.out]
            have HRn : Hid (R = (rest.all entOk && ((news la lb C2 D2 s (j + 1)).all entOk && ((la.zip lb).drop (j + 1)).all (fun p => sameE p.1 p.2)))) := by
              show _ = _
              have hd : (la.zip lb).drop j = (.node kx vx ksx, .node kx vx ksy) :: (la.zip lb).drop (j + 1) := by
                rw [List.drop_eq_getElem_cons (List.getElem?_eq_some_iff.1 HZ.out).1, (List.getElem?_eq_some_iff.1 HZ.out).2]
              have hE : ([newE la lb C2 D2 s j] : List Ent).all entOk = sameL ksx ksy := by rw [← HNew.out]; simp [entOk, kidsE]
              rw [HRj.out, hd, news_succ, List.all_append, List.all_cons, HLb.out, hE]
              simp only [Bool.and_assoc]
            go_region_held3 (fun w' => w'.cell? ⟨wr.heap.size, 0, none⟩ = some (.int .i64 kx) ∧ w'.cell? ⟨wr.heap.size, 1, none⟩ = some (.int .i64 vx) ∧ w'.cell? ⟨wr.heap.size, 2, none⟩ = some (.slice Ax ksx.length cx) ∧ w'.cell? ⟨wr.heap.size + 1, 0, none⟩ = some (.int .i64 kx) ∧ w'.cell? ⟨wr.heap.size + 1, 1, none⟩ = some (.int .i64 vx) ∧ w'.cell? ⟨wr.heap.size + 1, 2, none⟩ = some (.slice Ay ksy.length cy)) (first | assumption | (go_keep; done)) (first
              | (go_at_call 55
                 with_reducible refine (labelF_any kx vx Ax ksx.length cx _).mono ?_
                 rintro e' w11 ⟨rfl, hb11⟩
                 have HB11 : Hid (Below W10.heap.size W10 w11) := (Below.refl _ _).drew.trans hb11
                 have hS11 := HCs.out w11 HB11.out
                 clear hb11)
              | (go_at_call 55
                 with_reducible refine (labelF_any kx vx Ay ksy.length cy _).mono ?_
                 rintro e' w12 ⟨rfl, hb12⟩
                 have HB12 : Hid (Below W10.heap.size W10 w12) := HB11.out.trans (hb12.mono HB11.out.size)
                 have hS12 := HCs.out w12 HB12.out
                 clear hb12))
            have hglt : g' < wr.heap.size := (HS.out.own.lt g' rfl).2
            have HK16 : Hid (∀ W W' : World, Below W10.heap.size W10 W → (∀ q, q < W.heap.size → q ≠ g' → W'.heap[q]? = W.heap[q]?) → W'.cell? ⟨wr.heap.size, 0, none⟩ = some (.int .i64 kx) ∧ W'.cell? ⟨wr.heap.size, 1, none⟩ = some (.int .i64 vx) ∧ W'.cell? ⟨wr.heap.size, 2, none⟩ = some (.slice Ax ksx.length cx) ∧ W'.cell? ⟨wr.heap.size + 1, 0, none⟩ = some (.int .i64 kx) ∧ W'.cell? ⟨wr.heap.size + 1, 1, none⟩ = some (.int .i64 vx) ∧ W'.cell? ⟨wr.heap.size + 1, 2, none⟩ = some (.slice Ay ksy.length cy)) := fun W W' hW hk => by
              obtain ⟨q0, q1, q2, q3, q4, q5⟩ := HCs.out W hW
              have h1 := HRx.out.lt
              have h2 := HRy.out.lt
              have h3 := hW.size
              have e1 := hk wr.heap.size (by omega) (by omega)
              have e2 := hk (wr.heap.size + 1) (by omega) (by omega)
              exact ⟨(World.cell?_of_block (a := ⟨wr.heap.size, 0, none⟩) e1).trans q0, (World.cell?_of_block (a := ⟨wr.heap.size, 1, none⟩) e1).trans q1, (World.cell?_of_block (a := ⟨wr.heap.size, 2, none⟩) e1).trans q2, (World.cell?_of_block (a := ⟨wr.heap.size + 1, 0, none⟩) e2).trans q3, (World.cell?_of_block (a := ⟨wr.heap.size + 1, 1, none⟩) e2).trans q4, (World.cell?_of_block (a := ⟨wr.heap.size + 1, 2, none⟩) e2).trans q5⟩
            clear hS10 hS11
            go_upto_region 18 with fail
            have hS13 := HCs.out w12.drew HB12.out.drew
            go_region_held3 (fun w' => w'.cell? ⟨wr.heap.size, 0, none⟩ = some (.int .i64 kx) ∧ w'.cell? ⟨wr.heap.size, 1, none⟩ = some (.int .i64 vx) ∧ w'.cell? ⟨wr.heap.size, 2, none⟩ = some (.slice Ax ksx.length cx) ∧ w'.cell? ⟨wr.heap.size + 1, 0, none⟩ = some (.int .i64 kx) ∧ w'.cell? ⟨wr.heap.size + 1, 1, none⟩ = some (.int .i64 vx) ∧ w'.cell? ⟨wr.heap.size + 1, 2, none⟩ = some (.slice Ay ksy.length cy)) (first | assumption | with_reducible exact HCs.out _ (HB15.out.alloc HB15.out.size _)) (first
              | (go_at_call 56
                 with_reducible refine (operandsF_any kx vx Ax ksx.length cx _).mono ?_
                 rintro e' w14 ⟨rfl, hb14⟩
                 have HB14 : Hid (Below W10.heap.size W10 w14) := HB12.out.drew.trans (hb14.mono HB12.out.drew.size)
                 have hS14 := HCs.out w14 HB14.out
                 clear hb14)
              | (go_at_call 56
                 with_reducible refine (operandsF_any kx vx Ay ksy.length cy _).mono ?_
                 rintro e' w15 ⟨rfl, hb15⟩
                 have HB15 : Hid (Below W10.heap.size W10 w15) := HB14.out.trans (hb15.mono HB14.out.size)
                 have hS15 := HCs.out w15 HB15.out
                 obtain ⟨g2, cap2, w16, hrun, hst, hnew, hkeep, hsz⟩ := (HS.out.later (HB10.out.trans (HB15.out.mono HB10.out.size))).push HL'.out (newE la lb C2 D2 s j) w15.heap.size rfl (HL'.out ▸ HLe.out) HOne.out (HPj.out) (HSj.out) 1
                 rw [← HNew.out] at hrun
                 have hS16 := HK16.out w15 w16 HB15.out hkeep
                 have HRun := Lib.hid hrun
                 have HSt := Lib.hid hst
                 have HKp := Lib.hid hkeep
                 have HNw := Lib.hid hnew
                 have HSzz := Lib.hid hsz
                 clear hb15 hrun hst hkeep hnew hsz)
              | (with_reducible refine step_append_eq ?_ (.tmp 79) (.tmp 87) 71 ?_ ?_ ?_ HRun.out ?_
                 · rfl
                 · rfl
                 · rfl
                 · rfl))
            have hzz : wr.heap.size ≤ w15.heap.size := by have := HB10.out.size; have := HB15.out.size; omega
            have HR16 : Hid (Row w16 wo.heap.size 70 #[.slice (some ⟨gr, 0, none⟩) N ca, .slice (some ⟨b, off, none⟩) N cb]) := by
              have h1 := HR7.out.under (HB10.out.trans (HB15.out.mono HB10.out.size)) HR7.out.lt
              exact (HKp.out wo.heap.size (by omega) (fun e1 => Hg'.out e1.symm)).trans h1
            have HL2 : Hid (L' + 1 = (rest ++ news la lb C2 D2 s (j + 1)).length) := by
              show _ = _
              have h1 := HL'.out
              rw [List.length_append, news_length] at h1 ⊢
              omega
            have HG2 : Hid (g2 ≠ wo.heap.size) := by
              show _ ≠ _
              have h1 := HNw.out
              have h2 := Hg'.out
              omega
            have HSt2 : Hid (StE W4 (w.heap.size + 4) (w.heap.size + 5) w16 (rest ++ news la lb C2 D2 s (j + 1)) (.slice (some ⟨g2, 0, none⟩) (L' + 1) cap2) es9 (clock + 1)) := by
              have h1 := HSt.out
              rw [List.append_assoc, ← news_succ] at h1
              exact h1
            clear hS12 hS13 hS14 hS15 hS16
            go_wp2_with fail
            go_roundw
            case rel => exact ⟨j + 1, g2, cap2, L' + 1, by omega, by go_num, rfl, HL2, HG2, HSt2, HR16, HRn⟩
            case measure => simp [intOf]; omega
          · obtain rfl : j = N := by omega
            have HFin : Hid (R = (rest ++ news la lb C2 D2 s j).all entOk) := by
              show _ = _
              rw [HRj.out, List.drop_of_length_le (by rw [List.length_zip]; have := HNa.out; have := HNb.out; omega), List.all_append]
              simp
            have htot : tot (rest ++ news la lb C2 D2 s j) + 1 = gk := by
              rw [tot_append, tot_news j (by have := HNa.out; omega), List.take_of_length_le (by have := HNa.out; omega)]
              have h1 := HTot.out
              have h2 : desc e.x = descL la := by rw [HX.out]; rfl
              omega
            have HTt := Lib.hid htot
            clear htot
            go_wp2_with fail
            go_roundg (tot (rest ++ news la lb C2 D2 s j))
            case rel => exact ⟨_, g', cap', L', es9, clock + 1, rfl, HL', rfl, by have := HTt.out; omega, HS, HFin⟩
            case measure => have := HTt.out; omega
    · have HF : Hid (R = true) := by
        show _ = _
        rw [HRv.out]
        have : en = [] := List.length_eq_zero_iff.1 (by have := HL.out; omega)
        rw [this]; rfl
      have HB5 := Lib.hid (HE.out.below)
      obtain rfl : L = 0 := by omega
      go_wp2_with fail
      go_ret
      exact ⟨ret_bool HF.out.symm, HB4.out.trans (HB5.out.mono (by have := HS4.out; omega))⟩

end Go.Proofs.Ytgdhmdhbpakahaa

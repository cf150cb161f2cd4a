/- The walk of spec.l5Push. -/
import Derived.Test.YthcohnceehndfaaDoorNfS
namespace Go.Proofs.YthcohnceehndfaaDoor
open Go.RowKit

/-- The world behind the stores of a result and the row that it names. -/
theorem setO_pair {w w3 : World} {n lo : Nat} {a b : Ex} {a0 a1 a2 b0 b1 b2 : Value} (hb : Below w.heap.size w w3) (hn : w.heap.size ≤ n) (hlo : n < lo) (hh : lo ≤ w3.heap.size)
    (ha : Own w3 25 lo w3.heap.size a a0 a1 a2) (hbb : Own w3 25 lo w3.heap.size b b0 b1 b2) {c0 c1 c2 : Value} (hr : Row w3 n 25 #[c0, c1, c2]) (k v : Int) :
    (∃ Y : World, Y = ((((w3.setCell ⟨n, 0, none⟩ (.int .i64 k)).setCell ⟨n, 1, none⟩ (.int .i64 v)).setCell ⟨n, 2, none⟩ (.slice (some ⟨w3.heap.size, 0, none⟩) 2 2)).alloc (.cells #[a0, a1, a2, b0, b1, b2] 25)) ∧
      Own Y 25 lo Y.heap.size (.node k v [a, b]) (.int .i64 k) (.int .i64 v) (.slice (some ⟨w3.heap.size, 0, none⟩) 2 2) ∧ Below w.heap.size w Y ∧ Y.cell? ⟨n, 0, none⟩ = some (.int .i64 k) ∧ Y.cell? ⟨n, 1, none⟩ = some (.int .i64 v) ∧ Y.cell? ⟨n, 2, none⟩ = some (.slice (some ⟨w3.heap.size, 0, none⟩) 2 2)) := by
  have hX := sets3S hb hn (.int .i64 k) (.int .i64 v) (.slice (some ⟨w3.heap.size, 0, none⟩) 2 2)
  obtain ⟨X, hXe⟩ : ∃ X, X = ((w3.setCell ⟨n, 0, none⟩ (.int .i64 k)).setCell ⟨n, 1, none⟩ (.int .i64 v)).setCell ⟨n, 2, none⟩ (.slice (some ⟨w3.heap.size, 0, none⟩) 2 2) := ⟨_, rfl⟩
  rw [← hXe] at hX ⊢
  obtain ⟨hBX, hXs, hk⟩ := hX
  have hrX : Row X n 25 #[.int .i64 k, .int .i64 v, .slice (some ⟨w3.heap.size, 0, none⟩) 2 2] := by rw [hXe]; exact ((hr.set_ 0 _).set_ 1 _).set_ 2 _
  refine ⟨_, rfl, ?_⟩
  obtain ⟨Y, hY⟩ : ∃ Y, Y = X.alloc (.cells #[a0, a1, a2, b0, b1, b2] 25) := ⟨_, rfl⟩
  rw [← hY]
  have hbY : Below X.heap.size X Y := by rw [hY]; exact (Below.refl _ _).alloc (Nat.le_refl _) _
  have hrY : Row Y w3.heap.size 25 #[a0, a1, a2, b0, b1, b2] := by rw [← hXs, hY]; exact Row.new _ _ _
  have hrn := hrX.under hbY hrX.lt
  have hsY := hbY.size
  refine ⟨Own.pairF ((ha.keep (Nat.le_refl _) (Nat.le_refl _) fun q q1 q2 => hk q (by omega)).under hbY (by omega) |>.more (Nat.le_refl _) (by omega)) ((hbb.keep (Nat.le_refl _) (Nat.le_refl _) fun q q1 q2 => hk q (by omega)).under hbY (by omega) |>.more (Nat.le_refl _) (by omega)) hh hrY k v 2, hBX.trans (hbY.mono hBX.size), hrn.cell 0, hrn.cell 1, hrn.cell 2⟩
theorem setO_one {w w3 : World} {n lo : Nat} {a : Ex} {a0 a1 a2 : Value} (hb : Below w.heap.size w w3) (hn : w.heap.size ≤ n) (hlo : n < lo) (hh : lo ≤ w3.heap.size)
    (ha : Own w3 25 lo w3.heap.size a a0 a1 a2) {c0 c1 c2 : Value} (hr : Row w3 n 25 #[c0, c1, c2]) (k v : Int) :
    (∃ Y : World, Y = ((((w3.setCell ⟨n, 0, none⟩ (.int .i64 k)).setCell ⟨n, 1, none⟩ (.int .i64 v)).setCell ⟨n, 2, none⟩ (.slice (some ⟨w3.heap.size, 0, none⟩) 1 1)).alloc (.cells #[a0, a1, a2] 25)) ∧
      Own Y 25 lo Y.heap.size (.node k v [a]) (.int .i64 k) (.int .i64 v) (.slice (some ⟨w3.heap.size, 0, none⟩) 1 1) ∧ Below w.heap.size w Y ∧ Y.cell? ⟨n, 0, none⟩ = some (.int .i64 k) ∧ Y.cell? ⟨n, 1, none⟩ = some (.int .i64 v) ∧ Y.cell? ⟨n, 2, none⟩ = some (.slice (some ⟨w3.heap.size, 0, none⟩) 1 1)) := by
  have hX := sets3S hb hn (.int .i64 k) (.int .i64 v) (.slice (some ⟨w3.heap.size, 0, none⟩) 1 1)
  obtain ⟨X, hXe⟩ : ∃ X, X = ((w3.setCell ⟨n, 0, none⟩ (.int .i64 k)).setCell ⟨n, 1, none⟩ (.int .i64 v)).setCell ⟨n, 2, none⟩ (.slice (some ⟨w3.heap.size, 0, none⟩) 1 1) := ⟨_, rfl⟩
  rw [← hXe] at hX ⊢
  obtain ⟨hBX, hXs, hk⟩ := hX
  have hrX : Row X n 25 #[.int .i64 k, .int .i64 v, .slice (some ⟨w3.heap.size, 0, none⟩) 1 1] := by rw [hXe]; exact ((hr.set_ 0 _).set_ 1 _).set_ 2 _
  refine ⟨_, rfl, ?_⟩
  obtain ⟨Y, hY⟩ : ∃ Y, Y = X.alloc (.cells #[a0, a1, a2] 25) := ⟨_, rfl⟩
  rw [← hY]
  have hbY : Below X.heap.size X Y := by rw [hY]; exact (Below.refl _ _).alloc (Nat.le_refl _) _
  have hrY : Row Y w3.heap.size 25 #[a0, a1, a2] := by rw [← hXs, hY]; exact Row.new _ _ _
  have hrn := hrX.under hbY hrX.lt
  have hsY := hbY.size
  refine ⟨((ha.keep (Nat.le_refl _) (Nat.le_refl _) fun q q1 q2 => hk q (by omega)).under hbY (by omega) |>.more (Nat.le_refl _) (by omega)).aboveF hh hrY k v 1, hBX.trans (hbY.mono hBX.size), hrn.cell 0, hrn.cell 1, hrn.cell 2⟩

theorem cell_sets {w3 : World} {n q i : Nat} {u : Value} (hq : q ≠ n) (h : w3.cell? ⟨q, i, none⟩ = some u) (c0 c1 c2 : Value) (o : Obj) : ((((w3.setCell ⟨n, 0, none⟩ c0).setCell ⟨n, 1, none⟩ c1).setCell ⟨n, 2, none⟩ c2).alloc o).cell? ⟨q, i, none⟩ = some u := by
  have hlt : q < w3.heap.size := World.block_lt_of_cell? w3 _ h
  have hf : ∀ (W : World) (j : Nat) (c : Value), (W.setCell ⟨n, j, none⟩ c).cell? ⟨q, i, none⟩ = W.cell? ⟨q, i, none⟩ := fun W j c => World.cell?_setCell_far W _ _ _ (fun e => hq e.symm)
  rw [((Below.refl _ (((w3.setCell ⟨n, 0, none⟩ c0).setCell ⟨n, 1, none⟩ c1).setCell ⟨n, 2, none⟩ c2)).alloc (Nat.le_refl _) o).cell (p := ⟨q, i, none⟩) (by simpa using hlt), hf, hf, hf]
  exact h

theorem Own.leafF (w : World) (lo hi : Nat) (k v : Int) : Own w 25 lo hi (.node k v []) (.int .i64 k) (.int .i64 v) (.slice none 0 0) :=
  .mk k v [] none 0 0 #[] (fun _ => undef) (fun _ => undef) (fun _ => undef) (Nat.zero_le _) (fun i x hx => by simp at hx) (fun i x hx => by simp at hx) (fun i x hx => by simp at hx) (fun i x hx => by simp at hx) (fun i x hx => by simp at hx)

theorem Row.zs {W : World} {n : Nat} {a b c : Value} (h : Row W n 25 #[a, b, c]) : W.cell? ⟨n, 0, none⟩ = some a ∧ W.cell? ⟨n, 1, none⟩ = some b ∧ W.cell? ⟨n, 2, none⟩ = some c ∧ W.frozen? ⟨n, 0, none⟩ = false ∧ W.frozen? ⟨n, 1, none⟩ = false ∧ W.frozen? ⟨n, 2, none⟩ = false :=
  ⟨h.cell 0, h.cell 1, h.cell 2, h.frozen 0, h.frozen 1, h.frozen 2⟩

def PushSaid (d : Nat) : Prop := ∀ (ng : Bool) (e : Ex) (c0 c1 c2 : Value) (w : World), fShape d e = true → Lies w w.heap.size e c0 c1 c2 →
    Calls Tryd.prog 35 #[.agg #[c0, c1, c2], .bool ng] w (OwPost w.heap.size (nf d (!ng) e) w)

section
variable {k v : Int} {K : Option Addr} {n cp : Nat} {w : World}

set_option maxHeartbeats 1000000 in
set_option maxRecDepth 100000 in
theorem push_leaf (ng : Bool) (hk : k = 1 ∨ k = 2) : Calls Tryd.prog 35 #[.agg #[.int .i64 k, .int .i64 v, .slice K n cp], .bool ng] w (OwPost w.heap.size (fLit (!ng) (.node k v [])) w) := by
  cases ng
  · obtain ⟨W2, hW2⟩ : ∃ W2, W2 = (w.alloc (.cells #[.int .i64 k, .int .i64 v, .slice K n cp] 25)).alloc (.cells #[.int .i64 k, .int .i64 v, .slice none 0 0] 25) := ⟨_, rfl⟩
    have hrows := two_boxes w 25 #[.int .i64 k, .int .i64 v, .slice K n cp] #[.int .i64 k, .int .i64 v, .slice none 0 0]
    rw [← hW2] at hrows
    obtain ⟨hr0, hr1, hb2⟩ := hrows
    obtain ⟨y0, y1, y2, _⟩ := hr1.zs
    have HF : Hid (OwPost w.heap.size (fLit (!false) (.node k v [])) w (.returned (.agg #[.int .i64 k, .int .i64 v, .slice none 0 0])) W2) := ⟨_, _, _, _, _, rfl, Own.leafF _ _ _ _ _, hb2⟩
    have HW2 := Lib.hid hW2
    obtain ⟨Q, hQ⟩ : ∃ Q, Q = OwPost w.heap.size (fLit (!false) (.node k v [])) w := ⟨_, rfl⟩
    rw [← hQ] at HF ⊢
    clear hW2 hr0 hr1 hb2 hQ
    rcases hk with rfl | rfl
    · go_enter Tryd.func35, Tryd.ntmps35
      go_wp2_with fail
      rw [← HW2.out]
      refine bodyPost_ret (v := .agg #[.int .i64 1, .int .i64 v, .slice none 0 0]) (by simp [results, Tryd.results35, go_sem, y0, y1, y2]) rfl ?_
      exact HF.out
    · go_enter Tryd.func35, Tryd.ntmps35
      go_wp2_with fail
      rw [← HW2.out]
      refine bodyPost_ret (v := .agg #[.int .i64 2, .int .i64 v, .slice none 0 0]) (by simp [results, Tryd.results35, go_sem, y0, y1, y2]) rfl ?_
      exact HF.out
  · obtain ⟨W2, hW2⟩ : ∃ W2, W2 = (w.alloc (.cells #[.int .i64 k, .int .i64 v, .slice K n cp] 25)).alloc (.cells #[.int .i64 0, .int .i64 0, .slice none 0 0] 25) := ⟨_, rfl⟩
    have hrows := two_boxes w 25 #[.int .i64 k, .int .i64 v, .slice K n cp] #[.int .i64 0, .int .i64 0, .slice none 0 0]
    rw [← hW2] at hrows
    obtain ⟨hr0, hr1, hb2⟩ := hrows
    have HW2 := Lib.hid hW2
    have HR1 := Lib.hid hr1
    have HB2 := Lib.hid hb2
    have HS2 : Hid (W2.heap.size = w.heap.size + 2) := by show _ = _; rw [hW2]; simp
    have HN := Lib.hid (notS_any (.node k v []) (.int .i64 k) (.int .i64 v) (.slice none 0 0) W2.heap.size W2 (Own.leafF _ _ _ _ _) (Nat.le_refl _))
    obtain ⟨T, hT⟩ : ∃ T, T = fNot (.node k v []) := ⟨_, rfl⟩
    have HT : Hid (fLit (!true) (.node k v []) = T) := by show _ = _; rw [hT]; rfl
    rw [← hT] at HN
    obtain ⟨T', hT'⟩ : ∃ T', T' = fLit (!true) (.node k v []) := ⟨_, rfl⟩
    rw [← hT'] at HT ⊢
    clear hW2 hr0 hr1 hb2 hT hT'
    rcases hk with rfl | rfl
    all_goals
      (go_enter Tryd.func35, Tryd.ntmps35
       go_wp2_with fail
       rw [← HW2.out]
       refine HN.out.mono ?_
       rintro e' w3 ⟨i0, i1, ia, il, ic, rfl, ho, hb3⟩
       have hs3 := hb3.size
       obtain ⟨y0, y1, y2, z0, z1, z2⟩ := (HR1.out.under hb3 HR1.out.lt).zs
       have HO := Lib.hid ho
       have HB3 := Lib.hid (HB2.out.trans (hb3.mono HB2.out.size))
       have HS3 := Lib.hid hs3
       clear ho hb3 hs3
       go_wp2_with fail
       refine bodyPost_ret (v := .agg #[.int .i64 i0, .int .i64 i1, .slice ia il ic]) (by simp [results, Tryd.results35, go_sem, y0, y1, y2]) rfl ?_
       have hf := sets3S HB3.out (n := w.heap.size + 1) (by omega) (.int .i64 i0) (.int .i64 i1) (.slice ia il ic)
       exact ⟨_, _, _, _, _, rfl, by rw [HT.out]; exact HO.out.keep (by have := HS2.out; omega) (by rw [hf.2.1]; exact Nat.le_refl _) fun q q1 _ => hf.2.2 q (by have := HS2.out; omega), hf.1⟩)
end

set_option maxHeartbeats 1000000 in
set_option maxRecDepth 100000 in
theorem push_not (d : Nat) (ih : PushSaid d) (ng : Bool) (x : Ex) (cp kb ko : Nat) (C0 C1 C2 : Nat → Value) (w : World) (hs : fShape d x = true) (hO : Opened w w.heap.size [x] (some ⟨kb, ko, none⟩) kb ko C0 C1 C2) :
    Calls Tryd.prog 35 #[.agg #[.int .i64 3, .int .i64 0, .slice (some ⟨kb, ko, none⟩) 1 cp], .bool ng] w (OwPost w.heap.size (nf (d + 1) (!ng) (.node 3 0 [x])) w) := by
  obtain ⟨_, hb, g0, g1, g2, gl⟩ := hO 0 x rfl
  rw [Nat.zero_mul, Nat.add_zero] at g0 g1 g2
  obtain ⟨W2, hW2⟩ : ∃ W2, W2 = (w.alloc (.cells #[.int .i64 3, .int .i64 0, .slice (some ⟨kb, ko, none⟩) 1 cp] 25)).alloc (.cells #[.int .i64 0, .int .i64 0, .slice none 0 0] 25) := ⟨_, rfl⟩
  have hrows := two_boxes w 25 #[.int .i64 3, .int .i64 0, .slice (some ⟨kb, ko, none⟩) 1 cp] #[.int .i64 0, .int .i64 0, .slice none 0 0]
  rw [← hW2] at hrows
  obtain ⟨hr0, hr1, hb2⟩ := hrows
  have HW2 := Lib.hid hW2
  have HR1 := Lib.hid hr1
  have HB2 := Lib.hid hb2
  have HS2 : Hid (W2.heap.size = w.heap.size + 2) := by show _ = _; rw [hW2]; simp
  have hN := ih (!ng) x _ _ _ W2 hs (below_more gl hb2 hb2.size)
  obtain ⟨T, hT⟩ : ∃ T, T = nf (d + 1) (!ng) (.node 3 0 [x]) := ⟨_, rfl⟩
  rw [nf_not] at hT
  rw [← hT] at hN
  rw [nf_not, ← hT]
  have HN := Lib.hid hN
  clear hW2 hr0 hr1 hb2 hN hT gl ih
  go_enter Tryd.func35, Tryd.ntmps35
  go_wp2_with fail
  rw [← HW2.out]
  refine HN.out.mono ?_
  rintro e' w3 ⟨i0, i1, ia, il, ic, rfl, ho, hb3⟩
  have hs3 := hb3.size
  obtain ⟨y0, y1, y2, z0, z1, z2⟩ := (HR1.out.under hb3 HR1.out.lt).zs
  have HO := Lib.hid ho
  have HB3 := Lib.hid (HB2.out.trans (hb3.mono HB2.out.size))
  have HS3 := Lib.hid hs3
  clear ho hb3 hs3 g0 g1 g2
  go_wp2_with fail
  refine bodyPost_ret (v := .agg #[.int .i64 i0, .int .i64 i1, .slice ia il ic]) (by simp [results, Tryd.results35, go_sem, y0, y1, y2]) rfl ?_
  have hf := sets3S HB3.out (n := w.heap.size + 1) (by omega) (.int .i64 i0) (.int .i64 i1) (.slice ia il ic)
  exact ⟨_, _, _, _, _, rfl, HO.out.keep (by have := HS2.out; omega) (by rw [hf.2.1]; exact Nat.le_refl _) fun q q1 _ => hf.2.2 q (by have := HS2.out; omega), hf.1⟩

set_option maxHeartbeats 1000000 in
set_option maxRecDepth 100000 in
theorem push_next (d : Nat) (ih : PushSaid d) (ng : Bool) (x : Ex) (cp kb ko : Nat) (C0 C1 C2 : Nat → Value) (w : World) (hs : fShape d x = true) (hO : Opened w w.heap.size [x] (some ⟨kb, ko, none⟩) kb ko C0 C1 C2) :
    Calls Tryd.prog 35 #[.agg #[.int .i64 6, .int .i64 0, .slice (some ⟨kb, ko, none⟩) 1 cp], .bool ng] w (OwPost w.heap.size (nf (d + 1) (!ng) (.node 6 0 [x])) w) := by
  obtain ⟨_, hb, g0, g1, g2, gl⟩ := hO 0 x rfl
  rw [Nat.zero_mul, Nat.add_zero] at g0 g1 g2
  obtain ⟨W2, hW2⟩ : ∃ W2, W2 = (w.alloc (.cells #[.int .i64 6, .int .i64 0, .slice (some ⟨kb, ko, none⟩) 1 cp] 25)).alloc (.cells #[.int .i64 0, .int .i64 0, .slice none 0 0] 25) := ⟨_, rfl⟩
  have hrows := two_boxes w 25 #[.int .i64 6, .int .i64 0, .slice (some ⟨kb, ko, none⟩) 1 cp] #[.int .i64 0, .int .i64 0, .slice none 0 0]
  rw [← hW2] at hrows
  obtain ⟨hr0, hr1, hb2⟩ := hrows
  have HW2 := Lib.hid hW2
  have HR1 := Lib.hid hr1
  have HB2 := Lib.hid hb2
  have HS2 : Hid (W2.heap.size = w.heap.size + 2) := by show _ = _; rw [hW2]; simp
  have hN := ih ng x _ _ _ W2 hs (below_more gl hb2 hb2.size)
  obtain ⟨T, hT⟩ : ∃ T, T = nf d (!ng) x := ⟨_, rfl⟩
  rw [← hT] at hN
  rw [nf_next, ← hT]
  have HN := Lib.hid hN
  clear hW2 hr0 hr1 hb2 hN hT gl ih
  go_enter Tryd.func35, Tryd.ntmps35
  go_wp2_with fail
  rw [← HW2.out]
  refine HN.out.mono ?_
  rintro e' w3 ⟨i0, i1, ia, il, ic, rfl, ho, hb3⟩
  have hs3 := hb3.size
  have h0 := HR1.out.under hb3 HR1.out.lt
  have hlt0 : w.heap.size + 1 < w3.heap.size := h0.lt
  obtain ⟨Y, hY, hS, hBY, y0, y1, y2⟩ := setO_one (HB2.out.trans (hb3.mono HB2.out.size)) (n := w.heap.size + 1) (by omega) (by have := HS2.out; omega) hs3 ho h0 6 0
  obtain ⟨x0, x1, x2, z0, z1, z2⟩ := h0.zs
  have HF : Hid (OwPost w.heap.size (.node 6 0 [T]) w (.returned (.agg #[.int .i64 6, .int .i64 0, .slice (some ⟨w3.heap.size, 0, none⟩) 1 1])) Y) := ⟨_, _, _, _, _, rfl, hS.more (by have := HS2.out; omega) (Nat.le_refl _), hBY⟩
  have HY := Lib.hid hY
  clear ho hb3 hs3 h0 hS hBY hY g0 g1 g2
  go_wp2_with fail
  rw [← HY.out]
  refine bodyPost_ret (v := .agg #[.int .i64 6, .int .i64 0, .slice (some ⟨w3.heap.size, 0, none⟩) 1 1]) (by simp [results, Tryd.results35, go_sem, y0, y1, y2]) rfl ?_
  exact HF.out

end Go.Proofs.YthcohnceehndfaaDoor

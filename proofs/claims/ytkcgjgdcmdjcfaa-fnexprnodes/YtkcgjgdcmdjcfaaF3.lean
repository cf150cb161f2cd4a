/- The walk of impl.occursInNode. -/
import Derived.Test.YtkcgjgdcmdjcfaaF2
namespace Go.Proofs.Ytkcgjgdcmdjcfaa
open Go.RowKit

theorem tri_congr3 {m m' : Nat → Bool} (h : ∀ i, i < 3 → m i = m' i) : tri m = tri m' := by unfold tri; rw [h 0 (by omega), h 1 (by omega), h 2 (by omega)]

/-- The truth values of the first j operands have been laid. -/
def LaidB (w : World) (g d : Nat) (kids : List Ex) (j : Nat) : Prop :=
  ∃ cs : Array Value, Row w g 60 cs ∧ cs.size = kids.length * 3 ∧ ∀ (i : Nat) (x : Ex), kids[i]? = some x → i < j → ∀ q, q < 3 → cs[i * 3 + q]? = some (.bool (occ d x q))

theorem LaidB.under {w w' : World} {g d : Nat} {kids : List Ex} {j B : Nat} (h : LaidB w g d kids j) (hb : Below B w w') (hg : g < B) : LaidB w' g d kids j := by
  obtain ⟨cs, hr, hs, hk⟩ := h
  exact ⟨cs, hr.under hb hg, hs, hk⟩
theorem LaidB.grown {w w' : World} {g g' d : Nat} {kids : List Ex} {j : Nat} (h : LaidB w g d kids j) (hb : w.grownBy w' (some g')) (hg : g ≠ g') : LaidB w' g d kids j := by
  obtain ⟨cs, hr, hs, hk⟩ := h
  exact ⟨cs, hr.grown hb hg, hs, hk⟩
theorem LaidB.lt {w : World} {g d : Nat} {kids : List Ex} {j : Nat} (h : LaidB w g d kids j) : g < w.heap.size := by
  obtain ⟨cs, hr, _⟩ := h
  exact hr.lt
theorem LaidB.get {w : World} {g d : Nat} {kids : List Ex} {j : Nat} (h : LaidB w g d kids j) {i : Nat} {x : Ex} (hx : kids[i]? = some x) (hi : i < j) {q : Nat} (hq : q < 3) : w.cell? ⟨g, i * 3 + q, none⟩ = some (.bool (occ d x q)) := by
  obtain ⟨cs, hr, hs, hk⟩ := h
  rw [hr.cell]
  exact hk i x hx hi q hq

def OccPost (m : Nat → Bool) (w : World) (e' : Ending) (w' : World) : Prop := e' = .returned (.agg (tri m)) ∧ Below w.heap.size w w'

theorem three_rows (w : World) (a b c : Array Value) : Row (((w.alloc (.cells a 25)).alloc (.cells b 60)).alloc (.cells c 60)) (w.heap.size + 1) 60 b ∧ Row (((w.alloc (.cells a 25)).alloc (.cells b 60)).alloc (.cells c 60)) (w.heap.size + 1 + 1) 60 c ∧ Below w.heap.size w (((w.alloc (.cells a 25)).alloc (.cells b 60)).alloc (.cells c 60)) := by
  refine ⟨?_, ?_, (((Below.refl _ _).alloc (Nat.le_refl _) _).alloc (by simp) _).alloc (by simp; omega) _⟩
  · have h := Row.new (w.alloc (.cells a 25)) 60 b
    rw [show (w.alloc (.cells a 25)).heap.size = w.heap.size + 1 by simp] at h
    exact h.under (B := w.heap.size + 1 + 1) ((Below.refl _ _).alloc (by simp) _) (by omega)
  · have h := Row.new ((w.alloc (.cells a 25)).alloc (.cells b 60)) 60 c
    rw [show ((w.alloc (.cells a 25)).alloc (.cells b 60)).heap.size = w.heap.size + 1 + 1 by simp] at h
    exact h

set_option maxHeartbeats 1000000 in
set_option maxRecDepth 100000 in
theorem occ_any (d : Nat) (k v : Int) (kids : List Ex) (K A : Option Addr) (n cp cap g : Nat) (w : World) (hs : shape (d + 1) (.node k v kids) = true) (hK : ∀ (i : Nat) (x : Ex), kids[i]? = some x → A = some ⟨g, 0, none⟩ ∧ LaidB w g d kids kids.length) :
    Calls Try.prog 35 #[.agg #[.int .i64 k, .int .i64 v, .slice K n cp], .slice A kids.length cap] w (OccPost (occ (d + 1) (.node k v kids)) w) := by
  have hro := rootOk_parts (shape_root hs)
  have hlen : kids.length ≤ 2 := by omega
  have HRo := Lib.hid hro
  clear hro hs
  by_cases h2 : k = 2
  · subst h2
    obtain ⟨hv0, hv2, hk0⟩ : 0 ≤ v ∧ v ≤ 2 ∧ kids.length = 0 := by have := HRo.out; omega
    obtain rfl : kids = [] := List.length_eq_zero_iff.1 hk0
    clear HRo hK hlen hk0
    have HF : Hid (tri (occ (d + 1) (.node 2 v [])) = #[.bool (decide (v = 0)), .bool (decide (v = 1)), .bool (decide (v = 2))]) := by
      show _ = _
      simp [tri, occ]
    obtain rfl | rfl | rfl : v = 0 ∨ v = 1 ∨ v = 2 := by omega
    all_goals
      (go_enter Try.func35, Try.ntmps35
       go_wp2_with fail
       go_loopw [17] (fun i wl => i = .int .i64 0 ∧ Hid (Row wl (w.heap.size + 1) 60 #[.bool false, .bool false, .bool false]) ∧ Hid (Row wl (w.heap.size + 1 + 1) 60 (tri (occ (d + 1) (.node 2 _ [])))) ∧ Hid (Below w.heap.size w wl)) (fun _ _ => 0)
       case atStart =>
         rw [HF.out]
         exact ⟨rfl, (three_rows w _ _ _).1, (three_rows w _ _ _).2.1, (three_rows w _ _ _).2.2⟩
       case round =>
         obtain ⟨rfl, HR1, HR2, HB⟩ := hrel
         have h1 := HR1.out
         have h2 := HR2.out
         rw [HF.out] at h2
         have y0 : wr.cell? ⟨w.heap.size + 1, 0, none⟩ = some (.bool false) := h1.cell 0
         have y1 : wr.cell? ⟨w.heap.size + 1, 1, none⟩ = some (.bool false) := h1.cell 1
         have y2 : wr.cell? ⟨w.heap.size + 1, 2, none⟩ = some (.bool false) := h1.cell 2
         have z0 := h1.frozen 0
         have z1 := h1.frozen 1
         have z2 := h1.frozen 2
         have q0 := h2.cell 0
         have q1 := h2.cell 1
         have q2 := h2.cell 2
         simp at q0 q1 q2
         clear h1 h2 HR1 HR2
         go_wp2_with fail
         refine bodyPost_ret (v := .agg (tri (occ (d + 1) (.node 2 _ [])))) (by rw [HF.out]; simp [results, Try.results35, go_sem, y0, y1, y2]) rfl ?_
         exact ⟨rfl, occ_end HB.out (by omega) _ _ _⟩)
  · have hk2 : (k == 2) = false := by simp [h2]
    have HK := Lib.hid hK
    have HF : Hid (∀ i, occ (d + 1) (.node k v kids) i = kids.any (fun x => occ d x i)) := fun i => by
      simp only [occ]
      rw [show decide (k = 2) = false by simp [h2], Bool.false_and, Bool.false_or]
    clear HRo hK
    go_enter Try.func35, Try.ntmps35
    go_wp2_with fail
    go_loopw [17] (fun i wl => ∃ j : Nat, j ≤ kids.length ∧ i = .int .i64 j ∧ Hid (Row wl (w.heap.size + 1) 60 #[.bool false, .bool false, .bool false]) ∧ Hid (Row wl (w.heap.size + 1 + 1) 60 (tri (fun q => (kids.take j).any (fun x => occ d x q)))) ∧ Hid (Below w.heap.size w wl)) (fun i _ => kids.length - (intOf i).toNat)
    case atStart => exact ⟨0, Nat.zero_le _, rfl, (three_rows w _ _ _).1, (three_rows w _ _ _).2.1, (three_rows w _ _ _).2.2⟩
    case round =>
      obtain ⟨j, hj, rfl, HR1, HR2, HB⟩ := hrel
      by_cases hlt : j < kids.length
      · obtain ⟨x, hx⟩ : ∃ x, kids[j]? = some x := ⟨_, List.getElem?_eq_getElem hlt⟩
        obtain ⟨rfl, hlb0⟩ := HK.out j x hx
        have hgw : g < w.heap.size := hlb0.lt
        have hlb := hlb0.under HB.out hgw
        obtain ⟨a0, ha0⟩ : ∃ a0, a0 = occ d x 0 := ⟨_, rfl⟩
        obtain ⟨a1, ha1⟩ : ∃ a1, a1 = occ d x 1 := ⟨_, rfl⟩
        obtain ⟨a2, ha2⟩ : ∃ a2, a2 = occ d x 2 := ⟨_, rfl⟩
        have g0 : wr.cell? ⟨g, j * 3, none⟩ = some (.bool a0) := by rw [ha0]; exact hlb.get hx hlt (q := 0) (by omega)
        have g1 : wr.cell? ⟨g, j * 3 + 1, none⟩ = some (.bool a1) := by rw [ha1]; exact hlb.get hx hlt (q := 1) (by omega)
        have g2 : wr.cell? ⟨g, j * 3 + 2, none⟩ = some (.bool a2) := by rw [ha2]; exact hlb.get hx hlt (q := 2) (by omega)
        have HA : Hid (tri (occ d x) = #[.bool a0, .bool a1, .bool a2]) := by show _ = _; rw [ha0, ha1, ha2]; rfl
        have HT := Lib.hid (fun q => any_take_succ (f := fun x => occ d x q) hx)
        have hN1 := HR1.out.lt
        have hN2 := HR2.out.lt
        have hwr : w.heap.size ≤ wr.heap.size := HB.out.size
        obtain ⟨M, hM⟩ : ∃ M : Nat → Bool, M = fun q => (kids.take j).any (fun x => occ d x q) := ⟨_, rfl⟩
        rw [← hM] at HR2
        have HT2 : Hid (∀ q, (kids.take (j + 1)).any (fun x => occ d x q) = (M q || occ d x q)) := fun q => by rw [HT.out q, hM]
        clear hlb hlb0 ha0 ha1 ha2 hM HT hx
        rename World => wo
        go_wp2_with fail
        go_loopw [21] (fun i wl => ∃ q : Nat, q ≤ 3 ∧ i = .int .i64 q ∧ Hid (Row wl (w.heap.size + 1) 60 #[.bool false, .bool false, .bool false]) ∧ Hid (Row wl (w.heap.size + 1 + 1) 60 (tri (fun r => if r < q then M r || occ d x r else M r))) ∧ Hid (Row wl wo.heap.size 60 (tri (occ d x))) ∧ Hid (Below w.heap.size w wl)) (fun i _ => 3 - (intOf i).toNat)
        case atStart =>
          have hb : Below wo.heap.size wo (wo.alloc (.cells #[.bool a0, .bool a1, .bool a2] 60)) := (Below.refl _ _).alloc (Nat.le_refl _) _
          refine ⟨0, by omega, rfl, HR1.out.under hb hN1, HR2.out.under hb hN2, ?_, HB.out.trans (hb.mono hwr)⟩
          rw [HA.out]
          exact Row.new _ _ _
        case round =>
          obtain ⟨q, hq, rfl, HS1, HS2, HS3, HB'⟩ := hrel
          by_cases hq3 : q < 3
          · obtain ⟨b, hb⟩ : ∃ b, b = M q := ⟨_, rfl⟩
            obtain ⟨a, ha⟩ : ∃ a, a = occ d x q := ⟨_, rfl⟩
            have c1 : wr.cell? ⟨w.heap.size + 1 + 1, q, none⟩ = some (.bool b) := by
              rw [HS2.out.cell, tri_get _ hq3, hb]
              simp
            have c2 : wr.cell? ⟨wo.heap.size, q, none⟩ = some (.bool a) := by rw [HS3.out.cell, tri_get _ hq3, ha]
            have c3 := HS2.out.frozen q
            have hN3 := HS3.out.lt
            have HST : Hid (∀ u : Bool, u = (b || a) → Row (wr.setCell ⟨w.heap.size + 1 + 1, q, none⟩ (.bool u)) (w.heap.size + 1 + 1) 60 (tri (fun r => if r < q + 1 then M r || occ d x r else M r))) := by
              intro u hu
              have h := HS2.out.set_ q (.bool u)
              rw [tri_set _ u hq3] at h
              rw [tri_congr (m' := fun j => if j = q then u else if j < q then M j || occ d x j else M j)]
              · exact h
              · intro r
                by_cases e1 : r = q
                · subst e1
                  rw [if_pos (by omega), if_pos rfl, hu, hb, ha]
                · rw [if_neg e1]
                  by_cases e2 : r < q
                  · rw [if_pos (by omega), if_pos e2]
                  · rw [if_neg (by omega), if_neg e2]
            have hgs := grown_set wr (w.heap.size + 1 + 1) q
            have HS1' : Hid (∀ u : Bool, Row (wr.setCell ⟨w.heap.size + 1 + 1, q, none⟩ (.bool u)) (w.heap.size + 1) 60 #[.bool false, .bool false, .bool false]) := fun u => HS1.out.grown (hgs (.bool u)) (by omega)
            have HS3' : Hid (∀ u : Bool, Row (wr.setCell ⟨w.heap.size + 1 + 1, q, none⟩ (.bool u)) wo.heap.size 60 (tri (occ d x))) := fun u => HS3.out.grown (hgs (.bool u)) (by omega)
            have HB3 : Hid (∀ u : Bool, Below w.heap.size w (wr.setCell ⟨w.heap.size + 1 + 1, q, none⟩ (.bool u))) := fun u => HB'.out.setCell (by show _ ≤ _; simp; omega) _
            clear hb ha HS1 HS2 HS3 hgs HB'
            cases b
            all_goals
              (go_wp2_with fail
               go_roundw
               case rel => exact ⟨q + 1, by omega, by go_num, HS1'.out _, HST.out _ (by simp), HS3'.out _, HB3.out _⟩
               case measure => simp [intOf]; omega)
          · have hqq : q = 3 := by omega
            subst hqq
            have HS2' : Hid (Row wr (w.heap.size + 1 + 1) 60 (tri (fun q => (kids.take (j + 1)).any (fun x => occ d x q)))) := by
              have h := HS2.out
              show Row _ _ _ _
              have e : tri (fun r => if r < 3 then M r || occ d x r else M r) = tri (fun q => (kids.take (j + 1)).any (fun x => occ d x q)) :=
                tri_congr3 fun r hr => (if_pos hr).trans (HT2.out r).symm
              rw [← e]
              exact h
            clear HS2
            go_wp2_with fail
            go_roundw
            case rel => exact ⟨j + 1, by omega, by go_num, HS1, HS2', HB'⟩
            case measure => simp [intOf]; omega
      · have hjj : j = kids.length := by omega
        subst hjj
        rw [List.take_length] at HR2
        have h1 := HR1.out
        have h2' := HR2.out
        obtain ⟨a0, ha0⟩ : ∃ a0, a0 = kids.any (fun x => occ d x 0) := ⟨_, rfl⟩
        obtain ⟨a1, ha1⟩ : ∃ a1, a1 = kids.any (fun x => occ d x 1) := ⟨_, rfl⟩
        obtain ⟨a2, ha2⟩ : ∃ a2, a2 = kids.any (fun x => occ d x 2) := ⟨_, rfl⟩
        have HE : Hid (tri (occ (d + 1) (.node k v kids)) = #[.bool a0, .bool a1, .bool a2]) := by
          show _ = _
          unfold tri
          rw [HF.out 0, HF.out 1, HF.out 2, ha0, ha1, ha2]
        have y0 : wr.cell? ⟨w.heap.size + 1, 0, none⟩ = some (.bool false) := h1.cell 0
        have y1 : wr.cell? ⟨w.heap.size + 1, 1, none⟩ = some (.bool false) := h1.cell 1
        have y2 : wr.cell? ⟨w.heap.size + 1, 2, none⟩ = some (.bool false) := h1.cell 2
        have z0 := h1.frozen 0
        have z1 := h1.frozen 1
        have z2 := h1.frozen 2
        have q0 : wr.cell? ⟨w.heap.size + 1 + 1, 0, none⟩ = some (.bool a0) := by rw [ha0]; exact h2'.cell 0
        have q1 : wr.cell? ⟨w.heap.size + 1 + 1, 1, none⟩ = some (.bool a1) := by rw [ha1]; exact h2'.cell 1
        have q2 : wr.cell? ⟨w.heap.size + 1 + 1, 2, none⟩ = some (.bool a2) := by rw [ha2]; exact h2'.cell 2
        clear h1 h2' HR1 HR2 ha0 ha1 ha2
        go_wp2_with fail
        refine bodyPost_ret (v := .agg (tri (occ (d + 1) (.node k v kids)))) (by rw [HE.out]; simp [results, Try.results35, go_sem, y0, y1, y2]) rfl ?_
        exact ⟨rfl, occ_end HB.out (by omega) _ _ _⟩

end Go.Proofs.Ytkcgjgdcmdjcfaa

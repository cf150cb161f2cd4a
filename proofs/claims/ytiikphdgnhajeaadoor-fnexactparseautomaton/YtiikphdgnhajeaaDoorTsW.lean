/- The walk of (*impl.lineScanner).takeStates itself. -/
import Derived.Test.YtiikphdgnhajeaaDoorTs
namespace Go.Proofs.YtiikphdgnhajeaaDoor
open Go.RowKit

theorem Bt.set_new {sb q : Nat} {a b : World} (h : Bt sb a b) (hq : a.heap.size ≤ q) (i : Nat) (v : Value) : Bt sb a (b.setCell ⟨q, i, none⟩ v) :=
  ⟨h.os, h.tape, h.output, by simpa using h.size, fun k hk hn => (Below.heap_setCell _ _ _ _ (by show k ≠ q; omega)).trans (h.other k hk hn)⟩
theorem Bt.row {sb q : Nat} {t : TypeId} {cs : Array Value} {a b : World} (h : Bt sb a b) (hr : Row a q t cs) (hn : q ≠ sb) : Row b q t cs := (h.other q hr.lt hn).trans hr
theorem dec_size {rest word : ByteArray} {lo hi : Nat} {zs : List Int} {after : ByteArray} (h : DecN rest word lo hi zs after.data.toList) (hs : rest.size ≤ 1048576) : after.size ≤ 1048576 := by
  have h1 := congrArg List.length h.1.1
  have h2 : rest.data.toList.length = rest.size := rfl
  have h3 : after.data.toList.length = after.size := rfl
  simp only [List.length_append, List.length_cons] at h1
  omega
/-- Whatever taking numbers gives. -/
theorem takeAny {rest word : ByteArray} {lo hi sb : Nat} {w w' : World} {e' : Ending} (hs : rest.size ≤ 1048576) (h : TnPost rest word lo hi sb w e' w') :
    ∃ (A : Option Addr) (n c : Nat) (b : Bool) (r : ByteArray), e' = .returned (.tuple #[.slice A n c, .bool b]) ∧ Row w' sb 67 #[.string r] ∧ r.size ≤ 1048576 ∧ Bt sb w w' := by
  obtain ⟨h1, h2⟩ := h
  rcases h1 with ⟨zs, after, g, k1, k2, k3, _⟩ | ⟨_, k2, k3⟩
  · exact ⟨_, _, _, _, _, k2, k3, dec_size k1 hs, h2⟩
  · exact ⟨_, _, _, _, _, k2, k3, hs, h2⟩
theorem LaidI.bt {sb g : Nat} {zs : List Int} {j : Nat} {a b : World} (h : LaidI a g zs j) (hb : Bt sb a b) (hn : g ≠ sb) : LaidI b g zs j := by
  obtain ⟨cs, h1, h2, h3⟩ := h
  exact ⟨cs, hb.row h1 hn, h2, h3⟩

theorem Glob.bt {w w' : World} {sb : Nat} (h : Glob w) (hb : Bt sb w w') (h8 : 8 ≤ sb) : Glob w' := h.keep (hb.below h8 h.size) (Nat.le_refl _)

set_option maxHeartbeats 4000000 in
set_option maxRecDepth 100000 in
theorem takeStates_any (t : ByteArray) (sb : Nat) (w : World) (hg : Glob w) (hs : t.size ≤ 1048576) (hr : Row w sb 67 #[.string t]) (h8 : 8 ≤ sb) :
    Calls Tryd.prog 32 #[.pointer (some ⟨sb, 0, none⟩)] w (TsPost t sb w) := by
  obtain ⟨W0, hW0⟩ : ∃ W0, W0 = w.alloc (.cells #[.slice none 0 0, .slice none 0 0, .slice none 0 0] 31) := ⟨_, rfl⟩
  have hb0 : Below w.heap.size w W0 := by rw [hW0]; exact (Below.refl _ _).alloc (Nat.le_refl _) _
  have hz0 : W0.heap.size = w.heap.size + 1 := by rw [hW0]; simp
  have hra : Row W0 w.heap.size 31 #[.slice none 0 0, .slice none 0 0, .slice none 0 0] := by rw [hW0]; exact Row.new _ _ _
  have hsb := hr.lt
  have HG0 := Lib.hid (hg.keep hb0 hg.size)
  have HW0 := Lib.hid hW0
  have HZ0 := Lib.hid hz0
  have HRa := Lib.hid hra
  have HR0 := Lib.hid (hr.under hb0 hsb)
  have HB0 := Lib.hid hb0
  have HNo : Hid (∀ W, Bt sb W0 W → NoAu t → (W.cell? ⟨w.heap.size, 0, none⟩ = W.cell? ⟨w.heap.size, 0, none⟩) ∧ TsPost t sb w (.returned (.tuple #[.agg #[.slice none 0 0, .slice none 0 0, .slice none 0 0], .bool false])) (((W.setCell ⟨w.heap.size, 0, none⟩ (.slice none 0 0)).setCell ⟨w.heap.size, 0 + 1, none⟩ (.slice none 0 0)).setCell ⟨w.heap.size, 0 + 2, none⟩ (.slice none 0 0))) := fun W hW hn =>
    ⟨rfl, .inr ⟨hn, rfl⟩, (((((Bt.of_below hb0).trans hW)).set_new (Nat.le_refl _) _ _).set_new (Nat.le_refl _) _ _).set_new (Nat.le_refl _) _ _⟩
  clear hg hW0 hb0 hz0 hra hr
  go_enter Tryd.func32, Tryd.ntmps32
  go_wp2_with fail
  rw [← HW0.out]
  refine (takeNums_any t autW 1 1 sb W0 HG0.out hs wd_aut (by decide) (by decide) HR0.out).mono ?_
  rintro e' w1 h1
  have hfail : ∀ (A1 : Option Addr) (n1 c1 : Nat) (bb : Bool), True := fun _ _ _ _ => trivial
  clear hfail
  rcases h1 with ⟨⟨zs1, r1, g1, hd1, rfl, hr1, hl1, hg1⟩ | ⟨hno1, rfl, hr1⟩, hbt1⟩
  case inr =>
    have HN := Lib.hid (noAu1 hno1)
    have HT1 := Lib.hid hbt1
    have HG1 := Lib.hid (HG0.out.bt hbt1 h8)
    have HR1 := Lib.hid hr1
    clear hno1 hr1 hbt1
    go_wp2_with fail
    refine (takeNums_any t iniW 0 64 sb w1 HG1.out hs wd_ini (by decide) (by decide) HR1.out).mono ?_
    rintro e' w2 h2
    obtain ⟨A2, n2, c2, b2, r2, rfl, hr2, hs2, hbt2⟩ := takeAny hs h2
    have HT2 := Lib.hid (HT1.out.trans hbt2)
    have HG2 := Lib.hid (HG1.out.bt hbt2 h8)
    have HR2 := Lib.hid hr2
    clear h2 hr2 hbt2
    go_wp2_with fail
    refine (takeNums_any r2 accW 0 64 sb w2 HG2.out hs2 wd_acc (by decide) (by decide) HR2.out).mono ?_
    rintro e' w3 h3
    obtain ⟨A3, n3, c3, b3, r3, rfl, hr3, hs3, hbt3⟩ := takeAny hs2 h3
    have HT3 := Lib.hid (HT2.out.trans hbt3)
    clear h3 hr3 hbt3
    have hq := HT3.out.row HRa.out (by omega)
    obtain ⟨p0, p1, p2⟩ := hq.three
    have y0 := hq.frozen 0
    have y1 := hq.frozen 1
    have y2 := hq.frozen 2
    clear hq
    go_wp2_with fail
    refine bodyPost_ret (v := .tuple #[.agg #[.slice none 0 0, .slice none 0 0, .slice none 0 0], .bool false]) (by simp [results, Tryd.results32, go_sem, p0, p1, p2]) rfl ?_
    exact (HNo.out _ HT3.out HN.out).2
  have HD1 := Lib.hid hd1
  have hzl1 : zs1.length = 1 := by have := hd1.1.2.1; rw [List.length_map] at this; omega
  obtain ⟨z, rfl⟩ : ∃ z, zs1 = [z] := by
    match zs1, hzl1 with
    | [z], _ => exact ⟨z, rfl⟩
  have hs1 := dec_size hd1 hs
  have HT1 := Lib.hid hbt1
  have HG1 := Lib.hid (HG0.out.bt hbt1 h8)
  have HR1 := Lib.hid hr1
  have HL1 := Lib.hid hl1
  clear hr1 hbt1 hd1 hl1 hzl1
  rw [show ([z] : List Int).length = 1 from rfl]
  go_wp2_with fail
  refine (takeNums_any r1 iniW 0 64 sb w1 HG1.out hs1 wd_ini (by decide) (by decide) HR1.out).mono ?_
  rintro e' w2 h2
  rcases h2 with ⟨⟨ini, r2, g2, hd2, rfl, hr2, hl2, hg2⟩ | ⟨hno2, rfl, hr2⟩, hbt2⟩
  case inr =>
    have HN := Lib.hid (noAu2 HD1.out hno2)
    have HT2 := Lib.hid (HT1.out.trans hbt2)
    have HG2 := Lib.hid (HG1.out.bt hbt2 h8)
    have HR2 := Lib.hid hr2
    clear hno2 hr2 hbt2
    go_wp2_with fail
    refine (takeNums_any r1 accW 0 64 sb w2 HG2.out hs1 wd_acc (by decide) (by decide) HR2.out).mono ?_
    rintro e' w3 h3
    obtain ⟨A3, n3, c3, b3, r3, rfl, hr3, hs3, hbt3⟩ := takeAny hs1 h3
    have HT3 := Lib.hid (HT2.out.trans hbt3)
    clear h3 hr3 hbt3
    have hq := HT3.out.row HRa.out (by omega)
    obtain ⟨p0, p1, p2⟩ := hq.three
    have y0 := hq.frozen 0
    have y1 := hq.frozen 1
    have y2 := hq.frozen 2
    clear hq
    go_wp2_with fail
    refine bodyPost_ret (v := .tuple #[.agg #[.slice none 0 0, .slice none 0 0, .slice none 0 0], .bool false]) (by simp [results, Tryd.results32, go_sem, p0, p1, p2]) rfl ?_
    exact (HNo.out _ HT3.out HN.out).2
  have HD2 := Lib.hid hd2
  have hs2 := dec_size hd2 hs1
  have HT2 := Lib.hid (HT1.out.trans hbt2)
  have HG2 := Lib.hid (HG1.out.bt hbt2 h8)
  have HR2 := Lib.hid hr2
  have HL2 := Lib.hid hl2
  have HL12 := Lib.hid (HL1.out.bt hbt2 (by have := HZ0.out; omega))
  have HZ1 : Hid (W0.heap.size ≤ w1.heap.size) := HT1.out.size
  clear hr2 hbt2 hd2 hl2 HL1
  go_wp2_with fail
  refine (takeNums_any r2 accW 0 64 sb w2 HG2.out hs2 wd_acc (by decide) (by decide) HR2.out).mono ?_
  rintro e' w3 h3
  rcases h3 with ⟨⟨accl, r3, g3, hd3, rfl, hr3, hl3, hg3⟩ | ⟨hno3, rfl, hr3⟩, hbt3⟩
  case inr =>
    have HN := Lib.hid (noAu3 HD1.out HD2.out hno3)
    have HT3 := Lib.hid (HT2.out.trans hbt3)
    clear hno3 hr3 hbt3
    have hq := HT3.out.row HRa.out (by omega)
    obtain ⟨p0, p1, p2⟩ := hq.three
    have y0 := hq.frozen 0
    have y1 := hq.frozen 1
    have y2 := hq.frozen 2
    clear hq
    go_wp2_with fail
    refine bodyPost_ret (v := .tuple #[.agg #[.slice none 0 0, .slice none 0 0, .slice none 0 0], .bool false]) (by simp [results, Tryd.results32, go_sem, p0, p1, p2]) rfl ?_
    exact (HNo.out _ HT3.out HN.out).2
  have HD3 := Lib.hid hd3
  have hs3 := dec_size hd3 hs2
  have hal : accl.length ≤ 64 := by have := hd3.1.2.1.2; rw [List.length_map] at this; exact this
  have HT3 := Lib.hid (HT2.out.trans hbt3)
  have HR3 := Lib.hid hr3
  have HL3 := Lib.hid hl3
  have HL13 := Lib.hid (HL12.out.bt hbt3 (by have := HZ0.out; omega))
  have HL23 := Lib.hid (HL2.out.bt hbt3 (by have := HZ1.out; have := HZ0.out; omega))
  have HNo4 : Hid (¬ (1 ≤ z ∧ z ≤ 64 ∧ asc z accl = true) → NoAu t) := fun h => noAu4 HD1.out HD2.out HD3.out h
  have HZ2 : Hid (W0.heap.size ≤ w2.heap.size) := HT2.out.size
  clear hr3 hbt3 hd3 hl3 HL12 HL2
  have hq := HT3.out.row HRa.out (by omega)
  obtain ⟨p0, p1, p2⟩ := hq.three
  have y0 := hq.frozen 0
  have y1 := hq.frozen 1
  have y2 := hq.frozen 2
  clear hq
  have hgc : w3.cell? ⟨g1, 0, none⟩ = some (.int .i64 z) := by
    obtain ⟨cs, k1, _, k3⟩ := HL13.out
    rw [k1.cell]
    exact k3 0 z rfl Nat.zero_lt_one
  by_cases hz1 : z < 1
  · have HN := Lib.hid (HNo4.out (by omega))
    go_wp2_with fail
    refine bodyPost_ret (v := .tuple #[.agg #[.slice none 0 0, .slice none 0 0, .slice none 0 0], .bool false]) (by simp [results, Tryd.results32, go_sem, p0, p1, p2]) rfl ?_
    exact (HNo.out _ HT3.out HN.out).2
  by_cases hz2 : 64 < z
  · have HN := Lib.hid (HNo4.out (by omega))
    go_wp2_with fail
    refine bodyPost_ret (v := .tuple #[.agg #[.slice none 0 0, .slice none 0 0, .slice none 0 0], .bool false]) (by simp [results, Tryd.results32, go_sem, p0, p1, p2]) rfl ?_
    exact (HNo.out _ HT3.out HN.out).2
  obtain ⟨n, rfl⟩ := Int.eq_ofNat_of_zero_le (show 0 ≤ z by omega)
  obtain ⟨u, hu⟩ : ∃ u, u = asc n accl := ⟨_, rfl⟩
  have HU := Lib.hid hu
  have HI3 := Lib.hid HL3.out.ints
  clear hu
  go_wp2_with fail
  refine (ascB_any accl n (some ⟨g3, 0, none⟩) accl.length g3 0 w3 (by unfold maxLen; omega) HI3.out).mono ?_
  rintro e' w4 ⟨rfl, rfl⟩
  rw [← HU.out]
  cases u
  · have HN := Lib.hid (HNo4.out (by rw [← HU.out]; simp))
    go_wp2_with fail
    refine bodyPost_ret (v := .tuple #[.agg #[.slice none 0 0, .slice none 0 0, .slice none 0 0], .bool false]) (by simp [results, Tryd.results32, go_sem, p0, p1, p2]) rfl ?_
    exact (HNo.out _ HT3.out HN.out).2
  clear HNo HNo4
  -- the truth values
  have hn1 : 1 ≤ n := by omega
  have hn2 : n ≤ 64 := by omega
  have HOK : Hid (TsOk t n ini accl r3) := ⟨r1, r2, HD1.out, HD2.out, HD3.out, hn1, hn2, HU.out.symm⟩
  obtain ⟨i0, hi0, hz0, hz1', hz2'⟩ := info_parts Tryd.info4
  have hmk := run_make_of (P := Tryd.prog) 23 4 i0 _ Tryd.underlying23 hi0 hz0 n (by rw [hz2']; omega) (by omega)
  rw [hz1'] at hmk
  clear hi0 hz0 hz1' hz2'
  obtain ⟨cs, hcs⟩ : ∃ cs, cs = madeCells (Value.cells (.bool false)) (n * 1) := ⟨_, rfl⟩
  have hcz : cs.size = n := by rw [hcs, size_madeCells]; omega
  have hcg : ∀ q, q < n → cs[q]? = some (.bool false) := fun q hq => by
    rw [hcs]
    have h1 : q < (madeCells (Value.cells (.bool false)) (n * 1)).size := by rw [size_madeCells]; omega
    rw [Array.getElem?_eq_getElem h1]
    simp [madeCells, Value.cells, Nat.mod_one]
  rw [← hcs] at hmk
  have HCZ := Lib.hid hcz
  have HCG := Lib.hid hcg
  clear hcs hcz hcg
  obtain ⟨W5, hW5⟩ : ∃ W5, W5 = (w3.alloc (.cells cs 4)).alloc (.cells #[.slice (some ⟨g2, 0, none⟩) ini.length ini.length, .slice (some ⟨w3.heap.size, 0, none⟩) n n, .slice none 0 0] 31) := ⟨_, rfl⟩
  have hb5 : Below w3.heap.size w3 W5 := by rw [hW5]; exact ((Below.refl _ _).alloc (Nat.le_refl _) _).alloc (by simp) _
  have hrb5 : Row W5 w3.heap.size 4 cs := by
    rw [hW5]
    exact (Row.new w3 4 cs).under (B := w3.heap.size + 1) ((Below.refl _ _).alloc (by simp) _) (by omega)
  have hra5 : Row W5 (w3.heap.size + 1) 31 #[.slice (some ⟨g2, 0, none⟩) ini.length ini.length, .slice (some ⟨w3.heap.size, 0, none⟩) n n, .slice none 0 0] := by
    rw [hW5]
    have h := Row.new (w3.alloc (.cells cs 4)) 31 #[.slice (some ⟨g2, 0, none⟩) ini.length ini.length, .slice (some ⟨w3.heap.size, 0, none⟩) n n, .slice none 0 0]
    rw [show (w3.alloc (.cells cs 4)).heap.size = w3.heap.size + 1 by simp] at h
    exact h
  have HB5 := Lib.hid hb5
  have HRb5 := Lib.hid hrb5
  have HRa5 := Lib.hid hra5
  have HW5 := Lib.hid hW5
  have HPS : Hid (Row w3 w.heap.size 31 #[.slice none 0 0, .slice none 0 0, .slice none 0 0]) := HT3.out.row HRa.out (by omega)
  have HZ3 : Hid (W0.heap.size ≤ w3.heap.size) := HT3.out.size
  have hzw : w.heap.size < w3.heap.size := by have := HZ3.out; have := HZ0.out; omega
  have HASC : Hid (∀ (i : Nat) (x : Int), accl[i]? = some x → 0 ≤ x ∧ x < n) := fun i x hx => by
    have hi := (List.getElem?_eq_some_iff.1 hx).1
    have h1 := asc_ge (fun q hq => asc_at HU.out.symm hq) i hi
    have h2 : accl.getD i 0 = x := by simp [List.getD, hx]
    omega
  clear hW5 hb5 hrb5 hra5
  go_wp2_with fail
  rw [← HW5.out]
  go_loopw [66] (fun i wl => ∃ j : Nat, j ≤ accl.length ∧ i = .int .i64 j ∧ Hid (∃ ds : Array Value, Row wl w3.heap.size 4 ds ∧ ds.size = n ∧ ∀ q, q < n → ds[q]? = some (.bool (decide ((q : Int) ∈ accl.take j)))) ∧ Hid (Row wl (w3.heap.size + 1) 31 #[.slice (some ⟨g2, 0, none⟩) ini.length ini.length, .slice (some ⟨w3.heap.size, 0, none⟩) n n, .slice none 0 0]) ∧ Hid (Below w3.heap.size w3 wl)) (fun i _ => accl.length - (intOf i).toNat)
  case atStart => exact ⟨0, Nat.zero_le _, rfl, ⟨cs, HRb5.out, HCZ.out, fun q hq => by rw [HCG.out q hq]; simp⟩, HRa5.out, HB5⟩
  case round =>
    clear hmk p0 p1 p2 y0 y1 y2 hgc
    obtain ⟨j, hj, rfl, HL, HRx, HB⟩ := hrel
    obtain ⟨a0, a1, a2⟩ := HRx.out.three
    by_cases hlt : j < accl.length
    · obtain ⟨x, hx⟩ : ∃ x, accl[j]? = some x := ⟨_, List.getElem?_eq_getElem hlt⟩
      obtain ⟨_, _, c0⟩ := (HI3.out.under HB.out HB.out.size) j x hx
      rw [Nat.zero_add] at c0
      have hxb := HASC.out j x hx
      obtain ⟨k, rfl⟩ := Int.eq_ofNat_of_zero_le hxb.1
      have hkn : k < n := by omega
      obtain ⟨ds, hd1, hd2, hd3⟩ := HL.out
      obtain ⟨u0, c1⟩ : ∃ u0, wr.cell? ⟨w3.heap.size, k, none⟩ = some u0 := ⟨ds[k], by rw [hd1.cell]; exact Array.getElem?_eq_getElem _⟩
      have f1 := hd1.frozen k
      have HL2 : Hid (∃ ds : Array Value, Row (wr.setCell ⟨w3.heap.size, k, none⟩ (.bool true)) w3.heap.size 4 ds ∧ ds.size = n ∧ ∀ q, q < n → ds[q]? = some (.bool (decide ((q : Int) ∈ accl.take (j + 1))))) := by
        refine ⟨ds.setIfInBounds k (.bool true), hd1.set_ _ _, by simpa using hd2, fun q hq => ?_⟩
        rw [take_succ_eq hx, Array.getElem?_setIfInBounds]
        by_cases e : k = q
        · subst e
          rw [if_pos rfl, if_pos (by omega), decide_eq_true (by simp)]
        · rw [if_neg e, hd3 q hq]
          congr 2
          rw [decide_eq_decide, List.mem_append, List.mem_singleton]
          constructor
          · exact .inl
          · rintro (h | h)
            · exact h
            · omega
      have HRx2 : Hid (Row (wr.setCell ⟨w3.heap.size, k, none⟩ (.bool true)) (w3.heap.size + 1) 31 #[.slice (some ⟨g2, 0, none⟩) ini.length ini.length, .slice (some ⟨w3.heap.size, 0, none⟩) n n, .slice none 0 0]) := (Below.heap_setCell _ _ _ _ (by show w3.heap.size + 1 ≠ w3.heap.size; omega)).trans HRx.out
      clear hd1 hd2 hd3 hx HL hxb
      go_wp2_with fail
      go_roundw
      case rel => exact ⟨j + 1, by omega, by go_num, HL2, HRx2, HB.out.setCell (Nat.le_refl _) _⟩
      case measure => simp [intOf]; omega
    · have hjj : j = accl.length := by omega
      subst hjj
      have hq := HPS.out.under HB.out hzw
      obtain ⟨p0, p1, p2⟩ := hq.three
      have y0 := hq.frozen 0
      have y1 := hq.frozen 1
      have y2 := hq.frozen 2
      have KEY : Hid (∀ W, Tw w.heap.size w.heap.size wr W → TsPost t sb w (.returned (.tuple #[.agg #[.slice (some ⟨g2, 0, none⟩) ini.length ini.length, .slice (some ⟨w3.heap.size, 0, none⟩) n n, .slice none 0 0], .bool true])) W) := fun W hT => by
        have hz0 := HZ0.out
        have hz1 := HZ1.out
        have hkp : ∀ q, q < w3.heap.size → q ≠ w.heap.size → W.heap[q]? = w3.heap[q]? := fun q q1 q2 => (hT.other q q2 q2).trans (HB.out.block q q1)
        have hgl2 : g2 < w3.heap.size := by obtain ⟨_, k1, _⟩ := HL23.out; exact k1.lt
        refine ⟨.inl ⟨n, ini, accl, r3, g2, w3.heap.size, HOK.out, rfl, ?_, ?_, ?_, by omega, by omega⟩, ?_⟩
        · exact (hkp sb (by omega) (by omega)).trans HR3.out
        · obtain ⟨ds, k1, k2, k3⟩ := HL23.out
          exact ⟨ds, (hkp g2 hgl2 (by omega)).trans k1, k2, k3⟩
        · obtain ⟨ds, k1, k2, k3⟩ := HL.out
          refine ⟨ds, (hT.other _ (by omega) (by omega)).trans k1, by rw [k2, marksB_len], fun i z hz => ?_⟩
          have hi := (List.getElem?_eq_some_iff.1 hz).1
          rw [marksB_len] at hi
          rw [marksB_get hi] at hz
          rw [k3 i hi, List.take_length]
          injection hz with hz
          rw [hz]
        · have h1 : Bt sb w wr := ((Bt.of_below HB0.out).trans HT3.out).trans (Bt.of_below HB.out)
          exact ⟨hT.os.trans h1.os, hT.tape.trans h1.tape, hT.output.trans h1.output, by rw [hT.size]; exact h1.size, fun q q1 q2 => (hT.other q (by omega) (by omega)).trans (h1.other q q1 q2)⟩
      clear hq
      go_wp2_with fail
      refine bodyPost_ret (v := .tuple #[.agg #[.slice (some ⟨g2, 0, none⟩) ini.length ini.length, .slice (some ⟨w3.heap.size, 0, none⟩) n n, .slice none 0 0], .bool true]) (by simp [results, Tryd.results32, go_sem, p0, p1, p2]) rfl ?_
      exact KEY.out _ ((((Tw.refl _ _ _).sa _ _).sa _ _).sa _ _)

end Go.Proofs.YtiikphdgnhajeaaDoor

/- The walk of impl.ParseAutomaton itself. -/
import Derived.Test.YtiikphdgnhajeaaDoorPaJ
import Derived.Deep.Cut
import Derived.Deep.CutRange
import Derived.Deep.RegionLaw
import Derived.Test.YtiikphdgnhajeaaDoorRl
namespace Go.Proofs.YtiikphdgnhajeaaDoor
open Go.RowKit

/-- Blocks a and b alone have been written, and new blocks made. -/
structure Fr2 (a b : Nat) (w w' : World) : Prop where
  os : w'.os = w.os
  tape : w'.tape = w.tape
  output : w'.output = w.output
  size : w.heap.size ≤ w'.heap.size
  other : ∀ q, q < w.heap.size → q ≠ a → q ≠ b → w'.heap[q]? = w.heap[q]?
theorem Fr2.refl (a b : Nat) (w : World) : Fr2 a b w w := ⟨rfl, rfl, rfl, Nat.le_refl _, fun _ _ _ _ => rfl⟩
theorem Fr2.bt {a b : Nat} {w w' w'' : World} (h : Fr2 a b w w') (k : Bt a w' w'') : Fr2 a b w w'' :=
  ⟨k.os.trans h.os, k.tape.trans h.tape, k.output.trans h.output, Nat.le_trans h.size k.size, fun q hq n1 n2 => (k.other q (Nat.lt_of_lt_of_le hq h.size) n1).trans (h.other q hq n1 n2)⟩
theorem Fr2.below {a b : Nat} {w w' w'' : World} (h : Fr2 a b w w') (k : Below w'.heap.size w' w'') : Fr2 a b w w'' := h.bt (Bt.of_below k)
theorem Fr2.set_ {a b : Nat} {w w' : World} (h : Fr2 a b w w') (i : Nat) (v : Value) : Fr2 a b w (w'.setCell ⟨b, i, none⟩ v) :=
  ⟨h.os, h.tape, h.output, by simpa using h.size, fun q hq n1 n2 => (Below.heap_setCell _ _ _ _ (by simpa using n2)).trans (h.other q hq n1 n2)⟩
theorem Fr2.grown {a b : Nat} {w w' w'' : World} {row : Option Nat} (h : Fr2 a b w w') (hg : w'.grownBy w'' row) (hr : ∀ k, row = some k → w.heap.size ≤ k) : Fr2 a b w w'' :=
  ⟨hg.os.trans h.os, hg.tape.trans h.tape, hg.output.trans h.output, Nat.le_trans h.size hg.size, fun q hq n1 n2 => (hg.block q (Nat.lt_of_lt_of_le hq h.size) (fun e => by have := hr q e.symm; omega)).trans (h.other q hq n1 n2)⟩
theorem Fr2.row {a b q : Nat} {t : TypeId} {cs : Array Value} {w w' : World} (h : Fr2 a b w w') (hr : Row w q t cs) (h1 : q ≠ a) (h2 : q ≠ b) : Row w' q t cs := (h.other q hr.lt h1 h2).trans hr
theorem LaidI.fr2 {a b g : Nat} {zs : List Int} {j : Nat} {w w' : World} (h : LaidI w g zs j) (hf : Fr2 a b w w') (h1 : g ≠ a) (h2 : g ≠ b) : LaidI w' g zs j := by
  obtain ⟨cs, k1, k2, k3⟩ := h
  exact ⟨cs, hf.row k1 h1 h2, k2, k3⟩
theorem RowB.fr2 {a b g : Nat} {zs : List Bool} {w w' : World} (h : RowB w g zs) (hf : Fr2 a b w w') (h1 : g ≠ a) (h2 : g ≠ b) : RowB w' g zs := by
  obtain ⟨cs, k1, k2, k3⟩ := h
  exact ⟨cs, hf.row k1 h1 h2, k2, k3⟩

theorem Fr2.low {a b B : Nat} {w w' : World} (h : Fr2 a b w w') (h1 : B ≤ a) (h2 : B ≤ b) (h3 : B ≤ w.heap.size) : Below B w w' := ⟨h.os, h.tape, h.output, h.size, fun q hq => h.other q (by omega) (by omega) (by omega)⟩

/-- What is kept while the lines of edges are read. -/
structure PaX (sb ab gi ga n : Nat) (ini : List Int) (r3 : ByteArray) (W4 wl : World) (es : List Tr) (r : ByteArray) (v : Value) : Prop where
  frame : Fr2 sb ab W4 wl
  box : Row wl ab 31 #[.slice (some ⟨gi, 0, none⟩) ini.length ini.length, .slice (some ⟨ga, 0, none⟩) n n, v]
  scan : Row wl sb 67 #[.string r]
  own : OwnT wl W4.heap.size v es
  form : ∃ A c, v = .slice A es.length c
  text : r3.data.toList = edsL es ++ r.data.toList
  rng : TrsR es
  small : r.size ≤ 1048576

theorem PaX.bt {sb ab gi ga n : Nat} {ini : List Int} {r3 : ByteArray} {W4 wl w5 : World} {es : List Tr} {r r' : ByteArray} {v : Value} (h : PaX sb ab gi ga n ini r3 W4 wl es r v) (hb : Bt sb wl w5) (hs : Row w5 sb 67 #[.string r']) (hsa : sb < ab) (hz : sb < W4.heap.size) (he : r' = r := by rfl) : PaX sb ab gi ga n ini r3 W4 w5 es r v := by
  subst he
  refine ⟨h.frame.bt hb, hb.row h.box (by omega), hs, ?_, h.form, h.text, h.rng, h.small⟩
  have ho := h.own
  refine ⟨ho.1, ?_⟩
  rcases ho.2 with k | ⟨g, cap, cur, k1, k2, k3, k4⟩
  · exact .inl k
  · exact .inr ⟨g, cap, cur, k1, k2, hb.row (show Row wl g 45 cur from k3) (by omega), k4⟩

theorem Row.ty {w : World} {g : Nat} {t t' : TypeId} {cs cs' : Array Value} (h : Row w g t cs) (h' : Row w g t' cs') : t = t' := by
  have e : some (Obj.cells cs t (0, 0)) = some (Obj.cells cs' t' (0, 0)) := h.symm.trans h'
  injection e with e
  injection e with _ e _
theorem OwnT.row {w : World} {base q : Nat} {v : Value} {es : List Tr} (h : OwnT w base v es) (hq : v.ownBlock = some q) : ∃ cur, Row w q 45 cur := by
  rcases h.2 with ⟨k, _⟩ | ⟨g, cap, cur, k1, k2, k3, _⟩
  · rw [k] at hq; cases hq
  · rw [k1] at hq
    injection hq with hq
    subst hq
    exact ⟨cur, k3⟩

set_option maxHeartbeats 8000000 in
set_option maxRecDepth 100000 in
theorem implPa_any (t : ByteArray) (w : World) (hg : Glob w) (hs : t.size ≤ 1048576) : Calls Tryd.prog 11 #[.string t] w (PaPost t w) := by
  obtain ⟨W2, hW2⟩ : ∃ W2, W2 = (w.alloc (.cells #[.slice none 0 0, .slice none 0 0, .slice none 0 0] 31)).alloc (.cells #[.string t] 67) := ⟨_, rfl⟩
  have hrows := rows2 w 31 67 #[.slice none 0 0, .slice none 0 0, .slice none 0 0] #[.string t]
  rw [← hW2] at hrows
  obtain ⟨hra, hrb, hb0⟩ := hrows
  have hz2 : W2.heap.size = w.heap.size + 2 := by rw [hW2]; simp
  obtain ⟨sb, hsb⟩ : ∃ sb, sb = w.heap.size + 1 := ⟨_, rfl⟩
  rw [← hsb] at hrb
  have h8 : 8 ≤ sb := by have := hg.size; omega
  have HG2 := Lib.hid (hg.keep hb0 hg.size)
  have HW2 := Lib.hid hW2
  have HZ2 := Lib.hid hz2
  have HRa := Lib.hid hra
  have HRb := Lib.hid hrb
  have HB0 := Lib.hid hb0
  have HSB := Lib.hid hsb
  clear hg hW2 hz2 hra hrb hb0
  go_enter Tryd.func11, Tryd.ntmps11
  go_wp2_with fail
  rw [← HW2.out, ← HSB.out]
  refine (takeStates_any t sb W2 HG2.out hs HRb.out h8).mono ?_
  rintro e' w3 ⟨hts, hbt⟩
  have HT3 := Lib.hid hbt
  have HG3 := Lib.hid (HG2.out.bt hbt h8)
  have HP3 := Lib.hid (hbt.row HRa.out (by omega))
  have hz3 : w.heap.size + 2 ≤ w3.heap.size := by rw [← HZ2.out]; exact hbt.size
  have HNo3 : Hid (∀ W o, Tw w.heap.size w.heap.size w3 W → NoAu t → PaPost t w (.returned (.tuple #[.agg #[.slice none 0 0, .slice none 0 0, .slice none 0 0], .bool false])) (W.alloc o)) := fun W o hW hn => by
    have h1 : Below w.heap.size w w3 := HB0.out.trans (hbt.below (by omega : w.heap.size ≤ sb) (by have := HZ2.out; omega))
    have h2 : Below w.heap.size w W := ⟨hW.os.trans h1.os, hW.tape.trans h1.tape, hW.output.trans h1.output, by rw [hW.size]; exact h1.size, fun q hq => (hW.other q (by omega) (by omega)).trans (h1.block q hq)⟩
    exact ⟨.inr ⟨hn, rfl⟩, h2.alloc h2.size o⟩
  clear hbt
  rcases hts with ⟨n, ini, accl, r3, gi, ga, hok, rfl, hscan, hli, hrb, hgi, hga⟩ | ⟨hno, rfl⟩
  case inr =>
    have HN := Lib.hid hno
    obtain ⟨p0, p1, p2⟩ := HP3.out.three
    have y0 := HP3.out.frozen 0
    have y1 := HP3.out.frozen 1
    have y2 := HP3.out.frozen 2
    have hlw : w.heap.size < w3.heap.size := by omega
    clear hno
    go_wp2_with fail
    refine bodyPost_ret (v := .tuple #[.agg #[.slice none 0 0, .slice none 0 0, .slice none 0 0], .bool false]) (by simp [results, Tryd.results11, go_sem, p0, p1, p2, hlw]) rfl ?_
    exact HNo3.out _ _ ((((Tw.refl _ _ _).sa _ _).sa _ _).sa _ _) HN.out
  clear HNo3
  have HT := Lib.hid hok
  obtain ⟨ab, hab⟩ : ∃ ab, ab = w3.heap.size := ⟨_, rfl⟩
  obtain ⟨W4, hW4⟩ : ∃ W4, W4 = w3.alloc (.cells #[.slice (some ⟨gi, 0, none⟩) ini.length ini.length, .slice (some ⟨ga, 0, none⟩) n n, .slice none 0 0] 31) := ⟨_, rfl⟩
  have hb4 : Below w3.heap.size w3 W4 := by rw [hW4]; exact (Below.refl _ _).alloc (Nat.le_refl _) _
  have hz4 : W4.heap.size = ab + 1 := by rw [hW4, hab]; simp
  have hra4 : Row W4 ab 31 #[.slice (some ⟨gi, 0, none⟩) ini.length ini.length, .slice (some ⟨ga, 0, none⟩) n n, .slice none 0 0] := by rw [hW4, hab]; exact Row.new _ _ _
  have hn : 1 ≤ n ∧ n ≤ 64 := ⟨hok.choose_spec.choose_spec.2.2.2.1, hok.choose_spec.choose_spec.2.2.2.2.1⟩
  obtain ⟨hn1, hn2⟩ := hn
  have hil : ini.length ≤ 64 := by
    obtain ⟨_, _, _, d2, _⟩ := hok
    have := d2.1.2.1.2
    rw [List.length_map] at this
    exact this
  have hr3 : r3.size ≤ 1048576 := by
    obtain ⟨_, _, d1, d2, d3, _⟩ := hok
    exact dec_size d3 (dec_size d2 (dec_size d1 hs))
  have hgi3 : gi < w3.heap.size := by obtain ⟨_, k, _⟩ := hli; exact k.lt
  have hga3 : ga < w3.heap.size := by obtain ⟨_, k, _⟩ := hrb; exact k.lt
  have HKi : Hid (LaidI W4 gi ini ini.length) := by obtain ⟨cs, k1, k2, k3⟩ := hli; exact ⟨cs, k1.under hb4 k1.lt, k2, k3⟩
  have HKb : Hid (RowB W4 ga (marksB n accl)) := by obtain ⟨cs, k1, k2, k3⟩ := hrb; exact ⟨cs, k1.under hb4 k1.lt, k2, k3⟩
  have HPS : Hid (Row W4 w.heap.size 31 #[.slice none 0 0, .slice none 0 0, .slice none 0 0]) := HP3.out.under hb4 HP3.out.lt
  have HX0 : Hid (PaX sb ab gi ga n ini r3 W4 W4 [] r3 (.slice none 0 0)) := ⟨Fr2.refl _ _ _, hra4, hscan.under hb4 hscan.lt, World.ownsRow_nil _ _ _ _, ⟨none, 0, rfl⟩, (by unfold edsL; simp), (fun e he => by cases he), hr3⟩
  have HG4 := Lib.hid (HG3.out.keep hb4 HG3.out.size)
  have HNf : Hid (∀ W, Fr2 sb ab W4 W → Below w.heap.size w W) := fun W hW => by
    have h1 : Below w.heap.size w W4 := HB0.out.trans ((HT3.out.below (by omega : w.heap.size ≤ sb) (by have := HZ2.out; omega)).trans (hb4.mono (by omega)))
    exact ⟨hW.os.trans h1.os, hW.tape.trans h1.tape, hW.output.trans h1.output, Nat.le_trans h1.size hW.size, fun q hq => (hW.other q (by omega) (by omega) (by omega)).trans (h1.block q hq)⟩
  have HNo : Hid (∀ W W', Fr2 sb ab W4 W → Tw w.heap.size w.heap.size W W' → NoAu t → PaPost t w (.returned (.tuple #[.agg #[.slice none 0 0, .slice none 0 0, .slice none 0 0], .bool false])) W') := fun W W' hW hT hn => by
    have h1 := HNf.out W hW
    exact ⟨.inr ⟨hn, rfl⟩, hT.os.trans h1.os, hT.tape.trans h1.tape, hT.output.trans h1.output, by rw [hT.size]; exact h1.size, fun q hq => (hT.other q (by omega) (by omega)).trans (h1.block q hq)⟩
  have HZ4 := Lib.hid hz4
  have HW4 := Lib.hid hW4
  have hsb1 : w.heap.size < sb := by omega
  have hsa : sb < ab := by omega
  have hgi2 : w.heap.size < gi := by have := HZ2.out; omega
  have hga2 : w.heap.size < ga := by have := HZ2.out; omega
  have hgi4 : gi < ab := by omega
  have hga4 : ga < ab := by omega
  have hgis : gi ≠ sb := by have := HZ2.out; omega
  have hgas : ga ≠ sb := by have := HZ2.out; omega
  have hz4' : ab < W4.heap.size := by omega
  clear hok hscan hli hrb hb4 hra4 hW4 hgi3 hga3 hz3 hgi hga hz4 hsb
  go_wp2_with fail
  rw [← HW4.out, ← hab]
  clear hab
  go_loopg [] 2048 (fun gk wl => ∃ (es : List Tr) (r : ByteArray) (v : Value), gk + es.length = 2048 ∧ Hid (PaX sb ab gi ga n ini r3 W4 wl es r v))
  case atStart => exact ⟨[], r3, .slice none 0 0, rfl, HX0⟩
  case round =>
    clear HX0
    obtain ⟨es, r, v, hes, HX⟩ := hrel
    obtain ⟨a0, a1, a2⟩ := HX.out.box.three
    obtain ⟨A, c, hv⟩ := HX.out.form
    subst hv
    by_cases hlt : es.length < 2048
    case neg =>
      have HNO : Hid ((∀ zs after, ¬ DecN r edgW 4 4 zs after) ∨ 2048 ≤ es.length) := .inr (by omega)
      obtain ⟨wx, hwx⟩ : ∃ x, x = wr := ⟨_, rfl⟩
      subst hwx
      have hel : es.length ≤ 2048 := by omega
      have HF : Hid (Fr2 sb ab W4 wx) := HX.out.frame
      by_cases hre : r = ⟨#[]⟩
      case neg =>
        have hne : (r.toList == ([] : List UInt8)) = false := by
          rw [Lib.toList_data, beq_eq_false_iff_ne]
          exact fun h => hre (ByteArray.ext (Array.toList_inj.1 h))
        have HN := Lib.hid (end_rest HT.out HX.out.text HX.out.rng hre HNO.out)
        have hs0 := HX.out.scan.cell 0
        obtain ⟨p0, p1, p2⟩ := (HF.out.row HPS.out (by omega) (by omega)).three
        have y0 := (HF.out.row HPS.out (by omega) (by omega)).frozen 0
        have y1 := (HF.out.row HPS.out (by omega) (by omega)).frozen 1
        have y2 := (HF.out.row HPS.out (by omega) (by omega)).frozen 2
        go_wp2_with fail
        refine bodyPost_ret (v := .tuple #[.agg #[.slice none 0 0, .slice none 0 0, .slice none 0 0], .bool false]) (by simp [results, Tryd.results11, go_sem, p0, p1, p2]) rfl ?_
        exact HNo.out _ _ HF.out ((((Tw.refl _ _ _).sa _ _).sa _ _).sa _ _) HN.out
      subst hre
      have hs0 := HX.out.scan.cell 0
      obtain ⟨a0, a1, a2⟩ := HX.out.box.three
      have HLI := Lib.hid (HKi.out.fr2 HF.out (by omega) (by omega))
      have HLB := Lib.hid (HKb.out.fr2 HF.out (by omega) (by omega))
      obtain ⟨u, hu⟩ : ∃ u, u = auOk ⟨ini, marksB n accl, es⟩ := ⟨_, rfl⟩
      have HU := Lib.hid hu
      have HAv := Lib.hid (implAv_any ⟨ini, marksB n accl, es⟩ _ wx (au_mk HLI.out HLB.out HX.out.own HX.out.rng (by omega) (by rw [marksB_len]; omega) (by omega)) (by rw [au_sz]; dsimp only; rw [marksB_len]; omega))
      rw [marksB_len] at HAv
      clear hu
      go_wp2_with fail
      refine HAv.out.mono ?_
      rintro e' w7 ⟨rfl, hb7⟩
      rw [← HU.out]
      have HF7 := Lib.hid (HF.out.below hb7)
      have HB7 := Lib.hid hb7
      clear hb7 a0 a1 a2 hs0 HAv
      obtain ⟨p0, p1, p2⟩ := (HF7.out.row HPS.out (by omega) (by omega)).three
      have y0 := (HF7.out.row HPS.out (by omega) (by omega)).frozen 0
      have y1 := (HF7.out.row HPS.out (by omega) (by omega)).frozen 1
      have y2 := (HF7.out.row HPS.out (by omega) (by omega)).frozen 2
      cases u
      · have HN := Lib.hid (end_bad HT.out HX.out.text HX.out.rng rfl HU.out.symm)
        go_wp2_with fail
        refine bodyPost_ret (v := .tuple #[.agg #[.slice none 0 0, .slice none 0 0, .slice none 0 0], .bool false]) (by simp [results, Tryd.results11, go_sem, p0, p1, p2]) rfl ?_
        exact HNo.out _ _ HF7.out ((((Tw.refl _ _ _).sa _ _).sa _ _).sa _ _) HN.out
      · have HG := Lib.hid (end_good HT.out HX.out.text HX.out.rng rfl HU.out.symm)
        have hbx := HX.out.box.under HB7.out HX.out.box.lt
        obtain ⟨a0, a1, a2⟩ := hbx.three
        have KEY : Hid (∀ W, Tw w.heap.size w.heap.size w7 W → PaPost t w (.returned (.tuple #[.agg #[.slice (some ⟨gi, 0, none⟩) ini.length ini.length, .slice (some ⟨ga, 0, none⟩) n n, .slice A es.length c], .bool true])) W) := fun W hT => by
          have hkp : ∀ q, q ≠ w.heap.size → W.heap[q]? = w7.heap[q]? := fun q q1 => hT.other q q1 q1
          refine ⟨.inl ⟨⟨ini, marksB n accl, es⟩, gi, ga, .slice A es.length c, HU.out.symm, HX.out.rng, HG.out, by dsimp only; rw [marksB_len], ?_, ?_, ?_, by omega, by omega⟩, ?_⟩
          · obtain ⟨ds, k1, k2, k3⟩ := HLI.out
            exact ⟨ds, (hkp gi (by omega)).trans (k1.under HB7.out k1.lt), k2, k3⟩
          · obtain ⟨ds, k1, k2, k3⟩ := HLB.out
            exact ⟨ds, (hkp ga (by omega)).trans (k1.under HB7.out k1.lt), k2, k3⟩
          · have ho := HX.out.own
            refine ⟨ho.1, ?_⟩
            rcases ho.2 with k | ⟨g, cap, cur, k1, k2, k3, k4⟩
            · exact .inl k
            · have hlt : g < wx.heap.size := (show Row wx g 45 cur from k3).lt
              exact .inr ⟨g, cap, cur, k1, by omega, (hkp g (by omega)).trans ((HB7.out.block g hlt).trans k3), k4⟩
          · have h1 := HNf.out w7 HF7.out
            exact ⟨hT.os.trans h1.os, hT.tape.trans h1.tape, hT.output.trans h1.output, by rw [hT.size]; exact h1.size, fun q q1 => (hT.other q (by omega) (by omega)).trans (h1.block q q1)⟩
        clear hbx
        go_wp2_with fail
        refine bodyPost_ret (v := .tuple #[.agg #[.slice (some ⟨gi, 0, none⟩) ini.length ini.length, .slice (some ⟨ga, 0, none⟩) n n, .slice A es.length c], .bool true]) (by simp [results, Tryd.results11, go_sem, p0, p1, p2]) rfl ?_
        exact KEY.out _ ((((Tw.refl _ _ _).sa _ _).sa _ _).sa _ _)

    have HGr := Lib.hid (show Glob wr from HG4.out.keep (HX.out.frame.low (show 8 ≤ sb from h8) (by omega) (by omega)) (Nat.le_refl _))
    go_wp2_with fail
    refine (takeNums_any r edgW 4 4 sb wr HGr.out HX.out.small wd_edg (by decide) (by decide) HX.out.scan).mono ?_
    rintro e' w5 ⟨htn, hbt⟩
    have HB5 := Lib.hid hbt
    clear a0 a1 a2
    rcases htn with ⟨zs, after, g, hdn, rfl, hsc, hlz, hgz⟩ | ⟨hno, rfl, hsc⟩
    case inr =>
      have HX5 : Hid (PaX sb ab gi ga n ini r3 W4 w5 es r (.slice A es.length c)) := PaX.bt HX.out hbt hsc hsa (by omega)
      have HNO : Hid ((∀ zs after, ¬ DecN r edgW 4 4 zs after) ∨ 2048 ≤ es.length) := .inl hno
      clear HX hno hsc hbt
      have HX := HX5
      clear HX5
      obtain ⟨wx, hwx⟩ : ∃ x, x = w5 := ⟨_, rfl⟩
      subst hwx
      have hel : es.length ≤ 2048 := by omega
      have HF : Hid (Fr2 sb ab W4 wx) := HX.out.frame
      by_cases hre : r = ⟨#[]⟩
      case neg =>
        have hne : (r.toList == ([] : List UInt8)) = false := by
          rw [Lib.toList_data, beq_eq_false_iff_ne]
          exact fun h => hre (ByteArray.ext (Array.toList_inj.1 h))
        have HN := Lib.hid (end_rest HT.out HX.out.text HX.out.rng hre HNO.out)
        have hs0 := HX.out.scan.cell 0
        obtain ⟨p0, p1, p2⟩ := (HF.out.row HPS.out (by omega) (by omega)).three
        have y0 := (HF.out.row HPS.out (by omega) (by omega)).frozen 0
        have y1 := (HF.out.row HPS.out (by omega) (by omega)).frozen 1
        have y2 := (HF.out.row HPS.out (by omega) (by omega)).frozen 2
        go_wp2_with fail
        refine bodyPost_ret (v := .tuple #[.agg #[.slice none 0 0, .slice none 0 0, .slice none 0 0], .bool false]) (by simp [results, Tryd.results11, go_sem, p0, p1, p2]) rfl ?_
        exact HNo.out _ _ HF.out ((((Tw.refl _ _ _).sa _ _).sa _ _).sa _ _) HN.out
      subst hre
      have hs0 := HX.out.scan.cell 0
      obtain ⟨a0, a1, a2⟩ := HX.out.box.three
      have HLI := Lib.hid (HKi.out.fr2 HF.out (by omega) (by omega))
      have HLB := Lib.hid (HKb.out.fr2 HF.out (by omega) (by omega))
      obtain ⟨u, hu⟩ : ∃ u, u = auOk ⟨ini, marksB n accl, es⟩ := ⟨_, rfl⟩
      have HU := Lib.hid hu
      have HAv := Lib.hid (implAv_any ⟨ini, marksB n accl, es⟩ _ wx (au_mk HLI.out HLB.out HX.out.own HX.out.rng (by omega) (by rw [marksB_len]; omega) (by omega)) (by rw [au_sz]; dsimp only; rw [marksB_len]; omega))
      rw [marksB_len] at HAv
      clear hu
      go_wp2_with fail
      refine HAv.out.mono ?_
      rintro e' w7 ⟨rfl, hb7⟩
      rw [← HU.out]
      have HF7 := Lib.hid (HF.out.below hb7)
      have HB7 := Lib.hid hb7
      clear hb7 a0 a1 a2 hs0 HAv
      obtain ⟨p0, p1, p2⟩ := (HF7.out.row HPS.out (by omega) (by omega)).three
      have y0 := (HF7.out.row HPS.out (by omega) (by omega)).frozen 0
      have y1 := (HF7.out.row HPS.out (by omega) (by omega)).frozen 1
      have y2 := (HF7.out.row HPS.out (by omega) (by omega)).frozen 2
      cases u
      · have HN := Lib.hid (end_bad HT.out HX.out.text HX.out.rng rfl HU.out.symm)
        go_wp2_with fail
        refine bodyPost_ret (v := .tuple #[.agg #[.slice none 0 0, .slice none 0 0, .slice none 0 0], .bool false]) (by simp [results, Tryd.results11, go_sem, p0, p1, p2]) rfl ?_
        exact HNo.out _ _ HF7.out ((((Tw.refl _ _ _).sa _ _).sa _ _).sa _ _) HN.out
      · have HG := Lib.hid (end_good HT.out HX.out.text HX.out.rng rfl HU.out.symm)
        have hbx := HX.out.box.under HB7.out HX.out.box.lt
        obtain ⟨a0, a1, a2⟩ := hbx.three
        have KEY : Hid (∀ W, Tw w.heap.size w.heap.size w7 W → PaPost t w (.returned (.tuple #[.agg #[.slice (some ⟨gi, 0, none⟩) ini.length ini.length, .slice (some ⟨ga, 0, none⟩) n n, .slice A es.length c], .bool true])) W) := fun W hT => by
          have hkp : ∀ q, q ≠ w.heap.size → W.heap[q]? = w7.heap[q]? := fun q q1 => hT.other q q1 q1
          refine ⟨.inl ⟨⟨ini, marksB n accl, es⟩, gi, ga, .slice A es.length c, HU.out.symm, HX.out.rng, HG.out, by dsimp only; rw [marksB_len], ?_, ?_, ?_, by omega, by omega⟩, ?_⟩
          · obtain ⟨ds, k1, k2, k3⟩ := HLI.out
            exact ⟨ds, (hkp gi (by omega)).trans (k1.under HB7.out k1.lt), k2, k3⟩
          · obtain ⟨ds, k1, k2, k3⟩ := HLB.out
            exact ⟨ds, (hkp ga (by omega)).trans (k1.under HB7.out k1.lt), k2, k3⟩
          · have ho := HX.out.own
            refine ⟨ho.1, ?_⟩
            rcases ho.2 with k | ⟨g, cap, cur, k1, k2, k3, k4⟩
            · exact .inl k
            · have hlt : g < wx.heap.size := (show Row wx g 45 cur from k3).lt
              exact .inr ⟨g, cap, cur, k1, by omega, (hkp g (by omega)).trans ((HB7.out.block g hlt).trans k3), k4⟩
          · have h1 := HNf.out w7 HF7.out
            exact ⟨hT.os.trans h1.os, hT.tape.trans h1.tape, hT.output.trans h1.output, by rw [hT.size]; exact h1.size, fun q q1 => (hT.other q (by omega) (by omega)).trans (h1.block q q1)⟩
        clear hbx
        go_wp2_with fail
        refine bodyPost_ret (v := .tuple #[.agg #[.slice (some ⟨gi, 0, none⟩) ini.length ini.length, .slice (some ⟨ga, 0, none⟩) n n, .slice A es.length c], .bool true]) (by simp [results, Tryd.results11, go_sem, p0, p1, p2]) rfl ?_
        exact KEY.out _ ((((Tw.refl _ _ _).sa _ _).sa _ _).sa _ _)

    obtain ⟨e, rfl, hre, htx⟩ := decN_ed_back hdn
    have HX5 : Hid (PaX sb ab gi ga n ini r3 W4 w5 es r (.slice A es.length c) → True) := fun _ => trivial
    clear HX5
    have hbx := hbt.row HX.out.box (by omega)
    obtain ⟨a0, a1, a2⟩ := hbx.three
    have f2 := hbx.frozen 2
    have HOn : Hid (OwnT w5 W4.heap.size (.slice A es.length c) es) := by
      have ho := HX.out.own
      refine ⟨ho.1, ?_⟩
      rcases ho.2 with k | ⟨q, cap, cur, k1, k2, k3, k4⟩
      · exact .inl k
      · exact .inr ⟨q, cap, cur, k1, k2, hbt.row (show Row wr q 45 cur from k3) (by omega), k4⟩
    obtain ⟨fr, ca, va, tt⟩ := e
    rw [show (trNs ⟨fr, ca, va, tt⟩).length = 4 from rfl]
    have hcell : w5.cell? ⟨g, 0, none⟩ = some (.int .i64 fr) ∧ w5.cell? ⟨g, 1, none⟩ = some (.int .i64 ca) ∧ w5.cell? ⟨g, 2, none⟩ = some (.int .i64 va) ∧ w5.cell? ⟨g, 3, none⟩ = some (.int .i64 tt) := by
      obtain ⟨cs, k1, _, k3⟩ := hlz
      exact ⟨by rw [k1.cell]; exact k3 0 _ rfl (by show 0 < 4; omega), by rw [k1.cell]; exact k3 1 _ rfl (by show 1 < 4; omega), by rw [k1.cell]; exact k3 2 _ rfl (by show 2 < 4; omega), by rw [k1.cell]; exact k3 3 _ rfl (by show 3 < 4; omega)⟩
    obtain ⟨c0, c1, c2, c3⟩ := hcell
    have hw45 : W4.heap.size ≤ w5.heap.size := Nat.le_trans HX.out.frame.size hbt.size
    have hsz6 : (w5.alloc (.cells #[.int .i64 fr, .int .i64 ca, .int .i64 va, .int .i64 tt] 45)).heap.size = w5.heap.size + 1 := by simp
    have hrw6 : Row ((w5.alloc (.cells #[.int .i64 fr, .int .i64 ca, .int .i64 va, .int .i64 tt] 45)).drew) w5.heap.size 45 #[.int .i64 fr, .int .i64 ca, .int .i64 va, .int .i64 tt] := Row.new w5 _ _
    have hbs6 : W4.heap.size ≤ ((w5.alloc (.cells #[.int .i64 fr, .int .i64 ca, .int .i64 va, .int .i64 tt] 45)).drew).heap.size := by
      show W4.heap.size ≤ (w5.alloc (.cells #[.int .i64 fr, .int .i64 ca, .int .i64 va, .int .i64 tt] 45)).heap.size
      omega
    have how6 : OwnT ((w5.alloc (.cells #[.int .i64 fr, .int .i64 ca, .int .i64 va, .int .i64 tt] 45)).drew) W4.heap.size (.slice A es.length c) es := by
      have h1 := HOn.out
      refine ⟨h1.1, ?_⟩
      rcases h1.2 with k | ⟨q, cap, cur, k1, k2, k3, k4⟩
      · exact .inl k
      · have hr := (show Row w5 q 45 cur from k3)
        exact .inr ⟨q, cap, cur, k1, k2, hr.under (((Below.refl w5.heap.size w5).alloc (Nat.le_refl _) _).drew) hr.lt, k4⟩
    obtain ⟨v', w6, hap, how, hgr, A', n', c', rfl⟩ := run_appendT _ 29 W4.heap.size (.slice A es.length c) es ⟨fr, ca, va, tt⟩ w5.heap.size how6 hrw6 hbs6 (by omega)
    clear hsz6 hrw6 hbs6 how6
    have hX5 : Below w5.heap.size w5 ((w5.alloc (.cells #[.int .i64 fr, .int .i64 ca, .int .i64 va, .int .i64 tt] 45)).drew) := ((Below.refl _ _).alloc (Nat.le_refl _) _).drew
    have hown : ∀ q, (Value.slice A es.length c).ownBlock = some q → W4.heap.size ≤ q ∧ q < w5.heap.size := fun q hq => (HOn.out.lt q hq)
    have hn' : n' = es.length + 1 := by
      rcases how.2 with ⟨k, _⟩ | ⟨q, cap, cur, k1, _⟩
      · have h1 := how.1
        injection k with k0 k1 k2
        rw [cellsT_len, List.length_append, List.length_singleton] at h1
        rename_i k3
        rw [List.length_append, List.length_singleton] at k3
        omega
      · injection k1 with k0 k1 k2
        rw [k1, List.length_append, List.length_singleton]
    subst hn'
    have hfx : Fr2 sb ab W4 w6 := ((HX.out.frame.bt hbt).below hX5).grown hgr (fun q hq => (hown q hq).1)
    have hrow6 : ∀ q t cs, q < W4.heap.size → Row w5 q t cs → Row w6 q t cs := fun q t cs hq hr => (hgr.block q (by have := hX5.size; omega) (fun e => by have := (hown q e.symm).1; omega)).trans (hr.under hX5 hr.lt)
    have hbx6 := hrow6 ab _ _ hz4' hbx
    have hS6 : w6.cell? ⟨g, 0, none⟩ = some (.int .i64 fr) ∧ w6.cell? ⟨g, 1, none⟩ = some (.int .i64 ca) ∧ w6.cell? ⟨g, 2, none⟩ = some (.int .i64 va) ∧ w6.cell? ⟨g, 3, none⟩ = some (.int .i64 tt) := by
      obtain ⟨cs, k1, _, k3⟩ := hlz
      have hbg : w6.heap[g]? = w5.heap[g]? := (hgr.block g (by have := hX5.size; have := k1.lt; omega) (fun e => by
        obtain ⟨cur, k4⟩ := HOn.out.row e.symm
        exact absurd (k1.ty k4) (by decide))).trans (hX5.block g k1.lt)
      have hc : ∀ i : Nat, w6.cell? ⟨g, i, none⟩ = w5.cell? ⟨g, i, none⟩ := fun i => World.cell?_of_block (a := ⟨g, i, none⟩) hbg
      exact ⟨(hc 0).trans c0, (hc 1).trans c1, (hc 2).trans c2, (hc 3).trans c3⟩
    have hsc6 := hrow6 sb _ _ (by omega) hsc
    have d2 : w6.cell? ⟨ab, 2, none⟩ = some (.slice A es.length c) := hbx6.cell 2
    have hgab : g ≠ ab := by have := HX.out.frame.size; omega
    have hS7 : (w6.setCell ⟨ab, 2, none⟩ (.slice A' (es.length + 1) c')).cell? ⟨g, 0, none⟩ = some (.int .i64 fr) ∧ (w6.setCell ⟨ab, 2, none⟩ (.slice A' (es.length + 1) c')).cell? ⟨g, 1, none⟩ = some (.int .i64 ca) ∧ (w6.setCell ⟨ab, 2, none⟩ (.slice A' (es.length + 1) c')).cell? ⟨g, 2, none⟩ = some (.int .i64 va) ∧ (w6.setCell ⟨ab, 2, none⟩ (.slice A' (es.length + 1) c')).cell? ⟨g, 3, none⟩ = some (.int .i64 tt) := by
      have hc : ∀ i : Nat, (w6.setCell ⟨ab, 2, none⟩ (.slice A' (es.length + 1) c')).cell? ⟨g, i, none⟩ = w6.cell? ⟨g, i, none⟩ := fun i => World.cell?_of_block (a := ⟨g, i, none⟩) (Below.heap_setCell _ _ _ _ hgab)
      exact ⟨(hc 0).trans hS6.1, (hc 1).trans hS6.2.1, (hc 2).trans hS6.2.2.1, (hc 3).trans hS6.2.2.2⟩
    have e2 := hbx6.frozen 2
    have hl6 : ab < w6.heap.size := hbx6.lt
    have HX6 : Hid (PaX sb ab gi ga n ini r3 W4 (w6.setCell ⟨ab, 2, none⟩ (.slice A' (es.length + 1) c')) (es ++ [⟨fr, ca, va, tt⟩]) after (.slice A' (es.length + 1) c')) := by
      refine ⟨hfx.set_ 2 _, hbx6.set_ 2 _, (Below.heap_setCell _ _ _ _ (by show sb ≠ ab; omega)).trans hsc6, ?_, ⟨A', c', by rw [List.length_append]; rfl⟩, ?_, ?_, dec_size hdn HX.out.small⟩
      · refine ⟨how.1, ?_⟩
        rcases how.2 with k | ⟨q, cap, cur, k1, k2, k3, k4⟩
        · exact .inl k
        · exact .inr ⟨q, cap, cur, k1, k2, (Below.heap_setCell _ _ _ _ (by show q ≠ ab; omega)).trans k3, k4⟩
      · rw [HX.out.text, htx, edsL_snoc, List.append_assoc]
      · intro x hx
        rw [List.mem_append, List.mem_singleton] at hx
        rcases hx with hx | rfl
        · exact HX.out.rng x hx
        · exact hre
    clear HX hlz hsc hbt hdn htx HB5 hX5 hown how hgr hfx hrow6 hbx6 hsc6 hbx HOn hgz
    have hab5 : ab < w5.heap.size := by omega
    have HAP := Lib.hid hap
    clear hap
    go_upto_region 8 with fail
    clear HKi HKb HPS HNf HNo HG2 HG3 HG4 HRa HRb HB0 HSB HT3 HP3 HT HW2 HZ2 HW4 HZ4 HGr
    have HS6 := Lib.hid (And.intro d2 hS6)
    have HS7 := Lib.hid hS7
    clear hS6 hS7
    have HA2 := Lib.hid a2
    have HC0 := Lib.hid (And.intro c0 (And.intro c1 (And.intro c2 c3)))
    have HES := Lib.hid hes
    have HW45 := Lib.hid hw45
    have HGAB := Lib.hid hgab
    have HLT := Lib.hid hlt
    clear hes hw45 hgab hlt hs h8 hn1 hn2 hil hr3 hsb1 hsa hgi2 hga2 hgi4 hga4 hgis hgas hz4' hre a0 a1
    refine wp_region_last (S := (fun w' => w'.cell? ⟨ab, 2, none⟩ = some (.slice A es.length c) ∧ w'.cell? ⟨g, 0, none⟩ = some (.int .i64 fr) ∧ w'.cell? ⟨g, 1, none⟩ = some (.int .i64 ca) ∧ w'.cell? ⟨g, 2, none⟩ = some (.int .i64 va) ∧ w'.cell? ⟨g, 3, none⟩ = some (.int .i64 tt))) 18 (by kernel_rfl) (by kernel_rfl) ?_ (fun hHeld => ?_)
    · exact ⟨HA2.out, HC0.out⟩
    refine wpAnyH_take (i := 0) (oi := { dst := some 28, op := Go.Op.fieldAddr 31 (Go.Operand.tmp 5) 2, type := 0, pos := "l7_automaton.go:134", after := #[], guard := none }) (v := ?_) rfl (by kernel_rfl) (by kernel_rfl) (by kernel_rfl) (fun _ _ _ h => h) (Or.inl ⟨by rfl, ?_⟩) (by assumption) ?_
    rotate_left
    · intro w hSw
      try dsimp only at hSw
      go_simp
      all_goals (with_reducible rfl)
    try simp only [Act.put, List.setIfInBounds_toArray, List.set_cons_zero, List.set_cons_succ]
    refine wpAnyH_take (i := 1) (oi := { dst := some 29, op := Go.Op.load 29 (Go.Operand.tmp 28), type := 29, pos := "l7_automaton.go:134", after := #[{ on := 0, ground := Go.Ground.data }], guard := none }) (v := ?_) rfl (by kernel_rfl) (by kernel_rfl) (by kernel_rfl) (fun _ _ _ h => h) (Or.inl ⟨by rfl, ?_⟩) (by assumption) ?_
    rotate_left
    · intro w hSw
      try dsimp only at hSw
      go_simp
      all_goals (with_reducible rfl)
    try simp only [Act.put, List.setIfInBounds_toArray, List.set_cons_zero, List.set_cons_succ]
    refine wpAnyH_take (i := 2) (oi := { dst := some 30, op := Go.Op.move (Go.Operand.tmp 7), type := 22, pos := "l7_automaton.go:134", after := #[], guard := none }) (v := ?_) rfl (by kernel_rfl) (by kernel_rfl) (by kernel_rfl) (fun _ _ _ h => h) (Or.inl ⟨by rfl, ?_⟩) (by assumption) ?_
    rotate_left
    · intro w hSw
      try dsimp only at hSw
      go_simp
      all_goals (with_reducible rfl)
    try simp only [Act.put, List.setIfInBounds_toArray, List.set_cons_zero, List.set_cons_succ]
    refine wpAnyH_take (i := 3) (oi := { dst := some 31, op := Go.Op.indexAddr 22 (Go.Operand.tmp 30) (Go.Operand.const (Go.Value.int Go.IntKind.i64 0)), type := 0, pos := "l7_automaton.go:134", after := #[{ on := 2, ground := Go.Ground.data }], guard := none }) (v := ?_) rfl (by kernel_rfl) (by kernel_rfl) (by kernel_rfl) (fun _ _ _ h => h) (Or.inl ⟨by rfl, ?_⟩) (by assumption) ?_
    rotate_left
    · intro w hSw
      try dsimp only at hSw
      go_simp
      all_goals (with_reducible rfl)
    try simp only [Act.put, List.setIfInBounds_toArray, List.set_cons_zero, List.set_cons_succ]
    refine wpAnyH_take (i := 4) (oi := { dst := some 32, op := Go.Op.load 3 (Go.Operand.tmp 31), type := 3, pos := "l7_automaton.go:134", after := #[{ on := 3, ground := Go.Ground.data }], guard := none }) (v := ?_) rfl (by kernel_rfl) (by kernel_rfl) (by kernel_rfl) (fun _ _ _ h => h) (Or.inl ⟨by rfl, ?_⟩) (by assumption) ?_
    rotate_left
    · intro w hSw
      try dsimp only at hSw
      go_simp
      all_goals (with_reducible rfl)
    try simp only [Act.put, List.setIfInBounds_toArray, List.set_cons_zero, List.set_cons_succ]
    refine wpAnyH_take (i := 5) (oi := { dst := some 33, op := Go.Op.move (Go.Operand.tmp 7), type := 22, pos := "l7_automaton.go:134", after := #[], guard := none }) (v := ?_) rfl (by kernel_rfl) (by kernel_rfl) (by kernel_rfl) (fun _ _ _ h => h) (Or.inl ⟨by rfl, ?_⟩) (by assumption) ?_
    rotate_left
    · intro w hSw
      try dsimp only at hSw
      go_simp
      all_goals (with_reducible rfl)
    try simp only [Act.put, List.setIfInBounds_toArray, List.set_cons_zero, List.set_cons_succ]
    refine wpAnyH_take (i := 6) (oi := { dst := some 34, op := Go.Op.indexAddr 22 (Go.Operand.tmp 33) (Go.Operand.const (Go.Value.int Go.IntKind.i64 1)), type := 0, pos := "l7_automaton.go:134", after := #[{ on := 5, ground := Go.Ground.data }], guard := none }) (v := ?_) rfl (by kernel_rfl) (by kernel_rfl) (by kernel_rfl) (fun _ _ _ h => h) (Or.inl ⟨by rfl, ?_⟩) (by assumption) ?_
    rotate_left
    · intro w hSw
      try dsimp only at hSw
      go_simp
      all_goals (with_reducible rfl)
    try simp only [Act.put, List.setIfInBounds_toArray, List.set_cons_zero, List.set_cons_succ]
    refine wpAnyH_take (i := 7) (oi := { dst := some 35, op := Go.Op.load 3 (Go.Operand.tmp 34), type := 3, pos := "l7_automaton.go:134", after := #[{ on := 6, ground := Go.Ground.data }], guard := none }) (v := ?_) rfl (by kernel_rfl) (by kernel_rfl) (by kernel_rfl) (fun _ _ _ h => h) (Or.inl ⟨by rfl, ?_⟩) (by assumption) ?_
    rotate_left
    · intro w hSw
      try dsimp only at hSw
      go_simp
      all_goals (with_reducible rfl)
    try simp only [Act.put, List.setIfInBounds_toArray, List.set_cons_zero, List.set_cons_succ]
    refine wpAnyH_take (i := 8) (oi := { dst := some 36, op := Go.Op.move (Go.Operand.tmp 7), type := 22, pos := "l7_automaton.go:134", after := #[], guard := none }) (v := ?_) rfl (by kernel_rfl) (by kernel_rfl) (by kernel_rfl) (fun _ _ _ h => h) (Or.inl ⟨by rfl, ?_⟩) (by assumption) ?_
    rotate_left
    · intro w hSw
      try dsimp only at hSw
      go_simp
      all_goals (with_reducible rfl)
    try simp only [Act.put, List.setIfInBounds_toArray, List.set_cons_zero, List.set_cons_succ]
    refine wpAnyH_take (i := 9) (oi := { dst := some 37, op := Go.Op.indexAddr 22 (Go.Operand.tmp 36) (Go.Operand.const (Go.Value.int Go.IntKind.i64 2)), type := 0, pos := "l7_automaton.go:134", after := #[{ on := 8, ground := Go.Ground.data }], guard := none }) (v := ?_) rfl (by kernel_rfl) (by kernel_rfl) (by kernel_rfl) (fun _ _ _ h => h) (Or.inl ⟨by rfl, ?_⟩) (by assumption) ?_
    rotate_left
    · intro w hSw
      try dsimp only at hSw
      go_simp
      all_goals (with_reducible rfl)
    try simp only [Act.put, List.setIfInBounds_toArray, List.set_cons_zero, List.set_cons_succ]
    refine wpAnyH_take (i := 10) (oi := { dst := some 38, op := Go.Op.load 3 (Go.Operand.tmp 37), type := 3, pos := "l7_automaton.go:134", after := #[{ on := 9, ground := Go.Ground.data }], guard := none }) (v := ?_) rfl (by kernel_rfl) (by kernel_rfl) (by kernel_rfl) (fun _ _ _ h => h) (Or.inl ⟨by rfl, ?_⟩) (by assumption) ?_
    rotate_left
    · intro w hSw
      try dsimp only at hSw
      go_simp
      all_goals (with_reducible rfl)
    try simp only [Act.put, List.setIfInBounds_toArray, List.set_cons_zero, List.set_cons_succ]
    refine wpAnyH_take (i := 11) (oi := { dst := some 39, op := Go.Op.move (Go.Operand.tmp 7), type := 22, pos := "l7_automaton.go:134", after := #[], guard := none }) (v := ?_) rfl (by kernel_rfl) (by kernel_rfl) (by kernel_rfl) (fun _ _ _ h => h) (Or.inl ⟨by rfl, ?_⟩) (by assumption) ?_
    rotate_left
    · intro w hSw
      try dsimp only at hSw
      go_simp
      all_goals (with_reducible rfl)
    try simp only [Act.put, List.setIfInBounds_toArray, List.set_cons_zero, List.set_cons_succ]
    refine wpAnyH_take (i := 12) (oi := { dst := some 40, op := Go.Op.indexAddr 22 (Go.Operand.tmp 39) (Go.Operand.const (Go.Value.int Go.IntKind.i64 3)), type := 0, pos := "l7_automaton.go:134", after := #[{ on := 11, ground := Go.Ground.data }], guard := none }) (v := ?_) rfl (by kernel_rfl) (by kernel_rfl) (by kernel_rfl) (fun _ _ _ h => h) (Or.inl ⟨by rfl, ?_⟩) (by assumption) ?_
    rotate_left
    · intro w hSw
      try dsimp only at hSw
      go_simp
      all_goals (with_reducible rfl)
    try simp only [Act.put, List.setIfInBounds_toArray, List.set_cons_zero, List.set_cons_succ]
    refine wpAnyH_take (i := 13) (oi := { dst := some 41, op := Go.Op.load 3 (Go.Operand.tmp 40), type := 3, pos := "l7_automaton.go:134", after := #[{ on := 12, ground := Go.Ground.data }], guard := none }) (v := ?_) rfl (by kernel_rfl) (by kernel_rfl) (by kernel_rfl) (fun _ _ _ h => h) (Or.inl ⟨by rfl, ?_⟩) (by assumption) ?_
    rotate_left
    · intro w hSw
      try dsimp only at hSw
      go_simp
      all_goals (with_reducible rfl)
    try simp only [Act.put, List.setIfInBounds_toArray, List.set_cons_zero, List.set_cons_succ]
    refine wpAnyH_take (i := 14) (oi := { dst := some 42, op := Go.Op.build 45 #[(0, Go.Operand.tmp 32), (1, Go.Operand.tmp 35), (2, Go.Operand.tmp 38), (3, Go.Operand.tmp 41)], type := 45, pos := "l7_automaton.go:134", after := #[{ on := 4, ground := Go.Ground.data }, { on := 7, ground := Go.Ground.data }, { on := 10, ground := Go.Ground.data }, { on := 13, ground := Go.Ground.data }], guard := none }) (v := ?_) rfl (by kernel_rfl) (by kernel_rfl) (by kernel_rfl) (fun _ _ _ h => h) (Or.inl ⟨by rfl, ?_⟩) (by assumption) ?_
    rotate_left
    · intro w hSw
      try dsimp only at hSw
      go_simp
      all_goals (with_reducible rfl)
    try simp only [Act.put, List.setIfInBounds_toArray, List.set_cons_zero, List.set_cons_succ]
    refine wpAnyH_ready (rs := [15]) (by kernel_rfl) (by simp) (AllReadyH.cons (o := { dst := some 43, op := Go.Op.buildSlice 29 1 #[(0, Go.Operand.tmp 42)], type := 29, pos := "l7_automaton.go:134", after := #[{ on := 14, ground := Go.Ground.data }], guard := none }) rfl (fun K hK => ?_) AllReadyH.nil)
    go_simp
    refine hK.out _ _ ?_ (fun hHeld => ?_)
    · (first | (go_keep; done) | with_reducible exact HS6.out)
    clear hK K
    try simp only [Act.put, List.setIfInBounds_toArray, List.set_cons_zero, List.set_cons_succ]
    refine wpAnyH_ready (rs := [16]) (by kernel_rfl) (by simp) (AllReadyH.cons (o := { dst := some 44, op := Go.Op.call { callee := Go.Callee.builtin Go.Builtin.append, args := #[Go.Operand.tmp 29, Go.Operand.tmp 43], argTypes := #[29, 29] }, type := 29, pos := "l7_automaton.go:134", after := #[{ on := 1, ground := Go.Ground.data }, { on := 15, ground := Go.Ground.data }], guard := none }) rfl (fun K hK => ?_) AllReadyH.nil)
    with_reducible refine step_append_eq ?_ (.tmp 29) (.tmp 43) 29 ?_ ?_ ?_ HAP.out ?_
    · rfl
    · rfl
    · rfl
    · rfl
    refine hK.out _ _ ?_ (fun hHeld => ?_)
    · (first | (go_keep; done) | with_reducible exact HS6.out)
    clear hK K
    try simp only [Act.put, List.setIfInBounds_toArray, List.set_cons_zero, List.set_cons_succ]
    refine wpAnyH_take (i := 17) (oi := { dst := some 45, op := Go.Op.fieldAddr 31 (Go.Operand.tmp 5) 2, type := 0, pos := "l7_automaton.go:134", after := #[{ on := 0, ground := Go.Ground.phase }, { on := 1, ground := Go.Ground.phase }, { on := 2, ground := Go.Ground.phase }, { on := 3, ground := Go.Ground.phase }, { on := 4, ground := Go.Ground.phase }, { on := 5, ground := Go.Ground.phase }, { on := 6, ground := Go.Ground.phase }, { on := 7, ground := Go.Ground.phase }, { on := 8, ground := Go.Ground.phase }, { on := 9, ground := Go.Ground.phase }, { on := 10, ground := Go.Ground.phase }, { on := 11, ground := Go.Ground.phase }, { on := 12, ground := Go.Ground.phase }, { on := 13, ground := Go.Ground.phase }, { on := 14, ground := Go.Ground.phase }, { on := 15, ground := Go.Ground.phase }, { on := 16, ground := Go.Ground.phase }], guard := none }) (v := ?_) rfl (by kernel_rfl) (by kernel_rfl) (by kernel_rfl) (fun _ _ _ h => h) (Or.inl ⟨by rfl, ?_⟩) (by assumption) ?_
    rotate_left
    · intro w hSw
      try dsimp only at hSw
      go_simp
      all_goals (with_reducible rfl)
    try simp only [Act.put, List.setIfInBounds_toArray, List.set_cons_zero, List.set_cons_succ]
    refine ⟨by kernel_rfl, ?_⟩
    refine then_last (o := { dst := none, op := Go.Op.store 29 (Go.Operand.tmp 45) (Go.Operand.tmp 44), type := 0, pos := "l7_automaton.go:134", after := #[{ on := 17, ground := Go.Ground.data }, { on := 16, ground := Go.Ground.data }, { on := 16, ground := Go.Ground.chain }, { on := 0, ground := Go.Ground.phase }, { on := 1, ground := Go.Ground.phase }, { on := 2, ground := Go.Ground.phase }, { on := 3, ground := Go.Ground.phase }, { on := 4, ground := Go.Ground.phase }, { on := 5, ground := Go.Ground.phase }, { on := 6, ground := Go.Ground.phase }, { on := 7, ground := Go.Ground.phase }, { on := 8, ground := Go.Ground.phase }, { on := 9, ground := Go.Ground.phase }, { on := 10, ground := Go.Ground.phase }, { on := 11, ground := Go.Ground.phase }, { on := 12, ground := Go.Ground.phase }, { on := 13, ground := Go.Ground.phase }, { on := 14, ground := Go.Ground.phase }, { on := 15, ground := Go.Ground.phase }, { on := 16, ground := Go.Ground.phase }], guard := none }) rfl (fun K hK => ?_)
    go_simp
    refine hK.out _ _ ?_
    clear hK K
    all_goals
      (go_wp2_with fail
       go_roundg (2048 - (es.length + 1))
       case rel => exact ⟨es ++ [⟨fr, ca, va, tt⟩], after, _, by rw [List.length_append, List.length_singleton]; have := HES.out; have := HLT.out; omega, HX6⟩
       case measure => (have := HES.out; have := HLT.out; omega))

end Go.Proofs.YtiikphdgnhajeaaDoor

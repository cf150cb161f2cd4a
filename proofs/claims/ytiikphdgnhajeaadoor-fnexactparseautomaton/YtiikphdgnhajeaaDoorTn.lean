/- The walk of (*impl.lineScanner).takeNumbers. -/
import Derived.Test.YtiikphdgnhajeaaDoorFd
import Derived.Test.YtiikphdgnhajeaaDoorV1i
namespace Go.Proofs.YtiikphdgnhajeaaDoor
open Go.RowKit

theorem dec_unique {rest word : ByteArray} {lo hi lo' hi' : Nat} {ps ps' : List (List UInt8)} {after after' : List UInt8} (hw : Wd word) (h : DecP rest word lo hi ps after) (h' : DecP rest word lo' hi' ps' after') : ps = ps' ∧ after = after' := by
  have h1 := dec_cut hw h
  have h2 := dec_cut hw h'
  rw [h1] at h2
  injection h2 with h3 h4
  injection h4 with h4 _
  refine ⟨?_, h4⟩
  have key : ∀ (qs : List (List UInt8)), (∀ p ∈ qs, (32 : UInt8) ∉ p) → qs ≠ [] → (Lib.splitB spB 0 (ps.length + ps'.length) ⟨(joinL qs).toArray⟩).length ≤ ps.length + ps'.length + 1 → qs.length ≤ ps.length + ps'.length + 1 → (Lib.splitB spB 0 (ps.length + ps'.length) ⟨(joinL qs).toArray⟩).map (fun b => b.data.toList) = qs := fun qs hq hne _ hl => split_join qs hne hq _ _ (by simp) hl
  have k1 := key (word.data.toList :: ps) (fun p hp => by rw [List.mem_cons] at hp; rcases hp with rfl | hp; exact hw.1; exact (h.2.2 p hp).1) (by simp) (Lib.splitB_length_le _ _ _ _) (by simp)
  have k2 := key (word.data.toList :: ps') (fun p hp => by rw [List.mem_cons] at hp; rcases hp with rfl | hp; exact hw.1; exact (h'.2.2 p hp).1) (by simp) (Lib.splitB_length_le _ _ _ _) (by simp)
  rw [← h3, k1] at k2
  injection k2

/-- The text begins with a line of this word and these numbers. -/
def DecN (rest word : ByteArray) (lo hi : Nat) (zs : List Int) (after : List UInt8) : Prop := DecP rest word lo hi (zs.map Lib.itoa) after ∧ ∀ z ∈ zs, RgZ z
theorem decN_unique {rest word : ByteArray} {lo hi lo' hi' : Nat} {zs zs' : List Int} {after after' : List UInt8} (hw : Wd word) (h : DecN rest word lo hi zs after) (h' : DecN rest word lo' hi' zs' after') : zs = zs' ∧ after = after' := by
  obtain ⟨h1, h2⟩ := dec_unique hw h.1 h'.1
  refine ⟨?_, h2⟩
  have key : ∀ (a b : List Int), (∀ z ∈ a, RgZ z) → (∀ z ∈ b, RgZ z) → a.map Lib.itoa = b.map Lib.itoa → a = b := by
    intro a
    induction a with
    | nil => intro b _ _ hab; cases b with
      | nil => rfl
      | cons y s => cases hab
    | cons x r ih =>
      intro b ha hb hab
      cases b with
      | nil => cases hab
      | cons y s =>
        rw [List.map_cons, List.map_cons] at hab
        injection hab with e1 e2
        have rx := ha x List.mem_cons_self
        have ry := hb y List.mem_cons_self
        have a1 := atoi_itoa rx.1 rx.2
        rw [e1, atoi_itoa ry.1 ry.2] at a1
        injection a1 with a1
        rw [a1, ih s (fun z hz => ha z (List.mem_cons_of_mem _ hz)) (fun z hz => hb z (List.mem_cons_of_mem _ hz)) e2]
  exact key _ _ h.2 h'.2 h1

/-- Block sb alone has been written, and new blocks made. -/
structure Bt (sb : Nat) (w w' : World) : Prop where
  os : w'.os = w.os
  tape : w'.tape = w.tape
  output : w'.output = w.output
  size : w.heap.size ≤ w'.heap.size
  other : ∀ q, q < w.heap.size → q ≠ sb → w'.heap[q]? = w.heap[q]?
theorem Bt.of_below {sb : Nat} {w w' : World} (h : Below w.heap.size w w') : Bt sb w w' := ⟨h.os, h.tape, h.output, h.size, fun q hq _ => h.block q hq⟩
theorem Bt.trans {sb : Nat} {a b c : World} (h : Bt sb a b) (k : Bt sb b c) : Bt sb a c :=
  ⟨k.os.trans h.os, k.tape.trans h.tape, k.output.trans h.output, Nat.le_trans h.size k.size, fun q hq hn => (k.other q (Nat.lt_of_lt_of_le hq h.size) hn).trans (h.other q hq hn)⟩
theorem Bt.set_ {sb : Nat} {a b : World} (h : Bt sb a b) (i : Nat) (v : Value) : Bt sb a (b.setCell ⟨sb, i, none⟩ v) :=
  ⟨h.os, h.tape, h.output, by simpa using h.size, fun q hq hn => (Below.heap_setCell _ _ _ _ (by simpa using hn)).trans (h.other q hq hn)⟩
theorem Bt.below {sb B : Nat} {w w' : World} (h : Bt sb w w') (hB : B ≤ sb) (hs : B ≤ w.heap.size) : Below B w w' := ⟨h.os, h.tape, h.output, h.size, fun q hq => h.other q (by omega) (by omega)⟩

def TnPost (rest word : ByteArray) (lo hi sb : Nat) (w : World) (e' : Ending) (w' : World) : Prop :=
  ((∃ (zs : List Int) (after : ByteArray) (g : Nat), DecN rest word lo hi zs after.data.toList ∧ e' = .returned (.tuple #[.slice (some ⟨g, 0, none⟩) zs.length zs.length, .bool true]) ∧ Row w' sb 67 #[.string after] ∧ LaidI w' g zs zs.length ∧ w.heap.size ≤ g) ∨
    ((∀ zs after, ¬ DecN rest word lo hi zs after) ∧ e' = .returned (.tuple #[.slice none 0 0, .bool false]) ∧ Row w' sb 67 #[.string rest])) ∧ Bt sb w w'

theorem mem_le_sum : ∀ {l : List Nat} {n : Nat}, n ∈ l → n ≤ l.sum := by
  intro l
  induction l with
  | nil => intro n h; cases h
  | cons x r ih =>
    intro n h
    rw [List.mem_cons] at h
    rw [List.sum_cons]
    rcases h with rfl | h
    · omega
    · have := ih h
      omega
theorem take_succ_eq {X : Type} {l : List X} {j : Nat} {x : X} (h : l[j]? = some x) : l.take (j + 1) = l.take j ++ [x] := by
  have hi := (List.getElem?_eq_some_iff.1 h).1
  rw [List.take_succ_eq_append_getElem hi, (List.getElem?_eq_some_iff.1 h).2]

set_option maxHeartbeats 1000000 in
set_option maxRecDepth 100000 in
theorem takeNums_any (rest word : ByteArray) (lo hi sb : Nat) (w : World) (hg : Glob w) (hs : rest.size ≤ 1048576) (hw : Wd word) (hlo : lo ≤ 1048576) (hh : hi ≤ 1048576) (hr : Row w sb 67 #[.string rest]) :
    Calls Tryd.prog 33 #[.pointer (some ⟨sb, 0, none⟩), .string word, .int .i64 lo, .int .i64 hi] w (TnPost rest word lo hi sb w) := by
  have hlt := hr.lt
  have HG := Lib.hid hg
  have HW := Lib.hid hw
  have HR := Lib.hid hr
  have HFd := Lib.hid (fields_any rest word lo hi sb w hg hs hw hlo hh (hr.cell 0))
  clear hg hw hr
  go_enter Tryd.func33, Tryd.ntmps33
  go_wp2_with fail
  refine HFd.out.mono ?_
  rintro e' w1 ⟨hfd, hb1⟩
  have HB1 := Lib.hid hb1
  have HR1 := Lib.hid (HR.out.under hb1 hlt)
  clear HFd hb1
  rcases hfd with ⟨ps, after, A, b, cap, hdec, rfl, hst⟩ | ⟨hno, rfl⟩
  case inr =>
    have HN : Hid (∀ zs after, ¬ DecN rest word lo hi zs after) := fun zs after h => hno _ _ h.1
    clear hno
    go_wp2_with fail
    go_ret2
    exact ⟨.inr ⟨HN.out, rfl, HR1.out⟩, Bt.of_below HB1.out⟩
  have hpl : ps.length ≤ 1048576 := by have := hdec.2.1.2; rw [List.length_map] at this; omega
  have hsz : ∀ (i : Nat) (p : ByteArray), ps[i]? = some p → p.size ≤ 1048576 := fun i p hp => by
    have h1 := congrArg List.length hdec.1
    have h2 : rest.data.toList.length = rest.size := rfl
    have h3 := joinL_len (word.data.toList :: ps.map fun b => b.data.toList)
    rcases h3 with h3 | h3
    · rw [List.map_cons, List.sum_cons] at h3
      rw [List.length_append] at h1
      have h4 : p.size ≤ ((ps.map fun b => b.data.toList).map List.length).sum := by
        have h5 : p.size ∈ (ps.map fun b => b.data.toList).map List.length := by
          rw [List.mem_map]
          exact ⟨p.data.toList, List.mem_map.2 ⟨p, List.mem_of_getElem? hp, rfl⟩, rfl⟩
        exact mem_le_sum h5
      simp only [List.length_cons, List.length_map] at h1 h3
      omega
    · cases h3
  have HD := Lib.hid hdec
  have HS := Lib.hid hst
  have HZ := Lib.hid hsz
  have hlt1 : w.heap.size ≤ w1.heap.size := HB1.out.size
  have HG1 := Lib.hid (HG.out.keep HB1.out HG.out.size)
  obtain ⟨i0, hi0, hz0, hz1, hz2⟩ := info_parts Tryd.info3
  have hmk := run_make_of (P := Tryd.prog) 22 3 i0 _ Tryd.underlying22 hi0 hz0 ps.length (by rw [hz2]; omega) (by omega)
  rw [hz1] at hmk
  clear hi0 hz0 hz1 hz2 hdec hst hsz
  obtain ⟨cs, hcs⟩ : ∃ cs, cs = madeCells (Value.cells (.int .i64 0)) (ps.length * 1) := ⟨_, rfl⟩
  have hcz : cs.size = ps.length := by rw [hcs, size_madeCells]; omega
  rw [← hcs] at hmk
  have HCZ := Lib.hid hcz
  clear hcs hcz
  go_wp2_with fail
  go_loopw [34] (fun i wl => ∃ (j : Nat) (zs : List Int), j ≤ ps.length ∧ i = .int .i64 j ∧ Hid (ps.take j = zs.map numZ ∧ ∀ z ∈ zs, RgZ z) ∧ Hid (∃ ds : Array Value, Row wl w1.heap.size 3 ds ∧ ds.size = ps.length ∧ ∀ (q : Nat) (z : Int), zs[q]? = some z → ds[q]? = some (.int .i64 z)) ∧ Hid (Below w1.heap.size w1 wl)) (fun i _ => ps.length - (intOf i).toNat)
  case atStart => exact ⟨0, [], Nat.zero_le _, rfl, ⟨rfl, fun z hz => by cases hz⟩, ⟨cs, Row.new _ _ _, HCZ.out, fun q z hz => by cases hz⟩, (Below.refl _ _).alloc (Nat.le_refl _) _⟩
  case round =>
    clear hmk
    obtain ⟨j, zs, hj, rfl, HP, HL, HB⟩ := hrel
    by_cases hjl : j < ps.length
    · obtain ⟨p, hp⟩ : ∃ p, ps[j]? = some p := ⟨_, List.getElem?_eq_getElem hjl⟩
      obtain ⟨rfl, hb, c0⟩ := HS.out.under HB.out HB.out.size j p hp
      have hpz := HZ.out j p hp
      have HPp := Lib.hid hp
      have HGr := Lib.hid (HG1.out.keep HB.out HG1.out.size)
      clear hp
      go_wp2_with fail
      refine (readNum_any p wr HGr.out (by omega)).mono ?_
      rintro e' w2 ⟨hrn, hb2⟩
      have HB2 : Hid (Below w1.heap.size w1 w2) := HB.out.trans (hb2.mono HB.out.size)
      obtain ⟨ds, hdr, hdz, hdk⟩ := HL.out
      have hdr2 := hdr.under hb2 hdr.lt
      clear hb2 c0
      rcases hrn with ⟨z, hz, hpe, rfl⟩ | ⟨hno, rfl⟩
      case inr =>
        have HN : Hid (∀ zs after, ¬ DecN rest word lo hi zs after) := fun zs' after' h => by
          obtain ⟨e1, _⟩ := dec_unique HW.out HD.out h.1
          have h2 := congrArg (fun l => l[j]?) e1
          simp only [List.getElem?_map, HPp.out, Option.map_some] at h2
          obtain ⟨z', hz', h3⟩ := Option.map_eq_some_iff.1 h2.symm
          exact hno z' (h.2 z' (List.mem_of_getElem? hz')) (ByteArray.ext (Array.toList_inj.1 (by rw [numZ_list]; exact h3.symm)))
        clear hdr hdr2 hdk hno
        go_wp2_with fail
        go_ret2
        exact ⟨.inr ⟨HN.out, rfl, HR1.out.under (HB2.out) (by omega)⟩, Bt.of_below (HB1.out.trans (HB2.out.mono HB1.out.size))⟩
      have hzl : zs.length = j := by
        have := congrArg List.length HP.out.1
        rw [List.length_take, List.length_map] at this
        omega
      obtain ⟨u0, c0⟩ : ∃ u0, w2.cell? ⟨w1.heap.size, j, none⟩ = some u0 := ⟨ds[j], by rw [hdr2.cell]; exact Array.getElem?_eq_getElem _⟩
      have f0 := hdr2.frozen j
      have HP2 : Hid (ps.take (j + 1) = (zs ++ [z]).map numZ ∧ ∀ y ∈ zs ++ [z], RgZ y) := by
        refine ⟨by rw [take_succ_eq HPp.out, HP.out.1, List.map_append, hpe]; rfl, fun y hy => ?_⟩
        rw [List.mem_append, List.mem_singleton] at hy
        rcases hy with hy | rfl
        · exact HP.out.2 y hy
        · exact hz
      have HL2 : Hid (∃ ds : Array Value, Row (w2.setCell ⟨w1.heap.size, j, none⟩ (.int .i64 z)) w1.heap.size 3 ds ∧ ds.size = ps.length ∧ ∀ (q : Nat) (y : Int), (zs ++ [z])[q]? = some y → ds[q]? = some (.int .i64 y)) := by
        refine ⟨ds.setIfInBounds j (.int .i64 z), hdr2.set_ _ _, by simpa using hdz, fun q y hy => ?_⟩
        rw [Array.getElem?_setIfInBounds]
        by_cases e : j = q
        · subst e
          rw [List.getElem?_append_right (by omega)] at hy
          simp [hzl] at hy
          subst hy
          rw [if_pos rfl, if_pos (by omega)]
        · rw [if_neg e]
          have hq := (List.getElem?_eq_some_iff.1 hy).1
          rw [List.length_append, List.length_singleton] at hq
          rw [List.getElem?_append_left (by omega)] at hy
          exact hdk q y hy
      have hlw : w1.heap.size < w2.heap.size := hdr2.lt
      clear hdr hdr2 hdk hpe hz HP HL
      go_wp2_with fail
      go_roundw
      case rel => exact ⟨j + 1, zs ++ [z], by omega, by go_num, HP2, HL2, HB2.out.setCell (Nat.le_refl _) _⟩
      case measure => simp [intOf]; omega
    · have hjj : j = ps.length := by omega
      subst hjj
      have hpe : ps = zs.map numZ := by have := HP.out.1; rw [List.take_length] at this; exact this
      have hln : ps.length = zs.length := by rw [hpe, List.length_map]
      have HDn : Hid (DecN rest word lo hi zs after.data.toList) := by
        refine ⟨?_, HP.out.2⟩
        have := HD.out
        rw [hpe, List.map_map] at this
        exact this
      have hrr := HR1.out.under HB.out (by omega)
      have c0 := hrr.cell 0
      have f0 := hrr.frozen 0
      have hlr : sb < wr.heap.size := hrr.lt
      have HRw : Hid (Row (wr.setCell ⟨sb, 0, none⟩ (.string after)) sb 67 #[.string after]) := hrr.set_ 0 _
      have HLw : Hid (LaidI (wr.setCell ⟨sb, 0, none⟩ (.string after)) w1.heap.size zs zs.length) := by
        obtain ⟨ds, h1, h2, h3⟩ := HL.out
        exact ⟨ds, (Below.heap_setCell _ _ _ _ (by show w1.heap.size ≠ sb; omega)).trans h1, by rw [h2, hln], fun q z hz _ => h3 q z hz⟩
      have HBw : Hid (Bt sb w (wr.setCell ⟨sb, 0, none⟩ (.string after))) := (Bt.of_below (HB1.out.trans (HB.out.mono HB1.out.size))).set_ 0 _
      rw [hln]
      clear hrr hpe hln HP HL
      go_wp2_with fail
      go_ret2
      exact ⟨.inl ⟨zs, after, w1.heap.size, HDn.out, rfl, HRw.out, HLw.out, hlt1⟩, HBw.out⟩

end Go.Proofs.YtiikphdgnhajeaaDoor

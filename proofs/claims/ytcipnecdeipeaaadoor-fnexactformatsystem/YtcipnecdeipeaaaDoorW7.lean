/- The walks of laws.toExpr and laws.toExprS: a copy of the tree in rows of its own. -/
import Derived.Test.YtcipnecdeipeaaaDoorBs
import Derived.Test.YtcipnecdeipeaaaDoorOwn
namespace Go.Proofs.YtcipnecdeipeaaaDoor
open Go.RowKit

theorem Tryd.info44 : (Tryd.prog.info? 44).map (fun i => (i.zero, i.size, i.bytes)) = some (some (.agg #[.int .i64 0, .int .i64 0, .slice none 0 0]), 3, 40) := by kernel_rfl

/-- What a copy leaves. -/
def ToPost (e : Ex) (w : World) (e' : Ending) (w' : World) : Prop :=
  ∃ d0 d1 d2 : Value, e' = .returned (.agg #[d0, d1, d2]) ∧ Own w' 44 w.heap.size w'.heap.size e d0 d1 d2 ∧ Below w.heap.size w w'
def ToSPost (kids : List Ex) (w : World) (e' : Ending) (w' : World) : Prop :=
  ∃ g : Nat, e' = .returned (.slice (some ⟨g, 0, none⟩) kids.length kids.length) ∧ w.heap.size ≤ g ∧ Laid w' 44 g kids kids.length ∧ Below w.heap.size w w'

def ToSaid (e : Ex) : Prop := ∀ (c0 c1 c2 : Value) (w : World), Lies w w.heap.size e c0 c1 c2 → desc e ≤ 1048576 → Calls Tryd.prog 56 #[.agg #[c0, c1, c2]] w (ToPost e w)

set_option maxHeartbeats 400000 in
theorem toS_any (kids : List Ex) (ih : ∀ (i : Nat) (x : Ex), kids[i]? = some x → ToSaid x) (A : Option Addr) (cap b off : Nat) (C0 C1 C2 : Nat → Value) (w : World) (hd : descL kids ≤ 1048576)
    (hO : Opened w w.heap.size kids A b off C0 C1 C2) : Calls Tryd.prog 66 #[.slice A kids.length cap] w (ToSPost kids w) := by
  have HIH := Lib.hid ih
  have HO := Lib.hid hO
  clear ih hO
  have hlen : kids.length ≤ 1048576 := by have := descL_length kids; omega
  obtain ⟨i0, hi0, hz0, hz1, hz2⟩ := info_parts Tryd.info44
  have hmk := run_make_of (P := Tryd.prog) 42 44 i0 _ Tryd.underlying42 hi0 hz0 kids.length (by rw [hz2]; omega) (by omega)
  rw [hz1] at hmk
  clear hi0 hz0 hz1 hz2
  obtain ⟨cs, hcs⟩ : ∃ cs, cs = madeCells (Value.cells (.agg #[.int .i64 0, .int .i64 0, .slice none 0 0])) (kids.length * 3) := ⟨_, rfl⟩
  have hsz : cs.size = kids.length * 3 := by rw [hcs, size_madeCells]
  rw [← hcs] at hmk
  have HSZ := Lib.hid hsz
  clear hcs hsz
  go_enter Tryd.func66, Tryd.ntmps66
  go_wp2_with fail
  go_loopw [4] (fun i wl => ∃ j : Nat, j ≤ kids.length ∧ i = .int .i64 j ∧ Hid (Laid wl 44 w.heap.size kids j) ∧ Hid (Below w.heap.size w wl)) (fun i _ => kids.length - (intOf i).toNat)
  case atStart => exact ⟨0, Nat.zero_le _, rfl, Laid.start HSZ.out, (Below.refl _ _).alloc (Nat.le_refl _) _⟩
  case round =>
    clear hmk
    obtain ⟨j, hj, rfl, HL, HB⟩ := hrel
    by_cases hlt : j < kids.length
    · obtain ⟨x, hx⟩ : ∃ x, kids[j]? = some x := ⟨_, List.getElem?_eq_getElem hlt⟩
      obtain ⟨rfl, hb, g0, g1, g2, gl⟩ := HO.out.below HB.out j x hx
      have hdx : desc x ≤ 1048576 := by have := descL_mem (List.mem_of_getElem? hx); omega
      have HG := Lib.hid (gl.more HB.out.size)
      have HX := Lib.hid hx
      clear gl hx
      go_wp2_with fail
      refine (HIH.out j x HX.out _ _ _ _ HG.out hdx).mono ?_
      rintro e' w1 ⟨d0, d1, d2, rfl, ho, hb1⟩
      obtain ⟨n0, n1, a2, l2, cp2, rfl, rfl, rfl⟩ := ho.form
      have HB1 := Lib.hid (HB.out.trans (hb1.mono HB.out.size))
      have hL1 := HL.out.under hb1
      obtain ⟨⟨u0, u1, u2, f0, f1, f2⟩, hfz⟩ := hL1.cells hlt
      have fz0 := hfz (j * 3)
      have fz1 := hfz (j * 3 + 1)
      have fz2 := hfz (j * 3 + 2)
      have HST := Lib.hid (hL1.step hlt HX.out (ho.more (by have := HB.out.size; have := HL.out; obtain ⟨cs', _, _, _, hr, _⟩ := this; exact hr.lt) (Nat.le_refl _)))
      have hg1 : w.heap.size ≤ w1.heap.size := HB1.out.size
      clear hb1 ho HB HL g0 g1 g2 HG hL1 hfz
      go_wp2_with fail
      go_roundw
      case rel => exact ⟨j + 1, by omega, by go_num, HST.out, ((HB1.out.setCell (Nat.le_refl _) _).setCell (Nat.le_refl _) _).setCell (Nat.le_refl _) _⟩
      case measure => simp [intOf]; omega
    · have hjj : j = kids.length := by omega
      subst hjj
      go_wp2_with fail
      go_ret
      exact ⟨_, rfl, Nat.le_refl _, HL.out, HB.out⟩

set_option maxHeartbeats 400000 in
theorem to_any : ∀ e : Ex, ToSaid e := by
  intro e
  induction e using Ex.ind with
  | h k v kids ih =>
    intro c0 c1 c2 w hL hd
    obtain ⟨A, cap, b, off, C0, C1, C2, rfl, rfl, rfl, hl, hO⟩ := hL.open_
    have HIH := Lib.hid ih
    have HO := Lib.hid hO
    have HLn := Lib.hid hl
    have HD := Lib.hid hd
    clear ih hL hO hl hd
    obtain ⟨W3, hW3⟩ : ∃ W3, W3 = ((w.alloc (.cells #[.int .i64 k, .int .i64 v, .slice A kids.length cap] 75)).alloc (.cells #[.int .i64 0, .int .i64 0, .slice none 0 0] 44)).alloc (.cells #[.int .i64 k, .int .i64 v, .slice none 0 0] 44) := ⟨_, rfl⟩
    have HB3 : Hid (Below w.heap.size w W3) := by rw [hW3]; exact (((Below.refl _ _).alloc (Nat.le_refl _) _).alloc (by simp) _).alloc (by simp; omega) _
    have HZ3 : Hid (W3.heap.size = w.heap.size + 3) := by show _ = _; rw [hW3]; simp
    have HR1 : Hid (Row W3 (w.heap.size + 1) 44 #[.int .i64 0, .int .i64 0, .slice none 0 0]) := by
      rw [hW3]
      have := Row.new (w.alloc (.cells #[.int .i64 k, .int .i64 v, .slice A kids.length cap] 75)) 44 #[.int .i64 0, .int .i64 0, .slice none 0 0]
      have h2 : Below (w.heap.size + 2) ((w.alloc (.cells #[.int .i64 k, .int .i64 v, .slice A kids.length cap] 75)).alloc (.cells #[.int .i64 0, .int .i64 0, .slice none 0 0] 44)) (((w.alloc (.cells #[.int .i64 k, .int .i64 v, .slice A kids.length cap] 75)).alloc (.cells #[.int .i64 0, .int .i64 0, .slice none 0 0] 44)).alloc (.cells #[.int .i64 k, .int .i64 v, .slice none 0 0] 44)) := (Below.refl _ _).alloc (by simp) _
      have h3 := Row.under this h2 (by simp)
      rw [show (w.alloc (.cells #[.int .i64 k, .int .i64 v, .slice A kids.length cap] 75)).heap.size = w.heap.size + 1 by simp] at h3
      exact h3
    have HR2 : Hid (Row W3 (w.heap.size + 1 + 1) 44 #[.int .i64 k, .int .i64 v, .slice none 0 0]) := by
      rw [hW3]
      have := Row.new ((w.alloc (.cells #[.int .i64 k, .int .i64 v, .slice A kids.length cap] 75)).alloc (.cells #[.int .i64 0, .int .i64 0, .slice none 0 0] 44)) 44 #[.int .i64 k, .int .i64 v, .slice none 0 0]
      rw [show ((w.alloc (.cells #[.int .i64 k, .int .i64 v, .slice A kids.length cap] 75)).alloc (.cells #[.int .i64 0, .int .i64 0, .slice none 0 0] 44)).heap.size = w.heap.size + 1 + 1 by simp] at this
      exact this
    have HW3 := Lib.hid hW3
    clear hW3
    go_enter Tryd.func56, Tryd.ntmps56
    go_wp2_with fail
    rw [← HW3.out]
    refine (toS_any kids HIH.out A cap b off C0 C1 C2 W3 (by have := HD.out; simpa only [desc] using this) (HO.out.grow HB3.out HB3.out.size)).mono ?_
    rintro e' w1 ⟨g, rfl, hg, hLd, hb1⟩
    have hr1 := HR1.out.under hb1 (by rw [HZ3.out]; omega)
    have hr2 := HR2.out.under hb1 (by rw [HZ3.out]; omega)
    have p0 : w1.cell? ⟨w.heap.size + 1, 0, none⟩ = some (.int .i64 0) := by rw [hr1.cell]; rfl
    have p1 : w1.cell? ⟨w.heap.size + 1, 1, none⟩ = some (.int .i64 0) := by rw [hr1.cell]; rfl
    have p2 : w1.cell? ⟨w.heap.size + 1, 2, none⟩ = some (.slice none 0 0) := by rw [hr1.cell]; rfl
    have q0 : w1.cell? ⟨w.heap.size + 1 + 1, 0, none⟩ = some (.int .i64 k) := by rw [hr2.cell]; rfl
    have q1 : w1.cell? ⟨w.heap.size + 1 + 1, 1, none⟩ = some (.int .i64 v) := by rw [hr2.cell]; rfl
    have q2 : w1.cell? ⟨w.heap.size + 1 + 1, 2, none⟩ = some (.slice none 0 0) := by rw [hr2.cell]; rfl
    have z0 := hr1.frozen 0
    have z1 := hr1.frozen 1
    have z2 := hr1.frozen 2
    have y2 := hr2.frozen 2
    have HLd := Lib.hid hLd
    have HB1 := Lib.hid (HB3.out.trans (hb1.mono HB3.out.size))
    have HG : Hid (w.heap.size + 3 ≤ g) := by show _ ≤ _; rw [← HZ3.out]; exact hg
    clear hr1 hr2 hLd hb1 hg
    go_wp2_with fail
    refine bodyPost_ret (v := .agg #[.int .i64 k, .int .i64 v, .slice (some ⟨g, 0, none⟩) kids.length kids.length]) (by simp [results, Tryd.results56, go_sem, p0, p1, p2]) rfl ⟨_, _, _, rfl, ?_, ?_⟩
    · refine (HLd.out.own HLn.out k v kids.length).keep (by have := HG.out; omega) (by simp) fun q hq _ => ?_
      have := HG.out
      rw [Below.heap_setCell _ _ _ _ (by simp; omega), Below.heap_setCell _ _ _ _ (by simp; omega), Below.heap_setCell _ _ _ _ (by simp; omega), Below.heap_setCell _ _ _ _ (by simp; omega)]
    · exact (((HB1.out.setCell (by simp; omega) _).setCell (by simp) _).setCell (by simp) _).setCell (by simp) _

end Go.Proofs.YtcipnecdeipeaaaDoor

/- The walks of spec.SameWord and impl.SameWord. -/
import Derived.Test.YtogfpgkdofhoaaaRdS
import Derived.Test.YtogfpgkdofhoaaaRdI
import Derived.Test.YtogfpgkdofhoaaaLaV
namespace Go.Proofs.Ytogfpgkdofhoaaa
namespace La
open Go.RowKit

/-- Two lassos are of one word. -/
def swB (e f : St) : Bool := laOk e && (laOk f && stSame (redSt e) (redSt f))
theorem redSt_sz {s : St} (h : Lay.sta.sz s ≤ 1048576) : Lay.sta.sz (redSt s) ≤ 1048576 := by
  rw [sta_sz] at h ⊢
  unfold redSt
  split
  · have := redK_len s.locs s.locs.length (s.vals.take (per s.vals))
    rw [List.length_take] at this
    omega
  · exact Nat.zero_le _

set_option maxHeartbeats 2000000 in
set_option maxRecDepth 100000 in
theorem specSw_any (e : St) (ga gb : Nat) (f : St) (gc gd : Nat) (w : World) (hL : Lay.sta.lies w w.heap.size e (fun j => (arr e ga gb).getD j undef)) (hM : Lay.sta.lies w w.heap.size f (fun j => (arr f gc gd).getD j undef)) (hd : Lay.sta.sz e ≤ 1048576) (hd2 : Lay.sta.sz f ≤ 1048576) :
    Calls Try.prog 12 #[.agg (arr e ga gb), .agg (arr f gc gd)] w fun e' w' => e' = .returned (.bool (swB e f)) ∧ Below w.heap.size w w' := by
  have HRz := Lib.hid (redSt_sz hd)
  have HRy := Lib.hid (redSt_sz hd2)
  obtain ⟨W1, hW1⟩ : ∃ W1, W1 = (w.alloc (.cells #[.slice (some ⟨ga, 0, none⟩) e.locs.length e.locs.length, .slice (some ⟨gb, 0, none⟩) e.vals.length e.vals.length] 26)).alloc (.cells #[.slice (some ⟨gc, 0, none⟩) f.locs.length f.locs.length, .slice (some ⟨gd, 0, none⟩) f.vals.length f.vals.length] 26) := ⟨_, rfl⟩
  have hrows := rows2 w 26 26 #[.slice (some ⟨ga, 0, none⟩) e.locs.length e.locs.length, .slice (some ⟨gb, 0, none⟩) e.vals.length e.vals.length] #[.slice (some ⟨gc, 0, none⟩) f.locs.length f.locs.length, .slice (some ⟨gd, 0, none⟩) f.vals.length f.vals.length]
  rw [← hW1] at hrows
  obtain ⟨hra, hrb, hb0⟩ := hrows
  have HL := Lib.hid (Lay.sta.later hL hb0 hb0.size)
  have HM := Lib.hid (Lay.sta.later hM hb0 hb0.size)
  have HB0 := Lib.hid hb0
  have HW1 := Lib.hid hW1
  have HRb := Lib.hid hrb
  have HD := Lib.hid hd
  have HD2 := Lib.hid hd2
  have hlt1 : w.heap.size + 1 < W1.heap.size := hrb.lt
  obtain ⟨va, hva⟩ : ∃ v, v = laOk e := ⟨_, rfl⟩
  obtain ⟨vb, hvb⟩ : ∃ v, v = laOk f := ⟨_, rfl⟩
  obtain ⟨T, hT⟩ : ∃ T, T = redSt e := ⟨_, rfl⟩
  obtain ⟨U, hU⟩ : ∃ U, U = redSt f := ⟨_, rfl⟩
  obtain ⟨o, ho⟩ : ∃ o, o = stSame T U := ⟨_, rfl⟩
  have HSw : Hid (swB e f = (va && (vb && o))) := by show _ = _; unfold swB; rw [ho, hT, hU, hva, hvb]
  rw [← hT] at HRz
  rw [← hU] at HRy
  have HVa := Lib.hid hva
  have HVb := Lib.hid hvb
  have HT := Lib.hid hT
  have HU := Lib.hid hU
  have HO := Lib.hid ho
  unfold arr at hL hM ⊢
  clear hL hM hb0 hra hrb hd hd2 hW1 hva hvb hT hU ho
  go_enter Try.func12, Try.ntmps12
  go_wp2_with fail
  rw [← HW1.out]
  refine (specRd_any e ga gb W1 HL.out HD.out).mono ?_
  rintro e' w1 ⟨X0, Y0, rfl, hS0, hb1⟩
  rw [← HT.out] at hS0
  rw [← HVa.out]
  obtain ⟨xa0, xc0, ya0, yc0, rfl, rfl⟩ := hS0.form
  obtain ⟨V1, hV1⟩ : ∃ V1, V1 = w1.alloc (.cells #[.slice xa0 T.locs.length xc0, .slice ya0 T.vals.length yc0] 26) := ⟨_, rfl⟩
  have hbv : Below w1.heap.size w1 V1 := by rw [hV1]; exact (Below.refl _ _).alloc (Nat.le_refl _) _
  have HR1 : Hid (Row V1 w1.heap.size 26 #[.slice xa0 T.locs.length xc0, .slice ya0 T.vals.length yc0]) := by rw [hV1]; exact Row.new _ _ _
  have HS1 : Hid (StR V1 W1.heap.size w1.heap.size T (.slice xa0 T.locs.length xc0) (.slice ya0 T.vals.length yc0)) := hS0.under hbv (Nat.le_refl _)
  have HB1 : Hid (Below W1.heap.size W1 V1) := hb1.trans (hbv.mono hb1.size)
  have h11 : w1.heap.size < V1.heap.size := HR1.out.lt
  have h01 : W1.heap.size ≤ w1.heap.size := hb1.size
  have hlw1 : w.heap.size + 1 < w1.heap.size := by omega
  have HV1 := Lib.hid hV1
  obtain ⟨g0, g1⟩ := (HRb.out.under hb1 HRb.out.lt).two
  clear hb1 hS0 hV1 hbv
  go_wp2_with fail
  rw [← HV1.out]
  refine (specRd_any f gc gd V1 (Lay.sta.later HM.out HB1.out HB1.out.size) HD2.out).mono ?_
  rintro e' w2 ⟨X1, Y1, rfl, hS2, hb2⟩
  rw [← HU.out] at hS2
  rw [← HVb.out]
  obtain ⟨xa1, xc1, ya1, yc1, rfl, rfl⟩ := hS2.form
  obtain ⟨V2, hV2⟩ : ∃ V2, V2 = w2.alloc (.cells #[.slice xa1 U.locs.length xc1, .slice ya1 U.vals.length yc1] 26) := ⟨_, rfl⟩
  have hbv : Below w2.heap.size w2 V2 := by rw [hV2]; exact (Below.refl _ _).alloc (Nat.le_refl _) _
  have HR2 : Hid (Row V2 w2.heap.size 26 #[.slice xa1 U.locs.length xc1, .slice ya1 U.vals.length yc1]) := by rw [hV2]; exact Row.new _ _ _
  have h12 : V1.heap.size ≤ w2.heap.size := hb2.size
  have hr1w := HR1.out.under hb2 HR1.out.lt
  have HR12 := Lib.hid (hr1w.under hbv hr1w.lt)
  have HS12 : Hid (StR V2 W1.heap.size w1.heap.size T (.slice xa0 T.locs.length xc0) (.slice ya0 T.vals.length yc0)) := (HS1.out.under hb2 (by omega)).under hbv (by omega)
  have HS22 : Hid (StR V2 V1.heap.size w2.heap.size U (.slice xa1 U.locs.length xc1) (.slice ya1 U.vals.length yc1)) := hS2.under hbv (Nat.le_refl _)
  have HB2 : Hid (Below W1.heap.size W1 V2) := (HB1.out.trans (hb2.mono HB1.out.size)).trans (hbv.mono (by omega))
  have hbv2 := hbv.size
  have HV2 := Lib.hid hV2
  have hw12 : w1.heap.size < w2.heap.size := by omega
  obtain ⟨r0, r1⟩ := hr1w.two
  clear hb2 hS2 hV2 hbv g0 g1 HS1 HR1 hr1w
  have HBw : Hid (Below w.heap.size w V2) := HB0.out.trans (HB2.out.mono HB0.out.size)
  cases va
  · go_wp2_with fail
    rw [← HV2.out]
    go_ret
    exact ⟨ret_bool (by rw [HSw.out]; rfl), HBw.out⟩
  cases vb
  · go_wp2_with fail
    rw [← HV2.out]
    go_ret
    exact ⟨ret_bool (by rw [HSw.out]; rfl), HBw.out⟩
  go_wp2_with fail
  rw [← HV2.out]
  refine (specStS_any T (fun j => (#[.slice xa0 T.locs.length xc0, .slice ya0 T.vals.length yc0] : Array Value).getD j undef) U (fun j => (#[.slice xa1 U.locs.length xc1, .slice ya1 U.vals.length yc1] : Array Value).getD j undef) V2 (HS12.out.lies (by omega)) (HS22.out.lies (by omega)) HRz.out HRy.out).mono ?_
  rintro e' w3 ⟨rfl, hb3⟩
  rw [← HO.out]
  have HB3 : Hid (Below w.heap.size w w3) := HBw.out.trans (hb3.mono HBw.out.size)
  clear hb3
  go_wp2_with fail
  go_ret
  exact ⟨ret_bool (by rw [HSw.out]; rfl), HB3.out⟩

set_option maxHeartbeats 2000000 in
set_option maxRecDepth 100000 in
theorem implSw_any (e : St) (ga gb : Nat) (f : St) (gc gd : Nat) (w : World) (hL : Lay.sta.lies w w.heap.size e (fun j => (arr e ga gb).getD j undef)) (hM : Lay.sta.lies w w.heap.size f (fun j => (arr f gc gd).getD j undef)) (hd : Lay.sta.sz e ≤ 1048576) (hd2 : Lay.sta.sz f ≤ 1048576) :
    Calls Try.prog 13 #[.agg (arr e ga gb), .agg (arr f gc gd)] w fun e' w' => e' = .returned (.bool (swB e f)) ∧ Below w.heap.size w w' := by
  have HRz := Lib.hid (redSt_sz hd)
  have HRy := Lib.hid (redSt_sz hd2)
  obtain ⟨W1, hW1⟩ : ∃ W1, W1 = (w.alloc (.cells #[.slice (some ⟨ga, 0, none⟩) e.locs.length e.locs.length, .slice (some ⟨gb, 0, none⟩) e.vals.length e.vals.length] 26)).alloc (.cells #[.slice (some ⟨gc, 0, none⟩) f.locs.length f.locs.length, .slice (some ⟨gd, 0, none⟩) f.vals.length f.vals.length] 26) := ⟨_, rfl⟩
  have hrows := rows2 w 26 26 #[.slice (some ⟨ga, 0, none⟩) e.locs.length e.locs.length, .slice (some ⟨gb, 0, none⟩) e.vals.length e.vals.length] #[.slice (some ⟨gc, 0, none⟩) f.locs.length f.locs.length, .slice (some ⟨gd, 0, none⟩) f.vals.length f.vals.length]
  rw [← hW1] at hrows
  obtain ⟨hra, hrb, hb0⟩ := hrows
  have HL := Lib.hid (Lay.sta.later hL hb0 hb0.size)
  have HM := Lib.hid (Lay.sta.later hM hb0 hb0.size)
  have HB0 := Lib.hid hb0
  have HW1 := Lib.hid hW1
  have HRb := Lib.hid hrb
  have HD := Lib.hid hd
  have HD2 := Lib.hid hd2
  have hlt1 : w.heap.size + 1 < W1.heap.size := hrb.lt
  obtain ⟨va, hva⟩ : ∃ v, v = laOk e := ⟨_, rfl⟩
  obtain ⟨vb, hvb⟩ : ∃ v, v = laOk f := ⟨_, rfl⟩
  obtain ⟨T, hT⟩ : ∃ T, T = redSt e := ⟨_, rfl⟩
  obtain ⟨U, hU⟩ : ∃ U, U = redSt f := ⟨_, rfl⟩
  obtain ⟨o, ho⟩ : ∃ o, o = stSame T U := ⟨_, rfl⟩
  have HSw : Hid (swB e f = (va && (vb && o))) := by show _ = _; unfold swB; rw [ho, hT, hU, hva, hvb]
  rw [← hT] at HRz
  rw [← hU] at HRy
  have HVa := Lib.hid hva
  have HVb := Lib.hid hvb
  have HT := Lib.hid hT
  have HU := Lib.hid hU
  have HO := Lib.hid ho
  unfold arr at hL hM ⊢
  clear hL hM hb0 hra hrb hd hd2 hW1 hva hvb hT hU ho
  go_enter Try.func13, Try.ntmps13
  go_wp2_with fail
  rw [← HW1.out]
  refine (implRd_any e ga gb W1 HL.out HD.out).mono ?_
  rintro e' w1 ⟨X0, Y0, rfl, hS0, hb1⟩
  rw [← HT.out] at hS0
  rw [← HVa.out]
  obtain ⟨xa0, xc0, ya0, yc0, rfl, rfl⟩ := hS0.form
  obtain ⟨V1, hV1⟩ : ∃ V1, V1 = w1.alloc (.cells #[.slice xa0 T.locs.length xc0, .slice ya0 T.vals.length yc0] 26) := ⟨_, rfl⟩
  have hbv : Below w1.heap.size w1 V1 := by rw [hV1]; exact (Below.refl _ _).alloc (Nat.le_refl _) _
  have HR1 : Hid (Row V1 w1.heap.size 26 #[.slice xa0 T.locs.length xc0, .slice ya0 T.vals.length yc0]) := by rw [hV1]; exact Row.new _ _ _
  have HS1 : Hid (StR V1 W1.heap.size w1.heap.size T (.slice xa0 T.locs.length xc0) (.slice ya0 T.vals.length yc0)) := hS0.under hbv (Nat.le_refl _)
  have HB1 : Hid (Below W1.heap.size W1 V1) := hb1.trans (hbv.mono hb1.size)
  have h11 : w1.heap.size < V1.heap.size := HR1.out.lt
  have h01 : W1.heap.size ≤ w1.heap.size := hb1.size
  have hlw1 : w.heap.size + 1 < w1.heap.size := by omega
  have HV1 := Lib.hid hV1
  obtain ⟨g0, g1⟩ := (HRb.out.under hb1 HRb.out.lt).two
  clear hb1 hS0 hV1 hbv
  go_wp2_with fail
  rw [← HV1.out]
  refine (implRd_any f gc gd V1 (Lay.sta.later HM.out HB1.out HB1.out.size) HD2.out).mono ?_
  rintro e' w2 ⟨X1, Y1, rfl, hS2, hb2⟩
  rw [← HU.out] at hS2
  rw [← HVb.out]
  obtain ⟨xa1, xc1, ya1, yc1, rfl, rfl⟩ := hS2.form
  obtain ⟨V2, hV2⟩ : ∃ V2, V2 = w2.alloc (.cells #[.slice xa1 U.locs.length xc1, .slice ya1 U.vals.length yc1] 26) := ⟨_, rfl⟩
  have hbv : Below w2.heap.size w2 V2 := by rw [hV2]; exact (Below.refl _ _).alloc (Nat.le_refl _) _
  have HR2 : Hid (Row V2 w2.heap.size 26 #[.slice xa1 U.locs.length xc1, .slice ya1 U.vals.length yc1]) := by rw [hV2]; exact Row.new _ _ _
  have h12 : V1.heap.size ≤ w2.heap.size := hb2.size
  have hr1w := HR1.out.under hb2 HR1.out.lt
  have HR12 := Lib.hid (hr1w.under hbv hr1w.lt)
  have HS12 : Hid (StR V2 W1.heap.size w1.heap.size T (.slice xa0 T.locs.length xc0) (.slice ya0 T.vals.length yc0)) := (HS1.out.under hb2 (by omega)).under hbv (by omega)
  have HS22 : Hid (StR V2 V1.heap.size w2.heap.size U (.slice xa1 U.locs.length xc1) (.slice ya1 U.vals.length yc1)) := hS2.under hbv (Nat.le_refl _)
  have HB2 : Hid (Below W1.heap.size W1 V2) := (HB1.out.trans (hb2.mono HB1.out.size)).trans (hbv.mono (by omega))
  have hbv2 := hbv.size
  have HV2 := Lib.hid hV2
  have hw12 : w1.heap.size < w2.heap.size := by omega
  obtain ⟨r0, r1⟩ := hr1w.two
  clear hb2 hS2 hV2 hbv g0 g1 HS1 HR1 hr1w
  have HBw : Hid (Below w.heap.size w V2) := HB0.out.trans (HB2.out.mono HB0.out.size)
  cases va
  · go_wp2_with fail
    rw [← HV2.out]
    go_ret
    exact ⟨ret_bool (by rw [HSw.out]; rfl), HBw.out⟩
  cases vb
  · go_wp2_with fail
    rw [← HV2.out]
    go_ret
    exact ⟨ret_bool (by rw [HSw.out]; rfl), HBw.out⟩
  go_wp2_with fail
  rw [← HV2.out]
  refine (implStS_any T (fun j => (#[.slice xa0 T.locs.length xc0, .slice ya0 T.vals.length yc0] : Array Value).getD j undef) U (fun j => (#[.slice xa1 U.locs.length xc1, .slice ya1 U.vals.length yc1] : Array Value).getD j undef) V2 (HS12.out.lies (by omega)) (HS22.out.lies (by omega)) HRz.out HRy.out).mono ?_
  rintro e' w3 ⟨rfl, hb3⟩
  rw [← HO.out]
  have HB3 : Hid (Below w.heap.size w w3) := HBw.out.trans (hb3.mono HBw.out.size)
  clear hb3
  go_wp2_with fail
  go_ret
  exact ⟨ret_bool (by rw [HSw.out]; rfl), HB3.out⟩

end La
end Go.Proofs.Ytogfpgkdofhoaaa

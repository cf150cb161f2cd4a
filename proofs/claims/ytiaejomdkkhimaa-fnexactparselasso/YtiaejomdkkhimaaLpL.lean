/- The walk of the law laws.FnExactParseLasso. -/
import Derived.Test.YtiaejomdkkhimaaLpS
import Derived.Test.YtiaejomdkkhimaaLpI
import Derived.Test.YtiaejomdkkhimaaLaM
namespace Go.Proofs.Ytiaejomdkkhimaa
namespace La
open Go.RowKit

set_option maxHeartbeats 4000000 in
set_option maxRecDepth 100000 in
theorem lawLp_any (s : ByteArray) (w : World) :
    Calls Try.prog 8 #[.string s] w fun e' w' => e' = .returned (.bool true) ∧ Below w.heap.size w w' := by
  by_cases hs : 1048576 < s.size
  · have hsI : (1048576 : Int) < (s.size : Int) := by omega
    go_enter Try.func8, Try.ntmps8
    go_wp2_with fail
    go_ret
    exact ⟨rfl, Below.refl _ _⟩
  have hs2 : s.size ≤ 1048576 := by omega
  have hsI : ¬ (1048576 : Int) < (s.size : Int) := by omega
  have HS := Lib.hid hs2
  clear hs hs2
  obtain ⟨T, hT⟩ : ∃ T, T = stL s := ⟨_, rfl⟩
  obtain ⟨v, hv⟩ : ∃ v, v = okL s := ⟨_, rfl⟩
  have hT1 : T.locs.length ≤ 1048576 := by rw [hT]; exact (stL_le HS.out).1
  have hT2 : T.vals.length ≤ 1048576 := by rw [hT]; exact (stL_le HS.out).2
  have HT := Lib.hid hT
  have HV := Lib.hid hv
  clear hT hv
  go_enter Try.func8, Try.ntmps8
  go_wp2_with fail
  refine (specLp_any s w HS.out).mono ?_
  rintro e' w3 ⟨X0, Y0, rfl, hS0, hb3⟩
  rw [← HT.out] at hS0
  rw [← HV.out]
  obtain ⟨xa0, xc0, ya0, yc0, rfl, rfl⟩ := hS0.form
  obtain ⟨V3, hV3⟩ : ∃ V3, V3 = w3.alloc (.cells #[.slice xa0 T.locs.length xc0, .slice ya0 T.vals.length yc0] 27) := ⟨_, rfl⟩
  have hbv3 : Below w3.heap.size w3 V3 := by rw [hV3]; exact (Below.refl _ _).alloc (Nat.le_refl _) _
  have HRw : Hid (Row V3 w3.heap.size 27 #[.slice xa0 T.locs.length xc0, .slice ya0 T.vals.length yc0]) := by rw [hV3]; exact Row.new _ _ _
  have HS0 : Hid (StR V3 w.heap.size w3.heap.size T (.slice xa0 T.locs.length xc0) (.slice ya0 T.vals.length yc0)) := hS0.under hbv3 (Nat.le_refl _)
  have HBv : Hid (Below w.heap.size w V3) := hb3.trans (hbv3.mono hb3.size)
  have HV3 := Lib.hid hV3
  have h33 : w3.heap.size < V3.heap.size := HRw.out.lt
  have h03 : w.heap.size ≤ w3.heap.size := hb3.size
  clear hb3 hS0 hV3 hbv3
  go_wp2_with fail
  rw [← HV3.out]
  refine (implLp_any s _ HS.out).mono ?_
  rintro e' w6 ⟨X1, Y1, rfl, hS1, hb6⟩
  rw [← HT.out] at hS1
  rw [← HV.out]
  obtain ⟨xa1, xc1, ya1, yc1, rfl, rfl⟩ := hS1.form
  obtain ⟨V6, hV6⟩ : ∃ V6, V6 = w6.alloc (.cells #[.slice xa1 T.locs.length xc1, .slice ya1 T.vals.length yc1] 27) := ⟨_, rfl⟩
  have hbv6 : Below w6.heap.size w6 V6 := by rw [hV6]; exact (Below.refl _ _).alloc (Nat.le_refl _) _
  have h56 : V3.heap.size ≤ w6.heap.size := hb6.size
  have HRg : Hid (Row V6 w6.heap.size 27 #[.slice xa1 T.locs.length xc1, .slice ya1 T.vals.length yc1]) := by rw [hV6]; exact Row.new _ _ _
  have HS1 : Hid (StR V6 V3.heap.size w6.heap.size T (.slice xa1 T.locs.length xc1) (.slice ya1 T.vals.length yc1)) := hS1.under hbv6 (Nat.le_refl _)
  have hrw6 := HRw.out.under hb6 HRw.out.lt
  have HRw6 := Lib.hid (hrw6.under hbv6 hrw6.lt)
  have HS06 := Lib.hid ((HS0.out.under hb6 (by omega)).under hbv6 (by omega))
  have HB6 : Hid (Below w.heap.size w V6) := (HBv.out.trans (hb6.mono HBv.out.size)).trans (hbv6.mono (by omega))
  have h66 : w6.heap.size < V6.heap.size := HRg.out.lt
  have h36 : w3.heap.size < w6.heap.size := by omega
  have HV6 := Lib.hid hV6
  obtain ⟨r0, r1⟩ := hrw6.two
  clear hS1 hb6 hbv6 hrw6 hV6 HRw HS0 HBv
  go_wp2_with fail
  rw [← HV6.out]
  refine (eqSt_any T (fun j => (#[.slice xa1 T.locs.length xc1, .slice ya1 T.vals.length yc1] : Array Value).getD j undef) (fun j => (#[.slice xa0 T.locs.length xc0, .slice ya0 T.vals.length yc0] : Array Value).getD j undef) _ (HS1.out.lies (by omega)) (HS06.out.lies (by omega))).mono ?_
  rintro e' w7 ⟨rfl, hb7⟩
  have HS17 := Lib.hid (HS1.out.under hb7 (by omega))
  have HS07 := Lib.hid (HS06.out.under hb7 (by omega))
  have hrg7 := HRg.out.under hb7 HRg.out.lt
  have HRg7 := Lib.hid hrg7
  have HRw7 := Lib.hid (HRw6.out.under hb7 HRw6.out.lt)
  have HB7 : Hid (Below w.heap.size w w7) := HB6.out.trans (hb7.mono HB6.out.size)
  have h67 : V6.heap.size ≤ w7.heap.size := hb7.size
  clear r0 r1
  obtain ⟨q0, q1⟩ := hrg7.two
  clear hb7 HS1 HS06 HB6 HRg HRw6 hrg7
  go_wp2_with fail
  refine (mkSt_any T xa1 _ xc1 ya1 _ yc1 _ _ _ HS17.out (by omega) hT1 hT2).mono ?_
  rintro e' wf ⟨rfl, hsf, hkf⟩
  have HSf1 := Lib.hid hsf
  have HSf0 := Lib.hid (HS07.out.kept hkf (by omega) (.inl (by omega)))
  have hrgf := HRg7.out.kept hkf (.inr (by omega))
  have HRgf := Lib.hid hrgf
  have HRwf := Lib.hid (HRw7.out.kept hkf (.inl (by omega)))
  have HBg : Hid (Below w.heap.size w wf) := HB7.out.trans (hkf.below (by omega) (by omega))
  have hef : w7.heap.size ≤ wf.heap.size := hkf.size
  clear q0 q1
  obtain ⟨q0, q1⟩ := hrgf.two
  clear hsf hkf HS17 HS07 HB7 hrgf HRg7 HRw7
  go_wp2_with fail
  refine (heldSt_any T (fun j => (#[.slice xa1 T.locs.length xc1, .slice ya1 T.vals.length yc1] : Array Value).getD j undef) _ (HSf1.out.lies (by omega)) hT1 hT2).mono ?_
  rintro e' wg ⟨rfl, hbg⟩
  have HSg1 := Lib.hid (HSf1.out.under hbg (by omega))
  have HSg0 := Lib.hid (HSf0.out.under hbg (by omega))
  have HRgg := Lib.hid (HRgf.out.under hbg HRgf.out.lt)
  have HRwg := Lib.hid (HRwf.out.under hbg HRwf.out.lt)
  have HBh : Hid (Below w.heap.size w wg) := HBg.out.trans (hbg.mono HBg.out.size)
  have hfg : wf.heap.size ≤ wg.heap.size := hbg.size
  clear hbg HSf1 HSf0 HBg q0 q1 HRgf HRwf
  go_wp2_with fail
  refine (implLp_any s _ HS.out).mono ?_
  rintro e' wi ⟨X2, Y2, rfl, hS2, hbi⟩
  rw [← HT.out] at hS2
  rw [← HV.out]
  obtain ⟨xa2, xc2, ya2, yc2, rfl, rfl⟩ := hS2.form
  obtain ⟨Vi, hVi⟩ : ∃ Vi, Vi = wi.alloc (.cells #[.slice xa2 T.locs.length xc2, .slice ya2 T.vals.length yc2] 27) := ⟨_, rfl⟩
  have hbvi : Below wi.heap.size wi Vi := by rw [hVi]; exact (Below.refl _ _).alloc (Nat.le_refl _) _
  have hhi : wg.heap.size ≤ wi.heap.size := hbi.size
  have hii := hbvi.size
  have HS2 := Lib.hid (hS2.under hbvi (Nat.le_refl _))
  have HSi1 := Lib.hid ((HSg1.out.under hbi (by omega)).under hbvi (by omega))
  have HSi0 := Lib.hid ((HSg0.out.under hbi (by omega)).under hbvi (by omega))
  have HRgi := Lib.hid ((HRgg.out.under hbi HRgg.out.lt).under hbvi (by omega))
  have hrwi := HRwg.out.under hbi HRwg.out.lt
  have HBj : Hid (Below w.heap.size w Vi) := (HBh.out.trans (hbi.mono HBh.out.size)).trans (hbvi.mono (by omega))
  have HVi := Lib.hid hVi
  have h3i : w3.heap.size < wi.heap.size := by omega
  obtain ⟨r0, r1⟩ := hrwi.two
  clear hbi hS2 HSg1 HSg0 HBh hVi hbvi hrwi HRgg HRwg
  go_wp2_with fail
  rw [← HVi.out]
  refine (eqSt_any T (fun j => (#[.slice xa2 T.locs.length xc2, .slice ya2 T.vals.length yc2] : Array Value).getD j undef) (fun j => (#[.slice xa0 T.locs.length xc0, .slice ya0 T.vals.length yc0] : Array Value).getD j undef) _ (HS2.out.lies (by omega)) (HSi0.out.lies (by omega))).mono ?_
  rintro e' wj ⟨rfl, hbj⟩
  have HSj1 := Lib.hid (HSi1.out.under hbj (by omega))
  have hrgj := HRgi.out.under hbj HRgi.out.lt
  have HBk : Hid (Below w.heap.size w wj) := HBj.out.trans (hbj.mono HBj.out.size)
  have hij := hbj.size
  obtain ⟨q0, q1⟩ := hrgj.two
  clear hbj HSi1 HSi0 HBj r0 r1 hrgj HRgi
  go_wp2_with fail
  refine (heldSt_any T (fun j => (#[.slice xa1 T.locs.length xc1, .slice ya1 T.vals.length yc1] : Array Value).getD j undef) _ (HSj1.out.lies (by omega)) hT1 hT2).mono ?_
  rintro e' wk ⟨rfl, hbk⟩
  have HBl : Hid (Below w.heap.size w wk) := HBk.out.trans (hbk.mono HBk.out.size)
  clear hbk HBk
  go_wp2_with fail
  go_ret
  exact ⟨rfl, HBl.out⟩

end La
end Go.Proofs.Ytiaejomdkkhimaa

/- Joined texts: NuP, NuGr, TvC. Nothing is assumed. -/
import Derived.Test.YtldnegacgjijlaaNuAQ
import Derived.Lib.AppendZeros
import Derived.IntWalk
namespace Go.Proofs.Ytldnegacgjijlaa
namespace La
open Go.RowKit

/-- What a function leaves that gives a row of numbers of its own. -/
def RowPost (zs : List Int) (w : World) (e' : Ending) (w' : World) : Prop :=
  ∃ (A : Option Addr) (k : Nat), e' = .returned (.slice A zs.length k) ∧ (Lay.int.slice 3).sep w' w.heap.size w'.heap.size zs (fun _ => .slice A zs.length k) ∧ Below w.heap.size w w'
theorem sep_nil (w : World) (lo hi : Nat) (h : lo ≤ hi) (A : Option Addr) (k : Nat) : (Lay.int.slice 3).sep w lo hi [] (fun _ => .slice A 0 k) :=
  ⟨A, k, 0, #[], fun _ _ => undef, fun _ => lo, rfl, Nat.zero_le _, fun _ _ => Nat.le_refl _, Nat.le_refl _, h, fun i x hx => by simp at hx⟩

end La
end Go.Proofs.Ytldnegacgjijlaa
namespace Go.Proofs.Ytldnegacgjijlaa
namespace La
open Go.RowKit

theorem run_grow (X : World) (ty : TypeId) (n : Nat) (h0 : 0 < n) (hn : n ≤ 1048576) : ∃ (k : Nat) (cs : Array Value), (Builtin.append_ #[22, 3] ty #[.slice none 0 0, .int .i64 (n : Int)]).run Try.prog X = .ok (.slice (some ⟨X.heap.size, 0, none⟩) n k) (X.drew.alloc (.cells cs 3)) ∧ OwnI (X.drew.alloc (.cells cs 3)) X.heap.size X.heap.size [] k := by
  obtain ⟨i0, hi0, hz0, hz1, hz2⟩ := info_parts Try.info3
  have hr := Lib.run_append_nil_zeros (P := Try.prog) X 22 3 ty 3 i0 (.int .i64 0) .i64 .i64 Try.underlying22 Try.underlying3 hi0 hz0 n h0 (by rw [hz1]; decide) (by omega) (by rw [hz2]; omega)
  have hge := grownCap_ge X n 0 3
  have hle := grownCap_le_maxLen X n 0 3 (by unfold maxLen; omega)
  refine ⟨_, _, hr, rfl, .inr ⟨X.heap.size, _, _, rfl, Nat.le_refl _, heap_alloc_new X.drew _, Nat.zero_le _, hle, ?_, rfl⟩⟩
  rw [Array.size_append, size_zeroCells, size_zeroCells]
  show n * 1 + (_ - n) * 1 = _
  omega

def GrowPost (w : World) (e' : Ending) (w' : World) : Prop :=
  ∃ g k : Nat, e' = .returned (.slice (some ⟨g, 0, none⟩) 0 k) ∧ OwnI w' w.heap.size g [] k ∧ Below w.heap.size w w'

set_option maxHeartbeats 400000 in
set_option maxRecDepth 100000 in
theorem grow_any (n : Nat) (w : World) (h0 : 0 < n) (hn : n ≤ 1048576) : Calls Try.prog 147 #[.slice none 0 0, .int .i64 (n : Int)] w (GrowPost w) := by
  obtain ⟨k, cs, hr, ho⟩ := run_grow w 22 n h0 hn
  have HO := Lib.hid ho
  have HR := Lib.hid hr
  clear ho hr
  go_enter Try.func147, Try.ntmps147
  go_wp2_with (at_builtin; refine Lib.wpList_append_run _ rfl (.tmp 20) (.tmp 21) 22 3 rfl _ _ rfl rfl _ _ HR.out ?_)
  go_wp2_with fail
  go_ret
  exact ⟨w.heap.size, k, rfl, HO.out, ((Below.refl _ _).drew.alloc (Nat.le_refl _) _)⟩

end La
end Go.Proofs.Ytldnegacgjijlaa
namespace Go.Proofs.Ytldnegacgjijlaa
namespace La
open Go.RowKit

/-- A row of slices of numbers. -/
def RowsAt (w : World) (q : Nat) (xss : List (List Int)) : Prop := ∀ (i : Nat) (xs : List Int), xss[i]? = some xs → ∃ (A : Option Addr) (cap b off : Nat), w.cell? ⟨q, i, none⟩ = some (.slice A xs.length cap) ∧ Ints w w.heap.size A b off xs
theorem RowsAt.under {w w' : World} {q : Nat} {xss : List (List Int)} (h : RowsAt w q xss) (hq : q < w.heap.size) (hb : Below w.heap.size w w') : RowsAt w' q xss := fun i xs hx => by
  obtain ⟨A, cap, b, off, h1, h2⟩ := h i xs hx
  exact ⟨A, cap, b, off, (hb.cell (p := ⟨q, i, none⟩) hq).trans h1, h2.under hb hb.size⟩
theorem flat_succ {xss : List (List Int)} {i : Nat} {xs : List Int} (h : xss[i]? = some xs) : (xss.take (i + 1)).flatten = (xss.take i).flatten ++ xs := by
  have hi := (List.getElem?_eq_some_iff.1 h).1
  rw [List.take_succ_eq_append_getElem hi, (List.getElem?_eq_some_iff.1 h).2, List.flatten_append]
  simp
theorem flat_le (xss : List (List Int)) (i : Nat) : (xss.take i).flatten.length ≤ xss.flatten.length := by
  have h : xss.flatten = (xss.take i).flatten ++ (xss.drop i).flatten := by rw [← List.flatten_append, List.take_append_drop]
  rw [h, List.length_append]
  omega

set_option maxHeartbeats 1000000 in
set_option maxRecDepth 100000 in
theorem concatN_any (xss : List (List Int)) (q : Nat) (w : World) (hk : xss.length ≤ 1048576) (h0 : 0 < xss.flatten.length) (hz : xss.flatten.length ≤ 1048576) (hq : q < w.heap.size) (hR : RowsAt w q xss) :
    Calls Try.prog 128 #[.slice (some ⟨q, 0, none⟩) xss.length xss.length] w (RowPost xss.flatten w) := by
  obtain ⟨n, hn⟩ : ∃ n, n = xss.flatten.length := ⟨_, rfl⟩
  have HN := Lib.hid hn
  rw [← hn] at h0 hz
  have HR := Lib.hid hR
  have HLe : Hid (∀ j, (xss.take j).flatten.length ≤ n) := fun j => by rw [hn]; exact flat_le xss j
  have HEnd : Hid (xss.take xss.length = xss) := List.take_length
  clear hn hR
  go_enter Try.func128, Try.ntmps128
  go_wp2_with fail
  go_loop [3, 11] (fun s i => ∃ j S : Nat, j ≤ xss.length ∧ i = .int .i64 j ∧ s = .int .i64 S ∧ S ≤ n ∧ Hid (S = (xss.take j).flatten.length)) (fun _ i => xss.length - (intOf i).toNat)
  case atStart => exact ⟨0, 0, Nat.zero_le _, rfl, rfl, Nat.zero_le _, rfl⟩
  case round =>
    obtain ⟨j, S, hj, rfl, rfl, hS, HS⟩ := hrel
    by_cases hlt : j < xss.length
    · obtain ⟨xs, hx⟩ : ∃ xs, xss[j]? = some xs := ⟨_, List.getElem?_eq_getElem hlt⟩
      obtain ⟨A, cap, b, off, c0, _⟩ := HR.out j xs hx
      have HS2 : Hid (S + xs.length = (xss.take (j + 1)).flatten.length) := by show _ = _; rw [flat_succ hx, List.length_append, HS.out]
      have hS2 : S + xs.length ≤ n := by rw [HS2.out]; exact HLe.out _
      clear hx
      go_wp2_with fail
      go_round
      case rel => exact ⟨j + 1, S + xs.length, by omega, by go_num, by first | rfl | go_num, hS2, HS2⟩
      case measure => simp [intOf]; omega
    have hjj : j = xss.length := by omega
    subst hjj
    have hSn : S = n := by rw [HS.out, HEnd.out, HN.out]
    subst hSn
    clear HS hS hlt hj
    go_wp2_with fail
    refine (grow_any S w h0 hz).mono ?_
    rintro e' w1 ⟨g1, k1, rfl, ho1, hb1⟩
    have HO1 := Lib.hid ho1
    have HB1 := Lib.hid hb1
    clear ho1 hb1
    go_wp2_with fail
    go_loopw [6, 27] (fun s i wl => ∃ j g k : Nat, j ≤ xss.length ∧ i = .int .i64 j ∧ s = .slice (some ⟨g, 0, none⟩) (xss.take j).flatten.length k ∧ Hid (OwnI wl w.heap.size g (xss.take j).flatten k) ∧ Hid (Below w.heap.size w wl)) (fun _ i _ => xss.length - (intOf i).toNat)
    case atStart => exact ⟨0, g1, k1, Nat.zero_le _, rfl, rfl, HO1, HB1⟩
    case round =>
      obtain ⟨j, g, k, hj, rfl, rfl, HO, HB⟩ := hrel
      have hzr : w.heap.size ≤ wr.heap.size := HB.out.size
      have hgb : w.heap.size ≤ g := HO.out.le
      by_cases hlt : j < xss.length
      · obtain ⟨xs, hx⟩ : ∃ xs, xss[j]? = some xs := ⟨_, List.getElem?_eq_getElem hlt⟩
        obtain ⟨A, cap, b, off, c0, hI⟩ := HR.out.under hq HB.out j xs hx
        have HI := Lib.hid hI
        have HFl := Lib.hid (flat_succ hx)
        have HLn : Hid ((xss.take j).flatten.length + xs.length ≤ 2097152) := by
          have := HLe.out (j + 1)
          rw [HFl.out, List.length_append] at this
          show _ ≤ _
          omega
        clear hx hI
        go_wp2_with (at_builtin; refine wpList_ints rfl (.tmp 31) (.tmp 32) rfl w.heap.size g k (xss.take j).flatten xs A b off cap rfl rfl HO.out HI.out HLn.out hzr ?_; intro g2 k2 w2 hown hgrow hat hlt2)
        have HO2 : Hid (OwnI w2 w.heap.size g2 (xss.take (j + 1)).flatten k2) := by show OwnI _ _ _ _ _; rw [HFl.out]; exact hown
        have HB2 : Hid (Below w.heap.size w w2) := Below.grow HB.out hgrow hzr hgb
        clear hown hgrow hat HO HB
        go_wp2_with fail
        go_roundw
        case rel => exact ⟨j + 1, g2, k2, by omega, by go_num, (by rw [HFl.out]; first | rfl | (rw [List.length_append]; rfl) | simp), HO2, HB2⟩
        case measure => simp [intOf]; omega
      have hjj : j = xss.length := by omega
      subst hjj
      have HF : Hid (RowPost xss.flatten w (.returned (.slice (some ⟨g, 0, none⟩) (xss.take xss.length).flatten.length k)) wr) := by
        have h1 := HO.out
        rw [HEnd.out] at h1
        show RowPost _ _ _ _
        rw [HEnd.out]
        exact ⟨some ⟨g, 0, none⟩, k, rfl, (Lay.int.slice _).sep_more hgb h1.lt (h1.sep (by rw [← HN.out]; exact hz)), HB.out⟩
      go_wp2_with fail
      go_ret
      exact HF.out

end La
end Go.Proofs.Ytldnegacgjijlaa

/- The walk of spec.l4Path. -/
import Derived.Test.YtkeokgeaekjgeaaBh
namespace Go.Proofs.Ytkeokgeaekjgeaa
open Go.RowKit

/-- What a function leaves that makes a slice of numbers. -/
def IntsPost (l : List Int) (w : World) (e' : Ending) (w' : World) : Prop :=
  ∃ g cap : Nat, e' = .returned (.slice (some ⟨g, 0, none⟩) l.length cap) ∧ w.heap.size ≤ g ∧ IRow w' g l ∧ Below w.heap.size w w'
def lenV : Value → Nat
  | .slice _ l _ => l
  | _ => 0
theorem way_pos (s : Sr) (a : Int) (f : Nat) (z : Int) : 1 ≤ (way s a f z).length := by
  cases f
  · exact Nat.le_refl _
  · show 1 ≤ (if z = a then [z] else way s a _ ((s.par[z.toNat]?).getD (-1)) ++ [z]).length
    split <;> simp
theorem owns_irow {w : World} {base g cap : Nat} {l : List Int} {n : Nat} (h : w.ownsRow base 3 1 (.slice (some ⟨g, 0, none⟩) n cap) n (l.map (Value.int .i64))) : IRow w g l := by
  obtain ⟨cs1, _, h2, h3⟩ := irow_of_owns h
  exact ⟨cs1, h2, fun i z hz => h3 i _ (by rw [List.getElem?_map, hz]; rfl)⟩

set_option maxHeartbeats 1000000 in
set_option maxRecDepth 100000 in
theorem l4Path_any (s : Sr) (n : Nat) (a z : Int) (k0 : Nat) (P : Option Addr) (capP bp op : Nat) (w : World) (hok : SrOk n a s) (hk : s.q[k0]? = some z) (hn : n ≤ 60) (hI : Ints w w.heap.size P bp op s.par) :
    Calls Try.prog 21 #[.slice P s.par.length capP, .int .i64 a, .int .i64 z] w (IntsPost (way s a k0 z) w) := by
  obtain ⟨i0, hi0, hz0, hz1, hz2⟩ := info_parts Try.info3
  have HOk := Lib.hid hok
  have HI := Lib.hid hI
  have hk0 : k0 < 60 := by
    have h1 := (List.getElem?_eq_some_iff.1 hk).1
    have h2 := hok.short
    omega
  have HPl := Lib.hid hok.len
  have HK := Lib.hid hk
  clear hI hok hk
  go_enter Try.func21, Try.ntmps21
  go_wp2_with fail
  go_loopw [7] (fun o wl => ∃ (g cap len k : Nat) (c : Int) (rest : List Int), len ≤ k0 + 1 ∧ 1 ≤ len ∧ o = .slice (some ⟨g, 0, none⟩) len cap ∧ Hid (len = rest.length + 1) ∧ Hid (wl.ownsRow w.heap.size 3 1 (.slice (some ⟨g, 0, none⟩) len cap) len ((c :: rest).map (Value.int .i64))) ∧ Hid (s.q[k]? = some c) ∧ Hid (way s a k c ++ rest = way s a k0 z) ∧ Hid (Below w.heap.size w wl)) (fun o _ => k0 + 2 - lenV o)
  case atStart =>
    exact ⟨w.heap.size, 1, 1, k0, z, [], by omega, Nat.le_refl _, rfl, rfl, (show World.ownsRow _ _ _ _ _ _ _ from ⟨rfl, .inr ⟨w.heap.size, 1, #[.int .i64 z], rfl, Nat.le_refl _, Row.new w _ _, Nat.le_refl _, by unfold maxLen; omega, rfl, rfl⟩⟩), HK, List.append_nil _, (Below.refl _ _).alloc (Nat.le_refl _) _⟩
  case round =>
    obtain ⟨g, cap, len, k, c, rest, hle, hl1, rfl, HLen, HOw, HC, HWy, HB⟩ := hrel
    have q0 : wr.cell? ⟨g, 0, none⟩ = some (.int .i64 c) := (owns_irow HOw.out).cell rfl
    have hgl := queue_lt HOw.out
    have hsb : w.heap.size ≤ wr.heap.size := HB.out.size
    by_cases hca : c = a
    · have HF : Hid (IntsPost (way s a k0 z) w (.returned (.slice (some ⟨g, 0, none⟩) len cap)) wr) := by
        have h1 : c :: rest = way s a k0 z := by rw [← HWy.out, hca, way_first]; rfl
        refine ⟨g, cap, ?_, hgl.1, ?_, HB.out⟩
        · rw [← h1, HLen.out]; rfl
        · rw [← h1]; exact owns_irow HOw.out
      have hcb : (c != a) = false := by simp [hca]
      clear hca
      go_wp2_with fail
      go_ret
      exact HF.out
    · have hcb : (c != a) = true := by simp [hca]
      obtain ⟨hk1, j, y, hj, hjy, hpy⟩ := HOk.out.up HC.out hca
      obtain ⟨m, rfl, hm⟩ := HOk.out.range c (List.mem_of_getElem? HC.out)
      rw [Int.toNat_natCast] at hpy
      obtain ⟨rfl, hb, p0⟩ := HI.out.under HB.out HB.out.size m y hpy
      have hmp : m < s.par.length := by rw [HPl.out]; exact hm
      have hpl : s.par.length ≤ 60 := by rw [HPl.out]; exact hn
      have HWy2 : Hid (way s a j y ++ ((m : Int) :: rest) = way s a k0 z) := by
        show _ = _
        rw [← HWy.out, way_step HOk.out HC.out hca hj hjy (by rw [Int.toNat_natCast]; exact hpy)]
        simp
      have HJ := Lib.hid hjy
      have hln : len + 1 ≤ k0 + 1 := by
        have h1 := congrArg List.length HWy2.out
        rw [List.length_append, List.length_cons] at h1
        have h2 := way_pos s a j y
        have h3 := way_len (s := s) (a := a) k0 z
        have h4 := HLen.out
        omega
      clear hjy hpy hj
      have hnews : ∀ (i : Nat) (u : Value), (((m : Int) :: rest).map (Value.int .i64))[i]? = some u → (wr.alloc (.cells #[.int .i64 y] 3)).cell? ((⟨g, 0, none⟩ : Addr).add i) = some u := (HOw.out.alloc _).cells rfl
      have HNw := Lib.hid hnews
      have HLl : Hid ((((m : Int) :: rest).map (Value.int .i64)).length = len * 1) := by show _ = _; rw [List.length_map, List.length_cons, HLen.out, Nat.mul_one]
      have HNf : Hid ((wr.alloc (.cells #[.int .i64 y] 3)).ownsRow w.heap.size 3 1 (.slice (some ⟨wr.heap.size, 0, none⟩) 1 1) 1 [.int .i64 y]) :=
        (show World.ownsRow _ _ _ _ _ _ _ from ⟨rfl, .inr ⟨wr.heap.size, 1, #[.int .i64 y], rfl, hsb, Row.new wr _ _, Nat.le_refl _, by unfold maxLen; omega, rfl, rfl⟩⟩)
      clear hnews
      go_wp2_with (at_builtin; refine wpList_append_own _ rfl (.tmp 21) (.tmp 22) 27 rfl w.heap.size 3 i0 (.int .i64 0) 1 8 Try.underlying27 hi0 hz0 hz1 hz2 rfl (by decide) (.slice (some ⟨wr.heap.size, 0, none⟩) 1 1) 1 _ rfl HNf.out ⟨g, 0, none⟩ len cap _ rfl HLl.out HNw.out (by simp [Value.oneCell']) (by unfold maxLen; omega) (by omega) (by simp; omega) ?_; intro v' w1 hown' hgrow hnil)
      obtain ⟨g1, cap1, rfl⟩ : ∃ g1 cap1, v' = .slice (some ⟨g1, 0, none⟩) (1 + len) cap1 := by
        rcases hown'.2 with ⟨_, h0⟩ | ⟨g1, cap1, _, hv, _⟩
        · omega
        · exact ⟨g1, cap1, hv⟩
      have HO1 : Hid (w1.ownsRow w.heap.size 3 1 (.slice (some ⟨g1, 0, none⟩) (1 + len) cap1) (1 + len) ((y :: ((m : Int) :: rest)).map (Value.int .i64))) := hown'
      have HB1 : Hid (Below w.heap.size w w1) := (HB.out.alloc HB.out.size _).grown hgrow (by simp; omega) (fun q hq => by
        have e : wr.heap.size = q := by simpa [Value.ownBlock] using hq
        subst e
        exact hsb)
      have HLen1 : Hid (1 + len = ((m : Int) :: rest).length + 1) := by show _ = _; rw [List.length_cons, ← HLen.out]; omega
      clear hown' hgrow hnil HOw HB HNw HNf
      go_wp2_with fail
      go_roundw
      case rel => exact ⟨g1, cap1, 1 + len, j, y, _, by omega, by omega, rfl, HLen1, HO1, HJ, HWy2, HB1⟩
      case measure => simp [lenV]; omega

end Go.Proofs.Ytkeokgeaekjgeaa

/- What ReduceLasso answers, as plain data; rows of one's own. -/
import Derived.Test.YtogfpgkdofhoaaaPeP
import Derived.Test.YtogfpgkdofhoaaaLvW
import Derived.Test.YtogfpgkdofhoaaaNuO
import Derived.Test.YtogfpgkdofhoaaaLaX
namespace Go.Proofs.Ytogfpgkdofhoaaa
namespace La
open Go.RowKit

/-- The reduced lasso. -/
def redSt (s : St) : St := if laOk s then redK s.locs s.locs.length (s.vals.take (per s.vals)) else ⟨[], []⟩
theorem redSt_no {s : St} (h : laOk s = false) : redSt s = ⟨[], []⟩ := by unfold redSt; rw [h]; rfl
theorem redSt_yes {s : St} (h : laOk s = true) : redSt s = redK s.locs s.locs.length (s.vals.take (per s.vals)) := by unfold redSt; rw [h]; rfl
theorem redSt_le {s : St} (h : Lay.sta.sz s ≤ 1048576) : (redSt s).locs.length ≤ 1048576 ∧ (redSt s).vals.length ≤ 1048576 := by
  rw [sta_sz] at h
  unfold redSt
  split
  · have := redK_len s.locs s.locs.length (s.vals.take (per s.vals))
    rw [List.length_take] at this
    omega
  · exact ⟨Nat.zero_le _, Nat.zero_le _⟩
def lenOfV : Value → Nat
  | .slice _ k _ => k
  | _ => 0
def RdPost (s : St) (w : World) (e' : Ending) (w' : World) : Prop :=
  ∃ X Y : Value, e' = .returned (.tuple #[.agg #[X, Y], .bool (laOk s)]) ∧ StR w' w.heap.size w'.heap.size (redSt s) X Y ∧ Below w.heap.size w w'
theorem OwnI.drewN {w : World} {base g c : Nat} {zs : List Int} (h : OwnI w base g zs c) (d : Nat) : OwnI (w.drewN d) base g zs c := h.keep ((below_drewN (Below.refl w.heap.size w) d).block g h.lt)
theorem OwnI.under {w w' : World} {base g c : Nat} {zs : List Int} (h : OwnI w base g zs c) (hb : Below w.heap.size w w') : OwnI w' base g zs c := h.keep (hb.block g h.lt)
theorem OwnI.cap {w : World} {base g c : Nat} {zs : List Int} (h : OwnI w base g zs c) : zs.length ≤ c := by
  obtain ⟨_, _, _, h3, _⟩ := h.parts
  exact h3
theorem OwnI.at {w : World} {base g c : Nat} {zs : List Int} (h : OwnI w base g zs c) {i : Nat} {z : Int} (hz : zs[i]? = some z) : w.cell? ⟨g, i, none⟩ = some (.int .i64 z) := by
  obtain ⟨cs, h1, h2⟩ := h.row
  rw [h1.cell]
  exact h2 i z hz
theorem OwnI.sepTake {w : World} {base g c : Nat} {zs : List Int} (h : OwnI w base g zs c) (hz : zs.length ≤ 1048576) (k : Nat) (hk : k ≤ zs.length) : (Lay.int.slice 3).sep w g (g + 1) (zs.take k) (fun _ => .slice (some ⟨g, 0, none⟩) k c) := by
  obtain ⟨cs, h1, h2⟩ := h.row
  have hl : (zs.take k).length = k := by rw [List.length_take]; omega
  have := sep_row (cap := c) (zs := zs.take k) h1 (by rw [hl]; unfold maxLen; omega) (fun i z hz => by
    rw [List.getElem?_take] at hz
    split at hz
    · exact h2 i z hz
    · cases hz)
  rw [hl] at this
  exact this
theorem OwnI.single {w : World} {base g : Nat} {z : Int} (hb : base ≤ g) (h : Row w g 3 #[.int .i64 z]) : OwnI w base g [z] 1 :=
  ⟨rfl, .inr ⟨g, 1, #[.int .i64 z], rfl, hb, h, Nat.le_refl _, by unfold maxLen; omega, rfl, rfl⟩⟩
theorem own_new {w : World} {base : Nat} (hb : base ≤ w.heap.size) : OwnI (w.alloc (.cells #[] 3)) base w.heap.size [] 0 := OwnI.empty hb (Row.new w 3 #[])
theorem own_newd {w : World} {base : Nat} (hb : base ≤ w.heap.size) : OwnI (w.alloc (.cells #[] 3)).drew base w.heap.size [] 0 := OwnI.empty hb (Row.new w 3 #[])
theorem StR.of {w : World} {lo hi m0 m1 n0 n1 : Nat} {s : St} {X Y : Value} (h1 : (Lay.int.slice 3).sep w m0 m1 s.locs (fun _ => X)) (h2 : (Lay.int.slice 3).sep w n0 n1 s.vals (fun _ => Y)) (ho : lo ≤ m0 ∧ m0 ≤ m1 ∧ m1 ≤ hi ∧ lo ≤ n0 ∧ n0 ≤ n1 ∧ n1 ≤ hi ∧ (m1 ≤ n0 ∨ n1 ≤ m0)) : StR w lo hi s X Y := ⟨m0, m1, n0, n1, ho, h1, h2⟩

end La
end Go.Proofs.Ytogfpgkdofhoaaa

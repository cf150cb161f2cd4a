/- Region 4 of spec.UniteAutomata: empty slices, appends and an alloc in any order. -/
import Derived.Test.YtldnegacgjijlaaUaQ
import Derived.Test.YtldnegacgjijlaaCl0
import Derived.Deep.RegionHeld3
import Derived.Deep.RegionWith
namespace Go.Proofs.Ytldnegacgjijlaa
open Go.RowKit

def uaOps : Array Oper := #[{ dst := some 23, op := Go.Op.buildSlice 22 0 #[], type := 22, pos := "l7_automaton.go:407", after := #[], guard := none }, { dst := some 24, op := Go.Op.fieldAddr 51 (Go.Operand.tmp 2) 0, type := 0, pos := "l7_automaton.go:407", after := #[], guard := none }, { dst := some 25, op := Go.Op.load 22 (Go.Operand.tmp 24), type := 22, pos := "l7_automaton.go:407", after := #[{ on := 1, ground := Go.Ground.data }], guard := none }, { dst := some 26, op := Go.Op.call { callee := Go.Callee.builtin Go.Builtin.append, args := #[Go.Operand.tmp 23, Go.Operand.tmp 25], argTypes := #[22, 22] }, type := 22, pos := "l7_automaton.go:407", after := #[{ on := 0, ground := Go.Ground.data }, { on := 2, ground := Go.Ground.data }], guard := none }, { dst := some 27, op := Go.Op.buildSlice 27 0 #[], type := 27, pos := "l7_automaton.go:407", after := #[], guard := none }, { dst := some 28, op := Go.Op.fieldAddr 51 (Go.Operand.tmp 2) 1, type := 0, pos := "l7_automaton.go:407", after := #[], guard := none }, { dst := some 29, op := Go.Op.load 27 (Go.Operand.tmp 28), type := 27, pos := "l7_automaton.go:407", after := #[{ on := 5, ground := Go.Ground.data }], guard := none }, { dst := some 30, op := Go.Op.call { callee := Go.Callee.builtin Go.Builtin.append, args := #[Go.Operand.tmp 27, Go.Operand.tmp 29], argTypes := #[27, 27] }, type := 27, pos := "l7_automaton.go:407", after := #[{ on := 4, ground := Go.Ground.data }, { on := 6, ground := Go.Ground.data }, { on := 3, ground := Go.Ground.chain }], guard := none }, { dst := some 31, op := Go.Op.buildSlice 49 0 #[], type := 49, pos := "l7_automaton.go:407", after := #[], guard := none }, { dst := some 32, op := Go.Op.fieldAddr 51 (Go.Operand.tmp 2) 2, type := 0, pos := "l7_automaton.go:407", after := #[], guard := none }, { dst := some 33, op := Go.Op.load 49 (Go.Operand.tmp 32), type := 49, pos := "l7_automaton.go:407", after := #[{ on := 9, ground := Go.Ground.data }], guard := none }, { dst := some 34, op := Go.Op.call { callee := Go.Callee.builtin Go.Builtin.append, args := #[Go.Operand.tmp 31, Go.Operand.tmp 33], argTypes := #[49, 49] }, type := 49, pos := "l7_automaton.go:407", after := #[{ on := 8, ground := Go.Ground.data }, { on := 10, ground := Go.Ground.data }, { on := 7, ground := Go.Ground.chain }], guard := none }, { dst := some 35, op := Go.Op.build 51 #[(0, Go.Operand.tmp 26), (1, Go.Operand.tmp 30), (2, Go.Operand.tmp 34)], type := 51, pos := "l7_automaton.go:407", after := #[{ on := 3, ground := Go.Ground.data }, { on := 7, ground := Go.Ground.data }, { on := 11, ground := Go.Ground.data }], guard := none }, { dst := some 7, op := Go.Op.alloc 51, type := 0, pos := "l7_automaton.go:407", after := #[], guard := none }, { dst := none, op := Go.Op.store 51 (Go.Operand.tmp 7) (Go.Operand.tmp 35), type := 0, pos := "l7_automaton.go:407", after := #[{ on := 13, ground := Go.Ground.data }, { on := 12, ground := Go.Ground.data }, { on := 11, ground := Go.Ground.chain }, { on := 0, ground := Go.Ground.phase }, { on := 1, ground := Go.Ground.phase }, { on := 2, ground := Go.Ground.phase }, { on := 3, ground := Go.Ground.phase }, { on := 4, ground := Go.Ground.phase }, { on := 5, ground := Go.Ground.phase }, { on := 6, ground := Go.Ground.phase }, { on := 7, ground := Go.Ground.phase }, { on := 8, ground := Go.Ground.phase }, { on := 9, ground := Go.Ground.phase }, { on := 10, ground := Go.Ground.phase }, { on := 11, ground := Go.Ground.phase }, { on := 12, ground := Go.Ground.phase }, { on := 13, ground := Go.Ground.phase }], guard := none }]

set_option maxHeartbeats 16000000 in
set_option maxRecDepth 100000 in
theorem spec4_any {s0 s1 s2 s3 s4 s5 s6 s8 s9 s10 s11 s12 s13 s14 s15 s16 s17 s18 s19 s20 s21 s22 s36 s37 s38 s39 s40 s41 s42 s43 s44 s45 s46 s47 s48 s49 s50 s51 s52 s53 s54 s55 s56 s57 s58 s59 s60 s61 s62 s63 s64 s65 s66 s67 s68 s69 s70 s71 s72 s73 s74 s75 s76 s77 s78 s79 s80 s81 s82 s83 s84 s85 s86 s87 s88 s89 s90 s91 s92 s93 s94 s95 : Value} (xi : List Int) (xa : List Bool) (xe : List Tr) (A0 : Option Addr) (c0 p0 o0 : Nat) (A1 : Option Addr) (c1 p1 o1 : Nat) (A2 : Option Addr) (c2 p2 o2 ba : Nat) (W1 : World) (Q : Exit → Act → World → Prop)
    (HI0 : Hid (∀ X, Below W1.heap.size W1 X → Ints X X.heap.size A0 p0 o0 xi)) (HI1 : Hid (∀ X, Below W1.heap.size W1 X → Bools X X.heap.size A1 p1 o1 xa)) (HI2 : Hid (∀ X, Below W1.heap.size W1 X → Trs X X.heap.size A2 p2 o2 xe))
    (HLx : Hid (xi.length ≤ 4096 ∧ xa.length ≤ 4096 ∧ xe.length ≤ 4096)) (HKS : Hid (∀ X, Below W1.heap.size W1 X → (fun w' => w'.cell? ⟨ba, 0, none⟩ = some (.slice A0 xi.length c0) ∧ w'.cell? ⟨ba, 1, none⟩ = some (.slice A1 xa.length c1) ∧ w'.cell? ⟨ba, 2, none⟩ = some (.slice A2 xe.length c2)) X))
    (HQ : Hid (∀ c (a : Act) (d : Nat) (v : Value) (w : World), Q (Exit.panic c) (a.put (some d) v) w → Q (Exit.panic c) a w))
    (HFin : Hid (∀ (u23 u24 u25 u26 u27 u28 u29 u30 u31 u32 u33 u34 u35 : Value) (g g3 k3 g7 k7 g11 k11 : Nat) (X : World), Uk W1.heap.size g W1 X (.slice (some ⟨g7, 0, none⟩) xa.length k7) xi xa xe (.slice (some ⟨g3, 0, none⟩) xi.length k3) (.slice (some ⟨g11, 0, none⟩) xe.length k11) → Q .normal { tmps := #[s0, s1, s2, s3, s4, s5, s6, .pointer (some ⟨g, 0, none⟩), s8, s9, s10, s11, s12, s13, s14, s15, s16, s17, s18, s19, s20, s21, s22, u23, u24, u25, u26, u27, u28, u29, u30, u31, u32, u33, u34, u35, s36, s37, s38, s39, s40, s41, s42, s43, s44, s45, s46, s47, s48, s49, s50, s51, s52, s53, s54, s55, s56, s57, s58, s59, s60, s61, s62, s63, s64, s65, s66, s67, s68, s69, s70, s71, s72, s73, s74, s75, s76, s77, s78, s79, s80, s81, s82, s83, s84, s85, s86, s87, s88, s89, s90, s91, s92, s93, s94, s95], defers := [] } X)) :
    ∀ (l : Array Bool), l = #[false, true, true, false, false, true, true, false, false, true, true, false, false, false, false] → ∀ (u7 u23 u24 u26 u27 u28 u30 u31 u32 u34 u35 : Value) (X : World) , Below W1.heap.size W1 X → wpAnyH Try.prog .any uaOps Q (fun w' => w'.cell? ⟨ba, 0, none⟩ = some (.slice A0 xi.length c0) ∧ w'.cell? ⟨ba, 1, none⟩ = some (.slice A1 xa.length c1) ∧ w'.cell? ⟨ba, 2, none⟩ = some (.slice A2 xe.length c2)) 9 l { tmps := #[s0, s1, s2, s3, s4, s5, s6, u7, s8, s9, s10, s11, s12, s13, s14, s15, s16, s17, s18, s19, s20, s21, s22, u23, u24, .slice A0 xi.length c0, u26, u27, u28, .slice A1 xa.length c1, u30, u31, u32, .slice A2 xe.length c2, u34, u35, s36, s37, s38, s39, s40, s41, s42, s43, s44, s45, s46, s47, s48, s49, s50, s51, s52, s53, s54, s55, s56, s57, s58, s59, s60, s61, s62, s63, s64, s65, s66, s67, s68, s69, s70, s71, s72, s73, s74, s75, s76, s77, s78, s79, s80, s81, s82, s83, s84, s85, s86, s87, s88, s89, s90, s91, s92, s93, s94, s95], defers := [] } X := by
  have St0_3_4_7_8_11_13 : Hid (∀ (l : Array Bool), l = #[true, true, true, true, true, true, true, true, true, true, true, true, true, true, false] → ∀ (u23 u24 u27 u28 u31 u32 : Value) (X : World) (g3 k3 g7 k7 g11 k11 g13 : Nat) , Below W1.heap.size W1 X → La.OwnI X W1.heap.size g3 xi k3 → Lb.OwnI X W1.heap.size g7 xa k7 → OwnG X W1.heap.size g11 xe k11 → (Row X g13 51 #[.slice none 0 0, .slice none 0 0, .slice none 0 0] ∧ W1.heap.size ≤ g13) → wpAnyH Try.prog .any uaOps Q (fun w' => w'.cell? ⟨ba, 0, none⟩ = some (.slice A0 xi.length c0) ∧ w'.cell? ⟨ba, 1, none⟩ = some (.slice A1 xa.length c1) ∧ w'.cell? ⟨ba, 2, none⟩ = some (.slice A2 xe.length c2)) 1 l { tmps := #[s0, s1, s2, s3, s4, s5, s6, .pointer (some ⟨g13, 0, none⟩), s8, s9, s10, s11, s12, s13, s14, s15, s16, s17, s18, s19, s20, s21, s22, u23, u24, .slice A0 xi.length c0, .slice (some ⟨g3, 0, none⟩) xi.length k3, u27, u28, .slice A1 xa.length c1, .slice (some ⟨g7, 0, none⟩) xa.length k7, u31, u32, .slice A2 xe.length c2, .slice (some ⟨g11, 0, none⟩) xe.length k11, .agg #[.slice (some ⟨g3, 0, none⟩) xi.length k3, .slice (some ⟨g7, 0, none⟩) xa.length k7, .slice (some ⟨g11, 0, none⟩) xe.length k11], s36, s37, s38, s39, s40, s41, s42, s43, s44, s45, s46, s47, s48, s49, s50, s51, s52, s53, s54, s55, s56, s57, s58, s59, s60, s61, s62, s63, s64, s65, s66, s67, s68, s69, s70, s71, s72, s73, s74, s75, s76, s77, s78, s79, s80, s81, s82, s83, s84, s85, s86, s87, s88, s89, s90, s91, s92, s93, s94, s95], defers := [] } X) := by
    intro l hl u23 u24 u27 u28 u31 u32 X g3 k3 g7 k7 g11 k11 g13 hB h3 h7 h11 h13
    subst hl
    have HB := Lib.hid hB
    have hz : W1.heap.size ≤ X.heap.size := hB.size
    have H3 := Lib.hid h3
    have H7 := Lib.hid h7
    have H11 := Lib.hid h11
    have H13 := Lib.hid h13
    clear hB h3 h7 h11 h13
    refine wpAnyH_ready (rs := [14]) (by kernel_rfl) (by simp) (AllReadyH.cons (o := { dst := none, op := Go.Op.store 51 (Go.Operand.tmp 7) (Go.Operand.tmp 35), type := 0, pos := "l7_automaton.go:407", after := #[{ on := 13, ground := Go.Ground.data }, { on := 12, ground := Go.Ground.data }, { on := 11, ground := Go.Ground.chain }, { on := 0, ground := Go.Ground.phase }, { on := 1, ground := Go.Ground.phase }, { on := 2, ground := Go.Ground.phase }, { on := 3, ground := Go.Ground.phase }, { on := 4, ground := Go.Ground.phase }, { on := 5, ground := Go.Ground.phase }, { on := 6, ground := Go.Ground.phase }, { on := 7, ground := Go.Ground.phase }, { on := 8, ground := Go.Ground.phase }, { on := 9, ground := Go.Ground.phase }, { on := 10, ground := Go.Ground.phase }, { on := 11, ground := Go.Ground.phase }, { on := 12, ground := Go.Ground.phase }, { on := 13, ground := Go.Ground.phase }], guard := none }) rfl (fun K hK => ?_) AllReadyH.nil)
    obtain ⟨x0, x1, x2⟩ := H13.out.1.three
    have f0 := H13.out.1.frozen 0
    have f1 := H13.out.1.frozen 1
    have f2 := H13.out.1.frozen 2
    have hlz := H13.out.1.lt
    go_simp
    obtain ⟨Y, hY⟩ : ∃ Y, Y = ((X.setCell ⟨g13, 0, none⟩ (.slice (some ⟨g3, 0, none⟩) xi.length k3)).setCell ⟨g13, 1, none⟩ (.slice (some ⟨g7, 0, none⟩) xa.length k7)).setCell ⟨g13, 2, none⟩ (.slice (some ⟨g11, 0, none⟩) xe.length k11) := ⟨_, rfl⟩
    rw [← hY]
    have hU : Uk W1.heap.size g13 W1 Y (.slice (some ⟨g7, 0, none⟩) xa.length k7) xi xa xe (.slice (some ⟨g3, 0, none⟩) xi.length k3) (.slice (some ⟨g11, 0, none⟩) xe.length k11) := by rw [hY]; exact Uk.make H13.out.1 ⟨_, _, _, rfl⟩ H13.out.2 H3.out H7.out H11.out HB.out
    clear hY
    refine hK.out _ _ ?_ (fun hHeld => ?_)
    · exact HKS.out _ hU.frame
    clear hK K
    try simp only [List.setIfInBounds_toArray, List.set_cons_zero, List.set_cons_succ]
    refine wpAnyH_done (by kernel_rfl) ?_ _
    exact HFin.out _ _ _ _ _ _ _ _ _ _ _ _ _ _ _ _ _ _ _ _ _ hU
  have St0_3_4_7_8_11 : Hid (∀ (l : Array Bool), l = #[true, true, true, true, true, true, true, true, true, true, true, true, true, false, false] → ∀ (u7 u23 u24 u27 u28 u31 u32 : Value) (X : World) (g3 k3 g7 k7 g11 k11 : Nat) , Below W1.heap.size W1 X → La.OwnI X W1.heap.size g3 xi k3 → Lb.OwnI X W1.heap.size g7 xa k7 → OwnG X W1.heap.size g11 xe k11 → wpAnyH Try.prog .any uaOps Q (fun w' => w'.cell? ⟨ba, 0, none⟩ = some (.slice A0 xi.length c0) ∧ w'.cell? ⟨ba, 1, none⟩ = some (.slice A1 xa.length c1) ∧ w'.cell? ⟨ba, 2, none⟩ = some (.slice A2 xe.length c2)) 2 l { tmps := #[s0, s1, s2, s3, s4, s5, s6, u7, s8, s9, s10, s11, s12, s13, s14, s15, s16, s17, s18, s19, s20, s21, s22, u23, u24, .slice A0 xi.length c0, .slice (some ⟨g3, 0, none⟩) xi.length k3, u27, u28, .slice A1 xa.length c1, .slice (some ⟨g7, 0, none⟩) xa.length k7, u31, u32, .slice A2 xe.length c2, .slice (some ⟨g11, 0, none⟩) xe.length k11, .agg #[.slice (some ⟨g3, 0, none⟩) xi.length k3, .slice (some ⟨g7, 0, none⟩) xa.length k7, .slice (some ⟨g11, 0, none⟩) xe.length k11], s36, s37, s38, s39, s40, s41, s42, s43, s44, s45, s46, s47, s48, s49, s50, s51, s52, s53, s54, s55, s56, s57, s58, s59, s60, s61, s62, s63, s64, s65, s66, s67, s68, s69, s70, s71, s72, s73, s74, s75, s76, s77, s78, s79, s80, s81, s82, s83, s84, s85, s86, s87, s88, s89, s90, s91, s92, s93, s94, s95], defers := [] } X) := by
    intro l hl u7 u23 u24 u27 u28 u31 u32 X g3 k3 g7 k7 g11 k11 hB h3 h7 h11
    subst hl
    have HB := Lib.hid hB
    have hz : W1.heap.size ≤ X.heap.size := hB.size
    have H3 := Lib.hid h3
    have H7 := Lib.hid h7
    have H11 := Lib.hid h11
    clear hB h3 h7 h11
    refine wpAnyH_ready (rs := [13]) (by kernel_rfl) (by simp) (AllReadyH.cons (o := { dst := some 7, op := Go.Op.alloc 51, type := 0, pos := "l7_automaton.go:407", after := #[], guard := none }) rfl (fun K hK => ?_) AllReadyH.nil)
    go_simp
    obtain ⟨Y, hY⟩ : ∃ Y, Y = X.alloc (.cells #[.slice none 0 0, .slice none 0 0, .slice none 0 0] 51) := ⟨_, rfl⟩
    rw [← hY]
    have hb : Below X.heap.size X Y := by rw [hY]; exact (Below.refl _ _).alloc (Nat.le_refl _) _
    have hnew : Row Y X.heap.size 51 #[.slice none 0 0, .slice none 0 0, .slice none 0 0] := by rw [hY]; exact Row.new _ _ _
    have HBY : Hid (Below W1.heap.size W1 Y) := HB.out.trans (hb.mono hz)
    clear hY
    refine hK.out _ _ ?_ (fun hHeld => ?_)
    · exact HKS.out _ HBY.out
    clear hK K
    try simp only [List.setIfInBounds_toArray, List.set_cons_zero, List.set_cons_succ]
    exact St0_3_4_7_8_11_13.out _ (by kernel_rfl) _ _ _ _ _ _ _ _ _ _ _ _ _ _ HBY.out (H3.out.keep (hb.block _ H3.out.lt)) (H7.out.keep (hb.block _ H7.out.lt)) (H11.out.keep (hb.block _ H11.out.lt)) ⟨hnew, hz⟩
  have St0_3_4_7_8_13 : Hid (∀ (l : Array Bool), l = #[true, true, true, true, true, true, true, true, true, true, true, false, false, true, false] → ∀ (u23 u24 u27 u28 u32 u34 u35 : Value) (X : World) (g3 k3 g7 k7 g8 g13 : Nat) , Below W1.heap.size W1 X → La.OwnI X W1.heap.size g3 xi k3 → Lb.OwnI X W1.heap.size g7 xa k7 → OwnG X W1.heap.size g8 [] 0 → (Row X g13 51 #[.slice none 0 0, .slice none 0 0, .slice none 0 0] ∧ W1.heap.size ≤ g13) → wpAnyH Try.prog .any uaOps Q (fun w' => w'.cell? ⟨ba, 0, none⟩ = some (.slice A0 xi.length c0) ∧ w'.cell? ⟨ba, 1, none⟩ = some (.slice A1 xa.length c1) ∧ w'.cell? ⟨ba, 2, none⟩ = some (.slice A2 xe.length c2)) 3 l { tmps := #[s0, s1, s2, s3, s4, s5, s6, .pointer (some ⟨g13, 0, none⟩), s8, s9, s10, s11, s12, s13, s14, s15, s16, s17, s18, s19, s20, s21, s22, u23, u24, .slice A0 xi.length c0, .slice (some ⟨g3, 0, none⟩) xi.length k3, u27, u28, .slice A1 xa.length c1, .slice (some ⟨g7, 0, none⟩) xa.length k7, .slice (some ⟨g8, 0, none⟩) 0 0, u32, .slice A2 xe.length c2, u34, u35, s36, s37, s38, s39, s40, s41, s42, s43, s44, s45, s46, s47, s48, s49, s50, s51, s52, s53, s54, s55, s56, s57, s58, s59, s60, s61, s62, s63, s64, s65, s66, s67, s68, s69, s70, s71, s72, s73, s74, s75, s76, s77, s78, s79, s80, s81, s82, s83, s84, s85, s86, s87, s88, s89, s90, s91, s92, s93, s94, s95], defers := [] } X) := by
    intro l hl u23 u24 u27 u28 u32 u34 u35 X g3 k3 g7 k7 g8 g13 hB h3 h7 h8 h13
    subst hl
    have HB := Lib.hid hB
    have hz : W1.heap.size ≤ X.heap.size := hB.size
    have H3 := Lib.hid h3
    have H7 := Lib.hid h7
    have H8 := Lib.hid h8
    have H13 := Lib.hid h13
    clear hB h3 h7 h8 h13
    refine wpAnyH_ready (rs := [11]) (by kernel_rfl) (by simp) (AllReadyH.cons (o := { dst := some 34, op := Go.Op.call { callee := Go.Callee.builtin Go.Builtin.append, args := #[Go.Operand.tmp 31, Go.Operand.tmp 33], argTypes := #[49, 49] }, type := 49, pos := "l7_automaton.go:407", after := #[{ on := 8, ground := Go.Ground.data }, { on := 10, ground := Go.Ground.data }, { on := 7, ground := Go.Ground.chain }], guard := none }) rfl (fun K hK => ?_) AllReadyH.nil)
    obtain ⟨g11, k11, Y, hap, hown, hgr, _⟩ := run_trs X 49 W1.heap.size g8 0 [] xe H8.out A2 p2 o2 c2 (HI2.out X HB.out) (by have := HLx.out; simp; omega) hz
    rw [List.nil_append] at hap hown
    have HBY : Hid (Below W1.heap.size W1 Y) := HB.out.grown hgr hz (fun k hk => by injection hk with hk; rw [← hk]; exact H8.out.le)
    obtain ⟨cr, hcr⟩ : ∃ cr, Row X g8 116 cr := by
      exact H8.out.row
    have HKp : Hid (∀ q t cs, t ≠ 116 → Row X q t cs → Y.heap[q]? = X.heap[q]?) := fun q t cs ht hr => hgr.block q hr.lt (fun e => by injection e with e; subst e; exact ht (hr.tyU hcr))
    refine step_append_eq rfl (.tmp 31) (.tmp 33) 49 rfl rfl rfl hap ?_
    refine hK.out _ _ ?_ (fun hHeld => ?_)
    · exact HKS.out _ HBY.out
    clear hK K
    try simp only [Act.put, List.setIfInBounds_toArray, List.set_cons_zero, List.set_cons_succ]
    refine wpAnyH_take (i := 12) (oi := { dst := some 35, op := Go.Op.build 51 #[(0, Go.Operand.tmp 26), (1, Go.Operand.tmp 30), (2, Go.Operand.tmp 34)], type := 51, pos := "l7_automaton.go:407", after := #[{ on := 3, ground := Go.Ground.data }, { on := 7, ground := Go.Ground.data }, { on := 11, ground := Go.Ground.data }], guard := none }) (v := ?_) rfl (by kernel_rfl) (by kernel_rfl) (by kernel_rfl) (fun c a w => HQ.out c a 35 _ w) (Or.inl ⟨by rfl, ?_⟩) (HKS.out _ HBY.out) ?_
    rotate_left
    · intro w hSw
      try dsimp only at hSw
      go_simp
      all_goals (with_reducible rfl)
    try simp only [Act.put, List.setIfInBounds_toArray, List.set_cons_zero, List.set_cons_succ]
    exact St0_3_4_7_8_11_13.out _ (by kernel_rfl) _ _ _ _ _ _ _ _ _ _ _ _ _ _ HBY.out (H3.out.keep (by obtain ⟨cs, h, _⟩ := H3.out.row; exact HKp.out _ _ _ (by decide) h)) (H7.out.keep (by obtain ⟨cs, h, _⟩ := H7.out.row; exact HKp.out _ _ _ (by decide) h)) hown ⟨(HKp.out _ _ _ (by decide) H13.out.1).trans H13.out.1, H13.out.2⟩
  have St0_3_4_7_8 : Hid (∀ (l : Array Bool), l = #[true, true, true, true, true, true, true, true, true, true, true, false, false, false, false] → ∀ (u7 u23 u24 u27 u28 u32 u34 u35 : Value) (X : World) (g3 k3 g7 k7 g8 : Nat) , Below W1.heap.size W1 X → La.OwnI X W1.heap.size g3 xi k3 → Lb.OwnI X W1.heap.size g7 xa k7 → OwnG X W1.heap.size g8 [] 0 → wpAnyH Try.prog .any uaOps Q (fun w' => w'.cell? ⟨ba, 0, none⟩ = some (.slice A0 xi.length c0) ∧ w'.cell? ⟨ba, 1, none⟩ = some (.slice A1 xa.length c1) ∧ w'.cell? ⟨ba, 2, none⟩ = some (.slice A2 xe.length c2)) 4 l { tmps := #[s0, s1, s2, s3, s4, s5, s6, u7, s8, s9, s10, s11, s12, s13, s14, s15, s16, s17, s18, s19, s20, s21, s22, u23, u24, .slice A0 xi.length c0, .slice (some ⟨g3, 0, none⟩) xi.length k3, u27, u28, .slice A1 xa.length c1, .slice (some ⟨g7, 0, none⟩) xa.length k7, .slice (some ⟨g8, 0, none⟩) 0 0, u32, .slice A2 xe.length c2, u34, u35, s36, s37, s38, s39, s40, s41, s42, s43, s44, s45, s46, s47, s48, s49, s50, s51, s52, s53, s54, s55, s56, s57, s58, s59, s60, s61, s62, s63, s64, s65, s66, s67, s68, s69, s70, s71, s72, s73, s74, s75, s76, s77, s78, s79, s80, s81, s82, s83, s84, s85, s86, s87, s88, s89, s90, s91, s92, s93, s94, s95], defers := [] } X) := by
    intro l hl u7 u23 u24 u27 u28 u32 u34 u35 X g3 k3 g7 k7 g8 hB h3 h7 h8
    subst hl
    have HB := Lib.hid hB
    have hz : W1.heap.size ≤ X.heap.size := hB.size
    have H3 := Lib.hid h3
    have H7 := Lib.hid h7
    have H8 := Lib.hid h8
    clear hB h3 h7 h8
    refine wpAnyH_ready (rs := [11, 13]) (by kernel_rfl) (by simp) (AllReadyH.cons (o := { dst := some 34, op := Go.Op.call { callee := Go.Callee.builtin Go.Builtin.append, args := #[Go.Operand.tmp 31, Go.Operand.tmp 33], argTypes := #[49, 49] }, type := 49, pos := "l7_automaton.go:407", after := #[{ on := 8, ground := Go.Ground.data }, { on := 10, ground := Go.Ground.data }, { on := 7, ground := Go.Ground.chain }], guard := none }) rfl (fun K hK => ?_) (AllReadyH.cons (o := { dst := some 7, op := Go.Op.alloc 51, type := 0, pos := "l7_automaton.go:407", after := #[], guard := none }) rfl (fun K hK => ?_) AllReadyH.nil))
    · skip
      obtain ⟨g11, k11, Y, hap, hown, hgr, _⟩ := run_trs X 49 W1.heap.size g8 0 [] xe H8.out A2 p2 o2 c2 (HI2.out X HB.out) (by have := HLx.out; simp; omega) hz
      rw [List.nil_append] at hap hown
      have HBY : Hid (Below W1.heap.size W1 Y) := HB.out.grown hgr hz (fun k hk => by injection hk with hk; rw [← hk]; exact H8.out.le)
      obtain ⟨cr, hcr⟩ : ∃ cr, Row X g8 116 cr := by
        exact H8.out.row
      have HKp : Hid (∀ q t cs, t ≠ 116 → Row X q t cs → Y.heap[q]? = X.heap[q]?) := fun q t cs ht hr => hgr.block q hr.lt (fun e => by injection e with e; subst e; exact ht (hr.tyU hcr))
      refine step_append_eq rfl (.tmp 31) (.tmp 33) 49 rfl rfl rfl hap ?_
      refine hK.out _ _ ?_ (fun hHeld => ?_)
      · exact HKS.out _ HBY.out
      clear hK K
      try simp only [Act.put, List.setIfInBounds_toArray, List.set_cons_zero, List.set_cons_succ]
      refine wpAnyH_take (i := 12) (oi := { dst := some 35, op := Go.Op.build 51 #[(0, Go.Operand.tmp 26), (1, Go.Operand.tmp 30), (2, Go.Operand.tmp 34)], type := 51, pos := "l7_automaton.go:407", after := #[{ on := 3, ground := Go.Ground.data }, { on := 7, ground := Go.Ground.data }, { on := 11, ground := Go.Ground.data }], guard := none }) (v := ?_) rfl (by kernel_rfl) (by kernel_rfl) (by kernel_rfl) (fun c a w => HQ.out c a 35 _ w) (Or.inl ⟨by rfl, ?_⟩) (HKS.out _ HBY.out) ?_
      rotate_left
      · intro w hSw
        try dsimp only at hSw
        go_simp
        all_goals (with_reducible rfl)
      try simp only [Act.put, List.setIfInBounds_toArray, List.set_cons_zero, List.set_cons_succ]
      exact St0_3_4_7_8_11.out _ (by kernel_rfl) _ _ _ _ _ _ _ _ _ _ _ _ _ _ HBY.out (H3.out.keep (by obtain ⟨cs, h, _⟩ := H3.out.row; exact HKp.out _ _ _ (by decide) h)) (H7.out.keep (by obtain ⟨cs, h, _⟩ := H7.out.row; exact HKp.out _ _ _ (by decide) h)) hown
    · skip
      go_simp
      obtain ⟨Y, hY⟩ : ∃ Y, Y = X.alloc (.cells #[.slice none 0 0, .slice none 0 0, .slice none 0 0] 51) := ⟨_, rfl⟩
      rw [← hY]
      have hb : Below X.heap.size X Y := by rw [hY]; exact (Below.refl _ _).alloc (Nat.le_refl _) _
      have hnew : Row Y X.heap.size 51 #[.slice none 0 0, .slice none 0 0, .slice none 0 0] := by rw [hY]; exact Row.new _ _ _
      have HBY : Hid (Below W1.heap.size W1 Y) := HB.out.trans (hb.mono hz)
      clear hY
      refine hK.out _ _ ?_ (fun hHeld => ?_)
      · exact HKS.out _ HBY.out
      clear hK K
      try simp only [List.setIfInBounds_toArray, List.set_cons_zero, List.set_cons_succ]
      exact St0_3_4_7_8_13.out _ (by kernel_rfl) _ _ _ _ _ _ _ _ _ _ _ _ _ _ HBY.out (H3.out.keep (hb.block _ H3.out.lt)) (H7.out.keep (hb.block _ H7.out.lt)) (H8.out.keep (hb.block _ H8.out.lt)) ⟨hnew, hz⟩
  have St0_3_4_7_13 : Hid (∀ (l : Array Bool), l = #[true, true, true, true, true, true, true, true, false, true, true, false, false, true, false] → ∀ (u23 u24 u27 u28 u31 u32 u34 u35 : Value) (X : World) (g3 k3 g7 k7 g13 : Nat) , Below W1.heap.size W1 X → La.OwnI X W1.heap.size g3 xi k3 → Lb.OwnI X W1.heap.size g7 xa k7 → (Row X g13 51 #[.slice none 0 0, .slice none 0 0, .slice none 0 0] ∧ W1.heap.size ≤ g13) → wpAnyH Try.prog .any uaOps Q (fun w' => w'.cell? ⟨ba, 0, none⟩ = some (.slice A0 xi.length c0) ∧ w'.cell? ⟨ba, 1, none⟩ = some (.slice A1 xa.length c1) ∧ w'.cell? ⟨ba, 2, none⟩ = some (.slice A2 xe.length c2)) 4 l { tmps := #[s0, s1, s2, s3, s4, s5, s6, .pointer (some ⟨g13, 0, none⟩), s8, s9, s10, s11, s12, s13, s14, s15, s16, s17, s18, s19, s20, s21, s22, u23, u24, .slice A0 xi.length c0, .slice (some ⟨g3, 0, none⟩) xi.length k3, u27, u28, .slice A1 xa.length c1, .slice (some ⟨g7, 0, none⟩) xa.length k7, u31, u32, .slice A2 xe.length c2, u34, u35, s36, s37, s38, s39, s40, s41, s42, s43, s44, s45, s46, s47, s48, s49, s50, s51, s52, s53, s54, s55, s56, s57, s58, s59, s60, s61, s62, s63, s64, s65, s66, s67, s68, s69, s70, s71, s72, s73, s74, s75, s76, s77, s78, s79, s80, s81, s82, s83, s84, s85, s86, s87, s88, s89, s90, s91, s92, s93, s94, s95], defers := [] } X) := by
    intro l hl u23 u24 u27 u28 u31 u32 u34 u35 X g3 k3 g7 k7 g13 hB h3 h7 h13
    subst hl
    have HB := Lib.hid hB
    have hz : W1.heap.size ≤ X.heap.size := hB.size
    have H3 := Lib.hid h3
    have H7 := Lib.hid h7
    have H13 := Lib.hid h13
    clear hB h3 h7 h13
    refine wpAnyH_ready (rs := [8]) (by kernel_rfl) (by simp) (AllReadyH.cons (o := { dst := some 31, op := Go.Op.buildSlice 49 0 #[], type := 49, pos := "l7_automaton.go:407", after := #[], guard := none }) rfl (fun K hK => ?_) AllReadyH.nil)
    go_simp
    obtain ⟨Y, hY⟩ : ∃ Y, Y = X.alloc (.cells #[] 116) := ⟨_, rfl⟩
    rw [← hY]
    have hb : Below X.heap.size X Y := by rw [hY]; exact (Below.refl _ _).alloc (Nat.le_refl _) _
    have hnew : Row Y X.heap.size 116 #[] := by rw [hY]; exact Row.new _ _ _
    have HBY : Hid (Below W1.heap.size W1 Y) := HB.out.trans (hb.mono hz)
    clear hY
    refine hK.out _ _ ?_ (fun hHeld => ?_)
    · exact HKS.out _ HBY.out
    clear hK K
    try simp only [List.setIfInBounds_toArray, List.set_cons_zero, List.set_cons_succ]
    exact St0_3_4_7_8_13.out _ (by kernel_rfl) _ _ _ _ _ _ _ _ _ _ _ _ _ _ HBY.out (H3.out.keep (hb.block _ H3.out.lt)) (H7.out.keep (hb.block _ H7.out.lt)) (OwnG.empty hz hnew) ⟨H13.out.1.under hb H13.out.1.lt, H13.out.2⟩
  have St0_3_4_7 : Hid (∀ (l : Array Bool), l = #[true, true, true, true, true, true, true, true, false, true, true, false, false, false, false] → ∀ (u7 u23 u24 u27 u28 u31 u32 u34 u35 : Value) (X : World) (g3 k3 g7 k7 : Nat) , Below W1.heap.size W1 X → La.OwnI X W1.heap.size g3 xi k3 → Lb.OwnI X W1.heap.size g7 xa k7 → wpAnyH Try.prog .any uaOps Q (fun w' => w'.cell? ⟨ba, 0, none⟩ = some (.slice A0 xi.length c0) ∧ w'.cell? ⟨ba, 1, none⟩ = some (.slice A1 xa.length c1) ∧ w'.cell? ⟨ba, 2, none⟩ = some (.slice A2 xe.length c2)) 5 l { tmps := #[s0, s1, s2, s3, s4, s5, s6, u7, s8, s9, s10, s11, s12, s13, s14, s15, s16, s17, s18, s19, s20, s21, s22, u23, u24, .slice A0 xi.length c0, .slice (some ⟨g3, 0, none⟩) xi.length k3, u27, u28, .slice A1 xa.length c1, .slice (some ⟨g7, 0, none⟩) xa.length k7, u31, u32, .slice A2 xe.length c2, u34, u35, s36, s37, s38, s39, s40, s41, s42, s43, s44, s45, s46, s47, s48, s49, s50, s51, s52, s53, s54, s55, s56, s57, s58, s59, s60, s61, s62, s63, s64, s65, s66, s67, s68, s69, s70, s71, s72, s73, s74, s75, s76, s77, s78, s79, s80, s81, s82, s83, s84, s85, s86, s87, s88, s89, s90, s91, s92, s93, s94, s95], defers := [] } X) := by
    intro l hl u7 u23 u24 u27 u28 u31 u32 u34 u35 X g3 k3 g7 k7 hB h3 h7
    subst hl
    have HB := Lib.hid hB
    have hz : W1.heap.size ≤ X.heap.size := hB.size
    have H3 := Lib.hid h3
    have H7 := Lib.hid h7
    clear hB h3 h7
    refine wpAnyH_ready (rs := [8, 13]) (by kernel_rfl) (by simp) (AllReadyH.cons (o := { dst := some 31, op := Go.Op.buildSlice 49 0 #[], type := 49, pos := "l7_automaton.go:407", after := #[], guard := none }) rfl (fun K hK => ?_) (AllReadyH.cons (o := { dst := some 7, op := Go.Op.alloc 51, type := 0, pos := "l7_automaton.go:407", after := #[], guard := none }) rfl (fun K hK => ?_) AllReadyH.nil))
    · skip
      go_simp
      obtain ⟨Y, hY⟩ : ∃ Y, Y = X.alloc (.cells #[] 116) := ⟨_, rfl⟩
      rw [← hY]
      have hb : Below X.heap.size X Y := by rw [hY]; exact (Below.refl _ _).alloc (Nat.le_refl _) _
      have hnew : Row Y X.heap.size 116 #[] := by rw [hY]; exact Row.new _ _ _
      have HBY : Hid (Below W1.heap.size W1 Y) := HB.out.trans (hb.mono hz)
      clear hY
      refine hK.out _ _ ?_ (fun hHeld => ?_)
      · exact HKS.out _ HBY.out
      clear hK K
      try simp only [List.setIfInBounds_toArray, List.set_cons_zero, List.set_cons_succ]
      exact St0_3_4_7_8.out _ (by kernel_rfl) _ _ _ _ _ _ _ _ _ _ _ _ _ _ HBY.out (H3.out.keep (hb.block _ H3.out.lt)) (H7.out.keep (hb.block _ H7.out.lt)) (OwnG.empty hz hnew)
    · skip
      go_simp
      obtain ⟨Y, hY⟩ : ∃ Y, Y = X.alloc (.cells #[.slice none 0 0, .slice none 0 0, .slice none 0 0] 51) := ⟨_, rfl⟩
      rw [← hY]
      have hb : Below X.heap.size X Y := by rw [hY]; exact (Below.refl _ _).alloc (Nat.le_refl _) _
      have hnew : Row Y X.heap.size 51 #[.slice none 0 0, .slice none 0 0, .slice none 0 0] := by rw [hY]; exact Row.new _ _ _
      have HBY : Hid (Below W1.heap.size W1 Y) := HB.out.trans (hb.mono hz)
      clear hY
      refine hK.out _ _ ?_ (fun hHeld => ?_)
      · exact HKS.out _ HBY.out
      clear hK K
      try simp only [List.setIfInBounds_toArray, List.set_cons_zero, List.set_cons_succ]
      exact St0_3_4_7_13.out _ (by kernel_rfl) _ _ _ _ _ _ _ _ _ _ _ _ _ _ HBY.out (H3.out.keep (hb.block _ H3.out.lt)) (H7.out.keep (hb.block _ H7.out.lt)) ⟨hnew, hz⟩
  have St0_3_4_8_13 : Hid (∀ (l : Array Bool), l = #[true, true, true, true, true, true, true, false, true, true, true, false, false, true, false] → ∀ (u23 u24 u28 u30 u32 u34 u35 : Value) (X : World) (g3 k3 g4 g8 g13 : Nat) , Below W1.heap.size W1 X → La.OwnI X W1.heap.size g3 xi k3 → Lb.OwnI X W1.heap.size g4 [] 0 → OwnG X W1.heap.size g8 [] 0 → (Row X g13 51 #[.slice none 0 0, .slice none 0 0, .slice none 0 0] ∧ W1.heap.size ≤ g13) → wpAnyH Try.prog .any uaOps Q (fun w' => w'.cell? ⟨ba, 0, none⟩ = some (.slice A0 xi.length c0) ∧ w'.cell? ⟨ba, 1, none⟩ = some (.slice A1 xa.length c1) ∧ w'.cell? ⟨ba, 2, none⟩ = some (.slice A2 xe.length c2)) 4 l { tmps := #[s0, s1, s2, s3, s4, s5, s6, .pointer (some ⟨g13, 0, none⟩), s8, s9, s10, s11, s12, s13, s14, s15, s16, s17, s18, s19, s20, s21, s22, u23, u24, .slice A0 xi.length c0, .slice (some ⟨g3, 0, none⟩) xi.length k3, .slice (some ⟨g4, 0, none⟩) 0 0, u28, .slice A1 xa.length c1, u30, .slice (some ⟨g8, 0, none⟩) 0 0, u32, .slice A2 xe.length c2, u34, u35, s36, s37, s38, s39, s40, s41, s42, s43, s44, s45, s46, s47, s48, s49, s50, s51, s52, s53, s54, s55, s56, s57, s58, s59, s60, s61, s62, s63, s64, s65, s66, s67, s68, s69, s70, s71, s72, s73, s74, s75, s76, s77, s78, s79, s80, s81, s82, s83, s84, s85, s86, s87, s88, s89, s90, s91, s92, s93, s94, s95], defers := [] } X) := by
    intro l hl u23 u24 u28 u30 u32 u34 u35 X g3 k3 g4 g8 g13 hB h3 h4 h8 h13
    subst hl
    have HB := Lib.hid hB
    have hz : W1.heap.size ≤ X.heap.size := hB.size
    have H3 := Lib.hid h3
    have H4 := Lib.hid h4
    have H8 := Lib.hid h8
    have H13 := Lib.hid h13
    clear hB h3 h4 h8 h13
    refine wpAnyH_ready (rs := [7]) (by kernel_rfl) (by simp) (AllReadyH.cons (o := { dst := some 30, op := Go.Op.call { callee := Go.Callee.builtin Go.Builtin.append, args := #[Go.Operand.tmp 27, Go.Operand.tmp 29], argTypes := #[27, 27] }, type := 27, pos := "l7_automaton.go:407", after := #[{ on := 4, ground := Go.Ground.data }, { on := 6, ground := Go.Ground.data }, { on := 3, ground := Go.Ground.chain }], guard := none }) rfl (fun K hK => ?_) AllReadyH.nil)
    obtain ⟨g7, k7, Y, hap, hown, hgr, _⟩ := Lb.run_ints X 27 W1.heap.size g4 0 [] xa H4.out A1 p1 o1 c1 (HI1.out X HB.out) (by have := HLx.out; simp; omega) hz
    rw [List.nil_append] at hap hown
    have HBY : Hid (Below W1.heap.size W1 Y) := HB.out.grown hgr hz (fun k hk => by injection hk with hk; rw [← hk]; exact H4.out.le)
    obtain ⟨cr, hcr⟩ : ∃ cr, Row X g4 4 cr := by
      obtain ⟨cs, h, _⟩ := H4.out.row; exact ⟨cs, h⟩
    have HKp : Hid (∀ q t cs, t ≠ 4 → Row X q t cs → Y.heap[q]? = X.heap[q]?) := fun q t cs ht hr => hgr.block q hr.lt (fun e => by injection e with e; subst e; exact ht (hr.tyU hcr))
    refine step_append_eq rfl (.tmp 27) (.tmp 29) 27 rfl rfl rfl hap ?_
    refine hK.out _ _ ?_ (fun hHeld => ?_)
    · exact HKS.out _ HBY.out
    clear hK K
    try simp only [Act.put, List.setIfInBounds_toArray, List.set_cons_zero, List.set_cons_succ]
    exact St0_3_4_7_8_13.out _ (by kernel_rfl) _ _ _ _ _ _ _ _ _ _ _ _ _ _ HBY.out (H3.out.keep (by obtain ⟨cs, h, _⟩ := H3.out.row; exact HKp.out _ _ _ (by decide) h)) hown (H8.out.keep (by obtain ⟨cs, h⟩ := H8.out.row; exact HKp.out _ _ _ (by decide) h)) ⟨(HKp.out _ _ _ (by decide) H13.out.1).trans H13.out.1, H13.out.2⟩
  have St0_3_4_8 : Hid (∀ (l : Array Bool), l = #[true, true, true, true, true, true, true, false, true, true, true, false, false, false, false] → ∀ (u7 u23 u24 u28 u30 u32 u34 u35 : Value) (X : World) (g3 k3 g4 g8 : Nat) , Below W1.heap.size W1 X → La.OwnI X W1.heap.size g3 xi k3 → Lb.OwnI X W1.heap.size g4 [] 0 → OwnG X W1.heap.size g8 [] 0 → wpAnyH Try.prog .any uaOps Q (fun w' => w'.cell? ⟨ba, 0, none⟩ = some (.slice A0 xi.length c0) ∧ w'.cell? ⟨ba, 1, none⟩ = some (.slice A1 xa.length c1) ∧ w'.cell? ⟨ba, 2, none⟩ = some (.slice A2 xe.length c2)) 5 l { tmps := #[s0, s1, s2, s3, s4, s5, s6, u7, s8, s9, s10, s11, s12, s13, s14, s15, s16, s17, s18, s19, s20, s21, s22, u23, u24, .slice A0 xi.length c0, .slice (some ⟨g3, 0, none⟩) xi.length k3, .slice (some ⟨g4, 0, none⟩) 0 0, u28, .slice A1 xa.length c1, u30, .slice (some ⟨g8, 0, none⟩) 0 0, u32, .slice A2 xe.length c2, u34, u35, s36, s37, s38, s39, s40, s41, s42, s43, s44, s45, s46, s47, s48, s49, s50, s51, s52, s53, s54, s55, s56, s57, s58, s59, s60, s61, s62, s63, s64, s65, s66, s67, s68, s69, s70, s71, s72, s73, s74, s75, s76, s77, s78, s79, s80, s81, s82, s83, s84, s85, s86, s87, s88, s89, s90, s91, s92, s93, s94, s95], defers := [] } X) := by
    intro l hl u7 u23 u24 u28 u30 u32 u34 u35 X g3 k3 g4 g8 hB h3 h4 h8
    subst hl
    have HB := Lib.hid hB
    have hz : W1.heap.size ≤ X.heap.size := hB.size
    have H3 := Lib.hid h3
    have H4 := Lib.hid h4
    have H8 := Lib.hid h8
    clear hB h3 h4 h8
    refine wpAnyH_ready (rs := [7, 13]) (by kernel_rfl) (by simp) (AllReadyH.cons (o := { dst := some 30, op := Go.Op.call { callee := Go.Callee.builtin Go.Builtin.append, args := #[Go.Operand.tmp 27, Go.Operand.tmp 29], argTypes := #[27, 27] }, type := 27, pos := "l7_automaton.go:407", after := #[{ on := 4, ground := Go.Ground.data }, { on := 6, ground := Go.Ground.data }, { on := 3, ground := Go.Ground.chain }], guard := none }) rfl (fun K hK => ?_) (AllReadyH.cons (o := { dst := some 7, op := Go.Op.alloc 51, type := 0, pos := "l7_automaton.go:407", after := #[], guard := none }) rfl (fun K hK => ?_) AllReadyH.nil))
    · skip
      obtain ⟨g7, k7, Y, hap, hown, hgr, _⟩ := Lb.run_ints X 27 W1.heap.size g4 0 [] xa H4.out A1 p1 o1 c1 (HI1.out X HB.out) (by have := HLx.out; simp; omega) hz
      rw [List.nil_append] at hap hown
      have HBY : Hid (Below W1.heap.size W1 Y) := HB.out.grown hgr hz (fun k hk => by injection hk with hk; rw [← hk]; exact H4.out.le)
      obtain ⟨cr, hcr⟩ : ∃ cr, Row X g4 4 cr := by
        obtain ⟨cs, h, _⟩ := H4.out.row; exact ⟨cs, h⟩
      have HKp : Hid (∀ q t cs, t ≠ 4 → Row X q t cs → Y.heap[q]? = X.heap[q]?) := fun q t cs ht hr => hgr.block q hr.lt (fun e => by injection e with e; subst e; exact ht (hr.tyU hcr))
      refine step_append_eq rfl (.tmp 27) (.tmp 29) 27 rfl rfl rfl hap ?_
      refine hK.out _ _ ?_ (fun hHeld => ?_)
      · exact HKS.out _ HBY.out
      clear hK K
      try simp only [Act.put, List.setIfInBounds_toArray, List.set_cons_zero, List.set_cons_succ]
      exact St0_3_4_7_8.out _ (by kernel_rfl) _ _ _ _ _ _ _ _ _ _ _ _ _ _ HBY.out (H3.out.keep (by obtain ⟨cs, h, _⟩ := H3.out.row; exact HKp.out _ _ _ (by decide) h)) hown (H8.out.keep (by obtain ⟨cs, h⟩ := H8.out.row; exact HKp.out _ _ _ (by decide) h))
    · skip
      go_simp
      obtain ⟨Y, hY⟩ : ∃ Y, Y = X.alloc (.cells #[.slice none 0 0, .slice none 0 0, .slice none 0 0] 51) := ⟨_, rfl⟩
      rw [← hY]
      have hb : Below X.heap.size X Y := by rw [hY]; exact (Below.refl _ _).alloc (Nat.le_refl _) _
      have hnew : Row Y X.heap.size 51 #[.slice none 0 0, .slice none 0 0, .slice none 0 0] := by rw [hY]; exact Row.new _ _ _
      have HBY : Hid (Below W1.heap.size W1 Y) := HB.out.trans (hb.mono hz)
      clear hY
      refine hK.out _ _ ?_ (fun hHeld => ?_)
      · exact HKS.out _ HBY.out
      clear hK K
      try simp only [List.setIfInBounds_toArray, List.set_cons_zero, List.set_cons_succ]
      exact St0_3_4_8_13.out _ (by kernel_rfl) _ _ _ _ _ _ _ _ _ _ _ _ _ HBY.out (H3.out.keep (hb.block _ H3.out.lt)) (H4.out.keep (hb.block _ H4.out.lt)) (H8.out.keep (hb.block _ H8.out.lt)) ⟨hnew, hz⟩
  have St0_3_4_13 : Hid (∀ (l : Array Bool), l = #[true, true, true, true, true, true, true, false, false, true, true, false, false, true, false] → ∀ (u23 u24 u28 u30 u31 u32 u34 u35 : Value) (X : World) (g3 k3 g4 g13 : Nat) , Below W1.heap.size W1 X → La.OwnI X W1.heap.size g3 xi k3 → Lb.OwnI X W1.heap.size g4 [] 0 → (Row X g13 51 #[.slice none 0 0, .slice none 0 0, .slice none 0 0] ∧ W1.heap.size ≤ g13) → wpAnyH Try.prog .any uaOps Q (fun w' => w'.cell? ⟨ba, 0, none⟩ = some (.slice A0 xi.length c0) ∧ w'.cell? ⟨ba, 1, none⟩ = some (.slice A1 xa.length c1) ∧ w'.cell? ⟨ba, 2, none⟩ = some (.slice A2 xe.length c2)) 5 l { tmps := #[s0, s1, s2, s3, s4, s5, s6, .pointer (some ⟨g13, 0, none⟩), s8, s9, s10, s11, s12, s13, s14, s15, s16, s17, s18, s19, s20, s21, s22, u23, u24, .slice A0 xi.length c0, .slice (some ⟨g3, 0, none⟩) xi.length k3, .slice (some ⟨g4, 0, none⟩) 0 0, u28, .slice A1 xa.length c1, u30, u31, u32, .slice A2 xe.length c2, u34, u35, s36, s37, s38, s39, s40, s41, s42, s43, s44, s45, s46, s47, s48, s49, s50, s51, s52, s53, s54, s55, s56, s57, s58, s59, s60, s61, s62, s63, s64, s65, s66, s67, s68, s69, s70, s71, s72, s73, s74, s75, s76, s77, s78, s79, s80, s81, s82, s83, s84, s85, s86, s87, s88, s89, s90, s91, s92, s93, s94, s95], defers := [] } X) := by
    intro l hl u23 u24 u28 u30 u31 u32 u34 u35 X g3 k3 g4 g13 hB h3 h4 h13
    subst hl
    have HB := Lib.hid hB
    have hz : W1.heap.size ≤ X.heap.size := hB.size
    have H3 := Lib.hid h3
    have H4 := Lib.hid h4
    have H13 := Lib.hid h13
    clear hB h3 h4 h13
    refine wpAnyH_ready (rs := [7, 8]) (by kernel_rfl) (by simp) (AllReadyH.cons (o := { dst := some 30, op := Go.Op.call { callee := Go.Callee.builtin Go.Builtin.append, args := #[Go.Operand.tmp 27, Go.Operand.tmp 29], argTypes := #[27, 27] }, type := 27, pos := "l7_automaton.go:407", after := #[{ on := 4, ground := Go.Ground.data }, { on := 6, ground := Go.Ground.data }, { on := 3, ground := Go.Ground.chain }], guard := none }) rfl (fun K hK => ?_) (AllReadyH.cons (o := { dst := some 31, op := Go.Op.buildSlice 49 0 #[], type := 49, pos := "l7_automaton.go:407", after := #[], guard := none }) rfl (fun K hK => ?_) AllReadyH.nil))
    · skip
      obtain ⟨g7, k7, Y, hap, hown, hgr, _⟩ := Lb.run_ints X 27 W1.heap.size g4 0 [] xa H4.out A1 p1 o1 c1 (HI1.out X HB.out) (by have := HLx.out; simp; omega) hz
      rw [List.nil_append] at hap hown
      have HBY : Hid (Below W1.heap.size W1 Y) := HB.out.grown hgr hz (fun k hk => by injection hk with hk; rw [← hk]; exact H4.out.le)
      obtain ⟨cr, hcr⟩ : ∃ cr, Row X g4 4 cr := by
        obtain ⟨cs, h, _⟩ := H4.out.row; exact ⟨cs, h⟩
      have HKp : Hid (∀ q t cs, t ≠ 4 → Row X q t cs → Y.heap[q]? = X.heap[q]?) := fun q t cs ht hr => hgr.block q hr.lt (fun e => by injection e with e; subst e; exact ht (hr.tyU hcr))
      refine step_append_eq rfl (.tmp 27) (.tmp 29) 27 rfl rfl rfl hap ?_
      refine hK.out _ _ ?_ (fun hHeld => ?_)
      · exact HKS.out _ HBY.out
      clear hK K
      try simp only [Act.put, List.setIfInBounds_toArray, List.set_cons_zero, List.set_cons_succ]
      exact St0_3_4_7_13.out _ (by kernel_rfl) _ _ _ _ _ _ _ _ _ _ _ _ _ _ HBY.out (H3.out.keep (by obtain ⟨cs, h, _⟩ := H3.out.row; exact HKp.out _ _ _ (by decide) h)) hown ⟨(HKp.out _ _ _ (by decide) H13.out.1).trans H13.out.1, H13.out.2⟩
    · skip
      go_simp
      obtain ⟨Y, hY⟩ : ∃ Y, Y = X.alloc (.cells #[] 116) := ⟨_, rfl⟩
      rw [← hY]
      have hb : Below X.heap.size X Y := by rw [hY]; exact (Below.refl _ _).alloc (Nat.le_refl _) _
      have hnew : Row Y X.heap.size 116 #[] := by rw [hY]; exact Row.new _ _ _
      have HBY : Hid (Below W1.heap.size W1 Y) := HB.out.trans (hb.mono hz)
      clear hY
      refine hK.out _ _ ?_ (fun hHeld => ?_)
      · exact HKS.out _ HBY.out
      clear hK K
      try simp only [List.setIfInBounds_toArray, List.set_cons_zero, List.set_cons_succ]
      exact St0_3_4_8_13.out _ (by kernel_rfl) _ _ _ _ _ _ _ _ _ _ _ _ _ HBY.out (H3.out.keep (hb.block _ H3.out.lt)) (H4.out.keep (hb.block _ H4.out.lt)) (OwnG.empty hz hnew) ⟨H13.out.1.under hb H13.out.1.lt, H13.out.2⟩
  have St0_3_4 : Hid (∀ (l : Array Bool), l = #[true, true, true, true, true, true, true, false, false, true, true, false, false, false, false] → ∀ (u7 u23 u24 u28 u30 u31 u32 u34 u35 : Value) (X : World) (g3 k3 g4 : Nat) , Below W1.heap.size W1 X → La.OwnI X W1.heap.size g3 xi k3 → Lb.OwnI X W1.heap.size g4 [] 0 → wpAnyH Try.prog .any uaOps Q (fun w' => w'.cell? ⟨ba, 0, none⟩ = some (.slice A0 xi.length c0) ∧ w'.cell? ⟨ba, 1, none⟩ = some (.slice A1 xa.length c1) ∧ w'.cell? ⟨ba, 2, none⟩ = some (.slice A2 xe.length c2)) 6 l { tmps := #[s0, s1, s2, s3, s4, s5, s6, u7, s8, s9, s10, s11, s12, s13, s14, s15, s16, s17, s18, s19, s20, s21, s22, u23, u24, .slice A0 xi.length c0, .slice (some ⟨g3, 0, none⟩) xi.length k3, .slice (some ⟨g4, 0, none⟩) 0 0, u28, .slice A1 xa.length c1, u30, u31, u32, .slice A2 xe.length c2, u34, u35, s36, s37, s38, s39, s40, s41, s42, s43, s44, s45, s46, s47, s48, s49, s50, s51, s52, s53, s54, s55, s56, s57, s58, s59, s60, s61, s62, s63, s64, s65, s66, s67, s68, s69, s70, s71, s72, s73, s74, s75, s76, s77, s78, s79, s80, s81, s82, s83, s84, s85, s86, s87, s88, s89, s90, s91, s92, s93, s94, s95], defers := [] } X) := by
    intro l hl u7 u23 u24 u28 u30 u31 u32 u34 u35 X g3 k3 g4 hB h3 h4
    subst hl
    have HB := Lib.hid hB
    have hz : W1.heap.size ≤ X.heap.size := hB.size
    have H3 := Lib.hid h3
    have H4 := Lib.hid h4
    clear hB h3 h4
    refine wpAnyH_ready (rs := [7, 8, 13]) (by kernel_rfl) (by simp) (AllReadyH.cons (o := { dst := some 30, op := Go.Op.call { callee := Go.Callee.builtin Go.Builtin.append, args := #[Go.Operand.tmp 27, Go.Operand.tmp 29], argTypes := #[27, 27] }, type := 27, pos := "l7_automaton.go:407", after := #[{ on := 4, ground := Go.Ground.data }, { on := 6, ground := Go.Ground.data }, { on := 3, ground := Go.Ground.chain }], guard := none }) rfl (fun K hK => ?_) (AllReadyH.cons (o := { dst := some 31, op := Go.Op.buildSlice 49 0 #[], type := 49, pos := "l7_automaton.go:407", after := #[], guard := none }) rfl (fun K hK => ?_) (AllReadyH.cons (o := { dst := some 7, op := Go.Op.alloc 51, type := 0, pos := "l7_automaton.go:407", after := #[], guard := none }) rfl (fun K hK => ?_) AllReadyH.nil)))
    · skip
      obtain ⟨g7, k7, Y, hap, hown, hgr, _⟩ := Lb.run_ints X 27 W1.heap.size g4 0 [] xa H4.out A1 p1 o1 c1 (HI1.out X HB.out) (by have := HLx.out; simp; omega) hz
      rw [List.nil_append] at hap hown
      have HBY : Hid (Below W1.heap.size W1 Y) := HB.out.grown hgr hz (fun k hk => by injection hk with hk; rw [← hk]; exact H4.out.le)
      obtain ⟨cr, hcr⟩ : ∃ cr, Row X g4 4 cr := by
        obtain ⟨cs, h, _⟩ := H4.out.row; exact ⟨cs, h⟩
      have HKp : Hid (∀ q t cs, t ≠ 4 → Row X q t cs → Y.heap[q]? = X.heap[q]?) := fun q t cs ht hr => hgr.block q hr.lt (fun e => by injection e with e; subst e; exact ht (hr.tyU hcr))
      refine step_append_eq rfl (.tmp 27) (.tmp 29) 27 rfl rfl rfl hap ?_
      refine hK.out _ _ ?_ (fun hHeld => ?_)
      · exact HKS.out _ HBY.out
      clear hK K
      try simp only [Act.put, List.setIfInBounds_toArray, List.set_cons_zero, List.set_cons_succ]
      exact St0_3_4_7.out _ (by kernel_rfl) _ _ _ _ _ _ _ _ _ _ _ _ _ _ HBY.out (H3.out.keep (by obtain ⟨cs, h, _⟩ := H3.out.row; exact HKp.out _ _ _ (by decide) h)) hown
    · skip
      go_simp
      obtain ⟨Y, hY⟩ : ∃ Y, Y = X.alloc (.cells #[] 116) := ⟨_, rfl⟩
      rw [← hY]
      have hb : Below X.heap.size X Y := by rw [hY]; exact (Below.refl _ _).alloc (Nat.le_refl _) _
      have hnew : Row Y X.heap.size 116 #[] := by rw [hY]; exact Row.new _ _ _
      have HBY : Hid (Below W1.heap.size W1 Y) := HB.out.trans (hb.mono hz)
      clear hY
      refine hK.out _ _ ?_ (fun hHeld => ?_)
      · exact HKS.out _ HBY.out
      clear hK K
      try simp only [List.setIfInBounds_toArray, List.set_cons_zero, List.set_cons_succ]
      exact St0_3_4_8.out _ (by kernel_rfl) _ _ _ _ _ _ _ _ _ _ _ _ _ HBY.out (H3.out.keep (hb.block _ H3.out.lt)) (H4.out.keep (hb.block _ H4.out.lt)) (OwnG.empty hz hnew)
    · skip
      go_simp
      obtain ⟨Y, hY⟩ : ∃ Y, Y = X.alloc (.cells #[.slice none 0 0, .slice none 0 0, .slice none 0 0] 51) := ⟨_, rfl⟩
      rw [← hY]
      have hb : Below X.heap.size X Y := by rw [hY]; exact (Below.refl _ _).alloc (Nat.le_refl _) _
      have hnew : Row Y X.heap.size 51 #[.slice none 0 0, .slice none 0 0, .slice none 0 0] := by rw [hY]; exact Row.new _ _ _
      have HBY : Hid (Below W1.heap.size W1 Y) := HB.out.trans (hb.mono hz)
      clear hY
      refine hK.out _ _ ?_ (fun hHeld => ?_)
      · exact HKS.out _ HBY.out
      clear hK K
      try simp only [List.setIfInBounds_toArray, List.set_cons_zero, List.set_cons_succ]
      exact St0_3_4_13.out _ (by kernel_rfl) _ _ _ _ _ _ _ _ _ _ _ _ _ HBY.out (H3.out.keep (hb.block _ H3.out.lt)) (H4.out.keep (hb.block _ H4.out.lt)) ⟨hnew, hz⟩
  have St0_3_8_13 : Hid (∀ (l : Array Bool), l = #[true, true, true, true, false, true, true, false, true, true, true, false, false, true, false] → ∀ (u23 u24 u27 u28 u30 u32 u34 u35 : Value) (X : World) (g3 k3 g8 g13 : Nat) , Below W1.heap.size W1 X → La.OwnI X W1.heap.size g3 xi k3 → OwnG X W1.heap.size g8 [] 0 → (Row X g13 51 #[.slice none 0 0, .slice none 0 0, .slice none 0 0] ∧ W1.heap.size ≤ g13) → wpAnyH Try.prog .any uaOps Q (fun w' => w'.cell? ⟨ba, 0, none⟩ = some (.slice A0 xi.length c0) ∧ w'.cell? ⟨ba, 1, none⟩ = some (.slice A1 xa.length c1) ∧ w'.cell? ⟨ba, 2, none⟩ = some (.slice A2 xe.length c2)) 5 l { tmps := #[s0, s1, s2, s3, s4, s5, s6, .pointer (some ⟨g13, 0, none⟩), s8, s9, s10, s11, s12, s13, s14, s15, s16, s17, s18, s19, s20, s21, s22, u23, u24, .slice A0 xi.length c0, .slice (some ⟨g3, 0, none⟩) xi.length k3, u27, u28, .slice A1 xa.length c1, u30, .slice (some ⟨g8, 0, none⟩) 0 0, u32, .slice A2 xe.length c2, u34, u35, s36, s37, s38, s39, s40, s41, s42, s43, s44, s45, s46, s47, s48, s49, s50, s51, s52, s53, s54, s55, s56, s57, s58, s59, s60, s61, s62, s63, s64, s65, s66, s67, s68, s69, s70, s71, s72, s73, s74, s75, s76, s77, s78, s79, s80, s81, s82, s83, s84, s85, s86, s87, s88, s89, s90, s91, s92, s93, s94, s95], defers := [] } X) := by
    intro l hl u23 u24 u27 u28 u30 u32 u34 u35 X g3 k3 g8 g13 hB h3 h8 h13
    subst hl
    have HB := Lib.hid hB
    have hz : W1.heap.size ≤ X.heap.size := hB.size
    have H3 := Lib.hid h3
    have H8 := Lib.hid h8
    have H13 := Lib.hid h13
    clear hB h3 h8 h13
    refine wpAnyH_ready (rs := [4]) (by kernel_rfl) (by simp) (AllReadyH.cons (o := { dst := some 27, op := Go.Op.buildSlice 27 0 #[], type := 27, pos := "l7_automaton.go:407", after := #[], guard := none }) rfl (fun K hK => ?_) AllReadyH.nil)
    go_simp
    obtain ⟨Y, hY⟩ : ∃ Y, Y = X.alloc (.cells #[] 4) := ⟨_, rfl⟩
    rw [← hY]
    have hb : Below X.heap.size X Y := by rw [hY]; exact (Below.refl _ _).alloc (Nat.le_refl _) _
    have hnew : Row Y X.heap.size 4 #[] := by rw [hY]; exact Row.new _ _ _
    have HBY : Hid (Below W1.heap.size W1 Y) := HB.out.trans (hb.mono hz)
    clear hY
    refine hK.out _ _ ?_ (fun hHeld => ?_)
    · exact HKS.out _ HBY.out
    clear hK K
    try simp only [List.setIfInBounds_toArray, List.set_cons_zero, List.set_cons_succ]
    exact St0_3_4_8_13.out _ (by kernel_rfl) _ _ _ _ _ _ _ _ _ _ _ _ _ HBY.out (H3.out.keep (hb.block _ H3.out.lt)) (Lb.OwnI.empty hz hnew) (H8.out.keep (hb.block _ H8.out.lt)) ⟨H13.out.1.under hb H13.out.1.lt, H13.out.2⟩
  have St0_3_8 : Hid (∀ (l : Array Bool), l = #[true, true, true, true, false, true, true, false, true, true, true, false, false, false, false] → ∀ (u7 u23 u24 u27 u28 u30 u32 u34 u35 : Value) (X : World) (g3 k3 g8 : Nat) , Below W1.heap.size W1 X → La.OwnI X W1.heap.size g3 xi k3 → OwnG X W1.heap.size g8 [] 0 → wpAnyH Try.prog .any uaOps Q (fun w' => w'.cell? ⟨ba, 0, none⟩ = some (.slice A0 xi.length c0) ∧ w'.cell? ⟨ba, 1, none⟩ = some (.slice A1 xa.length c1) ∧ w'.cell? ⟨ba, 2, none⟩ = some (.slice A2 xe.length c2)) 6 l { tmps := #[s0, s1, s2, s3, s4, s5, s6, u7, s8, s9, s10, s11, s12, s13, s14, s15, s16, s17, s18, s19, s20, s21, s22, u23, u24, .slice A0 xi.length c0, .slice (some ⟨g3, 0, none⟩) xi.length k3, u27, u28, .slice A1 xa.length c1, u30, .slice (some ⟨g8, 0, none⟩) 0 0, u32, .slice A2 xe.length c2, u34, u35, s36, s37, s38, s39, s40, s41, s42, s43, s44, s45, s46, s47, s48, s49, s50, s51, s52, s53, s54, s55, s56, s57, s58, s59, s60, s61, s62, s63, s64, s65, s66, s67, s68, s69, s70, s71, s72, s73, s74, s75, s76, s77, s78, s79, s80, s81, s82, s83, s84, s85, s86, s87, s88, s89, s90, s91, s92, s93, s94, s95], defers := [] } X) := by
    intro l hl u7 u23 u24 u27 u28 u30 u32 u34 u35 X g3 k3 g8 hB h3 h8
    subst hl
    have HB := Lib.hid hB
    have hz : W1.heap.size ≤ X.heap.size := hB.size
    have H3 := Lib.hid h3
    have H8 := Lib.hid h8
    clear hB h3 h8
    refine wpAnyH_ready (rs := [4, 13]) (by kernel_rfl) (by simp) (AllReadyH.cons (o := { dst := some 27, op := Go.Op.buildSlice 27 0 #[], type := 27, pos := "l7_automaton.go:407", after := #[], guard := none }) rfl (fun K hK => ?_) (AllReadyH.cons (o := { dst := some 7, op := Go.Op.alloc 51, type := 0, pos := "l7_automaton.go:407", after := #[], guard := none }) rfl (fun K hK => ?_) AllReadyH.nil))
    · skip
      go_simp
      obtain ⟨Y, hY⟩ : ∃ Y, Y = X.alloc (.cells #[] 4) := ⟨_, rfl⟩
      rw [← hY]
      have hb : Below X.heap.size X Y := by rw [hY]; exact (Below.refl _ _).alloc (Nat.le_refl _) _
      have hnew : Row Y X.heap.size 4 #[] := by rw [hY]; exact Row.new _ _ _
      have HBY : Hid (Below W1.heap.size W1 Y) := HB.out.trans (hb.mono hz)
      clear hY
      refine hK.out _ _ ?_ (fun hHeld => ?_)
      · exact HKS.out _ HBY.out
      clear hK K
      try simp only [List.setIfInBounds_toArray, List.set_cons_zero, List.set_cons_succ]
      exact St0_3_4_8.out _ (by kernel_rfl) _ _ _ _ _ _ _ _ _ _ _ _ _ HBY.out (H3.out.keep (hb.block _ H3.out.lt)) (Lb.OwnI.empty hz hnew) (H8.out.keep (hb.block _ H8.out.lt))
    · skip
      go_simp
      obtain ⟨Y, hY⟩ : ∃ Y, Y = X.alloc (.cells #[.slice none 0 0, .slice none 0 0, .slice none 0 0] 51) := ⟨_, rfl⟩
      rw [← hY]
      have hb : Below X.heap.size X Y := by rw [hY]; exact (Below.refl _ _).alloc (Nat.le_refl _) _
      have hnew : Row Y X.heap.size 51 #[.slice none 0 0, .slice none 0 0, .slice none 0 0] := by rw [hY]; exact Row.new _ _ _
      have HBY : Hid (Below W1.heap.size W1 Y) := HB.out.trans (hb.mono hz)
      clear hY
      refine hK.out _ _ ?_ (fun hHeld => ?_)
      · exact HKS.out _ HBY.out
      clear hK K
      try simp only [List.setIfInBounds_toArray, List.set_cons_zero, List.set_cons_succ]
      exact St0_3_8_13.out _ (by kernel_rfl) _ _ _ _ _ _ _ _ _ _ _ _ _ HBY.out (H3.out.keep (hb.block _ H3.out.lt)) (H8.out.keep (hb.block _ H8.out.lt)) ⟨hnew, hz⟩
  have St0_3_13 : Hid (∀ (l : Array Bool), l = #[true, true, true, true, false, true, true, false, false, true, true, false, false, true, false] → ∀ (u23 u24 u27 u28 u30 u31 u32 u34 u35 : Value) (X : World) (g3 k3 g13 : Nat) , Below W1.heap.size W1 X → La.OwnI X W1.heap.size g3 xi k3 → (Row X g13 51 #[.slice none 0 0, .slice none 0 0, .slice none 0 0] ∧ W1.heap.size ≤ g13) → wpAnyH Try.prog .any uaOps Q (fun w' => w'.cell? ⟨ba, 0, none⟩ = some (.slice A0 xi.length c0) ∧ w'.cell? ⟨ba, 1, none⟩ = some (.slice A1 xa.length c1) ∧ w'.cell? ⟨ba, 2, none⟩ = some (.slice A2 xe.length c2)) 6 l { tmps := #[s0, s1, s2, s3, s4, s5, s6, .pointer (some ⟨g13, 0, none⟩), s8, s9, s10, s11, s12, s13, s14, s15, s16, s17, s18, s19, s20, s21, s22, u23, u24, .slice A0 xi.length c0, .slice (some ⟨g3, 0, none⟩) xi.length k3, u27, u28, .slice A1 xa.length c1, u30, u31, u32, .slice A2 xe.length c2, u34, u35, s36, s37, s38, s39, s40, s41, s42, s43, s44, s45, s46, s47, s48, s49, s50, s51, s52, s53, s54, s55, s56, s57, s58, s59, s60, s61, s62, s63, s64, s65, s66, s67, s68, s69, s70, s71, s72, s73, s74, s75, s76, s77, s78, s79, s80, s81, s82, s83, s84, s85, s86, s87, s88, s89, s90, s91, s92, s93, s94, s95], defers := [] } X) := by
    intro l hl u23 u24 u27 u28 u30 u31 u32 u34 u35 X g3 k3 g13 hB h3 h13
    subst hl
    have HB := Lib.hid hB
    have hz : W1.heap.size ≤ X.heap.size := hB.size
    have H3 := Lib.hid h3
    have H13 := Lib.hid h13
    clear hB h3 h13
    refine wpAnyH_ready (rs := [4, 8]) (by kernel_rfl) (by simp) (AllReadyH.cons (o := { dst := some 27, op := Go.Op.buildSlice 27 0 #[], type := 27, pos := "l7_automaton.go:407", after := #[], guard := none }) rfl (fun K hK => ?_) (AllReadyH.cons (o := { dst := some 31, op := Go.Op.buildSlice 49 0 #[], type := 49, pos := "l7_automaton.go:407", after := #[], guard := none }) rfl (fun K hK => ?_) AllReadyH.nil))
    · skip
      go_simp
      obtain ⟨Y, hY⟩ : ∃ Y, Y = X.alloc (.cells #[] 4) := ⟨_, rfl⟩
      rw [← hY]
      have hb : Below X.heap.size X Y := by rw [hY]; exact (Below.refl _ _).alloc (Nat.le_refl _) _
      have hnew : Row Y X.heap.size 4 #[] := by rw [hY]; exact Row.new _ _ _
      have HBY : Hid (Below W1.heap.size W1 Y) := HB.out.trans (hb.mono hz)
      clear hY
      refine hK.out _ _ ?_ (fun hHeld => ?_)
      · exact HKS.out _ HBY.out
      clear hK K
      try simp only [List.setIfInBounds_toArray, List.set_cons_zero, List.set_cons_succ]
      exact St0_3_4_13.out _ (by kernel_rfl) _ _ _ _ _ _ _ _ _ _ _ _ _ HBY.out (H3.out.keep (hb.block _ H3.out.lt)) (Lb.OwnI.empty hz hnew) ⟨H13.out.1.under hb H13.out.1.lt, H13.out.2⟩
    · skip
      go_simp
      obtain ⟨Y, hY⟩ : ∃ Y, Y = X.alloc (.cells #[] 116) := ⟨_, rfl⟩
      rw [← hY]
      have hb : Below X.heap.size X Y := by rw [hY]; exact (Below.refl _ _).alloc (Nat.le_refl _) _
      have hnew : Row Y X.heap.size 116 #[] := by rw [hY]; exact Row.new _ _ _
      have HBY : Hid (Below W1.heap.size W1 Y) := HB.out.trans (hb.mono hz)
      clear hY
      refine hK.out _ _ ?_ (fun hHeld => ?_)
      · exact HKS.out _ HBY.out
      clear hK K
      try simp only [List.setIfInBounds_toArray, List.set_cons_zero, List.set_cons_succ]
      exact St0_3_8_13.out _ (by kernel_rfl) _ _ _ _ _ _ _ _ _ _ _ _ _ HBY.out (H3.out.keep (hb.block _ H3.out.lt)) (OwnG.empty hz hnew) ⟨H13.out.1.under hb H13.out.1.lt, H13.out.2⟩
  have St0_3 : Hid (∀ (l : Array Bool), l = #[true, true, true, true, false, true, true, false, false, true, true, false, false, false, false] → ∀ (u7 u23 u24 u27 u28 u30 u31 u32 u34 u35 : Value) (X : World) (g3 k3 : Nat) , Below W1.heap.size W1 X → La.OwnI X W1.heap.size g3 xi k3 → wpAnyH Try.prog .any uaOps Q (fun w' => w'.cell? ⟨ba, 0, none⟩ = some (.slice A0 xi.length c0) ∧ w'.cell? ⟨ba, 1, none⟩ = some (.slice A1 xa.length c1) ∧ w'.cell? ⟨ba, 2, none⟩ = some (.slice A2 xe.length c2)) 7 l { tmps := #[s0, s1, s2, s3, s4, s5, s6, u7, s8, s9, s10, s11, s12, s13, s14, s15, s16, s17, s18, s19, s20, s21, s22, u23, u24, .slice A0 xi.length c0, .slice (some ⟨g3, 0, none⟩) xi.length k3, u27, u28, .slice A1 xa.length c1, u30, u31, u32, .slice A2 xe.length c2, u34, u35, s36, s37, s38, s39, s40, s41, s42, s43, s44, s45, s46, s47, s48, s49, s50, s51, s52, s53, s54, s55, s56, s57, s58, s59, s60, s61, s62, s63, s64, s65, s66, s67, s68, s69, s70, s71, s72, s73, s74, s75, s76, s77, s78, s79, s80, s81, s82, s83, s84, s85, s86, s87, s88, s89, s90, s91, s92, s93, s94, s95], defers := [] } X) := by
    intro l hl u7 u23 u24 u27 u28 u30 u31 u32 u34 u35 X g3 k3 hB h3
    subst hl
    have HB := Lib.hid hB
    have hz : W1.heap.size ≤ X.heap.size := hB.size
    have H3 := Lib.hid h3
    clear hB h3
    refine wpAnyH_ready (rs := [4, 8, 13]) (by kernel_rfl) (by simp) (AllReadyH.cons (o := { dst := some 27, op := Go.Op.buildSlice 27 0 #[], type := 27, pos := "l7_automaton.go:407", after := #[], guard := none }) rfl (fun K hK => ?_) (AllReadyH.cons (o := { dst := some 31, op := Go.Op.buildSlice 49 0 #[], type := 49, pos := "l7_automaton.go:407", after := #[], guard := none }) rfl (fun K hK => ?_) (AllReadyH.cons (o := { dst := some 7, op := Go.Op.alloc 51, type := 0, pos := "l7_automaton.go:407", after := #[], guard := none }) rfl (fun K hK => ?_) AllReadyH.nil)))
    · skip
      go_simp
      obtain ⟨Y, hY⟩ : ∃ Y, Y = X.alloc (.cells #[] 4) := ⟨_, rfl⟩
      rw [← hY]
      have hb : Below X.heap.size X Y := by rw [hY]; exact (Below.refl _ _).alloc (Nat.le_refl _) _
      have hnew : Row Y X.heap.size 4 #[] := by rw [hY]; exact Row.new _ _ _
      have HBY : Hid (Below W1.heap.size W1 Y) := HB.out.trans (hb.mono hz)
      clear hY
      refine hK.out _ _ ?_ (fun hHeld => ?_)
      · exact HKS.out _ HBY.out
      clear hK K
      try simp only [List.setIfInBounds_toArray, List.set_cons_zero, List.set_cons_succ]
      exact St0_3_4.out _ (by kernel_rfl) _ _ _ _ _ _ _ _ _ _ _ _ _ HBY.out (H3.out.keep (hb.block _ H3.out.lt)) (Lb.OwnI.empty hz hnew)
    · skip
      go_simp
      obtain ⟨Y, hY⟩ : ∃ Y, Y = X.alloc (.cells #[] 116) := ⟨_, rfl⟩
      rw [← hY]
      have hb : Below X.heap.size X Y := by rw [hY]; exact (Below.refl _ _).alloc (Nat.le_refl _) _
      have hnew : Row Y X.heap.size 116 #[] := by rw [hY]; exact Row.new _ _ _
      have HBY : Hid (Below W1.heap.size W1 Y) := HB.out.trans (hb.mono hz)
      clear hY
      refine hK.out _ _ ?_ (fun hHeld => ?_)
      · exact HKS.out _ HBY.out
      clear hK K
      try simp only [List.setIfInBounds_toArray, List.set_cons_zero, List.set_cons_succ]
      exact St0_3_8.out _ (by kernel_rfl) _ _ _ _ _ _ _ _ _ _ _ _ _ HBY.out (H3.out.keep (hb.block _ H3.out.lt)) (OwnG.empty hz hnew)
    · skip
      go_simp
      obtain ⟨Y, hY⟩ : ∃ Y, Y = X.alloc (.cells #[.slice none 0 0, .slice none 0 0, .slice none 0 0] 51) := ⟨_, rfl⟩
      rw [← hY]
      have hb : Below X.heap.size X Y := by rw [hY]; exact (Below.refl _ _).alloc (Nat.le_refl _) _
      have hnew : Row Y X.heap.size 51 #[.slice none 0 0, .slice none 0 0, .slice none 0 0] := by rw [hY]; exact Row.new _ _ _
      have HBY : Hid (Below W1.heap.size W1 Y) := HB.out.trans (hb.mono hz)
      clear hY
      refine hK.out _ _ ?_ (fun hHeld => ?_)
      · exact HKS.out _ HBY.out
      clear hK K
      try simp only [List.setIfInBounds_toArray, List.set_cons_zero, List.set_cons_succ]
      exact St0_3_13.out _ (by kernel_rfl) _ _ _ _ _ _ _ _ _ _ _ _ _ HBY.out (H3.out.keep (hb.block _ H3.out.lt)) ⟨hnew, hz⟩
  have St0_4_8_13 : Hid (∀ (l : Array Bool), l = #[true, true, true, false, true, true, true, false, true, true, true, false, false, true, false] → ∀ (u24 u26 u28 u30 u32 u34 u35 : Value) (X : World) (g0 g4 g8 g13 : Nat) , Below W1.heap.size W1 X → La.OwnI X W1.heap.size g0 [] 0 → Lb.OwnI X W1.heap.size g4 [] 0 → OwnG X W1.heap.size g8 [] 0 → (Row X g13 51 #[.slice none 0 0, .slice none 0 0, .slice none 0 0] ∧ W1.heap.size ≤ g13) → wpAnyH Try.prog .any uaOps Q (fun w' => w'.cell? ⟨ba, 0, none⟩ = some (.slice A0 xi.length c0) ∧ w'.cell? ⟨ba, 1, none⟩ = some (.slice A1 xa.length c1) ∧ w'.cell? ⟨ba, 2, none⟩ = some (.slice A2 xe.length c2)) 5 l { tmps := #[s0, s1, s2, s3, s4, s5, s6, .pointer (some ⟨g13, 0, none⟩), s8, s9, s10, s11, s12, s13, s14, s15, s16, s17, s18, s19, s20, s21, s22, .slice (some ⟨g0, 0, none⟩) 0 0, u24, .slice A0 xi.length c0, u26, .slice (some ⟨g4, 0, none⟩) 0 0, u28, .slice A1 xa.length c1, u30, .slice (some ⟨g8, 0, none⟩) 0 0, u32, .slice A2 xe.length c2, u34, u35, s36, s37, s38, s39, s40, s41, s42, s43, s44, s45, s46, s47, s48, s49, s50, s51, s52, s53, s54, s55, s56, s57, s58, s59, s60, s61, s62, s63, s64, s65, s66, s67, s68, s69, s70, s71, s72, s73, s74, s75, s76, s77, s78, s79, s80, s81, s82, s83, s84, s85, s86, s87, s88, s89, s90, s91, s92, s93, s94, s95], defers := [] } X) := by
    intro l hl u24 u26 u28 u30 u32 u34 u35 X g0 g4 g8 g13 hB h0 h4 h8 h13
    subst hl
    have HB := Lib.hid hB
    have hz : W1.heap.size ≤ X.heap.size := hB.size
    have H0 := Lib.hid h0
    have H4 := Lib.hid h4
    have H8 := Lib.hid h8
    have H13 := Lib.hid h13
    clear hB h0 h4 h8 h13
    refine wpAnyH_ready (rs := [3]) (by kernel_rfl) (by simp) (AllReadyH.cons (o := { dst := some 26, op := Go.Op.call { callee := Go.Callee.builtin Go.Builtin.append, args := #[Go.Operand.tmp 23, Go.Operand.tmp 25], argTypes := #[22, 22] }, type := 22, pos := "l7_automaton.go:407", after := #[{ on := 0, ground := Go.Ground.data }, { on := 2, ground := Go.Ground.data }], guard := none }) rfl (fun K hK => ?_) AllReadyH.nil)
    obtain ⟨g3, k3, Y, hap, hown, hgr, _⟩ := La.run_ints X 22 W1.heap.size g0 0 [] xi H0.out A0 p0 o0 c0 (HI0.out X HB.out) (by have := HLx.out; simp; omega) hz
    rw [List.nil_append] at hap hown
    have HBY : Hid (Below W1.heap.size W1 Y) := HB.out.grown hgr hz (fun k hk => by injection hk with hk; rw [← hk]; exact H0.out.le)
    obtain ⟨cr, hcr⟩ : ∃ cr, Row X g0 3 cr := by
      obtain ⟨cs, h, _⟩ := H0.out.row; exact ⟨cs, h⟩
    have HKp : Hid (∀ q t cs, t ≠ 3 → Row X q t cs → Y.heap[q]? = X.heap[q]?) := fun q t cs ht hr => hgr.block q hr.lt (fun e => by injection e with e; subst e; exact ht (hr.tyU hcr))
    refine step_append_eq rfl (.tmp 23) (.tmp 25) 22 rfl rfl rfl hap ?_
    refine hK.out _ _ ?_ (fun hHeld => ?_)
    · exact HKS.out _ HBY.out
    clear hK K
    try simp only [Act.put, List.setIfInBounds_toArray, List.set_cons_zero, List.set_cons_succ]
    exact St0_3_4_8_13.out _ (by kernel_rfl) _ _ _ _ _ _ _ _ _ _ _ _ _ HBY.out hown (H4.out.keep (by obtain ⟨cs, h, _⟩ := H4.out.row; exact HKp.out _ _ _ (by decide) h)) (H8.out.keep (by obtain ⟨cs, h⟩ := H8.out.row; exact HKp.out _ _ _ (by decide) h)) ⟨(HKp.out _ _ _ (by decide) H13.out.1).trans H13.out.1, H13.out.2⟩
  have St0_4_8 : Hid (∀ (l : Array Bool), l = #[true, true, true, false, true, true, true, false, true, true, true, false, false, false, false] → ∀ (u7 u24 u26 u28 u30 u32 u34 u35 : Value) (X : World) (g0 g4 g8 : Nat) , Below W1.heap.size W1 X → La.OwnI X W1.heap.size g0 [] 0 → Lb.OwnI X W1.heap.size g4 [] 0 → OwnG X W1.heap.size g8 [] 0 → wpAnyH Try.prog .any uaOps Q (fun w' => w'.cell? ⟨ba, 0, none⟩ = some (.slice A0 xi.length c0) ∧ w'.cell? ⟨ba, 1, none⟩ = some (.slice A1 xa.length c1) ∧ w'.cell? ⟨ba, 2, none⟩ = some (.slice A2 xe.length c2)) 6 l { tmps := #[s0, s1, s2, s3, s4, s5, s6, u7, s8, s9, s10, s11, s12, s13, s14, s15, s16, s17, s18, s19, s20, s21, s22, .slice (some ⟨g0, 0, none⟩) 0 0, u24, .slice A0 xi.length c0, u26, .slice (some ⟨g4, 0, none⟩) 0 0, u28, .slice A1 xa.length c1, u30, .slice (some ⟨g8, 0, none⟩) 0 0, u32, .slice A2 xe.length c2, u34, u35, s36, s37, s38, s39, s40, s41, s42, s43, s44, s45, s46, s47, s48, s49, s50, s51, s52, s53, s54, s55, s56, s57, s58, s59, s60, s61, s62, s63, s64, s65, s66, s67, s68, s69, s70, s71, s72, s73, s74, s75, s76, s77, s78, s79, s80, s81, s82, s83, s84, s85, s86, s87, s88, s89, s90, s91, s92, s93, s94, s95], defers := [] } X) := by
    intro l hl u7 u24 u26 u28 u30 u32 u34 u35 X g0 g4 g8 hB h0 h4 h8
    subst hl
    have HB := Lib.hid hB
    have hz : W1.heap.size ≤ X.heap.size := hB.size
    have H0 := Lib.hid h0
    have H4 := Lib.hid h4
    have H8 := Lib.hid h8
    clear hB h0 h4 h8
    refine wpAnyH_ready (rs := [3, 13]) (by kernel_rfl) (by simp) (AllReadyH.cons (o := { dst := some 26, op := Go.Op.call { callee := Go.Callee.builtin Go.Builtin.append, args := #[Go.Operand.tmp 23, Go.Operand.tmp 25], argTypes := #[22, 22] }, type := 22, pos := "l7_automaton.go:407", after := #[{ on := 0, ground := Go.Ground.data }, { on := 2, ground := Go.Ground.data }], guard := none }) rfl (fun K hK => ?_) (AllReadyH.cons (o := { dst := some 7, op := Go.Op.alloc 51, type := 0, pos := "l7_automaton.go:407", after := #[], guard := none }) rfl (fun K hK => ?_) AllReadyH.nil))
    · skip
      obtain ⟨g3, k3, Y, hap, hown, hgr, _⟩ := La.run_ints X 22 W1.heap.size g0 0 [] xi H0.out A0 p0 o0 c0 (HI0.out X HB.out) (by have := HLx.out; simp; omega) hz
      rw [List.nil_append] at hap hown
      have HBY : Hid (Below W1.heap.size W1 Y) := HB.out.grown hgr hz (fun k hk => by injection hk with hk; rw [← hk]; exact H0.out.le)
      obtain ⟨cr, hcr⟩ : ∃ cr, Row X g0 3 cr := by
        obtain ⟨cs, h, _⟩ := H0.out.row; exact ⟨cs, h⟩
      have HKp : Hid (∀ q t cs, t ≠ 3 → Row X q t cs → Y.heap[q]? = X.heap[q]?) := fun q t cs ht hr => hgr.block q hr.lt (fun e => by injection e with e; subst e; exact ht (hr.tyU hcr))
      refine step_append_eq rfl (.tmp 23) (.tmp 25) 22 rfl rfl rfl hap ?_
      refine hK.out _ _ ?_ (fun hHeld => ?_)
      · exact HKS.out _ HBY.out
      clear hK K
      try simp only [Act.put, List.setIfInBounds_toArray, List.set_cons_zero, List.set_cons_succ]
      exact St0_3_4_8.out _ (by kernel_rfl) _ _ _ _ _ _ _ _ _ _ _ _ _ HBY.out hown (H4.out.keep (by obtain ⟨cs, h, _⟩ := H4.out.row; exact HKp.out _ _ _ (by decide) h)) (H8.out.keep (by obtain ⟨cs, h⟩ := H8.out.row; exact HKp.out _ _ _ (by decide) h))
    · skip
      go_simp
      obtain ⟨Y, hY⟩ : ∃ Y, Y = X.alloc (.cells #[.slice none 0 0, .slice none 0 0, .slice none 0 0] 51) := ⟨_, rfl⟩
      rw [← hY]
      have hb : Below X.heap.size X Y := by rw [hY]; exact (Below.refl _ _).alloc (Nat.le_refl _) _
      have hnew : Row Y X.heap.size 51 #[.slice none 0 0, .slice none 0 0, .slice none 0 0] := by rw [hY]; exact Row.new _ _ _
      have HBY : Hid (Below W1.heap.size W1 Y) := HB.out.trans (hb.mono hz)
      clear hY
      refine hK.out _ _ ?_ (fun hHeld => ?_)
      · exact HKS.out _ HBY.out
      clear hK K
      try simp only [List.setIfInBounds_toArray, List.set_cons_zero, List.set_cons_succ]
      exact St0_4_8_13.out _ (by kernel_rfl) _ _ _ _ _ _ _ _ _ _ _ _ HBY.out (H0.out.keep (hb.block _ H0.out.lt)) (H4.out.keep (hb.block _ H4.out.lt)) (H8.out.keep (hb.block _ H8.out.lt)) ⟨hnew, hz⟩
  have St0_4_13 : Hid (∀ (l : Array Bool), l = #[true, true, true, false, true, true, true, false, false, true, true, false, false, true, false] → ∀ (u24 u26 u28 u30 u31 u32 u34 u35 : Value) (X : World) (g0 g4 g13 : Nat) , Below W1.heap.size W1 X → La.OwnI X W1.heap.size g0 [] 0 → Lb.OwnI X W1.heap.size g4 [] 0 → (Row X g13 51 #[.slice none 0 0, .slice none 0 0, .slice none 0 0] ∧ W1.heap.size ≤ g13) → wpAnyH Try.prog .any uaOps Q (fun w' => w'.cell? ⟨ba, 0, none⟩ = some (.slice A0 xi.length c0) ∧ w'.cell? ⟨ba, 1, none⟩ = some (.slice A1 xa.length c1) ∧ w'.cell? ⟨ba, 2, none⟩ = some (.slice A2 xe.length c2)) 6 l { tmps := #[s0, s1, s2, s3, s4, s5, s6, .pointer (some ⟨g13, 0, none⟩), s8, s9, s10, s11, s12, s13, s14, s15, s16, s17, s18, s19, s20, s21, s22, .slice (some ⟨g0, 0, none⟩) 0 0, u24, .slice A0 xi.length c0, u26, .slice (some ⟨g4, 0, none⟩) 0 0, u28, .slice A1 xa.length c1, u30, u31, u32, .slice A2 xe.length c2, u34, u35, s36, s37, s38, s39, s40, s41, s42, s43, s44, s45, s46, s47, s48, s49, s50, s51, s52, s53, s54, s55, s56, s57, s58, s59, s60, s61, s62, s63, s64, s65, s66, s67, s68, s69, s70, s71, s72, s73, s74, s75, s76, s77, s78, s79, s80, s81, s82, s83, s84, s85, s86, s87, s88, s89, s90, s91, s92, s93, s94, s95], defers := [] } X) := by
    intro l hl u24 u26 u28 u30 u31 u32 u34 u35 X g0 g4 g13 hB h0 h4 h13
    subst hl
    have HB := Lib.hid hB
    have hz : W1.heap.size ≤ X.heap.size := hB.size
    have H0 := Lib.hid h0
    have H4 := Lib.hid h4
    have H13 := Lib.hid h13
    clear hB h0 h4 h13
    refine wpAnyH_ready (rs := [3, 8]) (by kernel_rfl) (by simp) (AllReadyH.cons (o := { dst := some 26, op := Go.Op.call { callee := Go.Callee.builtin Go.Builtin.append, args := #[Go.Operand.tmp 23, Go.Operand.tmp 25], argTypes := #[22, 22] }, type := 22, pos := "l7_automaton.go:407", after := #[{ on := 0, ground := Go.Ground.data }, { on := 2, ground := Go.Ground.data }], guard := none }) rfl (fun K hK => ?_) (AllReadyH.cons (o := { dst := some 31, op := Go.Op.buildSlice 49 0 #[], type := 49, pos := "l7_automaton.go:407", after := #[], guard := none }) rfl (fun K hK => ?_) AllReadyH.nil))
    · skip
      obtain ⟨g3, k3, Y, hap, hown, hgr, _⟩ := La.run_ints X 22 W1.heap.size g0 0 [] xi H0.out A0 p0 o0 c0 (HI0.out X HB.out) (by have := HLx.out; simp; omega) hz
      rw [List.nil_append] at hap hown
      have HBY : Hid (Below W1.heap.size W1 Y) := HB.out.grown hgr hz (fun k hk => by injection hk with hk; rw [← hk]; exact H0.out.le)
      obtain ⟨cr, hcr⟩ : ∃ cr, Row X g0 3 cr := by
        obtain ⟨cs, h, _⟩ := H0.out.row; exact ⟨cs, h⟩
      have HKp : Hid (∀ q t cs, t ≠ 3 → Row X q t cs → Y.heap[q]? = X.heap[q]?) := fun q t cs ht hr => hgr.block q hr.lt (fun e => by injection e with e; subst e; exact ht (hr.tyU hcr))
      refine step_append_eq rfl (.tmp 23) (.tmp 25) 22 rfl rfl rfl hap ?_
      refine hK.out _ _ ?_ (fun hHeld => ?_)
      · exact HKS.out _ HBY.out
      clear hK K
      try simp only [Act.put, List.setIfInBounds_toArray, List.set_cons_zero, List.set_cons_succ]
      exact St0_3_4_13.out _ (by kernel_rfl) _ _ _ _ _ _ _ _ _ _ _ _ _ HBY.out hown (H4.out.keep (by obtain ⟨cs, h, _⟩ := H4.out.row; exact HKp.out _ _ _ (by decide) h)) ⟨(HKp.out _ _ _ (by decide) H13.out.1).trans H13.out.1, H13.out.2⟩
    · skip
      go_simp
      obtain ⟨Y, hY⟩ : ∃ Y, Y = X.alloc (.cells #[] 116) := ⟨_, rfl⟩
      rw [← hY]
      have hb : Below X.heap.size X Y := by rw [hY]; exact (Below.refl _ _).alloc (Nat.le_refl _) _
      have hnew : Row Y X.heap.size 116 #[] := by rw [hY]; exact Row.new _ _ _
      have HBY : Hid (Below W1.heap.size W1 Y) := HB.out.trans (hb.mono hz)
      clear hY
      refine hK.out _ _ ?_ (fun hHeld => ?_)
      · exact HKS.out _ HBY.out
      clear hK K
      try simp only [List.setIfInBounds_toArray, List.set_cons_zero, List.set_cons_succ]
      exact St0_4_8_13.out _ (by kernel_rfl) _ _ _ _ _ _ _ _ _ _ _ _ HBY.out (H0.out.keep (hb.block _ H0.out.lt)) (H4.out.keep (hb.block _ H4.out.lt)) (OwnG.empty hz hnew) ⟨H13.out.1.under hb H13.out.1.lt, H13.out.2⟩
  have St0_4 : Hid (∀ (l : Array Bool), l = #[true, true, true, false, true, true, true, false, false, true, true, false, false, false, false] → ∀ (u7 u24 u26 u28 u30 u31 u32 u34 u35 : Value) (X : World) (g0 g4 : Nat) , Below W1.heap.size W1 X → La.OwnI X W1.heap.size g0 [] 0 → Lb.OwnI X W1.heap.size g4 [] 0 → wpAnyH Try.prog .any uaOps Q (fun w' => w'.cell? ⟨ba, 0, none⟩ = some (.slice A0 xi.length c0) ∧ w'.cell? ⟨ba, 1, none⟩ = some (.slice A1 xa.length c1) ∧ w'.cell? ⟨ba, 2, none⟩ = some (.slice A2 xe.length c2)) 7 l { tmps := #[s0, s1, s2, s3, s4, s5, s6, u7, s8, s9, s10, s11, s12, s13, s14, s15, s16, s17, s18, s19, s20, s21, s22, .slice (some ⟨g0, 0, none⟩) 0 0, u24, .slice A0 xi.length c0, u26, .slice (some ⟨g4, 0, none⟩) 0 0, u28, .slice A1 xa.length c1, u30, u31, u32, .slice A2 xe.length c2, u34, u35, s36, s37, s38, s39, s40, s41, s42, s43, s44, s45, s46, s47, s48, s49, s50, s51, s52, s53, s54, s55, s56, s57, s58, s59, s60, s61, s62, s63, s64, s65, s66, s67, s68, s69, s70, s71, s72, s73, s74, s75, s76, s77, s78, s79, s80, s81, s82, s83, s84, s85, s86, s87, s88, s89, s90, s91, s92, s93, s94, s95], defers := [] } X) := by
    intro l hl u7 u24 u26 u28 u30 u31 u32 u34 u35 X g0 g4 hB h0 h4
    subst hl
    have HB := Lib.hid hB
    have hz : W1.heap.size ≤ X.heap.size := hB.size
    have H0 := Lib.hid h0
    have H4 := Lib.hid h4
    clear hB h0 h4
    refine wpAnyH_ready (rs := [3, 8, 13]) (by kernel_rfl) (by simp) (AllReadyH.cons (o := { dst := some 26, op := Go.Op.call { callee := Go.Callee.builtin Go.Builtin.append, args := #[Go.Operand.tmp 23, Go.Operand.tmp 25], argTypes := #[22, 22] }, type := 22, pos := "l7_automaton.go:407", after := #[{ on := 0, ground := Go.Ground.data }, { on := 2, ground := Go.Ground.data }], guard := none }) rfl (fun K hK => ?_) (AllReadyH.cons (o := { dst := some 31, op := Go.Op.buildSlice 49 0 #[], type := 49, pos := "l7_automaton.go:407", after := #[], guard := none }) rfl (fun K hK => ?_) (AllReadyH.cons (o := { dst := some 7, op := Go.Op.alloc 51, type := 0, pos := "l7_automaton.go:407", after := #[], guard := none }) rfl (fun K hK => ?_) AllReadyH.nil)))
    · skip
      obtain ⟨g3, k3, Y, hap, hown, hgr, _⟩ := La.run_ints X 22 W1.heap.size g0 0 [] xi H0.out A0 p0 o0 c0 (HI0.out X HB.out) (by have := HLx.out; simp; omega) hz
      rw [List.nil_append] at hap hown
      have HBY : Hid (Below W1.heap.size W1 Y) := HB.out.grown hgr hz (fun k hk => by injection hk with hk; rw [← hk]; exact H0.out.le)
      obtain ⟨cr, hcr⟩ : ∃ cr, Row X g0 3 cr := by
        obtain ⟨cs, h, _⟩ := H0.out.row; exact ⟨cs, h⟩
      have HKp : Hid (∀ q t cs, t ≠ 3 → Row X q t cs → Y.heap[q]? = X.heap[q]?) := fun q t cs ht hr => hgr.block q hr.lt (fun e => by injection e with e; subst e; exact ht (hr.tyU hcr))
      refine step_append_eq rfl (.tmp 23) (.tmp 25) 22 rfl rfl rfl hap ?_
      refine hK.out _ _ ?_ (fun hHeld => ?_)
      · exact HKS.out _ HBY.out
      clear hK K
      try simp only [Act.put, List.setIfInBounds_toArray, List.set_cons_zero, List.set_cons_succ]
      exact St0_3_4.out _ (by kernel_rfl) _ _ _ _ _ _ _ _ _ _ _ _ _ HBY.out hown (H4.out.keep (by obtain ⟨cs, h, _⟩ := H4.out.row; exact HKp.out _ _ _ (by decide) h))
    · skip
      go_simp
      obtain ⟨Y, hY⟩ : ∃ Y, Y = X.alloc (.cells #[] 116) := ⟨_, rfl⟩
      rw [← hY]
      have hb : Below X.heap.size X Y := by rw [hY]; exact (Below.refl _ _).alloc (Nat.le_refl _) _
      have hnew : Row Y X.heap.size 116 #[] := by rw [hY]; exact Row.new _ _ _
      have HBY : Hid (Below W1.heap.size W1 Y) := HB.out.trans (hb.mono hz)
      clear hY
      refine hK.out _ _ ?_ (fun hHeld => ?_)
      · exact HKS.out _ HBY.out
      clear hK K
      try simp only [List.setIfInBounds_toArray, List.set_cons_zero, List.set_cons_succ]
      exact St0_4_8.out _ (by kernel_rfl) _ _ _ _ _ _ _ _ _ _ _ _ HBY.out (H0.out.keep (hb.block _ H0.out.lt)) (H4.out.keep (hb.block _ H4.out.lt)) (OwnG.empty hz hnew)
    · skip
      go_simp
      obtain ⟨Y, hY⟩ : ∃ Y, Y = X.alloc (.cells #[.slice none 0 0, .slice none 0 0, .slice none 0 0] 51) := ⟨_, rfl⟩
      rw [← hY]
      have hb : Below X.heap.size X Y := by rw [hY]; exact (Below.refl _ _).alloc (Nat.le_refl _) _
      have hnew : Row Y X.heap.size 51 #[.slice none 0 0, .slice none 0 0, .slice none 0 0] := by rw [hY]; exact Row.new _ _ _
      have HBY : Hid (Below W1.heap.size W1 Y) := HB.out.trans (hb.mono hz)
      clear hY
      refine hK.out _ _ ?_ (fun hHeld => ?_)
      · exact HKS.out _ HBY.out
      clear hK K
      try simp only [List.setIfInBounds_toArray, List.set_cons_zero, List.set_cons_succ]
      exact St0_4_13.out _ (by kernel_rfl) _ _ _ _ _ _ _ _ _ _ _ _ HBY.out (H0.out.keep (hb.block _ H0.out.lt)) (H4.out.keep (hb.block _ H4.out.lt)) ⟨hnew, hz⟩
  have St0_8_13 : Hid (∀ (l : Array Bool), l = #[true, true, true, false, false, true, true, false, true, true, true, false, false, true, false] → ∀ (u24 u26 u27 u28 u30 u32 u34 u35 : Value) (X : World) (g0 g8 g13 : Nat) , Below W1.heap.size W1 X → La.OwnI X W1.heap.size g0 [] 0 → OwnG X W1.heap.size g8 [] 0 → (Row X g13 51 #[.slice none 0 0, .slice none 0 0, .slice none 0 0] ∧ W1.heap.size ≤ g13) → wpAnyH Try.prog .any uaOps Q (fun w' => w'.cell? ⟨ba, 0, none⟩ = some (.slice A0 xi.length c0) ∧ w'.cell? ⟨ba, 1, none⟩ = some (.slice A1 xa.length c1) ∧ w'.cell? ⟨ba, 2, none⟩ = some (.slice A2 xe.length c2)) 6 l { tmps := #[s0, s1, s2, s3, s4, s5, s6, .pointer (some ⟨g13, 0, none⟩), s8, s9, s10, s11, s12, s13, s14, s15, s16, s17, s18, s19, s20, s21, s22, .slice (some ⟨g0, 0, none⟩) 0 0, u24, .slice A0 xi.length c0, u26, u27, u28, .slice A1 xa.length c1, u30, .slice (some ⟨g8, 0, none⟩) 0 0, u32, .slice A2 xe.length c2, u34, u35, s36, s37, s38, s39, s40, s41, s42, s43, s44, s45, s46, s47, s48, s49, s50, s51, s52, s53, s54, s55, s56, s57, s58, s59, s60, s61, s62, s63, s64, s65, s66, s67, s68, s69, s70, s71, s72, s73, s74, s75, s76, s77, s78, s79, s80, s81, s82, s83, s84, s85, s86, s87, s88, s89, s90, s91, s92, s93, s94, s95], defers := [] } X) := by
    intro l hl u24 u26 u27 u28 u30 u32 u34 u35 X g0 g8 g13 hB h0 h8 h13
    subst hl
    have HB := Lib.hid hB
    have hz : W1.heap.size ≤ X.heap.size := hB.size
    have H0 := Lib.hid h0
    have H8 := Lib.hid h8
    have H13 := Lib.hid h13
    clear hB h0 h8 h13
    refine wpAnyH_ready (rs := [3, 4]) (by kernel_rfl) (by simp) (AllReadyH.cons (o := { dst := some 26, op := Go.Op.call { callee := Go.Callee.builtin Go.Builtin.append, args := #[Go.Operand.tmp 23, Go.Operand.tmp 25], argTypes := #[22, 22] }, type := 22, pos := "l7_automaton.go:407", after := #[{ on := 0, ground := Go.Ground.data }, { on := 2, ground := Go.Ground.data }], guard := none }) rfl (fun K hK => ?_) (AllReadyH.cons (o := { dst := some 27, op := Go.Op.buildSlice 27 0 #[], type := 27, pos := "l7_automaton.go:407", after := #[], guard := none }) rfl (fun K hK => ?_) AllReadyH.nil))
    · skip
      obtain ⟨g3, k3, Y, hap, hown, hgr, _⟩ := La.run_ints X 22 W1.heap.size g0 0 [] xi H0.out A0 p0 o0 c0 (HI0.out X HB.out) (by have := HLx.out; simp; omega) hz
      rw [List.nil_append] at hap hown
      have HBY : Hid (Below W1.heap.size W1 Y) := HB.out.grown hgr hz (fun k hk => by injection hk with hk; rw [← hk]; exact H0.out.le)
      obtain ⟨cr, hcr⟩ : ∃ cr, Row X g0 3 cr := by
        obtain ⟨cs, h, _⟩ := H0.out.row; exact ⟨cs, h⟩
      have HKp : Hid (∀ q t cs, t ≠ 3 → Row X q t cs → Y.heap[q]? = X.heap[q]?) := fun q t cs ht hr => hgr.block q hr.lt (fun e => by injection e with e; subst e; exact ht (hr.tyU hcr))
      refine step_append_eq rfl (.tmp 23) (.tmp 25) 22 rfl rfl rfl hap ?_
      refine hK.out _ _ ?_ (fun hHeld => ?_)
      · exact HKS.out _ HBY.out
      clear hK K
      try simp only [Act.put, List.setIfInBounds_toArray, List.set_cons_zero, List.set_cons_succ]
      exact St0_3_8_13.out _ (by kernel_rfl) _ _ _ _ _ _ _ _ _ _ _ _ _ HBY.out hown (H8.out.keep (by obtain ⟨cs, h⟩ := H8.out.row; exact HKp.out _ _ _ (by decide) h)) ⟨(HKp.out _ _ _ (by decide) H13.out.1).trans H13.out.1, H13.out.2⟩
    · skip
      go_simp
      obtain ⟨Y, hY⟩ : ∃ Y, Y = X.alloc (.cells #[] 4) := ⟨_, rfl⟩
      rw [← hY]
      have hb : Below X.heap.size X Y := by rw [hY]; exact (Below.refl _ _).alloc (Nat.le_refl _) _
      have hnew : Row Y X.heap.size 4 #[] := by rw [hY]; exact Row.new _ _ _
      have HBY : Hid (Below W1.heap.size W1 Y) := HB.out.trans (hb.mono hz)
      clear hY
      refine hK.out _ _ ?_ (fun hHeld => ?_)
      · exact HKS.out _ HBY.out
      clear hK K
      try simp only [List.setIfInBounds_toArray, List.set_cons_zero, List.set_cons_succ]
      exact St0_4_8_13.out _ (by kernel_rfl) _ _ _ _ _ _ _ _ _ _ _ _ HBY.out (H0.out.keep (hb.block _ H0.out.lt)) (Lb.OwnI.empty hz hnew) (H8.out.keep (hb.block _ H8.out.lt)) ⟨H13.out.1.under hb H13.out.1.lt, H13.out.2⟩
  have St0_8 : Hid (∀ (l : Array Bool), l = #[true, true, true, false, false, true, true, false, true, true, true, false, false, false, false] → ∀ (u7 u24 u26 u27 u28 u30 u32 u34 u35 : Value) (X : World) (g0 g8 : Nat) , Below W1.heap.size W1 X → La.OwnI X W1.heap.size g0 [] 0 → OwnG X W1.heap.size g8 [] 0 → wpAnyH Try.prog .any uaOps Q (fun w' => w'.cell? ⟨ba, 0, none⟩ = some (.slice A0 xi.length c0) ∧ w'.cell? ⟨ba, 1, none⟩ = some (.slice A1 xa.length c1) ∧ w'.cell? ⟨ba, 2, none⟩ = some (.slice A2 xe.length c2)) 7 l { tmps := #[s0, s1, s2, s3, s4, s5, s6, u7, s8, s9, s10, s11, s12, s13, s14, s15, s16, s17, s18, s19, s20, s21, s22, .slice (some ⟨g0, 0, none⟩) 0 0, u24, .slice A0 xi.length c0, u26, u27, u28, .slice A1 xa.length c1, u30, .slice (some ⟨g8, 0, none⟩) 0 0, u32, .slice A2 xe.length c2, u34, u35, s36, s37, s38, s39, s40, s41, s42, s43, s44, s45, s46, s47, s48, s49, s50, s51, s52, s53, s54, s55, s56, s57, s58, s59, s60, s61, s62, s63, s64, s65, s66, s67, s68, s69, s70, s71, s72, s73, s74, s75, s76, s77, s78, s79, s80, s81, s82, s83, s84, s85, s86, s87, s88, s89, s90, s91, s92, s93, s94, s95], defers := [] } X) := by
    intro l hl u7 u24 u26 u27 u28 u30 u32 u34 u35 X g0 g8 hB h0 h8
    subst hl
    have HB := Lib.hid hB
    have hz : W1.heap.size ≤ X.heap.size := hB.size
    have H0 := Lib.hid h0
    have H8 := Lib.hid h8
    clear hB h0 h8
    refine wpAnyH_ready (rs := [3, 4, 13]) (by kernel_rfl) (by simp) (AllReadyH.cons (o := { dst := some 26, op := Go.Op.call { callee := Go.Callee.builtin Go.Builtin.append, args := #[Go.Operand.tmp 23, Go.Operand.tmp 25], argTypes := #[22, 22] }, type := 22, pos := "l7_automaton.go:407", after := #[{ on := 0, ground := Go.Ground.data }, { on := 2, ground := Go.Ground.data }], guard := none }) rfl (fun K hK => ?_) (AllReadyH.cons (o := { dst := some 27, op := Go.Op.buildSlice 27 0 #[], type := 27, pos := "l7_automaton.go:407", after := #[], guard := none }) rfl (fun K hK => ?_) (AllReadyH.cons (o := { dst := some 7, op := Go.Op.alloc 51, type := 0, pos := "l7_automaton.go:407", after := #[], guard := none }) rfl (fun K hK => ?_) AllReadyH.nil)))
    · skip
      obtain ⟨g3, k3, Y, hap, hown, hgr, _⟩ := La.run_ints X 22 W1.heap.size g0 0 [] xi H0.out A0 p0 o0 c0 (HI0.out X HB.out) (by have := HLx.out; simp; omega) hz
      rw [List.nil_append] at hap hown
      have HBY : Hid (Below W1.heap.size W1 Y) := HB.out.grown hgr hz (fun k hk => by injection hk with hk; rw [← hk]; exact H0.out.le)
      obtain ⟨cr, hcr⟩ : ∃ cr, Row X g0 3 cr := by
        obtain ⟨cs, h, _⟩ := H0.out.row; exact ⟨cs, h⟩
      have HKp : Hid (∀ q t cs, t ≠ 3 → Row X q t cs → Y.heap[q]? = X.heap[q]?) := fun q t cs ht hr => hgr.block q hr.lt (fun e => by injection e with e; subst e; exact ht (hr.tyU hcr))
      refine step_append_eq rfl (.tmp 23) (.tmp 25) 22 rfl rfl rfl hap ?_
      refine hK.out _ _ ?_ (fun hHeld => ?_)
      · exact HKS.out _ HBY.out
      clear hK K
      try simp only [Act.put, List.setIfInBounds_toArray, List.set_cons_zero, List.set_cons_succ]
      exact St0_3_8.out _ (by kernel_rfl) _ _ _ _ _ _ _ _ _ _ _ _ _ HBY.out hown (H8.out.keep (by obtain ⟨cs, h⟩ := H8.out.row; exact HKp.out _ _ _ (by decide) h))
    · skip
      go_simp
      obtain ⟨Y, hY⟩ : ∃ Y, Y = X.alloc (.cells #[] 4) := ⟨_, rfl⟩
      rw [← hY]
      have hb : Below X.heap.size X Y := by rw [hY]; exact (Below.refl _ _).alloc (Nat.le_refl _) _
      have hnew : Row Y X.heap.size 4 #[] := by rw [hY]; exact Row.new _ _ _
      have HBY : Hid (Below W1.heap.size W1 Y) := HB.out.trans (hb.mono hz)
      clear hY
      refine hK.out _ _ ?_ (fun hHeld => ?_)
      · exact HKS.out _ HBY.out
      clear hK K
      try simp only [List.setIfInBounds_toArray, List.set_cons_zero, List.set_cons_succ]
      exact St0_4_8.out _ (by kernel_rfl) _ _ _ _ _ _ _ _ _ _ _ _ HBY.out (H0.out.keep (hb.block _ H0.out.lt)) (Lb.OwnI.empty hz hnew) (H8.out.keep (hb.block _ H8.out.lt))
    · skip
      go_simp
      obtain ⟨Y, hY⟩ : ∃ Y, Y = X.alloc (.cells #[.slice none 0 0, .slice none 0 0, .slice none 0 0] 51) := ⟨_, rfl⟩
      rw [← hY]
      have hb : Below X.heap.size X Y := by rw [hY]; exact (Below.refl _ _).alloc (Nat.le_refl _) _
      have hnew : Row Y X.heap.size 51 #[.slice none 0 0, .slice none 0 0, .slice none 0 0] := by rw [hY]; exact Row.new _ _ _
      have HBY : Hid (Below W1.heap.size W1 Y) := HB.out.trans (hb.mono hz)
      clear hY
      refine hK.out _ _ ?_ (fun hHeld => ?_)
      · exact HKS.out _ HBY.out
      clear hK K
      try simp only [List.setIfInBounds_toArray, List.set_cons_zero, List.set_cons_succ]
      exact St0_8_13.out _ (by kernel_rfl) _ _ _ _ _ _ _ _ _ _ _ _ HBY.out (H0.out.keep (hb.block _ H0.out.lt)) (H8.out.keep (hb.block _ H8.out.lt)) ⟨hnew, hz⟩
  have St0_13 : Hid (∀ (l : Array Bool), l = #[true, true, true, false, false, true, true, false, false, true, true, false, false, true, false] → ∀ (u24 u26 u27 u28 u30 u31 u32 u34 u35 : Value) (X : World) (g0 g13 : Nat) , Below W1.heap.size W1 X → La.OwnI X W1.heap.size g0 [] 0 → (Row X g13 51 #[.slice none 0 0, .slice none 0 0, .slice none 0 0] ∧ W1.heap.size ≤ g13) → wpAnyH Try.prog .any uaOps Q (fun w' => w'.cell? ⟨ba, 0, none⟩ = some (.slice A0 xi.length c0) ∧ w'.cell? ⟨ba, 1, none⟩ = some (.slice A1 xa.length c1) ∧ w'.cell? ⟨ba, 2, none⟩ = some (.slice A2 xe.length c2)) 7 l { tmps := #[s0, s1, s2, s3, s4, s5, s6, .pointer (some ⟨g13, 0, none⟩), s8, s9, s10, s11, s12, s13, s14, s15, s16, s17, s18, s19, s20, s21, s22, .slice (some ⟨g0, 0, none⟩) 0 0, u24, .slice A0 xi.length c0, u26, u27, u28, .slice A1 xa.length c1, u30, u31, u32, .slice A2 xe.length c2, u34, u35, s36, s37, s38, s39, s40, s41, s42, s43, s44, s45, s46, s47, s48, s49, s50, s51, s52, s53, s54, s55, s56, s57, s58, s59, s60, s61, s62, s63, s64, s65, s66, s67, s68, s69, s70, s71, s72, s73, s74, s75, s76, s77, s78, s79, s80, s81, s82, s83, s84, s85, s86, s87, s88, s89, s90, s91, s92, s93, s94, s95], defers := [] } X) := by
    intro l hl u24 u26 u27 u28 u30 u31 u32 u34 u35 X g0 g13 hB h0 h13
    subst hl
    have HB := Lib.hid hB
    have hz : W1.heap.size ≤ X.heap.size := hB.size
    have H0 := Lib.hid h0
    have H13 := Lib.hid h13
    clear hB h0 h13
    refine wpAnyH_ready (rs := [3, 4, 8]) (by kernel_rfl) (by simp) (AllReadyH.cons (o := { dst := some 26, op := Go.Op.call { callee := Go.Callee.builtin Go.Builtin.append, args := #[Go.Operand.tmp 23, Go.Operand.tmp 25], argTypes := #[22, 22] }, type := 22, pos := "l7_automaton.go:407", after := #[{ on := 0, ground := Go.Ground.data }, { on := 2, ground := Go.Ground.data }], guard := none }) rfl (fun K hK => ?_) (AllReadyH.cons (o := { dst := some 27, op := Go.Op.buildSlice 27 0 #[], type := 27, pos := "l7_automaton.go:407", after := #[], guard := none }) rfl (fun K hK => ?_) (AllReadyH.cons (o := { dst := some 31, op := Go.Op.buildSlice 49 0 #[], type := 49, pos := "l7_automaton.go:407", after := #[], guard := none }) rfl (fun K hK => ?_) AllReadyH.nil)))
    · skip
      obtain ⟨g3, k3, Y, hap, hown, hgr, _⟩ := La.run_ints X 22 W1.heap.size g0 0 [] xi H0.out A0 p0 o0 c0 (HI0.out X HB.out) (by have := HLx.out; simp; omega) hz
      rw [List.nil_append] at hap hown
      have HBY : Hid (Below W1.heap.size W1 Y) := HB.out.grown hgr hz (fun k hk => by injection hk with hk; rw [← hk]; exact H0.out.le)
      obtain ⟨cr, hcr⟩ : ∃ cr, Row X g0 3 cr := by
        obtain ⟨cs, h, _⟩ := H0.out.row; exact ⟨cs, h⟩
      have HKp : Hid (∀ q t cs, t ≠ 3 → Row X q t cs → Y.heap[q]? = X.heap[q]?) := fun q t cs ht hr => hgr.block q hr.lt (fun e => by injection e with e; subst e; exact ht (hr.tyU hcr))
      refine step_append_eq rfl (.tmp 23) (.tmp 25) 22 rfl rfl rfl hap ?_
      refine hK.out _ _ ?_ (fun hHeld => ?_)
      · exact HKS.out _ HBY.out
      clear hK K
      try simp only [Act.put, List.setIfInBounds_toArray, List.set_cons_zero, List.set_cons_succ]
      exact St0_3_13.out _ (by kernel_rfl) _ _ _ _ _ _ _ _ _ _ _ _ _ HBY.out hown ⟨(HKp.out _ _ _ (by decide) H13.out.1).trans H13.out.1, H13.out.2⟩
    · skip
      go_simp
      obtain ⟨Y, hY⟩ : ∃ Y, Y = X.alloc (.cells #[] 4) := ⟨_, rfl⟩
      rw [← hY]
      have hb : Below X.heap.size X Y := by rw [hY]; exact (Below.refl _ _).alloc (Nat.le_refl _) _
      have hnew : Row Y X.heap.size 4 #[] := by rw [hY]; exact Row.new _ _ _
      have HBY : Hid (Below W1.heap.size W1 Y) := HB.out.trans (hb.mono hz)
      clear hY
      refine hK.out _ _ ?_ (fun hHeld => ?_)
      · exact HKS.out _ HBY.out
      clear hK K
      try simp only [List.setIfInBounds_toArray, List.set_cons_zero, List.set_cons_succ]
      exact St0_4_13.out _ (by kernel_rfl) _ _ _ _ _ _ _ _ _ _ _ _ HBY.out (H0.out.keep (hb.block _ H0.out.lt)) (Lb.OwnI.empty hz hnew) ⟨H13.out.1.under hb H13.out.1.lt, H13.out.2⟩
    · skip
      go_simp
      obtain ⟨Y, hY⟩ : ∃ Y, Y = X.alloc (.cells #[] 116) := ⟨_, rfl⟩
      rw [← hY]
      have hb : Below X.heap.size X Y := by rw [hY]; exact (Below.refl _ _).alloc (Nat.le_refl _) _
      have hnew : Row Y X.heap.size 116 #[] := by rw [hY]; exact Row.new _ _ _
      have HBY : Hid (Below W1.heap.size W1 Y) := HB.out.trans (hb.mono hz)
      clear hY
      refine hK.out _ _ ?_ (fun hHeld => ?_)
      · exact HKS.out _ HBY.out
      clear hK K
      try simp only [List.setIfInBounds_toArray, List.set_cons_zero, List.set_cons_succ]
      exact St0_8_13.out _ (by kernel_rfl) _ _ _ _ _ _ _ _ _ _ _ _ HBY.out (H0.out.keep (hb.block _ H0.out.lt)) (OwnG.empty hz hnew) ⟨H13.out.1.under hb H13.out.1.lt, H13.out.2⟩
  have St0 : Hid (∀ (l : Array Bool), l = #[true, true, true, false, false, true, true, false, false, true, true, false, false, false, false] → ∀ (u7 u24 u26 u27 u28 u30 u31 u32 u34 u35 : Value) (X : World) (g0 : Nat) , Below W1.heap.size W1 X → La.OwnI X W1.heap.size g0 [] 0 → wpAnyH Try.prog .any uaOps Q (fun w' => w'.cell? ⟨ba, 0, none⟩ = some (.slice A0 xi.length c0) ∧ w'.cell? ⟨ba, 1, none⟩ = some (.slice A1 xa.length c1) ∧ w'.cell? ⟨ba, 2, none⟩ = some (.slice A2 xe.length c2)) 8 l { tmps := #[s0, s1, s2, s3, s4, s5, s6, u7, s8, s9, s10, s11, s12, s13, s14, s15, s16, s17, s18, s19, s20, s21, s22, .slice (some ⟨g0, 0, none⟩) 0 0, u24, .slice A0 xi.length c0, u26, u27, u28, .slice A1 xa.length c1, u30, u31, u32, .slice A2 xe.length c2, u34, u35, s36, s37, s38, s39, s40, s41, s42, s43, s44, s45, s46, s47, s48, s49, s50, s51, s52, s53, s54, s55, s56, s57, s58, s59, s60, s61, s62, s63, s64, s65, s66, s67, s68, s69, s70, s71, s72, s73, s74, s75, s76, s77, s78, s79, s80, s81, s82, s83, s84, s85, s86, s87, s88, s89, s90, s91, s92, s93, s94, s95], defers := [] } X) := by
    intro l hl u7 u24 u26 u27 u28 u30 u31 u32 u34 u35 X g0 hB h0
    subst hl
    have HB := Lib.hid hB
    have hz : W1.heap.size ≤ X.heap.size := hB.size
    have H0 := Lib.hid h0
    clear hB h0
    refine wpAnyH_ready (rs := [3, 4, 8, 13]) (by kernel_rfl) (by simp) (AllReadyH.cons (o := { dst := some 26, op := Go.Op.call { callee := Go.Callee.builtin Go.Builtin.append, args := #[Go.Operand.tmp 23, Go.Operand.tmp 25], argTypes := #[22, 22] }, type := 22, pos := "l7_automaton.go:407", after := #[{ on := 0, ground := Go.Ground.data }, { on := 2, ground := Go.Ground.data }], guard := none }) rfl (fun K hK => ?_) (AllReadyH.cons (o := { dst := some 27, op := Go.Op.buildSlice 27 0 #[], type := 27, pos := "l7_automaton.go:407", after := #[], guard := none }) rfl (fun K hK => ?_) (AllReadyH.cons (o := { dst := some 31, op := Go.Op.buildSlice 49 0 #[], type := 49, pos := "l7_automaton.go:407", after := #[], guard := none }) rfl (fun K hK => ?_) (AllReadyH.cons (o := { dst := some 7, op := Go.Op.alloc 51, type := 0, pos := "l7_automaton.go:407", after := #[], guard := none }) rfl (fun K hK => ?_) AllReadyH.nil))))
    · skip
      obtain ⟨g3, k3, Y, hap, hown, hgr, _⟩ := La.run_ints X 22 W1.heap.size g0 0 [] xi H0.out A0 p0 o0 c0 (HI0.out X HB.out) (by have := HLx.out; simp; omega) hz
      rw [List.nil_append] at hap hown
      have HBY : Hid (Below W1.heap.size W1 Y) := HB.out.grown hgr hz (fun k hk => by injection hk with hk; rw [← hk]; exact H0.out.le)
      obtain ⟨cr, hcr⟩ : ∃ cr, Row X g0 3 cr := by
        obtain ⟨cs, h, _⟩ := H0.out.row; exact ⟨cs, h⟩
      have HKp : Hid (∀ q t cs, t ≠ 3 → Row X q t cs → Y.heap[q]? = X.heap[q]?) := fun q t cs ht hr => hgr.block q hr.lt (fun e => by injection e with e; subst e; exact ht (hr.tyU hcr))
      refine step_append_eq rfl (.tmp 23) (.tmp 25) 22 rfl rfl rfl hap ?_
      refine hK.out _ _ ?_ (fun hHeld => ?_)
      · exact HKS.out _ HBY.out
      clear hK K
      try simp only [Act.put, List.setIfInBounds_toArray, List.set_cons_zero, List.set_cons_succ]
      exact St0_3.out _ (by kernel_rfl) _ _ _ _ _ _ _ _ _ _ _ _ _ HBY.out hown
    · skip
      go_simp
      obtain ⟨Y, hY⟩ : ∃ Y, Y = X.alloc (.cells #[] 4) := ⟨_, rfl⟩
      rw [← hY]
      have hb : Below X.heap.size X Y := by rw [hY]; exact (Below.refl _ _).alloc (Nat.le_refl _) _
      have hnew : Row Y X.heap.size 4 #[] := by rw [hY]; exact Row.new _ _ _
      have HBY : Hid (Below W1.heap.size W1 Y) := HB.out.trans (hb.mono hz)
      clear hY
      refine hK.out _ _ ?_ (fun hHeld => ?_)
      · exact HKS.out _ HBY.out
      clear hK K
      try simp only [List.setIfInBounds_toArray, List.set_cons_zero, List.set_cons_succ]
      exact St0_4.out _ (by kernel_rfl) _ _ _ _ _ _ _ _ _ _ _ _ HBY.out (H0.out.keep (hb.block _ H0.out.lt)) (Lb.OwnI.empty hz hnew)
    · skip
      go_simp
      obtain ⟨Y, hY⟩ : ∃ Y, Y = X.alloc (.cells #[] 116) := ⟨_, rfl⟩
      rw [← hY]
      have hb : Below X.heap.size X Y := by rw [hY]; exact (Below.refl _ _).alloc (Nat.le_refl _) _
      have hnew : Row Y X.heap.size 116 #[] := by rw [hY]; exact Row.new _ _ _
      have HBY : Hid (Below W1.heap.size W1 Y) := HB.out.trans (hb.mono hz)
      clear hY
      refine hK.out _ _ ?_ (fun hHeld => ?_)
      · exact HKS.out _ HBY.out
      clear hK K
      try simp only [List.setIfInBounds_toArray, List.set_cons_zero, List.set_cons_succ]
      exact St0_8.out _ (by kernel_rfl) _ _ _ _ _ _ _ _ _ _ _ _ HBY.out (H0.out.keep (hb.block _ H0.out.lt)) (OwnG.empty hz hnew)
    · skip
      go_simp
      obtain ⟨Y, hY⟩ : ∃ Y, Y = X.alloc (.cells #[.slice none 0 0, .slice none 0 0, .slice none 0 0] 51) := ⟨_, rfl⟩
      rw [← hY]
      have hb : Below X.heap.size X Y := by rw [hY]; exact (Below.refl _ _).alloc (Nat.le_refl _) _
      have hnew : Row Y X.heap.size 51 #[.slice none 0 0, .slice none 0 0, .slice none 0 0] := by rw [hY]; exact Row.new _ _ _
      have HBY : Hid (Below W1.heap.size W1 Y) := HB.out.trans (hb.mono hz)
      clear hY
      refine hK.out _ _ ?_ (fun hHeld => ?_)
      · exact HKS.out _ HBY.out
      clear hK K
      try simp only [List.setIfInBounds_toArray, List.set_cons_zero, List.set_cons_succ]
      exact St0_13.out _ (by kernel_rfl) _ _ _ _ _ _ _ _ _ _ _ _ HBY.out (H0.out.keep (hb.block _ H0.out.lt)) ⟨hnew, hz⟩
  have St4_8_13 : Hid (∀ (l : Array Bool), l = #[false, true, true, false, true, true, true, false, true, true, true, false, false, true, false] → ∀ (u23 u24 u26 u28 u30 u32 u34 u35 : Value) (X : World) (g4 g8 g13 : Nat) , Below W1.heap.size W1 X → Lb.OwnI X W1.heap.size g4 [] 0 → OwnG X W1.heap.size g8 [] 0 → (Row X g13 51 #[.slice none 0 0, .slice none 0 0, .slice none 0 0] ∧ W1.heap.size ≤ g13) → wpAnyH Try.prog .any uaOps Q (fun w' => w'.cell? ⟨ba, 0, none⟩ = some (.slice A0 xi.length c0) ∧ w'.cell? ⟨ba, 1, none⟩ = some (.slice A1 xa.length c1) ∧ w'.cell? ⟨ba, 2, none⟩ = some (.slice A2 xe.length c2)) 6 l { tmps := #[s0, s1, s2, s3, s4, s5, s6, .pointer (some ⟨g13, 0, none⟩), s8, s9, s10, s11, s12, s13, s14, s15, s16, s17, s18, s19, s20, s21, s22, u23, u24, .slice A0 xi.length c0, u26, .slice (some ⟨g4, 0, none⟩) 0 0, u28, .slice A1 xa.length c1, u30, .slice (some ⟨g8, 0, none⟩) 0 0, u32, .slice A2 xe.length c2, u34, u35, s36, s37, s38, s39, s40, s41, s42, s43, s44, s45, s46, s47, s48, s49, s50, s51, s52, s53, s54, s55, s56, s57, s58, s59, s60, s61, s62, s63, s64, s65, s66, s67, s68, s69, s70, s71, s72, s73, s74, s75, s76, s77, s78, s79, s80, s81, s82, s83, s84, s85, s86, s87, s88, s89, s90, s91, s92, s93, s94, s95], defers := [] } X) := by
    intro l hl u23 u24 u26 u28 u30 u32 u34 u35 X g4 g8 g13 hB h4 h8 h13
    subst hl
    have HB := Lib.hid hB
    have hz : W1.heap.size ≤ X.heap.size := hB.size
    have H4 := Lib.hid h4
    have H8 := Lib.hid h8
    have H13 := Lib.hid h13
    clear hB h4 h8 h13
    refine wpAnyH_ready (rs := [0]) (by kernel_rfl) (by simp) (AllReadyH.cons (o := { dst := some 23, op := Go.Op.buildSlice 22 0 #[], type := 22, pos := "l7_automaton.go:407", after := #[], guard := none }) rfl (fun K hK => ?_) AllReadyH.nil)
    go_simp
    obtain ⟨Y, hY⟩ : ∃ Y, Y = X.alloc (.cells #[] 3) := ⟨_, rfl⟩
    rw [← hY]
    have hb : Below X.heap.size X Y := by rw [hY]; exact (Below.refl _ _).alloc (Nat.le_refl _) _
    have hnew : Row Y X.heap.size 3 #[] := by rw [hY]; exact Row.new _ _ _
    have HBY : Hid (Below W1.heap.size W1 Y) := HB.out.trans (hb.mono hz)
    clear hY
    refine hK.out _ _ ?_ (fun hHeld => ?_)
    · exact HKS.out _ HBY.out
    clear hK K
    try simp only [List.setIfInBounds_toArray, List.set_cons_zero]
    exact St0_4_8_13.out _ (by kernel_rfl) _ _ _ _ _ _ _ _ _ _ _ _ HBY.out (La.OwnI.empty hz hnew) (H4.out.keep (hb.block _ H4.out.lt)) (H8.out.keep (hb.block _ H8.out.lt)) ⟨H13.out.1.under hb H13.out.1.lt, H13.out.2⟩
  have St4_8 : Hid (∀ (l : Array Bool), l = #[false, true, true, false, true, true, true, false, true, true, true, false, false, false, false] → ∀ (u7 u23 u24 u26 u28 u30 u32 u34 u35 : Value) (X : World) (g4 g8 : Nat) , Below W1.heap.size W1 X → Lb.OwnI X W1.heap.size g4 [] 0 → OwnG X W1.heap.size g8 [] 0 → wpAnyH Try.prog .any uaOps Q (fun w' => w'.cell? ⟨ba, 0, none⟩ = some (.slice A0 xi.length c0) ∧ w'.cell? ⟨ba, 1, none⟩ = some (.slice A1 xa.length c1) ∧ w'.cell? ⟨ba, 2, none⟩ = some (.slice A2 xe.length c2)) 7 l { tmps := #[s0, s1, s2, s3, s4, s5, s6, u7, s8, s9, s10, s11, s12, s13, s14, s15, s16, s17, s18, s19, s20, s21, s22, u23, u24, .slice A0 xi.length c0, u26, .slice (some ⟨g4, 0, none⟩) 0 0, u28, .slice A1 xa.length c1, u30, .slice (some ⟨g8, 0, none⟩) 0 0, u32, .slice A2 xe.length c2, u34, u35, s36, s37, s38, s39, s40, s41, s42, s43, s44, s45, s46, s47, s48, s49, s50, s51, s52, s53, s54, s55, s56, s57, s58, s59, s60, s61, s62, s63, s64, s65, s66, s67, s68, s69, s70, s71, s72, s73, s74, s75, s76, s77, s78, s79, s80, s81, s82, s83, s84, s85, s86, s87, s88, s89, s90, s91, s92, s93, s94, s95], defers := [] } X) := by
    intro l hl u7 u23 u24 u26 u28 u30 u32 u34 u35 X g4 g8 hB h4 h8
    subst hl
    have HB := Lib.hid hB
    have hz : W1.heap.size ≤ X.heap.size := hB.size
    have H4 := Lib.hid h4
    have H8 := Lib.hid h8
    clear hB h4 h8
    refine wpAnyH_ready (rs := [0, 13]) (by kernel_rfl) (by simp) (AllReadyH.cons (o := { dst := some 23, op := Go.Op.buildSlice 22 0 #[], type := 22, pos := "l7_automaton.go:407", after := #[], guard := none }) rfl (fun K hK => ?_) (AllReadyH.cons (o := { dst := some 7, op := Go.Op.alloc 51, type := 0, pos := "l7_automaton.go:407", after := #[], guard := none }) rfl (fun K hK => ?_) AllReadyH.nil))
    · skip
      go_simp
      obtain ⟨Y, hY⟩ : ∃ Y, Y = X.alloc (.cells #[] 3) := ⟨_, rfl⟩
      rw [← hY]
      have hb : Below X.heap.size X Y := by rw [hY]; exact (Below.refl _ _).alloc (Nat.le_refl _) _
      have hnew : Row Y X.heap.size 3 #[] := by rw [hY]; exact Row.new _ _ _
      have HBY : Hid (Below W1.heap.size W1 Y) := HB.out.trans (hb.mono hz)
      clear hY
      refine hK.out _ _ ?_ (fun hHeld => ?_)
      · exact HKS.out _ HBY.out
      clear hK K
      try simp only [List.setIfInBounds_toArray, List.set_cons_zero]
      exact St0_4_8.out _ (by kernel_rfl) _ _ _ _ _ _ _ _ _ _ _ _ HBY.out (La.OwnI.empty hz hnew) (H4.out.keep (hb.block _ H4.out.lt)) (H8.out.keep (hb.block _ H8.out.lt))
    · skip
      go_simp
      obtain ⟨Y, hY⟩ : ∃ Y, Y = X.alloc (.cells #[.slice none 0 0, .slice none 0 0, .slice none 0 0] 51) := ⟨_, rfl⟩
      rw [← hY]
      have hb : Below X.heap.size X Y := by rw [hY]; exact (Below.refl _ _).alloc (Nat.le_refl _) _
      have hnew : Row Y X.heap.size 51 #[.slice none 0 0, .slice none 0 0, .slice none 0 0] := by rw [hY]; exact Row.new _ _ _
      have HBY : Hid (Below W1.heap.size W1 Y) := HB.out.trans (hb.mono hz)
      clear hY
      refine hK.out _ _ ?_ (fun hHeld => ?_)
      · exact HKS.out _ HBY.out
      clear hK K
      try simp only [List.setIfInBounds_toArray, List.set_cons_zero, List.set_cons_succ]
      exact St4_8_13.out _ (by kernel_rfl) _ _ _ _ _ _ _ _ _ _ _ _ HBY.out (H4.out.keep (hb.block _ H4.out.lt)) (H8.out.keep (hb.block _ H8.out.lt)) ⟨hnew, hz⟩
  have St4_13 : Hid (∀ (l : Array Bool), l = #[false, true, true, false, true, true, true, false, false, true, true, false, false, true, false] → ∀ (u23 u24 u26 u28 u30 u31 u32 u34 u35 : Value) (X : World) (g4 g13 : Nat) , Below W1.heap.size W1 X → Lb.OwnI X W1.heap.size g4 [] 0 → (Row X g13 51 #[.slice none 0 0, .slice none 0 0, .slice none 0 0] ∧ W1.heap.size ≤ g13) → wpAnyH Try.prog .any uaOps Q (fun w' => w'.cell? ⟨ba, 0, none⟩ = some (.slice A0 xi.length c0) ∧ w'.cell? ⟨ba, 1, none⟩ = some (.slice A1 xa.length c1) ∧ w'.cell? ⟨ba, 2, none⟩ = some (.slice A2 xe.length c2)) 7 l { tmps := #[s0, s1, s2, s3, s4, s5, s6, .pointer (some ⟨g13, 0, none⟩), s8, s9, s10, s11, s12, s13, s14, s15, s16, s17, s18, s19, s20, s21, s22, u23, u24, .slice A0 xi.length c0, u26, .slice (some ⟨g4, 0, none⟩) 0 0, u28, .slice A1 xa.length c1, u30, u31, u32, .slice A2 xe.length c2, u34, u35, s36, s37, s38, s39, s40, s41, s42, s43, s44, s45, s46, s47, s48, s49, s50, s51, s52, s53, s54, s55, s56, s57, s58, s59, s60, s61, s62, s63, s64, s65, s66, s67, s68, s69, s70, s71, s72, s73, s74, s75, s76, s77, s78, s79, s80, s81, s82, s83, s84, s85, s86, s87, s88, s89, s90, s91, s92, s93, s94, s95], defers := [] } X) := by
    intro l hl u23 u24 u26 u28 u30 u31 u32 u34 u35 X g4 g13 hB h4 h13
    subst hl
    have HB := Lib.hid hB
    have hz : W1.heap.size ≤ X.heap.size := hB.size
    have H4 := Lib.hid h4
    have H13 := Lib.hid h13
    clear hB h4 h13
    refine wpAnyH_ready (rs := [0, 8]) (by kernel_rfl) (by simp) (AllReadyH.cons (o := { dst := some 23, op := Go.Op.buildSlice 22 0 #[], type := 22, pos := "l7_automaton.go:407", after := #[], guard := none }) rfl (fun K hK => ?_) (AllReadyH.cons (o := { dst := some 31, op := Go.Op.buildSlice 49 0 #[], type := 49, pos := "l7_automaton.go:407", after := #[], guard := none }) rfl (fun K hK => ?_) AllReadyH.nil))
    · skip
      go_simp
      obtain ⟨Y, hY⟩ : ∃ Y, Y = X.alloc (.cells #[] 3) := ⟨_, rfl⟩
      rw [← hY]
      have hb : Below X.heap.size X Y := by rw [hY]; exact (Below.refl _ _).alloc (Nat.le_refl _) _
      have hnew : Row Y X.heap.size 3 #[] := by rw [hY]; exact Row.new _ _ _
      have HBY : Hid (Below W1.heap.size W1 Y) := HB.out.trans (hb.mono hz)
      clear hY
      refine hK.out _ _ ?_ (fun hHeld => ?_)
      · exact HKS.out _ HBY.out
      clear hK K
      try simp only [List.setIfInBounds_toArray, List.set_cons_zero]
      exact St0_4_13.out _ (by kernel_rfl) _ _ _ _ _ _ _ _ _ _ _ _ HBY.out (La.OwnI.empty hz hnew) (H4.out.keep (hb.block _ H4.out.lt)) ⟨H13.out.1.under hb H13.out.1.lt, H13.out.2⟩
    · skip
      go_simp
      obtain ⟨Y, hY⟩ : ∃ Y, Y = X.alloc (.cells #[] 116) := ⟨_, rfl⟩
      rw [← hY]
      have hb : Below X.heap.size X Y := by rw [hY]; exact (Below.refl _ _).alloc (Nat.le_refl _) _
      have hnew : Row Y X.heap.size 116 #[] := by rw [hY]; exact Row.new _ _ _
      have HBY : Hid (Below W1.heap.size W1 Y) := HB.out.trans (hb.mono hz)
      clear hY
      refine hK.out _ _ ?_ (fun hHeld => ?_)
      · exact HKS.out _ HBY.out
      clear hK K
      try simp only [List.setIfInBounds_toArray, List.set_cons_zero, List.set_cons_succ]
      exact St4_8_13.out _ (by kernel_rfl) _ _ _ _ _ _ _ _ _ _ _ _ HBY.out (H4.out.keep (hb.block _ H4.out.lt)) (OwnG.empty hz hnew) ⟨H13.out.1.under hb H13.out.1.lt, H13.out.2⟩
  have St4 : Hid (∀ (l : Array Bool), l = #[false, true, true, false, true, true, true, false, false, true, true, false, false, false, false] → ∀ (u7 u23 u24 u26 u28 u30 u31 u32 u34 u35 : Value) (X : World) (g4 : Nat) , Below W1.heap.size W1 X → Lb.OwnI X W1.heap.size g4 [] 0 → wpAnyH Try.prog .any uaOps Q (fun w' => w'.cell? ⟨ba, 0, none⟩ = some (.slice A0 xi.length c0) ∧ w'.cell? ⟨ba, 1, none⟩ = some (.slice A1 xa.length c1) ∧ w'.cell? ⟨ba, 2, none⟩ = some (.slice A2 xe.length c2)) 8 l { tmps := #[s0, s1, s2, s3, s4, s5, s6, u7, s8, s9, s10, s11, s12, s13, s14, s15, s16, s17, s18, s19, s20, s21, s22, u23, u24, .slice A0 xi.length c0, u26, .slice (some ⟨g4, 0, none⟩) 0 0, u28, .slice A1 xa.length c1, u30, u31, u32, .slice A2 xe.length c2, u34, u35, s36, s37, s38, s39, s40, s41, s42, s43, s44, s45, s46, s47, s48, s49, s50, s51, s52, s53, s54, s55, s56, s57, s58, s59, s60, s61, s62, s63, s64, s65, s66, s67, s68, s69, s70, s71, s72, s73, s74, s75, s76, s77, s78, s79, s80, s81, s82, s83, s84, s85, s86, s87, s88, s89, s90, s91, s92, s93, s94, s95], defers := [] } X) := by
    intro l hl u7 u23 u24 u26 u28 u30 u31 u32 u34 u35 X g4 hB h4
    subst hl
    have HB := Lib.hid hB
    have hz : W1.heap.size ≤ X.heap.size := hB.size
    have H4 := Lib.hid h4
    clear hB h4
    refine wpAnyH_ready (rs := [0, 8, 13]) (by kernel_rfl) (by simp) (AllReadyH.cons (o := { dst := some 23, op := Go.Op.buildSlice 22 0 #[], type := 22, pos := "l7_automaton.go:407", after := #[], guard := none }) rfl (fun K hK => ?_) (AllReadyH.cons (o := { dst := some 31, op := Go.Op.buildSlice 49 0 #[], type := 49, pos := "l7_automaton.go:407", after := #[], guard := none }) rfl (fun K hK => ?_) (AllReadyH.cons (o := { dst := some 7, op := Go.Op.alloc 51, type := 0, pos := "l7_automaton.go:407", after := #[], guard := none }) rfl (fun K hK => ?_) AllReadyH.nil)))
    · skip
      go_simp
      obtain ⟨Y, hY⟩ : ∃ Y, Y = X.alloc (.cells #[] 3) := ⟨_, rfl⟩
      rw [← hY]
      have hb : Below X.heap.size X Y := by rw [hY]; exact (Below.refl _ _).alloc (Nat.le_refl _) _
      have hnew : Row Y X.heap.size 3 #[] := by rw [hY]; exact Row.new _ _ _
      have HBY : Hid (Below W1.heap.size W1 Y) := HB.out.trans (hb.mono hz)
      clear hY
      refine hK.out _ _ ?_ (fun hHeld => ?_)
      · exact HKS.out _ HBY.out
      clear hK K
      try simp only [List.setIfInBounds_toArray, List.set_cons_zero]
      exact St0_4.out _ (by kernel_rfl) _ _ _ _ _ _ _ _ _ _ _ _ HBY.out (La.OwnI.empty hz hnew) (H4.out.keep (hb.block _ H4.out.lt))
    · skip
      go_simp
      obtain ⟨Y, hY⟩ : ∃ Y, Y = X.alloc (.cells #[] 116) := ⟨_, rfl⟩
      rw [← hY]
      have hb : Below X.heap.size X Y := by rw [hY]; exact (Below.refl _ _).alloc (Nat.le_refl _) _
      have hnew : Row Y X.heap.size 116 #[] := by rw [hY]; exact Row.new _ _ _
      have HBY : Hid (Below W1.heap.size W1 Y) := HB.out.trans (hb.mono hz)
      clear hY
      refine hK.out _ _ ?_ (fun hHeld => ?_)
      · exact HKS.out _ HBY.out
      clear hK K
      try simp only [List.setIfInBounds_toArray, List.set_cons_zero, List.set_cons_succ]
      exact St4_8.out _ (by kernel_rfl) _ _ _ _ _ _ _ _ _ _ _ _ HBY.out (H4.out.keep (hb.block _ H4.out.lt)) (OwnG.empty hz hnew)
    · skip
      go_simp
      obtain ⟨Y, hY⟩ : ∃ Y, Y = X.alloc (.cells #[.slice none 0 0, .slice none 0 0, .slice none 0 0] 51) := ⟨_, rfl⟩
      rw [← hY]
      have hb : Below X.heap.size X Y := by rw [hY]; exact (Below.refl _ _).alloc (Nat.le_refl _) _
      have hnew : Row Y X.heap.size 51 #[.slice none 0 0, .slice none 0 0, .slice none 0 0] := by rw [hY]; exact Row.new _ _ _
      have HBY : Hid (Below W1.heap.size W1 Y) := HB.out.trans (hb.mono hz)
      clear hY
      refine hK.out _ _ ?_ (fun hHeld => ?_)
      · exact HKS.out _ HBY.out
      clear hK K
      try simp only [List.setIfInBounds_toArray, List.set_cons_zero, List.set_cons_succ]
      exact St4_13.out _ (by kernel_rfl) _ _ _ _ _ _ _ _ _ _ _ _ HBY.out (H4.out.keep (hb.block _ H4.out.lt)) ⟨hnew, hz⟩
  have St8_13 : Hid (∀ (l : Array Bool), l = #[false, true, true, false, false, true, true, false, true, true, true, false, false, true, false] → ∀ (u23 u24 u26 u27 u28 u30 u32 u34 u35 : Value) (X : World) (g8 g13 : Nat) , Below W1.heap.size W1 X → OwnG X W1.heap.size g8 [] 0 → (Row X g13 51 #[.slice none 0 0, .slice none 0 0, .slice none 0 0] ∧ W1.heap.size ≤ g13) → wpAnyH Try.prog .any uaOps Q (fun w' => w'.cell? ⟨ba, 0, none⟩ = some (.slice A0 xi.length c0) ∧ w'.cell? ⟨ba, 1, none⟩ = some (.slice A1 xa.length c1) ∧ w'.cell? ⟨ba, 2, none⟩ = some (.slice A2 xe.length c2)) 7 l { tmps := #[s0, s1, s2, s3, s4, s5, s6, .pointer (some ⟨g13, 0, none⟩), s8, s9, s10, s11, s12, s13, s14, s15, s16, s17, s18, s19, s20, s21, s22, u23, u24, .slice A0 xi.length c0, u26, u27, u28, .slice A1 xa.length c1, u30, .slice (some ⟨g8, 0, none⟩) 0 0, u32, .slice A2 xe.length c2, u34, u35, s36, s37, s38, s39, s40, s41, s42, s43, s44, s45, s46, s47, s48, s49, s50, s51, s52, s53, s54, s55, s56, s57, s58, s59, s60, s61, s62, s63, s64, s65, s66, s67, s68, s69, s70, s71, s72, s73, s74, s75, s76, s77, s78, s79, s80, s81, s82, s83, s84, s85, s86, s87, s88, s89, s90, s91, s92, s93, s94, s95], defers := [] } X) := by
    intro l hl u23 u24 u26 u27 u28 u30 u32 u34 u35 X g8 g13 hB h8 h13
    subst hl
    have HB := Lib.hid hB
    have hz : W1.heap.size ≤ X.heap.size := hB.size
    have H8 := Lib.hid h8
    have H13 := Lib.hid h13
    clear hB h8 h13
    refine wpAnyH_ready (rs := [0, 4]) (by kernel_rfl) (by simp) (AllReadyH.cons (o := { dst := some 23, op := Go.Op.buildSlice 22 0 #[], type := 22, pos := "l7_automaton.go:407", after := #[], guard := none }) rfl (fun K hK => ?_) (AllReadyH.cons (o := { dst := some 27, op := Go.Op.buildSlice 27 0 #[], type := 27, pos := "l7_automaton.go:407", after := #[], guard := none }) rfl (fun K hK => ?_) AllReadyH.nil))
    · skip
      go_simp
      obtain ⟨Y, hY⟩ : ∃ Y, Y = X.alloc (.cells #[] 3) := ⟨_, rfl⟩
      rw [← hY]
      have hb : Below X.heap.size X Y := by rw [hY]; exact (Below.refl _ _).alloc (Nat.le_refl _) _
      have hnew : Row Y X.heap.size 3 #[] := by rw [hY]; exact Row.new _ _ _
      have HBY : Hid (Below W1.heap.size W1 Y) := HB.out.trans (hb.mono hz)
      clear hY
      refine hK.out _ _ ?_ (fun hHeld => ?_)
      · exact HKS.out _ HBY.out
      clear hK K
      try simp only [List.setIfInBounds_toArray, List.set_cons_zero]
      exact St0_8_13.out _ (by kernel_rfl) _ _ _ _ _ _ _ _ _ _ _ _ HBY.out (La.OwnI.empty hz hnew) (H8.out.keep (hb.block _ H8.out.lt)) ⟨H13.out.1.under hb H13.out.1.lt, H13.out.2⟩
    · skip
      go_simp
      obtain ⟨Y, hY⟩ : ∃ Y, Y = X.alloc (.cells #[] 4) := ⟨_, rfl⟩
      rw [← hY]
      have hb : Below X.heap.size X Y := by rw [hY]; exact (Below.refl _ _).alloc (Nat.le_refl _) _
      have hnew : Row Y X.heap.size 4 #[] := by rw [hY]; exact Row.new _ _ _
      have HBY : Hid (Below W1.heap.size W1 Y) := HB.out.trans (hb.mono hz)
      clear hY
      refine hK.out _ _ ?_ (fun hHeld => ?_)
      · exact HKS.out _ HBY.out
      clear hK K
      try simp only [List.setIfInBounds_toArray, List.set_cons_zero, List.set_cons_succ]
      exact St4_8_13.out _ (by kernel_rfl) _ _ _ _ _ _ _ _ _ _ _ _ HBY.out (Lb.OwnI.empty hz hnew) (H8.out.keep (hb.block _ H8.out.lt)) ⟨H13.out.1.under hb H13.out.1.lt, H13.out.2⟩
  have St8 : Hid (∀ (l : Array Bool), l = #[false, true, true, false, false, true, true, false, true, true, true, false, false, false, false] → ∀ (u7 u23 u24 u26 u27 u28 u30 u32 u34 u35 : Value) (X : World) (g8 : Nat) , Below W1.heap.size W1 X → OwnG X W1.heap.size g8 [] 0 → wpAnyH Try.prog .any uaOps Q (fun w' => w'.cell? ⟨ba, 0, none⟩ = some (.slice A0 xi.length c0) ∧ w'.cell? ⟨ba, 1, none⟩ = some (.slice A1 xa.length c1) ∧ w'.cell? ⟨ba, 2, none⟩ = some (.slice A2 xe.length c2)) 8 l { tmps := #[s0, s1, s2, s3, s4, s5, s6, u7, s8, s9, s10, s11, s12, s13, s14, s15, s16, s17, s18, s19, s20, s21, s22, u23, u24, .slice A0 xi.length c0, u26, u27, u28, .slice A1 xa.length c1, u30, .slice (some ⟨g8, 0, none⟩) 0 0, u32, .slice A2 xe.length c2, u34, u35, s36, s37, s38, s39, s40, s41, s42, s43, s44, s45, s46, s47, s48, s49, s50, s51, s52, s53, s54, s55, s56, s57, s58, s59, s60, s61, s62, s63, s64, s65, s66, s67, s68, s69, s70, s71, s72, s73, s74, s75, s76, s77, s78, s79, s80, s81, s82, s83, s84, s85, s86, s87, s88, s89, s90, s91, s92, s93, s94, s95], defers := [] } X) := by
    intro l hl u7 u23 u24 u26 u27 u28 u30 u32 u34 u35 X g8 hB h8
    subst hl
    have HB := Lib.hid hB
    have hz : W1.heap.size ≤ X.heap.size := hB.size
    have H8 := Lib.hid h8
    clear hB h8
    refine wpAnyH_ready (rs := [0, 4, 13]) (by kernel_rfl) (by simp) (AllReadyH.cons (o := { dst := some 23, op := Go.Op.buildSlice 22 0 #[], type := 22, pos := "l7_automaton.go:407", after := #[], guard := none }) rfl (fun K hK => ?_) (AllReadyH.cons (o := { dst := some 27, op := Go.Op.buildSlice 27 0 #[], type := 27, pos := "l7_automaton.go:407", after := #[], guard := none }) rfl (fun K hK => ?_) (AllReadyH.cons (o := { dst := some 7, op := Go.Op.alloc 51, type := 0, pos := "l7_automaton.go:407", after := #[], guard := none }) rfl (fun K hK => ?_) AllReadyH.nil)))
    · skip
      go_simp
      obtain ⟨Y, hY⟩ : ∃ Y, Y = X.alloc (.cells #[] 3) := ⟨_, rfl⟩
      rw [← hY]
      have hb : Below X.heap.size X Y := by rw [hY]; exact (Below.refl _ _).alloc (Nat.le_refl _) _
      have hnew : Row Y X.heap.size 3 #[] := by rw [hY]; exact Row.new _ _ _
      have HBY : Hid (Below W1.heap.size W1 Y) := HB.out.trans (hb.mono hz)
      clear hY
      refine hK.out _ _ ?_ (fun hHeld => ?_)
      · exact HKS.out _ HBY.out
      clear hK K
      try simp only [List.setIfInBounds_toArray, List.set_cons_zero]
      exact St0_8.out _ (by kernel_rfl) _ _ _ _ _ _ _ _ _ _ _ _ HBY.out (La.OwnI.empty hz hnew) (H8.out.keep (hb.block _ H8.out.lt))
    · skip
      go_simp
      obtain ⟨Y, hY⟩ : ∃ Y, Y = X.alloc (.cells #[] 4) := ⟨_, rfl⟩
      rw [← hY]
      have hb : Below X.heap.size X Y := by rw [hY]; exact (Below.refl _ _).alloc (Nat.le_refl _) _
      have hnew : Row Y X.heap.size 4 #[] := by rw [hY]; exact Row.new _ _ _
      have HBY : Hid (Below W1.heap.size W1 Y) := HB.out.trans (hb.mono hz)
      clear hY
      refine hK.out _ _ ?_ (fun hHeld => ?_)
      · exact HKS.out _ HBY.out
      clear hK K
      try simp only [List.setIfInBounds_toArray, List.set_cons_zero, List.set_cons_succ]
      exact St4_8.out _ (by kernel_rfl) _ _ _ _ _ _ _ _ _ _ _ _ HBY.out (Lb.OwnI.empty hz hnew) (H8.out.keep (hb.block _ H8.out.lt))
    · skip
      go_simp
      obtain ⟨Y, hY⟩ : ∃ Y, Y = X.alloc (.cells #[.slice none 0 0, .slice none 0 0, .slice none 0 0] 51) := ⟨_, rfl⟩
      rw [← hY]
      have hb : Below X.heap.size X Y := by rw [hY]; exact (Below.refl _ _).alloc (Nat.le_refl _) _
      have hnew : Row Y X.heap.size 51 #[.slice none 0 0, .slice none 0 0, .slice none 0 0] := by rw [hY]; exact Row.new _ _ _
      have HBY : Hid (Below W1.heap.size W1 Y) := HB.out.trans (hb.mono hz)
      clear hY
      refine hK.out _ _ ?_ (fun hHeld => ?_)
      · exact HKS.out _ HBY.out
      clear hK K
      try simp only [List.setIfInBounds_toArray, List.set_cons_zero, List.set_cons_succ]
      exact St8_13.out _ (by kernel_rfl) _ _ _ _ _ _ _ _ _ _ _ _ HBY.out (H8.out.keep (hb.block _ H8.out.lt)) ⟨hnew, hz⟩
  have St13 : Hid (∀ (l : Array Bool), l = #[false, true, true, false, false, true, true, false, false, true, true, false, false, true, false] → ∀ (u23 u24 u26 u27 u28 u30 u31 u32 u34 u35 : Value) (X : World) (g13 : Nat) , Below W1.heap.size W1 X → (Row X g13 51 #[.slice none 0 0, .slice none 0 0, .slice none 0 0] ∧ W1.heap.size ≤ g13) → wpAnyH Try.prog .any uaOps Q (fun w' => w'.cell? ⟨ba, 0, none⟩ = some (.slice A0 xi.length c0) ∧ w'.cell? ⟨ba, 1, none⟩ = some (.slice A1 xa.length c1) ∧ w'.cell? ⟨ba, 2, none⟩ = some (.slice A2 xe.length c2)) 8 l { tmps := #[s0, s1, s2, s3, s4, s5, s6, .pointer (some ⟨g13, 0, none⟩), s8, s9, s10, s11, s12, s13, s14, s15, s16, s17, s18, s19, s20, s21, s22, u23, u24, .slice A0 xi.length c0, u26, u27, u28, .slice A1 xa.length c1, u30, u31, u32, .slice A2 xe.length c2, u34, u35, s36, s37, s38, s39, s40, s41, s42, s43, s44, s45, s46, s47, s48, s49, s50, s51, s52, s53, s54, s55, s56, s57, s58, s59, s60, s61, s62, s63, s64, s65, s66, s67, s68, s69, s70, s71, s72, s73, s74, s75, s76, s77, s78, s79, s80, s81, s82, s83, s84, s85, s86, s87, s88, s89, s90, s91, s92, s93, s94, s95], defers := [] } X) := by
    intro l hl u23 u24 u26 u27 u28 u30 u31 u32 u34 u35 X g13 hB h13
    subst hl
    have HB := Lib.hid hB
    have hz : W1.heap.size ≤ X.heap.size := hB.size
    have H13 := Lib.hid h13
    clear hB h13
    refine wpAnyH_ready (rs := [0, 4, 8]) (by kernel_rfl) (by simp) (AllReadyH.cons (o := { dst := some 23, op := Go.Op.buildSlice 22 0 #[], type := 22, pos := "l7_automaton.go:407", after := #[], guard := none }) rfl (fun K hK => ?_) (AllReadyH.cons (o := { dst := some 27, op := Go.Op.buildSlice 27 0 #[], type := 27, pos := "l7_automaton.go:407", after := #[], guard := none }) rfl (fun K hK => ?_) (AllReadyH.cons (o := { dst := some 31, op := Go.Op.buildSlice 49 0 #[], type := 49, pos := "l7_automaton.go:407", after := #[], guard := none }) rfl (fun K hK => ?_) AllReadyH.nil)))
    · skip
      go_simp
      obtain ⟨Y, hY⟩ : ∃ Y, Y = X.alloc (.cells #[] 3) := ⟨_, rfl⟩
      rw [← hY]
      have hb : Below X.heap.size X Y := by rw [hY]; exact (Below.refl _ _).alloc (Nat.le_refl _) _
      have hnew : Row Y X.heap.size 3 #[] := by rw [hY]; exact Row.new _ _ _
      have HBY : Hid (Below W1.heap.size W1 Y) := HB.out.trans (hb.mono hz)
      clear hY
      refine hK.out _ _ ?_ (fun hHeld => ?_)
      · exact HKS.out _ HBY.out
      clear hK K
      try simp only [List.setIfInBounds_toArray, List.set_cons_zero]
      exact St0_13.out _ (by kernel_rfl) _ _ _ _ _ _ _ _ _ _ _ _ HBY.out (La.OwnI.empty hz hnew) ⟨H13.out.1.under hb H13.out.1.lt, H13.out.2⟩
    · skip
      go_simp
      obtain ⟨Y, hY⟩ : ∃ Y, Y = X.alloc (.cells #[] 4) := ⟨_, rfl⟩
      rw [← hY]
      have hb : Below X.heap.size X Y := by rw [hY]; exact (Below.refl _ _).alloc (Nat.le_refl _) _
      have hnew : Row Y X.heap.size 4 #[] := by rw [hY]; exact Row.new _ _ _
      have HBY : Hid (Below W1.heap.size W1 Y) := HB.out.trans (hb.mono hz)
      clear hY
      refine hK.out _ _ ?_ (fun hHeld => ?_)
      · exact HKS.out _ HBY.out
      clear hK K
      try simp only [List.setIfInBounds_toArray, List.set_cons_zero, List.set_cons_succ]
      exact St4_13.out _ (by kernel_rfl) _ _ _ _ _ _ _ _ _ _ _ _ HBY.out (Lb.OwnI.empty hz hnew) ⟨H13.out.1.under hb H13.out.1.lt, H13.out.2⟩
    · skip
      go_simp
      obtain ⟨Y, hY⟩ : ∃ Y, Y = X.alloc (.cells #[] 116) := ⟨_, rfl⟩
      rw [← hY]
      have hb : Below X.heap.size X Y := by rw [hY]; exact (Below.refl _ _).alloc (Nat.le_refl _) _
      have hnew : Row Y X.heap.size 116 #[] := by rw [hY]; exact Row.new _ _ _
      have HBY : Hid (Below W1.heap.size W1 Y) := HB.out.trans (hb.mono hz)
      clear hY
      refine hK.out _ _ ?_ (fun hHeld => ?_)
      · exact HKS.out _ HBY.out
      clear hK K
      try simp only [List.setIfInBounds_toArray, List.set_cons_zero, List.set_cons_succ]
      exact St8_13.out _ (by kernel_rfl) _ _ _ _ _ _ _ _ _ _ _ _ HBY.out (OwnG.empty hz hnew) ⟨H13.out.1.under hb H13.out.1.lt, H13.out.2⟩
  have St : Hid (∀ (l : Array Bool), l = #[false, true, true, false, false, true, true, false, false, true, true, false, false, false, false] → ∀ (u7 u23 u24 u26 u27 u28 u30 u31 u32 u34 u35 : Value) (X : World) , Below W1.heap.size W1 X → wpAnyH Try.prog .any uaOps Q (fun w' => w'.cell? ⟨ba, 0, none⟩ = some (.slice A0 xi.length c0) ∧ w'.cell? ⟨ba, 1, none⟩ = some (.slice A1 xa.length c1) ∧ w'.cell? ⟨ba, 2, none⟩ = some (.slice A2 xe.length c2)) 9 l { tmps := #[s0, s1, s2, s3, s4, s5, s6, u7, s8, s9, s10, s11, s12, s13, s14, s15, s16, s17, s18, s19, s20, s21, s22, u23, u24, .slice A0 xi.length c0, u26, u27, u28, .slice A1 xa.length c1, u30, u31, u32, .slice A2 xe.length c2, u34, u35, s36, s37, s38, s39, s40, s41, s42, s43, s44, s45, s46, s47, s48, s49, s50, s51, s52, s53, s54, s55, s56, s57, s58, s59, s60, s61, s62, s63, s64, s65, s66, s67, s68, s69, s70, s71, s72, s73, s74, s75, s76, s77, s78, s79, s80, s81, s82, s83, s84, s85, s86, s87, s88, s89, s90, s91, s92, s93, s94, s95], defers := [] } X) := by
    intro l hl u7 u23 u24 u26 u27 u28 u30 u31 u32 u34 u35 X  hB 
    subst hl
    have HB := Lib.hid hB
    have hz : W1.heap.size ≤ X.heap.size := hB.size
    clear hB 
    refine wpAnyH_ready (rs := [0, 4, 8, 13]) (by kernel_rfl) (by simp) (AllReadyH.cons (o := { dst := some 23, op := Go.Op.buildSlice 22 0 #[], type := 22, pos := "l7_automaton.go:407", after := #[], guard := none }) rfl (fun K hK => ?_) (AllReadyH.cons (o := { dst := some 27, op := Go.Op.buildSlice 27 0 #[], type := 27, pos := "l7_automaton.go:407", after := #[], guard := none }) rfl (fun K hK => ?_) (AllReadyH.cons (o := { dst := some 31, op := Go.Op.buildSlice 49 0 #[], type := 49, pos := "l7_automaton.go:407", after := #[], guard := none }) rfl (fun K hK => ?_) (AllReadyH.cons (o := { dst := some 7, op := Go.Op.alloc 51, type := 0, pos := "l7_automaton.go:407", after := #[], guard := none }) rfl (fun K hK => ?_) AllReadyH.nil))))
    · skip
      go_simp
      obtain ⟨Y, hY⟩ : ∃ Y, Y = X.alloc (.cells #[] 3) := ⟨_, rfl⟩
      rw [← hY]
      have hb : Below X.heap.size X Y := by rw [hY]; exact (Below.refl _ _).alloc (Nat.le_refl _) _
      have hnew : Row Y X.heap.size 3 #[] := by rw [hY]; exact Row.new _ _ _
      have HBY : Hid (Below W1.heap.size W1 Y) := HB.out.trans (hb.mono hz)
      clear hY
      refine hK.out _ _ ?_ (fun hHeld => ?_)
      · exact HKS.out _ HBY.out
      clear hK K
      try simp only [List.setIfInBounds_toArray, List.set_cons_zero]
      exact St0.out _ (by kernel_rfl) _ _ _ _ _ _ _ _ _ _ _ _ HBY.out (La.OwnI.empty hz hnew)
    · skip
      go_simp
      obtain ⟨Y, hY⟩ : ∃ Y, Y = X.alloc (.cells #[] 4) := ⟨_, rfl⟩
      rw [← hY]
      have hb : Below X.heap.size X Y := by rw [hY]; exact (Below.refl _ _).alloc (Nat.le_refl _) _
      have hnew : Row Y X.heap.size 4 #[] := by rw [hY]; exact Row.new _ _ _
      have HBY : Hid (Below W1.heap.size W1 Y) := HB.out.trans (hb.mono hz)
      clear hY
      refine hK.out _ _ ?_ (fun hHeld => ?_)
      · exact HKS.out _ HBY.out
      clear hK K
      try simp only [List.setIfInBounds_toArray, List.set_cons_zero, List.set_cons_succ]
      exact St4.out _ (by kernel_rfl) _ _ _ _ _ _ _ _ _ _ _ _ HBY.out (Lb.OwnI.empty hz hnew)
    · skip
      go_simp
      obtain ⟨Y, hY⟩ : ∃ Y, Y = X.alloc (.cells #[] 116) := ⟨_, rfl⟩
      rw [← hY]
      have hb : Below X.heap.size X Y := by rw [hY]; exact (Below.refl _ _).alloc (Nat.le_refl _) _
      have hnew : Row Y X.heap.size 116 #[] := by rw [hY]; exact Row.new _ _ _
      have HBY : Hid (Below W1.heap.size W1 Y) := HB.out.trans (hb.mono hz)
      clear hY
      refine hK.out _ _ ?_ (fun hHeld => ?_)
      · exact HKS.out _ HBY.out
      clear hK K
      try simp only [List.setIfInBounds_toArray, List.set_cons_zero, List.set_cons_succ]
      exact St8.out _ (by kernel_rfl) _ _ _ _ _ _ _ _ _ _ _ _ HBY.out (OwnG.empty hz hnew)
    · skip
      go_simp
      obtain ⟨Y, hY⟩ : ∃ Y, Y = X.alloc (.cells #[.slice none 0 0, .slice none 0 0, .slice none 0 0] 51) := ⟨_, rfl⟩
      rw [← hY]
      have hb : Below X.heap.size X Y := by rw [hY]; exact (Below.refl _ _).alloc (Nat.le_refl _) _
      have hnew : Row Y X.heap.size 51 #[.slice none 0 0, .slice none 0 0, .slice none 0 0] := by rw [hY]; exact Row.new _ _ _
      have HBY : Hid (Below W1.heap.size W1 Y) := HB.out.trans (hb.mono hz)
      clear hY
      refine hK.out _ _ ?_ (fun hHeld => ?_)
      · exact HKS.out _ HBY.out
      clear hK K
      try simp only [List.setIfInBounds_toArray, List.set_cons_zero, List.set_cons_succ]
      exact St13.out _ (by kernel_rfl) _ _ _ _ _ _ _ _ _ _ _ _ HBY.out ⟨hnew, hz⟩
  exact St.out

end Go.Proofs.Ytldnegacgjijlaa

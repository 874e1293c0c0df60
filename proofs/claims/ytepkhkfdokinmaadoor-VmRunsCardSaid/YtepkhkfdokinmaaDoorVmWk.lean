/-
  The layer is awake: wicketgatelaw05.wakes; VmAlu, walked.
-/
import Derived.Test.YtepkhkfdokinmaaDoorVmTc
import Derived.Test.YtepkhkfdokinmaaDoorVmRA
import Derived.Test.YtepkhkfdokinmaaDoorGJ
namespace Go.Proofs.YtepkhkfdokinmaaDoor
open Go.RowKit
set_option linter.unusedVariables false

def wk5 : Nat → Ins := fun k => if k = 0 then (32, 0, 0, 0) else if k = 1 then (21, 0, 1, 7) else if k = 2 then (6, 0, 0, 1) else (6, 0, 0, 2)
theorem may_wk5 : May wk5 4 := may_chk (by rfl)
def nrD (x : Int) : Dat := ⟨x, 0, 0, 0, 0, 0, 0, 0, 0⟩
theorem nrD_ok {x : Int} (h : U32 x) : DatOk (nrD x) := by
  constructor <;> first | exact h | (unfold nrD; simp only [U32, U64]; omega)
theorem ret_wk7 : retV wk5 (dW (nrD 7)) 4 = 1 := by rfl
theorem ret_wk8 : retV wk5 (dW (nrD 8)) 4 = 2 := by rfl
def wkC : Array Value := #[.int .u16 32, .int .u8 0, .int .u8 0, .int .u32 0, .int .u16 21, .int .u8 0, .int .u8 1, .int .u32 7, .int .u16 6, .int .u8 0, .int .u8 0, .int .u32 1, .int .u16 6, .int .u8 0, .int .u8 0, .int .u32 2]
theorem ri_wk5 {w : World} {g : Nat} (h : Blk w g wkC 54) : Ri w w.heap.size (some ⟨g, 0, none⟩) 4 wk5 := fun k hk => by
  have : k = 0 ∨ k = 1 ∨ k = 2 ∨ k = 3 := by omega
  rcases this with rfl | rfl | rfl | rfl
  · exact ⟨g, 0, rfl, h.lt, ⟨h.cell 0, h.cell 1, h.cell 2, h.cell 3⟩, by constructor <;> simp [wk5]⟩
  · exact ⟨g, 0, rfl, h.lt, ⟨h.cell 4, h.cell 5, h.cell 6, h.cell 7⟩, by constructor <;> simp [wk5]⟩
  · exact ⟨g, 0, rfl, h.lt, ⟨h.cell 8, h.cell 9, h.cell 10, h.cell 11⟩, by constructor <;> simp [wk5]⟩
  · exact ⟨g, 0, rfl, h.lt, ⟨h.cell 12, h.cell 13, h.cell 14, h.cell 15⟩, by constructor <;> simp [wk5]⟩

set_option maxRecDepth 100000 in
set_option maxHeartbeats 4000000 in
theorem wakes5_any (w : World) (hK : Kinds w) : Calls Tryd.prog 8 #[] w fun e w' => e = .returned (.bool true) ∧ Below w.heap.size w w' := by
  have R7 := fun V (hV : Blk V w.heap.size wkC 54) hK => run_ok (some ⟨w.heap.size, 0, none⟩) 4 4 wk5 (nrD 7) (nrD_ok (by unfold U32; omega)) V hK (ri_wk5 hV) (by omega) may_wk5
  have R8 := fun V (hV : Blk V w.heap.size wkC 54) hK => run_ok (some ⟨w.heap.size, 0, none⟩) 4 4 wk5 (nrD 8) (nrD_ok (by unfold U32; omega)) V hK (ri_wk5 hV) (by omega) may_wk5
  rw [ret_wk7] at R7
  rw [ret_wk8] at R8
  simp only [datV, datC, nrD] at R7 R8
  have k0 : Blk (w.alloc (.cells wkC 54)) w.heap.size wkC 54 := Blk.new _ _ _
  have B0 : Below w.heap.size w (w.alloc (.cells wkC 54)) := (Below.refl _ w).alloc (Nat.le_refl _) _
  have D7 := R7 _ k0 (hK.below B0 hK.pos)
  unfold wkC at D7 k0
  go_enter Tryd.func8, Tryd.ntmps8
  go_wp2_with fail
  refine D7.mono ?_
  rintro e w1 ⟨rfl, b1⟩
  have k1 := k0.below b1 k0.lt
  have B1 := B0.trans (b1.mono B0.size)
  have K1 := hK.below B1 hK.pos
  clear b1 D7 k0
  go_wp2_with fail
  refine (R8 w1 k1 K1).mono ?_
  rintro e w2 ⟨rfl, b2⟩
  have B2 := B1.trans (b2.mono B1.size)
  go_wp2_with fail
  go_ret
  exact ⟨rfl, B2⟩

set_option maxRecDepth 100000 in
set_option maxHeartbeats 4000000 in
theorem vmAlu_any (op a b : Int) (w : World) (hK : Kinds w) (ho : (Lit.int .u16 op).wf = true) (ha' : (Lit.int .u32 a).wf = true) (hb' : (Lit.int .u32 b).wf = true) :
    Calls Tryd.prog 3 #[.int .u16 op, .int .u32 a, .int .u32 b] w fun e w' => e = .returned (.bool true) ∧ Below w.heap.size w w' := by
  have ha := wf_U32 ha'
  have hb := wf_U32 hb'
  simp [Lit.wf, IntKind.min, IntKind.max, IntKind.signed, IntKind.bits] at ho
  obtain ⟨h0, h1⟩ := ho
  have PA := fun V => alu_any op a b h0 (by omega) ha hb V
  have RA := fun V => refalu_any op a b h0 (by omega) ha hb V
  have PH := fun V => hd_any op a b h0 (by omega) ha hb V
  have RH := fun V => refhd_any op a b h0 (by omega) ha hb V
  obtain ⟨v, hv⟩ : ∃ v, aluV op a b = v := ⟨_, rfl⟩
  obtain ⟨o, ho⟩ : ∃ v, aluB op a b = v := ⟨_, rfl⟩
  obtain ⟨t, ht⟩ : ∃ v, hdI op a b = v := ⟨_, rfl⟩
  rw [hv, ho] at PA RA
  rw [ht] at PH RH
  clear hv ho ht ha' hb'
  cases o <;> cases t
  all_goals
    go_enter Tryd.func3, Tryd.ntmps3
    go_wp2_with fail
    refine (wakes5_any _ hK).mono ?_
    rintro e w1 ⟨rfl, b1⟩
    go_wp2_with fail
    refine (PA _).mono ?_
    rintro e w2 ⟨rfl, b2⟩
    have B2 := b1.trans (b2.mono b1.size)
    clear b2 b1
    go_wp2_with fail
    refine (RA _).mono ?_
    rintro e w3 ⟨rfl, hw⟩
    subst w3
    go_wp2_with fail
    refine (PH _).mono ?_
    rintro e w3 ⟨rfl, b3⟩
    have B3 := B2.trans (b3.mono B2.size)
    clear b3 B2
    go_wp2_with fail
    refine (RH _).mono ?_
    rintro e w4 ⟨rfl, hw⟩
    subst w4
    go_wp2_with fail
    go_ret
    exact ⟨rfl, B3⟩
end Go.Proofs.YtepkhkfdokinmaaDoor

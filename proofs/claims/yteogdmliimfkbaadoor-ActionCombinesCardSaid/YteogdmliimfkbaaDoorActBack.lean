/-
  ActionBack: words and verdicts lead back to one another: the walk.
-/
import Derived.Test.YteogdmliimfkbaaDoorActE
import Derived.Test.YteogdmliimfkbaaDoorClassL
namespace Go.Proofs.YteogdmliimfkbaaDoor
open Go.RowKit
set_option linter.unusedVariables false

def joinI (k : Nat) (d : Int) : Int := hAt k * 65536 + d
theorem join_bd (k : Nat) (d : Int) (h0 : 0 ≤ d) (h1 : d < 65536) : 0 ≤ joinI k d ∧ joinI k d < 4294967296 := by have := hAt_bd k; unfold joinI; omega
theorem join_act (k : Nat) (d : Int) (hk : k < 8) (h0 : 0 ≤ d) (h1 : d < 65536) : actI (joinI k d) = k ∧ knowB (joinI k d) = true ∧ joinI k d % 65536 = d := by
  have e : joinI k d / 65536 = hAt k := by unfold joinI; omega
  have e2 : actO (joinI k d / 65536) = some k := by rw [e]; exact (actO_iff _ k hk).2 rfl
  refine ⟨by simp [actI, e2], by simp [knowB, e2], by unfold joinI; omega⟩
theorem join_known (x : Int) (h : knowB x = true) : joinI (actI x) (x % 65536) = x := by
  unfold knowB at h
  cases e : actO (x / 65536) with
  | none => rw [e] at h; cases h
  | some k =>
    have := (actO_iff _ k (actO_lt e)).1 e
    have e2 : actI x = k := by simp [actI, e]
    rw [e2]; unfold joinI; rw [this]; omega
theorem join_unknown (x : Int) (h : knowB x = false) : joinI (actI x) (x % 65536) ≠ x := by
  unfold knowB at h
  cases e : actO (x / 65536) with
  | some k => rw [e] at h; cases h
  | none =>
    have e2 : actI x = 0 := by simp [actI, e]
    rw [e2]
    have h0 : hAt 0 = 32768 := rfl
    intro e3
    unfold joinI at e3
    have e4 : x / 65536 = 32768 := by omega
    rw [e4, (actO_iff 32768 0 (by omega)).2 h0] at e
    cases e
theorem and_mask (x : Int) (h0 : 0 ≤ x) (h1 : x < 4294967296) : bits .and .u32 x 65535 = x % 65536 := by
  rw [u32_and x 65535 h0 h1 (by omega) (by omega)]
  obtain ⟨A, rfl⟩ := Int.eq_ofNat_of_zero_le h0
  have := Nat.and_two_pow_sub_one_eq_mod A 16
  rw [Int.toNat_natCast]
  simpa using congrArg (fun n : Nat => (n : Int)) this

set_option maxRecDepth 100000 in
set_option maxHeartbeats 4000000 in
theorem actionBack_any (x a d : Int) (w : World) (hK : Acts w) (x0 : 0 ≤ x) (x1 : x < 4294967296) (d0 : 0 ≤ d) (d1 : d < 65536) :
    Calls Tryd.prog 6 #[.int .u32 x, .agg #[.int .i64 a, .int .u16 d]] w fun e w' => e = .returned (.bool true) ∧ Below w.heap.size w w' := by
  have hpos := hK.pos
  have bV := Blk.new w #[.int .i64 a, .int .u16 d] 29
  have B0 : Below w.heap.size w (w.alloc (.cells #[.int .i64 a, .int .u16 d] 29)) := (Below.refl _ _).alloc (Nat.le_refl _) _
  have hJ := fun V hV => join_yes (actI x) (x % 65536) (actI_lt x) (by omega) (by omega) V hV
  have hy := join_bd (actI x) (x % 65536) (by omega) (by omega)
  have hk1 := join_known x
  have hk2 := join_unknown x
  have hm := (join_act (actI x) (x % 65536) (actI_lt x) (by omega) (by omega)).2.2
  rw [show hAt (actI x) * 65536 + x % 65536 = joinI (actI x) (x % 65536) from rfl] at hJ
  generalize joinI (actI x) (x % 65536) = y at *
  have ay := and_mask y hy.1 hy.2
  rw [hm] at ay
  have ax := and_mask x x0 x1
  have hg : knowB x = (y == x) := by
    cases hkb : knowB x
    · exact (by simpa using hk2 hkb : (y == x) = false).symm
    · exact (by simpa using hk1 hkb : (y == x) = true).symm
  have HG := Lib.hid hg
  clear hg hk1 hk2 hm
  have HY := Lib.hid ay
  have HX := Lib.hid ax
  clear ay ax
  go_enter Tryd.func6, Tryd.ntmps6
  go_wp2_with fail
  refine (wakes_any _ (hK.alloc _)).mono ?_
  rintro e w1 ⟨rfl, b1⟩
  have K1 := (hK.alloc (.cells #[.int .i64 a, .int .u16 d] 29)).below b1 (hK.alloc _).pos
  have V1 := bV.below b1 (by simp)
  have B1 := B0.trans (b1.mono (by simp))
  go_wp2_with fail
  refine (split_any x x0 x1 _ K1).mono ?_
  rintro e w2 ⟨rfl, b2⟩
  have K2 := K1.below b2 K1.pos
  have V2 := V1.below b2 V1.lt
  have B2 := B1.trans (b2.mono B1.size)
  go_wp2_with fail
  refine (hJ _ K2).mono ?_
  rintro e w3 ⟨rfl, b3⟩
  have K3 := K2.below b3 K2.pos
  have V3 := V2.below b3 V2.lt
  have B3 := B2.trans (b3.mono B2.size)
  clear hJ V1 V2 b1 b2 b3 B1 B2 K1 K2
  go_wp2_with fail
  refine (known_any x x0 x1 _ K3).mono ?_
  rintro e w4 ⟨rfl, rfl⟩
  rw [HG.out]
  have hx2 := HX.out
  have hy2 := HY.out
  by_cases ha : a < 0 ∨ 7 < a
  · go_wp2_with (refine wpList_load_row rfl 29 (.tmp 3) rfl w.heap.size rfl 29 _ (0, 0) _ V3.blk Tryd.underlying29 rfl ver_info ?_)
    refine (join_no a d ha _).mono ?_
    rintro e w5 ⟨rfl, b5⟩
    go_wp2_with fail
    go_quiet (fail)
    go_wp2_with fail
    go_ret
    exact ⟨rfl, below_drewN (B3.trans (b5.mono B3.size)) _⟩
  · obtain ⟨k, rfl⟩ : ∃ k : Nat, a = k := ⟨a.toNat, by omega⟩
    have hk : k < 8 := by omega
    have hJ := fun V hV => join_yes k d hk d0 d1 V hV
    have hj := join_act k d hk d0 d1
    have hjb := join_bd k d d0 d1
    rw [show hAt k * 65536 + d = joinI k d from rfl] at hJ
    generalize joinI k d = z at *
    go_wp2_with (refine wpList_load_row rfl 29 (.tmp 3) rfl w.heap.size rfl 29 _ (0, 0) _ V3.blk Tryd.underlying29 rfl ver_info ?_)
    refine (hJ _ K3).mono ?_
    rintro e w5 ⟨rfl, b5⟩
    have K5 := K3.below b5 K3.pos
    have V5 := V3.below b5 V3.lt
    have B5 := B3.trans (b5.mono B3.size)
    have hS0 : (fun V => Acts V ∧ Blk V w.heap.size #[.int .i64 (k : Int), .int .u16 d] 29 ∧ Below w.heap.size w V) w5.drew := ⟨K5.drew, V5.drew, B5.drew⟩
    have keep : ∀ V V', (fun V => Acts V ∧ Blk V w.heap.size #[.int .i64 (k : Int), .int .u16 d] 29 ∧ Below w.heap.size w V) V → Below V.heap.size V V' → (fun V => Acts V ∧ Blk V w.heap.size #[.int .i64 (k : Int), .int .u16 d] 29 ∧ Below w.heap.size w V) V' :=
      fun V V' ⟨h1, h2, h3⟩ hb => ⟨h1.below hb h1.pos, h2.below hb h2.lt, h3.trans (hb.mono h3.size)⟩
    have cS := calls_keep keep (fun V h => split_any z hjb.1 hjb.2 V h.1)
    have cK := calls_keep keep (fun V h => (known_any z hjb.1 hjb.2 V h.1).mono fun e w' ⟨he, hw⟩ => ⟨he, hw ▸ Below.refl _ _⟩)
    rw [hj.1, hj.2.2] at cS
    rw [hj.2.1] at cK
    clear hj hJ b5 K5 V5 B5 V3 B3 K3
    go_wp2_with fail
    refine region_class (S := fun V => Acts V ∧ Blk V w.heap.size #[.int .i64 (k : Int), .int .u16 d] 29 ∧ Below w.heap.size w V) (by kernel_rfl) (by kernel_rfl) hS0 ?_
    have hne : Nonempty (Sig (fun V => Acts V ∧ Blk V w.heap.size #[.int .i64 (k : Int), .int .u16 d] 29 ∧ Below w.heap.size w V)) := ⟨⟨_, hS0⟩⟩
    have x0 : ∀ s : Sig (fun V => Acts V ∧ Blk V w.heap.size #[.int .i64 (k : Int), .int .u16 d] 29 ∧ Below w.heap.size w V), s.V.cell? ⟨w.heap.size, 0, none⟩ = some (.int .i64 (k : Int)) := fun s => s.h.2.1.cell 0
    have x1 : ∀ s : Sig (fun V => Acts V ∧ Blk V w.heap.size #[.int .i64 (k : Int), .int .u16 d] 29 ∧ Below w.heap.size w V), s.V.cell? ⟨w.heap.size, 1, none⟩ = some (.int .u16 d) := fun s => s.h.2.1.cell 1
    repeat (go_big_quiet_step (first | (go_at_call 10; exact class_call _ cS) | (go_at_call 12; exact class_call _ cK)))
    refine wpQuiet_nil ?_
    rintro _ ⟨s7, rfl⟩
    go_wp2
    go_ret
    exact ⟨rfl, s7.h.2.2⟩
end Go.Proofs.YteogdmliimfkbaaDoor

/-
  action.Join, Name, Action, Under; the reference's Split and Name.
-/
import Derived.Test.YteogdmliimfkbaaDoorActS
import Derived.Test.YteogdmliimfkbaaDoorOwnH
import Derived.Laws.BitsAllLaws
import Derived.BigQuiet
import Derived.Deep.QuietTactic
import Derived.WalkLawsBesides
import Derived.WalkSpells
namespace Go.Proofs.YteogdmliimfkbaaDoor
open Go.RowKit
set_option linter.unusedVariables false

theorem acts_h {w : World} (h : Acts w) (k : Nat) (hk : k < 8) : w.cell? ⟨0, k, none⟩ = some (.int .u16 (hAt k)) := by
  obtain ⟨t, fr, h⟩ := h.h
  simp only [World.cell?, h]
  match k, hk with
  | 0, _ | 1, _ | 2, _ | 3, _ | 4, _ | 5, _ | 6, _ | 7, _ => rfl
  | n + 8, h => exact absurd h (by omega)
theorem acts_n {w : World} (h : Acts w) (k : Nat) (hk : k < 8) : w.cell? ⟨1, k, none⟩ = some (.string (nAt k)) := by
  obtain ⟨t, fr, h⟩ := h.n
  simp only [World.cell?, h]
  match k, hk with
  | 0, _ | 1, _ | 2, _ | 3, _ | 4, _ | 5, _ | 6, _ | 7, _ => rfl
  | n + 8, h => exact absurd h (by omega)

theorem isact_yes (k : Nat) (hk : k < 8) (w : World) : Calls Tryd.prog 25 #[.int .i64 k] w fun e w' => e = .returned (.bool true) ∧ w' = w := by
  have h1 : decide ((0 : Int) ≤ k) = true := by simp
  have h2 : decide ((k : Int) ≤ 7) = true := by simp; omega
  go_enter Tryd.func25, Tryd.ntmps25
  go_wp2
  go_ret
  exact ⟨rfl, rfl⟩
theorem isact_no (a : Int) (ha : a < 0 ∨ 7 < a) (w : World) : Calls Tryd.prog 25 #[.int .i64 a] w fun e w' => e = .returned (.bool false) ∧ w' = w := by
  rcases ha with ha | ha
  · have h1 : decide (0 ≤ a) = false := by simp; omega
    go_enter Tryd.func25, Tryd.ntmps25
    go_wp2
    go_ret
    exact ⟨rfl, rfl⟩
  · have h1 : decide (0 ≤ a) = true := by simp; omega
    have h2 : decide (a ≤ 7) = false := by simp; omega
    go_enter Tryd.func25, Tryd.ntmps25
    go_wp2
    go_ret
    exact ⟨rfl, rfl⟩
theorem join_or (k : Nat) (d : Int) (h0 : 0 ≤ d) (h1 : d < 65536) : bits .or .u32 (hAt k % 4294967296 * 65536 % 4294967296) d = hAt k * 65536 + d := by
  have hb := hAt_bd k
  rw [show hAt k % 4294967296 * 65536 % 4294967296 = hAt k * 65536 by omega, u32_or _ _ (by omega) (by omega) h0 (by omega)]
  obtain ⟨A, hA⟩ := Int.eq_ofNat_of_zero_le hb.1
  obtain ⟨D, rfl⟩ := Int.eq_ofNat_of_zero_le h0
  rw [hA]
  have e3 : ((A : Int) * 65536).toNat = 2 ^ 16 * A := by omega
  have e4 := Nat.two_pow_add_eq_or_of_lt (show D < 2 ^ 16 by omega) A
  rw [e3, Int.toNat_natCast, ← e4]
  omega
theorem join_no (a d : Int) (ha : a < 0 ∨ 7 < a) (w : World) : Calls Tryd.prog 14 #[.agg #[.int .i64 a, .int .u16 d]] w fun e w' => e = .returned (.tuple #[.int .u32 0, .int .i64 160]) ∧ Below w.heap.size w w' := by
  go_enter Tryd.func14, Tryd.ntmps14
  go_wp2_with (go_at_call 25; refine (isact_no a ha _).mono ?_; rintro e w' ⟨rfl, rfl⟩)
  go_ret2
  exact ⟨rfl, (Below.refl _ _).alloc (Nat.le_refl _) _⟩
theorem join_yes (k : Nat) (d : Int) (hk : k < 8) (h0 : 0 ≤ d) (h1 : d < 65536) (w : World) (hK : Acts w) : Calls Tryd.prog 14 #[.agg #[.int .i64 k, .int .u16 d]] w fun e w' => e = .returned (.tuple #[.int .u32 (hAt k * 65536 + d), .int .i64 0]) ∧ Below w.heap.size w w' := by
  have hc := acts_h (hK.alloc (.cells #[.int .i64 k, .int .u16 d] 29)) k hk
  have hk' : (k : Int) < 8 := by omega
  go_enter Tryd.func14, Tryd.ntmps14
  go_wp2_with (go_at_call 25; refine (isact_yes k hk _).mono ?_; rintro e w' ⟨rfl, rfl⟩)
  go_quiet (fail)
  go_wp2
  go_ret2
  refine ⟨?_, below_drewN ((Below.refl _ _).alloc (Nat.le_refl _) _) nq⟩
  rw [← join_or k d h0 h1]
  rfl
theorem name_no (a : Int) (ha : a < 0 ∨ 7 < a) (w : World) : Calls Tryd.prog 16 #[.int .i64 a] w fun e w' => e = .returned (.tuple #[.string ⟨#[]⟩, .bool false]) ∧ w' = w := by
  go_enter Tryd.func16, Tryd.ntmps16
  go_wp2_with (go_at_call 25; refine (isact_no a ha _).mono ?_; rintro e w' ⟨rfl, rfl⟩)
  go_ret2
  exact ⟨rfl, rfl⟩
theorem name_yes (k : Nat) (hk : k < 8) (w : World) (hK : Acts w) : Calls Tryd.prog 16 #[.int .i64 k] w fun e w' => e = .returned (.tuple #[.string (nAt k), .bool true]) ∧ w' = w := by
  have hc := acts_n hK k hk
  have hk' : (k : Int) < 8 := by omega
  go_enter Tryd.func16, Tryd.ntmps16
  go_wp2_with (go_at_call 25; refine (isact_yes k hk _).mono ?_; rintro e w' ⟨rfl, rfl⟩)
  go_ret2
  exact ⟨rfl, rfl⟩
theorem nameR_no (a : Int) (ha : a < 0 ∨ 7 < a) (w : World) : Calls Tryd.prog 17 #[.int .i64 a] w fun e w' => e = .returned (.string ⟨#[]⟩) ∧ w' = w := by
  rcases ha with ha | ha
  · have h1 : decide (a < 0) = true := by simpa using ha
    go_enter Tryd.func17, Tryd.ntmps17
    go_wp2
    go_ret
    exact ⟨rfl, rfl⟩
  · have h1 : decide (a < 0) = false := by simp; omega
    have h2 : decide (7 < a) = true := by simpa using ha
    go_enter Tryd.func17, Tryd.ntmps17
    go_wp2
    go_ret
    exact ⟨rfl, rfl⟩
theorem idx_n (k : Nat) (hk : k < 8) : ∀ w : World, (Instr.index 58 (.agg nC) (.int .i64 k)).run Tryd.prog w = .ok (.string (nAt k)) w := by
  match k, hk with
  | 0, _ | 1, _ | 2, _ | 3, _ | 4, _ | 5, _ | 6, _ | 7, _ => intro w; kernel_rfl
  | n + 8, h => exact absurd h (by omega)
theorem nC_lit : nC = #[.string ⟨#[107, 105, 108, 108, 46, 112, 114, 111, 99, 101, 115, 115]⟩, .string ⟨#[107, 105, 108, 108, 46, 116, 104, 114, 101, 97, 100]⟩, .string ⟨#[116, 114, 97, 112]⟩, .string ⟨#[101, 114, 114, 110, 111]⟩, .string ⟨#[110, 111, 116, 105, 102, 121]⟩, .string ⟨#[116, 114, 97, 99, 101]⟩, .string ⟨#[108, 111, 103]⟩, .string ⟨#[97, 108, 108, 111, 119]⟩] := rfl
theorem nameR_yes (k : Nat) (hk : k < 8) (w : World) : Calls Tryd.prog 17 #[.int .i64 k] w fun e w' => e = .returned (.string (nAt k)) ∧ w' = w := by
  have hi := idx_n k hk
  rw [nC_lit] at hi
  have h1 : decide ((k : Int) < 0) = false := by simp
  have h2 : decide (7 < (k : Int)) = false := by simp; omega
  go_enter Tryd.func17, Tryd.ntmps17
  go_wp2
  go_ret
  exact ⟨rfl, rfl⟩
/-- A name's action. -/
def actN (s : ByteArray) : Option Nat := (List.range 8).find? fun i => (nAt i).toList == s.toList
set_option maxHeartbeats 1000000 in
theorem action_any (s : ByteArray) (w : World) (hK : Acts w) :
    Calls Tryd.prog 18 #[.string s] w fun e w' => e = .returned (.tuple #[.int .i64 ((actN s).getD 0 : Nat), .bool (actN s).isSome]) ∧ w' = w := by
  obtain ⟨t, fr, hb⟩ := hK.n
  go_enter Tryd.func18, Tryd.ntmps18
  go_wp2_with (refine wpList_load_row rfl 58 (.global 1) rfl 1 rfl t nC fr _ hb Tryd.underlying58 rfl info_n ?_)
  go_loopw [7] (fun i wr => ∃ k : Nat, k ≤ 8 ∧ i = .int .i64 k ∧ (∀ j, j < k → ((nAt j).toList == s.toList) = false) ∧ wr = w) (fun i _ => 8 - (intOf i).toNat)
  case atStart => exact ⟨0, Nat.zero_le _, rfl, fun j hj => absurd hj (by omega), rfl⟩
  case round =>
    obtain ⟨k, hk, rfl, hj, rfl⟩ := hrel
    have HJ := Lib.hid hj
    clear hj
    by_cases hlt : k < 8
    · have hi := idx_n k hlt
      have hlt' : (k : Int) < 8 := by omega
      by_cases hq : ((nAt k).toList == s.toList) = true
      · go_wp2
        go_ret2
        have e : actN s = some k := find_at hlt HJ.out hq
        simp [e]
      · have hq' : ((nAt k).toList == s.toList) = false := by simpa using hq
        clear hq
        go_wp2
        go_roundw
        case rel =>
          refine ⟨k + 1, by omega, by go_num, fun j hj => ?_, trivial⟩
          rcases Nat.lt_or_ge j k with h | h
          · exact HJ.out j h
          · obtain rfl : j = k := by omega
            exact hq'
        case measure => simp [intOf]; omega
    · obtain rfl : k = 8 := by omega
      go_wp2
      go_ret2
      have e : actN s = none := find_no HJ.out
      simp [e]
theorem hAt_inj (i j : Nat) (hi : i < 8) (hj : j < 8) (h : hAt i = hAt j) : i = j := by
  have : ∀ i, i < 8 → ∀ j, j < 8 → hAt i = hAt j → i = j := by decide
  exact this i hi j hj h
theorem actO_lt {h : Int} {k : Nat} (e : actO h = some k) : k < 8 := by
  have := List.mem_of_find?_eq_some e
  simpa using this
theorem actI_lt (x : Int) : actI x < 8 := by
  unfold actI
  cases h : actO (x / 65536) with
  | none => simp
  | some k => exact actO_lt h
theorem actO_iff (h : Int) (k : Nat) (hk : k < 8) : actO h = some k ↔ hAt k = h := by
  constructor
  · intro e
    have := List.find?_some e
    simpa using this
  · intro e
    refine find_at hk (fun i hi => ?_) (by simpa using e)
    have : hAt i ≠ h := fun e' => by have := hAt_inj i k (by omega) hk (e'.trans e.symm); omega
    simpa using this
/-- The action that is found among the first k. -/
def actK (h : Int) (k : Nat) : Nat := match actO h with | some j => if j < k then j else 0 | none => 0
theorem actK_zero (h : Int) : actK h 0 = 0 := by unfold actK; cases actO h <;> simp
theorem actK_8 (x : Int) : actK (x / 65536) 8 = actI x := by
  unfold actK actI
  cases e : actO (x / 65536) with
  | none => rfl
  | some j => simp [actO_lt e]
theorem actK_yes (h : Int) (k : Nat) (hk : k < 8) (e : hAt k = h) : actK h (k + 1) = k := by
  unfold actK
  rw [(actO_iff h k hk).2 e]
  simp
theorem actK_no (h : Int) (k : Nat) (hk : k < 8) (e : hAt k ≠ h) : actK h (k + 1) = actK h k := by
  have h1 : actO h ≠ some k := fun e' => e ((actO_iff h k hk).1 e')
  unfold actK
  cases e2 : actO h with
  | none => rfl
  | some j =>
    have : j ≠ k := fun e3 => h1 (by rw [e2, e3])
    by_cases hj : j < k
    · simp [hj, show j < k + 1 by omega]
    · simp [hj, show ¬ j < k + 1 by omega]
theorem ver_info : (Tryd.prog.info? 29).map (·.size) = some 2 := by kernel_rfl
set_option maxHeartbeats 2000000 in
theorem splitR_any (x : Int) (h0 : 0 ≤ x) (h1 : x < 4294967296) (w : World) :
    Calls Tryd.prog 11 #[.int .u32 x] w fun e w' => e = .returned (.agg #[.int .i64 (actI x), .int .u16 (x % 65536)]) ∧ Below w.heap.size w w' := by
  go_enter Tryd.func11, Tryd.ntmps11
  go_wp2
  have B0 := Blk.new_ (w.alloc (.cells #[.int .i64 0, .int .u16 0] 29)) #[.int .i64 0, .int .u16 (IntKind.u16.wrap x)] 29 (n := w.heap.size + 1) (by simp)
  have A0 := (Blk.new w #[.int .i64 0, .int .u16 0] 29).alloc (.cells #[.int .i64 0, .int .u16 (IntKind.u16.wrap x)] 29)
  have C0 : Below w.heap.size w ((w.alloc (.cells #[.int .i64 0, .int .u16 0] 29)).alloc (.cells #[.int .i64 0, .int .u16 (IntKind.u16.wrap x)] 29)) := ((Below.refl _ _).alloc (Nat.le_refl _) _).alloc (by simp) _
  generalize (w.alloc (.cells #[.int .i64 0, .int .u16 0] 29)).alloc (.cells #[.int .i64 0, .int .u16 (IntKind.u16.wrap x)] 29) = w1 at A0 B0 C0 ⊢
  rw [wrap16] at B0 ⊢
  go_loopw [8] (fun i wr => ∃ k : Nat, k ≤ 8 ∧ i = .int .i64 k ∧ Blk wr (w.heap.size + 1) #[.int .i64 (actK (x / 65536) k), .int .u16 (x % 65536)] 29 ∧ Blk wr w.heap.size #[.int .i64 0, .int .u16 0] 29 ∧ Below w.heap.size w wr) (fun i _ => 8 - (intOf i).toNat)
  case atStart => exact ⟨0, Nat.zero_le _, rfl, by rw [actK_zero]; exact B0, A0, C0⟩
  case round =>
    obtain ⟨k, hk, rfl, hB, hA, hC⟩ := hrel
    have HB := Lib.hid hB
    have HA := Lib.hid hA
    have HC := Lib.hid hC
    have ha0 := hA.cell 0
    have ha1 := hA.cell 1
    have fa0 := hA.frozen 0
    have fa1 := hA.frozen 1
    have hb0 := hB.cell 0
    have hb1 := hB.cell 1
    have fb0 := hB.frozen 0
    simp only [List.getElem?_toArray, List.getElem?_cons_zero, List.getElem?_cons_succ] at ha0 ha1 hb0 hb1
    clear hA hB hC
    by_cases hlt : k < 8
    · have hlt' : (k : Int) < 8 := by omega
      by_cases hq : hAt k = x / 65536
      · have hq2 : (x / 65536 == hAt k) = true := by simpa using hq.symm
        have HQ := Lib.hid hq
        clear hq
        go_wp2_with (go_at_call 15; refine (half_any k hlt _).mono ?_; rintro e w' ⟨rfl, rfl⟩)
        go_roundw
        case rel =>
          refine ⟨k + 1, by omega, by go_num, ?_, HA.out.far (by simp) _, HC.out.setCell (by simp) _⟩
          rw [actK_yes _ k hlt HQ.out]
          exact HB.out.set_ 0 _
        case measure => simp [intOf]; omega
      · have hq2 : (x / 65536 == hAt k) = false := by simpa using fun e => hq e.symm
        have HQ := Lib.hid hq
        clear hq
        go_wp2_with (go_at_call 15; refine (half_any k hlt _).mono ?_; rintro e w' ⟨rfl, rfl⟩)
        go_roundw
        case rel =>
          refine ⟨k + 1, by omega, by go_num, ?_, HA.out, HC.out⟩
          rw [actK_no _ k hlt HQ.out]
          exact HB.out
        case measure => simp [intOf]; omega
    · obtain rfl : k = 8 := by omega
      go_wp2_with (first
        | (refine wpList_load_row rfl 29 (.tmp 3) rfl (w.heap.size + 1) rfl 29 _ (0, 0) _ HB.out.blk Tryd.underlying29 rfl ver_info ?_)
        | (refine wpList_store_blk rfl 29 (.tmp 2) (.tmp 19) rfl w.heap.size _ _ 29 rfl rfl HA.out rfl ver_info (by simp [Value.oneCell']) ?_; intro w3 hw3 hn3))
      refine bodyPost_ret (results_cell_row rfl _ _ w.heap.size 29 _ (0, 0) _ rfl hw3.blk Tryd.underlying29 rfl ver_info) rfl ⟨by rw [actK_8], ?_⟩
      exact HC.out.trans (hn3.below _ (Nat.le_refl _) HC.out.size)
theorem field_0 (a b : Value) : ∀ w : World, (Instr.field 29 (.agg #[a, b]) 0).run Tryd.prog w = .ok a w := by intro w; kernel_rfl
set_option maxHeartbeats 1000000 in
theorem under_any (x y : Int) (h0 : 0 ≤ x) (h1 : x < 4294967296) (k0 : 0 ≤ y) (k1 : y < 4294967296) (w : World) (hK : Acts w) :
    Calls Tryd.prog 23 #[.int .u32 x, .int .u32 y] w fun e w' => e = .returned (.bool (decide (actI x < actI y))) ∧ Below w.heap.size w w' := by
  have hf := field_0
  go_enter Tryd.func23, Tryd.ntmps23
  go_wp2_with fail
  refine (split_any x h0 h1 _ hK).mono ?_
  rintro e w1 ⟨rfl, b1⟩
  go_wp2_with fail
  refine (split_any y k0 k1 _ (hK.below b1 hK.pos)).mono ?_
  rintro e w2 ⟨rfl, b2⟩
  go_wp2_with fail
  go_ret
  refine ⟨?_, b1.trans (b2.mono b1.size)⟩
  rfl
end Go.Proofs.YteogdmliimfkbaaDoor

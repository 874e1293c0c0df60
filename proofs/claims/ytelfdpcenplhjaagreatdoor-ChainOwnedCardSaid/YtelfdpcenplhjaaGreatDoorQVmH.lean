/-
  vm.Holds: what holds of two numbers.
-/
import Derived.Test.YtelfdpcenplhjaaGreatDoorQVmA
namespace Go.Proofs.YtelfdpcenplhjaaGreatDoor
open Go.RowKit
set_option linter.unusedVariables false
def hdI (op a b : Int) : Bool :=
  if opK op = 1 then a == b
  else if opK op = 2 then decide (b < a)
  else if opK op = 3 then decide (b ≤ a)
  else if opK op = 4 then bits .and .u32 a b != 0
  else false
theorem hcl_1 (p q : Nat) (a b : Int) (a0 : 0 ≤ a) (a1 : a ≤ 4294967295) (b0 : 0 ≤ b) (b1 : b ≤ 4294967295) (w : World) (x1 : w.cell? ⟨p, 0, none⟩ = some (.int .u32 a)) (x2 : w.cell? ⟨q, 0, none⟩ = some (.int .u32 b)) :
    Calls Tryz.prog 164 #[.pointer (some ⟨p, 0, none⟩), .pointer (some ⟨q, 0, none⟩)] w fun e w' => e = .returned (.bool (a == b)) ∧ w' = w := by
  go_enter Tryz.func164, Tryz.ntmps164
  go_wp2
  go_ret
  exact ⟨rfl, rfl⟩
theorem hcl_2 (p q : Nat) (a b : Int) (a0 : 0 ≤ a) (a1 : a ≤ 4294967295) (b0 : 0 ≤ b) (b1 : b ≤ 4294967295) (w : World) (x1 : w.cell? ⟨p, 0, none⟩ = some (.int .u32 a)) (x2 : w.cell? ⟨q, 0, none⟩ = some (.int .u32 b)) :
    Calls Tryz.prog 165 #[.pointer (some ⟨p, 0, none⟩), .pointer (some ⟨q, 0, none⟩)] w fun e w' => e = .returned (.bool (decide (b < a))) ∧ w' = w := by
  go_enter Tryz.func165, Tryz.ntmps165
  go_wp2
  go_ret
  exact ⟨rfl, rfl⟩
theorem hcl_3 (p q : Nat) (a b : Int) (a0 : 0 ≤ a) (a1 : a ≤ 4294967295) (b0 : 0 ≤ b) (b1 : b ≤ 4294967295) (w : World) (x1 : w.cell? ⟨p, 0, none⟩ = some (.int .u32 a)) (x2 : w.cell? ⟨q, 0, none⟩ = some (.int .u32 b)) :
    Calls Tryz.prog 166 #[.pointer (some ⟨p, 0, none⟩), .pointer (some ⟨q, 0, none⟩)] w fun e w' => e = .returned (.bool (decide (b ≤ a))) ∧ w' = w := by
  go_enter Tryz.func166, Tryz.ntmps166
  go_wp2
  go_ret
  exact ⟨rfl, rfl⟩
theorem hcl_4 (p q : Nat) (a b : Int) (a0 : 0 ≤ a) (a1 : a ≤ 4294967295) (b0 : 0 ≤ b) (b1 : b ≤ 4294967295) (w : World) (x1 : w.cell? ⟨p, 0, none⟩ = some (.int .u32 a)) (x2 : w.cell? ⟨q, 0, none⟩ = some (.int .u32 b)) :
    Calls Tryz.prog 167 #[.pointer (some ⟨p, 0, none⟩), .pointer (some ⟨q, 0, none⟩)] w fun e w' => e = .returned (.bool (bits .and .u32 a b != 0)) ∧ w' = w := by
  go_enter Tryz.func167, Tryz.ntmps167
  go_wp2
  go_ret
  exact ⟨rfl, rfl⟩
theorem run_neq_fn (fn : Fn) (a c : Array Value) (w : World) : (binOp .neq 26 (.func fn a c) .nilFunc).run Tryz.prog w = .ok (.bool true) w := by kernel_rfl
theorem run_neq_nf (w : World) : (binOp .neq 26 .nilFunc .nilFunc).run Tryz.prog w = .ok (.bool false) w := by kernel_rfl
attribute [local go_sem] run_neq_fn run_neq_nf
theorem hns_info : (Tryz.prog.info? 217).map (·.size) = some 16 := by kernel_rfl
def hdC (p q : Nat) : Array Value :=
  let f (n : Nat) : Value := .func (.func n) #[] #[.pointer (some ⟨p, 0, none⟩), .pointer (some ⟨q, 0, none⟩)]
  #[.nilFunc, f 164, f 165, f 166, f 167, .nilFunc, .nilFunc, .nilFunc, .nilFunc, .nilFunc, .nilFunc, .nilFunc, .nilFunc, .nilFunc, .nilFunc, .nilFunc]
theorem hd_one (p q : Nat) : (hdC p q).all (·.oneCell') = true := by simp [hdC, Value.oneCell']
set_option maxRecDepth 100000 in
set_option maxHeartbeats 1000000 in
theorem hd_0 (op a b : Int) (h0 : 0 ≤ op) (h1 : op ≤ 65535) (ha : U32 a) (hb : U32 b) (hk : opK op = 0) (w : World) :
    Calls Tryz.prog 156 #[.int .u16 op, .int .u32 a, .int .u32 b] w fun e w' => e = .returned (.bool (false)) ∧ Below w.heap.size w w' := by
  have P := part_any op h0 h1
  rw [hk] at P
  obtain ⟨a0, a1⟩ := ha
  obtain ⟨b0, b1⟩ := hb
  clear hk
  go_enter Tryz.func156, Tryz.ntmps156
  go_wp2_with (refine wpList_store_blk rfl 217 (.tmp 7) (.tmp 13) rfl (w.heap.size + 1 + 1) _ (hdC w.heap.size (w.heap.size + 1)) 217 rfl rfl (Blk.new_ _ _ _ (by simp)) rfl hns_info (hd_one _ _) ?_; intro w3 hw3 hn3)
  obtain ⟨x1, x2, B3⟩ := wp_fns hn3
  clear hn3
  have c0 := (hw3.cell 0).trans (show _ = some (Value.nilFunc) from rfl)
  clear hw3
  refine (P _).mono ?_
  rintro e w4 ⟨rfl, hw4⟩
  subst w4
  go_wp2_with fail
  go_ret
  exact ⟨rfl, B3⟩
set_option maxRecDepth 100000 in
set_option maxHeartbeats 1000000 in
theorem hd_1 (op a b : Int) (h0 : 0 ≤ op) (h1 : op ≤ 65535) (ha : U32 a) (hb : U32 b) (hk : opK op = 1) (w : World) :
    Calls Tryz.prog 156 #[.int .u16 op, .int .u32 a, .int .u32 b] w fun e w' => e = .returned (.bool (a == b)) ∧ Below w.heap.size w w' := by
  have P := part_any op h0 h1
  rw [hk] at P
  obtain ⟨a0, a1⟩ := ha
  obtain ⟨b0, b1⟩ := hb
  clear hk
  have C := fun (V : World) x1 x2 => hcl_1 w.heap.size (w.heap.size + 1) a b a0 a1 b0 b1 V x1 x2
  obtain ⟨r, hr⟩ : ∃ r : Bool, (a == b) = r := ⟨_, rfl⟩
  rw [hr] at C ⊢
  clear hr
  go_enter Tryz.func156, Tryz.ntmps156
  go_wp2_with (refine wpList_store_blk rfl 217 (.tmp 7) (.tmp 13) rfl (w.heap.size + 1 + 1) _ (hdC w.heap.size (w.heap.size + 1)) 217 rfl rfl (Blk.new_ _ _ _ (by simp)) rfl hns_info (hd_one _ _) ?_; intro w3 hw3 hn3)
  obtain ⟨x1, x2, B3⟩ := wp_fns hn3
  clear hn3
  have c0 := (hw3.cell 1).trans (show _ = some (Value.func (.func 164) #[] #[.pointer (some ⟨w.heap.size, 0, none⟩), .pointer (some ⟨w.heap.size + 1, 0, none⟩)]) from rfl)
  clear hw3
  have C := C w3 x1 x2
  refine (P _).mono ?_
  rintro e w4 ⟨rfl, hw4⟩
  subst w4
  go_wp2_with fail
  refine C.mono ?_
  rintro e w4 ⟨rfl, hw4⟩
  subst w4
  go_wp2_with fail
  go_ret
  exact ⟨rfl, B3⟩
set_option maxRecDepth 100000 in
set_option maxHeartbeats 1000000 in
theorem hd_2 (op a b : Int) (h0 : 0 ≤ op) (h1 : op ≤ 65535) (ha : U32 a) (hb : U32 b) (hk : opK op = 2) (w : World) :
    Calls Tryz.prog 156 #[.int .u16 op, .int .u32 a, .int .u32 b] w fun e w' => e = .returned (.bool (decide (b < a))) ∧ Below w.heap.size w w' := by
  have P := part_any op h0 h1
  rw [hk] at P
  obtain ⟨a0, a1⟩ := ha
  obtain ⟨b0, b1⟩ := hb
  clear hk
  have C := fun (V : World) x1 x2 => hcl_2 w.heap.size (w.heap.size + 1) a b a0 a1 b0 b1 V x1 x2
  obtain ⟨r, hr⟩ : ∃ r : Bool, (decide (b < a)) = r := ⟨_, rfl⟩
  rw [hr] at C ⊢
  clear hr
  go_enter Tryz.func156, Tryz.ntmps156
  go_wp2_with (refine wpList_store_blk rfl 217 (.tmp 7) (.tmp 13) rfl (w.heap.size + 1 + 1) _ (hdC w.heap.size (w.heap.size + 1)) 217 rfl rfl (Blk.new_ _ _ _ (by simp)) rfl hns_info (hd_one _ _) ?_; intro w3 hw3 hn3)
  obtain ⟨x1, x2, B3⟩ := wp_fns hn3
  clear hn3
  have c0 := (hw3.cell 2).trans (show _ = some (Value.func (.func 165) #[] #[.pointer (some ⟨w.heap.size, 0, none⟩), .pointer (some ⟨w.heap.size + 1, 0, none⟩)]) from rfl)
  clear hw3
  have C := C w3 x1 x2
  refine (P _).mono ?_
  rintro e w4 ⟨rfl, hw4⟩
  subst w4
  go_wp2_with fail
  refine C.mono ?_
  rintro e w4 ⟨rfl, hw4⟩
  subst w4
  go_wp2_with fail
  go_ret
  exact ⟨rfl, B3⟩
set_option maxRecDepth 100000 in
set_option maxHeartbeats 1000000 in
theorem hd_3 (op a b : Int) (h0 : 0 ≤ op) (h1 : op ≤ 65535) (ha : U32 a) (hb : U32 b) (hk : opK op = 3) (w : World) :
    Calls Tryz.prog 156 #[.int .u16 op, .int .u32 a, .int .u32 b] w fun e w' => e = .returned (.bool (decide (b ≤ a))) ∧ Below w.heap.size w w' := by
  have P := part_any op h0 h1
  rw [hk] at P
  obtain ⟨a0, a1⟩ := ha
  obtain ⟨b0, b1⟩ := hb
  clear hk
  have C := fun (V : World) x1 x2 => hcl_3 w.heap.size (w.heap.size + 1) a b a0 a1 b0 b1 V x1 x2
  obtain ⟨r, hr⟩ : ∃ r : Bool, (decide (b ≤ a)) = r := ⟨_, rfl⟩
  rw [hr] at C ⊢
  clear hr
  go_enter Tryz.func156, Tryz.ntmps156
  go_wp2_with (refine wpList_store_blk rfl 217 (.tmp 7) (.tmp 13) rfl (w.heap.size + 1 + 1) _ (hdC w.heap.size (w.heap.size + 1)) 217 rfl rfl (Blk.new_ _ _ _ (by simp)) rfl hns_info (hd_one _ _) ?_; intro w3 hw3 hn3)
  obtain ⟨x1, x2, B3⟩ := wp_fns hn3
  clear hn3
  have c0 := (hw3.cell 3).trans (show _ = some (Value.func (.func 166) #[] #[.pointer (some ⟨w.heap.size, 0, none⟩), .pointer (some ⟨w.heap.size + 1, 0, none⟩)]) from rfl)
  clear hw3
  have C := C w3 x1 x2
  refine (P _).mono ?_
  rintro e w4 ⟨rfl, hw4⟩
  subst w4
  go_wp2_with fail
  refine C.mono ?_
  rintro e w4 ⟨rfl, hw4⟩
  subst w4
  go_wp2_with fail
  go_ret
  exact ⟨rfl, B3⟩
set_option maxRecDepth 100000 in
set_option maxHeartbeats 1000000 in
theorem hd_4 (op a b : Int) (h0 : 0 ≤ op) (h1 : op ≤ 65535) (ha : U32 a) (hb : U32 b) (hk : opK op = 4) (w : World) :
    Calls Tryz.prog 156 #[.int .u16 op, .int .u32 a, .int .u32 b] w fun e w' => e = .returned (.bool (bits .and .u32 a b != 0)) ∧ Below w.heap.size w w' := by
  have P := part_any op h0 h1
  rw [hk] at P
  obtain ⟨a0, a1⟩ := ha
  obtain ⟨b0, b1⟩ := hb
  clear hk
  have C := fun (V : World) x1 x2 => hcl_4 w.heap.size (w.heap.size + 1) a b a0 a1 b0 b1 V x1 x2
  obtain ⟨r, hr⟩ : ∃ r : Bool, (bits .and .u32 a b != 0) = r := ⟨_, rfl⟩
  rw [hr] at C ⊢
  clear hr
  go_enter Tryz.func156, Tryz.ntmps156
  go_wp2_with (refine wpList_store_blk rfl 217 (.tmp 7) (.tmp 13) rfl (w.heap.size + 1 + 1) _ (hdC w.heap.size (w.heap.size + 1)) 217 rfl rfl (Blk.new_ _ _ _ (by simp)) rfl hns_info (hd_one _ _) ?_; intro w3 hw3 hn3)
  obtain ⟨x1, x2, B3⟩ := wp_fns hn3
  clear hn3
  have c0 := (hw3.cell 4).trans (show _ = some (Value.func (.func 167) #[] #[.pointer (some ⟨w.heap.size, 0, none⟩), .pointer (some ⟨w.heap.size + 1, 0, none⟩)]) from rfl)
  clear hw3
  have C := C w3 x1 x2
  refine (P _).mono ?_
  rintro e w4 ⟨rfl, hw4⟩
  subst w4
  go_wp2_with fail
  refine C.mono ?_
  rintro e w4 ⟨rfl, hw4⟩
  subst w4
  go_wp2_with fail
  go_ret
  exact ⟨rfl, B3⟩
set_option maxRecDepth 100000 in
set_option maxHeartbeats 1000000 in
theorem hd_5 (op a b : Int) (h0 : 0 ≤ op) (h1 : op ≤ 65535) (ha : U32 a) (hb : U32 b) (hk : opK op = 5) (w : World) :
    Calls Tryz.prog 156 #[.int .u16 op, .int .u32 a, .int .u32 b] w fun e w' => e = .returned (.bool (false)) ∧ Below w.heap.size w w' := by
  have P := part_any op h0 h1
  rw [hk] at P
  obtain ⟨a0, a1⟩ := ha
  obtain ⟨b0, b1⟩ := hb
  clear hk
  go_enter Tryz.func156, Tryz.ntmps156
  go_wp2_with (refine wpList_store_blk rfl 217 (.tmp 7) (.tmp 13) rfl (w.heap.size + 1 + 1) _ (hdC w.heap.size (w.heap.size + 1)) 217 rfl rfl (Blk.new_ _ _ _ (by simp)) rfl hns_info (hd_one _ _) ?_; intro w3 hw3 hn3)
  obtain ⟨x1, x2, B3⟩ := wp_fns hn3
  clear hn3
  have c0 := (hw3.cell 5).trans (show _ = some (Value.nilFunc) from rfl)
  clear hw3
  refine (P _).mono ?_
  rintro e w4 ⟨rfl, hw4⟩
  subst w4
  go_wp2_with fail
  go_ret
  exact ⟨rfl, B3⟩
set_option maxRecDepth 100000 in
set_option maxHeartbeats 1000000 in
theorem hd_6 (op a b : Int) (h0 : 0 ≤ op) (h1 : op ≤ 65535) (ha : U32 a) (hb : U32 b) (hk : opK op = 6) (w : World) :
    Calls Tryz.prog 156 #[.int .u16 op, .int .u32 a, .int .u32 b] w fun e w' => e = .returned (.bool (false)) ∧ Below w.heap.size w w' := by
  have P := part_any op h0 h1
  rw [hk] at P
  obtain ⟨a0, a1⟩ := ha
  obtain ⟨b0, b1⟩ := hb
  clear hk
  go_enter Tryz.func156, Tryz.ntmps156
  go_wp2_with (refine wpList_store_blk rfl 217 (.tmp 7) (.tmp 13) rfl (w.heap.size + 1 + 1) _ (hdC w.heap.size (w.heap.size + 1)) 217 rfl rfl (Blk.new_ _ _ _ (by simp)) rfl hns_info (hd_one _ _) ?_; intro w3 hw3 hn3)
  obtain ⟨x1, x2, B3⟩ := wp_fns hn3
  clear hn3
  have c0 := (hw3.cell 6).trans (show _ = some (Value.nilFunc) from rfl)
  clear hw3
  refine (P _).mono ?_
  rintro e w4 ⟨rfl, hw4⟩
  subst w4
  go_wp2_with fail
  go_ret
  exact ⟨rfl, B3⟩
set_option maxRecDepth 100000 in
set_option maxHeartbeats 1000000 in
theorem hd_7 (op a b : Int) (h0 : 0 ≤ op) (h1 : op ≤ 65535) (ha : U32 a) (hb : U32 b) (hk : opK op = 7) (w : World) :
    Calls Tryz.prog 156 #[.int .u16 op, .int .u32 a, .int .u32 b] w fun e w' => e = .returned (.bool (false)) ∧ Below w.heap.size w w' := by
  have P := part_any op h0 h1
  rw [hk] at P
  obtain ⟨a0, a1⟩ := ha
  obtain ⟨b0, b1⟩ := hb
  clear hk
  go_enter Tryz.func156, Tryz.ntmps156
  go_wp2_with (refine wpList_store_blk rfl 217 (.tmp 7) (.tmp 13) rfl (w.heap.size + 1 + 1) _ (hdC w.heap.size (w.heap.size + 1)) 217 rfl rfl (Blk.new_ _ _ _ (by simp)) rfl hns_info (hd_one _ _) ?_; intro w3 hw3 hn3)
  obtain ⟨x1, x2, B3⟩ := wp_fns hn3
  clear hn3
  have c0 := (hw3.cell 7).trans (show _ = some (Value.nilFunc) from rfl)
  clear hw3
  refine (P _).mono ?_
  rintro e w4 ⟨rfl, hw4⟩
  subst w4
  go_wp2_with fail
  go_ret
  exact ⟨rfl, B3⟩
set_option maxRecDepth 100000 in
set_option maxHeartbeats 1000000 in
theorem hd_8 (op a b : Int) (h0 : 0 ≤ op) (h1 : op ≤ 65535) (ha : U32 a) (hb : U32 b) (hk : opK op = 8) (w : World) :
    Calls Tryz.prog 156 #[.int .u16 op, .int .u32 a, .int .u32 b] w fun e w' => e = .returned (.bool (false)) ∧ Below w.heap.size w w' := by
  have P := part_any op h0 h1
  rw [hk] at P
  obtain ⟨a0, a1⟩ := ha
  obtain ⟨b0, b1⟩ := hb
  clear hk
  go_enter Tryz.func156, Tryz.ntmps156
  go_wp2_with (refine wpList_store_blk rfl 217 (.tmp 7) (.tmp 13) rfl (w.heap.size + 1 + 1) _ (hdC w.heap.size (w.heap.size + 1)) 217 rfl rfl (Blk.new_ _ _ _ (by simp)) rfl hns_info (hd_one _ _) ?_; intro w3 hw3 hn3)
  obtain ⟨x1, x2, B3⟩ := wp_fns hn3
  clear hn3
  have c0 := (hw3.cell 8).trans (show _ = some (Value.nilFunc) from rfl)
  clear hw3
  refine (P _).mono ?_
  rintro e w4 ⟨rfl, hw4⟩
  subst w4
  go_wp2_with fail
  go_ret
  exact ⟨rfl, B3⟩
set_option maxRecDepth 100000 in
set_option maxHeartbeats 1000000 in
theorem hd_9 (op a b : Int) (h0 : 0 ≤ op) (h1 : op ≤ 65535) (ha : U32 a) (hb : U32 b) (hk : opK op = 9) (w : World) :
    Calls Tryz.prog 156 #[.int .u16 op, .int .u32 a, .int .u32 b] w fun e w' => e = .returned (.bool (false)) ∧ Below w.heap.size w w' := by
  have P := part_any op h0 h1
  rw [hk] at P
  obtain ⟨a0, a1⟩ := ha
  obtain ⟨b0, b1⟩ := hb
  clear hk
  go_enter Tryz.func156, Tryz.ntmps156
  go_wp2_with (refine wpList_store_blk rfl 217 (.tmp 7) (.tmp 13) rfl (w.heap.size + 1 + 1) _ (hdC w.heap.size (w.heap.size + 1)) 217 rfl rfl (Blk.new_ _ _ _ (by simp)) rfl hns_info (hd_one _ _) ?_; intro w3 hw3 hn3)
  obtain ⟨x1, x2, B3⟩ := wp_fns hn3
  clear hn3
  have c0 := (hw3.cell 9).trans (show _ = some (Value.nilFunc) from rfl)
  clear hw3
  refine (P _).mono ?_
  rintro e w4 ⟨rfl, hw4⟩
  subst w4
  go_wp2_with fail
  go_ret
  exact ⟨rfl, B3⟩
set_option maxRecDepth 100000 in
set_option maxHeartbeats 1000000 in
theorem hd_10 (op a b : Int) (h0 : 0 ≤ op) (h1 : op ≤ 65535) (ha : U32 a) (hb : U32 b) (hk : opK op = 10) (w : World) :
    Calls Tryz.prog 156 #[.int .u16 op, .int .u32 a, .int .u32 b] w fun e w' => e = .returned (.bool (false)) ∧ Below w.heap.size w w' := by
  have P := part_any op h0 h1
  rw [hk] at P
  obtain ⟨a0, a1⟩ := ha
  obtain ⟨b0, b1⟩ := hb
  clear hk
  go_enter Tryz.func156, Tryz.ntmps156
  go_wp2_with (refine wpList_store_blk rfl 217 (.tmp 7) (.tmp 13) rfl (w.heap.size + 1 + 1) _ (hdC w.heap.size (w.heap.size + 1)) 217 rfl rfl (Blk.new_ _ _ _ (by simp)) rfl hns_info (hd_one _ _) ?_; intro w3 hw3 hn3)
  obtain ⟨x1, x2, B3⟩ := wp_fns hn3
  clear hn3
  have c0 := (hw3.cell 10).trans (show _ = some (Value.nilFunc) from rfl)
  clear hw3
  refine (P _).mono ?_
  rintro e w4 ⟨rfl, hw4⟩
  subst w4
  go_wp2_with fail
  go_ret
  exact ⟨rfl, B3⟩
set_option maxRecDepth 100000 in
set_option maxHeartbeats 1000000 in
theorem hd_11 (op a b : Int) (h0 : 0 ≤ op) (h1 : op ≤ 65535) (ha : U32 a) (hb : U32 b) (hk : opK op = 11) (w : World) :
    Calls Tryz.prog 156 #[.int .u16 op, .int .u32 a, .int .u32 b] w fun e w' => e = .returned (.bool (false)) ∧ Below w.heap.size w w' := by
  have P := part_any op h0 h1
  rw [hk] at P
  obtain ⟨a0, a1⟩ := ha
  obtain ⟨b0, b1⟩ := hb
  clear hk
  go_enter Tryz.func156, Tryz.ntmps156
  go_wp2_with (refine wpList_store_blk rfl 217 (.tmp 7) (.tmp 13) rfl (w.heap.size + 1 + 1) _ (hdC w.heap.size (w.heap.size + 1)) 217 rfl rfl (Blk.new_ _ _ _ (by simp)) rfl hns_info (hd_one _ _) ?_; intro w3 hw3 hn3)
  obtain ⟨x1, x2, B3⟩ := wp_fns hn3
  clear hn3
  have c0 := (hw3.cell 11).trans (show _ = some (Value.nilFunc) from rfl)
  clear hw3
  refine (P _).mono ?_
  rintro e w4 ⟨rfl, hw4⟩
  subst w4
  go_wp2_with fail
  go_ret
  exact ⟨rfl, B3⟩
set_option maxRecDepth 100000 in
set_option maxHeartbeats 1000000 in
theorem hd_12 (op a b : Int) (h0 : 0 ≤ op) (h1 : op ≤ 65535) (ha : U32 a) (hb : U32 b) (hk : opK op = 12) (w : World) :
    Calls Tryz.prog 156 #[.int .u16 op, .int .u32 a, .int .u32 b] w fun e w' => e = .returned (.bool (false)) ∧ Below w.heap.size w w' := by
  have P := part_any op h0 h1
  rw [hk] at P
  obtain ⟨a0, a1⟩ := ha
  obtain ⟨b0, b1⟩ := hb
  clear hk
  go_enter Tryz.func156, Tryz.ntmps156
  go_wp2_with (refine wpList_store_blk rfl 217 (.tmp 7) (.tmp 13) rfl (w.heap.size + 1 + 1) _ (hdC w.heap.size (w.heap.size + 1)) 217 rfl rfl (Blk.new_ _ _ _ (by simp)) rfl hns_info (hd_one _ _) ?_; intro w3 hw3 hn3)
  obtain ⟨x1, x2, B3⟩ := wp_fns hn3
  clear hn3
  have c0 := (hw3.cell 12).trans (show _ = some (Value.nilFunc) from rfl)
  clear hw3
  refine (P _).mono ?_
  rintro e w4 ⟨rfl, hw4⟩
  subst w4
  go_wp2_with fail
  go_ret
  exact ⟨rfl, B3⟩
set_option maxRecDepth 100000 in
set_option maxHeartbeats 1000000 in
theorem hd_13 (op a b : Int) (h0 : 0 ≤ op) (h1 : op ≤ 65535) (ha : U32 a) (hb : U32 b) (hk : opK op = 13) (w : World) :
    Calls Tryz.prog 156 #[.int .u16 op, .int .u32 a, .int .u32 b] w fun e w' => e = .returned (.bool (false)) ∧ Below w.heap.size w w' := by
  have P := part_any op h0 h1
  rw [hk] at P
  obtain ⟨a0, a1⟩ := ha
  obtain ⟨b0, b1⟩ := hb
  clear hk
  go_enter Tryz.func156, Tryz.ntmps156
  go_wp2_with (refine wpList_store_blk rfl 217 (.tmp 7) (.tmp 13) rfl (w.heap.size + 1 + 1) _ (hdC w.heap.size (w.heap.size + 1)) 217 rfl rfl (Blk.new_ _ _ _ (by simp)) rfl hns_info (hd_one _ _) ?_; intro w3 hw3 hn3)
  obtain ⟨x1, x2, B3⟩ := wp_fns hn3
  clear hn3
  have c0 := (hw3.cell 13).trans (show _ = some (Value.nilFunc) from rfl)
  clear hw3
  refine (P _).mono ?_
  rintro e w4 ⟨rfl, hw4⟩
  subst w4
  go_wp2_with fail
  go_ret
  exact ⟨rfl, B3⟩
set_option maxRecDepth 100000 in
set_option maxHeartbeats 1000000 in
theorem hd_14 (op a b : Int) (h0 : 0 ≤ op) (h1 : op ≤ 65535) (ha : U32 a) (hb : U32 b) (hk : opK op = 14) (w : World) :
    Calls Tryz.prog 156 #[.int .u16 op, .int .u32 a, .int .u32 b] w fun e w' => e = .returned (.bool (false)) ∧ Below w.heap.size w w' := by
  have P := part_any op h0 h1
  rw [hk] at P
  obtain ⟨a0, a1⟩ := ha
  obtain ⟨b0, b1⟩ := hb
  clear hk
  go_enter Tryz.func156, Tryz.ntmps156
  go_wp2_with (refine wpList_store_blk rfl 217 (.tmp 7) (.tmp 13) rfl (w.heap.size + 1 + 1) _ (hdC w.heap.size (w.heap.size + 1)) 217 rfl rfl (Blk.new_ _ _ _ (by simp)) rfl hns_info (hd_one _ _) ?_; intro w3 hw3 hn3)
  obtain ⟨x1, x2, B3⟩ := wp_fns hn3
  clear hn3
  have c0 := (hw3.cell 14).trans (show _ = some (Value.nilFunc) from rfl)
  clear hw3
  refine (P _).mono ?_
  rintro e w4 ⟨rfl, hw4⟩
  subst w4
  go_wp2_with fail
  go_ret
  exact ⟨rfl, B3⟩
set_option maxRecDepth 100000 in
set_option maxHeartbeats 1000000 in
theorem hd_15 (op a b : Int) (h0 : 0 ≤ op) (h1 : op ≤ 65535) (ha : U32 a) (hb : U32 b) (hk : opK op = 15) (w : World) :
    Calls Tryz.prog 156 #[.int .u16 op, .int .u32 a, .int .u32 b] w fun e w' => e = .returned (.bool (false)) ∧ Below w.heap.size w w' := by
  have P := part_any op h0 h1
  rw [hk] at P
  obtain ⟨a0, a1⟩ := ha
  obtain ⟨b0, b1⟩ := hb
  clear hk
  go_enter Tryz.func156, Tryz.ntmps156
  go_wp2_with (refine wpList_store_blk rfl 217 (.tmp 7) (.tmp 13) rfl (w.heap.size + 1 + 1) _ (hdC w.heap.size (w.heap.size + 1)) 217 rfl rfl (Blk.new_ _ _ _ (by simp)) rfl hns_info (hd_one _ _) ?_; intro w3 hw3 hn3)
  obtain ⟨x1, x2, B3⟩ := wp_fns hn3
  clear hn3
  have c0 := (hw3.cell 15).trans (show _ = some (Value.nilFunc) from rfl)
  clear hw3
  refine (P _).mono ?_
  rintro e w4 ⟨rfl, hw4⟩
  subst w4
  go_wp2_with fail
  go_ret
  exact ⟨rfl, B3⟩
theorem hd_any (op a b : Int) (h0 : 0 ≤ op) (h1 : op ≤ 65535) (ha : U32 a) (hb : U32 b) (w : World) :
    Calls Tryz.prog 156 #[.int .u16 op, .int .u32 a, .int .u32 b] w fun e w' => e = .returned (.bool (hdI op a b)) ∧ Below w.heap.size w w' := by
  have hr : 0 ≤ opK op ∧ opK op < 16 := by unfold opK; omega
  obtain ⟨k, hk⟩ : ∃ k, opK op = k := ⟨_, rfl⟩
  rw [hk] at hr
  have hc : k = 0 ∨ k = 1 ∨ k = 2 ∨ k = 3 ∨ k = 4 ∨ k = 5 ∨ k = 6 ∨ k = 7 ∨ k = 8 ∨ k = 9 ∨ k = 10 ∨ k = 11 ∨ k = 12 ∨ k = 13 ∨ k = 14 ∨ k = 15 := by omega
  have e : ∀ x, hdI op a b = x → (Calls Tryz.prog 156 #[.int .u16 op, .int .u32 a, .int .u32 b] w fun e w' => e = .returned (.bool x) ∧ Below w.heap.size w w') → (Calls Tryz.prog 156 #[.int .u16 op, .int .u32 a, .int .u32 b] w fun e w' => e = .returned (.bool (hdI op a b)) ∧ Below w.heap.size w w') := fun x hx h => by rw [hx]; exact h
  rcases hc with rfl | rfl | rfl | rfl | rfl | rfl | rfl | rfl | rfl | rfl | rfl | rfl | rfl | rfl | rfl | rfl
  · exact e _ (by unfold hdI; rw [hk]; rfl) (hd_0 op a b h0 h1 ha hb hk w)
  · exact e _ (by unfold hdI; rw [hk]; rfl) (hd_1 op a b h0 h1 ha hb hk w)
  · exact e _ (by unfold hdI; rw [hk]; rfl) (hd_2 op a b h0 h1 ha hb hk w)
  · exact e _ (by unfold hdI; rw [hk]; rfl) (hd_3 op a b h0 h1 ha hb hk w)
  · exact e _ (by unfold hdI; rw [hk]; rfl) (hd_4 op a b h0 h1 ha hb hk w)
  · exact e _ (by unfold hdI; rw [hk]; rfl) (hd_5 op a b h0 h1 ha hb hk w)
  · exact e _ (by unfold hdI; rw [hk]; rfl) (hd_6 op a b h0 h1 ha hb hk w)
  · exact e _ (by unfold hdI; rw [hk]; rfl) (hd_7 op a b h0 h1 ha hb hk w)
  · exact e _ (by unfold hdI; rw [hk]; rfl) (hd_8 op a b h0 h1 ha hb hk w)
  · exact e _ (by unfold hdI; rw [hk]; rfl) (hd_9 op a b h0 h1 ha hb hk w)
  · exact e _ (by unfold hdI; rw [hk]; rfl) (hd_10 op a b h0 h1 ha hb hk w)
  · exact e _ (by unfold hdI; rw [hk]; rfl) (hd_11 op a b h0 h1 ha hb hk w)
  · exact e _ (by unfold hdI; rw [hk]; rfl) (hd_12 op a b h0 h1 ha hb hk w)
  · exact e _ (by unfold hdI; rw [hk]; rfl) (hd_13 op a b h0 h1 ha hb hk w)
  · exact e _ (by unfold hdI; rw [hk]; rfl) (hd_14 op a b h0 h1 ha hb hk w)
  · exact e _ (by unfold hdI; rw [hk]; rfl) (hd_15 op a b h0 h1 ha hb hk w)
theorem bits_7 (c : Int) (h0 : 0 ≤ c) (h1 : c ≤ 65535) : bits .and .u16 c 7 = c % 8 := by
  rw [u16_and c 7 h0 (by omega) (by omega) (by omega)]
  rw [show (7 : Int).toNat = 7 from rfl, nat_mask3]
  omega
end Go.Proofs.YtelfdpcenplhjaaGreatDoor

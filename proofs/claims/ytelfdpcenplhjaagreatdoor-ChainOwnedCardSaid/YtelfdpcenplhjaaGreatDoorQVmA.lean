/-
  vm.part, vm.Alu: what becomes of two numbers.
-/
import Derived.Test.YtelfdpcenplhjaaGreatDoorQHH
import Derived.Test.YtelfdpcenplhjaaGreatDoorQDatN
import Derived.Lib.Hide
namespace Go.Proofs.YtelfdpcenplhjaaGreatDoor
open Go.RowKit
set_option linter.unusedVariables false
def opK (op : Int) : Int := op / 16 % 16
def alI (op a b : Int) : Option Int :=
  if opK op = 0 then some (IntKind.u32.wrap (a + b))
  else if opK op = 1 then some (IntKind.u32.wrap (a - b))
  else if opK op = 2 then some (IntKind.u32.wrap (a * b))
  else if opK op = 3 then (if b = 0 then none else some (a / b))
  else if opK op = 4 then some (bits .or .u32 a b)
  else if opK op = 5 then some (bits .and .u32 a b)
  else if opK op = 6 then some (IntKind.u32.wrap (a * 2 ^ (min b.toNat 32)))
  else if opK op = 7 then some (a / 2 ^ (min b.toNat 32))
  else if opK op = 8 then some (IntKind.u32.wrap (-a))
  else if opK op = 10 then some (bits .xor .u32 a b)
  else none
set_option maxHeartbeats 400000 in
theorem part_any (op : Int) (h0 : 0 ≤ op) (h1 : op ≤ 65535) (w : World) :
    Calls Tryz.prog 155 #[.int .u16 op] w fun e w' => e = .returned (.int .u16 (opK op)) ∧ w' = w := by
  unfold opK
  go_enter Tryz.func155, Tryz.ntmps155
  go_wp2
  go_ret
  exact ⟨rfl, rfl⟩
theorem acl_1 (p q : Nat) (a b : Int) (a0 : 0 ≤ a) (a1 : a ≤ 4294967295) (b0 : 0 ≤ b) (b1 : b ≤ 4294967295) (w : World) (x1 : w.cell? ⟨p, 0, none⟩ = some (.int .u32 a)) (x2 : w.cell? ⟨q, 0, none⟩ = some (.int .u32 b)) :
    Calls Tryz.prog 145 #[.pointer (some ⟨p, 0, none⟩), .pointer (some ⟨q, 0, none⟩)] w fun e w' => e = .returned (.int .u32 (IntKind.u32.wrap (a + b))) ∧ w' = w := by
  go_enter Tryz.func145, Tryz.ntmps145
  go_wp2
  go_ret
  exact ⟨rfl, rfl⟩
theorem acl_2 (p q : Nat) (a b : Int) (a0 : 0 ≤ a) (a1 : a ≤ 4294967295) (b0 : 0 ≤ b) (b1 : b ≤ 4294967295) (w : World) (x1 : w.cell? ⟨p, 0, none⟩ = some (.int .u32 a)) (x2 : w.cell? ⟨q, 0, none⟩ = some (.int .u32 b)) :
    Calls Tryz.prog 146 #[.pointer (some ⟨p, 0, none⟩), .pointer (some ⟨q, 0, none⟩)] w fun e w' => e = .returned (.int .u32 (IntKind.u32.wrap (a - b))) ∧ w' = w := by
  go_enter Tryz.func146, Tryz.ntmps146
  go_wp2
  go_ret
  exact ⟨rfl, rfl⟩
theorem acl_3 (p q : Nat) (a b : Int) (a0 : 0 ≤ a) (a1 : a ≤ 4294967295) (b0 : 0 ≤ b) (b1 : b ≤ 4294967295) (w : World) (x1 : w.cell? ⟨p, 0, none⟩ = some (.int .u32 a)) (x2 : w.cell? ⟨q, 0, none⟩ = some (.int .u32 b)) :
    Calls Tryz.prog 147 #[.pointer (some ⟨p, 0, none⟩), .pointer (some ⟨q, 0, none⟩)] w fun e w' => e = .returned (.int .u32 (IntKind.u32.wrap (a * b))) ∧ w' = w := by
  go_enter Tryz.func147, Tryz.ntmps147
  go_wp2
  go_ret
  exact ⟨rfl, rfl⟩
theorem acl_4 (p q : Nat) (a b : Int) (a0 : 0 ≤ a) (a1 : a ≤ 4294967295) (b0 : 0 ≤ b) (b1 : b ≤ 4294967295) (hb0 : ¬ b = 0) (w : World) (x1 : w.cell? ⟨p, 0, none⟩ = some (.int .u32 a)) (x2 : w.cell? ⟨q, 0, none⟩ = some (.int .u32 b)) :
    Calls Tryz.prog 148 #[.pointer (some ⟨p, 0, none⟩), .pointer (some ⟨q, 0, none⟩)] w fun e w' => e = .returned (.int .u32 (a / b)) ∧ w' = w := by
  go_enter Tryz.func148, Tryz.ntmps148
  go_wp2
  go_ret
  exact ⟨rfl, rfl⟩
theorem acl_5 (p q : Nat) (a b : Int) (a0 : 0 ≤ a) (a1 : a ≤ 4294967295) (b0 : 0 ≤ b) (b1 : b ≤ 4294967295) (w : World) (x1 : w.cell? ⟨p, 0, none⟩ = some (.int .u32 a)) (x2 : w.cell? ⟨q, 0, none⟩ = some (.int .u32 b)) :
    Calls Tryz.prog 149 #[.pointer (some ⟨p, 0, none⟩), .pointer (some ⟨q, 0, none⟩)] w fun e w' => e = .returned (.int .u32 (bits .or .u32 a b)) ∧ w' = w := by
  go_enter Tryz.func149, Tryz.ntmps149
  go_wp2
  go_ret
  exact ⟨rfl, rfl⟩
theorem acl_6 (p q : Nat) (a b : Int) (a0 : 0 ≤ a) (a1 : a ≤ 4294967295) (b0 : 0 ≤ b) (b1 : b ≤ 4294967295) (w : World) (x1 : w.cell? ⟨p, 0, none⟩ = some (.int .u32 a)) (x2 : w.cell? ⟨q, 0, none⟩ = some (.int .u32 b)) :
    Calls Tryz.prog 150 #[.pointer (some ⟨p, 0, none⟩), .pointer (some ⟨q, 0, none⟩)] w fun e w' => e = .returned (.int .u32 (bits .and .u32 a b)) ∧ w' = w := by
  go_enter Tryz.func150, Tryz.ntmps150
  go_wp2
  go_ret
  exact ⟨rfl, rfl⟩
theorem acl_7 (p q : Nat) (a b : Int) (a0 : 0 ≤ a) (a1 : a ≤ 4294967295) (b0 : 0 ≤ b) (b1 : b ≤ 4294967295) (w : World) (x1 : w.cell? ⟨p, 0, none⟩ = some (.int .u32 a)) (x2 : w.cell? ⟨q, 0, none⟩ = some (.int .u32 b)) :
    Calls Tryz.prog 151 #[.pointer (some ⟨p, 0, none⟩), .pointer (some ⟨q, 0, none⟩)] w fun e w' => e = .returned (.int .u32 (IntKind.u32.wrap (a * 2 ^ (min b.toNat 32)))) ∧ w' = w := by
  go_enter Tryz.func151, Tryz.ntmps151
  go_wp2
  go_ret
  exact ⟨rfl, rfl⟩
theorem acl_8 (p q : Nat) (a b : Int) (a0 : 0 ≤ a) (a1 : a ≤ 4294967295) (b0 : 0 ≤ b) (b1 : b ≤ 4294967295) (w : World) (x1 : w.cell? ⟨p, 0, none⟩ = some (.int .u32 a)) (x2 : w.cell? ⟨q, 0, none⟩ = some (.int .u32 b)) :
    Calls Tryz.prog 152 #[.pointer (some ⟨p, 0, none⟩), .pointer (some ⟨q, 0, none⟩)] w fun e w' => e = .returned (.int .u32 (a / 2 ^ (min b.toNat 32))) ∧ w' = w := by
  go_enter Tryz.func152, Tryz.ntmps152
  go_wp2
  go_ret
  exact ⟨rfl, rfl⟩
theorem acl_9 (p q : Nat) (a b : Int) (a0 : 0 ≤ a) (a1 : a ≤ 4294967295) (b0 : 0 ≤ b) (b1 : b ≤ 4294967295) (w : World) (x1 : w.cell? ⟨p, 0, none⟩ = some (.int .u32 a)) (x2 : w.cell? ⟨q, 0, none⟩ = some (.int .u32 b)) :
    Calls Tryz.prog 153 #[.pointer (some ⟨p, 0, none⟩)] w fun e w' => e = .returned (.int .u32 (IntKind.u32.wrap (-a))) ∧ w' = w := by
  go_enter Tryz.func153, Tryz.ntmps153
  go_wp2
  go_ret
  exact ⟨rfl, rfl⟩
theorem acl_10 (p q : Nat) (a b : Int) (a0 : 0 ≤ a) (a1 : a ≤ 4294967295) (b0 : 0 ≤ b) (b1 : b ≤ 4294967295) (w : World) (x1 : w.cell? ⟨p, 0, none⟩ = some (.int .u32 a)) (x2 : w.cell? ⟨q, 0, none⟩ = some (.int .u32 b)) :
    Calls Tryz.prog 154 #[.pointer (some ⟨p, 0, none⟩), .pointer (some ⟨q, 0, none⟩)] w fun e w' => e = .returned (.int .u32 (bits .xor .u32 a b)) ∧ w' = w := by
  go_enter Tryz.func154, Tryz.ntmps154
  go_wp2
  go_ret
  exact ⟨rfl, rfl⟩
theorem But.blk' {w w' : World} {g g' : Nat} {cs : Array Value} {t : TypeId} (h : But g w w') (k : Blk w g' cs t) (hn : g' ≠ g) : Blk w' g' cs t := ⟨(h.block g' k.lt hn).trans k.blk⟩
theorem run_eql_fn (fn : Fn) (a c : Array Value) (w : World) : (binOp .eql 210 (.func fn a c) .nilFunc).run Tryz.prog w = .ok (.bool false) w := by kernel_rfl
theorem run_eql_nf (w : World) : (binOp .eql 210 .nilFunc .nilFunc).run Tryz.prog w = .ok (.bool true) w := by kernel_rfl
attribute [local go_sem] run_eql_fn run_eql_nf
theorem fns_info : (Tryz.prog.info? 211).map (·.size) = some 16 := by kernel_rfl
def aluC (p q : Nat) : Array Value :=
  let f (n : Nat) : Value := .func (.func n) #[] #[.pointer (some ⟨p, 0, none⟩), .pointer (some ⟨q, 0, none⟩)]
  #[f 145, f 146, f 147, f 148, f 149, f 150, f 151, f 152, .func (.func 153) #[] #[.pointer (some ⟨p, 0, none⟩)], .nilFunc, f 154, .nilFunc, .nilFunc, .nilFunc, .nilFunc, .nilFunc]
theorem alu_one (p q : Nat) : (aluC p q).all (·.oneCell') = true := by simp [aluC, Value.oneCell']
theorem wp_fns {w w3 : World} {a b : Int} {fs : Array Value} {t : TypeId} (h : But (w.heap.size + 1 + 1) (((w.alloc (.cells #[.int .u32 a] 61)).alloc (.cells #[.int .u32 b] 61)).alloc (.cells fs t)) w3) :
    w3.cell? ⟨w.heap.size, 0, none⟩ = some (.int .u32 a) ∧ w3.cell? ⟨w.heap.size + 1, 0, none⟩ = some (.int .u32 b) ∧ Below w.heap.size w w3 :=
  ⟨(But.blk' h (((Blk.new w #[.int .u32 a] 61).alloc _).alloc _) (by omega)).cell 0, (But.blk' h ((Blk.new_ _ #[.int .u32 b] 61 (by simp)).alloc _) (by omega)).cell 0,
    ((((Below.refl _ w).alloc (Nat.le_refl _) _).alloc (by simp) _).alloc (by simp; omega) _).trans (h.below w.heap.size (by omega) (by simp; omega))⟩
set_option maxRecDepth 100000 in
set_option maxHeartbeats 1000000 in
theorem alu_0 (op a b : Int) (h0 : 0 ≤ op) (h1 : op ≤ 65535) (ha : U32 a) (hb : U32 b) (hk : opK op = 0) (w : World) :
    Calls Tryz.prog 132 #[.int .u16 op, .int .u32 a, .int .u32 b] w fun e w' => e = .returned (.tuple #[.int .u32 (IntKind.u32.wrap (a + b)), .bool true]) ∧ Below w.heap.size w w' := by
  have P := part_any op h0 h1
  rw [hk] at P
  obtain ⟨a0, a1⟩ := ha
  obtain ⟨b0, b1⟩ := hb
  clear hk
  go_enter Tryz.func132, Tryz.ntmps132
  go_wp2_with (refine wpList_store_blk rfl 211 (.tmp 8) (.tmp 20) rfl (w.heap.size + 1 + 1) _ (aluC w.heap.size (w.heap.size + 1)) 211 rfl rfl (Blk.new_ _ _ _ (by simp)) rfl fns_info (alu_one _ _) ?_; intro w3 hw3 hn3)
  obtain ⟨x1, x2, B3⟩ := wp_fns hn3
  clear hn3
  have c0 := (hw3.cell 0).trans (show _ = some (Value.func (.func 145) #[] #[.pointer (some ⟨w.heap.size, 0, none⟩), .pointer (some ⟨w.heap.size + 1, 0, none⟩)]) from rfl)
  clear hw3
  have C := acl_1 w.heap.size (w.heap.size + 1) a b a0 a1 b0 b1 w3 x1 x2
  refine (P _).mono ?_
  rintro e w4 ⟨rfl, hw4⟩
  subst w4
  go_wp2_with fail
  refine C.mono ?_
  rintro e w4 ⟨rfl, hw4⟩
  subst w4
  go_wp2_with fail
  go_ret2
  exact ⟨rfl, B3⟩
set_option maxRecDepth 100000 in
set_option maxHeartbeats 1000000 in
theorem alu_1 (op a b : Int) (h0 : 0 ≤ op) (h1 : op ≤ 65535) (ha : U32 a) (hb : U32 b) (hk : opK op = 1) (w : World) :
    Calls Tryz.prog 132 #[.int .u16 op, .int .u32 a, .int .u32 b] w fun e w' => e = .returned (.tuple #[.int .u32 (IntKind.u32.wrap (a - b)), .bool true]) ∧ Below w.heap.size w w' := by
  have P := part_any op h0 h1
  rw [hk] at P
  obtain ⟨a0, a1⟩ := ha
  obtain ⟨b0, b1⟩ := hb
  clear hk
  go_enter Tryz.func132, Tryz.ntmps132
  go_wp2_with (refine wpList_store_blk rfl 211 (.tmp 8) (.tmp 20) rfl (w.heap.size + 1 + 1) _ (aluC w.heap.size (w.heap.size + 1)) 211 rfl rfl (Blk.new_ _ _ _ (by simp)) rfl fns_info (alu_one _ _) ?_; intro w3 hw3 hn3)
  obtain ⟨x1, x2, B3⟩ := wp_fns hn3
  clear hn3
  have c0 := (hw3.cell 1).trans (show _ = some (Value.func (.func 146) #[] #[.pointer (some ⟨w.heap.size, 0, none⟩), .pointer (some ⟨w.heap.size + 1, 0, none⟩)]) from rfl)
  clear hw3
  have C := acl_2 w.heap.size (w.heap.size + 1) a b a0 a1 b0 b1 w3 x1 x2
  refine (P _).mono ?_
  rintro e w4 ⟨rfl, hw4⟩
  subst w4
  go_wp2_with fail
  refine C.mono ?_
  rintro e w4 ⟨rfl, hw4⟩
  subst w4
  go_wp2_with fail
  go_ret2
  exact ⟨rfl, B3⟩
set_option maxRecDepth 100000 in
set_option maxHeartbeats 1000000 in
theorem alu_2 (op a b : Int) (h0 : 0 ≤ op) (h1 : op ≤ 65535) (ha : U32 a) (hb : U32 b) (hk : opK op = 2) (w : World) :
    Calls Tryz.prog 132 #[.int .u16 op, .int .u32 a, .int .u32 b] w fun e w' => e = .returned (.tuple #[.int .u32 (IntKind.u32.wrap (a * b)), .bool true]) ∧ Below w.heap.size w w' := by
  have P := part_any op h0 h1
  rw [hk] at P
  obtain ⟨a0, a1⟩ := ha
  obtain ⟨b0, b1⟩ := hb
  clear hk
  go_enter Tryz.func132, Tryz.ntmps132
  go_wp2_with (refine wpList_store_blk rfl 211 (.tmp 8) (.tmp 20) rfl (w.heap.size + 1 + 1) _ (aluC w.heap.size (w.heap.size + 1)) 211 rfl rfl (Blk.new_ _ _ _ (by simp)) rfl fns_info (alu_one _ _) ?_; intro w3 hw3 hn3)
  obtain ⟨x1, x2, B3⟩ := wp_fns hn3
  clear hn3
  have c0 := (hw3.cell 2).trans (show _ = some (Value.func (.func 147) #[] #[.pointer (some ⟨w.heap.size, 0, none⟩), .pointer (some ⟨w.heap.size + 1, 0, none⟩)]) from rfl)
  clear hw3
  have C := acl_3 w.heap.size (w.heap.size + 1) a b a0 a1 b0 b1 w3 x1 x2
  refine (P _).mono ?_
  rintro e w4 ⟨rfl, hw4⟩
  subst w4
  go_wp2_with fail
  refine C.mono ?_
  rintro e w4 ⟨rfl, hw4⟩
  subst w4
  go_wp2_with fail
  go_ret2
  exact ⟨rfl, B3⟩
set_option maxRecDepth 100000 in
set_option maxHeartbeats 1000000 in
theorem alu_3 (op a b : Int) (h0 : 0 ≤ op) (h1 : op ≤ 65535) (ha : U32 a) (hb : U32 b) (hk : opK op = 3) (hb0 : ¬ b = 0) (w : World) :
    Calls Tryz.prog 132 #[.int .u16 op, .int .u32 a, .int .u32 b] w fun e w' => e = .returned (.tuple #[.int .u32 (a / b), .bool true]) ∧ Below w.heap.size w w' := by
  have P := part_any op h0 h1
  rw [hk] at P
  obtain ⟨a0, a1⟩ := ha
  obtain ⟨b0, b1⟩ := hb
  clear hk
  go_enter Tryz.func132, Tryz.ntmps132
  go_wp2_with (refine wpList_store_blk rfl 211 (.tmp 8) (.tmp 20) rfl (w.heap.size + 1 + 1) _ (aluC w.heap.size (w.heap.size + 1)) 211 rfl rfl (Blk.new_ _ _ _ (by simp)) rfl fns_info (alu_one _ _) ?_; intro w3 hw3 hn3)
  obtain ⟨x1, x2, B3⟩ := wp_fns hn3
  clear hn3
  have c0 := (hw3.cell 3).trans (show _ = some (Value.func (.func 148) #[] #[.pointer (some ⟨w.heap.size, 0, none⟩), .pointer (some ⟨w.heap.size + 1, 0, none⟩)]) from rfl)
  clear hw3
  have C := acl_4 w.heap.size (w.heap.size + 1) a b a0 a1 b0 b1 hb0 w3 x1 x2
  refine (P _).mono ?_
  rintro e w4 ⟨rfl, hw4⟩
  subst w4
  go_wp2_with fail
  refine C.mono ?_
  rintro e w4 ⟨rfl, hw4⟩
  subst w4
  go_wp2_with fail
  go_ret2
  exact ⟨rfl, B3⟩
set_option maxRecDepth 100000 in
set_option maxHeartbeats 1000000 in
theorem alu_3z (op a b : Int) (h0 : 0 ≤ op) (h1 : op ≤ 65535) (ha : U32 a) (hb : U32 b) (hk : opK op = 3) (hb0 : b = 0) (w : World) :
    Calls Tryz.prog 132 #[.int .u16 op, .int .u32 a, .int .u32 b] w fun e w' => e = .returned (.tuple #[.int .u32 (0), .bool false]) ∧ Below w.heap.size w w' := by
  have P := part_any op h0 h1
  rw [hk] at P
  obtain ⟨a0, a1⟩ := ha
  obtain ⟨b0, b1⟩ := hb
  clear hk
  subst hb0
  go_enter Tryz.func132, Tryz.ntmps132
  go_wp2_with (refine wpList_store_blk rfl 211 (.tmp 8) (.tmp 20) rfl (w.heap.size + 1 + 1) _ (aluC w.heap.size (w.heap.size + 1)) 211 rfl rfl (Blk.new_ _ _ _ (by simp)) rfl fns_info (alu_one _ _) ?_; intro w3 hw3 hn3)
  obtain ⟨x1, x2, B3⟩ := wp_fns hn3
  clear hn3
  have c0 := (hw3.cell 3).trans (show _ = some (Value.func (.func 148) #[] #[.pointer (some ⟨w.heap.size, 0, none⟩), .pointer (some ⟨w.heap.size + 1, 0, none⟩)]) from rfl)
  clear hw3
  refine (P _).mono ?_
  rintro e w4 ⟨rfl, hw4⟩
  subst w4
  go_wp2_with fail
  go_ret2
  exact ⟨rfl, B3⟩
set_option maxRecDepth 100000 in
set_option maxHeartbeats 1000000 in
theorem alu_4 (op a b : Int) (h0 : 0 ≤ op) (h1 : op ≤ 65535) (ha : U32 a) (hb : U32 b) (hk : opK op = 4) (w : World) :
    Calls Tryz.prog 132 #[.int .u16 op, .int .u32 a, .int .u32 b] w fun e w' => e = .returned (.tuple #[.int .u32 (bits .or .u32 a b), .bool true]) ∧ Below w.heap.size w w' := by
  have P := part_any op h0 h1
  rw [hk] at P
  obtain ⟨a0, a1⟩ := ha
  obtain ⟨b0, b1⟩ := hb
  clear hk
  go_enter Tryz.func132, Tryz.ntmps132
  go_wp2_with (refine wpList_store_blk rfl 211 (.tmp 8) (.tmp 20) rfl (w.heap.size + 1 + 1) _ (aluC w.heap.size (w.heap.size + 1)) 211 rfl rfl (Blk.new_ _ _ _ (by simp)) rfl fns_info (alu_one _ _) ?_; intro w3 hw3 hn3)
  obtain ⟨x1, x2, B3⟩ := wp_fns hn3
  clear hn3
  have c0 := (hw3.cell 4).trans (show _ = some (Value.func (.func 149) #[] #[.pointer (some ⟨w.heap.size, 0, none⟩), .pointer (some ⟨w.heap.size + 1, 0, none⟩)]) from rfl)
  clear hw3
  have C := acl_5 w.heap.size (w.heap.size + 1) a b a0 a1 b0 b1 w3 x1 x2
  refine (P _).mono ?_
  rintro e w4 ⟨rfl, hw4⟩
  subst w4
  go_wp2_with fail
  refine C.mono ?_
  rintro e w4 ⟨rfl, hw4⟩
  subst w4
  go_wp2_with fail
  go_ret2
  exact ⟨rfl, B3⟩
set_option maxRecDepth 100000 in
set_option maxHeartbeats 1000000 in
theorem alu_5 (op a b : Int) (h0 : 0 ≤ op) (h1 : op ≤ 65535) (ha : U32 a) (hb : U32 b) (hk : opK op = 5) (w : World) :
    Calls Tryz.prog 132 #[.int .u16 op, .int .u32 a, .int .u32 b] w fun e w' => e = .returned (.tuple #[.int .u32 (bits .and .u32 a b), .bool true]) ∧ Below w.heap.size w w' := by
  have P := part_any op h0 h1
  rw [hk] at P
  obtain ⟨a0, a1⟩ := ha
  obtain ⟨b0, b1⟩ := hb
  clear hk
  go_enter Tryz.func132, Tryz.ntmps132
  go_wp2_with (refine wpList_store_blk rfl 211 (.tmp 8) (.tmp 20) rfl (w.heap.size + 1 + 1) _ (aluC w.heap.size (w.heap.size + 1)) 211 rfl rfl (Blk.new_ _ _ _ (by simp)) rfl fns_info (alu_one _ _) ?_; intro w3 hw3 hn3)
  obtain ⟨x1, x2, B3⟩ := wp_fns hn3
  clear hn3
  have c0 := (hw3.cell 5).trans (show _ = some (Value.func (.func 150) #[] #[.pointer (some ⟨w.heap.size, 0, none⟩), .pointer (some ⟨w.heap.size + 1, 0, none⟩)]) from rfl)
  clear hw3
  have C := acl_6 w.heap.size (w.heap.size + 1) a b a0 a1 b0 b1 w3 x1 x2
  refine (P _).mono ?_
  rintro e w4 ⟨rfl, hw4⟩
  subst w4
  go_wp2_with fail
  refine C.mono ?_
  rintro e w4 ⟨rfl, hw4⟩
  subst w4
  go_wp2_with fail
  go_ret2
  exact ⟨rfl, B3⟩
set_option maxRecDepth 100000 in
set_option maxHeartbeats 1000000 in
theorem alu_6 (op a b : Int) (h0 : 0 ≤ op) (h1 : op ≤ 65535) (ha : U32 a) (hb : U32 b) (hk : opK op = 6) (w : World) :
    Calls Tryz.prog 132 #[.int .u16 op, .int .u32 a, .int .u32 b] w fun e w' => e = .returned (.tuple #[.int .u32 (IntKind.u32.wrap (a * 2 ^ (min b.toNat 32))), .bool true]) ∧ Below w.heap.size w w' := by
  have P := part_any op h0 h1
  rw [hk] at P
  obtain ⟨a0, a1⟩ := ha
  obtain ⟨b0, b1⟩ := hb
  clear hk
  go_enter Tryz.func132, Tryz.ntmps132
  go_wp2_with (refine wpList_store_blk rfl 211 (.tmp 8) (.tmp 20) rfl (w.heap.size + 1 + 1) _ (aluC w.heap.size (w.heap.size + 1)) 211 rfl rfl (Blk.new_ _ _ _ (by simp)) rfl fns_info (alu_one _ _) ?_; intro w3 hw3 hn3)
  obtain ⟨x1, x2, B3⟩ := wp_fns hn3
  clear hn3
  have c0 := (hw3.cell 6).trans (show _ = some (Value.func (.func 151) #[] #[.pointer (some ⟨w.heap.size, 0, none⟩), .pointer (some ⟨w.heap.size + 1, 0, none⟩)]) from rfl)
  clear hw3
  have C := acl_7 w.heap.size (w.heap.size + 1) a b a0 a1 b0 b1 w3 x1 x2
  refine (P _).mono ?_
  rintro e w4 ⟨rfl, hw4⟩
  subst w4
  go_wp2_with fail
  refine C.mono ?_
  rintro e w4 ⟨rfl, hw4⟩
  subst w4
  go_wp2_with fail
  go_ret2
  exact ⟨rfl, B3⟩
set_option maxRecDepth 100000 in
set_option maxHeartbeats 1000000 in
theorem alu_7 (op a b : Int) (h0 : 0 ≤ op) (h1 : op ≤ 65535) (ha : U32 a) (hb : U32 b) (hk : opK op = 7) (w : World) :
    Calls Tryz.prog 132 #[.int .u16 op, .int .u32 a, .int .u32 b] w fun e w' => e = .returned (.tuple #[.int .u32 (a / 2 ^ (min b.toNat 32)), .bool true]) ∧ Below w.heap.size w w' := by
  have P := part_any op h0 h1
  rw [hk] at P
  obtain ⟨a0, a1⟩ := ha
  obtain ⟨b0, b1⟩ := hb
  clear hk
  go_enter Tryz.func132, Tryz.ntmps132
  go_wp2_with (refine wpList_store_blk rfl 211 (.tmp 8) (.tmp 20) rfl (w.heap.size + 1 + 1) _ (aluC w.heap.size (w.heap.size + 1)) 211 rfl rfl (Blk.new_ _ _ _ (by simp)) rfl fns_info (alu_one _ _) ?_; intro w3 hw3 hn3)
  obtain ⟨x1, x2, B3⟩ := wp_fns hn3
  clear hn3
  have c0 := (hw3.cell 7).trans (show _ = some (Value.func (.func 152) #[] #[.pointer (some ⟨w.heap.size, 0, none⟩), .pointer (some ⟨w.heap.size + 1, 0, none⟩)]) from rfl)
  clear hw3
  have C := acl_8 w.heap.size (w.heap.size + 1) a b a0 a1 b0 b1 w3 x1 x2
  refine (P _).mono ?_
  rintro e w4 ⟨rfl, hw4⟩
  subst w4
  go_wp2_with fail
  refine C.mono ?_
  rintro e w4 ⟨rfl, hw4⟩
  subst w4
  go_wp2_with fail
  go_ret2
  exact ⟨rfl, B3⟩
set_option maxRecDepth 100000 in
set_option maxHeartbeats 1000000 in
theorem alu_8 (op a b : Int) (h0 : 0 ≤ op) (h1 : op ≤ 65535) (ha : U32 a) (hb : U32 b) (hk : opK op = 8) (w : World) :
    Calls Tryz.prog 132 #[.int .u16 op, .int .u32 a, .int .u32 b] w fun e w' => e = .returned (.tuple #[.int .u32 (IntKind.u32.wrap (-a)), .bool true]) ∧ Below w.heap.size w w' := by
  have P := part_any op h0 h1
  rw [hk] at P
  obtain ⟨a0, a1⟩ := ha
  obtain ⟨b0, b1⟩ := hb
  clear hk
  go_enter Tryz.func132, Tryz.ntmps132
  go_wp2_with (refine wpList_store_blk rfl 211 (.tmp 8) (.tmp 20) rfl (w.heap.size + 1 + 1) _ (aluC w.heap.size (w.heap.size + 1)) 211 rfl rfl (Blk.new_ _ _ _ (by simp)) rfl fns_info (alu_one _ _) ?_; intro w3 hw3 hn3)
  obtain ⟨x1, x2, B3⟩ := wp_fns hn3
  clear hn3
  have c0 := (hw3.cell 8).trans (show _ = some (Value.func (.func 153) #[] #[.pointer (some ⟨w.heap.size, 0, none⟩)]) from rfl)
  clear hw3
  have C := acl_9 w.heap.size (w.heap.size + 1) a b a0 a1 b0 b1 w3 x1 x2
  refine (P _).mono ?_
  rintro e w4 ⟨rfl, hw4⟩
  subst w4
  go_wp2_with fail
  refine C.mono ?_
  rintro e w4 ⟨rfl, hw4⟩
  subst w4
  go_wp2_with fail
  go_ret2
  exact ⟨rfl, B3⟩
set_option maxRecDepth 100000 in
set_option maxHeartbeats 1000000 in
theorem alu_9 (op a b : Int) (h0 : 0 ≤ op) (h1 : op ≤ 65535) (ha : U32 a) (hb : U32 b) (hk : opK op = 9) (w : World) :
    Calls Tryz.prog 132 #[.int .u16 op, .int .u32 a, .int .u32 b] w fun e w' => e = .returned (.tuple #[.int .u32 (0), .bool false]) ∧ Below w.heap.size w w' := by
  have P := part_any op h0 h1
  rw [hk] at P
  obtain ⟨a0, a1⟩ := ha
  obtain ⟨b0, b1⟩ := hb
  clear hk
  go_enter Tryz.func132, Tryz.ntmps132
  go_wp2_with (refine wpList_store_blk rfl 211 (.tmp 8) (.tmp 20) rfl (w.heap.size + 1 + 1) _ (aluC w.heap.size (w.heap.size + 1)) 211 rfl rfl (Blk.new_ _ _ _ (by simp)) rfl fns_info (alu_one _ _) ?_; intro w3 hw3 hn3)
  obtain ⟨x1, x2, B3⟩ := wp_fns hn3
  clear hn3
  have c0 := (hw3.cell 9).trans (show _ = some (Value.nilFunc) from rfl)
  clear hw3
  refine (P _).mono ?_
  rintro e w4 ⟨rfl, hw4⟩
  subst w4
  go_wp2_with fail
  go_ret2
  exact ⟨rfl, B3⟩
set_option maxRecDepth 100000 in
set_option maxHeartbeats 1000000 in
theorem alu_10 (op a b : Int) (h0 : 0 ≤ op) (h1 : op ≤ 65535) (ha : U32 a) (hb : U32 b) (hk : opK op = 10) (w : World) :
    Calls Tryz.prog 132 #[.int .u16 op, .int .u32 a, .int .u32 b] w fun e w' => e = .returned (.tuple #[.int .u32 (bits .xor .u32 a b), .bool true]) ∧ Below w.heap.size w w' := by
  have P := part_any op h0 h1
  rw [hk] at P
  obtain ⟨a0, a1⟩ := ha
  obtain ⟨b0, b1⟩ := hb
  clear hk
  go_enter Tryz.func132, Tryz.ntmps132
  go_wp2_with (refine wpList_store_blk rfl 211 (.tmp 8) (.tmp 20) rfl (w.heap.size + 1 + 1) _ (aluC w.heap.size (w.heap.size + 1)) 211 rfl rfl (Blk.new_ _ _ _ (by simp)) rfl fns_info (alu_one _ _) ?_; intro w3 hw3 hn3)
  obtain ⟨x1, x2, B3⟩ := wp_fns hn3
  clear hn3
  have c0 := (hw3.cell 10).trans (show _ = some (Value.func (.func 154) #[] #[.pointer (some ⟨w.heap.size, 0, none⟩), .pointer (some ⟨w.heap.size + 1, 0, none⟩)]) from rfl)
  clear hw3
  have C := acl_10 w.heap.size (w.heap.size + 1) a b a0 a1 b0 b1 w3 x1 x2
  refine (P _).mono ?_
  rintro e w4 ⟨rfl, hw4⟩
  subst w4
  go_wp2_with fail
  refine C.mono ?_
  rintro e w4 ⟨rfl, hw4⟩
  subst w4
  go_wp2_with fail
  go_ret2
  exact ⟨rfl, B3⟩
set_option maxRecDepth 100000 in
set_option maxHeartbeats 1000000 in
theorem alu_11 (op a b : Int) (h0 : 0 ≤ op) (h1 : op ≤ 65535) (ha : U32 a) (hb : U32 b) (hk : opK op = 11) (w : World) :
    Calls Tryz.prog 132 #[.int .u16 op, .int .u32 a, .int .u32 b] w fun e w' => e = .returned (.tuple #[.int .u32 (0), .bool false]) ∧ Below w.heap.size w w' := by
  have P := part_any op h0 h1
  rw [hk] at P
  obtain ⟨a0, a1⟩ := ha
  obtain ⟨b0, b1⟩ := hb
  clear hk
  go_enter Tryz.func132, Tryz.ntmps132
  go_wp2_with (refine wpList_store_blk rfl 211 (.tmp 8) (.tmp 20) rfl (w.heap.size + 1 + 1) _ (aluC w.heap.size (w.heap.size + 1)) 211 rfl rfl (Blk.new_ _ _ _ (by simp)) rfl fns_info (alu_one _ _) ?_; intro w3 hw3 hn3)
  obtain ⟨x1, x2, B3⟩ := wp_fns hn3
  clear hn3
  have c0 := (hw3.cell 11).trans (show _ = some (Value.nilFunc) from rfl)
  clear hw3
  refine (P _).mono ?_
  rintro e w4 ⟨rfl, hw4⟩
  subst w4
  go_wp2_with fail
  go_ret2
  exact ⟨rfl, B3⟩
set_option maxRecDepth 100000 in
set_option maxHeartbeats 1000000 in
theorem alu_12 (op a b : Int) (h0 : 0 ≤ op) (h1 : op ≤ 65535) (ha : U32 a) (hb : U32 b) (hk : opK op = 12) (w : World) :
    Calls Tryz.prog 132 #[.int .u16 op, .int .u32 a, .int .u32 b] w fun e w' => e = .returned (.tuple #[.int .u32 (0), .bool false]) ∧ Below w.heap.size w w' := by
  have P := part_any op h0 h1
  rw [hk] at P
  obtain ⟨a0, a1⟩ := ha
  obtain ⟨b0, b1⟩ := hb
  clear hk
  go_enter Tryz.func132, Tryz.ntmps132
  go_wp2_with (refine wpList_store_blk rfl 211 (.tmp 8) (.tmp 20) rfl (w.heap.size + 1 + 1) _ (aluC w.heap.size (w.heap.size + 1)) 211 rfl rfl (Blk.new_ _ _ _ (by simp)) rfl fns_info (alu_one _ _) ?_; intro w3 hw3 hn3)
  obtain ⟨x1, x2, B3⟩ := wp_fns hn3
  clear hn3
  have c0 := (hw3.cell 12).trans (show _ = some (Value.nilFunc) from rfl)
  clear hw3
  refine (P _).mono ?_
  rintro e w4 ⟨rfl, hw4⟩
  subst w4
  go_wp2_with fail
  go_ret2
  exact ⟨rfl, B3⟩
set_option maxRecDepth 100000 in
set_option maxHeartbeats 1000000 in
theorem alu_13 (op a b : Int) (h0 : 0 ≤ op) (h1 : op ≤ 65535) (ha : U32 a) (hb : U32 b) (hk : opK op = 13) (w : World) :
    Calls Tryz.prog 132 #[.int .u16 op, .int .u32 a, .int .u32 b] w fun e w' => e = .returned (.tuple #[.int .u32 (0), .bool false]) ∧ Below w.heap.size w w' := by
  have P := part_any op h0 h1
  rw [hk] at P
  obtain ⟨a0, a1⟩ := ha
  obtain ⟨b0, b1⟩ := hb
  clear hk
  go_enter Tryz.func132, Tryz.ntmps132
  go_wp2_with (refine wpList_store_blk rfl 211 (.tmp 8) (.tmp 20) rfl (w.heap.size + 1 + 1) _ (aluC w.heap.size (w.heap.size + 1)) 211 rfl rfl (Blk.new_ _ _ _ (by simp)) rfl fns_info (alu_one _ _) ?_; intro w3 hw3 hn3)
  obtain ⟨x1, x2, B3⟩ := wp_fns hn3
  clear hn3
  have c0 := (hw3.cell 13).trans (show _ = some (Value.nilFunc) from rfl)
  clear hw3
  refine (P _).mono ?_
  rintro e w4 ⟨rfl, hw4⟩
  subst w4
  go_wp2_with fail
  go_ret2
  exact ⟨rfl, B3⟩
set_option maxRecDepth 100000 in
set_option maxHeartbeats 1000000 in
theorem alu_14 (op a b : Int) (h0 : 0 ≤ op) (h1 : op ≤ 65535) (ha : U32 a) (hb : U32 b) (hk : opK op = 14) (w : World) :
    Calls Tryz.prog 132 #[.int .u16 op, .int .u32 a, .int .u32 b] w fun e w' => e = .returned (.tuple #[.int .u32 (0), .bool false]) ∧ Below w.heap.size w w' := by
  have P := part_any op h0 h1
  rw [hk] at P
  obtain ⟨a0, a1⟩ := ha
  obtain ⟨b0, b1⟩ := hb
  clear hk
  go_enter Tryz.func132, Tryz.ntmps132
  go_wp2_with (refine wpList_store_blk rfl 211 (.tmp 8) (.tmp 20) rfl (w.heap.size + 1 + 1) _ (aluC w.heap.size (w.heap.size + 1)) 211 rfl rfl (Blk.new_ _ _ _ (by simp)) rfl fns_info (alu_one _ _) ?_; intro w3 hw3 hn3)
  obtain ⟨x1, x2, B3⟩ := wp_fns hn3
  clear hn3
  have c0 := (hw3.cell 14).trans (show _ = some (Value.nilFunc) from rfl)
  clear hw3
  refine (P _).mono ?_
  rintro e w4 ⟨rfl, hw4⟩
  subst w4
  go_wp2_with fail
  go_ret2
  exact ⟨rfl, B3⟩
set_option maxRecDepth 100000 in
set_option maxHeartbeats 1000000 in
theorem alu_15 (op a b : Int) (h0 : 0 ≤ op) (h1 : op ≤ 65535) (ha : U32 a) (hb : U32 b) (hk : opK op = 15) (w : World) :
    Calls Tryz.prog 132 #[.int .u16 op, .int .u32 a, .int .u32 b] w fun e w' => e = .returned (.tuple #[.int .u32 (0), .bool false]) ∧ Below w.heap.size w w' := by
  have P := part_any op h0 h1
  rw [hk] at P
  obtain ⟨a0, a1⟩ := ha
  obtain ⟨b0, b1⟩ := hb
  clear hk
  go_enter Tryz.func132, Tryz.ntmps132
  go_wp2_with (refine wpList_store_blk rfl 211 (.tmp 8) (.tmp 20) rfl (w.heap.size + 1 + 1) _ (aluC w.heap.size (w.heap.size + 1)) 211 rfl rfl (Blk.new_ _ _ _ (by simp)) rfl fns_info (alu_one _ _) ?_; intro w3 hw3 hn3)
  obtain ⟨x1, x2, B3⟩ := wp_fns hn3
  clear hn3
  have c0 := (hw3.cell 15).trans (show _ = some (Value.nilFunc) from rfl)
  clear hw3
  refine (P _).mono ?_
  rintro e w4 ⟨rfl, hw4⟩
  subst w4
  go_wp2_with fail
  go_ret2
  exact ⟨rfl, B3⟩
def aluV (op a b : Int) : Int := match alI op a b with | some v => v | none => 0
def aluB (op a b : Int) : Bool := match alI op a b with | some _ => true | none => false
theorem alu_any (op a b : Int) (h0 : 0 ≤ op) (h1 : op ≤ 65535) (ha : U32 a) (hb : U32 b) (w : World) :
    Calls Tryz.prog 132 #[.int .u16 op, .int .u32 a, .int .u32 b] w fun e w' => e = .returned (.tuple #[.int .u32 (aluV op a b), .bool (aluB op a b)]) ∧ Below w.heap.size w w' := by
  have hr : 0 ≤ opK op ∧ opK op < 16 := by unfold opK; omega
  obtain ⟨k, hk⟩ : ∃ k, opK op = k := ⟨_, rfl⟩
  rw [hk] at hr
  have hc : k = 0 ∨ k = 1 ∨ k = 2 ∨ k = 3 ∨ k = 4 ∨ k = 5 ∨ k = 6 ∨ k = 7 ∨ k = 8 ∨ k = 9 ∨ k = 10 ∨ k = 11 ∨ k = 12 ∨ k = 13 ∨ k = 14 ∨ k = 15 := by omega
  unfold aluV aluB alI
  rw [hk]
  rcases hc with rfl | rfl | rfl | rfl | rfl | rfl | rfl | rfl | rfl | rfl | rfl | rfl | rfl | rfl | rfl | rfl
  · simpa using alu_0 op a b h0 h1 ha hb hk w
  · simpa using alu_1 op a b h0 h1 ha hb hk w
  · simpa using alu_2 op a b h0 h1 ha hb hk w
  · by_cases hb0 : b = 0
    · simpa [hb0] using alu_3z op a b h0 h1 ha hb hk hb0 w
    · simpa [hb0] using alu_3 op a b h0 h1 ha hb hk hb0 w
  · simpa using alu_4 op a b h0 h1 ha hb hk w
  · simpa using alu_5 op a b h0 h1 ha hb hk w
  · simpa using alu_6 op a b h0 h1 ha hb hk w
  · simpa using alu_7 op a b h0 h1 ha hb hk w
  · simpa using alu_8 op a b h0 h1 ha hb hk w
  · simpa using alu_9 op a b h0 h1 ha hb hk w
  · simpa using alu_10 op a b h0 h1 ha hb hk w
  · simpa using alu_11 op a b h0 h1 ha hb hk w
  · simpa using alu_12 op a b h0 h1 ha hb hk w
  · simpa using alu_13 op a b h0 h1 ha hb hk w
  · simpa using alu_14 op a b h0 h1 ha hb hk w
  · simpa using alu_15 op a b h0 h1 ha hb hk w
end Go.Proofs.YtelfdpcenplhjaaGreatDoor

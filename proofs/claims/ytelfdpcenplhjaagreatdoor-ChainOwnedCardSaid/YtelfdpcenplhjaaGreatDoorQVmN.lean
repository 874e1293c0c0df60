/-
  The machines ahead of each step, each with what that step returns; what a round that takes them keeps: plain lemmas.
-/
import Derived.Test.YtelfdpcenplhjaaGreatDoorQAluU
import Derived.Test.YtelfdpcenplhjaaGreatDoorQVmF
import Derived.Test.YtelfdpcenplhjaaGreatDoorQVmP
import Derived.RangeFuncWrites
namespace Go.Proofs.YtelfdpcenplhjaaGreatDoor
open Go.RowKit
set_option linter.unusedVariables false
theorem tax_name : (nameOf 7).1.toList = [116, 97, 120] := by simp [show (nameOf 7).1 = ⟨#[116, 97, 120]⟩ from rfl]
theorem txa_name : ¬ (nameOf 135).1.toList = [116, 97, 120] := by simp [show (nameOf 135).1 = ⟨#[116, 120, 97]⟩ from rfl]
theorem one_word {left y z k : Int} (h : oneL left (32, y, z, k) = 0) : rightB k = true := by
  by_cases hk : k % 4 ≠ 0 ∨ 64 ≤ k
  · unfold oneL at h
    rw [if_neg (by decide : ¬ rowC 32 = none), if_pos ⟨rfl, hk⟩] at h
    cases h
  · unfold rightB
    simp only [decide_eq_true_eq]
    omega
def stepR (q : Ins) (d : Dat) (s : VmS) : Value := .tuple #[vmV (stepV alI hdI q (dW d) s).2, .int .u32 (match (stepV alI hdI q (dW d) s).1 with | some r => r | none => 0), .bool (match (stepV alI hdI q (dW d) s).1 with | some _ => true | none => false)]
theorem stepR_go {q : Ins} {d : Dat} {s s' : VmS} (h : stepV alI hdI q (dW d) s = (none, s')) : stepR q d s = .tuple #[vmV s', .int .u32 0, .bool false] := by unfold stepR; rw [h]
theorem stepR_ret {q : Ins} {d : Dat} {s s' : VmS} {r : Int} (h : stepV alI hdI q (dW d) s = (some r, s')) : stepR q d s = .tuple #[vmV s', .int .u32 r, .bool true] := by unfold stepR; rw [h]
theorem stepAt_0 (y z k : Int) (d : Dat) (hd : DatOk d) (s : VmS) (hs : VmOk s) (hp : s.pc ≤ 1000) (left : Int) (hq : InsOk 0 y z k) (ho : oneL left (0, y, z, k) = 0) (hleft : left ≤ 64) (w : World) (hK : Kinds w) :
    Calls Tryz.prog 116 #[valI (0, y, z, k), datV d, vmV s] w fun e w' => e = .returned (stepR (0, y, z, k) d s) ∧ Below w.heap.size w w' := by
  have hpp : (0 : Int) ≤ (s.pc : Int) ∧ (s.pc : Int) ≤ 1000 := by omega
  obtain ⟨_, h3, _, _⟩ := oneL_ok ho
  have e : stepV alI hdI (0, y, z, k) (dW d) s = (none, ⟨s.pc + 1, ldI (0, y, z, k) (dW d) s.mem, s.x, s.mem⟩) := by simp [stepV, effV, ldI, form_at_0]
  rw [stepR_go e]
  exact step_ld 0 y z k d hd s.pc s.a s.x s.mem hs.len hq hs.a hs.x hpp (by decide) (fun h => by rw [form_at_0] at h; cases h) (fun h => h3 h) w hK
theorem stepAt_1 (y z k : Int) (d : Dat) (hd : DatOk d) (s : VmS) (hs : VmOk s) (hp : s.pc ≤ 1000) (left : Int) (hq : InsOk 1 y z k) (ho : oneL left (1, y, z, k) = 0) (hleft : left ≤ 64) (w : World) (hK : Kinds w) :
    Calls Tryz.prog 116 #[valI (1, y, z, k), datV d, vmV s] w fun e w' => e = .returned (stepR (1, y, z, k) d s) ∧ Below w.heap.size w w' := by
  have hpp : (0 : Int) ≤ (s.pc : Int) ∧ (s.pc : Int) ≤ 1000 := by omega
  obtain ⟨_, h3, _, _⟩ := oneL_ok ho
  have e : stepV alI hdI (1, y, z, k) (dW d) s = (none, ⟨s.pc + 1, s.a, ldI (1, y, z, k) (dW d) s.mem, s.mem⟩) := by simp [stepV, effV, ldI, form_at_1]
  rw [stepR_go e]
  exact step_ldx 1 y z k d hd s.pc s.a s.x s.mem hs.len hq hs.a hs.x hpp (by decide) (fun h => by rw [form_at_1] at h; cases h) (fun h => h3 h) w hK
theorem stepAt_2 (y z k : Int) (d : Dat) (hd : DatOk d) (s : VmS) (hs : VmOk s) (hp : s.pc ≤ 1000) (left : Int) (hq : InsOk 2 y z k) (ho : oneL left (2, y, z, k) = 0) (hleft : left ≤ 64) (w : World) (hK : Kinds w) :
    Calls Tryz.prog 116 #[valI (2, y, z, k), datV d, vmV s] w fun e w' => e = .returned (stepR (2, y, z, k) d s) ∧ Below w.heap.size w w' := by
  have hpp : (0 : Int) ≤ (s.pc : Int) ∧ (s.pc : Int) ≤ 1000 := by omega
  obtain ⟨_, h3, _, _⟩ := oneL_ok ho
  have hk := h3 form_at_2
  have hk0 := hq.k0
  simp only at hk
  have e : stepV alI hdI (2, y, z, k) (dW d) s = (none, ⟨s.pc + 1, s.a, s.x, s.mem.set k.toNat s.a⟩) := by simp [stepV, effV, form_at_2]
  rw [stepR_go e]
  exact step_st 2 y z k d hd s.pc s.a s.x s.mem hs.len hq hs.a hs.x hpp (by decide) k.toNat (by omega) (by omega) w hK
theorem stepAt_3 (y z k : Int) (d : Dat) (hd : DatOk d) (s : VmS) (hs : VmOk s) (hp : s.pc ≤ 1000) (left : Int) (hq : InsOk 3 y z k) (ho : oneL left (3, y, z, k) = 0) (hleft : left ≤ 64) (w : World) (hK : Kinds w) :
    Calls Tryz.prog 116 #[valI (3, y, z, k), datV d, vmV s] w fun e w' => e = .returned (stepR (3, y, z, k) d s) ∧ Below w.heap.size w w' := by
  have hpp : (0 : Int) ≤ (s.pc : Int) ∧ (s.pc : Int) ≤ 1000 := by omega
  obtain ⟨_, h3, _, _⟩ := oneL_ok ho
  have hk := h3 form_at_3
  have hk0 := hq.k0
  simp only at hk
  have e : stepV alI hdI (3, y, z, k) (dW d) s = (none, ⟨s.pc + 1, s.a, s.x, s.mem.set k.toNat s.x⟩) := by simp [stepV, effV, form_at_3]
  rw [stepR_go e]
  exact step_stx 3 y z k d hd s.pc s.a s.x s.mem hs.len hq hs.a hs.x hpp (by decide) k.toNat (by omega) (by omega) w hK
theorem stepAt_4 (y z k : Int) (d : Dat) (hd : DatOk d) (s : VmS) (hs : VmOk s) (hp : s.pc ≤ 1000) (left : Int) (hq : InsOk 4 y z k) (ho : oneL left (4, y, z, k) = 0) (hleft : left ≤ 64) (w : World) (hK : Kinds w) :
    Calls Tryz.prog 116 #[valI (4, y, z, k), datV d, vmV s] w fun e w' => e = .returned (stepR (4, y, z, k) d s) ∧ Below w.heap.size w w' := by
  have hpp : (0 : Int) ≤ (s.pc : Int) ∧ (s.pc : Int) ≤ 1000 := by omega
  have eb : (if formOf 4 = 1 ∨ formOf 4 = 5 then k else s.x) = k := by rw [form_at_4]; simp
  cases hv : alI 4 s.a k with
  | none =>
    have e : stepV alI hdI (4, y, z, k) (dW d) s = (some 0, s) := by simp [stepV, effV, form_at_4, hv]
    rw [stepR_ret e]
    exact step_div 4 y z k d hd s.pc s.a s.x s.mem hs.len hq hs.a hs.x hpp (by decide) (by rw [eb]; exact hv) w hK
  | some v =>
    have e : stepV alI hdI (4, y, z, k) (dW d) s = (none, ⟨s.pc + 1, v, s.x, s.mem⟩) := by simp [stepV, effV, form_at_4, hv]
    rw [stepR_go e]
    exact step_alu 4 y z k d hd s.pc s.a s.x s.mem hs.len hq hs.a hs.x hpp (by decide) v (by rw [eb]; exact hv) w hK
theorem stepAt_5 (y z k : Int) (d : Dat) (hd : DatOk d) (s : VmS) (hs : VmOk s) (hp : s.pc ≤ 1000) (left : Int) (hq : InsOk 5 y z k) (ho : oneL left (5, y, z, k) = 0) (hleft : left ≤ 64) (w : World) (hK : Kinds w) :
    Calls Tryz.prog 116 #[valI (5, y, z, k), datV d, vmV s] w fun e w' => e = .returned (stepR (5, y, z, k) d s) ∧ Below w.heap.size w w' := by
  have hpp : (0 : Int) ≤ (s.pc : Int) ∧ (s.pc : Int) ≤ 1000 := by omega
  obtain ⟨_, _, h4, _⟩ := oneL_ok ho
  have hk := h4 form_at_5
  have hk0 := hq.k0
  simp only at hk
  have e : stepV alI hdI (5, y, z, k) (dW d) s = (none, ⟨s.pc + 1 + k.toNat, s.a, s.x, s.mem⟩) := by simp [stepV]
  rw [stepR_go e]
  have H := step_jump 5 y z k d hd s.pc s.a s.x s.mem hs.len hq hs.a hs.x hpp (by decide) k (by simp [furI, form_at_5]) (by omega) w hK
  have ep : (s.pc : Int) + 1 + k = ((s.pc + 1 + k.toNat : Nat) : Int) := by omega
  rw [ep] at H
  exact H
theorem stepAt_6 (y z k : Int) (d : Dat) (hd : DatOk d) (s : VmS) (hs : VmOk s) (hp : s.pc ≤ 1000) (left : Int) (hq : InsOk 6 y z k) (ho : oneL left (6, y, z, k) = 0) (hleft : left ≤ 64) (w : World) (hK : Kinds w) :
    Calls Tryz.prog 116 #[valI (6, y, z, k), datV d, vmV s] w fun e w' => e = .returned (stepR (6, y, z, k) d s) ∧ Below w.heap.size w w' := by
  have hpp : (0 : Int) ≤ (s.pc : Int) ∧ (s.pc : Int) ≤ 1000 := by omega
  have e : stepV alI hdI (6, y, z, k) (dW d) s = (some k, s) := by simp [stepV]
  rw [stepR_ret e]
  have H := step_ret 6 y z k d hd s.pc s.a s.x s.mem hs.len hq hs.a hs.x hpp (by decide) w hK
  rw [form_at_6, if_pos rfl] at H
  exact H
theorem stepAt_7 (y z k : Int) (d : Dat) (hd : DatOk d) (s : VmS) (hs : VmOk s) (hp : s.pc ≤ 1000) (left : Int) (hq : InsOk 7 y z k) (ho : oneL left (7, y, z, k) = 0) (hleft : left ≤ 64) (w : World) (hK : Kinds w) :
    Calls Tryz.prog 116 #[valI (7, y, z, k), datV d, vmV s] w fun e w' => e = .returned (stepR (7, y, z, k) d s) ∧ Below w.heap.size w w' := by
  have hpp : (0 : Int) ≤ (s.pc : Int) ∧ (s.pc : Int) ≤ 1000 := by omega
  have e : stepV alI hdI (7, y, z, k) (dW d) s = (none, ⟨s.pc + 1, s.a, s.a, s.mem⟩) := by simp [stepV, effV, form_at_7]
  rw [stepR_go e]
  have H := step_mov 7 y z k d hd s.pc s.a s.x s.mem hs.len hq hs.a hs.x hpp (by decide) w hK
  rw [if_pos tax_name] at H
  exact H
theorem stepAt_12 (y z k : Int) (d : Dat) (hd : DatOk d) (s : VmS) (hs : VmOk s) (hp : s.pc ≤ 1000) (left : Int) (hq : InsOk 12 y z k) (ho : oneL left (12, y, z, k) = 0) (hleft : left ≤ 64) (w : World) (hK : Kinds w) :
    Calls Tryz.prog 116 #[valI (12, y, z, k), datV d, vmV s] w fun e w' => e = .returned (stepR (12, y, z, k) d s) ∧ Below w.heap.size w w' := by
  have hpp : (0 : Int) ≤ (s.pc : Int) ∧ (s.pc : Int) ≤ 1000 := by omega
  have eb : (if formOf 12 = 1 ∨ formOf 12 = 5 then k else s.x) = s.x := by rw [form_at_12]; simp
  cases hv : alI 12 s.a s.x with
  | none =>
    have e : stepV alI hdI (12, y, z, k) (dW d) s = (some 0, s) := by simp [stepV, effV, form_at_12, hv]
    rw [stepR_ret e]
    exact step_div 12 y z k d hd s.pc s.a s.x s.mem hs.len hq hs.a hs.x hpp (by decide) (by rw [eb]; exact hv) w hK
  | some v =>
    have e : stepV alI hdI (12, y, z, k) (dW d) s = (none, ⟨s.pc + 1, v, s.x, s.mem⟩) := by simp [stepV, effV, form_at_12, hv]
    rw [stepR_go e]
    exact step_alu 12 y z k d hd s.pc s.a s.x s.mem hs.len hq hs.a hs.x hpp (by decide) v (by rw [eb]; exact hv) w hK
theorem stepAt_20 (y z k : Int) (d : Dat) (hd : DatOk d) (s : VmS) (hs : VmOk s) (hp : s.pc ≤ 1000) (left : Int) (hq : InsOk 20 y z k) (ho : oneL left (20, y, z, k) = 0) (hleft : left ≤ 64) (w : World) (hK : Kinds w) :
    Calls Tryz.prog 116 #[valI (20, y, z, k), datV d, vmV s] w fun e w' => e = .returned (stepR (20, y, z, k) d s) ∧ Below w.heap.size w w' := by
  have hpp : (0 : Int) ≤ (s.pc : Int) ∧ (s.pc : Int) ≤ 1000 := by omega
  have eb : (if formOf 20 = 1 ∨ formOf 20 = 5 then k else s.x) = k := by rw [form_at_20]; simp
  cases hv : alI 20 s.a k with
  | none =>
    have e : stepV alI hdI (20, y, z, k) (dW d) s = (some 0, s) := by simp [stepV, effV, form_at_20, hv]
    rw [stepR_ret e]
    exact step_div 20 y z k d hd s.pc s.a s.x s.mem hs.len hq hs.a hs.x hpp (by decide) (by rw [eb]; exact hv) w hK
  | some v =>
    have e : stepV alI hdI (20, y, z, k) (dW d) s = (none, ⟨s.pc + 1, v, s.x, s.mem⟩) := by simp [stepV, effV, form_at_20, hv]
    rw [stepR_go e]
    exact step_alu 20 y z k d hd s.pc s.a s.x s.mem hs.len hq hs.a hs.x hpp (by decide) v (by rw [eb]; exact hv) w hK
theorem stepAt_21 (y z k : Int) (d : Dat) (hd : DatOk d) (s : VmS) (hs : VmOk s) (hp : s.pc ≤ 1000) (left : Int) (hq : InsOk 21 y z k) (ho : oneL left (21, y, z, k) = 0) (hleft : left ≤ 64) (w : World) (hK : Kinds w) :
    Calls Tryz.prog 116 #[valI (21, y, z, k), datV d, vmV s] w fun e w' => e = .returned (stepR (21, y, z, k) d s) ∧ Below w.heap.size w w' := by
  have hpp : (0 : Int) ≤ (s.pc : Int) ∧ (s.pc : Int) ≤ 1000 := by omega
  obtain ⟨_, _, _, h5⟩ := oneL_ok ho
  have hyz := h5 (by rw [form_at_21]; simp)
  have hy0 := hq.a0
  have hz0 := hq.b0
  simp only at hyz
  obtain ⟨t, ht⟩ : ∃ t, hdI 21 s.a k = t := ⟨_, rfl⟩
  have ef : furI (21, y, z, k) s.a s.x = if t = true then y else z := by simp [furI, form_at_21, ht]
  have e : stepV alI hdI (21, y, z, k) (dW d) s = (none, ⟨s.pc + 1 + (if t = true then y.toNat else z.toNat), s.a, s.x, s.mem⟩) := by simp [stepV, form_at_21, ht]
  rw [stepR_go e]
  have H := step_jump 21 y z k d hd s.pc s.a s.x s.mem hs.len hq hs.a hs.x hpp (by decide) _ ef (by split <;> omega) w hK
  have ep : (s.pc : Int) + 1 + (if t = true then y else z) = ((s.pc + 1 + (if t = true then y.toNat else z.toNat) : Nat) : Int) := by split <;> omega
  rw [ep] at H
  exact H
theorem stepAt_22 (y z k : Int) (d : Dat) (hd : DatOk d) (s : VmS) (hs : VmOk s) (hp : s.pc ≤ 1000) (left : Int) (hq : InsOk 22 y z k) (ho : oneL left (22, y, z, k) = 0) (hleft : left ≤ 64) (w : World) (hK : Kinds w) :
    Calls Tryz.prog 116 #[valI (22, y, z, k), datV d, vmV s] w fun e w' => e = .returned (stepR (22, y, z, k) d s) ∧ Below w.heap.size w w' := by
  have hpp : (0 : Int) ≤ (s.pc : Int) ∧ (s.pc : Int) ≤ 1000 := by omega
  have e : stepV alI hdI (22, y, z, k) (dW d) s = (some s.a, s) := by simp [stepV]
  rw [stepR_ret e]
  have H := step_ret 22 y z k d hd s.pc s.a s.x s.mem hs.len hq hs.a hs.x hpp (by decide) w hK
  rw [form_at_22, if_neg (by decide)] at H
  exact H
theorem stepAt_28 (y z k : Int) (d : Dat) (hd : DatOk d) (s : VmS) (hs : VmOk s) (hp : s.pc ≤ 1000) (left : Int) (hq : InsOk 28 y z k) (ho : oneL left (28, y, z, k) = 0) (hleft : left ≤ 64) (w : World) (hK : Kinds w) :
    Calls Tryz.prog 116 #[valI (28, y, z, k), datV d, vmV s] w fun e w' => e = .returned (stepR (28, y, z, k) d s) ∧ Below w.heap.size w w' := by
  have hpp : (0 : Int) ≤ (s.pc : Int) ∧ (s.pc : Int) ≤ 1000 := by omega
  have eb : (if formOf 28 = 1 ∨ formOf 28 = 5 then k else s.x) = s.x := by rw [form_at_28]; simp
  cases hv : alI 28 s.a s.x with
  | none =>
    have e : stepV alI hdI (28, y, z, k) (dW d) s = (some 0, s) := by simp [stepV, effV, form_at_28, hv]
    rw [stepR_ret e]
    exact step_div 28 y z k d hd s.pc s.a s.x s.mem hs.len hq hs.a hs.x hpp (by decide) (by rw [eb]; exact hv) w hK
  | some v =>
    have e : stepV alI hdI (28, y, z, k) (dW d) s = (none, ⟨s.pc + 1, v, s.x, s.mem⟩) := by simp [stepV, effV, form_at_28, hv]
    rw [stepR_go e]
    exact step_alu 28 y z k d hd s.pc s.a s.x s.mem hs.len hq hs.a hs.x hpp (by decide) v (by rw [eb]; exact hv) w hK
theorem stepAt_29 (y z k : Int) (d : Dat) (hd : DatOk d) (s : VmS) (hs : VmOk s) (hp : s.pc ≤ 1000) (left : Int) (hq : InsOk 29 y z k) (ho : oneL left (29, y, z, k) = 0) (hleft : left ≤ 64) (w : World) (hK : Kinds w) :
    Calls Tryz.prog 116 #[valI (29, y, z, k), datV d, vmV s] w fun e w' => e = .returned (stepR (29, y, z, k) d s) ∧ Below w.heap.size w w' := by
  have hpp : (0 : Int) ≤ (s.pc : Int) ∧ (s.pc : Int) ≤ 1000 := by omega
  obtain ⟨_, _, _, h5⟩ := oneL_ok ho
  have hyz := h5 (by rw [form_at_29]; simp)
  have hy0 := hq.a0
  have hz0 := hq.b0
  simp only at hyz
  obtain ⟨t, ht⟩ : ∃ t, hdI 29 s.a s.x = t := ⟨_, rfl⟩
  have ef : furI (29, y, z, k) s.a s.x = if t = true then y else z := by simp [furI, form_at_29, ht]
  have e : stepV alI hdI (29, y, z, k) (dW d) s = (none, ⟨s.pc + 1 + (if t = true then y.toNat else z.toNat), s.a, s.x, s.mem⟩) := by simp [stepV, form_at_29, ht]
  rw [stepR_go e]
  have H := step_jump 29 y z k d hd s.pc s.a s.x s.mem hs.len hq hs.a hs.x hpp (by decide) _ ef (by split <;> omega) w hK
  have ep : (s.pc : Int) + 1 + (if t = true then y else z) = ((s.pc + 1 + (if t = true then y.toNat else z.toNat) : Nat) : Int) := by split <;> omega
  rw [ep] at H
  exact H
theorem stepAt_32 (y z k : Int) (d : Dat) (hd : DatOk d) (s : VmS) (hs : VmOk s) (hp : s.pc ≤ 1000) (left : Int) (hq : InsOk 32 y z k) (ho : oneL left (32, y, z, k) = 0) (hleft : left ≤ 64) (w : World) (hK : Kinds w) :
    Calls Tryz.prog 116 #[valI (32, y, z, k), datV d, vmV s] w fun e w' => e = .returned (stepR (32, y, z, k) d s) ∧ Below w.heap.size w w' := by
  have hpp : (0 : Int) ≤ (s.pc : Int) ∧ (s.pc : Int) ≤ 1000 := by omega
  obtain ⟨_, h3, _, _⟩ := oneL_ok ho
  have e : stepV alI hdI (32, y, z, k) (dW d) s = (none, ⟨s.pc + 1, ldI (32, y, z, k) (dW d) s.mem, s.x, s.mem⟩) := by simp [stepV, effV, ldI, form_at_32]
  rw [stepR_go e]
  exact step_ld 32 y z k d hd s.pc s.a s.x s.mem hs.len hq hs.a hs.x hpp (by decide) (fun _ => one_word ho) (fun h => h3 h) w hK
theorem stepAt_36 (y z k : Int) (d : Dat) (hd : DatOk d) (s : VmS) (hs : VmOk s) (hp : s.pc ≤ 1000) (left : Int) (hq : InsOk 36 y z k) (ho : oneL left (36, y, z, k) = 0) (hleft : left ≤ 64) (w : World) (hK : Kinds w) :
    Calls Tryz.prog 116 #[valI (36, y, z, k), datV d, vmV s] w fun e w' => e = .returned (stepR (36, y, z, k) d s) ∧ Below w.heap.size w w' := by
  have hpp : (0 : Int) ≤ (s.pc : Int) ∧ (s.pc : Int) ≤ 1000 := by omega
  have eb : (if formOf 36 = 1 ∨ formOf 36 = 5 then k else s.x) = k := by rw [form_at_36]; simp
  cases hv : alI 36 s.a k with
  | none =>
    have e : stepV alI hdI (36, y, z, k) (dW d) s = (some 0, s) := by simp [stepV, effV, form_at_36, hv]
    rw [stepR_ret e]
    exact step_div 36 y z k d hd s.pc s.a s.x s.mem hs.len hq hs.a hs.x hpp (by decide) (by rw [eb]; exact hv) w hK
  | some v =>
    have e : stepV alI hdI (36, y, z, k) (dW d) s = (none, ⟨s.pc + 1, v, s.x, s.mem⟩) := by simp [stepV, effV, form_at_36, hv]
    rw [stepR_go e]
    exact step_alu 36 y z k d hd s.pc s.a s.x s.mem hs.len hq hs.a hs.x hpp (by decide) v (by rw [eb]; exact hv) w hK
theorem stepAt_37 (y z k : Int) (d : Dat) (hd : DatOk d) (s : VmS) (hs : VmOk s) (hp : s.pc ≤ 1000) (left : Int) (hq : InsOk 37 y z k) (ho : oneL left (37, y, z, k) = 0) (hleft : left ≤ 64) (w : World) (hK : Kinds w) :
    Calls Tryz.prog 116 #[valI (37, y, z, k), datV d, vmV s] w fun e w' => e = .returned (stepR (37, y, z, k) d s) ∧ Below w.heap.size w w' := by
  have hpp : (0 : Int) ≤ (s.pc : Int) ∧ (s.pc : Int) ≤ 1000 := by omega
  obtain ⟨_, _, _, h5⟩ := oneL_ok ho
  have hyz := h5 (by rw [form_at_37]; simp)
  have hy0 := hq.a0
  have hz0 := hq.b0
  simp only at hyz
  obtain ⟨t, ht⟩ : ∃ t, hdI 37 s.a k = t := ⟨_, rfl⟩
  have ef : furI (37, y, z, k) s.a s.x = if t = true then y else z := by simp [furI, form_at_37, ht]
  have e : stepV alI hdI (37, y, z, k) (dW d) s = (none, ⟨s.pc + 1 + (if t = true then y.toNat else z.toNat), s.a, s.x, s.mem⟩) := by simp [stepV, form_at_37, ht]
  rw [stepR_go e]
  have H := step_jump 37 y z k d hd s.pc s.a s.x s.mem hs.len hq hs.a hs.x hpp (by decide) _ ef (by split <;> omega) w hK
  have ep : (s.pc : Int) + 1 + (if t = true then y else z) = ((s.pc + 1 + (if t = true then y.toNat else z.toNat) : Nat) : Int) := by split <;> omega
  rw [ep] at H
  exact H
theorem stepAt_44 (y z k : Int) (d : Dat) (hd : DatOk d) (s : VmS) (hs : VmOk s) (hp : s.pc ≤ 1000) (left : Int) (hq : InsOk 44 y z k) (ho : oneL left (44, y, z, k) = 0) (hleft : left ≤ 64) (w : World) (hK : Kinds w) :
    Calls Tryz.prog 116 #[valI (44, y, z, k), datV d, vmV s] w fun e w' => e = .returned (stepR (44, y, z, k) d s) ∧ Below w.heap.size w w' := by
  have hpp : (0 : Int) ≤ (s.pc : Int) ∧ (s.pc : Int) ≤ 1000 := by omega
  have eb : (if formOf 44 = 1 ∨ formOf 44 = 5 then k else s.x) = s.x := by rw [form_at_44]; simp
  cases hv : alI 44 s.a s.x with
  | none =>
    have e : stepV alI hdI (44, y, z, k) (dW d) s = (some 0, s) := by simp [stepV, effV, form_at_44, hv]
    rw [stepR_ret e]
    exact step_div 44 y z k d hd s.pc s.a s.x s.mem hs.len hq hs.a hs.x hpp (by decide) (by rw [eb]; exact hv) w hK
  | some v =>
    have e : stepV alI hdI (44, y, z, k) (dW d) s = (none, ⟨s.pc + 1, v, s.x, s.mem⟩) := by simp [stepV, effV, form_at_44, hv]
    rw [stepR_go e]
    exact step_alu 44 y z k d hd s.pc s.a s.x s.mem hs.len hq hs.a hs.x hpp (by decide) v (by rw [eb]; exact hv) w hK
theorem stepAt_45 (y z k : Int) (d : Dat) (hd : DatOk d) (s : VmS) (hs : VmOk s) (hp : s.pc ≤ 1000) (left : Int) (hq : InsOk 45 y z k) (ho : oneL left (45, y, z, k) = 0) (hleft : left ≤ 64) (w : World) (hK : Kinds w) :
    Calls Tryz.prog 116 #[valI (45, y, z, k), datV d, vmV s] w fun e w' => e = .returned (stepR (45, y, z, k) d s) ∧ Below w.heap.size w w' := by
  have hpp : (0 : Int) ≤ (s.pc : Int) ∧ (s.pc : Int) ≤ 1000 := by omega
  obtain ⟨_, _, _, h5⟩ := oneL_ok ho
  have hyz := h5 (by rw [form_at_45]; simp)
  have hy0 := hq.a0
  have hz0 := hq.b0
  simp only at hyz
  obtain ⟨t, ht⟩ : ∃ t, hdI 45 s.a s.x = t := ⟨_, rfl⟩
  have ef : furI (45, y, z, k) s.a s.x = if t = true then y else z := by simp [furI, form_at_45, ht]
  have e : stepV alI hdI (45, y, z, k) (dW d) s = (none, ⟨s.pc + 1 + (if t = true then y.toNat else z.toNat), s.a, s.x, s.mem⟩) := by simp [stepV, form_at_45, ht]
  rw [stepR_go e]
  have H := step_jump 45 y z k d hd s.pc s.a s.x s.mem hs.len hq hs.a hs.x hpp (by decide) _ ef (by split <;> omega) w hK
  have ep : (s.pc : Int) + 1 + (if t = true then y else z) = ((s.pc + 1 + (if t = true then y.toNat else z.toNat) : Nat) : Int) := by split <;> omega
  rw [ep] at H
  exact H
theorem stepAt_52 (y z k : Int) (d : Dat) (hd : DatOk d) (s : VmS) (hs : VmOk s) (hp : s.pc ≤ 1000) (left : Int) (hq : InsOk 52 y z k) (ho : oneL left (52, y, z, k) = 0) (hleft : left ≤ 64) (w : World) (hK : Kinds w) :
    Calls Tryz.prog 116 #[valI (52, y, z, k), datV d, vmV s] w fun e w' => e = .returned (stepR (52, y, z, k) d s) ∧ Below w.heap.size w w' := by
  have hpp : (0 : Int) ≤ (s.pc : Int) ∧ (s.pc : Int) ≤ 1000 := by omega
  have eb : (if formOf 52 = 1 ∨ formOf 52 = 5 then k else s.x) = k := by rw [form_at_52]; simp
  cases hv : alI 52 s.a k with
  | none =>
    have e : stepV alI hdI (52, y, z, k) (dW d) s = (some 0, s) := by simp [stepV, effV, form_at_52, hv]
    rw [stepR_ret e]
    exact step_div 52 y z k d hd s.pc s.a s.x s.mem hs.len hq hs.a hs.x hpp (by decide) (by rw [eb]; exact hv) w hK
  | some v =>
    have e : stepV alI hdI (52, y, z, k) (dW d) s = (none, ⟨s.pc + 1, v, s.x, s.mem⟩) := by simp [stepV, effV, form_at_52, hv]
    rw [stepR_go e]
    exact step_alu 52 y z k d hd s.pc s.a s.x s.mem hs.len hq hs.a hs.x hpp (by decide) v (by rw [eb]; exact hv) w hK
theorem stepAt_53 (y z k : Int) (d : Dat) (hd : DatOk d) (s : VmS) (hs : VmOk s) (hp : s.pc ≤ 1000) (left : Int) (hq : InsOk 53 y z k) (ho : oneL left (53, y, z, k) = 0) (hleft : left ≤ 64) (w : World) (hK : Kinds w) :
    Calls Tryz.prog 116 #[valI (53, y, z, k), datV d, vmV s] w fun e w' => e = .returned (stepR (53, y, z, k) d s) ∧ Below w.heap.size w w' := by
  have hpp : (0 : Int) ≤ (s.pc : Int) ∧ (s.pc : Int) ≤ 1000 := by omega
  obtain ⟨_, _, _, h5⟩ := oneL_ok ho
  have hyz := h5 (by rw [form_at_53]; simp)
  have hy0 := hq.a0
  have hz0 := hq.b0
  simp only at hyz
  obtain ⟨t, ht⟩ : ∃ t, hdI 53 s.a k = t := ⟨_, rfl⟩
  have ef : furI (53, y, z, k) s.a s.x = if t = true then y else z := by simp [furI, form_at_53, ht]
  have e : stepV alI hdI (53, y, z, k) (dW d) s = (none, ⟨s.pc + 1 + (if t = true then y.toNat else z.toNat), s.a, s.x, s.mem⟩) := by simp [stepV, form_at_53, ht]
  rw [stepR_go e]
  have H := step_jump 53 y z k d hd s.pc s.a s.x s.mem hs.len hq hs.a hs.x hpp (by decide) _ ef (by split <;> omega) w hK
  have ep : (s.pc : Int) + 1 + (if t = true then y else z) = ((s.pc + 1 + (if t = true then y.toNat else z.toNat) : Nat) : Int) := by split <;> omega
  rw [ep] at H
  exact H
theorem stepAt_60 (y z k : Int) (d : Dat) (hd : DatOk d) (s : VmS) (hs : VmOk s) (hp : s.pc ≤ 1000) (left : Int) (hq : InsOk 60 y z k) (ho : oneL left (60, y, z, k) = 0) (hleft : left ≤ 64) (w : World) (hK : Kinds w) :
    Calls Tryz.prog 116 #[valI (60, y, z, k), datV d, vmV s] w fun e w' => e = .returned (stepR (60, y, z, k) d s) ∧ Below w.heap.size w w' := by
  have hpp : (0 : Int) ≤ (s.pc : Int) ∧ (s.pc : Int) ≤ 1000 := by omega
  have eb : (if formOf 60 = 1 ∨ formOf 60 = 5 then k else s.x) = s.x := by rw [form_at_60]; simp
  cases hv : alI 60 s.a s.x with
  | none =>
    have e : stepV alI hdI (60, y, z, k) (dW d) s = (some 0, s) := by simp [stepV, effV, form_at_60, hv]
    rw [stepR_ret e]
    exact step_div 60 y z k d hd s.pc s.a s.x s.mem hs.len hq hs.a hs.x hpp (by decide) (by rw [eb]; exact hv) w hK
  | some v =>
    have e : stepV alI hdI (60, y, z, k) (dW d) s = (none, ⟨s.pc + 1, v, s.x, s.mem⟩) := by simp [stepV, effV, form_at_60, hv]
    rw [stepR_go e]
    exact step_alu 60 y z k d hd s.pc s.a s.x s.mem hs.len hq hs.a hs.x hpp (by decide) v (by rw [eb]; exact hv) w hK
theorem stepAt_61 (y z k : Int) (d : Dat) (hd : DatOk d) (s : VmS) (hs : VmOk s) (hp : s.pc ≤ 1000) (left : Int) (hq : InsOk 61 y z k) (ho : oneL left (61, y, z, k) = 0) (hleft : left ≤ 64) (w : World) (hK : Kinds w) :
    Calls Tryz.prog 116 #[valI (61, y, z, k), datV d, vmV s] w fun e w' => e = .returned (stepR (61, y, z, k) d s) ∧ Below w.heap.size w w' := by
  have hpp : (0 : Int) ≤ (s.pc : Int) ∧ (s.pc : Int) ≤ 1000 := by omega
  obtain ⟨_, _, _, h5⟩ := oneL_ok ho
  have hyz := h5 (by rw [form_at_61]; simp)
  have hy0 := hq.a0
  have hz0 := hq.b0
  simp only at hyz
  obtain ⟨t, ht⟩ : ∃ t, hdI 61 s.a s.x = t := ⟨_, rfl⟩
  have ef : furI (61, y, z, k) s.a s.x = if t = true then y else z := by simp [furI, form_at_61, ht]
  have e : stepV alI hdI (61, y, z, k) (dW d) s = (none, ⟨s.pc + 1 + (if t = true then y.toNat else z.toNat), s.a, s.x, s.mem⟩) := by simp [stepV, form_at_61, ht]
  rw [stepR_go e]
  have H := step_jump 61 y z k d hd s.pc s.a s.x s.mem hs.len hq hs.a hs.x hpp (by decide) _ ef (by split <;> omega) w hK
  have ep : (s.pc : Int) + 1 + (if t = true then y else z) = ((s.pc + 1 + (if t = true then y.toNat else z.toNat) : Nat) : Int) := by split <;> omega
  rw [ep] at H
  exact H
theorem stepAt_68 (y z k : Int) (d : Dat) (hd : DatOk d) (s : VmS) (hs : VmOk s) (hp : s.pc ≤ 1000) (left : Int) (hq : InsOk 68 y z k) (ho : oneL left (68, y, z, k) = 0) (hleft : left ≤ 64) (w : World) (hK : Kinds w) :
    Calls Tryz.prog 116 #[valI (68, y, z, k), datV d, vmV s] w fun e w' => e = .returned (stepR (68, y, z, k) d s) ∧ Below w.heap.size w w' := by
  have hpp : (0 : Int) ≤ (s.pc : Int) ∧ (s.pc : Int) ≤ 1000 := by omega
  have eb : (if formOf 68 = 1 ∨ formOf 68 = 5 then k else s.x) = k := by rw [form_at_68]; simp
  cases hv : alI 68 s.a k with
  | none =>
    have e : stepV alI hdI (68, y, z, k) (dW d) s = (some 0, s) := by simp [stepV, effV, form_at_68, hv]
    rw [stepR_ret e]
    exact step_div 68 y z k d hd s.pc s.a s.x s.mem hs.len hq hs.a hs.x hpp (by decide) (by rw [eb]; exact hv) w hK
  | some v =>
    have e : stepV alI hdI (68, y, z, k) (dW d) s = (none, ⟨s.pc + 1, v, s.x, s.mem⟩) := by simp [stepV, effV, form_at_68, hv]
    rw [stepR_go e]
    exact step_alu 68 y z k d hd s.pc s.a s.x s.mem hs.len hq hs.a hs.x hpp (by decide) v (by rw [eb]; exact hv) w hK
theorem stepAt_69 (y z k : Int) (d : Dat) (hd : DatOk d) (s : VmS) (hs : VmOk s) (hp : s.pc ≤ 1000) (left : Int) (hq : InsOk 69 y z k) (ho : oneL left (69, y, z, k) = 0) (hleft : left ≤ 64) (w : World) (hK : Kinds w) :
    Calls Tryz.prog 116 #[valI (69, y, z, k), datV d, vmV s] w fun e w' => e = .returned (stepR (69, y, z, k) d s) ∧ Below w.heap.size w w' := by
  have hpp : (0 : Int) ≤ (s.pc : Int) ∧ (s.pc : Int) ≤ 1000 := by omega
  obtain ⟨_, _, _, h5⟩ := oneL_ok ho
  have hyz := h5 (by rw [form_at_69]; simp)
  have hy0 := hq.a0
  have hz0 := hq.b0
  simp only at hyz
  obtain ⟨t, ht⟩ : ∃ t, hdI 69 s.a k = t := ⟨_, rfl⟩
  have ef : furI (69, y, z, k) s.a s.x = if t = true then y else z := by simp [furI, form_at_69, ht]
  have e : stepV alI hdI (69, y, z, k) (dW d) s = (none, ⟨s.pc + 1 + (if t = true then y.toNat else z.toNat), s.a, s.x, s.mem⟩) := by simp [stepV, form_at_69, ht]
  rw [stepR_go e]
  have H := step_jump 69 y z k d hd s.pc s.a s.x s.mem hs.len hq hs.a hs.x hpp (by decide) _ ef (by split <;> omega) w hK
  have ep : (s.pc : Int) + 1 + (if t = true then y else z) = ((s.pc + 1 + (if t = true then y.toNat else z.toNat) : Nat) : Int) := by split <;> omega
  rw [ep] at H
  exact H
theorem stepAt_76 (y z k : Int) (d : Dat) (hd : DatOk d) (s : VmS) (hs : VmOk s) (hp : s.pc ≤ 1000) (left : Int) (hq : InsOk 76 y z k) (ho : oneL left (76, y, z, k) = 0) (hleft : left ≤ 64) (w : World) (hK : Kinds w) :
    Calls Tryz.prog 116 #[valI (76, y, z, k), datV d, vmV s] w fun e w' => e = .returned (stepR (76, y, z, k) d s) ∧ Below w.heap.size w w' := by
  have hpp : (0 : Int) ≤ (s.pc : Int) ∧ (s.pc : Int) ≤ 1000 := by omega
  have eb : (if formOf 76 = 1 ∨ formOf 76 = 5 then k else s.x) = s.x := by rw [form_at_76]; simp
  cases hv : alI 76 s.a s.x with
  | none =>
    have e : stepV alI hdI (76, y, z, k) (dW d) s = (some 0, s) := by simp [stepV, effV, form_at_76, hv]
    rw [stepR_ret e]
    exact step_div 76 y z k d hd s.pc s.a s.x s.mem hs.len hq hs.a hs.x hpp (by decide) (by rw [eb]; exact hv) w hK
  | some v =>
    have e : stepV alI hdI (76, y, z, k) (dW d) s = (none, ⟨s.pc + 1, v, s.x, s.mem⟩) := by simp [stepV, effV, form_at_76, hv]
    rw [stepR_go e]
    exact step_alu 76 y z k d hd s.pc s.a s.x s.mem hs.len hq hs.a hs.x hpp (by decide) v (by rw [eb]; exact hv) w hK
theorem stepAt_77 (y z k : Int) (d : Dat) (hd : DatOk d) (s : VmS) (hs : VmOk s) (hp : s.pc ≤ 1000) (left : Int) (hq : InsOk 77 y z k) (ho : oneL left (77, y, z, k) = 0) (hleft : left ≤ 64) (w : World) (hK : Kinds w) :
    Calls Tryz.prog 116 #[valI (77, y, z, k), datV d, vmV s] w fun e w' => e = .returned (stepR (77, y, z, k) d s) ∧ Below w.heap.size w w' := by
  have hpp : (0 : Int) ≤ (s.pc : Int) ∧ (s.pc : Int) ≤ 1000 := by omega
  obtain ⟨_, _, _, h5⟩ := oneL_ok ho
  have hyz := h5 (by rw [form_at_77]; simp)
  have hy0 := hq.a0
  have hz0 := hq.b0
  simp only at hyz
  obtain ⟨t, ht⟩ : ∃ t, hdI 77 s.a s.x = t := ⟨_, rfl⟩
  have ef : furI (77, y, z, k) s.a s.x = if t = true then y else z := by simp [furI, form_at_77, ht]
  have e : stepV alI hdI (77, y, z, k) (dW d) s = (none, ⟨s.pc + 1 + (if t = true then y.toNat else z.toNat), s.a, s.x, s.mem⟩) := by simp [stepV, form_at_77, ht]
  rw [stepR_go e]
  have H := step_jump 77 y z k d hd s.pc s.a s.x s.mem hs.len hq hs.a hs.x hpp (by decide) _ ef (by split <;> omega) w hK
  have ep : (s.pc : Int) + 1 + (if t = true then y else z) = ((s.pc + 1 + (if t = true then y.toNat else z.toNat) : Nat) : Int) := by split <;> omega
  rw [ep] at H
  exact H
theorem stepAt_84 (y z k : Int) (d : Dat) (hd : DatOk d) (s : VmS) (hs : VmOk s) (hp : s.pc ≤ 1000) (left : Int) (hq : InsOk 84 y z k) (ho : oneL left (84, y, z, k) = 0) (hleft : left ≤ 64) (w : World) (hK : Kinds w) :
    Calls Tryz.prog 116 #[valI (84, y, z, k), datV d, vmV s] w fun e w' => e = .returned (stepR (84, y, z, k) d s) ∧ Below w.heap.size w w' := by
  have hpp : (0 : Int) ≤ (s.pc : Int) ∧ (s.pc : Int) ≤ 1000 := by omega
  have eb : (if formOf 84 = 1 ∨ formOf 84 = 5 then k else s.x) = k := by rw [form_at_84]; simp
  cases hv : alI 84 s.a k with
  | none =>
    have e : stepV alI hdI (84, y, z, k) (dW d) s = (some 0, s) := by simp [stepV, effV, form_at_84, hv]
    rw [stepR_ret e]
    exact step_div 84 y z k d hd s.pc s.a s.x s.mem hs.len hq hs.a hs.x hpp (by decide) (by rw [eb]; exact hv) w hK
  | some v =>
    have e : stepV alI hdI (84, y, z, k) (dW d) s = (none, ⟨s.pc + 1, v, s.x, s.mem⟩) := by simp [stepV, effV, form_at_84, hv]
    rw [stepR_go e]
    exact step_alu 84 y z k d hd s.pc s.a s.x s.mem hs.len hq hs.a hs.x hpp (by decide) v (by rw [eb]; exact hv) w hK
theorem stepAt_92 (y z k : Int) (d : Dat) (hd : DatOk d) (s : VmS) (hs : VmOk s) (hp : s.pc ≤ 1000) (left : Int) (hq : InsOk 92 y z k) (ho : oneL left (92, y, z, k) = 0) (hleft : left ≤ 64) (w : World) (hK : Kinds w) :
    Calls Tryz.prog 116 #[valI (92, y, z, k), datV d, vmV s] w fun e w' => e = .returned (stepR (92, y, z, k) d s) ∧ Below w.heap.size w w' := by
  have hpp : (0 : Int) ≤ (s.pc : Int) ∧ (s.pc : Int) ≤ 1000 := by omega
  have eb : (if formOf 92 = 1 ∨ formOf 92 = 5 then k else s.x) = s.x := by rw [form_at_92]; simp
  cases hv : alI 92 s.a s.x with
  | none =>
    have e : stepV alI hdI (92, y, z, k) (dW d) s = (some 0, s) := by simp [stepV, effV, form_at_92, hv]
    rw [stepR_ret e]
    exact step_div 92 y z k d hd s.pc s.a s.x s.mem hs.len hq hs.a hs.x hpp (by decide) (by rw [eb]; exact hv) w hK
  | some v =>
    have e : stepV alI hdI (92, y, z, k) (dW d) s = (none, ⟨s.pc + 1, v, s.x, s.mem⟩) := by simp [stepV, effV, form_at_92, hv]
    rw [stepR_go e]
    exact step_alu 92 y z k d hd s.pc s.a s.x s.mem hs.len hq hs.a hs.x hpp (by decide) v (by rw [eb]; exact hv) w hK
theorem stepAt_96 (y z k : Int) (d : Dat) (hd : DatOk d) (s : VmS) (hs : VmOk s) (hp : s.pc ≤ 1000) (left : Int) (hq : InsOk 96 y z k) (ho : oneL left (96, y, z, k) = 0) (hleft : left ≤ 64) (w : World) (hK : Kinds w) :
    Calls Tryz.prog 116 #[valI (96, y, z, k), datV d, vmV s] w fun e w' => e = .returned (stepR (96, y, z, k) d s) ∧ Below w.heap.size w w' := by
  have hpp : (0 : Int) ≤ (s.pc : Int) ∧ (s.pc : Int) ≤ 1000 := by omega
  obtain ⟨_, h3, _, _⟩ := oneL_ok ho
  have e : stepV alI hdI (96, y, z, k) (dW d) s = (none, ⟨s.pc + 1, ldI (96, y, z, k) (dW d) s.mem, s.x, s.mem⟩) := by simp [stepV, effV, ldI, form_at_96]
  rw [stepR_go e]
  exact step_ld 96 y z k d hd s.pc s.a s.x s.mem hs.len hq hs.a hs.x hpp (by decide) (fun h => by rw [form_at_96] at h; cases h) (fun h => h3 h) w hK
theorem stepAt_97 (y z k : Int) (d : Dat) (hd : DatOk d) (s : VmS) (hs : VmOk s) (hp : s.pc ≤ 1000) (left : Int) (hq : InsOk 97 y z k) (ho : oneL left (97, y, z, k) = 0) (hleft : left ≤ 64) (w : World) (hK : Kinds w) :
    Calls Tryz.prog 116 #[valI (97, y, z, k), datV d, vmV s] w fun e w' => e = .returned (stepR (97, y, z, k) d s) ∧ Below w.heap.size w w' := by
  have hpp : (0 : Int) ≤ (s.pc : Int) ∧ (s.pc : Int) ≤ 1000 := by omega
  obtain ⟨_, h3, _, _⟩ := oneL_ok ho
  have e : stepV alI hdI (97, y, z, k) (dW d) s = (none, ⟨s.pc + 1, s.a, ldI (97, y, z, k) (dW d) s.mem, s.mem⟩) := by simp [stepV, effV, ldI, form_at_97]
  rw [stepR_go e]
  exact step_ldx 97 y z k d hd s.pc s.a s.x s.mem hs.len hq hs.a hs.x hpp (by decide) (fun h => by rw [form_at_97] at h; cases h) (fun h => h3 h) w hK
theorem stepAt_100 (y z k : Int) (d : Dat) (hd : DatOk d) (s : VmS) (hs : VmOk s) (hp : s.pc ≤ 1000) (left : Int) (hq : InsOk 100 y z k) (ho : oneL left (100, y, z, k) = 0) (hleft : left ≤ 64) (w : World) (hK : Kinds w) :
    Calls Tryz.prog 116 #[valI (100, y, z, k), datV d, vmV s] w fun e w' => e = .returned (stepR (100, y, z, k) d s) ∧ Below w.heap.size w w' := by
  have hpp : (0 : Int) ≤ (s.pc : Int) ∧ (s.pc : Int) ≤ 1000 := by omega
  have eb : (if formOf 100 = 1 ∨ formOf 100 = 5 then k else s.x) = k := by rw [form_at_100]; simp
  cases hv : alI 100 s.a k with
  | none =>
    have e : stepV alI hdI (100, y, z, k) (dW d) s = (some 0, s) := by simp [stepV, effV, form_at_100, hv]
    rw [stepR_ret e]
    exact step_div 100 y z k d hd s.pc s.a s.x s.mem hs.len hq hs.a hs.x hpp (by decide) (by rw [eb]; exact hv) w hK
  | some v =>
    have e : stepV alI hdI (100, y, z, k) (dW d) s = (none, ⟨s.pc + 1, v, s.x, s.mem⟩) := by simp [stepV, effV, form_at_100, hv]
    rw [stepR_go e]
    exact step_alu 100 y z k d hd s.pc s.a s.x s.mem hs.len hq hs.a hs.x hpp (by decide) v (by rw [eb]; exact hv) w hK
theorem stepAt_108 (y z k : Int) (d : Dat) (hd : DatOk d) (s : VmS) (hs : VmOk s) (hp : s.pc ≤ 1000) (left : Int) (hq : InsOk 108 y z k) (ho : oneL left (108, y, z, k) = 0) (hleft : left ≤ 64) (w : World) (hK : Kinds w) :
    Calls Tryz.prog 116 #[valI (108, y, z, k), datV d, vmV s] w fun e w' => e = .returned (stepR (108, y, z, k) d s) ∧ Below w.heap.size w w' := by
  have hpp : (0 : Int) ≤ (s.pc : Int) ∧ (s.pc : Int) ≤ 1000 := by omega
  have eb : (if formOf 108 = 1 ∨ formOf 108 = 5 then k else s.x) = s.x := by rw [form_at_108]; simp
  cases hv : alI 108 s.a s.x with
  | none =>
    have e : stepV alI hdI (108, y, z, k) (dW d) s = (some 0, s) := by simp [stepV, effV, form_at_108, hv]
    rw [stepR_ret e]
    exact step_div 108 y z k d hd s.pc s.a s.x s.mem hs.len hq hs.a hs.x hpp (by decide) (by rw [eb]; exact hv) w hK
  | some v =>
    have e : stepV alI hdI (108, y, z, k) (dW d) s = (none, ⟨s.pc + 1, v, s.x, s.mem⟩) := by simp [stepV, effV, form_at_108, hv]
    rw [stepR_go e]
    exact step_alu 108 y z k d hd s.pc s.a s.x s.mem hs.len hq hs.a hs.x hpp (by decide) v (by rw [eb]; exact hv) w hK
theorem stepAt_116 (y z k : Int) (d : Dat) (hd : DatOk d) (s : VmS) (hs : VmOk s) (hp : s.pc ≤ 1000) (left : Int) (hq : InsOk 116 y z k) (ho : oneL left (116, y, z, k) = 0) (hleft : left ≤ 64) (w : World) (hK : Kinds w) :
    Calls Tryz.prog 116 #[valI (116, y, z, k), datV d, vmV s] w fun e w' => e = .returned (stepR (116, y, z, k) d s) ∧ Below w.heap.size w w' := by
  have hpp : (0 : Int) ≤ (s.pc : Int) ∧ (s.pc : Int) ≤ 1000 := by omega
  have eb : (if formOf 116 = 1 ∨ formOf 116 = 5 then k else s.x) = k := by rw [form_at_116]; simp
  cases hv : alI 116 s.a k with
  | none =>
    have e : stepV alI hdI (116, y, z, k) (dW d) s = (some 0, s) := by simp [stepV, effV, form_at_116, hv]
    rw [stepR_ret e]
    exact step_div 116 y z k d hd s.pc s.a s.x s.mem hs.len hq hs.a hs.x hpp (by decide) (by rw [eb]; exact hv) w hK
  | some v =>
    have e : stepV alI hdI (116, y, z, k) (dW d) s = (none, ⟨s.pc + 1, v, s.x, s.mem⟩) := by simp [stepV, effV, form_at_116, hv]
    rw [stepR_go e]
    exact step_alu 116 y z k d hd s.pc s.a s.x s.mem hs.len hq hs.a hs.x hpp (by decide) v (by rw [eb]; exact hv) w hK
theorem stepAt_124 (y z k : Int) (d : Dat) (hd : DatOk d) (s : VmS) (hs : VmOk s) (hp : s.pc ≤ 1000) (left : Int) (hq : InsOk 124 y z k) (ho : oneL left (124, y, z, k) = 0) (hleft : left ≤ 64) (w : World) (hK : Kinds w) :
    Calls Tryz.prog 116 #[valI (124, y, z, k), datV d, vmV s] w fun e w' => e = .returned (stepR (124, y, z, k) d s) ∧ Below w.heap.size w w' := by
  have hpp : (0 : Int) ≤ (s.pc : Int) ∧ (s.pc : Int) ≤ 1000 := by omega
  have eb : (if formOf 124 = 1 ∨ formOf 124 = 5 then k else s.x) = s.x := by rw [form_at_124]; simp
  cases hv : alI 124 s.a s.x with
  | none =>
    have e : stepV alI hdI (124, y, z, k) (dW d) s = (some 0, s) := by simp [stepV, effV, form_at_124, hv]
    rw [stepR_ret e]
    exact step_div 124 y z k d hd s.pc s.a s.x s.mem hs.len hq hs.a hs.x hpp (by decide) (by rw [eb]; exact hv) w hK
  | some v =>
    have e : stepV alI hdI (124, y, z, k) (dW d) s = (none, ⟨s.pc + 1, v, s.x, s.mem⟩) := by simp [stepV, effV, form_at_124, hv]
    rw [stepR_go e]
    exact step_alu 124 y z k d hd s.pc s.a s.x s.mem hs.len hq hs.a hs.x hpp (by decide) v (by rw [eb]; exact hv) w hK
theorem stepAt_128 (y z k : Int) (d : Dat) (hd : DatOk d) (s : VmS) (hs : VmOk s) (hp : s.pc ≤ 1000) (left : Int) (hq : InsOk 128 y z k) (ho : oneL left (128, y, z, k) = 0) (hleft : left ≤ 64) (w : World) (hK : Kinds w) :
    Calls Tryz.prog 116 #[valI (128, y, z, k), datV d, vmV s] w fun e w' => e = .returned (stepR (128, y, z, k) d s) ∧ Below w.heap.size w w' := by
  have hpp : (0 : Int) ≤ (s.pc : Int) ∧ (s.pc : Int) ≤ 1000 := by omega
  obtain ⟨_, h3, _, _⟩ := oneL_ok ho
  have e : stepV alI hdI (128, y, z, k) (dW d) s = (none, ⟨s.pc + 1, ldI (128, y, z, k) (dW d) s.mem, s.x, s.mem⟩) := by simp [stepV, effV, ldI, form_at_128]
  rw [stepR_go e]
  exact step_ld 128 y z k d hd s.pc s.a s.x s.mem hs.len hq hs.a hs.x hpp (by decide) (fun h => by rw [form_at_128] at h; cases h) (fun h => h3 h) w hK
theorem stepAt_129 (y z k : Int) (d : Dat) (hd : DatOk d) (s : VmS) (hs : VmOk s) (hp : s.pc ≤ 1000) (left : Int) (hq : InsOk 129 y z k) (ho : oneL left (129, y, z, k) = 0) (hleft : left ≤ 64) (w : World) (hK : Kinds w) :
    Calls Tryz.prog 116 #[valI (129, y, z, k), datV d, vmV s] w fun e w' => e = .returned (stepR (129, y, z, k) d s) ∧ Below w.heap.size w w' := by
  have hpp : (0 : Int) ≤ (s.pc : Int) ∧ (s.pc : Int) ≤ 1000 := by omega
  obtain ⟨_, h3, _, _⟩ := oneL_ok ho
  have e : stepV alI hdI (129, y, z, k) (dW d) s = (none, ⟨s.pc + 1, s.a, ldI (129, y, z, k) (dW d) s.mem, s.mem⟩) := by simp [stepV, effV, ldI, form_at_129]
  rw [stepR_go e]
  exact step_ldx 129 y z k d hd s.pc s.a s.x s.mem hs.len hq hs.a hs.x hpp (by decide) (fun h => by rw [form_at_129] at h; cases h) (fun h => h3 h) w hK
theorem stepAt_132 (y z k : Int) (d : Dat) (hd : DatOk d) (s : VmS) (hs : VmOk s) (hp : s.pc ≤ 1000) (left : Int) (hq : InsOk 132 y z k) (ho : oneL left (132, y, z, k) = 0) (hleft : left ≤ 64) (w : World) (hK : Kinds w) :
    Calls Tryz.prog 116 #[valI (132, y, z, k), datV d, vmV s] w fun e w' => e = .returned (stepR (132, y, z, k) d s) ∧ Below w.heap.size w w' := by
  have hpp : (0 : Int) ≤ (s.pc : Int) ∧ (s.pc : Int) ≤ 1000 := by omega
  have ev : ∀ b, alI 132 s.a b = some (IntKind.u32.wrap (-s.a)) := fun b => by simp [alI, opK]
  have e : stepV alI hdI (132, y, z, k) (dW d) s = (none, ⟨s.pc + 1, IntKind.u32.wrap (-s.a), s.x, s.mem⟩) := by simp [stepV, effV, form_at_132, ev]
  rw [stepR_go e]
  exact step_alu 132 y z k d hd s.pc s.a s.x s.mem hs.len hq hs.a hs.x hpp (by decide) _ (ev _) w hK
theorem stepAt_135 (y z k : Int) (d : Dat) (hd : DatOk d) (s : VmS) (hs : VmOk s) (hp : s.pc ≤ 1000) (left : Int) (hq : InsOk 135 y z k) (ho : oneL left (135, y, z, k) = 0) (hleft : left ≤ 64) (w : World) (hK : Kinds w) :
    Calls Tryz.prog 116 #[valI (135, y, z, k), datV d, vmV s] w fun e w' => e = .returned (stepR (135, y, z, k) d s) ∧ Below w.heap.size w w' := by
  have hpp : (0 : Int) ≤ (s.pc : Int) ∧ (s.pc : Int) ≤ 1000 := by omega
  have e : stepV alI hdI (135, y, z, k) (dW d) s = (none, ⟨s.pc + 1, s.x, s.x, s.mem⟩) := by simp [stepV, effV, form_at_135]
  rw [stepR_go e]
  have H := step_mov 135 y z k d hd s.pc s.a s.x s.mem hs.len hq hs.a hs.x hpp (by decide) w hK
  rw [if_neg txa_name] at H
  exact H
theorem stepAt_164 (y z k : Int) (d : Dat) (hd : DatOk d) (s : VmS) (hs : VmOk s) (hp : s.pc ≤ 1000) (left : Int) (hq : InsOk 164 y z k) (ho : oneL left (164, y, z, k) = 0) (hleft : left ≤ 64) (w : World) (hK : Kinds w) :
    Calls Tryz.prog 116 #[valI (164, y, z, k), datV d, vmV s] w fun e w' => e = .returned (stepR (164, y, z, k) d s) ∧ Below w.heap.size w w' := by
  have hpp : (0 : Int) ≤ (s.pc : Int) ∧ (s.pc : Int) ≤ 1000 := by omega
  have eb : (if formOf 164 = 1 ∨ formOf 164 = 5 then k else s.x) = k := by rw [form_at_164]; simp
  cases hv : alI 164 s.a k with
  | none =>
    have e : stepV alI hdI (164, y, z, k) (dW d) s = (some 0, s) := by simp [stepV, effV, form_at_164, hv]
    rw [stepR_ret e]
    exact step_div 164 y z k d hd s.pc s.a s.x s.mem hs.len hq hs.a hs.x hpp (by decide) (by rw [eb]; exact hv) w hK
  | some v =>
    have e : stepV alI hdI (164, y, z, k) (dW d) s = (none, ⟨s.pc + 1, v, s.x, s.mem⟩) := by simp [stepV, effV, form_at_164, hv]
    rw [stepR_go e]
    exact step_alu 164 y z k d hd s.pc s.a s.x s.mem hs.len hq hs.a hs.x hpp (by decide) v (by rw [eb]; exact hv) w hK
theorem stepAt_172 (y z k : Int) (d : Dat) (hd : DatOk d) (s : VmS) (hs : VmOk s) (hp : s.pc ≤ 1000) (left : Int) (hq : InsOk 172 y z k) (ho : oneL left (172, y, z, k) = 0) (hleft : left ≤ 64) (w : World) (hK : Kinds w) :
    Calls Tryz.prog 116 #[valI (172, y, z, k), datV d, vmV s] w fun e w' => e = .returned (stepR (172, y, z, k) d s) ∧ Below w.heap.size w w' := by
  have hpp : (0 : Int) ≤ (s.pc : Int) ∧ (s.pc : Int) ≤ 1000 := by omega
  have eb : (if formOf 172 = 1 ∨ formOf 172 = 5 then k else s.x) = s.x := by rw [form_at_172]; simp
  cases hv : alI 172 s.a s.x with
  | none =>
    have e : stepV alI hdI (172, y, z, k) (dW d) s = (some 0, s) := by simp [stepV, effV, form_at_172, hv]
    rw [stepR_ret e]
    exact step_div 172 y z k d hd s.pc s.a s.x s.mem hs.len hq hs.a hs.x hpp (by decide) (by rw [eb]; exact hv) w hK
  | some v =>
    have e : stepV alI hdI (172, y, z, k) (dW d) s = (none, ⟨s.pc + 1, v, s.x, s.mem⟩) := by simp [stepV, effV, form_at_172, hv]
    rw [stepR_go e]
    exact step_alu 172 y z k d hd s.pc s.a s.x s.mem hs.len hq hs.a hs.x hpp (by decide) v (by rw [eb]; exact hv) w hK
theorem step_any (q : Ins) (d : Dat) (hd : DatOk d) (s : VmS) (hs : VmOk s) (hp : s.pc ≤ 1000) (left : Int) (hq : insO q) (ho : oneL left q = 0) (hleft : left ≤ 64) (w : World) (hK : Kinds w) :
    Calls Tryz.prog 116 #[valI q, datV d, vmV s] w fun e w' => e = .returned (stepR q d s) ∧ Below w.heap.size w w' := by
  obtain ⟨c, y, z, k⟩ := q
  have hr := row_list (oneL_ok ho).1
  simp only [List.mem_cons, List.not_mem_nil, or_false] at hr
  rcases hr with rfl | rfl | rfl | rfl | rfl | rfl | rfl | rfl | rfl | rfl | rfl | rfl | rfl | rfl | rfl | rfl | rfl | rfl | rfl | rfl | rfl | rfl | rfl | rfl | rfl | rfl | rfl | rfl | rfl | rfl | rfl | rfl | rfl | rfl | rfl | rfl | rfl | rfl | rfl | rfl | rfl
  · exact stepAt_0 y z k d hd s hs hp left hq ho hleft w hK
  · exact stepAt_1 y z k d hd s hs hp left hq ho hleft w hK
  · exact stepAt_2 y z k d hd s hs hp left hq ho hleft w hK
  · exact stepAt_3 y z k d hd s hs hp left hq ho hleft w hK
  · exact stepAt_4 y z k d hd s hs hp left hq ho hleft w hK
  · exact stepAt_5 y z k d hd s hs hp left hq ho hleft w hK
  · exact stepAt_6 y z k d hd s hs hp left hq ho hleft w hK
  · exact stepAt_7 y z k d hd s hs hp left hq ho hleft w hK
  · exact stepAt_12 y z k d hd s hs hp left hq ho hleft w hK
  · exact stepAt_20 y z k d hd s hs hp left hq ho hleft w hK
  · exact stepAt_21 y z k d hd s hs hp left hq ho hleft w hK
  · exact stepAt_22 y z k d hd s hs hp left hq ho hleft w hK
  · exact stepAt_28 y z k d hd s hs hp left hq ho hleft w hK
  · exact stepAt_29 y z k d hd s hs hp left hq ho hleft w hK
  · exact stepAt_32 y z k d hd s hs hp left hq ho hleft w hK
  · exact stepAt_36 y z k d hd s hs hp left hq ho hleft w hK
  · exact stepAt_37 y z k d hd s hs hp left hq ho hleft w hK
  · exact stepAt_44 y z k d hd s hs hp left hq ho hleft w hK
  · exact stepAt_45 y z k d hd s hs hp left hq ho hleft w hK
  · exact stepAt_52 y z k d hd s hs hp left hq ho hleft w hK
  · exact stepAt_53 y z k d hd s hs hp left hq ho hleft w hK
  · exact stepAt_60 y z k d hd s hs hp left hq ho hleft w hK
  · exact stepAt_61 y z k d hd s hs hp left hq ho hleft w hK
  · exact stepAt_68 y z k d hd s hs hp left hq ho hleft w hK
  · exact stepAt_69 y z k d hd s hs hp left hq ho hleft w hK
  · exact stepAt_76 y z k d hd s hs hp left hq ho hleft w hK
  · exact stepAt_77 y z k d hd s hs hp left hq ho hleft w hK
  · exact stepAt_84 y z k d hd s hs hp left hq ho hleft w hK
  · exact stepAt_92 y z k d hd s hs hp left hq ho hleft w hK
  · exact stepAt_96 y z k d hd s hs hp left hq ho hleft w hK
  · exact stepAt_97 y z k d hd s hs hp left hq ho hleft w hK
  · exact stepAt_100 y z k d hd s hs hp left hq ho hleft w hK
  · exact stepAt_108 y z k d hd s hs hp left hq ho hleft w hK
  · exact stepAt_116 y z k d hd s hs hp left hq ho hleft w hK
  · exact stepAt_124 y z k d hd s hs hp left hq ho hleft w hK
  · exact stepAt_128 y z k d hd s hs hp left hq ho hleft w hK
  · exact stepAt_129 y z k d hd s hs hp left hq ho hleft w hK
  · exact stepAt_132 y z k d hd s hs hp left hq ho hleft w hK
  · exact stepAt_135 y z k d hd s hs hp left hq ho hleft w hK
  · exact stepAt_164 y z k d hd s hs hp left hq ho hleft w hK
  · exact stepAt_172 y z k d hd s hs hp left hq ho hleft w hK
end Go.Proofs.YtelfdpcenplhjaaGreatDoor
namespace Go.Proofs.YtelfdpcenplhjaaGreatDoor
open Go.RowKit
def KeptO (o : Obj) : Prop := o.isWalk = true ∨ ∃ cs t fz, o = .cells cs t fz ∧ (t = 149 ∧ cs.size = 19 ∨ t = 25 ∨ t = 64)
def KeepV (n₀ : Nat) (W W' : World) : Prop := Below n₀ W W' ∧ ∀ (k : Nat) (o : Obj), W.heap[k]? = some o → KeptO o → W'.heap[k]? = some o
theorem keepV_refl (n₀ : Nat) (W : World) : KeepV n₀ W W := ⟨Below.refl _ _, fun _ _ h _ => h⟩
theorem keepV_t {n₀ : Nat} {A B C : World} (h : KeepV n₀ A B) (k : KeepV n₀ B C) : KeepV n₀ A C := ⟨h.1.trans k.1, fun j o hj ho => k.2 j o (h.2 j o hj ho) ho⟩
theorem keepV_b {n₀ : Nat} {w : World} (hn : n₀ ≤ w.heap.size) (W : World) (l : Nat) (o o' : Obj) (hl : w.heap.size ≤ l) (h : W.heap[l]? = some o) (a : o.isCells = false) (b : o.isWalk = false) : KeepV n₀ W (W.putObj l o') := by
  refine ⟨belowK_b hn W l o o' hl h a b, fun j o2 hj ho => ?_⟩
  have hne : j ≠ l := by
    rintro rfl
    rw [h] at hj
    cases hj
    rcases ho with ho | ⟨cs, t, fz, rfl, _⟩
    · rw [b] at ho; cases ho
    · cases a
  exact (World.putObj_heap_other hne).trans hj
theorem KeepV.mono {n₀ n₁ : Nat} {w w' : World} (h : KeepV n₁ w w') (hn : n₀ ≤ n₁) : KeepV n₀ w w' := ⟨h.1.mono hn, h.2⟩
theorem KeepV.blk {n₀ : Nat} {w w' : World} (h : KeepV n₀ w w') {g : Nat} {cs : Array Value} {t : TypeId} (k : Blk w g cs t) (ht : t = 149 ∧ cs.size = 19 ∨ t = 25 ∨ t = 64) : Blk w' g cs t := ⟨h.2 g _ k.blk (.inr ⟨cs, t, _, rfl, ht⟩)⟩
theorem keepV_set {n₀ b : Nat} {w : World} {v u : Value} {t : TypeId} (hv : Boxed w b t v) (hn : n₀ ≤ b) (h1 : t ≠ 149) (h2 : t ≠ 25) (h3 : t ≠ 64) : KeepV n₀ w (w.setCell ⟨b, 0, none⟩ u) := by
  refine ⟨(Below.refl _ _).setCell (p := ⟨b, 0, none⟩) hn u, fun j o hj ho => (Below.heap_setCell w ⟨b, 0, none⟩ u j ?_).trans hj⟩
  rintro rfl
  rw [show w.heap[_]? = _ from hv] at hj
  cases hj
  rcases ho with ho | ⟨cs, t', fz, ho, h⟩
  · cases ho
  · injection ho with _ ho
    subst ho
    rcases h with ⟨h, _⟩ | h | h
    · exact h1 h
    · exact h2 h
    · exact h3 h
end Go.Proofs.YtelfdpcenplhjaaGreatDoor

/-
  vm.step, whatever instruction that may stand; the machine behind a step is one.
-/
import Derived.Test.YtejhamkmfnfmoaaDoorAluU
import Derived.Test.YtejhamkmfnfmoaaDoorVmP
namespace Go.Proofs.YtejhamkmfnfmoaaDoor
open Go.RowKit
set_option linter.unusedVariables false

theorem row_list {c : Int} (h : rowC c ≠ none) : c ∈ ([0, 1, 2, 3, 4, 5, 6, 7, 12, 20, 21, 22, 28, 29, 32, 36, 37, 44, 45, 52, 53, 60, 61, 68, 69, 76, 77, 84, 92, 96, 97, 100, 108, 116, 124, 128, 129, 132, 135, 164, 172] : List Int) := by
  cases hr : rowC c with
  | none => exact absurd hr h
  | some i =>
    obtain ⟨hi, rfl⟩ := rowC_some hr
    have hall : ((List.range 41).all fun i => ([0, 1, 2, 3, 4, 5, 6, 7, 12, 20, 21, 22, 28, 29, 32, 36, 37, 44, 45, 52, 53, 60, 61, 68, 69, 76, 77, 84, 92, 96, 97, 100, 108, 116, 124, 128, 129, 132, 135, 164, 172] : List Int).contains (kC i)) = true := by decide
    simpa using List.all_eq_true.1 hall i (List.mem_range.2 hi)
theorem form_at_0 : formOf 0 = 1 := by rfl
theorem form_at_1 : formOf 1 = 1 := by rfl
theorem form_at_2 : formOf 2 = 3 := by rfl
theorem form_at_3 : formOf 3 = 3 := by rfl
theorem form_at_4 : formOf 4 = 1 := by rfl
theorem form_at_5 : formOf 5 = 4 := by rfl
theorem form_at_6 : formOf 6 = 1 := by rfl
theorem form_at_7 : formOf 7 = 0 := by rfl
theorem form_at_12 : formOf 12 = 0 := by rfl
theorem form_at_20 : formOf 20 = 1 := by rfl
theorem form_at_21 : formOf 21 = 5 := by rfl
theorem form_at_22 : formOf 22 = 0 := by rfl
theorem form_at_28 : formOf 28 = 0 := by rfl
theorem form_at_29 : formOf 29 = 6 := by rfl
theorem form_at_32 : formOf 32 = 2 := by rfl
theorem form_at_36 : formOf 36 = 1 := by rfl
theorem form_at_37 : formOf 37 = 5 := by rfl
theorem form_at_44 : formOf 44 = 0 := by rfl
theorem form_at_45 : formOf 45 = 6 := by rfl
theorem form_at_52 : formOf 52 = 1 := by rfl
theorem form_at_53 : formOf 53 = 5 := by rfl
theorem form_at_60 : formOf 60 = 0 := by rfl
theorem form_at_61 : formOf 61 = 6 := by rfl
theorem form_at_68 : formOf 68 = 1 := by rfl
theorem form_at_69 : formOf 69 = 5 := by rfl
theorem form_at_76 : formOf 76 = 0 := by rfl
theorem form_at_77 : formOf 77 = 6 := by rfl
theorem form_at_84 : formOf 84 = 1 := by rfl
theorem form_at_92 : formOf 92 = 0 := by rfl
theorem form_at_96 : formOf 96 = 3 := by rfl
theorem form_at_97 : formOf 97 = 3 := by rfl
theorem form_at_100 : formOf 100 = 1 := by rfl
theorem form_at_108 : formOf 108 = 0 := by rfl
theorem form_at_116 : formOf 116 = 1 := by rfl
theorem form_at_124 : formOf 124 = 0 := by rfl
theorem form_at_128 : formOf 128 = 0 := by rfl
theorem form_at_129 : formOf 129 = 0 := by rfl
theorem form_at_132 : formOf 132 = 0 := by rfl
theorem form_at_135 : formOf 135 = 0 := by rfl
theorem form_at_164 : formOf 164 = 1 := by rfl
theorem form_at_172 : formOf 172 = 0 := by rfl
theorem tax_name : (nameOf 7).1.toList = [116, 97, 120] := by simp [show (nameOf 7).1 = ⟨#[116, 97, 120]⟩ from rfl]
theorem txa_name : ¬ (nameOf 135).1.toList = [116, 97, 120] := by simp [show (nameOf 135).1 = ⟨#[116, 120, 97]⟩ from rfl]
theorem one_word {left y z k : Int} (h : oneL left (32, y, z, k) = 0) : rightB k = true := by
  by_cases hk : k % 4 ≠ 0 ∨ 64 ≤ k
  · unfold oneL at h
    rw [if_neg (by decide : ¬ rowC 32 = none), if_pos ⟨rfl, hk⟩] at h
    cases h
  · unfold rightB
    simp only [decide_eq_true_eq]
    omega
/-- What step answers, in Go's own terms. -/
def stepR (q : Ins) (d : Dat) (s : VmS) : Value := .tuple #[vmV (stepV alI hdI q (dW d) s).2, .int .u32 (match (stepV alI hdI q (dW d) s).1 with | some r => r | none => 0), .bool (match (stepV alI hdI q (dW d) s).1 with | some _ => true | none => false)]
theorem stepR_go {q : Ins} {d : Dat} {s s' : VmS} (h : stepV alI hdI q (dW d) s = (none, s')) : stepR q d s = .tuple #[vmV s', .int .u32 0, .bool false] := by unfold stepR; rw [h]
theorem stepR_ret {q : Ins} {d : Dat} {s s' : VmS} {r : Int} (h : stepV alI hdI q (dW d) s = (some r, s')) : stepR q d s = .tuple #[vmV s', .int .u32 r, .bool true] := by unfold stepR; rw [h]

theorem set_U32 {l : List Int} (h : U32s l) (k : Nat) {v : Int} (hv : U32 v) : U32s (l.set k v) := by
  intro z hz
  rcases List.mem_or_eq_of_mem_set hz with h1 | h1
  · exact h z h1
  · rw [h1]; exact hv
theorem eff_ok {q : Ins} {d : Int → Int} {s : VmS} {e : Int × Int × List Int} (hq : insO q) (hd : ∀ o, U32 (d o)) (hs : VmOk s) (h : effV alI q d s = some e) : U32 e.1 ∧ U32 e.2.1 ∧ e.2.2.length = 16 ∧ U32s e.2.2 := by
  have hk : U32 q.2.2.2 := ⟨hq.k0, hq.k1⟩
  have h64 : U32 64 := by unfold U32; omega
  have hm : ∀ n, U32 (s.mem.getD n 0) := fun n => hs.mem.at_ n
  have hl := hs.len
  have hM := hs.mem
  have ha := hs.a
  have hx := hs.x
  unfold effV at h
  by_cases c32 : q.1 = 32
  · rw [if_pos c32] at h; injection h with h; subst h; exact ⟨hd _, hx, hl, hM⟩
  rw [if_neg c32] at h
  by_cases c128 : q.1 = 128
  · rw [if_pos c128] at h; injection h with h; subst h; exact ⟨h64, hx, hl, hM⟩
  rw [if_neg c128] at h
  by_cases c129 : q.1 = 129
  · rw [if_pos c129] at h; injection h with h; subst h; exact ⟨ha, h64, hl, hM⟩
  rw [if_neg c129] at h
  by_cases c0 : q.1 = 0
  · rw [if_pos c0] at h; injection h with h; subst h; exact ⟨hk, hx, hl, hM⟩
  rw [if_neg c0] at h
  by_cases c1 : q.1 = 1
  · rw [if_pos c1] at h; injection h with h; subst h; exact ⟨ha, hk, hl, hM⟩
  rw [if_neg c1] at h
  by_cases c96 : q.1 = 96
  · rw [if_pos c96] at h; injection h with h; subst h; exact ⟨hm _, hx, hl, hM⟩
  rw [if_neg c96] at h
  by_cases c97 : q.1 = 97
  · rw [if_pos c97] at h; injection h with h; subst h; exact ⟨ha, hm _, hl, hM⟩
  rw [if_neg c97] at h
  by_cases c2 : q.1 = 2
  · rw [if_pos c2] at h; injection h with h; subst h; exact ⟨ha, hx, by simpa using hl, set_U32 hM _ ha⟩
  rw [if_neg c2] at h
  by_cases c3 : q.1 = 3
  · rw [if_pos c3] at h; injection h with h; subst h; exact ⟨ha, hx, by simpa using hl, set_U32 hM _ hx⟩
  rw [if_neg c3] at h
  by_cases c7 : q.1 = 7
  · rw [if_pos c7] at h; injection h with h; subst h; exact ⟨ha, ha, hl, hM⟩
  rw [if_neg c7] at h
  by_cases c135 : q.1 = 135
  · rw [if_pos c135] at h; injection h with h; subst h; exact ⟨hx, hx, hl, hM⟩
  rw [if_neg c135] at h
  rw [Option.map_eq_some_iff] at h
  obtain ⟨v, hv, rfl⟩ := h
  exact ⟨al_U32 ha (by by_cases hc : q.1 % 16 = 12; rw [if_pos hc]; exact hx; rw [if_neg hc]; exact hk) hv, hx, hl, hM⟩
theorem step_ok {q : Ins} {d : Int → Int} {s s' : VmS} {r : Option Int} (hq : insO q) (hd : ∀ o, U32 (d o)) (hs : VmOk s) (h : stepV alI hdI q d s = (r, s')) : VmOk s' := by
  unfold stepV at h
  by_cases c6 : q.1 = 6
  · rw [if_pos c6] at h; injection h with _ h; subst h; exact hs
  rw [if_neg c6] at h
  by_cases c22 : q.1 = 22
  · rw [if_pos c22] at h; injection h with _ h; subst h; exact hs
  rw [if_neg c22] at h
  by_cases c5 : q.1 = 5
  · rw [if_pos c5] at h; injection h with _ h; subst h; exact ⟨hs.a, hs.x, hs.len, hs.mem⟩
  rw [if_neg c5] at h
  by_cases cj : formOf q.1 = 5 ∨ formOf q.1 = 6
  · rw [if_pos cj] at h; injection h with _ h; subst h; exact ⟨hs.a, hs.x, hs.len, hs.mem⟩
  rw [if_neg cj] at h
  cases he : effV alI q d s with
  | none => rw [he] at h; injection h with _ h; subst h; exact hs
  | some e =>
    obtain ⟨h1, h2, h3, h4⟩ := eff_ok hq hd hs he
    rw [he] at h
    injection h with _ h
    subst h
    exact ⟨h1, h2, h3, h4⟩

theorem stepAt_0 (y z k : Int) (d : Dat) (hd : DatOk d) (s : VmS) (hs : VmOk s) (hp : s.pc ≤ 1000) (left : Int) (hq : InsOk 0 y z k) (ho : oneL left (0, y, z, k) = 0) (hleft : left ≤ 64) (w : World) (hK : Kinds w) :
    Calls Tryd.prog 55 #[valI (0, y, z, k), datV d, vmV s] w fun e w' => e = .returned (stepR (0, y, z, k) d s) ∧ Below w.heap.size w w' := by
  have hpp : (0 : Int) ≤ (s.pc : Int) ∧ (s.pc : Int) ≤ 1000 := by omega
  obtain ⟨_, h3, _, _⟩ := oneL_ok ho
  have e : stepV alI hdI (0, y, z, k) (dW d) s = (none, ⟨s.pc + 1, ldI (0, y, z, k) (dW d) s.mem, s.x, s.mem⟩) := by simp [stepV, effV, ldI, form_at_0]
  rw [stepR_go e]
  exact step_ld 0 y z k d hd s.pc s.a s.x s.mem hs.len hq hs.a hs.x hpp (by decide) (fun h => by rw [form_at_0] at h; cases h) (fun h => h3 h) w hK

theorem stepAt_1 (y z k : Int) (d : Dat) (hd : DatOk d) (s : VmS) (hs : VmOk s) (hp : s.pc ≤ 1000) (left : Int) (hq : InsOk 1 y z k) (ho : oneL left (1, y, z, k) = 0) (hleft : left ≤ 64) (w : World) (hK : Kinds w) :
    Calls Tryd.prog 55 #[valI (1, y, z, k), datV d, vmV s] w fun e w' => e = .returned (stepR (1, y, z, k) d s) ∧ Below w.heap.size w w' := by
  have hpp : (0 : Int) ≤ (s.pc : Int) ∧ (s.pc : Int) ≤ 1000 := by omega
  obtain ⟨_, h3, _, _⟩ := oneL_ok ho
  have e : stepV alI hdI (1, y, z, k) (dW d) s = (none, ⟨s.pc + 1, s.a, ldI (1, y, z, k) (dW d) s.mem, s.mem⟩) := by simp [stepV, effV, ldI, form_at_1]
  rw [stepR_go e]
  exact step_ldx 1 y z k d hd s.pc s.a s.x s.mem hs.len hq hs.a hs.x hpp (by decide) (fun h => by rw [form_at_1] at h; cases h) (fun h => h3 h) w hK

theorem stepAt_2 (y z k : Int) (d : Dat) (hd : DatOk d) (s : VmS) (hs : VmOk s) (hp : s.pc ≤ 1000) (left : Int) (hq : InsOk 2 y z k) (ho : oneL left (2, y, z, k) = 0) (hleft : left ≤ 64) (w : World) (hK : Kinds w) :
    Calls Tryd.prog 55 #[valI (2, y, z, k), datV d, vmV s] w fun e w' => e = .returned (stepR (2, y, z, k) d s) ∧ Below w.heap.size w w' := by
  have hpp : (0 : Int) ≤ (s.pc : Int) ∧ (s.pc : Int) ≤ 1000 := by omega
  obtain ⟨_, h3, _, _⟩ := oneL_ok ho
  have hk := h3 form_at_2
  have hk0 := hq.k0
  simp only at hk
  have e : stepV alI hdI (2, y, z, k) (dW d) s = (none, ⟨s.pc + 1, s.a, s.x, s.mem.set k.toNat s.a⟩) := by simp [stepV, effV, form_at_2]
  rw [stepR_go e]
  exact step_st 2 y z k d hd s.pc s.a s.x s.mem hs.len hq hs.a hs.x hpp (by decide) k.toNat (by omega) (by omega) w hK

theorem stepAt_3 (y z k : Int) (d : Dat) (hd : DatOk d) (s : VmS) (hs : VmOk s) (hp : s.pc ≤ 1000) (left : Int) (hq : InsOk 3 y z k) (ho : oneL left (3, y, z, k) = 0) (hleft : left ≤ 64) (w : World) (hK : Kinds w) :
    Calls Tryd.prog 55 #[valI (3, y, z, k), datV d, vmV s] w fun e w' => e = .returned (stepR (3, y, z, k) d s) ∧ Below w.heap.size w w' := by
  have hpp : (0 : Int) ≤ (s.pc : Int) ∧ (s.pc : Int) ≤ 1000 := by omega
  obtain ⟨_, h3, _, _⟩ := oneL_ok ho
  have hk := h3 form_at_3
  have hk0 := hq.k0
  simp only at hk
  have e : stepV alI hdI (3, y, z, k) (dW d) s = (none, ⟨s.pc + 1, s.a, s.x, s.mem.set k.toNat s.x⟩) := by simp [stepV, effV, form_at_3]
  rw [stepR_go e]
  exact step_stx 3 y z k d hd s.pc s.a s.x s.mem hs.len hq hs.a hs.x hpp (by decide) k.toNat (by omega) (by omega) w hK

theorem stepAt_4 (y z k : Int) (d : Dat) (hd : DatOk d) (s : VmS) (hs : VmOk s) (hp : s.pc ≤ 1000) (left : Int) (hq : InsOk 4 y z k) (ho : oneL left (4, y, z, k) = 0) (hleft : left ≤ 64) (w : World) (hK : Kinds w) :
    Calls Tryd.prog 55 #[valI (4, y, z, k), datV d, vmV s] w fun e w' => e = .returned (stepR (4, y, z, k) d s) ∧ Below w.heap.size w w' := by
  have hpp : (0 : Int) ≤ (s.pc : Int) ∧ (s.pc : Int) ≤ 1000 := by omega
  have eb : (if formOf 4 = 1 ∨ formOf 4 = 5 then k else s.x) = k := by rw [form_at_4]; simp
  cases hv : alI 4 s.a k with
  | none =>
    have e : stepV alI hdI (4, y, z, k) (dW d) s = (some 0, s) := by simp [stepV, effV, form_at_4, hv]
    rw [stepR_ret e]
    exact step_div 4 y z k d hd s.pc s.a s.x s.mem hs.len hq hs.a hs.x hpp (by decide) (by rw [eb]; exact hv) w hK
  | some v =>
    have e : stepV alI hdI (4, y, z, k) (dW d) s = (none, ⟨s.pc + 1, v, s.x, s.mem⟩) := by simp [stepV, effV, form_at_4, hv]
    rw [stepR_go e]
    exact step_alu 4 y z k d hd s.pc s.a s.x s.mem hs.len hq hs.a hs.x hpp (by decide) v (by rw [eb]; exact hv) w hK

theorem stepAt_5 (y z k : Int) (d : Dat) (hd : DatOk d) (s : VmS) (hs : VmOk s) (hp : s.pc ≤ 1000) (left : Int) (hq : InsOk 5 y z k) (ho : oneL left (5, y, z, k) = 0) (hleft : left ≤ 64) (w : World) (hK : Kinds w) :
    Calls Tryd.prog 55 #[valI (5, y, z, k), datV d, vmV s] w fun e w' => e = .returned (stepR (5, y, z, k) d s) ∧ Below w.heap.size w w' := by
  have hpp : (0 : Int) ≤ (s.pc : Int) ∧ (s.pc : Int) ≤ 1000 := by omega
  obtain ⟨_, _, h4, _⟩ := oneL_ok ho
  have hk := h4 form_at_5
  have hk0 := hq.k0
  simp only at hk
  have e : stepV alI hdI (5, y, z, k) (dW d) s = (none, ⟨s.pc + 1 + k.toNat, s.a, s.x, s.mem⟩) := by simp [stepV]
  rw [stepR_go e]
  have H := step_jump 5 y z k d hd s.pc s.a s.x s.mem hs.len hq hs.a hs.x hpp (by decide) k (by simp [furI, form_at_5]) (by omega) w hK
  have ep : (s.pc : Int) + 1 + k = ((s.pc + 1 + k.toNat : Nat) : Int) := by omega
  rw [ep] at H
  exact H

theorem stepAt_6 (y z k : Int) (d : Dat) (hd : DatOk d) (s : VmS) (hs : VmOk s) (hp : s.pc ≤ 1000) (left : Int) (hq : InsOk 6 y z k) (ho : oneL left (6, y, z, k) = 0) (hleft : left ≤ 64) (w : World) (hK : Kinds w) :
    Calls Tryd.prog 55 #[valI (6, y, z, k), datV d, vmV s] w fun e w' => e = .returned (stepR (6, y, z, k) d s) ∧ Below w.heap.size w w' := by
  have hpp : (0 : Int) ≤ (s.pc : Int) ∧ (s.pc : Int) ≤ 1000 := by omega
  have e : stepV alI hdI (6, y, z, k) (dW d) s = (some k, s) := by simp [stepV]
  rw [stepR_ret e]
  have H := step_ret 6 y z k d hd s.pc s.a s.x s.mem hs.len hq hs.a hs.x hpp (by decide) w hK
  rw [form_at_6, if_pos rfl] at H
  exact H

theorem stepAt_7 (y z k : Int) (d : Dat) (hd : DatOk d) (s : VmS) (hs : VmOk s) (hp : s.pc ≤ 1000) (left : Int) (hq : InsOk 7 y z k) (ho : oneL left (7, y, z, k) = 0) (hleft : left ≤ 64) (w : World) (hK : Kinds w) :
    Calls Tryd.prog 55 #[valI (7, y, z, k), datV d, vmV s] w fun e w' => e = .returned (stepR (7, y, z, k) d s) ∧ Below w.heap.size w w' := by
  have hpp : (0 : Int) ≤ (s.pc : Int) ∧ (s.pc : Int) ≤ 1000 := by omega
  have e : stepV alI hdI (7, y, z, k) (dW d) s = (none, ⟨s.pc + 1, s.a, s.a, s.mem⟩) := by simp [stepV, effV, form_at_7]
  rw [stepR_go e]
  have H := step_mov 7 y z k d hd s.pc s.a s.x s.mem hs.len hq hs.a hs.x hpp (by decide) w hK
  rw [if_pos tax_name] at H
  exact H

theorem stepAt_12 (y z k : Int) (d : Dat) (hd : DatOk d) (s : VmS) (hs : VmOk s) (hp : s.pc ≤ 1000) (left : Int) (hq : InsOk 12 y z k) (ho : oneL left (12, y, z, k) = 0) (hleft : left ≤ 64) (w : World) (hK : Kinds w) :
    Calls Tryd.prog 55 #[valI (12, y, z, k), datV d, vmV s] w fun e w' => e = .returned (stepR (12, y, z, k) d s) ∧ Below w.heap.size w w' := by
  have hpp : (0 : Int) ≤ (s.pc : Int) ∧ (s.pc : Int) ≤ 1000 := by omega
  have eb : (if formOf 12 = 1 ∨ formOf 12 = 5 then k else s.x) = s.x := by rw [form_at_12]; simp
  cases hv : alI 12 s.a s.x with
  | none =>
    have e : stepV alI hdI (12, y, z, k) (dW d) s = (some 0, s) := by simp [stepV, effV, form_at_12, hv]
    rw [stepR_ret e]
    exact step_div 12 y z k d hd s.pc s.a s.x s.mem hs.len hq hs.a hs.x hpp (by decide) (by rw [eb]; exact hv) w hK
  | some v =>
    have e : stepV alI hdI (12, y, z, k) (dW d) s = (none, ⟨s.pc + 1, v, s.x, s.mem⟩) := by simp [stepV, effV, form_at_12, hv]
    rw [stepR_go e]
    exact step_alu 12 y z k d hd s.pc s.a s.x s.mem hs.len hq hs.a hs.x hpp (by decide) v (by rw [eb]; exact hv) w hK

theorem stepAt_20 (y z k : Int) (d : Dat) (hd : DatOk d) (s : VmS) (hs : VmOk s) (hp : s.pc ≤ 1000) (left : Int) (hq : InsOk 20 y z k) (ho : oneL left (20, y, z, k) = 0) (hleft : left ≤ 64) (w : World) (hK : Kinds w) :
    Calls Tryd.prog 55 #[valI (20, y, z, k), datV d, vmV s] w fun e w' => e = .returned (stepR (20, y, z, k) d s) ∧ Below w.heap.size w w' := by
  have hpp : (0 : Int) ≤ (s.pc : Int) ∧ (s.pc : Int) ≤ 1000 := by omega
  have eb : (if formOf 20 = 1 ∨ formOf 20 = 5 then k else s.x) = k := by rw [form_at_20]; simp
  cases hv : alI 20 s.a k with
  | none =>
    have e : stepV alI hdI (20, y, z, k) (dW d) s = (some 0, s) := by simp [stepV, effV, form_at_20, hv]
    rw [stepR_ret e]
    exact step_div 20 y z k d hd s.pc s.a s.x s.mem hs.len hq hs.a hs.x hpp (by decide) (by rw [eb]; exact hv) w hK
  | some v =>
    have e : stepV alI hdI (20, y, z, k) (dW d) s = (none, ⟨s.pc + 1, v, s.x, s.mem⟩) := by simp [stepV, effV, form_at_20, hv]
    rw [stepR_go e]
    exact step_alu 20 y z k d hd s.pc s.a s.x s.mem hs.len hq hs.a hs.x hpp (by decide) v (by rw [eb]; exact hv) w hK

theorem stepAt_21 (y z k : Int) (d : Dat) (hd : DatOk d) (s : VmS) (hs : VmOk s) (hp : s.pc ≤ 1000) (left : Int) (hq : InsOk 21 y z k) (ho : oneL left (21, y, z, k) = 0) (hleft : left ≤ 64) (w : World) (hK : Kinds w) :
    Calls Tryd.prog 55 #[valI (21, y, z, k), datV d, vmV s] w fun e w' => e = .returned (stepR (21, y, z, k) d s) ∧ Below w.heap.size w w' := by
  have hpp : (0 : Int) ≤ (s.pc : Int) ∧ (s.pc : Int) ≤ 1000 := by omega
  obtain ⟨_, _, _, h5⟩ := oneL_ok ho
  have hyz := h5 (by rw [form_at_21]; simp)
  have hy0 := hq.a0
  have hz0 := hq.b0
  simp only at hyz
  obtain ⟨t, ht⟩ : ∃ t, hdI 21 s.a k = t := ⟨_, rfl⟩
  have ef : furI (21, y, z, k) s.a s.x = if t = true then y else z := by simp [furI, form_at_21, ht]
  have e : stepV alI hdI (21, y, z, k) (dW d) s = (none, ⟨s.pc + 1 + (if t = true then y.toNat else z.toNat), s.a, s.x, s.mem⟩) := by simp [stepV, form_at_21, ht]
  rw [stepR_go e]
  have H := step_jump 21 y z k d hd s.pc s.a s.x s.mem hs.len hq hs.a hs.x hpp (by decide) _ ef (by split <;> omega) w hK
  have ep : (s.pc : Int) + 1 + (if t = true then y else z) = ((s.pc + 1 + (if t = true then y.toNat else z.toNat) : Nat) : Int) := by split <;> omega
  rw [ep] at H
  exact H

theorem stepAt_22 (y z k : Int) (d : Dat) (hd : DatOk d) (s : VmS) (hs : VmOk s) (hp : s.pc ≤ 1000) (left : Int) (hq : InsOk 22 y z k) (ho : oneL left (22, y, z, k) = 0) (hleft : left ≤ 64) (w : World) (hK : Kinds w) :
    Calls Tryd.prog 55 #[valI (22, y, z, k), datV d, vmV s] w fun e w' => e = .returned (stepR (22, y, z, k) d s) ∧ Below w.heap.size w w' := by
  have hpp : (0 : Int) ≤ (s.pc : Int) ∧ (s.pc : Int) ≤ 1000 := by omega
  have e : stepV alI hdI (22, y, z, k) (dW d) s = (some s.a, s) := by simp [stepV]
  rw [stepR_ret e]
  have H := step_ret 22 y z k d hd s.pc s.a s.x s.mem hs.len hq hs.a hs.x hpp (by decide) w hK
  rw [form_at_22, if_neg (by decide)] at H
  exact H

theorem stepAt_28 (y z k : Int) (d : Dat) (hd : DatOk d) (s : VmS) (hs : VmOk s) (hp : s.pc ≤ 1000) (left : Int) (hq : InsOk 28 y z k) (ho : oneL left (28, y, z, k) = 0) (hleft : left ≤ 64) (w : World) (hK : Kinds w) :
    Calls Tryd.prog 55 #[valI (28, y, z, k), datV d, vmV s] w fun e w' => e = .returned (stepR (28, y, z, k) d s) ∧ Below w.heap.size w w' := by
  have hpp : (0 : Int) ≤ (s.pc : Int) ∧ (s.pc : Int) ≤ 1000 := by omega
  have eb : (if formOf 28 = 1 ∨ formOf 28 = 5 then k else s.x) = s.x := by rw [form_at_28]; simp
  cases hv : alI 28 s.a s.x with
  | none =>
    have e : stepV alI hdI (28, y, z, k) (dW d) s = (some 0, s) := by simp [stepV, effV, form_at_28, hv]
    rw [stepR_ret e]
    exact step_div 28 y z k d hd s.pc s.a s.x s.mem hs.len hq hs.a hs.x hpp (by decide) (by rw [eb]; exact hv) w hK
  | some v =>
    have e : stepV alI hdI (28, y, z, k) (dW d) s = (none, ⟨s.pc + 1, v, s.x, s.mem⟩) := by simp [stepV, effV, form_at_28, hv]
    rw [stepR_go e]
    exact step_alu 28 y z k d hd s.pc s.a s.x s.mem hs.len hq hs.a hs.x hpp (by decide) v (by rw [eb]; exact hv) w hK

theorem stepAt_29 (y z k : Int) (d : Dat) (hd : DatOk d) (s : VmS) (hs : VmOk s) (hp : s.pc ≤ 1000) (left : Int) (hq : InsOk 29 y z k) (ho : oneL left (29, y, z, k) = 0) (hleft : left ≤ 64) (w : World) (hK : Kinds w) :
    Calls Tryd.prog 55 #[valI (29, y, z, k), datV d, vmV s] w fun e w' => e = .returned (stepR (29, y, z, k) d s) ∧ Below w.heap.size w w' := by
  have hpp : (0 : Int) ≤ (s.pc : Int) ∧ (s.pc : Int) ≤ 1000 := by omega
  obtain ⟨_, _, _, h5⟩ := oneL_ok ho
  have hyz := h5 (by rw [form_at_29]; simp)
  have hy0 := hq.a0
  have hz0 := hq.b0
  simp only at hyz
  obtain ⟨t, ht⟩ : ∃ t, hdI 29 s.a s.x = t := ⟨_, rfl⟩
  have ef : furI (29, y, z, k) s.a s.x = if t = true then y else z := by simp [furI, form_at_29, ht]
  have e : stepV alI hdI (29, y, z, k) (dW d) s = (none, ⟨s.pc + 1 + (if t = true then y.toNat else z.toNat), s.a, s.x, s.mem⟩) := by simp [stepV, form_at_29, ht]
  rw [stepR_go e]
  have H := step_jump 29 y z k d hd s.pc s.a s.x s.mem hs.len hq hs.a hs.x hpp (by decide) _ ef (by split <;> omega) w hK
  have ep : (s.pc : Int) + 1 + (if t = true then y else z) = ((s.pc + 1 + (if t = true then y.toNat else z.toNat) : Nat) : Int) := by split <;> omega
  rw [ep] at H
  exact H

theorem stepAt_32 (y z k : Int) (d : Dat) (hd : DatOk d) (s : VmS) (hs : VmOk s) (hp : s.pc ≤ 1000) (left : Int) (hq : InsOk 32 y z k) (ho : oneL left (32, y, z, k) = 0) (hleft : left ≤ 64) (w : World) (hK : Kinds w) :
    Calls Tryd.prog 55 #[valI (32, y, z, k), datV d, vmV s] w fun e w' => e = .returned (stepR (32, y, z, k) d s) ∧ Below w.heap.size w w' := by
  have hpp : (0 : Int) ≤ (s.pc : Int) ∧ (s.pc : Int) ≤ 1000 := by omega
  obtain ⟨_, h3, _, _⟩ := oneL_ok ho
  have e : stepV alI hdI (32, y, z, k) (dW d) s = (none, ⟨s.pc + 1, ldI (32, y, z, k) (dW d) s.mem, s.x, s.mem⟩) := by simp [stepV, effV, ldI, form_at_32]
  rw [stepR_go e]
  exact step_ld 32 y z k d hd s.pc s.a s.x s.mem hs.len hq hs.a hs.x hpp (by decide) (fun _ => one_word ho) (fun h => h3 h) w hK

theorem stepAt_36 (y z k : Int) (d : Dat) (hd : DatOk d) (s : VmS) (hs : VmOk s) (hp : s.pc ≤ 1000) (left : Int) (hq : InsOk 36 y z k) (ho : oneL left (36, y, z, k) = 0) (hleft : left ≤ 64) (w : World) (hK : Kinds w) :
    Calls Tryd.prog 55 #[valI (36, y, z, k), datV d, vmV s] w fun e w' => e = .returned (stepR (36, y, z, k) d s) ∧ Below w.heap.size w w' := by
  have hpp : (0 : Int) ≤ (s.pc : Int) ∧ (s.pc : Int) ≤ 1000 := by omega
  have eb : (if formOf 36 = 1 ∨ formOf 36 = 5 then k else s.x) = k := by rw [form_at_36]; simp
  cases hv : alI 36 s.a k with
  | none =>
    have e : stepV alI hdI (36, y, z, k) (dW d) s = (some 0, s) := by simp [stepV, effV, form_at_36, hv]
    rw [stepR_ret e]
    exact step_div 36 y z k d hd s.pc s.a s.x s.mem hs.len hq hs.a hs.x hpp (by decide) (by rw [eb]; exact hv) w hK
  | some v =>
    have e : stepV alI hdI (36, y, z, k) (dW d) s = (none, ⟨s.pc + 1, v, s.x, s.mem⟩) := by simp [stepV, effV, form_at_36, hv]
    rw [stepR_go e]
    exact step_alu 36 y z k d hd s.pc s.a s.x s.mem hs.len hq hs.a hs.x hpp (by decide) v (by rw [eb]; exact hv) w hK

theorem stepAt_37 (y z k : Int) (d : Dat) (hd : DatOk d) (s : VmS) (hs : VmOk s) (hp : s.pc ≤ 1000) (left : Int) (hq : InsOk 37 y z k) (ho : oneL left (37, y, z, k) = 0) (hleft : left ≤ 64) (w : World) (hK : Kinds w) :
    Calls Tryd.prog 55 #[valI (37, y, z, k), datV d, vmV s] w fun e w' => e = .returned (stepR (37, y, z, k) d s) ∧ Below w.heap.size w w' := by
  have hpp : (0 : Int) ≤ (s.pc : Int) ∧ (s.pc : Int) ≤ 1000 := by omega
  obtain ⟨_, _, _, h5⟩ := oneL_ok ho
  have hyz := h5 (by rw [form_at_37]; simp)
  have hy0 := hq.a0
  have hz0 := hq.b0
  simp only at hyz
  obtain ⟨t, ht⟩ : ∃ t, hdI 37 s.a k = t := ⟨_, rfl⟩
  have ef : furI (37, y, z, k) s.a s.x = if t = true then y else z := by simp [furI, form_at_37, ht]
  have e : stepV alI hdI (37, y, z, k) (dW d) s = (none, ⟨s.pc + 1 + (if t = true then y.toNat else z.toNat), s.a, s.x, s.mem⟩) := by simp [stepV, form_at_37, ht]
  rw [stepR_go e]
  have H := step_jump 37 y z k d hd s.pc s.a s.x s.mem hs.len hq hs.a hs.x hpp (by decide) _ ef (by split <;> omega) w hK
  have ep : (s.pc : Int) + 1 + (if t = true then y else z) = ((s.pc + 1 + (if t = true then y.toNat else z.toNat) : Nat) : Int) := by split <;> omega
  rw [ep] at H
  exact H

theorem stepAt_44 (y z k : Int) (d : Dat) (hd : DatOk d) (s : VmS) (hs : VmOk s) (hp : s.pc ≤ 1000) (left : Int) (hq : InsOk 44 y z k) (ho : oneL left (44, y, z, k) = 0) (hleft : left ≤ 64) (w : World) (hK : Kinds w) :
    Calls Tryd.prog 55 #[valI (44, y, z, k), datV d, vmV s] w fun e w' => e = .returned (stepR (44, y, z, k) d s) ∧ Below w.heap.size w w' := by
  have hpp : (0 : Int) ≤ (s.pc : Int) ∧ (s.pc : Int) ≤ 1000 := by omega
  have eb : (if formOf 44 = 1 ∨ formOf 44 = 5 then k else s.x) = s.x := by rw [form_at_44]; simp
  cases hv : alI 44 s.a s.x with
  | none =>
    have e : stepV alI hdI (44, y, z, k) (dW d) s = (some 0, s) := by simp [stepV, effV, form_at_44, hv]
    rw [stepR_ret e]
    exact step_div 44 y z k d hd s.pc s.a s.x s.mem hs.len hq hs.a hs.x hpp (by decide) (by rw [eb]; exact hv) w hK
  | some v =>
    have e : stepV alI hdI (44, y, z, k) (dW d) s = (none, ⟨s.pc + 1, v, s.x, s.mem⟩) := by simp [stepV, effV, form_at_44, hv]
    rw [stepR_go e]
    exact step_alu 44 y z k d hd s.pc s.a s.x s.mem hs.len hq hs.a hs.x hpp (by decide) v (by rw [eb]; exact hv) w hK

theorem stepAt_45 (y z k : Int) (d : Dat) (hd : DatOk d) (s : VmS) (hs : VmOk s) (hp : s.pc ≤ 1000) (left : Int) (hq : InsOk 45 y z k) (ho : oneL left (45, y, z, k) = 0) (hleft : left ≤ 64) (w : World) (hK : Kinds w) :
    Calls Tryd.prog 55 #[valI (45, y, z, k), datV d, vmV s] w fun e w' => e = .returned (stepR (45, y, z, k) d s) ∧ Below w.heap.size w w' := by
  have hpp : (0 : Int) ≤ (s.pc : Int) ∧ (s.pc : Int) ≤ 1000 := by omega
  obtain ⟨_, _, _, h5⟩ := oneL_ok ho
  have hyz := h5 (by rw [form_at_45]; simp)
  have hy0 := hq.a0
  have hz0 := hq.b0
  simp only at hyz
  obtain ⟨t, ht⟩ : ∃ t, hdI 45 s.a s.x = t := ⟨_, rfl⟩
  have ef : furI (45, y, z, k) s.a s.x = if t = true then y else z := by simp [furI, form_at_45, ht]
  have e : stepV alI hdI (45, y, z, k) (dW d) s = (none, ⟨s.pc + 1 + (if t = true then y.toNat else z.toNat), s.a, s.x, s.mem⟩) := by simp [stepV, form_at_45, ht]
  rw [stepR_go e]
  have H := step_jump 45 y z k d hd s.pc s.a s.x s.mem hs.len hq hs.a hs.x hpp (by decide) _ ef (by split <;> omega) w hK
  have ep : (s.pc : Int) + 1 + (if t = true then y else z) = ((s.pc + 1 + (if t = true then y.toNat else z.toNat) : Nat) : Int) := by split <;> omega
  rw [ep] at H
  exact H

theorem stepAt_52 (y z k : Int) (d : Dat) (hd : DatOk d) (s : VmS) (hs : VmOk s) (hp : s.pc ≤ 1000) (left : Int) (hq : InsOk 52 y z k) (ho : oneL left (52, y, z, k) = 0) (hleft : left ≤ 64) (w : World) (hK : Kinds w) :
    Calls Tryd.prog 55 #[valI (52, y, z, k), datV d, vmV s] w fun e w' => e = .returned (stepR (52, y, z, k) d s) ∧ Below w.heap.size w w' := by
  have hpp : (0 : Int) ≤ (s.pc : Int) ∧ (s.pc : Int) ≤ 1000 := by omega
  have eb : (if formOf 52 = 1 ∨ formOf 52 = 5 then k else s.x) = k := by rw [form_at_52]; simp
  cases hv : alI 52 s.a k with
  | none =>
    have e : stepV alI hdI (52, y, z, k) (dW d) s = (some 0, s) := by simp [stepV, effV, form_at_52, hv]
    rw [stepR_ret e]
    exact step_div 52 y z k d hd s.pc s.a s.x s.mem hs.len hq hs.a hs.x hpp (by decide) (by rw [eb]; exact hv) w hK
  | some v =>
    have e : stepV alI hdI (52, y, z, k) (dW d) s = (none, ⟨s.pc + 1, v, s.x, s.mem⟩) := by simp [stepV, effV, form_at_52, hv]
    rw [stepR_go e]
    exact step_alu 52 y z k d hd s.pc s.a s.x s.mem hs.len hq hs.a hs.x hpp (by decide) v (by rw [eb]; exact hv) w hK

theorem stepAt_53 (y z k : Int) (d : Dat) (hd : DatOk d) (s : VmS) (hs : VmOk s) (hp : s.pc ≤ 1000) (left : Int) (hq : InsOk 53 y z k) (ho : oneL left (53, y, z, k) = 0) (hleft : left ≤ 64) (w : World) (hK : Kinds w) :
    Calls Tryd.prog 55 #[valI (53, y, z, k), datV d, vmV s] w fun e w' => e = .returned (stepR (53, y, z, k) d s) ∧ Below w.heap.size w w' := by
  have hpp : (0 : Int) ≤ (s.pc : Int) ∧ (s.pc : Int) ≤ 1000 := by omega
  obtain ⟨_, _, _, h5⟩ := oneL_ok ho
  have hyz := h5 (by rw [form_at_53]; simp)
  have hy0 := hq.a0
  have hz0 := hq.b0
  simp only at hyz
  obtain ⟨t, ht⟩ : ∃ t, hdI 53 s.a k = t := ⟨_, rfl⟩
  have ef : furI (53, y, z, k) s.a s.x = if t = true then y else z := by simp [furI, form_at_53, ht]
  have e : stepV alI hdI (53, y, z, k) (dW d) s = (none, ⟨s.pc + 1 + (if t = true then y.toNat else z.toNat), s.a, s.x, s.mem⟩) := by simp [stepV, form_at_53, ht]
  rw [stepR_go e]
  have H := step_jump 53 y z k d hd s.pc s.a s.x s.mem hs.len hq hs.a hs.x hpp (by decide) _ ef (by split <;> omega) w hK
  have ep : (s.pc : Int) + 1 + (if t = true then y else z) = ((s.pc + 1 + (if t = true then y.toNat else z.toNat) : Nat) : Int) := by split <;> omega
  rw [ep] at H
  exact H

theorem stepAt_60 (y z k : Int) (d : Dat) (hd : DatOk d) (s : VmS) (hs : VmOk s) (hp : s.pc ≤ 1000) (left : Int) (hq : InsOk 60 y z k) (ho : oneL left (60, y, z, k) = 0) (hleft : left ≤ 64) (w : World) (hK : Kinds w) :
    Calls Tryd.prog 55 #[valI (60, y, z, k), datV d, vmV s] w fun e w' => e = .returned (stepR (60, y, z, k) d s) ∧ Below w.heap.size w w' := by
  have hpp : (0 : Int) ≤ (s.pc : Int) ∧ (s.pc : Int) ≤ 1000 := by omega
  have eb : (if formOf 60 = 1 ∨ formOf 60 = 5 then k else s.x) = s.x := by rw [form_at_60]; simp
  cases hv : alI 60 s.a s.x with
  | none =>
    have e : stepV alI hdI (60, y, z, k) (dW d) s = (some 0, s) := by simp [stepV, effV, form_at_60, hv]
    rw [stepR_ret e]
    exact step_div 60 y z k d hd s.pc s.a s.x s.mem hs.len hq hs.a hs.x hpp (by decide) (by rw [eb]; exact hv) w hK
  | some v =>
    have e : stepV alI hdI (60, y, z, k) (dW d) s = (none, ⟨s.pc + 1, v, s.x, s.mem⟩) := by simp [stepV, effV, form_at_60, hv]
    rw [stepR_go e]
    exact step_alu 60 y z k d hd s.pc s.a s.x s.mem hs.len hq hs.a hs.x hpp (by decide) v (by rw [eb]; exact hv) w hK

theorem stepAt_61 (y z k : Int) (d : Dat) (hd : DatOk d) (s : VmS) (hs : VmOk s) (hp : s.pc ≤ 1000) (left : Int) (hq : InsOk 61 y z k) (ho : oneL left (61, y, z, k) = 0) (hleft : left ≤ 64) (w : World) (hK : Kinds w) :
    Calls Tryd.prog 55 #[valI (61, y, z, k), datV d, vmV s] w fun e w' => e = .returned (stepR (61, y, z, k) d s) ∧ Below w.heap.size w w' := by
  have hpp : (0 : Int) ≤ (s.pc : Int) ∧ (s.pc : Int) ≤ 1000 := by omega
  obtain ⟨_, _, _, h5⟩ := oneL_ok ho
  have hyz := h5 (by rw [form_at_61]; simp)
  have hy0 := hq.a0
  have hz0 := hq.b0
  simp only at hyz
  obtain ⟨t, ht⟩ : ∃ t, hdI 61 s.a s.x = t := ⟨_, rfl⟩
  have ef : furI (61, y, z, k) s.a s.x = if t = true then y else z := by simp [furI, form_at_61, ht]
  have e : stepV alI hdI (61, y, z, k) (dW d) s = (none, ⟨s.pc + 1 + (if t = true then y.toNat else z.toNat), s.a, s.x, s.mem⟩) := by simp [stepV, form_at_61, ht]
  rw [stepR_go e]
  have H := step_jump 61 y z k d hd s.pc s.a s.x s.mem hs.len hq hs.a hs.x hpp (by decide) _ ef (by split <;> omega) w hK
  have ep : (s.pc : Int) + 1 + (if t = true then y else z) = ((s.pc + 1 + (if t = true then y.toNat else z.toNat) : Nat) : Int) := by split <;> omega
  rw [ep] at H
  exact H

theorem stepAt_68 (y z k : Int) (d : Dat) (hd : DatOk d) (s : VmS) (hs : VmOk s) (hp : s.pc ≤ 1000) (left : Int) (hq : InsOk 68 y z k) (ho : oneL left (68, y, z, k) = 0) (hleft : left ≤ 64) (w : World) (hK : Kinds w) :
    Calls Tryd.prog 55 #[valI (68, y, z, k), datV d, vmV s] w fun e w' => e = .returned (stepR (68, y, z, k) d s) ∧ Below w.heap.size w w' := by
  have hpp : (0 : Int) ≤ (s.pc : Int) ∧ (s.pc : Int) ≤ 1000 := by omega
  have eb : (if formOf 68 = 1 ∨ formOf 68 = 5 then k else s.x) = k := by rw [form_at_68]; simp
  cases hv : alI 68 s.a k with
  | none =>
    have e : stepV alI hdI (68, y, z, k) (dW d) s = (some 0, s) := by simp [stepV, effV, form_at_68, hv]
    rw [stepR_ret e]
    exact step_div 68 y z k d hd s.pc s.a s.x s.mem hs.len hq hs.a hs.x hpp (by decide) (by rw [eb]; exact hv) w hK
  | some v =>
    have e : stepV alI hdI (68, y, z, k) (dW d) s = (none, ⟨s.pc + 1, v, s.x, s.mem⟩) := by simp [stepV, effV, form_at_68, hv]
    rw [stepR_go e]
    exact step_alu 68 y z k d hd s.pc s.a s.x s.mem hs.len hq hs.a hs.x hpp (by decide) v (by rw [eb]; exact hv) w hK

theorem stepAt_69 (y z k : Int) (d : Dat) (hd : DatOk d) (s : VmS) (hs : VmOk s) (hp : s.pc ≤ 1000) (left : Int) (hq : InsOk 69 y z k) (ho : oneL left (69, y, z, k) = 0) (hleft : left ≤ 64) (w : World) (hK : Kinds w) :
    Calls Tryd.prog 55 #[valI (69, y, z, k), datV d, vmV s] w fun e w' => e = .returned (stepR (69, y, z, k) d s) ∧ Below w.heap.size w w' := by
  have hpp : (0 : Int) ≤ (s.pc : Int) ∧ (s.pc : Int) ≤ 1000 := by omega
  obtain ⟨_, _, _, h5⟩ := oneL_ok ho
  have hyz := h5 (by rw [form_at_69]; simp)
  have hy0 := hq.a0
  have hz0 := hq.b0
  simp only at hyz
  obtain ⟨t, ht⟩ : ∃ t, hdI 69 s.a k = t := ⟨_, rfl⟩
  have ef : furI (69, y, z, k) s.a s.x = if t = true then y else z := by simp [furI, form_at_69, ht]
  have e : stepV alI hdI (69, y, z, k) (dW d) s = (none, ⟨s.pc + 1 + (if t = true then y.toNat else z.toNat), s.a, s.x, s.mem⟩) := by simp [stepV, form_at_69, ht]
  rw [stepR_go e]
  have H := step_jump 69 y z k d hd s.pc s.a s.x s.mem hs.len hq hs.a hs.x hpp (by decide) _ ef (by split <;> omega) w hK
  have ep : (s.pc : Int) + 1 + (if t = true then y else z) = ((s.pc + 1 + (if t = true then y.toNat else z.toNat) : Nat) : Int) := by split <;> omega
  rw [ep] at H
  exact H

theorem stepAt_76 (y z k : Int) (d : Dat) (hd : DatOk d) (s : VmS) (hs : VmOk s) (hp : s.pc ≤ 1000) (left : Int) (hq : InsOk 76 y z k) (ho : oneL left (76, y, z, k) = 0) (hleft : left ≤ 64) (w : World) (hK : Kinds w) :
    Calls Tryd.prog 55 #[valI (76, y, z, k), datV d, vmV s] w fun e w' => e = .returned (stepR (76, y, z, k) d s) ∧ Below w.heap.size w w' := by
  have hpp : (0 : Int) ≤ (s.pc : Int) ∧ (s.pc : Int) ≤ 1000 := by omega
  have eb : (if formOf 76 = 1 ∨ formOf 76 = 5 then k else s.x) = s.x := by rw [form_at_76]; simp
  cases hv : alI 76 s.a s.x with
  | none =>
    have e : stepV alI hdI (76, y, z, k) (dW d) s = (some 0, s) := by simp [stepV, effV, form_at_76, hv]
    rw [stepR_ret e]
    exact step_div 76 y z k d hd s.pc s.a s.x s.mem hs.len hq hs.a hs.x hpp (by decide) (by rw [eb]; exact hv) w hK
  | some v =>
    have e : stepV alI hdI (76, y, z, k) (dW d) s = (none, ⟨s.pc + 1, v, s.x, s.mem⟩) := by simp [stepV, effV, form_at_76, hv]
    rw [stepR_go e]
    exact step_alu 76 y z k d hd s.pc s.a s.x s.mem hs.len hq hs.a hs.x hpp (by decide) v (by rw [eb]; exact hv) w hK

theorem stepAt_77 (y z k : Int) (d : Dat) (hd : DatOk d) (s : VmS) (hs : VmOk s) (hp : s.pc ≤ 1000) (left : Int) (hq : InsOk 77 y z k) (ho : oneL left (77, y, z, k) = 0) (hleft : left ≤ 64) (w : World) (hK : Kinds w) :
    Calls Tryd.prog 55 #[valI (77, y, z, k), datV d, vmV s] w fun e w' => e = .returned (stepR (77, y, z, k) d s) ∧ Below w.heap.size w w' := by
  have hpp : (0 : Int) ≤ (s.pc : Int) ∧ (s.pc : Int) ≤ 1000 := by omega
  obtain ⟨_, _, _, h5⟩ := oneL_ok ho
  have hyz := h5 (by rw [form_at_77]; simp)
  have hy0 := hq.a0
  have hz0 := hq.b0
  simp only at hyz
  obtain ⟨t, ht⟩ : ∃ t, hdI 77 s.a s.x = t := ⟨_, rfl⟩
  have ef : furI (77, y, z, k) s.a s.x = if t = true then y else z := by simp [furI, form_at_77, ht]
  have e : stepV alI hdI (77, y, z, k) (dW d) s = (none, ⟨s.pc + 1 + (if t = true then y.toNat else z.toNat), s.a, s.x, s.mem⟩) := by simp [stepV, form_at_77, ht]
  rw [stepR_go e]
  have H := step_jump 77 y z k d hd s.pc s.a s.x s.mem hs.len hq hs.a hs.x hpp (by decide) _ ef (by split <;> omega) w hK
  have ep : (s.pc : Int) + 1 + (if t = true then y else z) = ((s.pc + 1 + (if t = true then y.toNat else z.toNat) : Nat) : Int) := by split <;> omega
  rw [ep] at H
  exact H

theorem stepAt_84 (y z k : Int) (d : Dat) (hd : DatOk d) (s : VmS) (hs : VmOk s) (hp : s.pc ≤ 1000) (left : Int) (hq : InsOk 84 y z k) (ho : oneL left (84, y, z, k) = 0) (hleft : left ≤ 64) (w : World) (hK : Kinds w) :
    Calls Tryd.prog 55 #[valI (84, y, z, k), datV d, vmV s] w fun e w' => e = .returned (stepR (84, y, z, k) d s) ∧ Below w.heap.size w w' := by
  have hpp : (0 : Int) ≤ (s.pc : Int) ∧ (s.pc : Int) ≤ 1000 := by omega
  have eb : (if formOf 84 = 1 ∨ formOf 84 = 5 then k else s.x) = k := by rw [form_at_84]; simp
  cases hv : alI 84 s.a k with
  | none =>
    have e : stepV alI hdI (84, y, z, k) (dW d) s = (some 0, s) := by simp [stepV, effV, form_at_84, hv]
    rw [stepR_ret e]
    exact step_div 84 y z k d hd s.pc s.a s.x s.mem hs.len hq hs.a hs.x hpp (by decide) (by rw [eb]; exact hv) w hK
  | some v =>
    have e : stepV alI hdI (84, y, z, k) (dW d) s = (none, ⟨s.pc + 1, v, s.x, s.mem⟩) := by simp [stepV, effV, form_at_84, hv]
    rw [stepR_go e]
    exact step_alu 84 y z k d hd s.pc s.a s.x s.mem hs.len hq hs.a hs.x hpp (by decide) v (by rw [eb]; exact hv) w hK

theorem stepAt_92 (y z k : Int) (d : Dat) (hd : DatOk d) (s : VmS) (hs : VmOk s) (hp : s.pc ≤ 1000) (left : Int) (hq : InsOk 92 y z k) (ho : oneL left (92, y, z, k) = 0) (hleft : left ≤ 64) (w : World) (hK : Kinds w) :
    Calls Tryd.prog 55 #[valI (92, y, z, k), datV d, vmV s] w fun e w' => e = .returned (stepR (92, y, z, k) d s) ∧ Below w.heap.size w w' := by
  have hpp : (0 : Int) ≤ (s.pc : Int) ∧ (s.pc : Int) ≤ 1000 := by omega
  have eb : (if formOf 92 = 1 ∨ formOf 92 = 5 then k else s.x) = s.x := by rw [form_at_92]; simp
  cases hv : alI 92 s.a s.x with
  | none =>
    have e : stepV alI hdI (92, y, z, k) (dW d) s = (some 0, s) := by simp [stepV, effV, form_at_92, hv]
    rw [stepR_ret e]
    exact step_div 92 y z k d hd s.pc s.a s.x s.mem hs.len hq hs.a hs.x hpp (by decide) (by rw [eb]; exact hv) w hK
  | some v =>
    have e : stepV alI hdI (92, y, z, k) (dW d) s = (none, ⟨s.pc + 1, v, s.x, s.mem⟩) := by simp [stepV, effV, form_at_92, hv]
    rw [stepR_go e]
    exact step_alu 92 y z k d hd s.pc s.a s.x s.mem hs.len hq hs.a hs.x hpp (by decide) v (by rw [eb]; exact hv) w hK

theorem stepAt_96 (y z k : Int) (d : Dat) (hd : DatOk d) (s : VmS) (hs : VmOk s) (hp : s.pc ≤ 1000) (left : Int) (hq : InsOk 96 y z k) (ho : oneL left (96, y, z, k) = 0) (hleft : left ≤ 64) (w : World) (hK : Kinds w) :
    Calls Tryd.prog 55 #[valI (96, y, z, k), datV d, vmV s] w fun e w' => e = .returned (stepR (96, y, z, k) d s) ∧ Below w.heap.size w w' := by
  have hpp : (0 : Int) ≤ (s.pc : Int) ∧ (s.pc : Int) ≤ 1000 := by omega
  obtain ⟨_, h3, _, _⟩ := oneL_ok ho
  have e : stepV alI hdI (96, y, z, k) (dW d) s = (none, ⟨s.pc + 1, ldI (96, y, z, k) (dW d) s.mem, s.x, s.mem⟩) := by simp [stepV, effV, ldI, form_at_96]
  rw [stepR_go e]
  exact step_ld 96 y z k d hd s.pc s.a s.x s.mem hs.len hq hs.a hs.x hpp (by decide) (fun h => by rw [form_at_96] at h; cases h) (fun h => h3 h) w hK

theorem stepAt_97 (y z k : Int) (d : Dat) (hd : DatOk d) (s : VmS) (hs : VmOk s) (hp : s.pc ≤ 1000) (left : Int) (hq : InsOk 97 y z k) (ho : oneL left (97, y, z, k) = 0) (hleft : left ≤ 64) (w : World) (hK : Kinds w) :
    Calls Tryd.prog 55 #[valI (97, y, z, k), datV d, vmV s] w fun e w' => e = .returned (stepR (97, y, z, k) d s) ∧ Below w.heap.size w w' := by
  have hpp : (0 : Int) ≤ (s.pc : Int) ∧ (s.pc : Int) ≤ 1000 := by omega
  obtain ⟨_, h3, _, _⟩ := oneL_ok ho
  have e : stepV alI hdI (97, y, z, k) (dW d) s = (none, ⟨s.pc + 1, s.a, ldI (97, y, z, k) (dW d) s.mem, s.mem⟩) := by simp [stepV, effV, ldI, form_at_97]
  rw [stepR_go e]
  exact step_ldx 97 y z k d hd s.pc s.a s.x s.mem hs.len hq hs.a hs.x hpp (by decide) (fun h => by rw [form_at_97] at h; cases h) (fun h => h3 h) w hK

theorem stepAt_100 (y z k : Int) (d : Dat) (hd : DatOk d) (s : VmS) (hs : VmOk s) (hp : s.pc ≤ 1000) (left : Int) (hq : InsOk 100 y z k) (ho : oneL left (100, y, z, k) = 0) (hleft : left ≤ 64) (w : World) (hK : Kinds w) :
    Calls Tryd.prog 55 #[valI (100, y, z, k), datV d, vmV s] w fun e w' => e = .returned (stepR (100, y, z, k) d s) ∧ Below w.heap.size w w' := by
  have hpp : (0 : Int) ≤ (s.pc : Int) ∧ (s.pc : Int) ≤ 1000 := by omega
  have eb : (if formOf 100 = 1 ∨ formOf 100 = 5 then k else s.x) = k := by rw [form_at_100]; simp
  cases hv : alI 100 s.a k with
  | none =>
    have e : stepV alI hdI (100, y, z, k) (dW d) s = (some 0, s) := by simp [stepV, effV, form_at_100, hv]
    rw [stepR_ret e]
    exact step_div 100 y z k d hd s.pc s.a s.x s.mem hs.len hq hs.a hs.x hpp (by decide) (by rw [eb]; exact hv) w hK
  | some v =>
    have e : stepV alI hdI (100, y, z, k) (dW d) s = (none, ⟨s.pc + 1, v, s.x, s.mem⟩) := by simp [stepV, effV, form_at_100, hv]
    rw [stepR_go e]
    exact step_alu 100 y z k d hd s.pc s.a s.x s.mem hs.len hq hs.a hs.x hpp (by decide) v (by rw [eb]; exact hv) w hK

theorem stepAt_108 (y z k : Int) (d : Dat) (hd : DatOk d) (s : VmS) (hs : VmOk s) (hp : s.pc ≤ 1000) (left : Int) (hq : InsOk 108 y z k) (ho : oneL left (108, y, z, k) = 0) (hleft : left ≤ 64) (w : World) (hK : Kinds w) :
    Calls Tryd.prog 55 #[valI (108, y, z, k), datV d, vmV s] w fun e w' => e = .returned (stepR (108, y, z, k) d s) ∧ Below w.heap.size w w' := by
  have hpp : (0 : Int) ≤ (s.pc : Int) ∧ (s.pc : Int) ≤ 1000 := by omega
  have eb : (if formOf 108 = 1 ∨ formOf 108 = 5 then k else s.x) = s.x := by rw [form_at_108]; simp
  cases hv : alI 108 s.a s.x with
  | none =>
    have e : stepV alI hdI (108, y, z, k) (dW d) s = (some 0, s) := by simp [stepV, effV, form_at_108, hv]
    rw [stepR_ret e]
    exact step_div 108 y z k d hd s.pc s.a s.x s.mem hs.len hq hs.a hs.x hpp (by decide) (by rw [eb]; exact hv) w hK
  | some v =>
    have e : stepV alI hdI (108, y, z, k) (dW d) s = (none, ⟨s.pc + 1, v, s.x, s.mem⟩) := by simp [stepV, effV, form_at_108, hv]
    rw [stepR_go e]
    exact step_alu 108 y z k d hd s.pc s.a s.x s.mem hs.len hq hs.a hs.x hpp (by decide) v (by rw [eb]; exact hv) w hK

theorem stepAt_116 (y z k : Int) (d : Dat) (hd : DatOk d) (s : VmS) (hs : VmOk s) (hp : s.pc ≤ 1000) (left : Int) (hq : InsOk 116 y z k) (ho : oneL left (116, y, z, k) = 0) (hleft : left ≤ 64) (w : World) (hK : Kinds w) :
    Calls Tryd.prog 55 #[valI (116, y, z, k), datV d, vmV s] w fun e w' => e = .returned (stepR (116, y, z, k) d s) ∧ Below w.heap.size w w' := by
  have hpp : (0 : Int) ≤ (s.pc : Int) ∧ (s.pc : Int) ≤ 1000 := by omega
  have eb : (if formOf 116 = 1 ∨ formOf 116 = 5 then k else s.x) = k := by rw [form_at_116]; simp
  cases hv : alI 116 s.a k with
  | none =>
    have e : stepV alI hdI (116, y, z, k) (dW d) s = (some 0, s) := by simp [stepV, effV, form_at_116, hv]
    rw [stepR_ret e]
    exact step_div 116 y z k d hd s.pc s.a s.x s.mem hs.len hq hs.a hs.x hpp (by decide) (by rw [eb]; exact hv) w hK
  | some v =>
    have e : stepV alI hdI (116, y, z, k) (dW d) s = (none, ⟨s.pc + 1, v, s.x, s.mem⟩) := by simp [stepV, effV, form_at_116, hv]
    rw [stepR_go e]
    exact step_alu 116 y z k d hd s.pc s.a s.x s.mem hs.len hq hs.a hs.x hpp (by decide) v (by rw [eb]; exact hv) w hK

theorem stepAt_124 (y z k : Int) (d : Dat) (hd : DatOk d) (s : VmS) (hs : VmOk s) (hp : s.pc ≤ 1000) (left : Int) (hq : InsOk 124 y z k) (ho : oneL left (124, y, z, k) = 0) (hleft : left ≤ 64) (w : World) (hK : Kinds w) :
    Calls Tryd.prog 55 #[valI (124, y, z, k), datV d, vmV s] w fun e w' => e = .returned (stepR (124, y, z, k) d s) ∧ Below w.heap.size w w' := by
  have hpp : (0 : Int) ≤ (s.pc : Int) ∧ (s.pc : Int) ≤ 1000 := by omega
  have eb : (if formOf 124 = 1 ∨ formOf 124 = 5 then k else s.x) = s.x := by rw [form_at_124]; simp
  cases hv : alI 124 s.a s.x with
  | none =>
    have e : stepV alI hdI (124, y, z, k) (dW d) s = (some 0, s) := by simp [stepV, effV, form_at_124, hv]
    rw [stepR_ret e]
    exact step_div 124 y z k d hd s.pc s.a s.x s.mem hs.len hq hs.a hs.x hpp (by decide) (by rw [eb]; exact hv) w hK
  | some v =>
    have e : stepV alI hdI (124, y, z, k) (dW d) s = (none, ⟨s.pc + 1, v, s.x, s.mem⟩) := by simp [stepV, effV, form_at_124, hv]
    rw [stepR_go e]
    exact step_alu 124 y z k d hd s.pc s.a s.x s.mem hs.len hq hs.a hs.x hpp (by decide) v (by rw [eb]; exact hv) w hK

theorem stepAt_128 (y z k : Int) (d : Dat) (hd : DatOk d) (s : VmS) (hs : VmOk s) (hp : s.pc ≤ 1000) (left : Int) (hq : InsOk 128 y z k) (ho : oneL left (128, y, z, k) = 0) (hleft : left ≤ 64) (w : World) (hK : Kinds w) :
    Calls Tryd.prog 55 #[valI (128, y, z, k), datV d, vmV s] w fun e w' => e = .returned (stepR (128, y, z, k) d s) ∧ Below w.heap.size w w' := by
  have hpp : (0 : Int) ≤ (s.pc : Int) ∧ (s.pc : Int) ≤ 1000 := by omega
  obtain ⟨_, h3, _, _⟩ := oneL_ok ho
  have e : stepV alI hdI (128, y, z, k) (dW d) s = (none, ⟨s.pc + 1, ldI (128, y, z, k) (dW d) s.mem, s.x, s.mem⟩) := by simp [stepV, effV, ldI, form_at_128]
  rw [stepR_go e]
  exact step_ld 128 y z k d hd s.pc s.a s.x s.mem hs.len hq hs.a hs.x hpp (by decide) (fun h => by rw [form_at_128] at h; cases h) (fun h => h3 h) w hK

theorem stepAt_129 (y z k : Int) (d : Dat) (hd : DatOk d) (s : VmS) (hs : VmOk s) (hp : s.pc ≤ 1000) (left : Int) (hq : InsOk 129 y z k) (ho : oneL left (129, y, z, k) = 0) (hleft : left ≤ 64) (w : World) (hK : Kinds w) :
    Calls Tryd.prog 55 #[valI (129, y, z, k), datV d, vmV s] w fun e w' => e = .returned (stepR (129, y, z, k) d s) ∧ Below w.heap.size w w' := by
  have hpp : (0 : Int) ≤ (s.pc : Int) ∧ (s.pc : Int) ≤ 1000 := by omega
  obtain ⟨_, h3, _, _⟩ := oneL_ok ho
  have e : stepV alI hdI (129, y, z, k) (dW d) s = (none, ⟨s.pc + 1, s.a, ldI (129, y, z, k) (dW d) s.mem, s.mem⟩) := by simp [stepV, effV, ldI, form_at_129]
  rw [stepR_go e]
  exact step_ldx 129 y z k d hd s.pc s.a s.x s.mem hs.len hq hs.a hs.x hpp (by decide) (fun h => by rw [form_at_129] at h; cases h) (fun h => h3 h) w hK

theorem stepAt_132 (y z k : Int) (d : Dat) (hd : DatOk d) (s : VmS) (hs : VmOk s) (hp : s.pc ≤ 1000) (left : Int) (hq : InsOk 132 y z k) (ho : oneL left (132, y, z, k) = 0) (hleft : left ≤ 64) (w : World) (hK : Kinds w) :
    Calls Tryd.prog 55 #[valI (132, y, z, k), datV d, vmV s] w fun e w' => e = .returned (stepR (132, y, z, k) d s) ∧ Below w.heap.size w w' := by
  have hpp : (0 : Int) ≤ (s.pc : Int) ∧ (s.pc : Int) ≤ 1000 := by omega
  have ev : ∀ b, alI 132 s.a b = some (IntKind.u32.wrap (-s.a)) := fun b => by simp [alI, opK]
  have e : stepV alI hdI (132, y, z, k) (dW d) s = (none, ⟨s.pc + 1, IntKind.u32.wrap (-s.a), s.x, s.mem⟩) := by simp [stepV, effV, form_at_132, ev]
  rw [stepR_go e]
  exact step_alu 132 y z k d hd s.pc s.a s.x s.mem hs.len hq hs.a hs.x hpp (by decide) _ (ev _) w hK

theorem stepAt_135 (y z k : Int) (d : Dat) (hd : DatOk d) (s : VmS) (hs : VmOk s) (hp : s.pc ≤ 1000) (left : Int) (hq : InsOk 135 y z k) (ho : oneL left (135, y, z, k) = 0) (hleft : left ≤ 64) (w : World) (hK : Kinds w) :
    Calls Tryd.prog 55 #[valI (135, y, z, k), datV d, vmV s] w fun e w' => e = .returned (stepR (135, y, z, k) d s) ∧ Below w.heap.size w w' := by
  have hpp : (0 : Int) ≤ (s.pc : Int) ∧ (s.pc : Int) ≤ 1000 := by omega
  have e : stepV alI hdI (135, y, z, k) (dW d) s = (none, ⟨s.pc + 1, s.x, s.x, s.mem⟩) := by simp [stepV, effV, form_at_135]
  rw [stepR_go e]
  have H := step_mov 135 y z k d hd s.pc s.a s.x s.mem hs.len hq hs.a hs.x hpp (by decide) w hK
  rw [if_neg txa_name] at H
  exact H

theorem stepAt_164 (y z k : Int) (d : Dat) (hd : DatOk d) (s : VmS) (hs : VmOk s) (hp : s.pc ≤ 1000) (left : Int) (hq : InsOk 164 y z k) (ho : oneL left (164, y, z, k) = 0) (hleft : left ≤ 64) (w : World) (hK : Kinds w) :
    Calls Tryd.prog 55 #[valI (164, y, z, k), datV d, vmV s] w fun e w' => e = .returned (stepR (164, y, z, k) d s) ∧ Below w.heap.size w w' := by
  have hpp : (0 : Int) ≤ (s.pc : Int) ∧ (s.pc : Int) ≤ 1000 := by omega
  have eb : (if formOf 164 = 1 ∨ formOf 164 = 5 then k else s.x) = k := by rw [form_at_164]; simp
  cases hv : alI 164 s.a k with
  | none =>
    have e : stepV alI hdI (164, y, z, k) (dW d) s = (some 0, s) := by simp [stepV, effV, form_at_164, hv]
    rw [stepR_ret e]
    exact step_div 164 y z k d hd s.pc s.a s.x s.mem hs.len hq hs.a hs.x hpp (by decide) (by rw [eb]; exact hv) w hK
  | some v =>
    have e : stepV alI hdI (164, y, z, k) (dW d) s = (none, ⟨s.pc + 1, v, s.x, s.mem⟩) := by simp [stepV, effV, form_at_164, hv]
    rw [stepR_go e]
    exact step_alu 164 y z k d hd s.pc s.a s.x s.mem hs.len hq hs.a hs.x hpp (by decide) v (by rw [eb]; exact hv) w hK

theorem stepAt_172 (y z k : Int) (d : Dat) (hd : DatOk d) (s : VmS) (hs : VmOk s) (hp : s.pc ≤ 1000) (left : Int) (hq : InsOk 172 y z k) (ho : oneL left (172, y, z, k) = 0) (hleft : left ≤ 64) (w : World) (hK : Kinds w) :
    Calls Tryd.prog 55 #[valI (172, y, z, k), datV d, vmV s] w fun e w' => e = .returned (stepR (172, y, z, k) d s) ∧ Below w.heap.size w w' := by
  have hpp : (0 : Int) ≤ (s.pc : Int) ∧ (s.pc : Int) ≤ 1000 := by omega
  have eb : (if formOf 172 = 1 ∨ formOf 172 = 5 then k else s.x) = s.x := by rw [form_at_172]; simp
  cases hv : alI 172 s.a s.x with
  | none =>
    have e : stepV alI hdI (172, y, z, k) (dW d) s = (some 0, s) := by simp [stepV, effV, form_at_172, hv]
    rw [stepR_ret e]
    exact step_div 172 y z k d hd s.pc s.a s.x s.mem hs.len hq hs.a hs.x hpp (by decide) (by rw [eb]; exact hv) w hK
  | some v =>
    have e : stepV alI hdI (172, y, z, k) (dW d) s = (none, ⟨s.pc + 1, v, s.x, s.mem⟩) := by simp [stepV, effV, form_at_172, hv]
    rw [stepR_go e]
    exact step_alu 172 y z k d hd s.pc s.a s.x s.mem hs.len hq hs.a hs.x hpp (by decide) v (by rw [eb]; exact hv) w hK

/-- One step of whatever instruction may stand there. -/
theorem step_any (q : Ins) (d : Dat) (hd : DatOk d) (s : VmS) (hs : VmOk s) (hp : s.pc ≤ 1000) (left : Int) (hq : insO q) (ho : oneL left q = 0) (hleft : left ≤ 64) (w : World) (hK : Kinds w) :
    Calls Tryd.prog 55 #[valI q, datV d, vmV s] w fun e w' => e = .returned (stepR q d s) ∧ Below w.heap.size w w' := by
  obtain ⟨c, y, z, k⟩ := q
  have hr := row_list (oneL_ok ho).1
  simp only [List.mem_cons, List.not_mem_nil, or_false] at hr
  rcases hr with rfl | rfl | rfl | rfl | rfl | rfl | rfl | rfl | rfl | rfl | rfl | rfl | rfl | rfl | rfl | rfl | rfl | rfl | rfl | rfl | rfl | rfl | rfl | rfl | rfl | rfl | rfl | rfl | rfl | rfl | rfl | rfl | rfl | rfl | rfl | rfl | rfl | rfl | rfl | rfl | rfl
  · exact stepAt_0 y z k d hd s hs hp left hq ho hleft w hK
  · exact stepAt_1 y z k d hd s hs hp left hq ho hleft w hK
  · exact stepAt_2 y z k d hd s hs hp left hq ho hleft w hK
  · exact stepAt_3 y z k d hd s hs hp left hq ho hleft w hK
  · exact stepAt_4 y z k d hd s hs hp left hq ho hleft w hK
  · exact stepAt_5 y z k d hd s hs hp left hq ho hleft w hK
  · exact stepAt_6 y z k d hd s hs hp left hq ho hleft w hK
  · exact stepAt_7 y z k d hd s hs hp left hq ho hleft w hK
  · exact stepAt_12 y z k d hd s hs hp left hq ho hleft w hK
  · exact stepAt_20 y z k d hd s hs hp left hq ho hleft w hK
  · exact stepAt_21 y z k d hd s hs hp left hq ho hleft w hK
  · exact stepAt_22 y z k d hd s hs hp left hq ho hleft w hK
  · exact stepAt_28 y z k d hd s hs hp left hq ho hleft w hK
  · exact stepAt_29 y z k d hd s hs hp left hq ho hleft w hK
  · exact stepAt_32 y z k d hd s hs hp left hq ho hleft w hK
  · exact stepAt_36 y z k d hd s hs hp left hq ho hleft w hK
  · exact stepAt_37 y z k d hd s hs hp left hq ho hleft w hK
  · exact stepAt_44 y z k d hd s hs hp left hq ho hleft w hK
  · exact stepAt_45 y z k d hd s hs hp left hq ho hleft w hK
  · exact stepAt_52 y z k d hd s hs hp left hq ho hleft w hK
  · exact stepAt_53 y z k d hd s hs hp left hq ho hleft w hK
  · exact stepAt_60 y z k d hd s hs hp left hq ho hleft w hK
  · exact stepAt_61 y z k d hd s hs hp left hq ho hleft w hK
  · exact stepAt_68 y z k d hd s hs hp left hq ho hleft w hK
  · exact stepAt_69 y z k d hd s hs hp left hq ho hleft w hK
  · exact stepAt_76 y z k d hd s hs hp left hq ho hleft w hK
  · exact stepAt_77 y z k d hd s hs hp left hq ho hleft w hK
  · exact stepAt_84 y z k d hd s hs hp left hq ho hleft w hK
  · exact stepAt_92 y z k d hd s hs hp left hq ho hleft w hK
  · exact stepAt_96 y z k d hd s hs hp left hq ho hleft w hK
  · exact stepAt_97 y z k d hd s hs hp left hq ho hleft w hK
  · exact stepAt_100 y z k d hd s hs hp left hq ho hleft w hK
  · exact stepAt_108 y z k d hd s hs hp left hq ho hleft w hK
  · exact stepAt_116 y z k d hd s hs hp left hq ho hleft w hK
  · exact stepAt_124 y z k d hd s hs hp left hq ho hleft w hK
  · exact stepAt_128 y z k d hd s hs hp left hq ho hleft w hK
  · exact stepAt_129 y z k d hd s hs hp left hq ho hleft w hK
  · exact stepAt_132 y z k d hd s hs hp left hq ho hleft w hK
  · exact stepAt_135 y z k d hd s hs hp left hq ho hleft w hK
  · exact stepAt_164 y z k d hd s hs hp left hq ho hleft w hK
  · exact stepAt_172 y z k d hd s hs hp left hq ho hleft w hK
end Go.Proofs.YtejhamkmfnfmoaaDoor

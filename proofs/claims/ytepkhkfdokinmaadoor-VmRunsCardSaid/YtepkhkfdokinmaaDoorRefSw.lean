/-
  The reference's Step, at whatever instruction may stand there: what vm.step says.
-/
import Derived.Test.YtepkhkfdokinmaaDoorRefSv
import Derived.Test.YtepkhkfdokinmaaDoorVmQ
import Derived.Test.YtepkhkfdokinmaaDoorDatO
namespace Go.Proofs.YtepkhkfdokinmaaDoor
open Go.RowKit
set_option linter.unusedVariables false
set_option linter.unusedSimpArgs false

theorem rstepAt_0 (y z k : Int) (A : Option Addr) (m cap : Nat) (f : Nat → Ins) (d : Dat) (hd : DatOk d) (s : VmS) (hok : VmOk s) (w : World) (hA : Ri w w.heap.size A m f) (hcap : m ≤ cap) (hm : m ≤ 64) (hs : s.pc < m) (hf : f s.pc = (0, y, z, k)) (left : Int) (ho : oneL left (0, y, z, k) = 0) (hleft : left ≤ 64) :
    Calls Tryd.prog 16 #[.slice A m cap, datV d, vmV s] w fun e w' => e = .returned (stepR (0, y, z, k) d s) ∧ Below w.heap.size w w' := by
  have hq := hA.ok s.pc hs
  rw [hf] at hq
  have e : stepV alI hdI (0, y, z, k) (dW d) s = (none, ⟨s.pc + 1, k, s.x, s.mem⟩) := by simp [stepV, effV, form_at_0]
  rw [stepR_go e]
  exact rstep_0 y z k A m cap f d hd s hok w hA hcap hm hs hf

theorem rstepAt_1 (y z k : Int) (A : Option Addr) (m cap : Nat) (f : Nat → Ins) (d : Dat) (hd : DatOk d) (s : VmS) (hok : VmOk s) (w : World) (hA : Ri w w.heap.size A m f) (hcap : m ≤ cap) (hm : m ≤ 64) (hs : s.pc < m) (hf : f s.pc = (1, y, z, k)) (left : Int) (ho : oneL left (1, y, z, k) = 0) (hleft : left ≤ 64) :
    Calls Tryd.prog 16 #[.slice A m cap, datV d, vmV s] w fun e w' => e = .returned (stepR (1, y, z, k) d s) ∧ Below w.heap.size w w' := by
  have hq := hA.ok s.pc hs
  rw [hf] at hq
  have e : stepV alI hdI (1, y, z, k) (dW d) s = (none, ⟨s.pc + 1, s.a, k, s.mem⟩) := by simp [stepV, effV, form_at_1]
  rw [stepR_go e]
  exact rstep_1 y z k A m cap f d hd s hok w hA hcap hm hs hf

theorem rstepAt_2 (y z k : Int) (A : Option Addr) (m cap : Nat) (f : Nat → Ins) (d : Dat) (hd : DatOk d) (s : VmS) (hok : VmOk s) (w : World) (hA : Ri w w.heap.size A m f) (hcap : m ≤ cap) (hm : m ≤ 64) (hs : s.pc < m) (hf : f s.pc = (2, y, z, k)) (left : Int) (ho : oneL left (2, y, z, k) = 0) (hleft : left ≤ 64) :
    Calls Tryd.prog 16 #[.slice A m cap, datV d, vmV s] w fun e w' => e = .returned (stepR (2, y, z, k) d s) ∧ Below w.heap.size w w' := by
  have hq := hA.ok s.pc hs
  rw [hf] at hq
  obtain ⟨_, h3, _, _⟩ := oneL_ok ho
  have hk := h3 form_at_2
  have hk0 : 0 ≤ k := hq.k0
  simp only at hk
  have e : stepV alI hdI (2, y, z, k) (dW d) s = (none, ⟨s.pc + 1, s.a, s.x, s.mem.set k.toNat s.a⟩) := by simp [stepV, effV, form_at_2]
  rw [stepR_go e]
  exact rstep_2 y z k A m cap f d hd s hok w hA hcap hm hs hf k.toNat (by omega) (by omega)

theorem rstepAt_3 (y z k : Int) (A : Option Addr) (m cap : Nat) (f : Nat → Ins) (d : Dat) (hd : DatOk d) (s : VmS) (hok : VmOk s) (w : World) (hA : Ri w w.heap.size A m f) (hcap : m ≤ cap) (hm : m ≤ 64) (hs : s.pc < m) (hf : f s.pc = (3, y, z, k)) (left : Int) (ho : oneL left (3, y, z, k) = 0) (hleft : left ≤ 64) :
    Calls Tryd.prog 16 #[.slice A m cap, datV d, vmV s] w fun e w' => e = .returned (stepR (3, y, z, k) d s) ∧ Below w.heap.size w w' := by
  have hq := hA.ok s.pc hs
  rw [hf] at hq
  obtain ⟨_, h3, _, _⟩ := oneL_ok ho
  have hk := h3 form_at_3
  have hk0 : 0 ≤ k := hq.k0
  simp only at hk
  have e : stepV alI hdI (3, y, z, k) (dW d) s = (none, ⟨s.pc + 1, s.a, s.x, s.mem.set k.toNat s.x⟩) := by simp [stepV, effV, form_at_3]
  rw [stepR_go e]
  exact rstep_3 y z k A m cap f d hd s hok w hA hcap hm hs hf k.toNat (by omega) (by omega)

theorem rstepAt_4 (y z k : Int) (A : Option Addr) (m cap : Nat) (f : Nat → Ins) (d : Dat) (hd : DatOk d) (s : VmS) (hok : VmOk s) (w : World) (hA : Ri w w.heap.size A m f) (hcap : m ≤ cap) (hm : m ≤ 64) (hs : s.pc < m) (hf : f s.pc = (4, y, z, k)) (left : Int) (ho : oneL left (4, y, z, k) = 0) (hleft : left ≤ 64) :
    Calls Tryd.prog 16 #[.slice A m cap, datV d, vmV s] w fun e w' => e = .returned (stepR (4, y, z, k) d s) ∧ Below w.heap.size w w' := by
  have hq := hA.ok s.pc hs
  rw [hf] at hq
  cases hv : alI 4 s.a k with
  | none =>
    exfalso
    simp [alI, opK] at hv
  | some v =>
    have e : stepV alI hdI (4, y, z, k) (dW d) s = (none, ⟨s.pc + 1, v, s.x, s.mem⟩) := by simp [stepV, effV, form_at_4, hv]
    rw [stepR_go e]
    have H := rstep_4 y z k A m cap f d hd s hok w hA hcap hm hs hf (by simp [aluB, hv])
    rw [show aluV 4 s.a k = v by simp [aluV, hv]] at H
    exact H

theorem rstepAt_5 (y z k : Int) (A : Option Addr) (m cap : Nat) (f : Nat → Ins) (d : Dat) (hd : DatOk d) (s : VmS) (hok : VmOk s) (w : World) (hA : Ri w w.heap.size A m f) (hcap : m ≤ cap) (hm : m ≤ 64) (hs : s.pc < m) (hf : f s.pc = (5, y, z, k)) (left : Int) (ho : oneL left (5, y, z, k) = 0) (hleft : left ≤ 64) :
    Calls Tryd.prog 16 #[.slice A m cap, datV d, vmV s] w fun e w' => e = .returned (stepR (5, y, z, k) d s) ∧ Below w.heap.size w w' := by
  have hq := hA.ok s.pc hs
  rw [hf] at hq
  obtain ⟨_, _, h4, _⟩ := oneL_ok ho
  have hk := h4 form_at_5
  have hk0 : 0 ≤ k := hq.k0
  simp only at hk
  have e : stepV alI hdI (5, y, z, k) (dW d) s = (none, ⟨s.pc + 1 + k.toNat, s.a, s.x, s.mem⟩) := by simp [stepV]
  rw [stepR_go e]
  have H := rstep_5 y z k A m cap f d hd s hok w hA hcap hm hs hf ⟨hk0, by omega⟩
  have ep : (s.pc : Int) + 1 + k = ((s.pc + 1 + k.toNat : Nat) : Int) := by omega
  rw [ep] at H
  exact H

theorem rstepAt_6 (y z k : Int) (A : Option Addr) (m cap : Nat) (f : Nat → Ins) (d : Dat) (hd : DatOk d) (s : VmS) (hok : VmOk s) (w : World) (hA : Ri w w.heap.size A m f) (hcap : m ≤ cap) (hm : m ≤ 64) (hs : s.pc < m) (hf : f s.pc = (6, y, z, k)) (left : Int) (ho : oneL left (6, y, z, k) = 0) (hleft : left ≤ 64) :
    Calls Tryd.prog 16 #[.slice A m cap, datV d, vmV s] w fun e w' => e = .returned (stepR (6, y, z, k) d s) ∧ Below w.heap.size w w' := by
  have hq := hA.ok s.pc hs
  rw [hf] at hq
  have e : stepV alI hdI (6, y, z, k) (dW d) s = (some k, s) := by simp [stepV]
  rw [stepR_ret e]
  exact rstep_6 y z k A m cap f d hd s hok w hA hcap hm hs hf

theorem rstepAt_7 (y z k : Int) (A : Option Addr) (m cap : Nat) (f : Nat → Ins) (d : Dat) (hd : DatOk d) (s : VmS) (hok : VmOk s) (w : World) (hA : Ri w w.heap.size A m f) (hcap : m ≤ cap) (hm : m ≤ 64) (hs : s.pc < m) (hf : f s.pc = (7, y, z, k)) (left : Int) (ho : oneL left (7, y, z, k) = 0) (hleft : left ≤ 64) :
    Calls Tryd.prog 16 #[.slice A m cap, datV d, vmV s] w fun e w' => e = .returned (stepR (7, y, z, k) d s) ∧ Below w.heap.size w w' := by
  have hq := hA.ok s.pc hs
  rw [hf] at hq
  have e : stepV alI hdI (7, y, z, k) (dW d) s = (none, ⟨s.pc + 1, s.a, s.a, s.mem⟩) := by simp [stepV, effV, form_at_7]
  rw [stepR_go e]
  exact rstep_7 y z k A m cap f d hd s hok w hA hcap hm hs hf

theorem rstepAt_12 (y z k : Int) (A : Option Addr) (m cap : Nat) (f : Nat → Ins) (d : Dat) (hd : DatOk d) (s : VmS) (hok : VmOk s) (w : World) (hA : Ri w w.heap.size A m f) (hcap : m ≤ cap) (hm : m ≤ 64) (hs : s.pc < m) (hf : f s.pc = (12, y, z, k)) (left : Int) (ho : oneL left (12, y, z, k) = 0) (hleft : left ≤ 64) :
    Calls Tryd.prog 16 #[.slice A m cap, datV d, vmV s] w fun e w' => e = .returned (stepR (12, y, z, k) d s) ∧ Below w.heap.size w w' := by
  have hq := hA.ok s.pc hs
  rw [hf] at hq
  cases hv : alI 12 s.a s.x with
  | none =>
    exfalso
    simp [alI, opK] at hv
  | some v =>
    have e : stepV alI hdI (12, y, z, k) (dW d) s = (none, ⟨s.pc + 1, v, s.x, s.mem⟩) := by simp [stepV, effV, form_at_12, hv]
    rw [stepR_go e]
    have H := rstep_12 y z k A m cap f d hd s hok w hA hcap hm hs hf (by simp [aluB, hv])
    rw [show aluV 12 s.a s.x = v by simp [aluV, hv]] at H
    exact H

theorem rstepAt_20 (y z k : Int) (A : Option Addr) (m cap : Nat) (f : Nat → Ins) (d : Dat) (hd : DatOk d) (s : VmS) (hok : VmOk s) (w : World) (hA : Ri w w.heap.size A m f) (hcap : m ≤ cap) (hm : m ≤ 64) (hs : s.pc < m) (hf : f s.pc = (20, y, z, k)) (left : Int) (ho : oneL left (20, y, z, k) = 0) (hleft : left ≤ 64) :
    Calls Tryd.prog 16 #[.slice A m cap, datV d, vmV s] w fun e w' => e = .returned (stepR (20, y, z, k) d s) ∧ Below w.heap.size w w' := by
  have hq := hA.ok s.pc hs
  rw [hf] at hq
  cases hv : alI 20 s.a k with
  | none =>
    exfalso
    simp [alI, opK] at hv
  | some v =>
    have e : stepV alI hdI (20, y, z, k) (dW d) s = (none, ⟨s.pc + 1, v, s.x, s.mem⟩) := by simp [stepV, effV, form_at_20, hv]
    rw [stepR_go e]
    have H := rstep_20 y z k A m cap f d hd s hok w hA hcap hm hs hf (by simp [aluB, hv])
    rw [show aluV 20 s.a k = v by simp [aluV, hv]] at H
    exact H

theorem rstepAt_21 (y z k : Int) (A : Option Addr) (m cap : Nat) (f : Nat → Ins) (d : Dat) (hd : DatOk d) (s : VmS) (hok : VmOk s) (w : World) (hA : Ri w w.heap.size A m f) (hcap : m ≤ cap) (hm : m ≤ 64) (hs : s.pc < m) (hf : f s.pc = (21, y, z, k)) (left : Int) (ho : oneL left (21, y, z, k) = 0) (hleft : left ≤ 64) :
    Calls Tryd.prog 16 #[.slice A m cap, datV d, vmV s] w fun e w' => e = .returned (stepR (21, y, z, k) d s) ∧ Below w.heap.size w w' := by
  have hq := hA.ok s.pc hs
  rw [hf] at hq
  obtain ⟨_, _, _, h5⟩ := oneL_ok ho
  have hyz := h5 (by rw [form_at_21]; simp)
  have hy0 : 0 ≤ y := hq.a0
  have hz0 : 0 ≤ z := hq.b0
  simp only at hyz
  have H := rstep_21 y z k A m cap f d hd s hok w hA hcap hm hs hf ⟨hy0, by omega⟩ ⟨hz0, by omega⟩
  obtain ⟨t, ht⟩ : ∃ t, hdI 21 s.a k = t := ⟨_, rfl⟩
  have e : stepV alI hdI (21, y, z, k) (dW d) s = (none, ⟨s.pc + 1 + (if t = true then y.toNat else z.toNat), s.a, s.x, s.mem⟩) := by simp [stepV, form_at_21, ht]
  rw [stepR_go e]
  rw [ht] at H
  have ep : (s.pc : Int) + 1 + (if t = true then y else z) = ((s.pc + 1 + (if t = true then y.toNat else z.toNat) : Nat) : Int) := by split <;> omega
  rw [ep] at H
  exact H

theorem rstepAt_22 (y z k : Int) (A : Option Addr) (m cap : Nat) (f : Nat → Ins) (d : Dat) (hd : DatOk d) (s : VmS) (hok : VmOk s) (w : World) (hA : Ri w w.heap.size A m f) (hcap : m ≤ cap) (hm : m ≤ 64) (hs : s.pc < m) (hf : f s.pc = (22, y, z, k)) (left : Int) (ho : oneL left (22, y, z, k) = 0) (hleft : left ≤ 64) :
    Calls Tryd.prog 16 #[.slice A m cap, datV d, vmV s] w fun e w' => e = .returned (stepR (22, y, z, k) d s) ∧ Below w.heap.size w w' := by
  have hq := hA.ok s.pc hs
  rw [hf] at hq
  have e : stepV alI hdI (22, y, z, k) (dW d) s = (some s.a, s) := by simp [stepV]
  rw [stepR_ret e]
  exact rstep_22 y z k A m cap f d hd s hok w hA hcap hm hs hf

theorem rstepAt_28 (y z k : Int) (A : Option Addr) (m cap : Nat) (f : Nat → Ins) (d : Dat) (hd : DatOk d) (s : VmS) (hok : VmOk s) (w : World) (hA : Ri w w.heap.size A m f) (hcap : m ≤ cap) (hm : m ≤ 64) (hs : s.pc < m) (hf : f s.pc = (28, y, z, k)) (left : Int) (ho : oneL left (28, y, z, k) = 0) (hleft : left ≤ 64) :
    Calls Tryd.prog 16 #[.slice A m cap, datV d, vmV s] w fun e w' => e = .returned (stepR (28, y, z, k) d s) ∧ Below w.heap.size w w' := by
  have hq := hA.ok s.pc hs
  rw [hf] at hq
  cases hv : alI 28 s.a s.x with
  | none =>
    exfalso
    simp [alI, opK] at hv
  | some v =>
    have e : stepV alI hdI (28, y, z, k) (dW d) s = (none, ⟨s.pc + 1, v, s.x, s.mem⟩) := by simp [stepV, effV, form_at_28, hv]
    rw [stepR_go e]
    have H := rstep_28 y z k A m cap f d hd s hok w hA hcap hm hs hf (by simp [aluB, hv])
    rw [show aluV 28 s.a s.x = v by simp [aluV, hv]] at H
    exact H

theorem rstepAt_29 (y z k : Int) (A : Option Addr) (m cap : Nat) (f : Nat → Ins) (d : Dat) (hd : DatOk d) (s : VmS) (hok : VmOk s) (w : World) (hA : Ri w w.heap.size A m f) (hcap : m ≤ cap) (hm : m ≤ 64) (hs : s.pc < m) (hf : f s.pc = (29, y, z, k)) (left : Int) (ho : oneL left (29, y, z, k) = 0) (hleft : left ≤ 64) :
    Calls Tryd.prog 16 #[.slice A m cap, datV d, vmV s] w fun e w' => e = .returned (stepR (29, y, z, k) d s) ∧ Below w.heap.size w w' := by
  have hq := hA.ok s.pc hs
  rw [hf] at hq
  obtain ⟨_, _, _, h5⟩ := oneL_ok ho
  have hyz := h5 (by rw [form_at_29]; simp)
  have hy0 : 0 ≤ y := hq.a0
  have hz0 : 0 ≤ z := hq.b0
  simp only at hyz
  have H := rstep_29 y z k A m cap f d hd s hok w hA hcap hm hs hf ⟨hy0, by omega⟩ ⟨hz0, by omega⟩
  obtain ⟨t, ht⟩ : ∃ t, hdI 29 s.a s.x = t := ⟨_, rfl⟩
  have e : stepV alI hdI (29, y, z, k) (dW d) s = (none, ⟨s.pc + 1 + (if t = true then y.toNat else z.toNat), s.a, s.x, s.mem⟩) := by simp [stepV, form_at_29, ht]
  rw [stepR_go e]
  rw [ht] at H
  have ep : (s.pc : Int) + 1 + (if t = true then y else z) = ((s.pc + 1 + (if t = true then y.toNat else z.toNat) : Nat) : Int) := by split <;> omega
  rw [ep] at H
  exact H

theorem rstepAt_32 (y z k : Int) (A : Option Addr) (m cap : Nat) (f : Nat → Ins) (d : Dat) (hd : DatOk d) (s : VmS) (hok : VmOk s) (w : World) (hA : Ri w w.heap.size A m f) (hcap : m ≤ cap) (hm : m ≤ 64) (hs : s.pc < m) (hf : f s.pc = (32, y, z, k)) (left : Int) (ho : oneL left (32, y, z, k) = 0) (hleft : left ≤ 64) :
    Calls Tryd.prog 16 #[.slice A m cap, datV d, vmV s] w fun e w' => e = .returned (stepR (32, y, z, k) d s) ∧ Below w.heap.size w w' := by
  have hq := hA.ok s.pc hs
  rw [hf] at hq
  obtain ⟨kn, h16, h4, hkn⟩ := right_parts k ⟨hq.k0, hq.k1⟩ (one_word ho)
  have hw : dW d k = (wordsL d).getD kn 0 := by unfold dW; rw [h4]; rfl
  have e : stepV alI hdI (32, y, z, k) (dW d) s = (none, ⟨s.pc + 1, (wordsL d).getD kn 0, s.x, s.mem⟩) := by simp [stepV, effV, form_at_32, hw]
  rw [stepR_go e]
  exact rstep_32 y z k A m cap f d hd s hok w hA hcap hm hs hf kn hkn h16

theorem rstepAt_36 (y z k : Int) (A : Option Addr) (m cap : Nat) (f : Nat → Ins) (d : Dat) (hd : DatOk d) (s : VmS) (hok : VmOk s) (w : World) (hA : Ri w w.heap.size A m f) (hcap : m ≤ cap) (hm : m ≤ 64) (hs : s.pc < m) (hf : f s.pc = (36, y, z, k)) (left : Int) (ho : oneL left (36, y, z, k) = 0) (hleft : left ≤ 64) :
    Calls Tryd.prog 16 #[.slice A m cap, datV d, vmV s] w fun e w' => e = .returned (stepR (36, y, z, k) d s) ∧ Below w.heap.size w w' := by
  have hq := hA.ok s.pc hs
  rw [hf] at hq
  cases hv : alI 36 s.a k with
  | none =>
    exfalso
    simp [alI, opK] at hv
  | some v =>
    have e : stepV alI hdI (36, y, z, k) (dW d) s = (none, ⟨s.pc + 1, v, s.x, s.mem⟩) := by simp [stepV, effV, form_at_36, hv]
    rw [stepR_go e]
    have H := rstep_36 y z k A m cap f d hd s hok w hA hcap hm hs hf (by simp [aluB, hv])
    rw [show aluV 36 s.a k = v by simp [aluV, hv]] at H
    exact H

theorem rstepAt_37 (y z k : Int) (A : Option Addr) (m cap : Nat) (f : Nat → Ins) (d : Dat) (hd : DatOk d) (s : VmS) (hok : VmOk s) (w : World) (hA : Ri w w.heap.size A m f) (hcap : m ≤ cap) (hm : m ≤ 64) (hs : s.pc < m) (hf : f s.pc = (37, y, z, k)) (left : Int) (ho : oneL left (37, y, z, k) = 0) (hleft : left ≤ 64) :
    Calls Tryd.prog 16 #[.slice A m cap, datV d, vmV s] w fun e w' => e = .returned (stepR (37, y, z, k) d s) ∧ Below w.heap.size w w' := by
  have hq := hA.ok s.pc hs
  rw [hf] at hq
  obtain ⟨_, _, _, h5⟩ := oneL_ok ho
  have hyz := h5 (by rw [form_at_37]; simp)
  have hy0 : 0 ≤ y := hq.a0
  have hz0 : 0 ≤ z := hq.b0
  simp only at hyz
  have H := rstep_37 y z k A m cap f d hd s hok w hA hcap hm hs hf ⟨hy0, by omega⟩ ⟨hz0, by omega⟩
  obtain ⟨t, ht⟩ : ∃ t, hdI 37 s.a k = t := ⟨_, rfl⟩
  have e : stepV alI hdI (37, y, z, k) (dW d) s = (none, ⟨s.pc + 1 + (if t = true then y.toNat else z.toNat), s.a, s.x, s.mem⟩) := by simp [stepV, form_at_37, ht]
  rw [stepR_go e]
  rw [ht] at H
  have ep : (s.pc : Int) + 1 + (if t = true then y else z) = ((s.pc + 1 + (if t = true then y.toNat else z.toNat) : Nat) : Int) := by split <;> omega
  rw [ep] at H
  exact H

theorem rstepAt_44 (y z k : Int) (A : Option Addr) (m cap : Nat) (f : Nat → Ins) (d : Dat) (hd : DatOk d) (s : VmS) (hok : VmOk s) (w : World) (hA : Ri w w.heap.size A m f) (hcap : m ≤ cap) (hm : m ≤ 64) (hs : s.pc < m) (hf : f s.pc = (44, y, z, k)) (left : Int) (ho : oneL left (44, y, z, k) = 0) (hleft : left ≤ 64) :
    Calls Tryd.prog 16 #[.slice A m cap, datV d, vmV s] w fun e w' => e = .returned (stepR (44, y, z, k) d s) ∧ Below w.heap.size w w' := by
  have hq := hA.ok s.pc hs
  rw [hf] at hq
  cases hv : alI 44 s.a s.x with
  | none =>
    exfalso
    simp [alI, opK] at hv
  | some v =>
    have e : stepV alI hdI (44, y, z, k) (dW d) s = (none, ⟨s.pc + 1, v, s.x, s.mem⟩) := by simp [stepV, effV, form_at_44, hv]
    rw [stepR_go e]
    have H := rstep_44 y z k A m cap f d hd s hok w hA hcap hm hs hf (by simp [aluB, hv])
    rw [show aluV 44 s.a s.x = v by simp [aluV, hv]] at H
    exact H

theorem rstepAt_45 (y z k : Int) (A : Option Addr) (m cap : Nat) (f : Nat → Ins) (d : Dat) (hd : DatOk d) (s : VmS) (hok : VmOk s) (w : World) (hA : Ri w w.heap.size A m f) (hcap : m ≤ cap) (hm : m ≤ 64) (hs : s.pc < m) (hf : f s.pc = (45, y, z, k)) (left : Int) (ho : oneL left (45, y, z, k) = 0) (hleft : left ≤ 64) :
    Calls Tryd.prog 16 #[.slice A m cap, datV d, vmV s] w fun e w' => e = .returned (stepR (45, y, z, k) d s) ∧ Below w.heap.size w w' := by
  have hq := hA.ok s.pc hs
  rw [hf] at hq
  obtain ⟨_, _, _, h5⟩ := oneL_ok ho
  have hyz := h5 (by rw [form_at_45]; simp)
  have hy0 : 0 ≤ y := hq.a0
  have hz0 : 0 ≤ z := hq.b0
  simp only at hyz
  have H := rstep_45 y z k A m cap f d hd s hok w hA hcap hm hs hf ⟨hy0, by omega⟩ ⟨hz0, by omega⟩
  obtain ⟨t, ht⟩ : ∃ t, hdI 45 s.a s.x = t := ⟨_, rfl⟩
  have e : stepV alI hdI (45, y, z, k) (dW d) s = (none, ⟨s.pc + 1 + (if t = true then y.toNat else z.toNat), s.a, s.x, s.mem⟩) := by simp [stepV, form_at_45, ht]
  rw [stepR_go e]
  rw [ht] at H
  have ep : (s.pc : Int) + 1 + (if t = true then y else z) = ((s.pc + 1 + (if t = true then y.toNat else z.toNat) : Nat) : Int) := by split <;> omega
  rw [ep] at H
  exact H

theorem rstepAt_52 (y z k : Int) (A : Option Addr) (m cap : Nat) (f : Nat → Ins) (d : Dat) (hd : DatOk d) (s : VmS) (hok : VmOk s) (w : World) (hA : Ri w w.heap.size A m f) (hcap : m ≤ cap) (hm : m ≤ 64) (hs : s.pc < m) (hf : f s.pc = (52, y, z, k)) (left : Int) (ho : oneL left (52, y, z, k) = 0) (hleft : left ≤ 64) :
    Calls Tryd.prog 16 #[.slice A m cap, datV d, vmV s] w fun e w' => e = .returned (stepR (52, y, z, k) d s) ∧ Below w.heap.size w w' := by
  have hq := hA.ok s.pc hs
  rw [hf] at hq
  cases hv : alI 52 s.a k with
  | none =>
    exfalso
    have hk : k = 0 := by
      by_cases h0 : k = 0
      · exact h0
      · simp [alI, opK, h0] at hv
    unfold oneL at ho
    rw [if_neg (by decide : ¬ rowC 52 = none), if_neg (by simp), if_pos ⟨rfl, hk⟩] at ho
    cases ho
  | some v =>
    have e : stepV alI hdI (52, y, z, k) (dW d) s = (none, ⟨s.pc + 1, v, s.x, s.mem⟩) := by simp [stepV, effV, form_at_52, hv]
    rw [stepR_go e]
    have H := rstep_52 y z k A m cap f d hd s hok w hA hcap hm hs hf (by simp [aluB, hv])
    rw [show aluV 52 s.a k = v by simp [aluV, hv]] at H
    exact H

theorem rstepAt_53 (y z k : Int) (A : Option Addr) (m cap : Nat) (f : Nat → Ins) (d : Dat) (hd : DatOk d) (s : VmS) (hok : VmOk s) (w : World) (hA : Ri w w.heap.size A m f) (hcap : m ≤ cap) (hm : m ≤ 64) (hs : s.pc < m) (hf : f s.pc = (53, y, z, k)) (left : Int) (ho : oneL left (53, y, z, k) = 0) (hleft : left ≤ 64) :
    Calls Tryd.prog 16 #[.slice A m cap, datV d, vmV s] w fun e w' => e = .returned (stepR (53, y, z, k) d s) ∧ Below w.heap.size w w' := by
  have hq := hA.ok s.pc hs
  rw [hf] at hq
  obtain ⟨_, _, _, h5⟩ := oneL_ok ho
  have hyz := h5 (by rw [form_at_53]; simp)
  have hy0 : 0 ≤ y := hq.a0
  have hz0 : 0 ≤ z := hq.b0
  simp only at hyz
  have H := rstep_53 y z k A m cap f d hd s hok w hA hcap hm hs hf ⟨hy0, by omega⟩ ⟨hz0, by omega⟩
  obtain ⟨t, ht⟩ : ∃ t, hdI 53 s.a k = t := ⟨_, rfl⟩
  have e : stepV alI hdI (53, y, z, k) (dW d) s = (none, ⟨s.pc + 1 + (if t = true then y.toNat else z.toNat), s.a, s.x, s.mem⟩) := by simp [stepV, form_at_53, ht]
  rw [stepR_go e]
  rw [ht] at H
  have ep : (s.pc : Int) + 1 + (if t = true then y else z) = ((s.pc + 1 + (if t = true then y.toNat else z.toNat) : Nat) : Int) := by split <;> omega
  rw [ep] at H
  exact H

theorem rstepAt_60 (y z k : Int) (A : Option Addr) (m cap : Nat) (f : Nat → Ins) (d : Dat) (hd : DatOk d) (s : VmS) (hok : VmOk s) (w : World) (hA : Ri w w.heap.size A m f) (hcap : m ≤ cap) (hm : m ≤ 64) (hs : s.pc < m) (hf : f s.pc = (60, y, z, k)) (left : Int) (ho : oneL left (60, y, z, k) = 0) (hleft : left ≤ 64) :
    Calls Tryd.prog 16 #[.slice A m cap, datV d, vmV s] w fun e w' => e = .returned (stepR (60, y, z, k) d s) ∧ Below w.heap.size w w' := by
  have hq := hA.ok s.pc hs
  rw [hf] at hq
  cases hv : alI 60 s.a s.x with
  | none =>
    have e : stepV alI hdI (60, y, z, k) (dW d) s = (some 0, s) := by simp [stepV, effV, form_at_60, hv]
    rw [stepR_ret e]
    exact rstep_60n y z k A m cap f d hd s hok w hA hcap hm hs hf (by simp [aluB, hv])
  | some v =>
    have e : stepV alI hdI (60, y, z, k) (dW d) s = (none, ⟨s.pc + 1, v, s.x, s.mem⟩) := by simp [stepV, effV, form_at_60, hv]
    rw [stepR_go e]
    have H := rstep_60 y z k A m cap f d hd s hok w hA hcap hm hs hf (by simp [aluB, hv])
    rw [show aluV 60 s.a s.x = v by simp [aluV, hv]] at H
    exact H

theorem rstepAt_61 (y z k : Int) (A : Option Addr) (m cap : Nat) (f : Nat → Ins) (d : Dat) (hd : DatOk d) (s : VmS) (hok : VmOk s) (w : World) (hA : Ri w w.heap.size A m f) (hcap : m ≤ cap) (hm : m ≤ 64) (hs : s.pc < m) (hf : f s.pc = (61, y, z, k)) (left : Int) (ho : oneL left (61, y, z, k) = 0) (hleft : left ≤ 64) :
    Calls Tryd.prog 16 #[.slice A m cap, datV d, vmV s] w fun e w' => e = .returned (stepR (61, y, z, k) d s) ∧ Below w.heap.size w w' := by
  have hq := hA.ok s.pc hs
  rw [hf] at hq
  obtain ⟨_, _, _, h5⟩ := oneL_ok ho
  have hyz := h5 (by rw [form_at_61]; simp)
  have hy0 : 0 ≤ y := hq.a0
  have hz0 : 0 ≤ z := hq.b0
  simp only at hyz
  have H := rstep_61 y z k A m cap f d hd s hok w hA hcap hm hs hf ⟨hy0, by omega⟩ ⟨hz0, by omega⟩
  obtain ⟨t, ht⟩ : ∃ t, hdI 61 s.a s.x = t := ⟨_, rfl⟩
  have e : stepV alI hdI (61, y, z, k) (dW d) s = (none, ⟨s.pc + 1 + (if t = true then y.toNat else z.toNat), s.a, s.x, s.mem⟩) := by simp [stepV, form_at_61, ht]
  rw [stepR_go e]
  rw [ht] at H
  have ep : (s.pc : Int) + 1 + (if t = true then y else z) = ((s.pc + 1 + (if t = true then y.toNat else z.toNat) : Nat) : Int) := by split <;> omega
  rw [ep] at H
  exact H

theorem rstepAt_68 (y z k : Int) (A : Option Addr) (m cap : Nat) (f : Nat → Ins) (d : Dat) (hd : DatOk d) (s : VmS) (hok : VmOk s) (w : World) (hA : Ri w w.heap.size A m f) (hcap : m ≤ cap) (hm : m ≤ 64) (hs : s.pc < m) (hf : f s.pc = (68, y, z, k)) (left : Int) (ho : oneL left (68, y, z, k) = 0) (hleft : left ≤ 64) :
    Calls Tryd.prog 16 #[.slice A m cap, datV d, vmV s] w fun e w' => e = .returned (stepR (68, y, z, k) d s) ∧ Below w.heap.size w w' := by
  have hq := hA.ok s.pc hs
  rw [hf] at hq
  cases hv : alI 68 s.a k with
  | none =>
    exfalso
    simp [alI, opK] at hv
  | some v =>
    have e : stepV alI hdI (68, y, z, k) (dW d) s = (none, ⟨s.pc + 1, v, s.x, s.mem⟩) := by simp [stepV, effV, form_at_68, hv]
    rw [stepR_go e]
    have H := rstep_68 y z k A m cap f d hd s hok w hA hcap hm hs hf (by simp [aluB, hv])
    rw [show aluV 68 s.a k = v by simp [aluV, hv]] at H
    exact H

theorem rstepAt_69 (y z k : Int) (A : Option Addr) (m cap : Nat) (f : Nat → Ins) (d : Dat) (hd : DatOk d) (s : VmS) (hok : VmOk s) (w : World) (hA : Ri w w.heap.size A m f) (hcap : m ≤ cap) (hm : m ≤ 64) (hs : s.pc < m) (hf : f s.pc = (69, y, z, k)) (left : Int) (ho : oneL left (69, y, z, k) = 0) (hleft : left ≤ 64) :
    Calls Tryd.prog 16 #[.slice A m cap, datV d, vmV s] w fun e w' => e = .returned (stepR (69, y, z, k) d s) ∧ Below w.heap.size w w' := by
  have hq := hA.ok s.pc hs
  rw [hf] at hq
  obtain ⟨_, _, _, h5⟩ := oneL_ok ho
  have hyz := h5 (by rw [form_at_69]; simp)
  have hy0 : 0 ≤ y := hq.a0
  have hz0 : 0 ≤ z := hq.b0
  simp only at hyz
  have H := rstep_69 y z k A m cap f d hd s hok w hA hcap hm hs hf ⟨hy0, by omega⟩ ⟨hz0, by omega⟩
  obtain ⟨t, ht⟩ : ∃ t, hdI 69 s.a k = t := ⟨_, rfl⟩
  have e : stepV alI hdI (69, y, z, k) (dW d) s = (none, ⟨s.pc + 1 + (if t = true then y.toNat else z.toNat), s.a, s.x, s.mem⟩) := by simp [stepV, form_at_69, ht]
  rw [stepR_go e]
  rw [ht] at H
  have ep : (s.pc : Int) + 1 + (if t = true then y else z) = ((s.pc + 1 + (if t = true then y.toNat else z.toNat) : Nat) : Int) := by split <;> omega
  rw [ep] at H
  exact H

theorem rstepAt_76 (y z k : Int) (A : Option Addr) (m cap : Nat) (f : Nat → Ins) (d : Dat) (hd : DatOk d) (s : VmS) (hok : VmOk s) (w : World) (hA : Ri w w.heap.size A m f) (hcap : m ≤ cap) (hm : m ≤ 64) (hs : s.pc < m) (hf : f s.pc = (76, y, z, k)) (left : Int) (ho : oneL left (76, y, z, k) = 0) (hleft : left ≤ 64) :
    Calls Tryd.prog 16 #[.slice A m cap, datV d, vmV s] w fun e w' => e = .returned (stepR (76, y, z, k) d s) ∧ Below w.heap.size w w' := by
  have hq := hA.ok s.pc hs
  rw [hf] at hq
  cases hv : alI 76 s.a s.x with
  | none =>
    exfalso
    simp [alI, opK] at hv
  | some v =>
    have e : stepV alI hdI (76, y, z, k) (dW d) s = (none, ⟨s.pc + 1, v, s.x, s.mem⟩) := by simp [stepV, effV, form_at_76, hv]
    rw [stepR_go e]
    have H := rstep_76 y z k A m cap f d hd s hok w hA hcap hm hs hf (by simp [aluB, hv])
    rw [show aluV 76 s.a s.x = v by simp [aluV, hv]] at H
    exact H

theorem rstepAt_77 (y z k : Int) (A : Option Addr) (m cap : Nat) (f : Nat → Ins) (d : Dat) (hd : DatOk d) (s : VmS) (hok : VmOk s) (w : World) (hA : Ri w w.heap.size A m f) (hcap : m ≤ cap) (hm : m ≤ 64) (hs : s.pc < m) (hf : f s.pc = (77, y, z, k)) (left : Int) (ho : oneL left (77, y, z, k) = 0) (hleft : left ≤ 64) :
    Calls Tryd.prog 16 #[.slice A m cap, datV d, vmV s] w fun e w' => e = .returned (stepR (77, y, z, k) d s) ∧ Below w.heap.size w w' := by
  have hq := hA.ok s.pc hs
  rw [hf] at hq
  obtain ⟨_, _, _, h5⟩ := oneL_ok ho
  have hyz := h5 (by rw [form_at_77]; simp)
  have hy0 : 0 ≤ y := hq.a0
  have hz0 : 0 ≤ z := hq.b0
  simp only at hyz
  have H := rstep_77 y z k A m cap f d hd s hok w hA hcap hm hs hf ⟨hy0, by omega⟩ ⟨hz0, by omega⟩
  obtain ⟨t, ht⟩ : ∃ t, hdI 77 s.a s.x = t := ⟨_, rfl⟩
  have e : stepV alI hdI (77, y, z, k) (dW d) s = (none, ⟨s.pc + 1 + (if t = true then y.toNat else z.toNat), s.a, s.x, s.mem⟩) := by simp [stepV, form_at_77, ht]
  rw [stepR_go e]
  rw [ht] at H
  have ep : (s.pc : Int) + 1 + (if t = true then y else z) = ((s.pc + 1 + (if t = true then y.toNat else z.toNat) : Nat) : Int) := by split <;> omega
  rw [ep] at H
  exact H

theorem rstepAt_84 (y z k : Int) (A : Option Addr) (m cap : Nat) (f : Nat → Ins) (d : Dat) (hd : DatOk d) (s : VmS) (hok : VmOk s) (w : World) (hA : Ri w w.heap.size A m f) (hcap : m ≤ cap) (hm : m ≤ 64) (hs : s.pc < m) (hf : f s.pc = (84, y, z, k)) (left : Int) (ho : oneL left (84, y, z, k) = 0) (hleft : left ≤ 64) :
    Calls Tryd.prog 16 #[.slice A m cap, datV d, vmV s] w fun e w' => e = .returned (stepR (84, y, z, k) d s) ∧ Below w.heap.size w w' := by
  have hq := hA.ok s.pc hs
  rw [hf] at hq
  cases hv : alI 84 s.a k with
  | none =>
    exfalso
    simp [alI, opK] at hv
  | some v =>
    have e : stepV alI hdI (84, y, z, k) (dW d) s = (none, ⟨s.pc + 1, v, s.x, s.mem⟩) := by simp [stepV, effV, form_at_84, hv]
    rw [stepR_go e]
    have H := rstep_84 y z k A m cap f d hd s hok w hA hcap hm hs hf (by simp [aluB, hv])
    rw [show aluV 84 s.a k = v by simp [aluV, hv]] at H
    exact H

theorem rstepAt_92 (y z k : Int) (A : Option Addr) (m cap : Nat) (f : Nat → Ins) (d : Dat) (hd : DatOk d) (s : VmS) (hok : VmOk s) (w : World) (hA : Ri w w.heap.size A m f) (hcap : m ≤ cap) (hm : m ≤ 64) (hs : s.pc < m) (hf : f s.pc = (92, y, z, k)) (left : Int) (ho : oneL left (92, y, z, k) = 0) (hleft : left ≤ 64) :
    Calls Tryd.prog 16 #[.slice A m cap, datV d, vmV s] w fun e w' => e = .returned (stepR (92, y, z, k) d s) ∧ Below w.heap.size w w' := by
  have hq := hA.ok s.pc hs
  rw [hf] at hq
  cases hv : alI 92 s.a s.x with
  | none =>
    exfalso
    simp [alI, opK] at hv
  | some v =>
    have e : stepV alI hdI (92, y, z, k) (dW d) s = (none, ⟨s.pc + 1, v, s.x, s.mem⟩) := by simp [stepV, effV, form_at_92, hv]
    rw [stepR_go e]
    have H := rstep_92 y z k A m cap f d hd s hok w hA hcap hm hs hf (by simp [aluB, hv])
    rw [show aluV 92 s.a s.x = v by simp [aluV, hv]] at H
    exact H

theorem rstepAt_96 (y z k : Int) (A : Option Addr) (m cap : Nat) (f : Nat → Ins) (d : Dat) (hd : DatOk d) (s : VmS) (hok : VmOk s) (w : World) (hA : Ri w w.heap.size A m f) (hcap : m ≤ cap) (hm : m ≤ 64) (hs : s.pc < m) (hf : f s.pc = (96, y, z, k)) (left : Int) (ho : oneL left (96, y, z, k) = 0) (hleft : left ≤ 64) :
    Calls Tryd.prog 16 #[.slice A m cap, datV d, vmV s] w fun e w' => e = .returned (stepR (96, y, z, k) d s) ∧ Below w.heap.size w w' := by
  have hq := hA.ok s.pc hs
  rw [hf] at hq
  obtain ⟨_, h3, _, _⟩ := oneL_ok ho
  have hk := h3 form_at_96
  have hk0 : 0 ≤ k := hq.k0
  simp only at hk
  have e : stepV alI hdI (96, y, z, k) (dW d) s = (none, ⟨s.pc + 1, s.mem.getD k.toNat 0, s.x, s.mem⟩) := by simp [stepV, effV, form_at_96]
  rw [stepR_go e]
  exact rstep_96 y z k A m cap f d hd s hok w hA hcap hm hs hf k.toNat (by omega) (by omega)

theorem rstepAt_97 (y z k : Int) (A : Option Addr) (m cap : Nat) (f : Nat → Ins) (d : Dat) (hd : DatOk d) (s : VmS) (hok : VmOk s) (w : World) (hA : Ri w w.heap.size A m f) (hcap : m ≤ cap) (hm : m ≤ 64) (hs : s.pc < m) (hf : f s.pc = (97, y, z, k)) (left : Int) (ho : oneL left (97, y, z, k) = 0) (hleft : left ≤ 64) :
    Calls Tryd.prog 16 #[.slice A m cap, datV d, vmV s] w fun e w' => e = .returned (stepR (97, y, z, k) d s) ∧ Below w.heap.size w w' := by
  have hq := hA.ok s.pc hs
  rw [hf] at hq
  obtain ⟨_, h3, _, _⟩ := oneL_ok ho
  have hk := h3 form_at_97
  have hk0 : 0 ≤ k := hq.k0
  simp only at hk
  have e : stepV alI hdI (97, y, z, k) (dW d) s = (none, ⟨s.pc + 1, s.a, s.mem.getD k.toNat 0, s.mem⟩) := by simp [stepV, effV, form_at_97]
  rw [stepR_go e]
  exact rstep_97 y z k A m cap f d hd s hok w hA hcap hm hs hf k.toNat (by omega) (by omega)

theorem rstepAt_100 (y z k : Int) (A : Option Addr) (m cap : Nat) (f : Nat → Ins) (d : Dat) (hd : DatOk d) (s : VmS) (hok : VmOk s) (w : World) (hA : Ri w w.heap.size A m f) (hcap : m ≤ cap) (hm : m ≤ 64) (hs : s.pc < m) (hf : f s.pc = (100, y, z, k)) (left : Int) (ho : oneL left (100, y, z, k) = 0) (hleft : left ≤ 64) :
    Calls Tryd.prog 16 #[.slice A m cap, datV d, vmV s] w fun e w' => e = .returned (stepR (100, y, z, k) d s) ∧ Below w.heap.size w w' := by
  have hq := hA.ok s.pc hs
  rw [hf] at hq
  cases hv : alI 100 s.a k with
  | none =>
    exfalso
    simp [alI, opK] at hv
  | some v =>
    have e : stepV alI hdI (100, y, z, k) (dW d) s = (none, ⟨s.pc + 1, v, s.x, s.mem⟩) := by simp [stepV, effV, form_at_100, hv]
    rw [stepR_go e]
    have H := rstep_100 y z k A m cap f d hd s hok w hA hcap hm hs hf (by simp [aluB, hv])
    rw [show aluV 100 s.a k = v by simp [aluV, hv]] at H
    exact H

theorem rstepAt_108 (y z k : Int) (A : Option Addr) (m cap : Nat) (f : Nat → Ins) (d : Dat) (hd : DatOk d) (s : VmS) (hok : VmOk s) (w : World) (hA : Ri w w.heap.size A m f) (hcap : m ≤ cap) (hm : m ≤ 64) (hs : s.pc < m) (hf : f s.pc = (108, y, z, k)) (left : Int) (ho : oneL left (108, y, z, k) = 0) (hleft : left ≤ 64) :
    Calls Tryd.prog 16 #[.slice A m cap, datV d, vmV s] w fun e w' => e = .returned (stepR (108, y, z, k) d s) ∧ Below w.heap.size w w' := by
  have hq := hA.ok s.pc hs
  rw [hf] at hq
  cases hv : alI 108 s.a s.x with
  | none =>
    exfalso
    simp [alI, opK] at hv
  | some v =>
    have e : stepV alI hdI (108, y, z, k) (dW d) s = (none, ⟨s.pc + 1, v, s.x, s.mem⟩) := by simp [stepV, effV, form_at_108, hv]
    rw [stepR_go e]
    have H := rstep_108 y z k A m cap f d hd s hok w hA hcap hm hs hf (by simp [aluB, hv])
    rw [show aluV 108 s.a s.x = v by simp [aluV, hv]] at H
    exact H

theorem rstepAt_116 (y z k : Int) (A : Option Addr) (m cap : Nat) (f : Nat → Ins) (d : Dat) (hd : DatOk d) (s : VmS) (hok : VmOk s) (w : World) (hA : Ri w w.heap.size A m f) (hcap : m ≤ cap) (hm : m ≤ 64) (hs : s.pc < m) (hf : f s.pc = (116, y, z, k)) (left : Int) (ho : oneL left (116, y, z, k) = 0) (hleft : left ≤ 64) :
    Calls Tryd.prog 16 #[.slice A m cap, datV d, vmV s] w fun e w' => e = .returned (stepR (116, y, z, k) d s) ∧ Below w.heap.size w w' := by
  have hq := hA.ok s.pc hs
  rw [hf] at hq
  cases hv : alI 116 s.a k with
  | none =>
    exfalso
    simp [alI, opK] at hv
  | some v =>
    have e : stepV alI hdI (116, y, z, k) (dW d) s = (none, ⟨s.pc + 1, v, s.x, s.mem⟩) := by simp [stepV, effV, form_at_116, hv]
    rw [stepR_go e]
    have H := rstep_116 y z k A m cap f d hd s hok w hA hcap hm hs hf (by simp [aluB, hv])
    rw [show aluV 116 s.a k = v by simp [aluV, hv]] at H
    exact H

theorem rstepAt_124 (y z k : Int) (A : Option Addr) (m cap : Nat) (f : Nat → Ins) (d : Dat) (hd : DatOk d) (s : VmS) (hok : VmOk s) (w : World) (hA : Ri w w.heap.size A m f) (hcap : m ≤ cap) (hm : m ≤ 64) (hs : s.pc < m) (hf : f s.pc = (124, y, z, k)) (left : Int) (ho : oneL left (124, y, z, k) = 0) (hleft : left ≤ 64) :
    Calls Tryd.prog 16 #[.slice A m cap, datV d, vmV s] w fun e w' => e = .returned (stepR (124, y, z, k) d s) ∧ Below w.heap.size w w' := by
  have hq := hA.ok s.pc hs
  rw [hf] at hq
  cases hv : alI 124 s.a s.x with
  | none =>
    exfalso
    simp [alI, opK] at hv
  | some v =>
    have e : stepV alI hdI (124, y, z, k) (dW d) s = (none, ⟨s.pc + 1, v, s.x, s.mem⟩) := by simp [stepV, effV, form_at_124, hv]
    rw [stepR_go e]
    have H := rstep_124 y z k A m cap f d hd s hok w hA hcap hm hs hf (by simp [aluB, hv])
    rw [show aluV 124 s.a s.x = v by simp [aluV, hv]] at H
    exact H

theorem rstepAt_128 (y z k : Int) (A : Option Addr) (m cap : Nat) (f : Nat → Ins) (d : Dat) (hd : DatOk d) (s : VmS) (hok : VmOk s) (w : World) (hA : Ri w w.heap.size A m f) (hcap : m ≤ cap) (hm : m ≤ 64) (hs : s.pc < m) (hf : f s.pc = (128, y, z, k)) (left : Int) (ho : oneL left (128, y, z, k) = 0) (hleft : left ≤ 64) :
    Calls Tryd.prog 16 #[.slice A m cap, datV d, vmV s] w fun e w' => e = .returned (stepR (128, y, z, k) d s) ∧ Below w.heap.size w w' := by
  have hq := hA.ok s.pc hs
  rw [hf] at hq
  have e : stepV alI hdI (128, y, z, k) (dW d) s = (none, ⟨s.pc + 1, 64, s.x, s.mem⟩) := by simp [stepV, effV, form_at_128]
  rw [stepR_go e]
  exact rstep_128 y z k A m cap f d hd s hok w hA hcap hm hs hf

theorem rstepAt_129 (y z k : Int) (A : Option Addr) (m cap : Nat) (f : Nat → Ins) (d : Dat) (hd : DatOk d) (s : VmS) (hok : VmOk s) (w : World) (hA : Ri w w.heap.size A m f) (hcap : m ≤ cap) (hm : m ≤ 64) (hs : s.pc < m) (hf : f s.pc = (129, y, z, k)) (left : Int) (ho : oneL left (129, y, z, k) = 0) (hleft : left ≤ 64) :
    Calls Tryd.prog 16 #[.slice A m cap, datV d, vmV s] w fun e w' => e = .returned (stepR (129, y, z, k) d s) ∧ Below w.heap.size w w' := by
  have hq := hA.ok s.pc hs
  rw [hf] at hq
  have e : stepV alI hdI (129, y, z, k) (dW d) s = (none, ⟨s.pc + 1, s.a, 64, s.mem⟩) := by simp [stepV, effV, form_at_129]
  rw [stepR_go e]
  exact rstep_129 y z k A m cap f d hd s hok w hA hcap hm hs hf

theorem rstepAt_132 (y z k : Int) (A : Option Addr) (m cap : Nat) (f : Nat → Ins) (d : Dat) (hd : DatOk d) (s : VmS) (hok : VmOk s) (w : World) (hA : Ri w w.heap.size A m f) (hcap : m ≤ cap) (hm : m ≤ 64) (hs : s.pc < m) (hf : f s.pc = (132, y, z, k)) (left : Int) (ho : oneL left (132, y, z, k) = 0) (hleft : left ≤ 64) :
    Calls Tryd.prog 16 #[.slice A m cap, datV d, vmV s] w fun e w' => e = .returned (stepR (132, y, z, k) d s) ∧ Below w.heap.size w w' := by
  have hq := hA.ok s.pc hs
  rw [hf] at hq
  have ev : alI 132 s.a k = some (IntKind.u32.wrap (-s.a)) := by simp [alI, opK]
  have ev2 : alI 132 s.a s.x = some (IntKind.u32.wrap (-s.a)) := by simp [alI, opK]
  have e : stepV alI hdI (132, y, z, k) (dW d) s = (none, ⟨s.pc + 1, IntKind.u32.wrap (-s.a), s.x, s.mem⟩) := by simp [stepV, effV, form_at_132, ev, ev2]
  rw [stepR_go e]
  have H := rstep_132 y z k A m cap f d hd s hok w hA hcap hm hs hf (by simp [aluB, ev])
  rw [show aluV 132 s.a k = IntKind.u32.wrap (-s.a) by simp [aluV, ev]] at H
  exact H

theorem rstepAt_135 (y z k : Int) (A : Option Addr) (m cap : Nat) (f : Nat → Ins) (d : Dat) (hd : DatOk d) (s : VmS) (hok : VmOk s) (w : World) (hA : Ri w w.heap.size A m f) (hcap : m ≤ cap) (hm : m ≤ 64) (hs : s.pc < m) (hf : f s.pc = (135, y, z, k)) (left : Int) (ho : oneL left (135, y, z, k) = 0) (hleft : left ≤ 64) :
    Calls Tryd.prog 16 #[.slice A m cap, datV d, vmV s] w fun e w' => e = .returned (stepR (135, y, z, k) d s) ∧ Below w.heap.size w w' := by
  have hq := hA.ok s.pc hs
  rw [hf] at hq
  have e : stepV alI hdI (135, y, z, k) (dW d) s = (none, ⟨s.pc + 1, s.x, s.x, s.mem⟩) := by simp [stepV, effV, form_at_135]
  rw [stepR_go e]
  exact rstep_135 y z k A m cap f d hd s hok w hA hcap hm hs hf

theorem rstepAt_164 (y z k : Int) (A : Option Addr) (m cap : Nat) (f : Nat → Ins) (d : Dat) (hd : DatOk d) (s : VmS) (hok : VmOk s) (w : World) (hA : Ri w w.heap.size A m f) (hcap : m ≤ cap) (hm : m ≤ 64) (hs : s.pc < m) (hf : f s.pc = (164, y, z, k)) (left : Int) (ho : oneL left (164, y, z, k) = 0) (hleft : left ≤ 64) :
    Calls Tryd.prog 16 #[.slice A m cap, datV d, vmV s] w fun e w' => e = .returned (stepR (164, y, z, k) d s) ∧ Below w.heap.size w w' := by
  have hq := hA.ok s.pc hs
  rw [hf] at hq
  cases hv : alI 164 s.a k with
  | none =>
    exfalso
    simp [alI, opK] at hv
  | some v =>
    have e : stepV alI hdI (164, y, z, k) (dW d) s = (none, ⟨s.pc + 1, v, s.x, s.mem⟩) := by simp [stepV, effV, form_at_164, hv]
    rw [stepR_go e]
    have H := rstep_164 y z k A m cap f d hd s hok w hA hcap hm hs hf (by simp [aluB, hv])
    rw [show aluV 164 s.a k = v by simp [aluV, hv]] at H
    exact H

theorem rstepAt_172 (y z k : Int) (A : Option Addr) (m cap : Nat) (f : Nat → Ins) (d : Dat) (hd : DatOk d) (s : VmS) (hok : VmOk s) (w : World) (hA : Ri w w.heap.size A m f) (hcap : m ≤ cap) (hm : m ≤ 64) (hs : s.pc < m) (hf : f s.pc = (172, y, z, k)) (left : Int) (ho : oneL left (172, y, z, k) = 0) (hleft : left ≤ 64) :
    Calls Tryd.prog 16 #[.slice A m cap, datV d, vmV s] w fun e w' => e = .returned (stepR (172, y, z, k) d s) ∧ Below w.heap.size w w' := by
  have hq := hA.ok s.pc hs
  rw [hf] at hq
  cases hv : alI 172 s.a s.x with
  | none =>
    exfalso
    simp [alI, opK] at hv
  | some v =>
    have e : stepV alI hdI (172, y, z, k) (dW d) s = (none, ⟨s.pc + 1, v, s.x, s.mem⟩) := by simp [stepV, effV, form_at_172, hv]
    rw [stepR_go e]
    have H := rstep_172 y z k A m cap f d hd s hok w hA hcap hm hs hf (by simp [aluB, hv])
    rw [show aluV 172 s.a s.x = v by simp [aluV, hv]] at H
    exact H

/-- One step of whatever instruction may stand there. -/
theorem rstep_any (A : Option Addr) (m cap : Nat) (f : Nat → Ins) (d : Dat) (hd : DatOk d) (s : VmS) (hok : VmOk s) (w : World) (hA : Ri w w.heap.size A m f) (hcap : m ≤ cap) (hM : May f m) (hs : s.pc < m) :
    Calls Tryd.prog 16 #[.slice A m cap, datV d, vmV s] w fun e w' => e = .returned (stepR (f s.pc) d s) ∧ Below w.heap.size w w' := by
  have hm : m ≤ 64 := hM.hi
  have hleft : (m : Int) - 1 - s.pc ≤ 64 := by omega
  have ho : oneL ((m : Int) - 1 - s.pc) (f s.pc) = 0 := hM.one s.pc hs
  obtain ⟨⟨c, y, z, k⟩, hf⟩ : ∃ q : Ins, f s.pc = q := ⟨_, rfl⟩
  rw [hf] at ho ⊢
  have hr := row_list (oneL_ok ho).1
  simp only [List.mem_cons, List.not_mem_nil, or_false] at hr
  rcases hr with rfl | rfl | rfl | rfl | rfl | rfl | rfl | rfl | rfl | rfl | rfl | rfl | rfl | rfl | rfl | rfl | rfl | rfl | rfl | rfl | rfl | rfl | rfl | rfl | rfl | rfl | rfl | rfl | rfl | rfl | rfl | rfl | rfl | rfl | rfl | rfl | rfl | rfl | rfl | rfl | rfl
  · exact rstepAt_0 y z k A m cap f d hd s hok w hA hcap hm hs hf _ ho hleft
  · exact rstepAt_1 y z k A m cap f d hd s hok w hA hcap hm hs hf _ ho hleft
  · exact rstepAt_2 y z k A m cap f d hd s hok w hA hcap hm hs hf _ ho hleft
  · exact rstepAt_3 y z k A m cap f d hd s hok w hA hcap hm hs hf _ ho hleft
  · exact rstepAt_4 y z k A m cap f d hd s hok w hA hcap hm hs hf _ ho hleft
  · exact rstepAt_5 y z k A m cap f d hd s hok w hA hcap hm hs hf _ ho hleft
  · exact rstepAt_6 y z k A m cap f d hd s hok w hA hcap hm hs hf _ ho hleft
  · exact rstepAt_7 y z k A m cap f d hd s hok w hA hcap hm hs hf _ ho hleft
  · exact rstepAt_12 y z k A m cap f d hd s hok w hA hcap hm hs hf _ ho hleft
  · exact rstepAt_20 y z k A m cap f d hd s hok w hA hcap hm hs hf _ ho hleft
  · exact rstepAt_21 y z k A m cap f d hd s hok w hA hcap hm hs hf _ ho hleft
  · exact rstepAt_22 y z k A m cap f d hd s hok w hA hcap hm hs hf _ ho hleft
  · exact rstepAt_28 y z k A m cap f d hd s hok w hA hcap hm hs hf _ ho hleft
  · exact rstepAt_29 y z k A m cap f d hd s hok w hA hcap hm hs hf _ ho hleft
  · exact rstepAt_32 y z k A m cap f d hd s hok w hA hcap hm hs hf _ ho hleft
  · exact rstepAt_36 y z k A m cap f d hd s hok w hA hcap hm hs hf _ ho hleft
  · exact rstepAt_37 y z k A m cap f d hd s hok w hA hcap hm hs hf _ ho hleft
  · exact rstepAt_44 y z k A m cap f d hd s hok w hA hcap hm hs hf _ ho hleft
  · exact rstepAt_45 y z k A m cap f d hd s hok w hA hcap hm hs hf _ ho hleft
  · exact rstepAt_52 y z k A m cap f d hd s hok w hA hcap hm hs hf _ ho hleft
  · exact rstepAt_53 y z k A m cap f d hd s hok w hA hcap hm hs hf _ ho hleft
  · exact rstepAt_60 y z k A m cap f d hd s hok w hA hcap hm hs hf _ ho hleft
  · exact rstepAt_61 y z k A m cap f d hd s hok w hA hcap hm hs hf _ ho hleft
  · exact rstepAt_68 y z k A m cap f d hd s hok w hA hcap hm hs hf _ ho hleft
  · exact rstepAt_69 y z k A m cap f d hd s hok w hA hcap hm hs hf _ ho hleft
  · exact rstepAt_76 y z k A m cap f d hd s hok w hA hcap hm hs hf _ ho hleft
  · exact rstepAt_77 y z k A m cap f d hd s hok w hA hcap hm hs hf _ ho hleft
  · exact rstepAt_84 y z k A m cap f d hd s hok w hA hcap hm hs hf _ ho hleft
  · exact rstepAt_92 y z k A m cap f d hd s hok w hA hcap hm hs hf _ ho hleft
  · exact rstepAt_96 y z k A m cap f d hd s hok w hA hcap hm hs hf _ ho hleft
  · exact rstepAt_97 y z k A m cap f d hd s hok w hA hcap hm hs hf _ ho hleft
  · exact rstepAt_100 y z k A m cap f d hd s hok w hA hcap hm hs hf _ ho hleft
  · exact rstepAt_108 y z k A m cap f d hd s hok w hA hcap hm hs hf _ ho hleft
  · exact rstepAt_116 y z k A m cap f d hd s hok w hA hcap hm hs hf _ ho hleft
  · exact rstepAt_124 y z k A m cap f d hd s hok w hA hcap hm hs hf _ ho hleft
  · exact rstepAt_128 y z k A m cap f d hd s hok w hA hcap hm hs hf _ ho hleft
  · exact rstepAt_129 y z k A m cap f d hd s hok w hA hcap hm hs hf _ ho hleft
  · exact rstepAt_132 y z k A m cap f d hd s hok w hA hcap hm hs hf _ ho hleft
  · exact rstepAt_135 y z k A m cap f d hd s hok w hA hcap hm hs hf _ ho hleft
  · exact rstepAt_164 y z k A m cap f d hd s hok w hA hcap hm hs hf _ ho hleft
  · exact rstepAt_172 y z k A m cap f d hd s hok w hA hcap hm hs hf _ ho hleft
end Go.Proofs.YtepkhkfdokinmaaDoor

/-
  VmEnds, walked: two machines compared; the machines of a run, one behind the other.
-/
import Derived.Test.YtepkhkfdokinmaaDoorVmSt
import Derived.Test.YtepkhkfdokinmaaDoorCkMost
import Derived.Test.YtepkhkfdokinmaaDoorVmTc
import Derived.Test.YtepkhkfdokinmaaDoorVmWk
namespace Go.Proofs.YtepkhkfdokinmaaDoor
open Go.RowKit
set_option linter.unusedVariables false

theorem mc_ext {p a x : Int} {mem : List Int} (h : mem.length = 16) : (mcC p a x mem).extract 3 19 = arrC mem := by
  obtain ⟨m0, m1, m2, m3, m4, m5, m6, m7, m8, m9, m10, m11, m12, m13, m14, m15, rfl⟩ := sixteen h
  simp [mcC, arrC]
theorem run_eql_sixteen (l l' : List Int) (h : l.length = 16) (h' : l'.length = 16) (d : Nat) (w : World) : (Op.equalIn (d + 2) 33 (.agg (arrC l)) (.agg (arrC l'))).run Tryd.prog w = .ok (decide (l = l')) w := by
  obtain ⟨i, hi, _, hs, _⟩ := info_parts (show (Tryd.prog.info? 23).map (fun i => (i.zero, i.size, i.bytes)) = some (some (.int .u32 0), 1, 4) by kernel_rfl)
  have hc : Tryd.prog.cellsOf 23 = 1 := by simp [Program.cellsOf, hi, hs]
  unfold arrC
  rw [run_equalIn_array w (d + 1) _ _ Tryd.underlying33 hi, hc, eqItems_ints Tryd.underlying23 (by kernel_rfl) d w l l' _ (by intro i hi; simp at hi; omega), all_getD l l' 16 h h']
theorem vm_fields : (Tryd.prog.fieldsOf 35).toList = [⟨"Pc", 3, 0, false, "", "", 0⟩, ⟨"A", 23, 1, false, "", "", 8⟩, ⟨"X", 23, 2, false, "", "", 12⟩, ⟨"Mem", 33, 3, false, "", "", 16⟩] := by kernel_rfl
def mcEq (p a x : Int) (mem : List Int) (p' a' x' : Int) (mem' : List Int) : Bool := decide (p = p') && (decide (a = a') && (decide (x = x') && decide (mem = mem')))
theorem eqF_cons {P : Program} {d : Nat} {xs ys : Array Value} {f : Field} {fs : List Field} {w : World} {a b : Value} {r r' : Bool} (hn : f.name ≠ "_") (ha : (part f.type xs f.offset).run P w = .ok a w) (hb : (part f.type ys f.offset).run P w = .ok b w)
    (hr : (Op.equalIn d f.type a b).run P w = .ok r w) (hf : (Op.eqFields d xs ys fs).run P w = .ok r' w) : (Op.eqFields d xs ys (f :: fs)).run P w = .ok (r && r') w := by
  simp only [Op.eqFields, hn, ne_eq, not_false_eq_true, if_true, Sem.run_bind, ha, hb, hr, Result.andThen_ok]
  cases r <;> simp [hf]
theorem run_part_mem {p a x : Int} {mem : List Int} (h : mem.length = 16) (w : World) : (part 33 (mcC p a x mem) 3).run Tryd.prog w = .ok (.agg (arrC mem)) w := by
  obtain ⟨i, hi, _, hs, _⟩ := info_parts (show (Tryd.prog.info? 33).map (fun i => (i.zero, i.size, i.bytes)) = some (some (.agg #[.int .u32 0, .int .u32 0, .int .u32 0, .int .u32 0, .int .u32 0, .int .u32 0, .int .u32 0, .int .u32 0, .int .u32 0, .int .u32 0, .int .u32 0, .int .u32 0, .int .u32 0, .int .u32 0, .int .u32 0, .int .u32 0]), 16, 64) by kernel_rfl)
  simp [part, isAgg, run_underlying Tryd.underlying33, sizeOf, typeInfo, hi, hs, mc_ext h]
theorem run_eql_mcD (d : Nat) {p a x p' a' x' : Int} {mem mem' : List Int} (h : mem.length = 16) (h' : mem'.length = 16) (w : World) : (Op.equalIn (d + 3) 35 (.agg (mcC p a x mem)) (.agg (mcC p' a' x' mem'))).run Tryd.prog w = .ok (mcEq p a x mem p' a' x' mem') w := by
  have p32 : ∀ (c : Array Value) (k : Nat) (v : Value), c[k]? = some v → (part 23 c k).run Tryd.prog w = .ok v w := fun x k v h => run_part_plain w (by kernel_rfl) h
  have p64 : ∀ (c : Array Value) (k : Nat) (v : Value), c[k]? = some v → (part 3 c k).run Tryd.prog w = .ok v w := fun x k v h => run_part_plain w (by kernel_rfl) h
  rw [run_equalIn_struct w (d + 2) 35 _ _ (by kernel_rfl) (by kernel_rfl), vm_fields]
  have hA := run_eql_sixteen mem mem' h h' d w
  have h0 := run_equalIn_int w (d + 1) 3 .i64 .i64 p p' Tryd.underlying3
  have h1 := run_equalIn_int w (d + 1) 23 .u32 .u32 a a' Tryd.underlying23
  have h2 := run_equalIn_int w (d + 1) 23 .u32 .u32 x x' Tryd.underlying23
  have hz : (Op.eqFields (d + 2) (mcC p a x mem) (mcC p' a' x' mem') []).run Tryd.prog w = .ok true w := by simp [Op.eqFields]
  have e := eqF_cons (f := ⟨"Pc", 3, 0, false, "", "", 0⟩) (by decide) (p64 _ 0 _ mc_0) (p64 _ 0 _ mc_0) h0
    (eqF_cons (f := ⟨"A", 23, 1, false, "", "", 8⟩) (by decide) (p32 _ 1 _ mc_1) (p32 _ 1 _ mc_1) h1
      (eqF_cons (f := ⟨"X", 23, 2, false, "", "", 12⟩) (by decide) (p32 _ 2 _ mc_2) (p32 _ 2 _ mc_2) h2
        (eqF_cons (f := ⟨"Mem", 33, 3, false, "", "", 16⟩) (by decide) (run_part_mem h w) (run_part_mem h' w) hA hz)))
  rw [e]
  unfold mcEq
  by_cases e1 : p = p' <;> by_cases e2 : a = a' <;> by_cases e3 : x = x' <;> simp [e1, e2, e3]
theorem run_eql_mc {p a x p' a' x' : Int} {mem mem' : List Int} (h : mem.length = 16) (h' : mem'.length = 16) (w : World) : (Op.equalIn 10000 35 (.agg (mcC p a x mem)) (.agg (mcC p' a' x' mem'))).run Tryd.prog w = .ok (mcEq p a x mem p' a' x' mem') w := run_eql_mcD 9997 h h' w
deriving instance DecidableEq for VmS
theorem mcEq_iff (s s' : VmS) : mcEq s.pc s.a s.x s.mem s'.pc s'.a s'.x s'.mem = decide (s = s') := by
  have e : ∀ m n : Nat, decide ((m : Int) = (n : Int)) = decide (m = n) := fun m n => decide_eq_decide.2 (by omega)
  cases s
  cases s'
  simp [mcEq, e]
theorem run_eql_vm {s s' : VmS} (h : s.mem.length = 16) (h' : s'.mem.length = 16) (w : World) : (binOp .eql 35 (.agg (vmC s)) (.agg (vmC s'))).run Tryd.prog w = .ok (.bool (decide (s = s'))) w := by
  unfold vmC
  rw [run_eql_struct, run_eql_mc h h', mcEq_iff]
  rfl
theorem run_neq_vm {s s' : VmS} (h : s.mem.length = 16) (h' : s'.mem.length = 16) (w : World) : (binOp .neq 35 (.agg (vmC s)) (.agg (vmC s'))).run Tryd.prog w = .ok (.bool (!decide (s = s'))) w := by
  unfold vmC
  rw [run_neq_struct, run_eql_mc h h', mcEq_iff]
  rfl
theorem vm_guard : Tryd.prog.eqGuardType Tryd.prog.depth 35 = false := by kernel_rfl
theorem class_neq_vm {ops : Array Oper} {S : World → Prop} {Q : Act → Prop} {a : Act} {o : Oper} {rest : List Oper} (hw : Region.wanted o (yielded ops a.tmps) = true) (x y : Operand) (ho : o.op = .binOp .neq 35 x y 35)
    (s s' : VmS) (hx : a.eval x = .agg (vmC s)) (hy : a.eval y = .agg (vmC s')) (hs : s.mem.length = 16) (hs' : s'.mem.length = 16) (b : Bool) (hb : (!decide (s = s')) = b)
    (h : wpQuiet Tryd.prog ops (fun w' => ∃ s : Sig S, w' = s.V) Q rest (a.put o.dst (.bool b))) : wpQuiet Tryd.prog ops (fun w' => ∃ s : Sig S, w' = s.V) Q (o :: rest) a :=
  wpQuiet_step fun K hK => by
    rw [if_pos hw]
    refine ⟨.bool b, ?_, hK _ h⟩
    rintro w ⟨s0, rfl⟩
    unfold Oper.quietAt execOp
    have hrun := run_neq_vm hs hs' s0.V
    rw [hb] at hrun
    simp only [ho, hx, hy, Sem.run_bind, run_eqGuard_agg s0.V .neq 35 x y _ _ vm_guard, hrun, Result.andThen_ok]
    exact ⟨rfl, rfl⟩
theorem class_load_mid {P : Program} {ops : Array Oper} {S : World → Prop} {Q : Act → Prop} {a : Act} {o : Oper} {rest : List Oper} (hw : Region.wanted o (yielded ops a.tmps) = true) (ty : TypeId) (x : Operand) (ho : o.op = .load ty x)
    (g off : Nat) (hx : a.eval x = .pointer (some ⟨g, off, none⟩)) (cs : List Value) (d : TypeDesc) (hS : ∀ w, S w → w.rangeAt g off cs)
    (hu : P.underlying ty = some d) (hd : d.isRow = true) (hi : (P.info? ty).map (·.size) = some cs.length)
    (h : wpQuiet P ops (fun w' => ∃ s : Sig S, w' = s.V) Q rest (a.put o.dst (.agg cs.toArray))) : wpQuiet P ops (fun w' => ∃ s : Sig S, w' = s.V) Q (o :: rest) a :=
  wpQuiet_step fun K hK => by
    rw [if_pos hw]
    refine ⟨.agg cs.toArray, ?_, hK _ h⟩
    rintro w ⟨s, rfl⟩
    unfold Oper.quietAt execOp
    simp only [ho, hx, Instr.loadAt, Instr.sureAddr, Sem.run_bind, Sem.run_pure, Result.andThen_ok, run_loadVar_mid s.V g off ty cs d (hS s.V s.h) hu hd hi]
    exact ⟨rfl, rfl⟩

/-- How many machines a run has. -/
theorem lens {f : Nat → Ins} {d : Int → Int} {n : Nat} (hM : May f n) (ho : ∀ i, i < n → insO (f i)) : 1 ≤ (traV f d n).length ∧ (traV f d n).length ≤ mostI f n ∧ mostI f n ≤ n := by
  have hm := most_reach (may_goes hM ho)
  have h1 : stepsI f n 0 ≤ n := by rw [← most_steps]; omega
  obtain ⟨r, _, h2, h3, _, _⟩ := run_ends (al := alI) (hd := hdI) hM ho d n vm0 hM.lo h1
  have e : traV f d n = (runV alI hdI f d n vm0).1 := by unfold traV allV restV; rw [pair_fst]; rfl
  rw [e]
  refine ⟨h2, ?_, by omega⟩
  rw [most_steps]
  exact h3
/-- The k-th machine of a run. -/
def AtK (f : Nat → Ins) (d : Int → Int) (n k : Nat) (s : VmS) : Prop := ∃ pre : List (VmS × Int), pre.length = k ∧ pre ++ restV f d n s = allV f d n ∧ ∀ x ∈ pre, x.1.pc < s.pc
section
variable {f : Nat → Ins} {d : Int → Int} {n k : Nat} {s : VmS}
theorem at_zero : AtK f d n 0 vm0 := ⟨[], rfl, rfl, by simp⟩
theorem rest_head (hM : May f n) (ho : ∀ i, i < n → insO (f i)) (hs : s.pc < n) : ∃ r t, restV f d n s = (s, r) :: t := by
  cases hst : stepV alI hdI (f s.pc) d s with
  | mk r s' =>
    cases r with
    | none => exact ⟨_, _, rest_go hM ho hs hst⟩
    | some r => exact ⟨_, _, rest_ret hs hst⟩
theorem at_get (hM : May f n) (ho : ∀ i, i < n → insO (f i)) (hs : s.pc < n) (h : AtK f d n k s) : k < (traV f d n).length ∧ (traV f d n).getD k vm0 = s := by
  obtain ⟨pre, hk, hp, _⟩ := h
  obtain ⟨r, t, hr⟩ := rest_head (d := d) hM ho hs
  unfold traV
  rw [← hp, hr]
  subst hk
  refine ⟨by simp, ?_⟩
  simp [List.getD]
theorem at_prev (h : AtK f d n (k + 1) s) : ((traV f d n).getD k vm0).pc < s.pc := by
  obtain ⟨pre, hk, hp, hl⟩ := h
  unfold traV
  rw [← hp]
  have hkl : k < pre.length := by omega
  have := hl pre[k] (List.getElem_mem hkl)
  simpa [List.getD, List.getElem?_append_left, hkl] using this
theorem at_go (hM : May f n) (ho : ∀ i, i < n → insO (f i)) (hs : s.pc < n) (h : AtK f d n k s) {s2 : VmS} (hst : stepV alI hdI (f s.pc) d s = (none, s2)) : AtK f d n (k + 1) s2 ∧ s2.pc < n := by
  obtain ⟨pre, hk, hp, hl⟩ := h
  obtain ⟨h1, h2⟩ := step_fwd hM ho hs hst
  refine ⟨⟨pre ++ [(s, 0)], by simp [hk], by rw [← hp, rest_go hM ho hs hst]; simp, ?_⟩, h2⟩
  intro x hx
  rcases List.mem_append.1 hx with hx | hx
  · have := hl x hx; omega
  · rw [List.mem_singleton] at hx; subst hx; exact h1
theorem at_ret (hs : s.pc < n) (h : AtK f d n k s) {s2 : VmS} {r : Int} (hst : stepV alI hdI (f s.pc) d s = (some r, s2)) : (traV f d n).length = k + 1 ∧ retV f d n = r := by
  obtain ⟨pre, hk, hp, _⟩ := h
  unfold traV retV
  rw [← hp, rest_ret hs hst, last_snoc]
  simp [hk]
end

/-- What the loop of VmEnds has: all as it was, the data, and the machine. -/
structure EI (w2 V : World) (gd gm : Nat) (d : Dat) (s : VmS) : Prop where
  bel : Below w2.heap.size w2 V
  kd : Blk V gd (datC d) 32
  km : Blk V gm (vmC s) 35
section
variable {w2 V V' : World} {gd gm : Nat} {d : Dat} {s : VmS}
theorem EI.below (h : EI w2 V gd gm d s) (hb : Below V.heap.size V V') : EI w2 V' gd gm d s := ⟨h.bel.trans (hb.mono h.bel.size), h.kd.below hb h.kd.lt, h.km.below hb h.km.lt⟩
end
theorem vm_lin {s : VmS} (h : s.mem.length = 16) : (Tryd.prog.info? 35).map (·.size) = some (vmC s).toList.length := by rw [vmC_len h]; exact vm_info19
theorem vm_same (s : VmS) : (!decide (s = s)) = false := by simp
theorem vm0_C : vmC vm0 = zerL := zer_lit.symm

set_option maxRecDepth 100000 in
set_option maxHeartbeats 2000000 in
theorem ends_big (A : Option Addr) (l cap : Nat) (d : Dat) (w : World) (hK : Kinds w) (hbig : 300 < l) :
    Calls Tryd.prog 6 #[.slice A l cap, datV d] w fun e w' => e = .returned (.bool true) ∧ Below w.heap.size w w' := by
  have hb' : (300 : Int) < l := by omega
  have B0 := (Below.refl w.heap.size w).alloc (Nat.le_refl _) (.cells (datC d) 32)
  have W5 := wakes5_any _ (hK.below B0 hK.pos)
  unfold datV
  go_enter Tryd.func6, Tryd.ntmps6
  go_wp2_with fail
  refine W5.mono ?_
  rintro e w1 ⟨rfl, b1⟩
  go_wp2_with fail
  go_ret
  exact ⟨rfl, B0.trans (b1.mono (by simp))⟩

set_option maxRecDepth 100000 in
set_option maxHeartbeats 4000000 in
theorem ends_no (A : Option Addr) (l cap : Nat) (f : Nat → Ins) (d : Dat) (w : World) (hK : Kinds w) (hA : Ri w w.heap.size A l f) (hl : l ≤ 300) (r1 r2 : Int) (hr : chkI f l = (r1, r2)) (h0 : ¬ r2 = 0) :
    Calls Tryd.prog 6 #[.slice A l cap, datV d] w fun e w' => e = .returned (.bool true) ∧ Below w.heap.size w w' := by
  have hb' : ¬ (300 : Int) < l := by omega
  have B0 := (Below.refl w.heap.size w).alloc (Nat.le_refl _) (.cells (datC d) 32)
  have W5 := wakes5_any _ (hK.below B0 hK.pos)
  have kd := Blk.new w (datC d) 32
  have R := fun V hK hA => run_no A l cap f d V hK hA r1 r2 hr h0
  have C := fun V hK hA => check_any A l cap f V hK hA
  rw [hr] at C
  unfold datV at R ⊢
  clear hr
  go_enter Tryd.func6, Tryd.ntmps6
  go_wp2_with fail
  refine W5.mono ?_
  rintro e w1 ⟨rfl, b1⟩
  have B1 := B0.trans (b1.mono B0.size)
  replace kd := kd.below b1 kd.lt
  clear W5 b1
  go_wp2_with (refine wpList_load_row rfl 32 (.tmp 3) rfl w.heap.size rfl 32 (datC d) (0, 0) _ kd.blk Tryd.underlying32 rfl dat_info ?_)
  refine (R w1 (hK.below B1 hK.pos) ((hA.below B1 (Nat.le_refl _)).more B1.size)).mono ?_
  rintro e w2 ⟨rfl, b2⟩
  have B2 := B1.trans (b2.mono B1.size)
  go_wp2_with fail
  refine (C w2 (hK.below B2 hK.pos) ((hA.below B2 (Nat.le_refl _)).more B2.size)).mono ?_
  rintro e w3 ⟨rfl, b3⟩
  go_wp2_with fail
  go_ret
  exact ⟨rfl, B2.trans (b3.mono B2.size)⟩

set_option maxRecDepth 100000 in
set_option maxHeartbeats 8000000 in
theorem ends_ok (A : Option Addr) (m cap : Nat) (f : Nat → Ins) (d : Dat) (hd : DatOk d) (w : World) (hK : Kinds w) (hA : Ri w w.heap.size A m f) (hc : m ≤ cap) (hM : May f m) :
    Calls Tryd.prog 6 #[.slice A m cap, datV d] w fun e w' => e = .returned (.bool true) ∧ Below w.heap.size w w' := by
  have hm64 := hM.hi
  have hb' : ¬ (300 : Int) < m := by omega
  have hio := hA.ok
  have B0 := (Below.refl w.heap.size w).alloc (Nat.le_refl _) (.cells (datC d) 32)
  have W5 := wakes5_any _ (hK.below B0 hK.pos)
  have kd := Blk.new w (datC d) 32
  have R := fun V hK hA => run_ok A m cap f d hd V hK hA hc hM
  have C := fun V hK hA => check_any A m cap f V hK hA
  rw [chk_may hM] at C
  have M := fun V hK hA => most_ok A m cap f V hK hA hc hM (may_goes hM hio)
  have T := fun V hK hA => trace_ok A m cap f d hd V hK hA hc hM
  have ST := Lib.hid (fun s (hs : VmOk s) (hp : s.pc < m) o s2 hst V hK hA => stepSt_ok A m cap f d hd s hs V hK hA hc hM hp o s2 hst)
  obtain ⟨hl1, hl2, hl3⟩ := lens (d := dW d) hM hio
  have hget := Lib.hid (fun k s (hs : s.pc < m) h => at_get (d := dW d) (k := k) (s := s) hM hio hs h)
  have hprev := Lib.hid (fun k s h => at_prev (f := f) (d := dW d) (n := m) (k := k) (s := s) h)
  have hret := Lib.hid (fun k s (hs : s.pc < m) h s2 r hst => at_ret (f := f) (d := dW d) (n := m) (k := k) (s := s) hs h (s2 := s2) (r := r) hst)
  have hgo := Lib.hid (fun k s (hs : s.pc < m) h s2 hst => at_go (d := dW d) (k := k) (s := s) hM hio hs h (s2 := s2) hst)
  generalize retV f (dW d) m = rv at R hret
  generalize mostI f m = mo at M hl2 hl3
  generalize traV f (dW d) m = L at T hl1 hl2 hget hprev hret
  obtain ⟨n, hn⟩ : ∃ n, L.length = n := ⟨_, rfl⟩
  rw [hn] at T hl1 hl2 hget hret
  have HN := Lib.hid hn
  clear hn
  have hl1' : ¬ (n : Int) < 1 := by omega
  have hl2' : ¬ (n : Int) > mo := by omega
  have hl3' : ¬ (mo : Int) > m := by omega
  unfold datV at R T ⊢
  go_enter Tryd.func6, Tryd.ntmps6
  go_wp2_with fail
  refine W5.mono ?_
  rintro e w1 ⟨rfl, b1⟩
  have B1 := B0.trans (b1.mono B0.size)
  replace kd := kd.below b1 kd.lt
  clear W5 b1 B0
  go_wp2_with (refine wpList_load_row rfl 32 (.tmp 3) rfl w.heap.size rfl 32 (datC d) (0, 0) _ kd.blk Tryd.underlying32 rfl dat_info ?_)
  refine (R w1 (hK.below B1 hK.pos) ((hA.below B1 (Nat.le_refl _)).more B1.size)).mono ?_
  rintro e w2 ⟨rfl, b2⟩
  have B2 := B1.trans (b2.mono B1.size)
  replace kd := kd.below b2 kd.lt
  clear b2 B1 R
  go_wp2_with fail
  refine (C w2 (hK.below B2 hK.pos) ((hA.below B2 (Nat.le_refl _)).more B2.size)).mono ?_
  rintro e w3 ⟨rfl, b3⟩
  have B3 := B2.trans (b3.mono B2.size)
  replace kd := kd.below b3 kd.lt
  clear b3 B2 C
  go_wp2_with fail
  refine (M w3 (hK.below B3 hK.pos) ((hA.below B3 (Nat.le_refl _)).more B3.size)).mono ?_
  rintro e w4 ⟨rfl, b4⟩
  have B4 := B3.trans (b4.mono B3.size)
  replace kd := kd.below b4 kd.lt
  clear b4 B3 M
  go_wp2_with (refine wpList_load_row rfl 32 (.tmp 3) rfl w.heap.size rfl 32 (datC d) (0, 0) _ kd.blk Tryd.underlying32 rfl dat_info ?_)
  refine (T w4 (hK.below B4 hK.pos) ((hA.below B4 (Nat.le_refl _)).more B4.size)).mono ?_
  rintro e w5 ⟨A', c', rfl, hc', hR, b5⟩
  have B5 := B4.trans (b5.mono B4.size)
  replace kd := kd.below b5 kd.lt
  clear b5 B4 T
  go_wp2_with fail
  try simp only [Act.put]
  have km := Blk.new w5 (vmC vm0) 35
  rw [vm0_C] at km
  have S0 : EI w5 (w5.alloc (.cells zerL 35)) w.heap.size w5.heap.size d vm0 := ⟨(Below.refl _ w5).alloc (Nat.le_refl _) _, kd.alloc _, by rw [vm0_C]; exact km⟩
  have hgc : w.heap.size < w5.heap.size := kd.lt
  clear km kd
  generalize (Value.bool (decide ((n : Int) < 1) || decide (mo < n) || decide (m < mo))) = z77
  generalize (Value.bool (decide ((n : Int) < 1) || decide (mo < n))) = z71
  generalize (Value.bool (decide (mo < n))) = z70
  generalize (Value.bool (decide (m < mo))) = z76
  go_loopw [80] (fun i wr => ∃ (k : Nat) (s : VmS), i = .int .i64 k ∧ s.pc < m ∧ VmOk s ∧ AtK f (dW d) m k s ∧ EI w5 wr w.heap.size w5.heap.size d s) (fun i _ => n - (intOf i).toNat)
  case atStart => exact ⟨0, vm0, rfl, hM.lo, vm0_ok, at_zero, S0⟩
  case round =>
    obtain ⟨k, s, rfl, hs, hok, hat, hS⟩ := hrel
    obtain ⟨hkn, hLk⟩ := hget.out k s hs hat
    have hkn' : (k : Int) < n := by omega
    have hRV := fun V (h : EI w5 V w.heap.size w5.heap.size d s) => hR.below h.bel (Nat.le_refl _)
    obtain ⟨g, off, rfl, hg, _⟩ := hR k (by rw [HN.out]; exact hkn)
    have hrg : ∀ V, EI w5 V w.heap.size w5.heap.size d s → V.rangeAt g (off + k * 19) (vmC s).toList := fun V h => by
      obtain ⟨g', off', e, _, r⟩ := hRV V h k (by rw [HN.out]; exact hkn)
      cases e
      rw [hLk] at r
      exact r
    have J0 : EI w5 wr.drew w.heap.size w5.heap.size d s := hS.below (Below.refl _ _).drew
    rcases k with _ | j
    · have hpos : ¬ (0 : Int) > 0 := by omega
      go_wp2_with fail
      have hne0 : Nonempty (Sig (fun V => EI w5 V w.heap.size w5.heap.size d s)) := ⟨⟨_, J0⟩⟩
      refine region_class (S := fun V => EI w5 V w.heap.size w5.heap.size d s) (by kernel_rfl) (by kernel_rfl) J0 ?_
      have hS2 : ∀ s' : Sig (fun V => EI w5 V w.heap.size w5.heap.size d s), s'.V.cell? ⟨w5.heap.size, 0, none⟩ = some (.int .i64 s.pc) := fun s' => (s'.h.km.cell 0).trans mc_0
      go_big_quiet_step (fail)
      go_big_quiet_step (fail)
      go_big_quiet_step (fail)
      refine class_load_mid (by rfl) 35 (.tmp 85) rfl g (off + 0 * 19) rfl (vmC s).toList _ hrg Tryd.underlying35 rfl (vm_lin hok.len) ?_
      simp only [Act.put, List.setIfInBounds_toArray, List.set_cons_zero, List.set_cons_succ]
      refine class_load (by rfl) 35 (.tmp 13) rfl w5.heap.size rfl (vmC s) 35 _ (fun _ h => h.km) Tryd.underlying35 rfl (mc_inf hok.len) ?_
      simp only [Act.put, List.setIfInBounds_toArray, List.set_cons_zero, List.set_cons_succ]
      refine class_neq_vm (by rfl) (.tmp 86) (.tmp 87) rfl s s rfl rfl hok.len hok.len false (vm_same s) ?_
      simp only [Act.put, List.setIfInBounds_toArray, List.set_cons_zero, List.set_cons_succ]
      repeat (go_big_quiet_step (fail))
      refine wpQuiet_nil ?_
      rintro _ ⟨s7, rfl⟩
      have J7 := s7.h
      generalize s7.V = w6 at J7 ⊢
      clear s7 hne0 hS2 hS J0 hrg hRV hR
      have BW := B5.trans (J7.bel.mono B5.size)
      obtain ⟨⟨o, s2⟩, hst⟩ : ∃ t, stepV alI hdI (f s.pc) (dW d) s = t := ⟨_, rfl⟩
      have ok2 : VmOk s2 := step_ok (hio s.pc hs) (fun o => dW_bd d hd o) hok hst
      have CST := ST.out s hok hs o s2 hst
      unfold datV vmV at CST
      go_wp2_with (first
        | (refine wpList_load_row rfl 32 (.tmp 3) rfl w.heap.size rfl 32 (datC d) (0, 0) _ J7.kd.blk Tryd.underlying32 rfl dat_info ?_)
        | (refine wpList_load_row rfl 35 (.tmp 13) rfl w5.heap.size rfl 35 (vmC s) (0, 0) _ J7.km.blk Tryd.underlying35 rfl (mc_inf hok.len) ?_))
      refine (CST w6 (hK.below BW hK.pos) ((hA.below BW (Nat.le_refl _)).more BW.size)).mono ?_
      rintro e w7 ⟨rfl, b7⟩
      have J8 := J7.below b7
      have BW7 := BW.trans (b7.mono BW.size)
      clear b7 J7 BW CST
      cases o with
      | some r =>
        obtain ⟨hnk, hrv⟩ := hret.out _ s hs hat s2 r hst
        have hnk' : (n : Int) = (0 : Nat) + 1 := by omega
        simp only [wdO, ovO]
        subst hrv
        go_wp2_with (refine wpList_store_blk rfl 35 (.tmp 15) (.tmp 109) rfl w7.heap.size _ (vmC s2) 35 rfl rfl (Blk.new_ _ _ _ rfl) (vm_z19 ok2.len) (mc_inf ok2.len) mc_one ?_; intro w8 hF8 hn8)
        go_ret
        have b8 : Below w7.heap.size w7 w8 := ((Below.refl _ w7).alloc (Nat.le_refl _) _).trans (hn8.below _ (Nat.le_refl _) (by simp))
        exact ⟨rfl, BW7.trans (b8.mono BW7.size)⟩
      | none =>
        obtain ⟨hat2, hp2⟩ := hgo.out _ s hs hat s2 hst
        obtain ⟨hkn2, _⟩ := hget.out _ s2 hp2 hat2
        have hnk' : ¬ ((0 : Nat) : Int) = n - 1 := by omega
        simp only [wdO, ovO]
        go_wp2_with (first
          | (refine wpList_store_blk rfl 35 (.tmp 15) (.tmp 109) rfl w7.heap.size _ (vmC s2) 35 rfl rfl (Blk.new_ _ _ _ rfl) (vm_z19 ok2.len) (mc_inf ok2.len) mc_one ?_
             intro w8 hF8 hn8
             have b8 : Below w7.heap.size w7 w8 := ((Below.refl _ w7).alloc (Nat.le_refl _) _).trans (hn8.below _ (Nat.le_refl _) (by simp))
             have J9 := J8.below b8
             clear hn8 b8 J8)
          | (refine wpList_load_row rfl 35 (.tmp 15) rfl w7.heap.size rfl 35 (vmC s2) (0, 0) _ hF8.blk Tryd.underlying35 rfl (mc_inf ok2.len) ?_)
          | (refine wpList_store_blk rfl 35 (.tmp 13) (.tmp 128) rfl w5.heap.size _ (vmC s2) 35 rfl rfl J9.km ((mc_size hok.len).trans (mc_size ok2.len).symm) (mc_inf ok2.len) mc_one ?_; intro w9 hF9 hn9))
        have S9 : EI w5 w9 w.heap.size w5.heap.size d s2 := ⟨J9.bel.trans (hn9.below _ (Nat.le_refl _) J9.bel.size), But.blk' hn9 J9.kd (by omega), hF9⟩
        try simp only [Act.put]
        go_roundw
        case rel => exact ⟨0 + 1, s2, by first | go_num | rfl, hp2, ok2, hat2, S9⟩
        case measure => simp [intOf]; omega
    · have hpos : ((j + 1 : Nat) : Int) > 0 := by omega
      have hpv := hprev.out j s hat
      have hge : ¬ ((L.getD j vm0).pc : Int) ≥ s.pc := by omega
      have hS1 : ∀ s' : Sig (fun V => EI w5 V w.heap.size w5.heap.size d s), s'.V.cell? ⟨g, off + j * 19, none⟩ = some (.int .i64 (L.getD j vm0).pc) := fun s' => by
        obtain ⟨g', off', e, _, r⟩ := hRV s'.V s'.h j (by rw [HN.out]; omega)
        cases e
        exact r 0 _ (by rw [Array.getElem?_toList]; exact mc_0)
      generalize (L.getD j vm0).pc = pj at hpv hge hS1
      go_wp2_with fail
      have hne0 : Nonempty (Sig (fun V => EI w5 V w.heap.size w5.heap.size d s)) := ⟨⟨_, J0⟩⟩
      refine region_class (S := fun V => EI w5 V w.heap.size w5.heap.size d s) (by kernel_rfl) (by kernel_rfl) J0 ?_
      have hS2 : ∀ s' : Sig (fun V => EI w5 V w.heap.size w5.heap.size d s), s'.V.cell? ⟨w5.heap.size, 0, none⟩ = some (.int .i64 s.pc) := fun s' => (s'.h.km.cell 0).trans mc_0
      go_big_quiet_step (fail)
      go_big_quiet_step (fail)
      go_big_quiet_step (fail)
      refine class_load_mid (by rfl) 35 (.tmp 85) rfl g (off + (j + 1) * 19) rfl (vmC s).toList _ hrg Tryd.underlying35 rfl (vm_lin hok.len) ?_
      simp only [Act.put, List.setIfInBounds_toArray, List.set_cons_zero, List.set_cons_succ]
      refine class_load (by rfl) 35 (.tmp 13) rfl w5.heap.size rfl (vmC s) 35 _ (fun _ h => h.km) Tryd.underlying35 rfl (mc_inf hok.len) ?_
      simp only [Act.put, List.setIfInBounds_toArray, List.set_cons_zero, List.set_cons_succ]
      refine class_neq_vm (by rfl) (.tmp 86) (.tmp 87) rfl s s rfl rfl hok.len hok.len false (vm_same s) ?_
      simp only [Act.put, List.setIfInBounds_toArray, List.set_cons_zero, List.set_cons_succ]
      repeat (go_big_quiet_step (fail))
      refine wpQuiet_nil ?_
      rintro _ ⟨s7, rfl⟩
      have J7 := s7.h
      generalize s7.V = w6 at J7 ⊢
      clear s7 hne0 hS2 hS J0 hrg hRV hR
      have BW := B5.trans (J7.bel.mono B5.size)
      obtain ⟨⟨o, s2⟩, hst⟩ : ∃ t, stepV alI hdI (f s.pc) (dW d) s = t := ⟨_, rfl⟩
      have ok2 : VmOk s2 := step_ok (hio s.pc hs) (fun o => dW_bd d hd o) hok hst
      have CST := ST.out s hok hs o s2 hst
      unfold datV vmV at CST
      go_wp2_with (first
        | (refine wpList_load_row rfl 32 (.tmp 3) rfl w.heap.size rfl 32 (datC d) (0, 0) _ J7.kd.blk Tryd.underlying32 rfl dat_info ?_)
        | (refine wpList_load_row rfl 35 (.tmp 13) rfl w5.heap.size rfl 35 (vmC s) (0, 0) _ J7.km.blk Tryd.underlying35 rfl (mc_inf hok.len) ?_))
      refine (CST w6 (hK.below BW hK.pos) ((hA.below BW (Nat.le_refl _)).more BW.size)).mono ?_
      rintro e w7 ⟨rfl, b7⟩
      have J8 := J7.below b7
      have BW7 := BW.trans (b7.mono BW.size)
      clear b7 J7 BW CST
      cases o with
      | some r =>
        obtain ⟨hnk, hrv⟩ := hret.out _ s hs hat s2 r hst
        have hnk' : (n : Int) = ((j + 1) : Nat) + 1 := by omega
        simp only [wdO, ovO]
        subst hrv
        go_wp2_with (refine wpList_store_blk rfl 35 (.tmp 15) (.tmp 109) rfl w7.heap.size _ (vmC s2) 35 rfl rfl (Blk.new_ _ _ _ rfl) (vm_z19 ok2.len) (mc_inf ok2.len) mc_one ?_; intro w8 hF8 hn8)
        go_ret
        have b8 : Below w7.heap.size w7 w8 := ((Below.refl _ w7).alloc (Nat.le_refl _) _).trans (hn8.below _ (Nat.le_refl _) (by simp))
        exact ⟨rfl, BW7.trans (b8.mono BW7.size)⟩
      | none =>
        obtain ⟨hat2, hp2⟩ := hgo.out _ s hs hat s2 hst
        obtain ⟨hkn2, _⟩ := hget.out _ s2 hp2 hat2
        have hnk' : ¬ (((j + 1) : Nat) : Int) = n - 1 := by omega
        simp only [wdO, ovO]
        go_wp2_with (first
          | (refine wpList_store_blk rfl 35 (.tmp 15) (.tmp 109) rfl w7.heap.size _ (vmC s2) 35 rfl rfl (Blk.new_ _ _ _ rfl) (vm_z19 ok2.len) (mc_inf ok2.len) mc_one ?_
             intro w8 hF8 hn8
             have b8 : Below w7.heap.size w7 w8 := ((Below.refl _ w7).alloc (Nat.le_refl _) _).trans (hn8.below _ (Nat.le_refl _) (by simp))
             have J9 := J8.below b8
             clear hn8 b8 J8)
          | (refine wpList_load_row rfl 35 (.tmp 15) rfl w7.heap.size rfl 35 (vmC s2) (0, 0) _ hF8.blk Tryd.underlying35 rfl (mc_inf ok2.len) ?_)
          | (refine wpList_store_blk rfl 35 (.tmp 13) (.tmp 128) rfl w5.heap.size _ (vmC s2) 35 rfl rfl J9.km ((mc_size hok.len).trans (mc_size ok2.len).symm) (mc_inf ok2.len) mc_one ?_; intro w9 hF9 hn9))
        have S9 : EI w5 w9 w.heap.size w5.heap.size d s2 := ⟨J9.bel.trans (hn9.below _ (Nat.le_refl _) J9.bel.size), But.blk' hn9 J9.kd (by omega), hF9⟩
        try simp only [Act.put]
        go_roundw
        case rel => exact ⟨(j + 1) + 1, s2, by first | go_num | rfl, hp2, ok2, hat2, S9⟩
        case measure => simp [intOf]; omega

theorem vmEnds_any (A : Option Addr) (l cap : Nat) (f : Nat → Ins) (d : Dat) (w : World) (hK : Kinds w) (hA : Ri w w.heap.size A l f) (hc : l ≤ cap) (hd : DatOk d) :
    Calls Tryd.prog 6 #[.slice A l cap, datV d] w fun e w' => e = .returned (.bool true) ∧ Below w.heap.size w w' := by
  by_cases hl : l ≤ 300
  · obtain ⟨⟨r1, r2⟩, hr⟩ : ∃ r, chkI f l = r := ⟨_, rfl⟩
    by_cases h0 : r2 = 0
    · exact ends_ok A l cap f d hd w hK hA hc (may_chk (by rw [hr]; exact h0))
    · exact ends_no A l cap f d w hK hA hl r1 r2 hr h0
  · exact ends_big A l cap d w hK (by omega)
end Go.Proofs.YtepkhkfdokinmaaDoor

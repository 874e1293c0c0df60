/-
  ClassL, VmF, ClassT: in one file.
-/
import Derived.Test.YtepkhkfdokinmaaDoorGD
import Derived.Test.YtepkhkfdokinmaaDoorGC
import Derived.Test.YtepkhkfdokinmaaDoorVmS
import Derived.Test.YtepkhkfdokinmaaDoorDatO
import Derived.StillTail
import Derived.Deep.Quiet
/-
  A statement that draws its order, walked once: a whole struct or array loaded, in every world of the class.
-/
namespace Go.Proofs.YtepkhkfdokinmaaDoor
open Go.RowKit

theorem class_load {P : Program} {ops : Array Oper} {S : World → Prop} {Q : Act → Prop} {a : Act} {o : Oper} {rest : List Oper} (hw : Region.wanted o (yielded ops a.tmps) = true) (ty : TypeId) (x : Operand) (ho : o.op = .load ty x)
    (g : Nat) (hx : a.eval x = .pointer (some ⟨g, 0, none⟩)) (cs : Array Value) (t : TypeId) (d : TypeDesc) (hS : ∀ w, S w → Blk w g cs t)
    (hu : P.underlying ty = some d) (hd : (match d with | .struct _ | .array _ _ => true | _ => false) = true) (hi : (P.info? ty).map (·.size) = some cs.size)
    (h : wpQuiet P ops (fun w' => ∃ s : Sig S, w' = s.V) Q rest (a.put o.dst (.agg cs))) : wpQuiet P ops (fun w' => ∃ s : Sig S, w' = s.V) Q (o :: rest) a :=
  wpQuiet_step fun K hK => by
    rw [if_pos hw]
    refine ⟨.agg cs, ?_, hK _ h⟩
    rintro w ⟨s, rfl⟩
    unfold Oper.quietAt execOp
    simp only [ho, hx, Instr.loadAt, Instr.sureAddr, Sem.run_bind, Sem.run_pure, Result.andThen_ok, run_loadVar_row s.V g t ty cs (0, 0) d (hS s.V s.h).blk hu hd hi]
    exact ⟨rfl, rfl⟩
/-- What is kept over new blocks is kept by a call that lays new blocks alone. -/
theorem calls_keep {P : Program} {S : World → Prop} {f : FuncId} {args : Array Value} {v : Value} (hb : ∀ V V', S V → Below V.heap.size V V' → S V') (h : ∀ V, S V → Calls P f args V fun e w' => e = .returned v ∧ Below V.heap.size V w') :
    ∀ V, S V → Calls P f args V fun e w' => e = .returned v ∧ S w' := fun V hs => (h V hs).mono fun _ w' ⟨he, hw⟩ => ⟨he, hb V w' hs hw⟩
end Go.Proofs.YtepkhkfdokinmaaDoor

/-
  vm.loaded, vm.further.
-/
namespace Go.Proofs.YtepkhkfdokinmaaDoor
open Go.RowKit
set_option linter.unusedVariables false

/-- An instruction and a machine, each in a block of the call's own. -/
structure MJ (w V : World) (g1 g2 : Nat) (c y z k p a x : Int) (mem : List Int) : Prop where
  ki : Blk V g1 #[.int .u16 c, .int .u8 y, .int .u8 z, .int .u32 k] 54
  km : Blk V g2 (mcC p a x mem) 35
  kk : Kinds V
  old : Below w.heap.size w V
section
variable {w V V' : World} {g1 g2 : Nat} {c y z k p a x : Int} {mem : List Int}
theorem MJ.below (h : MJ w V g1 g2 c y z k p a x mem) (hb : Below V.heap.size V V') : MJ w V' g1 g2 c y z k p a x mem :=
  ⟨h.ki.below hb h.ki.lt, h.km.below hb h.km.lt, h.kk.below hb h.kk.pos, h.old.trans (hb.mono h.old.size)⟩
theorem MJ.drew (h : MJ w V g1 g2 c y z k p a x mem) : MJ w V.drew g1 g2 c y z k p a x mem := h.below (Below.refl _ _).drew
theorem MJ.new (w : World) (hK : Kinds w) : MJ w ((w.alloc (.cells #[.int .u16 c, .int .u8 y, .int .u8 z, .int .u32 k] 54)).alloc (.cells (mcC p a x mem) 35)) w.heap.size (w.heap.size + 1) c y z k p a x mem :=
  have B := ((Below.refl w.heap.size w).alloc (Nat.le_refl _) (.cells #[.int .u16 c, .int .u8 y, .int .u8 z, .int .u32 k] 54)).alloc (by simp) (.cells (mcC p a x mem) 35)
  ⟨(Blk.new w _ _).alloc _, Blk.new_ _ _ _ (by simp), hK.below B hK.pos, B⟩
end

set_option maxRecDepth 100000 in
set_option maxHeartbeats 2000000 in
theorem further_test' (c y z k p a x : Int) (mem : List Int) (hl : mem.length = 16) (hq : InsOk c y z k) (ha : U32 a) (hx : U32 x) (w : World) (hK : Kinds w) (r : Int) (hr : formOf c = r) (h4 : ¬ r = 4) :
    Calls Tryd.prog 56 #[insV c y z k, .agg (mcC p a x mem)] w fun e w' => e = .returned (.int .i64 (if hdI c a (if r = 1 ∨ r = 5 then k else x) = true then y else z)) ∧ Below w.heap.size w w' := by
  obtain ⟨hc0, hc1, y0', y1', z0', z1', k0, k1⟩ := hq
  have hk : U32 k := ⟨k0, k1⟩
  have F := fun V (h : Kinds V) => form_any c V h
  have S := fun V (h : Kinds V) => second_any c y z k p a x mem V h
  obtain ⟨b, hb⟩ : ∃ b, (if r = 1 ∨ r = 5 then k else x) = b := ⟨_, rfl⟩
  rw [hr] at F S
  rw [hb] at S ⊢
  have hbU : U32 b := by rw [← hb]; split <;> assumption
  have H := fun V => hd_any c a b hc0 hc1 ha hbU V
  unfold insV at S ⊢
  have J := MJ.new (c := c) (y := y) (z := z) (k := k) (p := p) (a := a) (x := x) (mem := mem) w hK
  have F' := F _ J.kk
  obtain ⟨v, hv⟩ : ∃ v, hdI c a b = v := ⟨_, rfl⟩
  rw [hv] at H ⊢
  have S' := Lib.hid (calls_keep (S := fun V => MJ w V w.heap.size (w.heap.size + 1) c y z k p a x mem) (fun V V' h hb => h.below hb) (fun V h => S V h.kk))
  have H' := Lib.hid (calls_keep (S := fun V => MJ w V w.heap.size (w.heap.size + 1) c y z k p a x mem) (fun V V' h hb => h.below hb) (fun V _ => H V))
  have hl' := hl
  clear F hr hb hv S hl
  have K0 := J.kk
  go_enter Tryd.func56, Tryd.ntmps56
  go_wp2_with fail
  refine F'.mono ?_
  rintro e w' ⟨rfl, hw'⟩
  subst w'
  go_wp2_with fail
  have J0 := J.drew
  clear J F' H K0
  have hne : Nonempty (Sig (fun V => MJ w V w.heap.size (w.heap.size + 1) c y z k p a x mem)) := ⟨⟨_, J0⟩⟩
  refine region_class (S := fun V => MJ w V w.heap.size (w.heap.size + 1) c y z k p a x mem) (by kernel_rfl) (by kernel_rfl) J0 ?_
  have hS1 : ∀ s : Sig (fun V => MJ w V w.heap.size (w.heap.size + 1) c y z k p a x mem), s.V.cell? ⟨w.heap.size, 0, none⟩ = some (.int .u16 c) := fun s => s.h.ki.cell 0
  have hS2 : ∀ s : Sig (fun V => MJ w V w.heap.size (w.heap.size + 1) c y z k p a x mem), s.V.cell? ⟨w.heap.size + 1, 1, none⟩ = some (.int .u32 a) := fun s => (s.h.km.cell 1).trans mc_1
  repeat (first
    | (refine class_load (by rfl) 54 (.tmp 2) rfl w.heap.size rfl _ 54 _ (fun _ h => h.ki) Tryd.underlying54 rfl (by kernel_rfl) ?_; simp only [Act.put, List.setIfInBounds_toArray, List.set_cons_zero, List.set_cons_succ])
    | (refine class_load (by rfl) 35 (.tmp 3) rfl (w.heap.size + 1) rfl _ 35 _ (fun _ h => h.km) Tryd.underlying35 rfl (mc_inf hl') ?_; simp only [Act.put, List.setIfInBounds_toArray, List.set_cons_zero, List.set_cons_succ])
    | go_big_quiet_step (first | (go_at_call 55; exact class_call _ S'.out) | (go_at_call 11; exact class_call _ H'.out)))
  refine wpQuiet_nil ?_
  rintro _ ⟨s7, rfl⟩
  have J7 := s7.h
  have y0 := J7.ki.cell 1
  have z0 := J7.ki.cell 2
  clear hS1 hS2 hne
  cases v
  · go_wp2_with fail
    go_ret
    exact ⟨rfl, J7.old⟩
  · go_wp2_with fail
    go_ret
    exact ⟨rfl, J7.old⟩
set_option maxHeartbeats 1000000 in
theorem further_jump (c y z k p a x : Int) (mem : List Int) (hq : InsOk c y z k) (w : World) (hK : Kinds w) (hr : formOf c = 4) :
    Calls Tryd.prog 56 #[insV c y z k, .agg (mcC p a x mem)] w fun e w' => e = .returned (.int .i64 k) ∧ Below w.heap.size w w' := by
  obtain ⟨hc0, hc1, y0', y1', z0', z1', k0, k1⟩ := hq
  have F := fun V (h : Kinds V) => form_any c V h
  rw [hr] at F
  unfold insV
  have J := MJ.new (c := c) (y := y) (z := z) (k := k) (p := p) (a := a) (x := x) (mem := mem) w hK
  have F' := F _ J.kk
  have B := J.old
  clear F hr J
  go_enter Tryd.func56, Tryd.ntmps56
  go_wp2_with fail
  refine F'.mono ?_
  rintro e w' ⟨rfl, hw'⟩
  subst w'
  go_wp2_with fail
  go_ret
  exact ⟨rfl, B⟩
/-- By how much more than one a jump goes on. -/
def furI (q : Ins) (a x : Int) : Int := if formOf q.1 = 4 then q.2.2.2 else if hdI q.1 a (if formOf q.1 = 1 ∨ formOf q.1 = 5 then q.2.2.2 else x) = true then q.2.1 else q.2.2.1
theorem further_any (q : Ins) (p a x : Int) (mem : List Int) (hl : mem.length = 16) (hq : insO q) (ha : U32 a) (hx : U32 x) (w : World) (hK : Kinds w) :
    Calls Tryd.prog 56 #[valI q, .agg (mcC p a x mem)] w fun e w' => e = .returned (.int .i64 (furI q a x)) ∧ Below w.heap.size w w' := by
  unfold furI
  by_cases h4 : formOf q.1 = 4
  · rw [if_pos h4]
    exact further_jump _ _ _ _ p a x mem hq w hK h4
  · rw [if_neg h4]
    exact further_test' _ _ _ _ p a x mem hl hq ha hx w hK _ rfl h4

/-- A call's word at an offset. -/
def dW (d : Dat) (o : Int) : Int := (wordsL d).getD (o / 4).toNat 0
theorem dW_bd (d : Dat) (h : DatOk d) (o : Int) : U32 (dW d o) := (words_bd d h).at_ _
/-- What a load puts into its register. -/
def ldI (q : Ins) (d : Int → Int) (mem : List Int) : Int := if formOf q.1 = 2 then d q.2.2.2 else if formOf q.1 = 1 then q.2.2.2 else if formOf q.1 = 3 then mem.getD q.2.2.2.toNat 0 else 64
/-- An instruction, a call's data and a machine, each in a block of the call's own. -/
structure LJ (w V : World) (q : Ins) (d : Dat) (p a x : Int) (mem : List Int) : Prop where
  ki : Blk V w.heap.size (celI q).toArray 54
  kd : Blk V (w.heap.size + 1) (datC d) 32
  km : Blk V (w.heap.size + 1 + 1) (mcC p a x mem) 35
  kk : Kinds V
  old : Below w.heap.size w V
section
variable {w V V' : World} {q : Ins} {d : Dat} {p a x : Int} {mem : List Int}
theorem LJ.below (h : LJ w V q d p a x mem) (hb : Below V.heap.size V V') : LJ w V' q d p a x mem :=
  ⟨h.ki.below hb h.ki.lt, h.kd.below hb h.kd.lt, h.km.below hb h.km.lt, h.kk.below hb h.kk.pos, h.old.trans (hb.mono h.old.size)⟩
theorem LJ.drew (h : LJ w V q d p a x mem) : LJ w V.drew q d p a x mem := h.below (Below.refl _ _).drew
theorem LJ.new (w : World) (hK : Kinds w) : LJ w (((w.alloc (.cells (celI q).toArray 54)).alloc (.cells (datC d) 32)).alloc (.cells (mcC p a x mem) 35)) q d p a x mem :=
  have B := (((Below.refl w.heap.size w).alloc (Nat.le_refl _) (.cells (celI q).toArray 54)).alloc (by simp) (.cells (datC d) 32)).alloc (by simp; omega) (.cells (mcC p a x mem) 35)
  ⟨((Blk.new w _ _).alloc _).alloc _, (Blk.new_ _ _ _ (by simp)).alloc _, Blk.new_ _ _ _ (by simp), hK.below B hK.pos, B⟩
theorem LJ.cells (h : LJ w V q d p a x mem) : V.cell? ⟨w.heap.size, 0, none⟩ = some (.int .u16 q.1) ∧ V.cell? ⟨w.heap.size, 1, none⟩ = some (.int .u8 q.2.1) ∧ V.cell? ⟨w.heap.size, 2, none⟩ = some (.int .u8 q.2.2.1) ∧ V.cell? ⟨w.heap.size, 3, none⟩ = some (.int .u32 q.2.2.2) :=
  ⟨h.ki.cell 0, h.ki.cell 1, h.ki.cell 2, h.ki.cell 3⟩
end
set_option maxRecDepth 100000 in
set_option maxHeartbeats 2000000 in
theorem loaded_any (q : Ins) (d : Dat) (hd : DatOk d) (p a x : Int) (mem : List Int) (hl : mem.length = 16) (hq : insO q) (h2 : formOf q.1 = 2 → rightB q.2.2.2 = true) (h3 : formOf q.1 = 3 → q.2.2.2 < 16) (w : World) (hK : Kinds w) :
    Calls Tryd.prog 54 #[valI q, datV d, .agg (mcC p a x mem)] w fun e w' => e = .returned (.int .u32 (ldI q (dW d) mem)) ∧ Below w.heap.size w w' := by
  obtain ⟨c, y, z, k⟩ := q
  have J := LJ.new (q := (c, y, z, k)) (d := d) (p := p) (a := a) (x := x) (mem := mem) w hK
  obtain ⟨hc0, hc1, y0', y1', z0', z1', k0, k1⟩ := hq
  simp only at h2 h3 hc0 hc1 k0 k1
  have F := form_any c _ J.kk
  simp only [valI, insV, datV, ldI, celI] at J F ⊢
  obtain ⟨i0, _, _, i3⟩ := J.cells
  simp only at i0 i3
  have B := J.old
  obtain ⟨r, hr⟩ : ∃ r, formOf c = r := ⟨_, rfl⟩
  rw [hr] at F h2 h3 ⊢
  clear hr
  by_cases r2 : r = 2
  · subst r2
    simp only [if_pos]
    obtain ⟨kn, hk16, ek, ek4⟩ := right_parts k ⟨k0, k1⟩ (h2 rfl)
    have W := word_ok d hd k ⟨k0, k1⟩ (h2 rfl) kn hk16 ek
    have ew : dW d k = (wordsL d).getD kn 0 := by unfold dW; rw [ek]; rfl
    rw [ew]
    unfold datV at W
    have kd := J.kd
    clear h2 h3 ek ew J ek4
    go_enter Tryd.func54, Tryd.ntmps54
    go_wp2_with fail
    refine F.mono ?_
    rintro e w' ⟨rfl, hw'⟩
    subst w'
    go_wp2_with (refine wpList_load_row rfl 32 (.tmp 4) rfl (w.heap.size + 1) rfl 32 (datC d) (0, 0) _ kd.blk Tryd.underlying32 rfl dat_info ?_)
    refine (W _).mono ?_
    rintro e w' ⟨rfl, hb⟩
    go_wp2_with fail
    go_ret
    exact ⟨rfl, B.trans (hb.mono B.size)⟩
  · rw [if_neg r2]
    by_cases r1 : r = 1
    · subst r1
      simp only [if_pos]
      clear h2 h3 J
      go_enter Tryd.func54, Tryd.ntmps54
      go_wp2_with fail
      refine F.mono ?_
      rintro e w' ⟨rfl, hw'⟩
      subst w'
      go_wp2_with fail
      go_ret
      exact ⟨rfl, B⟩
    · rw [if_neg r1]
      by_cases r3 : r = 3
      · subst r3
        simp only [if_pos]
        obtain ⟨kn, rfl⟩ : ∃ kn : Nat, k = (kn : Int) := ⟨k.toNat, by omega⟩
        have hkn := h3 rfl
        have m3 := (J.km.cell (3 + kn)).trans (mc_3 hl (by omega))
        rw [Int.toNat_natCast]
        clear h2 h3 J
        go_enter Tryd.func54, Tryd.ntmps54
        go_wp2_with fail
        refine F.mono ?_
        rintro e w' ⟨rfl, hw'⟩
        subst w'
        go_wp2_with fail
        go_ret
        exact ⟨rfl, B⟩
      · rw [if_neg r3]
        clear h2 h3 J
        go_enter Tryd.func54, Tryd.ntmps54
        go_wp2_with fail
        refine F.mono ?_
        rintro e w' ⟨rfl, hw'⟩
        subst w'
        go_wp2_with fail
        go_ret
        exact ⟨rfl, B⟩
end Go.Proofs.YtepkhkfdokinmaaDoor

/-
  A statement that draws its order, whose last operations wait for all the others: the others walked once over a class of worlds, the last ones one behind the other, in whatever world of the class.
-/
namespace Go.Proofs.YtepkhkfdokinmaaDoor
open Go.RowKit

section
variable {P : Program} {l : List Oper} {md : Region.Mode} {C : World → Prop} {n : Nat}
/-- Which have come up: of the head, and none of the others. -/
def padL (n : Nat) (l : List Oper) (L : Array Bool) : Array Bool := L ++ Array.replicate (l.length - n) false
theorem pad_lt {L : Array Bool} (hL : L.size = n) {j : Nat} (hj : j < n) (d : Bool) : (padL n l L).getD j d = L.getD j d := by
  unfold padL
  rw [Array.getD_eq_getD_getElem?, Array.getD_eq_getD_getElem?, Array.getElem?_append_left (by omega)]
theorem pad_ge {L : Array Bool} (hL : L.size = n) {j : Nat} (hj : n ≤ j) : (padL n l L).getD j false = false := by
  unfold padL
  rw [Array.getD_eq_getD_getElem?, Array.getElem?_append_right (by omega)]
  rcases Nat.lt_or_ge (j - L.size) (l.length - n) with h | h
  · simp [h]
  · rw [Array.getElem?_eq_none (by simp; omega)]; rfl
theorem pad_set {L : Array Bool} (hL : L.size = n) {j : Nat} (hj : j < n) : (padL n l L).setIfInBounds j true = padL n l (L.setIfInBounds j true) := by
  unfold padL
  rw [Array.setIfInBounds_append_left (by omega)]
theorem head_get {j : Nat} (hj : j < n) : (l.take n).toArray[j]? = l.toArray[j]? := by simp [hj]
theorem ready_head {L : Array Bool} (hL : L.size = n) {j : Nat} (hj : j < n) (h : j ∈ Region.ready md l.toArray (padL n l L)) : j ∈ Region.ready md (l.take n).toArray L := by
  rw [mem_ready] at h ⊢
  obtain ⟨h0, o, ho, hall⟩ := h
  refine ⟨by rw [← pad_lt (l := l) hL hj]; exact h0, o, (head_get hj).trans ho, fun e he hb => ?_⟩
  have h1 := hall e he hb
  rcases Nat.lt_or_ge e.on n with h2 | h2
  · rwa [pad_lt hL h2] at h1
  · rw [pad_ge hL h2] at h1; cases h1
/-- Each waits for such alone as stand ahead of it. -/
def backB (md : Region.Mode) (l : List Oper) (n : Nat) : Bool := (List.range n).all fun j => match l[j]? with
  | some o => o.after.all fun e => !Region.binds md e || decide (e.on < j)
  | none => false
theorem some_ready {L : Array Bool} (hL : L.size = n) (hb : backB md l n = true) (hx : ∃ j, j < n ∧ L.getD j true = false) : ∃ i, i < n ∧ i ∈ Region.ready md l.toArray (padL n l L) := by
  obtain ⟨j, hj, h⟩ := hx
  induction j using Nat.strongRecOn with
  | _ j ih =>
    by_cases hy : ∃ i, i < j ∧ L.getD i true = false
    · obtain ⟨i, hi, h'⟩ := hy
      exact ih i hi (by omega) h'
    · refine ⟨j, hj, ?_⟩
      have h1 := List.all_eq_true.1 hb j (List.mem_range.2 hj)
      cases ho : l[j]? with
      | none => rw [ho] at h1; cases h1
      | some o =>
        rw [ho] at h1
        simp only at h1
        rw [mem_ready]
        refine ⟨by rw [pad_lt hL hj]; exact h, o, by simpa using ho, fun e he hbd => ?_⟩
        have h2 := (Array.all_eq_true_iff_forall_mem.1 h1) e he
        rw [hbd] at h2
        simp only [Bool.not_true, Bool.false_or, decide_eq_true_eq] at h2
        rw [pad_lt hL (by omega)]
        cases h3 : L.getD e.on false with
        | true => rfl
        | false =>
          have hlt : e.on < L.size := by omega
          exact absurd ⟨e.on, h2, by simp [hlt] at h3 ⊢; exact h3⟩ hy
theorem wanted_head {o : Oper} {t : Array Value} (hg : ∀ j b, o.guard = some (j, b) → j < n) : Region.wanted o (yielded (l.take n).toArray t) = Region.wanted o (yielded l.toArray t) := by
  unfold Region.wanted
  cases hgd : o.guard with
  | none => rfl
  | some p =>
    obtain ⟨j, b⟩ := p
    simp only
    unfold yielded
    rw [head_get (hg j b hgd)]
/-- Each is guarded by such alone as stand in the head. -/
def guardB (l : List Oper) (n : Nat) : Bool := (List.range n).all fun j => match l[j]? with
  | some o => match o.guard with | some (i, _) => decide (i < n) | none => true
  | none => false
theorem qOp_head {i : Nat} {K : Act → Prop} {a : Act} (hi : i < n) (hg : guardB l n = true) (h : qOp P (l.take n).toArray C i K a) : qOp P l.toArray C i K a := by
  have h1 := List.all_eq_true.1 hg i (List.mem_range.2 hi)
  unfold qOp at h ⊢
  rw [head_get hi] at h
  cases ho : l[i]? with
  | none => rw [ho] at h1; cases h1
  | some o =>
    have ho' : l.toArray[i]? = some o := by simpa using ho
    rw [ho'] at h ⊢
    simp only at h ⊢
    rw [ho] at h1
    simp only at h1
    rw [wanted_head (l := l) (n := n) (fun j b hgd => by rw [hgd] at h1; simpa using h1)] at h
    exact h
theorem count_set {L : Array Bool} {i f : Nat} (hc : L.count false = f + 1) (h : L.getD i true = false) : (L.setIfInBounds i true).count false = f := by
  have hi : i < L.size := by
    rcases Nat.lt_or_ge i L.size with h' | h'
    · exact h'
    · simp [Array.getElem?_eq_none h'] at h
  have hv : L[i] = false := by simpa [hi] using h
  have := Array.count_set (a := true) (b := false) (xs := L) (i := i) hi
  rw [Array.setIfInBounds_def, dif_pos hi, this]
  simp [hv]
  omega
theorem wpAny_of_class {Q : Act → Prop} {Q' : Exit → Act → World → Prop} (g : Nat) (hs : Region.sinkB md l.toArray n = true) (hc : Region.chainB md l.toArray n = true) (hn : n < l.length) (hb : backB md l n = true) (hg : guardB l n = true)
    (hQ : ∀ a w, C w → Q a → wpAny P md l.toArray Q' g (padL n l (Array.replicate n true)) a w) :
    ∀ (f : Nat) (L : Array Bool) (a : Act) (w : World), C w → L.size = n → L.count false = f → HeadInv md l.toArray n (padL n l L) → wpAnyQ P md (l.take n).toArray C Q f L a → wpAny P md l.toArray Q' (f + g) (padL n l L) a w
  | 0, L, a, w, hw, hL, hf, _, h => by
    have e : L = Array.replicate n true := by
      apply Array.ext
      · simp [hL]
      · intro i h1 h2
        simp only [Array.getElem_replicate]
        cases hv : L[i] with
        | true => rfl
        | false =>
          have hm : false ∈ L := Array.mem_iff_getElem.2 ⟨i, h1, hv⟩
          have := Array.count_pos_iff.2 hm
          omega
    rw [Nat.zero_add, e]
    exact hQ a w hw h.2
  | f + 1, L, a, w, hw, hL, hf, inv, h => by
    have hx : ∃ j, j < n ∧ L.getD j true = false := by
      have : false ∈ L := Array.count_pos_iff.1 (by omega)
      obtain ⟨j, hj, e⟩ := Array.mem_iff_getElem.1 this
      exact ⟨j, by omega, by simp [hj, e]⟩
    obtain ⟨j, hj, hjr⟩ := some_ready hL hb hx
    obtain ⟨j0, hj0, hu⟩ := hx
    rw [show f + 1 + g = (f + g) + 1 by omega]
    refine ⟨fun h0 => (by rw [h0] at hjr; cases hjr), fun i hi => ?_⟩
    have hin : i < n := by
      rcases Nat.lt_or_ge i n with h' | h'
      · exact h'
      · exact absurd hi (tail_waits hs hc (by simpa using hn) inv _ j0 rfl hj0 (by rw [pad_lt hL hj0]; exact hu) i h')
    have hiu : L.getD i true = false := by
      have := (mem_ready.1 hi).1
      rwa [pad_lt hL hin] at this
    refine wpOp_of_qOp hw (fun a' w' hw' hk => ?_) (qOp_head hin hg (h.2 i (ready_head hL hin hi)))
    rw [pad_set hL hin]
    refine wpAny_of_class g hs hc hn hb hg hQ f _ a' w' hw' (by simp [hL]) (count_set hf hiu) ?_ hk
    rw [← pad_set hL hin]
    exact inv.set hi hin
end

/-- All that is asked of the shape. -/
def tailB (l : List Oper) (n : Nat) : Bool := Region.lexB .any (l.take n).toArray && decide (n < l.length) && Region.sinkB .any l.toArray n && Region.chainB .any l.toArray n && backB .any l n && guardB l n && Region.seqB .any l.toArray (l.length - n) n (padL n l (Array.replicate n true))
theorem region_class_tail {P : Program} {S : World → Prop} {id : Nat} {Q : Exit → Act → World → Prop} {a : Act} {w : World} {l : List Oper} (n : Nat) (hm : P.follows .mixedOrders = true) (hB : tailB l n = true) (hS : S w.drew)
    (h : wpQuiet P (l.take n).toArray (fun w' => ∃ s : Sig S, w' = s.V) (fun a' => ∀ s : Sig S, wpList P l.toArray Q (l.drop n) a' s.V) (l.take n) a) : (Code.region id l.toArray true).wp P Q a w := by
  simp only [tailB, Bool.and_eq_true, decide_eq_true_eq] at hB
  obtain ⟨⟨⟨⟨⟨⟨hlex, hn⟩, hs⟩, hc⟩, hb⟩, hg⟩, hq⟩ := hB
  have hlt : (l.take n).length = n := by simp; omega
  simp only [Region.lexB, Bool.and_eq_true] at hlex
  refine wp_region_any hm ?_
  have H := wpAnyQ_lex (C := fun w' => ∃ s : Sig S, w' = s.V) (md := .any) hlex.1 (l.take n) 0 (Array.replicate n false) a (by simp) (by have := hlex.2; simpa [hlt] using this) h
  rw [hlt] at H
  have e : padL n l (Array.replicate n false) = Array.replicate l.toArray.size false := by
    unfold padL
    rw [Array.replicate_append_replicate]
    congr 1
    simp
    omega
  have inv0 : HeadInv .any l.toArray n (padL n l (Array.replicate n false)) := by
    rw [e]
    exact ⟨by simp, fun j oj _ hl => (by rw [getD_replicate_false] at hl; cases hl), fun t _ ht => getD_in (by simpa using ht) (getD_replicate_false _ _)⟩
  have K := wpAny_of_class (Q' := Q) (l.length - n) hs hc hn hb hg (fun a' w' ⟨s, hw'⟩ hq' => by
    subst hw'
    have := wpAny_of_seq (md := .any) (Q' := Q) (l.drop n) n (padL n l (Array.replicate n true)) a' s.V (fun j => by simp [List.getElem?_drop]) (by simpa using hq) (hq' s)
    simpa using this) n _ a { w with drawn := w.drawn + 1 } ⟨⟨_, hS⟩, rfl⟩ (by simp) (by simp) inv0 H
  rw [e] at K
  have e2 : n + (l.length - n) = l.toArray.size := by simp; omega
  rwa [e2] at K
end Go.Proofs.YtepkhkfdokinmaaDoor

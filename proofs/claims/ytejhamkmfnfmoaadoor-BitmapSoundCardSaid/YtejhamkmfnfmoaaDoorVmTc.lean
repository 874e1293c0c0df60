/-
  vm.Run: what a program returns.
  vm.Trace: the machines ahead of each step.
  vm.Trace, walked.
-/
import Derived.Test.YtejhamkmfnfmoaaDoorVmI
import Derived.Test.YtejhamkmfnfmoaaDoorCkCheck
import Derived.Maps.AppendAt
import Derived.Deep.MidRow
namespace Go.Proofs.YtejhamkmfnfmoaaDoor
open Go.RowKit Go.Shelf
attribute [local go_sem] Oper.semAt_some
set_option linter.unusedVariables false

theorem grown_box {W W' : World} {row : Option Nat} {B b : Nat} {t : TypeId} {v : Value} (h : Boxed W b t v) (hg : W.grownBy W' row) (hr : ∀ r, row = some r → r = B ∨ r = B + 1 ∨ r = B + 2) (hb : b < B) : Boxed W' b t v := by
  have hlt : b < W.heap.size := (Array.getElem?_eq_some_iff.1 (show W.heap[b]? = _ from h)).1
  exact (hg.block b hlt (fun e => by have := hr b e.symm; omega)).trans h
theorem grown_below {W W' : World} {row : Option Nat} {n B : Nat} (hg : W.grownBy W' row) (hr : ∀ r, row = some r → r = B ∨ r = B + 1 ∨ r = B + 2) (hn : n ≤ B) (hs : n ≤ W.heap.size) : Below n W W' :=
  (Below.refl n W).grown hg hs (fun k e => by have := hr k e; omega)
theorem put_box {W : World} {b k : Nat} {o' : Obj} {t : TypeId} {v : Value} (h : Boxed W b t v) (hne : b ≠ k) : Boxed (W.putObj k o') b t v := (World.putObj_heap_other hne).trans h
theorem run_finish {n : Nat} {w : World} {B : Nat} (hB : n ≤ B) {W : World} (h : Below n w W) (o o' : Obj) (hk : W.heap[B]? = some o) : Below n w (W.putObj B o') :=
  h.trans ((Below.refl n W).grown (grownBy_putObj' W B o') (by have := (Array.getElem?_eq_some_iff.1 hk).1; omega) (fun k e => by cases e; omega))

set_option maxRecDepth 100000 in
set_option maxHeartbeats 4000000 in
theorem run_ok (A : Option Addr) (m cap : Nat) (f : Nat → Ins) (d : Dat) (hd : DatOk d) (w : World) (hK : Kinds w) (hA : Ri w w.heap.size A m f) (hcap : m ≤ cap) (hM : May f m) :
    Calls Tryd.prog 17 #[.slice A m cap, datV d] w fun e w' => e = .returned (.tuple #[.int .u32 (retV f (dW d) m), .int .i64 0]) ∧ Below w.heap.size w w' := by
  have hC := check_any A m cap f _ (hK.alloc (.cells (datC d) 51)) ((hA.below ((Below.refl _ w).alloc (Nat.le_refl _) (.cells (datC d) 51)) (Nat.le_refl _)).more (by simp))
  rw [chk_may hM] at hC
  unfold datV
  refine (callsIn_wide (n := 6)).1 ?_
  refine callsIn_of_wp_marks Tryd.func17 rfl trivial ?_ rfl
  simp only [Tryd.ntmps17, List.size_toArray, List.length_cons, List.length_nil, Nat.reduceAdd, Nat.reduceSub, Array.replicate_succ, Array.replicate_zero, List.push_toArray, List.append_toArray, List.nil_append, List.cons_append]
  refine wpIn_wide.2 ?_
  go_wp2_with fail
  refine hC.mono ?_
  rintro e w1 ⟨rfl, b1⟩
  have kd1 := (Blk.new w (datC d) 51).below b1 (by simp)
  have B1 : Below w.heap.size w w1 := ((Below.refl _ w).alloc (Nat.le_refl _) _).trans (b1.mono (by simp))
  have hs1 := b1.size
  simp only [World.size_alloc] at hs1
  have MA := fun V => machines_any A m cap d V
  unfold datV at MA
  go_wp2_with (refine wpList_load_row rfl 51 (.tmp 3) rfl w.heap.size rfl 51 (datC d) (0, 0) _ (kd1.alloc _).blk Tryd.underlying51 rfl dat_info ?_)
  refine (MA _).mono ?_
  rintro e w2 ⟨rfl, hw2⟩
  subst w2
  go_wp2_with fail
  have hpos := hK.pos
  have bP := ((Blk.new w1 #[.int .u32 0] 22).alloc (.cells #[.slice A m cap] 33)).alloc (.cells (datC d) 51)
  have bL := (Blk.new_ (w1.alloc (.cells #[.int .u32 0] 22)) #[.slice A m cap] 33 (n := w1.heap.size + 1) (by simp)).alloc (.cells (datC d) 51)
  have bD := Blk.new_ ((w1.alloc (.cells #[.int .u32 0] 22)).alloc (.cells #[.slice A m cap] 33)) (datC d) 51 (n := w1.heap.size + 1 + 1) (by simp)
  have hB0 : Below w.heap.size w (((w1.alloc (.cells #[.int .u32 0] 22)).alloc (.cells #[.slice A m cap] 33)).alloc (.cells (datC d) 51)) := ((B1.alloc (by omega) _).alloc (by simp; omega) _).alloc (by simp; omega) _
  have hsz : (((w1.alloc (.cells #[.int .u32 0] 22)).alloc (.cells #[.slice A m cap] 33)).alloc (.cells (datC d) 51)).heap.size = w1.heap.size + 1 + 1 + 1 := by simp
  have eL : (w1.alloc (.cells #[.int .u32 0] 22)).heap.size = w1.heap.size + 1 := by simp
  try rw [eL]
  generalize ((w1.alloc (.cells #[.int .u32 0] 22)).alloc (.cells #[.slice A m cap] 33)).alloc (.cells (datC d) 51) = w0 at bP bL bD hB0 hsz ⊢
  clear hC b1 kd1 MA
  have hms := machines_seq 5 (by omega) w.heap.size (w1.heap.size + 1) (w1.heap.size + 1 + 1) m cap A f d hd hcap hM w0 (by omega) hpos (hK.below hB0 hpos) bL bD (hA.below hB0 (Nat.le_refl _))
  refine (wpIn_wide (n := 6)).1 ?_
  refine wpIn_range4 rfl (by omega) (gf := 54) (lb := #[.pointer (some ⟨w1.heap.size + 1, 0, none⟩), .pointer (some ⟨w1.heap.size + 1 + 1, 0, none⟩)]) rfl trivial (enters_of Tryd.func54 (by kernel_rfl) rfl)
    hms keepV_t (keepV_b (by omega)) (Below.refl _ _) (fun _ => rfl)
    (fun (pre : List (VmS × Int)) W => Boxed W w1.heap.size 22 (.int .u32 (lastV pre)) ∧ Below w.heap.size w W) ?hI ⟨bP.blk, hB0⟩ ?round ?done
  case hI =>
    rintro s V V' row ⟨h1, h2⟩ hg hr
    exact ⟨grown_box h1 hg hr (by omega), h2.trans (grown_below hg hr (by omega) h2.size)⟩
  case round =>
    rintro l pre ⟨s, v⟩ W ⟨hv, hB⟩ hlt hlen
    gi_wp2
    refine ⟨⟨trivial, trivial⟩, keepV_refl _ _, fun o o' ho hc => ?_⟩
    have hv2 := put_box (o' := o') hv (show w1.heap.size ≠ w0.heap.size + 1 by omega)
    have hs1' : w0.heap.size + 1 < W.heap.size := by omega
    have hK2 : (W.putObj (w0.heap.size + 1) o').heap[w0.heap.size + 1]? = some o' := World.putObj_heap_same hs1'
    have hB2 : Below w.heap.size w (W.putObj (w0.heap.size + 1) o') := run_finish (by omega) hB o o' ho
    have hD2 : (W.putObj (w0.heap.size + 1) o').heap[w0.heap.size]? = W.heap[w0.heap.size]? := World.putObj_heap_other (by omega)
    generalize W.putObj (w0.heap.size + 1) o' = W2 at hv2 hK2 hB2 hD2 ⊢
    have hcell := hv2.cell
    have hfrz := hv2.frozen
    have hst : ∀ u, Boxed (W2.setCell ⟨w1.heap.size, 0, none⟩ u) w1.heap.size 22 u := fun u => hv2.set u
    have hoth : ∀ u k, k ≠ w1.heap.size → (W2.setCell ⟨w1.heap.size, 0, none⟩ u).heap[k]? = W2.heap[k]? := fun u k hk => Below.heap_setCell W2 ⟨w1.heap.size, 0, none⟩ u k hk
    have hkp : ∀ u, KeepV w.heap.size W2 (W2.setCell ⟨w1.heap.size, 0, none⟩ u) := fun u => keepV_set hv2 (by omega) (by decide) (by decide) (by decide)
    gi_wp2
    rw [last_snoc]
    rw [hsz] at hD2 hK2
    exact ⟨⟨(hoth _ _ (by omega)).trans hD2, (hoth _ _ (by omega)).trans hK2⟩, hst _, hB2.trans (hkp (.int .u32 v)).1⟩
  case done =>
    rintro ys W rfl ⟨hv, hB⟩ hD
    have hc := hv.cell
    go_wp2_with fail
    refine ⟨by simp, .inl ⟨_, _, rfl, run_takeDeferred hD, ?_⟩⟩
    exact ⟨_, results_tmp2 rfl _ _ _, rfl, run_finish (by omega) hB _ _ hD⟩

set_option maxHeartbeats 1000000 in
theorem run_no (A : Option Addr) (m cap : Nat) (f : Nat → Ins) (d : Dat) (w : World) (hK : Kinds w) (hA : Ri w w.heap.size A m f) (r1 r2 : Int) (hr : chkI f m = (r1, r2)) (h0 : ¬ r2 = 0) :
    Calls Tryd.prog 17 #[.slice A m cap, datV d] w fun e w' => e = .returned (.tuple #[.int .u32 0, .int .i64 r2]) ∧ Below w.heap.size w w' := by
  have hC := check_any A m cap f _ (hK.alloc (.cells (datC d) 51)) ((hA.below ((Below.refl _ w).alloc (Nat.le_refl _) (.cells (datC d) 51)) (Nat.le_refl _)).more (by simp))
  rw [hr] at hC
  clear hr
  unfold datV
  go_enter Tryd.func17, Tryd.ntmps17
  go_wp2_with fail
  refine hC.mono ?_
  rintro e w1 ⟨rfl, b1⟩
  go_wp2_with fail
  go_ret2
  exact ⟨rfl, ((Below.refl _ w).alloc (Nat.le_refl _) _).trans (b1.mono (by simp))⟩

open Go.RowKit Go.Shelf
attribute [local go_sem] Oper.semAt_some
set_option linter.unusedVariables false

/-- Machines' cells, one machine behind the other. -/
def flatV (l : List VmS) : List Value := l.flatMap fun s => (vmC s).toList
theorem flatV_snoc (l : List VmS) (s : VmS) : flatV (l ++ [s]) = flatV l ++ (vmC s).toList := by simp [flatV]
theorem vm_info3 : (Tryd.prog.info? 25).map (fun i => (i.zero, i.size, i.bytes)) = some (some (.agg zerL), 19, 80) := by kernel_rfl
theorem vmC_one (s : VmS) : ∀ u ∈ (vmC s).toList, u.oneCell' = true := fun u hu => (Array.all_eq_true_iff_forall_mem.1 (mc_one (p := s.pc) (a := s.a) (x := s.x) (mem := s.mem))) u (by simpa [vmC] using hu)
theorem vmC_len {s : VmS} (h : s.mem.length = 16) : (vmC s).toList.length = 19 := by have := mc_size (p := s.pc) (a := s.a) (x := s.x) h; simpa [vmC] using this
set_option maxRecDepth 100000 in
/-- A machine put behind the call's own. -/
theorem run_append_vm {w : World} (ty : TypeId) (base : Nat) (A : Option Addr) (n c : Nat) (l : List VmS) (hown : w.ownsRow base 25 19 (.slice A n c) n (flatV l)) (hn0 : n = 0 → A = none) (g : Nat) (s : VmS) (hs : s.mem.length = 16) (hg : Blk w g (vmC s) 25) (hsz : n + 1 ≤ 1000) (hbase : base ≤ w.heap.size) :
    ∃ A'' c'' w', (Builtin.append_ #[52, 52] ty #[.slice A n c, .slice (some ⟨g, 0, none⟩) 1 1]).run Tryd.prog w = .ok (.slice A'' (n + 1) c'') w' ∧ w'.ownsRow base 25 19 (.slice A'' (n + 1) c'') (n + 1) (flatV (l ++ [s])) ∧ KeepV base w w' ∧
      ∀ k, k < base → w'.heap[k]? = w.heap[k]? := by
  obtain ⟨i, hi, hz, hs1, hb1⟩ := info_parts vm_info3
  have hnews : ∀ j u, (vmC s).toList[j]? = some u → w.cell? ((⟨g, 0, none⟩ : Addr).add j) = some u := fun j u hj => by
    have e : (⟨g, 0, none⟩ : Addr).add j = ⟨g, j, none⟩ := by unfold Addr.add; by_cases h0 : j = 0 <;> simp [h0]
    rw [e, hg.cell j]
    simpa using hj
  obtain ⟨v', w', hrun, h1, h2, _, _⟩ := run_append_own_at (P := Tryd.prog) w base 52 ty 25 i (.agg zerL) 19 80 Tryd.underlying52 hi hz hs1 hb1 rfl (by decide) _ n (flatV l) hown ⟨g, 0, none⟩ 1 1 (vmC s).toList
    (by rw [vmC_len hs]) hnews (vmC_one s) (by simp only [maxLen]; omega) (by omega) hbase
  obtain ⟨A'', c'', rfl⟩ := own_slice h1
  rw [← flatV_snoc] at h1
  have hlow : ∀ k, k < base → w'.heap[k]? = w.heap[k]? := fun k hk => h2.block k (by omega) (fun e => by have := (hown.lt k e.symm).1; omega)
  refine ⟨A'', c'', w', hrun, h1, ⟨(Below.refl _ _).grown h2 hbase fun k hk => (hown.lt k hk).1, fun j o hj ho => ?_⟩, hlow⟩
  by_cases hrow : (Value.slice A n c).ownBlock = some j
  · -- the row itself: no machine alone, or full
    rcases hown.2 with ⟨hv, _⟩ | ⟨g', cap, cur, hv, hbg, hgb, hnc, hcm, hcs, htake⟩
    · rw [hv] at hrow; simp [Value.ownBlock] at hrow
    · rw [hv] at hrow
      obtain rfl : g' = j := by simpa [Value.ownBlock] using hrow
      injection hv with hA _ hc
      have hn1 : 1 ≤ n := by
        rcases Nat.eq_zero_or_pos n with h0 | h0
        · rw [hn0 h0] at hA; cases hA
        · exact h0
      rw [hgb] at hj
      injection hj with hj
      subst hj
      rcases ho with ho | ⟨cs, t, fz, ho, h⟩
      · cases ho
      · injection ho with e1 e2 _
        subst e1 e2
        rcases h with ⟨_, h19⟩ | h | h
        · have hcap : c = 1 := by rw [hcs] at h19; omega
          subst hA hc
          obtain rfl : n = 1 := by omega
          subst hcap
          have hx := hown.1
          have hr := run_append_grow (P := Tryd.prog) w 52 ty 25 i (.agg zerL) Tryd.underlying52 hi hz ⟨g', 0, none⟩ 1 1 (flatV l) (by rw [hx, hs1]) (hown.cells (g := g') rfl) ⟨g, 0, none⟩ 1 1 (vmC s).toList (by rw [vmC_len hs, hs1]) hnews (by omega) (by omega) (growslice_fits (by omega) (by rw [hb1]; omega))
          rw [hr] at hrun
          injection hrun with _ hw
          rw [← hw]
          exact (Below.heap_alloc w.drew _ g' (Array.getElem?_eq_some_iff.1 hgb).1).trans hgb
        · exact absurd h (by decide)
        · exact absurd h (by decide)
  · exact (h2.block j (Array.getElem?_eq_some_iff.1 hj).1 fun e => hrow e.symm).trans hj
theorem wpListIn_append_vm {F : Fence} {nF : Nat} {w : World} {ops : Array Oper} {rest : List Oper} {o : Oper} {a : Act} {Q : Exit → Act → World → Prop} (hgd : o.guard = none) (s x : Operand)
    (ho : o.op = .call { callee := .builtin .append, args := #[s, x], argTypes := #[52, 52] })
    (base : Nat) (A : Option Addr) (n c : Nat) (l : List VmS) (hs : a.eval s = .slice A n c) (hown : w.ownsRow base 25 19 (.slice A n c) n (flatV l)) (hn0 : n = 0 → A = none) (g : Nat) (m : VmS) (hm : m.mem.length = 16) (hx : a.eval x = .slice (some ⟨g, 0, none⟩) 1 1) (hg : Blk w g (vmC m) 25) (hsz : n + 1 ≤ 1000) (hbase : base ≤ w.heap.size)
    (h : ∀ A'' c'' w', w'.ownsRow base 25 19 (.slice A'' (n + 1) c'') (n + 1) (flatV (l ++ [m])) → KeepV base w w' → (∀ k, k < base → w'.heap[k]? = w.heap[k]?) → wpListIn F nF Tryd.prog ops Q rest (a.put o.dst (.slice A'' (n + 1) c'')) w') :
    wpListIn F nF Tryd.prog ops Q (o :: rest) a w := by
  refine wpListIn_plain hgd fun K hK => ?_
  obtain ⟨A'', c'', w', hrun, h1, h2, h3⟩ := run_append_vm o.type base A n c l hown hn0 g m hm hg hsz hbase
  unfold Oper.wpIn
  refine ⟨by simp [Oper.about, ho, resolve, Target.leads, Sem.run_pure], ?_⟩
  rw [Oper.semAt_plain F _ _ (by rw [ho]; intro c hc'; cases hc')]
  simp [execOp, ho, resolve, invoke, builtin, hs, hx, hrun, Result.andThen]
  exact hK _ _ (h A'' c'' w' h1 h2 h3)
/-- The slice reads as these machines; they lie below block B. -/
def Rm (w : World) (B : Nat) (A : Option Addr) (l : List VmS) : Prop := ∀ k, k < l.length → ∃ g off, A = some ⟨g, off, none⟩ ∧ g < B ∧ w.rangeAt g (off + k * 19) (vmC (l.getD k vm0)).toList
theorem Rm.below {w w' : World} {B B' : Nat} {A : Option Addr} {l : List VmS} (h : Rm w B A l) (hb : Below B' w w') (hB : B ≤ B') : Rm w' B A l := fun k hk => by
  obtain ⟨g, off, e, hg, hr⟩ := h k hk
  exact ⟨g, off, e, hg, fun j v hj => (hb.cell (p := ⟨g, off + k * 19 + j, none⟩) (Nat.lt_of_lt_of_le hg hB)).trans (hr j v hj)⟩
theorem Rm.more {w : World} {B B' : Nat} {A : Option Addr} {l : List VmS} (h : Rm w B A l) (hB : B ≤ B') : Rm w B' A l := fun k hk => by
  obtain ⟨g, off, e, hg, r⟩ := h k hk
  exact ⟨g, off, e, by omega, r⟩
theorem flatV_at : ∀ (l : List VmS) (k j : Nat) (v : Value), (∀ s ∈ l, s.mem.length = 16) → k < l.length → (vmC (l.getD k vm0)).toList[j]? = some v → (flatV l)[k * 19 + j]? = some v
  | [], k, _, _, _, hk, _ => absurd hk (by simp)
  | s :: l, 0, j, v, hl, _, hj => by
    have h := vmC_len (hl s (by simp))
    have hjl : j < 19 := by
      rcases Nat.lt_or_ge j 19 with h1 | h1
      · exact h1
      · rw [show (s :: l).getD 0 vm0 = s from rfl, List.getElem?_eq_none (by omega)] at hj; cases hj
    rw [show flatV (s :: l) = (vmC s).toList ++ flatV l by simp [flatV], Nat.zero_mul, Nat.zero_add, List.getElem?_append_left (by omega)]
    exact hj
  | s :: l, k + 1, j, v, hl, hk, hj => by
    have h := vmC_len (hl s (by simp))
    rw [show flatV (s :: l) = (vmC s).toList ++ flatV l by simp [flatV], List.getElem?_append_right (by omega), h, show (k + 1) * 19 + j - 19 = k * 19 + j by omega]
    exact flatV_at l k j v (fun t ht => hl t (by simp [ht])) (by simpa using hk) hj
theorem rm_of_own {w : World} {base n c : Nat} {A : Option Addr} {l : List VmS} (h : w.ownsRow base 25 19 (.slice A n c) n (flatV l)) (hl : ∀ s ∈ l, s.mem.length = 16) (hn : n = l.length) : Rm w w.heap.size A l ∧ n ≤ c := by
  refine ⟨fun k hk => ?_, ?_⟩
  · obtain ⟨g, c', hv, hg, hcs⟩ := own_head h (by omega)
    injection hv with hA _ _
    refine ⟨g, 0, hA, hg, fun j v hj => ?_⟩
    rw [Nat.zero_add]
    exact hcs _ _ (flatV_at l k j v hl hk hj)
  · rcases h.2 with ⟨hv, h0⟩ | ⟨g, cap, cur, hv, _, _, hnc, _⟩
    · omega
    · injection hv with _ _ h3
      omega

open Go.RowKit Go.Shelf
attribute [local go_sem] Oper.semAt_some
set_option linter.unusedVariables false

theorem build_vm {s : VmS} (h : s.mem.length = 16) : Array.foldl (fun (cs : Array Value) (x : Value × Nat) => cs.setIfInBounds x.snd x.fst) (#[.int .i64 0, .int .u32 0, .int .u32 0, .int .u32 0, .int .u32 0, .int .u32 0, .int .u32 0, .int .u32 0, .int .u32 0, .int .u32 0, .int .u32 0, .int .u32 0, .int .u32 0, .int .u32 0, .int .u32 0, .int .u32 0, .int .u32 0, .int .u32 0, .int .u32 0] : Array Value) (vmC s).zipIdx 0 (vmC s).size = vmC s := by
  obtain ⟨p, a, x, mem⟩ := s
  obtain ⟨m0, m1, m2, m3, m4, m5, m6, m7, m8, m9, m10, m11, m12, m13, m14, m15, rfl⟩ := sixteen h
  unfold vmC
  rw [← mc_fold]
  simp
/-- The machines of a run. -/
def traV (f : Nat → Ins) (d : Int → Int) (n : Nat) : List VmS := (allV f d n).map (·.1)
theorem tra_len (f : Nat → Ins) (d : Int → Int) (n : Nat) : (traV f d n).length ≤ n := by unfold traV; rw [List.length_map]; exact all_len
/-- What Trace has made. -/
structure TI (w W : World) (b8 base : Nat) (l : List VmS) : Prop where
  row : ∃ A c, Boxed W b8 52 (.slice A l.length c) ∧ W.ownsRow base 25 19 (.slice A l.length c) l.length (flatV l) ∧ (l.length = 0 → A = none)
  bel : Below w.heap.size w W

set_option maxRecDepth 100000 in
set_option maxHeartbeats 4000000 in
theorem trace_ok (A : Option Addr) (m cap : Nat) (f : Nat → Ins) (d : Dat) (hd : DatOk d) (w : World) (hK : Kinds w) (hA : Ri w w.heap.size A m f) (hcap : m ≤ cap) (hM : May f m) :
    Calls Tryd.prog 16 #[.slice A m cap, datV d] w fun e w' => ∃ A' c', e = .returned (.tuple #[.slice A' (traV f (dW d) m).length c', .int .i64 0]) ∧ (traV f (dW d) m).length ≤ c' ∧ Rm w' w'.heap.size A' (traV f (dW d) m) ∧ Below w.heap.size w w' := by
  have hC := check_any A m cap f _ (hK.alloc (.cells (datC d) 51)) ((hA.below ((Below.refl _ w).alloc (Nat.le_refl _) (.cells (datC d) 51)) (Nat.le_refl _)).more (by simp))
  rw [chk_may hM] at hC
  have hm64 := hM.hi
  unfold datV
  refine (callsIn_wide (n := 6)).1 ?_
  refine callsIn_of_wp_marks Tryd.func16 rfl trivial ?_ rfl
  simp only [Tryd.ntmps16, List.size_toArray, List.length_cons, List.length_nil, Nat.reduceAdd, Nat.reduceSub, Array.replicate_succ, Array.replicate_zero, List.push_toArray, List.append_toArray, List.nil_append, List.cons_append]
  refine wpIn_wide.2 ?_
  go_wp2_with fail
  refine hC.mono ?_
  rintro e w1 ⟨rfl, b1⟩
  have kd1 := (Blk.new w (datC d) 51).below b1 (by simp)
  have B1 : Below w.heap.size w w1 := ((Below.refl _ w).alloc (Nat.le_refl _) _).trans (b1.mono (by simp))
  have hs1 := b1.size
  simp only [World.size_alloc] at hs1
  have MA := fun V => machines_any A m cap d V
  unfold datV at MA
  go_wp2_with (refine wpList_load_row rfl 51 (.tmp 3) rfl w.heap.size rfl 51 (datC d) (0, 0) _ (kd1.alloc _).blk Tryd.underlying51 rfl dat_info ?_)
  refine (MA _).mono ?_
  rintro e w2 ⟨rfl, hw2⟩
  subst w2
  go_wp2_with fail
  have hpos := hK.pos
  have bP := ((Blk.new w1 #[.slice none 0 0] 52).alloc (.cells #[.slice A m cap] 33)).alloc (.cells (datC d) 51)
  have bL := (Blk.new_ (w1.alloc (.cells #[.slice none 0 0] 52)) #[.slice A m cap] 33 (n := w1.heap.size + 1) (by simp)).alloc (.cells (datC d) 51)
  have bD := Blk.new_ ((w1.alloc (.cells #[.slice none 0 0] 52)).alloc (.cells #[.slice A m cap] 33)) (datC d) 51 (n := w1.heap.size + 1 + 1) (by simp)
  have hB0 : Below w.heap.size w (((w1.alloc (.cells #[.slice none 0 0] 52)).alloc (.cells #[.slice A m cap] 33)).alloc (.cells (datC d) 51)) := ((B1.alloc (by omega) _).alloc (by simp; omega) _).alloc (by simp; omega) _
  have hsz : (((w1.alloc (.cells #[.slice none 0 0] 52)).alloc (.cells #[.slice A m cap] 33)).alloc (.cells (datC d) 51)).heap.size = w1.heap.size + 1 + 1 + 1 := by simp
  have eL : (w1.alloc (.cells #[.slice none 0 0] 52)).heap.size = w1.heap.size + 1 := by simp
  try rw [eL]
  generalize ((w1.alloc (.cells #[.slice none 0 0] 52)).alloc (.cells #[.slice A m cap] 33)).alloc (.cells (datC d) 51) = w0 at bP bL bD hB0 hsz ⊢
  clear hC b1 kd1 MA
  have hms := machines_seq16 5 (by omega) w.heap.size (w1.heap.size + 1) (w1.heap.size + 1 + 1) m cap A f d hd hcap hM w0 (by omega) hpos (hK.below hB0 hpos) bL bD (hA.below hB0 (Nat.le_refl _))
  refine (wpIn_wide (n := 6)).1 ?_
  refine wpIn_range4 rfl (by omega) (gf := 54) (lb := #[.pointer (some ⟨w1.heap.size + 1, 0, none⟩), .pointer (some ⟨w1.heap.size + 1 + 1, 0, none⟩)]) rfl trivial (enters_of Tryd.func54 (by kernel_rfl) rfl)
    hms keepV_t (keepV_b (by omega)) (Below.refl _ _) (fun _ => rfl)
    (fun (pre : List VmX) W => TI w W w1.heap.size (w0.heap.size + 3) (pre.map (·.val.1))) ?hI ⟨⟨none, 0, bP.blk, World.ownsRow_nil _ _ _ _, fun _ => rfl⟩, hB0⟩ ?round ?done
  case hI =>
    rintro s V V' row ⟨⟨A', c', h1, h2, h3⟩, hb⟩ hg hr
    refine ⟨⟨A', c', grown_box h1 hg hr (by omega), ?_, h3⟩, hb.trans (grown_below hg hr (by omega) hb.size)⟩
    refine ⟨h2.1, ?_⟩
    rcases h2.2 with h0 | ⟨g, cp, cur, hv, hbg, hgb, r⟩
    · exact .inl h0
    · exact .inr ⟨g, cp, cur, hv, hbg, (hg.block g (Array.getElem?_eq_some_iff.1 hgb).1 (fun e => by have := hr g e.symm; omega)).trans hgb, r⟩
  case round =>
    rintro l pre ⟨⟨s, v⟩, hmem⟩ W ⟨⟨A', c', hv, hrow, hnil⟩, hB⟩ hlt hlen
    simp only at hmem
    have hsW := hB.size
    unfold vmV
    gi_wp2_with (refine wpListIn_store_blk rfl 25 (.tmp 9) (.tmp 21) rfl W.heap.size _ (vmC s) 25 rfl rfl (Blk.new_ _ _ _ rfl) (vm_z19 hmem) (mc_inf hmem) mc_one ?_; intro W1 hF1 hn1)
    have hBW : Below W.heap.size W W1 := ((Below.refl _ W).alloc (Nat.le_refl _) _).trans (hn1.below _ (Nat.le_refl _) (by simp))
    refine ⟨⟨hBW.block _ (by omega), hBW.block _ (by omega)⟩, keepV_below hBW hsW, fun o o' ho hc => ?_⟩
    have hsz1 := hBW.size
    have hln : (pre.map (fun x : VmX => x.val.1)).length ≤ 64 := by rw [List.length_map]; omega
    have elast : List.map (fun x : VmX => x.val.1) (pre ++ [⟨(s, v), hmem⟩]) = pre.map (fun x : VmX => x.val.1) ++ [s] := by simp
    rw [elast]
    generalize pre.map (fun x : VmX => x.val.1) = L at hv hrow hnil hln ⊢
    have hv2 := put_box (o' := o') (boxed_below hv hBW (by omega)) (show w1.heap.size ≠ w0.heap.size + 1 by omega)
    have hrow2 := ownsRow_putObj (ownsRow_below hrow hBW (Nat.le_refl _)) o' ho hc
    have hF2 : Blk (W1.putObj (w0.heap.size + 1) o') W.heap.size (vmC s) 25 := ⟨(World.putObj_heap_other (by omega)).trans hF1.blk⟩
    have hK2 : (W1.putObj (w0.heap.size + 1) o').heap[w0.heap.size + 1]? = some o' := World.putObj_heap_same (by omega)
    have hB2 : Below w.heap.size w (W1.putObj (w0.heap.size + 1) o') := run_finish (by omega) (hB.trans (hBW.mono hsW)) o o' ho
    have hD2 : (W1.putObj (w0.heap.size + 1) o').heap[w0.heap.size]? = W1.heap[w0.heap.size]? := World.putObj_heap_other (by omega)
    have hs2 : (W1.putObj (w0.heap.size + 1) o').heap.size = W1.heap.size := by simp
    generalize W1.putObj (w0.heap.size + 1) o' = W2 at hv2 hrow2 hF2 hK2 hB2 hD2 hs2 ⊢
    have hcell := hv2.cell
    have hlow : w0.heap.size + 3 ≤ W2.heap.size := by omega
    rw [hsz] at hD2 hK2
    clear hv hrow hF1 hn1 ho hB hBW
    try simp only [Act.put]
    have hfold := build_vm hmem
    have hsz19 : (vmC s).size = 19 := mc_size hmem
    rw [hsz19] at hfold
    have ba : Below W2.heap.size W2 (W2.alloc (.cells (vmC s) 25)) := (Below.refl _ _).alloc (Nat.le_refl _) _
    have hrow3 := ownsRow_below hrow2 ba (Nat.le_refl _)
    have hv3 := boxed_below hv2 ba (by omega)
    have hF3 := Blk.new W2 (vmC s) 25
    clear hs2
    gi_wp2_with (first
      | (refine wpListIn_load_row rfl 25 (.tmp 9) rfl W.heap.size rfl 25 (vmC s) (0, 0) _ hF2.blk Tryd.underlying25 rfl (mc_inf hmem) ?_)
      | (gi_at_builtin; refine wpListIn_append_vm rfl (.tmp 23) (.tmp 25) rfl (w0.heap.size + 3) A' L.length c' L rfl hrow3 hnil W2.heap.size s hmem rfl hF3 (by omega) (by simp; omega) ?_; intro A2 c2 w2 how2 hk2 hlow2; have hv4 : Boxed w2 w1.heap.size 52 (.slice A' L.length c') := (hlow2 _ (by omega)).trans hv3; have hc4 := hv4.cell; have hf4 := hv4.frozen))
    have hoth : ∀ u k, k ≠ w1.heap.size → k < W2.heap.size → k < w0.heap.size + 3 → (w2.setCell ⟨w1.heap.size, 0, none⟩ u).heap[k]? = W2.heap[k]? := fun u k hk hl hl3 => (Below.heap_setCell w2 ⟨w1.heap.size, 0, none⟩ u k hk).trans ((hlow2 k hl3).trans (ba.block k hl))
    have hkp : KeepV w.heap.size W2 (w2.setCell ⟨w1.heap.size, 0, none⟩ (.slice A2 (L.length + 1) c2)) := keepV_t (keepV_below ba (by omega)) (keepV_t (hk2.mono (by omega)) (keepV_set hv4 (by omega) (by decide) (by decide) (by decide)))
    refine ⟨⟨(hoth _ _ (by omega) (by omega) (by omega)).trans hD2, (hoth _ _ (by omega) (by omega) (by omega)).trans hK2⟩, hkp, ⟨⟨A2, c2, ?_, ?_, fun h => by simp at h⟩, hB2.trans hkp.1⟩⟩
    · rw [List.length_append]
      exact hv4.set _
    · rw [List.length_append, ← hsz]
      exact own_far how2 (p := ⟨w1.heap.size, 0, none⟩) (by simp; omega) _
  case done =>
    rintro ys W hys ⟨⟨A', c', hv, hrow, hnil⟩, hB⟩ hD
    have hl : ys.map (·.val.1) = traV f (dW d) m := by unfold traV; rw [← hys, List.map_map]; rfl
    rw [hl] at hv hrow
    have h16 : ∀ s ∈ traV f (dW d) m, s.mem.length = 16 := fun s hs => by
      rw [← hl] at hs
      obtain ⟨x, _, rfl⟩ := List.mem_map.1 hs
      exact x.property
    have hc := hv.cell
    go_wp2_with fail
    refine ⟨by simp, .inl ⟨_, _, rfl, run_takeDeferred hD, ?_⟩⟩
    have hr' := ownsRow_putObj hrow (.deferred none) hD rfl
    obtain ⟨h1, h2⟩ := rm_of_own hr' h16 rfl
    exact ⟨_, results_tmp2 rfl _ _ _, A', c', rfl, h2, h1, run_finish (by omega) hB _ _ hD⟩

set_option maxHeartbeats 1000000 in
theorem trace_no (A : Option Addr) (m cap : Nat) (f : Nat → Ins) (d : Dat) (w : World) (hK : Kinds w) (hA : Ri w w.heap.size A m f) (r1 r2 : Int) (hr : chkI f m = (r1, r2)) (h0 : ¬ r2 = 0) :
    Calls Tryd.prog 16 #[.slice A m cap, datV d] w fun e w' => e = .returned (.tuple #[.slice none 0 0, .int .i64 r2]) ∧ Below w.heap.size w w' := by
  have hC := check_any A m cap f _ (hK.alloc (.cells (datC d) 51)) ((hA.below ((Below.refl _ w).alloc (Nat.le_refl _) (.cells (datC d) 51)) (Nat.le_refl _)).more (by simp))
  rw [hr] at hC
  clear hr
  unfold datV
  go_enter Tryd.func16, Tryd.ntmps16
  go_wp2_with fail
  refine hC.mono ?_
  rintro e w1 ⟨rfl, b1⟩
  go_wp2_with fail
  go_ret2
  exact ⟨rfl, ((Below.refl _ w).alloc (Nat.le_refl _) _).trans (b1.mono (by simp))⟩
end Go.Proofs.YtejhamkmfnfmoaaDoor

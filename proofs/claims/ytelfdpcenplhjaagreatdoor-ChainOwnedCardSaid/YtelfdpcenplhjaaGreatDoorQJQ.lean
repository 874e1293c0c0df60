/-
  PlEv, PlEw, PlWp, PlTp: in one file.
-/
import Derived.Test.YtelfdpcenplhjaaGreatDoorQJD
import Derived.Test.YtelfdpcenplhjaaGreatDoorQRange7
import Derived.Test.YtelfdpcenplhjaaGreatDoorQHaD
import Derived.Test.YtelfdpcenplhjaaGreatDoorQPlZ
import Derived.Test.YtelfdpcenplhjaaGreatDoorQJN
import Derived.Test.YtelfdpcenplhjaaGreatDoorQBmW
import Derived.Test.YtelfdpcenplhjaaGreatDoorQVmF
import Derived.Test.YtelfdpcenplhjaaGreatDoorQAluU
import Derived.WalkSmall
namespace Go.Proofs.YtelfdpcenplhjaaGreatDoor
open Go.RowKit Go.Shelf
attribute [local go_sem] Oper.semAt_some
set_option linter.unusedVariables false
set_option linter.unusedSimpArgs false
def wordN (d : Dat) (x : Nm) : Int := retV (gF x.g) (dW d) x.g.length
theorem roundIn_any {n m l lp : Nat} {P : Program} {f : FuncId} {tmps : Array Value} {assign body : Code} {w : World} {R : Ending → World → Prop} (h : RoundIn Fence.wide n P l f tmps assign body w R) : RoundIn (Fence.wide.inRound lp) m P l f tmps assign body w R :=
  ⟨h.1, fun c cs _ => h.2 c cs (room_wide _)⟩
theorem FromB.nodes {B B' : Nat} {X Y : World} (h : FromB B X Y) (hB : B ≤ B') : NodesFrom B' X Y := fun k cs hk hb => ⟨(h.block k (Nat.le_trans hB hk) hb.lt).trans hb.blk⟩
theorem FromB.keeps {B B' : Nat} {X Y : World} (h : FromB B X Y) (hB : B ≤ B') : KeepsFrom B' X Y := ⟨h.size, fun k o hk h0 _ => (h.block k (Nat.le_trans hB hk) (Array.getElem?_eq_some_iff.1 h0).1).trans h0⟩
theorem FromB.blk {B g : Nat} {X Y : World} {cs : Array Value} {t : TypeId} (h : FromB B X Y) (hb : Blk X g cs t) (hg : B ≤ g) : Blk Y g cs t := ⟨(h.block g hg hb.lt).trans hb.blk⟩
structure EvI (d : Dat) (w : World) (n₀ g3 l : Nat) (U : List Nl) (J : List W32 → World → Prop) (hw : ∀ x ∈ U, 0 ≤ wordN d x.1 ∧ wordN d x.1 < 4294967296) (pre : List (Nu w n₀ U)) (V : World) : Prop where
  j : J (pre.map fun x => ⟨wordN d x.1.1, hw x.1 x.2.2⟩) V
  k : Blk V g3 #[.func (.yield l) #[] #[]] 128
  b : Below n₀ w V
  s : g3 < V.heap.size
set_option maxRecDepth 100000 in
set_option maxHeartbeats 4000000 in
theorem returned_seq (gfl gd gp gi m c : Nat) (A : Option Addr) (L U : List Nl) (id : Int) (d : Dat) (hd : DatOk d) (n₀ : Nat) (w : World) (hK : Kinds w) (hk0 : 1 < n₀) (hn₀ : n₀ ≤ w.heap.size)
    (hP : Po w n₀ A L) (hP0 : ∀ x ∈ L, Nr w n₀ x) (kf : Boxed w gfl 93 (.func (.func 97) #[] #[.pointer (some ⟨gp, 0, none⟩), .pointer (some ⟨gi, 0, none⟩)])) (kd : Blk w gd (datC d) 64)
    (bp : Boxed w gp 24 (.slice A m c)) (bi : Boxed w gi 3 (.int .i64 id)) (hm : m = L.length) (hmc : m ≤ c) (h6 : m ≤ 1000000) (hgf : gfl < n₀) (hgd : gd < n₀) (hgp : gp < n₀) (hgi : gi < n₀) (hU : Up L id U)
    (hM : ∀ x ∈ U, May (gF x.1.g) x.1.g.length) (hw : ∀ x ∈ U, 0 ≤ wordN d x.1 ∧ wordN d x.1 < 4294967296) :
    SeqN Fence.wide 5 Tryz.prog 86 #[.pointer (some ⟨gfl, 0, none⟩), .pointer (some ⟨gd, 0, none⟩)] (fun x : W32 => #[.int .u32 x.1]) n₀ (fun xs => xs.map (·.1) = U.map fun x => wordN d x.1) U.length w := by
  intro l J W hW hJ hY h0
  have HM := Lib.hid hm
  have HY := Lib.hid hY
  have HJ := Lib.hid hJ
  clear hm hY
  have kfW := boxed_below kf hW hgf
  have kdW := kd.below hW hgd
  have hnW : n₀ ≤ W.heap.size := Nat.le_trans hn₀ hW.size
  have k3 := Blk.new W #[.func (.yield l) #[] #[]] 128
  have ba : Below W.heap.size W (W.alloc (.cells #[.func (.yield l) #[] #[]] 128)) := (Below.refl _ _).alloc (Nat.le_refl _) _
  have hJ1 := hJ [] W _ none h0 (grown_of_below ba) (fun r e => by cases e)
  have hB1 : Below n₀ w (W.alloc (.cells #[.func (.yield l) #[] #[]] 128)) := hW.trans (ba.mono hnW)
  have c1 := (boxed_below kfW ba kfW.lt).cell
  clear hJ
  refine callsIn_of_wp_marks Tryz.func86 rfl trivial ?_ rfl
  simp only [Tryz.ntmps86, List.size_toArray, List.length_cons, List.length_nil, Nat.reduceAdd, Nat.reduceSub, Array.replicate_succ, Array.replicate_zero, List.push_toArray, List.append_toArray, List.nil_append, List.cons_append]
  gi_wp2
  show Code.wpIn _ _ _ _ _ _ (W.alloc (.cells #[.func (.yield l) #[] #[]] 128))
  have hs2 : W.heap.size < (W.alloc (.cells #[.func (.yield l) #[] #[]] 128)).heap.size := k3.lt
  generalize W.alloc (.cells #[.func (.yield l) #[] #[]] 128) = w2 at k3 ba hJ1 hB1 c1 hs2 ⊢
  have hseq := upward3_seq 4 (by omega) w n₀ gp gi m c A L U id w2 hB1 (hP.below hB1 (Nat.le_refl _)) hP0 (boxed_below bp hB1 hgp) (boxed_below bi hB1 hgi) HM.out hmc h6 hgp hgi (Nat.le_trans hnW ba.size) hU w2.heap.size (Nat.le_refl _)
  refine wpIn_rangeFunc_ownH rfl (by omega) (gf := 97) (lb := #[.pointer (some ⟨gp, 0, none⟩), .pointer (some ⟨gi, 0, none⟩)]) rfl trivial (enters_of Tryz.func97 (by kernel_rfl) rfl) hseq (fun h k => ⟨h.1.trans k.1, h.2.trans k.2⟩) (fun W' l o o' hl h hc hw' => ⟨(belowK_b (w := w2) (Nat.le_refl _) W' l o o' hl h hc hw').mono (Nat.le_trans hnW ba.size), nodes_put W' l o o' h hc⟩) (Below.refl _ _) (fun _ => rfl)
    (EvI d w n₀ W.heap.size l U J hw) (fun _ _ _ => False) ?hI ?hIx ⟨hJ1, k3, hB1, hs2⟩
    (fun x a' V => ∃ g, a' = { tmps := #[.func (.yield l) #[] #[], .pointer (some ⟨gfl, 0, none⟩), .pointer (some ⟨gd, 0, none⟩), .pointer (some ⟨W.heap.size, 0, none⟩), .pointer (some ⟨g, 0, none⟩), undef, undef, .func (.func 97) #[] #[.pointer (some ⟨gp, 0, none⟩), .pointer (some ⟨gi, 0, none⟩)], ndV x.1, undef, undef, undef, undef, undef, undef, undef, undef, undef, undef, undef], defers := [] } ∧ Blk V g (ndC x.1) 46 ∧ W.heap.size < g)
    ?hAx ?assign ?body ?done ?stop
  case hI =>
    rintro s X Y row ⟨hj, hk, hb, hs⟩ hg hr
    exact ⟨HJ.out _ _ _ row hj hg (fun r e => by have := (hr r e).1; omega), blk_own hk hg (fun r e => (hr r e).2), hb.grown hg (Nat.le_trans hn₀ hb.size) (fun k e => by have := (hr k e).1; omega), Nat.lt_of_lt_of_le hs hg.size⟩
  case hIx => exact fun cd => Own.from (fun s A B row hs hg hr => hs) _
  case hAx =>
    intro x a'
    exact Own.from (fun s A B row hs hg hr => by obtain ⟨g, e, hb, hl⟩ := hs; exact ⟨g, e, blk_own hb hg hr, hl⟩) _
  case assign =>
    rintro lp pre x V K ⟨hj, hk, hb, hs⟩ hK
    gi_wp2_with (refine wpListIn_store_blk rfl 46 (.tmp 4) (.tmp 8) rfl V.heap.size (ndC nl0) (ndC x.1) 46 rfl rfl (Blk.new _ _ _) rfl (nd_inf x.1) (nd_one x.1) ?_
                 intro V3 hw3 hn3
                 have bb : Below V.heap.size V V3 := ((Below.refl _ V).alloc (Nat.le_refl _) _).trans (hn3.below _ (Nat.le_refl _) (by simp)))
    exact hK _ _ ((keeps_below bb).from _) ⟨bb.mono (Nat.le_trans hn₀ hb.size), nodes_below bb⟩ ⟨HJ.out _ _ _ none hj (grown_of_below bb) (fun r e => by cases e), hk.below bb hk.lt, hb.trans (bb.mono (Nat.le_trans hn₀ hb.size)), Nat.lt_of_lt_of_le hs bb.size⟩ ⟨V.heap.size, rfl, hw3, hs⟩
  case body =>
    rintro lp pre x a' V hwl _ ⟨hj, hk, hb, hs⟩ ⟨g, rfl, hg, hgl⟩ hpl
    have hx := x.2.1.below hb (Nat.le_refl _)
    have hnV := Nat.le_trans hn₀ hb.size
    have q2 : V.cell? ⟨g, 2, none⟩ = some (.slice x.1.2.1 x.1.1.g.length x.1.2.2) := hg.cell 2
    have kdV := kd.below hb hgd
    have RN := CallsIn.inRound lp (callsIn_wide (n := 2) |>.2 (run_ok x.1.2.1 x.1.1.g.length x.1.2.2 (gF x.1.1.g) d hd V (hK.below hb hk0) (hx.ri.more hnV) hx.le (hM x.1 x.2.2)))
    have hwd : retV (gF x.1.1.g) (dW d) x.1.1.g.length = wordN d x.1.1 := rfl
    rw [hwd] at RN
    unfold datV at RN
    clear hwd
    gi_wp2_with (refine wpListIn_load_row rfl 64 (.tmp 2) rfl gd rfl 64 (datC d) (0, 0) _ kdV.blk Tryz.underlying64 rfl dat_info ?_)
    refine ⟨trivial, RN.mono ?_⟩
    rintro e V1 ⟨rfl, b1⟩
    have hj1 := HJ.out _ _ _ none hj (grown_of_below b1) (fun r e => by cases e)
    have hk1 := hk.below b1 hk.lt
    have hb1 := hb.trans (b1.mono hnV)
    have hs1 := Nat.lt_of_lt_of_le hs b1.size
    obtain ⟨fn, tmps, assign, body, hy, hRd⟩ := HY.out _ ⟨wordN d x.1.1, hw x.1 x.2.2⟩ V1 hj1 (Nat.le_of_lt hs1) (by simpa using hpl)
    have c3 : V1.cell? ⟨W.heap.size, 0, none⟩ = some (.func (.yield l) #[] #[]) := hk1.cell 0
    have hRI := roundIn_any (m := 2) (lp := lp) hRd
    clear hRd
    gi_wp2
    refine hRI.mono ?_
    rintro e V3 ⟨rfl, hj3, hb3, hf3⟩
    gi_wp2
    refine ⟨(keeps_below b1 |>.from _).trans (hf3.keeps (by omega)), ⟨(b1.mono hnV).trans hb3, (nodes_below b1).trans (hf3.nodes (by omega))⟩, ⟨by rw [List.map_append]; exact hj3, hf3.blk hk1 (Nat.le_refl _), hb1.trans hb3, Nat.lt_of_lt_of_le hs1 hf3.size⟩⟩
  case done =>
    rintro D xs V hD hS ⟨hj, hk, hb, hs⟩ hKD
    gi_wp2
    refine ⟨by simp, .inl ⟨_, _, rfl, run_takeDeferred hKD, ?_⟩⟩
    refine ⟨_, by simp [results, Tryz.f86, go_sem]; rfl, ?_⟩
    refine ⟨⟨_, rfl⟩, _, ?_, HJ.out _ _ _ (some D) hj (grownBy_putObj' V D _) (fun r e => by cases e; omega)⟩
    have e : ((xs.map fun x => (⟨wordN d x.1.1, hw x.1 x.2.2⟩ : W32)).map (·.1)) = (xs.map (·.1)).map fun x => wordN d x.1 := by
      rw [List.map_map, List.map_map]
      rfl
    exact e.trans (congrArg (List.map fun x : Nl => wordN d x.1) hS)
  case stop =>
    rintro D cd pre V hD _ hF
    exact hF.elim
end Go.Proofs.YtelfdpcenplhjaaGreatDoor
namespace Go.Proofs.YtelfdpcenplhjaaGreatDoor
open Go.RowKit Go.Shelf
attribute [local go_sem] Oper.semAt_some
set_option linter.unusedVariables false
set_option linter.unusedSimpArgs false
theorem step_bd {q : Ins} {d : Int → Int} {s s' : VmS} {r : Int} (hq : insO q) (hs : VmOk s) (h : stepV alI hdI q d s = (some r, s')) : U32 r := by
  unfold stepV at h
  obtain ⟨c, y, z, k⟩ := q
  by_cases c6 : c = 6
  · rw [if_pos c6] at h
    injection h with h _
    cases h
    have : InsOk c y z k := hq
    exact ⟨this.k0, this.k1⟩
  rw [if_neg c6] at h
  by_cases c22 : c = 22
  · rw [if_pos c22] at h
    injection h with h _
    cases h
    exact hs.a
  rw [if_neg c22] at h
  by_cases c5 : c = 5
  · rw [if_pos c5] at h
    injection h with h _
    cases h
  rw [if_neg c5] at h
  simp only at h
  split at h
  · injection h with h _
    cases h
  · split at h
    · injection h with h _
      cases h
    · injection h with h _
      cases h
      exact ⟨by decide, by decide⟩
theorem pair_bd {f : Nat → Ins} {d : Int → Int} {n : Nat} (hM : May f n) (ho : ∀ i, i < n → insO (f i)) (hd : ∀ o, U32 (d o)) : ∀ (k : Nat) (s : VmS), s.pc < n → VmOk s → ∀ p ∈ pairV f d k s, U32 p.2 := by
  intro k
  induction k with
  | zero => intro s _ _ p hp; simp [pairV] at hp
  | succ k ih =>
    intro s hs hok p hp
    unfold pairV at hp
    cases hst : stepV alI hdI (f s.pc) d s with
    | mk r s' =>
      rw [hst] at hp
      cases r with
      | some r =>
        simp at hp
        subst hp
        exact step_bd (ho _ hs) hok hst
      | none =>
        simp at hp
        rcases hp with rfl | hp
        · exact ⟨Int.le_refl 0, by show (0 : Int) ≤ 4294967295; decide⟩
        · exact ih s' (step_fwd hM ho hs hst).2 (step_ok (ho _ hs) hd hok hst) p hp
theorem ret_bd {f : Nat → Ins} {d : Int → Int} {n : Nat} (hM : May f n) (ho : ∀ i, i < n → insO (f i)) (hd : ∀ o, U32 (d o)) : U32 (retV f d n) := by
  have h := pair_bd hM ho hd (n - vm0.pc) vm0 (by have := hM.lo; exact this) vm0_ok
  unfold retV allV restV lastV
  cases hl : (pairV f d (n - vm0.pc) vm0).getLast? with
  | none => exact ⟨by decide, by decide⟩
  | some x => exact h x (List.mem_of_getLast? hl)
def evV (d : Dat) (U : List Nl) : Nat × Int := ((cmbI (U.map fun x => wordN d x.1)).1, (cmbI (U.map fun x => wordN d x.1)).2.1)
theorem returned_any (f : Fn) (bs : Array Value) (d : Dat) (w : World) :
    Calls Tryz.prog 65 #[.func f #[] bs, datV d] w fun e w' => ∃ gf gd, e = .returned (.func (.func 86) #[] #[.pointer (some ⟨gf, 0, none⟩), .pointer (some ⟨gd, 0, none⟩)]) ∧ Boxed w' gf 93 (.func f #[] bs) ∧ Blk w' gd (datC d) 64 ∧ Below w.heap.size w w' := by
  have k1 := (Blk.new w #[.func f #[] bs] 93).alloc (.cells (datC d) 64)
  have k2 := Blk.new_ (w.alloc (.cells #[.func f #[] bs] 93)) (datC d) 64 (n := w.heap.size + 1) (by simp)
  have B0 := ((Below.refl w.heap.size w).alloc (Nat.le_refl _) (.cells #[.func f #[] bs] 93)).alloc (by simp) (.cells (datC d) 64)
  unfold datV
  go_enter Tryz.func65, Tryz.ntmps65
  go_wp2_with fail
  go_ret
  exact ⟨_, _, rfl, k1.blk, k2, B0⟩
theorem up_mem {L : List Nl} {id : Int} {U : List Nl} (h : Up L id U) : ∀ x ∈ U, x ∈ L := by
  induction h with
  | nil => intro x hx; cases hx
  | cons h0 _ ih =>
    intro x hx
    rcases List.mem_cons.1 hx with rfl | hx
    · exact (idR_some h0).1
    · exact ih x hx
theorem foE_chk {L : List Nl} {id : Int} (h : foE L id = 0) : chkP L = 0 := by
  unfold foE at h
  split at h
  · assumption
  · exact h
theorem chk_may_of {L : List Nl} (hN : ∀ x ∈ L, NmOk x.1) (h : chkP L = 0) {x : Nl} (hx : x ∈ L) : May (gF x.1.g) x.1.g.length := by
  have := (chk_stand hN h x hx).2
  unfold standV at this
  simp only [Bool.and_eq_true, beq_iff_eq] at this
  exact may_chk this.1.1.1.2
theorem gF_ok {g : List Ins} (h : ∀ q ∈ g, insO q) : ∀ i, i < g.length → insO (gF g i) := by
  intro i hi
  unfold gF
  rw [show g.getD i ins0 = g[i] by simp [List.getD, hi]]
  exact h _ (List.getElem_mem hi)
theorem word_bd {L U : List Nl} {id : Int} {d : Dat} (hd : DatOk d) (hN : ∀ x ∈ L, NmOk x.1) (hck : chkP L = 0) (hU : Up L id U) : ∀ x ∈ U, 0 ≤ wordN d x.1 ∧ wordN d x.1 < 4294967296 := fun x hx => by
  have := ret_bd (chk_may_of hN hck (up_mem hU x hx)) (gF_ok (hN x (up_mem hU x hx)).g) (dW_bd d hd)
  exact ⟨this.1, by have := this.2; show retV _ _ _ < _; omega⟩
theorem eval_cs (A : Option Addr) (m c : Nat) (L U : List Nl) (id : Int) (d : Dat) (hd : DatOk d) (w : World) (hK : HK w) (hP : Po w w.heap.size A L) (hm : m = L.length) (hmc : m ≤ c) (h6 : m ≤ 1000000) (hck : chkP L = 0) (hU : Up L id U) (gf gd gp gi : Nat)
    (kf : Boxed w gf 93 (.func (.func 97) #[] #[.pointer (some ⟨gp, 0, none⟩), .pointer (some ⟨gi, 0, none⟩)])) (kd : Blk w gd (datC d) 64) (bp : Boxed w gp 24 (.slice A m c)) (bi : Boxed w gi 3 (.int .i64 id)) :
    Calls Tryz.prog 64 #[.func (.func 86) #[] #[.pointer (some ⟨gf, 0, none⟩), .pointer (some ⟨gd, 0, none⟩)]] w fun e w' => ∃ k, e = .returned (.tuple #[.agg #[.int .i64 (evV d U).1, .int .u16 (evV d U).2], .int .i64 k]) ∧ Below w.heap.size w w' := by
  have hN : ∀ x ∈ L, NmOk x.1 := fun x hx => (hP.nr x hx).ok
  have hWU := word_bd hd hN hck hU
  have hcw : ∀ x ∈ U.map (fun x => wordN d x.1), 0 ≤ x ∧ x < 4294967296 := fun x hx => by
    obtain ⟨y, hy, rfl⟩ := List.mem_map.1 hx
    exact hWU y hy
  have ba : Below w.heap.size w (w.alloc (.cells #[.int .i64 0, .int .u16 0] 67)) := (Below.refl _ _).alloc (Nat.le_refl _) _
  have hPa := hP.below ba (Nat.le_refl _)
  have hsz : (w.alloc (.cells #[.int .i64 0, .int .u16 0] 67)).heap.size = w.heap.size + 1 := by simp
  refine (cseq_any 86 #[.pointer (some ⟨gf, 0, none⟩), .pointer (some ⟨gd, 0, none⟩)] (U.map fun x => wordN d x.1) U.length w hK.h (up_short hN hck hU) hcw (enters_of Tryz.func86 (by kernel_rfl) rfl)
    (returned_seq gf gd gp gi m c A L U id d hd (w.heap.size + 1) (w.alloc (.cells #[.int .i64 0, .int .u16 0] 67)) (hK.below ba (Nat.le_refl _)).k (by have := hK.k.pos; omega) (by omega) (hPa.more (by omega)) (fun x hx => (hPa.more (by omega)).nr x hx) (boxed_below kf ba kf.lt) (kd.below ba kd.lt) (boxed_below bp ba bp.lt) (boxed_below bi ba bi.lt) hm hmc h6
      (by have := kf.lt; omega) (by have := kd.lt; omega) (by have := bp.lt; omega) (by have := bi.lt; omega) hU (fun x hx => chk_may_of hN hck (up_mem hU x hx)) hWU)).mono ?_
  rintro e w' ⟨rfl, bb⟩
  exact ⟨_, rfl, bb⟩
set_option maxRecDepth 100000 in
set_option maxHeartbeats 4000000 in
theorem eval_any (A : Option Addr) (m c : Nat) (L : List Nl) (id : Int) (d : Dat) (hd : DatOk d) (w : World) (hK : HK w) (hP : Po w w.heap.size A L) (hm : m = L.length) (hmc : m ≤ c) (h6 : m ≤ 1000000) :
    Calls Tryz.prog 29 #[poV A m c, .int .i64 id, datV d] w fun e w' =>
      ∃ (v : Nat × Int), e = .returned (.tuple #[.agg #[.int .i64 v.1, .int .u16 v.2], .int .i64 (foE L id)]) ∧ Below w.heap.size w w' ∧ (¬ foE L id = 0 → v = (0, 0)) ∧ (foE L id = 0 → ∃ U, Up L id U ∧ v = evV d U) := by
  have k3 := ((Blk.new w #[.slice A m c] 24).alloc (.cells (datC d) 64)).alloc (.cells #[.int .i64 0, .int .u16 0] 67)
  have k5 := (Blk.new_ (w.alloc (.cells #[.slice A m c] 24)) (datC d) 64 (n := w.heap.size + 1) (by simp)).alloc (.cells #[.int .i64 0, .int .u16 0] 67)
  have k6 := Blk.new_ ((w.alloc (.cells #[.slice A m c] 24)).alloc (.cells (datC d) 64)) #[.int .i64 0, .int .u16 0] 67 (n := w.heap.size + 1 + 1) (by simp)
  have B0 := (((Below.refl w.heap.size w).alloc (Nat.le_refl _) (.cells #[.slice A m c] 24)).alloc (by simp) (.cells (datC d) 64)).alloc (by simp; omega) (.cells #[.int .i64 0, .int .u16 0] 67)
  have FO := filtersOf_any A m c L id _ (hK.below B0 (Nat.le_refl _)).k ((hP.below B0 (Nat.le_refl _)).more B0.size) hm hmc h6
  have HM := Lib.hid hm
  clear hm
  unfold poV at FO ⊢
  unfold datV
  go_enter Tryz.func29, Tryz.ntmps29
  go_wp2_with (refine wpList_load_row rfl 24 (.tmp 3) rfl w.heap.size rfl 24 #[.slice A m c] (0, 0) _ k3.blk Tryz.underlying24 rfl (po_info A m c) ?_)
  refine FO.mono ?_
  rintro e w1 ⟨v, r, rfl, hr, hv, bb⟩
  have b1 := B0.trans (bb.mono B0.size)
  have k51 := k5.below bb k5.lt
  have k61 := k6.below bb k6.lt
  clear bb B0 k3 k5 k6
  have HR := Lib.hid hr
  have HV := Lib.hid hv
  clear hr hv FO
  by_cases h0 : r = 0
  · obtain ⟨gp, gi, rfl, kp, ki⟩ := HV.out h0
    clear HV
    subst h0
    have hfo := HR.out.symm
    have hck := foE_chk hfo
    have hN : ∀ x ∈ L, NmOk x.1 := fun x hx => (hP.nr x hx).ok
    obtain ⟨U, hU⟩ : ∃ U, Up L id U := chk_up hN hck id
    have HF := Lib.hid hfo
    have RT := Lib.hid (returned_any (.func 97) #[.pointer (some ⟨gp, 0, none⟩), .pointer (some ⟨gi, 0, none⟩)] d w1)
    have CS := Lib.hid (fun w2 (hb : Below w1.heap.size w1 w2) gf gd kf kd => eval_cs A m c L U id d hd w2 ((hK.below b1 (Nat.le_refl _)).below hb (Nat.le_refl _)) (((hP.below b1 (Nat.le_refl _)).more b1.size).below hb (Nat.le_refl _) |>.more hb.size) HM.out hmc h6 hck hU gf gd gp gi kf kd (boxed_below kp hb kp.lt) (boxed_below ki hb ki.lt))
    clear hfo hck hN
    unfold datV at RT
    obtain ⟨v, hv⟩ : ∃ v, evV d U = v := ⟨_, rfl⟩
    rw [hv] at CS
    have HEV := Lib.hid hv
    clear hv
    go_wp2_with (first
      | (refine wpList_load_row rfl 64 (.tmp 5) rfl (w.heap.size + 1) rfl 64 (datC d) (0, 0) _ k51.blk Tryz.underlying64 rfl dat_info ?_)
      | (refine RT.out.mono ?_
         clear RT
         rintro e w2 ⟨gf, gd, rfl, kf, kd, bb⟩
         have hcs := CS.out w2 bb gf gd kf kd
         have b2 := b1.trans (bb.mono b1.size)
         have k62 := k61.below bb k61.lt
         clear bb CS
         go_wp2_with (first
           | (refine hcs.mono ?_
              clear hcs
              rintro e w3 ⟨kk, rfl, bb⟩
              have b3 := b2.trans (bb.mono b2.size)
              have k63 := k62.below bb k62.lt
              clear bb
              go_wp2_with (first
                | (refine wpList_store_blk rfl 67 (.tmp 10) (.tmp 27) rfl w3.heap.size #[.int .i64 0, .int .u16 0] #[.int .i64 v.1, .int .u16 v.2] 67 rfl rfl (Blk.new _ _ _) rfl ver_info (by simp [Value.oneCell']) ?_
                   intro w4 k10 n4
                   have bb : Below w3.heap.size w3 w4 := ((Below.refl _ w3).alloc (Nat.le_refl _) _).trans (n4.below _ (Nat.le_refl _) (by simp))
                   have b4 := b3.trans (bb.mono b3.size)
                   have k64 := k63.below bb k63.lt
                   clear bb n4)
                | (refine wpList_load_row rfl 67 (.tmp 10) rfl w3.heap.size rfl 67 #[.int .i64 v.1, .int .u16 v.2] (0, 0) _ k10.blk Tryz.underlying67 rfl ver_info ?_)
                | (refine wpList_store_blk rfl 67 (.tmp 6) (.tmp 29) rfl (w.heap.size + 1 + 1) #[.int .i64 0, .int .u16 0] #[.int .i64 v.1, .int .u16 v.2] 67 rfl rfl k64 rfl ver_info (by simp [Value.oneCell']) ?_
                   intro w5 h5 n5))))))
    refine bodyPost_ret (results_row_tmp rfl _ _ (w.heap.size + 1 + 1) 67 #[.int .i64 v.1, .int .u16 v.2] (0, 0) _ rfl h5.blk Tryz.underlying67 rfl ver_info _ rfl) rfl ?_
    exact ⟨v, by rw [HF.out]; rfl, b4.trans (n5.below _ (by omega) b4.size), fun h => absurd HF.out h, fun _ => ⟨U, hU, HEV.out.symm⟩⟩
  · have hne : (r != 0) = true := by simpa using h0
    have HN := Lib.hid h0
    clear h0
    go_wp2_with (refine wpList_store_blk rfl 67 (.tmp 6) (.tmp 20) rfl (w.heap.size + 1 + 1) #[.int .i64 0, .int .u16 0] #[.int .i64 0, .int .u16 0] 67 rfl rfl k61 rfl ver_info (by simp [Value.oneCell']) ?_
                 intro w5 h5 n5)
    refine bodyPost_ret (results_row_tmp rfl _ _ (w.heap.size + 1 + 1) 67 #[.int .i64 0, .int .u16 0] (0, 0) _ rfl h5.blk Tryz.underlying67 rfl ver_info _ rfl) rfl ?_
    exact ⟨(0, 0), by rw [← HR.out]; rfl, b1.trans (n5.below _ (by omega) b1.size), fun _ => rfl, fun h => absurd (HR.out.trans h) HN.out⟩
end Go.Proofs.YtelfdpcenplhjaaGreatDoor
namespace Go.Proofs.YtelfdpcenplhjaaGreatDoor
open Go.RowKit Go.Shelf
set_option linter.unusedVariables false
set_option linter.unusedSimpArgs false
def gA : List Ins := [(6, 0, 0, 2147418112)]
def gK : List Ins := [(6, 0, 0, 0)]
def nA (o t : Int) : Nm := ⟨1, 0, gA, 5, 1, o, t⟩
def nB (o t : Int) : Nm := ⟨2, 1, gK, 10, 1, o, t⟩
theorem wk_e1 : freshE [] 0 gA = 0 := by kernel_rfl
theorem wk_n1 : freshN [] 0 gA = nA (bitG gA 3221225534) (bitG gA 1073741827) := by
  unfold freshN
  rw [if_pos wk_e1]
  rfl
theorem wk_c1 (o t : Int) : chkP [(nA o t, loc0)] = 0 := by rfl
theorem wk_e2 (o t : Int) : freshE [(nA o t, loc0)] 1 gK = 0 := by rfl
theorem wk_n2 (o t : Int) : freshN [(nA o t, loc0)] 1 gK = nB (bitG gK 3221225534) (bitG gK 1073741827) := by
  unfold freshN
  rw [if_pos (wk_e2 o t)]
  rfl
theorem wk_c2 (o t o' t' : Int) : chkP [(nA o t, loc0), (nB o' t', loc0)] = 0 := by rfl
theorem wk_g2 (o t o' t' : Int) : giveE [(nA o t, loc0), (nB o' t', loc0)] 2 = 0 := by rfl
theorem wk_wA (o t : Int) : wordN dat0 (nA o t) = 2147418112 := by rfl
theorem wk_wB (o t : Int) : wordN dat0 (nB o t) = 0 := by rfl
theorem wk_v2 : (cmbI [0, 2147418112]).1 = 1 := by kernel_rfl
theorem wk_v1 : (cmbI [2147418112]).1 = 7 := by kernel_rfl
theorem names_one {L : List Nl} {x : Nm} (h : L.map (·.1) = [x]) : ∃ l, L = [(x, l)] := by
  match L, h with
  | [(y, l)], h => simp at h; subst h; exact ⟨l, rfl⟩
theorem names_two {L : List Nl} {x y : Nm} (h : L.map (·.1) = [x, y]) : ∃ l l', L = [(x, l), (y, l')] := by
  match L, h with
  | [(a, l), (b, l')], h => simp at h; obtain ⟨rfl, rfl⟩ := h; exact ⟨l, l', rfl⟩
theorem wk_up2 (o t o' t' : Int) (l l' : Loc) : Up [(nA o t, l), (nB o' t', l')] 2 [(nB o' t', l'), (nA o t, l)] := .cons rfl (.cons rfl (.nil rfl))
theorem wk_up1 (o t o' t' : Int) (l l' : Loc) : Up [(nA o t, l), (nB o' t', l')] 1 [(nA o t, l)] := .cons rfl (.nil rfl)
theorem wk_ev2 (o t o' t' : Int) (l l' : Loc) {U : List Nl} (h : Up [(nA o t, l), (nB o' t', l')] 2 U) : (evV dat0 U).1 = 1 := by
  rw [up_det h (wk_up2 o t o' t' l l')]
  show (cmbI [wordN dat0 (nB o' t'), wordN dat0 (nA o t)]).1 = 1
  rw [wk_wA, wk_wB]
  exact wk_v2
theorem wk_ev1 (o t o' t' : Int) (l l' : Loc) {U : List Nl} (h : Up [(nA o t, l), (nB o' t', l')] 1 U) : (evV dat0 U).1 = 7 := by
  rw [up_det h (wk_up1 o t o' t' l l')]
  show (cmbI [wordN dat0 (nA o t)]).1 = 7
  rw [wk_wA]
  exact wk_v1
theorem wk_add1 {w w' : World} {e : Ending} (h : AddO w [] 0 gA e w') : ∃ o t A2 c2 l, No w' w.heap.size A2 1 c2 [(nA o t, l)] ∧ e = .returned (.tuple #[poV A2 1 c2, .int .i64 1, .int .i64 0]) ∧ Below w.heap.size w w' := by
  obtain ⟨hb, ⟨h1, _⟩ | ⟨_, h1, _⟩ | ⟨_, _, k, A2, c2, L2, hk, hkl, hn, hN, he⟩⟩ := h
  · exact absurd rfl h1
  · exact absurd wk_e1 h1
  · rw [wk_n1] at hn hk he
    have hk0 : k = 0 := by have : (1 : Int) = (k : Nat) + 1 := hk; omega
    subst hk0
    obtain ⟨l, rfl⟩ := names_one (x := nA (bitG gA 3221225534) (bitG gA 1073741827)) (by simpa [insM] using hn)
    exact ⟨_, _, A2, c2, l, hN, he, hb⟩
theorem wk_add2 {w w' : World} {e : Ending} {o t : Int} {l : Loc} (h : AddO w [(nA o t, l)] 1 gK e w') : ∃ o' t' A2 c2 l1 l2, No w' w.heap.size A2 2 c2 [(nA o t, l1), (nB o' t', l2)] ∧ e = .returned (.tuple #[poV A2 2 c2, .int .i64 2, .int .i64 0]) ∧ Below w.heap.size w w' := by
  have hc : chkP [(nA o t, l)] = 0 := (chkP_names (M := [(nA o t, loc0)]) rfl).trans (wk_c1 o t)
  have hE : freshE [(nA o t, l)] 1 gK = 0 := (freshE_names (M := [(nA o t, loc0)]) rfl 1 gK).trans (wk_e2 o t)
  have hF : freshN [(nA o t, l)] 1 gK = nB (bitG gK 3221225534) (bitG gK 1073741827) := (freshN_names (M := [(nA o t, loc0)]) rfl 1 gK).trans (wk_n2 o t)
  obtain ⟨hb, ⟨h1, _⟩ | ⟨_, h1, _⟩ | ⟨_, _, k, A2, c2, L2, hk, hkl, hn, hN, he⟩⟩ := h
  · exact absurd hc h1
  · exact absurd hE h1
  · rw [hF] at hn hk he
    have hk0 : k = 1 := by have : (2 : Int) = (k : Nat) + 1 := hk; omega
    subst hk0
    obtain ⟨l1, l2, rfl⟩ := names_two (x := nA o t) (y := nB (bitG gK 3221225534) (bitG gK 1073741827)) (by simpa [insM] using hn)
    exact ⟨_, _, A2, c2, l1, l2, hN, he, hb⟩
theorem wk_give {w w' : World} {e : Ending} {o t o' t' : Int} {l l' : Loc} (h : GiveO w [(nA o t, l), (nB o' t', l')] 2 e w') : ∃ G gc A2 c2, e = .returned (.tuple #[poV A2 0 c2, .slice G 2 gc, .int .i64 0]) ∧ Below w.heap.size w w' := by
  have hc : chkP [(nA o t, l), (nB o' t', l')] = 0 := (chkP_names (M := [(nA o t, loc0), (nB o' t', loc0)]) rfl).trans (wk_c2 o t o' t')
  have hg : giveE [(nA o t, l), (nB o' t', l')] 2 = 0 := (giveE_names (M := [(nA o t, loc0), (nB o' t', loc0)]) rfl 2).trans (wk_g2 o t o' t')
  obtain ⟨hb, ⟨h1, _⟩ | ⟨_, h1, _⟩ | ⟨_, _, L1, U, G, gm, gc, A2, m2, c2, L2, hn, hU, hz, hN, hl, he⟩⟩ := h
  · exact absurd hc h1
  · rw [hg] at h1; cases h1
  · obtain ⟨a, b, rfl⟩ := names_two (x := nA o t) (y := nB o' t') hn
    have hUe := up_det hU (wk_up2 o t o' t' a b)
    subst hUe
    have hgo : goneU [(nB o' t', b), (nA o t, a)] = [(nB o' t', b), (nA o t, a)] := rfl
    have hle : leftN [(nA o t, a), (nB o' t', b)] [(nB o' t', b), (nA o t, a)] = [] := rfl
    have hgm := hz.len
    rw [hgo] at hgm
    have hgm2 : gm = 2 := by simpa using hgm
    unfold GvL at hl
    rw [hle] at hl
    have hL2 : L2 = [] := by
      rcases hl with ⟨_, h⟩ | ⟨k, _, hk, _⟩
      · exact h
      · exact absurd hk (by simp)
    subst hL2
    have hm2 := hN.len
    simp at hm2
    subst hm2 hgm2
    exact ⟨G, gc, A2, c2, he, hb⟩
end Go.Proofs.YtelfdpcenplhjaaGreatDoor
namespace Go.Proofs.YtelfdpcenplhjaaGreatDoor
open Go.RowKit Go.Shelf
set_option linter.unusedVariables false
set_option linter.unusedSimpArgs false
end Go.Proofs.YtelfdpcenplhjaaGreatDoor

/-
  data.Word, data.With; the layer is awake.
-/
import Derived.Test.YtepkhkfdokinmaaDoorGD
namespace Go.Proofs.YtepkhkfdokinmaaDoor
open Go.RowKit

theorem word_index (l : List Int) (hl : l.length = 16) (k : Nat) (hk : k < 16) : ∀ w : World, (Instr.index 33 (arrV l) (.int .u32 k)).run Tryd.prog w = .ok (.int .u32 (l.getD k 0)) w := by
  match l, hl with
  | [x0, x1, x2, x3, x4, x5, x6, x7, x8, x9, x10, x11, x12, x13, x14, x15], _ =>
    match k, hk with
    | 0, _ => intro V; kernel_rfl
    | 1, _ => intro V; kernel_rfl
    | 2, _ => intro V; kernel_rfl
    | 3, _ => intro V; kernel_rfl
    | 4, _ => intro V; kernel_rfl
    | 5, _ => intro V; kernel_rfl
    | 6, _ => intro V; kernel_rfl
    | 7, _ => intro V; kernel_rfl
    | 8, _ => intro V; kernel_rfl
    | 9, _ => intro V; kernel_rfl
    | 10, _ => intro V; kernel_rfl
    | 11, _ => intro V; kernel_rfl
    | 12, _ => intro V; kernel_rfl
    | 13, _ => intro V; kernel_rfl
    | 14, _ => intro V; kernel_rfl
    | 15, _ => intro V; kernel_rfl
    | n + 16, h => exact absurd h (by omega)

theorem right_parts (o : Int) (ho : U32 o) (h : rightB o = true) : ∃ k : Nat, k < 16 ∧ o / 4 = (k : Int) ∧ o = 4 * k := by
  unfold rightB at h
  unfold U32 at ho
  simp only [decide_eq_true_eq] at h
  exact ⟨(o / 4).toNat, by omega, by omega, by omega⟩

set_option maxRecDepth 100000 in
set_option maxHeartbeats 1000000 in
theorem word_ok (d : Dat) (h : DatOk d) (o : Int) (ho : U32 o) (hr : rightB o = true) (k : Nat) (hk : k < 16) (ek : o / 4 = (k : Int)) (w : World) :
    Calls Tryd.prog 22 #[datV d, .int .u32 o] w fun e w' => e = .returned (.tuple #[.int .u32 ((wordsL d).getD k 0), .int .i64 0]) ∧ Below w.heap.size w w' := by
  have hi := word_index (wordsL d) (words_len d) k hk
  rw [← ek] at hi
  obtain ⟨x, hx⟩ : ∃ x, (wordsL d).getD k 0 = x := ⟨_, rfl⟩
  rw [hx] at hi ⊢
  have HX := Lib.hid hx
  have HK := Lib.hid ek
  have H := holds_any o ho
  rw [hr] at H
  obtain ⟨o0, o1⟩ := ho
  clear hx ek hr
  have W := fun w => words_any d h w
  unfold datV datC at W ⊢
  go_enter Tryd.func22, Tryd.ntmps22
  go_wp2_with fail
  refine (H _).mono ?_
  rintro e w' ⟨rfl, rfl⟩
  go_wp2_with fail
  refine (W _).mono ?_
  rintro e w2 ⟨rfl, b2⟩
  go_wp2_with fail
  go_ret2
  exact ⟨rfl, ((Below.refl _ _).alloc (Nat.le_refl _) _).trans (b2.mono (by simp))⟩

set_option maxRecDepth 100000 in
set_option maxHeartbeats 1000000 in
theorem word_no (d : Dat) (o : Int) (ho : U32 o) (hr : rightB o = false) (w : World) :
    Calls Tryd.prog 22 #[datV d, .int .u32 o] w fun e w' => e = .returned (.tuple #[.int .u32 0, .int .i64 2]) ∧ Below w.heap.size w w' := by
  have H := holds_any o ho
  rw [hr] at H
  clear hr
  unfold datV datC
  go_enter Tryd.func22, Tryd.ntmps22
  go_wp2_with fail
  refine (H _).mono ?_
  rintro e w' ⟨rfl, rfl⟩
  go_wp2_with fail
  go_ret2
  exact ⟨rfl, (Below.refl _ _).alloc (Nat.le_refl _) _⟩

set_option maxRecDepth 100000 in
set_option maxHeartbeats 1000000 in
theorem with_no (d : Dat) (o x : Int) (ho : U32 o) (hr : rightB o = false) (w : World) :
    Calls Tryd.prog 23 #[datV d, .int .u32 o, .int .u32 x] w fun e w' => e = .returned (.tuple #[datV dat0, .int .i64 2]) ∧ Below w.heap.size w w' := by
  have H := holds_any o ho
  rw [hr] at H
  clear hr
  unfold datV datC
  go_enter Tryd.func23, Tryd.ntmps23
  go_wp2_with fail
  refine (H _).mono ?_
  rintro e w' ⟨rfl, rfl⟩
  go_wp2_with fail
  refine bodyPost_ret (v := .tuple #[datV dat0, .int .i64 2]) (by simp [results, Tryd.f23, go_sem, datV, datC, dat0]) rfl ?_
  exact ⟨rfl, ((Below.refl _ _).alloc (Nat.le_refl _) _).alloc (by simp) _⟩

theorem arr_set (l : List Int) (k : Nat) (x : Int) : (arrC l).setIfInBounds k (.int .u32 x) = arrC (l.set k x) := by
  apply Array.ext'
  simp [arrC, List.map_set]
theorem But.blk {w w' : World} {g g' : Nat} {cs : Array Value} {t : TypeId} (h : But g w w') (k : Blk w g' cs t) (hn : g' ≠ g) : Blk w' g' cs t := ⟨(h.block g' k.lt hn).trans k.blk⟩
theorem wpList_eql_arr {ops : Array Oper} {rest : List Oper} {o : Oper} {a : Act} {w : World} {Q : Exit → Act → World → Prop} (hgd : o.guard = none) (x y : Operand) (ho : o.op = .binOp .eql 33 x y 33)
    (l l' : List Int) (hx : a.eval x = .agg (arrC l)) (hy : a.eval y = .agg (arrC l')) (hl : l.length = 16) (hl' : l'.length = 16) (b : Bool) (hb : decide (l = l') = b)
    (h : wpList Tryd.prog ops Q rest (a.put o.dst (.bool b)) w) : wpList Tryd.prog ops Q (o :: rest) a w := by
  refine wpList_plain hgd fun K hK => ?_
  have hrun := run_eql_arr l l' hl hl' w
  rw [hb] at hrun
  unfold arrV at hrun
  have hg : Tryd.prog.eqGuardType Tryd.prog.depth 33 = false := by kernel_rfl
  unfold Oper.wp execOp
  simp only [ho, hx, hy, Sem.run_bind, run_eqGuard_agg w .eql 33 x y _ _ hg, hrun, Result.andThen_ok]
  exact hK _ _ h

set_option maxRecDepth 100000 in
set_option maxHeartbeats 2000000 in
theorem with_ok (d : Dat) (h : DatOk d) (o x : Int) (ho : U32 o) (hx : U32 x) (hr : rightB o = true) (k : Nat) (hk : k < 16) (ek : o / 4 = (k : Int)) (w : World) :
    Calls Tryd.prog 23 #[datV d, .int .u32 o, .int .u32 x] w fun e w' => e = .returned (.tuple #[datV (joinD ((wordsL d).set k x)), .int .i64 0]) ∧ Below w.heap.size w w' := by
  have H := holds_any o ho
  rw [hr] at H
  obtain ⟨o0, o1⟩ := ho
  clear hr
  have W := fun w => words_any d h w
  have b0 : (0 : Int) ≤ o / 4 := by omega
  have b1 : o / 4 < 16 := by omega
  have b2' : (o / 4).toNat = k := by omega
  have EK := Lib.hid ek
  have hU : U32s ((wordsL d).set k x) := by
    intro z hz
    rcases List.mem_or_eq_of_mem_set hz with h1 | h1
    · exact words_bd d h z h1
    · subst h1; exact hx
  have hset := Lib.hid (arr_set (wordsL d) k x)
  have hone := Lib.hid (arr_one (wordsL d))
  have hinf := Lib.hid (arr_inf (wordsL d) (words_len d))
  have hlen := Lib.hid (show ((wordsL d).set k x).length = 16 by simp [words_len])
  have hinf' := Lib.hid (arr_inf ((wordsL d).set k x) hlen.out)
  have hgt := Lib.hid (arr_get (wordsL d) k (by rw [words_len]; exact hk))
  clear ek
  rw [datV_eq d] at W ⊢
  cases hq : decide ((wordsL d).set k x = wordsL d)
  all_goals
    have HQ := Lib.hid hq
    clear hq
    go_enter Tryd.func23, Tryd.ntmps23
    go_wp2_with fail
    refine (H _).mono ?_
    rintro e w' ⟨rfl, rfl⟩
    go_wp2_with fail
    refine (W _).mono ?_
    rintro e w2 ⟨rfl, b2⟩
    have k3 : Blk w2 w.heap.size (datC d) 32 := ((Blk.new w (datC d) 32).alloc _).below b2 (by simp; omega)
    have k6 : Blk w2 (w.heap.size + 1) (datC dat0) 32 := (Blk.new_ _ (datC dat0) 32 (by simp)).below b2 (by simp)
    have B2 : Below w.heap.size w w2 := ((((Below.refl _ w).alloc (Nat.le_refl _) _).alloc (by simp) _).trans (b2.mono (by simp; omega)))
    have z2 : w.heap.size + 1 < w2.heap.size := by have := b2.size; simp at this; omega
    clear b2
    go_wp2_with (first
      | (refine wpList_store_blk rfl 33 (.tmp 8) (.tmp 15) rfl w2.heap.size _ (arrC (wordsL d)) 33 rfl rfl (Blk.new_ w2 _ _ rfl) rfl hinf.out hone.out ?_
         intro w3 hw3 hn3
         have z3 := hn3.size
         simp only [World.size_alloc] at z3
         replace k3 := hn3.blk (k3.alloc _) (by omega)
         replace k6 := hn3.blk (k6.alloc _) (by omega)
         have B3 : Below w.heap.size w w3 := (B2.alloc (by omega) _).trans (hn3.below _ (by omega) (by simp; omega))
         clear hn3 B2)
      | (refine wpList_load_row rfl 33 (.tmp 8) rfl w2.heap.size rfl 33 (arrC (wordsL d)) (0, 0) _ hw3.blk Tryd.underlying33 rfl hinf.out ?_)
      | (refine wpList_store_blk rfl 33 (.tmp 9) (.tmp 16) rfl w3.heap.size _ (arrC (wordsL d)) 33 rfl rfl (Blk.new_ w3 _ _ rfl) rfl hinf.out hone.out ?_
         intro w4 hw4 hn4
         have z4 := hn4.size
         simp only [World.size_alloc] at z4
         replace k3 := hn4.blk (k3.alloc _) (by omega)
         replace k6 := hn4.blk (k6.alloc _) (by omega)
         have k8 := hn4.blk (hw3.alloc _) (by omega)
         have B4 : Below w.heap.size w w4 := (B3.alloc (by omega) _).trans (hn4.below _ (by omega) (by simp; omega))
         have c9 := (hw4.cell k).trans hgt.out
         have f9 := hw4.frozen k
         have k9 : ∀ u, Blk (w4.setCell ⟨w3.heap.size, k, none⟩ u) w3.heap.size _ _ := fun u => hw4.set_ k u
         have K9 := Lib.hid (hset.out ▸ k9 (.int .u32 x))
         have K8 := fun u => k8.far (p := ⟨w3.heap.size, k, none⟩) (by simp; omega) u
         have K3 := fun u => k3.far (p := ⟨w3.heap.size, k, none⟩) (by simp; omega) u
         have K6 := fun u => k6.far (p := ⟨w3.heap.size, k, none⟩) (by simp; omega) u
         have B5 := fun u => B4.setCell (p := ⟨w3.heap.size, k, none⟩) (by simp; omega) u
         clear hn4 B3 hw3 k9 k8 k3 k6 B4)
      | (refine wpList_load_row rfl 33 (.tmp 9) rfl w3.heap.size rfl 33 (arrC ((wordsL d).set k x)) (0, 0) _ K9.out.blk Tryd.underlying33 rfl hinf'.out ?_)
      | (refine wpList_load_row rfl 33 (.tmp 8) rfl w2.heap.size rfl 33 (arrC (wordsL d)) (0, 0) _ (K8 _).blk Tryd.underlying33 rfl hinf.out ?_)
      | (refine wpList_eql_arr rfl (.tmp 21) (.tmp 22) rfl ((wordsL d).set k x) (wordsL d) rfl rfl hlen.out (words_len d) _ HQ.out ?_)
      | (refine wpList_load_row rfl 32 (.tmp 3) rfl w.heap.size rfl 32 (datC d) (0, 0) _ (K3 _).blk Tryd.underlying32 rfl dat_info ?_)
      | (refine wpList_store_blk rfl 32 (.tmp 6) (.tmp 24) rfl (w.heap.size + 1) _ (datC d) 32 rfl rfl (K6 _) rfl dat_info (dat_one d) ?_; intro w9 hw9 hn9))
  · refine (join_any _ hlen.out hU _).mono ?_
    rintro e w7 ⟨rfl, b7⟩
    have K7 := (K6 (.int .u32 x)).below b7 (K6 (.int .u32 x)).lt
    have B7 := (B5 (.int .u32 x)).trans (b7.mono (B5 (.int .u32 x)).size)
    unfold datV
    go_wp2_with (refine wpList_store_blk rfl 32 (.tmp 6) (.tmp 26) rfl (w.heap.size + 1) _ (datC (joinD ((wordsL d).set k x))) 32 rfl rfl K7 rfl dat_info (dat_one _) ?_; intro w9 hw9 hn9)
    refine bodyPost_ret (v := .tuple #[datV (joinD ((wordsL d).set k x)), .int .i64 0]) (results_row_tmp rfl _ _ (w.heap.size + 1) 32 (datC (joinD ((wordsL d).set k x))) (0, 0) _ rfl hw9.blk Tryd.underlying32 rfl dat_info _ rfl) rfl ?_
    exact ⟨rfl, B7.trans (hn9.below w.heap.size (by omega) B7.size)⟩
  · have e : (wordsL d).set k x = wordsL d := of_decide_eq_true HQ.out
    have e2 : joinD ((wordsL d).set k x) = d := by rw [e, join_words]
    rw [e2]
    refine bodyPost_ret (v := .tuple #[datV d, .int .i64 0]) (results_row_tmp rfl _ _ (w.heap.size + 1) 32 (datC d) (0, 0) _ rfl hw9.blk Tryd.underlying32 rfl dat_info _ rfl) rfl ?_
    exact ⟨rfl, (B5 (.int .u32 x)).trans (hn9.below w.heap.size (by omega) (B5 (.int .u32 x)).size)⟩
end Go.Proofs.YtepkhkfdokinmaaDoor

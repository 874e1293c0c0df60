/-
  What Alu answers is as wide as its kind.
-/
import Derived.Test.YtelfdpcenplhjaaGreatDoorQHB
import Derived.Test.YtelfdpcenplhjaaGreatDoorQHE
import Derived.Laws.MakeOwn
import Derived.Test.YtelfdpcenplhjaaGreatDoorQHA
import Derived.Test.YtelfdpcenplhjaaGreatDoorQRange4
import Derived.RangeFuncNested
import Derived.RangeFuncBound
import Derived.RangeFuncCalls
import Derived.RangeFuncLeaves
import Derived.Shelf.RegionOpen
import Derived.LoopIn
import Derived.Test.YtelfdpcenplhjaaGreatDoorQVmA
namespace Go.Proofs.YtelfdpcenplhjaaGreatDoor
open Go.RowKit
set_option linter.unusedVariables false
def rowL (L : List StS) : List Value := L.flatMap fun s => (stC s).toList
def rowS (L : List StS) : Array Value := (rowL L).toArray
def Len16 (L : List StS) : Prop := ∀ s ∈ L, s.m.length = 16
theorem stL_len {s : StS} (h : s.m.length = 16) : (stC s).toList.length = 37 := by rw [Array.length_toList]; exact st_size h
theorem rowL_len : ∀ {L : List StS}, Len16 L → (rowL L).length = L.length * 37
  | [], _ => rfl
  | s :: L, h => by
    have ih := rowL_len (L := L) (fun t ht => h t (by simp [ht]))
    unfold rowL at ih ⊢
    rw [List.flatMap_cons, List.length_append, ih, stL_len (h s (by simp)), List.length_cons]
    omega
theorem rowS_size {L : List StS} (h : Len16 L) : (rowS L).size = L.length * 37 := by unfold rowS; rw [List.size_toArray]; exact rowL_len h
theorem Len16.at_ {L : List StS} (h : Len16 L) (k : Nat) : (L.getD k st0).m.length = 16 := by
  rcases Nat.lt_or_ge k L.length with hk | hk
  · simp only [List.getD, List.getElem?_eq_getElem hk, Option.getD_some]
    exact h _ (List.getElem_mem hk)
  · simp only [List.getD, List.getElem?_eq_none hk, Option.getD_none]
    exact st0_len
theorem Len16.set_ {L : List StS} (h : Len16 L) (k : Nat) {s : StS} (hs : s.m.length = 16) : Len16 (L.set k s) := fun t ht => by
  rcases List.mem_or_eq_of_mem_set ht with ht | rfl
  · exact h t ht
  · exact hs
theorem rowL_at : ∀ {L : List StS} (_ : Len16 L) (k j : Nat), k < L.length → j < 37 → (rowL L)[k * 37 + j]? = (stC (L.getD k st0)).toList[j]?
  | [], _, k, _, h, _ => absurd h (by simp)
  | s :: L, h, 0, j, _, hj => by
    unfold rowL
    rw [List.flatMap_cons, List.getElem?_append_left (by rw [stL_len (h s (by simp))]; omega), Nat.zero_mul, Nat.zero_add]
    rfl
  | s :: L, h, k + 1, j, hk, hj => by
    have ih := rowL_at (L := L) (fun t ht => h t (by simp [ht])) k j (by simpa using hk) hj
    unfold rowL at ih ⊢
    rw [List.flatMap_cons, List.getElem?_append_right (by rw [stL_len (h s (by simp))]; omega), stL_len (h s (by simp)), show (k + 1) * 37 + j - 37 = k * 37 + j by omega]
    exact ih
theorem rowL_set : ∀ {L : List StS} (_ : Len16 L) (k : Nat) {s : StS} (_ : s.m.length = 16), k < L.length → (rowL L).take (k * 37) ++ (stC s).toList ++ (rowL L).drop (k * 37 + 37) = rowL (L.set k s)
  | [], _, k, _, _, h => absurd h (by simp)
  | u :: L, h, 0, s, hs, _ => by
    unfold rowL
    rw [List.flatMap_cons, Nat.zero_mul, List.take_zero, List.nil_append, Nat.zero_add, List.drop_append_of_le_length (by rw [stL_len (h u (by simp))]; omega), List.drop_of_length_le (by rw [stL_len (h u (by simp))]; omega), List.nil_append, List.set_cons_zero, List.flatMap_cons]
  | u :: L, h, k + 1, s, hs, hk => by
    have ih := rowL_set (L := L) (fun t ht => h t (by simp [ht])) k hs (by simpa using hk)
    have hu := stL_len (h u (by simp))
    unfold rowL at ih ⊢
    rw [List.flatMap_cons, List.set_cons_succ, List.flatMap_cons, ← ih, List.take_append, List.take_of_length_le (by rw [hu]; omega), hu, show (k + 1) * 37 - 37 = k * 37 by omega,
      List.drop_append, hu, List.drop_of_length_le (by rw [hu]; omega), List.nil_append, show (k + 1) * 37 + 37 - 37 = k * 37 + 37 by omega]
    simp only [List.append_assoc]
section
variable {w : World} {g : Nat} {L : List StS} {t : TypeId}
theorem row_range (h : Blk w g (rowS L) t) (hL : Len16 L) {k : Nat} (hk : k < L.length) : w.rangeAt g (k * 37) (stC (L.getD k st0)).toList := fun j v hv => by
  have hj : j < 37 := by
    have := (List.getElem?_eq_some_iff.1 hv).1
    rwa [stL_len (hL.at_ k)] at this
  rw [h.cell]
  unfold rowS
  rw [List.getElem?_toArray, rowL_at hL k j hk hj]
  exact hv
theorem row_cell (h : Blk w g (rowS L) t) (hL : Len16 L) {k : Nat} (hk : k < L.length) {j : Nat} (hj : j < 37) : w.cell? ⟨g, k * 37 + j, none⟩ = (stC (L.getD k st0))[j]? := by
  rw [h.cell]
  unfold rowS
  rw [List.getElem?_toArray, rowL_at hL k j hk hj, Array.getElem?_toList]
end
theorem stL_inf {s : StS} (h : s.m.length = 16) : (Tryz.prog.info? 158).map (·.size) = some (stC s).toList.length := by rw [Array.length_toList]; exact st_inf h
theorem wp_store_row {P : Program} {o : Oper} {a : Act} {w : World} {K : Act → World → Prop} {Q : Exit → Act → World → Prop} (ty : TypeId) (x y : Operand) (ho : o.op = .store ty x y)
    (g k : Nat) (L : List StS) (s : StS) (t : TypeId) (hx : a.eval x = .pointer (some ⟨g, k * 37, none⟩)) (hy : a.eval y = .agg (stC s)) (hb : Blk w g (rowS L) t) (hL : Len16 L) (hs : s.m.length = 16) (hk : k < L.length)
    (hi : (P.info? ty).map (·.size) = some 37) (h : ∀ w', Blk w' g (rowS (L.set k s)) t → But g w w' → K (a.put o.dst undef) w') : o.wp P a w K Q := by
  have hsz := rowS_size hL
  have hr := run_storeCells_at (P := P) g (k * 37) t (stC s).toList 0 (rowS L) w hb.blk (by rw [stL_len hs, hsz]; omega) st_oneL
  have e : ((rowS L).toList.take (k * 37 + 0) ++ (stC s).toList ++ (rowS L).toList.drop (k * 37 + 0 + (stC s).toList.length)).toArray = rowS (L.set k s) := by
    rw [stL_len hs, Nat.add_zero]
    unfold rowS
    rw [List.toList_toArray, rowL_set hL k hs hk]
  rw [e] at hr
  cases hq : P.info? ty with
  | none => simp [hq] at hi
  | some i =>
    have hs' : (stC s).size = i.size := by rw [st_size hs]; simp [hq] at hi; omega
    have hrun : (storeVar ty ⟨g, k * 37, none⟩ (.agg (stC s))).run P w = .ok () (w.setRow g (rowS (L.set k s))) := by simp [storeVar, sizeOf, typeInfo, hq, Value.cells, hs', hr]
    unfold Oper.wp execOp
    simp only [ho, hx, hy, Instr.storeAt, Instr.sureAddr, Sem.run_bind, Sem.run_pure, Result.andThen_ok, hrun]
    have q := setRow_blk (cs' := rowS (L.set k s)) hb
    exact h _ q.1 q.2
theorem wpList_store_row {P : Program} {ops : Array Oper} {rest : List Oper} {o : Oper} {a : Act} {w : World} {Q : Exit → Act → World → Prop} (hgd : o.guard = none) (ty : TypeId) (x y : Operand) (ho : o.op = .store ty x y)
    (g k : Nat) (L : List StS) (s : StS) (t : TypeId) (hx : a.eval x = .pointer (some ⟨g, k * 37, none⟩)) (hy : a.eval y = .agg (stC s)) (hb : Blk w g (rowS L) t) (hL : Len16 L) (hs : s.m.length = 16) (hk : k < L.length)
    (hi : (P.info? ty).map (·.size) = some 37) (h : ∀ w', Blk w' g (rowS (L.set k s)) t → But g w w' → wpList P ops Q rest (a.put o.dst undef) w') : wpList P ops Q (o :: rest) a w :=
  wpList_plain hgd fun _ hK => wp_store_row ty x y ho g k L s t hx hy hb hL hs hk hi fun w' h2 h3 => hK _ _ (h w' h2 h3)
theorem madeS : ∀ n : Nat, madeCells zstL (n * 37) = rowS (List.replicate n st0) := fun n => by
  apply Array.ext'
  apply List.ext_getElem?
  intro i
  have h16 : Len16 (List.replicate n st0) := fun s hs => by rw [(List.mem_replicate.1 hs).2]; exact st0_len
  unfold rowS
  rw [List.toList_toArray]
  rcases Nat.lt_or_ge i (n * 37) with h | h
  · have e : i = (i / 37) * 37 + i % 37 := by omega
    have hk : i / 37 < n := by omega
    have hj : i % 37 < 37 := by omega
    rw [e, rowL_at h16 (i / 37) (i % 37) (by simpa using hk) hj, ← e]
    have e2 : (List.replicate n st0).getD (i / 37) st0 = st0 := by simp [List.getD, hk]
    have hz : i % 37 < zstL.size := hj
    rw [e2, ← zst_st0]
    simp only [madeCells, Array.toList_map, List.getElem?_map, Array.getElem?_toList, Array.getElem?_range, if_pos h, Option.map_some, zst_size]
    rw [getElem!_pos zstL (i % 37) hz, Array.getElem?_eq_getElem hz]
  · rw [List.getElem?_eq_none (by simp [madeCells]; omega), List.getElem?_eq_none (by rw [rowL_len h16]; simpa using h)]
theorem st_infoz : (Tryz.prog.info? 158).map (fun i => (i.zero, i.size, i.bytes)) = some (some (.agg zstL), 37, 148) := by kernel_rfl
theorem wpList_make_st {w : World} {ops : Array Oper} {rest : List Oper} {o : Oper} {a : Act} {Q : Exit → Act → World → Prop}
    (hg : o.guard = none) (s c : Operand) (hop : o.op = Op.makeSlice 137 s c) (n : Nat)
    (hl : a.eval s = .int .i64 (n : Int)) (hc : a.eval c = .int .i64 (n : Int)) (hn : n ≤ 1000)
    (hK : ∀ w', Blk w' w.heap.size (rowS (List.replicate n st0)) 158 → Below w.heap.size w w' → wpList Tryz.prog ops Q rest (a.put o.dst (.slice (some ⟨w.heap.size, 0, none⟩) n n)) w') :
    wpList Tryz.prog ops Q (o :: rest) a w := by
  refine wpList_plain hg fun K hK' => ?_
  obtain ⟨i, hi, hz', hs, hb⟩ := info_parts st_infoz
  have hrun := run_make (P := Tryz.prog) w 137 158 i (.agg zstL) Tryz.underlying137 hi hz' .i64 .i64 (n : Int) (n : Int) (by omega) (by omega) (by rw [hb]; omega) (by omega)
  rw [hs, Int.toNat_natCast, show (Value.agg zstL).cells = zstL from rfl, madeS n] at hrun
  unfold Oper.wp
  simp [execOp, hop, hl, hc, hrun, Result.andThen]
  exact hK' _ _ (hK _ (Blk.new w _ _) ((Below.refl _ _).alloc (Nat.le_refl _) _))
theorem class_load_row {P : Program} {ops : Array Oper} {S : World → Prop} {Q : Act → Prop} {a : Act} {o : Oper} {rest : List Oper} (hw : Region.wanted o (yielded ops a.tmps) = true) (ty : TypeId) (x : Operand) (ho : o.op = .load ty x)
    (g off : Nat) (hx : a.eval x = .pointer (some ⟨g, off, none⟩)) (cs : Array Value) (d : TypeDesc) (hS : ∀ w, S w → w.rangeAt g off cs.toList)
    (hu : P.underlying ty = some d) (hd : d.isRow = true) (hi : (P.info? ty).map (·.size) = some cs.size)
    (h : wpQuiet P ops (fun w' => ∃ s : Sig S, w' = s.V) Q rest (a.put o.dst (.agg cs))) : wpQuiet P ops (fun w' => ∃ s : Sig S, w' = s.V) Q (o :: rest) a :=
  class_load_mid hw ty x ho g off hx cs.toList d hS hu hd (by rw [Array.length_toList]; exact hi) (by rw [Array.toArray_toList]; exact h)
end Go.Proofs.YtelfdpcenplhjaaGreatDoor
namespace Go.Proofs.YtelfdpcenplhjaaGreatDoor
open Go.RowKit
set_option linter.unusedVariables false
structure NJ (w : World) (g : Nat) (V : World) (q : Ins) (s : StS) (o : Ab) : Prop where
  j : IS w V q s
  o : Blk V g (abA o) 139
section
variable {w V V' : World} {g : Nat} {q : Ins} {s : StS} {o : Ab}
theorem NJ.below (h : NJ w g V q s o) (hb : Below V.heap.size V V') : NJ w g V' q s o := ⟨h.j.below hb, h.o.below hb h.o.lt⟩
theorem NJ.drew (h : NJ w g V q s o) : NJ w g V.drew q s o := h.below (Below.refl _ _).drew
end
set_option maxRecDepth 100000 in
set_option maxHeartbeats 1000000 in
theorem nx_1 (c y z k : Int) (i : Nat) (hi : (i : Int) ≤ 255) (hq : InsOk c y z k) (s : StS) (hs : StOk s) (w : World) (hK : Kinds w) (ov : Int) (eo : othA (c, y, z, k) s = ⟨true, ov⟩) (hd : decide (c = 60) = true) (ht : decide (formOf c = 5 ∨ formOf c = 6) = false) (hv : (ov == 0) = true) :
    Calls Tryz.prog 143 #[insV c y z k, .int .i64 (i : Int), stV s] w (NextR [] w) := by
  have S := fun V (h : Kinds V) => bsecond_any c y z k s hs.len V h
  have D := fun V (h : Kinds V) => divides_any c y z k V h
  have T := fun V (h : Kinds V) => btests_any c y z k V h
  have X := fun V (h : Kinds V) => next_any (c, y, z, k) i V h hq
  have ho := (oth_ok (q := (c, y, z, k)) hq hs).u
  rw [eo] at S ho
  have H := fun V => hd_any c s.a.v ov hq.c0 hq.c1 hs.a.u ho V
  rw [hd] at D
  rw [ht] at T
  have J := IS.new w hK (c, y, z, k) s
  unfold insV stV at S ⊢
  unfold insV at D T
  have S' := S _ J.kk
  have hl := hs.len
  obtain ⟨hc0, hc1, y0, y1, z0, z1, k0, k1⟩ := hq
  have hi0 : 0 ≤ (i : Int) := by omega
  clear S eo hd ht hs
  go_enter Tryz.func143, Tryz.ntmps143
  go_wp2_with (refine wpList_load_row rfl 158 (.tmp 5) rfl (w.heap.size + 1) rfl 158 (stC s) (0, 0) _ J.ks.blk Tryz.underlying158 rfl (st_inf hl) ?_)
  refine S'.mono ?_
  rintro e w1 ⟨rfl, b1⟩
  have J1 := J.below b1
  clear b1 J S'
  go_wp2_with (refine wpList_store_blk rfl 139 (.tmp 7) (.tmp 10) rfl w1.heap.size (abA ab0) (abA ⟨true, ov⟩) 139 rfl rfl (Blk.new_ _ _ _ (by simp)) rfl (abA_inf _) (abA_one _) ?_
               intro w2 hw2 hn2
               have J2 : NJ w w1.heap.size w2 (c, y, z, k) s ⟨true, ov⟩ := ⟨J1.below (((Below.refl _ _).alloc (Nat.le_refl _) _).trans (hn2.below w1.heap.size (Nat.le_refl _) (by simp))), hw2⟩
               clear hn2 J1 hw2)
  have J0 := J2.drew
  clear J2
  have D' := Lib.hid (calls_keep (S := fun V => NJ w w1.heap.size V (c, y, z, k) s ⟨true, ov⟩) (fun V V' h hb => h.below hb) (fun V h => D V h.j.kk))
  have U' := Lib.hid (calls_keep (S := fun V => NJ w w1.heap.size V (c, y, z, k) s ⟨true, ov⟩) (fun V V' h hb => h.below hb) (fun V _ => sure_raw 0 V))
  clear D
  have hne : Nonempty (Sig (fun V => NJ w w1.heap.size V (c, y, z, k) s ⟨true, ov⟩)) := ⟨⟨_, J0⟩⟩
  refine region_class (S := fun V => NJ w w1.heap.size V (c, y, z, k) s ⟨true, ov⟩) (by kernel_rfl) (by kernel_rfl) J0 ?_
  have hS1 : ∀ s' : Sig (fun V => NJ w w1.heap.size V (c, y, z, k) s ⟨true, ov⟩), s'.V.cell? ⟨w1.heap.size, 0, none⟩ = some (.bool true) := fun s' => s'.h.o.cell 0
  have hS2 : ∀ s' : Sig (fun V => NJ w w1.heap.size V (c, y, z, k) s ⟨true, ov⟩), s'.V.cell? ⟨w1.heap.size, 1, none⟩ = some (.int .u32 ov) := fun s' => s'.h.o.cell 1
  refine class_load (by rfl) 111 (.tmp 3) rfl w.heap.size rfl _ 111 _ (fun _ h => h.j.ki) Tryz.underlying111 rfl (by kernel_rfl) ?_
  simp only [Act.put, List.setIfInBounds_toArray, List.set_cons_zero, List.set_cons_succ]
  repeat (go_big_quiet_step (first | (go_at_call 139; exact class_call _ D'.out) | (go_at_call 114; exact class_call _ U'.out)))
  refine wpQuiet_nil ?_
  rintro _ ⟨s7, rfl⟩
  have J7 := s7.h
  clear hS1 hS2 hne D' U' J0
  go_wp2_with fail
  go_ret
  exact ⟨none, 0, rfl, Nat.le_refl _, Rn.nil, J7.j.old⟩
set_option maxRecDepth 100000 in
set_option maxHeartbeats 1000000 in
theorem nx_2 (c y z k : Int) (i : Nat) (hi : (i : Int) ≤ 255) (hq : InsOk c y z k) (s : StS) (hs : StOk s) (w : World) (hK : Kinds w) (ov : Int) (eo : othA (c, y, z, k) s = ⟨false, ov⟩) (hd : decide (c = 60) = true) (ht : decide (formOf c = 5 ∨ formOf c = 6) = false) :
    Calls Tryz.prog 143 #[insV c y z k, .int .i64 (i : Int), stV s] w (NextR (nextL (c, y, z, k) i) w) := by
  have S := fun V (h : Kinds V) => bsecond_any c y z k s hs.len V h
  have D := fun V (h : Kinds V) => divides_any c y z k V h
  have T := fun V (h : Kinds V) => btests_any c y z k V h
  have X := fun V (h : Kinds V) => next_any (c, y, z, k) i V h hq
  have ho := (oth_ok (q := (c, y, z, k)) hq hs).u
  rw [eo] at S ho
  have H := fun V => hd_any c s.a.v ov hq.c0 hq.c1 hs.a.u ho V
  rw [hd] at D
  rw [ht] at T
  have J := IS.new w hK (c, y, z, k) s
  unfold insV stV at S ⊢
  unfold insV at D T
  have S' := S _ J.kk
  have hl := hs.len
  obtain ⟨hc0, hc1, y0, y1, z0, z1, k0, k1⟩ := hq
  have hi0 : 0 ≤ (i : Int) := by omega
  clear S eo hd ht hs
  go_enter Tryz.func143, Tryz.ntmps143
  go_wp2_with (refine wpList_load_row rfl 158 (.tmp 5) rfl (w.heap.size + 1) rfl 158 (stC s) (0, 0) _ J.ks.blk Tryz.underlying158 rfl (st_inf hl) ?_)
  refine S'.mono ?_
  rintro e w1 ⟨rfl, b1⟩
  have J1 := J.below b1
  clear b1 J S'
  go_wp2_with (refine wpList_store_blk rfl 139 (.tmp 7) (.tmp 10) rfl w1.heap.size (abA ab0) (abA ⟨false, ov⟩) 139 rfl rfl (Blk.new_ _ _ _ (by simp)) rfl (abA_inf _) (abA_one _) ?_
               intro w2 hw2 hn2
               have J2 : NJ w w1.heap.size w2 (c, y, z, k) s ⟨false, ov⟩ := ⟨J1.below (((Below.refl _ _).alloc (Nat.le_refl _) _).trans (hn2.below w1.heap.size (Nat.le_refl _) (by simp))), hw2⟩
               clear hn2 J1 hw2)
  have J0 := J2.drew
  clear J2
  have D' := Lib.hid (calls_keep (S := fun V => NJ w w1.heap.size V (c, y, z, k) s ⟨false, ov⟩) (fun V V' h hb => h.below hb) (fun V h => D V h.j.kk))
  have U' := Lib.hid (calls_keep (S := fun V => NJ w w1.heap.size V (c, y, z, k) s ⟨false, ov⟩) (fun V V' h hb => h.below hb) (fun V _ => sure_raw 0 V))
  clear D
  have hne : Nonempty (Sig (fun V => NJ w w1.heap.size V (c, y, z, k) s ⟨false, ov⟩)) := ⟨⟨_, J0⟩⟩
  refine region_class (S := fun V => NJ w w1.heap.size V (c, y, z, k) s ⟨false, ov⟩) (by kernel_rfl) (by kernel_rfl) J0 ?_
  have hS1 : ∀ s' : Sig (fun V => NJ w w1.heap.size V (c, y, z, k) s ⟨false, ov⟩), s'.V.cell? ⟨w1.heap.size, 0, none⟩ = some (.bool false) := fun s' => s'.h.o.cell 0
  have hS2 : ∀ s' : Sig (fun V => NJ w w1.heap.size V (c, y, z, k) s ⟨false, ov⟩), s'.V.cell? ⟨w1.heap.size, 1, none⟩ = some (.int .u32 ov) := fun s' => s'.h.o.cell 1
  refine class_load (by rfl) 111 (.tmp 3) rfl w.heap.size rfl _ 111 _ (fun _ h => h.j.ki) Tryz.underlying111 rfl (by kernel_rfl) ?_
  simp only [Act.put, List.setIfInBounds_toArray, List.set_cons_zero, List.set_cons_succ]
  repeat (go_big_quiet_step (first | (go_at_call 139; exact class_call _ D'.out) | (go_at_call 114; exact class_call _ U'.out)))
  refine wpQuiet_nil ?_
  rintro _ ⟨s7, rfl⟩
  have J7 := s7.h
  clear hS1 hS2 hne D' U' J0
  obtain ⟨i0, i1, i2, i3⟩ := J7.j.cells
  simp only at i0 i1 i2 i3
  have T' := T _ J7.j.kk
  clear T
  go_wp2_with fail
  refine T'.mono ?_
  rintro e w8 ⟨rfl, b8⟩
  have J8 := J7.below b8
  obtain ⟨i0, i1, i2, i3⟩ := J8.j.cells
  obtain ⟨a1, a2, _, _⟩ := J8.j.abs
  have q0 : w8.cell? ⟨w1.heap.size, 0, none⟩ = some (.bool false) := J8.o.cell 0
  have q1 : w8.cell? ⟨w1.heap.size, 1, none⟩ = some (.int .u32 ov) := J8.o.cell 1
  simp only at i0 i1 i2 i3
  clear J7 b8 T'
  have X' := X _ J8.j.kk
  simp only [valI] at X'
  clear X H
  go_wp2_with fail
  refine X'.mono ?_
  rintro e w9 ⟨A, cp, rfl, h1, h2, h3⟩
  go_wp2_with fail
  go_ret
  exact ⟨A, cp, rfl, h1, h2, J8.j.old.trans (h3.mono J8.j.old.size)⟩
set_option maxRecDepth 100000 in
set_option maxHeartbeats 1000000 in
theorem nx_3 (c y z k : Int) (i : Nat) (hi : (i : Int) ≤ 255) (hq : InsOk c y z k) (s : StS) (hs : StOk s) (w : World) (hK : Kinds w) (ov : Int) (eo : othA (c, y, z, k) s = ⟨true, ov⟩) (hd : decide (c = 60) = true) (ht : decide (formOf c = 5 ∨ formOf c = 6) = false) (hv : (ov == 0) = false) :
    Calls Tryz.prog 143 #[insV c y z k, .int .i64 (i : Int), stV s] w (NextR (nextL (c, y, z, k) i) w) := by
  have S := fun V (h : Kinds V) => bsecond_any c y z k s hs.len V h
  have D := fun V (h : Kinds V) => divides_any c y z k V h
  have T := fun V (h : Kinds V) => btests_any c y z k V h
  have X := fun V (h : Kinds V) => next_any (c, y, z, k) i V h hq
  have ho := (oth_ok (q := (c, y, z, k)) hq hs).u
  rw [eo] at S ho
  have H := fun V => hd_any c s.a.v ov hq.c0 hq.c1 hs.a.u ho V
  rw [hd] at D
  rw [ht] at T
  have J := IS.new w hK (c, y, z, k) s
  unfold insV stV at S ⊢
  unfold insV at D T
  have S' := S _ J.kk
  have hl := hs.len
  obtain ⟨hc0, hc1, y0, y1, z0, z1, k0, k1⟩ := hq
  have hi0 : 0 ≤ (i : Int) := by omega
  clear S eo hd ht hs
  go_enter Tryz.func143, Tryz.ntmps143
  go_wp2_with (refine wpList_load_row rfl 158 (.tmp 5) rfl (w.heap.size + 1) rfl 158 (stC s) (0, 0) _ J.ks.blk Tryz.underlying158 rfl (st_inf hl) ?_)
  refine S'.mono ?_
  rintro e w1 ⟨rfl, b1⟩
  have J1 := J.below b1
  clear b1 J S'
  go_wp2_with (refine wpList_store_blk rfl 139 (.tmp 7) (.tmp 10) rfl w1.heap.size (abA ab0) (abA ⟨true, ov⟩) 139 rfl rfl (Blk.new_ _ _ _ (by simp)) rfl (abA_inf _) (abA_one _) ?_
               intro w2 hw2 hn2
               have J2 : NJ w w1.heap.size w2 (c, y, z, k) s ⟨true, ov⟩ := ⟨J1.below (((Below.refl _ _).alloc (Nat.le_refl _) _).trans (hn2.below w1.heap.size (Nat.le_refl _) (by simp))), hw2⟩
               clear hn2 J1 hw2)
  have J0 := J2.drew
  clear J2
  have D' := Lib.hid (calls_keep (S := fun V => NJ w w1.heap.size V (c, y, z, k) s ⟨true, ov⟩) (fun V V' h hb => h.below hb) (fun V h => D V h.j.kk))
  have U' := Lib.hid (calls_keep (S := fun V => NJ w w1.heap.size V (c, y, z, k) s ⟨true, ov⟩) (fun V V' h hb => h.below hb) (fun V _ => sure_raw 0 V))
  clear D
  have hne : Nonempty (Sig (fun V => NJ w w1.heap.size V (c, y, z, k) s ⟨true, ov⟩)) := ⟨⟨_, J0⟩⟩
  refine region_class (S := fun V => NJ w w1.heap.size V (c, y, z, k) s ⟨true, ov⟩) (by kernel_rfl) (by kernel_rfl) J0 ?_
  have hS1 : ∀ s' : Sig (fun V => NJ w w1.heap.size V (c, y, z, k) s ⟨true, ov⟩), s'.V.cell? ⟨w1.heap.size, 0, none⟩ = some (.bool true) := fun s' => s'.h.o.cell 0
  have hS2 : ∀ s' : Sig (fun V => NJ w w1.heap.size V (c, y, z, k) s ⟨true, ov⟩), s'.V.cell? ⟨w1.heap.size, 1, none⟩ = some (.int .u32 ov) := fun s' => s'.h.o.cell 1
  refine class_load (by rfl) 111 (.tmp 3) rfl w.heap.size rfl _ 111 _ (fun _ h => h.j.ki) Tryz.underlying111 rfl (by kernel_rfl) ?_
  simp only [Act.put, List.setIfInBounds_toArray, List.set_cons_zero, List.set_cons_succ]
  repeat (go_big_quiet_step (first | (go_at_call 139; exact class_call _ D'.out) | (go_at_call 114; exact class_call _ U'.out)))
  refine wpQuiet_nil ?_
  rintro _ ⟨s7, rfl⟩
  have J7 := s7.h
  clear hS1 hS2 hne D' U' J0
  obtain ⟨i0, i1, i2, i3⟩ := J7.j.cells
  simp only at i0 i1 i2 i3
  have T' := T _ J7.j.kk
  clear T
  go_wp2_with fail
  refine T'.mono ?_
  rintro e w8 ⟨rfl, b8⟩
  have J8 := J7.below b8
  obtain ⟨i0, i1, i2, i3⟩ := J8.j.cells
  obtain ⟨a1, a2, _, _⟩ := J8.j.abs
  have q0 : w8.cell? ⟨w1.heap.size, 0, none⟩ = some (.bool true) := J8.o.cell 0
  have q1 : w8.cell? ⟨w1.heap.size, 1, none⟩ = some (.int .u32 ov) := J8.o.cell 1
  simp only at i0 i1 i2 i3
  clear J7 b8 T'
  have X' := X _ J8.j.kk
  simp only [valI] at X'
  clear X H
  go_wp2_with fail
  refine X'.mono ?_
  rintro e w9 ⟨A, cp, rfl, h1, h2, h3⟩
  go_wp2_with fail
  go_ret
  exact ⟨A, cp, rfl, h1, h2, J8.j.old.trans (h3.mono J8.j.old.size)⟩
set_option maxRecDepth 100000 in
set_option maxHeartbeats 1000000 in
theorem nx_4 (c y z k : Int) (i : Nat) (hi : (i : Int) ≤ 255) (hq : InsOk c y z k) (s : StS) (hs : StOk s) (w : World) (hK : Kinds w) (ok : Bool) (ov : Int) (eo : othA (c, y, z, k) s = ⟨ok, ov⟩) (hd : decide (c = 60) = false) (ht : decide (formOf c = 5 ∨ formOf c = 6) = false) :
    Calls Tryz.prog 143 #[insV c y z k, .int .i64 (i : Int), stV s] w (NextR (nextL (c, y, z, k) i) w) := by
  have S := fun V (h : Kinds V) => bsecond_any c y z k s hs.len V h
  have D := fun V (h : Kinds V) => divides_any c y z k V h
  have T := fun V (h : Kinds V) => btests_any c y z k V h
  have X := fun V (h : Kinds V) => next_any (c, y, z, k) i V h hq
  have ho := (oth_ok (q := (c, y, z, k)) hq hs).u
  rw [eo] at S ho
  have H := fun V => hd_any c s.a.v ov hq.c0 hq.c1 hs.a.u ho V
  rw [hd] at D
  rw [ht] at T
  have J := IS.new w hK (c, y, z, k) s
  unfold insV stV at S ⊢
  unfold insV at D T
  have S' := S _ J.kk
  have hl := hs.len
  obtain ⟨hc0, hc1, y0, y1, z0, z1, k0, k1⟩ := hq
  have hi0 : 0 ≤ (i : Int) := by omega
  clear S eo hd ht hs
  go_enter Tryz.func143, Tryz.ntmps143
  go_wp2_with (refine wpList_load_row rfl 158 (.tmp 5) rfl (w.heap.size + 1) rfl 158 (stC s) (0, 0) _ J.ks.blk Tryz.underlying158 rfl (st_inf hl) ?_)
  refine S'.mono ?_
  rintro e w1 ⟨rfl, b1⟩
  have J1 := J.below b1
  clear b1 J S'
  go_wp2_with (refine wpList_store_blk rfl 139 (.tmp 7) (.tmp 10) rfl w1.heap.size (abA ab0) (abA ⟨ok, ov⟩) 139 rfl rfl (Blk.new_ _ _ _ (by simp)) rfl (abA_inf _) (abA_one _) ?_
               intro w2 hw2 hn2
               have J2 : NJ w w1.heap.size w2 (c, y, z, k) s ⟨ok, ov⟩ := ⟨J1.below (((Below.refl _ _).alloc (Nat.le_refl _) _).trans (hn2.below w1.heap.size (Nat.le_refl _) (by simp))), hw2⟩
               clear hn2 J1 hw2)
  have J0 := J2.drew
  clear J2
  have D' := Lib.hid (calls_keep (S := fun V => NJ w w1.heap.size V (c, y, z, k) s ⟨ok, ov⟩) (fun V V' h hb => h.below hb) (fun V h => D V h.j.kk))
  have U' := Lib.hid (calls_keep (S := fun V => NJ w w1.heap.size V (c, y, z, k) s ⟨ok, ov⟩) (fun V V' h hb => h.below hb) (fun V _ => sure_raw 0 V))
  clear D
  have hne : Nonempty (Sig (fun V => NJ w w1.heap.size V (c, y, z, k) s ⟨ok, ov⟩)) := ⟨⟨_, J0⟩⟩
  refine region_class (S := fun V => NJ w w1.heap.size V (c, y, z, k) s ⟨ok, ov⟩) (by kernel_rfl) (by kernel_rfl) J0 ?_
  have hS1 : ∀ s' : Sig (fun V => NJ w w1.heap.size V (c, y, z, k) s ⟨ok, ov⟩), s'.V.cell? ⟨w1.heap.size, 0, none⟩ = some (.bool ok) := fun s' => s'.h.o.cell 0
  have hS2 : ∀ s' : Sig (fun V => NJ w w1.heap.size V (c, y, z, k) s ⟨ok, ov⟩), s'.V.cell? ⟨w1.heap.size, 1, none⟩ = some (.int .u32 ov) := fun s' => s'.h.o.cell 1
  refine class_load (by rfl) 111 (.tmp 3) rfl w.heap.size rfl _ 111 _ (fun _ h => h.j.ki) Tryz.underlying111 rfl (by kernel_rfl) ?_
  simp only [Act.put, List.setIfInBounds_toArray, List.set_cons_zero, List.set_cons_succ]
  repeat (go_big_quiet_step (first | (go_at_call 139; exact class_call _ D'.out) | (go_at_call 114; exact class_call _ U'.out)))
  refine wpQuiet_nil ?_
  rintro _ ⟨s7, rfl⟩
  have J7 := s7.h
  clear hS1 hS2 hne D' U' J0
  obtain ⟨i0, i1, i2, i3⟩ := J7.j.cells
  simp only at i0 i1 i2 i3
  have T' := T _ J7.j.kk
  clear T
  go_wp2_with fail
  refine T'.mono ?_
  rintro e w8 ⟨rfl, b8⟩
  have J8 := J7.below b8
  obtain ⟨i0, i1, i2, i3⟩ := J8.j.cells
  obtain ⟨a1, a2, _, _⟩ := J8.j.abs
  have q0 : w8.cell? ⟨w1.heap.size, 0, none⟩ = some (.bool ok) := J8.o.cell 0
  have q1 : w8.cell? ⟨w1.heap.size, 1, none⟩ = some (.int .u32 ov) := J8.o.cell 1
  simp only at i0 i1 i2 i3
  clear J7 b8 T'
  have X' := X _ J8.j.kk
  simp only [valI] at X'
  clear X H
  go_wp2_with fail
  refine X'.mono ?_
  rintro e w9 ⟨A, cp, rfl, h1, h2, h3⟩
  go_wp2_with fail
  go_ret
  exact ⟨A, cp, rfl, h1, h2, J8.j.old.trans (h3.mono J8.j.old.size)⟩
set_option maxRecDepth 100000 in
set_option maxHeartbeats 1000000 in
theorem nx_5 (c y z k : Int) (i : Nat) (hi : (i : Int) ≤ 255) (hq : InsOk c y z k) (s : StS) (hs : StOk s) (w : World) (hK : Kinds w) (ok : Bool) (ov : Int) (eo : othA (c, y, z, k) s = ⟨ok, ov⟩) (hd : decide (c = 60) = false) (ht : decide (formOf c = 5 ∨ formOf c = 6) = true) (ha : s.a.k = false) :
    Calls Tryz.prog 143 #[insV c y z k, .int .i64 (i : Int), stV s] w (NextR (nextL (c, y, z, k) i) w) := by
  have S := fun V (h : Kinds V) => bsecond_any c y z k s hs.len V h
  have D := fun V (h : Kinds V) => divides_any c y z k V h
  have T := fun V (h : Kinds V) => btests_any c y z k V h
  have X := fun V (h : Kinds V) => next_any (c, y, z, k) i V h hq
  have ho := (oth_ok (q := (c, y, z, k)) hq hs).u
  rw [eo] at S ho
  have H := fun V => hd_any c s.a.v ov hq.c0 hq.c1 hs.a.u ho V
  rw [hd] at D
  rw [ht] at T
  have J := IS.new w hK (c, y, z, k) s
  unfold insV stV at S ⊢
  unfold insV at D T
  have S' := S _ J.kk
  have hl := hs.len
  obtain ⟨hc0, hc1, y0, y1, z0, z1, k0, k1⟩ := hq
  have hi0 : 0 ≤ (i : Int) := by omega
  have HX := Lib.hid ha
  clear ha
  clear S eo hd ht hs
  go_enter Tryz.func143, Tryz.ntmps143
  go_wp2_with (refine wpList_load_row rfl 158 (.tmp 5) rfl (w.heap.size + 1) rfl 158 (stC s) (0, 0) _ J.ks.blk Tryz.underlying158 rfl (st_inf hl) ?_)
  refine S'.mono ?_
  rintro e w1 ⟨rfl, b1⟩
  have J1 := J.below b1
  clear b1 J S'
  go_wp2_with (refine wpList_store_blk rfl 139 (.tmp 7) (.tmp 10) rfl w1.heap.size (abA ab0) (abA ⟨ok, ov⟩) 139 rfl rfl (Blk.new_ _ _ _ (by simp)) rfl (abA_inf _) (abA_one _) ?_
               intro w2 hw2 hn2
               have J2 : NJ w w1.heap.size w2 (c, y, z, k) s ⟨ok, ov⟩ := ⟨J1.below (((Below.refl _ _).alloc (Nat.le_refl _) _).trans (hn2.below w1.heap.size (Nat.le_refl _) (by simp))), hw2⟩
               clear hn2 J1 hw2)
  have J0 := J2.drew
  clear J2
  have D' := Lib.hid (calls_keep (S := fun V => NJ w w1.heap.size V (c, y, z, k) s ⟨ok, ov⟩) (fun V V' h hb => h.below hb) (fun V h => D V h.j.kk))
  have U' := Lib.hid (calls_keep (S := fun V => NJ w w1.heap.size V (c, y, z, k) s ⟨ok, ov⟩) (fun V V' h hb => h.below hb) (fun V _ => sure_raw 0 V))
  clear D
  have hne : Nonempty (Sig (fun V => NJ w w1.heap.size V (c, y, z, k) s ⟨ok, ov⟩)) := ⟨⟨_, J0⟩⟩
  refine region_class (S := fun V => NJ w w1.heap.size V (c, y, z, k) s ⟨ok, ov⟩) (by kernel_rfl) (by kernel_rfl) J0 ?_
  have hS1 : ∀ s' : Sig (fun V => NJ w w1.heap.size V (c, y, z, k) s ⟨ok, ov⟩), s'.V.cell? ⟨w1.heap.size, 0, none⟩ = some (.bool ok) := fun s' => s'.h.o.cell 0
  have hS2 : ∀ s' : Sig (fun V => NJ w w1.heap.size V (c, y, z, k) s ⟨ok, ov⟩), s'.V.cell? ⟨w1.heap.size, 1, none⟩ = some (.int .u32 ov) := fun s' => s'.h.o.cell 1
  refine class_load (by rfl) 111 (.tmp 3) rfl w.heap.size rfl _ 111 _ (fun _ h => h.j.ki) Tryz.underlying111 rfl (by kernel_rfl) ?_
  simp only [Act.put, List.setIfInBounds_toArray, List.set_cons_zero, List.set_cons_succ]
  repeat (go_big_quiet_step (first | (go_at_call 139; exact class_call _ D'.out) | (go_at_call 114; exact class_call _ U'.out)))
  refine wpQuiet_nil ?_
  rintro _ ⟨s7, rfl⟩
  have J7 := s7.h
  clear hS1 hS2 hne D' U' J0
  obtain ⟨i0, i1, i2, i3⟩ := J7.j.cells
  simp only at i0 i1 i2 i3
  have T' := T _ J7.j.kk
  clear T
  go_wp2_with fail
  refine T'.mono ?_
  rintro e w8 ⟨rfl, b8⟩
  have J8 := J7.below b8
  obtain ⟨i0, i1, i2, i3⟩ := J8.j.cells
  obtain ⟨a1, a2, _, _⟩ := J8.j.abs
  have q0 : w8.cell? ⟨w1.heap.size, 0, none⟩ = some (.bool ok) := J8.o.cell 0
  have q1 : w8.cell? ⟨w1.heap.size, 1, none⟩ = some (.int .u32 ov) := J8.o.cell 1
  simp only at i0 i1 i2 i3
  clear J7 b8 T'
  rw [HX.out] at a1
  have X' := X _ J8.j.kk
  simp only [valI] at X'
  clear X H
  go_wp2_with fail
  refine X'.mono ?_
  rintro e w9 ⟨A, cp, rfl, h1, h2, h3⟩
  go_wp2_with fail
  go_ret
  exact ⟨A, cp, rfl, h1, h2, J8.j.old.trans (h3.mono J8.j.old.size)⟩
set_option maxRecDepth 100000 in
set_option maxHeartbeats 1000000 in
theorem nx_6 (c y z k : Int) (i : Nat) (hi : (i : Int) ≤ 255) (hq : InsOk c y z k) (s : StS) (hs : StOk s) (w : World) (hK : Kinds w) (ov : Int) (eo : othA (c, y, z, k) s = ⟨false, ov⟩) (hd : decide (c = 60) = false) (ht : decide (formOf c = 5 ∨ formOf c = 6) = true) (ha : s.a.k = true) :
    Calls Tryz.prog 143 #[insV c y z k, .int .i64 (i : Int), stV s] w (NextR (nextL (c, y, z, k) i) w) := by
  have S := fun V (h : Kinds V) => bsecond_any c y z k s hs.len V h
  have D := fun V (h : Kinds V) => divides_any c y z k V h
  have T := fun V (h : Kinds V) => btests_any c y z k V h
  have X := fun V (h : Kinds V) => next_any (c, y, z, k) i V h hq
  have ho := (oth_ok (q := (c, y, z, k)) hq hs).u
  rw [eo] at S ho
  have H := fun V => hd_any c s.a.v ov hq.c0 hq.c1 hs.a.u ho V
  rw [hd] at D
  rw [ht] at T
  have J := IS.new w hK (c, y, z, k) s
  unfold insV stV at S ⊢
  unfold insV at D T
  have S' := S _ J.kk
  have hl := hs.len
  obtain ⟨hc0, hc1, y0, y1, z0, z1, k0, k1⟩ := hq
  have hi0 : 0 ≤ (i : Int) := by omega
  have HX := Lib.hid ha
  clear ha
  clear S eo hd ht hs
  go_enter Tryz.func143, Tryz.ntmps143
  go_wp2_with (refine wpList_load_row rfl 158 (.tmp 5) rfl (w.heap.size + 1) rfl 158 (stC s) (0, 0) _ J.ks.blk Tryz.underlying158 rfl (st_inf hl) ?_)
  refine S'.mono ?_
  rintro e w1 ⟨rfl, b1⟩
  have J1 := J.below b1
  clear b1 J S'
  go_wp2_with (refine wpList_store_blk rfl 139 (.tmp 7) (.tmp 10) rfl w1.heap.size (abA ab0) (abA ⟨false, ov⟩) 139 rfl rfl (Blk.new_ _ _ _ (by simp)) rfl (abA_inf _) (abA_one _) ?_
               intro w2 hw2 hn2
               have J2 : NJ w w1.heap.size w2 (c, y, z, k) s ⟨false, ov⟩ := ⟨J1.below (((Below.refl _ _).alloc (Nat.le_refl _) _).trans (hn2.below w1.heap.size (Nat.le_refl _) (by simp))), hw2⟩
               clear hn2 J1 hw2)
  have J0 := J2.drew
  clear J2
  have D' := Lib.hid (calls_keep (S := fun V => NJ w w1.heap.size V (c, y, z, k) s ⟨false, ov⟩) (fun V V' h hb => h.below hb) (fun V h => D V h.j.kk))
  have U' := Lib.hid (calls_keep (S := fun V => NJ w w1.heap.size V (c, y, z, k) s ⟨false, ov⟩) (fun V V' h hb => h.below hb) (fun V _ => sure_raw 0 V))
  clear D
  have hne : Nonempty (Sig (fun V => NJ w w1.heap.size V (c, y, z, k) s ⟨false, ov⟩)) := ⟨⟨_, J0⟩⟩
  refine region_class (S := fun V => NJ w w1.heap.size V (c, y, z, k) s ⟨false, ov⟩) (by kernel_rfl) (by kernel_rfl) J0 ?_
  have hS1 : ∀ s' : Sig (fun V => NJ w w1.heap.size V (c, y, z, k) s ⟨false, ov⟩), s'.V.cell? ⟨w1.heap.size, 0, none⟩ = some (.bool false) := fun s' => s'.h.o.cell 0
  have hS2 : ∀ s' : Sig (fun V => NJ w w1.heap.size V (c, y, z, k) s ⟨false, ov⟩), s'.V.cell? ⟨w1.heap.size, 1, none⟩ = some (.int .u32 ov) := fun s' => s'.h.o.cell 1
  refine class_load (by rfl) 111 (.tmp 3) rfl w.heap.size rfl _ 111 _ (fun _ h => h.j.ki) Tryz.underlying111 rfl (by kernel_rfl) ?_
  simp only [Act.put, List.setIfInBounds_toArray, List.set_cons_zero, List.set_cons_succ]
  repeat (go_big_quiet_step (first | (go_at_call 139; exact class_call _ D'.out) | (go_at_call 114; exact class_call _ U'.out)))
  refine wpQuiet_nil ?_
  rintro _ ⟨s7, rfl⟩
  have J7 := s7.h
  clear hS1 hS2 hne D' U' J0
  obtain ⟨i0, i1, i2, i3⟩ := J7.j.cells
  simp only at i0 i1 i2 i3
  have T' := T _ J7.j.kk
  clear T
  go_wp2_with fail
  refine T'.mono ?_
  rintro e w8 ⟨rfl, b8⟩
  have J8 := J7.below b8
  obtain ⟨i0, i1, i2, i3⟩ := J8.j.cells
  obtain ⟨a1, a2, _, _⟩ := J8.j.abs
  have q0 : w8.cell? ⟨w1.heap.size, 0, none⟩ = some (.bool false) := J8.o.cell 0
  have q1 : w8.cell? ⟨w1.heap.size, 1, none⟩ = some (.int .u32 ov) := J8.o.cell 1
  simp only at i0 i1 i2 i3
  clear J7 b8 T'
  rw [HX.out] at a1
  have X' := X _ J8.j.kk
  simp only [valI] at X'
  clear X H
  go_wp2_with fail
  refine X'.mono ?_
  rintro e w9 ⟨A, cp, rfl, h1, h2, h3⟩
  go_wp2_with fail
  go_ret
  exact ⟨A, cp, rfl, h1, h2, J8.j.old.trans (h3.mono J8.j.old.size)⟩
set_option maxRecDepth 100000 in
set_option maxHeartbeats 1000000 in
theorem nx_7 (c y z k : Int) (i : Nat) (hi : (i : Int) ≤ 255) (hq : InsOk c y z k) (s : StS) (hs : StOk s) (w : World) (hK : Kinds w) (ov : Int) (eo : othA (c, y, z, k) s = ⟨true, ov⟩) (hd : decide (c = 60) = false) (ht : decide (formOf c = 5 ∨ formOf c = 6) = true) (ha : s.a.k = true) (hh : hdI c s.a.v ov = true) :
    Calls Tryz.prog 143 #[insV c y z k, .int .i64 (i : Int), stV s] w (NextR [i + 1 + y.toNat] w) := by
  have S := fun V (h : Kinds V) => bsecond_any c y z k s hs.len V h
  have D := fun V (h : Kinds V) => divides_any c y z k V h
  have T := fun V (h : Kinds V) => btests_any c y z k V h
  have X := fun V (h : Kinds V) => next_any (c, y, z, k) i V h hq
  have ho := (oth_ok (q := (c, y, z, k)) hq hs).u
  rw [eo] at S ho
  have H := fun V => hd_any c s.a.v ov hq.c0 hq.c1 hs.a.u ho V
  rw [hd] at D
  rw [ht] at T
  rw [hh] at H
  have J := IS.new w hK (c, y, z, k) s
  unfold insV stV at S ⊢
  unfold insV at D T
  have S' := S _ J.kk
  have hl := hs.len
  obtain ⟨hc0, hc1, y0, y1, z0, z1, k0, k1⟩ := hq
  have hi0 : 0 ≤ (i : Int) := by omega
  have HX := Lib.hid ha
  clear ha
  clear S eo hd ht hs hh
  go_enter Tryz.func143, Tryz.ntmps143
  go_wp2_with (refine wpList_load_row rfl 158 (.tmp 5) rfl (w.heap.size + 1) rfl 158 (stC s) (0, 0) _ J.ks.blk Tryz.underlying158 rfl (st_inf hl) ?_)
  refine S'.mono ?_
  rintro e w1 ⟨rfl, b1⟩
  have J1 := J.below b1
  clear b1 J S'
  go_wp2_with (refine wpList_store_blk rfl 139 (.tmp 7) (.tmp 10) rfl w1.heap.size (abA ab0) (abA ⟨true, ov⟩) 139 rfl rfl (Blk.new_ _ _ _ (by simp)) rfl (abA_inf _) (abA_one _) ?_
               intro w2 hw2 hn2
               have J2 : NJ w w1.heap.size w2 (c, y, z, k) s ⟨true, ov⟩ := ⟨J1.below (((Below.refl _ _).alloc (Nat.le_refl _) _).trans (hn2.below w1.heap.size (Nat.le_refl _) (by simp))), hw2⟩
               clear hn2 J1 hw2)
  have J0 := J2.drew
  clear J2
  have D' := Lib.hid (calls_keep (S := fun V => NJ w w1.heap.size V (c, y, z, k) s ⟨true, ov⟩) (fun V V' h hb => h.below hb) (fun V h => D V h.j.kk))
  have U' := Lib.hid (calls_keep (S := fun V => NJ w w1.heap.size V (c, y, z, k) s ⟨true, ov⟩) (fun V V' h hb => h.below hb) (fun V _ => sure_raw 0 V))
  clear D
  have hne : Nonempty (Sig (fun V => NJ w w1.heap.size V (c, y, z, k) s ⟨true, ov⟩)) := ⟨⟨_, J0⟩⟩
  refine region_class (S := fun V => NJ w w1.heap.size V (c, y, z, k) s ⟨true, ov⟩) (by kernel_rfl) (by kernel_rfl) J0 ?_
  have hS1 : ∀ s' : Sig (fun V => NJ w w1.heap.size V (c, y, z, k) s ⟨true, ov⟩), s'.V.cell? ⟨w1.heap.size, 0, none⟩ = some (.bool true) := fun s' => s'.h.o.cell 0
  have hS2 : ∀ s' : Sig (fun V => NJ w w1.heap.size V (c, y, z, k) s ⟨true, ov⟩), s'.V.cell? ⟨w1.heap.size, 1, none⟩ = some (.int .u32 ov) := fun s' => s'.h.o.cell 1
  refine class_load (by rfl) 111 (.tmp 3) rfl w.heap.size rfl _ 111 _ (fun _ h => h.j.ki) Tryz.underlying111 rfl (by kernel_rfl) ?_
  simp only [Act.put, List.setIfInBounds_toArray, List.set_cons_zero, List.set_cons_succ]
  repeat (go_big_quiet_step (first | (go_at_call 139; exact class_call _ D'.out) | (go_at_call 114; exact class_call _ U'.out)))
  refine wpQuiet_nil ?_
  rintro _ ⟨s7, rfl⟩
  have J7 := s7.h
  clear hS1 hS2 hne D' U' J0
  obtain ⟨i0, i1, i2, i3⟩ := J7.j.cells
  simp only at i0 i1 i2 i3
  have T' := T _ J7.j.kk
  clear T
  go_wp2_with fail
  refine T'.mono ?_
  rintro e w8 ⟨rfl, b8⟩
  have J8 := J7.below b8
  obtain ⟨i0, i1, i2, i3⟩ := J8.j.cells
  obtain ⟨a1, a2, _, _⟩ := J8.j.abs
  have q0 : w8.cell? ⟨w1.heap.size, 0, none⟩ = some (.bool true) := J8.o.cell 0
  have q1 : w8.cell? ⟨w1.heap.size, 1, none⟩ = some (.int .u32 ov) := J8.o.cell 1
  simp only at i0 i1 i2 i3
  clear J7 b8 T'
  rw [HX.out] at a1
  clear X
  have H' := H w8
  clear H
  go_wp2_with fail
  refine H'.mono ?_
  rintro e w9 ⟨rfl, b9⟩
  have J9 := J8.below b9
  obtain ⟨i0, i1, i2, i3⟩ := J9.j.cells
  simp only at i0 i1 i2 i3
  clear J8 b9 a1 a2 q0 q1
  go_wp2_with fail
  go_ret
  exact ⟨_, 1, rfl, Nat.le_refl _, by simpa using rn_one _ (i + 1 + y.toNat) _ (by omega), J9.j.old.alloc J9.j.old.size _⟩
set_option maxRecDepth 100000 in
set_option maxHeartbeats 1000000 in
theorem nx_8 (c y z k : Int) (i : Nat) (hi : (i : Int) ≤ 255) (hq : InsOk c y z k) (s : StS) (hs : StOk s) (w : World) (hK : Kinds w) (ov : Int) (eo : othA (c, y, z, k) s = ⟨true, ov⟩) (hd : decide (c = 60) = false) (ht : decide (formOf c = 5 ∨ formOf c = 6) = true) (ha : s.a.k = true) (hh : hdI c s.a.v ov = false) :
    Calls Tryz.prog 143 #[insV c y z k, .int .i64 (i : Int), stV s] w (NextR [i + 1 + z.toNat] w) := by
  have S := fun V (h : Kinds V) => bsecond_any c y z k s hs.len V h
  have D := fun V (h : Kinds V) => divides_any c y z k V h
  have T := fun V (h : Kinds V) => btests_any c y z k V h
  have X := fun V (h : Kinds V) => next_any (c, y, z, k) i V h hq
  have ho := (oth_ok (q := (c, y, z, k)) hq hs).u
  rw [eo] at S ho
  have H := fun V => hd_any c s.a.v ov hq.c0 hq.c1 hs.a.u ho V
  rw [hd] at D
  rw [ht] at T
  rw [hh] at H
  have J := IS.new w hK (c, y, z, k) s
  unfold insV stV at S ⊢
  unfold insV at D T
  have S' := S _ J.kk
  have hl := hs.len
  obtain ⟨hc0, hc1, y0, y1, z0, z1, k0, k1⟩ := hq
  have hi0 : 0 ≤ (i : Int) := by omega
  have HX := Lib.hid ha
  clear ha
  clear S eo hd ht hs hh
  go_enter Tryz.func143, Tryz.ntmps143
  go_wp2_with (refine wpList_load_row rfl 158 (.tmp 5) rfl (w.heap.size + 1) rfl 158 (stC s) (0, 0) _ J.ks.blk Tryz.underlying158 rfl (st_inf hl) ?_)
  refine S'.mono ?_
  rintro e w1 ⟨rfl, b1⟩
  have J1 := J.below b1
  clear b1 J S'
  go_wp2_with (refine wpList_store_blk rfl 139 (.tmp 7) (.tmp 10) rfl w1.heap.size (abA ab0) (abA ⟨true, ov⟩) 139 rfl rfl (Blk.new_ _ _ _ (by simp)) rfl (abA_inf _) (abA_one _) ?_
               intro w2 hw2 hn2
               have J2 : NJ w w1.heap.size w2 (c, y, z, k) s ⟨true, ov⟩ := ⟨J1.below (((Below.refl _ _).alloc (Nat.le_refl _) _).trans (hn2.below w1.heap.size (Nat.le_refl _) (by simp))), hw2⟩
               clear hn2 J1 hw2)
  have J0 := J2.drew
  clear J2
  have D' := Lib.hid (calls_keep (S := fun V => NJ w w1.heap.size V (c, y, z, k) s ⟨true, ov⟩) (fun V V' h hb => h.below hb) (fun V h => D V h.j.kk))
  have U' := Lib.hid (calls_keep (S := fun V => NJ w w1.heap.size V (c, y, z, k) s ⟨true, ov⟩) (fun V V' h hb => h.below hb) (fun V _ => sure_raw 0 V))
  clear D
  have hne : Nonempty (Sig (fun V => NJ w w1.heap.size V (c, y, z, k) s ⟨true, ov⟩)) := ⟨⟨_, J0⟩⟩
  refine region_class (S := fun V => NJ w w1.heap.size V (c, y, z, k) s ⟨true, ov⟩) (by kernel_rfl) (by kernel_rfl) J0 ?_
  have hS1 : ∀ s' : Sig (fun V => NJ w w1.heap.size V (c, y, z, k) s ⟨true, ov⟩), s'.V.cell? ⟨w1.heap.size, 0, none⟩ = some (.bool true) := fun s' => s'.h.o.cell 0
  have hS2 : ∀ s' : Sig (fun V => NJ w w1.heap.size V (c, y, z, k) s ⟨true, ov⟩), s'.V.cell? ⟨w1.heap.size, 1, none⟩ = some (.int .u32 ov) := fun s' => s'.h.o.cell 1
  refine class_load (by rfl) 111 (.tmp 3) rfl w.heap.size rfl _ 111 _ (fun _ h => h.j.ki) Tryz.underlying111 rfl (by kernel_rfl) ?_
  simp only [Act.put, List.setIfInBounds_toArray, List.set_cons_zero, List.set_cons_succ]
  repeat (go_big_quiet_step (first | (go_at_call 139; exact class_call _ D'.out) | (go_at_call 114; exact class_call _ U'.out)))
  refine wpQuiet_nil ?_
  rintro _ ⟨s7, rfl⟩
  have J7 := s7.h
  clear hS1 hS2 hne D' U' J0
  obtain ⟨i0, i1, i2, i3⟩ := J7.j.cells
  simp only at i0 i1 i2 i3
  have T' := T _ J7.j.kk
  clear T
  go_wp2_with fail
  refine T'.mono ?_
  rintro e w8 ⟨rfl, b8⟩
  have J8 := J7.below b8
  obtain ⟨i0, i1, i2, i3⟩ := J8.j.cells
  obtain ⟨a1, a2, _, _⟩ := J8.j.abs
  have q0 : w8.cell? ⟨w1.heap.size, 0, none⟩ = some (.bool true) := J8.o.cell 0
  have q1 : w8.cell? ⟨w1.heap.size, 1, none⟩ = some (.int .u32 ov) := J8.o.cell 1
  simp only at i0 i1 i2 i3
  clear J7 b8 T'
  rw [HX.out] at a1
  clear X
  have H' := H w8
  clear H
  go_wp2_with fail
  refine H'.mono ?_
  rintro e w9 ⟨rfl, b9⟩
  have J9 := J8.below b9
  obtain ⟨i0, i1, i2, i3⟩ := J9.j.cells
  simp only at i0 i1 i2 i3
  clear J8 b9 a1 a2 q0 q1
  go_wp2_with fail
  go_ret
  exact ⟨_, 1, rfl, Nat.le_refl _, by simpa using rn_one _ (i + 1 + z.toNat) _ (by omega), J9.j.old.alloc J9.j.old.size _⟩
theorem bnext_any (q : Ins) (i : Nat) (hi : (i : Int) ≤ 255) (hq : insO q) (s : StS) (hs : StOk s) (w : World) (hK : Kinds w) :
    Calls Tryz.prog 143 #[valI q, .int .i64 (i : Int), stV s] w (NextR (nxtS hdI q i s) w) := by
  obtain ⟨c, y, z, k⟩ := q
  obtain ⟨⟨ok, ov⟩, eo⟩ : ∃ o, othA (c, y, z, k) s = o := ⟨_, rfl⟩
  show Calls Tryz.prog 143 #[insV c y z k, .int .i64 (i : Int), stV s] w (NextR (nxtS hdI (c, y, z, k) i s) w)
  unfold nxtS
  simp only
  by_cases hd : c = 60
  · have hf : decide (formOf c = 5 ∨ formOf c = 6) = false := by subst hd; decide +kernel
    have hf' : ¬ (formOf c = 5 ∨ formOf c = 6) := by simpa using hf
    cases ok
    · rw [if_neg (by rw [eo]; rintro ⟨_, h⟩; cases h), if_pos (.inl hf')]
      exact nx_2 c y z k i hi hq s hs w hK ov eo (by simp [hd]) hf
    · by_cases hv : ov = 0
      · rw [if_pos ⟨hd, by rw [eo, hv]; rfl⟩]
        exact nx_1 c y z k i hi hq s hs w hK ov eo (by simp [hd]) hf (by simpa using hv)
      · rw [if_neg (by rw [eo]; rintro ⟨_, h⟩; cases h; exact hv rfl), if_pos (.inl hf')]
        exact nx_3 c y z k i hi hq s hs w hK ov eo (by simp [hd]) hf (by simpa using hv)
  · rw [if_neg (fun h => hd h.1)]
    by_cases hf' : formOf c = 5 ∨ formOf c = 6
    · cases ha : s.a.k
      · rw [if_pos (.inr (.inl rfl))]
        exact nx_5 c y z k i hi hq s hs w hK ok ov eo (by simpa using hd) (by simpa using hf') ha
      · cases ok
        · rw [if_pos (.inr (.inr (by rw [eo])))]
          exact nx_6 c y z k i hi hq s hs w hK ov eo (by simpa using hd) (by simpa using hf') ha
        · rw [if_neg (by rw [eo]; rintro (h | h | h) <;> first | exact h hf' | cases h), eo]
          cases hh : hdI c s.a.v ov
          · rw [if_neg (by simp)]
            exact nx_8 c y z k i hi hq s hs w hK ov eo (by simpa using hd) (by simpa using hf') ha hh
          · rw [if_pos (by simp)]
            exact nx_7 c y z k i hi hq s hs w hK ov eo (by simpa using hd) (by simpa using hf') ha hh
    · rw [if_pos (.inl hf')]
      exact nx_4 c y z k i hi hq s hs w hK ok ov eo (by simpa using hd) (by simpa using hf')
end Go.Proofs.YtelfdpcenplhjaaGreatDoor
namespace Go.Proofs.YtelfdpcenplhjaaGreatDoor
open Go.RowKit Go.Shelf
attribute [local go_sem] Oper.semAt_some
set_option linter.unusedVariables false
set_option linter.unusedSimpArgs false
set_option maxHeartbeats 1000000 in
theorem onward_any (q : Ins) (i : Nat) (s : StS) (nr arch : Int) (w : World) :
    Calls Tryz.prog 127 #[valI q, .int .i64 (i : Int), stV s, .agg #[.int .u32 nr, .int .u32 arch]] w fun e w' =>
      e = .returned (.func (.func 141) #[] #[.pointer (some ⟨w.heap.size, 0, none⟩), .pointer (some ⟨w.heap.size + 1 + 1, 0, none⟩), .pointer (some ⟨w.heap.size + 1 + 1 + 1, 0, none⟩), .pointer (some ⟨w.heap.size + 1, 0, none⟩)]) ∧
      w' = (((w.alloc (.cells (celI q).toArray 111)).alloc (.cells #[.int .i64 (i : Int)] 3)).alloc (.cells (stC s) 158)).alloc (.cells #[.int .u32 nr, .int .u32 arch] 196) := by
  obtain ⟨c, y, z, k⟩ := q
  unfold stV
  simp only [valI, insV]
  go_enter Tryz.func127, Tryz.ntmps127
  go_wp2
  go_ret
  exact ⟨rfl, rfl⟩
theorem grownB {W W' : World} (h : Below W.heap.size W W') : W.grownBy W' none := ⟨h.os, h.tape, h.output, h.size, fun k hk _ => h.block k hk⟩
def KeepG (ga : Nat) (W W' : World) : Prop := W.heap.size ≤ W'.heap.size ∧ ∀ (k : Nat) (cs : Array Value) (t : TypeId) (fr : Nat × Nat), k ≠ ga → W.heap[k]? = some (.cells cs t fr) → W'.heap[k]? = some (.cells cs t fr)
section
variable {ga : Nat} {A B C W W' : World}
theorem keepG_t (h : KeepG ga A B) (k : KeepG ga B C) : KeepG ga A C := ⟨Nat.le_trans h.1 k.1, fun j cs t fr hj ho => k.2 j cs t fr hj (h.2 j cs t fr hj ho)⟩
theorem keepG_b (ga : Nat) (W : World) (l : Nat) (o o' : Obj) (h : W.heap[l]? = some o) (a : o.isCells = false) : KeepG ga W (W.putObj l o') := by
  refine ⟨by simp [World.putObj], fun j cs t fr hj ho => ?_⟩
  have hne : j ≠ l := by
    rintro rfl
    rw [h] at ho
    cases ho
    cases a
  exact (World.putObj_heap_other hne).trans ho
theorem keepG_below (h : Below W.heap.size W W') : KeepG ga W W' := ⟨h.size, fun j cs t fr _ ho => (h.block j (Array.getElem?_eq_some_iff.1 ho).1).trans ho⟩
theorem keepG_but (h : But ga W W') : KeepG ga W W' := ⟨h.size, fun j cs t fr hj ho => (h.block j (Array.getElem?_eq_some_iff.1 ho).1 hj).trans ho⟩
theorem KeepG.blk (h : KeepG ga W W') {g : Nat} {cs : Array Value} {t : TypeId} (k : Blk W g cs t) (hg : g ≠ ga) : Blk W' g cs t := ⟨h.2 g cs t _ hg k.blk⟩
theorem KeepG.cell (h : KeepG ga W W') {b o : Nat} {v : Value} (hb : b ≠ ga) (hc : W.cell? ⟨b, o, none⟩ = some v) : W'.cell? ⟨b, o, none⟩ = some v := by
  unfold World.cell? at hc ⊢
  cases hh : W.heap[b]? with
  | none => simp [hh] at hc
  | some ob =>
    cases ob with
    | cells cs t fr =>
      rw [h.2 b cs t fr hb hh]
      simpa [hh] using hc
    | _ => simp [hh] at hc
end
structure OJ (W V : World) (ga B6 : Nat) (A : Option Addr) (L : List Nat) (t : StS) : Prop where
  kt : Blk V B6 (stC t) 158
  rn : ∀ k, k < L.length → ∃ b off, A = some ⟨b, off, none⟩ ∧ b ≠ ga ∧ V.cell? ⟨b, off + k, none⟩ = some (.int .i64 ((L.getD k 0 : Nat) : Int))
  sz : W.heap.size < V.heap.size
theorem OJ.keep {W V V' : World} {ga B6 : Nat} {A : Option Addr} {L : List Nat} {t : StS} (h : OJ W V ga B6 A L t) (h6 : B6 ≠ ga) (k : KeepG ga V V') : OJ W V' ga B6 A L t :=
  ⟨k.blk h.kt h6, fun j hj => by
    obtain ⟨b, off, e, hb, hc⟩ := h.rn j hj
    exact ⟨b, off, e, hb, k.cell hb hc⟩, Nat.lt_of_lt_of_le h.sz k.1⟩
set_option maxRecDepth 100000 in
set_option maxHeartbeats 8000000 in
theorem onward_in (n : Nat) (hn : 1 ≤ n) (l ga Bx Bs Bc Bi : Nat) (q : Ins) (i m : Nat) (hi : (i : Int) ≤ 255) (hq : insO q) (h3 : formOf q.1 = 3 → q.2.2.2 < 16) (s : StS) (hs : StOk s) (nr arch : Int) (F : List (Fin m)) (hF : F.map (·.val) = nxtS hdI q i s) (hF2 : F.length ≤ 100) (t : StS) (ht : behS alI nr arch q s = t) (hlt : t.m.length = 16)
    (J : List (Fin m) → World → Prop) (W : World) (hJ : AbidesB W.heap.size J)
    (hY : ∀ pre (p : Fin m) W1, J pre W1 → W.heap.size < W1.heap.size → pre.length < F.length → YieldAt Fence.wide (n - 1) Tryz.prog l #[.int .i64 (p.val : Int), stV t] W1 fun e W' => e = .returned (.bool true) ∧ J (pre ++ [p]) W' ∧ KeepG ga W1 W')
    (hK : Kinds W) (hga : ga < W.heap.size) (hg : ∀ j v x, W.cell? ⟨ga, j, none⟩ = some v → v ≠ .int .i64 x) (kx : Blk W Bx (celI q).toArray 111) (ks : Blk W Bs (stC s) 158) (kc : Blk W Bc #[.int .u32 nr, .int .u32 arch] 196) (ki : Blk W Bi #[.int .i64 (i : Int)] 3) (h0 : J [] W) :
    CallsIn Fence.wide n Tryz.prog 141 #[.func (.yield l) #[] #[], .pointer (some ⟨Bx, 0, none⟩), .pointer (some ⟨Bs, 0, none⟩), .pointer (some ⟨Bc, 0, none⟩), .pointer (some ⟨Bi, 0, none⟩)] W fun e W' => (∃ v, e = .returned v) ∧ ∃ ys, ys = F ∧ J ys W' := by
  have CB := fun V hK => behind_any q hq h3 nr arch s hs V hK
  have CN := fun V hK => bnext_any q i hi hq s hs V hK
  have hlF : F.length = (nxtS hdI q i s).length := by rw [← hF]; simp
  have hgF : ∀ (j : Nat) (h : j < F.length), (nxtS hdI q i s).getD j 0 = (F[j]'h).val := fun j h => by rw [← hF]; simp [List.getD, h]
  obtain ⟨L, hL⟩ : ∃ L, nxtS hdI q i s = L := ⟨_, rfl⟩
  rw [hL] at CN hlF hgF
  rw [ht] at CB
  obtain ⟨c, y, z, k⟩ := q
  simp only [valI, insV, stV] at CB CN
  have xc := fun V (h : Below W.heap.size W V) => (show V.cell? ⟨Bx, 0, none⟩ = some (.int .u16 c) ∧ V.cell? ⟨Bx, 1, none⟩ = some (.int .u8 y) ∧ V.cell? ⟨Bx, 2, none⟩ = some (.int .u8 z) ∧ V.cell? ⟨Bx, 3, none⟩ = some (.int .u32 k) from
    ⟨(kx.below h kx.lt).cell 0, (kx.below h kx.lt).cell 1, (kx.below h kx.lt).cell 2, (kx.below h kx.lt).cell 3⟩)
  have hls := hs.len
  have hi0 : 0 ≤ (i : Int) := by omega
  clear ht hL hF h3 hq hs hi
  refine callsIn_of_wp Tryz.func141 rfl trivial ?_ rfl
  simp only [Tryz.ntmps141, List.size_toArray, List.length_cons, List.length_nil, Nat.reduceAdd, Nat.reduceSub, Array.replicate_succ, Array.replicate_zero, List.push_toArray, List.append_toArray, List.nil_append, List.cons_append]
  refine wpIn_wide.2 ?_
  obtain ⟨x0, x1, x2, x3⟩ := xc W (Below.refl _ _)
  have n0 := kc.cell 0
  have n1 := kc.cell 1
  simp only [List.getElem?_toArray, List.getElem?_cons_zero, List.getElem?_cons_succ] at n0 n1
  go_wp2_with (refine wpList_load_row rfl 158 (.tmp 2) rfl Bs rfl 158 (stC s) (0, 0) _ ks.blk Tryz.underlying158 rfl (st_inf hls) ?_)
  refine (CB _ hK).mono ?_
  rintro e w1 ⟨rfl, b1⟩
  clear CB n0 n1 x0 x1 x2 x3
  go_wp2_with (first
    | (refine wpList_store_blk rfl 158 (.tmp 6) (.tmp 12) rfl w1.heap.size zstL (stC t) 158 rfl rfl (Blk.new_ _ _ _ rfl) (zst_size.trans (st_size hlt).symm) (st_inf hlt) st_one ?_
       intro w2 hw2 hn2
       have b2 : Below W.heap.size W w2 := (b1.alloc b1.size _).trans (hn2.below _ b1.size (by have := b1.size; simp; omega))
       obtain ⟨x0, x1, x2, x3⟩ := xc w2 b2
       have ii := (ki.below b2 ki.lt).cell 0
       simp only [List.getElem?_toArray, List.getElem?_cons_zero] at ii
       have ks2 := ks.below b2 ks.lt
       have hsz2 := b1.size
       clear hn2)
    | (refine wpList_load_row rfl 158 (.tmp 2) rfl Bs rfl 158 (stC s) (0, 0) _ ks2.blk Tryz.underlying158 rfl (st_inf hls) ?_))
  refine (CN _ (hK.below b2 hK.pos)).mono ?_
  rintro e w3 ⟨A, cp, rfl, hcp, hrn, b3⟩
  have b4 : Below W.heap.size W w3 := b2.trans (b3.mono b2.size)
  have h6 : w1.heap.size ≠ ga := by omega
  have M0 : OJ W w3 ga w1.heap.size A L t := ⟨hw2.below b3 hw2.lt, fun j hj => by
    obtain ⟨b, off, e, _, hc⟩ := hrn j hj
    refine ⟨b, off, e, fun e' => ?_, hc⟩
    subst e'
    exact hg _ _ _ ((b4.cell (p := ⟨b, off + j, none⟩) hga).symm.trans hc) rfl, by have := b3.size; have := hw2.lt; omega⟩
  have J0 := hJ _ _ _ none h0 (grownB b4) (fun r e => by cases e)
  clear b1 b2 b3 b4 hrn hw2 x0 x1 x2 x3 ii ks2 hsz2 CN xc kx ks kc ki hK hg h0 hga
  go_wp2_with fail
  try simp only [Act.put]
  refine (wpIn_wide (n := n)).1 ?_
  gi_loopw [18] (fun x wr => ∃ j : Nat, j ≤ L.length ∧ x = .int .i64 j ∧ J (F.take j) wr ∧ OJ W wr ga w1.heap.size A L t) (fun x _ => L.length - (intOf x).toNat)
  case atStart => exact ⟨0, Nat.zero_le _, rfl, J0, M0⟩
  case round =>
    obtain ⟨j, hj, rfl, Jj, Mj⟩ := hrel
    by_cases hlj : j < L.length
    · have hlj' : (j : Int) < (L.length : Int) := by omega
      have hjF : j < F.length := by omega
      have hj100 : (j : Int) < 100 := by omega
      obtain ⟨b, off, rfl, hb, hc⟩ := Mj.rn j hlj
      rw [hgF j hjF] at hc
      have hlen : (F.take j).length < F.length := by rw [List.length_take]; omega
      obtain ⟨fn, tmps, assign, body, hy, hR⟩ := hY (F.take j) F[j] wr Jj Mj.sz hlen
      have htk := Lib.hid ((show F.take j ++ [F[j]] = F.take (j + 1) from by rw [List.take_succ_eq_append_getElem hjF]))
      obtain ⟨x, hx⟩ : ∃ x : Fin m, F[j] = x := ⟨_, rfl⟩
      rw [hx] at hc hy hR
      simp only [hx] at htk
      obtain ⟨xv, hxv⟩ : ∃ v : Nat, x.val = v := ⟨_, rfl⟩
      rw [hxv] at hc hy
      simp only [stV] at hy
      clear hx hxv hlen
      gi_wp2_with (refine wpListIn_load_row rfl 158 (.tmp 6) rfl w1.heap.size rfl 158 (stC t) (0, 0) _ Mj.kt.blk Tryz.underlying158 rfl (st_inf hlt) ?_)
      refine hR.mono ?_
      rintro e W3 ⟨rfl, hJ3, hk3⟩
      have M3 := Mj.keep h6 hk3
      rw [htk.out] at hJ3
      clear hR hy Jj Mj hk3 hc htk
      gi_wp2
      go_roundw
      case rel => exact ⟨j + 1, by omega, by go_num, hJ3, M3⟩
      case measure => simp [intOf]; omega
    · obtain rfl : j = L.length := by omega
      rw [List.take_of_length_le (by omega)] at Jj
      gi_wp2
      go_end0
      exact ⟨⟨_, rfl⟩, F, rfl, Jj⟩
theorem onward_seq (n : Nat) (hn : 1 ≤ n) (ga Bx Bs Bc Bi : Nat) (q : Ins) (i m : Nat) (hi : (i : Int) ≤ 255) (hq : insO q) (h3 : formOf q.1 = 3 → q.2.2.2 < 16) (s : StS) (hs : StOk s) (nr arch : Int) (F : List (Fin m)) (hF : F.map (·.val) = nxtS hdI q i s) (hF2 : F.length ≤ 100) (t : StS) (ht : behS alI nr arch q s = t) (hlt : t.m.length = 16) (w : World)
    (hK : Kinds w) (hga : ga < w.heap.size) (hg : ∀ j v x, w.cell? ⟨ga, j, none⟩ = some v → v ≠ .int .i64 x) (kx : Blk w Bx (celI q).toArray 111) (ks : Blk w Bs (stC s) 158) (kc : Blk w Bc #[.int .u32 nr, .int .u32 arch] 196) (ki : Blk w Bi #[.int .i64 (i : Int)] 3) :
    SeqOwn Fence.wide n Tryz.prog 141 #[.pointer (some ⟨Bx, 0, none⟩), .pointer (some ⟨Bs, 0, none⟩), .pointer (some ⟨Bc, 0, none⟩), .pointer (some ⟨Bi, 0, none⟩)] (fun p : Fin m => #[.int .i64 (p.val : Int), stV t]) (KeepG ga) (fun ys => ys = F) F.length w :=
  fun l J W hW hJ hY h0 => onward_in n hn l ga Bx Bs Bc Bi q i m hi hq h3 s hs nr arch F hF hF2 t ht hlt J W hJ hY (hK.below hW hK.pos) (Nat.lt_of_lt_of_le hga hW.size)
    (fun j v x hc => hg j v x ((hW.cell (p := ⟨ga, j, none⟩) hga).symm.trans hc)) (kx.below hW kx.lt) (ks.below hW ks.lt) (kc.below hW kc.lt) (ki.below hW ki.lt) h0
end Go.Proofs.YtelfdpcenplhjaaGreatDoor
namespace Go.Proofs.YtelfdpcenplhjaaGreatDoor
open Go.RowKit
theorem wrap_U32 (z : Int) : U32 (IntKind.u32.wrap z) := by rw [IntKind.wrap_u32]; unfold U32; omega
theorem div_U32 {a b : Int} (ha : U32 a) (hb : 0 < b) : U32 (a / b) := by
  unfold U32 at *
  have h1 := Int.ediv_nonneg ha.1 (Int.le_of_lt hb)
  have h2 := Int.ediv_le_self b ha.1
  omega
theorem pow_pos' (n : Nat) : (0 : Int) < 2 ^ n := Int.pow_pos (by omega)
theorem al_U32 {op a b v : Int} (ha : U32 a) (hb : U32 b) (h : alI op a b = some v) : U32 v := by
  unfold alI at h
  have hb0 : ∀ x, (if b = 0 then none else some (a / b)) = some x → U32 x := fun x hx => by
    by_cases h0 : b = 0
    · rw [if_pos h0] at hx; cases hx
    · rw [if_neg h0] at hx; injection hx with hx; subst hx
      exact div_U32 ha (by unfold U32 at hb; omega)
  have hw : ∀ {z x : Int}, some (IntKind.u32.wrap z) = some x → U32 x := fun hx => by injection hx with hx; subst hx; exact wrap_U32 _
  have hbt : ∀ {o : BinOp} {x : Int}, some (bits o .u32 a b) = some x → U32 x := fun hx => by injection hx with hx; subst hx; exact wrap_U32 _
  have hs : ∀ {x : Int}, some (a / 2 ^ (min b.toNat 32)) = some x → U32 x := fun hx => by injection hx with hx; subst hx; exact div_U32 ha (pow_pos' _)
  repeat' split at h
  all_goals first | exact hw h | exact hb0 _ h | exact hbt h | exact hs h | (injection h with h; subst h; exact div_U32 ha (by unfold U32 at hb; omega)) | cases h
end Go.Proofs.YtelfdpcenplhjaaGreatDoor

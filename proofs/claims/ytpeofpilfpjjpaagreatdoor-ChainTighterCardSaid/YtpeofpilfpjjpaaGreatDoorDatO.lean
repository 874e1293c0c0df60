/-
  data.Word, data.With; the layer is awake.
-/
import Derived.Test.YtpeofpilfpjjpaaGreatDoorHG
namespace Go.Proofs.YtpeofpilfpjjpaaGreatDoor
open Go.RowKit

theorem word_index (l : List Int) (hl : l.length = 16) (k : Nat) (hk : k < 16) : ∀ w : World, (Instr.index 147 (arrV l) (.int .u32 k)).run Tryz.prog w = .ok (.int .u32 (l.getD k 0)) w := by
  match l, hl with
  | [x0, x1, x2, x3, x4, x5, x6, x7, x8, x9, x10, x11, x12, x13, x14, x15], _ =>
    match k, hk with
    | 0, _ => intro V; kernel_rfl
    | 1, _ => intro V; kernel_rfl
    | 2, _ => intro V; kernel_rfl
    | 3, _ => intro V; kernel_rfl
    | 4, _ => intro V; kernel_rfl
    | 5, _ => intro V; kernel_rfl
    | 6, _ => intro V; kernel_rfl
    | 7, _ => intro V; kernel_rfl
    | 8, _ => intro V; kernel_rfl
    | 9, _ => intro V; kernel_rfl
    | 10, _ => intro V; kernel_rfl
    | 11, _ => intro V; kernel_rfl
    | 12, _ => intro V; kernel_rfl
    | 13, _ => intro V; kernel_rfl
    | 14, _ => intro V; kernel_rfl
    | 15, _ => intro V; kernel_rfl
    | n + 16, h => exact absurd h (by omega)

theorem right_parts (o : Int) (ho : U32 o) (h : rightB o = true) : ∃ k : Nat, k < 16 ∧ o / 4 = (k : Int) ∧ o = 4 * k := by
  unfold rightB at h
  unfold U32 at ho
  simp only [decide_eq_true_eq] at h
  exact ⟨(o / 4).toNat, by omega, by omega, by omega⟩

set_option maxRecDepth 100000 in
set_option maxHeartbeats 1000000 in
theorem word_ok (d : Dat) (h : DatOk d) (o : Int) (ho : U32 o) (hr : rightB o = true) (k : Nat) (hk : k < 16) (ek : o / 4 = (k : Int)) (w : World) :
    Calls Tryz.prog 144 #[datV d, .int .u32 o] w fun e w' => e = .returned (.tuple #[.int .u32 ((wordsL d).getD k 0), .int .i64 0]) ∧ Below w.heap.size w w' := by
  have hi := word_index (wordsL d) (words_len d) k hk
  rw [← ek] at hi
  obtain ⟨x, hx⟩ : ∃ x, (wordsL d).getD k 0 = x := ⟨_, rfl⟩
  rw [hx] at hi ⊢
  have HX := Lib.hid hx
  have HK := Lib.hid ek
  have H := holds_any o ho
  rw [hr] at H
  obtain ⟨o0, o1⟩ := ho
  clear hx ek hr
  have W := fun w => words_any d h w
  unfold datV datC at W ⊢
  go_enter Tryz.func144, Tryz.ntmps144
  go_wp2_with fail
  refine (H _).mono ?_
  rintro e w' ⟨rfl, rfl⟩
  go_wp2_with fail
  refine (W _).mono ?_
  rintro e w2 ⟨rfl, b2⟩
  go_wp2_with fail
  go_ret2
  exact ⟨rfl, ((Below.refl _ _).alloc (Nat.le_refl _) _).trans (b2.mono (by simp))⟩

set_option maxRecDepth 100000 in
set_option maxHeartbeats 1000000 in
theorem word_no (d : Dat) (o : Int) (ho : U32 o) (hr : rightB o = false) (w : World) :
    Calls Tryz.prog 144 #[datV d, .int .u32 o] w fun e w' => e = .returned (.tuple #[.int .u32 0, .int .i64 2]) ∧ Below w.heap.size w w' := by
  have H := holds_any o ho
  rw [hr] at H
  clear hr
  unfold datV datC
  go_enter Tryz.func144, Tryz.ntmps144
  go_wp2_with fail
  refine (H _).mono ?_
  rintro e w' ⟨rfl, rfl⟩
  go_wp2_with fail
  go_ret2
  exact ⟨rfl, (Below.refl _ _).alloc (Nat.le_refl _) _⟩

theorem arr_set (l : List Int) (k : Nat) (x : Int) : (arrC l).setIfInBounds k (.int .u32 x) = arrC (l.set k x) := by
  apply Array.ext'
  simp [arrC, List.map_set]
theorem But.blk {w w' : World} {g g' : Nat} {cs : Array Value} {t : TypeId} (h : But g w w') (k : Blk w g' cs t) (hn : g' ≠ g) : Blk w' g' cs t := ⟨(h.block g' k.lt hn).trans k.blk⟩
theorem wpList_eql_arr {ops : Array Oper} {rest : List Oper} {o : Oper} {a : Act} {w : World} {Q : Exit → Act → World → Prop} (hgd : o.guard = none) (x y : Operand) (ho : o.op = .binOp .eql 147 x y 147)
    (l l' : List Int) (hx : a.eval x = .agg (arrC l)) (hy : a.eval y = .agg (arrC l')) (hl : l.length = 16) (hl' : l'.length = 16) (b : Bool) (hb : decide (l = l') = b)
    (h : wpList Tryz.prog ops Q rest (a.put o.dst (.bool b)) w) : wpList Tryz.prog ops Q (o :: rest) a w := by
  refine wpList_plain hgd fun K hK => ?_
  have hrun := run_eql_arr l l' hl hl' w
  rw [hb] at hrun
  unfold arrV at hrun
  have hg : Tryz.prog.eqGuardType Tryz.prog.depth 147 = false := by kernel_rfl
  unfold Oper.wp execOp
  simp only [ho, hx, hy, Sem.run_bind, run_eqGuard_agg w .eql 147 x y _ _ hg, hrun, Result.andThen_ok]
  exact hK _ _ h

end Go.Proofs.YtpeofpilfpjjpaaGreatDoor

/-
  Laws for operations that stand under a guard: a whole struct or array loaded; two data compared.
-/
import Derived.Test.YtepkhkfdokinmaaDoorDatQ
import Derived.Test.YtepkhkfdokinmaaDoorDatM
namespace Go.Proofs.YtepkhkfdokinmaaDoor
open Go.RowKit

theorem wpList_at {P : Program} {ops : Array Oper} {rest : List Oper} {o : Oper} {a : Act} {w : World} {Q : Exit → Act → World → Prop} (hw : Region.wanted o (yielded ops a.tmps) = true)
    (h : ∀ K : Act → World → Prop, (∀ a w, wpList P ops Q rest a w → K a w) → o.wp P a w K Q) : wpList P ops Q (o :: rest) a w :=
  wpList_step fun K hK => by rw [if_pos hw]; exact h K hK
theorem wpList_load_at {P : Program} {ops : Array Oper} {rest : List Oper} {o : Oper} {a : Act} {w : World} {Q : Exit → Act → World → Prop} (hw : Region.wanted o (yielded ops a.tmps) = true) (ty : TypeId) (x : Operand) (ho : o.op = .load ty x)
    (g : Nat) (hx : a.eval x = .pointer (some ⟨g, 0, none⟩)) (t : TypeId) (cs : Array Value) (d : TypeDesc) (hg : Blk w g cs t)
    (hu : P.underlying ty = some d) (hd : (match d with | .struct _ | .array _ _ => true | _ => false) = true) (hi : (P.info? ty).map (·.size) = some cs.size)
    (h : wpList P ops Q rest (a.put o.dst (.agg cs)) w) : wpList P ops Q (o :: rest) a w :=
  wpList_at hw fun _ hK => wp_load_row ty x ho g hx t cs (0, 0) d hg.blk hu hd hi (hK _ _ h)
theorem run_eql_datV (d d' : Dat) (w : World) : (binOp .eql 32 (.agg (datC d)) (.agg (datC d'))).run Tryd.prog w = .ok (.bool (decide (d = d'))) w := by
  have h := run_eql_dat d d' w
  unfold datV at h
  rw [run_eql_struct, h]
  rfl
theorem run_neq_datV (d d' : Dat) (w : World) : (binOp .neq 32 (.agg (datC d)) (.agg (datC d'))).run Tryd.prog w = .ok (.bool (!decide (d = d'))) w := by
  have h := run_eql_dat d d' w
  unfold datV at h
  rw [run_neq_struct, h]
  rfl
theorem dat_guard : Tryd.prog.eqGuardType Tryd.prog.depth 32 = false := by kernel_rfl
theorem wpList_eql_dat {ops : Array Oper} {rest : List Oper} {o : Oper} {a : Act} {w : World} {Q : Exit → Act → World → Prop} (hw : Region.wanted o (yielded ops a.tmps) = true) (x y : Operand) (ho : o.op = .binOp .eql 32 x y 32)
    (d d' : Dat) (hx : a.eval x = .agg (datC d)) (hy : a.eval y = .agg (datC d')) (b : Bool) (hb : decide (d = d') = b)
    (h : wpList Tryd.prog ops Q rest (a.put o.dst (.bool b)) w) : wpList Tryd.prog ops Q (o :: rest) a w := by
  refine wpList_at hw fun K hK => ?_
  have hrun := run_eql_datV d d' w
  rw [hb] at hrun
  unfold Oper.wp execOp
  simp only [ho, hx, hy, Sem.run_bind, run_eqGuard_agg w .eql 32 x y _ _ dat_guard, hrun, Result.andThen_ok]
  exact hK _ _ h
theorem wpList_neq_dat {ops : Array Oper} {rest : List Oper} {o : Oper} {a : Act} {w : World} {Q : Exit → Act → World → Prop} (hw : Region.wanted o (yielded ops a.tmps) = true) (x y : Operand) (ho : o.op = .binOp .neq 32 x y 32)
    (d d' : Dat) (hx : a.eval x = .agg (datC d)) (hy : a.eval y = .agg (datC d')) (b : Bool) (hb : (!decide (d = d')) = b)
    (h : wpList Tryd.prog ops Q rest (a.put o.dst (.bool b)) w) : wpList Tryd.prog ops Q (o :: rest) a w := by
  refine wpList_at hw fun K hK => ?_
  have hrun := run_neq_datV d d' w
  rw [hb] at hrun
  unfold Oper.wp execOp
  simp only [ho, hx, hy, Sem.run_bind, run_eqGuard_agg w .neq 32 x y _ _ dat_guard, hrun, Result.andThen_ok]
  exact hK _ _ h
theorem dat0_ok : DatOk dat0 := by constructor <;> (unfold dat0; simp only [U32, U64]; omega)
end Go.Proofs.YtepkhkfdokinmaaDoor

/-
  A statement that draws its order, walked once: a whole struct or array loaded, in every world of the class.
-/
import Derived.Test.YtfohifnbohdbcaaClass
import Derived.Test.YtfohifnbohdbcaaBlk
namespace Go.Proofs.Ytfohifnbohdbcaa
open Go.RowKit

theorem class_load {P : Program} {ops : Array Oper} {S : World → Prop} {Q : Act → Prop} {a : Act} {o : Oper} {rest : List Oper} (hw : Region.wanted o (yielded ops a.tmps) = true) (ty : TypeId) (x : Operand) (ho : o.op = .load ty x)
    (g : Nat) (hx : a.eval x = .pointer (some ⟨g, 0, none⟩)) (cs : Array Value) (t : TypeId) (d : TypeDesc) (hS : ∀ w, S w → Blk w g cs t)
    (hu : P.underlying ty = some d) (hd : (match d with | .struct _ | .array _ _ => true | _ => false) = true) (hi : (P.info? ty).map (·.size) = some cs.size)
    (h : wpQuiet P ops (fun w' => ∃ s : Sig S, w' = s.V) Q rest (a.put o.dst (.agg cs))) : wpQuiet P ops (fun w' => ∃ s : Sig S, w' = s.V) Q (o :: rest) a :=
  wpQuiet_step fun K hK => by
    rw [if_pos hw]
    refine ⟨.agg cs, ?_, hK _ h⟩
    rintro w ⟨s, rfl⟩
    unfold Oper.quietAt execOp
    simp only [ho, hx, Instr.loadAt, Instr.sureAddr, Sem.run_bind, Sem.run_pure, Result.andThen_ok, run_loadVar_row s.V g t ty cs (0, 0) d (hS s.V s.h).blk hu hd hi]
    exact ⟨rfl, rfl⟩
/-- What is kept over new blocks is kept by a call that lays new blocks alone. -/
theorem calls_keep {P : Program} {S : World → Prop} {f : FuncId} {args : Array Value} {v : Value} (hb : ∀ V V', S V → Below V.heap.size V V' → S V') (h : ∀ V, S V → Calls P f args V fun e w' => e = .returned v ∧ Below V.heap.size V w') :
    ∀ V, S V → Calls P f args V fun e w' => e = .returned v ∧ S w' := fun V hs => (h V hs).mono fun _ w' ⟨he, hw⟩ => ⟨he, hb V w' hs hw⟩
end Go.Proofs.Ytfohifnbohdbcaa

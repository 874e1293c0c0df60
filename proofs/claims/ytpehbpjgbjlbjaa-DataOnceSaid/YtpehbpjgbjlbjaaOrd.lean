/-
  Regions that draw their order, by hand: a whole struct loaded first; data and words compared first; a cut around a region.
-/
import Derived.Test.YtpehbpjgbjlbjaaDatX
import Derived.Deep.RegionHeld3
namespace Go.Proofs.Ytpehbpjgbjlbjaa
open Go.RowKit

theorem region_cut {P : Program} {id : Nat} {ops : Array Oper} {dr : Bool} {Q : Exit → Act → World → Prop} {a : Act} {w : World} (G : Act → World → Prop)
    (h1 : (Code.region id ops dr).wp P (fun e a' w' => e = .normal ∧ G a' w') a w) (h2 : ∀ a' w', G a' w' → Q .normal a' w') : (Code.region id ops dr).wp P Q a w :=
  Code.wp_mono (fun e a' w' h => by obtain ⟨he, hg⟩ := h; subst he; exact h2 _ _ hg) h1
theorem yieldsIf_load_blk {P : Program} {ops : Array Oper} {S : World → Prop} {o : Oper} {a : Act} (hw : Region.wanted o (yielded ops a.tmps) = true) (ty : TypeId) (x : Operand) (ho : o.op = .load ty x)
    (g : Nat) (hx : a.eval x = .pointer (some ⟨g, 0, none⟩)) (cs : Array Value) (t : TypeId) (d : TypeDesc) (hS : ∀ w, S w → Blk w g cs t)
    (hu : P.underlying ty = some d) (hd : (match d with | .struct _ | .array _ _ => true | _ => false) = true) (hi : (P.info? ty).map (·.size) = some cs.size) : YieldsIf P ops S o (.agg cs) a :=
  .inl ⟨hw, fun w hs => by
    unfold execOp
    simp only [ho, hx, Instr.loadAt, Instr.sureAddr, Sem.run_bind, Sem.run_pure, Result.andThen_ok, run_loadVar_row w g t ty cs (0, 0) d (hS w hs).blk hu hd hi]⟩
theorem yieldsIf_eql_dat {ops : Array Oper} {S : World → Prop} {o : Oper} {a : Act} (hw : Region.wanted o (yielded ops a.tmps) = true) (x y : Operand) (ho : o.op = .binOp .eql 26 x y 26)
    (d d' : Dat) (hx : a.eval x = .agg (datC d)) (hy : a.eval y = .agg (datC d')) : YieldsIf Try.prog ops S o (.bool (decide (d = d'))) a :=
  .inl ⟨hw, fun w _ => by
    unfold execOp
    simp only [ho, hx, hy, Sem.run_bind, run_eqGuard_agg w .eql 26 x y _ _ dat_guard, run_eql_datV, Result.andThen_ok, Sem.run_pure]⟩
theorem yieldsIf_eql_arr {ops : Array Oper} {S : World → Prop} {o : Oper} {a : Act} (hw : Region.wanted o (yielded ops a.tmps) = true) (x y : Operand) (ho : o.op = .binOp .eql 38 x y 38)
    (l l' : List Int) (hl : l.length = 16) (hl' : l'.length = 16) (hx : a.eval x = arrV l) (hy : a.eval y = arrV l') : YieldsIf Try.prog ops S o (.bool (decide (l = l'))) a :=
  .inl ⟨hw, fun w _ => by
    have hg : Try.prog.eqGuardType Try.prog.depth 38 = false := by kernel_rfl
    have hr := run_eql_arr l l' hl hl' w
    unfold execOp
    simp only [ho, hx, hy, Sem.run_bind]
    unfold arrV at hr ⊢
    simp only [run_eqGuard_agg w .eql 38 x y _ _ hg, hr, Result.andThen_ok, Sem.run_pure]⟩

/-- What DataOnce has made for itself. -/
structure OJ (w V : World) (ga gb gt gx : Nat) (a b X : Dat) (o x : Int) : Prop where
  ka : Blk V ga (datC a) 26
  kb : Blk V gb (datC b) 26
  kt : Blk V gt #[.int .u32 o, .int .u32 x] 41
  kx : Blk V gx (datC X) 26
  old : Below w.heap.size w V
  lo : w.heap.size ≤ V.heap.size
theorem OJ.below {w V V' : World} {ga gb gt gx : Nat} {a b X : Dat} {o x : Int} (h : OJ w V ga gb gt gx a b X o x) (hb : Below V.heap.size V V') : OJ w V' ga gb gt gx a b X o x :=
  ⟨h.ka.below hb h.ka.lt, h.kb.below hb h.kb.lt, h.kt.below hb h.kt.lt, h.kx.below hb h.kx.lt, h.old.trans (hb.mono h.lo), Nat.le_trans h.lo hb.size⟩
theorem OJ.alloc {w V : World} {ga gb gt gx : Nat} {a b X : Dat} {o x : Int} (h : OJ w V ga gb gt gx a b X o x) (ob : Obj) : OJ w (V.alloc ob) ga gb gt gx a b X o x := h.below ((Below.refl _ _).alloc (Nat.le_refl _) ob)
theorem OJ.drew {w V : World} {ga gb gt gx : Nat} {a b X : Dat} {o x : Int} (h : OJ w V ga gb gt gx a b X o x) : OJ w V.drew ga gb gt gx a b X o x := h.below (Below.refl _ _).drew
theorem OJ.but {w V V' : World} {ga gb gt gx g : Nat} {a b X : Dat} {o x : Int} (h : OJ w V ga gb gt gx a b X o x) (n : But g V V') (h1 : ga < g) (h2 : gb < g) (h3 : gt < g) (h4 : gx < g) (h5 : w.heap.size ≤ g) : OJ w V' ga gb gt gx a b X o x :=
  ⟨n.blk h.ka (by omega), n.blk h.kb (by omega), n.blk h.kt (by omega), n.blk h.kx (by omega), h.old.trans (n.below _ h5 h.lo), Nat.le_trans h.lo n.size⟩
theorem region_cut2 {P : Program} {id : Nat} {ops : Array Oper} {dr : Bool} {Q : Exit → Act → World → Prop} {a : Act} {w : World} (F : Act → Nat → Nat → Act) (H : Nat → Nat → World → Prop)
    (h1 : (Code.region id ops dr).wp P (fun e a' w' => e = .normal ∧ ∃ g h, a' = F a g h ∧ H g h w') a w) (h2 : ∀ g h w', H g h w' → Q .normal (F a g h) w') : (Code.region id ops dr).wp P Q a w :=
  region_cut (fun a' w' => ∃ g h, a' = F a g h ∧ H g h w') h1 fun _ _ ⟨g, h, e, k⟩ => e ▸ h2 g h _ k
section
variable {w V : World} {ga gb gt gx g : Nat} {a b X : Dat} {o x : Int} {cs cs' : Array Value} {t t' : TypeId}
theorem OJ.new (_h : OJ w (V.alloc (.cells cs t)) ga gb gt gx a b X o x) : Blk (V.alloc (.cells cs t)) V.heap.size cs t := Blk.new _ _ _
theorem OJ.al (_h : OJ w (V.alloc (.cells cs t)) ga gb gt gx a b X o x) (k : Blk V g cs' t') : Blk (V.alloc (.cells cs t)) g cs' t' := k.alloc _
theorem OJ.far (h : OJ w V ga gb gt gx a b X o x) : ga < V.heap.size ∧ gb < V.heap.size ∧ gt < V.heap.size ∧ gx < V.heap.size ∧ w.heap.size ≤ V.heap.size := ⟨h.ka.lt, h.kb.lt, h.kt.lt, h.kx.lt, h.lo⟩
end
theorem region_cut1 {P : Program} {id : Nat} {ops : Array Oper} {dr : Bool} {Q : Exit → Act → World → Prop} {a : Act} {w : World} (F : Act → Act) (H : World → Prop)
    (h1 : (Code.region id ops dr).wp P (fun e a' w' => e = .normal ∧ a' = F a ∧ H w') a w) (h2 : ∀ w', H w' → Q .normal (F a) w') : (Code.region id ops dr).wp P Q a w :=
  region_cut (fun a' w' => a' = F a ∧ H w') h1 fun _ _ ⟨e, k⟩ => e ▸ h2 _ k
theorem yieldsIf_eql_bool {P : Program} {ops : Array Oper} {S : World → Prop} {o : Oper} {a : Act} (hw : Region.wanted o (yielded ops a.tmps) = true) (ty : TypeId) (hu : P.underlying ty = some .bool) (x y : Operand) (ho : o.op = .binOp .eql ty x y ty)
    (b b' : Bool) (hx : a.eval x = .bool b) (hy : a.eval y = .bool b') : YieldsIf P ops S o (.bool (b == b')) a :=
  .inl ⟨hw, fun w _ => by
    unfold execOp
    simp only [ho, hx, hy, Sem.run_bind]
    simp [eqGuard, binOp, Op.equal, Op.maxDepth, run_equalIn_bool' w 9999 ty b b' hu]⟩
theorem yieldsIf_assign {P : Program} {ops : Array Oper} {S : World → Prop} {o : Oper} {a : Act} (hw : Region.wanted o (yielded ops a.tmps) = true) (x : Operand) (ho : o.op = .assign x) (v : Value) (hx : a.eval x = v) : YieldsIf P ops S o v a :=
  .inl ⟨hw, fun w _ => by
    unfold execOp
    simp only [ho, hx, Sem.run_pure]⟩
end Go.Proofs.Ytpehbpjgbjlbjaa

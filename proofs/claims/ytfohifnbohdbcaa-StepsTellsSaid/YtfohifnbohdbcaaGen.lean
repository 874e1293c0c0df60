/-
  Lemmas for ranges over functions and for results that lie in cells; of no program's own.
-/
import Derived.Test.YtfohifnbohdbcaaOwnH
import Derived.Test.YtfohifnbohdbcaaBlk
import Derived.Test.YtfohifnbohdbcaaRgn
import Derived.RangeFuncKeeps
namespace Go.Proofs.Ytfohifnbohdbcaa
open Go.RowKit Go.Shelf
attribute [local go_sem] Oper.semAt_some
set_option linter.unusedVariables false
set_option linter.unusedSimpArgs false

theorem But.blk7 {w w' : World} {g g' : Nat} {cs : Array Value} {t : TypeId} (h : But g w w') (k : Blk w g' cs t) (hn : g' ≠ g) : Blk w' g' cs t := ⟨(h.block g' k.lt hn).trans k.blk⟩
theorem blk_own {W W' : World} {g : Nat} {cs : Array Value} {t : TypeId} {row : Option Nat} (h : Blk W g cs t) (hg : W.grownBy W' row) (hr : ∀ r, row = some r → ∃ o : Obj, W.heap[r]? = some o ∧ o.isCells = false) : Blk W' g cs t := by
  refine ⟨(hg.block g h.lt (fun e => ?_)).trans h.blk⟩
  obtain ⟨o, ho, hc⟩ := hr g e.symm
  rw [h.blk] at ho
  cases ho
  cases hc
theorem results_cells2 {P : Program} {fn : Func} {p q : Tmp} {ty ty2 : TypeId} (h : fn.results = #[.cell p ty, .cell q ty2]) (tmps : Array Value) (w : World) (g g2 : Nat) (t t2 : TypeId) (cs : Array Value) (v : Value) (d : TypeDesc)
    (hp : tmps.getD p undef = .pointer (some ⟨g, 0, none⟩)) (hq : tmps.getD q undef = .pointer (some ⟨g2, 0, none⟩)) (hg : Blk w g cs t) (hu : P.underlying ty = some d) (hd : (match d with | .struct _ | .array _ _ => true | _ => false) = true) (hi : (P.info? ty).map (·.size) = some cs.size)
    (h2 : (loadVar ty2 ⟨g2, 0, none⟩).run P w = .ok v w) :
    (results fn tmps).run P w = .ok (.tuple #[.agg cs, v]) w := by
  have hp' : tmps[p]?.getD undef = .pointer (some ⟨g, 0, none⟩) := by simpa using hp
  have hq' : tmps[q]?.getD undef = .pointer (some ⟨g2, 0, none⟩) := by simpa using hq
  simp [results, h, hp', hq', asAddr, run_loadVar_row w g t ty cs (0, 0) d hg.blk hu hd hi, h2]
theorem bool_load (w : World) (g : Nat) (b : Bool) (t : TypeId) (h : Blk w g #[.bool b] t) : (loadVar 4 ⟨g, 0, none⟩).run Try.prog w = .ok (.bool b) w := by
  have hc := h.cell 0
  simp only [List.getElem?_toArray, List.getElem?_cons_zero] at hc
  have hu := run_underlying Try.underlying4
  simp [go_sem, hu, hc]
theorem find_pre {α β : Type} (f : α → β) (bf : β → Bool) {L : List β} {ini : List α} {x : α} {k : Nat} (h : (ini ++ [x]).map f = L.take (k + 1)) (h1 : ∀ y ∈ ini, bf (f y) = false) (h2 : bf (f x) = true) : L.find? bf = some (f x) := by
  have e : L = ini.map f ++ f x :: L.drop (k + 1) := by
    rw [List.map_append] at h
    conv => lhs; rw [← List.take_append_drop (k + 1) L, ← h]
    simp
  rw [e, List.find?_append]
  have : (ini.map f).find? bf = none := List.find?_eq_none.2 fun y hy => by
    obtain ⟨z, hz, rfl⟩ := List.mem_map.1 hy
    rw [h1 z hz]; simp
  rw [this]
  simp [h2]
theorem find_none7 {α β : Type} (f : α → β) (bf : β → Bool) {L : List β} {xs : List α} (h : xs.map f = L) (h1 : ∀ y ∈ xs, bf (f y) = false) : L.find? bf = none := by
  subst h
  refine List.find?_eq_none.2 fun y hy => ?_
  obtain ⟨z, hz, rfl⟩ := List.mem_map.1 hy
  rw [h1 z hz]; simp
theorem rangeF_push (k : Nat) : List.range k ++ [k] = List.range (k + 1) := (List.range_succ).symm
theorem results_cells2i {P : Program} {fn : Func} {p q : Tmp} {ty ty2 : TypeId} (h : fn.results = #[.cell p ty, .cell q ty2]) (tmps : Array Value) (w : World) (g g2 : Nat) (u v : Value)
    (hp : tmps.getD p undef = .pointer (some ⟨g, 0, none⟩)) (hq : tmps.getD q undef = .pointer (some ⟨g2, 0, none⟩)) (h1 : (loadVar ty ⟨g, 0, none⟩).run P w = .ok u w) (h2 : (loadVar ty2 ⟨g2, 0, none⟩).run P w = .ok v w) :
    (results fn tmps).run P w = .ok (.tuple #[u, v]) w := by
  have hp' : tmps[p]?.getD undef = .pointer (some ⟨g, 0, none⟩) := by simpa using hp
  have hq' : tmps[q]?.getD undef = .pointer (some ⟨g2, 0, none⟩) := by simpa using hq
  simp [results, h, hp', hq', asAddr, h1, h2]
theorem int_load (w : World) (g : Nat) (x : Int) (t : TypeId) (h : Blk w g #[.int .i64 x] t) : (loadVar 3 ⟨g, 0, none⟩).run Try.prog w = .ok (.int .i64 x) w := by
  have hc := h.cell 0
  simp only [List.getElem?_toArray, List.getElem?_cons_zero] at hc
  have hu := run_underlying Try.underlying3
  simp [go_sem, hu, hc]
theorem wpListG_at {P : Program} {ops : Array Oper} {rest : List Oper} {o : Oper} {a : Act} {w : World} {Q : Exit → Act → World → Prop} (hw : Region.wanted o (yielded ops a.tmps) = true)
    (h : ∀ K : Act → World → Prop, (∀ a w, wpList P ops Q rest a w → K a w) → o.wp P a w K Q) : wpList P ops Q (o :: rest) a w :=
  wpList_step fun K hK => by rw [if_pos hw]; exact h K hK
theorem wpListG_load {P : Program} {ops : Array Oper} {rest : List Oper} {o : Oper} {a : Act} {w : World} {Q : Exit → Act → World → Prop} (hw : Region.wanted o (yielded ops a.tmps) = true) (ty : TypeId) (x : Operand) (ho : o.op = .load ty x)
    (g : Nat) (hx : a.eval x = .pointer (some ⟨g, 0, none⟩)) (t : TypeId) (cs : Array Value) (d : TypeDesc) (hg : Blk w g cs t)
    (hu : P.underlying ty = some d) (hd : (match d with | .struct _ | .array _ _ => true | _ => false) = true) (hi : (P.info? ty).map (·.size) = some cs.size)
    (h : wpList P ops Q rest (a.put o.dst (.agg cs)) w) : wpList P ops Q (o :: rest) a w :=
  wpListG_at hw fun _ hK => wp_load_row ty x ho g hx t cs (0, 0) d hg.blk hu hd hi (hK _ _ h)
theorem region_cutP {P : Program} {id : Nat} {ops : Array Oper} {dr : Bool} {Q : Exit → Act → World → Prop} {a : Act} {w : World} (h : (Code.region id ops dr).wp P (fun e a' w' => e = .normal ∧ Q .normal a' w') a w) : (Code.region id ops dr).wp P Q a w :=
  Code.wp_mono (fun e a' w' ⟨he, h⟩ => by subst he; exact h) h
theorem results_cells3 {P : Program} {fn : Func} {p q r : Tmp} {ty ty2 ty3 : TypeId} (h : fn.results = #[.cell p ty, .cell q ty2, .cell r ty3]) (tmps : Array Value) (w : World) (g g2 g3 : Nat) (t : TypeId) (cs : Array Value) (v u : Value) (d : TypeDesc)
    (hp : tmps.getD p undef = .pointer (some ⟨g, 0, none⟩)) (hq : tmps.getD q undef = .pointer (some ⟨g2, 0, none⟩)) (hr : tmps.getD r undef = .pointer (some ⟨g3, 0, none⟩)) (hg : Blk w g cs t) (hu : P.underlying ty = some d) (hd : (match d with | .struct _ | .array _ _ => true | _ => false) = true) (hi : (P.info? ty).map (·.size) = some cs.size)
    (h2 : (loadVar ty2 ⟨g2, 0, none⟩).run P w = .ok v w) (h3 : (loadVar ty3 ⟨g3, 0, none⟩).run P w = .ok u w) :
    (results fn tmps).run P w = .ok (.tuple #[.agg cs, v, u]) w := by
  have hp' : tmps[p]?.getD undef = .pointer (some ⟨g, 0, none⟩) := by simpa using hp
  have hq' : tmps[q]?.getD undef = .pointer (some ⟨g2, 0, none⟩) := by simpa using hq
  have hr' : tmps[r]?.getD undef = .pointer (some ⟨g3, 0, none⟩) := by simpa using hr
  simp [results, h, hp', hq', hr', asAddr, run_loadVar_row w g t ty cs (0, 0) d hg.blk hu hd hi, h2, h3]
end Go.Proofs.Ytfohifnbohdbcaa

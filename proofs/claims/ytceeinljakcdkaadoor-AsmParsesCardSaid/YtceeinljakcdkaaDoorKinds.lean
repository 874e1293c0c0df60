/-
  The table of codes, names and forms, as the program's variable holds it; what of it the walks ask; the answers that are read off it.
-/
import Derived.Test.YtceeinljakcdkaaDoorBase
import Derived.Deep.Strs
import Derived.OpenShut
import Derived.LaidMore
import Derived.Stop.Joined
import Derived.ChangeSame
namespace Go.Proofs.YtceeinljakcdkaaDoor
open Go.RowKit Go.ChangeShapes Go.Deep

/-- Code, name, form. -/
def kT : List (Int × List UInt8 × Int) := [
  (0, [108, 100, 46, 105, 109, 109], 1),
  (1, [108, 100, 120, 46, 105, 109, 109], 1),
  (2, [115, 116], 3),
  (3, [115, 116, 120], 3),
  (4, [97, 100, 100, 46, 107], 1),
  (5, [106, 97], 4),
  (6, [114, 101, 116, 46, 107], 1),
  (7, [116, 97, 120], 0),
  (12, [97, 100, 100, 46, 120], 0),
  (20, [115, 117, 98, 46, 107], 1),
  (21, [106, 101, 113, 46, 107], 5),
  (22, [114, 101, 116, 46, 97], 0),
  (28, [115, 117, 98, 46, 120], 0),
  (29, [106, 101, 113, 46, 120], 6),
  (32, [108, 100, 46, 97, 98, 115], 2),
  (36, [109, 117, 108, 46, 107], 1),
  (37, [106, 103, 116, 46, 107], 5),
  (44, [109, 117, 108, 46, 120], 0),
  (45, [106, 103, 116, 46, 120], 6),
  (52, [100, 105, 118, 46, 107], 1),
  (53, [106, 103, 101, 46, 107], 5),
  (60, [100, 105, 118, 46, 120], 0),
  (61, [106, 103, 101, 46, 120], 6),
  (68, [111, 114, 46, 107], 1),
  (69, [106, 115, 101, 116, 46, 107], 5),
  (76, [111, 114, 46, 120], 0),
  (77, [106, 115, 101, 116, 46, 120], 6),
  (84, [97, 110, 100, 46, 107], 1),
  (92, [97, 110, 100, 46, 120], 0),
  (96, [108, 100, 46, 109, 101, 109], 3),
  (97, [108, 100, 120, 46, 109, 101, 109], 3),
  (100, [108, 115, 104, 46, 107], 1),
  (108, [108, 115, 104, 46, 120], 0),
  (116, [114, 115, 104, 46, 107], 1),
  (124, [114, 115, 104, 46, 120], 0),
  (128, [108, 100, 46, 108, 101, 110], 0),
  (129, [108, 100, 120, 46, 108, 101, 110], 0),
  (132, [110, 101, 103], 0),
  (135, [116, 120, 97], 0),
  (164, [120, 111, 114, 46, 107], 1),
  (172, [120, 111, 114, 46, 120], 0)]
def kAt (i : Nat) : Int × List UInt8 × Int := kT.getD i (0, [], 0)
def kC (i : Nat) : Int := (kAt i).1
def kN (i : Nat) : ByteArray := ⟨(kAt i).2.1.toArray⟩
def kF (i : Nat) : Int := (kAt i).2.2

/-- The variable holds the table. -/
def Kinds (w : World) : Prop := ∀ i, i < 41 → w.cell? ⟨0, i * 3, none⟩ = some (.int .u16 (kC i)) ∧ w.cell? ⟨0, i * 3 + 1, none⟩ = some (.string (kN i)) ∧ w.cell? ⟨0, i * 3 + 2, none⟩ = some (.int .i64 (kF i))
section
variable {w w' : World} {B : Nat}
theorem Kinds.pos (h : Kinds w) : 0 < w.heap.size := World.block_lt_of_cell? w _ (h 0 (by omega)).1
theorem Kinds.keep (h : Kinds w) (hk : ∀ p : Addr, p.block = 0 → w'.cell? p = w.cell? p) : Kinds w' := fun i hi => by
  obtain ⟨a, b, c⟩ := h i hi
  exact ⟨(hk _ rfl).trans a, (hk _ rfl).trans b, (hk _ rfl).trans c⟩
theorem Kinds.below (h : Kinds w) (hb : Below B w w') (hB : 0 < B) : Kinds w' := h.keep fun p hp => hb.cell (by omega)
theorem Kinds.drew (h : Kinds w) : Kinds w.drew := h.keep fun _ _ => rfl
theorem Kinds.alloc (h : Kinds w) (o : Obj) : Kinds (w.alloc o) := h.below ((Below.refl _ _).alloc (Nat.le_refl _) o) h.pos
end

/-- The row of a code, the row of a name. -/
def rowC (c : Int) : Option Nat := (List.range 41).find? fun i => kC i == c
def rowN (s : ByteArray) : Option Nat := (List.range 41).find? fun i => (kN i).toList == s.toList

theorem laid_rows : (Rows.laid_wicketgate_insn_kinds : DataW Unit) = .agg (kT.map fun k => .agg [.lit (.int .u16 k.1), .lit (.string k.2.1), .lit (.int .i64 k.2.2)]) := rfl
theorem kT_len : kT.length = 41 := by decide
theorem cells_kind : Tryd.prog.cellsOf 91 = 3 := by kernel_rfl
theorem cells_u16 : Tryd.prog.cellsOf 29 = 1 := by kernel_rfl
theorem cells_str : Tryd.prog.cellsOf 9 = 1 := by kernel_rfl
theorem cells_int : Tryd.prog.cellsOf 3 = 1 := by kernel_rfl
theorem g_kinds : Tryd.prog.globalNamed "wicketgate/insn.kinds" = some 0 := by kernel_rfl
theorem g_type : (Tryd.prog.globals[0]?).map (·.type) = some 92 := by kernel_rfl

theorem kinds_of_laid {W : World} (h : laidMetH Tryd.prog [("wicketgate/insn.kinds", Rows.laid_wicketgate_insn_kinds)] W) : Kinds W := by
  rw [MakeChecks.laidMetH_plain _ _ _ (by kernel_rfl)] at h
  obtain ⟨ps, ⟨g, t, cs, fuel, p, q, hg, ht, hv, hd, _, _⟩, _, _⟩ := h
  obtain rfl := Option.some.inj (g_kinds.symm.trans hg)
  obtain rfl := Option.some.inj (g_type.symm.trans ht)
  obtain ⟨xs, m, _, ex, _, hl, hel⟩ := DataW.trod_array Tryd.underlying92 hd
  intro r hr
  have hE := hel r hr
  rw [cells_kind, List.getElem?_eq_getElem (by omega)] at hE
  obtain ⟨y0, y1, y2, n, e1, _, h0, h1, h2⟩ := trod_struct3 Tryd.underlying91 hE
  simp only [cells_u16, cells_str, cells_int] at h0 h1 h2
  obtain ⟨z0, c0, e2, _⟩ := DataW.trod_int Tryd.underlying29 h0
  obtain ⟨z1, c1, e3, _⟩ := DataW.trod_string Tryd.underlying9 h1
  obtain ⟨z2, c2, e4, _⟩ := DataW.trod_int Tryd.underlying3 h2
  rw [laid_rows] at ex
  have e5 := (DataW.agg.inj (Prod.mk.inj ex).1).symm
  have e6 : (xs.map (·.1))[r]? = (kT.map fun k => (DataW.agg [.lit (.int .u16 k.1), .lit (.string k.2.1), .lit (.int .i64 k.2.2)] : DataW Unit))[r]? := by rw [e5]
  have hk : r < kT.length := by rw [kT_len]; exact hr
  rw [List.getElem?_map, List.getElem?_map, List.getElem?_eq_getElem (by omega : r < xs.length), List.getElem?_eq_getElem hk, e1, e2, e3, e4] at e6
  simp only [Option.map_some, Option.some.injEq, DataW.agg.injEq, List.cons.injEq, DataW.lit.injEq, Lit.int.injEq, Lit.string.injEq, and_true, true_and] at e6
  obtain ⟨q0, q1, q2⟩ := e6
  have hat : kAt r = kT[r] := by simp [kAt, List.getD, hk]
  refine ⟨?_, ?_, ?_⟩
  · rw [World.var?_cell hg hv (r * 3)]
    have h3 : ((((cs.toList.drop (r * 3)).take 3).drop 0).take 1)[0]? = some (.int .u16 z0) := by rw [c0]; rfl
    have : cs.toList[r * 3]? = some (.int .u16 z0) := by simpa [List.getElem?_take] using h3
    rw [kC, hat, ← q0]
    simpa using this
  · rw [World.var?_cell hg hv (r * 3 + 1)]
    have h3 : ((((cs.toList.drop (r * 3)).take 3).drop 1).take 1)[0]? = some (.string z1) := by rw [c1]; rfl
    have : cs.toList[r * 3 + 1]? = some (.string z1) := by simpa [List.getElem?_take] using h3
    rw [kN, hat, ← q1]
    simpa using this
  · rw [World.var?_cell hg hv (r * 3 + 2)]
    have h3 : ((((cs.toList.drop (r * 3)).take 3).drop 2).take 1)[0]? = some (.int .i64 z2) := by rw [c2]; rfl
    have : cs.toList[r * 3 + 2]? = some (.int .i64 z2) := by simpa [List.getElem?_take] using h3
    rw [kF, hat, ← q2]
    simpa using this
end Go.Proofs.YtceeinljakcdkaaDoor

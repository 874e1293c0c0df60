/-
  The actions' halves and names, as the program's variables hold them; what a word says, as plain functions.
-/
import Derived.Test.YteogdmliimfkbaaDoorBlk
import Derived.Deep.Strs
import Derived.OpenShut
import Derived.LaidMore
import Derived.Stop.Joined
import Derived.ChangeSame
namespace Go.Proofs.YteogdmliimfkbaaDoor
open Go.RowKit Go.ChangeShapes

def hL : List Int := [32768, 0, 3, 5, 32704, 32752, 32764, 32767]
def nL : List (List UInt8) := [[107, 105, 108, 108, 46, 112, 114, 111, 99, 101, 115, 115], [107, 105, 108, 108, 46, 116, 104, 114, 101, 97, 100], [116, 114, 97, 112], [101, 114, 114, 110, 111], [110, 111, 116, 105, 102, 121], [116, 114, 97, 99, 101], [108, 111, 103], [97, 108, 108, 111, 119]]
def hAt (i : Nat) : Int := hL.getD i 0
def nAt (i : Nat) : ByteArray := ⟨(nL.getD i []).toArray⟩
def hC : Array Value := (hL.map (Value.int .u16)).toArray
def nC : Array Value := (nL.map fun s => Value.string ⟨s.toArray⟩).toArray

/-- The variables hold the halves and the names. -/
structure Acts (w : World) : Prop where
  h : ∃ t fr, w.heap[0]? = some (.cells hC t fr)
  n : ∃ t fr, w.heap[1]? = some (.cells nC t fr)
section
variable {w w' : World} {B : Nat}
theorem Acts.pos (h : Acts w) : 1 < w.heap.size := by obtain ⟨t, fr, h⟩ := h.n; exact (Array.getElem?_eq_some_iff.1 h).1
theorem Acts.below (h : Acts w) (hb : Below B w w') (hB : 1 < B) : Acts w' := by
  obtain ⟨⟨t, fr, h1⟩, t', fr', h2⟩ := h
  exact ⟨⟨t, fr, (hb.block 0 (by omega)).trans h1⟩, t', fr', (hb.block 1 (by omega)).trans h2⟩
theorem Acts.drew (h : Acts w) : Acts w.drew := ⟨h.h, h.n⟩
theorem Acts.alloc (h : Acts w) (o : Obj) : Acts (w.alloc o) := h.below ((Below.refl _ _).alloc (Nat.le_refl _) o) h.pos
end

theorem laid_h : (Rows.laid_wicketgate_action_halves : DataW Unit) = .agg (hL.map fun k => .lit (.int .u16 k)) := rfl
theorem laid_n : (Rows.laid_wicketgate_action_names : DataW Unit) = .agg (nL.map fun k => .lit (.string k)) := rfl
theorem cellsH : Tryd.prog.cellsOf 27 = 1 := by kernel_rfl
theorem cellsS : Tryd.prog.cellsOf 9 = 1 := by kernel_rfl
theorem cellsHA : Tryd.prog.cellsOf 56 = 8 := by kernel_rfl
theorem cellsSA : Tryd.prog.cellsOf 58 = 8 := by kernel_rfl
theorem g_h : Tryd.prog.globalNamed "wicketgate/action.halves" = some 0 := by kernel_rfl
theorem g_n : Tryd.prog.globalNamed "wicketgate/action.names" = some 1 := by kernel_rfl
theorem gt_h : (Tryd.prog.globals[0]?).map (·.type) = some 56 := by kernel_rfl
theorem gt_n : (Tryd.prog.globals[1]?).map (·.type) = some 58 := by kernel_rfl

theorem trod_cells {H : Type} {enc : TypeId × Value → H} {P : Program} {w : World} {base : Nat} {spare : Nat → Bool} {held : Bool} {t e : TypeId} {m fuel : Nat} {cs : List Value} {x : DataW H × List MemPlace} (hs : P.underlying t = some (.array m e)) (h : DataW.trod enc P w base spare held fuel t cs = some x) :
    cs.length = P.cellsOf t := by
  cases fuel with
  | zero => simp [DataW.trod] at h
  | succ n =>
    unfold DataW.trod at h
    rw [hs] at h
    simp only at h
    split at h
    · assumption
    · cases h
theorem var_blk {P : Program} {w : World} {n : String} {g : Nat} {cs : Array Value} (hg : P.globalNamed n = some g) (h : w.var? P n = some cs) : ∃ t fr, w.heap[g]? = some (.cells cs t fr) := by
  simp only [World.var?, hg, Option.bind_some] at h
  split at h
  · rename_i cs' t fr hh
    cases h
    exact ⟨t, fr, hh⟩
  · cases h

theorem ints_laid {P : Program} {W : World} {t e : TypeId} {kd : IntKind} {L : List Int} {fuel : Nat} {cs : Array Value} {p : List MemPlace} (hs : P.underlying t = some (.array L.length e)) (he : P.underlying e = some (.int kd)) (hc : P.cellsOf e = 1)
    (h : DataW.trod (fun _ => ()) P W 0 (fun _ => true) false fuel t cs.toList = some (.agg (L.map fun k => .lit (.int kd k)), p)) (hn : P.cellsOf t = L.length) : cs = (L.map (Value.int kd)).toArray := by
  have hlen : cs.toList.length = P.cellsOf t := (trod_cells hs h)
  obtain ⟨xs, m, _, ex, _, hl, hel⟩ := DataW.trod_array hs h
  apply Array.ext'
  apply List.ext_getElem?
  intro r
  rcases Nat.lt_or_ge r L.length with hr | hr
  · have hE := hel r hr
    rw [hc, List.getElem?_eq_getElem (by omega)] at hE
    obtain ⟨z0, c0, e2, _⟩ := DataW.trod_int he hE
    have e5 := (DataW.agg.inj (Prod.mk.inj ex).1).symm
    have e6 : (xs.map (·.1))[r]? = (L.map fun k => (DataW.lit (.int kd k) : DataW Unit))[r]? := by rw [e5]
    rw [List.getElem?_map, List.getElem?_map, List.getElem?_eq_getElem (by omega : r < xs.length), List.getElem?_eq_getElem hr, e2] at e6
    simp only [Option.map_some, Option.some.injEq, DataW.lit.injEq, Lit.int.injEq, true_and] at e6
    have h3 : ((cs.toList.drop (r * 1)).take 1)[0]? = some (.int kd z0) := by rw [c0]; rfl
    have h4 : cs.toList[r]? = some (.int kd z0) := by simpa [List.getElem?_take] using h3
    rw [h4, e6]
    simp [hr]
  · rw [List.getElem?_eq_none (by omega), List.getElem?_eq_none (by simpa using hr)]
theorem strs_laid {P : Program} {W : World} {t e : TypeId} {L : List (List UInt8)} {fuel : Nat} {cs : Array Value} {p : List MemPlace} (hs : P.underlying t = some (.array L.length e)) (he : P.underlying e = some .string) (hc : P.cellsOf e = 1)
    (h : DataW.trod (fun _ => ()) P W 0 (fun _ => true) false fuel t cs.toList = some (.agg (L.map fun k => .lit (.string k)), p)) (hn : P.cellsOf t = L.length) : cs = (L.map fun s => Value.string ⟨s.toArray⟩).toArray := by
  have hlen : cs.toList.length = P.cellsOf t := (trod_cells hs h)
  obtain ⟨xs, m, _, ex, _, hl, hel⟩ := DataW.trod_array hs h
  apply Array.ext'
  apply List.ext_getElem?
  intro r
  rcases Nat.lt_or_ge r L.length with hr | hr
  · have hE := hel r hr
    rw [hc, List.getElem?_eq_getElem (by omega)] at hE
    obtain ⟨z0, c0, e2, _⟩ := DataW.trod_string he hE
    have e5 := (DataW.agg.inj (Prod.mk.inj ex).1).symm
    have e6 : (xs.map (·.1))[r]? = (L.map fun k => (DataW.lit (.string k) : DataW Unit))[r]? := by rw [e5]
    rw [List.getElem?_map, List.getElem?_map, List.getElem?_eq_getElem (by omega : r < xs.length), List.getElem?_eq_getElem hr, e2] at e6
    simp only [Option.map_some, Option.some.injEq, DataW.lit.injEq, Lit.string.injEq] at e6
    have h3 : ((cs.toList.drop (r * 1)).take 1)[0]? = some (.string z0) := by rw [c0]; rfl
    have h4 : cs.toList[r]? = some (.string z0) := by simpa [List.getElem?_take] using h3
    rw [h4]
    simp [hr, ← e6]
  · rw [List.getElem?_eq_none (by omega), List.getElem?_eq_none (by simpa using hr)]

theorem acts_of_laid {W : World} (h : laidMetH Tryd.prog [("wicketgate/action.halves", Rows.laid_wicketgate_action_halves), ("wicketgate/action.names", Rows.laid_wicketgate_action_names)] W) : Acts W := by
  rw [MakeChecks.laidMetH_plain _ _ _ (by kernel_rfl)] at h
  obtain ⟨ps, ⟨g, t, cs, fuel, p, q, hg, ht, hv, hd, ⟨g2, t2, cs2, fuel2, p2, q2, hg2, ht2, hv2, hd2, _, _⟩, _⟩, _, _⟩ := h
  obtain rfl := Option.some.inj (g_h.symm.trans hg)
  obtain rfl := Option.some.inj (gt_h.symm.trans ht)
  obtain rfl := Option.some.inj (g_n.symm.trans hg2)
  obtain rfl := Option.some.inj (gt_n.symm.trans ht2)
  rw [laid_h] at hd
  rw [laid_n] at hd2
  have e1 := ints_laid Tryd.underlying56 Tryd.underlying27 cellsH hd cellsHA
  have e2 := strs_laid Tryd.underlying58 Tryd.underlying9 cellsS hd2 cellsSA
  have b1 := var_blk hg hv
  have b2 := var_blk hg2 hv2
  rw [e1] at b1
  rw [e2] at b2
  exact ⟨b1, b2⟩
end Go.Proofs.YteogdmliimfkbaaDoor

/-
  But, Blk: in one file.
-/
import Derived.Test.YtelfdpcenplhjaaGreatDoorRows
import Derived.WalkKit
import Derived.Lib.Hide
import Derived.Deep.Draws
import Derived.Laws.CopyOwn
import Derived.WalkSmall
import Derived.Deep.Strs
import Derived.OpenShut
import Derived.LaidMore
import Derived.Stop.Joined
import Derived.ChangeSame
import Derived.RangeFuncNested
import Derived.RangeFuncBound
import Derived.RangeFuncCalls
import Derived.RangeFuncLeaves
import Derived.Shelf.Abstract
import Derived.Shelf.RegionOpen
import Derived.OwnWalkIn
import Derived.TacticsInMore
import Derived.LoopNIn
import Derived.LoopIn
import Derived.Maps.AppendAt
import Derived.RegionTactic
import Derived.BigRegion
import Derived.Laws.CopyRow
import Derived.Laws.Rows
namespace Go.Proofs.YtelfdpcenplhjaaGreatDoor
open Go.RowKit
def bv (l : List Int) : List Value := l.map (Value.int .u8)
def Byt (l : List Int) : Prop := ∀ z ∈ l, 0 ≤ z ∧ z ≤ 255
def byt (x : Int) (k : Nat) : Int := x / 2 ^ (8 * k) % 256
def low (x : Int) (n : Nat) : List Int := (List.range n).map (byt x)
theorem Byt.append {a b : List Int} (ha : Byt a) (hb : Byt b) : Byt (a ++ b) := by
  intro z hz
  rcases List.mem_append.1 hz with h | h
  · exact ha z h
  · exact hb z h
theorem Byt.take {a : List Int} (ha : Byt a) (n : Nat) : Byt (a.take n) := fun z hz => ha z (List.mem_of_mem_take hz)
theorem Byt.drop {a : List Int} (ha : Byt a) (n : Nat) : Byt (a.drop n) := fun z hz => ha z (List.mem_of_mem_drop hz)
theorem Byt.at_ {a : List Int} (ha : Byt a) (k : Nat) : 0 ≤ a.getD k 0 ∧ a.getD k 0 ≤ 255 := by
  rcases Nat.lt_or_ge k a.length with h | h
  · have e : a.getD k 0 = a[k] := by simp [List.getD, h]
    rw [e]; exact ha _ (List.getElem_mem h)
  · have e : a.getD k 0 = 0 := by simp [List.getD, h]
    rw [e]; omega
structure Rd (w : World) (B : Nat) (A : Option Addr) (n : Nat) (l : List Int) : Prop where
  len : l.length = n
  byt : Byt l
  cells : 0 < n → ∃ b off, A = some ⟨b, off, none⟩ ∧ b < B ∧ ∀ k, k < n → w.cell? ⟨b, off + k, none⟩ = some (.int .u8 (l.getD k 0))
structure Wh (w : World) (g : Nat) (l : List Int) : Prop where
  byt : Byt l
  blk : w.heap[g]? = some (.cells (bv l).toArray 5 (0, 0))
section
variable {w w' : World} {B B' g n : Nat} {A : Option Addr} {l : List Int}
theorem Rd.nil : Rd w B A 0 [] := ⟨rfl, (by intro z hz; cases hz), fun h => absurd h (by omega)⟩
theorem Rd.keep (h : Rd w B A n l) (hk : ∀ p : Addr, p.block < B → w'.cell? p = w.cell? p) : Rd w' B A n l :=
  ⟨h.len, h.byt, fun hn => by
    obtain ⟨b, off, e, hb, hc⟩ := h.cells hn
    exact ⟨b, off, e, hb, fun k hkn => (hk _ hb).trans (hc k hkn)⟩⟩
theorem Rd.below (h : Rd w B A n l) (hb : Below B w w') : Rd w' B A n l := h.keep fun _ hp => hb.cell hp
theorem Rd.more (h : Rd w B A n l) (hB : B ≤ B') : Rd w B' A n l :=
  ⟨h.len, h.byt, fun hn => by
    obtain ⟨b, off, e, hb, hc⟩ := h.cells hn
    exact ⟨b, off, e, by omega, hc⟩⟩
theorem Rd.drew (h : Rd w B A n l) : Rd w.drew B A n l := h.keep fun _ _ => rfl
theorem Rd.drewN (h : Rd w B A n l) (k : Nat) : Rd (w.drewN k) B A n l := h.keep fun _ _ => rfl
theorem Rd.at_ (h : Rd w B A n l) {k : Nat} (hk : k < n) : ∃ b off, A = some ⟨b, off, none⟩ ∧ b < B ∧ w.cell? ⟨b, off + k, none⟩ = some (.int .u8 (l.getD k 0)) := by
  obtain ⟨b, off, e, hb, hc⟩ := h.cells (by omega)
  exact ⟨b, off, e, hb, hc k hk⟩
theorem Rd.take (h : Rd w B A n l) {k : Nat} (hk : k ≤ n) : Rd w B A k (l.take k) :=
  ⟨by rw [List.length_take, h.len]; omega, h.byt.take k, fun h0 => by
    obtain ⟨b, off, e, hb, hc⟩ := h.cells (by omega)
    refine ⟨b, off, e, hb, fun j hj => ?_⟩
    rw [hc j (by omega)]
    simp [List.getD, hj]⟩
theorem Wh.lt (h : Wh w g l) : g < w.heap.size := by
  rcases Nat.lt_or_ge g w.heap.size with hlt | hge
  · exact hlt
  · have := h.blk; rw [Array.getElem?_eq_none hge] at this; cases this
theorem bv_get (l : List Int) (k : Nat) (hk : k < l.length) : (bv l).toArray[k]? = some (.int .u8 (l.getD k 0)) := by
  simp [bv, List.getD, hk]
theorem Wh.cell (h : Wh w g l) {k : Nat} (hk : k < l.length) : w.cell? ⟨g, k, none⟩ = some (.int .u8 (l.getD k 0)) := by
  rw [← bv_get l k hk]
  simp [World.cell?, h.blk]
theorem Wh.frozen (h : Wh w g l) (k : Nat) : w.frozen? ⟨g, k, none⟩ = false := by simp [World.frozen?, h.blk]
theorem Wh.below (h : Wh w g l) (hb : Below B w w') (hg : g < B) : Wh w' g l := ⟨h.byt, (hb.block g hg).trans h.blk⟩
theorem Wh.drew (h : Wh w g l) : Wh w.drew g l := ⟨h.byt, h.blk⟩
theorem Wh.drewN (h : Wh w g l) (k : Nat) : Wh (w.drewN k) g l := ⟨h.byt, h.blk⟩
theorem Wh.alloc (h : Wh w g l) (o : Obj) : Wh (w.alloc o) g l := ⟨h.byt, (Below.heap_alloc w o g h.lt).trans h.blk⟩
theorem Wh.far (h : Wh w g l) {p : Addr} (hp : g ≠ p.block) (u : Value) : Wh (w.setCell p u) g l := ⟨h.byt, (Below.heap_setCell w p u g hp).trans h.blk⟩
theorem bv_set (l : List Int) (k : Nat) (z : Int) : (bv l).toArray.setIfInBounds k (.int .u8 z) = (bv (l.set k z)).toArray := by
  apply Array.ext'
  simp [bv, List.map_set]
theorem Wh.set_ (h : Wh w g l) (k : Nat) (z : Int) (hz : 0 ≤ z ∧ z ≤ 255) : Wh (w.setCell ⟨g, k, none⟩ (.int .u8 z)) g (l.set k z) := by
  refine ⟨fun y hy => ?_, ?_⟩
  · rcases List.mem_or_eq_of_mem_set hy with h1 | h1
    · exact h.byt y h1
    · subst h1; exact hz
  · rw [← bv_set]
    simp [World.setCell, Array.getElem?_modify, h.blk]
theorem Wh.new (w : World) (l : List Int) (h : Byt l) : Wh (w.alloc (.cells (bv l).toArray 5)) w.heap.size l := ⟨h, heap_alloc_new w _⟩
end
end Go.Proofs.YtelfdpcenplhjaaGreatDoor
namespace Go.Proofs.YtelfdpcenplhjaaGreatDoor
open Go.RowKit Go.ChangeShapes Go.Deep
def kT : List (Int × List UInt8 × Int) := [
  (0, [108, 100, 46, 105, 109, 109], 1),
  (1, [108, 100, 120, 46, 105, 109, 109], 1),
  (2, [115, 116], 3),
  (3, [115, 116, 120], 3),
  (4, [97, 100, 100, 46, 107], 1),
  (5, [106, 97], 4),
  (6, [114, 101, 116, 46, 107], 1),
  (7, [116, 97, 120], 0),
  (12, [97, 100, 100, 46, 120], 0),
  (20, [115, 117, 98, 46, 107], 1),
  (21, [106, 101, 113, 46, 107], 5),
  (22, [114, 101, 116, 46, 97], 0),
  (28, [115, 117, 98, 46, 120], 0),
  (29, [106, 101, 113, 46, 120], 6),
  (32, [108, 100, 46, 97, 98, 115], 2),
  (36, [109, 117, 108, 46, 107], 1),
  (37, [106, 103, 116, 46, 107], 5),
  (44, [109, 117, 108, 46, 120], 0),
  (45, [106, 103, 116, 46, 120], 6),
  (52, [100, 105, 118, 46, 107], 1),
  (53, [106, 103, 101, 46, 107], 5),
  (60, [100, 105, 118, 46, 120], 0),
  (61, [106, 103, 101, 46, 120], 6),
  (68, [111, 114, 46, 107], 1),
  (69, [106, 115, 101, 116, 46, 107], 5),
  (76, [111, 114, 46, 120], 0),
  (77, [106, 115, 101, 116, 46, 120], 6),
  (84, [97, 110, 100, 46, 107], 1),
  (92, [97, 110, 100, 46, 120], 0),
  (96, [108, 100, 46, 109, 101, 109], 3),
  (97, [108, 100, 120, 46, 109, 101, 109], 3),
  (100, [108, 115, 104, 46, 107], 1),
  (108, [108, 115, 104, 46, 120], 0),
  (116, [114, 115, 104, 46, 107], 1),
  (124, [114, 115, 104, 46, 120], 0),
  (128, [108, 100, 46, 108, 101, 110], 0),
  (129, [108, 100, 120, 46, 108, 101, 110], 0),
  (132, [110, 101, 103], 0),
  (135, [116, 120, 97], 0),
  (164, [120, 111, 114, 46, 107], 1),
  (172, [120, 111, 114, 46, 120], 0)]
def kAt (i : Nat) : Int × List UInt8 × Int := kT.getD i (0, [], 0)
def kC (i : Nat) : Int := (kAt i).1
def kN (i : Nat) : ByteArray := ⟨(kAt i).2.1.toArray⟩
def kF (i : Nat) : Int := (kAt i).2.2
def Kinds (w : World) : Prop := ∀ i, i < 41 → w.cell? ⟨1, i * 3, none⟩ = some (.int .u16 (kC i)) ∧ w.cell? ⟨1, i * 3 + 1, none⟩ = some (.string (kN i)) ∧ w.cell? ⟨1, i * 3 + 2, none⟩ = some (.int .i64 (kF i))
section
variable {w w' : World} {B : Nat}
theorem Kinds.pos (h : Kinds w) : 1 < w.heap.size := World.block_lt_of_cell? w _ (h 0 (by omega)).1
theorem Kinds.keep (h : Kinds w) (hk : ∀ p : Addr, p.block = 1 → w'.cell? p = w.cell? p) : Kinds w' := fun i hi => by
  obtain ⟨a, b, c⟩ := h i hi
  exact ⟨(hk _ rfl).trans a, (hk _ rfl).trans b, (hk _ rfl).trans c⟩
theorem Kinds.below (h : Kinds w) (hb : Below B w w') (hB : 1 < B) : Kinds w' := h.keep fun p hp => hb.cell (by omega)
theorem Kinds.drew (h : Kinds w) : Kinds w.drew := h.keep fun _ _ => rfl
theorem Kinds.alloc (h : Kinds w) (o : Obj) : Kinds (w.alloc o) := h.below ((Below.refl _ _).alloc (Nat.le_refl _) o) h.pos
end
def rowC (c : Int) : Option Nat := (List.range 41).find? fun i => kC i == c
theorem laid_rows : (Rows.laid_wicketgate_insn_kinds : DataW Unit) = .agg (kT.map fun k => .agg [.lit (.int .u16 k.1), .lit (.string k.2.1), .lit (.int .i64 k.2.2)]) := rfl
theorem kT_len : kT.length = 41 := by decide
theorem cells_kind : Tryz.prog.cellsOf 177 = 3 := by kernel_rfl
theorem cells_u16 : Tryz.prog.cellsOf 65 = 1 := by kernel_rfl
theorem cells_str : Tryz.prog.cellsOf 9 = 1 := by kernel_rfl
theorem cells_int : Tryz.prog.cellsOf 3 = 1 := by kernel_rfl
theorem g_kinds : Tryz.prog.globalNamed "wicketgate/insn.kinds" = some 1 := by kernel_rfl
theorem g_type : (Tryz.prog.globals[1]?).map (·.type) = some 178 := by kernel_rfl
end Go.Proofs.YtelfdpcenplhjaaGreatDoor
namespace Go.Proofs.YtelfdpcenplhjaaGreatDoor
open Go.RowKit Go.Shelf
attribute [local go_sem] Oper.semAt_some
theorem range_push (k : Nat) : List.range k ++ [k] = List.range (k + 1) := (List.range_succ).symm
theorem seq_two {e : Ending} {P Q : Prop} (h : (e = .returned (.bool true) ∧ P) ∨ (e = .returned (.bool false) ∧ Q)) : ∃ g : Bool, e = .returned (.bool g) ∧ ((g = true ∧ P) ∨ (g = false ∧ Q)) := by
  rcases h with ⟨e, p⟩ | ⟨e, q⟩
  · exact ⟨true, e, .inl ⟨rfl, p⟩⟩
  · exact ⟨false, e, .inr ⟨rfl, q⟩⟩
set_option maxRecDepth 100000 in
set_option maxHeartbeats 2000000 in
theorem seq_in (n : Nat) (hn : 1 ≤ n) (l n₀ : Nat) (h0n : 1 < n₀) (J Jx : List Nat → World → Prop)
    (hY : ∀ pre x W, J pre W → pre.length < 41 → x < 41 → YieldAt Fence.wide (n - 1) Tryz.prog l #[.int .u16 (kC x), .string (kN x)] W fun e W' =>
      (e = .returned (.bool true) ∧ J (pre ++ [x]) W' ∧ Below n₀ W W') ∨ (e = .returned (.bool false) ∧ Jx (pre ++ [x]) W'))
    (hD : ∀ pre W, J pre W → J pre W.drew)
    (W : World) (hK : Kinds W) (h0 : J [] W) :
    CallsIn Fence.wide n Tryz.prog 137 #[.func (.yield l) #[] #[]] W fun e W' => (∃ v, e = .returned v) ∧
      ((∃ ys, ys = List.range 41 ∧ J ys W') ∨ (∃ pre, (∃ k, k ≤ 41 ∧ pre = List.range k) ∧ Jx pre W')) := by
  refine callsIn_of_wp Tryz.func137 rfl trivial ?_ rfl
  simp only [Tryz.ntmps137, List.size_toArray, List.length_cons, List.length_nil, Nat.reduceAdd, Nat.reduceSub, Array.replicate_succ, Array.replicate_zero, List.push_toArray, List.append_toArray, List.nil_append, List.cons_append]
  gi_wp2
  gi_loopw [3] (fun i wr => ∃ k : Nat, k ≤ 41 ∧ i = .int .i64 k ∧ J (List.range k) wr ∧ Below n₀ W wr)
    (fun i _ => 41 - (intOf i).toNat)
  case atStart => exact ⟨0, Nat.zero_le _, rfl, h0, Below.refl _ _⟩
  case round =>
    obtain ⟨k, hk, rfl, hJs, hnx⟩ := hrel
    by_cases hlt : k < 41
    · obtain ⟨c1, c2, _⟩ := (hK.below hnx h0n).drew k hlt
      obtain ⟨fn, tmps, assign, body, hy, hR⟩ := hY _ k wr.drew (hD _ _ hJs) (by simp; exact hlt) hlt
      have hlt' : (k : Int) < 41 := by omega
      gi_wp2
      gi_region_with (refine hR.mono ?_; intro e W3 h3; obtain ⟨g, rfl, hg⟩ := seq_two h3; clear h3)
      all_goals (rcases hg with ⟨rfl, hJ3, hk3⟩ | ⟨rfl, h4⟩)
      all_goals gi_wp2
      all_goals (try (refine bodyPost_ret (results_none rfl _ _ _) rfl ?_; exact ⟨⟨_, rfl⟩, .inr ⟨_, ⟨k + 1, by omega, range_push k⟩, h4⟩⟩))
      all_goals exact ⟨⟨k + 1, by omega, by go_num, by rw [← range_push]; exact hJ3, hnx.drew.trans hk3⟩, by simp [intOf]; omega⟩
    · obtain rfl : k = 41 := by omega
      gi_wp2
      go_end0
      exact ⟨⟨_, rfl⟩, .inl ⟨_, rfl, hJs⟩⟩
theorem seq_stops (n : Nat) (hn : 1 ≤ n) (n₀ : Nat) (h0n : 1 < n₀) (w : World) (hn₀ : n₀ ≤ w.heap.size) (hK : Kinds w) :
    SeqStopsK Fence.wide n Tryz.prog 137 #[] (fun x : Nat => #[Value.int .u16 (kC x), Value.string (kN x)]) (Below n₀) (fun ys => ys = List.range 41) (fun pre => ∃ k, k ≤ 41 ∧ pre = List.range k) 41 w :=
  fun l J Jx W hW hJ _ hY h0 =>
    seq_in n hn l n₀ h0n J Jx (fun pre x W1 h1 h2 _ => hY pre x W1 h1 h2) (fun pre W1 h => hJ pre W1 _ none h ⟨rfl, rfl, rfl, Nat.le_refl _, fun _ _ _ => rfl⟩ (fun r e => by cases e)) W (hK.below (hW.mono hn₀) h0n) h0
end Go.Proofs.YtelfdpcenplhjaaGreatDoor
namespace Go.Proofs.YtelfdpcenplhjaaGreatDoor
open Go.RowKit Go.Shelf
attribute [local go_sem] Oper.semAt_some
theorem find_first {p : Nat → Bool} {k last : Nat} {ini : List Nat} (hk : k ≤ 41) (e : List.range k = ini ++ [last]) (h1 : ∀ i ∈ ini, p i = false) (h2 : p last = true) : (List.range 41).find? p = some last := by
  have h : List.range 41 = List.range k ++ (List.range (41 - k)).map (k + ·) := by
    rw [← List.range_add]; congr 1; omega
  have h3 : ini.find? p = none := List.find?_eq_none.2 fun i hi => by rw [h1 i hi]; simp
  rw [h, e, List.find?_append, List.find?_append, h3]
  simp [h2]
theorem find_none {p : Nat → Bool} (h1 : ∀ i ∈ List.range 41, p i = false) : (List.range 41).find? p = none :=
  List.find?_eq_none.2 fun i hi => by rw [h1 i hi]; simp
def nameOf (c : Int) : ByteArray × Bool := match rowC c with | some i => (kN i, true) | none => (⟨#[]⟩, false)
theorem set_two {W : World} {a b : Nat} {u1 u2 : Value} (v1 v2 : Value) (hab : a ≠ b) (h1 : W.cell? ⟨a, 0, none⟩ = some u1) (h2 : W.cell? ⟨b, 0, none⟩ = some u2) :
    ((W.setCell ⟨a, 0, none⟩ v1).setCell ⟨b, 0, none⟩ v2).cell? ⟨a, 0, none⟩ = some v1 ∧ ((W.setCell ⟨a, 0, none⟩ v1).setCell ⟨b, 0, none⟩ v2).cell? ⟨b, 0, none⟩ = some v2 := by
  refine ⟨?_, ?_⟩
  · rw [World.cell?_setCell_other _ _ _ _ (by intro e; cases e; exact hab rfl)]
    exact World.cell?_setCell_same' _ _ _ (by rw [h1]; rfl)
  · refine World.cell?_setCell_same' _ _ _ ?_
    rw [World.cell?_setCell_other _ _ _ _ (by intro e; cases e; exact hab rfl), h2]
    rfl
theorem kept_two {W : World} {D a b : Nat} {u1 u2 : Value} (hK : W.heap[D]? = some (.deferred (some []))) (h1 : W.cell? ⟨a, 0, none⟩ = some u1) (h2 : W.cell? ⟨b, 0, none⟩ = some u2) :
    (W.putObj D (.deferred none)).cell? ⟨a, 0, none⟩ = some u1 ∧ (W.putObj D (.deferred none)).cell? ⟨b, 0, none⟩ = some u2 :=
  ⟨cell_kept h1 (grownBy_putObj' _ D (.deferred none)) (fun r e => by cases e; exact ⟨_, hK, rfl⟩), cell_kept h2 (grownBy_putObj' _ D (.deferred none)) (fun r e => by cases e; exact ⟨_, hK, rfl⟩)⟩
theorem keeps_two (W : World) (p q : Addr) (u v : Value) (B : Nat) : KeepsFrom B W ((W.setCell p u).setCell q v) := ((KeepsOthers.setCell W p u).trans (KeepsOthers.setCell _ q v)).from B
theorem two_same {W : World} {D : Nat} {p q : Addr} {u v : Value} (hK : W.heap[D]? = some (.deferred (some []))) : ((W.setCell p u).setCell q v).heap[D]? = some (.deferred (some [])) :=
  ((KeepsOthers.setCell W p u).trans (KeepsOthers.setCell _ q v)).same D _ hK rfl
theorem below_two {B : Nat} {w W : World} (h : Below B w W) {a b : Nat} (ha : B ≤ a) (hb : B ≤ b) (u v : Value) : Below B w ((W.setCell ⟨a, 0, none⟩ u).setCell ⟨b, 0, none⟩ v) :=
  (h.setCell (p := ⟨a, 0, none⟩) ha u).setCell (p := ⟨b, 0, none⟩) hb v
set_option maxHeartbeats 1000000 in
theorem codes_in (n : Nat) (w : World) : CallsIn Fence.wide n Tryz.prog 117 #[] w fun e w' => e = .returned (.func (.func 137) #[] #[]) ∧ w' = w := by
  refine callsIn_of_wp Tryz.func117 rfl trivial ?_ rfl
  simp only [Tryz.ntmps117, List.size_toArray, List.length_nil, Nat.reduceSub, Array.replicate_succ, Array.replicate_zero, List.push_toArray, List.append_toArray, List.nil_append]
  gi_wp2
  go_ret
  exact ⟨rfl, rfl⟩
set_option maxRecDepth 100000 in
set_option maxHeartbeats 4000000 in
theorem name_in (c : Int) (w : World) (hK : Kinds w) :
    CallsIn Fence.wide 6 Tryz.prog 102 #[.int .u16 c] w fun e w' => e = .returned (.tuple #[.string (nameOf c).1, .bool (nameOf c).2]) ∧ Below w.heap.size w w' := by
  refine callsIn_of_wp_marks Tryz.func102 rfl trivial ?_ rfl
  simp only [Tryz.ntmps102, List.size_toArray, List.length_cons, List.length_nil, Nat.reduceAdd, Nat.reduceSub, Array.replicate_succ, Array.replicate_zero, List.push_toArray, List.append_toArray, List.nil_append, List.cons_append]
  gi_wp2_with (refine ⟨trivial, ?_⟩; gi_at_call 117; refine (codes_in _ _).mono ?_; rintro e w' ⟨rfl, rfl⟩)
  have b0 := Boxed.new w 65 (.int .u16 c)
  have b1 := Boxed.new (w.alloc (.cells #[.int .u16 c] 65)) 9 (.string ⟨#[]⟩)
  have b2 := Boxed.new ((w.alloc (.cells #[.int .u16 c] 65)).alloc (.cells #[.string ⟨#[]⟩] 9)) 4 (.bool false)
  simp only [World.size_alloc] at b1 b2
  have hB0 : Below w.heap.size w (((w.alloc (.cells #[.int .u16 c] 65)).alloc (.cells #[.string ⟨#[]⟩] 9)).alloc (.cells #[.bool false] 4)) :=
    (((Below.refl _ w).alloc (Nat.le_refl _) _).alloc (by simp) _).alloc (by simp; omega) _
  have hpos := hK.pos
  refine wpIn_rangeFunc_ownG rfl (by omega) (gf := 137) (lb := #[]) rfl trivial (enters_of Tryz.func137 (by kernel_rfl) rfl)
    (seq_stops 5 (by omega) w.heap.size hpos _ hB0.size (hK.below hB0 hpos)) belowK_t (belowK_b hB0.size) (Below.refl _ _) (fun _ => rfl)
    (fun pre W => ((∀ i ∈ pre, (kC i == c) = false) ∧ W.cell? ⟨w.heap.size, 0, none⟩ = some (.int .u16 c) ∧ W.cell? ⟨w.heap.size + 1, 0, none⟩ = some (.string ⟨#[]⟩) ∧ W.frozen? ⟨w.heap.size + 1, 0, none⟩ = false ∧
      W.cell? ⟨w.heap.size + 1 + 1, 0, none⟩ = some (.bool false) ∧ W.frozen? ⟨w.heap.size + 1 + 1, 0, none⟩ = false) ∧ Below w.heap.size w W)
    (fun cd pre W => (cd = .ret ∧ ∃ ini last, pre = ini ++ [last] ∧ (∀ i ∈ ini, (kC i == c) = false) ∧ (kC last == c) = true ∧ W.cell? ⟨w.heap.size + 1, 0, none⟩ = some (.string (kN last)) ∧ W.cell? ⟨w.heap.size + 1 + 1, 0, none⟩ = some (.bool true)) ∧ Below w.heap.size w W)
    (OwnFrom.and (Own.from (fun s A B row hs hg hr => ⟨hs.1, cell_kept hs.2.1 hg hr, cell_kept hs.2.2.1 hg hr, (frozen_kept hs.2.2.1 hg hr).trans hs.2.2.2.1, cell_kept hs.2.2.2.2.1 hg hr, (frozen_kept hs.2.2.2.2.1 hg hr).trans hs.2.2.2.2.2⟩) _) (ownFrom_below (Nat.le_refl _) hB0.size))
    (fun cd => OwnFrom.and (Own.from (fun s A B row hs hg hr => by obtain ⟨hc, ini, last, e1, e2, e3, e4, e5⟩ := hs; exact ⟨hc, ini, last, e1, e2, e3, cell_kept e4 hg hr, cell_kept e5 hg hr⟩) _) (ownFrom_below (Nat.le_refl _) hB0.size))
    ⟨⟨by simp, ((b0.alloc _).alloc _).cell, (b1.alloc _).cell, (b1.alloc _).frozen, b2.cell, b2.frozen⟩, hB0⟩
    (fun x => { tmps := #[.int .u16 c, .pointer (some ⟨w.heap.size, 0, none⟩), .pointer (some ⟨w.heap.size + 1, 0, none⟩), .pointer (some ⟨w.heap.size + 1 + 1, 0, none⟩), .int .u16 (kC x), .string (kN x), .func (.func 137) #[] #[], .int .u16 (kC x), .string (kN x), undef, undef, undef, undef], defers := [] }) ?assign ?body ?done ?stop
  case assign =>
    intro l x W K hK
    gi_wp2
    exact hK
  case body =>
    rintro l pre x W ⟨⟨hp, hc0, hc1, hf1, hc2, hf2⟩, hB⟩ _
    cases hx : (kC x == c)
    · gi_wp2
      exact ⟨KeepsFrom.refl _ _, Below.refl _ _, ⟨fun i hi => (List.mem_append.1 hi).elim (hp i) (fun e => by simp at e; subst e; exact hx), hc0, hc1, hf1, hc2, hf2⟩, hB⟩
    · gi_wp2
      obtain ⟨q1, q2⟩ := set_two (.string (kN x)) (.bool true) (by omega) hc1 hc2
      exact ⟨keeps_two _ _ _ _ _ _, ⟨rfl, pre, x, rfl, hp, hx, q1, q2⟩, below_two hB (by omega) (by omega) _ _⟩
  case done =>
    rintro D ys W hD rfl ⟨⟨hne, hc0, hc1, hf1, hc2, hf2⟩, hB⟩ hK
    gi_wp2
    obtain ⟨q1, q2⟩ := set_two (.string ⟨#[]⟩) (.bool false) (by omega : w.heap.size + 1 ≠ w.heap.size + 1 + 1) hc1 hc2
    have hK' := two_same (p := ⟨w.heap.size + 1, 0, none⟩) (q := ⟨w.heap.size + 1 + 1, 0, none⟩) (u := .string ⟨#[]⟩) (v := .bool false) hK
    obtain ⟨r1, r2⟩ := kept_two hK' q1 q2
    have hn : nameOf c = (⟨#[]⟩, false) := by simp only [nameOf, rowC, find_none hne]
    refine ⟨by simp, .inl ⟨_, _, rfl, run_takeDeferred hK', ?_⟩⟩
    refine ⟨.tuple #[.string ⟨#[]⟩, .bool false], ?_, by rw [hn], (below_two hB (by omega) (by omega) _ _).trans (belowK_b (w := w) (Nat.le_refl _) _ D _ _ (by simp at hD; omega) hK' rfl rfl)⟩
    simp [results, Tryz.f102, go_sem, r1, r2]
  case stop =>
    rintro D cd pre W hD ⟨k, hk, rfl⟩ ⟨⟨rfl, ini, last, e1, e2, e3, hc1, hc2⟩, hB⟩ hK
    gi_wp2
    obtain ⟨r1, r2⟩ := kept_two hK hc1 hc2
    have hn : nameOf c = (kN last, true) := by simp only [nameOf, rowC, find_first hk e1 e2 e3]
    refine ⟨by simp, .inl ⟨_, _, rfl, run_takeDeferred hK, ?_⟩⟩
    refine ⟨.tuple #[.string (kN last), .bool true], ?_, by rw [hn], hB.trans (belowK_b (w := w) (Nat.le_refl _) W D _ _ (by simp at hD; omega) hK rfl rfl)⟩
    simp [results, Tryz.f102, go_sem, r1, r2]
theorem name_any (c : Int) (w : World) (hK : Kinds w) :
    Calls Tryz.prog 102 #[.int .u16 c] w fun e w' => e = .returned (.tuple #[.string (nameOf c).1, .bool (nameOf c).2]) ∧ Below w.heap.size w w' := callsIn_wide.1 (name_in c w hK)
end Go.Proofs.YtelfdpcenplhjaaGreatDoor
namespace Go.Proofs.YtelfdpcenplhjaaGreatDoor
open Go.RowKit
def formOf (c : Int) : Int := match rowC c with | some i => kF i | none => -1
set_option maxHeartbeats 1000000 in
theorem form_any (c : Int) (w : World) (hK : Kinds w) : Calls Tryz.prog 103 #[.int .u16 c] w fun e w' => e = .returned (.int .i64 (formOf c)) ∧ w' = w := by
  go_enter Tryz.func103, Tryz.ntmps103
  go_wp2
  go_loopw [4] (fun i wr => ∃ k : Nat, k ≤ 41 ∧ i = .int .i64 k ∧ (∀ j ∈ List.range k, (kC j == c) = false) ∧ wr = w) (fun i _ => 41 - (intOf i).toNat)
  case atStart => exact ⟨0, Nat.zero_le _, rfl, by simp, rfl⟩
  case round =>
    obtain ⟨k, hk, rfl, hp, rfl⟩ := hrel
    by_cases hlt : k < 41
    · obtain ⟨c1, _, c3⟩ := hK k hlt
      have hlt' : (k : Int) < 41 := by omega
      cases hx : (kC k == c)
      · go_wp2
        go_roundw
        case rel => exact ⟨k + 1, by omega, by go_num, fun j hj => by rw [← range_push] at hj; exact (List.mem_append.1 hj).elim (hp j) (fun e => by simp at e; subst e; exact hx), trivial⟩
        case measure => simp [intOf]; omega
      · go_wp2
        have hf : formOf c = kF k := by simp only [formOf, rowC, find_first (k := k + 1) (by omega) (range_push k).symm hp hx]
        rw [hf]
        go_ret
        exact ⟨rfl, rfl⟩
    · obtain rfl : k = 41 := by omega
      go_wp2
      have hf : formOf c = -1 := by simp only [formOf, rowC, find_none hp]
      rw [hf]
      go_ret
      exact ⟨rfl, rfl⟩
theorem form_cases (c : Int) : formOf c = -1 ∨ formOf c = 0 ∨ formOf c = 1 ∨ formOf c = 2 ∨ formOf c = 3 ∨ formOf c = 4 ∨ formOf c = 5 ∨ formOf c = 6 := by
  unfold formOf
  cases h : rowC c with
  | none => exact .inl rfl
  | some i =>
    have hi := List.mem_of_find?_eq_some h
    have hall : ((List.range 41).all fun i => decide (0 ≤ kF i ∧ kF i ≤ 6)) = true := by decide
    have := List.all_eq_true.1 hall i hi
    simp only [decide_eq_true_eq] at this
    simp only
    omega
def insV (c a b k : Int) : Value := .agg #[.int .u16 c, .int .u8 a, .int .u8 b, .int .u32 k]
end Go.Proofs.YtelfdpcenplhjaaGreatDoor
namespace Go.Proofs.YtelfdpcenplhjaaGreatDoor
open Go.RowKit
theorem own_slice {w : World} {base e size n : Nat} {v : Value} {xs : List Value} (h : w.ownsRow base e size v n xs) : ∃ A c, v = .slice A n c := by
  rcases h.2 with ⟨e, h0⟩ | ⟨g, cap, cur, e, _⟩
  · exact ⟨none, 0, by rw [e, h0]⟩
  · exact ⟨_, _, e⟩
theorem own_head {w : World} {base e size n : Nat} {v : Value} {xs : List Value} (h : w.ownsRow base e size v n xs) (hn : 0 < n) : ∃ g c, v = .slice (some ⟨g, 0, none⟩) n c ∧ g < w.heap.size ∧ ∀ j u, xs[j]? = some u → w.cell? ⟨g, j, none⟩ = some u := by
  rcases h.2 with ⟨_, h0⟩ | ⟨g, cap, cur, e, _, hh, _⟩
  · omega
  · subst e
    refine ⟨g, cap, rfl, ?_, fun j u hj => ?_⟩
    · rcases Nat.lt_or_ge g w.heap.size with h1 | h1
      · exact h1
      · rw [Array.getElem?_eq_none h1] at hh; cases hh
    · have := h.cells (g := g) rfl j u hj
      have ea : (⟨g, 0, none⟩ : Addr).add j = ⟨g, j, none⟩ := by unfold Addr.add; by_cases h0 : j = 0 <;> simp [h0]
      rwa [ea] at this
theorem keeps_below {W W' : World} (h : Below W.heap.size W W') : KeepsOthers W W' :=
  ⟨h.size, fun k _ hk _ => (h.block k (Array.getElem?_eq_some_iff.1 hk).1).trans hk⟩
theorem boxed_below {W W' : World} {B B' : Nat} {t : TypeId} {v : Value} (h : Boxed W B t v) (hb : Below B' W W') (hB : B < B') : Boxed W' B t v := (hb.block B hB).trans h
theorem below_drewN {B : Nat} {w w' : World} (h : Below B w w') (n : Nat) : Below B w (w'.drewN n) := ⟨h.os, h.tape, h.output, h.size, h.block⟩
theorem ownsRow_below {w w' : World} {base e size n B : Nat} {v : Value} {xs : List Value} (h : w.ownsRow base e size v n xs) (hb : Below B w w') (hB : w.heap.size ≤ B) : w'.ownsRow base e size v n xs := by
  refine ⟨h.1, ?_⟩
  rcases h.2 with h0 | ⟨g, cap, cur, hv, hg, hh, r⟩
  · exact .inl h0
  · have hlt : g < w.heap.size := by
      rcases Nat.lt_or_ge g w.heap.size with h1 | h1
      · exact h1
      · rw [Array.getElem?_eq_none h1] at hh; cases hh
    exact .inr ⟨g, cap, cur, hv, hg, (hb.block g (by omega)).trans hh, r⟩
theorem own_base {w : World} {b b' e size n : Nat} {v : Value} {xs : List Value} (h : w.ownsRow b e size v n xs) (hb : b' ≤ b) : w.ownsRow b' e size v n xs := by
  refine ⟨h.1, ?_⟩
  rcases h.2 with h0 | ⟨g, cap, cur, hv, hg, r⟩
  · exact .inl h0
  · exact .inr ⟨g, cap, cur, hv, Nat.le_trans hb hg, r⟩
theorem add_none {x : Addr} {k : Nat} {w : World} {v : Value} (h : w.cell? (x.add k) = some v) (h0 : ∃ v0, w.cell? (x.add 0) = some v0) : x = ⟨x.block, x.off, none⟩ ∧ x.block < w.heap.size ∧ w.cell? ⟨x.block, x.off + k, none⟩ = some v := by
  obtain ⟨b, off, spot⟩ := x
  obtain ⟨v0, h0⟩ := h0
  obtain rfl : spot = none := by simpa [Addr.add] using World.cell?_spot h0
  have e : (⟨b, off, none⟩ : Addr).add k = ⟨b, off + k, none⟩ := by unfold Addr.add; by_cases hk : k = 0 <;> simp [hk]
  have hb := World.block_lt_of_cell? w _ h
  rw [e] at h hb
  exact ⟨rfl, hb, h⟩
end Go.Proofs.YtelfdpcenplhjaaGreatDoor
namespace Go.Proofs.YtelfdpcenplhjaaGreatDoor
open Go.RowKit
structure InsOk (c a b k : Int) : Prop where
  c0 : 0 ≤ c
  c1 : c ≤ 65535
  a0 : 0 ≤ a
  a1 : a ≤ 255
  b0 : 0 ≤ b
  b1 : b ≤ 255
  k0 : 0 ≤ k
  k1 : k ≤ 4294967295
abbrev Ins := Int × Int × Int × Int
def insO (x : Ins) : Prop := InsOk x.1 x.2.1 x.2.2.1 x.2.2.2
def valI (x : Ins) : Value := insV x.1 x.2.1 x.2.2.1 x.2.2.2
def Ri (w : World) (B : Nat) (A : Option Addr) (n : Nat) (f : Nat → Ins) : Prop := ∀ k, k < n → ∃ b off, A = some ⟨b, off, none⟩ ∧ b < B ∧
  (w.cell? ⟨b, off + k * 4, none⟩ = some (.int .u16 (f k).1) ∧ w.cell? ⟨b, off + k * 4 + 1, none⟩ = some (.int .u8 (f k).2.1) ∧ w.cell? ⟨b, off + k * 4 + 2, none⟩ = some (.int .u8 (f k).2.2.1) ∧ w.cell? ⟨b, off + k * 4 + 3, none⟩ = some (.int .u32 (f k).2.2.2)) ∧ insO (f k)
theorem Ri.below {w w' : World} {B B' n : Nat} {A : Option Addr} {f : Nat → Ins} (h : Ri w B A n f) (hb : Below B' w w') (hB : B ≤ B') : Ri w' B A n f := fun k hk => by
  obtain ⟨b, off, e, h1, ⟨c0, c1, c2, c3⟩, ho⟩ := h k hk
  have hlt := Nat.lt_of_lt_of_le h1 hB
  exact ⟨b, off, e, h1, ⟨(hb.cell (p := ⟨b, off + k * 4, none⟩) hlt).trans c0, (hb.cell (p := ⟨b, off + k * 4 + 1, none⟩) hlt).trans c1, (hb.cell (p := ⟨b, off + k * 4 + 2, none⟩) hlt).trans c2, (hb.cell (p := ⟨b, off + k * 4 + 3, none⟩) hlt).trans c3⟩, ho⟩
theorem Ri.more {w : World} {B B' n : Nat} {A : Option Addr} {f : Nat → Ins} (h : Ri w B A n f) (hB : B ≤ B') : Ri w B' A n f := fun k hk => by
  obtain ⟨b, off, e, h1, r⟩ := h k hk
  exact ⟨b, off, e, by omega, r⟩
def celI (x : Ins) : List Value := [.int .u16 x.1, .int .u8 x.2.1, .int .u8 x.2.2.1, .int .u32 x.2.2.2]
theorem cel_one (x : Ins) : ∀ u ∈ celI x, u.oneCell' = true := by
  intro u hu
  simp only [celI, List.mem_cons, List.not_mem_nil, or_false] at hu
  rcases hu with rfl | rfl | rfl | rfl <;> rfl
theorem insn_info : (Tryz.prog.info? 111).map (fun i => (i.zero, i.size, i.bytes)) = some (some (.agg #[.int .u16 0, .int .u8 0, .int .u8 0, .int .u32 0]), 4, 8) := by kernel_rfl
theorem cel_flat_len (f : Nat → Ins) (m : Nat) : ((List.range m).flatMap fun k => celI (f k)).length = m * 4 := by
  induction m with
  | zero => rfl
  | succ m ih => rw [List.range_succ, List.flatMap_append, List.length_append, ih]; simp [celI]; omega
theorem cel_flat_get (f : Nat → Ins) (m k : Nat) (hk : k < m) : ((List.range m).flatMap fun k => celI (f k))[k * 4]? = some (.int .u16 (f k).1) ∧ ((List.range m).flatMap fun k => celI (f k))[k * 4 + 1]? = some (.int .u8 (f k).2.1) ∧
    ((List.range m).flatMap fun k => celI (f k))[k * 4 + 2]? = some (.int .u8 (f k).2.2.1) ∧ ((List.range m).flatMap fun k => celI (f k))[k * 4 + 3]? = some (.int .u32 (f k).2.2.2) := by
  induction m with
  | zero => omega
  | succ m ih =>
    have hl := cel_flat_len f m
    rw [List.range_succ, List.flatMap_append]
    rcases Nat.lt_or_ge k m with h | h
    · obtain ⟨a, b, c, d⟩ := ih h
      rw [List.getElem?_append_left (by omega), List.getElem?_append_left (by omega), List.getElem?_append_left (by omega), List.getElem?_append_left (by omega)]
      exact ⟨a, b, c, d⟩
    · obtain rfl : k = m := by omega
      rw [List.getElem?_append_right (by omega), List.getElem?_append_right (by omega), List.getElem?_append_right (by omega), List.getElem?_append_right (by omega), hl]
      simp [celI]
theorem ri_of_own {w : World} {base m c : Nat} {A : Option Addr} {f : Nat → Ins} (h : w.ownsRow base 111 4 (.slice A m c) m ((List.range m).flatMap fun k => celI (f k))) (hf : ∀ k, k < m → insO (f k)) : Ri w w.heap.size A m f ∧ m ≤ c := by
  refine ⟨fun k hk => ?_, ?_⟩
  · obtain ⟨g, c', hv, hg, hcs⟩ := own_head h (by omega)
    injection hv with hA _ _
    obtain ⟨a, b, cc, d⟩ := cel_flat_get f m k hk
    refine ⟨g, 0, hA, hg, ⟨?_, ?_, ?_, ?_⟩, hf k hk⟩
    · rw [Nat.zero_add]; exact hcs _ _ a
    · rw [Nat.zero_add]; exact hcs _ _ b
    · rw [Nat.zero_add]; exact hcs _ _ cc
    · rw [Nat.zero_add]; exact hcs _ _ d
  · rcases h.2 with ⟨hv, h0⟩ | ⟨g, cap, cur, hv, _, _, hnc, _⟩
    · omega
    · injection hv with _ _ h3
      omega
theorem run_few {w : World} (ty : TypeId) (g : Nat) (hg : w.heap[g]? = some (.cells #[] 111 (0, 0))) (A : Option Addr) (B m c : Nat) (f : Nat → Ins) (hA : Ri w B A m f) (hm : m ≤ 300) :
    ∃ A'' c'' w', (Builtin.append_ #[25, 25] ty #[.slice (some ⟨g, 0, none⟩) 0 0, .slice A m c]).run Tryz.prog w = .ok (.slice A'' m c'') w' ∧ w'.ownsRow g 111 4 (.slice A'' m c'') m ((List.range m).flatMap fun k => celI (f k)) ∧ Below g w w' := by
  obtain ⟨i, hi, hz, hs1, hb1⟩ := info_parts insn_info
  have hown : w.ownsRow g 111 4 (.slice (some ⟨g, 0, none⟩) 0 0) 0 [] := ⟨rfl, .inr ⟨g, 0, #[], rfl, Nat.le_refl _, hg, Nat.le_refl _, by simp [maxLen], rfl, rfl⟩⟩
  have hlt : g < w.heap.size := (Array.getElem?_eq_some_iff.1 hg).1
  rcases Nat.eq_zero_or_pos m with rfl | hp
  · refine ⟨some ⟨g, 0, none⟩, 0, w, ?_, hown, Below.refl _ _⟩
    cases A <;> simp [Builtin.append_, run_underlying Tryz.underlying25, sizeOf, typeInfo, hi, Builtin.lenOf, Builtin.firstCells, storeCells, loadCells, loadCellsFrom]
  · obtain ⟨b, off, rfl, _⟩ := hA 0 hp
    have hcell : ∀ j u, ((List.range m).flatMap fun k => celI (f k))[j]? = some u → w.cell? ((⟨b, off, none⟩ : Addr).add j) = some u := by
      intro j u hj
      have hl := cel_flat_len f m
      have hjl : j < m * 4 := by
        rcases Nat.lt_or_ge j (m * 4) with h | h
        · exact h
        · rw [List.getElem?_eq_none (by omega)] at hj; cases hj
      have ea : (⟨b, off, none⟩ : Addr).add j = ⟨b, off + j, none⟩ := by
        unfold Addr.add
        by_cases h0 : j = 0 <;> simp [h0]
      obtain ⟨b', off', e, _, ⟨c0, c1, c2, c3⟩, _⟩ := hA (j / 4) (by omega)
      cases e
      obtain ⟨a0, a1, a2, a3⟩ := cel_flat_get f m (j / 4) (by omega)
      rw [ea]
      have hd : j = j / 4 * 4 ∨ j = j / 4 * 4 + 1 ∨ j = j / 4 * 4 + 2 ∨ j = j / 4 * 4 + 3 := by omega
      rcases hd with h | h | h | h
      · rw [h, a0] at hj; rw [h, ← hj]; exact c0
      · rw [h, a1] at hj; rw [h, ← hj, ← Nat.add_assoc]; exact c1
      · rw [h, a2] at hj; rw [h, ← hj, ← Nat.add_assoc]; exact c2
      · rw [h, a3] at hj; rw [h, ← hj, ← Nat.add_assoc]; exact c3
    obtain ⟨v', w', hrun, h2, h3, _, _⟩ := run_append_own_at (P := Tryz.prog) w g 25 ty 111 i _ 4 8 Tryz.underlying25 hi hz hs1 hb1 rfl (by decide) _ 0 [] hown ⟨b, off, none⟩ m c ((List.range m).flatMap fun k => celI (f k)) (cel_flat_len f m) hcell
      (by intro u hu; obtain ⟨k, _, hk⟩ := List.mem_flatMap.1 hu; exact cel_one _ u hk) (by simp only [maxLen]; omega) (by omega) (Nat.le_of_lt hlt)
    rw [Nat.zero_add] at h2
    obtain ⟨A'', c'', rfl⟩ := own_slice h2
    exact ⟨A'', c'', w', hrun, by simpa using h2, (Below.refl _ _).grown h3 (Nat.le_of_lt hlt) fun k hk => (hown.lt k hk).1⟩
theorem wpList_few {w : World} {ops : Array Oper} {rest : List Oper} {o : Oper} {a : Act} {Q : Exit → Act → World → Prop} (hgd : o.guard = none) (s x : Operand)
    (ho : o.op = .call { callee := .builtin .append, args := #[s, x], argTypes := #[25, 25] })
    (g : Nat) (hs : a.eval s = .slice (some ⟨g, 0, none⟩) 0 0) (hg : w.heap[g]? = some (.cells #[] 111 (0, 0))) (A : Option Addr) (B m c : Nat) (f : Nat → Ins) (hx : a.eval x = .slice A m c) (hA : Ri w B A m f) (hm : m ≤ 300)
    (h : ∀ A'' c'' w', w'.ownsRow g 111 4 (.slice A'' m c'') m ((List.range m).flatMap fun k => celI (f k)) → Below g w w' → wpList Tryz.prog ops Q rest (a.put o.dst (.slice A'' m c'')) w') :
    wpList Tryz.prog ops Q (o :: rest) a w := by
  refine wpList_plain hgd fun K hK => ?_
  obtain ⟨A'', c'', w', hrun, h1, h2⟩ := run_few o.type g hg A B m c f hA hm
  unfold Oper.wp execOp
  simp only [ho, resolve, invoke, builtin, Sem.run_bind, Sem.run_pure, Result.andThen_ok, List.map_toArray, List.map_cons, List.map_nil, hs, hx, hrun]
  exact hK _ _ (h A'' c'' w' h1 h2)
theorem Ri.ok {w : World} {B n : Nat} {A : Option Addr} {f : Nat → Ins} (h : Ri w B A n f) : ∀ k, k < n → insO (f k) := fun k hk => by
  obtain ⟨_, _, _, _, _, ho⟩ := h k hk
  exact ho
end Go.Proofs.YtelfdpcenplhjaaGreatDoor
namespace Go.Proofs.YtelfdpcenplhjaaGreatDoor
open Go.RowKit
structure One (w : World) (g : Nat) (v : Value) (t : TypeId) : Prop where
  blk : w.heap[g]? = some (.cells #[v] t (0, 0))
theorem One.lt {w : World} {g : Nat} {v : Value} {t : TypeId} (h : One w g v t) : g < w.heap.size := by
  rcases Nat.lt_or_ge g w.heap.size with hlt | hge
  · exact hlt
  · have := h.blk; rw [Array.getElem?_eq_none hge] at this; cases this
theorem One.cell {w : World} {g : Nat} {v : Value} {t : TypeId} (h : One w g v t) : w.cell? ⟨g, 0, none⟩ = some v := by simp [World.cell?, h.blk]
theorem One.free {w : World} {g : Nat} {v : Value} {t : TypeId} (h : One w g v t) : w.frozen? ⟨g, 0, none⟩ = false := by simp [World.frozen?, h.blk]
theorem One.set_ {w : World} {g : Nat} {v : Value} {t : TypeId} (h : One w g v t) (u : Value) : One (w.setCell ⟨g, 0, none⟩ u) g u t :=
  ⟨by simp [World.setCell, Array.getElem?_modify, h.blk]⟩
theorem One.far {w : World} {g : Nat} {v : Value} {t : TypeId} (h : One w g v t) {p : Addr} (hp : g ≠ p.block) (u : Value) : One (w.setCell p u) g v t :=
  ⟨(Below.heap_setCell w p u g hp).trans h.blk⟩
theorem One.drew {w : World} {g : Nat} {v : Value} {t : TypeId} (h : One w g v t) : One w.drew g v t := ⟨h.blk⟩
structure But (g : Nat) (w w' : World) : Prop where
  os : w'.os = w.os
  tape : w'.tape = w.tape
  output : w'.output = w.output
  size : w.heap.size ≤ w'.heap.size
  block : ∀ k, k < w.heap.size → k ≠ g → w'.heap[k]? = w.heap[k]?
section
variable {g : Nat} {w w' w'' : World}
theorem But.refl (g : Nat) (w : World) : But g w w := ⟨rfl, rfl, rfl, Nat.le_refl _, fun _ _ _ => rfl⟩
theorem But.trans (h : But g w w') (k : But g w' w'') : But g w w'' :=
  ⟨k.os.trans h.os, k.tape.trans h.tape, k.output.trans h.output, Nat.le_trans h.size k.size, fun i hi hn => (k.block i (Nat.lt_of_lt_of_le hi h.size) hn).trans (h.block i hi hn)⟩
theorem But.drew (h : But g w w') : But g w w'.drew := ⟨h.os, h.tape, h.output, h.size, h.block⟩
theorem But.alloc (h : But g w w') (o : Obj) : But g w (w'.alloc o) :=
  h.trans ⟨rfl, rfl, rfl, by simp, fun k hk _ => Below.heap_alloc _ _ _ hk⟩
theorem But.setCell (h : But g w w') {p : Addr} (hp : p.block = g ∨ w.heap.size ≤ p.block) (u : Value) : But g w (w'.setCell p u) := by
  refine ⟨h.os, h.tape, h.output, by simpa [World.setCell] using h.size, fun k hk hn => ?_⟩
  rw [Below.heap_setCell _ _ _ _ (by rcases hp with rfl | hp <;> omega)]
  exact h.block k hk hn
theorem But.below (h : But g w w') (B : Nat) (hB : B ≤ g) (hs : B ≤ w.heap.size) : Below B w w' :=
  ⟨h.os, h.tape, h.output, h.size, fun k hk => h.block k (by omega) (by omega)⟩
theorem But.of_below (h : Below w.heap.size w w') (g : Nat) : But g w w' := ⟨h.os, h.tape, h.output, h.size, fun k hk _ => h.block k hk⟩
theorem But.one {g' : Nat} {v : Value} {t : TypeId} (h : But g w w') (hw : One w g' v t) (hn : g' ≠ g) : One w' g' v t := ⟨(h.block g' hw.lt hn).trans hw.blk⟩
end
end Go.Proofs.YtelfdpcenplhjaaGreatDoor
namespace Go.Proofs.YtelfdpcenplhjaaGreatDoor
open Go.RowKit
structure Blk (w : World) (g : Nat) (cs : Array Value) (t : TypeId) : Prop where
  blk : w.heap[g]? = some (.cells cs t (0, 0))
section
variable {w w' : World} {g B : Nat} {cs : Array Value} {t : TypeId}
theorem Blk.lt (h : Blk w g cs t) : g < w.heap.size := by
  rcases Nat.lt_or_ge g w.heap.size with hlt | hge
  · exact hlt
  · have := h.blk; rw [Array.getElem?_eq_none hge] at this; cases this
theorem Blk.cell (h : Blk w g cs t) (k : Nat) : w.cell? ⟨g, k, none⟩ = cs[k]? := by simp [World.cell?, h.blk]
theorem Blk.frozen (h : Blk w g cs t) (k : Nat) : w.frozen? ⟨g, k, none⟩ = false := by simp [World.frozen?, h.blk]
theorem Blk.below (h : Blk w g cs t) (hb : Below B w w') (hg : g < B) : Blk w' g cs t := ⟨(hb.block g hg).trans h.blk⟩
theorem Blk.drew (h : Blk w g cs t) : Blk w.drew g cs t := ⟨h.blk⟩
theorem Blk.drewN (h : Blk w g cs t) (n : Nat) : Blk (w.drewN n) g cs t := ⟨h.blk⟩
theorem Blk.alloc (h : Blk w g cs t) (o : Obj) : Blk (w.alloc o) g cs t := ⟨(Below.heap_alloc w o g h.lt).trans h.blk⟩
theorem Blk.new (w : World) (cs : Array Value) (t : TypeId) : Blk (w.alloc (.cells cs t)) w.heap.size cs t := ⟨heap_alloc_new w _⟩
theorem Blk.new_ (w : World) (cs : Array Value) (t : TypeId) {n : Nat} (hn : w.heap.size = n) : Blk (w.alloc (.cells cs t)) n cs t := hn ▸ Blk.new w cs t
theorem Blk.far (h : Blk w g cs t) {p : Addr} (hp : g ≠ p.block) (u : Value) : Blk (w.setCell p u) g cs t := ⟨(Below.heap_setCell w p u g hp).trans h.blk⟩
theorem Blk.set_ (h : Blk w g cs t) (k : Nat) (u : Value) : Blk (w.setCell ⟨g, k, none⟩ u) g (cs.setIfInBounds k u) t :=
  ⟨by simp [World.setCell, Array.getElem?_modify, h.blk]⟩
end
theorem But.over {w w' w'' : World} {g g' : Nat} (h : But g w w') (k : But g' w' w'') (hg : w.heap.size ≤ g') : But g w w'' :=
  ⟨k.os.trans h.os, k.tape.trans h.tape, k.output.trans h.output, Nat.le_trans h.size k.size, fun i hi hn => (k.block i (Nat.lt_of_lt_of_le hi h.size) (by omega)).trans (h.block i hi hn)⟩
theorem setRow_blk {w : World} {g : Nat} {cs cs' : Array Value} {t : TypeId} (h : Blk w g cs t) : Blk (w.setRow g cs') g cs' t ∧ But g w (w.setRow g cs') := by
  refine ⟨⟨setRow_heap w g cs cs' t _ h.blk⟩, rfl, rfl, rfl, by simp [World.setRow], fun k _ hk => ?_⟩
  simp [World.setRow, Array.getElem?_modify, Ne.symm hk]
theorem wp_store_blk {P : Program} {o : Oper} {a : Act} {w : World} {K : Act → World → Prop} {Q : Exit → Act → World → Prop} (ty : TypeId) (x y : Operand) (ho : o.op = .store ty x y)
    (g : Nat) (cs cs' : Array Value) (t : TypeId) (hx : a.eval x = .pointer (some ⟨g, 0, none⟩)) (hy : a.eval y = .agg cs') (hb : Blk w g cs t) (hsz : cs.size = cs'.size)
    (hi : (P.info? ty).map (·.size) = some cs'.size) (h1 : cs'.all (·.oneCell') = true) (h : ∀ w', Blk w' g cs' t → But g w w' → K (a.put o.dst undef) w') : o.wp P a w K Q := by
  have hs := run_storeCells_at (P := P) g 0 t cs'.toList 0 cs w hb.blk (by simp; omega) (fun v hv => (Array.all_eq_true_iff_forall_mem.1 h1) v (by simpa using hv))
  have e : (cs.toList.take (0 + 0) ++ cs'.toList ++ cs.toList.drop (0 + 0 + cs'.toList.length)).toArray = cs' := by
    rw [List.drop_eq_nil_of_le (by simp; omega)]
    simp
  rw [e] at hs
  cases hq : P.info? ty with
  | none => simp [hq] at hi
  | some i =>
    have hs' : cs'.size = i.size := by simp [hq] at hi; omega
    have hrun : (storeVar ty ⟨g, 0, none⟩ (.agg cs')).run P w = .ok () (w.setRow g cs') := by simp [storeVar, sizeOf, typeInfo, hq, Value.cells, hs', hs]
    unfold Oper.wp execOp
    simp only [ho, hx, hy, Instr.storeAt, Instr.sureAddr, Sem.run_bind, Sem.run_pure, Result.andThen_ok, hrun]
    have q := setRow_blk (cs' := cs') hb
    exact h _ q.1 q.2
theorem wpList_store_blk {P : Program} {ops : Array Oper} {rest : List Oper} {o : Oper} {a : Act} {w : World} {Q : Exit → Act → World → Prop} (hgd : o.guard = none) (ty : TypeId) (x y : Operand) (ho : o.op = .store ty x y)
    (g : Nat) (cs cs' : Array Value) (t : TypeId) (hx : a.eval x = .pointer (some ⟨g, 0, none⟩)) (hy : a.eval y = .agg cs') (hb : Blk w g cs t) (hsz : cs.size = cs'.size)
    (hi : (P.info? ty).map (·.size) = some cs'.size) (h1 : cs'.all (·.oneCell') = true) (h : ∀ w', Blk w' g cs' t → But g w w' → wpList P ops Q rest (a.put o.dst undef) w') : wpList P ops Q (o :: rest) a w :=
  wpList_plain hgd fun _ hK => wp_store_blk ty x y ho g cs cs' t hx hy hb hsz hi h1 fun w' h2 h3 => hK _ _ (h w' h2 h3)
theorem results_row_tmp {P : Program} {fn : Func} {p u : Tmp} {ty : TypeId} (h : fn.results = #[.cell p ty, .tmp u]) (tmps : Array Value) (w : World) (g : Nat) (t : TypeId) (cs : Array Value) (fr : Nat × Nat) (d : TypeDesc)
    (hp : tmps.getD p undef = .pointer (some ⟨g, 0, none⟩)) (hg : w.heap[g]? = some (.cells cs t fr))
    (hu : P.underlying ty = some d) (hd : (match d with | .struct _ | .array _ _ => true | _ => false) = true) (hi : (P.info? ty).map (·.size) = some cs.size) (v : Value) (hv : tmps.getD u undef = v) :
    (results fn tmps).run P w = .ok (.tuple #[.agg cs, v]) w := by
  subst hv
  have hp' : tmps[p]?.getD undef = .pointer (some ⟨g, 0, none⟩) := by simpa using hp
  simp [results, h, hp', asAddr, run_loadVar_row w g t ty cs fr d hg hu hd hi]
end Go.Proofs.YtelfdpcenplhjaaGreatDoor

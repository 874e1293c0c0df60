/-
  But, Blk, Dat: in one file.
-/
import Derived.Test.YtepkhkfdokinmaaDoorGA
import Derived.RegionTactic
import Derived.BigRegion
import Derived.Laws.CopyRow
import Derived.Laws.Rows
import Derived.Laws.BitsAllLaws
/-
  A block of one cell; nothing but one block, and what is new, has turned.
-/
namespace Go.Proofs.YtepkhkfdokinmaaDoor
open Go.RowKit

/-- A block of one cell that may be written. -/
structure One (w : World) (g : Nat) (v : Value) (t : TypeId) : Prop where
  blk : w.heap[g]? = some (.cells #[v] t (0, 0))
theorem One.lt {w : World} {g : Nat} {v : Value} {t : TypeId} (h : One w g v t) : g < w.heap.size := by
  rcases Nat.lt_or_ge g w.heap.size with hlt | hge
  · exact hlt
  · have := h.blk; rw [Array.getElem?_eq_none hge] at this; cases this
theorem One.cell {w : World} {g : Nat} {v : Value} {t : TypeId} (h : One w g v t) : w.cell? ⟨g, 0, none⟩ = some v := by simp [World.cell?, h.blk]
theorem One.free {w : World} {g : Nat} {v : Value} {t : TypeId} (h : One w g v t) : w.frozen? ⟨g, 0, none⟩ = false := by simp [World.frozen?, h.blk]
theorem One.set_ {w : World} {g : Nat} {v : Value} {t : TypeId} (h : One w g v t) (u : Value) : One (w.setCell ⟨g, 0, none⟩ u) g u t :=
  ⟨by simp [World.setCell, Array.getElem?_modify, h.blk]⟩
theorem One.far {w : World} {g : Nat} {v : Value} {t : TypeId} (h : One w g v t) {p : Addr} (hp : g ≠ p.block) (u : Value) : One (w.setCell p u) g v t :=
  ⟨(Below.heap_setCell w p u g hp).trans h.blk⟩
theorem One.drew {w : World} {g : Nat} {v : Value} {t : TypeId} (h : One w g v t) : One w.drew g v t := ⟨h.blk⟩

/-- Nothing but block g, and what is new, has turned. -/
structure But (g : Nat) (w w' : World) : Prop where
  os : w'.os = w.os
  tape : w'.tape = w.tape
  output : w'.output = w.output
  size : w.heap.size ≤ w'.heap.size
  block : ∀ k, k < w.heap.size → k ≠ g → w'.heap[k]? = w.heap[k]?
section
variable {g : Nat} {w w' w'' : World}
theorem But.refl (g : Nat) (w : World) : But g w w := ⟨rfl, rfl, rfl, Nat.le_refl _, fun _ _ _ => rfl⟩
theorem But.trans (h : But g w w') (k : But g w' w'') : But g w w'' :=
  ⟨k.os.trans h.os, k.tape.trans h.tape, k.output.trans h.output, Nat.le_trans h.size k.size, fun i hi hn => (k.block i (Nat.lt_of_lt_of_le hi h.size) hn).trans (h.block i hi hn)⟩
theorem But.drew (h : But g w w') : But g w w'.drew := ⟨h.os, h.tape, h.output, h.size, h.block⟩
theorem But.alloc (h : But g w w') (o : Obj) : But g w (w'.alloc o) :=
  h.trans ⟨rfl, rfl, rfl, by simp, fun k hk _ => Below.heap_alloc _ _ _ hk⟩
theorem But.setCell (h : But g w w') {p : Addr} (hp : p.block = g ∨ w.heap.size ≤ p.block) (u : Value) : But g w (w'.setCell p u) := by
  refine ⟨h.os, h.tape, h.output, by simpa [World.setCell] using h.size, fun k hk hn => ?_⟩
  rw [Below.heap_setCell _ _ _ _ (by rcases hp with rfl | hp <;> omega)]
  exact h.block k hk hn
theorem But.below (h : But g w w') (B : Nat) (hB : B ≤ g) (hs : B ≤ w.heap.size) : Below B w w' :=
  ⟨h.os, h.tape, h.output, h.size, fun k hk => h.block k (by omega) (by omega)⟩
theorem But.of_below (h : Below w.heap.size w w') (g : Nat) : But g w w' := ⟨h.os, h.tape, h.output, h.size, fun k hk _ => h.block k hk⟩
theorem But.rd {B : Nat} {A : Option Addr} {n : Nat} {l : List Int} (h : But g w w') (hr : Rd w B A n l) (hB : B ≤ g) (hs : B ≤ w.heap.size) : Rd w' B A n l := hr.below (h.below B hB hs)
theorem But.wh {g' : Nat} {l : List Int} (h : But g w w') (hw : Wh w g' l) (hn : g' ≠ g) : Wh w' g' l := ⟨hw.byt, (h.block g' hw.lt hn).trans hw.blk⟩
theorem But.one {g' : Nat} {v : Value} {t : TypeId} (h : But g w w') (hw : One w g' v t) (hn : g' ≠ g) : One w' g' v t := ⟨(h.block g' hw.lt hn).trans hw.blk⟩
end
end Go.Proofs.YtepkhkfdokinmaaDoor

/-
  A block that is known whole, whatever its cells; a whole array stored into it.
-/
namespace Go.Proofs.YtepkhkfdokinmaaDoor
open Go.RowKit

/-- A block that is known whole. -/
structure Blk (w : World) (g : Nat) (cs : Array Value) (t : TypeId) : Prop where
  blk : w.heap[g]? = some (.cells cs t (0, 0))
section
variable {w w' : World} {g B : Nat} {cs : Array Value} {t : TypeId}
theorem Blk.lt (h : Blk w g cs t) : g < w.heap.size := by
  rcases Nat.lt_or_ge g w.heap.size with hlt | hge
  · exact hlt
  · have := h.blk; rw [Array.getElem?_eq_none hge] at this; cases this
theorem Blk.cell (h : Blk w g cs t) (k : Nat) : w.cell? ⟨g, k, none⟩ = cs[k]? := by simp [World.cell?, h.blk]
theorem Blk.frozen (h : Blk w g cs t) (k : Nat) : w.frozen? ⟨g, k, none⟩ = false := by simp [World.frozen?, h.blk]
theorem Blk.below (h : Blk w g cs t) (hb : Below B w w') (hg : g < B) : Blk w' g cs t := ⟨(hb.block g hg).trans h.blk⟩
theorem Blk.drew (h : Blk w g cs t) : Blk w.drew g cs t := ⟨h.blk⟩
theorem Blk.drewN (h : Blk w g cs t) (n : Nat) : Blk (w.drewN n) g cs t := ⟨h.blk⟩
theorem Blk.alloc (h : Blk w g cs t) (o : Obj) : Blk (w.alloc o) g cs t := ⟨(Below.heap_alloc w o g h.lt).trans h.blk⟩
theorem Blk.new (w : World) (cs : Array Value) (t : TypeId) : Blk (w.alloc (.cells cs t)) w.heap.size cs t := ⟨heap_alloc_new w _⟩
theorem Blk.new_ (w : World) (cs : Array Value) (t : TypeId) {n : Nat} (hn : w.heap.size = n) : Blk (w.alloc (.cells cs t)) n cs t := hn ▸ Blk.new w cs t
theorem Blk.far (h : Blk w g cs t) {p : Addr} (hp : g ≠ p.block) (u : Value) : Blk (w.setCell p u) g cs t := ⟨(Below.heap_setCell w p u g hp).trans h.blk⟩
theorem Blk.set_ (h : Blk w g cs t) (k : Nat) (u : Value) : Blk (w.setCell ⟨g, k, none⟩ u) g (cs.setIfInBounds k u) t :=
  ⟨by simp [World.setCell, Array.getElem?_modify, h.blk]⟩
end

theorem But.over {w w' w'' : World} {g g' : Nat} (h : But g w w') (k : But g' w' w'') (hg : w.heap.size ≤ g') : But g w w'' :=
  ⟨k.os.trans h.os, k.tape.trans h.tape, k.output.trans h.output, Nat.le_trans h.size k.size, fun i hi hn => (k.block i (Nat.lt_of_lt_of_le hi h.size) (by omega)).trans (h.block i hi hn)⟩
theorem setRow_blk {w : World} {g : Nat} {cs cs' : Array Value} {t : TypeId} (h : Blk w g cs t) : Blk (w.setRow g cs') g cs' t ∧ But g w (w.setRow g cs') := by
  refine ⟨⟨setRow_heap w g cs cs' t _ h.blk⟩, rfl, rfl, rfl, by simp [World.setRow], fun k _ hk => ?_⟩
  simp [World.setRow, Array.getElem?_modify, Ne.symm hk]
theorem wp_store_blk {P : Program} {o : Oper} {a : Act} {w : World} {K : Act → World → Prop} {Q : Exit → Act → World → Prop} (ty : TypeId) (x y : Operand) (ho : o.op = .store ty x y)
    (g : Nat) (cs cs' : Array Value) (t : TypeId) (hx : a.eval x = .pointer (some ⟨g, 0, none⟩)) (hy : a.eval y = .agg cs') (hb : Blk w g cs t) (hsz : cs.size = cs'.size)
    (hi : (P.info? ty).map (·.size) = some cs'.size) (h1 : cs'.all (·.oneCell') = true) (h : ∀ w', Blk w' g cs' t → But g w w' → K (a.put o.dst undef) w') : o.wp P a w K Q := by
  have hs := run_storeCells_at (P := P) g 0 t cs'.toList 0 cs w hb.blk (by simp; omega) (fun v hv => (Array.all_eq_true_iff_forall_mem.1 h1) v (by simpa using hv))
  have e : (cs.toList.take (0 + 0) ++ cs'.toList ++ cs.toList.drop (0 + 0 + cs'.toList.length)).toArray = cs' := by
    rw [List.drop_eq_nil_of_le (by simp; omega)]
    simp
  rw [e] at hs
  cases hq : P.info? ty with
  | none => simp [hq] at hi
  | some i =>
    have hs' : cs'.size = i.size := by simp [hq] at hi; omega
    have hrun : (storeVar ty ⟨g, 0, none⟩ (.agg cs')).run P w = .ok () (w.setRow g cs') := by simp [storeVar, sizeOf, typeInfo, hq, Value.cells, hs', hs]
    unfold Oper.wp execOp
    simp only [ho, hx, hy, Instr.storeAt, Instr.sureAddr, Sem.run_bind, Sem.run_pure, Result.andThen_ok, hrun]
    have q := setRow_blk (cs' := cs') hb
    exact h _ q.1 q.2
theorem wpList_store_blk {P : Program} {ops : Array Oper} {rest : List Oper} {o : Oper} {a : Act} {w : World} {Q : Exit → Act → World → Prop} (hgd : o.guard = none) (ty : TypeId) (x y : Operand) (ho : o.op = .store ty x y)
    (g : Nat) (cs cs' : Array Value) (t : TypeId) (hx : a.eval x = .pointer (some ⟨g, 0, none⟩)) (hy : a.eval y = .agg cs') (hb : Blk w g cs t) (hsz : cs.size = cs'.size)
    (hi : (P.info? ty).map (·.size) = some cs'.size) (h1 : cs'.all (·.oneCell') = true) (h : ∀ w', Blk w' g cs' t → But g w w' → wpList P ops Q rest (a.put o.dst undef) w') : wpList P ops Q (o :: rest) a w :=
  wpList_plain hgd fun _ hK => wp_store_blk ty x y ho g cs cs' t hx hy hb hsz hi h1 fun w' h2 h3 => hK _ _ (h w' h2 h3)
theorem results_row_tmp {P : Program} {fn : Func} {p u : Tmp} {ty : TypeId} (h : fn.results = #[.cell p ty, .tmp u]) (tmps : Array Value) (w : World) (g : Nat) (t : TypeId) (cs : Array Value) (fr : Nat × Nat) (d : TypeDesc)
    (hp : tmps.getD p undef = .pointer (some ⟨g, 0, none⟩)) (hg : w.heap[g]? = some (.cells cs t fr))
    (hu : P.underlying ty = some d) (hd : (match d with | .struct _ | .array _ _ => true | _ => false) = true) (hi : (P.info? ty).map (·.size) = some cs.size) (v : Value) (hv : tmps.getD u undef = v) :
    (results fn tmps).run P w = .ok (.tuple #[.agg cs, v]) w := by
  subst hv
  have hp' : tmps[p]?.getD undef = .pointer (some ⟨g, 0, none⟩) := by simpa using hp
  simp [results, h, hp', asAddr, run_loadVar_row w g t ty cs fr d hg hu hd hi]

end Go.Proofs.YtepkhkfdokinmaaDoor

/-
  A call's data: its values, its words; data.halves, data.whole, data.holds.
-/
namespace Go.Proofs.YtepkhkfdokinmaaDoor
open Go.RowKit

/-- A call's data. -/
structure Dat where
  nr : Int
  ar : Int
  ip : Int
  a0 : Int
  a1 : Int
  a2 : Int
  a3 : Int
  a4 : Int
  a5 : Int
def U32 (x : Int) : Prop := 0 ≤ x ∧ x ≤ 4294967295
def U64 (x : Int) : Prop := 0 ≤ x ∧ x ≤ 18446744073709551615
structure DatOk (d : Dat) : Prop where
  nr : U32 d.nr
  ar : U32 d.ar
  ip : U64 d.ip
  a0 : U64 d.a0
  a1 : U64 d.a1
  a2 : U64 d.a2
  a3 : U64 d.a3
  a4 : U64 d.a4
  a5 : U64 d.a5
def datC (d : Dat) : Array Value := #[.int .u32 d.nr, .int .u32 d.ar, .int .u64 d.ip, .int .u64 d.a0, .int .u64 d.a1, .int .u64 d.a2, .int .u64 d.a3, .int .u64 d.a4, .int .u64 d.a5]
def datV (d : Dat) : Value := .agg (datC d)
def arrC (l : List Int) : Array Value := (l.map (Value.int .u32)).toArray
def arrV (l : List Int) : Value := .agg (arrC l)
def lo (x : Int) : Int := x % 4294967296
def hi (x : Int) : Int := x / 4294967296
def wh (l h : Int) : Int := h * 4294967296 + l
def wordsL (d : Dat) : List Int := [d.nr, d.ar, lo d.ip, hi d.ip, lo d.a0, hi d.a0, lo d.a1, hi d.a1, lo d.a2, hi d.a2, lo d.a3, hi d.a3, lo d.a4, hi d.a4, lo d.a5, hi d.a5]
def joinD (l : List Int) : Dat :=
  ⟨l.getD 0 0, l.getD 1 0, wh (l.getD 2 0) (l.getD 3 0), wh (l.getD 4 0) (l.getD 5 0), wh (l.getD 6 0) (l.getD 7 0), wh (l.getD 8 0) (l.getD 9 0), wh (l.getD 10 0) (l.getD 11 0), wh (l.getD 12 0) (l.getD 13 0), wh (l.getD 14 0) (l.getD 15 0)⟩
def U32s (l : List Int) : Prop := ∀ z ∈ l, U32 z

theorem lo_bd (x : Int) : U32 (lo x) := by unfold U32 lo; omega
theorem hi_bd (x : Int) (h : U64 x) : U32 (hi x) := by unfold U32 hi; unfold U64 at h; omega
theorem wh_bd (l h : Int) (h1 : U32 l) (h2 : U32 h) : U64 (wh l h) := by unfold U32 at h1 h2; unfold U64 wh; omega
theorem wh_lohi (x : Int) : wh (lo x) (hi x) = x := by unfold wh lo hi; omega
theorem lo_wh (l h : Int) (h1 : U32 l) : lo (wh l h) = l := by unfold U32 at h1; unfold lo wh; omega
theorem hi_wh (l h : Int) (h1 : U32 l) : hi (wh l h) = h := by unfold U32 at h1; unfold hi wh; omega
theorem U32s.at_ {l : List Int} (h : U32s l) (k : Nat) : U32 (l.getD k 0) := by
  rcases Nat.lt_or_ge k l.length with hk | hk
  · rw [List.getD_eq_getElem?_getD, List.getElem?_eq_getElem hk]; exact h _ (List.getElem_mem hk)
  · rw [List.getD_eq_getElem?_getD, List.getElem?_eq_none hk]; unfold U32; simp
theorem words_bd (d : Dat) (h : DatOk d) : U32s (wordsL d) := by
  intro z hz
  simp only [wordsL, List.mem_cons, List.not_mem_nil, or_false] at hz
  rcases hz with rfl | rfl | rfl | rfl | rfl | rfl | rfl | rfl | rfl | rfl | rfl | rfl | rfl | rfl | rfl | rfl <;>
    first | exact h.nr | exact h.ar | exact lo_bd _ | exact hi_bd _ h.ip | exact hi_bd _ h.a0 | exact hi_bd _ h.a1 | exact hi_bd _ h.a2 | exact hi_bd _ h.a3 | exact hi_bd _ h.a4 | exact hi_bd _ h.a5
theorem words_len (d : Dat) : (wordsL d).length = 16 := rfl
theorem join_words (d : Dat) : joinD (wordsL d) = d := by
  cases d
  simp [joinD, wordsL, wh_lohi]
theorem words_join (l : List Int) (hl : l.length = 16) (h : U32s l) : wordsL (joinD l) = l := by
  match l, hl with
  | [x0, x1, x2, x3, x4, x5, x6, x7, x8, x9, x10, x11, x12, x13, x14, x15], _ =>
    have g : ∀ z ∈ [x0, x1, x2, x3, x4, x5, x6, x7, x8, x9, x10, x11, x12, x13, x14, x15], U32 z := h
    simp only [List.mem_cons, List.not_mem_nil, or_false, forall_eq_or_imp, forall_eq] at g
    obtain ⟨g0, g1, g2, g3, g4, g5, g6, g7, g8, g9, g10, g11, g12, g13, g14, g15⟩ := g
    simp [joinD, wordsL, lo_wh, hi_wh, *]
theorem join_ok (l : List Int) (h : U32s l) : DatOk (joinD l) :=
  ⟨h.at_ 0, h.at_ 1, wh_bd _ _ (h.at_ 2) (h.at_ 3), wh_bd _ _ (h.at_ 4) (h.at_ 5), wh_bd _ _ (h.at_ 6) (h.at_ 7), wh_bd _ _ (h.at_ 8) (h.at_ 9), wh_bd _ _ (h.at_ 10) (h.at_ 11), wh_bd _ _ (h.at_ 12) (h.at_ 13), wh_bd _ _ (h.at_ 14) (h.at_ 15)⟩

set_option maxHeartbeats 400000 in
theorem halves_any (x : Int) (h : U64 x) (w : World) :
    Calls Tryd.prog 71 #[.int .u64 x] w fun e w' => e = .returned (.tuple #[.int .u32 (lo x), .int .u32 (hi x)]) ∧ w = w' := by
  obtain ⟨h0, h1⟩ := h
  go_enter Tryd.func71, Tryd.ntmps71
  go_wp2
  go_ret2
  exact ⟨rfl, rfl⟩

theorem or_wh (x y : Int) (hx : U32 x) (hy : U32 y) : bits .or .u64 (y * 4294967296) x = wh x y := by
  obtain ⟨h0, h1⟩ := hx
  obtain ⟨h2, h3⟩ := hy
  rw [u64_or _ x (by omega) (by omega) h0 (by omega)]
  obtain ⟨A, rfl⟩ := Int.eq_ofNat_of_zero_le h0
  obtain ⟨C, rfl⟩ := Int.eq_ofNat_of_zero_le h2
  have hA : A < 2 ^ 32 := by omega
  have e3 : ((C : Int) * 4294967296).toNat = 2 ^ 32 * C := by omega
  have e4 := Nat.two_pow_add_eq_or_of_lt hA C
  rw [e3, Int.toNat_natCast, ← e4]
  unfold wh
  omega

set_option maxHeartbeats 400000 in
theorem whole_any (x y : Int) (hx : U32 x) (hy : U32 y) (w : World) :
    Calls Tryd.prog 72 #[.int .u32 x, .int .u32 y] w fun e w' => e = .returned (.int .u64 (wh x y)) ∧ w = w' := by
  obtain ⟨h0, h1⟩ := hx
  obtain ⟨h2, h3⟩ := hy
  go_enter Tryd.func72, Tryd.ntmps72
  go_wp2
  go_ret
  exact ⟨congrArg (fun z => Ending.returned (.int .u64 z)) (or_wh x y ⟨h0, h1⟩ ⟨h2, h3⟩), rfl⟩

/-- Is there a word at an offset? -/
def rightB (o : Int) : Bool := decide (o % 4 = 0 ∧ o ≤ 60)
set_option maxHeartbeats 400000 in
theorem holds_any (o : Int) (ho : U32 o) (w : World) :
    Calls Tryd.prog 51 #[.int .u32 o] w fun e w' => e = .returned (.bool (rightB o)) ∧ w = w' := by
  obtain ⟨h0, h1⟩ := ho
  by_cases h4 : o % 4 = 0
  · by_cases h6 : o ≤ 60
    · have e : rightB o = true := by unfold rightB; simp [h4, h6]
      rw [e]
      clear e
      go_enter Tryd.func51, Tryd.ntmps51
      go_wp2
      go_ret
      exact ⟨rfl, rfl⟩
    · have e : rightB o = false := by unfold rightB; simp [h6]
      rw [e]
      clear e
      go_enter Tryd.func51, Tryd.ntmps51
      go_wp2
      go_ret
      exact ⟨rfl, rfl⟩
  · have e : rightB o = false := by unfold rightB; simp [h4]
    rw [e]
    clear e
    go_enter Tryd.func51, Tryd.ntmps51
    go_wp2
    go_ret
    exact ⟨rfl, rfl⟩
end Go.Proofs.YtepkhkfdokinmaaDoor

/-
  InsnNames: the walk.
-/
import Derived.Test.YtndmlbepjcagiaaDoorWakesI
import Derived.Test.YtndmlbepjcagiaaDoorClass
namespace Go.Proofs.YtndmlbepjcagiaaDoor
open Go.RowKit

theorem rowC_some {c : Int} {i : Nat} (h : rowC c = some i) : i < 41 ∧ kC i = c := by
  have h1 := List.mem_of_find?_eq_some h
  have h2 := List.find?_some h
  simp at h1 h2
  exact ⟨h1, h2⟩
/-- The table's names lead back to its rows. -/
theorem rowN_kN {i : Nat} (hi : i < 41) : rowN (kN i) = some i := by
  rw [rowN_eq]
  have hall : ((List.range 41).all fun i => ((List.range 41).find? fun j => (kAt j).2.1 == (kAt i).2.1) == some i) = true := by decide
  have := List.all_eq_true.1 hall i (List.mem_range.2 hi)
  simpa [kN] using this
theorem rowN_empty : rowN ⟨#[]⟩ = none := by
  rw [rowN_eq]
  rfl
theorem kF_nonneg {i : Nat} (hi : i < 41) : 0 ≤ kF i := by
  have hall : ((List.range 41).all fun i => decide (0 ≤ kF i)) = true := by decide
  simpa using List.all_eq_true.1 hall i (List.mem_range.2 hi)
theorem bareJ_bareJ (c a : Int) : bareJ c (bareJ c a) = bareJ c a := by unfold bareJ; split <;> rfl
theorem bareK_bareK (c a : Int) : bareK c (bareK c a) = bareK c a := by unfold bareK; split <;> rfl
theorem bareJ_none {c : Int} (a : Int) (h : formOf c = -1) : bareJ c a = a := by simp [bareJ, h]
theorem bareK_none {c : Int} (a : Int) (h : formOf c = -1) : bareK c a = a := by simp [bareK, h]

/-- The two instructions in memory, and the table. -/
abbrev NamS (w V : World) (g : Nat) (c a b k a' b' k' : Int) : Prop :=
  V.cell? ⟨w.heap.size, 0, none⟩ = some (.int .u16 c) ∧ V.cell? ⟨w.heap.size, 1, none⟩ = some (.int .u8 a) ∧ V.cell? ⟨w.heap.size, 2, none⟩ = some (.int .u8 b) ∧ V.cell? ⟨w.heap.size, 3, none⟩ = some (.int .u32 k) ∧
  V.cell? ⟨g, 0, none⟩ = some (.int .u16 c) ∧ V.cell? ⟨g, 1, none⟩ = some (.int .u8 a') ∧ V.cell? ⟨g, 2, none⟩ = some (.int .u8 b') ∧ V.cell? ⟨g, 3, none⟩ = some (.int .u32 k') ∧ Kinds V ∧ Below w.heap.size w V

theorem namS_K {w V : World} {g : Nat} {c a b k a' b' k' : Int} (h : NamS w V g c a b k a' b' k') : Kinds V := h.2.2.2.2.2.2.2.2.1
theorem cell_alloc' {V : World} {p : Addr} {v : Value} (o : Obj) (h : V.cell? p = some v) : (V.alloc o).cell? p = some v :=
  (((Below.refl V.heap.size V).alloc (Nat.le_refl _) o).cell (World.block_lt_of_cell? V _ h)).trans h
theorem namS_step {w V V' : World} {g : Nat} {c a b k a' b' k' : Int} (h : NamS w V g c a b k a' b' k') (hb : Below V.heap.size V V') : NamS w V' g c a b k a' b' k' := by
  obtain ⟨x0, x1, x2, x3, y0, y1, y2, y3, hK, hB⟩ := h
  have l1 := World.block_lt_of_cell? V _ x0
  have l2 := World.block_lt_of_cell? V _ y0
  exact ⟨(hb.cell (p := ⟨w.heap.size, 0, none⟩) l1).trans x0, (hb.cell (p := ⟨w.heap.size, 1, none⟩) l1).trans x1, (hb.cell (p := ⟨w.heap.size, 2, none⟩) l1).trans x2, (hb.cell (p := ⟨w.heap.size, 3, none⟩) l1).trans x3,
    (hb.cell (p := ⟨g, 0, none⟩) l2).trans y0, (hb.cell (p := ⟨g, 1, none⟩) l2).trans y1, (hb.cell (p := ⟨g, 2, none⟩) l2).trans y2, (hb.cell (p := ⟨g, 3, none⟩) l2).trans y3, hK.below hb hK.pos, hB.trans (hb.mono hB.size)⟩

set_option maxRecDepth 100000 in
set_option maxHeartbeats 4000000 in
theorem names_yes (c a b k a' b' k' f : Int) (s : ByteArray) (w : World) (hK : Kinds w) (hf : 0 ≤ f)
    (hN : ∀ w, Kinds w → Calls Tryd.prog 12 #[.int .u16 c] w fun e w' => e = .returned (.tuple #[.string s, .bool true]) ∧ Below w.heap.size w w')
    (hC : ∀ w, Kinds w → Calls Tryd.prog 15 #[.string s] w fun e w' => e = .returned (.tuple #[.int .u16 c, .bool true]) ∧ Below w.heap.size w w')
    (hF : ∀ w, Kinds w → Calls Tryd.prog 13 #[.int .u16 c] w fun e w' => e = .returned (.int .i64 f) ∧ w' = w)
    (hB1 : ∀ w, Kinds w → Calls Tryd.prog 24 #[.agg #[.int .u16 c, .int .u8 a, .int .u8 b, .int .u32 k]] w fun e w' => e = .returned (.agg #[.int .u16 c, .int .u8 a', .int .u8 b', .int .u32 k']) ∧ Below w.heap.size w w')
    (hB2 : ∀ w, Kinds w → Calls Tryd.prog 24 #[.agg #[.int .u16 c, .int .u8 a', .int .u8 b', .int .u32 k']] w fun e w' => e = .returned (.agg #[.int .u16 c, .int .u8 a', .int .u8 b', .int .u32 k']) ∧ Below w.heap.size w w') :
    Calls Tryd.prog 7 #[.agg #[.int .u16 c, .int .u8 a, .int .u8 b, .int .u32 k]] w fun e w' => e = .returned (.bool true) ∧ Below w.heap.size w w' := by
  have hpos := hK.pos
  go_enter Tryd.func7, Tryd.ntmps7
  go_wp2_with fail
  refine (wakes_any _ (hK.alloc _)).mono ?_
  rintro e w1 ⟨rfl, hb1⟩
  have hb1' : Below w.heap.size w w1 := ((Below.refl _ w).alloc (Nat.le_refl _) (.cells #[.int .u16 c, .int .u8 a, .int .u8 b, .int .u32 k] 48)).trans (hb1.mono (by simp))
  have x0 := (hb1.cell (p := ⟨w.heap.size, 0, none⟩) (by simp)).trans (show _ = some (Value.int .u16 c) by simp)
  have x1 := (hb1.cell (p := ⟨w.heap.size, 1, none⟩) (by simp)).trans (show _ = some (Value.int .u8 a) by simp)
  have x2 := (hb1.cell (p := ⟨w.heap.size, 2, none⟩) (by simp)).trans (show _ = some (Value.int .u8 b) by simp)
  have x3 := (hb1.cell (p := ⟨w.heap.size, 3, none⟩) (by simp)).trans (show _ = some (Value.int .u32 k) by simp)
  have hlt1 : w.heap.size < w1.heap.size := World.block_lt_of_cell? w1 _ x0
  clear hb1
  have K1 := hK.below hb1' hpos
  go_wp2_with fail
  refine (hN _ K1).mono ?_
  rintro e w2 ⟨rfl, hb2⟩
  have K2 := K1.below hb2 K1.pos
  go_wp2_with fail
  refine (hC _ K2).mono ?_
  rintro e w3 ⟨rfl, hb3⟩
  have hb3' := hb2.trans (hb3.mono hb2.size)
  have K3 := K2.below hb3 K2.pos
  have y0 := (hb3'.cell (p := ⟨w.heap.size, 0, none⟩) hlt1).trans x0
  have y1 := (hb3'.cell (p := ⟨w.heap.size, 1, none⟩) hlt1).trans x1
  have y2 := (hb3'.cell (p := ⟨w.heap.size, 2, none⟩) hlt1).trans x2
  have y3 := (hb3'.cell (p := ⟨w.heap.size, 3, none⟩) hlt1).trans x3
  clear x0 x1 x2 x3
  go_wp2_with fail
  refine (hB1 _ K3).mono ?_
  rintro e w4 ⟨rfl, hb4⟩
  have hb4' := hb3'.trans (hb4.mono hb3'.size)
  have K4 := K3.below hb4 K3.pos
  have hlt3 : w.heap.size < w3.heap.size := Nat.lt_of_lt_of_le hlt1 hb3'.size
  have x0 := (hb4.cell (p := ⟨w.heap.size, 0, none⟩) hlt3).trans y0
  have x1 := (hb4.cell (p := ⟨w.heap.size, 1, none⟩) hlt3).trans y1
  have x2 := (hb4.cell (p := ⟨w.heap.size, 2, none⟩) hlt3).trans y2
  have x3 := (hb4.cell (p := ⟨w.heap.size, 3, none⟩) hlt3).trans y3
  clear y0 y1 y2 y3 hN hC hB1
  go_wp2_with fail
  have hS : NamS w (w4.alloc (.cells #[.int .u16 c, .int .u8 a', .int .u8 b', .int .u32 k'] 48)) w4.heap.size c a b k a' b' k' := by
    have hlt4 : w.heap.size < w4.heap.size := Nat.lt_of_lt_of_le hlt3 hb4.size
    refine ⟨(cell_alloc' _ x0), (cell_alloc' _ x1), (cell_alloc' _ x2), (cell_alloc' _ x3), by simp, by simp, by simp, by simp, K4.alloc _, ?_⟩
    exact (hb1'.trans (hb4'.mono hb1'.size)).alloc (by omega) _
  have hS0 := namS_step hS (Below.refl _ _).drew
  obtain ⟨w5, hw5⟩ : ∃ w5, w4.alloc (.cells #[.int .u16 c, .int .u8 a', .int .u8 b', .int .u32 k'] 48) = w5 := ⟨_, rfl⟩
  rw [hw5] at hS0 ⊢
  clear hS hw5 x0 x1 x2 x3 hb1' hb2 hb3 hb4 hb3' hb4' K1 K2 K3 K4 hK
  have cF : ∀ V, NamS w V w4.heap.size c a b k a' b' k' → Calls Tryd.prog 13 #[.int .u16 c] V fun e w' => e = .returned (.int .i64 f) ∧ NamS w w' w4.heap.size c a b k a' b' k' :=
    fun V h => (hF V (namS_K h)).mono fun e w' ⟨he, hw⟩ => ⟨he, hw ▸ h⟩
  have cB : ∀ V, NamS w V w4.heap.size c a b k a' b' k' → Calls Tryd.prog 24 #[.agg #[.int .u16 c, .int .u8 a', .int .u8 b', .int .u32 k']] V fun e w' => e = .returned (.agg #[.int .u16 c, .int .u8 a', .int .u8 b', .int .u32 k']) ∧ NamS w w' w4.heap.size c a b k a' b' k' :=
    fun V h => (hB2 V (namS_K h)).mono fun e w' ⟨he, hw⟩ => ⟨he, namS_step h hw⟩
  have x0 : ∀ s : Sig (fun V => NamS w V w4.heap.size c a b k a' b' k'), s.V.cell? ⟨w.heap.size, 0, none⟩ = some (.int .u16 c) := fun s => s.h.1
  have x1 : ∀ s : Sig (fun V => NamS w V w4.heap.size c a b k a' b' k'), s.V.cell? ⟨w.heap.size, 1, none⟩ = some (.int .u8 a) := fun s => s.h.2.1
  have x2 : ∀ s : Sig (fun V => NamS w V w4.heap.size c a b k a' b' k'), s.V.cell? ⟨w.heap.size, 2, none⟩ = some (.int .u8 b) := fun s => s.h.2.2.1
  have x3 : ∀ s : Sig (fun V => NamS w V w4.heap.size c a b k a' b' k'), s.V.cell? ⟨w.heap.size, 3, none⟩ = some (.int .u32 k) := fun s => s.h.2.2.2.1
  have y0 : ∀ s : Sig (fun V => NamS w V w4.heap.size c a b k a' b' k'), s.V.cell? ⟨w4.heap.size, 0, none⟩ = some (.int .u16 c) := fun s => s.h.2.2.2.2.1
  have y1 : ∀ s : Sig (fun V => NamS w V w4.heap.size c a b k a' b' k'), s.V.cell? ⟨w4.heap.size, 1, none⟩ = some (.int .u8 a') := fun s => s.h.2.2.2.2.2.1
  have y2 : ∀ s : Sig (fun V => NamS w V w4.heap.size c a b k a' b' k'), s.V.cell? ⟨w4.heap.size, 2, none⟩ = some (.int .u8 b') := fun s => s.h.2.2.2.2.2.2.1
  have y3 : ∀ s : Sig (fun V => NamS w V w4.heap.size c a b k a' b' k'), s.V.cell? ⟨w4.heap.size, 3, none⟩ = some (.int .u32 k') := fun s => s.h.2.2.2.2.2.2.2.1
  have hne : Nonempty (Sig (fun V => NamS w V w4.heap.size c a b k a' b' k')) := ⟨⟨_, hS0⟩⟩
  refine region_class (S := fun V => NamS w V w4.heap.size c a b k a' b' k') (by kernel_rfl) (by kernel_rfl) hS0 ?_
  repeat (go_big_quiet_step (first | (go_at_call 13; exact class_call _ cF) | (go_at_call 24; exact class_call _ cB)))
  refine wpQuiet_nil ?_
  rintro _ ⟨s7, rfl⟩
  go_wp2
  go_ret
  exact ⟨rfl, s7.h.2.2.2.2.2.2.2.2.2⟩
set_option maxRecDepth 100000 in
set_option maxHeartbeats 4000000 in
theorem names_no (c a b k : Int) (w : World) (hK : Kinds w)
    (hN : ∀ w, Kinds w → Calls Tryd.prog 12 #[.int .u16 c] w fun e w' => e = .returned (.tuple #[.string ⟨#[]⟩, .bool false]) ∧ Below w.heap.size w w')
    (hC : ∀ w, Kinds w → Calls Tryd.prog 15 #[.string ⟨#[]⟩] w fun e w' => e = .returned (.tuple #[.int .u16 0, .bool false]) ∧ Below w.heap.size w w')
    (hF : ∀ w, Kinds w → Calls Tryd.prog 13 #[.int .u16 c] w fun e w' => e = .returned (.int .i64 (-1)) ∧ w' = w)
    (hB1 : ∀ w, Kinds w → Calls Tryd.prog 24 #[.agg #[.int .u16 c, .int .u8 a, .int .u8 b, .int .u32 k]] w fun e w' => e = .returned (.agg #[.int .u16 c, .int .u8 a, .int .u8 b, .int .u32 k]) ∧ Below w.heap.size w w')
    (hB2 : ∀ w, Kinds w → Calls Tryd.prog 24 #[.agg #[.int .u16 c, .int .u8 a, .int .u8 b, .int .u32 k]] w fun e w' => e = .returned (.agg #[.int .u16 c, .int .u8 a, .int .u8 b, .int .u32 k]) ∧ Below w.heap.size w w') :
    Calls Tryd.prog 7 #[.agg #[.int .u16 c, .int .u8 a, .int .u8 b, .int .u32 k]] w fun e w' => e = .returned (.bool true) ∧ Below w.heap.size w w' := by
  have hpos := hK.pos
  go_enter Tryd.func7, Tryd.ntmps7
  go_wp2_with fail
  refine (wakes_any _ (hK.alloc _)).mono ?_
  rintro e w1 ⟨rfl, hb1⟩
  have hb1' : Below w.heap.size w w1 := ((Below.refl _ w).alloc (Nat.le_refl _) (.cells #[.int .u16 c, .int .u8 a, .int .u8 b, .int .u32 k] 48)).trans (hb1.mono (by simp))
  have x0 := (hb1.cell (p := ⟨w.heap.size, 0, none⟩) (by simp)).trans (show _ = some (Value.int .u16 c) by simp)
  have x1 := (hb1.cell (p := ⟨w.heap.size, 1, none⟩) (by simp)).trans (show _ = some (Value.int .u8 a) by simp)
  have x2 := (hb1.cell (p := ⟨w.heap.size, 2, none⟩) (by simp)).trans (show _ = some (Value.int .u8 b) by simp)
  have x3 := (hb1.cell (p := ⟨w.heap.size, 3, none⟩) (by simp)).trans (show _ = some (Value.int .u32 k) by simp)
  have hlt1 : w.heap.size < w1.heap.size := World.block_lt_of_cell? w1 _ x0
  clear hb1
  have K1 := hK.below hb1' hpos
  go_wp2_with fail
  refine (hN _ K1).mono ?_
  rintro e w2 ⟨rfl, hb2⟩
  have K2 := K1.below hb2 K1.pos
  go_wp2_with fail
  refine (hC _ K2).mono ?_
  rintro e w3 ⟨rfl, hb3⟩
  have hb3' := hb2.trans (hb3.mono hb2.size)
  have K3 := K2.below hb3 K2.pos
  have y0 := (hb3'.cell (p := ⟨w.heap.size, 0, none⟩) hlt1).trans x0
  have y1 := (hb3'.cell (p := ⟨w.heap.size, 1, none⟩) hlt1).trans x1
  have y2 := (hb3'.cell (p := ⟨w.heap.size, 2, none⟩) hlt1).trans x2
  have y3 := (hb3'.cell (p := ⟨w.heap.size, 3, none⟩) hlt1).trans x3
  clear x0 x1 x2 x3
  go_wp2_with fail
  refine (hB1 _ K3).mono ?_
  rintro e w4 ⟨rfl, hb4⟩
  have hb4' := hb3'.trans (hb4.mono hb3'.size)
  have K4 := K3.below hb4 K3.pos
  have hlt3 : w.heap.size < w3.heap.size := Nat.lt_of_lt_of_le hlt1 hb3'.size
  have x0 := (hb4.cell (p := ⟨w.heap.size, 0, none⟩) hlt3).trans y0
  have x1 := (hb4.cell (p := ⟨w.heap.size, 1, none⟩) hlt3).trans y1
  have x2 := (hb4.cell (p := ⟨w.heap.size, 2, none⟩) hlt3).trans y2
  have x3 := (hb4.cell (p := ⟨w.heap.size, 3, none⟩) hlt3).trans y3
  clear y0 y1 y2 y3 hN hC hB1
  go_wp2_with fail
  have hS : NamS w (w4.alloc (.cells #[.int .u16 c, .int .u8 a, .int .u8 b, .int .u32 k] 48)) w4.heap.size c a b k a b k := by
    have hlt4 : w.heap.size < w4.heap.size := Nat.lt_of_lt_of_le hlt3 hb4.size
    refine ⟨(cell_alloc' _ x0), (cell_alloc' _ x1), (cell_alloc' _ x2), (cell_alloc' _ x3), by simp, by simp, by simp, by simp, K4.alloc _, ?_⟩
    exact (hb1'.trans (hb4'.mono hb1'.size)).alloc (by omega) _
  have hS0 := namS_step hS (Below.refl _ _).drew
  obtain ⟨w5, hw5⟩ : ∃ w5, w4.alloc (.cells #[.int .u16 c, .int .u8 a, .int .u8 b, .int .u32 k] 48) = w5 := ⟨_, rfl⟩
  rw [hw5] at hS0 ⊢
  clear hS hw5 x0 x1 x2 x3 hb1' hb2 hb3 hb4 hb3' hb4' K1 K2 K3 K4 hK
  have cF : ∀ V, NamS w V w4.heap.size c a b k a b k → Calls Tryd.prog 13 #[.int .u16 c] V fun e w' => e = .returned (.int .i64 (-1)) ∧ NamS w w' w4.heap.size c a b k a b k :=
    fun V h => (hF V (namS_K h)).mono fun e w' ⟨he, hw⟩ => ⟨he, hw ▸ h⟩
  have cB : ∀ V, NamS w V w4.heap.size c a b k a b k → Calls Tryd.prog 24 #[.agg #[.int .u16 c, .int .u8 a, .int .u8 b, .int .u32 k]] V fun e w' => e = .returned (.agg #[.int .u16 c, .int .u8 a, .int .u8 b, .int .u32 k]) ∧ NamS w w' w4.heap.size c a b k a b k :=
    fun V h => (hB2 V (namS_K h)).mono fun e w' ⟨he, hw⟩ => ⟨he, namS_step h hw⟩
  have x0 : ∀ s : Sig (fun V => NamS w V w4.heap.size c a b k a b k), s.V.cell? ⟨w.heap.size, 0, none⟩ = some (.int .u16 c) := fun s => s.h.1
  have x1 : ∀ s : Sig (fun V => NamS w V w4.heap.size c a b k a b k), s.V.cell? ⟨w.heap.size, 1, none⟩ = some (.int .u8 a) := fun s => s.h.2.1
  have x2 : ∀ s : Sig (fun V => NamS w V w4.heap.size c a b k a b k), s.V.cell? ⟨w.heap.size, 2, none⟩ = some (.int .u8 b) := fun s => s.h.2.2.1
  have x3 : ∀ s : Sig (fun V => NamS w V w4.heap.size c a b k a b k), s.V.cell? ⟨w.heap.size, 3, none⟩ = some (.int .u32 k) := fun s => s.h.2.2.2.1
  have y0 : ∀ s : Sig (fun V => NamS w V w4.heap.size c a b k a b k), s.V.cell? ⟨w4.heap.size, 0, none⟩ = some (.int .u16 c) := fun s => s.h.2.2.2.2.1
  have y1 : ∀ s : Sig (fun V => NamS w V w4.heap.size c a b k a b k), s.V.cell? ⟨w4.heap.size, 1, none⟩ = some (.int .u8 a) := fun s => s.h.2.2.2.2.2.1
  have y2 : ∀ s : Sig (fun V => NamS w V w4.heap.size c a b k a b k), s.V.cell? ⟨w4.heap.size, 2, none⟩ = some (.int .u8 b) := fun s => s.h.2.2.2.2.2.2.1
  have y3 : ∀ s : Sig (fun V => NamS w V w4.heap.size c a b k a b k), s.V.cell? ⟨w4.heap.size, 3, none⟩ = some (.int .u32 k) := fun s => s.h.2.2.2.2.2.2.2.1
  have hne : Nonempty (Sig (fun V => NamS w V w4.heap.size c a b k a b k)) := ⟨⟨_, hS0⟩⟩
  refine region_class (S := fun V => NamS w V w4.heap.size c a b k a b k) (by kernel_rfl) (by kernel_rfl) hS0 ?_
  repeat (go_big_quiet_step (first | (go_at_call 13; exact class_call _ cF) | (go_at_call 24; exact class_call _ cB)))
  refine wpQuiet_nil ?_
  rintro _ ⟨s7, rfl⟩
  go_wp2
  go_ret
  exact ⟨rfl, s7.h.2.2.2.2.2.2.2.2.2⟩

theorem insnNames_any (c a b k : Int) (w : World) (hK : Kinds w) :
    Calls Tryd.prog 7 #[insV c a b k] w fun e w' => e = .returned (.bool true) ∧ Below w.heap.size w w' := by
  have hN := fun w hK => name_any c w hK
  have hF := fun w hK => form_any c w hK
  have hB1 := fun w hK => bare_any c a b k w hK
  have hB2 := fun w hK => bare_any c (bareJ c a) (bareJ c b) (bareK c k) w hK
  rw [bareJ_bareJ, bareJ_bareJ, bareK_bareK] at hB2
  cases h : rowC c with
  | none =>
    have e1 : nameOf c = (⟨#[]⟩, false) := by simp only [nameOf, h]
    have e2 : formOf c = -1 := by simp only [formOf, h]
    have e3 : codeOf ⟨#[]⟩ = (0, false) := by simp only [codeOf, rowN_empty]
    have hC := fun w hK => code_any ⟨#[]⟩ w hK
    rw [e1] at hN
    rw [e2] at hF
    rw [e3] at hC
    rw [bareJ_none a e2, bareJ_none b e2, bareK_none k e2] at hB1
    exact names_no c a b k w hK hN hC hF hB1 hB1
  | some i =>
    obtain ⟨hi, rfl⟩ := rowC_some h
    have e1 : nameOf (kC i) = (kN i, true) := by simp only [nameOf, h]
    have e2 : formOf (kC i) = kF i := by simp only [formOf, h]
    have e3 : codeOf (kN i) = (kC i, true) := by simp only [codeOf, rowN_kN hi]
    have hC := fun w hK => code_any (kN i) w hK
    rw [e1] at hN
    rw [e2] at hF
    rw [e3] at hC
    exact names_yes (kC i) a b k _ _ _ (kF i) (kN i) w hK (kF_nonneg hi) hN hC hF hB1 hB2
end Go.Proofs.YtndmlbepjcagiaaDoor

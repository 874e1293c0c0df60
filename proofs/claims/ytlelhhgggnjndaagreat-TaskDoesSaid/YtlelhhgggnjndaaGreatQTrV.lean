/-
  The reference's New, where no id is left.
-/
import Derived.Test.YtlelhhgggnjndaaGreatQTsI
import Derived.Test.YtlelhhgggnjndaaGreatQTqT
import Derived.Test.YtlelhhgggnjndaaGreatQTrB
import Derived.Test.YtlelhhgggnjndaaGreatQTkF
import Derived.Test.YtlelhhgggnjndaaGreatQTrZ
namespace Go.Proofs.YtlelhhgggnjndaaGreat
open Go.RowKit Go.Shelf
set_option linter.unusedVariables false
set_option linter.unusedSimpArgs false
def TkW (w : World) (B : Nat) (v : Value) (r : TkA) : Prop := ∃ Ua um uc A m c L, v = tkV r.a Ua um uc A m c ∧ OwnW w B Ua um uc r.U A m c L ∧ L.map (·.1) = r.P
theorem tkW_nil (w : World) (B : Nat) (e : Int) : TkW w B (tkV 0 none 0 0 none 0 0) (noT e) := ⟨none, 0, 0, none, 0, 0, [], rfl, (ownt_nil w B).w, rfl⟩
def WanO (w : World) (r : TkA) (e : Ending) (w' : World) : Prop := ∃ v, e = .returned (.tuple #[v, .int .i64 r.n, .int .i64 r.e]) ∧ TkW w' w.heap.size v r ∧ Below w.heap.size w w'
def WanC3 (g : Nat) (a : Int) (Ua : Option Addr) (um uc : Nat) (A : Option Addr) (m c : Nat) (id : Int) (r : TkA) (V : World) : Prop := Calls Tryz.prog g #[tkV a Ua um uc A m c, .int .i64 id] V fun e w' => ∃ v, e = .returned (.tuple #[v, .int .i64 r.n, .int .i64 r.e]) ∧ TkW w' V.heap.size v r ∧ Below V.heap.size V w'
def WanC2 (g : Nat) (a : Int) (Ua : Option Addr) (um uc : Nat) (A : Option Addr) (m c : Nat) (id : Int) (r : TkA) (V : World) : Prop := Calls Tryz.prog g #[tkV a Ua um uc A m c, .int .i64 id] V fun e w' => ∃ v, e = .returned (.tuple #[v, .int .i64 r.e]) ∧ TkW w' V.heap.size v r ∧ Below V.heap.size V w'
def WanCN (th : Bool) (a : Int) (Ua : Option Addr) (um uc : Nat) (A : Option Addr) (m c : Nat) (id : Int) (r : TkA) (V : World) : Prop := Calls Tryz.prog 32 #[tkV a Ua um uc A m c, .int .i64 id, .bool th] V fun e w' => ∃ v, e = .returned (.tuple #[v, .int .i64 r.n, .int .i64 r.e]) ∧ TkW w' V.heap.size v r ∧ Below V.heap.size V w'
set_option maxRecDepth 100000 in
set_option maxHeartbeats 8000000 in
theorem wants_fork (k i : Int) (f : Bool) (a : Int) (Ua : Option Addr) (um uc : Nat) (U : List Int) (A : Option Addr) (m c : Nat) (L : List Pw) (id : Int) (r : TkA) (w : World) (hk : IntKind.u64.wrap k % 8 = 0 ∨ IntKind.u64.wrap k % 8 = 1) (h : Tk w w.heap.size Ua um uc U A m c L) (hn : (tidF L).length ≤ 1000) (hr : rgtB a U L = true) (hc : ∀ V, Below w.heap.size w V → WanCN true a Ua um uc A m c id r V) :
    Calls Tryz.prog 9 #[.agg (opC k i f), tkV a Ua um uc A m c, .int .i64 id] w fun e w' => WanO w r e w' := by
  have k1 := ((Blk.new w (opC k i f) 32).alloc (.cells (tkC a Ua um uc A m c) 27)).alloc (.cells (tkC 0 none 0 0 none 0 0) 27)
  have k2 := (Blk.new_ (w.alloc (.cells (opC k i f) 32)) (tkC a Ua um uc A m c) 27 (n := w.heap.size + 1) (by simp)).alloc (.cells (tkC 0 none 0 0 none 0 0) 27)
  have k3 := Blk.new_ ((w.alloc (.cells (opC k i f) 32)).alloc (.cells (tkC a Ua um uc A m c) 27)) (tkC 0 none 0 0 none 0 0) 27 (n := w.heap.size + 2) (by simp)
  have B0 := (((Below.refl w.heap.size w).alloc (Nat.le_refl _) (.cells (opC k i f) 32)).alloc (by simp) (.cells (tkC a Ua um uc A m c) 27)).alloc (by simp; omega) (.cells (tkC 0 none 0 0 none 0 0) 27)
  have RG := Lib.hid (rright_tk a Ua um uc U A m c L _ (h.on B0) hn)
  rw [hr] at RG
  have HC := Lib.hid hc
  unfold WanCN at HC
  have h0 := wrap_pos k
  clear hc h hn hr
  unfold tkV opC at *
  obtain ⟨ra, rU, rP, rn, re⟩ := r
  simp only at HC ⊢
  rcases hk with hk | hk
  · go_enter Tryz.func9, Tryz.ntmps9
    go_wp2_with (first
      | (refine wpList_load_row rfl 27 (.tmp 4) rfl (w.heap.size + 1) rfl 27 (tkC a Ua um uc A m c) (0, 0) _ k2.blk Tryz.underlying27 rfl (tk_inf _ _ _ _ _ _ _) ?_)
      | (refine RG.out.mono ?_
         clear RG
         rintro e w4 ⟨rfl, bb⟩
         have k14 := k1.below bb k1.lt
         have k2 := k2.below bb k2.lt
         have k3 := k3.below bb k3.lt
         have B1 := B0.trans (bb.mono B0.size)
         have HC := Lib.hid (HC.out _ B1)
         have hs4 := B1.size
         have q0 : w4.cell? ⟨w.heap.size, 0, none⟩ = some (.int .i64 k) := k14.cell 0
         clear bb B0 k1 k14)
      | (refine HC.out.mono ?_
         clear HC
         rintro e w5 ⟨v, rfl, ⟨Ua5, um5, uc5, A5, m5, c5, L5, rfl, own5, hn5⟩, bb⟩
         have k35 := k3.below bb k3.lt
         have h35 := k3.lt
         have B5 := B1.trans (bb.mono B1.size)
         clear bb k2 k3 B1
         unfold tkV)
      | (refine wpList_store_blk rfl 27 (.tmp 6) (.tmp 35) rfl (w.heap.size + 2) (tkC 0 none 0 0 none 0 0) (tkC ra Ua5 um5 uc5 A5 m5 c5) 27 rfl rfl k35 rfl (tk_inf _ _ _ _ _ _ _) (tk_one _ _ _ _ _ _ _) ?_
         intro w6 h6 n6))
    refine bodyPost_ret (results_row_t2 rfl _ _ (w.heap.size + 2) 27 (tkC ra Ua5 um5 uc5 A5 m5 c5) _ rfl h6 Tryz.underlying27 rfl (tk_inf _ _ _ _ _ _ _) _ _ rfl rfl) rfl ?_
    exact ⟨_, rfl, ⟨Ua5, um5, uc5, A5, m5, c5, L5, rfl, (own5.kind n6 k35 (by decide) (by decide)).down (by omega), hn5⟩, B5.trans (n6.below _ (by omega) B5.size)⟩
  · go_enter Tryz.func9, Tryz.ntmps9
    go_wp2_with (first
      | (refine wpList_load_row rfl 27 (.tmp 4) rfl (w.heap.size + 1) rfl 27 (tkC a Ua um uc A m c) (0, 0) _ k2.blk Tryz.underlying27 rfl (tk_inf _ _ _ _ _ _ _) ?_)
      | (refine RG.out.mono ?_
         clear RG
         rintro e w4 ⟨rfl, bb⟩
         have k14 := k1.below bb k1.lt
         have k2 := k2.below bb k2.lt
         have k3 := k3.below bb k3.lt
         have B1 := B0.trans (bb.mono B0.size)
         have HC := Lib.hid (HC.out _ B1)
         have hs4 := B1.size
         have q0 : w4.cell? ⟨w.heap.size, 0, none⟩ = some (.int .i64 k) := k14.cell 0
         clear bb B0 k1 k14)
      | (refine HC.out.mono ?_
         clear HC
         rintro e w5 ⟨v, rfl, ⟨Ua5, um5, uc5, A5, m5, c5, L5, rfl, own5, hn5⟩, bb⟩
         have k35 := k3.below bb k3.lt
         have h35 := k3.lt
         have B5 := B1.trans (bb.mono B1.size)
         clear bb k2 k3 B1
         unfold tkV)
      | (refine wpList_store_blk rfl 27 (.tmp 6) (.tmp 35) rfl (w.heap.size + 2) (tkC 0 none 0 0 none 0 0) (tkC ra Ua5 um5 uc5 A5 m5 c5) 27 rfl rfl k35 rfl (tk_inf _ _ _ _ _ _ _) (tk_one _ _ _ _ _ _ _) ?_
         intro w6 h6 n6))
    refine bodyPost_ret (results_row_t2 rfl _ _ (w.heap.size + 2) 27 (tkC ra Ua5 um5 uc5 A5 m5 c5) _ rfl h6 Tryz.underlying27 rfl (tk_inf _ _ _ _ _ _ _) _ _ rfl rfl) rfl ?_
    exact ⟨_, rfl, ⟨Ua5, um5, uc5, A5, m5, c5, L5, rfl, (own5.kind n6 k35 (by decide) (by decide)).down (by omega), hn5⟩, B5.trans (n6.below _ (by omega) B5.size)⟩
set_option maxRecDepth 100000 in
set_option maxHeartbeats 8000000 in
theorem wants_clone (k i : Int) (f : Bool) (a : Int) (Ua : Option Addr) (um uc : Nat) (U : List Int) (A : Option Addr) (m c : Nat) (L : List Pw) (id : Int) (r : TkA) (w : World) (hk : IntKind.u64.wrap k % 8 = 2 ∨ IntKind.u64.wrap k % 8 = 3) (h : Tk w w.heap.size Ua um uc U A m c L) (hn : (tidF L).length ≤ 1000) (hr : rgtB a U L = true) (hc : ∀ V, Below w.heap.size w V → WanCN false a Ua um uc A m c id r V) :
    Calls Tryz.prog 9 #[.agg (opC k i f), tkV a Ua um uc A m c, .int .i64 id] w fun e w' => WanO w r e w' := by
  have k1 := ((Blk.new w (opC k i f) 32).alloc (.cells (tkC a Ua um uc A m c) 27)).alloc (.cells (tkC 0 none 0 0 none 0 0) 27)
  have k2 := (Blk.new_ (w.alloc (.cells (opC k i f) 32)) (tkC a Ua um uc A m c) 27 (n := w.heap.size + 1) (by simp)).alloc (.cells (tkC 0 none 0 0 none 0 0) 27)
  have k3 := Blk.new_ ((w.alloc (.cells (opC k i f) 32)).alloc (.cells (tkC a Ua um uc A m c) 27)) (tkC 0 none 0 0 none 0 0) 27 (n := w.heap.size + 2) (by simp)
  have B0 := (((Below.refl w.heap.size w).alloc (Nat.le_refl _) (.cells (opC k i f) 32)).alloc (by simp) (.cells (tkC a Ua um uc A m c) 27)).alloc (by simp; omega) (.cells (tkC 0 none 0 0 none 0 0) 27)
  have RG := Lib.hid (rright_tk a Ua um uc U A m c L _ (h.on B0) hn)
  rw [hr] at RG
  have HC := Lib.hid hc
  unfold WanCN at HC
  have h0 := wrap_pos k
  clear hc h hn hr
  unfold tkV opC at *
  obtain ⟨ra, rU, rP, rn, re⟩ := r
  simp only at HC ⊢
  rcases hk with hk | hk
  · go_enter Tryz.func9, Tryz.ntmps9
    go_wp2_with (first
      | (refine wpList_load_row rfl 27 (.tmp 4) rfl (w.heap.size + 1) rfl 27 (tkC a Ua um uc A m c) (0, 0) _ k2.blk Tryz.underlying27 rfl (tk_inf _ _ _ _ _ _ _) ?_)
      | (refine RG.out.mono ?_
         clear RG
         rintro e w4 ⟨rfl, bb⟩
         have k14 := k1.below bb k1.lt
         have k2 := k2.below bb k2.lt
         have k3 := k3.below bb k3.lt
         have B1 := B0.trans (bb.mono B0.size)
         have HC := Lib.hid (HC.out _ B1)
         have hs4 := B1.size
         have q0 : w4.cell? ⟨w.heap.size, 0, none⟩ = some (.int .i64 k) := k14.cell 0
         clear bb B0 k1 k14)
      | (refine HC.out.mono ?_
         clear HC
         rintro e w5 ⟨v, rfl, ⟨Ua5, um5, uc5, A5, m5, c5, L5, rfl, own5, hn5⟩, bb⟩
         have k35 := k3.below bb k3.lt
         have h35 := k3.lt
         have B5 := B1.trans (bb.mono B1.size)
         clear bb k2 k3 B1
         unfold tkV)
      | (refine wpList_store_blk rfl 27 (.tmp 6) (.tmp 35) rfl (w.heap.size + 2) (tkC 0 none 0 0 none 0 0) (tkC ra Ua5 um5 uc5 A5 m5 c5) 27 rfl rfl k35 rfl (tk_inf _ _ _ _ _ _ _) (tk_one _ _ _ _ _ _ _) ?_
         intro w6 h6 n6))
    refine bodyPost_ret (results_row_t2 rfl _ _ (w.heap.size + 2) 27 (tkC ra Ua5 um5 uc5 A5 m5 c5) _ rfl h6 Tryz.underlying27 rfl (tk_inf _ _ _ _ _ _ _) _ _ rfl rfl) rfl ?_
    exact ⟨_, rfl, ⟨Ua5, um5, uc5, A5, m5, c5, L5, rfl, (own5.kind n6 k35 (by decide) (by decide)).down (by omega), hn5⟩, B5.trans (n6.below _ (by omega) B5.size)⟩
  · go_enter Tryz.func9, Tryz.ntmps9
    go_wp2_with (first
      | (refine wpList_load_row rfl 27 (.tmp 4) rfl (w.heap.size + 1) rfl 27 (tkC a Ua um uc A m c) (0, 0) _ k2.blk Tryz.underlying27 rfl (tk_inf _ _ _ _ _ _ _) ?_)
      | (refine RG.out.mono ?_
         clear RG
         rintro e w4 ⟨rfl, bb⟩
         have k14 := k1.below bb k1.lt
         have k2 := k2.below bb k2.lt
         have k3 := k3.below bb k3.lt
         have B1 := B0.trans (bb.mono B0.size)
         have HC := Lib.hid (HC.out _ B1)
         have hs4 := B1.size
         have q0 : w4.cell? ⟨w.heap.size, 0, none⟩ = some (.int .i64 k) := k14.cell 0
         clear bb B0 k1 k14)
      | (refine HC.out.mono ?_
         clear HC
         rintro e w5 ⟨v, rfl, ⟨Ua5, um5, uc5, A5, m5, c5, L5, rfl, own5, hn5⟩, bb⟩
         have k35 := k3.below bb k3.lt
         have h35 := k3.lt
         have B5 := B1.trans (bb.mono B1.size)
         clear bb k2 k3 B1
         unfold tkV)
      | (refine wpList_store_blk rfl 27 (.tmp 6) (.tmp 35) rfl (w.heap.size + 2) (tkC 0 none 0 0 none 0 0) (tkC ra Ua5 um5 uc5 A5 m5 c5) 27 rfl rfl k35 rfl (tk_inf _ _ _ _ _ _ _) (tk_one _ _ _ _ _ _ _) ?_
         intro w6 h6 n6))
    refine bodyPost_ret (results_row_t2 rfl _ _ (w.heap.size + 2) 27 (tkC ra Ua5 um5 uc5 A5 m5 c5) _ rfl h6 Tryz.underlying27 rfl (tk_inf _ _ _ _ _ _ _) _ _ rfl rfl) rfl ?_
    exact ⟨_, rfl, ⟨Ua5, um5, uc5, A5, m5, c5, L5, rfl, (own5.kind n6 k35 (by decide) (by decide)).down (by omega), hn5⟩, B5.trans (n6.below _ (by omega) B5.size)⟩
set_option maxRecDepth 100000 in
set_option maxHeartbeats 8000000 in
theorem wants_exec (k i : Int) (f : Bool) (a : Int) (Ua : Option Addr) (um uc : Nat) (U : List Int) (A : Option Addr) (m c : Nat) (L : List Pw) (id : Int) (r : TkA) (w : World) (hk : IntKind.u64.wrap k % 8 = 4) (h : Tk w w.heap.size Ua um uc U A m c L) (hn : (tidF L).length ≤ 1000) (hr : rgtB a U L = true) (hc : ∀ V, Below w.heap.size w V → WanC2 33 a Ua um uc A m c id r V) (hrn : r.n = 0) :
    Calls Tryz.prog 9 #[.agg (opC k i f), tkV a Ua um uc A m c, .int .i64 id] w fun e w' => WanO w r e w' := by
  have k1 := ((Blk.new w (opC k i f) 32).alloc (.cells (tkC a Ua um uc A m c) 27)).alloc (.cells (tkC 0 none 0 0 none 0 0) 27)
  have k2 := (Blk.new_ (w.alloc (.cells (opC k i f) 32)) (tkC a Ua um uc A m c) 27 (n := w.heap.size + 1) (by simp)).alloc (.cells (tkC 0 none 0 0 none 0 0) 27)
  have k3 := Blk.new_ ((w.alloc (.cells (opC k i f) 32)).alloc (.cells (tkC a Ua um uc A m c) 27)) (tkC 0 none 0 0 none 0 0) 27 (n := w.heap.size + 2) (by simp)
  have B0 := (((Below.refl w.heap.size w).alloc (Nat.le_refl _) (.cells (opC k i f) 32)).alloc (by simp) (.cells (tkC a Ua um uc A m c) 27)).alloc (by simp; omega) (.cells (tkC 0 none 0 0 none 0 0) 27)
  have RG := Lib.hid (rright_tk a Ua um uc U A m c L _ (h.on B0) hn)
  rw [hr] at RG
  have HC := Lib.hid hc
  unfold WanC2 at HC
  have h0 := wrap_pos k
  clear hc h hn hr
  unfold tkV opC at *
  obtain ⟨ra, rU, rP, rn, re⟩ := r
  simp only at HC ⊢
  obtain rfl : rn = 0 := hrn
  go_enter Tryz.func9, Tryz.ntmps9
  go_wp2_with (first
    | (refine wpList_load_row rfl 27 (.tmp 4) rfl (w.heap.size + 1) rfl 27 (tkC a Ua um uc A m c) (0, 0) _ k2.blk Tryz.underlying27 rfl (tk_inf _ _ _ _ _ _ _) ?_)
    | (refine RG.out.mono ?_
       clear RG
       rintro e w4 ⟨rfl, bb⟩
       have k14 := k1.below bb k1.lt
       have k2 := k2.below bb k2.lt
       have k3 := k3.below bb k3.lt
       have B1 := B0.trans (bb.mono B0.size)
       have HC := Lib.hid (HC.out _ B1)
       have hs4 := B1.size
       have q0 : w4.cell? ⟨w.heap.size, 0, none⟩ = some (.int .i64 k) := k14.cell 0
       clear bb B0 k1 k14)
    | (refine HC.out.mono ?_
       clear HC
       rintro e w5 ⟨v, rfl, ⟨Ua5, um5, uc5, A5, m5, c5, L5, rfl, own5, hn5⟩, bb⟩
       have k35 := k3.below bb k3.lt
       have h35 := k3.lt
       have hs5 := bb.size
       have B5 := B1.trans (bb.mono B1.size)
       clear bb k2 k3 B1
       unfold tkV)
    | (refine wpList_store_blk rfl 27 (.tmp 10) (.tmp 44) rfl w5.heap.size (tkC 0 none 0 0 none 0 0) (tkC ra Ua5 um5 uc5 A5 m5 c5) 27 rfl rfl (Blk.new _ _ _) rfl (tk_inf _ _ _ _ _ _ _) (tk_one _ _ _ _ _ _ _) ?_
       intro w6 h6 n6
       have b6 : Below w5.heap.size w5 w6 := ((Below.refl _ w5).alloc (Nat.le_refl _) _).trans (n6.below _ (Nat.le_refl _) (by simp))
       have k36 := k35.below b6 k35.lt
       have own6 := own5.below b6 (Nat.le_refl _)
       have B6 := B5.trans (b6.mono B5.size)
       clear k35 b6 B5 n6)
    | (refine wpList_load_row rfl 27 (.tmp 10) rfl w5.heap.size rfl 27 (tkC ra Ua5 um5 uc5 A5 m5 c5) (0, 0) _ h6.blk Tryz.underlying27 rfl (tk_inf _ _ _ _ _ _ _) ?_)
    | (refine wpList_store_blk rfl 27 (.tmp 6) (.tmp 46) rfl (w.heap.size + 2) (tkC 0 none 0 0 none 0 0) (tkC ra Ua5 um5 uc5 A5 m5 c5) 27 rfl rfl k36 rfl (tk_inf _ _ _ _ _ _ _) (tk_one _ _ _ _ _ _ _) ?_
       intro w7 h7 n7))
  refine bodyPost_ret (results_row_t2 rfl _ _ (w.heap.size + 2) 27 (tkC ra Ua5 um5 uc5 A5 m5 c5) _ rfl h7 Tryz.underlying27 rfl (tk_inf _ _ _ _ _ _ _) _ _ rfl rfl) rfl ?_
  exact ⟨_, rfl, ⟨Ua5, um5, uc5, A5, m5, c5, L5, rfl, (own6.kind n7 k36 (by decide) (by decide)).down (by omega), hn5⟩, B6.trans (n7.below _ (by omega) B6.size)⟩
set_option maxRecDepth 100000 in
set_option maxHeartbeats 8000000 in
theorem wants_end (k i : Int) (f : Bool) (a : Int) (Ua : Option Addr) (um uc : Nat) (U : List Int) (A : Option Addr) (m c : Nat) (L : List Pw) (id : Int) (r : TkA) (w : World) (hk : IntKind.u64.wrap k % 8 = 5) (h : Tk w w.heap.size Ua um uc U A m c L) (hn : (tidF L).length ≤ 1000) (hr : rgtB a U L = true) (hc : ∀ V, Below w.heap.size w V → WanC2 34 a Ua um uc A m c id r V) (hrn : r.n = 0) :
    Calls Tryz.prog 9 #[.agg (opC k i f), tkV a Ua um uc A m c, .int .i64 id] w fun e w' => WanO w r e w' := by
  have k1 := ((Blk.new w (opC k i f) 32).alloc (.cells (tkC a Ua um uc A m c) 27)).alloc (.cells (tkC 0 none 0 0 none 0 0) 27)
  have k2 := (Blk.new_ (w.alloc (.cells (opC k i f) 32)) (tkC a Ua um uc A m c) 27 (n := w.heap.size + 1) (by simp)).alloc (.cells (tkC 0 none 0 0 none 0 0) 27)
  have k3 := Blk.new_ ((w.alloc (.cells (opC k i f) 32)).alloc (.cells (tkC a Ua um uc A m c) 27)) (tkC 0 none 0 0 none 0 0) 27 (n := w.heap.size + 2) (by simp)
  have B0 := (((Below.refl w.heap.size w).alloc (Nat.le_refl _) (.cells (opC k i f) 32)).alloc (by simp) (.cells (tkC a Ua um uc A m c) 27)).alloc (by simp; omega) (.cells (tkC 0 none 0 0 none 0 0) 27)
  have RG := Lib.hid (rright_tk a Ua um uc U A m c L _ (h.on B0) hn)
  rw [hr] at RG
  have HC := Lib.hid hc
  unfold WanC2 at HC
  have h0 := wrap_pos k
  clear hc h hn hr
  unfold tkV opC at *
  obtain ⟨ra, rU, rP, rn, re⟩ := r
  simp only at HC ⊢
  obtain rfl : rn = 0 := hrn
  go_enter Tryz.func9, Tryz.ntmps9
  go_wp2_with (first
    | (refine wpList_load_row rfl 27 (.tmp 4) rfl (w.heap.size + 1) rfl 27 (tkC a Ua um uc A m c) (0, 0) _ k2.blk Tryz.underlying27 rfl (tk_inf _ _ _ _ _ _ _) ?_)
    | (refine RG.out.mono ?_
       clear RG
       rintro e w4 ⟨rfl, bb⟩
       have k14 := k1.below bb k1.lt
       have k2 := k2.below bb k2.lt
       have k3 := k3.below bb k3.lt
       have B1 := B0.trans (bb.mono B0.size)
       have HC := Lib.hid (HC.out _ B1)
       have hs4 := B1.size
       have q0 : w4.cell? ⟨w.heap.size, 0, none⟩ = some (.int .i64 k) := k14.cell 0
       clear bb B0 k1 k14)
    | (refine HC.out.mono ?_
       clear HC
       rintro e w5 ⟨v, rfl, ⟨Ua5, um5, uc5, A5, m5, c5, L5, rfl, own5, hn5⟩, bb⟩
       have k35 := k3.below bb k3.lt
       have h35 := k3.lt
       have hs5 := bb.size
       have B5 := B1.trans (bb.mono B1.size)
       clear bb k2 k3 B1
       unfold tkV)
    | (refine wpList_store_blk rfl 27 (.tmp 12) (.tmp 54) rfl w5.heap.size (tkC 0 none 0 0 none 0 0) (tkC ra Ua5 um5 uc5 A5 m5 c5) 27 rfl rfl (Blk.new _ _ _) rfl (tk_inf _ _ _ _ _ _ _) (tk_one _ _ _ _ _ _ _) ?_
       intro w6 h6 n6
       have b6 : Below w5.heap.size w5 w6 := ((Below.refl _ w5).alloc (Nat.le_refl _) _).trans (n6.below _ (Nat.le_refl _) (by simp))
       have k36 := k35.below b6 k35.lt
       have own6 := own5.below b6 (Nat.le_refl _)
       have B6 := B5.trans (b6.mono B5.size)
       clear k35 b6 B5 n6)
    | (refine wpList_load_row rfl 27 (.tmp 12) rfl w5.heap.size rfl 27 (tkC ra Ua5 um5 uc5 A5 m5 c5) (0, 0) _ h6.blk Tryz.underlying27 rfl (tk_inf _ _ _ _ _ _ _) ?_)
    | (refine wpList_store_blk rfl 27 (.tmp 6) (.tmp 56) rfl (w.heap.size + 2) (tkC 0 none 0 0 none 0 0) (tkC ra Ua5 um5 uc5 A5 m5 c5) 27 rfl rfl k36 rfl (tk_inf _ _ _ _ _ _ _) (tk_one _ _ _ _ _ _ _) ?_
       intro w7 h7 n7))
  refine bodyPost_ret (results_row_t2 rfl _ _ (w.heap.size + 2) 27 (tkC ra Ua5 um5 uc5 A5 m5 c5) _ rfl h7 Tryz.underlying27 rfl (tk_inf _ _ _ _ _ _ _) _ _ rfl rfl) rfl ?_
  exact ⟨_, rfl, ⟨Ua5, um5, uc5, A5, m5, c5, L5, rfl, (own6.kind n7 k36 (by decide) (by decide)).down (by omega), hn5⟩, B6.trans (n7.below _ (by omega) B6.size)⟩
set_option maxRecDepth 100000 in
set_option maxHeartbeats 8000000 in
theorem wants_kill (k i : Int) (f : Bool) (a : Int) (Ua : Option Addr) (um uc : Nat) (U : List Int) (A : Option Addr) (m c : Nat) (L : List Pw) (id : Int) (r : TkA) (w : World) (hk : IntKind.u64.wrap k % 8 = 6) (h : Tk w w.heap.size Ua um uc U A m c L) (hn : (tidF L).length ≤ 1000) (hr : rgtB a U L = true) (hc : ∀ V, Below w.heap.size w V → WanC2 35 a Ua um uc A m c id r V) (hrn : r.n = 0) :
    Calls Tryz.prog 9 #[.agg (opC k i f), tkV a Ua um uc A m c, .int .i64 id] w fun e w' => WanO w r e w' := by
  have k1 := ((Blk.new w (opC k i f) 32).alloc (.cells (tkC a Ua um uc A m c) 27)).alloc (.cells (tkC 0 none 0 0 none 0 0) 27)
  have k2 := (Blk.new_ (w.alloc (.cells (opC k i f) 32)) (tkC a Ua um uc A m c) 27 (n := w.heap.size + 1) (by simp)).alloc (.cells (tkC 0 none 0 0 none 0 0) 27)
  have k3 := Blk.new_ ((w.alloc (.cells (opC k i f) 32)).alloc (.cells (tkC a Ua um uc A m c) 27)) (tkC 0 none 0 0 none 0 0) 27 (n := w.heap.size + 2) (by simp)
  have B0 := (((Below.refl w.heap.size w).alloc (Nat.le_refl _) (.cells (opC k i f) 32)).alloc (by simp) (.cells (tkC a Ua um uc A m c) 27)).alloc (by simp; omega) (.cells (tkC 0 none 0 0 none 0 0) 27)
  have RG := Lib.hid (rright_tk a Ua um uc U A m c L _ (h.on B0) hn)
  rw [hr] at RG
  have HC := Lib.hid hc
  unfold WanC2 at HC
  have h0 := wrap_pos k
  clear hc h hn hr
  unfold tkV opC at *
  obtain ⟨ra, rU, rP, rn, re⟩ := r
  simp only at HC ⊢
  obtain rfl : rn = 0 := hrn
  go_enter Tryz.func9, Tryz.ntmps9
  go_wp2_with (first
    | (refine wpList_load_row rfl 27 (.tmp 4) rfl (w.heap.size + 1) rfl 27 (tkC a Ua um uc A m c) (0, 0) _ k2.blk Tryz.underlying27 rfl (tk_inf _ _ _ _ _ _ _) ?_)
    | (refine RG.out.mono ?_
       clear RG
       rintro e w4 ⟨rfl, bb⟩
       have k14 := k1.below bb k1.lt
       have k2 := k2.below bb k2.lt
       have k3 := k3.below bb k3.lt
       have B1 := B0.trans (bb.mono B0.size)
       have HC := Lib.hid (HC.out _ B1)
       have hs4 := B1.size
       have q0 : w4.cell? ⟨w.heap.size, 0, none⟩ = some (.int .i64 k) := k14.cell 0
       clear bb B0 k1 k14)
    | (refine HC.out.mono ?_
       clear HC
       rintro e w5 ⟨v, rfl, ⟨Ua5, um5, uc5, A5, m5, c5, L5, rfl, own5, hn5⟩, bb⟩
       have k35 := k3.below bb k3.lt
       have h35 := k3.lt
       have hs5 := bb.size
       have B5 := B1.trans (bb.mono B1.size)
       clear bb k2 k3 B1
       unfold tkV)
    | (refine wpList_store_blk rfl 27 (.tmp 14) (.tmp 64) rfl w5.heap.size (tkC 0 none 0 0 none 0 0) (tkC ra Ua5 um5 uc5 A5 m5 c5) 27 rfl rfl (Blk.new _ _ _) rfl (tk_inf _ _ _ _ _ _ _) (tk_one _ _ _ _ _ _ _) ?_
       intro w6 h6 n6
       have b6 : Below w5.heap.size w5 w6 := ((Below.refl _ w5).alloc (Nat.le_refl _) _).trans (n6.below _ (Nat.le_refl _) (by simp))
       have k36 := k35.below b6 k35.lt
       have own6 := own5.below b6 (Nat.le_refl _)
       have B6 := B5.trans (b6.mono B5.size)
       clear k35 b6 B5 n6)
    | (refine wpList_load_row rfl 27 (.tmp 14) rfl w5.heap.size rfl 27 (tkC ra Ua5 um5 uc5 A5 m5 c5) (0, 0) _ h6.blk Tryz.underlying27 rfl (tk_inf _ _ _ _ _ _ _) ?_)
    | (refine wpList_store_blk rfl 27 (.tmp 6) (.tmp 66) rfl (w.heap.size + 2) (tkC 0 none 0 0 none 0 0) (tkC ra Ua5 um5 uc5 A5 m5 c5) 27 rfl rfl k36 rfl (tk_inf _ _ _ _ _ _ _) (tk_one _ _ _ _ _ _ _) ?_
       intro w7 h7 n7))
  refine bodyPost_ret (results_row_t2 rfl _ _ (w.heap.size + 2) 27 (tkC ra Ua5 um5 uc5 A5 m5 c5) _ rfl h7 Tryz.underlying27 rfl (tk_inf _ _ _ _ _ _ _) _ _ rfl rfl) rfl ?_
  exact ⟨_, rfl, ⟨Ua5, um5, uc5, A5, m5, c5, L5, rfl, (own6.kind n7 k36 (by decide) (by decide)).down (by omega), hn5⟩, B6.trans (n7.below _ (by omega) B6.size)⟩
set_option maxRecDepth 100000 in
set_option maxHeartbeats 8000000 in
theorem wants_reap (k i : Int) (f : Bool) (a : Int) (Ua : Option Addr) (um uc : Nat) (U : List Int) (A : Option Addr) (m c : Nat) (L : List Pw) (id : Int) (r : TkA) (w : World) (hk : IntKind.u64.wrap k % 8 = 7) (h : Tk w w.heap.size Ua um uc U A m c L) (hn : (tidF L).length ≤ 1000) (hr : rgtB a U L = true) (hc : ∀ V, Below w.heap.size w V → WanC3 36 a Ua um uc A m c id r V) :
    Calls Tryz.prog 9 #[.agg (opC k i f), tkV a Ua um uc A m c, .int .i64 id] w fun e w' => WanO w r e w' := by
  have k1 := ((Blk.new w (opC k i f) 32).alloc (.cells (tkC a Ua um uc A m c) 27)).alloc (.cells (tkC 0 none 0 0 none 0 0) 27)
  have k2 := (Blk.new_ (w.alloc (.cells (opC k i f) 32)) (tkC a Ua um uc A m c) 27 (n := w.heap.size + 1) (by simp)).alloc (.cells (tkC 0 none 0 0 none 0 0) 27)
  have k3 := Blk.new_ ((w.alloc (.cells (opC k i f) 32)).alloc (.cells (tkC a Ua um uc A m c) 27)) (tkC 0 none 0 0 none 0 0) 27 (n := w.heap.size + 2) (by simp)
  have B0 := (((Below.refl w.heap.size w).alloc (Nat.le_refl _) (.cells (opC k i f) 32)).alloc (by simp) (.cells (tkC a Ua um uc A m c) 27)).alloc (by simp; omega) (.cells (tkC 0 none 0 0 none 0 0) 27)
  have RG := Lib.hid (rright_tk a Ua um uc U A m c L _ (h.on B0) hn)
  rw [hr] at RG
  have HC := Lib.hid hc
  unfold WanC3 at HC
  have h0 := wrap_pos k
  clear hc h hn hr
  unfold tkV opC at *
  obtain ⟨ra, rU, rP, rn, re⟩ := r
  simp only at HC ⊢
  go_enter Tryz.func9, Tryz.ntmps9
  go_wp2_with (first
    | (refine wpList_load_row rfl 27 (.tmp 4) rfl (w.heap.size + 1) rfl 27 (tkC a Ua um uc A m c) (0, 0) _ k2.blk Tryz.underlying27 rfl (tk_inf _ _ _ _ _ _ _) ?_)
    | (refine RG.out.mono ?_
       clear RG
       rintro e w4 ⟨rfl, bb⟩
       have k14 := k1.below bb k1.lt
       have k2 := k2.below bb k2.lt
       have k3 := k3.below bb k3.lt
       have B1 := B0.trans (bb.mono B0.size)
       have HC := Lib.hid (HC.out _ B1)
       have hs4 := B1.size
       have q0 : w4.cell? ⟨w.heap.size, 0, none⟩ = some (.int .i64 k) := k14.cell 0
       clear bb B0 k1 k14)
    | (refine HC.out.mono ?_
       clear HC
       rintro e w5 ⟨v, rfl, ⟨Ua5, um5, uc5, A5, m5, c5, L5, rfl, own5, hn5⟩, bb⟩
       have k35 := k3.below bb k3.lt
       have h35 := k3.lt
       have B5 := B1.trans (bb.mono B1.size)
       clear bb k2 k3 B1
       unfold tkV)
    | (refine wpList_store_blk rfl 27 (.tmp 6) (.tmp 71) rfl (w.heap.size + 2) (tkC 0 none 0 0 none 0 0) (tkC ra Ua5 um5 uc5 A5 m5 c5) 27 rfl rfl k35 rfl (tk_inf _ _ _ _ _ _ _) (tk_one _ _ _ _ _ _ _) ?_
       intro w6 h6 n6))
  refine bodyPost_ret (results_row_t2 rfl _ _ (w.heap.size + 2) 27 (tkC ra Ua5 um5 uc5 A5 m5 c5) _ rfl h6 Tryz.underlying27 rfl (tk_inf _ _ _ _ _ _ _) _ _ rfl rfl) rfl ?_
  exact ⟨_, rfl, ⟨Ua5, um5, uc5, A5, m5, c5, L5, rfl, (own5.kind n6 k35 (by decide) (by decide)).down (by omega), hn5⟩, B5.trans (n6.below _ (by omega) B5.size)⟩
set_option maxRecDepth 100000 in
set_option maxHeartbeats 8000000 in
theorem wants_no (k i : Int) (f : Bool) (a : Int) (Ua : Option Addr) (um uc : Nat) (U : List Int) (A : Option Addr) (m c : Nat) (L : List Pw) (id : Int) (w : World) (h : Tk w w.heap.size Ua um uc U A m c L) (hn : (tidF L).length ≤ 1000) (hr : rgtB a U L = false) :
    Calls Tryz.prog 9 #[.agg (opC k i f), tkV a Ua um uc A m c, .int .i64 id] w fun e w' => WanO w (noT 220) e w' := by
  have k2 := (Blk.new_ (w.alloc (.cells (opC k i f) 32)) (tkC a Ua um uc A m c) 27 (n := w.heap.size + 1) (by simp)).alloc (.cells (tkC 0 none 0 0 none 0 0) 27)
  have k3 := Blk.new_ ((w.alloc (.cells (opC k i f) 32)).alloc (.cells (tkC a Ua um uc A m c) 27)) (tkC 0 none 0 0 none 0 0) 27 (n := w.heap.size + 2) (by simp)
  have B0 := (((Below.refl w.heap.size w).alloc (Nat.le_refl _) (.cells (opC k i f) 32)).alloc (by simp) (.cells (tkC a Ua um uc A m c) 27)).alloc (by simp; omega) (.cells (tkC 0 none 0 0 none 0 0) 27)
  have RG := Lib.hid (rright_tk a Ua um uc U A m c L _ (h.on B0) hn)
  rw [hr] at RG
  clear h hn hr
  unfold tkV opC at *
  go_enter Tryz.func9, Tryz.ntmps9
  go_wp2_with (first
    | (refine wpList_load_row rfl 27 (.tmp 4) rfl (w.heap.size + 1) rfl 27 (tkC a Ua um uc A m c) (0, 0) _ k2.blk Tryz.underlying27 rfl (tk_inf _ _ _ _ _ _ _) ?_)
    | (refine RG.out.mono ?_
       clear RG
       rintro e w4 ⟨rfl, bb⟩
       have k3 := k3.below bb k3.lt
       have B1 := B0.trans (bb.mono B0.size)
       clear bb B0 k2)
    | (refine wpList_store_blk rfl 27 (.tmp 6) (.tmp 19) rfl (w.heap.size + 2) (tkC 0 none 0 0 none 0 0) (tkC 0 none 0 0 none 0 0) 27 rfl rfl k3 rfl (tk_inf _ _ _ _ _ _ _) (tk_one _ _ _ _ _ _ _) ?_
       intro w6 h6 n6))
  refine bodyPost_ret (results_row_t2 rfl _ _ (w.heap.size + 2) 27 (tkC 0 none 0 0 none 0 0) _ rfl h6 Tryz.underlying27 rfl (tk_inf _ _ _ _ _ _ _) _ _ rfl rfl) rfl ?_
  exact ⟨_, rfl, tkW_nil _ _ _, B1.trans (n6.below _ (by omega) B1.size)⟩
end Go.Proofs.YtlelhhgggnjndaaGreat
namespace Go.Proofs.YtlelhhgggnjndaaGreat
open Go.RowKit Go.Shelf
set_option linter.unusedVariables false
set_option linter.unusedSimpArgs false
set_option maxRecDepth 100000 in
set_option maxHeartbeats 8000000 in
theorem newEf_rf (an : Nat) (Ua : Option Addr) (um uc : Nat) (U : List Int) (A : Option Addr) (m c : Nat) (L : List Pw) (tid pid : Int) (w : World) (h : Tk w w.heap.size Ua um uc U A m c L) (hI : Ids (an : Int) U) (hu6 : um ≤ 100000) (hof : ofR L tid = pid) (hp0 : (pid == 0) = false) (hN : (tidF L).length ≤ 1000) (hfull : (withs [] (tidF L)).length < 8) (a' id : Int) (l' : List Int) (er : Int) (he0 : (er != 0) = true) (ht : takeV an U = (a', l', id, er)) :
    Calls Tryz.prog 32 #[tkV an Ua um uc A m c, .int .i64 tid, .bool false] w fun e w' => e = .returned (.tuple #[tkV 0 none 0 0 none 0 0, .int .i64 0, .int .i64 er]) ∧ Below w.heap.size w w' := by
  have k1 := (Blk.new w (tkC an Ua um uc A m c) 27).alloc (.cells (tkC 0 none 0 0 none 0 0) 27)
  have k2 := Blk.new_ (w.alloc (.cells (tkC an Ua um uc A m c) 27)) (tkC 0 none 0 0 none 0 0) 27 (n := w.heap.size + 1) (by simp)
  have B0 := ((Below.refl w.heap.size w).alloc (Nat.le_refl _) (.cells (tkC an Ua um uc A m c) 27)).alloc (by simp) (.cells (tkC 0 none 0 0 none 0 0) 27)
  have t0 := h.on B0
  have OF := Lib.hid (of_rf an Ua um uc A m c L tid _ t0.p t0.pl (by have := h.p6; omega))
  rw [hof] at OF
  have LV := Lib.hid (fun (V : World) (hV : Below w.heap.size w V) => rlive_tk an Ua um uc A m c L V (h.on hV).p h.pl (by have := h.p6; omega) hN)
  obtain ⟨n, hn⟩ : ∃ n, (withs [] (tidF L)).length = n := ⟨_, rfl⟩
  rw [hn] at hfull
  have HNL := Lib.hid hn
  have hi8 : ¬ (8 : Int) ≤ (n : Int) := by omega
  have TK := Lib.hid (fun (V : World) (hV : Below w.heap.size w V) => rtake_pid an Ua um uc U V (h.on hV).u h.ul hu6 hI)
  have HX := Lib.hid ht
  clear h t0 hof hn hN hI hu6 ht
  unfold tkV at OF LV ⊢
  unfold pdV pdC at TK
  go_enter Tryz.func32, Tryz.ntmps32
  go_wp2_with (first
    | (refine wpList_load_row rfl 27 (.tmp 3) rfl w.heap.size rfl 27 (tkC an Ua um uc A m c) (0, 0) _ k1.blk Tryz.underlying27 rfl (tk_inf _ _ _ _ _ _ _) ?_)
    | (refine OF.out.mono ?_
       clear OF
       rintro e w1 ⟨rfl, bb⟩
       have k1 := k1.below bb k1.lt
       have k2 := k2.below bb k2.lt
       have B1 := B0.trans (bb.mono B0.size)
       clear bb B0)
    | (refine (LV.out _ B1).mono ?_
       clear LV
       rintro e w2 ⟨G, gm, gc, rfl, z1, bb⟩
       have k11 := k1.below bb k1.lt
       have k21 := k2.below bb k2.lt
       have B2 := B1.trans (bb.mono B1.size)
       obtain rfl : gm = n := z1.len.trans HNL.out
       have q0 : w2.cell? ⟨w.heap.size, 0, none⟩ = some (.int .i64 an) := k11.cell 0
       have q1 : w2.cell? ⟨w.heap.size, 1, none⟩ = some (.slice Ua um uc) := k11.cell 1
       have q2 : w2.cell? ⟨w.heap.size, 2, none⟩ = some (.slice A m c) := k11.cell 2
       clear bb z1 B1 k1 k2)
    | (refine (TK.out _ B2).mono ?_
       clear TK q0 q1 q2
       rintro e w3 ⟨A3, m3, c3, a3, l3, id3, er3, rfl, z3, htk, bb⟩
       have HTK := Lib.hid (htk.symm.trans HX.out)
       clear htk
       obtain ⟨rfl, rfl, rfl, rfl⟩ : a3 = a' ∧ l3 = l' ∧ id3 = id ∧ er3 = er := by have := HTK.out; simpa using this
       have k12 := k11.below bb k11.lt
       have k22 := k21.below bb k21.lt
       have B3 := B2.trans (bb.mono B2.size)
       have hs3 := B2.size
       have bx : Below w.heap.size w3 (w3.alloc (.cells (pdC 0 none 0 0) 24)) := (Below.refl _ _).alloc B3.size _
       clear bb B2 k11 k21 HTK)
    | (refine wpList_store_blk rfl 24 (.tmp 10) (.tmp 45) rfl w3.heap.size (pdC 0 none 0 0) (pdC a3 A3 m3 c3) 24 rfl rfl (Blk.new w3 (pdC 0 none 0 0) 24) rfl (pd_inf _ _ _ _) (pd_one _ _ _ _) ?_
       intro w4 k4 n4
       have b4 : Below w3.heap.size w3 w4 := ((Below.refl w3.heap.size w3).alloc (Nat.le_refl _) _).trans (n4.below _ (Nat.le_refl _) (by simp))
       have k24 := k22.below b4 k22.lt
       have B4 := B3.trans (b4.mono B3.size)
       clear b4 n4 k12 k22 z3 B3 bx)
    | (refine wpList_store_blk rfl 27 (.tmp 6) (.tmp 50) rfl (w.heap.size + 1) (tkC 0 none 0 0 none 0 0) (tkC 0 none 0 0 none 0 0) 27 rfl rfl k24 rfl (tk_inf _ _ _ _ _ _ _) (tk_one _ _ _ _ _ _ _) ?_
       intro w7 k7 n7))
  refine bodyPost_ret (results_row_t2 rfl _ _ (w.heap.size + 1) 27 (tkC 0 none 0 0 none 0 0) _ rfl k7 Tryz.underlying27 rfl (tk_inf _ _ _ _ _ _ _) _ _ rfl rfl) rfl ?_
  exact ⟨rfl, B4.trans (n7.below _ (by omega) B4.size)⟩
set_option maxRecDepth 100000 in
set_option maxHeartbeats 8000000 in
theorem newEt_rf (an : Nat) (Ua : Option Addr) (um uc : Nat) (U : List Int) (A : Option Addr) (m c : Nat) (L : List Pw) (tid pid : Int) (w : World) (h : Tk w w.heap.size Ua um uc U A m c L) (hI : Ids (an : Int) U) (hu6 : um ≤ 100000) (hof : ofR L tid = pid) (hp0 : (pid == 0) = false) (hN : (tidF L).length ≤ 1000) (hfull : (withs [] (tidF L)).length < 8) (hm5 : m < 6) (a' id : Int) (l' : List Int) (er : Int) (he0 : (er != 0) = true) (ht : takeV an U = (a', l', id, er)) :
    Calls Tryz.prog 32 #[tkV an Ua um uc A m c, .int .i64 tid, .bool true] w fun e w' => e = .returned (.tuple #[tkV 0 none 0 0 none 0 0, .int .i64 0, .int .i64 er]) ∧ Below w.heap.size w w' := by
  have k1 := (Blk.new w (tkC an Ua um uc A m c) 27).alloc (.cells (tkC 0 none 0 0 none 0 0) 27)
  have k2 := Blk.new_ (w.alloc (.cells (tkC an Ua um uc A m c) 27)) (tkC 0 none 0 0 none 0 0) 27 (n := w.heap.size + 1) (by simp)
  have B0 := ((Below.refl w.heap.size w).alloc (Nat.le_refl _) (.cells (tkC an Ua um uc A m c) 27)).alloc (by simp) (.cells (tkC 0 none 0 0 none 0 0) 27)
  have t0 := h.on B0
  have OF := Lib.hid (of_rf an Ua um uc A m c L tid _ t0.p t0.pl (by have := h.p6; omega))
  rw [hof] at OF
  have LV := Lib.hid (fun (V : World) (hV : Below w.heap.size w V) => rlive_tk an Ua um uc A m c L V (h.on hV).p h.pl (by have := h.p6; omega) hN)
  obtain ⟨n, hn⟩ : ∃ n, (withs [] (tidF L)).length = n := ⟨_, rfl⟩
  rw [hn] at hfull
  have HNL := Lib.hid hn
  have hi8 : ¬ (8 : Int) ≤ (n : Int) := by omega
  have TK := Lib.hid (fun (V : World) (hV : Below w.heap.size w V) => rtake_pid an Ua um uc U V (h.on hV).u h.ul hu6 hI)
  have HX := Lib.hid ht
  have hi6 : ¬ (6 : Int) ≤ (m : Int) := by omega
  clear h t0 hof hn hN hI hu6 ht
  unfold tkV at OF LV ⊢
  unfold pdV pdC at TK
  go_enter Tryz.func32, Tryz.ntmps32
  go_wp2_with (first
    | (refine wpList_load_row rfl 27 (.tmp 3) rfl w.heap.size rfl 27 (tkC an Ua um uc A m c) (0, 0) _ k1.blk Tryz.underlying27 rfl (tk_inf _ _ _ _ _ _ _) ?_)
    | (refine OF.out.mono ?_
       clear OF
       rintro e w1 ⟨rfl, bb⟩
       have k1 := k1.below bb k1.lt
       have k2 := k2.below bb k2.lt
       have B1 := B0.trans (bb.mono B0.size)
       clear bb B0)
    | (refine (LV.out _ B1).mono ?_
       clear LV
       rintro e w2 ⟨G, gm, gc, rfl, z1, bb⟩
       have k11 := k1.below bb k1.lt
       have k21 := k2.below bb k2.lt
       have B2 := B1.trans (bb.mono B1.size)
       obtain rfl : gm = n := z1.len.trans HNL.out
       have q0 : w2.cell? ⟨w.heap.size, 0, none⟩ = some (.int .i64 an) := k11.cell 0
       have q1 : w2.cell? ⟨w.heap.size, 1, none⟩ = some (.slice Ua um uc) := k11.cell 1
       have q2 : w2.cell? ⟨w.heap.size, 2, none⟩ = some (.slice A m c) := k11.cell 2
       clear bb z1 B1 k1 k2)
    | (refine (TK.out _ B2).mono ?_
       clear TK q0 q1 q2
       rintro e w3 ⟨A3, m3, c3, a3, l3, id3, er3, rfl, z3, htk, bb⟩
       have HTK := Lib.hid (htk.symm.trans HX.out)
       clear htk
       obtain ⟨rfl, rfl, rfl, rfl⟩ : a3 = a' ∧ l3 = l' ∧ id3 = id ∧ er3 = er := by have := HTK.out; simpa using this
       have k12 := k11.below bb k11.lt
       have k22 := k21.below bb k21.lt
       have B3 := B2.trans (bb.mono B2.size)
       have hs3 := B2.size
       have bx : Below w.heap.size w3 (w3.alloc (.cells (pdC 0 none 0 0) 24)) := (Below.refl _ _).alloc B3.size _
       clear bb B2 k11 k21 HTK)
    | (refine wpList_store_blk rfl 24 (.tmp 10) (.tmp 45) rfl w3.heap.size (pdC 0 none 0 0) (pdC a3 A3 m3 c3) 24 rfl rfl (Blk.new w3 (pdC 0 none 0 0) 24) rfl (pd_inf _ _ _ _) (pd_one _ _ _ _) ?_
       intro w4 k4 n4
       have b4 : Below w3.heap.size w3 w4 := ((Below.refl w3.heap.size w3).alloc (Nat.le_refl _) _).trans (n4.below _ (Nat.le_refl _) (by simp))
       have k24 := k22.below b4 k22.lt
       have B4 := B3.trans (b4.mono B3.size)
       clear b4 n4 k12 k22 z3 B3 bx)
    | (refine wpList_store_blk rfl 27 (.tmp 6) (.tmp 50) rfl (w.heap.size + 1) (tkC 0 none 0 0 none 0 0) (tkC 0 none 0 0 none 0 0) 27 rfl rfl k24 rfl (tk_inf _ _ _ _ _ _ _) (tk_one _ _ _ _ _ _ _) ?_
       intro w7 k7 n7))
  refine bodyPost_ret (results_row_t2 rfl _ _ (w.heap.size + 1) 27 (tkC 0 none 0 0 none 0 0) _ rfl k7 Tryz.underlying27 rfl (tk_inf _ _ _ _ _ _ _) _ _ rfl rfl) rfl ?_
  exact ⟨rfl, B4.trans (n7.below _ (by omega) B4.size)⟩
end Go.Proofs.YtlelhhgggnjndaaGreat

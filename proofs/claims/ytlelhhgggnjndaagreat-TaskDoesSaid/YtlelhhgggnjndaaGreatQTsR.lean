/-
  The law's Op.run.
-/
import Derived.Test.YtlelhhgggnjndaaGreatQTsI
import Derived.Test.YtlelhhgggnjndaaGreatQTpQ
namespace Go.Proofs.YtlelhhgggnjndaaGreat
open Go.RowKit Go.Shelf
set_option linter.unusedVariables false
set_option linter.unusedSimpArgs false
def RunO (w : World) (r : TkA) (e : Ending) (w' : World) : Prop := ∃ v, e = .returned (.tuple #[v, .int .i64 r.n, .int .i64 r.e]) ∧ TkR w' w.heap.size v r ∧ Below w.heap.size w w'
def RunC3 (g : Nat) (a : Int) (Ua : Option Addr) (um uc : Nat) (A : Option Addr) (m c : Nat) (id : Int) (r : TkA) (V : World) : Prop := Calls Tryz.prog g #[tkV a Ua um uc A m c, .int .i64 id] V fun e w' => ∃ v, e = .returned (.tuple #[v, .int .i64 r.n, .int .i64 r.e]) ∧ TkR w' V.heap.size v r ∧ Below V.heap.size V w'
def RunC2 (g : Nat) (a : Int) (Ua : Option Addr) (um uc : Nat) (A : Option Addr) (m c : Nat) (id : Int) (r : TkA) (V : World) : Prop := Calls Tryz.prog g #[tkV a Ua um uc A m c, .int .i64 id] V fun e w' => ∃ v, e = .returned (.tuple #[v, .int .i64 r.e]) ∧ TkR w' V.heap.size v r ∧ Below V.heap.size V w'
set_option maxRecDepth 100000 in
set_option maxHeartbeats 8000000 in
theorem run_fork (k i : Int) (f : Bool) (a : Int) (Ua : Option Addr) (um uc : Nat) (A : Option Addr) (m c : Nat) (id : Int) (r : TkA) (w : World) (hk : IntKind.u64.wrap k % 8 = 0 ∨ IntKind.u64.wrap k % 8 = 1) (hc : ∀ V, Below w.heap.size w V → RunC3 26 a Ua um uc A m c id r V) :
    Calls Tryz.prog 8 #[.agg (opC k i f), tkV a Ua um uc A m c, .int .i64 id] w fun e w' => RunO w r e w' := by
  have k1 := ((Blk.new w (opC k i f) 32).alloc (.cells (tkC a Ua um uc A m c) 27)).alloc (.cells (tkC 0 none 0 0 none 0 0) 27)
  have k2 := (Blk.new_ (w.alloc (.cells (opC k i f) 32)) (tkC a Ua um uc A m c) 27 (n := w.heap.size + 1) (by simp)).alloc (.cells (tkC 0 none 0 0 none 0 0) 27)
  have k3 := Blk.new_ ((w.alloc (.cells (opC k i f) 32)).alloc (.cells (tkC a Ua um uc A m c) 27)) (tkC 0 none 0 0 none 0 0) 27 (n := w.heap.size + 2) (by simp)
  have q0 := k1.cell 0
  change _ = some (Value.int .i64 k) at q0
  clear k1
  have B0 := (((Below.refl w.heap.size w).alloc (Nat.le_refl _) (.cells (opC k i f) 32)).alloc (by simp) (.cells (tkC a Ua um uc A m c) 27)).alloc (by simp; omega) (.cells (tkC 0 none 0 0 none 0 0) 27)
  have HC := Lib.hid (hc _ B0)
  unfold RunC3 at HC
  have h0 := wrap_pos k
  clear hc
  unfold tkV opC at *
  obtain ⟨ra, rU, rP, rn, re⟩ := r
  simp only at HC ⊢
  rcases hk with hk | hk
  · go_enter Tryz.func8, Tryz.ntmps8
    go_wp2_with (first
      | (refine wpList_load_row rfl 27 (.tmp 4) rfl (w.heap.size + 1) rfl 27 (tkC a Ua um uc A m c) (0, 0) _ k2.blk Tryz.underlying27 rfl (tk_inf _ _ _ _ _ _ _) ?_)
      | (refine HC.out.mono ?_
         clear HC
         rintro e w5 ⟨v, rfl, ⟨Ua5, um5, uc5, A5, m5, c5, L5, rfl, tk5, hn5, own5⟩, bb⟩
         have k35 := k3.below bb k3.lt
         have h35 := k3.lt
         have B5 := B0.trans (bb.mono B0.size)
         clear bb k2 k3 B0
         unfold tkV)
      | (refine wpList_store_blk rfl 27 (.tmp 6) (.tmp 25) rfl (w.heap.size + 2) (tkC 0 none 0 0 none 0 0) (tkC ra Ua5 um5 uc5 A5 m5 c5) 27 rfl rfl k35 rfl (tk_inf _ _ _ _ _ _ _) (tk_one _ _ _ _ _ _ _) ?_
         intro w6 h6 n6))
    refine bodyPost_ret (results_row_t2 rfl _ _ (w.heap.size + 2) 27 (tkC ra Ua5 um5 uc5 A5 m5 c5) _ rfl h6 Tryz.underlying27 rfl (tk_inf _ _ _ _ _ _ _) _ _ rfl rfl) rfl ?_
    exact ⟨_, rfl, ⟨Ua5, um5, uc5, A5, m5, c5, L5, rfl, tk5.off own5.fr n6 h35, hn5, (own5.kind n6 k35 (by decide) (by decide)).down (by simp; omega)⟩, B5.trans (n6.below _ (by omega) B5.size)⟩
  · go_enter Tryz.func8, Tryz.ntmps8
    go_wp2_with (first
      | (refine wpList_load_row rfl 27 (.tmp 4) rfl (w.heap.size + 1) rfl 27 (tkC a Ua um uc A m c) (0, 0) _ k2.blk Tryz.underlying27 rfl (tk_inf _ _ _ _ _ _ _) ?_)
      | (refine HC.out.mono ?_
         clear HC
         rintro e w5 ⟨v, rfl, ⟨Ua5, um5, uc5, A5, m5, c5, L5, rfl, tk5, hn5, own5⟩, bb⟩
         have k35 := k3.below bb k3.lt
         have h35 := k3.lt
         have B5 := B0.trans (bb.mono B0.size)
         clear bb k2 k3 B0
         unfold tkV)
      | (refine wpList_store_blk rfl 27 (.tmp 6) (.tmp 25) rfl (w.heap.size + 2) (tkC 0 none 0 0 none 0 0) (tkC ra Ua5 um5 uc5 A5 m5 c5) 27 rfl rfl k35 rfl (tk_inf _ _ _ _ _ _ _) (tk_one _ _ _ _ _ _ _) ?_
         intro w6 h6 n6))
    refine bodyPost_ret (results_row_t2 rfl _ _ (w.heap.size + 2) 27 (tkC ra Ua5 um5 uc5 A5 m5 c5) _ rfl h6 Tryz.underlying27 rfl (tk_inf _ _ _ _ _ _ _) _ _ rfl rfl) rfl ?_
    exact ⟨_, rfl, ⟨Ua5, um5, uc5, A5, m5, c5, L5, rfl, tk5.off own5.fr n6 h35, hn5, (own5.kind n6 k35 (by decide) (by decide)).down (by simp; omega)⟩, B5.trans (n6.below _ (by omega) B5.size)⟩
set_option maxRecDepth 100000 in
set_option maxHeartbeats 8000000 in
theorem run_clone (k i : Int) (f : Bool) (a : Int) (Ua : Option Addr) (um uc : Nat) (A : Option Addr) (m c : Nat) (id : Int) (r : TkA) (w : World) (hk : IntKind.u64.wrap k % 8 = 2 ∨ IntKind.u64.wrap k % 8 = 3) (hc : ∀ V, Below w.heap.size w V → RunC3 27 a Ua um uc A m c id r V) :
    Calls Tryz.prog 8 #[.agg (opC k i f), tkV a Ua um uc A m c, .int .i64 id] w fun e w' => RunO w r e w' := by
  have k1 := ((Blk.new w (opC k i f) 32).alloc (.cells (tkC a Ua um uc A m c) 27)).alloc (.cells (tkC 0 none 0 0 none 0 0) 27)
  have k2 := (Blk.new_ (w.alloc (.cells (opC k i f) 32)) (tkC a Ua um uc A m c) 27 (n := w.heap.size + 1) (by simp)).alloc (.cells (tkC 0 none 0 0 none 0 0) 27)
  have k3 := Blk.new_ ((w.alloc (.cells (opC k i f) 32)).alloc (.cells (tkC a Ua um uc A m c) 27)) (tkC 0 none 0 0 none 0 0) 27 (n := w.heap.size + 2) (by simp)
  have q0 := k1.cell 0
  change _ = some (Value.int .i64 k) at q0
  clear k1
  have B0 := (((Below.refl w.heap.size w).alloc (Nat.le_refl _) (.cells (opC k i f) 32)).alloc (by simp) (.cells (tkC a Ua um uc A m c) 27)).alloc (by simp; omega) (.cells (tkC 0 none 0 0 none 0 0) 27)
  have HC := Lib.hid (hc _ B0)
  unfold RunC3 at HC
  have h0 := wrap_pos k
  clear hc
  unfold tkV opC at *
  obtain ⟨ra, rU, rP, rn, re⟩ := r
  simp only at HC ⊢
  rcases hk with hk | hk
  · go_enter Tryz.func8, Tryz.ntmps8
    go_wp2_with (first
      | (refine wpList_load_row rfl 27 (.tmp 4) rfl (w.heap.size + 1) rfl 27 (tkC a Ua um uc A m c) (0, 0) _ k2.blk Tryz.underlying27 rfl (tk_inf _ _ _ _ _ _ _) ?_)
      | (refine HC.out.mono ?_
         clear HC
         rintro e w5 ⟨v, rfl, ⟨Ua5, um5, uc5, A5, m5, c5, L5, rfl, tk5, hn5, own5⟩, bb⟩
         have k35 := k3.below bb k3.lt
         have h35 := k3.lt
         have B5 := B0.trans (bb.mono B0.size)
         clear bb k2 k3 B0
         unfold tkV)
      | (refine wpList_store_blk rfl 27 (.tmp 6) (.tmp 34) rfl (w.heap.size + 2) (tkC 0 none 0 0 none 0 0) (tkC ra Ua5 um5 uc5 A5 m5 c5) 27 rfl rfl k35 rfl (tk_inf _ _ _ _ _ _ _) (tk_one _ _ _ _ _ _ _) ?_
         intro w6 h6 n6))
    refine bodyPost_ret (results_row_t2 rfl _ _ (w.heap.size + 2) 27 (tkC ra Ua5 um5 uc5 A5 m5 c5) _ rfl h6 Tryz.underlying27 rfl (tk_inf _ _ _ _ _ _ _) _ _ rfl rfl) rfl ?_
    exact ⟨_, rfl, ⟨Ua5, um5, uc5, A5, m5, c5, L5, rfl, tk5.off own5.fr n6 h35, hn5, (own5.kind n6 k35 (by decide) (by decide)).down (by simp; omega)⟩, B5.trans (n6.below _ (by omega) B5.size)⟩
  · go_enter Tryz.func8, Tryz.ntmps8
    go_wp2_with (first
      | (refine wpList_load_row rfl 27 (.tmp 4) rfl (w.heap.size + 1) rfl 27 (tkC a Ua um uc A m c) (0, 0) _ k2.blk Tryz.underlying27 rfl (tk_inf _ _ _ _ _ _ _) ?_)
      | (refine HC.out.mono ?_
         clear HC
         rintro e w5 ⟨v, rfl, ⟨Ua5, um5, uc5, A5, m5, c5, L5, rfl, tk5, hn5, own5⟩, bb⟩
         have k35 := k3.below bb k3.lt
         have h35 := k3.lt
         have B5 := B0.trans (bb.mono B0.size)
         clear bb k2 k3 B0
         unfold tkV)
      | (refine wpList_store_blk rfl 27 (.tmp 6) (.tmp 34) rfl (w.heap.size + 2) (tkC 0 none 0 0 none 0 0) (tkC ra Ua5 um5 uc5 A5 m5 c5) 27 rfl rfl k35 rfl (tk_inf _ _ _ _ _ _ _) (tk_one _ _ _ _ _ _ _) ?_
         intro w6 h6 n6))
    refine bodyPost_ret (results_row_t2 rfl _ _ (w.heap.size + 2) 27 (tkC ra Ua5 um5 uc5 A5 m5 c5) _ rfl h6 Tryz.underlying27 rfl (tk_inf _ _ _ _ _ _ _) _ _ rfl rfl) rfl ?_
    exact ⟨_, rfl, ⟨Ua5, um5, uc5, A5, m5, c5, L5, rfl, tk5.off own5.fr n6 h35, hn5, (own5.kind n6 k35 (by decide) (by decide)).down (by simp; omega)⟩, B5.trans (n6.below _ (by omega) B5.size)⟩
set_option maxRecDepth 100000 in
set_option maxHeartbeats 8000000 in
theorem run_exec (k i : Int) (f : Bool) (a : Int) (Ua : Option Addr) (um uc : Nat) (A : Option Addr) (m c : Nat) (id : Int) (r : TkA) (w : World) (hk : IntKind.u64.wrap k % 8 = 4) (hc : ∀ V, Below w.heap.size w V → RunC2 30 a Ua um uc A m c id r V) (hrn : r.n = 0) :
    Calls Tryz.prog 8 #[.agg (opC k i f), tkV a Ua um uc A m c, .int .i64 id] w fun e w' => RunO w r e w' := by
  have k1 := ((Blk.new w (opC k i f) 32).alloc (.cells (tkC a Ua um uc A m c) 27)).alloc (.cells (tkC 0 none 0 0 none 0 0) 27)
  have k2 := (Blk.new_ (w.alloc (.cells (opC k i f) 32)) (tkC a Ua um uc A m c) 27 (n := w.heap.size + 1) (by simp)).alloc (.cells (tkC 0 none 0 0 none 0 0) 27)
  have k3 := Blk.new_ ((w.alloc (.cells (opC k i f) 32)).alloc (.cells (tkC a Ua um uc A m c) 27)) (tkC 0 none 0 0 none 0 0) 27 (n := w.heap.size + 2) (by simp)
  have q0 := k1.cell 0
  change _ = some (Value.int .i64 k) at q0
  clear k1
  have B0 := (((Below.refl w.heap.size w).alloc (Nat.le_refl _) (.cells (opC k i f) 32)).alloc (by simp) (.cells (tkC a Ua um uc A m c) 27)).alloc (by simp; omega) (.cells (tkC 0 none 0 0 none 0 0) 27)
  have HC := Lib.hid (hc _ B0)
  unfold RunC2 at HC
  have h0 := wrap_pos k
  clear hc
  unfold tkV opC at *
  obtain ⟨ra, rU, rP, rn, re⟩ := r
  simp only at HC ⊢
  obtain rfl : rn = 0 := hrn
  go_enter Tryz.func8, Tryz.ntmps8
  go_wp2_with (first
    | (refine wpList_load_row rfl 27 (.tmp 4) rfl (w.heap.size + 1) rfl 27 (tkC a Ua um uc A m c) (0, 0) _ k2.blk Tryz.underlying27 rfl (tk_inf _ _ _ _ _ _ _) ?_)
    | (refine HC.out.mono ?_
       clear HC
       rintro e w5 ⟨v, rfl, ⟨Ua5, um5, uc5, A5, m5, c5, L5, rfl, tk5, hn5, own5⟩, bb⟩
       have k35 := k3.below bb k3.lt
       have h35 := k3.lt
       have hs5 := bb.size
       have B5 := B0.trans (bb.mono B0.size)
       clear bb k2 k3 B0
       unfold tkV)
    | (refine wpList_store_blk rfl 27 (.tmp 9) (.tmp 43) rfl w5.heap.size (tkC 0 none 0 0 none 0 0) (tkC ra Ua5 um5 uc5 A5 m5 c5) 27 rfl rfl (Blk.new _ _ _) rfl (tk_inf _ _ _ _ _ _ _) (tk_one _ _ _ _ _ _ _) ?_
       intro w6 h6 n6
       have b6 : Below w5.heap.size w5 w6 := ((Below.refl _ w5).alloc (Nat.le_refl _) _).trans (n6.below _ (Nat.le_refl _) (by simp))
       have k36 := k35.below b6 k35.lt
       have tk6 := tk5.on b6
       have own6 := own5.below b6 (Nat.le_refl _)
       have B6 := B5.trans (b6.mono B5.size)
       clear k35 b6 B5 n6)
    | (refine wpList_load_row rfl 27 (.tmp 9) rfl w5.heap.size rfl 27 (tkC ra Ua5 um5 uc5 A5 m5 c5) (0, 0) _ h6.blk Tryz.underlying27 rfl (tk_inf _ _ _ _ _ _ _) ?_)
    | (refine wpList_store_blk rfl 27 (.tmp 6) (.tmp 45) rfl (w.heap.size + 2) (tkC 0 none 0 0 none 0 0) (tkC ra Ua5 um5 uc5 A5 m5 c5) 27 rfl rfl k36 rfl (tk_inf _ _ _ _ _ _ _) (tk_one _ _ _ _ _ _ _) ?_
       intro w7 h7 n7))
  refine bodyPost_ret (results_row_t2 rfl _ _ (w.heap.size + 2) 27 (tkC ra Ua5 um5 uc5 A5 m5 c5) _ rfl h7 Tryz.underlying27 rfl (tk_inf _ _ _ _ _ _ _) _ _ rfl rfl) rfl ?_
  exact ⟨_, rfl, ⟨Ua5, um5, uc5, A5, m5, c5, L5, rfl, tk6.off own6.fr n7 h35, hn5, (own6.kind n7 k36 (by decide) (by decide)).down (by simp; omega)⟩, B6.trans (n7.below _ (by omega) B6.size)⟩
set_option maxRecDepth 100000 in
set_option maxHeartbeats 8000000 in
theorem run_end (k i : Int) (f : Bool) (a : Int) (Ua : Option Addr) (um uc : Nat) (A : Option Addr) (m c : Nat) (id : Int) (r : TkA) (w : World) (hk : IntKind.u64.wrap k % 8 = 5) (hc : ∀ V, Below w.heap.size w V → RunC2 28 a Ua um uc A m c id r V) (hrn : r.n = 0) :
    Calls Tryz.prog 8 #[.agg (opC k i f), tkV a Ua um uc A m c, .int .i64 id] w fun e w' => RunO w r e w' := by
  have k1 := ((Blk.new w (opC k i f) 32).alloc (.cells (tkC a Ua um uc A m c) 27)).alloc (.cells (tkC 0 none 0 0 none 0 0) 27)
  have k2 := (Blk.new_ (w.alloc (.cells (opC k i f) 32)) (tkC a Ua um uc A m c) 27 (n := w.heap.size + 1) (by simp)).alloc (.cells (tkC 0 none 0 0 none 0 0) 27)
  have k3 := Blk.new_ ((w.alloc (.cells (opC k i f) 32)).alloc (.cells (tkC a Ua um uc A m c) 27)) (tkC 0 none 0 0 none 0 0) 27 (n := w.heap.size + 2) (by simp)
  have q0 := k1.cell 0
  change _ = some (Value.int .i64 k) at q0
  clear k1
  have B0 := (((Below.refl w.heap.size w).alloc (Nat.le_refl _) (.cells (opC k i f) 32)).alloc (by simp) (.cells (tkC a Ua um uc A m c) 27)).alloc (by simp; omega) (.cells (tkC 0 none 0 0 none 0 0) 27)
  have HC := Lib.hid (hc _ B0)
  unfold RunC2 at HC
  have h0 := wrap_pos k
  clear hc
  unfold tkV opC at *
  obtain ⟨ra, rU, rP, rn, re⟩ := r
  simp only at HC ⊢
  obtain rfl : rn = 0 := hrn
  go_enter Tryz.func8, Tryz.ntmps8
  go_wp2_with (first
    | (refine wpList_load_row rfl 27 (.tmp 4) rfl (w.heap.size + 1) rfl 27 (tkC a Ua um uc A m c) (0, 0) _ k2.blk Tryz.underlying27 rfl (tk_inf _ _ _ _ _ _ _) ?_)
    | (refine HC.out.mono ?_
       clear HC
       rintro e w5 ⟨v, rfl, ⟨Ua5, um5, uc5, A5, m5, c5, L5, rfl, tk5, hn5, own5⟩, bb⟩
       have k35 := k3.below bb k3.lt
       have h35 := k3.lt
       have hs5 := bb.size
       have B5 := B0.trans (bb.mono B0.size)
       clear bb k2 k3 B0
       unfold tkV)
    | (refine wpList_store_blk rfl 27 (.tmp 11) (.tmp 53) rfl w5.heap.size (tkC 0 none 0 0 none 0 0) (tkC ra Ua5 um5 uc5 A5 m5 c5) 27 rfl rfl (Blk.new _ _ _) rfl (tk_inf _ _ _ _ _ _ _) (tk_one _ _ _ _ _ _ _) ?_
       intro w6 h6 n6
       have b6 : Below w5.heap.size w5 w6 := ((Below.refl _ w5).alloc (Nat.le_refl _) _).trans (n6.below _ (Nat.le_refl _) (by simp))
       have k36 := k35.below b6 k35.lt
       have tk6 := tk5.on b6
       have own6 := own5.below b6 (Nat.le_refl _)
       have B6 := B5.trans (b6.mono B5.size)
       clear k35 b6 B5 n6)
    | (refine wpList_load_row rfl 27 (.tmp 11) rfl w5.heap.size rfl 27 (tkC ra Ua5 um5 uc5 A5 m5 c5) (0, 0) _ h6.blk Tryz.underlying27 rfl (tk_inf _ _ _ _ _ _ _) ?_)
    | (refine wpList_store_blk rfl 27 (.tmp 6) (.tmp 55) rfl (w.heap.size + 2) (tkC 0 none 0 0 none 0 0) (tkC ra Ua5 um5 uc5 A5 m5 c5) 27 rfl rfl k36 rfl (tk_inf _ _ _ _ _ _ _) (tk_one _ _ _ _ _ _ _) ?_
       intro w7 h7 n7))
  refine bodyPost_ret (results_row_t2 rfl _ _ (w.heap.size + 2) 27 (tkC ra Ua5 um5 uc5 A5 m5 c5) _ rfl h7 Tryz.underlying27 rfl (tk_inf _ _ _ _ _ _ _) _ _ rfl rfl) rfl ?_
  exact ⟨_, rfl, ⟨Ua5, um5, uc5, A5, m5, c5, L5, rfl, tk6.off own6.fr n7 h35, hn5, (own6.kind n7 k36 (by decide) (by decide)).down (by simp; omega)⟩, B6.trans (n7.below _ (by omega) B6.size)⟩
set_option maxRecDepth 100000 in
set_option maxHeartbeats 8000000 in
theorem run_kill (k i : Int) (f : Bool) (a : Int) (Ua : Option Addr) (um uc : Nat) (A : Option Addr) (m c : Nat) (id : Int) (r : TkA) (w : World) (hk : IntKind.u64.wrap k % 8 = 6) (hc : ∀ V, Below w.heap.size w V → RunC2 31 a Ua um uc A m c id r V) (hrn : r.n = 0) :
    Calls Tryz.prog 8 #[.agg (opC k i f), tkV a Ua um uc A m c, .int .i64 id] w fun e w' => RunO w r e w' := by
  have k1 := ((Blk.new w (opC k i f) 32).alloc (.cells (tkC a Ua um uc A m c) 27)).alloc (.cells (tkC 0 none 0 0 none 0 0) 27)
  have k2 := (Blk.new_ (w.alloc (.cells (opC k i f) 32)) (tkC a Ua um uc A m c) 27 (n := w.heap.size + 1) (by simp)).alloc (.cells (tkC 0 none 0 0 none 0 0) 27)
  have k3 := Blk.new_ ((w.alloc (.cells (opC k i f) 32)).alloc (.cells (tkC a Ua um uc A m c) 27)) (tkC 0 none 0 0 none 0 0) 27 (n := w.heap.size + 2) (by simp)
  have q0 := k1.cell 0
  change _ = some (Value.int .i64 k) at q0
  clear k1
  have B0 := (((Below.refl w.heap.size w).alloc (Nat.le_refl _) (.cells (opC k i f) 32)).alloc (by simp) (.cells (tkC a Ua um uc A m c) 27)).alloc (by simp; omega) (.cells (tkC 0 none 0 0 none 0 0) 27)
  have HC := Lib.hid (hc _ B0)
  unfold RunC2 at HC
  have h0 := wrap_pos k
  clear hc
  unfold tkV opC at *
  obtain ⟨ra, rU, rP, rn, re⟩ := r
  simp only at HC ⊢
  obtain rfl : rn = 0 := hrn
  go_enter Tryz.func8, Tryz.ntmps8
  go_wp2_with (first
    | (refine wpList_load_row rfl 27 (.tmp 4) rfl (w.heap.size + 1) rfl 27 (tkC a Ua um uc A m c) (0, 0) _ k2.blk Tryz.underlying27 rfl (tk_inf _ _ _ _ _ _ _) ?_)
    | (refine HC.out.mono ?_
       clear HC
       rintro e w5 ⟨v, rfl, ⟨Ua5, um5, uc5, A5, m5, c5, L5, rfl, tk5, hn5, own5⟩, bb⟩
       have k35 := k3.below bb k3.lt
       have h35 := k3.lt
       have hs5 := bb.size
       have B5 := B0.trans (bb.mono B0.size)
       clear bb k2 k3 B0
       unfold tkV)
    | (refine wpList_store_blk rfl 27 (.tmp 13) (.tmp 63) rfl w5.heap.size (tkC 0 none 0 0 none 0 0) (tkC ra Ua5 um5 uc5 A5 m5 c5) 27 rfl rfl (Blk.new _ _ _) rfl (tk_inf _ _ _ _ _ _ _) (tk_one _ _ _ _ _ _ _) ?_
       intro w6 h6 n6
       have b6 : Below w5.heap.size w5 w6 := ((Below.refl _ w5).alloc (Nat.le_refl _) _).trans (n6.below _ (Nat.le_refl _) (by simp))
       have k36 := k35.below b6 k35.lt
       have tk6 := tk5.on b6
       have own6 := own5.below b6 (Nat.le_refl _)
       have B6 := B5.trans (b6.mono B5.size)
       clear k35 b6 B5 n6)
    | (refine wpList_load_row rfl 27 (.tmp 13) rfl w5.heap.size rfl 27 (tkC ra Ua5 um5 uc5 A5 m5 c5) (0, 0) _ h6.blk Tryz.underlying27 rfl (tk_inf _ _ _ _ _ _ _) ?_)
    | (refine wpList_store_blk rfl 27 (.tmp 6) (.tmp 65) rfl (w.heap.size + 2) (tkC 0 none 0 0 none 0 0) (tkC ra Ua5 um5 uc5 A5 m5 c5) 27 rfl rfl k36 rfl (tk_inf _ _ _ _ _ _ _) (tk_one _ _ _ _ _ _ _) ?_
       intro w7 h7 n7))
  refine bodyPost_ret (results_row_t2 rfl _ _ (w.heap.size + 2) 27 (tkC ra Ua5 um5 uc5 A5 m5 c5) _ rfl h7 Tryz.underlying27 rfl (tk_inf _ _ _ _ _ _ _) _ _ rfl rfl) rfl ?_
  exact ⟨_, rfl, ⟨Ua5, um5, uc5, A5, m5, c5, L5, rfl, tk6.off own6.fr n7 h35, hn5, (own6.kind n7 k36 (by decide) (by decide)).down (by simp; omega)⟩, B6.trans (n7.below _ (by omega) B6.size)⟩
set_option maxRecDepth 100000 in
set_option maxHeartbeats 8000000 in
theorem run_reap (k i : Int) (f : Bool) (a : Int) (Ua : Option Addr) (um uc : Nat) (A : Option Addr) (m c : Nat) (id : Int) (r : TkA) (w : World) (hk : IntKind.u64.wrap k % 8 = 7) (hc : ∀ V, Below w.heap.size w V → RunC3 29 a Ua um uc A m c id r V) :
    Calls Tryz.prog 8 #[.agg (opC k i f), tkV a Ua um uc A m c, .int .i64 id] w fun e w' => RunO w r e w' := by
  have k1 := ((Blk.new w (opC k i f) 32).alloc (.cells (tkC a Ua um uc A m c) 27)).alloc (.cells (tkC 0 none 0 0 none 0 0) 27)
  have k2 := (Blk.new_ (w.alloc (.cells (opC k i f) 32)) (tkC a Ua um uc A m c) 27 (n := w.heap.size + 1) (by simp)).alloc (.cells (tkC 0 none 0 0 none 0 0) 27)
  have k3 := Blk.new_ ((w.alloc (.cells (opC k i f) 32)).alloc (.cells (tkC a Ua um uc A m c) 27)) (tkC 0 none 0 0 none 0 0) 27 (n := w.heap.size + 2) (by simp)
  have q0 := k1.cell 0
  change _ = some (Value.int .i64 k) at q0
  clear k1
  have B0 := (((Below.refl w.heap.size w).alloc (Nat.le_refl _) (.cells (opC k i f) 32)).alloc (by simp) (.cells (tkC a Ua um uc A m c) 27)).alloc (by simp; omega) (.cells (tkC 0 none 0 0 none 0 0) 27)
  have HC := Lib.hid (hc _ B0)
  unfold RunC3 at HC
  have h0 := wrap_pos k
  clear hc
  unfold tkV opC at *
  obtain ⟨ra, rU, rP, rn, re⟩ := r
  simp only at HC ⊢
  go_enter Tryz.func8, Tryz.ntmps8
  go_wp2_with (first
    | (refine wpList_load_row rfl 27 (.tmp 4) rfl (w.heap.size + 1) rfl 27 (tkC a Ua um uc A m c) (0, 0) _ k2.blk Tryz.underlying27 rfl (tk_inf _ _ _ _ _ _ _) ?_)
    | (refine HC.out.mono ?_
       clear HC
       rintro e w5 ⟨v, rfl, ⟨Ua5, um5, uc5, A5, m5, c5, L5, rfl, tk5, hn5, own5⟩, bb⟩
       have k35 := k3.below bb k3.lt
       have h35 := k3.lt
       have B5 := B0.trans (bb.mono B0.size)
       clear bb k2 k3 B0
       unfold tkV)
    | (refine wpList_store_blk rfl 27 (.tmp 6) (.tmp 70) rfl (w.heap.size + 2) (tkC 0 none 0 0 none 0 0) (tkC ra Ua5 um5 uc5 A5 m5 c5) 27 rfl rfl k35 rfl (tk_inf _ _ _ _ _ _ _) (tk_one _ _ _ _ _ _ _) ?_
       intro w6 h6 n6))
  refine bodyPost_ret (results_row_t2 rfl _ _ (w.heap.size + 2) 27 (tkC ra Ua5 um5 uc5 A5 m5 c5) _ rfl h6 Tryz.underlying27 rfl (tk_inf _ _ _ _ _ _ _) _ _ rfl rfl) rfl ?_
  exact ⟨_, rfl, ⟨Ua5, um5, uc5, A5, m5, c5, L5, rfl, tk5.off own5.fr n6 h35, hn5, (own5.kind n6 k35 (by decide) (by decide)).down (by simp; omega)⟩, B5.trans (n6.below _ (by omega) B5.size)⟩
end Go.Proofs.YtlelhhgggnjndaaGreat

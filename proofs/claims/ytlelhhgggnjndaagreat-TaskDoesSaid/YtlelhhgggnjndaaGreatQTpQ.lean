/-
  task.End, Exec, Kill: from the change to what is answered.
-/
import Derived.Test.YtlelhhgggnjndaaGreatQTpP
namespace Go.Proofs.YtlelhhgggnjndaaGreat
open Go.RowKit Go.Shelf
set_option linter.unusedVariables false
set_option linter.unusedSimpArgs false
set_option maxRecDepth 100000 in
set_option maxHeartbeats 8000000 in
theorem end_via (a : Int) (Ua : Option Addr) (um uc : Nat) (A : Option Addr) (m c : Nat) (id : Int) (r : TkA) (w : World) (hc : ∀ W, Below w.heap.size w W → W.cell? ⟨w.heap.size + 1, 0, none⟩ = some (.int .i64 id) → w.heap.size + 1 < W.heap.size → ChgC 56 66 #[.pointer (some ⟨w.heap.size + 1, 0, none⟩)] a Ua um uc A m c id r W) :
    Calls Tryz.prog 28 #[tkV a Ua um uc A m c, .int .i64 id] w fun e w' => ∃ v, e = .returned (.tuple #[v, .int .i64 r.e]) ∧ TkR w' w.heap.size v r ∧ Below w.heap.size w w' := by
  have k1 := ((Blk.new w (tkC a Ua um uc A m c) 27).alloc (.cells #[.int .i64 id] 3)).alloc (.cells #[.int .i64 0, .slice none 0 0, .slice none 0 0] 27)
  have k2 : Blk (((w.alloc (.cells (tkC a Ua um uc A m c) 27)).alloc (.cells #[.int .i64 id] 3)).alloc (.cells #[.int .i64 0, .slice none 0 0, .slice none 0 0] 27)) (w.heap.size + 2) (tkC 0 none 0 0 none 0 0) 27 := Blk.new_ _ _ _ (by simp)
  have kI : Blk (((w.alloc (.cells (tkC a Ua um uc A m c) 27)).alloc (.cells #[.int .i64 id] 3)).alloc (.cells #[.int .i64 0, .slice none 0 0, .slice none 0 0] 27)) (w.heap.size + 1) #[.int .i64 id] 3 := (Blk.new_ _ _ _ (by simp)).alloc (.cells #[.int .i64 0, .slice none 0 0, .slice none 0 0] 27)
  have qI : (((w.alloc (.cells (tkC a Ua um uc A m c) 27)).alloc (.cells #[.int .i64 id] 3)).alloc (.cells #[.int .i64 0, .slice none 0 0, .slice none 0 0] 27)).cell? ⟨w.heap.size + 1, 0, none⟩ = some (.int .i64 id) := kI.cell 0
  have B0 := (((Below.refl w.heap.size w).alloc (Nat.le_refl _) (.cells (tkC a Ua um uc A m c) 27)).alloc (by simp) (.cells #[.int .i64 id] 3)).alloc (by simp; omega) (.cells #[.int .i64 0, .slice none 0 0, .slice none 0 0] 27)
  have HC := Lib.hid (hc _ B0 qI kI.lt)
  unfold ChgC at HC
  clear hc
  unfold tkV at *
  obtain ⟨ra, rU, rP, rn, re⟩ := r
  simp only at HC ⊢
  go_enter Tryz.func28, Tryz.ntmps28
  go_wp2_with (first
    | (refine wpList_load_row rfl 27 (.tmp 2) rfl w.heap.size rfl 27 (tkC a Ua um uc A m c) (0, 0) _ k1.blk Tryz.underlying27 rfl (tk_inf _ _ _ _ _ _ _) ?_)
    | (refine HC.out.mono ?_
       clear HC
       rintro e w5 ⟨v, rfl, ⟨Ua5, um5, uc5, A5, m5, c5, L5, rfl, tk5, hn5, fr5⟩, bb⟩
       have k25 := k2.below bb k2.lt
       have h25 := k2.lt
       have B5 := B0.trans (bb.mono B0.size)
       have hs5 := bb.size
       clear bb k1 k2 B0
       unfold tkV)
    | (refine wpList_store_blk rfl 27 (.tmp 6) (.tmp 14) rfl w5.heap.size (tkC 0 none 0 0 none 0 0) (tkC ra Ua5 um5 uc5 A5 m5 c5) 27 rfl rfl (Blk.new _ _ _) rfl (tk_inf _ _ _ _ _ _ _) (tk_one _ _ _ _ _ _ _) ?_
       intro w6 h6 n6
       have b6 : Below w5.heap.size w5 w6 := ((Below.refl _ w5).alloc (Nat.le_refl _) _).trans (n6.below _ (Nat.le_refl _) (by simp))
       have k26 := k25.below b6 k25.lt
       have tk6 := tk5.on b6
       have fr6 := fr5.below b6 (Nat.le_refl _)
       have B6 := B5.trans (b6.mono B5.size)
       clear k25 b6 tk5 B5 n6)
    | (refine wpList_load_row rfl 27 (.tmp 6) rfl w5.heap.size rfl 27 (tkC ra Ua5 um5 uc5 A5 m5 c5) (0, 0) _ h6.blk Tryz.underlying27 rfl (tk_inf _ _ _ _ _ _ _) ?_)
    | (refine wpList_store_blk rfl 27 (.tmp 4) (.tmp 17) rfl (w.heap.size + 2) (tkC 0 none 0 0 none 0 0) (tkC ra Ua5 um5 uc5 A5 m5 c5) 27 rfl rfl k26 rfl (tk_inf _ _ _ _ _ _ _) (tk_one _ _ _ _ _ _ _) ?_
       intro w7 h7 n7))
  refine bodyPost_ret (results_row_tmp rfl _ _ (w.heap.size + 2) 27 (tkC ra Ua5 um5 uc5 A5 m5 c5) (0, 0) _ rfl h7.blk Tryz.underlying27 rfl (tk_inf _ _ _ _ _ _ _) _ rfl) rfl ?_
  exact ⟨_, rfl, ⟨Ua5, um5, uc5, A5, m5, c5, L5, rfl, tk6.off fr5.fr n7 h25, hn5, (fr6.kind n7 k26 (by decide) (by decide)).down (by simp; omega)⟩, B6.trans (n7.below _ (by omega) B6.size)⟩
set_option maxRecDepth 100000 in
set_option maxHeartbeats 8000000 in
theorem exec_via (a : Int) (Ua : Option Addr) (um uc : Nat) (A : Option Addr) (m c : Nat) (id : Int) (r : TkA) (w : World) (hc : ∀ W, Below w.heap.size w W → ChgC 56 73 #[] a Ua um uc A m c id r W) :
    Calls Tryz.prog 30 #[tkV a Ua um uc A m c, .int .i64 id] w fun e w' => ∃ v, e = .returned (.tuple #[v, .int .i64 r.e]) ∧ TkR w' w.heap.size v r ∧ Below w.heap.size w w' := by
  have k1 := (Blk.new w (tkC a Ua um uc A m c) 27).alloc (.cells #[.int .i64 0, .slice none 0 0, .slice none 0 0] 27)
  have k2 : Blk ((w.alloc (.cells (tkC a Ua um uc A m c) 27)).alloc (.cells #[.int .i64 0, .slice none 0 0, .slice none 0 0] 27)) (w.heap.size + 1) (tkC 0 none 0 0 none 0 0) 27 := Blk.new_ _ _ _ (by simp)
  have B0 := ((Below.refl w.heap.size w).alloc (Nat.le_refl _) (.cells (tkC a Ua um uc A m c) 27)).alloc (by simp) (.cells #[.int .i64 0, .slice none 0 0, .slice none 0 0] 27)
  have HC := Lib.hid (hc _ B0)
  unfold ChgC at HC
  clear hc
  unfold tkV at *
  obtain ⟨ra, rU, rP, rn, re⟩ := r
  simp only at HC ⊢
  go_enter Tryz.func30, Tryz.ntmps30
  go_wp2_with (first
    | (refine wpList_load_row rfl 27 (.tmp 2) rfl w.heap.size rfl 27 (tkC a Ua um uc A m c) (0, 0) _ k1.blk Tryz.underlying27 rfl (tk_inf _ _ _ _ _ _ _) ?_)
    | (refine HC.out.mono ?_
       clear HC
       rintro e w5 ⟨v, rfl, ⟨Ua5, um5, uc5, A5, m5, c5, L5, rfl, tk5, hn5, fr5⟩, bb⟩
       have k25 := k2.below bb k2.lt
       have h25 := k2.lt
       have B5 := B0.trans (bb.mono B0.size)
       have hs5 := bb.size
       clear bb k1 k2 B0
       unfold tkV)
    | (refine wpList_store_blk rfl 27 (.tmp 6) (.tmp 13) rfl w5.heap.size (tkC 0 none 0 0 none 0 0) (tkC ra Ua5 um5 uc5 A5 m5 c5) 27 rfl rfl (Blk.new _ _ _) rfl (tk_inf _ _ _ _ _ _ _) (tk_one _ _ _ _ _ _ _) ?_
       intro w6 h6 n6
       have b6 : Below w5.heap.size w5 w6 := ((Below.refl _ w5).alloc (Nat.le_refl _) _).trans (n6.below _ (Nat.le_refl _) (by simp))
       have k26 := k25.below b6 k25.lt
       have tk6 := tk5.on b6
       have fr6 := fr5.below b6 (Nat.le_refl _)
       have B6 := B5.trans (b6.mono B5.size)
       clear k25 b6 tk5 B5 n6)
    | (refine wpList_load_row rfl 27 (.tmp 6) rfl w5.heap.size rfl 27 (tkC ra Ua5 um5 uc5 A5 m5 c5) (0, 0) _ h6.blk Tryz.underlying27 rfl (tk_inf _ _ _ _ _ _ _) ?_)
    | (refine wpList_store_blk rfl 27 (.tmp 4) (.tmp 16) rfl (w.heap.size + 1) (tkC 0 none 0 0 none 0 0) (tkC ra Ua5 um5 uc5 A5 m5 c5) 27 rfl rfl k26 rfl (tk_inf _ _ _ _ _ _ _) (tk_one _ _ _ _ _ _ _) ?_
       intro w7 h7 n7))
  refine bodyPost_ret (results_row_tmp rfl _ _ (w.heap.size + 1) 27 (tkC ra Ua5 um5 uc5 A5 m5 c5) (0, 0) _ rfl h7.blk Tryz.underlying27 rfl (tk_inf _ _ _ _ _ _ _) _ rfl) rfl ?_
  exact ⟨_, rfl, ⟨Ua5, um5, uc5, A5, m5, c5, L5, rfl, tk6.off fr5.fr n7 h25, hn5, (fr6.kind n7 k26 (by decide) (by decide)).down (by simp; omega)⟩, B6.trans (n7.below _ (by omega) B6.size)⟩
set_option maxRecDepth 100000 in
set_option maxHeartbeats 8000000 in
theorem kill_via (a : Int) (Ua : Option Addr) (um uc : Nat) (A : Option Addr) (m c : Nat) (id : Int) (r : TkA) (w : World) (hc : ∀ W, Below w.heap.size w W → ChgC 75 76 #[] a Ua um uc A m c id r W) :
    Calls Tryz.prog 31 #[tkV a Ua um uc A m c, .int .i64 id] w fun e w' => ∃ v, e = .returned (.tuple #[v, .int .i64 r.e]) ∧ TkR w' w.heap.size v r ∧ Below w.heap.size w w' := by
  have k1 := (Blk.new w (tkC a Ua um uc A m c) 27).alloc (.cells #[.int .i64 0, .slice none 0 0, .slice none 0 0] 27)
  have k2 : Blk ((w.alloc (.cells (tkC a Ua um uc A m c) 27)).alloc (.cells #[.int .i64 0, .slice none 0 0, .slice none 0 0] 27)) (w.heap.size + 1) (tkC 0 none 0 0 none 0 0) 27 := Blk.new_ _ _ _ (by simp)
  have B0 := ((Below.refl w.heap.size w).alloc (Nat.le_refl _) (.cells (tkC a Ua um uc A m c) 27)).alloc (by simp) (.cells #[.int .i64 0, .slice none 0 0, .slice none 0 0] 27)
  have HC := Lib.hid (hc _ B0)
  unfold ChgC at HC
  clear hc
  unfold tkV at *
  obtain ⟨ra, rU, rP, rn, re⟩ := r
  simp only at HC ⊢
  go_enter Tryz.func31, Tryz.ntmps31
  go_wp2_with (first
    | (refine wpList_load_row rfl 27 (.tmp 2) rfl w.heap.size rfl 27 (tkC a Ua um uc A m c) (0, 0) _ k1.blk Tryz.underlying27 rfl (tk_inf _ _ _ _ _ _ _) ?_)
    | (refine HC.out.mono ?_
       clear HC
       rintro e w5 ⟨v, rfl, ⟨Ua5, um5, uc5, A5, m5, c5, L5, rfl, tk5, hn5, fr5⟩, bb⟩
       have k25 := k2.below bb k2.lt
       have h25 := k2.lt
       have B5 := B0.trans (bb.mono B0.size)
       have hs5 := bb.size
       clear bb k1 k2 B0
       unfold tkV)
    | (refine wpList_store_blk rfl 27 (.tmp 6) (.tmp 13) rfl w5.heap.size (tkC 0 none 0 0 none 0 0) (tkC ra Ua5 um5 uc5 A5 m5 c5) 27 rfl rfl (Blk.new _ _ _) rfl (tk_inf _ _ _ _ _ _ _) (tk_one _ _ _ _ _ _ _) ?_
       intro w6 h6 n6
       have b6 : Below w5.heap.size w5 w6 := ((Below.refl _ w5).alloc (Nat.le_refl _) _).trans (n6.below _ (Nat.le_refl _) (by simp))
       have k26 := k25.below b6 k25.lt
       have tk6 := tk5.on b6
       have fr6 := fr5.below b6 (Nat.le_refl _)
       have B6 := B5.trans (b6.mono B5.size)
       clear k25 b6 tk5 B5 n6)
    | (refine wpList_load_row rfl 27 (.tmp 6) rfl w5.heap.size rfl 27 (tkC ra Ua5 um5 uc5 A5 m5 c5) (0, 0) _ h6.blk Tryz.underlying27 rfl (tk_inf _ _ _ _ _ _ _) ?_)
    | (refine wpList_store_blk rfl 27 (.tmp 4) (.tmp 16) rfl (w.heap.size + 1) (tkC 0 none 0 0 none 0 0) (tkC ra Ua5 um5 uc5 A5 m5 c5) 27 rfl rfl k26 rfl (tk_inf _ _ _ _ _ _ _) (tk_one _ _ _ _ _ _ _) ?_
       intro w7 h7 n7))
  refine bodyPost_ret (results_row_tmp rfl _ _ (w.heap.size + 1) 27 (tkC ra Ua5 um5 uc5 A5 m5 c5) (0, 0) _ rfl h7.blk Tryz.underlying27 rfl (tk_inf _ _ _ _ _ _ _) _ rfl) rfl ?_
  exact ⟨_, rfl, ⟨Ua5, um5, uc5, A5, m5, c5, L5, rfl, tk6.off fr5.fr n7 h25, hn5, (fr6.kind n7 k26 (by decide) (by decide)).down (by simp; omega)⟩, B6.trans (n7.below _ (by omega) B6.size)⟩
set_option maxRecDepth 100000 in
theorem end_tk (a : Int) (Ua : Option Addr) (um uc : Nat) (U : List Int) (A : Option Addr) (m c : Nat) (L : List Pw) (id : Int) (r : TkA) (w : World) (h : Tk w w.heap.size Ua um uc U A m c L)
    (hd : ∀ gt, TkGood a U L → (homeF L id).1 < L.length → (homeF L id).2 = true → DoT 66 #[.pointer (some ⟨gt, 0, none⟩)] (SId gt id) a U (L.map (·.1)) (homeF L id).1 r) :
    Calls Tryz.prog 28 #[tkV a Ua um uc A m c, .int .i64 id] w fun e w' => ∃ v, e = .returned (.tuple #[v, .int .i64 (chgT (tkE a U L) (homeF L id) r).e]) ∧ TkR w' w.heap.size v (chgT (tkE a U L) (homeF L id) r) ∧ Below w.heap.size w w' :=
  end_via a Ua um uc A m c id _ w fun W hW hq hl => changed_tk 56 66 _ (SId (w.heap.size + 1) id) a Ua um uc U A m c L id (homeF L id) _ W (fun _ _ => rfl) (fun _ _ => rfl) (h.on hW)
    (fun _ V t => home_any a Ua um uc A m c L id V t.p t.pl (by have := t.p6; omega)) (fun B V hB hV => ⟨(hV.cell (p := ⟨w.heap.size + 1, 0, none⟩) hl).trans hq, Nat.lt_of_lt_of_le hl hB⟩)
    (fun h0 h1 => hd _ (tk_good h0) (homeF_lt h1) h1) (fun x hx => (h.p.tr x hx).l)
set_option maxRecDepth 100000 in
theorem exec_tk (a : Int) (Ua : Option Addr) (um uc : Nat) (U : List Int) (A : Option Addr) (m c : Nat) (L : List Pw) (id : Int) (r : TkA) (w : World) (h : Tk w w.heap.size Ua um uc U A m c L)
    (hd : TkGood a U L → (homeF L id).1 < L.length → (homeF L id).2 = true → DoT 73 #[] (fun _ _ => True) a U (L.map (·.1)) (homeF L id).1 r) :
    Calls Tryz.prog 30 #[tkV a Ua um uc A m c, .int .i64 id] w fun e w' => ∃ v, e = .returned (.tuple #[v, .int .i64 (chgT (tkE a U L) (homeF L id) r).e]) ∧ TkR w' w.heap.size v (chgT (tkE a U L) (homeF L id) r) ∧ Below w.heap.size w w' :=
  exec_via a Ua um uc A m c id _ w fun W hW => changed_tk 56 73 #[] (fun _ _ => True) a Ua um uc U A m c L id (homeF L id) _ W (fun _ _ => rfl) (fun _ _ => rfl) (h.on hW)
    (fun _ V t => home_any a Ua um uc A m c L id V t.p t.pl (by have := t.p6; omega)) (fun _ _ _ _ => trivial)
    (fun h0 h1 => hd (tk_good h0) (homeF_lt h1) h1) (fun x hx => (h.p.tr x hx).l)
set_option maxRecDepth 100000 in
theorem kill_tk (a : Int) (Ua : Option Addr) (um uc : Nat) (U : List Int) (A : Option Addr) (m c : Nat) (L : List Pw) (id : Int) (r : TkA) (w : World) (h : Tk w w.heap.size Ua um uc U A m c L)
    (hd : TkGood a U L → runB L id = true → DoT 76 #[] (fun _ _ => True) a U (L.map (·.1)) (lessP (idsP L) id) r) :
    Calls Tryz.prog 31 #[tkV a Ua um uc A m c, .int .i64 id] w fun e w' => ∃ v, e = .returned (.tuple #[v, .int .i64 (chgT (tkE a U L) (lessP (idsP L) id, runB L id) r).e]) ∧ TkR w' w.heap.size v (chgT (tkE a U L) (lessP (idsP L) id, runB L id) r) ∧ Below w.heap.size w w' :=
  kill_via a Ua um uc A m c id _ w fun W hW => changed_tk 75 76 #[] (fun _ _ => True) a Ua um uc U A m c L id (lessP (idsP L) id, runB L id) _ W (fun _ _ => rfl) (fun _ _ => rfl) (h.on hW)
    (fun h0 V t => running_tk a Ua um uc A m c L id V t.p t.pl (by have := t.p6; omega) (tk_good h0).pup) (fun _ _ _ _ => trivial)
    (fun h0 h1 => hd (tk_good h0) h1) (fun x hx => (h.p.tr x hx).l)
set_option maxRecDepth 100000 in
theorem reap_tk (a : Int) (Ua : Option Addr) (um uc : Nat) (U : List Int) (A : Option Addr) (m c : Nat) (L : List Pw) (id : Int) (r : TkA) (w : World) (h : Tk w w.heap.size Ua um uc U A m c L)
    (hd : TkGood a U L → (homeF L id).1 < L.length → (homeF L id).2 = true → DoT 71 #[] (fun _ _ => True) a U (L.map (·.1)) (homeF L id).1 r) :
    Calls Tryz.prog 29 #[tkV a Ua um uc A m c, .int .i64 id] w fun e w' => ∃ v, e = .returned (.tuple #[v, .int .i64 (chgT (tkE a U L) (homeF L id) r).n, .int .i64 (chgT (tkE a U L) (homeF L id) r).e]) ∧ TkR w' w.heap.size v (chgT (tkE a U L) (homeF L id) r) ∧ Below w.heap.size w w' :=
  reap_via a Ua um uc A m c id _ w fun W hW => changed_tk 56 71 #[] (fun _ _ => True) a Ua um uc U A m c L id (homeF L id) _ W (fun _ _ => rfl) (fun _ _ => rfl) (h.on hW)
    (fun _ V t => home_any a Ua um uc A m c L id V t.p t.pl (by have := t.p6; omega)) (fun _ _ _ _ => trivial)
    (fun h0 h1 => hd (tk_good h0) (homeF_lt h1) h1) (fun x hx => (h.p.tr x hx).l)
end Go.Proofs.YtlelhhgggnjndaaGreat

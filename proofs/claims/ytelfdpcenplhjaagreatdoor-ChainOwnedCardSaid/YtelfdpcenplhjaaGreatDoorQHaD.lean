/-
  action.CombineSeq over any iterator, where only the halves are laid.
-/
import Derived.Test.YtelfdpcenplhjaaGreatDoorQRange7
import Derived.RecoverIn
import Derived.RegionTactic
import Derived.BigRegion
namespace Go.Proofs.YtelfdpcenplhjaaGreatDoor
open Go.RowKit Go.Shelf
attribute [local go_sem] Oper.semAt_some
set_option linter.unusedVariables false
abbrev W32 := {x : Int // 0 ≤ x ∧ x < 4294967296}
def lowF (s : Int × Int × Nat) (x : Int) : Int × Int × Nat := if s.2.1 < 0 ∨ actI x < actI s.1 then (x, (s.2.2 : Int), s.2.2 + 1) else (s.1, s.2.1, s.2.2 + 1)
def lowS (l : List Int) : Int × Int × Nat := l.foldl lowF (0, -1, 0)
theorem lowS_snoc (l : List Int) (x : Int) : lowS (l ++ [x]) = lowF (lowS l) x := by simp [lowS]
theorem lowF_len (l : List Int) : ∀ s : Int × Int × Nat, (l.foldl lowF s).2.2 = s.2.2 + l.length := by
  induction l with
  | nil => intro s; rfl
  | cons x l ih =>
    intro s
    rw [List.foldl_cons, ih]
    have : (lowF s x).2.2 = s.2.2 + 1 := by unfold lowF; split <;> rfl
    rw [this, List.length_cons]; omega
theorem lowS_len (l : List Int) : (lowS l).2.2 = l.length := by rw [lowS, lowF_len]; simp
theorem lowS_new (l : List Int) (x : Int) (h : (lowS l).2.1 < 0 ∨ actI x < actI (lowS l).1) : lowS (l ++ [x]) = (x, (l.length : Int), l.length + 1) := by rw [lowS_snoc, lowF, if_pos h, lowS_len]
theorem lowS_old (l : List Int) (x : Int) (h : ¬ ((lowS l).2.1 < 0 ∨ actI x < actI (lowS l).1)) : lowS (l ++ [x]) = ((lowS l).1, (lowS l).2.1, l.length + 1) := by rw [lowS_snoc, lowF, if_neg h, lowS_len]
theorem lowF_bd (l : List Int) : ∀ s : Int × Int × Nat, (∀ x ∈ l, 0 ≤ x ∧ x < 4294967296) → (0 ≤ s.1 ∧ s.1 < 4294967296) → -1 ≤ s.2.1 → s.2.1 < s.2.2 → 
    (0 ≤ (l.foldl lowF s).1 ∧ (l.foldl lowF s).1 < 4294967296) ∧ -1 ≤ (l.foldl lowF s).2.1 ∧ (l.foldl lowF s).2.1 < (l.foldl lowF s).2.2 := by
  induction l with
  | nil => intro s _ h1 h2 h3; exact ⟨h1, h2, h3⟩
  | cons x l ih =>
    intro s hl h1 h2 h3
    rw [List.foldl_cons]
    refine ih _ (fun y hy => hl y (by simp [hy])) ?_ ?_ ?_
    · unfold lowF; split
      · exact hl x (by simp)
      · exact h1
    · unfold lowF; split
      · show (-1 : Int) ≤ (s.2.2 : Int); omega
      · exact h2
    · unfold lowF; split
      · show (s.2.2 : Int) < ((s.2.2 + 1 : Nat) : Int); omega
      · show s.2.1 < ((s.2.2 + 1 : Nat) : Int); omega
theorem lowS_bd (l : List W32) : (0 ≤ (lowS (l.map (·.1))).1 ∧ (lowS (l.map (·.1))).1 < 4294967296) ∧ -1 ≤ (lowS (l.map (·.1))).2.1 ∧ (lowS (l.map (·.1))).2.1 < (lowS (l.map (·.1))).2.2 :=
  lowF_bd _ _ (fun x hx => by obtain ⟨y, _, rfl⟩ := List.mem_map.1 hx; exact y.2) (by decide) (by decide) (by decide)
theorem skip_wide {lp n : Nat} {P : Program} {ops : Array Oper} {Q : Exit → Act → World → Prop} {a : Act} {w : World} {rest : List Oper} {o : Oper} (hw : Region.wanted o (yielded ops a.tmps) = false)
    (h : wpListIn (Fence.wide.inRound lp) n P ops Q rest (a.put o.dst undef) w) : wpListIn (Fence.wide.inRound lp) n P ops Q (o :: rest) a w := by
  unfold wpListIn
  rw [hw]
  exact ⟨fun _ _ => trivial, h⟩
theorem low_put {V : World} {b : Nat} {t1 t2 t3 : TypeId} {v1 v2 v3 : Value} (g2 : Boxed V (b + 1) t1 v1) (g3 : Boxed V (b + 1 + 1) t2 v2) (g4 : Boxed V (b + 1 + 1 + 1) t3 v3) (u1 u2 u3 : Value) {X : World} (hX : X = (((V.setCell ⟨b + 1, 0, none⟩ u1).setCell ⟨b + 1 + 1, 0, none⟩ u2).setCell ⟨b + 1 + 1 + 1, 0, none⟩ u3).drew) :
    (∀ k, k ≠ b + 1 → k ≠ b + 1 + 1 → k ≠ b + 1 + 1 + 1 → X.heap[k]? = V.heap[k]?) ∧ Boxed X (b + 1) t1 u1 ∧ Boxed X (b + 1 + 1) t2 u2 ∧ Boxed X (b + 1 + 1 + 1) t3 u3 ∧ Below b V X := by
  subst hX
  have a2 : Boxed ((V.setCell ⟨b + 1, 0, none⟩ u1).setCell ⟨b + 1 + 1, 0, none⟩ u2) (b + 1) t1 u1 := (g2.set u1).kept (row := some (b + 1 + 1)) (grownBy_setCell' _ _ _) (by first | (simp; done) | (simp; omega))
  have a3 : Boxed ((V.setCell ⟨b + 1, 0, none⟩ u1).setCell ⟨b + 1 + 1, 0, none⟩ u2) (b + 1 + 1) t2 u2 := (g3.kept (row := some (b + 1)) (grownBy_setCell' _ _ _) (by first | (simp; done) | (simp; omega))).set u2
  have a4 : Boxed ((V.setCell ⟨b + 1, 0, none⟩ u1).setCell ⟨b + 1 + 1, 0, none⟩ u2) (b + 1 + 1 + 1) t3 v3 := (g4.kept (row := some (b + 1)) (grownBy_setCell' _ _ _) (by first | (simp; done) | (simp; omega))).kept (row := some (b + 1 + 1)) (grownBy_setCell' _ _ _) (by first | (simp; done) | (simp; omega))
  refine ⟨fun k h1 h2 h3 => ?_, ?_, ?_, ?_, ?_⟩
  · exact (Below.heap_setCell _ ⟨b + 1 + 1 + 1, 0, none⟩ _ k h3).trans ((Below.heap_setCell _ ⟨b + 1 + 1, 0, none⟩ _ k h2).trans (Below.heap_setCell _ ⟨b + 1, 0, none⟩ _ k h1))
  · exact (show Boxed (((V.setCell ⟨b + 1, 0, none⟩ u1).setCell ⟨b + 1 + 1, 0, none⟩ u2).setCell ⟨b + 1 + 1 + 1, 0, none⟩ u3) (b + 1) t1 u1 from a2.kept (row := some (b + 1 + 1 + 1)) (grownBy_setCell' _ _ _) (by first | (simp; done) | (simp; omega)))
  · exact (show Boxed (((V.setCell ⟨b + 1, 0, none⟩ u1).setCell ⟨b + 1 + 1, 0, none⟩ u2).setCell ⟨b + 1 + 1 + 1, 0, none⟩ u3) (b + 1 + 1) t2 u2 from a3.kept (row := some (b + 1 + 1 + 1)) (grownBy_setCell' _ _ _) (by first | (simp; done) | (simp; omega)))
  · exact (show Boxed (((V.setCell ⟨b + 1, 0, none⟩ u1).setCell ⟨b + 1 + 1, 0, none⟩ u2).setCell ⟨b + 1 + 1 + 1, 0, none⟩ u3) (b + 1 + 1 + 1) t3 u3 from a4.set u3)
  · exact ((((Below.refl b V).setCell (p := ⟨b + 1, 0, none⟩) (by simp) _).setCell (p := ⟨b + 1 + 1, 0, none⟩) (by simp; omega) _).setCell (p := ⟨b + 1 + 1 + 1, 0, none⟩) (by simp; omega) _).drew
theorem idle_rec (n : Nat) (w : World) : CallsDIn Fence.wide n Tryz.prog 99 #[] .returning w fun e u' w' => e = .returned (.tuple #[]) ∧ u' = .returning ∧ w' = w := by
  refine callsDIn_of_wpSIn Tryz.func99 rfl trivial fun c₀ cs hu => ?_
  apply wpSIn_region
  simp [wpOpsSIn, go_sem, recoverD, hu, Tryz.ntmps99]
  cases c₀
  simp_all [bodyPostS, results, Tryz.results99]
set_option maxRecDepth 100000 in
set_option maxHeartbeats 4000000 in
theorem lowest_any (gf : Nat) (lb : Array Value) (l : List Int) (N : Nat) (w : World) (hK : Halves w) (hN : N ≤ 1000000)
    (eg : ∀ args w, (callFunc gf args).run Tryz.prog w = .ok (.enter gf args) w)
    (hseq : SeqN Fence.wide 5 Tryz.prog gf lb (fun x : W32 => #[.int .u32 x.1]) w.heap.size (fun xs => xs.map (·.1) = l) N w) :
    Calls Tryz.prog 83 #[.func (.func gf) #[] lb, .func (.func 84) #[] #[]] w fun e w' => e = .returned (.tuple #[.int .u32 (lowS l).1, .int .i64 (lowS l).2.1]) ∧ Below w.heap.size w w' := by
  refine (callsIn_wide (n := 6)).1 ?_
  refine callsIn_of_wp_marks Tryz.func83 rfl trivial ?_ rfl
  simp only [Tryz.ntmps83, List.size_toArray, List.length_cons, List.length_nil, Nat.reduceAdd, Nat.reduceSub, Array.replicate_succ, Array.replicate_zero, List.push_toArray, List.append_toArray, List.nil_append, List.cons_append]
  refine wpIn_wide.2 ?_
  go_wp2_with fail
  have bU := (((Boxed.new w 126 (.func (.func 84) #[] #[])).alloc (.cells #[.int .u32 0] 61)).alloc (.cells #[.int .i64 (-1)] 3)).alloc (.cells #[.int .i64 0] 3)
  have bF := ((Boxed.new (w.alloc (.cells #[.func (.func 84) #[] #[]] 126)) 61 (.int .u32 0)).alloc (.cells #[.int .i64 (-1)] 3)).alloc (.cells #[.int .i64 0] 3)
  have bP := (Boxed.new ((w.alloc (.cells #[.func (.func 84) #[] #[]] 126)).alloc (.cells #[.int .u32 0] 61)) 3 (.int .i64 (-1))).alloc (.cells #[.int .i64 0] 3)
  have bA := Boxed.new (((w.alloc (.cells #[.func (.func 84) #[] #[]] 126)).alloc (.cells #[.int .u32 0] 61)).alloc (.cells #[.int .i64 (-1)] 3)) 3 (.int .i64 0)
  have hB0 : Below w.heap.size w ((((w.alloc (.cells #[.func (.func 84) #[] #[]] 126)).alloc (.cells #[.int .u32 0] 61)).alloc (.cells #[.int .i64 (-1)] 3)).alloc (.cells #[.int .i64 0] 3)) :=
    ((((Below.refl _ w).alloc (Nat.le_refl _) _).alloc (by simp) _).alloc (by simp; omega) _).alloc (by simp; omega) _
  have hsz : ((((w.alloc (.cells #[.func (.func 84) #[] #[]] 126)).alloc (.cells #[.int .u32 0] 61)).alloc (.cells #[.int .i64 (-1)] 3)).alloc (.cells #[.int .i64 0] 3)).heap.size = w.heap.size + 1 + 1 + 1 + 1 := by simp
  simp only [World.size_alloc] at bF bP bA
  generalize (((w.alloc (.cells #[.func (.func 84) #[] #[]] 126)).alloc (.cells #[.int .u32 0] 61)).alloc (.cells #[.int .i64 (-1)] 3)).alloc (.cells #[.int .i64 0] 3) = w0 at bU bF bP bA hB0 hsz ⊢
  have hpos := hK.pos
  have hmx : Tryz.prog.follows .mixedOrders = true := by kernel_rfl
  refine (wpIn_wide (n := 6)).1 ?_
  refine wpIn_range7 rfl (by omega) (gf := gf) (lb := lb) rfl trivial eg hseq (by omega) hB0 (fun _ => rfl)
    (fun (pre : List W32) W => Boxed W w.heap.size 126 (.func (.func 84) #[] #[]) ∧ Boxed W (w.heap.size + 1) 61 (.int .u32 (lowS (pre.map (·.1))).1) ∧ Boxed W (w.heap.size + 1 + 1) 3 (.int .i64 (lowS (pre.map (·.1))).2.1) ∧ Boxed W (w.heap.size + 1 + 1 + 1) 3 (.int .i64 (pre.length : Nat)) ∧ Below w.heap.size w W)
    ?hI ⟨bU, bF, bP, bA, hB0⟩ ?round ?done
  case hI =>
    rintro s V V' row ⟨h1, h2, h3, h4, h5⟩ hgr hr
    have hlt : ∀ k, k < w0.heap.size → row ≠ some k := fun k h2 e => by have := hr k e; omega
    exact ⟨h1.kept hgr (fun e => hlt _ (by omega) e.symm), h2.kept hgr (fun e => hlt _ (by omega) e.symm), h3.kept hgr (fun e => hlt _ (by omega) e.symm), h4.kept hgr (fun e => hlt _ (by omega) e.symm), h5.grown hgr (Nat.le_of_lt h1.lt) (fun k e => by have := hr k e; omega)⟩
  case round =>
    rintro lp pre ⟨x, x0, x1⟩ W ⟨h1, h2, h3, h4, h5⟩ hlt hlen
    gi_wp2
    refine ⟨⟨trivial, trivial⟩, Below.refl _ _, FromB.refl _ _, fun o o' ho hc => ?_⟩
    have hs1' : w0.heap.size + 1 < W.heap.size := by omega
    have hgr := grownBy_putObj' W (w0.heap.size + 1) o'
    have g1 := h1.kept hgr (by simp; omega)
    have g2 := h2.kept hgr (by simp; omega)
    have g3 := h3.kept hgr (by simp; omega)
    have g4 := h4.kept hgr (by simp; omega)
    have g5 : Below w.heap.size w (W.putObj (w0.heap.size + 1) o') := h5.grown hgr (by omega) (fun r e => by cases e; omega)
    have hD2 : (W.putObj (w0.heap.size + 1) o').heap[w0.heap.size]? = W.heap[w0.heap.size]? := World.putObj_heap_other (by omega)
    have hL2 : (W.putObj (w0.heap.size + 1) o').heap[w0.heap.size + 1]? = some o' := World.putObj_heap_same hs1'
    have hsz2 : (W.putObj (w0.heap.size + 1) o').heap.size = W.heap.size := by simp
    generalize W.putObj (w0.heap.size + 1) o' = V at g1 g2 g3 g4 g5 hD2 hL2 hsz2 ⊢
    rw [hsz] at hD2 hL2
    have hKV := hK.below g5 hpos
    have hbd := lowS_bd pre
    have hln := lowS_len (pre.map (·.1))
    rw [List.length_map] at hln
    have hmap : (pre ++ [(⟨x, x0, x1⟩ : W32)]).map (·.1) = pre.map (·.1) ++ [x] := by simp
    have hnew := lowS_new (pre.map (·.1)) x
    have hold := lowS_old (pre.map (·.1)) x
    rw [← hmap, List.length_map] at hnew hold
    generalize (lowS (pre.map (·.1))).1 = fw at g2 hbd hnew hold
    generalize (lowS (pre.map (·.1))).2.1 = pw at g3 hbd hnew hold
    have HN := Lib.hid hnew
    have HO := Lib.hid hold
    have HM := Lib.hid hmap
    clear hnew hold hmap h1 h2 h3 h4 h5 hgr
    have c1 := g1.cell
    have c2 := g2.cell
    have c3 := g3.cell
    have c4 := g4.cell
    have f2 := g2.frozen
    have f3 := g3.frozen
    have f4 := g4.frozen
    by_cases hp : pw < 0
    · have hp' : decide (pw < 0) = true := by simpa using hp
      have e1 := HN.out (.inl hp)
      rw [HM.out] at e1
      have E1 := Lib.hid e1
      clear e1
      gi_wp2_with (refine skip_wide rfl ?_)
      gi_region_with_o (fail)
      all_goals gi_wp2
      all_goals
        obtain ⟨q1, q2, q3, q4, q5⟩ := low_put g2 g3 g4 (.int .u32 x) (.int .i64 (pre.length : Nat)) (.int .i64 ((pre.length : Int) + 1)) rfl
        have e2 := E1.out
        refine ⟨⟨(q1 _ (by omega) (by omega) (by omega)).trans hD2, (q1 _ (by omega) (by omega) (by omega)).trans hL2⟩, q5, ⟨q5.size, fun k h1 _ => q1 k (by omega) (by omega) (by omega)⟩, (q1 _ (by omega) (by omega) (by omega)).trans g1, ?_, ?_, q4, g5.trans q5⟩
        · exact (congrArg (fun z => Value.int .u32 z.1) e2) ▸ q2
        · exact (congrArg (fun z => Value.int .i64 z.2.1) e2) ▸ q3
    · have hp' : decide (pw < 0) = false := by simpa using hp
      have hx := fun W' hK' => CallsIn.inRound lp ((callsIn_wide (n := 3)).2 (under_any x fw x0 x1 hbd.1.1 hbd.1.2 W' hK'))
      by_cases hu : actI x < actI fw
      · have hu' : decide (actI x < actI fw) = true := by simpa using hu
        rw [hu'] at hx
        have e1 := HN.out (.inr hu)
        rw [HM.out] at e1
        have E1 := Lib.hid e1
        clear e1
        gi_wp2_with (refine ⟨trivial, ?_⟩; gi_at_call 84; refine (hx _ hKV).mono ?_; rintro e V2 ⟨rfl, hbb⟩)
        have G1 := boxed_below g1 hbb g1.lt
        have G2 := boxed_below g2 hbb g2.lt
        have G3 := boxed_below g3 hbb g3.lt
        have G4 := boxed_below g4 hbb g4.lt
        have hD3 := (hbb.block _ (show w.heap.size + 1 + 1 + 1 + 1 < V.heap.size by omega)).trans hD2
        have hL3 := (hbb.block _ (show w.heap.size + 1 + 1 + 1 + 1 + 1 < V.heap.size by omega)).trans hL2
        have hb2 : Below w.heap.size V V2 := hbb.mono (by omega)
        have c4' := G4.cell
        have f2' := G2.frozen
        have f3' := G3.frozen
        have f4' := G4.frozen
        have c2' := G2.cell
        have c3' := G3.cell
        gi_region_with_o (fail)
        all_goals gi_wp2
        all_goals
          obtain ⟨q1, q2, q3, q4, q5⟩ := low_put G2 G3 G4 (.int .u32 x) (.int .i64 (pre.length : Nat)) (.int .i64 ((pre.length : Int) + 1)) rfl
          have e2 := E1.out
          refine ⟨⟨(q1 _ (by omega) (by omega) (by omega)).trans hD3, (q1 _ (by omega) (by omega) (by omega)).trans hL3⟩, hb2.trans q5, (FromB.of_below hbb).trans ⟨q5.size, fun k h1 _ => q1 k (by omega) (by omega) (by omega)⟩, (q1 _ (by omega) (by omega) (by omega)).trans G1, ?_, ?_, q4, g5.trans (hb2.trans q5)⟩
          · exact (congrArg (fun z => Value.int .u32 z.1) e2) ▸ q2
          · exact (congrArg (fun z => Value.int .i64 z.2.1) e2) ▸ q3
      · have hu' : decide (actI x < actI fw) = false := by simpa using hu
        rw [hu'] at hx
        have e1 := HO.out (by rintro (h | h) <;> contradiction)
        rw [HM.out] at e1
        have E1 := Lib.hid e1
        clear e1
        gi_wp2_with (refine ⟨trivial, ?_⟩; gi_at_call 84; refine (hx _ hKV).mono ?_; rintro e V2 ⟨rfl, hbb⟩; have c4' := (boxed_below g4 hbb g4.lt).cell; have f4' := (boxed_below g4 hbb g4.lt).frozen)
        have G1 := boxed_below g1 hbb g1.lt
        have G2 := boxed_below g2 hbb g2.lt
        have G3 := boxed_below g3 hbb g3.lt
        have G4 := boxed_below g4 hbb g4.lt
        have hD3 := (hbb.block _ (show w.heap.size + 1 + 1 + 1 + 1 < V.heap.size by omega)).trans hD2
        have hL3 := (hbb.block _ (show w.heap.size + 1 + 1 + 1 + 1 + 1 < V.heap.size by omega)).trans hL2
        have hb2 : Below w.heap.size V V2 := hbb.mono (by omega)
        have e2 := E1.out
        have q1 : ∀ k, k ≠ w.heap.size + 1 + 1 + 1 → (V2.setCell ⟨w.heap.size + 1 + 1 + 1, 0, none⟩ (.int .i64 ((pre.length : Int) + 1))).heap[k]? = V2.heap[k]? := fun k hk => Below.heap_setCell _ ⟨w.heap.size + 1 + 1 + 1, 0, none⟩ _ k hk
        have q5 : Below w.heap.size V2 (V2.setCell ⟨w.heap.size + 1 + 1 + 1, 0, none⟩ (.int .i64 ((pre.length : Int) + 1))) := (Below.refl _ _).setCell (p := ⟨w.heap.size + 1 + 1 + 1, 0, none⟩) (by simp; omega) _
        refine ⟨⟨(q1 _ (by omega)).trans hD3, (q1 _ (by omega)).trans hL3⟩, hb2.trans q5, (FromB.of_below hbb).trans ⟨q5.size, fun k h1 _ => q1 k (by omega)⟩, (q1 _ (by omega)).trans G1, ?_, ?_, G4.set _, g5.trans (hb2.trans q5)⟩
        · exact (congrArg (fun z => Value.int .u32 z.1) e2) ▸ ((q1 _ (by omega)).trans G2)
        · exact (congrArg (fun z => Value.int .i64 z.2.1) e2) ▸ ((q1 _ (by omega)).trans G3)
  case done =>
    rintro xs W hxs ⟨h1, h2, h3, h4, h5⟩ hD
    rw [hxs] at h2 h3
    have c2 := h2.cell
    have f2 := h2.frozen
    have c3 := h3.cell
    have f3 := h3.frozen
    go_wp2_with fail
    go_region
    have k2 : Boxed (((W.setCell ⟨w.heap.size + 1, 0, none⟩ (.int .u32 (lowS l).1)).setCell ⟨w.heap.size + 1 + 1, 0, none⟩ (.int .i64 (lowS l).2.1)).drew) (w.heap.size + 1) 61 (.int .u32 (lowS l).1) := Boxed.kept (W' := (W.setCell ⟨w.heap.size + 1, 0, none⟩ (.int .u32 (lowS l).1)).setCell ⟨w.heap.size + 1 + 1, 0, none⟩ (.int .i64 (lowS l).2.1)) (row := some (w.heap.size + 1 + 1)) (h2.set _) (grownBy_setCell' _ _ _) (by simp)
    have k3 : Boxed (((W.setCell ⟨w.heap.size + 1, 0, none⟩ (.int .u32 (lowS l).1)).setCell ⟨w.heap.size + 1 + 1, 0, none⟩ (.int .i64 (lowS l).2.1)).drew) (w.heap.size + 1 + 1) 3 (.int .i64 (lowS l).2.1) := (show Boxed ((W.setCell ⟨w.heap.size + 1, 0, none⟩ (.int .u32 (lowS l).1)).setCell ⟨w.heap.size + 1 + 1, 0, none⟩ (.int .i64 (lowS l).2.1)) (w.heap.size + 1 + 1) 3 (.int .i64 (lowS l).2.1) from (h3.kept (row := some (w.heap.size + 1)) (grownBy_setCell' _ _ _) (by simp)).set _)
    have hbl : Below w.heap.size W (((W.setCell ⟨w.heap.size + 1, 0, none⟩ (.int .u32 (lowS l).1)).setCell ⟨w.heap.size + 1 + 1, 0, none⟩ (.int .i64 (lowS l).2.1)).drew) := ((((Below.refl _ _).setCell (p := ⟨w.heap.size + 1, 0, none⟩) (by simp) _).setCell (p := ⟨w.heap.size + 1 + 1, 0, none⟩) (by simp; omega) _)).drew
    have hD2 : (((W.setCell ⟨w.heap.size + 1, 0, none⟩ (.int .u32 (lowS l).1)).setCell ⟨w.heap.size + 1 + 1, 0, none⟩ (.int .i64 (lowS l).2.1)).drew).heap[w0.heap.size]? = some (.deferred (some [])) :=
      ((Below.heap_setCell _ ⟨w.heap.size + 1 + 1, 0, none⟩ _ _ (by simp; omega)).trans (Below.heap_setCell _ ⟨w.heap.size + 1, 0, none⟩ _ _ (by simp; omega))).trans hD
    generalize ((W.setCell ⟨w.heap.size + 1, 0, none⟩ (.int .u32 (lowS l).1)).setCell ⟨w.heap.size + 1 + 1, 0, none⟩ (.int .i64 (lowS l).2.1)).drew = V at k2 k3 hbl hD2 ⊢
    have hsV : w0.heap.size < V.heap.size := (Array.getElem?_eq_some_iff.1 hD2).1
    have bD : Below w.heap.size V (V.putObj w0.heap.size (.deferred none)) := (Below.refl _ V).grown (grownBy_putObj' V _ _) (by omega) (fun k e => by cases e; omega)
    go_wp2_with fail
    refine ⟨by simp, .inl ⟨_, _, rfl, run_takeDeferred hD2, ?_⟩⟩
    refine ⟨by simp, .inr ⟨by simp [Fence.wide], .func 99, #[], 99, #[], rfl, ?_, by simp [Fence.wide], ?_⟩⟩
    · simp [go_sem]
    · refine (idle_rec _ _).mono ?_
      rintro e u' w'' ⟨rfl, rfl, rfl⟩
      have r2 := (show Boxed (V.putObj w0.heap.size (.deferred none)) (w.heap.size + 1) 61 (.int .u32 (lowS l).1) from (World.putObj_heap_other (by omega)).trans k2).cell
      have r3 := (show Boxed (V.putObj w0.heap.size (.deferred none)) (w.heap.size + 1 + 1) 3 (.int .i64 (lowS l).2.1) from (World.putObj_heap_other (by omega)).trans k3).cell
      refine ⟨.tuple #[.int .u32 (lowS l).1, .int .i64 (lowS l).2.1], ?_, rfl, h5.trans (hbl.trans bD)⟩
      simp [results, Tryz.f83, go_sem, r2, r3]
end Go.Proofs.YtelfdpcenplhjaaGreatDoor
namespace Go.Proofs.YtelfdpcenplhjaaGreatDoor
open Go.RowKit Go.Shelf
attribute [local go_sem] Oper.semAt_some
set_option linter.unusedVariables false
def cmbI (l : List Int) : Nat × Int × Int := if (lowS l).2.1 < 0 then (7, 0, (lowS l).2.1) else (actI (lowS l).1, (lowS l).1 % 65536, (lowS l).2.1)
set_option maxRecDepth 100000 in
set_option maxHeartbeats 4000000 in
theorem cseq_any (gf : Nat) (lb : Array Value) (l : List Int) (N : Nat) (w : World) (hK : Halves w) (hN : N ≤ 1000000) (hl : ∀ x ∈ l, 0 ≤ x ∧ x < 4294967296)
    (eg : ∀ args w, (callFunc gf args).run Tryz.prog w = .ok (.enter gf args) w)
    (hseq : SeqN Fence.wide 5 Tryz.prog gf lb (fun x : W32 => #[.int .u32 x.1]) (w.heap.size + 1) (fun xs => xs.map (·.1) = l) N (w.alloc (.cells #[.int .i64 0, .int .u16 0] 67))) :
    Calls Tryz.prog 64 #[.func (.func gf) #[] lb] w fun e w' => e = .returned (.tuple #[.agg #[.int .i64 (cmbI l).1, .int .u16 (cmbI l).2.1], .int .i64 (cmbI l).2.2]) ∧ Below w.heap.size w w' := by
  have hpos := hK.pos
  have hlow := lowest_any gf lb l N (w.alloc (.cells #[.int .i64 0, .int .u16 0] 67)) (hK.alloc _) hN eg (by simpa using hseq)
  have hbd : 0 ≤ (lowS l).1 ∧ (lowS l).1 < 4294967296 := (lowF_bd l _ hl (by decide) (by decide) (by decide)).1
  have hcm : cmbI l = if (lowS l).2.1 < 0 then (7, 0, (lowS l).2.1) else (actI (lowS l).1, (lowS l).1 % 65536, (lowS l).2.1) := rfl
  have bR := Blk.new w #[.int .i64 0, .int .u16 0] 67
  generalize (lowS l).1 = fw at *
  generalize (lowS l).2.1 = pw at *
  generalize cmbI l = C at *
  have HC := Lib.hid hcm
  clear hcm
  by_cases hp : pw < 0
  · have hC2 : C = (7, 0, pw) := by rw [HC.out, if_pos hp]
    subst hC2
    have hp' : decide (pw < 0) = true := by simpa using hp
    go_enter Tryz.func64, Tryz.ntmps64
    go_wp2_with fail
    refine hlow.mono ?_
    rintro e w1 ⟨rfl, b1⟩
    have R1 : Blk w1 w.heap.size #[.int .i64 0, .int .u16 0] 67 := ⟨(b1.block _ (by simp)).trans bR.blk⟩
    have B1 : Below w.heap.size w w1 := ⟨b1.os, b1.tape, b1.output, by have := b1.size; simp at this; omega, fun k hk => (b1.block k (by simp; omega)).trans (Below.heap_alloc w _ k hk)⟩
    go_wp2_with (refine wpList_store_blk rfl 67 (.tmp 2) (.tmp 13) rfl w.heap.size _ _ 67 rfl rfl R1 rfl ver_info (by simp [Value.oneCell']) ?_; intro w3 hw3 hn3)
    refine bodyPost_ret (results_row_tmp rfl _ _ w.heap.size 67 _ (0, 0) _ rfl hw3.blk Tryz.underlying67 rfl ver_info _ rfl) rfl ⟨rfl, B1.trans (hn3.below _ (Nat.le_refl _) (by have := b1.size; simp at this; omega))⟩
  · have hC2 : C = (actI fw, fw % 65536, pw) := by rw [HC.out, if_neg hp]
    subst hC2
    have hp' : decide (pw < 0) = false := by simpa using hp
    go_enter Tryz.func64, Tryz.ntmps64
    go_wp2_with fail
    refine hlow.mono ?_
    rintro e w1 ⟨rfl, b1⟩
    have hs1 := b1.size
    simp only [World.size_alloc] at hs1
    have R1 : Blk w1 w.heap.size #[.int .i64 0, .int .u16 0] 67 := ⟨(b1.block _ (by simp)).trans bR.blk⟩
    have B1 : Below w.heap.size w w1 := ⟨b1.os, b1.tape, b1.output, by omega, fun k hk => (b1.block k (by simp; omega)).trans (Below.heap_alloc w _ k hk)⟩
    go_wp2_with fail
    refine (actsplit_any fw hbd.1 hbd.2 _ (hK.below B1 hpos)).mono ?_
    rintro e w2 ⟨rfl, b2⟩
    have R2 := R1.below b2 R1.lt
    go_wp2_with (refine wpList_store_blk rfl 67 (.tmp 2) (.tmp 16) rfl w.heap.size _ _ 67 rfl rfl R2 rfl ver_info (by simp [Value.oneCell']) ?_; intro w3 hw3 hn3)
    have hb13 : Below w.heap.size w1 w3 := (b2.mono (by omega)).trans (hn3.below _ (Nat.le_refl _) (Nat.le_trans (by omega) b2.size))
    refine bodyPost_ret (results_row_tmp rfl _ _ w.heap.size 67 _ (0, 0) _ rfl hw3.blk Tryz.underlying67 rfl ver_info _ rfl) rfl ⟨rfl, B1.trans hb13⟩
end Go.Proofs.YtelfdpcenplhjaaGreatDoor

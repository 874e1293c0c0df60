/-
  steps.changed, changedOf, over any change.
-/
import Derived.Test.YtfohifnbohdbcaaScX
namespace Go.Proofs.Ytfohifnbohdbcaa
open Go.RowKit Go.Shelf
set_option linter.unusedVariables false
set_option linter.unusedSimpArgs false

/-- All below is kept, but for one block at most. -/
structure Bx (B : Nat) (o : Option Nat) (w w' : World) : Prop where
  os : w'.os = w.os
  tape : w'.tape = w.tape
  output : w'.output = w.output
  size : w.heap.size ≤ w'.heap.size
  block : ∀ k, k < B → some k ≠ o → w'.heap[k]? = w.heap[k]?
theorem Bx.of {B : Nat} {o : Option Nat} {w w' : World} (h : Below B w w') : Bx B o w w' := ⟨h.os, h.tape, h.output, h.size, fun k hk _ => h.block k hk⟩
theorem Bx.below {B : Nat} {w w' : World} (h : Bx B none w w') : Below B w w' := ⟨h.os, h.tape, h.output, h.size, fun k hk => h.block k hk (by simp)⟩
theorem Bx.trans {B : Nat} {o : Option Nat} {a b c : World} (h : Bx B o a b) (k : Bx B o b c) : Bx B o a c := ⟨k.os.trans h.os, k.tape.trans h.tape, k.output.trans h.output, Nat.le_trans h.size k.size, fun i hi hn => (k.block i hi hn).trans (h.block i hi hn)⟩
theorem Bx.mono {B B' : Nat} {o : Option Nat} {a b : World} (h : Bx B o a b) (hB : B' ≤ B) : Bx B' o a b := ⟨h.os, h.tape, h.output, h.size, fun i hi hn => h.block i (Nat.lt_of_lt_of_le hi hB) hn⟩
theorem Bx.blk {B g : Nat} {o : Option Nat} {a b : World} {cs : Array Value} {t : TypeId} (h : Bx B o a b) (k : Blk a g cs t) (hg : g < B) (hn : some g ≠ o) : Blk b g cs t := ⟨(h.block g hg hn).trans k.blk⟩
/-- What the one block holds. -/
def Ob (V : World) (o : Option Nat) (b : Bool) : Prop := ∀ g, o = some g → Blk V g #[.bool b] 4
theorem Ob.below {V V' : World} {o : Option Nat} {b : Bool} {B : Nat} (h : Ob V o b) (hb : Below B V V') (ho : ∀ g, o = some g → g < B) : Ob V' o b := fun g e => (h g e).below hb (ho g e)
/-- Nothing of it lies below a place. -/
structure Fro (B : Nat) (A A2 : Option Addr) (L : List Kw) : Prop where
  a : ∀ a, A = some a → B ≤ a.block
  a2 : ∀ a, A2 = some a → B ≤ a.block
  q : ∀ x ∈ L, ∀ a, x.2.1 = some a → B ≤ a.block
theorem range_but {w w' : World} {g b o : Nat} {cs : List Value} (n : But g w w') (h : w.rangeAt b o cs) (hne : b ≠ g) : w'.rangeAt b o cs := fun j v hv => cell_but n (h j v hv) hne
theorem Sc.off {w w' : World} {B B' g m c m2 c2 : Nat} {A A2 : Option Addr} {R : List Rn} {L : List Kw} (h : Sc w B' A m c R A2 m2 c2 L) (f : Fro B A A2 L) (n : But g w w') (hg : g < B) : Sc w' B' A m c R A2 m2 c2 L :=
  ⟨fun k hk => by
    obtain ⟨b, off, e, h1, h2⟩ := h.rs k hk
    have := f.a _ e
    exact ⟨b, off, e, h1, range_but n h2 (by simp only at this; omega)⟩, fun k hk => by
    obtain ⟨b, off, e, h1, h2⟩ := h.ks k hk
    have := f.a2 _ e
    exact ⟨b, off, e, h1, range_but n h2 (by simp only at this; omega)⟩, fun x hx => ⟨fun k hk => by
      obtain ⟨b, off, e, h1, h2⟩ := (h.q x hx).ri k hk
      have := f.q x hx _ e
      exact ⟨b, off, e, h1, cell_but n h2 (by simp only at this; omega)⟩, (h.q x hx).le, (h.q x hx).l⟩, h.len, h.len2, h.lim, h.lim2⟩
/-- What a change leaves. -/
def ChO (V' : World) (B g : Nat) (r : List Rn × List Kn × Int) : Prop := ∃ A3 m3 c3 A4 m4 c4 L3, Blk V' g (scC A3 m3 c3 A4 m4 c4) 25 ∧ Sc V' V'.heap.size A3 m3 c3 r.1 A4 m4 c4 L3 ∧ L3.map (·.1) = r.2.1 ∧ Fro B A3 A4 L3
/-- A change: what it says (r.2.2) of a schedule of its own, and leaves (r.1, r.2.1). -/
abbrev Chg (cf : Nat) (cb : Array Value) (S : World → Prop) (o : Option Nat) (b0 b1 : Bool) (R : List Rn) (K : List Kn) (r : List Rn × List Kn × Int) : Prop :=
  ∀ (V : World) (B g : Nat) (A1 : Option Addr) (m1 c1 : Nat) (A2 : Option Addr) (m2 c2 : Nat) (L : List Kw), S V → Ob V o b0 → (∀ k, o = some k → k < B) → L.map (·.1) = K → Own V B A1 m1 c1 R A2 m2 c2 L → Blk V g (scC A1 m1 c1 A2 m2 c2) 25 → B ≤ g →
    Calls Try.prog cf (#[.pointer (some ⟨g, 0, none⟩)] ++ cb) V fun e V' => e = .returned (.int .i64 r.2.2) ∧ Bx B o V V' ∧ Ob V' o b1 ∧ (r.2.2 = 0 → ChO V' B g r)
/-- What is answered. -/
def chgS (R : List Rn) (L : List Kw) (r : List Rn × List Kn × Int) : List Rn × List Kn × Int := if scE R L = 0 then (if r.2.2 = 0 then r else ([], [], r.2.2)) else ([], [], scE R L)
/-- The schedule that is answered. -/
def ScR (w : World) (B : Nat) (v : Value) (R : List Rn) (K : List Kn) : Prop := ∃ A m c A2 m2 c2 L, v = scV A m c A2 m2 c2 ∧ Sc w w.heap.size A m c R A2 m2 c2 L ∧ L.map (·.1) = K ∧ Fro B A A2 L
theorem fro_nil (B : Nat) : Fro B none none [] := ⟨(fun a e => by cases e), (fun a e => by cases e), (fun x hx => by cases hx)⟩
theorem scR_nil (w : World) (B : Nat) : ScR w B (scV none 0 0 none 0 0) [] [] := ⟨none, 0, 0, none, 0, 0, [], rfl, sc_nil _ _ _ _ _ _, rfl, fro_nil B⟩
theorem Fro.down {B B' : Nat} {A A2 : Option Addr} {L : List Kw} (h : Fro B A A2 L) (hb : B' ≤ B) : Fro B' A A2 L := ⟨fun a e => Nat.le_trans hb (h.a a e), fun a e => Nat.le_trans hb (h.a2 a e), fun x hx a e => Nat.le_trans hb (h.q x hx a e)⟩
/-- .. kept, where a block below it turns. -/
theorem Sc.off' {w w' : World} {B g m c m2 c2 : Nat} {A A2 : Option Addr} {R : List Rn} {L : List Kw} (h : Sc w w.heap.size A m c R A2 m2 c2 L) (f : Fro B A A2 L) (n : But g w w') (hg : g < B) : Sc w' w'.heap.size A m c R A2 m2 c2 L := (h.off f n hg).more n.size
set_option maxRecDepth 100000 in
set_option maxHeartbeats 8000000 in
theorem changed_sc (cf : Nat) (cb : Array Value) (S : World → Prop) (o : Option Nat) (b0 b1 : Bool) (A : Option Addr) (m c : Nat) (R : List Rn) (A2 : Option Addr) (m2 c2 : Nat) (L : List Kw) (r : List Rn × List Kn × Int) (w : World)
    (ec : ∀ args w, (callFunc cf args).run Try.prog w = .ok (.enter cf args) w) (h : Sc w w.heap.size A m c R A2 m2 c2 L) (ho : ∀ k, o = some k → k < w.heap.size) (hob : Ob w o b0)
    (hS : ∀ V, Below w.heap.size w V → S V) (hc : scE R L = 0 → Chg cf cb S o b0 b1 R (L.map (·.1)) r) :
    Calls Try.prog 34 #[scV A m c A2 m2 c2, .func (.func cf) #[] cb] w fun e w' => ∃ v, e = .returned (.tuple #[v, .int .i64 (chgS R L r).2.2]) ∧ ScR w' w.heap.size v (chgS R L r).1 (chgS R L r).2.1 ∧ Bx w.heap.size o w w' ∧ Ob w' o (if scE R L = 0 then b1 else b0) := by
  have k1 := (Blk.new w (scC A m c A2 m2 c2) 25).alloc (.cells #[.slice none 0 0, .slice none 0 0] 25)
  have k2 : Blk ((w.alloc (.cells (scC A m c A2 m2 c2) 25)).alloc (.cells #[.slice none 0 0, .slice none 0 0] 25)) (w.heap.size + 1) (scC none 0 0 none 0 0) 25 := Blk.new_ _ _ _ (by simp)
  have B0 := ((Below.refl w.heap.size w).alloc (Nat.le_refl _) (.cells (scC A m c A2 m2 c2) 25)).alloc (by simp) (.cells #[.slice none 0 0, .slice none 0 0] 25)
  have CK := Lib.hid (check_sc A m c R A2 m2 c2 L _ (h.on B0))
  have CC := Lib.hid (fun (V : World) (hV : Below w.heap.size w V) => copied_sc A m c R A2 m2 c2 L V (h.on hV))
  have HC := Lib.hid hc
  have HO := Lib.hid ho
  have HOB := Lib.hid hob
  have HS := Lib.hid hS
  clear hc h ho hob hS
  unfold chgS
  generalize scE R L = ck at CK HC ⊢
  unfold scV at *
  by_cases h0 : ck = 0
  · subst h0
    rw [if_pos rfl, if_pos rfl]
    have HC2 := Lib.hid (HC.out rfl)
    clear HC
    generalize hG : (if r.2.2 = 0 then r else ([], [], r.2.2)) = G
    have HG := Lib.hid hG
    clear hG
    go_enter Try.func34, Try.ntmps34
    go_wp2_with (first
      | (refine wpList_load_row rfl 25 (.tmp 2) rfl w.heap.size rfl 25 (scC A m c A2 m2 c2) (0, 0) _ k1.blk Try.underlying25 rfl (sc_inf A m c A2 m2 c2) ?_)
      | (refine CK.out.mono ?_
         clear CK
         rintro e w1 ⟨rfl, bb⟩
         have k11 := k1.below bb k1.lt
         have k21 := k2.below bb k2.lt
         have B1 := B0.trans (bb.mono B0.size)
         clear bb k1 k2 B0)
      | (refine wpList_load_row rfl 25 (.tmp 2) rfl w.heap.size rfl 25 (scC A m c A2 m2 c2) (0, 0) _ k11.blk Try.underlying25 rfl (sc_inf A m c A2 m2 c2) ?_)
      | (refine (CC.out _ B1).mono ?_
         clear CC
         rintro e w2 ⟨A1, c1, A3, c3, L1, rfl, own, hnm, bb⟩
         have k22 := k21.below bb k21.lt
         have B2 := B1.trans (bb.mono B1.size)
         have hs1 : w.heap.size + 1 < w1.heap.size := k21.lt
         have hs2 : w1.heap.size ≤ w2.heap.size := bb.size
         clear bb k11 k21 B1)
      | (refine wpList_store_blk rfl 25 (.tmp 7) (.tmp 16) rfl w2.heap.size (scC none 0 0 none 0 0) (scC A1 m c1 A3 m2 c3) 25 rfl rfl (Blk.new _ _ _) rfl (sc_inf _ _ _ _ _ _) (sc_one _ _ _ _ _ _) ?_
         intro w3 k7 n7
         have bb : Below w2.heap.size w2 w3 := ((Below.refl _ w2).alloc (Nat.le_refl _) _).trans (n7.below _ (Nat.le_refl _) (by simp))
         have k23 := k22.below bb k22.lt
         have B3 := B2.trans (bb.mono B2.size)
         have own3 := own.below bb (Nat.le_refl _)
         have CF := HC2.out w3 w1.heap.size w2.heap.size A1 m c1 A3 m2 c3 L1 (HS.out _ B3) (HOB.out.below B3 HO.out) (fun k e => Nat.lt_trans (HO.out k e) (by omega)) hnm own3 k7 hs2
         clear bb k22 B2 own n7))
    refine CF.mono ?_
    clear CF HC2 own3
    rintro e w4 ⟨rfl, bx, ob, hr⟩
    have k24 : Blk w4 (w.heap.size + 1) (scC none 0 0 none 0 0) 25 := bx.blk k23 hs1 (fun e => by have := HO.out _ e.symm; omega)
    have B4 : Bx w.heap.size o w w4 := (Bx.of B3).trans (bx.mono (by omega))
    clear bx k23 B3 k7
    obtain ⟨R', K', er⟩ := r
    simp only at hr ⊢
    by_cases he : er = 0
    · subst he
      obtain rfl : (R', K', (0 : Int)) = G := HG.out
      obtain ⟨A5, m5, c5, A6, m6, c6, L5, k75, sc5, hn5, fr5⟩ := hr rfl
      clear hr
      go_wp2_with (first
        | (refine wpList_load_row rfl 25 (.tmp 7) rfl w2.heap.size rfl 25 (scC A5 m5 c5 A6 m6 c6) (0, 0) _ k75.blk Try.underlying25 rfl (sc_inf _ _ _ _ _ _) ?_)
        | (refine wpList_store_blk rfl 25 (.tmp 4) (.tmp 23) rfl (w.heap.size + 1) (scC none 0 0 none 0 0) (scC A5 m5 c5 A6 m6 c6) 25 rfl rfl k24 rfl (sc_inf _ _ _ _ _ _) (sc_one _ _ _ _ _ _) ?_
           intro w5 h5 n5))
      refine bodyPost_ret (results_row_tmp rfl _ _ (w.heap.size + 1) 25 (scC A5 m5 c5 A6 m6 c6) (0, 0) _ rfl h5.blk Try.underlying25 rfl (sc_inf _ _ _ _ _ _) _ rfl) rfl ?_
      have sc6 : Sc w5 w5.heap.size A5 m5 c5 R' A6 m6 c6 L5 := (sc5.off fr5 n5 hs1).more n5.size
      exact ⟨_, rfl, ⟨A5, m5, c5, A6, m6, c6, L5, rfl, sc6, hn5, fr5.down (by omega)⟩, B4.trans (Bx.of (n5.below _ (by omega) B4.size)), fun g e => n5.blk7 (ob g e) (by have := HO.out g e; omega)⟩
    · have hne : (er != 0) = true := by simpa using he
      obtain rfl : (([] : List Rn), ([] : List Kn), er) = G := by have := HG.out; simpa [he] using this
      clear he hr
      go_wp2_with (first
        | (refine wpList_store_blk rfl 25 (.tmp 4) (.tmp 21) rfl (w.heap.size + 1) (scC none 0 0 none 0 0) (scC none 0 0 none 0 0) 25 rfl rfl k24 rfl (sc_inf _ _ _ _ _ _) (sc_one _ _ _ _ _ _) ?_
           intro w5 h5 n5))
      refine bodyPost_ret (results_row_tmp rfl _ _ (w.heap.size + 1) 25 (scC none 0 0 none 0 0) (0, 0) _ rfl h5.blk Try.underlying25 rfl (sc_inf _ _ _ _ _ _) _ rfl) rfl ?_
      exact ⟨_, rfl, scR_nil _ _, B4.trans (Bx.of (n5.below _ (by omega) B4.size)), fun g e => n5.blk7 (ob g e) (by have := HO.out g e; omega)⟩
  · have hne : (ck != 0) = true := by simpa using h0
    rw [if_neg h0, if_neg h0]
    clear h0 HC
    go_enter Try.func34, Try.ntmps34
    go_wp2_with (first
      | (refine wpList_load_row rfl 25 (.tmp 2) rfl w.heap.size rfl 25 (scC A m c A2 m2 c2) (0, 0) _ k1.blk Try.underlying25 rfl (sc_inf A m c A2 m2 c2) ?_)
      | (refine CK.out.mono ?_
         clear CK
         rintro e w1 ⟨rfl, bb⟩
         have k21 := k2.below bb k2.lt
         have B1 := B0.trans (bb.mono B0.size)
         clear bb k1 k2 B0)
      | (refine wpList_store_blk rfl 25 (.tmp 4) (.tmp 13) rfl (w.heap.size + 1) (scC none 0 0 none 0 0) (scC none 0 0 none 0 0) 25 rfl rfl k21 rfl (sc_inf _ _ _ _ _ _) (sc_one _ _ _ _ _ _) ?_
         intro w5 h5 n5))
    refine bodyPost_ret (results_row_tmp rfl _ _ (w.heap.size + 1) 25 (scC none 0 0 none 0 0) (0, 0) _ rfl h5.blk Try.underlying25 rfl (sc_inf _ _ _ _ _ _) _ rfl) rfl ?_
    have B5 := B1.trans (n5.below _ (by omega) B1.size)
    exact ⟨_, rfl, scR_nil _ _, Bx.of B5, HOB.out.below B5 HO.out⟩
end Go.Proofs.Ytfohifnbohdbcaa

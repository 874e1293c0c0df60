/-
  steps.Stuck.
-/
import Derived.Test.YtfohifnbohdbcaaScO
namespace Go.Proofs.Ytfohifnbohdbcaa
open Go.RowKit Go.Shelf
attribute [local go_sem] Oper.semAt_some
set_option linter.unusedVariables false
set_option linter.unusedSimpArgs false

theorem results_cellv {P : Program} {fn : Func} {p : Tmp} {ty : TypeId} (h : fn.results = #[.cell p ty]) (tmps : Array Value) (w : World) (g : Nat) (v : Value)
    (hp : tmps.getD p undef = .pointer (some ⟨g, 0, none⟩)) (h2 : (loadVar ty ⟨g, 0, none⟩).run P w = .ok v w) :
    (results fn tmps).run P w = .ok v w := by
  have hp' : tmps[p]?.getD undef = .pointer (some ⟨g, 0, none⟩) := by simpa using hp
  simp [results, h, hp', asAddr, h2]
/-- Stuck's answer. -/
def stuckA (R : List Rn) (L : List Kw) : Bool := decide (scE R L = 0) && (decide (rdyF R = []) && R.any waitB)
set_option maxRecDepth 100000 in
set_option maxHeartbeats 8000000 in
theorem stuck_in (A : Option Addr) (m c : Nat) (R : List Rn) (A2 : Option Addr) (m2 c2 : Nat) (L : List Kw) (w : World) (h : Sc w w.heap.size A m c R A2 m2 c2 L) :
    CallsIn Fence.wide 6 Try.prog 29 #[scV A m c A2 m2 c2] w fun e w' => e = .returned (.bool (stuckA R L)) ∧ Below w.heap.size w w' := by
  have k1 := (Blk.new w (scC A m c A2 m2 c2) 25).alloc (.cells #[.bool false] 4)
  have k3 := Blk.new_ (w.alloc (.cells (scC A m c A2 m2 c2) 25)) #[.bool false] 4 (n := w.heap.size + 1) (by simp)
  have B0 := ((Below.refl w.heap.size w).alloc (Nat.le_refl _) (.cells (scC A m c A2 m2 c2) 25)).alloc (by simp) (.cells #[.bool false] 4)
  have CK := callsIn_wide (n := 5) |>.2 (check_sc A m c R A2 m2 c2 L _ (h.on B0))
  have HRS := Lib.hid h.rs
  have HM := Lib.hid h.len
  have h6 : m ≤ 100000 := h.lim
  have TH := fun V => callsIn_wide (n := 5) |>.2 (ready_any A m c A2 m2 c2 V)
  have AN := fun (V : World) (hV : Below w.heap.size w V) => callsIn_wide (n := 5) |>.2 (anyf_R 68 waitB (enters_of Try.func68 (by kernel_rfl) rfl) waits_sc A m c R V (h.on hV).rs h.len (by have := h.lim; omega))
  have HAN := Lib.hid AN
  obtain ⟨E, hE⟩ : ∃ E, stuckA R L = E := ⟨_, rfl⟩
  rw [hE]
  unfold stuckA at hE
  obtain ⟨ck, hck⟩ : ∃ ck, scE R L = ck := ⟨_, rfl⟩
  rw [hck] at CK hE
  clear h hck AN
  unfold scV at TH CK ⊢
  have HTH := Lib.hid TH
  clear TH
  refine callsIn_of_wp_marks Try.func29 rfl trivial ?_ rfl
  simp only [Try.ntmps29, List.size_toArray, List.length_cons, List.length_nil, Nat.reduceAdd, Nat.reduceSub, Array.replicate_succ, Array.replicate_zero, List.push_toArray, List.append_toArray, List.nil_append, List.cons_append]
  by_cases h0 : ck = 0
  · subst h0
    have HE := Lib.hid (show E = (decide (rdyF R = []) && R.any waitB) by rw [← hE]; rfl)
    clear hE
    gi_wp2_with (first
      | (refine wpListIn_load_row rfl 25 (.tmp 1) rfl w.heap.size rfl 25 (scC A m c A2 m2 c2) (0, 0) _ k1.blk Try.underlying25 rfl (sc_inf A m c A2 m2 c2) ?_)
      | (refine ⟨trivial, CK.mono ?_⟩
         clear CK
         rintro e w1 ⟨rfl, bb⟩
         have k11 := k1.below bb k1.lt
         have k31 := k3.below bb k3.lt
         have B1 := B0.trans (bb.mono B0.size)
         clear bb k1 k3 B0)
      | (refine wpListIn_load_row rfl 25 (.tmp 1) rfl w.heap.size rfl 25 (scC A m c A2 m2 c2) (0, 0) _ k11.blk Try.underlying25 rfl (sc_inf A m c A2 m2 c2) ?_))
    obtain ⟨wq, rfl⟩ : ∃ wq : World, wq = w1 := ⟨_, rfl⟩
    refine ⟨trivial, (HTH.out _).mono ?_⟩
    rintro e w1 ⟨rfl, rfl⟩
    gi_wp2
    have ba : Below wq.heap.size wq (wq.alloc (.cells (scC A m c A2 m2 c2) 25)) := (Below.refl _ _).alloc (Nat.le_refl _) _
    have kT := Blk.new wq (scC A m c A2 m2 c2) 25
    have k12 := k11.below ba k11.lt
    have k32 := k31.below ba k31.lt
    have B2 := B1.trans (ba.mono B1.size)
    have hs2 : (wq.alloc (.cells (scC A m c A2 m2 c2) 25)).heap.size = wq.heap.size + 1 := by simp
    have hg1 : w.heap.size + 1 < wq.heap.size := k31.lt
    generalize wq.alloc (.cells (scC A m c A2 m2 c2) 25) = w2 at kT k12 k32 B2 hs2 ⊢
    obtain ⟨N1, hN1⟩ : ∃ N, wq.heap.size = N := ⟨_, rfl⟩
    rw [hN1] at kT hs2 hg1 ⊢
    clear ba HTH B1 k11 k31 hN1
    have hseq := ready_seq 5 (by omega) w.heap.size N1 A m c R A2 m2 c2 w2 (HRS.out.below B2 (Nat.le_refl _)) kT HM.out (by omega) (by omega) (by omega)
    refine wpIn_rangeFunc_ownG rfl (by omega) (gf := 83) (lb := #[.pointer (some ⟨N1, 0, none⟩)]) rfl trivial (enters_of Try.func83 (by kernel_rfl) rfl) hseq (fun h k => h.trans k) (fun W l o o' hl h hc hw => ⟨(belowK_b (w := w2) (Nat.le_refl _) W l o o' hl h hc hw).mono (by omega), World.putObj_heap_other (by omega)⟩) (Below.refl _ _) (fun _ => rfl)
      (fun pre W => pre = [] ∧ (Blk W (w.heap.size + 1) #[.bool false] 4 ∧ (Blk W w.heap.size (scC A m c A2 m2 c2) 25 ∧ Below w.heap.size w W))) (fun cd pre W => (cd = .ret ∧ 0 < pre.length ∧ Blk W (w.heap.size + 1) #[.bool false] 4) ∧ Below w.heap.size w W) ?hI ?hIx ⟨rfl, k32, k12, B2⟩
      (fun x => { tmps := #[.agg (scC A m c A2 m2 c2), .pointer (some ⟨w.heap.size, 0, none⟩), .pointer (some ⟨w.heap.size + 1, 0, none⟩), .agg (scC A m c A2 m2 c2), .int .i64 0, .bool false, .agg (scC A m c A2 m2 c2), .func (.func 83) #[] #[.pointer (some ⟨N1, 0, none⟩)], .int .i64 x, undef, undef, undef], defers := [] })
      ?assign ?body ?done ?stop
    case hI => exact OwnFrom.and (Own.from (I := fun (pre : List Int) W => pre = []) (fun s A B row hs hg hr => hs) _) (OwnFrom.and (Own.from (I := fun (pre : List Int) W => Blk W (w.heap.size + 1) #[.bool false] 4) (fun s A B row hs hg hr => blk_own hs hg hr) _) (OwnFrom.and (Own.from (I := fun (pre : List Int) W => Blk W w.heap.size (scC A m c A2 m2 c2) 25) (fun s A B row hs hg hr => blk_own hs hg hr) _) (ownFrom_below (by omega) B2.size)))
    case hIx => exact fun cd => OwnFrom.and (Own.from (fun s A B row hs hg hr => ⟨hs.1, hs.2.1, blk_own hs.2.2 hg hr⟩) _) (ownFrom_below (by omega) B2.size)
    case assign =>
      intro l x W K hK
      gi_wp2
      refine (congrArg (fun t => K { tmps := t, defers := [] } W) ?_).mpr hK
      simp
    case body =>
      rintro lp pre x W ⟨hp, k3, k1, hB⟩ hpl
      have q3 : W.cell? ⟨w.heap.size + 1, 0, none⟩ = some (.bool false) := k3.cell 0
      have f3 := k3.frozen 0
      gi_wp2
      have bS : But (w.heap.size + 1) W (W.setCell ⟨w.heap.size + 1, 0, none⟩ (.bool false)) := (But.refl _ W).setCell (p := ⟨w.heap.size + 1, 0, none⟩) (.inl rfl) _
      exact ⟨keeps_butT bS k3, ⟨rfl, by simp, k3.set_ 0 (.bool false)⟩, hB.trans (bS.below _ (by omega) hB.size)⟩
    case done =>
      rintro D xs W hD hS ⟨hp, k3, k1, hB⟩ hK
      subst hp
      have HE2 := Lib.hid (show E = R.any waitB by rw [HE.out, ← hS]; rfl)
      have q1 : W.cell? ⟨w.heap.size, 0, none⟩ = some (.slice A m c) := k1.cell 0
      have HKD := Lib.hid hK
      have hAN := HAN.out W hB
      rw [← HE2.out] at hAN
      clear hseq kT k12 k32 B2 hK hS HAN
      gi_wp2
      refine ⟨trivial, hAN.mono ?_⟩
      clear hAN
      rintro e V ⟨rfl, bb⟩
      have k33 := k3.below bb k3.lt
      have q3 : V.cell? ⟨w.heap.size + 1, 0, none⟩ = some (.bool false) := k33.cell 0
      have f3 := k33.frozen 0
      have BV := hB.trans (bb.mono hB.size)
      have hDW : D < W.heap.size := (Array.getElem?_eq_some_iff.1 HKD.out).1
      have hKV : V.heap[D]? = some (.deferred (some [])) := (bb.block D hDW).trans HKD.out
      have HKV := Lib.hid hKV
      clear hKV q1
      gi_wp2
      have bS : But (w.heap.size + 1) V (V.setCell ⟨w.heap.size + 1, 0, none⟩ (.bool E)) := (But.refl _ V).setCell (p := ⟨w.heap.size + 1, 0, none⟩) (.inl rfl) _
      have k34 := k33.set_ 0 (.bool E)
      have B3 := BV.trans (bS.below _ (by omega) BV.size)
      have hK6 : (V.setCell ⟨w.heap.size + 1, 0, none⟩ (.bool E)).heap[D]? = some (.deferred (some [])) := (KeepsOthers.setCell V _ _).same D _ HKV.out rfl
      generalize V.setCell ⟨w.heap.size + 1, 0, none⟩ (.bool E) = V6 at k34 B3 hK6 ⊢
      have hg3 := grownBy_putObj' V6 D (.deferred none)
      have hr3 : ∀ r, some D = some r → ∃ o : Obj, V6.heap[r]? = some o ∧ o.isCells = false := fun r e => by cases e; exact ⟨_, hK6, rfl⟩
      refine ⟨by simp, .inl ⟨_, _, rfl, run_takeDeferred hK6, ?_⟩⟩
      refine ⟨_, results_cellv rfl _ _ (w.heap.size + 1) _ rfl (bool_load _ _ _ _ (blk_own k34 hg3 hr3)), ?_⟩
      exact ⟨rfl, B3.trans (belowK_b (w := w) (Nat.le_refl _) V6 D _ _ (by omega) hK6 rfl rfl)⟩
    case stop =>
      rintro D cd pre W hD hpre ⟨⟨rfl, hpl, k3⟩, hB⟩ hK
      have hne : rdyF R ≠ [] := fun e => by
        rw [e] at hpre
        have h9 : pre.length ≤ 0 := hpre.length_le
        omega
      have HE2 := Lib.hid (show E = false by rw [HE.out, decide_eq_false hne]; rfl)
      have hg3 := grownBy_putObj' W D (.deferred none)
      have hr3 : ∀ r, some D = some r → ∃ o : Obj, W.heap[r]? = some o ∧ o.isCells = false := fun r e => by cases e; exact ⟨_, hK, rfl⟩
      gi_wp2
      refine ⟨by simp, .inl ⟨_, _, rfl, run_takeDeferred hK, ?_⟩⟩
      refine ⟨_, results_cellv rfl _ _ (w.heap.size + 1) _ rfl (bool_load _ _ _ _ (blk_own k3 hg3 hr3)), ?_⟩
      exact ⟨by rw [HE2.out], hB.trans (belowK_b (w := w) (Nat.le_refl _) W D _ _ (by omega) hK rfl rfl)⟩
  · have hne : (ck != 0) = true := by simpa using h0
    have hr : E = false := by rw [← hE, decide_eq_false h0]; rfl
    have HR := Lib.hid hr
    clear h0 hE hr
    gi_wp2_with (first
      | (refine wpListIn_load_row rfl 25 (.tmp 1) rfl w.heap.size rfl 25 (scC A m c A2 m2 c2) (0, 0) _ k1.blk Try.underlying25 rfl (sc_inf A m c A2 m2 c2) ?_)
      | (refine ⟨trivial, CK.mono ?_⟩
         clear CK
         rintro e w1 ⟨rfl, bb⟩
         have k31 := k3.below bb k3.lt
         have q3 : w1.cell? ⟨w.heap.size + 1, 0, none⟩ = some (.bool false) := k31.cell 0
         have f3 := k31.frozen 0
         have B1 := B0.trans (bb.mono B0.size)
         clear bb k1 k3 B0))
    have bS : But (w.heap.size + 1) w1 (w1.setCell ⟨w.heap.size + 1, 0, none⟩ (.bool false)) := (But.refl _ w1).setCell (p := ⟨w.heap.size + 1, 0, none⟩) (.inl rfl) _
    refine ⟨_, results_cellv rfl _ _ (w.heap.size + 1) _ rfl (bool_load _ _ _ _ (k31.set_ 0 (.bool false))), ?_⟩
    exact ⟨by rw [HR.out], B1.trans (bS.below _ (by omega) B1.size)⟩
theorem stuck_sc (A : Option Addr) (m c : Nat) (R : List Rn) (A2 : Option Addr) (m2 c2 : Nat) (L : List Kw) (w : World) (h : Sc w w.heap.size A m c R A2 m2 c2 L) :
    Calls Try.prog 29 #[scV A m c A2 m2 c2] w fun e w' => e = .returned (.bool (stuckA R L)) ∧ Below w.heap.size w w' :=
  (callsIn_wide (n := 6)).1 (stuck_in A m c R A2 m2 c2 L w h)
end Go.Proofs.Ytfohifnbohdbcaa

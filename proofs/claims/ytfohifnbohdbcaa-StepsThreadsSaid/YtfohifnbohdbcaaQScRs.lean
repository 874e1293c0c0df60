/-
  The reference's Ready, Same.
-/
import Derived.Test.YtfohifnbohdbcaaQScRf
namespace Go.Proofs.Ytfohifnbohdbcaa
open Go.RowKit Go.Shelf
attribute [local go_sem] Oper.semAt_some
set_option linter.unusedVariables false
set_option linter.unusedSimpArgs false
theorem yieldsIf_mid {P : Program} {ops : Array Oper} {S : World → Prop} {o : Oper} {a : Act} (hw : Region.wanted o (yielded ops a.tmps) = true) (ty : TypeId) (x : Operand) (ho : o.op = .load ty x)
    (g off : Nat) (hx : a.eval x = .pointer (some ⟨g, off, none⟩)) (cs : Array Value) (d : TypeDesc) (hS : ∀ w, S w → w.rangeAt g off cs.toList)
    (hu : P.underlying ty = some d) (hd : d.isRow = true) (hi : (P.info? ty).map (·.size) = some cs.toList.length) : YieldsIf P ops S o (.agg cs) a :=
  .inl ⟨hw, fun w hs => by
    have hr := run_loadVar_mid w g off ty cs.toList d (hS w hs) hu hd hi
    rw [Array.toArray_toList] at hr
    unfold execOp
    simp only [ho, hx, Instr.loadAt, Instr.sureAddr, Sem.run_bind, Sem.run_pure, Result.andThen_ok, hr]⟩
def eqL : List Kw → List Kw → Bool
  | [], [] => true
  | x :: l, y :: k => eqK x y && eqL l k
  | _, _ => false
theorem eqL_iff : ∀ {l k : List Kw}, eqL l k = true ↔ l.map (·.1) = k.map (·.1)
  | [], [] => by simp [eqL]
  | [], y :: k => by simp [eqL]
  | x :: l, [] => by simp [eqL]
  | x :: l, y :: k => by rw [eqL, Bool.and_eq_true, eqK_iff, eqL_iff, List.map_cons, List.map_cons, List.cons.injEq]
theorem eqL_dec (l k : List Kw) : eqL l k = decide (l.map (·.1) = k.map (·.1)) := by
  rw [Bool.eq_iff_iff, eqL_iff, decide_eq_true_iff]
theorem eqL_drop {l p : List Kw} {k : Nat} (h : k < l.length) (h' : k < p.length) : eqL (l.drop k) (p.drop k) = (eqK (l.getD k kw0) (p.getD k kw0) && eqL (l.drop (k + 1)) (p.drop (k + 1))) := by
  rw [List.drop_eq_getElem_cons h, List.drop_eq_getElem_cons h', eqL]
  simp [List.getD, h, h']
structure WS (w : World) (A : Option Addr) (m c : Nat) (A2 : Option Addr) (m2 c2 : Nat) (B : Option Addr) (n d : Nat) (B2 : Option Addr) (n2 d2 : Nat) (V : World) : Prop where
  b : Below w.heap.size w V
  k : Blk V w.heap.size (scC A m c A2 m2 c2) 25
  l : Blk V (w.heap.size + 1) (scC B n d B2 n2 d2) 25
theorem WS.step {w V V' : World} {A : Option Addr} {m c : Nat} {A2 : Option Addr} {m2 c2 : Nat} {B : Option Addr} {n d : Nat} {B2 : Option Addr} {n2 d2 : Nat} (h : WS w A m c A2 m2 c2 B n d B2 n2 d2 V) (b : Below V.heap.size V V') : WS w A m c A2 m2 c2 B n d B2 n2 d2 V' := ⟨h.b.trans (b.mono h.b.size), h.k.below b h.k.lt, h.l.below b h.l.lt⟩
set_option maxRecDepth 100000 in
set_option maxHeartbeats 8000000 in
theorem rsame_sc (A : Option Addr) (m c : Nat) (R : List Rn) (A2 : Option Addr) (m2 c2 : Nat) (L : List Kw) (B : Option Addr) (n d : Nat) (R2 : List Rn) (B2 : Option Addr) (n2 d2 : Nat) (L2 : List Kw) (w : World) (h : Sc w w.heap.size A m c R A2 m2 c2 L) (h2 : Sc w w.heap.size B n d R2 B2 n2 d2 L2) :
    Calls Try.prog 17 #[scV A m c A2 m2 c2, scV B n d B2 n2 d2] w fun e w' => e = .returned (.bool (sameS R R2 L L2)) ∧ Below w.heap.size w w' := by
  have J0 : WS w A m c A2 m2 c2 B n d B2 n2 d2 ((w.alloc (.cells (scC A m c A2 m2 c2) 25)).alloc (.cells (scC B n d B2 n2 d2) 25)) := ⟨((Below.refl w.heap.size w).alloc (Nat.le_refl _) _).alloc (by simp) _, (Blk.new w _ _).alloc _, Blk.new_ _ _ _ (by simp)⟩
  have q0 : _ = some (Value.slice A m c) := J0.k.cell 0
  have q1 : _ = some (Value.slice A2 m2 c2) := J0.k.cell 1
  have p0 : _ = some (Value.slice B n d) := J0.l.cell 0
  have p1 : _ = some (Value.slice B2 n2 d2) := J0.l.cell 1
  have HS := Lib.hid h
  have HS2 := Lib.hid h2
  have HM := Lib.hid h.len
  have HM2 := Lib.hid h.len2
  have HN := Lib.hid h2.len
  have HN2 := Lib.hid h2.len2
  have hl1 := h.lim
  have hl2 := h.lim2
  obtain ⟨E, hE⟩ : ∃ E, sameS R R2 L L2 = E := ⟨_, rfl⟩
  rw [hE]
  unfold sameS at hE
  rw [← eqL_dec] at hE
  clear h h2
  unfold scV
  by_cases hmn : m = n
  · subst hmn
    have hf : ((m : Int) != (m : Int)) = false := by simp
    by_cases hmn2 : m2 = n2
    · subst hmn2
      have hf2 : ((m2 : Int) != (m2 : Int)) = false := by simp
      have HE := Lib.hid (show E = (eqR (R.drop 0) (R2.drop 0) && eqL L L2) by rw [List.drop_zero, List.drop_zero, hE])
      clear hE
      go_enter Try.func17, Try.ntmps17
      go_wp2_with fail
      clear q0 q1 p0 p1
      go_loopw [5] (fun i wr' => ∃ (k : Nat) (wr : World), wr = wr' ∧ k ≤ m ∧ i = .int .i64 k ∧ Hid (E = (eqR (R.drop k) (R2.drop k) && eqL L L2)) ∧ WS w A m c A2 m2 c2 B m d B2 m2 d2 wr) (fun i _ => m - (intOf i).toNat)
      case atStart => exact ⟨0, _, rfl, Nat.zero_le _, rfl, HE, J0⟩
      case round =>
        clear J0 HE
        obtain ⟨k, wr, hwr, hk, rfl, HI, J⟩ := hrel
        subst hwr
        have q0 : wr.cell? ⟨w.heap.size, 0, none⟩ = some (.slice A m c) := J.k.cell 0
        by_cases hlt : k < m
        · have hlt' : (k : Int) < (m : Int) := by omega
          have hkl : k < R.length := by have := HM.out; omega
          have hkl2 : k < R2.length := by have := HN.out; omega
          obtain ⟨b, off, hA, hb, hc⟩ := HS.out.rs k hkl
          obtain ⟨b2, off2, hB2, hb2, hc2⟩ := HS2.out.rs k hkl2
          have hI := HI.out
          rw [eqR_drop hkl hkl2] at hI
          clear HI hkl hkl2
          subst hA
          subst hB2
          generalize R.getD k rn0 = x at hc hI
          generalize R2.getD k rn0 = y at hc2 hI
          obtain ⟨sb, hsb⟩ : ∃ sb, sameR x y = sb := ⟨_, rfl⟩
          rw [hsb] at hI
          have HSB := Lib.hid hsb
          have HI := Lib.hid hI
          clear hI hsb
          have Jd := J.step (Below.refl _ _).drew
          go_wp2_with fail
          have hne : Nonempty (Sig (WS w (some ⟨b, off, none⟩) m c A2 m2 c2 (some ⟨b2, off2, none⟩) m d B2 m2 d2)) := ⟨⟨_, Jd⟩⟩
          refine region_class (S := WS w (some ⟨b, off, none⟩) m c A2 m2 c2 (some ⟨b2, off2, none⟩) m d B2 m2 d2) (by kernel_rfl) (by kernel_rfl) Jd ?_
          have c0 : ∀ s : Sig (WS w (some ⟨b, off, none⟩) m c A2 m2 c2 (some ⟨b2, off2, none⟩) m d B2 m2 d2), s.V.cell? ⟨w.heap.size, 0, none⟩ = some (.slice (some ⟨b, off, none⟩) m c) := fun s => s.h.k.cell 0
          have d0 : ∀ s : Sig (WS w (some ⟨b, off, none⟩) m c A2 m2 c2 (some ⟨b2, off2, none⟩) m d B2 m2 d2), s.V.cell? ⟨w.heap.size + 1, 0, none⟩ = some (.slice (some ⟨b2, off2, none⟩) m d) := fun s => s.h.l.cell 0
          clear q0 J
          try simp only [Act.put]
          repeat (first
            | (refine class_load_mid (by rfl) 52 (.tmp 35) rfl b (off + k * 3) rfl (rnC x).toList _ (fun _ h => range_below3 hc h.b hb) Try.underlying52 rfl (rn_infL x) ?_; simp only [Act.put, List.setIfInBounds_toArray, List.set_cons_zero, List.set_cons_succ])
            | (refine class_load_mid (by rfl) 52 (.tmp 40) rfl b2 (off2 + k * 3) rfl (rnC y).toList _ (fun _ h => range_below3 hc2 h.b hb2) Try.underlying52 rfl (rn_infL y) ?_; simp only [Act.put, List.setIfInBounds_toArray, List.set_cons_zero, List.set_cons_succ])
            | (refine class_neq_rn (by rfl) (.tmp 36) (.tmp 41) rfl x y rfl rfl _ HSB.out ?_; simp only [Act.put, List.setIfInBounds_toArray, List.set_cons_zero, List.set_cons_succ])
            | go_big_quiet_step (fail))
          refine wpQuiet_nil ?_
          rintro _ ⟨s7, rfl⟩
          have J7 := s7.h
          clear Jd hne c0 d0
          cases sb
          · have HIB := Lib.hid (show E = false by rw [HI.out]; rfl)
            go_wp2_with fail
            go_ret
            exact ⟨by rw [HIB.out]; rfl, J7.b⟩
          · go_wp2_with fail
            go_roundw
            case rel => exact ⟨k + 1, _, rfl, by omega, by go_num, Lib.hid (by rw [HI.out]; rfl), J7⟩
            case measure => simp [intOf]; omega
        · obtain rfl : m = k := by omega
          have hI := HI.out
          rw [List.drop_of_length_le (by have := HM.out; omega), List.drop_of_length_le (by have := HN.out; omega)] at hI
          have HI1 := Lib.hid (show E = eqL (L.drop 0) (L2.drop 0) by rw [hI, List.drop_zero, List.drop_zero]; rfl)
          clear hI HI
          go_wp2_with fail
          clear q0
          go_loopw [6] (fun i wr' => ∃ (k : Nat) (wq : World), wq = wr' ∧ k ≤ m2 ∧ i = .int .i64 k ∧ Hid (E = eqL (L.drop k) (L2.drop k)) ∧ WS w A m c A2 m2 c2 B m d B2 m2 d2 wq) (fun i _ => m2 - (intOf i).toNat)
          case atStart => exact ⟨0, _, rfl, Nat.zero_le _, rfl, HI1, J⟩
          case round =>
            clear J HI1
            obtain ⟨k, wq, hwq, hk, rfl, HI, J⟩ := hrel
            subst hwq
            have q1 : wq.cell? ⟨w.heap.size, 1, none⟩ = some (.slice A2 m2 c2) := J.k.cell 1
            by_cases hlt : k < m2
            · have hlt' : (k : Int) < (m2 : Int) := by omega
              have hkl : k < L.length := by have := HM2.out; omega
              have hkl2 : k < L2.length := by have := HN2.out; omega
              obtain ⟨b, off, hA, hb, hc⟩ := HS.out.ks k hkl
              obtain ⟨b2, off2, hB2, hb2, hc2⟩ := HS2.out.ks k hkl2
              have hqx := HS.out.q' hkl
              have hqy := HS2.out.q' hkl2
              have hI := HI.out
              rw [eqL_drop hkl hkl2] at hI
              clear HI hkl hkl2
              subst hA
              subst hB2
              generalize L.getD k kw0 = x at hc hI hqx
              generalize L2.getD k kw0 = y at hc2 hI hqy
              have SI := Lib.hid (fun (V : World) (hV : Below w.heap.size w V) => sameInts_rf x.2.1 x.1.q.length x.2.2 x.1.q y.2.1 y.1.q.length y.2.2 y.1.q V ((hqx.ri.below hV (Nat.le_refl _)).more hV.size) rfl hqx.l ((hqy.ri.below hV (Nat.le_refl _)).more hV.size) rfl)
              unfold eqK at hI
              clear hqx hqy
              have Jd := J.step (Below.refl _ _).drew
              go_wp2_with fail
              clear q1
              try simp only [Act.put]
              refine region_cutP ?_
              refine wp_region_held_drew (S := WS w A m c (some ⟨b, off, none⟩) m2 c2 B m d (some ⟨b2, off2, none⟩) m2 d2) (by kernel_rfl) Jd (fun _ => ?_)
              refine wpAnyH_take (i := 0) (v := .pointer (some ⟨w.heap.size, 1, none⟩)) rfl (by kernel_rfl) (by kernel_rfl) (by kernel_rfl) (fun _ _ _ h => nomatch h.1) (.inl ⟨by rfl, fun V hV => by go_simp⟩) Jd ?_
              try simp only [Act.put, List.getElem_toArray, List.getElem_cons_zero, List.getElem_cons_succ, List.setIfInBounds_toArray, List.set_cons_zero, List.set_cons_succ]
              refine wpAnyH_take (i := 1) (v := .slice (some ⟨b, off, none⟩) m2 c2) rfl (by kernel_rfl) (by kernel_rfl) (by kernel_rfl) (fun _ _ _ h => nomatch h.1) (.inl ⟨by rfl, fun V hV => by have c2 : V.cell? ⟨w.heap.size, 1, none⟩ = some (.slice (some ⟨b, off, none⟩) m2 c2) := hV.k.cell 1; go_simp⟩) Jd ?_
              try simp only [Act.put, List.getElem_toArray, List.getElem_cons_zero, List.getElem_cons_succ, List.setIfInBounds_toArray, List.set_cons_zero, List.set_cons_succ]
              refine wpAnyH_take (i := 2) (v := .int .i64 k) rfl (by kernel_rfl) (by kernel_rfl) (by kernel_rfl) (fun _ _ _ h => nomatch h.1) (.inl ⟨by rfl, fun V hV => by go_simp⟩) Jd ?_
              try simp only [Act.put, List.getElem_toArray, List.getElem_cons_zero, List.getElem_cons_succ, List.setIfInBounds_toArray, List.set_cons_zero, List.set_cons_succ]
              refine wpAnyH_take (i := 3) (v := .pointer (some ⟨b, off + k * 3, none⟩)) rfl (by kernel_rfl) (by kernel_rfl) (by kernel_rfl) (fun _ _ _ h => nomatch h.1) (.inl ⟨by rfl, fun V hV => by go_simp⟩) Jd ?_
              try simp only [Act.put, List.getElem_toArray, List.getElem_cons_zero, List.getElem_cons_succ, List.setIfInBounds_toArray, List.set_cons_zero, List.set_cons_succ]
              refine wpAnyH_take (i := 4) (v := .agg (kwC x)) rfl (by kernel_rfl) (by kernel_rfl) (by kernel_rfl) (fun _ _ _ h => nomatch h.1) (yieldsIf_mid (by rfl) 48 (.tmp 53) rfl b (off + k * 3) rfl (kwC x) _ (fun _ h => range_below3 hc h.b hb) Try.underlying48 rfl (kw_infL x)) Jd ?_
              try simp only [Act.put, List.getElem_toArray, List.getElem_cons_zero, List.getElem_cons_succ, List.setIfInBounds_toArray, List.set_cons_zero, List.set_cons_succ]
              refine wpAnyH_take (i := 5) (v := .pointer (some ⟨w.heap.size + 1, 1, none⟩)) rfl (by kernel_rfl) (by kernel_rfl) (by kernel_rfl) (fun _ _ _ h => nomatch h.1) (.inl ⟨by rfl, fun V hV => by go_simp⟩) Jd ?_
              try simp only [Act.put, List.getElem_toArray, List.getElem_cons_zero, List.getElem_cons_succ, List.setIfInBounds_toArray, List.set_cons_zero, List.set_cons_succ]
              refine wpAnyH_take (i := 6) (v := .slice (some ⟨b2, off2, none⟩) m2 d2) rfl (by kernel_rfl) (by kernel_rfl) (by kernel_rfl) (fun _ _ _ h => nomatch h.1) (.inl ⟨by rfl, fun V hV => by have c2 : V.cell? ⟨w.heap.size + 1, 1, none⟩ = some (.slice (some ⟨b2, off2, none⟩) m2 d2) := hV.l.cell 1; go_simp⟩) Jd ?_
              try simp only [Act.put, List.getElem_toArray, List.getElem_cons_zero, List.getElem_cons_succ, List.setIfInBounds_toArray, List.set_cons_zero, List.set_cons_succ]
              refine wpAnyH_take (i := 7) (v := .int .i64 k) rfl (by kernel_rfl) (by kernel_rfl) (by kernel_rfl) (fun _ _ _ h => nomatch h.1) (.inl ⟨by rfl, fun V hV => by go_simp⟩) Jd ?_
              try simp only [Act.put, List.getElem_toArray, List.getElem_cons_zero, List.getElem_cons_succ, List.setIfInBounds_toArray, List.set_cons_zero, List.set_cons_succ]
              refine wpAnyH_take (i := 8) (v := .pointer (some ⟨b2, off2 + k * 3, none⟩)) rfl (by kernel_rfl) (by kernel_rfl) (by kernel_rfl) (fun _ _ _ h => nomatch h.1) (.inl ⟨by rfl, fun V hV => by go_simp⟩) Jd ?_
              try simp only [Act.put, List.getElem_toArray, List.getElem_cons_zero, List.getElem_cons_succ, List.setIfInBounds_toArray, List.set_cons_zero, List.set_cons_succ]
              refine wpAnyH_take (i := 9) (v := .agg (kwC y)) rfl (by kernel_rfl) (by kernel_rfl) (by kernel_rfl) (fun _ _ _ h => nomatch h.1) (yieldsIf_mid (by rfl) 48 (.tmp 58) rfl b2 (off2 + k * 3) rfl (kwC y) _ (fun _ h => range_below3 hc2 h.b hb2) Try.underlying48 rfl (kw_infL y)) Jd ?_
              try simp only [Act.put, List.getElem_toArray, List.getElem_cons_zero, List.getElem_cons_succ, List.setIfInBounds_toArray, List.set_cons_zero, List.set_cons_succ]
              have hWz : wq.heap.size ≤ wq.drew.heap.size := Nat.le_refl _
              generalize wq.drew = W0 at Jd hWz ⊢
              refine wpAnyH_ready (rs := [10, 11]) (by kernel_rfl) (by simp) ?_
              refine AllReadyH.cons rfl (fun K hK => ?_) (AllReadyH.cons rfl (fun K hK => ?_) AllReadyH.nil)
              · try simp only [Act.put, List.getElem_toArray, List.getElem_cons_zero, List.getElem_cons_succ, List.setIfInBounds_toArray, List.set_cons_zero, List.set_cons_succ]
                go_simp
                have KA := Blk.new W0 (kwC kw0) 48
                have ba : Below W0.heap.size W0 (W0.alloc (.cells (kwC kw0) 48)) := (Below.refl _ _).alloc (Nat.le_refl _) _
                have J1 := Jd.step ba
                have hsA : (W0.alloc (.cells (kwC kw0) 48)).heap.size = W0.heap.size + 1 := by simp
                refine hK.out _ _ J1 (fun _ => ?_)
                clear hK K
                try simp only [Act.put, List.getElem_toArray, List.getElem_cons_zero, List.getElem_cons_succ, List.setIfInBounds_toArray, List.set_cons_zero, List.set_cons_succ]
                refine wpAnyH_ready (rs := [11]) (by kernel_rfl) (by simp) ?_
                refine AllReadyH.cons rfl (fun K hK => ?_) AllReadyH.nil
                try simp only [Act.put, List.getElem_toArray, List.getElem_cons_zero, List.getElem_cons_succ, List.setIfInBounds_toArray, List.set_cons_zero, List.set_cons_succ]
                go_simp
                have KBn := Blk.new_ (W0.alloc (.cells (kwC kw0) 48)) (kwC kw0) 48 hsA
                have KA2 := KA.alloc (.cells (kwC kw0) 48)
                have ba2 : Below W0.heap.size W0 ((W0.alloc (.cells (kwC kw0) 48)).alloc (.cells (kwC kw0) 48)) := ((Below.refl _ _).alloc (Nat.le_refl _) _).alloc (by simp) _
                have J2 := Jd.step ba2
                have hsB : W0.heap.size + 2 ≤ ((W0.alloc (.cells (kwC kw0) 48)).alloc (.cells (kwC kw0) 48)).heap.size := by simp
                show K _ ((W0.alloc (.cells (kwC kw0) 48)).alloc (.cells (kwC kw0) 48))
                generalize (W0.alloc (.cells (kwC kw0) 48)).alloc (.cells (kwC kw0) 48) = W2 at KBn KA2 J2 hsB ⊢
                clear J1 KA ba ba2 hsA
                refine hK.out _ _ J2 (fun _ => ?_)
                clear hK K
                try simp only [Act.put, List.getElem_toArray, List.getElem_cons_zero, List.getElem_cons_succ, List.setIfInBounds_toArray, List.set_cons_zero, List.set_cons_succ]
                have hgx : W0.heap.size ≤ W0.heap.size := by omega
                have hgy : W0.heap.size ≤ (W0.heap.size + 1) := by omega
                refine wpAnyH_ready (rs := [12]) (by kernel_rfl) (by simp) ?_
                refine AllReadyH.cons rfl (fun K hK => ?_) AllReadyH.nil
                try simp only [Act.put, List.getElem_toArray, List.getElem_cons_zero, List.getElem_cons_succ, List.setIfInBounds_toArray, List.set_cons_zero, List.set_cons_succ]
                try rw [if_pos (by rfl)]
                refine wp_store_blk 48 (.tmp 7) (.tmp 54) rfl W0.heap.size (kwC kw0) (kwC x) 48 rfl rfl KA2 rfl (kw_inf _) (kw_one _) ?_
                intro J3_w k3 n9
                have J3 : WS w A m c (some ⟨b, off, none⟩) m2 c2 B m d (some ⟨b2, off2, none⟩) m2 d2 J3_w := ⟨J2.b.trans (n9.below _ (by have := Jd.l.lt; have := Jd.b.size; omega) J2.b.size), n9.blk7 J2.k (by have := Jd.k.lt; omega), n9.blk7 J2.l (by have := Jd.l.lt; omega)⟩
                have o3 := n9.blk7 KBn (by omega)
                refine hK.out _ _ J3 (fun _ => ?_)
                clear hK K
                try simp only [Act.put, List.getElem_toArray, List.getElem_cons_zero, List.getElem_cons_succ, List.setIfInBounds_toArray, List.set_cons_zero, List.set_cons_succ]
                refine wpAnyH_ready (rs := [13]) (by kernel_rfl) (by simp) ?_
                refine AllReadyH.cons rfl (fun K hK => ?_) AllReadyH.nil
                try simp only [Act.put, List.getElem_toArray, List.getElem_cons_zero, List.getElem_cons_succ, List.setIfInBounds_toArray, List.set_cons_zero, List.set_cons_succ]
                try simp only [Act.put, List.getElem_toArray, List.getElem_cons_zero, List.getElem_cons_succ, List.setIfInBounds_toArray, List.set_cons_zero, List.set_cons_succ]
                try rw [if_pos (by rfl)]
                refine wp_store_blk 48 (.tmp 8) (.tmp 59) rfl (W0.heap.size + 1) (kwC kw0) (kwC y) 48 rfl rfl o3 rfl (kw_inf _) (kw_one _) ?_
                intro J4_w k4 n9
                have J4 : WS w A m c (some ⟨b, off, none⟩) m2 c2 B m d (some ⟨b2, off2, none⟩) m2 d2 J4_w := ⟨J3.b.trans (n9.below _ (by have := Jd.l.lt; have := Jd.b.size; omega) J3.b.size), n9.blk7 J3.k (by have := Jd.k.lt; omega), n9.blk7 J3.l (by have := Jd.l.lt; omega)⟩
                have o4 := n9.blk7 k3 (by omega)
                refine hK.out _ _ J4 (fun _ => ?_)
                clear hK K
                try simp only [Act.put, List.getElem_toArray, List.getElem_cons_zero, List.getElem_cons_succ, List.setIfInBounds_toArray, List.set_cons_zero, List.set_cons_succ]
                refine wpAnyH_done (by kernel_rfl) ?_ _
                refine ⟨rfl, ?_⟩
                have q60 : J4_w.cell? ⟨W0.heap.size, 0, none⟩ = some (.int .i64 x.1.n) := o4.cell 0
                have q61 : J4_w.cell? ⟨W0.heap.size, 1, none⟩ = some (.int .i64 x.1.o) := o4.cell 1
                have q62 : J4_w.cell? ⟨W0.heap.size, 2, none⟩ = some (.slice x.2.1 x.1.q.length x.2.2) := o4.cell 2
                have p60 : J4_w.cell? ⟨(W0.heap.size + 1), 0, none⟩ = some (.int .i64 y.1.n) := k4.cell 0
                have p61 : J4_w.cell? ⟨(W0.heap.size + 1), 1, none⟩ = some (.int .i64 y.1.o) := k4.cell 1
                have p62 : J4_w.cell? ⟨(W0.heap.size + 1), 2, none⟩ = some (.slice y.2.1 y.1.q.length y.2.2) := k4.cell 2
                have SJ := SI.out _ J4.b
                obtain ⟨sb, hsb⟩ : ∃ s, (x.1.q == y.1.q) = s := ⟨_, rfl⟩
                rw [hsb] at SJ hI
                clear hsb SI
                cases e1 : (x.1.n == y.1.n)
                · have e1' : (x.1.n != y.1.n) = true := by simpa using e1
                  have HIB := Lib.hid (show E = false by rw [hI, e1]; rfl)
                  clear hI SJ
                  go_wp2_with fail
                  go_ret
                  exact ⟨by rw [HIB.out]; rfl, J4.b⟩
                · have e1' : (x.1.n != y.1.n) = false := by simpa using e1
                  cases e2 : (x.1.o == y.1.o)
                  · have e2' : (x.1.o != y.1.o) = true := by simpa using e2
                    have HIB := Lib.hid (show E = false by rw [hI, e1, e2]; rfl)
                    clear hI SJ
                    go_wp2_with fail
                    go_ret
                    exact ⟨by rw [HIB.out]; rfl, J4.b⟩
                  · have e2' : (x.1.o != y.1.o) = false := by simpa using e2
                    have HIB := Lib.hid (show E = (sb && eqL (L.drop (k + 1)) (L2.drop (k + 1))) by rw [hI, e1, e2]; rfl)
                    clear hI
                    cases sb
                    · go_wp2_with (refine SJ.mono ?_
                                   clear SJ
                                   rintro e w9 ⟨rfl, bb⟩
                                   have J9 := J4.step bb)
                      go_ret
                      exact ⟨by rw [HIB.out]; rfl, J9.b⟩
                    · go_wp2_with (refine SJ.mono ?_
                                   clear SJ
                                   rintro e w9 ⟨rfl, bb⟩
                                   have J9 := J4.step bb)
                      go_roundw
                      case rel => exact ⟨k + 1, _, rfl, by omega, by go_num, Lib.hid (by rw [HIB.out]; rfl), J9⟩
                      case measure => simp [intOf]; omega
              · try simp only [Act.put, List.getElem_toArray, List.getElem_cons_zero, List.getElem_cons_succ, List.setIfInBounds_toArray, List.set_cons_zero, List.set_cons_succ]
                go_simp
                have KA := Blk.new W0 (kwC kw0) 48
                have ba : Below W0.heap.size W0 (W0.alloc (.cells (kwC kw0) 48)) := (Below.refl _ _).alloc (Nat.le_refl _) _
                have J1 := Jd.step ba
                have hsA : (W0.alloc (.cells (kwC kw0) 48)).heap.size = W0.heap.size + 1 := by simp
                refine hK.out _ _ J1 (fun _ => ?_)
                clear hK K
                try simp only [Act.put, List.getElem_toArray, List.getElem_cons_zero, List.getElem_cons_succ, List.setIfInBounds_toArray, List.set_cons_zero, List.set_cons_succ]
                refine wpAnyH_ready (rs := [10]) (by kernel_rfl) (by simp) ?_
                refine AllReadyH.cons rfl (fun K hK => ?_) AllReadyH.nil
                try simp only [Act.put, List.getElem_toArray, List.getElem_cons_zero, List.getElem_cons_succ, List.setIfInBounds_toArray, List.set_cons_zero, List.set_cons_succ]
                go_simp
                have KBn := Blk.new_ (W0.alloc (.cells (kwC kw0) 48)) (kwC kw0) 48 hsA
                have KA2 := KA.alloc (.cells (kwC kw0) 48)
                have ba2 : Below W0.heap.size W0 ((W0.alloc (.cells (kwC kw0) 48)).alloc (.cells (kwC kw0) 48)) := ((Below.refl _ _).alloc (Nat.le_refl _) _).alloc (by simp) _
                have J2 := Jd.step ba2
                have hsB : W0.heap.size + 2 ≤ ((W0.alloc (.cells (kwC kw0) 48)).alloc (.cells (kwC kw0) 48)).heap.size := by simp
                show K _ ((W0.alloc (.cells (kwC kw0) 48)).alloc (.cells (kwC kw0) 48))
                generalize (W0.alloc (.cells (kwC kw0) 48)).alloc (.cells (kwC kw0) 48) = W2 at KBn KA2 J2 hsB ⊢
                clear J1 KA ba ba2 hsA
                refine hK.out _ _ J2 (fun _ => ?_)
                clear hK K
                try simp only [Act.put, List.getElem_toArray, List.getElem_cons_zero, List.getElem_cons_succ, List.setIfInBounds_toArray, List.set_cons_zero, List.set_cons_succ]
                have hgx : W0.heap.size ≤ (W0.heap.size + 1) := by omega
                have hgy : W0.heap.size ≤ W0.heap.size := by omega
                refine wpAnyH_ready (rs := [12]) (by kernel_rfl) (by simp) ?_
                refine AllReadyH.cons rfl (fun K hK => ?_) AllReadyH.nil
                try simp only [Act.put, List.getElem_toArray, List.getElem_cons_zero, List.getElem_cons_succ, List.setIfInBounds_toArray, List.set_cons_zero, List.set_cons_succ]
                try rw [if_pos (by rfl)]
                refine wp_store_blk 48 (.tmp 7) (.tmp 54) rfl (W0.heap.size + 1) (kwC kw0) (kwC x) 48 rfl rfl KBn rfl (kw_inf _) (kw_one _) ?_
                intro J3_w k3 n9
                have J3 : WS w A m c (some ⟨b, off, none⟩) m2 c2 B m d (some ⟨b2, off2, none⟩) m2 d2 J3_w := ⟨J2.b.trans (n9.below _ (by have := Jd.l.lt; have := Jd.b.size; omega) J2.b.size), n9.blk7 J2.k (by have := Jd.k.lt; omega), n9.blk7 J2.l (by have := Jd.l.lt; omega)⟩
                have o3 := n9.blk7 KA2 (by omega)
                refine hK.out _ _ J3 (fun _ => ?_)
                clear hK K
                try simp only [Act.put, List.getElem_toArray, List.getElem_cons_zero, List.getElem_cons_succ, List.setIfInBounds_toArray, List.set_cons_zero, List.set_cons_succ]
                refine wpAnyH_ready (rs := [13]) (by kernel_rfl) (by simp) ?_
                refine AllReadyH.cons rfl (fun K hK => ?_) AllReadyH.nil
                try simp only [Act.put, List.getElem_toArray, List.getElem_cons_zero, List.getElem_cons_succ, List.setIfInBounds_toArray, List.set_cons_zero, List.set_cons_succ]
                try simp only [Act.put, List.getElem_toArray, List.getElem_cons_zero, List.getElem_cons_succ, List.setIfInBounds_toArray, List.set_cons_zero, List.set_cons_succ]
                try rw [if_pos (by rfl)]
                refine wp_store_blk 48 (.tmp 8) (.tmp 59) rfl W0.heap.size (kwC kw0) (kwC y) 48 rfl rfl o3 rfl (kw_inf _) (kw_one _) ?_
                intro J4_w k4 n9
                have J4 : WS w A m c (some ⟨b, off, none⟩) m2 c2 B m d (some ⟨b2, off2, none⟩) m2 d2 J4_w := ⟨J3.b.trans (n9.below _ (by have := Jd.l.lt; have := Jd.b.size; omega) J3.b.size), n9.blk7 J3.k (by have := Jd.k.lt; omega), n9.blk7 J3.l (by have := Jd.l.lt; omega)⟩
                have o4 := n9.blk7 k3 (by omega)
                refine hK.out _ _ J4 (fun _ => ?_)
                clear hK K
                try simp only [Act.put, List.getElem_toArray, List.getElem_cons_zero, List.getElem_cons_succ, List.setIfInBounds_toArray, List.set_cons_zero, List.set_cons_succ]
                refine wpAnyH_done (by kernel_rfl) ?_ _
                refine ⟨rfl, ?_⟩
                have q60 : J4_w.cell? ⟨(W0.heap.size + 1), 0, none⟩ = some (.int .i64 x.1.n) := o4.cell 0
                have q61 : J4_w.cell? ⟨(W0.heap.size + 1), 1, none⟩ = some (.int .i64 x.1.o) := o4.cell 1
                have q62 : J4_w.cell? ⟨(W0.heap.size + 1), 2, none⟩ = some (.slice x.2.1 x.1.q.length x.2.2) := o4.cell 2
                have p60 : J4_w.cell? ⟨W0.heap.size, 0, none⟩ = some (.int .i64 y.1.n) := k4.cell 0
                have p61 : J4_w.cell? ⟨W0.heap.size, 1, none⟩ = some (.int .i64 y.1.o) := k4.cell 1
                have p62 : J4_w.cell? ⟨W0.heap.size, 2, none⟩ = some (.slice y.2.1 y.1.q.length y.2.2) := k4.cell 2
                have SJ := SI.out _ J4.b
                obtain ⟨sb, hsb⟩ : ∃ s, (x.1.q == y.1.q) = s := ⟨_, rfl⟩
                rw [hsb] at SJ hI
                clear hsb SI
                cases e1 : (x.1.n == y.1.n)
                · have e1' : (x.1.n != y.1.n) = true := by simpa using e1
                  have HIB := Lib.hid (show E = false by rw [hI, e1]; rfl)
                  clear hI SJ
                  go_wp2_with fail
                  go_ret
                  exact ⟨by rw [HIB.out]; rfl, J4.b⟩
                · have e1' : (x.1.n != y.1.n) = false := by simpa using e1
                  cases e2 : (x.1.o == y.1.o)
                  · have e2' : (x.1.o != y.1.o) = true := by simpa using e2
                    have HIB := Lib.hid (show E = false by rw [hI, e1, e2]; rfl)
                    clear hI SJ
                    go_wp2_with fail
                    go_ret
                    exact ⟨by rw [HIB.out]; rfl, J4.b⟩
                  · have e2' : (x.1.o != y.1.o) = false := by simpa using e2
                    have HIB := Lib.hid (show E = (sb && eqL (L.drop (k + 1)) (L2.drop (k + 1))) by rw [hI, e1, e2]; rfl)
                    clear hI
                    cases sb
                    · go_wp2_with (refine SJ.mono ?_
                                   clear SJ
                                   rintro e w9 ⟨rfl, bb⟩
                                   have J9 := J4.step bb)
                      go_ret
                      exact ⟨by rw [HIB.out]; rfl, J9.b⟩
                    · go_wp2_with (refine SJ.mono ?_
                                   clear SJ
                                   rintro e w9 ⟨rfl, bb⟩
                                   have J9 := J4.step bb)
                      go_roundw
                      case rel => exact ⟨k + 1, _, rfl, by omega, by go_num, Lib.hid (by rw [HIB.out]; rfl), J9⟩
                      case measure => simp [intOf]; omega
            · obtain rfl : m2 = k := by omega
              have hI := HI.out
              rw [List.drop_of_length_le (by have := HM2.out; omega), List.drop_of_length_le (by have := HN2.out; omega)] at hI
              have HI1 := Lib.hid (show E = true by rw [hI]; rfl)
              clear hI HI
              go_wp2_with fail
              go_ret
              exact ⟨by rw [HI1.out]; rfl, J.b⟩
    · have hf2 : ((m2 : Int) != (n2 : Int)) = true := by simp; omega
      have hr : E = false := by
        rw [← hE]
        have : eqL L L2 = false := by
          rw [eqL_dec, decide_eq_false_iff_not]
          intro e
          have := congrArg List.length e
          simp only [List.length_map] at this
          exact hmn2 (by rw [HM2.out, HN2.out, this])
        rw [this, Bool.and_false]
      have HR := Lib.hid hr
      clear hr hE hmn2
      go_enter Try.func17, Try.ntmps17
      go_wp2_with fail
      go_ret
      exact ⟨by rw [HR.out]; rfl, J0.b⟩
  · have hf : ((m : Int) != (n : Int)) = true := by simp; omega
    have hr : E = false := by
      rw [← hE, eqR_len (by rw [← HM.out, ← HN.out]; exact hmn), Bool.false_and]
    have HR := Lib.hid hr
    clear hr hE hmn
    go_enter Try.func17, Try.ntmps17
    go_wp2_with fail
    go_ret
    exact ⟨by rw [HR.out]; rfl, J0.b⟩
end Go.Proofs.Ytfohifnbohdbcaa

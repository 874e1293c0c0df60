/-
  chain.Same.
-/
import Derived.Test.YtelfdpcenplhjaaGreatDoorQCkN
import Derived.Test.YtelfdpcenplhjaaGreatDoorQHE
import Derived.ChangeKeysEq
import Derived.Laws.StructEq
import Derived.Test.YtelfdpcenplhjaaGreatDoorQJC
namespace Go.Proofs.YtelfdpcenplhjaaGreatDoor
open Go.RowKit Go.Shelf
set_option linter.unusedVariables false
set_option linter.unusedSimpArgs false
theorem eqF_consI7 {P : Program} {d : Nat} {xs ys : Array Value} {f : Field} {fs : List Field} {w : World} {a b : Value} {r r' : Bool} (hn : f.name ≠ "_") (ha : (part f.type xs f.offset).run P w = .ok a w) (hb : (part f.type ys f.offset).run P w = .ok b w)
    (hr : (Op.equalIn d f.type a b).run P w = .ok r w) (hf : (Op.eqFields d xs ys fs).run P w = .ok r' w) : (Op.eqFields d xs ys (f :: fs)).run P w = .ok (r && r') w := by
  simp only [Op.eqFields, hn, ne_eq, not_false_eq_true, if_true, Sem.run_bind, ha, hb, hr, Result.andThen_ok]
  cases r <;> simp [hf]
theorem ins_fields7 : (Tryz.prog.fieldsOf 111).toList = [⟨"Code", 65, 0, false, "", "", 0⟩, ⟨"Jt", 5, 1, false, "", "", 2⟩, ⟨"Jf", 5, 2, false, "", "", 3⟩, ⟨"K", 61, 3, false, "", "", 4⟩] := by kernel_rfl
theorem run_eqIn_ins7 (d : Nat) (a b : Ins) (w : World) : (Op.equalIn (d + 2) 111 (.agg (celI a).toArray) (.agg (celI b).toArray)).run Tryz.prog w = .ok (decide (a = b)) w := by
  rw [run_equalIn_struct w (d + 1) 111 _ _ (by kernel_rfl) (by kernel_rfl), ins_fields7]
  have h0 := run_equalIn_int w d 65 .u16 .u16 a.1 b.1 Tryz.underlying65
  have h1 := run_equalIn_int w d 5 .u8 .u8 a.2.1 b.2.1 Tryz.underlying5
  have h2 := run_equalIn_int w d 5 .u8 .u8 a.2.2.1 b.2.2.1 Tryz.underlying5
  have h3 := run_equalIn_int w d 61 .u32 .u32 a.2.2.2 b.2.2.2 Tryz.underlying61
  have hz : (Op.eqFields (d + 1) (celI a).toArray (celI b).toArray []).run Tryz.prog w = .ok true w := by simp [Op.eqFields]
  have e := eqF_consI7 (f := ⟨"Code", 65, 0, false, "", "", 0⟩) (by decide) (run_part_plain w (v := .int .u16 a.1) (by kernel_rfl) rfl) (run_part_plain w (v := .int .u16 b.1) (by kernel_rfl) rfl) h0
    (eqF_consI7 (f := ⟨"Jt", 5, 1, false, "", "", 2⟩) (by decide) (run_part_plain w (v := .int .u8 a.2.1) (by kernel_rfl) rfl) (run_part_plain w (v := .int .u8 b.2.1) (by kernel_rfl) rfl) h1
    (eqF_consI7 (f := ⟨"Jf", 5, 2, false, "", "", 3⟩) (by decide) (run_part_plain w (v := .int .u8 a.2.2.1) (by kernel_rfl) rfl) (run_part_plain w (v := .int .u8 b.2.2.1) (by kernel_rfl) rfl) h2
    (eqF_consI7 (f := ⟨"K", 61, 3, false, "", "", 4⟩) (by decide) (run_part_plain w (v := .int .u32 a.2.2.2) (by kernel_rfl) rfl) (run_part_plain w (v := .int .u32 b.2.2.2) (by kernel_rfl) rfl) h3 hz)))
  have eb : (a.1 == b.1 && (a.2.1 == b.2.1 && (a.2.2.1 == b.2.2.1 && (a.2.2.2 == b.2.2.2 && true)))) = decide (a = b) := by
    obtain ⟨k, v, x, y⟩ := a
    obtain ⟨k', v', x', y'⟩ := b
    rw [Bool.eq_iff_iff]
    simp
  rw [e, eb]
theorem list_gF {g h : List Ins} (hl : g.length = h.length) (ha : ∀ k, k < g.length → gF g k = gF h k) : g = h := by
  refine List.ext_getElem hl fun k h1 h2 => ?_
  have := ha k h1
  simpa [gF, List.getD, h1, h2] using this
set_option maxRecDepth 100000 in
set_option maxHeartbeats 4000000 in
theorem eqI_any (A : Option Addr) (c : Nat) (g : List Ins) (A2 : Option Addr) (c2 : Nat) (h : List Ins) (w : World) (hA : Ri w w.heap.size A g.length (gF g)) (hA2 : Ri w w.heap.size A2 h.length (gF h)) (hc : g.length ≤ c) (hc2 : h.length ≤ c2) (hl : g.length ≤ 1000000000) (hl2 : h.length ≤ 1000000000) :
    Calls Tryz.prog 79 #[.slice A g.length c, .slice A2 h.length c2] w fun e w' => e = .returned (.bool (decide (g = h))) ∧ Below w.heap.size w w' := by
  have B0 := Below.refl w.heap.size w
  obtain ⟨b, hb⟩ : ∃ b, decide (g = h) = b := ⟨_, rfl⟩
  have HB := Lib.hid hb
  rw [hb]
  clear hb
  by_cases hll : g.length = h.length
  · have hf : ((g.length : Int) != (h.length : Int)) = false := by simp; omega
    have HLL := Lib.hid hll
    obtain ⟨m, hm⟩ : ∃ m, g.length = m := ⟨_, rfl⟩
    obtain ⟨m2, hm2⟩ : ∃ m, h.length = m := ⟨_, rfl⟩
    rw [hm] at hA hc hl hf ⊢
    rw [hm2] at hA2 hc2 hl2 hf ⊢
    have HM := Lib.hid hm
    have HM2 := Lib.hid hm2
    have hmm : m2 = m := by omega
    subst hmm
    clear hll hm hm2
    go_enter Tryz.func79, Tryz.ntmps79
    go_wp2_with fail
    go_loopw [13] (fun i wr' => ∃ (k : Nat) (wr : World), wr = wr' ∧ Below w.heap.size w wr ∧ k ≤ m2 ∧ i = .int .i64 k ∧ Hid (∀ j, j < k → gF g j = gF h j)) (fun i _ => m2 - (intOf i).toNat)
    case atStart => exact ⟨0, _, rfl, B0, Nat.zero_le _, rfl, Lib.hid (fun j hj => absurd hj (Nat.not_lt_zero j))⟩
    case round =>
      clear B0
      obtain ⟨k, wr, hwr, hB, hk, rfl, hall⟩ := hrel
      subst hwr
      by_cases hlt : k < m2
      · have hlt' : (k : Int) < (m2 : Int) := by omega
        obtain ⟨b1, o1, rfl, hb1, ⟨p0, p1, p2, p3⟩, _⟩ := hA.below hB (Nat.le_refl _) k hlt
        obtain ⟨b2, o2, rfl, hb2, ⟨q0, q1, q2, q3⟩, _⟩ := hA2.below hB (Nat.le_refl _) k hlt
        have hG := Lib.hid (show gF g k = gF g k from rfl)
        obtain ⟨x, hx⟩ : ∃ x, gF g k = x := ⟨_, rfl⟩
        obtain ⟨y, hy⟩ : ∃ y, gF h k = y := ⟨_, rfl⟩
        rw [hx] at p0 p1 p2 p3
        rw [hy] at q0 q1 q2 q3
        have HX := Lib.hid hx
        have HY := Lib.hid hy
        clear hx hy hG
        have heq : ∀ W, (Op.equalIn 10000 111 (.agg (celI x).toArray) (.agg (celI y).toArray)).run Tryz.prog W = .ok (decide (x = y)) W := fun W => run_eqIn_ins7 9998 x y W
        obtain ⟨xe, hxe⟩ : ∃ xe, decide (x = y) = xe := ⟨_, rfl⟩
        simp only [hxe, celI] at heq
        have HXE := Lib.hid hxe
        clear hxe
        cases xe
        · go_wp2_with fail
          go_region
          go_wp2_with fail
          go_ret
          refine ⟨?_, hB.drew⟩
          have : b = false := by
            rw [← HB.out, decide_eq_false_iff_not]
            rintro rfl
            have := of_decide_eq_false HXE.out
            exact this (HX.out.symm.trans HY.out)
          rw [this]
          rfl
        · go_wp2_with fail
          go_region
          go_wp2_with fail
          go_roundw
          case rel =>
            refine ⟨k + 1, _, rfl, hB.drew, by omega, by go_num, Lib.hid (fun j hj => ?_)⟩
            rcases Nat.lt_succ_iff_lt_or_eq.1 hj with h | rfl
            · exact hall.out j h
            · rw [HX.out, HY.out]; exact of_decide_eq_true HXE.out
          case measure => simp [intOf]; omega
      · obtain rfl : k = m2 := by omega
        go_wp2_with fail
        go_ret
        refine ⟨?_, hB⟩
        have : b = true := by
          rw [← HB.out, decide_eq_true_iff]
          exact list_gF HLL.out (by rw [HM.out]; exact hall.out)
        rw [this]
        rfl
  · have hf : ((g.length : Int) != (h.length : Int)) = true := by simp; omega
    have HLL := Lib.hid hll
    clear hll
    go_enter Tryz.func79, Tryz.ntmps79
    go_wp2_with fail
    go_ret
    refine ⟨?_, B0⟩
    have : b = false := by
      rw [← HB.out, decide_eq_false_iff_not]
      rintro rfl
      exact HLL.out rfl
    rw [this]
    rfl
end Go.Proofs.YtelfdpcenplhjaaGreatDoor
namespace Go.Proofs.YtelfdpcenplhjaaGreatDoor
open Go.RowKit Go.Shelf
set_option linter.unusedVariables false
set_option linter.unusedSimpArgs false
structure SR (w V : World) (x y : Nl) : Prop where
  k1 : Blk V w.heap.size (ndC x) 46
  k2 : Blk V (w.heap.size + 1) (ndC y) 46
  old : Below w.heap.size w V
theorem SR.below {w V V' : World} {x y : Nl} (h : SR w V x y) (hb : Below V.heap.size V V') : SR w V' x y := ⟨h.k1.below hb h.k1.lt, h.k2.below hb h.k2.lt, h.old.trans (hb.mono h.old.size)⟩
def sameB (x y : Nm) : Bool := x.i == y.i && x.p == y.p && decide (x.g = y.g) && x.z == y.z && x.k == y.k && x.o == y.o && x.t == y.t
set_option maxRecDepth 100000 in
set_option maxHeartbeats 8000000 in
theorem sameRow_any (x y : Nl) (w : World) (hx : Nr w w.heap.size x) (hy : Nr w w.heap.size y) :
    Calls Tryz.prog 58 #[ndV x, ndV y] w fun e w' => e = .returned (.bool (sameB x.1 y.1)) ∧ Below w.heap.size w w' := by
  have k1 := (Blk.new w (ndC x) 46).alloc (.cells (ndC y) 46)
  have k2 := Blk.new_ (w.alloc (.cells (ndC x) 46)) (ndC y) 46 (n := w.heap.size + 1) (by simp)
  have B0 := ((Below.refl w.heap.size w).alloc (Nat.le_refl _) (.cells (ndC x) 46)).alloc (by simp) (.cells (ndC y) 46)
  have J0 : SR w _ x y := ⟨k1, k2, B0⟩
  have he := fun (V : World) (hV : SR w V x y) => eqI_any x.2.1 x.2.2 x.1.g y.2.1 y.2.2 y.1.g V ((hx.ri.below hV.old (Nat.le_refl _)).more hV.old.size) ((hy.ri.below hV.old (Nat.le_refl _)).more hV.old.size) hx.le hy.le hx.ok.l hy.ok.l
  have HSB : Hid (sameB x.1 y.1 = (x.1.i == y.1.i && x.1.p == y.1.p && decide (x.1.g = y.1.g) && x.1.z == y.1.z && x.1.k == y.1.k && x.1.o == y.1.o && x.1.t == y.1.t)) := Lib.hid rfl
  obtain ⟨b, hb⟩ : ∃ b, sameB x.1 y.1 = b := ⟨_, rfl⟩
  obtain ⟨eg, heg⟩ : ∃ eg, decide (x.1.g = y.1.g) = eg := ⟨_, rfl⟩
  simp only [heg] at he
  rw [heg, hb] at HSB
  rw [hb]
  clear heg hb
  have f0 : _ = some (Value.int .i64 x.1.i) := k1.cell 0
  have f1 : _ = some (Value.int .i64 x.1.p) := k1.cell 1
  have f2 : _ = some (Value.slice x.2.1 x.1.g.length x.2.2) := k1.cell 2
  have g0 : _ = some (Value.int .i64 y.1.i) := k2.cell 0
  have g1 : _ = some (Value.int .i64 y.1.p) := k2.cell 1
  have g2 : _ = some (Value.slice y.2.1 y.1.g.length y.2.2) := k2.cell 2
  clear k1 k2
  obtain ⟨e0, h0⟩ : ∃ e, (x.1.i == y.1.i) = e := ⟨_, rfl⟩
  obtain ⟨e1, h1⟩ : ∃ e, (x.1.p == y.1.p) = e := ⟨_, rfl⟩
  obtain ⟨e3, h3⟩ : ∃ e, (x.1.z == y.1.z) = e := ⟨_, rfl⟩
  obtain ⟨e4, h4⟩ : ∃ e, (x.1.k == y.1.k) = e := ⟨_, rfl⟩
  obtain ⟨e5, h5⟩ : ∃ e, (x.1.o == y.1.o) = e := ⟨_, rfl⟩
  obtain ⟨e6, h6⟩ : ∃ e, (x.1.t == y.1.t) = e := ⟨_, rfl⟩
  rw [h0, h1, h3, h4, h5, h6] at HSB
  unfold ndV
  go_enter Tryz.func58, Tryz.ntmps58
  cases e0
  · have HB : Hid (b = false) := Lib.hid (by rw [HSB.out]; simp)
    go_wp2_with fail
    go_ret
    exact ⟨by rw [HB.out]; rfl, B0⟩
  · cases e1
    · have HB : Hid (b = false) := Lib.hid (by rw [HSB.out]; simp)
      go_wp2_with fail
      go_ret
      exact ⟨by rw [HB.out]; rfl, B0⟩
    · go_wp2_with fail
      refine (he _ J0).mono ?_
      rintro e w1 ⟨rfl, bb⟩
      have J1 := J0.below bb
      have f3 : _ = some (Value.int .i64 x.1.z) := J1.k1.cell 3
      have f4 : _ = some (Value.int .i64 x.1.k) := J1.k1.cell 4
      have f5 : _ = some (Value.int .u64 x.1.o) := J1.k1.cell 5
      have f6 : _ = some (Value.int .u64 x.1.t) := J1.k1.cell 6
      have g3 : _ = some (Value.int .i64 y.1.z) := J1.k2.cell 3
      have g4 : _ = some (Value.int .i64 y.1.k) := J1.k2.cell 4
      have g5 : _ = some (Value.int .u64 y.1.o) := J1.k2.cell 5
      have g6 : _ = some (Value.int .u64 y.1.t) := J1.k2.cell 6
      have B1 := J1.old
      clear J1 J0 bb he B0 f0 f1 f2 g0 g1 g2
      cases eg
      · have HB : Hid (b = false) := Lib.hid (by rw [HSB.out]; simp)
        go_wp2_with fail
        go_ret
        exact ⟨by rw [HB.out]; rfl, B1⟩
      · cases e3
        · have HB : Hid (b = false) := Lib.hid (by rw [HSB.out]; simp)
          go_wp2_with fail
          go_ret
          exact ⟨by rw [HB.out]; rfl, B1⟩
        · cases e4
          · have HB : Hid (b = false) := Lib.hid (by rw [HSB.out]; simp)
            go_wp2_with fail
            go_ret
            exact ⟨by rw [HB.out]; rfl, B1⟩
          · cases e5
            · have HB : Hid (b = false) := Lib.hid (by rw [HSB.out]; simp)
              go_wp2_with fail
              go_ret
              exact ⟨by rw [HB.out]; rfl, B1⟩
            · cases e6
              · have HB : Hid (b = false) := Lib.hid (by rw [HSB.out]; simp)
                go_wp2_with fail
                go_ret
                exact ⟨by rw [HB.out]; rfl, B1⟩
              · have HB : Hid (b = true) := Lib.hid (by rw [HSB.out]; simp)
                go_wp2_with fail
                go_ret
                exact ⟨by rw [HB.out]; rfl, B1⟩
end Go.Proofs.YtelfdpcenplhjaaGreatDoor
namespace Go.Proofs.YtelfdpcenplhjaaGreatDoor
open Go.RowKit Go.Shelf
set_option linter.unusedVariables false
set_option linter.unusedSimpArgs false
def EqR (L M : List Nl) (m m2 : Nat) (b : Bool) : Prop := b = true ↔ m = m2 ∧ ∀ k, k < m → sameB (L.getD k nl0).1 (M.getD k nl0).1 = true
set_option maxRecDepth 100000 in
set_option maxHeartbeats 4000000 in
theorem eqF_any (A : Option Addr) (m c : Nat) (L : List Nl) (A2 : Option Addr) (m2 c2 : Nat) (M : List Nl) (w : World) (hP : Po w w.heap.size A L) (hP2 : Po w w.heap.size A2 M) (hm : m = L.length) (hm2 : m2 = M.length) (hmc : m ≤ c) (hmc2 : m2 ≤ c2) (h6 : m ≤ 1000000) (h62 : m2 ≤ 1000000) :
    Calls Tryz.prog 57 #[.slice A m c, .slice A2 m2 c2, .func (.func 58) #[] #[]] w fun e w' => ∃ b, e = .returned (.bool b) ∧ EqR L M m m2 b ∧ Below w.heap.size w w' := by
  have B0 := Below.refl w.heap.size w
  have ec := enters_of Tryz.func58 (by kernel_rfl) rfl
  have HM := Lib.hid hm
  have HM2 := Lib.hid hm2
  clear hm hm2
  by_cases hll : m = m2
  · subst hll
    have hf : ((m : Int) != (m : Int)) = false := by simp
    go_enter Tryz.func57, Tryz.ntmps57
    go_wp2_with fail
    go_loopw [17] (fun i wr' => ∃ (k : Nat) (wr : World), wr = wr' ∧ k ≤ m ∧ i = .int .i64 k ∧ Hid (∀ j, j < k → sameB (L.getD j nl0).1 (M.getD j nl0).1 = true) ∧ Below w.heap.size w wr) (fun i _ => m - (intOf i).toNat)
    case atStart => exact ⟨0, _, rfl, Nat.zero_le _, rfl, Lib.hid (fun j hj => absurd hj (Nat.not_lt_zero j)), B0⟩
    case round =>
      clear B0
      obtain ⟨k, wr, hwr, hk, rfl, hall, hB⟩ := hrel
      subst hwr
      by_cases hlt : k < m
      · have hlt' : (k : Int) < (m : Int) := by omega
        have hkl : k < L.length := by have := HM.out; omega
        have hkm : k < M.length := by have := HM2.out; omega
        obtain ⟨b, off, rfl, hb, hc⟩ := (hP.below hB (Nat.le_refl _)).at_ k hkl
        obtain ⟨b2, off2, rfl, hb2, hc2⟩ := (hP2.below hB (Nat.le_refl _)).at_ k hkm
        have hx0 : Nr w w.heap.size (L.getD k nl0) := by
          rw [show L.getD k nl0 = L[k] by simp [List.getD, hkl]]
          exact hP.nr _ (List.getElem_mem hkl)
        have hy0 : Nr w w.heap.size (M.getD k nl0) := by
          rw [show M.getD k nl0 = M[k] by simp [List.getD, hkm]]
          exact hP2.nr _ (List.getElem_mem hkm)
        obtain ⟨x, hx⟩ : ∃ x, L.getD k nl0 = x := ⟨_, rfl⟩
        obtain ⟨y, hy⟩ : ∃ y, M.getD k nl0 = y := ⟨_, rfl⟩
        rw [hx] at hc hx0
        rw [hy] at hc2 hy0
        have HX := Lib.hid hx
        have HY := Lib.hid hy
        clear hx hy hkl hkm
        have hs2 : (ndC x).size = 7 := nd_size x
        have hs3 : (ndC y).size = 7 := nd_size y
        go_wp2_with (first
          | (refine wpList_load_mid rfl 46 (.tmp 20) rfl b (off + k * 7) rfl (ndC x).toList _ hc Tryz.underlying46 rfl (nd_infL x) ?_)
          | (refine wpList_store_blk rfl 46 (.tmp 8) (.tmp 21) rfl wr.heap.size (ndC nl0) (ndC x) 46 rfl rfl (Blk.new _ _ _) rfl (nd_inf x) (nd_one x) ?_
             intro w1 h1 n1
             have bb : Below wr.heap.size wr w1 := ((Below.refl _ wr).alloc (Nat.le_refl _) _).trans (n1.below _ (Nat.le_refl _) (by simp))
             have hB1 := hB.trans (bb.mono hB.size)
             have hc3 := range_below hc2 bb (Nat.lt_of_lt_of_le hb2 hB.size)
             clear bb n1 hc hc2)
          | (refine wpList_load_mid rfl 46 (.tmp 24) rfl b2 (off2 + k * 7) rfl (ndC y).toList _ hc3 Tryz.underlying46 rfl (nd_infL y) ?_)
          | (refine wpList_store_blk rfl 46 (.tmp 9) (.tmp 25) rfl w1.heap.size (ndC nl0) (ndC y) 46 rfl rfl (Blk.new _ _ _) rfl (nd_inf y) (nd_one y) ?_
             intro w2 h2 n2
             have bb : Below w1.heap.size w1 w2 := ((Below.refl _ w1).alloc (Nat.le_refl _) _).trans (n2.below _ (Nat.le_refl _) (by simp))
             have hB2 := hB1.trans (bb.mono hB1.size)
             have h12 := h1.below bb h1.lt
             clear bb n2 hc3 h1 hB1)
          | (refine wpList_load_row rfl 46 (.tmp 8) rfl wr.heap.size rfl 46 (ndC x) (0, 0) _ h12.blk Tryz.underlying46 rfl (nd_inf x) ?_)
          | (refine wpList_load_row rfl 46 (.tmp 9) rfl w1.heap.size rfl 46 (ndC y) (0, 0) _ h2.blk Tryz.underlying46 rfl (nd_inf y) ?_))
        refine (sameRow_any x y w2 ((hx0.below hB2 (Nat.le_refl _)).more hB2.size) ((hy0.below hB2 (Nat.le_refl _)).more hB2.size)).mono ?_
        rintro e w3 ⟨rfl, bb⟩
        have hB3 := hB2.trans (bb.mono hB2.size)
        clear bb hB2 h2 h12
        obtain ⟨sb, hsb⟩ : ∃ sb, sameB x.1 y.1 = sb := ⟨_, rfl⟩
        have HSB := Lib.hid hsb
        rw [hsb]
        clear hsb
        cases sb
        · go_wp2_with fail
          go_ret
          refine ⟨false, rfl, ⟨fun h => absurd h (by decide), fun h => ?_⟩, hB3⟩
          have := h.2 k hlt
          rw [HX.out, HY.out, HSB.out] at this
          cases this
        · go_wp2_with fail
          go_roundw
          case rel =>
            refine ⟨k + 1, _, rfl, by omega, by go_num, Lib.hid (fun j hj => ?_), hB3⟩
            rcases Nat.lt_succ_iff_lt_or_eq.1 hj with h | rfl
            · exact hall.out j h
            · rw [HX.out, HY.out]; exact HSB.out
          case measure => simp [intOf]; omega
      · obtain rfl : k = m := by omega
        go_wp2_with fail
        go_ret
        exact ⟨true, rfl, ⟨fun _ => ⟨rfl, hall.out⟩, fun _ => rfl⟩, hB⟩
  · have hf : ((m : Int) != (m2 : Int)) = true := by simp; omega
    have HLL := Lib.hid hll
    clear hll
    go_enter Tryz.func57, Tryz.ntmps57
    go_wp2_with fail
    go_ret
    exact ⟨false, rfl, ⟨fun h => absurd h (by decide), fun h => absurd h.1 HLL.out⟩, B0⟩
set_option maxRecDepth 100000 in
set_option maxHeartbeats 4000000 in
theorem same_any (A : Option Addr) (m c : Nat) (L : List Nl) (A2 : Option Addr) (m2 c2 : Nat) (M : List Nl) (w : World) (hP : Po w w.heap.size A L) (hP2 : Po w w.heap.size A2 M) (hm : m = L.length) (hm2 : m2 = M.length) (hmc : m ≤ c) (hmc2 : m2 ≤ c2) (h6 : m ≤ 1000000) (h62 : m2 ≤ 1000000) :
    Calls Tryz.prog 21 #[poV A m c, poV A2 m2 c2] w fun e w' => ∃ b, e = .returned (.bool b) ∧ EqR L M m m2 b ∧ Below w.heap.size w w' := by
  have k1 := (Boxed.new w 24 (.slice A m c)).alloc (.cells #[.slice A2 m2 c2] 24)
  have k2 := Boxed.new (w.alloc (.cells #[.slice A m c] 24)) 24 (.slice A2 m2 c2)
  rw [World.size_alloc] at k2
  have B0 := ((Below.refl w.heap.size w).alloc (Nat.le_refl _) (.cells #[.slice A m c] 24)).alloc (by simp) (.cells #[.slice A2 m2 c2] 24)
  have EF := eqF_any A m c L A2 m2 c2 M _ ((hP.below B0 (Nat.le_refl _)).more B0.size) ((hP2.below B0 (Nat.le_refl _)).more B0.size) hm hm2 hmc hmc2 h6 h62
  have HEF := Lib.hid EF
  clear EF hm hm2
  have q1 := k1.cell
  have q2 := k2.cell
  unfold poV
  go_enter Tryz.func21, Tryz.ntmps21
  go_wp2_with fail
  refine HEF.out.mono ?_
  rintro e w1 ⟨b, rfl, hr, bb⟩
  have HR := Lib.hid hr
  have b1 := B0.trans (bb.mono B0.size)
  clear hr bb B0 HEF q1 q2 k1 k2
  go_wp2_with fail
  go_ret
  exact ⟨b, rfl, HR.out, b1⟩
end Go.Proofs.YtelfdpcenplhjaaGreatDoor

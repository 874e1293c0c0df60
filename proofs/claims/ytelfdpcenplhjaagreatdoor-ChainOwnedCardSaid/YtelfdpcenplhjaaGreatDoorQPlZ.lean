/-
  chain.sameRow.
-/
import Derived.Test.YtelfdpcenplhjaaGreatDoorQDatN
import Derived.Test.YtelfdpcenplhjaaGreatDoorQJO
import Derived.Test.YtelfdpcenplhjaaGreatDoorQJL
import Derived.Test.YtelfdpcenplhjaaGreatDoorQJC
import Derived.Test.YtelfdpcenplhjaaGreatDoorQJD
import Derived.Test.YtelfdpcenplhjaaGreatDoorQCkN
import Derived.Test.YtelfdpcenplhjaaGreatDoorQHE
import Derived.ChangeKeysEq
import Derived.Laws.StructEq
namespace Go.Proofs.YtelfdpcenplhjaaGreatDoor
open Go.RowKit Go.Shelf
set_option linter.unusedVariables false
set_option linter.unusedSimpArgs false
theorem flatN_set7 (x : Nl) : ∀ (L : List Nl) (k : Nat), k < L.length → (flatN L).take (k * 7) ++ (ndC x).toList ++ (flatN L).drop (k * 7 + 7) = flatN (L.set k x)
  | [], k, h => absurd h (by simp)
  | y :: L, 0, _ => by
    rw [List.set_cons_zero, flatN_cons, flatN_cons]
    rfl
  | y :: L, k + 1, h => by
    have ih := flatN_set7 x L k (by simpa using h)
    rw [List.set_cons_succ, flatN_cons, flatN_cons, ← ih, List.take_append, List.drop_append, ndL_len, List.take_of_length_le (by rw [ndL_len]; omega), List.drop_of_length_le (by rw [ndL_len]; omega), show (k + 1) * 7 - 7 = k * 7 by omega, show (k + 1) * 7 + 7 - 7 = k * 7 + 7 by omega]
    simp only [List.append_assoc, List.nil_append]
theorem put_cells {cur F X : List Value} {a n t : Nat} (hc : cur.take n = F) (ht : X.length = t) (ha : a + t ≤ n) (hl : n ≤ cur.length) :
    (cur.take a ++ X ++ cur.drop (a + t)).take n = F.take a ++ X ++ F.drop (a + t) ∧ (cur.take a ++ X ++ cur.drop (a + t)).length = cur.length := by
  subst hc
  have e1 : (cur.take n).take a = cur.take a := by rw [List.take_take, Nat.min_eq_left (by omega)]
  have e2 : (cur.take n).drop (a + t) = (cur.drop (a + t)).take (n - (a + t)) := by rw [List.drop_take]
  have hl1 : (cur.take a ++ X).length = a + t := by rw [List.length_append, List.length_take, ht, Nat.min_eq_left (by omega)]
  refine ⟨?_, ?_⟩
  · rw [e1, e2, List.take_append, hl1, List.take_of_length_le (by rw [hl1]; exact ha)]
  · rw [List.length_append, hl1, List.length_drop]; omega
theorem zeroN_one (n : Nat) : ∀ u ∈ (Builtin.zeroCells (ndV nl0).cells n).toList, u.oneCell' = true := by
  intro u hu
  rw [Array.mem_toList_iff] at hu
  obtain ⟨j, hj, e⟩ := Array.getElem_of_mem hu
  rw [← e]
  simp only [Builtin.zeroCells, Value.cells, ndV, Array.getElem_map]
  refine nd_oneL nl0 _ ?_
  rw [Array.mem_toList_iff, getElem!_pos (ndC nl0) _ (Nat.mod_lt _ (show 0 < (ndC nl0).size by rw [nd_size]; omega))]
  exact Array.getElem_mem _
theorem No.stored {w : World} {base g m c k : Nat} {L : List Nl} (h : No w base (some ⟨g, 0, none⟩) m c L) (hk : k < L.length) (x : Nl) (hx : x ∈ L) :
    ∃ W, (storeCells ⟨g, k * 7, none⟩ (ndC x).toList 0).run Tryz.prog w = .ok () W ∧ No W base (some ⟨g, 0, none⟩) m c (L.set k x) ∧ w.grownBy W (some g) := by
  rcases h.form with ⟨e, _⟩ | ⟨g', e, hb, hlt, cur, hh, h1, h2, h3, h4⟩
  · cases e
  · cases e
    have hm := h.len
    have hs := run_storeCells_at Tryz.prog g (k * 7) 46 (ndC x).toList 0 cur w hh (by rw [ndL_len, h3]; omega) (nd_oneL x)
    refine ⟨_, hs, ?_⟩
    rw [Nat.add_zero, ndL_len]
    have hpc := put_cells (X := (ndC x).toList) (a := k * 7) (t := 7) h4 rfl (by omega) (by rw [Array.length_toList, h3]; omega)
    obtain ⟨C, hC⟩ : ∃ C : Array Value, C = (cur.toList.take (k * 7) ++ (ndC x).toList ++ cur.toList.drop (k * 7 + 7)).toArray := ⟨_, rfl⟩
    rw [← hC]
    have hgr : w.grownBy (w.setRow g C) (some g) := ⟨rfl, rfl, rfl, by simp, fun j hj hne => setRow_other w g j C (fun e => hne (by rw [e]))⟩
    refine ⟨no_block hb (setRow_heap w g cur C _ _ hh) h1 h2 ?_ ?_ (by rw [List.length_set]; exact hm) (fun y hy => ?_) (fun y hy => ?_), hgr⟩
    · rw [hC, List.size_toArray, hpc.2, Array.length_toList, h3]
    · rw [hC, hpc.1, flatN_set7 x L k hk]
    · have hy' : y ∈ L := by
        rcases mem_set_or hy with h5 | h5
        · exact h5
        · rw [h5]; exact hx
      exact (h.nr y hy').off (fun hl a ha hlt => hgr.block _ hlt fun e => h.ap g rfl y hy' hl a ha (Option.some.inj e)) hgr.size
    · have hy' : y ∈ L := by
        rcases mem_set_or hy with h5 | h5
        · exact h5
        · rw [h5]; exact hx
      exact h.ap g rfl y hy'
theorem run_clearN {w : World} {base g m c k : Nat} {L : List Nl} (ty : TypeId) (cc : Nat) (h : No w base (some ⟨g, 0, none⟩) m c L) (hk : k < L.length) :
    ∃ W, (Builtin.clear_ #[22] ty #[.slice (some ⟨g, k * 7, none⟩) (m - k) cc]).run Tryz.prog w = .ok (.tuple #[]) W ∧ No W base (some ⟨g, 0, none⟩) k c (L.take k) ∧ w.grownBy W (some g) := by
  rcases h.form with ⟨e, _⟩ | ⟨g', e, hb, hlt, cur, hh, h1, h2, h3, h4⟩
  · cases e
  · cases e
    have hm := h.len
    obtain ⟨i, hi, hz, hs1, hb1⟩ := info_parts nd_info3
    have hzl : (Builtin.zeroCells (ndV nl0).cells (m - k)).toList.length = (m - k) * 7 := by
      rw [Array.length_toList]; simp [Builtin.zeroCells, Value.cells, ndV, ndC]
    have hst := run_storeCells_at Tryz.prog g (k * 7) 46 (Builtin.zeroCells (ndV nl0).cells (m - k)).toList 0 cur w hh (by rw [hzl, h3]; omega) (zeroN_one _)
    obtain ⟨q, hq⟩ : ∃ q, m - k = q + 1 := ⟨m - k - 1, by omega⟩
    obtain ⟨C, hC⟩ : ∃ C : Array Value, C = (cur.toList.take (k * 7) ++ (Builtin.zeroCells (ndV nl0).cells (m - k)).toList ++ cur.toList.drop (k * 7 + (m - k) * 7)).toArray := ⟨_, rfl⟩
    have hpc := put_cells (cur := cur.toList) (X := (Builtin.zeroCells (ndV nl0).cells (m - k)).toList) (a := k * 7) (t := (m - k) * 7) h4 hzl (by omega) (by rw [Array.length_toList, h3]; omega)
    rw [Nat.add_zero, hzl, ← hC] at hst
    refine ⟨w.setRow g C, by
      rw [hq] at hst ⊢
      simp [Builtin.clear_, run_underlying Tryz.underlying22, zeroValue, typeInfo, hi, hz, hst], ?_⟩
    have hgr : w.grownBy (w.setRow g C) (some g) := ⟨rfl, rfl, rfl, by simp, fun j hj hne => setRow_other w g j C (fun e => hne (by rw [e]))⟩
    refine ⟨no_block hb (setRow_heap w g cur C _ _ hh) (by omega) h2 (by rw [hC, List.size_toArray, hpc.2, Array.length_toList, h3]) ?_ (by rw [List.length_take]; omega) (fun y hy => ?_) (fun y hy => h.ap g rfl y (List.mem_of_mem_take hy)), hgr⟩
    · rw [← flatN_take, ← h4, List.take_take, Nat.min_eq_left (by omega), hC, List.append_assoc, List.take_append_of_le_length (by rw [List.length_take, Array.length_toList, h3]; omega), List.take_of_length_le (by rw [List.length_take]; omega)]
    · exact (h.nr y (List.mem_of_mem_take hy)).off (fun hl a ha hlt => hgr.block _ hlt fun e => h.ap g rfl y (List.mem_of_mem_take hy) hl a ha (Option.some.inj e)) hgr.size
end Go.Proofs.YtelfdpcenplhjaaGreatDoor
namespace Go.Proofs.YtelfdpcenplhjaaGreatDoor
open Go.RowKit Go.Shelf
set_option linter.unusedVariables false
set_option linter.unusedSimpArgs false
theorem wpList_storeN {ops : Array Oper} {rest : List Oper} {o : Oper} {a : Act} {w W : World} {Q : Exit → Act → World → Prop} (hgd : o.guard = none) (x y : Operand) (ho : o.op = .store 46 x y)
    (g k : Nat) (z : Nl) (hx : a.eval x = .pointer (some ⟨g, k * 7, none⟩)) (hy : a.eval y = .agg (ndC z)) (hrun : (storeCells ⟨g, k * 7, none⟩ (ndC z).toList 0).run Tryz.prog w = .ok () W)
    (h : wpList Tryz.prog ops Q rest (a.put o.dst undef) W) : wpList Tryz.prog ops Q (o :: rest) a w := by
  refine wpList_plain hgd fun K hK => ?_
  obtain ⟨i, hi, hz, hs1, hb1⟩ := info_parts nd_info3
  have hs' : (ndC z).size = i.size := by rw [hs1]; rfl
  have hr2 : (storeVar 46 ⟨g, k * 7, none⟩ (.agg (ndC z))).run Tryz.prog w = .ok () W := by simp [storeVar, sizeOf, typeInfo, hi, Value.cells, hs', hrun]
  unfold Oper.wp execOp
  simp only [ho, hx, hy, Instr.storeAt, Instr.sureAddr, Sem.run_bind, Sem.run_pure, Result.andThen_ok, hr2]
  exact hK _ _ h
def WhereR (L : List Nl) (bf : Nm → Bool) (r : Int) : Prop := (∃ k : Nat, r = k ∧ k < L.length ∧ bf (L.getD k nl0).1 = true ∧ ∀ j, j < k → bf (L.getD j nl0).1 = false) ∨ r = -1 ∧ ∀ j, j < L.length → bf (L.getD j nl0).1 = false
set_option maxRecDepth 100000 in
set_option maxHeartbeats 2000000 in
theorem indexf2_any (cf : Nat) (cb : Array Value) (bf : Nm → Bool) (A : Option Addr) (m c : Nat) (L : List Nl) (w : World) (hP : Po w w.heap.size A L) (hm : m = L.length) (hmc : m ≤ c) (h6 : m ≤ 1000000)
    (ec : ∀ args w, (callFunc cf args).run Tryz.prog w = .ok (.enter cf args) w)
    (hclo : ∀ (x : Nl) (W : World), Below w.heap.size w W → Nr W W.heap.size x → Calls Tryz.prog cf (#[ndV x] ++ cb) W fun e w' => e = .returned (.bool (bf x.1)) ∧ Below W.heap.size W w') :
    Calls Tryz.prog 75 #[.slice A m c, .func (.func cf) #[] cb] w fun e w' => ∃ r, e = .returned (.int .i64 r) ∧ WhereR L bf r ∧ Below w.heap.size w w' := by
  have B0 := Below.refl w.heap.size w
  have HM := Lib.hid hm
  have HC := Lib.hid hclo
  clear hm hclo
  go_enter Tryz.func75, Tryz.ntmps75
  go_wp2_with fail
  go_loopw [8] (fun i wr' => ∃ (k : Nat) (wr : World), wr = wr' ∧ k ≤ m ∧ i = .int .i64 k ∧ Hid (∀ j, j < k → bf (L.getD j nl0).1 = false) ∧ Below w.heap.size w wr) (fun i _ => m - (intOf i).toNat)
  case atStart => exact ⟨0, _, rfl, Nat.zero_le _, rfl, Lib.hid (fun j hj => absurd hj (Nat.not_lt_zero j)), B0⟩
  case round =>
    clear B0
    obtain ⟨k, wr, hwr, hk, rfl, hall, hB⟩ := hrel
    subst hwr
    by_cases hlt : k < m
    · have hlt' : (k : Int) < (m : Int) := by omega
      have hkl : k < L.length := by have := HM.out; omega
      obtain ⟨b, off, rfl, hb, hc⟩ := (hP.below hB (Nat.le_refl _)).at_ k hkl
      have hcl := HC.out (L.getD k nl0) wr hB (((hP.at' hkl).below hB (Nat.le_refl _)).more hB.size)
      have HK := Lib.hid hkl
      generalize hx : L.getD k nl0 = x at hc hcl
      have HX := Lib.hid hx
      clear hx hkl
      have hs2 : (ndC x).size = 7 := nd_size x
      unfold ndV at hcl
      obtain ⟨bo, hbo⟩ : ∃ bo, bf x.1 = bo := ⟨_, rfl⟩
      rw [hbo] at hcl
      have HBO := Lib.hid hbo
      clear hbo
      have HCL := Lib.hid hcl
      clear hcl
      go_wp2_with (refine wpList_load_mid rfl 46 (.tmp 14) rfl b (off + k * 7) rfl (ndC x).toList _ hc Tryz.underlying46 rfl (nd_infL x) ?_)
      refine HCL.out.mono ?_
      rintro e w1 ⟨rfl, bb⟩
      have hB1 := hB.trans (bb.mono hB.size)
      clear bb hc hb
      cases bo
      · go_wp2_with fail
        go_roundw
        case rel =>
          refine ⟨k + 1, _, rfl, by omega, by go_num, Lib.hid (fun j hj => ?_), hB1⟩
          rcases Nat.lt_succ_iff_lt_or_eq.1 hj with h | rfl
          · exact hall.out j h
          · rw [HX.out]; exact HBO.out
        case measure => simp [intOf]; omega
      · go_wp2_with fail
        go_ret
        exact ⟨_, rfl, .inl ⟨k, rfl, HK.out, by rw [HX.out]; exact HBO.out, hall.out⟩, hB1⟩
    · obtain rfl : k = m := by omega
      go_wp2_with fail
      go_ret
      exact ⟨_, rfl, .inr ⟨rfl, by rw [← HM.out]; exact hall.out⟩, hB⟩
theorem df_next {K mid L : List Nl} {j : Nat} (hj : j < L.length) : K ++ mid ++ L.drop j = K ++ (mid ++ [L.getD j nl0]) ++ L.drop (j + 1) := by
  rw [drop_consN L j hj]; simp
theorem df_set {K mid L : List Nl} {i j : Nat} (hj : j < L.length) (hK : K.length = i) (hm : mid ≠ []) : (K ++ mid ++ L.drop j).set i (L.getD j nl0) = (K ++ [L.getD j nl0]) ++ (mid.tail ++ [L.getD j nl0]) ++ L.drop (j + 1) := by
  cases mid with
  | nil => exact absurd rfl hm
  | cons y mid =>
    subst hK
    rw [drop_consN L j hj, List.append_assoc, List.set_append_right _ _ (Nat.le_refl _), Nat.sub_self]
    simp
theorem filt_snoc {p : Nl → Bool} {L : List Nl} {j : Nat} (hj : j < L.length) : (L.take (j + 1)).filter p = (L.take j).filter p ++ (if p (L.getD j nl0) = true then [L.getD j nl0] else []) := by
  rw [take_snocN L j hj, List.filter_append]
  congr 1
  rw [List.filter_cons]
  rfl
structure DfI (w V : World) (base g m c k i : Nat) (bf : Nm → Bool) (L : List Nl) : Prop where
  row : ∃ mid, mid ≠ [] ∧ No V base (some ⟨g, 0, none⟩) m c ((L.take k).filter (fun x => !bf x.1) ++ mid ++ L.drop k)
  len : ((L.take k).filter fun x => !bf x.1).length = i
  b : But g w V
set_option maxRecDepth 100000 in
set_option maxHeartbeats 4000000 in
theorem del_any (cf : Nat) (cb : Array Value) (bf : Nm → Bool) (base g m c : Nat) (A : Option Addr) (L : List Nl) (w : World) (hA : A = none ∨ A = some ⟨g, 0, none⟩) (h : No w base A m c L) (h6 : m ≤ 100000)
    (ec : ∀ args w, (callFunc cf args).run Tryz.prog w = .ok (.enter cf args) w)
    (hclo : ∀ (x : Nl) (W : World), But g w W → Nr W W.heap.size x → Calls Tryz.prog cf (#[ndV x] ++ cb) W fun e w' => e = .returned (.bool (bf x.1)) ∧ Below W.heap.size W w') :
    Calls Tryz.prog 47 #[.slice A m c, .func (.func cf) #[] cb] w fun e w' => ∃ m2, e = .returned (.slice A m2 c) ∧ m2 = (L.filter fun x => !bf x.1).length ∧ No w' base A m2 c (L.filter fun x => !bf x.1) ∧ But g w w' := by
  have HM := Lib.hid h.len
  have hmc := h.cap
  have IX := indexf2_any cf cb bf A m c L w h.po h.len hmc (by omega) ec (fun x W hW hx => hclo x W (But.of_below hW g) hx)
  have HC := Lib.hid hclo
  clear hclo
  go_enter Tryz.func47, Tryz.ntmps47
  go_wp2_with fail
  refine IX.mono ?_
  rintro e w1 ⟨r, rfl, hr, bb⟩
  have h1 := h.below bb (Nat.le_refl _)
  have b1 : But g w w1 := But.of_below bb g
  clear IX bb
  rcases hr with ⟨k, rfl, hk, hbk, hall⟩ | ⟨rfl, hall⟩
  · have hne : ((k : Int) == -1) = false := by simp
    have hA' : A = some ⟨g, 0, none⟩ := by
      rcases hA with rfl | rfl
      · obtain ⟨g', e, _⟩ := h1.at0 (by omega)
        cases e
      · rfl
    subst hA'
    have hkm : k < m := by have := HM.out; omega
    have hI0 : DfI w w1 base g m c (k + 1) k bf L := by
      have hf : (L.take k).filter (fun x => !bf x.1) = L.take k := List.filter_eq_self.2 fun x hx => by
        obtain ⟨j, hj, rfl⟩ := List.getElem_of_mem hx
        rw [List.length_take] at hj
        have := hall j (by omega)
        rw [show L.getD j nl0 = L[j]'(by omega) by simp [List.getD, show j < L.length by omega]] at this
        rw [List.getElem_take, this]; rfl
      have hf2 : (L.take (k + 1)).filter (fun x => !bf x.1) = L.take k := by
        rw [filt_snoc hk, hf, if_neg (by rw [hbk]; decide), List.append_nil]
      refine ⟨⟨[L.getD k nl0], by simp, ?_⟩, by rw [hf2, List.length_take]; omega, b1⟩
      rw [hf2, List.append_assoc, List.singleton_append, ← drop_consN L k hk, List.take_append_drop]
      exact h1
    have HH := Lib.hid (And.intro hk (And.intro hbk hall))
    clear hk hbk hall h1 b1 hA
    go_wp2_with fail
    go_loopw [5, 6] (fun iv jv wr' => ∃ (i j : Nat) (wr : World), wr = wr' ∧ j ≤ m ∧ i < j ∧ iv = .int .i64 i ∧ jv = .int .i64 j ∧ Hid (DfI w wr base g m c j i bf L)) (fun _ jv _ => m - (intOf jv).toNat)
    case atStart => exact ⟨k, k + 1, _, rfl, by omega, by omega, rfl, by go_num, Lib.hid hI0⟩
    case round =>
      clear hI0
      obtain ⟨i, j, wr, hwr, hj, hij, rfl, rfl, HI⟩ := hrel
      subst hwr
      obtain ⟨⟨mid, hmid, hT⟩, hlen, hB⟩ := HI.out
      have hTl := hT.len
      rw [List.length_append, List.length_append, hlen, List.length_drop, ← HM.out] at hTl
      by_cases hlt : j < m
      · have hlt' : (j : Int) < (m : Int) := by omega
        have hjl : j < L.length := by have := HM.out; omega
        have hmj : i + mid.length = j := by omega
        have hget : ((L.take j).filter (fun x => !bf x.1) ++ mid ++ L.drop j).getD j nl0 = L.getD j nl0 := by
          simp only [List.getD]
          rw [List.getElem?_append_right (by rw [List.length_append, hlen]; omega), List.length_append, hlen, hmj, Nat.sub_self, List.getElem?_drop, Nat.add_zero]
        obtain ⟨b, off, e, hb, hc⟩ := hT.po.at_ j (by rw [List.length_append, List.length_append, hlen, List.length_drop, ← HM.out]; omega)
        cases e
        rw [hget] at hc
        have hxn : Nr wr wr.heap.size (L.getD j nl0) := hT.nr _ (List.mem_append_right _ (by rw [drop_consN L j hjl]; simp))
        have hxm : L.getD j nl0 ∈ (L.take j).filter (fun x => !bf x.1) ++ mid ++ L.drop j := List.mem_append_right _ (by rw [drop_consN L j hjl]; simp)
        have HDN := Lib.hid (df_next (K := (L.take j).filter (fun x => !bf x.1)) (mid := mid) hjl)
        have HDS := Lib.hid (df_set (K := (L.take j).filter (fun x => !bf x.1)) (mid := mid) hjl hlen hmid)
        have HFS := Lib.hid (filt_snoc (p := fun x : Nl => !bf x.1) hjl)
        have HLEN := Lib.hid hlen
        have HMID := Lib.hid hmid
        have hsc := hT.own
        obtain ⟨T, hTe⟩ : ∃ T, (L.take j).filter (fun x => !bf x.1) ++ mid ++ L.drop j = T := ⟨_, rfl⟩
        rw [hTe] at hT hxm HDN HDS
        obtain ⟨x, hx⟩ : ∃ x, L.getD j nl0 = x := ⟨_, rfl⟩
        rw [hx] at hc hxn hxm HDN HDS HFS
        have HTL := Lib.hid hT.len
        have HX := Lib.hid hx
        have hs2 : (ndC x).size = 7 := nd_size x
        obtain ⟨bo, hbo⟩ : ∃ bo, bf x.1 = bo := ⟨_, rfl⟩
        have HBO := Lib.hid hbo
        have hcl := fun (W : World) (hW : Below wr.heap.size wr W) => HC.out x W (hB.trans (But.of_below hW g)) ((hxn.below hW (Nat.le_refl _)).more hW.size)
        simp only [hbo] at hcl
        unfold ndV at hcl
        have HCL := Lib.hid hcl
        have hgl : g < wr.heap.size := hb
        clear hx hbo hlen hTl hget hmid hTe hsc hcl hmj
        go_wp2_with (first
          | (refine wpList_load_mid rfl 46 (.tmp 24) rfl g (0 + j * 7) rfl (ndC x).toList _ hc Tryz.underlying46 rfl (nd_infL x) ?_)
          | (refine wpList_load_mid rfl 46 (.tmp 24) rfl g (j * 7) rfl (ndC x).toList _ (by simpa using hc) Tryz.underlying46 rfl (nd_infL x) ?_)
          | (refine wpList_store_blk rfl 46 (.tmp 7) (.tmp 25) rfl wr.heap.size (ndC nl0) (ndC x) 46 rfl rfl (Blk.new _ _ _) rfl (nd_inf x) (nd_one x) ?_
             intro W1 k9 n9
             have bb : Below wr.heap.size wr W1 := ((Below.refl _ wr).alloc (Nat.le_refl _) _).trans (n9.below _ (Nat.le_refl _) (by simp)))
          | (refine wpList_load_row rfl 46 (.tmp 7) rfl wr.heap.size rfl 46 (ndC x) (0, 0) _ k9.blk Tryz.underlying46 rfl (nd_inf x) ?_))
        refine (HCL.out W1 bb).mono ?_
        rintro e W2 ⟨rfl, bb2⟩
        have b2 := bb.trans (bb2.mono bb.size)
        have k92 := k9.below bb2 k9.lt
        have hT2 := hT.below b2 (Nat.le_refl _)
        have hB2 : But g w W2 := hB.trans (But.of_below b2 g)
        clear bb bb2 n9 k9 hc HCL
        cases bo
        · obtain ⟨W3, hst, hT3, hg3⟩ := hT2.stored (k := i) (by have := HTL.out; omega) x hxm
          rw [HDS.out] at hT3
          have hi' : (i : Int) < (m : Int) := by omega
          go_wp2_with (first
            | (refine wpList_load_row rfl 46 (.tmp 7) rfl wr.heap.size rfl 46 (ndC x) (0, 0) _ k92.blk Tryz.underlying46 rfl (nd_inf x) ?_)
            | (refine wpList_storeN rfl (.tmp 33) (.tmp 32) rfl g i x rfl rfl hst ?_))
          have hB3 : But g w W3 := hB2.trans ⟨hg3.os, hg3.tape, hg3.output, hg3.size, fun k hk hne => hg3.block k hk (fun e => hne (Option.some.inj e))⟩
          have hI : DfI w W3 base g m c (j + 1) (i + 1) bf L := by
            have hf := HFS.out
            rw [if_pos (by rw [HBO.out]; rfl)] at hf
            exact ⟨⟨mid.tail ++ [x], by simp, by rw [hf]; exact hT3⟩, by rw [hf, List.length_append, HLEN.out]; rfl, hB3⟩
          have HI2 := Lib.hid hI
          clear hI hT3 hT2 hst hg3 hB3
          go_roundw
          case rel => exact ⟨i + 1, j + 1, _, rfl, by omega, by omega, by go_num, by go_num, HI2⟩
          case measure => simp [intOf]; omega
        · have hI : DfI w W2 base g m c (j + 1) i bf L := by
            have hf := HFS.out
            rw [if_neg (by rw [HBO.out]; decide), List.append_nil] at hf
            exact ⟨⟨mid ++ [x], by simp, by rw [hf, ← HDN.out]; exact hT2⟩, by rw [hf]; exact HLEN.out, hB2⟩
          have HI2 := Lib.hid hI
          clear hI hT2
          go_wp2_with fail
          go_roundw
          case rel => exact ⟨i, j + 1, _, rfl, by omega, by omega, rfl, by go_num, HI2⟩
          case measure => simp [intOf]; omega
      · obtain rfl : j = m := by omega
        have hLm : L.take j = L := by rw [HM.out, List.take_length]
        have hdr : L.drop j = [] := by rw [HM.out, List.drop_length]
        rw [hLm, hdr, List.append_nil] at hT
        rw [hLm] at hlen
        have hcap := hT.cap
        have hcm : c ≤ 9223372036854775807 := by
          rcases hT.form with ⟨e, _⟩ | ⟨_, _, _, _, _, _, _, h3, _⟩
          · cases e
          · simp only [maxLen] at h3; omega
        obtain ⟨Wc, hcl, hT4, hg4⟩ : ∃ Wc, (∀ ty, (Builtin.clear_ #[22] ty #[.slice (some ⟨g, i * 7, none⟩) (j - i) (c - i)]).run Tryz.prog wr = .ok (.tuple #[]) Wc) ∧ No Wc base (some ⟨g, 0, none⟩) i c (L.filter fun x => !bf x.1) ∧ wr.grownBy Wc (some g) := by
          obtain ⟨Wc, h5, h6, h7⟩ := run_clearN 0 (c - i) hT (k := i) (by rw [List.length_append, hlen]; have := List.length_pos_iff.2 hmid; omega)
          rw [List.take_append_of_le_length (by omega), List.take_of_length_le (by omega)] at h6
          exact ⟨Wc, fun ty => h5, h6, h7⟩
        have hB3 : But g w Wc := hB.trans ⟨hg4.os, hg4.tape, hg4.output, hg4.size, fun k hk hne => hg4.block k hk (fun e => hne (Option.some.inj e))⟩
        have HLEN := Lib.hid hlen
        have hci : ¬ (c = i) := by omega
        have hil : i ≤ j := by omega
        clear hT hlen hTl hg4 HI hLm hdr
        go_wp2_with fail
        go_ret
        exact ⟨i, rfl, HLEN.out.symm, hT4, hB3⟩
  · have hfl : (L.filter fun x => !bf x.1) = L := by
      refine List.filter_eq_self.2 fun x hx => ?_
      obtain ⟨j, hj, rfl⟩ := List.getElem_of_mem hx
      have := hall j hj
      rw [show L.getD j nl0 = L[j] by simp [List.getD, hj]] at this
      rw [this]; rfl
    go_wp2_with fail
    go_ret
    exact ⟨m, rfl, by rw [hfl]; exact HM.out, by rw [hfl]; exact h1, b1⟩
end Go.Proofs.YtelfdpcenplhjaaGreatDoor
namespace Go.Proofs.YtelfdpcenplhjaaGreatDoor
open Go.RowKit Go.Shelf
set_option linter.unusedVariables false
set_option linter.unusedSimpArgs false
theorem No.off7 {w w' : World} {base g m c : Nat} {A : Option Addr} {L : List Nl} (h : No w base A m c L) (n : But g w w') (hr : ∀ r, (Value.slice A m c).ownBlock = some r → r < g) (hp : ∀ x ∈ L, 0 < x.1.g.length → ∀ a, x.2.1 = some a → a.block ≠ g) : No w' base A m c L := by
  refine ⟨⟨h.own.1, ?_⟩, fun x hx => (h.nr x hx).off (fun hl a ha hlt => n.block _ hlt (hp x hx hl a ha)) n.size, h.ap⟩
  rcases h.own.2 with h0 | ⟨g', cap, cur, hv, hb, hh, q⟩
  · exact .inl h0
  · have hlt : g' < g := hr g' (by rw [hv]; rfl)
    exact .inr ⟨g', cap, cur, hv, hb, (n.block g' (Array.getElem?_eq_some_iff.1 hh).1 (by omega)).trans hh, q⟩
structure GvJ (w0 : World) (gq go gi : Nat) (A1 : Option Addr) (m c1 : Nat) (L1 : List Nl) (id : Int) (V : World) : Prop where
  b : But go w0 V
  kq : Blk V gq #[.slice A1 m c1] 24
  ki : Blk V gi #[.int .i64 id] 3
  ko : Blk V go #[.slice none 0 0] 36
  kr : Blk V (w0.heap.size + 1) #[.slice none 0 0] 24
  row : No V (gq + 1) A1 m c1 L1
theorem GvJ.far {w0 V V' : World} {gq go gi m c1 g : Nat} {A1 : Option Addr} {L1 : List Nl} {id : Int} (h : GvJ w0 gq go gi A1 m c1 L1 id V) (n : But g V V') (hg : gq < g) (hi : gi < g) (ho : go < g) (h0 : w0.heap.size + 1 < g) (hr : ∀ r, (Value.slice A1 m c1).ownBlock = some r → r < g) (hp : ∀ x ∈ L1, 0 < x.1.g.length → ∀ a, x.2.1 = some a → a.block ≠ g) : GvJ w0 gq go gi A1 m c1 L1 id V' :=
  ⟨⟨n.os.trans h.b.os, n.tape.trans h.b.tape, n.output.trans h.b.output, Nat.le_trans h.b.size n.size, fun k hk hne => (n.block k (Nat.lt_of_lt_of_le hk h.b.size) (by omega)).trans (h.b.block k hk hne)⟩, n.blk7 h.kq (by omega), n.blk7 h.ki (by omega), n.blk7 h.ko (by omega), n.blk7 h.kr (by omega), h.row.off7 n hr hp⟩
theorem GvJ.below {w0 V V' : World} {gq go gi m c1 : Nat} {A1 : Option Addr} {L1 : List Nl} {id : Int} (h : GvJ w0 gq go gi A1 m c1 L1 id V) (bb : Below V.heap.size V V') : GvJ w0 gq go gi A1 m c1 L1 id V' :=
  ⟨h.b.trans (But.of_below bb go), h.kq.below bb h.kq.lt, h.ki.below bb h.ki.lt, h.ko.below bb h.ko.lt, h.kr.below bb h.kr.lt, h.row.below bb (Nat.le_refl _)⟩
theorem GvJ.drew {w0 V : World} {gq go gi m c1 : Nat} {A1 : Option Addr} {L1 : List Nl} {id : Int} (h : GvJ w0 gq go gi A1 m c1 L1 id V) : GvJ w0 gq go gi A1 m c1 L1 id V.drew := h.below (Below.refl _ _).drew
structure GvK (w0 : World) (gq go gi g5 : Nat) (A1 : Option Addr) (m c1 : Nat) (L1 : List Nl) (id : Int) (r : Nl) (V : World) : Prop where
  j : GvJ w0 gq go gi A1 m c1 L1 id V
  n : Blk V g5 (ndC r) 46
theorem GvK.below {w0 V V' : World} {gq go gi g5 m c1 : Nat} {A1 : Option Addr} {L1 : List Nl} {id : Int} {r : Nl} (h : GvK w0 gq go gi g5 A1 m c1 L1 id r V) (bb : Below V.heap.size V V') : GvK w0 gq go gi g5 A1 m c1 L1 id r V' := ⟨h.j.below bb, h.n.below bb h.n.lt⟩
def giveE (L : List Nl) (id : Int) : Int := if (idR L id).2 = true ∧ ¬ (idR L id).1.1.k = (kidsN L id : Int) then 0 else 4
def leftN (L U : List Nl) : List Nl := L.filter fun x => !((goneU U).map fun y => y.1.i).contains x.1.i
def GvR (w0 : World) (go : Nat) (id : Int) (gq : Nat) (L1 U : List Nl) (V' : World) (er : Int) (A2 : Option Addr) (m2 c2 : Nat) : Prop :=
  But go w0 V' ∧ ((er = 4 ∧ giveE L1 id = 4 ∧ Blk V' go #[.slice none 0 0] 36) ∨ (er = 0 ∧ giveE L1 id = 0 ∧ ∃ G gm gc, Blk V' go #[.slice G gm gc] 36 ∧ Zp V' (gq + 1) G gm gc ((goneU U).map fun x => x.1.i) ∧
    ((PlaceR (leftN L1 U) (staysU U) (-1) ∧ No V' (gq + 1) A2 m2 c2 (leftN L1 U)) ∨ ∃ k : Nat, PlaceR (leftN L1 U) (staysU U) k ∧ k < (leftN L1 U).length ∧ No V' (gq + 1) A2 m2 c2 ((leftN L1 U).set k (cntN ((leftN L1 U).getD k nl0) (IntKind.i64.wrap (((leftN L1 U).getD k nl0).1.k - 1)))))))
def GvP (w0 : World) (go : Nat) (id : Int) (gq : Nat) (L1 U : List Nl) (e : Ending) (V' : World) : Prop :=
  ∃ er A2 m2 c2, e = .returned (.int .i64 er) ∧ Blk V' gq #[.slice A2 m2 c2] 24 ∧ Blk V' (w0.heap.size + 1) #[.slice none 0 0] 24 ∧ GvR w0 go id gq L1 U V' er A2 m2 c2
structure GvA (gq gi : Nat) (A1 : Option Addr) (m c1 : Nat) (id : Int) (V : World) : Prop where
  kq : Blk V gq #[.slice A1 m c1] 24
  ki : Blk V gi #[.int .i64 id] 3
theorem Zp.ne {w w' : World} {base m c g : Nat} {A : Option Addr} {l : List Int} (h : Zp w base A m c l) (n : But g w w') (hr : ∀ r, (Value.slice A m c).ownBlock = some r → r ≠ g) : Zp w' base A m c l := by
  refine ⟨h.1, ?_⟩
  rcases h.2 with h0 | ⟨g', cap, cur, hv, hb, hh, r⟩
  · exact .inl h0
  · exact .inr ⟨g', cap, cur, hv, hb, (n.block g' (Array.getElem?_eq_some_iff.1 hh).1 (hr g' (by rw [hv]; rfl))).trans hh, r⟩
set_option maxRecDepth 100000 in
set_option maxHeartbeats 8000000 in
theorem give1_ch (id : Int) (w0 : World) (gi go : Nat) (m : Nat) (M : List Nm) (V : World) (gq : Nat) (A1 : Option Addr) (c1 : Nat) (L1 : List Nl) (hC : ChP w0 m M V gq A1 c1 L1) (h6 : m ≤ 100000) (hgo : go < w0.heap.size) (hgi : gi < w0.heap.size) (hio : gi ≠ go)
    (ki : Blk V gi #[.int .i64 id] 3) (ko : Blk V go #[.slice none 0 0] 36) (U : List Nl) (hU : Up L1 id U) (hUl : U.length ≤ 1000000) :
    Calls Tryz.prog 43 #[.pointer (some ⟨gq, 0, none⟩), .pointer (some ⟨gi, 0, none⟩), .pointer (some ⟨go, 0, none⟩)] V fun e V' => GvP w0 go id gq L1 U e V' := by
  have hgt := hC.gt
  have HM := Lib.hid hC.row.len
  have J0 : GvJ w0 gq go gi A1 m c1 L1 id V := ⟨But.of_below hC.b go, hC.box, ki, ko, hC.res, hC.row⟩
  have hro := Lib.hid (fun (V' : World) (hV : GvJ w0 gq go gi A1 m c1 L1 id V') => row_any A1 m c1 L1 id V' hV.row.po HM.out hC.row.cap (by omega))
  unfold poV ndV at hro
  have JD := J0.drew
  go_enter Tryz.func43, Tryz.ntmps43
  go_wp2_with fail
  refine region_cutZ (α := Nl × Bool × Nat) (fun q => { tmps := #[.pointer (some ⟨gq, 0, none⟩), .pointer (some ⟨gi, 0, none⟩), .pointer (some ⟨go, 0, none⟩), undef, .int .i64 0, .pointer (some ⟨q.2.2, 0, none⟩), .bool q.2.1, undef, undef, .tuple #[.agg (ndC q.1), .bool q.2.1], .pointer (some ⟨gq, 0, none⟩), .pointer (some ⟨gq, 0, none⟩), .agg #[.slice A1 m c1], .int .i64 id, .tuple #[.agg (ndC q.1), .bool q.2.1], .agg (ndC q.1), .bool q.2.1, undef, undef, undef, undef, undef, undef, undef, undef, undef, undef, undef, undef, undef, undef, undef, undef, undef, undef, undef, undef, undef, undef, undef, undef, undef, undef, undef, undef, undef, undef, undef, undef, undef, undef, undef, undef, undef, undef, undef, undef, undef, undef, undef, undef, undef, undef, undef], defers := [] }) (fun q V' => GvJ w0 gq go gi A1 m c1 L1 id V' ∧ Blk V' q.2.2 (ndC q.1) 46 ∧ RowR L1 id q.1 q.2.1 ∧ w0.heap.size + 1 < q.2.2 ∧ gq < q.2.2 ∧ ∀ g, (Value.slice A1 m c1).ownBlock = some g → g < q.2.2) ?_ ?_
  · skip
    have hrw : ∀ g, (Value.slice A1 m c1).ownBlock = some g → g < V.heap.size := fun g e => (hC.row.own.lt g e).2
    have hgV : gq < V.heap.size := hC.box.lt
    have hV0 : V.heap.size ≤ V.drew.heap.size := Nat.le_refl _
    refine wp_region_held_drew (S := GvJ w0 gq go gi A1 m c1 L1 id) (by kernel_rfl) JD (fun _ => ?_)
    generalize V.drew = V0 at JD hV0 ⊢
    refine wpAnyH_take (i := 0) (v := .pointer (some ⟨gq, 0, none⟩)) rfl (by kernel_rfl) (by kernel_rfl) (by kernel_rfl) (fun _ _ _ h => nomatch h.1) (.inl ⟨by rfl, fun V hV => by go_simp⟩) JD ?_
    try simp only [Act.put, List.getElem_toArray, List.getElem_cons_zero, List.getElem_cons_succ, List.setIfInBounds_toArray, List.set_cons_zero, List.set_cons_succ]
    refine wpAnyH_take (i := 1) (v := .pointer (some ⟨gq, 0, none⟩)) rfl (by kernel_rfl) (by kernel_rfl) (by kernel_rfl) (fun _ _ _ h => nomatch h.1) (.inl ⟨by rfl, fun V hV => by go_simp⟩) JD ?_
    try simp only [Act.put, List.getElem_toArray, List.getElem_cons_zero, List.getElem_cons_succ, List.setIfInBounds_toArray, List.set_cons_zero, List.set_cons_succ]
    refine wpAnyH_take (i := 2) (v := .agg #[.slice A1 m c1]) rfl (by kernel_rfl) (by kernel_rfl) (by kernel_rfl) (fun _ _ _ h => nomatch h.1) (yieldsIf_blk (by rfl) 24 (.tmp 11) rfl gq rfl #[.slice A1 m c1] 24 _ (fun _ h => h.kq) Tryz.underlying24 rfl rfl) JD ?_
    try simp only [Act.put, List.getElem_toArray, List.getElem_cons_zero, List.getElem_cons_succ, List.setIfInBounds_toArray, List.set_cons_zero, List.set_cons_succ]
    refine wpAnyH_take (i := 3) (v := .int .i64 id) rfl (by kernel_rfl) (by kernel_rfl) (by kernel_rfl) (fun _ _ _ h => nomatch h.1) (.inl ⟨by rfl, fun V hV => by have c0 := hV.ki.cell 0; go_simp⟩) JD ?_
    try simp only [Act.put, List.getElem_toArray, List.getElem_cons_zero, List.getElem_cons_succ, List.setIfInBounds_toArray, List.set_cons_zero, List.set_cons_succ]
    refine wpAnyH_ready (rs := [4, 8]) (by kernel_rfl) (by simp) ?_
    refine AllReadyH.cons rfl (fun K hK => ?_) (AllReadyH.cons rfl (fun K hK => ?_) AllReadyH.nil)
    · skip
      try simp only [Act.put, List.getElem_toArray, List.getElem_cons_zero, List.getElem_cons_succ, List.setIfInBounds_toArray, List.set_cons_zero, List.set_cons_succ]
      go_simp
      refine (hro.out _ JD).mono ?_
      rintro e V1 ⟨r, b, rfl, hr, bb⟩
      go_wp2_with fail
      have J1 := JD.below bb
      have hs1 := bb.size
      clear bb
      refine hK.out _ _ J1 (fun _ => ?_)
      clear hK K
      try simp only [Act.put, List.getElem_toArray, List.getElem_cons_zero, List.getElem_cons_succ, List.setIfInBounds_toArray, List.set_cons_zero, List.set_cons_succ]
      refine wpAnyH_take (i := 5) (v := .tuple #[.agg (ndC r), .bool b]) rfl (by kernel_rfl) (by kernel_rfl) (by kernel_rfl) (fun _ _ _ h => nomatch h.1) (.inl ⟨by rfl, fun V hV => by go_simp⟩) J1 ?_
      try simp only [Act.put, List.getElem_toArray, List.getElem_cons_zero, List.getElem_cons_succ, List.setIfInBounds_toArray, List.set_cons_zero, List.set_cons_succ]
      refine wpAnyH_take (i := 6) (v := .agg (ndC r)) rfl (by kernel_rfl) (by kernel_rfl) (by kernel_rfl) (fun _ _ _ h => nomatch h.1) (.inl ⟨by rfl, fun V hV => by go_simp⟩) J1 ?_
      try simp only [Act.put, List.getElem_toArray, List.getElem_cons_zero, List.getElem_cons_succ, List.setIfInBounds_toArray, List.set_cons_zero, List.set_cons_succ]
      refine wpAnyH_take (i := 7) (v := .bool b) rfl (by kernel_rfl) (by kernel_rfl) (by kernel_rfl) (fun _ _ _ h => nomatch h.1) (.inl ⟨by rfl, fun V hV => by go_simp⟩) J1 ?_
      try simp only [Act.put, List.getElem_toArray, List.getElem_cons_zero, List.getElem_cons_succ, List.setIfInBounds_toArray, List.set_cons_zero, List.set_cons_succ]
      refine wpAnyH_ready (rs := [8]) (by kernel_rfl) (by simp) ?_
      refine AllReadyH.cons rfl (fun K hK => ?_) AllReadyH.nil
      try simp only [Act.put, List.getElem_toArray, List.getElem_cons_zero, List.getElem_cons_succ, List.setIfInBounds_toArray, List.set_cons_zero, List.set_cons_succ]
      go_simp
      have kn := Blk.new V1 (ndC nl0) 46
      have bb : Below V1.heap.size V1 (V1.alloc (.cells (ndC nl0) 46)) := (Below.refl _ _).alloc (Nat.le_refl _) _
      show K _ (V1.alloc (.cells (ndC nl0) 46))
      have J2 := J1.below bb
      have hsV2 : V1.heap.size ≤ (V1.alloc (.cells (ndC nl0) 46)).heap.size := bb.size
      generalize V1.alloc (.cells (ndC nl0) 46) = V2 at kn bb J2 hsV2 ⊢
      clear bb
      refine hK.out _ _ J2 (fun _ => ?_)
      clear hK K
      try simp only [Act.put, List.getElem_toArray, List.getElem_cons_zero, List.getElem_cons_succ, List.setIfInBounds_toArray, List.set_cons_zero, List.set_cons_succ]
      refine wpAnyH_ready (rs := [9]) (by kernel_rfl) (by simp) ?_
      refine AllReadyH.cons rfl (fun K hK => ?_) AllReadyH.nil
      try simp only [Act.put, List.getElem_toArray, List.getElem_cons_zero, List.getElem_cons_succ, List.setIfInBounds_toArray, List.set_cons_zero, List.set_cons_succ]
      rw [if_pos (by rfl)]
      refine wp_store_blk 46 (.tmp 5) (.tmp 15) rfl V1.heap.size (ndC nl0) (ndC r) 46 rfl rfl kn rfl (nd_inf r) (nd_one r) ?_
      intro V9 hn9 n9
      have J9 : GvJ w0 gq go gi A1 m c1 L1 id V9 := J2.far n9 (by omega) (by omega) (by omega) (by omega) (fun g e => by have := hrw g e; omega) (fun x hx hl a ha => by have := (hC.row.nr x hx).prog_lt hl ha; omega)
      refine hK.out _ _ J9 (fun _ => ?_)
      clear hK K
      try simp only [Act.put, List.getElem_toArray, List.getElem_cons_zero, List.getElem_cons_succ, List.setIfInBounds_toArray, List.set_cons_zero, List.set_cons_succ]
      refine wpAnyH_ready (rs := [10]) (by kernel_rfl) (by simp) ?_
      refine AllReadyH.cons rfl (fun K hK => ?_) AllReadyH.nil
      try simp only [Act.put, List.getElem_toArray, List.getElem_cons_zero, List.getElem_cons_succ, List.setIfInBounds_toArray, List.set_cons_zero, List.set_cons_succ]
      go_simp
      refine hK.out _ _ J9 (fun _ => ?_)
      clear hK K
      try simp only [Act.put, List.getElem_toArray, List.getElem_cons_zero, List.getElem_cons_succ, List.setIfInBounds_toArray, List.set_cons_zero, List.set_cons_succ]
      refine wpAnyH_done (by kernel_rfl) ?_ _
      exact ⟨rfl, (r, b, V1.heap.size), rfl, J9, hn9, hr, by show _ < V1.heap.size; omega, by show _ < V1.heap.size; omega, fun g e => by have := hrw g e; show g < V1.heap.size; omega⟩
    · skip
      try simp only [Act.put, List.getElem_toArray, List.getElem_cons_zero, List.getElem_cons_succ, List.setIfInBounds_toArray, List.set_cons_zero, List.set_cons_succ]
      go_simp
      have kn := Blk.new V0 (ndC nl0) 46
      have bb : Below V0.heap.size V0 (V0.alloc (.cells (ndC nl0) 46)) := (Below.refl _ _).alloc (Nat.le_refl _) _
      show K _ (V0.alloc (.cells (ndC nl0) 46))
      have J1 := JD.below bb
      have hsV1 : V0.heap.size ≤ (V0.alloc (.cells (ndC nl0) 46)).heap.size := bb.size
      generalize V0.alloc (.cells (ndC nl0) 46) = V1 at kn bb J1 hsV1 ⊢
      clear bb
      refine hK.out _ _ J1 (fun _ => ?_)
      clear hK K
      try simp only [Act.put, List.getElem_toArray, List.getElem_cons_zero, List.getElem_cons_succ, List.setIfInBounds_toArray, List.set_cons_zero, List.set_cons_succ]
      refine wpAnyH_ready (rs := [4]) (by kernel_rfl) (by simp) ?_
      refine AllReadyH.cons rfl (fun K hK => ?_) AllReadyH.nil
      try simp only [Act.put, List.getElem_toArray, List.getElem_cons_zero, List.getElem_cons_succ, List.setIfInBounds_toArray, List.set_cons_zero, List.set_cons_succ]
      go_simp
      refine (hro.out _ J1).mono ?_
      rintro e V2 ⟨r, b, rfl, hr, bb⟩
      go_wp2_with fail
      have J2 := J1.below bb
      have kn2 := kn.below bb kn.lt
      clear bb
      refine hK.out _ _ J2 (fun _ => ?_)
      clear hK K
      try simp only [Act.put, List.getElem_toArray, List.getElem_cons_zero, List.getElem_cons_succ, List.setIfInBounds_toArray, List.set_cons_zero, List.set_cons_succ]
      refine wpAnyH_take (i := 5) (v := .tuple #[.agg (ndC r), .bool b]) rfl (by kernel_rfl) (by kernel_rfl) (by kernel_rfl) (fun _ _ _ h => nomatch h.1) (.inl ⟨by rfl, fun V hV => by go_simp⟩) J2 ?_
      try simp only [Act.put, List.getElem_toArray, List.getElem_cons_zero, List.getElem_cons_succ, List.setIfInBounds_toArray, List.set_cons_zero, List.set_cons_succ]
      refine wpAnyH_take (i := 6) (v := .agg (ndC r)) rfl (by kernel_rfl) (by kernel_rfl) (by kernel_rfl) (fun _ _ _ h => nomatch h.1) (.inl ⟨by rfl, fun V hV => by go_simp⟩) J2 ?_
      try simp only [Act.put, List.getElem_toArray, List.getElem_cons_zero, List.getElem_cons_succ, List.setIfInBounds_toArray, List.set_cons_zero, List.set_cons_succ]
      refine wpAnyH_take (i := 7) (v := .bool b) rfl (by kernel_rfl) (by kernel_rfl) (by kernel_rfl) (fun _ _ _ h => nomatch h.1) (.inl ⟨by rfl, fun V hV => by go_simp⟩) J2 ?_
      try simp only [Act.put, List.getElem_toArray, List.getElem_cons_zero, List.getElem_cons_succ, List.setIfInBounds_toArray, List.set_cons_zero, List.set_cons_succ]
      refine wpAnyH_ready (rs := [9]) (by kernel_rfl) (by simp) ?_
      refine AllReadyH.cons rfl (fun K hK => ?_) AllReadyH.nil
      try simp only [Act.put, List.getElem_toArray, List.getElem_cons_zero, List.getElem_cons_succ, List.setIfInBounds_toArray, List.set_cons_zero, List.set_cons_succ]
      rw [if_pos (by rfl)]
      refine wp_store_blk 46 (.tmp 5) (.tmp 15) rfl V0.heap.size (ndC nl0) (ndC r) 46 rfl rfl kn2 rfl (nd_inf r) (nd_one r) ?_
      intro V9 hn9 n9
      have J9 : GvJ w0 gq go gi A1 m c1 L1 id V9 := J2.far n9 (by omega) (by omega) (by omega) (by omega) (fun g e => by have := hrw g e; omega) (fun x hx hl a ha => by have := (hC.row.nr x hx).prog_lt hl ha; omega)
      refine hK.out _ _ J9 (fun _ => ?_)
      clear hK K
      try simp only [Act.put, List.getElem_toArray, List.getElem_cons_zero, List.getElem_cons_succ, List.setIfInBounds_toArray, List.set_cons_zero, List.set_cons_succ]
      refine wpAnyH_ready (rs := [10]) (by kernel_rfl) (by simp) ?_
      refine AllReadyH.cons rfl (fun K hK => ?_) AllReadyH.nil
      try simp only [Act.put, List.getElem_toArray, List.getElem_cons_zero, List.getElem_cons_succ, List.setIfInBounds_toArray, List.set_cons_zero, List.set_cons_succ]
      go_simp
      refine hK.out _ _ J9 (fun _ => ?_)
      clear hK K
      try simp only [Act.put, List.getElem_toArray, List.getElem_cons_zero, List.getElem_cons_succ, List.setIfInBounds_toArray, List.set_cons_zero, List.set_cons_succ]
      refine wpAnyH_done (by kernel_rfl) ?_ _
      exact ⟨rfl, (r, b, V0.heap.size), rfl, J9, hn9, hr, by show _ < V0.heap.size; omega, by show _ < V0.heap.size; omega, fun g e => by have := hrw g e; show g < V0.heap.size; omega⟩
  · rintro ⟨r, b, g5⟩ V1 ⟨J1, kn, hr, hg5, hgq5, hrow5⟩
    simp only at J1 kn hr hg5 hgq5 hrow5 ⊢
    have hre := Lib.hid hr.eq
    have hch := Lib.hid (fun (V' : World) (hV : GvK w0 gq go gi g5 A1 m c1 L1 id r V') => children_any A1 m c1 L1 id V' hV.j.row.po HM.out hC.row.cap (by omega))
    unfold poV at hch
    have Jd : GvK w0 gq go gi g5 A1 m c1 L1 id r V1.drew := ⟨J1.drew, kn.drew⟩
    have HR := Lib.hid hrow5
    clear J1 kn hr hrow5
    have CC := Lib.hid (calls_keep (S := fun V => GvK w0 gq go gi g5 A1 m c1 L1 id r V) (fun V V' h hb => h.below hb) (fun V h => hch.out V h))
    have hne : Nonempty (Sig (fun V => GvK w0 gq go gi g5 A1 m c1 L1 id r V)) := ⟨⟨_, Jd⟩⟩
    have f0 : ∀ s' : Sig (fun V => GvK w0 gq go gi g5 A1 m c1 L1 id r V), s'.V.cell? ⟨gq, 0, none⟩ = some (.slice A1 m c1) := fun s' => s'.h.j.kq.cell 0
    have f1 : ∀ s' : Sig (fun V => GvK w0 gq go gi g5 A1 m c1 L1 id r V), s'.V.cell? ⟨gi, 0, none⟩ = some (.int .i64 id) := fun s' => s'.h.j.ki.cell 0
    have f4 : ∀ s' : Sig (fun V => GvK w0 gq go gi g5 A1 m c1 L1 id r V), s'.V.cell? ⟨g5, 4, none⟩ = some (.int .i64 r.1.k) := fun s' => s'.h.n.cell 4
    obtain ⟨kk, hkk⟩ : ∃ kk, kidsN L1 id = kk := ⟨_, rfl⟩
    have HKK := Lib.hid hkk
    rw [hkk] at CC
    clear hkk
    go_wp2_with fail
    cases b
    · refine region_class (S := fun V => GvK w0 gq go gi g5 A1 m c1 L1 id r V) (by kernel_rfl) (by kernel_rfl) Jd ?_
      repeat (go_big_quiet_step (first | (go_at_call 45; exact class_call _ CC.out)))
      refine wpQuiet_nil ?_
      rintro _ ⟨s7, rfl⟩
      have J7 := s7.h
      clear hne CC Jd f0 f1 f4
      go_wp2_with fail
      go_ret
      exact ⟨4, _, _, _, rfl, J7.j.kq, J7.j.kr, J7.j.b, .inl ⟨rfl, by unfold giveE; rw [hre.out]; rfl, J7.j.ko⟩⟩
    · refine region_class (S := fun V => GvK w0 gq go gi g5 A1 m c1 L1 id r V) (by kernel_rfl) (by kernel_rfl) Jd ?_
      repeat (go_big_quiet_step (first | (go_at_call 45; exact class_call _ CC.out)))
      refine wpQuiet_nil ?_
      rintro _ ⟨s7, rfl⟩
      have J7 := s7.h
      clear hne CC Jd f0 f1 f4
      cases hkq : (r.1.k == (kk : Int))
      · have HG0 : Hid (giveE L1 id = 0) := Lib.hid (by unfold giveE; rw [hre.out, HKK.out, if_pos ⟨rfl, by simpa using hkq⟩])
        clear hkq
        have hlv := Lib.hid (fun (V' : World) (hV : Below s7.V.heap.size s7.V V') => leaving_any A1 m c1 L1 U id V' (J7.j.below hV).row.po HM.out hC.row.cap (by omega) hU hUl)
        unfold poV at hlv
        generalize s7.V = V3 at J7 hlv ⊢
        go_wp2_with fail
        have S3 : GvA gq gi A1 m c1 id V3.drew := ⟨J7.j.kq.drew, J7.j.ki.drew⟩
        refine region_cutP ?_
        refine wp_region_held_drew (S := GvA gq gi A1 m c1 id) (by kernel_rfl) S3 (fun _ => ?_)
        refine wpAnyH_take (i := 0) (v := .pointer (some ⟨gq, 0, none⟩)) rfl (by kernel_rfl) (by kernel_rfl) (by kernel_rfl) (fun _ _ _ h => nomatch h.1) (.inl ⟨by rfl, fun V hV => by go_simp⟩) S3 ?_
        try simp only [Act.put, List.getElem_toArray, List.getElem_cons_zero, List.getElem_cons_succ, List.setIfInBounds_toArray, List.set_cons_zero, List.set_cons_succ]
        refine wpAnyH_take (i := 1) (v := .pointer (some ⟨gq, 0, none⟩)) rfl (by kernel_rfl) (by kernel_rfl) (by kernel_rfl) (fun _ _ _ h => nomatch h.1) (.inl ⟨by rfl, fun V hV => by go_simp⟩) S3 ?_
        try simp only [Act.put, List.getElem_toArray, List.getElem_cons_zero, List.getElem_cons_succ, List.setIfInBounds_toArray, List.set_cons_zero, List.set_cons_succ]
        refine wpAnyH_take (i := 2) (v := .agg #[.slice A1 m c1]) rfl (by kernel_rfl) (by kernel_rfl) (by kernel_rfl) (fun _ _ _ h => nomatch h.1) (yieldsIf_blk (by rfl) 24 (.tmp 31) rfl gq rfl #[.slice A1 m c1] 24 _ (fun _ h => h.kq) Tryz.underlying24 rfl rfl) S3 ?_
        try simp only [Act.put, List.getElem_toArray, List.getElem_cons_zero, List.getElem_cons_succ, List.setIfInBounds_toArray, List.set_cons_zero, List.set_cons_succ]
        refine wpAnyH_take (i := 3) (v := .int .i64 id) rfl (by kernel_rfl) (by kernel_rfl) (by kernel_rfl) (fun _ _ _ h => nomatch h.1) (.inl ⟨by rfl, fun V hV => by have c0 := hV.ki.cell 0; go_simp⟩) S3 ?_
        try simp only [Act.put, List.getElem_toArray, List.getElem_cons_zero, List.getElem_cons_succ, List.setIfInBounds_toArray, List.set_cons_zero, List.set_cons_succ]
        refine wpAnyH_ready (rs := [4]) (by kernel_rfl) (by simp) ?_
        refine AllReadyH.cons rfl (fun K hK => ?_) AllReadyH.nil
        try simp only [Act.put, List.getElem_toArray, List.getElem_cons_zero, List.getElem_cons_succ, List.setIfInBounds_toArray, List.set_cons_zero, List.set_cons_succ]
        go_simp
        refine (hlv.out V3.drew (Below.refl _ _).drew).mono ?_
        rintro e V4 ⟨G, gm, gc, rfl, hz, bb⟩
        have bb3 := (Below.refl V3.heap.size V3).drew.trans (bb.mono (Nat.le_refl _))
        have J4 := J7.j.below bb3
        have S4 : GvA gq gi A1 m c1 id V4 := ⟨J4.kq, J4.ki⟩
        have hz4 : Zp V4 V3.heap.size G gm gc ((goneU U).map fun x => x.1.i) := hz
        have hV34 : V3.heap.size ≤ V4.heap.size := bb3.size
        clear bb bb3 hz
        go_wp2_with fail
        refine hK.out _ _ S4 (fun _ => ?_)
        clear hK K
        try simp only [Act.put, List.getElem_toArray, List.getElem_cons_zero, List.getElem_cons_succ, List.setIfInBounds_toArray, List.set_cons_zero, List.set_cons_succ]
        refine wpAnyH_take (i := 5) (v := .tuple #[.slice G gm gc, .int .i64 (staysU U)]) rfl (by kernel_rfl) (by kernel_rfl) (by kernel_rfl) (fun _ _ _ h => nomatch h.1) (.inl ⟨by rfl, fun V hV => by go_simp⟩) S4 ?_
        try simp only [Act.put, List.getElem_toArray, List.getElem_cons_zero, List.getElem_cons_succ, List.setIfInBounds_toArray, List.set_cons_zero, List.set_cons_succ]
        refine wpAnyH_take (i := 6) (v := .slice G gm gc) rfl (by kernel_rfl) (by kernel_rfl) (by kernel_rfl) (fun _ _ _ h => nomatch h.1) (.inl ⟨by rfl, fun V hV => by go_simp⟩) S4 ?_
        try simp only [Act.put, List.getElem_toArray, List.getElem_cons_zero, List.getElem_cons_succ, List.setIfInBounds_toArray, List.set_cons_zero, List.set_cons_succ]
        refine wpAnyH_take (i := 7) (v := .int .i64 (staysU U)) rfl (by kernel_rfl) (by kernel_rfl) (by kernel_rfl) (fun _ _ _ h => nomatch h.1) (.inl ⟨by rfl, fun V hV => by go_simp⟩) S4 ?_
        try simp only [Act.put, List.getElem_toArray, List.getElem_cons_zero, List.getElem_cons_succ, List.setIfInBounds_toArray, List.set_cons_zero, List.set_cons_succ]
        refine wpAnyH_ready (rs := [8]) (by kernel_rfl) (by simp) ?_
        refine AllReadyH.cons rfl (fun K hK => ?_) AllReadyH.nil
        try simp only [Act.put, List.getElem_toArray, List.getElem_cons_zero, List.getElem_cons_succ, List.setIfInBounds_toArray, List.set_cons_zero, List.set_cons_succ]
        have c0 : V4.cell? ⟨go, 0, none⟩ = some (.slice none 0 0) := J4.ko.cell 0
        have f0 := J4.ko.frozen 0
        go_simp
        have nG : But go V4 (V4.setCell ⟨go, 0, none⟩ (.slice G gm gc)) := (But.refl _ V4).setCell (p := ⟨go, 0, none⟩) (.inl rfl) _
        have ko5 : Blk (V4.setCell ⟨go, 0, none⟩ (.slice G gm gc)) go #[.slice G gm gc] 36 := J4.ko.set_ 0 _
        have S5 : GvA gq gi A1 m c1 id (V4.setCell ⟨go, 0, none⟩ (.slice G gm gc)) := ⟨nG.blk7 S4.kq (by omega), nG.blk7 S4.ki hio⟩
        have kr5 := nG.blk7 J4.kr (by omega)
        have hno5 := J4.row.but nG (by omega) (fun y hy hl a ha => by have := hC.pr y hy a ha; omega)
        have b5 := J4.b.trans nG
        have hz5 := hz4.but nG (by have := J7.j.kq.lt; omega)
        have hs45 : V4.heap.size ≤ (V4.setCell ⟨go, 0, none⟩ (.slice G gm gc)).heap.size := nG.size
        generalize V4.setCell ⟨go, 0, none⟩ (.slice G gm gc) = V5 at nG ko5 S5 kr5 hno5 b5 hz5 hs45 ⊢
        clear nG
        refine hK.out _ _ S5 (fun _ => ?_)
        clear hK K
        try simp only [Act.put, List.getElem_toArray, List.getElem_cons_zero, List.getElem_cons_succ, List.setIfInBounds_toArray, List.set_cons_zero, List.set_cons_succ]
        refine wpAnyH_ready (rs := [9]) (by kernel_rfl) (by simp) ?_
        refine AllReadyH.cons rfl (fun K hK => ?_) AllReadyH.nil
        try simp only [Act.put, List.getElem_toArray, List.getElem_cons_zero, List.getElem_cons_succ, List.setIfInBounds_toArray, List.set_cons_zero, List.set_cons_succ]
        go_simp
        refine hK.out _ _ S5 (fun _ => ?_)
        clear hK K
        try simp only [Act.put, List.getElem_toArray, List.getElem_cons_zero, List.getElem_cons_succ, List.setIfInBounds_toArray, List.set_cons_zero, List.set_cons_succ]
        refine wpAnyH_done (by kernel_rfl) ?_ _
        refine ⟨rfl, ?_⟩
        have kq5 := S5.kq
        have hgq3 : gq < V3.heap.size := J7.j.kq.lt
        have hl3 : ∀ g, (Value.slice A1 m c1).ownBlock = some g → g < V3.heap.size := fun g e => (J7.j.row.own.lt g e).2
        clear S5 S4 S3 J4 hz4 J7 hlv
        obtain ⟨g, hA, hgq, hg3⟩ : ∃ g, (A1 = none ∨ A1 = some ⟨g, 0, none⟩) ∧ gq < g ∧ (g < V3.heap.size ∨ g = V5.heap.size) := by
          rcases hno5.form with ⟨h, _⟩ | ⟨g, h, h1, h2, _⟩
          · exact ⟨V5.heap.size, .inl h, kq5.lt, .inr rfl⟩
          · subst h
            exact ⟨g, .inr rfl, by omega, .inl (hl3 g rfl)⟩
        have hzr : ∀ r, (Value.slice G gm gc).ownBlock = some r → r ≠ g := fun r e => by have := hz5.row r e; omega
        have hgm : gm ≤ 1000000 := by
          have h1 := hz5.len
          rw [List.length_map] at h1
          have h2 : (goneU U).length ≤ U.length := (List.takeWhile_sublist _).length_le
          omega
        have HD := Lib.hid (del_any 48 #[.pointer (some ⟨go, 0, none⟩)] (fun x => ((goneU U).map fun y => y.1.i).contains x.i) (gq + 1) g m c1 A1 L1 V5 hA hno5 h6 (enters_of Tryz.func48 (by kernel_rfl) rfl) (fun x W hW hx => by
          have ko' := hW.blk7 ko5 (by omega)
          have hz' := hz5.ne hW hzr
          exact gone_any x G gm gc _ go W hz'.ri hz'.len hz'.cap hgm ko'.blk))
        have q5 : V5.cell? ⟨gq, 0, none⟩ = some (.slice A1 m c1) := kq5.cell 0
        go_wp2_with fail
        refine HD.out.mono ?_
        rintro e V6 ⟨m2, rfl, hm2, hno6, n6⟩
        have kq6 := n6.blk7 kq5 (by omega)
        have q6 : V6.cell? ⟨gq, 0, none⟩ = some (.slice A1 m c1) := kq6.cell 0
        have f6 := kq6.frozen 0
        have nQ : But gq V6 (V6.setCell ⟨gq, 0, none⟩ (.slice A1 m2 c1)) := (But.refl _ V6).setCell (p := ⟨gq, 0, none⟩) (.inl rfl) _
        have kq7 : Blk (V6.setCell ⟨gq, 0, none⟩ (.slice A1 m2 c1)) gq #[.slice A1 m2 c1] 24 := kq6.set_ 0 _
        have ko7 := nQ.blk7 (n6.blk7 ko5 (by omega)) (by omega)
        have kr7 := nQ.blk7 (n6.blk7 kr5 (by omega)) (by omega)
        have hz7 := (hz5.ne n6 hzr).ne nQ (fun r e => by have := (hz5.row r e).1; omega)
        have b7 := (b5.over n6 (by omega)).over nQ (by omega)
        change No V6 (gq + 1) A1 m2 c1 (leftN L1 U) at hno6
        have hpr6 : ∀ y ∈ leftN L1 U, ∀ a, y.2.1 = some a → gq < a.block := fun y hy => hC.pr y (List.mem_filter.1 hy).1
        have hno7 := hno6.but nQ (by omega) (fun y hy hl a ha => by have := hpr6 y hy a ha; omega)
        have hm26 : m2 ≤ 1000000 := by
          have h1 := hno6.len
          have h2 : (leftN L1 U).length ≤ L1.length := List.length_filter_le _ _
          have h3 := HM.out
          omega
        have PL := Lib.hid (place_any A1 m2 c1 (leftN L1 U) (staysU U) _ hno7.po hno7.len hno7.cap hm26)
        unfold poV at PL
        clear hno6 hm2 HD q5 kq5 ko5 kr5 hno5 b5 hz5 n6 kq6 nQ
        go_wp2_with fail
        refine PL.out.mono ?_
        rintro e V8 ⟨r8, rfl, hr8, bb⟩
        have kq8 := kq7.below bb kq7.lt
        have ko8 := ko7.below bb ko7.lt
        have kr8 := kr7.below bb kr7.lt
        have hz8 := hz7.below bb (Nat.le_refl _)
        have b8 := b7.trans (But.of_below bb go)
        have hno8 := hno7.below bb (Nat.le_refl _)
        have hzb : ∀ r, (Value.slice G gm gc).ownBlock = some r → gq + 1 ≤ r := fun r e => by have := (hz8.row r e).1; omega
        have q8 : V8.cell? ⟨gq, 0, none⟩ = some (.slice A1 m2 c1) := kq8.cell 0
        clear kq7 ko7 kr7 hz7 b7 hno7 bb PL q6 f6
        have key : (∃ k : Nat, r8 = k ∧ k < (leftN L1 U).length) ∨ r8 = -1 := by
          rcases hr8 with ⟨k, h1, h2, _⟩ | ⟨h1, _⟩
          · exact .inl ⟨k, h1, h2⟩
          · exact .inr h1
        have HR8 := Lib.hid hr8
        clear hr8
        rcases key with ⟨k, rfl, hk⟩ | rfl
        · obtain ⟨g', rfl, hg1, hg2⟩ := hno8.at0 (by omega)
          have hl8 := hno8.len
          have hkm : (k : Int) < (m2 : Int) := by omega
          obtain ⟨kx, hkx⟩ : ∃ kx, ((leftN L1 U).getD k nl0).1.k = kx := ⟨_, rfl⟩
          have hc4 : V8.cell? ⟨g', k * 7 + 4, none⟩ = some (.int .i64 kx) := by
            rw [hno8.own.cellAt (k * 7 + 4) (by omega), flatN_get _ k 4 hk (by omega), ← hkx]
            rfl
          have hfz : V8.frozen? ⟨g', k * 7 + 4, none⟩ = false := hno8.own.frozenAt _
          obtain ⟨kk0, kk1⟩ := (hno8.nr _ (getD_mem hk)).ok.k
          rw [hkx] at kk0 kk1
          have HKX := Lib.hid hkx
          have HK := Lib.hid hk
          have HL8 := Lib.hid hl8
          obtain ⟨kw, hkw⟩ : ∃ kw, IntKind.i64.wrap (kx - 1) = kw := ⟨_, rfl⟩
          have HKW := Lib.hid hkw
          clear hkx hkw hl8 hk
          go_wp2_with fail
          go_ret
          have hw1 : wrap64 (kx - 1) = IntKind.i64.wrap (kx - 1) := by simp [wrap64, IntKind.wrap_i64]
          rw [hw1]
          have hgg : g' = g := by
            rcases hA with h | h
            · cases h
            · cases h; rfl
          have nC : But g' V8 (V8.setCell ⟨g', k * 7 + 4, none⟩ (.int .i64 (IntKind.i64.wrap (kx - 1)))) := (But.refl g' V8).setCell (p := ⟨g', k * 7 + 4, none⟩) (.inl rfl) _
          have hcnt := hno8.count (k := k) HK.out (v := IntKind.i64.wrap (kx - 1)) (wrapI64 _)
          exact ⟨0, _, _, _, rfl, kq8.far (by simp; omega) _, kr8.far (by simp; omega) _, b8.setCell (p := ⟨g', k * 7 + 4, none⟩) (.inr (by simp; omega)) _, .inr ⟨rfl, HG0.out, G, gm, gc, ko8.far (by simp; omega) _, (hz8.ne nC (fun r e => by rw [hgg]; exact hzr r e)).down (by omega), .inr ⟨k, HR8.out, HK.out, by rw [HKX.out]; exact hcnt⟩⟩⟩
        · go_wp2_with fail
          go_ret
          exact ⟨0, _, _, _, rfl, kq8, kr8, b8, .inr ⟨rfl, HG0.out, G, gm, gc, ko8, hz8.down (by omega), .inl ⟨HR8.out, hno8⟩⟩⟩
      · have HG0 : Hid (giveE L1 id = 4) := Lib.hid (by unfold giveE; rw [hre.out, HKK.out, if_neg (fun h => h.2 (by simpa using hkq))])
        clear hkq
        go_wp2_with fail
        go_ret
        exact ⟨4, _, _, _, rfl, J7.j.kq, J7.j.kr, J7.j.b, .inl ⟨rfl, HG0.out, J7.j.ko⟩⟩
end Go.Proofs.YtelfdpcenplhjaaGreatDoor
namespace Go.Proofs.YtelfdpcenplhjaaGreatDoor
open Go.RowKit Go.Shelf
set_option linter.unusedVariables false
set_option linter.unusedSimpArgs false
theorem up_z {L : List Nl} (hL : ∀ x ∈ L, NmOk x.1 ∧ standV L x.1 = true) {id : Int} {U : List Nl} (h : Up L id U) : 4 * (U.length : Int) ≤ (idR L id).1.1.z := by
  induction h with
  | nil h => rw [h]; decide
  | @cons id r xs h1 h2 ih =>
    rw [h1]
    obtain ⟨hr, _⟩ := idR_some h1
    obtain ⟨ok, hs⟩ := hL r hr
    unfold standV at hs
    simp only [Bool.and_eq_true, beq_iff_eq, decide_eq_true_eq] at hs
    obtain ⟨⟨⟨⟨_, _⟩, hz⟩, _⟩, _⟩ := hs
    have hp : (idR L r.1.p).1.1.z ≤ 256 := by
      cases hq : idR L r.1.p with
      | mk y b =>
        cases b with
        | false => rw [idR_none hq] at hq; cases hq; decide
        | true =>
          obtain ⟨hy, _⟩ := idR_some hq
          have h3 := (hL y hy).2
          unfold standV at h3
          simp only [Bool.and_eq_true, beq_iff_eq, decide_eq_true_eq] at h3
          exact h3.1.2
    have hl := ok.l
    rw [IntKind.wrap_i64] at hz
    simp only [List.length_cons]
    show 4 * ((xs.length + 1 : Nat) : Int) ≤ r.1.z
    omega
theorem up_short {L : List Nl} (hN : ∀ x ∈ L, NmOk x.1) (h : chkP L = 0) {id : Int} {U : List Nl} (hU : Up L id U) : U.length ≤ 1000000 := by
  have hL := chk_stand hN h
  have h1 := up_z hL hU
  have h2 : (idR L id).1.1.z ≤ 256 := by
    cases hq : idR L id with
    | mk y b =>
      cases b with
      | false => rw [idR_none hq] at hq; cases hq; decide
      | true =>
        obtain ⟨hy, _⟩ := idR_some hq
        have h3 := (hL y hy).2
        unfold standV at h3
        simp only [Bool.and_eq_true, beq_iff_eq, decide_eq_true_eq] at h3
        exact h3.1.2
  omega
theorem giveE_names {L M : List Nl} (h : L.map (·.1) = M.map (·.1)) (id : Int) : giveE L id = giveE M id := by unfold giveE; rw [(idR_names h id).1, (idR_names h id).2, kids_names h]
def GvL (L1 U L2 : List Nl) : Prop := (PlaceR (leftN L1 U) (staysU U) (-1) ∧ L2 = leftN L1 U) ∨ ∃ k : Nat, PlaceR (leftN L1 U) (staysU U) k ∧ k < (leftN L1 U).length ∧ L2 = (leftN L1 U).set k (cntN ((leftN L1 U).getD k nl0) (IntKind.i64.wrap (((leftN L1 U).getD k nl0).1.k - 1)))
def GiveO (w : World) (L : List Nl) (id : Int) (e : Ending) (w' : World) : Prop :=
  Below w.heap.size w w' ∧
  ((¬ chkP L = 0 ∧ e = .returned (.tuple #[poV none 0 0, .slice none 0 0, .int .i64 (chkP L)])) ∨
   (chkP L = 0 ∧ giveE L id = 4 ∧ e = .returned (.tuple #[poV none 0 0, .slice none 0 0, .int .i64 4])) ∨
   (chkP L = 0 ∧ giveE L id = 0 ∧ ∃ L1 U G gm gc A2 m2 c2 L2, L1.map (·.1) = L.map (·.1) ∧ Up L1 id U ∧ Zp w' w.heap.size G gm gc ((goneU U).map fun x => x.1.i) ∧ No w' w.heap.size A2 m2 c2 L2 ∧ GvL L1 U L2 ∧ e = .returned (.tuple #[poV A2 m2 c2, .slice G gm gc, .int .i64 0])))
structure GvD (gt go : Nat) (A2 : Option Addr) (m2 c2 : Nat) (G : Option Addr) (gm gc : Nat) (V : World) : Prop where
  k : Blk V gt #[.slice A2 m2 c2] 24
  n : Blk V go #[.slice G gm gc] 36
set_option maxRecDepth 100000 in
set_option maxHeartbeats 4000000 in
theorem give_any (A : Option Addr) (m c : Nat) (L : List Nl) (id : Int) (w : World) (hK : Kinds w) (hP : Po w w.heap.size A L) (hm : m = L.length) (hmc : m ≤ c) (h6 : m ≤ 100000) (hg : ∀ x ∈ L, x.1.g.length ≤ 300) :
    Calls Tryz.prog 17 #[poV A m c, .int .i64 id] w fun e w' => GiveO w L id e w' := by
  obtain ⟨wa, hwa⟩ : ∃ wa, wa = w.alloc (.cells #[.slice A m c] 24) := ⟨_, rfl⟩
  obtain ⟨wb, hwb⟩ : ∃ wb, wb = wa.alloc (.cells #[.int .i64 id] 3) := ⟨_, rfl⟩
  obtain ⟨wc, hwc⟩ : ∃ wc, wc = wb.alloc (.cells #[.slice none 0 0] 24) := ⟨_, rfl⟩
  obtain ⟨w0, hw0⟩ : ∃ w0, w0 = wc.alloc (.cells #[.slice none 0 0] 36) := ⟨_, rfl⟩
  have sa : wa.heap.size = w.heap.size + 1 := by rw [hwa]; simp
  have sb : wb.heap.size = w.heap.size + 1 + 1 := by rw [hwb]; simp [sa]
  have sc : wc.heap.size = w.heap.size + 1 + 1 + 1 := by rw [hwc]; simp [sb]
  have s0 : w0.heap.size = w.heap.size + 1 + 1 + 1 + 1 := by rw [hw0]; simp [sc]
  have k2 : Blk w0 w.heap.size #[.slice A m c] 24 := by rw [hw0, hwc, hwb, hwa]; exact (((Blk.new w _ _).alloc _).alloc _).alloc _
  have k3 : Blk w0 (w.heap.size + 1) #[.int .i64 id] 3 := by rw [hw0, hwc, hwb]; exact ((Blk.new_ wa _ _ sa).alloc _).alloc _
  have k4 : Blk w0 (w.heap.size + 1 + 1) #[.slice none 0 0] 24 := by rw [hw0, hwc]; exact (Blk.new_ wb _ _ sb).alloc _
  have k7 : Blk w0 (w.heap.size + 1 + 1 + 1) #[.slice none 0 0] 36 := by rw [hw0]; exact Blk.new_ wc _ _ sc
  have B0 : Below w.heap.size w w0 := by rw [hw0, hwc, hwb, hwa]; exact ((((Below.refl _ w).alloc (Nat.le_refl _) _).alloc (by simp) _).alloc (by simp; omega) _).alloc (by simp; omega) _
  have CH := changed_any 43 #[.pointer (some ⟨w.heap.size + 1, 0, none⟩), .pointer (some ⟨w.heap.size + 1 + 1 + 1, 0, none⟩)] A m c L w0 (hK.below B0 hK.pos) ((hP.below B0 (Nat.le_refl _)).more B0.size) hm hmc (by omega) hg
    (enters_of Tryz.func43 (by kernel_rfl) rfl) (fun V gq A1 c1 L1 V' er A2 m2 c2 => ∃ U, Up L1 id U ∧ gq + 1 > w0.heap.size + 1 ∧ GvR w0 (w.heap.size + 1 + 1 + 1) id gq L1 U V' er A2 m2 c2)
    (fun V gq A1 c1 L1 hC hk => by
      have hk1 : chkP L1 = 0 := by rw [chkP_names hC.names]; exact hk
      have hN1 : ∀ x ∈ L1, NmOk x.1 := fun x hx => (hC.row.nr x hx).ok
      obtain ⟨U, hU⟩ := chk_up hN1 hk1 id
      refine (give1_ch id w0 (w.heap.size + 1) (w.heap.size + 1 + 1 + 1) m _ V gq A1 c1 L1 hC h6 (by omega) (by omega) (by omega) (k3.below hC.b k3.lt) (k7.below hC.b k7.lt) U hU (up_short hN1 hk1 hU)).mono ?_
      rintro e V' ⟨er, A2, m2, c2, h1, h2, h3, h4⟩
      exact ⟨er, A2, m2, c2, h1, h2, h3, U, hU, by have := hC.gt; omega, h4⟩)
  have HM := Lib.hid hm
  unfold GiveO
  clear hm
  unfold poV at CH ⊢
  rw [hw0, hwc, hwb, hwa] at k2 CH
  go_enter Tryz.func17, Tryz.ntmps17
  go_wp2_with (refine wpList_load_row rfl 24 (.tmp 2) rfl w.heap.size rfl 24 #[.slice A m c] (0, 0) _ k2.blk Tryz.underlying24 rfl (po_info A m c) ?_)
  refine CH.mono ?_
  rintro e w1 h1
  rw [← hwa, ← hwb, ← hwc, ← hw0] at h1
  obtain ⟨A2, m2, c2, er, G, gm, gc, rfl, hn1, hb1, hout⟩ : ∃ A2 m2 c2 er G gm gc, e = .returned (.tuple #[.agg #[.slice A2 m2 c2], .int .i64 er]) ∧ Blk w1 (w.heap.size + 1 + 1 + 1) #[.slice G gm gc] 36 ∧ But (w.heap.size + 1 + 1 + 1) w0 w1 ∧
      ((¬ chkP L = 0 ∧ A2 = none ∧ m2 = 0 ∧ c2 = 0 ∧ er = chkP L ∧ G = none ∧ gm = 0 ∧ gc = 0) ∨ (chkP L = 0 ∧ giveE L id = 4 ∧ A2 = none ∧ m2 = 0 ∧ c2 = 0 ∧ er = 4 ∧ G = none ∧ gm = 0 ∧ gc = 0) ∨
       (chkP L = 0 ∧ giveE L id = 0 ∧ er = 0 ∧ ∃ L1 U L2 b, L1.map (·.1) = L.map (·.1) ∧ Up L1 id U ∧ w0.heap.size + 1 < b ∧ Zp w1 b G gm gc ((goneU U).map fun x => x.1.i) ∧ No w1 b A2 m2 c2 L2 ∧ (∀ x ∈ L2, ∀ a, x.2.1 = some a → w0.heap.size < a.block) ∧ GvL L1 U L2)) := by
    rcases h1 with ⟨h0, rfl, bb⟩ | ⟨h0, V, gq, A1, c1, L1, V', er, A2, m2, c2, hC, ⟨U, hU, hgq, hBw, hR⟩, hB, hE⟩
    · exact ⟨_, _, _, _, _, _, _, rfl, k7.below bb k7.lt, But.of_below bb _, .inl ⟨h0, rfl, rfl, rfl, rfl, rfl, rfl, rfl⟩⟩
    · have hnm := hC.names
      have hgt := hC.gt
      have hB1 : But (w.heap.size + 1 + 1 + 1) w0 w1 := hBw.over hB (by omega)
      rcases hR with ⟨rfl, hg4, hk4⟩ | ⟨rfl, hg0, G, gm, gc, hkG, hz, hno⟩
      · obtain rfl : e = .returned (.tuple #[.agg #[.slice none 0 0], .int .i64 4]) := by
          rcases hE with ⟨h, _⟩ | ⟨_, h⟩
          · exact absurd h (by decide)
          · exact h
        exact ⟨_, _, _, _, _, _, _, rfl, hB.blk7 hk4 (by omega), hB1, .inr (.inl ⟨h0, by rw [← giveE_names hnm]; exact hg4, rfl, rfl, rfl, rfl, rfl, rfl, rfl⟩)⟩
      · obtain rfl : e = .returned (.tuple #[.agg #[.slice A2 m2 c2], .int .i64 0]) := by
          rcases hE with ⟨_, h⟩ | ⟨h, _⟩
          · exact h
          · exact absurd rfl h
        have hpr : ∀ (L3 : List Nl), No V' (gq + 1) A2 m2 c2 L3 → (∀ x ∈ L3, ∃ y ∈ L1, x.2 = y.2) → No w1 (gq + 1) A2 m2 c2 L3 ∧ ∀ x ∈ L3, ∀ a, x.2.1 = some a → w0.heap.size < a.block := fun L3 h3 h4 => by
          have h5 : ∀ x ∈ L3, ∀ a, x.2.1 = some a → gq < a.block := fun x hx a ha => by
            obtain ⟨y, hy, e⟩ := h4 x hx
            exact hC.pr y hy a (by rw [← e]; exact ha)
          exact ⟨h3.but hB (by omega) (fun x hx _ a ha => by have := h5 x hx a ha; omega), fun x hx a ha => by have := h5 x hx a ha; omega⟩
        have hz1 := hz.but hB (by omega)
        refine ⟨_, _, _, _, G, gm, gc, rfl, hB.blk7 hkG (by omega), hB1, .inr (.inr ⟨h0, by rw [← giveE_names hnm]; exact hg0, rfl, L1, U, ?_⟩)⟩
        rcases hno with ⟨hp, hno⟩ | ⟨k, hp, hk, hno⟩
        · exact ⟨_, gq + 1, hnm, hU, by omega, hz1, (hpr _ hno (fun x hx => ⟨x, (List.mem_filter.1 hx).1, rfl⟩)).1, (hpr _ hno (fun x hx => ⟨x, (List.mem_filter.1 hx).1, rfl⟩)).2, .inl ⟨hp, rfl⟩⟩
        · obtain ⟨h6, h7⟩ := hpr _ hno (fun x hx => by
            rcases mem_set_or hx with h5 | h5
            · exact ⟨x, (List.mem_filter.1 h5).1, rfl⟩
            · exact ⟨_, (List.mem_filter.1 (getD_mem hk)).1, by rw [h5]; rfl⟩)
          exact ⟨_, gq + 1, hnm, hU, by omega, hz1, h6, h7, .inr ⟨k, hp, hk, rfl⟩⟩
  have HO := Lib.hid hout
  have k41 := hb1.blk7 k4 (by omega)
  have B1 : Below w.heap.size w w1 := B0.trans (hb1.below _ (by omega) (by omega))
  have s1 : w0.heap.size ≤ w1.heap.size := hb1.size
  clear h1 hout CH hb1 k2 k3 k4 k7 hwa hwb hwc hw0 sa sb sc
  go_wp2_with fail
  show Code.wp _ _ _ _ (w1.alloc (.cells #[.slice A2 m2 c2] 24))
  have kt : Blk (w1.alloc (.cells #[.slice A2 m2 c2] 24)) w1.heap.size #[.slice A2 m2 c2] 24 := Blk.new w1 _ _
  have bt : Below w1.heap.size w1 (w1.alloc (.cells #[.slice A2 m2 c2] 24)) := (Below.refl _ w1).alloc (Nat.le_refl _) _
  generalize (w1.alloc (.cells #[.slice A2 m2 c2] 24)) = w2 at kt bt ⊢
  have S0 : GvD w1.heap.size (w.heap.size + 1 + 1 + 1) A2 m2 c2 G gm gc w2.drew := ⟨kt.drew, (hn1.below bt hn1.lt).drew⟩
  have k42 := (k41.below bt k41.lt).drew
  have bt2 := bt.drew
  clear kt
  refine region_cutP ?_
  refine wp_region_held_drew (S := GvD w1.heap.size (w.heap.size + 1 + 1 + 1) A2 m2 c2 G gm gc) (by kernel_rfl) S0 (fun _ => ?_)
  generalize w2.drew = w3 at S0 k42 bt2 ⊢
  refine wpAnyH_take (i := 0) (v := .agg #[.slice A2 m2 c2]) rfl (by kernel_rfl) (by kernel_rfl) (by kernel_rfl) (fun _ _ _ h => nomatch h.1) (yieldsIf_blk (by rfl) 24 (.tmp 8) rfl w1.heap.size rfl #[.slice A2 m2 c2] 24 _ (fun _ h => h.k) Tryz.underlying24 rfl rfl) S0 ?_
  try simp only [Act.put, List.getElem_toArray, List.getElem_cons_zero, List.getElem_cons_succ, List.setIfInBounds_toArray, List.set_cons_zero, List.set_cons_succ]
  refine wpAnyH_take (i := 1) (v := .slice G gm gc) rfl (by kernel_rfl) (by kernel_rfl) (by kernel_rfl) (fun _ _ _ h => nomatch h.1) (.inl ⟨by rfl, fun V hV => by have c0 := hV.n.cell 0; go_simp⟩) S0 ?_
  try simp only [Act.put, List.getElem_toArray, List.getElem_cons_zero, List.getElem_cons_succ, List.setIfInBounds_toArray, List.set_cons_zero, List.set_cons_succ]
  refine wpAnyH_take (i := 2) (v := .int .i64 er) rfl (by kernel_rfl) (by kernel_rfl) (by kernel_rfl) (fun _ _ _ h => nomatch h.1) (.inl ⟨by rfl, fun V hV => by go_simp⟩) S0 ?_
  try simp only [Act.put, List.getElem_toArray, List.getElem_cons_zero, List.getElem_cons_succ, List.setIfInBounds_toArray, List.set_cons_zero, List.set_cons_succ]
  refine wpAnyH_ready (rs := [3]) (by kernel_rfl) (by simp) ?_
  refine AllReadyH.cons rfl (fun K hK => ?_) AllReadyH.nil
  try simp only [Act.put, List.getElem_toArray, List.getElem_cons_zero, List.getElem_cons_succ, List.setIfInBounds_toArray, List.set_cons_zero, List.set_cons_succ]
  rw [if_pos (by rfl)]
  refine wp_store_blk 24 (.tmp 4) (.tmp 16) rfl (w.heap.size + 1 + 1) #[.slice none 0 0] #[.slice A2 m2 c2] 24 rfl rfl k42 rfl (po_info A2 m2 c2) (by simp [Value.oneCell']) ?_
  intro w4 k44 n4
  have S4 : GvD w1.heap.size (w.heap.size + 1 + 1 + 1) A2 m2 c2 G gm gc w4 := ⟨n4.blk7 S0.k (by omega), n4.blk7 S0.n (by omega)⟩
  refine hK.out _ _ S4 (fun _ => ?_)
  clear hK K
  try simp only [Act.put, List.getElem_toArray, List.getElem_cons_zero, List.getElem_cons_succ, List.setIfInBounds_toArray, List.set_cons_zero, List.set_cons_succ]
  refine wpAnyH_ready (rs := [4]) (by kernel_rfl) (by simp) ?_
  refine AllReadyH.cons rfl (fun K hK => ?_) AllReadyH.nil
  try simp only [Act.put, List.getElem_toArray, List.getElem_cons_zero, List.getElem_cons_succ, List.setIfInBounds_toArray, List.set_cons_zero, List.set_cons_succ]
  go_simp
  refine hK.out _ _ S4 (fun _ => ?_)
  clear hK K
  try simp only [Act.put, List.getElem_toArray, List.getElem_cons_zero, List.getElem_cons_succ, List.setIfInBounds_toArray, List.set_cons_zero, List.set_cons_succ]
  refine wpAnyH_ready (rs := [5]) (by kernel_rfl) (by simp) ?_
  refine AllReadyH.cons rfl (fun K hK => ?_) AllReadyH.nil
  try simp only [Act.put, List.getElem_toArray, List.getElem_cons_zero, List.getElem_cons_succ, List.setIfInBounds_toArray, List.set_cons_zero, List.set_cons_succ]
  go_simp
  refine hK.out _ _ S4 (fun _ => ?_)
  clear hK K
  try simp only [Act.put, List.getElem_toArray, List.getElem_cons_zero, List.getElem_cons_succ, List.setIfInBounds_toArray, List.set_cons_zero, List.set_cons_succ]
  refine wpAnyH_done (by kernel_rfl) ?_ _
  refine ⟨rfl, ?_⟩
  go_wp2_with fail
  refine bodyPost_ret (results_row_tmp2 rfl _ _ (w.heap.size + 1 + 1) 24 #[.slice A2 m2 c2] _ rfl k44 Tryz.underlying24 rfl (po_info A2 m2 c2) _ _ rfl rfl) rfl ?_
  have B4 : Below w.heap.size w w4 := (B1.trans (bt2.mono (by omega))).trans (n4.below _ (by omega) (by have := bt2.size; omega))
  refine ⟨B4, ?_⟩
  rcases HO.out with ⟨h0, rfl, rfl, rfl, rfl, rfl, rfl, rfl⟩ | ⟨h0, he, rfl, rfl, rfl, rfl, rfl, rfl, rfl⟩ | ⟨h0, he, rfl, L1, U, L2, b, h1, h2, h3, hz, hno, hpp, hl⟩
  · exact .inl ⟨h0, rfl⟩
  · exact .inr (.inl ⟨h0, he, rfl⟩)
  · have hz4 := (hz.below bt2 (Nat.le_refl _)).but n4 (by omega)
    have hp4 : No w4 b A2 m2 c2 L2 := (hno.below bt2 (Nat.le_refl _)).but n4 (by omega) (fun x hx _ a ha => by have := hpp x hx a ha; omega)
    exact .inr (.inr ⟨h0, he, L1, U, G, gm, gc, A2, m2, c2, L2, h1, h2, hz4.down (by omega), hp4.down (by omega), hl, rfl⟩)
end Go.Proofs.YtelfdpcenplhjaaGreatDoor
namespace Go.Proofs.YtelfdpcenplhjaaGreatDoor
open Go.RowKit Go.Shelf
set_option linter.unusedVariables false
set_option linter.unusedSimpArgs false
structure SR (w V : World) (x y : Nl) : Prop where
  k1 : Blk V w.heap.size (ndC x) 46
  k2 : Blk V (w.heap.size + 1) (ndC y) 46
  old : Below w.heap.size w V
theorem SR.below {w V V' : World} {x y : Nl} (h : SR w V x y) (hb : Below V.heap.size V V') : SR w V' x y := ⟨h.k1.below hb h.k1.lt, h.k2.below hb h.k2.lt, h.old.trans (hb.mono h.old.size)⟩
end Go.Proofs.YtelfdpcenplhjaaGreatDoor

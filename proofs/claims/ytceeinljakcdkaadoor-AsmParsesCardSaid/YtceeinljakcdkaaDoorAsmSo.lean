/-
  The reference's One, walked.
-/
import Derived.Test.YtceeinljakcdkaaDoorAsmSn
import Derived.Test.YtceeinljakcdkaaDoorAsmOne
import Derived.Test.YtceeinljakcdkaaDoorNamedEnd
import Derived.Test.YtceeinljakcdkaaDoorRefCodes
namespace Go.Proofs.YtceeinljakcdkaaDoor
open Go.RowKit Go.Shelf

theorem cell_blk8 {w w' : World} {g : Nat} (h : w'.heap[g]? = w.heap[g]?) (j : Nat) : w'.cell? ⟨g, j, none⟩ = w.cell? ⟨g, j, none⟩ := by simp [World.cell?, h]
/-- What lies in memory while a line is read. -/
structure RO (w : World) (gs : Nat) (ps : List (List UInt8)) (V : World) : Prop where
  res : Blk V w.heap.size (celI (0, 0, 0, 0)).toArray 32
  bel : Below w.heap.size w V
  str : ∀ (j : Nat) (h : j < ps.length), V.cell? ⟨gs, j, none⟩ = some (.string (bs ps[j]))
  lt : gs < V.heap.size
  gt : w.heap.size < gs
theorem RO.below {w V V' : World} {gs : Nat} {ps : List (List UInt8)} (h : RO w gs ps V) (hb : Below V.heap.size V V') : RO w gs ps V' :=
  ⟨h.res.below hb h.res.lt, h.bel.trans (hb.mono h.bel.size), fun j hj => (hb.cell (p := ⟨gs, j, none⟩) h.lt).trans (h.str j hj), Nat.lt_of_lt_of_le h.lt hb.size, h.gt⟩
theorem RO.but {w V V' : World} {gs g : Nat} {ps : List (List UInt8)} (h : RO w gs ps V) (hb : But g V V') (h1 : g ≠ w.heap.size) (h2 : g ≠ gs) (h3 : w.heap.size ≤ g) : RO w gs ps V' :=
  ⟨⟨(hb.block _ h.res.lt h1.symm).trans h.res.blk⟩, h.bel.trans (hb.below _ h3 h.bel.size), fun j hj => (cell_blk8 (hb.block gs h.lt h2.symm) j).trans (h.str j hj), Nat.lt_of_lt_of_le h.lt hb.size, h.gt⟩
theorem wpList_store_fld8 {P : Program} {ops : Array Oper} {rest : List Oper} {o : Oper} {a : Act} {w : World} {Q : Exit → Act → World → Prop} (hgd : o.guard = none) (ty : TypeId) (x y : Operand) (ho : o.op = .store ty x y)
    (g k : Nat) (cs : Array Value) (t : TypeId) (v : Value) (hx : a.eval x = .pointer (some ⟨g, k, none⟩)) (hy : a.eval y = v) (hb : Blk w g cs t) (hk : k < cs.size)
    (hi : (P.info? ty).map (·.size) = some 1) (hv : v.cells = #[v]) (h1 : v.oneCell' = true) (h : ∀ w', Blk w' g (cs.setIfInBounds k v) t → But g w w' → wpList P ops Q rest (a.put o.dst undef) w') : wpList P ops Q (o :: rest) a w := by
  refine wpList_plain hgd fun K hK => ?_
  have hs := run_storeCells_at (P := P) g k t [v] 0 cs w hb.blk (by simp; omega) (fun u hu => by simp at hu; subst hu; exact h1)
  have e : (cs.toList.take (k + 0) ++ [v] ++ cs.toList.drop (k + 0 + [v].length)).toArray = cs.setIfInBounds k v := by
    apply Array.ext'
    simp [List.set_eq_take_append_cons_drop, hk]
  rw [e] at hs
  cases hq : P.info? ty with
  | none => simp [hq] at hi
  | some i =>
    have hs' : i.size = 1 := by simpa [hq] using hi
    have hrun : (storeVar ty ⟨g, k, none⟩ v).run P w = .ok () (w.setRow g (cs.setIfInBounds k v)) := by simp [storeVar, sizeOf, typeInfo, hq, hv, hs', hs]
    unfold Oper.wp execOp
    simp only [ho, hx, hy, Instr.storeAt, Instr.sureAddr, Sem.run_bind, Sem.run_pure, Result.andThen_ok, hrun]
    have q := setRow_blk (cs' := cs.setIfInBounds k v) hb
    exact hK _ _ (h _ q.1 q.2)
theorem RO.set {w V : World} {gs : Nat} {ps : List (List UInt8)} (h : RO w gs ps V) {p : Addr} (h1 : p.block ≠ w.heap.size) (h2 : p.block ≠ gs) (h3 : w.heap.size ≤ p.block) (v : Value) : RO w gs ps (V.setCell p v) :=
  ⟨h.res.far h1.symm v, h.bel.setCell h3 v, fun j hj => (cell_blk8 (Below.heap_setCell _ _ _ _ h2.symm) j).trans (h.str j hj), by simpa [World.setCell] using h.lt, h.gt⟩
theorem RO.drew {w V : World} {gs : Nat} {ps : List (List UInt8)} (h : RO w gs ps V) : RO w gs ps V.drew := ⟨h.res.drew, h.bel.drew, h.str, h.lt, h.gt⟩
set_option maxRecDepth 100000 in
set_option maxHeartbeats 16000000 in
theorem rone_any (l : List UInt8) (hl : l.length ≤ 100000) (w : World) :
    Calls Tryd.prog 18 #[.string (bs l)] w fun e w' => e = .returned (.tuple #[oneV (oneB l), .bool (oneB l).isSome]) ∧ Below w.heap.size w w' := by
  have hsplit := fun w => split_any8 l hl w
  have hsp := split_part l
  have hbl := part_snd l
  unfold oneB
  obtain ⟨P, hP⟩ : ∃ P, (partL l).1 = P := ⟨_, rfl⟩
  obtain ⟨r, hr⟩ : ∃ r, (partL l).2 = r := ⟨_, rfl⟩
  rw [hP, hr] at hsp
  rw [hr] at hbl
  rw [hP, hr]
  rw [hsp] at hsplit
  have hname := fun w => byname_any (bs P) w
  have g0 := Blk.new w (celI (0, 0, 0, 0)).toArray 32
  have hB0 : Below w.heap.size w (w.alloc (.cells (celI (0, 0, 0, 0)).toArray 32)) := (Below.refl _ w).alloc (Nat.le_refl _) _
  by_cases hkn : (codeOf (bs P)).2 = true
  · rw [if_pos hkn]
    rw [hkn] at hname
    obtain ⟨i, hi, e1, e2⟩ := code_row hkn
    have hc0 := kC_rng hi
    have hfm : 0 ≤ formOf (kC i) := by
      have hall : ((List.range 41).all fun i => decide (0 ≤ kF i)) = true := by decide
      unfold formOf
      rw [row_kC hi]
      simpa using List.all_eq_true.1 hall i (List.mem_range.2 hi)
    rw [e1] at hname ⊢
    generalize kC i = c at hname hc0 hfm ⊢
    rw [tail_eq c hfm r hbl]
    have hform := fun w => refform_any c w hc0.1
    obtain ⟨t, ht⟩ : ∃ t, restR r = t := ⟨_, rfl⟩
    rw [ht] at hsplit ⊢
    obtain ⟨f, hf⟩ : ∃ f, formOf c = f := ⟨_, rfl⟩
    obtain ⟨o, ho⟩ : ∃ o, tailR c t = o := ⟨_, rfl⟩
    rw [hf] at hform
    rw [ho]
    have HO := Lib.hid ho
    have HF := Lib.hid hf
    have HC := Lib.hid hc0
    have hfs : f = 0 ∨ f = 5 ∨ f = 6 ∨ f = 1 ∨ f = 2 ∨ f = 3 ∨ f = 4 := by have := form_cases c; omega
    have HFM := Lib.hid hfm
    clear hsp hbl hP hr ht hkn hi e1 e2 hf ho hc0 hfm
    go_enter Tryd.func18, Tryd.ntmps18
    go_wp2_with (go_at_call 44; refine (hsplit _).mono ?_; rintro e w1 ⟨v, rfl, hown, hb1⟩; refine Hid.out ?_)
    refine Lib.hid ?_
    have hsl : (stC8 (P :: t)).length = t.length + 1 := by simp [stC8]
    obtain ⟨gs, cap, rfl, hg, hcs⟩ := own_head hown (by simp)
    have hgs : w.heap.size < gs := by have := (hown.lt gs rfl).1; simp at this; omega
    have R1 : RO w gs (P :: t) w1 := ⟨g0.below hb1 (by simp), hB0.trans (hb1.mono (by simp)), fun j hj => hcs j _ (by unfold stC8; rw [List.getElem?_map, List.getElem?_eq_getElem hj]; rfl), hg, hgs⟩
    have c0 := R1.str 0 (by simp)
    simp only [List.getElem_cons_zero] at c0
    have hlc : t.length + 1 ≤ cap := by
      rcases hown.2 with ⟨hv, _⟩ | ⟨g, cap', cur, hv, _, _, hnc, _⟩
      · cases hv
      · injection hv with _ _ h3
        simp at hnc
        omega
    clear hsplit hown hb1 hsl hg hgs hcs g0 hB0
    go_wp2_with (go_at_call 45; refine (hname _).mono ?_; rintro e w2 ⟨rfl, hb2⟩; refine Hid.out ?_)
    refine Lib.hid ?_
    have R2 := R1.below hb2
    clear R1 hb2 c0 hname
    have X2 := Blk.new w2 (celI (c, 0, 0, 0)).toArray 32
    have R3 := R2.below ((Below.refl _ w2).alloc (Nat.le_refl _) (.cells (celI (c, 0, 0, 0)).toArray 32))
    have hgx : w2.heap.size ≠ gs := by have := R2.lt; omega
    have hwx : w.heap.size < w2.heap.size := R2.res.lt
    go_wp2_with (go_at_call 34; refine (hform _).mono ?_; rintro e w4 ⟨rfl, hb4⟩; refine Hid.out ?_)
    refine Lib.hid ?_
    have X4 := X2.below hb4 X2.lt
    have R4 := R3.below hb4
    clear X2 R3 hb4 R2 hform
    generalize w2.heap.size = gx at X4 hgx hwx ⊢
    have hs0 := R4.str
    obtain ⟨m, rfl⟩ : ∃ m, cap = m + 1 := ⟨cap - 1, by omega⟩
    have hLm : t.length ≤ m := by omega
    clear hlc
    obtain ⟨n, hn⟩ : ∃ n, t.length = n := ⟨_, rfl⟩
    try simp only [List.length_cons]
    rw [hn] at hLm ⊢
    have h1L : (1 : Int) ≤ ((n + 1 : Nat) : Int) := by omega
    have hLc : ((n + 1 : Nat) : Int) ≤ ((m + 1 : Nat) : Int) := by omega
    iterate 14 go_step
    generalize hA : (if m = 0 then (some ⟨gs, 0, none⟩ : Option Addr) else some ⟨gs, 1, none⟩) = A1
    clear h1L hLc
    rcases t with _ | ⟨d, t⟩
    · obtain rfl : n = 0 := hn.symm
      clear hA hn hLm
      rcases hfs with rfl | rfl | rfl | rfl | rfl | rfl | rfl
      · obtain rfl : o = some (c, 0, 0, 0) := by
          rw [← HO.out]
          simp [tailR, jumpR, HF.out]
        clear HO HF HC HFM
        go_wp2_with (first
          | (refine wpList_load_in8 rfl (.tmp 7) rfl gx rfl (celI (c, 0, 0, 0)).toArray rfl X4 ?_)
          | (refine wpList_store_in8 rfl (.tmp 2) (.tmp 98) rfl w.heap.size (0, 0, 0, 0) (c, 0, 0, 0) rfl rfl R4.res ?_; intro w7 b7 n7))
        exact bodyPost_ret (results_row_tmp (by rfl) _ _ w.heap.size 32 (celI (c, 0, 0, 0)).toArray (0, 0) _ rfl b7.blk Tryd.underlying32 rfl insn_size (.bool true) rfl) rfl ⟨rfl, R4.bel.trans (n7.below _ (Nat.le_refl _) R4.bel.size)⟩
      · obtain rfl : o = none := by
          rw [← HO.out]
          simp [tailR, HF.out]
        clear HO HF HC HFM
        go_wp2_with (refine wpList_store_in8 rfl _ _ rfl w.heap.size (0, 0, 0, 0) (0, 0, 0, 0) rfl rfl R4.res ?_; intro w7 b7 n7)
        exact bodyPost_ret (results_row_tmp (by rfl) _ _ w.heap.size 32 (celI (0, 0, 0, 0)).toArray (0, 0) _ rfl b7.blk Tryd.underlying32 rfl insn_size (.bool false) rfl) rfl ⟨rfl, R4.bel.trans (n7.below _ (Nat.le_refl _) R4.bel.size)⟩
      · obtain rfl : o = none := by
          rw [← HO.out]
          simp [tailR, jumpR, HF.out]
        clear HO HF HC HFM
        go_wp2_with (refine wpList_store_in8 rfl _ _ rfl w.heap.size (0, 0, 0, 0) (0, 0, 0, 0) rfl rfl R4.res ?_; intro w7 b7 n7)
        exact bodyPost_ret (results_row_tmp (by rfl) _ _ w.heap.size 32 (celI (0, 0, 0, 0)).toArray (0, 0) _ rfl b7.blk Tryd.underlying32 rfl insn_size (.bool false) rfl) rfl ⟨rfl, R4.bel.trans (n7.below _ (Nat.le_refl _) R4.bel.size)⟩
      all_goals
        obtain rfl : o = none := by
          rw [← HO.out]
          simp [tailR, HF.out]
        clear HO HF HC HFM
        go_wp2_with (refine wpList_store_in8 rfl _ _ rfl w.heap.size (0, 0, 0, 0) (0, 0, 0, 0) rfl rfl R4.res ?_; intro w7 b7 n7)
        exact bodyPost_ret (results_row_tmp (by rfl) _ _ w.heap.size 32 (celI (0, 0, 0, 0)).toArray (0, 0) _ rfl b7.blk Tryd.underlying32 rfl insn_size (.bool false) rfl) rfl ⟨rfl, R4.bel.trans (n7.below _ (Nat.le_refl _) R4.bel.size)⟩
    · obtain ⟨n, rfl⟩ : ∃ k, n = k + 1 := ⟨t.length, hn.symm⟩
      replace hn : t.length = n := by simpa using hn
      obtain ⟨m, rfl⟩ : ∃ k, m = k + 1 := ⟨m - 1, by omega⟩
      rw [if_neg (by omega)] at hA
      subst hA
      have cd := R4.str 1 (by simp)
      simp only [List.getElem_cons_succ, List.getElem_cons_zero] at cd
      have hn1 : ¬ ((n + 1 : Nat) : Int) = 0 := by omega
      rcases hfs with rfl | rfl | rfl | rfl | rfl | rfl | rfl
      · clear cd
        obtain rfl : o = none := by
          rw [← HO.out]
          simp [tailR, jumpR, HF.out]
        clear HO HF HC HFM
        go_wp2_with (refine wpList_store_in8 rfl _ _ rfl w.heap.size (0, 0, 0, 0) (0, 0, 0, 0) rfl rfl R4.res ?_; intro w7 b7 n7)
        exact bodyPost_ret (results_row_tmp (by rfl) _ _ w.heap.size 32 (celI (0, 0, 0, 0)).toArray (0, 0) _ rfl b7.blk Tryd.underlying32 rfl insn_size (.bool false) rfl) rfl ⟨rfl, R4.bel.trans (n7.below _ (Nat.le_refl _) R4.bel.size)⟩
      · have hn4 := number_any8 d 4294967295 (by omega) w4
        go_wp2_with (go_at_call 46; refine hn4.mono ?_; rintro e w5 ⟨x, ok, rfl, rfl, hx⟩; refine Hid.out ?_)
        refine Lib.hid ?_
        replace hx : numL 4294967296 d = if ok then some x else none := hx
        clear hn4
        cases ok with
        | false =>
          simp only [Bool.false_eq_true, if_false] at hx
          obtain rfl : o = none := by
            rw [← HO.out]
            simp [tailR, HF.out, hx]
          clear HO HF HC HFM
          go_wp2_with (refine wpList_store_in8 rfl _ _ rfl w.heap.size (0, 0, 0, 0) (0, 0, 0, 0) rfl rfl R4.res ?_; intro w7 b7 n7)
          exact bodyPost_ret (results_row_tmp (by rfl) _ _ w.heap.size 32 (celI (0, 0, 0, 0)).toArray (0, 0) _ rfl b7.blk Tryd.underlying32 rfl insn_size (.bool false) rfl) rfl ⟨rfl, R4.bel.trans (n7.below _ (Nat.le_refl _) R4.bel.size)⟩
        | true =>
          simp only [if_true] at hx
          try clear cd
          repeat go_step
          have c3 := X4.cell 3
          simp only [celI, List.getElem?_toArray, List.getElem?_cons_zero, List.getElem?_cons_succ] at c3
          have fz := X4.frozen 3
          have h1L : (1 : Int) ≤ ((n + 1 : Nat) : Int) := by omega
          have hLc : ((n + 1 : Nat) : Int) ≤ ((m + 1 : Nat) : Int) := by omega
          go_region
          have R9 := (R4.set (p := ⟨gx, 3, none⟩) (by simp only; omega) hgx (by simp only; omega) (.int .u32 x)).drew
          have X9 : Blk (w5.setCell ⟨gx, 3, none⟩ (.int .u32 x)).drew gx (celI (c, 0, 0, (x : Int))).toArray 32 := (X4.set_ 3 (.int .u32 x)).drew
          generalize (w5.setCell ⟨gx, 3, none⟩ (.int .u32 (x : Int))).drew = V9 at R9 X9 ⊢
          generalize hA2 : (if m = 0 then (some ⟨gs, 1, none⟩ : Option Addr) else some ⟨gs, 2, none⟩) = A2
          clear c3 fz h1L hLc X4 R4 hs0
          by_cases h2 : n = 2
          · subst h2
            obtain ⟨a, b, rfl⟩ : ∃ a b, t = [a, b] := by
              rcases t with _ | ⟨a, _ | ⟨b, _ | ⟨e, t⟩⟩⟩ <;> simp at hn
              exact ⟨a, b, rfl⟩
            rw [if_neg (by omega)] at hA2
            subst hA2
            have ca := R9.str 2 (by simp)
            have cb := R9.str 3 (by simp)
            simp only [List.getElem_cons_succ, List.getElem_cons_zero] at ca cb
            have hna := fun w => number_any8 a 255 (by omega) w
            have hnb := fun w => number_any8 b 255 (by omega) w
            go_wp2_with (go_at_call 46; refine (hna _).mono ?_; rintro e w6 ⟨x1, ok1, rfl, rfl, hx1⟩; refine Hid.out ?_)
            refine Lib.hid ?_
            go_wp2_with (go_at_call 46; refine (hnb _).mono ?_; rintro e w6 ⟨x2, ok2, rfl, rfl, hx2⟩; refine Hid.out ?_)
            refine Lib.hid ?_
            replace hx1 : numL 256 a = if ok1 then some x1 else none := hx1
            replace hx2 : numL 256 b = if ok2 then some x2 else none := hx2
            clear hna hnb ca cb
            cases ok1 with
            | false =>
              simp only [Bool.false_eq_true, if_false] at hx1
              obtain rfl : o = none := by
                rw [← HO.out]
                simp [tailR, jumpR, HF.out, hx, hx1]
              clear HO HF HC HFM
              go_wp2_with (refine wpList_store_in8 rfl _ _ rfl w.heap.size (0, 0, 0, 0) (0, 0, 0, 0) rfl rfl R9.res ?_; intro w7 b7 n7)
              exact bodyPost_ret (results_row_tmp (by rfl) _ _ w.heap.size 32 (celI (0, 0, 0, 0)).toArray (0, 0) _ rfl b7.blk Tryd.underlying32 rfl insn_size (.bool false) rfl) rfl ⟨rfl, R9.bel.trans (n7.below _ (Nat.le_refl _) R9.bel.size)⟩
            | true =>
              simp only [if_true] at hx1
              cases ok2 with
              | false =>
                simp only [Bool.false_eq_true, if_false] at hx2
                obtain rfl : o = none := by
                  rw [← HO.out]
                  simp [tailR, jumpR, HF.out, hx, hx1, hx2]
                clear HO HF HC HFM
                go_wp2_with (refine wpList_store_in8 rfl _ _ rfl w.heap.size (0, 0, 0, 0) (0, 0, 0, 0) rfl rfl R9.res ?_; intro w7 b7 n7)
                exact bodyPost_ret (results_row_tmp (by rfl) _ _ w.heap.size 32 (celI (0, 0, 0, 0)).toArray (0, 0) _ rfl b7.blk Tryd.underlying32 rfl insn_size (.bool false) rfl) rfl ⟨rfl, R9.bel.trans (n7.below _ (Nat.le_refl _) R9.bel.size)⟩
              | true =>
                simp only [if_true] at hx2
                have l1 := (numL_inv (by omega) hx1).2
                have l2 := (numL_inv (by omega) hx2).2
                have hw1 : IntKind.u8.wrap (x1 : Int) = (x1 : Int) := by rw [IntKind.wrap_u8]; omega
                have hw2 : IntKind.u8.wrap (x2 : Int) = (x2 : Int) := by rw [IntKind.wrap_u8]; omega
                obtain rfl : o = some (c, (x1 : Int), (x2 : Int), (x : Int)) := by
                  rw [← HO.out]
                  simp [tailR, jumpR, HF.out, hx, hx1, hx2]
                clear HO HF HC HFM l1 l2
                go_wp2_with (first
                  | (refine wpList_store_fld8 rfl 5 (.tmp 92) (.tmp 89) rfl gx 1 (celI (c, 0, 0, (x : Int))).toArray 32 (.int .u8 x1) rfl rfl X9 (by simp [celI]) (by kernel_rfl) rfl rfl ?_; intro V10 Y10 m10)
                  | (refine wpList_store_fld8 rfl 5 (.tmp 93) (.tmp 91) rfl gx 2 (celI (c, (x1 : Int), 0, (x : Int))).toArray 32 (.int .u8 x2) rfl rfl Y10 (by simp [celI]) (by kernel_rfl) rfl rfl ?_; intro V11 Y11 m11; have R11 := (R9.but m10 (by omega) hgx (by omega)).but m11 (by omega) hgx (by omega))
                  | (refine wpList_load_in8 rfl (.tmp 7) rfl gx rfl (celI (c, (x1 : Int), (x2 : Int), (x : Int))).toArray rfl Y11 ?_)
                  | (refine wpList_store_in8 rfl (.tmp 2) (.tmp 98) rfl w.heap.size (0, 0, 0, 0) (c, (x1 : Int), (x2 : Int), (x : Int)) rfl rfl R11.res ?_; intro w7 b7 n7))
                exact bodyPost_ret (results_row_tmp (by rfl) _ _ w.heap.size 32 (celI (c, (x1 : Int), (x2 : Int), (x : Int))).toArray (0, 0) _ rfl b7.blk Tryd.underlying32 rfl insn_size (.bool true) rfl) rfl ⟨rfl, R11.bel.trans (n7.below _ (Nat.le_refl _) R11.bel.size)⟩
          · have h2' : ¬ (n : Int) = 2 := by omega
            have hnn : ∀ a b, t ≠ [a, b] := fun a b e => by subst e; simp at hn; omega
            clear h2 hn hLm hA2
            obtain rfl : o = none := by
              rw [← HO.out]
              simp [tailR, jumpR, HF.out, hx]
            clear HO HF HC HFM
            go_wp2_with (refine wpList_store_in8 rfl _ _ rfl w.heap.size (0, 0, 0, 0) (0, 0, 0, 0) rfl rfl R9.res ?_; intro w7 b7 n7)
            exact bodyPost_ret (results_row_tmp (by rfl) _ _ w.heap.size 32 (celI (0, 0, 0, 0)).toArray (0, 0) _ rfl b7.blk Tryd.underlying32 rfl insn_size (.bool false) rfl) rfl ⟨rfl, R9.bel.trans (n7.below _ (Nat.le_refl _) R9.bel.size)⟩
      · by_cases h2 : n = 1
        · subst h2
          obtain ⟨b, rfl⟩ : ∃ b, t = [b] := by
            rcases t with _ | ⟨b, _ | ⟨e, t⟩⟩ <;> simp at hn
            exact ⟨b, rfl⟩
          clear cd hs0
          have ca := R4.str 1 (by simp)
          have cb := R4.str 2 (by simp)
          simp only [List.getElem_cons_succ, List.getElem_cons_zero] at ca cb
          have hna := fun w => number_any8 d 255 (by omega) w
          have hnb := fun w => number_any8 b 255 (by omega) w
          go_wp2_with (go_at_call 46; refine (hna _).mono ?_; rintro e w6 ⟨x1, ok1, rfl, rfl, hx1⟩; refine Hid.out ?_)
          refine Lib.hid ?_
          go_wp2_with (go_at_call 46; refine (hnb _).mono ?_; rintro e w6 ⟨x2, ok2, rfl, rfl, hx2⟩; refine Hid.out ?_)
          refine Lib.hid ?_
          replace hx1 : numL 256 d = if ok1 then some x1 else none := hx1
          replace hx2 : numL 256 b = if ok2 then some x2 else none := hx2
          clear hna hnb ca cb
          cases ok1 with
          | false =>
            simp only [Bool.false_eq_true, if_false] at hx1
            obtain rfl : o = none := by
              rw [← HO.out]
              simp [tailR, jumpR, HF.out, hx1]
            clear HO HF HC HFM
            go_wp2_with (refine wpList_store_in8 rfl _ _ rfl w.heap.size (0, 0, 0, 0) (0, 0, 0, 0) rfl rfl R4.res ?_; intro w7 b7 n7)
            exact bodyPost_ret (results_row_tmp (by rfl) _ _ w.heap.size 32 (celI (0, 0, 0, 0)).toArray (0, 0) _ rfl b7.blk Tryd.underlying32 rfl insn_size (.bool false) rfl) rfl ⟨rfl, R4.bel.trans (n7.below _ (Nat.le_refl _) R4.bel.size)⟩
          | true =>
            simp only [if_true] at hx1
            cases ok2 with
            | false =>
              simp only [Bool.false_eq_true, if_false] at hx2
              obtain rfl : o = none := by
                rw [← HO.out]
                simp [tailR, jumpR, HF.out, hx1, hx2]
              clear HO HF HC HFM
              go_wp2_with (refine wpList_store_in8 rfl _ _ rfl w.heap.size (0, 0, 0, 0) (0, 0, 0, 0) rfl rfl R4.res ?_; intro w7 b7 n7)
              exact bodyPost_ret (results_row_tmp (by rfl) _ _ w.heap.size 32 (celI (0, 0, 0, 0)).toArray (0, 0) _ rfl b7.blk Tryd.underlying32 rfl insn_size (.bool false) rfl) rfl ⟨rfl, R4.bel.trans (n7.below _ (Nat.le_refl _) R4.bel.size)⟩
            | true =>
              simp only [if_true] at hx2
              have l1 := (numL_inv (by omega) hx1).2
              have l2 := (numL_inv (by omega) hx2).2
              have hw1 : IntKind.u8.wrap (x1 : Int) = (x1 : Int) := by rw [IntKind.wrap_u8]; omega
              have hw2 : IntKind.u8.wrap (x2 : Int) = (x2 : Int) := by rw [IntKind.wrap_u8]; omega
              obtain rfl : o = some (c, (x1 : Int), (x2 : Int), 0) := by
                rw [← HO.out]
                simp [tailR, jumpR, HF.out, hx1, hx2]
              clear HO HF HC HFM l1 l2
              go_wp2_with (first
                | (refine wpList_store_fld8 rfl 5 (.tmp 92) (.tmp 89) rfl gx 1 (celI (c, 0, 0, 0)).toArray 32 (.int .u8 x1) rfl rfl X4 (by simp [celI]) (by kernel_rfl) rfl rfl ?_; intro V10 Y10 m10)
                | (refine wpList_store_fld8 rfl 5 (.tmp 93) (.tmp 91) rfl gx 2 (celI (c, (x1 : Int), 0, 0)).toArray 32 (.int .u8 x2) rfl rfl Y10 (by simp [celI]) (by kernel_rfl) rfl rfl ?_; intro V11 Y11 m11; have R11 := (R4.but m10 (by omega) hgx (by omega)).but m11 (by omega) hgx (by omega))
                | (refine wpList_load_in8 rfl (.tmp 7) rfl gx rfl (celI (c, (x1 : Int), (x2 : Int), 0)).toArray rfl Y11 ?_)
                | (refine wpList_store_in8 rfl (.tmp 2) (.tmp 98) rfl w.heap.size (0, 0, 0, 0) (c, (x1 : Int), (x2 : Int), 0) rfl rfl R11.res ?_; intro w7 b7 n7))
              exact bodyPost_ret (results_row_tmp (by rfl) _ _ w.heap.size 32 (celI (c, (x1 : Int), (x2 : Int), 0)).toArray (0, 0) _ rfl b7.blk Tryd.underlying32 rfl insn_size (.bool true) rfl) rfl ⟨rfl, R11.bel.trans (n7.below _ (Nat.le_refl _) R11.bel.size)⟩
        · have h2' : ¬ ((n + 1 : Nat) : Int) = 2 := by omega
          have hnn : ∀ b, t ≠ [b] := fun b e => by subst e; simp at hn; omega
          clear h2 hn hLm cd
          obtain rfl : o = none := by
            rw [← HO.out]
            simp [tailR, jumpR, HF.out, hnn]
          clear HO HF HC HFM
          go_wp2_with (refine wpList_store_in8 rfl _ _ rfl w.heap.size (0, 0, 0, 0) (0, 0, 0, 0) rfl rfl R4.res ?_; intro w7 b7 n7)
          exact bodyPost_ret (results_row_tmp (by rfl) _ _ w.heap.size 32 (celI (0, 0, 0, 0)).toArray (0, 0) _ rfl b7.blk Tryd.underlying32 rfl insn_size (.bool false) rfl) rfl ⟨rfl, R4.bel.trans (n7.below _ (Nat.le_refl _) R4.bel.size)⟩
      all_goals
        have hn4 := number_any8 d 4294967295 (by omega) w4
        go_wp2_with (go_at_call 46; refine hn4.mono ?_; rintro e w5 ⟨x, ok, rfl, rfl, hx⟩; refine Hid.out ?_)
        refine Lib.hid ?_
        replace hx : numL 4294967296 d = if ok then some x else none := hx
        clear hn4
        cases ok with
        | false =>
          simp only [Bool.false_eq_true, if_false] at hx
          obtain rfl : o = none := by
            rw [← HO.out]
            simp [tailR, HF.out, hx]
          clear HO HF HC HFM
          go_wp2_with (refine wpList_store_in8 rfl _ _ rfl w.heap.size (0, 0, 0, 0) (0, 0, 0, 0) rfl rfl R4.res ?_; intro w7 b7 n7)
          exact bodyPost_ret (results_row_tmp (by rfl) _ _ w.heap.size 32 (celI (0, 0, 0, 0)).toArray (0, 0) _ rfl b7.blk Tryd.underlying32 rfl insn_size (.bool false) rfl) rfl ⟨rfl, R4.bel.trans (n7.below _ (Nat.le_refl _) R4.bel.size)⟩
        | true =>
          simp only [if_true] at hx
          try clear cd
          repeat go_step
          have c3 := X4.cell 3
          simp only [celI, List.getElem?_toArray, List.getElem?_cons_zero, List.getElem?_cons_succ] at c3
          have fz := X4.frozen 3
          have h1L : (1 : Int) ≤ ((n + 1 : Nat) : Int) := by omega
          have hLc : ((n + 1 : Nat) : Int) ≤ ((m + 1 : Nat) : Int) := by omega
          go_region
          have R9 := (R4.set (p := ⟨gx, 3, none⟩) (by simp only; omega) hgx (by simp only; omega) (.int .u32 x)).drew
          have X9 : Blk (w5.setCell ⟨gx, 3, none⟩ (.int .u32 x)).drew gx (celI (c, 0, 0, (x : Int))).toArray 32 := (X4.set_ 3 (.int .u32 x)).drew
          generalize (w5.setCell ⟨gx, 3, none⟩ (.int .u32 (x : Int))).drew = V9 at R9 X9 ⊢
          generalize hA2 : (if m = 0 then (some ⟨gs, 1, none⟩ : Option Addr) else some ⟨gs, 2, none⟩) = A2
          clear c3 fz h1L hLc X4 R4 hs0
          rcases t with _ | ⟨d', t⟩
          · obtain rfl : n = 0 := hn.symm
            clear hA2 hn hLm
            obtain rfl : o = some (c, 0, 0, (x : Int)) := by
              rw [← HO.out]
              simp [tailR, jumpR, HF.out, hx]
            clear HO HF HC HFM
            go_wp2_with (first
              | (refine wpList_load_in8 rfl (.tmp 7) rfl gx rfl (celI (c, 0, 0, (x : Int))).toArray rfl X9 ?_)
              | (refine wpList_store_in8 rfl (.tmp 2) (.tmp 98) rfl w.heap.size (0, 0, 0, 0) (c, 0, 0, (x : Int)) rfl rfl R9.res ?_; intro w7 b7 n7))
            exact bodyPost_ret (results_row_tmp (by rfl) _ _ w.heap.size 32 (celI (c, 0, 0, (x : Int))).toArray (0, 0) _ rfl b7.blk Tryd.underlying32 rfl insn_size (.bool true) rfl) rfl ⟨rfl, R9.bel.trans (n7.below _ (Nat.le_refl _) R9.bel.size)⟩
          · have h2' : (0 : Int) < (n : Int) := by simp at hn; omega
            clear hA2 hn hLm
            obtain rfl : o = none := by
              rw [← HO.out]
              simp [tailR, jumpR, HF.out, hx]
            clear HO HF HC HFM
            go_wp2_with (refine wpList_store_in8 rfl _ _ rfl w.heap.size (0, 0, 0, 0) (0, 0, 0, 0) rfl rfl R9.res ?_; intro w7 b7 n7)
            exact bodyPost_ret (results_row_tmp (by rfl) _ _ w.heap.size 32 (celI (0, 0, 0, 0)).toArray (0, 0) _ rfl b7.blk Tryd.underlying32 rfl insn_size (.bool false) rfl) rfl ⟨rfl, R9.bel.trans (n7.below _ (Nat.le_refl _) R9.bel.size)⟩
  · have hkn' : (codeOf (bs P)).2 = false := by simpa using hkn
    rw [if_neg hkn]
    rw [hkn'] at hname
    clear hkn hkn' hbl
    go_enter Tryd.func18, Tryd.ntmps18
    go_wp2_with (go_at_call 44; refine (hsplit _).mono ?_; rintro e w1 ⟨v, rfl, hown, hb1⟩; refine Hid.out ?_)
    refine Lib.hid ?_
    obtain ⟨gs, cap, rfl, hg, hcs⟩ := own_head hown (by simp)
    have k1 := g0.below hb1 (by simp)
    have B1 := hB0.trans (hb1.mono (by simp))
    have c0 := hcs 0 _ (by unfold stC8; rw [List.getElem?_map]; rfl)
    clear hsplit hown hb1 hg hcs g0 hB0 hsp
    go_wp2_with (go_at_call 45; refine (hname _).mono ?_; rintro e w2 ⟨rfl, hb2⟩; refine Hid.out ?_)
    refine Lib.hid ?_
    have k2 := k1.below hb2 k1.lt
    have B2 := B1.trans (hb2.mono B1.size)
    clear k1 B1 c0 hname hb2
    go_wp2_with (refine wpList_store_in8 rfl _ _ rfl w.heap.size (0, 0, 0, 0) (0, 0, 0, 0) rfl rfl k2 ?_; intro w7 b7 n7)
    exact bodyPost_ret (results_row_tmp (by rfl) _ _ w.heap.size 32 (celI (0, 0, 0, 0)).toArray (0, 0) _ rfl b7.blk Tryd.underlying32 rfl insn_size (.bool false) rfl) rfl ⟨rfl, B2.trans (n7.below _ (Nat.le_refl _) B2.size)⟩
end Go.Proofs.YtceeinljakcdkaaDoor

/-
  ActionTighter: a row is no less restrictive than any of its words; a word more ahead: the walk.
-/
import Derived.Test.YteogdmliimfkbaaDoorActM
import Derived.Test.YteogdmliimfkbaaDoorActBack
namespace Go.Proofs.YteogdmliimfkbaaDoor
open Go.RowKit
set_option linter.unusedVariables false

/-- Appending nothing. -/
theorem run_append_none {w : World} (ty : TypeId) (v0 : Value) (g n0 c0 : Nat) (hv : v0 = .slice (some ⟨g, 0, none⟩) n0 c0) (hnc : n0 ≤ c0) (A : Option Addr) (c : Nat) :
    (Builtin.append_ #[22, 22] ty #[v0, .slice A 0 c]).run Tryd.prog w = .ok v0 w := by
  obtain ⟨i, hi, hz, hs1, hb1⟩ := info_parts u32_info
  subst hv
  cases A <;> simp [Builtin.append_, run_underlying Tryd.underlying22, sizeOf, typeInfo, hi, Builtin.lenOf, Builtin.firstCells, storeCells, loadCells, loadCellsFrom, hnc]
/-- A word, and the call's own behind it. -/
theorem run_ahead {w : World} (ty : TypeId) (g : Nat) (x : Int) (hx : 0 ≤ x ∧ x < 4294967296) (hg : w.heap[g]? = some (.cells #[.int .u32 x] 26 (0, 0))) (A : Option Addr) (B m c : Nat) (l : List Int) (hA : Ru w B A l) (hm : m = l.length) (hm3 : m ≤ 1000) :
    ∃ A'' c'' w', (Builtin.append_ #[22, 22] ty #[.slice (some ⟨g, 0, none⟩) 1 1, .slice A m c]).run Tryd.prog w = .ok (.slice A'' (m + 1) c'') w' ∧ Ru w' w'.heap.size A'' (x :: l) ∧ m + 1 ≤ c'' ∧ Below g w w' := by
  have hown : w.ownsRow g 26 1 (.slice (some ⟨g, 0, none⟩) 1 1) 1 (uv [x]) := ⟨rfl, .inr ⟨g, 1, #[.int .u32 x], rfl, Nat.le_refl _, hg, Nat.le_refl _, by simp [maxLen], rfl, rfl⟩⟩
  have hlt : g < w.heap.size := (Array.getElem?_eq_some_iff.1 hg).1
  have hl : ∀ y ∈ x :: l, 0 ≤ y ∧ y < 4294967296 := fun y hy => by
    rcases List.mem_cons.1 hy with rfl | h
    · exact hx
    · exact hA.1 y h
  rcases Nat.eq_zero_or_pos m with h0 | hp
  · subst h0
    obtain rfl : l = [] := List.length_eq_zero_iff.1 hm.symm
    obtain ⟨h1, h2, _⟩ := ru_of_own hown hl
    exact ⟨some ⟨g, 0, none⟩, 1, w, run_append_none ty _ g 1 1 rfl (Nat.le_refl _) A c, h1, h2, Below.refl _ _⟩
  · obtain ⟨b, off, rfl, _⟩ := hA.2 0 (by omega)
    obtain ⟨A'', c'', w', hrun, h2, h3⟩ := run_append_u32 ty g _ 1 [x] hown b off B m c l hA hm (by omega) (Nat.le_of_lt hlt)
    rw [Nat.add_comm 1 m] at hrun h2
    obtain ⟨k1, k2, _⟩ := ru_of_own h2 hl
    exact ⟨A'', c'', w', hrun, k1, k2, h3⟩
theorem wpList_ahead {w : World} {ops : Array Oper} {rest : List Oper} {o : Oper} {a : Act} {Q : Exit → Act → World → Prop} (hgd : o.guard = none) (s y : Operand)
    (ho : o.op = .call { callee := .builtin .append, args := #[s, y], argTypes := #[22, 22] })
    (g : Nat) (x : Int) (hx : 0 ≤ x ∧ x < 4294967296) (hs : a.eval s = .slice (some ⟨g, 0, none⟩) 1 1) (hg : w.heap[g]? = some (.cells #[.int .u32 x] 26 (0, 0))) (A : Option Addr) (B m c : Nat) (l : List Int) (hy : a.eval y = .slice A m c) (hA : Ru w B A l) (hm : m = l.length) (hm3 : m ≤ 1000)
    (h : ∀ A'' c'' w', Ru w' w'.heap.size A'' (x :: l) → m + 1 ≤ c'' → Below g w w' → wpList Tryd.prog ops Q rest (a.put o.dst (.slice A'' (m + 1) c'')) w') :
    wpList Tryd.prog ops Q (o :: rest) a w := by
  refine wpList_plain hgd fun K hK => ?_
  obtain ⟨A'', c'', w', hrun, h1, h2, h3⟩ := run_ahead o.type g x hx hg A B m c l hA hm hm3
  unfold Oper.wp execOp
  simp only [ho, resolve, invoke, builtin, Sem.run_bind, Sem.run_pure, Result.andThen_ok, List.map_toArray, List.map_cons, List.map_nil, hs, hy, hrun]
  exact hK _ _ (h A'' c'' w' h1 h2 h3)

set_option maxRecDepth 100000 in
set_option maxHeartbeats 8000000 in
theorem actionTighter_any (A : Option Addr) (n c : Nat) (z : List Int) (x : Int) (w : World) (hK : Acts w) (hR : Ru w w.heap.size A z) (hn : n = z.length) (hnc : n ≤ c) (hx : 0 ≤ x ∧ x < 4294967296) :
    Calls Tryd.prog 7 #[.slice A n c, .int .u32 x] w fun e w' => e = .returned (.bool true) ∧ Below w.heap.size w w' := by
  have hpos := hK.pos
  have HN := Lib.hid hn
  clear hn
  go_enter Tryd.func7, Tryd.ntmps7
  go_wp2_with fail
  refine (wakes_any _ hK).mono ?_
  rintro e w1 ⟨rfl, b1⟩
  have K1 := hK.below b1 hpos
  obtain ⟨m, hm⟩ : ∃ m, m = min n 40 := ⟨_, rfl⟩
  have HF := few_any A n c z w1 ((hR.below b1 (Nat.le_refl _)).more b1.size) HN.out hnc m hm
  have hm40 : m ≤ 40 := by omega
  have hmn : m ≤ n := by omega
  clear hm
  go_wp2_with fail
  refine HF.mono ?_
  rintro e w2 ⟨A', c', rfl, ho, b2⟩
  have hl2 : ∀ y ∈ z.take m, 0 ≤ y ∧ y < 4294967296 := fun y hy => hR.1 y (List.mem_of_mem_take hy)
  obtain ⟨R2, hmc, hml⟩ := ru_of_own ho hl2
  have K2 := K1.below b2 K1.pos
  have B2 := b1.trans (b2.mono b1.size)
  generalize z.take m = L at R2 hml hl2 ho
  have HC := combine_any A' m c' L w2 K2 R2 hml hmc (by omega)
  have hle := cmb_le L
  have hdr := cmb_drop L
  have hcons := cmb_cons x L
  have hbd := cmb_bd L hl2
  have HL := Lib.hid hml
  clear hml ho HF
  obtain ⟨⟨va, vd, vp⟩, hv⟩ : ∃ t, cmbI L = t := ⟨_, rfl⟩
  rw [hv] at HC hle hdr hcons hbd
  simp only at HC hle hdr hcons hbd
  have HLE := Lib.hid hle
  have HDR := Lib.hid hdr
  have HCO := Lib.hid hcons
  clear hv hle hdr hcons
  go_wp2_with fail
  refine HC.mono ?_
  rintro e w3 ⟨rfl, b3⟩
  have K3 := (K2.below b3 K2.pos).alloc (.cells #[.int .i64 va, .int .u16 vd] 29)
  have B3 := (B2.trans (b3.mono B2.size)).alloc (Nat.le_trans B2.size b3.size) (.cells #[.int .i64 va, .int .u16 vd] 29)
  have V3 := Blk.new w3 #[.int .i64 va, .int .u16 vd] 29
  have R3 := (R2.below b3 (Nat.le_refl _)).below ((Below.refl w2.heap.size w3).alloc b3.size (.cells #[.int .i64 va, .int .u16 vd] 29)) (Nat.le_refl _)
  have hs23 := b3.size
  clear HC
  go_wp2_with fail
  obtain ⟨g5, hg5⟩ : ∃ g5, w3.heap.size = g5 := ⟨_, rfl⟩
  rw [hg5] at V3 hs23 ⊢
  have hsz : (w3.alloc (.cells #[.int .i64 va, .int .u16 vd] 29)).heap.size = g5 + 1 := by simp [hg5]
  generalize w3.alloc (.cells #[.int .i64 va, .int .u16 vd] 29) = w4 at K3 B3 V3 R3 hsz ⊢
  clear hg5 b3
  go_loopw [26] (fun i wr => ∃ k : Nat, k ≤ m ∧ i = .int .i64 k ∧ Below w4.heap.size w4 wr) (fun i _ => m - (intOf i).toNat)
  case atStart => exact ⟨0, Nat.zero_le _, rfl, Below.refl _ _⟩
  case round =>
    obtain ⟨k, hk, rfl, hB⟩ := hrel
    have Kr := K3.below hB K3.pos
    have Vr := V3.below hB V3.lt
    have Rr := R3.below hB (by omega)
    have Br := B3.trans (hB.mono B3.size)
    have hsr := hB.size
    by_cases hlt : k < m
    · have hlt' : (k : Int) < m := by omega
      have hkl : k < L.length := by have := HL.out; omega
      obtain ⟨b, off, rfl, hb, hc⟩ := Rr.2 k hkl
      have hy := Rr.at_ k hkl
      have h1 := HLE.out k hkl
      have h2 := HDR.out k hkl
      have hDb := cmb_bd (L.drop k) (fun y hy => hl2 y (List.mem_of_mem_drop hy))
      have hRd : ∀ V, Below wr.heap.size wr V → Acts V → Calls Tryd.prog 20 #[.slice (some ⟨b, off + k, none⟩) (m - k) (c' - k)] V fun e w' => e = .returned (.tuple #[.agg #[.int .i64 (cmbI (L.drop k)).1, .int .u16 (cmbI (L.drop k)).2.1], .int .i64 (cmbI (L.drop k)).2.2]) ∧ Below V.heap.size V w' :=
        fun V hV hKV => combine_any _ (m - k) (c' - k) (L.drop k) V hKV (((Rr.drop k).below hV (by omega)).more (by have := hV.size; omega)) (by rw [List.length_drop, ← HL.out]) (by omega) (by omega)
      generalize L.getD k 0 = y at hc hy h1
      generalize cmbI (L.drop k) = D at hRd h2 hDb
      obtain ⟨ua, ud, up⟩ := D
      simp only at hRd h2 hDb
      have t1 : decide (actI y < va) = false := by simpa using h1.1
      have t2 : decide (ua < va) = false := by simpa using h2
      have hkc : k < c' := by omega
      clear h2
      by_cases hat : (k : Int) < vp
      · have t3 : decide ((k : Int) < vp) = true := by simpa using hat
        have t4 : ((actI y : Int) == va) = false := by have := h1.2 hat; simp; omega
        clear h1
        go_wp2_with fail
        refine (split_any y hy.1 hy.2 _ Kr).mono ?_
        rintro e w5 ⟨rfl, b5⟩
        have K5 := Kr.below b5 Kr.pos
        have V5 := Vr.below b5 Vr.lt
        have q0 := V5.cell 0
        simp only [List.getElem?_toArray, List.getElem?_cons_zero] at q0
        have hf := field_0
        go_wp2_with fail
        refine (hRd _ b5 K5).mono ?_
        rintro e w6 ⟨rfl, b6⟩
        have V6 := (V5.below b6 V5.lt).alloc (.cells #[.int .i64 ua, .int .u16 ud] 29)
        have q1 := V6.cell 0
        simp only [List.getElem?_toArray, List.getElem?_cons_zero] at q1
        go_wp2_with fail
        go_roundw
        case rel => exact ⟨k + 1, by omega, by go_num, (hB.trans ((b5.trans (b6.mono b5.size)).mono hsr)).alloc (Nat.le_trans (Nat.le_trans hsr b5.size) b6.size) _⟩
        case measure => simp [intOf]; omega
      · have t3 : decide ((k : Int) < vp) = false := by simpa using hat
        clear h1
        go_wp2_with fail
        refine (split_any y hy.1 hy.2 _ Kr).mono ?_
        rintro e w5 ⟨rfl, b5⟩
        have K5 := Kr.below b5 Kr.pos
        have V5 := Vr.below b5 Vr.lt
        have q0 := V5.cell 0
        simp only [List.getElem?_toArray, List.getElem?_cons_zero] at q0
        have hf := field_0
        go_wp2_with fail
        refine (hRd _ b5 K5).mono ?_
        rintro e w6 ⟨rfl, b6⟩
        have V6 := (V5.below b6 V5.lt).alloc (.cells #[.int .i64 ua, .int .u16 ud] 29)
        have q1 := V6.cell 0
        simp only [List.getElem?_toArray, List.getElem?_cons_zero] at q1
        go_wp2_with fail
        go_roundw
        case rel => exact ⟨k + 1, by omega, by go_num, (hB.trans ((b5.trans (b6.mono b5.size)).mono hsr)).alloc (Nat.le_trans (Nat.le_trans hsr b5.size) b6.size) _⟩
        case measure => simp [intOf]; omega
    · obtain rfl : k = m := by omega
      clear Br hsr
      have hs4 := hB.size
      have hxA : ∀ V, Acts V → Calls Tryd.prog 10 #[.int .u32 x] V fun e w' => e = .returned (.agg #[.int .i64 (actI x), .int .u16 (x % 65536)]) ∧ Below V.heap.size V w' := fun V hV => split_any x hx.1 hx.2 V hV
      have Ba := B3.trans (hB.mono B3.size)
      have g0 := heap_alloc_new wr (.cells #[.int .u32 x] 26)
      have Ra := Rr.below ((Below.refl wr.heap.size wr).alloc (Nat.le_refl _) (.cells #[.int .u32 x] 26)) (by omega)
      have Ka := Kr.alloc (.cells #[.int .u32 x] 26)
      have Va := Vr.alloc (.cells #[.int .u32 x] 26)
      have HX := Lib.hid (show k + 1 = (x :: L).length by rw [List.length_cons, ← HL.out])
      go_wp2_with (at_builtin; refine wpList_ahead rfl (.tmp 64) (.tmp 65) rfl wr.heap.size x hx rfl g0 A' w2.heap.size k c' L rfl Ra HL.out (by omega) ?_; intro A2 c2 w5 R5 hc2 b5)
      have B5 : Below w.heap.size w w5 := (Ba.alloc Ba.size _).trans (b5.mono Ba.size)
      have K5 : Acts w5 := Kr.below (((Below.refl wr.heap.size wr).alloc (Nat.le_refl _) (.cells #[.int .u32 x] 26)).trans b5) Kr.pos
      have V5 := Va.below b5 Vr.lt
      have hC5 := combine_any A2 (k + 1) c2 (x :: L) w5 K5 R5 HX.out hc2 (by omega)
      have hlen : L.length = k := HL.out.symm
      have hco := HCO.out
      rw [hlen] at hco
      refine hC5.mono ?_
      rintro e w6 ⟨rfl, b6⟩
      have K6 := K5.below b6 K5.pos
      have V6 := V5.below b6 V5.lt
      have B6 := B5.trans (b6.mono B5.size)
      clear hC5 R5 b5 Ra Rr g0 Ka Va B5 K5 V5 hB
      by_cases h0 : k = 0
      · rw [if_pos (.inl h0)] at hco
        subst h0
        rw [hco]
        simp only
        have tkk : True := trivial
        go_wp2_with fail
        refine (hxA _ (K6.alloc _)).mono ?_
        rintro e w7 ⟨rfl, b7⟩
        have U7 := ((Blk.new w6 #[.int .i64 (actI x), .int .u16 (x % 65536)] 29).below b7 (by simp)).alloc (.cells #[.int .i64 (actI x), .int .u16 (x % 65536)] 29)
        have V7 := ((V6.alloc (.cells #[.int .i64 (actI x), .int .u16 (x % 65536)] 29)).below b7 (V6.alloc _).lt).alloc (.cells #[.int .i64 (actI x), .int .u16 (x % 65536)] 29)
        have X7 := Blk.new w7 #[.int .i64 (actI x), .int .u16 (x % 65536)] 29
        have B7 : Below w.heap.size w (w7.alloc (.cells #[.int .i64 (actI x), .int .u16 (x % 65536)] 29)) := ((B6.alloc B6.size _).trans (b7.mono (by have := B6.size; simp; omega))).alloc (by have := B6.size; have := b7.size; simp at this; omega) _
        have v0 := V7.cell 0
        simp only [List.getElem?_toArray, List.getElem?_cons_zero] at v0
        go_wp2_with (first
          | (refine wpList_load_row rfl 29 (.tmp 12) rfl w6.heap.size rfl 29 _ (0, 0) _ U7.blk Tryd.underlying29 rfl ver_info ?_)
          | (refine wpList_load_row rfl 29 (.tmp 5) rfl g5 rfl 29 _ (0, 0) _ V7.blk Tryd.underlying29 rfl ver_info ?_)
          | (refine wpList_load_row rfl 29 (.tmp 14) rfl w7.heap.size rfl 29 _ (0, 0) _ X7.blk Tryd.underlying29 rfl ver_info ?_))
        go_ret
        exact ⟨rfl, B7⟩
      · by_cases hle : actI x ≤ va
        · rw [if_pos (.inr hle)] at hco
          rw [hco]
          simp only
          have k0 : ((k : Int) == 0) = false := by simpa using h0
          have tkk : True := trivial
          go_wp2_with fail
          refine (hxA _ (K6.alloc _)).mono ?_
          rintro e w7 ⟨rfl, b7⟩
          have U7 := ((Blk.new w6 #[.int .i64 (actI x), .int .u16 (x % 65536)] 29).below b7 (by simp)).alloc (.cells #[.int .i64 (actI x), .int .u16 (x % 65536)] 29)
          have V7 := ((V6.alloc (.cells #[.int .i64 (actI x), .int .u16 (x % 65536)] 29)).below b7 (V6.alloc _).lt).alloc (.cells #[.int .i64 (actI x), .int .u16 (x % 65536)] 29)
          have X7 := Blk.new w7 #[.int .i64 (actI x), .int .u16 (x % 65536)] 29
          have B7 : Below w.heap.size w (w7.alloc (.cells #[.int .i64 (actI x), .int .u16 (x % 65536)] 29)) := ((B6.alloc B6.size _).trans (b7.mono (by have := B6.size; simp; omega))).alloc (by have := B6.size; have := b7.size; simp at this; omega) _
          have v0 := V7.cell 0
          simp only [List.getElem?_toArray, List.getElem?_cons_zero] at v0
          have t5 : decide (actI x ≤ va) = true := by simpa using hle
          go_wp2_with (first
            | (refine wpList_load_row rfl 29 (.tmp 12) rfl w6.heap.size rfl 29 _ (0, 0) _ U7.blk Tryd.underlying29 rfl ver_info ?_)
            | (refine wpList_load_row rfl 29 (.tmp 5) rfl g5 rfl 29 _ (0, 0) _ V7.blk Tryd.underlying29 rfl ver_info ?_)
            | (refine wpList_load_row rfl 29 (.tmp 14) rfl w7.heap.size rfl 29 _ (0, 0) _ X7.blk Tryd.underlying29 rfl ver_info ?_))
          go_ret
          exact ⟨rfl, B7⟩
        · rw [if_neg (by rintro (h | h) <;> contradiction)] at hco
          rw [hco]
          simp only
          have k0 : ((k : Int) == 0) = false := by simpa using h0
          have p0 : -1 ≤ vp := hbd.2.2.2.1
          have p1 : vp < 1000 := by have := hbd.2.2.2.2; omega
          have tkk : True := trivial
          go_wp2_with fail
          refine (hxA _ (K6.alloc _)).mono ?_
          rintro e w7 ⟨rfl, b7⟩
          have U7 := ((Blk.new w6 #[.int .i64 va, .int .u16 vd] 29).below b7 (by simp)).alloc (.cells #[.int .i64 (actI x), .int .u16 (x % 65536)] 29)
          have V7 := ((V6.alloc (.cells #[.int .i64 va, .int .u16 vd] 29)).below b7 (V6.alloc _).lt).alloc (.cells #[.int .i64 (actI x), .int .u16 (x % 65536)] 29)
          have X7 := Blk.new w7 #[.int .i64 (actI x), .int .u16 (x % 65536)] 29
          have B7 : Below w.heap.size w (w7.alloc (.cells #[.int .i64 (actI x), .int .u16 (x % 65536)] 29)) := ((B6.alloc B6.size _).trans (b7.mono (by have := B6.size; simp; omega))).alloc (by have := B6.size; have := b7.size; simp at this; omega) _
          have v0 := V7.cell 0
          simp only [List.getElem?_toArray, List.getElem?_cons_zero] at v0
          have t5 : decide (actI x ≤ va) = false := by simpa using hle
          go_wp2_with (first
            | (refine wpList_load_row rfl 29 (.tmp 12) rfl w6.heap.size rfl 29 _ (0, 0) _ U7.blk Tryd.underlying29 rfl ver_info ?_)
            | (refine wpList_load_row rfl 29 (.tmp 5) rfl g5 rfl 29 _ (0, 0) _ V7.blk Tryd.underlying29 rfl ver_info ?_)
            | (refine wpList_load_row rfl 29 (.tmp 14) rfl w7.heap.size rfl 29 _ (0, 0) _ X7.blk Tryd.underlying29 rfl ver_info ?_))
          go_ret
          exact ⟨rfl, B7⟩
end Go.Proofs.YteogdmliimfkbaaDoor

/-
  The walk of PidsDoes.
-/
import Derived.Test.YtjbhliabmaipbaaPiRi
namespace Go.Proofs.Ytjbhliabmaipbaa
open Go.RowKit Go.Shelf
set_option linter.unusedVariables false
set_option linter.unusedSimpArgs false

theorem blk_grown {W W' : World} {g : Nat} {cs : Array Value} {t : TypeId} {row : Option Nat} (h : Blk W g cs t) (hg : W.grownBy W' row) (hne : some g ≠ row) : Blk W' g cs t := ⟨(hg.block g h.lt hne).trans h.blk⟩
theorem zo_grown {W W' : World} {base m c : Nat} {A : Option Addr} {l : List Int} {row : Option Nat} (h : Zo W base A m c l) (hg : W.grownBy W' row) (hne : ∀ g, (Value.slice A m c).ownBlock = some g → some g ≠ row) : Zo W' base A m c l := by
  refine ⟨h.1, ?_⟩
  rcases h.2 with h0 | ⟨g, cap, cur, hv, hb, hh, r⟩
  · exact .inl h0
  · exact .inr ⟨g, cap, cur, hv, hb, (hg.block g (Array.getElem?_eq_some_iff.1 hh).1 (hne g (by rw [hv]; rfl))).trans hh, r⟩
theorem zo_at {w : World} {base m c j : Nat} {A : Option Addr} {l : List Int} (h : Zo w base A m c l) (hj : j < m) : ∃ g, A = some ⟨g, 0, none⟩ ∧ w.cell? ⟨g, j, none⟩ = some (.int .i64 (l.getD j 0)) ∧ w.frozen? ⟨g, j, none⟩ = false ∧ Zo (w.setCell ⟨g, j, none⟩ (.int .i64 99)) base A m c (l.set j 99) ∧ (∀ X : World, X.grownBy w (Value.slice A m c).ownBlock → X.grownBy (w.setCell ⟨g, j, none⟩ (.int .i64 99)) (Value.slice A m c).ownBlock) ∧ base ≤ g := by
  have hl := h.len
  rcases h.form with ⟨_, h0, _⟩ | ⟨g, rfl, hbg, hlt, cur, hh, h1, h2, h3, h4⟩
  · omega
  · refine ⟨g, rfl, by simp only [World.cell?, hh]; exact zo_cells h4 hl hj, by simp [World.frozen?, hh], ?_, fun X hX => ?_, hbg⟩
    · refine zo_of_cells (cur := cur.setIfInBounds j (.int .i64 99)) hbg (by simp [World.setCell, Array.getElem?_modify, hh]) h1 h2 (by simpa using h3) (by simpa using hl) fun i hi => ?_
      by_cases hij : j = i
      · subst hij
        rw [Array.getElem?_setIfInBounds_self_of_lt (by omega)]
        simp [List.getD, hl ▸ hi]
      · rw [Array.getElem?_setIfInBounds_ne hij, zo_cells h4 hl hi]
        simp [List.getD, List.getElem?_set, hij]
    · refine ⟨hX.os, hX.tape, hX.output, by simpa [World.setCell] using hX.size, fun k hk hne => ?_⟩
      rw [Below.heap_setCell _ _ _ _ (fun e => hne (by rw [e]; rfl))]
      exact hX.block k hk hne
theorem take_len {a : Int} {l : List Int} {a' : Int} {l' : List Int} {id er : Int} (h : takeV a l = (a', l', id, er)) : l'.length ≤ 22 := by
  by_cases hI : Ids a l
  · cases hn : nextP a.toNat l with
    | none =>
      rw [take_full hI (hI.none_iff.1 hn)] at h
      obtain ⟨_, rfl, _, _⟩ := tup3 h
      simp
    | some i =>
      have h2 := (hI.taken hn).len
      rw [take_some hI hn] at h
      obtain ⟨_, e, _, _⟩ := tup3 h
      rw [← e]
      omega
  · unfold takeV at h
    rw [if_neg (fun e => hI (ids_iff.1 e))] at h
    obtain ⟨_, rfl, _, _⟩ := tup3 h
    simp
theorem free_len {a : Int} {l : List Int} {x a' : Int} {l' : List Int} {er : Int} (hl : l.length ≤ 22) (h : freeV a l x = (a', l', er)) : l'.length ≤ 22 := by
  by_cases hI : Ids a l
  · by_cases hx : x ∈ l
    · rw [free_yes hI hx] at h
      obtain ⟨_, e, _⟩ := tup2 h
      have := len_delP hx
      rw [← e]
      omega
    · rw [free_none hI hx] at h
      obtain ⟨_, rfl, _⟩ := tup2 h
      simp
  · unfold freeV at h
    rw [if_neg (fun e => hI (ids_iff.1 e))] at h
    obtain ⟨_, rfl, _⟩ := tup2 h
    simp
set_option maxRecDepth 100000 in
set_option maxHeartbeats 40000000 in
theorem does_law (a : Int) (A : Option Addr) (m c : Nat) (l : List Int) (A0 : Option Addr) (m0 c0 : Nat) (os : List Int) (w : World) (hA : Ri7 w w.heap.size A l) (hm : m = l.length) (hmc : m ≤ c) (hA0 : Ri7 w w.heap.size A0 os) (hm0 : m0 = os.length) (h63 : m0 ≤ 9223372036854775807) :
    Calls Try.prog 3 #[pdV a A m c, .slice A0 m0 c0] w fun e w' => e = .returned (.bool true) ∧ Below w.heap.size w w' := by
  have k0 := Blk.new w (pdC a A m c) 24
  have B0 := (Below.refl w.heap.size w).alloc (Nat.le_refl _) (.cells (pdC a A m c) 24)
  have HM := Lib.hid hm
  have HM0 := Lib.hid hm0
  clear hm hm0
  unfold pdV
  go_enter Try.func3, Try.ntmps3
  go_wp2_with fail
  refine (wakes_pid _).mono ?_
  rintro e w1 ⟨rfl, bb⟩
  have k1 := k0.below bb k0.lt
  have b1 := B0.trans (bb.mono B0.size)
  clear bb k0 B0
  go_wp2_with (refine wpList_load_row rfl 24 (.tmp 2) rfl w.heap.size rfl 24 (pdC a A m c) (0, 0) _ k1.blk Try.underlying24 rfl (pd_inf _ _ _ _) ?_)
  refine (short_pid a A m c l w1 ((hA.below b1 (Nat.le_refl _)).more b1.size) HM.out hmc).mono ?_
  rintro e w2 ⟨A1, m1, c1, rfl, z2, bb⟩
  have k2 := k1.below bb k1.lt
  have b2 := b1.trans (bb.mono b1.size)
  have hs1 : w.heap.size < w1.heap.size := k1.lt
  have hs2 : w1.heap.size ≤ w2.heap.size := bb.size
  clear bb k1 b1
  have hl1 : (l.take 22).length ≤ 22 := by rw [List.length_take]; omega
  generalize l.take 22 = l1 at z2 hl1
  have HM1 := Lib.hid z2.len
  have HL1 := Lib.hid hl1
  clear hl1
  unfold pdV
  go_wp2_with (refine wpList_store_blk rfl 24 (.tmp 2) (.tmp 19) rfl w.heap.size (pdC a A m c) (pdC a A1 m1 c1) 24 rfl rfl k2 rfl (pd_inf _ _ _ _) (pd_one _ _ _ _) ?_
               intro w3 k3 n3
               have b3 : Below w.heap.size w w3 := b2.trans (n3.below _ (Nat.le_refl _) b2.size)
               have z3 := own_but z2 n3 (zo_apart z2 hs1)
               have hs3 : w1.heap.size ≤ w3.heap.size := Nat.le_trans hs2 n3.size
               clear n3)
  have HG := Lib.hid hs1
  clear hs1 hs2 k2 z2 b2
  go_loopw [22] (fun kv wr' => ∃ (k : Nat) (wr : World) (cur : Int) (A5 : Option Addr) (m5 c5 : Nat) (L : List Int), wr = wr' ∧ k ≤ m0 ∧ kv = .int .i64 k ∧ Hid (cntI w w1.heap.size wr cur A5 m5 c5 L) ∧ Hid (L.length ≤ 22)) (fun kv _ => m0 - (intOf kv).toNat)
  case atStart => exact ⟨0, _, _, A1, m1, c1, _, rfl, Nat.zero_le _, rfl, Lib.hid ⟨k3, z3, b3, hs3⟩, HL1⟩
  case round =>
    clear k3 z3 b3 hs3
    obtain ⟨k, wr, cur, A5, m5, c5, L, hwr, hk, rfl, HCI, HL⟩ := hrel
    subst hwr
    obtain ⟨kb, zb, hB, hsr⟩ := HCI.out
    have HM5 := Lib.hid zb.len
    clear HCI
    by_cases hlt : k < m0
    · have hlt' : (k : Int) < (m0 : Int) := by omega
      have hkl : k < os.length := by have := HM0.out; omega
      obtain ⟨b, off, rfl, hb, hc⟩ := hA0.below hB (Nat.le_refl _) k hkl
      generalize os.getD k 0 = o at hc
      have HKM := Lib.hid hlt
      clear hkl hlt
      cases h50 : ((k : Int) == 50)
      · go_wp2_with (refine wpList_load_row rfl 24 (.tmp 2) rfl w.heap.size rfl 24 (pdC cur A5 m5 c5) (0, 0) _ kb.blk Try.underlying24 rfl (pd_inf _ _ _ _) ?_)
        have sh := short_pid cur A5 m5 c5 L wr zb.ri HM5.out zb.cap
        rw [List.take_of_length_le HL.out] at sh
        unfold pdV at sh
        refine sh.mono ?_
        rintro e V1 ⟨A6, m6, c6, rfl, z6, bb⟩
        have kb1 := kb.below bb kb.lt
        have zb1 := zb.below bb (Nat.le_refl _)
        have hB1 := hB.trans (bb.mono hB.size)
        have hs1 := Nat.le_trans hsr bb.size
        have z61 := z6
        have HLT5 := Lib.hid (show ∀ g, (Value.slice A5 m5 c5).ownBlock = some g → g < wr.heap.size from fun g e => (zb.lt g e).2)
        have HLT6 := Lib.hid (show ∀ g, (Value.slice A6 m6 c6).ownBlock = some g → g < V1.heap.size from fun g e => (z6.lt g e).2)
        have HWV := Lib.hid (show wr.heap.size ≤ V1.heap.size from bb.size)
        have HWH := Lib.hid (show w.heap.size < wr.heap.size from kb.lt)
        clear sh bb kb zb hB hsr z6
        go_wp2_with (first
          | (refine wpList_store_blk rfl 24 (.tmp 7) (.tmp 30) rfl V1.heap.size (pdC 0 none 0 0) (pdC cur A6 m6 c6) 24 rfl rfl (Blk.new _ _ _) rfl (pd_inf _ _ _ _) (pd_one _ _ _ _) ?_
             intro W2 k72 n2
             have bb : Below V1.heap.size V1 W2 := new_blk n2
             have b3 : Below W2.heap.size W2 ((W2.alloc (.cells (pdC 0 none 0 0) 24)).alloc (.cells (pdC 0 none 0 0) 24)) := ((Below.refl _ _).alloc (Nat.le_refl _) _).alloc (by simp) _
             have kb2 := (kb1.below bb kb1.lt).below b3 (by have := kb1.lt; have := bb.size; omega)
             have k73 := k72.below b3 k72.lt
             have k8 := (Blk.new W2 (pdC 0 none 0 0) 24).alloc (.cells (pdC 0 none 0 0) 24)
             have k9 := Blk.new_ (W2.alloc (.cells (pdC 0 none 0 0) 24)) (pdC 0 none 0 0) 24 (n := W2.heap.size + 1) (by simp)
             have zb2 := (zb1.below bb (Nat.le_refl _)).below b3 (Nat.le_refl _)
             have z62 := (z61.below bb (Nat.le_refl _)).below b3 (Nat.le_refl _)
             have hB2 := (hB1.trans (bb.mono hB1.size)).trans (b3.mono (Nat.le_trans hB1.size bb.size))
             have hs2 := Nat.le_trans (Nat.le_trans hs1 bb.size) b3.size
             have HS7 := Lib.hid (show V1.heap.size < W2.heap.size from k72.lt)
             have HSh := Lib.hid (show w.heap.size < W2.heap.size by have := HS7.out; have := HWV.out; have := HWH.out; omega)
             clear bb n2 b3)
          | (refine wpList_load_row rfl 24 (.tmp 7) rfl V1.heap.size rfl 24 (pdC cur A6 m6 c6) (0, 0) _ k73.blk Try.underlying24 rfl (pd_inf _ _ _ _) ?_))
        have rr := rright_pid cur A6 m6 c6 L _ z62.ri z62.len (by have := z62.len; have := HL.out; omega)
        obtain ⟨ct, hct⟩ : ∃ ct, (pidE cur L == 0) = ct := ⟨_, rfl⟩
        rw [hct] at rr
        have HCT := Lib.hid hct
        clear hct
        unfold pdV at rr
        refine rr.mono ?_
        rintro e V3 ⟨rfl, bb⟩
        have kb3 := kb2.below bb kb2.lt
        have k73' := k73.below bb k73.lt
        have k83 := k8.below bb k8.lt
        have k93 := k9.below bb k9.lt
        have zb3 := zb2.below bb (Nat.le_refl _)
        have z63 := z62.below bb (Nat.le_refl _)
        have hB3 := hB2.trans (bb.mono hB2.size)
        have hs3 := Nat.le_trans hs2 bb.size
        have HS8 := Lib.hid (show W2.heap.size + 1 < V3.heap.size from k93.lt)
        clear rr bb kb1 zb1 hB1 hs1 z61 kb2 k72 k73 k8 k9 zb2 z62 hB2 hs2
        cases ho : (o == 0)
        · have fr := free_pid cur A5 m5 c5 L o V3 zb3.ri HM5.out (by have := HM5.out; have := HL.out; omega)
          unfold pdV at fr
          cases ct
          · skip
            go_wp2_with (refine wpList_load_row rfl 24 (.tmp 2) rfl w.heap.size rfl 24 (pdC cur A5 m5 c5) (0, 0) _ kb3.blk Try.underlying24 rfl (pd_inf _ _ _ _) ?_)
            refine fr.mono ?_
            rintro e V4 ⟨A8, m8, c8, a8, l8, e8, rfl, z8, ht, bb⟩
            have HT := Lib.hid ht
            have HL8 := Lib.hid (free_len HL.out ht)
            have kb4 := kb3.below bb kb3.lt
            have k74 := k73'.below bb k73'.lt
            have k84 := k83.below bb k83.lt
            have k94 := k93.below bb k93.lt
            have zb4 := zb3.below bb (Nat.le_refl _)
            have z64 := z63.below bb (Nat.le_refl _)
            have hB4 := hB3.trans (bb.mono hB3.size)
            have hs4 := Nat.le_trans hs3 bb.size
            have HV34 := Lib.hid (show V3.heap.size ≤ V4.heap.size from bb.size)
            clear fr ht bb kb3 k73' k83 k93 zb3 z63 hB3 hs3
            have hno : ¬ pidE cur L = 0 := by have := HCT.out; simpa using this
            have ht := HT.out
            unfold freeV at ht
            rw [if_neg hno] at ht
            obtain ⟨e1, e2, e3⟩ := tup2 ht
            subst e1 e2 e3
            clear ht hno
            go_wp2_with (first
              | (refine wpList_store_blk rfl 24 (.tmp 8) (.tmp 52) rfl W2.heap.size (pdC 0 none 0 0) (pdC 0 A8 m8 c8) 24 rfl rfl k84 rfl (pd_inf _ _ _ _) (pd_one _ _ _ _) ?_
                 intro V5 k85 n5
                 have kb5 := n5.blk7 kb4 (by have := HSh.out; omega)
                 have k75 := n5.blk7 k74 (by have := HS7.out; omega)
                 have k95 := n5.blk7 k94 (by omega)
                 have zb5 := own_but zb4 n5 (fun e => by have := HLT5.out _ e.symm; have := HWV.out; have := HS7.out; omega)
                 have z65 := own_but z64 n5 (fun e => by have := HLT6.out _ e.symm; have := HS7.out; omega)
                 have z85 := own_but z8 n5 (zo_apart z8 (by have := HS8.out; omega))
                 have hB5 : Below w.heap.size w V5 := hB4.trans (n5.below _ (by have := HSh.out; omega) hB4.size)
                 have hs5 := Nat.le_trans hs4 n5.size
                 have HV45 := Lib.hid (show V4.heap.size ≤ V5.heap.size from n5.size)
                 clear n5 kb4 k74 k84 k94 zb4 z64 z8 hB4 hs4)
              | (refine wpListG_load (by rfl) 24 (.tmp 8) rfl W2.heap.size rfl 24 (pdC 0 A8 m8 c8) _ k85 Try.underlying24 rfl (pd_inf _ _ _ _) ?_)
              | (refine wpListG_load (by rfl) 24 (.tmp 9) rfl (W2.heap.size + 1) rfl 24 (pdC 0 none 0 0) _ k95 Try.underlying24 rfl (pd_inf _ _ _ _) ?_))
            have z95 : Zo V5 V5.heap.size none 0 0 [] := zo_nil _ _
            have HD := Lib.hid (show (∀ g, g < V3.heap.size → some g ≠ (Value.slice A8 m8 c8).ownBlock) ∧ (∀ g, (Value.slice A5 m5 c5).ownBlock = some g → some g ≠ (Value.slice A8 m8 c8).ownBlock) ∧ (∀ g, (Value.slice A6 m6 c6).ownBlock = some g → some g ≠ (Value.slice A8 m8 c8).ownBlock) ∧ (∀ g, (Value.slice none 0 0).ownBlock = some g → some g ≠ (Value.slice A8 m8 c8).ownBlock) from
              ⟨fun g hg e => by have := (z85.lt g e.symm).1; omega, fun g hg e => by have := (z85.lt g e.symm).1; have := HLT5.out g hg; have := HWV.out; have := HS7.out; have := HS8.out; omega, fun g hg e => by have := (z85.lt g e.symm).1; have := HLT6.out g hg; have := HS7.out; have := HS8.out; omega, fun g hg => by cases hg⟩)
            have sm1 := rsame_pid (0 : Int) A8 m8 c8 ([] : List Int) (0 : Int) none 0 0 ([] : List Int) V5 z85.ri z85.len (by have := z85.len; have := HL8.out; omega) z95.ri z95.len
            rw [show (((0 : Int) == (0 : Int)) && (([] : List Int) == ([] : List Int))) = true by simp] at sm1
            unfold pdV at sm1
            refine sm1.mono ?_
            rintro e X1 ⟨rfl, bb⟩
            have hWX1 : V5.heap.size ≤ X1.heap.size := bb.size
            have kbX1 := kb5.below bb kb5.lt
            have k7X1 := k75.below bb k75.lt
            have k8X1 := k85.below bb k85.lt
            have k9X1 := k95.below bb k95.lt
            have zbX1 := zb5.below bb (Nat.le_refl _)
            have z6X1 := z65.below bb (Nat.le_refl _)
            have z8X1 := z85.below bb (Nat.le_refl _)
            have z9X1 := z95.below bb (Nat.le_refl _)
            have hBX1 := hB5.trans (bb.mono hB5.size)
            have hsX1 := Nat.le_trans hs5 bb.size
            clear sm1 bb
            have sm2 := rsame_pid cur A5 m5 c5 L cur A6 m6 c6 L X1 zbX1.ri zbX1.len (by have := zbX1.len; have := HL.out; omega) z6X1.ri z6X1.len
            rw [show ((cur == cur) && (L == L)) = true by simp] at sm2
            unfold pdV at sm2
            go_wp2_with (first
              | (refine wpListG_load (by rfl) 24 (.tmp 2) rfl w.heap.size rfl 24 (pdC cur A5 m5 c5) _ kbX1 Try.underlying24 rfl (pd_inf _ _ _ _) ?_)
              | (refine wpListG_load (by rfl) 24 (.tmp 7) rfl V1.heap.size rfl 24 (pdC cur A6 m6 c6) _ k7X1 Try.underlying24 rfl (pd_inf _ _ _ _) ?_))
            refine sm2.mono ?_
            rintro e X2 ⟨rfl, bb⟩
            have hWX2 : V5.heap.size ≤ X2.heap.size := Nat.le_trans hWX1 bb.size
            have kbX2 := kbX1.below bb kbX1.lt
            have k7X2 := k7X1.below bb k7X1.lt
            have k8X2 := k8X1.below bb k8X1.lt
            have k9X2 := k9X1.below bb k9X1.lt
            have zbX2 := zbX1.below bb (Nat.le_refl _)
            have z6X2 := z6X1.below bb (Nat.le_refl _)
            have z8X2 := z8X1.below bb (Nat.le_refl _)
            have z9X2 := z9X1.below bb (Nat.le_refl _)
            have hBX2 := hBX1.trans (bb.mono hBX1.size)
            have hsX2 := Nat.le_trans hsX1 bb.size
            clear sm2 bb kbX1 k7X1 k8X1 k9X1 zbX1 z6X1 z8X1 z9X1 hBX1 hsX1
            have q8 : X2.cell? ⟨W2.heap.size, 1, none⟩ = some (.slice A8 m8 c8) := k8X2.cell 1
            go_wp2_with fail
            have hm8 : m8 ≤ 1000 := by have := z8X2.len; have := HL8.out; skip; omega
            go_loopw [86] (fun i wr' => ∃ (j : Nat) (wr : World) (l9 : List Int), wr = wr' ∧ j ≤ m8 ∧ i = .int .i64 j ∧ Hid (X2.grownBy wr (Value.slice A8 m8 c8).ownBlock) ∧ Hid (Zo wr V3.heap.size A8 m8 c8 l9) ∧ Blk wr W2.heap.size (pdC (0 : Int) A8 m8 c8) 24) (fun i _ => m8 - (intOf i).toNat)
            case atStart => exact ⟨0, _, _, rfl, Nat.zero_le _, rfl, Lib.hid ⟨rfl, rfl, rfl, Nat.le_refl _, fun _ _ _ => rfl⟩, Lib.hid z8X2, k8X2⟩
            case round =>
              clear q8
              obtain ⟨j, wr, l9, hwr, hj, rfl, HGB, HZ9, k8r⟩ := hrel
              subst hwr
              by_cases hjt : j < m8
              · have hjt' : (j : Int) < (m8 : Int) := by omega
                have HJ := Lib.hid hjt
                have q8 : wr.cell? ⟨W2.heap.size, 1, none⟩ = some (.slice A8 m8 c8) := k8r.cell 1
                obtain ⟨g, rfl, hcell, hfrz, hset, hgrow, hgr⟩ := zo_at HZ9.out hjt
                have k8s := k8r.far (p := ⟨g, j, none⟩) (by have := HS8.out; simp; omega) (.int .i64 99)
                have HGB2 := Lib.hid (hgrow _ HGB.out)
                have HSET := Lib.hid hset
                clear hgrow hset
                go_wp2_with fail
                go_roundw
                case rel => exact ⟨j + 1, _, l9.set j 99, rfl, by have := HJ.out; omega, by go_num, HGB2, HSET, k8s⟩
                case measure => have := HJ.out; simp [intOf]; omega
              · obtain rfl : j = m8 := by omega
                have hgb := HGB.out
                have kbr := blk_grown kbX2 hgb (HD.out.1 w.heap.size (by have := HS8.out; have := HSh.out; omega))
                have k7r := blk_grown k7X2 hgb (HD.out.1 V1.heap.size (by have := HS8.out; have := HS7.out; omega))
                have k9r := blk_grown k9X2 hgb (HD.out.1 (W2.heap.size + 1) (by have := HS8.out; omega))
                have zbr := zo_grown zbX2 hgb HD.out.2.1
                have z6r := zo_grown z6X2 hgb HD.out.2.2.1
                have z9r := zo_grown z9X2 hgb HD.out.2.2.2
                have hBr : Below w.heap.size w wr := hBX2.grown hgb hBX2.size (fun k e => by have := z8X2.lt k e; have := HS8.out; have := HSh.out; omega)
                have hsr2 : w1.heap.size ≤ wr.heap.size := Nat.le_trans hsX2 hgb.size
                clear hgb HGB kbX2 k7X2 k9X2 zbX2 z6X2 z9X2 hBX2 hsX2 k8X2 z8X2
                have sm3 := rsame_pid cur A5 m5 c5 L cur A6 m6 c6 L wr zbr.ri zbr.len (by have := zbr.len; have := HL.out; omega) z6r.ri z6r.len
                rw [show ((cur == cur) && (L == L)) = true by simp] at sm3
                unfold pdV at sm3
                go_wp2_with (first
                  | (refine wpListG_load (by rfl) 24 (.tmp 2) rfl w.heap.size rfl 24 (pdC cur A5 m5 c5) _ kbr Try.underlying24 rfl (pd_inf _ _ _ _) ?_)
                  | (refine wpListG_load (by rfl) 24 (.tmp 7) rfl V1.heap.size rfl 24 (pdC cur A6 m6 c6) _ k7r Try.underlying24 rfl (pd_inf _ _ _ _) ?_))
                refine sm3.mono ?_
                rintro e Y1 ⟨rfl, bb⟩
                have kbY1 := kbr.below bb kbr.lt
                have k9Y1 := k9r.below bb k9r.lt
                have zbY1 := zbr.below bb (Nat.le_refl _)
                have z9Y1 := z9r.below bb (Nat.le_refl _)
                have hBY1 := hBr.trans (bb.mono hBr.size)
                have hsY1 := Nat.le_trans hsr2 bb.size
                clear sm3 bb kbr k7r k9r zbr z6r z9r hBr hsr2
                go_wp2_with fail
                go_roundw
                case rel => exact ⟨k + 1, _, cur, A5, m5, c5, L, rfl, by have := HKM.out; omega, by go_num, Lib.hid ⟨kbY1, zbY1, hBY1, hsY1⟩, HL⟩
                case measure => have := HKM.out; simp [intOf]; omega
          · skip
            go_wp2_with (refine wpList_load_row rfl 24 (.tmp 2) rfl w.heap.size rfl 24 (pdC cur A5 m5 c5) (0, 0) _ kb3.blk Try.underlying24 rfl (pd_inf _ _ _ _) ?_)
            refine fr.mono ?_
            rintro e V4 ⟨A8, m8, c8, a8, l8, e8, rfl, z8, ht, bb⟩
            have HT := Lib.hid ht
            have HL8 := Lib.hid (free_len HL.out ht)
            have kb4 := kb3.below bb kb3.lt
            have k74 := k73'.below bb k73'.lt
            have k84 := k83.below bb k83.lt
            have k94 := k93.below bb k93.lt
            have zb4 := zb3.below bb (Nat.le_refl _)
            have z64 := z63.below bb (Nat.le_refl _)
            have hB4 := hB3.trans (bb.mono hB3.size)
            have hs4 := Nat.le_trans hs3 bb.size
            have HV34 := Lib.hid (show V3.heap.size ≤ V4.heap.size from bb.size)
            clear fr ht bb kb3 k73' k83 k93 zb3 z63 hB3 hs3
            have hid : Ids cur L := ids_iff.1 (by simpa using HCT.out)
            go_wp2_with (first
              | (refine wpList_store_blk rfl 24 (.tmp 8) (.tmp 52) rfl W2.heap.size (pdC 0 none 0 0) (pdC a8 A8 m8 c8) 24 rfl rfl k84 rfl (pd_inf _ _ _ _) (pd_one _ _ _ _) ?_
                 intro V5 k85 n5
                 have kb5 := n5.blk7 kb4 (by have := HSh.out; omega)
                 have k75 := n5.blk7 k74 (by have := HS7.out; omega)
                 have k95 := n5.blk7 k94 (by omega)
                 have zb5 := own_but zb4 n5 (fun e => by have := HLT5.out _ e.symm; have := HWV.out; have := HS7.out; omega)
                 have z65 := own_but z64 n5 (fun e => by have := HLT6.out _ e.symm; have := HS7.out; omega)
                 have z85 := own_but z8 n5 (zo_apart z8 (by have := HS8.out; omega))
                 have hB5 : Below w.heap.size w V5 := hB4.trans (n5.below _ (by have := HSh.out; omega) hB4.size)
                 have hs5 := Nat.le_trans hs4 n5.size
                 have HV45 := Lib.hid (show V4.heap.size ≤ V5.heap.size from n5.size)
                 clear n5 kb4 k74 k84 k94 zb4 z64 z8 hB4 hs4)
              | (refine wpList_load_row rfl 24 (.tmp 7) rfl V1.heap.size rfl 24 (pdC cur A6 m6 c6) (0, 0) _ k75.blk Try.underlying24 rfl (pd_inf _ _ _ _) ?_))
            have rt := rfree_pid cur A6 m6 c6 L o V5 z65.ri z65.len (by have := z65.len; have := HL.out; omega)
            rw [rfree_eq hid, HT.out] at rt
            unfold pdV at rt
            refine rt.mono ?_
            rintro e V6 ⟨A9, m9, c9, a9, l9, e9, rfl, z9, ht, bb⟩
            obtain ⟨e1, e2, e3⟩ := tup2 ht
            have hn4 : (e8 != e9) = false := by rw [e3]; simp
            subst e1 e2
            clear e3
            clear ht rt hid
            have HA8 := Lib.hid (show ∀ g, (Value.slice A8 m8 c8).ownBlock = some g → g < V5.heap.size from fun g e => (z85.lt g e).2)
            have kb6 := kb5.below bb kb5.lt
            have k76 := k75.below bb k75.lt
            have k86 := k85.below bb k85.lt
            have k96 := k95.below bb k95.lt
            have zb6 := zb5.below bb (Nat.le_refl _)
            have z66 := z65.below bb (Nat.le_refl _)
            have z86 := z85.below bb (Nat.le_refl _)
            have hB6 := hB5.trans (bb.mono hB5.size)
            have hs6 := Nat.le_trans hs5 bb.size
            clear bb kb5 k75 k85 k95 zb5 z65 z85 hB5 hs5
            have HD := Lib.hid (show (∀ g, g < V3.heap.size → some g ≠ (Value.slice A8 m8 c8).ownBlock) ∧ (∀ g, (Value.slice A5 m5 c5).ownBlock = some g → some g ≠ (Value.slice A8 m8 c8).ownBlock) ∧ (∀ g, (Value.slice A6 m6 c6).ownBlock = some g → some g ≠ (Value.slice A8 m8 c8).ownBlock) ∧ (∀ g, (Value.slice A9 m9 c9).ownBlock = some g → some g ≠ (Value.slice A8 m8 c8).ownBlock) from
              ⟨fun g hg e => by have := (z86.lt g e.symm).1; omega, fun g hg e => by have := (z86.lt g e.symm).1; have := HLT5.out g hg; have := HWV.out; have := HS7.out; have := HS8.out; omega, fun g hg e => by have := (z86.lt g e.symm).1; have := HLT6.out g hg; have := HS7.out; have := HS8.out; omega, fun g hg e => by have := (z9.lt g hg).1; have := HA8.out g e.symm; omega⟩)
            go_wp2_with (first
              | (refine wpList_store_blk rfl 24 (.tmp 9) (.tmp 59) rfl (W2.heap.size + 1) (pdC 0 none 0 0) (pdC a8 A9 m9 c9) 24 rfl rfl k96 rfl (pd_inf _ _ _ _) (pd_one _ _ _ _) ?_
                 intro V7 k97 n7
                 have kb7 := n7.blk7 kb6 (by have := HSh.out; omega)
                 have k77 := n7.blk7 k76 (by have := HS7.out; omega)
                 have k87 := n7.blk7 k86 (by omega)
                 have zb7 := own_but zb6 n7 (fun e => by have := HLT5.out _ e.symm; have := HWV.out; have := HS7.out; omega)
                 have z67 := own_but z66 n7 (fun e => by have := HLT6.out _ e.symm; have := HS7.out; omega)
                 have z87 := own_but z86 n7 (zo_apart z86 HS8.out)
                 have z97 := own_but z9 n7 (zo_apart z9 (by have := HS8.out; have := HV34.out; have := HV45.out; omega))
                 have hB7 : Below w.heap.size w V7 := hB6.trans (n7.below _ (by have := HSh.out; omega) hB6.size)
                 have hs7 := Nat.le_trans hs6 n7.size
                 clear n7 kb6 k76 k86 k96 zb6 z66 z86 z9 hB6 hs6)
              | (refine wpListG_load (by rfl) 24 (.tmp 8) rfl W2.heap.size rfl 24 (pdC a8 A8 m8 c8) _ k87 Try.underlying24 rfl (pd_inf _ _ _ _) ?_)
              | (refine wpListG_load (by rfl) 24 (.tmp 9) rfl (W2.heap.size + 1) rfl 24 (pdC a8 A9 m9 c9) _ k97 Try.underlying24 rfl (pd_inf _ _ _ _) ?_))
            have sm1 := rsame_pid a8 A8 m8 c8 l8 a8 A9 m9 c9 l8 V7 z87.ri z87.len (by have := z87.len; have := HL8.out; omega) z97.ri z97.len
            rw [show ((a8 == a8) && (l8 == l8)) = true by simp] at sm1
            unfold pdV at sm1
            refine sm1.mono ?_
            rintro e X1 ⟨rfl, bb⟩
            have hWX1 : V7.heap.size ≤ X1.heap.size := bb.size
            have kbX1 := kb7.below bb kb7.lt
            have k7X1 := k77.below bb k77.lt
            have k8X1 := k87.below bb k87.lt
            have k9X1 := k97.below bb k97.lt
            have zbX1 := zb7.below bb (Nat.le_refl _)
            have z6X1 := z67.below bb (Nat.le_refl _)
            have z8X1 := z87.below bb (Nat.le_refl _)
            have z9X1 := z97.below bb (Nat.le_refl _)
            have hBX1 := hB7.trans (bb.mono hB7.size)
            have hsX1 := Nat.le_trans hs7 bb.size
            clear sm1 bb
            have sm2 := rsame_pid cur A5 m5 c5 L cur A6 m6 c6 L X1 zbX1.ri zbX1.len (by have := zbX1.len; have := HL.out; omega) z6X1.ri z6X1.len
            rw [show ((cur == cur) && (L == L)) = true by simp] at sm2
            unfold pdV at sm2
            go_wp2_with (first
              | (refine wpListG_load (by rfl) 24 (.tmp 2) rfl w.heap.size rfl 24 (pdC cur A5 m5 c5) _ kbX1 Try.underlying24 rfl (pd_inf _ _ _ _) ?_)
              | (refine wpListG_load (by rfl) 24 (.tmp 7) rfl V1.heap.size rfl 24 (pdC cur A6 m6 c6) _ k7X1 Try.underlying24 rfl (pd_inf _ _ _ _) ?_))
            refine sm2.mono ?_
            rintro e X2 ⟨rfl, bb⟩
            have hWX2 : V7.heap.size ≤ X2.heap.size := Nat.le_trans hWX1 bb.size
            have kbX2 := kbX1.below bb kbX1.lt
            have k7X2 := k7X1.below bb k7X1.lt
            have k8X2 := k8X1.below bb k8X1.lt
            have k9X2 := k9X1.below bb k9X1.lt
            have zbX2 := zbX1.below bb (Nat.le_refl _)
            have z6X2 := z6X1.below bb (Nat.le_refl _)
            have z8X2 := z8X1.below bb (Nat.le_refl _)
            have z9X2 := z9X1.below bb (Nat.le_refl _)
            have hBX2 := hBX1.trans (bb.mono hBX1.size)
            have hsX2 := Nat.le_trans hsX1 bb.size
            clear sm2 bb kbX1 k7X1 k8X1 k9X1 zbX1 z6X1 z8X1 z9X1 hBX1 hsX1
            have q8 : X2.cell? ⟨W2.heap.size, 1, none⟩ = some (.slice A8 m8 c8) := k8X2.cell 1
            go_wp2_with fail
            have hm8 : m8 ≤ 1000 := by have := z8X2.len; have := HL8.out; skip; omega
            go_loopw [86] (fun i wr' => ∃ (j : Nat) (wr : World) (l9 : List Int), wr = wr' ∧ j ≤ m8 ∧ i = .int .i64 j ∧ Hid (X2.grownBy wr (Value.slice A8 m8 c8).ownBlock) ∧ Hid (Zo wr V3.heap.size A8 m8 c8 l9) ∧ Blk wr W2.heap.size (pdC a8 A8 m8 c8) 24) (fun i _ => m8 - (intOf i).toNat)
            case atStart => exact ⟨0, _, _, rfl, Nat.zero_le _, rfl, Lib.hid ⟨rfl, rfl, rfl, Nat.le_refl _, fun _ _ _ => rfl⟩, Lib.hid z8X2, k8X2⟩
            case round =>
              clear q8
              obtain ⟨j, wr, l9, hwr, hj, rfl, HGB, HZ9, k8r⟩ := hrel
              subst hwr
              by_cases hjt : j < m8
              · have hjt' : (j : Int) < (m8 : Int) := by omega
                have HJ := Lib.hid hjt
                have q8 : wr.cell? ⟨W2.heap.size, 1, none⟩ = some (.slice A8 m8 c8) := k8r.cell 1
                obtain ⟨g, rfl, hcell, hfrz, hset, hgrow, hgr⟩ := zo_at HZ9.out hjt
                have k8s := k8r.far (p := ⟨g, j, none⟩) (by have := HS8.out; simp; omega) (.int .i64 99)
                have HGB2 := Lib.hid (hgrow _ HGB.out)
                have HSET := Lib.hid hset
                clear hgrow hset
                go_wp2_with fail
                go_roundw
                case rel => exact ⟨j + 1, _, l9.set j 99, rfl, by have := HJ.out; omega, by go_num, HGB2, HSET, k8s⟩
                case measure => have := HJ.out; simp [intOf]; omega
              · obtain rfl : j = m8 := by omega
                have hgb := HGB.out
                have kbr := blk_grown kbX2 hgb (HD.out.1 w.heap.size (by have := HS8.out; have := HSh.out; omega))
                have k7r := blk_grown k7X2 hgb (HD.out.1 V1.heap.size (by have := HS8.out; have := HS7.out; omega))
                have k9r := blk_grown k9X2 hgb (HD.out.1 (W2.heap.size + 1) (by have := HS8.out; omega))
                have zbr := zo_grown zbX2 hgb HD.out.2.1
                have z6r := zo_grown z6X2 hgb HD.out.2.2.1
                have z9r := zo_grown z9X2 hgb HD.out.2.2.2
                have hBr : Below w.heap.size w wr := hBX2.grown hgb hBX2.size (fun k e => by have := z8X2.lt k e; have := HS8.out; have := HSh.out; omega)
                have hsr2 : w1.heap.size ≤ wr.heap.size := Nat.le_trans hsX2 hgb.size
                clear hgb HGB kbX2 k7X2 k9X2 zbX2 z6X2 z9X2 hBX2 hsX2 k8X2 z8X2
                have sm3 := rsame_pid cur A5 m5 c5 L cur A6 m6 c6 L wr zbr.ri zbr.len (by have := zbr.len; have := HL.out; omega) z6r.ri z6r.len
                rw [show ((cur == cur) && (L == L)) = true by simp] at sm3
                unfold pdV at sm3
                go_wp2_with (first
                  | (refine wpListG_load (by rfl) 24 (.tmp 2) rfl w.heap.size rfl 24 (pdC cur A5 m5 c5) _ kbr Try.underlying24 rfl (pd_inf _ _ _ _) ?_)
                  | (refine wpListG_load (by rfl) 24 (.tmp 7) rfl V1.heap.size rfl 24 (pdC cur A6 m6 c6) _ k7r Try.underlying24 rfl (pd_inf _ _ _ _) ?_))
                refine sm3.mono ?_
                rintro e Y1 ⟨rfl, bb⟩
                have kbY1 := kbr.below bb kbr.lt
                have k9Y1 := k9r.below bb k9r.lt
                have zbY1 := zbr.below bb (Nat.le_refl _)
                have z9Y1 := z9r.below bb (Nat.le_refl _)
                have hBY1 := hBr.trans (bb.mono hBr.size)
                have hsY1 := Nat.le_trans hsr2 bb.size
                clear sm3 bb kbr k7r k9r zbr z6r z9r hBr hsr2
                cases her : (e8 == (0 : Int))
                · go_wp2_with fail
                  go_roundw
                  case rel => exact ⟨k + 1, _, cur, A5, m5, c5, L, rfl, by have := HKM.out; omega, by go_num, Lib.hid ⟨kbY1, zbY1, hBY1, hsY1⟩, HL⟩
                  case measure => have := HKM.out; simp [intOf]; omega
                · obtain rfl : e8 = 0 := by simpa using her
                  clear her
                  have cp := rcopy_pid a8 A9 m9 c9 l8 Y1 z9Y1.ri z9Y1.len (by have := z9Y1.len; have := HL8.out; omega)
                  unfold pdV at cp
                  go_wp2_with (refine wpListG_load (by rfl) 24 (.tmp 9) rfl (W2.heap.size + 1) rfl 24 (pdC a8 A9 m9 c9) _ k9Y1 Try.underlying24 rfl (pd_inf _ _ _ _) ?_)
                  refine cp.mono ?_
                  rintro e Y2 ⟨A10, m10, c10, rfl, z10, bb⟩
                  have kbY2 := kbY1.below bb kbY1.lt
                  have hBY2 := hBY1.trans (bb.mono hBY1.size)
                  have hsY2 := Nat.le_trans hsY1 bb.size
                  have hsY3 : w.heap.size < Y1.heap.size := kbY1.lt
                  clear cp bb
                  go_wp2_with (refine wpList_store_blk rfl 24 (.tmp 2) (.tmp 101) rfl w.heap.size (pdC cur A5 m5 c5) (pdC a8 A10 m10 c10) 24 rfl rfl kbY2 rfl (pd_inf _ _ _ _) (pd_one _ _ _ _) ?_
                               intro Y3 kY3 nY3
                               have z10' := own_but z10 nY3 (zo_apart z10 hsY3)
                               have hBY3 : Below w.heap.size w Y3 := hBY2.trans (nY3.below _ (Nat.le_refl _) hBY2.size)
                               have hsY4 := Nat.le_trans hsY2 nY3.size
                               clear nY3)
                  go_roundw
                  case rel => exact ⟨k + 1, _, a8, A10, m10, c10, l8, rfl, by have := HKM.out; omega, by go_num, Lib.hid ⟨kY3, z10'.down hsY1, hBY3, hsY4⟩, HL8⟩
                  case measure => have := HKM.out; simp [intOf]; omega
        · have tk := take_pid cur A5 m5 c5 L V3 zb3.ri HM5.out (by have := HM5.out; have := HL.out; omega)
          unfold pdV at tk
          cases ct
          · skip
            go_wp2_with (refine wpList_load_row rfl 24 (.tmp 2) rfl w.heap.size rfl 24 (pdC cur A5 m5 c5) (0, 0) _ kb3.blk Try.underlying24 rfl (pd_inf _ _ _ _) ?_)
            refine tk.mono ?_
            rintro e V4 ⟨A8, m8, c8, a8, l8, i8, e8, rfl, z8, ht, bb⟩
            have HT := Lib.hid ht
            have HL8 := Lib.hid (take_len ht)
            have kb4 := kb3.below bb kb3.lt
            have k74 := k73'.below bb k73'.lt
            have k84 := k83.below bb k83.lt
            have k94 := k93.below bb k93.lt
            have zb4 := zb3.below bb (Nat.le_refl _)
            have z64 := z63.below bb (Nat.le_refl _)
            have hB4 := hB3.trans (bb.mono hB3.size)
            have hs4 := Nat.le_trans hs3 bb.size
            have HV34 := Lib.hid (show V3.heap.size ≤ V4.heap.size from bb.size)
            clear tk ht bb kb3 k73' k83 k93 zb3 z63 hB3 hs3
            have hno : ¬ pidE cur L = 0 := by have := HCT.out; simpa using this
            have ht := HT.out
            unfold takeV at ht
            rw [if_neg hno] at ht
            obtain ⟨e1, e2, e3, e4⟩ := tup3 ht
            subst e1 e2 e3 e4
            clear ht hno
            go_wp2_with (first
              | (refine wpList_store_blk rfl 24 (.tmp 8) (.tmp 38) rfl W2.heap.size (pdC 0 none 0 0) (pdC 0 A8 m8 c8) 24 rfl rfl k84 rfl (pd_inf _ _ _ _) (pd_one _ _ _ _) ?_
                 intro V5 k85 n5
                 have kb5 := n5.blk7 kb4 (by have := HSh.out; omega)
                 have k75 := n5.blk7 k74 (by have := HS7.out; omega)
                 have k95 := n5.blk7 k94 (by omega)
                 have zb5 := own_but zb4 n5 (fun e => by have := HLT5.out _ e.symm; have := HWV.out; have := HS7.out; omega)
                 have z65 := own_but z64 n5 (fun e => by have := HLT6.out _ e.symm; have := HS7.out; omega)
                 have z85 := own_but z8 n5 (zo_apart z8 (by have := HS8.out; omega))
                 have hB5 : Below w.heap.size w V5 := hB4.trans (n5.below _ (by have := HSh.out; omega) hB4.size)
                 have hs5 := Nat.le_trans hs4 n5.size
                 have HV45 := Lib.hid (show V4.heap.size ≤ V5.heap.size from n5.size)
                 clear n5 kb4 k74 k84 k94 zb4 z64 z8 hB4 hs4)
              | (refine wpListG_load (by rfl) 24 (.tmp 8) rfl W2.heap.size rfl 24 (pdC 0 A8 m8 c8) _ k85 Try.underlying24 rfl (pd_inf _ _ _ _) ?_)
              | (refine wpListG_load (by rfl) 24 (.tmp 9) rfl (W2.heap.size + 1) rfl 24 (pdC 0 none 0 0) _ k95 Try.underlying24 rfl (pd_inf _ _ _ _) ?_))
            have z95 : Zo V5 V5.heap.size none 0 0 [] := zo_nil _ _
            have HD := Lib.hid (show (∀ g, g < V3.heap.size → some g ≠ (Value.slice A8 m8 c8).ownBlock) ∧ (∀ g, (Value.slice A5 m5 c5).ownBlock = some g → some g ≠ (Value.slice A8 m8 c8).ownBlock) ∧ (∀ g, (Value.slice A6 m6 c6).ownBlock = some g → some g ≠ (Value.slice A8 m8 c8).ownBlock) ∧ (∀ g, (Value.slice none 0 0).ownBlock = some g → some g ≠ (Value.slice A8 m8 c8).ownBlock) from
              ⟨fun g hg e => by have := (z85.lt g e.symm).1; omega, fun g hg e => by have := (z85.lt g e.symm).1; have := HLT5.out g hg; have := HWV.out; have := HS7.out; have := HS8.out; omega, fun g hg e => by have := (z85.lt g e.symm).1; have := HLT6.out g hg; have := HS7.out; have := HS8.out; omega, fun g hg => by cases hg⟩)
            have sm1 := rsame_pid (0 : Int) A8 m8 c8 ([] : List Int) (0 : Int) none 0 0 ([] : List Int) V5 z85.ri z85.len (by have := z85.len; have := HL8.out; omega) z95.ri z95.len
            rw [show (((0 : Int) == (0 : Int)) && (([] : List Int) == ([] : List Int))) = true by simp] at sm1
            unfold pdV at sm1
            refine sm1.mono ?_
            rintro e X1 ⟨rfl, bb⟩
            have hWX1 : V5.heap.size ≤ X1.heap.size := bb.size
            have kbX1 := kb5.below bb kb5.lt
            have k7X1 := k75.below bb k75.lt
            have k8X1 := k85.below bb k85.lt
            have k9X1 := k95.below bb k95.lt
            have zbX1 := zb5.below bb (Nat.le_refl _)
            have z6X1 := z65.below bb (Nat.le_refl _)
            have z8X1 := z85.below bb (Nat.le_refl _)
            have z9X1 := z95.below bb (Nat.le_refl _)
            have hBX1 := hB5.trans (bb.mono hB5.size)
            have hsX1 := Nat.le_trans hs5 bb.size
            clear sm1 bb
            have sm2 := rsame_pid cur A5 m5 c5 L cur A6 m6 c6 L X1 zbX1.ri zbX1.len (by have := zbX1.len; have := HL.out; omega) z6X1.ri z6X1.len
            rw [show ((cur == cur) && (L == L)) = true by simp] at sm2
            unfold pdV at sm2
            go_wp2_with (first
              | (refine wpListG_load (by rfl) 24 (.tmp 2) rfl w.heap.size rfl 24 (pdC cur A5 m5 c5) _ kbX1 Try.underlying24 rfl (pd_inf _ _ _ _) ?_)
              | (refine wpListG_load (by rfl) 24 (.tmp 7) rfl V1.heap.size rfl 24 (pdC cur A6 m6 c6) _ k7X1 Try.underlying24 rfl (pd_inf _ _ _ _) ?_))
            refine sm2.mono ?_
            rintro e X2 ⟨rfl, bb⟩
            have hWX2 : V5.heap.size ≤ X2.heap.size := Nat.le_trans hWX1 bb.size
            have kbX2 := kbX1.below bb kbX1.lt
            have k7X2 := k7X1.below bb k7X1.lt
            have k8X2 := k8X1.below bb k8X1.lt
            have k9X2 := k9X1.below bb k9X1.lt
            have zbX2 := zbX1.below bb (Nat.le_refl _)
            have z6X2 := z6X1.below bb (Nat.le_refl _)
            have z8X2 := z8X1.below bb (Nat.le_refl _)
            have z9X2 := z9X1.below bb (Nat.le_refl _)
            have hBX2 := hBX1.trans (bb.mono hBX1.size)
            have hsX2 := Nat.le_trans hsX1 bb.size
            clear sm2 bb kbX1 k7X1 k8X1 k9X1 zbX1 z6X1 z8X1 z9X1 hBX1 hsX1
            have q8 : X2.cell? ⟨W2.heap.size, 1, none⟩ = some (.slice A8 m8 c8) := k8X2.cell 1
            go_wp2_with fail
            have hm8 : m8 ≤ 1000 := by have := z8X2.len; have := HL8.out; skip; omega
            go_loopw [86] (fun i wr' => ∃ (j : Nat) (wr : World) (l9 : List Int), wr = wr' ∧ j ≤ m8 ∧ i = .int .i64 j ∧ Hid (X2.grownBy wr (Value.slice A8 m8 c8).ownBlock) ∧ Hid (Zo wr V3.heap.size A8 m8 c8 l9) ∧ Blk wr W2.heap.size (pdC (0 : Int) A8 m8 c8) 24) (fun i _ => m8 - (intOf i).toNat)
            case atStart => exact ⟨0, _, _, rfl, Nat.zero_le _, rfl, Lib.hid ⟨rfl, rfl, rfl, Nat.le_refl _, fun _ _ _ => rfl⟩, Lib.hid z8X2, k8X2⟩
            case round =>
              clear q8
              obtain ⟨j, wr, l9, hwr, hj, rfl, HGB, HZ9, k8r⟩ := hrel
              subst hwr
              by_cases hjt : j < m8
              · have hjt' : (j : Int) < (m8 : Int) := by omega
                have HJ := Lib.hid hjt
                have q8 : wr.cell? ⟨W2.heap.size, 1, none⟩ = some (.slice A8 m8 c8) := k8r.cell 1
                obtain ⟨g, rfl, hcell, hfrz, hset, hgrow, hgr⟩ := zo_at HZ9.out hjt
                have k8s := k8r.far (p := ⟨g, j, none⟩) (by have := HS8.out; simp; omega) (.int .i64 99)
                have HGB2 := Lib.hid (hgrow _ HGB.out)
                have HSET := Lib.hid hset
                clear hgrow hset
                go_wp2_with fail
                go_roundw
                case rel => exact ⟨j + 1, _, l9.set j 99, rfl, by have := HJ.out; omega, by go_num, HGB2, HSET, k8s⟩
                case measure => have := HJ.out; simp [intOf]; omega
              · obtain rfl : j = m8 := by omega
                have hgb := HGB.out
                have kbr := blk_grown kbX2 hgb (HD.out.1 w.heap.size (by have := HS8.out; have := HSh.out; omega))
                have k7r := blk_grown k7X2 hgb (HD.out.1 V1.heap.size (by have := HS8.out; have := HS7.out; omega))
                have k9r := blk_grown k9X2 hgb (HD.out.1 (W2.heap.size + 1) (by have := HS8.out; omega))
                have zbr := zo_grown zbX2 hgb HD.out.2.1
                have z6r := zo_grown z6X2 hgb HD.out.2.2.1
                have z9r := zo_grown z9X2 hgb HD.out.2.2.2
                have hBr : Below w.heap.size w wr := hBX2.grown hgb hBX2.size (fun k e => by have := z8X2.lt k e; have := HS8.out; have := HSh.out; omega)
                have hsr2 : w1.heap.size ≤ wr.heap.size := Nat.le_trans hsX2 hgb.size
                clear hgb HGB kbX2 k7X2 k9X2 zbX2 z6X2 z9X2 hBX2 hsX2 k8X2 z8X2
                have sm3 := rsame_pid cur A5 m5 c5 L cur A6 m6 c6 L wr zbr.ri zbr.len (by have := zbr.len; have := HL.out; omega) z6r.ri z6r.len
                rw [show ((cur == cur) && (L == L)) = true by simp] at sm3
                unfold pdV at sm3
                go_wp2_with (first
                  | (refine wpListG_load (by rfl) 24 (.tmp 2) rfl w.heap.size rfl 24 (pdC cur A5 m5 c5) _ kbr Try.underlying24 rfl (pd_inf _ _ _ _) ?_)
                  | (refine wpListG_load (by rfl) 24 (.tmp 7) rfl V1.heap.size rfl 24 (pdC cur A6 m6 c6) _ k7r Try.underlying24 rfl (pd_inf _ _ _ _) ?_))
                refine sm3.mono ?_
                rintro e Y1 ⟨rfl, bb⟩
                have kbY1 := kbr.below bb kbr.lt
                have k9Y1 := k9r.below bb k9r.lt
                have zbY1 := zbr.below bb (Nat.le_refl _)
                have z9Y1 := z9r.below bb (Nat.le_refl _)
                have hBY1 := hBr.trans (bb.mono hBr.size)
                have hsY1 := Nat.le_trans hsr2 bb.size
                clear sm3 bb kbr k7r k9r zbr z6r z9r hBr hsr2
                go_wp2_with fail
                go_roundw
                case rel => exact ⟨k + 1, _, cur, A5, m5, c5, L, rfl, by have := HKM.out; omega, by go_num, Lib.hid ⟨kbY1, zbY1, hBY1, hsY1⟩, HL⟩
                case measure => have := HKM.out; simp [intOf]; omega
          · skip
            go_wp2_with (refine wpList_load_row rfl 24 (.tmp 2) rfl w.heap.size rfl 24 (pdC cur A5 m5 c5) (0, 0) _ kb3.blk Try.underlying24 rfl (pd_inf _ _ _ _) ?_)
            refine tk.mono ?_
            rintro e V4 ⟨A8, m8, c8, a8, l8, i8, e8, rfl, z8, ht, bb⟩
            have HT := Lib.hid ht
            have HL8 := Lib.hid (take_len ht)
            have kb4 := kb3.below bb kb3.lt
            have k74 := k73'.below bb k73'.lt
            have k84 := k83.below bb k83.lt
            have k94 := k93.below bb k93.lt
            have zb4 := zb3.below bb (Nat.le_refl _)
            have z64 := z63.below bb (Nat.le_refl _)
            have hB4 := hB3.trans (bb.mono hB3.size)
            have hs4 := Nat.le_trans hs3 bb.size
            have HV34 := Lib.hid (show V3.heap.size ≤ V4.heap.size from bb.size)
            clear tk ht bb kb3 k73' k83 k93 zb3 z63 hB3 hs3
            have hid : Ids cur L := ids_iff.1 (by simpa using HCT.out)
            obtain ⟨an, rfl⟩ : ∃ an : Nat, cur = (an : Int) := ⟨cur.toNat, by have := hid.a0; omega⟩
            go_wp2_with (first
              | (refine wpList_store_blk rfl 24 (.tmp 8) (.tmp 38) rfl W2.heap.size (pdC 0 none 0 0) (pdC a8 A8 m8 c8) 24 rfl rfl k84 rfl (pd_inf _ _ _ _) (pd_one _ _ _ _) ?_
                 intro V5 k85 n5
                 have kb5 := n5.blk7 kb4 (by have := HSh.out; omega)
                 have k75 := n5.blk7 k74 (by have := HS7.out; omega)
                 have k95 := n5.blk7 k94 (by omega)
                 have zb5 := own_but zb4 n5 (fun e => by have := HLT5.out _ e.symm; have := HWV.out; have := HS7.out; omega)
                 have z65 := own_but z64 n5 (fun e => by have := HLT6.out _ e.symm; have := HS7.out; omega)
                 have z85 := own_but z8 n5 (zo_apart z8 (by have := HS8.out; omega))
                 have hB5 : Below w.heap.size w V5 := hB4.trans (n5.below _ (by have := HSh.out; omega) hB4.size)
                 have hs5 := Nat.le_trans hs4 n5.size
                 have HV45 := Lib.hid (show V4.heap.size ≤ V5.heap.size from n5.size)
                 clear n5 kb4 k74 k84 k94 zb4 z64 z8 hB4 hs4)
              | (refine wpList_load_row rfl 24 (.tmp 7) rfl V1.heap.size rfl 24 (pdC an A6 m6 c6) (0, 0) _ k75.blk Try.underlying24 rfl (pd_inf _ _ _ _) ?_))
            have rt := rtake_pid an A6 m6 c6 L V5 z65.ri z65.len (by have := z65.len; have := HL.out; omega) hid
            rw [HT.out] at rt
            unfold pdV at rt
            refine rt.mono ?_
            rintro e V6 ⟨A9, m9, c9, a9, l9, i9, e9, rfl, z9, ht, bb⟩
            obtain ⟨e1, e2, e3, e4⟩ := tup3 ht
            have hn3 : (i8 != i9) = false := by rw [e3]; simp
            have hn4 : (e8 != e9) = false := by rw [e4]; simp
            subst e1 e2
            clear e3 e4
            clear ht rt hid
            have HA8 := Lib.hid (show ∀ g, (Value.slice A8 m8 c8).ownBlock = some g → g < V5.heap.size from fun g e => (z85.lt g e).2)
            have kb6 := kb5.below bb kb5.lt
            have k76 := k75.below bb k75.lt
            have k86 := k85.below bb k85.lt
            have k96 := k95.below bb k95.lt
            have zb6 := zb5.below bb (Nat.le_refl _)
            have z66 := z65.below bb (Nat.le_refl _)
            have z86 := z85.below bb (Nat.le_refl _)
            have hB6 := hB5.trans (bb.mono hB5.size)
            have hs6 := Nat.le_trans hs5 bb.size
            clear bb kb5 k75 k85 k95 zb5 z65 z85 hB5 hs5
            have HD := Lib.hid (show (∀ g, g < V3.heap.size → some g ≠ (Value.slice A8 m8 c8).ownBlock) ∧ (∀ g, (Value.slice A5 m5 c5).ownBlock = some g → some g ≠ (Value.slice A8 m8 c8).ownBlock) ∧ (∀ g, (Value.slice A6 m6 c6).ownBlock = some g → some g ≠ (Value.slice A8 m8 c8).ownBlock) ∧ (∀ g, (Value.slice A9 m9 c9).ownBlock = some g → some g ≠ (Value.slice A8 m8 c8).ownBlock) from
              ⟨fun g hg e => by have := (z86.lt g e.symm).1; omega, fun g hg e => by have := (z86.lt g e.symm).1; have := HLT5.out g hg; have := HWV.out; have := HS7.out; have := HS8.out; omega, fun g hg e => by have := (z86.lt g e.symm).1; have := HLT6.out g hg; have := HS7.out; have := HS8.out; omega, fun g hg e => by have := (z9.lt g hg).1; have := HA8.out g e.symm; omega⟩)
            go_wp2_with (first
              | (refine wpList_store_blk rfl 24 (.tmp 9) (.tmp 45) rfl (W2.heap.size + 1) (pdC 0 none 0 0) (pdC a8 A9 m9 c9) 24 rfl rfl k96 rfl (pd_inf _ _ _ _) (pd_one _ _ _ _) ?_
                 intro V7 k97 n7
                 have kb7 := n7.blk7 kb6 (by have := HSh.out; omega)
                 have k77 := n7.blk7 k76 (by have := HS7.out; omega)
                 have k87 := n7.blk7 k86 (by omega)
                 have zb7 := own_but zb6 n7 (fun e => by have := HLT5.out _ e.symm; have := HWV.out; have := HS7.out; omega)
                 have z67 := own_but z66 n7 (fun e => by have := HLT6.out _ e.symm; have := HS7.out; omega)
                 have z87 := own_but z86 n7 (zo_apart z86 HS8.out)
                 have z97 := own_but z9 n7 (zo_apart z9 (by have := HS8.out; have := HV34.out; have := HV45.out; omega))
                 have hB7 : Below w.heap.size w V7 := hB6.trans (n7.below _ (by have := HSh.out; omega) hB6.size)
                 have hs7 := Nat.le_trans hs6 n7.size
                 clear n7 kb6 k76 k86 k96 zb6 z66 z86 z9 hB6 hs6)
              | (refine wpListG_load (by rfl) 24 (.tmp 8) rfl W2.heap.size rfl 24 (pdC a8 A8 m8 c8) _ k87 Try.underlying24 rfl (pd_inf _ _ _ _) ?_)
              | (refine wpListG_load (by rfl) 24 (.tmp 9) rfl (W2.heap.size + 1) rfl 24 (pdC a8 A9 m9 c9) _ k97 Try.underlying24 rfl (pd_inf _ _ _ _) ?_))
            have sm1 := rsame_pid a8 A8 m8 c8 l8 a8 A9 m9 c9 l8 V7 z87.ri z87.len (by have := z87.len; have := HL8.out; omega) z97.ri z97.len
            rw [show ((a8 == a8) && (l8 == l8)) = true by simp] at sm1
            unfold pdV at sm1
            refine sm1.mono ?_
            rintro e X1 ⟨rfl, bb⟩
            have hWX1 : V7.heap.size ≤ X1.heap.size := bb.size
            have kbX1 := kb7.below bb kb7.lt
            have k7X1 := k77.below bb k77.lt
            have k8X1 := k87.below bb k87.lt
            have k9X1 := k97.below bb k97.lt
            have zbX1 := zb7.below bb (Nat.le_refl _)
            have z6X1 := z67.below bb (Nat.le_refl _)
            have z8X1 := z87.below bb (Nat.le_refl _)
            have z9X1 := z97.below bb (Nat.le_refl _)
            have hBX1 := hB7.trans (bb.mono hB7.size)
            have hsX1 := Nat.le_trans hs7 bb.size
            clear sm1 bb
            have sm2 := rsame_pid an A5 m5 c5 L an A6 m6 c6 L X1 zbX1.ri zbX1.len (by have := zbX1.len; have := HL.out; omega) z6X1.ri z6X1.len
            rw [show (((an : Int) == (an : Int)) && (L == L)) = true by simp] at sm2
            unfold pdV at sm2
            go_wp2_with (first
              | (refine wpListG_load (by rfl) 24 (.tmp 2) rfl w.heap.size rfl 24 (pdC an A5 m5 c5) _ kbX1 Try.underlying24 rfl (pd_inf _ _ _ _) ?_)
              | (refine wpListG_load (by rfl) 24 (.tmp 7) rfl V1.heap.size rfl 24 (pdC an A6 m6 c6) _ k7X1 Try.underlying24 rfl (pd_inf _ _ _ _) ?_))
            refine sm2.mono ?_
            rintro e X2 ⟨rfl, bb⟩
            have hWX2 : V7.heap.size ≤ X2.heap.size := Nat.le_trans hWX1 bb.size
            have kbX2 := kbX1.below bb kbX1.lt
            have k7X2 := k7X1.below bb k7X1.lt
            have k8X2 := k8X1.below bb k8X1.lt
            have k9X2 := k9X1.below bb k9X1.lt
            have zbX2 := zbX1.below bb (Nat.le_refl _)
            have z6X2 := z6X1.below bb (Nat.le_refl _)
            have z8X2 := z8X1.below bb (Nat.le_refl _)
            have z9X2 := z9X1.below bb (Nat.le_refl _)
            have hBX2 := hBX1.trans (bb.mono hBX1.size)
            have hsX2 := Nat.le_trans hsX1 bb.size
            clear sm2 bb kbX1 k7X1 k8X1 k9X1 zbX1 z6X1 z8X1 z9X1 hBX1 hsX1
            have q8 : X2.cell? ⟨W2.heap.size, 1, none⟩ = some (.slice A8 m8 c8) := k8X2.cell 1
            go_wp2_with fail
            have hm8 : m8 ≤ 1000 := by have := z8X2.len; have := HL8.out; skip; omega
            go_loopw [86] (fun i wr' => ∃ (j : Nat) (wr : World) (l9 : List Int), wr = wr' ∧ j ≤ m8 ∧ i = .int .i64 j ∧ Hid (X2.grownBy wr (Value.slice A8 m8 c8).ownBlock) ∧ Hid (Zo wr V3.heap.size A8 m8 c8 l9) ∧ Blk wr W2.heap.size (pdC a8 A8 m8 c8) 24) (fun i _ => m8 - (intOf i).toNat)
            case atStart => exact ⟨0, _, _, rfl, Nat.zero_le _, rfl, Lib.hid ⟨rfl, rfl, rfl, Nat.le_refl _, fun _ _ _ => rfl⟩, Lib.hid z8X2, k8X2⟩
            case round =>
              clear q8
              obtain ⟨j, wr, l9, hwr, hj, rfl, HGB, HZ9, k8r⟩ := hrel
              subst hwr
              by_cases hjt : j < m8
              · have hjt' : (j : Int) < (m8 : Int) := by omega
                have HJ := Lib.hid hjt
                have q8 : wr.cell? ⟨W2.heap.size, 1, none⟩ = some (.slice A8 m8 c8) := k8r.cell 1
                obtain ⟨g, rfl, hcell, hfrz, hset, hgrow, hgr⟩ := zo_at HZ9.out hjt
                have k8s := k8r.far (p := ⟨g, j, none⟩) (by have := HS8.out; simp; omega) (.int .i64 99)
                have HGB2 := Lib.hid (hgrow _ HGB.out)
                have HSET := Lib.hid hset
                clear hgrow hset
                go_wp2_with fail
                go_roundw
                case rel => exact ⟨j + 1, _, l9.set j 99, rfl, by have := HJ.out; omega, by go_num, HGB2, HSET, k8s⟩
                case measure => have := HJ.out; simp [intOf]; omega
              · obtain rfl : j = m8 := by omega
                have hgb := HGB.out
                have kbr := blk_grown kbX2 hgb (HD.out.1 w.heap.size (by have := HS8.out; have := HSh.out; omega))
                have k7r := blk_grown k7X2 hgb (HD.out.1 V1.heap.size (by have := HS8.out; have := HS7.out; omega))
                have k9r := blk_grown k9X2 hgb (HD.out.1 (W2.heap.size + 1) (by have := HS8.out; omega))
                have zbr := zo_grown zbX2 hgb HD.out.2.1
                have z6r := zo_grown z6X2 hgb HD.out.2.2.1
                have z9r := zo_grown z9X2 hgb HD.out.2.2.2
                have hBr : Below w.heap.size w wr := hBX2.grown hgb hBX2.size (fun k e => by have := z8X2.lt k e; have := HS8.out; have := HSh.out; omega)
                have hsr2 : w1.heap.size ≤ wr.heap.size := Nat.le_trans hsX2 hgb.size
                clear hgb HGB kbX2 k7X2 k9X2 zbX2 z6X2 z9X2 hBX2 hsX2 k8X2 z8X2
                have sm3 := rsame_pid an A5 m5 c5 L an A6 m6 c6 L wr zbr.ri zbr.len (by have := zbr.len; have := HL.out; omega) z6r.ri z6r.len
                rw [show (((an : Int) == (an : Int)) && (L == L)) = true by simp] at sm3
                unfold pdV at sm3
                go_wp2_with (first
                  | (refine wpListG_load (by rfl) 24 (.tmp 2) rfl w.heap.size rfl 24 (pdC an A5 m5 c5) _ kbr Try.underlying24 rfl (pd_inf _ _ _ _) ?_)
                  | (refine wpListG_load (by rfl) 24 (.tmp 7) rfl V1.heap.size rfl 24 (pdC an A6 m6 c6) _ k7r Try.underlying24 rfl (pd_inf _ _ _ _) ?_))
                refine sm3.mono ?_
                rintro e Y1 ⟨rfl, bb⟩
                have kbY1 := kbr.below bb kbr.lt
                have k9Y1 := k9r.below bb k9r.lt
                have zbY1 := zbr.below bb (Nat.le_refl _)
                have z9Y1 := z9r.below bb (Nat.le_refl _)
                have hBY1 := hBr.trans (bb.mono hBr.size)
                have hsY1 := Nat.le_trans hsr2 bb.size
                clear sm3 bb kbr k7r k9r zbr z6r z9r hBr hsr2
                cases her : (e8 == (0 : Int))
                · go_wp2_with fail
                  go_roundw
                  case rel => exact ⟨k + 1, _, an, A5, m5, c5, L, rfl, by have := HKM.out; omega, by go_num, Lib.hid ⟨kbY1, zbY1, hBY1, hsY1⟩, HL⟩
                  case measure => have := HKM.out; simp [intOf]; omega
                · obtain rfl : e8 = 0 := by simpa using her
                  clear her
                  have cp := rcopy_pid a8 A9 m9 c9 l8 Y1 z9Y1.ri z9Y1.len (by have := z9Y1.len; have := HL8.out; omega)
                  unfold pdV at cp
                  go_wp2_with (refine wpListG_load (by rfl) 24 (.tmp 9) rfl (W2.heap.size + 1) rfl 24 (pdC a8 A9 m9 c9) _ k9Y1 Try.underlying24 rfl (pd_inf _ _ _ _) ?_)
                  refine cp.mono ?_
                  rintro e Y2 ⟨A10, m10, c10, rfl, z10, bb⟩
                  have kbY2 := kbY1.below bb kbY1.lt
                  have hBY2 := hBY1.trans (bb.mono hBY1.size)
                  have hsY2 := Nat.le_trans hsY1 bb.size
                  have hsY3 : w.heap.size < Y1.heap.size := kbY1.lt
                  clear cp bb
                  go_wp2_with (refine wpList_store_blk rfl 24 (.tmp 2) (.tmp 101) rfl w.heap.size (pdC an A5 m5 c5) (pdC a8 A10 m10 c10) 24 rfl rfl kbY2 rfl (pd_inf _ _ _ _) (pd_one _ _ _ _) ?_
                               intro Y3 kY3 nY3
                               have z10' := own_but z10 nY3 (zo_apart z10 hsY3)
                               have hBY3 : Below w.heap.size w Y3 := hBY2.trans (nY3.below _ (Nat.le_refl _) hBY2.size)
                               have hsY4 := Nat.le_trans hsY2 nY3.size
                               clear nY3)
                  go_roundw
                  case rel => exact ⟨k + 1, _, a8, A10, m10, c10, l8, rfl, by have := HKM.out; omega, by go_num, Lib.hid ⟨kY3, z10'.down hsY1, hBY3, hsY4⟩, HL8⟩
                  case measure => have := HKM.out; simp [intOf]; omega
      · go_wp2_with fail
        go_ret
        exact ⟨rfl, hB⟩
    · obtain rfl : k = m0 := by omega
      go_wp2_with fail
      go_ret
      exact ⟨rfl, hB⟩
end Go.Proofs.Ytjbhliabmaipbaa

/-
  The walk of TaskTells.
-/
import Derived.Test.YtfiaaobpodglmaaGreatQTqQ
import Derived.Deep.MidRow
import Derived.Deep.CutRange
import Derived.Deep.CutBlock
namespace Go.Proofs.YtfiaaobpodglmaaGreat
open Go.RowKit Go.Shelf
set_option linter.unusedVariables false
set_option linter.unusedSimpArgs false
theorem tx_infL (q : Tx) : (Tryz.prog.info? 27).map (·.size) = some (txC q).toList.length := by rw [Array.length_toList]; exact tk_inf _ _ _ _ _ _ _
def SJ (w : World) (g6 : Nat) (x : Tx) (V : World) : Prop := Below w.heap.size w V ∧ Blk V g6 (txC x) 27
theorem SJ.step {w : World} {g6 : Nat} {x : Tx} {V V' : World} (h : SJ w g6 x V) (hb : Below V.heap.size V V') : SJ w g6 x V' := ⟨h.1.trans (hb.mono h.1.size), h.2.below hb h.2.lt⟩
theorem SJ.but {w : World} {g6 : Nat} {x : Tx} {V V' : World} {g : Nat} (h : SJ w g6 x V) (n : But g V V') (hg : w.heap.size ≤ g) (hh : g6 < g) : SJ w g6 x V' := ⟨h.1.trans (n.below _ hg h.1.size), n.blk7 h.2 (by omega)⟩
structure TQ (w : World) (x y : Tx) (g6 g7 g8 : Nat) (U7 : Option Addr) (um7 uc7 : Nat) (A7 : Option Addr) (m7 c7 : Nat) (U8 : Option Addr) (um8 uc8 : Nat) (A8 : Option Addr) (m8 c8 : Nat) (V : World) : Prop where
  b : Below w.heap.size w V
  k6 : Blk V g6 (txC x) 27
  k7 : Blk V g7 (tkC x.a U7 um7 uc7 A7 m7 c7) 27
  k8 : Blk V g8 (tkC y.a U8 um8 uc8 A8 m8 c8) 27
structure TS (w : World) (x y : Tx) (g6 g7 g8 : Nat) (U7 : Option Addr) (um7 uc7 : Nat) (A7 : Option Addr) (m7 c7 : Nat) (L7 : List Pw) (U8 : Option Addr) (um8 uc8 : Nat) (A8 : Option Addr) (m8 c8 : Nat) (L8 : List Pw) (V : World) : Prop where
  b : Below w.heap.size w V
  k6 : Blk V g6 (txC x) 27
  k7 : Blk V g7 (tkC x.a U7 um7 uc7 A7 m7 c7) 27
  k8 : Blk V g8 (tkC y.a U8 um8 uc8 A8 m8 c8) 27
  t7 : Tk V V.heap.size U7 um7 uc7 (x.U.take 22) A7 m7 c7 L7
  t8 : Tk V V.heap.size U8 um8 uc8 (y.U.take 22) A8 m8 c8 L8
structure TG (w : World) (x y : Tx) (g6 g7 g8 : Nat) (U7 : Option Addr) (um7 uc7 : Nat) (A7 : Option Addr) (m7 c7 : Nat) (L7 : List Pw) (U8 : Option Addr) (um8 uc8 : Nat) (A8 : Option Addr) (m8 c8 : Nat) (L8 : List Pw) (w17 : World) (GW : Option Addr) (gmw gcw : Nat) (lw : List Int) (V : World) : Prop where
  t : TS w x y g6 g7 g8 U7 um7 uc7 A7 m7 c7 L7 U8 um8 uc8 A8 m8 c8 L8 V
  z : Zo V w17.heap.size GW gmw gcw lw
  b : Below w17.heap.size w17 V
section
variable {w : World} {x y : Tx} {g6 g7 g8 : Nat} {U7 : Option Addr} {um7 uc7 : Nat} {A7 : Option Addr} {m7 c7 : Nat} {L7 : List Pw} {U8 : Option Addr} {um8 uc8 : Nat} {A8 : Option Addr} {m8 c8 : Nat} {L8 : List Pw} {V V' w17 : World} {GW : Option Addr} {gmw gcw : Nat} {lw : List Int}
theorem TS.step (h : TS w x y g6 g7 g8 U7 um7 uc7 A7 m7 c7 L7 U8 um8 uc8 A8 m8 c8 L8 V) (bb : Below V.heap.size V V') : TS w x y g6 g7 g8 U7 um7 uc7 A7 m7 c7 L7 U8 um8 uc8 A8 m8 c8 L8 V' :=
  ⟨h.b.trans (bb.mono h.b.size), h.k6.below bb h.k6.lt, h.k7.below bb h.k7.lt, h.k8.below bb h.k8.lt, h.t7.on bb, h.t8.on bb⟩
theorem TG.step (h : TG w x y g6 g7 g8 U7 um7 uc7 A7 m7 c7 L7 U8 um8 uc8 A8 m8 c8 L8 w17 GW gmw gcw lw V) (bb : Below V.heap.size V V') : TG w x y g6 g7 g8 U7 um7 uc7 A7 m7 c7 L7 U8 um8 uc8 A8 m8 c8 L8 w17 GW gmw gcw lw V' :=
  ⟨h.t.step bb, h.z.below bb (Nat.le_refl _), h.b.trans (bb.mono h.b.size)⟩
theorem cs9 {B um9 uc9 m9 c9 : Nat} {U9 A9 : Option Addr} {L9 : List Pw} {P : List Pn} (h : TS w x y g6 g7 g8 U7 um7 uc7 A7 m7 c7 L7 U8 um8 uc8 A8 m8 c8 L8 V) (o9 : OwnT V B U9 um9 uc9 (x.U.take 22) A9 m9 c9 L9) (hn9 : L9.map (·.1) = (P.take 7).map shP) (hn7 : L7.map (·.1) = (P.take 7).map shP) :
    Calls Tryz.prog 15 #[.agg (tkC x.a U7 um7 uc7 A7 m7 c7), .agg (tkC x.a U9 um9 uc9 A9 m9 c9)] V fun e w' => e = .returned (.bool true) ∧ Below V.heap.size V w' := by
  have t9 := (sh_tk o9 hn9).1
  have := same_tk x.a U7 um7 uc7 (x.U.take 22) A7 m7 c7 L7 x.a U9 um9 uc9 (x.U.take 22) A9 m9 c9 L9 V h.t7.u h.t7.ul h.t7.u6 h.t7.p h.t7.pl (by have := h.t7.p6; omega) t9.u t9.ul t9.p t9.pl (by have := t9.p6; omega)
  rw [beq_self_eq_true, beq_self_eq_true, decide_eq_true (hn7.trans hn9.symm)] at this
  exact this
theorem cr9 {B um9 uc9 m9 c9 : Nat} {U9 A9 : Option Addr} {L9 : List Pw} {P : List Pn} (h : TS w x y g6 g7 g8 U7 um7 uc7 A7 m7 c7 L7 U8 um8 uc8 A8 m8 c8 L8 V) (o9 : OwnT V B U9 um9 uc9 (x.U.take 22) A9 m9 c9 L9) (hn9 : L9.map (·.1) = (P.take 7).map shP) (hn7 : L7.map (·.1) = (P.take 7).map shP) :
    Calls Tryz.prog 10 #[.agg (tkC x.a U7 um7 uc7 A7 m7 c7), .agg (tkC x.a U9 um9 uc9 A9 m9 c9)] V fun e w' => e = .returned (.bool true) ∧ Below V.heap.size V w' := by
  have t9 := (sh_tk o9 hn9).1
  have := rsame_tk x.a U7 um7 uc7 (x.U.take 22) A7 m7 c7 L7 x.a U9 um9 uc9 (x.U.take 22) A9 m9 c9 L9 V h.t7 t9
  rw [beq_self_eq_true, beq_self_eq_true, show nmE L7 L9 = true from decide_eq_true (hn7.trans hn9.symm)] at this
  exact this
theorem sm9 {B1 B2 gm1 gc1 gm2 gc2 : Nat} {G1 G2 : Option Addr} {l : List Int} (z1 : Zo V B1 G1 gm1 gc1 l) (z2 : Zo V B2 G2 gm2 gc2 l) (h6 : l.length ≤ 1000000) :
    Calls Tryz.prog 16 #[.slice G1 gm1 gc1, .slice G2 gm2 gc2] V fun e w' => e = .returned (.bool true) ∧ Below V.heap.size V w' := by
  have := lsame_tk G1 gm1 gc1 l G2 gm2 gc2 l V z1.ri z1.len (by have := z1.len; omega) z2.ri z2.len
  rw [beq_self_eq_true] at this
  exact this
theorem fin_tk (w : World) (v : Value) (B : Nat) (hv : TkR w B v beginA) (w3 : World) (s : Nat) (hb : Below w.heap.size w w3) (h0 : Blk w3 s #[.int .i64 1] 3) (h1 : Blk w3 (s + 1) #[.int .i64 1] 3) (h2 : Blk w3 (s + 2) #[.int .i64 1, .int .i64 0, .slice (some ⟨s + 1, 0, none⟩) 1 1] 49) :
    Calls Tryz.prog 10 #[v, .agg #[.int .i64 1, .slice (some ⟨s, 0, none⟩) 1 1, .slice (some ⟨s + 2, 0, none⟩) 1 1]] w3 fun e w' => e = .returned (.bool true) ∧ Below w3.heap.size w3 w' := by
  obtain ⟨Ua, um, uc, A, m, c, L, rfl, tk, hn, _⟩ := hv
  have ri : ∀ g, Blk w3 g #[.int .i64 1] 3 → Ri7 w3 w3.heap.size (some ⟨g, 0, none⟩) [1] := fun g l k hk => by
    have e : k = 0 := by simpa using hk
    subst e
    exact ⟨g, 0, rfl, l.lt, l.cell 0⟩
  have t2 : Tk w3 w3.heap.size (some ⟨s, 0, none⟩) 1 1 [1] (some ⟨s + 2, 0, none⟩) 1 1 [((⟨1, 0, [1]⟩ : Pn), ((some ⟨s + 1, 0, none⟩ : Option Addr), 1))] := by
    refine ⟨ri _ h0, rfl, by omega, ⟨fun k hk => ?_, fun x hx => ?_⟩, rfl, by omega, by simp [thrF]⟩
    · have e : k = 0 := by simpa using hk
      subst e
      refine ⟨s + 2, 0, rfl, h2.lt, fun j v hv => ?_⟩
      have := h2.cell j
      rw [Nat.zero_mul, Nat.add_zero, Nat.zero_add]
      rw [this]
      rw [← Array.getElem?_toList]
      exact hv
    · rw [List.mem_singleton.1 hx]
      exact ⟨ri _ h1, Nat.le_refl _, by show (1 : Nat) ≤ 1000000; omega⟩
  have := rsame_tk beginA.a Ua um uc beginA.U A m c L 1 (some ⟨s, 0, none⟩) 1 1 [1] (some ⟨s + 2, 0, none⟩) 1 1 _ w3 (tk.on hb) t2
  rw [show ((beginA.a == 1) && (beginA.U == [1])) = true from rfl, show nmE L [((⟨1, 0, [1]⟩ : Pn), ((some ⟨s + 1, 0, none⟩ : Option Addr), 1))] = true from decide_eq_true hn] at this
  exact this
end
set_option maxRecDepth 100000 in
set_option maxHeartbeats 40000000 in
theorem tells_law (A : Option Addr) (m c : Nat) (L : List Tx) (A0 : Option Addr) (m0 c0 : Nat) (os : List Int) (w : World) (hP : Txs w w.heap.size A L) (hm : m = L.length) (hmx : m ≤ 9223372036854775807) (hA0 : Ri7 w w.heap.size A0 os) (hm0 : m0 = os.length) (hmx0 : m0 ≤ 9223372036854775807) :
    Calls Tryz.prog 4 #[.slice A m c, .slice A0 m0 c0] w fun e w' => e = .returned (.bool true) ∧ Below w.heap.size w w' := by
  have B0 := Below.refl w.heap.size w
  have HM := Lib.hid hm
  have HM0 := Lib.hid hm0
  have HW := Lib.hid (wakes_any w)
  clear hm hm0
  go_enter Tryz.func4, Tryz.ntmps4
  go_wp2_with (first
    | (refine HW.out.mono ?_
       clear HW
       rintro e w1 ⟨rfl, bb⟩
       have b1 := B0.trans (bb.mono B0.size)
       clear bb B0))
  go_loopw [23] (fun kv wr' => ∃ (k : Nat) (wr : World), wr = wr' ∧ k ≤ m ∧ kv = .int .i64 k ∧ Below w.heap.size w wr) (fun kv _ => m - (intOf kv).toNat)
  case atStart => exact ⟨0, _, rfl, Nat.zero_le _, rfl, b1⟩
  case round =>
    clear b1
    obtain ⟨k, wr, hwr, hk, rfl, hB⟩ := hrel
    subst hwr
    by_cases hlt : k < m
    · have hlt' : (k : Int) < (m : Int) := by omega
      have hkl : k < L.length := by have := HM.out; omega
      have h0l : 0 < L.length := by omega
      obtain ⟨b, off, rfl, hb, hc, hr⟩ := hP k hkl
      obtain ⟨b', off', eb, hb0, hc0, hr0⟩ := hP 0 h0l
      cases eb
      have hcr : wr.rangeAt b (off + k * 3) _ := range_belowT hc hB hb
      have hc0' : w.rangeAt b off (txC (L.getD 0 tx0)).toList := by rw [Nat.zero_mul, Nat.add_zero] at hc0; exact hc0
      have HC0 := Lib.hid hc0'
      generalize L.getD k tx0 = x at hr hcr
      generalize L.getD 0 tx0 = y at hr0 HC0
      have HX := Lib.hid hr
      have HY := Lib.hid hr0
      have HKM := Lib.hid hlt
      have H0M := Lib.hid (show (0 : Int) < (m : Int) by omega)
      have H0N := Lib.hid (show 0 < m by omega)
      have hs3 : (txC x).size = 3 := rfl
      clear hkl h0l hc hc0 hlt hc0' hr hr0
      cases h8 : ((k : Int) == 8)
      · go_upto_region 7 with (first
          | (refine wpList_load_mid rfl 27 (.tmp 26) rfl b (off + k * 3) rfl (txC x).toList _ hcr Tryz.underlying27 rfl (tx_infL x) ?_)
          | (refine wpList_store_blk rfl 27 (.tmp 6) (.tmp 27) rfl wr.heap.size (tkC 0 none 0 0 none 0 0) (txC x) 27 rfl rfl (Blk.new _ _ _) rfl (tk_inf _ _ _ _ _ _ _) (tk_one _ _ _ _ _ _ _) ?_
             intro W1 k6 n1
             have bb : Below wr.heap.size wr W1 := ((Below.refl _ wr).alloc (Nat.le_refl _) _).trans (n1.below _ (Nat.le_refl _) (by simp))
             have hB1 := hB.trans (bb.mono hB.size)
             clear bb n1 hcr hB))
        try simp only [Act.put]
        obtain ⟨g6, hg6⟩ : ∃ g, wr.heap.size = g := ⟨_, rfl⟩
        simp only [hg6] at k6 ⊢
        clear hg6
        go_cut [7, 8] from 24 to 148 (fun s7 s8 wx => ∃ (g7 g8 : Nat) (U7 : Option Addr) (um7 uc7 : Nat) (A7 : Option Addr) (m7 c7 : Nat) (L7 : List Pw) (U8 : Option Addr) (um8 uc8 : Nat) (A8 : Option Addr) (m8 c8 : Nat) (L8 : List Pw), s7 = .pointer (some ⟨g7, 0, none⟩) ∧ s8 = .pointer (some ⟨g8, 0, none⟩) ∧ Hid (TQ w x y g6 g7 g8 U7 um7 uc7 A7 m7 c7 U8 um8 uc8 A8 m8 c8 wx) ∧ Hid (OwnT wx w.heap.size U7 um7 uc7 (x.U.take 22) A7 m7 c7 L7) ∧ Hid (OwnT wx w.heap.size U8 um8 uc8 (y.U.take 22) A8 m8 c8 L8) ∧ Hid (L7.map (·.1) = ((x.L.map (·.1)).take 7).map shP) ∧ Hid (L8.map (·.1) = ((y.L.map (·.1)).take 7).map shP))
        case first =>
          have J : SJ w g6 x W1.drew := ⟨hB1.drew, k6.drew⟩
          clear k6 hB1
          refine region_cutP ?_
          refine wp_region_held_drew (S := SJ w g6 x) (by kernel_rfl) J (fun _ => ?_)
          refine wpAnyH_take (i := 0) (v := .agg (txC x)) rfl (by kernel_rfl) (by kernel_rfl) (by kernel_rfl) (fun _ _ _ h => nomatch h.1) (yieldsIf_blk (by rfl) 27 (.tmp 6) rfl g6 rfl (txC x) 27 _ (fun _ h => h.2) Tryz.underlying27 rfl (tk_inf _ _ _ _ _ _ _)) J ?_
          try simp only [Act.put, List.getElem_toArray, List.getElem_cons_zero, List.getElem_cons_succ, List.setIfInBounds_toArray, List.set_cons_zero, List.set_cons_succ]
          refine wpAnyH_take (i := 2) (v := .slice (some ⟨b, off, none⟩) m c) rfl (by kernel_rfl) (by kernel_rfl) (by kernel_rfl) (fun _ _ _ h => nomatch h.1) (.inl ⟨by rfl, fun V hV => by go_simp⟩) J ?_
          try simp only [Act.put, List.getElem_toArray, List.getElem_cons_zero, List.getElem_cons_succ, List.setIfInBounds_toArray, List.set_cons_zero, List.set_cons_succ]
          refine wpAnyH_take (i := 3) (v := .pointer (some ⟨b, off, none⟩)) rfl (by kernel_rfl) (by kernel_rfl) (by kernel_rfl) (fun _ _ _ h => nomatch h.1) (.inl ⟨by rfl, fun V hV => by have h9 := H0M.out; have h8 := H0N.out; go_simp⟩) J ?_
          try simp only [Act.put, List.getElem_toArray, List.getElem_cons_zero, List.getElem_cons_succ, List.setIfInBounds_toArray, List.set_cons_zero, List.set_cons_succ]
          refine wpAnyH_take (i := 4) (v := .agg (txC y)) rfl (by kernel_rfl) (by kernel_rfl) (by kernel_rfl) (fun _ _ _ h => nomatch h.1) (yieldsIf_load_mid (by rfl) 27 (.tmp 33) rfl b off rfl (txC y).toList _ (fun V hV j v hv => (hV.1.cell (p := ⟨b, off + j, none⟩) hb).trans (HC0.out j v hv)) Tryz.underlying27 rfl (tx_infL y)) J ?_
          try simp only [Act.put, List.getElem_toArray, List.getElem_cons_zero, List.getElem_cons_succ, List.setIfInBounds_toArray, List.set_cons_zero, List.set_cons_succ]
          generalize W1.drew = W0 at J ⊢
          refine wpAnyH_ready (rs := [1, 6, 7]) (by kernel_rfl) (by simp) ?_
          refine AllReadyH.cons rfl (fun K hK => ?_) (AllReadyH.cons rfl (fun K hK => ?_) (AllReadyH.cons rfl (fun K hK => ?_) AllReadyH.nil))
          · skip
            try simp only [Act.put, List.getElem_toArray, List.getElem_cons_zero, List.getElem_cons_succ, List.setIfInBounds_toArray, List.set_cons_zero, List.set_cons_succ]
            go_simp
            refine (short_tk x W0 ((HX.out.below J.1 (Nat.le_refl _)).more J.1.size)).mono ?_
            rintro e V1 ⟨U7, um7, uc7, A7, m7, c7, L7, rfl, o7, hn7, bb⟩
            go_wp2_with fail
            have o7 := o7.down (B' := w.heap.size) J.1.size
            have HN7 := Lib.hid hn7
            clear hn7
            have J := J.step bb
            clear bb
            refine hK.out _ _ J (fun _ => ?_)
            clear hK K
            try simp only [Act.put, List.getElem_toArray, List.getElem_cons_zero, List.getElem_cons_succ, List.setIfInBounds_toArray, List.set_cons_zero, List.set_cons_succ]
            refine wpAnyH_ready (rs := [5, 6, 7]) (by kernel_rfl) (by simp) ?_
            refine AllReadyH.cons rfl (fun K hK => ?_) (AllReadyH.cons rfl (fun K hK => ?_) (AllReadyH.cons rfl (fun K hK => ?_) AllReadyH.nil))
            · skip
              try simp only [Act.put, List.getElem_toArray, List.getElem_cons_zero, List.getElem_cons_succ, List.setIfInBounds_toArray, List.set_cons_zero, List.set_cons_succ]
              go_simp
              refine (short_tk y V1 ((HY.out.below J.1 (Nat.le_refl _)).more J.1.size)).mono ?_
              rintro e V2 ⟨U8, um8, uc8, A8, m8, c8, L8, rfl, o8, hn8, bb⟩
              go_wp2_with fail
              have o8 := o8.down (B' := w.heap.size) J.1.size
              have HN8 := Lib.hid hn8
              clear hn8
              have J := J.step bb
              have o7 := o7.below bb (Nat.le_refl _)
              clear bb
              refine hK.out _ _ J (fun _ => ?_)
              clear hK K
              try simp only [Act.put, List.getElem_toArray, List.getElem_cons_zero, List.getElem_cons_succ, List.setIfInBounds_toArray, List.set_cons_zero, List.set_cons_succ]
              refine wpAnyH_ready (rs := [6, 7]) (by kernel_rfl) (by simp) ?_
              refine AllReadyH.cons rfl (fun K hK => ?_) (AllReadyH.cons rfl (fun K hK => ?_) AllReadyH.nil)
              · skip
                try simp only [Act.put, List.getElem_toArray, List.getElem_cons_zero, List.getElem_cons_succ, List.setIfInBounds_toArray, List.set_cons_zero, List.set_cons_succ]
                go_simp
                have k7 := Blk.new V2 (tkC 0 none 0 0 none 0 0) 27
                have bb : Below V2.heap.size V2 (V2.alloc (.cells (tkC 0 none 0 0 none 0 0) 27)) := (Below.refl _ _).alloc (Nat.le_refl _) _
                have hw9 := J.1.size
                have hg9 := J.2.lt
                show K _ (V2.alloc (.cells (tkC 0 none 0 0 none 0 0) 27))
                generalize V2.alloc (.cells (tkC 0 none 0 0 none 0 0) 27) = V3 at k7 bb ⊢
                have J := J.step bb
                have o7 := o7.below bb (Nat.le_refl _)
                have o8 := o8.below bb (Nat.le_refl _)
                clear bb
                obtain ⟨g7, eg7⟩ : ∃ g, g = V2.heap.size := ⟨_, rfl⟩
                rw [← eg7] at k7 ⊢
                have hg7 : w.heap.size ≤ g7 := by omega
                have hh7 : g6 < g7 := by omega
                clear eg7 hw9 hg9
                refine hK.out _ _ J (fun _ => ?_)
                clear hK K
                try simp only [Act.put, List.getElem_toArray, List.getElem_cons_zero, List.getElem_cons_succ, List.setIfInBounds_toArray, List.set_cons_zero, List.set_cons_succ]
                refine wpAnyH_ready (rs := [7]) (by kernel_rfl) (by simp) ?_
                refine AllReadyH.cons rfl (fun K hK => ?_) AllReadyH.nil
                · skip
                  try simp only [Act.put, List.getElem_toArray, List.getElem_cons_zero, List.getElem_cons_succ, List.setIfInBounds_toArray, List.set_cons_zero, List.set_cons_succ]
                  go_simp
                  have k8 := Blk.new V3 (tkC 0 none 0 0 none 0 0) 27
                  have bb : Below V3.heap.size V3 (V3.alloc (.cells (tkC 0 none 0 0 none 0 0) 27)) := (Below.refl _ _).alloc (Nat.le_refl _) _
                  have hw9 := J.1.size
                  have hg9 := J.2.lt
                  have hx9 := k7.lt
                  show K _ (V3.alloc (.cells (tkC 0 none 0 0 none 0 0) 27))
                  generalize V3.alloc (.cells (tkC 0 none 0 0 none 0 0) 27) = V4 at k8 bb ⊢
                  have J := J.step bb
                  have k7 := k7.below bb k7.lt
                  have o7 := o7.below bb (Nat.le_refl _)
                  have o8 := o8.below bb (Nat.le_refl _)
                  clear bb
                  obtain ⟨g8, eg8⟩ : ∃ g, g = V3.heap.size := ⟨_, rfl⟩
                  rw [← eg8] at k8 ⊢
                  have hg8 : w.heap.size ≤ g8 := by omega
                  have hh8 : g6 < g8 := by omega
                  have hgg : g7 ≠ g8 := by omega
                  clear eg8 hw9 hg9
                  clear hx9
                  refine hK.out _ _ J (fun _ => ?_)
                  clear hK K
                  try simp only [Act.put, List.getElem_toArray, List.getElem_cons_zero, List.getElem_cons_succ, List.setIfInBounds_toArray, List.set_cons_zero, List.set_cons_succ]
                  refine wpAnyH_ready (rs := [8]) (by kernel_rfl) (by simp) ?_
                  refine AllReadyH.cons rfl (fun K hK => ?_) AllReadyH.nil
                  try simp only [Act.put, List.getElem_toArray, List.getElem_cons_zero, List.getElem_cons_succ, List.setIfInBounds_toArray, List.set_cons_zero, List.set_cons_succ]
                  rw [if_pos (by rfl)]
                  refine wp_store_blk 27 (.tmp 7) (.tmp 31) rfl g7 (tkC 0 none 0 0 none 0 0) (tkC x.a U7 um7 uc7 A7 m7 c7) 27 rfl rfl k7 rfl (tk_inf _ _ _ _ _ _ _) (tk_one _ _ _ _ _ _ _) ?_
                  intro X1 h7 n7
                  have J1 := J.but n7 hg7 hh7
                  have k81 := n7.blk7 k8 (by omega)
                  have o71 := o7.kind n7 k7 (by decide) (by decide)
                  have o81 := o8.kind n7 k7 (by decide) (by decide)
                  refine hK.out _ _ J1 (fun _ => ?_)
                  clear hK K
                  try simp only [Act.put, List.getElem_toArray, List.getElem_cons_zero, List.getElem_cons_succ, List.setIfInBounds_toArray, List.set_cons_zero, List.set_cons_succ]
                  refine wpAnyH_ready (rs := [9]) (by kernel_rfl) (by simp) ?_
                  refine AllReadyH.cons rfl (fun K hK => ?_) AllReadyH.nil
                  try simp only [Act.put, List.getElem_toArray, List.getElem_cons_zero, List.getElem_cons_succ, List.setIfInBounds_toArray, List.set_cons_zero, List.set_cons_succ]
                  rw [if_pos (by rfl)]
                  refine wp_store_blk 27 (.tmp 8) (.tmp 35) rfl g8 (tkC 0 none 0 0 none 0 0) (tkC y.a U8 um8 uc8 A8 m8 c8) 27 rfl rfl k81 rfl (tk_inf _ _ _ _ _ _ _) (tk_one _ _ _ _ _ _ _) ?_
                  intro X2 h8 n8
                  have J2 := J1.but n8 hg8 hh8
                  have h72 := n8.blk7 h7 (by omega)
                  have o72 := o71.kind n8 k81 (by decide) (by decide)
                  have o82 := o81.kind n8 k81 (by decide) (by decide)
                  refine hK.out _ _ J2 (fun _ => ?_)
                  clear hK K
                  try simp only [Act.put, List.getElem_toArray, List.getElem_cons_zero, List.getElem_cons_succ, List.setIfInBounds_toArray, List.set_cons_zero, List.set_cons_succ]
                  refine wpAnyH_done (by kernel_rfl) ?_ _
                  refine ⟨rfl, ?_⟩
                  go_wp2_with fail
                  go_meet
                  case rel => exact ⟨g7, g8, U7, um7, uc7, A7, m7, c7, L7, U8, um8, uc8, A8, m8, c8, L8, rfl, rfl, Lib.hid ⟨J2.1, J2.2, h72, h8⟩, Lib.hid o72, Lib.hid o82, HN7, HN8⟩
              · skip
                try simp only [Act.put, List.getElem_toArray, List.getElem_cons_zero, List.getElem_cons_succ, List.setIfInBounds_toArray, List.set_cons_zero, List.set_cons_succ]
                go_simp
                have k8 := Blk.new V2 (tkC 0 none 0 0 none 0 0) 27
                have bb : Below V2.heap.size V2 (V2.alloc (.cells (tkC 0 none 0 0 none 0 0) 27)) := (Below.refl _ _).alloc (Nat.le_refl _) _
                have hw9 := J.1.size
                have hg9 := J.2.lt
                show K _ (V2.alloc (.cells (tkC 0 none 0 0 none 0 0) 27))
                generalize V2.alloc (.cells (tkC 0 none 0 0 none 0 0) 27) = V5 at k8 bb ⊢
                have J := J.step bb
                have o7 := o7.below bb (Nat.le_refl _)
                have o8 := o8.below bb (Nat.le_refl _)
                clear bb
                obtain ⟨g8, eg8⟩ : ∃ g, g = V2.heap.size := ⟨_, rfl⟩
                rw [← eg8] at k8 ⊢
                have hg8 : w.heap.size ≤ g8 := by omega
                have hh8 : g6 < g8 := by omega
                clear eg8 hw9 hg9
                refine hK.out _ _ J (fun _ => ?_)
                clear hK K
                try simp only [Act.put, List.getElem_toArray, List.getElem_cons_zero, List.getElem_cons_succ, List.setIfInBounds_toArray, List.set_cons_zero, List.set_cons_succ]
                refine wpAnyH_ready (rs := [6]) (by kernel_rfl) (by simp) ?_
                refine AllReadyH.cons rfl (fun K hK => ?_) AllReadyH.nil
                · skip
                  try simp only [Act.put, List.getElem_toArray, List.getElem_cons_zero, List.getElem_cons_succ, List.setIfInBounds_toArray, List.set_cons_zero, List.set_cons_succ]
                  go_simp
                  have k7 := Blk.new V5 (tkC 0 none 0 0 none 0 0) 27
                  have bb : Below V5.heap.size V5 (V5.alloc (.cells (tkC 0 none 0 0 none 0 0) 27)) := (Below.refl _ _).alloc (Nat.le_refl _) _
                  have hw9 := J.1.size
                  have hg9 := J.2.lt
                  have hx9 := k8.lt
                  show K _ (V5.alloc (.cells (tkC 0 none 0 0 none 0 0) 27))
                  generalize V5.alloc (.cells (tkC 0 none 0 0 none 0 0) 27) = V6 at k7 bb ⊢
                  have J := J.step bb
                  have k8 := k8.below bb k8.lt
                  have o7 := o7.below bb (Nat.le_refl _)
                  have o8 := o8.below bb (Nat.le_refl _)
                  clear bb
                  obtain ⟨g7, eg7⟩ : ∃ g, g = V5.heap.size := ⟨_, rfl⟩
                  rw [← eg7] at k7 ⊢
                  have hg7 : w.heap.size ≤ g7 := by omega
                  have hh7 : g6 < g7 := by omega
                  have hgg : g7 ≠ g8 := by omega
                  clear eg7 hw9 hg9
                  clear hx9
                  refine hK.out _ _ J (fun _ => ?_)
                  clear hK K
                  try simp only [Act.put, List.getElem_toArray, List.getElem_cons_zero, List.getElem_cons_succ, List.setIfInBounds_toArray, List.set_cons_zero, List.set_cons_succ]
                  refine wpAnyH_ready (rs := [8]) (by kernel_rfl) (by simp) ?_
                  refine AllReadyH.cons rfl (fun K hK => ?_) AllReadyH.nil
                  try simp only [Act.put, List.getElem_toArray, List.getElem_cons_zero, List.getElem_cons_succ, List.setIfInBounds_toArray, List.set_cons_zero, List.set_cons_succ]
                  rw [if_pos (by rfl)]
                  refine wp_store_blk 27 (.tmp 7) (.tmp 31) rfl g7 (tkC 0 none 0 0 none 0 0) (tkC x.a U7 um7 uc7 A7 m7 c7) 27 rfl rfl k7 rfl (tk_inf _ _ _ _ _ _ _) (tk_one _ _ _ _ _ _ _) ?_
                  intro X1 h7 n7
                  have J1 := J.but n7 hg7 hh7
                  have k81 := n7.blk7 k8 (by omega)
                  have o71 := o7.kind n7 k7 (by decide) (by decide)
                  have o81 := o8.kind n7 k7 (by decide) (by decide)
                  refine hK.out _ _ J1 (fun _ => ?_)
                  clear hK K
                  try simp only [Act.put, List.getElem_toArray, List.getElem_cons_zero, List.getElem_cons_succ, List.setIfInBounds_toArray, List.set_cons_zero, List.set_cons_succ]
                  refine wpAnyH_ready (rs := [9]) (by kernel_rfl) (by simp) ?_
                  refine AllReadyH.cons rfl (fun K hK => ?_) AllReadyH.nil
                  try simp only [Act.put, List.getElem_toArray, List.getElem_cons_zero, List.getElem_cons_succ, List.setIfInBounds_toArray, List.set_cons_zero, List.set_cons_succ]
                  rw [if_pos (by rfl)]
                  refine wp_store_blk 27 (.tmp 8) (.tmp 35) rfl g8 (tkC 0 none 0 0 none 0 0) (tkC y.a U8 um8 uc8 A8 m8 c8) 27 rfl rfl k81 rfl (tk_inf _ _ _ _ _ _ _) (tk_one _ _ _ _ _ _ _) ?_
                  intro X2 h8 n8
                  have J2 := J1.but n8 hg8 hh8
                  have h72 := n8.blk7 h7 (by omega)
                  have o72 := o71.kind n8 k81 (by decide) (by decide)
                  have o82 := o81.kind n8 k81 (by decide) (by decide)
                  refine hK.out _ _ J2 (fun _ => ?_)
                  clear hK K
                  try simp only [Act.put, List.getElem_toArray, List.getElem_cons_zero, List.getElem_cons_succ, List.setIfInBounds_toArray, List.set_cons_zero, List.set_cons_succ]
                  refine wpAnyH_done (by kernel_rfl) ?_ _
                  refine ⟨rfl, ?_⟩
                  go_wp2_with fail
                  go_meet
                  case rel => exact ⟨g7, g8, U7, um7, uc7, A7, m7, c7, L7, U8, um8, uc8, A8, m8, c8, L8, rfl, rfl, Lib.hid ⟨J2.1, J2.2, h72, h8⟩, Lib.hid o72, Lib.hid o82, HN7, HN8⟩
            · skip
              try simp only [Act.put, List.getElem_toArray, List.getElem_cons_zero, List.getElem_cons_succ, List.setIfInBounds_toArray, List.set_cons_zero, List.set_cons_succ]
              go_simp
              have k7 := Blk.new V1 (tkC 0 none 0 0 none 0 0) 27
              have bb : Below V1.heap.size V1 (V1.alloc (.cells (tkC 0 none 0 0 none 0 0) 27)) := (Below.refl _ _).alloc (Nat.le_refl _) _
              have hw9 := J.1.size
              have hg9 := J.2.lt
              show K _ (V1.alloc (.cells (tkC 0 none 0 0 none 0 0) 27))
              generalize V1.alloc (.cells (tkC 0 none 0 0 none 0 0) 27) = V7 at k7 bb ⊢
              have J := J.step bb
              have o7 := o7.below bb (Nat.le_refl _)
              clear bb
              obtain ⟨g7, eg7⟩ : ∃ g, g = V1.heap.size := ⟨_, rfl⟩
              rw [← eg7] at k7 ⊢
              have hg7 : w.heap.size ≤ g7 := by omega
              have hh7 : g6 < g7 := by omega
              clear eg7 hw9 hg9
              refine hK.out _ _ J (fun _ => ?_)
              clear hK K
              try simp only [Act.put, List.getElem_toArray, List.getElem_cons_zero, List.getElem_cons_succ, List.setIfInBounds_toArray, List.set_cons_zero, List.set_cons_succ]
              refine wpAnyH_ready (rs := [5, 7]) (by kernel_rfl) (by simp) ?_
              refine AllReadyH.cons rfl (fun K hK => ?_) (AllReadyH.cons rfl (fun K hK => ?_) AllReadyH.nil)
              · skip
                try simp only [Act.put, List.getElem_toArray, List.getElem_cons_zero, List.getElem_cons_succ, List.setIfInBounds_toArray, List.set_cons_zero, List.set_cons_succ]
                go_simp
                refine (short_tk y V7 ((HY.out.below J.1 (Nat.le_refl _)).more J.1.size)).mono ?_
                rintro e V8 ⟨U8, um8, uc8, A8, m8, c8, L8, rfl, o8, hn8, bb⟩
                go_wp2_with fail
                have o8 := o8.down (B' := w.heap.size) J.1.size
                have HN8 := Lib.hid hn8
                clear hn8
                have J := J.step bb
                have k7 := k7.below bb k7.lt
                have o7 := o7.below bb (Nat.le_refl _)
                clear bb
                refine hK.out _ _ J (fun _ => ?_)
                clear hK K
                try simp only [Act.put, List.getElem_toArray, List.getElem_cons_zero, List.getElem_cons_succ, List.setIfInBounds_toArray, List.set_cons_zero, List.set_cons_succ]
                refine wpAnyH_ready (rs := [7]) (by kernel_rfl) (by simp) ?_
                refine AllReadyH.cons rfl (fun K hK => ?_) AllReadyH.nil
                · skip
                  try simp only [Act.put, List.getElem_toArray, List.getElem_cons_zero, List.getElem_cons_succ, List.setIfInBounds_toArray, List.set_cons_zero, List.set_cons_succ]
                  go_simp
                  have k8 := Blk.new V8 (tkC 0 none 0 0 none 0 0) 27
                  have bb : Below V8.heap.size V8 (V8.alloc (.cells (tkC 0 none 0 0 none 0 0) 27)) := (Below.refl _ _).alloc (Nat.le_refl _) _
                  have hw9 := J.1.size
                  have hg9 := J.2.lt
                  have hx9 := k7.lt
                  show K _ (V8.alloc (.cells (tkC 0 none 0 0 none 0 0) 27))
                  generalize V8.alloc (.cells (tkC 0 none 0 0 none 0 0) 27) = V9 at k8 bb ⊢
                  have J := J.step bb
                  have k7 := k7.below bb k7.lt
                  have o7 := o7.below bb (Nat.le_refl _)
                  have o8 := o8.below bb (Nat.le_refl _)
                  clear bb
                  obtain ⟨g8, eg8⟩ : ∃ g, g = V8.heap.size := ⟨_, rfl⟩
                  rw [← eg8] at k8 ⊢
                  have hg8 : w.heap.size ≤ g8 := by omega
                  have hh8 : g6 < g8 := by omega
                  have hgg : g7 ≠ g8 := by omega
                  clear eg8 hw9 hg9
                  clear hx9
                  refine hK.out _ _ J (fun _ => ?_)
                  clear hK K
                  try simp only [Act.put, List.getElem_toArray, List.getElem_cons_zero, List.getElem_cons_succ, List.setIfInBounds_toArray, List.set_cons_zero, List.set_cons_succ]
                  refine wpAnyH_ready (rs := [8]) (by kernel_rfl) (by simp) ?_
                  refine AllReadyH.cons rfl (fun K hK => ?_) AllReadyH.nil
                  try simp only [Act.put, List.getElem_toArray, List.getElem_cons_zero, List.getElem_cons_succ, List.setIfInBounds_toArray, List.set_cons_zero, List.set_cons_succ]
                  rw [if_pos (by rfl)]
                  refine wp_store_blk 27 (.tmp 7) (.tmp 31) rfl g7 (tkC 0 none 0 0 none 0 0) (tkC x.a U7 um7 uc7 A7 m7 c7) 27 rfl rfl k7 rfl (tk_inf _ _ _ _ _ _ _) (tk_one _ _ _ _ _ _ _) ?_
                  intro X1 h7 n7
                  have J1 := J.but n7 hg7 hh7
                  have k81 := n7.blk7 k8 (by omega)
                  have o71 := o7.kind n7 k7 (by decide) (by decide)
                  have o81 := o8.kind n7 k7 (by decide) (by decide)
                  refine hK.out _ _ J1 (fun _ => ?_)
                  clear hK K
                  try simp only [Act.put, List.getElem_toArray, List.getElem_cons_zero, List.getElem_cons_succ, List.setIfInBounds_toArray, List.set_cons_zero, List.set_cons_succ]
                  refine wpAnyH_ready (rs := [9]) (by kernel_rfl) (by simp) ?_
                  refine AllReadyH.cons rfl (fun K hK => ?_) AllReadyH.nil
                  try simp only [Act.put, List.getElem_toArray, List.getElem_cons_zero, List.getElem_cons_succ, List.setIfInBounds_toArray, List.set_cons_zero, List.set_cons_succ]
                  rw [if_pos (by rfl)]
                  refine wp_store_blk 27 (.tmp 8) (.tmp 35) rfl g8 (tkC 0 none 0 0 none 0 0) (tkC y.a U8 um8 uc8 A8 m8 c8) 27 rfl rfl k81 rfl (tk_inf _ _ _ _ _ _ _) (tk_one _ _ _ _ _ _ _) ?_
                  intro X2 h8 n8
                  have J2 := J1.but n8 hg8 hh8
                  have h72 := n8.blk7 h7 (by omega)
                  have o72 := o71.kind n8 k81 (by decide) (by decide)
                  have o82 := o81.kind n8 k81 (by decide) (by decide)
                  refine hK.out _ _ J2 (fun _ => ?_)
                  clear hK K
                  try simp only [Act.put, List.getElem_toArray, List.getElem_cons_zero, List.getElem_cons_succ, List.setIfInBounds_toArray, List.set_cons_zero, List.set_cons_succ]
                  refine wpAnyH_done (by kernel_rfl) ?_ _
                  refine ⟨rfl, ?_⟩
                  go_wp2_with fail
                  go_meet
                  case rel => exact ⟨g7, g8, U7, um7, uc7, A7, m7, c7, L7, U8, um8, uc8, A8, m8, c8, L8, rfl, rfl, Lib.hid ⟨J2.1, J2.2, h72, h8⟩, Lib.hid o72, Lib.hid o82, HN7, HN8⟩
              · skip
                try simp only [Act.put, List.getElem_toArray, List.getElem_cons_zero, List.getElem_cons_succ, List.setIfInBounds_toArray, List.set_cons_zero, List.set_cons_succ]
                go_simp
                have k8 := Blk.new V7 (tkC 0 none 0 0 none 0 0) 27
                have bb : Below V7.heap.size V7 (V7.alloc (.cells (tkC 0 none 0 0 none 0 0) 27)) := (Below.refl _ _).alloc (Nat.le_refl _) _
                have hw9 := J.1.size
                have hg9 := J.2.lt
                have hx9 := k7.lt
                show K _ (V7.alloc (.cells (tkC 0 none 0 0 none 0 0) 27))
                generalize V7.alloc (.cells (tkC 0 none 0 0 none 0 0) 27) = V10 at k8 bb ⊢
                have J := J.step bb
                have k7 := k7.below bb k7.lt
                have o7 := o7.below bb (Nat.le_refl _)
                clear bb
                obtain ⟨g8, eg8⟩ : ∃ g, g = V7.heap.size := ⟨_, rfl⟩
                rw [← eg8] at k8 ⊢
                have hg8 : w.heap.size ≤ g8 := by omega
                have hh8 : g6 < g8 := by omega
                have hgg : g7 ≠ g8 := by omega
                clear eg8 hw9 hg9
                clear hx9
                refine hK.out _ _ J (fun _ => ?_)
                clear hK K
                try simp only [Act.put, List.getElem_toArray, List.getElem_cons_zero, List.getElem_cons_succ, List.setIfInBounds_toArray, List.set_cons_zero, List.set_cons_succ]
                refine wpAnyH_ready (rs := [5]) (by kernel_rfl) (by simp) ?_
                refine AllReadyH.cons rfl (fun K hK => ?_) AllReadyH.nil
                · skip
                  try simp only [Act.put, List.getElem_toArray, List.getElem_cons_zero, List.getElem_cons_succ, List.setIfInBounds_toArray, List.set_cons_zero, List.set_cons_succ]
                  go_simp
                  refine (short_tk y V10 ((HY.out.below J.1 (Nat.le_refl _)).more J.1.size)).mono ?_
                  rintro e V11 ⟨U8, um8, uc8, A8, m8, c8, L8, rfl, o8, hn8, bb⟩
                  go_wp2_with fail
                  have o8 := o8.down (B' := w.heap.size) J.1.size
                  have HN8 := Lib.hid hn8
                  clear hn8
                  have J := J.step bb
                  have k7 := k7.below bb k7.lt
                  have k8 := k8.below bb k8.lt
                  have o7 := o7.below bb (Nat.le_refl _)
                  clear bb
                  refine hK.out _ _ J (fun _ => ?_)
                  clear hK K
                  try simp only [Act.put, List.getElem_toArray, List.getElem_cons_zero, List.getElem_cons_succ, List.setIfInBounds_toArray, List.set_cons_zero, List.set_cons_succ]
                  refine wpAnyH_ready (rs := [8]) (by kernel_rfl) (by simp) ?_
                  refine AllReadyH.cons rfl (fun K hK => ?_) AllReadyH.nil
                  try simp only [Act.put, List.getElem_toArray, List.getElem_cons_zero, List.getElem_cons_succ, List.setIfInBounds_toArray, List.set_cons_zero, List.set_cons_succ]
                  rw [if_pos (by rfl)]
                  refine wp_store_blk 27 (.tmp 7) (.tmp 31) rfl g7 (tkC 0 none 0 0 none 0 0) (tkC x.a U7 um7 uc7 A7 m7 c7) 27 rfl rfl k7 rfl (tk_inf _ _ _ _ _ _ _) (tk_one _ _ _ _ _ _ _) ?_
                  intro X1 h7 n7
                  have J1 := J.but n7 hg7 hh7
                  have k81 := n7.blk7 k8 (by omega)
                  have o71 := o7.kind n7 k7 (by decide) (by decide)
                  have o81 := o8.kind n7 k7 (by decide) (by decide)
                  refine hK.out _ _ J1 (fun _ => ?_)
                  clear hK K
                  try simp only [Act.put, List.getElem_toArray, List.getElem_cons_zero, List.getElem_cons_succ, List.setIfInBounds_toArray, List.set_cons_zero, List.set_cons_succ]
                  refine wpAnyH_ready (rs := [9]) (by kernel_rfl) (by simp) ?_
                  refine AllReadyH.cons rfl (fun K hK => ?_) AllReadyH.nil
                  try simp only [Act.put, List.getElem_toArray, List.getElem_cons_zero, List.getElem_cons_succ, List.setIfInBounds_toArray, List.set_cons_zero, List.set_cons_succ]
                  rw [if_pos (by rfl)]
                  refine wp_store_blk 27 (.tmp 8) (.tmp 35) rfl g8 (tkC 0 none 0 0 none 0 0) (tkC y.a U8 um8 uc8 A8 m8 c8) 27 rfl rfl k81 rfl (tk_inf _ _ _ _ _ _ _) (tk_one _ _ _ _ _ _ _) ?_
                  intro X2 h8 n8
                  have J2 := J1.but n8 hg8 hh8
                  have h72 := n8.blk7 h7 (by omega)
                  have o72 := o71.kind n8 k81 (by decide) (by decide)
                  have o82 := o81.kind n8 k81 (by decide) (by decide)
                  refine hK.out _ _ J2 (fun _ => ?_)
                  clear hK K
                  try simp only [Act.put, List.getElem_toArray, List.getElem_cons_zero, List.getElem_cons_succ, List.setIfInBounds_toArray, List.set_cons_zero, List.set_cons_succ]
                  refine wpAnyH_done (by kernel_rfl) ?_ _
                  refine ⟨rfl, ?_⟩
                  go_wp2_with fail
                  go_meet
                  case rel => exact ⟨g7, g8, U7, um7, uc7, A7, m7, c7, L7, U8, um8, uc8, A8, m8, c8, L8, rfl, rfl, Lib.hid ⟨J2.1, J2.2, h72, h8⟩, Lib.hid o72, Lib.hid o82, HN7, HN8⟩
            · skip
              try simp only [Act.put, List.getElem_toArray, List.getElem_cons_zero, List.getElem_cons_succ, List.setIfInBounds_toArray, List.set_cons_zero, List.set_cons_succ]
              go_simp
              have k8 := Blk.new V1 (tkC 0 none 0 0 none 0 0) 27
              have bb : Below V1.heap.size V1 (V1.alloc (.cells (tkC 0 none 0 0 none 0 0) 27)) := (Below.refl _ _).alloc (Nat.le_refl _) _
              have hw9 := J.1.size
              have hg9 := J.2.lt
              show K _ (V1.alloc (.cells (tkC 0 none 0 0 none 0 0) 27))
              generalize V1.alloc (.cells (tkC 0 none 0 0 none 0 0) 27) = V12 at k8 bb ⊢
              have J := J.step bb
              have o7 := o7.below bb (Nat.le_refl _)
              clear bb
              obtain ⟨g8, eg8⟩ : ∃ g, g = V1.heap.size := ⟨_, rfl⟩
              rw [← eg8] at k8 ⊢
              have hg8 : w.heap.size ≤ g8 := by omega
              have hh8 : g6 < g8 := by omega
              clear eg8 hw9 hg9
              refine hK.out _ _ J (fun _ => ?_)
              clear hK K
              try simp only [Act.put, List.getElem_toArray, List.getElem_cons_zero, List.getElem_cons_succ, List.setIfInBounds_toArray, List.set_cons_zero, List.set_cons_succ]
              refine wpAnyH_ready (rs := [5, 6]) (by kernel_rfl) (by simp) ?_
              refine AllReadyH.cons rfl (fun K hK => ?_) (AllReadyH.cons rfl (fun K hK => ?_) AllReadyH.nil)
              · skip
                try simp only [Act.put, List.getElem_toArray, List.getElem_cons_zero, List.getElem_cons_succ, List.setIfInBounds_toArray, List.set_cons_zero, List.set_cons_succ]
                go_simp
                refine (short_tk y V12 ((HY.out.below J.1 (Nat.le_refl _)).more J.1.size)).mono ?_
                rintro e V13 ⟨U8, um8, uc8, A8, m8, c8, L8, rfl, o8, hn8, bb⟩
                go_wp2_with fail
                have o8 := o8.down (B' := w.heap.size) J.1.size
                have HN8 := Lib.hid hn8
                clear hn8
                have J := J.step bb
                have k8 := k8.below bb k8.lt
                have o7 := o7.below bb (Nat.le_refl _)
                clear bb
                refine hK.out _ _ J (fun _ => ?_)
                clear hK K
                try simp only [Act.put, List.getElem_toArray, List.getElem_cons_zero, List.getElem_cons_succ, List.setIfInBounds_toArray, List.set_cons_zero, List.set_cons_succ]
                refine wpAnyH_ready (rs := [6]) (by kernel_rfl) (by simp) ?_
                refine AllReadyH.cons rfl (fun K hK => ?_) AllReadyH.nil
                · skip
                  try simp only [Act.put, List.getElem_toArray, List.getElem_cons_zero, List.getElem_cons_succ, List.setIfInBounds_toArray, List.set_cons_zero, List.set_cons_succ]
                  go_simp
                  have k7 := Blk.new V13 (tkC 0 none 0 0 none 0 0) 27
                  have bb : Below V13.heap.size V13 (V13.alloc (.cells (tkC 0 none 0 0 none 0 0) 27)) := (Below.refl _ _).alloc (Nat.le_refl _) _
                  have hw9 := J.1.size
                  have hg9 := J.2.lt
                  have hx9 := k8.lt
                  show K _ (V13.alloc (.cells (tkC 0 none 0 0 none 0 0) 27))
                  generalize V13.alloc (.cells (tkC 0 none 0 0 none 0 0) 27) = V14 at k7 bb ⊢
                  have J := J.step bb
                  have k8 := k8.below bb k8.lt
                  have o7 := o7.below bb (Nat.le_refl _)
                  have o8 := o8.below bb (Nat.le_refl _)
                  clear bb
                  obtain ⟨g7, eg7⟩ : ∃ g, g = V13.heap.size := ⟨_, rfl⟩
                  rw [← eg7] at k7 ⊢
                  have hg7 : w.heap.size ≤ g7 := by omega
                  have hh7 : g6 < g7 := by omega
                  have hgg : g7 ≠ g8 := by omega
                  clear eg7 hw9 hg9
                  clear hx9
                  refine hK.out _ _ J (fun _ => ?_)
                  clear hK K
                  try simp only [Act.put, List.getElem_toArray, List.getElem_cons_zero, List.getElem_cons_succ, List.setIfInBounds_toArray, List.set_cons_zero, List.set_cons_succ]
                  refine wpAnyH_ready (rs := [8]) (by kernel_rfl) (by simp) ?_
                  refine AllReadyH.cons rfl (fun K hK => ?_) AllReadyH.nil
                  try simp only [Act.put, List.getElem_toArray, List.getElem_cons_zero, List.getElem_cons_succ, List.setIfInBounds_toArray, List.set_cons_zero, List.set_cons_succ]
                  rw [if_pos (by rfl)]
                  refine wp_store_blk 27 (.tmp 7) (.tmp 31) rfl g7 (tkC 0 none 0 0 none 0 0) (tkC x.a U7 um7 uc7 A7 m7 c7) 27 rfl rfl k7 rfl (tk_inf _ _ _ _ _ _ _) (tk_one _ _ _ _ _ _ _) ?_
                  intro X1 h7 n7
                  have J1 := J.but n7 hg7 hh7
                  have k81 := n7.blk7 k8 (by omega)
                  have o71 := o7.kind n7 k7 (by decide) (by decide)
                  have o81 := o8.kind n7 k7 (by decide) (by decide)
                  refine hK.out _ _ J1 (fun _ => ?_)
                  clear hK K
                  try simp only [Act.put, List.getElem_toArray, List.getElem_cons_zero, List.getElem_cons_succ, List.setIfInBounds_toArray, List.set_cons_zero, List.set_cons_succ]
                  refine wpAnyH_ready (rs := [9]) (by kernel_rfl) (by simp) ?_
                  refine AllReadyH.cons rfl (fun K hK => ?_) AllReadyH.nil
                  try simp only [Act.put, List.getElem_toArray, List.getElem_cons_zero, List.getElem_cons_succ, List.setIfInBounds_toArray, List.set_cons_zero, List.set_cons_succ]
                  rw [if_pos (by rfl)]
                  refine wp_store_blk 27 (.tmp 8) (.tmp 35) rfl g8 (tkC 0 none 0 0 none 0 0) (tkC y.a U8 um8 uc8 A8 m8 c8) 27 rfl rfl k81 rfl (tk_inf _ _ _ _ _ _ _) (tk_one _ _ _ _ _ _ _) ?_
                  intro X2 h8 n8
                  have J2 := J1.but n8 hg8 hh8
                  have h72 := n8.blk7 h7 (by omega)
                  have o72 := o71.kind n8 k81 (by decide) (by decide)
                  have o82 := o81.kind n8 k81 (by decide) (by decide)
                  refine hK.out _ _ J2 (fun _ => ?_)
                  clear hK K
                  try simp only [Act.put, List.getElem_toArray, List.getElem_cons_zero, List.getElem_cons_succ, List.setIfInBounds_toArray, List.set_cons_zero, List.set_cons_succ]
                  refine wpAnyH_done (by kernel_rfl) ?_ _
                  refine ⟨rfl, ?_⟩
                  go_wp2_with fail
                  go_meet
                  case rel => exact ⟨g7, g8, U7, um7, uc7, A7, m7, c7, L7, U8, um8, uc8, A8, m8, c8, L8, rfl, rfl, Lib.hid ⟨J2.1, J2.2, h72, h8⟩, Lib.hid o72, Lib.hid o82, HN7, HN8⟩
              · skip
                try simp only [Act.put, List.getElem_toArray, List.getElem_cons_zero, List.getElem_cons_succ, List.setIfInBounds_toArray, List.set_cons_zero, List.set_cons_succ]
                go_simp
                have k7 := Blk.new V12 (tkC 0 none 0 0 none 0 0) 27
                have bb : Below V12.heap.size V12 (V12.alloc (.cells (tkC 0 none 0 0 none 0 0) 27)) := (Below.refl _ _).alloc (Nat.le_refl _) _
                have hw9 := J.1.size
                have hg9 := J.2.lt
                have hx9 := k8.lt
                show K _ (V12.alloc (.cells (tkC 0 none 0 0 none 0 0) 27))
                generalize V12.alloc (.cells (tkC 0 none 0 0 none 0 0) 27) = V15 at k7 bb ⊢
                have J := J.step bb
                have k8 := k8.below bb k8.lt
                have o7 := o7.below bb (Nat.le_refl _)
                clear bb
                obtain ⟨g7, eg7⟩ : ∃ g, g = V12.heap.size := ⟨_, rfl⟩
                rw [← eg7] at k7 ⊢
                have hg7 : w.heap.size ≤ g7 := by omega
                have hh7 : g6 < g7 := by omega
                have hgg : g7 ≠ g8 := by omega
                clear eg7 hw9 hg9
                clear hx9
                refine hK.out _ _ J (fun _ => ?_)
                clear hK K
                try simp only [Act.put, List.getElem_toArray, List.getElem_cons_zero, List.getElem_cons_succ, List.setIfInBounds_toArray, List.set_cons_zero, List.set_cons_succ]
                refine wpAnyH_ready (rs := [5]) (by kernel_rfl) (by simp) ?_
                refine AllReadyH.cons rfl (fun K hK => ?_) AllReadyH.nil
                · skip
                  try simp only [Act.put, List.getElem_toArray, List.getElem_cons_zero, List.getElem_cons_succ, List.setIfInBounds_toArray, List.set_cons_zero, List.set_cons_succ]
                  go_simp
                  refine (short_tk y V15 ((HY.out.below J.1 (Nat.le_refl _)).more J.1.size)).mono ?_
                  rintro e V16 ⟨U8, um8, uc8, A8, m8, c8, L8, rfl, o8, hn8, bb⟩
                  go_wp2_with fail
                  have o8 := o8.down (B' := w.heap.size) J.1.size
                  have HN8 := Lib.hid hn8
                  clear hn8
                  have J := J.step bb
                  have k7 := k7.below bb k7.lt
                  have k8 := k8.below bb k8.lt
                  have o7 := o7.below bb (Nat.le_refl _)
                  clear bb
                  refine hK.out _ _ J (fun _ => ?_)
                  clear hK K
                  try simp only [Act.put, List.getElem_toArray, List.getElem_cons_zero, List.getElem_cons_succ, List.setIfInBounds_toArray, List.set_cons_zero, List.set_cons_succ]
                  refine wpAnyH_ready (rs := [8]) (by kernel_rfl) (by simp) ?_
                  refine AllReadyH.cons rfl (fun K hK => ?_) AllReadyH.nil
                  try simp only [Act.put, List.getElem_toArray, List.getElem_cons_zero, List.getElem_cons_succ, List.setIfInBounds_toArray, List.set_cons_zero, List.set_cons_succ]
                  rw [if_pos (by rfl)]
                  refine wp_store_blk 27 (.tmp 7) (.tmp 31) rfl g7 (tkC 0 none 0 0 none 0 0) (tkC x.a U7 um7 uc7 A7 m7 c7) 27 rfl rfl k7 rfl (tk_inf _ _ _ _ _ _ _) (tk_one _ _ _ _ _ _ _) ?_
                  intro X1 h7 n7
                  have J1 := J.but n7 hg7 hh7
                  have k81 := n7.blk7 k8 (by omega)
                  have o71 := o7.kind n7 k7 (by decide) (by decide)
                  have o81 := o8.kind n7 k7 (by decide) (by decide)
                  refine hK.out _ _ J1 (fun _ => ?_)
                  clear hK K
                  try simp only [Act.put, List.getElem_toArray, List.getElem_cons_zero, List.getElem_cons_succ, List.setIfInBounds_toArray, List.set_cons_zero, List.set_cons_succ]
                  refine wpAnyH_ready (rs := [9]) (by kernel_rfl) (by simp) ?_
                  refine AllReadyH.cons rfl (fun K hK => ?_) AllReadyH.nil
                  try simp only [Act.put, List.getElem_toArray, List.getElem_cons_zero, List.getElem_cons_succ, List.setIfInBounds_toArray, List.set_cons_zero, List.set_cons_succ]
                  rw [if_pos (by rfl)]
                  refine wp_store_blk 27 (.tmp 8) (.tmp 35) rfl g8 (tkC 0 none 0 0 none 0 0) (tkC y.a U8 um8 uc8 A8 m8 c8) 27 rfl rfl k81 rfl (tk_inf _ _ _ _ _ _ _) (tk_one _ _ _ _ _ _ _) ?_
                  intro X2 h8 n8
                  have J2 := J1.but n8 hg8 hh8
                  have h72 := n8.blk7 h7 (by omega)
                  have o72 := o71.kind n8 k81 (by decide) (by decide)
                  have o82 := o81.kind n8 k81 (by decide) (by decide)
                  refine hK.out _ _ J2 (fun _ => ?_)
                  clear hK K
                  try simp only [Act.put, List.getElem_toArray, List.getElem_cons_zero, List.getElem_cons_succ, List.setIfInBounds_toArray, List.set_cons_zero, List.set_cons_succ]
                  refine wpAnyH_done (by kernel_rfl) ?_ _
                  refine ⟨rfl, ?_⟩
                  go_wp2_with fail
                  go_meet
                  case rel => exact ⟨g7, g8, U7, um7, uc7, A7, m7, c7, L7, U8, um8, uc8, A8, m8, c8, L8, rfl, rfl, Lib.hid ⟨J2.1, J2.2, h72, h8⟩, Lib.hid o72, Lib.hid o82, HN7, HN8⟩
          · skip
            try simp only [Act.put, List.getElem_toArray, List.getElem_cons_zero, List.getElem_cons_succ, List.setIfInBounds_toArray, List.set_cons_zero, List.set_cons_succ]
            go_simp
            have k7 := Blk.new W0 (tkC 0 none 0 0 none 0 0) 27
            have bb : Below W0.heap.size W0 (W0.alloc (.cells (tkC 0 none 0 0 none 0 0) 27)) := (Below.refl _ _).alloc (Nat.le_refl _) _
            have hw9 := J.1.size
            have hg9 := J.2.lt
            show K _ (W0.alloc (.cells (tkC 0 none 0 0 none 0 0) 27))
            generalize W0.alloc (.cells (tkC 0 none 0 0 none 0 0) 27) = V17 at k7 bb ⊢
            have J := J.step bb
            clear bb
            obtain ⟨g7, eg7⟩ : ∃ g, g = W0.heap.size := ⟨_, rfl⟩
            rw [← eg7] at k7 ⊢
            have hg7 : w.heap.size ≤ g7 := by omega
            have hh7 : g6 < g7 := by omega
            clear eg7 hw9 hg9
            refine hK.out _ _ J (fun _ => ?_)
            clear hK K
            try simp only [Act.put, List.getElem_toArray, List.getElem_cons_zero, List.getElem_cons_succ, List.setIfInBounds_toArray, List.set_cons_zero, List.set_cons_succ]
            refine wpAnyH_ready (rs := [1, 7]) (by kernel_rfl) (by simp) ?_
            refine AllReadyH.cons rfl (fun K hK => ?_) (AllReadyH.cons rfl (fun K hK => ?_) AllReadyH.nil)
            · skip
              try simp only [Act.put, List.getElem_toArray, List.getElem_cons_zero, List.getElem_cons_succ, List.setIfInBounds_toArray, List.set_cons_zero, List.set_cons_succ]
              go_simp
              refine (short_tk x V17 ((HX.out.below J.1 (Nat.le_refl _)).more J.1.size)).mono ?_
              rintro e V18 ⟨U7, um7, uc7, A7, m7, c7, L7, rfl, o7, hn7, bb⟩
              go_wp2_with fail
              have o7 := o7.down (B' := w.heap.size) J.1.size
              have HN7 := Lib.hid hn7
              clear hn7
              have J := J.step bb
              have k7 := k7.below bb k7.lt
              clear bb
              refine hK.out _ _ J (fun _ => ?_)
              clear hK K
              try simp only [Act.put, List.getElem_toArray, List.getElem_cons_zero, List.getElem_cons_succ, List.setIfInBounds_toArray, List.set_cons_zero, List.set_cons_succ]
              refine wpAnyH_ready (rs := [5, 7]) (by kernel_rfl) (by simp) ?_
              refine AllReadyH.cons rfl (fun K hK => ?_) (AllReadyH.cons rfl (fun K hK => ?_) AllReadyH.nil)
              · skip
                try simp only [Act.put, List.getElem_toArray, List.getElem_cons_zero, List.getElem_cons_succ, List.setIfInBounds_toArray, List.set_cons_zero, List.set_cons_succ]
                go_simp
                refine (short_tk y V18 ((HY.out.below J.1 (Nat.le_refl _)).more J.1.size)).mono ?_
                rintro e V19 ⟨U8, um8, uc8, A8, m8, c8, L8, rfl, o8, hn8, bb⟩
                go_wp2_with fail
                have o8 := o8.down (B' := w.heap.size) J.1.size
                have HN8 := Lib.hid hn8
                clear hn8
                have J := J.step bb
                have k7 := k7.below bb k7.lt
                have o7 := o7.below bb (Nat.le_refl _)
                clear bb
                refine hK.out _ _ J (fun _ => ?_)
                clear hK K
                try simp only [Act.put, List.getElem_toArray, List.getElem_cons_zero, List.getElem_cons_succ, List.setIfInBounds_toArray, List.set_cons_zero, List.set_cons_succ]
                refine wpAnyH_ready (rs := [7]) (by kernel_rfl) (by simp) ?_
                refine AllReadyH.cons rfl (fun K hK => ?_) AllReadyH.nil
                · skip
                  try simp only [Act.put, List.getElem_toArray, List.getElem_cons_zero, List.getElem_cons_succ, List.setIfInBounds_toArray, List.set_cons_zero, List.set_cons_succ]
                  go_simp
                  have k8 := Blk.new V19 (tkC 0 none 0 0 none 0 0) 27
                  have bb : Below V19.heap.size V19 (V19.alloc (.cells (tkC 0 none 0 0 none 0 0) 27)) := (Below.refl _ _).alloc (Nat.le_refl _) _
                  have hw9 := J.1.size
                  have hg9 := J.2.lt
                  have hx9 := k7.lt
                  show K _ (V19.alloc (.cells (tkC 0 none 0 0 none 0 0) 27))
                  generalize V19.alloc (.cells (tkC 0 none 0 0 none 0 0) 27) = V20 at k8 bb ⊢
                  have J := J.step bb
                  have k7 := k7.below bb k7.lt
                  have o7 := o7.below bb (Nat.le_refl _)
                  have o8 := o8.below bb (Nat.le_refl _)
                  clear bb
                  obtain ⟨g8, eg8⟩ : ∃ g, g = V19.heap.size := ⟨_, rfl⟩
                  rw [← eg8] at k8 ⊢
                  have hg8 : w.heap.size ≤ g8 := by omega
                  have hh8 : g6 < g8 := by omega
                  have hgg : g7 ≠ g8 := by omega
                  clear eg8 hw9 hg9
                  clear hx9
                  refine hK.out _ _ J (fun _ => ?_)
                  clear hK K
                  try simp only [Act.put, List.getElem_toArray, List.getElem_cons_zero, List.getElem_cons_succ, List.setIfInBounds_toArray, List.set_cons_zero, List.set_cons_succ]
                  refine wpAnyH_ready (rs := [8]) (by kernel_rfl) (by simp) ?_
                  refine AllReadyH.cons rfl (fun K hK => ?_) AllReadyH.nil
                  try simp only [Act.put, List.getElem_toArray, List.getElem_cons_zero, List.getElem_cons_succ, List.setIfInBounds_toArray, List.set_cons_zero, List.set_cons_succ]
                  rw [if_pos (by rfl)]
                  refine wp_store_blk 27 (.tmp 7) (.tmp 31) rfl g7 (tkC 0 none 0 0 none 0 0) (tkC x.a U7 um7 uc7 A7 m7 c7) 27 rfl rfl k7 rfl (tk_inf _ _ _ _ _ _ _) (tk_one _ _ _ _ _ _ _) ?_
                  intro X1 h7 n7
                  have J1 := J.but n7 hg7 hh7
                  have k81 := n7.blk7 k8 (by omega)
                  have o71 := o7.kind n7 k7 (by decide) (by decide)
                  have o81 := o8.kind n7 k7 (by decide) (by decide)
                  refine hK.out _ _ J1 (fun _ => ?_)
                  clear hK K
                  try simp only [Act.put, List.getElem_toArray, List.getElem_cons_zero, List.getElem_cons_succ, List.setIfInBounds_toArray, List.set_cons_zero, List.set_cons_succ]
                  refine wpAnyH_ready (rs := [9]) (by kernel_rfl) (by simp) ?_
                  refine AllReadyH.cons rfl (fun K hK => ?_) AllReadyH.nil
                  try simp only [Act.put, List.getElem_toArray, List.getElem_cons_zero, List.getElem_cons_succ, List.setIfInBounds_toArray, List.set_cons_zero, List.set_cons_succ]
                  rw [if_pos (by rfl)]
                  refine wp_store_blk 27 (.tmp 8) (.tmp 35) rfl g8 (tkC 0 none 0 0 none 0 0) (tkC y.a U8 um8 uc8 A8 m8 c8) 27 rfl rfl k81 rfl (tk_inf _ _ _ _ _ _ _) (tk_one _ _ _ _ _ _ _) ?_
                  intro X2 h8 n8
                  have J2 := J1.but n8 hg8 hh8
                  have h72 := n8.blk7 h7 (by omega)
                  have o72 := o71.kind n8 k81 (by decide) (by decide)
                  have o82 := o81.kind n8 k81 (by decide) (by decide)
                  refine hK.out _ _ J2 (fun _ => ?_)
                  clear hK K
                  try simp only [Act.put, List.getElem_toArray, List.getElem_cons_zero, List.getElem_cons_succ, List.setIfInBounds_toArray, List.set_cons_zero, List.set_cons_succ]
                  refine wpAnyH_done (by kernel_rfl) ?_ _
                  refine ⟨rfl, ?_⟩
                  go_wp2_with fail
                  go_meet
                  case rel => exact ⟨g7, g8, U7, um7, uc7, A7, m7, c7, L7, U8, um8, uc8, A8, m8, c8, L8, rfl, rfl, Lib.hid ⟨J2.1, J2.2, h72, h8⟩, Lib.hid o72, Lib.hid o82, HN7, HN8⟩
              · skip
                try simp only [Act.put, List.getElem_toArray, List.getElem_cons_zero, List.getElem_cons_succ, List.setIfInBounds_toArray, List.set_cons_zero, List.set_cons_succ]
                go_simp
                have k8 := Blk.new V18 (tkC 0 none 0 0 none 0 0) 27
                have bb : Below V18.heap.size V18 (V18.alloc (.cells (tkC 0 none 0 0 none 0 0) 27)) := (Below.refl _ _).alloc (Nat.le_refl _) _
                have hw9 := J.1.size
                have hg9 := J.2.lt
                have hx9 := k7.lt
                show K _ (V18.alloc (.cells (tkC 0 none 0 0 none 0 0) 27))
                generalize V18.alloc (.cells (tkC 0 none 0 0 none 0 0) 27) = V21 at k8 bb ⊢
                have J := J.step bb
                have k7 := k7.below bb k7.lt
                have o7 := o7.below bb (Nat.le_refl _)
                clear bb
                obtain ⟨g8, eg8⟩ : ∃ g, g = V18.heap.size := ⟨_, rfl⟩
                rw [← eg8] at k8 ⊢
                have hg8 : w.heap.size ≤ g8 := by omega
                have hh8 : g6 < g8 := by omega
                have hgg : g7 ≠ g8 := by omega
                clear eg8 hw9 hg9
                clear hx9
                refine hK.out _ _ J (fun _ => ?_)
                clear hK K
                try simp only [Act.put, List.getElem_toArray, List.getElem_cons_zero, List.getElem_cons_succ, List.setIfInBounds_toArray, List.set_cons_zero, List.set_cons_succ]
                refine wpAnyH_ready (rs := [5]) (by kernel_rfl) (by simp) ?_
                refine AllReadyH.cons rfl (fun K hK => ?_) AllReadyH.nil
                · skip
                  try simp only [Act.put, List.getElem_toArray, List.getElem_cons_zero, List.getElem_cons_succ, List.setIfInBounds_toArray, List.set_cons_zero, List.set_cons_succ]
                  go_simp
                  refine (short_tk y V21 ((HY.out.below J.1 (Nat.le_refl _)).more J.1.size)).mono ?_
                  rintro e V22 ⟨U8, um8, uc8, A8, m8, c8, L8, rfl, o8, hn8, bb⟩
                  go_wp2_with fail
                  have o8 := o8.down (B' := w.heap.size) J.1.size
                  have HN8 := Lib.hid hn8
                  clear hn8
                  have J := J.step bb
                  have k7 := k7.below bb k7.lt
                  have k8 := k8.below bb k8.lt
                  have o7 := o7.below bb (Nat.le_refl _)
                  clear bb
                  refine hK.out _ _ J (fun _ => ?_)
                  clear hK K
                  try simp only [Act.put, List.getElem_toArray, List.getElem_cons_zero, List.getElem_cons_succ, List.setIfInBounds_toArray, List.set_cons_zero, List.set_cons_succ]
                  refine wpAnyH_ready (rs := [8]) (by kernel_rfl) (by simp) ?_
                  refine AllReadyH.cons rfl (fun K hK => ?_) AllReadyH.nil
                  try simp only [Act.put, List.getElem_toArray, List.getElem_cons_zero, List.getElem_cons_succ, List.setIfInBounds_toArray, List.set_cons_zero, List.set_cons_succ]
                  rw [if_pos (by rfl)]
                  refine wp_store_blk 27 (.tmp 7) (.tmp 31) rfl g7 (tkC 0 none 0 0 none 0 0) (tkC x.a U7 um7 uc7 A7 m7 c7) 27 rfl rfl k7 rfl (tk_inf _ _ _ _ _ _ _) (tk_one _ _ _ _ _ _ _) ?_
                  intro X1 h7 n7
                  have J1 := J.but n7 hg7 hh7
                  have k81 := n7.blk7 k8 (by omega)
                  have o71 := o7.kind n7 k7 (by decide) (by decide)
                  have o81 := o8.kind n7 k7 (by decide) (by decide)
                  refine hK.out _ _ J1 (fun _ => ?_)
                  clear hK K
                  try simp only [Act.put, List.getElem_toArray, List.getElem_cons_zero, List.getElem_cons_succ, List.setIfInBounds_toArray, List.set_cons_zero, List.set_cons_succ]
                  refine wpAnyH_ready (rs := [9]) (by kernel_rfl) (by simp) ?_
                  refine AllReadyH.cons rfl (fun K hK => ?_) AllReadyH.nil
                  try simp only [Act.put, List.getElem_toArray, List.getElem_cons_zero, List.getElem_cons_succ, List.setIfInBounds_toArray, List.set_cons_zero, List.set_cons_succ]
                  rw [if_pos (by rfl)]
                  refine wp_store_blk 27 (.tmp 8) (.tmp 35) rfl g8 (tkC 0 none 0 0 none 0 0) (tkC y.a U8 um8 uc8 A8 m8 c8) 27 rfl rfl k81 rfl (tk_inf _ _ _ _ _ _ _) (tk_one _ _ _ _ _ _ _) ?_
                  intro X2 h8 n8
                  have J2 := J1.but n8 hg8 hh8
                  have h72 := n8.blk7 h7 (by omega)
                  have o72 := o71.kind n8 k81 (by decide) (by decide)
                  have o82 := o81.kind n8 k81 (by decide) (by decide)
                  refine hK.out _ _ J2 (fun _ => ?_)
                  clear hK K
                  try simp only [Act.put, List.getElem_toArray, List.getElem_cons_zero, List.getElem_cons_succ, List.setIfInBounds_toArray, List.set_cons_zero, List.set_cons_succ]
                  refine wpAnyH_done (by kernel_rfl) ?_ _
                  refine ⟨rfl, ?_⟩
                  go_wp2_with fail
                  go_meet
                  case rel => exact ⟨g7, g8, U7, um7, uc7, A7, m7, c7, L7, U8, um8, uc8, A8, m8, c8, L8, rfl, rfl, Lib.hid ⟨J2.1, J2.2, h72, h8⟩, Lib.hid o72, Lib.hid o82, HN7, HN8⟩
            · skip
              try simp only [Act.put, List.getElem_toArray, List.getElem_cons_zero, List.getElem_cons_succ, List.setIfInBounds_toArray, List.set_cons_zero, List.set_cons_succ]
              go_simp
              have k8 := Blk.new V17 (tkC 0 none 0 0 none 0 0) 27
              have bb : Below V17.heap.size V17 (V17.alloc (.cells (tkC 0 none 0 0 none 0 0) 27)) := (Below.refl _ _).alloc (Nat.le_refl _) _
              have hw9 := J.1.size
              have hg9 := J.2.lt
              have hx9 := k7.lt
              show K _ (V17.alloc (.cells (tkC 0 none 0 0 none 0 0) 27))
              generalize V17.alloc (.cells (tkC 0 none 0 0 none 0 0) 27) = V23 at k8 bb ⊢
              have J := J.step bb
              have k7 := k7.below bb k7.lt
              clear bb
              obtain ⟨g8, eg8⟩ : ∃ g, g = V17.heap.size := ⟨_, rfl⟩
              rw [← eg8] at k8 ⊢
              have hg8 : w.heap.size ≤ g8 := by omega
              have hh8 : g6 < g8 := by omega
              have hgg : g7 ≠ g8 := by omega
              clear eg8 hw9 hg9
              clear hx9
              refine hK.out _ _ J (fun _ => ?_)
              clear hK K
              try simp only [Act.put, List.getElem_toArray, List.getElem_cons_zero, List.getElem_cons_succ, List.setIfInBounds_toArray, List.set_cons_zero, List.set_cons_succ]
              refine wpAnyH_ready (rs := [1]) (by kernel_rfl) (by simp) ?_
              refine AllReadyH.cons rfl (fun K hK => ?_) AllReadyH.nil
              · skip
                try simp only [Act.put, List.getElem_toArray, List.getElem_cons_zero, List.getElem_cons_succ, List.setIfInBounds_toArray, List.set_cons_zero, List.set_cons_succ]
                go_simp
                refine (short_tk x V23 ((HX.out.below J.1 (Nat.le_refl _)).more J.1.size)).mono ?_
                rintro e V24 ⟨U7, um7, uc7, A7, m7, c7, L7, rfl, o7, hn7, bb⟩
                go_wp2_with fail
                have o7 := o7.down (B' := w.heap.size) J.1.size
                have HN7 := Lib.hid hn7
                clear hn7
                have J := J.step bb
                have k7 := k7.below bb k7.lt
                have k8 := k8.below bb k8.lt
                clear bb
                refine hK.out _ _ J (fun _ => ?_)
                clear hK K
                try simp only [Act.put, List.getElem_toArray, List.getElem_cons_zero, List.getElem_cons_succ, List.setIfInBounds_toArray, List.set_cons_zero, List.set_cons_succ]
                refine wpAnyH_ready (rs := [5]) (by kernel_rfl) (by simp) ?_
                refine AllReadyH.cons rfl (fun K hK => ?_) AllReadyH.nil
                · skip
                  try simp only [Act.put, List.getElem_toArray, List.getElem_cons_zero, List.getElem_cons_succ, List.setIfInBounds_toArray, List.set_cons_zero, List.set_cons_succ]
                  go_simp
                  refine (short_tk y V24 ((HY.out.below J.1 (Nat.le_refl _)).more J.1.size)).mono ?_
                  rintro e V25 ⟨U8, um8, uc8, A8, m8, c8, L8, rfl, o8, hn8, bb⟩
                  go_wp2_with fail
                  have o8 := o8.down (B' := w.heap.size) J.1.size
                  have HN8 := Lib.hid hn8
                  clear hn8
                  have J := J.step bb
                  have k7 := k7.below bb k7.lt
                  have k8 := k8.below bb k8.lt
                  have o7 := o7.below bb (Nat.le_refl _)
                  clear bb
                  refine hK.out _ _ J (fun _ => ?_)
                  clear hK K
                  try simp only [Act.put, List.getElem_toArray, List.getElem_cons_zero, List.getElem_cons_succ, List.setIfInBounds_toArray, List.set_cons_zero, List.set_cons_succ]
                  refine wpAnyH_ready (rs := [8]) (by kernel_rfl) (by simp) ?_
                  refine AllReadyH.cons rfl (fun K hK => ?_) AllReadyH.nil
                  try simp only [Act.put, List.getElem_toArray, List.getElem_cons_zero, List.getElem_cons_succ, List.setIfInBounds_toArray, List.set_cons_zero, List.set_cons_succ]
                  rw [if_pos (by rfl)]
                  refine wp_store_blk 27 (.tmp 7) (.tmp 31) rfl g7 (tkC 0 none 0 0 none 0 0) (tkC x.a U7 um7 uc7 A7 m7 c7) 27 rfl rfl k7 rfl (tk_inf _ _ _ _ _ _ _) (tk_one _ _ _ _ _ _ _) ?_
                  intro X1 h7 n7
                  have J1 := J.but n7 hg7 hh7
                  have k81 := n7.blk7 k8 (by omega)
                  have o71 := o7.kind n7 k7 (by decide) (by decide)
                  have o81 := o8.kind n7 k7 (by decide) (by decide)
                  refine hK.out _ _ J1 (fun _ => ?_)
                  clear hK K
                  try simp only [Act.put, List.getElem_toArray, List.getElem_cons_zero, List.getElem_cons_succ, List.setIfInBounds_toArray, List.set_cons_zero, List.set_cons_succ]
                  refine wpAnyH_ready (rs := [9]) (by kernel_rfl) (by simp) ?_
                  refine AllReadyH.cons rfl (fun K hK => ?_) AllReadyH.nil
                  try simp only [Act.put, List.getElem_toArray, List.getElem_cons_zero, List.getElem_cons_succ, List.setIfInBounds_toArray, List.set_cons_zero, List.set_cons_succ]
                  rw [if_pos (by rfl)]
                  refine wp_store_blk 27 (.tmp 8) (.tmp 35) rfl g8 (tkC 0 none 0 0 none 0 0) (tkC y.a U8 um8 uc8 A8 m8 c8) 27 rfl rfl k81 rfl (tk_inf _ _ _ _ _ _ _) (tk_one _ _ _ _ _ _ _) ?_
                  intro X2 h8 n8
                  have J2 := J1.but n8 hg8 hh8
                  have h72 := n8.blk7 h7 (by omega)
                  have o72 := o71.kind n8 k81 (by decide) (by decide)
                  have o82 := o81.kind n8 k81 (by decide) (by decide)
                  refine hK.out _ _ J2 (fun _ => ?_)
                  clear hK K
                  try simp only [Act.put, List.getElem_toArray, List.getElem_cons_zero, List.getElem_cons_succ, List.setIfInBounds_toArray, List.set_cons_zero, List.set_cons_succ]
                  refine wpAnyH_done (by kernel_rfl) ?_ _
                  refine ⟨rfl, ?_⟩
                  go_wp2_with fail
                  go_meet
                  case rel => exact ⟨g7, g8, U7, um7, uc7, A7, m7, c7, L7, U8, um8, uc8, A8, m8, c8, L8, rfl, rfl, Lib.hid ⟨J2.1, J2.2, h72, h8⟩, Lib.hid o72, Lib.hid o82, HN7, HN8⟩
          · skip
            try simp only [Act.put, List.getElem_toArray, List.getElem_cons_zero, List.getElem_cons_succ, List.setIfInBounds_toArray, List.set_cons_zero, List.set_cons_succ]
            go_simp
            have k8 := Blk.new W0 (tkC 0 none 0 0 none 0 0) 27
            have bb : Below W0.heap.size W0 (W0.alloc (.cells (tkC 0 none 0 0 none 0 0) 27)) := (Below.refl _ _).alloc (Nat.le_refl _) _
            have hw9 := J.1.size
            have hg9 := J.2.lt
            show K _ (W0.alloc (.cells (tkC 0 none 0 0 none 0 0) 27))
            generalize W0.alloc (.cells (tkC 0 none 0 0 none 0 0) 27) = V26 at k8 bb ⊢
            have J := J.step bb
            clear bb
            obtain ⟨g8, eg8⟩ : ∃ g, g = W0.heap.size := ⟨_, rfl⟩
            rw [← eg8] at k8 ⊢
            have hg8 : w.heap.size ≤ g8 := by omega
            have hh8 : g6 < g8 := by omega
            clear eg8 hw9 hg9
            refine hK.out _ _ J (fun _ => ?_)
            clear hK K
            try simp only [Act.put, List.getElem_toArray, List.getElem_cons_zero, List.getElem_cons_succ, List.setIfInBounds_toArray, List.set_cons_zero, List.set_cons_succ]
            refine wpAnyH_ready (rs := [1, 6]) (by kernel_rfl) (by simp) ?_
            refine AllReadyH.cons rfl (fun K hK => ?_) (AllReadyH.cons rfl (fun K hK => ?_) AllReadyH.nil)
            · skip
              try simp only [Act.put, List.getElem_toArray, List.getElem_cons_zero, List.getElem_cons_succ, List.setIfInBounds_toArray, List.set_cons_zero, List.set_cons_succ]
              go_simp
              refine (short_tk x V26 ((HX.out.below J.1 (Nat.le_refl _)).more J.1.size)).mono ?_
              rintro e V27 ⟨U7, um7, uc7, A7, m7, c7, L7, rfl, o7, hn7, bb⟩
              go_wp2_with fail
              have o7 := o7.down (B' := w.heap.size) J.1.size
              have HN7 := Lib.hid hn7
              clear hn7
              have J := J.step bb
              have k8 := k8.below bb k8.lt
              clear bb
              refine hK.out _ _ J (fun _ => ?_)
              clear hK K
              try simp only [Act.put, List.getElem_toArray, List.getElem_cons_zero, List.getElem_cons_succ, List.setIfInBounds_toArray, List.set_cons_zero, List.set_cons_succ]
              refine wpAnyH_ready (rs := [5, 6]) (by kernel_rfl) (by simp) ?_
              refine AllReadyH.cons rfl (fun K hK => ?_) (AllReadyH.cons rfl (fun K hK => ?_) AllReadyH.nil)
              · skip
                try simp only [Act.put, List.getElem_toArray, List.getElem_cons_zero, List.getElem_cons_succ, List.setIfInBounds_toArray, List.set_cons_zero, List.set_cons_succ]
                go_simp
                refine (short_tk y V27 ((HY.out.below J.1 (Nat.le_refl _)).more J.1.size)).mono ?_
                rintro e V28 ⟨U8, um8, uc8, A8, m8, c8, L8, rfl, o8, hn8, bb⟩
                go_wp2_with fail
                have o8 := o8.down (B' := w.heap.size) J.1.size
                have HN8 := Lib.hid hn8
                clear hn8
                have J := J.step bb
                have k8 := k8.below bb k8.lt
                have o7 := o7.below bb (Nat.le_refl _)
                clear bb
                refine hK.out _ _ J (fun _ => ?_)
                clear hK K
                try simp only [Act.put, List.getElem_toArray, List.getElem_cons_zero, List.getElem_cons_succ, List.setIfInBounds_toArray, List.set_cons_zero, List.set_cons_succ]
                refine wpAnyH_ready (rs := [6]) (by kernel_rfl) (by simp) ?_
                refine AllReadyH.cons rfl (fun K hK => ?_) AllReadyH.nil
                · skip
                  try simp only [Act.put, List.getElem_toArray, List.getElem_cons_zero, List.getElem_cons_succ, List.setIfInBounds_toArray, List.set_cons_zero, List.set_cons_succ]
                  go_simp
                  have k7 := Blk.new V28 (tkC 0 none 0 0 none 0 0) 27
                  have bb : Below V28.heap.size V28 (V28.alloc (.cells (tkC 0 none 0 0 none 0 0) 27)) := (Below.refl _ _).alloc (Nat.le_refl _) _
                  have hw9 := J.1.size
                  have hg9 := J.2.lt
                  have hx9 := k8.lt
                  show K _ (V28.alloc (.cells (tkC 0 none 0 0 none 0 0) 27))
                  generalize V28.alloc (.cells (tkC 0 none 0 0 none 0 0) 27) = V29 at k7 bb ⊢
                  have J := J.step bb
                  have k8 := k8.below bb k8.lt
                  have o7 := o7.below bb (Nat.le_refl _)
                  have o8 := o8.below bb (Nat.le_refl _)
                  clear bb
                  obtain ⟨g7, eg7⟩ : ∃ g, g = V28.heap.size := ⟨_, rfl⟩
                  rw [← eg7] at k7 ⊢
                  have hg7 : w.heap.size ≤ g7 := by omega
                  have hh7 : g6 < g7 := by omega
                  have hgg : g7 ≠ g8 := by omega
                  clear eg7 hw9 hg9
                  clear hx9
                  refine hK.out _ _ J (fun _ => ?_)
                  clear hK K
                  try simp only [Act.put, List.getElem_toArray, List.getElem_cons_zero, List.getElem_cons_succ, List.setIfInBounds_toArray, List.set_cons_zero, List.set_cons_succ]
                  refine wpAnyH_ready (rs := [8]) (by kernel_rfl) (by simp) ?_
                  refine AllReadyH.cons rfl (fun K hK => ?_) AllReadyH.nil
                  try simp only [Act.put, List.getElem_toArray, List.getElem_cons_zero, List.getElem_cons_succ, List.setIfInBounds_toArray, List.set_cons_zero, List.set_cons_succ]
                  rw [if_pos (by rfl)]
                  refine wp_store_blk 27 (.tmp 7) (.tmp 31) rfl g7 (tkC 0 none 0 0 none 0 0) (tkC x.a U7 um7 uc7 A7 m7 c7) 27 rfl rfl k7 rfl (tk_inf _ _ _ _ _ _ _) (tk_one _ _ _ _ _ _ _) ?_
                  intro X1 h7 n7
                  have J1 := J.but n7 hg7 hh7
                  have k81 := n7.blk7 k8 (by omega)
                  have o71 := o7.kind n7 k7 (by decide) (by decide)
                  have o81 := o8.kind n7 k7 (by decide) (by decide)
                  refine hK.out _ _ J1 (fun _ => ?_)
                  clear hK K
                  try simp only [Act.put, List.getElem_toArray, List.getElem_cons_zero, List.getElem_cons_succ, List.setIfInBounds_toArray, List.set_cons_zero, List.set_cons_succ]
                  refine wpAnyH_ready (rs := [9]) (by kernel_rfl) (by simp) ?_
                  refine AllReadyH.cons rfl (fun K hK => ?_) AllReadyH.nil
                  try simp only [Act.put, List.getElem_toArray, List.getElem_cons_zero, List.getElem_cons_succ, List.setIfInBounds_toArray, List.set_cons_zero, List.set_cons_succ]
                  rw [if_pos (by rfl)]
                  refine wp_store_blk 27 (.tmp 8) (.tmp 35) rfl g8 (tkC 0 none 0 0 none 0 0) (tkC y.a U8 um8 uc8 A8 m8 c8) 27 rfl rfl k81 rfl (tk_inf _ _ _ _ _ _ _) (tk_one _ _ _ _ _ _ _) ?_
                  intro X2 h8 n8
                  have J2 := J1.but n8 hg8 hh8
                  have h72 := n8.blk7 h7 (by omega)
                  have o72 := o71.kind n8 k81 (by decide) (by decide)
                  have o82 := o81.kind n8 k81 (by decide) (by decide)
                  refine hK.out _ _ J2 (fun _ => ?_)
                  clear hK K
                  try simp only [Act.put, List.getElem_toArray, List.getElem_cons_zero, List.getElem_cons_succ, List.setIfInBounds_toArray, List.set_cons_zero, List.set_cons_succ]
                  refine wpAnyH_done (by kernel_rfl) ?_ _
                  refine ⟨rfl, ?_⟩
                  go_wp2_with fail
                  go_meet
                  case rel => exact ⟨g7, g8, U7, um7, uc7, A7, m7, c7, L7, U8, um8, uc8, A8, m8, c8, L8, rfl, rfl, Lib.hid ⟨J2.1, J2.2, h72, h8⟩, Lib.hid o72, Lib.hid o82, HN7, HN8⟩
              · skip
                try simp only [Act.put, List.getElem_toArray, List.getElem_cons_zero, List.getElem_cons_succ, List.setIfInBounds_toArray, List.set_cons_zero, List.set_cons_succ]
                go_simp
                have k7 := Blk.new V27 (tkC 0 none 0 0 none 0 0) 27
                have bb : Below V27.heap.size V27 (V27.alloc (.cells (tkC 0 none 0 0 none 0 0) 27)) := (Below.refl _ _).alloc (Nat.le_refl _) _
                have hw9 := J.1.size
                have hg9 := J.2.lt
                have hx9 := k8.lt
                show K _ (V27.alloc (.cells (tkC 0 none 0 0 none 0 0) 27))
                generalize V27.alloc (.cells (tkC 0 none 0 0 none 0 0) 27) = V30 at k7 bb ⊢
                have J := J.step bb
                have k8 := k8.below bb k8.lt
                have o7 := o7.below bb (Nat.le_refl _)
                clear bb
                obtain ⟨g7, eg7⟩ : ∃ g, g = V27.heap.size := ⟨_, rfl⟩
                rw [← eg7] at k7 ⊢
                have hg7 : w.heap.size ≤ g7 := by omega
                have hh7 : g6 < g7 := by omega
                have hgg : g7 ≠ g8 := by omega
                clear eg7 hw9 hg9
                clear hx9
                refine hK.out _ _ J (fun _ => ?_)
                clear hK K
                try simp only [Act.put, List.getElem_toArray, List.getElem_cons_zero, List.getElem_cons_succ, List.setIfInBounds_toArray, List.set_cons_zero, List.set_cons_succ]
                refine wpAnyH_ready (rs := [5]) (by kernel_rfl) (by simp) ?_
                refine AllReadyH.cons rfl (fun K hK => ?_) AllReadyH.nil
                · skip
                  try simp only [Act.put, List.getElem_toArray, List.getElem_cons_zero, List.getElem_cons_succ, List.setIfInBounds_toArray, List.set_cons_zero, List.set_cons_succ]
                  go_simp
                  refine (short_tk y V30 ((HY.out.below J.1 (Nat.le_refl _)).more J.1.size)).mono ?_
                  rintro e V31 ⟨U8, um8, uc8, A8, m8, c8, L8, rfl, o8, hn8, bb⟩
                  go_wp2_with fail
                  have o8 := o8.down (B' := w.heap.size) J.1.size
                  have HN8 := Lib.hid hn8
                  clear hn8
                  have J := J.step bb
                  have k7 := k7.below bb k7.lt
                  have k8 := k8.below bb k8.lt
                  have o7 := o7.below bb (Nat.le_refl _)
                  clear bb
                  refine hK.out _ _ J (fun _ => ?_)
                  clear hK K
                  try simp only [Act.put, List.getElem_toArray, List.getElem_cons_zero, List.getElem_cons_succ, List.setIfInBounds_toArray, List.set_cons_zero, List.set_cons_succ]
                  refine wpAnyH_ready (rs := [8]) (by kernel_rfl) (by simp) ?_
                  refine AllReadyH.cons rfl (fun K hK => ?_) AllReadyH.nil
                  try simp only [Act.put, List.getElem_toArray, List.getElem_cons_zero, List.getElem_cons_succ, List.setIfInBounds_toArray, List.set_cons_zero, List.set_cons_succ]
                  rw [if_pos (by rfl)]
                  refine wp_store_blk 27 (.tmp 7) (.tmp 31) rfl g7 (tkC 0 none 0 0 none 0 0) (tkC x.a U7 um7 uc7 A7 m7 c7) 27 rfl rfl k7 rfl (tk_inf _ _ _ _ _ _ _) (tk_one _ _ _ _ _ _ _) ?_
                  intro X1 h7 n7
                  have J1 := J.but n7 hg7 hh7
                  have k81 := n7.blk7 k8 (by omega)
                  have o71 := o7.kind n7 k7 (by decide) (by decide)
                  have o81 := o8.kind n7 k7 (by decide) (by decide)
                  refine hK.out _ _ J1 (fun _ => ?_)
                  clear hK K
                  try simp only [Act.put, List.getElem_toArray, List.getElem_cons_zero, List.getElem_cons_succ, List.setIfInBounds_toArray, List.set_cons_zero, List.set_cons_succ]
                  refine wpAnyH_ready (rs := [9]) (by kernel_rfl) (by simp) ?_
                  refine AllReadyH.cons rfl (fun K hK => ?_) AllReadyH.nil
                  try simp only [Act.put, List.getElem_toArray, List.getElem_cons_zero, List.getElem_cons_succ, List.setIfInBounds_toArray, List.set_cons_zero, List.set_cons_succ]
                  rw [if_pos (by rfl)]
                  refine wp_store_blk 27 (.tmp 8) (.tmp 35) rfl g8 (tkC 0 none 0 0 none 0 0) (tkC y.a U8 um8 uc8 A8 m8 c8) 27 rfl rfl k81 rfl (tk_inf _ _ _ _ _ _ _) (tk_one _ _ _ _ _ _ _) ?_
                  intro X2 h8 n8
                  have J2 := J1.but n8 hg8 hh8
                  have h72 := n8.blk7 h7 (by omega)
                  have o72 := o71.kind n8 k81 (by decide) (by decide)
                  have o82 := o81.kind n8 k81 (by decide) (by decide)
                  refine hK.out _ _ J2 (fun _ => ?_)
                  clear hK K
                  try simp only [Act.put, List.getElem_toArray, List.getElem_cons_zero, List.getElem_cons_succ, List.setIfInBounds_toArray, List.set_cons_zero, List.set_cons_succ]
                  refine wpAnyH_done (by kernel_rfl) ?_ _
                  refine ⟨rfl, ?_⟩
                  go_wp2_with fail
                  go_meet
                  case rel => exact ⟨g7, g8, U7, um7, uc7, A7, m7, c7, L7, U8, um8, uc8, A8, m8, c8, L8, rfl, rfl, Lib.hid ⟨J2.1, J2.2, h72, h8⟩, Lib.hid o72, Lib.hid o82, HN7, HN8⟩
            · skip
              try simp only [Act.put, List.getElem_toArray, List.getElem_cons_zero, List.getElem_cons_succ, List.setIfInBounds_toArray, List.set_cons_zero, List.set_cons_succ]
              go_simp
              have k7 := Blk.new V26 (tkC 0 none 0 0 none 0 0) 27
              have bb : Below V26.heap.size V26 (V26.alloc (.cells (tkC 0 none 0 0 none 0 0) 27)) := (Below.refl _ _).alloc (Nat.le_refl _) _
              have hw9 := J.1.size
              have hg9 := J.2.lt
              have hx9 := k8.lt
              show K _ (V26.alloc (.cells (tkC 0 none 0 0 none 0 0) 27))
              generalize V26.alloc (.cells (tkC 0 none 0 0 none 0 0) 27) = V32 at k7 bb ⊢
              have J := J.step bb
              have k8 := k8.below bb k8.lt
              clear bb
              obtain ⟨g7, eg7⟩ : ∃ g, g = V26.heap.size := ⟨_, rfl⟩
              rw [← eg7] at k7 ⊢
              have hg7 : w.heap.size ≤ g7 := by omega
              have hh7 : g6 < g7 := by omega
              have hgg : g7 ≠ g8 := by omega
              clear eg7 hw9 hg9
              clear hx9
              refine hK.out _ _ J (fun _ => ?_)
              clear hK K
              try simp only [Act.put, List.getElem_toArray, List.getElem_cons_zero, List.getElem_cons_succ, List.setIfInBounds_toArray, List.set_cons_zero, List.set_cons_succ]
              refine wpAnyH_ready (rs := [1]) (by kernel_rfl) (by simp) ?_
              refine AllReadyH.cons rfl (fun K hK => ?_) AllReadyH.nil
              · skip
                try simp only [Act.put, List.getElem_toArray, List.getElem_cons_zero, List.getElem_cons_succ, List.setIfInBounds_toArray, List.set_cons_zero, List.set_cons_succ]
                go_simp
                refine (short_tk x V32 ((HX.out.below J.1 (Nat.le_refl _)).more J.1.size)).mono ?_
                rintro e V33 ⟨U7, um7, uc7, A7, m7, c7, L7, rfl, o7, hn7, bb⟩
                go_wp2_with fail
                have o7 := o7.down (B' := w.heap.size) J.1.size
                have HN7 := Lib.hid hn7
                clear hn7
                have J := J.step bb
                have k7 := k7.below bb k7.lt
                have k8 := k8.below bb k8.lt
                clear bb
                refine hK.out _ _ J (fun _ => ?_)
                clear hK K
                try simp only [Act.put, List.getElem_toArray, List.getElem_cons_zero, List.getElem_cons_succ, List.setIfInBounds_toArray, List.set_cons_zero, List.set_cons_succ]
                refine wpAnyH_ready (rs := [5]) (by kernel_rfl) (by simp) ?_
                refine AllReadyH.cons rfl (fun K hK => ?_) AllReadyH.nil
                · skip
                  try simp only [Act.put, List.getElem_toArray, List.getElem_cons_zero, List.getElem_cons_succ, List.setIfInBounds_toArray, List.set_cons_zero, List.set_cons_succ]
                  go_simp
                  refine (short_tk y V33 ((HY.out.below J.1 (Nat.le_refl _)).more J.1.size)).mono ?_
                  rintro e V34 ⟨U8, um8, uc8, A8, m8, c8, L8, rfl, o8, hn8, bb⟩
                  go_wp2_with fail
                  have o8 := o8.down (B' := w.heap.size) J.1.size
                  have HN8 := Lib.hid hn8
                  clear hn8
                  have J := J.step bb
                  have k7 := k7.below bb k7.lt
                  have k8 := k8.below bb k8.lt
                  have o7 := o7.below bb (Nat.le_refl _)
                  clear bb
                  refine hK.out _ _ J (fun _ => ?_)
                  clear hK K
                  try simp only [Act.put, List.getElem_toArray, List.getElem_cons_zero, List.getElem_cons_succ, List.setIfInBounds_toArray, List.set_cons_zero, List.set_cons_succ]
                  refine wpAnyH_ready (rs := [8]) (by kernel_rfl) (by simp) ?_
                  refine AllReadyH.cons rfl (fun K hK => ?_) AllReadyH.nil
                  try simp only [Act.put, List.getElem_toArray, List.getElem_cons_zero, List.getElem_cons_succ, List.setIfInBounds_toArray, List.set_cons_zero, List.set_cons_succ]
                  rw [if_pos (by rfl)]
                  refine wp_store_blk 27 (.tmp 7) (.tmp 31) rfl g7 (tkC 0 none 0 0 none 0 0) (tkC x.a U7 um7 uc7 A7 m7 c7) 27 rfl rfl k7 rfl (tk_inf _ _ _ _ _ _ _) (tk_one _ _ _ _ _ _ _) ?_
                  intro X1 h7 n7
                  have J1 := J.but n7 hg7 hh7
                  have k81 := n7.blk7 k8 (by omega)
                  have o71 := o7.kind n7 k7 (by decide) (by decide)
                  have o81 := o8.kind n7 k7 (by decide) (by decide)
                  refine hK.out _ _ J1 (fun _ => ?_)
                  clear hK K
                  try simp only [Act.put, List.getElem_toArray, List.getElem_cons_zero, List.getElem_cons_succ, List.setIfInBounds_toArray, List.set_cons_zero, List.set_cons_succ]
                  refine wpAnyH_ready (rs := [9]) (by kernel_rfl) (by simp) ?_
                  refine AllReadyH.cons rfl (fun K hK => ?_) AllReadyH.nil
                  try simp only [Act.put, List.getElem_toArray, List.getElem_cons_zero, List.getElem_cons_succ, List.setIfInBounds_toArray, List.set_cons_zero, List.set_cons_succ]
                  rw [if_pos (by rfl)]
                  refine wp_store_blk 27 (.tmp 8) (.tmp 35) rfl g8 (tkC 0 none 0 0 none 0 0) (tkC y.a U8 um8 uc8 A8 m8 c8) 27 rfl rfl k81 rfl (tk_inf _ _ _ _ _ _ _) (tk_one _ _ _ _ _ _ _) ?_
                  intro X2 h8 n8
                  have J2 := J1.but n8 hg8 hh8
                  have h72 := n8.blk7 h7 (by omega)
                  have o72 := o71.kind n8 k81 (by decide) (by decide)
                  have o82 := o81.kind n8 k81 (by decide) (by decide)
                  refine hK.out _ _ J2 (fun _ => ?_)
                  clear hK K
                  try simp only [Act.put, List.getElem_toArray, List.getElem_cons_zero, List.getElem_cons_succ, List.setIfInBounds_toArray, List.set_cons_zero, List.set_cons_succ]
                  refine wpAnyH_done (by kernel_rfl) ?_ _
                  refine ⟨rfl, ?_⟩
                  go_wp2_with fail
                  go_meet
                  case rel => exact ⟨g7, g8, U7, um7, uc7, A7, m7, c7, L7, U8, um8, uc8, A8, m8, c8, L8, rfl, rfl, Lib.hid ⟨J2.1, J2.2, h72, h8⟩, Lib.hid o72, Lib.hid o82, HN7, HN8⟩
        case rest =>
          obtain ⟨g7, g8, U7, um7, uc7, A7, m7, c7, L7, U8, um8, uc8, A8, m8, c8, L8, rfl, rfl, HQ, HO7, HO8, HN7, HN8⟩ := hcut
          clear hB1 k6
          have J : TS w x y g6 g7 g8 U7 um7 uc7 A7 m7 c7 L7 U8 um8 uc8 A8 m8 c8 L8 wc := ⟨HQ.out.b, HQ.out.k6, HQ.out.k7, HQ.out.k8, (sh_tk HO7.out HN7.out).1, (sh_tk HO8.out HN8.out).1⟩
          have HLT := Lib.hid (sh_tk HO7.out HN7.out).2
          clear HQ HO7 HO8 HN8
          obtain ⟨ck, hck⟩ : ∃ ck, tkE x.a (x.U.take 22) L7 = ck := ⟨_, rfl⟩
          obtain ⟨r0, hr0⟩ : ∃ r0, (ck == 0) = r0 := ⟨_, rfl⟩
          have HCK := Lib.hid (show (ck == 0) = r0 ∧ (ck != 0) = (!r0) ∧ (r0 = false → ck = 220) from ⟨hr0, by rw [bne, hr0], fun e => by
            rcases tkE_or x.a (x.U.take 22) L7 with h9 | h9
            · rw [hck] at h9; subst h9; rw [← hr0] at e; cases e
            · rw [hck] at h9; exact h9⟩)
          have HG := Lib.hid (show r0 = true → TkGood x.a (x.U.take 22) L7 from fun e => tk_good (by rw [hck]; rw [e] at hr0; simpa using hr0))
          have CK := Lib.hid (show Calls Tryz.prog 13 #[.agg (tkC x.a U7 um7 uc7 A7 m7 c7)] wc fun e w' => e = .returned (.int .i64 ck) ∧ Below wc.heap.size wc w' from by
            have := check_tk x.a U7 um7 uc7 (x.U.take 22) A7 m7 c7 L7 wc J.t7.u J.t7.ul J.t7.u6 J.t7.p J.t7.pl (by have := J.t7.p6; omega) (by have := J.t7.n; omega)
            rw [hck] at this
            exact this)
          have CR := Lib.hid (fun (V : World) (hV : TS w x y g6 g7 g8 U7 um7 uc7 A7 m7 c7 L7 U8 um8 uc8 A8 m8 c8 L8 V) => (show Calls Tryz.prog 14 #[.agg (tkC x.a U7 um7 uc7 A7 m7 c7)] V fun e w' => e = .returned (.bool r0) ∧ Below V.heap.size V w' from by
            have := rright_tk x.a U7 um7 uc7 (x.U.take 22) A7 m7 c7 L7 V hV.t7 HLT.out.1
            rw [rgt_eq, hck, hr0] at this
            exact this.mono fun e w' h9 => ⟨h9.1, h9.2⟩))
          obtain ⟨bs, hbs⟩ : ∃ bs, (((x.a == y.a) && (x.U.take 22 == y.U.take 22)) && nmE L7 L8) = bs := ⟨_, rfl⟩
          have CP := Lib.hid (fun (V : World) (hV : TS w x y g6 g7 g8 U7 um7 uc7 A7 m7 c7 L7 U8 um8 uc8 A8 m8 c8 L8 V) => (show Calls Tryz.prog 15 #[.agg (tkC x.a U7 um7 uc7 A7 m7 c7), .agg (tkC y.a U8 um8 uc8 A8 m8 c8)] V fun e w' => e = .returned (.bool bs) ∧ Below V.heap.size V w' from by
            have := same_tk x.a U7 um7 uc7 (x.U.take 22) A7 m7 c7 L7 y.a U8 um8 uc8 (y.U.take 22) A8 m8 c8 L8 V hV.t7.u hV.t7.ul hV.t7.u6 hV.t7.p hV.t7.pl (by have := hV.t7.p6; omega) hV.t8.u hV.t8.ul hV.t8.p hV.t8.pl (by have := hV.t8.p6; omega)
            rw [show decide (L7.map (·.1) = L8.map (·.1)) = nmE L7 L8 from rfl, hbs] at this
            exact this))
          have CQ := Lib.hid (fun (V : World) (hV : TS w x y g6 g7 g8 U7 um7 uc7 A7 m7 c7 L7 U8 um8 uc8 A8 m8 c8 L8 V) => (show Calls Tryz.prog 10 #[.agg (tkC x.a U7 um7 uc7 A7 m7 c7), .agg (tkC y.a U8 um8 uc8 A8 m8 c8)] V fun e w' => e = .returned (.bool bs) ∧ Below V.heap.size V w' from by
            have := rsame_tk x.a U7 um7 uc7 (x.U.take 22) A7 m7 c7 L7 y.a U8 um8 uc8 (y.U.take 22) A8 m8 c8 L8 V hV.t7 hV.t8
            rw [hbs] at this
            exact this))
          have CS := Lib.hid (fun (V : World) (hV : TS w x y g6 g7 g8 U7 um7 uc7 A7 m7 c7 L7 U8 um8 uc8 A8 m8 c8 L8 V) => short_tk x V ((HX.out.below hV.b (Nat.le_refl _)).more hV.b.size))
          clear hck hr0 hbs
          go_wp2_with (first
            | (refine wpList_load_row rfl 27 (.tmp 7) rfl g7 rfl 27 (tkC x.a U7 um7 uc7 A7 m7 c7) (0, 0) _ J.k7.blk Tryz.underlying27 rfl (tk_inf _ _ _ _ _ _ _) ?_)
            | (refine CK.out.mono ?_
               clear CK
               rintro e w3 ⟨rfl, bb⟩
               have J := J.step bb
               clear bb))
          try simp only [Act.put]
          have J := J.step (Below.refl _ _).drew
          refine region_cutP ?_
          refine wp_region_held_drew (S := TS w x y g6 g7 g8 U7 um7 uc7 A7 m7 c7 L7 U8 um8 uc8 A8 m8 c8 L8) (by kernel_rfl) J (fun _ => ?_)
          refine wpAnyH_take (i := 0) (v := .int .i64 ck) rfl (by kernel_rfl) (by kernel_rfl) (by kernel_rfl) (fun _ _ _ h => nomatch h.1) (.inl ⟨by rfl, fun V hV => by go_simp⟩) J ?_
          try simp only [Act.put, List.getElem_toArray, List.getElem_cons_zero, List.getElem_cons_succ, List.setIfInBounds_toArray, List.set_cons_zero, List.set_cons_succ]
          refine wpAnyH_take (i := 1) (v := .bool r0) rfl (by kernel_rfl) (by kernel_rfl) (by kernel_rfl) (fun _ _ _ h => nomatch h.1) (.inl ⟨by rfl, fun V hV => by have hq := HCK.out.1; go_simp⟩) J ?_
          try simp only [Act.put, List.getElem_toArray, List.getElem_cons_zero, List.getElem_cons_succ, List.setIfInBounds_toArray, List.set_cons_zero, List.set_cons_succ]
          refine wpAnyH_take (i := 2) (v := .agg (tkC x.a U7 um7 uc7 A7 m7 c7)) rfl (by kernel_rfl) (by kernel_rfl) (by kernel_rfl) (fun _ _ _ h => nomatch h.1) (yieldsIf_blk (by rfl) 27 (.tmp 7) rfl g7 rfl (tkC x.a U7 um7 uc7 A7 m7 c7) 27 _ (fun _ h => h.k7) Tryz.underlying27 rfl (tk_inf _ _ _ _ _ _ _)) J ?_
          try simp only [Act.put, List.getElem_toArray, List.getElem_cons_zero, List.getElem_cons_succ, List.setIfInBounds_toArray, List.set_cons_zero, List.set_cons_succ]
          refine wpAnyH_ready (rs := [3]) (by kernel_rfl) (by simp) ?_
          refine AllReadyH.cons rfl (fun K hK => ?_) AllReadyH.nil
          try simp only [Act.put, List.getElem_toArray, List.getElem_cons_zero, List.getElem_cons_succ, List.setIfInBounds_toArray, List.set_cons_zero, List.set_cons_succ]
          go_simp
          refine (CR.out _ J).mono ?_
          rintro e V2 ⟨rfl, bb⟩
          have J := J.step bb
          refine hK.out _ _ J (fun _ => ?_)
          clear hK K
          try simp only [Act.put, List.getElem_toArray, List.getElem_cons_zero, List.getElem_cons_succ, List.setIfInBounds_toArray, List.set_cons_zero, List.set_cons_succ]
          refine wpAnyH_take (i := 4) (v := .bool false) rfl (by kernel_rfl) (by kernel_rfl) (by kernel_rfl) (fun _ _ _ h => nomatch h.1) (by cases r0 <;> exact .inl ⟨by rfl, fun V hV => by go_simp⟩) J ?_
          try simp only [Act.put, List.getElem_toArray, List.getElem_cons_zero, List.getElem_cons_succ, List.setIfInBounds_toArray, List.set_cons_zero, List.set_cons_succ]
          refine wpAnyH_take (i := 5) (v := .bool false) rfl (by kernel_rfl) (by kernel_rfl) (by kernel_rfl) (fun _ _ _ h => nomatch h.1) (.inl ⟨by rfl, fun V hV => by go_simp⟩) J ?_
          try simp only [Act.put, List.getElem_toArray, List.getElem_cons_zero, List.getElem_cons_succ, List.setIfInBounds_toArray, List.set_cons_zero, List.set_cons_succ]
          refine wpAnyH_take (i := 6) (v := .int .i64 ck) rfl (by kernel_rfl) (by kernel_rfl) (by kernel_rfl) (fun _ _ _ h => nomatch h.1) (.inl ⟨by rfl, fun V hV => by go_simp⟩) J ?_
          try simp only [Act.put, List.getElem_toArray, List.getElem_cons_zero, List.getElem_cons_succ, List.setIfInBounds_toArray, List.set_cons_zero, List.set_cons_succ]
          refine wpAnyH_take (i := 7) (v := .bool (!r0)) rfl (by kernel_rfl) (by kernel_rfl) (by kernel_rfl) (fun _ _ _ h => nomatch h.1) (.inl ⟨by rfl, fun V hV => by have hq := HCK.out.2.1; go_simp⟩) J ?_
          try simp only [Act.put, List.getElem_toArray, List.getElem_cons_zero, List.getElem_cons_succ, List.setIfInBounds_toArray, List.set_cons_zero, List.set_cons_succ]
          refine wpAnyH_take (i := 8) (v := .bool (!r0)) rfl (by kernel_rfl) (by kernel_rfl) (by kernel_rfl) (fun _ _ _ h => nomatch h.1) (.inl ⟨by rfl, fun V hV => by go_simp⟩) J ?_
          try simp only [Act.put, List.getElem_toArray, List.getElem_cons_zero, List.getElem_cons_succ, List.setIfInBounds_toArray, List.set_cons_zero, List.set_cons_succ]
          refine wpAnyH_take (i := 9) (v := gd (!r0) (.int .i64 ck)) rfl (by kernel_rfl) (by kernel_rfl) (by kernel_rfl) (fun _ _ _ h => nomatch h.1) (by cases r0; exact .inl ⟨by rfl, fun V hV => by simp only [gd]; go_simp⟩; exact .inr ⟨by rfl, rfl⟩) J ?_
          try simp only [Act.put, List.getElem_toArray, List.getElem_cons_zero, List.getElem_cons_succ, List.setIfInBounds_toArray, List.set_cons_zero, List.set_cons_succ]
          refine wpAnyH_take (i := 10) (v := gd (!r0) (.bool false)) rfl (by kernel_rfl) (by kernel_rfl) (by kernel_rfl) (fun _ _ _ h => nomatch h.1) (by cases r0; exact .inl ⟨by rfl, fun V hV => by have hq := HCK.out.2.2 rfl; simp only [gd]; subst hq; go_simp⟩; exact .inr ⟨by rfl, rfl⟩) J ?_
          try simp only [Act.put, List.getElem_toArray, List.getElem_cons_zero, List.getElem_cons_succ, List.setIfInBounds_toArray, List.set_cons_zero, List.set_cons_succ]
          refine wpAnyH_take (i := 11) (v := .bool false) rfl (by kernel_rfl) (by kernel_rfl) (by kernel_rfl) (fun _ _ _ h => nomatch h.1) (by cases r0 <;> exact .inl ⟨by rfl, fun V hV => by simp only [gd]; go_simp⟩) J ?_
          try simp only [Act.put, List.getElem_toArray, List.getElem_cons_zero, List.getElem_cons_succ, List.setIfInBounds_toArray, List.set_cons_zero, List.set_cons_succ]
          refine wpAnyH_take (i := 12) (v := .bool false) rfl (by kernel_rfl) (by kernel_rfl) (by kernel_rfl) (fun _ _ _ h => nomatch h.1) (.inl ⟨by rfl, fun V hV => by go_simp⟩) J ?_
          try simp only [Act.put, List.getElem_toArray, List.getElem_cons_zero, List.getElem_cons_succ, List.setIfInBounds_toArray, List.set_cons_zero, List.set_cons_succ]
          refine wpAnyH_take (i := 13) (v := .bool false) rfl (by kernel_rfl) (by kernel_rfl) (by kernel_rfl) (fun _ _ _ h => nomatch h.1) (.inl ⟨by rfl, fun V hV => by go_simp⟩) J ?_
          try simp only [Act.put, List.getElem_toArray, List.getElem_cons_zero, List.getElem_cons_succ, List.setIfInBounds_toArray, List.set_cons_zero, List.set_cons_succ]
          refine wpAnyH_take (i := 14) (v := .agg (tkC x.a U7 um7 uc7 A7 m7 c7)) rfl (by kernel_rfl) (by kernel_rfl) (by kernel_rfl) (fun _ _ _ h => nomatch h.1) (yieldsIf_blk (by rfl) 27 (.tmp 7) rfl g7 rfl (tkC x.a U7 um7 uc7 A7 m7 c7) 27 _ (fun _ h => h.k7) Tryz.underlying27 rfl (tk_inf _ _ _ _ _ _ _)) J ?_
          try simp only [Act.put, List.getElem_toArray, List.getElem_cons_zero, List.getElem_cons_succ, List.setIfInBounds_toArray, List.set_cons_zero, List.set_cons_succ]
          refine wpAnyH_take (i := 15) (v := .agg (tkC y.a U8 um8 uc8 A8 m8 c8)) rfl (by kernel_rfl) (by kernel_rfl) (by kernel_rfl) (fun _ _ _ h => nomatch h.1) (yieldsIf_blk (by rfl) 27 (.tmp 8) rfl g8 rfl (tkC y.a U8 um8 uc8 A8 m8 c8) 27 _ (fun _ h => h.k8) Tryz.underlying27 rfl (tk_inf _ _ _ _ _ _ _)) J ?_
          try simp only [Act.put, List.getElem_toArray, List.getElem_cons_zero, List.getElem_cons_succ, List.setIfInBounds_toArray, List.set_cons_zero, List.set_cons_succ]
          refine wpAnyH_take (i := 17) (v := .agg (tkC x.a U7 um7 uc7 A7 m7 c7)) rfl (by kernel_rfl) (by kernel_rfl) (by kernel_rfl) (fun _ _ _ h => nomatch h.1) (yieldsIf_blk (by rfl) 27 (.tmp 7) rfl g7 rfl (tkC x.a U7 um7 uc7 A7 m7 c7) 27 _ (fun _ h => h.k7) Tryz.underlying27 rfl (tk_inf _ _ _ _ _ _ _)) J ?_
          try simp only [Act.put, List.getElem_toArray, List.getElem_cons_zero, List.getElem_cons_succ, List.setIfInBounds_toArray, List.set_cons_zero, List.set_cons_succ]
          refine wpAnyH_take (i := 18) (v := .agg (tkC y.a U8 um8 uc8 A8 m8 c8)) rfl (by kernel_rfl) (by kernel_rfl) (by kernel_rfl) (fun _ _ _ h => nomatch h.1) (yieldsIf_blk (by rfl) 27 (.tmp 8) rfl g8 rfl (tkC y.a U8 um8 uc8 A8 m8 c8) 27 _ (fun _ h => h.k8) Tryz.underlying27 rfl (tk_inf _ _ _ _ _ _ _)) J ?_
          try simp only [Act.put, List.getElem_toArray, List.getElem_cons_zero, List.getElem_cons_succ, List.setIfInBounds_toArray, List.set_cons_zero, List.set_cons_succ]
          refine wpAnyH_ready (rs := [16]) (by kernel_rfl) (by simp) ?_
          refine AllReadyH.cons rfl (fun K hK => ?_) AllReadyH.nil
          try simp only [Act.put, List.getElem_toArray, List.getElem_cons_zero, List.getElem_cons_succ, List.setIfInBounds_toArray, List.set_cons_zero, List.set_cons_succ]
          go_simp
          refine (CP.out _ J).mono ?_
          rintro e V2 ⟨rfl, bb⟩
          have J := J.step bb
          refine hK.out _ _ J (fun _ => ?_)
          clear hK K
          try simp only [Act.put, List.getElem_toArray, List.getElem_cons_zero, List.getElem_cons_succ, List.setIfInBounds_toArray, List.set_cons_zero, List.set_cons_succ]
          refine wpAnyH_ready (rs := [19]) (by kernel_rfl) (by simp) ?_
          refine AllReadyH.cons rfl (fun K hK => ?_) AllReadyH.nil
          try simp only [Act.put, List.getElem_toArray, List.getElem_cons_zero, List.getElem_cons_succ, List.setIfInBounds_toArray, List.set_cons_zero, List.set_cons_succ]
          go_simp
          refine (CQ.out _ J).mono ?_
          rintro e V2 ⟨rfl, bb⟩
          have J := J.step bb
          refine hK.out _ _ J (fun _ => ?_)
          clear hK K
          try simp only [Act.put, List.getElem_toArray, List.getElem_cons_zero, List.getElem_cons_succ, List.setIfInBounds_toArray, List.set_cons_zero, List.set_cons_succ]
          refine wpAnyH_take (i := 20) (v := .bool false) rfl (by kernel_rfl) (by kernel_rfl) (by kernel_rfl) (fun _ _ _ h => nomatch h.1) (by cases bs <;> exact .inl ⟨by rfl, fun V hV => by go_simp⟩) J ?_
          try simp only [Act.put, List.getElem_toArray, List.getElem_cons_zero, List.getElem_cons_succ, List.setIfInBounds_toArray, List.set_cons_zero, List.set_cons_succ]
          refine wpAnyH_take (i := 21) (v := .bool false) rfl (by kernel_rfl) (by kernel_rfl) (by kernel_rfl) (fun _ _ _ h => nomatch h.1) (.inl ⟨by rfl, fun V hV => by go_simp⟩) J ?_
          try simp only [Act.put, List.getElem_toArray, List.getElem_cons_zero, List.getElem_cons_succ, List.setIfInBounds_toArray, List.set_cons_zero, List.set_cons_succ]
          refine wpAnyH_take (i := 22) (v := .bool false) rfl (by kernel_rfl) (by kernel_rfl) (by kernel_rfl) (fun _ _ _ h => nomatch h.1) (.inl ⟨by rfl, fun V hV => by go_simp⟩) J ?_
          try simp only [Act.put, List.getElem_toArray, List.getElem_cons_zero, List.getElem_cons_succ, List.setIfInBounds_toArray, List.set_cons_zero, List.set_cons_succ]
          refine wpAnyH_take (i := 23) (v := .agg (tkC x.a U7 um7 uc7 A7 m7 c7)) rfl (by kernel_rfl) (by kernel_rfl) (by kernel_rfl) (fun _ _ _ h => nomatch h.1) (yieldsIf_blk (by rfl) 27 (.tmp 7) rfl g7 rfl (tkC x.a U7 um7 uc7 A7 m7 c7) 27 _ (fun _ h => h.k7) Tryz.underlying27 rfl (tk_inf _ _ _ _ _ _ _)) J ?_
          try simp only [Act.put, List.getElem_toArray, List.getElem_cons_zero, List.getElem_cons_succ, List.setIfInBounds_toArray, List.set_cons_zero, List.set_cons_succ]
          refine wpAnyH_take (i := 24) (v := .agg (txC x)) rfl (by kernel_rfl) (by kernel_rfl) (by kernel_rfl) (fun _ _ _ h => nomatch h.1) (yieldsIf_blk (by rfl) 27 (.tmp 6) rfl g6 rfl (txC x) 27 _ (fun _ h => h.k6) Tryz.underlying27 rfl (tk_inf _ _ _ _ _ _ _)) J ?_
          try simp only [Act.put, List.getElem_toArray, List.getElem_cons_zero, List.getElem_cons_succ, List.setIfInBounds_toArray, List.set_cons_zero, List.set_cons_succ]
          refine wpAnyH_ready (rs := [25]) (by kernel_rfl) (by simp) ?_
          refine AllReadyH.cons rfl (fun K hK => ?_) AllReadyH.nil
          try simp only [Act.put, List.getElem_toArray, List.getElem_cons_zero, List.getElem_cons_succ, List.setIfInBounds_toArray, List.set_cons_zero, List.set_cons_succ]
          go_simp
          refine (CS.out _ J).mono ?_
          rintro e V2 ⟨U9, um9, uc9, A9, m9, c9, L9, rfl, o9, hn9, bb⟩
          go_wp2_with fail
          have J := J.step bb
          have HS9 := Lib.hid (cs9 J o9 hn9 HN7.out)
          clear o9 hn9 bb
          refine hK.out _ _ J (fun _ => ?_)
          clear hK K
          try simp only [Act.put, List.getElem_toArray, List.getElem_cons_zero, List.getElem_cons_succ, List.setIfInBounds_toArray, List.set_cons_zero, List.set_cons_succ]
          refine wpAnyH_ready (rs := [26]) (by kernel_rfl) (by simp) ?_
          refine AllReadyH.cons rfl (fun K hK => ?_) AllReadyH.nil
          try simp only [Act.put, List.getElem_toArray, List.getElem_cons_zero, List.getElem_cons_succ, List.setIfInBounds_toArray, List.set_cons_zero, List.set_cons_succ]
          go_simp
          refine (HS9.out).mono ?_
          rintro e V2 ⟨rfl, bb⟩
          have J := J.step bb
          clear HS9
          refine hK.out _ _ J (fun _ => ?_)
          clear hK K
          try simp only [Act.put, List.getElem_toArray, List.getElem_cons_zero, List.getElem_cons_succ, List.setIfInBounds_toArray, List.set_cons_zero, List.set_cons_succ]
          refine wpAnyH_take (i := 27) (v := .bool false) rfl (by kernel_rfl) (by kernel_rfl) (by kernel_rfl) (fun _ _ _ h => nomatch h.1) (.inl ⟨by rfl, fun V hV => by go_simp⟩) J ?_
          try simp only [Act.put, List.getElem_toArray, List.getElem_cons_zero, List.getElem_cons_succ, List.setIfInBounds_toArray, List.set_cons_zero, List.set_cons_succ]
          refine wpAnyH_take (i := 28) (v := .bool false) rfl (by kernel_rfl) (by kernel_rfl) (by kernel_rfl) (fun _ _ _ h => nomatch h.1) (.inl ⟨by rfl, fun V hV => by go_simp⟩) J ?_
          try simp only [Act.put, List.getElem_toArray, List.getElem_cons_zero, List.getElem_cons_succ, List.setIfInBounds_toArray, List.set_cons_zero, List.set_cons_succ]
          refine wpAnyH_done (by kernel_rfl) ?_ _
          refine ⟨rfl, ?_⟩
          cases r0
          · skip
            go_wp2_with (first
              | (refine wpListG_load (by rfl) 27 (.tmp 7) rfl g7 rfl 27 (tkC x.a U7 um7 uc7 A7 m7 c7) _ J.k7 Tryz.underlying27 rfl (tk_inf _ _ _ _ _ _ _) ?_)
              | (refine (CR.out _ J).mono ?_
                 rintro e w4 ⟨rfl, bb⟩
                 have J := J.step bb
                 clear bb CP CQ CR))
            go_roundw
            case rel => exact ⟨k + 1, _, rfl, by have := HKM.out; omega, by go_num, J.b⟩
            case measure => have := HKM.out; simp [intOf]; omega
          · skip
            go_wp2_with (first
              | (refine wpListG_load (by rfl) 27 (.tmp 7) rfl g7 rfl 27 (tkC x.a U7 um7 uc7 A7 m7 c7) _ J.k7 Tryz.underlying27 rfl (tk_inf _ _ _ _ _ _ _) ?_)
              | (refine (CR.out _ J).mono ?_
                 rintro e w4 ⟨rfl, bb⟩
                 have J := J.step bb
                 clear bb CP CQ CR))
            have g := HG.out (by trivial)
            have HLL := Lib.hid (show (liveF L7).length ≤ 1000 by
              have h1 := withs_len (tidF L7) []
              rw [live_eq] at h1
              have h2 := HLT.out.1
              simp only [List.length_nil] at h1
              omega)
            have CL := Lib.hid (fun (V : World) (hV : TS w x y g6 g7 g8 U7 um7 uc7 A7 m7 c7 L7 U8 um8 uc8 A8 m8 c8 L8 V) => (show Calls Tryz.prog 17 #[.agg (tkC x.a U7 um7 uc7 A7 m7 c7)] V fun e w' => ∃ G gm gc, e = .returned (.slice G gm gc) ∧ Zo w' V.heap.size G gm gc (liveF L7) ∧ Below V.heap.size V w' from live_any x.a U7 um7 uc7 A7 m7 c7 L7 V hV.t7.p hV.t7.pl (by have := hV.t7.p6; omega) hV.t7.n))
            have CM := Lib.hid (fun (V : World) (hV : TS w x y g6 g7 g8 U7 um7 uc7 A7 m7 c7 L7 U8 um8 uc8 A8 m8 c8 L8 V) => (show Calls Tryz.prog 18 #[.agg (tkC x.a U7 um7 uc7 A7 m7 c7)] V fun e w' => ∃ G gm gc, e = .returned (.slice G gm gc) ∧ Zo w' V.heap.size G gm gc (liveF L7) ∧ Below V.heap.size V w' from by
              have := rlive_tk x.a U7 um7 uc7 A7 m7 c7 L7 V hV.t7.p hV.t7.pl (by have := hV.t7.p6; omega) HLT.out.1
              rw [live_eq] at this
              exact this))
            have HPU := Lib.hid g.pup
            have HPOS := Lib.hid (good_pos g)
            clear g HG
            have J := J.step (Below.refl _ _).drew
            refine region_cutP ?_
            refine wp_region_held_drew (S := TS w x y g6 g7 g8 U7 um7 uc7 A7 m7 c7 L7 U8 um8 uc8 A8 m8 c8 L8) (by kernel_rfl) J (fun _ => ?_)
            refine wpAnyH_take (i := 0) (v := .agg (tkC x.a U7 um7 uc7 A7 m7 c7)) rfl (by kernel_rfl) (by kernel_rfl) (by kernel_rfl) (fun _ _ _ h => nomatch h.1) (yieldsIf_blk (by rfl) 27 (.tmp 7) rfl g7 rfl (tkC x.a U7 um7 uc7 A7 m7 c7) 27 _ (fun _ h => h.k7) Tryz.underlying27 rfl (tk_inf _ _ _ _ _ _ _)) J ?_
            try simp only [Act.put, List.getElem_toArray, List.getElem_cons_zero, List.getElem_cons_succ, List.setIfInBounds_toArray, List.set_cons_zero, List.set_cons_succ]
            refine wpAnyH_take (i := 2) (v := .agg (tkC x.a U7 um7 uc7 A7 m7 c7)) rfl (by kernel_rfl) (by kernel_rfl) (by kernel_rfl) (fun _ _ _ h => nomatch h.1) (yieldsIf_blk (by rfl) 27 (.tmp 7) rfl g7 rfl (tkC x.a U7 um7 uc7 A7 m7 c7) 27 _ (fun _ h => h.k7) Tryz.underlying27 rfl (tk_inf _ _ _ _ _ _ _)) J ?_
            try simp only [Act.put, List.getElem_toArray, List.getElem_cons_zero, List.getElem_cons_succ, List.setIfInBounds_toArray, List.set_cons_zero, List.set_cons_succ]
            refine wpAnyH_ready (rs := [1]) (by kernel_rfl) (by simp) ?_
            refine AllReadyH.cons rfl (fun K hK => ?_) AllReadyH.nil
            try simp only [Act.put, List.getElem_toArray, List.getElem_cons_zero, List.getElem_cons_succ, List.setIfInBounds_toArray, List.set_cons_zero, List.set_cons_succ]
            go_simp
            refine (CL.out _ J).mono ?_
            rintro e V2 ⟨G1, gm1, gc1, rfl, z1, bb⟩
            go_wp2_with fail
            have J := J.step bb
            clear bb
            refine hK.out _ _ J (fun _ => ?_)
            clear hK K
            try simp only [Act.put, List.getElem_toArray, List.getElem_cons_zero, List.getElem_cons_succ, List.setIfInBounds_toArray, List.set_cons_zero, List.set_cons_succ]
            refine wpAnyH_ready (rs := [3]) (by kernel_rfl) (by simp) ?_
            refine AllReadyH.cons rfl (fun K hK => ?_) AllReadyH.nil
            try simp only [Act.put, List.getElem_toArray, List.getElem_cons_zero, List.getElem_cons_succ, List.setIfInBounds_toArray, List.set_cons_zero, List.set_cons_succ]
            go_simp
            refine (CM.out _ J).mono ?_
            rintro e V2 ⟨G2, gm2, gc2, rfl, z2, bb⟩
            go_wp2_with fail
            have J := J.step bb
            have HS := Lib.hid (sm9 (z1.below bb (Nat.le_refl _)) z2 (by have := HLL.out; omega))
            clear z1 z2 bb
            refine hK.out _ _ J (fun _ => ?_)
            clear hK K
            try simp only [Act.put, List.getElem_toArray, List.getElem_cons_zero, List.getElem_cons_succ, List.setIfInBounds_toArray, List.set_cons_zero, List.set_cons_succ]
            refine wpAnyH_ready (rs := [4]) (by kernel_rfl) (by simp) ?_
            refine AllReadyH.cons rfl (fun K hK => ?_) AllReadyH.nil
            try simp only [Act.put, List.getElem_toArray, List.getElem_cons_zero, List.getElem_cons_succ, List.setIfInBounds_toArray, List.set_cons_zero, List.set_cons_succ]
            go_simp
            refine (HS.out).mono ?_
            rintro e V2 ⟨rfl, bb⟩
            have J := J.step bb
            clear HS
            refine hK.out _ _ J (fun _ => ?_)
            clear hK K
            try simp only [Act.put, List.getElem_toArray, List.getElem_cons_zero, List.getElem_cons_succ, List.setIfInBounds_toArray, List.set_cons_zero, List.set_cons_succ]
            refine wpAnyH_take (i := 5) (v := .bool false) rfl (by kernel_rfl) (by kernel_rfl) (by kernel_rfl) (fun _ _ _ h => nomatch h.1) (.inl ⟨by rfl, fun V hV => by go_simp⟩) J ?_
            try simp only [Act.put, List.getElem_toArray, List.getElem_cons_zero, List.getElem_cons_succ, List.setIfInBounds_toArray, List.set_cons_zero, List.set_cons_succ]
            refine wpAnyH_done (by kernel_rfl) ?_ _
            refine ⟨rfl, ?_⟩
            clear CL CM HLL
            have HJ := Lib.hid J
            clear J
            go_wp2_with fail
            go_loopw [78] (fun iv wr' => ∃ (j : Nat) (wq : World), wq = wr' ∧ j ≤ m0 ∧ iv = .int .i64 j ∧ Hid (TS w x y g6 g7 g8 U7 um7 uc7 A7 m7 c7 L7 U8 um8 uc8 A8 m8 c8 L8 wq)) (fun iv _ => m0 - (intOf iv).toNat)
            case atStart => exact ⟨0, _, rfl, Nat.zero_le _, rfl, HJ⟩
            case round =>
              clear HJ
              obtain ⟨j, wq, hwq, hj, rfl, HJ⟩ := hrel
              subst hwq
              have J := HJ.out
              clear HJ
              by_cases hjt : j < m0
              · have hjt' : (j : Int) < (m0 : Int) := by omega
                have hjl : j < os.length := by have := HM0.out; omega
                obtain ⟨b1, off1, rfl, hb1, hc1⟩ := hA0.below J.b (Nat.le_refl _) j hjl
                generalize os.getD j 0 = id at hc1
                have HJT := Lib.hid hjt
                clear hjl hjt
                cases h20 : ((j : Int) == 20)
                · obtain ⟨pf, hpf⟩ : ∃ p, ofR L7 id = p := ⟨_, rfl⟩
                  obtain ⟨qf, hqf⟩ : ∃ q, (pf != 0) = q := ⟨_, rfl⟩
                  have CO := Lib.hid (fun (V : World) (hV : TS w x y g6 g7 g8 U7 um7 uc7 A7 m7 c7 L7 U8 um8 uc8 A8 m8 c8 L8 V) => (show Calls Tryz.prog 19 #[.agg (tkC x.a U7 um7 uc7 A7 m7 c7), .int .i64 id] V fun e w' => e = .returned (.tuple #[.int .i64 pf, .bool qf]) ∧ Below V.heap.size V w' from by
                    have := of_any x.a U7 um7 uc7 A7 m7 c7 L7 id V hV.t7.p hV.t7.pl (by have := hV.t7.p6; omega)
                    rw [of_eq HPOS.out, hpf, hqf] at this
                    exact this))
                  have CF := Lib.hid (fun (V : World) (hV : TS w x y g6 g7 g8 U7 um7 uc7 A7 m7 c7 L7 U8 um8 uc8 A8 m8 c8 L8 V) => (show Calls Tryz.prog 20 #[.agg (tkC x.a U7 um7 uc7 A7 m7 c7), .int .i64 id] V fun e w' => e = .returned (.int .i64 pf) ∧ Below V.heap.size V w' from by
                    have := of_rf x.a U7 um7 uc7 A7 m7 c7 L7 id V hV.t7.p hV.t7.pl (by have := hV.t7.p6; omega)
                    rw [hpf] at this
                    exact this))
                  have HQF := Lib.hid hqf
                  obtain ⟨f, hf⟩ : ∃ f, fndF 0 L7 id = f := ⟨_, rfl⟩
                  have CN := Lib.hid (fun (V : World) (hV : TS w x y g6 g7 g8 U7 um7 uc7 A7 m7 c7 L7 U8 um8 uc8 A8 m8 c8 L8 V) => (show Calls Tryz.prog 21 #[.agg (tkC x.a U7 um7 uc7 A7 m7 c7), .int .i64 id] V fun e w' => e = .returned (.int .i64 f) ∧ Below V.heap.size V w' from by
                    have := find_rf x.a U7 um7 uc7 A7 m7 c7 L7 id V hV.t7.p hV.t7.pl (by have := hV.t7.p6; omega)
                    rw [hf] at this
                    exact this))
                  have CT := Lib.hid (fun (V : World) (hV : TS w x y g6 g7 g8 U7 um7 uc7 A7 m7 c7 L7 U8 um8 uc8 A8 m8 c8 L8 V) => (show Calls Tryz.prog 22 #[.agg (tkC x.a U7 um7 uc7 A7 m7 c7), .int .i64 id] V fun e w' => ∃ G gm gc, e = .returned (.slice G gm gc) ∧ Zo w' V.heap.size G gm gc (thrOf L7 id) ∧ Below V.heap.size V w' from threadsOf_any x.a U7 um7 uc7 A7 m7 c7 L7 id V hV.t7.p hV.t7.pl (by have := hV.t7.p6; omega)))
                  have CC := Lib.hid (fun (V : World) (hV : TS w x y g6 g7 g8 U7 um7 uc7 A7 m7 c7 L7 U8 um8 uc8 A8 m8 c8 L8 V) => (show Calls Tryz.prog 23 #[.agg (tkC x.a U7 um7 uc7 A7 m7 c7), .int .i64 id] V fun e w' => ∃ G gm gc, e = .returned (.slice G gm gc) ∧ Zo w' V.heap.size G gm gc (kidF L7 id) ∧ Below V.heap.size V w' from by
                    have := children_any x.a U7 um7 uc7 A7 m7 c7 L7 id V hV.t7.p hV.t7.pl (by have := hV.t7.p6; omega)
                    rw [kid_eq HPU.out] at this
                    exact this))
                  have CD := Lib.hid (fun (V : World) (hV : TS w x y g6 g7 g8 U7 um7 uc7 A7 m7 c7 L7 U8 um8 uc8 A8 m8 c8 L8 V) => (show Calls Tryz.prog 24 #[.agg (tkC x.a U7 um7 uc7 A7 m7 c7), .int .i64 id] V fun e w' => ∃ G gm gc, e = .returned (.slice G gm gc) ∧ Zo w' V.heap.size G gm gc (kidF L7 id) ∧ Below V.heap.size V w' from children_rf x.a U7 um7 uc7 A7 m7 c7 L7 id V hV.t7.p hV.t7.pl (by have := hV.t7.p6; omega)))
                  have hfo := thr_fnd id L7 0
                  rw [hf] at hfo
                  have HFO := Lib.hid hfo
                  clear hpf hqf hf hfo
                  rcases HFO.out with ⟨hfm, hth⟩ | ⟨jf, hjf, hfj, hth⟩
                  · subst hfm
                    have HTA := Lib.hid (fun (V : World) (hV : TS w x y g6 g7 g8 U7 um7 uc7 A7 m7 c7 L7 U8 um8 uc8 A8 m8 c8 L8 V) => (show Ri7 V V.heap.size none (thrOf L7 id) ∧ 0 = (thrOf L7 id).length from by rw [hth]; exact ⟨fun k hk => absurd hk (by simp), rfl⟩))
                    clear hth HFO
                    go_wp2_with (first
                      | (refine wpList_load_row rfl 27 (.tmp 7) rfl g7 rfl 27 (tkC x.a U7 um7 uc7 A7 m7 c7) (0, 0) _ J.k7.blk Tryz.underlying27 rfl (tk_inf _ _ _ _ _ _ _) ?_)
                      | (refine (CO.out _ J).mono ?_
                         clear CO
                         rintro e v1 ⟨rfl, bb⟩
                         have J := J.step bb
                         clear bb)
                      | (refine (CF.out _ J).mono ?_
                         clear CF
                         rintro e v2 ⟨rfl, bb⟩
                         have J := J.step bb
                         clear bb)
                      | (refine (CN.out _ J).mono ?_
                         clear CN
                         rintro e v3 ⟨rfl, bb⟩
                         have J := J.step bb
                         clear bb)
                      | (refine (CT.out _ J).mono ?_
                         have HJ17 := Lib.hid J
                         rintro e v4 ⟨GW, gmw, gcw, rfl, zw, bb⟩
                         clear CT
                         have J := J.step bb
                         obtain ⟨w17, hw17⟩ : ∃ w17, w17 = v3 := ⟨_, rfl⟩
                         rw [← hw17] at HJ17 zw bb
                         clear hw17))
                    have J : TG w x y g6 g7 g8 U7 um7 uc7 A7 m7 c7 L7 U8 um8 uc8 A8 m8 c8 L8 w17 GW gmw gcw (thrOf L7 id) v4.drew := ⟨J.step (Below.refl _ _).drew, zw.below (Below.refl _ _).drew (Nat.le_refl _), bb.drew⟩
                    have HZ17 := Lib.hid zw.len
                    have CW := Lib.hid (fun (V : World) (hV : TG w x y g6 g7 g8 U7 um7 uc7 A7 m7 c7 L7 U8 um8 uc8 A8 m8 c8 L8 w17 GW gmw gcw (thrOf L7 id) V) => (show Calls Tryz.prog 16 #[.slice GW gmw gcw, .slice  none 0 0] V fun e w' => e = .returned (.bool true) ∧ Below V.heap.size V w' from by
                      have h9 := HTA.out V hV.t
                      have := lsame_tk GW gmw gcw (thrOf L7 id)  none 0 0 (thrOf L7 id) V hV.z.ri hV.z.len (by have := hV.z.len; have := h9.2; have := hV.t.t7.n; have := thr_len L7 id; omega) h9.1 h9.2
                      rw [beq_self_eq_true] at this
                      exact this))
                    clear zw bb
                    refine region_cutP ?_
                    refine wp_region_held_drew (S := TG w x y g6 g7 g8 U7 um7 uc7 A7 m7 c7 L7 U8 um8 uc8 A8 m8 c8 L8 w17 GW gmw gcw (thrOf L7 id)) (by kernel_rfl) J (fun _ => ?_)
                    refine wpAnyH_take (i := 0) (v := .int .i64 pf) rfl (by kernel_rfl) (by kernel_rfl) (by kernel_rfl) (fun _ _ _ h => nomatch h.1) (.inl ⟨by rfl, fun V hV => by go_simp⟩) J ?_
                    try simp only [Act.put, List.getElem_toArray, List.getElem_cons_zero, List.getElem_cons_succ, List.setIfInBounds_toArray, List.set_cons_zero, List.set_cons_succ]
                    refine wpAnyH_take (i := 1) (v := .int .i64 pf) rfl (by kernel_rfl) (by kernel_rfl) (by kernel_rfl) (fun _ _ _ h => nomatch h.1) (.inl ⟨by rfl, fun V hV => by go_simp⟩) J ?_
                    try simp only [Act.put, List.getElem_toArray, List.getElem_cons_zero, List.getElem_cons_succ, List.setIfInBounds_toArray, List.set_cons_zero, List.set_cons_succ]
                    refine wpAnyH_take (i := 2) (v := .bool false) rfl (by kernel_rfl) (by kernel_rfl) (by kernel_rfl) (fun _ _ _ h => nomatch h.1) (.inl ⟨by rfl, fun V hV => by go_simp⟩) J ?_
                    try simp only [Act.put, List.getElem_toArray, List.getElem_cons_zero, List.getElem_cons_succ, List.setIfInBounds_toArray, List.set_cons_zero, List.set_cons_succ]
                    refine wpAnyH_take (i := 3) (v := .bool false) rfl (by kernel_rfl) (by kernel_rfl) (by kernel_rfl) (fun _ _ _ h => nomatch h.1) (.inl ⟨by rfl, fun V hV => by go_simp⟩) J ?_
                    try simp only [Act.put, List.getElem_toArray, List.getElem_cons_zero, List.getElem_cons_succ, List.setIfInBounds_toArray, List.set_cons_zero, List.set_cons_succ]
                    refine wpAnyH_take (i := 4) (v := .bool qf) rfl (by kernel_rfl) (by kernel_rfl) (by kernel_rfl) (fun _ _ _ h => nomatch h.1) (.inl ⟨by rfl, fun V hV => by go_simp⟩) J ?_
                    try simp only [Act.put, List.getElem_toArray, List.getElem_cons_zero, List.getElem_cons_succ, List.setIfInBounds_toArray, List.set_cons_zero, List.set_cons_succ]
                    refine wpAnyH_take (i := 5) (v := .int .i64 pf) rfl (by kernel_rfl) (by kernel_rfl) (by kernel_rfl) (fun _ _ _ h => nomatch h.1) (.inl ⟨by rfl, fun V hV => by go_simp⟩) J ?_
                    try simp only [Act.put, List.getElem_toArray, List.getElem_cons_zero, List.getElem_cons_succ, List.setIfInBounds_toArray, List.set_cons_zero, List.set_cons_succ]
                    refine wpAnyH_take (i := 6) (v := .bool qf) rfl (by kernel_rfl) (by kernel_rfl) (by kernel_rfl) (fun _ _ _ h => nomatch h.1) (.inl ⟨by rfl, fun V hV => by have hq := HQF.out; go_simp⟩) J ?_
                    try simp only [Act.put, List.getElem_toArray, List.getElem_cons_zero, List.getElem_cons_succ, List.setIfInBounds_toArray, List.set_cons_zero, List.set_cons_succ]
                    refine wpAnyH_take (i := 7) (v := .bool false) rfl (by kernel_rfl) (by kernel_rfl) (by kernel_rfl) (fun _ _ _ h => nomatch h.1) (by cases qf <;> exact .inl ⟨by rfl, fun V hV => by go_simp⟩) J ?_
                    try simp only [Act.put, List.getElem_toArray, List.getElem_cons_zero, List.getElem_cons_succ, List.setIfInBounds_toArray, List.set_cons_zero, List.set_cons_succ]
                    refine wpAnyH_take (i := 8) (v := .bool false) rfl (by kernel_rfl) (by kernel_rfl) (by kernel_rfl) (fun _ _ _ h => nomatch h.1) (.inl ⟨by rfl, fun V hV => by go_simp⟩) J ?_
                    try simp only [Act.put, List.getElem_toArray, List.getElem_cons_zero, List.getElem_cons_succ, List.setIfInBounds_toArray, List.set_cons_zero, List.set_cons_succ]
                    refine wpAnyH_take (i := 9) (v := .bool false) rfl (by kernel_rfl) (by kernel_rfl) (by kernel_rfl) (fun _ _ _ h => nomatch h.1) (.inl ⟨by rfl, fun V hV => by go_simp⟩) J ?_
                    try simp only [Act.put, List.getElem_toArray, List.getElem_cons_zero, List.getElem_cons_succ, List.setIfInBounds_toArray, List.set_cons_zero, List.set_cons_succ]
                    refine wpAnyH_take (i := 10) (v := .slice GW gmw gcw) rfl (by kernel_rfl) (by kernel_rfl) (by kernel_rfl) (fun _ _ _ h => nomatch h.1) (.inl ⟨by rfl, fun V hV => by go_simp⟩) J ?_
                    try simp only [Act.put, List.getElem_toArray, List.getElem_cons_zero, List.getElem_cons_succ, List.setIfInBounds_toArray, List.set_cons_zero, List.set_cons_succ]
                    refine wpAnyH_take (i := 11) (v := .slice none 0 0) rfl (by kernel_rfl) (by kernel_rfl) (by kernel_rfl) (fun _ _ _ h => nomatch h.1) (.inl ⟨by rfl, fun V hV => by go_simp⟩) J ?_
                    try simp only [Act.put, List.getElem_toArray, List.getElem_cons_zero, List.getElem_cons_succ, List.setIfInBounds_toArray, List.set_cons_zero, List.set_cons_succ]
                    refine wpAnyH_ready (rs := [12]) (by kernel_rfl) (by simp) ?_
                    refine AllReadyH.cons rfl (fun K hK => ?_) AllReadyH.nil
                    try simp only [Act.put, List.getElem_toArray, List.getElem_cons_zero, List.getElem_cons_succ, List.setIfInBounds_toArray, List.set_cons_zero, List.set_cons_succ]
                    go_simp
                    refine (CW.out _ J).mono ?_
                    rintro e V2 ⟨rfl, bb⟩
                    have J := J.step bb
                    refine hK.out _ _ J (fun _ => ?_)
                    clear hK K
                    try simp only [Act.put, List.getElem_toArray, List.getElem_cons_zero, List.getElem_cons_succ, List.setIfInBounds_toArray, List.set_cons_zero, List.set_cons_succ]
                    refine wpAnyH_take (i := 13) (v := .bool false) rfl (by kernel_rfl) (by kernel_rfl) (by kernel_rfl) (fun _ _ _ h => nomatch h.1) (.inl ⟨by rfl, fun V hV => by go_simp⟩) J ?_
                    try simp only [Act.put, List.getElem_toArray, List.getElem_cons_zero, List.getElem_cons_succ, List.setIfInBounds_toArray, List.set_cons_zero, List.set_cons_succ]
                    refine wpAnyH_take (i := 14) (v := .bool false) rfl (by kernel_rfl) (by kernel_rfl) (by kernel_rfl) (fun _ _ _ h => nomatch h.1) (.inl ⟨by rfl, fun V hV => by go_simp⟩) J ?_
                    try simp only [Act.put, List.getElem_toArray, List.getElem_cons_zero, List.getElem_cons_succ, List.setIfInBounds_toArray, List.set_cons_zero, List.set_cons_succ]
                    refine wpAnyH_take (i := 15) (v := .bool false) rfl (by kernel_rfl) (by kernel_rfl) (by kernel_rfl) (fun _ _ _ h => nomatch h.1) (.inl ⟨by rfl, fun V hV => by go_simp⟩) J ?_
                    try simp only [Act.put, List.getElem_toArray, List.getElem_cons_zero, List.getElem_cons_succ, List.setIfInBounds_toArray, List.set_cons_zero, List.set_cons_succ]
                    refine wpAnyH_take (i := 16) (v := .agg (tkC x.a U7 um7 uc7 A7 m7 c7)) rfl (by kernel_rfl) (by kernel_rfl) (by kernel_rfl) (fun _ _ _ h => nomatch h.1) (yieldsIf_blk (by rfl) 27 (.tmp 7) rfl g7 rfl (tkC x.a U7 um7 uc7 A7 m7 c7) 27 _ (fun _ h => h.t.k7) Tryz.underlying27 rfl (tk_inf _ _ _ _ _ _ _)) J ?_
                    try simp only [Act.put, List.getElem_toArray, List.getElem_cons_zero, List.getElem_cons_succ, List.setIfInBounds_toArray, List.set_cons_zero, List.set_cons_succ]
                    refine wpAnyH_take (i := 17) (v := .int .i64 id) rfl (by kernel_rfl) (by kernel_rfl) (by kernel_rfl) (fun _ _ _ h => nomatch h.1) (.inl ⟨by rfl, fun V hV => by go_simp⟩) J ?_
                    try simp only [Act.put, List.getElem_toArray, List.getElem_cons_zero, List.getElem_cons_succ, List.setIfInBounds_toArray, List.set_cons_zero, List.set_cons_succ]
                    refine wpAnyH_take (i := 19) (v := .agg (tkC x.a U7 um7 uc7 A7 m7 c7)) rfl (by kernel_rfl) (by kernel_rfl) (by kernel_rfl) (fun _ _ _ h => nomatch h.1) (yieldsIf_blk (by rfl) 27 (.tmp 7) rfl g7 rfl (tkC x.a U7 um7 uc7 A7 m7 c7) 27 _ (fun _ h => h.t.k7) Tryz.underlying27 rfl (tk_inf _ _ _ _ _ _ _)) J ?_
                    try simp only [Act.put, List.getElem_toArray, List.getElem_cons_zero, List.getElem_cons_succ, List.setIfInBounds_toArray, List.set_cons_zero, List.set_cons_succ]
                    refine wpAnyH_take (i := 20) (v := .int .i64 id) rfl (by kernel_rfl) (by kernel_rfl) (by kernel_rfl) (fun _ _ _ h => nomatch h.1) (.inl ⟨by rfl, fun V hV => by go_simp⟩) J ?_
                    try simp only [Act.put, List.getElem_toArray, List.getElem_cons_zero, List.getElem_cons_succ, List.setIfInBounds_toArray, List.set_cons_zero, List.set_cons_succ]
                    refine wpAnyH_ready (rs := [18]) (by kernel_rfl) (by simp) ?_
                    refine AllReadyH.cons rfl (fun K hK => ?_) AllReadyH.nil
                    try simp only [Act.put, List.getElem_toArray, List.getElem_cons_zero, List.getElem_cons_succ, List.setIfInBounds_toArray, List.set_cons_zero, List.set_cons_succ]
                    go_simp
                    refine (CC.out _ J.t).mono ?_
                    rintro e V2 ⟨G1, gm1, gc1, rfl, z1, bb⟩
                    go_wp2_with fail
                    have J := J.step bb
                    clear bb
                    refine hK.out _ _ J (fun _ => ?_)
                    clear hK K
                    try simp only [Act.put, List.getElem_toArray, List.getElem_cons_zero, List.getElem_cons_succ, List.setIfInBounds_toArray, List.set_cons_zero, List.set_cons_succ]
                    refine wpAnyH_ready (rs := [21]) (by kernel_rfl) (by simp) ?_
                    refine AllReadyH.cons rfl (fun K hK => ?_) AllReadyH.nil
                    try simp only [Act.put, List.getElem_toArray, List.getElem_cons_zero, List.getElem_cons_succ, List.setIfInBounds_toArray, List.set_cons_zero, List.set_cons_succ]
                    go_simp
                    refine (CD.out _ J.t).mono ?_
                    rintro e V2 ⟨G2, gm2, gc2, rfl, z2, bb⟩
                    go_wp2_with fail
                    have J := J.step bb
                    have HS := Lib.hid (sm9 (z1.below bb (Nat.le_refl _)) z2 (by have := kidF_len L7 id; have := J.t.t7.p6; have := J.t.t7.pl; omega))
                    clear z1 z2 bb
                    refine hK.out _ _ J (fun _ => ?_)
                    clear hK K
                    try simp only [Act.put, List.getElem_toArray, List.getElem_cons_zero, List.getElem_cons_succ, List.setIfInBounds_toArray, List.set_cons_zero, List.set_cons_succ]
                    refine wpAnyH_ready (rs := [22]) (by kernel_rfl) (by simp) ?_
                    refine AllReadyH.cons rfl (fun K hK => ?_) AllReadyH.nil
                    try simp only [Act.put, List.getElem_toArray, List.getElem_cons_zero, List.getElem_cons_succ, List.setIfInBounds_toArray, List.set_cons_zero, List.set_cons_succ]
                    go_simp
                    refine (HS.out).mono ?_
                    rintro e V2 ⟨rfl, bb⟩
                    have J := J.step bb
                    clear HS
                    refine hK.out _ _ J (fun _ => ?_)
                    clear hK K
                    try simp only [Act.put, List.getElem_toArray, List.getElem_cons_zero, List.getElem_cons_succ, List.setIfInBounds_toArray, List.set_cons_zero, List.set_cons_succ]
                    refine wpAnyH_take (i := 23) (v := .bool false) rfl (by kernel_rfl) (by kernel_rfl) (by kernel_rfl) (fun _ _ _ h => nomatch h.1) (.inl ⟨by rfl, fun V hV => by go_simp⟩) J ?_
                    try simp only [Act.put, List.getElem_toArray, List.getElem_cons_zero, List.getElem_cons_succ, List.setIfInBounds_toArray, List.set_cons_zero, List.set_cons_succ]
                    refine wpAnyH_take (i := 24) (v := .bool false) rfl (by kernel_rfl) (by kernel_rfl) (by kernel_rfl) (fun _ _ _ h => nomatch h.1) (.inl ⟨by rfl, fun V hV => by go_simp⟩) J ?_
                    try simp only [Act.put, List.getElem_toArray, List.getElem_cons_zero, List.getElem_cons_succ, List.setIfInBounds_toArray, List.set_cons_zero, List.set_cons_succ]
                    refine wpAnyH_done (by kernel_rfl) ?_ _
                    refine ⟨rfl, ?_⟩
                    have HFM := Lib.hid (show gmw = 0 ∨ ∃ g cur, GW = some ⟨g, 0, none⟩ ∧ w17.heap.size ≤ g ∧ Blk V2 g cur 3 ∧ gmw ≤ cur.size from by
                      rcases J.z.form with ⟨_, h1, _⟩ | ⟨g, h1, h2, _, cur, h3, h4, _, h5, _⟩
                      · exact .inl h1
                      · exact .inr ⟨g, cur, h1, h2, ⟨h3⟩, by omega⟩)
                    have hgm6 : gmw ≤ 1000000 := by have h1 := HZ17.out; have := J.t.t7.n; have := thr_len L7 id; omega
                    have HB2 := Lib.hid J.b
                    clear J CW CC CD HZ17 HTA
                    go_wp2_with fail
                    go_loopw [135] (fun iv wr' => ∃ (u : Nat) (wz : World), wz = wr' ∧ u ≤ gmw ∧ iv = .int .i64 u ∧ Hid (Below w17.heap.size w17 wz) ∧ Hid (gmw = 0 ∨ ∃ g cur, GW = some ⟨g, 0, none⟩ ∧ w17.heap.size ≤ g ∧ Blk wz g cur 3 ∧ gmw ≤ cur.size)) (fun iv _ => gmw - (intOf iv).toNat)
                    case atStart => exact ⟨0, _, rfl, Nat.zero_le _, rfl, HB2, HFM⟩
                    case round =>
                      clear HB2 HFM
                      obtain ⟨u, wz, hwz, hu, rfl, HB2, HFM⟩ := hrel
                      subst hwz
                      by_cases hun : u < gmw
                      · have hun' : (u : Int) < (gmw : Int) := by omega
                        obtain ⟨g, cur, hGW, hg17, kz, hcs⟩ : ∃ g cur, GW = some ⟨g, 0, none⟩ ∧ w17.heap.size ≤ g ∧ Blk wz g cur 3 ∧ gmw ≤ cur.size := by
                          rcases HFM.out with h | h
                          · omega
                          · exact h
                        subst hGW
                        clear HFM
                        have HKZ := Lib.hid (And.intro kz (show u < cur.size by omega))
                        have HCS := Lib.hid hcs
                        clear kz hcs
                        go_wp2_with (first
                          | (refine wpList_stf rfl 3 (.tmp 140) (.const (.int .i64 99)) rfl g u cur 3 (.int .i64 99) rfl rfl HKZ.out.1 HKZ.out.2 (by kernel_rfl) rfl rfl ?_
                             intro w9 k9 n9
                             have HB3 := Lib.hid (HB2.out.trans (n9.below _ hg17 HB2.out.size))
                             have HF3 := Lib.hid (show gmw = 0 ∨ ∃ g' cur', (some ⟨g, 0, none⟩ : Option Addr) = some ⟨g', 0, none⟩ ∧ w17.heap.size ≤ g' ∧ Blk w9 g' cur' 3 ∧ gmw ≤ cur'.size from .inr ⟨g, _, rfl, hg17, k9, by rw [Array.size_setIfInBounds]; exact HCS.out⟩)
                             clear n9 k9 HKZ))
                        go_roundw
                        case rel => exact ⟨u + 1, _, rfl, by omega, by go_num, HB3, HF3⟩
                        case measure => simp [intOf]; omega
                      · obtain rfl : gmw = u := by omega
                        have J := HJ17.out.step HB2.out
                        clear HFM HB2
                        go_wp2_with fail
                        have J := J.step (Below.refl _ _).drew
                        refine region_cutP ?_
                        refine wp_region_held_drew (S := TS w x y g6 g7 g8 U7 um7 uc7 A7 m7 c7 L7 U8 um8 uc8 A8 m8 c8 L8) (by kernel_rfl) J (fun _ => ?_)
                        refine wpAnyH_take (i := 0) (v := .agg (tkC x.a U7 um7 uc7 A7 m7 c7)) rfl (by kernel_rfl) (by kernel_rfl) (by kernel_rfl) (fun _ _ _ h => nomatch h.1) (yieldsIf_blk (by rfl) 27 (.tmp 7) rfl g7 rfl (tkC x.a U7 um7 uc7 A7 m7 c7) 27 _ (fun _ h => h.k7) Tryz.underlying27 rfl (tk_inf _ _ _ _ _ _ _)) J ?_
                        try simp only [Act.put, List.getElem_toArray, List.getElem_cons_zero, List.getElem_cons_succ, List.setIfInBounds_toArray, List.set_cons_zero, List.set_cons_succ]
                        refine wpAnyH_take (i := 1) (v := .agg (txC x)) rfl (by kernel_rfl) (by kernel_rfl) (by kernel_rfl) (fun _ _ _ h => nomatch h.1) (yieldsIf_blk (by rfl) 27 (.tmp 6) rfl g6 rfl (txC x) 27 _ (fun _ h => h.k6) Tryz.underlying27 rfl (tk_inf _ _ _ _ _ _ _)) J ?_
                        try simp only [Act.put, List.getElem_toArray, List.getElem_cons_zero, List.getElem_cons_succ, List.setIfInBounds_toArray, List.set_cons_zero, List.set_cons_succ]
                        refine wpAnyH_ready (rs := [2]) (by kernel_rfl) (by simp) ?_
                        refine AllReadyH.cons rfl (fun K hK => ?_) AllReadyH.nil
                        try simp only [Act.put, List.getElem_toArray, List.getElem_cons_zero, List.getElem_cons_succ, List.setIfInBounds_toArray, List.set_cons_zero, List.set_cons_succ]
                        go_simp
                        refine (CS.out _ J).mono ?_
                        rintro e V2 ⟨U9, um9, uc9, A9, m9, c9, L9, rfl, o9, hn9, bb⟩
                        go_wp2_with fail
                        have J := J.step bb
                        have HS9 := Lib.hid (cr9 J o9 hn9 HN7.out)
                        clear o9 hn9 bb
                        refine hK.out _ _ J (fun _ => ?_)
                        clear hK K
                        try simp only [Act.put, List.getElem_toArray, List.getElem_cons_zero, List.getElem_cons_succ, List.setIfInBounds_toArray, List.set_cons_zero, List.set_cons_succ]
                        refine wpAnyH_ready (rs := [3]) (by kernel_rfl) (by simp) ?_
                        refine AllReadyH.cons rfl (fun K hK => ?_) AllReadyH.nil
                        try simp only [Act.put, List.getElem_toArray, List.getElem_cons_zero, List.getElem_cons_succ, List.setIfInBounds_toArray, List.set_cons_zero, List.set_cons_succ]
                        go_simp
                        refine (HS9.out).mono ?_
                        rintro e V2 ⟨rfl, bb⟩
                        have J := J.step bb
                        clear HS9
                        refine hK.out _ _ J (fun _ => ?_)
                        clear hK K
                        try simp only [Act.put, List.getElem_toArray, List.getElem_cons_zero, List.getElem_cons_succ, List.setIfInBounds_toArray, List.set_cons_zero, List.set_cons_succ]
                        refine wpAnyH_take (i := 4) (v := .bool false) rfl (by kernel_rfl) (by kernel_rfl) (by kernel_rfl) (fun _ _ _ h => nomatch h.1) (.inl ⟨by rfl, fun V hV => by go_simp⟩) J ?_
                        try simp only [Act.put, List.getElem_toArray, List.getElem_cons_zero, List.getElem_cons_succ, List.setIfInBounds_toArray, List.set_cons_zero, List.set_cons_succ]
                        refine wpAnyH_done (by kernel_rfl) ?_ _
                        refine ⟨rfl, ?_⟩
                        have HJ := Lib.hid J
                        clear J
                        go_wp2_with fail
                        go_roundw
                        case rel => exact ⟨j + 1, _, rfl, by have := HJT.out; omega, by go_num, HJ⟩
                        case measure => have := HJT.out; simp [intOf]; omega
                  · rw [Nat.zero_add] at hfj
                    have HTA := Lib.hid (fun (V : World) (hV : TS w x y g6 g7 g8 U7 um7 uc7 A7 m7 c7 L7 U8 um8 uc8 A8 m8 c8 L8 V) => (show Ri7 V V.heap.size (L7.getD jf pw0).2.1 (thrOf L7 id) ∧ (L7.getD jf pw0).1.t.length = (thrOf L7 id).length from by rw [hth]; exact ⟨(hV.t7.p.at' hjf).ri, rfl⟩))
                    have HRW := Lib.hid (fun (V : World) (hV : TS w x y g6 g7 g8 U7 um7 uc7 A7 m7 c7 L7 U8 um8 uc8 A8 m8 c8 L8 V) => hV.t7.p.at_ jf hjf)
                    have HJM := Lib.hid (show jf < L7.length from hjf)
                    generalize L7.getD jf pw0 = yf at HTA HRW
                    subst hfj
                    clear hth HFO hjf
                    obtain ⟨b7, o7, hA7, _, _⟩ := HRW.out _ J
                    subst hA7
                    have HRX := Lib.hid (fun (V : World) (hV : TS w x y g6 g7 g8 U7 um7 uc7 (some ⟨b7, o7, none⟩) m7 c7 L7 U8 um8 uc8 A8 m8 c8 L8 V) => (show V.cell? ⟨b7, o7 + jf * 3 + 2, none⟩ = some (.slice yf.2.1 yf.1.t.length yf.2.2) by
                      obtain ⟨b', off', e, _, h2⟩ := HRW.out V hV
                      cases e
                      exact h2 2 _ rfl))
                    have hjm7 : (jf : Int) < (m7 : Int) := by have := HJM.out; have := J.t7.pl; omega
                    have hj0 : decide ((jf : Int) ≥ 0) = true := by simp
                    clear HRW
                    obtain ⟨TA, hTA⟩ : ∃ T, T = yf.2.1 := ⟨_, rfl⟩
                    obtain ⟨tn, htn⟩ : ∃ T, T = yf.1.t.length := ⟨_, rfl⟩
                    obtain ⟨tc, htc⟩ : ∃ T, T = yf.2.2 := ⟨_, rfl⟩
                    rw [← hTA, ← htn, ← htc] at HRX
                    rw [← hTA, ← htn] at HTA
                    clear hTA htn htc
                    go_wp2_with (first
                      | (refine wpList_load_row rfl 27 (.tmp 7) rfl g7 rfl 27 (tkC x.a U7 um7 uc7 (some ⟨b7, o7, none⟩) m7 c7) (0, 0) _ J.k7.blk Tryz.underlying27 rfl (tk_inf _ _ _ _ _ _ _) ?_)
                      | (refine (CO.out _ J).mono ?_
                         clear CO
                         rintro e v1 ⟨rfl, bb⟩
                         have J := J.step bb
                         clear bb)
                      | (refine (CF.out _ J).mono ?_
                         clear CF
                         rintro e v2 ⟨rfl, bb⟩
                         have J := J.step bb
                         clear bb)
                      | (refine (CN.out _ J).mono ?_
                         clear CN
                         rintro e v3 ⟨rfl, bb⟩
                         have J := J.step bb
                         have q2 := J.k7.cell 2
                         change _ = some (Value.slice (some ⟨b7, o7, none⟩) m7 c7) at q2
                         have q5 := HRX.out _ J
                         clear bb)
                      | (refine (CT.out _ J).mono ?_
                         have HJ17 := Lib.hid J
                         rintro e v4 ⟨GW, gmw, gcw, rfl, zw, bb⟩
                         clear CT
                         have J := J.step bb
                         obtain ⟨w17, hw17⟩ : ∃ w17, w17 = v3 := ⟨_, rfl⟩
                         rw [← hw17] at HJ17 zw bb
                         clear hw17))
                    have J : TG w x y g6 g7 g8 U7 um7 uc7 (some ⟨b7, o7, none⟩) m7 c7 L7 U8 um8 uc8 A8 m8 c8 L8 w17 GW gmw gcw (thrOf L7 id) v4.drew := ⟨J.step (Below.refl _ _).drew, zw.below (Below.refl _ _).drew (Nat.le_refl _), bb.drew⟩
                    have HZ17 := Lib.hid zw.len
                    have CW := Lib.hid (fun (V : World) (hV : TG w x y g6 g7 g8 U7 um7 uc7 (some ⟨b7, o7, none⟩) m7 c7 L7 U8 um8 uc8 A8 m8 c8 L8 w17 GW gmw gcw (thrOf L7 id) V) => (show Calls Tryz.prog 16 #[.slice GW gmw gcw, .slice TA tn tc] V fun e w' => e = .returned (.bool true) ∧ Below V.heap.size V w' from by
                      have h9 := HTA.out V hV.t
                      have := lsame_tk GW gmw gcw (thrOf L7 id) TA tn tc (thrOf L7 id) V hV.z.ri hV.z.len (by have := hV.z.len; have := h9.2; have := hV.t.t7.n; have := thr_len L7 id; omega) h9.1 h9.2
                      rw [beq_self_eq_true] at this
                      exact this))
                    clear zw bb
                    refine region_cutP ?_
                    refine wp_region_held_drew (S := TG w x y g6 g7 g8 U7 um7 uc7 (some ⟨b7, o7, none⟩) m7 c7 L7 U8 um8 uc8 A8 m8 c8 L8 w17 GW gmw gcw (thrOf L7 id)) (by kernel_rfl) J (fun _ => ?_)
                    refine wpAnyH_take (i := 0) (v := .int .i64 pf) rfl (by kernel_rfl) (by kernel_rfl) (by kernel_rfl) (fun _ _ _ h => nomatch h.1) (.inl ⟨by rfl, fun V hV => by go_simp⟩) J ?_
                    try simp only [Act.put, List.getElem_toArray, List.getElem_cons_zero, List.getElem_cons_succ, List.setIfInBounds_toArray, List.set_cons_zero, List.set_cons_succ]
                    refine wpAnyH_take (i := 1) (v := .int .i64 pf) rfl (by kernel_rfl) (by kernel_rfl) (by kernel_rfl) (fun _ _ _ h => nomatch h.1) (.inl ⟨by rfl, fun V hV => by go_simp⟩) J ?_
                    try simp only [Act.put, List.getElem_toArray, List.getElem_cons_zero, List.getElem_cons_succ, List.setIfInBounds_toArray, List.set_cons_zero, List.set_cons_succ]
                    refine wpAnyH_take (i := 2) (v := .bool false) rfl (by kernel_rfl) (by kernel_rfl) (by kernel_rfl) (fun _ _ _ h => nomatch h.1) (.inl ⟨by rfl, fun V hV => by go_simp⟩) J ?_
                    try simp only [Act.put, List.getElem_toArray, List.getElem_cons_zero, List.getElem_cons_succ, List.setIfInBounds_toArray, List.set_cons_zero, List.set_cons_succ]
                    refine wpAnyH_take (i := 3) (v := .bool false) rfl (by kernel_rfl) (by kernel_rfl) (by kernel_rfl) (fun _ _ _ h => nomatch h.1) (.inl ⟨by rfl, fun V hV => by go_simp⟩) J ?_
                    try simp only [Act.put, List.getElem_toArray, List.getElem_cons_zero, List.getElem_cons_succ, List.setIfInBounds_toArray, List.set_cons_zero, List.set_cons_succ]
                    refine wpAnyH_take (i := 4) (v := .bool qf) rfl (by kernel_rfl) (by kernel_rfl) (by kernel_rfl) (fun _ _ _ h => nomatch h.1) (.inl ⟨by rfl, fun V hV => by go_simp⟩) J ?_
                    try simp only [Act.put, List.getElem_toArray, List.getElem_cons_zero, List.getElem_cons_succ, List.setIfInBounds_toArray, List.set_cons_zero, List.set_cons_succ]
                    refine wpAnyH_take (i := 5) (v := .int .i64 pf) rfl (by kernel_rfl) (by kernel_rfl) (by kernel_rfl) (fun _ _ _ h => nomatch h.1) (.inl ⟨by rfl, fun V hV => by go_simp⟩) J ?_
                    try simp only [Act.put, List.getElem_toArray, List.getElem_cons_zero, List.getElem_cons_succ, List.setIfInBounds_toArray, List.set_cons_zero, List.set_cons_succ]
                    refine wpAnyH_take (i := 6) (v := .bool qf) rfl (by kernel_rfl) (by kernel_rfl) (by kernel_rfl) (fun _ _ _ h => nomatch h.1) (.inl ⟨by rfl, fun V hV => by have hq := HQF.out; go_simp⟩) J ?_
                    try simp only [Act.put, List.getElem_toArray, List.getElem_cons_zero, List.getElem_cons_succ, List.setIfInBounds_toArray, List.set_cons_zero, List.set_cons_succ]
                    refine wpAnyH_take (i := 7) (v := .bool false) rfl (by kernel_rfl) (by kernel_rfl) (by kernel_rfl) (fun _ _ _ h => nomatch h.1) (by cases qf <;> exact .inl ⟨by rfl, fun V hV => by go_simp⟩) J ?_
                    try simp only [Act.put, List.getElem_toArray, List.getElem_cons_zero, List.getElem_cons_succ, List.setIfInBounds_toArray, List.set_cons_zero, List.set_cons_succ]
                    refine wpAnyH_take (i := 8) (v := .bool false) rfl (by kernel_rfl) (by kernel_rfl) (by kernel_rfl) (fun _ _ _ h => nomatch h.1) (.inl ⟨by rfl, fun V hV => by go_simp⟩) J ?_
                    try simp only [Act.put, List.getElem_toArray, List.getElem_cons_zero, List.getElem_cons_succ, List.setIfInBounds_toArray, List.set_cons_zero, List.set_cons_succ]
                    refine wpAnyH_take (i := 9) (v := .bool false) rfl (by kernel_rfl) (by kernel_rfl) (by kernel_rfl) (fun _ _ _ h => nomatch h.1) (.inl ⟨by rfl, fun V hV => by go_simp⟩) J ?_
                    try simp only [Act.put, List.getElem_toArray, List.getElem_cons_zero, List.getElem_cons_succ, List.setIfInBounds_toArray, List.set_cons_zero, List.set_cons_succ]
                    refine wpAnyH_take (i := 10) (v := .slice GW gmw gcw) rfl (by kernel_rfl) (by kernel_rfl) (by kernel_rfl) (fun _ _ _ h => nomatch h.1) (.inl ⟨by rfl, fun V hV => by go_simp⟩) J ?_
                    try simp only [Act.put, List.getElem_toArray, List.getElem_cons_zero, List.getElem_cons_succ, List.setIfInBounds_toArray, List.set_cons_zero, List.set_cons_succ]
                    refine wpAnyH_take (i := 11) (v := .slice TA tn tc) rfl (by kernel_rfl) (by kernel_rfl) (by kernel_rfl) (fun _ _ _ h => nomatch h.1) (.inl ⟨by rfl, fun V hV => by go_simp⟩) J ?_
                    try simp only [Act.put, List.getElem_toArray, List.getElem_cons_zero, List.getElem_cons_succ, List.setIfInBounds_toArray, List.set_cons_zero, List.set_cons_succ]
                    refine wpAnyH_ready (rs := [12]) (by kernel_rfl) (by simp) ?_
                    refine AllReadyH.cons rfl (fun K hK => ?_) AllReadyH.nil
                    try simp only [Act.put, List.getElem_toArray, List.getElem_cons_zero, List.getElem_cons_succ, List.setIfInBounds_toArray, List.set_cons_zero, List.set_cons_succ]
                    go_simp
                    refine (CW.out _ J).mono ?_
                    rintro e V2 ⟨rfl, bb⟩
                    have J := J.step bb
                    refine hK.out _ _ J (fun _ => ?_)
                    clear hK K
                    try simp only [Act.put, List.getElem_toArray, List.getElem_cons_zero, List.getElem_cons_succ, List.setIfInBounds_toArray, List.set_cons_zero, List.set_cons_succ]
                    refine wpAnyH_take (i := 13) (v := .bool false) rfl (by kernel_rfl) (by kernel_rfl) (by kernel_rfl) (fun _ _ _ h => nomatch h.1) (.inl ⟨by rfl, fun V hV => by go_simp⟩) J ?_
                    try simp only [Act.put, List.getElem_toArray, List.getElem_cons_zero, List.getElem_cons_succ, List.setIfInBounds_toArray, List.set_cons_zero, List.set_cons_succ]
                    refine wpAnyH_take (i := 14) (v := .bool false) rfl (by kernel_rfl) (by kernel_rfl) (by kernel_rfl) (fun _ _ _ h => nomatch h.1) (.inl ⟨by rfl, fun V hV => by go_simp⟩) J ?_
                    try simp only [Act.put, List.getElem_toArray, List.getElem_cons_zero, List.getElem_cons_succ, List.setIfInBounds_toArray, List.set_cons_zero, List.set_cons_succ]
                    refine wpAnyH_take (i := 15) (v := .bool false) rfl (by kernel_rfl) (by kernel_rfl) (by kernel_rfl) (fun _ _ _ h => nomatch h.1) (.inl ⟨by rfl, fun V hV => by go_simp⟩) J ?_
                    try simp only [Act.put, List.getElem_toArray, List.getElem_cons_zero, List.getElem_cons_succ, List.setIfInBounds_toArray, List.set_cons_zero, List.set_cons_succ]
                    refine wpAnyH_take (i := 16) (v := .agg (tkC x.a U7 um7 uc7 (some ⟨b7, o7, none⟩) m7 c7)) rfl (by kernel_rfl) (by kernel_rfl) (by kernel_rfl) (fun _ _ _ h => nomatch h.1) (yieldsIf_blk (by rfl) 27 (.tmp 7) rfl g7 rfl (tkC x.a U7 um7 uc7 (some ⟨b7, o7, none⟩) m7 c7) 27 _ (fun _ h => h.t.k7) Tryz.underlying27 rfl (tk_inf _ _ _ _ _ _ _)) J ?_
                    try simp only [Act.put, List.getElem_toArray, List.getElem_cons_zero, List.getElem_cons_succ, List.setIfInBounds_toArray, List.set_cons_zero, List.set_cons_succ]
                    refine wpAnyH_take (i := 17) (v := .int .i64 id) rfl (by kernel_rfl) (by kernel_rfl) (by kernel_rfl) (fun _ _ _ h => nomatch h.1) (.inl ⟨by rfl, fun V hV => by go_simp⟩) J ?_
                    try simp only [Act.put, List.getElem_toArray, List.getElem_cons_zero, List.getElem_cons_succ, List.setIfInBounds_toArray, List.set_cons_zero, List.set_cons_succ]
                    refine wpAnyH_take (i := 19) (v := .agg (tkC x.a U7 um7 uc7 (some ⟨b7, o7, none⟩) m7 c7)) rfl (by kernel_rfl) (by kernel_rfl) (by kernel_rfl) (fun _ _ _ h => nomatch h.1) (yieldsIf_blk (by rfl) 27 (.tmp 7) rfl g7 rfl (tkC x.a U7 um7 uc7 (some ⟨b7, o7, none⟩) m7 c7) 27 _ (fun _ h => h.t.k7) Tryz.underlying27 rfl (tk_inf _ _ _ _ _ _ _)) J ?_
                    try simp only [Act.put, List.getElem_toArray, List.getElem_cons_zero, List.getElem_cons_succ, List.setIfInBounds_toArray, List.set_cons_zero, List.set_cons_succ]
                    refine wpAnyH_take (i := 20) (v := .int .i64 id) rfl (by kernel_rfl) (by kernel_rfl) (by kernel_rfl) (fun _ _ _ h => nomatch h.1) (.inl ⟨by rfl, fun V hV => by go_simp⟩) J ?_
                    try simp only [Act.put, List.getElem_toArray, List.getElem_cons_zero, List.getElem_cons_succ, List.setIfInBounds_toArray, List.set_cons_zero, List.set_cons_succ]
                    refine wpAnyH_ready (rs := [18]) (by kernel_rfl) (by simp) ?_
                    refine AllReadyH.cons rfl (fun K hK => ?_) AllReadyH.nil
                    try simp only [Act.put, List.getElem_toArray, List.getElem_cons_zero, List.getElem_cons_succ, List.setIfInBounds_toArray, List.set_cons_zero, List.set_cons_succ]
                    go_simp
                    refine (CC.out _ J.t).mono ?_
                    rintro e V2 ⟨G1, gm1, gc1, rfl, z1, bb⟩
                    go_wp2_with fail
                    have J := J.step bb
                    clear bb
                    refine hK.out _ _ J (fun _ => ?_)
                    clear hK K
                    try simp only [Act.put, List.getElem_toArray, List.getElem_cons_zero, List.getElem_cons_succ, List.setIfInBounds_toArray, List.set_cons_zero, List.set_cons_succ]
                    refine wpAnyH_ready (rs := [21]) (by kernel_rfl) (by simp) ?_
                    refine AllReadyH.cons rfl (fun K hK => ?_) AllReadyH.nil
                    try simp only [Act.put, List.getElem_toArray, List.getElem_cons_zero, List.getElem_cons_succ, List.setIfInBounds_toArray, List.set_cons_zero, List.set_cons_succ]
                    go_simp
                    refine (CD.out _ J.t).mono ?_
                    rintro e V2 ⟨G2, gm2, gc2, rfl, z2, bb⟩
                    go_wp2_with fail
                    have J := J.step bb
                    have HS := Lib.hid (sm9 (z1.below bb (Nat.le_refl _)) z2 (by have := kidF_len L7 id; have := J.t.t7.p6; have := J.t.t7.pl; omega))
                    clear z1 z2 bb
                    refine hK.out _ _ J (fun _ => ?_)
                    clear hK K
                    try simp only [Act.put, List.getElem_toArray, List.getElem_cons_zero, List.getElem_cons_succ, List.setIfInBounds_toArray, List.set_cons_zero, List.set_cons_succ]
                    refine wpAnyH_ready (rs := [22]) (by kernel_rfl) (by simp) ?_
                    refine AllReadyH.cons rfl (fun K hK => ?_) AllReadyH.nil
                    try simp only [Act.put, List.getElem_toArray, List.getElem_cons_zero, List.getElem_cons_succ, List.setIfInBounds_toArray, List.set_cons_zero, List.set_cons_succ]
                    go_simp
                    refine (HS.out).mono ?_
                    rintro e V2 ⟨rfl, bb⟩
                    have J := J.step bb
                    clear HS
                    refine hK.out _ _ J (fun _ => ?_)
                    clear hK K
                    try simp only [Act.put, List.getElem_toArray, List.getElem_cons_zero, List.getElem_cons_succ, List.setIfInBounds_toArray, List.set_cons_zero, List.set_cons_succ]
                    refine wpAnyH_take (i := 23) (v := .bool false) rfl (by kernel_rfl) (by kernel_rfl) (by kernel_rfl) (fun _ _ _ h => nomatch h.1) (.inl ⟨by rfl, fun V hV => by go_simp⟩) J ?_
                    try simp only [Act.put, List.getElem_toArray, List.getElem_cons_zero, List.getElem_cons_succ, List.setIfInBounds_toArray, List.set_cons_zero, List.set_cons_succ]
                    refine wpAnyH_take (i := 24) (v := .bool false) rfl (by kernel_rfl) (by kernel_rfl) (by kernel_rfl) (fun _ _ _ h => nomatch h.1) (.inl ⟨by rfl, fun V hV => by go_simp⟩) J ?_
                    try simp only [Act.put, List.getElem_toArray, List.getElem_cons_zero, List.getElem_cons_succ, List.setIfInBounds_toArray, List.set_cons_zero, List.set_cons_succ]
                    refine wpAnyH_done (by kernel_rfl) ?_ _
                    refine ⟨rfl, ?_⟩
                    have HFM := Lib.hid (show gmw = 0 ∨ ∃ g cur, GW = some ⟨g, 0, none⟩ ∧ w17.heap.size ≤ g ∧ Blk V2 g cur 3 ∧ gmw ≤ cur.size from by
                      rcases J.z.form with ⟨_, h1, _⟩ | ⟨g, h1, h2, _, cur, h3, h4, _, h5, _⟩
                      · exact .inl h1
                      · exact .inr ⟨g, cur, h1, h2, ⟨h3⟩, by omega⟩)
                    have hgm6 : gmw ≤ 1000000 := by have h1 := HZ17.out; have := J.t.t7.n; have := thr_len L7 id; omega
                    have HB2 := Lib.hid J.b
                    clear J CW CC CD HZ17 HTA
                    go_wp2_with fail
                    go_loopw [135] (fun iv wr' => ∃ (u : Nat) (wz : World), wz = wr' ∧ u ≤ gmw ∧ iv = .int .i64 u ∧ Hid (Below w17.heap.size w17 wz) ∧ Hid (gmw = 0 ∨ ∃ g cur, GW = some ⟨g, 0, none⟩ ∧ w17.heap.size ≤ g ∧ Blk wz g cur 3 ∧ gmw ≤ cur.size)) (fun iv _ => gmw - (intOf iv).toNat)
                    case atStart => exact ⟨0, _, rfl, Nat.zero_le _, rfl, HB2, HFM⟩
                    case round =>
                      clear HB2 HFM
                      obtain ⟨u, wz, hwz, hu, rfl, HB2, HFM⟩ := hrel
                      subst hwz
                      by_cases hun : u < gmw
                      · have hun' : (u : Int) < (gmw : Int) := by omega
                        obtain ⟨g, cur, hGW, hg17, kz, hcs⟩ : ∃ g cur, GW = some ⟨g, 0, none⟩ ∧ w17.heap.size ≤ g ∧ Blk wz g cur 3 ∧ gmw ≤ cur.size := by
                          rcases HFM.out with h | h
                          · omega
                          · exact h
                        subst hGW
                        clear HFM
                        have HKZ := Lib.hid (And.intro kz (show u < cur.size by omega))
                        have HCS := Lib.hid hcs
                        clear kz hcs
                        go_wp2_with (first
                          | (refine wpList_stf rfl 3 (.tmp 140) (.const (.int .i64 99)) rfl g u cur 3 (.int .i64 99) rfl rfl HKZ.out.1 HKZ.out.2 (by kernel_rfl) rfl rfl ?_
                             intro w9 k9 n9
                             have HB3 := Lib.hid (HB2.out.trans (n9.below _ hg17 HB2.out.size))
                             have HF3 := Lib.hid (show gmw = 0 ∨ ∃ g' cur', (some ⟨g, 0, none⟩ : Option Addr) = some ⟨g', 0, none⟩ ∧ w17.heap.size ≤ g' ∧ Blk w9 g' cur' 3 ∧ gmw ≤ cur'.size from .inr ⟨g, _, rfl, hg17, k9, by rw [Array.size_setIfInBounds]; exact HCS.out⟩)
                             clear n9 k9 HKZ))
                        go_roundw
                        case rel => exact ⟨u + 1, _, rfl, by omega, by go_num, HB3, HF3⟩
                        case measure => simp [intOf]; omega
                      · obtain rfl : gmw = u := by omega
                        have J := HJ17.out.step HB2.out
                        clear HFM HB2
                        go_wp2_with fail
                        have J := J.step (Below.refl _ _).drew
                        refine region_cutP ?_
                        refine wp_region_held_drew (S := TS w x y g6 g7 g8 U7 um7 uc7 (some ⟨b7, o7, none⟩) m7 c7 L7 U8 um8 uc8 A8 m8 c8 L8) (by kernel_rfl) J (fun _ => ?_)
                        refine wpAnyH_take (i := 0) (v := .agg (tkC x.a U7 um7 uc7 (some ⟨b7, o7, none⟩) m7 c7)) rfl (by kernel_rfl) (by kernel_rfl) (by kernel_rfl) (fun _ _ _ h => nomatch h.1) (yieldsIf_blk (by rfl) 27 (.tmp 7) rfl g7 rfl (tkC x.a U7 um7 uc7 (some ⟨b7, o7, none⟩) m7 c7) 27 _ (fun _ h => h.k7) Tryz.underlying27 rfl (tk_inf _ _ _ _ _ _ _)) J ?_
                        try simp only [Act.put, List.getElem_toArray, List.getElem_cons_zero, List.getElem_cons_succ, List.setIfInBounds_toArray, List.set_cons_zero, List.set_cons_succ]
                        refine wpAnyH_take (i := 1) (v := .agg (txC x)) rfl (by kernel_rfl) (by kernel_rfl) (by kernel_rfl) (fun _ _ _ h => nomatch h.1) (yieldsIf_blk (by rfl) 27 (.tmp 6) rfl g6 rfl (txC x) 27 _ (fun _ h => h.k6) Tryz.underlying27 rfl (tk_inf _ _ _ _ _ _ _)) J ?_
                        try simp only [Act.put, List.getElem_toArray, List.getElem_cons_zero, List.getElem_cons_succ, List.setIfInBounds_toArray, List.set_cons_zero, List.set_cons_succ]
                        refine wpAnyH_ready (rs := [2]) (by kernel_rfl) (by simp) ?_
                        refine AllReadyH.cons rfl (fun K hK => ?_) AllReadyH.nil
                        try simp only [Act.put, List.getElem_toArray, List.getElem_cons_zero, List.getElem_cons_succ, List.setIfInBounds_toArray, List.set_cons_zero, List.set_cons_succ]
                        go_simp
                        refine (CS.out _ J).mono ?_
                        rintro e V2 ⟨U9, um9, uc9, A9, m9, c9, L9, rfl, o9, hn9, bb⟩
                        go_wp2_with fail
                        have J := J.step bb
                        have HS9 := Lib.hid (cr9 J o9 hn9 HN7.out)
                        clear o9 hn9 bb
                        refine hK.out _ _ J (fun _ => ?_)
                        clear hK K
                        try simp only [Act.put, List.getElem_toArray, List.getElem_cons_zero, List.getElem_cons_succ, List.setIfInBounds_toArray, List.set_cons_zero, List.set_cons_succ]
                        refine wpAnyH_ready (rs := [3]) (by kernel_rfl) (by simp) ?_
                        refine AllReadyH.cons rfl (fun K hK => ?_) AllReadyH.nil
                        try simp only [Act.put, List.getElem_toArray, List.getElem_cons_zero, List.getElem_cons_succ, List.setIfInBounds_toArray, List.set_cons_zero, List.set_cons_succ]
                        go_simp
                        refine (HS9.out).mono ?_
                        rintro e V2 ⟨rfl, bb⟩
                        have J := J.step bb
                        clear HS9
                        refine hK.out _ _ J (fun _ => ?_)
                        clear hK K
                        try simp only [Act.put, List.getElem_toArray, List.getElem_cons_zero, List.getElem_cons_succ, List.setIfInBounds_toArray, List.set_cons_zero, List.set_cons_succ]
                        refine wpAnyH_take (i := 4) (v := .bool false) rfl (by kernel_rfl) (by kernel_rfl) (by kernel_rfl) (fun _ _ _ h => nomatch h.1) (.inl ⟨by rfl, fun V hV => by go_simp⟩) J ?_
                        try simp only [Act.put, List.getElem_toArray, List.getElem_cons_zero, List.getElem_cons_succ, List.setIfInBounds_toArray, List.set_cons_zero, List.set_cons_succ]
                        refine wpAnyH_done (by kernel_rfl) ?_ _
                        refine ⟨rfl, ?_⟩
                        have HJ := Lib.hid J
                        clear J
                        go_wp2_with fail
                        go_roundw
                        case rel => exact ⟨j + 1, _, rfl, by have := HJT.out; omega, by go_num, HJ⟩
                        case measure => have := HJT.out; simp [intOf]; omega
                · go_wp2_with fail
                  go_roundw
                  case rel => exact ⟨k + 1, _, rfl, by have := HKM.out; omega, by go_num, J.b⟩
                  case measure => have := HKM.out; simp [intOf]; omega
              · obtain rfl : j = m0 := by omega
                go_wp2_with fail
                go_roundw
                case rel => exact ⟨k + 1, _, rfl, by have := HKM.out; omega, by go_num, J.b⟩
                case measure => have := HKM.out; simp [intOf]; omega
      · skip
        go_wp2_with (first
          | (refine wpList_load_mid rfl 27 (.tmp 26) rfl b (off + k * 3) rfl (txC x).toList _ hcr Tryz.underlying27 rfl (tx_infL x) ?_)
          | (refine wpList_store_blk rfl 27 (.tmp 6) (.tmp 27) rfl wr.heap.size (tkC 0 none 0 0 none 0 0) (txC x) 27 rfl rfl (Blk.new _ _ _) rfl (tk_inf _ _ _ _ _ _ _) (tk_one _ _ _ _ _ _ _) ?_
             intro W1 k6 n1
             have bb : Below wr.heap.size wr W1 := ((Below.refl _ wr).alloc (Nat.le_refl _) _).trans (n1.below _ (Nat.le_refl _) (by simp))
             have hB1 := hB.trans (bb.mono hB.size)
             clear bb n1 hcr hB))
        have BG := Lib.hid (fun V => begin_tk V)
        go_wp2_with (first
          | (refine (BG.out _).mono ?_
             clear BG
             rintro e wb ⟨v, rfl, hv, bb⟩
             have B9 := hB1.trans (bb.mono hB1.size)
             have h0 := ((Blk.new wb #[.int .i64 1] 3).alloc (.cells #[.int .i64 1] 3)).alloc (.cells #[.int .i64 1, .int .i64 0, .slice (some ⟨wb.heap.size + 1, 0, none⟩) 1 1] 49)
             have h1 := (Blk.new_ (wb.alloc (.cells #[.int .i64 1] 3)) #[.int .i64 1] 3 (n := wb.heap.size + 1) (by simp)).alloc (.cells #[.int .i64 1, .int .i64 0, .slice (some ⟨wb.heap.size + 1, 0, none⟩) 1 1] 49)
             have h2 := Blk.new_ ((wb.alloc (.cells #[.int .i64 1] 3)).alloc (.cells #[.int .i64 1] 3)) #[.int .i64 1, .int .i64 0, .slice (some ⟨wb.heap.size + 1, 0, none⟩) 1 1] 49 (n := wb.heap.size + 2) (by simp)
             have b3 := ((((Below.refl wb.heap.size wb).alloc (Nat.le_refl _) (.cells #[.int .i64 1] 3)).alloc (by simp) (.cells #[.int .i64 1] 3)).alloc (by simp; omega) (.cells #[.int .i64 1, .int .i64 0, .slice (some ⟨wb.heap.size + 1, 0, none⟩) 1 1] 49))
             have HF := Lib.hid (fin_tk wb v _ hv _ wb.heap.size b3 h0 h1 h2)
             have B10 := B9.trans (b3.mono B9.size)
             clear h0 h1 h2 b3 hv bb)
          | (refine HF.out.mono ?_
             clear HF
             rintro e wf ⟨rfl, bb⟩
             have B11 := B10.trans (bb.mono B10.size)))
        go_ret
        exact ⟨rfl, B11⟩
    · obtain rfl : k = m := by omega
      have BG := Lib.hid (fun V => begin_tk V)
      go_wp2_with (first
        | (refine (BG.out _).mono ?_
           clear BG
           rintro e wb ⟨v, rfl, hv, bb⟩
           have B9 := hB.trans (bb.mono hB.size)
           have h0 := ((Blk.new wb #[.int .i64 1] 3).alloc (.cells #[.int .i64 1] 3)).alloc (.cells #[.int .i64 1, .int .i64 0, .slice (some ⟨wb.heap.size + 1, 0, none⟩) 1 1] 49)
           have h1 := (Blk.new_ (wb.alloc (.cells #[.int .i64 1] 3)) #[.int .i64 1] 3 (n := wb.heap.size + 1) (by simp)).alloc (.cells #[.int .i64 1, .int .i64 0, .slice (some ⟨wb.heap.size + 1, 0, none⟩) 1 1] 49)
           have h2 := Blk.new_ ((wb.alloc (.cells #[.int .i64 1] 3)).alloc (.cells #[.int .i64 1] 3)) #[.int .i64 1, .int .i64 0, .slice (some ⟨wb.heap.size + 1, 0, none⟩) 1 1] 49 (n := wb.heap.size + 2) (by simp)
           have b3 := ((((Below.refl wb.heap.size wb).alloc (Nat.le_refl _) (.cells #[.int .i64 1] 3)).alloc (by simp) (.cells #[.int .i64 1] 3)).alloc (by simp; omega) (.cells #[.int .i64 1, .int .i64 0, .slice (some ⟨wb.heap.size + 1, 0, none⟩) 1 1] 49))
           have HF := Lib.hid (fin_tk wb v _ hv _ wb.heap.size b3 h0 h1 h2)
           have B10 := B9.trans (b3.mono B9.size)
           clear h0 h1 h2 b3 hv bb)
        | (refine HF.out.mono ?_
           clear HF
           rintro e wf ⟨rfl, bb⟩
           have B11 := B10.trans (bb.mono B10.size)))
      go_ret
      exact ⟨rfl, B11⟩
end Go.Proofs.YtfiaaobpodglmaaGreat

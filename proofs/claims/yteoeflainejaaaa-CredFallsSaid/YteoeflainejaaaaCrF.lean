/-
  Rows of credentials; the walk of CredFalls.
-/
import Derived.Test.YteoeflainejaaaaCrD
import Derived.Laws.OwnMore
namespace Go.Proofs.Yteoeflainejaaaa
open Go.RowKit Go.Shelf
set_option linter.unusedVariables false
set_option linter.unusedSimpArgs false

/-- Credentials' cells, one behind the other. -/
def flatC (L : List Cr) : List Value := L.flatMap fun x => (crC x).toList
theorem flatC_snoc (L : List Cr) (x : Cr) : flatC (L ++ [x]) = flatC L ++ (crC x).toList := by simp [flatC]
theorem crL_len (x : Cr) : (crC x).toList.length = 4 := rfl
theorem flatC_len : ∀ (L : List Cr), (flatC L).length = L.length * 4
  | [] => rfl
  | x :: L => by
    have ih := flatC_len L
    simp only [flatC, List.flatMap_cons, List.length_append, crL_len] at ih ⊢
    rw [ih, List.length_cons]; omega
theorem flatC_get : ∀ (L : List Cr) (k j : Nat), k < L.length → j < 4 → (flatC L)[k * 4 + j]? = (crC (L.getD k cr0))[j]?
  | [], k, j, h, _ => absurd h (by simp)
  | x :: L, 0, j, _, hj => by
    have e : flatC (x :: L) = (crC x).toList ++ flatC L := by simp [flatC]
    rw [e, Nat.zero_mul, Nat.zero_add, List.getElem?_append_left (by rw [crL_len]; exact hj), Array.getElem?_toList]
    rfl
  | x :: L, k + 1, j, h, hj => by
    have e : flatC (x :: L) = (crC x).toList ++ flatC L := by simp [flatC]
    rw [e, List.getElem?_append_right (by rw [crL_len]; omega), crL_len, show (k + 1) * 4 + j - 4 = k * 4 + j by omega, flatC_get L k j (by simpa using h) hj]
    simp [List.getD]
theorem cr_oneL (x : Cr) : ∀ u ∈ (crC x).toList, u.oneCell' = true := by
  intro u hu
  simp [crC] at hu
  rcases hu with rfl | rfl | rfl | rfl <;> rfl
theorem cr_info3 : (Try.prog.info? 23).map (fun i => (i.zero, i.size, i.bytes)) = some (some (crV cr0), 4, 24) := by kernel_rfl
/-- The call's own row of credentials. -/
abbrev Co (w : World) (base : Nat) (A : Option Addr) (m c : Nat) (L : List Cr) : Prop := w.ownsRow base 23 4 (.slice A m c) m (flatC L)
/-- A slice reads as these credentials. -/
def Cz (w : World) (B : Nat) (A : Option Addr) (L : List Cr) : Prop := ∀ k, k < L.length → ∃ b off, A = some ⟨b, off, none⟩ ∧ b < B ∧ w.rangeAt b (off + k * 4) (crC (L.getD k cr0)).toList
section
variable {w w' : World} {base B m c : Nat} {A : Option Addr} {L : List Cr}
theorem co_len (h : Co w base A m c L) : m = L.length := by have := h.1; rw [flatC_len] at this; omega
theorem co_cz (h : Co w base A m c L) : Cz w w.heap.size A L := fun k hk => by
  have hm := co_len h
  obtain ⟨g, c', hv, hg, hcs⟩ := own_head h (by omega)
  injection hv with hA _ _
  refine ⟨g, 0, hA, hg, fun j v hv => ?_⟩
  have hj : j < 4 := by
    rcases Nat.lt_or_ge j 4 with h1 | h1
    · exact h1
    · rw [List.getElem?_eq_none (by rw [crL_len]; exact h1)] at hv; cases hv
  rw [Nat.zero_add]
  exact hcs _ _ ((flatC_get L k j hk hj).trans (by rw [← Array.getElem?_toList]; exact hv))
theorem Cz.below (h : Cz w B A L) (hb : Below B w w') : Cz w' B A L := fun k hk => by
  obtain ⟨b, off, e, h1, h2⟩ := h k hk
  exact ⟨b, off, e, h1, fun j v hv => (hb.cell (p := ⟨b, off + k * 4 + j, none⟩) h1).trans (h2 j v hv)⟩
theorem Co.but {g : Nat} (h : Co w base A m c L) (n : But g w w') (hg : g < base) : Co w' base A m c L := by
  refine ⟨h.1, ?_⟩
  rcases h.2 with h0 | ⟨g', cap, cur, hv, hb, hh, r⟩
  · exact .inl h0
  · exact .inr ⟨g', cap, cur, hv, hb, (n.block g' (Array.getElem?_eq_some_iff.1 hh).1 (by omega)).trans hh, r⟩
end
theorem cr_add (b off j : Nat) : (⟨b, off, none⟩ : Addr).add j = ⟨b, off + j, none⟩ := by unfold Addr.add; by_cases h0 : j = 0 <;> simp [h0]
/-- Credentials put behind the call's own ones; they lie in a block of their own. -/
theorem run_appC {w : World} (ty : TypeId) (base : Nat) (A : Option Addr) (m c : Nat) (L : List Cr) (ho : Co w base A m c L) (x : Cr) (gb : Nat) (hb : w.heap[gb]? = some (.cells (crC x) 23 (0, 0))) (hsz : m + 1 ≤ 1000000) (hbase : base ≤ w.heap.size) :
    ∃ A' c' w', (Builtin.append_ #[38, 38] ty #[.slice A m c, .slice (some ⟨gb, 0, none⟩) 1 1]).run Try.prog w = .ok (.slice A' (m + 1) c') w' ∧ Co w' base A' (m + 1) c' (L ++ [x]) ∧ w.grownBy w' (Value.slice A m c).ownBlock := by
  obtain ⟨i, hi, hz, hs1, hb1⟩ := info_parts cr_info3
  obtain ⟨v', w', hrun, h1, h2, _, h4⟩ := run_append_own_at (P := Try.prog) w base 38 ty 23 i (crV cr0) 4 24 Try.underlying38 hi hz hs1 hb1 rfl (by decide) _ m _ ho ⟨gb, 0, none⟩ 1 1 (crC x).toList
    (by rw [crL_len]) (by
      intro j u hj
      rw [cr_add, Nat.zero_add]
      simp only [World.cell?, hb]
      rw [← Array.getElem?_toList]
      exact hj) (cr_oneL x) (by simp only [maxLen]; omega) (by omega) hbase
  obtain ⟨A'', c'', rfl⟩ := own_slice h1
  exact ⟨A'', c'', w', hrun, by rw [Co, flatC_snoc]; exact h1, h2⟩
theorem wpList_appC {ops : Array Oper} {rest : List Oper} {w : World} {o : Oper} {a : Act} {Q : Exit → Act → World → Prop} (hgd : o.guard = none) (s x' : Operand)
    (ho : o.op = .call { callee := .builtin .append, args := #[s, x'], argTypes := #[38, 38] })
    (base : Nat) (A : Option Addr) (m c : Nat) (L : List Cr) (hs : a.eval s = .slice A m c) (hn : Co w base A m c L) (x : Cr) (gb : Nat) (hx' : a.eval x' = .slice (some ⟨gb, 0, none⟩) 1 1) (hb : w.heap[gb]? = some (.cells (crC x) 23 (0, 0))) (hsz : m + 1 ≤ 1000000) (hbase : base ≤ w.heap.size)
    (h : ∀ A' c' w', Co w' base A' (m + 1) c' (L ++ [x]) → w.grownBy w' (Value.slice A m c).ownBlock → wpList Try.prog ops Q rest (a.put o.dst (.slice A' (m + 1) c')) w') : wpList Try.prog ops Q (o :: rest) a w :=
  wpList_plain hgd fun _ hK => by
    obtain ⟨A', c', w', hrun, h3, h4⟩ := run_appC o.type base A m c L hn x gb hb hsz hbase
    unfold Oper.wp execOp
    simp only [ho, resolve, invoke, builtin, Sem.run_bind, Sem.run_pure, Result.andThen_ok, List.map_toArray, List.map_cons, List.map_nil, hs, hx', hrun]
    exact hK _ _ (h A' c' w' h3 h4)
/-- A slice reads as these deeds. -/
def de0 : De := (0, 0, 0, false)
def Dz (w : World) (B : Nat) (A : Option Addr) (L : List De) : Prop := ∀ k, k < L.length → ∃ b off, A = some ⟨b, off, none⟩ ∧ b < B ∧ w.rangeAt b (off + k * 4) (deC (L.getD k de0)).toList
theorem Dz.below {w w' : World} {B : Nat} {A : Option Addr} {L : List De} (h : Dz w B A L) (hb : Below B w w') : Dz w' B A L := fun k hk => by
  obtain ⟨b, off, e, h1, h2⟩ := h k hk
  exact ⟨b, off, e, h1, fun j v hv => (hb.cell (p := ⟨b, off + k * 4 + j, none⟩) h1).trans (h2 j v hv)⟩
/-- What is so between two rounds. -/
structure FaI (w : World) (wr : World) (c : Cr) (A : Option Addr) (m r : Nat) (L : List Cr) : Prop where
  bel : Below w.heap.size w wr
  kc : Blk wr w.heap.size (crC c) 23
  row : Co wr (w.heap.size + 1) A m r L
  right : rightC c = true
  below : ∀ x ∈ L, beC c x = true
/-- What a comparison with one of those that were asks. -/
theorem be_parts {n x : Cr} (h : beC n x = true) : (x.2.2.1 && !n.2.2.1) = false ∧ ((x.2.2.2 != 0) && (x.2.2.2 != n.2.2.2)) = false ∧ ((x.2.2.1 && !x.2.1) && n.2.1) = false := by
  obtain ⟨u, a, k, m⟩ := n
  obtain ⟨v, b, l, p⟩ := x
  obtain ⟨_, _, h3, h4, h5⟩ := be_iff.1 h
  simp only at h3 h4 h5 ⊢
  refine ⟨?_, ?_, ?_⟩
  · cases l <;> cases k <;> simp_all
  · by_cases hp : p = 0
    · simp [hp]
    · have := h4 hp
      simp [this]
  · cases l <;> cases b <;> cases a <;> simp_all
theorem check0_cr (c : Cr) (w : World) (h : rightC c = true) : Calls Try.prog 9 #[.agg (crC c)] w fun e w' => e = .returned (.int .i64 0) ∧ Below w.heap.size w w' := (check_cr c w).mono fun e w' ⟨he, hb⟩ => ⟨by rw [he]; unfold chkC; rw [if_pos h], hb⟩
theorem below1_cr (a b : Cr) (w : World) (h : beC a b = true) : Calls Try.prog 11 #[.agg (crC a), .agg (crC b)] w fun e w' => e = .returned (.bool true) ∧ Below w.heap.size w w' := (below_cr a b w).mono fun e w' ⟨he, hb⟩ => ⟨by rw [he, h], hb⟩
set_option maxRecDepth 100000 in
set_option maxHeartbeats 16000000 in
theorem falls_law (c : Cr) (A0 : Option Addr) (m0 c0 : Nat) (ds : List De) (w : World) (hD : Dz w w.heap.size A0 ds) (hm : m0 = ds.length) : Calls Try.prog 6 #[crV c, .slice A0 m0 c0] w fun e w' => e = .returned (.bool true) ∧ Below w.heap.size w w' := by
  have k0 := Blk.new w (crC c) 23
  have B0 := (Below.refl w.heap.size w).alloc (Nat.le_refl _) (.cells (crC c) 23)
  have HW := Lib.hid (fun V => wakes_cr V)
  have HC := Lib.hid (fun V => check_cr c V)
  have HM := Lib.hid hm
  clear hm
  rcases chkC_or c with ⟨hr, hk⟩ | ⟨hr, hk⟩
  · rw [hk] at HC
    have HR := Lib.hid hr
    clear hk hr
    unfold crV at HC ⊢
    go_enter Try.func6, Try.ntmps6
    go_wp2_with (first
      | (refine (HW.out _).mono ?_; clear HW; rintro e v1 ⟨rfl, g1⟩; have hB1 := B0.trans (g1.mono B0.size); have k1 := k0.below g1 k0.lt; clear k0)
      | (refine wpListG_load (by rfl) 23 (.tmp 2) rfl w.heap.size rfl 23 (crC c) _ k1 Try.underlying23 rfl (cr_inf _) ?_)
      | (refine (HC.out _).mono ?_; clear HC; rintro e v2 ⟨rfl, g2⟩; have hB2 := hB1.trans (g2.mono hB1.size); have k2 := k1.below g2 k1.lt; clear k1)
      | (refine wpListG_load (by rfl) 23 (.tmp 2) rfl w.heap.size rfl 23 #[.int .i64 c.1, .bool c.2.1, .bool c.2.2.1, .int .i64 c.2.2.2] _ k2 Try.underlying23 rfl (cr_inf c) ?_))
    have hs2 := k2.lt
    have C0 : Co (v2.alloc (.cells (crC c) 23)) (w.heap.size + 1) (some ⟨v2.heap.size, 0, none⟩) 1 1 [c] := by
      have := World.ownsRow_lit (base := w.heap.size + 1) (e := 23) (size := 4) v2 (crC c) 1 (by omega) (by simp [maxLen]) rfl
      simpa [Co, flatC] using this
    have I0 : FaI w (v2.alloc (.cells (crC c) 23)) c (some ⟨v2.heap.size, 0, none⟩) 1 1 [c] := ⟨hB2.alloc hB2.size _, k2.alloc _, C0, HR.out, fun x hx => by simp at hx; subst hx; exact be_refl HR.out⟩
    clear C0 k2 hB2 hB1 B0
    unfold crC at I0
    go_loopw [5, 20] (fun sv iv wr' => ∃ (k : Nat) (wr : World) (c' : Cr) (A : Option Addr) (m1 r : Nat) (L : List Cr), wr = wr' ∧ k ≤ m0 ∧ iv = .int .i64 k ∧ sv = .slice A m1 r ∧ Hid (FaI w wr c' A m1 r L ∧ m1 = k + 1 ∧ k ≤ 60)) (fun _ iv _ => m0 - (intOf iv).toNat)
    case atStart => exact ⟨0, _, c, _, _, _, [c], rfl, Nat.zero_le _, rfl, rfl, Lib.hid ⟨I0, rfl, by omega⟩⟩
    case round =>
      clear I0 hs2
      obtain ⟨k, wr, c', A, m1, r, L, hwr, hk, rfl, rfl, HI⟩ := hrel
      subst hwr
      obtain ⟨⟨hB, kc, co, hrc, hbl⟩, hm1, h60⟩ := HI.out
      have hL := co_len co
      have HL := Lib.hid hL
      have HM1 := Lib.hid hm1
      have H60 := Lib.hid h60
      have HBL := Lib.hid hbl
      have HRC := Lib.hid hrc
      clear hL hm1 h60 hbl hrc HI
      by_cases hlt : k < m0
      · have hlt' : (k : Int) < (m0 : Int) := by omega
        have hkl : k < ds.length := by have := HM.out; omega
        obtain ⟨b, off, rfl, hb, hc⟩ := (hD.below hB) k hkl
        generalize ds.getD k de0 = d at hc
        have HLT := Lib.hid hlt
        clear hkl hlt
        cases hq : ((k : Int) == 60)
        · have hk60 : k < 60 := by have := H60.out; simp at hq; omega
          have HK60 := Lib.hid hk60
          clear hk60
          go_wp2_with (first
            | (refine wpList_load_mid rfl 40 (.tmp 23) rfl b (off + k * 4) rfl (deC d).toList _ hc Try.underlying40 rfl (de_infL d) ?_)
            | (refine wpList_store_blk rfl 40 (.tmp 7) (.tmp 24) rfl wr.heap.size (deC de0) (deC d) 40 rfl rfl (Blk.new _ _ _) rfl (de_inf d) (de_one d) ?_
               intro u1 kd1 g1
               have bb := newC rfl g1
               have hB1 := hB.trans (bb.mono hB.size)
               have kc1 := kc.below bb kc.lt
               have co1 := ownsRow_below co bb (Nat.le_refl _)
               have hs1 := bb.size
               have hown := (fun g e => (co.lt g e).2 : ∀ g, (Value.slice A m1 r).ownBlock = some g → g < wr.heap.size)
               have hwl := kc.lt
               clear bb kc co g1 hB
               go_wp2_with (first
            | (refine wpListG_load (by rfl) 23 (.tmp 2) rfl w.heap.size rfl 23 (crC c') _ kc1 Try.underlying23 rfl (cr_inf _) ?_)
            | (refine wpListG_load (by rfl) 40 (.tmp 7) rfl wr.heap.size rfl 40 (deC d) _ kd1 Try.underlying40 rfl (de_inf _) ?_)
            | (refine (do_cr c' d _ HRC.out).mono ?_
               clear HRC
               rintro e u2 ⟨n', rfl, hbe, bb⟩
               have hB2 := hB1.trans (bb.mono hB1.size)
               have kc2 := kc1.below bb kc1.lt
               have co2 := ownsRow_below co1 bb (Nat.le_refl _)
               have hs2 := Nat.le_trans hs1 bb.size
               clear bb kc1 co1 hB1 kd1 hs1
               go_wp2_with (first
            | (refine wpList_store_blk rfl 23 (.tmp 8) (.tmp 29) rfl u2.heap.size (crC cr0) (crC n') 23 rfl rfl (Blk.new _ _ _) rfl (cr_inf _) (cr_one _) ?_
               intro u3 kn3 g3
               have bb := newC rfl g3
               have hB3 := hB2.trans (bb.mono hB2.size)
               have kc3 := kc2.below bb kc2.lt
               have co3 := ownsRow_below co2 bb (Nat.le_refl _)
               have hrn := (be_iff.1 hbe).1
               clear bb kc2 co2 hB2 g3
               go_wp2_with (first
            | (refine wpListG_load (by rfl) 23 (.tmp 8) rfl u2.heap.size rfl 23 (crC n') _ kn3 Try.underlying23 rfl (cr_inf _) ?_)
            | (refine (check0_cr n' u3 hrn).mono ?_
               rintro e u4 ⟨rfl, bb⟩
               have hB4 := hB3.trans (bb.mono hB3.size)
               have kc4 := kc3.below bb kc3.lt
               have co4 := ownsRow_below co3 bb (Nat.le_refl _)
               have kn4 := kn3.below bb kn3.lt
               clear bb kc3 co3 hB3 kn3))))))))
          have HRN := Lib.hid hrn
          have HBE := Lib.hid hbe
          clear hrn hbe
          obtain ⟨u9, a9, n9, m9⟩ := n'
          have hcz := co_cz co4
          go_loopw [35] (fun jv wr' => ∃ (j : Nat) (wj : World), wj = wr' ∧ j ≤ m1 ∧ jv = .int .i64 j ∧ Below u4.heap.size u4 wj) (fun jv _ => m1 - (intOf jv).toNat)
          case atStart => exact ⟨0, _, rfl, Nat.zero_le _, rfl, Below.refl _ _⟩
          case round =>
            obtain ⟨j, wj, hwj, hj, rfl, bj⟩ := hrel
            subst hwj
            have knj := kn4.below bj kn4.lt
            by_cases hjl : j < m1
            · have hjl' : (j : Int) < (m1 : Int) := by omega
              have hjL : j < L.length := by have := HL.out; omega
              obtain ⟨b2, off2, rfl, hb2, hc2⟩ := (hcz.below bj) j hjL
              have hbx : beC (u9, a9, n9, m9) (L.getD j cr0) = true := be_trans HBE.out (HBL.out _ (by rw [show L.getD j cr0 = L[j] by simp [List.getD, hjL]]; exact List.getElem_mem hjL))
              generalize L.getD j cr0 = x at hc2 hbx
              obtain ⟨v, bx, l, p⟩ := x
              have hpa := be_parts hbx
              have HBX := Lib.hid hbx
              have hj1 : m1 ≤ 61 := by have := HM1.out; have := HK60.out; omega
              have HJ1 := Lib.hid hj1
              have hjb : j ≤ 61 := by omega
              clear hjL hbx hj1 hcz co4 kc4 hB4
              simp only at hpa
              obtain ⟨p1, p2, p3⟩ := hpa
              cases l
              · clear p1 p3
                cases hp : (p != 0)
                · obtain rfl : p = 0 := by simpa using hp
                  clear p2 hp
                  go_wp2_with (first
                    | (refine wpList_load_mid rfl 23 (.tmp 37) rfl b2 (off2 + j * 4) rfl (crC (v, bx, false, 0)).toList _ hc2 Try.underlying23 rfl (cr_infL _) ?_)
                    | (refine wpList_store_blk rfl 23 (.tmp 10) (.tmp 38) rfl wj.heap.size (crC cr0) (crC (v, bx, false, 0)) 23 rfl rfl (Blk.new _ _ _) rfl (cr_inf _) (cr_one _) ?_
                       intro z1 kx1 g1
                       have bb := newC rfl g1
                       have bj1 := bj.trans (bb.mono bj.size)
                       have kn1 := knj.below bb knj.lt
                       clear bb g1 knj
                       go_wp2_with (first
                         | (refine wpListG_load (by rfl) 23 (.tmp 8) rfl u2.heap.size rfl 23 (crC (u9, a9, n9, m9)) _ kn1 Try.underlying23 rfl (cr_inf _) ?_)
                         | (refine wpListG_load (by rfl) 23 (.tmp 10) rfl wj.heap.size rfl 23 (crC (v, bx, false, 0)) _ kx1 Try.underlying23 rfl (cr_inf _) ?_)
                         | (refine (below1_cr (u9, a9, n9, m9) (v, bx, false, 0) z1 HBX.out).mono ?_
                            rintro e z2 ⟨rfl, bb⟩
                            have bj2 := bj1.trans (bb.mono bj1.size)
                            have kx2 := kx1.below bb kx1.lt
                            have kn2 := kn1.below bb kn1.lt
                            have x1 : z2.cell? ⟨wj.heap.size, 1, none⟩ = some (.bool bx) := kx2.cell 1
                            have x2 : z2.cell? ⟨wj.heap.size, 2, none⟩ = some (.bool false) := kx2.cell 2
                            have x3 : z2.cell? ⟨wj.heap.size, 3, none⟩ = some (.int .i64 0) := kx2.cell 3
                            have y1 : z2.cell? ⟨u2.heap.size, 1, none⟩ = some (.bool a9) := kn2.cell 1
                            have y2 : z2.cell? ⟨u2.heap.size, 2, none⟩ = some (.bool n9) := kn2.cell 2
                            have y3 : z2.cell? ⟨u2.heap.size, 3, none⟩ = some (.int .i64 m9) := kn2.cell 3
                            go_wp2_with fail))))
                  go_roundw
                  case rel => exact ⟨j + 1, _, rfl, by omega, by have := HJ1.out; go_num, bj2⟩
                  case measure => simp [intOf]; omega
                · rw [hp, Bool.true_and] at p2
                  go_wp2_with (first
                    | (refine wpList_load_mid rfl 23 (.tmp 37) rfl b2 (off2 + j * 4) rfl (crC (v, bx, false, p)).toList _ hc2 Try.underlying23 rfl (cr_infL _) ?_)
                    | (refine wpList_store_blk rfl 23 (.tmp 10) (.tmp 38) rfl wj.heap.size (crC cr0) (crC (v, bx, false, p)) 23 rfl rfl (Blk.new _ _ _) rfl (cr_inf _) (cr_one _) ?_
                       intro z1 kx1 g1
                       have bb := newC rfl g1
                       have bj1 := bj.trans (bb.mono bj.size)
                       have kn1 := knj.below bb knj.lt
                       clear bb g1 knj
                       go_wp2_with (first
                         | (refine wpListG_load (by rfl) 23 (.tmp 8) rfl u2.heap.size rfl 23 (crC (u9, a9, n9, m9)) _ kn1 Try.underlying23 rfl (cr_inf _) ?_)
                         | (refine wpListG_load (by rfl) 23 (.tmp 10) rfl wj.heap.size rfl 23 (crC (v, bx, false, p)) _ kx1 Try.underlying23 rfl (cr_inf _) ?_)
                         | (refine (below1_cr (u9, a9, n9, m9) (v, bx, false, p) z1 HBX.out).mono ?_
                            rintro e z2 ⟨rfl, bb⟩
                            have bj2 := bj1.trans (bb.mono bj1.size)
                            have kx2 := kx1.below bb kx1.lt
                            have kn2 := kn1.below bb kn1.lt
                            have x1 : z2.cell? ⟨wj.heap.size, 1, none⟩ = some (.bool bx) := kx2.cell 1
                            have x2 : z2.cell? ⟨wj.heap.size, 2, none⟩ = some (.bool false) := kx2.cell 2
                            have x3 : z2.cell? ⟨wj.heap.size, 3, none⟩ = some (.int .i64 p) := kx2.cell 3
                            have y1 : z2.cell? ⟨u2.heap.size, 1, none⟩ = some (.bool a9) := kn2.cell 1
                            have y2 : z2.cell? ⟨u2.heap.size, 2, none⟩ = some (.bool n9) := kn2.cell 2
                            have y3 : z2.cell? ⟨u2.heap.size, 3, none⟩ = some (.int .i64 m9) := kn2.cell 3
                            go_wp2_with fail))))
                  go_roundw
                  case rel => exact ⟨j + 1, _, rfl, by omega, by have := HJ1.out; go_num, bj2⟩
                  case measure => simp [intOf]; omega
              · obtain rfl : n9 = true := by cases n9 <;> simp_all
                clear p1
                cases bx
                · obtain rfl : a9 = false := by cases a9 <;> simp_all
                  clear p3
                  cases hp : (p != 0)
                  · obtain rfl : p = 0 := by simpa using hp
                    clear p2 hp
                    go_wp2_with (first
                      | (refine wpList_load_mid rfl 23 (.tmp 37) rfl b2 (off2 + j * 4) rfl (crC (v, false, true, 0)).toList _ hc2 Try.underlying23 rfl (cr_infL _) ?_)
                      | (refine wpList_store_blk rfl 23 (.tmp 10) (.tmp 38) rfl wj.heap.size (crC cr0) (crC (v, false, true, 0)) 23 rfl rfl (Blk.new _ _ _) rfl (cr_inf _) (cr_one _) ?_
                         intro z1 kx1 g1
                         have bb := newC rfl g1
                         have bj1 := bj.trans (bb.mono bj.size)
                         have kn1 := knj.below bb knj.lt
                         clear bb g1 knj
                         go_wp2_with (first
                           | (refine wpListG_load (by rfl) 23 (.tmp 8) rfl u2.heap.size rfl 23 (crC (u9, false, true, m9)) _ kn1 Try.underlying23 rfl (cr_inf _) ?_)
                           | (refine wpListG_load (by rfl) 23 (.tmp 10) rfl wj.heap.size rfl 23 (crC (v, false, true, 0)) _ kx1 Try.underlying23 rfl (cr_inf _) ?_)
                           | (refine (below1_cr (u9, false, true, m9) (v, false, true, 0) z1 HBX.out).mono ?_
                              rintro e z2 ⟨rfl, bb⟩
                              have bj2 := bj1.trans (bb.mono bj1.size)
                              have kx2 := kx1.below bb kx1.lt
                              have kn2 := kn1.below bb kn1.lt
                              have x1 : z2.cell? ⟨wj.heap.size, 1, none⟩ = some (.bool false) := kx2.cell 1
                              have x2 : z2.cell? ⟨wj.heap.size, 2, none⟩ = some (.bool true) := kx2.cell 2
                              have x3 : z2.cell? ⟨wj.heap.size, 3, none⟩ = some (.int .i64 0) := kx2.cell 3
                              have y1 : z2.cell? ⟨u2.heap.size, 1, none⟩ = some (.bool false) := kn2.cell 1
                              have y2 : z2.cell? ⟨u2.heap.size, 2, none⟩ = some (.bool true) := kn2.cell 2
                              have y3 : z2.cell? ⟨u2.heap.size, 3, none⟩ = some (.int .i64 m9) := kn2.cell 3
                              go_wp2_with fail))))
                    go_roundw
                    case rel => exact ⟨j + 1, _, rfl, by omega, by have := HJ1.out; go_num, bj2⟩
                    case measure => simp [intOf]; omega
                  · rw [hp, Bool.true_and] at p2
                    go_wp2_with (first
                      | (refine wpList_load_mid rfl 23 (.tmp 37) rfl b2 (off2 + j * 4) rfl (crC (v, false, true, p)).toList _ hc2 Try.underlying23 rfl (cr_infL _) ?_)
                      | (refine wpList_store_blk rfl 23 (.tmp 10) (.tmp 38) rfl wj.heap.size (crC cr0) (crC (v, false, true, p)) 23 rfl rfl (Blk.new _ _ _) rfl (cr_inf _) (cr_one _) ?_
                         intro z1 kx1 g1
                         have bb := newC rfl g1
                         have bj1 := bj.trans (bb.mono bj.size)
                         have kn1 := knj.below bb knj.lt
                         clear bb g1 knj
                         go_wp2_with (first
                           | (refine wpListG_load (by rfl) 23 (.tmp 8) rfl u2.heap.size rfl 23 (crC (u9, false, true, m9)) _ kn1 Try.underlying23 rfl (cr_inf _) ?_)
                           | (refine wpListG_load (by rfl) 23 (.tmp 10) rfl wj.heap.size rfl 23 (crC (v, false, true, p)) _ kx1 Try.underlying23 rfl (cr_inf _) ?_)
                           | (refine (below1_cr (u9, false, true, m9) (v, false, true, p) z1 HBX.out).mono ?_
                              rintro e z2 ⟨rfl, bb⟩
                              have bj2 := bj1.trans (bb.mono bj1.size)
                              have kx2 := kx1.below bb kx1.lt
                              have kn2 := kn1.below bb kn1.lt
                              have x1 : z2.cell? ⟨wj.heap.size, 1, none⟩ = some (.bool false) := kx2.cell 1
                              have x2 : z2.cell? ⟨wj.heap.size, 2, none⟩ = some (.bool true) := kx2.cell 2
                              have x3 : z2.cell? ⟨wj.heap.size, 3, none⟩ = some (.int .i64 p) := kx2.cell 3
                              have y1 : z2.cell? ⟨u2.heap.size, 1, none⟩ = some (.bool false) := kn2.cell 1
                              have y2 : z2.cell? ⟨u2.heap.size, 2, none⟩ = some (.bool true) := kn2.cell 2
                              have y3 : z2.cell? ⟨u2.heap.size, 3, none⟩ = some (.int .i64 m9) := kn2.cell 3
                              go_wp2_with fail))))
                    go_roundw
                    case rel => exact ⟨j + 1, _, rfl, by omega, by have := HJ1.out; go_num, bj2⟩
                    case measure => simp [intOf]; omega
                · clear p3
                  cases hp : (p != 0)
                  · obtain rfl : p = 0 := by simpa using hp
                    clear p2 hp
                    go_wp2_with (first
                      | (refine wpList_load_mid rfl 23 (.tmp 37) rfl b2 (off2 + j * 4) rfl (crC (v, true, true, 0)).toList _ hc2 Try.underlying23 rfl (cr_infL _) ?_)
                      | (refine wpList_store_blk rfl 23 (.tmp 10) (.tmp 38) rfl wj.heap.size (crC cr0) (crC (v, true, true, 0)) 23 rfl rfl (Blk.new _ _ _) rfl (cr_inf _) (cr_one _) ?_
                         intro z1 kx1 g1
                         have bb := newC rfl g1
                         have bj1 := bj.trans (bb.mono bj.size)
                         have kn1 := knj.below bb knj.lt
                         clear bb g1 knj
                         go_wp2_with (first
                           | (refine wpListG_load (by rfl) 23 (.tmp 8) rfl u2.heap.size rfl 23 (crC (u9, a9, true, m9)) _ kn1 Try.underlying23 rfl (cr_inf _) ?_)
                           | (refine wpListG_load (by rfl) 23 (.tmp 10) rfl wj.heap.size rfl 23 (crC (v, true, true, 0)) _ kx1 Try.underlying23 rfl (cr_inf _) ?_)
                           | (refine (below1_cr (u9, a9, true, m9) (v, true, true, 0) z1 HBX.out).mono ?_
                              rintro e z2 ⟨rfl, bb⟩
                              have bj2 := bj1.trans (bb.mono bj1.size)
                              have kx2 := kx1.below bb kx1.lt
                              have kn2 := kn1.below bb kn1.lt
                              have x1 : z2.cell? ⟨wj.heap.size, 1, none⟩ = some (.bool true) := kx2.cell 1
                              have x2 : z2.cell? ⟨wj.heap.size, 2, none⟩ = some (.bool true) := kx2.cell 2
                              have x3 : z2.cell? ⟨wj.heap.size, 3, none⟩ = some (.int .i64 0) := kx2.cell 3
                              have y1 : z2.cell? ⟨u2.heap.size, 1, none⟩ = some (.bool a9) := kn2.cell 1
                              have y2 : z2.cell? ⟨u2.heap.size, 2, none⟩ = some (.bool true) := kn2.cell 2
                              have y3 : z2.cell? ⟨u2.heap.size, 3, none⟩ = some (.int .i64 m9) := kn2.cell 3
                              go_wp2_with fail))))
                    go_roundw
                    case rel => exact ⟨j + 1, _, rfl, by omega, by have := HJ1.out; go_num, bj2⟩
                    case measure => simp [intOf]; omega
                  · rw [hp, Bool.true_and] at p2
                    go_wp2_with (first
                      | (refine wpList_load_mid rfl 23 (.tmp 37) rfl b2 (off2 + j * 4) rfl (crC (v, true, true, p)).toList _ hc2 Try.underlying23 rfl (cr_infL _) ?_)
                      | (refine wpList_store_blk rfl 23 (.tmp 10) (.tmp 38) rfl wj.heap.size (crC cr0) (crC (v, true, true, p)) 23 rfl rfl (Blk.new _ _ _) rfl (cr_inf _) (cr_one _) ?_
                         intro z1 kx1 g1
                         have bb := newC rfl g1
                         have bj1 := bj.trans (bb.mono bj.size)
                         have kn1 := knj.below bb knj.lt
                         clear bb g1 knj
                         go_wp2_with (first
                           | (refine wpListG_load (by rfl) 23 (.tmp 8) rfl u2.heap.size rfl 23 (crC (u9, a9, true, m9)) _ kn1 Try.underlying23 rfl (cr_inf _) ?_)
                           | (refine wpListG_load (by rfl) 23 (.tmp 10) rfl wj.heap.size rfl 23 (crC (v, true, true, p)) _ kx1 Try.underlying23 rfl (cr_inf _) ?_)
                           | (refine (below1_cr (u9, a9, true, m9) (v, true, true, p) z1 HBX.out).mono ?_
                              rintro e z2 ⟨rfl, bb⟩
                              have bj2 := bj1.trans (bb.mono bj1.size)
                              have kx2 := kx1.below bb kx1.lt
                              have kn2 := kn1.below bb kn1.lt
                              have x1 : z2.cell? ⟨wj.heap.size, 1, none⟩ = some (.bool true) := kx2.cell 1
                              have x2 : z2.cell? ⟨wj.heap.size, 2, none⟩ = some (.bool true) := kx2.cell 2
                              have x3 : z2.cell? ⟨wj.heap.size, 3, none⟩ = some (.int .i64 p) := kx2.cell 3
                              have y1 : z2.cell? ⟨u2.heap.size, 1, none⟩ = some (.bool a9) := kn2.cell 1
                              have y2 : z2.cell? ⟨u2.heap.size, 2, none⟩ = some (.bool true) := kn2.cell 2
                              have y3 : z2.cell? ⟨u2.heap.size, 3, none⟩ = some (.int .i64 m9) := kn2.cell 3
                              go_wp2_with fail))))
                    go_roundw
                    case rel => exact ⟨j + 1, _, rfl, by omega, by have := HJ1.out; go_num, bj2⟩
                    case measure => simp [intOf]; omega
            · obtain rfl : j = m1 := by omega
              have hB5 := hB4.trans (bj.mono hB4.size)
              have kc5 := kc4.below bj kc4.lt
              have co5 := ownsRow_below co4 bj (Nat.le_refl _)
              have hs5 := Nat.le_trans hs2 (Nat.le_trans (by have := kn4.lt; omega) bj.size)
              have hun : u2.heap.size < wj.heap.size := knj.lt
              have bn : Below wj.heap.size wj (wj.alloc (.cells (crC (u9, a9, n9, m9)) 23)) := (Below.refl _ _).alloc (Nat.le_refl _) _
              have kn6 := knj.below bn knj.lt
              have kc6 := kc5.below bn kc5.lt
              have co6 : Co _ _ _ _ _ _ := ownsRow_below co5 bn (Nat.le_refl _)
              have hB6 := hB5.trans (bn.mono hB5.size)
              have hws : w.heap.size + 1 ≤ (wj.alloc (.cells (crC (u9, a9, n9, m9)) 23)).heap.size := by have := kc6.lt; omega
              have hsz : j + 1 ≤ 1000000 := by have := HM1.out; have := HK60.out; omega
              clear hB5 kc5 co5 bn hB4 kc4 co4 kn4 hcz
              have HSZ := Lib.hid hsz
              have hkb : k ≤ 60 := by have := HK60.out; omega
              clear hsz
              go_wp2_with (first
                | (refine wpListG_load (by rfl) 23 (.tmp 8) rfl u2.heap.size rfl 23 #[.int .i64 u9, .bool a9, .bool n9, .int .i64 m9] _ knj Try.underlying23 rfl (cr_inf (u9, a9, n9, m9)) ?_; clear knj)
                | (at_builtin
                   refine wpList_appC rfl (.tmp 78) (.tmp 80) rfl (w.heap.size + 1) A j r L rfl co6 (u9, a9, n9, m9) wj.heap.size rfl (heap_alloc_new _ _) HSZ.out hws ?_
                   intro A2 r2 u7 co7 g7
                   have kn7 : Blk u7 u2.heap.size (crC (u9, a9, n9, m9)) 23 := ⟨(g7.block _ kn6.lt (fun e => by have := hown _ e.symm; omega)).trans kn6.blk⟩
                   have kc7 : Blk u7 w.heap.size (crC c') 23 := ⟨(g7.block _ kc6.lt (fun e => by have := (co6.lt _ e.symm).1; omega)).trans kc6.blk⟩
                   have hB7 : Below w.heap.size w u7 := hB6.grown g7 (by omega) (fun k e => by have := (co6.lt k e).1; omega)
                   clear kn6 kc6 hB6 co6)
                | (refine wpListG_load (by rfl) 23 (.tmp 8) rfl u2.heap.size rfl 23 (crC (u9, a9, n9, m9)) _ kn7 Try.underlying23 rfl (cr_inf (u9, a9, n9, m9)) ?_)
                | (refine wpList_store_blk rfl 23 (.tmp 2) (.tmp 82) rfl w.heap.size (crC c') (crC (u9, a9, n9, m9)) 23 rfl rfl kc7 rfl (cr_inf _) (cr_one _) ?_
                   intro u8 kc8 g8
                   have co8 : Co u8 (w.heap.size + 1) A2 (j + 1) r2 (L ++ [(u9, a9, n9, m9)]) := Co.but co7 g8 (by omega)
                   have hB8 : Below w.heap.size w u8 := hB7.trans (g8.below _ (Nat.le_refl _) hB7.size)))
              go_roundw
              case rel => exact ⟨k + 1, _, (u9, a9, n9, m9), A2, j + 1, r2, L ++ [(u9, a9, n9, m9)], rfl, by have := HLT.out; omega, by go_num, rfl, Lib.hid ⟨⟨hB8, kc8, co8, HRN.out, fun x hx => by
                rcases List.mem_append.1 hx with h | h
                · exact be_trans HBE.out (HBL.out x h)
                · simp at h; subst h; exact be_refl HRN.out⟩, by have := HM1.out; omega, by have := HK60.out; omega⟩⟩
              case measure => have := HLT.out; simp [intOf]; omega
        · go_wp2_with (first
            | (refine wpList_load_mid rfl 40 (.tmp 23) rfl b (off + k * 4) rfl (deC d).toList _ hc Try.underlying40 rfl (de_infL d) ?_)
            | (refine wpList_store_blk rfl 40 (.tmp 7) (.tmp 24) rfl wr.heap.size (deC de0) (deC d) 40 rfl rfl (Blk.new _ _ _) rfl (de_inf d) (de_one d) ?_
               intro u1 kd1 g1
               have bb := newC rfl g1
               have hB1 := hB.trans (bb.mono hB.size)))
          go_ret
          exact ⟨rfl, hB1⟩
      · obtain rfl : k = m0 := by omega
        go_wp2_with fail
        go_ret
        exact ⟨rfl, hB⟩
  · rw [hk] at HC
    unfold crV at HC ⊢
    go_enter Try.func6, Try.ntmps6
    go_wp2_with (first
      | (refine (HW.out _).mono ?_; clear HW; rintro e v1 ⟨rfl, g1⟩; have hB1 := B0.trans (g1.mono B0.size); have k1 := k0.below g1 k0.lt; clear k0)
      | (refine wpListG_load (by rfl) 23 (.tmp 2) rfl w.heap.size rfl 23 (crC c) _ k1 Try.underlying23 rfl (cr_inf _) ?_)
      | (refine (HC.out _).mono ?_; clear HC; rintro e v2 ⟨rfl, g2⟩; have hB2 := hB1.trans (g2.mono hB1.size)))
    go_ret
    exact ⟨rfl, hB2⟩
end Go.Proofs.Yteoeflainejaaaa

/-
  The walk of StepsTells.
-/
import Derived.Test.YtfohifnbohdbcaaScTp
import Derived.Test.YtfohifnbohdbcaaScOv
import Derived.Test.YtfohifnbohdbcaaScRs
import Derived.Test.YtfohifnbohdbcaaScRf
import Derived.Deep.CutRange
import Derived.Deep.CutBlock
namespace Go.Proofs.Ytfohifnbohdbcaa
open Go.RowKit Go.Shelf
set_option linter.unusedVariables false
set_option linter.unusedSimpArgs false

/-- What is known of each world: the two schedules and the two numbers lie in their boxes. -/
structure TL (w : World) (X Y : Array Value) (q0 q1 : Int) (V : World) : Prop where
  b : Below w.heap.size w V
  k3 : Blk V w.heap.size X 25
  k4 : Blk V (w.heap.size + 1) Y 25
  k5 : Blk V (w.heap.size + 1 + 1) #[.int .i64 q0, .int .i64 q1] 38
theorem TL.step {w : World} {X Y : Array Value} {q0 q1 : Int} {V V' : World} (h : TL w X Y q0 q1 V) (bb : Below V.heap.size V V') : TL w X Y q0 q1 V' :=
  ⟨h.b.trans (bb.mono h.b.size), h.k3.below bb h.k3.lt, h.k4.below bb h.k4.lt, h.k5.below bb h.k5.lt⟩
theorem TL.new (w : World) (X Y : Array Value) (q0 q1 : Int) : TL w X Y q0 q1 (((w.alloc (.cells X 25)).alloc (.cells Y 25)).alloc (.cells #[.int .i64 q0, .int .i64 q1] 38)) :=
  ⟨(((Below.refl w.heap.size w).alloc (Nat.le_refl _) _).alloc (by simp) _).alloc (by simp; omega) _, ((Blk.new w X 25).alloc _).alloc _, (Blk.new_ (w.alloc (.cells X 25)) Y 25 (n := w.heap.size + 1) (by simp)).alloc _, Blk.new_ _ _ _ (by simp)⟩
/-- A copy, kept. -/
structure CpV (V : World) (R : List Rn) (L : List Kw) (A : Option Addr) (m c : Nat) (A2 : Option Addr) (m2 c2 : Nat) (L1 : List Kw) : Prop where
  sc : Sc V V.heap.size A m c R A2 m2 c2 L1
  nm : L1.map (·.1) = L.map (·.1)
theorem CopL.cpv {w : World} {v : Value} {B : Nat} {R : List Rn} {L : List Kw} (h : CopL w v B R L) : ∃ A m c A2 m2 c2 L1, v = scV A m c A2 m2 c2 ∧ CpV w R L A m c A2 m2 c2 L1 := by
  obtain ⟨A, m, c, A2, m2, c2, L1, e, sc, hn⟩ := h
  exact ⟨A, m, c, A2, m2, c2, L1, e, sc, hn⟩
theorem CpV.step {V V' : World} {R : List Rn} {L : List Kw} {A : Option Addr} {m c : Nat} {A2 : Option Addr} {m2 c2 : Nat} {L1 : List Kw} (h : CpV V R L A m c A2 m2 c2 L1) (b : Below V.heap.size V V') : CpV V' R L A m c A2 m2 c2 L1 := ⟨h.sc.on b, h.nm⟩
theorem wpList_app1Z {w : World} {ops : Array Oper} {rest : List Oper} {o : Oper} {a : Act} {Q : Exit → Act → World → Prop} (hgd : o.guard = none) (s x : Operand)
    (ho : o.op = .call { callee := .builtin .append, args := #[s, x], argTypes := #[40, 40] })
    (base : Nat) (A : Option Addr) (m c : Nat) (l : List Int) (hs : a.eval s = .slice A m c) (hown : Zo w base A m c l) (g : Nat) (y : Int) (hx : a.eval x = .slice (some ⟨g, 0, none⟩) 1 1) (hc : w.cell? ⟨g, 0, none⟩ = some (.int .i64 y)) (h6 : m ≤ 1000000) (hbase : base ≤ w.heap.size)
    (h : ∀ A' c' w', Zo w' base A' (m + 1) c' (l ++ [y]) → Below base w w' → wpList Try.prog ops Q rest (a.put o.dst (.slice A' (m + 1) c')) w') :
    wpList Try.prog ops Q (o :: rest) a w := by
  obtain ⟨i0, hi, hz0, hz1, hz2⟩ := info_parts zint_info
  refine wpList_append_own w hgd s x 40 ho base 3 i0 _ 1 8 Try.underlying40 hi hz0 hz1 hz2 rfl (by decide) _ _ _ hs hown ⟨g, 0, none⟩ 1 1 [.int .i64 y] hx rfl ?_ (by simp [Value.oneCell']) (by simp only [maxLen]; omega) (by omega) hbase ?_
  · intro j u hu
    match j, hu with
    | 0, hu =>
      simp only [List.getElem?_cons_zero, Option.some.injEq] at hu
      subst hu
      simpa [Addr.add] using hc
    | j + 1, hu => simp at hu
  · intro v' w3 hown' hgrow _
    obtain ⟨A9, c9, rfl⟩ := own_slice hown'
    exact h A9 c9 w3 (by unfold Zo; rw [List.map_append]; exact hown') ((Below.refl base w).grown hgrow hbase (fun r e => (hown.lt r e).1))
structure TM (w : World) (X Y : Array Value) (q0 q1 : Int) (g : Nat) (lx : Kw) (V : World) : Prop where
  t : TL w X Y q0 q1 V
  k : Blk V g (kwC lx) 48
theorem TM.step {w : World} {X Y : Array Value} {q0 q1 : Int} {g : Nat} {lx : Kw} {V V' : World} (h : TM w X Y q0 q1 g lx V) (bb : Below V.heap.size V V') : TM w X Y q0 q1 g lx V' := ⟨h.t.step bb, h.k.below bb h.k.lt⟩
theorem ownerF_fnd (L : List Kw) (n : Int) : ownerF L n = (fndK L n).1.1.o := by
  unfold ownerF fndK
  cases lockF L n <;> rfl
theorem any_takeW {R : List Rn} {k : Nat} (hk : k < R.length) : (R.take (k + 1)).any waitB = ((R.take k).any waitB || waitB (R.getD k rn0)) := by
  rw [List.take_succ_eq_append_getElem hk, show R.getD k rn0 = R[k] by simp [List.getD, hk], List.any_append]
  simp
theorem notright {R : List Rn} {L : List Kw} (h : schB R L = false) (q0 q1 : Int) : scE R L = 230 ∧ rdyA R L = [] ∧ ownerA R L q1 = 0 ∧ ownsA R L q1 = [] ∧ stuckA R L = false := by
  have e : scE R L = 230 := by unfold scE; rw [h, if_neg (by simp)]
  refine ⟨e, ?_, ?_, ?_, ?_⟩
  · unfold rdyA; rw [e, if_neg (by decide)]
  · unfold ownerA; rw [e, if_neg (by decide)]
  · unfold ownsA; rw [e, if_neg (by decide)]
  · unfold stuckA; rw [e, decide_eq_false (by decide), Bool.false_and]
set_option maxRecDepth 100000 in
set_option maxHeartbeats 40000000 in
theorem tells13_law (A : Option Addr) (m c : Nat) (R : List Rn) (A2 : Option Addr) (m2 c2 : Nat) (L : List Kw) (B : Option Addr) (n d : Nat) (R2 : List Rn) (B2 : Option Addr) (n2 d2 : Nat) (L2 : List Kw) (q0 q1 : Int) (w : World)
    (h : ScW w w.heap.size A m c R A2 m2 c2 L) (h2 : ScW w w.heap.size B n d R2 B2 n2 d2 L2) (hq : (Lit.int .i64 q0).wf = true)
    (hR : ∀ V, Sc V V.heap.size A m c R A2 m2 c2 L → Calls Try.prog 26 #[scV A m c A2 m2 c2] V fun e w' => e = .returned (.bool (schB R L)) ∧ Below V.heap.size V w') :
    Calls Try.prog 5 #[scV A m c A2 m2 c2, scV B n d B2 n2 d2, .agg #[.int .i64 q0, .int .i64 q1]] w fun e w' => e = .returned (.bool true) ∧ Below w.heap.size w w' := by
  have J0 := TL.new w (scC A m c A2 m2 c2) (scC B n d B2 n2 d2) q0 q1
  have HWK := Lib.hid (fun (V : World) => wakes13_any V)
  have HO1 := Lib.hid (fun (V : World) (hV : Below w.heap.size w V) => over_sc A m c R A2 m2 c2 L V (h.on hV))
  have HO2 := Lib.hid (fun (V : World) (hV : Below w.heap.size w V) => over_sc B n d R2 B2 n2 d2 L2 V (h2.on hV))
  have HS := Lib.hid (fun (ho : overS R L = false) => over_sc0 h ho)
  have HS2 := Lib.hid (fun (ho : overS R2 L2 = false) => over_sc0 h2 ho)
  have HR := Lib.hid hR
  have HQ := Lib.hid hq
  generalize overS R L = o1 at HO1 HS
  generalize overS R2 L2 = o2 at HO2 HS2
  clear h h2 hR hq
  unfold scV at HO1 HO2 HR ⊢
  go_enter Try.func5, Try.ntmps5
  cases o1
  · cases o2
    · have HSs := Lib.hid (HS.out rfl)
      have HSt := Lib.hid (HS2.out rfl)
      clear HS HS2
      obtain ⟨E, hE⟩ : ∃ E, scE R L = E := ⟨_, rfl⟩
      have HE := Lib.hid hE
      obtain ⟨sB, hsB⟩ : ∃ b, schB R L = b := ⟨_, rfl⟩
      rw [hsB] at HR
      have HSC := Lib.hid hsB
      obtain ⟨⟨pk, ok⟩, hpk⟩ : ∃ p, pickV (rdyA R L) q0 = p := ⟨_, rfl⟩
      have HP := Lib.hid hpk
      obtain ⟨sb, hsb⟩ : ∃ b, sameS R R2 L L2 = b := ⟨_, rfl⟩
      have HSB := Lib.hid hsb
      clear hE hsB hpk hsb
      have HCO := Lib.hid (fun (V : World) (hV : Below w.heap.size w V) => lcopied_sc A m c R A2 m2 c2 L V (HSs.out.on hV))
      unfold scV at HCO
      go_wp2_with (first
        | (refine (HWK.out _).mono ?_
           clear HWK
           rintro e w1 ⟨rfl, bb⟩
           have J1 := J0.step bb
           clear bb J0)
        | (refine wpListG_load (by rfl) 25 (.tmp 3) rfl (w.heap.size) rfl 25 (scC A m c A2 m2 c2) _ J1.k3 Try.underlying25 rfl (sc_inf _ _ _ _ _ _) ?_)
        | (refine (HO1.out _ J1.b).mono ?_
           clear HO1
           rintro e w2 ⟨rfl, bb⟩
           have J2 := J1.step bb
           clear bb J1)
        | (refine wpListG_load (by rfl) 25 (.tmp 4) rfl (w.heap.size + 1) rfl 25 (scC B n d B2 n2 d2) _ J2.k4 Try.underlying25 rfl (sc_inf _ _ _ _ _ _) ?_)
        | (refine (HO2.out _ J2.b).mono ?_
           clear HO2
           rintro e w3 ⟨rfl, bb⟩
           have J3 := J2.step bb
           clear bb J2)
        | (refine wpListG_load (by rfl) 25 (.tmp 3) rfl (w.heap.size) rfl 25 (scC A m c A2 m2 c2) _ J3.k3 Try.underlying25 rfl (sc_inf _ _ _ _ _ _) ?_)
        | (refine (HCO.out _ J3.b).mono ?_
           rintro e w4 ⟨v, rfl, cv, bb⟩
           obtain ⟨A4, m4, c4, D4, n4, d4, L4, rfl, hc4⟩ := cv.cpv
           have J4 := J3.step bb
           clear bb J3 cv
           unfold scV)
        | (have CC := check_sc A4 m4 c4 R D4 n4 d4 L4 w4 hc4.sc
           rw [scE_names hc4.nm, HE.out] at CC
           unfold scV at CC
           refine CC.mono ?_
           rintro e w5 ⟨rfl, bb⟩
           have J5 := J4.step bb
           clear CC bb J4 hc4)
        | (refine wpListG_load (by rfl) 25 (.tmp 3) rfl (w.heap.size) rfl 25 (scC A m c A2 m2 c2) _ J5.k3 Try.underlying25 rfl (sc_inf _ _ _ _ _ _) ?_)
        | (refine (HCO.out _ J5.b).mono ?_
           rintro e w6 ⟨v, rfl, cv, bb⟩
           obtain ⟨A6, m6, c6, D6, n6, d6, L6, rfl, hc6⟩ := cv.cpv
           have J6 := J5.step bb
           clear bb J5 cv
           unfold scV)
        | (have CC := ready_sc A6 m6 c6 R D6 n6 d6 L6 w6 hc6.sc
           rw [rdyA_names hc6.nm] at CC
           unfold scV at CC
           refine CC.mono ?_
           rintro e w7 ⟨G, gm, gc, rfl, zo, bb⟩
           have J := J6.step bb
           have z7 := zo.down J6.b.size
           clear CC bb J6 hc6 zo))
      try simp only [Act.put]
      refine region_cutP ?_
      have bd : Below w7.heap.size w7 w7.drew := (Below.refl _ _).drew
      have J := J.step bd
      have z7 := z7.below bd (Nat.le_refl _)
      clear bd
      refine wp_region_held_drew (S := (TL w (scC A m c A2 m2 c2) (scC B n d B2 n2 d2) q0 q1)) (by kernel_rfl) J (fun _ => ?_)
      generalize w7.drew = w7d at J z7 ⊢
      refine wpAnyH_take (i := 0) (v := .agg (scC A m c A2 m2 c2)) rfl (by kernel_rfl) (by kernel_rfl) (by kernel_rfl) (fun _ _ _ h => nomatch h.1) (yieldsIf_blk (by rfl) 25 (.tmp 3) rfl (w.heap.size) rfl (scC A m c A2 m2 c2) 25 _ (fun _ h => h.k3) Try.underlying25 rfl (sc_inf _ _ _ _ _ _)) J ?_
      try simp only [Act.put, List.getElem_toArray, List.getElem_cons_zero, List.getElem_cons_succ, List.setIfInBounds_toArray, List.set_cons_zero, List.set_cons_succ]
      refine wpAnyH_take (i := 2) (v := .pointer (some ⟨w.heap.size + 1 + 1, 0, none⟩)) rfl (by kernel_rfl) (by kernel_rfl) (by kernel_rfl) (fun _ _ _ h => nomatch h.1) (.inl ⟨by rfl, fun V hV => by go_simp⟩) J ?_
      try simp only [Act.put, List.getElem_toArray, List.getElem_cons_zero, List.getElem_cons_succ, List.setIfInBounds_toArray, List.set_cons_zero, List.set_cons_succ]
      refine wpAnyH_take (i := 3) (v := .int .i64 q0) rfl (by kernel_rfl) (by kernel_rfl) (by kernel_rfl) (fun _ _ _ h => nomatch h.1) (.inl ⟨by rfl, fun V hV => by have c5 := hV.k5.cell 0; simp only [List.getElem?_toArray, List.getElem?_cons_zero, List.getElem?_cons_succ] at c5; go_simp⟩) J ?_
      try simp only [Act.put, List.getElem_toArray, List.getElem_cons_zero, List.getElem_cons_succ, List.setIfInBounds_toArray, List.set_cons_zero, List.set_cons_succ]
      refine wpAnyH_ready (rs := [1]) (by kernel_rfl) (by simp) ?_
      refine AllReadyH.cons rfl (fun K hK => ?_) AllReadyH.nil
      try simp only [Act.put, List.getElem_toArray, List.getElem_cons_zero, List.getElem_cons_succ, List.setIfInBounds_toArray, List.set_cons_zero, List.set_cons_succ]
      go_simp
      refine (HCO.out _ J.b).mono ?_
      rintro e W8 ⟨v, rfl, cv, bb⟩
      obtain ⟨A8, m8, c8, D8, n8, d8, L8, rfl, hc8⟩ := cv.cpv
      unfold scV
      go_wp2_with fail
      have J := J.step bb
      have z7 := z7.below bb (Nat.le_refl _)
      clear bb cv
      refine hK.out _ _ J (fun _ => ?_)
      clear hK K
      try simp only [Act.put, List.getElem_toArray, List.getElem_cons_zero, List.getElem_cons_succ, List.setIfInBounds_toArray, List.set_cons_zero, List.set_cons_succ]
      refine wpAnyH_ready (rs := [4]) (by kernel_rfl) (by simp) ?_
      refine AllReadyH.cons rfl (fun K hK => ?_) AllReadyH.nil
      try simp only [Act.put, List.getElem_toArray, List.getElem_cons_zero, List.getElem_cons_succ, List.setIfInBounds_toArray, List.set_cons_zero, List.set_cons_succ]
      have CC := pick_sc A8 m8 c8 R D8 n8 d8 L8 q0 _ hc8.sc
      rw [rdyA_names hc8.nm, HP.out] at CC
      unfold scV at CC
      go_simp
      refine CC.mono ?_
      rintro e U8 ⟨rfl, bb⟩
      go_wp2_with fail
      have J := J.step bb
      have z7 := z7.below bb (Nat.le_refl _)
      clear bb CC hc8
      refine hK.out _ _ J (fun _ => ?_)
      clear hK K
      try simp only [Act.put, List.getElem_toArray, List.getElem_cons_zero, List.getElem_cons_succ, List.setIfInBounds_toArray, List.set_cons_zero, List.set_cons_succ]
      refine wpAnyH_take (i := 5) (v := .tuple #[.int .i64 pk, .bool ok]) rfl (by kernel_rfl) (by kernel_rfl) (by kernel_rfl) (fun _ _ _ h => nomatch h.1) (.inl ⟨by rfl, fun V hV => by go_simp⟩) J ?_
      try simp only [Act.put, List.getElem_toArray, List.getElem_cons_zero, List.getElem_cons_succ, List.setIfInBounds_toArray, List.set_cons_zero, List.set_cons_succ]
      refine wpAnyH_take (i := 6) (v := .int .i64 pk) rfl (by kernel_rfl) (by kernel_rfl) (by kernel_rfl) (fun _ _ _ h => nomatch h.1) (.inl ⟨by rfl, fun V hV => by go_simp⟩) J ?_
      try simp only [Act.put, List.getElem_toArray, List.getElem_cons_zero, List.getElem_cons_succ, List.setIfInBounds_toArray, List.set_cons_zero, List.set_cons_succ]
      refine wpAnyH_take (i := 7) (v := .bool ok) rfl (by kernel_rfl) (by kernel_rfl) (by kernel_rfl) (fun _ _ _ h => nomatch h.1) (.inl ⟨by rfl, fun V hV => by go_simp⟩) J ?_
      try simp only [Act.put, List.getElem_toArray, List.getElem_cons_zero, List.getElem_cons_succ, List.setIfInBounds_toArray, List.set_cons_zero, List.set_cons_succ]
      refine wpAnyH_take (i := 8) (v := .int .i64 pk) rfl (by kernel_rfl) (by kernel_rfl) (by kernel_rfl) (fun _ _ _ h => nomatch h.1) (.inl ⟨by rfl, fun V hV => by go_simp⟩) J ?_
      try simp only [Act.put, List.getElem_toArray, List.getElem_cons_zero, List.getElem_cons_succ, List.setIfInBounds_toArray, List.set_cons_zero, List.set_cons_succ]
      refine wpAnyH_take (i := 9) (v := .bool ok) rfl (by kernel_rfl) (by kernel_rfl) (by kernel_rfl) (fun _ _ _ h => nomatch h.1) (.inl ⟨by rfl, fun V hV => by go_simp⟩) J ?_
      try simp only [Act.put, List.getElem_toArray, List.getElem_cons_zero, List.getElem_cons_succ, List.setIfInBounds_toArray, List.set_cons_zero, List.set_cons_succ]
      refine wpAnyH_done (by kernel_rfl) ?_ _
      refine ⟨rfl, ?_⟩
      go_wp2_with fail
      try simp only [Act.put]
      refine region_cutP ?_
      have bd : Below U8.heap.size U8 U8.drew := (Below.refl _ _).drew
      have J := J.step bd
      have z7 := z7.below bd (Nat.le_refl _)
      clear bd
      refine wp_region_held_drew (S := (TL w (scC A m c A2 m2 c2) (scC B n d B2 n2 d2) q0 q1)) (by kernel_rfl) J (fun _ => ?_)
      generalize U8.drew = U8d at J z7 ⊢
      refine wpAnyH_take (i := 0) (v := .agg (scC A m c A2 m2 c2)) rfl (by kernel_rfl) (by kernel_rfl) (by kernel_rfl) (fun _ _ _ h => nomatch h.1) (yieldsIf_blk (by rfl) 25 (.tmp 3) rfl (w.heap.size) rfl (scC A m c A2 m2 c2) 25 _ (fun _ h => h.k3) Try.underlying25 rfl (sc_inf _ _ _ _ _ _)) J ?_
      try simp only [Act.put, List.getElem_toArray, List.getElem_cons_zero, List.getElem_cons_succ, List.setIfInBounds_toArray, List.set_cons_zero, List.set_cons_succ]
      refine wpAnyH_take (i := 1) (v := .agg (scC B n d B2 n2 d2)) rfl (by kernel_rfl) (by kernel_rfl) (by kernel_rfl) (fun _ _ _ h => nomatch h.1) (yieldsIf_blk (by rfl) 25 (.tmp 4) rfl (w.heap.size + 1) rfl (scC B n d B2 n2 d2) 25 _ (fun _ h => h.k4) Try.underlying25 rfl (sc_inf _ _ _ _ _ _)) J ?_
      try simp only [Act.put, List.getElem_toArray, List.getElem_cons_zero, List.getElem_cons_succ, List.setIfInBounds_toArray, List.set_cons_zero, List.set_cons_succ]
      refine wpAnyH_take (i := 3) (v := .agg (scC A m c A2 m2 c2)) rfl (by kernel_rfl) (by kernel_rfl) (by kernel_rfl) (fun _ _ _ h => nomatch h.1) (yieldsIf_blk (by rfl) 25 (.tmp 3) rfl (w.heap.size) rfl (scC A m c A2 m2 c2) 25 _ (fun _ h => h.k3) Try.underlying25 rfl (sc_inf _ _ _ _ _ _)) J ?_
      try simp only [Act.put, List.getElem_toArray, List.getElem_cons_zero, List.getElem_cons_succ, List.setIfInBounds_toArray, List.set_cons_zero, List.set_cons_succ]
      refine wpAnyH_take (i := 4) (v := .agg (scC B n d B2 n2 d2)) rfl (by kernel_rfl) (by kernel_rfl) (by kernel_rfl) (fun _ _ _ h => nomatch h.1) (yieldsIf_blk (by rfl) 25 (.tmp 4) rfl (w.heap.size + 1) rfl (scC B n d B2 n2 d2) 25 _ (fun _ h => h.k4) Try.underlying25 rfl (sc_inf _ _ _ _ _ _)) J ?_
      try simp only [Act.put, List.getElem_toArray, List.getElem_cons_zero, List.getElem_cons_succ, List.setIfInBounds_toArray, List.set_cons_zero, List.set_cons_succ]
      refine wpAnyH_ready (rs := [2]) (by kernel_rfl) (by simp) ?_
      refine AllReadyH.cons rfl (fun K hK => ?_) AllReadyH.nil
      try simp only [Act.put, List.getElem_toArray, List.getElem_cons_zero, List.getElem_cons_succ, List.setIfInBounds_toArray, List.set_cons_zero, List.set_cons_succ]
      have CC := same_sc A m c R A2 m2 c2 L B n d R2 B2 n2 d2 L2 _ (HSs.out.on J.b) (HSt.out.on J.b)
      rw [HSB.out] at CC
      unfold scV at CC
      go_simp
      refine CC.mono ?_
      rintro e U9 ⟨rfl, bb⟩
      go_wp2_with fail
      have J := J.step bb
      have z7 := z7.below bb (Nat.le_refl _)
      clear bb CC
      refine hK.out _ _ J (fun _ => ?_)
      clear hK K
      try simp only [Act.put, List.getElem_toArray, List.getElem_cons_zero, List.getElem_cons_succ, List.setIfInBounds_toArray, List.set_cons_zero, List.set_cons_succ]
      refine wpAnyH_ready (rs := [5]) (by kernel_rfl) (by simp) ?_
      refine AllReadyH.cons rfl (fun K hK => ?_) AllReadyH.nil
      try simp only [Act.put, List.getElem_toArray, List.getElem_cons_zero, List.getElem_cons_succ, List.setIfInBounds_toArray, List.set_cons_zero, List.set_cons_succ]
      have CC := rsame_sc A m c R A2 m2 c2 L B n d R2 B2 n2 d2 L2 _ (HSs.out.on J.b) (HSt.out.on J.b)
      rw [HSB.out] at CC
      unfold scV at CC
      go_simp
      refine CC.mono ?_
      rintro e U10 ⟨rfl, bb⟩
      go_wp2_with fail
      have J := J.step bb
      have z7 := z7.below bb (Nat.le_refl _)
      clear bb CC
      refine hK.out _ _ J (fun _ => ?_)
      clear hK K
      try simp only [Act.put, List.getElem_toArray, List.getElem_cons_zero, List.getElem_cons_succ, List.setIfInBounds_toArray, List.set_cons_zero, List.set_cons_succ]
      refine wpAnyH_take (i := 6) (v := .bool false) rfl (by kernel_rfl) (by kernel_rfl) (by kernel_rfl) (fun _ _ _ h => nomatch h.1) (.inl ⟨by rfl, fun V hV => by cases sb <;> go_simp⟩) J ?_
      try simp only [Act.put, List.getElem_toArray, List.getElem_cons_zero, List.getElem_cons_succ, List.setIfInBounds_toArray, List.set_cons_zero, List.set_cons_succ]
      refine wpAnyH_take (i := 7) (v := .bool false) rfl (by kernel_rfl) (by kernel_rfl) (by kernel_rfl) (fun _ _ _ h => nomatch h.1) (.inl ⟨by rfl, fun V hV => by go_simp⟩) J ?_
      try simp only [Act.put, List.getElem_toArray, List.getElem_cons_zero, List.getElem_cons_succ, List.setIfInBounds_toArray, List.set_cons_zero, List.set_cons_succ]
      refine wpAnyH_take (i := 8) (v := .agg (scC A m c A2 m2 c2)) rfl (by kernel_rfl) (by kernel_rfl) (by kernel_rfl) (fun _ _ _ h => nomatch h.1) (yieldsIf_blk (by rfl) 25 (.tmp 3) rfl (w.heap.size) rfl (scC A m c A2 m2 c2) 25 _ (fun _ h => h.k3) Try.underlying25 rfl (sc_inf _ _ _ _ _ _)) J ?_
      try simp only [Act.put, List.getElem_toArray, List.getElem_cons_zero, List.getElem_cons_succ, List.setIfInBounds_toArray, List.set_cons_zero, List.set_cons_succ]
      refine wpAnyH_take (i := 9) (v := .agg (scC A m c A2 m2 c2)) rfl (by kernel_rfl) (by kernel_rfl) (by kernel_rfl) (fun _ _ _ h => nomatch h.1) (yieldsIf_blk (by rfl) 25 (.tmp 3) rfl (w.heap.size) rfl (scC A m c A2 m2 c2) 25 _ (fun _ h => h.k3) Try.underlying25 rfl (sc_inf _ _ _ _ _ _)) J ?_
      try simp only [Act.put, List.getElem_toArray, List.getElem_cons_zero, List.getElem_cons_succ, List.setIfInBounds_toArray, List.set_cons_zero, List.set_cons_succ]
      refine wpAnyH_ready (rs := [10]) (by kernel_rfl) (by simp) ?_
      refine AllReadyH.cons rfl (fun K hK => ?_) AllReadyH.nil
      try simp only [Act.put, List.getElem_toArray, List.getElem_cons_zero, List.getElem_cons_succ, List.setIfInBounds_toArray, List.set_cons_zero, List.set_cons_succ]
      go_simp
      refine (HCO.out _ J.b).mono ?_
      rintro e W11 ⟨v, rfl, cv, bb⟩
      obtain ⟨A11, m11, c11, D11, n11, d11, L11, rfl, hc11⟩ := cv.cpv
      unfold scV
      go_wp2_with fail
      have J := J.step bb
      have z7 := z7.below bb (Nat.le_refl _)
      clear bb cv
      refine hK.out _ _ J (fun _ => ?_)
      clear hK K
      try simp only [Act.put, List.getElem_toArray, List.getElem_cons_zero, List.getElem_cons_succ, List.setIfInBounds_toArray, List.set_cons_zero, List.set_cons_succ]
      refine wpAnyH_ready (rs := [11]) (by kernel_rfl) (by simp) ?_
      refine AllReadyH.cons rfl (fun K hK => ?_) AllReadyH.nil
      try simp only [Act.put, List.getElem_toArray, List.getElem_cons_zero, List.getElem_cons_succ, List.setIfInBounds_toArray, List.set_cons_zero, List.set_cons_succ]
      have CC := same_sc A m c R A2 m2 c2 L A11 m11 c11 R D11 n11 d11 L11 _ (HSs.out.on J.b) hc11.sc
      rw [same_names hc11.nm] at CC
      unfold scV at CC
      go_simp
      refine CC.mono ?_
      rintro e U12 ⟨rfl, bb⟩
      go_wp2_with fail
      have J := J.step bb
      have z7 := z7.below bb (Nat.le_refl _)
      clear bb CC hc11
      refine hK.out _ _ J (fun _ => ?_)
      clear hK K
      try simp only [Act.put, List.getElem_toArray, List.getElem_cons_zero, List.getElem_cons_succ, List.setIfInBounds_toArray, List.set_cons_zero, List.set_cons_succ]
      refine wpAnyH_take (i := 12) (v := .bool false) rfl (by kernel_rfl) (by kernel_rfl) (by kernel_rfl) (fun _ _ _ h => nomatch h.1) (.inl ⟨by rfl, fun V hV => by go_simp⟩) J ?_
      try simp only [Act.put, List.getElem_toArray, List.getElem_cons_zero, List.getElem_cons_succ, List.setIfInBounds_toArray, List.set_cons_zero, List.set_cons_succ]
      refine wpAnyH_take (i := 13) (v := .bool false) rfl (by kernel_rfl) (by kernel_rfl) (by kernel_rfl) (fun _ _ _ h => nomatch h.1) (.inl ⟨by rfl, fun V hV => by go_simp⟩) J ?_
      try simp only [Act.put, List.getElem_toArray, List.getElem_cons_zero, List.getElem_cons_succ, List.setIfInBounds_toArray, List.set_cons_zero, List.set_cons_succ]
      refine wpAnyH_done (by kernel_rfl) ?_ _
      refine ⟨rfl, ?_⟩
      cases sB
      · have HX := notright (HSC.out) q0 q1
        obtain ⟨x1, x2, x3, x4, x5⟩ := HX
        obtain rfl : E = 230 := by rw [← HE.out]; exact x1
        obtain ⟨rfl, rfl⟩ : pk = 0 ∧ ok = false := by have := HP.out; rw [x2] at this; injection this with a b; exact ⟨a.symm, b.symm⟩
        obtain rfl : gm = 0 := by have := z7.len; rw [x2] at this; exact this
        have HX3 := Lib.hid x3
        have HX4 := Lib.hid x4
        have HX5 := Lib.hid x5
        clear HP HE x1 x2 x3 x4 x5
        go_wp2_with (first
          | (refine wpListG_load (by rfl) 25 (.tmp 3) rfl (w.heap.size) rfl 25 (scC A m c A2 m2 c2) _ J.k3 Try.underlying25 rfl (sc_inf _ _ _ _ _ _) ?_)
          | (refine (HR.out _ (HSs.out.on J.b)).mono ?_
             clear HR
             rintro e w13 ⟨rfl, bb⟩
             have J := J.step bb
             have z7 := z7.below bb (Nat.le_refl _)
             clear bb))
        try simp only [Act.put]
        refine region_cutP ?_
        have bd : Below w13.heap.size w13 w13.drew := (Below.refl _ _).drew
        have J := J.step bd
        clear bd
        refine wp_region_held_drew (S := (TL w (scC A m c A2 m2 c2) (scC B n d B2 n2 d2) q0 q1)) (by kernel_rfl) J (fun _ => ?_)
        generalize w13.drew = w13d at J ⊢
        refine wpAnyH_take (i := 0) (v := .int .i64 230) rfl (by kernel_rfl) (by kernel_rfl) (by kernel_rfl) (fun _ _ _ h => nomatch h.1) (.inl ⟨by rfl, fun V hV => by go_simp⟩) J ?_
        try simp only [Act.put, List.getElem_toArray, List.getElem_cons_zero, List.getElem_cons_succ, List.setIfInBounds_toArray, List.set_cons_zero, List.set_cons_succ]
        refine wpAnyH_take (i := 1) (v := .bool true) rfl (by kernel_rfl) (by kernel_rfl) (by kernel_rfl) (fun _ _ _ h => nomatch h.1) (.inl ⟨by rfl, fun V hV => by go_simp⟩) J ?_
        try simp only [Act.put, List.getElem_toArray, List.getElem_cons_zero, List.getElem_cons_succ, List.setIfInBounds_toArray, List.set_cons_zero, List.set_cons_succ]
        refine wpAnyH_take (i := 2) (v := .bool true) rfl (by kernel_rfl) (by kernel_rfl) (by kernel_rfl) (fun _ _ _ h => nomatch h.1) (.inl ⟨by rfl, fun V hV => by go_simp⟩) J ?_
        try simp only [Act.put, List.getElem_toArray, List.getElem_cons_zero, List.getElem_cons_succ, List.setIfInBounds_toArray, List.set_cons_zero, List.set_cons_succ]
        refine wpAnyH_take (i := 3) (v := .slice G 0 gc) rfl (by kernel_rfl) (by kernel_rfl) (by kernel_rfl) (fun _ _ _ h => nomatch h.1) (.inl ⟨by rfl, fun V hV => by go_simp⟩) J ?_
        try simp only [Act.put, List.getElem_toArray, List.getElem_cons_zero, List.getElem_cons_succ, List.setIfInBounds_toArray, List.set_cons_zero, List.set_cons_succ]
        refine wpAnyH_take (i := 4) (v := .int .i64 0) rfl (by kernel_rfl) (by kernel_rfl) (by kernel_rfl) (fun _ _ _ h => nomatch h.1) (.inl ⟨by rfl, fun V hV => by go_simp⟩) J ?_
        try simp only [Act.put, List.getElem_toArray, List.getElem_cons_zero, List.getElem_cons_succ, List.setIfInBounds_toArray, List.set_cons_zero, List.set_cons_succ]
        refine wpAnyH_take (i := 5) (v := .bool true) rfl (by kernel_rfl) (by kernel_rfl) (by kernel_rfl) (fun _ _ _ h => nomatch h.1) (.inl ⟨by rfl, fun V hV => by go_simp⟩) J ?_
        try simp only [Act.put, List.getElem_toArray, List.getElem_cons_zero, List.getElem_cons_succ, List.setIfInBounds_toArray, List.set_cons_zero, List.set_cons_succ]
        refine wpAnyH_take (i := 6) (v := .bool true) rfl (by kernel_rfl) (by kernel_rfl) (by kernel_rfl) (fun _ _ _ h => nomatch h.1) (.inl ⟨by rfl, fun V hV => by go_simp⟩) J ?_
        try simp only [Act.put, List.getElem_toArray, List.getElem_cons_zero, List.getElem_cons_succ, List.setIfInBounds_toArray, List.set_cons_zero, List.set_cons_succ]
        refine wpAnyH_take (i := 7) (v := .bool true) rfl (by kernel_rfl) (by kernel_rfl) (by kernel_rfl) (fun _ _ _ h => nomatch h.1) (.inl ⟨by rfl, fun V hV => by go_simp⟩) J ?_
        try simp only [Act.put, List.getElem_toArray, List.getElem_cons_zero, List.getElem_cons_succ, List.setIfInBounds_toArray, List.set_cons_zero, List.set_cons_succ]
        refine wpAnyH_take (i := 8) (v := .int .i64 0) rfl (by kernel_rfl) (by kernel_rfl) (by kernel_rfl) (fun _ _ _ h => nomatch h.1) (.inl ⟨by rfl, fun V hV => by go_simp⟩) J ?_
        try simp only [Act.put, List.getElem_toArray, List.getElem_cons_zero, List.getElem_cons_succ, List.setIfInBounds_toArray, List.set_cons_zero, List.set_cons_succ]
        refine wpAnyH_take (i := 9) (v := .bool true) rfl (by kernel_rfl) (by kernel_rfl) (by kernel_rfl) (fun _ _ _ h => nomatch h.1) (.inl ⟨by rfl, fun V hV => by go_simp⟩) J ?_
        try simp only [Act.put, List.getElem_toArray, List.getElem_cons_zero, List.getElem_cons_succ, List.setIfInBounds_toArray, List.set_cons_zero, List.set_cons_succ]
        refine wpAnyH_take (i := 10) (v := .bool true) rfl (by kernel_rfl) (by kernel_rfl) (by kernel_rfl) (fun _ _ _ h => nomatch h.1) (.inl ⟨by rfl, fun V hV => by go_simp⟩) J ?_
        try simp only [Act.put, List.getElem_toArray, List.getElem_cons_zero, List.getElem_cons_succ, List.setIfInBounds_toArray, List.set_cons_zero, List.set_cons_succ]
        refine wpAnyH_take (i := 11) (v := .bool true) rfl (by kernel_rfl) (by kernel_rfl) (by kernel_rfl) (fun _ _ _ h => nomatch h.1) (.inl ⟨by rfl, fun V hV => by go_simp⟩) J ?_
        try simp only [Act.put, List.getElem_toArray, List.getElem_cons_zero, List.getElem_cons_succ, List.setIfInBounds_toArray, List.set_cons_zero, List.set_cons_succ]
        refine wpAnyH_take (i := 12) (v := .bool false) rfl (by kernel_rfl) (by kernel_rfl) (by kernel_rfl) (fun _ _ _ h => nomatch h.1) (.inl ⟨by rfl, fun V hV => by go_simp⟩) J ?_
        try simp only [Act.put, List.getElem_toArray, List.getElem_cons_zero, List.getElem_cons_succ, List.setIfInBounds_toArray, List.set_cons_zero, List.set_cons_succ]
        refine wpAnyH_take (i := 13) (v := .bool true) rfl (by kernel_rfl) (by kernel_rfl) (by kernel_rfl) (fun _ _ _ h => nomatch h.1) (.inl ⟨by rfl, fun V hV => by go_simp⟩) J ?_
        try simp only [Act.put, List.getElem_toArray, List.getElem_cons_zero, List.getElem_cons_succ, List.setIfInBounds_toArray, List.set_cons_zero, List.set_cons_succ]
        refine wpAnyH_take (i := 14) (v := .bool true) rfl (by kernel_rfl) (by kernel_rfl) (by kernel_rfl) (fun _ _ _ h => nomatch h.1) (.inl ⟨by rfl, fun V hV => by go_simp⟩) J ?_
        try simp only [Act.put, List.getElem_toArray, List.getElem_cons_zero, List.getElem_cons_succ, List.setIfInBounds_toArray, List.set_cons_zero, List.set_cons_succ]
        refine wpAnyH_take (i := 15) (v := .bool true) rfl (by kernel_rfl) (by kernel_rfl) (by kernel_rfl) (fun _ _ _ h => nomatch h.1) (.inl ⟨by rfl, fun V hV => by go_simp⟩) J ?_
        try simp only [Act.put, List.getElem_toArray, List.getElem_cons_zero, List.getElem_cons_succ, List.setIfInBounds_toArray, List.set_cons_zero, List.set_cons_succ]
        refine wpAnyH_take (i := 16) (v := .agg (scC A m c A2 m2 c2)) rfl (by kernel_rfl) (by kernel_rfl) (by kernel_rfl) (fun _ _ _ h => nomatch h.1) (yieldsIf_blk (by rfl) 25 (.tmp 3) rfl (w.heap.size) rfl (scC A m c A2 m2 c2) 25 _ (fun _ h => h.k3) Try.underlying25 rfl (sc_inf _ _ _ _ _ _)) J ?_
        try simp only [Act.put, List.getElem_toArray, List.getElem_cons_zero, List.getElem_cons_succ, List.setIfInBounds_toArray, List.set_cons_zero, List.set_cons_succ]
        refine wpAnyH_take (i := 18) (v := .pointer (some ⟨w.heap.size + 1 + 1, 1, none⟩)) rfl (by kernel_rfl) (by kernel_rfl) (by kernel_rfl) (fun _ _ _ h => nomatch h.1) (.inl ⟨by rfl, fun V hV => by go_simp⟩) J ?_
        try simp only [Act.put, List.getElem_toArray, List.getElem_cons_zero, List.getElem_cons_succ, List.setIfInBounds_toArray, List.set_cons_zero, List.set_cons_succ]
        refine wpAnyH_take (i := 19) (v := .int .i64 q1) rfl (by kernel_rfl) (by kernel_rfl) (by kernel_rfl) (fun _ _ _ h => nomatch h.1) (.inl ⟨by rfl, fun V hV => by have c5 := hV.k5.cell 1; simp only [List.getElem?_toArray, List.getElem?_cons_zero, List.getElem?_cons_succ] at c5; go_simp⟩) J ?_
        try simp only [Act.put, List.getElem_toArray, List.getElem_cons_zero, List.getElem_cons_succ, List.setIfInBounds_toArray, List.set_cons_zero, List.set_cons_succ]
        refine wpAnyH_ready (rs := [17]) (by kernel_rfl) (by simp) ?_
        refine AllReadyH.cons rfl (fun K hK => ?_) AllReadyH.nil
        try simp only [Act.put, List.getElem_toArray, List.getElem_cons_zero, List.getElem_cons_succ, List.setIfInBounds_toArray, List.set_cons_zero, List.set_cons_succ]
        go_simp
        refine (HCO.out _ J.b).mono ?_
        rintro e W14 ⟨v, rfl, cv, bb⟩
        obtain ⟨A14, m14, c14, D14, n14, d14, L14, rfl, hc14⟩ := cv.cpv
        unfold scV
        go_wp2_with fail
        have J := J.step bb
        clear bb cv
        refine hK.out _ _ J (fun _ => ?_)
        clear hK K
        try simp only [Act.put, List.getElem_toArray, List.getElem_cons_zero, List.getElem_cons_succ, List.setIfInBounds_toArray, List.set_cons_zero, List.set_cons_succ]
        refine wpAnyH_ready (rs := [20]) (by kernel_rfl) (by simp) ?_
        refine AllReadyH.cons rfl (fun K hK => ?_) AllReadyH.nil
        try simp only [Act.put, List.getElem_toArray, List.getElem_cons_zero, List.getElem_cons_succ, List.setIfInBounds_toArray, List.set_cons_zero, List.set_cons_succ]
        have CC := owner_sc (A := A14) (m := m14) (c := c14) (R := R) (A2 := D14) (m2 := n14) (c2 := d14) (L := L14) (w := _) q1 hc14.sc
        rw [ownerA_names hc14.nm, HX3.out] at CC
        unfold scV at CC
        go_simp
        refine CC.mono ?_
        rintro e U14 ⟨rfl, bb⟩
        go_wp2_with fail
        have J := J.step bb
        clear bb CC hc14
        refine hK.out _ _ J (fun _ => ?_)
        clear hK K
        try simp only [Act.put, List.getElem_toArray, List.getElem_cons_zero, List.getElem_cons_succ, List.setIfInBounds_toArray, List.set_cons_zero, List.set_cons_succ]
        refine wpAnyH_take (i := 21) (v := .bool true) rfl (by kernel_rfl) (by kernel_rfl) (by kernel_rfl) (fun _ _ _ h => nomatch h.1) (.inl ⟨by rfl, fun V hV => by go_simp⟩) J ?_
        try simp only [Act.put, List.getElem_toArray, List.getElem_cons_zero, List.getElem_cons_succ, List.setIfInBounds_toArray, List.set_cons_zero, List.set_cons_succ]
        refine wpAnyH_take (i := 22) (v := .bool true) rfl (by kernel_rfl) (by kernel_rfl) (by kernel_rfl) (fun _ _ _ h => nomatch h.1) (.inl ⟨by rfl, fun V hV => by go_simp⟩) J ?_
        try simp only [Act.put, List.getElem_toArray, List.getElem_cons_zero, List.getElem_cons_succ, List.setIfInBounds_toArray, List.set_cons_zero, List.set_cons_succ]
        refine wpAnyH_take (i := 23) (v := .bool true) rfl (by kernel_rfl) (by kernel_rfl) (by kernel_rfl) (fun _ _ _ h => nomatch h.1) (.inl ⟨by rfl, fun V hV => by go_simp⟩) J ?_
        try simp only [Act.put, List.getElem_toArray, List.getElem_cons_zero, List.getElem_cons_succ, List.setIfInBounds_toArray, List.set_cons_zero, List.set_cons_succ]
        refine wpAnyH_take (i := 24) (v := .agg (scC A m c A2 m2 c2)) rfl (by kernel_rfl) (by kernel_rfl) (by kernel_rfl) (fun _ _ _ h => nomatch h.1) (yieldsIf_blk (by rfl) 25 (.tmp 3) rfl (w.heap.size) rfl (scC A m c A2 m2 c2) 25 _ (fun _ h => h.k3) Try.underlying25 rfl (sc_inf _ _ _ _ _ _)) J ?_
        try simp only [Act.put, List.getElem_toArray, List.getElem_cons_zero, List.getElem_cons_succ, List.setIfInBounds_toArray, List.set_cons_zero, List.set_cons_succ]
        refine wpAnyH_take (i := 26) (v := .pointer (some ⟨w.heap.size + 1 + 1, 1, none⟩)) rfl (by kernel_rfl) (by kernel_rfl) (by kernel_rfl) (fun _ _ _ h => nomatch h.1) (.inl ⟨by rfl, fun V hV => by go_simp⟩) J ?_
        try simp only [Act.put, List.getElem_toArray, List.getElem_cons_zero, List.getElem_cons_succ, List.setIfInBounds_toArray, List.set_cons_zero, List.set_cons_succ]
        refine wpAnyH_take (i := 27) (v := .int .i64 q1) rfl (by kernel_rfl) (by kernel_rfl) (by kernel_rfl) (fun _ _ _ h => nomatch h.1) (.inl ⟨by rfl, fun V hV => by have c5 := hV.k5.cell 1; simp only [List.getElem?_toArray, List.getElem?_cons_zero, List.getElem?_cons_succ] at c5; go_simp⟩) J ?_
        try simp only [Act.put, List.getElem_toArray, List.getElem_cons_zero, List.getElem_cons_succ, List.setIfInBounds_toArray, List.set_cons_zero, List.set_cons_succ]
        refine wpAnyH_ready (rs := [25]) (by kernel_rfl) (by simp) ?_
        refine AllReadyH.cons rfl (fun K hK => ?_) AllReadyH.nil
        try simp only [Act.put, List.getElem_toArray, List.getElem_cons_zero, List.getElem_cons_succ, List.setIfInBounds_toArray, List.set_cons_zero, List.set_cons_succ]
        go_simp
        refine (HCO.out _ J.b).mono ?_
        rintro e W15 ⟨v, rfl, cv, bb⟩
        obtain ⟨A15, m15, c15, D15, n15, d15, L15, rfl, hc15⟩ := cv.cpv
        unfold scV
        go_wp2_with fail
        have J := J.step bb
        clear bb cv
        refine hK.out _ _ J (fun _ => ?_)
        clear hK K
        try simp only [Act.put, List.getElem_toArray, List.getElem_cons_zero, List.getElem_cons_succ, List.setIfInBounds_toArray, List.set_cons_zero, List.set_cons_succ]
        refine wpAnyH_ready (rs := [28]) (by kernel_rfl) (by simp) ?_
        refine AllReadyH.cons rfl (fun K hK => ?_) AllReadyH.nil
        try simp only [Act.put, List.getElem_toArray, List.getElem_cons_zero, List.getElem_cons_succ, List.setIfInBounds_toArray, List.set_cons_zero, List.set_cons_succ]
        have CC := owns_sc A15 m15 c15 R D15 n15 d15 L15 q1 _ hc15.sc
        rw [ownsA_names hc15.nm, HX4.out] at CC
        unfold scV at CC
        go_simp
        refine CC.mono ?_
        rintro e U15 ⟨G2, gm2, gc2, rfl, zz, bb⟩
        go_wp2_with fail
        have J := J.step bb
        obtain rfl : gm2 = 0 := zz.len
        clear bb CC hc15
        refine hK.out _ _ J (fun _ => ?_)
        clear hK K
        try simp only [Act.put, List.getElem_toArray, List.getElem_cons_zero, List.getElem_cons_succ, List.setIfInBounds_toArray, List.set_cons_zero, List.set_cons_succ]
        refine wpAnyH_take (i := 29) (v := .int .i64 0) rfl (by kernel_rfl) (by kernel_rfl) (by kernel_rfl) (fun _ _ _ h => nomatch h.1) (.inl ⟨by rfl, fun V hV => by go_simp⟩) J ?_
        try simp only [Act.put, List.getElem_toArray, List.getElem_cons_zero, List.getElem_cons_succ, List.setIfInBounds_toArray, List.set_cons_zero, List.set_cons_succ]
        refine wpAnyH_take (i := 30) (v := .bool true) rfl (by kernel_rfl) (by kernel_rfl) (by kernel_rfl) (fun _ _ _ h => nomatch h.1) (.inl ⟨by rfl, fun V hV => by go_simp⟩) J ?_
        try simp only [Act.put, List.getElem_toArray, List.getElem_cons_zero, List.getElem_cons_succ, List.setIfInBounds_toArray, List.set_cons_zero, List.set_cons_succ]
        refine wpAnyH_take (i := 31) (v := .bool true) rfl (by kernel_rfl) (by kernel_rfl) (by kernel_rfl) (fun _ _ _ h => nomatch h.1) (.inl ⟨by rfl, fun V hV => by go_simp⟩) J ?_
        try simp only [Act.put, List.getElem_toArray, List.getElem_cons_zero, List.getElem_cons_succ, List.setIfInBounds_toArray, List.set_cons_zero, List.set_cons_succ]
        refine wpAnyH_take (i := 32) (v := .bool true) rfl (by kernel_rfl) (by kernel_rfl) (by kernel_rfl) (fun _ _ _ h => nomatch h.1) (.inl ⟨by rfl, fun V hV => by go_simp⟩) J ?_
        try simp only [Act.put, List.getElem_toArray, List.getElem_cons_zero, List.getElem_cons_succ, List.setIfInBounds_toArray, List.set_cons_zero, List.set_cons_succ]
        refine wpAnyH_take (i := 33) (v := .agg (scC A m c A2 m2 c2)) rfl (by kernel_rfl) (by kernel_rfl) (by kernel_rfl) (fun _ _ _ h => nomatch h.1) (yieldsIf_blk (by rfl) 25 (.tmp 3) rfl (w.heap.size) rfl (scC A m c A2 m2 c2) 25 _ (fun _ h => h.k3) Try.underlying25 rfl (sc_inf _ _ _ _ _ _)) J ?_
        try simp only [Act.put, List.getElem_toArray, List.getElem_cons_zero, List.getElem_cons_succ, List.setIfInBounds_toArray, List.set_cons_zero, List.set_cons_succ]
        refine wpAnyH_ready (rs := [34]) (by kernel_rfl) (by simp) ?_
        refine AllReadyH.cons rfl (fun K hK => ?_) AllReadyH.nil
        try simp only [Act.put, List.getElem_toArray, List.getElem_cons_zero, List.getElem_cons_succ, List.setIfInBounds_toArray, List.set_cons_zero, List.set_cons_succ]
        go_simp
        refine (HCO.out _ J.b).mono ?_
        rintro e W16 ⟨v, rfl, cv, bb⟩
        obtain ⟨A16, m16, c16, D16, n16, d16, L16, rfl, hc16⟩ := cv.cpv
        unfold scV
        go_wp2_with fail
        have J := J.step bb
        clear bb cv
        refine hK.out _ _ J (fun _ => ?_)
        clear hK K
        try simp only [Act.put, List.getElem_toArray, List.getElem_cons_zero, List.getElem_cons_succ, List.setIfInBounds_toArray, List.set_cons_zero, List.set_cons_succ]
        refine wpAnyH_ready (rs := [35]) (by kernel_rfl) (by simp) ?_
        refine AllReadyH.cons rfl (fun K hK => ?_) AllReadyH.nil
        try simp only [Act.put, List.getElem_toArray, List.getElem_cons_zero, List.getElem_cons_succ, List.setIfInBounds_toArray, List.set_cons_zero, List.set_cons_succ]
        have CC := stuck_sc A16 m16 c16 R D16 n16 d16 L16 _ hc16.sc
        rw [stuckA_names hc16.nm, HX5.out] at CC
        unfold scV at CC
        go_simp
        refine CC.mono ?_
        rintro e U16 ⟨rfl, bb⟩
        go_wp2_with fail
        have J := J.step bb
        clear bb CC hc16
        refine hK.out _ _ J (fun _ => ?_)
        clear hK K
        try simp only [Act.put, List.getElem_toArray, List.getElem_cons_zero, List.getElem_cons_succ, List.setIfInBounds_toArray, List.set_cons_zero, List.set_cons_succ]
        refine wpAnyH_take (i := 36) (v := .bool true) rfl (by kernel_rfl) (by kernel_rfl) (by kernel_rfl) (fun _ _ _ h => nomatch h.1) (.inl ⟨by rfl, fun V hV => by go_simp⟩) J ?_
        try simp only [Act.put, List.getElem_toArray, List.getElem_cons_zero, List.getElem_cons_succ, List.setIfInBounds_toArray, List.set_cons_zero, List.set_cons_succ]
        refine wpAnyH_take (i := 37) (v := .bool true) rfl (by kernel_rfl) (by kernel_rfl) (by kernel_rfl) (fun _ _ _ h => nomatch h.1) (.inl ⟨by rfl, fun V hV => by go_simp⟩) J ?_
        try simp only [Act.put, List.getElem_toArray, List.getElem_cons_zero, List.getElem_cons_succ, List.setIfInBounds_toArray, List.set_cons_zero, List.set_cons_succ]
        refine wpAnyH_take (i := 38) (v := .bool true) rfl (by kernel_rfl) (by kernel_rfl) (by kernel_rfl) (fun _ _ _ h => nomatch h.1) (.inl ⟨by rfl, fun V hV => by go_simp⟩) J ?_
        try simp only [Act.put, List.getElem_toArray, List.getElem_cons_zero, List.getElem_cons_succ, List.setIfInBounds_toArray, List.set_cons_zero, List.set_cons_succ]
        refine wpAnyH_done (by kernel_rfl) ?_ _
        refine ⟨rfl, ?_⟩
        go_wp2_with fail
        go_ret
        exact ⟨rfl, J.b⟩
      · have HE0 : scE R L = 0 := by unfold scE; rw [HSC.out, if_pos rfl]
        obtain rfl : E = 0 := by rw [← HE.out]; exact HE0
        have hrd : rdyA R L = rdyF R := by unfold rdyA; rw [if_pos HE0]
        have hp := HP.out
        rw [hrd] at z7 hp
        have hst : stuckA R L = (decide (rdyF R = []) && R.any waitB) := by unfold stuckA; rw [decide_eq_true HE0, Bool.true_and]
        obtain ⟨⟨lx, lb⟩, hlx⟩ : ∃ p, fndK L q1 = p := ⟨_, rfl⟩
        have HOW := Lib.hid (show ownerA R L q1 = lx.1.o by unfold ownerA; rw [if_pos HE0, ownerF_fnd, hlx])
        have HOS := Lib.hid (show ownsA R L q1 = ownsF L q1 by unfold ownsA; rw [if_pos HE0])
        have hrlen : (rdyF R).length ≤ 100000 := by
          have h1 := rdyF_len R
          have h2 := HSs.out.len
          have h3 := HSs.out.lim
          omega
        have HRD := Lib.hid (fun (V : World) (hV : Below w.heap.size w V) => rready_sc A m c R A2 m2 c2 L V (HSs.out.on hV))
        have HFK := Lib.hid (fun (V : World) (hV : Below w.heap.size w V) => find_K A m c R A2 m2 c2 L q1 V (HSs.out.on hV))
        rw [hlx] at HFK
        unfold kwV at HFK
        unfold scV at HFK HRD
        generalize rdyF R = rl at z7 hp hst hrlen HRD
        clear HP HE HE0 hrd hlx
        have hml : m ≤ 100000 := HSs.out.lim
        have hml2 : m2 ≤ 100000 := HSs.out.lim2
        have HST := Lib.hid hst
        clear hst
        by_cases h0 : rl = []
        · subst h0
          obtain ⟨rfl, rfl⟩ : pk = 0 ∧ ok = false := by have hp2 : ((0 : Int), false) = (pk, ok) := hp; injection hp2 with a b; exact ⟨a.symm, b.symm⟩
          obtain rfl : gm = 0 := z7.len
          clear hp hrlen
          go_wp2_with (first
            | (refine wpListG_load (by rfl) 25 (.tmp 3) rfl (w.heap.size) rfl 25 (scC A m c A2 m2 c2) _ J.k3 Try.underlying25 rfl (sc_inf _ _ _ _ _ _) ?_)
            | (refine (HR.out _ (HSs.out.on J.b)).mono ?_
               clear HR
               rintro e w13 ⟨rfl, bb⟩
               have J := J.step bb
               have z7 := z7.below bb (Nat.le_refl _)
               clear bb)
            | (refine wpListG_load (by rfl) 25 (.tmp 3) rfl (w.heap.size) rfl 25 (scC A m c A2 m2 c2) _ J.k3 Try.underlying25 rfl (sc_inf _ _ _ _ _ _) ?_)
            | (refine (HRD.out _ J.b).mono ?_
               clear HRD
               rintro e w14 ⟨H, hm, hcp, rfl, zh, bb⟩
               have zh := zh.down J.b.size
               have z7 := z7.below bb (Nat.le_refl _)
               have J := J.step bb
               have CS := sameInts_rf G 0 gc [] H hm hcp [] w14 z7.ri z7.len (by omega) zh.ri zh.len
               rw [beq_self_eq_true] at CS
               clear bb z7
               obtain rfl : hm = 0 := zh.len)
            | (refine CS.mono ?_
               clear CS
               rintro e w15 ⟨rfl, bb⟩
               have J := J.step bb
               have zh := zh.below bb (Nat.le_refl _)
               have c50 := J.k5.cell 0
               have c51 := J.k5.cell 1
               simp only [List.getElem?_toArray, List.getElem?_cons_zero, List.getElem?_cons_succ] at c50 c51
               clear bb)
            | (refine wpListG_load (by rfl) 25 (.tmp 3) rfl (w.heap.size) rfl 25 (scC A m c A2 m2 c2) _ J.k3 Try.underlying25 rfl (sc_inf _ _ _ _ _ _) ?_)
            | (refine (HFK.out _ J.b).mono ?_
               clear HFK
               rintro e w16 ⟨rfl, bb⟩
               have J := J.step bb
               have zh := zh.below bb (Nat.le_refl _)
               clear bb)
            | (refine wpList_store_blk rfl 48 (.tmp 12) (.tmp 143) rfl w16.heap.size (kwC kw0) (kwC lx) 48 rfl rfl (Blk.new _ _ _) rfl (kw_inf lx) (kw_one lx) ?_
               intro w17 k12 n12
               have bb : Below w16.heap.size w16 w17 := ((Below.refl _ w16).alloc (Nat.le_refl _) _).trans (n12.below _ (Nat.le_refl _) (by simp))
               have J := J.step bb
               have zh := zh.below bb (Nat.le_refl _)
               have JM : TM w (scC A m c A2 m2 c2) (scC B n d B2 n2 d2) q0 q1 w16.heap.size lx w17 := ⟨J, k12⟩
               have c30 := J.k3.cell 0
               change _ = some (Value.slice A m c) at c30
               clear bb n12 k12 J
               generalize w16.heap.size = g12 at JM ⊢))
          go_loopw [14, 148] (fun bv i wr' => ∃ (k : Nat) (wr : World) (wk : Bool), wr = wr' ∧ k ≤ m ∧ i = .int .i64 k ∧ bv = .bool wk ∧ Hid (wk = (R.take k).any waitB) ∧ Below w17.heap.size w17 wr) (fun _ i _ => m - (intOf i).toNat)
          case atStart => exact ⟨0, _, false, rfl, Nat.zero_le _, rfl, rfl, Lib.hid (by rw [List.take_zero]; rfl), Below.refl _ _⟩
          case round =>
            clear c30
            obtain ⟨k, wr, wk, hwr, hk, rfl, rfl, HWT, hB⟩ := hrel
            subst hwr
            by_cases hlt : k < m
            · have hlt' : (k : Int) < (m : Int) := by omega
              have hkl : k < R.length := by have := HSs.out.len; omega
              obtain ⟨b, off, rfl, hb, hc⟩ := (HSs.out.rs.below (JM.t.b.trans (hB.mono JM.t.b.size)) (Nat.le_refl _)) k hkl
              have HTK := Lib.hid (any_takeW hkl)
              generalize R.getD k rn0 = x at hc HTK
              rw [← HWT.out] at HTK
              clear HWT hkl
              cases wk
              · cases hs : (x.s == 1)
                · have HT2 := Lib.hid (show false = (R.take (k + 1)).any waitB by rw [HTK.out]; unfold waitB; rw [hs]; rfl)
                  clear HTK
                  go_wp2_with (first
                    | (refine wpList_load_mid rfl 52 (.tmp 150) rfl b (off + k * 3) rfl (rnC x).toList _ hc Try.underlying52 rfl (rn_infL x) ?_)
                    | (refine wpList_store_blk rfl 52 (.tmp 16) (.tmp 151) rfl wr.heap.size (rnC rn0) (rnC x) 52 rfl rfl (Blk.new _ _ _) rfl (rn_inf x) (rn_one x) ?_
                       intro wx kx nx
                       have bb : Below wr.heap.size wr wx := ((Below.refl _ wr).alloc (Nat.le_refl _) _).trans (nx.below _ (Nat.le_refl _) (by simp))
                       have hB2 := hB.trans (bb.mono hB.size)
                       have qx := kx.cell 1
                       change _ = some (Value.int .i64 x.s) at qx
                       clear bb nx hc kx))
                  go_roundw
                  case rel => exact ⟨k + 1, _, false, rfl, by omega, by go_num, rfl, HT2, hB2⟩
                  case measure => simp [intOf]; omega
                · have HT2 := Lib.hid (show true = (R.take (k + 1)).any waitB by rw [HTK.out]; unfold waitB; rw [hs]; rfl)
                  clear HTK
                  go_wp2_with (first
                    | (refine wpList_load_mid rfl 52 (.tmp 150) rfl b (off + k * 3) rfl (rnC x).toList _ hc Try.underlying52 rfl (rn_infL x) ?_)
                    | (refine wpList_store_blk rfl 52 (.tmp 16) (.tmp 151) rfl wr.heap.size (rnC rn0) (rnC x) 52 rfl rfl (Blk.new _ _ _) rfl (rn_inf x) (rn_one x) ?_
                       intro wx kx nx
                       have bb : Below wr.heap.size wr wx := ((Below.refl _ wr).alloc (Nat.le_refl _) _).trans (nx.below _ (Nat.le_refl _) (by simp))
                       have hB2 := hB.trans (bb.mono hB.size)
                       have qx := kx.cell 1
                       change _ = some (Value.int .i64 x.s) at qx
                       clear bb nx hc kx))
                  go_roundw
                  case rel => exact ⟨k + 1, _, true, rfl, by omega, by go_num, rfl, HT2, hB2⟩
                  case measure => simp [intOf]; omega
              · have HT2 := Lib.hid (show true = (R.take (k + 1)).any waitB by rw [HTK.out, Bool.true_or])
                clear HTK
                go_wp2_with (first
                  | (refine wpList_load_mid rfl 52 (.tmp 150) rfl b (off + k * 3) rfl (rnC x).toList _ hc Try.underlying52 rfl (rn_infL x) ?_)
                  | (refine wpList_store_blk rfl 52 (.tmp 16) (.tmp 151) rfl wr.heap.size (rnC rn0) (rnC x) 52 rfl rfl (Blk.new _ _ _) rfl (rn_inf x) (rn_one x) ?_
                     intro wx kx nx
                     have bb : Below wr.heap.size wr wx := ((Below.refl _ wr).alloc (Nat.le_refl _) _).trans (nx.below _ (Nat.le_refl _) (by simp))
                     have hB2 := hB.trans (bb.mono hB.size)
                     have qx := kx.cell 1
                     change _ = some (Value.int .i64 x.s) at qx
                     clear bb nx hc kx))
                go_roundw
                case rel => exact ⟨k + 1, _, true, rfl, by omega, by go_num, rfl, HT2, hB2⟩
                case measure => simp [intOf]; omega
            · have hkm : m = k := by omega
              subst hkm
              have hw := HWT.out
              rw [List.take_of_length_le (by have := HSs.out.len; omega)] at hw
              have HW := Lib.hid hw
              clear hw HWT hlt
              have zh := zh.below hB (Nat.le_refl _)
              have JM := JM.step hB
              clear hB hk
              have c31 := JM.t.k3.cell 1
              change _ = some (Value.slice A2 m2 c2) at c31
              go_wp2_with fail
              clear c31
              go_loopw [17, 162] (fun ov i wr' => ∃ (k : Nat) (wv : World) (O : Option Addr) (om oc : Nat), wv = wr' ∧ k ≤ m2 ∧ i = .int .i64 k ∧ ov = .slice O om oc ∧ Hid (Zo wv wr.heap.size O om oc (ownsF (L.take k) q1)) ∧ Below wr.heap.size wr wv) (fun _ i _ => m2 - (intOf i).toNat)
              case atStart => exact ⟨0, _, none, 0, 0, rfl, Nat.zero_le _, rfl, rfl, Lib.hid (by rw [List.take_zero]; exact zo_nil _ _), Below.refl _ _⟩
              case round =>
                obtain ⟨k, wv, O, om, oc, hwv, hk, rfl, rfl, HZ, hB⟩ := hrel
                subst hwv
                have hom : om ≤ 1000000 := by
                  have := HZ.out.len
                  have h1 := ownsF_len (L.take k) q1
                  have h2 := HSs.out.lim2
                  rw [List.length_take] at h1
                  omega
                by_cases hlt : k < m2
                · have hlt' : (k : Int) < (m2 : Int) := by omega
                  have hkl : k < L.length := by have := HSs.out.len2; omega
                  obtain ⟨b, off, rfl, hb, hc⟩ := (HSs.out.ks.below (JM.t.b.trans (hB.mono JM.t.b.size)) (Nat.le_refl _)) k hkl
                  have HTK := Lib.hid (ownsF_take hkl q1)
                  generalize L.getD k kw0 = x at hc HTK
                  clear hkl
                  have hs3 : (kwC x).size = 3 := kw_size x
                  cases hq1 : (x.1.o == q1)
                  · have HT2 := Lib.hid (show ownsF (L.take (k + 1)) q1 = ownsF (L.take k) q1 by rw [HTK.out, hq1, if_neg (by simp), List.append_nil])
                    clear HTK
                    go_wp2_with (first
                      | (refine wpList_load_mid rfl 48 (.tmp 164) rfl b (off + k * 3) rfl (kwC x).toList _ hc Try.underlying48 rfl (kw_infL x) ?_)
                      | (refine wpList_store_blk rfl 48 (.tmp 19) (.tmp 165) rfl wv.heap.size (kwC kw0) (kwC x) 48 rfl rfl (Blk.new _ _ _) rfl (kw_inf x) (kw_one x) ?_
                         intro wx kx nx
                         have bb : Below wv.heap.size wv wx := ((Below.refl _ wv).alloc (Nat.le_refl _) _).trans (nx.below _ (Nat.le_refl _) (by simp))
                         have hB2 := hB.trans (bb.mono hB.size)
                         have z2 := HZ.out.below bb (Nat.le_refl _)
                         have q51 := kx.cell 1
                         change _ = some (Value.int .i64 x.1.o) at q51
                         have c51 := (JM.step hB2).t.k5.cell 1
                         simp only [List.getElem?_toArray, List.getElem?_cons_zero, List.getElem?_cons_succ] at c51
                         clear bb
                         clear nx hc kx))
                    go_roundw
                    case rel => exact ⟨k + 1, _, O, om, oc, rfl, by omega, by go_num, rfl, Lib.hid (by rw [HT2.out]; exact z2), hB2⟩
                    case measure => simp [intOf]; omega
                  · have HT2 := Lib.hid (show ownsF (L.take (k + 1)) q1 = ownsF (L.take k) q1 ++ [x.1.n] by rw [HTK.out, hq1, if_pos rfl])
                    clear HTK
                    go_wp2_with (first
                      | (refine wpList_load_mid rfl 48 (.tmp 164) rfl b (off + k * 3) rfl (kwC x).toList _ hc Try.underlying48 rfl (kw_infL x) ?_)
                      | (refine wpList_store_blk rfl 48 (.tmp 19) (.tmp 165) rfl wv.heap.size (kwC kw0) (kwC x) 48 rfl rfl (Blk.new _ _ _) rfl (kw_inf x) (kw_one x) ?_
                         intro wx kx nx
                         have bb : Below wv.heap.size wv wx := ((Below.refl _ wv).alloc (Nat.le_refl _) _).trans (nx.below _ (Nat.le_refl _) (by simp))
                         have hB2 := hB.trans (bb.mono hB.size)
                         have z2 := HZ.out.below bb (Nat.le_refl _)
                         have q51 := kx.cell 1
                         change _ = some (Value.int .i64 x.1.o) at q51
                         have c51 := (JM.step hB2).t.k5.cell 1
                         simp only [List.getElem?_toArray, List.getElem?_cons_zero, List.getElem?_cons_succ] at c51
                         clear bb
                         have q50 := kx.cell 0
                         change _ = some (Value.int .i64 x.1.n) at q50
                         clear nx hc kx)
                      | (at_builtin; refine wpList_app1Z rfl (.tmp 171) (.tmp 174) rfl wr.heap.size O om oc _ rfl (z2.below ((Below.refl _ wx).alloc (Nat.le_refl _) _) (Nat.le_refl _)) wx.heap.size x.1.n rfl (cell_one_new _ _ _ 0 _ rfl) hom (Nat.le_trans hB2.size (by simp)) ?_
                         intro O2 oc2 wy z3 b3
                         have hB3 := (hB2.trans (((Below.refl _ wx).alloc (Nat.le_refl _) (.cells #[.int .i64 x.1.n] 3)).mono hB2.size)).trans b3))
                    go_roundw
                    case rel => exact ⟨k + 1, _, O2, om + 1, oc2, rfl, by omega, by go_num, rfl, Lib.hid (by rw [HT2.out]; exact z3), hB3⟩
                    case measure => simp [intOf]; omega
                · have hkm : m2 = k := by omega
                  subst hkm
                  have zo := HZ.out
                  rw [List.take_of_length_le (by have := HSs.out.len2; omega)] at zo
                  have zo := zo.down JM.t.b.size
                  have zh := zh.below hB (Nat.le_refl _)
                  have J := JM.step hB
                  clear hB hk hlt HZ JM
                  generalize ownsF L q1 = ol at HOS zo
                  go_wp2_with fail
                  cases wk
                  · have HST := Lib.hid (show stuckA R L = false by rw [HST.out, ← HW.out]; rfl)
                    clear HW zh
                    try simp only [Act.put]
                    refine region_cutP ?_
                    have bd : Below wv.heap.size wv wv.drew := (Below.refl _ _).drew
                    have J := J.step bd
                    have zo := zo.below bd (Nat.le_refl _)
                    clear bd
                    refine wp_region_held_drew (S := (TM w (scC A m c A2 m2 c2) (scC B n d B2 n2 d2) q0 q1 g12 lx)) (by kernel_rfl) J (fun _ => ?_)
                    generalize wv.drew = wvd at J zo ⊢
                    refine wpAnyH_take (i := 0) (v := .agg (scC A m c A2 m2 c2)) rfl (by kernel_rfl) (by kernel_rfl) (by kernel_rfl) (fun _ _ _ h => nomatch h.1) (yieldsIf_blk (by rfl) 25 (.tmp 3) rfl (w.heap.size) rfl (scC A m c A2 m2 c2) 25 _ (fun _ h => h.t.k3) Try.underlying25 rfl (sc_inf _ _ _ _ _ _)) J ?_
                    try simp only [Act.put, List.getElem_toArray, List.getElem_cons_zero, List.getElem_cons_succ, List.setIfInBounds_toArray, List.set_cons_zero, List.set_cons_succ]
                    refine wpAnyH_take (i := 2) (v := .pointer (some ⟨w.heap.size + 1 + 1, 1, none⟩)) rfl (by kernel_rfl) (by kernel_rfl) (by kernel_rfl) (fun _ _ _ h => nomatch h.1) (.inl ⟨by rfl, fun V hV => by go_simp⟩) J ?_
                    try simp only [Act.put, List.getElem_toArray, List.getElem_cons_zero, List.getElem_cons_succ, List.setIfInBounds_toArray, List.set_cons_zero, List.set_cons_succ]
                    refine wpAnyH_take (i := 3) (v := .int .i64 q1) rfl (by kernel_rfl) (by kernel_rfl) (by kernel_rfl) (fun _ _ _ h => nomatch h.1) (.inl ⟨by rfl, fun V hV => by have c5 := hV.t.k5.cell 1; simp only [List.getElem?_toArray, List.getElem?_cons_zero, List.getElem?_cons_succ] at c5; go_simp⟩) J ?_
                    try simp only [Act.put, List.getElem_toArray, List.getElem_cons_zero, List.getElem_cons_succ, List.setIfInBounds_toArray, List.set_cons_zero, List.set_cons_succ]
                    refine wpAnyH_take (i := 5) (v := .pointer (some ⟨g12, 1, none⟩)) rfl (by kernel_rfl) (by kernel_rfl) (by kernel_rfl) (fun _ _ _ h => nomatch h.1) (.inl ⟨by rfl, fun V hV => by go_simp⟩) J ?_
                    try simp only [Act.put, List.getElem_toArray, List.getElem_cons_zero, List.getElem_cons_succ, List.setIfInBounds_toArray, List.set_cons_zero, List.set_cons_succ]
                    refine wpAnyH_take (i := 6) (v := .int .i64 lx.1.o) rfl (by kernel_rfl) (by kernel_rfl) (by kernel_rfl) (fun _ _ _ h => nomatch h.1) (.inl ⟨by rfl, fun V hV => by have c6 := hV.k.cell 1; change _ = some (Value.int .i64 lx.1.o) at c6; go_simp⟩) J ?_
                    try simp only [Act.put, List.getElem_toArray, List.getElem_cons_zero, List.getElem_cons_succ, List.setIfInBounds_toArray, List.set_cons_zero, List.set_cons_succ]
                    refine wpAnyH_ready (rs := [1]) (by kernel_rfl) (by simp) ?_
                    refine AllReadyH.cons rfl (fun K hK => ?_) AllReadyH.nil
                    try simp only [Act.put, List.getElem_toArray, List.getElem_cons_zero, List.getElem_cons_succ, List.setIfInBounds_toArray, List.set_cons_zero, List.set_cons_succ]
                    go_simp
                    refine (HCO.out _ J.t.b).mono ?_
                    rintro e W20 ⟨v, rfl, cv, bb⟩
                    obtain ⟨A20, m20, c20, D20, n20, d20, L20, rfl, hc20⟩ := cv.cpv
                    unfold scV
                    go_wp2_with fail
                    have J := J.step bb
                    have zo := zo.below bb (Nat.le_refl _)
                    clear bb cv
                    refine hK.out _ _ J (fun _ => ?_)
                    clear hK K
                    try simp only [Act.put, List.getElem_toArray, List.getElem_cons_zero, List.getElem_cons_succ, List.setIfInBounds_toArray, List.set_cons_zero, List.set_cons_succ]
                    refine wpAnyH_ready (rs := [4]) (by kernel_rfl) (by simp) ?_
                    refine AllReadyH.cons rfl (fun K hK => ?_) AllReadyH.nil
                    try simp only [Act.put, List.getElem_toArray, List.getElem_cons_zero, List.getElem_cons_succ, List.setIfInBounds_toArray, List.set_cons_zero, List.set_cons_succ]
                    have CC := owner_sc (A := A20) (m := m20) (c := c20) (R := R) (A2 := D20) (m2 := n20) (c2 := d20) (L := L20) (w := _) q1 hc20.sc
                    rw [ownerA_names hc20.nm, HOW.out] at CC
                    unfold scV at CC
                    go_simp
                    refine CC.mono ?_
                    rintro e U20 ⟨rfl, bb⟩
                    go_wp2_with fail
                    have J := J.step bb
                    have zo := zo.below bb (Nat.le_refl _)
                    clear bb CC hc20
                    refine hK.out _ _ J (fun _ => ?_)
                    clear hK K
                    try simp only [Act.put, List.getElem_toArray, List.getElem_cons_zero, List.getElem_cons_succ, List.setIfInBounds_toArray, List.set_cons_zero, List.set_cons_succ]
                    refine wpAnyH_take (i := 7) (v := .bool true) rfl (by kernel_rfl) (by kernel_rfl) (by kernel_rfl) (fun _ _ _ h => nomatch h.1) (.inl ⟨by rfl, fun V hV => by go_simp⟩) J ?_
                    try simp only [Act.put, List.getElem_toArray, List.getElem_cons_zero, List.getElem_cons_succ, List.setIfInBounds_toArray, List.set_cons_zero, List.set_cons_succ]
                    refine wpAnyH_take (i := 8) (v := .bool true) rfl (by kernel_rfl) (by kernel_rfl) (by kernel_rfl) (fun _ _ _ h => nomatch h.1) (.inl ⟨by rfl, fun V hV => by go_simp⟩) J ?_
                    try simp only [Act.put, List.getElem_toArray, List.getElem_cons_zero, List.getElem_cons_succ, List.setIfInBounds_toArray, List.set_cons_zero, List.set_cons_succ]
                    refine wpAnyH_take (i := 9) (v := .agg (scC A m c A2 m2 c2)) rfl (by kernel_rfl) (by kernel_rfl) (by kernel_rfl) (fun _ _ _ h => nomatch h.1) (yieldsIf_blk (by rfl) 25 (.tmp 3) rfl (w.heap.size) rfl (scC A m c A2 m2 c2) 25 _ (fun _ h => h.t.k3) Try.underlying25 rfl (sc_inf _ _ _ _ _ _)) J ?_
                    try simp only [Act.put, List.getElem_toArray, List.getElem_cons_zero, List.getElem_cons_succ, List.setIfInBounds_toArray, List.set_cons_zero, List.set_cons_succ]
                    refine wpAnyH_take (i := 11) (v := .pointer (some ⟨w.heap.size + 1 + 1, 1, none⟩)) rfl (by kernel_rfl) (by kernel_rfl) (by kernel_rfl) (fun _ _ _ h => nomatch h.1) (.inl ⟨by rfl, fun V hV => by go_simp⟩) J ?_
                    try simp only [Act.put, List.getElem_toArray, List.getElem_cons_zero, List.getElem_cons_succ, List.setIfInBounds_toArray, List.set_cons_zero, List.set_cons_succ]
                    refine wpAnyH_take (i := 12) (v := .int .i64 q1) rfl (by kernel_rfl) (by kernel_rfl) (by kernel_rfl) (fun _ _ _ h => nomatch h.1) (.inl ⟨by rfl, fun V hV => by have c5 := hV.t.k5.cell 1; simp only [List.getElem?_toArray, List.getElem?_cons_zero, List.getElem?_cons_succ] at c5; go_simp⟩) J ?_
                    try simp only [Act.put, List.getElem_toArray, List.getElem_cons_zero, List.getElem_cons_succ, List.setIfInBounds_toArray, List.set_cons_zero, List.set_cons_succ]
                    refine wpAnyH_take (i := 14) (v := .slice O om oc) rfl (by kernel_rfl) (by kernel_rfl) (by kernel_rfl) (fun _ _ _ h => nomatch h.1) (.inl ⟨by rfl, fun V hV => by go_simp⟩) J ?_
                    try simp only [Act.put, List.getElem_toArray, List.getElem_cons_zero, List.getElem_cons_succ, List.setIfInBounds_toArray, List.set_cons_zero, List.set_cons_succ]
                    refine wpAnyH_ready (rs := [10]) (by kernel_rfl) (by simp) ?_
                    refine AllReadyH.cons rfl (fun K hK => ?_) AllReadyH.nil
                    try simp only [Act.put, List.getElem_toArray, List.getElem_cons_zero, List.getElem_cons_succ, List.setIfInBounds_toArray, List.set_cons_zero, List.set_cons_succ]
                    go_simp
                    refine (HCO.out _ J.t.b).mono ?_
                    rintro e W21 ⟨v, rfl, cv, bb⟩
                    obtain ⟨A21, m21, c21, D21, n21, d21, L21, rfl, hc21⟩ := cv.cpv
                    unfold scV
                    go_wp2_with fail
                    have J := J.step bb
                    have zo := zo.below bb (Nat.le_refl _)
                    clear bb cv
                    refine hK.out _ _ J (fun _ => ?_)
                    clear hK K
                    try simp only [Act.put, List.getElem_toArray, List.getElem_cons_zero, List.getElem_cons_succ, List.setIfInBounds_toArray, List.set_cons_zero, List.set_cons_succ]
                    refine wpAnyH_ready (rs := [13]) (by kernel_rfl) (by simp) ?_
                    refine AllReadyH.cons rfl (fun K hK => ?_) AllReadyH.nil
                    try simp only [Act.put, List.getElem_toArray, List.getElem_cons_zero, List.getElem_cons_succ, List.setIfInBounds_toArray, List.set_cons_zero, List.set_cons_succ]
                    have CC := owns_sc A21 m21 c21 R D21 n21 d21 L21 q1 _ hc21.sc
                    rw [ownsA_names hc21.nm, HOS.out] at CC
                    unfold scV at CC
                    go_simp
                    refine CC.mono ?_
                    rintro e U21 ⟨G2, gm2, gc2, rfl, zz, bb⟩
                    go_wp2_with fail
                    have J := J.step bb
                    have zo := zo.below bb (Nat.le_refl _)
                    clear bb CC hc21
                    refine hK.out _ _ J (fun _ => ?_)
                    clear hK K
                    try simp only [Act.put, List.getElem_toArray, List.getElem_cons_zero, List.getElem_cons_succ, List.setIfInBounds_toArray, List.set_cons_zero, List.set_cons_succ]
                    refine wpAnyH_ready (rs := [15]) (by kernel_rfl) (by simp) ?_
                    refine AllReadyH.cons rfl (fun K hK => ?_) AllReadyH.nil
                    try simp only [Act.put, List.getElem_toArray, List.getElem_cons_zero, List.getElem_cons_succ, List.setIfInBounds_toArray, List.set_cons_zero, List.set_cons_succ]
                    have CC := sameInts_rf G2 gm2 gc2 ol O om oc ol _ zz.ri zz.len (by have := zz.len; have := zo.len; omega) zo.ri zo.len
                    rw [beq_self_eq_true] at CC
                    go_simp
                    refine CC.mono ?_
                    rintro e U22 ⟨rfl, bb⟩
                    go_wp2_with fail
                    have J := J.step bb
                    clear bb CC zz zo
                    refine hK.out _ _ J (fun _ => ?_)
                    clear hK K
                    try simp only [Act.put, List.getElem_toArray, List.getElem_cons_zero, List.getElem_cons_succ, List.setIfInBounds_toArray, List.set_cons_zero, List.set_cons_succ]
                    refine wpAnyH_take (i := 16) (v := .bool true) rfl (by kernel_rfl) (by kernel_rfl) (by kernel_rfl) (fun _ _ _ h => nomatch h.1) (.inl ⟨by rfl, fun V hV => by go_simp⟩) J ?_
                    try simp only [Act.put, List.getElem_toArray, List.getElem_cons_zero, List.getElem_cons_succ, List.setIfInBounds_toArray, List.set_cons_zero, List.set_cons_succ]
                    refine wpAnyH_take (i := 17) (v := .bool true) rfl (by kernel_rfl) (by kernel_rfl) (by kernel_rfl) (fun _ _ _ h => nomatch h.1) (.inl ⟨by rfl, fun V hV => by go_simp⟩) J ?_
                    try simp only [Act.put, List.getElem_toArray, List.getElem_cons_zero, List.getElem_cons_succ, List.setIfInBounds_toArray, List.set_cons_zero, List.set_cons_succ]
                    refine wpAnyH_take (i := 18) (v := .agg (scC A m c A2 m2 c2)) rfl (by kernel_rfl) (by kernel_rfl) (by kernel_rfl) (fun _ _ _ h => nomatch h.1) (yieldsIf_blk (by rfl) 25 (.tmp 3) rfl (w.heap.size) rfl (scC A m c A2 m2 c2) 25 _ (fun _ h => h.t.k3) Try.underlying25 rfl (sc_inf _ _ _ _ _ _)) J ?_
                    try simp only [Act.put, List.getElem_toArray, List.getElem_cons_zero, List.getElem_cons_succ, List.setIfInBounds_toArray, List.set_cons_zero, List.set_cons_succ]
                    refine wpAnyH_take (i := 21) (v := .bool false) rfl (by kernel_rfl) (by kernel_rfl) (by kernel_rfl) (fun _ _ _ h => nomatch h.1) (.inl ⟨by rfl, fun V hV => by go_simp⟩) J ?_
                    try simp only [Act.put, List.getElem_toArray, List.getElem_cons_zero, List.getElem_cons_succ, List.setIfInBounds_toArray, List.set_cons_zero, List.set_cons_succ]
                    refine wpAnyH_ready (rs := [19]) (by kernel_rfl) (by simp) ?_
                    refine AllReadyH.cons rfl (fun K hK => ?_) AllReadyH.nil
                    try simp only [Act.put, List.getElem_toArray, List.getElem_cons_zero, List.getElem_cons_succ, List.setIfInBounds_toArray, List.set_cons_zero, List.set_cons_succ]
                    go_simp
                    refine (HCO.out _ J.t.b).mono ?_
                    rintro e W23 ⟨v, rfl, cv, bb⟩
                    obtain ⟨A23, m23, c23, D23, n23, d23, L23, rfl, hc23⟩ := cv.cpv
                    unfold scV
                    go_wp2_with fail
                    have J := J.step bb
                    clear bb cv
                    refine hK.out _ _ J (fun _ => ?_)
                    clear hK K
                    try simp only [Act.put, List.getElem_toArray, List.getElem_cons_zero, List.getElem_cons_succ, List.setIfInBounds_toArray, List.set_cons_zero, List.set_cons_succ]
                    refine wpAnyH_ready (rs := [20]) (by kernel_rfl) (by simp) ?_
                    refine AllReadyH.cons rfl (fun K hK => ?_) AllReadyH.nil
                    try simp only [Act.put, List.getElem_toArray, List.getElem_cons_zero, List.getElem_cons_succ, List.setIfInBounds_toArray, List.set_cons_zero, List.set_cons_succ]
                    have CC := stuck_sc A23 m23 c23 R D23 n23 d23 L23 _ hc23.sc
                    rw [stuckA_names hc23.nm, HST.out] at CC
                    unfold scV at CC
                    go_simp
                    refine CC.mono ?_
                    rintro e U23 ⟨rfl, bb⟩
                    go_wp2_with fail
                    have J := J.step bb
                    clear bb CC hc23
                    refine hK.out _ _ J (fun _ => ?_)
                    clear hK K
                    try simp only [Act.put, List.getElem_toArray, List.getElem_cons_zero, List.getElem_cons_succ, List.setIfInBounds_toArray, List.set_cons_zero, List.set_cons_succ]
                    refine wpAnyH_take (i := 22) (v := .bool false) rfl (by kernel_rfl) (by kernel_rfl) (by kernel_rfl) (fun _ _ _ h => nomatch h.1) (.inl ⟨by rfl, fun V hV => by go_simp⟩) J ?_
                    try simp only [Act.put, List.getElem_toArray, List.getElem_cons_zero, List.getElem_cons_succ, List.setIfInBounds_toArray, List.set_cons_zero, List.set_cons_succ]
                    refine wpAnyH_take (i := 23) (v := undef) rfl (by kernel_rfl) (by kernel_rfl) (by kernel_rfl) (fun _ _ _ h => nomatch h.1) (.inr ⟨by rfl, by rfl⟩) J ?_
                    try simp only [Act.put, List.getElem_toArray, List.getElem_cons_zero, List.getElem_cons_succ, List.setIfInBounds_toArray, List.set_cons_zero, List.set_cons_succ]
                    refine wpAnyH_take (i := 24) (v := undef) rfl (by kernel_rfl) (by kernel_rfl) (by kernel_rfl) (fun _ _ _ h => nomatch h.1) (.inr ⟨by rfl, by rfl⟩) J ?_
                    try simp only [Act.put, List.getElem_toArray, List.getElem_cons_zero, List.getElem_cons_succ, List.setIfInBounds_toArray, List.set_cons_zero, List.set_cons_succ]
                    refine wpAnyH_take (i := 25) (v := undef) rfl (by kernel_rfl) (by kernel_rfl) (by kernel_rfl) (fun _ _ _ h => nomatch h.1) (.inr ⟨by rfl, by rfl⟩) J ?_
                    try simp only [Act.put, List.getElem_toArray, List.getElem_cons_zero, List.getElem_cons_succ, List.setIfInBounds_toArray, List.set_cons_zero, List.set_cons_succ]
                    refine wpAnyH_take (i := 26) (v := .bool false) rfl (by kernel_rfl) (by kernel_rfl) (by kernel_rfl) (fun _ _ _ h => nomatch h.1) (.inl ⟨by rfl, fun V hV => by go_simp⟩) J ?_
                    try simp only [Act.put, List.getElem_toArray, List.getElem_cons_zero, List.getElem_cons_succ, List.setIfInBounds_toArray, List.set_cons_zero, List.set_cons_succ]
                    refine wpAnyH_take (i := 27) (v := .bool true) rfl (by kernel_rfl) (by kernel_rfl) (by kernel_rfl) (fun _ _ _ h => nomatch h.1) (.inl ⟨by rfl, fun V hV => by go_simp⟩) J ?_
                    try simp only [Act.put, List.getElem_toArray, List.getElem_cons_zero, List.getElem_cons_succ, List.setIfInBounds_toArray, List.set_cons_zero, List.set_cons_succ]
                    refine wpAnyH_take (i := 28) (v := .bool true) rfl (by kernel_rfl) (by kernel_rfl) (by kernel_rfl) (fun _ _ _ h => nomatch h.1) (.inl ⟨by rfl, fun V hV => by go_simp⟩) J ?_
                    try simp only [Act.put, List.getElem_toArray, List.getElem_cons_zero, List.getElem_cons_succ, List.setIfInBounds_toArray, List.set_cons_zero, List.set_cons_succ]
                    refine wpAnyH_take (i := 29) (v := .bool true) rfl (by kernel_rfl) (by kernel_rfl) (by kernel_rfl) (fun _ _ _ h => nomatch h.1) (.inl ⟨by rfl, fun V hV => by go_simp⟩) J ?_
                    try simp only [Act.put, List.getElem_toArray, List.getElem_cons_zero, List.getElem_cons_succ, List.setIfInBounds_toArray, List.set_cons_zero, List.set_cons_succ]
                    refine wpAnyH_done (by kernel_rfl) ?_ _
                    refine ⟨rfl, ?_⟩
                    go_wp2_with fail
                    go_ret
                    exact ⟨rfl, J.t.b⟩
                  · have HST := Lib.hid (show stuckA R L = true by rw [HST.out, ← HW.out]; rfl)
                    clear HW zh
                    try simp only [Act.put]
                    refine region_cutP ?_
                    have bd : Below wv.heap.size wv wv.drew := (Below.refl _ _).drew
                    have J := J.step bd
                    have zo := zo.below bd (Nat.le_refl _)
                    clear bd
                    refine wp_region_held_drew (S := (TM w (scC A m c A2 m2 c2) (scC B n d B2 n2 d2) q0 q1 g12 lx)) (by kernel_rfl) J (fun _ => ?_)
                    generalize wv.drew = wvd at J zo ⊢
                    refine wpAnyH_take (i := 0) (v := .agg (scC A m c A2 m2 c2)) rfl (by kernel_rfl) (by kernel_rfl) (by kernel_rfl) (fun _ _ _ h => nomatch h.1) (yieldsIf_blk (by rfl) 25 (.tmp 3) rfl (w.heap.size) rfl (scC A m c A2 m2 c2) 25 _ (fun _ h => h.t.k3) Try.underlying25 rfl (sc_inf _ _ _ _ _ _)) J ?_
                    try simp only [Act.put, List.getElem_toArray, List.getElem_cons_zero, List.getElem_cons_succ, List.setIfInBounds_toArray, List.set_cons_zero, List.set_cons_succ]
                    refine wpAnyH_take (i := 2) (v := .pointer (some ⟨w.heap.size + 1 + 1, 1, none⟩)) rfl (by kernel_rfl) (by kernel_rfl) (by kernel_rfl) (fun _ _ _ h => nomatch h.1) (.inl ⟨by rfl, fun V hV => by go_simp⟩) J ?_
                    try simp only [Act.put, List.getElem_toArray, List.getElem_cons_zero, List.getElem_cons_succ, List.setIfInBounds_toArray, List.set_cons_zero, List.set_cons_succ]
                    refine wpAnyH_take (i := 3) (v := .int .i64 q1) rfl (by kernel_rfl) (by kernel_rfl) (by kernel_rfl) (fun _ _ _ h => nomatch h.1) (.inl ⟨by rfl, fun V hV => by have c5 := hV.t.k5.cell 1; simp only [List.getElem?_toArray, List.getElem?_cons_zero, List.getElem?_cons_succ] at c5; go_simp⟩) J ?_
                    try simp only [Act.put, List.getElem_toArray, List.getElem_cons_zero, List.getElem_cons_succ, List.setIfInBounds_toArray, List.set_cons_zero, List.set_cons_succ]
                    refine wpAnyH_take (i := 5) (v := .pointer (some ⟨g12, 1, none⟩)) rfl (by kernel_rfl) (by kernel_rfl) (by kernel_rfl) (fun _ _ _ h => nomatch h.1) (.inl ⟨by rfl, fun V hV => by go_simp⟩) J ?_
                    try simp only [Act.put, List.getElem_toArray, List.getElem_cons_zero, List.getElem_cons_succ, List.setIfInBounds_toArray, List.set_cons_zero, List.set_cons_succ]
                    refine wpAnyH_take (i := 6) (v := .int .i64 lx.1.o) rfl (by kernel_rfl) (by kernel_rfl) (by kernel_rfl) (fun _ _ _ h => nomatch h.1) (.inl ⟨by rfl, fun V hV => by have c6 := hV.k.cell 1; change _ = some (Value.int .i64 lx.1.o) at c6; go_simp⟩) J ?_
                    try simp only [Act.put, List.getElem_toArray, List.getElem_cons_zero, List.getElem_cons_succ, List.setIfInBounds_toArray, List.set_cons_zero, List.set_cons_succ]
                    refine wpAnyH_ready (rs := [1]) (by kernel_rfl) (by simp) ?_
                    refine AllReadyH.cons rfl (fun K hK => ?_) AllReadyH.nil
                    try simp only [Act.put, List.getElem_toArray, List.getElem_cons_zero, List.getElem_cons_succ, List.setIfInBounds_toArray, List.set_cons_zero, List.set_cons_succ]
                    go_simp
                    refine (HCO.out _ J.t.b).mono ?_
                    rintro e W20 ⟨v, rfl, cv, bb⟩
                    obtain ⟨A20, m20, c20, D20, n20, d20, L20, rfl, hc20⟩ := cv.cpv
                    unfold scV
                    go_wp2_with fail
                    have J := J.step bb
                    have zo := zo.below bb (Nat.le_refl _)
                    clear bb cv
                    refine hK.out _ _ J (fun _ => ?_)
                    clear hK K
                    try simp only [Act.put, List.getElem_toArray, List.getElem_cons_zero, List.getElem_cons_succ, List.setIfInBounds_toArray, List.set_cons_zero, List.set_cons_succ]
                    refine wpAnyH_ready (rs := [4]) (by kernel_rfl) (by simp) ?_
                    refine AllReadyH.cons rfl (fun K hK => ?_) AllReadyH.nil
                    try simp only [Act.put, List.getElem_toArray, List.getElem_cons_zero, List.getElem_cons_succ, List.setIfInBounds_toArray, List.set_cons_zero, List.set_cons_succ]
                    have CC := owner_sc (A := A20) (m := m20) (c := c20) (R := R) (A2 := D20) (m2 := n20) (c2 := d20) (L := L20) (w := _) q1 hc20.sc
                    rw [ownerA_names hc20.nm, HOW.out] at CC
                    unfold scV at CC
                    go_simp
                    refine CC.mono ?_
                    rintro e U20 ⟨rfl, bb⟩
                    go_wp2_with fail
                    have J := J.step bb
                    have zo := zo.below bb (Nat.le_refl _)
                    clear bb CC hc20
                    refine hK.out _ _ J (fun _ => ?_)
                    clear hK K
                    try simp only [Act.put, List.getElem_toArray, List.getElem_cons_zero, List.getElem_cons_succ, List.setIfInBounds_toArray, List.set_cons_zero, List.set_cons_succ]
                    refine wpAnyH_take (i := 7) (v := .bool true) rfl (by kernel_rfl) (by kernel_rfl) (by kernel_rfl) (fun _ _ _ h => nomatch h.1) (.inl ⟨by rfl, fun V hV => by go_simp⟩) J ?_
                    try simp only [Act.put, List.getElem_toArray, List.getElem_cons_zero, List.getElem_cons_succ, List.setIfInBounds_toArray, List.set_cons_zero, List.set_cons_succ]
                    refine wpAnyH_take (i := 8) (v := .bool true) rfl (by kernel_rfl) (by kernel_rfl) (by kernel_rfl) (fun _ _ _ h => nomatch h.1) (.inl ⟨by rfl, fun V hV => by go_simp⟩) J ?_
                    try simp only [Act.put, List.getElem_toArray, List.getElem_cons_zero, List.getElem_cons_succ, List.setIfInBounds_toArray, List.set_cons_zero, List.set_cons_succ]
                    refine wpAnyH_take (i := 9) (v := .agg (scC A m c A2 m2 c2)) rfl (by kernel_rfl) (by kernel_rfl) (by kernel_rfl) (fun _ _ _ h => nomatch h.1) (yieldsIf_blk (by rfl) 25 (.tmp 3) rfl (w.heap.size) rfl (scC A m c A2 m2 c2) 25 _ (fun _ h => h.t.k3) Try.underlying25 rfl (sc_inf _ _ _ _ _ _)) J ?_
                    try simp only [Act.put, List.getElem_toArray, List.getElem_cons_zero, List.getElem_cons_succ, List.setIfInBounds_toArray, List.set_cons_zero, List.set_cons_succ]
                    refine wpAnyH_take (i := 11) (v := .pointer (some ⟨w.heap.size + 1 + 1, 1, none⟩)) rfl (by kernel_rfl) (by kernel_rfl) (by kernel_rfl) (fun _ _ _ h => nomatch h.1) (.inl ⟨by rfl, fun V hV => by go_simp⟩) J ?_
                    try simp only [Act.put, List.getElem_toArray, List.getElem_cons_zero, List.getElem_cons_succ, List.setIfInBounds_toArray, List.set_cons_zero, List.set_cons_succ]
                    refine wpAnyH_take (i := 12) (v := .int .i64 q1) rfl (by kernel_rfl) (by kernel_rfl) (by kernel_rfl) (fun _ _ _ h => nomatch h.1) (.inl ⟨by rfl, fun V hV => by have c5 := hV.t.k5.cell 1; simp only [List.getElem?_toArray, List.getElem?_cons_zero, List.getElem?_cons_succ] at c5; go_simp⟩) J ?_
                    try simp only [Act.put, List.getElem_toArray, List.getElem_cons_zero, List.getElem_cons_succ, List.setIfInBounds_toArray, List.set_cons_zero, List.set_cons_succ]
                    refine wpAnyH_take (i := 14) (v := .slice O om oc) rfl (by kernel_rfl) (by kernel_rfl) (by kernel_rfl) (fun _ _ _ h => nomatch h.1) (.inl ⟨by rfl, fun V hV => by go_simp⟩) J ?_
                    try simp only [Act.put, List.getElem_toArray, List.getElem_cons_zero, List.getElem_cons_succ, List.setIfInBounds_toArray, List.set_cons_zero, List.set_cons_succ]
                    refine wpAnyH_ready (rs := [10]) (by kernel_rfl) (by simp) ?_
                    refine AllReadyH.cons rfl (fun K hK => ?_) AllReadyH.nil
                    try simp only [Act.put, List.getElem_toArray, List.getElem_cons_zero, List.getElem_cons_succ, List.setIfInBounds_toArray, List.set_cons_zero, List.set_cons_succ]
                    go_simp
                    refine (HCO.out _ J.t.b).mono ?_
                    rintro e W21 ⟨v, rfl, cv, bb⟩
                    obtain ⟨A21, m21, c21, D21, n21, d21, L21, rfl, hc21⟩ := cv.cpv
                    unfold scV
                    go_wp2_with fail
                    have J := J.step bb
                    have zo := zo.below bb (Nat.le_refl _)
                    clear bb cv
                    refine hK.out _ _ J (fun _ => ?_)
                    clear hK K
                    try simp only [Act.put, List.getElem_toArray, List.getElem_cons_zero, List.getElem_cons_succ, List.setIfInBounds_toArray, List.set_cons_zero, List.set_cons_succ]
                    refine wpAnyH_ready (rs := [13]) (by kernel_rfl) (by simp) ?_
                    refine AllReadyH.cons rfl (fun K hK => ?_) AllReadyH.nil
                    try simp only [Act.put, List.getElem_toArray, List.getElem_cons_zero, List.getElem_cons_succ, List.setIfInBounds_toArray, List.set_cons_zero, List.set_cons_succ]
                    have CC := owns_sc A21 m21 c21 R D21 n21 d21 L21 q1 _ hc21.sc
                    rw [ownsA_names hc21.nm, HOS.out] at CC
                    unfold scV at CC
                    go_simp
                    refine CC.mono ?_
                    rintro e U21 ⟨G2, gm2, gc2, rfl, zz, bb⟩
                    go_wp2_with fail
                    have J := J.step bb
                    have zo := zo.below bb (Nat.le_refl _)
                    clear bb CC hc21
                    refine hK.out _ _ J (fun _ => ?_)
                    clear hK K
                    try simp only [Act.put, List.getElem_toArray, List.getElem_cons_zero, List.getElem_cons_succ, List.setIfInBounds_toArray, List.set_cons_zero, List.set_cons_succ]
                    refine wpAnyH_ready (rs := [15]) (by kernel_rfl) (by simp) ?_
                    refine AllReadyH.cons rfl (fun K hK => ?_) AllReadyH.nil
                    try simp only [Act.put, List.getElem_toArray, List.getElem_cons_zero, List.getElem_cons_succ, List.setIfInBounds_toArray, List.set_cons_zero, List.set_cons_succ]
                    have CC := sameInts_rf G2 gm2 gc2 ol O om oc ol _ zz.ri zz.len (by have := zz.len; have := zo.len; omega) zo.ri zo.len
                    rw [beq_self_eq_true] at CC
                    go_simp
                    refine CC.mono ?_
                    rintro e U22 ⟨rfl, bb⟩
                    go_wp2_with fail
                    have J := J.step bb
                    clear bb CC zz zo
                    refine hK.out _ _ J (fun _ => ?_)
                    clear hK K
                    try simp only [Act.put, List.getElem_toArray, List.getElem_cons_zero, List.getElem_cons_succ, List.setIfInBounds_toArray, List.set_cons_zero, List.set_cons_succ]
                    refine wpAnyH_take (i := 16) (v := .bool true) rfl (by kernel_rfl) (by kernel_rfl) (by kernel_rfl) (fun _ _ _ h => nomatch h.1) (.inl ⟨by rfl, fun V hV => by go_simp⟩) J ?_
                    try simp only [Act.put, List.getElem_toArray, List.getElem_cons_zero, List.getElem_cons_succ, List.setIfInBounds_toArray, List.set_cons_zero, List.set_cons_succ]
                    refine wpAnyH_take (i := 17) (v := .bool true) rfl (by kernel_rfl) (by kernel_rfl) (by kernel_rfl) (fun _ _ _ h => nomatch h.1) (.inl ⟨by rfl, fun V hV => by go_simp⟩) J ?_
                    try simp only [Act.put, List.getElem_toArray, List.getElem_cons_zero, List.getElem_cons_succ, List.setIfInBounds_toArray, List.set_cons_zero, List.set_cons_succ]
                    refine wpAnyH_take (i := 18) (v := .agg (scC A m c A2 m2 c2)) rfl (by kernel_rfl) (by kernel_rfl) (by kernel_rfl) (fun _ _ _ h => nomatch h.1) (yieldsIf_blk (by rfl) 25 (.tmp 3) rfl (w.heap.size) rfl (scC A m c A2 m2 c2) 25 _ (fun _ h => h.t.k3) Try.underlying25 rfl (sc_inf _ _ _ _ _ _)) J ?_
                    try simp only [Act.put, List.getElem_toArray, List.getElem_cons_zero, List.getElem_cons_succ, List.setIfInBounds_toArray, List.set_cons_zero, List.set_cons_succ]
                    refine wpAnyH_take (i := 21) (v := .bool true) rfl (by kernel_rfl) (by kernel_rfl) (by kernel_rfl) (fun _ _ _ h => nomatch h.1) (.inl ⟨by rfl, fun V hV => by go_simp⟩) J ?_
                    try simp only [Act.put, List.getElem_toArray, List.getElem_cons_zero, List.getElem_cons_succ, List.setIfInBounds_toArray, List.set_cons_zero, List.set_cons_succ]
                    refine wpAnyH_ready (rs := [19]) (by kernel_rfl) (by simp) ?_
                    refine AllReadyH.cons rfl (fun K hK => ?_) AllReadyH.nil
                    try simp only [Act.put, List.getElem_toArray, List.getElem_cons_zero, List.getElem_cons_succ, List.setIfInBounds_toArray, List.set_cons_zero, List.set_cons_succ]
                    go_simp
                    refine (HCO.out _ J.t.b).mono ?_
                    rintro e W23 ⟨v, rfl, cv, bb⟩
                    obtain ⟨A23, m23, c23, D23, n23, d23, L23, rfl, hc23⟩ := cv.cpv
                    unfold scV
                    go_wp2_with fail
                    have J := J.step bb
                    clear bb cv
                    refine hK.out _ _ J (fun _ => ?_)
                    clear hK K
                    try simp only [Act.put, List.getElem_toArray, List.getElem_cons_zero, List.getElem_cons_succ, List.setIfInBounds_toArray, List.set_cons_zero, List.set_cons_succ]
                    refine wpAnyH_ready (rs := [20]) (by kernel_rfl) (by simp) ?_
                    refine AllReadyH.cons rfl (fun K hK => ?_) AllReadyH.nil
                    try simp only [Act.put, List.getElem_toArray, List.getElem_cons_zero, List.getElem_cons_succ, List.setIfInBounds_toArray, List.set_cons_zero, List.set_cons_succ]
                    have CC := stuck_sc A23 m23 c23 R D23 n23 d23 L23 _ hc23.sc
                    rw [stuckA_names hc23.nm, HST.out] at CC
                    unfold scV at CC
                    go_simp
                    refine CC.mono ?_
                    rintro e U23 ⟨rfl, bb⟩
                    go_wp2_with fail
                    have J := J.step bb
                    clear bb CC hc23
                    refine hK.out _ _ J (fun _ => ?_)
                    clear hK K
                    try simp only [Act.put, List.getElem_toArray, List.getElem_cons_zero, List.getElem_cons_succ, List.setIfInBounds_toArray, List.set_cons_zero, List.set_cons_succ]
                    refine wpAnyH_take (i := 22) (v := .bool true) rfl (by kernel_rfl) (by kernel_rfl) (by kernel_rfl) (fun _ _ _ h => nomatch h.1) (.inl ⟨by rfl, fun V hV => by go_simp⟩) J ?_
                    try simp only [Act.put, List.getElem_toArray, List.getElem_cons_zero, List.getElem_cons_succ, List.setIfInBounds_toArray, List.set_cons_zero, List.set_cons_succ]
                    refine wpAnyH_take (i := 23) (v := .slice H 0 hcp) rfl (by kernel_rfl) (by kernel_rfl) (by kernel_rfl) (fun _ _ _ h => nomatch h.1) (.inl ⟨by rfl, fun V hV => by go_simp⟩) J ?_
                    try simp only [Act.put, List.getElem_toArray, List.getElem_cons_zero, List.getElem_cons_succ, List.setIfInBounds_toArray, List.set_cons_zero, List.set_cons_succ]
                    refine wpAnyH_take (i := 24) (v := .int .i64 0) rfl (by kernel_rfl) (by kernel_rfl) (by kernel_rfl) (fun _ _ _ h => nomatch h.1) (.inl ⟨by rfl, fun V hV => by go_simp⟩) J ?_
                    try simp only [Act.put, List.getElem_toArray, List.getElem_cons_zero, List.getElem_cons_succ, List.setIfInBounds_toArray, List.set_cons_zero, List.set_cons_succ]
                    refine wpAnyH_take (i := 25) (v := .bool true) rfl (by kernel_rfl) (by kernel_rfl) (by kernel_rfl) (fun _ _ _ h => nomatch h.1) (.inl ⟨by rfl, fun V hV => by go_simp⟩) J ?_
                    try simp only [Act.put, List.getElem_toArray, List.getElem_cons_zero, List.getElem_cons_succ, List.setIfInBounds_toArray, List.set_cons_zero, List.set_cons_succ]
                    refine wpAnyH_take (i := 26) (v := .bool true) rfl (by kernel_rfl) (by kernel_rfl) (by kernel_rfl) (fun _ _ _ h => nomatch h.1) (.inl ⟨by rfl, fun V hV => by go_simp⟩) J ?_
                    try simp only [Act.put, List.getElem_toArray, List.getElem_cons_zero, List.getElem_cons_succ, List.setIfInBounds_toArray, List.set_cons_zero, List.set_cons_succ]
                    refine wpAnyH_take (i := 27) (v := .bool true) rfl (by kernel_rfl) (by kernel_rfl) (by kernel_rfl) (fun _ _ _ h => nomatch h.1) (.inl ⟨by rfl, fun V hV => by go_simp⟩) J ?_
                    try simp only [Act.put, List.getElem_toArray, List.getElem_cons_zero, List.getElem_cons_succ, List.setIfInBounds_toArray, List.set_cons_zero, List.set_cons_succ]
                    refine wpAnyH_take (i := 28) (v := .bool true) rfl (by kernel_rfl) (by kernel_rfl) (by kernel_rfl) (fun _ _ _ h => nomatch h.1) (.inl ⟨by rfl, fun V hV => by go_simp⟩) J ?_
                    try simp only [Act.put, List.getElem_toArray, List.getElem_cons_zero, List.getElem_cons_succ, List.setIfInBounds_toArray, List.set_cons_zero, List.set_cons_succ]
                    refine wpAnyH_take (i := 29) (v := .bool true) rfl (by kernel_rfl) (by kernel_rfl) (by kernel_rfl) (fun _ _ _ h => nomatch h.1) (.inl ⟨by rfl, fun V hV => by go_simp⟩) J ?_
                    try simp only [Act.put, List.getElem_toArray, List.getElem_cons_zero, List.getElem_cons_succ, List.setIfInBounds_toArray, List.set_cons_zero, List.set_cons_succ]
                    refine wpAnyH_done (by kernel_rfl) ?_ _
                    refine ⟨rfl, ?_⟩
                    go_wp2_with fail
                    go_ret
                    exact ⟨rfl, J.t.b⟩
        · have hl0 : ¬ rl.length = 0 := fun e => h0 (List.length_eq_zero_iff.1 e)
          unfold pickV at hp
          rw [if_neg hl0] at hp
          obtain ⟨q, hq⟩ : ∃ q : Nat, max q0 0 % (rl.length : Int) = q := ⟨(max q0 0 % (rl.length : Int)).toNat, by
            have := Int.emod_nonneg (max q0 0) (show (rl.length : Int) ≠ 0 by omega); omega⟩
          have hql : q < rl.length := by
            have := Int.emod_lt_of_pos (max q0 0) (show (0 : Int) < (rl.length : Int) by omega); omega
          have hqt : ((q : Int)).toNat = q := by omega
          rw [hq, hqt] at hp
          obtain ⟨hpk, rfl⟩ : pk = rl.getD q 0 ∧ ok = true := by injection hp with a b; exact ⟨a.symm, b.symm⟩
          have HQ2 := Lib.hid hq
          have HQL := Lib.hid hql
          have HN := Lib.hid h0
          have HPK := Lib.hid hpk
          have HRL := Lib.hid hrlen
          have HL0 := Lib.hid hl0
          clear hp hq hql hqt hl0 h0 hpk hrlen
          go_wp2_with (first
            | (refine wpListG_load (by rfl) 25 (.tmp 3) rfl (w.heap.size) rfl 25 (scC A m c A2 m2 c2) _ J.k3 Try.underlying25 rfl (sc_inf _ _ _ _ _ _) ?_)
            | (refine (HR.out _ (HSs.out.on J.b)).mono ?_
               clear HR
               rintro e w13 ⟨rfl, bb⟩
               have J := J.step bb
               have z7 := z7.below bb (Nat.le_refl _)
               clear bb)
            | (refine wpListG_load (by rfl) 25 (.tmp 3) rfl (w.heap.size) rfl 25 (scC A m c A2 m2 c2) _ J.k3 Try.underlying25 rfl (sc_inf _ _ _ _ _ _) ?_)
            | (refine (HRD.out _ J.b).mono ?_
               clear HRD
               rintro e w14 ⟨H, hm, hcp, rfl, zh, bb⟩
               have zh := zh.down J.b.size
               have z7 := z7.below bb (Nat.le_refl _)
               have J := J.step bb
               have CS := sameInts_rf G gm gc rl H hm hcp rl w14 z7.ri z7.len (by have := z7.len; have := HRL.out; omega) zh.ri zh.len
               rw [beq_self_eq_true] at CS
               clear bb z7)
            | (refine CS.mono ?_
               clear CS
               rintro e w15 ⟨rfl, bb⟩
               have J := J.step bb
               have zh := zh.below bb (Nat.le_refl _)
               have c50 := J.k5.cell 0
               have c51 := J.k5.cell 1
               simp only [List.getElem?_toArray, List.getElem?_cons_zero, List.getElem?_cons_succ] at c50 c51
               have hgl := zh.len
               obtain ⟨b, off, rfl, hb, hc⟩ := zh.ri q HQL.out
               have hgz : ¬ ((hm : Int) = 0) := by have := HL0.out; omega
               have hgt : 0 < hm := by omega
               have HM0 := Lib.hid (show ((hm : Int) == 0) = false by simp; omega)
               have hqm : (q : Int) < (hm : Int) := by have := HQL.out; omega
               have hmx : (0 : Int) ≤ max q0 0 := by omega
               have hrm : (max q0 0).tmod (hm : Int) = (q : Int) := by rw [Int.tmod_eq_emod_of_nonneg hmx, hgl]; exact HQ2.out
               have hpy : (pk != rl.getD q 0) = false := by rw [HPK.out]; simp
               generalize rl.getD q 0 = y at hc hpy
               clear hgl hmx
               clear bb)
            | (refine wpListG_load (by rfl) 25 (.tmp 3) rfl (w.heap.size) rfl 25 (scC A m c A2 m2 c2) _ J.k3 Try.underlying25 rfl (sc_inf _ _ _ _ _ _) ?_)
            | (refine (HFK.out _ J.b).mono ?_
               clear HFK
               rintro e w16 ⟨rfl, bb⟩
               have J := J.step bb
               have zh := zh.below bb (Nat.le_refl _)
               clear bb)
            | (refine wpList_store_blk rfl 48 (.tmp 12) (.tmp 143) rfl w16.heap.size (kwC kw0) (kwC lx) 48 rfl rfl (Blk.new _ _ _) rfl (kw_inf lx) (kw_one lx) ?_
               intro w17 k12 n12
               have bb : Below w16.heap.size w16 w17 := ((Below.refl _ w16).alloc (Nat.le_refl _) _).trans (n12.below _ (Nat.le_refl _) (by simp))
               have J := J.step bb
               have zh := zh.below bb (Nat.le_refl _)
               have JM : TM w (scC A m c A2 m2 c2) (scC B n d B2 n2 d2) q0 q1 w16.heap.size lx w17 := ⟨J, k12⟩
               have c30 := J.k3.cell 0
               change _ = some (Value.slice A m c) at c30
               clear bb n12 k12 J
               generalize w16.heap.size = g12 at JM ⊢))
          go_loopw [14, 148] (fun bv i wr' => ∃ (k : Nat) (wr : World) (wk : Bool), wr = wr' ∧ k ≤ m ∧ i = .int .i64 k ∧ bv = .bool wk ∧ Hid (wk = (R.take k).any waitB) ∧ Below w17.heap.size w17 wr) (fun _ i _ => m - (intOf i).toNat)
          case atStart => exact ⟨0, _, false, rfl, Nat.zero_le _, rfl, rfl, Lib.hid (by rw [List.take_zero]; rfl), Below.refl _ _⟩
          case round =>
            clear c30
            obtain ⟨k, wr, wk, hwr, hk, rfl, rfl, HWT, hB⟩ := hrel
            subst hwr
            by_cases hlt : k < m
            · have hlt' : (k : Int) < (m : Int) := by omega
              have hkl : k < R.length := by have := HSs.out.len; omega
              obtain ⟨b, off, rfl, hb, hc⟩ := (HSs.out.rs.below (JM.t.b.trans (hB.mono JM.t.b.size)) (Nat.le_refl _)) k hkl
              have HTK := Lib.hid (any_takeW hkl)
              generalize R.getD k rn0 = x at hc HTK
              rw [← HWT.out] at HTK
              clear HWT hkl
              cases wk
              · cases hs : (x.s == 1)
                · have HT2 := Lib.hid (show false = (R.take (k + 1)).any waitB by rw [HTK.out]; unfold waitB; rw [hs]; rfl)
                  clear HTK
                  go_wp2_with (first
                    | (refine wpList_load_mid rfl 52 (.tmp 150) rfl b (off + k * 3) rfl (rnC x).toList _ hc Try.underlying52 rfl (rn_infL x) ?_)
                    | (refine wpList_store_blk rfl 52 (.tmp 16) (.tmp 151) rfl wr.heap.size (rnC rn0) (rnC x) 52 rfl rfl (Blk.new _ _ _) rfl (rn_inf x) (rn_one x) ?_
                       intro wx kx nx
                       have bb : Below wr.heap.size wr wx := ((Below.refl _ wr).alloc (Nat.le_refl _) _).trans (nx.below _ (Nat.le_refl _) (by simp))
                       have hB2 := hB.trans (bb.mono hB.size)
                       have qx := kx.cell 1
                       change _ = some (Value.int .i64 x.s) at qx
                       clear bb nx hc kx))
                  go_roundw
                  case rel => exact ⟨k + 1, _, false, rfl, by omega, by go_num, rfl, HT2, hB2⟩
                  case measure => simp [intOf]; omega
                · have HT2 := Lib.hid (show true = (R.take (k + 1)).any waitB by rw [HTK.out]; unfold waitB; rw [hs]; rfl)
                  clear HTK
                  go_wp2_with (first
                    | (refine wpList_load_mid rfl 52 (.tmp 150) rfl b (off + k * 3) rfl (rnC x).toList _ hc Try.underlying52 rfl (rn_infL x) ?_)
                    | (refine wpList_store_blk rfl 52 (.tmp 16) (.tmp 151) rfl wr.heap.size (rnC rn0) (rnC x) 52 rfl rfl (Blk.new _ _ _) rfl (rn_inf x) (rn_one x) ?_
                       intro wx kx nx
                       have bb : Below wr.heap.size wr wx := ((Below.refl _ wr).alloc (Nat.le_refl _) _).trans (nx.below _ (Nat.le_refl _) (by simp))
                       have hB2 := hB.trans (bb.mono hB.size)
                       have qx := kx.cell 1
                       change _ = some (Value.int .i64 x.s) at qx
                       clear bb nx hc kx))
                  go_roundw
                  case rel => exact ⟨k + 1, _, true, rfl, by omega, by go_num, rfl, HT2, hB2⟩
                  case measure => simp [intOf]; omega
              · have HT2 := Lib.hid (show true = (R.take (k + 1)).any waitB by rw [HTK.out, Bool.true_or])
                clear HTK
                go_wp2_with (first
                  | (refine wpList_load_mid rfl 52 (.tmp 150) rfl b (off + k * 3) rfl (rnC x).toList _ hc Try.underlying52 rfl (rn_infL x) ?_)
                  | (refine wpList_store_blk rfl 52 (.tmp 16) (.tmp 151) rfl wr.heap.size (rnC rn0) (rnC x) 52 rfl rfl (Blk.new _ _ _) rfl (rn_inf x) (rn_one x) ?_
                     intro wx kx nx
                     have bb : Below wr.heap.size wr wx := ((Below.refl _ wr).alloc (Nat.le_refl _) _).trans (nx.below _ (Nat.le_refl _) (by simp))
                     have hB2 := hB.trans (bb.mono hB.size)
                     have qx := kx.cell 1
                     change _ = some (Value.int .i64 x.s) at qx
                     clear bb nx hc kx))
                go_roundw
                case rel => exact ⟨k + 1, _, true, rfl, by omega, by go_num, rfl, HT2, hB2⟩
                case measure => simp [intOf]; omega
            · have hkm : m = k := by omega
              subst hkm
              have hw := HWT.out
              rw [List.take_of_length_le (by have := HSs.out.len; omega)] at hw
              have HW := Lib.hid hw
              clear hw HWT hlt
              have zh := zh.below hB (Nat.le_refl _)
              have JM := JM.step hB
              clear hB hk
              have c31 := JM.t.k3.cell 1
              change _ = some (Value.slice A2 m2 c2) at c31
              go_wp2_with fail
              clear c31
              go_loopw [17, 162] (fun ov i wr' => ∃ (k : Nat) (wv : World) (O : Option Addr) (om oc : Nat), wv = wr' ∧ k ≤ m2 ∧ i = .int .i64 k ∧ ov = .slice O om oc ∧ Hid (Zo wv wr.heap.size O om oc (ownsF (L.take k) q1)) ∧ Below wr.heap.size wr wv) (fun _ i _ => m2 - (intOf i).toNat)
              case atStart => exact ⟨0, _, none, 0, 0, rfl, Nat.zero_le _, rfl, rfl, Lib.hid (by rw [List.take_zero]; exact zo_nil _ _), Below.refl _ _⟩
              case round =>
                obtain ⟨k, wv, O, om, oc, hwv, hk, rfl, rfl, HZ, hB⟩ := hrel
                subst hwv
                have hom : om ≤ 1000000 := by
                  have := HZ.out.len
                  have h1 := ownsF_len (L.take k) q1
                  have h2 := HSs.out.lim2
                  rw [List.length_take] at h1
                  omega
                by_cases hlt : k < m2
                · have hlt' : (k : Int) < (m2 : Int) := by omega
                  have hkl : k < L.length := by have := HSs.out.len2; omega
                  obtain ⟨b, off, rfl, hb, hc⟩ := (HSs.out.ks.below (JM.t.b.trans (hB.mono JM.t.b.size)) (Nat.le_refl _)) k hkl
                  have HTK := Lib.hid (ownsF_take hkl q1)
                  generalize L.getD k kw0 = x at hc HTK
                  clear hkl
                  have hs3 : (kwC x).size = 3 := kw_size x
                  cases hq1 : (x.1.o == q1)
                  · have HT2 := Lib.hid (show ownsF (L.take (k + 1)) q1 = ownsF (L.take k) q1 by rw [HTK.out, hq1, if_neg (by simp), List.append_nil])
                    clear HTK
                    go_wp2_with (first
                      | (refine wpList_load_mid rfl 48 (.tmp 164) rfl b (off + k * 3) rfl (kwC x).toList _ hc Try.underlying48 rfl (kw_infL x) ?_)
                      | (refine wpList_store_blk rfl 48 (.tmp 19) (.tmp 165) rfl wv.heap.size (kwC kw0) (kwC x) 48 rfl rfl (Blk.new _ _ _) rfl (kw_inf x) (kw_one x) ?_
                         intro wx kx nx
                         have bb : Below wv.heap.size wv wx := ((Below.refl _ wv).alloc (Nat.le_refl _) _).trans (nx.below _ (Nat.le_refl _) (by simp))
                         have hB2 := hB.trans (bb.mono hB.size)
                         have z2 := HZ.out.below bb (Nat.le_refl _)
                         have q51 := kx.cell 1
                         change _ = some (Value.int .i64 x.1.o) at q51
                         have c51 := (JM.step hB2).t.k5.cell 1
                         simp only [List.getElem?_toArray, List.getElem?_cons_zero, List.getElem?_cons_succ] at c51
                         clear bb
                         clear nx hc kx))
                    go_roundw
                    case rel => exact ⟨k + 1, _, O, om, oc, rfl, by omega, by go_num, rfl, Lib.hid (by rw [HT2.out]; exact z2), hB2⟩
                    case measure => simp [intOf]; omega
                  · have HT2 := Lib.hid (show ownsF (L.take (k + 1)) q1 = ownsF (L.take k) q1 ++ [x.1.n] by rw [HTK.out, hq1, if_pos rfl])
                    clear HTK
                    go_wp2_with (first
                      | (refine wpList_load_mid rfl 48 (.tmp 164) rfl b (off + k * 3) rfl (kwC x).toList _ hc Try.underlying48 rfl (kw_infL x) ?_)
                      | (refine wpList_store_blk rfl 48 (.tmp 19) (.tmp 165) rfl wv.heap.size (kwC kw0) (kwC x) 48 rfl rfl (Blk.new _ _ _) rfl (kw_inf x) (kw_one x) ?_
                         intro wx kx nx
                         have bb : Below wv.heap.size wv wx := ((Below.refl _ wv).alloc (Nat.le_refl _) _).trans (nx.below _ (Nat.le_refl _) (by simp))
                         have hB2 := hB.trans (bb.mono hB.size)
                         have z2 := HZ.out.below bb (Nat.le_refl _)
                         have q51 := kx.cell 1
                         change _ = some (Value.int .i64 x.1.o) at q51
                         have c51 := (JM.step hB2).t.k5.cell 1
                         simp only [List.getElem?_toArray, List.getElem?_cons_zero, List.getElem?_cons_succ] at c51
                         clear bb
                         have q50 := kx.cell 0
                         change _ = some (Value.int .i64 x.1.n) at q50
                         clear nx hc kx)
                      | (at_builtin; refine wpList_app1Z rfl (.tmp 171) (.tmp 174) rfl wr.heap.size O om oc _ rfl (z2.below ((Below.refl _ wx).alloc (Nat.le_refl _) _) (Nat.le_refl _)) wx.heap.size x.1.n rfl (cell_one_new _ _ _ 0 _ rfl) hom (Nat.le_trans hB2.size (by simp)) ?_
                         intro O2 oc2 wy z3 b3
                         have hB3 := (hB2.trans (((Below.refl _ wx).alloc (Nat.le_refl _) (.cells #[.int .i64 x.1.n] 3)).mono hB2.size)).trans b3))
                    go_roundw
                    case rel => exact ⟨k + 1, _, O2, om + 1, oc2, rfl, by omega, by go_num, rfl, Lib.hid (by rw [HT2.out]; exact z3), hB3⟩
                    case measure => simp [intOf]; omega
                · have hkm : m2 = k := by omega
                  subst hkm
                  have zo := HZ.out
                  rw [List.take_of_length_le (by have := HSs.out.len2; omega)] at zo
                  have zo := zo.down JM.t.b.size
                  have zh := zh.below hB (Nat.le_refl _)
                  have J := JM.step hB
                  clear hB hk hlt HZ JM
                  generalize ownsF L q1 = ol at HOS zo
                  go_wp2_with fail
                  cases wk
                  · have HST := Lib.hid (show stuckA R L = false by rw [HST.out, ← HW.out]; rw [decide_eq_false HN.out]; rfl)
                    clear HW zh
                    try simp only [Act.put]
                    refine region_cutP ?_
                    have bd : Below wv.heap.size wv wv.drew := (Below.refl _ _).drew
                    have J := J.step bd
                    have zo := zo.below bd (Nat.le_refl _)
                    clear bd
                    refine wp_region_held_drew (S := (TM w (scC A m c A2 m2 c2) (scC B n d B2 n2 d2) q0 q1 g12 lx)) (by kernel_rfl) J (fun _ => ?_)
                    generalize wv.drew = wvd at J zo ⊢
                    refine wpAnyH_take (i := 0) (v := .agg (scC A m c A2 m2 c2)) rfl (by kernel_rfl) (by kernel_rfl) (by kernel_rfl) (fun _ _ _ h => nomatch h.1) (yieldsIf_blk (by rfl) 25 (.tmp 3) rfl (w.heap.size) rfl (scC A m c A2 m2 c2) 25 _ (fun _ h => h.t.k3) Try.underlying25 rfl (sc_inf _ _ _ _ _ _)) J ?_
                    try simp only [Act.put, List.getElem_toArray, List.getElem_cons_zero, List.getElem_cons_succ, List.setIfInBounds_toArray, List.set_cons_zero, List.set_cons_succ]
                    refine wpAnyH_take (i := 2) (v := .pointer (some ⟨w.heap.size + 1 + 1, 1, none⟩)) rfl (by kernel_rfl) (by kernel_rfl) (by kernel_rfl) (fun _ _ _ h => nomatch h.1) (.inl ⟨by rfl, fun V hV => by go_simp⟩) J ?_
                    try simp only [Act.put, List.getElem_toArray, List.getElem_cons_zero, List.getElem_cons_succ, List.setIfInBounds_toArray, List.set_cons_zero, List.set_cons_succ]
                    refine wpAnyH_take (i := 3) (v := .int .i64 q1) rfl (by kernel_rfl) (by kernel_rfl) (by kernel_rfl) (fun _ _ _ h => nomatch h.1) (.inl ⟨by rfl, fun V hV => by have c5 := hV.t.k5.cell 1; simp only [List.getElem?_toArray, List.getElem?_cons_zero, List.getElem?_cons_succ] at c5; go_simp⟩) J ?_
                    try simp only [Act.put, List.getElem_toArray, List.getElem_cons_zero, List.getElem_cons_succ, List.setIfInBounds_toArray, List.set_cons_zero, List.set_cons_succ]
                    refine wpAnyH_take (i := 5) (v := .pointer (some ⟨g12, 1, none⟩)) rfl (by kernel_rfl) (by kernel_rfl) (by kernel_rfl) (fun _ _ _ h => nomatch h.1) (.inl ⟨by rfl, fun V hV => by go_simp⟩) J ?_
                    try simp only [Act.put, List.getElem_toArray, List.getElem_cons_zero, List.getElem_cons_succ, List.setIfInBounds_toArray, List.set_cons_zero, List.set_cons_succ]
                    refine wpAnyH_take (i := 6) (v := .int .i64 lx.1.o) rfl (by kernel_rfl) (by kernel_rfl) (by kernel_rfl) (fun _ _ _ h => nomatch h.1) (.inl ⟨by rfl, fun V hV => by have c6 := hV.k.cell 1; change _ = some (Value.int .i64 lx.1.o) at c6; go_simp⟩) J ?_
                    try simp only [Act.put, List.getElem_toArray, List.getElem_cons_zero, List.getElem_cons_succ, List.setIfInBounds_toArray, List.set_cons_zero, List.set_cons_succ]
                    refine wpAnyH_ready (rs := [1]) (by kernel_rfl) (by simp) ?_
                    refine AllReadyH.cons rfl (fun K hK => ?_) AllReadyH.nil
                    try simp only [Act.put, List.getElem_toArray, List.getElem_cons_zero, List.getElem_cons_succ, List.setIfInBounds_toArray, List.set_cons_zero, List.set_cons_succ]
                    go_simp
                    refine (HCO.out _ J.t.b).mono ?_
                    rintro e W20 ⟨v, rfl, cv, bb⟩
                    obtain ⟨A20, m20, c20, D20, n20, d20, L20, rfl, hc20⟩ := cv.cpv
                    unfold scV
                    go_wp2_with fail
                    have J := J.step bb
                    have zo := zo.below bb (Nat.le_refl _)
                    clear bb cv
                    refine hK.out _ _ J (fun _ => ?_)
                    clear hK K
                    try simp only [Act.put, List.getElem_toArray, List.getElem_cons_zero, List.getElem_cons_succ, List.setIfInBounds_toArray, List.set_cons_zero, List.set_cons_succ]
                    refine wpAnyH_ready (rs := [4]) (by kernel_rfl) (by simp) ?_
                    refine AllReadyH.cons rfl (fun K hK => ?_) AllReadyH.nil
                    try simp only [Act.put, List.getElem_toArray, List.getElem_cons_zero, List.getElem_cons_succ, List.setIfInBounds_toArray, List.set_cons_zero, List.set_cons_succ]
                    have CC := owner_sc (A := A20) (m := m20) (c := c20) (R := R) (A2 := D20) (m2 := n20) (c2 := d20) (L := L20) (w := _) q1 hc20.sc
                    rw [ownerA_names hc20.nm, HOW.out] at CC
                    unfold scV at CC
                    go_simp
                    refine CC.mono ?_
                    rintro e U20 ⟨rfl, bb⟩
                    go_wp2_with fail
                    have J := J.step bb
                    have zo := zo.below bb (Nat.le_refl _)
                    clear bb CC hc20
                    refine hK.out _ _ J (fun _ => ?_)
                    clear hK K
                    try simp only [Act.put, List.getElem_toArray, List.getElem_cons_zero, List.getElem_cons_succ, List.setIfInBounds_toArray, List.set_cons_zero, List.set_cons_succ]
                    refine wpAnyH_take (i := 7) (v := .bool true) rfl (by kernel_rfl) (by kernel_rfl) (by kernel_rfl) (fun _ _ _ h => nomatch h.1) (.inl ⟨by rfl, fun V hV => by go_simp⟩) J ?_
                    try simp only [Act.put, List.getElem_toArray, List.getElem_cons_zero, List.getElem_cons_succ, List.setIfInBounds_toArray, List.set_cons_zero, List.set_cons_succ]
                    refine wpAnyH_take (i := 8) (v := .bool true) rfl (by kernel_rfl) (by kernel_rfl) (by kernel_rfl) (fun _ _ _ h => nomatch h.1) (.inl ⟨by rfl, fun V hV => by go_simp⟩) J ?_
                    try simp only [Act.put, List.getElem_toArray, List.getElem_cons_zero, List.getElem_cons_succ, List.setIfInBounds_toArray, List.set_cons_zero, List.set_cons_succ]
                    refine wpAnyH_take (i := 9) (v := .agg (scC A m c A2 m2 c2)) rfl (by kernel_rfl) (by kernel_rfl) (by kernel_rfl) (fun _ _ _ h => nomatch h.1) (yieldsIf_blk (by rfl) 25 (.tmp 3) rfl (w.heap.size) rfl (scC A m c A2 m2 c2) 25 _ (fun _ h => h.t.k3) Try.underlying25 rfl (sc_inf _ _ _ _ _ _)) J ?_
                    try simp only [Act.put, List.getElem_toArray, List.getElem_cons_zero, List.getElem_cons_succ, List.setIfInBounds_toArray, List.set_cons_zero, List.set_cons_succ]
                    refine wpAnyH_take (i := 11) (v := .pointer (some ⟨w.heap.size + 1 + 1, 1, none⟩)) rfl (by kernel_rfl) (by kernel_rfl) (by kernel_rfl) (fun _ _ _ h => nomatch h.1) (.inl ⟨by rfl, fun V hV => by go_simp⟩) J ?_
                    try simp only [Act.put, List.getElem_toArray, List.getElem_cons_zero, List.getElem_cons_succ, List.setIfInBounds_toArray, List.set_cons_zero, List.set_cons_succ]
                    refine wpAnyH_take (i := 12) (v := .int .i64 q1) rfl (by kernel_rfl) (by kernel_rfl) (by kernel_rfl) (fun _ _ _ h => nomatch h.1) (.inl ⟨by rfl, fun V hV => by have c5 := hV.t.k5.cell 1; simp only [List.getElem?_toArray, List.getElem?_cons_zero, List.getElem?_cons_succ] at c5; go_simp⟩) J ?_
                    try simp only [Act.put, List.getElem_toArray, List.getElem_cons_zero, List.getElem_cons_succ, List.setIfInBounds_toArray, List.set_cons_zero, List.set_cons_succ]
                    refine wpAnyH_take (i := 14) (v := .slice O om oc) rfl (by kernel_rfl) (by kernel_rfl) (by kernel_rfl) (fun _ _ _ h => nomatch h.1) (.inl ⟨by rfl, fun V hV => by go_simp⟩) J ?_
                    try simp only [Act.put, List.getElem_toArray, List.getElem_cons_zero, List.getElem_cons_succ, List.setIfInBounds_toArray, List.set_cons_zero, List.set_cons_succ]
                    refine wpAnyH_ready (rs := [10]) (by kernel_rfl) (by simp) ?_
                    refine AllReadyH.cons rfl (fun K hK => ?_) AllReadyH.nil
                    try simp only [Act.put, List.getElem_toArray, List.getElem_cons_zero, List.getElem_cons_succ, List.setIfInBounds_toArray, List.set_cons_zero, List.set_cons_succ]
                    go_simp
                    refine (HCO.out _ J.t.b).mono ?_
                    rintro e W21 ⟨v, rfl, cv, bb⟩
                    obtain ⟨A21, m21, c21, D21, n21, d21, L21, rfl, hc21⟩ := cv.cpv
                    unfold scV
                    go_wp2_with fail
                    have J := J.step bb
                    have zo := zo.below bb (Nat.le_refl _)
                    clear bb cv
                    refine hK.out _ _ J (fun _ => ?_)
                    clear hK K
                    try simp only [Act.put, List.getElem_toArray, List.getElem_cons_zero, List.getElem_cons_succ, List.setIfInBounds_toArray, List.set_cons_zero, List.set_cons_succ]
                    refine wpAnyH_ready (rs := [13]) (by kernel_rfl) (by simp) ?_
                    refine AllReadyH.cons rfl (fun K hK => ?_) AllReadyH.nil
                    try simp only [Act.put, List.getElem_toArray, List.getElem_cons_zero, List.getElem_cons_succ, List.setIfInBounds_toArray, List.set_cons_zero, List.set_cons_succ]
                    have CC := owns_sc A21 m21 c21 R D21 n21 d21 L21 q1 _ hc21.sc
                    rw [ownsA_names hc21.nm, HOS.out] at CC
                    unfold scV at CC
                    go_simp
                    refine CC.mono ?_
                    rintro e U21 ⟨G2, gm2, gc2, rfl, zz, bb⟩
                    go_wp2_with fail
                    have J := J.step bb
                    have zo := zo.below bb (Nat.le_refl _)
                    clear bb CC hc21
                    refine hK.out _ _ J (fun _ => ?_)
                    clear hK K
                    try simp only [Act.put, List.getElem_toArray, List.getElem_cons_zero, List.getElem_cons_succ, List.setIfInBounds_toArray, List.set_cons_zero, List.set_cons_succ]
                    refine wpAnyH_ready (rs := [15]) (by kernel_rfl) (by simp) ?_
                    refine AllReadyH.cons rfl (fun K hK => ?_) AllReadyH.nil
                    try simp only [Act.put, List.getElem_toArray, List.getElem_cons_zero, List.getElem_cons_succ, List.setIfInBounds_toArray, List.set_cons_zero, List.set_cons_succ]
                    have CC := sameInts_rf G2 gm2 gc2 ol O om oc ol _ zz.ri zz.len (by have := zz.len; have := zo.len; omega) zo.ri zo.len
                    rw [beq_self_eq_true] at CC
                    go_simp
                    refine CC.mono ?_
                    rintro e U22 ⟨rfl, bb⟩
                    go_wp2_with fail
                    have J := J.step bb
                    clear bb CC zz zo
                    refine hK.out _ _ J (fun _ => ?_)
                    clear hK K
                    try simp only [Act.put, List.getElem_toArray, List.getElem_cons_zero, List.getElem_cons_succ, List.setIfInBounds_toArray, List.set_cons_zero, List.set_cons_succ]
                    refine wpAnyH_take (i := 16) (v := .bool true) rfl (by kernel_rfl) (by kernel_rfl) (by kernel_rfl) (fun _ _ _ h => nomatch h.1) (.inl ⟨by rfl, fun V hV => by go_simp⟩) J ?_
                    try simp only [Act.put, List.getElem_toArray, List.getElem_cons_zero, List.getElem_cons_succ, List.setIfInBounds_toArray, List.set_cons_zero, List.set_cons_succ]
                    refine wpAnyH_take (i := 17) (v := .bool true) rfl (by kernel_rfl) (by kernel_rfl) (by kernel_rfl) (fun _ _ _ h => nomatch h.1) (.inl ⟨by rfl, fun V hV => by go_simp⟩) J ?_
                    try simp only [Act.put, List.getElem_toArray, List.getElem_cons_zero, List.getElem_cons_succ, List.setIfInBounds_toArray, List.set_cons_zero, List.set_cons_succ]
                    refine wpAnyH_take (i := 18) (v := .agg (scC A m c A2 m2 c2)) rfl (by kernel_rfl) (by kernel_rfl) (by kernel_rfl) (fun _ _ _ h => nomatch h.1) (yieldsIf_blk (by rfl) 25 (.tmp 3) rfl (w.heap.size) rfl (scC A m c A2 m2 c2) 25 _ (fun _ h => h.t.k3) Try.underlying25 rfl (sc_inf _ _ _ _ _ _)) J ?_
                    try simp only [Act.put, List.getElem_toArray, List.getElem_cons_zero, List.getElem_cons_succ, List.setIfInBounds_toArray, List.set_cons_zero, List.set_cons_succ]
                    refine wpAnyH_take (i := 21) (v := .bool false) rfl (by kernel_rfl) (by kernel_rfl) (by kernel_rfl) (fun _ _ _ h => nomatch h.1) (.inl ⟨by rfl, fun V hV => by go_simp⟩) J ?_
                    try simp only [Act.put, List.getElem_toArray, List.getElem_cons_zero, List.getElem_cons_succ, List.setIfInBounds_toArray, List.set_cons_zero, List.set_cons_succ]
                    refine wpAnyH_ready (rs := [19]) (by kernel_rfl) (by simp) ?_
                    refine AllReadyH.cons rfl (fun K hK => ?_) AllReadyH.nil
                    try simp only [Act.put, List.getElem_toArray, List.getElem_cons_zero, List.getElem_cons_succ, List.setIfInBounds_toArray, List.set_cons_zero, List.set_cons_succ]
                    go_simp
                    refine (HCO.out _ J.t.b).mono ?_
                    rintro e W23 ⟨v, rfl, cv, bb⟩
                    obtain ⟨A23, m23, c23, D23, n23, d23, L23, rfl, hc23⟩ := cv.cpv
                    unfold scV
                    go_wp2_with fail
                    have J := J.step bb
                    clear bb cv
                    refine hK.out _ _ J (fun _ => ?_)
                    clear hK K
                    try simp only [Act.put, List.getElem_toArray, List.getElem_cons_zero, List.getElem_cons_succ, List.setIfInBounds_toArray, List.set_cons_zero, List.set_cons_succ]
                    refine wpAnyH_ready (rs := [20]) (by kernel_rfl) (by simp) ?_
                    refine AllReadyH.cons rfl (fun K hK => ?_) AllReadyH.nil
                    try simp only [Act.put, List.getElem_toArray, List.getElem_cons_zero, List.getElem_cons_succ, List.setIfInBounds_toArray, List.set_cons_zero, List.set_cons_succ]
                    have CC := stuck_sc A23 m23 c23 R D23 n23 d23 L23 _ hc23.sc
                    rw [stuckA_names hc23.nm, HST.out] at CC
                    unfold scV at CC
                    go_simp
                    refine CC.mono ?_
                    rintro e U23 ⟨rfl, bb⟩
                    go_wp2_with fail
                    have J := J.step bb
                    clear bb CC hc23
                    refine hK.out _ _ J (fun _ => ?_)
                    clear hK K
                    try simp only [Act.put, List.getElem_toArray, List.getElem_cons_zero, List.getElem_cons_succ, List.setIfInBounds_toArray, List.set_cons_zero, List.set_cons_succ]
                    refine wpAnyH_take (i := 22) (v := .bool false) rfl (by kernel_rfl) (by kernel_rfl) (by kernel_rfl) (fun _ _ _ h => nomatch h.1) (.inl ⟨by rfl, fun V hV => by go_simp⟩) J ?_
                    try simp only [Act.put, List.getElem_toArray, List.getElem_cons_zero, List.getElem_cons_succ, List.setIfInBounds_toArray, List.set_cons_zero, List.set_cons_succ]
                    refine wpAnyH_take (i := 23) (v := undef) rfl (by kernel_rfl) (by kernel_rfl) (by kernel_rfl) (fun _ _ _ h => nomatch h.1) (.inr ⟨by rfl, by rfl⟩) J ?_
                    try simp only [Act.put, List.getElem_toArray, List.getElem_cons_zero, List.getElem_cons_succ, List.setIfInBounds_toArray, List.set_cons_zero, List.set_cons_succ]
                    refine wpAnyH_take (i := 24) (v := undef) rfl (by kernel_rfl) (by kernel_rfl) (by kernel_rfl) (fun _ _ _ h => nomatch h.1) (.inr ⟨by rfl, by rfl⟩) J ?_
                    try simp only [Act.put, List.getElem_toArray, List.getElem_cons_zero, List.getElem_cons_succ, List.setIfInBounds_toArray, List.set_cons_zero, List.set_cons_succ]
                    refine wpAnyH_take (i := 25) (v := undef) rfl (by kernel_rfl) (by kernel_rfl) (by kernel_rfl) (fun _ _ _ h => nomatch h.1) (.inr ⟨by rfl, by rfl⟩) J ?_
                    try simp only [Act.put, List.getElem_toArray, List.getElem_cons_zero, List.getElem_cons_succ, List.setIfInBounds_toArray, List.set_cons_zero, List.set_cons_succ]
                    refine wpAnyH_take (i := 26) (v := .bool false) rfl (by kernel_rfl) (by kernel_rfl) (by kernel_rfl) (fun _ _ _ h => nomatch h.1) (.inl ⟨by rfl, fun V hV => by go_simp⟩) J ?_
                    try simp only [Act.put, List.getElem_toArray, List.getElem_cons_zero, List.getElem_cons_succ, List.setIfInBounds_toArray, List.set_cons_zero, List.set_cons_succ]
                    refine wpAnyH_take (i := 27) (v := .bool true) rfl (by kernel_rfl) (by kernel_rfl) (by kernel_rfl) (fun _ _ _ h => nomatch h.1) (.inl ⟨by rfl, fun V hV => by go_simp⟩) J ?_
                    try simp only [Act.put, List.getElem_toArray, List.getElem_cons_zero, List.getElem_cons_succ, List.setIfInBounds_toArray, List.set_cons_zero, List.set_cons_succ]
                    refine wpAnyH_take (i := 28) (v := .bool true) rfl (by kernel_rfl) (by kernel_rfl) (by kernel_rfl) (fun _ _ _ h => nomatch h.1) (.inl ⟨by rfl, fun V hV => by go_simp⟩) J ?_
                    try simp only [Act.put, List.getElem_toArray, List.getElem_cons_zero, List.getElem_cons_succ, List.setIfInBounds_toArray, List.set_cons_zero, List.set_cons_succ]
                    refine wpAnyH_take (i := 29) (v := .bool true) rfl (by kernel_rfl) (by kernel_rfl) (by kernel_rfl) (fun _ _ _ h => nomatch h.1) (.inl ⟨by rfl, fun V hV => by go_simp⟩) J ?_
                    try simp only [Act.put, List.getElem_toArray, List.getElem_cons_zero, List.getElem_cons_succ, List.setIfInBounds_toArray, List.set_cons_zero, List.set_cons_succ]
                    refine wpAnyH_done (by kernel_rfl) ?_ _
                    refine ⟨rfl, ?_⟩
                    go_wp2_with fail
                    go_ret
                    exact ⟨rfl, J.t.b⟩
                  · have HST := Lib.hid (show stuckA R L = false by rw [HST.out, ← HW.out]; rw [decide_eq_false HN.out]; rfl)
                    clear HW zh
                    try simp only [Act.put]
                    refine region_cutP ?_
                    have bd : Below wv.heap.size wv wv.drew := (Below.refl _ _).drew
                    have J := J.step bd
                    have zo := zo.below bd (Nat.le_refl _)
                    clear bd
                    refine wp_region_held_drew (S := (TM w (scC A m c A2 m2 c2) (scC B n d B2 n2 d2) q0 q1 g12 lx)) (by kernel_rfl) J (fun _ => ?_)
                    generalize wv.drew = wvd at J zo ⊢
                    refine wpAnyH_take (i := 0) (v := .agg (scC A m c A2 m2 c2)) rfl (by kernel_rfl) (by kernel_rfl) (by kernel_rfl) (fun _ _ _ h => nomatch h.1) (yieldsIf_blk (by rfl) 25 (.tmp 3) rfl (w.heap.size) rfl (scC A m c A2 m2 c2) 25 _ (fun _ h => h.t.k3) Try.underlying25 rfl (sc_inf _ _ _ _ _ _)) J ?_
                    try simp only [Act.put, List.getElem_toArray, List.getElem_cons_zero, List.getElem_cons_succ, List.setIfInBounds_toArray, List.set_cons_zero, List.set_cons_succ]
                    refine wpAnyH_take (i := 2) (v := .pointer (some ⟨w.heap.size + 1 + 1, 1, none⟩)) rfl (by kernel_rfl) (by kernel_rfl) (by kernel_rfl) (fun _ _ _ h => nomatch h.1) (.inl ⟨by rfl, fun V hV => by go_simp⟩) J ?_
                    try simp only [Act.put, List.getElem_toArray, List.getElem_cons_zero, List.getElem_cons_succ, List.setIfInBounds_toArray, List.set_cons_zero, List.set_cons_succ]
                    refine wpAnyH_take (i := 3) (v := .int .i64 q1) rfl (by kernel_rfl) (by kernel_rfl) (by kernel_rfl) (fun _ _ _ h => nomatch h.1) (.inl ⟨by rfl, fun V hV => by have c5 := hV.t.k5.cell 1; simp only [List.getElem?_toArray, List.getElem?_cons_zero, List.getElem?_cons_succ] at c5; go_simp⟩) J ?_
                    try simp only [Act.put, List.getElem_toArray, List.getElem_cons_zero, List.getElem_cons_succ, List.setIfInBounds_toArray, List.set_cons_zero, List.set_cons_succ]
                    refine wpAnyH_take (i := 5) (v := .pointer (some ⟨g12, 1, none⟩)) rfl (by kernel_rfl) (by kernel_rfl) (by kernel_rfl) (fun _ _ _ h => nomatch h.1) (.inl ⟨by rfl, fun V hV => by go_simp⟩) J ?_
                    try simp only [Act.put, List.getElem_toArray, List.getElem_cons_zero, List.getElem_cons_succ, List.setIfInBounds_toArray, List.set_cons_zero, List.set_cons_succ]
                    refine wpAnyH_take (i := 6) (v := .int .i64 lx.1.o) rfl (by kernel_rfl) (by kernel_rfl) (by kernel_rfl) (fun _ _ _ h => nomatch h.1) (.inl ⟨by rfl, fun V hV => by have c6 := hV.k.cell 1; change _ = some (Value.int .i64 lx.1.o) at c6; go_simp⟩) J ?_
                    try simp only [Act.put, List.getElem_toArray, List.getElem_cons_zero, List.getElem_cons_succ, List.setIfInBounds_toArray, List.set_cons_zero, List.set_cons_succ]
                    refine wpAnyH_ready (rs := [1]) (by kernel_rfl) (by simp) ?_
                    refine AllReadyH.cons rfl (fun K hK => ?_) AllReadyH.nil
                    try simp only [Act.put, List.getElem_toArray, List.getElem_cons_zero, List.getElem_cons_succ, List.setIfInBounds_toArray, List.set_cons_zero, List.set_cons_succ]
                    go_simp
                    refine (HCO.out _ J.t.b).mono ?_
                    rintro e W20 ⟨v, rfl, cv, bb⟩
                    obtain ⟨A20, m20, c20, D20, n20, d20, L20, rfl, hc20⟩ := cv.cpv
                    unfold scV
                    go_wp2_with fail
                    have J := J.step bb
                    have zo := zo.below bb (Nat.le_refl _)
                    clear bb cv
                    refine hK.out _ _ J (fun _ => ?_)
                    clear hK K
                    try simp only [Act.put, List.getElem_toArray, List.getElem_cons_zero, List.getElem_cons_succ, List.setIfInBounds_toArray, List.set_cons_zero, List.set_cons_succ]
                    refine wpAnyH_ready (rs := [4]) (by kernel_rfl) (by simp) ?_
                    refine AllReadyH.cons rfl (fun K hK => ?_) AllReadyH.nil
                    try simp only [Act.put, List.getElem_toArray, List.getElem_cons_zero, List.getElem_cons_succ, List.setIfInBounds_toArray, List.set_cons_zero, List.set_cons_succ]
                    have CC := owner_sc (A := A20) (m := m20) (c := c20) (R := R) (A2 := D20) (m2 := n20) (c2 := d20) (L := L20) (w := _) q1 hc20.sc
                    rw [ownerA_names hc20.nm, HOW.out] at CC
                    unfold scV at CC
                    go_simp
                    refine CC.mono ?_
                    rintro e U20 ⟨rfl, bb⟩
                    go_wp2_with fail
                    have J := J.step bb
                    have zo := zo.below bb (Nat.le_refl _)
                    clear bb CC hc20
                    refine hK.out _ _ J (fun _ => ?_)
                    clear hK K
                    try simp only [Act.put, List.getElem_toArray, List.getElem_cons_zero, List.getElem_cons_succ, List.setIfInBounds_toArray, List.set_cons_zero, List.set_cons_succ]
                    refine wpAnyH_take (i := 7) (v := .bool true) rfl (by kernel_rfl) (by kernel_rfl) (by kernel_rfl) (fun _ _ _ h => nomatch h.1) (.inl ⟨by rfl, fun V hV => by go_simp⟩) J ?_
                    try simp only [Act.put, List.getElem_toArray, List.getElem_cons_zero, List.getElem_cons_succ, List.setIfInBounds_toArray, List.set_cons_zero, List.set_cons_succ]
                    refine wpAnyH_take (i := 8) (v := .bool true) rfl (by kernel_rfl) (by kernel_rfl) (by kernel_rfl) (fun _ _ _ h => nomatch h.1) (.inl ⟨by rfl, fun V hV => by go_simp⟩) J ?_
                    try simp only [Act.put, List.getElem_toArray, List.getElem_cons_zero, List.getElem_cons_succ, List.setIfInBounds_toArray, List.set_cons_zero, List.set_cons_succ]
                    refine wpAnyH_take (i := 9) (v := .agg (scC A m c A2 m2 c2)) rfl (by kernel_rfl) (by kernel_rfl) (by kernel_rfl) (fun _ _ _ h => nomatch h.1) (yieldsIf_blk (by rfl) 25 (.tmp 3) rfl (w.heap.size) rfl (scC A m c A2 m2 c2) 25 _ (fun _ h => h.t.k3) Try.underlying25 rfl (sc_inf _ _ _ _ _ _)) J ?_
                    try simp only [Act.put, List.getElem_toArray, List.getElem_cons_zero, List.getElem_cons_succ, List.setIfInBounds_toArray, List.set_cons_zero, List.set_cons_succ]
                    refine wpAnyH_take (i := 11) (v := .pointer (some ⟨w.heap.size + 1 + 1, 1, none⟩)) rfl (by kernel_rfl) (by kernel_rfl) (by kernel_rfl) (fun _ _ _ h => nomatch h.1) (.inl ⟨by rfl, fun V hV => by go_simp⟩) J ?_
                    try simp only [Act.put, List.getElem_toArray, List.getElem_cons_zero, List.getElem_cons_succ, List.setIfInBounds_toArray, List.set_cons_zero, List.set_cons_succ]
                    refine wpAnyH_take (i := 12) (v := .int .i64 q1) rfl (by kernel_rfl) (by kernel_rfl) (by kernel_rfl) (fun _ _ _ h => nomatch h.1) (.inl ⟨by rfl, fun V hV => by have c5 := hV.t.k5.cell 1; simp only [List.getElem?_toArray, List.getElem?_cons_zero, List.getElem?_cons_succ] at c5; go_simp⟩) J ?_
                    try simp only [Act.put, List.getElem_toArray, List.getElem_cons_zero, List.getElem_cons_succ, List.setIfInBounds_toArray, List.set_cons_zero, List.set_cons_succ]
                    refine wpAnyH_take (i := 14) (v := .slice O om oc) rfl (by kernel_rfl) (by kernel_rfl) (by kernel_rfl) (fun _ _ _ h => nomatch h.1) (.inl ⟨by rfl, fun V hV => by go_simp⟩) J ?_
                    try simp only [Act.put, List.getElem_toArray, List.getElem_cons_zero, List.getElem_cons_succ, List.setIfInBounds_toArray, List.set_cons_zero, List.set_cons_succ]
                    refine wpAnyH_ready (rs := [10]) (by kernel_rfl) (by simp) ?_
                    refine AllReadyH.cons rfl (fun K hK => ?_) AllReadyH.nil
                    try simp only [Act.put, List.getElem_toArray, List.getElem_cons_zero, List.getElem_cons_succ, List.setIfInBounds_toArray, List.set_cons_zero, List.set_cons_succ]
                    go_simp
                    refine (HCO.out _ J.t.b).mono ?_
                    rintro e W21 ⟨v, rfl, cv, bb⟩
                    obtain ⟨A21, m21, c21, D21, n21, d21, L21, rfl, hc21⟩ := cv.cpv
                    unfold scV
                    go_wp2_with fail
                    have J := J.step bb
                    have zo := zo.below bb (Nat.le_refl _)
                    clear bb cv
                    refine hK.out _ _ J (fun _ => ?_)
                    clear hK K
                    try simp only [Act.put, List.getElem_toArray, List.getElem_cons_zero, List.getElem_cons_succ, List.setIfInBounds_toArray, List.set_cons_zero, List.set_cons_succ]
                    refine wpAnyH_ready (rs := [13]) (by kernel_rfl) (by simp) ?_
                    refine AllReadyH.cons rfl (fun K hK => ?_) AllReadyH.nil
                    try simp only [Act.put, List.getElem_toArray, List.getElem_cons_zero, List.getElem_cons_succ, List.setIfInBounds_toArray, List.set_cons_zero, List.set_cons_succ]
                    have CC := owns_sc A21 m21 c21 R D21 n21 d21 L21 q1 _ hc21.sc
                    rw [ownsA_names hc21.nm, HOS.out] at CC
                    unfold scV at CC
                    go_simp
                    refine CC.mono ?_
                    rintro e U21 ⟨G2, gm2, gc2, rfl, zz, bb⟩
                    go_wp2_with fail
                    have J := J.step bb
                    have zo := zo.below bb (Nat.le_refl _)
                    clear bb CC hc21
                    refine hK.out _ _ J (fun _ => ?_)
                    clear hK K
                    try simp only [Act.put, List.getElem_toArray, List.getElem_cons_zero, List.getElem_cons_succ, List.setIfInBounds_toArray, List.set_cons_zero, List.set_cons_succ]
                    refine wpAnyH_ready (rs := [15]) (by kernel_rfl) (by simp) ?_
                    refine AllReadyH.cons rfl (fun K hK => ?_) AllReadyH.nil
                    try simp only [Act.put, List.getElem_toArray, List.getElem_cons_zero, List.getElem_cons_succ, List.setIfInBounds_toArray, List.set_cons_zero, List.set_cons_succ]
                    have CC := sameInts_rf G2 gm2 gc2 ol O om oc ol _ zz.ri zz.len (by have := zz.len; have := zo.len; omega) zo.ri zo.len
                    rw [beq_self_eq_true] at CC
                    go_simp
                    refine CC.mono ?_
                    rintro e U22 ⟨rfl, bb⟩
                    go_wp2_with fail
                    have J := J.step bb
                    clear bb CC zz zo
                    refine hK.out _ _ J (fun _ => ?_)
                    clear hK K
                    try simp only [Act.put, List.getElem_toArray, List.getElem_cons_zero, List.getElem_cons_succ, List.setIfInBounds_toArray, List.set_cons_zero, List.set_cons_succ]
                    refine wpAnyH_take (i := 16) (v := .bool true) rfl (by kernel_rfl) (by kernel_rfl) (by kernel_rfl) (fun _ _ _ h => nomatch h.1) (.inl ⟨by rfl, fun V hV => by go_simp⟩) J ?_
                    try simp only [Act.put, List.getElem_toArray, List.getElem_cons_zero, List.getElem_cons_succ, List.setIfInBounds_toArray, List.set_cons_zero, List.set_cons_succ]
                    refine wpAnyH_take (i := 17) (v := .bool true) rfl (by kernel_rfl) (by kernel_rfl) (by kernel_rfl) (fun _ _ _ h => nomatch h.1) (.inl ⟨by rfl, fun V hV => by go_simp⟩) J ?_
                    try simp only [Act.put, List.getElem_toArray, List.getElem_cons_zero, List.getElem_cons_succ, List.setIfInBounds_toArray, List.set_cons_zero, List.set_cons_succ]
                    refine wpAnyH_take (i := 18) (v := .agg (scC A m c A2 m2 c2)) rfl (by kernel_rfl) (by kernel_rfl) (by kernel_rfl) (fun _ _ _ h => nomatch h.1) (yieldsIf_blk (by rfl) 25 (.tmp 3) rfl (w.heap.size) rfl (scC A m c A2 m2 c2) 25 _ (fun _ h => h.t.k3) Try.underlying25 rfl (sc_inf _ _ _ _ _ _)) J ?_
                    try simp only [Act.put, List.getElem_toArray, List.getElem_cons_zero, List.getElem_cons_succ, List.setIfInBounds_toArray, List.set_cons_zero, List.set_cons_succ]
                    refine wpAnyH_take (i := 21) (v := .bool true) rfl (by kernel_rfl) (by kernel_rfl) (by kernel_rfl) (fun _ _ _ h => nomatch h.1) (.inl ⟨by rfl, fun V hV => by go_simp⟩) J ?_
                    try simp only [Act.put, List.getElem_toArray, List.getElem_cons_zero, List.getElem_cons_succ, List.setIfInBounds_toArray, List.set_cons_zero, List.set_cons_succ]
                    refine wpAnyH_ready (rs := [19]) (by kernel_rfl) (by simp) ?_
                    refine AllReadyH.cons rfl (fun K hK => ?_) AllReadyH.nil
                    try simp only [Act.put, List.getElem_toArray, List.getElem_cons_zero, List.getElem_cons_succ, List.setIfInBounds_toArray, List.set_cons_zero, List.set_cons_succ]
                    go_simp
                    refine (HCO.out _ J.t.b).mono ?_
                    rintro e W23 ⟨v, rfl, cv, bb⟩
                    obtain ⟨A23, m23, c23, D23, n23, d23, L23, rfl, hc23⟩ := cv.cpv
                    unfold scV
                    go_wp2_with fail
                    have J := J.step bb
                    clear bb cv
                    refine hK.out _ _ J (fun _ => ?_)
                    clear hK K
                    try simp only [Act.put, List.getElem_toArray, List.getElem_cons_zero, List.getElem_cons_succ, List.setIfInBounds_toArray, List.set_cons_zero, List.set_cons_succ]
                    refine wpAnyH_ready (rs := [20]) (by kernel_rfl) (by simp) ?_
                    refine AllReadyH.cons rfl (fun K hK => ?_) AllReadyH.nil
                    try simp only [Act.put, List.getElem_toArray, List.getElem_cons_zero, List.getElem_cons_succ, List.setIfInBounds_toArray, List.set_cons_zero, List.set_cons_succ]
                    have CC := stuck_sc A23 m23 c23 R D23 n23 d23 L23 _ hc23.sc
                    rw [stuckA_names hc23.nm, HST.out] at CC
                    unfold scV at CC
                    go_simp
                    refine CC.mono ?_
                    rintro e U23 ⟨rfl, bb⟩
                    go_wp2_with fail
                    have J := J.step bb
                    clear bb CC hc23
                    refine hK.out _ _ J (fun _ => ?_)
                    clear hK K
                    try simp only [Act.put, List.getElem_toArray, List.getElem_cons_zero, List.getElem_cons_succ, List.setIfInBounds_toArray, List.set_cons_zero, List.set_cons_succ]
                    refine wpAnyH_take (i := 22) (v := .bool true) rfl (by kernel_rfl) (by kernel_rfl) (by kernel_rfl) (fun _ _ _ h => nomatch h.1) (.inl ⟨by rfl, fun V hV => by go_simp⟩) J ?_
                    try simp only [Act.put, List.getElem_toArray, List.getElem_cons_zero, List.getElem_cons_succ, List.setIfInBounds_toArray, List.set_cons_zero, List.set_cons_succ]
                    refine wpAnyH_take (i := 23) (v := .slice (some ⟨b, off, none⟩) hm hcp) rfl (by kernel_rfl) (by kernel_rfl) (by kernel_rfl) (fun _ _ _ h => nomatch h.1) (.inl ⟨by rfl, fun V hV => by go_simp⟩) J ?_
                    try simp only [Act.put, List.getElem_toArray, List.getElem_cons_zero, List.getElem_cons_succ, List.setIfInBounds_toArray, List.set_cons_zero, List.set_cons_succ]
                    refine wpAnyH_take (i := 24) (v := .int .i64 hm) rfl (by kernel_rfl) (by kernel_rfl) (by kernel_rfl) (fun _ _ _ h => nomatch h.1) (.inl ⟨by rfl, fun V hV => by go_simp⟩) J ?_
                    try simp only [Act.put, List.getElem_toArray, List.getElem_cons_zero, List.getElem_cons_succ, List.setIfInBounds_toArray, List.set_cons_zero, List.set_cons_succ]
                    refine wpAnyH_take (i := 25) (v := .bool false) rfl (by kernel_rfl) (by kernel_rfl) (by kernel_rfl) (fun _ _ _ h => nomatch h.1) (.inl ⟨by rfl, fun V hV => by have h9 := HM0.out; go_simp⟩) J ?_
                    try simp only [Act.put, List.getElem_toArray, List.getElem_cons_zero, List.getElem_cons_succ, List.setIfInBounds_toArray, List.set_cons_zero, List.set_cons_succ]
                    refine wpAnyH_take (i := 26) (v := .bool false) rfl (by kernel_rfl) (by kernel_rfl) (by kernel_rfl) (fun _ _ _ h => nomatch h.1) (.inl ⟨by rfl, fun V hV => by go_simp⟩) J ?_
                    try simp only [Act.put, List.getElem_toArray, List.getElem_cons_zero, List.getElem_cons_succ, List.setIfInBounds_toArray, List.set_cons_zero, List.set_cons_succ]
                    refine wpAnyH_take (i := 27) (v := .bool true) rfl (by kernel_rfl) (by kernel_rfl) (by kernel_rfl) (fun _ _ _ h => nomatch h.1) (.inl ⟨by rfl, fun V hV => by go_simp⟩) J ?_
                    try simp only [Act.put, List.getElem_toArray, List.getElem_cons_zero, List.getElem_cons_succ, List.setIfInBounds_toArray, List.set_cons_zero, List.set_cons_succ]
                    refine wpAnyH_take (i := 28) (v := .bool true) rfl (by kernel_rfl) (by kernel_rfl) (by kernel_rfl) (fun _ _ _ h => nomatch h.1) (.inl ⟨by rfl, fun V hV => by go_simp⟩) J ?_
                    try simp only [Act.put, List.getElem_toArray, List.getElem_cons_zero, List.getElem_cons_succ, List.setIfInBounds_toArray, List.set_cons_zero, List.set_cons_succ]
                    refine wpAnyH_take (i := 29) (v := .bool true) rfl (by kernel_rfl) (by kernel_rfl) (by kernel_rfl) (fun _ _ _ h => nomatch h.1) (.inl ⟨by rfl, fun V hV => by go_simp⟩) J ?_
                    try simp only [Act.put, List.getElem_toArray, List.getElem_cons_zero, List.getElem_cons_succ, List.setIfInBounds_toArray, List.set_cons_zero, List.set_cons_succ]
                    refine wpAnyH_done (by kernel_rfl) ?_ _
                    refine ⟨rfl, ?_⟩
                    go_wp2_with fail
                    go_ret
                    exact ⟨rfl, J.t.b⟩
    · go_wp2_with (first
        | (refine (HWK.out _).mono ?_
           clear HWK
           rintro e w1 ⟨rfl, bb⟩
           have J1 := J0.step bb
           clear bb J0)
        | (refine wpListG_load (by rfl) 25 (.tmp 3) rfl (w.heap.size) rfl 25 (scC A m c A2 m2 c2) _ J1.k3 Try.underlying25 rfl (sc_inf _ _ _ _ _ _) ?_)
        | (refine (HO1.out _ J1.b).mono ?_
           clear HO1
           rintro e w2 ⟨rfl, bb⟩
           have J2 := J1.step bb
           clear bb J1)
        | (refine wpListG_load (by rfl) 25 (.tmp 4) rfl (w.heap.size + 1) rfl 25 (scC B n d B2 n2 d2) _ J2.k4 Try.underlying25 rfl (sc_inf _ _ _ _ _ _) ?_)
        | (refine (HO2.out _ J2.b).mono ?_
           clear HO2
           rintro e w3 ⟨rfl, bb⟩
           have J3 := J2.step bb
           clear bb J2))
      go_ret
      exact ⟨rfl, J3.b⟩
  · go_wp2_with (first
      | (refine (HWK.out _).mono ?_
         clear HWK
         rintro e w1 ⟨rfl, bb⟩
         have J1 := J0.step bb
         clear bb J0)
      | (refine wpListG_load (by rfl) 25 (.tmp 3) rfl (w.heap.size) rfl 25 (scC A m c A2 m2 c2) _ J1.k3 Try.underlying25 rfl (sc_inf _ _ _ _ _ _) ?_)
      | (refine (HO1.out _ J1.b).mono ?_
         clear HO1
         rintro e w2 ⟨rfl, bb⟩
         have J2 := J1.step bb
         clear bb J1))
    go_ret
    exact ⟨rfl, J2.b⟩
end Go.Proofs.Ytfohifnbohdbcaa

/-
  PlL, PlU3, PlCh, PlA, PlJ, PlT: in one file.
-/
import Derived.Test.YtelfdpcenplhjaaGreatDoorQJC
import Derived.OwnWalkIn
import Derived.WalkMore
import Derived.Test.YtelfdpcenplhjaaGreatDoorQCkN
namespace Go.Proofs.YtelfdpcenplhjaaGreatDoor
open Go.RowKit Go.Shelf
attribute [local go_sem] Oper.semAt_some
set_option linter.unusedVariables false
set_option linter.unusedSimpArgs false
def goneU (U : List Nl) : List Nl := U.takeWhile fun x => x.1.k == 1
def staysU (U : List Nl) : Int := match U.find? (fun x => !(x.1.k == 1)) with | some x => x.1.i | none => 0
theorem tw_parts {α : Type} {p : α → Bool} {x : α} {B : List α} : ∀ {A : List α}, (∀ y ∈ A, p y = true) → p x = false → (A ++ x :: B).takeWhile p = A ∧ (A ++ x :: B).find? (fun y => !p y) = some x
  | [], _, hx => by simp [List.takeWhile, List.find?, hx]
  | a :: A, h, hx => by
    have ha := h a (by simp)
    have ih := tw_parts (A := A) (B := B) (fun y hy => h y (by simp [hy])) hx
    simp only [List.cons_append, List.takeWhile_cons, List.find?_cons, ha, Bool.not_true, ih.1, ih.2]
    first | exact ⟨rfl, trivial⟩ | exact ⟨trivial, rfl⟩ | trivial
theorem tw_all {α : Type} {p : α → Bool} : ∀ {A : List α}, (∀ y ∈ A, p y = true) → A.takeWhile p = A ∧ A.find? (fun y => !p y) = none
  | [], _ => ⟨rfl, rfl⟩
  | a :: A, h => by
    have ha := h a (by simp)
    have ih := tw_all (A := A) (fun y hy => h y (by simp [hy]))
    simp only [List.takeWhile_cons, List.find?_cons, ha, Bool.not_true, ih.1, ih.2]
    first | exact ⟨rfl, trivial⟩ | exact ⟨trivial, rfl⟩ | trivial
theorem gone_all {w₀ : World} {n₀ : Nat} {xs : List (Nq w₀ n₀)} {U : List Nl} (h : xs.map (·.1) = U) (hp : ∀ x ∈ xs, x.1.1.k = 1) : (goneU U).map (fun x => x.1.i) = xs.map (fun x => x.1.1.i) ∧ staysU U = 0 := by
  subst h
  have ht := tw_all (p := fun x : Nl => x.1.k == 1) (A := xs.map (·.1)) (fun y hy => by
    obtain ⟨x, hx, rfl⟩ := List.mem_map.1 hy
    simpa using hp x hx)
  unfold goneU staysU
  rw [ht.1, ht.2, List.map_map]
  exact ⟨rfl, rfl⟩
theorem gone_some {w₀ : World} {n₀ : Nat} {ini : List (Nq w₀ n₀)} {x : Nq w₀ n₀} {U : List Nl} {k : Nat} (h : (ini ++ [x]).map (·.1) = U.take (k + 1)) (hp : ∀ x ∈ ini, x.1.1.k = 1) (hx : ¬ x.1.1.k = 1) : (goneU U).map (fun x => x.1.i) = ini.map (fun x => x.1.1.i) ∧ staysU U = x.1.1.i := by
  have e : U = ini.map (·.1) ++ x.1 :: U.drop (k + 1) := by
    rw [List.map_append] at h
    conv => lhs; rw [← List.take_append_drop (k + 1) U, ← h]
    simp
  have ht := tw_parts (p := fun x : Nl => x.1.k == 1) (x := x.1) (B := U.drop (k + 1)) (A := ini.map (·.1)) (fun y hy => by
    obtain ⟨z, hz, rfl⟩ := List.mem_map.1 hy
    simpa using hp z hz) (by simpa using hx)
  rw [← e] at ht
  unfold goneU staysU
  rw [ht.1, ht.2, List.map_map]
  exact ⟨rfl, rfl⟩
theorem isl_load (w : World) (g : Nat) (A : Option Addr) (m c : Nat) (t : TypeId) (h : Blk w g #[.slice A m c] t) : (loadVar 36 ⟨g, 0, none⟩).run Tryz.prog w = .ok (.slice A m c) w := by
  have hc := h.cell 0
  simp only [List.getElem?_toArray, List.getElem?_cons_zero] at hc
  have hu := run_underlying Tryz.underlying36
  simp [go_sem, hu, hc]
structure LvS (ga gb : Nat) (G : Option Addr) (gm gc : Nat) (z : Int) (V : World) : Prop where
  a : Blk V ga #[.slice G gm gc] 36
  b : Blk V gb #[.int .i64 z] 3
def lR (w : World) (b : Nat) (ids : List Int) (z : Int) (W : World) : Prop :=
  (∃ G gm gc, Blk W (w.heap.size + 1) #[.slice G gm gc] 36 ∧ Zp W b G gm gc ids) ∧ Blk W (w.heap.size + 1 + 1) #[.int .i64 z] 3 ∧ b ≤ W.heap.size
def lI (w : World) (b : Nat) {n₀ : Nat} (pre : List (Nq w n₀)) (W : World) : Prop :=
  ((∀ x ∈ pre, x.1.1.k = 1) ∧ lR w b (pre.map fun x => x.1.1.i) 0 W) ∧ Below w.heap.size w W
def lX (w : World) (b : Nat) {n₀ : Nat} (cd : Code) (pre : List (Nq w n₀)) (W : World) : Prop :=
  (cd = .exit 0 ∧ ∃ ini x, pre = ini ++ [x] ∧ (∀ y ∈ ini, y.1.1.k = 1) ∧ ¬ x.1.1.k = 1 ∧ lR w b (ini.map fun x => x.1.1.i) x.1.1.i W) ∧ Below w.heap.size w W
theorem lR.own {w A B : World} {b : Nat} {ids : List Int} {z : Int} {row : Option Nat} (h : lR w b ids z A) (hg : A.grownBy B row) (hr : ∀ r, row = some r → ∃ o : Obj, A.heap[r]? = some o ∧ o.isCells = false) : lR w b ids z B := by
  obtain ⟨⟨G, gm, gc, k, z1⟩, k2, hs⟩ := h
  exact ⟨⟨G, gm, gc, blk_own k hg hr, z1.kept hg hr⟩, blk_own k2 hg hr, Nat.le_trans hs hg.size⟩
theorem lR.below {w A B : World} {b : Nat} {ids : List Int} {z : Int} (h : lR w b ids z A) (hg : Below A.heap.size A B) : lR w b ids z B := by
  obtain ⟨⟨G, gm, gc, k, z1⟩, k2, hs⟩ := h
  exact ⟨⟨G, gm, gc, k.below hg k.lt, z1.below hg (Nat.le_refl _)⟩, k2.below hg k2.lt, Nat.le_trans hs hg.size⟩
set_option maxRecDepth 100000 in
set_option maxHeartbeats 4000000 in
theorem leaving_in (A : Option Addr) (m c : Nat) (L U : List Nl) (id : Int) (w : World) (hP : Po w w.heap.size A L) (hm : m = L.length) (hmc : m ≤ c) (h6 : m ≤ 1000000) (hU : Up L id U) (hUl : U.length ≤ 1000000) :
    CallsIn Fence.wide 6 Tryz.prog 46 #[poV A m c, .int .i64 id] w fun e w' =>
      ∃ G gm gc, e = .returned (.tuple #[.slice G gm gc, .int .i64 (staysU U)]) ∧ Zp w' w.heap.size G gm gc ((goneU U).map fun x => x.1.i) ∧ Below w.heap.size w w' := by
  have CU := upward_any A m c id
  unfold poV at CU
  have HCU := Lib.hid CU
  clear CU
  have HM := Lib.hid hm
  clear hm
  unfold poV
  refine callsIn_of_wp_marks Tryz.func46 rfl trivial ?_ rfl
  simp only [Tryz.ntmps46, List.size_toArray, List.length_cons, List.length_nil, Nat.reduceAdd, Nat.reduceSub, Array.replicate_succ, Array.replicate_zero, List.push_toArray, List.append_toArray, List.nil_append, List.cons_append]
  have k2 := ((Blk.new w #[.slice A m c] 24).alloc (.cells #[.slice none 0 0] 36)).alloc (.cells #[.int .i64 0] 3)
  have k4 := (Blk.new_ (w.alloc (.cells #[.slice A m c] 24)) #[.slice none 0 0] 36 (n := w.heap.size + 1) (by simp)).alloc (.cells #[.int .i64 0] 3)
  have k5 := Blk.new_ ((w.alloc (.cells #[.slice A m c] 24)).alloc (.cells #[.slice none 0 0] 36)) #[.int .i64 0] 3 (n := w.heap.size + 1 + 1) (by simp)
  have B0 : Below w.heap.size w (((w.alloc (.cells #[.slice A m c] 24)).alloc (.cells #[.slice none 0 0] 36)).alloc (.cells #[.int .i64 0] 3)) := (((Below.refl _ w).alloc (Nat.le_refl _) _).alloc (by simp) _).alloc (by simp; omega) _
  have hsz : (((w.alloc (.cells #[.slice A m c] 24)).alloc (.cells #[.slice none 0 0] 36)).alloc (.cells #[.int .i64 0] 3)).heap.size = w.heap.size + 1 + 1 + 1 := by simp
  refine wpIn_wide.2 ?_
  go_wp2
  go_step3
  go_wp2
  go_step3
  show Exit.then _ _ _ _ (((w.alloc (.cells #[.slice A m c] 24)).alloc (.cells #[.slice none 0 0] 36)).alloc (.cells #[.int .i64 0] 3))
  generalize ((w.alloc (.cells #[.slice A m c] 24)).alloc (.cells #[.slice none 0 0] 36)).alloc (.cells #[.int .i64 0] 3) = w0 at k2 k4 k5 B0 hsz ⊢
  go_wp2_with (refine wpList_load_row rfl 24 (.tmp 2) rfl w.heap.size rfl 24 #[.slice A m c] (0, 0) _ k2.blk Tryz.underlying24 rfl (po_info A m c) ?_)
  refine (HCU.out w0).mono ?_
  rintro e w1 ⟨gp, gi, rfl, kp, ki, bb⟩
  have k41 := k4.below bb k4.lt
  have k51 := k5.below bb k5.lt
  have b1 := B0.trans (bb.mono B0.size)
  have hs1 : w.heap.size + 3 ≤ w1.heap.size := by have := bb.size; omega
  clear k2 k4 k5 B0 bb HCU
  go_wp2_with fail
  have hpa : gp ≠ w.heap.size + 1 := fun e => by
    have h1 := k41.blk
    rw [← e] at h1
    have h2 := kp.symm.trans h1
    simp at h2
  have hpb : gp ≠ w.heap.size + 1 + 1 := fun e => by
    have h1 := k51.blk
    rw [← e] at h1
    have h2 := kp.symm.trans h1
    simp at h2
  have hseq := upward2_seq 5 (by omega) w w.heap.size w1.heap.size (w.heap.size + 1) (w.heap.size + 1 + 1) gp gi m c b1.size (by omega) (by omega) hpa hpb A L U id w1 (hP.below b1 (Nat.le_refl _)) hP.nr kp ki HM.out hmc h6 kp.lt ki.lt (Nat.le_refl _) hU w1.heap.size (Nat.le_refl _)
  have hR0 : lR w w1.heap.size [] 0 w1 := ⟨⟨none, 0, 0, k41, zp_nil _ _⟩, k51, Nat.le_refl _⟩
  obtain ⟨n₀, hn₀⟩ : ∃ n₀, n₀ = w1.heap.size := ⟨_, rfl⟩
  rw [← hn₀] at hseq hR0
  have hs1' : w.heap.size + 3 ≤ n₀ := by omega
  have HN0 := Lib.hid hn₀
  rw [← hn₀] at hs1
  clear hn₀
  refine (wpIn_wide (n := 6)).1 ?_
  refine wpIn_rangeFunc_ownH rfl (by omega) (gf := 97) (lb := #[.pointer (some ⟨gp, 0, none⟩), .pointer (some ⟨gi, 0, none⟩)]) rfl trivial (enters_of Tryz.func97 (by kernel_rfl) rfl) hseq (fun h k => ⟨h.1.trans k.1, h.2.trans k.2⟩) (fun W l o o' hl h hc hw => ⟨.of (belowK_b (w := w1) (Nat.le_of_eq HN0.out) W l o o' hl h hc hw), nodes_put W l o o' h hc⟩) (Below.refl _ _) (fun _ => rfl)
    (lI w n₀) (lX w n₀) ?hI ?hIx ⟨⟨by simp, hR0⟩, b1⟩
    (fun x a' W => ∃ g, a' = { tmps := #[.agg #[.slice A m c], .int .i64 id, .pointer (some ⟨w.heap.size, 0, none⟩), undef, .pointer (some ⟨w.heap.size + 1, 0, none⟩), .pointer (some ⟨w.heap.size + 1 + 1, 0, none⟩), .pointer (some ⟨g, 0, none⟩), .agg #[.slice A m c], .int .i64 id, .func (.func 97) #[] #[.pointer (some ⟨gp, 0, none⟩), .pointer (some ⟨gi, 0, none⟩)], ndV x.1, undef, undef, undef, undef, undef, undef, undef, undef, undef, undef, undef, undef, undef], defers := [] } ∧ Blk W g (ndC x.1) 46 ∧ w.heap.size + 1 + 1 < g)
    ?hAx ?assign ?body ?done ?stop
  case hI => exact OwnFrom.and (Own.from (fun s A B row hs hg hr => ⟨hs.1, hs.2.own hg hr⟩) _) (ownFrom_below (Nat.le_refl _) b1.size)
  case hIx => exact fun cd => OwnFrom.and (Own.from (fun s A B row hs hg hr => by obtain ⟨hc, ini, x, e1, e2, e3, e4⟩ := hs; exact ⟨hc, ini, x, e1, e2, e3, e4.own hg hr⟩) _) (ownFrom_below (Nat.le_refl _) b1.size)
  case hAx =>
    intro x a'
    exact Own.from (fun s A B row hs hg hr => by obtain ⟨g, e, hb, hl⟩ := hs; exact ⟨g, e, blk_own hb hg hr, hl⟩) _
  case assign =>
    rintro l pre x W K ⟨⟨hp, hr⟩, hB⟩ hK
    have hgw : w.heap.size + 1 + 1 < W.heap.size := hr.2.1.lt
    gi_wp2_with (refine wpListIn_store_blk rfl 46 (.tmp 6) (.tmp 10) rfl W.heap.size (ndC nl0) (ndC x.1) 46 rfl rfl (Blk.new _ _ _) rfl (nd_inf x.1) (nd_one x.1) ?_
                 intro w2 hw2 hn2
                 have bb : Below W.heap.size W w2 := ((Below.refl _ W).alloc (Nat.le_refl _) _).trans (hn2.below _ (Nat.le_refl _) (by simp)))
    exact hK _ _ ((keeps_below bb).from _) ⟨.of (bb.mono hr.2.2), nodes_below bb⟩ ⟨⟨hp, hr.below bb⟩, hB.trans (bb.mono hB.size)⟩ ⟨W.heap.size, rfl, hw2, hgw⟩
  case body =>
    rintro l pre x a' W hwl _ ⟨⟨hp, ⟨⟨G, gm, gc, k1, z1⟩, k2, hbn⟩⟩, hB⟩ ⟨g, rfl, hg, hgl⟩ hpl
    obtain ⟨xi, hxi⟩ : ∃ xi, x.1.1.i = xi := ⟨_, rfl⟩
    obtain ⟨xk, hxk⟩ : ∃ xk, x.1.1.k = xk := ⟨_, rfl⟩
    have q0 : W.cell? ⟨g, 0, none⟩ = some (.int .i64 xi) := by rw [← hxi]; exact hg.cell 0
    have q4 : W.cell? ⟨g, 4, none⟩ = some (.int .i64 xk) := by rw [← hxk]; exact hg.cell 4
    have c1 : W.cell? ⟨w.heap.size + 1, 0, none⟩ = some (.slice G gm gc) := k1.cell 0
    have hml := z1.len
    simp only [List.length_map] at hml
    have hgm : gm ≤ 1000000 := by omega
    clear hml
    have hne : ∀ r, (Value.slice G gm gc).ownBlock = some r → n₀ ≤ r ∧ r < W.heap.size ∧ ∃ cs, W.heap[r]? = some (.cells cs 3 (0, 0)) := z1.row
    have hn0' : w.heap.size + 3 ≤ n₀ := by omega
    have HXK := Lib.hid hxk
    by_cases h1 : xk = 1
    · subst h1
      obtain ⟨i0, hi, hz0, hz1, hz2⟩ := info_parts zpint_info
      have ba : Below W.heap.size W (W.alloc (.cells #[.int .i64 xi] 3)) := (Below.refl _ _).alloc (Nat.le_refl _) _
      have zr := z1.below ba (Nat.le_refl _)
      have k1a := k1.below ba k1.lt
      have k2a := k2.below ba k2.lt
      clear hxk
      gi_wp2_with (gi_at_builtin; refine wpListIn_append_own _ rfl _ _ 36 rfl n₀ 3 i0 _ 1 8 Tryz.underlying36 hi hz0 hz1 hz2 rfl (by decide) _ _ _ rfl zr ⟨W.heap.size, 0, none⟩ 1 1 [.int .i64 xi] rfl rfl (cell_one_new _ _ _) (by simp [Value.oneCell']) (by simp only [maxLen]; omega) (by omega) (by simp; omega) ?_
                   intro v' w3 hown' hgrow _
                   obtain ⟨A2, c2, rfl⟩ := own_slice hown'
                   have k13 : Blk w3 (w.heap.size + 1) #[.slice G gm gc] 36 := ⟨(hgrow.block _ k1a.lt (fun e => by have := hne _ e.symm; omega)).trans k1a.blk⟩
                   have k23 : Blk w3 (w.heap.size + 1 + 1) #[.int .i64 0] 3 := ⟨(hgrow.block _ k2a.lt (fun e => by have := hne _ e.symm; omega)).trans k2a.blk⟩
                   have c13 : w3.cell? ⟨w.heap.size + 1, 0, none⟩ = some (.slice G gm gc) := k13.cell 0
                   have f13 := k13.frozen 0)
      have bS : But (w.heap.size + 1) w3 (w3.setCell ⟨w.heap.size + 1, 0, none⟩ (.slice A2 (gm + 1) c2)) := (But.refl _ w3).setCell (p := ⟨w.heap.size + 1, 0, none⟩) (.inl rfl) _
      have hw3 : n₀ ≤ w3.heap.size := Nat.le_trans hbn (Nat.le_trans ba.size hgrow.size)
      have hku : Ku n₀ (w.heap.size + 1) (w.heap.size + 1 + 1) W (w3.setCell ⟨w.heap.size + 1, 0, none⟩ (.slice A2 (gm + 1) c2)) := (Ku.of (ba.mono hbn)).trans ((Ku.grown hgrow (Nat.le_trans hbn ba.size) fun r e => (zr.row r e).1).trans (.but_a bS hw3))
      have hz3 : Zp w3 n₀ A2 (gm + 1) c2 ((pre ++ [x]).map fun x => x.1.1.i) := by
        unfold Zp
        rw [List.map_append, List.map_append]
        simpa [hxi] using hown'
      refine ⟨((keeps_below ba).from _).trans ((keeps_grown hgrow fun r e => (zr.row r e).2.2).trans (keeps_but bS k13)), ⟨hku, (nodes_below ba).trans ((nodes_grown hgrow fun r e => (zr.row r e).2.2).trans (nodes_but bS fun cs h => by have := h.blk.symm.trans k13.blk; simp at this))⟩,
        ⟨⟨fun y hy => ?_, ⟨⟨A2, gm + 1, c2, k13.set_ 0 _, hz3.but bS (by omega)⟩, k23.far (by simp) _, Nat.le_trans hw3 bS.size⟩⟩, hB.trans (hku.below (by omega) (by omega) (by omega))⟩⟩
      rcases List.mem_append.1 hy with h | h
      · exact hp y h
      · simp at h; subst h; exact HXK.out
    · have hne1 : (xk == 1) = false := by simpa using h1
      have HN1 := Lib.hid h1
      have c2 : W.cell? ⟨w.heap.size + 1 + 1, 0, none⟩ = some (.int .i64 0) := k2.cell 0
      have f2 := k2.frozen 0
      clear h1 hxk
      gi_wp2
      have bS : But (w.heap.size + 1 + 1) W (W.setCell ⟨w.heap.size + 1 + 1, 0, none⟩ (.int .i64 xi)) := (But.refl _ W).setCell (p := ⟨w.heap.size + 1 + 1, 0, none⟩) (.inl rfl) _
      refine ⟨keeps_but bS k2, ⟨rfl, pre, x, rfl, hp, by rw [HXK.out]; exact HN1.out, ⟨⟨G, gm, gc, k1.far (by simp) _, z1.but bS (by omega)⟩, by rw [hxi]; exact k2.set_ 0 _, Nat.le_trans hbn bS.size⟩⟩, hB.trans (bS.below _ (by omega) hB.size)⟩
  case done =>
    rintro D xs W hD hS ⟨⟨hp, hr⟩, hB⟩ hK
    have HV := Lib.hid (gone_all hS hp)
    obtain ⟨zz, hzz⟩ : ∃ zz : Int, 0 = zz := ⟨_, rfl⟩
    rw [hzz] at hr HV
    have hDn : n₀ ≤ D := by rw [HN0.out]; exact hD
    obtain ⟨⟨G, gm, gc, k1, z1⟩, k2, hbn⟩ := hr
    have S0 : LvS (w.heap.size + 1) (w.heap.size + 1 + 1) G gm gc zz W.drew := ⟨k1.drew, k2.drew⟩
    have hKd : W.drew.heap[D]? = some (.deferred (some [])) := hK
    have z1d := z1.below ((Below.refl _ W).drew) (Nat.le_refl _)
    have hBd := hB.drew
    go_wp2
    refine region_cutP ?_
    refine wp_region_held_drew (S := LvS (w.heap.size + 1) (w.heap.size + 1 + 1) G gm gc zz) (by kernel_rfl) S0 (fun _ => ?_)
    generalize W.drew = V at S0 hKd z1d hBd ⊢
    clear k1 k2 z1 hK hB
    refine wpAnyH_take (i := 0) (v := .slice G gm gc) rfl (by kernel_rfl) (by kernel_rfl) (by kernel_rfl) (fun _ _ _ h => nomatch h.1) (.inl ⟨by rfl, fun V hV => by have c0 := hV.a.cell 0; go_simp⟩) S0 ?_
    try simp only [Act.put, List.getElem_toArray, List.getElem_cons_zero, List.getElem_cons_succ, List.setIfInBounds_toArray, List.set_cons_zero, List.set_cons_succ]
    refine wpAnyH_take (i := 1) (v := .int .i64 zz) rfl (by kernel_rfl) (by kernel_rfl) (by kernel_rfl) (fun _ _ _ h => nomatch h.1) (.inl ⟨by rfl, fun V hV => by have c0 := hV.b.cell 0; go_simp⟩) S0 ?_
    try simp only [Act.put, List.getElem_toArray, List.getElem_cons_zero, List.getElem_cons_succ, List.setIfInBounds_toArray, List.set_cons_zero, List.set_cons_succ]
    refine wpAnyH_ready (rs := [2]) (by kernel_rfl) (by simp) ?_
    refine AllReadyH.cons rfl (fun K hK => ?_) AllReadyH.nil
    try simp only [Act.put, List.getElem_toArray, List.getElem_cons_zero, List.getElem_cons_succ, List.setIfInBounds_toArray, List.set_cons_zero, List.set_cons_succ]
    have c0 : V.cell? ⟨w.heap.size + 1, 0, none⟩ = some (.slice G gm gc) := S0.a.cell 0
    have f0 := S0.a.frozen 0
    go_simp
    have nA : But (w.heap.size + 1) V (V.setCell ⟨w.heap.size + 1, 0, none⟩ (.slice G gm gc)) := (But.refl _ V).setCell (p := ⟨w.heap.size + 1, 0, none⟩) (.inl rfl) _
    have S2 : LvS (w.heap.size + 1) (w.heap.size + 1 + 1) G gm gc zz (V.setCell ⟨w.heap.size + 1, 0, none⟩ (.slice G gm gc)) := ⟨S0.a.set_ 0 _, S0.b.far (by simp) _⟩
    have z2 := z1d.but nA (by omega)
    have hK2 := (nA.block D (Array.getElem?_eq_some_iff.1 hKd).1 (by omega)).trans hKd
    have hB2 := hBd.trans (nA.below _ (by omega) hBd.size)
    generalize V.setCell ⟨w.heap.size + 1, 0, none⟩ (.slice G gm gc) = V2 at S2 z2 hK2 hB2 ⊢
    refine hK.out _ _ S2 (fun _ => ?_)
    clear hK K
    try simp only [Act.put, List.getElem_toArray, List.getElem_cons_zero, List.getElem_cons_succ, List.setIfInBounds_toArray, List.set_cons_zero, List.set_cons_succ]
    refine wpAnyH_ready (rs := [3]) (by kernel_rfl) (by simp) ?_
    refine AllReadyH.cons rfl (fun K hK => ?_) AllReadyH.nil
    try simp only [Act.put, List.getElem_toArray, List.getElem_cons_zero, List.getElem_cons_succ, List.setIfInBounds_toArray, List.set_cons_zero, List.set_cons_succ]
    have c0 : V2.cell? ⟨w.heap.size + 1 + 1, 0, none⟩ = some (.int .i64 zz) := S2.b.cell 0
    have f0 := S2.b.frozen 0
    go_simp
    have nB : But (w.heap.size + 1 + 1) V2 (V2.setCell ⟨w.heap.size + 1 + 1, 0, none⟩ (.int .i64 zz)) := (But.refl _ V2).setCell (p := ⟨w.heap.size + 1 + 1, 0, none⟩) (.inl rfl) _
    have S3 : LvS (w.heap.size + 1) (w.heap.size + 1 + 1) G gm gc zz (V2.setCell ⟨w.heap.size + 1 + 1, 0, none⟩ (.int .i64 zz)) := ⟨S2.a.far (by simp) _, S2.b.set_ 0 _⟩
    have z3 := z2.but nB (by omega)
    have hK3 := (nB.block D (Array.getElem?_eq_some_iff.1 hK2).1 (by omega)).trans hK2
    have hB3 := hB2.trans (nB.below _ (by omega) hB2.size)
    generalize V2.setCell ⟨w.heap.size + 1 + 1, 0, none⟩ (.int .i64 zz) = V3 at S3 z3 hK3 hB3 ⊢
    refine hK.out _ _ S3 (fun _ => ?_)
    clear hK K
    try simp only [Act.put, List.getElem_toArray, List.getElem_cons_zero, List.getElem_cons_succ, List.setIfInBounds_toArray, List.set_cons_zero, List.set_cons_succ]
    refine wpAnyH_done (by kernel_rfl) ?_ _
    refine ⟨rfl, ?_⟩
    go_wp2
    rw [Exit.noGoto_ret]
    have hg3 := grownBy_putObj' V3 D (.deferred none)
    have hr3 : ∀ r, some D = some r → ∃ o : Obj, V3.heap[r]? = some o ∧ o.isCells = false := fun r e => by cases e; exact ⟨_, hK3, rfl⟩
    refine ⟨by simp, .inl ⟨_, _, rfl, run_takeDeferred hK3, ?_⟩⟩
    refine ⟨_, results_cells2i rfl _ _ (w.heap.size + 1) (w.heap.size + 1 + 1) (.slice G gm gc) (.int .i64 zz) rfl rfl (isl_load _ _ _ _ _ _ (blk_own S3.a hg3 hr3)) (int_load _ _ _ _ (blk_own S3.b hg3 hr3)), ?_⟩
    exact ⟨G, gm, gc, by rw [HV.out.2], by rw [HV.out.1]; exact (z3.kept hg3 hr3).down (by omega), hB3.trans (belowK_b (w := w) (Nat.le_refl _) V3 D _ _ (by omega) hK3 rfl rfl)⟩
  case stop =>
    rintro D cd pre W hD ⟨k, hk, hpre⟩ ⟨⟨rfl, ini, x, rfl, h1, h2, hr⟩, hB⟩ hK
    have HV := Lib.hid (gone_some hpre h1 h2)
    obtain ⟨zz, hzz⟩ : ∃ zz : Int, x.1.1.i = zz := ⟨_, rfl⟩
    rw [hzz] at hr HV
    clear hzz h2
    have hDn : n₀ ≤ D := by rw [HN0.out]; exact hD
    obtain ⟨⟨G, gm, gc, k1, z1⟩, k2, hbn⟩ := hr
    have S0 : LvS (w.heap.size + 1) (w.heap.size + 1 + 1) G gm gc zz W.drew := ⟨k1.drew, k2.drew⟩
    have hKd : W.drew.heap[D]? = some (.deferred (some [])) := hK
    have z1d := z1.below ((Below.refl _ W).drew) (Nat.le_refl _)
    have hBd := hB.drew
    gi_wp2
    go_wp2_with fail
    refine region_cutP ?_
    refine wp_region_held_drew (S := LvS (w.heap.size + 1) (w.heap.size + 1 + 1) G gm gc zz) (by kernel_rfl) S0 (fun _ => ?_)
    generalize W.drew = V at S0 hKd z1d hBd ⊢
    clear k1 k2 z1 hK hB
    refine wpAnyH_take (i := 0) (v := .slice G gm gc) rfl (by kernel_rfl) (by kernel_rfl) (by kernel_rfl) (fun _ _ _ h => nomatch h.1) (.inl ⟨by rfl, fun V hV => by have c0 := hV.a.cell 0; go_simp⟩) S0 ?_
    try simp only [Act.put, List.getElem_toArray, List.getElem_cons_zero, List.getElem_cons_succ, List.setIfInBounds_toArray, List.set_cons_zero, List.set_cons_succ]
    refine wpAnyH_take (i := 1) (v := .int .i64 zz) rfl (by kernel_rfl) (by kernel_rfl) (by kernel_rfl) (fun _ _ _ h => nomatch h.1) (.inl ⟨by rfl, fun V hV => by have c0 := hV.b.cell 0; go_simp⟩) S0 ?_
    try simp only [Act.put, List.getElem_toArray, List.getElem_cons_zero, List.getElem_cons_succ, List.setIfInBounds_toArray, List.set_cons_zero, List.set_cons_succ]
    refine wpAnyH_ready (rs := [2]) (by kernel_rfl) (by simp) ?_
    refine AllReadyH.cons rfl (fun K hK => ?_) AllReadyH.nil
    try simp only [Act.put, List.getElem_toArray, List.getElem_cons_zero, List.getElem_cons_succ, List.setIfInBounds_toArray, List.set_cons_zero, List.set_cons_succ]
    have c0 : V.cell? ⟨w.heap.size + 1, 0, none⟩ = some (.slice G gm gc) := S0.a.cell 0
    have f0 := S0.a.frozen 0
    go_simp
    have nA : But (w.heap.size + 1) V (V.setCell ⟨w.heap.size + 1, 0, none⟩ (.slice G gm gc)) := (But.refl _ V).setCell (p := ⟨w.heap.size + 1, 0, none⟩) (.inl rfl) _
    have S2 : LvS (w.heap.size + 1) (w.heap.size + 1 + 1) G gm gc zz (V.setCell ⟨w.heap.size + 1, 0, none⟩ (.slice G gm gc)) := ⟨S0.a.set_ 0 _, S0.b.far (by simp) _⟩
    have z2 := z1d.but nA (by omega)
    have hK2 := (nA.block D (Array.getElem?_eq_some_iff.1 hKd).1 (by omega)).trans hKd
    have hB2 := hBd.trans (nA.below _ (by omega) hBd.size)
    generalize V.setCell ⟨w.heap.size + 1, 0, none⟩ (.slice G gm gc) = V2 at S2 z2 hK2 hB2 ⊢
    refine hK.out _ _ S2 (fun _ => ?_)
    clear hK K
    try simp only [Act.put, List.getElem_toArray, List.getElem_cons_zero, List.getElem_cons_succ, List.setIfInBounds_toArray, List.set_cons_zero, List.set_cons_succ]
    refine wpAnyH_ready (rs := [3]) (by kernel_rfl) (by simp) ?_
    refine AllReadyH.cons rfl (fun K hK => ?_) AllReadyH.nil
    try simp only [Act.put, List.getElem_toArray, List.getElem_cons_zero, List.getElem_cons_succ, List.setIfInBounds_toArray, List.set_cons_zero, List.set_cons_succ]
    have c0 : V2.cell? ⟨w.heap.size + 1 + 1, 0, none⟩ = some (.int .i64 zz) := S2.b.cell 0
    have f0 := S2.b.frozen 0
    go_simp
    have nB : But (w.heap.size + 1 + 1) V2 (V2.setCell ⟨w.heap.size + 1 + 1, 0, none⟩ (.int .i64 zz)) := (But.refl _ V2).setCell (p := ⟨w.heap.size + 1 + 1, 0, none⟩) (.inl rfl) _
    have S3 : LvS (w.heap.size + 1) (w.heap.size + 1 + 1) G gm gc zz (V2.setCell ⟨w.heap.size + 1 + 1, 0, none⟩ (.int .i64 zz)) := ⟨S2.a.far (by simp) _, S2.b.set_ 0 _⟩
    have z3 := z2.but nB (by omega)
    have hK3 := (nB.block D (Array.getElem?_eq_some_iff.1 hK2).1 (by omega)).trans hK2
    have hB3 := hB2.trans (nB.below _ (by omega) hB2.size)
    generalize V2.setCell ⟨w.heap.size + 1 + 1, 0, none⟩ (.int .i64 zz) = V3 at S3 z3 hK3 hB3 ⊢
    refine hK.out _ _ S3 (fun _ => ?_)
    clear hK K
    try simp only [Act.put, List.getElem_toArray, List.getElem_cons_zero, List.getElem_cons_succ, List.setIfInBounds_toArray, List.set_cons_zero, List.set_cons_succ]
    refine wpAnyH_done (by kernel_rfl) ?_ _
    refine ⟨rfl, ?_⟩
    go_wp2
    rw [Exit.noGoto_ret]
    have hg3 := grownBy_putObj' V3 D (.deferred none)
    have hr3 : ∀ r, some D = some r → ∃ o : Obj, V3.heap[r]? = some o ∧ o.isCells = false := fun r e => by cases e; exact ⟨_, hK3, rfl⟩
    refine ⟨by simp, .inl ⟨_, _, rfl, run_takeDeferred hK3, ?_⟩⟩
    refine ⟨_, results_cells2i rfl _ _ (w.heap.size + 1) (w.heap.size + 1 + 1) (.slice G gm gc) (.int .i64 zz) rfl rfl (isl_load _ _ _ _ _ _ (blk_own S3.a hg3 hr3)) (int_load _ _ _ _ (blk_own S3.b hg3 hr3)), ?_⟩
    exact ⟨G, gm, gc, by rw [HV.out.2], by rw [HV.out.1]; exact (z3.kept hg3 hr3).down (by omega), hB3.trans (belowK_b (w := w) (Nat.le_refl _) V3 D _ _ (by omega) hK3 rfl rfl)⟩
theorem leaving_any (A : Option Addr) (m c : Nat) (L U : List Nl) (id : Int) (w : World) (hP : Po w w.heap.size A L) (hm : m = L.length) (hmc : m ≤ c) (h6 : m ≤ 1000000) (hU : Up L id U) (hUl : U.length ≤ 1000000) :
    Calls Tryz.prog 46 #[poV A m c, .int .i64 id] w fun e w' =>
      ∃ G gm gc, e = .returned (.tuple #[.slice G gm gc, .int .i64 (staysU U)]) ∧ Zp w' w.heap.size G gm gc ((goneU U).map fun x => x.1.i) ∧ Below w.heap.size w w' := callsIn_wide.1 (leaving_in A m c L U id w hP hm hmc h6 hU hUl)
end Go.Proofs.YtelfdpcenplhjaaGreatDoor
namespace Go.Proofs.YtelfdpcenplhjaaGreatDoor
open Go.RowKit Go.Shelf
set_option linter.unusedVariables false
set_option linter.unusedSimpArgs false
abbrev Nu (w : World) (n : Nat) (U : List Nl) := {x : Nl // Nr w n x ∧ x ∈ U}
set_option maxRecDepth 100000 in
set_option maxHeartbeats 4000000 in
theorem upward3_seq (n : Nat) (hn : 1 ≤ n) (w₀ : World) (n₀ gp gi m c : Nat) (A : Option Addr) (L U : List Nl) (id : Int) (w : World) (hw₀ : Below n₀ w₀ w) (hP : Po w n₀ A L) (hP0 : ∀ x ∈ L, Nr w₀ n₀ x) (bp : Boxed w gp 24 (.slice A m c)) (bi : Boxed w gi 3 (.int .i64 id)) (hm : m = L.length) (hmc : m ≤ c) (h6 : m ≤ 1000000) (hgp : gp < n₀) (hgi : gi < n₀) (hn₀ : n₀ ≤ w.heap.size) (hU : Up L id U) (B : Nat) (hB : B ≤ w.heap.size) :
    SeqStopsK Fence.wide n Tryz.prog 97 #[.pointer (some ⟨gp, 0, none⟩), .pointer (some ⟨gi, 0, none⟩)] (fun x : Nu w₀ n₀ U => #[ndV x.1]) (fun X Y => Below n₀ X Y ∧ NodesFrom B X Y) (fun xs => xs.map (·.1) = U) (fun pre => ∃ k, k < U.length ∧ pre.map (·.1) = U.take (k + 1)) U.length w := by
  intro lp J Jx W hW hJ hJx hY h0
  have HM := Lib.hid hm
  clear hm
  have bpW : Boxed W gp 24 (.slice A m c) := boxed_below bp hW (by omega)
  have biW : Boxed W gi 3 (.int .i64 id) := boxed_below bi hW (by omega)
  have PW := hP.below hW hn₀
  have hnW : n₀ ≤ W.heap.size := Nat.le_trans hn₀ hW.size
  have hc1 := biW.cell
  refine callsIn_of_wp Tryz.func97 rfl trivial ?_ rfl
  simp only [Tryz.ntmps97, List.size_toArray, List.length_cons, List.length_nil, Nat.reduceAdd, Nat.reduceSub, Array.replicate_succ, Array.replicate_zero, List.push_toArray, List.append_toArray, List.nil_append, List.cons_append]
  gi_wp2_with (refine wpListIn_load_row rfl 24 (.tmp 1) rfl gp rfl 24 #[.slice A m c] (0, 0) _ bpW Tryz.underlying24 rfl (po_info A m c) ?_)
  refine ⟨trivial, (callsIn_wide.2 (row_any A m c L id W (PW.more hnW) HM.out hmc h6)).mono ?_⟩
  rintro e w1 ⟨r, b, rfl, hr, bb⟩
  have hre := Lib.hid hr.eq
  have hnr := hr.nr hP0
  clear hr hc1
  have hJ1 := hJ [] W w1 none h0 (grown_of_below bb) (fun r e => by cases e)
  have hB1 : Below n₀ W w1 := bb.mono hnW
  have hs1 : W.heap.size ≤ w1.heap.size := bb.size
  clear h0 bb
  unfold ndV
  gi_wp2_with (refine wpListIn_store_blk rfl 46 (.tmp 4) (.tmp 10) rfl w1.heap.size (ndC nl0) (ndC r) 46 rfl rfl (Blk.new _ _ _) rfl (nd_inf r) (nd_one r) ?_
               intro w2 hw2 hn2
               have b1 : Below w1.heap.size w1 w2 := ((Below.refl _ w1).alloc (Nat.le_refl _) _).trans (hn2.below _ (Nat.le_refl _) (by simp))
               have hJ2 := hJ [] w1 w2 none hJ1 (grown_of_below b1) (fun r e => by cases e)
               have hB2 : Below n₀ W w2 := hB1.trans (b1.mono (Nat.le_trans hnW hB1.size))
               clear hJ1 hB1 b1 hn2)
  generalize w1.heap.size = g1 at hw2 hs1 ⊢
  have hU0 : ∃ cur, idR L cur = (r, b) ∧ Up L cur (U.drop 0) := ⟨id, hre.out, by simpa using hU⟩
  gi_loopw [4, 5] (fun pg pb wr => ∃ (k : Nat) (pre : List (Nu w₀ n₀ U)) (g : Nat) (r : Nl) (b : Bool) (wz : World), wz = wr ∧ pg = .pointer (some ⟨g, 0, none⟩) ∧ pb = .bool b ∧ k ≤ U.length ∧ Hid (pre.length = k) ∧ Hid (pre.map (·.1) = U.take k) ∧ Hid (∃ cur, idR L cur = (r, b) ∧ Up L cur (U.drop k)) ∧ Nr w₀ n₀ r ∧ Blk wz g (ndC r) 46 ∧ W.heap.size ≤ g ∧ J pre wz ∧ Below n₀ W wz) (fun pg pb wr => upM L pg pb wr)
  case atStart => exact ⟨0, [], g1, r, b, _, rfl, rfl, rfl, Nat.zero_le _, Lib.hid rfl, Lib.hid rfl, Lib.hid hU0, hnr, hw2, hs1, hJ2, hB2⟩
  case round =>
    clear hJ2 hB2 hw2 hU0 hre hnr
    obtain ⟨k, pre, g, r, b, wz, hwz, rfl, rfl, hk, HL, HP', HU, hnr, hg, hgs, hJs, hB⟩ := hrel
    subst hwz
    cases b
    · have hend : k = U.length := by
        obtain ⟨cur, h1, h2⟩ := HU.out
        have hd : U.drop k = [] := by
          revert h2
          generalize U.drop k = D
          intro h2
          cases h2 with
          | nil => rfl
          | cons h3 _ => rw [h1] at h3; cases h3
        have := List.drop_eq_nil_iff.1 hd
        omega
      have HE := Lib.hid hend
      clear hend
      gi_wp2
      go_end0
      refine ⟨⟨_, rfl⟩, .inl ⟨pre, ?_, hJs⟩⟩
      rw [HP'.out, HE.out, List.take_length]
    · have hkl : k < U.length ∧ U.getD k nl0 = r ∧ Up L r.1.p (U.drop (k + 1)) := by
        obtain ⟨cur, h1, h2⟩ := HU.out
        have hlt : k < U.length := by
          rcases Nat.lt_or_ge k U.length with h | h
          · exact h
          · rw [List.drop_eq_nil_iff.2 h] at h2
            have := up_end h2
            rw [h1] at this
            cases this
        rw [drop_consN U k hlt] at h2
        obtain ⟨h3, h4⟩ := up_next h2
        rw [h1] at h3
        cases h3
        exact ⟨hlt, rfl, h4⟩
      obtain ⟨hlt, hget, hnext⟩ := hkl
      have hru : r ∈ U := by rw [← hget, show U.getD k nl0 = U[k] by simp [List.getD, hlt]]; exact List.getElem_mem hlt
      have HNX := Lib.hid hnext
      have HM0 : Hid (upM L (.pointer (some ⟨g, 0, none⟩)) (.bool true) wz = 1 + (U.length - (k + 1))) := Lib.hid (by rw [upM_true hg, upLen_eq hnext, List.length_drop])
      have hlen : pre.length < U.length := by rw [HL.out]; exact hlt
      have hmap : (pre ++ [(⟨r, hnr, hru⟩ : Nu w₀ n₀ U)]).map (·.1) = U.take (k + 1) := by rw [take_snocN U k hlt, List.map_append, HP'.out, hget]; rfl
      have HMP := Lib.hid hmap
      have HLT := Lib.hid hlt
      clear hmap hget hnext hlt
      obtain ⟨fn, tmps, assign, body, hy, hRd⟩ := hY pre ⟨r, hnr, hru⟩ wz hJs hlen
      simp only [ndV] at hy
      gi_wp2_with (refine wpListIn_load_row rfl 46 (.tmp 4) rfl g rfl 46 (ndC r) (0, 0) _ hg.blk Tryz.underlying46 rfl (nd_inf r) ?_)
      refine hRd.mono ?_
      rintro e W3 h3
      rcases h3 with ⟨rfl, hJ3, hb3, hn3⟩ | ⟨rfl, hJx3⟩
      · have hg3 := hn3 g _ (by have := hW.size; omega) hg
        have hB3 : Below n₀ W W3 := hB.trans hb3
        have hs3 : W.heap.size ≤ W3.heap.size := by have := hg3.lt; omega
        clear hRd hy hJs hB hb3 hn3 hlen hg
        gi_wp2_with (first
          | (refine wpListIn_load_row rfl 46 (.tmp 4) rfl g rfl 46 (ndC r) (0, 0) _ hg3.blk Tryz.underlying46 rfl (nd_inf r) ?_)
          | (refine wpListIn_store_blk rfl 46 (.tmp 4) (.tmp 24) rfl W3.heap.size (ndC nl0) (ndC r) 46 rfl rfl (Blk.new _ _ _) rfl (nd_inf r) (nd_one r) ?_
             intro w4 hw4 hn4
             have b4 : Below W3.heap.size W3 w4 := ((Below.refl _ W3).alloc (Nat.le_refl _) _).trans (hn4.below _ (Nat.le_refl _) (by simp))
             have hB4 : Below n₀ W w4 := hB3.trans (b4.mono (Nat.le_trans hnW hs3))
             have bp4 := boxed_below bpW hB4 hgp
             have q4 : w4.cell? ⟨W3.heap.size, 1, none⟩ = some (.int .i64 r.1.p) := hw4.cell 1
             clear hB3 hn4 hg3)
          | (refine wpListIn_load_row rfl 24 (.tmp 1) rfl gp rfl 24 #[.slice A m c] (0, 0) _ bp4 Tryz.underlying24 rfl (po_info A m c) ?_))
        refine ⟨trivial, (callsIn_wide.2 (row_any A m c L r.1.p w4 ((PW.below hB4 (Nat.le_refl _)).more (Nat.le_trans hnW hB4.size)) HM.out hmc h6)).mono ?_⟩
        rintro e w5 ⟨r5, b5, rfl, hr5, bb⟩
        have hre5 := Lib.hid hr5.eq
        have hnr5 := hr5.nr hP0
        have hs5 := hB4.size
        have b5' := b4.trans (bb.mono b4.size)
        have hB5 : Below n₀ W w5 := hB4.trans (bb.mono (Nat.le_trans hnW hs5))
        have hw5 := hw4.below bb hw4.lt
        clear hr5 bb b4 hB4 hw4 q4 bp4
        unfold ndV
        gi_wp2_with (refine wpListIn_store_blk rfl 46 (.tmp 4) (.tmp 18) rfl W3.heap.size (ndC r) (ndC r5) 46 rfl rfl hw5 rfl (nd_inf r5) (nd_one r5) ?_
                     intro w6 hw6 hn6)
        have b6 : Below W3.heap.size W3 w6 := b5'.trans (hn6.below _ (Nat.le_refl _) b5'.size)
        have hJ6 := hJ _ W3 w6 none hJ3 (grown_of_below b6) (fun r e => by cases e)
        have hB6 : Below n₀ W w6 := hB5.trans (hn6.below _ (Nat.le_trans hnW hs3) (Nat.le_trans hnW hB5.size))
        refine ⟨⟨k + 1, pre ++ [⟨r, hnr, hru⟩], W3.heap.size, r5, b5, w6, rfl, rfl, rfl, HLT.out, Lib.hid ?_, HMP, Lib.hid ⟨r.1.p, hre5.out, HNX.out⟩, hnr5, hw6, hs3, hJ6, hB6⟩, ?_⟩
        · rw [List.length_append, HL.out]; rfl
        · rw [HM0.out]
          cases b5
          · rw [upM_false]; omega
          · rw [upM_true hw6]
            have hnx := HNX.out
            have hlt2 : k + 1 < U.length := by
              rcases Nat.lt_or_ge (k + 1) U.length with h | h
              · exact h
              · rw [List.drop_eq_nil_iff.2 h] at hnx
                have := up_end hnx
                rw [hre5.out] at this
                cases this
            rw [drop_consN U (k + 1) hlt2] at hnx
            obtain ⟨h3, h4⟩ := up_next hnx
            rw [hre5.out] at h3
            cases h3
            rw [upLen_eq h4, List.length_drop]
            omega
      · gi_wp2
        refine bodyPost_ret (results_none rfl _ _ _) rfl ?_
        exact ⟨⟨_, rfl⟩, .inr ⟨_, ⟨k, HLT.out, HMP.out⟩, hJx3⟩⟩
end Go.Proofs.YtelfdpcenplhjaaGreatDoor
namespace Go.Proofs.YtelfdpcenplhjaaGreatDoor
open Go.RowKit Go.Shelf
attribute [local go_sem] Oper.semAt_some
set_option linter.unusedVariables false
set_option linter.unusedSimpArgs false
def cR (g8 : Nat) (ids : List Int) (W : World) : Prop :=
  ∃ G gm gc, Blk W g8 #[.slice G gm gc] 36 ∧ Zp W (g8 + 1) G gm gc ids
theorem cR.own {A B : World} {g8 : Nat} {ids : List Int} {row : Option Nat} (h : cR g8 ids A) (hg : A.grownBy B row) (hr : ∀ r, row = some r → ∃ o : Obj, A.heap[r]? = some o ∧ o.isCells = false) : cR g8 ids B := by
  obtain ⟨G, gm, gc, k, z1⟩ := h
  exact ⟨G, gm, gc, blk_own k hg hr, z1.kept hg hr⟩
theorem cR.below {A B : World} {g8 : Nat} {ids : List Int} (h : cR g8 ids A) (hg : Below A.heap.size A B) : cR g8 ids B := by
  obtain ⟨G, gm, gc, k, z1⟩ := h
  exact ⟨G, gm, gc, k.below hg k.lt, z1.below hg (Nat.le_refl _)⟩
end Go.Proofs.YtelfdpcenplhjaaGreatDoor
namespace Go.Proofs.YtelfdpcenplhjaaGreatDoor
open Go.RowKit Go.Shelf
set_option linter.unusedVariables false
set_option linter.unusedSimpArgs false
theorem RowR.any {U : List Nl} {old : Int} {r : Nl} {b : Bool} (h : RowR U old r b) : U.any (fun x => x.1.i == old) = b := by
  rcases h with ⟨h, rfl⟩ | ⟨h, _, rfl⟩
  · rw [List.any_eq_true]
    exact ⟨r, List.mem_of_find?_eq_some h, List.find?_some (p := fun x : Nl => x.1.i == old) h⟩
  · rw [List.any_eq_false]
    exact List.find?_eq_none.1 h
end Go.Proofs.YtelfdpcenplhjaaGreatDoor
namespace Go.Proofs.YtelfdpcenplhjaaGreatDoor
open Go.RowKit Go.Shelf
set_option linter.unusedVariables false
set_option linter.unusedSimpArgs false
def refB (arch nr : Int) (x : Nm) : Bool := bits .and .u64 ((if arch == 1073741827 then x.t else x.o) / 2 ^ nr.toNat) 1 == 0
attribute [local irreducible] refB
end Go.Proofs.YtelfdpcenplhjaaGreatDoor
namespace Go.Proofs.YtelfdpcenplhjaaGreatDoor
open Go.RowKit Go.Shelf
set_option linter.unusedVariables false
set_option linter.unusedSimpArgs false
theorem gone_any (x : Nl) (A : Option Addr) (m c : Nat) (l : List Int) (g : Nat) (w : World) (hA : Ri7 w w.heap.size A l) (hm : m = l.length) (hmc : m ≤ c) (h6 : m ≤ 1000000) (kg : Boxed w g 36 (.slice A m c)) :
    Calls Tryz.prog 48 #[ndV x, .pointer (some ⟨g, 0, none⟩)] w fun e w' => e = .returned (.bool (l.contains x.1.i)) ∧ Below w.heap.size w w' := by
  have hc := (kg.alloc (.cells (ndC x) 46)).cell
  have hx : _ = some (Value.int .i64 x.1.i) := (Blk.new w (ndC x) 46).cell 0
  have b1 := (Below.refl w.heap.size w).alloc (Nat.le_refl _) (.cells (ndC x) 46)
  have hi := (containsZ_any A m c l x.1.i _ ((hA.below b1 (Nat.le_refl _)).more b1.size) hm hmc h6)
  obtain ⟨bo, hbo⟩ : ∃ bo, l.contains x.1.i = bo := ⟨_, rfl⟩
  rw [hbo] at hi ⊢
  have HI := Lib.hid hi
  clear hm hbo hi
  unfold ndV
  go_enter Tryz.func48, Tryz.ntmps48
  go_wp2_with fail
  refine HI.out.mono ?_
  rintro e w1 ⟨rfl, bb⟩
  have b2 := b1.trans (bb.mono b1.size)
  clear hc hx b1 bb HI
  go_wp2_with fail
  go_ret
  exact ⟨rfl, b2⟩
end Go.Proofs.YtelfdpcenplhjaaGreatDoor

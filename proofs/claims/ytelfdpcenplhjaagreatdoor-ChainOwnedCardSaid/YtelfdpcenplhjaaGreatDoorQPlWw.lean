/-
  law09's allow, kill, wakes.
-/
import Derived.Test.YtelfdpcenplhjaaGreatDoorQJQ
namespace Go.Proofs.YtelfdpcenplhjaaGreatDoor
open Go.RowKit Go.Shelf
attribute [local go_sem] Oper.semAt_some
set_option linter.unusedVariables false
set_option linter.unusedSimpArgs false
theorem allow_any (w : World) : Calls Tryz.prog 31 #[] w fun e w' => ∃ A, e = .returned (.slice A 1 1) ∧ Ri w' w'.heap.size A 1 (gF gA) ∧ Below w.heap.size w w' := by
  have k := Blk.new w #[.int .u16 6, .int .u8 0, .int .u8 0, .int .u32 2147418112] 111
  have B0 := (Below.refl w.heap.size w).alloc (Nat.le_refl _) (.cells #[.int .u16 6, .int .u8 0, .int .u8 0, .int .u32 2147418112] 111)
  go_enter Tryz.func31, Tryz.ntmps31
  go_wp2_with fail
  go_ret
  refine ⟨_, rfl, fun j hj => ?_, B0⟩
  obtain rfl : j = 0 := by omega
  exact ⟨w.heap.size, 0, rfl, k.lt, ⟨k.cell 0, k.cell 1, k.cell 2, k.cell 3⟩, by show InsOk _ _ _ _; constructor <;> decide⟩
theorem kill_any (w : World) : Calls Tryz.prog 32 #[] w fun e w' => ∃ A, e = .returned (.slice A 1 1) ∧ Ri w' w'.heap.size A 1 (gF gK) ∧ Below w.heap.size w w' := by
  have k := Blk.new w #[.int .u16 6, .int .u8 0, .int .u8 0, .int .u32 0] 111
  have B0 := (Below.refl w.heap.size w).alloc (Nat.le_refl _) (.cells #[.int .u16 6, .int .u8 0, .int .u8 0, .int .u32 0] 111)
  go_enter Tryz.func32, Tryz.ntmps32
  go_wp2_with fail
  go_ret
  refine ⟨_, rfl, fun j hj => ?_, B0⟩
  obtain rfl : j = 0 := by omega
  exact ⟨w.heap.size, 0, rfl, k.lt, ⟨k.cell 0, k.cell 1, k.cell 2, k.cell 3⟩, by show InsOk _ _ _ _; constructor <;> decide⟩
theorem newP {V V' : World} {g : Nat} (hg : g = V.heap.size) {o : Obj} (n : But g (V.alloc o) V') : Below V.heap.size V V' := ((Below.refl _ V).alloc (Nat.le_refl _) o).trans (n.below _ (by omega) (by simp))
theorem insos_one {q : Ins} (h : insO q) : ∀ x ∈ [q], insO x := fun x hx => by simp at hx; subst hx; exact h
theorem wk_foE2 (o t o' t' : Int) (l l' : Loc) : foE [(nA o t, l), (nB o' t', l')] 2 = 0 := by rfl
theorem wk_foE1 (o t o' t' : Int) (l l' : Loc) : foE [(nA o t, l), (nB o' t', l')] 1 = 0 := by rfl
theorem gA_ok : ∀ q ∈ gA, insO q := insos_one (by show InsOk _ _ _ _; constructor <;> decide)
theorem gK_ok : ∀ q ∈ gK, insO q := insos_one (by show InsOk _ _ _ _; constructor <;> decide)
structure WkA (w : World) (g1 : Nat) (A : Option Addr) (c : Nat) (o t : Int) (l : Loc) (V : World) : Prop where
  b : Below w.heap.size w V
  k : Blk V g1 #[.slice A 1 c] 24
  n : No V w.heap.size A 1 c [(nA o t, l)]
  s : w.heap.size ≤ g1
theorem WkA.step {w V V' : World} {g1 c : Nat} {A : Option Addr} {o t : Int} {l : Loc} (h : WkA w g1 A c o t l V) (bb : Below V.heap.size V V') : WkA w g1 A c o t l V' := ⟨h.b.trans (bb.mono h.b.size), h.k.below bb h.k.lt, h.n.below bb (Nat.le_refl _), h.s⟩
theorem No.butB {w w' : World} {base m c g m1 c1 : Nat} {A A1 : Option Addr} {L : List Nl} (h : No w base A m c L) (n : But g w w') (hg : g < base) (k : Blk w g #[.slice A1 m1 c1] 24) : No w' base A m c L :=
  h.but n hg fun x hx hl a ha e => by
    obtain ⟨b, off, e1, _, ⟨c0, _⟩, _⟩ := (h.nr x hx).ri 0 hl
    rw [ha] at e1
    cases e1
    simp only at e
    subst e
    rw [k.cell] at c0
    rcases off with _ | off
    · simp at c0
    · simp at c0
structure WkC (w : World) (g1 : Nat) (A : Option Addr) (c : Nat) (o t o' t' : Int) (l l' : Loc) (V : World) : Prop where
  b : Below w.heap.size w V
  k : Blk V g1 #[.slice A 2 c] 24
  n : No V w.heap.size A 2 c [(nA o t, l), (nB o' t', l')]
theorem WkC.step {w V V' : World} {g1 c : Nat} {A : Option Addr} {o t o' t' : Int} {l l' : Loc} (h : WkC w g1 A c o t o' t' l l' V) (bb : Below V.heap.size V V') : WkC w g1 A c o t o' t' l l' V' := ⟨h.b.trans (bb.mono h.b.size), h.k.below bb h.k.lt, h.n.below bb (Nat.le_refl _)⟩
set_option maxRecDepth 100000 in
set_option maxHeartbeats 16000000 in
theorem wakes9_any (w : World) (hK : HK w) : Calls Tryz.prog 9 #[] w fun e w' => e = .returned (.bool true) ∧ Below w.heap.size w w' := by
  have AL := Lib.hid (allow_any w)
  have HKW := Lib.hid (fun V (h : Below w.heap.size w V) => hK.below h (Nat.le_refl _))
  go_enter Tryz.func9, Tryz.ntmps9
  go_wp2_with (first
    | (refine AL.out.mono ?_
       clear AL
       rintro e w1 ⟨G, rfl, hG, b1⟩
       have AD := add_any none 0 0 [] 0 (by unfold I64; omega) G 1 gA w1 (hK.below b1 (Nat.le_refl _)) ((no_nil w1 w1.heap.size).po) rfl (Nat.le_refl _) (by omega) (fun x hx => by cases hx) hG gA_ok (by decide) (by decide)
       unfold poV at AD
       go_wp2_with (first
         | (refine AD.mono ?_
            clear AD
            intro e w2 h2
            obtain ⟨o, t, A2, c2, l, n2, rfl, b2⟩ := wk_add1 h2
            clear h2
            unfold poV
            go_wp2_with (first
              | (refine wpList_store_blk rfl 24 (.tmp 1) (.tmp 17) rfl w2.heap.size #[.slice none 0 0] #[.slice A2 1 c2] 24 rfl rfl (Blk.new _ _ _) rfl (po_info _ _ _) (by simp [Value.oneCell']) ?_
                 intro w3 k3 g3
                 have bb := newP rfl g3
                 have n3 := (n2.below bb (Nat.le_refl _)).down b1.size
                 have b3 := (b1.trans (b2.mono b1.size)).trans (bb.mono (Nat.le_trans b1.size b2.size))
                 have J3 : WkA w w2.heap.size A2 c2 o t l w3 := ⟨b3, k3, n3, Nat.le_trans b1.size b2.size⟩
                 clear bb g3 k3 n3 b3))))))
  have hb12 : w.heap.size ≤ w2.heap.size := J3.s
  clear n2
  generalize w2.heap.size = g1 at J3 hb12 ⊢
  have J4 : WkA w g1 A2 c2 o t l w3.drew := J3.step (Below.refl _ w3).drew
  have B4 := J4.b
  refine region_cutP ?_
  refine wp_region_held_drew (S := (fun V => Below w.heap.size w V)) (by kernel_rfl) J4.b (fun _ => ?_)
  clear J3
  generalize w3.drew = w4 at J4 B4 ⊢
  refine wpAnyH_take (i := 1) (v := .int .i64 1) rfl (by kernel_rfl) (by kernel_rfl) (by kernel_rfl) (fun _ _ _ h => nomatch h.1) (.inl ⟨by rfl, fun V hV => by go_simp⟩) B4 ?_
  try simp only [Act.put, List.getElem_toArray, List.getElem_cons_zero, List.getElem_cons_succ, List.setIfInBounds_toArray, List.set_cons_zero, List.set_cons_succ]
  refine wpAnyH_ready (rs := [0, 2]) (by kernel_rfl) (by simp) ?_
  refine AllReadyH.cons rfl (fun K hK => ?_) (AllReadyH.cons rfl (fun K hK => ?_) AllReadyH.nil)
  · skip
    try simp only [Act.put, List.getElem_toArray, List.getElem_cons_zero, List.getElem_cons_succ, List.setIfInBounds_toArray, List.set_cons_zero, List.set_cons_succ]
    rw [if_pos (by rfl)]
    refine wp_load_row 24 (.tmp 1) rfl g1 rfl 24 #[.slice A2 1 c2] (0, 0) _ J4.k.blk Tryz.underlying24 rfl (po_info _ _ _) ?_
    refine hK.out _ _ B4 (fun _ => ?_)
    clear hK K
    try simp only [Act.put, List.getElem_toArray, List.getElem_cons_zero, List.getElem_cons_succ, List.setIfInBounds_toArray, List.set_cons_zero, List.set_cons_succ]
    refine wpAnyH_ready (rs := [2]) (by kernel_rfl) (by simp) ?_
    refine AllReadyH.cons rfl (fun K hK => ?_) AllReadyH.nil
    try simp only [Act.put, List.getElem_toArray, List.getElem_cons_zero, List.getElem_cons_succ, List.setIfInBounds_toArray, List.set_cons_zero, List.set_cons_succ]
    go_simp
    refine (kill_any w4).mono ?_
    rintro e w5 ⟨G2, rfl, hG2, bb⟩
    have J5 := J4.step bb
    clear bb
    go_wp2_with fail
    refine hK.out _ _ J5.b (fun _ => ?_)
    clear hK K
    try simp only [Act.put, List.getElem_toArray, List.getElem_cons_zero, List.getElem_cons_succ, List.setIfInBounds_toArray, List.set_cons_zero, List.set_cons_succ]
    have AD := add_any A2 1 c2 [(nA o t, l)] 1 (by unfold I64; omega) G2 1 gK w5 (HKW.out w5 J5.b) (J5.n.po) rfl J5.n.cap (by omega) (fun x hx => by simp at hx; subst hx; show (1 : Nat) ≤ 300; decide) hG2 gK_ok (by decide) (by decide)
    unfold poV at AD
    refine wpAnyH_ready (rs := [3]) (by kernel_rfl) (by simp) ?_
    refine AllReadyH.cons rfl (fun K hK => ?_) AllReadyH.nil
    try simp only [Act.put, List.getElem_toArray, List.getElem_cons_zero, List.getElem_cons_succ, List.setIfInBounds_toArray, List.set_cons_zero, List.set_cons_succ]
    go_simp
    refine AD.mono ?_
    clear AD
    intro e w6 h6
    obtain ⟨o', t', A3, c3, l1, l2, n6, rfl, bb⟩ := wk_add2 h6
    have J6 := J5.step bb
    have n6d := n6.down (Nat.le_refl _)
    have hg16 := J5.k.lt
    clear bb h6 n6
    unfold poV
    go_wp2_with fail
    refine hK.out _ _ J6.b (fun _ => ?_)
    clear hK K
    try simp only [Act.put, List.getElem_toArray, List.getElem_cons_zero, List.getElem_cons_succ, List.setIfInBounds_toArray, List.set_cons_zero, List.set_cons_succ]
    refine wpAnyH_take (i := 4) (v := .tuple #[.agg #[.slice A3 2 c3], .int .i64 2, .int .i64 0]) rfl (by kernel_rfl) (by kernel_rfl) (by kernel_rfl) (fun _ _ _ h => nomatch h.1) (.inl ⟨by rfl, fun V hV => by go_simp⟩) J6.b ?_
    try simp only [Act.put, List.getElem_toArray, List.getElem_cons_zero, List.getElem_cons_succ, List.setIfInBounds_toArray, List.set_cons_zero, List.set_cons_succ]
    refine wpAnyH_take (i := 5) (v := .agg #[.slice A3 2 c3]) rfl (by kernel_rfl) (by kernel_rfl) (by kernel_rfl) (fun _ _ _ h => nomatch h.1) (.inl ⟨by rfl, fun V hV => by go_simp⟩) J6.b ?_
    try simp only [Act.put, List.getElem_toArray, List.getElem_cons_zero, List.getElem_cons_succ, List.setIfInBounds_toArray, List.set_cons_zero, List.set_cons_succ]
    refine wpAnyH_take (i := 6) (v := .int .i64 2) rfl (by kernel_rfl) (by kernel_rfl) (by kernel_rfl) (fun _ _ _ h => nomatch h.1) (.inl ⟨by rfl, fun V hV => by go_simp⟩) J6.b ?_
    try simp only [Act.put, List.getElem_toArray, List.getElem_cons_zero, List.getElem_cons_succ, List.setIfInBounds_toArray, List.set_cons_zero, List.set_cons_succ]
    refine wpAnyH_take (i := 7) (v := .int .i64 0) rfl (by kernel_rfl) (by kernel_rfl) (by kernel_rfl) (fun _ _ _ h => nomatch h.1) (.inl ⟨by rfl, fun V hV => by go_simp⟩) J6.b ?_
    try simp only [Act.put, List.getElem_toArray, List.getElem_cons_zero, List.getElem_cons_succ, List.setIfInBounds_toArray, List.set_cons_zero, List.set_cons_succ]
    refine wpAnyH_ready (rs := [8]) (by kernel_rfl) (by simp) ?_
    refine AllReadyH.cons rfl (fun K hK => ?_) AllReadyH.nil
    try simp only [Act.put, List.getElem_toArray, List.getElem_cons_zero, List.getElem_cons_succ, List.setIfInBounds_toArray, List.set_cons_zero, List.set_cons_succ]
    rw [if_pos (by rfl)]
    refine wp_store_blk 24 (.tmp 1) (.tmp 25) rfl g1 #[.slice A2 1 c2] #[.slice A3 2 c3] 24 rfl rfl J6.k rfl (po_info _ _ _) (by simp [Value.oneCell']) ?_
    intro w7 k7 g7
    have J7 : WkC w g1 A3 c3 o t o' t' l1 l2 w7 := ⟨J6.b.trans (g7.below _ J6.s J6.b.size), k7, (n6d.butB g7 hg16 J6.k).down (by have := J6.s; omega)⟩
    clear g7 k7 n6d J6
    refine hK.out _ _ J7.b (fun _ => ?_)
    clear hK K
    try simp only [Act.put, List.getElem_toArray, List.getElem_cons_zero, List.getElem_cons_succ, List.setIfInBounds_toArray, List.set_cons_zero, List.set_cons_succ]
    refine wpAnyH_ready (rs := [9]) (by kernel_rfl) (by simp) ?_
    refine AllReadyH.cons rfl (fun K hK => ?_) AllReadyH.nil
    try simp only [Act.put, List.getElem_toArray, List.getElem_cons_zero, List.getElem_cons_succ, List.setIfInBounds_toArray, List.set_cons_zero, List.set_cons_succ]
    go_simp
    refine hK.out _ _ J7.b (fun _ => ?_)
    clear hK K
    try simp only [Act.put, List.getElem_toArray, List.getElem_cons_zero, List.getElem_cons_succ, List.setIfInBounds_toArray, List.set_cons_zero, List.set_cons_succ]
    refine wpAnyH_ready (rs := [10]) (by kernel_rfl) (by simp) ?_
    refine AllReadyH.cons rfl (fun K hK => ?_) AllReadyH.nil
    try simp only [Act.put, List.getElem_toArray, List.getElem_cons_zero, List.getElem_cons_succ, List.setIfInBounds_toArray, List.set_cons_zero, List.set_cons_succ]
    go_simp
    refine hK.out _ _ J7.b (fun _ => ?_)
    clear hK K
    try simp only [Act.put, List.getElem_toArray, List.getElem_cons_zero, List.getElem_cons_succ, List.setIfInBounds_toArray, List.set_cons_zero, List.set_cons_succ]
    refine wpAnyH_done (by kernel_rfl) ?_ _
    refine ⟨rfl, ?_⟩
    have hlen : (2 : Nat) = ([(nA o t, l1), (nB o' t', l2)] : List Nl).length := rfl
    have hgl : ∀ x ∈ ([(nA o t, l1), (nB o' t', l2)] : List Nl), x.1.g.length ≤ 300 := fun x hx => by
      simp at hx
      rcases hx with rfl | rfl <;> (show (1 : Nat) ≤ 300; decide)
    have E2 := eval_any A3 2 c3 [(nA o t, l1), (nB o' t', l2)] 2 dat0 dat0_ok w7 (HKW.out w7 J7.b) J7.n.po hlen J7.n.cap (by omega)
    rw [wk_foE2] at E2
    have HE2 := Lib.hid E2
    have HGL := Lib.hid hgl
    have HLN := Lib.hid hlen
    clear E2 hgl hlen
    go_wp2_with (first
      | (refine wpListG_load (by rfl) 24 (.tmp 1) rfl g1 rfl 24 #[.slice A3 2 c3] _ J7.k Tryz.underlying24 rfl (po_info _ _ _) ?_)
      | (refine HE2.out.mono ?_
         clear HE2
         rintro e w8 ⟨⟨a8, b8⟩, rfl, bb, _, hv⟩
         obtain ⟨U, hU, hv⟩ := hv rfl
         have h8 : a8 = 1 := (congrArg Prod.fst hv).trans (wk_ev2 o t o' t' l1 l2 hU)
         subst h8
         have J8 := J7.step bb
         clear bb hU hv
         go_wp2_with (first
           | (refine wpList_store_blk rfl 67 (.tmp 6) (.tmp 33) rfl w8.heap.size #[.int .i64 0, .int .u16 0] #[.int .i64 1, .int .u16 b8] 67 rfl rfl (Blk.new _ _ _) rfl ver_info (by simp [Value.oneCell']) ?_
              intro w9 k9 g9
              have J9 := J8.step (newP rfl g9)
              have E1 := eval_any A3 2 c3 [(nA o t, l1), (nB o' t', l2)] 1 dat0 dat0_ok w9 (HKW.out w9 J9.b) J9.n.po HLN.out J9.n.cap (by omega)
              rw [wk_foE1] at E1
              have HE1 := Lib.hid E1
              clear E1 g9 J8
              go_wp2_with (first
                | (refine wpListG_load (by rfl) 24 (.tmp 1) rfl g1 rfl 24 #[.slice A3 2 c3] _ J9.k Tryz.underlying24 rfl (po_info _ _ _) ?_)
                | (refine HE1.out.mono ?_
                   clear HE1
                   rintro e x1 ⟨⟨a9, b9⟩, rfl, bb, _, hv⟩
                   obtain ⟨U, hU, hv⟩ := hv rfl
                   have h9 : a9 = 7 := (congrArg Prod.fst hv).trans (wk_ev1 o t o' t' l1 l2 hU)
                   subst h9
                   have JA := J9.step bb
                   have kA := k9.below bb k9.lt
                   clear bb hU hv J9 k9
                   go_wp2_with (first
                     | (refine wpList_store_blk rfl 67 (.tmp 8) (.tmp 40) rfl x1.heap.size #[.int .i64 0, .int .u16 0] #[.int .i64 7, .int .u16 b9] 67 rfl rfl (Blk.new _ _ _) rfl ver_info (by simp [Value.oneCell']) ?_
                        intro x2 kB gB
                        have JB := JA.step (newP rfl gB)
                        have kA2 := kA.below (newP rfl gB) kA.lt
                        have GV := give_any A3 2 c3 [(nA o t, l1), (nB o' t', l2)] 2 x2 (HKW.out x2 JB.b).k JB.n.po HLN.out JB.n.cap (by omega) HGL.out
                        clear gB JA kA
                        go_wp2_with (first
                          | (refine wpListG_load (by rfl) 24 (.tmp 1) rfl g1 rfl 24 #[.slice A3 2 c3] _ JB.k Tryz.underlying24 rfl (po_info _ _ _) ?_)
                          | (refine GV.mono ?_
                             clear GV
                             intro e x3 h3
                             obtain ⟨G3, gc3, A4, c4, rfl, bb⟩ := wk_give h3
                             have BC := JB.b.trans (bb.mono JB.b.size)
                             have kA3 := kA2.below bb kA2.lt
                             have kB3 := kB.below bb kB.lt
                             clear h3 bb kA2 kB JB
                             unfold poV
                             go_wp2_with (first
                               | (refine wpList_store_blk rfl 24 (.tmp 10) (.tmp 46) rfl x3.heap.size #[.slice none 0 0] #[.slice A4 0 c4] 24 rfl rfl (Blk.new _ _ _) rfl (po_info _ _ _) (by simp [Value.oneCell']) ?_
                                  intro x4 kD gD
                                  have BD := BC.trans ((newP rfl gD).mono BC.size)
                                  have kA4 := kA3.below (newP rfl gD) kA3.lt
                                  have kB4 := kB3.below (newP rfl gD) kB3.lt
                                  have q1 : x4.cell? ⟨w8.heap.size, 0, none⟩ = some (.int .i64 1) := kA4.cell 0
                                  have q2 : x4.cell? ⟨x1.heap.size, 0, none⟩ = some (.int .i64 7) := kB4.cell 0
                                  have q3 : x4.cell? ⟨x3.heap.size, 0, none⟩ = some (.slice A4 0 c4) := kD.cell 0
                                  clear gD kA3 kB3 kA4 kB4 kD BC
                                  go_wp2_with fail))))))))))))
    go_ret
    exact ⟨rfl, BD⟩
  · skip
    try simp only [Act.put, List.getElem_toArray, List.getElem_cons_zero, List.getElem_cons_succ, List.setIfInBounds_toArray, List.set_cons_zero, List.set_cons_succ]
    go_simp
    refine (kill_any w4).mono ?_
    rintro e w5 ⟨G2, rfl, hG2, bb⟩
    have J5 := J4.step bb
    clear bb
    go_wp2_with fail
    refine hK.out _ _ J5.b (fun _ => ?_)
    clear hK K
    try simp only [Act.put, List.getElem_toArray, List.getElem_cons_zero, List.getElem_cons_succ, List.setIfInBounds_toArray, List.set_cons_zero, List.set_cons_succ]
    refine wpAnyH_ready (rs := [0]) (by kernel_rfl) (by simp) ?_
    refine AllReadyH.cons rfl (fun K hK => ?_) AllReadyH.nil
    try simp only [Act.put, List.getElem_toArray, List.getElem_cons_zero, List.getElem_cons_succ, List.setIfInBounds_toArray, List.set_cons_zero, List.set_cons_succ]
    rw [if_pos (by rfl)]
    refine wp_load_row 24 (.tmp 1) rfl g1 rfl 24 #[.slice A2 1 c2] (0, 0) _ J5.k.blk Tryz.underlying24 rfl (po_info _ _ _) ?_
    refine hK.out _ _ J5.b (fun _ => ?_)
    clear hK K
    try simp only [Act.put, List.getElem_toArray, List.getElem_cons_zero, List.getElem_cons_succ, List.setIfInBounds_toArray, List.set_cons_zero, List.set_cons_succ]
    have AD := add_any A2 1 c2 [(nA o t, l)] 1 (by unfold I64; omega) G2 1 gK w5 (HKW.out w5 J5.b) (J5.n.po) rfl J5.n.cap (by omega) (fun x hx => by simp at hx; subst hx; show (1 : Nat) ≤ 300; decide) hG2 gK_ok (by decide) (by decide)
    unfold poV at AD
    refine wpAnyH_ready (rs := [3]) (by kernel_rfl) (by simp) ?_
    refine AllReadyH.cons rfl (fun K hK => ?_) AllReadyH.nil
    try simp only [Act.put, List.getElem_toArray, List.getElem_cons_zero, List.getElem_cons_succ, List.setIfInBounds_toArray, List.set_cons_zero, List.set_cons_succ]
    go_simp
    refine AD.mono ?_
    clear AD
    intro e w6 h6
    obtain ⟨o', t', A3, c3, l1, l2, n6, rfl, bb⟩ := wk_add2 h6
    have J6 := J5.step bb
    have n6d := n6.down (Nat.le_refl _)
    have hg16 := J5.k.lt
    clear bb h6 n6
    unfold poV
    go_wp2_with fail
    refine hK.out _ _ J6.b (fun _ => ?_)
    clear hK K
    try simp only [Act.put, List.getElem_toArray, List.getElem_cons_zero, List.getElem_cons_succ, List.setIfInBounds_toArray, List.set_cons_zero, List.set_cons_succ]
    refine wpAnyH_take (i := 4) (v := .tuple #[.agg #[.slice A3 2 c3], .int .i64 2, .int .i64 0]) rfl (by kernel_rfl) (by kernel_rfl) (by kernel_rfl) (fun _ _ _ h => nomatch h.1) (.inl ⟨by rfl, fun V hV => by go_simp⟩) J6.b ?_
    try simp only [Act.put, List.getElem_toArray, List.getElem_cons_zero, List.getElem_cons_succ, List.setIfInBounds_toArray, List.set_cons_zero, List.set_cons_succ]
    refine wpAnyH_take (i := 5) (v := .agg #[.slice A3 2 c3]) rfl (by kernel_rfl) (by kernel_rfl) (by kernel_rfl) (fun _ _ _ h => nomatch h.1) (.inl ⟨by rfl, fun V hV => by go_simp⟩) J6.b ?_
    try simp only [Act.put, List.getElem_toArray, List.getElem_cons_zero, List.getElem_cons_succ, List.setIfInBounds_toArray, List.set_cons_zero, List.set_cons_succ]
    refine wpAnyH_take (i := 6) (v := .int .i64 2) rfl (by kernel_rfl) (by kernel_rfl) (by kernel_rfl) (fun _ _ _ h => nomatch h.1) (.inl ⟨by rfl, fun V hV => by go_simp⟩) J6.b ?_
    try simp only [Act.put, List.getElem_toArray, List.getElem_cons_zero, List.getElem_cons_succ, List.setIfInBounds_toArray, List.set_cons_zero, List.set_cons_succ]
    refine wpAnyH_take (i := 7) (v := .int .i64 0) rfl (by kernel_rfl) (by kernel_rfl) (by kernel_rfl) (fun _ _ _ h => nomatch h.1) (.inl ⟨by rfl, fun V hV => by go_simp⟩) J6.b ?_
    try simp only [Act.put, List.getElem_toArray, List.getElem_cons_zero, List.getElem_cons_succ, List.setIfInBounds_toArray, List.set_cons_zero, List.set_cons_succ]
    refine wpAnyH_ready (rs := [8]) (by kernel_rfl) (by simp) ?_
    refine AllReadyH.cons rfl (fun K hK => ?_) AllReadyH.nil
    try simp only [Act.put, List.getElem_toArray, List.getElem_cons_zero, List.getElem_cons_succ, List.setIfInBounds_toArray, List.set_cons_zero, List.set_cons_succ]
    rw [if_pos (by rfl)]
    refine wp_store_blk 24 (.tmp 1) (.tmp 25) rfl g1 #[.slice A2 1 c2] #[.slice A3 2 c3] 24 rfl rfl J6.k rfl (po_info _ _ _) (by simp [Value.oneCell']) ?_
    intro w7 k7 g7
    have J7 : WkC w g1 A3 c3 o t o' t' l1 l2 w7 := ⟨J6.b.trans (g7.below _ J6.s J6.b.size), k7, (n6d.butB g7 hg16 J6.k).down (by have := J6.s; omega)⟩
    clear g7 k7 n6d J6
    refine hK.out _ _ J7.b (fun _ => ?_)
    clear hK K
    try simp only [Act.put, List.getElem_toArray, List.getElem_cons_zero, List.getElem_cons_succ, List.setIfInBounds_toArray, List.set_cons_zero, List.set_cons_succ]
    refine wpAnyH_ready (rs := [9]) (by kernel_rfl) (by simp) ?_
    refine AllReadyH.cons rfl (fun K hK => ?_) AllReadyH.nil
    try simp only [Act.put, List.getElem_toArray, List.getElem_cons_zero, List.getElem_cons_succ, List.setIfInBounds_toArray, List.set_cons_zero, List.set_cons_succ]
    go_simp
    refine hK.out _ _ J7.b (fun _ => ?_)
    clear hK K
    try simp only [Act.put, List.getElem_toArray, List.getElem_cons_zero, List.getElem_cons_succ, List.setIfInBounds_toArray, List.set_cons_zero, List.set_cons_succ]
    refine wpAnyH_ready (rs := [10]) (by kernel_rfl) (by simp) ?_
    refine AllReadyH.cons rfl (fun K hK => ?_) AllReadyH.nil
    try simp only [Act.put, List.getElem_toArray, List.getElem_cons_zero, List.getElem_cons_succ, List.setIfInBounds_toArray, List.set_cons_zero, List.set_cons_succ]
    go_simp
    refine hK.out _ _ J7.b (fun _ => ?_)
    clear hK K
    try simp only [Act.put, List.getElem_toArray, List.getElem_cons_zero, List.getElem_cons_succ, List.setIfInBounds_toArray, List.set_cons_zero, List.set_cons_succ]
    refine wpAnyH_done (by kernel_rfl) ?_ _
    refine ⟨rfl, ?_⟩
    have hlen : (2 : Nat) = ([(nA o t, l1), (nB o' t', l2)] : List Nl).length := rfl
    have hgl : ∀ x ∈ ([(nA o t, l1), (nB o' t', l2)] : List Nl), x.1.g.length ≤ 300 := fun x hx => by
      simp at hx
      rcases hx with rfl | rfl <;> (show (1 : Nat) ≤ 300; decide)
    have E2 := eval_any A3 2 c3 [(nA o t, l1), (nB o' t', l2)] 2 dat0 dat0_ok w7 (HKW.out w7 J7.b) J7.n.po hlen J7.n.cap (by omega)
    rw [wk_foE2] at E2
    have HE2 := Lib.hid E2
    have HGL := Lib.hid hgl
    have HLN := Lib.hid hlen
    clear E2 hgl hlen
    go_wp2_with (first
      | (refine wpListG_load (by rfl) 24 (.tmp 1) rfl g1 rfl 24 #[.slice A3 2 c3] _ J7.k Tryz.underlying24 rfl (po_info _ _ _) ?_)
      | (refine HE2.out.mono ?_
         clear HE2
         rintro e w8 ⟨⟨a8, b8⟩, rfl, bb, _, hv⟩
         obtain ⟨U, hU, hv⟩ := hv rfl
         have h8 : a8 = 1 := (congrArg Prod.fst hv).trans (wk_ev2 o t o' t' l1 l2 hU)
         subst h8
         have J8 := J7.step bb
         clear bb hU hv
         go_wp2_with (first
           | (refine wpList_store_blk rfl 67 (.tmp 6) (.tmp 33) rfl w8.heap.size #[.int .i64 0, .int .u16 0] #[.int .i64 1, .int .u16 b8] 67 rfl rfl (Blk.new _ _ _) rfl ver_info (by simp [Value.oneCell']) ?_
              intro w9 k9 g9
              have J9 := J8.step (newP rfl g9)
              have E1 := eval_any A3 2 c3 [(nA o t, l1), (nB o' t', l2)] 1 dat0 dat0_ok w9 (HKW.out w9 J9.b) J9.n.po HLN.out J9.n.cap (by omega)
              rw [wk_foE1] at E1
              have HE1 := Lib.hid E1
              clear E1 g9 J8
              go_wp2_with (first
                | (refine wpListG_load (by rfl) 24 (.tmp 1) rfl g1 rfl 24 #[.slice A3 2 c3] _ J9.k Tryz.underlying24 rfl (po_info _ _ _) ?_)
                | (refine HE1.out.mono ?_
                   clear HE1
                   rintro e x1 ⟨⟨a9, b9⟩, rfl, bb, _, hv⟩
                   obtain ⟨U, hU, hv⟩ := hv rfl
                   have h9 : a9 = 7 := (congrArg Prod.fst hv).trans (wk_ev1 o t o' t' l1 l2 hU)
                   subst h9
                   have JA := J9.step bb
                   have kA := k9.below bb k9.lt
                   clear bb hU hv J9 k9
                   go_wp2_with (first
                     | (refine wpList_store_blk rfl 67 (.tmp 8) (.tmp 40) rfl x1.heap.size #[.int .i64 0, .int .u16 0] #[.int .i64 7, .int .u16 b9] 67 rfl rfl (Blk.new _ _ _) rfl ver_info (by simp [Value.oneCell']) ?_
                        intro x2 kB gB
                        have JB := JA.step (newP rfl gB)
                        have kA2 := kA.below (newP rfl gB) kA.lt
                        have GV := give_any A3 2 c3 [(nA o t, l1), (nB o' t', l2)] 2 x2 (HKW.out x2 JB.b).k JB.n.po HLN.out JB.n.cap (by omega) HGL.out
                        clear gB JA kA
                        go_wp2_with (first
                          | (refine wpListG_load (by rfl) 24 (.tmp 1) rfl g1 rfl 24 #[.slice A3 2 c3] _ JB.k Tryz.underlying24 rfl (po_info _ _ _) ?_)
                          | (refine GV.mono ?_
                             clear GV
                             intro e x3 h3
                             obtain ⟨G3, gc3, A4, c4, rfl, bb⟩ := wk_give h3
                             have BC := JB.b.trans (bb.mono JB.b.size)
                             have kA3 := kA2.below bb kA2.lt
                             have kB3 := kB.below bb kB.lt
                             clear h3 bb kA2 kB JB
                             unfold poV
                             go_wp2_with (first
                               | (refine wpList_store_blk rfl 24 (.tmp 10) (.tmp 46) rfl x3.heap.size #[.slice none 0 0] #[.slice A4 0 c4] 24 rfl rfl (Blk.new _ _ _) rfl (po_info _ _ _) (by simp [Value.oneCell']) ?_
                                  intro x4 kD gD
                                  have BD := BC.trans ((newP rfl gD).mono BC.size)
                                  have kA4 := kA3.below (newP rfl gD) kA3.lt
                                  have kB4 := kB3.below (newP rfl gD) kB3.lt
                                  have q1 : x4.cell? ⟨w8.heap.size, 0, none⟩ = some (.int .i64 1) := kA4.cell 0
                                  have q2 : x4.cell? ⟨x1.heap.size, 0, none⟩ = some (.int .i64 7) := kB4.cell 0
                                  have q3 : x4.cell? ⟨x3.heap.size, 0, none⟩ = some (.slice A4 0 c4) := kD.cell 0
                                  clear gD kA3 kB3 kA4 kB4 kD BC
                                  go_wp2_with fail))))))))))))
    go_ret
    exact ⟨rfl, BD⟩
end Go.Proofs.YtelfdpcenplhjaaGreatDoor

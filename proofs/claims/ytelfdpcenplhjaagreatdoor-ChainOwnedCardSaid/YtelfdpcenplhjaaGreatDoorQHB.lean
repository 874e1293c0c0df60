/-
  BmJ, BmE, BmB: in one file.
-/
import Derived.Test.YtelfdpcenplhjaaGreatDoorQHA
import Derived.Test.YtelfdpcenplhjaaGreatDoorQHE
namespace Go.Proofs.YtelfdpcenplhjaaGreatDoor
open Go.RowKit
set_option linter.unusedVariables false
set_option linter.unusedSimpArgs false
theorem run_eql_st' {a b : StS} (h : a.m.length = 16) (h' : b.m.length = 16) (x : Bool) (e : decide (a = b) = x) (w : World) : (binOp .eql 158 (.agg (stC a)) (.agg (stC b))).run Tryz.prog w = .ok (.bool x) w := by
  have := run_eql_st h h' w
  rw [e] at this
  exact this
theorem run_eql_ed' (a b : EdS) (x : Bool) (e : decide (a = b) = x) (w : World) : (binOp .eql 188 (.agg (edC a)) (.agg (edC b))).run Tryz.prog w = .ok (.bool x) w := by
  have := run_eql_ed a b w
  rw [e] at this
  exact this
theorem st0_len : st0.m.length = 16 := by simp [st0]
theorem alike_raw (a b : Ab) (w : World) : Calls Tryz.prog 140 #[.agg #[.bool a.k, .int .u32 a.v], .agg #[.bool b.k, .int .u32 b.v]] w fun e w' => e = .returned (.agg #[.bool (alikeA a b).k, .int .u32 (alikeA a b).v]) ∧ Below w.heap.size w w' := alike_any a b w
set_option maxRecDepth 100000 in
set_option maxHeartbeats 1000000 in
theorem bothE_any (a b : EdS) (w : World) : Calls Tryz.prog 126 #[edV a, edV b] w fun e w' => e = .returned (edV (bothE a b)) ∧ Below w.heap.size w w' := by
  have B := (((Below.refl w.heap.size w).alloc (Nat.le_refl _) (.cells (edC a) 188)).alloc (by simp) (.cells (edC b) 188)).alloc (by simp; omega) (.cells (edC ed0) 188)
  have R := Blk.new_ ((w.alloc (.cells (edC a) 188)).alloc (.cells (edC b) 188)) (edC ed0) 188 (n := w.heap.size + 1 + 1) (by simp)
  have C := fun V => alike_raw a.b b.b V
  unfold edV bothE
  obtain ⟨j, hj⟩ : ∃ j, alikeA a.b b.b = j := ⟨_, rfl⟩
  rw [hj] at C ⊢
  clear hj
  rw [ed_ok a, ed_ok b]
  go_enter Tryz.func126, Tryz.ntmps126
  go_wp2_with fail
  refine (C _).mono ?_
  rintro e w4 ⟨rfl, b4⟩
  have R2 := R.below b4 R.lt
  have B2 := B.trans (b4.mono B.size)
  clear R B b4
  go_wp2_with (refine wpList_store_blk rfl 188 (.tmp 4) (.tmp 10) rfl (w.heap.size + 1 + 1) _ (edC ⟨j, true⟩) 188 rfl rfl R2 rfl (ed_inf _) (ed_one _) ?_; intro w9 hw9 hn9)
  refine bodyPost_ret (v := edV ⟨j, true⟩) (results_cell_row rfl _ w9 (w.heap.size + 1 + 1) 188 (edC ⟨j, true⟩) (0, 0) _ rfl hw9.blk Tryz.underlying188 rfl (ed_inf _)) rfl ⟨rfl, ?_⟩
  exact B2.trans (hn9.below _ (by omega) B2.size)
structure Jed (w V : World) (a b : EdS) : Prop where
  ka : Blk V w.heap.size (edC a) 188
  kb : Blk V (w.heap.size + 1) (edC b) 188
  kr : Blk V (w.heap.size + 1 + 1) (edC ed0) 188
  ku : Blk V (w.heap.size + 1 + 1 + 1) (edC ed0) 188
  old : Below w.heap.size w V
theorem Jed.new (w : World) (a b : EdS) : Jed w ((((w.alloc (.cells (edC a) 188)).alloc (.cells (edC b) 188)).alloc (.cells (edC ed0) 188)).alloc (.cells (edC ed0) 188)) a b :=
  ⟨(((Blk.new w _ _).alloc _).alloc _).alloc _, ((Blk.new_ _ _ _ (by simp)).alloc _).alloc _, (Blk.new_ _ _ _ (by simp)).alloc _, Blk.new_ _ _ _ (by simp),
    ((((Below.refl w.heap.size w).alloc (Nat.le_refl _) _).alloc (by simp) _).alloc (by simp; omega) _).alloc (by simp; omega) _⟩
theorem Jed.below {w V V' : World} {a b : EdS} (h : Jed w V a b) (hb : Below V.heap.size V V') : Jed w V' a b :=
  ⟨h.ka.below hb h.ka.lt, h.kb.below hb h.kb.lt, h.kr.below hb h.kr.lt, h.ku.below hb h.ku.lt, h.old.trans (hb.mono h.old.size)⟩
theorem jed_res {s : EdS} {w3 : World} {g : Nat} (tmps : Array Value) (hp : tmps.getD 6 undef = .pointer (some ⟨g, 0, none⟩)) (h : Blk w3 g (edC s) 188) :
    (results Tryz.f124 tmps).run Tryz.prog w3 = .ok (edV s) w3 :=
  results_cell_row rfl tmps w3 g 188 (edC s) (0, 0) _ hp h.blk Tryz.underlying188 rfl (ed_inf _)
set_option maxRecDepth 100000 in
set_option maxHeartbeats 1000000 in
theorem jed_1 (a b : EdS) (w : World) (h : a = ed0) :
    Calls Tryz.prog 124 #[edV a, edV b, .func (.func 126) #[] #[]] w fun e w' => e = .returned (edV b) ∧ Below w.heap.size w w' := by
  have J := Jed.new w a b
  unfold edV
  have E1 := Lib.hid (fun w => run_eql_ed' a ed0 true (decide_eq_true h) w)
  clear h
  have ku := J.ku
  go_enter Tryz.func124, Tryz.ntmps124
  go_wp2_with (first
    | (refine wpList_load_row rfl 188 (.tmp 3) rfl w.heap.size rfl 188 (edC a) (0, 0) _ J.ka.blk Tryz.underlying188 rfl (ed_inf _) ?_)
    | (refine wpList_load_row rfl 188 (.tmp 4) rfl (w.heap.size + 1) rfl 188 (edC b) (0, 0) _ J.kb.blk Tryz.underlying188 rfl (ed_inf _) ?_)
    | (refine wpList_load_row rfl 188 (.tmp 7) rfl (w.heap.size + 1 + 1 + 1) rfl 188 (edC ed0) (0, 0) _ ku.blk Tryz.underlying188 rfl (ed_inf _) ?_)
    | (refine wpList_eql_agg rfl .eql (.inl rfl) 188 (.tmp 9) (.tmp 10) rfl (edC a) (edC ed0) rfl rfl ed_guard true (E1.out _) ?_)
    | (refine wpList_store_blk rfl 188 (.tmp 6) (.tmp 12) rfl (w.heap.size + 1 + 1) _ (edC b) 188 rfl rfl J.kr rfl (ed_inf _) (ed_one _) ?_; intro w9 hw9 hn9))
  refine bodyPost_ret (v := edV b) (jed_res (s := b) _ rfl hw9) rfl ⟨rfl, ?_⟩
  exact J.old.trans (hn9.below _ (by omega) J.old.size)
set_option maxRecDepth 100000 in
set_option maxHeartbeats 1000000 in
theorem jed_2 (a b : EdS) (w : World) (h : ¬ a = ed0) (h' : b = ed0) :
    Calls Tryz.prog 124 #[edV a, edV b, .func (.func 126) #[] #[]] w fun e w' => e = .returned (edV a) ∧ Below w.heap.size w w' := by
  have J := Jed.new w a b
  unfold edV
  have E1 := Lib.hid (fun w => run_eql_ed' a ed0 false (decide_eq_false h) w)
  have E2 := Lib.hid (fun w => run_eql_ed' b ed0 true (decide_eq_true h') w)
  clear h h'
  have ku := J.ku
  go_enter Tryz.func124, Tryz.ntmps124
  go_wp2_with (first
    | (refine wpList_load_row rfl 188 (.tmp 3) rfl w.heap.size rfl 188 (edC a) (0, 0) _ J.ka.blk Tryz.underlying188 rfl (ed_inf _) ?_)
    | (refine wpList_load_row rfl 188 (.tmp 4) rfl (w.heap.size + 1) rfl 188 (edC b) (0, 0) _ J.kb.blk Tryz.underlying188 rfl (ed_inf _) ?_)
    | (refine wpList_load_row rfl 188 (.tmp 7) rfl (w.heap.size + 1 + 1 + 1) rfl 188 (edC ed0) (0, 0) _ ku.blk Tryz.underlying188 rfl (ed_inf _) ?_)
    | (refine wpList_eql_agg rfl .eql (.inl rfl) 188 (.tmp 9) (.tmp 10) rfl (edC a) (edC ed0) rfl rfl ed_guard false (E1.out _) ?_)
    | (refine wpList_eql_agg rfl .eql (.inl rfl) 188 (.tmp 14) (.tmp 15) rfl (edC b) (edC ed0) rfl rfl ed_guard true (E2.out _) ?_)
    | (refine wpList_store_blk rfl 188 (.tmp 6) (.tmp 17) rfl (w.heap.size + 1 + 1) _ (edC a) 188 rfl rfl J.kr rfl (ed_inf _) (ed_one _) ?_; intro w9 hw9 hn9))
  refine bodyPost_ret (v := edV a) (jed_res (s := a) _ rfl hw9) rfl ⟨rfl, ?_⟩
  exact J.old.trans (hn9.below _ (by omega) J.old.size)
set_option maxRecDepth 100000 in
set_option maxHeartbeats 1000000 in
theorem jed_3 (a b : EdS) (w : World) (h : ¬ a = ed0) (h' : ¬ b = ed0) :
    Calls Tryz.prog 124 #[edV a, edV b, .func (.func 126) #[] #[]] w fun e w' => e = .returned (edV (bothE a b)) ∧ Below w.heap.size w w' := by
  have J := Jed.new w a b
  unfold edV
  have E1 := Lib.hid (fun w => run_eql_ed' a ed0 false (decide_eq_false h) w)
  have E2 := Lib.hid (fun w => run_eql_ed' b ed0 false (decide_eq_false h') w)
  clear h h'
  have ku := J.ku
  have C := fun V => bothE_any a b V
  unfold edV at C
  obtain ⟨j, hj⟩ : ∃ j, bothE a b = j := ⟨_, rfl⟩
  rw [hj] at C ⊢
  clear hj
  go_enter Tryz.func124, Tryz.ntmps124
  go_wp2_with (first
    | (refine wpList_load_row rfl 188 (.tmp 3) rfl w.heap.size rfl 188 (edC a) (0, 0) _ J.ka.blk Tryz.underlying188 rfl (ed_inf _) ?_)
    | (refine wpList_load_row rfl 188 (.tmp 4) rfl (w.heap.size + 1) rfl 188 (edC b) (0, 0) _ J.kb.blk Tryz.underlying188 rfl (ed_inf _) ?_)
    | (refine wpList_load_row rfl 188 (.tmp 7) rfl (w.heap.size + 1 + 1 + 1) rfl 188 (edC ed0) (0, 0) _ ku.blk Tryz.underlying188 rfl (ed_inf _) ?_)
    | (refine wpList_eql_agg rfl .eql (.inl rfl) 188 (.tmp 9) (.tmp 10) rfl (edC a) (edC ed0) rfl rfl ed_guard false (E1.out _) ?_)
    | (refine wpList_eql_agg rfl .eql (.inl rfl) 188 (.tmp 14) (.tmp 15) rfl (edC b) (edC ed0) rfl rfl ed_guard false (E2.out _) ?_))
  refine (C _).mono ?_
  rintro e w4 ⟨rfl, b4⟩
  have J2 := J.below b4
  clear b4 J ku
  go_wp2_with (refine wpList_store_blk rfl 188 (.tmp 6) (.tmp 21) rfl (w.heap.size + 1 + 1) _ (edC j) 188 rfl rfl J2.kr rfl (ed_inf _) (ed_one _) ?_; intro w9 hw9 hn9)
  refine bodyPost_ret (v := edV j) (jed_res (s := j) _ rfl hw9) rfl ⟨rfl, ?_⟩
  exact J2.old.trans (hn9.below _ (by omega) J2.old.size)
theorem join_ed (a b : EdS) (w : World) :
    Calls Tryz.prog 124 #[edV a, edV b, .func (.func 126) #[] #[]] w fun e w' => e = .returned (edV (joinE a b)) ∧ Below w.heap.size w w' := by
  unfold joinE
  by_cases h : a = ed0
  · rw [if_pos h]
    exact jed_1 a b w h
  · rw [if_neg h]
    by_cases h' : b = ed0
    · rw [if_pos h']
      exact jed_2 a b w h h'
    · rw [if_neg h']
      exact jed_3 a b w h h'
theorem both_len (a b : StS) : (bothS a b).m.length = 16 := by simp [bothS]
def bothK (a b : StS) (k : Nat) : StS := ⟨true, alikeA a.a b.a, alikeA a.x b.x, (List.range 16).map fun i => if i < k then alikeA (a.m.getD i ab0) (b.m.getD i ab0) else ab0⟩
theorem bothK_len (a b : StS) (k : Nat) : (bothK a b k).m.length = 16 := by simp [bothK]
theorem bothK_end (a b : StS) : bothK a b 16 = bothS a b := by
  have hm : (bothK a b 16).m = (bothS a b).m := ?_
  · show StS.mk true _ _ (bothK a b 16).m = bothS a b
    rw [hm]
    rfl
  unfold bothK bothS
  dsimp only
  apply List.map_congr_left
  intro i hi
  rw [if_pos (List.mem_range.1 hi)]
theorem bothK_0 (a b : StS) : bothK a b 0 = ⟨true, alikeA a.a b.a, alikeA a.x b.x, List.replicate 16 ab0⟩ := rfl
theorem bothK_step (a b : StS) (k : Nat) : { bothK a b k with m := (bothK a b k).m.set k (alikeA (a.m.getD k ab0) (b.m.getD k ab0)) } = bothK a b (k + 1) := by
  have hm : (bothK a b k).m.set k (alikeA (a.m.getD k ab0) (b.m.getD k ab0)) = (bothK a b (k + 1)).m := ?_
  · show StS.mk true _ _ _ = bothK a b (k + 1)
    rw [hm]
    rfl
  unfold bothK
  apply List.ext_getElem?
  intro i
  rw [List.getElem?_set]
  simp only [List.length_map, List.length_range, List.getElem?_map]
  by_cases h : k = i
  · subst h
    by_cases h16 : k < 16
    · simp [h16]
    · simp [h16]
  · rw [if_neg h]
    by_cases h16 : i < 16
    · simp only [List.getElem?_range h16, Option.map_some, Option.some.injEq]
      by_cases hk : i < k
      · rw [if_pos hk, if_pos (by omega)]
      · rw [if_neg hk, if_neg (by omega)]
    · simp [h16]
theorem st_m {s : StS} {V : World} {g : Nat} {t : TypeId} (h : Blk V g (stC s) t) (hl : s.m.length = 16) {k : Nat} (hk : k < 16) : V.cell? ⟨g, 5 + k * 2, none⟩ = some (.bool (s.m.getD k ab0).k) ∧ V.cell? ⟨g, 5 + k * 2 + 1, none⟩ = some (.int .u32 (s.m.getD k ab0).v) :=
  ⟨(h.cell _).trans (st_5 hl hk).1, (h.cell _).trans (st_5 hl hk).2⟩
structure BS (w : World) (g : Nat) (V : World) (a b j : StS) : Prop where
  ka : Blk V w.heap.size (stC a) 158
  kb : Blk V (w.heap.size + 1) (stC b) 158
  kr : Blk V (w.heap.size + 1 + 1) zstL 158
  kj : Blk V g (stC j) 158
  hg : w.heap.size + 1 + 1 < g
  old : Below w.heap.size w V
section
variable {w V V' : World} {g : Nat} {a b j j' : StS}
theorem BS.below (h : BS w g V a b j) (hb : Below V.heap.size V V') : BS w g V' a b j :=
  ⟨h.ka.below hb h.ka.lt, h.kb.below hb h.kb.lt, h.kr.below hb h.kr.lt, h.kj.below hb h.kj.lt, h.hg, h.old.trans (hb.mono h.old.size)⟩
theorem BS.drew (h : BS w g V a b j) : BS w g V.drew a b j := h.below (Below.refl _ _).drew
theorem BS.set_ (h : BS w g V a b j) (k : Blk V' g (stC j') 158) (n : But g V V') : BS w g V' a b j' :=
  have := h.hg
  ⟨n.blk' h.ka (by omega), n.blk' h.kb (by omega), n.blk' h.kr (by omega), k, h.hg, h.old.trans (n.below w.heap.size (by omega) h.old.size)⟩
end
set_option maxRecDepth 100000 in
set_option maxHeartbeats 8000000 in
theorem bothS_any (a b : StS) (la : a.m.length = 16) (lb : b.m.length = 16) (w : World) : Calls Tryz.prog 129 #[stV a, stV b] w fun e w' => e = .returned (stV (bothS a b)) ∧ Below w.heap.size w w' := by
  have B0 := (((Below.refl w.heap.size w).alloc (Nat.le_refl _) (.cells (stC a) 158)).alloc (by simp) (.cells (stC b) 158)).alloc (by simp; omega) (.cells zstL 158)
  have ka0 := ((Blk.new w (stC a) 158).alloc (.cells (stC b) 158)).alloc (.cells zstL 158)
  have kb0 := (Blk.new_ (w.alloc (.cells (stC a) 158)) (stC b) 158 (n := w.heap.size + 1) (by simp)).alloc (.cells zstL 158)
  have kr0 := Blk.new_ ((w.alloc (.cells (stC a) 158)).alloc (.cells (stC b) 158)) zstL 158 (n := w.heap.size + 1 + 1) (by simp)
  have Cp := fun V => alike_raw a.a b.a V
  have Cq := fun V => alike_raw a.x b.x V
  have h0 := bothK_0 a b
  have hE := bothK_end a b
  obtain ⟨p, hp⟩ : ∃ p, alikeA a.a b.a = p := ⟨_, rfl⟩
  obtain ⟨q, hq⟩ : ∃ q, alikeA a.x b.x = q := ⟨_, rfl⟩
  rw [hp] at Cp h0
  rw [hq] at Cq h0
  rw [← hE]
  have lB : (⟨true, p, q, List.replicate 16 ab0⟩ : StS).m.length = 16 := by simp
  clear hp hq hE
  unfold stV
  go_enter Tryz.func129, Tryz.ntmps129
  go_wp2_with fail
  have J0 : ∀ V, Below w.heap.size (((w.alloc (.cells (stC a) 158)).alloc (.cells (stC b) 158)).alloc (.cells zstL 158)) V → True := fun _ _ => trivial
  clear J0
  show Code.wp _ _ _ _ (((w.alloc (.cells (stC a) 158)).alloc (.cells (stC b) 158)).alloc (.cells zstL 158))
  generalize ((w.alloc (.cells (stC a) 158)).alloc (.cells (stC b) 158)).alloc (.cells zstL 158) = w1 at B0 ka0 kb0 kr0 ⊢
  have ka := ka0
  have kb := kb0
  have HS : Below w1.heap.size w1 w1.drew := (Below.refl _ _).drew
  have hz : w.heap.size + 1 + 1 < w1.heap.size := kr0.lt
  generalize hB0 : (⟨true, p, q, List.replicate 16 ab0⟩ : StS) = B0' at lB h0
  refine region_cutG (fun g => { tmps := #[.agg (stC a), .agg (stC b), .pointer (some ⟨w.heap.size, 0, none⟩), .pointer (some ⟨w.heap.size + 1, 0, none⟩), .pointer (some ⟨w.heap.size + 1 + 1, 0, none⟩), .pointer (some ⟨g, 0, none⟩), undef,
      .pointer (some ⟨w.heap.size, 1, none⟩), .agg #[.bool a.a.k, .int .u32 a.a.v], .pointer (some ⟨w.heap.size + 1, 1, none⟩), .agg #[.bool b.a.k, .int .u32 b.a.v], .agg #[.bool p.k, .int .u32 p.v],
      .pointer (some ⟨w.heap.size, 3, none⟩), .agg #[.bool a.x.k, .int .u32 a.x.v], .pointer (some ⟨w.heap.size + 1, 3, none⟩), .agg #[.bool b.x.k, .int .u32 b.x.v], .agg #[.bool q.k, .int .u32 q.v], .agg #[.bool true, .bool p.k, .int .u32 p.v, .bool q.k, .int .u32 q.v, .bool false, .int .u32 0, .bool false, .int .u32 0, .bool false, .int .u32 0, .bool false, .int .u32 0, .bool false, .int .u32 0, .bool false, .int .u32 0, .bool false, .int .u32 0, .bool false, .int .u32 0, .bool false, .int .u32 0, .bool false, .int .u32 0, .bool false, .int .u32 0, .bool false, .int .u32 0, .bool false, .int .u32 0, .bool false, .int .u32 0, .bool false, .int .u32 0, .bool false, .int .u32 0],
      undef, undef, undef, undef, undef, undef, undef, undef, undef, undef, undef, undef, undef, undef, undef, undef, undef], defers := [] })
    (fun g V => Below w1.heap.size w1 V ∧ w1.heap.size ≤ g ∧ Blk V g (stC B0') 158) ?_ ?_
  · clear h0
    subst hB0
    refine wp_region_held_drew (S := fun V => Below w1.heap.size w1 V) (by kernel_rfl) HS (fun _ => ?_)
    refine wpAnyH_take (i := 0) (v := .pointer (some ⟨w.heap.size, 1, none⟩)) rfl (by kernel_rfl) (by kernel_rfl) (by kernel_rfl) (fun _ _ _ h => nomatch h.1) (.inl ⟨by rfl, fun V hV => by go_simp⟩) HS ?_
    try simp only [Act.put, List.getElem_toArray, List.getElem_cons_zero, List.getElem_cons_succ, List.setIfInBounds_toArray, List.set_cons_zero, List.set_cons_succ]
    refine wpAnyH_take (i := 1) (v := .agg #[.bool a.a.k, .int .u32 a.a.v]) rfl (by kernel_rfl) (by kernel_rfl) (by kernel_rfl) (fun _ _ _ h => nomatch h.1) (.inl ⟨by rfl, fun V hV => by have c0 := ((ka.below hV ka.lt).cell 1).trans st_1; have c1 := ((ka.below hV ka.lt).cell 2).trans st_2; go_simp⟩) HS ?_
    try simp only [Act.put, List.getElem_toArray, List.getElem_cons_zero, List.getElem_cons_succ, List.setIfInBounds_toArray, List.set_cons_zero, List.set_cons_succ]
    refine wpAnyH_take (i := 2) (v := .pointer (some ⟨w.heap.size + 1, 1, none⟩)) rfl (by kernel_rfl) (by kernel_rfl) (by kernel_rfl) (fun _ _ _ h => nomatch h.1) (.inl ⟨by rfl, fun V hV => by go_simp⟩) HS ?_
    try simp only [Act.put, List.getElem_toArray, List.getElem_cons_zero, List.getElem_cons_succ, List.setIfInBounds_toArray, List.set_cons_zero, List.set_cons_succ]
    refine wpAnyH_take (i := 3) (v := .agg #[.bool b.a.k, .int .u32 b.a.v]) rfl (by kernel_rfl) (by kernel_rfl) (by kernel_rfl) (fun _ _ _ h => nomatch h.1) (.inl ⟨by rfl, fun V hV => by have c0 := ((kb.below hV kb.lt).cell 1).trans st_1; have c1 := ((kb.below hV kb.lt).cell 2).trans st_2; go_simp⟩) HS ?_
    try simp only [Act.put, List.getElem_toArray, List.getElem_cons_zero, List.getElem_cons_succ, List.setIfInBounds_toArray, List.set_cons_zero, List.set_cons_succ]
    refine wpAnyH_take (i := 5) (v := .pointer (some ⟨w.heap.size, 3, none⟩)) rfl (by kernel_rfl) (by kernel_rfl) (by kernel_rfl) (fun _ _ _ h => nomatch h.1) (.inl ⟨by rfl, fun V hV => by go_simp⟩) HS ?_
    try simp only [Act.put, List.getElem_toArray, List.getElem_cons_zero, List.getElem_cons_succ, List.setIfInBounds_toArray, List.set_cons_zero, List.set_cons_succ]
    refine wpAnyH_take (i := 6) (v := .agg #[.bool a.x.k, .int .u32 a.x.v]) rfl (by kernel_rfl) (by kernel_rfl) (by kernel_rfl) (fun _ _ _ h => nomatch h.1) (.inl ⟨by rfl, fun V hV => by have c0 := ((ka.below hV ka.lt).cell 3).trans st_3; have c1 := ((ka.below hV ka.lt).cell 4).trans st_4; go_simp⟩) HS ?_
    try simp only [Act.put, List.getElem_toArray, List.getElem_cons_zero, List.getElem_cons_succ, List.setIfInBounds_toArray, List.set_cons_zero, List.set_cons_succ]
    refine wpAnyH_take (i := 7) (v := .pointer (some ⟨w.heap.size + 1, 3, none⟩)) rfl (by kernel_rfl) (by kernel_rfl) (by kernel_rfl) (fun _ _ _ h => nomatch h.1) (.inl ⟨by rfl, fun V hV => by go_simp⟩) HS ?_
    try simp only [Act.put, List.getElem_toArray, List.getElem_cons_zero, List.getElem_cons_succ, List.setIfInBounds_toArray, List.set_cons_zero, List.set_cons_succ]
    refine wpAnyH_take (i := 8) (v := .agg #[.bool b.x.k, .int .u32 b.x.v]) rfl (by kernel_rfl) (by kernel_rfl) (by kernel_rfl) (fun _ _ _ h => nomatch h.1) (.inl ⟨by rfl, fun V hV => by have c0 := ((kb.below hV kb.lt).cell 3).trans st_3; have c1 := ((kb.below hV kb.lt).cell 4).trans st_4; go_simp⟩) HS ?_
    try simp only [Act.put, List.getElem_toArray, List.getElem_cons_zero, List.getElem_cons_succ, List.setIfInBounds_toArray, List.set_cons_zero, List.set_cons_succ]
    refine wpAnyH_ready (rs := [4, 11]) (by kernel_rfl) (by simp) ?_
    refine AllReadyH.cons rfl (fun K hK => ?_) ?_
    · try simp only [List.getElem_toArray, List.getElem_cons_zero, List.getElem_cons_succ, List.setIfInBounds_toArray, List.set_cons_zero, List.set_cons_succ]
      go_simp
      refine (Cp _).mono ?_
      rintro e V1 ⟨rfl, b1⟩
      go_wp2_with fail
      refine hK.out _ _ (HS.trans (b1.mono HS.size)) (fun J1 => ?_)
      clear hK K
      try simp only [Act.put, List.getElem_toArray, List.getElem_cons_zero, List.getElem_cons_succ, List.setIfInBounds_toArray, List.set_cons_zero, List.set_cons_succ]
      refine wpAnyH_ready (rs := [9, 11]) (by kernel_rfl) (by simp) ?_
      refine AllReadyH.cons rfl (fun K hK => ?_) ?_
      · try simp only [List.getElem_toArray, List.getElem_cons_zero, List.getElem_cons_succ, List.setIfInBounds_toArray, List.set_cons_zero, List.set_cons_succ]
        go_simp
        refine (Cq _).mono ?_
        rintro e V2 ⟨rfl, b2⟩
        go_wp2_with fail
        refine hK.out _ _ (J1.trans (b2.mono J1.size)) (fun J2 => ?_)
        clear hK K
        try simp only [Act.put, List.getElem_toArray, List.getElem_cons_zero, List.getElem_cons_succ, List.setIfInBounds_toArray, List.set_cons_zero, List.set_cons_succ]
        refine wpAnyH_take (i := 10) (v := .agg #[.bool true, .bool p.k, .int .u32 p.v, .bool q.k, .int .u32 q.v, .bool false, .int .u32 0, .bool false, .int .u32 0, .bool false, .int .u32 0, .bool false, .int .u32 0, .bool false, .int .u32 0, .bool false, .int .u32 0, .bool false, .int .u32 0, .bool false, .int .u32 0, .bool false, .int .u32 0, .bool false, .int .u32 0, .bool false, .int .u32 0, .bool false, .int .u32 0, .bool false, .int .u32 0, .bool false, .int .u32 0, .bool false, .int .u32 0, .bool false, .int .u32 0]) rfl (by kernel_rfl) (by kernel_rfl) (by kernel_rfl) (fun _ _ _ h => nomatch h.1) (.inl ⟨by rfl, fun V hV => by go_simp⟩) J2 ?_
        try simp only [Act.put, List.getElem_toArray, List.getElem_cons_zero, List.getElem_cons_succ, List.setIfInBounds_toArray, List.set_cons_zero, List.set_cons_succ]
        refine wpAnyH_ready (rs := [11]) (by kernel_rfl) (by simp) ?_
        refine AllReadyH.cons rfl (fun K hK => ?_) AllReadyH.nil
        try simp only [List.getElem_toArray, List.getElem_cons_zero, List.getElem_cons_succ, List.setIfInBounds_toArray, List.set_cons_zero, List.set_cons_succ]
        go_simp
        refine hK.out _ _ (J2.alloc J2.size _) (fun J3 => ?_)
        clear hK K
        have F3 := And.intro J2.size (Blk.new V2 zstL 158)
        try simp only [Act.put, List.getElem_toArray, List.getElem_cons_zero, List.getElem_cons_succ, List.setIfInBounds_toArray, List.set_cons_zero, List.set_cons_succ]
        refine wpAnyH_ready (rs := [12]) (by kernel_rfl) (by simp) ?_
        refine AllReadyH.cons rfl (fun K hK => ?_) AllReadyH.nil
        try simp only [List.getElem_toArray, List.getElem_cons_zero, List.getElem_cons_succ, List.setIfInBounds_toArray, List.set_cons_zero, List.set_cons_succ]
        rw [if_pos (by rfl)]
        refine wp_store_blk 158 (.tmp 5) (.tmp 17) rfl _ _ (stC ⟨true, p, q, List.replicate 16 ab0⟩) 158 rfl rfl F3.2 (zst_size.trans (st_size (s := ⟨true, p, q, List.replicate 16 ab0⟩) lB).symm) (st_inf lB) st_one ?_
        intro V4 F4 N4
        have G4 := F3.1
        refine hK.out _ _ (J3.trans (N4.below _ G4 J3.size)) (fun J4 => ?_)
        clear hK K
        try simp only [Act.put]
        refine wpAnyH_done (by kernel_rfl) ?_ _
        exact ⟨rfl, _, rfl, J4, G4, F4⟩
      refine AllReadyH.cons rfl (fun K hK => ?_) AllReadyH.nil
      try simp only [List.getElem_toArray, List.getElem_cons_zero, List.getElem_cons_succ, List.setIfInBounds_toArray, List.set_cons_zero, List.set_cons_succ]
      go_simp
      refine hK.out _ _ (J1.alloc J1.size _) (fun J5 => ?_)
      clear hK K
      have F5 := And.intro J1.size (Blk.new V1 zstL 158)
      try simp only [Act.put, List.getElem_toArray, List.getElem_cons_zero, List.getElem_cons_succ, List.setIfInBounds_toArray, List.set_cons_zero, List.set_cons_succ]
      refine wpAnyH_ready (rs := [9]) (by kernel_rfl) (by simp) ?_
      refine AllReadyH.cons rfl (fun K hK => ?_) AllReadyH.nil
      try simp only [List.getElem_toArray, List.getElem_cons_zero, List.getElem_cons_succ, List.setIfInBounds_toArray, List.set_cons_zero, List.set_cons_succ]
      go_simp
      refine (Cq _).mono ?_
      rintro e V6 ⟨rfl, b6⟩
      go_wp2_with fail
      refine hK.out _ _ (J5.trans (b6.mono J5.size)) (fun J6 => ?_)
      clear hK K
      have F6 := And.intro F5.1 (F5.2.below b6 F5.2.lt)
      try simp only [Act.put, List.getElem_toArray, List.getElem_cons_zero, List.getElem_cons_succ, List.setIfInBounds_toArray, List.set_cons_zero, List.set_cons_succ]
      refine wpAnyH_take (i := 10) (v := .agg #[.bool true, .bool p.k, .int .u32 p.v, .bool q.k, .int .u32 q.v, .bool false, .int .u32 0, .bool false, .int .u32 0, .bool false, .int .u32 0, .bool false, .int .u32 0, .bool false, .int .u32 0, .bool false, .int .u32 0, .bool false, .int .u32 0, .bool false, .int .u32 0, .bool false, .int .u32 0, .bool false, .int .u32 0, .bool false, .int .u32 0, .bool false, .int .u32 0, .bool false, .int .u32 0, .bool false, .int .u32 0, .bool false, .int .u32 0, .bool false, .int .u32 0]) rfl (by kernel_rfl) (by kernel_rfl) (by kernel_rfl) (fun _ _ _ h => nomatch h.1) (.inl ⟨by rfl, fun V hV => by go_simp⟩) J6 ?_
      try simp only [Act.put, List.getElem_toArray, List.getElem_cons_zero, List.getElem_cons_succ, List.setIfInBounds_toArray, List.set_cons_zero, List.set_cons_succ]
      refine wpAnyH_ready (rs := [12]) (by kernel_rfl) (by simp) ?_
      refine AllReadyH.cons rfl (fun K hK => ?_) AllReadyH.nil
      try simp only [List.getElem_toArray, List.getElem_cons_zero, List.getElem_cons_succ, List.setIfInBounds_toArray, List.set_cons_zero, List.set_cons_succ]
      rw [if_pos (by rfl)]
      refine wp_store_blk 158 (.tmp 5) (.tmp 17) rfl _ _ (stC ⟨true, p, q, List.replicate 16 ab0⟩) 158 rfl rfl F6.2 (zst_size.trans (st_size (s := ⟨true, p, q, List.replicate 16 ab0⟩) lB).symm) (st_inf lB) st_one ?_
      intro V7 F7 N7
      have G7 := F6.1
      refine hK.out _ _ (J6.trans (N7.below _ G7 J6.size)) (fun J7 => ?_)
      clear hK K
      try simp only [Act.put]
      refine wpAnyH_done (by kernel_rfl) ?_ _
      exact ⟨rfl, _, rfl, J7, G7, F7⟩
    refine AllReadyH.cons rfl (fun K hK => ?_) AllReadyH.nil
    try simp only [List.getElem_toArray, List.getElem_cons_zero, List.getElem_cons_succ, List.setIfInBounds_toArray, List.set_cons_zero, List.set_cons_succ]
    go_simp
    refine hK.out _ _ (HS.alloc HS.size _) (fun J8 => ?_)
    clear hK K
    have F8 := And.intro HS.size (Blk.new w1.drew zstL 158)
    try simp only [Act.put, List.getElem_toArray, List.getElem_cons_zero, List.getElem_cons_succ, List.setIfInBounds_toArray, List.set_cons_zero, List.set_cons_succ]
    refine wpAnyH_ready (rs := [4]) (by kernel_rfl) (by simp) ?_
    refine AllReadyH.cons rfl (fun K hK => ?_) AllReadyH.nil
    try simp only [List.getElem_toArray, List.getElem_cons_zero, List.getElem_cons_succ, List.setIfInBounds_toArray, List.set_cons_zero, List.set_cons_succ]
    go_simp
    refine (Cp _).mono ?_
    rintro e V9 ⟨rfl, b9⟩
    go_wp2_with fail
    refine hK.out _ _ (J8.trans (b9.mono J8.size)) (fun J9 => ?_)
    clear hK K
    have F9 := And.intro F8.1 (F8.2.below b9 F8.2.lt)
    try simp only [Act.put, List.getElem_toArray, List.getElem_cons_zero, List.getElem_cons_succ, List.setIfInBounds_toArray, List.set_cons_zero, List.set_cons_succ]
    refine wpAnyH_ready (rs := [9]) (by kernel_rfl) (by simp) ?_
    refine AllReadyH.cons rfl (fun K hK => ?_) AllReadyH.nil
    try simp only [List.getElem_toArray, List.getElem_cons_zero, List.getElem_cons_succ, List.setIfInBounds_toArray, List.set_cons_zero, List.set_cons_succ]
    go_simp
    refine (Cq _).mono ?_
    rintro e V10 ⟨rfl, b10⟩
    go_wp2_with fail
    refine hK.out _ _ (J9.trans (b10.mono J9.size)) (fun J10 => ?_)
    clear hK K
    have F10 := And.intro F9.1 (F9.2.below b10 F9.2.lt)
    try simp only [Act.put, List.getElem_toArray, List.getElem_cons_zero, List.getElem_cons_succ, List.setIfInBounds_toArray, List.set_cons_zero, List.set_cons_succ]
    refine wpAnyH_take (i := 10) (v := .agg #[.bool true, .bool p.k, .int .u32 p.v, .bool q.k, .int .u32 q.v, .bool false, .int .u32 0, .bool false, .int .u32 0, .bool false, .int .u32 0, .bool false, .int .u32 0, .bool false, .int .u32 0, .bool false, .int .u32 0, .bool false, .int .u32 0, .bool false, .int .u32 0, .bool false, .int .u32 0, .bool false, .int .u32 0, .bool false, .int .u32 0, .bool false, .int .u32 0, .bool false, .int .u32 0, .bool false, .int .u32 0, .bool false, .int .u32 0, .bool false, .int .u32 0]) rfl (by kernel_rfl) (by kernel_rfl) (by kernel_rfl) (fun _ _ _ h => nomatch h.1) (.inl ⟨by rfl, fun V hV => by go_simp⟩) J10 ?_
    try simp only [Act.put, List.getElem_toArray, List.getElem_cons_zero, List.getElem_cons_succ, List.setIfInBounds_toArray, List.set_cons_zero, List.set_cons_succ]
    refine wpAnyH_ready (rs := [12]) (by kernel_rfl) (by simp) ?_
    refine AllReadyH.cons rfl (fun K hK => ?_) AllReadyH.nil
    try simp only [List.getElem_toArray, List.getElem_cons_zero, List.getElem_cons_succ, List.setIfInBounds_toArray, List.set_cons_zero, List.set_cons_succ]
    rw [if_pos (by rfl)]
    refine wp_store_blk 158 (.tmp 5) (.tmp 17) rfl _ _ (stC ⟨true, p, q, List.replicate 16 ab0⟩) 158 rfl rfl F10.2 (zst_size.trans (st_size (s := ⟨true, p, q, List.replicate 16 ab0⟩) lB).symm) (st_inf lB) st_one ?_
    intro V11 F11 N11
    have G11 := F10.1
    refine hK.out _ _ (J10.trans (N11.below _ G11 J10.size)) (fun J11 => ?_)
    clear hK K
    try simp only [Act.put]
    refine wpAnyH_done (by kernel_rfl) ?_ _
    exact ⟨rfl, _, rfl, J11, G11, F11⟩
  · rintro g V ⟨hV, hg, hF⟩
    rename_i K0 hK0
    refine hK0 _ _ ?_
    clear hK0 K0 hB0 HS Cp Cq
    rw [← h0] at hF
    have J : BS w g V a b (bothK a b 0) := ⟨ka.below hV ka.lt, kb.below hV kb.lt, kr0.below hV kr0.lt, hF, by omega, B0.trans (hV.mono B0.size)⟩
    clear h0 hF ka kb ka0 kb0 kr0 hV B0 hz hg
    go_wp2_with fail
    go_loopw [18] (fun i wr => ∃ k : Nat, k ≤ 16 ∧ i = .int .i64 k ∧ BS w g wr a b (bothK a b k)) (fun i _ => 16 - (intOf i).toNat)
    case atStart => exact ⟨0, by omega, rfl, J⟩
    case round =>
      obtain ⟨k, hk, rfl, Jk⟩ := hrel
      by_cases hlt : k < 16
      · have hlt' : (k : Int) < 16 := by omega
        have C := fun V => alike_raw (a.m.getD k ab0) (b.m.getD k ab0) V
        have hst := bothK_step a b k
        have hlk := bothK_len a b k
        have hma := fun (s' : Sig (fun V => BS w g V a b (bothK a b k))) => st_m s'.h.ka la hlt
        have hmb := fun (s' : Sig (fun V => BS w g V a b (bothK a b k))) => st_m s'.h.kb lb hlt
        obtain ⟨u, hu⟩ : ∃ u, a.m.getD k ab0 = u := ⟨_, rfl⟩
        obtain ⟨v, hv⟩ : ∃ v, b.m.getD k ab0 = v := ⟨_, rfl⟩
        rw [hu, hv] at C hst
        simp only [hu] at hma
        simp only [hv] at hmb
        obtain ⟨r, hr⟩ : ∃ r, alikeA u v = r := ⟨_, rfl⟩
        rw [hr] at C hst
        have HST := Lib.hid hst
        have C' := Lib.hid (calls_keep (S := fun V => BS w g V a b (bothK a b k)) (fun V V' h hb => h.below hb) (fun V _ => C V))
        clear hu hv hr hst C
        go_wp2_with fail
        have J0 := Jk.drew
        have hS1 := fun s' => (hma s').1
        have hS2 := fun s' => (hma s').2
        have hS3 := fun s' => (hmb s').1
        have hS4 := fun s' => (hmb s').2
        clear hma hmb
        have hne : Nonempty (Sig (fun V => BS w g V a b (bothK a b k))) := ⟨⟨_, J0⟩⟩
        refine region_class_tail (S := fun V => BS w g V a b (bothK a b k)) 12 (by kernel_rfl) (by kernel_rfl) J0 ?_
        simp only [List.take_succ_cons, List.take_zero, List.drop_succ_cons, List.drop_zero]
        repeat (go_big_quiet_step (first | (go_at_call 140; exact class_call _ C'.out)))
        refine wpQuiet_nil ?_
        rintro ⟨V7, J7⟩
        dsimp only
        clear hS1 hS2 hS3 hS4 hne J0 C' Jk J
        go_wp2_with (refine wpList_store_ab rfl 139 (.tmp 32) (.tmp 30) rfl g (5 + k * 2) (stC (bothK a b k)) 158 r _ rfl rfl J7.kj (by rw [st_size hlk]; omega) ab_inf (st_sm k r) ?_; intro w3 hw3 hn3; have J8 := J7.set_ hw3 hn3; clear hw3 hn3 J7)
        rw [HST.out] at J8
        go_roundw
        case rel => exact ⟨k + 1, by omega, by go_num, J8⟩
        case measure => simp [intOf]; omega
      · obtain rfl : k = 16 := by omega
        have hlk := bothK_len a b 16
        go_wp2_with (first
          | (refine wpList_load_row rfl 158 (.tmp 5) rfl g rfl 158 (stC (bothK a b 16)) (0, 0) _ Jk.kj.blk Tryz.underlying158 rfl (st_inf hlk) ?_)
          | (refine wpList_store_blk rfl 158 (.tmp 4) (.tmp 34) rfl (w.heap.size + 1 + 1) _ (stC (bothK a b 16)) 158 rfl rfl Jk.kr (zst_size.trans (st_size (s := bothK a b 16) hlk).symm) (st_inf hlk) st_one ?_; intro w9 hw9 hn9))
        refine bodyPost_ret (v := stV (bothK a b 16)) (results_cell_row rfl _ w9 (w.heap.size + 1 + 1) 158 (stC (bothK a b 16)) (0, 0) _ rfl hw9.blk Tryz.underlying158 rfl (st_inf hlk)) rfl ⟨rfl, ?_⟩
        exact Jk.old.trans (hn9.below _ (by omega) Jk.old.size)
structure Jst (w V : World) (a b : StS) : Prop where
  ka : Blk V w.heap.size (stC a) 158
  kb : Blk V (w.heap.size + 1) (stC b) 158
  kr : Blk V (w.heap.size + 1 + 1) zstL 158
  ku : Blk V (w.heap.size + 1 + 1 + 1) zstL 158
  old : Below w.heap.size w V
theorem Jst.new (w : World) (a b : StS) : Jst w ((((w.alloc (.cells (stC a) 158)).alloc (.cells (stC b) 158)).alloc (.cells zstL 158)).alloc (.cells zstL 158)) a b :=
  ⟨(((Blk.new w _ _).alloc _).alloc _).alloc _, ((Blk.new_ _ _ _ (by simp)).alloc _).alloc _, (Blk.new_ _ _ _ (by simp)).alloc _, Blk.new_ _ _ _ (by simp),
    ((((Below.refl w.heap.size w).alloc (Nat.le_refl _) _).alloc (by simp) _).alloc (by simp; omega) _).alloc (by simp; omega) _⟩
theorem Jst.below {w V V' : World} {a b : StS} (h : Jst w V a b) (hb : Below V.heap.size V V') : Jst w V' a b :=
  ⟨h.ka.below hb h.ka.lt, h.kb.below hb h.kb.lt, h.kr.below hb h.kr.lt, h.ku.below hb h.ku.lt, h.old.trans (hb.mono h.old.size)⟩
theorem jst_res {s : StS} (hl : s.m.length = 16) {w3 : World} {g : Nat} (tmps : Array Value) (hp : tmps.getD 6 undef = .pointer (some ⟨g, 0, none⟩)) (h : Blk w3 g (stC s) 158) :
    (results Tryz.f128 tmps).run Tryz.prog w3 = .ok (stV s) w3 :=
  results_cell_row rfl tmps w3 g 158 (stC s) (0, 0) _ hp h.blk Tryz.underlying158 rfl (st_inf hl)
set_option maxRecDepth 100000 in
set_option maxHeartbeats 1000000 in
theorem jst_1 (a b : StS) (la : a.m.length = 16) (lb : b.m.length = 16) (w : World) (h : a = st0) :
    Calls Tryz.prog 128 #[stV a, stV b, .func (.func 129) #[] #[]] w fun e w' => e = .returned (stV b) ∧ Below w.heap.size w w' := by
  have J := Jst.new w a b
  unfold stV
  have E1 := Lib.hid (fun w => run_eql_st' la st0_len true (decide_eq_true h) w)
  clear h
  have ku := (zst_st0 ▸ J.ku)
  go_enter Tryz.func128, Tryz.ntmps128
  go_wp2_with (first
    | (refine wpList_load_row rfl 158 (.tmp 3) rfl w.heap.size rfl 158 (stC a) (0, 0) _ J.ka.blk Tryz.underlying158 rfl (st_inf la) ?_)
    | (refine wpList_load_row rfl 158 (.tmp 4) rfl (w.heap.size + 1) rfl 158 (stC b) (0, 0) _ J.kb.blk Tryz.underlying158 rfl (st_inf lb) ?_)
    | (refine wpList_load_row rfl 158 (.tmp 7) rfl (w.heap.size + 1 + 1 + 1) rfl 158 (stC st0) (0, 0) _ ku.blk Tryz.underlying158 rfl (st_inf st0_len) ?_)
    | (refine wpList_eql_agg rfl .eql (.inl rfl) 158 (.tmp 9) (.tmp 10) rfl (stC a) (stC st0) rfl rfl st_guard true (E1.out _) ?_)
    | (refine wpList_store_blk rfl 158 (.tmp 6) (.tmp 12) rfl (w.heap.size + 1 + 1) _ (stC b) 158 rfl rfl J.kr (zst_size.trans (st_size (s := b) lb).symm) (st_inf lb) st_one ?_; intro w9 hw9 hn9))
  refine bodyPost_ret (v := stV b) (jst_res (s := b) lb _ rfl hw9) rfl ⟨rfl, ?_⟩
  exact J.old.trans (hn9.below _ (by omega) J.old.size)
set_option maxRecDepth 100000 in
set_option maxHeartbeats 1000000 in
theorem jst_2 (a b : StS) (la : a.m.length = 16) (lb : b.m.length = 16) (w : World) (h : ¬ a = st0) (h' : b = st0) :
    Calls Tryz.prog 128 #[stV a, stV b, .func (.func 129) #[] #[]] w fun e w' => e = .returned (stV a) ∧ Below w.heap.size w w' := by
  have J := Jst.new w a b
  unfold stV
  have E1 := Lib.hid (fun w => run_eql_st' la st0_len false (decide_eq_false h) w)
  have E2 := Lib.hid (fun w => run_eql_st' lb st0_len true (decide_eq_true h') w)
  clear h h'
  have ku := (zst_st0 ▸ J.ku)
  go_enter Tryz.func128, Tryz.ntmps128
  go_wp2_with (first
    | (refine wpList_load_row rfl 158 (.tmp 3) rfl w.heap.size rfl 158 (stC a) (0, 0) _ J.ka.blk Tryz.underlying158 rfl (st_inf la) ?_)
    | (refine wpList_load_row rfl 158 (.tmp 4) rfl (w.heap.size + 1) rfl 158 (stC b) (0, 0) _ J.kb.blk Tryz.underlying158 rfl (st_inf lb) ?_)
    | (refine wpList_load_row rfl 158 (.tmp 7) rfl (w.heap.size + 1 + 1 + 1) rfl 158 (stC st0) (0, 0) _ ku.blk Tryz.underlying158 rfl (st_inf st0_len) ?_)
    | (refine wpList_eql_agg rfl .eql (.inl rfl) 158 (.tmp 9) (.tmp 10) rfl (stC a) (stC st0) rfl rfl st_guard false (E1.out _) ?_)
    | (refine wpList_eql_agg rfl .eql (.inl rfl) 158 (.tmp 14) (.tmp 15) rfl (stC b) (stC st0) rfl rfl st_guard true (E2.out _) ?_)
    | (refine wpList_store_blk rfl 158 (.tmp 6) (.tmp 17) rfl (w.heap.size + 1 + 1) _ (stC a) 158 rfl rfl J.kr (zst_size.trans (st_size (s := a) la).symm) (st_inf la) st_one ?_; intro w9 hw9 hn9))
  refine bodyPost_ret (v := stV a) (jst_res (s := a) la _ rfl hw9) rfl ⟨rfl, ?_⟩
  exact J.old.trans (hn9.below _ (by omega) J.old.size)
set_option maxRecDepth 100000 in
set_option maxHeartbeats 1000000 in
theorem jst_3 (a b : StS) (la : a.m.length = 16) (lb : b.m.length = 16) (w : World) (h : ¬ a = st0) (h' : ¬ b = st0) :
    Calls Tryz.prog 128 #[stV a, stV b, .func (.func 129) #[] #[]] w fun e w' => e = .returned (stV (bothS a b)) ∧ Below w.heap.size w w' := by
  have J := Jst.new w a b
  unfold stV
  have E1 := Lib.hid (fun w => run_eql_st' la st0_len false (decide_eq_false h) w)
  have E2 := Lib.hid (fun w => run_eql_st' lb st0_len false (decide_eq_false h') w)
  clear h h'
  have ku := (zst_st0 ▸ J.ku)
  have C := fun V => bothS_any a b la lb V
  unfold stV at C
  have lj := both_len a b
  obtain ⟨j, hj⟩ : ∃ j, bothS a b = j := ⟨_, rfl⟩
  rw [hj] at C ⊢
  rw [hj] at lj
  clear hj
  go_enter Tryz.func128, Tryz.ntmps128
  go_wp2_with (first
    | (refine wpList_load_row rfl 158 (.tmp 3) rfl w.heap.size rfl 158 (stC a) (0, 0) _ J.ka.blk Tryz.underlying158 rfl (st_inf la) ?_)
    | (refine wpList_load_row rfl 158 (.tmp 4) rfl (w.heap.size + 1) rfl 158 (stC b) (0, 0) _ J.kb.blk Tryz.underlying158 rfl (st_inf lb) ?_)
    | (refine wpList_load_row rfl 158 (.tmp 7) rfl (w.heap.size + 1 + 1 + 1) rfl 158 (stC st0) (0, 0) _ ku.blk Tryz.underlying158 rfl (st_inf st0_len) ?_)
    | (refine wpList_eql_agg rfl .eql (.inl rfl) 158 (.tmp 9) (.tmp 10) rfl (stC a) (stC st0) rfl rfl st_guard false (E1.out _) ?_)
    | (refine wpList_eql_agg rfl .eql (.inl rfl) 158 (.tmp 14) (.tmp 15) rfl (stC b) (stC st0) rfl rfl st_guard false (E2.out _) ?_))
  refine (C _).mono ?_
  rintro e w4 ⟨rfl, b4⟩
  have J2 := J.below b4
  clear b4 J ku
  go_wp2_with (refine wpList_store_blk rfl 158 (.tmp 6) (.tmp 21) rfl (w.heap.size + 1 + 1) _ (stC j) 158 rfl rfl J2.kr (zst_size.trans (st_size (s := j) lj).symm) (st_inf lj) st_one ?_; intro w9 hw9 hn9)
  refine bodyPost_ret (v := stV j) (jst_res (s := j) lj _ rfl hw9) rfl ⟨rfl, ?_⟩
  exact J2.old.trans (hn9.below _ (by omega) J2.old.size)
theorem join_st (a b : StS) (la : a.m.length = 16) (lb : b.m.length = 16) (w : World) :
    Calls Tryz.prog 128 #[stV a, stV b, .func (.func 129) #[] #[]] w fun e w' => e = .returned (stV (joinS a b)) ∧ Below w.heap.size w w' := by
  unfold joinS
  by_cases h : a = st0
  · rw [if_pos h]
    exact jst_1 a b la lb w h
  · rw [if_neg h]
    by_cases h' : b = st0
    · rw [if_pos h']
      exact jst_2 a b la lb w h h'
    · rw [if_neg h']
      exact jst_3 a b la lb w h h'
end Go.Proofs.YtelfdpcenplhjaaGreatDoor
namespace Go.Proofs.YtelfdpcenplhjaaGreatDoor
open Go.RowKit
set_option linter.unusedVariables false
set_option linter.unusedSimpArgs false
def begK (k : Nat) : StS := ⟨true, sureA 0, sureA 0, (List.range 16).map fun i => if i < k then sureA 0 else ab0⟩
theorem begK_len (k : Nat) : (begK k).m.length = 16 := by simp [begK]
theorem begK_0 : begK 0 = ⟨true, sureA 0, sureA 0, List.replicate 16 ab0⟩ := rfl
theorem begK_end : begK 16 = stB := rfl
theorem begK_step (k : Nat) : { begK k with m := (begK k).m.set k (sureA 0) } = begK (k + 1) := by
  have hm : (begK k).m.set k (sureA 0) = (begK (k + 1)).m := ?_
  · show StS.mk true _ _ _ = begK (k + 1)
    rw [hm]
    rfl
  unfold begK
  apply List.ext_getElem?
  intro i
  rw [List.getElem?_set]
  simp only [List.length_map, List.length_range, List.getElem?_map]
  by_cases h : k = i
  · subst h
    by_cases h16 : k < 16
    · simp [h16]
    · simp [h16]
  · rw [if_neg h]
    by_cases h16 : i < 16
    · simp only [List.getElem?_range h16, Option.map_some, Option.some.injEq]
      by_cases hk : i < k
      · rw [if_pos hk, if_pos (by omega)]
      · rw [if_neg hk, if_neg (by omega)]
    · simp [h16]
structure GS (w : World) (g : Nat) (V : World) (j : StS) : Prop where
  kr : Blk V w.heap.size zstL 158
  kj : Blk V g (stC j) 158
  hg : w.heap.size < g
  old : Below w.heap.size w V
section
variable {w V V' : World} {g : Nat} {j j' : StS}
theorem GS.below (h : GS w g V j) (hb : Below V.heap.size V V') : GS w g V' j :=
  ⟨h.kr.below hb h.kr.lt, h.kj.below hb h.kj.lt, h.hg, h.old.trans (hb.mono h.old.size)⟩
theorem GS.set_ (h : GS w g V j) (k : Blk V' g (stC j') 158) (n : But g V V') : GS w g V' j' :=
  have := h.hg
  ⟨n.blk' h.kr (by omega), k, h.hg, h.old.trans (n.below w.heap.size (by omega) h.old.size)⟩
end
set_option maxRecDepth 100000 in
set_option maxHeartbeats 4000000 in
theorem beginning_any (w : World) : Calls Tryz.prog 123 #[] w fun e w' => e = .returned (stV stB) ∧ Below w.heap.size w w' := by
  have B0 := (Below.refl w.heap.size w).alloc (Nat.le_refl _) (.cells zstL 158)
  have R0 := Blk.new w zstL 158
  have U := fun V => sure_raw 0 V
  have hE := begK_end
  have h0 := Lib.hid begK_0
  rw [← hE]
  clear hE
  unfold stV
  go_enter Tryz.func123, Tryz.ntmps123
  go_wp2_with fail
  refine (U _).mono ?_
  rintro e w1 ⟨rfl, b1⟩
  have R1 := R0.below b1 R0.lt
  have B1 := B0.trans (b1.mono B0.size)
  clear R0 B0 b1
  go_wp2_with fail
  refine (U _).mono ?_
  rintro e w2 ⟨rfl, b2⟩
  have R2 := R1.below b2 R1.lt
  have B2 := B1.trans (b2.mono B1.size)
  clear R1 B1 b2
  go_wp2_with (refine wpList_store_blk rfl 158 (.tmp 1) (.tmp 5) rfl w2.heap.size zstL (stC ⟨true, sureA 0, sureA 0, List.replicate 16 ab0⟩) 158 rfl rfl (Blk.new_ _ _ _ rfl) rfl (st_inf (s := ⟨true, sureA 0, sureA 0, List.replicate 16 ab0⟩) (by simp)) st_one ?_
               intro w3 hw3 hn3
               rw [← h0.out] at hw3
               have J : GS w w2.heap.size w3 (begK 0) := ⟨(hn3.blk' (R2.alloc _) (by have := R2.lt; omega)), hw3, R2.lt, (B2.alloc B2.size _).trans (hn3.below _ B2.size (by have := B2.size; simp; omega))⟩
               clear hn3 hw3 R2 B2)
  generalize w2.heap.size = g at J ⊢
  go_loopw [6] (fun i wr => ∃ k : Nat, k ≤ 16 ∧ i = .int .i64 k ∧ GS w g wr (begK k)) (fun i _ => 16 - (intOf i).toNat)
  case atStart => exact ⟨0, by omega, rfl, J⟩
  case round =>
    obtain ⟨k, hk, rfl, Jk⟩ := hrel
    by_cases hlt : k < 16
    · have hlt' : (k : Int) < 16 := by omega
      have HST := Lib.hid (begK_step k)
      have hlk := begK_len k
      go_wp2_with fail
      refine (U _).mono ?_
      rintro e w5 ⟨rfl, b5⟩
      have J7 := Jk.below b5
      clear b5 Jk J
      go_wp2_with (refine wpList_store_ab rfl 139 (.tmp 12) (.tmp 10) rfl g (5 + k * 2) (stC (begK k)) 158 (sureA 0) _ rfl rfl J7.kj (by rw [st_size hlk]; omega) ab_inf (st_sm k _) ?_; intro w6 hw6 hn6; have J8 := J7.set_ hw6 hn6; clear hw6 hn6 J7)
      rw [HST.out] at J8
      go_roundw
      case rel => exact ⟨k + 1, by omega, by go_num, J8⟩
      case measure => simp [intOf]; omega
    · obtain rfl : k = 16 := by omega
      have hlk := begK_len 16
      go_wp2_with (first
        | (refine wpList_load_row rfl 158 (.tmp 1) rfl g rfl 158 (stC (begK 16)) (0, 0) _ Jk.kj.blk Tryz.underlying158 rfl (st_inf hlk) ?_)
        | (refine wpList_store_blk rfl 158 (.tmp 0) (.tmp 14) rfl w.heap.size _ (stC (begK 16)) 158 rfl rfl Jk.kr (zst_size.trans (st_size (s := begK 16) hlk).symm) (st_inf hlk) st_one ?_; intro w9 hw9 hn9))
      refine bodyPost_ret (v := stV (begK 16)) (results_cell_row rfl _ w9 w.heap.size 158 (stC (begK 16)) (0, 0) _ rfl hw9.blk Tryz.underlying158 rfl (st_inf hlk)) rfl ⟨rfl, ?_⟩
      exact Jk.old.trans (hn9.below _ (by omega) Jk.old.size)
end Go.Proofs.YtelfdpcenplhjaaGreatDoor
namespace Go.Proofs.YtelfdpcenplhjaaGreatDoor
open Go.RowKit
set_option linter.unusedVariables false
theorem nmb_ld_abs : nmB [108, 100, 46, 97, 98, 115] 32 = true := by decide +kernel
theorem nmb_ld_len : nmB [108, 100, 46, 108, 101, 110] 128 = true := by decide +kernel
theorem nmb_ldx_len : nmB [108, 100, 120, 46, 108, 101, 110] 129 = true := by decide +kernel
theorem nmb_ld_imm : nmB [108, 100, 46, 105, 109, 109] 0 = true := by decide +kernel
theorem nmb_ldx_imm : nmB [108, 100, 120, 46, 105, 109, 109] 1 = true := by decide +kernel
theorem nmb_ld_mem : nmB [108, 100, 46, 109, 101, 109] 96 = true := by decide +kernel
theorem nmb_ldx_mem : nmB [108, 100, 120, 46, 109, 101, 109] 97 = true := by decide +kernel
theorem nmb_st : nmB [115, 116] 2 = true := by decide +kernel
theorem nmb_stx : nmB [115, 116, 120] 3 = true := by decide +kernel
theorem nmb_tax : nmB [116, 97, 120] 7 = true := by decide +kernel
theorem nmb_txa : nmB [116, 120, 97] 135 = true := by decide +kernel
structure BJ (w V : World) (q : Ins) (s : StS) (nr arch : Int) : Prop where
  ki : Blk V w.heap.size (celI q).toArray 111
  ks : Blk V (w.heap.size + 1) (stC s) 158
  kc : Blk V (w.heap.size + 1 + 1) #[.int .u32 nr, .int .u32 arch] 196
  kr : Blk V (w.heap.size + 1 + 1 + 1) zstL 158
  kk : Kinds V
  kb : 1 < w.heap.size
  old : Below w.heap.size w V
section
variable {w V V' : World} {q : Ins} {s s' : StS} {nr arch : Int}
theorem BJ.below (h : BJ w V q s nr arch) (hb : Below V.heap.size V V') : BJ w V' q s nr arch :=
  ⟨h.ki.below hb h.ki.lt, h.ks.below hb h.ks.lt, h.kc.below hb h.kc.lt, h.kr.below hb h.kr.lt, h.kk.below hb h.kk.pos, h.kb, h.old.trans (hb.mono h.old.size)⟩
theorem BJ.set_ (h : BJ w V q s nr arch) (k : Blk V' (w.heap.size + 1) (stC s') 158) (n : But (w.heap.size + 1) V V') : BJ w V' q s' nr arch :=
  ⟨n.blk' h.ki (by omega), k, n.blk' h.kc (by omega), n.blk' h.kr (by omega), h.kk.below (n.below w.heap.size (by omega) h.old.size) h.kb, h.kb, h.old.trans (n.below w.heap.size (by omega) h.old.size)⟩
theorem BJ.new (w : World) (hK : Kinds w) (q : Ins) (s : StS) (nr arch : Int) : BJ w ((((w.alloc (.cells (celI q).toArray 111)).alloc (.cells (stC s) 158)).alloc (.cells #[.int .u32 nr, .int .u32 arch] 196)).alloc (.cells zstL 158)) q s nr arch :=
  have B := (((((Below.refl w.heap.size w).alloc (Nat.le_refl _) (.cells (celI q).toArray 111)).alloc (by simp) (.cells (stC s) 158)).alloc (by simp; omega) (.cells #[.int .u32 nr, .int .u32 arch] 196)).alloc (by simp; omega) (.cells zstL 158))
  ⟨(((Blk.new w _ _).alloc _).alloc _).alloc _, ((Blk.new_ _ _ _ (by simp)).alloc _).alloc _, (Blk.new_ _ _ _ (by simp)).alloc _, Blk.new_ _ _ _ (by simp), hK.below B hK.pos, hK.pos, B⟩
theorem BJ.cells (h : BJ w V q s nr arch) : V.cell? ⟨w.heap.size, 0, none⟩ = some (.int .u16 q.1) ∧ V.cell? ⟨w.heap.size, 1, none⟩ = some (.int .u8 q.2.1) ∧ V.cell? ⟨w.heap.size, 2, none⟩ = some (.int .u8 q.2.2.1) ∧ V.cell? ⟨w.heap.size, 3, none⟩ = some (.int .u32 q.2.2.2) :=
  ⟨h.ki.cell 0, h.ki.cell 1, h.ki.cell 2, h.ki.cell 3⟩
theorem BJ.abs (h : BJ w V q s nr arch) : V.cell? ⟨w.heap.size + 1, 1, none⟩ = some (.bool s.a.k) ∧ V.cell? ⟨w.heap.size + 1, 2, none⟩ = some (.int .u32 s.a.v) ∧ V.cell? ⟨w.heap.size + 1, 3, none⟩ = some (.bool s.x.k) ∧ V.cell? ⟨w.heap.size + 1, 4, none⟩ = some (.int .u32 s.x.v) :=
  ⟨(h.ks.cell 1).trans st_1, (h.ks.cell 2).trans st_2, (h.ks.cell 3).trans st_3, (h.ks.cell 4).trans st_4⟩
theorem BJ.call (h : BJ w V q s nr arch) : V.cell? ⟨w.heap.size + 1 + 1, 0, none⟩ = some (.int .u32 nr) ∧ V.cell? ⟨w.heap.size + 1 + 1, 1, none⟩ = some (.int .u32 arch) := ⟨h.kc.cell 0, h.kc.cell 1⟩
theorem BJ.mem (h : BJ w V q s nr arch) (hl : s.m.length = 16) {k : Nat} (hk : k < 16) : V.cell? ⟨w.heap.size + 1, 5 + k * 2, none⟩ = some (.bool (s.m.getD k ab0).k) ∧ V.cell? ⟨w.heap.size + 1, 5 + k * 2 + 1, none⟩ = some (.int .u32 (s.m.getD k ab0).v) :=
  ⟨(h.ks.cell _).trans (st_5 hl hk).1, (h.ks.cell _).trans (st_5 hl hk).2⟩
theorem bbeh_res {w3 : World} {g : Nat} (hl : s.m.length = 16) (tmps : Array Value) (hp : tmps.getD 6 undef = .pointer (some ⟨g, 0, none⟩)) (h : Blk w3 g (stC s) 158) :
    (results Tryz.f142 tmps).run Tryz.prog w3 = .ok (stV s) w3 :=
  results_cell_row rfl tmps w3 g 158 (stC s) (0, 0) _ hp h.blk Tryz.underlying158 rfl (st_inf hl)
end
set_option maxRecDepth 100000 in
set_option maxHeartbeats 1000000 in
theorem beh_0 (c y z : Int) (k : Int) (hq : InsOk c y z k) (nr arch : Int) (s : StS) (hs : StOk s) (w : World) (hK : Kinds w) (hc : c = 32) :
    Calls Tryz.prog 142 #[insV c y z k, stV s, .agg #[.int .u32 nr, .int .u32 arch]] w fun e w' => e = .returned (stV { s with a := seenA nr arch k }) ∧ Below w.heap.size w w' := by
  have N := fun V (h : Kinds V) => name_any c V h
  have n0 := name_is nmb_ld_abs c
  have J := BJ.new w hK (c, y, z, k) s nr arch
  have hl := hs.len
  unfold insV stV at *
  obtain ⟨⟨r, t⟩, hr⟩ : ∃ r, nameOf c = r := ⟨_, rfl⟩
  rw [hr] at N n0
  simp only at N n0
  have N' := N _ J.kk
  have i0 := J.cells.1
  simp only at i0
  have m0 : r.toList = [108, 100, 46, 97, 98, 115] := by simpa [hc] using n0
  clear N hr hs n0 hc
  go_enter Tryz.func142, Tryz.ntmps142
  go_wp2_with fail
  refine N'.mono ?_
  rintro e w' ⟨rfl, hb⟩
  have J1 := J.below hb
  obtain ⟨i0, _, _, i3⟩ := J1.cells
  obtain ⟨a1, a2, a3, a4⟩ := J1.abs
  simp only at i0 i3
  clear J hb N'
  obtain ⟨c0, c1⟩ := J1.call
  go_wp2_with fail
  refine (seen_any k nr arch _).mono ?_
  rintro e w4 ⟨rfl, b4⟩
  have J2 := J1.below b4
  clear J1 b4
  have hl' : { s with a := seenA nr arch k }.m.length = 16 := hl
  go_wp2_with (first
    | (refine wpList_store_ab rfl 139 (.tmp 30) (.tmp 29) rfl (w.heap.size + 1) 1 (stC s) 158 (seenA nr arch k) _ rfl rfl J2.ks (by rw [st_size hl]; omega) ab_inf (st_sa _) ?_; intro w3 hw3 hn3; have J3 := J2.set_ hw3 hn3; clear hw3 hn3 J2)
    | (refine wpList_load_row rfl 158 (.tmp 4) rfl (w.heap.size + 1) rfl 158 (stC { s with a := seenA nr arch k }) (0, 0) _ J3.ks.blk Tryz.underlying158 rfl (st_inf hl') ?_)
    | (refine wpList_store_blk rfl 158 (.tmp 6) (.tmp 93) rfl (w.heap.size + 1 + 1 + 1) _ (stC { s with a := seenA nr arch k }) 158 rfl rfl J3.kr (zst_size.trans (st_size (s := { s with a := seenA nr arch k }) hl').symm) (st_inf hl') st_one ?_; intro w5 hw5 hn5))
  refine bodyPost_ret (v := stV { s with a := seenA nr arch k }) (bbeh_res (s := { s with a := seenA nr arch k }) hl' _ rfl hw5) rfl ⟨rfl, ?_⟩
  exact J3.old.trans (hn5.below _ (by omega) J3.old.size)
set_option maxRecDepth 100000 in
set_option maxHeartbeats 1000000 in
theorem beh_1 (c y z : Int) (k : Int) (hq : InsOk c y z k) (nr arch : Int) (s : StS) (hs : StOk s) (w : World) (hK : Kinds w) (hc : c = 128) :
    Calls Tryz.prog 142 #[insV c y z k, stV s, .agg #[.int .u32 nr, .int .u32 arch]] w fun e w' => e = .returned (stV { s with a := sureA 64 }) ∧ Below w.heap.size w w' := by
  have N := fun V (h : Kinds V) => name_any c V h
  have n0 := name_is nmb_ld_abs c
  have n1 := name_is nmb_ld_len c
  have J := BJ.new w hK (c, y, z, k) s nr arch
  have hl := hs.len
  unfold insV stV at *
  obtain ⟨⟨r, t⟩, hr⟩ : ∃ r, nameOf c = r := ⟨_, rfl⟩
  rw [hr] at N n0 n1
  simp only at N n0 n1
  have N' := N _ J.kk
  have i0 := J.cells.1
  simp only at i0
  have m0 : (r.toList == [108, 100, 46, 97, 98, 115]) = false := by simpa [hc] using n0
  have m1 : r.toList = [108, 100, 46, 108, 101, 110] := by simpa [hc] using n1
  clear N hr hs n0 n1 hc
  go_enter Tryz.func142, Tryz.ntmps142
  go_wp2_with fail
  refine N'.mono ?_
  rintro e w' ⟨rfl, hb⟩
  have J1 := J.below hb
  obtain ⟨i0, _, _, i3⟩ := J1.cells
  obtain ⟨a1, a2, a3, a4⟩ := J1.abs
  simp only at i0 i3
  clear J hb N'
  go_wp2_with fail
  refine (sure_any 64 _).mono ?_
  rintro e w4 ⟨rfl, b4⟩
  have J2 := J1.below b4
  clear J1 b4
  have hl' : { s with a := sureA 64 }.m.length = 16 := hl
  go_wp2_with (first
    | (refine wpList_store_ab rfl 139 (.tmp 34) (.tmp 33) rfl (w.heap.size + 1) 1 (stC s) 158 (sureA 64) _ rfl rfl J2.ks (by rw [st_size hl]; omega) ab_inf (st_sa _) ?_; intro w3 hw3 hn3; have J3 := J2.set_ hw3 hn3; clear hw3 hn3 J2)
    | (refine wpList_load_row rfl 158 (.tmp 4) rfl (w.heap.size + 1) rfl 158 (stC { s with a := sureA 64 }) (0, 0) _ J3.ks.blk Tryz.underlying158 rfl (st_inf hl') ?_)
    | (refine wpList_store_blk rfl 158 (.tmp 6) (.tmp 93) rfl (w.heap.size + 1 + 1 + 1) _ (stC { s with a := sureA 64 }) 158 rfl rfl J3.kr (zst_size.trans (st_size (s := { s with a := sureA 64 }) hl').symm) (st_inf hl') st_one ?_; intro w5 hw5 hn5))
  refine bodyPost_ret (v := stV { s with a := sureA 64 }) (bbeh_res (s := { s with a := sureA 64 }) hl' _ rfl hw5) rfl ⟨rfl, ?_⟩
  exact J3.old.trans (hn5.below _ (by omega) J3.old.size)
set_option maxRecDepth 100000 in
set_option maxHeartbeats 1000000 in
theorem beh_2 (c y z : Int) (k : Int) (hq : InsOk c y z k) (nr arch : Int) (s : StS) (hs : StOk s) (w : World) (hK : Kinds w) (hc : c = 129) :
    Calls Tryz.prog 142 #[insV c y z k, stV s, .agg #[.int .u32 nr, .int .u32 arch]] w fun e w' => e = .returned (stV { s with x := sureA 64 }) ∧ Below w.heap.size w w' := by
  have N := fun V (h : Kinds V) => name_any c V h
  have n0 := name_is nmb_ld_abs c
  have n1 := name_is nmb_ld_len c
  have n2 := name_is nmb_ldx_len c
  have J := BJ.new w hK (c, y, z, k) s nr arch
  have hl := hs.len
  unfold insV stV at *
  obtain ⟨⟨r, t⟩, hr⟩ : ∃ r, nameOf c = r := ⟨_, rfl⟩
  rw [hr] at N n0 n1 n2
  simp only at N n0 n1 n2
  have N' := N _ J.kk
  have i0 := J.cells.1
  simp only at i0
  have m0 : (r.toList == [108, 100, 46, 97, 98, 115]) = false := by simpa [hc] using n0
  have m1 : (r.toList == [108, 100, 46, 108, 101, 110]) = false := by simpa [hc] using n1
  have m2 : r.toList = [108, 100, 120, 46, 108, 101, 110] := by simpa [hc] using n2
  clear N hr hs n0 n1 n2 hc
  go_enter Tryz.func142, Tryz.ntmps142
  go_wp2_with fail
  refine N'.mono ?_
  rintro e w' ⟨rfl, hb⟩
  have J1 := J.below hb
  obtain ⟨i0, _, _, i3⟩ := J1.cells
  obtain ⟨a1, a2, a3, a4⟩ := J1.abs
  simp only at i0 i3
  clear J hb N'
  go_wp2_with fail
  refine (sure_any 64 _).mono ?_
  rintro e w4 ⟨rfl, b4⟩
  have J2 := J1.below b4
  clear J1 b4
  have hl' : { s with x := sureA 64 }.m.length = 16 := hl
  go_wp2_with (first
    | (refine wpList_store_ab rfl 139 (.tmp 38) (.tmp 37) rfl (w.heap.size + 1) 3 (stC s) 158 (sureA 64) _ rfl rfl J2.ks (by rw [st_size hl]; omega) ab_inf (st_sx _) ?_; intro w3 hw3 hn3; have J3 := J2.set_ hw3 hn3; clear hw3 hn3 J2)
    | (refine wpList_load_row rfl 158 (.tmp 4) rfl (w.heap.size + 1) rfl 158 (stC { s with x := sureA 64 }) (0, 0) _ J3.ks.blk Tryz.underlying158 rfl (st_inf hl') ?_)
    | (refine wpList_store_blk rfl 158 (.tmp 6) (.tmp 93) rfl (w.heap.size + 1 + 1 + 1) _ (stC { s with x := sureA 64 }) 158 rfl rfl J3.kr (zst_size.trans (st_size (s := { s with x := sureA 64 }) hl').symm) (st_inf hl') st_one ?_; intro w5 hw5 hn5))
  refine bodyPost_ret (v := stV { s with x := sureA 64 }) (bbeh_res (s := { s with x := sureA 64 }) hl' _ rfl hw5) rfl ⟨rfl, ?_⟩
  exact J3.old.trans (hn5.below _ (by omega) J3.old.size)
set_option maxRecDepth 100000 in
set_option maxHeartbeats 1000000 in
theorem beh_3 (c y z : Int) (k : Int) (hq : InsOk c y z k) (nr arch : Int) (s : StS) (hs : StOk s) (w : World) (hK : Kinds w) (hc : c = 0) :
    Calls Tryz.prog 142 #[insV c y z k, stV s, .agg #[.int .u32 nr, .int .u32 arch]] w fun e w' => e = .returned (stV { s with a := sureA k }) ∧ Below w.heap.size w w' := by
  have N := fun V (h : Kinds V) => name_any c V h
  have n0 := name_is nmb_ld_abs c
  have n1 := name_is nmb_ld_len c
  have n2 := name_is nmb_ldx_len c
  have n3 := name_is nmb_ld_imm c
  have J := BJ.new w hK (c, y, z, k) s nr arch
  have hl := hs.len
  unfold insV stV at *
  obtain ⟨⟨r, t⟩, hr⟩ : ∃ r, nameOf c = r := ⟨_, rfl⟩
  rw [hr] at N n0 n1 n2 n3
  simp only at N n0 n1 n2 n3
  have N' := N _ J.kk
  have i0 := J.cells.1
  simp only at i0
  have m0 : (r.toList == [108, 100, 46, 97, 98, 115]) = false := by simpa [hc] using n0
  have m1 : (r.toList == [108, 100, 46, 108, 101, 110]) = false := by simpa [hc] using n1
  have m2 : (r.toList == [108, 100, 120, 46, 108, 101, 110]) = false := by simpa [hc] using n2
  have m3 : r.toList = [108, 100, 46, 105, 109, 109] := by simpa [hc] using n3
  clear N hr hs n0 n1 n2 n3 hc
  go_enter Tryz.func142, Tryz.ntmps142
  go_wp2_with fail
  refine N'.mono ?_
  rintro e w' ⟨rfl, hb⟩
  have J1 := J.below hb
  obtain ⟨i0, _, _, i3⟩ := J1.cells
  obtain ⟨a1, a2, a3, a4⟩ := J1.abs
  simp only at i0 i3
  clear J hb N'
  go_wp2_with fail
  refine (sure_any k _).mono ?_
  rintro e w4 ⟨rfl, b4⟩
  have J2 := J1.below b4
  clear J1 b4
  have hl' : { s with a := sureA k }.m.length = 16 := hl
  go_wp2_with (first
    | (refine wpList_store_ab rfl 139 (.tmp 44) (.tmp 43) rfl (w.heap.size + 1) 1 (stC s) 158 (sureA k) _ rfl rfl J2.ks (by rw [st_size hl]; omega) ab_inf (st_sa _) ?_; intro w3 hw3 hn3; have J3 := J2.set_ hw3 hn3; clear hw3 hn3 J2)
    | (refine wpList_load_row rfl 158 (.tmp 4) rfl (w.heap.size + 1) rfl 158 (stC { s with a := sureA k }) (0, 0) _ J3.ks.blk Tryz.underlying158 rfl (st_inf hl') ?_)
    | (refine wpList_store_blk rfl 158 (.tmp 6) (.tmp 93) rfl (w.heap.size + 1 + 1 + 1) _ (stC { s with a := sureA k }) 158 rfl rfl J3.kr (zst_size.trans (st_size (s := { s with a := sureA k }) hl').symm) (st_inf hl') st_one ?_; intro w5 hw5 hn5))
  refine bodyPost_ret (v := stV { s with a := sureA k }) (bbeh_res (s := { s with a := sureA k }) hl' _ rfl hw5) rfl ⟨rfl, ?_⟩
  exact J3.old.trans (hn5.below _ (by omega) J3.old.size)
set_option maxRecDepth 100000 in
set_option maxHeartbeats 1000000 in
theorem beh_4 (c y z : Int) (k : Int) (hq : InsOk c y z k) (nr arch : Int) (s : StS) (hs : StOk s) (w : World) (hK : Kinds w) (hc : c = 1) :
    Calls Tryz.prog 142 #[insV c y z k, stV s, .agg #[.int .u32 nr, .int .u32 arch]] w fun e w' => e = .returned (stV { s with x := sureA k }) ∧ Below w.heap.size w w' := by
  have N := fun V (h : Kinds V) => name_any c V h
  have n0 := name_is nmb_ld_abs c
  have n1 := name_is nmb_ld_len c
  have n2 := name_is nmb_ldx_len c
  have n3 := name_is nmb_ld_imm c
  have n4 := name_is nmb_ldx_imm c
  have J := BJ.new w hK (c, y, z, k) s nr arch
  have hl := hs.len
  unfold insV stV at *
  obtain ⟨⟨r, t⟩, hr⟩ : ∃ r, nameOf c = r := ⟨_, rfl⟩
  rw [hr] at N n0 n1 n2 n3 n4
  simp only at N n0 n1 n2 n3 n4
  have N' := N _ J.kk
  have i0 := J.cells.1
  simp only at i0
  have m0 : (r.toList == [108, 100, 46, 97, 98, 115]) = false := by simpa [hc] using n0
  have m1 : (r.toList == [108, 100, 46, 108, 101, 110]) = false := by simpa [hc] using n1
  have m2 : (r.toList == [108, 100, 120, 46, 108, 101, 110]) = false := by simpa [hc] using n2
  have m3 : (r.toList == [108, 100, 46, 105, 109, 109]) = false := by simpa [hc] using n3
  have m4 : r.toList = [108, 100, 120, 46, 105, 109, 109] := by simpa [hc] using n4
  clear N hr hs n0 n1 n2 n3 n4 hc
  go_enter Tryz.func142, Tryz.ntmps142
  go_wp2_with fail
  refine N'.mono ?_
  rintro e w' ⟨rfl, hb⟩
  have J1 := J.below hb
  obtain ⟨i0, _, _, i3⟩ := J1.cells
  obtain ⟨a1, a2, a3, a4⟩ := J1.abs
  simp only at i0 i3
  clear J hb N'
  go_wp2_with fail
  refine (sure_any k _).mono ?_
  rintro e w4 ⟨rfl, b4⟩
  have J2 := J1.below b4
  clear J1 b4
  have hl' : { s with x := sureA k }.m.length = 16 := hl
  go_wp2_with (first
    | (refine wpList_store_ab rfl 139 (.tmp 50) (.tmp 49) rfl (w.heap.size + 1) 3 (stC s) 158 (sureA k) _ rfl rfl J2.ks (by rw [st_size hl]; omega) ab_inf (st_sx _) ?_; intro w3 hw3 hn3; have J3 := J2.set_ hw3 hn3; clear hw3 hn3 J2)
    | (refine wpList_load_row rfl 158 (.tmp 4) rfl (w.heap.size + 1) rfl 158 (stC { s with x := sureA k }) (0, 0) _ J3.ks.blk Tryz.underlying158 rfl (st_inf hl') ?_)
    | (refine wpList_store_blk rfl 158 (.tmp 6) (.tmp 93) rfl (w.heap.size + 1 + 1 + 1) _ (stC { s with x := sureA k }) 158 rfl rfl J3.kr (zst_size.trans (st_size (s := { s with x := sureA k }) hl').symm) (st_inf hl') st_one ?_; intro w5 hw5 hn5))
  refine bodyPost_ret (v := stV { s with x := sureA k }) (bbeh_res (s := { s with x := sureA k }) hl' _ rfl hw5) rfl ⟨rfl, ?_⟩
  exact J3.old.trans (hn5.below _ (by omega) J3.old.size)
set_option maxRecDepth 100000 in
set_option maxHeartbeats 1000000 in
theorem beh_5 (c y z : Int) (kn : Nat) (hq : InsOk c y z (kn : Int)) (nr arch : Int) (s : StS) (hs : StOk s) (w : World) (hK : Kinds w) (hc : c = 96) (hk16 : kn < 16) :
    Calls Tryz.prog 142 #[insV c y z (kn : Int), stV s, .agg #[.int .u32 nr, .int .u32 arch]] w fun e w' => e = .returned (stV { s with a := (s.m.getD kn ab0) }) ∧ Below w.heap.size w w' := by
  have N := fun V (h : Kinds V) => name_any c V h
  have n0 := name_is nmb_ld_abs c
  have n1 := name_is nmb_ld_len c
  have n2 := name_is nmb_ldx_len c
  have n3 := name_is nmb_ld_imm c
  have n4 := name_is nmb_ldx_imm c
  have n5 := name_is nmb_ld_mem c
  have J := BJ.new w hK (c, y, z, (kn : Int)) s nr arch
  have hl := hs.len
  have hkn : ((kn : Nat) : Int) < 16 := by omega
  obtain ⟨b, hgb⟩ : ∃ b, s.m.getD kn ab0 = b := ⟨_, rfl⟩
  rw [hgb]
  have HG := Lib.hid hgb
  clear hgb
  unfold insV stV at *
  obtain ⟨⟨r, t⟩, hr⟩ : ∃ r, nameOf c = r := ⟨_, rfl⟩
  rw [hr] at N n0 n1 n2 n3 n4 n5
  simp only at N n0 n1 n2 n3 n4 n5
  have N' := N _ J.kk
  have i0 := J.cells.1
  simp only at i0
  have m0 : (r.toList == [108, 100, 46, 97, 98, 115]) = false := by simpa [hc] using n0
  have m1 : (r.toList == [108, 100, 46, 108, 101, 110]) = false := by simpa [hc] using n1
  have m2 : (r.toList == [108, 100, 120, 46, 108, 101, 110]) = false := by simpa [hc] using n2
  have m3 : (r.toList == [108, 100, 46, 105, 109, 109]) = false := by simpa [hc] using n3
  have m4 : (r.toList == [108, 100, 120, 46, 105, 109, 109]) = false := by simpa [hc] using n4
  have m5 : r.toList = [108, 100, 46, 109, 101, 109] := by simpa [hc] using n5
  clear N hr hs n0 n1 n2 n3 n4 n5 hc
  go_enter Tryz.func142, Tryz.ntmps142
  go_wp2_with fail
  refine N'.mono ?_
  rintro e w' ⟨rfl, hb⟩
  have J1 := J.below hb
  obtain ⟨i0, _, _, i3⟩ := J1.cells
  obtain ⟨a1, a2, a3, a4⟩ := J1.abs
  simp only at i0 i3
  clear J hb N'
  obtain ⟨m1, m2⟩ := J1.mem hl hk16
  rw [HG.out] at m1 m2
  have hl' : { s with a := b }.m.length = 16 := hl
  go_wp2_with (first
    | (refine wpList_store_ab rfl 139 (.tmp 58) (.tmp 57) rfl (w.heap.size + 1) 1 (stC s) 158 b _ rfl rfl J1.ks (by rw [st_size hl]; omega) ab_inf (st_sa _) ?_; intro w3 hw3 hn3; have J2 := J1.set_ hw3 hn3; clear hw3 hn3 J1)
    | (refine wpList_load_row rfl 158 (.tmp 4) rfl (w.heap.size + 1) rfl 158 (stC { s with a := b }) (0, 0) _ J2.ks.blk Tryz.underlying158 rfl (st_inf hl') ?_)
    | (refine wpList_store_blk rfl 158 (.tmp 6) (.tmp 93) rfl (w.heap.size + 1 + 1 + 1) _ (stC { s with a := b }) 158 rfl rfl J2.kr (zst_size.trans (st_size (s := { s with a := b }) hl').symm) (st_inf hl') st_one ?_; intro w5 hw5 hn5))
  refine bodyPost_ret (v := stV { s with a := b }) (bbeh_res (s := { s with a := b }) hl' _ rfl hw5) rfl ⟨rfl, ?_⟩
  exact J2.old.trans (hn5.below _ (by omega) J2.old.size)
set_option maxRecDepth 100000 in
set_option maxHeartbeats 1000000 in
theorem beh_6 (c y z : Int) (kn : Nat) (hq : InsOk c y z (kn : Int)) (nr arch : Int) (s : StS) (hs : StOk s) (w : World) (hK : Kinds w) (hc : c = 97) (hk16 : kn < 16) :
    Calls Tryz.prog 142 #[insV c y z (kn : Int), stV s, .agg #[.int .u32 nr, .int .u32 arch]] w fun e w' => e = .returned (stV { s with x := (s.m.getD kn ab0) }) ∧ Below w.heap.size w w' := by
  have N := fun V (h : Kinds V) => name_any c V h
  have n0 := name_is nmb_ld_abs c
  have n1 := name_is nmb_ld_len c
  have n2 := name_is nmb_ldx_len c
  have n3 := name_is nmb_ld_imm c
  have n4 := name_is nmb_ldx_imm c
  have n5 := name_is nmb_ld_mem c
  have n6 := name_is nmb_ldx_mem c
  have J := BJ.new w hK (c, y, z, (kn : Int)) s nr arch
  have hl := hs.len
  have hkn : ((kn : Nat) : Int) < 16 := by omega
  obtain ⟨b, hgb⟩ : ∃ b, s.m.getD kn ab0 = b := ⟨_, rfl⟩
  rw [hgb]
  have HG := Lib.hid hgb
  clear hgb
  unfold insV stV at *
  obtain ⟨⟨r, t⟩, hr⟩ : ∃ r, nameOf c = r := ⟨_, rfl⟩
  rw [hr] at N n0 n1 n2 n3 n4 n5 n6
  simp only at N n0 n1 n2 n3 n4 n5 n6
  have N' := N _ J.kk
  have i0 := J.cells.1
  simp only at i0
  have m0 : (r.toList == [108, 100, 46, 97, 98, 115]) = false := by simpa [hc] using n0
  have m1 : (r.toList == [108, 100, 46, 108, 101, 110]) = false := by simpa [hc] using n1
  have m2 : (r.toList == [108, 100, 120, 46, 108, 101, 110]) = false := by simpa [hc] using n2
  have m3 : (r.toList == [108, 100, 46, 105, 109, 109]) = false := by simpa [hc] using n3
  have m4 : (r.toList == [108, 100, 120, 46, 105, 109, 109]) = false := by simpa [hc] using n4
  have m5 : (r.toList == [108, 100, 46, 109, 101, 109]) = false := by simpa [hc] using n5
  have m6 : r.toList = [108, 100, 120, 46, 109, 101, 109] := by simpa [hc] using n6
  clear N hr hs n0 n1 n2 n3 n4 n5 n6 hc
  go_enter Tryz.func142, Tryz.ntmps142
  go_wp2_with fail
  refine N'.mono ?_
  rintro e w' ⟨rfl, hb⟩
  have J1 := J.below hb
  obtain ⟨i0, _, _, i3⟩ := J1.cells
  obtain ⟨a1, a2, a3, a4⟩ := J1.abs
  simp only at i0 i3
  clear J hb N'
  obtain ⟨m1, m2⟩ := J1.mem hl hk16
  rw [HG.out] at m1 m2
  have hl' : { s with x := b }.m.length = 16 := hl
  go_wp2_with (first
    | (refine wpList_store_ab rfl 139 (.tmp 66) (.tmp 65) rfl (w.heap.size + 1) 3 (stC s) 158 b _ rfl rfl J1.ks (by rw [st_size hl]; omega) ab_inf (st_sx _) ?_; intro w3 hw3 hn3; have J2 := J1.set_ hw3 hn3; clear hw3 hn3 J1)
    | (refine wpList_load_row rfl 158 (.tmp 4) rfl (w.heap.size + 1) rfl 158 (stC { s with x := b }) (0, 0) _ J2.ks.blk Tryz.underlying158 rfl (st_inf hl') ?_)
    | (refine wpList_store_blk rfl 158 (.tmp 6) (.tmp 93) rfl (w.heap.size + 1 + 1 + 1) _ (stC { s with x := b }) 158 rfl rfl J2.kr (zst_size.trans (st_size (s := { s with x := b }) hl').symm) (st_inf hl') st_one ?_; intro w5 hw5 hn5))
  refine bodyPost_ret (v := stV { s with x := b }) (bbeh_res (s := { s with x := b }) hl' _ rfl hw5) rfl ⟨rfl, ?_⟩
  exact J2.old.trans (hn5.below _ (by omega) J2.old.size)
set_option maxRecDepth 100000 in
set_option maxHeartbeats 1000000 in
theorem beh_7 (c y z : Int) (kn : Nat) (hq : InsOk c y z (kn : Int)) (nr arch : Int) (s : StS) (hs : StOk s) (w : World) (hK : Kinds w) (hc : c = 2) (hk16 : kn < 16) :
    Calls Tryz.prog 142 #[insV c y z (kn : Int), stV s, .agg #[.int .u32 nr, .int .u32 arch]] w fun e w' => e = .returned (stV { s with m := s.m.set kn s.a }) ∧ Below w.heap.size w w' := by
  have N := fun V (h : Kinds V) => name_any c V h
  have n0 := name_is nmb_ld_abs c
  have n1 := name_is nmb_ld_len c
  have n2 := name_is nmb_ldx_len c
  have n3 := name_is nmb_ld_imm c
  have n4 := name_is nmb_ldx_imm c
  have n5 := name_is nmb_ld_mem c
  have n6 := name_is nmb_ldx_mem c
  have n7 := name_is nmb_st c
  have J := BJ.new w hK (c, y, z, (kn : Int)) s nr arch
  have hl := hs.len
  have hkn : ((kn : Nat) : Int) < 16 := by omega
  unfold insV stV at *
  obtain ⟨⟨r, t⟩, hr⟩ : ∃ r, nameOf c = r := ⟨_, rfl⟩
  rw [hr] at N n0 n1 n2 n3 n4 n5 n6 n7
  simp only at N n0 n1 n2 n3 n4 n5 n6 n7
  have N' := N _ J.kk
  have i0 := J.cells.1
  simp only at i0
  have m0 : (r.toList == [108, 100, 46, 97, 98, 115]) = false := by simpa [hc] using n0
  have m1 : (r.toList == [108, 100, 46, 108, 101, 110]) = false := by simpa [hc] using n1
  have m2 : (r.toList == [108, 100, 120, 46, 108, 101, 110]) = false := by simpa [hc] using n2
  have m3 : (r.toList == [108, 100, 46, 105, 109, 109]) = false := by simpa [hc] using n3
  have m4 : (r.toList == [108, 100, 120, 46, 105, 109, 109]) = false := by simpa [hc] using n4
  have m5 : (r.toList == [108, 100, 46, 109, 101, 109]) = false := by simpa [hc] using n5
  have m6 : (r.toList == [108, 100, 120, 46, 109, 101, 109]) = false := by simpa [hc] using n6
  have m7 : r.toList = [115, 116] := by simpa [hc] using n7
  clear N hr hs n0 n1 n2 n3 n4 n5 n6 n7 hc
  go_enter Tryz.func142, Tryz.ntmps142
  go_wp2_with fail
  refine N'.mono ?_
  rintro e w' ⟨rfl, hb⟩
  have J1 := J.below hb
  obtain ⟨i0, _, _, i3⟩ := J1.cells
  obtain ⟨a1, a2, a3, a4⟩ := J1.abs
  simp only at i0 i3
  clear J hb N'
  have hl' : { s with m := s.m.set kn s.a }.m.length = 16 := by simp [hl]
  go_wp2_with (first
    | (refine wpList_store_ab rfl 139 (.tmp 74) (.tmp 72) rfl (w.heap.size + 1) (5 + kn * 2) (stC s) 158 s.a _ rfl rfl J1.ks (by rw [st_size hl]; omega) ab_inf (st_sm kn _) ?_; intro w3 hw3 hn3; have J2 := J1.set_ hw3 hn3; clear hw3 hn3 J1)
    | (refine wpList_load_row rfl 158 (.tmp 4) rfl (w.heap.size + 1) rfl 158 (stC { s with m := s.m.set kn s.a }) (0, 0) _ J2.ks.blk Tryz.underlying158 rfl (st_inf hl') ?_)
    | (refine wpList_store_blk rfl 158 (.tmp 6) (.tmp 93) rfl (w.heap.size + 1 + 1 + 1) _ (stC { s with m := s.m.set kn s.a }) 158 rfl rfl J2.kr (zst_size.trans (st_size (s := { s with m := s.m.set kn s.a }) hl').symm) (st_inf hl') st_one ?_; intro w5 hw5 hn5))
  refine bodyPost_ret (v := stV { s with m := s.m.set kn s.a }) (bbeh_res (s := { s with m := s.m.set kn s.a }) hl' _ rfl hw5) rfl ⟨rfl, ?_⟩
  exact J2.old.trans (hn5.below _ (by omega) J2.old.size)
set_option maxRecDepth 100000 in
set_option maxHeartbeats 1000000 in
theorem beh_8 (c y z : Int) (kn : Nat) (hq : InsOk c y z (kn : Int)) (nr arch : Int) (s : StS) (hs : StOk s) (w : World) (hK : Kinds w) (hc : c = 3) (hk16 : kn < 16) :
    Calls Tryz.prog 142 #[insV c y z (kn : Int), stV s, .agg #[.int .u32 nr, .int .u32 arch]] w fun e w' => e = .returned (stV { s with m := s.m.set kn s.x }) ∧ Below w.heap.size w w' := by
  have N := fun V (h : Kinds V) => name_any c V h
  have n0 := name_is nmb_ld_abs c
  have n1 := name_is nmb_ld_len c
  have n2 := name_is nmb_ldx_len c
  have n3 := name_is nmb_ld_imm c
  have n4 := name_is nmb_ldx_imm c
  have n5 := name_is nmb_ld_mem c
  have n6 := name_is nmb_ldx_mem c
  have n7 := name_is nmb_st c
  have n8 := name_is nmb_stx c
  have J := BJ.new w hK (c, y, z, (kn : Int)) s nr arch
  have hl := hs.len
  have hkn : ((kn : Nat) : Int) < 16 := by omega
  unfold insV stV at *
  obtain ⟨⟨r, t⟩, hr⟩ : ∃ r, nameOf c = r := ⟨_, rfl⟩
  rw [hr] at N n0 n1 n2 n3 n4 n5 n6 n7 n8
  simp only at N n0 n1 n2 n3 n4 n5 n6 n7 n8
  have N' := N _ J.kk
  have i0 := J.cells.1
  simp only at i0
  have m0 : (r.toList == [108, 100, 46, 97, 98, 115]) = false := by simpa [hc] using n0
  have m1 : (r.toList == [108, 100, 46, 108, 101, 110]) = false := by simpa [hc] using n1
  have m2 : (r.toList == [108, 100, 120, 46, 108, 101, 110]) = false := by simpa [hc] using n2
  have m3 : (r.toList == [108, 100, 46, 105, 109, 109]) = false := by simpa [hc] using n3
  have m4 : (r.toList == [108, 100, 120, 46, 105, 109, 109]) = false := by simpa [hc] using n4
  have m5 : (r.toList == [108, 100, 46, 109, 101, 109]) = false := by simpa [hc] using n5
  have m6 : (r.toList == [108, 100, 120, 46, 109, 101, 109]) = false := by simpa [hc] using n6
  have m7 : (r.toList == [115, 116]) = false := by simpa [hc] using n7
  have m8 : r.toList = [115, 116, 120] := by simpa [hc] using n8
  clear N hr hs n0 n1 n2 n3 n4 n5 n6 n7 n8 hc
  go_enter Tryz.func142, Tryz.ntmps142
  go_wp2_with fail
  refine N'.mono ?_
  rintro e w' ⟨rfl, hb⟩
  have J1 := J.below hb
  obtain ⟨i0, _, _, i3⟩ := J1.cells
  obtain ⟨a1, a2, a3, a4⟩ := J1.abs
  simp only at i0 i3
  clear J hb N'
  have hl' : { s with m := s.m.set kn s.x }.m.length = 16 := by simp [hl]
  go_wp2_with (first
    | (refine wpList_store_ab rfl 139 (.tmp 82) (.tmp 80) rfl (w.heap.size + 1) (5 + kn * 2) (stC s) 158 s.x _ rfl rfl J1.ks (by rw [st_size hl]; omega) ab_inf (st_sm kn _) ?_; intro w3 hw3 hn3; have J2 := J1.set_ hw3 hn3; clear hw3 hn3 J1)
    | (refine wpList_load_row rfl 158 (.tmp 4) rfl (w.heap.size + 1) rfl 158 (stC { s with m := s.m.set kn s.x }) (0, 0) _ J2.ks.blk Tryz.underlying158 rfl (st_inf hl') ?_)
    | (refine wpList_store_blk rfl 158 (.tmp 6) (.tmp 93) rfl (w.heap.size + 1 + 1 + 1) _ (stC { s with m := s.m.set kn s.x }) 158 rfl rfl J2.kr (zst_size.trans (st_size (s := { s with m := s.m.set kn s.x }) hl').symm) (st_inf hl') st_one ?_; intro w5 hw5 hn5))
  refine bodyPost_ret (v := stV { s with m := s.m.set kn s.x }) (bbeh_res (s := { s with m := s.m.set kn s.x }) hl' _ rfl hw5) rfl ⟨rfl, ?_⟩
  exact J2.old.trans (hn5.below _ (by omega) J2.old.size)
set_option maxRecDepth 100000 in
set_option maxHeartbeats 1000000 in
theorem beh_9 (c y z : Int) (k : Int) (hq : InsOk c y z k) (nr arch : Int) (s : StS) (hs : StOk s) (w : World) (hK : Kinds w) (hc : c = 7) :
    Calls Tryz.prog 142 #[insV c y z k, stV s, .agg #[.int .u32 nr, .int .u32 arch]] w fun e w' => e = .returned (stV { s with x := s.a }) ∧ Below w.heap.size w w' := by
  have N := fun V (h : Kinds V) => name_any c V h
  have n0 := name_is nmb_ld_abs c
  have n1 := name_is nmb_ld_len c
  have n2 := name_is nmb_ldx_len c
  have n3 := name_is nmb_ld_imm c
  have n4 := name_is nmb_ldx_imm c
  have n5 := name_is nmb_ld_mem c
  have n6 := name_is nmb_ldx_mem c
  have n7 := name_is nmb_st c
  have n8 := name_is nmb_stx c
  have n9 := name_is nmb_tax c
  have J := BJ.new w hK (c, y, z, k) s nr arch
  have hl := hs.len
  unfold insV stV at *
  obtain ⟨⟨r, t⟩, hr⟩ : ∃ r, nameOf c = r := ⟨_, rfl⟩
  rw [hr] at N n0 n1 n2 n3 n4 n5 n6 n7 n8 n9
  simp only at N n0 n1 n2 n3 n4 n5 n6 n7 n8 n9
  have N' := N _ J.kk
  have i0 := J.cells.1
  simp only at i0
  have m0 : (r.toList == [108, 100, 46, 97, 98, 115]) = false := by simpa [hc] using n0
  have m1 : (r.toList == [108, 100, 46, 108, 101, 110]) = false := by simpa [hc] using n1
  have m2 : (r.toList == [108, 100, 120, 46, 108, 101, 110]) = false := by simpa [hc] using n2
  have m3 : (r.toList == [108, 100, 46, 105, 109, 109]) = false := by simpa [hc] using n3
  have m4 : (r.toList == [108, 100, 120, 46, 105, 109, 109]) = false := by simpa [hc] using n4
  have m5 : (r.toList == [108, 100, 46, 109, 101, 109]) = false := by simpa [hc] using n5
  have m6 : (r.toList == [108, 100, 120, 46, 109, 101, 109]) = false := by simpa [hc] using n6
  have m7 : (r.toList == [115, 116]) = false := by simpa [hc] using n7
  have m8 : (r.toList == [115, 116, 120]) = false := by simpa [hc] using n8
  have m9 : r.toList = [116, 97, 120] := by simpa [hc] using n9
  clear N hr hs n0 n1 n2 n3 n4 n5 n6 n7 n8 n9 hc
  go_enter Tryz.func142, Tryz.ntmps142
  go_wp2_with fail
  refine N'.mono ?_
  rintro e w' ⟨rfl, hb⟩
  have J1 := J.below hb
  obtain ⟨i0, _, _, i3⟩ := J1.cells
  obtain ⟨a1, a2, a3, a4⟩ := J1.abs
  simp only at i0 i3
  clear J hb N'
  have hl' : { s with x := s.a }.m.length = 16 := hl
  go_wp2_with (first
    | (refine wpList_store_ab rfl 139 (.tmp 87) (.tmp 86) rfl (w.heap.size + 1) 3 (stC s) 158 s.a _ rfl rfl J1.ks (by rw [st_size hl]; omega) ab_inf (st_sx _) ?_; intro w3 hw3 hn3; have J2 := J1.set_ hw3 hn3; clear hw3 hn3 J1)
    | (refine wpList_load_row rfl 158 (.tmp 4) rfl (w.heap.size + 1) rfl 158 (stC { s with x := s.a }) (0, 0) _ J2.ks.blk Tryz.underlying158 rfl (st_inf hl') ?_)
    | (refine wpList_store_blk rfl 158 (.tmp 6) (.tmp 93) rfl (w.heap.size + 1 + 1 + 1) _ (stC { s with x := s.a }) 158 rfl rfl J2.kr (zst_size.trans (st_size (s := { s with x := s.a }) hl').symm) (st_inf hl') st_one ?_; intro w5 hw5 hn5))
  refine bodyPost_ret (v := stV { s with x := s.a }) (bbeh_res (s := { s with x := s.a }) hl' _ rfl hw5) rfl ⟨rfl, ?_⟩
  exact J2.old.trans (hn5.below _ (by omega) J2.old.size)
set_option maxRecDepth 100000 in
set_option maxHeartbeats 1000000 in
theorem beh_10 (c y z : Int) (k : Int) (hq : InsOk c y z k) (nr arch : Int) (s : StS) (hs : StOk s) (w : World) (hK : Kinds w) (hc : c = 135) :
    Calls Tryz.prog 142 #[insV c y z k, stV s, .agg #[.int .u32 nr, .int .u32 arch]] w fun e w' => e = .returned (stV { s with a := s.x }) ∧ Below w.heap.size w w' := by
  have N := fun V (h : Kinds V) => name_any c V h
  have n0 := name_is nmb_ld_abs c
  have n1 := name_is nmb_ld_len c
  have n2 := name_is nmb_ldx_len c
  have n3 := name_is nmb_ld_imm c
  have n4 := name_is nmb_ldx_imm c
  have n5 := name_is nmb_ld_mem c
  have n6 := name_is nmb_ldx_mem c
  have n7 := name_is nmb_st c
  have n8 := name_is nmb_stx c
  have n9 := name_is nmb_tax c
  have n10 := name_is nmb_txa c
  have J := BJ.new w hK (c, y, z, k) s nr arch
  have hl := hs.len
  unfold insV stV at *
  obtain ⟨⟨r, t⟩, hr⟩ : ∃ r, nameOf c = r := ⟨_, rfl⟩
  rw [hr] at N n0 n1 n2 n3 n4 n5 n6 n7 n8 n9 n10
  simp only at N n0 n1 n2 n3 n4 n5 n6 n7 n8 n9 n10
  have N' := N _ J.kk
  have i0 := J.cells.1
  simp only at i0
  have m0 : (r.toList == [108, 100, 46, 97, 98, 115]) = false := by simpa [hc] using n0
  have m1 : (r.toList == [108, 100, 46, 108, 101, 110]) = false := by simpa [hc] using n1
  have m2 : (r.toList == [108, 100, 120, 46, 108, 101, 110]) = false := by simpa [hc] using n2
  have m3 : (r.toList == [108, 100, 46, 105, 109, 109]) = false := by simpa [hc] using n3
  have m4 : (r.toList == [108, 100, 120, 46, 105, 109, 109]) = false := by simpa [hc] using n4
  have m5 : (r.toList == [108, 100, 46, 109, 101, 109]) = false := by simpa [hc] using n5
  have m6 : (r.toList == [108, 100, 120, 46, 109, 101, 109]) = false := by simpa [hc] using n6
  have m7 : (r.toList == [115, 116]) = false := by simpa [hc] using n7
  have m8 : (r.toList == [115, 116, 120]) = false := by simpa [hc] using n8
  have m9 : (r.toList == [116, 97, 120]) = false := by simpa [hc] using n9
  have m10 : r.toList = [116, 120, 97] := by simpa [hc] using n10
  clear N hr hs n0 n1 n2 n3 n4 n5 n6 n7 n8 n9 n10 hc
  go_enter Tryz.func142, Tryz.ntmps142
  go_wp2_with fail
  refine N'.mono ?_
  rintro e w' ⟨rfl, hb⟩
  have J1 := J.below hb
  obtain ⟨i0, _, _, i3⟩ := J1.cells
  obtain ⟨a1, a2, a3, a4⟩ := J1.abs
  simp only at i0 i3
  clear J hb N'
  have hl' : { s with a := s.x }.m.length = 16 := hl
  go_wp2_with (first
    | (refine wpList_store_ab rfl 139 (.tmp 92) (.tmp 91) rfl (w.heap.size + 1) 1 (stC s) 158 s.x _ rfl rfl J1.ks (by rw [st_size hl]; omega) ab_inf (st_sa _) ?_; intro w3 hw3 hn3; have J2 := J1.set_ hw3 hn3; clear hw3 hn3 J1)
    | (refine wpList_load_row rfl 158 (.tmp 4) rfl (w.heap.size + 1) rfl 158 (stC { s with a := s.x }) (0, 0) _ J2.ks.blk Tryz.underlying158 rfl (st_inf hl') ?_)
    | (refine wpList_store_blk rfl 158 (.tmp 6) (.tmp 93) rfl (w.heap.size + 1 + 1 + 1) _ (stC { s with a := s.x }) 158 rfl rfl J2.kr (zst_size.trans (st_size (s := { s with a := s.x }) hl').symm) (st_inf hl') st_one ?_; intro w5 hw5 hn5))
  refine bodyPost_ret (v := stV { s with a := s.x }) (bbeh_res (s := { s with a := s.x }) hl' _ rfl hw5) rfl ⟨rfl, ?_⟩
  exact J2.old.trans (hn5.below _ (by omega) J2.old.size)
set_option maxRecDepth 100000 in
set_option maxHeartbeats 1000000 in
theorem beh_11 (c y z : Int) (k : Int) (hq : InsOk c y z k) (nr arch : Int) (s : StS) (hs : StOk s) (w : World) (hK : Kinds w) (hc0 : ¬ c = 32) (hc1 : ¬ c = 128) (hc2 : ¬ c = 129) (hc3 : ¬ c = 0) (hc4 : ¬ c = 1) (hc5 : ¬ c = 96) (hc6 : ¬ c = 97) (hc7 : ¬ c = 2) (hc8 : ¬ c = 3) (hc9 : ¬ c = 7) (hc10 : ¬ c = 135) (h4 : c % 8 = 4) :
    Calls Tryz.prog 142 #[insV c y z k, stV s, .agg #[.int .u32 nr, .int .u32 arch]] w fun e w' => e = .returned (stV { s with a := workA alI (c, y, z, k) s }) ∧ Below w.heap.size w w' := by
  have N := fun V (h : Kinds V) => name_any c V h
  have n0 := name_is nmb_ld_abs c
  have n1 := name_is nmb_ld_len c
  have n2 := name_is nmb_ldx_len c
  have n3 := name_is nmb_ld_imm c
  have n4 := name_is nmb_ldx_imm c
  have n5 := name_is nmb_ld_mem c
  have n6 := name_is nmb_ldx_mem c
  have n7 := name_is nmb_st c
  have n8 := name_is nmb_stx c
  have n9 := name_is nmb_tax c
  have n10 := name_is nmb_txa c
  have J := BJ.new w hK (c, y, z, k) s nr arch
  have hl := hs.len
  have U := fun V (h : Kinds V) => worked_any c y z k hq s hs V h
  have hA := ((show bits .and .u16 c 7 = c % 8 from bits_7 c hq.c0 hq.c1).trans h4)
  unfold insV stV at *
  obtain ⟨⟨r, t⟩, hr⟩ : ∃ r, nameOf c = r := ⟨_, rfl⟩
  rw [hr] at N n0 n1 n2 n3 n4 n5 n6 n7 n8 n9 n10
  simp only at N n0 n1 n2 n3 n4 n5 n6 n7 n8 n9 n10
  have N' := N _ J.kk
  have i0 := J.cells.1
  simp only at i0
  have m0 : (r.toList == [108, 100, 46, 97, 98, 115]) = false := by simpa [hc0] using n0
  have m1 : (r.toList == [108, 100, 46, 108, 101, 110]) = false := by simpa [hc1] using n1
  have m2 : (r.toList == [108, 100, 120, 46, 108, 101, 110]) = false := by simpa [hc2] using n2
  have m3 : (r.toList == [108, 100, 46, 105, 109, 109]) = false := by simpa [hc3] using n3
  have m4 : (r.toList == [108, 100, 120, 46, 105, 109, 109]) = false := by simpa [hc4] using n4
  have m5 : (r.toList == [108, 100, 46, 109, 101, 109]) = false := by simpa [hc5] using n5
  have m6 : (r.toList == [108, 100, 120, 46, 109, 101, 109]) = false := by simpa [hc6] using n6
  have m7 : (r.toList == [115, 116]) = false := by simpa [hc7] using n7
  have m8 : (r.toList == [115, 116, 120]) = false := by simpa [hc8] using n8
  have m9 : (r.toList == [116, 97, 120]) = false := by simpa [hc9] using n9
  have m10 : (r.toList == [116, 120, 97]) = false := by simpa [hc10] using n10
  clear N hr hs h4 n0 n1 n2 n3 n4 n5 n6 n7 n8 n9 n10 hc0 hc1 hc2 hc3 hc4 hc5 hc6 hc7 hc8 hc9 hc10
  have hB : (bits .and .u16 c 7 == 4) = true := by simpa using hA
  clear hA
  go_enter Tryz.func142, Tryz.ntmps142
  go_wp2_with fail
  refine N'.mono ?_
  rintro e w' ⟨rfl, hb⟩
  have J1 := J.below hb
  obtain ⟨i0, _, _, i3⟩ := J1.cells
  obtain ⟨a1, a2, a3, a4⟩ := J1.abs
  simp only at i0 i3
  clear J hb N'
  have U' := U _ J1.kk
  obtain ⟨i0', i1, i2, i3'⟩ := J1.cells
  simp only at i0' i1 i2 i3'
  go_wp2_with (refine wpList_load_row rfl 158 (.tmp 4) rfl (w.heap.size + 1) rfl 158 (stC s) (0, 0) _ J1.ks.blk Tryz.underlying158 rfl (st_inf hl) ?_)
  refine U'.mono ?_
  rintro e w4 ⟨rfl, b4⟩
  have J2 := J1.below b4
  clear J1 b4 U' U
  have hl' : { s with a := workA alI (c, y, z, k) s }.m.length = 16 := hl
  go_wp2_with (first
    | (refine wpList_store_ab rfl 139 (.tmp 23) (.tmp 22) rfl (w.heap.size + 1) 1 (stC s) 158 (workA alI (c, y, z, k) s) _ rfl rfl J2.ks (by rw [st_size hl]; omega) ab_inf (st_sa _) ?_; intro w3 hw3 hn3; have J3 := J2.set_ hw3 hn3; clear hw3 hn3 J2)
    | (refine wpList_load_row rfl 158 (.tmp 4) rfl (w.heap.size + 1) rfl 158 (stC { s with a := workA alI (c, y, z, k) s }) (0, 0) _ J3.ks.blk Tryz.underlying158 rfl (st_inf hl') ?_)
    | (refine wpList_store_blk rfl 158 (.tmp 6) (.tmp 93) rfl (w.heap.size + 1 + 1 + 1) _ (stC { s with a := workA alI (c, y, z, k) s }) 158 rfl rfl J3.kr (zst_size.trans (st_size (s := { s with a := workA alI (c, y, z, k) s }) hl').symm) (st_inf hl') st_one ?_; intro w5 hw5 hn5))
  refine bodyPost_ret (v := stV { s with a := workA alI (c, y, z, k) s }) (bbeh_res (s := { s with a := workA alI (c, y, z, k) s }) hl' _ rfl hw5) rfl ⟨rfl, ?_⟩
  exact J3.old.trans (hn5.below _ (by omega) J3.old.size)
set_option maxRecDepth 100000 in
set_option maxHeartbeats 1000000 in
theorem beh_12 (c y z : Int) (k : Int) (hq : InsOk c y z k) (nr arch : Int) (s : StS) (hs : StOk s) (w : World) (hK : Kinds w) (hc0 : ¬ c = 32) (hc1 : ¬ c = 128) (hc2 : ¬ c = 129) (hc3 : ¬ c = 0) (hc4 : ¬ c = 1) (hc5 : ¬ c = 96) (hc6 : ¬ c = 97) (hc7 : ¬ c = 2) (hc8 : ¬ c = 3) (hc9 : ¬ c = 7) (hc10 : ¬ c = 135) (h4 : ¬ c % 8 = 4) :
    Calls Tryz.prog 142 #[insV c y z k, stV s, .agg #[.int .u32 nr, .int .u32 arch]] w fun e w' => e = .returned (stV s) ∧ Below w.heap.size w w' := by
  have N := fun V (h : Kinds V) => name_any c V h
  have n0 := name_is nmb_ld_abs c
  have n1 := name_is nmb_ld_len c
  have n2 := name_is nmb_ldx_len c
  have n3 := name_is nmb_ld_imm c
  have n4 := name_is nmb_ldx_imm c
  have n5 := name_is nmb_ld_mem c
  have n6 := name_is nmb_ldx_mem c
  have n7 := name_is nmb_st c
  have n8 := name_is nmb_stx c
  have n9 := name_is nmb_tax c
  have n10 := name_is nmb_txa c
  have J := BJ.new w hK (c, y, z, k) s nr arch
  have hl := hs.len
  have hA := (bits_7 c hq.c0 hq.c1)
  have hB : (bits .and .u16 c 7 == 4) = false := by rw [hA]; simpa using h4
  clear hA h4
  unfold insV stV at *
  obtain ⟨⟨r, t⟩, hr⟩ : ∃ r, nameOf c = r := ⟨_, rfl⟩
  rw [hr] at N n0 n1 n2 n3 n4 n5 n6 n7 n8 n9 n10
  simp only at N n0 n1 n2 n3 n4 n5 n6 n7 n8 n9 n10
  have N' := N _ J.kk
  have i0 := J.cells.1
  simp only at i0
  have m0 : (r.toList == [108, 100, 46, 97, 98, 115]) = false := by simpa [hc0] using n0
  have m1 : (r.toList == [108, 100, 46, 108, 101, 110]) = false := by simpa [hc1] using n1
  have m2 : (r.toList == [108, 100, 120, 46, 108, 101, 110]) = false := by simpa [hc2] using n2
  have m3 : (r.toList == [108, 100, 46, 105, 109, 109]) = false := by simpa [hc3] using n3
  have m4 : (r.toList == [108, 100, 120, 46, 105, 109, 109]) = false := by simpa [hc4] using n4
  have m5 : (r.toList == [108, 100, 46, 109, 101, 109]) = false := by simpa [hc5] using n5
  have m6 : (r.toList == [108, 100, 120, 46, 109, 101, 109]) = false := by simpa [hc6] using n6
  have m7 : (r.toList == [115, 116]) = false := by simpa [hc7] using n7
  have m8 : (r.toList == [115, 116, 120]) = false := by simpa [hc8] using n8
  have m9 : (r.toList == [116, 97, 120]) = false := by simpa [hc9] using n9
  have m10 : (r.toList == [116, 120, 97]) = false := by simpa [hc10] using n10
  clear N hr hs n0 n1 n2 n3 n4 n5 n6 n7 n8 n9 n10 hc0 hc1 hc2 hc3 hc4 hc5 hc6 hc7 hc8 hc9 hc10
  go_enter Tryz.func142, Tryz.ntmps142
  go_wp2_with fail
  refine N'.mono ?_
  rintro e w' ⟨rfl, hb⟩
  have J1 := J.below hb
  obtain ⟨i0, _, _, i3⟩ := J1.cells
  obtain ⟨a1, a2, a3, a4⟩ := J1.abs
  simp only at i0 i3
  clear J hb N'
  have hl' : s.m.length = 16 := hl
  go_wp2_with (first
    | (refine wpList_load_row rfl 158 (.tmp 4) rfl (w.heap.size + 1) rfl 158 (stC s) (0, 0) _ J1.ks.blk Tryz.underlying158 rfl (st_inf hl') ?_)
    | (refine wpList_store_blk rfl 158 (.tmp 6) (.tmp 93) rfl (w.heap.size + 1 + 1 + 1) _ (stC s) 158 rfl rfl J1.kr (zst_size.trans (st_size (s := s) hl').symm) (st_inf hl') st_one ?_; intro w5 hw5 hn5))
  refine bodyPost_ret (v := stV s) (bbeh_res (s := s) hl' _ rfl hw5) rfl ⟨rfl, ?_⟩
  exact J1.old.trans (hn5.below _ (by omega) J1.old.size)
theorem behind_any (q : Ins) (hq : insO q) (h3 : formOf q.1 = 3 → q.2.2.2 < 16) (nr arch : Int) (s : StS) (hs : StOk s) (w : World) (hK : Kinds w) :
    Calls Tryz.prog 142 #[valI q, stV s, .agg #[.int .u32 nr, .int .u32 arch]] w fun e w' => e = .returned (stV (behS alI nr arch q s)) ∧ Below w.heap.size w w' := by
  obtain ⟨c, y, z, k⟩ := q
  show Calls Tryz.prog 142 #[insV c y z k, stV s, .agg #[.int .u32 nr, .int .u32 arch]] w fun e w' => e = .returned (stV (behS alI nr arch (c, y, z, k) s)) ∧ Below w.heap.size w w'
  have hK0 := hq.k0
  simp only at h3 hK0
  have f96 : formOf 96 = 3 := by decide +kernel
  have f97 : formOf 97 = 3 := by decide +kernel
  have f2 : formOf 2 = 3 := by decide +kernel
  have f3 : formOf 3 = 3 := by decide +kernel
  unfold behS
  simp only
  by_cases hc0 : c = 32
  · rw [if_pos hc0]
    exact beh_0 c y z k hq nr arch s hs w hK hc0
  rw [if_neg hc0]
  by_cases hc1 : c = 128
  · rw [if_pos hc1]
    exact beh_1 c y z k hq nr arch s hs w hK hc1
  rw [if_neg hc1]
  by_cases hc2 : c = 129
  · rw [if_pos hc2]
    exact beh_2 c y z k hq nr arch s hs w hK hc2
  rw [if_neg hc2]
  by_cases hc3 : c = 0
  · rw [if_pos hc3]
    exact beh_3 c y z k hq nr arch s hs w hK hc3
  rw [if_neg hc3]
  by_cases hc4 : c = 1
  · rw [if_pos hc4]
    exact beh_4 c y z k hq nr arch s hs w hK hc4
  rw [if_neg hc4]
  by_cases hc5 : c = 96
  · rw [if_pos hc5]
    have hk := h3 (by rw [hc5]; assumption)
    obtain ⟨kn, rfl⟩ : ∃ kn : Nat, k = (kn : Int) := ⟨k.toNat, by omega⟩
    rw [Int.toNat_natCast]
    exact beh_5 c y z kn hq nr arch s hs w hK hc5 (by omega)
  rw [if_neg hc5]
  by_cases hc6 : c = 97
  · rw [if_pos hc6]
    have hk := h3 (by rw [hc6]; assumption)
    obtain ⟨kn, rfl⟩ : ∃ kn : Nat, k = (kn : Int) := ⟨k.toNat, by omega⟩
    rw [Int.toNat_natCast]
    exact beh_6 c y z kn hq nr arch s hs w hK hc6 (by omega)
  rw [if_neg hc6]
  by_cases hc7 : c = 2
  · rw [if_pos hc7]
    have hk := h3 (by rw [hc7]; assumption)
    obtain ⟨kn, rfl⟩ : ∃ kn : Nat, k = (kn : Int) := ⟨k.toNat, by omega⟩
    rw [Int.toNat_natCast]
    exact beh_7 c y z kn hq nr arch s hs w hK hc7 (by omega)
  rw [if_neg hc7]
  by_cases hc8 : c = 3
  · rw [if_pos hc8]
    have hk := h3 (by rw [hc8]; assumption)
    obtain ⟨kn, rfl⟩ : ∃ kn : Nat, k = (kn : Int) := ⟨k.toNat, by omega⟩
    rw [Int.toNat_natCast]
    exact beh_8 c y z kn hq nr arch s hs w hK hc8 (by omega)
  rw [if_neg hc8]
  by_cases hc9 : c = 7
  · rw [if_pos hc9]
    exact beh_9 c y z k hq nr arch s hs w hK hc9
  rw [if_neg hc9]
  by_cases hc10 : c = 135
  · rw [if_pos hc10]
    exact beh_10 c y z k hq nr arch s hs w hK hc10
  rw [if_neg hc10]
  by_cases h4 : c % 8 = 4
  · rw [if_pos h4]
    exact beh_11 c y z k hq nr arch s hs w hK hc0 hc1 hc2 hc3 hc4 hc5 hc6 hc7 hc8 hc9 hc10 h4
  · rw [if_neg h4]
    exact beh_12 c y z k hq nr arch s hs w hK hc0 hc1 hc2 hc3 hc4 hc5 hc6 hc7 hc8 hc9 hc10 h4
end Go.Proofs.YtelfdpcenplhjaaGreatDoor

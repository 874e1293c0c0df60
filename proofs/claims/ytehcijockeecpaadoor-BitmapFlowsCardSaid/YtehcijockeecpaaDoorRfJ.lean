/-
  The reference's Join of two states (wicketgateref07).
-/
import Derived.Test.YtehcijockeecpaaDoorRfS
import Derived.Test.YtehcijockeecpaaDoorHB
namespace Go.Proofs.YtehcijockeecpaaDoor
open Go.RowKit
set_option linter.unusedVariables false
set_option linter.unusedSimpArgs false

theorem of_raw (x : Int) (w : World) : Calls Tryd.prog 26 #[.int .u32 x] w fun e w' => e = .returned (.agg #[.bool true, .int .u32 x]) ∧ Below w.heap.size w w' := of_any x w
theorem keep_raw (a b : Ab) (w : World) : Calls Tryd.prog 44 #[.agg #[.bool a.k, .int .u32 a.v], .agg #[.bool b.k, .int .u32 b.v]] w fun e w' => e = .returned (.agg #[.bool (keepA a b).k, .int .u32 (keepA a b).v]) ∧ Below w.heap.size w w' := keep_any a b w
theorem l16 (u v : Ab) : (⟨true, u, v, List.replicate 16 ab0⟩ : StS).m.length = 16 := by simp
/-- Two states and the answer. -/
structure B3 (w V : World) (a b : StS) : Prop where
  ka : Blk V w.heap.size (stC a) 40
  kb : Blk V (w.heap.size + 1) (stC b) 40
  kr : Blk V (w.heap.size + 1 + 1) zstL 40
  old : Below w.heap.size w V
theorem B3.new (w : World) (a b : StS) : B3 w (((w.alloc (.cells (stC a) 40)).alloc (.cells (stC b) 40)).alloc (.cells zstL 40)) a b :=
  ⟨((Blk.new w _ _).alloc _).alloc _, (Blk.new_ _ _ _ (by simp)).alloc _, Blk.new_ _ _ _ (by simp), (((Below.refl w.heap.size w).alloc (Nat.le_refl _) _).alloc (by simp) _).alloc (by simp; omega) _⟩
theorem B3.below {w V V' : World} {a b : StS} (h : B3 w V a b) (hb : Below V.heap.size V V') : B3 w V' a b :=
  ⟨h.ka.below hb h.ka.lt, h.kb.below hb h.kb.lt, h.kr.below hb h.kr.lt, h.old.trans (hb.mono h.old.size)⟩
set_option maxRecDepth 100000 in
set_option maxHeartbeats 2000000 in
theorem rjoin_1 (a b : StS) (la : a.m.length = 16) (lb : b.m.length = 16) (w : World) (h : a.r = false) :
    Calls Tryd.prog 28 #[stV a, stV b] w fun e w' => e = .returned (stV b) ∧ Below w.heap.size w w' := by
  have J := B3.new w a b
  have c0 := (J.ka.cell 0).trans st_0
  rw [h] at c0
  clear h
  unfold zstL at c0
  unfold stV
  go_enter Tryd.func28, Tryd.ntmps28
  go_wp2_with (first
    | (refine wpList_load_row rfl 40 (.tmp 3) rfl (w.heap.size + 1) rfl 40 (stC b) (0, 0) _ J.kb.blk Tryd.underlying40 rfl (st_inf lb) ?_)
    | (refine wpList_store_blk rfl 40 (.tmp 4) (.tmp 10) rfl (w.heap.size + 1 + 1) _ (stC b) 40 rfl rfl J.kr (zst_size.trans (st_size (s := b) lb).symm) (st_inf lb) st_one ?_; intro w9 hw9 hn9))
  refine bodyPost_ret (v := stV b) (results_cell_row rfl _ w9 (w.heap.size + 1 + 1) 40 (stC b) (0, 0) _ rfl hw9.blk Tryd.underlying40 rfl (st_inf lb)) rfl ⟨rfl, ?_⟩
  exact J.old.trans (hn9.below _ (by omega) J.old.size)
set_option maxRecDepth 100000 in
set_option maxHeartbeats 2000000 in
theorem rjoin_2 (a b : StS) (la : a.m.length = 16) (lb : b.m.length = 16) (w : World) (h : a.r = true) (h' : b.r = false) :
    Calls Tryd.prog 28 #[stV a, stV b] w fun e w' => e = .returned (stV a) ∧ Below w.heap.size w w' := by
  have J := B3.new w a b
  have c0 := (J.ka.cell 0).trans st_0
  have c1 := (J.kb.cell 0).trans st_0
  rw [h] at c0
  rw [h'] at c1
  clear h h'
  unfold zstL at c0 c1
  unfold stV
  go_enter Tryd.func28, Tryd.ntmps28
  go_wp2_with (first
    | (refine wpList_load_row rfl 40 (.tmp 2) rfl w.heap.size rfl 40 (stC a) (0, 0) _ J.ka.blk Tryd.underlying40 rfl (st_inf la) ?_)
    | (refine wpList_store_blk rfl 40 (.tmp 4) (.tmp 14) rfl (w.heap.size + 1 + 1) _ (stC a) 40 rfl rfl J.kr (zst_size.trans (st_size (s := a) la).symm) (st_inf la) st_one ?_; intro w9 hw9 hn9))
  refine bodyPost_ret (v := stV a) (results_cell_row rfl _ w9 (w.heap.size + 1 + 1) 40 (stC a) (0, 0) _ rfl hw9.blk Tryd.underlying40 rfl (st_inf la)) rfl ⟨rfl, ?_⟩
  exact J.old.trans (hn9.below _ (by omega) J.old.size)

set_option maxRecDepth 100000 in
set_option maxHeartbeats 8000000 in
theorem rjoin_3 (a b : StS) (oa : StOk a) (ob : StOk b) (w : World) (h : a.r = true) (h' : b.r = true) :
    Calls Tryd.prog 28 #[stV a, stV b] w fun e w' => e = .returned (stV (bothS a b)) ∧ Below w.heap.size w w' := by
  have la := oa.len
  have lb := ob.len
  have J := B3.new w a b
  have c0 := (J.ka.cell 0).trans st_0
  have c1 := (J.kb.cell 0).trans st_0
  have Cp := fun V => keep_raw a.a b.a V
  have Cq := fun V => keep_raw a.x b.x V
  rw [keep_alike oa.a] at Cp
  rw [keep_alike oa.x] at Cq
  rw [h] at c0
  rw [h'] at c1
  clear h h'
  unfold zstL at c0 c1
  have h0 := bothK_0 a b
  have hE := bothK_end a b
  obtain ⟨p, hp⟩ : ∃ p, alikeA a.a b.a = p := ⟨_, rfl⟩
  obtain ⟨q, hq⟩ : ∃ q, alikeA a.x b.x = q := ⟨_, rfl⟩
  rw [hp] at Cp h0
  rw [hq] at Cq h0
  rw [← hE]
  clear hp hq hE
  unfold stV
  go_enter Tryd.func28, Tryd.ntmps28
  go_wp2_with (refine wpList_store_blk rfl 40 (.tmp 5) (.tmp 15) rfl (w.heap.size + 1 + 1 + 1) _ (stC ⟨true, ab0, ab0, List.replicate 16 ab0⟩) 40 rfl rfl (Blk.new_ _ _ _ (by simp)) (zst_size.trans (st_size (s := ⟨true, ab0, ab0, List.replicate 16 ab0⟩) (l16 _ _)).symm) (st_inf (l16 _ _)) st_one ?_
               intro w2 hw2 hn2
               have J2 : BS w (w.heap.size + 1 + 1 + 1) w2 a b ⟨true, ab0, ab0, List.replicate 16 ab0⟩ := ⟨But.blk' hn2 (J.ka.alloc _) (by omega), But.blk' hn2 (J.kb.alloc _) (by omega), But.blk' hn2 (J.kr.alloc _) (by omega), hw2, by omega, (J.old.alloc J.old.size _).trans (hn2.below _ (by omega) (by simp; omega))⟩
               clear hw2 hn2 J c0 c1
               have a1 := (J2.ka.cell 1).trans st_1
               have a2 := (J2.ka.cell 2).trans st_2
               have b1 := (J2.kb.cell 1).trans st_1
               have b2 := (J2.kb.cell 2).trans st_2)
  refine (Cp _).mono ?_
  rintro e w3 ⟨rfl, b3⟩
  have J3 := J2.below b3
  clear b3 J2 a1 a2 b1 b2 Cp
  go_wp2_with (refine wpList_store_ab rfl 27 (.tmp 21) (.tmp 20) rfl (w.heap.size + 1 + 1 + 1) 1 (stC ⟨true, ab0, ab0, List.replicate 16 ab0⟩) 40 p (stC ⟨true, p, ab0, List.replicate 16 ab0⟩) rfl rfl J3.kj (by rw [st_size (l16 _ _)]; omega) ab_inf (st_sa p) ?_
               intro w4 hw4 hn4
               have J4 : BS w (w.heap.size + 1 + 1 + 1) w4 a b ⟨true, p, ab0, List.replicate 16 ab0⟩ := J3.set_ hw4 hn4
               clear hw4 hn4 J3
               have a1 := (J4.ka.cell 3).trans st_3
               have a2 := (J4.ka.cell 4).trans st_4
               have b1 := (J4.kb.cell 3).trans st_3
               have b2 := (J4.kb.cell 4).trans st_4)
  refine (Cq _).mono ?_
  rintro e w5 ⟨rfl, b5⟩
  have J5 := J4.below b5
  clear b5 J4 a1 a2 b1 b2 Cq
  go_wp2_with (refine wpList_store_ab rfl 27 (.tmp 27) (.tmp 26) rfl (w.heap.size + 1 + 1 + 1) 3 (stC ⟨true, p, ab0, List.replicate 16 ab0⟩) 40 q (stC ⟨true, p, q, List.replicate 16 ab0⟩) rfl rfl J5.kj (by rw [st_size (l16 _ _)]; omega) ab_inf (st_sx q) ?_
               intro w6 hw6 hn6
               have J6 : BS w (w.heap.size + 1 + 1 + 1) w6 a b ⟨true, p, q, List.replicate 16 ab0⟩ := J5.set_ hw6 hn6
               clear hw6 hn6 J5)
  rw [← h0] at J6
  generalize w.heap.size + 1 + 1 + 1 = g at J6 ⊢
  clear h0
  go_loopw [6] (fun i wr => ∃ k : Nat, k ≤ 16 ∧ i = .int .i64 k ∧ BS w g wr a b (bothK a b k)) (fun i _ => 16 - (intOf i).toNat)
  case atStart => exact ⟨0, by omega, rfl, J6⟩
  case round =>
    obtain ⟨k, hk, rfl, Jk⟩ := hrel
    by_cases hlt : k < 16
    · have hlt' : (k : Int) < 16 := by omega
      have C := fun V => keep_raw (a.m.getD k ab0) (b.m.getD k ab0) V
      rw [keep_alike (oa.at_ k)] at C
      have hst := bothK_step a b k
      have hlk := bothK_len a b k
      have hma := fun (s' : Sig (fun V => BS w g V a b (bothK a b k))) => st_m s'.h.ka la hlt
      have hmb := fun (s' : Sig (fun V => BS w g V a b (bothK a b k))) => st_m s'.h.kb lb hlt
      obtain ⟨u, hu⟩ : ∃ u, a.m.getD k ab0 = u := ⟨_, rfl⟩
      obtain ⟨v, hv⟩ : ∃ v, b.m.getD k ab0 = v := ⟨_, rfl⟩
      rw [hu, hv] at C hst
      simp only [hu] at hma
      simp only [hv] at hmb
      obtain ⟨r, hr⟩ : ∃ r, alikeA u v = r := ⟨_, rfl⟩
      rw [hr] at C hst
      have HST := Lib.hid hst
      have C' := Lib.hid (calls_keep (S := fun V => BS w g V a b (bothK a b k)) (fun V V' h hb => h.below hb) (fun V _ => C V))
      clear hu hv hr hst C
      go_wp2_with fail
      have J0 := Jk.drew
      have hS1 := fun s' => (hma s').1
      have hS2 := fun s' => (hma s').2
      have hS3 := fun s' => (hmb s').1
      have hS4 := fun s' => (hmb s').2
      clear hma hmb
      have hne : Nonempty (Sig (fun V => BS w g V a b (bothK a b k))) := ⟨⟨_, J0⟩⟩
      refine region_class_tail (S := fun V => BS w g V a b (bothK a b k)) 12 (by kernel_rfl) (by kernel_rfl) J0 ?_
      simp only [List.take_succ_cons, List.take_zero, List.drop_succ_cons, List.drop_zero]
      repeat (go_big_quiet_step (first | (go_at_call 44; exact class_call _ C'.out)))
      refine wpQuiet_nil ?_
      rintro ⟨V7, J7⟩
      dsimp only
      clear hS1 hS2 hS3 hS4 hne J0 C' Jk J6
      go_wp2_with (refine wpList_store_ab rfl 27 (.tmp 43) (.tmp 41) rfl g (5 + k * 2) (stC (bothK a b k)) 40 r _ rfl rfl J7.kj (by rw [st_size hlk]; omega) ab_inf (st_sm k r) ?_; intro w3 hw3 hn3; have J8 := J7.set_ hw3 hn3; clear hw3 hn3 J7)
      rw [HST.out] at J8
      go_roundw
      case rel => exact ⟨k + 1, by omega, by go_num, J8⟩
      case measure => simp [intOf]; omega
    · obtain rfl : k = 16 := by omega
      have hlk := bothK_len a b 16
      go_wp2_with (first
        | (refine wpList_load_row rfl 40 (.tmp 5) rfl g rfl 40 (stC (bothK a b 16)) (0, 0) _ Jk.kj.blk Tryd.underlying40 rfl (st_inf hlk) ?_)
        | (refine wpList_store_blk rfl 40 (.tmp 4) (.tmp 44) rfl (w.heap.size + 1 + 1) _ (stC (bothK a b 16)) 40 rfl rfl Jk.kr (zst_size.trans (st_size (s := bothK a b 16) hlk).symm) (st_inf hlk) st_one ?_; intro w9 hw9 hn9))
      refine bodyPost_ret (v := stV (bothK a b 16)) (results_cell_row rfl _ w9 (w.heap.size + 1 + 1) 40 (stC (bothK a b 16)) (0, 0) _ rfl hw9.blk Tryd.underlying40 rfl (st_inf hlk)) rfl ⟨rfl, ?_⟩
      exact Jk.old.trans (hn9.below _ (by omega) Jk.old.size)
/-- Two states that may be, joined. -/
theorem rjoin_any (a b : StS) (oa : StOk a) (ob : StOk b) (w : World) :
    Calls Tryd.prog 28 #[stV a, stV b] w fun e w' => e = .returned (stV (joinS a b)) ∧ Below w.heap.size w w' := by
  unfold joinS
  cases ha : a.r with
  | false =>
    rw [if_pos (oa.z ha)]
    exact rjoin_1 a b oa.len ob.len w ha
  | true =>
    have na : ¬ a = st0 := fun e => by rw [e] at ha; cases ha
    rw [if_neg na]
    cases hb : b.r with
    | false =>
      rw [if_pos (ob.z hb)]
      exact rjoin_2 a b oa.len ob.len w ha hb
    | true =>
      have nb : ¬ b = st0 := fun e => by rw [e] at hb; cases hb
      rw [if_neg nb]
      exact rjoin_3 a b oa ob w ha hb
end Go.Proofs.YtehcijockeecpaaDoor

/-
  DataOnce: the walk.
-/
import Derived.Test.YtpehbpjgbjlbjaaOrd
namespace Go.Proofs.Ytpehbpjgbjlbjaa
open Go.RowKit

set_option maxHeartbeats 16000000 in
theorem once_ok (a b : Dat) (ha : DatOk a) (hb : DatOk b) (k : Nat) (hk : k < 16) (x : Int) (hx : U32 x) (w : World) :
    Calls Try.prog 6 #[datV a, datV b, .agg #[.int .u32 (4 * (k : Int)), .int .u32 x]] w fun e w' => e = .returned (.bool true) ∧ Below w.heap.size w w' := by
  have ek : (4 * (k : Int)) / 4 = (k : Int) := by omega
  have hW := fun w => with_ok a ha (4 * (k : Int)) x (mul_U32 k hk) hx (right_mul k hk) k hk ek w
  have hU : U32s ((wordsL a).set k x) := by
    intro z hz
    rcases List.mem_or_eq_of_mem_set hz with h1 | h1
    · exact words_bd a ha z h1
    · subst h1; exact hx
  have hLen : ((wordsL a).set k x).length = 16 := by simp [words_len]
  obtain ⟨X, hX⟩ : ∃ X, joinD ((wordsL a).set k x) = X := ⟨_, rfl⟩
  have hXok : DatOk X := hX ▸ join_ok _ hU
  have hXw : wordsL X = (wordsL a).set k x := by rw [← hX]; exact words_join _ hLen hU
  have hXk : (wordsL X).getD k 0 = x := by rw [hXw]; simp [List.getD, words_len, hk]
  rw [hX] at hW
  have hR := fun w => word_ok X hXok (4 * (k : Int)) (mul_U32 k hk) (right_mul k hk) k hk ek w
  rw [hXk] at hR
  have CA := fun w => words_any a ha w
  have CB := fun w => words_any b hb w
  have CX := fun w => words_any X hXok w
  have HXW := Lib.hid hXw
  have dX := dat_one X
  obtain ⟨x0, x1⟩ := hx
  clear hX hXw hXk hLen hU ek
  rw [datV_eq a, datV_eq b]
  go_enter Try.func6, Try.ntmps6
  go_wp2_with fail
  refine (dwakes_any _).mono ?_
  rintro e w1 ⟨rfl, b1⟩
  have ka : Blk w1 w.heap.size (datC a) 26 := (((Blk.new w (datC a) 26).alloc _).alloc _).below b1 (by simp; omega)
  have kb : Blk w1 (w.heap.size + 1) (datC b) 26 := ((Blk.new_ _ (datC b) 26 (by simp)).alloc _).below b1 (by simp)
  have kt : Blk w1 (w.heap.size + 1 + 1) #[.int .u32 (4 * (k : Int)), .int .u32 x] 41 := (Blk.new_ _ _ _ (by simp)).below b1 (by simp)
  have B1 : Below w.heap.size w w1 := ((((Below.refl _ w).alloc (Nat.le_refl _) _).alloc (by simp) _).alloc (by simp; omega) _).trans (b1.mono (by simp; omega))
  have t0 : w1.cell? ⟨w.heap.size + 1 + 1, 0, none⟩ = some (.int .u32 (4 * (k : Int))) := kt.cell 0
  have t1 : w1.cell? ⟨w.heap.size + 1 + 1, 1, none⟩ = some (.int .u32 x) := kt.cell 1
  clear b1
  go_wp2_with (refine wpList_load_at (by rfl) 26 (.tmp 3) rfl w.heap.size rfl 26 (datC a) _ ka Try.underlying26 rfl dat_info ?_)
  refine (hW _).mono ?_
  rintro e w2 ⟨rfl, b2⟩
  have B2 := B1.trans (b2.mono B1.size)
  replace ka := ka.below b2 ka.lt
  replace kb := kb.below b2 kb.lt
  replace kt := kt.below b2 kt.lt
  have z2 := kt.lt
  clear t0 t1 b2 B1
  unfold datV at hR ⊢
  have hka : ∀ V, But w2.heap.size (w2.alloc (.cells (datC dat0) 26)) V → Blk V w2.heap.size (datC X) 26 → OJ w V w.heap.size (w.heap.size + 1) (w.heap.size + 1 + 1) w2.heap.size a b X (4 * (k : Int)) x := fun V n kx =>
    ⟨n.blk (ka.alloc _) (by omega), n.blk (kb.alloc _) (by omega), n.blk (kt.alloc _) (by omega), kx, (B2.alloc (by omega) _).trans (n.below _ (by omega) (by simp; omega)), by have := n.size; simp at this; omega⟩
  have HK := Lib.hid hka
  clear hka
  go_wp2_with (first
    | (refine wpList_store_blk rfl 26 (.tmp 7) (.tmp 23) rfl w2.heap.size _ (datC X) 26 rfl rfl (Blk.new_ w2 _ _ rfl) rfl dat_info dX ?_
       intro w3 kx n3
       have J3 := Lib.hid (HK.out w3 n3 kx)
       have t0 : w3.cell? ⟨w.heap.size + 1 + 1, 0, none⟩ = some (.int .u32 (4 * (k : Int))) := J3.out.kt.cell 0
       clear n3)
    | (refine wpList_load_at (by rfl) 26 (.tmp 7) rfl w2.heap.size rfl 26 (datC X) _ kx Try.underlying26 rfl dat_info ?_))
  refine (hR _).mono ?_
  rintro e w4 ⟨rfl, b4⟩
  have J4 := Lib.hid (J3.out.below b4)
  have t1 : w4.cell? ⟨w.heap.size + 1 + 1, 1, none⟩ = some (.int .u32 x) := J4.out.kt.cell 1
  clear t0 b4 J3 kx HK ka kb kt B2
  go_wp2_with fail
  have J0 := J4.out.drew
  clear J4 t1
  refine region_cut2 (fun f g h => (((((f.put (some 51) (.agg (datC a))).put (some 53) (.agg (datC X))).put (some 52) (arrV (wordsL a))).put (some 54) (arrV (wordsL X))).put (some 11) (.pointer (some ⟨g, 0, none⟩))).put (some 12) (.pointer (some ⟨h, 0, none⟩)))
    (fun g h V => Blk V g (arrC (wordsL a)) 38 ∧ Blk V h (arrC (wordsL X)) 38 ∧ OJ w V w.heap.size (w.heap.size + 1) (w.heap.size + 1 + 1) w2.heap.size a b X (4 * (k : Int)) x) ?_ ?_
  · refine wp_region_held_drew (S := fun V => OJ w V w.heap.size (w.heap.size + 1) (w.heap.size + 1 + 1) w2.heap.size a b X (4 * (k : Int)) x) (by kernel_rfl) J0 (fun _ => ?_)
    refine wpAnyH_take (i := 0) (v := .agg (datC a)) rfl (by kernel_rfl) (by kernel_rfl) (by kernel_rfl) (fun _ _ _ h => nomatch h.1) (yieldsIf_load_blk (by rfl) 26 (.tmp 3) rfl w.heap.size rfl (datC a) 26 _ (fun _ h => h.ka) Try.underlying26 rfl dat_info) J0 ?_
    simp only [Act.put, List.getElem_toArray, List.getElem_cons_zero, List.setIfInBounds_toArray, List.set_cons_zero, List.set_cons_succ]
    refine wpAnyH_take (i := 2) (v := .agg (datC X)) rfl (by kernel_rfl) (by kernel_rfl) (by kernel_rfl) (fun _ _ _ h => nomatch h.1) (yieldsIf_load_blk (by rfl) 26 (.tmp 7) rfl w2.heap.size rfl (datC X) 26 _ (fun _ h => h.kx) Try.underlying26 rfl dat_info) J0 ?_
    simp only [Act.put, List.getElem_toArray, List.getElem_cons_zero, List.getElem_cons_succ, List.setIfInBounds_toArray, List.set_cons_zero, List.set_cons_succ]
    generalize w4.drew = V0 at J0 ⊢
    refine wpAnyH_ready (rs := [1, 4, 5]) (by kernel_rfl) (by simp) ?_
    refine AllReadyH.cons rfl (fun K hK => ?_) ?_
    · simp only [List.getElem_toArray, List.getElem_cons_zero, List.getElem_cons_succ]
      go_simp
      refine (CA _).mono ?_
      rintro e V1 ⟨rfl, b1⟩
      go_wp2_with fail
      refine hK.out _ _ (J0.below b1) (fun J1 => ?_)
      clear hK K
      refine wpAnyH_ready (rs := [3, 4, 5]) (by kernel_rfl) (by simp) ?_
      refine AllReadyH.cons rfl (fun K hK => ?_) ?_
      · simp only [List.getElem_toArray, List.getElem_cons_zero, List.getElem_cons_succ]
        go_simp
        refine (CX _).mono ?_
        rintro e V2 ⟨rfl, b2⟩
        go_wp2_with fail
        refine hK.out _ _ (J1.below b2) (fun J2 => ?_)
        clear hK K
        refine wpAnyH_ready (rs := [4, 5]) (by kernel_rfl) (by simp) ?_
        refine AllReadyH.cons rfl (fun K hK => ?_) ?_
        · simp only [List.getElem_toArray, List.getElem_cons_zero, List.getElem_cons_succ]
          go_simp
          have m11 := J2.far
          refine hK.out _ _ (J2.alloc _) (fun J3 => ?_)
          clear hK K
          have f11_3 := J3.new
          try simp only [World.size_alloc] at f11_3 m11
          refine wpAnyH_ready (rs := [5]) (by kernel_rfl) (by simp) ?_
          refine AllReadyH.cons rfl (fun K hK => ?_) ?_
          · simp only [List.getElem_toArray, List.getElem_cons_zero, List.getElem_cons_succ]
            go_simp
            have m12 := J3.far
            have ne_ := f11_3.lt
            refine hK.out _ _ (J3.alloc _) (fun J4 => ?_)
            clear hK K
            have f12_4 := J4.new
            try simp only [World.size_alloc] at f12_4 m12
            have f11_4 := J4.al f11_3
            refine wpAnyH_ready (rs := [6]) (by kernel_rfl) (by simp) ?_
            refine AllReadyH.cons rfl (fun K hK => ?_) ?_
            · rw [if_pos (by rfl)]
              refine wp_store_blk 38 (.tmp 11) (.tmp 52) rfl _ _ (arrC (wordsL a)) 38 rfl rfl f11_4 rfl (arr_inf _ (words_len a)) (arr_one _) ?_
              intro V5 f11_5 n5
              refine hK.out _ _ (J4.but n5 m11.1 m11.2.1 m11.2.2.1 m11.2.2.2.1 m11.2.2.2.2) (fun J5 => ?_)
              clear hK K
              have f12_5 := n5.blk f12_4 (by simp only [World.size_alloc] at *; omega)
              try simp only [Act.put]
              refine wpAnyH_ready (rs := [7]) (by kernel_rfl) (by simp) ?_
              refine AllReadyH.cons rfl (fun K hK => ?_) ?_
              · rw [if_pos (by rfl)]
                refine wp_store_blk 38 (.tmp 12) (.tmp 54) rfl _ _ (arrC (wordsL X)) 38 rfl rfl f12_5 rfl (arr_inf _ (words_len X)) (arr_one _) ?_
                intro V6 f12_6 n6
                refine hK.out _ _ (J5.but n6 m12.1 m12.2.1 m12.2.2.1 m12.2.2.2.1 m12.2.2.2.2) (fun J6 => ?_)
                clear hK K
                have f11_6 := n6.blk f11_5 (by simp only [World.size_alloc] at *; omega)
                try simp only [Act.put]
                refine wpAnyH_done (by kernel_rfl) ?_ _
                exact ⟨rfl, _, _, rfl, f11_6, f12_6, J6⟩
              exact AllReadyH.nil
            exact AllReadyH.nil
          exact AllReadyH.nil
        refine AllReadyH.cons rfl (fun K hK => ?_) ?_
        · simp only [List.getElem_toArray, List.getElem_cons_zero, List.getElem_cons_succ]
          go_simp
          have m12 := J2.far
          refine hK.out _ _ (J2.alloc _) (fun J3 => ?_)
          clear hK K
          have f12_3 := J3.new
          try simp only [World.size_alloc] at f12_3 m12
          refine wpAnyH_ready (rs := [4]) (by kernel_rfl) (by simp) ?_
          refine AllReadyH.cons rfl (fun K hK => ?_) ?_
          · simp only [List.getElem_toArray, List.getElem_cons_zero, List.getElem_cons_succ]
            go_simp
            have m11 := J3.far
            have ne_ := f12_3.lt
            refine hK.out _ _ (J3.alloc _) (fun J4 => ?_)
            clear hK K
            have f11_4 := J4.new
            try simp only [World.size_alloc] at f11_4 m11
            have f12_4 := J4.al f12_3
            refine wpAnyH_ready (rs := [6]) (by kernel_rfl) (by simp) ?_
            refine AllReadyH.cons rfl (fun K hK => ?_) ?_
            · rw [if_pos (by rfl)]
              refine wp_store_blk 38 (.tmp 11) (.tmp 52) rfl _ _ (arrC (wordsL a)) 38 rfl rfl f11_4 rfl (arr_inf _ (words_len a)) (arr_one _) ?_
              intro V5 f11_5 n5
              refine hK.out _ _ (J4.but n5 m11.1 m11.2.1 m11.2.2.1 m11.2.2.2.1 m11.2.2.2.2) (fun J5 => ?_)
              clear hK K
              have f12_5 := n5.blk f12_4 (by simp only [World.size_alloc] at *; omega)
              try simp only [Act.put]
              refine wpAnyH_ready (rs := [7]) (by kernel_rfl) (by simp) ?_
              refine AllReadyH.cons rfl (fun K hK => ?_) ?_
              · rw [if_pos (by rfl)]
                refine wp_store_blk 38 (.tmp 12) (.tmp 54) rfl _ _ (arrC (wordsL X)) 38 rfl rfl f12_5 rfl (arr_inf _ (words_len X)) (arr_one _) ?_
                intro V6 f12_6 n6
                refine hK.out _ _ (J5.but n6 m12.1 m12.2.1 m12.2.2.1 m12.2.2.2.1 m12.2.2.2.2) (fun J6 => ?_)
                clear hK K
                have f11_6 := n6.blk f11_5 (by simp only [World.size_alloc] at *; omega)
                try simp only [Act.put]
                refine wpAnyH_done (by kernel_rfl) ?_ _
                exact ⟨rfl, _, _, rfl, f11_6, f12_6, J6⟩
              exact AllReadyH.nil
            exact AllReadyH.nil
          exact AllReadyH.nil
        exact AllReadyH.nil
      refine AllReadyH.cons rfl (fun K hK => ?_) ?_
      · simp only [List.getElem_toArray, List.getElem_cons_zero, List.getElem_cons_succ]
        go_simp
        have m11 := J1.far
        refine hK.out _ _ (J1.alloc _) (fun J2 => ?_)
        clear hK K
        have f11_2 := J2.new
        try simp only [World.size_alloc] at f11_2 m11
        refine wpAnyH_ready (rs := [3, 5]) (by kernel_rfl) (by simp) ?_
        refine AllReadyH.cons rfl (fun K hK => ?_) ?_
        · simp only [List.getElem_toArray, List.getElem_cons_zero, List.getElem_cons_succ]
          go_simp
          refine (CX _).mono ?_
          rintro e V3 ⟨rfl, b3⟩
          go_wp2_with fail
          refine hK.out _ _ (J2.below b3) (fun J3 => ?_)
          clear hK K
          have f11_3 := f11_2.below b3 f11_2.lt
          refine wpAnyH_ready (rs := [5]) (by kernel_rfl) (by simp) ?_
          refine AllReadyH.cons rfl (fun K hK => ?_) ?_
          · simp only [List.getElem_toArray, List.getElem_cons_zero, List.getElem_cons_succ]
            go_simp
            have m12 := J3.far
            have ne_ := f11_3.lt
            refine hK.out _ _ (J3.alloc _) (fun J4 => ?_)
            clear hK K
            have f12_4 := J4.new
            try simp only [World.size_alloc] at f12_4 m12
            have f11_4 := J4.al f11_3
            refine wpAnyH_ready (rs := [6]) (by kernel_rfl) (by simp) ?_
            refine AllReadyH.cons rfl (fun K hK => ?_) ?_
            · rw [if_pos (by rfl)]
              refine wp_store_blk 38 (.tmp 11) (.tmp 52) rfl _ _ (arrC (wordsL a)) 38 rfl rfl f11_4 rfl (arr_inf _ (words_len a)) (arr_one _) ?_
              intro V5 f11_5 n5
              refine hK.out _ _ (J4.but n5 m11.1 m11.2.1 m11.2.2.1 m11.2.2.2.1 m11.2.2.2.2) (fun J5 => ?_)
              clear hK K
              have f12_5 := n5.blk f12_4 (by simp only [World.size_alloc] at *; omega)
              try simp only [Act.put]
              refine wpAnyH_ready (rs := [7]) (by kernel_rfl) (by simp) ?_
              refine AllReadyH.cons rfl (fun K hK => ?_) ?_
              · rw [if_pos (by rfl)]
                refine wp_store_blk 38 (.tmp 12) (.tmp 54) rfl _ _ (arrC (wordsL X)) 38 rfl rfl f12_5 rfl (arr_inf _ (words_len X)) (arr_one _) ?_
                intro V6 f12_6 n6
                refine hK.out _ _ (J5.but n6 m12.1 m12.2.1 m12.2.2.1 m12.2.2.2.1 m12.2.2.2.2) (fun J6 => ?_)
                clear hK K
                have f11_6 := n6.blk f11_5 (by simp only [World.size_alloc] at *; omega)
                try simp only [Act.put]
                refine wpAnyH_done (by kernel_rfl) ?_ _
                exact ⟨rfl, _, _, rfl, f11_6, f12_6, J6⟩
              exact AllReadyH.nil
            exact AllReadyH.nil
          exact AllReadyH.nil
        refine AllReadyH.cons rfl (fun K hK => ?_) ?_
        · simp only [List.getElem_toArray, List.getElem_cons_zero, List.getElem_cons_succ]
          go_simp
          have m12 := J2.far
          have ne_ := f11_2.lt
          refine hK.out _ _ (J2.alloc _) (fun J3 => ?_)
          clear hK K
          have f12_3 := J3.new
          try simp only [World.size_alloc] at f12_3 m12
          have f11_3 := J3.al f11_2
          refine wpAnyH_ready (rs := [3]) (by kernel_rfl) (by simp) ?_
          refine AllReadyH.cons rfl (fun K hK => ?_) ?_
          · simp only [List.getElem_toArray, List.getElem_cons_zero, List.getElem_cons_succ]
            go_simp
            refine (CX _).mono ?_
            rintro e V4 ⟨rfl, b4⟩
            go_wp2_with fail
            refine hK.out _ _ (J3.below b4) (fun J4 => ?_)
            clear hK K
            have f11_4 := f11_3.below b4 f11_3.lt
            have f12_4 := f12_3.below b4 f12_3.lt
            refine wpAnyH_ready (rs := [6]) (by kernel_rfl) (by simp) ?_
            refine AllReadyH.cons rfl (fun K hK => ?_) ?_
            · rw [if_pos (by rfl)]
              refine wp_store_blk 38 (.tmp 11) (.tmp 52) rfl _ _ (arrC (wordsL a)) 38 rfl rfl f11_4 rfl (arr_inf _ (words_len a)) (arr_one _) ?_
              intro V5 f11_5 n5
              refine hK.out _ _ (J4.but n5 m11.1 m11.2.1 m11.2.2.1 m11.2.2.2.1 m11.2.2.2.2) (fun J5 => ?_)
              clear hK K
              have f12_5 := n5.blk f12_4 (by simp only [World.size_alloc] at *; omega)
              try simp only [Act.put]
              refine wpAnyH_ready (rs := [7]) (by kernel_rfl) (by simp) ?_
              refine AllReadyH.cons rfl (fun K hK => ?_) ?_
              · rw [if_pos (by rfl)]
                refine wp_store_blk 38 (.tmp 12) (.tmp 54) rfl _ _ (arrC (wordsL X)) 38 rfl rfl f12_5 rfl (arr_inf _ (words_len X)) (arr_one _) ?_
                intro V6 f12_6 n6
                refine hK.out _ _ (J5.but n6 m12.1 m12.2.1 m12.2.2.1 m12.2.2.2.1 m12.2.2.2.2) (fun J6 => ?_)
                clear hK K
                have f11_6 := n6.blk f11_5 (by simp only [World.size_alloc] at *; omega)
                try simp only [Act.put]
                refine wpAnyH_done (by kernel_rfl) ?_ _
                exact ⟨rfl, _, _, rfl, f11_6, f12_6, J6⟩
              exact AllReadyH.nil
            exact AllReadyH.nil
          exact AllReadyH.nil
        exact AllReadyH.nil
      refine AllReadyH.cons rfl (fun K hK => ?_) ?_
      · simp only [List.getElem_toArray, List.getElem_cons_zero, List.getElem_cons_succ]
        go_simp
        have m12 := J1.far
        refine hK.out _ _ (J1.alloc _) (fun J2 => ?_)
        clear hK K
        have f12_2 := J2.new
        try simp only [World.size_alloc] at f12_2 m12
        refine wpAnyH_ready (rs := [3, 4]) (by kernel_rfl) (by simp) ?_
        refine AllReadyH.cons rfl (fun K hK => ?_) ?_
        · simp only [List.getElem_toArray, List.getElem_cons_zero, List.getElem_cons_succ]
          go_simp
          refine (CX _).mono ?_
          rintro e V3 ⟨rfl, b3⟩
          go_wp2_with fail
          refine hK.out _ _ (J2.below b3) (fun J3 => ?_)
          clear hK K
          have f12_3 := f12_2.below b3 f12_2.lt
          refine wpAnyH_ready (rs := [4]) (by kernel_rfl) (by simp) ?_
          refine AllReadyH.cons rfl (fun K hK => ?_) ?_
          · simp only [List.getElem_toArray, List.getElem_cons_zero, List.getElem_cons_succ]
            go_simp
            have m11 := J3.far
            have ne_ := f12_3.lt
            refine hK.out _ _ (J3.alloc _) (fun J4 => ?_)
            clear hK K
            have f11_4 := J4.new
            try simp only [World.size_alloc] at f11_4 m11
            have f12_4 := J4.al f12_3
            refine wpAnyH_ready (rs := [6]) (by kernel_rfl) (by simp) ?_
            refine AllReadyH.cons rfl (fun K hK => ?_) ?_
            · rw [if_pos (by rfl)]
              refine wp_store_blk 38 (.tmp 11) (.tmp 52) rfl _ _ (arrC (wordsL a)) 38 rfl rfl f11_4 rfl (arr_inf _ (words_len a)) (arr_one _) ?_
              intro V5 f11_5 n5
              refine hK.out _ _ (J4.but n5 m11.1 m11.2.1 m11.2.2.1 m11.2.2.2.1 m11.2.2.2.2) (fun J5 => ?_)
              clear hK K
              have f12_5 := n5.blk f12_4 (by simp only [World.size_alloc] at *; omega)
              try simp only [Act.put]
              refine wpAnyH_ready (rs := [7]) (by kernel_rfl) (by simp) ?_
              refine AllReadyH.cons rfl (fun K hK => ?_) ?_
              · rw [if_pos (by rfl)]
                refine wp_store_blk 38 (.tmp 12) (.tmp 54) rfl _ _ (arrC (wordsL X)) 38 rfl rfl f12_5 rfl (arr_inf _ (words_len X)) (arr_one _) ?_
                intro V6 f12_6 n6
                refine hK.out _ _ (J5.but n6 m12.1 m12.2.1 m12.2.2.1 m12.2.2.2.1 m12.2.2.2.2) (fun J6 => ?_)
                clear hK K
                have f11_6 := n6.blk f11_5 (by simp only [World.size_alloc] at *; omega)
                try simp only [Act.put]
                refine wpAnyH_done (by kernel_rfl) ?_ _
                exact ⟨rfl, _, _, rfl, f11_6, f12_6, J6⟩
              exact AllReadyH.nil
            exact AllReadyH.nil
          exact AllReadyH.nil
        refine AllReadyH.cons rfl (fun K hK => ?_) ?_
        · simp only [List.getElem_toArray, List.getElem_cons_zero, List.getElem_cons_succ]
          go_simp
          have m11 := J2.far
          have ne_ := f12_2.lt
          refine hK.out _ _ (J2.alloc _) (fun J3 => ?_)
          clear hK K
          have f11_3 := J3.new
          try simp only [World.size_alloc] at f11_3 m11
          have f12_3 := J3.al f12_2
          refine wpAnyH_ready (rs := [3]) (by kernel_rfl) (by simp) ?_
          refine AllReadyH.cons rfl (fun K hK => ?_) ?_
          · simp only [List.getElem_toArray, List.getElem_cons_zero, List.getElem_cons_succ]
            go_simp
            refine (CX _).mono ?_
            rintro e V4 ⟨rfl, b4⟩
            go_wp2_with fail
            refine hK.out _ _ (J3.below b4) (fun J4 => ?_)
            clear hK K
            have f11_4 := f11_3.below b4 f11_3.lt
            have f12_4 := f12_3.below b4 f12_3.lt
            refine wpAnyH_ready (rs := [6]) (by kernel_rfl) (by simp) ?_
            refine AllReadyH.cons rfl (fun K hK => ?_) ?_
            · rw [if_pos (by rfl)]
              refine wp_store_blk 38 (.tmp 11) (.tmp 52) rfl _ _ (arrC (wordsL a)) 38 rfl rfl f11_4 rfl (arr_inf _ (words_len a)) (arr_one _) ?_
              intro V5 f11_5 n5
              refine hK.out _ _ (J4.but n5 m11.1 m11.2.1 m11.2.2.1 m11.2.2.2.1 m11.2.2.2.2) (fun J5 => ?_)
              clear hK K
              have f12_5 := n5.blk f12_4 (by simp only [World.size_alloc] at *; omega)
              try simp only [Act.put]
              refine wpAnyH_ready (rs := [7]) (by kernel_rfl) (by simp) ?_
              refine AllReadyH.cons rfl (fun K hK => ?_) ?_
              · rw [if_pos (by rfl)]
                refine wp_store_blk 38 (.tmp 12) (.tmp 54) rfl _ _ (arrC (wordsL X)) 38 rfl rfl f12_5 rfl (arr_inf _ (words_len X)) (arr_one _) ?_
                intro V6 f12_6 n6
                refine hK.out _ _ (J5.but n6 m12.1 m12.2.1 m12.2.2.1 m12.2.2.2.1 m12.2.2.2.2) (fun J6 => ?_)
                clear hK K
                have f11_6 := n6.blk f11_5 (by simp only [World.size_alloc] at *; omega)
                try simp only [Act.put]
                refine wpAnyH_done (by kernel_rfl) ?_ _
                exact ⟨rfl, _, _, rfl, f11_6, f12_6, J6⟩
              exact AllReadyH.nil
            exact AllReadyH.nil
          exact AllReadyH.nil
        exact AllReadyH.nil
      exact AllReadyH.nil
    refine AllReadyH.cons rfl (fun K hK => ?_) ?_
    · simp only [List.getElem_toArray, List.getElem_cons_zero, List.getElem_cons_succ]
      go_simp
      have m11 := J0.far
      refine hK.out _ _ (J0.alloc _) (fun J1 => ?_)
      clear hK K
      have f11_1 := J1.new
      try simp only [World.size_alloc] at f11_1 m11
      refine wpAnyH_ready (rs := [1, 5]) (by kernel_rfl) (by simp) ?_
      refine AllReadyH.cons rfl (fun K hK => ?_) ?_
      · simp only [List.getElem_toArray, List.getElem_cons_zero, List.getElem_cons_succ]
        go_simp
        refine (CA _).mono ?_
        rintro e V2 ⟨rfl, b2⟩
        go_wp2_with fail
        refine hK.out _ _ (J1.below b2) (fun J2 => ?_)
        clear hK K
        have f11_2 := f11_1.below b2 f11_1.lt
        refine wpAnyH_ready (rs := [3, 5]) (by kernel_rfl) (by simp) ?_
        refine AllReadyH.cons rfl (fun K hK => ?_) ?_
        · simp only [List.getElem_toArray, List.getElem_cons_zero, List.getElem_cons_succ]
          go_simp
          refine (CX _).mono ?_
          rintro e V3 ⟨rfl, b3⟩
          go_wp2_with fail
          refine hK.out _ _ (J2.below b3) (fun J3 => ?_)
          clear hK K
          have f11_3 := f11_2.below b3 f11_2.lt
          refine wpAnyH_ready (rs := [5]) (by kernel_rfl) (by simp) ?_
          refine AllReadyH.cons rfl (fun K hK => ?_) ?_
          · simp only [List.getElem_toArray, List.getElem_cons_zero, List.getElem_cons_succ]
            go_simp
            have m12 := J3.far
            have ne_ := f11_3.lt
            refine hK.out _ _ (J3.alloc _) (fun J4 => ?_)
            clear hK K
            have f12_4 := J4.new
            try simp only [World.size_alloc] at f12_4 m12
            have f11_4 := J4.al f11_3
            refine wpAnyH_ready (rs := [6]) (by kernel_rfl) (by simp) ?_
            refine AllReadyH.cons rfl (fun K hK => ?_) ?_
            · rw [if_pos (by rfl)]
              refine wp_store_blk 38 (.tmp 11) (.tmp 52) rfl _ _ (arrC (wordsL a)) 38 rfl rfl f11_4 rfl (arr_inf _ (words_len a)) (arr_one _) ?_
              intro V5 f11_5 n5
              refine hK.out _ _ (J4.but n5 m11.1 m11.2.1 m11.2.2.1 m11.2.2.2.1 m11.2.2.2.2) (fun J5 => ?_)
              clear hK K
              have f12_5 := n5.blk f12_4 (by simp only [World.size_alloc] at *; omega)
              try simp only [Act.put]
              refine wpAnyH_ready (rs := [7]) (by kernel_rfl) (by simp) ?_
              refine AllReadyH.cons rfl (fun K hK => ?_) ?_
              · rw [if_pos (by rfl)]
                refine wp_store_blk 38 (.tmp 12) (.tmp 54) rfl _ _ (arrC (wordsL X)) 38 rfl rfl f12_5 rfl (arr_inf _ (words_len X)) (arr_one _) ?_
                intro V6 f12_6 n6
                refine hK.out _ _ (J5.but n6 m12.1 m12.2.1 m12.2.2.1 m12.2.2.2.1 m12.2.2.2.2) (fun J6 => ?_)
                clear hK K
                have f11_6 := n6.blk f11_5 (by simp only [World.size_alloc] at *; omega)
                try simp only [Act.put]
                refine wpAnyH_done (by kernel_rfl) ?_ _
                exact ⟨rfl, _, _, rfl, f11_6, f12_6, J6⟩
              exact AllReadyH.nil
            exact AllReadyH.nil
          exact AllReadyH.nil
        refine AllReadyH.cons rfl (fun K hK => ?_) ?_
        · simp only [List.getElem_toArray, List.getElem_cons_zero, List.getElem_cons_succ]
          go_simp
          have m12 := J2.far
          have ne_ := f11_2.lt
          refine hK.out _ _ (J2.alloc _) (fun J3 => ?_)
          clear hK K
          have f12_3 := J3.new
          try simp only [World.size_alloc] at f12_3 m12
          have f11_3 := J3.al f11_2
          refine wpAnyH_ready (rs := [3]) (by kernel_rfl) (by simp) ?_
          refine AllReadyH.cons rfl (fun K hK => ?_) ?_
          · simp only [List.getElem_toArray, List.getElem_cons_zero, List.getElem_cons_succ]
            go_simp
            refine (CX _).mono ?_
            rintro e V4 ⟨rfl, b4⟩
            go_wp2_with fail
            refine hK.out _ _ (J3.below b4) (fun J4 => ?_)
            clear hK K
            have f11_4 := f11_3.below b4 f11_3.lt
            have f12_4 := f12_3.below b4 f12_3.lt
            refine wpAnyH_ready (rs := [6]) (by kernel_rfl) (by simp) ?_
            refine AllReadyH.cons rfl (fun K hK => ?_) ?_
            · rw [if_pos (by rfl)]
              refine wp_store_blk 38 (.tmp 11) (.tmp 52) rfl _ _ (arrC (wordsL a)) 38 rfl rfl f11_4 rfl (arr_inf _ (words_len a)) (arr_one _) ?_
              intro V5 f11_5 n5
              refine hK.out _ _ (J4.but n5 m11.1 m11.2.1 m11.2.2.1 m11.2.2.2.1 m11.2.2.2.2) (fun J5 => ?_)
              clear hK K
              have f12_5 := n5.blk f12_4 (by simp only [World.size_alloc] at *; omega)
              try simp only [Act.put]
              refine wpAnyH_ready (rs := [7]) (by kernel_rfl) (by simp) ?_
              refine AllReadyH.cons rfl (fun K hK => ?_) ?_
              · rw [if_pos (by rfl)]
                refine wp_store_blk 38 (.tmp 12) (.tmp 54) rfl _ _ (arrC (wordsL X)) 38 rfl rfl f12_5 rfl (arr_inf _ (words_len X)) (arr_one _) ?_
                intro V6 f12_6 n6
                refine hK.out _ _ (J5.but n6 m12.1 m12.2.1 m12.2.2.1 m12.2.2.2.1 m12.2.2.2.2) (fun J6 => ?_)
                clear hK K
                have f11_6 := n6.blk f11_5 (by simp only [World.size_alloc] at *; omega)
                try simp only [Act.put]
                refine wpAnyH_done (by kernel_rfl) ?_ _
                exact ⟨rfl, _, _, rfl, f11_6, f12_6, J6⟩
              exact AllReadyH.nil
            exact AllReadyH.nil
          exact AllReadyH.nil
        exact AllReadyH.nil
      refine AllReadyH.cons rfl (fun K hK => ?_) ?_
      · simp only [List.getElem_toArray, List.getElem_cons_zero, List.getElem_cons_succ]
        go_simp
        have m12 := J1.far
        have ne_ := f11_1.lt
        refine hK.out _ _ (J1.alloc _) (fun J2 => ?_)
        clear hK K
        have f12_2 := J2.new
        try simp only [World.size_alloc] at f12_2 m12
        have f11_2 := J2.al f11_1
        refine wpAnyH_ready (rs := [1]) (by kernel_rfl) (by simp) ?_
        refine AllReadyH.cons rfl (fun K hK => ?_) ?_
        · simp only [List.getElem_toArray, List.getElem_cons_zero, List.getElem_cons_succ]
          go_simp
          refine (CA _).mono ?_
          rintro e V3 ⟨rfl, b3⟩
          go_wp2_with fail
          refine hK.out _ _ (J2.below b3) (fun J3 => ?_)
          clear hK K
          have f11_3 := f11_2.below b3 f11_2.lt
          have f12_3 := f12_2.below b3 f12_2.lt
          refine wpAnyH_ready (rs := [3]) (by kernel_rfl) (by simp) ?_
          refine AllReadyH.cons rfl (fun K hK => ?_) ?_
          · simp only [List.getElem_toArray, List.getElem_cons_zero, List.getElem_cons_succ]
            go_simp
            refine (CX _).mono ?_
            rintro e V4 ⟨rfl, b4⟩
            go_wp2_with fail
            refine hK.out _ _ (J3.below b4) (fun J4 => ?_)
            clear hK K
            have f11_4 := f11_3.below b4 f11_3.lt
            have f12_4 := f12_3.below b4 f12_3.lt
            refine wpAnyH_ready (rs := [6]) (by kernel_rfl) (by simp) ?_
            refine AllReadyH.cons rfl (fun K hK => ?_) ?_
            · rw [if_pos (by rfl)]
              refine wp_store_blk 38 (.tmp 11) (.tmp 52) rfl _ _ (arrC (wordsL a)) 38 rfl rfl f11_4 rfl (arr_inf _ (words_len a)) (arr_one _) ?_
              intro V5 f11_5 n5
              refine hK.out _ _ (J4.but n5 m11.1 m11.2.1 m11.2.2.1 m11.2.2.2.1 m11.2.2.2.2) (fun J5 => ?_)
              clear hK K
              have f12_5 := n5.blk f12_4 (by simp only [World.size_alloc] at *; omega)
              try simp only [Act.put]
              refine wpAnyH_ready (rs := [7]) (by kernel_rfl) (by simp) ?_
              refine AllReadyH.cons rfl (fun K hK => ?_) ?_
              · rw [if_pos (by rfl)]
                refine wp_store_blk 38 (.tmp 12) (.tmp 54) rfl _ _ (arrC (wordsL X)) 38 rfl rfl f12_5 rfl (arr_inf _ (words_len X)) (arr_one _) ?_
                intro V6 f12_6 n6
                refine hK.out _ _ (J5.but n6 m12.1 m12.2.1 m12.2.2.1 m12.2.2.2.1 m12.2.2.2.2) (fun J6 => ?_)
                clear hK K
                have f11_6 := n6.blk f11_5 (by simp only [World.size_alloc] at *; omega)
                try simp only [Act.put]
                refine wpAnyH_done (by kernel_rfl) ?_ _
                exact ⟨rfl, _, _, rfl, f11_6, f12_6, J6⟩
              exact AllReadyH.nil
            exact AllReadyH.nil
          exact AllReadyH.nil
        exact AllReadyH.nil
      exact AllReadyH.nil
    refine AllReadyH.cons rfl (fun K hK => ?_) ?_
    · simp only [List.getElem_toArray, List.getElem_cons_zero, List.getElem_cons_succ]
      go_simp
      have m12 := J0.far
      refine hK.out _ _ (J0.alloc _) (fun J1 => ?_)
      clear hK K
      have f12_1 := J1.new
      try simp only [World.size_alloc] at f12_1 m12
      refine wpAnyH_ready (rs := [1, 4]) (by kernel_rfl) (by simp) ?_
      refine AllReadyH.cons rfl (fun K hK => ?_) ?_
      · simp only [List.getElem_toArray, List.getElem_cons_zero, List.getElem_cons_succ]
        go_simp
        refine (CA _).mono ?_
        rintro e V2 ⟨rfl, b2⟩
        go_wp2_with fail
        refine hK.out _ _ (J1.below b2) (fun J2 => ?_)
        clear hK K
        have f12_2 := f12_1.below b2 f12_1.lt
        refine wpAnyH_ready (rs := [3, 4]) (by kernel_rfl) (by simp) ?_
        refine AllReadyH.cons rfl (fun K hK => ?_) ?_
        · simp only [List.getElem_toArray, List.getElem_cons_zero, List.getElem_cons_succ]
          go_simp
          refine (CX _).mono ?_
          rintro e V3 ⟨rfl, b3⟩
          go_wp2_with fail
          refine hK.out _ _ (J2.below b3) (fun J3 => ?_)
          clear hK K
          have f12_3 := f12_2.below b3 f12_2.lt
          refine wpAnyH_ready (rs := [4]) (by kernel_rfl) (by simp) ?_
          refine AllReadyH.cons rfl (fun K hK => ?_) ?_
          · simp only [List.getElem_toArray, List.getElem_cons_zero, List.getElem_cons_succ]
            go_simp
            have m11 := J3.far
            have ne_ := f12_3.lt
            refine hK.out _ _ (J3.alloc _) (fun J4 => ?_)
            clear hK K
            have f11_4 := J4.new
            try simp only [World.size_alloc] at f11_4 m11
            have f12_4 := J4.al f12_3
            refine wpAnyH_ready (rs := [6]) (by kernel_rfl) (by simp) ?_
            refine AllReadyH.cons rfl (fun K hK => ?_) ?_
            · rw [if_pos (by rfl)]
              refine wp_store_blk 38 (.tmp 11) (.tmp 52) rfl _ _ (arrC (wordsL a)) 38 rfl rfl f11_4 rfl (arr_inf _ (words_len a)) (arr_one _) ?_
              intro V5 f11_5 n5
              refine hK.out _ _ (J4.but n5 m11.1 m11.2.1 m11.2.2.1 m11.2.2.2.1 m11.2.2.2.2) (fun J5 => ?_)
              clear hK K
              have f12_5 := n5.blk f12_4 (by simp only [World.size_alloc] at *; omega)
              try simp only [Act.put]
              refine wpAnyH_ready (rs := [7]) (by kernel_rfl) (by simp) ?_
              refine AllReadyH.cons rfl (fun K hK => ?_) ?_
              · rw [if_pos (by rfl)]
                refine wp_store_blk 38 (.tmp 12) (.tmp 54) rfl _ _ (arrC (wordsL X)) 38 rfl rfl f12_5 rfl (arr_inf _ (words_len X)) (arr_one _) ?_
                intro V6 f12_6 n6
                refine hK.out _ _ (J5.but n6 m12.1 m12.2.1 m12.2.2.1 m12.2.2.2.1 m12.2.2.2.2) (fun J6 => ?_)
                clear hK K
                have f11_6 := n6.blk f11_5 (by simp only [World.size_alloc] at *; omega)
                try simp only [Act.put]
                refine wpAnyH_done (by kernel_rfl) ?_ _
                exact ⟨rfl, _, _, rfl, f11_6, f12_6, J6⟩
              exact AllReadyH.nil
            exact AllReadyH.nil
          exact AllReadyH.nil
        refine AllReadyH.cons rfl (fun K hK => ?_) ?_
        · simp only [List.getElem_toArray, List.getElem_cons_zero, List.getElem_cons_succ]
          go_simp
          have m11 := J2.far
          have ne_ := f12_2.lt
          refine hK.out _ _ (J2.alloc _) (fun J3 => ?_)
          clear hK K
          have f11_3 := J3.new
          try simp only [World.size_alloc] at f11_3 m11
          have f12_3 := J3.al f12_2
          refine wpAnyH_ready (rs := [3]) (by kernel_rfl) (by simp) ?_
          refine AllReadyH.cons rfl (fun K hK => ?_) ?_
          · simp only [List.getElem_toArray, List.getElem_cons_zero, List.getElem_cons_succ]
            go_simp
            refine (CX _).mono ?_
            rintro e V4 ⟨rfl, b4⟩
            go_wp2_with fail
            refine hK.out _ _ (J3.below b4) (fun J4 => ?_)
            clear hK K
            have f11_4 := f11_3.below b4 f11_3.lt
            have f12_4 := f12_3.below b4 f12_3.lt
            refine wpAnyH_ready (rs := [6]) (by kernel_rfl) (by simp) ?_
            refine AllReadyH.cons rfl (fun K hK => ?_) ?_
            · rw [if_pos (by rfl)]
              refine wp_store_blk 38 (.tmp 11) (.tmp 52) rfl _ _ (arrC (wordsL a)) 38 rfl rfl f11_4 rfl (arr_inf _ (words_len a)) (arr_one _) ?_
              intro V5 f11_5 n5
              refine hK.out _ _ (J4.but n5 m11.1 m11.2.1 m11.2.2.1 m11.2.2.2.1 m11.2.2.2.2) (fun J5 => ?_)
              clear hK K
              have f12_5 := n5.blk f12_4 (by simp only [World.size_alloc] at *; omega)
              try simp only [Act.put]
              refine wpAnyH_ready (rs := [7]) (by kernel_rfl) (by simp) ?_
              refine AllReadyH.cons rfl (fun K hK => ?_) ?_
              · rw [if_pos (by rfl)]
                refine wp_store_blk 38 (.tmp 12) (.tmp 54) rfl _ _ (arrC (wordsL X)) 38 rfl rfl f12_5 rfl (arr_inf _ (words_len X)) (arr_one _) ?_
                intro V6 f12_6 n6
                refine hK.out _ _ (J5.but n6 m12.1 m12.2.1 m12.2.2.1 m12.2.2.2.1 m12.2.2.2.2) (fun J6 => ?_)
                clear hK K
                have f11_6 := n6.blk f11_5 (by simp only [World.size_alloc] at *; omega)
                try simp only [Act.put]
                refine wpAnyH_done (by kernel_rfl) ?_ _
                exact ⟨rfl, _, _, rfl, f11_6, f12_6, J6⟩
              exact AllReadyH.nil
            exact AllReadyH.nil
          exact AllReadyH.nil
        exact AllReadyH.nil
      refine AllReadyH.cons rfl (fun K hK => ?_) ?_
      · simp only [List.getElem_toArray, List.getElem_cons_zero, List.getElem_cons_succ]
        go_simp
        have m11 := J1.far
        have ne_ := f12_1.lt
        refine hK.out _ _ (J1.alloc _) (fun J2 => ?_)
        clear hK K
        have f11_2 := J2.new
        try simp only [World.size_alloc] at f11_2 m11
        have f12_2 := J2.al f12_1
        refine wpAnyH_ready (rs := [1]) (by kernel_rfl) (by simp) ?_
        refine AllReadyH.cons rfl (fun K hK => ?_) ?_
        · simp only [List.getElem_toArray, List.getElem_cons_zero, List.getElem_cons_succ]
          go_simp
          refine (CA _).mono ?_
          rintro e V3 ⟨rfl, b3⟩
          go_wp2_with fail
          refine hK.out _ _ (J2.below b3) (fun J3 => ?_)
          clear hK K
          have f11_3 := f11_2.below b3 f11_2.lt
          have f12_3 := f12_2.below b3 f12_2.lt
          refine wpAnyH_ready (rs := [3]) (by kernel_rfl) (by simp) ?_
          refine AllReadyH.cons rfl (fun K hK => ?_) ?_
          · simp only [List.getElem_toArray, List.getElem_cons_zero, List.getElem_cons_succ]
            go_simp
            refine (CX _).mono ?_
            rintro e V4 ⟨rfl, b4⟩
            go_wp2_with fail
            refine hK.out _ _ (J3.below b4) (fun J4 => ?_)
            clear hK K
            have f11_4 := f11_3.below b4 f11_3.lt
            have f12_4 := f12_3.below b4 f12_3.lt
            refine wpAnyH_ready (rs := [6]) (by kernel_rfl) (by simp) ?_
            refine AllReadyH.cons rfl (fun K hK => ?_) ?_
            · rw [if_pos (by rfl)]
              refine wp_store_blk 38 (.tmp 11) (.tmp 52) rfl _ _ (arrC (wordsL a)) 38 rfl rfl f11_4 rfl (arr_inf _ (words_len a)) (arr_one _) ?_
              intro V5 f11_5 n5
              refine hK.out _ _ (J4.but n5 m11.1 m11.2.1 m11.2.2.1 m11.2.2.2.1 m11.2.2.2.2) (fun J5 => ?_)
              clear hK K
              have f12_5 := n5.blk f12_4 (by simp only [World.size_alloc] at *; omega)
              try simp only [Act.put]
              refine wpAnyH_ready (rs := [7]) (by kernel_rfl) (by simp) ?_
              refine AllReadyH.cons rfl (fun K hK => ?_) ?_
              · rw [if_pos (by rfl)]
                refine wp_store_blk 38 (.tmp 12) (.tmp 54) rfl _ _ (arrC (wordsL X)) 38 rfl rfl f12_5 rfl (arr_inf _ (words_len X)) (arr_one _) ?_
                intro V6 f12_6 n6
                refine hK.out _ _ (J5.but n6 m12.1 m12.2.1 m12.2.2.1 m12.2.2.2.1 m12.2.2.2.2) (fun J6 => ?_)
                clear hK K
                have f11_6 := n6.blk f11_5 (by simp only [World.size_alloc] at *; omega)
                try simp only [Act.put]
                refine wpAnyH_done (by kernel_rfl) ?_ _
                exact ⟨rfl, _, _, rfl, f11_6, f12_6, J6⟩
              exact AllReadyH.nil
            exact AllReadyH.nil
          exact AllReadyH.nil
        exact AllReadyH.nil
      exact AllReadyH.nil
    exact AllReadyH.nil
  · rintro g h V ⟨f11, f12, J⟩
    have c0 : V.cell? ⟨w.heap.size + 1 + 1, 0, none⟩ = some (.int .u32 (4 * (k : Int))) := J.kt.cell 0
    have C1 := Lib.hid (fun j (hj : j < 16) => (f11.cell j).trans (arr_get _ _ (by rw [words_len]; exact hj)))
    have C2 := Lib.hid (fun j (hj : j < 16) => (f12.cell j).trans (arr_get _ _ (by rw [words_len]; exact hj)))
    clear J0 f11 f12
    simp only [Act.put, List.setIfInBounds_toArray, List.set_cons_zero, List.set_cons_succ]
    go_wp2_with fail
    go_loopw [55] (fun i wr => ∃ j : Nat, j ≤ 16 ∧ i = .int .i64 j ∧ ∃ q, wr = V.drewN q) (fun i _ => 16 - (intOf i).toNat)
    case atStart => exact ⟨0, Nat.zero_le _, rfl, 0, rfl⟩
    case round =>
      obtain ⟨j, hj, rfl, q, rfl⟩ := hrel
      by_cases hlt : j < 16
      · have hlt' : (j : Int) < 16 := by omega
        have hj0 : (0 : Int) ≤ j := by omega
        have ek : (4 * (k : Int)) / 4 = k := by omega
        have sk : IntKind.i64.wrap (k : Int) = k := by rw [IntKind.wrap_i64]; omega
        have c1 := C1.out j hlt
        have c2 := C2.out j hlt
        by_cases hjk : j = k
        · subst hjk
          have g1 : ((j : Int) != (j : Int)) = false := by simp
          go_wp2_with fail
          go_quiet (fail)
          go_wp2
          go_roundw
          case rel => exact ⟨j + 1, by omega, by go_num, q + nq, rfl⟩
          case measure => simp [intOf]; omega
        · have g1 : ((j : Int) != (k : Int)) = true := by simp; omega
          have e1 : (wordsL X).getD j 0 = (wordsL a).getD j 0 := by rw [HXW.out]; simp [List.getD, List.getElem?_set_ne (show k ≠ j by omega)]
          rw [e1] at c2
          obtain ⟨y, hy⟩ : ∃ y, (wordsL a).getD j 0 = y := ⟨_, rfl⟩
          rw [hy] at c1 c2
          clear e1 hy
          go_wp2_with fail
          go_quiet (fail)
          go_wp2
          go_roundw
          case rel => exact ⟨j + 1, by omega, by go_num, q + nq, rfl⟩
          case measure => simp [intOf]; omega
      · obtain rfl : j = 16 := by omega
        have J5 : OJ w (V.drewN q) w.heap.size (w.heap.size + 1) (w.heap.size + 1 + 1) w2.heap.size a b X (4 * (k : Int)) x := J.below (below_drewN (Below.refl _ _) q)
        generalize V.drewN q = V5 at J5
        clear c0 C1 C2 J
        obtain ⟨p, hp⟩ : ∃ p, decide (a = b) = p := ⟨_, rfl⟩
        have hp' : decide (wordsL a = wordsL b) = p := by rw [← hp]; exact decide_eq_decide.2 (words_inj a b)
        have HP := Lib.hid hp
        have HP' := Lib.hid hp'
        clear hp hp'
        go_wp2_with fail
        have J6 := J5.drew
        refine region_cut1 (fun f => ((((((((f.put (some 74) (.agg (datC a))).put (some 76) (.agg (datC b))).put (some 79) (.agg (datC a))).put (some 80) (.agg (datC b))).put (some 81) (.bool (decide (a = b)))).put (some 75) (arrV (wordsL a))).put (some 77) (arrV (wordsL b))).put (some 78) (.bool (decide (wordsL a = wordsL b)))).put (some 82) (.bool (decide (wordsL a = wordsL b) == decide (a = b))) |>.put (some 6) (.bool (decide (wordsL a = wordsL b) == decide (a = b)))) (fun V => OJ w V w.heap.size (w.heap.size + 1) (w.heap.size + 1 + 1) w2.heap.size a b X (4 * (k : Int)) x) ?_ ?_
        · refine wp_region_held_drew (S := fun V => OJ w V w.heap.size (w.heap.size + 1) (w.heap.size + 1 + 1) w2.heap.size a b X (4 * (k : Int)) x) (by kernel_rfl) J6 (fun _ => ?_)
          refine wpAnyH_take (i := 0) (v := .agg (datC a)) rfl (by kernel_rfl) (by kernel_rfl) (by kernel_rfl) (fun _ _ _ h => nomatch h.1) (yieldsIf_load_blk (by rfl) 26 (.tmp 3) rfl w.heap.size rfl (datC a) 26 _ (fun _ h => h.ka) Try.underlying26 rfl dat_info) J6 ?_
          simp only [Act.put, List.getElem_toArray, List.getElem_cons_zero, List.setIfInBounds_toArray, List.set_cons_zero, List.set_cons_succ]
          refine wpAnyH_take (i := 2) (v := .agg (datC b)) rfl (by kernel_rfl) (by kernel_rfl) (by kernel_rfl) (fun _ _ _ h => nomatch h.1) (yieldsIf_load_blk (by rfl) 26 (.tmp 4) rfl (w.heap.size + 1) rfl (datC b) 26 _ (fun _ h => h.kb) Try.underlying26 rfl dat_info) J6 ?_
          simp only [Act.put, List.getElem_toArray, List.getElem_cons_zero, List.getElem_cons_succ, List.setIfInBounds_toArray, List.set_cons_zero, List.set_cons_succ]
          refine wpAnyH_take (i := 5) (v := .agg (datC a)) rfl (by kernel_rfl) (by kernel_rfl) (by kernel_rfl) (fun _ _ _ h => nomatch h.1) (yieldsIf_load_blk (by rfl) 26 (.tmp 3) rfl w.heap.size rfl (datC a) 26 _ (fun _ h => h.ka) Try.underlying26 rfl dat_info) J6 ?_
          simp only [Act.put, List.getElem_toArray, List.getElem_cons_zero, List.getElem_cons_succ, List.setIfInBounds_toArray, List.set_cons_zero, List.set_cons_succ]
          refine wpAnyH_take (i := 6) (v := .agg (datC b)) rfl (by kernel_rfl) (by kernel_rfl) (by kernel_rfl) (fun _ _ _ h => nomatch h.1) (yieldsIf_load_blk (by rfl) 26 (.tmp 4) rfl (w.heap.size + 1) rfl (datC b) 26 _ (fun _ h => h.kb) Try.underlying26 rfl dat_info) J6 ?_
          simp only [Act.put, List.getElem_toArray, List.getElem_cons_zero, List.getElem_cons_succ, List.setIfInBounds_toArray, List.set_cons_zero, List.set_cons_succ]
          refine wpAnyH_take (i := 7) (v := .bool (decide (a = b))) rfl (by kernel_rfl) (by kernel_rfl) (by kernel_rfl) (fun _ _ _ h => nomatch h.1) (yieldsIf_eql_dat (by rfl) (.tmp 79) (.tmp 80) rfl a b rfl rfl) J6 ?_
          simp only [Act.put, List.getElem_toArray, List.getElem_cons_zero, List.getElem_cons_succ, List.setIfInBounds_toArray, List.set_cons_zero, List.set_cons_succ]
          refine wpAnyH_ready (rs := [1]) (by kernel_rfl) (by simp) ?_
          refine AllReadyH.cons rfl (fun K hK => ?_) AllReadyH.nil
          simp only [List.getElem_toArray, List.getElem_cons_zero, List.getElem_cons_succ]
          go_simp
          refine (CA _).mono ?_
          rintro e V6 ⟨rfl, b6⟩
          go_wp2_with fail
          refine hK.out _ _ (J6.below b6) (fun J7 => ?_)
          clear hK K
          refine wpAnyH_ready (rs := [3]) (by kernel_rfl) (by simp) ?_
          refine AllReadyH.cons rfl (fun K hK => ?_) AllReadyH.nil
          simp only [List.getElem_toArray, List.getElem_cons_zero, List.getElem_cons_succ]
          go_simp
          refine (CB _).mono ?_
          rintro e V7 ⟨rfl, b7⟩
          go_wp2_with fail
          refine hK.out _ _ (J7.below b7) (fun J8 => ?_)
          clear hK K
          refine wpAnyH_take (i := 4) (v := .bool (decide (wordsL a = wordsL b))) rfl (by kernel_rfl) (by kernel_rfl) (by kernel_rfl) (fun _ _ _ h => nomatch h.1) (yieldsIf_eql_arr (by rfl) (.tmp 75) (.tmp 77) rfl _ _ (words_len a) (words_len b) rfl rfl) J8 ?_
          simp only [Act.put, List.getElem_toArray, List.getElem_cons_zero, List.getElem_cons_succ, List.setIfInBounds_toArray, List.set_cons_zero, List.set_cons_succ]
          refine wpAnyH_take (i := 8) (v := .bool (decide (wordsL a = wordsL b) == decide (a = b))) rfl (by kernel_rfl) (by kernel_rfl) (by kernel_rfl) (fun _ _ _ h => nomatch h.1) (yieldsIf_eql_bool (by rfl) 4 Try.underlying4 (.tmp 78) (.tmp 81) rfl _ _ rfl rfl) J8 ?_
          simp only [Act.put, List.getElem_toArray, List.getElem_cons_zero, List.getElem_cons_succ, List.setIfInBounds_toArray, List.set_cons_zero, List.set_cons_succ]
          refine wpAnyH_take (i := 9) (v := .bool (decide (wordsL a = wordsL b) == decide (a = b))) rfl (by kernel_rfl) (by kernel_rfl) (by kernel_rfl) (fun _ _ _ h => nomatch h.1) (yieldsIf_assign (by rfl) (.tmp 82) rfl _ rfl) J8 ?_
          simp only [Act.put, List.getElem_toArray, List.getElem_cons_zero, List.getElem_cons_succ, List.setIfInBounds_toArray, List.set_cons_zero, List.set_cons_succ]
          refine wpAnyH_done (by kernel_rfl) ?_ _
          exact ⟨rfl, rfl, J8⟩
        · intro V9 J9
          simp only [Act.put, List.setIfInBounds_toArray, List.set_cons_zero, List.set_cons_succ, HP.out, HP'.out, beq_self_eq_true]
          go_wp2_with fail
          go_ret
          exact ⟨rfl, J9.old⟩

set_option maxHeartbeats 2000000 in
theorem once_no (a b : Dat) (o x : Int) (ho : U32 o) (hr : rightB o = false) (w : World) :
    Calls Try.prog 6 #[datV a, datV b, .agg #[.int .u32 o, .int .u32 x]] w fun e w' => e = .returned (.bool true) ∧ Below w.heap.size w w' := by
  have hW := fun w => with_no a o x ho hr w
  have hq : ¬ (o % 4 = 0 ∧ o ≤ 60) := by
    unfold rightB at hr
    simpa using hr
  have d0 := dat_one dat0
  obtain ⟨o0, o1⟩ := ho
  rw [datV_eq a, datV_eq b]
  rcases Classical.em (o % 4 = 0) with h4 | h4
  · have h6 : (60 : Int) < o := by omega
    clear hq hr
    go_enter Try.func6, Try.ntmps6
    go_wp2_with fail
    refine (dwakes_any _).mono ?_
    rintro e w1 ⟨rfl, b1⟩
    have ka : Blk w1 w.heap.size (datC a) 26 := (((Blk.new w (datC a) 26).alloc _).alloc _).below b1 (by simp; omega)
    have kt : Blk w1 (w.heap.size + 1 + 1) #[.int .u32 o, .int .u32 x] 41 := (Blk.new_ _ _ _ (by simp)).below b1 (by simp)
    have B1 : Below w.heap.size w w1 := ((((Below.refl _ w).alloc (Nat.le_refl _) _).alloc (by simp) _).alloc (by simp; omega) _).trans (b1.mono (by simp; omega))
    have t0 : w1.cell? ⟨w.heap.size + 1 + 1, 0, none⟩ = some (.int .u32 o) := kt.cell 0
    have t1 : w1.cell? ⟨w.heap.size + 1 + 1, 1, none⟩ = some (.int .u32 x) := kt.cell 1
    clear b1
    go_wp2_with (refine wpList_load_at (by rfl) 26 (.tmp 3) rfl w.heap.size rfl 26 (datC a) _ ka Try.underlying26 rfl dat_info ?_)
    refine (hW _).mono ?_
    rintro e w2 ⟨rfl, b2⟩
    have B2 := B1.trans (b2.mono B1.size)
    replace kt := kt.below b2 kt.lt
    have z2 := kt.lt
    clear t0 t1 b2 B1 ka
    unfold datV
    go_wp2_with (first
      | (refine wpList_store_blk rfl 26 (.tmp 7) (.tmp 23) rfl w2.heap.size _ (datC dat0) 26 rfl rfl (Blk.new_ w2 _ _ rfl) rfl dat_info d0 ?_
         intro w3 kx n3
         have t0 : w3.cell? ⟨w.heap.size + 1 + 1, 0, none⟩ = some (.int .u32 o) := (n3.blk (kt.alloc _) (by omega)).cell 0
         have B3 : Below w.heap.size w w3 := (B2.alloc (by omega) _).trans (n3.below _ (by omega) (by simp; omega))
         clear n3))
    go_ret
    exact ⟨rfl, B3⟩
  · have h4' : (o % 4 != 0) = true := by simpa using h4
    clear hq hr
    go_enter Try.func6, Try.ntmps6
    go_wp2_with fail
    refine (dwakes_any _).mono ?_
    rintro e w1 ⟨rfl, b1⟩
    have ka : Blk w1 w.heap.size (datC a) 26 := (((Blk.new w (datC a) 26).alloc _).alloc _).below b1 (by simp; omega)
    have kt : Blk w1 (w.heap.size + 1 + 1) #[.int .u32 o, .int .u32 x] 41 := (Blk.new_ _ _ _ (by simp)).below b1 (by simp)
    have B1 : Below w.heap.size w w1 := ((((Below.refl _ w).alloc (Nat.le_refl _) _).alloc (by simp) _).alloc (by simp; omega) _).trans (b1.mono (by simp; omega))
    have t0 : w1.cell? ⟨w.heap.size + 1 + 1, 0, none⟩ = some (.int .u32 o) := kt.cell 0
    have t1 : w1.cell? ⟨w.heap.size + 1 + 1, 1, none⟩ = some (.int .u32 x) := kt.cell 1
    clear b1
    go_wp2_with (refine wpList_load_at (by rfl) 26 (.tmp 3) rfl w.heap.size rfl 26 (datC a) _ ka Try.underlying26 rfl dat_info ?_)
    refine (hW _).mono ?_
    rintro e w2 ⟨rfl, b2⟩
    have B2 := B1.trans (b2.mono B1.size)
    replace kt := kt.below b2 kt.lt
    have z2 := kt.lt
    clear t0 t1 b2 B1 ka
    unfold datV
    go_wp2_with (first
      | (refine wpList_store_blk rfl 26 (.tmp 7) (.tmp 23) rfl w2.heap.size _ (datC dat0) 26 rfl rfl (Blk.new_ w2 _ _ rfl) rfl dat_info d0 ?_
         intro w3 kx n3
         have t0 : w3.cell? ⟨w.heap.size + 1 + 1, 0, none⟩ = some (.int .u32 o) := (n3.blk (kt.alloc _) (by omega)).cell 0
         have B3 : Below w.heap.size w w3 := (B2.alloc (by omega) _).trans (n3.below _ (by omega) (by simp; omega))
         clear n3))
    go_ret
    exact ⟨rfl, B3⟩

theorem once_walk (a b : Dat) (ha : DatOk a) (hb : DatOk b) (o x : Int) (ho : U32 o) (hx : U32 x) (w : World) :
    Calls Try.prog 6 #[datV a, datV b, .agg #[.int .u32 o, .int .u32 x]] w fun e w' => e = .returned (.bool true) ∧ Below w.heap.size w w' := by
  cases hr : rightB o
  · exact once_no a b o x ho hr w
  · obtain ⟨k, hk, e1, e2⟩ := right_parts o ho hr
    subst e2
    exact once_ok a b ha hb k hk x hx w
end Go.Proofs.Ytpehbpjgbjlbjaa

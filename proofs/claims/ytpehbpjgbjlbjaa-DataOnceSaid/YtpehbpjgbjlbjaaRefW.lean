/-
  The reference's Decode, Word and With.
-/
import Derived.Test.YtpehbpjgbjlbjaaRefO
import Derived.Test.YtpehbpjgbjlbjaaDatB
import Derived.Test.YtpehbpjgbjlbjaaStep
namespace Go.Proofs.Ytpehbpjgbjlbjaa
open Go.RowKit

set_option maxHeartbeats 1000000 in
theorem rdecode_any (A : Option Addr) (n c : Nat) (l : List Int) (w : World) (hr : Rd w w.heap.size A n l) (hc : n ≤ c) :
    Calls Try.prog 9 #[.slice A n c] w fun e w' => e = .returned (.tuple #[datV (decD l), .int .i64 (decE l)]) ∧ Below w.heap.size w w' := by
  have hl := hr.len
  unfold decD decE
  rw [hl]
  rcases Nat.lt_trichotomy n 64 with h | h | h
  · rw [if_neg (by omega), if_neg (by omega), if_pos h]
    clear hl
    have h' : (n : Int) < 64 := by omega
    go_enter Try.func9, Try.ntmps9
    go_wp2
    refine bodyPost_ret (v := .tuple #[datV dat0, .int .i64 7]) (by simp [results, Try.f9, go_sem, datV, datC, dat0]) rfl ?_
    exact ⟨rfl, (Below.refl _ w).alloc (Nat.le_refl _) _⟩
  · subst h
    clear hl
    rw [if_pos rfl, if_pos rfl]
    have hone := dat_one (joinD (wordsB l))
    go_enter Try.func9, Try.ntmps9
    go_wp2_with fail
    refine (of_any A c l _ ((hr.alloc_ (Nat.le_refl _) _).more (by simp)) hc).mono ?_
    rintro e w3 ⟨rfl, hb3⟩
    have b1 := (Blk.new w (datC dat0) 26).below hb3 (by simp)
    have B3 : Below w.heap.size w w3 := ((Below.refl _ w).alloc (Nat.le_refl _) _).trans (hb3.mono (by simp))
    unfold datV
    go_wp2_with (refine wpList_store_blk rfl 26 (.tmp 2) (.tmp 13) rfl w.heap.size _ (datC (joinD (wordsB l))) 26 rfl rfl b1 rfl dat_info hone ?_; intro w9 hw9 hn9)
    refine bodyPost_ret (v := .tuple #[datV (joinD (wordsB l)), .int .i64 0]) (results_row_tmp rfl _ _ w.heap.size 26 (datC (joinD (wordsB l))) (0, 0) _ rfl hw9.blk Try.underlying26 rfl dat_info _ rfl) rfl ?_
    exact ⟨rfl, B3.trans (hn9.below w.heap.size (Nat.le_refl _) B3.size)⟩
  · rw [if_neg (by omega), if_neg (by omega), if_neg (by omega)]
    clear hl
    have h' : (64 : Int) < n := by omega
    have h'' : ¬ (n : Int) < 64 := by omega
    go_enter Try.func9, Try.ntmps9
    go_wp2
    refine bodyPost_ret (v := .tuple #[datV dat0, .int .i64 3]) (by simp [results, Try.f9, go_sem, datV, datC, dat0]) rfl ?_
    exact ⟨rfl, (Below.refl _ w).alloc (Nat.le_refl _) _⟩

theorem right_mul (k : Nat) (hk : k < 16) : rightB (4 * (k : Int)) = true := by unfold rightB; simp; omega
theorem mul_U32 (k : Nat) (hk : k < 16) : U32 (4 * (k : Int)) := by unfold U32; omega
theorem datB_byt (d : Dat) : Byt (datB d) := by
  rw [datB_wb]
  intro z hz
  simp only [wb, List.mem_flatMap] at hz
  obtain ⟨i, _, h⟩ := hz
  exact low_byt _ _ z h

set_option maxHeartbeats 1000000 in
theorem rword_no (d : Dat) (o : Int) (ho : U32 o) (hr : rightB o = false) (w : World) :
    Calls Try.prog 14 #[datV d, .int .u32 o] w fun e w' => e = .returned (.tuple #[.int .u32 0, .int .i64 2]) ∧ Below w.heap.size w w' := by
  have H := right_any o ho
  rw [hr] at H
  clear hr
  unfold datV datC
  go_enter Try.func14, Try.ntmps14
  go_wp2_with fail
  refine (H _).mono ?_
  rintro e w' ⟨rfl, rfl⟩
  go_wp2_with fail
  go_ret2
  exact ⟨rfl, (Below.refl _ _).alloc (Nat.le_refl _) _⟩

set_option maxHeartbeats 1000000 in
theorem rwith_no (d : Dat) (o x : Int) (ho : U32 o) (hr : rightB o = false) (w : World) :
    Calls Try.prog 16 #[datV d, .int .u32 o, .int .u32 x] w fun e w' => e = .returned (.tuple #[datV dat0, .int .i64 2]) ∧ Below w.heap.size w w' := by
  have H := right_any o ho
  rw [hr] at H
  clear hr
  unfold datV datC
  go_enter Try.func16, Try.ntmps16
  go_wp2_with fail
  refine (H _).mono ?_
  rintro e w' ⟨rfl, rfl⟩
  go_wp2_with fail
  refine bodyPost_ret (v := .tuple #[datV dat0, .int .i64 2]) (by simp [results, Try.f16, go_sem, datV, datC, dat0]) rfl ?_
  exact ⟨rfl, ((Below.refl _ _).alloc (Nat.le_refl _) _).alloc (by simp) _⟩

set_option maxHeartbeats 2000000 in
theorem rword_ok (d : Dat) (h : DatOk d) (k : Nat) (hk : k < 16) (w : World) :
    Calls Try.prog 14 #[datV d, .int .u32 (4 * (k : Int))] w fun e w' => e = .returned (.tuple #[.int .u32 ((wordsL d).getD k 0), .int .i64 0]) ∧ Below w.heap.size w w' := by
  have H := right_any _ (mul_U32 k hk)
  rw [right_mul k hk] at H
  have hx : (wordsL d).getD k 0 = nAt (datB d) (4 * k) 4 := by rw [← words_datB d h, nAt4 _ k hk]
  have hb := nAt_bd (datB_byt d) (4 * k)
  obtain ⟨x, hx'⟩ : ∃ x, nAt (datB d) (4 * k) 4 = x := ⟨_, rfl⟩
  rw [hx, hx']
  rw [hx'] at hb
  have HX := Lib.hid hx'
  obtain ⟨x0, x1⟩ := hb
  have s0 : IntKind.u32.wrap x = x := by rw [IntKind.wrap_u32]; omega
  clear hx hx'
  have B := fun w => rbytes_any d h w
  rw [datV_eq] at B ⊢
  have t0 : (0 : Int) ≤ 4 * k := by omega
  have t1 : (4 * (k : Int)) ≤ 60 := by omega
  go_enter Try.func14, Try.ntmps14
  go_wp2_with fail
  refine (H _).mono ?_
  rintro e w' ⟨rfl, rfl⟩
  go_wp2_with fail
  refine (B _).mono ?_
  rintro e w2 ⟨A, c, rfl, hO, b2⟩
  have hc := hO.cap
  obtain ⟨g, rfl, hg1, hg2⟩ := hO.head (by omega)
  have t2 : (4 * (k : Int) + 4) ≤ c := by omega
  have t3 : ¬ c = 4 * k := by omega
  have R := hO.rd
  have N := refnum_mid (o := 4 * k) (m := 4) (c := c - 4 * k) (w' := w2) R (by omega) (by omega) (by omega) (fun _ _ => rfl)
  rw [HX.out, Nat.zero_add] at N
  have HN := Lib.hid N
  clear N
  go_wp2_with fail
  refine HN.out.mono ?_
  rintro e w' ⟨rfl, rfl⟩
  go_wp2_with fail
  go_ret2
  exact ⟨rfl, ((Below.refl _ w).alloc (Nat.le_refl _) _).trans (b2.mono (by simp))⟩

/-- The bytes while four of them are put in. -/
def bs (l : List Int) (k : Nat) (x : Int) (j : Nat) : List Int := l.take (4 * k) ++ ((low x 4).take j ++ l.drop (4 * k + j))
theorem bs_len (l : List Int) (hl : l.length = 64) (k : Nat) (hk : k < 16) (x : Int) (j : Nat) (hj : j ≤ 4) : (bs l k x j).length = 64 := by
  simp [bs, low_length, hl]; omega
theorem bs_byt {l : List Int} (h : Byt l) (k : Nat) (x : Int) (j : Nat) : Byt (bs l k x j) := (h.take _).append (((low_byt x 4).take j).append (h.drop _))
theorem bs_zero (l : List Int) (k : Nat) (x : Int) : bs l k x 0 = l := by simp [bs]
theorem bs_step (l : List Int) (hl : l.length = 64) (k : Nat) (hk : k < 16) (x : Int) (j : Nat) (hj : j < 4) : (bs l k x j).set (4 * k + j) (byt x j) = bs l k x (j + 1) := by
  have e1 : (l.take (4 * k)).length = 4 * k := by rw [List.length_take]; omega
  have e2 : ((low x 4).take j).length = j := by rw [List.length_take, low_length]; omega
  have e3 : (low x 4).take (j + 1) = (low x 4).take j ++ [byt x j] := by rw [take_succ _ j (by rw [low_length]; exact hj), low_getD x 4 j hj]
  have e4 : l.drop (4 * k + j) = l.getD (4 * k + j) 0 :: l.drop (4 * k + (j + 1)) := by
    rw [List.drop_eq_getElem_cons (by omega)]
    simp [List.getD, show 4 * k + j < l.length by omega, Nat.add_assoc]
  unfold bs
  rw [List.set_append_right _ _ (by omega), List.set_append_right _ _ (by omega), e3, e4, e1, e2]
  rw [show 4 * k + j - 4 * k - j = 0 by omega]
  simp
theorem bs_words (d : Dat) (h : DatOk d) (k : Nat) (hk : k < 16) (x : Int) (hx : U32 x) : wordsB (bs (datB d) k x 4) = (wordsL d).set k x := by
  have hl := datB_len d
  apply List.ext_getElem?
  intro i
  rcases Nat.lt_or_ge i 16 with hi | hi
  · rw [get_getD _ i (by rw [wordsB_len]; exact hi), get_getD _ i (by rw [List.length_set, words_len]; exact hi), wordsB_get _ i hi]
    congr 1
    have e1 : ((datB d).take (4 * k)).length = 4 * k := by rw [List.length_take]; omega
    have e2 : ((low x 4).take 4) = low x 4 := List.take_of_length_le (by rw [low_length]; omega)
    unfold bs
    rw [e2]
    rcases Nat.lt_trichotomy i k with h1 | h1 | h1
    · have e3 : ((wordsL d).set k x).getD i 0 = (wordsL d).getD i 0 := by simp [List.getD, List.getElem?_set_ne (show k ≠ i by omega)]
      rw [e3, ← words_datB d h, wordsB_get _ i hi, List.drop_append_of_le_length (by omega), List.take_append_of_le_length (by rw [List.length_drop]; omega), List.drop_take, List.take_take, Nat.min_eq_left (by omega)]
    · subst h1
      have e3 : ((wordsL d).set i x).getD i 0 = x := by simp [List.getD, words_len, hi]
      rw [e3, List.drop_append, List.drop_eq_nil_of_le (by omega), e1, Nat.sub_self, List.drop_zero, List.nil_append, List.take_append_of_le_length (by rw [low_length]; omega), List.take_of_length_le (by rw [low_length]; omega), num_low4 x hx]
    · have e3 : ((wordsL d).set k x).getD i 0 = (wordsL d).getD i 0 := by simp [List.getD, List.getElem?_set_ne (show k ≠ i by omega)]
      rw [e3, ← words_datB d h, wordsB_get _ i hi, List.drop_append, List.drop_eq_nil_of_le (by omega), e1, List.nil_append, List.drop_append, List.drop_eq_nil_of_le (by rw [low_length]; omega), low_length, List.nil_append, List.drop_drop]
      rw [show 4 * k + 4 + (4 * i - 4 * k - 4) = 4 * i by omega]
  · rw [List.getElem?_eq_none (by rw [wordsB_len]; exact hi), List.getElem?_eq_none (by rw [List.length_set, words_len]; exact hi)]

section
variable {w w' : World} {base n c g : Nat} {A : Option Addr} {l : List Int}
theorem Ow.far (h : Ow w base A n c l) {p : Addr} (hp : p.block < base) (u : Value) : Ow (w.setCell p u) base A n c l := by
  refine ⟨⟨h.own.1, ?_⟩, h.byt⟩
  rcases h.own.2 with h0 | ⟨g, cap, cur, hv, hg, hh, r⟩
  · exact .inl h0
  · exact .inr ⟨g, cap, cur, hv, hg, (Below.heap_setCell w p u g (by omega)).trans hh, r⟩
theorem Ow.at_ (h : Ow w base (some ⟨g, 0, none⟩) n c l) {k : Nat} (hk : k < n) : w.cell? ⟨g, k, none⟩ = some (.int .u8 (l.getD k 0)) ∧ w.frozen? ⟨g, k, none⟩ = false := by
  obtain ⟨b, off, e, _, hc⟩ := h.rd.at_ hk
  injection e with e
  injection e with e1 e2
  subst e1 e2
  refine ⟨by simpa using hc, ?_⟩
  rcases h.own.2 with ⟨hv, _⟩ | ⟨g', cap, cur, hv, hg, hh, r⟩
  · cases hv
  · injection hv with e3
    injection e3 with e3
    injection e3 with e3
    subst e3
    simp [World.frozen?, hh]
theorem Ow.set_ (h : Ow w base (some ⟨g, 0, none⟩) n c l) {k : Nat} (_hk : k < n) (z : Int) (hz : 0 ≤ z ∧ z ≤ 255) : Ow (w.setCell ⟨g, k, none⟩ (.int .u8 z)) base (some ⟨g, 0, none⟩) n c (l.set k z) := by
  refine ⟨⟨?_, ?_⟩, fun y hy => ?_⟩
  · rw [bv_length, List.length_set, h.len, Nat.mul_one]
  · rcases h.own.2 with ⟨hv, _⟩ | ⟨g', cap, cur, hv, hg, hh, h1, h2, h3, h4⟩
    · cases hv
    · have hv' := hv
      injection hv' with e3
      injection e3 with e3
      injection e3 with e3
      subst e3
      refine .inr ⟨g, cap, cur.setIfInBounds k (.int .u8 z), hv, hg, by simp [World.setCell, Array.getElem?_modify, hh], h1, h2, by simpa using h3, ?_⟩
      rw [Nat.mul_one] at h4 ⊢
      rw [Array.toList_setIfInBounds, List.take_set, h4]
      simp [bv, List.map_set]
  · rcases List.mem_or_eq_of_mem_set hy with h1 | h1
    · exact h.byt y h1
    · subst h1; exact hz
end

set_option maxHeartbeats 2000000 in
theorem rwith_ok (d : Dat) (h : DatOk d) (k : Nat) (hk : k < 16) (x : Int) (hx : U32 x) (w : World) :
    Calls Try.prog 16 #[datV d, .int .u32 (4 * (k : Int)), .int .u32 x] w fun e w' => e = .returned (.tuple #[datV (joinD ((wordsL d).set k x)), .int .i64 0]) ∧ Below w.heap.size w w' := by
  have H := right_any _ (mul_U32 k hk)
  rw [right_mul k hk] at H
  have HW := Lib.hid (bs_words d h k hk x hx)
  have B := fun w => rbytes_any d h w
  rw [datV_eq d] at B ⊢
  have t0 : (0 : Int) ≤ 4 * k := by omega
  have t1 : (4 * (k : Int)) ≤ 60 := by omega
  obtain ⟨x0, x1⟩ := hx
  go_enter Try.func16, Try.ntmps16
  go_wp2_with fail
  refine (H _).mono ?_
  rintro e w' ⟨rfl, rfl⟩
  go_wp2_with fail
  refine (B _).mono ?_
  rintro e w2 ⟨A, c, rfl, hO, b2⟩
  have k6 : Blk w2 (w.heap.size + 1) (datC dat0) 26 := (Blk.new_ _ (datC dat0) 26 (by simp)).below b2 (by simp)
  have B2 : Below w.heap.size w w2 := ((((Below.refl _ w).alloc (Nat.le_refl _) _).alloc (by simp) _).trans (b2.mono (by simp; omega)))
  have hc := hO.cap
  obtain ⟨g, rfl, hg1, hg2⟩ := hO.head (by omega)
  simp only [World.size_alloc] at hg1
  clear b2
  go_wp2_with fail
  refine (low_own x 4 w2 (by omega)).mono ?_
  rintro e w3 ⟨A1, c1, rfl, hL, b3⟩
  have O3 := hO.below b3 (Nat.le_refl _)
  have k3 := k6.below b3 k6.lt
  have B3 := B2.trans (b3.mono B2.size)
  simp only [World.size_alloc] at O3
  have hlen := Lib.hid (datB_len d)
  have hbt := Lib.hid (datB_byt d)
  have z2 := k6.lt
  clear hO b3 k6 B2
  go_wp2_with fail
  go_loopw [10] (fun i wr => ∃ j : Nat, j ≤ 4 ∧ i = .int .i64 j ∧ Ow wr (w.heap.size + 1 + 1) (some ⟨g, 0, none⟩) 64 c (bs (datB d) k x j) ∧ Ow wr w2.heap.size A1 4 c1 (low x 4) ∧ Blk wr (w.heap.size + 1) (datC dat0) 26 ∧ Below w.heap.size w wr) (fun i _ => 4 - (intOf i).toNat)
  case atStart => exact ⟨0, by omega, rfl, by rw [bs_zero]; exact O3, hL, k3, B3⟩
  case round =>
    obtain ⟨j, hj, rfl, ho, hl, hk2, hb⟩ := hrel
    by_cases hlt : j < 4
    · have hlt' : (j : Int) < 4 := by omega
      obtain ⟨g1, rfl, hg3, _⟩ := hl.head (by omega)
      obtain ⟨c9, f9⟩ := ho.at_ (k := 4 * k + j) (by omega)
      obtain ⟨c8, _⟩ := hl.at_ hlt
      rw [low_getD x 4 j hlt] at c8
      obtain ⟨y0, y1⟩ := byt_bd x j
      have hst := Lib.hid (bs_step (datB d) hlen.out k hk x j hlt)
      have hset := Lib.hid (ho.set_ (k := 4 * k + j) (by omega) (byt x j) ⟨y0, y1⟩)
      have t2 : (4 * (k : Int) + j) < 64 := by omega
      have t3 : (0 : Int) ≤ 4 * k + j := by omega
      go_wp2_with fail
      refine ⟨⟨j + 1, by omega, by go_num, ?_, hl.far (by simp; omega) _, hk2.far (by simp; omega) _, hb.setCell (by simp; omega) _⟩, by simp [intOf]; omega⟩
      rw [← hst.out]
      exact hset.out
    · obtain rfl : j = 4 := by omega
      have R := ho.rd
      go_wp2_with fail
      refine (of_any _ c _ wr R (by omega)).mono ?_
      rintro e w7 ⟨rfl, b7⟩
      rw [HW.out]
      have K7 := hk2.below b7 hk2.lt
      have B7 := hb.trans (b7.mono hb.size)
      unfold datV
      go_wp2_with (refine wpList_store_blk rfl 26 (.tmp 6) (.tmp 35) rfl (w.heap.size + 1) _ (datC (joinD ((wordsL d).set k x))) 26 rfl rfl K7 rfl dat_info (dat_one _) ?_; intro w9 hw9 hn9)
      refine bodyPost_ret (v := .tuple #[datV (joinD ((wordsL d).set k x)), .int .i64 0]) (results_row_tmp rfl _ _ (w.heap.size + 1) 26 (datC (joinD ((wordsL d).set k x))) (0, 0) _ rfl hw9.blk Try.underlying26 rfl dat_info _ rfl) rfl ?_
      exact ⟨rfl, B7.trans (hn9.below w.heap.size (by omega) B7.size)⟩
end Go.Proofs.Ytpehbpjgbjlbjaa

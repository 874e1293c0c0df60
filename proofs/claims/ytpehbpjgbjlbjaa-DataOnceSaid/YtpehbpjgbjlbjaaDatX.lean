/-
  DataWords: the walk.
-/
import Derived.Test.YtpehbpjgbjlbjaaRefW
namespace Go.Proofs.Ytpehbpjgbjlbjaa
open Go.RowKit

theorem word_index' (l : List Int) (hl : l.length = 16) (k : Nat) (hk : k < 16) : ∀ w : World, (Instr.index 38 (arrV l) (.int .i64 k)).run Try.prog w = .ok (.int .u32 (l.getD k 0)) w := by
  match l, hl with
  | [x0, x1, x2, x3, x4, x5, x6, x7, x8, x9, x10, x11, x12, x13, x14, x15], _ =>
    match k, hk with
    | 0, _ => intro V; kernel_rfl
    | 1, _ => intro V; kernel_rfl
    | 2, _ => intro V; kernel_rfl
    | 3, _ => intro V; kernel_rfl
    | 4, _ => intro V; kernel_rfl
    | 5, _ => intro V; kernel_rfl
    | 6, _ => intro V; kernel_rfl
    | 7, _ => intro V; kernel_rfl
    | 8, _ => intro V; kernel_rfl
    | 9, _ => intro V; kernel_rfl
    | 10, _ => intro V; kernel_rfl
    | 11, _ => intro V; kernel_rfl
    | 12, _ => intro V; kernel_rfl
    | 13, _ => intro V; kernel_rfl
    | 14, _ => intro V; kernel_rfl
    | 15, _ => intro V; kernel_rfl
    | n + 16, h => exact absurd h (by omega)
/-- What With answers. -/
def withD (d : Dat) (o x : Int) : Dat := if rightB o then joinD ((wordsL d).set (o / 4).toNat x) else dat0
def withE (o : Int) : Int := if rightB o then 0 else 2
def wordX (d : Dat) (o : Int) : Int := if rightB o then (wordsL d).getD (o / 4).toNat 0 else 0
theorem word_any (d : Dat) (h : DatOk d) (o : Int) (ho : U32 o) (w : World) :
    Calls Try.prog 13 #[datV d, .int .u32 o] w fun e w' => e = .returned (.tuple #[.int .u32 (wordX d o), .int .i64 (withE o)]) ∧ Below w.heap.size w w' := by
  unfold wordX withE
  cases hr : rightB o
  · exact word_no d o ho hr w
  · obtain ⟨k, hk, e1, e2⟩ := right_parts o ho hr
    have e3 : (o / 4).toNat = k := by omega
    rw [e3]
    exact word_ok d h o ho hr k hk e1 w
theorem with_any (d : Dat) (h : DatOk d) (o x : Int) (ho : U32 o) (hx : U32 x) (w : World) :
    Calls Try.prog 15 #[datV d, .int .u32 o, .int .u32 x] w fun e w' => e = .returned (.tuple #[datV (withD d o x), .int .i64 (withE o)]) ∧ Below w.heap.size w w' := by
  unfold withD withE
  cases hr : rightB o
  · exact with_no d o x ho hr w
  · obtain ⟨k, hk, e1, e2⟩ := right_parts o ho hr
    have e3 : (o / 4).toNat = k := by omega
    rw [e3]
    exact with_ok d h o x ho hx hr k hk e1 w
theorem rword_any (d : Dat) (h : DatOk d) (o : Int) (ho : U32 o) (w : World) :
    Calls Try.prog 14 #[datV d, .int .u32 o] w fun e w' => e = .returned (.tuple #[.int .u32 (wordX d o), .int .i64 (withE o)]) ∧ Below w.heap.size w w' := by
  unfold wordX withE
  cases hr : rightB o
  · exact rword_no d o ho hr w
  · obtain ⟨k, hk, e1, e2⟩ := right_parts o ho hr
    have e3 : (o / 4).toNat = k := by omega
    rw [e3]
    subst e2
    exact rword_ok d h k hk w
theorem rwith_any (d : Dat) (h : DatOk d) (o x : Int) (ho : U32 o) (hx : U32 x) (w : World) :
    Calls Try.prog 16 #[datV d, .int .u32 o, .int .u32 x] w fun e w' => e = .returned (.tuple #[datV (withD d o x), .int .i64 (withE o)]) ∧ Below w.heap.size w w' := by
  unfold withD withE
  cases hr : rightB o
  · exact rwith_no d o x ho hr w
  · obtain ⟨k, hk, e1, e2⟩ := right_parts o ho hr
    have e3 : (o / 4).toNat = k := by omega
    rw [e3]
    subst e2
    exact rwith_ok d h k hk x hx w

set_option maxHeartbeats 4000000 in
theorem dwords_walk (d : Dat) (hd : DatOk d) (o x : Int) (ho : U32 o) (hx : U32 x) (w : World) :
    Calls Try.prog 4 #[datV d, .int .u32 o, .int .u32 x] w fun e w' => e = .returned (.bool true) ∧ Below w.heap.size w w' := by
  have C1 := fun w => word_any d hd o ho w
  have C2 := fun w => rword_any d hd o ho w
  have C3 := fun w => with_any d hd o x ho hx w
  have C4 := fun w => rwith_any d hd o x ho hx w
  have C5 := fun w => words_any d hd w
  obtain ⟨X, hX⟩ : ∃ X, withD d o x = X := ⟨_, rfl⟩
  obtain ⟨E, hE⟩ : ∃ E, withE o = E := ⟨_, rfl⟩
  obtain ⟨Y, hY⟩ : ∃ Y, wordX d o = Y := ⟨_, rfl⟩
  rw [hE, hY] at C1 C2
  rw [hX, hE] at C3 C4
  clear hX hE hY
  have HL := Lib.hid (words_len d)
  have HW := Lib.hid (words_bd d hd)
  have d1 := dat_one X
  rw [datV_eq d]
  go_enter Try.func4, Try.ntmps4
  go_wp2_with fail
  refine (dwakes_any _).mono ?_
  rintro e w1 ⟨rfl, b1⟩
  have k1 : Blk w1 w.heap.size (datC d) 26 := (Blk.new w (datC d) 26).below b1 (by simp)
  have B1 : Below w.heap.size w w1 := ((Below.refl _ w).alloc (Nat.le_refl _) _).trans (b1.mono (by simp))
  clear b1
  go_wp2_with (refine wpList_load_at (by rfl) 26 (.tmp 3) rfl w.heap.size rfl 26 (datC d) _ k1 Try.underlying26 rfl dat_info ?_)
  refine (C1 _).mono ?_
  rintro e w2 ⟨rfl, b2⟩
  have k2 := k1.below b2 k1.lt
  have B2 := B1.trans (b2.mono B1.size)
  clear k1 b2 B1
  go_wp2_with (refine wpList_load_at (by rfl) 26 (.tmp 3) rfl w.heap.size rfl 26 (datC d) _ k2 Try.underlying26 rfl dat_info ?_)
  refine (C2 _).mono ?_
  rintro e w3 ⟨rfl, b3⟩
  have k3 := k2.below b3 k2.lt
  have B3 := B2.trans (b3.mono B2.size)
  clear k2 b3 B2
  go_wp2_with (refine wpList_load_at (by rfl) 26 (.tmp 3) rfl w.heap.size rfl 26 (datC d) _ k3 Try.underlying26 rfl dat_info ?_)
  refine (C3 _).mono ?_
  rintro e w4 ⟨rfl, b4⟩
  have k4 := k3.below b4 k3.lt
  have B4 := B3.trans (b4.mono B3.size)
  have z4 := k4.lt
  clear k3 b4 B3
  unfold datV
  go_wp2_with (first
    | (refine wpList_store_blk rfl 26 (.tmp 11) (.tmp 38) rfl w4.heap.size _ (datC X) 26 rfl rfl (Blk.new_ w4 _ _ rfl) rfl dat_info d1 ?_
       intro w5 k11 n5
       have z5 := n5.size
       simp only [World.size_alloc] at z5
       have k5 := n5.blk (k4.alloc _) (by omega)
       have B5 : Below w.heap.size w w5 := (B4.alloc (by omega) _).trans (n5.below _ (by omega) (by simp; omega))
       clear n5 k4 B4)
    | (refine wpList_load_at (by rfl) 26 (.tmp 3) rfl w.heap.size rfl 26 (datC d) _ k5 Try.underlying26 rfl dat_info ?_))
  refine (C4 _).mono ?_
  rintro e w6 ⟨rfl, b6⟩
  have k6 := k5.below b6 k5.lt
  have k11' := k11.below b6 k11.lt
  have B6 := B5.trans (b6.mono B5.size)
  have z6 := k6.lt
  have z11 := k11'.lt
  clear k5 k11 b6 B5
  unfold datV
  go_wp2_with (first
    | (refine wpList_store_blk rfl 26 (.tmp 13) (.tmp 45) rfl w6.heap.size _ (datC X) 26 rfl rfl (Blk.new_ w6 _ _ rfl) rfl dat_info d1 ?_
       intro w7 k13 n7
       have z7 := n7.size
       simp only [World.size_alloc] at z7
       have k7 := n7.blk (k6.alloc _) (by omega)
       have k11 := n7.blk (k11'.alloc _) (by omega)
       have B7 : Below w.heap.size w w7 := (B6.alloc (by omega) _).trans (n7.below _ (by omega) (by simp; omega))
       clear n7 k6 B6 k11')
    | (refine wpList_load_at (by rfl) 26 (.tmp 11) rfl w4.heap.size rfl 26 (datC X) _ k11 Try.underlying26 rfl dat_info ?_)
    | (refine wpList_load_at (by rfl) 26 (.tmp 13) rfl w6.heap.size rfl 26 (datC X) _ k13 Try.underlying26 rfl dat_info ?_)
    | (refine wpList_neq_dat (by rfl) (.tmp 56) (.tmp 57) rfl X X rfl rfl _ (dat_neq_self X) ?_)
    | (refine wpList_load_at (by rfl) 26 (.tmp 3) rfl w.heap.size rfl 26 (datC d) _ k7 Try.underlying26 rfl dat_info ?_))
  refine (C5 _).mono ?_
  rintro e w8 ⟨rfl, b8⟩
  have k8 := k7.below b8 k7.lt
  have B8 := B7.trans (b8.mono B7.size)
  clear k7 k11 k13 B7 b8 C1 C2 C3 C4 C5 d1
  go_wp2_with fail
  go_loopw [67] (fun i wr => ∃ k : Nat, k ≤ 16 ∧ i = .int .i64 k ∧ Blk wr w.heap.size (datC d) 26 ∧ Below w.heap.size w wr) (fun i _ => 16 - (intOf i).toNat)
  case atStart => exact ⟨0, Nat.zero_le _, rfl, k8, B8⟩
  case round =>
    obtain ⟨k, hk, rfl, kr, hb⟩ := hrel
    by_cases hlt : k < 16
    · have hlt' : (k : Int) < 16 := by omega
      have hi := word_index' (wordsL d) HL.out k hlt
      have R := rword_ok d hd k hlt wr
      obtain ⟨y, hy⟩ : ∃ y, (wordsL d).getD k 0 = y := ⟨_, rfl⟩
      rw [hy] at hi R
      clear hy
      have s1 : IntKind.u32.wrap (4 * (k : Int)) = 4 * k := by rw [IntKind.wrap_u32]; omega
      have RH := Lib.hid R
      clear R
      go_wp2_with (refine wpList_load_at (by rfl) 26 (.tmp 3) rfl w.heap.size rfl 26 (datC d) _ kr Try.underlying26 rfl dat_info ?_)
      refine RH.out.mono ?_
      rintro e w9 ⟨rfl, b9⟩
      go_wp2_with fail
      exact ⟨⟨k + 1, by omega, by go_num, kr.below b9 kr.lt, hb.trans (b9.mono hb.size)⟩, by simp [intOf]; omega⟩
    · obtain rfl : k = 16 := by omega
      go_wp2
      go_ret
      exact ⟨rfl, hb⟩
end Go.Proofs.Ytpehbpjgbjlbjaa

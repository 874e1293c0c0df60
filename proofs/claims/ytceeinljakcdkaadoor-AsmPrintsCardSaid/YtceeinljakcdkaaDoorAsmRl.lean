/-
  The reference's line of an instruction.
-/
import Derived.Test.YtceeinljakcdkaaDoorAsmRg
namespace Go.Proofs.YtceeinljakcdkaaDoor
open Go.RowKit

/-! Texts joined. -/
theorem cat (P : Program) (a b : ByteArray) (h : a.size + b.size ≤ 100000) : ∃ s : ByteArray, s.data.toList = a.data.toList ++ b.data.toList ∧ s.size = a.size + b.size ∧ ∀ w : World, (Op.stringOp .add a b).run P w = .ok (.string s) w :=
  ⟨a ++ b, by simp, by simp, fun w => run_string_add_sum w a b (by omega)⟩
theorem bs_eq2 {s : ByteArray} {l : List UInt8} (h : s.data.toList = l) : s = bs l := by rw [← h, bs_of]
theorem digB_on {cnt x : Int} (h : ¬ cnt = 0) : digB cnt x = 32 :: Lib.decDigits x.toNat := by rw [digB, if_neg h]
theorem digB_off (x : Int) : digB 0 x = [] := rfl
structure LJ (g : Nat) (w : World) (cs : Array Value) (V : World) : Prop where
  ki : Blk V g cs 32
  old : Below w.heap.size w V
set_option maxRecDepth 100000 in
set_option maxHeartbeats 8000000 in
theorem rline_any (q : Ins) (hq : insO q) (hh : 0 ≤ formOf q.1) (w : World) :
    Calls Tryd.prog 12 #[valI q] w fun e w' => e = .returned (.string (bs (lineB q))) ∧ Below w.heap.size w w' := by
  obtain ⟨o1, o2, o3, o4, o5, o6, o7, o8⟩ := hq
  have hform := fun w => refform_any q.1 w o1
  have hname := fun w => refname_any q.1 w o1
  have hN := name_len q.1
  obtain ⟨c, a, b, k⟩ := q
  obtain ⟨a, rfl⟩ : ∃ n : Nat, a = (n : Int) := ⟨a.toNat, by simp only at o3; omega⟩
  obtain ⟨b, rfl⟩ : ∃ n : Nat, b = (n : Int) := ⟨b.toNat, by simp only at o5; omega⟩
  obtain ⟨k, rfl⟩ : ∃ n : Nat, k = (n : Int) := ⟨k.toNat, by simp only at o7; omega⟩
  simp only at o1 o2 o3 o4 o5 o6 o7 o8 hform hname hN hh
  have dA := fun w => rdigits_any a (by omega) w
  have dB := fun w => rdigits_any b (by omega) w
  have dK := fun w => rdigits_any k (by omega) w
  have zA := nDig_le (u := a) (by omega)
  have zB := nDig_le (u := b) (by omega)
  have zK := nDig_le (u := k) (by omega)
  obtain ⟨sA, hA⟩ : ∃ s, bs (Lib.decDigits a) = s := ⟨_, rfl⟩
  obtain ⟨sB, hB⟩ : ∃ s, bs (Lib.decDigits b) = s := ⟨_, rfl⟩
  obtain ⟨sK, hK⟩ : ∃ s, bs (Lib.decDigits k) = s := ⟨_, rfl⟩
  obtain ⟨N, hn⟩ : ∃ N, nameOf c = N := ⟨_, rfl⟩
  rw [hA] at dA
  rw [hB] at dB
  rw [hK] at dK
  have zA' : sA.size ≤ 20 := by rw [← hA, bs_size]; exact zA
  have zB' : sB.size ≤ 20 := by rw [← hB, bs_size]; exact zB
  have zK' : sK.size ≤ 20 := by rw [← hK, bs_size]; exact zK
  have vA : sA.data.toList = Lib.decDigits a := by rw [← hA, bs_list]
  have vB : sB.data.toList = Lib.decDigits b := by rw [← hB, bs_list]
  have vK : sK.data.toList = Lib.decDigits k := by rw [← hK, bs_list]
  rw [hn] at hN hname
  obtain ⟨N, N2⟩ := N
  simp only at hN hname
  have wA : IntKind.u32.wrap (a : Int) = (a : Int) := by rw [IntKind.wrap_u32]; omega
  have wB : IntKind.u32.wrap (b : Int) = (b : Int) := by rw [IntKind.wrap_u32]; omega
  have k0 : Blk (w.alloc (.cells (insC c a b k) 32)) w.heap.size (insC c a b k) 32 := Blk.new w _ _
  have B0 : Below w.heap.size w (w.alloc (.cells (insC c a b k) 32)) := (Below.refl _ w).alloc (Nat.le_refl _) _
  obtain ⟨sKn, e1, z1, r1⟩ := cat Tryd.prog ⟨#[32]⟩ sK (by show 1 + _ ≤ _; omega)
  obtain ⟨sNK, e2, z2, r2⟩ := cat Tryd.prog N sKn (by rw [z1]; show _ + (1 + _) ≤ _; omega)
  obtain ⟨sAn, e3, z3, r3⟩ := cat Tryd.prog ⟨#[32]⟩ sA (by show 1 + _ ≤ _; omega)
  obtain ⟨sAb, e4, z4, r4⟩ := cat Tryd.prog sAn ⟨#[32]⟩ (by rw [z3]; show (1 + _) + 1 ≤ _; omega)
  obtain ⟨sAB, e5, z5, r5⟩ := cat Tryd.prog sAb sB (by rw [z4, z3]; show ((1 + _) + 1) + _ ≤ _; omega)
  obtain ⟨s5, e6, z6, r6⟩ := cat Tryd.prog sNK sAB (by rw [z5, z4, z3, z2, z1]; show (_ + (1 + _)) + (((1 + _) + 1) + _) ≤ _; omega)
  obtain ⟨s6, e7, z7, r7⟩ := cat Tryd.prog N sAB (by rw [z5, z4, z3]; show _ + (((1 + _) + 1) + _) ≤ _; omega)
  have hln : lineB (c, a, b, k) = if formOf c = 0 then N.data.toList else if formOf c = 5 then s5.data.toList else if formOf c = 6 then s6.data.toList else sNK.data.toList := by
    rw [e6, e7, e5, e4, e3, e2, e1, vA, vB, vK]
    simp only [lineB, hn]
    rcases form_cases c with h | h | h | h | h | h | h | h
    · omega
    all_goals simp [bareK, bareJ, h, digB]
  have HL := Lib.hid hln
  clear e1 e2 e3 e4 e5 e6 e7 z1 z2 z3 z4 z5 z6 z7 vA vB vK zA zB zK zA' zB' zK' hA hB hK o1 o2 o3 o4 o5 o6 o7 o8 hN hn hln
  simp only [valI, insV]
  rcases form_cases c with h | h | h | h | h | h | h | h
  · omega
  · rw [h] at hform
    have hfin : bs (lineB (c, a, b, k)) = (if formOf c = 0 then N else if formOf c = 5 then s5 else if formOf c = 6 then s6 else sNK) := by
      rw [HL.out]
      repeat' split
      all_goals rw [bs_of]
    rw [h] at hfin
    generalize bs (lineB (c, (a : Int), (b : Int), (k : Int))) = L at hfin ⊢
    simp at hfin
    subst hfin
    clear HL h hh
    go_enter Tryd.func12, Tryd.ntmps12
    go_wp2_with (go_at_call 36; refine (hname _).mono ?_; rintro e w1 ⟨rfl, b1⟩; refine Hid.out ?_)
    refine Lib.hid ?_
    have k1 := k0.below b1 (by simp)
    have B1 := B0.trans (b1.mono (by simp))
    obtain ⟨x0, x1, x2, x3⟩ := ins_cells k1
    clear b1 x1 x2 x3
    go_wp2_with (go_at_call 34; refine (hform _).mono ?_; rintro e w2 ⟨rfl, b2⟩; refine Hid.out ?_)
    refine Lib.hid ?_
    have k2 := k1.below b2 (by have := k1.lt; omega)
    have B2 := B1.trans (b2.mono B1.size)
    obtain ⟨y0, y1, y2, y3⟩ := ins_cells k2
    clear x0 y0 k0 k1 B0 B1 b2 hname hform
    go_wp2_with (go_at_call 37; refine (dK _).mono ?_; rintro e w' ⟨rfl, e9⟩; obtain rfl := e9.symm)
    go_ret
    exact ⟨rfl, B2⟩
  · rw [h] at hform
    have hfin : bs (lineB (c, a, b, k)) = (if formOf c = 0 then N else if formOf c = 5 then s5 else if formOf c = 6 then s6 else sNK) := by
      rw [HL.out]
      repeat' split
      all_goals rw [bs_of]
    rw [h] at hfin
    generalize bs (lineB (c, (a : Int), (b : Int), (k : Int))) = L at hfin ⊢
    simp at hfin
    subst hfin
    clear HL h hh
    go_enter Tryd.func12, Tryd.ntmps12
    go_wp2_with (go_at_call 36; refine (hname _).mono ?_; rintro e w1 ⟨rfl, b1⟩; refine Hid.out ?_)
    refine Lib.hid ?_
    have k1 := k0.below b1 (by simp)
    have B1 := B0.trans (b1.mono (by simp))
    obtain ⟨x0, x1, x2, x3⟩ := ins_cells k1
    clear b1 x1 x2 x3
    go_wp2_with (go_at_call 34; refine (hform _).mono ?_; rintro e w2 ⟨rfl, b2⟩; refine Hid.out ?_)
    refine Lib.hid ?_
    have k2 := k1.below b2 (by have := k1.lt; omega)
    have B2 := B1.trans (b2.mono B1.size)
    obtain ⟨y0, y1, y2, y3⟩ := ins_cells k2
    clear x0 y0 k0 k1 B0 B1 b2 hname hform
    go_wp2_with (go_at_call 37; refine (dK _).mono ?_; rintro e w' ⟨rfl, e9⟩; obtain rfl := e9.symm)
    go_ret
    exact ⟨rfl, B2⟩
  · rw [h] at hform
    have hfin : bs (lineB (c, a, b, k)) = (if formOf c = 0 then N else if formOf c = 5 then s5 else if formOf c = 6 then s6 else sNK) := by
      rw [HL.out]
      repeat' split
      all_goals rw [bs_of]
    rw [h] at hfin
    generalize bs (lineB (c, (a : Int), (b : Int), (k : Int))) = L at hfin ⊢
    simp at hfin
    subst hfin
    clear HL h hh
    go_enter Tryd.func12, Tryd.ntmps12
    go_wp2_with (go_at_call 36; refine (hname _).mono ?_; rintro e w1 ⟨rfl, b1⟩; refine Hid.out ?_)
    refine Lib.hid ?_
    have k1 := k0.below b1 (by simp)
    have B1 := B0.trans (b1.mono (by simp))
    obtain ⟨x0, x1, x2, x3⟩ := ins_cells k1
    clear b1 x1 x2 x3
    go_wp2_with (go_at_call 34; refine (hform _).mono ?_; rintro e w2 ⟨rfl, b2⟩; refine Hid.out ?_)
    refine Lib.hid ?_
    have k2 := k1.below b2 (by have := k1.lt; omega)
    have B2 := B1.trans (b2.mono B1.size)
    obtain ⟨y0, y1, y2, y3⟩ := ins_cells k2
    clear x0 y0 k0 k1 B0 B1 b2 hname hform
    go_wp2_with (go_at_call 37; refine (dK _).mono ?_; rintro e w' ⟨rfl, e9⟩; obtain rfl := e9.symm)
    go_ret
    exact ⟨rfl, B2⟩
  · rw [h] at hform
    have hfin : bs (lineB (c, a, b, k)) = (if formOf c = 0 then N else if formOf c = 5 then s5 else if formOf c = 6 then s6 else sNK) := by
      rw [HL.out]
      repeat' split
      all_goals rw [bs_of]
    rw [h] at hfin
    generalize bs (lineB (c, (a : Int), (b : Int), (k : Int))) = L at hfin ⊢
    simp at hfin
    subst hfin
    clear HL h hh
    go_enter Tryd.func12, Tryd.ntmps12
    go_wp2_with (go_at_call 36; refine (hname _).mono ?_; rintro e w1 ⟨rfl, b1⟩; refine Hid.out ?_)
    refine Lib.hid ?_
    have k1 := k0.below b1 (by simp)
    have B1 := B0.trans (b1.mono (by simp))
    obtain ⟨x0, x1, x2, x3⟩ := ins_cells k1
    clear b1 x1 x2 x3
    go_wp2_with (go_at_call 34; refine (hform _).mono ?_; rintro e w2 ⟨rfl, b2⟩; refine Hid.out ?_)
    refine Lib.hid ?_
    have k2 := k1.below b2 (by have := k1.lt; omega)
    have B2 := B1.trans (b2.mono B1.size)
    obtain ⟨y0, y1, y2, y3⟩ := ins_cells k2
    clear x0 y0 k0 k1 B0 B1 b2 hname hform
    go_wp2_with (go_at_call 37; refine (dK _).mono ?_; rintro e w' ⟨rfl, e9⟩; obtain rfl := e9.symm)
    go_ret
    exact ⟨rfl, B2⟩
  · rw [h] at hform
    have hfin : bs (lineB (c, a, b, k)) = (if formOf c = 0 then N else if formOf c = 5 then s5 else if formOf c = 6 then s6 else sNK) := by
      rw [HL.out]
      repeat' split
      all_goals rw [bs_of]
    rw [h] at hfin
    generalize bs (lineB (c, (a : Int), (b : Int), (k : Int))) = L at hfin ⊢
    simp at hfin
    subst hfin
    clear HL h hh
    go_enter Tryd.func12, Tryd.ntmps12
    go_wp2_with (go_at_call 36; refine (hname _).mono ?_; rintro e w1 ⟨rfl, b1⟩; refine Hid.out ?_)
    refine Lib.hid ?_
    have k1 := k0.below b1 (by simp)
    have B1 := B0.trans (b1.mono (by simp))
    obtain ⟨x0, x1, x2, x3⟩ := ins_cells k1
    clear b1 x1 x2 x3
    go_wp2_with (go_at_call 34; refine (hform _).mono ?_; rintro e w2 ⟨rfl, b2⟩; refine Hid.out ?_)
    refine Lib.hid ?_
    have k2 := k1.below b2 (by have := k1.lt; omega)
    have B2 := B1.trans (b2.mono B1.size)
    obtain ⟨y0, y1, y2, y3⟩ := ins_cells k2
    clear x0 y0 k0 k1 B0 B1 b2 hname hform
    go_wp2_with (go_at_call 37; refine (dK _).mono ?_; rintro e w' ⟨rfl, e9⟩; obtain rfl := e9.symm)
    go_ret
    exact ⟨rfl, B2⟩
  all_goals
    rw [h] at hform
    have hfin : bs (lineB (c, a, b, k)) = (if formOf c = 0 then N else if formOf c = 5 then s5 else if formOf c = 6 then s6 else sNK) := by
      rw [HL.out]
      repeat' split
      all_goals rw [bs_of]
    rw [h] at hfin
    generalize bs (lineB (c, (a : Int), (b : Int), (k : Int))) = L at hfin ⊢
    simp at hfin
    subst hfin
    clear HL h hh
    go_enter Tryd.func12, Tryd.ntmps12
    go_wp2_with (go_at_call 36; refine (hname _).mono ?_; rintro e w1 ⟨rfl, b1⟩; refine Hid.out ?_)
    refine Lib.hid ?_
    have k1 := k0.below b1 (by simp)
    have B1 := B0.trans (b1.mono (by simp))
    obtain ⟨x0, x1, x2, x3⟩ := ins_cells k1
    clear b1 x1 x2 x3
    go_wp2_with (go_at_call 34; refine (hform _).mono ?_; rintro e w2 ⟨rfl, b2⟩; refine Hid.out ?_)
    refine Lib.hid ?_
    have k2 := k1.below b2 (by have := k1.lt; omega)
    have B2 := B1.trans (b2.mono B1.size)
    obtain ⟨y0, y1, y2, y3⟩ := ins_cells k2
    clear x0 y0 k0 k1 B0 B1 b2 hname hform
    have J2 : LJ w.heap.size w (insC c a b k) w2 := ⟨k2, B2⟩
    have hne : Nonempty (Sig (LJ w.heap.size w (insC c a b k))) := ⟨⟨_, J2⟩⟩
    have c1 : ∀ s : Sig (LJ w.heap.size w (insC c a b k)), s.V.cell? ⟨w.heap.size, 1, none⟩ = some (.int .u8 a) := fun s => (ins_cells s.h.ki).2.1
    have c2 : ∀ s : Sig (LJ w.heap.size w (insC c a b k)), s.V.cell? ⟨w.heap.size, 2, none⟩ = some (.int .u8 b) := fun s => (ins_cells s.h.ki).2.2.1
    have DA := Lib.hid (fun (V : World) (h : LJ w.heap.size w (insC c a b k) V) => (dA V).mono (R' := fun e w' => e = .returned (.string sA) ∧ LJ w.heap.size w (insC c a b k) w') (by rintro e w' ⟨h1, rfl⟩; exact ⟨h1, h⟩))
    have DB := Lib.hid (fun (V : World) (h : LJ w.heap.size w (insC c a b k) V) => (dB V).mono (R' := fun e w' => e = .returned (.string sB) ∧ LJ w.heap.size w (insC c a b k) w') (by rintro e w' ⟨h1, rfl⟩; exact ⟨h1, h⟩))
    clear dA dB k2 y1 y2
    go_wp2_with (first
      | (go_at_call 37; refine (dK _).mono ?_; rintro e w' ⟨rfl, e9⟩; obtain rfl := e9.symm)
      | (refine region_class (S := LJ w.heap.size w (insC c a b k)) (by kernel_rfl) (by kernel_rfl) ⟨J2.ki.drew, below_drewN J2.old 1⟩ ?_))
    iterate 7 (go_big_quiet_step ((go_at_call 37; exact class_call _ DA.out)))
    repeat go_big_quiet_step ((go_at_call 37; exact class_call _ DB.out))
    refine wpQuiet_nil ?_
    rintro _ ⟨⟨V7, J7⟩, rfl⟩
    try dsimp only
    clear hne c1 c2 DA DB J2
    go_wp2
    go_ret
    exact ⟨rfl, J7.old⟩
end Go.Proofs.YtceeinljakcdkaaDoor

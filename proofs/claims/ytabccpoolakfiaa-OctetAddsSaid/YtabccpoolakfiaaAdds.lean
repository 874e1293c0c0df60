/-
  OctetAdds: the walk. To add bytes is to add numbers.
-/
import Derived.Test.YtabccpoolakfiaaFirst
import Derived.Test.YtabccpoolakfiaaSumMath
namespace Go.Proofs.Ytabccpoolakfiaa
open Go.RowKit

theorem u64_at (r : Nat) (l : List Int) (f : Int) (w : World) (h : Rdr w r l f) (x : Int) (l' : List Int) (f' : Int) (hx : numL (seen l f 8) = x) (hl : left l f 8 = l') (hf : falt l f 8 = f') :
    Calls Try.prog 25 #[.pointer (some ⟨r, 0, none⟩)] w fun e w' => e = .returned (.int .u64 x) ∧ Rdr w' r l' f' ∧ But r w w' := by
  subst hx; subst hl; subst hf; exact u64_any r l f w h
theorem u32_at (r : Nat) (l : List Int) (f : Int) (w : World) (h : Rdr w r l f) (x : Int) (l' : List Int) (f' : Int) (hx : numL (seen l f 4) = x) (hl : left l f 4 = l') (hf : falt l f 4 = f') :
    Calls Try.prog 24 #[.pointer (some ⟨r, 0, none⟩)] w fun e w' => e = .returned (.int .u32 x) ∧ Rdr w' r l' f' ∧ But r w w' := by
  subst hx; subst hl; subst hf; exact u32_any r l f w h
theorem seen_all (l : List Int) (n : Nat) (h : l.length = n) : seen l 0 n = l := by
  unfold seen; rw [if_pos ⟨rfl, by omega⟩, List.take_of_length_le (by omega)]
theorem left_all (l : List Int) (n : Nat) (h : l.length = n) : left l 0 n = [] := by
  unfold left; rw [if_pos ⟨rfl, by omega⟩, List.drop_eq_nil_of_le (by omega)]
theorem falt_all (l : List Int) (n : Nat) (h : l.length = n) : falt l 0 n = 0 := by
  unfold falt; rw [if_pos rfl, if_pos (by omega)]

/-- Three blocks that are known, and what was there is as it was. -/
structure Three (w W : World) (ga gb gs : Nat) (la lb ls : List Int) : Prop where
  a : Wh W ga la
  b : Wh W gb lb
  s : Wh W gs ls
  old : Below w.heap.size w W
theorem Three.below {w W W' : World} {ga gb gs : Nat} {la lb ls : List Int} (h : Three w W ga gb gs la lb ls) (hb : Below W.heap.size W W') : Three w W' ga gb gs la lb ls :=
  ⟨h.a.below hb h.a.lt, h.b.below hb h.b.lt, h.s.below hb h.s.lt, h.old.trans (hb.mono h.old.size)⟩
theorem Three.drew {w W : World} {ga gb gs : Nat} {la lb ls : List Int} (h : Three w W ga gb gs la lb ls) : Three w W.drew ga gb gs la lb ls := ⟨h.a.drew, h.b.drew, h.s.drew, h.old.drew⟩
theorem Wh.rd_ {w : World} {g n : Nat} {l : List Int} (h : Wh w g l) (hn : l.length = n) : Rd w w.heap.size (some ⟨g, 0, none⟩) n l := by
  subst hn; exact h.rd.more h.lt

theorem sum64 (x y : Int) : numL (seen (addL (low x 8) (low y 8) 8) 0 8) = IntKind.u64.wrap (x + y) := by
  rw [seen_all _ 8 (addL_length _ _ _), addL_num _ _ 8 (low_length _ _) (low_length _ _), numL_low, numL_low, IntKind.wrap_u64, show (256 : Int) ^ 8 = 18446744073709551616 by decide]
  omega

theorem addL_nil8 (x : Int) : addL (low x 8) [] 8 = low x 8 := by
  have := addL_nil (low x 8) (low_byt x 8)
  rwa [low_length] at this
theorem addL_nil8' (x : Int) : addL [] (low x 8) 8 = low x 8 := by
  have := addL_nil' (low x 8) (low_byt x 8)
  rwa [low_length] at this

theorem sum32 (x y : Int) : numL (seen (addL (low (IntKind.u32.wrap x) 4) (low (IntKind.u32.wrap y) 4) 4) 0 4) = IntKind.u32.wrap (IntKind.u32.wrap x + IntKind.u32.wrap y) := by
  rw [seen_all _ 4 (addL_length _ _ _), addL_num _ _ 4 (low_length _ _) (low_length _ _), numL_low, numL_low]
  simp only [IntKind.wrap_u32']
  rw [show (256 : Int) ^ 4 = 4294967296 by decide]
  omega
theorem keptT {w W : World} {gb gt : Nat} {y : Int} {T : List Int} (hh : Wh W gb (low y 8) ∧ Wh W gt T ∧ Below w.heap.size w W) : Below w.heap.size w W := hh.2.2
theorem keepT {w W w3 : World} {gb gt : Nat} {y : Int} {T : List Int} (b3 : Below W.heap.size W w3) (hh : Wh W gb (low y 8) ∧ Wh W gt T ∧ Below w.heap.size w W) :
    Wh w3 gb (low y 8) ∧ Wh w3 gt T ∧ Below w.heap.size w w3 := ⟨hh.1.below b3 hh.1.lt, hh.2.1.below b3 hh.2.1.lt, hh.2.2.trans (b3.mono hh.2.2.size)⟩
theorem keepButT {w W w3 : World} {gb gt r : Nat} {y : Int} {T : List Int} (hr : gb < r ∧ gt < r ∧ w.heap.size ≤ r) (b : But r W w3) (hh : Wh W gb (low y 8) ∧ Wh W gt T ∧ Below w.heap.size w W) :
    Wh w3 gb (low y 8) ∧ Wh w3 gt T ∧ Below w.heap.size w w3 :=
  ⟨b.wh hh.1 (by omega), b.wh hh.2.1 (by omega), hh.2.2.trans (b.below _ hr.2.2 hh.2.2.size)⟩
theorem wrap64_32 (x : Int) : IntKind.u64.wrap (IntKind.u32.wrap x) = IntKind.u32.wrap x := by
  rw [IntKind.wrap_u64, IntKind.wrap_u32']; omega
theorem readT (w W : World) (gb gt : Nat) (y : Int) (T : List Int) (hT : T.length = 4) (hh : Wh W gb (low y 8) ∧ Wh W gt T ∧ Below w.heap.size w W) :
    Calls Try.prog 18 #[.slice (some ⟨gt, 0, none⟩) 4 4] W fun e w' => ∃ r, e = .returned (.pointer (some ⟨r, 0, none⟩)) ∧ W.heap.size ≤ r ∧ Rdr w' r T 0 ∧ Below W.heap.size W w' :=
  read_any _ 4 4 T W (hh.2.1.rd_ hT) (by omega)
theorem addT4 (w W : World) (gb gt : Nat) (y : Int) (T : List Int) (z : Int) (g : Nat) (hh : Wh W gb (low y 8) ∧ Wh W gt T ∧ Below w.heap.size w W) (h3 : Wh W g ([] ++ low z 4)) :
    Calls Try.prog 16 #[.slice (some ⟨g, 0, none⟩) 4 4, .slice (some ⟨gb, 0, none⟩) 8 8] W fun e w' =>
      e = .returned (.slice (some ⟨W.heap.size, 0, none⟩) 8 8) ∧ Wh w' W.heap.size (addL (low z 4) (low y 8) 8) ∧ Below W.heap.size W w' :=
  addc _ _ 4 4 8 8 _ _ W (h3.rd_ (low_length _ _)) (hh.1.rd_ (low_length _ _)) (by omega) (by omega) 8 _ (by decide) rfl
theorem addT8 (w W : World) (gb gt : Nat) (y : Int) (T : List Int) (z : Int) (g : Nat) (hh : Wh W gb (low y 8) ∧ Wh W gt T ∧ Below w.heap.size w W) (h3 : Wh W g ([] ++ low z 8)) :
    Calls Try.prog 16 #[.slice (some ⟨g, 0, none⟩) 8 8, .slice (some ⟨gb, 0, none⟩) 8 8] W fun e w' =>
      e = .returned (.slice (some ⟨W.heap.size, 0, none⟩) 8 8) ∧ Wh w' W.heap.size (addL (low z 8) (low y 8) 8) ∧ Below W.heap.size W w' :=
  addc _ _ 8 8 8 8 _ _ W (h3.rd_ (low_length _ _)) (hh.1.rd_ (low_length _ _)) (by omega) (by omega) 8 _ (by decide) rfl
theorem eqT (W : World) (y z : Int) (g1 g2 : Nat) (h0 : 0 ≤ z) (h1 : z ≤ 4294967295) (hD : Wh W g1 (addL (low z 4) (low y 8) 8)) (hF : Wh W g2 (addL (low z 8) (low y 8) 8)) :
    Calls Try.prog 28 #[.slice (some ⟨g1, 4, none⟩) 4 4, .slice (some ⟨g2, 4, none⟩) 4 4] W fun e w' => e = .returned (.bool true) ∧ W = w' := by
  have e : addL (low z 4) (low y 8) 8 = addL (low z 8) (low y 8) 8 := addL_ext 8 (low_wide z h0 (by have h4 : (256 : Int) ^ 4 = 4294967296 := (by decide); omega)) (fun _ => rfl)
  rw [e] at hD
  exact equal_true _ _ 4 4 4 4 _ _ _ W (hD.piece 4 4 (by rw [addL_length]; omega)) (hF.piece 4 4 (by rw [addL_length]; omega))

set_option maxHeartbeats 2000000 in
theorem adds_walk (x y : Int) (w : World) :
    Calls Try.prog 7 #[.int .u64 x, .int .u64 y] w fun e w' => e = .returned (.bool true) ∧ Below w.heap.size w w' := by
  go_enter Try.func7, Try.ntmps7
  go_wp2_with fail
  refine (wakes_any w).mono ?_
  rintro e w1 ⟨rfl, b1⟩
  go_wp2_with fail
  refine (put64_any none 0 0 [] x _ Rd.nil (by omega)).mono ?_
  rintro e w2 ⟨rfl, h2, b2⟩
  rw [List.nil_append] at h2
  go_wp2_with fail
  refine (put64_any none 0 0 [] y _ Rd.nil (by omega)).mono ?_
  rintro e w3 ⟨rfl, h3, b3⟩
  rw [List.nil_append] at h3
  go_wp2_with fail
  have h2' := h2.below b3 h2.lt
  refine (addc _ _ 8 8 8 8 (low x 8) (low y 8) _ (h2'.rd_ (low_length _ _)) (h3.rd_ (low_length _ _)) (by omega) (by omega) 8 _ (by decide) rfl).mono ?_
  rintro e w4 ⟨rfl, h4, b4⟩
  have o3 : Below w.heap.size w w3 := (b1.trans (b2.mono b1.size)).trans (b3.mono (Nat.le_trans b1.size b2.size))
  have K4 : Three w w4 w1.heap.size w2.heap.size w3.heap.size (low x 8) (low y 8) (addL (low x 8) (low y 8) 8) :=
    ⟨h2'.below b4 h2'.lt, h3.below b4 h3.lt, h4, o3.trans (b4.mono o3.size)⟩
  clear b1 b2 b3 b4 h2 h2' h3 h4 o3
  have L8 : (addL (low x 8) (low y 8) 8).length = 8 := addL_length _ _ _
  have HL8 := Lib.hid L8
  clear L8
  go_wp2_with fail
  refine (read_any _ 8 8 _ _ (K4.s.rd_ HL8.out) (by omega)).mono ?_
  rintro e w5 ⟨r, rfl, hr, h5, b5⟩
  have K5 := K4.below b5
  have hrd := Lib.hid hr
  clear hr
  go_wp2_with fail
  refine (u64_at r _ _ _ h5 (IntKind.u64.wrap (x + y)) [] 0 (sum64 x y) (left_all _ _ HL8.out) (falt_all _ _ HL8.out)).mono ?_
  rintro e w6 ⟨rfl, _, b6⟩
  have K6 := K4.below (b5.trans (b6.below _ hrd.out b5.size))
  clear K5 K4 h5 b5 b6 hrd
  go_wp2_with fail
  refine (addc _ _ 8 8 8 8 (low y 8) (low x 8) _ (K6.b.rd_ (low_length _ _)) (K6.a.rd_ (low_length _ _)) (by omega) (by omega) 8 (addL (low x 8) (low y 8) 8) (by decide) (addL_comm _ _ _)).mono ?_
  rintro e w7 ⟨rfl, h7, b7⟩
  have K7 := K6.below b7
  clear K6 b7
  go_wp2_with fail
  refine (equal_true _ _ 8 8 8 8 _ _ _ _ (K7.s.rd_ HL8.out) (h7.rd_ HL8.out)).mono ?_
  rintro e w' ⟨rfl, rfl⟩
  clear h7
  go_wp2_with fail
  refine (addc _ _ 8 8 0 0 (low x 8) [] _ (K7.a.rd_ (low_length _ _)) Rd.nil (by omega) (by omega) 8 (low x 8) (by decide) (addL_nil8 x)).mono ?_
  rintro e w8 ⟨rfl, h8, b8⟩
  have K8 := K7.below b8
  clear K7 b8
  go_wp2_with fail
  refine (equal_true _ _ 8 8 8 8 _ _ _ _ (h8.rd_ (low_length _ _)) (K8.a.rd_ (low_length _ _))).mono ?_
  rintro e w' ⟨rfl, rfl⟩
  clear h8
  go_wp2_with fail
  refine (addc _ _ 0 0 8 8 [] (low y 8) _ Rd.nil (K8.b.rd_ (low_length _ _)) (by omega) (by omega) 8 (low y 8) (by decide) (addL_nil8' y)).mono ?_
  rintro e w9 ⟨rfl, h9, b9⟩
  have K9 := K8.below b9
  clear K8 b9
  go_wp2_with fail
  refine (equal_true _ _ 8 8 8 8 _ _ _ _ (h9.rd_ (low_length _ _)) (K9.b.rd_ (low_length _ _))).mono ?_
  rintro e w' ⟨rfl, rfl⟩
  clear h9
  go_wp2_with fail
  refine (put32_any none 0 0 [] _ (wrap32_bd _).1 (wrap32_bd _).2 _ Rd.nil (by omega)).mono ?_
  rintro e w10 ⟨rfl, h10, b10⟩
  rw [List.nil_append] at h10
  have K10 := K9.below b10
  clear K9 b10
  go_wp2_with fail
  refine (put32_any none 0 0 [] _ (wrap32_bd _).1 (wrap32_bd _).2 _ Rd.nil (by omega)).mono ?_
  rintro e w11 ⟨rfl, h11, b11⟩
  rw [List.nil_append] at h11
  have K11 := K10.below b11
  have h10' := h10.below b11 h10.lt
  clear K10 b11 h10
  go_wp2_with fail
  refine (addc _ _ 4 4 4 4 _ _ _ (h10'.rd_ (low_length _ _)) (h11.rd_ (low_length _ _)) (by omega) (by omega) 4 _ (by decide) rfl).mono ?_
  rintro e w12 ⟨rfl, h12, b12⟩
  have K12 := K11.below b12
  clear K11 b12 h10' h11
  go_wp2_with fail
  obtain ⟨T, hTe⟩ : ∃ T, T = addL (low (IntKind.u32.wrap x) 4) (low (IntKind.u32.wrap y) 4) 4 := ⟨_, rfl⟩
  rw [← hTe] at h12
  have HT4 := Lib.hid (show T.length = 4 by rw [hTe]; exact addL_length _ _ _)
  have HTn := Lib.hid (show numL (seen T 0 4) = IntKind.u32.wrap (IntKind.u32.wrap x + IntKind.u32.wrap y) by rw [hTe]; exact sum32 x y)
  clear hTe
  have k2 : Wh w12 w2.heap.size (low y 8) := K12.b
  have ko : Below w.heap.size w w12 := K12.old
  clear K12 HL8
  go_region_held3 (fun w' => Wh w' w2.heap.size (low y 8) ∧ Wh w' w11.heap.size T ∧ Below w.heap.size w w') (first | exact ⟨k2.drew, h12.drew, ko.drew⟩ | assumption | exact keepT (by assumption) (by assumption) | exact keepButT hrr (by assumption) (by assumption))
    (first
      | (go_at_call 18; refine (readT w _ w2.heap.size _ y T HT4.out ?_).mono ?_; assumption; rintro e wA ⟨rA, rfl, hrA, hA, bA⟩; have hrr : w2.heap.size < rA ∧ w11.heap.size < rA ∧ w.heap.size ≤ rA := ⟨Nat.lt_of_lt_of_le k2.lt hrA, Nat.lt_of_lt_of_le h12.lt hrA, Nat.le_trans ko.size hrA⟩)
      | (go_at_call 24; refine (u32_at _ T 0 _ ?_ (IntKind.u32.wrap (IntKind.u32.wrap x + IntKind.u32.wrap y)) [] 0 HTn.out (left_all _ _ HT4.out) (falt_all _ _ HT4.out)).mono ?_; assumption; rintro e wB ⟨rfl, _, bB⟩)
      | (go_at_call 12; refine (put32_any none 0 0 [] _ (wrap32_bd _).1 (wrap32_bd _).2 _ Rd.nil (by omega)).mono ?_; rintro e wC ⟨rfl, hC, bC⟩)
      | (go_at_call 16; ((with_reducible refine (addT4 w _ _ w11.heap.size y T (IntKind.u32.wrap x) _ ?_ ?_).mono ?_); assumption; assumption; rintro e wD ⟨rfl, hD, bD⟩))
      | (go_at_call 13; refine (put64_any none 0 0 [] _ _ Rd.nil (by omega)).mono ?_; rintro e wE ⟨rfl, hE, bE⟩; (try rw [wrap64_32] at hE); have hD1 := hD.below bE hD.lt)
      | (go_at_call 16; ((with_reducible refine (addT8 w _ _ w11.heap.size y T (IntKind.u32.wrap x) _ ?_ hE).mono ?_); assumption; rintro e wF ⟨rfl, hF, bF⟩; have hD2 := hD1.below bF hD1.lt))
      | (go_at_call 28; refine (eqT _ _ _ _ _ (wrap32_bd x).1 (wrap32_bd x).2 hD2 hF).mono ?_; rintro e w' ⟨rfl, rfl⟩))
  go_wp2
  go_ret
  exact ⟨rfl, keptT (gb := w2.heap.size) (gt := w11.heap.size) (y := y) (T := T) (by assumption)⟩
end Go.Proofs.Ytabccpoolakfiaa

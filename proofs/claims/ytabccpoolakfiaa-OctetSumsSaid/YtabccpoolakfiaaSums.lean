/-
  OctetSums: the walk.
-/
import Derived.Test.YtabccpoolakfiaaRefAdd
import Derived.Test.YtabccpoolakfiaaWakes
namespace Go.Proofs.Ytabccpoolakfiaa
open Go.RowKit

/-- The two arguments and the two copies, below block g. -/
structure Four (w W : World) (g : Nat) (A A' Aa Ab : Option Addr) (n m : Nat) (l l' : List Int) : Prop where
  a : Rd W g A n l
  b : Rd W g A' m l'
  x : Rd W g Aa n l
  y : Rd W g Ab m l'
  old : Below w.heap.size w W
  lo : w.heap.size ≤ g
  hi : g ≤ W.heap.size
theorem Four.below {w W W' : World} {g : Nat} {A A' Aa Ab : Option Addr} {n m : Nat} {l l' : List Int} (h : Four w W g A A' Aa Ab n m l l') (hb : Below g W W') : Four w W' g A A' Aa Ab n m l l' :=
  ⟨h.a.below hb, h.b.below hb, h.x.below hb, h.y.below hb, h.old.trans (hb.mono h.lo), h.lo, Nat.le_trans h.hi hb.size⟩

theorem Wh.rd_' {w : World} {g n : Nat} {l : List Int} (h : Wh w g l) (hn : l.length = n) : Rd w w.heap.size (some ⟨g, 0, none⟩) n l := by
  subst hn; exact h.rd.more h.lt

set_option maxHeartbeats 4000000 in
theorem sums_small (A A' : Option Addr) (n c m c' : Nat) (l l' : List Int) (w : World) (hr : Rd w w.heap.size A n l) (hr' : Rd w w.heap.size A' m l') (hn : ¬ 3000 < n) (hm : ¬ 3000 < m) :
    Calls Try.prog 4 #[.slice A n c, .slice A' m c'] w fun e w' => e = .returned (.bool true) ∧ Below w.heap.size w w' := by
  go_enter Try.func4, Try.ntmps4
  go_wp2_with fail
  refine (wakes_any w).mono ?_
  rintro e w1 ⟨rfl, b1⟩
  go_wp2_with (first
    | (at_builtin; refine wpList_append_bytes rfl (.tmp 19) (.tmp 20) rfl w1.heap.size _ 0 0 _ rfl (Ow.empty w1 w1.heap.size (Nat.le_refl _)) w.heap.size A n c l rfl ((hr.below b1).alloc_ b1.size _) (by omega) (by simp) ?_; intro Aa ca wa oa ba; have ba' : Below w1.heap.size w1 wa := ((Below.refl _ _).alloc (Nat.le_refl _) _).trans ba)
    | (at_builtin; refine wpList_append_bytes rfl (.tmp 22) (.tmp 23) rfl wa.heap.size _ 0 0 _ rfl (Ow.empty wa wa.heap.size (Nat.le_refl _)) w.heap.size A' m c' l' rfl (((hr'.below b1).below (ba'.mono b1.size)).alloc_ (Nat.le_trans b1.size ba'.size) _) (by omega) (by simp) ?_; intro Ab cb wb ob bb; have bb' : Below wa.heap.size wa wb := ((Below.refl _ _).alloc (Nat.le_refl _) _).trans bb))
  have s1 := b1.size
  have s2 := ba'.size
  have s3 := bb'.size
  have xa := oa.rd
  have xb := ob.rd
  simp only [List.nil_append, Nat.zero_add] at xa xb
  have K : Four w wb wb.heap.size A A' Aa Ab n m l l' :=
    ⟨(((hr.below b1).below (ba'.mono s1)).below (bb'.mono (Nat.le_trans s1 s2))).more (by omega), (((hr'.below b1).below (ba'.mono s1)).below (bb'.mono (Nat.le_trans s1 s2))).more (by omega), (xa.below bb').more s3, xb,
      (b1.trans (ba'.mono s1)).trans (bb'.mono (Nat.le_trans s1 s2)), by omega, Nat.le_refl _⟩
  clear b1 ba ba' bb bb' s1 s2 s3 oa ob xa xb hr hr'
  obtain ⟨N, hN⟩ : ∃ N, N = max n m := ⟨_, rfl⟩
  have hN6 : N ≤ 6000 := by omega
  have hadd := add_any A A' n c m c' l l' wb K.a K.b (by omega) (by omega)
  have hra := fun W B hx hy h1 h2 => refadd_any Aa Ab n ca m cb B B l l' W hx hy h1 h2 (by omega) (by omega)
  rw [← hN] at hadd
  simp only [← hN] at hra
  clear hN
  have HADD := Lib.hid hadd
  have HRA := Lib.hid hra
  clear hadd hra
  refine HADD.out.mono ?_
  rintro e w2 ⟨rfl, h2, b2⟩
  clear HADD
  have K2 := K.below b2
  clear b2
  go_wp2_with fail
  refine (HRA.out w2 wb.heap.size K2.x K2.y K2.hi K2.hi).mono ?_
  rintro e w3 ⟨A1, c1, rfl, h3, b3⟩
  have K3 := K2.below (b3.mono K2.hi)
  have h2' := h2.below b3 h2.lt
  clear HRA K K2 h2 b3
  go_wp2_with fail
  have L2 := addL_length l l' N
  refine (same_true (some ⟨wb.heap.size, 0, none⟩) A1 N N c1 _ _ _ _ (h2'.rd_' L2) h3 (by omega) (Nat.le_refl _) (Nat.le_refl _)).mono ?_
  rintro e w4 ⟨rfl, b4⟩
  have K4 := K3.below (b4.mono K3.hi)
  have h4 := h2'.below b4 h2'.lt
  have hlt := h2'.lt
  clear K3 h2' h3 b4 L2
  go_wp2_with fail
  go_loopw [36] (fun i wr => ∃ (k : Nat) (L : List Int), k ≤ N ∧ i = .int .i64 k ∧ Hid (L.length = N) ∧ Wh wr wb.heap.size L ∧ Four w wr wb.heap.size A A' Aa Ab n m l l') (fun i _ => N - (intOf i).toNat)
  case atStart => exact ⟨0, _, Nat.zero_le _, rfl, addL_length l l' N, h4, K4⟩
  case round =>
    obtain ⟨k, L, hk, rfl, hL, hwr, K⟩ := hrel
    by_cases hlt : k < N
    · obtain ⟨z, hz⟩ : ∃ z, z = L.getD k 0 := ⟨_, rfl⟩
      obtain ⟨hz0, hz1⟩ := hwr.byt.at_ k
      have hc := hwr.cell (k := k) (by rw [hL.out]; exact hlt)
      have hf := hwr.frozen k
      rw [← hz] at hz0 hz1 hc
      clear hz
      have hset := Lib.hid (fun u hu => hwr.set_ k u hu)
      go_wp2
      go_roundw
      case rel =>
        exact ⟨k + 1, _, by omega, by go_num, (by simpa [Hid] using hL.out), hset.out _ (by omega), K.below ((Below.refl _ _).setCell (by simp) _)⟩
      case measure => simp [intOf]; omega
    · go_wp2_with fail
      refine (same_true A Aa n c ca _ _ _ _ K.a K.x (by omega) K.hi K.hi).mono ?_
      rintro e w5 ⟨rfl, b5⟩
      have K5 := K.below (b5.mono K.hi)
      clear K b5
      go_wp2_with fail
      refine (same_true A' Ab m c' cb _ _ _ _ K5.b K5.y (by omega) K5.hi K5.hi).mono ?_
      rintro e w6 ⟨rfl, b6⟩
      have K6 := K5.below (b6.mono K5.hi)
      go_wp2
      go_ret
      exact ⟨rfl, K6.old⟩

set_option maxHeartbeats 400000 in
theorem sums_big (A A' : Option Addr) (n c m c' : Nat) (w : World) (h : 3000 < n ∨ 3000 < m) :
    Calls Try.prog 4 #[.slice A n c, .slice A' m c'] w fun e w' => e = .returned (.bool true) ∧ Below w.heap.size w w' := by
  have hd : (decide ((3000 : Int) < n) || decide ((3000 : Int) < m)) = true := by
    rcases h with h | h
    · simp; omega
    · simp; omega
  go_enter Try.func4, Try.ntmps4
  go_wp2_with fail
  refine (wakes_any w).mono ?_
  rintro e w1 ⟨rfl, b1⟩
  go_wp2
  all_goals go_ret
  all_goals exact ⟨rfl, b1⟩

theorem sums_walk (A A' : Option Addr) (n c m c' : Nat) (l l' : List Int) (w : World) (hr : Rd w w.heap.size A n l) (hr' : Rd w w.heap.size A' m l') :
    Calls Try.prog 4 #[.slice A n c, .slice A' m c'] w fun e w' => e = .returned (.bool true) ∧ Below w.heap.size w w' := by
  by_cases hb : 3000 < n ∨ 3000 < m
  · exact sums_big A A' n c m c' w hb
  · exact sums_small A A' n c m c' l l' w hr hr' (by omega) (by omega)
end Go.Proofs.Ytabccpoolakfiaa

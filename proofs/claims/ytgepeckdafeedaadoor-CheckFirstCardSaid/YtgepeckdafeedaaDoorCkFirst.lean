/-
  CheckFirst, walked: what may not stand somewhere is told there; what may changes nothing else.
-/
import Derived.Test.YtgepeckdafeedaaDoorCkWake
import Derived.Test.YtgepeckdafeedaaDoorCkStore
namespace Go.Proofs.YtgepeckdafeedaaDoor
open Go.RowKit

set_option maxRecDepth 100000 in
set_option maxHeartbeats 8000000 in
theorem first_no (A : Option Addr) (l cap : Nat) (f : Nat → Ins) (x y z u i : Int) (w : World) (hK : Kinds w) (hA : Ri w w.heap.size A l f) (hc : l ≤ cap) (m : Nat) (hm : m = min l 65) (r1 r2 : Int) (hr : chkI f m = (r1, r2)) (h0 : ¬ r2 = 0) :
    Calls Tryd.prog 7 #[.slice A l cap, .agg #[.int .u16 x, .int .u8 y, .int .u8 z, .int .u32 u], .int .i64 i] w fun e w' => e = .returned (.bool true) ∧ Below w.heap.size w w' := by
  have HF := Lib.hid (fun w (hA : Ri w w.heap.size A l f) => few4_any A l cap f w hA hc m hm)
  have HO := Lib.hid (fun j (hj : j < m) => hA.ok j (by omega))
  have CC := Lib.hid (fun A c w hK hA => check_any A m c f w hK hA)
  rw [hr] at CC
  simp only at CC
  clear hm hr
  go_enter Tryd.func7, Tryd.ntmps7
  go_wp2_with fail
  refine (wakes4_any _ (hK.alloc _)).mono ?_
  rintro e w1 ⟨rfl, b1⟩
  have B1 := ((Below.refl w.heap.size w).alloc (Nat.le_refl _) (.cells #[.int .u16 x, .int .u8 y, .int .u8 z, .int .u32 u] 42)).trans (b1.mono (by simp))
  have K1 := hK.below B1 hK.pos
  have r1' := (hA.below B1 (Nat.le_refl _)).more B1.size
  clear b1 hK hA
  go_wp2_with fail
  refine (HF.out _ r1').mono ?_
  rintro e w2 ⟨A2, c2, rfl, o2, b2⟩
  have B2 := B1.trans (b2.mono B1.size)
  have K2 := K1.below b2 K1.pos
  have p2 := (ri_of_own o2 HO.out).1
  clear b2 B1 K1 r1'
  go_wp2_with fail
  refine (CC.out A2 c2 w2 K2 p2).mono ?_
  rintro e w3 ⟨rfl, b3⟩
  have B3 := B2.trans (b3.mono B2.size)
  go_wp2_with fail
  go_ret
  exact ⟨rfl, B3⟩

theorem place_of (i : Int) (m : Nat) (h1 : 1 ≤ m) (h2 : m ≤ 64) : ∃ k : Nat, k < m ∧ wrap64 ((IntKind.u64.wrap i).tmod (m : Int)) = (k : Int) := by
  have h0 : 0 ≤ IntKind.u64.wrap i := by simp [IntKind.wrap, IntKind.signed, IntKind.bits]; omega
  rw [Int.tmod_eq_emod_of_nonneg h0]
  obtain ⟨z, hz⟩ : ∃ z, IntKind.u64.wrap i % (m : Int) = z := ⟨_, rfl⟩
  have a := Int.emod_nonneg (IntKind.u64.wrap i) (show (m : Int) ≠ 0 by omega)
  have b := Int.emod_lt_of_pos (IntKind.u64.wrap i) (show (0 : Int) < m by omega)
  rw [hz] at a b ⊢
  refine ⟨z.toNat, by omega, ?_⟩
  unfold wrap64
  omega

set_option maxRecDepth 100000 in
set_option maxHeartbeats 8000000 in
theorem first_yes (A : Option Addr) (l cap : Nat) (f : Nat → Ins) (x y z u i : Int) (w : World) (hK : Kinds w) (hA : Ri w w.heap.size A l f) (hc : l ≤ cap) (m : Nat) (hm : m = min l 65) (hM : May f m) (hq : InsOk x y z u) :
    Calls Tryd.prog 7 #[.slice A l cap, .agg #[.int .u16 x, .int .u8 y, .int .u8 z, .int .u32 u], .int .i64 i] w fun e w' => e = .returned (.bool true) ∧ Below w.heap.size w w' := by
  have HF := Lib.hid (fun w (hA : Ri w w.heap.size A l f) => few4_any A l cap f w hA hc m hm)
  have HO := Lib.hid (fun j (hj : j < m) => hA.ok j (by omega))
  have CC := Lib.hid (fun A c w hK hA => check_any A m c f w hK hA)
  rw [chk_may hM] at CC
  simp only at CC
  have hm1 := hM.lo
  have hm64 := hM.hi
  clear hm
  go_enter Tryd.func7, Tryd.ntmps7
  go_wp2_with fail
  refine (wakes4_any _ (hK.alloc _)).mono ?_
  rintro e w1 ⟨rfl, b1⟩
  have B1 := ((Below.refl w.heap.size w).alloc (Nat.le_refl _) (.cells #[.int .u16 x, .int .u8 y, .int .u8 z, .int .u32 u] 42)).trans (b1.mono (by simp))
  have x0 := (b1.cell (p := ⟨w.heap.size, 0, none⟩) (by simp)).trans (show _ = some (Value.int .u16 x) by simp)
  have x1 := (b1.cell (p := ⟨w.heap.size, 1, none⟩) (by simp)).trans (show _ = some (Value.int .u8 y) by simp)
  have x2 := (b1.cell (p := ⟨w.heap.size, 2, none⟩) (by simp)).trans (show _ = some (Value.int .u8 z) by simp)
  have x3 := (b1.cell (p := ⟨w.heap.size, 3, none⟩) (by simp)).trans (show _ = some (Value.int .u32 u) by simp)
  have K1 := hK.below B1 hK.pos
  have r1' := (hA.below B1 (Nat.le_refl _)).more B1.size
  have SZ : w.heap.size < w1.heap.size := World.block_lt_of_cell? _ _ x0
  clear b1 hK hA
  go_wp2_with fail
  refine (HF.out _ r1').mono ?_
  rintro e w2 ⟨A2, c2, rfl, o2, b2⟩
  replace x0 := (b2.cell (p := ⟨w.heap.size, 0, none⟩) (World.block_lt_of_cell? _ _ x0)).trans x0
  replace x1 := (b2.cell (p := ⟨w.heap.size, 1, none⟩) (World.block_lt_of_cell? _ _ x1)).trans x1
  replace x2 := (b2.cell (p := ⟨w.heap.size, 2, none⟩) (World.block_lt_of_cell? _ _ x2)).trans x2
  replace x3 := (b2.cell (p := ⟨w.heap.size, 3, none⟩) (World.block_lt_of_cell? _ _ x3)).trans x3
  have B2 := B1.trans (b2.mono B1.size)
  have K2 := K1.below b2 K1.pos
  have p2 := (ri_of_own o2 HO.out).1
  clear b2 B1 K1 r1'
  go_wp2_with fail
  refine (CC.out A2 c2 w2 K2 p2).mono ?_
  rintro e w3 ⟨rfl, b3⟩
  replace x0 := (b3.cell (p := ⟨w.heap.size, 0, none⟩) (World.block_lt_of_cell? _ _ x0)).trans x0
  replace x1 := (b3.cell (p := ⟨w.heap.size, 1, none⟩) (World.block_lt_of_cell? _ _ x1)).trans x1
  replace x2 := (b3.cell (p := ⟨w.heap.size, 2, none⟩) (World.block_lt_of_cell? _ _ x2)).trans x2
  replace x3 := (b3.cell (p := ⟨w.heap.size, 3, none⟩) (World.block_lt_of_cell? _ _ x3)).trans x3
  have B3 := B2.trans (b3.mono B2.size)
  have K3 := K2.below b3 K2.pos
  have o3 := ownsRow_below o2 b3 (Nat.le_refl _)
  clear B2 K2 p2 o2 b3
  obtain ⟨g, c', hv, hg, _⟩ := own_head o3 (by omega)
  injection hv with hv1 _ hv2
  subst hv1 hv2
  have hm0 : ¬ m = 0 := by omega
  obtain ⟨k, hk, hkk⟩ := place_of i m hm1 hm64
  have hki : (k : Int) < m := by omega
  go_wp2_with (first
    | (refine wpList_store_ins rfl (.tmp 34) (.tmp 33) rfl w1.heap.size m c2 g k (k * 4) f (x, y, z, u) rfl rfl rfl o3 hk ?_
       intro w4 o4 b4))
  have hok : ∀ j, j < m → insO (putI f k (x, y, z, u) j) := fun j hj => by
    unfold putI
    split
    · exact hq
    · exact HO.out j hj
  have p4 := (ri_of_own o4 hok).1
  have hsz : w.heap.size < w1.heap.size := SZ
  have lt4 : ∀ j v, w3.cell? ⟨w.heap.size, j, none⟩ = some v → w4.cell? ⟨w.heap.size, j, none⟩ = some v := fun j v h => (b4.cell (p := ⟨w.heap.size, j, none⟩) hsz).trans h
  replace x0 := lt4 _ _ x0
  replace x1 := lt4 _ _ x1
  replace x2 := lt4 _ _ x2
  replace x3 := lt4 _ _ x3
  have B4 : Below w.heap.size w w4 := B3.trans (b4.mono (Nat.le_of_lt hsz))
  have K4 : Kinds w4 := K3.below b4 (by omega)
  have C2 := check_any (some ⟨g, 0, none⟩) m c2 (putI f k (x, y, z, u)) w4 K4 p4
  have CO := fun V hV => one_any (x, y, z, u) k m V hV hq (by omega) (by omega)
  obtain ⟨o, ho⟩ : ∃ o, oneL ((m : Int) - 1 - k) (x, y, z, u) = o := ⟨_, rfl⟩
  rw [ho] at CO
  clear lt4 p4 hok B3 K3 b4 o4 o3 HF HO CC SZ hkk
  by_cases h0 : o = 0
  · have hx := ho.trans h0
    by_cases hkm : k = m - 1
    · have hki' : (k : Int) = (m : Int) - 1 := by omega
      by_cases h6 : x = 6
      · rw [chk_may (put_may hM hk hx (fun _ => by simp [retI, h6]))] at C2
        subst h0 h6
        simp only at C2
        clear hx ho hM
        have HK := Lib.hid hki'
        clear hki' hkm
        refine C2.mono ?_
        rintro e w5 ⟨rfl, b5⟩
        replace x0 := (b5.cell (p := ⟨w.heap.size, 0, none⟩) (World.block_lt_of_cell? _ _ x0)).trans x0
        replace x1 := (b5.cell (p := ⟨w.heap.size, 1, none⟩) (World.block_lt_of_cell? _ _ x1)).trans x1
        replace x2 := (b5.cell (p := ⟨w.heap.size, 2, none⟩) (World.block_lt_of_cell? _ _ x2)).trans x2
        replace x3 := (b5.cell (p := ⟨w.heap.size, 3, none⟩) (World.block_lt_of_cell? _ _ x3)).trans x3
        have B5 := B4.trans (b5.mono B4.size)
        have K5 := K4.below b5 K4.pos
        clear b5 B4 K4 C2
        go_wp2_with fail
        refine (CO w5 K5).mono ?_
        rintro e w6 ⟨rfl, b6⟩
        replace x0 := (b6.cell (p := ⟨w.heap.size, 0, none⟩) (World.block_lt_of_cell? _ _ x0)).trans x0
        have B6 := B5.trans (b6.mono B5.size)
        clear b6 B5 K5 CO x1 x2 x3
        have hki' := HK.out
        go_wp2_with fail
        go_ret
        exact ⟨rfl, B6⟩
      · by_cases h22 : x = 22
        · rw [chk_may (put_may hM hk hx (fun _ => by simp [retI, h22]))] at C2
          subst h0 h22
          simp only at C2
          clear hx ho hM
          have HK := Lib.hid hki'
          clear hki' hkm
          refine C2.mono ?_
          rintro e w5 ⟨rfl, b5⟩
          replace x0 := (b5.cell (p := ⟨w.heap.size, 0, none⟩) (World.block_lt_of_cell? _ _ x0)).trans x0
          replace x1 := (b5.cell (p := ⟨w.heap.size, 1, none⟩) (World.block_lt_of_cell? _ _ x1)).trans x1
          replace x2 := (b5.cell (p := ⟨w.heap.size, 2, none⟩) (World.block_lt_of_cell? _ _ x2)).trans x2
          replace x3 := (b5.cell (p := ⟨w.heap.size, 3, none⟩) (World.block_lt_of_cell? _ _ x3)).trans x3
          have B5 := B4.trans (b5.mono B4.size)
          have K5 := K4.below b5 K4.pos
          clear b5 B4 K4 C2
          go_wp2_with fail
          refine (CO w5 K5).mono ?_
          rintro e w6 ⟨rfl, b6⟩
          replace x0 := (b6.cell (p := ⟨w.heap.size, 0, none⟩) (World.block_lt_of_cell? _ _ x0)).trans x0
          have B6 := B5.trans (b6.mono B5.size)
          clear b6 B5 K5 CO x1 x2 x3
          have hki' := HK.out
          go_wp2_with fail
          go_ret
          exact ⟨rfl, B6⟩
        · rw [put_last hM hkm hx (by simp [retI, h6, h22])] at C2
          subst h0
          simp only at C2
          clear hx ho hM
          have HK := Lib.hid hki'
          clear hki' hkm
          refine C2.mono ?_
          rintro e w5 ⟨rfl, b5⟩
          replace x0 := (b5.cell (p := ⟨w.heap.size, 0, none⟩) (World.block_lt_of_cell? _ _ x0)).trans x0
          replace x1 := (b5.cell (p := ⟨w.heap.size, 1, none⟩) (World.block_lt_of_cell? _ _ x1)).trans x1
          replace x2 := (b5.cell (p := ⟨w.heap.size, 2, none⟩) (World.block_lt_of_cell? _ _ x2)).trans x2
          replace x3 := (b5.cell (p := ⟨w.heap.size, 3, none⟩) (World.block_lt_of_cell? _ _ x3)).trans x3
          have B5 := B4.trans (b5.mono B4.size)
          have K5 := K4.below b5 K4.pos
          clear b5 B4 K4 C2
          go_wp2_with fail
          refine (CO w5 K5).mono ?_
          rintro e w6 ⟨rfl, b6⟩
          replace x0 := (b6.cell (p := ⟨w.heap.size, 0, none⟩) (World.block_lt_of_cell? _ _ x0)).trans x0
          have B6 := B5.trans (b6.mono B5.size)
          clear b6 B5 K5 CO x1 x2 x3
          have m6 : (x != 6) = true := by simpa using h6
          have m22 : (x != 22) = true := by simpa using h22
          have hki' := HK.out
          go_wp2_with fail
          go_ret
          exact ⟨rfl, B6⟩
    · have hki' : ¬ (k : Int) = (m : Int) - 1 := by omega
      rw [chk_may (put_may hM hk hx (fun h => absurd h hkm))] at C2
      subst h0
      simp only at C2
      clear hx ho hM
      have HK := Lib.hid hki'
      clear hki' hkm
      refine C2.mono ?_
      rintro e w5 ⟨rfl, b5⟩
      replace x0 := (b5.cell (p := ⟨w.heap.size, 0, none⟩) (World.block_lt_of_cell? _ _ x0)).trans x0
      replace x1 := (b5.cell (p := ⟨w.heap.size, 1, none⟩) (World.block_lt_of_cell? _ _ x1)).trans x1
      replace x2 := (b5.cell (p := ⟨w.heap.size, 2, none⟩) (World.block_lt_of_cell? _ _ x2)).trans x2
      replace x3 := (b5.cell (p := ⟨w.heap.size, 3, none⟩) (World.block_lt_of_cell? _ _ x3)).trans x3
      have B5 := B4.trans (b5.mono B4.size)
      have K5 := K4.below b5 K4.pos
      clear b5 B4 K4 C2
      go_wp2_with fail
      refine (CO w5 K5).mono ?_
      rintro e w6 ⟨rfl, b6⟩
      replace x0 := (b6.cell (p := ⟨w.heap.size, 0, none⟩) (World.block_lt_of_cell? _ _ x0)).trans x0
      have B6 := B5.trans (b6.mono B5.size)
      clear b6 B5 K5 CO x1 x2 x3
      have hki' := HK.out
      go_wp2_with fail
      go_ret
      exact ⟨rfl, B6⟩
  · rw [put_bad hM hk (by rw [ho]; exact h0), ho] at C2
    simp only at C2
    clear ho hM
    refine C2.mono ?_
    rintro e w5 ⟨rfl, b5⟩
    replace x0 := (b5.cell (p := ⟨w.heap.size, 0, none⟩) (World.block_lt_of_cell? _ _ x0)).trans x0
    replace x1 := (b5.cell (p := ⟨w.heap.size, 1, none⟩) (World.block_lt_of_cell? _ _ x1)).trans x1
    replace x2 := (b5.cell (p := ⟨w.heap.size, 2, none⟩) (World.block_lt_of_cell? _ _ x2)).trans x2
    replace x3 := (b5.cell (p := ⟨w.heap.size, 3, none⟩) (World.block_lt_of_cell? _ _ x3)).trans x3
    have B5 := B4.trans (b5.mono B4.size)
    have K5 := K4.below b5 K4.pos
    clear b5 B4 K4 C2
    go_wp2_with fail
    refine (CO w5 K5).mono ?_
    rintro e w6 ⟨rfl, b6⟩
    replace x0 := (b6.cell (p := ⟨w.heap.size, 0, none⟩) (World.block_lt_of_cell? _ _ x0)).trans x0
    have B6 := B5.trans (b6.mono B5.size)
    clear b6 B5 K5 CO x1 x2 x3
    go_wp2_with fail
    go_ret
    exact ⟨rfl, B6⟩

theorem checkFirst_any (A : Option Addr) (l cap : Nat) (f : Nat → Ins) (x y z u i : Int) (w : World) (hK : Kinds w) (hA : Ri w w.heap.size A l f) (hc : l ≤ cap) (hq : InsOk x y z u) :
    Calls Tryd.prog 7 #[.slice A l cap, .agg #[.int .u16 x, .int .u8 y, .int .u8 z, .int .u32 u], .int .i64 i] w fun e w' => e = .returned (.bool true) ∧ Below w.heap.size w w' := by
  obtain ⟨m, hm⟩ : ∃ m, m = min l 65 := ⟨_, rfl⟩
  obtain ⟨⟨r1, r2⟩, hr⟩ : ∃ q, chkI f m = q := ⟨_, rfl⟩
  by_cases h0 : r2 = 0
  · exact first_yes A l cap f x y z u i w hK hA hc m hm (may_chk (by rw [hr]; exact h0)) hq
  · exact first_no A l cap f x y z u i w hK hA hc m hm r1 r2 hr h0
end Go.Proofs.YtgepeckdafeedaaDoor

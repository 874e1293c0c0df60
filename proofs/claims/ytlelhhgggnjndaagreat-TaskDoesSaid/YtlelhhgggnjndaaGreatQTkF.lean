/-
  task.free, take.
-/
import Derived.Test.YtlelhhgggnjndaaGreatQPiRg
import Derived.Test.YtlelhhgggnjndaaGreatQTkK
import Derived.Test.YtlelhhgggnjndaaGreatQTkB
import Derived.Maps.AppendAt
import Derived.Test.YtlelhhgggnjndaaGreatQPiT
import Derived.Test.YtlelhhgggnjndaaGreatQPiU
namespace Go.Proofs.YtlelhhgggnjndaaGreat
open Go.RowKit Go.Shelf
set_option linter.unusedVariables false
set_option linter.unusedSimpArgs false
structure Cpt (w : World) (B : Nat) (a : Int) (um : Nat) (U : List Int) (m : Nat) (L : List Pw) (k : Nat) (U1 : Option Addr) (uc1 : Nat) (A3 : Option Addr) (c3 : Nat) (L1 : List Pw) (V : World) : Prop where
  b : Below B w V
  ks : Blk V B (tkC a U1 um uc1 A3 m c3) 27
  k2 : Blk V (B + 1) (tkC 0 none 0 0 none 0 0) 27
  u : Zo V (B + 1) U1 um uc1 U
  rl : RoP V (B + 1) A3 m c3 L1
  n1 : L1.map (·.1) = L.map (·.1)
  n2 : ∀ j, k ≤ j → j < L.length → L1.getD j pw0 = L.getD j pw0
  q : ∀ j, j < k → j < L.length → Zo V (B + 1) (L1.getD j pw0).2.1 (L1.getD j pw0).1.t.length (L1.getD j pw0).2.2 (L1.getD j pw0).1.t
  qd : ∀ i j, i < k → j < k → i ≠ j → ∀ g, ownT (L1.getD i pw0) = some g → ownT (L1.getD j pw0) ≠ some g
  ud : ∀ i, i < k → i < L.length → ∀ g, ownT (L1.getD i pw0) = some g → (Value.slice U1 um uc1).ownBlock ≠ some g
theorem Cpt.step {w V V' : World} {B : Nat} {a : Int} {um : Nat} {U : List Int} {m : Nat} {L : List Pw} {k : Nat} {U1 : Option Addr} {uc1 : Nat} {A3 : Option Addr} {c3 : Nat} {L1 : List Pw} (h : Cpt w B a um U m L k U1 uc1 A3 c3 L1 V) (b : Below V.heap.size V V') (hB : B ≤ V.heap.size) : Cpt w B a um U m L k U1 uc1 A3 c3 L1 V' :=
  ⟨h.b.trans (b.mono hB), h.ks.below b h.ks.lt, h.k2.below b h.k2.lt, h.u.below b (Nat.le_refl _), h.rl.below b (Nat.le_refl _), h.n1, h.n2, fun j h1 h2 => (h.q j h1 h2).below b (Nat.le_refl _), h.qd, h.ud⟩
theorem Tk.at_ {w : World} {B : Nat} {Ua : Option Addr} {um uc : Nat} {U : List Int} {A : Option Addr} {m c : Nat} {L : List Pw} (h : Tk w B Ua um uc U A m c L) {k : Nat} (hk : k < L.length) : Tr w B (L.getD k pw0) := h.p.at' hk
set_option maxRecDepth 100000 in
set_option maxHeartbeats 8000000 in
theorem copied_tk (a : Int) (Ua : Option Addr) (um uc : Nat) (U : List Int) (A : Option Addr) (m c : Nat) (L : List Pw) (w : World) (h : Tk w w.heap.size Ua um uc U A m c L) :
    Calls Tryz.prog 89 #[tkV a Ua um uc A m c] w fun e w' => ∃ U1 uc1 A1 c1 L1, e = .returned (tkV a U1 um uc1 A1 m c1) ∧ OwnT w' w.heap.size U1 um uc1 U A1 m c1 L1 ∧ L1.map (·.1) = L.map (·.1) ∧ Below w.heap.size w w' := by
  have k1 := (Blk.new w (tkC a Ua um uc A m c) 27).alloc (.cells #[.int .i64 0, .slice none 0 0, .slice none 0 0] 27)
  have k2 : Blk ((w.alloc (.cells (tkC a Ua um uc A m c) 27)).alloc (.cells #[.int .i64 0, .slice none 0 0, .slice none 0 0] 27)) (w.heap.size + 1) (tkC 0 none 0 0 none 0 0) 27 := Blk.new_ _ _ _ (by simp)
  have B0 := ((Below.refl w.heap.size w).alloc (Nat.le_refl _) (.cells (tkC a Ua um uc A m c) 27)).alloc (by simp) (.cells #[.int .i64 0, .slice none 0 0, .slice none 0 0] 27)
  have CU := Lib.hid (fun (V : World) (hV : Below w.heap.size w V) => zclone_any Ua um uc U V ((h.u.below hV (Nat.le_refl _)).more hV.size) h.ul h.u6)
  have CP := Lib.hid (fun (V : World) (hV : Below w.heap.size w V) => clone_P A m c L V (h.p.below hV (Nat.le_refl _) |>.more hV.size).at_ h.pl h.p6)
  have HS := Lib.hid h
  have HM2 := Lib.hid h.pl
  have h6 : m ≤ 100000 := h.p6
  have q1 := k1.cell 1
  change _ = some (Value.slice Ua um uc) at q1
  clear h
  unfold tkV
  go_enter Tryz.func89, Tryz.ntmps89
  go_wp2_with (first
    | (refine (CU.out _ B0).mono ?_
       clear CU q1
       rintro e w1 ⟨U1, uc1, rfl, zu, bb⟩
       have k11 := k1.below bb k1.lt
       have k21 := k2.below bb k2.lt
       have hs1 : w.heap.size + 1 < w1.heap.size := k21.lt
       have B1 := B0.trans (bb.mono B0.size)
       have zu := zu.down (b := w.heap.size + 1) (by simp)
       clear bb k1 k2 B0)
    | (refine wpList_stf rfl 22 (.tmp 10) (.tmp 8) rfl w.heap.size 1 (tkC a Ua um uc A m c) 27 (.slice U1 um uc1) rfl rfl k11 (by show 1 < 3; decide) (by kernel_rfl) rfl rfl ?_
       intro w2 k12 n2
       have k12 : Blk w2 w.heap.size (tkC a U1 um uc1 A m c) 27 := k12
       have zu : Zo w2 (w.heap.size + 1) U1 um uc1 U := own_kind zu (grown_but n2) (fun g e => by cases e; exact ⟨_, _, k11, by decide⟩)
       have k22 := n2.blk7 k21 (by omega)
       have B2 := B1.trans (n2.below _ (Nat.le_refl _) B1.size)
       have q2 := k12.cell 2
       change _ = some (Value.slice A m c) at q2
       have hs2 : w.heap.size + 1 < w2.heap.size := k22.lt
       clear n2 k11 k21 B1 hs1)
    | (refine (CP.out _ B2).mono ?_
       clear CP q2
       rintro e w3 ⟨A3, c3, rfl, rp, bb⟩
       have k13 := k12.below bb k12.lt
       have k23 := k22.below bb k22.lt
       have B3 := B2.trans (bb.mono B2.size)
       have zu := zu.below bb (Nat.le_refl _)
       have rp := rp.down (b := w.heap.size + 1) (by omega)
       have hs3 : w.heap.size + 1 < w3.heap.size := k23.lt
       clear bb k12 k22 B2 hs2)
    | (refine wpList_stf rfl 25 (.tmp 14) (.tmp 13) rfl w.heap.size 2 (tkC a U1 um uc1 A m c) 27 (.slice A3 m c3) rfl rfl k13 (by show 2 < 3; decide) (by kernel_rfl) rfl rfl ?_
       intro w4 k14 n4
       have C0 : Cpt w w.heap.size a um U m L 0 U1 uc1 A3 c3 L w4 := ⟨B3.trans (n4.below _ (Nat.le_refl _) B3.size), k14, n4.blk7 k23 (by omega), own_kind zu (grown_but n4) (fun g e => by cases e; exact ⟨_, _, k13, by decide⟩), own_kind rp (grown_but n4) (fun g e => by cases e; exact ⟨_, _, k13, by decide⟩), rfl, fun _ _ _ => rfl, fun j h => absurd h (by omega), fun i j h => absurd h (by omega), fun i h => absurd h (by omega)⟩
       have q2 := C0.ks.cell 2
       change _ = some (Value.slice A3 m c3) at q2
       clear n4 k13 k23 B3 hs3 zu rp k14))
  try clear q2
  go_loopw [18] (fun i wr' => ∃ (k : Nat) (L1 : List Pw) (wr : World), wr = wr' ∧ k ≤ m ∧ i = .int .i64 k ∧ Hid (Cpt w w.heap.size a um U m L k U1 uc1 A3 c3 L1 wr)) (fun i _ => m - (intOf i).toNat)
  case atStart => exact ⟨0, L, _, rfl, Nat.zero_le _, rfl, Lib.hid C0⟩
  case round =>
    clear C0
    obtain ⟨k, L1, wr, hwr, hk, rfl, HC⟩ := hrel
    subst hwr
    have C := HC.out
    clear HC
    have hll : L1.length = L.length := by have := congrArg List.length C.n1; simpa using this
    by_cases hlt : k < m
    · have hlt' : (k : Int) < (m : Int) := by omega
      have hkl : k < L.length := by have := HM2.out; omega
      have hkl1 : k < L1.length := by omega
      obtain ⟨g3, hA3, hg3, hg3l⟩ := C.rl.at0 (by omega)
      subst hA3
      obtain ⟨b, off, he, hb, hc⟩ := C.rl.rs k hkl1
      cases he
      have hx := C.n2 k (Nat.le_refl _) hkl
      have hq := HS.out.at_ hkl
      rw [← hx] at hq
      rw [Nat.zero_add] at hc
      have hgB : w.heap.size + 1 ≤ g3 := hg3
      obtain ⟨x, hxx⟩ : ∃ x, L1.getD k pw0 = x := ⟨_, rfl⟩
      rw [hxx] at hc hq
      have HXX := Lib.hid hxx
      clear hx hxx hll
      have hwB : w.heap.size ≤ wr.heap.size := C.b.size
      have ZC := Lib.hid (fun (V : World) (hV : Below w.heap.size w V) => zclone_any x.2.1 x.1.t.length x.2.2 x.1.t V ((hq.ri.below hV (Nat.le_refl _)).more hV.size) rfl hq.l)
      go_wp2_with (first
        | (refine wpList_load_mid rfl 49 (.tmp 21) rfl g3 (k * 3) rfl (prC x).toList _ hc Tryz.underlying49 rfl (pr_infL x) ?_)
        | (refine wpList_store_blk rfl 49 (.tmp 4) (.tmp 22) rfl wr.heap.size (prC pw0) (prC x) 49 rfl rfl (Blk.new _ _ _) rfl (pr_inf x) (pr_one x) ?_
           intro w1 k4 n4
           have bb : Below wr.heap.size wr w1 := ((Below.refl _ wr).alloc (Nat.le_refl _) _).trans (n4.below _ (Nat.le_refl _) (by simp))
           have C1 := C.step bb hwB
           have hwr4 : wr.heap.size < w1.heap.size := k4.lt
           clear hc C bb n4))
      try simp only [Act.put, qA, qB, qC, qD, qE, qF]
      refine region_cutP ?_
      have C2 := C1.step (Below.refl _ _).drew C1.b.size
      have J : Below w.heap.size w w1.drew ∧ (Blk w1.drew w.heap.size (tkC a U1 um uc1 (some ⟨g3, 0, none⟩) m c3) 27 ∧ Blk w1.drew wr.heap.size (prC x) 49) := ⟨C2.b, C2.ks, k4.drew⟩
      refine wp_region_held_drew (S := (fun V => Below w.heap.size w V ∧ (Blk V w.heap.size (tkC a U1 um uc1 (some ⟨g3, 0, none⟩) m c3) 27 ∧ Blk V wr.heap.size (prC x) 49))) (by kernel_rfl) J (fun _ => ?_)
      refine wpAnyH_take (i := 0) (v := .pointer (some ⟨w.heap.size, 2, none⟩)) rfl (by kernel_rfl) (by kernel_rfl) (by kernel_rfl) (fun _ _ _ h => nomatch h.1) (.inl ⟨by rfl, fun V hV => by go_simp⟩) J ?_
      try simp only [Act.put, qA, qB, qC, qD, qE, qF]
      refine wpAnyH_take (i := 2) (v := .int .i64 k) rfl (by kernel_rfl) (by kernel_rfl) (by kernel_rfl) (fun _ _ _ h => nomatch h.1) (.inl ⟨by rfl, fun V hV => by go_simp⟩) J ?_
      try simp only [Act.put, qA, qB, qC, qD, qE, qF]
      refine wpAnyH_take (i := 3) (v := .pointer (some ⟨wr.heap.size, 2, none⟩)) rfl (by kernel_rfl) (by kernel_rfl) (by kernel_rfl) (fun _ _ _ h => nomatch h.1) (.inl ⟨by rfl, fun V hV => by go_simp⟩) J ?_
      try simp only [Act.put, qA, qB, qC, qD, qE, qF]
      refine wpAnyH_take (i := 1) (v := .slice (some ⟨g3, 0, none⟩) m c3) rfl (by kernel_rfl) (by kernel_rfl) (by kernel_rfl) (fun _ _ _ h => nomatch h.1) (.inl ⟨by rfl, fun V hV => by have c2 : V.cell? ⟨w.heap.size, 2, none⟩ = some (.slice (some ⟨g3, 0, none⟩) m c3) := hV.2.1.cell 2; go_simp⟩) J ?_
      try simp only [Act.put, qA, qB, qC, qD, qE, qF]
      refine wpAnyH_take (i := 4) (v := .slice x.2.1 x.1.t.length x.2.2) rfl (by kernel_rfl) (by kernel_rfl) (by kernel_rfl) (fun _ _ _ h => nomatch h.1) (.inl ⟨by rfl, fun V hV => by have c2 : V.cell? ⟨wr.heap.size, 2, none⟩ = some (.slice x.2.1 x.1.t.length x.2.2) := hV.2.2.cell 2; go_simp⟩) J ?_
      try simp only [Act.put, qA, qB, qC, qD, qE, qF]
      refine wpAnyH_ready (rs := [5]) (by kernel_rfl) (by simp) ?_
      refine AllReadyH.cons rfl (fun K hK => ?_) AllReadyH.nil
      try simp only [Act.put, qA, qB, qC, qD, qE, qF]
      go_simp
      have hWW : w1.heap.size ≤ w1.drew.heap.size := Nat.le_refl _
      obtain ⟨W0, hW0⟩ : ∃ W0, W0 = w1.drew := ⟨_, rfl⟩
      rw [← hW0] at J C2 hWW ⊢
      clear hW0
      refine (ZC.out _ J.1).mono ?_
      rintro e W2 ⟨A4, c4, rfl, zo, bb⟩
      go_wp2_with fail
      have hs2 : W0.heap.size ≤ W2.heap.size := bb.size
      have C3 := C2.step bb C2.b.size
      have hqge : ∀ g, (Value.slice A4 x.1.t.length c4).ownBlock = some g → W0.heap.size ≤ g := fun g e => (zo_at zo e).1
      have hqlt : ∀ j, j < k → j < L.length → ∀ g, ownT (L1.getD j pw0) = some g → g < W0.heap.size := fun j h1 h2 g e => (zo_at (C2.q j h1 h2) e).2
      have hult : ∀ g, (Value.slice U1 um uc1).ownBlock = some g → g < W0.heap.size := fun g e => (zo_at C2.u e).2
      have zo1 := zo.down (b := w.heap.size + 1) (by have := C2.k2.lt; omega)
      have J : Below w.heap.size w W2 ∧ (Blk W2 w.heap.size (tkC a U1 um uc1 (some ⟨g3, 0, none⟩) m c3) 27 ∧ Blk W2 wr.heap.size (prC x) 49) := ⟨C3.b, C3.ks, J.2.2.below bb J.2.2.lt⟩
      clear bb zo C2
      refine hK.out _ _ J (fun _ => ?_)
      clear hK K
      try simp only [Act.put, qA, qB, qC, qD, qE, qF]
      refine wpAnyH_take (i := 6) (v := .pointer (some ⟨g3, k * 3, none⟩)) rfl (by kernel_rfl) (by kernel_rfl) (by kernel_rfl) (fun _ _ _ h => nomatch h.1) (.inl ⟨by rfl, fun V hV => by go_simp⟩) J ?_
      try simp only [Act.put, qA, qB, qC, qD, qE, qF]
      refine wpAnyH_take (i := 7) (v := .pointer (some ⟨g3, k * 3 + 2, none⟩)) rfl (by kernel_rfl) (by kernel_rfl) (by kernel_rfl) (fun _ _ _ h => nomatch h.1) (.inl ⟨by rfl, fun V hV => by go_simp⟩) J ?_
      try simp only [Act.put, qA, qB, qC, qD, qE, qF]
      refine wpAnyH_ready (rs := [8]) (by kernel_rfl) (by simp) ?_
      refine AllReadyH.cons rfl (fun K hK => ?_) AllReadyH.nil
      try simp only [Act.put, qA, qB, qC, qD, qE, qF]
      obtain ⟨b7, off7, he7, hb7, hc7⟩ := C3.rl.rs k hkl1
      cases he7
      have q2 : W2.cell? ⟨g3, k * 3 + 2, none⟩ = some (.slice x.2.1 x.1.t.length x.2.2) := by have := hc7 2 _ rfl; rw [HXX.out, Nat.zero_add] at this; exact this
      have f2 := World.ownsRow.frozenAt C3.rl (k * 3 + 2)
      go_simp
      clear q2 f2 hc7
      have hy : (prC (x.1, (A4, c4))).toList = (prC (L1.getD k pw0)).toList.set 2 (.slice A4 x.1.t.length c4) := by rw [HXX.out]; rfl
      have rl9 := C3.rl.cellSet hkl1 (j := 2) (u := .slice A4 x.1.t.length c4) (y := (x.1, (A4, c4))) (by omega) hy
      have n9 : But g3 W2 (W2.setCell ⟨g3, k * 3 + 2, none⟩ (.slice A4 x.1.t.length c4)) := (But.refl g3 W2).setCell (p := ⟨g3, k * 3 + 2, none⟩) (.inl rfl) _
      obtain ⟨curK, kK⟩ := roP_blk C3.rl rfl
      have hkn : ∀ j, (L1.set k (x.1, (A4, c4))).getD j pw0 = if j = k then (x.1, (A4, c4)) else L1.getD j pw0 := fun j => getD_setP hkl1
      have hbne : w.heap.size + 1 ≠ g3 := fun e => by rw [← e] at kK; exact absurd (blk_kind kK C3.k2) (by decide)
      have hz : ∀ {A m c l}, Zo W2 (w.heap.size + 1) A m c l → Zo (W2.setCell ⟨g3, k * 3 + 2, none⟩ (.slice A4 x.1.t.length c4)) (w.heap.size + 1) A m c l := fun h => own_kind h (grown_but n9) (fun g e => by cases e; exact ⟨_, _, kK, by decide⟩)
      have J : Below w.heap.size w (W2.setCell ⟨g3, k * 3 + 2, none⟩ (.slice A4 x.1.t.length c4)) ∧ (Blk (W2.setCell ⟨g3, k * 3 + 2, none⟩ (.slice A4 x.1.t.length c4)) w.heap.size (tkC a U1 um uc1 (some ⟨g3, 0, none⟩) m c3) 27 ∧ Blk (W2.setCell ⟨g3, k * 3 + 2, none⟩ (.slice A4 x.1.t.length c4)) wr.heap.size (prC x) 49) := ⟨C3.b.trans (n9.below _ (by omega) C3.b.size), n9.blk7 C3.ks (by omega), n9.blk7 J.2.2 (by have := hg3l; omega)⟩
      have C9 : Cpt w w.heap.size a um U m L (k + 1) U1 uc1 (some ⟨g3, 0, none⟩) c3 (L1.set k (x.1, (A4, c4))) (W2.setCell ⟨g3, k * 3 + 2, none⟩ (.slice A4 x.1.t.length c4)) := ⟨J.1, J.2.1, n9.blk7 C3.k2 hbne, hz C3.u, rl9, by rw [names_setP hkl1 (by rw [HXX.out])]; exact C3.n1, fun j h1 h2 => by rw [hkn j, if_neg (by omega)]; exact C3.n2 j (by omega) h2,
          (fun j h1 h2 => by
            rw [hkn j]
            by_cases hjk : j = k
            · rw [if_pos hjk]; exact hz zo1
            · rw [if_neg hjk]; exact hz (C3.q j (by omega) h2)),
          (fun i j hi hj hne g => by
            rw [hkn i, hkn j]
            by_cases hik : i = k
            · by_cases hjk : j = k
              · omega
              · rw [if_pos hik, if_neg hjk]
                intro h1 h2
                have := hqge g h1
                have := hqlt j (by omega) (by omega) g h2
                omega
            · by_cases hjk : j = k
              · rw [if_neg hik, if_pos hjk]
                intro h1 h2
                have := hqge g h2
                have := hqlt i (by omega) (by omega) g h1
                omega
              · rw [if_neg hik, if_neg hjk]
                exact C3.qd i j (by omega) (by omega) hne g),
          (fun i hi hil g => by
            rw [hkn i]
            by_cases hik : i = k
            · rw [if_pos hik]
              intro h1 h2
              have := hqge g h1
              have := hult g h2
              omega
            · rw [if_neg hik]
              exact C3.ud i (by omega) hil g)⟩
      generalize (W2.setCell ⟨g3, k * 3 + 2, none⟩ (.slice A4 x.1.t.length c4)) = W9 at J C9 ⊢
      refine hK.out _ _ J (fun _ => ?_)
      clear hK K
      try simp only [Act.put, qA, qB, qC, qD, qE, qF]
      refine wpAnyH_done (by kernel_rfl) ?_ _
      refine ⟨rfl, ?_⟩
      clear J
      go_wp2_with fail
      go_roundw
      case rel => exact ⟨k + 1, _, _, rfl, by omega, by go_num, Lib.hid C9⟩
      case measure => simp [intOf]; omega
    · obtain rfl : k = m := by omega
      go_wp2_with (first
        | (refine wpList_load_row rfl 27 (.tmp 1) rfl w.heap.size rfl 27 (tkC a U1 um uc1 A3 k c3) (0, 0) _ C.ks.blk Tryz.underlying27 rfl (tk_inf _ _ _ _ _ _ _) ?_)
        | (refine wpList_store_blk rfl 27 (.tmp 2) (.tmp 32) rfl (w.heap.size + 1) (tkC 0 none 0 0 none 0 0) (tkC a U1 um uc1 A3 k c3) 27 rfl rfl C.k2 rfl (tk_inf _ _ _ _ _ _ _) (tk_one _ _ _ _ _ _ _) ?_
           intro w3 h3 n3))
      refine bodyPost_ret (results_cell_row rfl _ _ (w.heap.size + 1) 27 (tkC a U1 um uc1 A3 k c3) (0, 0) _ rfl h3.blk Tryz.underlying27 rfl (tk_inf _ _ _ _ _ _ _)) rfl ?_
      have O : OwnT wr w.heap.size U1 um uc1 U A3 k c3 L1 := ⟨C.u.down (by omega), C.rl.down (by omega), fun x hx => by
        obtain ⟨j, hj, rfl⟩ := List.getElem_of_mem hx
        have hk2 := HM2.out
        have := C.q j (by omega) (by omega)
        rw [show L1.getD j pw0 = L1[j] by simp [List.getD, hj]] at this
        exact this.down (by omega), fun i j hi hj => C.qd i j (by have := HM2.out; omega) (by have := HM2.out; omega), fun x hx g hg => by
        obtain ⟨j, hj, rfl⟩ := List.getElem_of_mem hx
        have hk2 := HM2.out
        rw [show L1[j] = L1.getD j pw0 by simp [List.getD, hj]] at hg
        exact C.ud j (by omega) (by omega) g hg⟩
      exact ⟨U1, uc1, A3, c3, L1, rfl, O.kind n3 C.k2 (by decide) (by decide), C.n1, C.b.trans (n3.below _ (by omega) C.b.size)⟩
end Go.Proofs.YtlelhhgggnjndaaGreat
namespace Go.Proofs.YtlelhhgggnjndaaGreat
open Go.RowKit Go.Shelf
set_option linter.unusedVariables false
set_option linter.unusedSimpArgs false
structure TkA where
  a : Int
  U : List Int
  P : List Pn
  n : Int
  e : Int
def noT (e : Int) : TkA := ⟨0, [], [], 0, e⟩
def ChT (V' : World) (B g : Nat) (r : TkA) : Prop := ∃ Ua um uc A m c L, Blk V' g (tkC r.a Ua um uc A m c) 27 ∧ Tk V' V'.heap.size Ua um uc r.U A m c L ∧ L.map (·.1) = r.P ∧ OwnT V' B Ua um uc r.U A m c L
def TkR (w : World) (B : Nat) (v : Value) (r : TkA) : Prop := ∃ Ua um uc A m c L, v = tkV r.a Ua um uc A m c ∧ Tk w w.heap.size Ua um uc r.U A m c L ∧ L.map (·.1) = r.P ∧ OwnT w B Ua um uc r.U A m c L
theorem tk_nil (w : World) (B : Nat) : Tk w B none 0 0 [] none 0 0 [] := ⟨fun k hk => absurd hk (by simp), rfl, by omega, Ps.nil, rfl, by omega, by simp [thrF]⟩
theorem ownt_nil (w : World) (B : Nat) : OwnT w B none 0 0 [] none 0 0 [] := ⟨zo_nil w B, ro_nilP w B, fun x hx => (by cases hx), fun i j hi => absurd hi (by simp), fun x hx => (by cases hx)⟩
theorem tkR_nil (w : World) (B : Nat) (e : Int) : TkR w B (tkV 0 none 0 0 none 0 0) (noT e) := ⟨none, 0, 0, none, 0, 0, [], rfl, tk_nil _ _, rfl, ownt_nil w B⟩
abbrev DoT (cf : Nat) (cb : Array Value) (S : Nat → World → Prop) (a : Int) (U : List Int) (P : List Pn) (p : Nat) (r : TkA) : Prop :=
  ∀ (V : World) (B g : Nat) (Ua : Option Addr) (um uc : Nat) (A : Option Addr) (m c : Nat) (L : List Pw), S B V → L.map (·.1) = P → OwnT V B Ua um uc U A m c L → Tk V V.heap.size Ua um uc U A m c L → Blk V g (tkC a Ua um uc A m c) 27 → B ≤ g →
    Calls Tryz.prog cf (#[.pointer (some ⟨g, 0, none⟩), .int .i64 p] ++ cb) V fun e V' => e = .returned (.tuple #[.int .i64 r.n, .int .i64 r.e]) ∧ Below B V V' ∧ (r.e = 0 → ChT V' B g r)
def chgT (ck : Int) (p : Nat × Bool) (r : TkA) : TkA := if ck = 0 then (if p.2 = true then (if r.e = 0 then r else noT r.e) else noT 25) else noT ck
set_option maxRecDepth 100000 in
set_option maxHeartbeats 8000000 in
theorem changed_tk (ff cf : Nat) (cb : Array Value) (S : Nat → World → Prop) (a : Int) (Ua : Option Addr) (um uc : Nat) (U : List Int) (A : Option Addr) (m c : Nat) (L : List Pw) (id : Int) (p : Nat × Bool) (r : TkA) (w : World)
    (ef : ∀ args w, (callFunc ff args).run Tryz.prog w = .ok (.enter ff args) w) (ec : ∀ args w, (callFunc cf args).run Tryz.prog w = .ok (.enter cf args) w) (h : Tk w w.heap.size Ua um uc U A m c L)
    (hf : tkE a U L = 0 → ∀ V, Tk V V.heap.size Ua um uc U A m c L → Calls Tryz.prog ff #[tkV a Ua um uc A m c, .int .i64 id] V fun e V' => e = .returned (.tuple #[.int .i64 p.1, .bool p.2]) ∧ Below V.heap.size V V')
    (hS : ∀ B V, w.heap.size ≤ B → Below w.heap.size w V → S B V) (hc : tkE a U L = 0 → p.2 = true → DoT cf cb S a U (L.map (·.1)) p.1 r) (htr : ∀ x ∈ L, x.1.t.length ≤ 1000000) :
    Calls Tryz.prog 58 #[tkV a Ua um uc A m c, .func (.func ff) #[] #[], .int .i64 id, .func (.func cf) #[] cb] w fun e w' => ∃ v, e = .returned (.tuple #[v, .int .i64 (chgT (tkE a U L) p r).n, .int .i64 (chgT (tkE a U L) p r).e]) ∧ TkR w' w.heap.size v (chgT (tkE a U L) p r) ∧ Below w.heap.size w w' := by
  have k1 := (Blk.new w (tkC a Ua um uc A m c) 27).alloc (.cells #[.int .i64 0, .slice none 0 0, .slice none 0 0] 27)
  have k2 : Blk ((w.alloc (.cells (tkC a Ua um uc A m c) 27)).alloc (.cells #[.int .i64 0, .slice none 0 0, .slice none 0 0] 27)) (w.heap.size + 1) (tkC 0 none 0 0 none 0 0) 27 := Blk.new_ _ _ _ (by simp)
  have B0 := ((Below.refl w.heap.size w).alloc (Nat.le_refl _) (.cells (tkC a Ua um uc A m c) 27)).alloc (by simp) (.cells #[.int .i64 0, .slice none 0 0, .slice none 0 0] 27)
  have CK := Lib.hid (let t := h.on B0; check_tk a Ua um uc U A m c L _ t.u t.ul t.u6 t.p t.pl (by have := h.p6; omega) (by have := h.n; omega))
  have CF := Lib.hid (fun (h0 : tkE a U L = 0) (V : World) (hV : Below w.heap.size w V) => hf h0 V (h.on hV))
  have CC := Lib.hid (fun (V : World) (hV : Below w.heap.size w V) => copied_tk a Ua um uc U A m c L V (h.on hV))
  have HC := Lib.hid hc
  have HT := Lib.hid h
  have HS := Lib.hid hS
  have HTR := Lib.hid htr
  clear hc h hS hf htr
  unfold chgT
  generalize tkE a U L = ck at CK CF HC ⊢
  unfold tkV at *
  obtain ⟨pa, pb⟩ := p
  by_cases h0 : ck = 0
  · subst h0
    rw [if_pos rfl]
    have CF2 := Lib.hid (CF.out rfl)
    have HC2 := Lib.hid (HC.out rfl)
    clear HC CF
    simp only at HC2 CF2 ⊢
    cases pb
    · rw [if_neg (by simp)]
      clear HC2 CC
      go_enter Tryz.func58, Tryz.ntmps58
      go_wp2_with (first
        | (refine wpList_load_row rfl 27 (.tmp 4) rfl w.heap.size rfl 27 (tkC a Ua um uc A m c) (0, 0) _ k1.blk Tryz.underlying27 rfl (tk_inf _ _ _ _ _ _ _) ?_)
        | (refine CK.out.mono ?_
           clear CK
           rintro e w1 ⟨rfl, bb⟩
           have k11 := k1.below bb k1.lt
           have k21 := k2.below bb k2.lt
           have B1 := B0.trans (bb.mono B0.size)
           clear bb k1 k2 B0)
        | (refine wpList_load_row rfl 27 (.tmp 4) rfl w.heap.size rfl 27 (tkC a Ua um uc A m c) (0, 0) _ k11.blk Tryz.underlying27 rfl (tk_inf _ _ _ _ _ _ _) ?_)
        | (refine (CF2.out _ B1).mono ?_
           clear CF2
           rintro e w2 ⟨rfl, bb⟩
           have k22 := k21.below bb k21.lt
           have B2 := B1.trans (bb.mono B1.size)
           clear bb k11 k21 B1)
        | (refine wpList_store_blk rfl 27 (.tmp 8) (.tmp 32) rfl (w.heap.size + 1) (tkC 0 none 0 0 none 0 0) (tkC 0 none 0 0 none 0 0) 27 rfl rfl k22 rfl (tk_inf _ _ _ _ _ _ _) (tk_one _ _ _ _ _ _ _) ?_
           intro w5 h5 n5))
      refine bodyPost_ret (results_row_t2 rfl _ _ (w.heap.size + 1) 27 (tkC 0 none 0 0 none 0 0) _ rfl h5 Tryz.underlying27 rfl (tk_inf _ _ _ _ _ _ _) _ _ rfl rfl) rfl ?_
      exact ⟨_, rfl, tkR_nil _ _ _, B2.trans (n5.below _ (by omega) B2.size)⟩
    · rw [if_pos rfl]
      have HC3 := Lib.hid (HC2.out rfl)
      clear HC2
      generalize hG : (if r.e = 0 then r else noT r.e) = G
      have HG := Lib.hid hG
      clear hG
      go_enter Tryz.func58, Tryz.ntmps58
      go_wp2_with (first
        | (refine wpList_load_row rfl 27 (.tmp 4) rfl w.heap.size rfl 27 (tkC a Ua um uc A m c) (0, 0) _ k1.blk Tryz.underlying27 rfl (tk_inf _ _ _ _ _ _ _) ?_)
        | (refine CK.out.mono ?_
           clear CK
           rintro e w1 ⟨rfl, bb⟩
           have k11 := k1.below bb k1.lt
           have k21 := k2.below bb k2.lt
           have B1 := B0.trans (bb.mono B0.size)
           clear bb k1 k2 B0)
        | (refine wpList_load_row rfl 27 (.tmp 4) rfl w.heap.size rfl 27 (tkC a Ua um uc A m c) (0, 0) _ k11.blk Tryz.underlying27 rfl (tk_inf _ _ _ _ _ _ _) ?_)
        | (refine (CF2.out _ B1).mono ?_
           clear CF2
           rintro e w2 ⟨rfl, bb⟩
           have k12 := k11.below bb k11.lt
           have k22 := k21.below bb k21.lt
           have B2 := B1.trans (bb.mono B1.size)
           clear bb k11 k21 B1)
        | (refine wpList_load_row rfl 27 (.tmp 4) rfl w.heap.size rfl 27 (tkC a Ua um uc A m c) (0, 0) _ k12.blk Tryz.underlying27 rfl (tk_inf _ _ _ _ _ _ _) ?_)
        | (refine (CC.out _ B2).mono ?_
           clear CC
           rintro e w3 ⟨U1, uc1, A1, c1, L1, rfl, own, hnm, bb⟩
           have k23 := k22.below bb k22.lt
           have B3 := B2.trans (bb.mono B2.size)
           have hs2 : w.heap.size + 1 < w2.heap.size := k22.lt
           have hs3 : w2.heap.size ≤ w3.heap.size := bb.size
           clear bb k12 k22 B2)
        | (refine wpList_store_blk rfl 27 (.tmp 14) (.tmp 34) rfl w3.heap.size (tkC 0 none 0 0 none 0 0) (tkC a U1 um uc1 A1 m c1) 27 rfl rfl (Blk.new _ _ _) rfl (tk_inf _ _ _ _ _ _ _) (tk_one _ _ _ _ _ _ _) ?_
           intro w4 k7 n7
           have bb : Below w3.heap.size w3 w4 := ((Below.refl _ w3).alloc (Nat.le_refl _) _).trans (n7.below _ (Nat.le_refl _) (by simp))
           have k24 := k23.below bb k23.lt
           have B4 := B3.trans (bb.mono B3.size)
           have own4 := own.below bb (Nat.le_refl _)
           have tk4 : Tk w4 w4.heap.size U1 um uc1 U A1 m c1 L1 := own4.tk HT.out.u6 HT.out.p6 (fun x hx => by
             have hx2 : x.1 ∈ L.map (·.1) := by rw [← hnm]; exact List.mem_map.2 ⟨x, hx, rfl⟩
             obtain ⟨y, hy, e⟩ := List.mem_map.1 hx2
             rw [← e]; exact HTR.out y hy) (by rw [thrF_names 0 L1 L hnm]; exact HT.out.n)
           have CX := HC3.out w4 w2.heap.size w3.heap.size U1 um uc1 A1 m c1 L1 (HS.out _ _ (by omega) B4) hnm own4 tk4 k7 hs3
           clear bb k23 B3 own n7 tk4))
      refine CX.mono ?_
      clear CX HC3 own4
      rintro e w5 ⟨rfl, bb, hr⟩
      have k25 : Blk w5 (w.heap.size + 1) (tkC 0 none 0 0 none 0 0) 27 := k24.below bb (by omega)
      have B5 : Below w.heap.size w w5 := B4.trans (bb.mono (by omega))
      clear bb k24 B4 k7
      obtain ⟨ra, rU, rP, rn, re⟩ := r
      simp only at hr ⊢
      by_cases he : re = 0
      · subst he
        obtain rfl : (⟨ra, rU, rP, rn, 0⟩ : TkA) = G := HG.out
        obtain ⟨Ua5, um5, uc5, A5, m5, c5, L5, k75, tk5, hn5, fr5⟩ := hr rfl
        clear hr
        go_wp2_with (first
          | (refine wpList_load_row rfl 27 (.tmp 14) rfl w3.heap.size rfl 27 (tkC ra Ua5 um5 uc5 A5 m5 c5) (0, 0) _ k75.blk Tryz.underlying27 rfl (tk_inf _ _ _ _ _ _ _) ?_)
          | (refine wpList_store_blk rfl 27 (.tmp 8) (.tmp 45) rfl (w.heap.size + 1) (tkC 0 none 0 0 none 0 0) (tkC ra Ua5 um5 uc5 A5 m5 c5) 27 rfl rfl k25 rfl (tk_inf _ _ _ _ _ _ _) (tk_one _ _ _ _ _ _ _) ?_
             intro w6 h6 n6))
        refine bodyPost_ret (results_row_t2 rfl _ _ (w.heap.size + 1) 27 (tkC ra Ua5 um5 uc5 A5 m5 c5) _ rfl h6 Tryz.underlying27 rfl (tk_inf _ _ _ _ _ _ _) _ _ rfl rfl) rfl ?_
        exact ⟨_, rfl, ⟨Ua5, um5, uc5, A5, m5, c5, L5, rfl, tk5.off fr5.fr n6 hs2, hn5, (fr5.kind n6 k25 (by decide) (by decide)).down (by omega)⟩, B5.trans (n6.below _ (by omega) B5.size)⟩
      · have hne : (re != 0) = true := by simpa using he
        obtain rfl : noT re = G := by have := HG.out; simpa [he] using this
        clear he hr
        go_wp2_with (first
          | (refine wpList_store_blk rfl 27 (.tmp 8) (.tmp 43) rfl (w.heap.size + 1) (tkC 0 none 0 0 none 0 0) (tkC 0 none 0 0 none 0 0) 27 rfl rfl k25 rfl (tk_inf _ _ _ _ _ _ _) (tk_one _ _ _ _ _ _ _) ?_
             intro w6 h6 n6))
        refine bodyPost_ret (results_row_t2 rfl _ _ (w.heap.size + 1) 27 (tkC 0 none 0 0 none 0 0) _ rfl h6 Tryz.underlying27 rfl (tk_inf _ _ _ _ _ _ _) _ _ rfl rfl) rfl ?_
        exact ⟨_, rfl, tkR_nil _ _ _, B5.trans (n6.below _ (by omega) B5.size)⟩
  · have hne : (ck != 0) = true := by simpa using h0
    rw [if_neg h0]
    clear h0 HC CF CC
    go_enter Tryz.func58, Tryz.ntmps58
    go_wp2_with (first
      | (refine wpList_load_row rfl 27 (.tmp 4) rfl w.heap.size rfl 27 (tkC a Ua um uc A m c) (0, 0) _ k1.blk Tryz.underlying27 rfl (tk_inf _ _ _ _ _ _ _) ?_)
      | (refine CK.out.mono ?_
         clear CK
         rintro e w1 ⟨rfl, bb⟩
         have k21 := k2.below bb k2.lt
         have B1 := B0.trans (bb.mono B0.size)
         clear bb k1 k2 B0)
      | (refine wpList_store_blk rfl 27 (.tmp 8) (.tmp 21) rfl (w.heap.size + 1) (tkC 0 none 0 0 none 0 0) (tkC 0 none 0 0 none 0 0) 27 rfl rfl k21 rfl (tk_inf _ _ _ _ _ _ _) (tk_one _ _ _ _ _ _ _) ?_
         intro w5 h5 n5))
    refine bodyPost_ret (results_row_t2 rfl _ _ (w.heap.size + 1) 27 (tkC 0 none 0 0 none 0 0) _ rfl h5 Tryz.underlying27 rfl (tk_inf _ _ _ _ _ _ _) _ _ rfl rfl) rfl ?_
    exact ⟨_, rfl, tkR_nil _ _ _, B1.trans (n5.below _ (by omega) B1.size)⟩
end Go.Proofs.YtlelhhgggnjndaaGreat
namespace Go.Proofs.YtlelhhgggnjndaaGreat
open Go.RowKit Go.Shelf
set_option linter.unusedVariables false
set_option linter.unusedSimpArgs false
theorem gb_drew (w : World) (row : Option Nat) : w.grownBy w.drew row := ⟨rfl, rfl, rfl, Nat.le_refl _, fun _ _ _ => rfl⟩
theorem gb_of {w w' : World} (h : Below w.heap.size w w') (row : Option Nat) : w.grownBy w' row := ⟨h.os, h.tape, h.output, h.size, fun k hk _ => h.block k hk⟩
theorem setCells_gb (b : Nat) : ∀ (vs : List Value) (o : Nat) (w : World), w.grownBy (w.setCells b o vs) (some b)
  | [], o, w => World.grownBy.refl w _
  | v :: r, o, w => by
    rw [World.setCells]
    exact (grown_but ((But.refl b w).setCell (p := ⟨b, o, none⟩) (.inl rfl) v)).trans (setCells_gb b r (o + 1) _)
def Ipk (base : Nat) (w w' : World) (A A' : Option Addr) : Prop := Below base w w' ∧ w.grownBy w' (A.map (·.block)) ∧ (A'.map (·.block) = A.map (·.block) ∨ ∃ g, A'.map (·.block) = some g ∧ w.heap.size ≤ g)
theorem insert_own (A : Option Addr) (m c : Nat) (l : List Int) (i base vb : Nat) (x : Int) (w : World) (ho : Zo w base A m c l) (hi : i ≤ m) (hm : m ≤ 1000000) (hbase : base ≤ w.heap.size) (hv : w.heap[vb]? = some (.cells #[.int .i64 x] 3 (0, 0))) (hvb : A ≠ some ⟨vb, 0, none⟩) :
    Calls Tryz.prog 65 #[.slice A m c, .int .i64 i, .slice (some ⟨vb, 0, none⟩) 1 1] w fun e w' => ∃ A' c', e = .returned (.slice A' (m + 1) c') ∧ Zo w' base A' (m + 1) c' (l.take i ++ x :: l.drop i) ∧ Ipk base w w' A A' := by
  have hl := ho.len
  have hvs : ∀ j v, [Value.int .i64 x][j]? = some v → w.cell? ⟨vb, 0 + j, none⟩ = some v := fun j v hj => by
    rcases j with _ | j
    · simp at hj; subst hj; simp [World.cell?, hv]
    · simp at hj
  have h1v : ∀ v ∈ [Value.int .i64 x], v.oneCell' = true := by intro v hv; simp at hv; subst hv; rfl
  have h1c : ∀ v ∈ l.map (Value.int .i64), v.oneCell' = true := by intro v hv; obtain ⟨k, _, rfl⟩ := List.mem_map.1 hv; rfl
  have hlen : (l.take i ++ x :: l.drop i).length = m + 1 := by simp; omega
  have hget : ∀ j, j < m + 1 → (l.take i ++ x :: l.drop i).getD j 0 = if j < i then l.getD j 0 else if j = i then x else l.getD (j - 1) 0 := fun j hj => by
    have hti : (l.take i).length = i := by simp; omega
    unfold List.getD
    by_cases h1 : j < i
    · rw [if_pos h1, List.getElem?_append_left (by omega), List.getElem?_take_of_lt h1]
    · rw [if_neg h1, List.getElem?_append_right (by omega), hti]
      by_cases h2 : j = i
      · subst h2; rw [if_pos rfl, Nat.sub_self]; rfl
      · rw [if_neg h2, show j - i = (j - 1 - i) + 1 by omega, List.getElem?_cons_succ, List.getElem?_drop, show i + (j - 1 - i) = j - 1 by omega]
  have hm2 : m + 1 ≤ maxLen := by simp only [maxLen]; omega
  have fit : ∀ (old : Nat) (cs : List Value), cs.length = m + 1 → (∀ j, j < m + 1 → cs[j]? = some (.int .i64 ((l.take i ++ x :: l.drop i).getD j 0))) →
      ∀ (W' : World) (cur : Array Value), W'.heap[w.heap.size]? = some (.cells cur 3 (0, 0)) → cur.size = grownCap w (m + 1) old 3 → (∀ j, j < m + 1 → cur[j]? = cs[j]?) → Zo W' base (some ⟨w.heap.size, 0, none⟩) (m + 1) (grownCap w (m + 1) old 3) (l.take i ++ x :: l.drop i) :=
    fun old cs hcl hc W' cur hh hsz hcur => zo_of_cells hbase hh (grownCap_ge w (m + 1) old 3) (grownCap_le_maxLen w (m + 1) old _ hm2) hsz hlen.symm fun j hj => (hcur j hj).trans (hc j hj)
  have hend : i = m → ∀ j, j < m + 1 → (l.map (Value.int .i64) ++ [Value.int .i64 x])[j]? = some (.int .i64 ((l.take i ++ x :: l.drop i).getD j 0)) := by
    intro e j hj
    rw [hget j hj, e]
    by_cases h1 : j < m
    · rw [if_pos h1, List.getElem?_append_left (by simp; omega), z_get' (by omega)]
    · rw [if_neg h1, if_pos (by omega), List.getElem?_append_right (by simp; omega)]
      have : j - (l.map (Value.int .i64)).length = 0 := by simp; omega
      rw [this]; rfl
  have zsz : ∀ (old : Nat) (cs : List Value), cs.length = m + 1 → (cs.toArray ++ Builtin.zeroCells (Value.int .i64 0).cells (grownCap w (m + 1) old 3 - (m + 1))).size = grownCap w (m + 1) old 3 := by
    intro old cs hc
    have hge := grownCap_ge w (m + 1) old 3
    rw [Array.size_append, size_zeroCells]
    simp [Value.cells, hc]
    omega
  have atEnd : i = m → ∀ (c0 : Nat), c0 < m + 1 → (∀ a, A = some a → ∀ j v, (l.map (Value.int .i64))[j]? = some v → w.cell? (a.add j) = some v) → (A = none → m = 0) → m ≤ c0 → Calls Tryz.prog 65 #[.slice A m c0, .int .i64 i, .slice (some ⟨vb, 0, none⟩) 1 1] w fun e w' => ∃ A' c', e = .returned (.slice A' (m + 1) c') ∧ Zo w' base A' (m + 1) c' (l.take i ++ x :: l.drop i) ∧ Ipk base w w' A A' := by
    intro e c0 hc0 hcs hnil hmc
    have h := Any2.slices_Insert_int_end_grow Tryz.lays2_21 A m c0 vb 0 1 1 (l.map (Value.int .i64)) [.int .i64 x] w (by omega) hmc hc0 (by omega) (by simp [hl]) rfl hnil hcs hvs h1v
    rw [← e] at h
    rw [← e]
    refine Calls.mono (h : Calls Tryz.prog 65 _ w _) ?_
    rintro e2 w' ⟨rfl, rfl⟩
    have hcl : (l.map (Value.int .i64) ++ [Value.int .i64 x]).length = m + 1 := by simp [hl]
    rw [e]
    refine ⟨_, _, rfl, ?_, ⟨⟨rfl, rfl, rfl, by simp, fun k hk => Below.heap_alloc _ _ _ (by simp; omega)⟩, ⟨rfl, rfl, rfl, by simp, fun k hk _ => Below.heap_alloc _ _ _ (by simpa using hk)⟩, .inr ⟨w.heap.size, rfl, Nat.le_refl _⟩⟩⟩
    have := fit c0 _ hcl (hend e) (w.drew.alloc (.cells ((l.map (Value.int .i64) ++ [Value.int .i64 x]).toArray ++ Builtin.zeroCells (Value.int .i64 0).cells (grownCap w (m + 1) c0 3 - (m + 1))) 3)) _ (heap_alloc_new w.drew _) (zsz c0 _ hcl) (fun j hj => by rw [Array.getElem?_append_left (by simp [hl]; omega), List.getElem?_toArray])
    rw [e] at this
    exact this
  rcases ho.form with ⟨rfl, rfl, rfl, rfl⟩ | ⟨g, rfl, hbg, hlt, cur, hh, h1, h2, h3, h4⟩
  · exact atEnd (by omega) 0 (by omega) (fun a e => by cases e) (fun _ => rfl) (Nat.le_refl _)
  · have hne : vb ≠ g := fun e => hvb (by rw [e])
    have hcs : ∀ j v, (l.map (Value.int .i64))[j]? = some v → w.cell? ⟨g, 0 + j, none⟩ = some v := fun j v hj => by
      obtain ⟨hj2, rfl⟩ := z_get hj
      rw [Nat.zero_add]
      simp only [World.cell?, hh]
      exact zo_cells h4 hl (by omega)
    have hcsz : ∀ j, j < c → (w.cell? ⟨g, 0 + j, none⟩).isSome = true := fun j hj => by
      rw [Nat.zero_add]
      simp only [World.cell?, hh, Array.getElem?_eq_getElem (show j < cur.size by omega)]
      rfl
    have hfz : ∀ j, w.frozen? ⟨g, j, none⟩ = false := fun j => by simp [World.frozen?, hh]
    have hc63 : c ≤ 9223372036854775807 := by simp only [maxLen] at h2; omega
    by_cases hr : m + 1 ≤ c
    · by_cases hie : i = m
      · have h := Any2.slices_Insert_int_end_room Tryz.lays2_21 g 0 m c vb 0 1 1 [.int .i64 x] w (by omega) hr hc63 rfl (fun j hj => by rw [Nat.add_assoc]; exact hcsz _ (by omega)) (fun j hj => hfz _) hvs h1v
        subst hie
        refine Calls.mono (h : Calls Tryz.prog 65 _ w _) ?_
        rintro e2 w' ⟨rfl, rfl⟩
        refine ⟨_, _, rfl, ?_, setCells_below g hbg _ _ _, setCells_gb g _ _ _, .inl rfl⟩
        refine zo_of_cells hbg (setCells_at g _ _ _ _ _ hh) hr h2 (by rw [layA_size]; exact h3) hlen.symm fun j hj => ?_
        rw [layA_get _ _ _ _ (by simp; omega), ← hend rfl j hj]
        simp only [Nat.zero_add, List.length_cons, List.length_nil]
        by_cases hj2 : j < i
        · rw [if_neg (by omega), List.getElem?_append_left (by simp; omega), z_get' (by omega)]
          exact zo_cells h4 hl hj2
        · rw [if_pos (by omega), List.getElem?_append_right (by simp; omega)]
          congr 1
          simp; omega
      · have h := Any2.slices_Insert_int_shift Tryz.lays2_21 g 0 m c i vb 0 1 1 (l.map (Value.int .i64)) [.int .i64 x] w (by omega) (by omega) hr hc63 hne (by simp [hl]) rfl hcs (fun j hj => hcsz j (by omega)) (fun j hj => hfz _) hvs h1c h1v
          3 3 1 c (by simp [World.shape?, hv]) (by simp [World.shape?, hh, h3]) (by omega) (by simp [World.frozen?, hv]) (by simp [World.frozen?, hv])
        refine Calls.mono (h : Calls Tryz.prog 65 _ w _) ?_
        rintro e2 w' ⟨rfl, rfl⟩
        refine ⟨_, _, rfl, ?_, ((Below.refl _ w).drew.trans (setCells_below g hbg _ _ _)).trans (setCells_below g hbg _ _ _), (gb_drew w _).trans ((setCells_gb g _ _ _).trans (setCells_gb g _ _ _)), .inl rfl⟩
        have hdl : ((l.map (Value.int .i64)).drop i).length = m - i := by simp [hl]
        refine zo_of_cells hbg (setCells_at g _ _ _ _ _ (setCells_at g _ _ _ w.drew _ hh)) hr h2 (by rw [layA_size, layA_size]; exact h3) hlen.symm fun j hj => ?_
        rw [layA_get _ _ _ _ (by rw [layA_size]; simp; omega), layA_get _ _ _ _ (by rw [hdl]; omega), hget j hj, hdl]
        simp only [Nat.zero_add, List.length_cons, List.length_nil]
        by_cases hj2 : j < i
        · rw [if_neg (by omega), if_neg (by omega), if_pos hj2]
          exact zo_cells h4 hl (by omega)
        · rw [if_neg hj2]
          by_cases hj3 : j = i
          · rw [if_pos (by omega), if_pos hj3, hj3, Nat.sub_self]; rfl
          · rw [if_neg (by omega), if_pos (by omega), if_neg hj3, List.getElem?_drop, show i + (j - (i + 1)) = j - 1 by omega, z_get' (by omega)]
    · by_cases hie : i = m
      · exact atEnd hie c (by omega) (fun a e j v hj => by cases e; rw [z_add]; exact hcs j v hj) (fun e => by cases e) h1
      · have h := Any2.slices_Insert_int_grow Tryz.lays2_21 g 0 m c i vb 0 1 1 (l.map (Value.int .i64)) [.int .i64 x] w (by omega) (by omega) h1 (by omega) (by omega) (by simp [hl]) rfl hcs hvs h1c h1v
        refine Calls.mono (h : Calls Tryz.prog 65 _ w _) ?_
        rintro e2 w' ⟨rfl, rfl⟩
        have b1 : Below base w (w.alloc (.cells (((l.map (Value.int .i64)).take i).toArray ++ Builtin.zeroCells (Value.int .i64 0).cells (m + 1 - i) ++ Builtin.zeroCells (Value.int .i64 0).cells (grownCap w (m + 1) c 3 - (m + 1))) 3)) := (Below.refl _ w).alloc hbase _
        refine ⟨_, _, rfl, ?_, (b1.drew.trans (setCells_below w.heap.size hbase _ _ _)).drew.trans (setCells_below w.heap.size hbase _ _ _), gb_of ((((Below.refl w.heap.size w).alloc (Nat.le_refl _) _).drew.trans (setCells_below w.heap.size (Nat.le_refl _) _ _ _)).drew.trans (setCells_below w.heap.size (Nat.le_refl _) _ _ _)) _, .inr ⟨w.heap.size, rfl, Nat.le_refl _⟩⟩
        have hdl : ((l.map (Value.int .i64)).drop i).length = m - i := by simp [hl]
        have hge := grownCap_ge w (m + 1) c 3
        have hsz : (((l.map (Value.int .i64)).take i).toArray ++ Builtin.zeroCells (Value.int .i64 0).cells (m + 1 - i) ++ Builtin.zeroCells (Value.int .i64 0).cells (grownCap w (m + 1) c 3 - (m + 1))).size = grownCap w (m + 1) c 3 := by
          rw [Array.size_append, Array.size_append, size_zeroCells, size_zeroCells]
          simp [Value.cells]
          omega
        refine zo_of_cells (cur := layA (layA (((l.map (Value.int .i64)).take i).toArray ++ Builtin.zeroCells (Value.int .i64 0).cells (m + 1 - i) ++ Builtin.zeroCells (Value.int .i64 0).cells (grownCap w (m + 1) c 3 - (m + 1))) i [.int .i64 x]) (i + 1) ((l.map (Value.int .i64)).drop i)) hbase ?_ hge (grownCap_le_maxLen w (m + 1) c _ hm2) (by rw [layA_size, layA_size]; exact hsz) hlen.symm fun j hj => ?_
        · have q := setCells_at w.heap.size 3 [.int .i64 x] i _ _ (heap_alloc_new w (.cells (((l.map (Value.int .i64)).take i).toArray ++ Builtin.zeroCells (Value.int .i64 0).cells (m + 1 - i) ++ Builtin.zeroCells (Value.int .i64 0).cells (grownCap w (m + 1) c 3 - (m + 1))) 3))
          exact setCells_at w.heap.size _ _ _ (World.drew _) _ q
        · rw [layA_get _ _ _ _ (by rw [layA_size, hdl, hsz]; omega), layA_get _ _ _ _ (by rw [hsz]; simp; omega), hget j hj, hdl]
          simp only [List.length_cons, List.length_nil]
          by_cases hj2 : j < i
          · rw [if_neg (by omega), if_neg (by omega), if_pos hj2, Array.append_assoc, Array.getElem?_append_left (by simp; omega), List.getElem?_toArray, List.getElem?_take_of_lt hj2, z_get' (by omega)]
          · rw [if_neg hj2]
            by_cases hj3 : j = i
            · rw [if_neg (by omega), if_pos (by omega), if_pos hj3, hj3, Nat.sub_self]; rfl
            · rw [if_pos (by omega), if_neg hj3, List.getElem?_drop, show i + (j - (i + 1)) = j - 1 by omega, z_get' (by omega)]
end Go.Proofs.YtlelhhgggnjndaaGreat
namespace Go.Proofs.YtlelhhgggnjndaaGreat
open Go.RowKit Go.Shelf
set_option linter.unusedVariables false
set_option linter.unusedSimpArgs false
set_option maxRecDepth 100000 in
set_option maxHeartbeats 4000000 in
theorem free_tk (g : Nat) (a : Int) (Ua : Option Addr) (um uc : Nat) (U : List Int) (A : Option Addr) (m c : Nat) (x : Int) (w : World) (hg : Blk w g (tkC a Ua um uc A m c) 27) (hU : Ri7 w w.heap.size Ua U) (hum : um = U.length) (hu6 : um ≤ 1000000) :
    Calls Tryz.prog 100 #[.pointer (some ⟨g, 0, none⟩), .int .i64 x] w fun e w' => ∃ A' m' c' a' l' er, e = .returned (.tuple #[]) ∧ Blk w' g (tkC a' A' m' c' A m c) 27 ∧ Zo w' w.heap.size A' m' c' l' ∧ freeV a U x = (a', l', er) ∧ But g w w' := by
  have q0 : w.cell? ⟨g, 0, none⟩ = some (.int .i64 a) := hg.cell 0
  have q1 : w.cell? ⟨g, 1, none⟩ = some (.slice Ua um uc) := hg.cell 1
  have FR := free_pid a Ua um uc U x w hU hum hu6
  unfold pdV pdC at FR
  clear hum hU
  go_enter Tryz.func100, Tryz.ntmps100
  go_wp2_with (refine FR.mono ?_
               clear FR
               rintro e w1 ⟨A', m', c', a', l', er, rfl, z1, hv, b1⟩
               have g1 := hg.below b1 hg.lt
               have f0 := g1.frozen 0
               have f1 := g1.frozen 1
               have q0 : w1.cell? ⟨g, 0, none⟩ = some (.int .i64 a) := g1.cell 0
               have q1 : w1.cell? ⟨g, 1, none⟩ = some (.slice Ua um uc) := g1.cell 1)
  have h1 := (g1.set_ 0 (.int .i64 a')).set_ 1 (.slice A' m' c')
  have z2 := zo_far (zo_far z1 (p := ⟨g, 0, none⟩) hg.lt (.int .i64 a')) (p := ⟨g, 1, none⟩) hg.lt (.slice A' m' c')
  have n2 : But g w ((w1.setCell ⟨g, 0, none⟩ (.int .i64 a')).setCell ⟨g, 1, none⟩ (.slice A' m' c')) := ((But.of_below b1 g).setCell (p := ⟨g, 0, none⟩) (.inl rfl) _).setCell (p := ⟨g, 1, none⟩) (.inl rfl) _
  refine bodyPost_end (results_none rfl _ _ _) rfl ?_
  exact ⟨A', m', c', a', l', er, rfl, h1, z2, hv, n2⟩
set_option maxRecDepth 100000 in
set_option maxHeartbeats 4000000 in
theorem take_tk (g : Nat) (a : Int) (Ua : Option Addr) (um uc : Nat) (U : List Int) (A : Option Addr) (m c : Nat) (L : List Pw) (w : World) (hg : Blk w g (tkC a Ua um uc A m c) 27) (hU : Ri7 w w.heap.size Ua U) (hum : um = U.length) (hu6 : um ≤ 1000000) (hP : Ps w w.heap.size A L) (hm : m = L.length) (h6 : m ≤ 1000000) (hN : (thrF 0 L).length ≤ 1000000000) :
    Calls Tryz.prog 60 #[.pointer (some ⟨g, 0, none⟩)] w fun e w' =>
      ((thrF 0 L).length = 8 → e = .returned (.tuple #[.int .i64 0, .int .i64 24]) ∧ Below w.heap.size w w') ∧
      (¬ (thrF 0 L).length = 8 → ∃ A' m' c' a' l' id er, e = .returned (.tuple #[.int .i64 id, .int .i64 er]) ∧ Blk w' g (tkC a' A' m' c' A m c) 27 ∧ Zo w' w.heap.size A' m' c' l' ∧ takeV a U = (a', l', id, er) ∧ But g w w') := by
  have q0 : w.cell? ⟨g, 0, none⟩ = some (.int .i64 a) := hg.cell 0
  have q1 : w.cell? ⟨g, 1, none⟩ = some (.slice Ua um uc) := hg.cell 1
  have q2 : w.cell? ⟨g, 2, none⟩ = some (.slice A m c) := hg.cell 2
  have CN := count_any a Ua um uc A m c L w hP hm h6 hN
  have TK := Lib.hid (fun (V : World) (hV : Below w.heap.size w V) => take_pid a Ua um uc U V ((hU.below hV (Nat.le_refl _)).more hV.size) hum hu6)
  obtain ⟨n, hn⟩ : ∃ n, (thrF 0 L).length = n := ⟨_, rfl⟩
  rw [hn] at CN ⊢
  unfold tkV tkC at CN
  unfold pdV pdC at TK
  clear hum hU hn hP hN hm
  by_cases h8 : n = 8
  · subst h8
    go_enter Tryz.func60, Tryz.ntmps60
    go_wp2_with (refine CN.mono ?_
                 clear CN
                 rintro e w1 ⟨rfl, b1⟩)
    refine bodyPost_ret (results_tmp2 rfl _ _ _) rfl ?_
    exact ⟨fun _ => ⟨rfl, b1⟩, fun h => (h trivial).elim⟩
  · have hne : ((n : Int) == 8) = false := by simp; omega
    have H8 := Lib.hid h8
    clear h8
    go_enter Tryz.func60, Tryz.ntmps60
    go_wp2_with (first
      | (refine CN.mono ?_
         clear CN
         rintro e w1 ⟨rfl, b1⟩
         have g1 := hg.below b1 hg.lt
         have q0 : w1.cell? ⟨g, 0, none⟩ = some (.int .i64 a) := g1.cell 0
         have q1 : w1.cell? ⟨g, 1, none⟩ = some (.slice Ua um uc) := g1.cell 1)
      | (refine (TK.out _ b1).mono ?_
         clear TK
         rintro e w2 ⟨A', m', c', a', l', id, er, rfl, z2, hv, b2⟩
         have g2 := g1.below b2 g1.lt
         have g3 := g2.alloc (.cells #[.int .i64 a', .slice A' m' c'] 24)
         have f0 := g3.frozen 0
         have f1 := g3.frozen 1
         have p0 : (w2.alloc (.cells #[.int .i64 a', .slice A' m' c'] 24)).cell? ⟨g, 0, none⟩ = some (.int .i64 a) := g3.cell 0
         have p1 : (w2.alloc (.cells #[.int .i64 a', .slice A' m' c'] 24)).cell? ⟨g, 1, none⟩ = some (.slice Ua um uc) := g3.cell 1
         have HV := Lib.hid hv
         clear hv))
    have n3 : But g w (w2.alloc (.cells #[.int .i64 a', .slice A' m' c'] 24)) := ((But.of_below b1 g).trans (But.of_below b2 g)).alloc _
    have z3 : Zo (w2.alloc (.cells #[.int .i64 a', .slice A' m' c'] 24)) w.heap.size A' m' c' l' := (z2.down b1.size).below ((Below.refl w2.heap.size w2).alloc (Nat.le_refl _) _) (Nat.le_refl _)
    have h1 := (g3.set_ 0 (.int .i64 a')).set_ 1 (.slice A' m' c')
    have z4 := zo_far (zo_far z3 (p := ⟨g, 0, none⟩) hg.lt (.int .i64 a')) (p := ⟨g, 1, none⟩) hg.lt (.slice A' m' c')
    have n4 := (n3.setCell (p := ⟨g, 0, none⟩) (.inl rfl) (.int .i64 a')).setCell (p := ⟨g, 1, none⟩) (.inl rfl) (.slice A' m' c')
    refine bodyPost_ret (results_tmp2 rfl _ _ _) rfl ?_
    exact ⟨fun h => absurd h H8.out, fun _ => ⟨A', m', c', a', l', id, er, rfl, h1, z4, HV.out, n4⟩⟩
end Go.Proofs.YtlelhhgggnjndaaGreat

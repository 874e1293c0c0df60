/-
  What is told of tasks hangs on their names alone.
-/
import Derived.Test.YtlelhhgggnjndaaGreatQTqO
import Derived.Test.YtlelhhgggnjndaaGreatQTpF
import Derived.Test.YtlelhhgggnjndaaGreatQPiRg
import Derived.Test.YtlelhhgggnjndaaGreatQTpP
import Derived.Test.YtlelhhgggnjndaaGreatQPiT
namespace Go.Proofs.YtlelhhgggnjndaaGreat
open Go.RowKit Go.Shelf
set_option linter.unusedVariables false
set_option linter.unusedSimpArgs false
theorem OwnT.snoc {V V' : World} {B um uc m c c' : Nat} {Ua A A' : Option Addr} {U : List Int} {L : List Pw} {y : Pw} (h : OwnT V B Ua um uc U A m c L) (hz : Zo V B y.2.1 y.1.t.length y.2.2 y.1.t) (hf : ∀ g, ownT y = some g → (∀ x ∈ L, ownT x ≠ some g) ∧ (Value.slice Ua um uc).ownBlock ≠ some g)
    (hp : RoP V' B A' (m + 1) c' (L ++ [y])) (hg : V.grownBy V' (Value.slice A m c).ownBlock) : OwnT V' B Ua um uc U A' (m + 1) c' (L ++ [y]) := by
  have hr : ∀ g, (Value.slice A m c).ownBlock = some g → ∃ cs t, Blk V g cs t ∧ t ≠ (3 : TypeId) := fun g e => by
    obtain ⟨cur, k⟩ := roP_blk h.p e
    exact ⟨cur, _, k, by decide⟩
  refine ⟨own_kind h.u hg hr, hp, fun x hx => ?_, qd_iff.2 ?_, fun x hx g e => ?_⟩
  · rcases List.mem_append.1 hx with h1 | h1
    · exact own_kind (h.q x h1) hg hr
    · rw [List.mem_singleton] at h1
      subst h1
      exact own_kind hz hg hr
  · refine List.pairwise_append.2 ⟨qd_iff.1 h.qd, List.pairwise_singleton _ _, fun x hx z hz2 => ?_⟩
    rw [List.mem_singleton] at hz2
    subst hz2
    exact fun g e1 e2 => (hf g e2).1 x hx e1
  · rcases List.mem_append.1 hx with h1 | h1
    · exact h.ud x h1 g e
    · rw [List.mem_singleton] at h1
      subst h1
      exact (hf g e).2
theorem OwnT.fresh {V : World} {B um uc m c : Nat} {Ua A : Option Addr} {U : List Int} {L : List Pw} {g : Nat} (h : OwnT V B Ua um uc U A m c L) (hg : V.heap.size ≤ g) : (∀ x ∈ L, ownT x ≠ some g) ∧ (Value.slice Ua um uc).ownBlock ≠ some g :=
  ⟨fun x hx e => by have := (zo_at (h.q x hx) e).2; omega, fun e => by have := (zo_at h.u e).2; omega⟩
theorem pr_setT (x : Pw) (A3 : Option Addr) (n c3 : Nat) (t : List Int) (h : n = t.length) : (prC x).setIfInBounds 2 (.slice A3 n c3) = prC (⟨x.1.i, x.1.p, t⟩, (A3, c3)) := by subst h; rfl
def shP (x : Pn) : Pn := ⟨x.i, x.p, x.t.take 10⟩
structure Shs (w : World) (x : Tx) (Ua1 : Option Addr) (u1 uc1 : Nat) (G : Option Addr) (gm gc : Nat) (M : List Pw) (V : World) : Prop where
  b : Below w.heap.size w V
  ks : Blk V w.heap.size (tkC x.a Ua1 u1 uc1 x.A x.m x.c) 27
  k2 : Blk V (w.heap.size + 1) (tkC 0 none 0 0 none 0 0) 27
  o : OwnT V (w.heap.size + 2) Ua1 u1 uc1 (x.U.take 22) G gm gc M
theorem Shs.step {w V V' : World} {x : Tx} {Ua1 : Option Addr} {u1 uc1 : Nat} {G : Option Addr} {gm gc : Nat} {M : List Pw} (h : Shs w x Ua1 u1 uc1 G gm gc M V) (b : Below V.heap.size V V') : Shs w x Ua1 u1 uc1 G gm gc M V' :=
  ⟨h.b.trans (b.mono h.b.size), h.ks.below b h.ks.lt, h.k2.below b h.k2.lt, h.o.below b (Nat.le_refl _)⟩
def ShO (w : World) (x : Tx) (e : Ending) (w' : World) : Prop := ∃ Ua um uc A m c L, e = .returned (tkV x.a Ua um uc A m c) ∧ OwnT w' w.heap.size Ua um uc (x.U.take 22) A m c L ∧ L.map (·.1) = ((x.L.map (·.1)).take 7).map shP ∧ Below w.heap.size w w'
set_option maxRecDepth 100000 in
set_option maxHeartbeats 8000000 in
theorem short_tk (x : Tx) (w : World) (h : TxI w w.heap.size x) :
    Calls Tryz.prog 6 #[.agg (txC x)] w fun e w' => ShO w x e w' := by
  have k1 := (Blk.new w (txC x) 27).alloc (.cells (tkC 0 none 0 0 none 0 0) 27)
  have k2 := Blk.new_ (w.alloc (.cells (txC x) 27)) (tkC 0 none 0 0 none 0 0) 27 (n := w.heap.size + 1) (by simp)
  have B0 := ((Below.refl w.heap.size w).alloc (Nat.le_refl _) (.cells (txC x) 27)).alloc (by simp) (.cells (tkC 0 none 0 0 none 0 0) 27)
  have hs0 : ((w.alloc (.cells (txC x) 27)).alloc (.cells (tkC 0 none 0 0 none 0 0) 27)).heap.size = w.heap.size + 1 + 1 := by simp
  obtain ⟨a, Ua, um, uc, U, A, m, c, L⟩ := x
  have HX := Lib.hid h
  have huc := h.uc
  have hpc := h.pc
  have hpx := h.px
  have hux := h.ux
  have HUL := Lib.hid h.ul
  have HPL := Lib.hid h.pl
  clear h
  simp only at huc hpc hpx hux
  unfold maxLen at hpx hux
  unfold txC at *
  simp only at k1 k2 B0 hs0 ⊢
  obtain ⟨j, hj⟩ : ∃ j, j = min um 22 := ⟨_, rfl⟩
  have hj1 : min (um : Int) 22 = (j : Int) := by omega
  have hjc : j ≤ uc := by omega
  have hj22 : j ≤ 22 := by omega
  have HJ := Lib.hid (show j = (U.take 22).length by rw [List.length_take]; have := HUL.out; simp only at this; omega)
  clear hj
  unfold tkC at k1 k2 B0 hs0 ⊢
  have q1 := k1.cell 1
  change _ = some (Value.slice Ua um uc) at q1
  have k1a := k1.alloc (.cells #[] 3)
  have k2a := k2.alloc (.cells #[] 3)
  have B1 := B0.alloc (by simp; omega) (.cells #[] 3)
  have q1a : _ = some (Value.slice Ua um uc) := k1a.cell 1
  have HU := Lib.hid ((HX.out.u.below B1 (Nat.le_refl _)).take 22)
  simp only at HU
  have HZ := Lib.hid (show Zo (((w.alloc (.cells #[.int .i64 a, .slice Ua um uc, .slice A m c] 27)).alloc (.cells #[.int .i64 0, .slice none 0 0, .slice none 0 0] 27)).alloc (.cells #[] 3)) (w.heap.size + 1 + 1) (some ⟨w.heap.size + 1 + 1, 0, none⟩) 0 0 [] by have := zo_empty ((w.alloc (.cells #[.int .i64 a, .slice Ua um uc, .slice A m c] 27)).alloc (.cells #[.int .i64 0, .slice none 0 0, .slice none 0 0] 27)); rw [hs0] at this; exact this)
  clear hs0 k1 k2 B0
  go_enter Tryz.func6, Tryz.ntmps6
  go_wp2_with (first
    | (refine wpList_appZ rfl (.tmp 6) (.tmp 15) rfl (w.heap.size + 1 + 1) (some ⟨w.heap.size + 1 + 1, 0, none⟩) 0 0 [] rfl HZ.out (by simp) Ua w.heap.size j uc (U.take 22) rfl HU.out HJ.out (by omega) (by simp) ?_
       intro A1 c1 w1 z1 bb
       rw [Nat.zero_add, List.nil_append] at z1
       have k11 := k1a.below bb (by omega)
       have k21 := k2a.below bb (by omega)
       have B2 := B1.trans (bb.mono (by omega))
       have hsz1 : w.heap.size + 2 ≤ w1.heap.size := by
         have h9 := bb.size
         simp at h9
         omega
       clear bb HZ HU q1a q1 k1a k2a B1)
    | (refine wpList_stf rfl 22 (.tmp 18) (.tmp 16) rfl w.heap.size 1 (tkC a Ua um uc A m c) 27 (.slice A1 j c1) rfl rfl k11 (by show 1 < 3; decide) (by kernel_rfl) rfl rfl ?_
       intro w2 k12 n2
       have k12 : Blk w2 w.heap.size (tkC a A1 j c1 A m c) 27 := k12
       have z2 : Zo w2 (w.heap.size + 1 + 1) A1 j c1 (U.take 22) := own_kind z1 (grown_but n2) (fun g e => by cases e; exact ⟨_, _, k11, by decide⟩)
       have k22 := n2.blk7 k21 (by omega)
       have B3 := B2.trans (n2.below _ (Nat.le_refl _) B2.size)
       have q2 := k12.cell 2
       change _ = some (Value.slice A m c) at q2
       clear n2 k11 k21 z1 B2))
  have JS : Shs w ⟨a, Ua, um, uc, U, A, m, c, L⟩ A1 j c1 none 0 0 [] w2 := ⟨B3, k12, k22, ⟨z2, ro_nilP _ _, fun x hx => (by cases hx), fun i j hi => absurd hi (by simp), fun x hx => (by cases hx)⟩⟩
  clear q2 B3 k12 k22 z2 hsz1
  go_loopw [3, 22] (fun q i wr' => ∃ (k : Nat) (G : Option Addr) (gm gc : Nat) (M : List Pw) (wr : World), wr = wr' ∧ k ≤ m ∧ i = .int .i64 k ∧ q = .slice G gm gc ∧ gm ≤ 7 ∧ Hid (M.map (·.1) = (((L.map (·.1)).take k).take 7).map shP) ∧ Shs w ⟨a, Ua, um, uc, U, A, m, c, L⟩ A1 j c1 G gm gc M wr) (fun _ i _ => m - (intOf i).toNat)
  case atStart => exact ⟨0, none, 0, 0, [], _, rfl, Nat.zero_le _, rfl, rfl, by omega, Lib.hid (by simp), JS⟩
  case round =>
    clear JS
    obtain ⟨k, G, gm, gc, M, wr, hwr, hk, rfl, rfl, hg7, HM, J⟩ := hrel
    subst hwr
    by_cases hlt : k < m
    · have hlt' : (k : Int) < (m : Int) := by omega
      have hkl : k < L.length := by have h9 : m = L.length := HPL.out; omega
      obtain ⟨b, off, hA, hb, hc⟩ := (HX.out.p.below J.b (Nat.le_refl _)).at_ k hkl
      have hT := HX.out.p.tr (L.getD k pw0) (by rw [show L.getD k pw0 = L[k] by simp [List.getD, hkl]]; exact List.getElem_mem hkl)
      have htk : (L.map (·.1)).take (k + 1) = (L.map (·.1)).take k ++ [(L.getD k pw0).1] := by
        rw [List.take_succ_eq_append_getElem (by simpa using hkl)]
        simp [List.getD, hkl]
      have htl : ((L.map (·.1)).take k).length = k := by rw [List.length_take, List.length_map]; omega
      have HTK := Lib.hid (And.intro htk htl)
      clear htk htl
      simp only at hA
      subst hA
      simp only at hc hb
      generalize L.getD k pw0 = x at hc hT HTK
      have hs3 : (prC x).size = 3 := pr_size x
      by_cases h6 : k ≤ 6
      · have hd6 : decide ((k : Int) ≤ 6) = true := by simp; omega
        obtain ⟨n, hn⟩ : ∃ n, n = min x.1.t.length 10 := ⟨_, rfl⟩
        have hn1 : min (x.1.t.length : Int) 10 = (n : Int) := by omega
        have hnc : n ≤ x.2.2 := by have := hT.2.1; omega
        have hn10 : n ≤ 10 := by omega
        have hcx : x.2.2 ≤ 2 ^ 63 - 1 := hT.2.2
        have HN := Lib.hid (show n = (x.1.t.take 10).length by rw [List.length_take]; omega)
        have HT := Lib.hid hT.1
        have hle := hT.2.1
        clear hT hn
        go_wp2_with (first
          | (refine wpList_load_mid rfl 49 (.tmp 25) rfl b (off + k * 3) rfl (prC x).toList _ hc Tryz.underlying49 rfl (pr_infL x) ?_)
          | (refine wpList_store_blk rfl 49 (.tmp 5) (.tmp 26) rfl wr.heap.size (prC pw0) (prC x) 49 rfl rfl (Blk.new _ _ _) rfl (pr_inf x) (pr_one x) ?_
             intro W1 k4 n4
             have bb : Below wr.heap.size wr W1 := ((Below.refl _ wr).alloc (Nat.le_refl _) _).trans (n4.below _ (Nat.le_refl _) (by simp))
             have hs1 : wr.heap.size < W1.heap.size := k4.lt
             have q22 : W1.cell? ⟨wr.heap.size, 2, none⟩ = some (.slice x.2.1 x.1.t.length x.2.2) := k4.cell 2
             have k5 := k4.alloc (.cells #[] 3)
             have q23 : (W1.alloc (.cells #[] 3)).cell? ⟨wr.heap.size, 2, none⟩ = some (.slice x.2.1 x.1.t.length x.2.2) := k5.cell 2
             have b1 := bb.trans (((Below.refl _ _).alloc (Nat.le_refl _) (.cells #[] 3)).mono bb.size)
             have HU := Lib.hid ((HT.out.below (J.b.trans (b1.mono J.b.size)) (Nat.le_refl _)).take 10)
             have HZ := Lib.hid (zo_empty W1)
             clear bb n4 k4)
          | (refine wpList_appZ rfl (.tmp 29) (.tmp 36) rfl W1.heap.size (some ⟨W1.heap.size, 0, none⟩) 0 0 [] rfl HZ.out (by simp) x.2.1 w.heap.size n x.2.2 (x.1.t.take 10) rfl HU.out HN.out (by omega) (by simp) ?_
             intro A3 c3 W2 z3 b3
             rw [Nat.zero_add, List.nil_append] at z3
             have k6 := k5.below b3 hs1
             have hs3' : W1.heap.size < W2.heap.size := by have := b3.size; simp at this; omega
             have b2 := b1.trans (b3.mono (Nat.le_of_lt hs1))
             clear b3 k5 HZ HU q22 q23 b1)
          | (refine wpList_stf rfl 22 (.tmp 38) (.tmp 37) rfl wr.heap.size 2 (prC x) 49 (.slice A3 n c3) rfl rfl k6 (by show 2 < 3; decide) (by kernel_rfl) rfl rfl ?_
             intro W3 k7 n7
             have k7 : Blk W3 wr.heap.size (prC (⟨x.1.i, x.1.p, x.1.t.take 10⟩, (A3, c3))) 49 := by
               have h9 := k7
               rw [pr_setT x A3 n c3 _ HN.out] at h9
               exact h9
             have z4 : Zo W3 W1.heap.size A3 (x.1.t.take 10).length c3 (x.1.t.take 10) := by
               rw [← HN.out]
               exact own_kind z3 (grown_but n7) (fun g e => by cases e; exact ⟨_, _, k6, by decide⟩)
             have b4 := b2.trans (n7.below _ (Nat.le_refl _) b2.size)
             have hs4 : W1.heap.size < W3.heap.size := Nat.lt_of_lt_of_le hs3' n7.size
             have HY := Lib.hid (show ∃ y : Pw, y = (⟨x.1.i, x.1.p, x.1.t.take 10⟩, (A3, c3)) from ⟨_, rfl⟩)
             clear n7 k6 z3 b2 hs3'
             obtain ⟨y, hy⟩ := HY.out
             rw [← hy] at k7
             have z4 : Zo W3 W1.heap.size y.2.1 y.1.t.length y.2.2 y.1.t := by rw [hy]; exact z4
             have HY := Lib.hid hy
             clear hy
             have J4 := J.step (b4.alloc b4.size (.cells #[.int .i64 y.1.i, .int .i64 y.1.p, .slice y.2.1 y.1.t.length y.2.2] 49))
             have z5 := z4.below ((Below.refl _ _).alloc (Nat.le_refl _) (.cells #[.int .i64 y.1.i, .int .i64 y.1.p, .slice y.2.1 y.1.t.length y.2.2] 49)) (Nat.le_refl _)
             have hgb : (W3.alloc (.cells #[.int .i64 y.1.i, .int .i64 y.1.p, .slice y.2.1 y.1.t.length y.2.2] 49)).heap[W3.heap.size]? = some (.cells (prC y) 49 (0, 0)) := heap_alloc_new _ _
             clear z4)
          | (refine wpList_load_row rfl 49 (.tmp 5) rfl wr.heap.size rfl 49 #[.int .i64 y.1.i, .int .i64 y.1.p, .slice y.2.1 y.1.t.length y.2.2] (0, 0) _ k7.blk Tryz.underlying49 rfl (pr_inf y) ?_)
          | (refine wpList_app1P rfl (.tmp 39) (.tmp 41) rfl (w.heap.size + 2) G gm gc M rfl J4.o.p y W3.heap.size rfl hgb (by omega) (by have := J4.k2.lt; omega) ?_
             intro A5 c5 W5 r5 g5 b5
             clear k7 hgb b4))
        have hfr : ∀ g, ownT y = some g → (∀ x ∈ M, ownT x ≠ some g) ∧ (Value.slice A1 j c1).ownBlock ≠ some g := fun g e => J.o.fresh (by have := (zo_at z5 e).1; omega)
        have J5 : Shs w ⟨a, Ua, um, uc, U, some ⟨b, off, none⟩, m, c, L⟩ A1 j c1 A5 (gm + 1) c5 (M ++ [y]) W5 := ⟨J4.b.trans (b5.mono (by omega)), J4.ks.below b5 (by omega), J4.k2.below b5 (by omega), J4.o.snoc (z5.down (by have := J.k2.lt; omega)) hfr r5 g5⟩
        have HM5 := Lib.hid (show (M ++ [y]).map (·.1) = (((L.map (·.1)).take (k + 1)).take 7).map shP by
          rw [HTK.out.1, List.take_append, HTK.out.2, List.map_append, List.map_append, HM.out, HY.out, show 7 - k = (6 - k) + 1 by omega, List.take_succ_cons, List.take_nil]
          rfl)
        go_roundw
        case rel => exact ⟨k + 1, A5, gm + 1, c5, _, _, rfl, by omega, by go_num, rfl, by have := r5.len; have h9 := congrArg List.length HM5.out; simp only [List.length_map, List.length_take] at h9; omega, HM5, J5⟩
        case measure => simp [intOf]; omega
      · have hd6 : decide ((k : Int) ≤ 6) = false := by simp; omega
        clear hT
        go_wp2_with (first
          | (refine wpList_load_mid rfl 49 (.tmp 25) rfl b (off + k * 3) rfl (prC x).toList _ hc Tryz.underlying49 rfl (pr_infL x) ?_)
          | (refine wpList_store_blk rfl 49 (.tmp 5) (.tmp 26) rfl wr.heap.size (prC pw0) (prC x) 49 rfl rfl (Blk.new _ _ _) rfl (pr_inf x) (pr_one x) ?_
             intro W1 k4 n4
             have bb : Below wr.heap.size wr W1 := ((Below.refl _ wr).alloc (Nat.le_refl _) _).trans (n4.below _ (Nat.le_refl _) (by simp))
             have J1 := J.step bb
             clear bb n4 k4))
        have HM1 := Lib.hid (show M.map (·.1) = (((L.map (·.1)).take (k + 1)).take 7).map shP by
          rw [HM.out, HTK.out.1, List.take_append, HTK.out.2, show 7 - k = 0 by omega, List.take_zero, List.append_nil])
        go_roundw
        case rel => exact ⟨k + 1, G, gm, gc, M, _, rfl, by omega, by go_num, rfl, hg7, HM1, J1⟩
        case measure => simp [intOf]; omega
    · obtain rfl : k = m := by omega
      have hM : M.map (·.1) = ((L.map (·.1)).take 7).map shP := by
        have h9 : k = L.length := HPL.out
        rw [HM.out, List.take_of_length_le (l := L.map (·.1)) (i := k) (by simp; omega)]
      have HM1 := Lib.hid hM
      have k8 := J.ks
      simp only at k8
      clear hM
      go_wp2_with (first
        | (refine wpList_stf rfl 25 (.tmp 45) (.tmp 44) rfl w.heap.size 2 (tkC a A1 j c1 A k c) 27 (.slice G gm gc) rfl rfl k8 (by show 2 < 3; decide) (by kernel_rfl) rfl rfl ?_
           intro W1 k9 n9
           have k9 : Blk W1 w.heap.size (tkC a A1 j c1 G gm gc) 27 := k9
           have o9 := J.o.kind n9 k8 (by decide) (by decide)
           have k29 := n9.blk7 J.k2 (by omega)
           have b9 := J.b.trans (n9.below _ (Nat.le_refl _) J.b.size)
           clear n9 k8)
        | (refine wpList_load_row rfl 27 (.tmp 1) rfl w.heap.size rfl 27 (tkC a A1 j c1 G gm gc) (0, 0) _ k9.blk Tryz.underlying27 rfl (tk_inf _ _ _ _ _ _ _) ?_)
        | (refine wpList_store_blk rfl 27 (.tmp 2) (.tmp 46) rfl (w.heap.size + 1) (tkC 0 none 0 0 none 0 0) (tkC a A1 j c1 G gm gc) 27 rfl rfl k29 rfl (tk_inf _ _ _ _ _ _ _) (tk_one _ _ _ _ _ _ _) ?_
           intro W2 k10 n10
           have o10 := o9.kind n10 k29 (by decide) (by decide)
           have b10 := b9.trans (n10.below _ (by omega) b9.size)))
      refine bodyPost_ret (results_cell_row rfl _ _ (w.heap.size + 1) 27 (tkC a A1 j c1 G gm gc) (0, 0) _ rfl k10.blk Tryz.underlying27 rfl (tk_inf _ _ _ _ _ _ _)) rfl ?_
      exact ⟨A1, j, c1, G, gm, gc, M, rfl, o10.down (by omega), HM1.out, b10⟩
end Go.Proofs.YtlelhhgggnjndaaGreat
namespace Go.Proofs.YtlelhhgggnjndaaGreat
open Go.RowKit Go.Shelf
set_option linter.unusedVariables false
set_option linter.unusedSimpArgs false
def TkRw (w : World) (B : Nat) (v : Value) (r : TkA) : Prop := ∃ Ua um uc A m c L, v = tkV r.a Ua um uc A m c ∧ Tk w w.heap.size Ua um uc r.U A m c L ∧ L.map (·.1) = r.P ∧ FrT B Ua A L
def beginA : TkA := ⟨1, [1], [⟨1, 0, [1]⟩], 0, 0⟩
set_option maxRecDepth 100000 in
set_option maxHeartbeats 8000000 in
theorem begin_tk (w : World) : Calls Tryz.prog 25 #[] w fun e w' => ∃ v, e = .returned v ∧ TkRw w' w.heap.size v beginA ∧ Below w.heap.size w w' := by
  obtain ⟨s, hs⟩ : ∃ s, w.heap.size = s := ⟨_, rfl⟩
  have k0 : Blk ((((w.alloc (.cells #[.int .i64 0, .slice none 0 0, .slice none 0 0] 27)).alloc (.cells #[.int .i64 1] 3)).alloc (.cells #[.int .i64 1] 3)).alloc (.cells #[.int .i64 1, .int .i64 0, .slice (some ⟨w.heap.size + 2, 0, none⟩) 1 1] 49)) w.heap.size (tkC 0 none 0 0 none 0 0) 27 := (((Blk.new w (tkC 0 none 0 0 none 0 0) 27).alloc _).alloc _).alloc _
  have k1 : Blk ((((w.alloc (.cells #[.int .i64 0, .slice none 0 0, .slice none 0 0] 27)).alloc (.cells #[.int .i64 1] 3)).alloc (.cells #[.int .i64 1] 3)).alloc (.cells #[.int .i64 1, .int .i64 0, .slice (some ⟨w.heap.size + 2, 0, none⟩) 1 1] 49)) (w.heap.size + 1) #[.int .i64 1] 3 := ((Blk.new_ _ _ _ (by simp)).alloc _).alloc _
  have k2 : Blk ((((w.alloc (.cells #[.int .i64 0, .slice none 0 0, .slice none 0 0] 27)).alloc (.cells #[.int .i64 1] 3)).alloc (.cells #[.int .i64 1] 3)).alloc (.cells #[.int .i64 1, .int .i64 0, .slice (some ⟨w.heap.size + 2, 0, none⟩) 1 1] 49)) (w.heap.size + 2) #[.int .i64 1] 3 := (Blk.new_ _ _ _ (by simp)).alloc _
  have k3 : Blk ((((w.alloc (.cells #[.int .i64 0, .slice none 0 0, .slice none 0 0] 27)).alloc (.cells #[.int .i64 1] 3)).alloc (.cells #[.int .i64 1] 3)).alloc (.cells #[.int .i64 1, .int .i64 0, .slice (some ⟨w.heap.size + 2, 0, none⟩) 1 1] 49)) (w.heap.size + 3) (prC ((⟨1, 0, [1]⟩ : Pn), ((some ⟨w.heap.size + 2, 0, none⟩ : Option Addr), 1))) 49 := Blk.new_ _ _ _ (by simp)
  have B0 := ((((Below.refl w.heap.size w).alloc (Nat.le_refl _) (.cells #[.int .i64 0, .slice none 0 0, .slice none 0 0] 27)).alloc (by simp) (.cells #[.int .i64 1] 3)).alloc (by simp; omega) (.cells #[.int .i64 1] 3)).alloc (by simp; omega) (.cells #[.int .i64 1, .int .i64 0, .slice (some ⟨w.heap.size + 2, 0, none⟩) 1 1] 49)
  have HK := Lib.hid (And.intro k0 (And.intro k1 (And.intro k2 (And.intro k3 B0))))
  clear k0 k1 k2 k3 B0 hs
  go_enter Tryz.func25, Tryz.ntmps25
  go_wp2_with (first
    | (refine wpList_store_blk rfl 27 (.tmp 0) (.tmp 6) rfl w.heap.size (tkC 0 none 0 0 none 0 0) (tkC 1 (some ⟨w.heap.size + 1, 0, none⟩) 1 1 (some ⟨w.heap.size + 3, 0, none⟩) 1 1) 27 rfl rfl HK.out.1 rfl (tk_inf _ _ _ _ _ _ _) (tk_one _ _ _ _ _ _ _) ?_
       intro w6 h6 n6))
  refine bodyPost_ret (results_cell_row rfl _ _ w.heap.size 27 (tkC 1 (some ⟨w.heap.size + 1, 0, none⟩) 1 1 (some ⟨w.heap.size + 3, 0, none⟩) 1 1) (0, 0) _ rfl h6.blk Tryz.underlying27 rfl (tk_inf _ _ _ _ _ _ _)) rfl ?_
  obtain ⟨k0, k1, k2, k3, B0⟩ := HK.out
  have l1 := n6.blk7 k1 (by omega)
  have l2 := n6.blk7 k2 (by omega)
  have l3 := n6.blk7 k3 (by omega)
  have ri : ∀ g, Blk w6 g #[.int .i64 1] 3 → Ri7 w6 w6.heap.size (some ⟨g, 0, none⟩) [1] := fun g l k hk => by
    have e : k = 0 := by simpa using hk
    subst e
    exact ⟨g, 0, rfl, l.lt, l.cell 0⟩
  refine ⟨_, rfl, ⟨some ⟨w.heap.size + 1, 0, none⟩, 1, 1, some ⟨w.heap.size + 3, 0, none⟩, 1, 1, [((⟨1, 0, [1]⟩ : Pn), ((some ⟨w.heap.size + 2, 0, none⟩ : Option Addr), 1))], rfl, ⟨ri _ l1, rfl, by omega, ⟨fun k hk => ?_, fun x hx => ?_⟩, rfl, by omega, by simp [thrF]⟩, rfl, ⟨fun a e => by cases e; simp, fun a e => by cases e; simp, fun x hx a e => ?_⟩⟩, B0.trans (n6.below _ (Nat.le_refl _) B0.size)⟩
  · have e : k = 0 := by simpa using hk
    subst e
    refine ⟨w.heap.size + 3, 0, rfl, l3.lt, fun j v hv => ?_⟩
    have := l3.cell j
    rw [Nat.zero_mul, Nat.add_zero, Nat.zero_add]
    rw [this]
    rw [← Array.getElem?_toList]
    exact hv
  · rw [List.mem_singleton.1 hx]
    exact ⟨ri _ l2, Nat.le_refl _, by show (1 : Nat) ≤ 1000000; omega⟩
  · rw [List.mem_singleton.1 hx] at e
    cases e
    simp
end Go.Proofs.YtlelhhgggnjndaaGreat
namespace Go.Proofs.YtlelhhgggnjndaaGreat
open Go.RowKit Go.Shelf
set_option linter.unusedVariables false
set_option linter.unusedSimpArgs false
set_option maxRecDepth 100000 in
set_option maxHeartbeats 4000000 in
theorem parent_tk (a : Int) (Ua : Option Addr) (um uc : Nat) (A : Option Addr) (m c : Nat) (L : List Pw) (pid : Int) (w : World) (hP : Ps w w.heap.size A L) (hm : m = L.length) (h6 : m ≤ 1000000) (hu : (idsP L).Pairwise (· < ·)) (hin : (idsP L).contains pid = true) :
    Calls Tryz.prog 124 #[tkV a Ua um uc A m c, .int .i64 pid] w fun e w' => e = .returned (.int .i64 (L.getD (lessP (idsP L) pid) pw0).1.p) ∧ Below w.heap.size w w' := by
  have k1 := Blk.new w (tkC a Ua um uc A m c) 27
  have B0 := (Below.refl w.heap.size w).alloc (Nat.le_refl _) (.cells (tkC a Ua um uc A m c) 27)
  have PL := Lib.hid (place_tk a Ua um uc A m c L pid _ ((hP.below B0 (Nat.le_refl _)).more B0.size) hm h6 hu)
  have hlt := runB_lt (pid := pid) hu hin
  have HM := Lib.hid hm
  have HP := Lib.hid (fun (V : World) (hV : Below w.heap.size w V) => (hP.below hV (Nat.le_refl _)).at_ _ hlt)
  clear hm hin hu hP
  generalize (idsP L).contains pid = ct at *
  generalize lessP (idsP L) pid = k at *
  generalize L.getD k pw0 = x at *
  have hkm : (k : Int) < (m : Int) := by have := HM.out; omega
  clear hlt
  unfold tkV at PL ⊢
  go_enter Tryz.func124, Tryz.ntmps124
  go_wp2_with (first
    | (refine wpList_load_row rfl 27 (.tmp 2) rfl w.heap.size rfl 27 (tkC a Ua um uc A m c) (0, 0) _ k1.blk Tryz.underlying27 rfl (tk_inf a Ua um uc A m c) ?_)
    | (refine PL.out.mono ?_
       clear PL
       rintro e w1 ⟨rfl, b1⟩
       have k11 := k1.below b1 k1.lt
       have B1 := B0.trans (b1.mono B0.size)
       obtain ⟨b, off, rfl, hb, hc⟩ := HP.out _ B1
       have q2 : w1.cell? ⟨w.heap.size, 2, none⟩ = some (.slice (some ⟨b, off, none⟩) m c) := k11.cell 2
       have q3 : w1.cell? ⟨b, off + k * 3 + 1, none⟩ = some (.int .i64 x.1.p) := hc 1 _ rfl
       clear hc))
  go_ret
  exact ⟨rfl, B1⟩
end Go.Proofs.YtlelhhgggnjndaaGreat
namespace Go.Proofs.YtlelhhgggnjndaaGreat
open Go.RowKit Go.Shelf
set_option linter.unusedVariables false
set_option linter.unusedSimpArgs false
def parP (L : List Pw) (q : Int) : Int := (L.getD (lessP (idsP L) q) pw0).1.p
def clm (L : List Pw) : Nat → Int → Bool
  | 0, q => q == 0
  | n + 1, q => q == 0 || ((idsP L).contains q && clm L n (parP L q))
def meets (L : List Pw) (c : Int) : Nat → Int → Bool
  | 0, _ => false
  | n + 1, q => if q = 0 then false else if q = c then true else meets L c n (parP L q)
def lenC (L : List Pw) : Nat → Int → Nat
  | 0, _ => 0
  | n + 1, q => if q = 0 then 0 else lenC L n (parP L q) + 1
theorem lenC_eq {L : List Pw} : ∀ {k n : Nat} {q : Int}, clm L k q = true → k ≤ n → lenC L n q = lenC L k q
  | 0, 0, q, _, _ => rfl
  | 0, n + 1, q, h, _ => by
    have : q = 0 := by simpa [clm] using h
    subst this
    rfl
  | k + 1, 0, q, _, h => absurd h (by omega)
  | k + 1, n + 1, q, h, hn => by
    unfold lenC
    by_cases h0 : q = 0
    · rw [if_pos h0, if_pos h0]
    · rw [if_neg h0, if_neg h0]
      have h2 : clm L k (parP L q) = true := by simp [clm, h0] at h; exact h.2
      rw [lenC_eq h2 (by omega)]
def heirF (L : List Pw) (n : Nat) (c : Int) : Int := if runB L 1 = true then (if meets L c n 1 = true then 0 else 1) else 0
set_option maxRecDepth 100000 in
set_option maxHeartbeats 8000000 in
theorem heir_tk (n : Nat) (a : Int) (Ua : Option Addr) (um uc : Nat) (A : Option Addr) (m c : Nat) (L : List Pw) (ch : Int) (w : World) (hP : Ps w w.heap.size A L) (hm : m = L.length) (h6 : m ≤ 1000000) (hu : (idsP L).Pairwise (· < ·)) (hcl : runB L 1 = true → clm L n 1 = true) :
    Calls Tryz.prog 101 #[tkV a Ua um uc A m c, .int .i64 ch] w fun e w' => e = .returned (.int .i64 (heirF L n ch)) ∧ Below w.heap.size w w' := by
  have k1 := Blk.new w (tkC a Ua um uc A m c) 27
  have B0 := (Below.refl w.heap.size w).alloc (Nat.le_refl _) (.cells (tkC a Ua um uc A m c) 27)
  have RN := Lib.hid (running_tk a Ua um uc A m c L 1 _ ((hP.below B0 (Nat.le_refl _)).more B0.size) hm h6 hu)
  have PR := Lib.hid (fun (V : World) (hV : Below w.heap.size w V) (q : Int) (hq : (idsP L).contains q = true) => parent_tk a Ua um uc A m c L q V ((hP.below hV (Nat.le_refl _)).more hV.size) hm h6 hu (by simpa using hq))
  have HCL := Lib.hid hcl
  clear hP hm h6 hu hcl
  unfold heirF
  unfold tkV at *
  generalize runB L 1 = rb at RN HCL ⊢
  cases rb
  · clear PR HCL
    rw [if_neg (by simp)]
    go_enter Tryz.func101, Tryz.ntmps101
    go_wp2_with (first
      | (refine wpList_load_row rfl 27 (.tmp 2) rfl w.heap.size rfl 27 (tkC a Ua um uc A m c) (0, 0) _ k1.blk Tryz.underlying27 rfl (tk_inf _ _ _ _ _ _ _) ?_)
      | (refine RN.out.mono ?_
         clear RN
         rintro e w1 ⟨rfl, bb⟩))
    go_ret
    exact ⟨rfl, B0.trans (bb.mono B0.size)⟩
  · rw [if_pos rfl]
    have HC := Lib.hid (HCL.out rfl)
    clear HCL
    obtain ⟨v, hv⟩ : ∃ v : Int, (if meets L ch n 1 = true then 0 else 1) = v := ⟨_, rfl⟩
    rw [hv]
    have HV := Lib.hid hv
    clear hv
    go_enter Tryz.func101, Tryz.ntmps101
    go_wp2_with (first
      | (refine wpList_load_row rfl 27 (.tmp 2) rfl w.heap.size rfl 27 (tkC a Ua um uc A m c) (0, 0) _ k1.blk Tryz.underlying27 rfl (tk_inf _ _ _ _ _ _ _) ?_)
      | (refine RN.out.mono ?_
         clear RN
         rintro e w1 ⟨rfl, bb⟩
         have k11 := k1.below bb k1.lt
         have B1 := B0.trans (bb.mono B0.size)
         clear bb k1 B0))
    go_loopw [7] (fun iv wr' => ∃ (k : Nat) (q : Int) (W : World), W = wr' ∧ k ≤ n ∧ iv = .int .i64 q ∧ Hid (clm L k q = true ∧ meets L ch k q = meets L ch n 1 ∧ Below w.heap.size w W ∧ Blk W w.heap.size (tkC a Ua um uc A m c) 27)) (fun iv _ => lenC L n (intOf iv))
    case atStart => exact ⟨n, 1, _, rfl, Nat.le_refl _, rfl, Lib.hid ⟨HC.out, rfl, B1, k11⟩⟩
    case round =>
      clear B1 k11
      obtain ⟨k, q, W, hww, hk, rfl, HJ⟩ := hrel
      subst hww
      by_cases h0 : q = 0
      · subst h0
        have hme : meets L ch n 1 = false := by
          rw [← HJ.out.2.1]
          cases k <;> rfl
        have hv := HV.out
        rw [hme, if_neg (by simp)] at hv
        subst hv
        clear hme HV
        go_wp2_with fail
        go_ret
        exact ⟨rfl, HJ.out.2.2.1⟩
      · have hqn : (q != 0) = true := by simpa using h0
        obtain ⟨k', rfl⟩ : ∃ k', k = k' + 1 := by
          rcases k with _ | k
          · exact absurd (by simpa [clm] using HJ.out.1) h0
          · exact ⟨k, rfl⟩
        have hcc : (idsP L).contains q = true ∧ clm L k' (parP L q) = true := by have := HJ.out.1; simp only [clm, Bool.or_eq_true, beq_iff_eq, Bool.and_eq_true] at this; exact this.resolve_left h0
        have H0 := Lib.hid (And.intro h0 hcc)
        clear hcc
        by_cases hch : q = ch
        · have hme : meets L ch n 1 = true := by
            rw [← HJ.out.2.1]
            unfold meets
            rw [if_neg h0, if_pos hch]
          have hv := HV.out
          rw [hme, if_pos rfl] at hv
          subst hv
          have hqc : (q == ch) = true := by simpa using hch
          clear hme hch h0
          go_wp2_with fail
          go_ret
          exact ⟨rfl, HJ.out.2.2.1⟩
        · have hqc : (q == ch) = false := by simpa using hch
          have hme : meets L ch k' (parP L q) = meets L ch n 1 := by
            rw [← HJ.out.2.1]
            conv => rhs; unfold meets
            rw [if_neg h0, if_neg hch]
          have HME := Lib.hid hme
          have kW := HJ.out.2.2.2
          have PR2 := Lib.hid (PR.out W HJ.out.2.2.1 q H0.out.2.1)
          clear hme hch h0
          go_wp2_with (first
            | (refine wpList_load_row rfl 27 (.tmp 2) rfl w.heap.size rfl 27 (tkC a Ua um uc A m c) (0, 0) _ kW.blk Tryz.underlying27 rfl (tk_inf _ _ _ _ _ _ _) ?_)
            | (refine PR2.out.mono ?_
               clear PR2
               rintro e W2 ⟨rfl, bb⟩
               have HJ2 := Lib.hid (And.intro (HJ.out.2.2.1.trans (bb.mono HJ.out.2.2.1.size)) (kW.below bb kW.lt))
               clear bb))
          go_roundw
          case rel => exact ⟨k', _, _, rfl, by omega, rfl, Lib.hid ⟨H0.out.2.2, HME.out, HJ2.out.1, HJ2.out.2⟩⟩
          case measure =>
            show lenC L n (parP L q) < lenC L n q
            rw [lenC_eq H0.out.2.2 (by omega), lenC_eq HJ.out.1 hk]
            show lenC L k' (parP L q) < lenC L (k' + 1) q
            conv => rhs; unfold lenC
            rw [if_neg H0.out.1]
            omega
end Go.Proofs.YtlelhhgggnjndaaGreat
namespace Go.Proofs.YtlelhhgggnjndaaGreat
open Go.RowKit Go.Shelf
set_option linter.unusedVariables false
set_option linter.unusedSimpArgs false
section
variable {L M : List Pw} (h : L.map (·.1) = M.map (·.1))
include h
theorem len_nm : L.length = M.length := by have := congrArg List.length h; simpa using this
theorem ids_nm : idsP L = idsP M := by rw [idsP_names, idsP_names, h]
theorem run_nm (q : Int) : runB L q = runB M q := by unfold runB; rw [ids_nm h, getD_namesP h]
theorem home_nm (q : Int) : homeF L q = homeF M q := by unfold homeF; rw [thrF_names 0 L M h]
theorem few_nm : fewB L = fewB M := by unfold fewB; rw [thrF_names 0 L M h, len_nm h]
theorem odd_nm (xs : List (Nat × Int)) : oddF L xs = oddF M xs := by
  unfold oddF
  congr 1
  refine List.filter_congr fun x _ => ?_
  rw [getD_namesP h]
theorem idsF_nm : idsF L = idsF M := by unfold idsF; rw [ids_nm h, thrF_names 0 L M h, odd_nm h]
theorem cm_nm : ∀ (n : Nat) (q : Int), cmF L n q = cmF M n q
  | 0, q => rfl
  | n + 1, q => by
    unfold cmF
    rw [run_nm h, ids_nm h, getD_namesP h, cm_nm n]
theorem par_nm (q : Int) : parP L q = parP M q := by unfold parP; rw [ids_nm h, getD_namesP h]
end
theorem all_nm (f : Pn → Bool) (L : List Pw) : L.all (fun x => f x.1) = (L.map (·.1)).all f := by rw [List.all_map]; rfl
theorem any_nm (f : Pn → Bool) (L : List Pw) : L.any (fun x => f x.1) = (L.map (·.1)).any f := by rw [List.any_map]; rfl
theorem ord_nm {L M : List Pw} (h : L.map (·.1) = M.map (·.1)) : ordB L = ordB M := by
  unfold ordB
  rw [ids_nm h]
  congr 1
  exact (all_nm (fun x => upB x.t) L).trans ((congrArg (List.all · _) h).trans (all_nm (fun x => upB x.t) M).symm)
theorem root_nm {L M : List Pw} (h : L.map (·.1) = M.map (·.1)) : L.any (rootB L) = M.any (rootB M) := by
  have e : ∀ x, rootB L x = rootB M x := fun x => by unfold rootB; rw [cm_nm h, len_nm h]
  rw [show rootB L = rootB M from funext e]
  exact (any_nm (fun x => (x.t.length == 0 && x.p == 0) || !cmF M M.length x.p) L).trans ((congrArg (List.any · _) h).trans (any_nm (fun x => (x.t.length == 0 && x.p == 0) || !cmF M M.length x.p) M).symm)
theorem tkE_nm {L M : List Pw} (h : L.map (·.1) = M.map (·.1)) (a : Int) (U : List Int) : tkE a U L = tkE a U M := by
  unfold tkE
  rw [few_nm h, ord_nm h, idsF_nm h, root_nm h]
def ofN (P : List Pn) : List Pw := P.map fun x => (x, (none, 0))
theorem ofN_nm (P : List Pn) : (ofN P).map (·.1) = P := by unfold ofN; rw [List.map_map]; exact List.map_id _
end Go.Proofs.YtlelhhgggnjndaaGreat

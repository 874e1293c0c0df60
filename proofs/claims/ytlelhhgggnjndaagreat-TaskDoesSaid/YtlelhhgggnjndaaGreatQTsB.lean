/-
  Plain: from Parent to Parent; who gets a child.
-/
import Derived.Test.YtlelhhgggnjndaaGreatQTrZ
import Derived.Test.YtlelhhgggnjndaaGreatQTpP
import Derived.Test.YtlelhhgggnjndaaGreatQPiT
import Derived.Test.YtlelhhgggnjndaaGreatQTpB
import Derived.Test.YtlelhhgggnjndaaGreatQPiRh
namespace Go.Proofs.YtlelhhgggnjndaaGreat
open Go.RowKit Go.Shelf
set_option linter.unusedVariables false
set_option linter.unusedSimpArgs false
def nwG (y : Pn) : Bool → List Pn → List Pn
  | d, [] => if d then [] else [y]
  | d, x :: l => (if !d && decide (y.i < x.i) then [y] else []) ++ ([x] ++ nwG y (d || decide (y.i < x.i)) l)
structure NwQ (w8 : World) (B : Nat) (U1 : Option Addr) (um1 uc1 : Nat) (l1 : List Int) (G : Option Addr) (gm gc : Nat) (N : List Pw) (V : World) : Prop where
  b : Below w8.heap.size w8 V
  o : OwnW V B U1 um1 uc1 l1 G gm gc N
  pg : RoP V w8.heap.size G gm gc N
theorem NwQ.step {w8 : World} {B : Nat} {U1 : Option Addr} {um1 uc1 : Nat} {l1 : List Int} {G : Option Addr} {gm gc : Nat} {N : List Pw} {V V' : World} (h : NwQ w8 B U1 um1 uc1 l1 G gm gc N V) (b : Below V.heap.size V V') : NwQ w8 B U1 um1 uc1 l1 G gm gc N V' := ⟨h.b.trans (b.mono h.b.size), h.o.below b (Nat.le_refl _), h.pg.below b (Nat.le_refl _)⟩
theorem NwQ.more {w8 : World} {B : Nat} {U1 : Option Addr} {um1 uc1 : Nat} {l1 : List Int} {G A' : Option Addr} {gm gc c' : Nat} {N : List Pw} {V V' : World} {y : Pw} (h : NwQ w8 B U1 um1 uc1 l1 G gm gc N V) (hB : B ≤ w8.heap.size) (hz : Zo V B y.2.1 y.1.t.length y.2.2 y.1.t) (hp : RoP V' w8.heap.size A' (gm + 1) c' (N ++ [y])) (hg : V.grownBy V' (Value.slice G gm gc).ownBlock) (b : Below w8.heap.size V V') : NwQ w8 B U1 um1 uc1 l1 A' (gm + 1) c' (N ++ [y]) V' :=
  ⟨h.b.trans b, h.o.snoc hz (hp.down hB) hg, hp⟩
theorem blk_grown {V V' : World} {base m c g : Nat} {A : Option Addr} {L : List Pw} {cs : Array Value} {t : TypeId} (k : Blk V g cs t) (hp : RoP V base A m c L) (hg : V.grownBy V' (Value.slice A m c).ownBlock) (hne : ∀ g', A = some ⟨g', 0, none⟩ → g' ≠ g) : Blk V' g cs t :=
  ⟨(hg.block g k.lt (fun e => by
    rcases hp.form with ⟨rfl, _⟩ | ⟨g', rfl, _⟩
    · cases e
    · have e' : some g = some g' := e
      cases e'
      exact hne g rfl rfl)).trans k.blk⟩
theorem rop_lt {V : World} {base m c : Nat} {A : Option Addr} {L : List Pw} (hp : RoP V base A m c L) : ∀ g', A = some ⟨g', 0, none⟩ → g' < V.heap.size := fun g' e => by
  rcases hp.form with ⟨e0, _⟩ | ⟨g, e0, _, h, _⟩
  · rw [e0] at e; cases e
  · rw [e0] at e; cases e; exact h
theorem yzo {V : World} {B g : Nat} {id pid : Int} (k : Blk V g #[.int .i64 id] 3) (hB : B ≤ g) : Zo V B (some ⟨g, 0, none⟩) 1 1 [id] := zo_block hB k.blk (Nat.le_refl _) (by simp [maxLen]) rfl rfl rfl
theorem own_grown {V V' : World} {base B m c m' c' : Nat} {A A' : Option Addr} {L : List Pw} {l : List Int} (z : Zo V B A' m' c' l) (hp : RoP V base A m c L) (hg : V.grownBy V' (Value.slice A m c).ownBlock) : Zo V' B A' m' c' l :=
  own_kind z hg (fun g e => by
    obtain ⟨cur, k⟩ := roP_blk hp e
    exact ⟨cur, _, k, by decide⟩)
set_option maxRecDepth 100000 in
set_option maxHeartbeats 8000000 in
theorem newD_rf (an : Nat) (Ua : Option Addr) (um uc : Nat) (U : List Int) (A : Option Addr) (m c : Nat) (L : List Pw) (tid pid : Int) (w : World) (h : Tk w w.heap.size Ua um uc U A m c L) (hI : Ids (an : Int) U) (hu6 : um ≤ 100000) (hof : ofR L tid = pid) (hp0 : (pid == 0) = false) (hN : (tidF L).length ≤ 1000) (hfull : (withs [] (tidF L)).length < 8) (hm5 : m < 6) (a' id : Int) (l' : List Int) (ht : takeV an U = (a', l', id, 0)) (hq5 : ∀ x ∈ L, x.1.t.length ≤ 100000) :
    Calls Tryz.prog 32 #[tkV an Ua um uc A m c, .int .i64 tid, .bool true] w fun e w' => NwR w a' l' id (nwG ⟨id, pid, [id]⟩ false (L.map (·.1))) e w' := by
  have k1 := (Blk.new w (tkC an Ua um uc A m c) 27).alloc (.cells (tkC 0 none 0 0 none 0 0) 27)
  have k2 := Blk.new_ (w.alloc (.cells (tkC an Ua um uc A m c) 27)) (tkC 0 none 0 0 none 0 0) 27 (n := w.heap.size + 1) (by simp)
  have B0 := ((Below.refl w.heap.size w).alloc (Nat.le_refl _) (.cells (tkC an Ua um uc A m c) 27)).alloc (by simp) (.cells (tkC 0 none 0 0 none 0 0) 27)
  have t0 := h.on B0
  have OF := Lib.hid (of_rf an Ua um uc A m c L tid _ t0.p t0.pl (by have := h.p6; omega))
  rw [hof] at OF
  have LV := Lib.hid (fun (V : World) (hV : Below w.heap.size w V) => rlive_tk an Ua um uc A m c L V (h.on hV).p h.pl (by have := h.p6; omega) hN)
  obtain ⟨n, hn⟩ : ∃ n, (withs [] (tidF L)).length = n := ⟨_, rfl⟩
  rw [hn] at hfull
  have HNL := Lib.hid hn
  have hi8 : ¬ (8 : Int) ≤ (n : Int) := by omega
  have TK := Lib.hid (fun (V : World) (hV : Below w.heap.size w V) => rtake_pid an Ua um uc U V (h.on hV).u h.ul hu6 hI)
  have HQ5 := Lib.hid hq5
  have HX := Lib.hid (And.intro h (And.intro hm5 (And.intro hu6 ht)))
  have hi6 : ¬ (6 : Int) ≤ (m : Int) := by omega
  clear h t0 hof hn hN hI hu6 ht hq5
  unfold tkV at OF LV ⊢
  unfold pdV pdC at TK
  go_enter Tryz.func32, Tryz.ntmps32
  go_wp2_with (first
    | (refine wpList_load_row rfl 27 (.tmp 3) rfl w.heap.size rfl 27 (tkC an Ua um uc A m c) (0, 0) _ k1.blk Tryz.underlying27 rfl (tk_inf _ _ _ _ _ _ _) ?_)
    | (refine OF.out.mono ?_
       clear OF
       rintro e w1 ⟨rfl, bb⟩
       have k1 := k1.below bb k1.lt
       have k2 := k2.below bb k2.lt
       have B1 := B0.trans (bb.mono B0.size)
       clear bb B0)
    | (refine (LV.out _ B1).mono ?_
       clear LV
       rintro e w2 ⟨G, gm, gc, rfl, z1, bb⟩
       have k11 := k1.below bb k1.lt
       have k21 := k2.below bb k2.lt
       have B2 := B1.trans (bb.mono B1.size)
       obtain rfl : gm = n := z1.len.trans HNL.out
       have q0 : w2.cell? ⟨w.heap.size, 0, none⟩ = some (.int .i64 an) := k11.cell 0
       have q1 : w2.cell? ⟨w.heap.size, 1, none⟩ = some (.slice Ua um uc) := k11.cell 1
       have q2 : w2.cell? ⟨w.heap.size, 2, none⟩ = some (.slice A m c) := k11.cell 2
       clear bb z1 B1 k1 k2)
    | (refine (TK.out _ B2).mono ?_
       clear TK q0 q1 q2
       rintro e w3 ⟨A3, m3, c3, a3, l3, id3, er3, rfl, z3, htk, bb⟩
       have HTK := Lib.hid (htk.symm.trans HX.out.2.2.2)
       clear htk
       obtain ⟨rfl, rfl, rfl, rfl⟩ : a3 = a' ∧ l3 = l' ∧ id3 = id ∧ er3 = 0 := by have := HTK.out; simpa using this
       have k12 := k11.below bb k11.lt
       have k22 := k21.below bb k21.lt
       have B3 := B2.trans (bb.mono B2.size)
       have hs3 := B2.size
       have bx : Below w.heap.size w3 (w3.alloc (.cells (pdC 0 none 0 0) 24)) := (Below.refl _ _).alloc B3.size _
       clear bb B2 k11 k21 HTK)
    | (refine wpList_store_blk rfl 24 (.tmp 10) (.tmp 45) rfl w3.heap.size (pdC 0 none 0 0) (pdC a3 A3 m3 c3) 24 rfl rfl (Blk.new w3 (pdC 0 none 0 0) 24) rfl (pd_inf _ _ _ _) (pd_one _ _ _ _) ?_
       intro w4 k4 n4
       have b4 : Below w3.heap.size w3 w4 := ((Below.refl w3.heap.size w3).alloc (Nat.le_refl _) _).trans (n4.below _ (Nat.le_refl _) (by simp))
       have k14 := k12.below b4 k12.lt
       have k24 := k22.below b4 k22.lt
       have z4 := (z3.down hs3).below b4 (Nat.le_refl _)
       have B4 := B3.trans (b4.mono B3.size)
       have hx4 : w.heap.size + 2 ≤ w3.heap.size := k22.lt
       have hw4 : w.heap.size ≤ w4.heap.size := B4.size
       have CP := Lib.hid (rcopy_tk an Ua um uc U A m c L w4 (HX.out.1.on B4))
       unfold tkV at CP
       clear b4 n4 k12 k22 z3 B3 bx)
    | (refine wpList_load_row rfl 27 (.tmp 3) rfl w.heap.size rfl 27 (tkC an Ua um uc A m c) (0, 0) _ k14.blk Tryz.underlying27 rfl (tk_inf _ _ _ _ _ _ _) ?_)
    | (refine CP.out.mono ?_
       clear CP
       rintro e w5 ⟨U5, um5, uc5, A5, m5, c5, M, rfl, o5, hnm, bb⟩
       have k15 := k4.below bb k4.lt
       have k25 := k24.below bb k24.lt
       have z5 := z4.below bb (Nat.le_refl _)
       have B5 := B4.trans (bb.mono B4.size)
       have hs5 := Nat.lt_of_lt_of_le k4.lt bb.size
       have HNM := Lib.hid hnm
       have HO5 := Lib.hid o5
       clear bb z4 k24 k4 k14 B4 hnm o5
       unfold tkV)
    | (refine wpList_store_blk rfl 27 (.tmp 13) (.tmp 53) rfl w5.heap.size (tkC 0 none 0 0 none 0 0) (tkC an U5 um5 uc5 A5 m5 c5) 27 rfl rfl (Blk.new w5 (tkC 0 none 0 0 none 0 0) 27) rfl (tk_inf _ _ _ _ _ _ _) (tk_one _ _ _ _ _ _ _) ?_
       intro w6 k6 n6
       have b6 : Below w5.heap.size w5 w6 := ((Below.refl w5.heap.size w5).alloc (Nat.le_refl _) _).trans (n6.below _ (Nat.le_refl _) (by simp))
       have k16 := k15.below b6 k15.lt
       have k26 := k25.below b6 k25.lt
       have z6 := z5.below b6 (Nat.le_refl _)
       have o6 := HO5.out.w.below b6 (Nat.le_refl _)
       have B6 := B5.trans (b6.mono B5.size)
       clear b6 n6 k15 k25 z5 B5)
    | (refine wpList_load_row rfl 24 (.tmp 10) rfl w3.heap.size rfl 24 (pdC a3 A3 m3 c3) (0, 0) _ k16.blk Tryz.underlying24 rfl (pd_inf _ _ _ _) ?_)
    | (refine wpList_stpd rfl (.tmp 55) (.tmp 54) rfl w5.heap.size an U5 um5 uc5 A5 m5 c5 a3 A3 m3 c3 rfl rfl k6 ?_
       intro w7 k7 n7
       have o7 : OwnW w7 w.heap.size A3 m3 c3 l3 A5 m5 c5 M := by
         have h9 := (o6.kind n7 k6 (by decide) (by decide)).down hw4
         exact ⟨own_kind z6 (grown_but n7) (fun g e => by cases e; exact ⟨_, _, k6, by decide⟩), h9.p, h9.q⟩
       have k27 := n7.blk7 k26 (by omega)
       have B7 := B6.trans (n7.below _ (by omega) B6.size)
       have hxq : ∀ x ∈ M, x.1.t.length ≤ 100000 := fun x hx => by
         have h1 : x.1 ∈ L.map (·.1) := by rw [← HNM.out]; exact List.mem_map.2 ⟨x, hx, rfl⟩
         obtain ⟨z, hz, e⟩ := List.mem_map.1 h1
         rw [← e]
         exact HQ5.out z hz
       have hml : M.length = L.length := by have h1 := congrArg List.length HNM.out; simpa using h1
       have q72 : w7.cell? ⟨w5.heap.size, 2, none⟩ = some (.slice A5 m5 c5) := k7.cell 2
       have HXQ := Lib.hid hxq
       have HML := Lib.hid hml
       clear n7 k6 k16 k26 z6 o6 B6 hxq hml))
  have J0 : NwQ w7 w.heap.size A3 m3 c3 l3 none 0 0 [] w7 := ⟨Below.refl _ _, ⟨o7.u, ro_nilP _ _, fun x hx => (by cases hx)⟩, ro_nilP _ _⟩
  have HW7 := Lib.hid (And.intro o7 (And.intro k7 (And.intro k27 B7)))
  have hw7 : w.heap.size ≤ w7.heap.size := B7.size
  have hg7 : w5.heap.size < w7.heap.size := k7.lt
  have hg1 : w.heap.size + 1 < w7.heap.size := k27.lt
  have hg5 : w.heap.size + 2 ≤ w5.heap.size := by omega
  have hm50 : m5 ≤ 100000 := by have h1 := o7.p.len; have h2 := HML.out; have h3 := HX.out.1.pl; have h4 := HX.out.1.p6; omega
  have HML5 := Lib.hid o7.p.len
  have HJ0 := Lib.hid J0
  obtain ⟨y, hy⟩ : ∃ y : Pn, y = ⟨id3, pid, [id3]⟩ := ⟨_, rfl⟩
  have HY := Lib.hid hy
  clear q72 J0 o7 k7 k27 B7 HQ5 hy
  go_loopw [15, 16, 79] (fun q d i wr' => ∃ (k : Nat) (G : Option Addr) (gm gc : Nat) (N : List Pw) (dn : Bool) (wr : World), wr = wr' ∧ k ≤ m5 ∧ i = .int .i64 k ∧ d = .bool dn ∧ q = .slice G gm gc ∧ gm ≤ 2 * k ∧ Hid (N.map (·.1) ++ nwG y dn ((M.map (·.1)).drop k) = nwG y false (M.map (·.1))) ∧ Hid (NwQ w7 w.heap.size A3 m3 c3 l3 G gm gc N wr)) (fun _ _ i _ => m5 - (intOf i).toNat)
  case atStart => exact ⟨0, none, 0, 0, [], false, _, rfl, Nat.zero_le _, rfl, rfl, rfl, by omega, Lib.hid (by simp), HJ0⟩
  case round =>
    clear HJ0
    obtain ⟨k, G, gm, gc, N, dn, wr, hwr, hk, rfl, rfl, rfl, hgk, HN, HJ⟩ := hrel
    subst hwr
    have J := HJ.out
    clear HJ
    have hgm6 : gm ≤ 200000 := by omega
    by_cases hlt : k < m5
    · have hlt' : (k : Int) < (m5 : Int) := by omega
      have hkl : k < M.length := by have := HML5.out; omega
      have JI := HW7.out.1.below J.b (Nat.le_refl _)
      obtain ⟨b, off, hA, hb, hc⟩ := JI.p.rs k hkl
      have hxm : M.getD k pw0 ∈ M := by rw [show M.getD k pw0 = M[k] by simp [List.getD, hkl]]; exact List.getElem_mem hkl
      have hz := JI.q _ hxm
      have hxl := HXQ.out _ hxm
      have hn := HN.out
      rw [List.drop_eq_getElem_cons (by simpa using hkl), show (M.map (·.1))[k]'(by simpa using hkl) = (M.getD k pw0).1 by simp [List.getD, hkl], nwG] at hn
      subst hA
      generalize M.getD k pw0 = x at hc hz hxl hn
      have HN1 := Lib.hid hn
      have HZX := Lib.hid hz
      clear hxm hz hkl JI hn HN
      have hs3 : (prC x).size = 3 := pr_size x
      obtain ⟨bi, hbi⟩ : ∃ bi : Bool, decide (id3 < x.1.i) = bi := ⟨_, rfl⟩
      have HBI := Lib.hid (show decide (y.i < x.1.i) = bi from by rw [HY.out]; exact hbi)
      cases dn
      · cases bi
        · go_wp2_with (first
            | (refine wpList_load_mid rfl 49 (.tmp 81) rfl b (off + k * 3) rfl (prC x).toList _ hc Tryz.underlying49 rfl (pr_infL x) ?_)
            | (refine wpList_store_blk rfl 49 (.tmp 18) (.tmp 82) rfl wr.heap.size (prC pw0) (prC x) 49 rfl rfl (Blk.new _ _ _) rfl (pr_inf x) (pr_one x) ?_
               intro W1 k4 n4
               have bb : Below wr.heap.size wr W1 := ((Below.refl _ wr).alloc (Nat.le_refl _) _).trans (n4.below _ (Nat.le_refl _) (by simp))
               have x0 : W1.cell? ⟨wr.heap.size, 0, none⟩ = some (.int .i64 x.1.i) := k4.cell 0
               have hwb : w7.heap.size ≤ wr.heap.size := J.b.size
               have hw1 : wr.heap.size < W1.heap.size := k4.lt
               have hlG := rop_lt J.pg
               have JA := J.step bb
               have zx := HZX.out.below bb (Nat.le_refl _)
               clear n4 bb J)
            | (refine wpList_load_row rfl 49 (.tmp 18) rfl wr.heap.size rfl 49 #[.int .i64 x.1.i, .int .i64 x.1.p, .slice x.2.1 x.1.t.length x.2.2] (0, 0) _ k4.blk Tryz.underlying49 rfl (pr_inf x) ?_
               have bx : Below W1.heap.size W1 (W1.alloc (.cells #[.int .i64 x.1.i, .int .i64 x.1.p, .slice x.2.1 x.1.t.length x.2.2] 49)) := (Below.refl _ _).alloc (Nat.le_refl _) _
               have JX := JA.step bx
               have zX := Lib.hid (zx.below bx (Nat.le_refl _))
               have HGX : (W1.alloc (.cells #[.int .i64 x.1.i, .int .i64 x.1.p, .slice x.2.1 x.1.t.length x.2.2] 49)).heap[W1.heap.size]? = some (.cells (prC x) 49 (0, 0)) := heap_alloc_new _ _)
            | (refine wpList_app1P rfl (.tmp 99) (.tmp 101) rfl w7.heap.size G gm gc N rfl JX.pg x W1.heap.size rfl HGX (by omega) JX.b.size ?_
               intro A6 c6 W6 r6 g6 b6
               have J6 := JX.more hw7 zX.out r6 g6 b6
               clear JX r6 g6 b6 HGX))
          have HN6 := Lib.hid (show (N ++ [x]).map (·.1) ++ nwG y false ((M.map (·.1)).drop (k + 1)) = nwG y false (M.map (·.1)) from by
            rw [← HN1.out, HBI.out]; simp)
          go_roundw
          case rel => exact ⟨k + 1, A6, gm + 1, c6, _, false, _, rfl, by omega, by go_num, rfl, rfl, by omega, HN6, Lib.hid J6⟩
          case measure => simp [intOf]; omega
        · go_wp2_with (first
            | (refine wpList_load_mid rfl 49 (.tmp 81) rfl b (off + k * 3) rfl (prC x).toList _ hc Tryz.underlying49 rfl (pr_infL x) ?_)
            | (refine wpList_store_blk rfl 49 (.tmp 18) (.tmp 82) rfl wr.heap.size (prC pw0) (prC x) 49 rfl rfl (Blk.new _ _ _) rfl (pr_inf x) (pr_one x) ?_
               intro W1 k4 n4
               have bb : Below wr.heap.size wr W1 := ((Below.refl _ wr).alloc (Nat.le_refl _) _).trans (n4.below _ (Nat.le_refl _) (by simp))
               have x0 : W1.cell? ⟨wr.heap.size, 0, none⟩ = some (.int .i64 x.1.i) := k4.cell 0
               have hwb : w7.heap.size ≤ wr.heap.size := J.b.size
               have hw1 : wr.heap.size < W1.heap.size := k4.lt
               have hlG := rop_lt J.pg
               have JA := J.step bb
               have zx := HZX.out.below bb (Nat.le_refl _)
               have BY : Below W1.heap.size W1 ((W1.alloc (.cells #[.int .i64 id3] 3)).alloc (.cells #[.int .i64 id3, .int .i64 pid, .slice (some ⟨W1.heap.size, 0, none⟩) 1 1] 49)) := ((Below.refl _ _).alloc (Nat.le_refl _) _).alloc (by simp) _
               have JY := JA.step BY
               have ZY := Lib.hid (show Zo ((W1.alloc (.cells #[.int .i64 id3] 3)).alloc (.cells #[.int .i64 id3, .int .i64 pid, .slice (some ⟨W1.heap.size, 0, none⟩) 1 1] 49)) w.heap.size (some ⟨W1.heap.size, 0, none⟩) y.t.length 1 y.t from by rw [HY.out]; exact yzo (pid := pid) ((Blk.new W1 #[.int .i64 id3] 3).alloc _) (by omega))
               have HGY := Lib.hid (show ((W1.alloc (.cells #[.int .i64 id3] 3)).alloc (.cells #[.int .i64 id3, .int .i64 pid, .slice (some ⟨W1.heap.size, 0, none⟩) 1 1] 49)).heap[W1.heap.size + 1]? = some (.cells (prC (y, (some ⟨W1.heap.size, 0, none⟩, 1))) 49 (0, 0)) from by
                 have e : (W1.alloc (.cells #[.int .i64 id3] 3)).heap.size = W1.heap.size + 1 := by simp
                 rw [← e, HY.out]; exact heap_alloc_new _ _)
               clear n4 bb J)
            | (refine wpList_app1P rfl (.tmp 91) (.tmp 97) rfl w7.heap.size G gm gc N rfl JY.pg (y, (some ⟨W1.heap.size, 0, none⟩, 1)) (W1.heap.size + 1) rfl HGY.out (by omega) JY.b.size ?_
               intro A5y c5y W5 r5 g5 b5
               have J5 := JY.more hw7 ZY.out r5 g5 b5
               have k5 : Blk W5 wr.heap.size (prC x) 49 := blk_grown (k4.below BY hw1) JY.pg g5 (fun g' e => Nat.ne_of_lt (hlG g' e))
               have zx5 := own_grown (zx.below BY (Nat.le_refl _)) JY.pg g5
               clear JY r5 g5 b5)
            | (refine wpList_load_row rfl 49 (.tmp 18) rfl wr.heap.size rfl 49 #[.int .i64 x.1.i, .int .i64 x.1.p, .slice x.2.1 x.1.t.length x.2.2] (0, 0) _ k5.blk Tryz.underlying49 rfl (pr_inf x) ?_
               have bx : Below W5.heap.size W5 (W5.alloc (.cells #[.int .i64 x.1.i, .int .i64 x.1.p, .slice x.2.1 x.1.t.length x.2.2] 49)) := (Below.refl _ _).alloc (Nat.le_refl _) _
               have JX := J5.step bx
               have zX := Lib.hid (zx5.below bx (Nat.le_refl _))
               have HGX : (W5.alloc (.cells #[.int .i64 x.1.i, .int .i64 x.1.p, .slice x.2.1 x.1.t.length x.2.2] 49)).heap[W5.heap.size]? = some (.cells (prC x) 49 (0, 0)) := heap_alloc_new _ _)
            | (refine wpList_app1P rfl (.tmp 99) (.tmp 101) rfl w7.heap.size A5y (gm + 1) c5y (N ++ [(y, (some ⟨W1.heap.size, 0, none⟩, 1))]) rfl JX.pg x W5.heap.size rfl HGX (by omega) JX.b.size ?_
               intro A6 c6 W6 r6 g6 b6
               have J6 := JX.more hw7 zX.out r6 g6 b6
               clear JX r6 g6 b6 HGX))
          have HN6 := Lib.hid (show ((N ++ [((y, ((some ⟨W1.heap.size, 0, none⟩ : Option Addr), 1)) : Pw)]) ++ [x]).map (·.1) ++ nwG y true ((M.map (·.1)).drop (k + 1)) = nwG y false (M.map (·.1)) from by
            rw [← HN1.out, HBI.out]; simp)
          go_roundw
          case rel => exact ⟨k + 1, A6, gm + 1 + 1, c6, _, true, _, rfl, by omega, by go_num, rfl, rfl, by omega, HN6, Lib.hid J6⟩
          case measure => simp [intOf]; omega
      · clear hbi HBI
        go_wp2_with (first
          | (refine wpList_load_mid rfl 49 (.tmp 81) rfl b (off + k * 3) rfl (prC x).toList _ hc Tryz.underlying49 rfl (pr_infL x) ?_)
          | (refine wpList_store_blk rfl 49 (.tmp 18) (.tmp 82) rfl wr.heap.size (prC pw0) (prC x) 49 rfl rfl (Blk.new _ _ _) rfl (pr_inf x) (pr_one x) ?_
             intro W1 k4 n4
             have bb : Below wr.heap.size wr W1 := ((Below.refl _ wr).alloc (Nat.le_refl _) _).trans (n4.below _ (Nat.le_refl _) (by simp))
             have x0 : W1.cell? ⟨wr.heap.size, 0, none⟩ = some (.int .i64 x.1.i) := k4.cell 0
             have hwb : w7.heap.size ≤ wr.heap.size := J.b.size
             have hw1 : wr.heap.size < W1.heap.size := k4.lt
             have hlG := rop_lt J.pg
             have JA := J.step bb
             have zx := HZX.out.below bb (Nat.le_refl _)
             clear n4 bb J)
          | (refine wpList_load_row rfl 49 (.tmp 18) rfl wr.heap.size rfl 49 #[.int .i64 x.1.i, .int .i64 x.1.p, .slice x.2.1 x.1.t.length x.2.2] (0, 0) _ k4.blk Tryz.underlying49 rfl (pr_inf x) ?_
             have bx : Below W1.heap.size W1 (W1.alloc (.cells #[.int .i64 x.1.i, .int .i64 x.1.p, .slice x.2.1 x.1.t.length x.2.2] 49)) := (Below.refl _ _).alloc (Nat.le_refl _) _
             have JX := JA.step bx
             have zX := Lib.hid (zx.below bx (Nat.le_refl _))
             have HGX : (W1.alloc (.cells #[.int .i64 x.1.i, .int .i64 x.1.p, .slice x.2.1 x.1.t.length x.2.2] 49)).heap[W1.heap.size]? = some (.cells (prC x) 49 (0, 0)) := heap_alloc_new _ _)
          | (refine wpList_app1P rfl (.tmp 99) (.tmp 101) rfl w7.heap.size G gm gc N rfl JX.pg x W1.heap.size rfl HGX (by omega) JX.b.size ?_
             intro A6 c6 W6 r6 g6 b6
             have J6 := JX.more hw7 zX.out r6 g6 b6
             clear JX r6 g6 b6 HGX))
        have HN6 := Lib.hid (show (N ++ [x]).map (·.1) ++ nwG y true ((M.map (·.1)).drop (k + 1)) = nwG y false (M.map (·.1)) from by
          rw [← HN1.out]; simp)
        go_roundw
        case rel => exact ⟨k + 1, A6, gm + 1, c6, _, true, _, rfl, by omega, by go_num, rfl, rfl, by omega, HN6, Lib.hid J6⟩
        case measure => simp [intOf]; omega
    · obtain rfl : k = m5 := by omega
      have hn := HN.out
      rw [List.drop_of_length_le (by rw [List.length_map, ← HML5.out]; omega), nwG] at hn
      have HN1 := Lib.hid hn
      clear hn HN
      have hwb : w7.heap.size ≤ wr.heap.size := J.b.size
      have hF : nwG y false (M.map (·.1)) = nwG ⟨id3, pid, [id3]⟩ false (L.map (·.1)) := by rw [HNM.out, HY.out]
      cases dn
      · have BY : Below wr.heap.size wr ((wr.alloc (.cells #[.int .i64 id3] 3)).alloc (.cells #[.int .i64 id3, .int .i64 pid, .slice (some ⟨wr.heap.size, 0, none⟩) 1 1] 49)) := ((Below.refl _ _).alloc (Nat.le_refl _) _).alloc (by simp) _
        have JY := J.step BY
        have ZY := Lib.hid (show Zo ((wr.alloc (.cells #[.int .i64 id3] 3)).alloc (.cells #[.int .i64 id3, .int .i64 pid, .slice (some ⟨wr.heap.size, 0, none⟩) 1 1] 49)) w.heap.size (some ⟨wr.heap.size, 0, none⟩) y.t.length 1 y.t from by rw [HY.out]; exact yzo (pid := pid) ((Blk.new wr #[.int .i64 id3] 3).alloc _) (by omega))
        have HGY := Lib.hid (show ((wr.alloc (.cells #[.int .i64 id3] 3)).alloc (.cells #[.int .i64 id3, .int .i64 pid, .slice (some ⟨wr.heap.size, 0, none⟩) 1 1] 49)).heap[wr.heap.size + 1]? = some (.cells (prC (y, (some ⟨wr.heap.size, 0, none⟩, 1))) 49 (0, 0)) from by
          have e : (wr.alloc (.cells #[.int .i64 id3] 3)).heap.size = wr.heap.size + 1 := by simp
          rw [← e, HY.out]; exact heap_alloc_new _ _)
        have k7 := HW7.out.2.1.below J.b hg7
        have k27 := HW7.out.2.2.1.below J.b hg1
        have hlG := rop_lt J.pg
        have hpb : ∀ g', G = some ⟨g', 0, none⟩ → w7.heap.size ≤ g' := fun g' e => by
          rcases J.pg.form with ⟨e0, _⟩ | ⟨g, e0, h, _⟩
          · rw [e0] at e; cases e
          · rw [e0] at e; cases e; exact h
        go_wp2_with (first
          | (refine wpList_app1P rfl (.tmp 106) (.tmp 112) rfl w7.heap.size G gm gc N rfl JY.pg (y, (some ⟨wr.heap.size, 0, none⟩, 1)) (wr.heap.size + 1) rfl HGY.out (by omega) JY.b.size ?_
             intro A5y c5y W5 r5 g5 b5
             have J5 := JY.more hw7 ZY.out r5 g5 b5
             have k75 : Blk W5 w5.heap.size (tkC a3 A3 m3 c3 A5 k c5) 27 := (HW7.out.2.1.below J5.b hg7)
             have k25 : Blk W5 (w.heap.size + 1) (tkC 0 none 0 0 none 0 0) 27 := (HW7.out.2.2.1.below J5.b hg1)
             clear JY r5 g5 b5)
          | (refine wpList_stf rfl 25 (.tmp 115) (.tmp 114) rfl w5.heap.size 2 (tkC a3 A3 m3 c3 A5 k c5) 27 (.slice A5y (gm + 1) c5y) rfl rfl k75 (by show 2 < 3; decide) (by kernel_rfl) rfl rfl ?_
             intro W8 k8 n8
             have k8 : Blk W8 w5.heap.size (tkC a3 A3 m3 c3 A5y (gm + 1) c5y) 27 := k8
             have o8 := J5.o.kind n8 k75 (by decide) (by decide)
             have k28 := n8.blk7 k25 (by omega)
             have B8 := (HW7.out.2.2.2.trans (J5.b.mono hw7)).trans (n8.below _ (by omega) (Nat.le_trans hw7 J5.b.size))
             clear n8)
          | (refine wpList_load_row rfl 27 (.tmp 13) rfl w5.heap.size rfl 27 (tkC a3 A3 m3 c3 A5y (gm + 1) c5y) (0, 0) _ k8.blk Tryz.underlying27 rfl (tk_inf _ _ _ _ _ _ _) ?_)
          | (refine wpList_store_blk rfl 27 (.tmp 6) (.tmp 116) rfl (w.heap.size + 1) (tkC 0 none 0 0 none 0 0) (tkC a3 A3 m3 c3 A5y (gm + 1) c5y) 27 rfl rfl k28 rfl (tk_inf _ _ _ _ _ _ _) (tk_one _ _ _ _ _ _ _) ?_
             intro W9 k9 n9))
        refine bodyPost_ret (results_row_t2 rfl _ _ (w.heap.size + 1) 27 (tkC a3 A3 m3 c3 A5y (gm + 1) c5y) _ rfl k9 Tryz.underlying27 rfl (tk_inf _ _ _ _ _ _ _) _ _ rfl rfl) rfl ?_
        exact ⟨A3, m3, c3, _, _, _, _, rfl, o8.kind n9 k28 (by decide) (by decide), by rw [List.map_append, ← hF, ← HN1.out]; rfl, B8.trans (n9.below _ (by omega) B8.size)⟩
      · have k75 : Blk wr w5.heap.size (tkC a3 A3 m3 c3 A5 k c5) 27 := (HW7.out.2.1.below J.b hg7)
        have k25 : Blk wr (w.heap.size + 1) (tkC 0 none 0 0 none 0 0) 27 := (HW7.out.2.2.1.below J.b hg1)
        go_wp2_with (first
          | (refine wpList_stf rfl 25 (.tmp 115) (.tmp 114) rfl w5.heap.size 2 (tkC a3 A3 m3 c3 A5 k c5) 27 (.slice G (gm) gc) rfl rfl k75 (by show 2 < 3; decide) (by kernel_rfl) rfl rfl ?_
             intro W8 k8 n8
             have k8 : Blk W8 w5.heap.size (tkC a3 A3 m3 c3 G (gm) gc) 27 := k8
             have o8 := J.o.kind n8 k75 (by decide) (by decide)
             have k28 := n8.blk7 k25 (by omega)
             have B8 := (HW7.out.2.2.2.trans (J.b.mono hw7)).trans (n8.below _ (by omega) (Nat.le_trans hw7 J.b.size))
             clear n8)
          | (refine wpList_load_row rfl 27 (.tmp 13) rfl w5.heap.size rfl 27 (tkC a3 A3 m3 c3 G (gm) gc) (0, 0) _ k8.blk Tryz.underlying27 rfl (tk_inf _ _ _ _ _ _ _) ?_)
          | (refine wpList_store_blk rfl 27 (.tmp 6) (.tmp 116) rfl (w.heap.size + 1) (tkC 0 none 0 0 none 0 0) (tkC a3 A3 m3 c3 G (gm) gc) 27 rfl rfl k28 rfl (tk_inf _ _ _ _ _ _ _) (tk_one _ _ _ _ _ _ _) ?_
             intro W9 k9 n9))
        refine bodyPost_ret (results_row_t2 rfl _ _ (w.heap.size + 1) 27 (tkC a3 A3 m3 c3 G (gm) gc) _ rfl k9 Tryz.underlying27 rfl (tk_inf _ _ _ _ _ _ _) _ _ rfl rfl) rfl ?_
        exact ⟨A3, m3, c3, _, _, _, _, rfl, o8.kind n9 k28 (by decide) (by decide), by rw [← hF, ← HN1.out]; simp, B8.trans (n9.below _ (by omega) B8.size)⟩
end Go.Proofs.YtlelhhgggnjndaaGreat
namespace Go.Proofs.YtlelhhgggnjndaaGreat
open Go.RowKit Go.Shelf
set_option linter.unusedVariables false
set_option linter.unusedSimpArgs false
theorem all_tk (t : Int) (w : World) : Calls Tryz.prog 74 (#[.int .i64 t] ++ #[]) w fun e w' => e = .returned (.bool true) ∧ Below w.heap.size w w' := by
  show Calls Tryz.prog 74 #[.int .i64 t] w _
  go_enter Tryz.func74, Tryz.ntmps74
  go_wp2_with fail
  go_ret
  exact ⟨rfl, Below.refl _ _⟩
def execR (a : Int) (U : List Int) (P : List Pn) (p : Nat) : TkA :=
  ⟨(frees (fun _ => true) (P.getD p pn0).i (P.getD p pn0).t (a, U)).1, (frees (fun _ => true) (P.getD p pn0).i (P.getD p pn0).t (a, U)).2, P.set p ⟨(P.getD p pn0).i, (P.getD p pn0).p, [(P.getD p pn0).i]⟩, 0, 0⟩
set_option maxRecDepth 100000 in
set_option maxHeartbeats 8000000 in
theorem exec1_tk (a : Int) (U : List Int) (P : List Pn) (p : Nat) (hp : p < P.length) (hc : cntT P ≤ 100000) : DoT 73 #[] (fun _ _ => True) a U P p (execR a U P p) := by
  intro V B g Ua um uc A m c L _ hLP own tk kg hBg
  have hpl : p < L.length := by rw [← hLP] at hp; simpa using hp
  have hnm : (P.getD p pn0) = (L.getD p pw0).1 := by rw [← hLP]; exact getD_name p
  obtain ⟨gP, hA, hgP, hgPl⟩ := own.p.at0 (by omega)
  subst hA
  obtain ⟨x, hx⟩ : ∃ x, L.getD p pw0 = x := ⟨_, rfl⟩
  have hxm : x ∈ L := by rw [← hx, show L.getD p pw0 = L[p] by simp [List.getD, hpl]]; exact List.getElem_mem _
  rw [hx] at hnm
  unfold execR
  rw [hnm]
  have hxt : x.1.t.length ≤ 1000000 := by have := cnt_le (P := P) (x := x.1) (by rw [← hLP]; exact List.mem_map.2 ⟨x, hxm, rfl⟩); omega
  have LV := Lib.hid (leave_tk 74 #[] (fun _ => true) a V B g Ua um uc U gP m c L p x (fun _ _ => rfl) own kg hBg hpl hx tk.u6 hxt (fun W hW t => all_tk t W))
  have hm : (p : Int) < (m : Int) := by have := own.p.len; omega
  have hle := frees_len (fun _ => true) x.1.i x.1.t (a, U)
  have hul : um = U.length := tk.ul
  have hu6 : um ≤ 1000000 := tk.u6
  have hcs := cnt_set (P := P) (p := p) (x := ⟨x.1.i, x.1.p, [x.1.i]⟩) hp
  rw [hnm] at hcs
  simp only at hcs hle
  have HB := Lib.hid (And.intro hle (And.intro hcs (And.intro hul (And.intro hu6 (And.intro hc tk.p6)))))
  have HPL := Lib.hid (And.intro hpl hLP)
  have hBV : B ≤ V.heap.size := Nat.le_trans hBg (Nat.le_of_lt kg.lt)
  generalize frees (fun _ => true) x.1.i x.1.t (a, U) = fs at LV HB ⊢
  have hst : (x.1.t.filter fun t => !true) = [] := by simp
  rw [hst] at LV
  clear hle hcs hul hu6 own tk hx hxm hpl hLP hnm hp hxt hc hst
  show Calls Tryz.prog 73 #[.pointer (some ⟨g, 0, none⟩), .int .i64 p] V _
  go_enter Tryz.func73, Tryz.ntmps73
  go_wp2_with (first
    | (refine LV.out.mono ?_
       clear LV
       rintro e w1 ⟨rfl, Ua1, um1, uc1, S, sc, kg1, own1, bb⟩
       have HO := Lib.hid own1
       have HKB := Lib.hid (And.intro kg1 bb)
       have q2 : w1.cell? ⟨g, 2, none⟩ = some (.slice (some ⟨gP, 0, none⟩) m c) := kg1.cell 2
       obtain ⟨b7, off7, he7, hb7, hc7⟩ := own1.p.rs p (by rw [List.length_set]; exact HPL.out.1)
       cases he7
       rw [getD_setP HPL.out.1, if_pos rfl, Nat.zero_add] at hc7
       have t0 : w1.cell? ⟨gP, p * 3, none⟩ = some (.int .i64 x.1.i) := hc7 0 _ rfl
       have hal1 : Below w1.heap.size w1 (w1.alloc (.cells #[.int .i64 x.1.i] 3)) := (Below.refl _ _).alloc (Nat.le_refl _) _
       have t3 : (w1.alloc (.cells #[.int .i64 x.1.i] 3)).cell? ⟨gP, p * 3 + 2, none⟩ = some (.slice S 0 sc) := (hal1.cell (p := ⟨gP, p * 3 + 2, none⟩) hb7).trans (hc7 2 _ rfl)
       have f3 := World.ownsRow.frozenAt (own1.below hal1 (Nat.le_refl _)).p (p * 3 + 2)
       clear kg1 own1 bb hb7 hc7 hal1))
  refine bodyPost_ret (results_tmp2 rfl _ _ _) rfl ?_
  obtain ⟨W2, hW2⟩ : ∃ W2, w1.alloc (.cells #[.int .i64 x.1.i] 3) = W2 := ⟨_, rfl⟩
  have hal : Below w1.heap.size w1 W2 := by rw [← hW2]; exact (Below.refl _ _).alloc (Nat.le_refl _) _
  have kn : Blk W2 w1.heap.size #[.int .i64 x.1.i] 3 := by rw [← hW2]; exact Blk.new _ _ _
  rw [hW2]
  have o2 := HO.out.below hal (Nat.le_refl _)
  have k2 := HKB.out.1.below hal HKB.out.1.lt
  have hB1 := Nat.le_trans hBV HKB.out.2.size
  have n5 : But gP W2 (W2.setCell ⟨gP, p * 3 + 2, none⟩ (.slice (some ⟨w1.heap.size, 0, none⟩) 1 1)) := (But.refl gP W2).setCell (p := ⟨gP, p * 3 + 2, none⟩) (.inl rfl) _
  obtain ⟨curP, kP⟩ := roP_blk o2.p rfl
  have hpl2 : p < (L.set p ((⟨x.1.i, x.1.p, []⟩ : Pn), (S, sc))).length := by rw [List.length_set]; exact HPL.out.1
  have rl5 := o2.p.cellSet hpl2 (j := 2) (u := .slice (some ⟨w1.heap.size, 0, none⟩) 1 1) (y := ((⟨x.1.i, x.1.p, [x.1.i]⟩ : Pn), (some ⟨w1.heap.size, 0, none⟩, 1))) (by omega) (by rw [getD_setP HPL.out.1, if_pos rfl]; rfl)
  have kind5 : ∀ {A m c l B'}, Zo W2 B' A m c l → Zo (W2.setCell ⟨gP, p * 3 + 2, none⟩ (.slice (some ⟨w1.heap.size, 0, none⟩) 1 1)) B' A m c l := fun h => own_kind h (grown_but n5) (fun g' e => by cases e; exact ⟨_, _, kP, by decide⟩)
  have hq : ∀ j, j < (L.set p ((⟨x.1.i, x.1.p, []⟩ : Pn), (S, sc))).length → (L.set p ((⟨x.1.i, x.1.p, []⟩ : Pn), (S, sc))).getD j pw0 ∈ (L.set p ((⟨x.1.i, x.1.p, []⟩ : Pn), (S, sc))) := fun j hj => by rw [List.getD, List.getElem?_eq_getElem hj]; exact List.getElem_mem _
  have hz : Zo W2 B (some ⟨w1.heap.size, 0, none⟩) 1 1 [x.1.i] := zo_block hB1 kn.blk (Nat.le_refl _) (by simp [maxLen]) rfl rfl rfl
  have own5 := OwnT.setT (x := ⟨x.1.i, x.1.p, [x.1.i]⟩) (kind5 o2.u) rl5 hpl2 (kind5 hz) (fun j hj hne => kind5 (o2.q _ (hq j hj))) (fun i j hi hj _ _ hij => o2.qd i j hi hj hij)
    (fun j hj hne g' h1 h2 => by
      have h3 := (zo_at (HO.out.q _ (hq j hj)) h1).2
      have h4 : w1.heap.size = g' := Option.some.inj h2
      omega) (fun j hj hne => o2.ud _ (hq j hj)) (fun g' h1 h2 => by
      have h3 := (zo_at HO.out.u h2).2
      have h4 : w1.heap.size = g' := Option.some.inj h1
      omega)
  rw [List.set_set] at own5
  have kg5 := n5.blk7 k2 (fun e => by have kg4 := k2; rw [e] at kg4; exact absurd (blk_kind kg4 kP) (by decide))
  have hnames : (L.set p ((⟨x.1.i, x.1.p, [x.1.i]⟩ : Pn), ((some ⟨w1.heap.size, 0, none⟩ : Option Addr), 1))).map (·.1) = P.set p ⟨x.1.i, x.1.p, [x.1.i]⟩ := by rw [List.map_set, HPL.out.2]
  have hul := o2.u.len
  obtain ⟨h1, h2, h4, h5, h6, h7⟩ := HB.out
  have hl1 : ([x.1.i] : List Int).length = 1 := rfl
  simp only [List.length_singleton] at h2
  have hgP1 : B ≤ gP := hgP
  refine ⟨rfl, (HKB.out.2.trans (hal.mono hB1)).trans (n5.below _ hgP1 (Nat.le_trans hB1 hal.size)), fun _ => ⟨Ua1, um1, uc1, _, m, c, _, kg5, own5.tk (by omega) h7 (fun y hy => ?_) (by rw [thr_cnt, hnames]; omega), hnames, own5⟩⟩
  have := cnt_le (P := P.set p ⟨x.1.i, x.1.p, [x.1.i]⟩) (x := y.1) (by rw [← hnames]; exact List.mem_map.2 ⟨y, hy, rfl⟩)
  omega
end Go.Proofs.YtlelhhgggnjndaaGreat
namespace Go.Proofs.YtlelhhgggnjndaaGreat
open Go.RowKit Go.Shelf
set_option linter.unusedVariables false
set_option linter.unusedSimpArgs false
theorem nd_len {l m : List Int} (h : l.Nodup) (hs : ∀ x ∈ l, x ∈ m) : l.length ≤ m.length := by
  induction l generalizing m with
  | nil => simp
  | cons x l ih =>
    rw [List.nodup_cons] at h
    have h1 := ih (m := m.erase x) h.2 (fun y hy => (List.mem_erase_of_ne (fun (e : y = x) => h.1 (by rw [← e]; exact hy))).2 (hs y (List.mem_cons_of_mem _ hy)))
    have h2 := hs x (List.mem_cons_self ..)
    have h3 := List.length_erase_of_mem h2
    have h4 : 0 < m.length := List.length_pos_of_mem h2
    simp only [List.length_cons]
    omega
theorem rfree_fr {a : Int} {U : List Int} (h : Ids a U) (x : Int) : rfreeV a U x = freeV a U x := by
  by_cases hx : x ∈ U
  · rw [free_yes h hx, delP_eq h.up hx]
    unfold rfreeV
    rw [if_pos (by simpa using hx)]
  · rw [free_none h hx]
    unfold rfreeV
    rw [if_neg (by simpa using hx)]
theorem Ids.fr {a : Int} {U : List Int} (h : Ids a U) (x : Int) : Ids (freeV a U x).1 (freeV a U x).2.1 := by
  by_cases hx : x ∈ U
  · rw [free_yes h hx]; exact h.freed hx
  · rw [free_none h hx]; exact ⟨by simp, by simp, List.Pairwise.nil, fun y hy => by cases hy⟩
theorem Ids.frs (e : Int → Bool) (pid : Int) : ∀ (l : List Int) (s : Int × List Int), Ids s.1 s.2 → Ids (frees e pid l s).1 (frees e pid l s).2
  | [], s, h => h
  | t :: l, s, h => by
    show Ids (frees e pid l _).1 (frees e pid l _).2
    refine Ids.frs e pid l _ ?_
    show Ids (if (e t && t != pid) = true then ((freeV s.1 s.2 t).1, (freeV s.1 s.2 t).2.1) else s).1 (if (e t && t != pid) = true then ((freeV s.1 s.2 t).1, (freeV s.1 s.2 t).2.1) else s).2
    split
    · exact h.fr t
    · exact h
theorem lvF_eq (pid : Int) (j : Nat) : ∀ (ts : List Int) (a : Int) (U : List Int) (P : List Pn), Ids a U → j < P.length → lvF (a, U, P) pid j ts = ((frees (fun _ => true) pid ts (a, U)).1, (frees (fun _ => true) pid ts (a, U)).2, P.set j ⟨(P.getD j pn0).i, (P.getD j pn0).p, (P.getD j pn0).t.filter (fun t => !ts.contains t)⟩)
  | [], a, U, P, h, hj => by
    rw [lvF]
    have e : (P.getD j pn0).t.filter (fun t => !([] : List Int).contains t) = (P.getD j pn0).t := List.filter_eq_self.2 (fun t _ => by simp)
    rw [e]
    have e2 : (⟨(P.getD j pn0).i, (P.getD j pn0).p, (P.getD j pn0).t⟩ : Pn) = P[j] := by simp [List.getD, hj]
    rw [e2, List.set_getElem_self]
    rfl
  | x :: xs, a, U, P, h, hj => by
    have hst : (if (x != pid) = true then ((rfreeV a U x).1, (rfreeV a U x).2.1) else (a, U)) = (if ((fun _ => true) x && x != pid) = true then ((freeV (a, U).1 (a, U).2 x).1, (freeV (a, U).1 (a, U).2 x).2.1) else (a, U)) := by
      rw [rfree_fr h]; simp
    have hI : Ids (if (x != pid) = true then ((rfreeV a U x).1, (rfreeV a U x).2.1) else (a, U)).1 (if (x != pid) = true then ((rfreeV a U x).1, (rfreeV a U x).2.1) else (a, U)).2 := by
      rw [rfree_fr h]
      split
      · exact h.fr x
      · exact h
    rw [lvF]
    unfold lvN
    simp only
    rw [lvF_eq pid j xs _ _ _ hI (by rw [List.length_set]; exact hj)]
    have hfr : frees (fun _ => true) pid (x :: xs) (a, U) = frees (fun _ => true) pid xs (if (x != pid) = true then ((rfreeV a U x).1, (rfreeV a U x).2.1) else (a, U)) := by
      rw [hst]; rfl
    rw [hfr]
    have hg : (P.set j (⟨(P.getD j pn0).i, (P.getD j pn0).p, woutF (P.getD j pn0).t x⟩ : Pn)).getD j pn0 = ⟨(P.getD j pn0).i, (P.getD j pn0).p, woutF (P.getD j pn0).t x⟩ := by simp [List.getD, hj]
    rw [hg, List.set_set]
    simp only
    congr 3
    unfold woutF
    rw [List.filter_filter]
    congr 1
    refine List.filter_congr fun t _ => ?_
    rw [List.contains_cons]
    cases h1 : (t == x) <;> simp [bne, h1]
theorem frees_none {pid tid : Int} : ∀ {t : List Int} {s : Int × List Int}, tid ∉ t → frees (fun x => x == tid) pid t s = s
  | [], s, _ => rfl
  | x :: t, s, h => by
    rw [List.mem_cons, not_or] at h
    show frees (fun x => x == tid) pid t (if ((x == tid) && x != pid) = true then _ else s) = s
    rw [if_neg (by simp; intro e; exact absurd e.symm h.1)]
    exact frees_none h.2
theorem frees_one {pid tid : Int} : ∀ {t : List Int} {s : Int × List Int}, t.Pairwise (· < ·) → tid ∈ t → frees (fun x => x == tid) pid t s = if (tid != pid) = true then ((freeV s.1 s.2 tid).1, (freeV s.1 s.2 tid).2.1) else s
  | [], s, _, h => by cases h
  | x :: t, s, hp, h => by
    rw [List.pairwise_cons] at hp
    show frees (fun x => x == tid) pid t (if ((x == tid) && x != pid) = true then ((freeV s.1 s.2 x).1, (freeV s.1 s.2 x).2.1) else s) = _
    rcases List.mem_cons.1 h with rfl | h1
    · rw [frees_none (fun h2 => by have := hp.1 _ h2; omega)]
      simp
    · have := hp.1 _ h1
      rw [if_neg (by simp; intro e; omega), frees_one hp.2 h1]
theorem home_of {L : List Pw} (hp : (idsP L).Pairwise (· < ·)) (tid : Int) : ((homeF L tid).2 = false ∧ ofR L tid = 0) ∨ ∃ j x, homeF L tid = (j, true) ∧ L[j]? = some x ∧ ofR L tid = x.1.i ∧ fndF 0 L x.1.i = (j : Int) ∧ tid ∈ x.1.t := by
  rcases of_find tid L 0 with ⟨p, j, x, h1, h2, h3, h4⟩ | ⟨h1, h2⟩
  · refine .inr ⟨j, x, ?_, h2, h4, ?_, ?_⟩
    · unfold homeF
      rw [h1]
      simp only [h3, Nat.zero_add]
    · rcases fndF_at L 0 x.1.i with ⟨_, h6⟩ | ⟨k, y, h5, h6, h7⟩
      · exact absurd (List.mem_of_getElem? (idsP_get h2)) h6
      · rw [h7, Nat.zero_add]
        have e1 := less_idx hp h2
        have e2 := less_idx hp h5
        rw [h6, e1] at e2
        rw [e2]
    · have hm := List.mem_of_find?_eq_some h1
      have hq := List.find?_some h1
      obtain ⟨k, t⟩ := p
      obtain ⟨j', y, e, h5, h6⟩ := thrF_mem.1 hm
      simp only at h3 hq e
      have : t = tid := by simpa using hq
      subst this
      have : j' = j := by omega
      subst this
      rw [h2] at h5
      cases h5
      exact h6
  · refine .inl ⟨?_, h2⟩
    unfold homeF
    rw [h1]
theorem tid_nd {a : Int} {U : List Int} {L : List Pw} (g : TkGood a U L) : (tidF L).Nodup := by
  have h1 : (allD L).Nodup := sortZ_nd.1 (by have := g.ids.up; rw [g.used] at this; exact this)
  have h2 := sh_of_nodup g.pup h1
  unfold tidF List.Nodup
  rw [List.pairwise_map]
  refine thrF_pw L 0 g.tup ?_
  refine List.pairwise_iff_getElem.2 fun i j hi hj hij id hid => ?_
  exact (h2 i L[i] j L[j] (by simp [hi]) (by simp [hj]) (by omega) id hid).2
theorem good_sh {a : Int} {U : List Int} {L : List Pw} (g : TkGood a U L) : Sh L := sh_of_nodup g.pup (sortZ_nd.1 (by have := g.ids.up; rw [g.used] at this; exact this))
theorem live_len {a : Int} {U : List Int} {L : List Pw} (g : TkGood a U L) : (withs [] (tidF L)).length = cntT (L.map (·.1)) := by
  have h1 : (withs [] (tidF L)).Nodup := (withs_up (tidF L) [] List.Pairwise.nil).imp fun h => by omega
  have h2 := nd_len h1 (fun x hx => by have := (withs_mem x (tidF L) []).1 hx; simpa using this)
  have h3 := nd_len (tid_nd g) (fun x hx => (withs_mem x (tidF L) []).2 (.inl hx))
  have h4 : (tidF L).length = cntT (L.map (·.1)) := by rw [tid_len, thr_cnt 0]
  omega
theorem take_new {a : Int} {U : List Int} (h : Ids a U) (h0 : (takeV a U).2.2.2 = 0) : (takeV a U).2.2.1 ∉ U := by
  cases hn : nextP a.toNat U with
  | none => rw [take_full h ((h.none_iff).1 hn)] at h0; cases h0
  | some i => rw [take_some h hn]; exact (nextP_some hn).2.1
theorem nwG_true (y : Pn) : ∀ P : List Pn, nwG y true P = P
  | [] => rfl
  | x :: P => by rw [nwG]; simp [nwG_true y P]
theorem nwG_ins (y : Pn) : ∀ {P : List Pn}, (P.map (·.i)).Pairwise (· < ·) → y.i ∉ P.map (·.i) → nwG y false P = insL (lessP (P.map (·.i)) y.i) y P
  | [], _, _ => rfl
  | x :: P, hp, hn => by
    rw [List.map_cons, List.pairwise_cons] at hp
    rw [List.map_cons, List.mem_cons, not_or] at hn
    rw [nwG]
    by_cases h : y.i < x.i
    · have e : lessP ((x :: P).map (·.i)) y.i = 0 := by
        rw [List.map_cons]
        refine less_zero (y := y.i) (fun z hz => ?_) (Int.le_refl _)
        rcases List.mem_cons.1 hz with rfl | hz
        · exact h
        · have := hp.1 z hz; omega
      rw [e]
      simp [h, insL, nwG_true]
    · have e : lessP ((x :: P).map (·.i)) y.i = lessP (P.map (·.i)) y.i + 1 := by
        unfold lessP
        rw [List.map_cons, List.countP_cons_of_pos (by simp; omega)]
      rw [e]
      have ih := nwG_ins y hp.2 hn.2
      have hd : decide (y.i < x.i) = false := by simpa using h
      rw [hd]
      simp only [Bool.not_false, Bool.and_false, Bool.or_false, Bool.true_and]
      rw [ih]
      simp [insL]
theorem withG_ins {n : Int} {l : List Int} (hp : l.Pairwise (· < ·)) (hn : n ∉ l) : withG n false l = insP l n := by
  refine up_ext (withG_up n l hp) (up_insP hp hn) fun y => ?_
  rw [withG_mem, mem_insP]
  constructor
  · rintro (⟨_, h⟩ | ⟨h, _⟩)
    · exact .inl h
    · exact .inr h
  · rintro (h | h)
    · exact .inl ⟨rfl, h⟩
    · exact .inr ⟨h, fun e => hn (e ▸ h)⟩
theorem del_filter : ∀ {P : List Pn} {q : Int}, (P.map (·.i)).Pairwise (· < ·) → q ∈ P.map (·.i) → delL (lessP (P.map (·.i)) q) P = P.filter (fun x => x.i != q)
  | [], q, _, h => by simp at h
  | x :: P, q, hp, h => by
    rw [List.map_cons, List.pairwise_cons] at hp
    by_cases e : x.i = q
    · subst e
      have e : lessP ((x :: P).map (·.i)) x.i = 0 := by
        unfold lessP
        rw [List.map_cons, List.countP_cons_of_neg (by simp), List.countP_eq_zero]
        intro z hz
        have := hp.1 z hz
        simp; omega
      rw [e, List.filter_cons_of_neg (by simp), List.filter_eq_self.2 (fun z hz => by
        have := hp.1 z.i (List.mem_map.2 ⟨z, hz, rfl⟩)
        simp; omega)]
      rfl
    · have hq : q ∈ P.map (·.i) := by
        rw [List.map_cons] at h
        rcases List.mem_cons.1 h with h | h
        · exact absurd h.symm e
        · exact h
      have hx := hp.1 q hq
      have e2 : lessP ((x :: P).map (·.i)) q = lessP (P.map (·.i)) q + 1 := by
        unfold lessP
        rw [List.map_cons, List.countP_cons_of_pos (by simp; omega)]
      rw [e2, List.filter_cons_of_pos (by simpa using e), ← del_filter hp.2 hq]
      rfl
theorem rp_find {P : List Pn} (hp : (P.map (·.i)).Pairwise (· < ·)) : ∀ {cs : List Int}, (∀ c ∈ cs, c ∈ P.map (·.i)) → rpF P cs = cs.find? (endQ P)
  | [], _ => rfl
  | c :: cs, h => by
    have hl : (idsP (ofN P)) = P.map (·.i) := by rw [idsP_names, ofN_nm]
    have h1 : (P.getD (fndF 0 (ofN P) c).toNat pn0) = P.getD (lessP (P.map (·.i)) c) pn0 := by
      rcases fnd_less (L := ofN P) (by rw [hl]; exact hp) c with ⟨h2, _⟩ | ⟨_, h2⟩
      · have := h c (List.mem_cons_self ..)
        rw [hl] at h2
        simp at h2
        simp at this
        obtain ⟨y, hy, e⟩ := this
        exact absurd e (h2 y hy)
      · rw [h2, hl]; rfl
    rw [rpF, List.find?_cons, h1]
    unfold endQ
    cases h3 : ((P.getD (lessP (P.map (·.i)) c) pn0).t.length == 0)
    · simp only [if_neg (show ¬ (false = true) by simp)]
      rw [rp_find hp (fun d hd => h d (List.mem_cons_of_mem _ hd))]
      rfl
    · rw [if_pos rfl]
end Go.Proofs.YtlelhhgggnjndaaGreat
namespace Go.Proofs.YtlelhhgggnjndaaGreat
open Go.RowKit Go.Shelf
set_option linter.unusedVariables false
set_option linter.unusedSimpArgs false
theorem ids_ofN (P : List Pn) : idsP (ofN P) = P.map (·.i) := by rw [idsP_names, ofN_nm]
theorem len_ofN (P : List Pn) : (ofN P).length = P.length := by unfold ofN; rw [List.length_map]
theorem getD_ofN (P : List Pn) (k : Nat) : ((ofN P).getD k pw0).1 = P.getD k pn0 := by rw [← getD_name, ofN_nm]
theorem par_of {P : List Pn} (hu : (P.map (·.i)).Pairwise (· < ·)) {x : Pn} (hx : x ∈ P) : parP (ofN P) x.i = x.p := by
  obtain ⟨j, hj, e⟩ := List.getElem_of_mem hx
  have h1 : (ofN P)[j]? = some (x, (none, 0)) := by unfold ofN; simp [hj, e]
  have h2 := less_idx (L := ofN P) (by rw [ids_ofN]; exact hu) h1
  unfold parP
  have h3 : lessP (idsP (ofN P)) x.i = j := h2
  rw [h3, getD_some h1]
theorem run_iff {P : List Pn} (hu : (P.map (·.i)).Pairwise (· < ·)) (z : Int) : runB (ofN P) z = true ↔ ∃ x ∈ P, x.i = z ∧ x.t ≠ [] := by
  unfold runB
  rw [Bool.and_eq_true, ids_ofN]
  constructor
  · rintro ⟨h1, h2⟩
    obtain ⟨h3, h4⟩ := less_get hu (by simpa using h1)
    have h5 : lessP (P.map (·.i)) z < P.length := by simpa using h3
    rw [getD_ofN] at h2
    refine ⟨P.getD (lessP (P.map (·.i)) z) pn0, ?_, ?_, ?_⟩
    · rw [show P.getD (lessP (P.map (·.i)) z) pn0 = P[lessP (P.map (·.i)) z] by simp [List.getD, h5]]; exact List.getElem_mem _
    · simpa [List.getD, h5] using h4
    · intro e; rw [e] at h2; simp at h2
  · rintro ⟨x, hx, rfl, ht⟩
    refine ⟨by simp; exact ⟨x, hx, rfl⟩, ?_⟩
    obtain ⟨j, hj, e⟩ := List.getElem_of_mem hx
    have h1 : (ofN P)[j]? = some (x, (none, 0)) := by unfold ofN; simp [hj, e]
    have h2 : lessP (idsP (ofN P)) x.i = j := less_idx (L := ofN P) (by rw [ids_ofN]; exact hu) h1
    rw [ids_ofN] at h2
    rw [h2, getD_some h1]
    simpa using ht
theorem above_step {L : List Pw} (hp : (idsP L).Pairwise (· < ·)) (c : Int) (n : Nat) (q : Int) : aboveR L c (n + 1) q = (q == c || ((idsP L).contains q && aboveR L c n (parP L q))) := by
  rw [aboveR]
  rcases fnd_less hp q with ⟨h1, h2⟩ | ⟨h1, h2⟩
  · rw [h1, h2]; rfl
  · rw [h1, h2]
    unfold parP
    simp
theorem clm_mono {L : List Pw} : ∀ {k n : Nat} {q : Int}, clm L k q = true → k ≤ n → clm L n q = true
  | 0, 0, q, h, _ => h
  | 0, n + 1, q, h, _ => by
    have : q = 0 := by simpa [clm] using h
    subst this
    rfl
  | k + 1, 0, q, _, h => absurd h (by omega)
  | k + 1, n + 1, q, h, hn => by
    unfold clm at h ⊢
    rw [Bool.or_eq_true, Bool.and_eq_true] at h ⊢
    rcases h with h | ⟨h1, h2⟩
    · exact .inl h
    · exact .inr ⟨h1, clm_mono h2 (by omega)⟩
def pth (L : List Pw) : Nat → Int → List Int
  | 0, _ => []
  | n + 1, q => if q = 0 then [] else q :: pth L n (parP L q)
theorem pth_len {L : List Pw} : ∀ (n : Nat) (q : Int), (pth L n q).length = lenC L n q
  | 0, q => rfl
  | n + 1, q => by
    unfold pth lenC
    split
    · rfl
    · rw [List.length_cons, pth_len n]
theorem clm_next {L : List Pw} {n : Nat} {q : Int} (h : clm L (n + 1) q = true) (h0 : ¬ q = 0) : (idsP L).contains q = true ∧ clm L n (parP L q) = true := by
  unfold clm at h
  rw [show (q == 0) = false by simpa using h0, Bool.false_or, Bool.and_eq_true] at h
  exact h
theorem pth_mem {L : List Pw} : ∀ (n : Nat) (q : Int), clm L n q = true → ∀ z ∈ pth L n q, z ∈ idsP L ∧ ∃ k, k ≤ n ∧ clm L k z = true ∧ lenC L k z ≤ lenC L n q
  | 0, q, _, z, hz => by cases hz
  | n + 1, q, h, z, hz => by
    unfold pth at hz
    split at hz
    · cases hz
    · rename_i h0
      obtain ⟨h1, h2⟩ := clm_next h h0
      rcases List.mem_cons.1 hz with rfl | hz
      · exact ⟨by simpa using h1, n + 1, Nat.le_refl _, h, Nat.le_refl _⟩
      · obtain ⟨h3, k, h4, h5, h6⟩ := pth_mem n _ h2 z hz
        refine ⟨h3, k, by omega, h5, ?_⟩
        rw [show lenC L (n + 1) q = lenC L n (parP L q) + 1 by rw [lenC, if_neg h0]]
        omega
theorem pth_nd {L : List Pw} : ∀ (n : Nat) (q : Int), clm L n q = true → (pth L n q).Nodup
  | 0, q, _ => List.nodup_nil
  | n + 1, q, h => by
    unfold pth
    split
    · exact List.nodup_nil
    · rename_i h0
      obtain ⟨h1, h2⟩ := clm_next h h0
      rw [List.nodup_cons]
      refine ⟨fun hq => ?_, pth_nd n _ h2⟩
      obtain ⟨_, k, h4, h5, h6⟩ := pth_mem n _ h2 q hq
      have e := lenC_eq (n := n + 1) h5 (by omega)
      rw [lenC, if_neg h0] at e
      omega
theorem clm_len {L : List Pw} : ∀ (n : Nat) (q : Int), clm L n q = true → clm L (lenC L n q) q = true
  | 0, q, h => h
  | n + 1, q, h => by
    by_cases h0 : q = 0
    · subst h0
      cases lenC L (n + 1) 0 <;> rfl
    · obtain ⟨h1, h2⟩ := clm_next h h0
      rw [lenC, if_neg h0]
      unfold clm
      rw [h1, clm_len n _ h2]
      simp
theorem clm_all {L : List Pw} {n : Nat} {q : Int} (h : clm L n q = true) : clm L L.length q = true := by
  refine clm_mono (clm_len n q h) ?_
  rw [← pth_len]
  have := nd_len (pth_nd n q h) (fun z hz => (pth_mem n q h z hz).1)
  simpa [idsP] using this
theorem meets_above {L : List Pw} (hp : (idsP L).Pairwise (· < ·)) (h00 : (0 : Int) ∉ idsP L) {c : Int} (hc : c ≠ 0) : ∀ (n N : Nat) (q : Int), clm L n q = true → n < N → meets L c n q = aboveR L c N q
  | 0, N, q, h, hN => by
    have : q = 0 := by simpa [clm] using h
    subst this
    obtain ⟨N, rfl⟩ : ∃ M, N = M + 1 := ⟨N - 1, by omega⟩
    rw [above_step hp, show ((0 : Int) == c) = false by simpa using fun e => hc e.symm, show (idsP L).contains 0 = false by simpa using h00]
    rfl
  | n + 1, N, q, h, hN => by
    obtain ⟨N, rfl⟩ : ∃ M, N = M + 1 := ⟨N - 1, by omega⟩
    by_cases h0 : q = 0
    · subst h0
      rw [above_step hp, show ((0 : Int) == c) = false by simpa using fun e => hc e.symm, show (idsP L).contains 0 = false by simpa using h00]
      unfold meets
      rfl
    · obtain ⟨h1, h2⟩ := clm_next h h0
      rw [above_step hp, h1]
      unfold meets
      rw [if_neg h0, meets_above hp h00 hc n N _ h2 (by omega)]
      by_cases e : q = c
      · simp [e]
      · simp [e]
def Clo (P : List Pn) (kp : Pn → Bool) : Prop := ∀ x ∈ P, kp x = true → x.p = 0 ∨ ∃ y ∈ P, y.i = x.p ∧ kp y = true
theorem up_filter {P : List Pn} (hu : (P.map (·.i)).Pairwise (· < ·)) (kp : Pn → Bool) : ((P.filter kp).map (·.i)).Pairwise (· < ·) := by
  rw [List.pairwise_map] at hu ⊢
  exact hu.filter _
theorem row_eq {P : List Pn} (hu : (P.map (·.i)).Pairwise (· < ·)) {x y : Pn} (hx : x ∈ P) (hy : y ∈ P) (e : x.i = y.i) : x = y := by
  obtain ⟨i, hi, rfl⟩ := List.getElem_of_mem hx
  obtain ⟨j, hj, rfl⟩ := List.getElem_of_mem hy
  rcases Nat.lt_trichotomy i j with h | rfl | h
  · have := List.pairwise_iff_getElem.1 hu i j (by simpa using hi) (by simpa using hj) h
    simp at this; omega
  · rfl
  · have := List.pairwise_iff_getElem.1 hu j i (by simpa using hj) (by simpa using hi) h
    simp at this; omega
theorem cut_same {P : List Pn} {kp : Pn → Bool} (hu : (P.map (·.i)).Pairwise (· < ·)) (h00 : (0 : Int) ∉ P.map (·.i)) (hc : Clo P kp) (c : Int) : ∀ (n : Nat) (q : Int), (q = 0 ∨ ∃ y ∈ P, y.i = q ∧ kp y = true) → clm (ofN P) n q = clm (ofN (P.filter kp)) n q ∧ aboveR (ofN P) c n q = aboveR (ofN (P.filter kp)) c n q
  | 0, q, _ => ⟨rfl, rfl⟩
  | n + 1, q, hq => by
    rw [above_step (by rw [ids_ofN]; exact hu), above_step (by rw [ids_ofN]; exact up_filter hu kp)]
    unfold clm
    rw [ids_ofN, ids_ofN]
    rcases hq with rfl | ⟨y, hy, rfl, hk⟩
    · have h1 : (P.map (·.i)).contains 0 = false := by simpa using h00
      have h2 : ((P.filter kp).map (·.i)).contains 0 = false := by
        simp only [List.contains_eq_mem, decide_eq_false_iff_not]
        intro hm
        obtain ⟨z, hz, e⟩ := List.mem_map.1 hm
        exact h00 (List.mem_map.2 ⟨z, (List.mem_filter.1 hz).1, e⟩)
      rw [h1, h2]
      exact ⟨rfl, by simp⟩
    · have hyf : y ∈ P.filter kp := List.mem_filter.2 ⟨hy, hk⟩
      have h1 : (P.map (·.i)).contains y.i = true := by simp; exact ⟨y, hy, rfl⟩
      have h2 : ((P.filter kp).map (·.i)).contains y.i = true := by
        simp only [List.contains_eq_mem, decide_eq_true_iff]
        exact List.mem_map.2 ⟨y, hyf, rfl⟩
      have e1 := par_of hu hy
      have e2 := par_of (up_filter hu kp) hyf
      rw [h1, h2, e1, e2]
      obtain ⟨h3, h4⟩ := cut_same hu h00 hc c n y.p (hc y hy hk)
      rw [h3, h4]
      exact ⟨rfl, rfl⟩
theorem one_heir {P : List Pn} {kp : Pn → Bool} {n : Nat} (hu : (P.map (·.i)).Pairwise (· < ·)) (h00 : (0 : Int) ∉ P.map (·.i)) (hc : Clo P kp) (hk : ∀ x ∈ P, x.t ≠ [] → kp x = true) (hcl : runB (ofN P) 1 = true → clm (ofN P) n 1 = true) {c : Int} (hc0 : c ≠ 0) : toI (oneF (ofN (P.filter kp)) c) = heirF (ofN P) n c := by
  have hu2 := up_filter hu kp
  have hU2 : (idsP (ofN (P.filter kp))).Pairwise (· < ·) := by rw [ids_ofN]; exact hu2
  have h002 : (0 : Int) ∉ idsP (ofN (P.filter kp)) := by
    rw [ids_ofN]
    intro hm
    obtain ⟨z, hz, e⟩ := List.mem_map.1 hm
    exact h00 (List.mem_map.2 ⟨z, (List.mem_filter.1 hz).1, e⟩)
  have hrun : runB (ofN (P.filter kp)) 1 = runB (ofN P) 1 := by
    rw [Bool.eq_iff_iff, run_iff hu2, run_iff hu]
    constructor
    · rintro ⟨x, hx, h⟩
      exact ⟨x, (List.mem_filter.1 hx).1, h⟩
    · rintro ⟨x, hx, h1, h2⟩
      exact ⟨x, List.mem_filter.2 ⟨hx, hk x hx h2⟩, h1, h2⟩
  have hfst : (decide (0 ≤ fndF 0 (ofN (P.filter kp)) 1) && decide (0 < ((ofN (P.filter kp)).getD (fndF 0 (ofN (P.filter kp)) 1).toNat pw0).1.t.length)) = runB (ofN P) 1 := by
    rw [← hrun]
    unfold runB
    rcases fnd_less hU2 1 with ⟨h1, h2⟩ | ⟨h1, h2⟩
    · rw [h1, h2]; rfl
    · rw [h1, h2]
      simp only [Int.toNat_natCast, Bool.true_and]
      rw [show decide ((0 : Int) ≤ ((lessP (idsP (ofN (P.filter kp))) 1 : Nat) : Int)) = true by simp, Bool.true_and]
      have h9 : ∀ n : Nat, decide (0 < n) = !(n == 0) := fun n => by cases n <;> simp
      exact h9 _
  unfold oneF heirF
  rw [hfst]
  by_cases hr : runB (ofN P) 1 = true
  · rw [hr, if_pos rfl, Bool.true_and]
    obtain ⟨x, hx, hx1, hx2⟩ := (run_iff hu 1).1 hr
    have hq : (1 : Int) = 0 ∨ ∃ y ∈ P, y.i = 1 ∧ kp y = true := .inr ⟨x, hx, hx1, hk x hx hx2⟩
    have h1 := hcl hr
    have h2 := h1
    rw [(cut_same hu h00 hc c n 1 hq).1] at h2
    have h3 := clm_all h2
    have e1 := meets_above (L := ofN P) (by rw [ids_ofN]; exact hu) (by rw [ids_ofN]; exact h00) hc0 n (n + 1) 1 h1 (by omega)
    rw [(cut_same hu h00 hc c (n + 1) 1 hq).2] at e1
    have e2 := meets_above hU2 h002 hc0 n (n + 1) 1 h2 (by omega)
    have e3 := meets_above hU2 h002 hc0 n (max n (ofN (P.filter kp)).length + 1) 1 h2 (by omega)
    have e4 := meets_above hU2 h002 hc0 (ofN (P.filter kp)).length (max n (ofN (P.filter kp)).length + 1) 1 h3 (by omega)
    have e5 := meets_above hU2 h002 hc0 (ofN (P.filter kp)).length ((ofN (P.filter kp)).length + 1) 1 h3 (by omega)
    have e : meets (ofN P) c n 1 = aboveR (ofN (P.filter kp)) c ((ofN (P.filter kp)).length + 1) 1 := by rw [e1, ← e2, e3, ← e4, e5]
    rw [e]
    cases aboveR (ofN (P.filter kp)) c ((ofN (P.filter kp)).length + 1) 1 <;> rfl
  · have hr' : runB (ofN P) 1 = false := by simpa using hr
    rw [hr']
    rfl
end Go.Proofs.YtlelhhgggnjndaaGreat

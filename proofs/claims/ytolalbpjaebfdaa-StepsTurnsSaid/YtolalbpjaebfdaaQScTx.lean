/-
  The walk of StepsTurns.
-/
import Derived.Test.YtolalbpjaebfdaaQScTv
import Derived.Test.YtolalbpjaebfdaaQScTw
namespace Go.Proofs.Ytolalbpjaebfdaa
open Go.RowKit Go.Shelf
set_option linter.unusedVariables false
set_option linter.unusedSimpArgs false
theorem kind3 (z : Int) : ∃ kr kd : Int, z.tmod 3 = kr ∧ -2 ≤ kr ∧ kr ≤ 2 ∧ (kr + 3) % 3 = kd ∧ (kr + 3).tmod 3 = kd ∧ (kd = 0 ∨ kd = 1 ∨ kd = 2) := by
  have h1 : -2 ≤ z.tmod 3 ∧ z.tmod 3 ≤ 2 := by
    rcases Int.le_total 0 z with h | h
    · rw [Int.tmod_eq_emod_of_nonneg h]; omega
    · have e : z.tmod 3 = -((-z).tmod 3) := by rw [Int.neg_tmod, Int.neg_neg]
      rw [e, Int.tmod_eq_emod_of_nonneg (by omega)]; omega
  refine ⟨_, (z.tmod 3 + 3) % 3, rfl, h1.1, h1.2, rfl, ?_, ?_⟩
  · rw [Int.tmod_eq_emod_of_nonneg (by omega)]
  · omega
theorem Tn.pick {w V : World} {b5 bm n : Nat} {A : Option Addr} {m c : Nat} {R : List Rn} {A2 : Option Addr} {m2 c2 : Nat} {L : List Kw} {f : Int → Value} {Q : Int → List Int} (h : Tn w V b5 bm n A m c R A2 m2 c2 L f Q) (z : Int) :
    Calls Try.prog 24 #[scV A m c A2 m2 c2, .int .i64 z] V fun e w' => e = .returned (.tuple #[.int .i64 (pickV (rdyA R L) z).1, .bool (pickV (rdyA R L) z).2]) ∧ Below V.heap.size V w' := pick_sc A m c R A2 m2 c2 L z V h.sc
theorem Tn.check {w V : World} {b5 bm n : Nat} {A : Option Addr} {m c : Nat} {R : List Rn} {A2 : Option Addr} {m2 c2 : Nat} {L : List Kw} {f : Int → Value} {Q : Int → List Int} (h : Tn w V b5 bm n A m c R A2 m2 c2 L f Q) :
    Calls Try.prog 22 #[scV A m c A2 m2 c2] V fun e w' => e = .returned (.int .i64 0) ∧ Below V.heap.size V w' := by
  have := check_sc A m c R A2 m2 c2 L V h.sc
  rwa [scE_good h.g] at this
theorem Tn.owner {w V : World} {b5 bm n : Nat} {A : Option Addr} {m c : Nat} {R : List Rn} {A2 : Option Addr} {m2 c2 : Nat} {L : List Kw} {f : Int → Value} {Q : Int → List Int} (h : Tn w V b5 bm n A m c R A2 m2 c2 L f Q) (z : Int) :
    Calls Try.prog 27 #[scV A m c A2 m2 c2, .int .i64 z] V fun e w' => e = .returned (.int .i64 ((qN (L.map (·.1)) z).headD 0)) ∧ Below V.heap.size V w' := by
  have := owner_sc (A := A) (m := m) (c := c) (R := R) (A2 := A2) (m2 := m2) (c2 := c2) (L := L) (w := V) z h.sc
  rwa [ownerA_q h.g] at this
theorem Sc.qlim {w : World} {B : Nat} {A : Option Addr} {m c : Nat} {R : List Rn} {A2 : Option Addr} {m2 c2 : Nat} {L : List Kw} (h : Sc w B A m c R A2 m2 c2 L) (z : Int) : (qN (L.map (·.1)) z).length ≤ 1000001 := by
  unfold qN
  cases hf : (L.map (·.1)).find? (fun y => y.n == z) with
  | none => simp
  | some y =>
    obtain ⟨x, hx, rfl⟩ := List.mem_map.1 (List.mem_of_find?_eq_some hf)
    have := (h.q x hx).l
    simp only [List.length_cons]
    omega
def Hold9 (p : Prop) : Prop := p
theorem hold9 {p : Prop} (h : Hold9 p) : p := h
set_option maxRecDepth 100000 in
set_option maxHeartbeats 32000000 in
theorem turns_law (n : Int) (Aq : Option Addr) (mq cq : Nat) (Lq : List Rn) (w : World) (hq : RsR w w.heap.size Aq Lq) (hmq : mq = Lq.length) :
    Calls Try.prog 6 #[.int .i64 n, .slice Aq mq cq] w fun e w' => e = .returned (.bool true) ∧ Below w.heap.size w w' := by
  have B0 := Below.refl w.heap.size w
  have HWK := Lib.hid (fun (V : World) => wakes13_any V)
  obtain ⟨k0, hk0, hr8, hr8t⟩ := rem_nat n 8 (by decide)
  have HBG := Lib.hid (fun (V : World) => begun_sc (k0 + 1) (by omega) V)
  rw [show (((k0 + 1 : Nat)) : Int) = (k0 : Int) + 1 by omega] at HBG
  have hmx8 : (0 : Int) ≤ max n 0 := by omega
  have HQ := Lib.hid hq
  have HMQ := Lib.hid hmq
  have hmm := @run_makeMap Try.prog
  clear hq hmq
  go_enter Try.func6, Try.ntmps6
  go_wp2_with (first
    | (refine (HWK.out _).mono ?_
       rintro e w1 ⟨rfl, bb⟩
       have B1 := B0.trans (bb.mono B0.size)
       clear bb B0)
    | (refine (HBG.out w1).mono ?_
       clear HBG
       rintro e w2 ⟨v, rfl, ⟨A, m, c, A2, m2, c2, L, rfl, sc2, hn2, fr2⟩, bb⟩
       have HB2 := Lib.hid (B1.trans (bb.mono B1.size))
       have H2 := Lib.hid (And.intro sc2 hn2)
       clear bb B1 sc2 hn2 fr2
       unfold scV)
    | (refine wpList_store_blk rfl 25 (.tmp 5) (.tmp 29) rfl w2.heap.size (scC none 0 0 none 0 0) (scC A m c A2 m2 c2) 25 rfl rfl (Blk.new _ _ _) rfl (sc_inf _ _ _ _ _ _) (sc_one _ _ _ _ _ _) ?_
       intro w3 k53 nn
       have bb : Below w2.heap.size w2 w3 := ((Below.refl _ w2).alloc (Nat.le_refl _) _).trans (nn.below _ (Nat.le_refl _) (by simp))
       have HSC3 := Lib.hid (H2.out.1.on bb)
       have HB3 := Lib.hid (HB2.out.trans (bb.mono HB2.out.size))
       have HK3 := Lib.hid k53
       clear bb nn k53))
  obtain ⟨b5, hb5⟩ : ∃ b5, b5 = w2.heap.size := ⟨_, rfl⟩
  rw [← hb5] at HK3 ⊢
  have HE : Hid (Tn w (w3.alloc (.map #[] 0)) b5 w3.heap.size 0 A m c (runsN (k0 + 1)) A2 m2 c2 L (fun _ => zNil) (fun _ => [])) := Lib.hid (by
    have hal : Below w3.heap.size w3 (w3.alloc (.map #[] 0)) := (Below.refl _ _).alloc (Nat.le_refl _) _
    have hg : Good (runsN (k0 + 1)) (L.map (·.1)) := by rw [H2.out.2]; exact (good_begun (by omega)).1
    refine ⟨⟨QM.made w3 _ _ _, ⟨fun j _ _ => ⟨_, _, _, rfl, qr_nil _ _⟩, fun i j _ _ _ _ _ A m c A' m' c' e1 _ a a' ea _ => ?_, fun _ _ => rfl⟩, HK3.out.below hal HK3.out.lt, HB3.out.trans (hal.mono HB3.out.size), by rw [hb5]; exact HB2.out.size, HB3.out.size⟩, HSC3.out.on hal, hg, fun j _ _ => ?_⟩
    · injection e1 with e11 _ _
      subst e11
      cases ea
    · rw [H2.out.2]; rfl)
  obtain ⟨bm, hbm⟩ : ∃ bm, bm = w3.heap.size := ⟨_, rfl⟩
  rw [← hbm] at HE ⊢
  generalize w3.alloc (.map #[] 0) = w4 at HE ⊢
  clear hb5 hbm hr8 hr8t hmx8 HB2 H2 HSC3 HB3 HK3
  try go_frame
  go_loopw [33] (fun iv wr' => ∃ (i n : Nat) (V : World) (A : Option Addr) (m c : Nat) (R : List Rn) (A2 : Option Addr) (m2 c2 : Nat) (L : List Kw) (f : Int → Value) (Q : Int → List Int), V = wr' ∧ i ≤ mq ∧ i ≤ 100 ∧ n ≤ i ∧ iv = .int .i64 i ∧ Hid (Tn w V b5 bm n A m c R A2 m2 c2 L f Q)) (fun iv _ => mq - (intOf iv).toNat)
  case atStart => exact ⟨0, 0, _, A, m, c, _, A2, m2, c2, L, _, _, rfl, Nat.zero_le _, Nat.zero_le _, Nat.zero_le _, rfl, HE⟩
  case round =>
    clear HE hmm
    obtain ⟨i, n, V, A, m, c, R, A2, m2, c2, L, f, Q, hwr, hi, hi100, hni, rfl, HE⟩ := hrel
    subst hwr
    by_cases hlt : i < mq
    · have hlt' : (i : Int) < (mq : Int) := by omega
      have hil : i < Lq.length := by have := HMQ.out; omega
      obtain ⟨b, off, rfl, hb, hc⟩ := (HQ.out.below HE.out.md.b (Nat.le_refl _)) i hil
      generalize Lq.getD i rn0 = q at hc
      have hcy : World.rangeAt V b (off + i * 3) [.int .i64 q.i, .int .i64 q.s, .int .i64 q.n] := hc
      clear hc hil
      by_cases h100 : i = 100
      · have h1 : ((i : Int) == 100) = true := by rw [h100]; rfl
        clear h100
        go_wp2_with (first
          | (refine wpList_load_mid rfl 58 (.tmp 36) rfl b (off + i * 3) rfl _ _ hcy Try.underlying58 rfl (act_infL q) ?_)
          | (refine wpList_store_blk rfl 58 (.tmp 8) (.tmp 37) rfl V.heap.size (rnC rn0) (rnC q) 58 rfl rfl (Blk.new _ _ _) rfl (act_inf q) (rn_one q) ?_
             intro V1 kb1 nb
             have HE1 := Lib.hid (HE.out.keep (((Below.refl _ V).alloc (Nat.le_refl _) _).trans (nb.below _ (Nat.le_refl _) (by simp))))
             have k51 := HE1.out.md.k
             have q71 : V1.cell? ⟨V.heap.size, 1, none⟩ = some (.int .i64 q.s) := kb1.cell 1
             clear nb hcy))
        have hb9 := Lib.hid HE1.out.md.b
        go_ret
        exact ⟨rfl, hb9.out⟩
      · have h1 : ((i : Int) == 100) = false := by simp; omega
        have hi99 : i < 100 := by omega
        clear h100
        have HP := Lib.hid (fun (W : World) (hW : Tn w W b5 bm n A m c R A2 m2 c2 L f Q) => hW.pick q.s)
        have HPG := Lib.hid (pick_good HE.out.g q.s)
        obtain ⟨⟨pid, pb⟩, hp⟩ : ∃ p, pickV (rdyA R L) q.s = p := ⟨_, rfl⟩
        rw [hp] at HP HPG
        clear hp
        unfold scV at HP
        simp only at HP
        cases pb
        · go_wp2_with (first
            | (refine wpList_load_mid rfl 58 (.tmp 36) rfl b (off + i * 3) rfl _ _ hcy Try.underlying58 rfl (act_infL q) ?_)
            | (refine wpList_store_blk rfl 58 (.tmp 8) (.tmp 37) rfl V.heap.size (rnC rn0) (rnC q) 58 rfl rfl (Blk.new _ _ _) rfl (act_inf q) (rn_one q) ?_
               intro V1 kb1 nb
               have HE1 := Lib.hid (HE.out.keep (((Below.refl _ V).alloc (Nat.le_refl _) _).trans (nb.below _ (Nat.le_refl _) (by simp))))
               have k51 := HE1.out.md.k
               have q71 : V1.cell? ⟨V.heap.size, 1, none⟩ = some (.int .i64 q.s) := kb1.cell 1
               clear nb hcy)
            | (refine wpList_load_row rfl 25 (.tmp 5) rfl (b5) rfl 25 (scC A m c A2 m2 c2) (0, 0) _ k51.blk Try.underlying25 rfl (sc_inf _ _ _ _ _ _) ?_)
            | (refine (HP.out _ HE1.out).mono ?_
               clear HP
               rintro e V2 ⟨rfl, bb⟩
               have HE2 := Lib.hid (HE1.out.keep bb)
               have k52 := HE2.out.md.k
               have kb2 := kb1.below bb kb1.lt
               have q70 : V2.cell? ⟨V.heap.size, 0, none⟩ = some (.int .i64 q.i) := kb2.cell 0
               have q72 : V2.cell? ⟨V.heap.size, 2, none⟩ = some (.int .i64 q.n) := kb2.cell 2
               clear bb q71 kb1 k51))
          have hb9 := Lib.hid HE2.out.md.b
          go_ret
          exact ⟨rfl, hb9.out⟩
        · obtain ⟨x, hx, hs, hxi⟩ := HPG.out.1 rfl
          have hxi : x.i = pid := hxi
          subst hxi
          have HX := Lib.hid (And.intro hx hs)
          clear hx hs HPG
          obtain ⟨lk, hlk, hr5, hr5t⟩ := rem_nat q.n 5 (by decide)
          have hmx : (0 : Int) ≤ max q.n 0 := by omega
          obtain ⟨kr, kd, hk1, hk2, hk3, hk4, hk5, hkd⟩ := kind3 q.i
          obtain ⟨A3, m3, c3, hfl, hql⟩ := HE.out.queue (j := (lk : Int) + 1) (by omega) (by omega)
          have HF3 := Lib.hid hfl
          have HQL := Lib.hid (HE.out.sc.qlim ((lk : Int) + 1))
          have hm3 := hql.len
          rcases hkd with rfl | rfl | rfl
          · obtain ⟨y, hy⟩ : ∃ y, y = takeR R L x.i ((lk : Int) + 1) := ⟨_, rfl⟩
            have HTT := Lib.hid (take_turn HE.out.g HX.out.1 HX.out.2 (n := (lk : Int) + 1) (by omega))
            have HT := Lib.hid (fun (W : World) (hW : Tn w W b5 bm n A m c R A2 m2 c2 L f Q) => take_sc A m c R A2 m2 c2 L x.i ((lk : Int) + 1) W hW.sc)
            rw [← hy] at HT HTT
            obtain ⟨yr, yk, ye⟩ := y
            obtain ⟨ow, how⟩ : ∃ ow, takeO R L x.i ((lk : Int) + 1) = ow := ⟨_, rfl⟩
            rw [how] at HT HTT
            simp only at HT HTT
            unfold scV at HT
            clear how hy
            rcases HTT.out with ⟨⟨t, ht⟩, rfl⟩ | ⟨rfl, hgd, how, hqs⟩
            · have HO := Lib.hid (fun (W : World) (hW : Tn w W b5 bm n A m c R A2 m2 c2 L f Q) => hW.owner ((lk : Int) + 1))
              rw [ht] at HO
              unfold scV at HO
              clear HTT hql hm3 hfl
              go_wp2_with (first
                | (refine wpList_load_mid rfl 58 (.tmp 36) rfl b (off + i * 3) rfl _ _ hcy Try.underlying58 rfl (act_infL q) ?_)
                | (refine wpList_store_blk rfl 58 (.tmp 8) (.tmp 37) rfl V.heap.size (rnC rn0) (rnC q) 58 rfl rfl (Blk.new _ _ _) rfl (act_inf q) (rn_one q) ?_
                   intro V1 kb1 nb
                   have HE1 := Lib.hid (HE.out.keep (((Below.refl _ V).alloc (Nat.le_refl _) _).trans (nb.below _ (Nat.le_refl _) (by simp))))
                   have k51 := HE1.out.md.k
                   have q71 : V1.cell? ⟨V.heap.size, 1, none⟩ = some (.int .i64 q.s) := kb1.cell 1
                   clear nb hcy)
                | (refine wpList_load_row rfl 25 (.tmp 5) rfl (b5) rfl 25 (scC A m c A2 m2 c2) (0, 0) _ k51.blk Try.underlying25 rfl (sc_inf _ _ _ _ _ _) ?_)
                | (refine (HP.out _ HE1.out).mono ?_
                   clear HP
                   rintro e V2 ⟨rfl, bb⟩
                   have HE2 := Lib.hid (HE1.out.keep bb)
                   have k52 := HE2.out.md.k
                   have kb2 := kb1.below bb kb1.lt
                   have q70 : V2.cell? ⟨V.heap.size, 0, none⟩ = some (.int .i64 q.i) := kb2.cell 0
                   have q72 : V2.cell? ⟨V.heap.size, 2, none⟩ = some (.int .i64 q.n) := kb2.cell 2
                   clear bb q71 kb1 k51)
                | (refine wpList_load_row rfl 25 (.tmp 5) rfl (b5) rfl 25 (scC A m c A2 m2 c2) (0, 0) _ k52.blk Try.underlying25 rfl (sc_inf _ _ _ _ _ _) ?_)
                | (refine (HT.out _ HE2.out).mono ?_
                   clear HT
                   rintro e V4 ⟨v, rfl, ⟨A5, m5, c5, A6, m6, c6, L5, rfl, sc5, hn5, fr5⟩, bb⟩
                   have hFb : b5 < V2.heap.size := k52.lt
                   have H5 := Lib.hid (show Sd V4 V2.heap.size A5 m5 c5 _ A6 m6 c6 L5 from ⟨sc5, fr5⟩)
                   have HN5 := Lib.hid hn5
                   have HE4 := Lib.hid (HE2.out.keep bb)
                   have hbmF : bm < V2.heap.size := HE2.out.md.q.lt
                   have HA3 := Lib.hid (HE2.out.md.queue (by omega) (by omega) HF3.out).blk_lt
                   have hV4 : V2.heap.size ≤ V4.heap.size := bb.size
                   clear sc5 hn5 fr5 bb k52 q70 q72
                   unfold scV)
                | (refine wpList_store_blk rfl 25 (.tmp 12) (.tmp 66) rfl V4.heap.size (scC none 0 0 none 0 0) (scC A5 m5 c5 A6 m6 c6) 25 rfl rfl (Blk.new _ _ _) rfl (sc_inf _ _ _ _ _ _) (sc_one _ _ _ _ _ _) ?_
                   intro V5 kt5 nn
                   have bb : Below V4.heap.size V4 V5 := ((Below.refl _ V4).alloc (Nat.le_refl _) _).trans (nn.below _ (Nat.le_refl _) (by simp))
                   have H6 := Lib.hid (H5.out.grown (gb_below bb) (fun g e => by cases e))
                   have HE5 := Lib.hid (HE4.out.keep bb)
                   have k55 := HE5.out.md.k
                   clear bb nn H5)
                | (refine wpList_load_row rfl 25 (.tmp 5) rfl (b5) rfl 25 (scC A m c A2 m2 c2) (0, 0) _ k55.blk Try.underlying25 rfl (sc_inf _ _ _ _ _ _) ?_)
                | (refine (HO.out _ HE5.out).mono ?_
                   clear HO
                   rintro e V6 ⟨rfl, bb⟩
                   have HE6 := Lib.hid (HE5.out.keep bb)
                   clear bb))
              go_roundw
              case rel => exact ⟨i + 1, n, _, A, m, c, R, A2, m2, c2, L, f, Q, rfl, by omega, by omega, by omega, by go_num, HE6⟩
              case measure => simp [intOf]; omega
            · have HG := Lib.hid (And.intro hgd hqs)
              clear hgd hqs HTT
              have hm3b : m3 ≤ 2000000 := by have := HQL.out; omega
              have hob : (((m3 : Int) + 1) == 1) = ow := by
                rw [how, hm3]
                rcases qN (L.map (·.1)) ((lk : Int) + 1) with _ | ⟨i0, t⟩
                · rfl
                · simp only [List.length_cons, List.isEmpty_cons]; simp; omega
              clear how hm3 hfl
              cases ow
              · go_wp2_with (first
                  | (refine wpList_load_mid rfl 58 (.tmp 36) rfl b (off + i * 3) rfl _ _ hcy Try.underlying58 rfl (act_infL q) ?_)
                  | (refine wpList_store_blk rfl 58 (.tmp 8) (.tmp 37) rfl V.heap.size (rnC rn0) (rnC q) 58 rfl rfl (Blk.new _ _ _) rfl (act_inf q) (rn_one q) ?_
                     intro V1 kb1 nb
                     have HE1 := Lib.hid (HE.out.keep (((Below.refl _ V).alloc (Nat.le_refl _) _).trans (nb.below _ (Nat.le_refl _) (by simp))))
                     have k51 := HE1.out.md.k
                     have q71 : V1.cell? ⟨V.heap.size, 1, none⟩ = some (.int .i64 q.s) := kb1.cell 1
                     clear nb hcy)
                  | (refine wpList_load_row rfl 25 (.tmp 5) rfl (b5) rfl 25 (scC A m c A2 m2 c2) (0, 0) _ k51.blk Try.underlying25 rfl (sc_inf _ _ _ _ _ _) ?_)
                  | (refine (HP.out _ HE1.out).mono ?_
                     clear HP
                     rintro e V2 ⟨rfl, bb⟩
                     have HE2 := Lib.hid (HE1.out.keep bb)
                     have k52 := HE2.out.md.k
                     have kb2 := kb1.below bb kb1.lt
                     have q70 : V2.cell? ⟨V.heap.size, 0, none⟩ = some (.int .i64 q.i) := kb2.cell 0
                     have q72 : V2.cell? ⟨V.heap.size, 2, none⟩ = some (.int .i64 q.n) := kb2.cell 2
                     clear bb q71 kb1 k51)
                  | (refine wpList_load_row rfl 25 (.tmp 5) rfl (b5) rfl 25 (scC A m c A2 m2 c2) (0, 0) _ k52.blk Try.underlying25 rfl (sc_inf _ _ _ _ _ _) ?_)
                  | (refine (HT.out _ HE2.out).mono ?_
                     clear HT
                     rintro e V4 ⟨v, rfl, ⟨A5, m5, c5, A6, m6, c6, L5, rfl, sc5, hn5, fr5⟩, bb⟩
                     have hFb : b5 < V2.heap.size := k52.lt
                     have H5 := Lib.hid (show Sd V4 V2.heap.size A5 m5 c5 _ A6 m6 c6 L5 from ⟨sc5, fr5⟩)
                     have HN5 := Lib.hid hn5
                     have HE4 := Lib.hid (HE2.out.keep bb)
                     have hbmF : bm < V2.heap.size := HE2.out.md.q.lt
                     have HA3 := Lib.hid (HE2.out.md.queue (by omega) (by omega) HF3.out).blk_lt
                     have hV4 : V2.heap.size ≤ V4.heap.size := bb.size
                     clear sc5 hn5 fr5 bb k52 q70 q72
                     unfold scV)
                  | (refine wpList_store_blk rfl 25 (.tmp 12) (.tmp 66) rfl V4.heap.size (scC none 0 0 none 0 0) (scC A5 m5 c5 A6 m6 c6) 25 rfl rfl (Blk.new _ _ _) rfl (sc_inf _ _ _ _ _ _) (sc_one _ _ _ _ _ _) ?_
                     intro V5 kt5 nn
                     have bb : Below V4.heap.size V4 V5 := ((Below.refl _ V4).alloc (Nat.le_refl _) _).trans (nn.below _ (Nat.le_refl _) (by simp))
                     have H6 := Lib.hid (H5.out.grown (gb_below bb) (fun g e => by cases e))
                     have HE5 := Lib.hid (HE4.out.keep bb)
                     have k55 := HE5.out.md.k
                     clear bb nn H5)
                  | (at_lookup; refine wpList_lookQ rfl (.tmp 78) (.tmp 79) rfl bm n _ rfl HE5.out.md.q _ rfl (by omega) (by omega) _ HF3.out ?_)
                  | (at_builtin; refine wpList_appQ rfl (.tmp 80) (.tmp 82) rfl w.heap.size A3 m3 c3 _ rfl ((HE5.out.md.queue (by omega) (by omega) HF3.out).below ((Below.refl V5.heap.size V5).alloc (Nat.le_refl _) _) (Nat.le_refl _)) V5.heap.size x.i rfl ((Blk.new V5 #[.int .i64 x.i] 3).cell 0) hm3b (by have := HE5.out.md.b.size; simp; omega) ?_
                     intro A7 c7 V7 hq7 hg7 hl7
                     have HG7 := Lib.hid (show V5.grownBy V7 (A3.map (·.block)) from (World.grownBy_alloc V5 _ _).trans hg7)
                     have HL7 := Lib.hid (show A7.map (·.block) = A3.map (·.block) ∨ ∃ g, A7.map (·.block) = some g ∧ V5.heap.size ≤ g from hl7.imp id (fun ⟨g, e, h⟩ => ⟨g, e, by simp at h; omega⟩))
                     have HQ7 := Lib.hid hq7
                     have HM7 := Lib.hid (HE5.out.md.mapAt (by omega) (by omega) HF3.out HG7.out)
                     clear hq7 hg7 hl7)
                  | (at_mapUpdate; refine wpList_storeQ _ rfl (.tmp 76) (.tmp 77) (.tmp 83) 56 rfl keyI Try.underlying3 Try.underlying56 rfl HM7.out (by simp only [maxLen]; omega) _ rfl (wf5 (by omega) (by omega)) _ rfl ?_
                     intro V8 hq8 hg8
                     have HM8 := Lib.hid (HE5.out.md.stored (by omega) (by omega) HF3.out HG7.out HQ7.out HL7.out hq8 hg8)
                     have HS8 := Lib.hid ((H6.out.grown HG7.out HA3.out).grown hg8 (fun g e => by cases e; exact hbmF))
                     have k58 := HM8.out.k
                     have kt8 : Blk V8 V4.heap.size (scC A5 m5 c5 A6 m6 c6) 25 := HE5.out.md.box (by omega) (by omega) HF3.out HG7.out hg8 kt5
                     clear hq8 hg8 kt5 k55)
                  | (at_lookup; refine wpList_lookQ rfl (.tmp 85) (.tmp 86) rfl bm (n + 1) _ rfl HM8.out.q _ rfl (by omega) (by omega) (.slice A7 (m3 + 1) c7) (if_pos rfl) ?_)
                  | (refine wpList_load_row rfl 25 (.tmp 12) rfl (V4.heap.size) rfl 25 (scC A5 m5 c5 A6 m6 c6) (0, 0) _ kt8.blk Try.underlying25 rfl (sc_inf _ _ _ _ _ _) ?_)
                  | (refine wpList_store_blk rfl 25 (.tmp 5) (.tmp 91) rfl b5 (scC A m c A2 m2 c2) (scC A5 m5 c5 A6 m6 c6) 25 rfl rfl k58 rfl (sc_inf _ _ _ _ _ _) (sc_one _ _ _ _ _ _) ?_
                     intro V9 k59 n9
                     have HE9 := Lib.hid (HM8.out.tn HS8.out hFb n9 k59 (by rw [HN5.out]; exact HG.out.1) (by rw [HN5.out]; intro j h1 h5; rw [HG.out.2 j]; by_cases e : j = (lk : Int) + 1 <;> simp only [e, ↓reduceIte] <;> first | rw [HE5.out.q _ (by omega) (by omega)] | exact HE5.out.q j h1 h5))
                     have k59 := HE9.out.md.k
                     clear n9 k58)
                  | (refine wpList_load_row rfl 25 (.tmp 5) rfl (b5) rfl 25 (scC A5 m5 c5 A6 m6 c6) (0, 0) _ k59.blk Try.underlying25 rfl (sc_inf _ _ _ _ _ _) ?_)
                  | (refine HE9.out.check.mono ?_
                     rintro e VA ⟨rfl, bb⟩
                     have HEA := Lib.hid (HE9.out.keep bb)
                     clear bb k59 HE9))
                go_loopw [21] (fun kv wr' => ∃ (k : Nat) (W : World), W = wr' ∧ k ≤ 5 ∧ kv = .int .i64 ((k : Int) + 1) ∧ Hid (Tn w W b5 bm (n + 1) A5 m5 c5 _ A6 m6 c6 L5 (fun j => if j = (lk : Int) + 1 then .slice A7 (m3 + 1) c7 else f j) (fun j => if j = (lk : Int) + 1 then Q ((lk : Int) + 1) ++ [x.i] else Q j))) (fun kv _ => 6 - (intOf kv).toNat)
                case atStart => exact ⟨0, _, rfl, Nat.zero_le _, rfl, HEA⟩
                case round =>
                  clear HEA
                  obtain ⟨k, W, hwk, hk5, rfl, HW⟩ := hrel
                  subst hwk
                  by_cases hlk5 : k < 5
                  · have hle : (k : Int) + 1 ≤ 5 := by omega
                    obtain ⟨A8, m8, c8, hf8, hq8⟩ := HW.out.queue (j := (k : Int) + 1) (by omega) (by omega)
                    have HO := Lib.hid (fun (W' : World) (hb : Below W.heap.size W W') => (HW.out.keep hb).owner ((k : Int) + 1))
                    have h8 := hq8.len
                    have HF8 := Lib.hid hf8
                    clear hf8
                    have kw := HW.out.md.k
                    have hqm := HW.out.md.q
                    obtain ⟨l8, hl8⟩ : ∃ l, qN (L5.map (·.1)) ((k : Int) + 1) = l := ⟨_, rfl⟩
                    rw [hl8] at HO hq8 h8
                    clear hl8
                    unfold scV at HO
                    cases l8 with
                    | nil =>
                      have hz8 : ¬ (0 < m8) := by rw [h8]; decide
                      clear hq8 h8
                      go_wp2_with (first
                        | (at_lookup; refine wpList_lookQ rfl (.tmp 166) (.tmp 167) rfl bm (n + 1) _ rfl hqm _ rfl (by omega) (by omega) _ HF8.out ?_)
                        | (refine wpList_load_row rfl 25 (.tmp 5) rfl (b5) rfl 25 (scC A5 m5 c5 A6 m6 c6) (0, 0) _ kw.blk Try.underlying25 rfl (sc_inf _ _ _ _ _ _) ?_)
                        | (refine (HO.out _ (Below.refl _ _)).mono ?_
                           clear HO
                           rintro e W1 ⟨rfl, bb⟩
                           have HW1 := Lib.hid (HW.out.keep bb)
                           clear bb))
                      go_roundw
                      case rel => exact ⟨k + 1, _, rfl, by omega, by go_num, HW1⟩
                      case measure => simp [intOf]; omega
                    | cons i0 t =>
                      obtain ⟨g8, o8, rfl, hc8⟩ := hq8.cell (j := 0) (by rw [h8]; simp)
                      have hc8 : W.cell? ⟨g8, o8, none⟩ = some (.int .i64 i0) := hc8
                      have hm8 : 0 < m8 := by rw [h8]; simp
                      have hm8' : (0 : Int) < (m8 : Int) := by omega
                      clear hq8 h8
                      go_wp2_with (first
                        | (at_lookup; refine wpList_lookQ rfl (.tmp 166) (.tmp 167) rfl bm (n + 1) _ rfl hqm _ rfl (by omega) (by omega) _ HF8.out ?_)
                        | (at_lookup; refine wpList_lookQ rfl (.tmp 171) (.tmp 172) rfl bm (n + 1) _ rfl hqm _ rfl (by omega) (by omega) _ HF8.out ?_)
                        | (refine wpList_load_row rfl 25 (.tmp 5) rfl (b5) rfl 25 (scC A5 m5 c5 A6 m6 c6) (0, 0) _ kw.blk Try.underlying25 rfl (sc_inf _ _ _ _ _ _) ?_)
                        | (refine (HO.out _ (Below.refl _ _)).mono ?_
                           clear HO
                           rintro e W1 ⟨rfl, bb⟩
                           have HW1 := Lib.hid (HW.out.keep bb)
                           clear bb))
                      go_roundw
                      case rel => exact ⟨k + 1, _, rfl, by omega, by go_num, HW1⟩
                      case measure => simp [intOf]; omega
                  · have hgt : ¬ ((k : Int) + 1 ≤ 5) := by omega
                    clear hlk5
                    go_wp2_with fail
                    go_roundw
                    case rel => exact ⟨i + 1, (n + 1), _, A5, m5, c5, _, A6, m6, c6, L5, _, _, rfl, by omega, by omega, by omega, by go_num, HW⟩
                    case measure => simp [intOf]; omega
              · go_wp2_with (first
                  | (refine wpList_load_mid rfl 58 (.tmp 36) rfl b (off + i * 3) rfl _ _ hcy Try.underlying58 rfl (act_infL q) ?_)
                  | (refine wpList_store_blk rfl 58 (.tmp 8) (.tmp 37) rfl V.heap.size (rnC rn0) (rnC q) 58 rfl rfl (Blk.new _ _ _) rfl (act_inf q) (rn_one q) ?_
                     intro V1 kb1 nb
                     have HE1 := Lib.hid (HE.out.keep (((Below.refl _ V).alloc (Nat.le_refl _) _).trans (nb.below _ (Nat.le_refl _) (by simp))))
                     have k51 := HE1.out.md.k
                     have q71 : V1.cell? ⟨V.heap.size, 1, none⟩ = some (.int .i64 q.s) := kb1.cell 1
                     clear nb hcy)
                  | (refine wpList_load_row rfl 25 (.tmp 5) rfl (b5) rfl 25 (scC A m c A2 m2 c2) (0, 0) _ k51.blk Try.underlying25 rfl (sc_inf _ _ _ _ _ _) ?_)
                  | (refine (HP.out _ HE1.out).mono ?_
                     clear HP
                     rintro e V2 ⟨rfl, bb⟩
                     have HE2 := Lib.hid (HE1.out.keep bb)
                     have k52 := HE2.out.md.k
                     have kb2 := kb1.below bb kb1.lt
                     have q70 : V2.cell? ⟨V.heap.size, 0, none⟩ = some (.int .i64 q.i) := kb2.cell 0
                     have q72 : V2.cell? ⟨V.heap.size, 2, none⟩ = some (.int .i64 q.n) := kb2.cell 2
                     clear bb q71 kb1 k51)
                  | (refine wpList_load_row rfl 25 (.tmp 5) rfl (b5) rfl 25 (scC A m c A2 m2 c2) (0, 0) _ k52.blk Try.underlying25 rfl (sc_inf _ _ _ _ _ _) ?_)
                  | (refine (HT.out _ HE2.out).mono ?_
                     clear HT
                     rintro e V4 ⟨v, rfl, ⟨A5, m5, c5, A6, m6, c6, L5, rfl, sc5, hn5, fr5⟩, bb⟩
                     have hFb : b5 < V2.heap.size := k52.lt
                     have H5 := Lib.hid (show Sd V4 V2.heap.size A5 m5 c5 _ A6 m6 c6 L5 from ⟨sc5, fr5⟩)
                     have HN5 := Lib.hid hn5
                     have HE4 := Lib.hid (HE2.out.keep bb)
                     have hbmF : bm < V2.heap.size := HE2.out.md.q.lt
                     have HA3 := Lib.hid (HE2.out.md.queue (by omega) (by omega) HF3.out).blk_lt
                     have hV4 : V2.heap.size ≤ V4.heap.size := bb.size
                     clear sc5 hn5 fr5 bb k52 q70 q72
                     unfold scV)
                  | (refine wpList_store_blk rfl 25 (.tmp 12) (.tmp 66) rfl V4.heap.size (scC none 0 0 none 0 0) (scC A5 m5 c5 A6 m6 c6) 25 rfl rfl (Blk.new _ _ _) rfl (sc_inf _ _ _ _ _ _) (sc_one _ _ _ _ _ _) ?_
                     intro V5 kt5 nn
                     have bb : Below V4.heap.size V4 V5 := ((Below.refl _ V4).alloc (Nat.le_refl _) _).trans (nn.below _ (Nat.le_refl _) (by simp))
                     have H6 := Lib.hid (H5.out.grown (gb_below bb) (fun g e => by cases e))
                     have HE5 := Lib.hid (HE4.out.keep bb)
                     have k55 := HE5.out.md.k
                     clear bb nn H5)
                  | (at_lookup; refine wpList_lookQ rfl (.tmp 78) (.tmp 79) rfl bm n _ rfl HE5.out.md.q _ rfl (by omega) (by omega) _ HF3.out ?_)
                  | (at_builtin; refine wpList_appQ rfl (.tmp 80) (.tmp 82) rfl w.heap.size A3 m3 c3 _ rfl ((HE5.out.md.queue (by omega) (by omega) HF3.out).below ((Below.refl V5.heap.size V5).alloc (Nat.le_refl _) _) (Nat.le_refl _)) V5.heap.size x.i rfl ((Blk.new V5 #[.int .i64 x.i] 3).cell 0) hm3b (by have := HE5.out.md.b.size; simp; omega) ?_
                     intro A7 c7 V7 hq7 hg7 hl7
                     have HG7 := Lib.hid (show V5.grownBy V7 (A3.map (·.block)) from (World.grownBy_alloc V5 _ _).trans hg7)
                     have HL7 := Lib.hid (show A7.map (·.block) = A3.map (·.block) ∨ ∃ g, A7.map (·.block) = some g ∧ V5.heap.size ≤ g from hl7.imp id (fun ⟨g, e, h⟩ => ⟨g, e, by simp at h; omega⟩))
                     have HQ7 := Lib.hid hq7
                     have HM7 := Lib.hid (HE5.out.md.mapAt (by omega) (by omega) HF3.out HG7.out)
                     clear hq7 hg7 hl7)
                  | (at_mapUpdate; refine wpList_storeQ _ rfl (.tmp 76) (.tmp 77) (.tmp 83) 56 rfl keyI Try.underlying3 Try.underlying56 rfl HM7.out (by simp only [maxLen]; omega) _ rfl (wf5 (by omega) (by omega)) _ rfl ?_
                     intro V8 hq8 hg8
                     have HM8 := Lib.hid (HE5.out.md.stored (by omega) (by omega) HF3.out HG7.out HQ7.out HL7.out hq8 hg8)
                     have HS8 := Lib.hid ((H6.out.grown HG7.out HA3.out).grown hg8 (fun g e => by cases e; exact hbmF))
                     have k58 := HM8.out.k
                     have kt8 : Blk V8 V4.heap.size (scC A5 m5 c5 A6 m6 c6) 25 := HE5.out.md.box (by omega) (by omega) HF3.out HG7.out hg8 kt5
                     clear hq8 hg8 kt5 k55)
                  | (at_lookup; refine wpList_lookQ rfl (.tmp 85) (.tmp 86) rfl bm (n + 1) _ rfl HM8.out.q _ rfl (by omega) (by omega) (.slice A7 (m3 + 1) c7) (if_pos rfl) ?_)
                  | (refine wpList_load_row rfl 25 (.tmp 12) rfl (V4.heap.size) rfl 25 (scC A5 m5 c5 A6 m6 c6) (0, 0) _ kt8.blk Try.underlying25 rfl (sc_inf _ _ _ _ _ _) ?_)
                  | (refine wpList_store_blk rfl 25 (.tmp 5) (.tmp 91) rfl b5 (scC A m c A2 m2 c2) (scC A5 m5 c5 A6 m6 c6) 25 rfl rfl k58 rfl (sc_inf _ _ _ _ _ _) (sc_one _ _ _ _ _ _) ?_
                     intro V9 k59 n9
                     have HE9 := Lib.hid (HM8.out.tn HS8.out hFb n9 k59 (by rw [HN5.out]; exact HG.out.1) (by rw [HN5.out]; intro j h1 h5; rw [HG.out.2 j]; by_cases e : j = (lk : Int) + 1 <;> simp only [e, ↓reduceIte] <;> first | rw [HE5.out.q _ (by omega) (by omega)] | exact HE5.out.q j h1 h5))
                     have k59 := HE9.out.md.k
                     clear n9 k58)
                  | (refine wpList_load_row rfl 25 (.tmp 5) rfl (b5) rfl 25 (scC A5 m5 c5 A6 m6 c6) (0, 0) _ k59.blk Try.underlying25 rfl (sc_inf _ _ _ _ _ _) ?_)
                  | (refine HE9.out.check.mono ?_
                     rintro e VA ⟨rfl, bb⟩
                     have HEA := Lib.hid (HE9.out.keep bb)
                     clear bb k59 HE9))
                go_loopw [21] (fun kv wr' => ∃ (k : Nat) (W : World), W = wr' ∧ k ≤ 5 ∧ kv = .int .i64 ((k : Int) + 1) ∧ Hid (Tn w W b5 bm (n + 1) A5 m5 c5 _ A6 m6 c6 L5 (fun j => if j = (lk : Int) + 1 then .slice A7 (m3 + 1) c7 else f j) (fun j => if j = (lk : Int) + 1 then Q ((lk : Int) + 1) ++ [x.i] else Q j))) (fun kv _ => 6 - (intOf kv).toNat)
                case atStart => exact ⟨0, _, rfl, Nat.zero_le _, rfl, HEA⟩
                case round =>
                  clear HEA
                  obtain ⟨k, W, hwk, hk5, rfl, HW⟩ := hrel
                  subst hwk
                  by_cases hlk5 : k < 5
                  · have hle : (k : Int) + 1 ≤ 5 := by omega
                    obtain ⟨A8, m8, c8, hf8, hq8⟩ := HW.out.queue (j := (k : Int) + 1) (by omega) (by omega)
                    have HO := Lib.hid (fun (W' : World) (hb : Below W.heap.size W W') => (HW.out.keep hb).owner ((k : Int) + 1))
                    have h8 := hq8.len
                    have HF8 := Lib.hid hf8
                    clear hf8
                    have kw := HW.out.md.k
                    have hqm := HW.out.md.q
                    obtain ⟨l8, hl8⟩ : ∃ l, qN (L5.map (·.1)) ((k : Int) + 1) = l := ⟨_, rfl⟩
                    rw [hl8] at HO hq8 h8
                    clear hl8
                    unfold scV at HO
                    cases l8 with
                    | nil =>
                      have hz8 : ¬ (0 < m8) := by rw [h8]; decide
                      clear hq8 h8
                      go_wp2_with (first
                        | (at_lookup; refine wpList_lookQ rfl (.tmp 166) (.tmp 167) rfl bm (n + 1) _ rfl hqm _ rfl (by omega) (by omega) _ HF8.out ?_)
                        | (refine wpList_load_row rfl 25 (.tmp 5) rfl (b5) rfl 25 (scC A5 m5 c5 A6 m6 c6) (0, 0) _ kw.blk Try.underlying25 rfl (sc_inf _ _ _ _ _ _) ?_)
                        | (refine (HO.out _ (Below.refl _ _)).mono ?_
                           clear HO
                           rintro e W1 ⟨rfl, bb⟩
                           have HW1 := Lib.hid (HW.out.keep bb)
                           clear bb))
                      go_roundw
                      case rel => exact ⟨k + 1, _, rfl, by omega, by go_num, HW1⟩
                      case measure => simp [intOf]; omega
                    | cons i0 t =>
                      obtain ⟨g8, o8, rfl, hc8⟩ := hq8.cell (j := 0) (by rw [h8]; simp)
                      have hc8 : W.cell? ⟨g8, o8, none⟩ = some (.int .i64 i0) := hc8
                      have hm8 : 0 < m8 := by rw [h8]; simp
                      have hm8' : (0 : Int) < (m8 : Int) := by omega
                      clear hq8 h8
                      go_wp2_with (first
                        | (at_lookup; refine wpList_lookQ rfl (.tmp 166) (.tmp 167) rfl bm (n + 1) _ rfl hqm _ rfl (by omega) (by omega) _ HF8.out ?_)
                        | (at_lookup; refine wpList_lookQ rfl (.tmp 171) (.tmp 172) rfl bm (n + 1) _ rfl hqm _ rfl (by omega) (by omega) _ HF8.out ?_)
                        | (refine wpList_load_row rfl 25 (.tmp 5) rfl (b5) rfl 25 (scC A5 m5 c5 A6 m6 c6) (0, 0) _ kw.blk Try.underlying25 rfl (sc_inf _ _ _ _ _ _) ?_)
                        | (refine (HO.out _ (Below.refl _ _)).mono ?_
                           clear HO
                           rintro e W1 ⟨rfl, bb⟩
                           have HW1 := Lib.hid (HW.out.keep bb)
                           clear bb))
                      go_roundw
                      case rel => exact ⟨k + 1, _, rfl, by omega, by go_num, HW1⟩
                      case measure => simp [intOf]; omega
                  · have hgt : ¬ ((k : Int) + 1 ≤ 5) := by omega
                    clear hlk5
                    go_wp2_with fail
                    go_roundw
                    case rel => exact ⟨i + 1, (n + 1), _, A5, m5, c5, _, A6, m6, c6, L5, _, _, rfl, by omega, by omega, by omega, by go_num, HW⟩
                    case measure => simp [intOf]; omega
          · obtain ⟨y, hy⟩ : ∃ y, y = giveR R L x.i ((lk : Int) + 1) := ⟨_, rfl⟩
            have HTT := Lib.hid (give_turn HE.out.g HX.out.1 HX.out.2 ((lk : Int) + 1))
            have HT := Lib.hid (fun (W : World) (hW : Tn w W b5 bm n A m c R A2 m2 c2 L f Q) => give_pub A m c R A2 m2 c2 L x.i ((lk : Int) + 1) W hW.sc)
            rw [← hy] at HT HTT
            obtain ⟨yr, yk, ye⟩ := y
            simp only at HT HTT
            unfold scV at HT
            clear hy
            rcases HTT.out with ⟨⟨t, ht⟩, rfl, hgd, hqs⟩ | ⟨hno, hne⟩
            · have HG := Lib.hid (And.intro hgd hqs)
              have HTQ := Lib.hid ht
              clear hgd hqs HTT HQL
              rw [ht] at hm3 hql
              rw [List.length_cons] at hm3
              subst hm3
              obtain ⟨g3, o3, rfl, _⟩ := hql.cell (j := 0) (by omega)
              obtain ⟨c4, rfl⟩ : ∃ c4, c3 = c4 + 1 := ⟨c3 - 1, by have := hql.le; omega⟩
              have HCL := Lib.hid (fun (W : World) (hW : Tn w W b5 bm n A m c R A2 m2 c2 L f Q) => hW.cell0 (by omega) (by omega) HF3.out HTQ.out)
              have htl : (0 : Int) < ((t.length + 1 : Nat) : Int) := by omega
              clear hfl ht hql
              go_wp2_with (first
                | (refine wpList_load_mid rfl 58 (.tmp 36) rfl b (off + i * 3) rfl _ _ hcy Try.underlying58 rfl (act_infL q) ?_)
                | (refine wpList_store_blk rfl 58 (.tmp 8) (.tmp 37) rfl V.heap.size (rnC rn0) (rnC q) 58 rfl rfl (Blk.new _ _ _) rfl (act_inf q) (rn_one q) ?_
                   intro V1 kb1 nb
                   have HE1 := Lib.hid (HE.out.keep (((Below.refl _ V).alloc (Nat.le_refl _) _).trans (nb.below _ (Nat.le_refl _) (by simp))))
                   have k51 := HE1.out.md.k
                   have q71 : V1.cell? ⟨V.heap.size, 1, none⟩ = some (.int .i64 q.s) := kb1.cell 1
                   clear nb hcy)
                | (refine wpList_load_row rfl 25 (.tmp 5) rfl (b5) rfl 25 (scC A m c A2 m2 c2) (0, 0) _ k51.blk Try.underlying25 rfl (sc_inf _ _ _ _ _ _) ?_)
                | (refine (HP.out _ HE1.out).mono ?_
                   clear HP
                   rintro e V2 ⟨rfl, bb⟩
                   have HE2 := Lib.hid (HE1.out.keep bb)
                   have k52 := HE2.out.md.k
                   have kb2 := kb1.below bb kb1.lt
                   have q70 : V2.cell? ⟨V.heap.size, 0, none⟩ = some (.int .i64 q.i) := kb2.cell 0
                   have q72 : V2.cell? ⟨V.heap.size, 2, none⟩ = some (.int .i64 q.n) := kb2.cell 2
                   clear bb q71 kb1 k51)
                | (refine wpList_load_row rfl 25 (.tmp 5) rfl (b5) rfl 25 (scC A m c A2 m2 c2) (0, 0) _ k52.blk Try.underlying25 rfl (sc_inf _ _ _ _ _ _) ?_)
                | (refine (HT.out _ HE2.out).mono ?_
                   clear HT
                   rintro e V4 ⟨v, rfl, ⟨A5, m5, c5, A6, m6, c6, L5, rfl, sc5, hn5, fr5⟩, bb⟩
                   have hFb : b5 < V2.heap.size := k52.lt
                   have H5 := Lib.hid (show Sd V4 V2.heap.size A5 m5 c5 _ A6 m6 c6 L5 from ⟨sc5, fr5⟩)
                   have HN5 := Lib.hid hn5
                   have HE4 := Lib.hid (HE2.out.keep bb)
                   have hbmF : bm < V2.heap.size := HE2.out.md.q.lt
                   have HA3 := Lib.hid (HE2.out.md.queue (by omega) (by omega) HF3.out).blk_lt
                   have hV4 : V2.heap.size ≤ V4.heap.size := bb.size
                   clear sc5 hn5 fr5 bb k52 q70 q72
                   unfold scV)
                | (refine wpList_store_blk rfl 25 (.tmp 15) (.tmp 99) rfl V4.heap.size (scC none 0 0 none 0 0) (scC A5 m5 c5 A6 m6 c6) 25 rfl rfl (Blk.new _ _ _) rfl (sc_inf _ _ _ _ _ _) (sc_one _ _ _ _ _ _) ?_
                   intro V5 kt5 nn
                   have bb : Below V4.heap.size V4 V5 := ((Below.refl _ V4).alloc (Nat.le_refl _) _).trans (nn.below _ (Nat.le_refl _) (by simp))
                   have H6 := Lib.hid (H5.out.grown (gb_below bb) (fun g e => by cases e))
                   have HE5 := Lib.hid (HE4.out.keep bb)
                   have k55 := HE5.out.md.k
                   have q30 := HCL.out _ HE5.out
                   clear bb nn H5)
                | (at_lookup; refine wpList_lookQ rfl (.tmp 103) (.tmp 104) rfl bm n _ rfl HE5.out.md.q _ rfl (by omega) (by omega) _ HF3.out ?_)
                | (at_lookup; refine wpList_lookW (by rfl) (.tmp 109) (.tmp 110) rfl bm n _ rfl HE5.out.md.q _ rfl (by omega) (by omega) _ HF3.out ?_)
                | (at_lookup; refine wpList_lookQ rfl (.tmp 122) (.tmp 123) rfl bm n _ rfl HE5.out.md.q _ rfl (by omega) (by omega) _ HF3.out ?_)
                | (at_mapUpdate; generalize hA9 : (if c4 = 0 then (some ⟨g3, o3, none⟩ : Option Addr) else some ⟨g3, o3 + 1, none⟩) = A9; refine wpList_storeQ _ rfl (.tmp 120) (.tmp 121) (.tmp 125) 56 rfl keyI Try.underlying3 Try.underlying56 rfl HE5.out.md.q (by simp only [maxLen]; omega) _ rfl (wf5 (by omega) (by omega)) (.slice A9 t.length c4) (by rfl) ?_
                   intro V8 hq8 hg8
                   have hq9 : Qr V5 w.heap.size (some ⟨g3, o3, none⟩) (t.length + 1) (c4 + 1) (x.i :: t) := by
                     have h9 := HE5.out.md.queue (by omega) (by omega) HF3.out
                     rwa [HE5.out.q _ (by omega) (by omega), HTQ.out] at h9
                   have HM8 := Lib.hid (HE5.out.md.stored (by omega) (by omega) HF3.out (World.grownBy.refl _ _) (show Qr V5 w.heap.size A9 t.length c4 t by rw [← hA9]; exact hq9.tail) (.inl (by rw [← hA9]; split <;> rfl)) hq8 hg8)
                   clear hA9
                   have HS8 := Lib.hid (H6.out.grown hg8 (fun g e => by cases e; exact hbmF))
                   have k58 := HM8.out.k
                   have kt8 : Blk V8 V4.heap.size (scC A5 m5 c5 A6 m6 c6) 25 := HE5.out.md.box (by omega) (by omega) HF3.out (World.grownBy.refl _ _) hg8 kt5
                   clear hq8 hg8 kt5 k55 hq9 q30)
                | (refine wpList_load_row rfl 25 (.tmp 15) rfl (V4.heap.size) rfl 25 (scC A5 m5 c5 A6 m6 c6) (0, 0) _ kt8.blk Try.underlying25 rfl (sc_inf _ _ _ _ _ _) ?_)
                | (refine wpList_store_blk rfl 25 (.tmp 5) (.tmp 126) rfl b5 (scC A m c A2 m2 c2) (scC A5 m5 c5 A6 m6 c6) 25 rfl rfl k58 rfl (sc_inf _ _ _ _ _ _) (sc_one _ _ _ _ _ _) ?_
                   intro V9 k59 n9
                   have HE9 := Lib.hid (HM8.out.tn HS8.out hFb n9 k59 (by rw [HN5.out]; exact HG.out.1) (by rw [HN5.out]; intro j h1 h5; rw [HG.out.2 j]; by_cases e : j = (lk : Int) + 1 <;> simp only [e, ↓reduceIte] <;> first | (rw [HTQ.out]; rfl) | exact HE5.out.q j h1 h5))
                   have k59 := HE9.out.md.k
                   clear n9 k58)
                | (refine wpList_load_row rfl 25 (.tmp 5) rfl (b5) rfl 25 (scC A5 m5 c5 A6 m6 c6) (0, 0) _ k59.blk Try.underlying25 rfl (sc_inf _ _ _ _ _ _) ?_)
                | (refine HE9.out.check.mono ?_
                   rintro e VA ⟨rfl, bb⟩
                   have HEA := Lib.hid (HE9.out.keep bb)
                   clear bb k59 HE9))
              go_loopw [21] (fun kv wr' => ∃ (k : Nat) (W : World), W = wr' ∧ k ≤ 5 ∧ kv = .int .i64 ((k : Int) + 1) ∧ Hid (Tn w W b5 bm (n + 1) A5 m5 c5 _ A6 m6 c6 L5 (fun j => if j = (lk : Int) + 1 then .slice A9 t.length c4 else f j) (fun j => if j = (lk : Int) + 1 then t else Q j))) (fun kv _ => 6 - (intOf kv).toNat)
              case atStart => exact ⟨0, _, rfl, Nat.zero_le _, rfl, HEA⟩
              case round =>
                clear HEA
                obtain ⟨k, W, hwk, hk5, rfl, HW⟩ := hrel
                subst hwk
                by_cases hlk5 : k < 5
                · have hle : (k : Int) + 1 ≤ 5 := by omega
                  obtain ⟨A8, m8, c8, hf8, hq8⟩ := HW.out.queue (j := (k : Int) + 1) (by omega) (by omega)
                  have HO := Lib.hid (fun (W' : World) (hb : Below W.heap.size W W') => (HW.out.keep hb).owner ((k : Int) + 1))
                  have h8 := hq8.len
                  have HF8 := Lib.hid hf8
                  clear hf8
                  have kw := HW.out.md.k
                  have hqm := HW.out.md.q
                  obtain ⟨l8, hl8⟩ : ∃ l, qN (L5.map (·.1)) ((k : Int) + 1) = l := ⟨_, rfl⟩
                  rw [hl8] at HO hq8 h8
                  clear hl8
                  unfold scV at HO
                  cases l8 with
                  | nil =>
                    have hz8 : ¬ (0 < m8) := by rw [h8]; decide
                    clear hq8 h8
                    go_wp2_with (first
                      | (at_lookup; refine wpList_lookQ rfl (.tmp 166) (.tmp 167) rfl bm (n + 1) _ rfl hqm _ rfl (by omega) (by omega) _ HF8.out ?_)
                      | (refine wpList_load_row rfl 25 (.tmp 5) rfl (b5) rfl 25 (scC A5 m5 c5 A6 m6 c6) (0, 0) _ kw.blk Try.underlying25 rfl (sc_inf _ _ _ _ _ _) ?_)
                      | (refine (HO.out _ (Below.refl _ _)).mono ?_
                         clear HO
                         rintro e W1 ⟨rfl, bb⟩
                         have HW1 := Lib.hid (HW.out.keep bb)
                         clear bb))
                    go_roundw
                    case rel => exact ⟨k + 1, _, rfl, by omega, by go_num, HW1⟩
                    case measure => simp [intOf]; omega
                  | cons i0 t =>
                    obtain ⟨g8, o8, rfl, hc8⟩ := hq8.cell (j := 0) (by rw [h8]; simp)
                    have hc8 : W.cell? ⟨g8, o8, none⟩ = some (.int .i64 i0) := hc8
                    have hm8 : 0 < m8 := by rw [h8]; simp
                    have hm8' : (0 : Int) < (m8 : Int) := by omega
                    clear hq8 h8
                    go_wp2_with (first
                      | (at_lookup; refine wpList_lookQ rfl (.tmp 166) (.tmp 167) rfl bm (n + 1) _ rfl hqm _ rfl (by omega) (by omega) _ HF8.out ?_)
                      | (at_lookup; refine wpList_lookQ rfl (.tmp 171) (.tmp 172) rfl bm (n + 1) _ rfl hqm _ rfl (by omega) (by omega) _ HF8.out ?_)
                      | (refine wpList_load_row rfl 25 (.tmp 5) rfl (b5) rfl 25 (scC A5 m5 c5 A6 m6 c6) (0, 0) _ kw.blk Try.underlying25 rfl (sc_inf _ _ _ _ _ _) ?_)
                      | (refine (HO.out _ (Below.refl _ _)).mono ?_
                         clear HO
                         rintro e W1 ⟨rfl, bb⟩
                         have HW1 := Lib.hid (HW.out.keep bb)
                         clear bb))
                    go_roundw
                    case rel => exact ⟨k + 1, _, rfl, by omega, by go_num, HW1⟩
                    case measure => simp [intOf]; omega
                · have hgt : ¬ ((k : Int) + 1 ≤ 5) := by omega
                  clear hlk5
                  go_wp2_with fail
                  go_roundw
                  case rel => exact ⟨i + 1, (n + 1), _, A5, m5, c5, _, A6, m6, c6, L5, _, _, rfl, by omega, by omega, by omega, by go_num, HW⟩
                  case measure => simp [intOf]; omega
            · cases hl3 : qN (L.map (·.1)) ((lk : Int) + 1) with
              | nil =>
                rw [hl3] at hm3
                have hz3 : ¬ (0 < m3) := by rw [hm3]; decide
                clear hm3
                have hg0 : (ye == 0) = false := by simpa using hne
                have hg1 : (ye != 0) = true := by simpa using hne
                clear hfl hql hl3 hno hne HTT HQL
                go_wp2_with (first
                  | (refine wpList_load_mid rfl 58 (.tmp 36) rfl b (off + i * 3) rfl _ _ hcy Try.underlying58 rfl (act_infL q) ?_)
                  | (refine wpList_store_blk rfl 58 (.tmp 8) (.tmp 37) rfl V.heap.size (rnC rn0) (rnC q) 58 rfl rfl (Blk.new _ _ _) rfl (act_inf q) (rn_one q) ?_
                     intro V1 kb1 nb
                     have HE1 := Lib.hid (HE.out.keep (((Below.refl _ V).alloc (Nat.le_refl _) _).trans (nb.below _ (Nat.le_refl _) (by simp))))
                     have k51 := HE1.out.md.k
                     have q71 : V1.cell? ⟨V.heap.size, 1, none⟩ = some (.int .i64 q.s) := kb1.cell 1
                     clear nb hcy)
                  | (refine wpList_load_row rfl 25 (.tmp 5) rfl (b5) rfl 25 (scC A m c A2 m2 c2) (0, 0) _ k51.blk Try.underlying25 rfl (sc_inf _ _ _ _ _ _) ?_)
                  | (refine (HP.out _ HE1.out).mono ?_
                     clear HP
                     rintro e V2 ⟨rfl, bb⟩
                     have HE2 := Lib.hid (HE1.out.keep bb)
                     have k52 := HE2.out.md.k
                     have kb2 := kb1.below bb kb1.lt
                     have q70 : V2.cell? ⟨V.heap.size, 0, none⟩ = some (.int .i64 q.i) := kb2.cell 0
                     have q72 : V2.cell? ⟨V.heap.size, 2, none⟩ = some (.int .i64 q.n) := kb2.cell 2
                     clear bb q71 kb1 k51)
                  | (refine wpList_load_row rfl 25 (.tmp 5) rfl (b5) rfl 25 (scC A m c A2 m2 c2) (0, 0) _ k52.blk Try.underlying25 rfl (sc_inf _ _ _ _ _ _) ?_)
                  | (refine (HT.out _ HE2.out).mono ?_
                     clear HT
                     rintro e V4 ⟨v, rfl, ⟨A5, m5, c5, A6, m6, c6, L5, rfl, sc5, hn5, fr5⟩, bb⟩
                     have hFb : b5 < V2.heap.size := k52.lt
                     have H5 := Lib.hid (show Sd V4 V2.heap.size A5 m5 c5 _ A6 m6 c6 L5 from ⟨sc5, fr5⟩)
                     have HN5 := Lib.hid hn5
                     have HE4 := Lib.hid (HE2.out.keep bb)
                     have hbmF : bm < V2.heap.size := HE2.out.md.q.lt
                     have HA3 := Lib.hid (HE2.out.md.queue (by omega) (by omega) HF3.out).blk_lt
                     have hV4 : V2.heap.size ≤ V4.heap.size := bb.size
                     clear sc5 hn5 fr5 bb k52 q70 q72
                     unfold scV)
                  | (refine wpList_store_blk rfl 25 (.tmp 15) (.tmp 99) rfl V4.heap.size (scC none 0 0 none 0 0) (scC A5 m5 c5 A6 m6 c6) 25 rfl rfl (Blk.new _ _ _) rfl (sc_inf _ _ _ _ _ _) (sc_one _ _ _ _ _ _) ?_
                     intro V5 kt5 nn
                     have bb : Below V4.heap.size V4 V5 := ((Below.refl _ V4).alloc (Nat.le_refl _) _).trans (nn.below _ (Nat.le_refl _) (by simp))
                     have H6 := Lib.hid (H5.out.grown (gb_below bb) (fun g e => by cases e))
                     have HE5 := Lib.hid (HE4.out.keep bb)
                     have k55 := HE5.out.md.k
                     clear bb nn H5)
                  | (at_lookup; refine wpList_lookQ rfl (.tmp 103) (.tmp 104) rfl bm n _ rfl HE5.out.md.q _ rfl (by omega) (by omega) _ HF3.out ?_))
                go_roundw
                case rel => exact ⟨i + 1, n, _, A, m, c, R, A2, m2, c2, L, f, Q, rfl, by omega, by omega, by omega, by go_num, HE5⟩
                case measure => simp [intOf]; omega
              | cons i0 t =>
                have HTQ := Lib.hid hl3
                rw [hl3] at hm3 hql
                rw [List.length_cons] at hm3
                subst hm3
                obtain ⟨g3, o3, rfl, _⟩ := hql.cell (j := 0) (by omega)
                have HCL := Lib.hid (fun (W : World) (hW : Tn w W b5 bm n A m c R A2 m2 c2 L f Q) => hW.cell0 (by omega) (by omega) HF3.out HTQ.out)
                have hi0 : (i0 == x.i) = false := by
                  rw [beq_eq_false_iff_ne]
                  exact fun e => hno t (by rw [hl3, e])
                have htl : (0 : Int) < ((t.length + 1 : Nat) : Int) := by omega
                have hg0 : (ye == 0) = false := by simpa using hne
                have hg1 : (ye != 0) = true := by simpa using hne
                clear hfl hql hl3 hno hne HTT HQL
                go_wp2_with (first
                  | (refine wpList_load_mid rfl 58 (.tmp 36) rfl b (off + i * 3) rfl _ _ hcy Try.underlying58 rfl (act_infL q) ?_)
                  | (refine wpList_store_blk rfl 58 (.tmp 8) (.tmp 37) rfl V.heap.size (rnC rn0) (rnC q) 58 rfl rfl (Blk.new _ _ _) rfl (act_inf q) (rn_one q) ?_
                     intro V1 kb1 nb
                     have HE1 := Lib.hid (HE.out.keep (((Below.refl _ V).alloc (Nat.le_refl _) _).trans (nb.below _ (Nat.le_refl _) (by simp))))
                     have k51 := HE1.out.md.k
                     have q71 : V1.cell? ⟨V.heap.size, 1, none⟩ = some (.int .i64 q.s) := kb1.cell 1
                     clear nb hcy)
                  | (refine wpList_load_row rfl 25 (.tmp 5) rfl (b5) rfl 25 (scC A m c A2 m2 c2) (0, 0) _ k51.blk Try.underlying25 rfl (sc_inf _ _ _ _ _ _) ?_)
                  | (refine (HP.out _ HE1.out).mono ?_
                     clear HP
                     rintro e V2 ⟨rfl, bb⟩
                     have HE2 := Lib.hid (HE1.out.keep bb)
                     have k52 := HE2.out.md.k
                     have kb2 := kb1.below bb kb1.lt
                     have q70 : V2.cell? ⟨V.heap.size, 0, none⟩ = some (.int .i64 q.i) := kb2.cell 0
                     have q72 : V2.cell? ⟨V.heap.size, 2, none⟩ = some (.int .i64 q.n) := kb2.cell 2
                     clear bb q71 kb1 k51)
                  | (refine wpList_load_row rfl 25 (.tmp 5) rfl (b5) rfl 25 (scC A m c A2 m2 c2) (0, 0) _ k52.blk Try.underlying25 rfl (sc_inf _ _ _ _ _ _) ?_)
                  | (refine (HT.out _ HE2.out).mono ?_
                     clear HT
                     rintro e V4 ⟨v, rfl, ⟨A5, m5, c5, A6, m6, c6, L5, rfl, sc5, hn5, fr5⟩, bb⟩
                     have hFb : b5 < V2.heap.size := k52.lt
                     have H5 := Lib.hid (show Sd V4 V2.heap.size A5 m5 c5 _ A6 m6 c6 L5 from ⟨sc5, fr5⟩)
                     have HN5 := Lib.hid hn5
                     have HE4 := Lib.hid (HE2.out.keep bb)
                     have hbmF : bm < V2.heap.size := HE2.out.md.q.lt
                     have HA3 := Lib.hid (HE2.out.md.queue (by omega) (by omega) HF3.out).blk_lt
                     have hV4 : V2.heap.size ≤ V4.heap.size := bb.size
                     clear sc5 hn5 fr5 bb k52 q70 q72
                     unfold scV)
                  | (refine wpList_store_blk rfl 25 (.tmp 15) (.tmp 99) rfl V4.heap.size (scC none 0 0 none 0 0) (scC A5 m5 c5 A6 m6 c6) 25 rfl rfl (Blk.new _ _ _) rfl (sc_inf _ _ _ _ _ _) (sc_one _ _ _ _ _ _) ?_
                     intro V5 kt5 nn
                     have bb : Below V4.heap.size V4 V5 := ((Below.refl _ V4).alloc (Nat.le_refl _) _).trans (nn.below _ (Nat.le_refl _) (by simp))
                     have H6 := Lib.hid (H5.out.grown (gb_below bb) (fun g e => by cases e))
                     have HE5 := Lib.hid (HE4.out.keep bb)
                     have k55 := HE5.out.md.k
                     have q30 := HCL.out _ HE5.out
                     clear bb nn H5)
                  | (at_lookup; refine wpList_lookQ rfl (.tmp 103) (.tmp 104) rfl bm n _ rfl HE5.out.md.q _ rfl (by omega) (by omega) _ HF3.out ?_)
                  | (at_lookup; refine wpList_lookW (by rfl) (.tmp 109) (.tmp 110) rfl bm n _ rfl HE5.out.md.q _ rfl (by omega) (by omega) _ HF3.out ?_))
                go_roundw
                case rel => exact ⟨i + 1, n, _, A, m, c, R, A2, m2, c2, L, f, Q, rfl, by omega, by omega, by omega, by go_num, HE5⟩
                case measure => simp [intOf]; omega
          · obtain ⟨t1, t2, _⟩ := end_good HE.out.g HX.out.1 HX.out.2
            have hqs := end_turn HE.out.g HX.out.1 HX.out.2
            have HT := Lib.hid (fun (W : World) (hW : Tn w W b5 bm n A m c R A2 m2 c2 L f Q) => end_pub A m c R A2 m2 c2 L x.i W hW.sc)
            rw [t1] at HT
            obtain ⟨yr, hyr⟩ : ∃ y, (endR R L x.i).1 = y := ⟨_, rfl⟩
            obtain ⟨yk, hyk⟩ : ∃ y, (endR R L x.i).2.1 = y := ⟨_, rfl⟩
            rw [hyr, hyk] at HT t2
            rw [hyk] at hqs
            unfold scV at HT
            have HG := Lib.hid (And.intro t2 hqs)
            clear t1 t2 hqs hyr hyk hfl hql hm3 HQL
            go_wp2_with (first
              | (refine wpList_load_mid rfl 58 (.tmp 36) rfl b (off + i * 3) rfl _ _ hcy Try.underlying58 rfl (act_infL q) ?_)
              | (refine wpList_store_blk rfl 58 (.tmp 8) (.tmp 37) rfl V.heap.size (rnC rn0) (rnC q) 58 rfl rfl (Blk.new _ _ _) rfl (act_inf q) (rn_one q) ?_
                 intro V1 kb1 nb
                 have HE1 := Lib.hid (HE.out.keep (((Below.refl _ V).alloc (Nat.le_refl _) _).trans (nb.below _ (Nat.le_refl _) (by simp))))
                 have k51 := HE1.out.md.k
                 have q71 : V1.cell? ⟨V.heap.size, 1, none⟩ = some (.int .i64 q.s) := kb1.cell 1
                 clear nb hcy)
              | (refine wpList_load_row rfl 25 (.tmp 5) rfl (b5) rfl 25 (scC A m c A2 m2 c2) (0, 0) _ k51.blk Try.underlying25 rfl (sc_inf _ _ _ _ _ _) ?_)
              | (refine (HP.out _ HE1.out).mono ?_
                 clear HP
                 rintro e V2 ⟨rfl, bb⟩
                 have HE2 := Lib.hid (HE1.out.keep bb)
                 have k52 := HE2.out.md.k
                 have kb2 := kb1.below bb kb1.lt
                 have q70 : V2.cell? ⟨V.heap.size, 0, none⟩ = some (.int .i64 q.i) := kb2.cell 0
                 have q72 : V2.cell? ⟨V.heap.size, 2, none⟩ = some (.int .i64 q.n) := kb2.cell 2
                 clear bb q71 kb1 k51)
              | (refine wpList_load_row rfl 25 (.tmp 5) rfl (b5) rfl 25 (scC A m c A2 m2 c2) (0, 0) _ k52.blk Try.underlying25 rfl (sc_inf _ _ _ _ _ _) ?_)
              | (refine (HT.out _ HE2.out).mono ?_
                 clear HT
                 rintro e V4 ⟨v, rfl, ⟨A5, m5, c5, A6, m6, c6, L5, rfl, sc5, hn5, fr5⟩, bb⟩
                 have hFb : b5 < V2.heap.size := k52.lt
                 have H5 := Lib.hid (show Sd V4 V2.heap.size A5 m5 c5 _ A6 m6 c6 L5 from ⟨sc5, fr5⟩)
                 have HN5 := Lib.hid hn5
                 have HE4 := Lib.hid (HE2.out.keep bb)
                 have hbmF : bm < V2.heap.size := HE2.out.md.q.lt
                 have HA3 := Lib.hid (HE2.out.md.queue (by omega) (by omega) HF3.out).blk_lt
                 have hV4 : V2.heap.size ≤ V4.heap.size := bb.size
                 clear sc5 hn5 fr5 bb k52 q70 q72
                 unfold scV)
              | (refine wpList_store_blk rfl 25 (.tmp 17) (.tmp 133) rfl V4.heap.size (scC none 0 0 none 0 0) (scC A5 m5 c5 A6 m6 c6) 25 rfl rfl (Blk.new _ _ _) rfl (sc_inf _ _ _ _ _ _) (sc_one _ _ _ _ _ _) ?_
                 intro V5 kt5 nn
                 have bb : Below V4.heap.size V4 V5 := ((Below.refl _ V4).alloc (Nat.le_refl _) _).trans (nn.below _ (Nat.le_refl _) (by simp))
                 have H6 := Lib.hid (H5.out.grown (gb_below bb) (fun g e => by cases e))
                 have HE5 := Lib.hid (HE4.out.keep bb)
                 have k55 := HE5.out.md.k
                 clear bb nn H5)
              | (at_range; refine wpList_rangeQ _ rfl (.tmp 137) 56 rfl Try.underlying56 rfl HE5.out.md.q ?_
                 intro V6 left cnt hqr hlz hgr hsz
                 have HMR := Lib.hid (show Mr w V6 b5 bm V5.heap.size n (scC A m c A2 m2 c2) f left cnt Q ∧ Sd V6 V2.heap.size A5 m5 c5 yr A6 m6 c6 L5 ∧ Blk V6 V4.heap.size (scC A5 m5 c5 A6 m6 c6) 25 ∧ ∀ j, 1 ≤ j → j ≤ 5 → Q j = if left j = true then qN (L.map (·.1)) j else strike x.i (qN (L.map (·.1)) j) from
                   ⟨HE5.out.md.ranged hqr hgr, H6.out.grown hgr (fun g e => by cases e), kt5.below (below_gb hgr) kt5.lt, fun j h1 h5 => by
                     rw [HE5.out.q j h1 h5]
                     cases hlj : left j
                     · have h9 := HE5.out.md.queue h1 h5 (hlz j hlj)
                       rw [HE5.out.q j h1 h5] at h9
                       rw [List.eq_nil_of_length_eq_zero h9.len.symm]
                       rfl
                     · rfl⟩)
                 clear hqr hlz hgr hsz))
            obtain ⟨r, hr⟩ : ∃ r, r = V5.heap.size := ⟨_, rfl⟩
            rw [← hr] at HMR ⊢
            clear hr
            try go_frame
            have HE5Q := Lib.hid HE5.out.q
            clear HE5 k55 kt5 H6 HE HE1 HE2 HE4
            go_loopw [19] (fun _ wr' => ∃ (W : World) (left : Int → Bool) (cnt : Nat) (f' : Int → Value) (Q' : Int → List Int), W = wr' ∧ Hid (Mr w W b5 bm r n (scC A m c A2 m2 c2) f' left cnt Q' ∧ Sd W V2.heap.size A5 m5 c5 yr A6 m6 c6 L5 ∧ Blk W V4.heap.size (scC A5 m5 c5 A6 m6 c6) 25 ∧ ∀ j, 1 ≤ j → j ≤ 5 → Q' j = if left j = true then qN (L.map (·.1)) j else strike x.i (qN (L.map (·.1)) j))) (fun _ wr' => wr'.rangeLeft bm r)
            case atStart => exact ⟨_, _, _, _, _, rfl, HMR⟩
            case round =>
              clear HMR
              obtain ⟨W, left, cnt, f', Q', hww, HMR⟩ := hrel
              subst hww
              go_wp2_with (first
                | (at_next; refine wpList_nextQ _ rfl (.tmp 138) rfl keyI Try.underlying3 rfl HMR.out.1.q ?_ ?_ <;> apply hold9))
              · unfold Hold9
                intro hc0 hl0
                have HM8 := Lib.hid HMR.out.1.md
                have HS8 := Lib.hid HMR.out.2.1
                have k58 := HM8.out.k
                have kt8 := HMR.out.2.2.1
                have HQZ := Lib.hid (show ∀ j, 1 ≤ j → j ≤ 5 → Q' j = strike x.i (qN (L.map (·.1)) j) from fun j h1 h5 => by rw [HMR.out.2.2.2 j h1 h5, hl0 j, if_neg (by simp)])
                clear hl0 hc0 HMR
                go_wp2_with (first
                  | (refine wpList_load_row rfl 25 (.tmp 17) rfl (V4.heap.size) rfl 25 (scC A5 m5 c5 A6 m6 c6) (0, 0) _ kt8.blk Try.underlying25 rfl (sc_inf _ _ _ _ _ _) ?_)
                  | (refine wpList_store_blk rfl 25 (.tmp 5) (.tmp 158) rfl b5 (scC A m c A2 m2 c2) (scC A5 m5 c5 A6 m6 c6) 25 rfl rfl k58 rfl (sc_inf _ _ _ _ _ _) (sc_one _ _ _ _ _ _) ?_
                     intro V9 k59 n9
                     have HE9 := Lib.hid (HM8.out.tn HS8.out hFb n9 k59 (by rw [HN5.out]; exact HG.out.1) (by rw [HN5.out]; intro j h1 h5; rw [HQZ.out j h1 h5, HG.out.2 j]; rfl))
                     have k59 := HE9.out.md.k
                     clear n9 k58)
                  | (refine wpList_load_row rfl 25 (.tmp 5) rfl (b5) rfl 25 (scC A5 m5 c5 A6 m6 c6) (0, 0) _ k59.blk Try.underlying25 rfl (sc_inf _ _ _ _ _ _) ?_)
                  | (refine HE9.out.check.mono ?_
                     rintro e VA ⟨rfl, bb⟩
                     have HEA := Lib.hid (HE9.out.keep bb)
                     clear bb k59 HE9))
                go_loopw [21] (fun kv wr' => ∃ (k : Nat) (W : World), W = wr' ∧ k ≤ 5 ∧ kv = .int .i64 ((k : Int) + 1) ∧ Hid (Tn w W b5 bm n A5 m5 c5 _ A6 m6 c6 L5 f' Q')) (fun kv _ => 6 - (intOf kv).toNat)
                case atStart => exact ⟨0, _, rfl, Nat.zero_le _, rfl, HEA⟩
                case round =>
                  clear HEA
                  obtain ⟨k, W, hwk, hk5, rfl, HW⟩ := hrel
                  subst hwk
                  by_cases hlk5 : k < 5
                  · have hle : (k : Int) + 1 ≤ 5 := by omega
                    obtain ⟨A8, m8, c8, hf8, hq8⟩ := HW.out.queue (j := (k : Int) + 1) (by omega) (by omega)
                    have HO := Lib.hid (fun (W' : World) (hb : Below W.heap.size W W') => (HW.out.keep hb).owner ((k : Int) + 1))
                    have h8 := hq8.len
                    have HF8 := Lib.hid hf8
                    clear hf8
                    have kw := HW.out.md.k
                    have hqm := HW.out.md.q
                    obtain ⟨l8, hl8⟩ : ∃ l, qN (L5.map (·.1)) ((k : Int) + 1) = l := ⟨_, rfl⟩
                    rw [hl8] at HO hq8 h8
                    clear hl8
                    unfold scV at HO
                    cases l8 with
                    | nil =>
                      have hz8 : ¬ (0 < m8) := by rw [h8]; decide
                      clear hq8 h8
                      go_wp2_with (first
                        | (at_lookup; refine wpList_lookQ rfl (.tmp 166) (.tmp 167) rfl bm n _ rfl hqm _ rfl (by omega) (by omega) _ HF8.out ?_)
                        | (refine wpList_load_row rfl 25 (.tmp 5) rfl (b5) rfl 25 (scC A5 m5 c5 A6 m6 c6) (0, 0) _ kw.blk Try.underlying25 rfl (sc_inf _ _ _ _ _ _) ?_)
                        | (refine (HO.out _ (Below.refl _ _)).mono ?_
                           clear HO
                           rintro e W1 ⟨rfl, bb⟩
                           have HW1 := Lib.hid (HW.out.keep bb)
                           clear bb))
                      go_roundw
                      case rel => exact ⟨k + 1, _, rfl, by omega, by go_num, HW1⟩
                      case measure => simp [intOf]; omega
                    | cons i0 t =>
                      obtain ⟨g8, o8, rfl, hc8⟩ := hq8.cell (j := 0) (by rw [h8]; simp)
                      have hc8 : W.cell? ⟨g8, o8, none⟩ = some (.int .i64 i0) := hc8
                      have hm8 : 0 < m8 := by rw [h8]; simp
                      have hm8' : (0 : Int) < (m8 : Int) := by omega
                      clear hq8 h8
                      go_wp2_with (first
                        | (at_lookup; refine wpList_lookQ rfl (.tmp 166) (.tmp 167) rfl bm n _ rfl hqm _ rfl (by omega) (by omega) _ HF8.out ?_)
                        | (at_lookup; refine wpList_lookQ rfl (.tmp 171) (.tmp 172) rfl bm n _ rfl hqm _ rfl (by omega) (by omega) _ HF8.out ?_)
                        | (refine wpList_load_row rfl 25 (.tmp 5) rfl (b5) rfl 25 (scC A5 m5 c5 A6 m6 c6) (0, 0) _ kw.blk Try.underlying25 rfl (sc_inf _ _ _ _ _ _) ?_)
                        | (refine (HO.out _ (Below.refl _ _)).mono ?_
                           clear HO
                           rintro e W1 ⟨rfl, bb⟩
                           have HW1 := Lib.hid (HW.out.keep bb)
                           clear bb))
                      go_roundw
                      case rel => exact ⟨k + 1, _, rfl, by omega, by go_num, HW1⟩
                      case measure => simp [intOf]; omega
                  · have hgt : ¬ ((k : Int) + 1 ≤ 5) := by omega
                    clear hlk5
                    go_wp2_with fail
                    go_roundw
                    case rel => exact ⟨i + 1, n, _, A5, m5, c5, _, A6, m6, c6, L5, _, _, rfl, by omega, by omega, by omega, by go_num, HW⟩
                    case measure => simp [intOf]; omega
              · unfold Hold9
                intro iq W1 cnt1 hwf hli hqr1 hlt1 hgr1 hsz1 hen
                obtain ⟨A4, m4, c4, hf4⟩ := HMR.out.1.md.r.shape iq
                rw [hf4] at hen ⊢
                have HM1 := Lib.hid (show Mr w W1 b5 bm r n (scC A m c A2 m2 c2) f' (fun j => left j && j != iq) cnt1 Q' ∧ Sd W1 V2.heap.size A5 m5 c5 yr A6 m6 c6 L5 ∧ Blk W1 V4.heap.size (scC A5 m5 c5 A6 m6 c6) 25 from ⟨HMR.out.1.next hqr1 hgr1, HMR.out.2.1.iter hgr1 (fun cur t fr e => HMR.out.1.q.cells e rfl), ⟨(hgr1.block _ HMR.out.2.2.1.lt fun e => HMR.out.1.q.cells HMR.out.2.2.1.blk (Option.some.inj e)).trans HMR.out.2.2.1.blk⟩⟩)
                have hlq := HMR.out.1.q.left_eq
                clear hqr1 hgr1
                by_cases hem : m4 = 0
                · subst hem
                  have HK := Lib.hid (strike_keep HMR.out.2.2.2 hli fun h1 h5 => by
                    have h9 := HMR.out.1.md.queue h1 h5 hf4
                    rw [HMR.out.2.2.2 iq h1 h5, if_pos hli] at h9
                    rw [List.eq_nil_of_length_eq_zero h9.len.symm]
                    rfl)
                  have hmeas := HM1.out.1.q.left_eq
                  clear hli hf4 HMR
                  go_wp2_with fail
                  go_roundw
                  case rel => exact ⟨_, _, _, _, _, rfl, Lib.hid ⟨HM1.out.1, HM1.out.2.1, HM1.out.2.2, HK.out⟩⟩
                  case measure => rw [hmeas, hlq]; omega
                · have hin : 1 ≤ iq ∧ iq ≤ 5 := by
                    apply Classical.byContradiction
                    intro hno
                    have h9 := HMR.out.1.md.r.out iq (by omega)
                    rw [hf4] at h9
                    injection h9 with _ h9 _
                    exact hem h9
                  have h9 := HMR.out.1.md.queue hin.1 hin.2 hf4
                  rw [HMR.out.2.2.2 iq hin.1 hin.2, if_pos hli] at h9
                  cases hl4 : qN (L.map (·.1)) iq with
                  | nil => rw [hl4] at h9; exact absurd h9.len hem
                  | cons i0 t =>
                    have HL4 := Lib.hid hl4
                    rw [hl4] at h9
                    have hm4 := h9.len
                    rw [List.length_cons] at hm4
                    subst hm4
                    obtain ⟨g3, o3, rfl, _⟩ := h9.cell (j := 0) (by omega)
                    obtain ⟨c5', rfl⟩ : ∃ c5', c4 = c5' + 1 := ⟨c4 - 1, by have := h9.le; omega⟩
                    have HF4 := Lib.hid hf4
                    have HQ1 := Lib.hid (show Qr W1 w.heap.size (some ⟨g3, o3, none⟩) (t.length + 1) (c5' + 1) (i0 :: t) from by
                      have h8 := HM1.out.1.md.queue hin.1 hin.2 hf4
                      rw [HMR.out.2.2.2 iq hin.1 hin.2, if_pos hli, hl4] at h8
                      exact h8)
                    have q30 : W1.cell? ⟨g3, o3, none⟩ = some (.int .i64 i0) := by
                      obtain ⟨g', o', e, hc⟩ := HQ1.out.cell (j := 0) (by omega)
                      cases e
                      exact hc
                    have htl : (0 : Int) < ((t.length + 1 : Nat) : Int) := by omega
                    have HLI := Lib.hid hli
                    have HIN := Lib.hid hin
                    clear h9 hl4 hf4 hem hli hin
                    by_cases hi : i0 = x.i
                    · subst hi
                      have HK := Lib.hid (strike_new (iq := iq) HMR.out.2.2.2)
                      clear HMR
                      go_wp2_with (first
                        | (at_mapUpdate; generalize hA9 : (if c5' = 0 then (some ⟨g3, o3, none⟩ : Option Addr) else some ⟨g3, o3 + 1, none⟩) = A9; refine wpList_storeQR _ rfl (.tmp 154) (.tmp 155) (.tmp 157) 56 rfl keyI Try.underlying3 Try.underlying56 rfl HM1.out.1.q (by simp only [maxLen]; omega) _ rfl (wf5 HIN.out.1 HIN.out.2) (by rw [HF4.out]; intro e; injection e with e1 _ _; cases e1) (.slice A9 t.length c5') (by rfl) ?_
                           intro W8 hq8 hg8
                           have HM8 := Lib.hid (show Mr w W8 b5 bm r n (scC A m c A2 m2 c2) _ _ cnt1 _ ∧ Sd W8 V2.heap.size A5 m5 c5 yr A6 m6 c6 L5 ∧ Blk W8 V4.heap.size (scC A5 m5 c5 A6 m6 c6) 25 from ⟨HM1.out.1.stored HIN.out.1 HIN.out.2 HF4.out (show Qr W1 w.heap.size A9 t.length c5' t by rw [← hA9]; exact HQ1.out.tail) (by rw [← hA9]; split <;> rfl) hq8 hg8, HM1.out.2.1.grown hg8 (fun g e => by cases e; exact hbmF), ⟨(hg8.block _ HM1.out.2.2.lt fun e => HM1.out.1.md.q.cells HM1.out.2.2.blk (Option.some.inj e)).trans HM1.out.2.2.blk⟩⟩)
                           have hmeas := HM8.out.1.q.left_eq
                           clear hq8 hg8 q30 hA9))
                      try go_frame
                      go_roundw
                      case rel => exact ⟨W8, fun j => left j && j != iq, cnt1, (fun j => if j = iq then .slice A9 t.length c5' else f' j), (fun j => if j = iq then t else Q' j), rfl, Lib.hid ⟨HM8.out.1, HM8.out.2.1, HM8.out.2.2, fun j h1 h5 => by
                        have h9 := HK.out j h1 h5
                        rw [show strike x.i (qN (L.map (·.1)) iq) = t by rw [HL4.out]; unfold strike; simp] at h9
                        exact h9⟩⟩
                      case measure => rw [hmeas, hlq]; omega
                    · have hi0 : (i0 == x.i) = false := by simpa using hi
                      have HK := Lib.hid (strike_keep HMR.out.2.2.2 HLI.out fun h1 h5 => by
                        rw [HL4.out]
                        unfold strike
                        rw [if_neg]
                        intro e
                        exact hi (Option.some.inj e))
                      have hmeas := HM1.out.1.q.left_eq
                      clear HMR hi
                      go_wp2_with fail
                      go_roundw
                      case rel => exact ⟨_, _, _, _, _, rfl, Lib.hid ⟨HM1.out.1, HM1.out.2.1, HM1.out.2.2, HK.out⟩⟩
                      case measure => rw [hmeas, hlq]; omega
    · have hge : ¬ ((i : Int) < (mq : Int)) := by omega
      have hb9 := Lib.hid HE.out.md.b
      clear hlt HE
      go_wp2_with fail
      go_ret
      exact ⟨rfl, hb9.out⟩
end Go.Proofs.Ytolalbpjaebfdaa

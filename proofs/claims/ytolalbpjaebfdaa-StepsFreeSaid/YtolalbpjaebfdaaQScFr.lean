/-
  The walk of StepsFree.
-/
import Derived.Test.YtolalbpjaebfdaaQScOa
import Derived.Test.YtolalbpjaebfdaaQScLc
namespace Go.Proofs.Ytolalbpjaebfdaa
open Go.RowKit Go.Shelf
set_option linter.unusedVariables false
set_option linter.unusedSimpArgs false
theorem act_inf (x : Rn) : (Try.prog.info? 58).map (·.size) = some (rnC x).size := by rw [rn_size]; kernel_rfl
theorem act_infL (x : Rn) : (Try.prog.info? 58).map (·.size) = some (rnC x).toList.length := by rw [Array.length_toList]; exact act_inf x
theorem own_mem {K : List Kn} {id n : Int} : n ∈ ownsN K id ↔ ∃ y ∈ K, y.n = n ∧ y.o = id := by
  unfold ownsN
  rw [List.mem_map]
  constructor
  · rintro ⟨y, hy, rfl⟩
    rw [List.mem_filter] at hy
    exact ⟨y, hy.1, rfl, by simpa using hy.2⟩
  · rintro ⟨y, hy, rfl, ho⟩
    exact ⟨y, List.mem_filter.2 ⟨hy, by simpa using ho⟩, rfl⟩
theorem own_last {K : List Kn} (uk : (K.map (·.n)).Pairwise (· < ·)) {id : Int} {p : Nat} (h : (ownsN K id).length = p + 1) : ∀ z ∈ K, z.o = id → z.n ≤ (ownsN K id).getD p 0 := fun z hz ho => by
  have hu : (ownsN K id).Pairwise (· < ·) := uk.sublist (List.filter_sublist.map _)
  obtain ⟨i, hi, e⟩ := List.getElem_of_mem (own_mem.2 ⟨z, hz, rfl, ho⟩)
  have e2 : (ownsN K id).getD i 0 = z.n := by simp [List.getD, hi, e]
  rcases Nat.lt_or_ge i p with h1 | h1
  · have := up_getD hu h1 (by omega)
    omega
  · have : i = p := by omega
    rw [← this, e2]
    exact Int.le_refl _
theorem own_at {K : List Kn} {id : Int} {j : Nat} (h : j < (ownsN K id).length) : ∃ y ∈ K, y.n = (ownsN K id).getD j 0 ∧ y.o = id := own_mem.1 (by
  rw [show (ownsN K id).getD j 0 = (ownsN K id)[j] by simp [List.getD, h]]
  exact List.getElem_mem _)
theorem takeR_len {R : List Rn} {L : List Kw} {id n : Int} (h : (takeR R L id n).2.2 = 0) (hg : scE R L = 0) (hl : livesB R id = true) : (takeR R L id n).1.length = R.length := by
  have e0 : takeR R L id n = (if (takeF R (L.map (·.1)) (lessP (numsR R) id) id n).2.2 = 0 then takeF R (L.map (·.1)) (lessP (numsR R) id) id n else ([], [], (takeF R (L.map (·.1)) (lessP (numsR R) id) id n).2.2)) := by
    unfold takeR chgS ofF
    rw [if_pos hg, hl, if_pos rfl]
  rw [e0] at h ⊢
  split at h
  · rename_i h0
    rw [if_pos h0]
    unfold takeF at h0 ⊢
    split at h0
    · exact absurd h0 (by show ¬ (2 : Int) = 0; decide)
    · rename_i h1
      rw [if_neg h1]
      split at h0
      · rename_i h2
        rw [if_pos h2]
        split at h0
        · exact absurd h0 (by show ¬ (231 : Int) = 0; decide)
        · rename_i h3
          rw [if_neg h3]
          exact List.length_set
      · rename_i h2
        rw [if_neg h2]
  · rename_i h0
    exact absurd h h0
theorem giveN_len (R : List Rn) (K : List Kn) (n : Int) : (giveN R K n).1.length = R.length := by
  unfold giveN
  split
  · rfl
  · exact List.length_set
structure Ed (w V : World) (b5 j : Nat) (A : Option Addr) (m c : Nat) (R : List Rn) (A2 : Option Addr) (m2 c2 : Nat) (L : List Kw) : Prop where
  sc : Sc V V.heap.size A m c R A2 m2 c2 L
  k : Blk V b5 (scC A m c A2 m2 c2) 25
  g : Good R (L.map (·.1))
  u : Up13 R (L.map (·.1))
  ne : 0 < R.length
  lf : (leftL R).length + j ≤ 8
  b : Below w.heap.size w V
  hb : w.heap.size ≤ b5
theorem Ed.keep {w V V' : World} {b5 j : Nat} {A : Option Addr} {m c : Nat} {R : List Rn} {A2 : Option Addr} {m2 c2 : Nat} {L : List Kw} (h : Ed w V b5 j A m c R A2 m2 c2 L) (b : Below V.heap.size V V') : Ed w V' b5 j A m c R A2 m2 c2 L :=
  ⟨h.sc.on b, h.k.below b h.k.lt, h.g, h.u, h.ne, h.lf, h.b.trans (b.mono h.b.size), h.hb⟩
theorem leftL_len (R : List Rn) : (leftL R).length ≤ R.length := by unfold leftL; rw [List.length_map]; exact List.length_filter_le _ _
theorem Ed.put {w V V2 V3 : World} {b5 j j' : Nat} {A : Option Addr} {m c : Nat} {R : List Rn} {A2 : Option Addr} {m2 c2 : Nat} {L : List Kw} (h : Ed w V b5 j A m c R A2 m2 c2 L) {A' : Option Addr} {m' c' : Nat} {R' : List Rn} {A2' : Option Addr} {m2' c2' : Nat} {L' : List Kw} (b : Below V.heap.size V V2) (sc : Sc V2 V2.heap.size A' m' c' R' A2' m2' c2' L') (fr : Fro V.heap.size A' A2' L') (n : But b5 V2 V3) (k : Blk V3 b5 (scC A' m' c' A2' m2' c2') 25)
    (g : Good R' (L'.map (·.1))) (u : Up13 R' (L'.map (·.1))) (ne : 0 < R'.length) (lf : (leftL R').length + j' ≤ 8) : Ed w V3 b5 j' A' m' c' R' A2' m2' c2' L' := by
  have b2 := h.b.trans (b.mono h.b.size)
  exact ⟨sc.off' fr n h.k.lt, k, g, u, ne, lf, b2.trans (n.below _ h.hb b2.size), h.hb⟩
structure Fin13 (w V : World) (b5 : Nat) (A : Option Addr) (m c : Nat) (R : List Rn) (A2 : Option Addr) (c2 : Nat) : Prop where
  rs : RsR V V.heap.size A R
  len : m = R.length
  k : Blk V b5 (scC A m c A2 0 c2) 25
  all : ∀ x ∈ R, x.s = 2
  ne : 0 < m
  lim : m ≤ 8
  b : Below w.heap.size w V
theorem Fin13.keep {w V V' : World} {b5 : Nat} {A : Option Addr} {m c : Nat} {R : List Rn} {A2 : Option Addr} {c2 : Nat} (h : Fin13 w V b5 A m c R A2 c2) (b : Below V.heap.size V V') : Fin13 w V' b5 A m c R A2 c2 :=
  ⟨(h.rs.below b (Nat.le_refl _)).more b.size, h.len, h.k.below b h.k.lt, h.all, h.ne, h.lim, h.b.trans (b.mono h.b.size)⟩
theorem Ed.fin {w V : World} {b5 j : Nat} {A : Option Addr} {m c : Nat} {R : List Rn} {A2 : Option Addr} {m2 c2 : Nat} {L : List Kw} (h : Ed w V b5 j A m c R A2 m2 c2 L) (ha : (∀ x ∈ R, x.s = 2) ∧ L = []) : m2 = 0 ∧ Fin13 w V b5 A m c R A2 c2 := by
  have e : m2 = 0 := by rw [h.sc.len2, ha.2]; rfl
  subst e
  exact ⟨rfl, h.sc.rs, h.sc.len, h.k, ha.1, by rw [h.sc.len]; exact h.ne, by rw [h.sc.len]; exact h.g.len, h.b⟩
theorem Ed.eight {w V : World} {b5 : Nat} {A : Option Addr} {m c : Nat} {R : List Rn} {A2 : Option Addr} {m2 c2 : Nat} {L : List Kw} (h : Ed w V b5 8 A m c R A2 m2 c2 L) : (∀ x ∈ R, x.s = 2) ∧ L = [] := by
  have h0 : leftL R = [] := List.length_eq_zero_iff.1 (by have := h.lf; omega)
  have hall : ∀ x ∈ R, x.s = 2 := fun x hx => by
    apply Classical.byContradiction
    intro hs
    have := mem_leftL.2 ⟨x, hx, hs, rfl⟩
    rw [h0] at this
    cases this
  refine ⟨hall, ?_⟩
  cases L with
  | nil => rfl
  | cons y L =>
    obtain ⟨z, hz, _, h2⟩ := h.g.ow y.1 (List.mem_cons_self ..)
    exact absurd (hall z hz) h2
theorem rem_nat (z d : Int) (hd : 0 < d) : ∃ k : Nat, (k : Int) < d ∧ max z 0 % d = (k : Int) ∧ (max z 0).tmod d = (k : Int) := by
  have hmx : (0 : Int) ≤ max z 0 := by omega
  have h1 := Int.emod_lt_of_pos (max z 0) hd
  have h2 := Int.emod_nonneg (max z 0) (show d ≠ 0 by omega)
  exact ⟨(max z 0 % d).toNat, by omega, by omega, by rw [Int.tmod_eq_emod_of_nonneg hmx]; omega⟩
set_option maxRecDepth 100000 in
set_option maxHeartbeats 32000000 in
theorem free_law (n : Int) (Aq : Option Addr) (mq cq : Nat) (Lq : List Rn) (w : World) (hq : RsR w w.heap.size Aq Lq) (hmq : mq = Lq.length) :
    Calls Try.prog 7 #[.int .i64 n, .slice Aq mq cq] w fun e w' => e = .returned (.bool true) ∧ Below w.heap.size w w' := by
  have B0 := Below.refl w.heap.size w
  have HWK := Lib.hid (fun (V : World) => wakes13_any V)
  obtain ⟨k0, hk0, hr8, hr8t⟩ := rem_nat n 8 (by decide)
  have HBG := Lib.hid (fun (V : World) => begun_sc (k0 + 1) (by omega) V)
  rw [show (((k0 + 1 : Nat)) : Int) = (k0 : Int) + 1 by omega] at HBG
  have hmx8 : (0 : Int) ≤ max n 0 := by omega
  have HQ := Lib.hid hq
  have HMQ := Lib.hid hmq
  clear hq hmq
  go_enter Try.func7, Try.ntmps7
  go_wp2_with (first
    | (refine (HWK.out _).mono ?_
       rintro e w1 ⟨rfl, bb⟩
       have B1 := B0.trans (bb.mono B0.size)
       clear bb B0)
    | (refine (HBG.out w1).mono ?_
       clear HBG
       rintro e w2 ⟨v, rfl, ⟨A, m, c, A2, m2, c2, L, rfl, sc2, hn2, fr2⟩, bb⟩
       have HB2 := Lib.hid (B1.trans (bb.mono B1.size))
       have H2 := Lib.hid (And.intro sc2 hn2)
       clear bb B1 sc2 hn2 fr2
       unfold scV)
    | (refine wpList_store_blk rfl 25 (.tmp 5) (.tmp 29) rfl w2.heap.size (scC none 0 0 none 0 0) (scC A m c A2 m2 c2) 25 rfl rfl (Blk.new _ _ _) rfl (sc_inf _ _ _ _ _ _) (sc_one _ _ _ _ _ _) ?_
       intro w3 k53 nn
       have bb : Below w2.heap.size w2 w3 := ((Below.refl _ w2).alloc (Nat.le_refl _) _).trans (nn.below _ (Nat.le_refl _) (by simp))
       have HE := Lib.hid (show Ed w w3 w2.heap.size 0 A m c (runsN (k0 + 1)) A2 m2 c2 L from ⟨H2.out.1.on bb, k53, by rw [H2.out.2]; exact (good_begun (by omega)).1, by rw [H2.out.2]; exact (good_begun (by omega)).2, by rw [runsN_len]; omega, by have := leftL_len (runsN (k0 + 1)); rw [runsN_len] at this; omega, HB2.out.trans (bb.mono HB2.out.size), HB2.out.size⟩)
       clear bb nn k53 H2 HB2))
  obtain ⟨b5, hb5⟩ : ∃ b5, b5 = w2.heap.size := ⟨_, rfl⟩
  rw [← hb5] at HE ⊢
  clear hb5 hr8 hr8t hmx8
  go_loopw [32] (fun iv wr' => ∃ (i : Nat) (V : World) (A : Option Addr) (m c : Nat) (R : List Rn) (A2 : Option Addr) (m2 c2 : Nat) (L : List Kw), V = wr' ∧ i ≤ mq ∧ i ≤ 100 ∧ iv = .int .i64 i ∧ Hid (Ed w V b5 0 A m c R A2 m2 c2 L)) (fun iv _ => mq - (intOf iv).toNat)
  case atStart => exact ⟨0, _, A, m, c, _, A2, m2, c2, L, rfl, Nat.zero_le _, Nat.zero_le _, rfl, HE⟩
  case round =>
    clear HE
    obtain ⟨i, V, A, m, c, R, A2, m2, c2, L, hwr, hi, hi100, rfl, HE⟩ := hrel
    subst hwr
    by_cases hlt : i < mq
    · have hlt' : (i : Int) < (mq : Int) := by omega
      have hil : i < Lq.length := by have := HMQ.out; omega
      obtain ⟨b, off, rfl, hb, hc⟩ := (HQ.out.below HE.out.b (Nat.le_refl _)) i hil
      generalize Lq.getD i rn0 = q at hc
      have hcy : World.rangeAt V b (off + i * 3) [.int .i64 q.i, .int .i64 q.s, .int .i64 q.n] := hc
      clear hc hil
      by_cases h100 : i = 100
      · have h1 : ((i : Int) == 100) = true := by rw [h100]; rfl
        clear h100
        go_wp2_with (first
          | (refine wpList_load_mid rfl 58 (.tmp 35) rfl b (off + i * 3) rfl _ _ hcy Try.underlying58 rfl (act_infL q) ?_)
          | (refine wpList_store_blk rfl 58 (.tmp 7) (.tmp 36) rfl V.heap.size (rnC rn0) (rnC q) 58 rfl rfl (Blk.new _ _ _) rfl (act_inf q) (rn_one q) ?_
             intro V1 kb1 nb
             have HE1 := Lib.hid (HE.out.keep (((Below.refl _ V).alloc (Nat.le_refl _) _).trans (nb.below _ (Nat.le_refl _) (by simp))))
             have k51 := HE1.out.k
             have q71 : V1.cell? ⟨V.heap.size, 1, none⟩ = some (.int .i64 q.s) := kb1.cell 1
             clear nb hcy))
        have HEN := HE1
        go_wp2_with fail
        clear HE
        go_loopw [118] (fun iv wr' => ∃ (j : Nat) (V : World) (A : Option Addr) (m c : Nat) (R : List Rn) (A2 : Option Addr) (m2 c2 : Nat) (L : List Kw), V = wr' ∧ j ≤ 8 ∧ iv = .int .i64 j ∧ Hid (Ed w V b5 j A m c R A2 m2 c2 L)) (fun iv _ => 8 - (intOf iv).toNat)
        case atStart => exact ⟨0, _, A, m, c, R, A2, m2, c2, L, rfl, Nat.zero_le _, rfl, HEN⟩
        case round =>
          clear HEN
          obtain ⟨j, Y, A, m, c, R, A2, m2, c2, L, hwr, hj, rfl, HE⟩ := hrel
          subst hwr
          by_cases hlt8 : j < 8
          · have hlt8' : (j : Int) < 8 := by omega
            have k51 := HE.out.k
            have HP := Lib.hid (pick_sc A m c R A2 m2 c2 L 0 Y HE.out.sc)
            have HPG := Lib.hid (pick_good HE.out.g 0)
            obtain ⟨⟨pid, pb⟩, hp⟩ : ∃ p, pickV (rdyA R L) 0 = p := ⟨_, rfl⟩
            rw [hp] at HP HPG
            clear hp
            unfold scV at HP
            simp only at HP
            cases pb
            · obtain ⟨e0, hfin⟩ := HE.out.fin (HPG.out.2 rfl HE.out.u)
              subst e0
              have HF0 := Lib.hid hfin
              clear hfin HE
              go_wp2_with (first
                | (refine wpList_load_row rfl 25 (.tmp 5) rfl (b5) rfl 25 (scC A m c A2 0 c2) (0, 0) _ k51.blk Try.underlying25 rfl (sc_inf _ _ _ _ _ _) ?_)
                | (refine HP.out.mono ?_
                   clear HP
                   rintro e Y1 ⟨rfl, bb⟩
                   have HF := Lib.hid (HF0.out.keep bb)
                   have q0 : Y1.cell? ⟨b5, 0, none⟩ = some (.slice A m c) := HF.out.k.cell 0
                   clear bb k51 HF0))
              try clear q0
              go_loopw [140] (fun iv wr' => ∃ (i : Nat) (V : World), V = wr' ∧ i ≤ m ∧ iv = .int .i64 i ∧ Hid (Fin13 w V b5 A m c R A2 c2)) (fun iv _ => m - (intOf iv).toNat)
              case atStart => exact ⟨0, _, rfl, Nat.zero_le _, rfl, HF⟩
              case round =>
                clear HF
                obtain ⟨f, Z, hwr, hf, rfl, HF⟩ := hrel
                subst hwr
                by_cases hltf : f < m
                · have hltf' : (f : Int) < (m : Int) := by omega
                  have hm8 := HF.out.lim
                  have hfl : f < R.length := by have := HF.out.len; omega
                  obtain ⟨fb, fo, rfl, hfb, hfc⟩ := HF.out.rs f hfl
                  have hfs : ((R.getD f rn0).s != 2) = false := by
                    have := HF.out.all (R.getD f rn0) (by rw [show R.getD f rn0 = R[f] by simp [List.getD, hfl]]; exact List.getElem_mem _)
                    simpa using this
                  generalize R.getD f rn0 = z at hfc hfs
                  have hcz : World.rangeAt Z fb (fo + f * 3) [.int .i64 z.i, .int .i64 z.s, .int .i64 z.n] := hfc
                  clear hfc hfl
                  go_wp2_with (first
                    | (refine wpList_load_mid rfl 52 (.tmp 142) rfl fb (fo + f * 3) rfl _ _ hcz Try.underlying52 rfl (rn_infL z) ?_)
                    | (refine wpList_store_blk rfl 52 (.tmp 22) (.tmp 143) rfl Z.heap.size (rnC rn0) (rnC z) 52 rfl rfl (Blk.new _ _ _) rfl (rn_inf z) (rn_one z) ?_
                       intro Z1 kb1 nb
                       have HF1 := Lib.hid (HF.out.keep (((Below.refl _ Z).alloc (Nat.le_refl _) _).trans (nb.below _ (Nat.le_refl _) (by simp))))
                       have qz : Z1.cell? ⟨Z.heap.size, 1, none⟩ = some (.int .i64 z.s) := kb1.cell 1
                       clear nb hcz))
                  go_roundw
                  case rel => exact ⟨f + 1, _, rfl, by omega, by go_num, HF1⟩
                  case measure => simp [intOf]; omega
                · have hgef : ¬ ((f : Int) < (m : Int)) := by omega
                  have qz1 : Z.cell? ⟨b5, 1, none⟩ = some (.slice A2 0 c2) := HF.out.k.cell 1
                  have qz0 : Z.cell? ⟨b5, 0, none⟩ = some (.slice A m c) := HF.out.k.cell 0
                  have hpos : 0 < m := HF.out.ne
                  have hb9 := Lib.hid HF.out.b
                  clear hltf HF
                  go_wp2_with fail
                  go_ret
                  exact ⟨rfl, hb9.out⟩
            · obtain ⟨x, hx, hs, hxi⟩ := HPG.out.1 rfl
              have hxi : x.i = pid := hxi
              subst hxi
              obtain ⟨t1, t2, t3, t4, t6⟩ := end_good HE.out.g hx hs
              have t5 := t3 HE.out.u
              have HT := Lib.hid (fun (W : World) (hW : Ed w W b5 j A m c R A2 m2 c2 L) => end_pub A m c R A2 m2 c2 L x.i W hW.sc)
              rw [t1] at HT
              clear t1 t3 hx hs HPG
              obtain ⟨tr, htr⟩ : ∃ tr, (endR R L x.i).1 = tr := ⟨_, rfl⟩
              obtain ⟨tk, htk⟩ : ∃ tk, (endR R L x.i).2.1 = tk := ⟨_, rfl⟩
              rw [htr, htk] at HT t2 t5
              rw [htr] at t4 t6
              clear htr htk
              unfold scV at HT
              have HG := Lib.hid (show Good tr tk ∧ Up13 tr tk ∧ 0 < tr.length ∧ (leftL tr).length + (j + 1) ≤ 8 from ⟨t2, t5, by rw [t6]; exact HE.out.ne, by have := HE.out.lf; omega⟩)
              clear t2 t4 t5 t6
              go_wp2_with (first
                | (refine wpList_load_row rfl 25 (.tmp 5) rfl (b5) rfl 25 (scC A m c A2 m2 c2) (0, 0) _ k51.blk Try.underlying25 rfl (sc_inf _ _ _ _ _ _) ?_)
                | (refine HP.out.mono ?_
                   clear HP
                   rintro e Y1 ⟨rfl, bb⟩
                   have HE1 := Lib.hid (HE.out.keep bb)
                   have k52 := HE1.out.k
                   clear bb k51 HE)
                | (refine wpList_load_row rfl 25 (.tmp 5) rfl (b5) rfl 25 (scC A m c A2 m2 c2) (0, 0) _ k52.blk Try.underlying25 rfl (sc_inf _ _ _ _ _ _) ?_)
                | (refine (HT.out _ HE1.out).mono ?_
                   clear HT
                   rintro e Y2 ⟨v, rfl, ⟨A5, m5, c5, A6, m6, c6, L5, rfl, sc5, hn5, fr5⟩, bb⟩
                   have k53 := k52.below bb k52.lt
                   have H5 := Lib.hid (And.intro sc5 (And.intro hn5 (And.intro fr5 bb)))
                   clear sc5 hn5 fr5 bb k52
                   unfold scV)
                | (refine wpList_store_blk rfl 25 (.tmp 19) (.tmp 131) rfl Y2.heap.size (scC none 0 0 none 0 0) (scC A5 m5 c5 A6 m6 c6) 25 rfl rfl (Blk.new _ _ _) rfl (sc_inf _ _ _ _ _ _) (sc_one _ _ _ _ _ _) ?_
                   intro Y3 kt3 nn
                   have bb : Below Y2.heap.size Y2 Y3 := ((Below.refl _ Y2).alloc (Nat.le_refl _) _).trans (nn.below _ (Nat.le_refl _) (by simp))
                   have k54 := k53.below bb k53.lt
                   have H6 := Lib.hid (And.intro (H5.out.1.on bb) (H5.out.2.2.2.trans (bb.mono H5.out.2.2.2.size)))
                   clear bb nn k53)
                | (refine wpList_load_row rfl 25 (.tmp 19) rfl (Y2.heap.size) rfl 25 (scC A5 m5 c5 A6 m6 c6) (0, 0) _ kt3.blk Try.underlying25 rfl (sc_inf _ _ _ _ _ _) ?_)
                | (refine wpList_store_blk rfl 25 (.tmp 5) (.tmp 135) rfl b5 (scC A m c A2 m2 c2) (scC A5 m5 c5 A6 m6 c6) 25 rfl rfl k54 rfl (sc_inf _ _ _ _ _ _) (sc_one _ _ _ _ _ _) ?_
                   intro Y4 k55 n6
                   have HE6 := Lib.hid (HE1.out.put (j' := j + 1) H6.out.2 H6.out.1 H5.out.2.2.1 n6 k55 (by rw [H5.out.2.1]; exact HG.out.1) (by rw [H5.out.2.1]; exact HG.out.2.1) HG.out.2.2.1 HG.out.2.2.2)
                   clear n6 k54 k55))
              go_roundw
              case rel => exact ⟨j + 1, _, A5, m5, c5, _, A6, m6, c6, L5, rfl, by omega, by go_num, HE6⟩
              case measure => simp [intOf]; omega
          · have hge8 : ¬ ((j : Int) < 8) := by omega
            have hj8 : j = 8 := by omega
            have HE8 : Ed w Y b5 8 A m c R A2 m2 c2 L := by rw [← hj8]; exact HE.out
            obtain ⟨e0, hfin⟩ := HE8.fin HE8.eight
            subst e0
            have HF := Lib.hid hfin
            have q0 : Y.cell? ⟨b5, 0, none⟩ = some (.slice A m c) := HF.out.k.cell 0
            clear hfin HE HE8 hj8 hlt8
            go_wp2_with fail
            try clear q0
            go_loopw [140] (fun iv wr' => ∃ (i : Nat) (V : World), V = wr' ∧ i ≤ m ∧ iv = .int .i64 i ∧ Hid (Fin13 w V b5 A m c R A2 c2)) (fun iv _ => m - (intOf iv).toNat)
            case atStart => exact ⟨0, _, rfl, Nat.zero_le _, rfl, HF⟩
            case round =>
              clear HF
              obtain ⟨f, Z, hwr, hf, rfl, HF⟩ := hrel
              subst hwr
              by_cases hltf : f < m
              · have hltf' : (f : Int) < (m : Int) := by omega
                have hm8 := HF.out.lim
                have hfl : f < R.length := by have := HF.out.len; omega
                obtain ⟨fb, fo, rfl, hfb, hfc⟩ := HF.out.rs f hfl
                have hfs : ((R.getD f rn0).s != 2) = false := by
                  have := HF.out.all (R.getD f rn0) (by rw [show R.getD f rn0 = R[f] by simp [List.getD, hfl]]; exact List.getElem_mem _)
                  simpa using this
                generalize R.getD f rn0 = z at hfc hfs
                have hcz : World.rangeAt Z fb (fo + f * 3) [.int .i64 z.i, .int .i64 z.s, .int .i64 z.n] := hfc
                clear hfc hfl
                go_wp2_with (first
                  | (refine wpList_load_mid rfl 52 (.tmp 142) rfl fb (fo + f * 3) rfl _ _ hcz Try.underlying52 rfl (rn_infL z) ?_)
                  | (refine wpList_store_blk rfl 52 (.tmp 22) (.tmp 143) rfl Z.heap.size (rnC rn0) (rnC z) 52 rfl rfl (Blk.new _ _ _) rfl (rn_inf z) (rn_one z) ?_
                     intro Z1 kb1 nb
                     have HF1 := Lib.hid (HF.out.keep (((Below.refl _ Z).alloc (Nat.le_refl _) _).trans (nb.below _ (Nat.le_refl _) (by simp))))
                     have qz : Z1.cell? ⟨Z.heap.size, 1, none⟩ = some (.int .i64 z.s) := kb1.cell 1
                     clear nb hcz))
                go_roundw
                case rel => exact ⟨f + 1, _, rfl, by omega, by go_num, HF1⟩
                case measure => simp [intOf]; omega
              · have hgef : ¬ ((f : Int) < (m : Int)) := by omega
                have qz1 : Z.cell? ⟨b5, 1, none⟩ = some (.slice A2 0 c2) := HF.out.k.cell 1
                have qz0 : Z.cell? ⟨b5, 0, none⟩ = some (.slice A m c) := HF.out.k.cell 0
                have hpos : 0 < m := HF.out.ne
                have hb9 := Lib.hid HF.out.b
                clear hltf HF
                go_wp2_with fail
                go_ret
                exact ⟨rfl, hb9.out⟩
      · have h1 : ((i : Int) == 100) = false := by simp; omega
        have hi99 : i < 100 := by omega
        clear h100
        have HP := Lib.hid (fun (W : World) (hW : Ed w W b5 0 A m c R A2 m2 c2 L) => pick_sc A m c R A2 m2 c2 L q.s W hW.sc)
        have HPG := Lib.hid (pick_good HE.out.g q.s)
        obtain ⟨⟨pid, pb⟩, hp⟩ : ∃ p, pickV (rdyA R L) q.s = p := ⟨_, rfl⟩
        rw [hp] at HP HPG
        clear hp
        unfold scV at HP
        simp only at HP
        cases pb
        · go_wp2_with (first
            | (refine wpList_load_mid rfl 58 (.tmp 35) rfl b (off + i * 3) rfl _ _ hcy Try.underlying58 rfl (act_infL q) ?_)
            | (refine wpList_store_blk rfl 58 (.tmp 7) (.tmp 36) rfl V.heap.size (rnC rn0) (rnC q) 58 rfl rfl (Blk.new _ _ _) rfl (act_inf q) (rn_one q) ?_
               intro V1 kb1 nb
               have HE1 := Lib.hid (HE.out.keep (((Below.refl _ V).alloc (Nat.le_refl _) _).trans (nb.below _ (Nat.le_refl _) (by simp))))
               have k51 := HE1.out.k
               have q71 : V1.cell? ⟨V.heap.size, 1, none⟩ = some (.int .i64 q.s) := kb1.cell 1
               clear nb hcy)
            | (refine wpList_load_row rfl 25 (.tmp 5) rfl (b5) rfl 25 (scC A m c A2 m2 c2) (0, 0) _ k51.blk Try.underlying25 rfl (sc_inf _ _ _ _ _ _) ?_)
            | (refine (HP.out _ HE1.out).mono ?_
               clear HP
               rintro e V2 ⟨rfl, bb⟩
               have HE2 := Lib.hid (HE1.out.keep bb)
               have k52 := HE2.out.k
               have kb2 := kb1.below bb kb1.lt
               have q72 : V2.cell? ⟨V.heap.size, 2, none⟩ = some (.int .i64 q.n) := kb2.cell 2
               clear bb q71 kb1 k51))
          have HEN := HE2
          go_wp2_with fail
          clear HE
          go_loopw [118] (fun iv wr' => ∃ (j : Nat) (V : World) (A : Option Addr) (m c : Nat) (R : List Rn) (A2 : Option Addr) (m2 c2 : Nat) (L : List Kw), V = wr' ∧ j ≤ 8 ∧ iv = .int .i64 j ∧ Hid (Ed w V b5 j A m c R A2 m2 c2 L)) (fun iv _ => 8 - (intOf iv).toNat)
          case atStart => exact ⟨0, _, A, m, c, R, A2, m2, c2, L, rfl, Nat.zero_le _, rfl, HEN⟩
          case round =>
            clear HEN
            obtain ⟨j, Y, A, m, c, R, A2, m2, c2, L, hwr, hj, rfl, HE⟩ := hrel
            subst hwr
            by_cases hlt8 : j < 8
            · have hlt8' : (j : Int) < 8 := by omega
              have k51 := HE.out.k
              have HP := Lib.hid (pick_sc A m c R A2 m2 c2 L 0 Y HE.out.sc)
              have HPG := Lib.hid (pick_good HE.out.g 0)
              obtain ⟨⟨pid, pb⟩, hp⟩ : ∃ p, pickV (rdyA R L) 0 = p := ⟨_, rfl⟩
              rw [hp] at HP HPG
              clear hp
              unfold scV at HP
              simp only at HP
              cases pb
              · obtain ⟨e0, hfin⟩ := HE.out.fin (HPG.out.2 rfl HE.out.u)
                subst e0
                have HF0 := Lib.hid hfin
                clear hfin HE
                go_wp2_with (first
                  | (refine wpList_load_row rfl 25 (.tmp 5) rfl (b5) rfl 25 (scC A m c A2 0 c2) (0, 0) _ k51.blk Try.underlying25 rfl (sc_inf _ _ _ _ _ _) ?_)
                  | (refine HP.out.mono ?_
                     clear HP
                     rintro e Y1 ⟨rfl, bb⟩
                     have HF := Lib.hid (HF0.out.keep bb)
                     have q0 : Y1.cell? ⟨b5, 0, none⟩ = some (.slice A m c) := HF.out.k.cell 0
                     clear bb k51 HF0))
                try clear q0
                go_loopw [140] (fun iv wr' => ∃ (i : Nat) (V : World), V = wr' ∧ i ≤ m ∧ iv = .int .i64 i ∧ Hid (Fin13 w V b5 A m c R A2 c2)) (fun iv _ => m - (intOf iv).toNat)
                case atStart => exact ⟨0, _, rfl, Nat.zero_le _, rfl, HF⟩
                case round =>
                  clear HF
                  obtain ⟨f, Z, hwr, hf, rfl, HF⟩ := hrel
                  subst hwr
                  by_cases hltf : f < m
                  · have hltf' : (f : Int) < (m : Int) := by omega
                    have hm8 := HF.out.lim
                    have hfl : f < R.length := by have := HF.out.len; omega
                    obtain ⟨fb, fo, rfl, hfb, hfc⟩ := HF.out.rs f hfl
                    have hfs : ((R.getD f rn0).s != 2) = false := by
                      have := HF.out.all (R.getD f rn0) (by rw [show R.getD f rn0 = R[f] by simp [List.getD, hfl]]; exact List.getElem_mem _)
                      simpa using this
                    generalize R.getD f rn0 = z at hfc hfs
                    have hcz : World.rangeAt Z fb (fo + f * 3) [.int .i64 z.i, .int .i64 z.s, .int .i64 z.n] := hfc
                    clear hfc hfl
                    go_wp2_with (first
                      | (refine wpList_load_mid rfl 52 (.tmp 142) rfl fb (fo + f * 3) rfl _ _ hcz Try.underlying52 rfl (rn_infL z) ?_)
                      | (refine wpList_store_blk rfl 52 (.tmp 22) (.tmp 143) rfl Z.heap.size (rnC rn0) (rnC z) 52 rfl rfl (Blk.new _ _ _) rfl (rn_inf z) (rn_one z) ?_
                         intro Z1 kb1 nb
                         have HF1 := Lib.hid (HF.out.keep (((Below.refl _ Z).alloc (Nat.le_refl _) _).trans (nb.below _ (Nat.le_refl _) (by simp))))
                         have qz : Z1.cell? ⟨Z.heap.size, 1, none⟩ = some (.int .i64 z.s) := kb1.cell 1
                         clear nb hcz))
                    go_roundw
                    case rel => exact ⟨f + 1, _, rfl, by omega, by go_num, HF1⟩
                    case measure => simp [intOf]; omega
                  · have hgef : ¬ ((f : Int) < (m : Int)) := by omega
                    have qz1 : Z.cell? ⟨b5, 1, none⟩ = some (.slice A2 0 c2) := HF.out.k.cell 1
                    have qz0 : Z.cell? ⟨b5, 0, none⟩ = some (.slice A m c) := HF.out.k.cell 0
                    have hpos : 0 < m := HF.out.ne
                    have hb9 := Lib.hid HF.out.b
                    clear hltf HF
                    go_wp2_with fail
                    go_ret
                    exact ⟨rfl, hb9.out⟩
              · obtain ⟨x, hx, hs, hxi⟩ := HPG.out.1 rfl
                have hxi : x.i = pid := hxi
                subst hxi
                obtain ⟨t1, t2, t3, t4, t6⟩ := end_good HE.out.g hx hs
                have t5 := t3 HE.out.u
                have HT := Lib.hid (fun (W : World) (hW : Ed w W b5 j A m c R A2 m2 c2 L) => end_pub A m c R A2 m2 c2 L x.i W hW.sc)
                rw [t1] at HT
                clear t1 t3 hx hs HPG
                obtain ⟨tr, htr⟩ : ∃ tr, (endR R L x.i).1 = tr := ⟨_, rfl⟩
                obtain ⟨tk, htk⟩ : ∃ tk, (endR R L x.i).2.1 = tk := ⟨_, rfl⟩
                rw [htr, htk] at HT t2 t5
                rw [htr] at t4 t6
                clear htr htk
                unfold scV at HT
                have HG := Lib.hid (show Good tr tk ∧ Up13 tr tk ∧ 0 < tr.length ∧ (leftL tr).length + (j + 1) ≤ 8 from ⟨t2, t5, by rw [t6]; exact HE.out.ne, by have := HE.out.lf; omega⟩)
                clear t2 t4 t5 t6
                go_wp2_with (first
                  | (refine wpList_load_row rfl 25 (.tmp 5) rfl (b5) rfl 25 (scC A m c A2 m2 c2) (0, 0) _ k51.blk Try.underlying25 rfl (sc_inf _ _ _ _ _ _) ?_)
                  | (refine HP.out.mono ?_
                     clear HP
                     rintro e Y1 ⟨rfl, bb⟩
                     have HE1 := Lib.hid (HE.out.keep bb)
                     have k52 := HE1.out.k
                     clear bb k51 HE)
                  | (refine wpList_load_row rfl 25 (.tmp 5) rfl (b5) rfl 25 (scC A m c A2 m2 c2) (0, 0) _ k52.blk Try.underlying25 rfl (sc_inf _ _ _ _ _ _) ?_)
                  | (refine (HT.out _ HE1.out).mono ?_
                     clear HT
                     rintro e Y2 ⟨v, rfl, ⟨A5, m5, c5, A6, m6, c6, L5, rfl, sc5, hn5, fr5⟩, bb⟩
                     have k53 := k52.below bb k52.lt
                     have H5 := Lib.hid (And.intro sc5 (And.intro hn5 (And.intro fr5 bb)))
                     clear sc5 hn5 fr5 bb k52
                     unfold scV)
                  | (refine wpList_store_blk rfl 25 (.tmp 19) (.tmp 131) rfl Y2.heap.size (scC none 0 0 none 0 0) (scC A5 m5 c5 A6 m6 c6) 25 rfl rfl (Blk.new _ _ _) rfl (sc_inf _ _ _ _ _ _) (sc_one _ _ _ _ _ _) ?_
                     intro Y3 kt3 nn
                     have bb : Below Y2.heap.size Y2 Y3 := ((Below.refl _ Y2).alloc (Nat.le_refl _) _).trans (nn.below _ (Nat.le_refl _) (by simp))
                     have k54 := k53.below bb k53.lt
                     have H6 := Lib.hid (And.intro (H5.out.1.on bb) (H5.out.2.2.2.trans (bb.mono H5.out.2.2.2.size)))
                     clear bb nn k53)
                  | (refine wpList_load_row rfl 25 (.tmp 19) rfl (Y2.heap.size) rfl 25 (scC A5 m5 c5 A6 m6 c6) (0, 0) _ kt3.blk Try.underlying25 rfl (sc_inf _ _ _ _ _ _) ?_)
                  | (refine wpList_store_blk rfl 25 (.tmp 5) (.tmp 135) rfl b5 (scC A m c A2 m2 c2) (scC A5 m5 c5 A6 m6 c6) 25 rfl rfl k54 rfl (sc_inf _ _ _ _ _ _) (sc_one _ _ _ _ _ _) ?_
                     intro Y4 k55 n6
                     have HE6 := Lib.hid (HE1.out.put (j' := j + 1) H6.out.2 H6.out.1 H5.out.2.2.1 n6 k55 (by rw [H5.out.2.1]; exact HG.out.1) (by rw [H5.out.2.1]; exact HG.out.2.1) HG.out.2.2.1 HG.out.2.2.2)
                     clear n6 k54 k55))
                go_roundw
                case rel => exact ⟨j + 1, _, A5, m5, c5, _, A6, m6, c6, L5, rfl, by omega, by go_num, HE6⟩
                case measure => simp [intOf]; omega
            · have hge8 : ¬ ((j : Int) < 8) := by omega
              have hj8 : j = 8 := by omega
              have HE8 : Ed w Y b5 8 A m c R A2 m2 c2 L := by rw [← hj8]; exact HE.out
              obtain ⟨e0, hfin⟩ := HE8.fin HE8.eight
              subst e0
              have HF := Lib.hid hfin
              have q0 : Y.cell? ⟨b5, 0, none⟩ = some (.slice A m c) := HF.out.k.cell 0
              clear hfin HE HE8 hj8 hlt8
              go_wp2_with fail
              try clear q0
              go_loopw [140] (fun iv wr' => ∃ (i : Nat) (V : World), V = wr' ∧ i ≤ m ∧ iv = .int .i64 i ∧ Hid (Fin13 w V b5 A m c R A2 c2)) (fun iv _ => m - (intOf iv).toNat)
              case atStart => exact ⟨0, _, rfl, Nat.zero_le _, rfl, HF⟩
              case round =>
                clear HF
                obtain ⟨f, Z, hwr, hf, rfl, HF⟩ := hrel
                subst hwr
                by_cases hltf : f < m
                · have hltf' : (f : Int) < (m : Int) := by omega
                  have hm8 := HF.out.lim
                  have hfl : f < R.length := by have := HF.out.len; omega
                  obtain ⟨fb, fo, rfl, hfb, hfc⟩ := HF.out.rs f hfl
                  have hfs : ((R.getD f rn0).s != 2) = false := by
                    have := HF.out.all (R.getD f rn0) (by rw [show R.getD f rn0 = R[f] by simp [List.getD, hfl]]; exact List.getElem_mem _)
                    simpa using this
                  generalize R.getD f rn0 = z at hfc hfs
                  have hcz : World.rangeAt Z fb (fo + f * 3) [.int .i64 z.i, .int .i64 z.s, .int .i64 z.n] := hfc
                  clear hfc hfl
                  go_wp2_with (first
                    | (refine wpList_load_mid rfl 52 (.tmp 142) rfl fb (fo + f * 3) rfl _ _ hcz Try.underlying52 rfl (rn_infL z) ?_)
                    | (refine wpList_store_blk rfl 52 (.tmp 22) (.tmp 143) rfl Z.heap.size (rnC rn0) (rnC z) 52 rfl rfl (Blk.new _ _ _) rfl (rn_inf z) (rn_one z) ?_
                       intro Z1 kb1 nb
                       have HF1 := Lib.hid (HF.out.keep (((Below.refl _ Z).alloc (Nat.le_refl _) _).trans (nb.below _ (Nat.le_refl _) (by simp))))
                       have qz : Z1.cell? ⟨Z.heap.size, 1, none⟩ = some (.int .i64 z.s) := kb1.cell 1
                       clear nb hcz))
                  go_roundw
                  case rel => exact ⟨f + 1, _, rfl, by omega, by go_num, HF1⟩
                  case measure => simp [intOf]; omega
                · have hgef : ¬ ((f : Int) < (m : Int)) := by omega
                  have qz1 : Z.cell? ⟨b5, 1, none⟩ = some (.slice A2 0 c2) := HF.out.k.cell 1
                  have qz0 : Z.cell? ⟨b5, 0, none⟩ = some (.slice A m c) := HF.out.k.cell 0
                  have hpos : 0 < m := HF.out.ne
                  have hb9 := Lib.hid HF.out.b
                  clear hltf HF
                  go_wp2_with fail
                  go_ret
                  exact ⟨rfl, hb9.out⟩
        · obtain ⟨x, hx, hs, hxi⟩ := HPG.out.1 rfl
          have hxi : x.i = pid := hxi
          subst hxi
          have HX := Lib.hid (And.intro hx hs)
          clear hx hs HPG
          obtain ⟨lk, hlk, hr40, hr40t⟩ := rem_nat q.n 40 (by decide)
          have hmx : (0 : Int) ≤ max q.n 0 := by omega
          have HOW := Lib.hid (fun (W : World) (hW : Ed w W b5 0 A m c R A2 m2 c2 L) => owns_sc A m c R A2 m2 c2 L x.i W hW.sc)
          rw [show ownsA R L x.i = ownsN (L.map (·.1)) x.i by unfold ownsA; rw [if_pos (scE_good HE.out.g), ownsF_N]] at HOW
          unfold scV at HOW
          cases hk3 : (q.i.tmod 3 == 0)
          · cases hk1 : (q.i.tmod 3 == 1)
            · go_wp2_with (first
                | (refine wpList_load_mid rfl 58 (.tmp 35) rfl b (off + i * 3) rfl _ _ hcy Try.underlying58 rfl (act_infL q) ?_)
                | (refine wpList_store_blk rfl 58 (.tmp 7) (.tmp 36) rfl V.heap.size (rnC rn0) (rnC q) 58 rfl rfl (Blk.new _ _ _) rfl (act_inf q) (rn_one q) ?_
                   intro V1 kb1 nb
                   have HE1 := Lib.hid (HE.out.keep (((Below.refl _ V).alloc (Nat.le_refl _) _).trans (nb.below _ (Nat.le_refl _) (by simp))))
                   have k51 := HE1.out.k
                   have q71 : V1.cell? ⟨V.heap.size, 1, none⟩ = some (.int .i64 q.s) := kb1.cell 1
                   clear nb hcy)
                | (refine wpList_load_row rfl 25 (.tmp 5) rfl (b5) rfl 25 (scC A m c A2 m2 c2) (0, 0) _ k51.blk Try.underlying25 rfl (sc_inf _ _ _ _ _ _) ?_)
                | (refine (HP.out _ HE1.out).mono ?_
                   clear HP
                   rintro e V2 ⟨rfl, bb⟩
                   have HE2 := Lib.hid (HE1.out.keep bb)
                   have k52 := HE2.out.k
                   have kb2 := kb1.below bb kb1.lt
                   have q72 : V2.cell? ⟨V.heap.size, 2, none⟩ = some (.int .i64 q.n) := kb2.cell 2
                   clear bb q71 kb1 k51)
                | (refine wpList_load_row rfl 25 (.tmp 5) rfl (b5) rfl 25 (scC A m c A2 m2 c2) (0, 0) _ k52.blk Try.underlying25 rfl (sc_inf _ _ _ _ _ _) ?_)
                | (refine (HOW.out _ HE2.out).mono ?_
                   clear HOW
                   rintro e V3 ⟨G, gm, gc, rfl, zo, bb⟩
                   have HE3 := Lib.hid (HE2.out.keep bb)
                   have k53 := HE3.out.k
                   have kb3 := kb2.below bb kb2.lt
                   have q70 : V3.cell? ⟨V.heap.size, 0, none⟩ = some (.int .i64 q.i) := kb3.cell 0
                   have q73 : V3.cell? ⟨V.heap.size, 2, none⟩ = some (.int .i64 q.n) := kb3.cell 2
                   clear zo
                   clear bb q72 kb2 k52 hr40 hr40t)
                | (refine wpList_load_row rfl 25 (.tmp 5) rfl (b5) rfl 25 (scC A m c A2 m2 c2) (0, 0) _ k53.blk Try.underlying25 rfl (sc_inf _ _ _ _ _ _) ?_)
                | (have HST := stuck_sc A m c R A2 m2 c2 L V3 HE3.out.sc
                   rw [not_stuck HE3.out.g HE3.out.u] at HST
                   unfold scV at HST
                   refine HST.mono ?_
                   clear HST
                   rintro e V4 ⟨rfl, bb⟩
                   have HE4 := Lib.hid (HE3.out.keep bb)
                   clear bb))
              go_roundw
              case rel => exact ⟨i + 1, _, A, m, c, R, A2, m2, c2, L, rfl, by omega, by omega, by go_num, HE4⟩
              case measure => simp [intOf]; omega
            · cases hown : (ownsN (L.map (·.1)) x.i).length with
              | zero =>
                go_wp2_with (first
                  | (refine wpList_load_mid rfl 58 (.tmp 35) rfl b (off + i * 3) rfl _ _ hcy Try.underlying58 rfl (act_infL q) ?_)
                  | (refine wpList_store_blk rfl 58 (.tmp 7) (.tmp 36) rfl V.heap.size (rnC rn0) (rnC q) 58 rfl rfl (Blk.new _ _ _) rfl (act_inf q) (rn_one q) ?_
                     intro V1 kb1 nb
                     have HE1 := Lib.hid (HE.out.keep (((Below.refl _ V).alloc (Nat.le_refl _) _).trans (nb.below _ (Nat.le_refl _) (by simp))))
                     have k51 := HE1.out.k
                     have q71 : V1.cell? ⟨V.heap.size, 1, none⟩ = some (.int .i64 q.s) := kb1.cell 1
                     clear nb hcy)
                  | (refine wpList_load_row rfl 25 (.tmp 5) rfl (b5) rfl 25 (scC A m c A2 m2 c2) (0, 0) _ k51.blk Try.underlying25 rfl (sc_inf _ _ _ _ _ _) ?_)
                  | (refine (HP.out _ HE1.out).mono ?_
                     clear HP
                     rintro e V2 ⟨rfl, bb⟩
                     have HE2 := Lib.hid (HE1.out.keep bb)
                     have k52 := HE2.out.k
                     have kb2 := kb1.below bb kb1.lt
                     have q72 : V2.cell? ⟨V.heap.size, 2, none⟩ = some (.int .i64 q.n) := kb2.cell 2
                     clear bb q71 kb1 k51)
                  | (refine wpList_load_row rfl 25 (.tmp 5) rfl (b5) rfl 25 (scC A m c A2 m2 c2) (0, 0) _ k52.blk Try.underlying25 rfl (sc_inf _ _ _ _ _ _) ?_)
                  | (refine (HOW.out _ HE2.out).mono ?_
                     clear HOW
                     rintro e V3 ⟨G, gm, gc, rfl, zo, bb⟩
                     have HE3 := Lib.hid (HE2.out.keep bb)
                     have k53 := HE3.out.k
                     have kb3 := kb2.below bb kb2.lt
                     have q70 : V3.cell? ⟨V.heap.size, 0, none⟩ = some (.int .i64 q.i) := kb3.cell 0
                     have q73 : V3.cell? ⟨V.heap.size, 2, none⟩ = some (.int .i64 q.n) := kb3.cell 2
                     have hgm := zo.len
                     rw [hown] at hgm
                     subst hgm
                     clear zo
                     clear bb q72 kb2 k52 hr40 hr40t)
                  | (refine wpList_load_row rfl 25 (.tmp 5) rfl (b5) rfl 25 (scC A m c A2 m2 c2) (0, 0) _ k53.blk Try.underlying25 rfl (sc_inf _ _ _ _ _ _) ?_)
                  | (have HST := stuck_sc A m c R A2 m2 c2 L V3 HE3.out.sc
                     rw [not_stuck HE3.out.g HE3.out.u] at HST
                     unfold scV at HST
                     refine HST.mono ?_
                     clear HST
                     rintro e V4 ⟨rfl, bb⟩
                     have HE4 := Lib.hid (HE3.out.keep bb)
                     clear bb))
                go_roundw
                case rel => exact ⟨i + 1, _, A, m, c, R, A2, m2, c2, L, rfl, by omega, by omega, by go_num, HE4⟩
                case measure => simp [intOf]; omega
              | succ p =>
                have hpb : p ≤ 100000 := by have h8 := ownsF_len L x.i; rw [ownsF_N, hown] at h8; have := HE.out.sc.len2; have := HE.out.sc.lim2; omega
                have HGE := HE.out.g
                obtain ⟨ix, hix, hrx⟩ := rem_nat q.n ((p : Int) + 1) (by omega)
                have HRX := Lib.hid hrx
                clear hrx
                obtain ⟨y, hy, hyn, hyo⟩ := own_at (K := L.map (·.1)) (id := x.i) (j := ix) (by rw [hown]; omega)
                have t1 := give_good HGE HX.out.1 HX.out.2 hy hyo
                obtain ⟨t2, t3⟩ := HGE.give hy
                have t5 := t3 HE.out.u
                have t4 := giveN_len R (L.map (·.1)) y.n
                have HT := Lib.hid (fun (W : World) (hW : Ed w W b5 0 A m c R A2 m2 c2 L) => give_pub A m c R A2 m2 c2 L x.i y.n W hW.sc)
                rw [t1] at HT
                clear t1 t3 hyo
                obtain ⟨tr, htr⟩ : ∃ tr, (giveN R (L.map (·.1)) y.n).1 = tr := ⟨_, rfl⟩
                obtain ⟨tk, htk⟩ : ∃ tk, (giveN R (L.map (·.1)) y.n).2 = tk := ⟨_, rfl⟩
                rw [htr, htk] at HT t2 t5
                rw [htr] at t4
                clear htr htk hy
                unfold scV at HT
                simp only at HT
                have HYN := Lib.hid hyn
                clear hyn
                have HG := Lib.hid (show Good tr tk ∧ Up13 tr tk ∧ 0 < tr.length ∧ (leftL tr).length + 0 ≤ 8 from ⟨t2, t5, by rw [t4]; exact HE.out.ne, by have := leftL_len tr; have := t2.len; omega⟩)
                clear t2 t4 t5 HGE
                go_wp2_with (first
                  | (refine wpList_load_mid rfl 58 (.tmp 35) rfl b (off + i * 3) rfl _ _ hcy Try.underlying58 rfl (act_infL q) ?_)
                  | (refine wpList_store_blk rfl 58 (.tmp 7) (.tmp 36) rfl V.heap.size (rnC rn0) (rnC q) 58 rfl rfl (Blk.new _ _ _) rfl (act_inf q) (rn_one q) ?_
                     intro V1 kb1 nb
                     have HE1 := Lib.hid (HE.out.keep (((Below.refl _ V).alloc (Nat.le_refl _) _).trans (nb.below _ (Nat.le_refl _) (by simp))))
                     have k51 := HE1.out.k
                     have q71 : V1.cell? ⟨V.heap.size, 1, none⟩ = some (.int .i64 q.s) := kb1.cell 1
                     clear nb hcy)
                  | (refine wpList_load_row rfl 25 (.tmp 5) rfl (b5) rfl 25 (scC A m c A2 m2 c2) (0, 0) _ k51.blk Try.underlying25 rfl (sc_inf _ _ _ _ _ _) ?_)
                  | (refine (HP.out _ HE1.out).mono ?_
                     clear HP
                     rintro e V2 ⟨rfl, bb⟩
                     have HE2 := Lib.hid (HE1.out.keep bb)
                     have k52 := HE2.out.k
                     have kb2 := kb1.below bb kb1.lt
                     have q72 : V2.cell? ⟨V.heap.size, 2, none⟩ = some (.int .i64 q.n) := kb2.cell 2
                     clear bb q71 kb1 k51)
                  | (refine wpList_load_row rfl 25 (.tmp 5) rfl (b5) rfl 25 (scC A m c A2 m2 c2) (0, 0) _ k52.blk Try.underlying25 rfl (sc_inf _ _ _ _ _ _) ?_)
                  | (refine (HOW.out _ HE2.out).mono ?_
                     clear HOW
                     rintro e V3 ⟨G, gm, gc, rfl, zo, bb⟩
                     have HE3 := Lib.hid (HE2.out.keep bb)
                     have k53 := HE3.out.k
                     have kb3 := kb2.below bb kb2.lt
                     have q70 : V3.cell? ⟨V.heap.size, 0, none⟩ = some (.int .i64 q.i) := kb3.cell 0
                     have q73 : V3.cell? ⟨V.heap.size, 2, none⟩ = some (.int .i64 q.n) := kb3.cell 2
                     have hgl := zo.len
                     rw [hown] at hgl
                     obtain ⟨gb, go, rfl, hgb, hgc⟩ := zo.ri ix (by omega)
                     rw [← HYN.out] at hgc
                     have HRY := Lib.hid (show (max q.n 0).tmod (gm : Int) = (ix : Int) by rw [hgl, show (((p + 1 : Nat)) : Int) = (p : Int) + 1 by omega]; exact HRX.out.2)
                     have HGM := Lib.hid hgl
                     have hgp : (0 : Int) < (gm : Int) := by omega
                     clear zo hgl hmx
                     clear bb q72 kb2 k52 hr40 hr40t))
                have hrx := HRY.out
                have hg0 : ((gm : Int) == 0) = false := by have := HGM.out; simp; omega
                have hgz : ¬ gm = 0 := by have := HGM.out; omega
                have hqm : (ix : Int) < (gm : Int) := by have := HGM.out; omega
                have hixb : ix ≤ 100000 := by omega
                clear q70 q73 HGM
                try simp only [Act.put]
                refine region_cutP ?_
                have Jd : Below V3.heap.size V3 V3.drew := (Below.refl _ _).drew
                refine wp_region_held_drew (S := (fun V' => Below V3.heap.size V3 V')) (by kernel_rfl) Jd (fun _ => ?_)
                refine wpAnyH_take (i := 0) (v := .agg (scC A m c A2 m2 c2)) rfl (by kernel_rfl) (by kernel_rfl) (by kernel_rfl) (fun _ _ _ h => nomatch h.1) (yieldsIf_blk (by rfl) 25 (.tmp 5) rfl b5 rfl (scC A m c A2 m2 c2) 25 _ (fun _ h => k53.below h k53.lt) Try.underlying25 rfl (sc_inf _ _ _ _ _ _)) Jd ?_
                try simp only [Act.put, List.getElem_toArray, List.getElem_cons_zero, List.getElem_cons_succ, List.setIfInBounds_toArray, List.set_cons_zero, List.set_cons_succ]
                refine wpAnyH_take (i := 1) (v := .int .i64 x.i) rfl (by kernel_rfl) (by kernel_rfl) (by kernel_rfl) (fun _ _ _ h => nomatch h.1) (.inl ⟨by rfl, fun V_ hV => by go_simp⟩) Jd ?_
                try simp only [Act.put, List.getElem_toArray, List.getElem_cons_zero, List.getElem_cons_succ, List.setIfInBounds_toArray, List.set_cons_zero, List.set_cons_succ]
                refine wpAnyH_take (i := 2) (v := .slice (some ⟨gb, go, none⟩) gm gc) rfl (by kernel_rfl) (by kernel_rfl) (by kernel_rfl) (fun _ _ _ h => nomatch h.1) (.inl ⟨by rfl, fun V_ hV => by go_simp⟩) Jd ?_
                try simp only [Act.put, List.getElem_toArray, List.getElem_cons_zero, List.getElem_cons_succ, List.setIfInBounds_toArray, List.set_cons_zero, List.set_cons_succ]
                refine wpAnyH_take (i := 3) (v := .pointer (some ⟨V.heap.size, 2, none⟩)) rfl (by kernel_rfl) (by kernel_rfl) (by kernel_rfl) (fun _ _ _ h => nomatch h.1) (.inl ⟨by rfl, fun V_ hV => by go_simp⟩) Jd ?_
                try simp only [Act.put, List.getElem_toArray, List.getElem_cons_zero, List.getElem_cons_succ, List.setIfInBounds_toArray, List.set_cons_zero, List.set_cons_succ]
                refine wpAnyH_take (i := 4) (v := .int .i64 q.n) rfl (by kernel_rfl) (by kernel_rfl) (by kernel_rfl) (fun _ _ _ h => nomatch h.1) (.inl ⟨by rfl, fun V_ hV => by have c2 : V_.cell? ⟨V.heap.size, 2, none⟩ = some (.int .i64 q.n) := (kb3.below hV kb3.lt).cell 2; go_simp⟩) Jd ?_
                try simp only [Act.put, List.getElem_toArray, List.getElem_cons_zero, List.getElem_cons_succ, List.setIfInBounds_toArray, List.set_cons_zero, List.set_cons_succ]
                refine wpAnyH_take (i := 5) (v := .int .i64 (max q.n 0)) rfl (by kernel_rfl) (by kernel_rfl) (by kernel_rfl) (fun _ _ _ h => nomatch h.1) (.inl ⟨by rfl, fun V_ hV => by go_simp⟩) Jd ?_
                try simp only [Act.put, List.getElem_toArray, List.getElem_cons_zero, List.getElem_cons_succ, List.setIfInBounds_toArray, List.set_cons_zero, List.set_cons_succ]
                refine wpAnyH_take (i := 6) (v := .slice (some ⟨gb, go, none⟩) gm gc) rfl (by kernel_rfl) (by kernel_rfl) (by kernel_rfl) (fun _ _ _ h => nomatch h.1) (.inl ⟨by rfl, fun V_ hV => by go_simp⟩) Jd ?_
                try simp only [Act.put, List.getElem_toArray, List.getElem_cons_zero, List.getElem_cons_succ, List.setIfInBounds_toArray, List.set_cons_zero, List.set_cons_succ]
                refine wpAnyH_take (i := 7) (v := .int .i64 gm) rfl (by kernel_rfl) (by kernel_rfl) (by kernel_rfl) (fun _ _ _ h => nomatch h.1) (.inl ⟨by rfl, fun V_ hV => by go_simp⟩) Jd ?_
                try simp only [Act.put, List.getElem_toArray, List.getElem_cons_zero, List.getElem_cons_succ, List.setIfInBounds_toArray, List.set_cons_zero, List.set_cons_succ]
                refine wpAnyH_take (i := 8) (v := .int .i64 ix) rfl (by kernel_rfl) (by kernel_rfl) (by kernel_rfl) (fun _ _ _ h => nomatch h.1) (.inl ⟨by rfl, fun V_ hV => by go_simp⟩) Jd ?_
                try simp only [Act.put, List.getElem_toArray, List.getElem_cons_zero, List.getElem_cons_succ, List.setIfInBounds_toArray, List.set_cons_zero, List.set_cons_succ]
                refine wpAnyH_take (i := 9) (v := .pointer (some ⟨gb, go + ix, none⟩)) rfl (by kernel_rfl) (by kernel_rfl) (by kernel_rfl) (fun _ _ _ h => nomatch h.1) (.inl ⟨by rfl, fun V_ hV => by go_simp⟩) Jd ?_
                try simp only [Act.put, List.getElem_toArray, List.getElem_cons_zero, List.getElem_cons_succ, List.setIfInBounds_toArray, List.set_cons_zero, List.set_cons_succ]
                refine wpAnyH_take (i := 10) (v := .int .i64 y.n) rfl (by kernel_rfl) (by kernel_rfl) (by kernel_rfl) (fun _ _ _ h => nomatch h.1) (.inl ⟨by rfl, fun V_ hV => by have c2 : V_.cell? ⟨gb, go + ix, none⟩ = some (.int .i64 y.n) := (hV.cell (p := ⟨gb, go + ix, none⟩) hgb).trans hgc; go_simp⟩) Jd ?_
                try simp only [Act.put, List.getElem_toArray, List.getElem_cons_zero, List.getElem_cons_succ, List.setIfInBounds_toArray, List.set_cons_zero, List.set_cons_succ]
                refine wpAnyH_ready (rs := [11, 15]) (by kernel_rfl) (by simp) ?_
                refine AllReadyH.cons rfl (fun K hK => ?_) (AllReadyH.cons rfl (fun K hK => ?_) AllReadyH.nil)
                · try simp only [Act.put, List.getElem_toArray, List.getElem_cons_zero, List.getElem_cons_succ, List.setIfInBounds_toArray, List.set_cons_zero, List.set_cons_succ]
                  go_simp
                  refine (HT.out _ (HE3.out.keep Jd)).mono ?_
                  clear HT
                  rintro e V4 ⟨v, rfl, ⟨A5, m5, c5, A6, m6, c6, L5, rfl, sc5, hn5, fr5⟩, bb⟩
                  unfold scV
                  have fr5 := fr5.down Jd.size
                  have J4 := Jd.trans (bb.mono Jd.size)
                  refine hK.out _ _ J4 (fun _ => ?_)
                  clear hK K
                  try simp only [Act.put, List.getElem_toArray, List.getElem_cons_zero, List.getElem_cons_succ, List.setIfInBounds_toArray, List.set_cons_zero, List.set_cons_succ]
                  refine wpAnyH_take (i := 12) (v := .tuple #[.agg (scC A5 m5 c5 A6 m6 c6), .int .i64 0]) rfl (by kernel_rfl) (by kernel_rfl) (by kernel_rfl) (fun _ _ _ h => nomatch h.1) (.inl ⟨by rfl, fun V_ hV => by go_simp⟩) J4 ?_
                  try simp only [Act.put, List.getElem_toArray, List.getElem_cons_zero, List.getElem_cons_succ, List.setIfInBounds_toArray, List.set_cons_zero, List.set_cons_succ]
                  refine wpAnyH_take (i := 13) (v := .agg (scC A5 m5 c5 A6 m6 c6)) rfl (by kernel_rfl) (by kernel_rfl) (by kernel_rfl) (fun _ _ _ h => nomatch h.1) (.inl ⟨by rfl, fun V_ hV => by go_simp⟩) J4 ?_
                  try simp only [Act.put, List.getElem_toArray, List.getElem_cons_zero, List.getElem_cons_succ, List.setIfInBounds_toArray, List.set_cons_zero, List.set_cons_succ]
                  refine wpAnyH_take (i := 14) (v := .int .i64 0) rfl (by kernel_rfl) (by kernel_rfl) (by kernel_rfl) (fun _ _ _ h => nomatch h.1) (.inl ⟨by rfl, fun V_ hV => by go_simp⟩) J4 ?_
                  try simp only [Act.put, List.getElem_toArray, List.getElem_cons_zero, List.getElem_cons_succ, List.setIfInBounds_toArray, List.set_cons_zero, List.set_cons_succ]
                  refine wpAnyH_ready (rs := [15]) (by kernel_rfl) (by simp) ?_
                  refine AllReadyH.cons rfl (fun K hK => ?_) AllReadyH.nil
                  try simp only [Act.put, List.getElem_toArray, List.getElem_cons_zero, List.getElem_cons_succ, List.setIfInBounds_toArray, List.set_cons_zero, List.set_cons_succ]
                  go_simp
                  obtain ⟨g15, e15⟩ : ∃ g, g = V4.heap.size := ⟨_, rfl⟩
                  have hg15 : V3.heap.size ≤ g15 := by rw [e15]; exact J4.size
                  have kal := Blk.new_ V4 (scC none 0 0 none 0 0) 25 e15.symm
                  have hb4 : Below V4.heap.size V4 (V4.alloc (.cells (scC none 0 0 none 0 0) 25)) := (Below.refl _ V4).alloc (Nat.le_refl _) _
                  have J6 := J4.trans (hb4.mono J4.size)
                  rw [← e15]
                  refine hK.out _ _ J6 (fun _ => ?_)
                  clear hK K
                  try simp only [Act.put, List.getElem_toArray, List.getElem_cons_zero, List.getElem_cons_succ, List.setIfInBounds_toArray, List.set_cons_zero, List.set_cons_succ]
                  refine wpAnyH_ready (rs := [16]) (by kernel_rfl) (by simp) ?_
                  refine AllReadyH.cons rfl (fun K hK => ?_) AllReadyH.nil
                  try simp only [Act.put, List.getElem_toArray, List.getElem_cons_zero, List.getElem_cons_succ, List.setIfInBounds_toArray, List.set_cons_zero, List.set_cons_succ]
                  try rw [if_pos (by rfl)]
                  refine wp_store_blk 25 (.tmp 15) (.tmp 110) rfl g15 (scC none 0 0 none 0 0) (scC A5 m5 c5 A6 m6 c6) 25 rfl rfl kal rfl (sc_inf _ _ _ _ _ _) (sc_one _ _ _ _ _ _) ?_
                  intro V5 kt5 nn
                  have J5 : Below V3.heap.size V3 V5 := J6.trans (nn.below _ hg15 J6.size)
                  have k55 : Blk V5 b5 (scC A m c A2 m2 c2) 25 := k53.below J5 k53.lt
                  have sc7 := (sc5.on (hb4.trans (nn.below V4.heap.size (Nat.le_of_eq e15.symm) hb4.size)))
                  refine hK.out _ _ J5 (fun _ => ?_)
                  clear hK K
                  try simp only [Act.put, List.getElem_toArray, List.getElem_cons_zero, List.getElem_cons_succ, List.setIfInBounds_toArray, List.set_cons_zero, List.set_cons_succ]
                  refine wpAnyH_take (i := 17) (v := .int .i64 0) rfl (by kernel_rfl) (by kernel_rfl) (by kernel_rfl) (fun _ _ _ h => nomatch h.1) (.inl ⟨by rfl, fun V_ hV => by go_simp⟩) J5 ?_
                  try simp only [Act.put, List.getElem_toArray, List.getElem_cons_zero, List.getElem_cons_succ, List.setIfInBounds_toArray, List.set_cons_zero, List.set_cons_succ]
                  refine wpAnyH_done (by kernel_rfl) ?_ _
                  refine ⟨rfl, ?_⟩
                  clear HYN HRX HRY hrx
                  have H6 := Lib.hid (And.intro sc7 (And.intro J5 (And.intro hn5 fr5)))
                  clear sc7 sc5 fr5 k53 Jd
                  go_wp2_with (first
                    | (refine wpList_load_row rfl 25 (.tmp 15) rfl (g15) rfl 25 (scC A5 m5 c5 A6 m6 c6) (0, 0) _ kt5.blk Try.underlying25 rfl (sc_inf _ _ _ _ _ _) ?_)
                    | (refine wpList_store_blk rfl 25 (.tmp 5) (.tmp 114) rfl b5 (scC A m c A2 m2 c2) (scC A5 m5 c5 A6 m6 c6) 25 rfl rfl k55 rfl (sc_inf _ _ _ _ _ _) (sc_one _ _ _ _ _ _) ?_
                       intro V6 k56 n6
                       have HE6 := Lib.hid (HE3.out.put (j' := 0) H6.out.2.1 H6.out.1 H6.out.2.2.2 n6 k56 (by rw [H6.out.2.2.1]; exact HG.out.1) (by rw [H6.out.2.2.1]; exact HG.out.2.1) HG.out.2.2.1 HG.out.2.2.2)
                       have k56 := HE6.out.k
                       clear n6 k55)
                    | (refine wpList_load_row rfl 25 (.tmp 5) rfl (b5) rfl 25 (scC A5 m5 c5 A6 m6 c6) (0, 0) _ k56.blk Try.underlying25 rfl (sc_inf _ _ _ _ _ _) ?_)
                    | (have HST := stuck_sc A5 m5 c5 _ A6 m6 c6 L5 V6 HE6.out.sc
                       rw [not_stuck HE6.out.g HE6.out.u] at HST
                       unfold scV at HST
                       refine HST.mono ?_
                       clear HST
                       rintro e V7 ⟨rfl, bb⟩
                       have HE7 := Lib.hid (HE6.out.keep bb)
                       clear bb))
                  go_roundw
                  case rel => exact ⟨i + 1, _, A5, m5, c5, _, A6, m6, c6, L5, rfl, by omega, by omega, by go_num, HE7⟩
                  case measure => simp [intOf]; omega
                · try simp only [Act.put, List.getElem_toArray, List.getElem_cons_zero, List.getElem_cons_succ, List.setIfInBounds_toArray, List.set_cons_zero, List.set_cons_succ]
                  go_simp
                  obtain ⟨g15, e15⟩ : ∃ g, g = V3.heap.size := ⟨_, rfl⟩
                  have hg15 : V3.heap.size ≤ g15 := Nat.le_of_eq e15.symm
                  have kal : Blk (V3.alloc (.cells (scC none 0 0 none 0 0) 25)).drew g15 (scC none 0 0 none 0 0) 25 := ⟨(Blk.new_ V3 (scC none 0 0 none 0 0) 25 e15.symm).blk⟩
                  have J6 : Below V3.heap.size V3 (V3.alloc (.cells (scC none 0 0 none 0 0) 25)).drew := ((Below.refl _ V3).alloc (Nat.le_refl _) _).drew
                  rw [← e15]
                  show K _ ((V3.alloc (.cells (scC none 0 0 none 0 0) 25)).drew)
                  generalize (V3.alloc (.cells (scC none 0 0 none 0 0) 25)).drew = W1 at kal J6 ⊢
                  clear e15
                  refine hK.out _ _ J6 (fun _ => ?_)
                  clear hK K
                  try simp only [Act.put, List.getElem_toArray, List.getElem_cons_zero, List.getElem_cons_succ, List.setIfInBounds_toArray, List.set_cons_zero, List.set_cons_succ]
                  refine wpAnyH_ready (rs := [11]) (by kernel_rfl) (by simp) ?_
                  refine AllReadyH.cons rfl (fun K hK => ?_) AllReadyH.nil
                  try simp only [Act.put, List.getElem_toArray, List.getElem_cons_zero, List.getElem_cons_succ, List.setIfInBounds_toArray, List.set_cons_zero, List.set_cons_succ]
                  go_simp
                  refine (HT.out _ (HE3.out.keep J6)).mono ?_
                  clear HT
                  rintro e V4 ⟨v, rfl, ⟨A5, m5, c5, A6, m6, c6, L5, rfl, sc5, hn5, fr5⟩, bb⟩
                  unfold scV
                  have fr5b := fr5
                  have fr5 := fr5.down J6.size
                  have J4 := J6.trans (bb.mono J6.size)
                  have kal4 := kal.below bb kal.lt
                  refine hK.out _ _ J4 (fun _ => ?_)
                  clear hK K
                  try simp only [Act.put, List.getElem_toArray, List.getElem_cons_zero, List.getElem_cons_succ, List.setIfInBounds_toArray, List.set_cons_zero, List.set_cons_succ]
                  refine wpAnyH_take (i := 12) (v := .tuple #[.agg (scC A5 m5 c5 A6 m6 c6), .int .i64 0]) rfl (by kernel_rfl) (by kernel_rfl) (by kernel_rfl) (fun _ _ _ h => nomatch h.1) (.inl ⟨by rfl, fun V_ hV => by go_simp⟩) J4 ?_
                  try simp only [Act.put, List.getElem_toArray, List.getElem_cons_zero, List.getElem_cons_succ, List.setIfInBounds_toArray, List.set_cons_zero, List.set_cons_succ]
                  refine wpAnyH_take (i := 13) (v := .agg (scC A5 m5 c5 A6 m6 c6)) rfl (by kernel_rfl) (by kernel_rfl) (by kernel_rfl) (fun _ _ _ h => nomatch h.1) (.inl ⟨by rfl, fun V_ hV => by go_simp⟩) J4 ?_
                  try simp only [Act.put, List.getElem_toArray, List.getElem_cons_zero, List.getElem_cons_succ, List.setIfInBounds_toArray, List.set_cons_zero, List.set_cons_succ]
                  refine wpAnyH_take (i := 14) (v := .int .i64 0) rfl (by kernel_rfl) (by kernel_rfl) (by kernel_rfl) (fun _ _ _ h => nomatch h.1) (.inl ⟨by rfl, fun V_ hV => by go_simp⟩) J4 ?_
                  try simp only [Act.put, List.getElem_toArray, List.getElem_cons_zero, List.getElem_cons_succ, List.setIfInBounds_toArray, List.set_cons_zero, List.set_cons_succ]
                  refine wpAnyH_ready (rs := [16]) (by kernel_rfl) (by simp) ?_
                  refine AllReadyH.cons rfl (fun K hK => ?_) AllReadyH.nil
                  try simp only [Act.put, List.getElem_toArray, List.getElem_cons_zero, List.getElem_cons_succ, List.setIfInBounds_toArray, List.set_cons_zero, List.set_cons_succ]
                  try rw [if_pos (by rfl)]
                  refine wp_store_blk 25 (.tmp 15) (.tmp 110) rfl g15 (scC none 0 0 none 0 0) (scC A5 m5 c5 A6 m6 c6) 25 rfl rfl kal4 rfl (sc_inf _ _ _ _ _ _) (sc_one _ _ _ _ _ _) ?_
                  intro V5 kt5 nn
                  have J5 : Below V3.heap.size V3 V5 := J4.trans (nn.below _ hg15 J4.size)
                  have k55 : Blk V5 b5 (scC A m c A2 m2 c2) 25 := k53.below J5 k53.lt
                  have sc7 := sc5.off' fr5b nn kal.lt
                  refine hK.out _ _ J5 (fun _ => ?_)
                  clear hK K
                  try simp only [Act.put, List.getElem_toArray, List.getElem_cons_zero, List.getElem_cons_succ, List.setIfInBounds_toArray, List.set_cons_zero, List.set_cons_succ]
                  refine wpAnyH_take (i := 17) (v := .int .i64 0) rfl (by kernel_rfl) (by kernel_rfl) (by kernel_rfl) (fun _ _ _ h => nomatch h.1) (.inl ⟨by rfl, fun V_ hV => by go_simp⟩) J5 ?_
                  try simp only [Act.put, List.getElem_toArray, List.getElem_cons_zero, List.getElem_cons_succ, List.setIfInBounds_toArray, List.set_cons_zero, List.set_cons_succ]
                  refine wpAnyH_done (by kernel_rfl) ?_ _
                  refine ⟨rfl, ?_⟩
                  clear HYN HRX HRY hrx
                  have H6 := Lib.hid (And.intro sc7 (And.intro J5 (And.intro hn5 fr5)))
                  clear sc7 sc5 fr5 k53 Jd
                  go_wp2_with (first
                    | (refine wpList_load_row rfl 25 (.tmp 15) rfl (g15) rfl 25 (scC A5 m5 c5 A6 m6 c6) (0, 0) _ kt5.blk Try.underlying25 rfl (sc_inf _ _ _ _ _ _) ?_)
                    | (refine wpList_store_blk rfl 25 (.tmp 5) (.tmp 114) rfl b5 (scC A m c A2 m2 c2) (scC A5 m5 c5 A6 m6 c6) 25 rfl rfl k55 rfl (sc_inf _ _ _ _ _ _) (sc_one _ _ _ _ _ _) ?_
                       intro V6 k56 n6
                       have HE6 := Lib.hid (HE3.out.put (j' := 0) H6.out.2.1 H6.out.1 H6.out.2.2.2 n6 k56 (by rw [H6.out.2.2.1]; exact HG.out.1) (by rw [H6.out.2.2.1]; exact HG.out.2.1) HG.out.2.2.1 HG.out.2.2.2)
                       have k56 := HE6.out.k
                       clear n6 k55)
                    | (refine wpList_load_row rfl 25 (.tmp 5) rfl (b5) rfl 25 (scC A5 m5 c5 A6 m6 c6) (0, 0) _ k56.blk Try.underlying25 rfl (sc_inf _ _ _ _ _ _) ?_)
                    | (have HST := stuck_sc A5 m5 c5 _ A6 m6 c6 L5 V6 HE6.out.sc
                       rw [not_stuck HE6.out.g HE6.out.u] at HST
                       unfold scV at HST
                       refine HST.mono ?_
                       clear HST
                       rintro e V7 ⟨rfl, bb⟩
                       have HE7 := Lib.hid (HE6.out.keep bb)
                       clear bb))
                  go_roundw
                  case rel => exact ⟨i + 1, _, A5, m5, c5, _, A6, m6, c6, L5, rfl, by omega, by omega, by go_num, HE7⟩
                  case measure => simp [intOf]; omega
          · have hk1 : (q.i.tmod 3 == 1) = false := by rw [eq_of_beq hk3]; rfl
            cases hown : (ownsN (L.map (·.1)) x.i).length with
            | zero =>
              have HGE := HE.out.g
              obtain ⟨t1, t2, t3⟩ := take_good (n := (lk : Int) + 1) HGE HX.out.1 HX.out.2 (by omega) (fun y hy hn ho => by have h9 := own_mem.2 ⟨y, hy, rfl, ho⟩; rw [List.length_eq_zero_iff.1 hown] at h9; cases h9)
              have t4 := takeR_len t1 (scE_good HGE) (lives_ready HGE HX.out.1 HX.out.2)
              have HT := Lib.hid (fun (W : World) (hW : Ed w W b5 0 A m c R A2 m2 c2 L) => take_sc A m c R A2 m2 c2 L x.i ((lk : Int) + 1) W hW.sc)
              have t5 := t3 HE.out.u (fun z hz ho => by have h9 := own_mem.2 ⟨z, hz, rfl, ho⟩; rw [List.length_eq_zero_iff.1 hown] at h9; cases h9)
              rw [t1] at HT
              clear t1 t3
              obtain ⟨tr, htr⟩ : ∃ tr, (takeR R L x.i ((lk : Int) + 1)).1 = tr := ⟨_, rfl⟩
              obtain ⟨tk, htk⟩ : ∃ tk, (takeR R L x.i ((lk : Int) + 1)).2.1 = tk := ⟨_, rfl⟩
              rw [htr, htk] at HT t2 t5
              rw [htr] at t4
              clear htr htk
              unfold scV at HT
              have HG := Lib.hid (show Good tr tk ∧ Up13 tr tk ∧ 0 < tr.length ∧ (leftL tr).length + 0 ≤ 8 from ⟨t2, t5, by rw [t4]; exact HE.out.ne, by have := leftL_len tr; have := t2.len; omega⟩)
              clear t2 t4 t5 HGE
              go_wp2_with (first
                | (refine wpList_load_mid rfl 58 (.tmp 35) rfl b (off + i * 3) rfl _ _ hcy Try.underlying58 rfl (act_infL q) ?_)
                | (refine wpList_store_blk rfl 58 (.tmp 7) (.tmp 36) rfl V.heap.size (rnC rn0) (rnC q) 58 rfl rfl (Blk.new _ _ _) rfl (act_inf q) (rn_one q) ?_
                   intro V1 kb1 nb
                   have HE1 := Lib.hid (HE.out.keep (((Below.refl _ V).alloc (Nat.le_refl _) _).trans (nb.below _ (Nat.le_refl _) (by simp))))
                   have k51 := HE1.out.k
                   have q71 : V1.cell? ⟨V.heap.size, 1, none⟩ = some (.int .i64 q.s) := kb1.cell 1
                   clear nb hcy)
                | (refine wpList_load_row rfl 25 (.tmp 5) rfl (b5) rfl 25 (scC A m c A2 m2 c2) (0, 0) _ k51.blk Try.underlying25 rfl (sc_inf _ _ _ _ _ _) ?_)
                | (refine (HP.out _ HE1.out).mono ?_
                   clear HP
                   rintro e V2 ⟨rfl, bb⟩
                   have HE2 := Lib.hid (HE1.out.keep bb)
                   have k52 := HE2.out.k
                   have kb2 := kb1.below bb kb1.lt
                   have q72 : V2.cell? ⟨V.heap.size, 2, none⟩ = some (.int .i64 q.n) := kb2.cell 2
                   clear bb q71 kb1 k51)
                | (refine wpList_load_row rfl 25 (.tmp 5) rfl (b5) rfl 25 (scC A m c A2 m2 c2) (0, 0) _ k52.blk Try.underlying25 rfl (sc_inf _ _ _ _ _ _) ?_)
                | (refine (HOW.out _ HE2.out).mono ?_
                   clear HOW
                   rintro e V3 ⟨G, gm, gc, rfl, zo, bb⟩
                   have HE3 := Lib.hid (HE2.out.keep bb)
                   have k53 := HE3.out.k
                   have kb3 := kb2.below bb kb2.lt
                   have q70 : V3.cell? ⟨V.heap.size, 0, none⟩ = some (.int .i64 q.i) := kb3.cell 0
                   have q73 : V3.cell? ⟨V.heap.size, 2, none⟩ = some (.int .i64 q.n) := kb3.cell 2
                   have hgm := zo.len
                   rw [hown] at hgm
                   subst hgm
                   clear zo
                   clear bb q72 kb2 k52 hr40 hr40t)
                | (refine wpList_load_row rfl 25 (.tmp 5) rfl (b5) rfl 25 (scC A m c A2 m2 c2) (0, 0) _ k53.blk Try.underlying25 rfl (sc_inf _ _ _ _ _ _) ?_)
                | (refine (HT.out _ HE3.out).mono ?_
                   clear HT
                   rintro e V4 ⟨v, rfl, ⟨A5, m5, c5, A6, m6, c6, L5, rfl, sc5, hn5, fr5⟩, bb⟩
                   have k54 := k53.below bb k53.lt
                   have H5 := Lib.hid (And.intro sc5 (And.intro hn5 (And.intro fr5 bb)))
                   clear sc5 hn5 fr5 bb k53 q70 q73
                   unfold scV)
                | (refine wpList_store_blk rfl 25 (.tmp 12) (.tmp 81) rfl V4.heap.size (scC none 0 0 none 0 0) (scC A5 m5 c5 A6 m6 c6) 25 rfl rfl (Blk.new _ _ _) rfl (sc_inf _ _ _ _ _ _) (sc_one _ _ _ _ _ _) ?_
                   intro V5 kt5 nn
                   have bb : Below V4.heap.size V4 V5 := ((Below.refl _ V4).alloc (Nat.le_refl _) _).trans (nn.below _ (Nat.le_refl _) (by simp))
                   have k55 := k54.below bb k54.lt
                   have H6 := Lib.hid (And.intro (H5.out.1.on bb) (H5.out.2.2.2.trans (bb.mono H5.out.2.2.2.size)))
                   clear bb nn k54)
                | (refine wpList_load_row rfl 25 (.tmp 12) rfl (V4.heap.size) rfl 25 (scC A5 m5 c5 A6 m6 c6) (0, 0) _ kt5.blk Try.underlying25 rfl (sc_inf _ _ _ _ _ _) ?_)
                | (refine wpList_store_blk rfl 25 (.tmp 5) (.tmp 86) rfl b5 (scC A m c A2 m2 c2) (scC A5 m5 c5 A6 m6 c6) 25 rfl rfl k55 rfl (sc_inf _ _ _ _ _ _) (sc_one _ _ _ _ _ _) ?_
                   intro V6 k56 n6
                   have HE6 := Lib.hid (HE3.out.put (j' := 0) H6.out.2 H6.out.1 H5.out.2.2.1 n6 k56 (by rw [H5.out.2.1]; exact HG.out.1) (by rw [H5.out.2.1]; exact HG.out.2.1) HG.out.2.2.1 HG.out.2.2.2)
                   have k56 := HE6.out.k
                   clear n6 k55)
                | (refine wpList_load_row rfl 25 (.tmp 5) rfl (b5) rfl 25 (scC A5 m5 c5 A6 m6 c6) (0, 0) _ k56.blk Try.underlying25 rfl (sc_inf _ _ _ _ _ _) ?_)
                | (have HST := stuck_sc A5 m5 c5 _ A6 m6 c6 L5 V6 HE6.out.sc
                   rw [not_stuck HE6.out.g HE6.out.u] at HST
                   unfold scV at HST
                   refine HST.mono ?_
                   clear HST
                   rintro e V7 ⟨rfl, bb⟩
                   have HE7 := Lib.hid (HE6.out.keep bb)
                   clear bb))
              go_roundw
              case rel => exact ⟨i + 1, _, A5, m5, c5, _, A6, m6, c6, L5, rfl, by omega, by omega, by go_num, HE7⟩
              case measure => simp [intOf]; omega
            | succ p =>
              have hpb : p ≤ 100000 := by have h8 := ownsF_len L x.i; rw [ownsF_N, hown] at h8; have := HE.out.sc.len2; have := HE.out.sc.lim2; omega
              obtain ⟨lv, hlv⟩ : ∃ lv, (ownsN (L.map (·.1)) x.i).getD p 0 = lv := ⟨_, rfl⟩
              have HLV := Lib.hid hlv
              clear hlv
              cases hll : decide (lv < (lk : Int) + 1)
              · go_wp2_with (first
                  | (refine wpList_load_mid rfl 58 (.tmp 35) rfl b (off + i * 3) rfl _ _ hcy Try.underlying58 rfl (act_infL q) ?_)
                  | (refine wpList_store_blk rfl 58 (.tmp 7) (.tmp 36) rfl V.heap.size (rnC rn0) (rnC q) 58 rfl rfl (Blk.new _ _ _) rfl (act_inf q) (rn_one q) ?_
                     intro V1 kb1 nb
                     have HE1 := Lib.hid (HE.out.keep (((Below.refl _ V).alloc (Nat.le_refl _) _).trans (nb.below _ (Nat.le_refl _) (by simp))))
                     have k51 := HE1.out.k
                     have q71 : V1.cell? ⟨V.heap.size, 1, none⟩ = some (.int .i64 q.s) := kb1.cell 1
                     clear nb hcy)
                  | (refine wpList_load_row rfl 25 (.tmp 5) rfl (b5) rfl 25 (scC A m c A2 m2 c2) (0, 0) _ k51.blk Try.underlying25 rfl (sc_inf _ _ _ _ _ _) ?_)
                  | (refine (HP.out _ HE1.out).mono ?_
                     clear HP
                     rintro e V2 ⟨rfl, bb⟩
                     have HE2 := Lib.hid (HE1.out.keep bb)
                     have k52 := HE2.out.k
                     have kb2 := kb1.below bb kb1.lt
                     have q72 : V2.cell? ⟨V.heap.size, 2, none⟩ = some (.int .i64 q.n) := kb2.cell 2
                     clear bb q71 kb1 k51)
                  | (refine wpList_load_row rfl 25 (.tmp 5) rfl (b5) rfl 25 (scC A m c A2 m2 c2) (0, 0) _ k52.blk Try.underlying25 rfl (sc_inf _ _ _ _ _ _) ?_)
                  | (refine (HOW.out _ HE2.out).mono ?_
                     clear HOW
                     rintro e V3 ⟨G, gm, gc, rfl, zo, bb⟩
                     have HE3 := Lib.hid (HE2.out.keep bb)
                     have k53 := HE3.out.k
                     have kb3 := kb2.below bb kb2.lt
                     have q70 : V3.cell? ⟨V.heap.size, 0, none⟩ = some (.int .i64 q.i) := kb3.cell 0
                     have q73 : V3.cell? ⟨V.heap.size, 2, none⟩ = some (.int .i64 q.n) := kb3.cell 2
                     have hgm := zo.len
                     rw [hown] at hgm
                     subst hgm
                     obtain ⟨gb, go, rfl, hgb, hgc⟩ := zo.ri p (by omega)
                     rw [HLV.out] at hgc
                     have hpp : (p : Int) < (p : Int) + 1 := by omega
                     clear zo hgb
                     clear bb q72 kb2 k52 hr40 hr40t)
                  | (refine wpList_load_row rfl 25 (.tmp 5) rfl (b5) rfl 25 (scC A m c A2 m2 c2) (0, 0) _ k53.blk Try.underlying25 rfl (sc_inf _ _ _ _ _ _) ?_)
                  | (have HST := stuck_sc A m c R A2 m2 c2 L V3 HE3.out.sc
                     rw [not_stuck HE3.out.g HE3.out.u] at HST
                     unfold scV at HST
                     refine HST.mono ?_
                     clear HST
                     rintro e V4 ⟨rfl, bb⟩
                     have HE4 := Lib.hid (HE3.out.keep bb)
                     clear bb))
                go_roundw
                case rel => exact ⟨i + 1, _, A, m, c, R, A2, m2, c2, L, rfl, by omega, by omega, by go_num, HE4⟩
                case measure => simp [intOf]; omega
              · have HGE := HE.out.g
                obtain ⟨t1, t2, t3⟩ := take_good (n := (lk : Int) + 1) HGE HX.out.1 HX.out.2 (by omega) (fun y hy hn ho => by have h9 := own_last HGE.uk hown y hy ho; rw [HLV.out] at h9; have h8 := of_decide_eq_true hll; omega)
                have t4 := takeR_len t1 (scE_good HGE) (lives_ready HGE HX.out.1 HX.out.2)
                have HT := Lib.hid (fun (W : World) (hW : Ed w W b5 0 A m c R A2 m2 c2 L) => take_sc A m c R A2 m2 c2 L x.i ((lk : Int) + 1) W hW.sc)
                have t5 := t3 HE.out.u (fun z hz ho => by have h9 := own_last HE.out.g.uk hown z hz ho; rw [HLV.out] at h9; have h8 := of_decide_eq_true hll; omega)
                rw [t1] at HT
                clear t1 t3
                obtain ⟨tr, htr⟩ : ∃ tr, (takeR R L x.i ((lk : Int) + 1)).1 = tr := ⟨_, rfl⟩
                obtain ⟨tk, htk⟩ : ∃ tk, (takeR R L x.i ((lk : Int) + 1)).2.1 = tk := ⟨_, rfl⟩
                rw [htr, htk] at HT t2 t5
                rw [htr] at t4
                clear htr htk
                unfold scV at HT
                have HG := Lib.hid (show Good tr tk ∧ Up13 tr tk ∧ 0 < tr.length ∧ (leftL tr).length + 0 ≤ 8 from ⟨t2, t5, by rw [t4]; exact HE.out.ne, by have := leftL_len tr; have := t2.len; omega⟩)
                clear t2 t4 t5 HGE
                go_wp2_with (first
                  | (refine wpList_load_mid rfl 58 (.tmp 35) rfl b (off + i * 3) rfl _ _ hcy Try.underlying58 rfl (act_infL q) ?_)
                  | (refine wpList_store_blk rfl 58 (.tmp 7) (.tmp 36) rfl V.heap.size (rnC rn0) (rnC q) 58 rfl rfl (Blk.new _ _ _) rfl (act_inf q) (rn_one q) ?_
                     intro V1 kb1 nb
                     have HE1 := Lib.hid (HE.out.keep (((Below.refl _ V).alloc (Nat.le_refl _) _).trans (nb.below _ (Nat.le_refl _) (by simp))))
                     have k51 := HE1.out.k
                     have q71 : V1.cell? ⟨V.heap.size, 1, none⟩ = some (.int .i64 q.s) := kb1.cell 1
                     clear nb hcy)
                  | (refine wpList_load_row rfl 25 (.tmp 5) rfl (b5) rfl 25 (scC A m c A2 m2 c2) (0, 0) _ k51.blk Try.underlying25 rfl (sc_inf _ _ _ _ _ _) ?_)
                  | (refine (HP.out _ HE1.out).mono ?_
                     clear HP
                     rintro e V2 ⟨rfl, bb⟩
                     have HE2 := Lib.hid (HE1.out.keep bb)
                     have k52 := HE2.out.k
                     have kb2 := kb1.below bb kb1.lt
                     have q72 : V2.cell? ⟨V.heap.size, 2, none⟩ = some (.int .i64 q.n) := kb2.cell 2
                     clear bb q71 kb1 k51)
                  | (refine wpList_load_row rfl 25 (.tmp 5) rfl (b5) rfl 25 (scC A m c A2 m2 c2) (0, 0) _ k52.blk Try.underlying25 rfl (sc_inf _ _ _ _ _ _) ?_)
                  | (refine (HOW.out _ HE2.out).mono ?_
                     clear HOW
                     rintro e V3 ⟨G, gm, gc, rfl, zo, bb⟩
                     have HE3 := Lib.hid (HE2.out.keep bb)
                     have k53 := HE3.out.k
                     have kb3 := kb2.below bb kb2.lt
                     have q70 : V3.cell? ⟨V.heap.size, 0, none⟩ = some (.int .i64 q.i) := kb3.cell 0
                     have q73 : V3.cell? ⟨V.heap.size, 2, none⟩ = some (.int .i64 q.n) := kb3.cell 2
                     have hgm := zo.len
                     rw [hown] at hgm
                     subst hgm
                     obtain ⟨gb, go, rfl, hgb, hgc⟩ := zo.ri p (by omega)
                     rw [HLV.out] at hgc
                     have hpp : (p : Int) < (p : Int) + 1 := by omega
                     clear zo hgb
                     clear bb q72 kb2 k52 hr40 hr40t)
                  | (refine wpList_load_row rfl 25 (.tmp 5) rfl (b5) rfl 25 (scC A m c A2 m2 c2) (0, 0) _ k53.blk Try.underlying25 rfl (sc_inf _ _ _ _ _ _) ?_)
                  | (refine (HT.out _ HE3.out).mono ?_
                     clear HT
                     rintro e V4 ⟨v, rfl, ⟨A5, m5, c5, A6, m6, c6, L5, rfl, sc5, hn5, fr5⟩, bb⟩
                     have k54 := k53.below bb k53.lt
                     have H5 := Lib.hid (And.intro sc5 (And.intro hn5 (And.intro fr5 bb)))
                     clear sc5 hn5 fr5 bb k53 q70 q73
                     unfold scV)
                  | (refine wpList_store_blk rfl 25 (.tmp 12) (.tmp 81) rfl V4.heap.size (scC none 0 0 none 0 0) (scC A5 m5 c5 A6 m6 c6) 25 rfl rfl (Blk.new _ _ _) rfl (sc_inf _ _ _ _ _ _) (sc_one _ _ _ _ _ _) ?_
                     intro V5 kt5 nn
                     have bb : Below V4.heap.size V4 V5 := ((Below.refl _ V4).alloc (Nat.le_refl _) _).trans (nn.below _ (Nat.le_refl _) (by simp))
                     have k55 := k54.below bb k54.lt
                     have H6 := Lib.hid (And.intro (H5.out.1.on bb) (H5.out.2.2.2.trans (bb.mono H5.out.2.2.2.size)))
                     clear bb nn k54)
                  | (refine wpList_load_row rfl 25 (.tmp 12) rfl (V4.heap.size) rfl 25 (scC A5 m5 c5 A6 m6 c6) (0, 0) _ kt5.blk Try.underlying25 rfl (sc_inf _ _ _ _ _ _) ?_)
                  | (refine wpList_store_blk rfl 25 (.tmp 5) (.tmp 86) rfl b5 (scC A m c A2 m2 c2) (scC A5 m5 c5 A6 m6 c6) 25 rfl rfl k55 rfl (sc_inf _ _ _ _ _ _) (sc_one _ _ _ _ _ _) ?_
                     intro V6 k56 n6
                     have HE6 := Lib.hid (HE3.out.put (j' := 0) H6.out.2 H6.out.1 H5.out.2.2.1 n6 k56 (by rw [H5.out.2.1]; exact HG.out.1) (by rw [H5.out.2.1]; exact HG.out.2.1) HG.out.2.2.1 HG.out.2.2.2)
                     have k56 := HE6.out.k
                     clear n6 k55)
                  | (refine wpList_load_row rfl 25 (.tmp 5) rfl (b5) rfl 25 (scC A5 m5 c5 A6 m6 c6) (0, 0) _ k56.blk Try.underlying25 rfl (sc_inf _ _ _ _ _ _) ?_)
                  | (have HST := stuck_sc A5 m5 c5 _ A6 m6 c6 L5 V6 HE6.out.sc
                     rw [not_stuck HE6.out.g HE6.out.u] at HST
                     unfold scV at HST
                     refine HST.mono ?_
                     clear HST
                     rintro e V7 ⟨rfl, bb⟩
                     have HE7 := Lib.hid (HE6.out.keep bb)
                     clear bb))
                go_roundw
                case rel => exact ⟨i + 1, _, A5, m5, c5, _, A6, m6, c6, L5, rfl, by omega, by omega, by go_num, HE7⟩
                case measure => simp [intOf]; omega
    · have hge : ¬ ((i : Int) < (mq : Int)) := by omega
      clear hlt
      have HEN := HE
      go_wp2_with fail
      clear HE
      go_loopw [118] (fun iv wr' => ∃ (j : Nat) (V : World) (A : Option Addr) (m c : Nat) (R : List Rn) (A2 : Option Addr) (m2 c2 : Nat) (L : List Kw), V = wr' ∧ j ≤ 8 ∧ iv = .int .i64 j ∧ Hid (Ed w V b5 j A m c R A2 m2 c2 L)) (fun iv _ => 8 - (intOf iv).toNat)
      case atStart => exact ⟨0, _, A, m, c, R, A2, m2, c2, L, rfl, Nat.zero_le _, rfl, HEN⟩
      case round =>
        clear HEN
        obtain ⟨j, Y, A, m, c, R, A2, m2, c2, L, hwr, hj, rfl, HE⟩ := hrel
        subst hwr
        by_cases hlt8 : j < 8
        · have hlt8' : (j : Int) < 8 := by omega
          have k51 := HE.out.k
          have HP := Lib.hid (pick_sc A m c R A2 m2 c2 L 0 Y HE.out.sc)
          have HPG := Lib.hid (pick_good HE.out.g 0)
          obtain ⟨⟨pid, pb⟩, hp⟩ : ∃ p, pickV (rdyA R L) 0 = p := ⟨_, rfl⟩
          rw [hp] at HP HPG
          clear hp
          unfold scV at HP
          simp only at HP
          cases pb
          · obtain ⟨e0, hfin⟩ := HE.out.fin (HPG.out.2 rfl HE.out.u)
            subst e0
            have HF0 := Lib.hid hfin
            clear hfin HE
            go_wp2_with (first
              | (refine wpList_load_row rfl 25 (.tmp 5) rfl (b5) rfl 25 (scC A m c A2 0 c2) (0, 0) _ k51.blk Try.underlying25 rfl (sc_inf _ _ _ _ _ _) ?_)
              | (refine HP.out.mono ?_
                 clear HP
                 rintro e Y1 ⟨rfl, bb⟩
                 have HF := Lib.hid (HF0.out.keep bb)
                 have q0 : Y1.cell? ⟨b5, 0, none⟩ = some (.slice A m c) := HF.out.k.cell 0
                 clear bb k51 HF0))
            try clear q0
            go_loopw [140] (fun iv wr' => ∃ (i : Nat) (V : World), V = wr' ∧ i ≤ m ∧ iv = .int .i64 i ∧ Hid (Fin13 w V b5 A m c R A2 c2)) (fun iv _ => m - (intOf iv).toNat)
            case atStart => exact ⟨0, _, rfl, Nat.zero_le _, rfl, HF⟩
            case round =>
              clear HF
              obtain ⟨f, Z, hwr, hf, rfl, HF⟩ := hrel
              subst hwr
              by_cases hltf : f < m
              · have hltf' : (f : Int) < (m : Int) := by omega
                have hm8 := HF.out.lim
                have hfl : f < R.length := by have := HF.out.len; omega
                obtain ⟨fb, fo, rfl, hfb, hfc⟩ := HF.out.rs f hfl
                have hfs : ((R.getD f rn0).s != 2) = false := by
                  have := HF.out.all (R.getD f rn0) (by rw [show R.getD f rn0 = R[f] by simp [List.getD, hfl]]; exact List.getElem_mem _)
                  simpa using this
                generalize R.getD f rn0 = z at hfc hfs
                have hcz : World.rangeAt Z fb (fo + f * 3) [.int .i64 z.i, .int .i64 z.s, .int .i64 z.n] := hfc
                clear hfc hfl
                go_wp2_with (first
                  | (refine wpList_load_mid rfl 52 (.tmp 142) rfl fb (fo + f * 3) rfl _ _ hcz Try.underlying52 rfl (rn_infL z) ?_)
                  | (refine wpList_store_blk rfl 52 (.tmp 22) (.tmp 143) rfl Z.heap.size (rnC rn0) (rnC z) 52 rfl rfl (Blk.new _ _ _) rfl (rn_inf z) (rn_one z) ?_
                     intro Z1 kb1 nb
                     have HF1 := Lib.hid (HF.out.keep (((Below.refl _ Z).alloc (Nat.le_refl _) _).trans (nb.below _ (Nat.le_refl _) (by simp))))
                     have qz : Z1.cell? ⟨Z.heap.size, 1, none⟩ = some (.int .i64 z.s) := kb1.cell 1
                     clear nb hcz))
                go_roundw
                case rel => exact ⟨f + 1, _, rfl, by omega, by go_num, HF1⟩
                case measure => simp [intOf]; omega
              · have hgef : ¬ ((f : Int) < (m : Int)) := by omega
                have qz1 : Z.cell? ⟨b5, 1, none⟩ = some (.slice A2 0 c2) := HF.out.k.cell 1
                have qz0 : Z.cell? ⟨b5, 0, none⟩ = some (.slice A m c) := HF.out.k.cell 0
                have hpos : 0 < m := HF.out.ne
                have hb9 := Lib.hid HF.out.b
                clear hltf HF
                go_wp2_with fail
                go_ret
                exact ⟨rfl, hb9.out⟩
          · obtain ⟨x, hx, hs, hxi⟩ := HPG.out.1 rfl
            have hxi : x.i = pid := hxi
            subst hxi
            obtain ⟨t1, t2, t3, t4, t6⟩ := end_good HE.out.g hx hs
            have t5 := t3 HE.out.u
            have HT := Lib.hid (fun (W : World) (hW : Ed w W b5 j A m c R A2 m2 c2 L) => end_pub A m c R A2 m2 c2 L x.i W hW.sc)
            rw [t1] at HT
            clear t1 t3 hx hs HPG
            obtain ⟨tr, htr⟩ : ∃ tr, (endR R L x.i).1 = tr := ⟨_, rfl⟩
            obtain ⟨tk, htk⟩ : ∃ tk, (endR R L x.i).2.1 = tk := ⟨_, rfl⟩
            rw [htr, htk] at HT t2 t5
            rw [htr] at t4 t6
            clear htr htk
            unfold scV at HT
            have HG := Lib.hid (show Good tr tk ∧ Up13 tr tk ∧ 0 < tr.length ∧ (leftL tr).length + (j + 1) ≤ 8 from ⟨t2, t5, by rw [t6]; exact HE.out.ne, by have := HE.out.lf; omega⟩)
            clear t2 t4 t5 t6
            go_wp2_with (first
              | (refine wpList_load_row rfl 25 (.tmp 5) rfl (b5) rfl 25 (scC A m c A2 m2 c2) (0, 0) _ k51.blk Try.underlying25 rfl (sc_inf _ _ _ _ _ _) ?_)
              | (refine HP.out.mono ?_
                 clear HP
                 rintro e Y1 ⟨rfl, bb⟩
                 have HE1 := Lib.hid (HE.out.keep bb)
                 have k52 := HE1.out.k
                 clear bb k51 HE)
              | (refine wpList_load_row rfl 25 (.tmp 5) rfl (b5) rfl 25 (scC A m c A2 m2 c2) (0, 0) _ k52.blk Try.underlying25 rfl (sc_inf _ _ _ _ _ _) ?_)
              | (refine (HT.out _ HE1.out).mono ?_
                 clear HT
                 rintro e Y2 ⟨v, rfl, ⟨A5, m5, c5, A6, m6, c6, L5, rfl, sc5, hn5, fr5⟩, bb⟩
                 have k53 := k52.below bb k52.lt
                 have H5 := Lib.hid (And.intro sc5 (And.intro hn5 (And.intro fr5 bb)))
                 clear sc5 hn5 fr5 bb k52
                 unfold scV)
              | (refine wpList_store_blk rfl 25 (.tmp 19) (.tmp 131) rfl Y2.heap.size (scC none 0 0 none 0 0) (scC A5 m5 c5 A6 m6 c6) 25 rfl rfl (Blk.new _ _ _) rfl (sc_inf _ _ _ _ _ _) (sc_one _ _ _ _ _ _) ?_
                 intro Y3 kt3 nn
                 have bb : Below Y2.heap.size Y2 Y3 := ((Below.refl _ Y2).alloc (Nat.le_refl _) _).trans (nn.below _ (Nat.le_refl _) (by simp))
                 have k54 := k53.below bb k53.lt
                 have H6 := Lib.hid (And.intro (H5.out.1.on bb) (H5.out.2.2.2.trans (bb.mono H5.out.2.2.2.size)))
                 clear bb nn k53)
              | (refine wpList_load_row rfl 25 (.tmp 19) rfl (Y2.heap.size) rfl 25 (scC A5 m5 c5 A6 m6 c6) (0, 0) _ kt3.blk Try.underlying25 rfl (sc_inf _ _ _ _ _ _) ?_)
              | (refine wpList_store_blk rfl 25 (.tmp 5) (.tmp 135) rfl b5 (scC A m c A2 m2 c2) (scC A5 m5 c5 A6 m6 c6) 25 rfl rfl k54 rfl (sc_inf _ _ _ _ _ _) (sc_one _ _ _ _ _ _) ?_
                 intro Y4 k55 n6
                 have HE6 := Lib.hid (HE1.out.put (j' := j + 1) H6.out.2 H6.out.1 H5.out.2.2.1 n6 k55 (by rw [H5.out.2.1]; exact HG.out.1) (by rw [H5.out.2.1]; exact HG.out.2.1) HG.out.2.2.1 HG.out.2.2.2)
                 clear n6 k54 k55))
            go_roundw
            case rel => exact ⟨j + 1, _, A5, m5, c5, _, A6, m6, c6, L5, rfl, by omega, by go_num, HE6⟩
            case measure => simp [intOf]; omega
        · have hge8 : ¬ ((j : Int) < 8) := by omega
          have hj8 : j = 8 := by omega
          have HE8 : Ed w Y b5 8 A m c R A2 m2 c2 L := by rw [← hj8]; exact HE.out
          obtain ⟨e0, hfin⟩ := HE8.fin HE8.eight
          subst e0
          have HF := Lib.hid hfin
          have q0 : Y.cell? ⟨b5, 0, none⟩ = some (.slice A m c) := HF.out.k.cell 0
          clear hfin HE HE8 hj8 hlt8
          go_wp2_with fail
          try clear q0
          go_loopw [140] (fun iv wr' => ∃ (i : Nat) (V : World), V = wr' ∧ i ≤ m ∧ iv = .int .i64 i ∧ Hid (Fin13 w V b5 A m c R A2 c2)) (fun iv _ => m - (intOf iv).toNat)
          case atStart => exact ⟨0, _, rfl, Nat.zero_le _, rfl, HF⟩
          case round =>
            clear HF
            obtain ⟨f, Z, hwr, hf, rfl, HF⟩ := hrel
            subst hwr
            by_cases hltf : f < m
            · have hltf' : (f : Int) < (m : Int) := by omega
              have hm8 := HF.out.lim
              have hfl : f < R.length := by have := HF.out.len; omega
              obtain ⟨fb, fo, rfl, hfb, hfc⟩ := HF.out.rs f hfl
              have hfs : ((R.getD f rn0).s != 2) = false := by
                have := HF.out.all (R.getD f rn0) (by rw [show R.getD f rn0 = R[f] by simp [List.getD, hfl]]; exact List.getElem_mem _)
                simpa using this
              generalize R.getD f rn0 = z at hfc hfs
              have hcz : World.rangeAt Z fb (fo + f * 3) [.int .i64 z.i, .int .i64 z.s, .int .i64 z.n] := hfc
              clear hfc hfl
              go_wp2_with (first
                | (refine wpList_load_mid rfl 52 (.tmp 142) rfl fb (fo + f * 3) rfl _ _ hcz Try.underlying52 rfl (rn_infL z) ?_)
                | (refine wpList_store_blk rfl 52 (.tmp 22) (.tmp 143) rfl Z.heap.size (rnC rn0) (rnC z) 52 rfl rfl (Blk.new _ _ _) rfl (rn_inf z) (rn_one z) ?_
                   intro Z1 kb1 nb
                   have HF1 := Lib.hid (HF.out.keep (((Below.refl _ Z).alloc (Nat.le_refl _) _).trans (nb.below _ (Nat.le_refl _) (by simp))))
                   have qz : Z1.cell? ⟨Z.heap.size, 1, none⟩ = some (.int .i64 z.s) := kb1.cell 1
                   clear nb hcz))
              go_roundw
              case rel => exact ⟨f + 1, _, rfl, by omega, by go_num, HF1⟩
              case measure => simp [intOf]; omega
            · have hgef : ¬ ((f : Int) < (m : Int)) := by omega
              have qz1 : Z.cell? ⟨b5, 1, none⟩ = some (.slice A2 0 c2) := HF.out.k.cell 1
              have qz0 : Z.cell? ⟨b5, 0, none⟩ = some (.slice A m c) := HF.out.k.cell 0
              have hpos : 0 < m := HF.out.ne
              have hb9 := Lib.hid HF.out.b
              clear hltf HF
              go_wp2_with fail
              go_ret
              exact ⟨rfl, hb9.out⟩
end Go.Proofs.Ytolalbpjaebfdaa

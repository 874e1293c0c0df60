/-
  The reference's Flow, walked.
-/
import Derived.Test.YtehcijockeecpaaDoorRfF2
namespace Go.Proofs.YtehcijockeecpaaDoor
open Go.RowKit
set_option linter.unusedVariables false
set_option linter.unusedSimpArgs false

/-- A region, whatever frame it leaves: it ends as it should. -/
theorem region_cutN {P : Program} {id : Nat} {ops : Array Oper} {dr : Bool} {Q : Exit → Act → World → Prop} {a : Act} {w : World} (h : (Code.region id ops dr).wp P (fun e a' w' => e = .normal ∧ Q .normal a' w') a w) : (Code.region id ops dr).wp P Q a w :=
  Code.wp_mono (fun e a' w' ⟨he, h⟩ => by subst he; exact h) h
/-- The first state, of which k words are laid. -/
def stP (k : Nat) : StS := ⟨true, sureA 0, sureA 0, List.replicate k (sureA 0) ++ List.replicate (16 - k) ab0⟩
def rowP (m k : Nat) : List StS := stP k :: List.replicate (m - 1) st0
theorem stP_len {k : Nat} (h : k ≤ 16) : (stP k).m.length = 16 := by simp [stP]; omega
theorem rowP_16 {m k : Nat} (h : k ≤ 16) : Len16 (rowP m k) := fun s hs => by
  rcases List.mem_cons.1 hs with rfl | hs
  · exact stP_len h
  · rw [(List.mem_replicate.1 hs).2]; exact st0_len
theorem rowP_len {m k : Nat} (h : 1 ≤ m) : (rowP m k).length = m := by simp [rowP]; omega
theorem rowP_0 {m : Nat} (h : 1 ≤ m) : (List.replicate m st0).set 0 (stP 0) = rowP m 0 := by
  obtain ⟨n, rfl⟩ : ∃ n, m = n + 1 := ⟨m - 1, by omega⟩
  rfl
theorem rowP_end {m : Nat} (h : 1 ≤ m) : rowP m 16 = (List.replicate m st0).set 0 stB := by
  obtain ⟨n, rfl⟩ : ∃ n, m = n + 1 := ⟨m - 1, by omega⟩
  rfl
theorem stP_set {k : Nat} (h : k < 16) : { stP k with m := (stP k).m.set k (sureA 0) } = stP (k + 1) := by
  have e : (List.replicate k (sureA 0) ++ List.replicate (16 - k) ab0).set k (sureA 0) = List.replicate (k + 1) (sureA 0) ++ List.replicate (16 - (k + 1)) ab0 := by
    rw [List.set_append_right _ _ (by simp)]
    obtain ⟨j, hj⟩ : ∃ j, 16 - k = j + 1 := ⟨15 - k, by omega⟩
    rw [hj, show 16 - (k + 1) = j by omega, List.replicate_succ, List.replicate_succ']
    simp
  show (⟨true, sureA 0, sureA 0, _⟩ : StS) = ⟨true, sureA 0, sureA 0, _⟩
  rw [← e]
  rfl
theorem rowP_put {m k : Nat} (h : k < 16) : ((rowS (rowP m k)).setIfInBounds (5 + k * 2) (.bool (sureA 0).k)).setIfInBounds (5 + k * 2 + 1) (.int .u32 (sureA 0).v) = rowS (rowP m (k + 1)) := by
  have e := st_sm (s := stP k) k (sureA 0)
  rw [stP_set h] at e
  have hs := st_size (stP_len (k := k) (by omega))
  have hl : (stC (stP k)).toList.length = 37 := by rw [Array.length_toList, hs]
  apply Array.ext'
  unfold rowS rowP rowL
  simp only [List.flatMap_cons, Array.toList_setIfInBounds]
  rw [← e]
  simp only [Array.toList_setIfInBounds]
  rw [List.set_append_left _ _ (by omega), List.set_append_left _ _ (by rw [List.length_set]; omega)]
set_option maxRecDepth 100000 in
set_option maxHeartbeats 8000000 in
theorem rflow_any (A : Option Addr) (m cap : Nat) (f : Nat → Ins) (nr arch : Int) (hnr : U32 nr) (har : U32 arch) (w : World) (hA : Ri w w.heap.size A m f) (hcap : m ≤ cap) (hM : May f m) :
    Calls Tryd.prog 9 #[.slice A m cap, .int .u32 nr, .int .u32 arch] w fun e w' => ∃ g, e = .returned (.tuple #[.slice (some ⟨g, 0, none⟩) m m, abV (floS alI hdI nr arch f m m).2.b]) ∧ Blk w' g (rowS (floS alI hdI nr arch f m m).1) 40 ∧ Below w.heap.size w w' := by
  have B7 := (Below.refl w.heap.size w).alloc (Nat.le_refl _) (.cells (abA ab0) 27)
  have K7 := Blk.new w (abA ab0) 27
  have hm64 := hM.hi
  have hm1 := hM.lo
  have hm1' : (0 : Int) < (m : Int) := by omega
  have hla0 : Len16 (List.replicate m st0) := fun s hs => by rw [(List.mem_replicate.1 hs).2]; exact st0_len
  have hio : ∀ i, i < m → insO (f i) := fun i hi => by obtain ⟨_, _, _, _, _, ho⟩ := hA i hi; exact ho
  have hG := may_goes hM hio
  have hTold := told_any hM hio hnr har
  have hF := fun k hk => floS_ok (hd := hdI) (f := f) (n := m) alI_u32 hnr har hio k hk
  have hFl := fun k => floS_len (al := alI) (hd := hdI) nr arch f m k
  go_enter Tryd.func9, Tryd.ntmps9
  go_wp2_with (refine wpList_make_st rfl (.tmp 18) (.tmp 18) rfl m rfl rfl (by omega) ?_; intro w2 hw2 hn2)
  have I2 : QF w w2 m (w.heap.size + 1) (List.replicate m st0) := by
    have h2 := hn2.mono B7.size
    simp only [World.size_alloc] at hw2 hn2
    exact ⟨K7.below hn2 (by omega), hw2, by omega, by simp, B7.trans (hn2.mono (by omega))⟩
  try simp only [World.size_alloc]
  clear hw2 hn2 B7 K7
  refine (of_raw 0 _).mono ?_
  rintro e w3 ⟨rfl, b3⟩
  have I3 := I2.below b3
  clear I2 b3
  go_wp2_with fail
  refine (of_raw 0 _).mono ?_
  rintro e w4 ⟨rfl, b4⟩
  have I4 := I3.below b4
  clear I3 b4
  generalize w.heap.size + 1 = g8 at I4 ⊢
  go_wp2_with (refine wpList_store_row rfl 40 (.tmp 24) (.tmp 23) rfl g8 0 (List.replicate m st0) (stP 0) 40 rfl rfl I4.k8 hla0 (stP_len (by omega)) (by simp; omega) st_info ?_
               intro w5 hw5 hn5
               rw [rowP_0 hm1] at hw5
               have I5 := I4.put hw5 hn5 (rowP_len hm1)
               clear hw5 hn5 I4)
  clear hla0
  go_loopw [9] (fun i wr => ∃ k : Nat, k ≤ 16 ∧ i = .int .i64 k ∧ QF w wr m g8 (rowP m k)) (fun i _ => 16 - (intOf i).toNat)
  case atStart => exact ⟨0, Nat.zero_le _, rfl, I5⟩
  case round =>
    obtain ⟨k, hk, rfl, Ik⟩ := hrel
    by_cases hlt : k < 16
    · have hlt' : (k : Int) < 16 := by omega
      have h16 := rowP_16 (m := m) hk
      go_wp2_with fail
      have Id := Ik.below (Below.refl _ _).drew
      have CO := Lib.hid (calls_keep (S := fun V => QF w V m g8 (rowP m k)) (fun V V' h hb => h.below hb) (fun V _ => of_raw 0 V))
      have hne : Nonempty (Sig (fun V => QF w V m g8 (rowP m k))) := ⟨⟨_, Id⟩⟩
      refine region_class_tail (S := fun V => QF w V m g8 (rowP m k)) 6 (by kernel_rfl) (by kernel_rfl) Id ?_
      simp only [List.take_succ_cons, List.take_zero, List.drop_succ_cons, List.drop_zero]
      repeat (go_big_quiet_step (first | (go_at_call 26; exact class_call _ CO.out)))
      refine wpQuiet_nil ?_
      rintro ⟨V5, J5⟩
      dsimp only
      clear hne CO Id Ik
      go_wp2_with (refine wpList_store_ab rfl 27 (.tmp 34) (.tmp 31) rfl g8 (5 + k * 2) (rowS (rowP m k)) 40 (sureA 0) _ rfl rfl J5.k8 (by rw [rowS_size h16, rowP_len hm1]; omega) ab_inf (rowP_put hlt) ?_
                   intro w6 hw6 hn6
                   have I6 := J5.put hw6 hn6 (rowP_len hm1)
                   clear hw6 hn6 J5)
      go_roundw
      case rel => exact ⟨k + 1, by omega, by go_num, I6⟩
      case measure => simp [intOf]; omega
    · obtain rfl : k = 16 := by omega
      rw [rowP_end hm1] at Ik
      go_wp2_with fail
      go_loopw [10, 11] (fun v10 v11 wr' => ∃ (k : Nat) (rs : List Ab) (wr : World), wr = wr' ∧ k ≤ m ∧ v11 = .int .i64 k ∧ wr.ownsRow (g8 + 1) 27 2 v10 rs.length (absL rs) ∧ rs.length ≤ k ∧ retE rs = (floS alI hdI nr arch f m k).2 ∧ QF w wr m g8 (floS alI hdI nr arch f m k).1) (fun _ i _ => m - (intOf i).toNat)
      case atStart => exact ⟨0, [], _, rfl, Nat.zero_le _, rfl, ⟨rfl, .inl ⟨rfl, rfl⟩⟩, Nat.le_refl _, rfl, Ik⟩
      case round =>
        clear Ik hlt
        obtain ⟨k, rs, wr, hwr, hk, rfl, hown, hrl, hre, Jk⟩ := hrel
        subst hwr
        obtain ⟨A10, c10, rfl⟩ := own_slice hown
        have hLok := hF k hk
        have hLl := hFl k
        have hgn := go_not (nr := nr) (arch := arch) (f := f) (n := m) (k := k)
        have hgy := fun s => go_yes (nr := nr) (arch := arch) (f := f) (n := m) (k := k) (s := s)
        by_cases hlt : k < m
        · have hlt' : (k : Int) < (m : Int) := by omega
          obtain ⟨⟨L, e⟩, hLe⟩ : ∃ z, floS alI hdI nr arch f m k = z := ⟨_, rfl⟩
          rw [hLe] at Jk hLok hLl hgn hgy hre
          simp only at Jk hLok hLl hgn hgy hre
          have hL16 : Len16 L := fun s hs => (hLok.1 s hs).len
          obtain ⟨s, hs⟩ : ∃ s, L.getD k st0 = s := ⟨_, rfl⟩
          have sok : StOk s := hs ▸ getD_ok hLok.1 k
          have r0 := row_cell Jk.k8 hL16 (k := k) (by omega) (j := 0) (by omega)
          rw [hs] at r0 hgn
          have hrr : (stC s)[0]? = some (.bool s.r) := rfl
          rw [hrr, Nat.add_zero] at r0
          have HLe := Lib.hid hLe
          have HS := Lib.hid hs
          cases hr : s.r
          · rw [hr] at r0
            have hnx := Lib.hid (hgn hr)
            clear hgn hgy hr hrr hLe hs
            have HRE := Lib.hid hre
            clear hre
            go_wp2_with fail
            go_roundw
            case rel => exact ⟨k + 1, rs, _, rfl, by omega, by go_num, hown, by omega, by rw [hnx.out]; exact HRE.out, by rw [hnx.out]; exact Jk⟩
            case measure => simp [intOf]; omega
          obtain ⟨b, off, rfl, hbl, ⟨p0, p1, p2, p3⟩, ho⟩ := (hA.below Jk.old (Nat.le_refl _)) k hlt
          have hins0 := fun V (h : QF w V m g8 L) => (hA.below h.old (Nat.le_refl _)) k hlt
          obtain ⟨⟨x, y, z, u⟩, hf⟩ : ∃ q : Ins, f k = q := ⟨_, rfl⟩
          rw [hf] at p0 p1 p2 p3 ho hgy
          simp only [hf] at hins0
          have hins : ∀ V, QF w V m g8 L → V.rangeAt b (off + k * 4) (celI (x, y, z, u)) := fun V h j v hv => by
            obtain ⟨b', off', e', _, ⟨q0, q1, q2, q3⟩, _⟩ := hins0 V h
            cases e'
            match j, hv with
            | 0, hv => cases hv; exact q0
            | 1, hv => cases hv; exact q1
            | 2, hv => cases hv; exact q2
            | 3, hv => cases hv; exact q3
            | j + 4, hv => simp [celI] at hv
          simp only at p0 p1 p2 p3
          have HF := Lib.hid hf
          rw [hr] at r0
          have hnx := Lib.hid (hgy s hs hr)
          have hrt := Lib.hid hr
          have hrg : ∀ V, QF w V m g8 L → V.rangeAt g8 (k * 37) (stC s).toList := fun V h => HS.out ▸ row_range h.k8 hL16 (by omega)
          have HRE := Lib.hid hre
          clear hgn hgy hr hrr hf hLe hs hre hins0 p0 p1 p2 p3
          go_wp2_with fail
          have Jd := Jk.below (Below.refl _ _).drew
          have hone := hM.one k hlt
          unfold oneAt at hone
          rw [HF.out] at hone
          obtain ⟨hr0, h3, h4, _⟩ := oneL_ok hone
          have h52 := oneL_div hone
          simp only at h3 h4 h52
          have hok := hG.ok k hlt
          rw [HF.out] at hok
          have hj5 : (x, y, z, u).1 = 5 → (x, y, z, u).2.2.2 < 64 := fun e => by
            have h := h4 (by rw [show x = 5 from e]; rfl)
            simp only
            omega
          have hsub : ∀ p ∈ plcR hdI (x, y, z, u) k s, p < m := fun p hp => (hok p (plc_sub hr0 (by omega) (fun e => by have := h4 e; simp only; omega) hp)).2
          have hputs := fun (t : StS) (ht : StOk t) (hr : t.r = true) => plc_puts (hd := hdI) ho hr0 (i := k) (by omega) (fun e => by have := h4 e; simp only; omega) s ht hr L
          have tok := behS_ok (al := alI) alI_u32 hnr har ho sok hrt.out
          have DO := fun V => do_any (x, y, z, u) k (by omega) ho hr0 h3 (fun e e' => h52 ⟨e, e'⟩) hj5 s sok nr arch V
          unfold DoS at DO
          have hrend := retE_end rs (x, y, z, u) s
          have hrl1 := rts_len (x, y, z, u) s
          have hpl2 := plc_len (hd := hdI) (x, y, z, u) k s
          obtain ⟨t, ht⟩ : ∃ t, behS alI nr arch (x, y, z, u) s = t := ⟨_, rfl⟩
          obtain ⟨ps, hps⟩ : ∃ ps, plcR hdI (x, y, z, u) k s = ps := ⟨_, rfl⟩
          obtain ⟨rs', hrs⟩ : ∃ rs', rtsR (x, y, z, u) s = rs' := ⟨_, rfl⟩
          simp only [ht, hps, hrs] at DO hsub hputs tok hrend hrl1 hpl2
          have hpt := hputs t tok.1 tok.2
          have hnx' : floS alI hdI nr arch f m (k + 1) = (ps.foldl (putS t) L, retE (rs ++ rs')) := by
            rw [hnx.out, ht, hpt, ← HRE.out, hrend]
          have HNX := Lib.hid hnx'
          have HR1 := Lib.hid hrl1
          clear hone h3 h4 h52 hok hj5 hputs hrend hnx hnx' hrl1 hpt ht hps hrs hr0
          unfold valI insV stV at DO
          have hown0 := own_blw hown (Below.refl _ _).drew
          have hlen := tok.1.len
          refine region_cutN ?_
          refine wp_region_held_drew (S := fun V => QF w V m g8 L) (by kernel_rfl) Jd (fun _ => ?_)
          generalize wr.drew = wd at Jd hown0 ⊢
          have hg8 := Jd.k8.lt
          refine wpAnyH_take (i := 0) (v := .slice (some ⟨b, off, none⟩) m cap) rfl (by kernel_rfl) (by kernel_rfl) (by kernel_rfl) (fun _ _ _ h => nomatch h.1) (.inl ⟨by rfl, fun V hV => by go_simp⟩) Jd ?_
          try simp only [Act.put, List.getElem_toArray, List.getElem_cons_zero, List.getElem_cons_succ, List.setIfInBounds_toArray, List.set_cons_zero, List.set_cons_succ]
          refine wpAnyH_take (i := 1) (v := .int .i64 (k : Int)) rfl (by kernel_rfl) (by kernel_rfl) (by kernel_rfl) (fun _ _ _ h => nomatch h.1) (.inl ⟨by rfl, fun V hV => by go_simp⟩) Jd ?_
          try simp only [Act.put, List.getElem_toArray, List.getElem_cons_zero, List.getElem_cons_succ, List.setIfInBounds_toArray, List.set_cons_zero, List.set_cons_succ]
          refine wpAnyH_take (i := 2) (v := .pointer (some ⟨b, off + k * 4, none⟩)) rfl (by kernel_rfl) (by kernel_rfl) (by kernel_rfl) (fun _ _ _ h => nomatch h.1) (.inl ⟨by rfl, fun V hV => by go_simp⟩) Jd ?_
          try simp only [Act.put, List.getElem_toArray, List.getElem_cons_zero, List.getElem_cons_succ, List.setIfInBounds_toArray, List.set_cons_zero, List.set_cons_succ]
          refine wpAnyH_take (i := 3) (v := .agg (celI (x, y, z, u)).toArray) rfl (by kernel_rfl) (by kernel_rfl) (by kernel_rfl) (fun _ _ _ h => nomatch h.1) (yieldsIf_load_mid (by rfl) 51 (.tmp 49) rfl b (off + k * 4) rfl (celI (x, y, z, u)) _ hins Tryd.underlying51 rfl (by kernel_rfl)) Jd ?_
          try simp only [Act.put, List.getElem_toArray, List.getElem_cons_zero, List.getElem_cons_succ, List.setIfInBounds_toArray, List.set_cons_zero, List.set_cons_succ]
          refine wpAnyH_take (i := 4) (v := .int .i64 (k : Int)) rfl (by kernel_rfl) (by kernel_rfl) (by kernel_rfl) (fun _ _ _ h => nomatch h.1) (.inl ⟨by rfl, fun V hV => by go_simp⟩) Jd ?_
          try simp only [Act.put, List.getElem_toArray, List.getElem_cons_zero, List.getElem_cons_succ, List.setIfInBounds_toArray, List.set_cons_zero, List.set_cons_succ]
          refine wpAnyH_take (i := 5) (v := .slice (some ⟨g8, 0, none⟩) m m) rfl (by kernel_rfl) (by kernel_rfl) (by kernel_rfl) (fun _ _ _ h => nomatch h.1) (.inl ⟨by rfl, fun V hV => by go_simp⟩) Jd ?_
          try simp only [Act.put, List.getElem_toArray, List.getElem_cons_zero, List.getElem_cons_succ, List.setIfInBounds_toArray, List.set_cons_zero, List.set_cons_succ]
          refine wpAnyH_take (i := 6) (v := .int .i64 (k : Int)) rfl (by kernel_rfl) (by kernel_rfl) (by kernel_rfl) (fun _ _ _ h => nomatch h.1) (.inl ⟨by rfl, fun V hV => by go_simp⟩) Jd ?_
          try simp only [Act.put, List.getElem_toArray, List.getElem_cons_zero, List.getElem_cons_succ, List.setIfInBounds_toArray, List.set_cons_zero, List.set_cons_succ]
          refine wpAnyH_take (i := 7) (v := .pointer (some ⟨g8, k * 37, none⟩)) rfl (by kernel_rfl) (by kernel_rfl) (by kernel_rfl) (fun _ _ _ h => nomatch h.1) (.inl ⟨by rfl, fun V hV => by go_simp⟩) Jd ?_
          try simp only [Act.put, List.getElem_toArray, List.getElem_cons_zero, List.getElem_cons_succ, List.setIfInBounds_toArray, List.set_cons_zero, List.set_cons_succ]
          refine wpAnyH_take (i := 8) (v := .agg (stC s)) rfl (by kernel_rfl) (by kernel_rfl) (by kernel_rfl) (fun _ _ _ h => nomatch h.1) (yieldsIf_load_mid (by rfl) 40 (.tmp 54) rfl g8 (k * 37) rfl (stC s).toList _ hrg Tryd.underlying40 rfl (stL_inf sok.len)) Jd ?_
          try simp only [Act.put, List.getElem_toArray, List.getElem_cons_zero, List.getElem_cons_succ, List.setIfInBounds_toArray, List.set_cons_zero, List.set_cons_succ]
          refine wpAnyH_take (i := 9) (v := .int .u32 nr) rfl (by kernel_rfl) (by kernel_rfl) (by kernel_rfl) (fun _ _ _ h => nomatch h.1) (.inl ⟨by rfl, fun V hV => by go_simp⟩) Jd ?_
          try simp only [Act.put, List.getElem_toArray, List.getElem_cons_zero, List.getElem_cons_succ, List.setIfInBounds_toArray, List.set_cons_zero, List.set_cons_succ]
          refine wpAnyH_take (i := 10) (v := .int .u32 arch) rfl (by kernel_rfl) (by kernel_rfl) (by kernel_rfl) (fun _ _ _ h => nomatch h.1) (.inl ⟨by rfl, fun V hV => by go_simp⟩) Jd ?_
          try simp only [Act.put, List.getElem_toArray, List.getElem_cons_zero, List.getElem_cons_succ, List.setIfInBounds_toArray, List.set_cons_zero, List.set_cons_succ]
          refine wpAnyH_ready (rs := [11, 12]) (by kernel_rfl) (by simp) ?_
          refine AllReadyH.cons rfl (fun K hK => ?_) (AllReadyH.cons rfl (fun K hK => ?_) AllReadyH.nil)
          · try simp only [Act.put, List.getElem_toArray, List.getElem_cons_zero, List.getElem_cons_succ, List.setIfInBounds_toArray, List.set_cons_zero, List.set_cons_succ]
            go_simp
            refine (DO _).mono ?_
            rintro e V1 ⟨P, R, rfl, hP, hR, bV⟩
            go_wp2_with fail
            have J1 := Jd.below bV
            have own1 := own_blw hown0 bV
            refine hK.out _ _ J1 (fun _ => ?_)
            clear hK K
            try simp only [Act.put, List.getElem_toArray, List.getElem_cons_zero, List.getElem_cons_succ, List.setIfInBounds_toArray, List.set_cons_zero, List.set_cons_succ]
            refine wpAnyH_ready (rs := [12]) (by kernel_rfl) (by simp) ?_
            refine AllReadyH.cons rfl (fun K hK => ?_) AllReadyH.nil
            try simp only [Act.put, List.getElem_toArray, List.getElem_cons_zero, List.getElem_cons_succ, List.setIfInBounds_toArray, List.set_cons_zero, List.set_cons_succ]
            go_simp
            refine hK.out _ _ (J1.below ((Below.refl _ _).alloc (Nat.le_refl _) _)) (fun _ => ?_)
            clear hK K
            have k12 := Blk.new V1 nxZ 72
            have hs1 := bV.size
            obtain ⟨PA, hPA, hpr⟩ := pr_of hP
            obtain ⟨RA, hRA, hrr⟩ := rr_of hR
            subst hPA hRA
            try simp only [Act.put, List.getElem_toArray, List.getElem_cons_zero, List.getElem_cons_succ, List.setIfInBounds_toArray, List.set_cons_zero, List.set_cons_succ]
            refine wpAnyH_ready (rs := [13]) (by kernel_rfl) (by simp) ?_
            refine AllReadyH.cons rfl (fun K hK => ?_) AllReadyH.nil
            try simp only [Act.put, List.getElem_toArray, List.getElem_cons_zero, List.getElem_cons_succ, List.setIfInBounds_toArray, List.set_cons_zero, List.set_cons_succ]
            rw [if_pos (by rfl)]
            refine wp_store_blk 72 (.tmp 12) (.tmp 58) rfl _ _ (nxC (.slice PA ps.length ps.length) t (.slice RA rs'.length rs'.length)) 72 rfl rfl k12 (nxz_size.trans (nx_size (t := t) hlen).symm) (nx_inf (t := t) hlen) nx_one ?_
            intro V3 F3 N3
            have bb : Below V1.heap.size V1 V3 := ((Below.refl _ V1).alloc (Nat.le_refl _) _).trans (N3.below _ (Nat.le_refl _) (by simp))
            have JG : QG w V3 m g8 V1.heap.size V1.heap.size L A10 c10 rs PA ps t RA rs' :=
              ⟨J1.below bb, F3, Nat.lt_of_lt_of_le hg8 hs1, own_blw own1 bb, hpr.blw (Nat.le_refl _) bb, hrr.keep fun b _ hb' _ => bb.block b hb', bb.size⟩
            refine hK.out _ _ JG.q (fun _ => ?_)
            clear hK K bb F3 N3 k12 own1 J1 hP hR hpr hrr bV hs1
            try simp only [Act.put, List.getElem_toArray, List.getElem_cons_zero, List.getElem_cons_succ, List.setIfInBounds_toArray, List.set_cons_zero, List.set_cons_succ]
            refine wpAnyH_done (by kernel_rfl) ?_ _
            refine ⟨rfl, ?_⟩
            generalize V1.heap.size = g12 at JG ⊢
            obtain ⟨B, JG⟩ : ∃ B, QG w V3 m g8 g12 B L A10 c10 rs PA ps t RA rs' := ⟨_, JG⟩
            clear hown0 Jd hg8 DO hins hrg hown
            go_wp2_with fail
            go_loopw [13] (fun v13 wx => ∃ (j : Nat) (wz : World), wz = wx ∧ j ≤ ps.length ∧ v13 = .int .i64 j ∧ QG w wz m g8 g12 B ((ps.take j).foldl (putS t) L) A10 c10 rs PA ps t RA rs') (fun i _ => ps.length - (intOf i).toNat)
            case atStart => exact ⟨0, _, rfl, Nat.zero_le _, rfl, JG⟩
            case round =>
              clear JG
              obtain ⟨j, wx, hwx, hj, rfl, Jj⟩ := hrel
              subst hwx
              have hok' := puts_ok tok.1 (ps.take j) hLok.1
              have hstep := fun pn => fold_take (t := t) (L := L) (ps := ps) (j := j) (pn := pn)
              obtain ⟨L', hL'⟩ : ∃ L', (ps.take j).foldl (putS t) L = L' := ⟨_, rfl⟩
              rw [hL'] at Jj hok' hstep
              have HL' := Lib.hid hL'
              clear hL'
              have hl' := Jj.q.hL
              have c0 := (Jj.k12.cell 0).trans nx_0
              by_cases hjl : j < ps.length
              · have hjl' : (j : Int) < (ps.length : Int) := by omega
                obtain ⟨b2, hPA, hbB, hc⟩ := Jj.pr j hjl
                subst hPA
                have hpm : ps.getD j 0 < m := hsub _ (by rw [show ps.getD j 0 = ps[j] by simp [List.getD, hjl]]; exact List.getElem_mem hjl)
                obtain ⟨pn, hpn⟩ : ∃ pn, ps.getD j 0 = pn := ⟨_, rfl⟩
                have hst := hstep pn hjl hpn
                rw [hpn] at hc hpm
                have hpm' : (pn : Int) < (m : Int) := by omega
                have HPN := Lib.hid hpn
                clear hstep hpn
                go_wp2_with fail
                have Jd := Jj.below (Below.refl _ _).drew
                have h16 : Len16 L' := fun s hs => (hok' s hs).len
                have spk := getD_ok hok' pn
                have hsl := h16.at_ pn
                have hrow0 := fun V (h : QG w V m g8 g12 B L' A10 c10 rs (some ⟨b2, 0, none⟩) ps t RA rs') => row_range (k := pn) h.q.k8 h16 (by omega)
                obtain ⟨sp, hsp⟩ : ∃ sp, L'.getD pn st0 = sp := ⟨_, rfl⟩
                rw [hsp] at spk hsl hst hrow0
                clear hsp
                have hst' := Lib.hid hst
                clear hst
                have CJ := Lib.hid (calls_keep (S := fun V => QG w V m g8 g12 B L' A10 c10 rs (some ⟨b2, 0, none⟩) ps t RA rs') (fun V V' h hb => h.below hb) (fun V _ => rjoin_any sp t spk tok.1 V))
                unfold stV at CJ
                have hrow : ∀ V, QG w V m g8 g12 B L' A10 c10 rs (some ⟨b2, 0, none⟩) ps t RA rs' → V.rangeAt g8 (pn * 37) (stC sp).toList := fun V h => hrow0 V h
                have hrt12 : ∀ V, QG w V m g8 g12 B L' A10 c10 rs (some ⟨b2, 0, none⟩) ps t RA rs' → V.rangeAt g12 1 (stC t).toList := fun V h => nx_range h.k12 hlen
                have hS0 : ∀ s' : Sig (fun V => QG w V m g8 g12 B L' A10 c10 rs (some ⟨b2, 0, none⟩) ps t RA rs'), s'.V.cell? ⟨g12, 0, none⟩ = some (.slice (some ⟨b2, 0, none⟩) ps.length ps.length) := fun s' => (s'.h.k12.cell 0).trans nx_0
                have hS1 : ∀ s' : Sig (fun V => QG w V m g8 g12 B L' A10 c10 rs (some ⟨b2, 0, none⟩) ps t RA rs'), s'.V.cell? ⟨b2, j, none⟩ = some (.int .i64 (pn : Int)) := fun s' => by
                  obtain ⟨b3, e3, _, hc3⟩ := s'.h.pr j hjl
                  cases e3
                  rw [HPN.out] at hc3
                  exact hc3
                have hne : Nonempty (Sig (fun V => QG w V m g8 g12 B L' A10 c10 rs (some ⟨b2, 0, none⟩) ps t RA rs')) := ⟨⟨_, Jd⟩⟩
                clear hrow0
                refine region_class_tail (S := fun V => QG w V m g8 g12 B L' A10 c10 rs (some ⟨b2, 0, none⟩) ps t RA rs') 18 (by kernel_rfl) (by kernel_rfl) Jd ?_
                simp only [List.take_succ_cons, List.take_zero, List.drop_succ_cons, List.drop_zero]
                iterate 13 go_big_quiet_step (fail)
                refine class_load_row (by rfl) 40 (.tmp 78) rfl g8 (pn * 37) rfl (stC sp) _ hrow Tryd.underlying40 rfl (st_inf hsl) ?_
                simp only [Act.put, List.setIfInBounds_toArray, List.set_cons_zero, List.set_cons_succ]
                go_big_quiet_step (fail)
                refine class_load_row (by rfl) 40 (.tmp 80) rfl g12 1 rfl (stC t) _ hrt12 Tryd.underlying40 rfl (st_inf hlen) ?_
                simp only [Act.put, List.setIfInBounds_toArray, List.set_cons_zero, List.set_cons_succ]
                repeat (go_big_quiet_step (first | (go_at_call 28; exact class_call _ CJ.out)))
                refine wpQuiet_nil ?_
                rintro ⟨V5, J5⟩
                dsimp only
                clear hS0 hS1 hne CJ Jd Jj hrow hrt12
                go_wp2_with (refine wpList_store_row rfl 40 (.tmp 83) (.tmp 82) rfl g8 pn L' (joinS sp t) 40 rfl rfl J5.q.k8 h16 (joinS_ok spk tok.1).len (by omega) st_info ?_
                             intro V6 hV6 hN6
                             have J6 := J5.put hV6 hN6 (by rw [List.length_set]; exact hl')
                             clear hV6 hN6 J5)
                go_roundw
                case rel => exact ⟨j + 1, _, rfl, by omega, by go_num, by rw [hst'.out]; exact J6⟩
                case measure => simp [intOf]; omega
              · obtain rfl : j = ps.length := by omega
                have hfin : L' = ps.foldl (putS t) L := by rw [← HL'.out, List.take_length]
                subst hfin
                have Jr : QR w wx m g8 g12 (ps.foldl (putS t) L) PA ps.length t RA rs'.length := ⟨Jj.q, Jj.k12⟩
                have hown := Jj.own
                have hrr := Jj.rr
                have hbz := Jj.hB
                clear hok' hstep hl' HL' hjl
                go_wp2_with fail
                go_loopw [10, 14] (fun v10 v14 wy' => ∃ (j : Nat) (A : Option Addr) (c : Nat) (wy : World), wy = wy' ∧ j ≤ rs'.length ∧ v14 = .int .i64 j ∧ v10 = .slice A (rs ++ rs'.take j).length c ∧ wy.ownsRow (g8 + 1) 27 2 (.slice A (rs ++ rs'.take j).length c) (rs ++ rs'.take j).length (absL (rs ++ rs'.take j)) ∧ QR w wy m g8 g12 (ps.foldl (putS t) L) PA ps.length t RA rs'.length ∧ (j = 0 → wy = wx)) (fun _ i _ => rs'.length - (intOf i).toNat)
                case atStart => exact ⟨0, A10, c10, _, rfl, Nat.zero_le _, rfl, by simp, by simpa using hown, Jr, fun _ => rfl⟩
                case round =>
                  clear Jr hown Jj c0
                  obtain ⟨j, A, c, wy, hwy, hj, rfl, rfl, hown, Jr, hw0⟩ := hrel
                  subst hwy
                  have c2 := (Jr.k12.cell 38).trans (nx_38 hlen)
                  have hR1 := HR1.out
                  by_cases hjl : j < rs'.length
                  · obtain rfl : j = 0 := by omega
                    rw [hw0 rfl] at Jr hown c2 ⊢
                    rcases hrr with hrr | ⟨b2, u2, hrr, hRA, hb2, hbk⟩
                    · rw [hrr] at hjl; exact absurd hjl (by simp)
                    have he : rs ++ rs'.take 0 = rs := by simp
                    have he1 : rs ++ rs'.take 1 = rs ++ [u2] := by rw [hrr]; rfl
                    rw [he] at hown ⊢
                    have hlen1 : rs'.length = 1 := by rw [hrr]; rfl
                    rw [hlen1] at c2 hjl ⊢
                    subst hRA
                    have HRR := Lib.hid hrr
                    have HE1 := Lib.hid he1
                    have HL1 := Lib.hid hlen1
                    clear hrr he he1 hlen1 hw0
                    obtain ⟨i0, hi, hz0, hz1, hz2⟩ := info_parts abs_info
                    have hnew := news_new wx #[.bool u2.k, .int .u32 u2.v] 27
                    have hbk' : Blk wx b2 #[.bool u2.k, .int .u32 u2.v] 27 := hbk
                    go_wp2_with (first
                      | (refine wpList_load_row rfl 27 (.tmp 95) rfl b2 rfl 27 #[.bool u2.k, .int .u32 u2.v] (0, 0) _ hbk'.blk Tryd.underlying27 rfl (abA_inf u2) ?_)
                      | (at_builtin; refine wpList_append_own _ rfl (.tmp 91) (.tmp 97) 69 rfl (g8 + 1) 27 i0 _ 2 8 Tryd.underlying69 hi hz0 hz1 hz2 rfl (by decide) _ rs.length (absL rs) rfl (hown.alloc _) ⟨wx.heap.size, 0, none⟩ 1 1 (abA u2).toList rfl rfl hnew (abs_one u2) (by unfold maxLen; omega) (by omega) (by simp; have := Jr.q.k8.lt; omega) ?_
                         intro v' w9 hown' hgr _
                         have Jr9 := (Jr.below ((Below.refl _ _).alloc (Nat.le_refl _) _)).grown (hown.alloc _) hgr rfl
                         rw [HL1.out] at Jr9
                         obtain ⟨A', c', rfl⟩ := own_slice hown'
                         rw [← absL_snoc] at hown'
                         have hlr : rs.length + 1 = (rs ++ rs'.take 1).length := by rw [HE1.out]; simp
                         rw [hlr, ← HE1.out] at hown'
                         rw [hlr]
                         have HLR := Lib.hid hlr
                         clear hlr hgr hnew Jr hown hbk hbk' c2))
                    go_roundw
                    case rel => exact ⟨1, A', c', _, rfl, Nat.le_refl _, by go_num, by rw [HE1.out, HL1.out]; simp, hown', Jr9, fun h => absurd h (by decide)⟩
                    case measure => simp [intOf]
                  · obtain rfl : j = rs'.length := by omega
                    rw [List.take_length] at hown ⊢
                    clear hw0 hrr
                    have hfx := HNX.out
                    have HX1 := Lib.hid (congrArg Prod.fst hfx)
                    have HX2 := Lib.hid (congrArg Prod.snd hfx)
                    clear hfx
                    go_wp2_with fail
                    go_roundw
                    case rel => exact ⟨k + 1, by omega, by omega, rs ++ rs', by rw [← List.length_append]; exact hown, by rw [List.length_append]; omega, HX2.out.symm, by rw [HX1.out]; exact Jr.q⟩
                    case measure => simp [intOf]; omega
          · try simp only [Act.put, List.getElem_toArray, List.getElem_cons_zero, List.getElem_cons_succ, List.setIfInBounds_toArray, List.set_cons_zero, List.set_cons_succ]
            go_simp
            have J0 := Jd.below ((Below.refl wd.heap.size wd).alloc (Nat.le_refl _) (.cells nxZ 72))
            refine hK.out _ _ J0 (fun _ => ?_)
            clear hK K
            have k12 := Blk.new wd nxZ 72
            have own0 := own_blw hown0 ((Below.refl wd.heap.size wd).alloc (Nat.le_refl _) (.cells nxZ 72))
            try simp only [Act.put, List.getElem_toArray, List.getElem_cons_zero, List.getElem_cons_succ, List.setIfInBounds_toArray, List.set_cons_zero, List.set_cons_succ]
            refine wpAnyH_ready (rs := [11]) (by kernel_rfl) (by simp) ?_
            refine AllReadyH.cons rfl (fun K hK => ?_) AllReadyH.nil
            try simp only [Act.put, List.getElem_toArray, List.getElem_cons_zero, List.getElem_cons_succ, List.setIfInBounds_toArray, List.set_cons_zero, List.set_cons_succ]
            go_simp
            refine (DO _).mono ?_
            rintro e V1 ⟨P, R, rfl, hP, hR, bV⟩
            go_wp2_with fail
            have J1 := J0.below bV
            have own1 := own_blw own0 bV
            have k121 := k12.below bV k12.lt
            refine hK.out _ _ J1 (fun _ => ?_)
            clear hK K J0 own0 k12 bV
            generalize wd.heap.size = g12 at hg8 k121 ⊢
            obtain ⟨PA, RA, rfl, rfl, hQG⟩ := qg_of2 (t := t) J1 own1 hP hR hg8 k121
            try simp only [Act.put, List.getElem_toArray, List.getElem_cons_zero, List.getElem_cons_succ, List.setIfInBounds_toArray, List.set_cons_zero, List.set_cons_succ]
            refine wpAnyH_ready (rs := [13]) (by kernel_rfl) (by simp) ?_
            refine AllReadyH.cons rfl (fun K hK => ?_) AllReadyH.nil
            try simp only [Act.put, List.getElem_toArray, List.getElem_cons_zero, List.getElem_cons_succ, List.setIfInBounds_toArray, List.set_cons_zero, List.set_cons_succ]
            rw [if_pos (by rfl)]
            refine wp_store_blk 72 (.tmp 12) (.tmp 58) rfl _ _ (nxC (.slice PA ps.length ps.length) t (.slice RA rs'.length rs'.length)) 72 rfl rfl k121 (nxz_size.trans (nx_size (t := t) hlen).symm) (nx_inf (t := t) hlen) nx_one ?_
            intro V3 F3 N3
            have JG := hQG V3 N3 F3
            refine hK.out _ _ JG.q (fun _ => ?_)
            clear hK K F3 N3 k121 own1 J1 hP hR hQG
            try simp only [Act.put, List.getElem_toArray, List.getElem_cons_zero, List.getElem_cons_succ, List.setIfInBounds_toArray, List.set_cons_zero, List.set_cons_succ]
            refine wpAnyH_done (by kernel_rfl) ?_ _
            refine ⟨rfl, ?_⟩
            obtain ⟨B, JG⟩ : ∃ B, QG w V3 m g8 g12 B L A10 c10 rs PA ps t RA rs' := ⟨_, JG⟩
            clear hown0 Jd hg8 DO hins hrg hown
            go_wp2_with fail
            go_loopw [13] (fun v13 wx => ∃ (j : Nat) (wz : World), wz = wx ∧ j ≤ ps.length ∧ v13 = .int .i64 j ∧ QG w wz m g8 g12 B ((ps.take j).foldl (putS t) L) A10 c10 rs PA ps t RA rs') (fun i _ => ps.length - (intOf i).toNat)
            case atStart => exact ⟨0, _, rfl, Nat.zero_le _, rfl, JG⟩
            case round =>
              clear JG
              obtain ⟨j, wx, hwx, hj, rfl, Jj⟩ := hrel
              subst hwx
              have hok' := puts_ok tok.1 (ps.take j) hLok.1
              have hstep := fun pn => fold_take (t := t) (L := L) (ps := ps) (j := j) (pn := pn)
              obtain ⟨L', hL'⟩ : ∃ L', (ps.take j).foldl (putS t) L = L' := ⟨_, rfl⟩
              rw [hL'] at Jj hok' hstep
              have HL' := Lib.hid hL'
              clear hL'
              have hl' := Jj.q.hL
              have c0 := (Jj.k12.cell 0).trans nx_0
              by_cases hjl : j < ps.length
              · have hjl' : (j : Int) < (ps.length : Int) := by omega
                obtain ⟨b2, hPA, hbB, hc⟩ := Jj.pr j hjl
                subst hPA
                have hpm : ps.getD j 0 < m := hsub _ (by rw [show ps.getD j 0 = ps[j] by simp [List.getD, hjl]]; exact List.getElem_mem hjl)
                obtain ⟨pn, hpn⟩ : ∃ pn, ps.getD j 0 = pn := ⟨_, rfl⟩
                have hst := hstep pn hjl hpn
                rw [hpn] at hc hpm
                have hpm' : (pn : Int) < (m : Int) := by omega
                have HPN := Lib.hid hpn
                clear hstep hpn
                go_wp2_with fail
                have Jd := Jj.below (Below.refl _ _).drew
                have h16 : Len16 L' := fun s hs => (hok' s hs).len
                have spk := getD_ok hok' pn
                have hsl := h16.at_ pn
                have hrow0 := fun V (h : QG w V m g8 g12 B L' A10 c10 rs (some ⟨b2, 0, none⟩) ps t RA rs') => row_range (k := pn) h.q.k8 h16 (by omega)
                obtain ⟨sp, hsp⟩ : ∃ sp, L'.getD pn st0 = sp := ⟨_, rfl⟩
                rw [hsp] at spk hsl hst hrow0
                clear hsp
                have hst' := Lib.hid hst
                clear hst
                have CJ := Lib.hid (calls_keep (S := fun V => QG w V m g8 g12 B L' A10 c10 rs (some ⟨b2, 0, none⟩) ps t RA rs') (fun V V' h hb => h.below hb) (fun V _ => rjoin_any sp t spk tok.1 V))
                unfold stV at CJ
                have hrow : ∀ V, QG w V m g8 g12 B L' A10 c10 rs (some ⟨b2, 0, none⟩) ps t RA rs' → V.rangeAt g8 (pn * 37) (stC sp).toList := fun V h => hrow0 V h
                have hrt12 : ∀ V, QG w V m g8 g12 B L' A10 c10 rs (some ⟨b2, 0, none⟩) ps t RA rs' → V.rangeAt g12 1 (stC t).toList := fun V h => nx_range h.k12 hlen
                have hS0 : ∀ s' : Sig (fun V => QG w V m g8 g12 B L' A10 c10 rs (some ⟨b2, 0, none⟩) ps t RA rs'), s'.V.cell? ⟨g12, 0, none⟩ = some (.slice (some ⟨b2, 0, none⟩) ps.length ps.length) := fun s' => (s'.h.k12.cell 0).trans nx_0
                have hS1 : ∀ s' : Sig (fun V => QG w V m g8 g12 B L' A10 c10 rs (some ⟨b2, 0, none⟩) ps t RA rs'), s'.V.cell? ⟨b2, j, none⟩ = some (.int .i64 (pn : Int)) := fun s' => by
                  obtain ⟨b3, e3, _, hc3⟩ := s'.h.pr j hjl
                  cases e3
                  rw [HPN.out] at hc3
                  exact hc3
                have hne : Nonempty (Sig (fun V => QG w V m g8 g12 B L' A10 c10 rs (some ⟨b2, 0, none⟩) ps t RA rs')) := ⟨⟨_, Jd⟩⟩
                clear hrow0
                refine region_class_tail (S := fun V => QG w V m g8 g12 B L' A10 c10 rs (some ⟨b2, 0, none⟩) ps t RA rs') 18 (by kernel_rfl) (by kernel_rfl) Jd ?_
                simp only [List.take_succ_cons, List.take_zero, List.drop_succ_cons, List.drop_zero]
                iterate 13 go_big_quiet_step (fail)
                refine class_load_row (by rfl) 40 (.tmp 78) rfl g8 (pn * 37) rfl (stC sp) _ hrow Tryd.underlying40 rfl (st_inf hsl) ?_
                simp only [Act.put, List.setIfInBounds_toArray, List.set_cons_zero, List.set_cons_succ]
                go_big_quiet_step (fail)
                refine class_load_row (by rfl) 40 (.tmp 80) rfl g12 1 rfl (stC t) _ hrt12 Tryd.underlying40 rfl (st_inf hlen) ?_
                simp only [Act.put, List.setIfInBounds_toArray, List.set_cons_zero, List.set_cons_succ]
                repeat (go_big_quiet_step (first | (go_at_call 28; exact class_call _ CJ.out)))
                refine wpQuiet_nil ?_
                rintro ⟨V5, J5⟩
                dsimp only
                clear hS0 hS1 hne CJ Jd Jj hrow hrt12
                go_wp2_with (refine wpList_store_row rfl 40 (.tmp 83) (.tmp 82) rfl g8 pn L' (joinS sp t) 40 rfl rfl J5.q.k8 h16 (joinS_ok spk tok.1).len (by omega) st_info ?_
                             intro V6 hV6 hN6
                             have J6 := J5.put hV6 hN6 (by rw [List.length_set]; exact hl')
                             clear hV6 hN6 J5)
                go_roundw
                case rel => exact ⟨j + 1, _, rfl, by omega, by go_num, by rw [hst'.out]; exact J6⟩
                case measure => simp [intOf]; omega
              · obtain rfl : j = ps.length := by omega
                have hfin : L' = ps.foldl (putS t) L := by rw [← HL'.out, List.take_length]
                subst hfin
                have Jr : QR w wx m g8 g12 (ps.foldl (putS t) L) PA ps.length t RA rs'.length := ⟨Jj.q, Jj.k12⟩
                have hown := Jj.own
                have hrr := Jj.rr
                have hbz := Jj.hB
                clear hok' hstep hl' HL' hjl
                go_wp2_with fail
                go_loopw [10, 14] (fun v10 v14 wy' => ∃ (j : Nat) (A : Option Addr) (c : Nat) (wy : World), wy = wy' ∧ j ≤ rs'.length ∧ v14 = .int .i64 j ∧ v10 = .slice A (rs ++ rs'.take j).length c ∧ wy.ownsRow (g8 + 1) 27 2 (.slice A (rs ++ rs'.take j).length c) (rs ++ rs'.take j).length (absL (rs ++ rs'.take j)) ∧ QR w wy m g8 g12 (ps.foldl (putS t) L) PA ps.length t RA rs'.length ∧ (j = 0 → wy = wx)) (fun _ i _ => rs'.length - (intOf i).toNat)
                case atStart => exact ⟨0, A10, c10, _, rfl, Nat.zero_le _, rfl, by simp, by simpa using hown, Jr, fun _ => rfl⟩
                case round =>
                  clear Jr hown Jj c0
                  obtain ⟨j, A, c, wy, hwy, hj, rfl, rfl, hown, Jr, hw0⟩ := hrel
                  subst hwy
                  have c2 := (Jr.k12.cell 38).trans (nx_38 hlen)
                  have hR1 := HR1.out
                  by_cases hjl : j < rs'.length
                  · obtain rfl : j = 0 := by omega
                    rw [hw0 rfl] at Jr hown c2 ⊢
                    rcases hrr with hrr | ⟨b2, u2, hrr, hRA, hb2, hbk⟩
                    · rw [hrr] at hjl; exact absurd hjl (by simp)
                    have he : rs ++ rs'.take 0 = rs := by simp
                    have he1 : rs ++ rs'.take 1 = rs ++ [u2] := by rw [hrr]; rfl
                    rw [he] at hown ⊢
                    have hlen1 : rs'.length = 1 := by rw [hrr]; rfl
                    rw [hlen1] at c2 hjl ⊢
                    subst hRA
                    have HRR := Lib.hid hrr
                    have HE1 := Lib.hid he1
                    have HL1 := Lib.hid hlen1
                    clear hrr he he1 hlen1 hw0
                    obtain ⟨i0, hi, hz0, hz1, hz2⟩ := info_parts abs_info
                    have hnew := news_new wx #[.bool u2.k, .int .u32 u2.v] 27
                    have hbk' : Blk wx b2 #[.bool u2.k, .int .u32 u2.v] 27 := hbk
                    go_wp2_with (first
                      | (refine wpList_load_row rfl 27 (.tmp 95) rfl b2 rfl 27 #[.bool u2.k, .int .u32 u2.v] (0, 0) _ hbk'.blk Tryd.underlying27 rfl (abA_inf u2) ?_)
                      | (at_builtin; refine wpList_append_own _ rfl (.tmp 91) (.tmp 97) 69 rfl (g8 + 1) 27 i0 _ 2 8 Tryd.underlying69 hi hz0 hz1 hz2 rfl (by decide) _ rs.length (absL rs) rfl (hown.alloc _) ⟨wx.heap.size, 0, none⟩ 1 1 (abA u2).toList rfl rfl hnew (abs_one u2) (by unfold maxLen; omega) (by omega) (by simp; have := Jr.q.k8.lt; omega) ?_
                         intro v' w9 hown' hgr _
                         have Jr9 := (Jr.below ((Below.refl _ _).alloc (Nat.le_refl _) _)).grown (hown.alloc _) hgr rfl
                         rw [HL1.out] at Jr9
                         obtain ⟨A', c', rfl⟩ := own_slice hown'
                         rw [← absL_snoc] at hown'
                         have hlr : rs.length + 1 = (rs ++ rs'.take 1).length := by rw [HE1.out]; simp
                         rw [hlr, ← HE1.out] at hown'
                         rw [hlr]
                         have HLR := Lib.hid hlr
                         clear hlr hgr hnew Jr hown hbk hbk' c2))
                    go_roundw
                    case rel => exact ⟨1, A', c', _, rfl, Nat.le_refl _, by go_num, by rw [HE1.out, HL1.out]; simp, hown', Jr9, fun h => absurd h (by decide)⟩
                    case measure => simp [intOf]
                  · obtain rfl : j = rs'.length := by omega
                    rw [List.take_length] at hown ⊢
                    clear hw0 hrr
                    have hfx := HNX.out
                    have HX1 := Lib.hid (congrArg Prod.fst hfx)
                    have HX2 := Lib.hid (congrArg Prod.snd hfx)
                    clear hfx
                    go_wp2_with fail
                    go_roundw
                    case rel => exact ⟨k + 1, by omega, by omega, rs ++ rs', by rw [← List.length_append]; exact hown, by rw [List.length_append]; omega, HX2.out.symm, by rw [HX1.out]; exact Jr.q⟩
                    case measure => simp [intOf]; omega
        · obtain rfl : k = m := by omega
          have hrn : rs ≠ [] := by
            rintro rfl
            rw [← hre] at hTold
            cases hTold
          obtain ⟨r0, rt, rfl⟩ : ∃ r0 rt, rs = r0 :: rt := by
            cases rs with
            | nil => exact absurd rfl hrn
            | cons a b => exact ⟨a, b, rfl⟩
          obtain ⟨g10, c10', hv, hle, hbase, hglt, hrng⟩ := abs_range hown (j := 0) (by simp)
          injection hv with hA10 _ hc10
          subst hA10 hc10
          rw [Nat.zero_mul] at hrng
          obtain ⟨⟨L, e⟩, hLe⟩ : ∃ z, floS alI hdI nr arch f k k = z := ⟨_, rfl⟩
          rw [hLe] at Jk hre
          simp only at Jk hre
          have HRE := Lib.hid hre
          have HLE := Lib.hid hLe
          obtain ⟨nr', hnr'⟩ : ∃ n, (r0 :: rt).length = n := ⟨_, rfl⟩
          have hn1 : 1 ≤ nr' := by rw [← hnr']; simp
          have hr0 : wr.rangeAt g10 0 (abA r0).toList := hrng
          have hrl' : nr' ≤ 64 := by omega
          rw [hnr'] at hown hle
          try rw [hnr']
          have HN := Lib.hid hnr'
          clear hgn hgy hLok hLl hre hLe hlt hrn hrng hTold hF hFl hnr' hrl
          have hn1' : (0 : Int) < (nr' : Int) := by omega
          go_wp2_with (first
            | (refine wpList_load_mid rfl 27 (.tmp 100) rfl g10 0 rfl (abA r0).toList _ hr0 Tryd.underlying27 rfl (abA_inf r0) ?_)
            | (refine wpList_store_blk rfl 27 (.tmp 15) (.tmp 101) rfl wr.heap.size (abA ab0) (abA r0) 27 rfl rfl (Blk.new _ _ _) rfl (abA_inf _) (abA_one _) ?_
               intro w5 hw5 hn5
               have bb : Below wr.heap.size wr w5 := ((Below.refl _ wr).alloc (Nat.le_refl _) _).trans (hn5.below _ (Nat.le_refl _) (by simp))
               have JE : QE w w5 k g8 g10 c10 wr.heap.size L (r0 :: rt) (retE ((r0 :: rt).take 1)).b := ⟨Jk.below bb, hw5, by rw [HN.out]; exact own_blw hown bb, by omega, hglt⟩
               clear hw5 hn5 bb hown Jk hr0))
          generalize wr.heap.size = g15 at JE ⊢
          go_loopw [16] (fun v16 wx => ∃ (j : Nat) (wz : World), wz = wx ∧ 1 ≤ j ∧ j ≤ nr' ∧ v16 = .int .i64 j ∧ QE w wz k g8 g10 c10 g15 L (r0 :: rt) (retE ((r0 :: rt).take j)).b) (fun i _ => nr' - (intOf i).toNat)
          case atStart => exact ⟨1, _, rfl, Nat.le_refl _, hn1, rfl, JE⟩
          case round =>
            clear JE
            obtain ⟨j, wx, hwx, hj1, hjn, rfl, Jj⟩ := hrel
            subst hwx
            by_cases hjl : j < nr'
            · have hjl' : (j : Int) < (nr' : Int) := by omega
              have hstep := retE_take (r := r0) (rs := rt) hj1 (by rw [HN.out]; exact hjl)
              obtain ⟨ac, hac⟩ : ∃ ac, (retE ((r0 :: rt).take j)).b = ac := ⟨_, rfl⟩
              obtain ⟨el, hel⟩ : ∃ el, (r0 :: rt).getD j ab0 = el := ⟨_, rfl⟩
              rw [hac] at Jj hstep
              rw [hel] at hstep
              have HST := Lib.hid hstep
              have HEL := Lib.hid hel
              clear hac hel hstep
              go_wp2_with fail
              have Jd := Jj.below (Below.refl _ _).drew
              have CA := Lib.hid (calls_keep (S := fun V => QE w V k g8 g10 c10 g15 L (r0 :: rt) ac) (fun V V' h hb => h.below hb) (fun V _ => alike7_any ac el V))
              unfold abV at CA
              have hrow : ∀ V, QE w V k g8 g10 c10 g15 L (r0 :: rt) ac → V.rangeAt g10 (j * 2) (abA el).toList := fun V h => by
                obtain ⟨g, c, hv, _, _, _, hr⟩ := abs_range h.own (j := j) (by rw [HN.out]; exact hjl)
                injection hv with h1 _ _
                injection h1 with h1
                injection h1 with h1
                subst h1
                rw [HEL.out] at hr
                exact hr
              have hne : Nonempty (Sig (fun V => QE w V k g8 g10 c10 g15 L (r0 :: rt) ac)) := ⟨⟨_, Jd⟩⟩
              refine region_class_tail (S := fun V => QE w V k g8 g10 c10 g15 L (r0 :: rt) ac) 6 (by kernel_rfl) (by kernel_rfl) Jd ?_
              simp only [List.take_succ_cons, List.take_zero, List.drop_succ_cons, List.drop_zero]
              refine class_load (by rfl) 27 (.tmp 15) rfl g15 rfl (abA ac) 27 _ (fun _ h => h.k15) Tryd.underlying27 rfl (abA_inf _) ?_
              simp only [Act.put, List.setIfInBounds_toArray, List.set_cons_zero, List.set_cons_succ]
              iterate 3 go_big_quiet_step (fail)
              refine class_load_row (by rfl) 27 (.tmp 111) rfl g10 (j * 2) rfl (abA el) _ hrow Tryd.underlying27 rfl (abA_inf _) ?_
              simp only [Act.put, List.setIfInBounds_toArray, List.set_cons_zero, List.set_cons_succ]
              repeat (go_big_quiet_step (first | (go_at_call 29; exact class_call _ CA.out)))
              refine wpQuiet_nil ?_
              rintro ⟨V5, J5⟩
              dsimp only
              clear hne CA Jd Jj hrow
              go_wp2_with (refine wpList_store_blk rfl 27 (.tmp 15) (.tmp 113) rfl g15 (abA ac) (abA (alikeA ac el)) 27 rfl rfl J5.k15 rfl (abA_inf _) (abA_one _) ?_
                           intro V6 hV6 hN6
                           have J6 := J5.put hV6 hN6
                           clear hV6 hN6 J5)
              go_roundw
              case rel => exact ⟨j + 1, _, rfl, by omega, by omega, by go_num, by rw [HST.out]; exact J6⟩
              case measure => simp [intOf]; omega
            · obtain rfl : j = nr' := by omega
              have hall : (r0 :: rt).take j = r0 :: rt := by rw [← HN.out, List.take_length]
              rw [hall, HRE.out] at Jj
              clear hall
              go_wp2_with fail
              have Jd := Jj.below (Below.refl _ _).drew
              have hne : Nonempty (Sig (fun V => QE w V k g8 g10 c10 g15 L (r0 :: rt) e.b)) := ⟨⟨_, Jd⟩⟩
              refine region_class_tail (S := fun V => QE w V k g8 g10 c10 g15 L (r0 :: rt) e.b) 3 (by kernel_rfl) (by kernel_rfl) Jd ?_
              simp only [List.take_succ_cons, List.take_zero, List.drop_succ_cons, List.drop_zero]
              go_big_quiet_step (fail)
              refine class_load (by rfl) 27 (.tmp 15) rfl g15 rfl (abA e.b) 27 _ (fun _ h => h.k15) Tryd.underlying27 rfl (abA_inf _) ?_
              simp only [Act.put, List.setIfInBounds_toArray, List.set_cons_zero, List.set_cons_succ]
              repeat (go_big_quiet_step (fail))
              refine wpQuiet_nil ?_
              rintro ⟨V5, J5⟩
              dsimp only
              clear hne Jd Jj
              go_wp2_with (refine wpList_store_blk rfl 27 (.tmp 7) (.tmp 115) rfl w.heap.size (abA ab0) (abA e.b) 27 rfl rfl J5.q.k7 rfl (abA_inf _) (abA_one _) ?_; intro V6 hV6 hN6)
              refine bodyPost_ret (results_flow7 rfl _ _ w.heap.size (abA e.b) rfl hV6 _ rfl (abA_inf _)) rfl ⟨g8, by rw [HLE.out]; rfl, by rw [HLE.out]; exact hN6.blk' J5.q.k8 (by have := J5.q.h8; omega), ?_⟩
              exact J5.q.old.trans (hN6.below _ (Nat.le_refl _) J5.q.old.size)
end Go.Proofs.YtehcijockeecpaaDoor

/-
  CheckEnds, walked: whichever way is gone, it goes behind, within, and ends with a return.
-/
import Derived.Test.YtgepeckdafeedaaDoorCkWake
import Derived.Test.YtgepeckdafeedaaDoorCkReach
import Derived.Test.YtgepeckdafeedaaDoorOpenI
import Derived.Deep.Grids
namespace Go.Proofs.YtgepeckdafeedaaDoor
open Go.RowKit

/-- Bools that came in. -/
def Bools (w : World) (B : Nat) (A : Option Addr) (n : Nat) (t : Nat → Bool) : Prop := ∀ k, k < n → ∃ b off, A = some ⟨b, off, none⟩ ∧ b < B ∧ w.cell? ⟨b, off + k, none⟩ = some (.bool (t k))
theorem Bools.below {w w' : World} {B B' n : Nat} {A : Option Addr} {t : Nat → Bool} (h : Bools w B A n t) (hb : Below B' w w') (hB : B ≤ B') : Bools w' B A n t := fun k hk => by
  obtain ⟨b, off, e, h1, c⟩ := h k hk
  exact ⟨b, off, e, h1, (hb.cell (p := ⟨b, off + k, none⟩) (Nat.lt_of_lt_of_le h1 hB)).trans c⟩

set_option maxHeartbeats 1000000 in
theorem index_in (A : Option Addr) (n c B v : Nat) (l : List Nat) (w : World) (h : Rn w B A l) (hn : n = l.length) (hv : v ∈ l) (h300 : n ≤ 1000) :
    Calls Tryd.prog 29 #[.slice A n c, .int .i64 v] w fun e w' => (∃ j : Nat, e = .returned (.int .i64 (j : Int))) ∧ w' = w := by
  have HL := Lib.hid hn
  have HV := Lib.hid hv
  clear hn hv
  go_enter Tryd.func29, Tryd.ntmps29
  go_wp2
  go_loopw [8] (fun i wr => ∃ k : Nat, k ≤ n ∧ i = .int .i64 k ∧ (∀ j, j < k → l.getD j 0 ≠ v) ∧ wr = w) (fun i _ => n - (intOf i).toNat)
  case atStart => exact ⟨0, Nat.zero_le _, rfl, fun j hj => absurd hj (by omega), rfl⟩
  case round =>
    obtain ⟨k, hk, rfl, hp, rfl⟩ := hrel
    have HP := Lib.hid hp
    clear hp
    by_cases hlt : k < n
    · have hkl : k < l.length := by rw [← HL.out]; exact hlt
      obtain ⟨b, off, rfl, _, c0⟩ := h k hkl
      obtain ⟨y, hy⟩ : ∃ y, l.getD k 0 = y := ⟨_, rfl⟩
      rw [hy] at c0
      have HY := Lib.hid hy
      have hlt' : (k : Int) < n := by omega
      clear hy
      by_cases hyv : y = v
      · subst hyv
        go_wp2
        go_ret
        exact ⟨⟨k, rfl⟩, rfl⟩
      · have hyv' : ¬ (v : Int) = y := by omega
        go_wp2
        go_roundw
        case rel =>
          refine ⟨k + 1, by omega, by go_num, fun j hj => ?_, trivial⟩
          rcases Nat.lt_or_ge j k with hjk | hjk
          · exact HP.out j hjk
          · obtain rfl : j = k := by omega
            rw [HY.out]
            exact hyv
        case measure => simp [intOf]; omega
    · exfalso
      obtain ⟨j, hj, he⟩ := List.mem_iff_getElem.1 HV.out
      have := HP.out j (by have := HL.out; omega)
      simp [List.getD, hj] at this
      exact this he

set_option maxHeartbeats 1000000 in
theorem contains_true (A : Option Addr) (n c B v : Nat) (l : List Nat) (w : World) (h : Rn w B A l) (hn : n = l.length) (hv : v ∈ l) (h300 : n ≤ 1000) :
    Calls Tryd.prog 19 #[.slice A n c, .int .i64 v] w fun e w' => e = .returned (.bool true) ∧ w' = w := by
  have hI := index_in A n c B v l w h hn hv h300
  clear h hn hv
  go_enter Tryd.func19, Tryd.ntmps19
  go_wp2_with fail
  refine hI.mono ?_
  rintro e w1 ⟨⟨j, rfl⟩, rfl⟩
  go_wp2_with fail
  go_ret
  exact ⟨rfl, rfl⟩

theorem next_none_ret {f : Nat → Ins} {n i : Nat} (h : Goes f n) (hi : i < n) (he : nextL (f i) i = []) : retI (f i) = true := by
  cases hr : retI (f i) with
  | true => rfl
  | false => exact absurd he (h.go i hi hr)

set_option maxRecDepth 100000 in
set_option maxHeartbeats 4000000 in
theorem ends_no (A : Option Addr) (l cap : Nat) (f : Nat → Ins) (A1 : Option Addr) (nt c1 : Nat) (w : World) (hK : Kinds w) (hA : Ri w w.heap.size A l f) (hc : l ≤ cap) (m : Nat) (hm : m = min l 65) (r1 r2 : Int) (hr : chkI f m = (r1, r2)) (h0 : ¬ r2 = 0) :
    Calls Tryd.prog 5 #[.slice A l cap, .slice A1 nt c1] w fun e w' => e = .returned (.bool true) ∧ Below w.heap.size w w' := by
  have HF := Lib.hid (fun w (hA : Ri w w.heap.size A l f) => few4_any A l cap f w hA hc m hm)
  have HO := Lib.hid (fun j (hj : j < m) => hA.ok j (by omega))
  have CC := Lib.hid (fun A c w hK hA => check_any A m c f w hK hA)
  rw [hr] at CC
  simp only at CC
  clear hm hr
  go_enter Tryd.func5, Tryd.ntmps5
  go_wp2_with fail
  refine (wakes4_any _ hK).mono ?_
  rintro e w1 ⟨rfl, b1⟩
  have K1 := hK.below b1 hK.pos
  have r1' := (hA.below b1 (Nat.le_refl _)).more b1.size
  clear hK hA
  go_wp2_with fail
  refine (HF.out _ r1').mono ?_
  rintro e w2 ⟨A2, c2, rfl, o2, b2⟩
  have B2 := b1.trans (b2.mono b1.size)
  have K2 := K1.below b2 K1.pos
  obtain ⟨p2, _⟩ := ri_of_own o2 HO.out
  clear b1 b2 K1 r1' o2
  go_wp2_with fail
  refine (CC.out A2 c2 w2 K2 p2).mono ?_
  rintro e w3 ⟨rfl, b3⟩
  have B3 := B2.trans (b3.mono B2.size)
  go_wp2_with fail
  go_ret
  exact ⟨rfl, B3⟩

/-- What holds through CheckEnds' loop. -/
structure EndJ (w V : World) (A2 : Option Addr) (m : Nat) (f : Nat → Ins) (A3 : Option Addr) (A1 : Option Addr) (nt : Nat) (t : Nat → Bool) : Prop where
  kin : Kinds V
  ri : Ri V V.heap.size A2 m f
  rn : Rn V V.heap.size A3 (reachI f m)
  bo : Bools V V.heap.size A1 nt t
  bel : Below w.heap.size w V
theorem EndJ.below {w V V' : World} {A2 : Option Addr} {m : Nat} {f : Nat → Ins} {A3 : Option Addr} {A1 : Option Addr} {nt : Nat} {t : Nat → Bool} (h : EndJ w V A2 m f A3 A1 nt t) (hb : Below V.heap.size V V') : EndJ w V' A2 m f A3 A1 nt t :=
  ⟨h.kin.below hb h.kin.pos, (h.ri.below hb (Nat.le_refl _)).more hb.size, (h.rn.below hb (Nat.le_refl _)).more hb.size,
    fun k hk => by
      obtain ⟨b, off, e, h1, c⟩ := (h.bo.below hb (Nat.le_refl _)) k hk
      exact ⟨b, off, e, Nat.lt_of_lt_of_le h1 hb.size, c⟩, h.bel.trans (hb.mono h.bel.size)⟩

set_option maxRecDepth 100000 in
set_option maxHeartbeats 8000000 in
theorem ends_yes (A : Option Addr) (l cap : Nat) (f : Nat → Ins) (A1 : Option Addr) (nt c1 : Nat) (t : Nat → Bool) (w : World) (hK : Kinds w) (hA : Ri w w.heap.size A l f) (hc : l ≤ cap) (hT : Bools w w.heap.size A1 nt t) (hnt : nt ≤ 9223372036854775807) (m : Nat) (hm : m = min l 65) (hM : May f m) :
    Calls Tryd.prog 5 #[.slice A l cap, .slice A1 nt c1] w fun e w' => e = .returned (.bool true) ∧ Below w.heap.size w w' := by
  have HF := Lib.hid (fun w (hA : Ri w w.heap.size A l f) => few4_any A l cap f w hA hc m hm)
  have HO := Lib.hid (fun j (hj : j < m) => hA.ok j (by omega))
  have CC := Lib.hid (fun A c w hK hA => check_any A m c f w hK hA)
  rw [chk_may hM] at CC
  simp only at CC
  have hG := may_goes hM HO.out
  have HR := Lib.hid (fun A c w hK hA hc => reach_ok A m c f w hK hA hc hM hG)
  have HMo := Lib.hid (fun A c w hK hA hc => most_ok A m c f w hK hA hc hM hG)
  obtain ⟨hmo1, hmo2, hmo3⟩ := most_reach hG
  obtain ⟨rt, hrt⟩ := reach_head (f := f) hG.pos
  have hmo4 := most_steps (f := f) (n := m)
  obtain ⟨mo, hmo⟩ : ∃ mo, mostI f m = mo := ⟨_, rfl⟩
  obtain ⟨nr, hnr⟩ : ∃ nr, (reachI f m).length = nr := ⟨_, rfl⟩
  rw [hmo] at hmo1 hmo2 HMo hmo4
  rw [hnr] at hmo2 hmo3 HR
  have HNR := Lib.hid hnr
  have HRT := Lib.hid hrt
  have HMS := Lib.hid hmo4
  have hm1 := hM.lo
  have hm64 := hM.hi
  have HGo := Lib.hid hG
  clear hm hmo hnr hrt hmo4 hG hM
  go_enter Tryd.func5, Tryd.ntmps5
  go_wp2_with fail
  refine (wakes4_any _ hK).mono ?_
  rintro e w1 ⟨rfl, b1⟩
  have K1 := hK.below b1 hK.pos
  have r1' := (hA.below b1 (Nat.le_refl _)).more b1.size
  clear hK hA
  go_wp2_with fail
  refine (HF.out _ r1').mono ?_
  rintro e w2 ⟨A2, c2, rfl, o2, b2⟩
  have B2 := b1.trans (b2.mono b1.size)
  have K2 := K1.below b2 K1.pos
  obtain ⟨p2, hc2⟩ := ri_of_own o2 HO.out
  clear b1 b2 K1 r1' o2
  go_wp2_with fail
  refine (CC.out A2 c2 w2 K2 p2).mono ?_
  rintro e w3 ⟨rfl, b3⟩
  have B3 := B2.trans (b3.mono B2.size)
  have K3 := K2.below b3 K2.pos
  have p3 := (p2.below b3 (Nat.le_refl _)).more b3.size
  clear b3 B2 K2 p2
  go_wp2_with fail
  refine (HR.out A2 c2 w3 K3 p3 hc2).mono ?_
  rintro e w4 ⟨A3, c3, rfl, hc3, p3r, b4⟩
  have B4 := B3.trans (b4.mono B3.size)
  have K4 := K3.below b4 K3.pos
  have p4 := (p3.below b4 (Nat.le_refl _)).more b4.size
  clear b4 B3 K3 p3
  go_wp2_with fail
  refine (HMo.out A2 c2 w4 K4 p4 hc2).mono ?_
  rintro e w5 ⟨rfl, b5⟩
  have J5 : EndJ w w5 A2 m f A3 A1 nt t := ⟨K4.below b5 K4.pos, (p4.below b5 (Nat.le_refl _)).more b5.size, (p3r.below b5 (Nat.le_refl _)).more b5.size,
    fun k hk => by
      have B5 := B4.trans (b5.mono B4.size)
      obtain ⟨b, off, e, h1, c⟩ := (hT.below B5 (Nat.le_refl _)) k hk
      exact ⟨b, off, e, Nat.lt_of_lt_of_le h1 B5.size, c⟩, B4.trans (b5.mono B4.size)⟩
  clear b5 B4 K4 p4 p3r hT CC HF HR HMo
  obtain ⟨b3, off3, rfl, _, q3⟩ := J5.rn 0 (by have := HNR.out; omega)
  rw [HRT.out] at q3
  have q3' : w5.cell? ⟨b3, off3, none⟩ = some (.int .i64 0) := by simpa using q3
  have hmi1 : decide ((mo : Int) < 1) = false := decide_eq_false (by omega)
  have hmi2 : decide (nr < mo) = false := decide_eq_false (by omega)
  have hmi3 : decide (m < nr) = false := decide_eq_false (by omega)
  have hmi4 : (0 : Int) < nr := by omega
  clear q3
  go_wp2_with fail
  clear q3' hmi1 hmi2 hmi3 hmi4
  go_loopw [11, 67] (fun at_ i wr => ∃ k p : Nat, k ≤ m ∧ i = .int .i64 k ∧ at_ = .int .i64 p ∧ p < m ∧ metL f p p = true ∧ k + stepsI f m p ≤ mo ∧ EndJ w wr A2 m f (some ⟨b3, off3, none⟩) A1 nt t) (fun _ i _ => m - (intOf i).toNat)
  case atStart => exact ⟨0, 0, Nat.zero_le _, rfl, rfl, by omega, met_zero f, by rw [HMS.out]; omega, J5⟩
  case round =>
    obtain ⟨k, p, hk, rfl, rfl, hp, hmet, hst, J⟩ := hrel
    have hsp := steps_pos HGo.out hp
    by_cases hlt : k < m
    · have hlt' : (k : Int) < m := by omega
      have hpi : (p : Int) < m := by omega
      obtain ⟨b, off, rfl, hbl, ⟨p0, p1, p2, p3⟩, ho⟩ := J.ri p hp
      obtain ⟨⟨x, y, z, u⟩, hf⟩ : ∃ q : Ins, f p = q := ⟨_, rfl⟩
      rw [hf] at p0 p1 p2 p3 ho
      simp only at p0 p1 p2 p3
      have hN := next_any (x, y, z, u) p wr J.kin ho
      simp only [valI, insV] at hN
      have hin : ∀ q ∈ nextL (x, y, z, u) p, p < q ∧ q < m ∧ metL f q q = true ∧ k + 1 + stepsI f m q ≤ mo := fun q hq => by
        rw [← hf] at hq
        obtain ⟨h1, h2⟩ := HGo.out.ok p hp q hq
        have h3 := steps_next HGo.out hp hq
        exact ⟨h1, h2, met_next HGo.out hp hmet hq, by omega⟩
      have hret : nextL (x, y, z, u) p = [] → x = 6 ∨ x = 22 := fun he => by
        have := next_none_ret HGo.out hp (by rw [hf]; exact he)
        rw [hf] at this
        simpa [retI] using this
      have hL2 := next_len (x, y, z, u) p
      obtain ⟨L, hL⟩ : ∃ L, nextL (x, y, z, u) p = L := ⟨_, rfl⟩
      rw [hL] at hN hin hret hL2
      have HIN := Lib.hid hin
      have HRET := Lib.hid hret
      have hkm : (k : Int) < mo := by omega
      clear hL hf hin hret ho hst hsp
      go_wp2_with fail
      refine hN.mono ?_
      rintro e w6 ⟨A6, c6, rfl, hc6, p6, b6⟩
      have J6 := J.below b6
      have x0 := (b6.cell (p := ⟨b, off + p * 4, none⟩) hbl).trans p0
      clear b6 J p0 p1 p2 p3 hN
      rcases L with _ | ⟨a, _ | ⟨a2, _ | ⟨a3, L⟩⟩⟩
      · rcases HRET.out rfl with rfl | rfl
        · go_wp2_with fail
          go_ret
          exact ⟨rfl, J6.bel⟩
        · go_wp2_with fail
          go_ret
          exact ⟨rfl, J6.bel⟩
      · obtain ⟨bn, on, rfl, _, y0⟩ := p6 0 (by simp)
        simp only [List.length_cons, List.length_nil, Nat.zero_add, List.getD_cons_zero, Nat.add_zero] at hc6 y0 ⊢
        by_cases hkn : k < nt
        · cases htk : t k
          · obtain ⟨bt, ot, rfl, _, ct⟩ := J6.bo k hkn
            rw [htk] at ct
            have hkn' : (k : Int) < nt := by omega
            obtain ⟨hq1, hq2, hq3, hq4⟩ := HIN.out a (by simp)
            have hqa : ¬ (a : Int) ≤ p := by omega
            have hqb : ¬ (m : Int) ≤ a := by omega
            have hCo := fun V (hV : Rn V V.heap.size (some ⟨b3, off3, none⟩) (reachI f m)) => contains_true (some ⟨b3, off3, none⟩) nr c3 V.heap.size a (reachI f m) V hV HNR.out.symm (reach_mem hq2 hq3) (by omega)
            have hq3' := Lib.hid hq3
            clear hq3
            go_wp2_with fail
            refine (hCo w6 J6.rn).mono ?_
            rintro e w7 ⟨rfl, rfl⟩
            go_wp2_with fail
            go_roundw
            case rel => exact ⟨k + 1, a, by omega, by go_num, rfl, hq2, hq3'.out, by omega, J6⟩
            case measure => simp [intOf]; omega
          · obtain ⟨bt, ot, rfl, _, ct⟩ := J6.bo k hkn
            rw [htk] at ct
            have hkn' : (k : Int) < nt := by omega
            obtain ⟨hq1, hq2, hq3, hq4⟩ := HIN.out a (by simp)
            have hqa : ¬ (a : Int) ≤ p := by omega
            have hqb : ¬ (m : Int) ≤ a := by omega
            have hCo := fun V (hV : Rn V V.heap.size (some ⟨b3, off3, none⟩) (reachI f m)) => contains_true (some ⟨b3, off3, none⟩) nr c3 V.heap.size a (reachI f m) V hV HNR.out.symm (reach_mem hq2 hq3) (by omega)
            have hq3' := Lib.hid hq3
            clear hq3
            go_wp2_with fail
            refine (hCo w6 J6.rn).mono ?_
            rintro e w7 ⟨rfl, rfl⟩
            go_wp2_with fail
            go_roundw
            case rel => exact ⟨k + 1, a, by omega, by go_num, rfl, hq2, hq3'.out, by omega, J6⟩
            case measure => simp [intOf]; omega
        · have hkn' : ¬ (k : Int) < nt := by omega
          obtain ⟨hq1, hq2, hq3, hq4⟩ := HIN.out a (by simp)
          have hqa : ¬ (a : Int) ≤ p := by omega
          have hqb : ¬ (m : Int) ≤ a := by omega
          have hCo := fun V (hV : Rn V V.heap.size (some ⟨b3, off3, none⟩) (reachI f m)) => contains_true (some ⟨b3, off3, none⟩) nr c3 V.heap.size a (reachI f m) V hV HNR.out.symm (reach_mem hq2 hq3) (by omega)
          have hq3' := Lib.hid hq3
          clear hq3
          go_wp2_with fail
          refine (hCo w6 J6.rn).mono ?_
          rintro e w7 ⟨rfl, rfl⟩
          go_wp2_with fail
          go_roundw
          case rel => exact ⟨k + 1, a, by omega, by go_num, rfl, hq2, hq3'.out, by omega, J6⟩
          case measure => simp [intOf]; omega
      · obtain ⟨bn, on, rfl, _, y0⟩ := p6 0 (by simp)
        obtain ⟨_, _, e2, _, y1⟩ := p6 1 (by simp)
        cases e2
        simp only [List.length_cons, List.length_nil, Nat.zero_add, List.getD_cons_zero, List.getD_cons_succ, Nat.add_zero, Nat.reduceAdd] at hc6 y0 y1 ⊢
        by_cases hkn : k < nt
        · cases htk : t k
          · obtain ⟨bt, ot, rfl, _, ct⟩ := J6.bo k hkn
            rw [htk] at ct
            have hkn' : (k : Int) < nt := by omega
            obtain ⟨hq1, hq2, hq3, hq4⟩ := HIN.out a (by simp)
            have hqa : ¬ (a : Int) ≤ p := by omega
            have hqb : ¬ (m : Int) ≤ a := by omega
            have hCo := fun V (hV : Rn V V.heap.size (some ⟨b3, off3, none⟩) (reachI f m)) => contains_true (some ⟨b3, off3, none⟩) nr c3 V.heap.size a (reachI f m) V hV HNR.out.symm (reach_mem hq2 hq3) (by omega)
            have hq3' := Lib.hid hq3
            clear hq3
            go_wp2_with fail
            refine (hCo w6 J6.rn).mono ?_
            rintro e w7 ⟨rfl, rfl⟩
            go_wp2_with fail
            go_roundw
            case rel => exact ⟨k + 1, a, by omega, by go_num, rfl, hq2, hq3'.out, by omega, J6⟩
            case measure => simp [intOf]; omega
          · obtain ⟨bt, ot, rfl, _, ct⟩ := J6.bo k hkn
            rw [htk] at ct
            have hkn' : (k : Int) < nt := by omega
            obtain ⟨hq1, hq2, hq3, hq4⟩ := HIN.out a2 (by simp)
            have hqa : ¬ (a2 : Int) ≤ p := by omega
            have hqb : ¬ (m : Int) ≤ a2 := by omega
            have hCo := fun V (hV : Rn V V.heap.size (some ⟨b3, off3, none⟩) (reachI f m)) => contains_true (some ⟨b3, off3, none⟩) nr c3 V.heap.size a2 (reachI f m) V hV HNR.out.symm (reach_mem hq2 hq3) (by omega)
            have hq3' := Lib.hid hq3
            clear hq3
            go_wp2_with fail
            refine (hCo w6 J6.rn).mono ?_
            rintro e w7 ⟨rfl, rfl⟩
            go_wp2_with fail
            go_roundw
            case rel => exact ⟨k + 1, a2, by omega, by go_num, rfl, hq2, hq3'.out, by omega, J6⟩
            case measure => simp [intOf]; omega
        · have hkn' : ¬ (k : Int) < nt := by omega
          obtain ⟨hq1, hq2, hq3, hq4⟩ := HIN.out a (by simp)
          have hqa : ¬ (a : Int) ≤ p := by omega
          have hqb : ¬ (m : Int) ≤ a := by omega
          have hCo := fun V (hV : Rn V V.heap.size (some ⟨b3, off3, none⟩) (reachI f m)) => contains_true (some ⟨b3, off3, none⟩) nr c3 V.heap.size a (reachI f m) V hV HNR.out.symm (reach_mem hq2 hq3) (by omega)
          have hq3' := Lib.hid hq3
          clear hq3
          go_wp2_with fail
          refine (hCo w6 J6.rn).mono ?_
          rintro e w7 ⟨rfl, rfl⟩
          go_wp2_with fail
          go_roundw
          case rel => exact ⟨k + 1, a, by omega, by go_num, rfl, hq2, hq3'.out, by omega, J6⟩
          case measure => simp [intOf]; omega
      · simp at hL2
    · exfalso
      omega

theorem checkEnds_any (A : Option Addr) (l cap : Nat) (f : Nat → Ins) (A1 : Option Addr) (nt c1 : Nat) (t : Nat → Bool) (w : World) (hK : Kinds w) (hA : Ri w w.heap.size A l f) (hc : l ≤ cap) (hT : Bools w w.heap.size A1 nt t) (hnt : nt ≤ 9223372036854775807) :
    Calls Tryd.prog 5 #[.slice A l cap, .slice A1 nt c1] w fun e w' => e = .returned (.bool true) ∧ Below w.heap.size w w' := by
  obtain ⟨m, hm⟩ : ∃ m, m = min l 65 := ⟨_, rfl⟩
  obtain ⟨⟨r1, r2⟩, hr⟩ : ∃ q, chkI f m = q := ⟨_, rfl⟩
  by_cases h0 : r2 = 0
  · exact ends_yes A l cap f A1 nt c1 t w hK hA hc hT hnt m hm (may_chk (by rw [hr]; exact h0))
  · exact ends_no A l cap f A1 nt c1 w hK hA hc m hm r1 r2 hr h0
end Go.Proofs.YtgepeckdafeedaaDoor

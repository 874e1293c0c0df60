/-
  Schedules that came in, as they are opened; two numbers.
-/
import Derived.Test.YtfohifnbohdbcaaQScPt
import Derived.Test.YtfohifnbohdbcaaQScOv
import Derived.Test.YtfohifnbohdbcaaQScTl
import Derived.Test.YtfohifnbohdbcaaRows
import Derived.WalkKit
import Derived.OpenShut
import Derived.Lib.SmallJoins
import Derived.Deep.Slices
import Derived.Deep.Strs
import Derived.ChangeArms
import Derived.ChangeSlices
import Derived.ChangeSame
namespace Go.Proofs.Ytfohifnbohdbcaa
open Go.RowKit Go.Shelf
set_option linter.unusedVariables false
set_option linter.unusedSimpArgs false
theorem putG_true {α : Type} (num : α → Int) (x : α) : ∀ (L : List α), putG num x true L = L.filter (fun y => num y != num x)
  | [] => rfl
  | y :: L => by
    rw [putG, List.filter_cons, Bool.true_or, putG_true num x L]
    cases (num y != num x) <;> simp
theorem filt_all {α : Type} (num : α → Int) (a : Int) {L : List α} (h : ∀ z ∈ L, num z ≠ a) : L.filter (fun y => num y != a) = L := List.filter_eq_self.2 fun z hz => by simpa using h z hz
theorem less_consLt {l : List Int} {x y : Int} (h : y < x) : lessP (y :: l) x = lessP l x + 1 := by unfold lessP; rw [List.countP_cons_of_pos (by simpa using h)]
theorem less_cons0 {l : List Int} {x y : Int} (hu : (y :: l).Pairwise (· < ·)) (h : x ≤ y) : lessP (y :: l) x = 0 := by
  unfold lessP
  rw [List.countP_eq_zero]
  intro z hz
  rw [List.pairwise_cons] at hu
  rcases List.mem_cons.1 hz with rfl | hz
  · simp; omega
  · have := hu.1 z hz
    simp; omega
theorem putG_false {α : Type} (num : α → Int) (x : α) : ∀ {L : List α}, (L.map num).Pairwise (· < ·) → putG num x false L = if (L.map num).contains (num x) = true then L.set (lessP (L.map num) (num x)) x else insL (lessP (L.map num) (num x)) x L
  | [], _ => rfl
  | y :: L, hu => by
    have hu' := hu
    rw [List.map_cons, List.pairwise_cons] at hu
    rw [putG]
    by_cases h1 : num x ≤ num y
    · have hall : ∀ z ∈ L, num z ≠ num x := fun z hz e => by
        have := hu.1 (num z) (List.mem_map.2 ⟨z, hz, rfl⟩)
        omega
      have hl : lessP ((y :: L).map num) (num x) = 0 := by rw [List.map_cons]; exact less_cons0 (by rw [← List.map_cons]; exact hu') h1
      rw [decide_eq_true h1, hl, Bool.not_false, Bool.true_and, if_pos rfl, Bool.false_or, putG_true, filt_all num _ hall]
      by_cases h2 : num y = num x
      · rw [if_neg (by simp [h2]), if_pos (by simp [h2])]
        rfl
      · have hc : ¬ ((y :: L).map num).contains (num x) = true := by
          rw [List.contains_iff_mem, List.map_cons, List.mem_cons]
          rintro (h | h)
          · exact h2 h.symm
          · obtain ⟨z, hz, e⟩ := List.mem_map.1 h
            exact hall z hz e
        rw [if_pos (by simpa using h2), if_neg hc]
        rfl
    · have hl : lessP ((y :: L).map num) (num x) = lessP (L.map num) (num x) + 1 := by rw [List.map_cons]; exact less_consLt (by omega)
      have hc : ((y :: L).map num).contains (num x) = (L.map num).contains (num x) := by
        rw [List.map_cons, List.contains_cons, show (num x == num y) = false by simp; omega, Bool.false_or]
      rw [decide_eq_false h1, hl, hc, Bool.and_false, if_neg (by simp), if_pos (by simp; omega), Bool.or_false, putG_false num x hu.2]
      split
      · rfl
      · rfl
theorem filt_del {α : Type} (num : α → Int) (n : Int) : ∀ {L : List α}, (L.map num).Pairwise (· < ·) → (L.map num).contains n = true → L.filter (fun y => num y != n) = delL (lessP (L.map num) n) L
  | [], _, h => by cases h
  | y :: L, hu, hc => by
    have hu' := hu
    rw [List.map_cons, List.pairwise_cons] at hu
    rw [List.filter_cons]
    by_cases h1 : n ≤ num y
    · have h2 : num y = n := by
        rw [List.contains_iff_mem, List.map_cons, List.mem_cons] at hc
        rcases hc with h | h
        · exact h.symm
        · have := hu.1 n h; omega
      have hl : lessP ((y :: L).map num) n = 0 := by rw [List.map_cons]; exact less_cons0 (by rw [← List.map_cons]; exact hu') h1
      rw [hl, if_neg (by simp [h2]), filt_all num n (fun z hz e => by have := hu.1 (num z) (List.mem_map.2 ⟨z, hz, rfl⟩); omega)]
      rfl
    · have hl : lessP ((y :: L).map num) n = lessP (L.map num) n + 1 := by rw [List.map_cons]; exact less_consLt (by omega)
      have hc2 : (L.map num).contains n = true := by
        rw [List.map_cons, List.contains_cons, show (n == num y) = false by simp; omega, Bool.false_or] at hc
        exact hc
      rw [hl, if_pos (by simp; omega), filt_del num n hu.2 hc2]
      rfl
structure Fit (R : List Rn) (K : List Kn) : Prop where
  ok : Okd R K
  th : Thr R K
  ow : ∀ x ∈ K, x.o ≠ 0
theorem fit_of {w : World} {B : Nat} {A : Option Addr} {m c : Nat} {R : List Rn} {A2 : Option Addr} {m2 c2 : Nat} {L : List Kw} (h : Sc w B A m c R A2 m2 c2 L) (hs : schB R L = true) : Fit R (L.map (·.1)) := by
  have hc : scE R L = 0 := by unfold scE; rw [if_pos hs]
  have ok := okd_of h hc
  have th := thr_of hs
  refine ⟨ok, th, fun x hx e => ?_⟩
  obtain ⟨y, hy, rfl⟩ := List.mem_map.1 hx
  unfold schB at hs
  simp only [Bool.and_eq_true, List.all_eq_true] at hs
  have h1 := hs.2.2.2.2.1 y hy
  unfold ownB at h1
  rw [Bool.and_eq_true, e] at h1
  have := (lives_in ok.ur h1.1).1
  rw [th.2] at this
  cases this
theorem lives_fnd (R : List Rn) (id : Int) : livesB R id = ((fndR R id).2 && !((fndR R id).1.s == 2)) := by
  unfold livesB fndR
  cases runF R id <;> rfl
theorem fndK_yes {L : List Kw} {n : Int} (hu : UpK L) (h : (numsK L).contains n = true) : fndK L n = (L.getD (lessP (numsK L) n) kw0, true) := by
  obtain ⟨_, _, e⟩ := lockF_some hu h
  unfold fndK
  rw [e]
theorem fndK_no {L : List Kw} {n : Int} (h : (numsK L).contains n = false) : fndK L n = (kw0, false) := by
  unfold fndK
  rw [lockF_none h]
theorem fndR_yes {R : List Rn} {n : Int} (hu : UpR R) (h : (numsR R).contains n = true) : fndR R n = (R.getD (lessP (numsR R) n) rn0, true) := by
  obtain ⟨_, _, e⟩ := runF_some hu h
  unfold fndR
  rw [e]
theorem id_ne {R : List Rn} {K : List Kn} {id : Int} (f : Fit R K) (h : livesB R id = true) : id ≠ 0 := fun e => by
  have h5 := (lives_in f.ok.ur h).1
  rw [e, f.th.2] at h5
  cases h5
theorem take_eq {w : World} {B : Nat} {A : Option Addr} {m c : Nat} {R : List Rn} {A2 : Option Addr} {m2 c2 : Nat} {L : List Kw} (h : Sc w B A m c R A2 m2 c2 L) (id n : Int) : takeW R L id n = (takeR R L id n, takeO R L id n) := by
  unfold takeW takeR takeO chgS
  cases hs : schB R L
  · have e : scE R L = 230 := by unfold scE; rw [hs, if_neg (by simp)]
    rw [if_neg (by simp), e, if_neg (by decide), if_neg (by decide)]
  · have e : scE R L = 0 := by unfold scE; rw [hs, if_pos rfl]
    have f := fit_of h hs
    have uk : UpK L := by show (numsK L).Pairwise (· < ·); rw [numsK_names]; exact f.ok.uk
    rw [if_pos rfl, if_pos e, if_pos e]
    unfold ofF
    cases hl : livesB R id
    · have hf := lives_fnd R id
      rw [hl] at hf
      rw [if_neg (by rw [← hf]; simp), if_neg (by simp), if_neg (by simp), if_neg (by decide)]
    · have hf := lives_fnd R id
      rw [hl] at hf
      have hid := id_ne f hl
      obtain ⟨hc, hk⟩ := lives_in f.ok.ur hl
      have hr := fndR_yes f.ok.ur hc
      obtain ⟨_, hri, _⟩ := runF_some f.ok.ur hc
      rw [if_pos hf.symm, if_pos rfl, if_pos rfl, hr]
      unfold takeF takeB
      rw [← numsK_names]
      simp only
      cases hb : (decide (n < 1) || (decide (40 < n) || (R.getD (lessP (numsR R) id) rn0).s == 1))
      · cases hct : (numsK L).contains n
        · have hp := putG_false (·.n) (⟨n, id, []⟩ : Kn) (L := L.map (·.1)) f.ok.uk
          rw [← numsK_names, hct] at hp
          have hi0 : (id == 0) = false := by simpa using hid
          simp only [fndK_no hct, Bool.false_eq_true, ↓reduceIte, Bool.not_false, Bool.and_self, hi0, hp]
        · obtain ⟨hk2, hn2, _⟩ := lockF_some uk hct
          have ho0 : ((L.getD (lessP (numsK L) n) kw0).1.o == 0) = false := by
            have := f.ow (L.getD (lessP (numsK L) n) kw0).1 (by rw [← fst_getD]; exact getD_memK _ (by rw [List.length_map]; exact hk2))
            simpa using this
          have hp := putG_false (·.n) (⟨n, (L.getD (lessP (numsK L) n) kw0).1.o, (L.getD (lessP (numsK L) n) kw0).1.q ++ [id]⟩ : Kn) (L := L.map (·.1)) f.ok.uk
          rw [← numsK_names, hct] at hp
          have hp2 := putG_false numR (⟨id, 1, n⟩ : Rn) (L := R) f.ok.ur
          rw [show R.map numR = numsR R from rfl, show numR (⟨id, 1, n⟩ : Rn) = id from rfl, hc] at hp2
          cases ho : ((L.getD (lessP (numsK L) n) kw0).1.o == id)
          · simp only [fndK_yes uk hct, fst_getD, ho, ho0, Bool.false_eq_true, ↓reduceIte, Bool.not_false, Bool.not_true, Bool.and_false, Bool.and_self, hn2, hri] at hp hp2 ⊢
            rw [hp, hp2]
          · simp only [fndK_yes uk hct, fst_getD, ho, Bool.false_eq_true, ↓reduceIte, Bool.not_false, Bool.not_true, Bool.and_false]
            rw [if_neg (show ¬ (231 : Int) = 0 by decide)]
      · simp only [Bool.false_eq_true, ↓reduceIte, Bool.not_true, Bool.false_and]
        rw [if_neg (show ¬ (2 : Int) = 0 by decide)]
theorem pass_give {R : List Rn} {L : List Kw} {n : Int} (f : Fit R (L.map (·.1))) (hct : (numsK L).contains n = true) : passN R (L.map (·.1)) n = giveN R (L.map (·.1)) n := by
  have uk : UpK L := by show (numsK L).Pairwise (· < ·); rw [numsK_names]; exact f.ok.uk
  obtain ⟨hk2, hn2, _⟩ := lockF_some uk hct
  have hfn := fndK_N L n
  rw [fndK_yes uk hct] at hfn
  have hm : (L.getD (lessP (numsK L) n) kw0).1 ∈ L.map (·.1) := by rw [← fst_getD]; exact getD_memK _ (by rw [List.length_map]; exact hk2)
  unfold passN giveN
  rw [← hfn, ← numsK_names, fst_getD]
  rcases hq : (L.getD (lessP (numsK L) n) kw0).1.q with _ | ⟨h, t⟩
  · simp only
    rw [putG_true, filt_del (fun x : Kn => x.n) n f.ok.uk (by rw [← numsK_names]; exact hct), ← numsK_names]
  · simp only
    have hh : (numsR R).contains h = true := f.th.1 _ hm h (by rw [hq]; exact List.mem_cons_self ..)
    have h0 : (h == 0) = false := by
      cases h9 : (h == 0)
      · rfl
      · rw [show h = 0 by simpa using h9, f.th.2] at hh; cases hh
    have hp := putG_false (·.n) (⟨n, h, t⟩ : Kn) (L := L.map (·.1)) f.ok.uk
    rw [← numsK_names, hct, if_pos rfl] at hp
    have hp2 := putG_false numR (⟨h, 0, 0⟩ : Rn) (L := R) f.ok.ur
    rw [show R.map numR = numsR R from rfl, show numR (⟨h, 0, 0⟩ : Rn) = h from rfl, hh, if_pos rfl] at hp2
    rw [h0, hp, hp2, hn2]
theorem give_eq {w : World} {B : Nat} {A : Option Addr} {m c : Nat} {R : List Rn} {A2 : Option Addr} {m2 c2 : Nat} {L : List Kw} (h : Sc w B A m c R A2 m2 c2 L) (id n : Int) : giveW R L id n = giveR R L id n := by
  unfold giveW giveR chgS
  cases hs : schB R L
  · have e : scE R L = 230 := by unfold scE; rw [hs, if_neg (by simp)]
    rw [if_neg (by simp), e, if_neg (by decide)]
  · have e : scE R L = 0 := by unfold scE; rw [hs, if_pos rfl]
    have f := fit_of h hs
    have uk : UpK L := by show (numsK L).Pairwise (· < ·); rw [numsK_names]; exact f.ok.uk
    rw [if_pos rfl, if_pos e]
    unfold ofF
    have hf := lives_fnd R id
    cases hl : livesB R id
    · rw [hl] at hf
      rw [if_neg (by rw [← hf]; simp), if_neg (by simp), if_neg (by decide)]
    · rw [hl] at hf
      have hid := id_ne f hl
      rw [if_pos hf.symm, if_pos rfl]
      unfold giveF
      rw [← ownerF_K, ownerF_fnd]
      have e2 : ¬ (231 : Int) = 0 := by decide
      have e3 : ¬ (2 : Int) = 0 := by decide
      cases hb : (decide (n < 1) || decide (40 < n))
      · cases hct : (numsK L).contains n
        · have h9 : ((kw0 : Kw).1.o != id) = true := by
            show ((0 : Int) != id) = true
            simpa using fun e => hid e.symm
          simp only [fndK_no hct, h9, Bool.false_eq_true, ↓reduceIte, Bool.false_and, if_neg e2]
        · cases ho : ((L.getD (lessP (numsK L) n) kw0).1.o == id)
          · simp only [fndK_yes uk hct, bne, ho, Bool.false_eq_true, ↓reduceIte, Bool.not_false, Bool.and_false, if_neg e2]
          · simp only [fndK_yes uk hct, bne, ho, Bool.false_eq_true, ↓reduceIte, Bool.not_true, Bool.and_self, pass_give f hct]
      · simp only [↓reduceIte, if_neg e3]
end Go.Proofs.Ytfohifnbohdbcaa
namespace Go.Proofs.Ytfohifnbohdbcaa
open Go.RowKit Go.Shelf
set_option linter.unusedVariables false
set_option linter.unusedSimpArgs false
section
variable {L L' : List Kw} (h : L'.map (·.1) = L.map (·.1)) (R : List Rn)
include h
theorem takeR_names (id n : Int) : takeR R L' id n = takeR R L id n := by unfold takeR chgS; rw [scE_names h, h]
theorem takeO_names (id n : Int) : takeO R L' id n = takeO R L id n := by unfold takeO; rw [scE_names h, h]
theorem giveR_names (id n : Int) : giveR R L' id n = giveR R L id n := by unfold giveR chgS; rw [scE_names h, h]
end
theorem same_ok {R R2 : List Rn} {L L2 : List Kw} (h1 : R = R2) (h2 : L.map (·.1) = L2.map (·.1)) : sameS R R2 L L2 = true := by
  unfold sameS
  rw [h1, h2, decide_eq_true rfl, Bool.and_true]
  exact eqR_iff.2 rfl
set_option maxRecDepth 100000 in
set_option maxHeartbeats 16000000 in
theorem locks_law (A : Option Addr) (m c : Nat) (R : List Rn) (A2 : Option Addr) (m2 c2 : Nat) (L : List Kw) (id n : Int) (w : World) (h : ScW w w.heap.size A m c R A2 m2 c2 L) :
    Calls Try.prog 4 #[scV A m c A2 m2 c2, .int .i64 id, .int .i64 n] w fun e w' => e = .returned (.bool true) ∧ Below w.heap.size w w' := by
  have k3_0 := Blk.new w (scC A m c A2 m2 c2) 25
  have B0 := (Below.refl w.heap.size w).alloc (Nat.le_refl _) (.cells (scC A m c A2 m2 c2) 25)
  have HWK := Lib.hid (fun (V : World) => wakes13_any V)
  have HO1 := Lib.hid (fun (V : World) (hV : Below w.heap.size w V) => over_sc A m c R A2 m2 c2 L V (h.on hV))
  have HS0 := Lib.hid (fun (ho : overS R L = false) => over_sc0 h ho)
  generalize overS R L = o1 at HO1 HS0
  clear h
  unfold scV at HO1 ⊢
  go_enter Try.func4, Try.ntmps4
  cases o1
  · have HS := Lib.hid (HS0.out rfl)
    clear HS0
    have HCO := Lib.hid (fun (V : World) (hV : Below w.heap.size w V) => lcopied_sc A m c R A2 m2 c2 L V (HS.out.on hV))
    have HRT := Lib.hid (fun (V : World) (hV : Below w.heap.size w V) => rtake_sc A m c R A2 m2 c2 L id n V (HS.out.on hV))
    have HRG := Lib.hid (fun (V : World) (hV : Below w.heap.size w V) => rgive_sc A m c R A2 m2 c2 L id n V (HS.out.on hV))
    rw [take_eq HS.out] at HRT
    rw [give_eq HS.out] at HRG
    obtain ⟨⟨tr, tk, te⟩, htr⟩ : ∃ p, takeR R L id n = p := ⟨_, rfl⟩
    obtain ⟨tow, hto⟩ : ∃ p, takeO R L id n = p := ⟨_, rfl⟩
    obtain ⟨⟨gr, gk, ge⟩, hgr⟩ : ∃ p, giveR R L id n = p := ⟨_, rfl⟩
    rw [htr, hto] at HRT
    rw [hgr] at HRG
    have HTR := Lib.hid (And.intro htr (And.intro hto hgr))
    clear htr hto hgr
    unfold scV at HCO HRT HRG
    simp only at HRT HRG
    go_wp2_with (first
      | (refine (HWK.out _).mono ?_
         rintro e w1 ⟨rfl, bb⟩
         have k3_1 := k3_0.below bb k3_0.lt
         have B1 := B0.trans (bb.mono B0.size)
         clear bb k3_0 B0
         go_wp2_with (first
           | (refine wpList_load_row rfl 25 (.tmp 3) rfl (w.heap.size) rfl 25 (scC A m c A2 m2 c2) (0, 0) _ k3_1.blk Try.underlying25 rfl (sc_inf _ _ _ _ _ _) ?_
              go_wp2_with (first
                | (refine (HO1.out _ B1).mono ?_
                   rintro e w2 ⟨rfl, bb⟩
                   have k3_2 := k3_1.below bb k3_1.lt
                   have B2 := B1.trans (bb.mono B1.size)
                   clear bb k3_1 B1
                   go_wp2_with (first
                     | (refine wpList_load_row rfl 25 (.tmp 3) rfl (w.heap.size) rfl 25 (scC A m c A2 m2 c2) (0, 0) _ k3_2.blk Try.underlying25 rfl (sc_inf _ _ _ _ _ _) ?_
                        go_wp2_with (first
                          | (refine (HCO.out _ B2).mono ?_
                             rintro e w3 ⟨v, rfl, cv, bb⟩
                             have k3_3 := k3_2.below bb k3_2.lt
                             have B3 := B2.trans (bb.mono B2.size)
                             obtain ⟨A4, m4, c4, D4, n4, d4, L4, rfl, hc4⟩ := cv.cpv
                             have x_3 := hc4.sc
                             have HNM := Lib.hid hc4.nm
                             clear cv hc4
                             unfold scV
                             clear bb k3_2 B2
                             go_wp2_with (first
                               | (refine wpList_store_blk rfl 25 (.tmp 7) (.tmp 23) rfl w3.heap.size (scC none 0 0 none 0 0) (scC A4 m4 c4 D4 n4 d4) 25 rfl rfl (Blk.new _ _ _) rfl (sc_inf _ _ _ _ _ _) (sc_one _ _ _ _ _ _) ?_
                                  intro w4 k7_4 nn
                                  have bb : Below w3.heap.size w3 w4 := ((Below.refl _ w3).alloc (Nat.le_refl _) _).trans (nn.below _ (Nat.le_refl _) (by simp))
                                  have k3_4 := k3_3.below bb k3_3.lt
                                  have x_4 := x_3.on bb
                                  have B4 := B3.trans (bb.mono B3.size)
                                  clear bb k3_3 x_3 B3 nn
                                  go_wp2_with (first
                                    | (refine wpList_load_row rfl 25 (.tmp 7) rfl (w3.heap.size) rfl 25 (scC A4 m4 c4 D4 n4 d4) (0, 0) _ k7_4.blk Try.underlying25 rfl (sc_inf _ _ _ _ _ _) ?_
                                       go_wp2_with (first
                                         | (have CT := take_sc A4 m4 c4 R D4 n4 d4 L4 id n w4 x_4
                                            rw [takeR_names HNM.out, takeO_names HNM.out, HTR.out.1, HTR.out.2.1] at CT
                                            unfold scV at CT
                                            simp only at CT
                                            refine CT.mono ?_
                                            rintro e w5 ⟨v, rfl, ⟨A5, m5, c5, D5, n5, d5, L5, rfl, a_5, HN5, _⟩, bb⟩
                                            have k3_5 := k3_4.below bb k3_4.lt
                                            have k7_5 := k7_4.below bb k7_4.lt
                                            have x_5 := x_4.on bb
                                            have B5 := B4.trans (bb.mono B4.size)
                                            unfold scV
                                            clear CT
                                            clear bb k3_4 k7_4 x_4 B4
                                            go_wp2_with (first
                                              | (refine wpList_store_blk rfl 25 (.tmp 8) (.tmp 29) rfl w5.heap.size (scC none 0 0 none 0 0) (scC A5 m5 c5 D5 n5 d5) 25 rfl rfl (Blk.new _ _ _) rfl (sc_inf _ _ _ _ _ _) (sc_one _ _ _ _ _ _) ?_
                                                 intro w6 k8_6 nn
                                                 have bb : Below w5.heap.size w5 w6 := ((Below.refl _ w5).alloc (Nat.le_refl _) _).trans (nn.below _ (Nat.le_refl _) (by simp))
                                                 have k3_6 := k3_5.below bb k3_5.lt
                                                 have k7_6 := k7_5.below bb k7_5.lt
                                                 have x_6 := x_5.on bb
                                                 have a_6 := a_5.on bb
                                                 have B6 := B5.trans (bb.mono B5.size)
                                                 clear bb k3_5 k7_5 x_5 a_5 B5 nn
                                                 go_wp2_with (first
                                                   | (refine wpList_load_row rfl 25 (.tmp 3) rfl (w.heap.size) rfl 25 (scC A m c A2 m2 c2) (0, 0) _ k3_6.blk Try.underlying25 rfl (sc_inf _ _ _ _ _ _) ?_
                                                      go_wp2_with (first
                                                        | (refine (HRT.out _ B6).mono ?_
                                                           rintro e w7 ⟨v, rfl, ⟨A7, m7, c7, D7, n7, d7, L7, rfl, p_7, HN7⟩, bb⟩
                                                           have k3_7 := k3_6.below bb k3_6.lt
                                                           have k7_7 := k7_6.below bb k7_6.lt
                                                           have k8_7 := k8_6.below bb k8_6.lt
                                                           have x_7 := x_6.on bb
                                                           have a_7 := a_6.on bb
                                                           have B7 := B6.trans (bb.mono B6.size)
                                                           unfold scV
                                                           clear bb k3_6 k7_6 k8_6 x_6 a_6 B6
                                                           go_wp2_with (first
                                                             | (refine wpList_store_blk rfl 25 (.tmp 11) (.tmp 37) rfl w7.heap.size (scC none 0 0 none 0 0) (scC A7 m7 c7 D7 n7 d7) 25 rfl rfl (Blk.new _ _ _) rfl (sc_inf _ _ _ _ _ _) (sc_one _ _ _ _ _ _) ?_
                                                                intro w8 k11_8 nn
                                                                have bb : Below w7.heap.size w7 w8 := ((Below.refl _ w7).alloc (Nat.le_refl _) _).trans (nn.below _ (Nat.le_refl _) (by simp))
                                                                have k3_8 := k3_7.below bb k3_7.lt
                                                                have k7_8 := k7_7.below bb k7_7.lt
                                                                have k8_8 := k8_7.below bb k8_7.lt
                                                                have x_8 := x_7.on bb
                                                                have a_8 := a_7.on bb
                                                                have p_8 := p_7.on bb
                                                                have B8 := B7.trans (bb.mono B7.size)
                                                                clear bb k3_7 k7_7 k8_7 x_7 a_7 p_7 B7 nn
                                                                go_wp2_with (first
                                                                  | (refine wpList_load_row rfl 25 (.tmp 7) rfl (w3.heap.size) rfl 25 (scC A4 m4 c4 D4 n4 d4) (0, 0) _ k7_8.blk Try.underlying25 rfl (sc_inf _ _ _ _ _ _) ?_
                                                                     go_wp2_with (first
                                                                       | (have CT := give_pub A4 m4 c4 R D4 n4 d4 L4 id n w8 x_8
                                                                          rw [giveR_names HNM.out, HTR.out.2.2] at CT
                                                                          unfold scV at CT
                                                                          simp only at CT
                                                                          refine CT.mono ?_
                                                                          rintro e w9 ⟨v, rfl, ⟨A9, m9, c9, D9, n9, d9, L9, rfl, b_9, HN9, _⟩, bb⟩
                                                                          have k3_9 := k3_8.below bb k3_8.lt
                                                                          have k7_9 := k7_8.below bb k7_8.lt
                                                                          have k8_9 := k8_8.below bb k8_8.lt
                                                                          have k11_9 := k11_8.below bb k11_8.lt
                                                                          have x_9 := x_8.on bb
                                                                          have a_9 := a_8.on bb
                                                                          have p_9 := p_8.on bb
                                                                          have B9 := B8.trans (bb.mono B8.size)
                                                                          unfold scV
                                                                          clear CT
                                                                          clear bb k3_8 k7_8 k8_8 k11_8 x_8 a_8 p_8 B8
                                                                          go_wp2_with (first
                                                                            | (refine wpList_store_blk rfl 25 (.tmp 14) (.tmp 45) rfl w9.heap.size (scC none 0 0 none 0 0) (scC A9 m9 c9 D9 n9 d9) 25 rfl rfl (Blk.new _ _ _) rfl (sc_inf _ _ _ _ _ _) (sc_one _ _ _ _ _ _) ?_
                                                                               intro w10 k14_10 nn
                                                                               have bb : Below w9.heap.size w9 w10 := ((Below.refl _ w9).alloc (Nat.le_refl _) _).trans (nn.below _ (Nat.le_refl _) (by simp))
                                                                               have k3_10 := k3_9.below bb k3_9.lt
                                                                               have k7_10 := k7_9.below bb k7_9.lt
                                                                               have k8_10 := k8_9.below bb k8_9.lt
                                                                               have k11_10 := k11_9.below bb k11_9.lt
                                                                               have x_10 := x_9.on bb
                                                                               have a_10 := a_9.on bb
                                                                               have p_10 := p_9.on bb
                                                                               have b_10 := b_9.on bb
                                                                               have B10 := B9.trans (bb.mono B9.size)
                                                                               clear bb k3_9 k7_9 k8_9 k11_9 x_9 a_9 p_9 b_9 B9 nn
                                                                               go_wp2_with (first
                                                                                 | (refine wpList_load_row rfl 25 (.tmp 3) rfl (w.heap.size) rfl 25 (scC A m c A2 m2 c2) (0, 0) _ k3_10.blk Try.underlying25 rfl (sc_inf _ _ _ _ _ _) ?_
                                                                                    go_wp2_with (first
                                                                                      | (refine (HRG.out _ B10).mono ?_
                                                                                         rintro e w11 ⟨v, rfl, ⟨A11, m11, c11, D11, n11, d11, L11, rfl, q_11, HN11⟩, bb⟩
                                                                                         have k3_11 := k3_10.below bb k3_10.lt
                                                                                         have k7_11 := k7_10.below bb k7_10.lt
                                                                                         have k8_11 := k8_10.below bb k8_10.lt
                                                                                         have k11_11 := k11_10.below bb k11_10.lt
                                                                                         have k14_11 := k14_10.below bb k14_10.lt
                                                                                         have x_11 := x_10.on bb
                                                                                         have a_11 := a_10.on bb
                                                                                         have p_11 := p_10.on bb
                                                                                         have b_11 := b_10.on bb
                                                                                         have B11 := B10.trans (bb.mono B10.size)
                                                                                         unfold scV
                                                                                         clear bb k3_10 k7_10 k8_10 k11_10 k14_10 x_10 a_10 p_10 b_10 B10
                                                                                         go_wp2_with (first
                                                                                           | (refine wpList_store_blk rfl 25 (.tmp 16) (.tmp 52) rfl w11.heap.size (scC none 0 0 none 0 0) (scC A11 m11 c11 D11 n11 d11) 25 rfl rfl (Blk.new _ _ _) rfl (sc_inf _ _ _ _ _ _) (sc_one _ _ _ _ _ _) ?_
                                                                                              intro w12 k16_12 nn
                                                                                              have bb : Below w11.heap.size w11 w12 := ((Below.refl _ w11).alloc (Nat.le_refl _) _).trans (nn.below _ (Nat.le_refl _) (by simp))
                                                                                              have k3_12 := k3_11.below bb k3_11.lt
                                                                                              have k7_12 := k7_11.below bb k7_11.lt
                                                                                              have k8_12 := k8_11.below bb k8_11.lt
                                                                                              have k11_12 := k11_11.below bb k11_11.lt
                                                                                              have k14_12 := k14_11.below bb k14_11.lt
                                                                                              have x_12 := x_11.on bb
                                                                                              have a_12 := a_11.on bb
                                                                                              have p_12 := p_11.on bb
                                                                                              have b_12 := b_11.on bb
                                                                                              have q_12 := q_11.on bb
                                                                                              have B12 := B11.trans (bb.mono B11.size)
                                                                                              clear bb k3_11 k7_11 k8_11 k11_11 k14_11 x_11 a_11 p_11 b_11 q_11 B11 nn
                                                                                              go_wp2_with (first
                                                                                                | (refine wpListG_load (by rfl) 25 (.tmp 8) rfl (w5.heap.size) rfl 25 (scC A5 m5 c5 D5 n5 d5) _ k8_12 Try.underlying25 rfl (sc_inf _ _ _ _ _ _) ?_
                                                                                                   go_wp2_with (first
                                                                                                     | (refine wpListG_load (by rfl) 25 (.tmp 11) rfl (w7.heap.size) rfl 25 (scC A7 m7 c7 D7 n7 d7) _ k11_12 Try.underlying25 rfl (sc_inf _ _ _ _ _ _) ?_
                                                                                                        go_wp2_with (first
                                                                                                          | (have CT := rsame_sc A5 m5 c5 tr D5 n5 d5 L5 A7 m7 c7 tr D7 n7 d7 L7 w12 a_12 p_12
                                                                                                             rw [same_ok rfl (HN5.trans HN7.symm)] at CT
                                                                                                             unfold scV at CT
                                                                                                             refine CT.mono ?_
                                                                                                             rintro e w13 ⟨rfl, bb⟩
                                                                                                             have k3_13 := k3_12.below bb k3_12.lt
                                                                                                             have k7_13 := k7_12.below bb k7_12.lt
                                                                                                             have k8_13 := k8_12.below bb k8_12.lt
                                                                                                             have k11_13 := k11_12.below bb k11_12.lt
                                                                                                             have k14_13 := k14_12.below bb k14_12.lt
                                                                                                             have k16_13 := k16_12.below bb k16_12.lt
                                                                                                             have x_13 := x_12.on bb
                                                                                                             have a_13 := a_12.on bb
                                                                                                             have p_13 := p_12.on bb
                                                                                                             have b_13 := b_12.on bb
                                                                                                             have q_13 := q_12.on bb
                                                                                                             have B13 := B12.trans (bb.mono B12.size)
                                                                                                             clear CT
                                                                                                             clear bb k3_12 k7_12 k8_12 k11_12 k14_12 k16_12 x_12 a_12 p_12 b_12 q_12 B12
                                                                                                             go_wp2_with (first
                                                                                                               | (refine wpListG_load (by rfl) 25 (.tmp 14) rfl (w9.heap.size) rfl 25 (scC A9 m9 c9 D9 n9 d9) _ k14_13 Try.underlying25 rfl (sc_inf _ _ _ _ _ _) ?_
                                                                                                                  go_wp2_with (first
                                                                                                                    | (refine wpListG_load (by rfl) 25 (.tmp 16) rfl (w11.heap.size) rfl 25 (scC A11 m11 c11 D11 n11 d11) _ k16_13 Try.underlying25 rfl (sc_inf _ _ _ _ _ _) ?_
                                                                                                                       go_wp2_with (first
                                                                                                                         | (have CT := rsame_sc A9 m9 c9 gr D9 n9 d9 L9 A11 m11 c11 gr D11 n11 d11 L11 w13 b_13 q_13
                                                                                                                            rw [same_ok rfl (HN9.trans HN11.symm)] at CT
                                                                                                                            unfold scV at CT
                                                                                                                            refine CT.mono ?_
                                                                                                                            rintro e w14 ⟨rfl, bb⟩
                                                                                                                            have k3_14 := k3_13.below bb k3_13.lt
                                                                                                                            have k7_14 := k7_13.below bb k7_13.lt
                                                                                                                            have k8_14 := k8_13.below bb k8_13.lt
                                                                                                                            have k11_14 := k11_13.below bb k11_13.lt
                                                                                                                            have k14_14 := k14_13.below bb k14_13.lt
                                                                                                                            have k16_14 := k16_13.below bb k16_13.lt
                                                                                                                            have x_14 := x_13.on bb
                                                                                                                            have a_14 := a_13.on bb
                                                                                                                            have p_14 := p_13.on bb
                                                                                                                            have b_14 := b_13.on bb
                                                                                                                            have q_14 := q_13.on bb
                                                                                                                            have B14 := B13.trans (bb.mono B13.size)
                                                                                                                            clear CT
                                                                                                                            clear bb k3_13 k7_13 k8_13 k11_13 k14_13 k16_13 x_13 a_13 p_13 b_13 q_13 B13
                                                                                                                            go_wp2_with (first
                                                                                                                              | (refine wpListG_load (by rfl) 25 (.tmp 7) rfl (w3.heap.size) rfl 25 (scC A4 m4 c4 D4 n4 d4) _ k7_14 Try.underlying25 rfl (sc_inf _ _ _ _ _ _) ?_
                                                                                                                                 go_wp2_with (first
                                                                                                                                   | (refine wpListG_load (by rfl) 25 (.tmp 3) rfl (w.heap.size) rfl 25 (scC A m c A2 m2 c2) _ k3_14 Try.underlying25 rfl (sc_inf _ _ _ _ _ _) ?_
                                                                                                                                      go_wp2_with (first
                                                                                                                                        | (have CT := rsame_sc A4 m4 c4 R D4 n4 d4 L4 A m c R A2 m2 c2 L w14 x_14 (HS.out.on B14)
                                                                                                                                           rw [same_ok rfl HNM.out] at CT
                                                                                                                                           unfold scV at CT
                                                                                                                                           refine CT.mono ?_
                                                                                                                                           rintro e w15 ⟨rfl, bb⟩
                                                                                                                                           have k3_15 := k3_14.below bb k3_14.lt
                                                                                                                                           have k7_15 := k7_14.below bb k7_14.lt
                                                                                                                                           have k8_15 := k8_14.below bb k8_14.lt
                                                                                                                                           have k11_15 := k11_14.below bb k11_14.lt
                                                                                                                                           have k14_15 := k14_14.below bb k14_14.lt
                                                                                                                                           have k16_15 := k16_14.below bb k16_14.lt
                                                                                                                                           have x_15 := x_14.on bb
                                                                                                                                           have a_15 := a_14.on bb
                                                                                                                                           have p_15 := p_14.on bb
                                                                                                                                           have b_15 := b_14.on bb
                                                                                                                                           have q_15 := q_14.on bb
                                                                                                                                           have B15 := B14.trans (bb.mono B14.size)
                                                                                                                                           clear CT
                                                                                                                                           clear bb k3_14 k7_14 k8_14 k11_14 k14_14 k16_14 x_14 a_14 p_14 b_14 q_14 B14))))))))))))))))))))))))))))))))))))))))))))))))))))))
    go_ret
    exact ⟨rfl, B15⟩
  · go_wp2_with (first
      | (refine (HWK.out _).mono ?_
         rintro e w1 ⟨rfl, bb⟩
         have k3_1 := k3_0.below bb k3_0.lt
         have B1 := B0.trans (bb.mono B0.size)
         clear bb k3_0 B0
         go_wp2_with (first
           | (refine wpList_load_row rfl 25 (.tmp 3) rfl (w.heap.size) rfl 25 (scC A m c A2 m2 c2) (0, 0) _ k3_1.blk Try.underlying25 rfl (sc_inf _ _ _ _ _ _) ?_
              go_wp2_with (first
                | (refine (HO1.out _ B1).mono ?_
                   rintro e w2 ⟨rfl, bb⟩
                   have k3_2 := k3_1.below bb k3_1.lt
                   have B2 := B1.trans (bb.mono B1.size)
                   clear bb k3_1 B1))))))
    go_ret
    exact ⟨rfl, B2⟩
end Go.Proofs.Ytfohifnbohdbcaa
namespace Go.Proofs.Ytfohifnbohdbcaa
open Go.RowKit Go.Shelf Go.ChangeShapes Go.WideShapes
set_option linter.unusedVariables false
set_option linter.unusedSimpArgs false
section
variable {H : Type} {enc : TypeId × Value → H} {w : World} {base : Nat} {spare : Nat → Bool} {held : Bool} {fuel : Nat} {x : DataW H × List MemPlace}
theorem ints_ofS {v : Value} (h : DataW.trod enc Try.prog w base spare held fuel 40 [v] = some x) : ∃ a l c zs, v = .slice a l c ∧ Ri7 w w.heap.size a zs ∧ l = zs.length ∧ l ≤ c ∧ c ≤ maxLen := by
  rcases open_ints Try.underlying40 Try.underlying3 (by kernel_rfl) h with ⟨hcs, _⟩ | ⟨p, l', c', zs, hcs, _, hl, hm, hz, _, hcell, hwz⟩
  · simp at hcs
    exact ⟨none, 0, 0, [], hcs, fun k hk => absurd hk (by simp), rfl, by omega, by simp [maxLen]⟩
  · simp at hcs
    have hlz : l' ≤ zs.length := by rw [hz]; split <;> omega
    refine ⟨some p, l', c', zs.take l', hcs, fun k hk => ?_, by rw [List.length_take]; omega, hl, hm⟩
    rw [List.length_take] at hk
    obtain ⟨e, hb, h⟩ := add_none (hcell k (by omega)) ⟨_, hcell 0 (by omega)⟩
    refine ⟨p.block, p.off, congrArg some e, hb, h.trans ?_⟩
    simp [List.getD, show k < l' by omega]
set_option maxRecDepth 100000 in
theorem runs_of {v : Value} (h : DataW.trod enc Try.prog w base spare held fuel 22 [v] = some x) : ∃ a l c L, v = .slice a l c ∧ RsR w w.heap.size a L ∧ l = L.length ∧ l ≤ maxLen := by
  rcases Go.Deep.open_slice Try.underlying22 h with ⟨hcs, _⟩ | ⟨p, l, c', m, n, D, Pl, hcs, _, hl, hm, hmm, _, hel⟩
  · simp at hcs
    exact ⟨none, 0, 0, [], hcs, fun k hk => absurd hk (by simp), rfl, by simp [maxLen]⟩
  · simp at hcs
    have hlm : l ≤ m := by rw [hmm]; split <;> omega
    have hc4 : Try.prog.cellsOf 52 = 3 := by kernel_rfl
    have hci : Try.prog.cellsOf 3 = 1 := by kernel_rfl
    rw [hc4] at hel
    have each : ∀ i, i < l → ∃ q : Rn, (∀ j v, (rnC q).toList[j]? = some v → w.cell? ((p.add (i * 3)).add j) = some v) := by
      intro i hi
      obtain ⟨cs', h1, h2⟩ := hel i (by omega)
      obtain ⟨_, hlen, hcell⟩ := World.cells?_some h1
      obtain ⟨y0, y1, y2, n', _, _, t0, t1, t2⟩ := Go.Deep.trod_struct3 Try.underlying52 h2
      match cs', hlen with
      | [v0, v1, v2], _ =>
        simp [hci] at t0 t1 t2
        obtain ⟨q0, e0, _, f0⟩ := DataW.trod_int Try.underlying3 t0
        obtain ⟨q1, e1, _, f1⟩ := DataW.trod_int Try.underlying3 t1
        obtain ⟨q2, e2, _, f2⟩ := DataW.trod_int Try.underlying3 t2
        simp only [List.cons.injEq, and_true] at e0 e1 e2
        subst e0 e1 e2
        refine ⟨⟨q0, q1, q2⟩, fun j v hv => ?_⟩
        have hj : j < 3 := by
          rcases Nat.lt_or_ge j 3 with h | h
          · exact h
          · rw [List.getElem?_eq_none (by rw [Array.length_toList, rn_size]; exact h)] at hv; cases hv
        have := hcell j (by omega)
        rw [this]
        exact hv
    haveI : Inhabited Rn := ⟨rn0⟩
    obtain ⟨q, hq⟩ := Go.Deep.choose_lt each
    refine ⟨some p, l, c', (List.range l).map q, hcs, fun k hk => ?_, by simp, by omega⟩
    have hkl : k < l := by simpa using hk
    have e0 : ((List.range l).map q).getD k rn0 = q k := by simp [List.getD, hkl]
    rw [e0]
    have z : ∃ v0, w.cell? (p.add 0) = some v0 := ⟨_, by
      have := (hq 0 (by omega)) 0 (.int .i64 (q 0).i) rfl
      rw [Go.Deep.add_add] at this
      simpa using this⟩
    have a0 := (hq k hkl) 0 (.int .i64 (q k).i) rfl
    rw [Go.Deep.add_add] at a0
    obtain ⟨ea, hb, _⟩ := add_none a0 z
    refine ⟨p.block, p.off, congrArg some ea, hb, fun j v hv => ?_⟩
    have := (hq k hkl) j v hv
    rw [Go.Deep.add_add] at this
    have h3 := (add_none this z).2.2
    rwa [← Nat.add_assoc] at h3
set_option maxRecDepth 100000 in
theorem locks_of {v : Value} (h : DataW.trod enc Try.prog w base spare held fuel 23 [v] = some x) : ∃ a l c L, v = .slice a l c ∧ RsK w w.heap.size a L ∧ (∀ y ∈ L, Ri7 w w.heap.size y.2.1 y.1.q ∧ y.1.q.length ≤ y.2.2) ∧ l = L.length ∧ l ≤ maxLen := by
  rcases Go.Deep.open_slice Try.underlying23 h with ⟨hcs, _⟩ | ⟨p, l, c', m, n, D, Pl, hcs, _, hl, hm, hmm, _, hel⟩
  · simp at hcs
    exact ⟨none, 0, 0, [], hcs, fun k hk => absurd hk (by simp), fun y hy => (by cases hy), rfl, by simp [maxLen]⟩
  · simp at hcs
    have hlm : l ≤ m := by rw [hmm]; split <;> omega
    have hc4 : Try.prog.cellsOf 48 = 3 := by kernel_rfl
    have hci : Try.prog.cellsOf 3 = 1 := by kernel_rfl
    have hcs' : Try.prog.cellsOf 40 = 1 := by kernel_rfl
    rw [hc4] at hel
    have each : ∀ i, i < l → ∃ q : Kw, (∀ j v, (kwC q).toList[j]? = some v → w.cell? ((p.add (i * 3)).add j) = some v) ∧ (Ri7 w w.heap.size q.2.1 q.1.q ∧ q.1.q.length ≤ q.2.2) := by
      intro i hi
      obtain ⟨cs', h1, h2⟩ := hel i (by omega)
      obtain ⟨_, hlen, hcell⟩ := World.cells?_some h1
      obtain ⟨y0, y1, y2, n', _, _, t0, t1, t2⟩ := Go.Deep.trod_struct3 Try.underlying48 h2
      match cs', hlen with
      | [v0, v1, v2], _ =>
        simp [hci] at t0 t1
        simp [hcs'] at t2
        obtain ⟨q0, e0, _, f0⟩ := DataW.trod_int Try.underlying3 t0
        obtain ⟨q1, e1, _, f1⟩ := DataW.trod_int Try.underlying3 t1
        obtain ⟨pa, pl, pc, g, e2, hr, hlg, hle, _⟩ := ints_ofS t2
        simp only [List.cons.injEq, and_true] at e0 e1
        subst e0 e1 e2 hlg
        refine ⟨(⟨q0, q1, g⟩, (pa, pc)), fun j v hv => ?_, hr, hle⟩
        have hj : j < 3 := by
          rcases Nat.lt_or_ge j 3 with h | h
          · exact h
          · rw [List.getElem?_eq_none (by rw [Array.length_toList, kw_size]; exact h)] at hv; cases hv
        have := hcell j (by omega)
        rw [this]
        exact hv
    haveI : Inhabited Kw := ⟨kw0⟩
    obtain ⟨q, hq⟩ := Go.Deep.choose_lt each
    refine ⟨some p, l, c', (List.range l).map q, hcs, fun k hk => ?_, fun y hy => ?_, by simp, by omega⟩
    · have hkl : k < l := by simpa using hk
      have e0 : ((List.range l).map q).getD k kw0 = q k := by simp [List.getD, hkl]
      rw [e0]
      have z : ∃ v0, w.cell? (p.add 0) = some v0 := ⟨_, by
        have := (hq 0 (by omega)).1 0 (.int .i64 (q 0).1.n) rfl
        rw [Go.Deep.add_add] at this
        simpa using this⟩
      have a0 := (hq k hkl).1 0 (.int .i64 (q k).1.n) rfl
      rw [Go.Deep.add_add] at a0
      obtain ⟨ea, hb, _⟩ := add_none a0 z
      refine ⟨p.block, p.off, congrArg some ea, hb, fun j v hv => ?_⟩
      have := (hq k hkl).1 j v hv
      rw [Go.Deep.add_add] at this
      have h3 := (add_none this z).2.2
      rwa [← Nat.add_assoc] at h3
    · obtain ⟨k, hk, rfl⟩ := List.mem_map.1 hy
      exact (hq k (by simpa using hk)).2
end
section
variable {H : Type} {enc : TypeId × Value → H} {w : World} {base : Nat} {spare : Nat → Bool} {held : Bool}
set_option maxRecDepth 100000 in
theorem sched_of {cs : Array Value} {d : DataW H} {p : List MemPlace} (hz : cs.size = Try.prog.cellsOf 25) (h : DataW.Trod enc Try.prog w base spare held 25 (.agg cs) d p) :
    ∃ A m c R A2 m2 c2 L, cs = scC A m c A2 m2 c2 ∧ ScW w w.heap.size A m c R A2 m2 c2 L := by
  obtain ⟨fuel, hf⟩ := h
  obtain ⟨y0, y1, n, _, hl, h0, h1⟩ := Go.ChangeShapes.trod_struct2 Try.underlying25 hf
  have hc2 : Try.prog.cellsOf 25 = 2 := by kernel_rfl
  have hcs : Try.prog.cellsOf 22 = 1 := by kernel_rfl
  have hcs' : Try.prog.cellsOf 23 = 1 := by kernel_rfl
  rw [hc2] at hz
  obtain ⟨v, u, rfl⟩ : ∃ v u, cs = #[v, u] := by
    obtain ⟨l⟩ := cs
    match l, hz with
    | [v, u], _ => exact ⟨v, u, rfl⟩
  simp [Value.cells, hcs] at h0
  simp [Value.cells, hcs'] at h1
  obtain ⟨a, l, c, L, rfl, r1, r2, r3⟩ := runs_of h0
  obtain ⟨a', l', c', K, rfl, s1, s2, s3, s4⟩ := locks_of h1
  exact ⟨a, l, c, L, a', l', c', K, rfl, r1, s1, s2, r2, s3, s4⟩
end
end Go.Proofs.Ytfohifnbohdbcaa

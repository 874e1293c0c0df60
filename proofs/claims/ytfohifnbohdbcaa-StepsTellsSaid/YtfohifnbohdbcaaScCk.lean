/-
  steps.Check.
-/
import Derived.Test.YtfohifnbohdbcaaScQ
namespace Go.Proofs.Ytfohifnbohdbcaa
open Go.RowKit Go.Shelf
set_option linter.unusedVariables false
set_option linter.unusedSimpArgs false

/-- A schedule that may be. -/
def schB (R : List Rn) (L : List Kw) : Bool := decide (R.length ≤ 8) && (riseT 20 0 (numsR R) && (riseT 40 0 (numsK L) && (!(R.any strB) && (L.all (ownB R) && queB R L))))
/-- Check's answer. -/
def scE (R : List Rn) (L : List Kw) : Int := if schB R L then 0 else 230
/-- What is known of each world of Check. -/
structure CS (w : World) (A : Option Addr) (m c : Nat) (A2 : Option Addr) (m2 c2 : Nat) (V : World) : Prop where
  b : Below w.heap.size w V
  k : Blk V w.heap.size (scC A m c A2 m2 c2) 25
theorem CS.step {w V V' : World} {A : Option Addr} {m c : Nat} {A2 : Option Addr} {m2 c2 : Nat} (h : CS w A m c A2 m2 c2 V) (b : Below V.heap.size V V') : CS w A m c A2 m2 c2 V' := ⟨h.b.trans (b.mono h.b.size), h.k.below b h.k.lt⟩
theorem CS.c0 {w V : World} {A : Option Addr} {m c : Nat} {A2 : Option Addr} {m2 c2 : Nat} (h : CS w A m c A2 m2 c2 V) : V.cell? ⟨w.heap.size, 0, none⟩ = some (.slice A m c) := h.k.cell 0
theorem CS.c1 {w V : World} {A : Option Addr} {m c : Nat} {A2 : Option Addr} {m2 c2 : Nat} (h : CS w A m c A2 m2 c2 V) : V.cell? ⟨w.heap.size, 1, none⟩ = some (.slice A2 m2 c2) := h.k.cell 1
theorem CS.new (w : World) (A : Option Addr) (m c : Nat) (A2 : Option Addr) (m2 c2 : Nat) : CS w A m c A2 m2 c2 (w.alloc (.cells (scC A m c A2 m2 c2) 25)) := ⟨(Below.refl w.heap.size w).alloc (Nat.le_refl _) _, Blk.new _ _ _⟩
set_option maxRecDepth 100000 in
set_option maxHeartbeats 8000000 in
theorem check_sc (A : Option Addr) (m c : Nat) (R : List Rn) (A2 : Option Addr) (m2 c2 : Nat) (L : List Kw) (w : World) (h : Sc w w.heap.size A m c R A2 m2 c2 L) :
    Calls Try.prog 22 #[scV A m c A2 m2 c2] w fun e w' => e = .returned (.int .i64 (scE R L)) ∧ Below w.heap.size w w' := by
  have J0 := CS.new w A m c A2 m2 c2
  have q0 := J0.c0
  have q1 := J0.c1
  have CR := Lib.hid (fun (V : World) (hV : CS w A m c A2 m2 c2 V) => rise_R A m c R 20 V (h.on hV.b).rs h.len (by have := h.lim; omega))
  have CK := Lib.hid (fun (V : World) (hV : CS w A m c A2 m2 c2 V) => rise_K A2 m2 c2 L 40 V (h.on hV.b).ks h.len2 (by have := h.lim2; omega))
  have CA := Lib.hid (fun (V : World) (hV : CS w A m c A2 m2 c2 V) => anyf_R 59 strB (enters_of Try.func59 (by kernel_rfl) rfl) strange_sc A m c R V (h.on hV.b).rs h.len (by have := h.lim; omega))
  have CO := Lib.hid (fun (hu : UpR R) (V : World) (hV : CS w A m c A2 m2 c2 V) => owners_sc A m c R A2 m2 c2 L V (h.on hV.b) hu)
  have CQ := Lib.hid (fun (hu : UpR R) (V : World) (hV : CS w A m c A2 m2 c2 V) => queues_sc A m c R A2 m2 c2 L V (h.on hV.b) hu)
  obtain ⟨E, hE⟩ : ∃ E, scE R L = E := ⟨_, rfl⟩
  rw [hE]
  have hm := h.len
  clear h
  unfold scV at *
  cases h0 : decide (R.length ≤ 8)
  · have hd : decide ((8 : Int) < (m : Int)) = true := by have := of_decide_eq_false h0; simp; omega
    clear hm
    have hr : E = 230 := by rw [← hE]; unfold scE schB; simp only [h0]; rfl
    clear hE
    go_enter Try.func22, Try.ntmps22
    go_wp2_with fail
    go_ret
    exact ⟨by rw [hr]; rfl, J0.b⟩
  · have hd : decide ((8 : Int) < (m : Int)) = false := by have := of_decide_eq_true h0; simp; omega
    clear hm
    cases h1 : riseT 20 0 (numsR R)
    · have hr : E = 230 := by rw [← hE]; unfold scE schB; simp only [h0, h1]; rfl
      clear hE
      rw [h1] at CR
      go_enter Try.func22, Try.ntmps22
      go_wp2_with (first
        | (refine (CR.out _ J0).mono ?_
           clear CR
           rintro e w1 ⟨rfl, bb⟩
           have J1 := J0.step bb
           have q0 := J1.c0
           have q1 := J1.c1
           clear bb))
      go_ret
      exact ⟨by rw [hr]; rfl, J1.b⟩
    · have hup : UpR R := (riseT_up h1).1
      cases h2 : riseT 40 0 (numsK L)
      · have hr : E = 230 := by rw [← hE]; unfold scE schB; simp only [h0, h1, h2]; rfl
        clear hE
        rw [h1] at CR
        rw [h2] at CK
        go_enter Try.func22, Try.ntmps22
        go_wp2_with (first
          | (refine (CR.out _ J0).mono ?_
             clear CR
             rintro e w1 ⟨rfl, bb⟩
             have J1 := J0.step bb
             have q0 := J1.c0
             have q1 := J1.c1
             clear bb)
          | (refine (CK.out _ J1).mono ?_
             clear CK
             rintro e w2 ⟨rfl, bb⟩
             have J2 := J1.step bb
             have q0 := J2.c0
             have q1 := J2.c1
             clear bb))
        go_ret
        exact ⟨by rw [hr]; rfl, J2.b⟩
      · cases h3 : R.any strB
        · cases h4 : L.all (ownB R)
          · have hr : E = 230 := by rw [← hE]; unfold scE schB; simp only [h0, h1, h2, h3, h4]; rfl
            clear hE
            rw [h1] at CR
            rw [h2] at CK
            rw [h3] at CA
            rw [h4] at CO
            go_enter Try.func22, Try.ntmps22
            go_wp2_with (first
              | (refine (CR.out _ J0).mono ?_
                 clear CR
                 rintro e w1 ⟨rfl, bb⟩
                 have J1 := J0.step bb
                 have q0 := J1.c0
                 have q1 := J1.c1
                 clear bb)
              | (refine (CK.out _ J1).mono ?_
                 clear CK
                 rintro e w2 ⟨rfl, bb⟩
                 have J2 := J1.step bb
                 have q0 := J2.c0
                 have q1 := J2.c1
                 clear bb)
              | (refine (CA.out _ J2).mono ?_
                 clear CA
                 rintro e w3 ⟨rfl, bb⟩
                 have J3 := J2.step bb
                 have q0 := J3.c0
                 have q1 := J3.c1
                 clear bb)
              | (refine wpListG_load (by rfl) 25 (.tmp 1) rfl w.heap.size rfl 25 (scC A m c A2 m2 c2) _ J3.k Try.underlying25 rfl (sc_inf A m c A2 m2 c2) ?_)
              | (refine (CO.out hup _ J3).mono ?_
                 clear CO
                 rintro e w4 ⟨rfl, bb⟩
                 have J4 := J3.step bb
                 have q0 := J4.c0
                 have q1 := J4.c1
                 clear bb))
            go_ret
            exact ⟨by rw [hr]; rfl, J4.b⟩
          · cases h5 : queB R L
            · have hr : E = 230 := by rw [← hE]; unfold scE schB; simp only [h0, h1, h2, h3, h4, h5]; rfl
              clear hE
              rw [h1] at CR
              rw [h2] at CK
              rw [h3] at CA
              rw [h4] at CO
              rw [h5] at CQ
              go_enter Try.func22, Try.ntmps22
              go_wp2_with (first
                | (refine (CR.out _ J0).mono ?_
                   clear CR
                   rintro e w1 ⟨rfl, bb⟩
                   have J1 := J0.step bb
                   have q0 := J1.c0
                   have q1 := J1.c1
                   clear bb)
                | (refine (CK.out _ J1).mono ?_
                   clear CK
                   rintro e w2 ⟨rfl, bb⟩
                   have J2 := J1.step bb
                   have q0 := J2.c0
                   have q1 := J2.c1
                   clear bb)
                | (refine (CA.out _ J2).mono ?_
                   clear CA
                   rintro e w3 ⟨rfl, bb⟩
                   have J3 := J2.step bb
                   have q0 := J3.c0
                   have q1 := J3.c1
                   clear bb)
                | (refine wpListG_load (by rfl) 25 (.tmp 1) rfl w.heap.size rfl 25 (scC A m c A2 m2 c2) _ J3.k Try.underlying25 rfl (sc_inf A m c A2 m2 c2) ?_)
                | (refine (CO.out hup _ J3).mono ?_
                   clear CO
                   rintro e w4 ⟨rfl, bb⟩
                   have J4 := J3.step bb
                   have q0 := J4.c0
                   have q1 := J4.c1
                   clear bb)
                | (refine wpListG_load (by rfl) 25 (.tmp 1) rfl w.heap.size rfl 25 (scC A m c A2 m2 c2) _ J4.k Try.underlying25 rfl (sc_inf A m c A2 m2 c2) ?_)
                | (refine (CQ.out hup _ J4).mono ?_
                   clear CQ
                   rintro e w5 ⟨rfl, bb⟩
                   have J5 := J4.step bb
                   have q0 := J5.c0
                   have q1 := J5.c1
                   clear bb))
              go_ret
              exact ⟨by rw [hr]; rfl, J5.b⟩
            · have hr : E = 0 := by rw [← hE]; unfold scE schB; simp only [h0, h1, h2, h3, h4, h5]; rfl
              clear hE
              rw [h1] at CR
              rw [h2] at CK
              rw [h3] at CA
              rw [h4] at CO
              rw [h5] at CQ
              go_enter Try.func22, Try.ntmps22
              go_wp2_with (first
                | (refine (CR.out _ J0).mono ?_
                   clear CR
                   rintro e w1 ⟨rfl, bb⟩
                   have J1 := J0.step bb
                   have q0 := J1.c0
                   have q1 := J1.c1
                   clear bb)
                | (refine (CK.out _ J1).mono ?_
                   clear CK
                   rintro e w2 ⟨rfl, bb⟩
                   have J2 := J1.step bb
                   have q0 := J2.c0
                   have q1 := J2.c1
                   clear bb)
                | (refine (CA.out _ J2).mono ?_
                   clear CA
                   rintro e w3 ⟨rfl, bb⟩
                   have J3 := J2.step bb
                   have q0 := J3.c0
                   have q1 := J3.c1
                   clear bb)
                | (refine wpListG_load (by rfl) 25 (.tmp 1) rfl w.heap.size rfl 25 (scC A m c A2 m2 c2) _ J3.k Try.underlying25 rfl (sc_inf A m c A2 m2 c2) ?_)
                | (refine (CO.out hup _ J3).mono ?_
                   clear CO
                   rintro e w4 ⟨rfl, bb⟩
                   have J4 := J3.step bb
                   have q0 := J4.c0
                   have q1 := J4.c1
                   clear bb)
                | (refine wpListG_load (by rfl) 25 (.tmp 1) rfl w.heap.size rfl 25 (scC A m c A2 m2 c2) _ J4.k Try.underlying25 rfl (sc_inf A m c A2 m2 c2) ?_)
                | (refine (CQ.out hup _ J4).mono ?_
                   clear CQ
                   rintro e w5 ⟨rfl, bb⟩
                   have J5 := J4.step bb
                   have q0 := J5.c0
                   have q1 := J5.c1
                   clear bb))
              go_ret
              exact ⟨by rw [hr]; rfl, J5.b⟩
        · have hr : E = 230 := by rw [← hE]; unfold scE schB; simp only [h0, h1, h2, h3]; rfl
          clear hE
          rw [h1] at CR
          rw [h2] at CK
          rw [h3] at CA
          go_enter Try.func22, Try.ntmps22
          go_wp2_with (first
            | (refine (CR.out _ J0).mono ?_
               clear CR
               rintro e w1 ⟨rfl, bb⟩
               have J1 := J0.step bb
               have q0 := J1.c0
               have q1 := J1.c1
               clear bb)
            | (refine (CK.out _ J1).mono ?_
               clear CK
               rintro e w2 ⟨rfl, bb⟩
               have J2 := J1.step bb
               have q0 := J2.c0
               have q1 := J2.c1
               clear bb)
            | (refine (CA.out _ J2).mono ?_
               clear CA
               rintro e w3 ⟨rfl, bb⟩
               have J3 := J2.step bb
               have q0 := J3.c0
               have q1 := J3.c1
               clear bb))
          go_ret
          exact ⟨by rw [hr]; rfl, J3.b⟩
end Go.Proofs.Ytfohifnbohdbcaa

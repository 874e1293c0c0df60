/-
  The reference's Right.
-/
import Derived.Test.YtfohifnbohdbcaaQScRf
namespace Go.Proofs.Ytfohifnbohdbcaa
open Go.RowKit Go.Shelf
set_option linter.unusedVariables false
set_option linter.unusedSimpArgs false
def cntA (L : List Kw) (id : Int) : Nat := (L.map fun k => k.1.q.count id).sum
def cntO (L : List Kw) (n id : Int) : Nat := (L.map fun k => if (k.1.n == n) = true then k.1.q.count id else 0).sum
def badR (i : Nat) (p : Int) (x : Rn) : Bool := decide (x.i < 1) || (decide (20 < x.i) || ((decide (0 < i) && decide (x.i ≤ p)) || (decide (x.s < 0) || (decide (2 < x.s) || (decide (x.n < 0) || decide (40 < x.n))))))
def qOkB (a o : Nat) (x : Rn) : Bool := if (x.s == 1) = true then (x.n != 0 && (a == 1 && o == 1)) else (x.n == 0 && a == 0)
def runsB (L : List Kw) : Nat → Int → List Rn → Bool
  | _, _, [] => true
  | i, p, x :: l => !badR i p x && (qOkB (cntA L x.i) (cntO L x.n x.i) x && runsB L (i + 1) x.i l)
def badK (i : Nat) (p : Int) (x : Kw) : Bool := decide (x.1.n < 1) || (decide (40 < x.1.n) || (decide (0 < i) && decide (x.1.n ≤ p)))
def ownKB (R : List Rn) (x : Kw) : Bool := (fndR R x.1.o).2 && ((fndR R x.1.o).1.s != 2 && x.1.q.count x.1.o == 0)
def thereB (R : List Rn) (id : Int) : Bool := (fndR R id).2
def locksB (R : List Rn) : Nat → Int → List Kw → Bool
  | _, _, [] => true
  | i, p, x :: l => !badK i p x && (ownKB R x && (x.1.q.all (thereB R) && locksB R (i + 1) x.1.n l))
def rightB (R : List Rn) (L : List Kw) : Bool := decide (R.length ≤ 8) && (decide (L.length ≤ 40) && (runsB L 0 0 R && locksB R 0 0 L))
def prevR (R : List Rn) : Nat → Int
  | 0 => 0
  | j + 1 => (R.getD j rn0).i
def prevK (L : List Kw) : Nat → Int
  | 0 => 0
  | j + 1 => (L.getD j kw0).1.n
theorem runsB_drop {R : List Rn} {L : List Kw} {k : Nat} (h : k < R.length) (p : Int) : runsB L k p (R.drop k) = (!badR k p (R.getD k rn0) && (qOkB (cntA L (R.getD k rn0).i) (cntO L (R.getD k rn0).n (R.getD k rn0).i) (R.getD k rn0) && runsB L (k + 1) (R.getD k rn0).i (R.drop (k + 1)))) := by
  rw [List.drop_eq_getElem_cons h, runsB, show R.getD k rn0 = R[k] by simp [List.getD, h]]
theorem locksB_drop {R : List Rn} {L : List Kw} {k : Nat} (h : k < L.length) (p : Int) : locksB R k p (L.drop k) = (!badK k p (L.getD k kw0) && (ownKB R (L.getD k kw0) && ((L.getD k kw0).1.q.all (thereB R) && locksB R (k + 1) (L.getD k kw0).1.n (L.drop (k + 1))))) := by
  rw [List.drop_eq_getElem_cons h, locksB, show L.getD k kw0 = L[k] by simp [List.getD, h]]
theorem cntA_take {L : List Kw} {k : Nat} (h : k < L.length) (id : Int) : cntA (L.take (k + 1)) id = cntA (L.take k) id + (L.getD k kw0).1.q.count id := by
  rw [List.take_succ_eq_append_getElem h, show L.getD k kw0 = L[k] by simp [List.getD, h]]
  unfold cntA
  rw [List.map_append, List.sum_append]
  simp
theorem cntO_take {L : List Kw} {k : Nat} (h : k < L.length) (n id : Int) : cntO (L.take (k + 1)) n id = cntO (L.take k) n id + if ((L.getD k kw0).1.n == n) = true then (L.getD k kw0).1.q.count id else 0 := by
  rw [List.take_succ_eq_append_getElem h, show L.getD k kw0 = L[k] by simp [List.getD, h]]
  unfold cntO
  rw [List.map_append, List.sum_append]
  simp
theorem all_take {R : List Rn} {q : List Int} {k : Nat} (h : k < q.length) : (q.drop k).all (thereB R) = (thereB R (q.getD k 0) && (q.drop (k + 1)).all (thereB R)) := by
  rw [List.drop_eq_getElem_cons h, List.all_cons, show q.getD k 0 = q[k] by simp [List.getD, h]]
structure RS2 (w : World) (A : Option Addr) (m c : Nat) (A2 : Option Addr) (m2 c2 : Nat) (g : Nat) (x : Rn) (V : World) : Prop where
  c : CS w A m c A2 m2 c2 V
  k : Blk V g (rnC x) 52
theorem RS2.step {w V V' : World} {A : Option Addr} {m c : Nat} {A2 : Option Addr} {m2 c2 g : Nat} {x : Rn} (h : RS2 w A m c A2 m2 c2 g x V) (b : Below V.heap.size V V') : RS2 w A m c A2 m2 c2 g x V' := ⟨h.c.step b, h.k.below b h.k.lt⟩
structure KS2 (w : World) (A : Option Addr) (m c : Nat) (A2 : Option Addr) (m2 c2 : Nat) (g : Nat) (x : Kw) (V : World) : Prop where
  c : CS w A m c A2 m2 c2 V
  k : Blk V g (kwC x) 48
theorem KS2.step {w V V' : World} {A : Option Addr} {m c : Nat} {A2 : Option Addr} {m2 c2 g : Nat} {x : Kw} (h : KS2 w A m c A2 m2 c2 g x V) (b : Below V.heap.size V V') : KS2 w A m c A2 m2 c2 g x V' := ⟨h.c.step b, h.k.below b h.k.lt⟩
set_option maxRecDepth 100000 in
set_option maxHeartbeats 16000000 in
theorem right_sc (A : Option Addr) (m c : Nat) (R : List Rn) (A2 : Option Addr) (m2 c2 : Nat) (L : List Kw) (w : World) (h : Sc w w.heap.size A m c R A2 m2 c2 L) :
    Calls Try.prog 26 #[scV A m c A2 m2 c2] w fun e w' => e = .returned (.bool (rightB R L)) ∧ Below w.heap.size w w' := by
  have J0 := CS.new w A m c A2 m2 c2
  have q0 := J0.c0
  have q1 := J0.c1
  have HM := Lib.hid h.len
  have HM2 := Lib.hid h.len2
  have HS := Lib.hid h
  have FR := Lib.hid (fun (id : Int) (V : World) (hV : CS w A m c A2 m2 c2 V) => find_R A m c R A2 m2 c2 L id V (h.on hV.b))
  obtain ⟨E, hE⟩ : ∃ E, rightB R L = E := ⟨_, rfl⟩
  rw [hE]
  unfold rightB at hE
  clear h
  unfold scV at *
  by_cases h8 : R.length ≤ 8
  · have hd8 : decide ((8 : Int) < (m : Int)) = false := by have := HM.out; simp; omega
    by_cases h40 : L.length ≤ 40
    · have hd40 : decide ((40 : Int) < (m2 : Int)) = false := by have := HM2.out; simp; omega
      have HE := Lib.hid (show E = (runsB L 0 0 R && locksB R 0 0 L) by rw [← hE, decide_eq_true h8, decide_eq_true h40]; rfl)
      have hm8 : m ≤ 8 := by have := HM.out; omega
      have hm40 : m2 ≤ 40 := by have := HM2.out; omega
      clear hE h8 h40
      go_enter Try.func26, Try.ntmps26
      go_wp2_with fail
      go_loopw [3] (fun i wr' => ∃ (k : Nat) (wr : World), wr = wr' ∧ k ≤ m ∧ i = .int .i64 k ∧ Hid (E = (runsB L k (prevR R k) (R.drop k) && locksB R 0 0 L)) ∧ CS w A m c A2 m2 c2 wr) (fun i _ => m - (intOf i).toNat)
      case atStart => exact ⟨0, _, rfl, Nat.zero_le _, rfl, Lib.hid (by rw [List.drop_zero]; exact HE.out), J0⟩
      case round =>
        clear J0 q0 q1 HE
        obtain ⟨k, wr, hwr, hk, rfl, HI, J⟩ := hrel
        subst hwr
        have q0 := J.c0
        by_cases hlt : k < m
        · have hlt' : (k : Int) < (m : Int) := by omega
          have hkl : k < R.length := by have := HM.out; omega
          obtain ⟨b, off, rfl, hb, hc⟩ := (HS.out.rs.below J.b (Nat.le_refl _)) k hkl
          have hI := HI.out
          rw [runsB_drop hkl] at hI
          have hcp0 := fun j (hj : j < R.length) => HS.out.rs j hj
          obtain ⟨x, hx⟩ : ∃ x, R.getD k rn0 = x := ⟨_, rfl⟩
          rw [hx] at hI hc
          have HX := Lib.hid hx.symm
          clear hx
          have hs3 : (rnC x).size = 3 := rn_size x
          rcases Nat.eq_zero_or_pos k with k0eq | hkpos
          · clear hcp0
            as_aux_lemma =>
              subst k0eq
              have hprev : prevR R (0 + 1) = x.i := by rw [HX.out]; rfl
              have hd : decide (((0 : Nat) : Int) > 0) = false := rfl
              go_wp2_with (first
                | (refine wpList_load_mid rfl 52 (.tmp 36) rfl b (off + 0 * 3) rfl (rnC x).toList _ hc Try.underlying52 rfl (rn_infL x) ?_)
                | (refine wpList_store_blk rfl 52 (.tmp 4) (.tmp 37) rfl wr.heap.size (rnC rn0) (rnC x) 52 rfl rfl (Blk.new _ _ _) rfl (rn_inf x) (rn_one x) ?_
                   intro w1 k4 n1
                   have bb : Below wr.heap.size wr w1 := ((Below.refl _ wr).alloc (Nat.le_refl _) _).trans (n1.below _ (Nat.le_refl _) (by simp))
                   have J1 := J.step bb
                   have q0 := J1.c0
                   have q40 : w1.cell? ⟨wr.heap.size, 0, none⟩ = some (.int .i64 x.i) := k4.cell 0
                   have q41 : w1.cell? ⟨wr.heap.size, 1, none⟩ = some (.int .i64 x.s) := k4.cell 1
                   have q42 : w1.cell? ⟨wr.heap.size, 2, none⟩ = some (.int .i64 x.n) := k4.cell 2
                   skip
                   clear bb n1 hc))
              have HI2 := HI
              clear HI
              obtain ⟨xi, xs, xn⟩ := x
              simp only at hI hprev q40 q41 q42
              cases h1 : decide (xi < 1)
              · cases h2 : decide (20 < xi)
                · have h3 : True := trivial
                  cases h4 : decide (xs < 0)
                  · cases h5 : decide (2 < xs)
                    · cases h6 : decide (xn < 0)
                      · cases h7 : decide (40 < xn)
                        · have hI2 : E = (qOkB (cntA L xi) (cntO L xn xi) ⟨xi, xs, xn⟩ && runsB L (0 + 1) xi (R.drop (0 + 1)) && locksB R 0 0 L) := by
                            rw [hI]
                            unfold badR
                            simp only [h1, h2, h4, h5, h6, h7]
                            simp
                          clear HI2
                          have HI3 := Lib.hid hI2
                          clear hI hI2
                          have Jd : RS2 w (some ⟨b, off, none⟩) m c A2 m2 c2 wr.heap.size ⟨xi, xs, xn⟩ w1.drew := ⟨J1.step (Below.refl _ _).drew, k4.drew⟩
                          have hne : Nonempty (Sig (RS2 w (some ⟨b, off, none⟩) m c A2 m2 c2 wr.heap.size ⟨xi, xs, xn⟩)) := ⟨⟨_, Jd⟩⟩
                          refine region_class (S := RS2 w (some ⟨b, off, none⟩) m c A2 m2 c2 wr.heap.size ⟨xi, xs, xn⟩) (by kernel_rfl) (by kernel_rfl) Jd ?_
                          have c0 : ∀ s : Sig (RS2 w (some ⟨b, off, none⟩) m c A2 m2 c2 wr.heap.size ⟨xi, xs, xn⟩), s.V.cell? ⟨w.heap.size, 0, none⟩ = some (.slice (some ⟨b, off, none⟩) m c) := fun s => s.h.c.c0
                          have d0 : ∀ s : Sig (RS2 w (some ⟨b, off, none⟩) m c A2 m2 c2 wr.heap.size ⟨xi, xs, xn⟩), s.V.cell? ⟨wr.heap.size, 0, none⟩ = some (.int .i64 xi) := fun s => s.h.k.cell 0
                          have d1 : ∀ s : Sig (RS2 w (some ⟨b, off, none⟩) m c A2 m2 c2 wr.heap.size ⟨xi, xs, xn⟩), s.V.cell? ⟨wr.heap.size, 1, none⟩ = some (.int .i64 xs) := fun s => s.h.k.cell 1
                          have d2 : ∀ s : Sig (RS2 w (some ⟨b, off, none⟩) m c A2 m2 c2 wr.heap.size ⟨xi, xs, xn⟩), s.V.cell? ⟨wr.heap.size, 2, none⟩ = some (.int .i64 xn) := fun s => s.h.k.cell 2
                          skip
                          clear q0 q40 q41 q42
                          try simp only [Act.put]
                          repeat (go_big_quiet_step (fail))
                          refine wpQuiet_nil ?_
                          rintro _ ⟨s7, rfl⟩
                          have J2 := s7.h
                          clear c0 d0 d1 d2 hne Jd J1 k4
                          go_wp2_with fail
                          generalize s7.V = w2 at J2 ⊢
                          have q1 := J2.c.c1
                          go_loopw [5, 6, 7] (fun a o i wr' => ∃ (u a0 o0 : Nat) (wz : World), wz = wr' ∧ u ≤ m2 ∧ a0 ≤ u * 1000000 ∧ o0 ≤ u * 1000000 ∧ a = .int .i64 a0 ∧ o = .int .i64 o0 ∧ i = .int .i64 u ∧ Hid (a0 = cntA (L.take u) xi ∧ o0 = cntO (L.take u) xn xi) ∧ RS2 w (some ⟨b, off, none⟩) m c A2 m2 c2 wr.heap.size ⟨xi, xs, xn⟩ wz) (fun _ _ i _ => m2 - (intOf i).toNat)
                          case atStart => exact ⟨0, 0, 0, _, rfl, Nat.zero_le _, Nat.zero_le _, Nat.zero_le _, rfl, rfl, rfl, Lib.hid (by simp [cntA, cntO]), J2⟩
                          case round =>
                            clear J2 q1
                            obtain ⟨u, a0, o0, wz, hwz, hu, ha0, ho0, rfl, rfl, rfl, HAO, J3⟩ := hrel
                            subst hwz
                            have q1 := J3.c.c1
                            have q40 : wz.cell? ⟨wr.heap.size, 0, none⟩ = some (.int .i64 xi) := J3.k.cell 0
                            have q41 : wz.cell? ⟨wr.heap.size, 1, none⟩ = some (.int .i64 xs) := J3.k.cell 1
                            have q42 : wz.cell? ⟨wr.heap.size, 2, none⟩ = some (.int .i64 xn) := J3.k.cell 2
                            by_cases hum : u < m2
                            · have hum' : (u : Int) < (m2 : Int) := by omega
                              have hul : u < L.length := by have := HM2.out; omega
                              obtain ⟨b2, off2, hA2, hb2, hc2⟩ := (HS.out.ks.below J3.c.b (Nat.le_refl _)) u hul
                              have hq := HS.out.q' hul
                              have HAO2 := Lib.hid (And.intro (cntA_take hul xi) (cntO_take hul xn xi))
                              clear hul
                              have hab : a0 ≤ 40000000 := Nat.le_trans ha0 (by have : u ≤ 40 := by omega
                                                                               exact Nat.le_trans (Nat.mul_le_mul_right 1000000 this) (by decide))
                              have hob : o0 ≤ 40000000 := Nat.le_trans ho0 (by have : u ≤ 40 := by omega
                                                                               exact Nat.le_trans (Nat.mul_le_mul_right 1000000 this) (by decide))
                              subst hA2
                              generalize L.getD u kw0 = y at hc2 hq HAO2
                              have CN := Lib.hid (fun (nn : Nat) => count_rf y.2.1 y.1.q.length y.2.2 y.1.q xi (wz.drewN nn) (ri7_drewN ((hq.ri.below J3.c.b (Nat.le_refl _)).more J3.c.b.size) nn) rfl hq.l)
                              have hcl : y.1.q.count xi ≤ 1000000 := Nat.le_trans List.count_le_length hq.l
                              generalize hct : y.1.q.count xi = ct at CN hcl
                              rw [hct] at HAO2
                              have q52 : wz.cell? ⟨b2, off2 + u * 3 + 2, none⟩ = some (.slice y.2.1 y.1.q.length y.2.2) := hc2 2 _ rfl
                              have q50 : wz.cell? ⟨b2, off2 + u * 3, none⟩ = some (.int .i64 y.1.n) := hc2 0 _ rfl
                              clear hc2 hct
                              cases hyn : (y.1.n == xn)
                              · go_wp2_with (go_quiet (first | (go_at_call 67; exact Calls.quiet_of_same (CN.out _))))
                                go_wp2_with (go_quiet (fail))
                                go_roundw
                                case rel =>
                                  refine ⟨u + 1, a0 + ct, o0, _, rfl, by omega, by rw [Nat.succ_mul]; exact Nat.add_le_add ha0 hcl, Nat.le_trans ho0 (Nat.mul_le_mul_right _ (Nat.le_succ u)), by go_num, rfl, by go_num, Lib.hid ⟨by rw [HAO2.out.1, ← HAO.out.1], by rw [HAO2.out.2, ← HAO.out.2, hyn, if_neg (by simp), Nat.add_zero]⟩, ?_⟩
                                  exact ⟨⟨below_drewN J3.c.b _, J3.c.k.drewN _⟩, J3.k.drewN _⟩
                                case measure => simp [intOf]; omega
                              · go_wp2_with (go_quiet (first | (go_at_call 67; exact Calls.quiet_of_same (CN.out _))))
                                go_wp2_with (go_quiet (fail))
                                go_roundw
                                case rel =>
                                  refine ⟨u + 1, a0 + ct, o0 + ct, _, rfl, by omega, by rw [Nat.succ_mul]; exact Nat.add_le_add ha0 hcl, by rw [Nat.succ_mul]; exact Nat.add_le_add ho0 hcl, by go_num, by go_num, by go_num, Lib.hid ⟨by rw [HAO2.out.1, ← HAO.out.1], by rw [HAO2.out.2, ← HAO.out.2, hyn, if_pos rfl]⟩, ?_⟩
                                  exact ⟨⟨below_drewN J3.c.b _, J3.c.k.drewN _⟩, J3.k.drewN _⟩
                                case measure => simp [intOf]; omega
                            · obtain rfl : u = m2 := by omega
                              have hI := HI3.out
                              have hao := HAO.out
                              rw [List.take_of_length_le (by have := HM2.out; omega)] at hao
                              rw [← hao.1, ← hao.2] at hI
                              clear hao HAO HI3
                              unfold qOkB at hI
                              simp only at hI
                              cases hb0 : (xs == 1)
                              · rw [hb0, if_neg (by simp)] at hI
                                have e0 : (xs != 1) = true := by simpa using hb0
                                cases hb1 : (xn == 0)
                                · rw [hb1] at hI
                                  have e1 : (xn != 0) = true := by simpa using hb1
                                  have HIB := Lib.hid (show E = false by rw [hI]; simp)
                                  clear hI
                                  go_wp2_with fail
                                  go_ret
                                  exact ⟨by rw [HIB.out]; rfl, J3.c.b⟩
                                · rw [hb1] at hI
                                  have e1 : (xn != 0) = false := by simpa using hb1
                                  cases hb2 : (a0 == 0)
                                  · have e2 : ((a0 : Int) != 0) = true := by simp at hb2 ⊢; omega
                                    rw [hb2] at hI
                                    have HIB := Lib.hid (show E = false by rw [hI]; simp)
                                    clear hI
                                    go_wp2_with fail
                                    go_ret
                                    exact ⟨by rw [HIB.out]; rfl, J3.c.b⟩
                                  · have e2 : ((a0 : Int) != 0) = false := by simp at hb2 ⊢; omega
                                    rw [hb2] at hI
                                    have HI4 := Lib.hid (show E = (runsB L (0 + 1) xi (R.drop (0 + 1)) && locksB R 0 0 L) by rw [hI]; simp)
                                    clear hI
                                    go_wp2_with fail
                                    go_roundw
                                    case rel => exact ⟨0 + 1, _, rfl, by omega, by go_num, Lib.hid (by rw [HI4.out, hprev]), J3.c⟩
                                    case measure => simp [intOf]; omega
                              · rw [hb0, if_pos rfl] at hI
                                have e0 : (xs != 1) = false := by simpa using hb0
                                cases hb1 : (xn != 0)
                                · rw [hb1] at hI
                                  have e1 : (xn == 0) = true := by simpa using hb1
                                  have HIB := Lib.hid (show E = false by rw [hI]; simp)
                                  clear hI
                                  go_wp2_with fail
                                  go_ret
                                  exact ⟨by rw [HIB.out]; rfl, J3.c.b⟩
                                · rw [hb1] at hI
                                  have e1 : (xn == 0) = false := by simpa using hb1
                                  cases hb2 : (a0 == 1)
                                  · have e2 : ((a0 : Int) != 1) = true := by simp at hb2 ⊢; omega
                                    rw [hb2] at hI
                                    have HIB := Lib.hid (show E = false by rw [hI]; simp)
                                    clear hI
                                    go_wp2_with fail
                                    go_ret
                                    exact ⟨by rw [HIB.out]; rfl, J3.c.b⟩
                                  · have e2 : ((a0 : Int) != 1) = false := by simp at hb2 ⊢; omega
                                    rw [hb2] at hI
                                    cases hb3 : (o0 == 1)
                                    · have e3 : ((o0 : Int) != 1) = true := by simp at hb3 ⊢; omega
                                      rw [hb3] at hI
                                      have HIB := Lib.hid (show E = false by rw [hI]; simp)
                                      clear hI
                                      go_wp2_with fail
                                      go_ret
                                      exact ⟨by rw [HIB.out]; rfl, J3.c.b⟩
                                    · have e3 : ((o0 : Int) != 1) = false := by simp at hb3 ⊢; omega
                                      rw [hb3] at hI
                                      have HI4 := Lib.hid (show E = (runsB L (0 + 1) xi (R.drop (0 + 1)) && locksB R 0 0 L) by rw [hI]; simp)
                                      clear hI
                                      go_wp2_with fail
                                      go_roundw
                                      case rel => exact ⟨0 + 1, _, rfl, by omega, by go_num, Lib.hid (by rw [HI4.out, hprev]), J3.c⟩
                                      case measure => simp [intOf]; omega
                        · have hI : E = false := by
                            rw [hI]
                            unfold badR
                            simp only [h1, h2, h4, h5, h6, h7]
                            first | rfl | simp | (cases decide (xi ≤ p) <;> simp)
                          clear HI2
                          have HIB := Lib.hid hI
                          clear hI
                          have Jd : RS2 w (some ⟨b, off, none⟩) m c A2 m2 c2 wr.heap.size ⟨xi, xs, xn⟩ w1.drew := ⟨J1.step (Below.refl _ _).drew, k4.drew⟩
                          have hne : Nonempty (Sig (RS2 w (some ⟨b, off, none⟩) m c A2 m2 c2 wr.heap.size ⟨xi, xs, xn⟩)) := ⟨⟨_, Jd⟩⟩
                          refine region_class (S := RS2 w (some ⟨b, off, none⟩) m c A2 m2 c2 wr.heap.size ⟨xi, xs, xn⟩) (by kernel_rfl) (by kernel_rfl) Jd ?_
                          have c0 : ∀ s : Sig (RS2 w (some ⟨b, off, none⟩) m c A2 m2 c2 wr.heap.size ⟨xi, xs, xn⟩), s.V.cell? ⟨w.heap.size, 0, none⟩ = some (.slice (some ⟨b, off, none⟩) m c) := fun s => s.h.c.c0
                          have d0 : ∀ s : Sig (RS2 w (some ⟨b, off, none⟩) m c A2 m2 c2 wr.heap.size ⟨xi, xs, xn⟩), s.V.cell? ⟨wr.heap.size, 0, none⟩ = some (.int .i64 xi) := fun s => s.h.k.cell 0
                          have d1 : ∀ s : Sig (RS2 w (some ⟨b, off, none⟩) m c A2 m2 c2 wr.heap.size ⟨xi, xs, xn⟩), s.V.cell? ⟨wr.heap.size, 1, none⟩ = some (.int .i64 xs) := fun s => s.h.k.cell 1
                          have d2 : ∀ s : Sig (RS2 w (some ⟨b, off, none⟩) m c A2 m2 c2 wr.heap.size ⟨xi, xs, xn⟩), s.V.cell? ⟨wr.heap.size, 2, none⟩ = some (.int .i64 xn) := fun s => s.h.k.cell 2
                          skip
                          clear q0 q40 q41 q42
                          try simp only [Act.put]
                          repeat (go_big_quiet_step (fail))
                          refine wpQuiet_nil ?_
                          rintro _ ⟨s7, rfl⟩
                          have J2 := s7.h
                          clear c0 d0 d1 d2 hne Jd J1 k4
                          go_wp2_with fail
                          go_ret
                          exact ⟨by rw [HIB.out]; rfl, J2.c.b⟩
                      · have hI : E = false := by
                          rw [hI]
                          unfold badR
                          simp only [h1, h2, h4, h5, h6]
                          first | rfl | simp | (cases decide (xi ≤ p) <;> simp)
                        clear HI2
                        have HIB := Lib.hid hI
                        clear hI
                        have Jd : RS2 w (some ⟨b, off, none⟩) m c A2 m2 c2 wr.heap.size ⟨xi, xs, xn⟩ w1.drew := ⟨J1.step (Below.refl _ _).drew, k4.drew⟩
                        have hne : Nonempty (Sig (RS2 w (some ⟨b, off, none⟩) m c A2 m2 c2 wr.heap.size ⟨xi, xs, xn⟩)) := ⟨⟨_, Jd⟩⟩
                        refine region_class (S := RS2 w (some ⟨b, off, none⟩) m c A2 m2 c2 wr.heap.size ⟨xi, xs, xn⟩) (by kernel_rfl) (by kernel_rfl) Jd ?_
                        have c0 : ∀ s : Sig (RS2 w (some ⟨b, off, none⟩) m c A2 m2 c2 wr.heap.size ⟨xi, xs, xn⟩), s.V.cell? ⟨w.heap.size, 0, none⟩ = some (.slice (some ⟨b, off, none⟩) m c) := fun s => s.h.c.c0
                        have d0 : ∀ s : Sig (RS2 w (some ⟨b, off, none⟩) m c A2 m2 c2 wr.heap.size ⟨xi, xs, xn⟩), s.V.cell? ⟨wr.heap.size, 0, none⟩ = some (.int .i64 xi) := fun s => s.h.k.cell 0
                        have d1 : ∀ s : Sig (RS2 w (some ⟨b, off, none⟩) m c A2 m2 c2 wr.heap.size ⟨xi, xs, xn⟩), s.V.cell? ⟨wr.heap.size, 1, none⟩ = some (.int .i64 xs) := fun s => s.h.k.cell 1
                        have d2 : ∀ s : Sig (RS2 w (some ⟨b, off, none⟩) m c A2 m2 c2 wr.heap.size ⟨xi, xs, xn⟩), s.V.cell? ⟨wr.heap.size, 2, none⟩ = some (.int .i64 xn) := fun s => s.h.k.cell 2
                        skip
                        clear q0 q40 q41 q42
                        try simp only [Act.put]
                        repeat (go_big_quiet_step (fail))
                        refine wpQuiet_nil ?_
                        rintro _ ⟨s7, rfl⟩
                        have J2 := s7.h
                        clear c0 d0 d1 d2 hne Jd J1 k4
                        go_wp2_with fail
                        go_ret
                        exact ⟨by rw [HIB.out]; rfl, J2.c.b⟩
                    · have hI : E = false := by
                        rw [hI]
                        unfold badR
                        simp only [h1, h2, h4, h5]
                        first | rfl | simp | (cases decide (xi ≤ p) <;> simp)
                      clear HI2
                      have HIB := Lib.hid hI
                      clear hI
                      have Jd : RS2 w (some ⟨b, off, none⟩) m c A2 m2 c2 wr.heap.size ⟨xi, xs, xn⟩ w1.drew := ⟨J1.step (Below.refl _ _).drew, k4.drew⟩
                      have hne : Nonempty (Sig (RS2 w (some ⟨b, off, none⟩) m c A2 m2 c2 wr.heap.size ⟨xi, xs, xn⟩)) := ⟨⟨_, Jd⟩⟩
                      refine region_class (S := RS2 w (some ⟨b, off, none⟩) m c A2 m2 c2 wr.heap.size ⟨xi, xs, xn⟩) (by kernel_rfl) (by kernel_rfl) Jd ?_
                      have c0 : ∀ s : Sig (RS2 w (some ⟨b, off, none⟩) m c A2 m2 c2 wr.heap.size ⟨xi, xs, xn⟩), s.V.cell? ⟨w.heap.size, 0, none⟩ = some (.slice (some ⟨b, off, none⟩) m c) := fun s => s.h.c.c0
                      have d0 : ∀ s : Sig (RS2 w (some ⟨b, off, none⟩) m c A2 m2 c2 wr.heap.size ⟨xi, xs, xn⟩), s.V.cell? ⟨wr.heap.size, 0, none⟩ = some (.int .i64 xi) := fun s => s.h.k.cell 0
                      have d1 : ∀ s : Sig (RS2 w (some ⟨b, off, none⟩) m c A2 m2 c2 wr.heap.size ⟨xi, xs, xn⟩), s.V.cell? ⟨wr.heap.size, 1, none⟩ = some (.int .i64 xs) := fun s => s.h.k.cell 1
                      have d2 : ∀ s : Sig (RS2 w (some ⟨b, off, none⟩) m c A2 m2 c2 wr.heap.size ⟨xi, xs, xn⟩), s.V.cell? ⟨wr.heap.size, 2, none⟩ = some (.int .i64 xn) := fun s => s.h.k.cell 2
                      skip
                      clear q0 q40 q41 q42
                      try simp only [Act.put]
                      repeat (go_big_quiet_step (fail))
                      refine wpQuiet_nil ?_
                      rintro _ ⟨s7, rfl⟩
                      have J2 := s7.h
                      clear c0 d0 d1 d2 hne Jd J1 k4
                      go_wp2_with fail
                      go_ret
                      exact ⟨by rw [HIB.out]; rfl, J2.c.b⟩
                  · have hI : E = false := by
                      rw [hI]
                      unfold badR
                      simp only [h1, h2, h4]
                      first | rfl | simp | (cases decide (xi ≤ p) <;> simp)
                    clear HI2
                    have HIB := Lib.hid hI
                    clear hI
                    have Jd : RS2 w (some ⟨b, off, none⟩) m c A2 m2 c2 wr.heap.size ⟨xi, xs, xn⟩ w1.drew := ⟨J1.step (Below.refl _ _).drew, k4.drew⟩
                    have hne : Nonempty (Sig (RS2 w (some ⟨b, off, none⟩) m c A2 m2 c2 wr.heap.size ⟨xi, xs, xn⟩)) := ⟨⟨_, Jd⟩⟩
                    refine region_class (S := RS2 w (some ⟨b, off, none⟩) m c A2 m2 c2 wr.heap.size ⟨xi, xs, xn⟩) (by kernel_rfl) (by kernel_rfl) Jd ?_
                    have c0 : ∀ s : Sig (RS2 w (some ⟨b, off, none⟩) m c A2 m2 c2 wr.heap.size ⟨xi, xs, xn⟩), s.V.cell? ⟨w.heap.size, 0, none⟩ = some (.slice (some ⟨b, off, none⟩) m c) := fun s => s.h.c.c0
                    have d0 : ∀ s : Sig (RS2 w (some ⟨b, off, none⟩) m c A2 m2 c2 wr.heap.size ⟨xi, xs, xn⟩), s.V.cell? ⟨wr.heap.size, 0, none⟩ = some (.int .i64 xi) := fun s => s.h.k.cell 0
                    have d1 : ∀ s : Sig (RS2 w (some ⟨b, off, none⟩) m c A2 m2 c2 wr.heap.size ⟨xi, xs, xn⟩), s.V.cell? ⟨wr.heap.size, 1, none⟩ = some (.int .i64 xs) := fun s => s.h.k.cell 1
                    have d2 : ∀ s : Sig (RS2 w (some ⟨b, off, none⟩) m c A2 m2 c2 wr.heap.size ⟨xi, xs, xn⟩), s.V.cell? ⟨wr.heap.size, 2, none⟩ = some (.int .i64 xn) := fun s => s.h.k.cell 2
                    skip
                    clear q0 q40 q41 q42
                    try simp only [Act.put]
                    repeat (go_big_quiet_step (fail))
                    refine wpQuiet_nil ?_
                    rintro _ ⟨s7, rfl⟩
                    have J2 := s7.h
                    clear c0 d0 d1 d2 hne Jd J1 k4
                    go_wp2_with fail
                    go_ret
                    exact ⟨by rw [HIB.out]; rfl, J2.c.b⟩
                · have hI : E = false := by
                    rw [hI]
                    unfold badR
                    simp only [h1, h2]
                    first | rfl | simp | (cases decide (xi ≤ p) <;> simp)
                  clear HI2
                  have HIB := Lib.hid hI
                  clear hI
                  have Jd : RS2 w (some ⟨b, off, none⟩) m c A2 m2 c2 wr.heap.size ⟨xi, xs, xn⟩ w1.drew := ⟨J1.step (Below.refl _ _).drew, k4.drew⟩
                  have hne : Nonempty (Sig (RS2 w (some ⟨b, off, none⟩) m c A2 m2 c2 wr.heap.size ⟨xi, xs, xn⟩)) := ⟨⟨_, Jd⟩⟩
                  refine region_class (S := RS2 w (some ⟨b, off, none⟩) m c A2 m2 c2 wr.heap.size ⟨xi, xs, xn⟩) (by kernel_rfl) (by kernel_rfl) Jd ?_
                  have c0 : ∀ s : Sig (RS2 w (some ⟨b, off, none⟩) m c A2 m2 c2 wr.heap.size ⟨xi, xs, xn⟩), s.V.cell? ⟨w.heap.size, 0, none⟩ = some (.slice (some ⟨b, off, none⟩) m c) := fun s => s.h.c.c0
                  have d0 : ∀ s : Sig (RS2 w (some ⟨b, off, none⟩) m c A2 m2 c2 wr.heap.size ⟨xi, xs, xn⟩), s.V.cell? ⟨wr.heap.size, 0, none⟩ = some (.int .i64 xi) := fun s => s.h.k.cell 0
                  have d1 : ∀ s : Sig (RS2 w (some ⟨b, off, none⟩) m c A2 m2 c2 wr.heap.size ⟨xi, xs, xn⟩), s.V.cell? ⟨wr.heap.size, 1, none⟩ = some (.int .i64 xs) := fun s => s.h.k.cell 1
                  have d2 : ∀ s : Sig (RS2 w (some ⟨b, off, none⟩) m c A2 m2 c2 wr.heap.size ⟨xi, xs, xn⟩), s.V.cell? ⟨wr.heap.size, 2, none⟩ = some (.int .i64 xn) := fun s => s.h.k.cell 2
                  skip
                  clear q0 q40 q41 q42
                  try simp only [Act.put]
                  repeat (go_big_quiet_step (fail))
                  refine wpQuiet_nil ?_
                  rintro _ ⟨s7, rfl⟩
                  have J2 := s7.h
                  clear c0 d0 d1 d2 hne Jd J1 k4
                  go_wp2_with fail
                  go_ret
                  exact ⟨by rw [HIB.out]; rfl, J2.c.b⟩
              · have hI : E = false := by
                  rw [hI]
                  unfold badR
                  simp only [h1]
                  first | rfl | simp | (cases decide (xi ≤ p) <;> simp)
                clear HI2
                have HIB := Lib.hid hI
                clear hI
                have Jd : RS2 w (some ⟨b, off, none⟩) m c A2 m2 c2 wr.heap.size ⟨xi, xs, xn⟩ w1.drew := ⟨J1.step (Below.refl _ _).drew, k4.drew⟩
                have hne : Nonempty (Sig (RS2 w (some ⟨b, off, none⟩) m c A2 m2 c2 wr.heap.size ⟨xi, xs, xn⟩)) := ⟨⟨_, Jd⟩⟩
                refine region_class (S := RS2 w (some ⟨b, off, none⟩) m c A2 m2 c2 wr.heap.size ⟨xi, xs, xn⟩) (by kernel_rfl) (by kernel_rfl) Jd ?_
                have c0 : ∀ s : Sig (RS2 w (some ⟨b, off, none⟩) m c A2 m2 c2 wr.heap.size ⟨xi, xs, xn⟩), s.V.cell? ⟨w.heap.size, 0, none⟩ = some (.slice (some ⟨b, off, none⟩) m c) := fun s => s.h.c.c0
                have d0 : ∀ s : Sig (RS2 w (some ⟨b, off, none⟩) m c A2 m2 c2 wr.heap.size ⟨xi, xs, xn⟩), s.V.cell? ⟨wr.heap.size, 0, none⟩ = some (.int .i64 xi) := fun s => s.h.k.cell 0
                have d1 : ∀ s : Sig (RS2 w (some ⟨b, off, none⟩) m c A2 m2 c2 wr.heap.size ⟨xi, xs, xn⟩), s.V.cell? ⟨wr.heap.size, 1, none⟩ = some (.int .i64 xs) := fun s => s.h.k.cell 1
                have d2 : ∀ s : Sig (RS2 w (some ⟨b, off, none⟩) m c A2 m2 c2 wr.heap.size ⟨xi, xs, xn⟩), s.V.cell? ⟨wr.heap.size, 2, none⟩ = some (.int .i64 xn) := fun s => s.h.k.cell 2
                skip
                clear q0 q40 q41 q42
                try simp only [Act.put]
                repeat (go_big_quiet_step (fail))
                refine wpQuiet_nil ?_
                rintro _ ⟨s7, rfl⟩
                have J2 := s7.h
                clear c0 d0 d1 d2 hne Jd J1 k4
                go_wp2_with fail
                go_ret
                exact ⟨by rw [HIB.out]; rfl, J2.c.b⟩
          · obtain ⟨j, rfl⟩ : ∃ j, k = j + 1 := ⟨k - 1, by omega⟩
            obtain ⟨b', off', he, hb', hcp1⟩ := hcp0 j (by omega)
            cases he
            replace hI : E = (!badR (j + 1) (R.getD j rn0).i x && (qOkB (cntA L x.i) (cntO L x.n x.i) x && runsB L (j + 1 + 1) x.i (R.drop (j + 1 + 1))) && locksB R 0 0 L) := hI
            have hcp : w.cell? ⟨b, off + j * 3, none⟩ = some (.int .i64 (R.getD j rn0).i) := hcp1 0 _ rfl
            generalize (R.getD j rn0).i = p at hI hcp
            clear hcp0 hcp1 hkl
            as_aux_lemma =>
              have hk0p : decide (0 < j + 1) = true := by simp
              have hprev : prevR R (j + 1 + 1) = x.i := by rw [HX.out]; rfl
              have hd : decide (((j + 1 : Nat) : Int) > 0) = true := decide_eq_true (by omega)
              have hk1 : ((j + 1 : Nat) : Int) - 1 = (j : Int) := by omega
              have hjm : (j : Int) < (m : Int) := by omega
              go_wp2_with (first
                | (refine wpList_load_mid rfl 52 (.tmp 36) rfl b (off + (j + 1) * 3) rfl (rnC x).toList _ hc Try.underlying52 rfl (rn_infL x) ?_)
                | (refine wpList_store_blk rfl 52 (.tmp 4) (.tmp 37) rfl wr.heap.size (rnC rn0) (rnC x) 52 rfl rfl (Blk.new _ _ _) rfl (rn_inf x) (rn_one x) ?_
                   intro w1 k4 n1
                   have bb : Below wr.heap.size wr w1 := ((Below.refl _ wr).alloc (Nat.le_refl _) _).trans (n1.below _ (Nat.le_refl _) (by simp))
                   have J1 := J.step bb
                   have q0 := J1.c0
                   have q40 : w1.cell? ⟨wr.heap.size, 0, none⟩ = some (.int .i64 x.i) := k4.cell 0
                   have q41 : w1.cell? ⟨wr.heap.size, 1, none⟩ = some (.int .i64 x.s) := k4.cell 1
                   have q42 : w1.cell? ⟨wr.heap.size, 2, none⟩ = some (.int .i64 x.n) := k4.cell 2
                   skip
                   clear bb n1 hc))
              have HI2 := HI
              clear HI
              obtain ⟨xi, xs, xn⟩ := x
              simp only at hI hprev q40 q41 q42
              cases h1 : decide (xi < 1)
              · cases h2 : decide (20 < xi)
                · cases h3 : decide (xi ≤ p)
                  · cases h4 : decide (xs < 0)
                    · cases h5 : decide (2 < xs)
                      · cases h6 : decide (xn < 0)
                        · cases h7 : decide (40 < xn)
                          · have hI2 : E = (qOkB (cntA L xi) (cntO L xn xi) ⟨xi, xs, xn⟩ && runsB L ((j + 1) + 1) xi (R.drop ((j + 1) + 1)) && locksB R 0 0 L) := by
                              rw [hI]
                              unfold badR
                              simp only [hk0p, h1, h2, h3, h4, h5, h6, h7]
                              simp
                            clear HI2
                            have HI3 := Lib.hid hI2
                            clear hI hI2
                            have Jd : RS2 w (some ⟨b, off, none⟩) m c A2 m2 c2 wr.heap.size ⟨xi, xs, xn⟩ w1.drew := ⟨J1.step (Below.refl _ _).drew, k4.drew⟩
                            have hne : Nonempty (Sig (RS2 w (some ⟨b, off, none⟩) m c A2 m2 c2 wr.heap.size ⟨xi, xs, xn⟩)) := ⟨⟨_, Jd⟩⟩
                            refine region_class (S := RS2 w (some ⟨b, off, none⟩) m c A2 m2 c2 wr.heap.size ⟨xi, xs, xn⟩) (by kernel_rfl) (by kernel_rfl) Jd ?_
                            have c0 : ∀ s : Sig (RS2 w (some ⟨b, off, none⟩) m c A2 m2 c2 wr.heap.size ⟨xi, xs, xn⟩), s.V.cell? ⟨w.heap.size, 0, none⟩ = some (.slice (some ⟨b, off, none⟩) m c) := fun s => s.h.c.c0
                            have d0 : ∀ s : Sig (RS2 w (some ⟨b, off, none⟩) m c A2 m2 c2 wr.heap.size ⟨xi, xs, xn⟩), s.V.cell? ⟨wr.heap.size, 0, none⟩ = some (.int .i64 xi) := fun s => s.h.k.cell 0
                            have d1 : ∀ s : Sig (RS2 w (some ⟨b, off, none⟩) m c A2 m2 c2 wr.heap.size ⟨xi, xs, xn⟩), s.V.cell? ⟨wr.heap.size, 1, none⟩ = some (.int .i64 xs) := fun s => s.h.k.cell 1
                            have d2 : ∀ s : Sig (RS2 w (some ⟨b, off, none⟩) m c A2 m2 c2 wr.heap.size ⟨xi, xs, xn⟩), s.V.cell? ⟨wr.heap.size, 2, none⟩ = some (.int .i64 xn) := fun s => s.h.k.cell 2
                            have p0 : ∀ s : Sig (RS2 w (some ⟨b, off, none⟩) m c A2 m2 c2 wr.heap.size ⟨xi, xs, xn⟩), s.V.cell? ⟨b, off + j * 3, none⟩ = some (.int .i64 p) := fun s => (s.h.c.b.cell (p := ⟨b, off + j * 3, none⟩) hb).trans hcp
                            clear q0 q40 q41 q42
                            try simp only [Act.put]
                            repeat (go_big_quiet_step (fail))
                            refine wpQuiet_nil ?_
                            rintro _ ⟨s7, rfl⟩
                            have J2 := s7.h
                            clear c0 d0 d1 d2 hne Jd J1 k4
                            go_wp2_with fail
                            generalize s7.V = w2 at J2 ⊢
                            have q1 := J2.c.c1
                            go_loopw [5, 6, 7] (fun a o i wr' => ∃ (u a0 o0 : Nat) (wz : World), wz = wr' ∧ u ≤ m2 ∧ a0 ≤ u * 1000000 ∧ o0 ≤ u * 1000000 ∧ a = .int .i64 a0 ∧ o = .int .i64 o0 ∧ i = .int .i64 u ∧ Hid (a0 = cntA (L.take u) xi ∧ o0 = cntO (L.take u) xn xi) ∧ RS2 w (some ⟨b, off, none⟩) m c A2 m2 c2 wr.heap.size ⟨xi, xs, xn⟩ wz) (fun _ _ i _ => m2 - (intOf i).toNat)
                            case atStart => exact ⟨0, 0, 0, _, rfl, Nat.zero_le _, Nat.zero_le _, Nat.zero_le _, rfl, rfl, rfl, Lib.hid (by simp [cntA, cntO]), J2⟩
                            case round =>
                              clear J2 q1
                              obtain ⟨u, a0, o0, wz, hwz, hu, ha0, ho0, rfl, rfl, rfl, HAO, J3⟩ := hrel
                              subst hwz
                              have q1 := J3.c.c1
                              have q40 : wz.cell? ⟨wr.heap.size, 0, none⟩ = some (.int .i64 xi) := J3.k.cell 0
                              have q41 : wz.cell? ⟨wr.heap.size, 1, none⟩ = some (.int .i64 xs) := J3.k.cell 1
                              have q42 : wz.cell? ⟨wr.heap.size, 2, none⟩ = some (.int .i64 xn) := J3.k.cell 2
                              by_cases hum : u < m2
                              · have hum' : (u : Int) < (m2 : Int) := by omega
                                have hul : u < L.length := by have := HM2.out; omega
                                obtain ⟨b2, off2, hA2, hb2, hc2⟩ := (HS.out.ks.below J3.c.b (Nat.le_refl _)) u hul
                                have hq := HS.out.q' hul
                                have HAO2 := Lib.hid (And.intro (cntA_take hul xi) (cntO_take hul xn xi))
                                clear hul
                                have hab : a0 ≤ 40000000 := Nat.le_trans ha0 (by have : u ≤ 40 := by omega
                                                                                 exact Nat.le_trans (Nat.mul_le_mul_right 1000000 this) (by decide))
                                have hob : o0 ≤ 40000000 := Nat.le_trans ho0 (by have : u ≤ 40 := by omega
                                                                                 exact Nat.le_trans (Nat.mul_le_mul_right 1000000 this) (by decide))
                                subst hA2
                                generalize L.getD u kw0 = y at hc2 hq HAO2
                                have CN := Lib.hid (fun (nn : Nat) => count_rf y.2.1 y.1.q.length y.2.2 y.1.q xi (wz.drewN nn) (ri7_drewN ((hq.ri.below J3.c.b (Nat.le_refl _)).more J3.c.b.size) nn) rfl hq.l)
                                have hcl : y.1.q.count xi ≤ 1000000 := Nat.le_trans List.count_le_length hq.l
                                generalize hct : y.1.q.count xi = ct at CN hcl
                                rw [hct] at HAO2
                                have q52 : wz.cell? ⟨b2, off2 + u * 3 + 2, none⟩ = some (.slice y.2.1 y.1.q.length y.2.2) := hc2 2 _ rfl
                                have q50 : wz.cell? ⟨b2, off2 + u * 3, none⟩ = some (.int .i64 y.1.n) := hc2 0 _ rfl
                                clear hc2 hct
                                cases hyn : (y.1.n == xn)
                                · go_wp2_with (go_quiet (first | (go_at_call 67; exact Calls.quiet_of_same (CN.out _))))
                                  go_wp2_with (go_quiet (fail))
                                  go_roundw
                                  case rel =>
                                    refine ⟨u + 1, a0 + ct, o0, _, rfl, by omega, by rw [Nat.succ_mul]; exact Nat.add_le_add ha0 hcl, Nat.le_trans ho0 (Nat.mul_le_mul_right _ (Nat.le_succ u)), by go_num, rfl, by go_num, Lib.hid ⟨by rw [HAO2.out.1, ← HAO.out.1], by rw [HAO2.out.2, ← HAO.out.2, hyn, if_neg (by simp), Nat.add_zero]⟩, ?_⟩
                                    exact ⟨⟨below_drewN J3.c.b _, J3.c.k.drewN _⟩, J3.k.drewN _⟩
                                  case measure => simp [intOf]; omega
                                · go_wp2_with (go_quiet (first | (go_at_call 67; exact Calls.quiet_of_same (CN.out _))))
                                  go_wp2_with (go_quiet (fail))
                                  go_roundw
                                  case rel =>
                                    refine ⟨u + 1, a0 + ct, o0 + ct, _, rfl, by omega, by rw [Nat.succ_mul]; exact Nat.add_le_add ha0 hcl, by rw [Nat.succ_mul]; exact Nat.add_le_add ho0 hcl, by go_num, by go_num, by go_num, Lib.hid ⟨by rw [HAO2.out.1, ← HAO.out.1], by rw [HAO2.out.2, ← HAO.out.2, hyn, if_pos rfl]⟩, ?_⟩
                                    exact ⟨⟨below_drewN J3.c.b _, J3.c.k.drewN _⟩, J3.k.drewN _⟩
                                  case measure => simp [intOf]; omega
                              · obtain rfl : u = m2 := by omega
                                have hI := HI3.out
                                have hao := HAO.out
                                rw [List.take_of_length_le (by have := HM2.out; omega)] at hao
                                rw [← hao.1, ← hao.2] at hI
                                clear hao HAO HI3
                                unfold qOkB at hI
                                simp only at hI
                                cases hb0 : (xs == 1)
                                · rw [hb0, if_neg (by simp)] at hI
                                  have e0 : (xs != 1) = true := by simpa using hb0
                                  cases hb1 : (xn == 0)
                                  · rw [hb1] at hI
                                    have e1 : (xn != 0) = true := by simpa using hb1
                                    have HIB := Lib.hid (show E = false by rw [hI]; simp)
                                    clear hI
                                    go_wp2_with fail
                                    go_ret
                                    exact ⟨by rw [HIB.out]; rfl, J3.c.b⟩
                                  · rw [hb1] at hI
                                    have e1 : (xn != 0) = false := by simpa using hb1
                                    cases hb2 : (a0 == 0)
                                    · have e2 : ((a0 : Int) != 0) = true := by simp at hb2 ⊢; omega
                                      rw [hb2] at hI
                                      have HIB := Lib.hid (show E = false by rw [hI]; simp)
                                      clear hI
                                      go_wp2_with fail
                                      go_ret
                                      exact ⟨by rw [HIB.out]; rfl, J3.c.b⟩
                                    · have e2 : ((a0 : Int) != 0) = false := by simp at hb2 ⊢; omega
                                      rw [hb2] at hI
                                      have HI4 := Lib.hid (show E = (runsB L ((j + 1) + 1) xi (R.drop ((j + 1) + 1)) && locksB R 0 0 L) by rw [hI]; simp)
                                      clear hI
                                      go_wp2_with fail
                                      go_roundw
                                      case rel => exact ⟨(j + 1) + 1, _, rfl, by omega, by go_num, Lib.hid (by rw [HI4.out, hprev]), J3.c⟩
                                      case measure => simp [intOf]; omega
                                · rw [hb0, if_pos rfl] at hI
                                  have e0 : (xs != 1) = false := by simpa using hb0
                                  cases hb1 : (xn != 0)
                                  · rw [hb1] at hI
                                    have e1 : (xn == 0) = true := by simpa using hb1
                                    have HIB := Lib.hid (show E = false by rw [hI]; simp)
                                    clear hI
                                    go_wp2_with fail
                                    go_ret
                                    exact ⟨by rw [HIB.out]; rfl, J3.c.b⟩
                                  · rw [hb1] at hI
                                    have e1 : (xn == 0) = false := by simpa using hb1
                                    cases hb2 : (a0 == 1)
                                    · have e2 : ((a0 : Int) != 1) = true := by simp at hb2 ⊢; omega
                                      rw [hb2] at hI
                                      have HIB := Lib.hid (show E = false by rw [hI]; simp)
                                      clear hI
                                      go_wp2_with fail
                                      go_ret
                                      exact ⟨by rw [HIB.out]; rfl, J3.c.b⟩
                                    · have e2 : ((a0 : Int) != 1) = false := by simp at hb2 ⊢; omega
                                      rw [hb2] at hI
                                      cases hb3 : (o0 == 1)
                                      · have e3 : ((o0 : Int) != 1) = true := by simp at hb3 ⊢; omega
                                        rw [hb3] at hI
                                        have HIB := Lib.hid (show E = false by rw [hI]; simp)
                                        clear hI
                                        go_wp2_with fail
                                        go_ret
                                        exact ⟨by rw [HIB.out]; rfl, J3.c.b⟩
                                      · have e3 : ((o0 : Int) != 1) = false := by simp at hb3 ⊢; omega
                                        rw [hb3] at hI
                                        have HI4 := Lib.hid (show E = (runsB L ((j + 1) + 1) xi (R.drop ((j + 1) + 1)) && locksB R 0 0 L) by rw [hI]; simp)
                                        clear hI
                                        go_wp2_with fail
                                        go_roundw
                                        case rel => exact ⟨(j + 1) + 1, _, rfl, by omega, by go_num, Lib.hid (by rw [HI4.out, hprev]), J3.c⟩
                                        case measure => simp [intOf]; omega
                          · have hI : E = false := by
                              rw [hI]
                              unfold badR
                              simp only [hk0p, h1, h2, h3, h4, h5, h6, h7]
                              first | rfl | simp | (cases decide (xi ≤ p) <;> simp)
                            clear HI2
                            have HIB := Lib.hid hI
                            clear hI
                            have Jd : RS2 w (some ⟨b, off, none⟩) m c A2 m2 c2 wr.heap.size ⟨xi, xs, xn⟩ w1.drew := ⟨J1.step (Below.refl _ _).drew, k4.drew⟩
                            have hne : Nonempty (Sig (RS2 w (some ⟨b, off, none⟩) m c A2 m2 c2 wr.heap.size ⟨xi, xs, xn⟩)) := ⟨⟨_, Jd⟩⟩
                            refine region_class (S := RS2 w (some ⟨b, off, none⟩) m c A2 m2 c2 wr.heap.size ⟨xi, xs, xn⟩) (by kernel_rfl) (by kernel_rfl) Jd ?_
                            have c0 : ∀ s : Sig (RS2 w (some ⟨b, off, none⟩) m c A2 m2 c2 wr.heap.size ⟨xi, xs, xn⟩), s.V.cell? ⟨w.heap.size, 0, none⟩ = some (.slice (some ⟨b, off, none⟩) m c) := fun s => s.h.c.c0
                            have d0 : ∀ s : Sig (RS2 w (some ⟨b, off, none⟩) m c A2 m2 c2 wr.heap.size ⟨xi, xs, xn⟩), s.V.cell? ⟨wr.heap.size, 0, none⟩ = some (.int .i64 xi) := fun s => s.h.k.cell 0
                            have d1 : ∀ s : Sig (RS2 w (some ⟨b, off, none⟩) m c A2 m2 c2 wr.heap.size ⟨xi, xs, xn⟩), s.V.cell? ⟨wr.heap.size, 1, none⟩ = some (.int .i64 xs) := fun s => s.h.k.cell 1
                            have d2 : ∀ s : Sig (RS2 w (some ⟨b, off, none⟩) m c A2 m2 c2 wr.heap.size ⟨xi, xs, xn⟩), s.V.cell? ⟨wr.heap.size, 2, none⟩ = some (.int .i64 xn) := fun s => s.h.k.cell 2
                            have p0 : ∀ s : Sig (RS2 w (some ⟨b, off, none⟩) m c A2 m2 c2 wr.heap.size ⟨xi, xs, xn⟩), s.V.cell? ⟨b, off + j * 3, none⟩ = some (.int .i64 p) := fun s => (s.h.c.b.cell (p := ⟨b, off + j * 3, none⟩) hb).trans hcp
                            clear q0 q40 q41 q42
                            try simp only [Act.put]
                            repeat (go_big_quiet_step (fail))
                            refine wpQuiet_nil ?_
                            rintro _ ⟨s7, rfl⟩
                            have J2 := s7.h
                            clear c0 d0 d1 d2 hne Jd J1 k4
                            go_wp2_with fail
                            go_ret
                            exact ⟨by rw [HIB.out]; rfl, J2.c.b⟩
                        · have hI : E = false := by
                            rw [hI]
                            unfold badR
                            simp only [hk0p, h1, h2, h3, h4, h5, h6]
                            first | rfl | simp | (cases decide (xi ≤ p) <;> simp)
                          clear HI2
                          have HIB := Lib.hid hI
                          clear hI
                          have Jd : RS2 w (some ⟨b, off, none⟩) m c A2 m2 c2 wr.heap.size ⟨xi, xs, xn⟩ w1.drew := ⟨J1.step (Below.refl _ _).drew, k4.drew⟩
                          have hne : Nonempty (Sig (RS2 w (some ⟨b, off, none⟩) m c A2 m2 c2 wr.heap.size ⟨xi, xs, xn⟩)) := ⟨⟨_, Jd⟩⟩
                          refine region_class (S := RS2 w (some ⟨b, off, none⟩) m c A2 m2 c2 wr.heap.size ⟨xi, xs, xn⟩) (by kernel_rfl) (by kernel_rfl) Jd ?_
                          have c0 : ∀ s : Sig (RS2 w (some ⟨b, off, none⟩) m c A2 m2 c2 wr.heap.size ⟨xi, xs, xn⟩), s.V.cell? ⟨w.heap.size, 0, none⟩ = some (.slice (some ⟨b, off, none⟩) m c) := fun s => s.h.c.c0
                          have d0 : ∀ s : Sig (RS2 w (some ⟨b, off, none⟩) m c A2 m2 c2 wr.heap.size ⟨xi, xs, xn⟩), s.V.cell? ⟨wr.heap.size, 0, none⟩ = some (.int .i64 xi) := fun s => s.h.k.cell 0
                          have d1 : ∀ s : Sig (RS2 w (some ⟨b, off, none⟩) m c A2 m2 c2 wr.heap.size ⟨xi, xs, xn⟩), s.V.cell? ⟨wr.heap.size, 1, none⟩ = some (.int .i64 xs) := fun s => s.h.k.cell 1
                          have d2 : ∀ s : Sig (RS2 w (some ⟨b, off, none⟩) m c A2 m2 c2 wr.heap.size ⟨xi, xs, xn⟩), s.V.cell? ⟨wr.heap.size, 2, none⟩ = some (.int .i64 xn) := fun s => s.h.k.cell 2
                          have p0 : ∀ s : Sig (RS2 w (some ⟨b, off, none⟩) m c A2 m2 c2 wr.heap.size ⟨xi, xs, xn⟩), s.V.cell? ⟨b, off + j * 3, none⟩ = some (.int .i64 p) := fun s => (s.h.c.b.cell (p := ⟨b, off + j * 3, none⟩) hb).trans hcp
                          clear q0 q40 q41 q42
                          try simp only [Act.put]
                          repeat (go_big_quiet_step (fail))
                          refine wpQuiet_nil ?_
                          rintro _ ⟨s7, rfl⟩
                          have J2 := s7.h
                          clear c0 d0 d1 d2 hne Jd J1 k4
                          go_wp2_with fail
                          go_ret
                          exact ⟨by rw [HIB.out]; rfl, J2.c.b⟩
                      · have hI : E = false := by
                          rw [hI]
                          unfold badR
                          simp only [hk0p, h1, h2, h3, h4, h5]
                          first | rfl | simp | (cases decide (xi ≤ p) <;> simp)
                        clear HI2
                        have HIB := Lib.hid hI
                        clear hI
                        have Jd : RS2 w (some ⟨b, off, none⟩) m c A2 m2 c2 wr.heap.size ⟨xi, xs, xn⟩ w1.drew := ⟨J1.step (Below.refl _ _).drew, k4.drew⟩
                        have hne : Nonempty (Sig (RS2 w (some ⟨b, off, none⟩) m c A2 m2 c2 wr.heap.size ⟨xi, xs, xn⟩)) := ⟨⟨_, Jd⟩⟩
                        refine region_class (S := RS2 w (some ⟨b, off, none⟩) m c A2 m2 c2 wr.heap.size ⟨xi, xs, xn⟩) (by kernel_rfl) (by kernel_rfl) Jd ?_
                        have c0 : ∀ s : Sig (RS2 w (some ⟨b, off, none⟩) m c A2 m2 c2 wr.heap.size ⟨xi, xs, xn⟩), s.V.cell? ⟨w.heap.size, 0, none⟩ = some (.slice (some ⟨b, off, none⟩) m c) := fun s => s.h.c.c0
                        have d0 : ∀ s : Sig (RS2 w (some ⟨b, off, none⟩) m c A2 m2 c2 wr.heap.size ⟨xi, xs, xn⟩), s.V.cell? ⟨wr.heap.size, 0, none⟩ = some (.int .i64 xi) := fun s => s.h.k.cell 0
                        have d1 : ∀ s : Sig (RS2 w (some ⟨b, off, none⟩) m c A2 m2 c2 wr.heap.size ⟨xi, xs, xn⟩), s.V.cell? ⟨wr.heap.size, 1, none⟩ = some (.int .i64 xs) := fun s => s.h.k.cell 1
                        have d2 : ∀ s : Sig (RS2 w (some ⟨b, off, none⟩) m c A2 m2 c2 wr.heap.size ⟨xi, xs, xn⟩), s.V.cell? ⟨wr.heap.size, 2, none⟩ = some (.int .i64 xn) := fun s => s.h.k.cell 2
                        have p0 : ∀ s : Sig (RS2 w (some ⟨b, off, none⟩) m c A2 m2 c2 wr.heap.size ⟨xi, xs, xn⟩), s.V.cell? ⟨b, off + j * 3, none⟩ = some (.int .i64 p) := fun s => (s.h.c.b.cell (p := ⟨b, off + j * 3, none⟩) hb).trans hcp
                        clear q0 q40 q41 q42
                        try simp only [Act.put]
                        repeat (go_big_quiet_step (fail))
                        refine wpQuiet_nil ?_
                        rintro _ ⟨s7, rfl⟩
                        have J2 := s7.h
                        clear c0 d0 d1 d2 hne Jd J1 k4
                        go_wp2_with fail
                        go_ret
                        exact ⟨by rw [HIB.out]; rfl, J2.c.b⟩
                    · have hI : E = false := by
                        rw [hI]
                        unfold badR
                        simp only [hk0p, h1, h2, h3, h4]
                        first | rfl | simp | (cases decide (xi ≤ p) <;> simp)
                      clear HI2
                      have HIB := Lib.hid hI
                      clear hI
                      have Jd : RS2 w (some ⟨b, off, none⟩) m c A2 m2 c2 wr.heap.size ⟨xi, xs, xn⟩ w1.drew := ⟨J1.step (Below.refl _ _).drew, k4.drew⟩
                      have hne : Nonempty (Sig (RS2 w (some ⟨b, off, none⟩) m c A2 m2 c2 wr.heap.size ⟨xi, xs, xn⟩)) := ⟨⟨_, Jd⟩⟩
                      refine region_class (S := RS2 w (some ⟨b, off, none⟩) m c A2 m2 c2 wr.heap.size ⟨xi, xs, xn⟩) (by kernel_rfl) (by kernel_rfl) Jd ?_
                      have c0 : ∀ s : Sig (RS2 w (some ⟨b, off, none⟩) m c A2 m2 c2 wr.heap.size ⟨xi, xs, xn⟩), s.V.cell? ⟨w.heap.size, 0, none⟩ = some (.slice (some ⟨b, off, none⟩) m c) := fun s => s.h.c.c0
                      have d0 : ∀ s : Sig (RS2 w (some ⟨b, off, none⟩) m c A2 m2 c2 wr.heap.size ⟨xi, xs, xn⟩), s.V.cell? ⟨wr.heap.size, 0, none⟩ = some (.int .i64 xi) := fun s => s.h.k.cell 0
                      have d1 : ∀ s : Sig (RS2 w (some ⟨b, off, none⟩) m c A2 m2 c2 wr.heap.size ⟨xi, xs, xn⟩), s.V.cell? ⟨wr.heap.size, 1, none⟩ = some (.int .i64 xs) := fun s => s.h.k.cell 1
                      have d2 : ∀ s : Sig (RS2 w (some ⟨b, off, none⟩) m c A2 m2 c2 wr.heap.size ⟨xi, xs, xn⟩), s.V.cell? ⟨wr.heap.size, 2, none⟩ = some (.int .i64 xn) := fun s => s.h.k.cell 2
                      have p0 : ∀ s : Sig (RS2 w (some ⟨b, off, none⟩) m c A2 m2 c2 wr.heap.size ⟨xi, xs, xn⟩), s.V.cell? ⟨b, off + j * 3, none⟩ = some (.int .i64 p) := fun s => (s.h.c.b.cell (p := ⟨b, off + j * 3, none⟩) hb).trans hcp
                      clear q0 q40 q41 q42
                      try simp only [Act.put]
                      repeat (go_big_quiet_step (fail))
                      refine wpQuiet_nil ?_
                      rintro _ ⟨s7, rfl⟩
                      have J2 := s7.h
                      clear c0 d0 d1 d2 hne Jd J1 k4
                      go_wp2_with fail
                      go_ret
                      exact ⟨by rw [HIB.out]; rfl, J2.c.b⟩
                  · have hI : E = false := by
                      rw [hI]
                      unfold badR
                      simp only [hk0p, h1, h2, h3]
                      first | rfl | simp | (cases decide (xi ≤ p) <;> simp)
                    clear HI2
                    have HIB := Lib.hid hI
                    clear hI
                    have Jd : RS2 w (some ⟨b, off, none⟩) m c A2 m2 c2 wr.heap.size ⟨xi, xs, xn⟩ w1.drew := ⟨J1.step (Below.refl _ _).drew, k4.drew⟩
                    have hne : Nonempty (Sig (RS2 w (some ⟨b, off, none⟩) m c A2 m2 c2 wr.heap.size ⟨xi, xs, xn⟩)) := ⟨⟨_, Jd⟩⟩
                    refine region_class (S := RS2 w (some ⟨b, off, none⟩) m c A2 m2 c2 wr.heap.size ⟨xi, xs, xn⟩) (by kernel_rfl) (by kernel_rfl) Jd ?_
                    have c0 : ∀ s : Sig (RS2 w (some ⟨b, off, none⟩) m c A2 m2 c2 wr.heap.size ⟨xi, xs, xn⟩), s.V.cell? ⟨w.heap.size, 0, none⟩ = some (.slice (some ⟨b, off, none⟩) m c) := fun s => s.h.c.c0
                    have d0 : ∀ s : Sig (RS2 w (some ⟨b, off, none⟩) m c A2 m2 c2 wr.heap.size ⟨xi, xs, xn⟩), s.V.cell? ⟨wr.heap.size, 0, none⟩ = some (.int .i64 xi) := fun s => s.h.k.cell 0
                    have d1 : ∀ s : Sig (RS2 w (some ⟨b, off, none⟩) m c A2 m2 c2 wr.heap.size ⟨xi, xs, xn⟩), s.V.cell? ⟨wr.heap.size, 1, none⟩ = some (.int .i64 xs) := fun s => s.h.k.cell 1
                    have d2 : ∀ s : Sig (RS2 w (some ⟨b, off, none⟩) m c A2 m2 c2 wr.heap.size ⟨xi, xs, xn⟩), s.V.cell? ⟨wr.heap.size, 2, none⟩ = some (.int .i64 xn) := fun s => s.h.k.cell 2
                    have p0 : ∀ s : Sig (RS2 w (some ⟨b, off, none⟩) m c A2 m2 c2 wr.heap.size ⟨xi, xs, xn⟩), s.V.cell? ⟨b, off + j * 3, none⟩ = some (.int .i64 p) := fun s => (s.h.c.b.cell (p := ⟨b, off + j * 3, none⟩) hb).trans hcp
                    clear q0 q40 q41 q42
                    try simp only [Act.put]
                    repeat (go_big_quiet_step (fail))
                    refine wpQuiet_nil ?_
                    rintro _ ⟨s7, rfl⟩
                    have J2 := s7.h
                    clear c0 d0 d1 d2 hne Jd J1 k4
                    go_wp2_with fail
                    go_ret
                    exact ⟨by rw [HIB.out]; rfl, J2.c.b⟩
                · have hI : E = false := by
                    rw [hI]
                    unfold badR
                    simp only [hk0p, h1, h2]
                    first | rfl | simp | (cases decide (xi ≤ p) <;> simp)
                  clear HI2
                  have HIB := Lib.hid hI
                  clear hI
                  have Jd : RS2 w (some ⟨b, off, none⟩) m c A2 m2 c2 wr.heap.size ⟨xi, xs, xn⟩ w1.drew := ⟨J1.step (Below.refl _ _).drew, k4.drew⟩
                  have hne : Nonempty (Sig (RS2 w (some ⟨b, off, none⟩) m c A2 m2 c2 wr.heap.size ⟨xi, xs, xn⟩)) := ⟨⟨_, Jd⟩⟩
                  refine region_class (S := RS2 w (some ⟨b, off, none⟩) m c A2 m2 c2 wr.heap.size ⟨xi, xs, xn⟩) (by kernel_rfl) (by kernel_rfl) Jd ?_
                  have c0 : ∀ s : Sig (RS2 w (some ⟨b, off, none⟩) m c A2 m2 c2 wr.heap.size ⟨xi, xs, xn⟩), s.V.cell? ⟨w.heap.size, 0, none⟩ = some (.slice (some ⟨b, off, none⟩) m c) := fun s => s.h.c.c0
                  have d0 : ∀ s : Sig (RS2 w (some ⟨b, off, none⟩) m c A2 m2 c2 wr.heap.size ⟨xi, xs, xn⟩), s.V.cell? ⟨wr.heap.size, 0, none⟩ = some (.int .i64 xi) := fun s => s.h.k.cell 0
                  have d1 : ∀ s : Sig (RS2 w (some ⟨b, off, none⟩) m c A2 m2 c2 wr.heap.size ⟨xi, xs, xn⟩), s.V.cell? ⟨wr.heap.size, 1, none⟩ = some (.int .i64 xs) := fun s => s.h.k.cell 1
                  have d2 : ∀ s : Sig (RS2 w (some ⟨b, off, none⟩) m c A2 m2 c2 wr.heap.size ⟨xi, xs, xn⟩), s.V.cell? ⟨wr.heap.size, 2, none⟩ = some (.int .i64 xn) := fun s => s.h.k.cell 2
                  have p0 : ∀ s : Sig (RS2 w (some ⟨b, off, none⟩) m c A2 m2 c2 wr.heap.size ⟨xi, xs, xn⟩), s.V.cell? ⟨b, off + j * 3, none⟩ = some (.int .i64 p) := fun s => (s.h.c.b.cell (p := ⟨b, off + j * 3, none⟩) hb).trans hcp
                  clear q0 q40 q41 q42
                  try simp only [Act.put]
                  repeat (go_big_quiet_step (fail))
                  refine wpQuiet_nil ?_
                  rintro _ ⟨s7, rfl⟩
                  have J2 := s7.h
                  clear c0 d0 d1 d2 hne Jd J1 k4
                  go_wp2_with fail
                  go_ret
                  exact ⟨by rw [HIB.out]; rfl, J2.c.b⟩
              · have hI : E = false := by
                  rw [hI]
                  unfold badR
                  simp only [hk0p, h1]
                  first | rfl | simp | (cases decide (xi ≤ p) <;> simp)
                clear HI2
                have HIB := Lib.hid hI
                clear hI
                have Jd : RS2 w (some ⟨b, off, none⟩) m c A2 m2 c2 wr.heap.size ⟨xi, xs, xn⟩ w1.drew := ⟨J1.step (Below.refl _ _).drew, k4.drew⟩
                have hne : Nonempty (Sig (RS2 w (some ⟨b, off, none⟩) m c A2 m2 c2 wr.heap.size ⟨xi, xs, xn⟩)) := ⟨⟨_, Jd⟩⟩
                refine region_class (S := RS2 w (some ⟨b, off, none⟩) m c A2 m2 c2 wr.heap.size ⟨xi, xs, xn⟩) (by kernel_rfl) (by kernel_rfl) Jd ?_
                have c0 : ∀ s : Sig (RS2 w (some ⟨b, off, none⟩) m c A2 m2 c2 wr.heap.size ⟨xi, xs, xn⟩), s.V.cell? ⟨w.heap.size, 0, none⟩ = some (.slice (some ⟨b, off, none⟩) m c) := fun s => s.h.c.c0
                have d0 : ∀ s : Sig (RS2 w (some ⟨b, off, none⟩) m c A2 m2 c2 wr.heap.size ⟨xi, xs, xn⟩), s.V.cell? ⟨wr.heap.size, 0, none⟩ = some (.int .i64 xi) := fun s => s.h.k.cell 0
                have d1 : ∀ s : Sig (RS2 w (some ⟨b, off, none⟩) m c A2 m2 c2 wr.heap.size ⟨xi, xs, xn⟩), s.V.cell? ⟨wr.heap.size, 1, none⟩ = some (.int .i64 xs) := fun s => s.h.k.cell 1
                have d2 : ∀ s : Sig (RS2 w (some ⟨b, off, none⟩) m c A2 m2 c2 wr.heap.size ⟨xi, xs, xn⟩), s.V.cell? ⟨wr.heap.size, 2, none⟩ = some (.int .i64 xn) := fun s => s.h.k.cell 2
                have p0 : ∀ s : Sig (RS2 w (some ⟨b, off, none⟩) m c A2 m2 c2 wr.heap.size ⟨xi, xs, xn⟩), s.V.cell? ⟨b, off + j * 3, none⟩ = some (.int .i64 p) := fun s => (s.h.c.b.cell (p := ⟨b, off + j * 3, none⟩) hb).trans hcp
                clear q0 q40 q41 q42
                try simp only [Act.put]
                repeat (go_big_quiet_step (fail))
                refine wpQuiet_nil ?_
                rintro _ ⟨s7, rfl⟩
                have J2 := s7.h
                clear c0 d0 d1 d2 hne Jd J1 k4
                go_wp2_with fail
                go_ret
                exact ⟨by rw [HIB.out]; rfl, J2.c.b⟩
        · obtain rfl : m = k := by omega
          have hI := HI.out
          rw [List.drop_of_length_le (by have := HM.out; omega)] at hI
          have HI1 := Lib.hid (show E = locksB R 0 0 L by rw [hI]; rfl)
          clear hI HI
          go_wp2_with fail
          go_loopw [9] (fun i wr' => ∃ (k : Nat) (wq : World), wq = wr' ∧ k ≤ m2 ∧ i = .int .i64 k ∧ Hid (E = locksB R k (prevK L k) (L.drop k)) ∧ CS w A m c A2 m2 c2 wq) (fun i _ => m2 - (intOf i).toNat)
          case atStart => exact ⟨0, _, rfl, Nat.zero_le _, rfl, Lib.hid (by rw [List.drop_zero]; exact HI1.out), J⟩
          case round =>
            clear J HI1 q0
            obtain ⟨k, wq, hwq, hk, rfl, HI, J⟩ := hrel
            subst hwq
            have q1 := J.c1
            by_cases hlt : k < m2
            · have hlt' : (k : Int) < (m2 : Int) := by omega
              have hkl : k < L.length := by have := HM2.out; omega
              obtain ⟨b, off, hA2, hb, hc⟩ := (HS.out.ks.below J.b (Nat.le_refl _)) k hkl
              have hq := HS.out.q' hkl
              have hI := HI.out
              rw [locksB_drop hkl] at hI
              have hcp0 := fun j (hj : j < L.length) => HS.out.ks j hj
              obtain ⟨x, hx⟩ : ∃ x, L.getD k kw0 = x := ⟨_, rfl⟩
              rw [hx] at hI hc hq
              have HX := Lib.hid hx.symm
              have HQ := Lib.hid hq
              clear hx HI hq
              subst hA2
              have hs3 : (kwC x).size = 3 := kw_size x
              rcases Nat.eq_zero_or_pos k with k0eq | hkpos
              · clear hcp0
                as_aux_lemma =>
                  subst k0eq
                  have hprev : prevK L (0 + 1) = x.1.n := by rw [HX.out]; rfl
                  have hd : decide (((0 : Nat) : Int) > 0) = false := rfl
                  go_wp2_with (first
                    | (refine wpList_load_mid rfl 48 (.tmp 153) rfl b (off + 0 * 3) rfl (kwC x).toList _ hc Try.underlying48 rfl (kw_infL x) ?_)
                    | (refine wpList_store_blk rfl 48 (.tmp 10) (.tmp 154) rfl wq.heap.size (kwC kw0) (kwC x) 48 rfl rfl (Blk.new _ _ _) rfl (kw_inf x) (kw_one x) ?_
                       intro w1 k4 n1
                       have bb : Below wq.heap.size wq w1 := ((Below.refl _ wq).alloc (Nat.le_refl _) _).trans (n1.below _ (Nat.le_refl _) (by simp))
                       have J1 := J.step bb
                       have q1 := J1.c1
                       have q40 : w1.cell? ⟨wq.heap.size, 0, none⟩ = some (.int .i64 x.1.n) := k4.cell 0
                       skip
                       clear bb n1 hc))
                  cases h1 : decide (x.1.n < 1)
                  · cases h2 : decide (40 < x.1.n)
                    · have HI3 := Lib.hid (show E = (ownKB R x && (x.1.q.all (thereB R) && locksB R (0 + 1) x.1.n (L.drop (0 + 1)))) by
                        rw [hI]
                        unfold badK
                        simp only [h1, h2]
                        first | rfl | simp)
                      clear hI
                      have Jd : KS2 w A m c (some ⟨b, off, none⟩) m2 c2 wq.heap.size x w1.drew := ⟨J1.step (Below.refl _ _).drew, k4.drew⟩
                      have hne : Nonempty (Sig (KS2 w A m c (some ⟨b, off, none⟩) m2 c2 wq.heap.size x)) := ⟨⟨_, Jd⟩⟩
                      refine region_class (S := KS2 w A m c (some ⟨b, off, none⟩) m2 c2 wq.heap.size x) (by kernel_rfl) (by kernel_rfl) Jd ?_
                      have c1 : ∀ s : Sig (KS2 w A m c (some ⟨b, off, none⟩) m2 c2 wq.heap.size x), s.V.cell? ⟨w.heap.size, 1, none⟩ = some (.slice (some ⟨b, off, none⟩) m2 c2) := fun s => s.h.c.c1
                      have d0 : ∀ s : Sig (KS2 w A m c (some ⟨b, off, none⟩) m2 c2 wq.heap.size x), s.V.cell? ⟨wq.heap.size, 0, none⟩ = some (.int .i64 x.1.n) := fun s => s.h.k.cell 0
                      skip
                      clear q1 q40
                      try simp only [Act.put]
                      repeat (go_big_quiet_step (fail))
                      refine wpQuiet_nil ?_
                      rintro _ ⟨s7, rfl⟩
                      have J2 := s7.h
                      clear c1 d0 hne Jd J1 k4
                      generalize s7.V = w2 at J2 ⊢
                      have FR1 := FR.out x.1.o
                      unfold ownKB at HI3
                      obtain ⟨f, hf⟩ : ∃ f, fndR R x.1.o = f := ⟨_, rfl⟩
                      rw [hf] at HI3 FR1
                      clear hf
                      obtain ⟨⟨fi, fs, fn⟩, fb⟩ := f
                      simp only at HI3
                      unfold rnV at FR1
                      have q41 : w2.cell? ⟨wq.heap.size, 1, none⟩ = some (.int .i64 x.1.o) := J2.k.cell 1
                      have hct : x.1.q.count x.1.o ≤ 1000000 := Nat.le_trans List.count_le_length HQ.out.l
                      have CN := Lib.hid (fun (V : World) (hV : Below w.heap.size w V) => count_rf x.2.1 x.1.q.length x.2.2 x.1.q x.1.o V ((HQ.out.ri.below hV (Nat.le_refl _)).more hV.size) rfl HQ.out.l)
                      generalize x.1.q.count x.1.o = ct at CN HI3 hct
                      cases fb
                      · have HIB := Lib.hid (show E = false by rw [HI3.out]; rfl)
                        go_wp2_with (first
                          | (refine wpList_load_row rfl 25 (.tmp 1) rfl w.heap.size rfl 25 (scC A m c (some ⟨b, off, none⟩) m2 c2) (0, 0) _ J2.c.k.blk Try.underlying25 rfl (sc_inf _ _ _ _ _ _) ?_)
                          | (refine (FR1 _ J2.c).mono ?_
                             clear FR1
                             rintro e w3 ⟨rfl, bb⟩
                             have J3 := J2.step bb
                             clear bb)
                          | (refine wpList_store_blk rfl 52 (.tmp 11) (.tmp 184) rfl w3.heap.size (rnC rn0) (rnC ⟨fi, fs, fn⟩) 52 rfl rfl (Blk.new _ _ _) rfl (rn_inf _) (rn_one _) ?_
                             intro w4 k5 n5
                             have bb : Below w3.heap.size w3 w4 := ((Below.refl _ w3).alloc (Nat.le_refl _) _).trans (n5.below _ (Nat.le_refl _) (by simp))
                             have J4 := J3.step bb
                             clear bb n5))
                        go_ret
                        exact ⟨by rw [HIB.out]; rfl, J4.c.b⟩
                      · cases hs2 : (fs == 2)
                        · cases hc0 : (ct == 0)
                          · have HIB := Lib.hid (show E = false by rw [HI3.out, hc0, show (fs != 2) = true by simpa using hs2]; rfl)
                            have hcp : 0 < ct := by simp at hc0; omega
                            have hcd2 : decide (0 < ct) = true := decide_eq_true hcp
                            have hcd : decide ((0 : Int) < (ct : Int)) = true := by simp; omega
                            go_wp2_with (first
                              | (refine wpList_load_row rfl 25 (.tmp 1) rfl w.heap.size rfl 25 (scC A m c (some ⟨b, off, none⟩) m2 c2) (0, 0) _ J2.c.k.blk Try.underlying25 rfl (sc_inf _ _ _ _ _ _) ?_)
                              | (refine (FR1 _ J2.c).mono ?_
                                 clear FR1
                                 rintro e w3 ⟨rfl, bb⟩
                                 have J3 := J2.step bb
                                 clear bb)
                              | (refine wpList_store_blk rfl 52 (.tmp 11) (.tmp 184) rfl w3.heap.size (rnC rn0) (rnC ⟨fi, fs, fn⟩) 52 rfl rfl (Blk.new _ _ _) rfl (rn_inf _) (rn_one _) ?_
                                 intro w4 k5 n5
                                 have bb : Below w3.heap.size w3 w4 := ((Below.refl _ w3).alloc (Nat.le_refl _) _).trans (n5.below _ (Nat.le_refl _) (by simp))
                                 have J4 := J3.step bb
                                 have q51 : w4.cell? ⟨w3.heap.size, 1, none⟩ = some (.int .i64 fs) := k5.cell 1
                                 have q41 : w4.cell? ⟨wq.heap.size, 1, none⟩ = some (.int .i64 x.1.o) := J4.k.cell 1
                                 have q42 : w4.cell? ⟨wq.heap.size, 2, none⟩ = some (.slice x.2.1 x.1.q.length x.2.2) := J4.k.cell 2
                                 clear bb n5)
                              | (refine (CN.out _ J4.c.b).mono ?_
                                 clear CN
                                 rintro e w5 ⟨rfl, rfl⟩))
                            all_goals first
                              | (go_ret; exact ⟨by rw [HIB.out]; rfl, J4.c.b⟩)
                              | (exfalso; omega)
                              | (exfalso; simp_all; done)
                          · have HI5 := Lib.hid (show E = (x.1.q.all (thereB R) && locksB R (0 + 1) x.1.n (L.drop (0 + 1))) by
                              rw [HI3.out, hc0, show (fs != 2) = true by simpa using hs2]
                              rfl)
                            have hcn : ¬ 0 < ct := by simp at hc0; omega
                            have hcd2 : decide (0 < ct) = false := decide_eq_false hcn
                            have hcd : decide ((0 : Int) < (ct : Int)) = false := by simp; omega
                            clear HI3
                            go_wp2_with (first
                              | (refine wpList_load_row rfl 25 (.tmp 1) rfl w.heap.size rfl 25 (scC A m c (some ⟨b, off, none⟩) m2 c2) (0, 0) _ J2.c.k.blk Try.underlying25 rfl (sc_inf _ _ _ _ _ _) ?_)
                              | (refine (FR1 _ J2.c).mono ?_
                                 clear FR1
                                 rintro e w3 ⟨rfl, bb⟩
                                 have J3 := J2.step bb
                                 clear bb)
                              | (refine wpList_store_blk rfl 52 (.tmp 11) (.tmp 184) rfl w3.heap.size (rnC rn0) (rnC ⟨fi, fs, fn⟩) 52 rfl rfl (Blk.new _ _ _) rfl (rn_inf _) (rn_one _) ?_
                                 intro w4 k5 n5
                                 have bb : Below w3.heap.size w3 w4 := ((Below.refl _ w3).alloc (Nat.le_refl _) _).trans (n5.below _ (Nat.le_refl _) (by simp))
                                 have J4 := J3.step bb
                                 have q51 : w4.cell? ⟨w3.heap.size, 1, none⟩ = some (.int .i64 fs) := k5.cell 1
                                 have q41 : w4.cell? ⟨wq.heap.size, 1, none⟩ = some (.int .i64 x.1.o) := J4.k.cell 1
                                 have q42 : w4.cell? ⟨wq.heap.size, 2, none⟩ = some (.slice x.2.1 x.1.q.length x.2.2) := J4.k.cell 2
                                 clear bb n5)
                              | (refine (CN.out _ J4.c.b).mono ?_
                                 clear CN
                                 rintro e w5 ⟨rfl, rfl⟩))
                            clear q41 q42 q51 k5
                            obtain ⟨N, hN⟩ : ∃ N, x.1.q.length = N := ⟨_, rfl⟩
                            obtain ⟨XA, hXA⟩ : ∃ a, x.2.1 = a := ⟨_, rfl⟩
                            have HN := Lib.hid hN
                            have HXA := Lib.hid hXA
                            have hNl : N ≤ 1000000 := by rw [← hN]; exact HQ.out.l
                            have hNe : N ≤ x.2.2 := by rw [← hN]; exact HQ.out.le
                            obtain ⟨xc, hxc⟩ : ∃ a, x.2.2 = a := ⟨_, rfl⟩
                            have HXC := Lib.hid hxc
                            simp only [hN, hXA, hxc]
                            clear hN hXA hxc
                            go_loopw [13] (fun i wr' => ∃ (u : Nat) (wz : World), wz = wr' ∧ u ≤ N ∧ i = .int .i64 u ∧ Hid (E = ((x.1.q.drop u).all (thereB R) && locksB R (0 + 1) x.1.n (L.drop (0 + 1)))) ∧ KS2 w A m c (some ⟨b, off, none⟩) m2 c2 wq.heap.size x wz) (fun i _ => N - (intOf i).toNat)
                            case atStart => exact ⟨0, _, rfl, Nat.zero_le _, rfl, Lib.hid (by rw [List.drop_zero]; exact HI5.out), J4⟩
                            case round =>
                              clear J4 HI5
                              obtain ⟨u, wz, hwz, hu, rfl, HI6, J5⟩ := hrel
                              subst hwz
                              have q42 : wz.cell? ⟨wq.heap.size, 2, none⟩ = some (.slice XA N xc) := by rw [← HN.out, ← HXA.out, ← HXC.out]; exact J5.k.cell 2
                              by_cases hun : u < N
                              · have hun' : (u : Int) < (N : Int) := by omega
                                have hul : u < x.1.q.length := by have := HN.out; omega
                                obtain ⟨bq, oq, hAq, hbq, hcq⟩ := HQ.out.ri u hul
                                obtain rfl : XA = some ⟨bq, oq, none⟩ := HXA.out.symm.trans hAq
                                have hI6 := HI6.out
                                rw [all_take hul] at hI6
                                clear hul HI6
                                generalize x.1.q.getD u 0 = id at hcq hI6
                                have FR2 := FR.out id
                                unfold thereB at hI6
                                obtain ⟨f, hf⟩ : ∃ f, fndR R id = f := ⟨_, rfl⟩
                                rw [hf] at hI6 FR2
                                clear hf
                                obtain ⟨⟨gi, gs, gn⟩, gb⟩ := f
                                simp only at hI6
                                unfold rnV at FR2
                                have hW0s : wz.heap.size ≤ wz.heap.size := Nat.le_refl _
                                have J6 : KS2 w A m c (some ⟨b, off, none⟩) m2 c2 wq.heap.size x wz.drew := J5.step (Below.refl _ _).drew
                                have hV2 : ∀ V, KS2 w A m c (some ⟨b, off, none⟩) m2 c2 wq.heap.size x V → V.cell? ⟨wq.heap.size, 2, none⟩ = some (.slice (some ⟨bq, oq, none⟩) N xc) := fun V hV => by rw [← HN.out, ← HXA.out, ← HXC.out]; exact hV.k.cell 2
                                have hVq : ∀ V, KS2 w A m c (some ⟨b, off, none⟩) m2 c2 wq.heap.size x V → V.cell? ⟨bq, oq + u, none⟩ = some (.int .i64 id) := fun V hV => (hV.c.b.cell (p := ⟨bq, oq + u, none⟩) hbq).trans hcq
                                go_wp2_with fail
                                try simp only [Act.put]
                                refine region_cutP ?_
                                refine wp_region_held_drew (S := KS2 w A m c (some ⟨b, off, none⟩) m2 c2 wq.heap.size x) (by kernel_rfl) J6 (fun _ => ?_)
                                refine wpAnyH_take (i := 0) (v := .agg (scC A m c (some ⟨b, off, none⟩) m2 c2)) rfl (by kernel_rfl) (by kernel_rfl) (by kernel_rfl) (fun _ _ _ h => nomatch h.1) (yieldsIf_blk (by rfl) 25 (.tmp 1) rfl w.heap.size rfl (scC A m c (some ⟨b, off, none⟩) m2 c2) 25 _ (fun _ h => h.c.k) Try.underlying25 rfl (sc_inf _ _ _ _ _ _)) J6 ?_
                                try simp only [Act.put, List.getElem_toArray, List.getElem_cons_zero, List.getElem_cons_succ, List.setIfInBounds_toArray, List.set_cons_zero, List.set_cons_succ]
                                refine wpAnyH_take (i := 1) (v := .pointer (some ⟨wq.heap.size, 2, none⟩)) rfl (by kernel_rfl) (by kernel_rfl) (by kernel_rfl) (fun _ _ _ h => nomatch h.1) (.inl ⟨by rfl, fun V hV => by go_simp⟩) J6 ?_
                                try simp only [Act.put, List.getElem_toArray, List.getElem_cons_zero, List.getElem_cons_succ, List.setIfInBounds_toArray, List.set_cons_zero, List.set_cons_succ]
                                refine wpAnyH_take (i := 2) (v := .slice (some ⟨bq, oq, none⟩) N xc) rfl (by kernel_rfl) (by kernel_rfl) (by kernel_rfl) (fun _ _ _ h => nomatch h.1) (.inl ⟨by rfl, fun V hV => by have c2 := hV2 V hV; go_simp⟩) J6 ?_
                                try simp only [Act.put, List.getElem_toArray, List.getElem_cons_zero, List.getElem_cons_succ, List.setIfInBounds_toArray, List.set_cons_zero, List.set_cons_succ]
                                refine wpAnyH_take (i := 3) (v := .int .i64 u) rfl (by kernel_rfl) (by kernel_rfl) (by kernel_rfl) (fun _ _ _ h => nomatch h.1) (.inl ⟨by rfl, fun V hV => by go_simp⟩) J6 ?_
                                try simp only [Act.put, List.getElem_toArray, List.getElem_cons_zero, List.getElem_cons_succ, List.setIfInBounds_toArray, List.set_cons_zero, List.set_cons_succ]
                                refine wpAnyH_take (i := 4) (v := .pointer (some ⟨bq, oq + u, none⟩)) rfl (by kernel_rfl) (by kernel_rfl) (by kernel_rfl) (fun _ _ _ h => nomatch h.1) (.inl ⟨by rfl, fun V hV => by go_simp⟩) J6 ?_
                                try simp only [Act.put, List.getElem_toArray, List.getElem_cons_zero, List.getElem_cons_succ, List.setIfInBounds_toArray, List.set_cons_zero, List.set_cons_succ]
                                refine wpAnyH_take (i := 5) (v := .int .i64 id) rfl (by kernel_rfl) (by kernel_rfl) (by kernel_rfl) (fun _ _ _ h => nomatch h.1) (.inl ⟨by rfl, fun V hV => by have c2 := hVq V hV; go_simp⟩) J6 ?_
                                try simp only [Act.put, List.getElem_toArray, List.getElem_cons_zero, List.getElem_cons_succ, List.setIfInBounds_toArray, List.set_cons_zero, List.set_cons_succ]
                                have hWz : wz.heap.size ≤ wz.drew.heap.size := Nat.le_refl _
                                generalize wz.drew = W0 at J6 hWz ⊢
                                refine wpAnyH_ready (rs := [6, 10]) (by kernel_rfl) (by simp) ?_
                                refine AllReadyH.cons rfl (fun K hK => ?_) (AllReadyH.cons rfl (fun K hK => ?_) AllReadyH.nil)
                                · try simp only [Act.put, List.getElem_toArray, List.getElem_cons_zero, List.getElem_cons_succ, List.setIfInBounds_toArray, List.set_cons_zero, List.set_cons_succ]
                                  go_simp
                                  refine (FR2 _ J6.c).mono ?_
                                  rintro e w6 ⟨rfl, bb⟩
                                  go_wp2_with fail
                                  have J7 := J6.step bb
                                  have hs6 : W0.heap.size ≤ w6.heap.size := bb.size
                                  clear bb
                                  refine hK.out _ _ J7 (fun _ => ?_)
                                  clear hK K
                                  try simp only [Act.put, List.getElem_toArray, List.getElem_cons_zero, List.getElem_cons_succ, List.setIfInBounds_toArray, List.set_cons_zero, List.set_cons_succ]
                                  refine wpAnyH_take (i := 7) (v := .tuple #[.agg (rnC ⟨gi, gs, gn⟩), .bool gb]) rfl (by kernel_rfl) (by kernel_rfl) (by kernel_rfl) (fun _ _ _ h => nomatch h.1) (.inl ⟨by rfl, fun V hV => by go_simp⟩) J7 ?_
                                  try simp only [Act.put, List.getElem_toArray, List.getElem_cons_zero, List.getElem_cons_succ, List.setIfInBounds_toArray, List.set_cons_zero, List.set_cons_succ]
                                  refine wpAnyH_take (i := 8) (v := .agg (rnC ⟨gi, gs, gn⟩)) rfl (by kernel_rfl) (by kernel_rfl) (by kernel_rfl) (fun _ _ _ h => nomatch h.1) (.inl ⟨by rfl, fun V hV => by go_simp⟩) J7 ?_
                                  try simp only [Act.put, List.getElem_toArray, List.getElem_cons_zero, List.getElem_cons_succ, List.setIfInBounds_toArray, List.set_cons_zero, List.set_cons_succ]
                                  refine wpAnyH_take (i := 9) (v := .bool gb) rfl (by kernel_rfl) (by kernel_rfl) (by kernel_rfl) (fun _ _ _ h => nomatch h.1) (.inl ⟨by rfl, fun V hV => by go_simp⟩) J7 ?_
                                  try simp only [Act.put, List.getElem_toArray, List.getElem_cons_zero, List.getElem_cons_succ, List.setIfInBounds_toArray, List.set_cons_zero, List.set_cons_succ]
                                  refine wpAnyH_ready (rs := [10]) (by kernel_rfl) (by simp) ?_
                                  refine AllReadyH.cons rfl (fun K hK => ?_) AllReadyH.nil
                                  try simp only [Act.put, List.getElem_toArray, List.getElem_cons_zero, List.getElem_cons_succ, List.setIfInBounds_toArray, List.set_cons_zero, List.set_cons_succ]
                                  go_simp
                                  have KB := Blk.new w6 (rnC rn0) 52
                                  have ba : Below w6.heap.size w6 (w6.alloc (.cells (rnC rn0) 52)) := (Below.refl _ _).alloc (Nat.le_refl _) _
                                  have J8 := J7.step ba
                                  have hgs : wz.heap.size ≤ w6.heap.size := Nat.le_trans hWz hs6
                                  have hgz := hgs
                                  have hgs2 : wz.heap.size ≤ (w6.alloc (.cells (rnC rn0) 52)).heap.size := by simp; omega
                                  refine hK.out _ _ J8 (fun _ => ?_)
                                  clear hK K
                                  try simp only [Act.put, List.getElem_toArray, List.getElem_cons_zero, List.getElem_cons_succ, List.setIfInBounds_toArray, List.set_cons_zero, List.set_cons_succ]
                                  refine wpAnyH_ready (rs := [11]) (by kernel_rfl) (by simp) ?_
                                  refine AllReadyH.cons rfl (fun K hK => ?_) AllReadyH.nil
                                  try simp only [Act.put, List.getElem_toArray, List.getElem_cons_zero, List.getElem_cons_succ, List.setIfInBounds_toArray, List.set_cons_zero, List.set_cons_succ]
                                  rw [if_pos (by rfl)]
                                  refine wp_store_blk 52 (.tmp 14) (.tmp 216) rfl w6.heap.size (rnC rn0) (rnC ⟨gi, gs, gn⟩) 52 rfl rfl KB rfl (rn_inf _) (rn_one _) ?_
                                  intro w9 k9 n9
                                  have bb : Below wz.heap.size (w6.alloc (.cells (rnC rn0) 52)) w9 := n9.below _ hgz hgs2
                                  have J9 : KS2 w A m c (some ⟨b, off, none⟩) m2 c2 wq.heap.size x w9 := ⟨⟨J8.c.b.trans (bb.mono J5.c.b.size), J8.c.k.below bb J5.c.k.lt⟩, J8.k.below bb J5.k.lt⟩
                                  refine hK.out _ _ J9 (fun _ => ?_)
                                  clear hK K
                                  try simp only [Act.put, List.getElem_toArray, List.getElem_cons_zero, List.getElem_cons_succ, List.setIfInBounds_toArray, List.set_cons_zero, List.set_cons_succ]
                                  refine wpAnyH_take (i := 12) (v := .bool gb) rfl (by kernel_rfl) (by kernel_rfl) (by kernel_rfl) (fun _ _ _ h => nomatch h.1) (.inl ⟨by rfl, fun V hV => by go_simp⟩) J9 ?_
                                  try simp only [Act.put, List.getElem_toArray, List.getElem_cons_zero, List.getElem_cons_succ, List.setIfInBounds_toArray, List.set_cons_zero, List.set_cons_succ]
                                  refine wpAnyH_done (by kernel_rfl) ?_ _
                                  refine ⟨rfl, ?_⟩
                                  cases gb
                                  · have HIB := Lib.hid (show E = false by rw [hI6]; rfl)
                                    clear hI6
                                    go_wp2_with fail
                                    go_ret
                                    exact ⟨by rw [HIB.out]; rfl, J9.c.b⟩
                                  · have HI7 := Lib.hid (show E = ((x.1.q.drop (u + 1)).all (thereB R) && locksB R (0 + 1) x.1.n (L.drop (0 + 1))) by rw [hI6]; rfl)
                                    clear hI6
                                    go_wp2_with fail
                                    go_roundw
                                    case rel => exact ⟨u + 1, _, rfl, by omega, by go_num, HI7, J9⟩
                                    case measure => simp [intOf]; omega
                                · try simp only [Act.put, List.getElem_toArray, List.getElem_cons_zero, List.getElem_cons_succ, List.setIfInBounds_toArray, List.set_cons_zero, List.set_cons_succ]
                                  go_simp
                                  have KB0 := Blk.new W0 (rnC rn0) 52
                                  have ba : Below W0.heap.size W0 (W0.alloc (.cells (rnC rn0) 52)) := (Below.refl _ _).alloc (Nat.le_refl _) _
                                  have J7 := J6.step ba
                                  refine hK.out _ _ J7 (fun _ => ?_)
                                  clear hK K
                                  try simp only [Act.put, List.getElem_toArray, List.getElem_cons_zero, List.getElem_cons_succ, List.setIfInBounds_toArray, List.set_cons_zero, List.set_cons_succ]
                                  refine wpAnyH_ready (rs := [6]) (by kernel_rfl) (by simp) ?_
                                  refine AllReadyH.cons rfl (fun K hK => ?_) AllReadyH.nil
                                  try simp only [Act.put, List.getElem_toArray, List.getElem_cons_zero, List.getElem_cons_succ, List.setIfInBounds_toArray, List.set_cons_zero, List.set_cons_succ]
                                  go_simp
                                  refine (FR2 _ J7.c).mono ?_
                                  rintro e w6 ⟨rfl, bb⟩
                                  go_wp2_with fail
                                  have J8 := J7.step bb
                                  have KB := KB0.below bb KB0.lt
                                  have hgs : wz.heap.size ≤ W0.heap.size := hWz
                                  have hgz := hgs
                                  have hgs2 : wz.heap.size ≤ w6.heap.size := Nat.le_trans hWz (Nat.le_trans (by simp) bb.size)
                                  refine hK.out _ _ J8 (fun _ => ?_)
                                  clear hK K
                                  try simp only [Act.put, List.getElem_toArray, List.getElem_cons_zero, List.getElem_cons_succ, List.setIfInBounds_toArray, List.set_cons_zero, List.set_cons_succ]
                                  refine wpAnyH_take (i := 7) (v := .tuple #[.agg (rnC ⟨gi, gs, gn⟩), .bool gb]) rfl (by kernel_rfl) (by kernel_rfl) (by kernel_rfl) (fun _ _ _ h => nomatch h.1) (.inl ⟨by rfl, fun V hV => by go_simp⟩) J8 ?_
                                  try simp only [Act.put, List.getElem_toArray, List.getElem_cons_zero, List.getElem_cons_succ, List.setIfInBounds_toArray, List.set_cons_zero, List.set_cons_succ]
                                  refine wpAnyH_take (i := 8) (v := .agg (rnC ⟨gi, gs, gn⟩)) rfl (by kernel_rfl) (by kernel_rfl) (by kernel_rfl) (fun _ _ _ h => nomatch h.1) (.inl ⟨by rfl, fun V hV => by go_simp⟩) J8 ?_
                                  try simp only [Act.put, List.getElem_toArray, List.getElem_cons_zero, List.getElem_cons_succ, List.setIfInBounds_toArray, List.set_cons_zero, List.set_cons_succ]
                                  refine wpAnyH_take (i := 9) (v := .bool gb) rfl (by kernel_rfl) (by kernel_rfl) (by kernel_rfl) (fun _ _ _ h => nomatch h.1) (.inl ⟨by rfl, fun V hV => by go_simp⟩) J8 ?_
                                  try simp only [Act.put, List.getElem_toArray, List.getElem_cons_zero, List.getElem_cons_succ, List.setIfInBounds_toArray, List.set_cons_zero, List.set_cons_succ]
                                  refine wpAnyH_ready (rs := [11]) (by kernel_rfl) (by simp) ?_
                                  refine AllReadyH.cons rfl (fun K hK => ?_) AllReadyH.nil
                                  try simp only [Act.put, List.getElem_toArray, List.getElem_cons_zero, List.getElem_cons_succ, List.setIfInBounds_toArray, List.set_cons_zero, List.set_cons_succ]
                                  rw [if_pos (by rfl)]
                                  refine wp_store_blk 52 (.tmp 14) (.tmp 216) rfl W0.heap.size (rnC rn0) (rnC ⟨gi, gs, gn⟩) 52 rfl rfl KB rfl (rn_inf _) (rn_one _) ?_
                                  intro w9 k9 n9
                                  have bb : Below wz.heap.size w6 w9 := n9.below _ hgz hgs2
                                  have J9 : KS2 w A m c (some ⟨b, off, none⟩) m2 c2 wq.heap.size x w9 := ⟨⟨J8.c.b.trans (bb.mono J5.c.b.size), J8.c.k.below bb J5.c.k.lt⟩, J8.k.below bb J5.k.lt⟩
                                  refine hK.out _ _ J9 (fun _ => ?_)
                                  clear hK K
                                  try simp only [Act.put, List.getElem_toArray, List.getElem_cons_zero, List.getElem_cons_succ, List.setIfInBounds_toArray, List.set_cons_zero, List.set_cons_succ]
                                  refine wpAnyH_take (i := 12) (v := .bool gb) rfl (by kernel_rfl) (by kernel_rfl) (by kernel_rfl) (fun _ _ _ h => nomatch h.1) (.inl ⟨by rfl, fun V hV => by go_simp⟩) J9 ?_
                                  try simp only [Act.put, List.getElem_toArray, List.getElem_cons_zero, List.getElem_cons_succ, List.setIfInBounds_toArray, List.set_cons_zero, List.set_cons_succ]
                                  refine wpAnyH_done (by kernel_rfl) ?_ _
                                  refine ⟨rfl, ?_⟩
                                  cases gb
                                  · have HIB := Lib.hid (show E = false by rw [hI6]; rfl)
                                    clear hI6
                                    go_wp2_with fail
                                    go_ret
                                    exact ⟨by rw [HIB.out]; rfl, J9.c.b⟩
                                  · have HI7 := Lib.hid (show E = ((x.1.q.drop (u + 1)).all (thereB R) && locksB R (0 + 1) x.1.n (L.drop (0 + 1))) by rw [hI6]; rfl)
                                    clear hI6
                                    go_wp2_with fail
                                    go_roundw
                                    case rel => exact ⟨u + 1, _, rfl, by omega, by go_num, HI7, J9⟩
                                    case measure => simp [intOf]; omega
                              · obtain rfl : u = N := by omega
                                have hI6 := HI6.out
                                rw [List.drop_of_length_le (by have := HN.out; omega)] at hI6
                                have HI7 := Lib.hid (show E = locksB R (0 + 1) x.1.n (L.drop (0 + 1)) by rw [hI6]; rfl)
                                clear hI6 HI6
                                go_wp2_with fail
                                go_roundw
                                case rel => exact ⟨0 + 1, _, rfl, by omega, by go_num, Lib.hid (by rw [HI7.out, hprev]), J5.c⟩
                                case measure => simp [intOf]; omega
                        · have HIB := Lib.hid (show E = false by rw [HI3.out, show (fs != 2) = false by simpa using hs2]; rfl)
                          go_wp2_with (first
                            | (refine wpList_load_row rfl 25 (.tmp 1) rfl w.heap.size rfl 25 (scC A m c (some ⟨b, off, none⟩) m2 c2) (0, 0) _ J2.c.k.blk Try.underlying25 rfl (sc_inf _ _ _ _ _ _) ?_)
                            | (refine (FR1 _ J2.c).mono ?_
                               clear FR1
                               rintro e w3 ⟨rfl, bb⟩
                               have J3 := J2.step bb
                               clear bb)
                            | (refine wpList_store_blk rfl 52 (.tmp 11) (.tmp 184) rfl w3.heap.size (rnC rn0) (rnC ⟨fi, fs, fn⟩) 52 rfl rfl (Blk.new _ _ _) rfl (rn_inf _) (rn_one _) ?_
                               intro w4 k5 n5
                               have bb : Below w3.heap.size w3 w4 := ((Below.refl _ w3).alloc (Nat.le_refl _) _).trans (n5.below _ (Nat.le_refl _) (by simp))
                               have J4 := J3.step bb
                               have q51 : w4.cell? ⟨w3.heap.size, 1, none⟩ = some (.int .i64 fs) := k5.cell 1
                               have q41 : w4.cell? ⟨wq.heap.size, 1, none⟩ = some (.int .i64 x.1.o) := J4.k.cell 1
                               have q42 : w4.cell? ⟨wq.heap.size, 2, none⟩ = some (.slice x.2.1 x.1.q.length x.2.2) := J4.k.cell 2
                               clear bb n5))
                          go_ret
                          exact ⟨by rw [HIB.out]; rfl, J4.c.b⟩
                    · have HIB := Lib.hid (show E = false by
                        rw [hI]
                        unfold badK
                        simp only [h1, h2]
                        first | rfl | simp)
                      clear hI
                      have Jd : KS2 w A m c (some ⟨b, off, none⟩) m2 c2 wq.heap.size x w1.drew := ⟨J1.step (Below.refl _ _).drew, k4.drew⟩
                      have hne : Nonempty (Sig (KS2 w A m c (some ⟨b, off, none⟩) m2 c2 wq.heap.size x)) := ⟨⟨_, Jd⟩⟩
                      refine region_class (S := KS2 w A m c (some ⟨b, off, none⟩) m2 c2 wq.heap.size x) (by kernel_rfl) (by kernel_rfl) Jd ?_
                      have c1 : ∀ s : Sig (KS2 w A m c (some ⟨b, off, none⟩) m2 c2 wq.heap.size x), s.V.cell? ⟨w.heap.size, 1, none⟩ = some (.slice (some ⟨b, off, none⟩) m2 c2) := fun s => s.h.c.c1
                      have d0 : ∀ s : Sig (KS2 w A m c (some ⟨b, off, none⟩) m2 c2 wq.heap.size x), s.V.cell? ⟨wq.heap.size, 0, none⟩ = some (.int .i64 x.1.n) := fun s => s.h.k.cell 0
                      skip
                      clear q1 q40
                      try simp only [Act.put]
                      repeat (go_big_quiet_step (fail))
                      refine wpQuiet_nil ?_
                      rintro _ ⟨s7, rfl⟩
                      have J2 := s7.h
                      clear c1 d0 hne Jd J1 k4
                      generalize s7.V = w2 at J2 ⊢
                      go_wp2_with fail
                      go_ret
                      exact ⟨by rw [HIB.out]; rfl, J2.c.b⟩
                  · have HIB := Lib.hid (show E = false by
                      rw [hI]
                      unfold badK
                      simp only [h1]
                      first | rfl | simp)
                    clear hI
                    have Jd : KS2 w A m c (some ⟨b, off, none⟩) m2 c2 wq.heap.size x w1.drew := ⟨J1.step (Below.refl _ _).drew, k4.drew⟩
                    have hne : Nonempty (Sig (KS2 w A m c (some ⟨b, off, none⟩) m2 c2 wq.heap.size x)) := ⟨⟨_, Jd⟩⟩
                    refine region_class (S := KS2 w A m c (some ⟨b, off, none⟩) m2 c2 wq.heap.size x) (by kernel_rfl) (by kernel_rfl) Jd ?_
                    have c1 : ∀ s : Sig (KS2 w A m c (some ⟨b, off, none⟩) m2 c2 wq.heap.size x), s.V.cell? ⟨w.heap.size, 1, none⟩ = some (.slice (some ⟨b, off, none⟩) m2 c2) := fun s => s.h.c.c1
                    have d0 : ∀ s : Sig (KS2 w A m c (some ⟨b, off, none⟩) m2 c2 wq.heap.size x), s.V.cell? ⟨wq.heap.size, 0, none⟩ = some (.int .i64 x.1.n) := fun s => s.h.k.cell 0
                    skip
                    clear q1 q40
                    try simp only [Act.put]
                    repeat (go_big_quiet_step (fail))
                    refine wpQuiet_nil ?_
                    rintro _ ⟨s7, rfl⟩
                    have J2 := s7.h
                    clear c1 d0 hne Jd J1 k4
                    generalize s7.V = w2 at J2 ⊢
                    go_wp2_with fail
                    go_ret
                    exact ⟨by rw [HIB.out]; rfl, J2.c.b⟩
              · obtain ⟨j, rfl⟩ : ∃ j, k = j + 1 := ⟨k - 1, by omega⟩
                obtain ⟨b', off', he, hb', hcp1⟩ := hcp0 j (by omega)
                cases he
                replace hI : E = (!badK (j + 1) (L.getD j kw0).1.n x && (ownKB R x && (x.1.q.all (thereB R) && locksB R (j + 1 + 1) x.1.n (L.drop (j + 1 + 1))))) := hI
                have hcp : w.cell? ⟨b, off + j * 3, none⟩ = some (.int .i64 (L.getD j kw0).1.n) := hcp1 0 _ rfl
                generalize (L.getD j kw0).1.n = p at hI hcp
                clear hcp0 hcp1 hkl
                as_aux_lemma =>
                  have hk0p : decide (0 < j + 1) = true := by simp
                  have hprev : prevK L (j + 1 + 1) = x.1.n := by rw [HX.out]; rfl
                  have hd : decide (((j + 1 : Nat) : Int) > 0) = true := decide_eq_true (by omega)
                  have hk1 : ((j + 1 : Nat) : Int) - 1 = (j : Int) := by omega
                  have hjm : (j : Int) < (m2 : Int) := by omega
                  go_wp2_with (first
                    | (refine wpList_load_mid rfl 48 (.tmp 153) rfl b (off + (j + 1) * 3) rfl (kwC x).toList _ hc Try.underlying48 rfl (kw_infL x) ?_)
                    | (refine wpList_store_blk rfl 48 (.tmp 10) (.tmp 154) rfl wq.heap.size (kwC kw0) (kwC x) 48 rfl rfl (Blk.new _ _ _) rfl (kw_inf x) (kw_one x) ?_
                       intro w1 k4 n1
                       have bb : Below wq.heap.size wq w1 := ((Below.refl _ wq).alloc (Nat.le_refl _) _).trans (n1.below _ (Nat.le_refl _) (by simp))
                       have J1 := J.step bb
                       have q1 := J1.c1
                       have q40 : w1.cell? ⟨wq.heap.size, 0, none⟩ = some (.int .i64 x.1.n) := k4.cell 0
                       skip
                       clear bb n1 hc))
                  cases h1 : decide (x.1.n < 1)
                  · cases h2 : decide (40 < x.1.n)
                    · cases h3 : decide (x.1.n ≤ p)
                      · have HI3 := Lib.hid (show E = (ownKB R x && (x.1.q.all (thereB R) && locksB R ((j + 1) + 1) x.1.n (L.drop ((j + 1) + 1)))) by
                          rw [hI]
                          unfold badK
                          simp only [hk0p, h1, h2, h3]
                          first | rfl | simp)
                        clear hI
                        have Jd : KS2 w A m c (some ⟨b, off, none⟩) m2 c2 wq.heap.size x w1.drew := ⟨J1.step (Below.refl _ _).drew, k4.drew⟩
                        have hne : Nonempty (Sig (KS2 w A m c (some ⟨b, off, none⟩) m2 c2 wq.heap.size x)) := ⟨⟨_, Jd⟩⟩
                        refine region_class (S := KS2 w A m c (some ⟨b, off, none⟩) m2 c2 wq.heap.size x) (by kernel_rfl) (by kernel_rfl) Jd ?_
                        have c1 : ∀ s : Sig (KS2 w A m c (some ⟨b, off, none⟩) m2 c2 wq.heap.size x), s.V.cell? ⟨w.heap.size, 1, none⟩ = some (.slice (some ⟨b, off, none⟩) m2 c2) := fun s => s.h.c.c1
                        have d0 : ∀ s : Sig (KS2 w A m c (some ⟨b, off, none⟩) m2 c2 wq.heap.size x), s.V.cell? ⟨wq.heap.size, 0, none⟩ = some (.int .i64 x.1.n) := fun s => s.h.k.cell 0
                        have p0 : ∀ s : Sig (KS2 w A m c (some ⟨b, off, none⟩) m2 c2 wq.heap.size x), s.V.cell? ⟨b, off + j * 3, none⟩ = some (.int .i64 p) := fun s => (s.h.c.b.cell (p := ⟨b, off + j * 3, none⟩) hb).trans hcp
                        clear q1 q40
                        try simp only [Act.put]
                        repeat (go_big_quiet_step (fail))
                        refine wpQuiet_nil ?_
                        rintro _ ⟨s7, rfl⟩
                        have J2 := s7.h
                        clear c1 d0 hne Jd J1 k4
                        generalize s7.V = w2 at J2 ⊢
                        have FR1 := FR.out x.1.o
                        unfold ownKB at HI3
                        obtain ⟨f, hf⟩ : ∃ f, fndR R x.1.o = f := ⟨_, rfl⟩
                        rw [hf] at HI3 FR1
                        clear hf
                        obtain ⟨⟨fi, fs, fn⟩, fb⟩ := f
                        simp only at HI3
                        unfold rnV at FR1
                        have q41 : w2.cell? ⟨wq.heap.size, 1, none⟩ = some (.int .i64 x.1.o) := J2.k.cell 1
                        have hct : x.1.q.count x.1.o ≤ 1000000 := Nat.le_trans List.count_le_length HQ.out.l
                        have CN := Lib.hid (fun (V : World) (hV : Below w.heap.size w V) => count_rf x.2.1 x.1.q.length x.2.2 x.1.q x.1.o V ((HQ.out.ri.below hV (Nat.le_refl _)).more hV.size) rfl HQ.out.l)
                        generalize x.1.q.count x.1.o = ct at CN HI3 hct
                        cases fb
                        · have HIB := Lib.hid (show E = false by rw [HI3.out]; rfl)
                          go_wp2_with (first
                            | (refine wpList_load_row rfl 25 (.tmp 1) rfl w.heap.size rfl 25 (scC A m c (some ⟨b, off, none⟩) m2 c2) (0, 0) _ J2.c.k.blk Try.underlying25 rfl (sc_inf _ _ _ _ _ _) ?_)
                            | (refine (FR1 _ J2.c).mono ?_
                               clear FR1
                               rintro e w3 ⟨rfl, bb⟩
                               have J3 := J2.step bb
                               clear bb)
                            | (refine wpList_store_blk rfl 52 (.tmp 11) (.tmp 184) rfl w3.heap.size (rnC rn0) (rnC ⟨fi, fs, fn⟩) 52 rfl rfl (Blk.new _ _ _) rfl (rn_inf _) (rn_one _) ?_
                               intro w4 k5 n5
                               have bb : Below w3.heap.size w3 w4 := ((Below.refl _ w3).alloc (Nat.le_refl _) _).trans (n5.below _ (Nat.le_refl _) (by simp))
                               have J4 := J3.step bb
                               clear bb n5))
                          go_ret
                          exact ⟨by rw [HIB.out]; rfl, J4.c.b⟩
                        · cases hs2 : (fs == 2)
                          · cases hc0 : (ct == 0)
                            · have HIB := Lib.hid (show E = false by rw [HI3.out, hc0, show (fs != 2) = true by simpa using hs2]; rfl)
                              have hcp : 0 < ct := by simp at hc0; omega
                              have hcd2 : decide (0 < ct) = true := decide_eq_true hcp
                              have hcd : decide ((0 : Int) < (ct : Int)) = true := by simp; omega
                              go_wp2_with (first
                                | (refine wpList_load_row rfl 25 (.tmp 1) rfl w.heap.size rfl 25 (scC A m c (some ⟨b, off, none⟩) m2 c2) (0, 0) _ J2.c.k.blk Try.underlying25 rfl (sc_inf _ _ _ _ _ _) ?_)
                                | (refine (FR1 _ J2.c).mono ?_
                                   clear FR1
                                   rintro e w3 ⟨rfl, bb⟩
                                   have J3 := J2.step bb
                                   clear bb)
                                | (refine wpList_store_blk rfl 52 (.tmp 11) (.tmp 184) rfl w3.heap.size (rnC rn0) (rnC ⟨fi, fs, fn⟩) 52 rfl rfl (Blk.new _ _ _) rfl (rn_inf _) (rn_one _) ?_
                                   intro w4 k5 n5
                                   have bb : Below w3.heap.size w3 w4 := ((Below.refl _ w3).alloc (Nat.le_refl _) _).trans (n5.below _ (Nat.le_refl _) (by simp))
                                   have J4 := J3.step bb
                                   have q51 : w4.cell? ⟨w3.heap.size, 1, none⟩ = some (.int .i64 fs) := k5.cell 1
                                   have q41 : w4.cell? ⟨wq.heap.size, 1, none⟩ = some (.int .i64 x.1.o) := J4.k.cell 1
                                   have q42 : w4.cell? ⟨wq.heap.size, 2, none⟩ = some (.slice x.2.1 x.1.q.length x.2.2) := J4.k.cell 2
                                   clear bb n5)
                                | (refine (CN.out _ J4.c.b).mono ?_
                                   clear CN
                                   rintro e w5 ⟨rfl, rfl⟩))
                              all_goals first
                                | (go_ret; exact ⟨by rw [HIB.out]; rfl, J4.c.b⟩)
                                | (exfalso; omega)
                                | (exfalso; simp_all; done)
                            · have HI5 := Lib.hid (show E = (x.1.q.all (thereB R) && locksB R ((j + 1) + 1) x.1.n (L.drop ((j + 1) + 1))) by
                                rw [HI3.out, hc0, show (fs != 2) = true by simpa using hs2]
                                rfl)
                              have hcn : ¬ 0 < ct := by simp at hc0; omega
                              have hcd2 : decide (0 < ct) = false := decide_eq_false hcn
                              have hcd : decide ((0 : Int) < (ct : Int)) = false := by simp; omega
                              clear HI3
                              go_wp2_with (first
                                | (refine wpList_load_row rfl 25 (.tmp 1) rfl w.heap.size rfl 25 (scC A m c (some ⟨b, off, none⟩) m2 c2) (0, 0) _ J2.c.k.blk Try.underlying25 rfl (sc_inf _ _ _ _ _ _) ?_)
                                | (refine (FR1 _ J2.c).mono ?_
                                   clear FR1
                                   rintro e w3 ⟨rfl, bb⟩
                                   have J3 := J2.step bb
                                   clear bb)
                                | (refine wpList_store_blk rfl 52 (.tmp 11) (.tmp 184) rfl w3.heap.size (rnC rn0) (rnC ⟨fi, fs, fn⟩) 52 rfl rfl (Blk.new _ _ _) rfl (rn_inf _) (rn_one _) ?_
                                   intro w4 k5 n5
                                   have bb : Below w3.heap.size w3 w4 := ((Below.refl _ w3).alloc (Nat.le_refl _) _).trans (n5.below _ (Nat.le_refl _) (by simp))
                                   have J4 := J3.step bb
                                   have q51 : w4.cell? ⟨w3.heap.size, 1, none⟩ = some (.int .i64 fs) := k5.cell 1
                                   have q41 : w4.cell? ⟨wq.heap.size, 1, none⟩ = some (.int .i64 x.1.o) := J4.k.cell 1
                                   have q42 : w4.cell? ⟨wq.heap.size, 2, none⟩ = some (.slice x.2.1 x.1.q.length x.2.2) := J4.k.cell 2
                                   clear bb n5)
                                | (refine (CN.out _ J4.c.b).mono ?_
                                   clear CN
                                   rintro e w5 ⟨rfl, rfl⟩))
                              clear q41 q42 q51 k5
                              obtain ⟨N, hN⟩ : ∃ N, x.1.q.length = N := ⟨_, rfl⟩
                              obtain ⟨XA, hXA⟩ : ∃ a, x.2.1 = a := ⟨_, rfl⟩
                              have HN := Lib.hid hN
                              have HXA := Lib.hid hXA
                              have hNl : N ≤ 1000000 := by rw [← hN]; exact HQ.out.l
                              have hNe : N ≤ x.2.2 := by rw [← hN]; exact HQ.out.le
                              obtain ⟨xc, hxc⟩ : ∃ a, x.2.2 = a := ⟨_, rfl⟩
                              have HXC := Lib.hid hxc
                              simp only [hN, hXA, hxc]
                              clear hN hXA hxc
                              go_loopw [13] (fun i wr' => ∃ (u : Nat) (wz : World), wz = wr' ∧ u ≤ N ∧ i = .int .i64 u ∧ Hid (E = ((x.1.q.drop u).all (thereB R) && locksB R ((j + 1) + 1) x.1.n (L.drop ((j + 1) + 1)))) ∧ KS2 w A m c (some ⟨b, off, none⟩) m2 c2 wq.heap.size x wz) (fun i _ => N - (intOf i).toNat)
                              case atStart => exact ⟨0, _, rfl, Nat.zero_le _, rfl, Lib.hid (by rw [List.drop_zero]; exact HI5.out), J4⟩
                              case round =>
                                clear J4 HI5
                                obtain ⟨u, wz, hwz, hu, rfl, HI6, J5⟩ := hrel
                                subst hwz
                                have q42 : wz.cell? ⟨wq.heap.size, 2, none⟩ = some (.slice XA N xc) := by rw [← HN.out, ← HXA.out, ← HXC.out]; exact J5.k.cell 2
                                by_cases hun : u < N
                                · have hun' : (u : Int) < (N : Int) := by omega
                                  have hul : u < x.1.q.length := by have := HN.out; omega
                                  obtain ⟨bq, oq, hAq, hbq, hcq⟩ := HQ.out.ri u hul
                                  obtain rfl : XA = some ⟨bq, oq, none⟩ := HXA.out.symm.trans hAq
                                  have hI6 := HI6.out
                                  rw [all_take hul] at hI6
                                  clear hul HI6
                                  generalize x.1.q.getD u 0 = id at hcq hI6
                                  have FR2 := FR.out id
                                  unfold thereB at hI6
                                  obtain ⟨f, hf⟩ : ∃ f, fndR R id = f := ⟨_, rfl⟩
                                  rw [hf] at hI6 FR2
                                  clear hf
                                  obtain ⟨⟨gi, gs, gn⟩, gb⟩ := f
                                  simp only at hI6
                                  unfold rnV at FR2
                                  have hW0s : wz.heap.size ≤ wz.heap.size := Nat.le_refl _
                                  have J6 : KS2 w A m c (some ⟨b, off, none⟩) m2 c2 wq.heap.size x wz.drew := J5.step (Below.refl _ _).drew
                                  have hV2 : ∀ V, KS2 w A m c (some ⟨b, off, none⟩) m2 c2 wq.heap.size x V → V.cell? ⟨wq.heap.size, 2, none⟩ = some (.slice (some ⟨bq, oq, none⟩) N xc) := fun V hV => by rw [← HN.out, ← HXA.out, ← HXC.out]; exact hV.k.cell 2
                                  have hVq : ∀ V, KS2 w A m c (some ⟨b, off, none⟩) m2 c2 wq.heap.size x V → V.cell? ⟨bq, oq + u, none⟩ = some (.int .i64 id) := fun V hV => (hV.c.b.cell (p := ⟨bq, oq + u, none⟩) hbq).trans hcq
                                  go_wp2_with fail
                                  try simp only [Act.put]
                                  refine region_cutP ?_
                                  refine wp_region_held_drew (S := KS2 w A m c (some ⟨b, off, none⟩) m2 c2 wq.heap.size x) (by kernel_rfl) J6 (fun _ => ?_)
                                  refine wpAnyH_take (i := 0) (v := .agg (scC A m c (some ⟨b, off, none⟩) m2 c2)) rfl (by kernel_rfl) (by kernel_rfl) (by kernel_rfl) (fun _ _ _ h => nomatch h.1) (yieldsIf_blk (by rfl) 25 (.tmp 1) rfl w.heap.size rfl (scC A m c (some ⟨b, off, none⟩) m2 c2) 25 _ (fun _ h => h.c.k) Try.underlying25 rfl (sc_inf _ _ _ _ _ _)) J6 ?_
                                  try simp only [Act.put, List.getElem_toArray, List.getElem_cons_zero, List.getElem_cons_succ, List.setIfInBounds_toArray, List.set_cons_zero, List.set_cons_succ]
                                  refine wpAnyH_take (i := 1) (v := .pointer (some ⟨wq.heap.size, 2, none⟩)) rfl (by kernel_rfl) (by kernel_rfl) (by kernel_rfl) (fun _ _ _ h => nomatch h.1) (.inl ⟨by rfl, fun V hV => by go_simp⟩) J6 ?_
                                  try simp only [Act.put, List.getElem_toArray, List.getElem_cons_zero, List.getElem_cons_succ, List.setIfInBounds_toArray, List.set_cons_zero, List.set_cons_succ]
                                  refine wpAnyH_take (i := 2) (v := .slice (some ⟨bq, oq, none⟩) N xc) rfl (by kernel_rfl) (by kernel_rfl) (by kernel_rfl) (fun _ _ _ h => nomatch h.1) (.inl ⟨by rfl, fun V hV => by have c2 := hV2 V hV; go_simp⟩) J6 ?_
                                  try simp only [Act.put, List.getElem_toArray, List.getElem_cons_zero, List.getElem_cons_succ, List.setIfInBounds_toArray, List.set_cons_zero, List.set_cons_succ]
                                  refine wpAnyH_take (i := 3) (v := .int .i64 u) rfl (by kernel_rfl) (by kernel_rfl) (by kernel_rfl) (fun _ _ _ h => nomatch h.1) (.inl ⟨by rfl, fun V hV => by go_simp⟩) J6 ?_
                                  try simp only [Act.put, List.getElem_toArray, List.getElem_cons_zero, List.getElem_cons_succ, List.setIfInBounds_toArray, List.set_cons_zero, List.set_cons_succ]
                                  refine wpAnyH_take (i := 4) (v := .pointer (some ⟨bq, oq + u, none⟩)) rfl (by kernel_rfl) (by kernel_rfl) (by kernel_rfl) (fun _ _ _ h => nomatch h.1) (.inl ⟨by rfl, fun V hV => by go_simp⟩) J6 ?_
                                  try simp only [Act.put, List.getElem_toArray, List.getElem_cons_zero, List.getElem_cons_succ, List.setIfInBounds_toArray, List.set_cons_zero, List.set_cons_succ]
                                  refine wpAnyH_take (i := 5) (v := .int .i64 id) rfl (by kernel_rfl) (by kernel_rfl) (by kernel_rfl) (fun _ _ _ h => nomatch h.1) (.inl ⟨by rfl, fun V hV => by have c2 := hVq V hV; go_simp⟩) J6 ?_
                                  try simp only [Act.put, List.getElem_toArray, List.getElem_cons_zero, List.getElem_cons_succ, List.setIfInBounds_toArray, List.set_cons_zero, List.set_cons_succ]
                                  have hWz : wz.heap.size ≤ wz.drew.heap.size := Nat.le_refl _
                                  generalize wz.drew = W0 at J6 hWz ⊢
                                  refine wpAnyH_ready (rs := [6, 10]) (by kernel_rfl) (by simp) ?_
                                  refine AllReadyH.cons rfl (fun K hK => ?_) (AllReadyH.cons rfl (fun K hK => ?_) AllReadyH.nil)
                                  · try simp only [Act.put, List.getElem_toArray, List.getElem_cons_zero, List.getElem_cons_succ, List.setIfInBounds_toArray, List.set_cons_zero, List.set_cons_succ]
                                    go_simp
                                    refine (FR2 _ J6.c).mono ?_
                                    rintro e w6 ⟨rfl, bb⟩
                                    go_wp2_with fail
                                    have J7 := J6.step bb
                                    have hs6 : W0.heap.size ≤ w6.heap.size := bb.size
                                    clear bb
                                    refine hK.out _ _ J7 (fun _ => ?_)
                                    clear hK K
                                    try simp only [Act.put, List.getElem_toArray, List.getElem_cons_zero, List.getElem_cons_succ, List.setIfInBounds_toArray, List.set_cons_zero, List.set_cons_succ]
                                    refine wpAnyH_take (i := 7) (v := .tuple #[.agg (rnC ⟨gi, gs, gn⟩), .bool gb]) rfl (by kernel_rfl) (by kernel_rfl) (by kernel_rfl) (fun _ _ _ h => nomatch h.1) (.inl ⟨by rfl, fun V hV => by go_simp⟩) J7 ?_
                                    try simp only [Act.put, List.getElem_toArray, List.getElem_cons_zero, List.getElem_cons_succ, List.setIfInBounds_toArray, List.set_cons_zero, List.set_cons_succ]
                                    refine wpAnyH_take (i := 8) (v := .agg (rnC ⟨gi, gs, gn⟩)) rfl (by kernel_rfl) (by kernel_rfl) (by kernel_rfl) (fun _ _ _ h => nomatch h.1) (.inl ⟨by rfl, fun V hV => by go_simp⟩) J7 ?_
                                    try simp only [Act.put, List.getElem_toArray, List.getElem_cons_zero, List.getElem_cons_succ, List.setIfInBounds_toArray, List.set_cons_zero, List.set_cons_succ]
                                    refine wpAnyH_take (i := 9) (v := .bool gb) rfl (by kernel_rfl) (by kernel_rfl) (by kernel_rfl) (fun _ _ _ h => nomatch h.1) (.inl ⟨by rfl, fun V hV => by go_simp⟩) J7 ?_
                                    try simp only [Act.put, List.getElem_toArray, List.getElem_cons_zero, List.getElem_cons_succ, List.setIfInBounds_toArray, List.set_cons_zero, List.set_cons_succ]
                                    refine wpAnyH_ready (rs := [10]) (by kernel_rfl) (by simp) ?_
                                    refine AllReadyH.cons rfl (fun K hK => ?_) AllReadyH.nil
                                    try simp only [Act.put, List.getElem_toArray, List.getElem_cons_zero, List.getElem_cons_succ, List.setIfInBounds_toArray, List.set_cons_zero, List.set_cons_succ]
                                    go_simp
                                    have KB := Blk.new w6 (rnC rn0) 52
                                    have ba : Below w6.heap.size w6 (w6.alloc (.cells (rnC rn0) 52)) := (Below.refl _ _).alloc (Nat.le_refl _) _
                                    have J8 := J7.step ba
                                    have hgs : wz.heap.size ≤ w6.heap.size := Nat.le_trans hWz hs6
                                    have hgz := hgs
                                    have hgs2 : wz.heap.size ≤ (w6.alloc (.cells (rnC rn0) 52)).heap.size := by simp; omega
                                    refine hK.out _ _ J8 (fun _ => ?_)
                                    clear hK K
                                    try simp only [Act.put, List.getElem_toArray, List.getElem_cons_zero, List.getElem_cons_succ, List.setIfInBounds_toArray, List.set_cons_zero, List.set_cons_succ]
                                    refine wpAnyH_ready (rs := [11]) (by kernel_rfl) (by simp) ?_
                                    refine AllReadyH.cons rfl (fun K hK => ?_) AllReadyH.nil
                                    try simp only [Act.put, List.getElem_toArray, List.getElem_cons_zero, List.getElem_cons_succ, List.setIfInBounds_toArray, List.set_cons_zero, List.set_cons_succ]
                                    rw [if_pos (by rfl)]
                                    refine wp_store_blk 52 (.tmp 14) (.tmp 216) rfl w6.heap.size (rnC rn0) (rnC ⟨gi, gs, gn⟩) 52 rfl rfl KB rfl (rn_inf _) (rn_one _) ?_
                                    intro w9 k9 n9
                                    have bb : Below wz.heap.size (w6.alloc (.cells (rnC rn0) 52)) w9 := n9.below _ hgz hgs2
                                    have J9 : KS2 w A m c (some ⟨b, off, none⟩) m2 c2 wq.heap.size x w9 := ⟨⟨J8.c.b.trans (bb.mono J5.c.b.size), J8.c.k.below bb J5.c.k.lt⟩, J8.k.below bb J5.k.lt⟩
                                    refine hK.out _ _ J9 (fun _ => ?_)
                                    clear hK K
                                    try simp only [Act.put, List.getElem_toArray, List.getElem_cons_zero, List.getElem_cons_succ, List.setIfInBounds_toArray, List.set_cons_zero, List.set_cons_succ]
                                    refine wpAnyH_take (i := 12) (v := .bool gb) rfl (by kernel_rfl) (by kernel_rfl) (by kernel_rfl) (fun _ _ _ h => nomatch h.1) (.inl ⟨by rfl, fun V hV => by go_simp⟩) J9 ?_
                                    try simp only [Act.put, List.getElem_toArray, List.getElem_cons_zero, List.getElem_cons_succ, List.setIfInBounds_toArray, List.set_cons_zero, List.set_cons_succ]
                                    refine wpAnyH_done (by kernel_rfl) ?_ _
                                    refine ⟨rfl, ?_⟩
                                    cases gb
                                    · have HIB := Lib.hid (show E = false by rw [hI6]; rfl)
                                      clear hI6
                                      go_wp2_with fail
                                      go_ret
                                      exact ⟨by rw [HIB.out]; rfl, J9.c.b⟩
                                    · have HI7 := Lib.hid (show E = ((x.1.q.drop (u + 1)).all (thereB R) && locksB R ((j + 1) + 1) x.1.n (L.drop ((j + 1) + 1))) by rw [hI6]; rfl)
                                      clear hI6
                                      go_wp2_with fail
                                      go_roundw
                                      case rel => exact ⟨u + 1, _, rfl, by omega, by go_num, HI7, J9⟩
                                      case measure => simp [intOf]; omega
                                  · try simp only [Act.put, List.getElem_toArray, List.getElem_cons_zero, List.getElem_cons_succ, List.setIfInBounds_toArray, List.set_cons_zero, List.set_cons_succ]
                                    go_simp
                                    have KB0 := Blk.new W0 (rnC rn0) 52
                                    have ba : Below W0.heap.size W0 (W0.alloc (.cells (rnC rn0) 52)) := (Below.refl _ _).alloc (Nat.le_refl _) _
                                    have J7 := J6.step ba
                                    refine hK.out _ _ J7 (fun _ => ?_)
                                    clear hK K
                                    try simp only [Act.put, List.getElem_toArray, List.getElem_cons_zero, List.getElem_cons_succ, List.setIfInBounds_toArray, List.set_cons_zero, List.set_cons_succ]
                                    refine wpAnyH_ready (rs := [6]) (by kernel_rfl) (by simp) ?_
                                    refine AllReadyH.cons rfl (fun K hK => ?_) AllReadyH.nil
                                    try simp only [Act.put, List.getElem_toArray, List.getElem_cons_zero, List.getElem_cons_succ, List.setIfInBounds_toArray, List.set_cons_zero, List.set_cons_succ]
                                    go_simp
                                    refine (FR2 _ J7.c).mono ?_
                                    rintro e w6 ⟨rfl, bb⟩
                                    go_wp2_with fail
                                    have J8 := J7.step bb
                                    have KB := KB0.below bb KB0.lt
                                    have hgs : wz.heap.size ≤ W0.heap.size := hWz
                                    have hgz := hgs
                                    have hgs2 : wz.heap.size ≤ w6.heap.size := Nat.le_trans hWz (Nat.le_trans (by simp) bb.size)
                                    refine hK.out _ _ J8 (fun _ => ?_)
                                    clear hK K
                                    try simp only [Act.put, List.getElem_toArray, List.getElem_cons_zero, List.getElem_cons_succ, List.setIfInBounds_toArray, List.set_cons_zero, List.set_cons_succ]
                                    refine wpAnyH_take (i := 7) (v := .tuple #[.agg (rnC ⟨gi, gs, gn⟩), .bool gb]) rfl (by kernel_rfl) (by kernel_rfl) (by kernel_rfl) (fun _ _ _ h => nomatch h.1) (.inl ⟨by rfl, fun V hV => by go_simp⟩) J8 ?_
                                    try simp only [Act.put, List.getElem_toArray, List.getElem_cons_zero, List.getElem_cons_succ, List.setIfInBounds_toArray, List.set_cons_zero, List.set_cons_succ]
                                    refine wpAnyH_take (i := 8) (v := .agg (rnC ⟨gi, gs, gn⟩)) rfl (by kernel_rfl) (by kernel_rfl) (by kernel_rfl) (fun _ _ _ h => nomatch h.1) (.inl ⟨by rfl, fun V hV => by go_simp⟩) J8 ?_
                                    try simp only [Act.put, List.getElem_toArray, List.getElem_cons_zero, List.getElem_cons_succ, List.setIfInBounds_toArray, List.set_cons_zero, List.set_cons_succ]
                                    refine wpAnyH_take (i := 9) (v := .bool gb) rfl (by kernel_rfl) (by kernel_rfl) (by kernel_rfl) (fun _ _ _ h => nomatch h.1) (.inl ⟨by rfl, fun V hV => by go_simp⟩) J8 ?_
                                    try simp only [Act.put, List.getElem_toArray, List.getElem_cons_zero, List.getElem_cons_succ, List.setIfInBounds_toArray, List.set_cons_zero, List.set_cons_succ]
                                    refine wpAnyH_ready (rs := [11]) (by kernel_rfl) (by simp) ?_
                                    refine AllReadyH.cons rfl (fun K hK => ?_) AllReadyH.nil
                                    try simp only [Act.put, List.getElem_toArray, List.getElem_cons_zero, List.getElem_cons_succ, List.setIfInBounds_toArray, List.set_cons_zero, List.set_cons_succ]
                                    rw [if_pos (by rfl)]
                                    refine wp_store_blk 52 (.tmp 14) (.tmp 216) rfl W0.heap.size (rnC rn0) (rnC ⟨gi, gs, gn⟩) 52 rfl rfl KB rfl (rn_inf _) (rn_one _) ?_
                                    intro w9 k9 n9
                                    have bb : Below wz.heap.size w6 w9 := n9.below _ hgz hgs2
                                    have J9 : KS2 w A m c (some ⟨b, off, none⟩) m2 c2 wq.heap.size x w9 := ⟨⟨J8.c.b.trans (bb.mono J5.c.b.size), J8.c.k.below bb J5.c.k.lt⟩, J8.k.below bb J5.k.lt⟩
                                    refine hK.out _ _ J9 (fun _ => ?_)
                                    clear hK K
                                    try simp only [Act.put, List.getElem_toArray, List.getElem_cons_zero, List.getElem_cons_succ, List.setIfInBounds_toArray, List.set_cons_zero, List.set_cons_succ]
                                    refine wpAnyH_take (i := 12) (v := .bool gb) rfl (by kernel_rfl) (by kernel_rfl) (by kernel_rfl) (fun _ _ _ h => nomatch h.1) (.inl ⟨by rfl, fun V hV => by go_simp⟩) J9 ?_
                                    try simp only [Act.put, List.getElem_toArray, List.getElem_cons_zero, List.getElem_cons_succ, List.setIfInBounds_toArray, List.set_cons_zero, List.set_cons_succ]
                                    refine wpAnyH_done (by kernel_rfl) ?_ _
                                    refine ⟨rfl, ?_⟩
                                    cases gb
                                    · have HIB := Lib.hid (show E = false by rw [hI6]; rfl)
                                      clear hI6
                                      go_wp2_with fail
                                      go_ret
                                      exact ⟨by rw [HIB.out]; rfl, J9.c.b⟩
                                    · have HI7 := Lib.hid (show E = ((x.1.q.drop (u + 1)).all (thereB R) && locksB R ((j + 1) + 1) x.1.n (L.drop ((j + 1) + 1))) by rw [hI6]; rfl)
                                      clear hI6
                                      go_wp2_with fail
                                      go_roundw
                                      case rel => exact ⟨u + 1, _, rfl, by omega, by go_num, HI7, J9⟩
                                      case measure => simp [intOf]; omega
                                · obtain rfl : u = N := by omega
                                  have hI6 := HI6.out
                                  rw [List.drop_of_length_le (by have := HN.out; omega)] at hI6
                                  have HI7 := Lib.hid (show E = locksB R ((j + 1) + 1) x.1.n (L.drop ((j + 1) + 1)) by rw [hI6]; rfl)
                                  clear hI6 HI6
                                  go_wp2_with fail
                                  go_roundw
                                  case rel => exact ⟨(j + 1) + 1, _, rfl, by omega, by go_num, Lib.hid (by rw [HI7.out, hprev]), J5.c⟩
                                  case measure => simp [intOf]; omega
                          · have HIB := Lib.hid (show E = false by rw [HI3.out, show (fs != 2) = false by simpa using hs2]; rfl)
                            go_wp2_with (first
                              | (refine wpList_load_row rfl 25 (.tmp 1) rfl w.heap.size rfl 25 (scC A m c (some ⟨b, off, none⟩) m2 c2) (0, 0) _ J2.c.k.blk Try.underlying25 rfl (sc_inf _ _ _ _ _ _) ?_)
                              | (refine (FR1 _ J2.c).mono ?_
                                 clear FR1
                                 rintro e w3 ⟨rfl, bb⟩
                                 have J3 := J2.step bb
                                 clear bb)
                              | (refine wpList_store_blk rfl 52 (.tmp 11) (.tmp 184) rfl w3.heap.size (rnC rn0) (rnC ⟨fi, fs, fn⟩) 52 rfl rfl (Blk.new _ _ _) rfl (rn_inf _) (rn_one _) ?_
                                 intro w4 k5 n5
                                 have bb : Below w3.heap.size w3 w4 := ((Below.refl _ w3).alloc (Nat.le_refl _) _).trans (n5.below _ (Nat.le_refl _) (by simp))
                                 have J4 := J3.step bb
                                 have q51 : w4.cell? ⟨w3.heap.size, 1, none⟩ = some (.int .i64 fs) := k5.cell 1
                                 have q41 : w4.cell? ⟨wq.heap.size, 1, none⟩ = some (.int .i64 x.1.o) := J4.k.cell 1
                                 have q42 : w4.cell? ⟨wq.heap.size, 2, none⟩ = some (.slice x.2.1 x.1.q.length x.2.2) := J4.k.cell 2
                                 clear bb n5))
                            go_ret
                            exact ⟨by rw [HIB.out]; rfl, J4.c.b⟩
                      · have HIB := Lib.hid (show E = false by
                          rw [hI]
                          unfold badK
                          simp only [hk0p, h1, h2, h3]
                          first | rfl | simp)
                        clear hI
                        have Jd : KS2 w A m c (some ⟨b, off, none⟩) m2 c2 wq.heap.size x w1.drew := ⟨J1.step (Below.refl _ _).drew, k4.drew⟩
                        have hne : Nonempty (Sig (KS2 w A m c (some ⟨b, off, none⟩) m2 c2 wq.heap.size x)) := ⟨⟨_, Jd⟩⟩
                        refine region_class (S := KS2 w A m c (some ⟨b, off, none⟩) m2 c2 wq.heap.size x) (by kernel_rfl) (by kernel_rfl) Jd ?_
                        have c1 : ∀ s : Sig (KS2 w A m c (some ⟨b, off, none⟩) m2 c2 wq.heap.size x), s.V.cell? ⟨w.heap.size, 1, none⟩ = some (.slice (some ⟨b, off, none⟩) m2 c2) := fun s => s.h.c.c1
                        have d0 : ∀ s : Sig (KS2 w A m c (some ⟨b, off, none⟩) m2 c2 wq.heap.size x), s.V.cell? ⟨wq.heap.size, 0, none⟩ = some (.int .i64 x.1.n) := fun s => s.h.k.cell 0
                        have p0 : ∀ s : Sig (KS2 w A m c (some ⟨b, off, none⟩) m2 c2 wq.heap.size x), s.V.cell? ⟨b, off + j * 3, none⟩ = some (.int .i64 p) := fun s => (s.h.c.b.cell (p := ⟨b, off + j * 3, none⟩) hb).trans hcp
                        clear q1 q40
                        try simp only [Act.put]
                        repeat (go_big_quiet_step (fail))
                        refine wpQuiet_nil ?_
                        rintro _ ⟨s7, rfl⟩
                        have J2 := s7.h
                        clear c1 d0 hne Jd J1 k4
                        generalize s7.V = w2 at J2 ⊢
                        go_wp2_with fail
                        go_ret
                        exact ⟨by rw [HIB.out]; rfl, J2.c.b⟩
                    · have HIB := Lib.hid (show E = false by
                        rw [hI]
                        unfold badK
                        simp only [hk0p, h1, h2]
                        first | rfl | simp)
                      clear hI
                      have Jd : KS2 w A m c (some ⟨b, off, none⟩) m2 c2 wq.heap.size x w1.drew := ⟨J1.step (Below.refl _ _).drew, k4.drew⟩
                      have hne : Nonempty (Sig (KS2 w A m c (some ⟨b, off, none⟩) m2 c2 wq.heap.size x)) := ⟨⟨_, Jd⟩⟩
                      refine region_class (S := KS2 w A m c (some ⟨b, off, none⟩) m2 c2 wq.heap.size x) (by kernel_rfl) (by kernel_rfl) Jd ?_
                      have c1 : ∀ s : Sig (KS2 w A m c (some ⟨b, off, none⟩) m2 c2 wq.heap.size x), s.V.cell? ⟨w.heap.size, 1, none⟩ = some (.slice (some ⟨b, off, none⟩) m2 c2) := fun s => s.h.c.c1
                      have d0 : ∀ s : Sig (KS2 w A m c (some ⟨b, off, none⟩) m2 c2 wq.heap.size x), s.V.cell? ⟨wq.heap.size, 0, none⟩ = some (.int .i64 x.1.n) := fun s => s.h.k.cell 0
                      have p0 : ∀ s : Sig (KS2 w A m c (some ⟨b, off, none⟩) m2 c2 wq.heap.size x), s.V.cell? ⟨b, off + j * 3, none⟩ = some (.int .i64 p) := fun s => (s.h.c.b.cell (p := ⟨b, off + j * 3, none⟩) hb).trans hcp
                      clear q1 q40
                      try simp only [Act.put]
                      repeat (go_big_quiet_step (fail))
                      refine wpQuiet_nil ?_
                      rintro _ ⟨s7, rfl⟩
                      have J2 := s7.h
                      clear c1 d0 hne Jd J1 k4
                      generalize s7.V = w2 at J2 ⊢
                      go_wp2_with fail
                      go_ret
                      exact ⟨by rw [HIB.out]; rfl, J2.c.b⟩
                  · have HIB := Lib.hid (show E = false by
                      rw [hI]
                      unfold badK
                      simp only [hk0p, h1]
                      first | rfl | simp)
                    clear hI
                    have Jd : KS2 w A m c (some ⟨b, off, none⟩) m2 c2 wq.heap.size x w1.drew := ⟨J1.step (Below.refl _ _).drew, k4.drew⟩
                    have hne : Nonempty (Sig (KS2 w A m c (some ⟨b, off, none⟩) m2 c2 wq.heap.size x)) := ⟨⟨_, Jd⟩⟩
                    refine region_class (S := KS2 w A m c (some ⟨b, off, none⟩) m2 c2 wq.heap.size x) (by kernel_rfl) (by kernel_rfl) Jd ?_
                    have c1 : ∀ s : Sig (KS2 w A m c (some ⟨b, off, none⟩) m2 c2 wq.heap.size x), s.V.cell? ⟨w.heap.size, 1, none⟩ = some (.slice (some ⟨b, off, none⟩) m2 c2) := fun s => s.h.c.c1
                    have d0 : ∀ s : Sig (KS2 w A m c (some ⟨b, off, none⟩) m2 c2 wq.heap.size x), s.V.cell? ⟨wq.heap.size, 0, none⟩ = some (.int .i64 x.1.n) := fun s => s.h.k.cell 0
                    have p0 : ∀ s : Sig (KS2 w A m c (some ⟨b, off, none⟩) m2 c2 wq.heap.size x), s.V.cell? ⟨b, off + j * 3, none⟩ = some (.int .i64 p) := fun s => (s.h.c.b.cell (p := ⟨b, off + j * 3, none⟩) hb).trans hcp
                    clear q1 q40
                    try simp only [Act.put]
                    repeat (go_big_quiet_step (fail))
                    refine wpQuiet_nil ?_
                    rintro _ ⟨s7, rfl⟩
                    have J2 := s7.h
                    clear c1 d0 hne Jd J1 k4
                    generalize s7.V = w2 at J2 ⊢
                    go_wp2_with fail
                    go_ret
                    exact ⟨by rw [HIB.out]; rfl, J2.c.b⟩
            · obtain rfl : k = m2 := by omega
              have hI := HI.out
              rw [List.drop_of_length_le (by have := HM2.out; omega)] at hI
              have HI1 := Lib.hid (show E = true by rw [hI]; rfl)
              clear hI HI
              go_wp2_with fail
              go_ret
              exact ⟨by rw [HI1.out]; rfl, J.b⟩
    · have hd40 : decide ((40 : Int) < (m2 : Int)) = true := by have := HM2.out; simp; omega
      have hr : E = false := by rw [← hE, decide_eq_true h8, decide_eq_false h40]; rfl
      clear h8 h40
      clear hE HS FR
      go_enter Try.func26, Try.ntmps26
      go_wp2_with fail
      go_ret
      exact ⟨by rw [hr]; rfl, J0.b⟩
  · have hd8 : decide ((8 : Int) < (m : Int)) = true := by have := HM.out; simp; omega
    have hr : E = false := by rw [← hE, decide_eq_false h8]; rfl
    clear h8
    clear hE HS FR
    go_enter Try.func26, Try.ntmps26
    go_wp2_with fail
    go_ret
    exact ⟨by rw [hr]; rfl, J0.b⟩
end Go.Proofs.Ytfohifnbohdbcaa

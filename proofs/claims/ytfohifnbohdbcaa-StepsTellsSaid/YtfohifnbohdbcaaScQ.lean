/-
  steps.queues.
-/
import Derived.Test.YtfohifnbohdbcaaScE
namespace Go.Proofs.Ytfohifnbohdbcaa
open Go.RowKit Go.Shelf
attribute [local go_sem] Oper.semAt_some
set_option linter.unusedVariables false
set_option linter.unusedSimpArgs false

/-- A thread that waits for a lock. -/
def wfB (R : List Rn) (n id : Int) : Bool := match runF R id with | some x => sameR x ⟨id, 1, n⟩ | none => false
/-- Those who wait in a Queue, from a place on. -/
def qB (R : List Rn) (n : Int) : List Int → List Int → Bool
  | _, [] => true
  | p, x :: l => wfB R n x && (!(p.contains x) && qB R n (p ++ [x]) l)
def lockQ (R : List Rn) (x : Kw) : Bool := qB R x.1.n [] x.1.q
def lensK (L : List Kw) : Nat := (L.map (·.1.q.length)).sum
/-- The Queues are those who wait. -/
def queB (R : List Rn) (L : List Kw) : Bool := L.all (lockQ R) && ((R.countP waitB : Int) - (lensK L : Nat) == 0)
/-- What is still owed of locks, when so many are left. -/
def restQ (R : List Rn) (L : List Kw) (p : Int) : Bool := L.all (lockQ R) && (p - (lensK L : Nat) == 0)
theorem restQ_cons (R : List Rn) (x : Kw) (L : List Kw) (p : Int) : restQ R (x :: L) p = (lockQ R x && restQ R L (p - (x.1.q.length : Nat))) := by
  unfold restQ lensK
  rw [List.all_cons, List.map_cons, List.sum_cons, Bool.and_assoc, Int.natCast_add, ← Int.sub_sub]
theorem restQ_nil (R : List Rn) (p : Int) : restQ R [] p = (p == 0) := by
  unfold restQ lensK
  rw [List.all_nil, Bool.true_and, List.map_nil, List.sum_nil]
  show (p - 0 == 0) = _
  rw [Int.sub_zero]
structure QS (w : World) (A : Option Addr) (m c : Nat) (A2 : Option Addr) (m2 c2 : Nat) (gk : Nat) (x : Kw) (V : World) : Prop where
  bel : Below w.heap.size w V
  ks : Blk V w.heap.size (scC A m c A2 m2 c2) 25
  kk : Blk V gk (kwC x) 48
theorem QS.step {w V V' : World} {A : Option Addr} {m c : Nat} {A2 : Option Addr} {m2 c2 gk : Nat} {x : Kw} (h : QS w A m c A2 m2 c2 gk x V) (b : Below V.heap.size V V') : QS w A m c A2 m2 c2 gk x V' := ⟨h.bel.trans (b.mono h.bel.size), h.ks.below b h.ks.lt, h.kk.below b h.kk.lt⟩
set_option maxRecDepth 100000 in
set_option maxHeartbeats 8000000 in
theorem queues_sc (A : Option Addr) (m c : Nat) (R : List Rn) (A2 : Option Addr) (m2 c2 : Nat) (L : List Kw) (w : World) (h : Sc w w.heap.size A m c R A2 m2 c2 L) (hu : UpR R) :
    Calls Try.prog 61 #[scV A m c A2 m2 c2] w fun e w' => e = .returned (.bool (queB R L)) ∧ Below w.heap.size w w' := by
  have k1 := Blk.new w (scC A m c A2 m2 c2) 25
  have B0 := (Below.refl w.heap.size w).alloc (Nat.le_refl _) (.cells (scC A m c A2 m2 c2) 25)
  have q0 : (w.alloc (.cells (scC A m c A2 m2 c2) 25)).cell? ⟨w.heap.size, 0, none⟩ = some (.slice A m c) := k1.cell 0
  have HM := Lib.hid h.len
  have HM2 := Lib.hid h.len2
  have HS := Lib.hid h
  have RN := Lib.hid (fun (id : Int) (V : World) (hV : Below w.heap.size w V) => run_sc id (h.on hV) hu)
  have HU := Lib.hid hu
  obtain ⟨E, hE⟩ : ∃ E, queB R L = E := ⟨_, rfl⟩
  rw [hE]
  have HE := Lib.hid (show E = restQ R L (R.countP waitB : Int) from hE.symm)
  have hm6 : m ≤ 100000 := h.lim
  have hm26 : m2 ≤ 100000 := h.lim2
  clear hE h hu
  unfold scV at *
  go_enter Try.func61, Try.ntmps61
  go_wp2_with fail
  clear q0
  go_loopw [3, 15] (fun p i wr' => ∃ (k : Nat) (p0 : Nat) (wr : World), wr = wr' ∧ k ≤ m ∧ p0 ≤ k ∧ p = .int .i64 p0 ∧ i = .int .i64 k ∧ Hid (p0 = (R.take k).countP waitB) ∧ Below w.heap.size w wr ∧ Blk wr w.heap.size (scC A m c A2 m2 c2) 25) (fun _ i _ => m - (intOf i).toNat)
  case atStart => exact ⟨0, 0, _, rfl, Nat.zero_le _, Nat.le_refl _, rfl, rfl, Lib.hid (by simp), B0, k1⟩
  case round =>
    clear B0 k1
    obtain ⟨k, p0, wr, hwr, hk, hpk, rfl, rfl, HI, hB, kB⟩ := hrel
    subst hwr
    by_cases hlt : k < m
    · have hlt' : (k : Int) < (m : Int) := by omega
      have hkl : k < R.length := by have := HM.out; omega
      obtain ⟨b, off, rfl, hb, hc⟩ := (HS.out.rs.below hB (Nat.le_refl _)) k hkl
      have hI : p0 + (if waitB (R.getD k rn0) = true then 1 else 0) = (R.take (k + 1)).countP waitB := by
        rw [List.take_succ_eq_append_getElem hkl, List.countP_append, ← HI.out, show R.getD k rn0 = R[k] by simp [List.getD, hkl]]
        simp [List.countP_cons]
      clear HI hkl
      generalize R.getD k rn0 = x at hc hI
      have WA := Lib.hid (waits_sc x)
      unfold rnV at WA
      have hs3 : (rnC x).size = 3 := rn_size x
      cases hx : waitB x
      · rw [hx] at WA hI
        have HI := Lib.hid hI
        clear hI hx
        go_wp2_with (first
          | (refine wpList_load_mid rfl 52 (.tmp 17) rfl b (off + k * 3) rfl (rnC x).toList _ hc Try.underlying52 rfl (rn_infL x) ?_)
          | (refine wpList_store_blk rfl 52 (.tmp 5) (.tmp 18) rfl wr.heap.size (rnC rn0) (rnC x) 52 rfl rfl (Blk.new _ _ _) rfl (rn_inf x) (rn_one x) ?_
             intro w1 k2 n1
             have bb : Below wr.heap.size wr w1 := ((Below.refl _ wr).alloc (Nat.le_refl _) _).trans (n1.below _ (Nat.le_refl _) (by simp))
             have hB1 := hB.trans (bb.mono hB.size)
             have kB1 := kB.below bb kB.lt
             clear bb n1 hc)
          | (refine wpList_load_row rfl 52 (.tmp 5) rfl wr.heap.size rfl 52 (rnC x) (0, 0) _ k2.blk Try.underlying52 rfl (rn_inf x) ?_)
          | (refine (WA.out _).mono ?_
             rintro e w2 ⟨rfl, bb⟩
             have hB2 := hB1.trans (bb.mono hB1.size)
             have kB2 := kB1.below bb kB1.lt
             clear bb))
        go_roundw
        case rel => exact ⟨k + 1, p0, _, rfl, by omega, by omega, rfl, by go_num, Lib.hid HI.out, hB2, kB2⟩
        case measure => simp [intOf]; omega
      · rw [hx] at WA hI
        have HI := Lib.hid hI
        clear hI hx
        go_wp2_with (first
          | (refine wpList_load_mid rfl 52 (.tmp 17) rfl b (off + k * 3) rfl (rnC x).toList _ hc Try.underlying52 rfl (rn_infL x) ?_)
          | (refine wpList_store_blk rfl 52 (.tmp 5) (.tmp 18) rfl wr.heap.size (rnC rn0) (rnC x) 52 rfl rfl (Blk.new _ _ _) rfl (rn_inf x) (rn_one x) ?_
             intro w1 k2 n1
             have bb : Below wr.heap.size wr w1 := ((Below.refl _ wr).alloc (Nat.le_refl _) _).trans (n1.below _ (Nat.le_refl _) (by simp))
             have hB1 := hB.trans (bb.mono hB.size)
             have kB1 := kB.below bb kB.lt
             clear bb n1 hc)
          | (refine wpList_load_row rfl 52 (.tmp 5) rfl wr.heap.size rfl 52 (rnC x) (0, 0) _ k2.blk Try.underlying52 rfl (rn_inf x) ?_)
          | (refine (WA.out _).mono ?_
             rintro e w2 ⟨rfl, bb⟩
             have hB2 := hB1.trans (bb.mono hB1.size)
             have kB2 := kB1.below bb kB1.lt
             clear bb))
        go_roundw
        case rel => exact ⟨k + 1, p0 + 1, _, rfl, by omega, by omega, by go_num, by go_num, Lib.hid HI.out, hB2, kB2⟩
        case measure => simp [intOf]; omega
    · obtain rfl : k = m := by omega
      have hI := HI.out
      rw [List.take_of_length_le (by have := HM.out; omega)] at hI
      have HI2 := Lib.hid (show E = restQ R L (p0 : Int) by rw [hI]; exact HE.out)
      have q1 : wr.cell? ⟨w.heap.size, 1, none⟩ = some (.slice A2 m2 c2) := kB.cell 1
      clear hI HI HE hlt
      go_wp2_with fail
      clear q1
      go_loopw [3, 27] (fun p i wr' => ∃ (j : Nat) (p1 : Int) (wq : World), wq = wr' ∧ j ≤ m2 ∧ p1 ≤ 1000000 ∧ -((j : Int) * 1000000) ≤ p1 ∧ p = .int .i64 p1 ∧ i = .int .i64 j ∧ Hid (E = restQ R (L.drop j) p1) ∧ Below w.heap.size w wq ∧ Blk wq w.heap.size (scC A k c A2 m2 c2) 25) (fun _ i _ => m2 - (intOf i).toNat)
      case atStart => exact ⟨0, p0, _, rfl, Nat.zero_le _, by omega, by omega, rfl, rfl, Lib.hid (by rw [List.drop_zero]; exact HI2.out), hB, kB⟩
      case round =>
        clear hB kB HI2
        obtain ⟨j, p1, wq, hwq, hj, hp1, hp1', rfl, rfl, HI, hB, kB⟩ := hrel
        subst hwq
        by_cases hlt : j < m2
        · have hlt' : (j : Int) < (m2 : Int) := by omega
          have hjl : j < L.length := by have := HM2.out; omega
          obtain ⟨b, off, hA2, hb, hc⟩ := (HS.out.ks.below hB (Nat.le_refl _)) j hjl
          have hq := HS.out.q' hjl
          have hI := HI.out
          rw [List.drop_eq_getElem_cons hjl, restQ_cons, show L[j] = L.getD j kw0 by simp [List.getD, hjl]] at hI
          clear HI hjl
          generalize L.getD j kw0 = x at hc hI hq
          have HQ := Lib.hid hq
          have hql : x.1.q.length ≤ 1000000 := hq.l
          have hqe : x.1.q.length ≤ x.2.2 := hq.le
          unfold lockQ at hI
          have HI3 := Lib.hid hI
          clear hq hI
          have hs3 : (kwC x).size = 3 := kw_size x
          subst hA2
          go_wp2_with (first
            | (refine wpList_load_mid rfl 48 (.tmp 29) rfl b (off + j * 3) rfl (kwC x).toList _ hc Try.underlying48 rfl (kw_infL x) ?_)
            | (refine wpList_store_blk rfl 48 (.tmp 7) (.tmp 30) rfl wq.heap.size (kwC kw0) (kwC x) 48 rfl rfl (Blk.new _ _ _) rfl (kw_inf x) (kw_one x) ?_
               intro w1 k2 n1
               have bb : Below wq.heap.size wq w1 := ((Below.refl _ wq).alloc (Nat.le_refl _) _).trans (n1.below _ (Nat.le_refl _) (by simp))
               have hB1 := hB.trans (bb.mono hB.size)
               have kB1 := kB.below bb kB.lt
               have q42 : w1.cell? ⟨wq.heap.size, 2, none⟩ = some (.slice x.2.1 x.1.q.length x.2.2) := k2.cell 2
               clear bb n1 hc))
          clear q42
          obtain ⟨N, hN⟩ : ∃ N, x.1.q.length = N := ⟨_, rfl⟩
          rw [hN] at hql hqe
          have HN := Lib.hid hN
          have QW : QS w A k c (some ⟨b, off, none⟩) m2 c2 wq.heap.size x w1 := ⟨hB1, kB1, k2⟩
          clear hB1 kB1 k2 hB kB
          obtain ⟨XA, hXA⟩ : ∃ a, x.2.1 = a := ⟨_, rfl⟩
          simp only [hN, hXA]
          have HXA := Lib.hid hXA
          clear hN hXA
          go_loopw [3, 34] (fun p i wr' => ∃ (u : Nat) (p2 : Int) (wz : World), wz = wr' ∧ u ≤ N ∧ p2 = p1 - u ∧ p = .int .i64 p2 ∧ i = .int .i64 u ∧ Hid (E = (qB R x.1.n (x.1.q.take u) (x.1.q.drop u) && restQ R (L.drop (j + 1)) (p1 - (x.1.q.length : Nat)))) ∧ Hid (QS w A k c (some ⟨b, off, none⟩) m2 c2 wq.heap.size x wz)) (fun _ i _ => N - (intOf i).toNat)
          case atStart => exact ⟨0, p1, _, rfl, Nat.zero_le _, by simp, rfl, rfl, Lib.hid (by rw [List.take_zero, List.drop_zero]; exact HI3.out), Lib.hid QW⟩
          case round =>
            clear QW HI3
            obtain ⟨u, p2, wz, hwz, hu, hp2, rfl, rfl, HI, HQS⟩ := hrel
            subst hwz
            by_cases hun : u < N
            · have hun' : (u : Int) < (N : Int) := by omega
              have hul : u < x.1.q.length := by have := HN.out; omega
              obtain ⟨bq, oq, hAq, hbq, hcq⟩ := (HQ.out.ri.below HQS.out.bel (Nat.le_refl _)) u hul
              obtain rfl : XA = some ⟨bq, oq, none⟩ := HXA.out.symm.trans hAq
              have hI := HI.out
              rw [List.drop_eq_getElem_cons hul, qB, show x.1.q[u] = x.1.q.getD u 0 by simp [List.getD, hul]] at hI
              have HTK := Lib.hid (show x.1.q.take (u + 1) = x.1.q.take u ++ [x.1.q.getD u 0] by rw [List.take_succ_eq_append_getElem hul]; simp [List.getD, hul])
              have HTL := Lib.hid (show (x.1.q.take u).length = u by rw [List.length_take]; omega)
              clear HI hul
              generalize x.1.q.getD u 0 = id at hcq hI HTK
              have RN1 := Lib.hid (RN.out id)
              obtain ⟨at_, hat⟩ : ∃ a, lessP (numsR R) id = a := ⟨_, rfl⟩
              obtain ⟨ct, hct⟩ : ∃ c, (numsR R).contains id = c := ⟨_, rfl⟩
              rw [hat, hct] at RN1
              have hp2b : -1000000000000 ≤ p2 := by have := hp1'; have h1 : (j : Int) * 1000000 ≤ 100000000000 := by omega
                                                    omega
              have hp2c : p2 ≤ 1000000 := by omega
              cases ct
              · have hI : E = false := by
                  rw [hI]
                  unfold wfB
                  rw [runF_none hct]
                  rfl
                clear hat hct
                go_wp2_with (first
                  | (refine wpList_load_row rfl 25 (.tmp 1) rfl w.heap.size rfl 25 (scC A k c (some ⟨b, off, none⟩) m2 c2) (0, 0) _ HQS.out.ks.blk Try.underlying25 rfl (sc_inf _ _ _ _ _ _) ?_)
                  | (refine (RN1.out _ HQS.out.bel).mono ?_
                     clear RN1
                     rintro e w3 ⟨rfl, bb⟩
                     have J := (HQS.out.step bb).step ((Below.refl _ _).drew)
                     clear bb))
                have hne : Nonempty (Sig (QS w A k c (some ⟨b, off, none⟩) m2 c2 wq.heap.size x)) := ⟨⟨_, J⟩⟩
                refine region_class (S := QS w A k c (some ⟨b, off, none⟩) m2 c2 wq.heap.size x) (by kernel_rfl) (by kernel_rfl) J ?_
                have hc0 : ∀ s : Sig (QS w A k c (some ⟨b, off, none⟩) m2 c2 wq.heap.size x), s.V.cell? ⟨w.heap.size, 0, none⟩ = some (.slice A k c) := fun s => s.h.ks.cell 0
                have hk0 : ∀ s : Sig (QS w A k c (some ⟨b, off, none⟩) m2 c2 wq.heap.size x), s.V.cell? ⟨wq.heap.size, 0, none⟩ = some (.int .i64 x.1.n) := fun s => s.h.kk.cell 0
                have hk2 : ∀ s : Sig (QS w A k c (some ⟨b, off, none⟩) m2 c2 wq.heap.size x), s.V.cell? ⟨wq.heap.size, 2, none⟩ = some (.slice x.2.1 x.1.q.length x.2.2) := fun s => s.h.kk.cell 2
                repeat (go_big_quiet_step (fail))
                refine wpQuiet_nil ?_
                rintro _ ⟨s7, rfl⟩
                have J7 := s7.h
                clear hne hc0 hk0 hk2 J
                go_wp2_with fail
                go_ret
                exact ⟨by rw [hI]; rfl, J7.bel⟩
              · obtain ⟨hlt3, _, hf⟩ := runF_some HU.out hct
                rw [hat] at hf hlt3
                have hI : E = (sameR (R.getD at_ rn0) ⟨id, 1, x.1.n⟩ && (!((x.1.q.take u).contains id) && qB R x.1.n (x.1.q.take (u + 1)) (x.1.q.drop (u + 1))) && restQ R (L.drop (j + 1)) (p1 - (x.1.q.length : Nat))) := by
                  rw [hI, HTK.out]
                  unfold wfB
                  rw [hf]
                obtain ⟨b2, off2, hA, hb2, hcR⟩ := HS.out.rs _ hlt3
                subst hA
                have hakm : (at_ : Int) < (k : Int) := by have := HM.out; omega
                clear hf hct hlt3 hat
                generalize R.getD at_ rn0 = y at hI hcR
                obtain ⟨sb, hsb⟩ : ∃ s, sameR y ⟨id, 1, x.1.n⟩ = s := ⟨_, rfl⟩
                obtain ⟨cb, hcb⟩ : ∃ s, (x.1.q.take u).contains id = s := ⟨_, rfl⟩
                rw [hsb, hcb] at hI
                have HSB := Lib.hid hsb
                have hrg : ∀ V, QS w (some ⟨b2, off2, none⟩) k c (some ⟨b, off, none⟩) m2 c2 wq.heap.size x V → V.rangeAt b2 (off2 + at_ * 3) (rnC y).toList := fun V hV => range_below3 hcR hV.bel hb2
                have CQ := Lib.hid (fun (V : World) (hV : QS w (some ⟨b2, off2, none⟩) k c (some ⟨b, off, none⟩) m2 c2 wq.heap.size x V) => (containsZq x.2.1 u x.2.2 (x.1.q.take u) id V (fun i hi => by
                  have hi' : i < u := by rw [HTL.out] at hi; exact hi
                  obtain ⟨b7, o7, e7, h7, c7⟩ := ((HQ.out.ri.below hV.bel (Nat.le_refl _)).more hV.bel.size) i (by have := HN.out; omega)
                  refine ⟨b7, o7, e7, h7, ?_⟩
                  rw [c7]
                  simp [List.getD, List.getElem?_take, hi']) HTL.out.symm (by omega) (by omega)).mono (R' := fun e V' => e = .returned (.bool cb) ∧ QS w (some ⟨b2, off2, none⟩) k c (some ⟨b, off, none⟩) m2 c2 wq.heap.size x V') (by rintro e V' ⟨rfl, rfl⟩; exact ⟨by rw [hcb], hV⟩))
                rw [hAq] at CQ
                have HI2 := Lib.hid hI
                have HHH := Lib.hid hcb
                clear hI hcb hsb hcR
                cases sb
                · have hI : E = false := HI2.out
                  go_wp2_with (first
                    | (refine wpList_load_row rfl 25 (.tmp 1) rfl w.heap.size rfl 25 (scC (some ⟨b2, off2, none⟩) k c (some ⟨b, off, none⟩) m2 c2) (0, 0) _ HQS.out.ks.blk Try.underlying25 rfl (sc_inf _ _ _ _ _ _) ?_)
                    | (refine (RN1.out _ HQS.out.bel).mono ?_
                       clear RN1
                       rintro e w3 ⟨rfl, bb⟩
                       have J := (HQS.out.step bb).step ((Below.refl _ _).drew)
                       clear bb))
                  have hne : Nonempty (Sig (QS w (some ⟨b2, off2, none⟩) k c (some ⟨b, off, none⟩) m2 c2 wq.heap.size x)) := ⟨⟨_, J⟩⟩
                  refine region_class (S := QS w (some ⟨b2, off2, none⟩) k c (some ⟨b, off, none⟩) m2 c2 wq.heap.size x) (by kernel_rfl) (by kernel_rfl) J ?_
                  have hc0 : ∀ s : Sig (QS w (some ⟨b2, off2, none⟩) k c (some ⟨b, off, none⟩) m2 c2 wq.heap.size x), s.V.cell? ⟨w.heap.size, 0, none⟩ = some (.slice (some ⟨b2, off2, none⟩) k c) := fun s => s.h.ks.cell 0
                  have hk0 : ∀ s : Sig (QS w (some ⟨b2, off2, none⟩) k c (some ⟨b, off, none⟩) m2 c2 wq.heap.size x), s.V.cell? ⟨wq.heap.size, 0, none⟩ = some (.int .i64 x.1.n) := fun s => s.h.kk.cell 0
                  have hk2 : ∀ s : Sig (QS w (some ⟨b2, off2, none⟩) k c (some ⟨b, off, none⟩) m2 c2 wq.heap.size x), s.V.cell? ⟨wq.heap.size, 2, none⟩ = some (.slice (some ⟨bq, oq, none⟩) x.1.q.length x.2.2) := fun s => by rw [← hAq]; exact s.h.kk.cell 2
                  repeat (first
                    | (refine class_load_mid (by rfl) 52 (.tmp 51) rfl b2 (off2 + at_ * 3) rfl (rnC y).toList _ hrg Try.underlying52 rfl (rn_infL y) ?_; simp only [Act.put, List.setIfInBounds_toArray, List.set_cons_zero, List.set_cons_succ])
                    | (refine class_neq_rn (by rfl) (.tmp 52) (.tmp 56) rfl y ⟨id, 1, x.1.n⟩ rfl rfl _ HSB.out ?_; simp only [Act.put, List.setIfInBounds_toArray, List.set_cons_zero, List.set_cons_succ])
                    | go_big_quiet_step (first | (go_at_call 82; exact class_call _ CQ.out)))
                  refine wpQuiet_nil ?_
                  rintro _ ⟨s7, rfl⟩
                  have J7 := s7.h
                  clear hne hc0 hk0 hk2 J
                  go_wp2_with fail
                  go_ret
                  exact ⟨by rw [hI]; rfl, J7.bel⟩
                · cases cb
                  · have hI := HI2.out
                    rw [Bool.true_and, Bool.not_false, Bool.true_and] at hI
                    have HI3 := Lib.hid hI
                    clear hI
                    go_wp2_with (first
                      | (refine wpList_load_row rfl 25 (.tmp 1) rfl w.heap.size rfl 25 (scC (some ⟨b2, off2, none⟩) k c (some ⟨b, off, none⟩) m2 c2) (0, 0) _ HQS.out.ks.blk Try.underlying25 rfl (sc_inf _ _ _ _ _ _) ?_)
                      | (refine (RN1.out _ HQS.out.bel).mono ?_
                         clear RN1
                         rintro e w3 ⟨rfl, bb⟩
                         have J := (HQS.out.step bb).step ((Below.refl _ _).drew)
                         clear bb))
                    have hne : Nonempty (Sig (QS w (some ⟨b2, off2, none⟩) k c (some ⟨b, off, none⟩) m2 c2 wq.heap.size x)) := ⟨⟨_, J⟩⟩
                    refine region_class (S := QS w (some ⟨b2, off2, none⟩) k c (some ⟨b, off, none⟩) m2 c2 wq.heap.size x) (by kernel_rfl) (by kernel_rfl) J ?_
                    have hc0 : ∀ s : Sig (QS w (some ⟨b2, off2, none⟩) k c (some ⟨b, off, none⟩) m2 c2 wq.heap.size x), s.V.cell? ⟨w.heap.size, 0, none⟩ = some (.slice (some ⟨b2, off2, none⟩) k c) := fun s => s.h.ks.cell 0
                    have hk0 : ∀ s : Sig (QS w (some ⟨b2, off2, none⟩) k c (some ⟨b, off, none⟩) m2 c2 wq.heap.size x), s.V.cell? ⟨wq.heap.size, 0, none⟩ = some (.int .i64 x.1.n) := fun s => s.h.kk.cell 0
                    have hk2 : ∀ s : Sig (QS w (some ⟨b2, off2, none⟩) k c (some ⟨b, off, none⟩) m2 c2 wq.heap.size x), s.V.cell? ⟨wq.heap.size, 2, none⟩ = some (.slice (some ⟨bq, oq, none⟩) x.1.q.length x.2.2) := fun s => by rw [← hAq]; exact s.h.kk.cell 2
                    repeat (first
                      | (refine class_load_mid (by rfl) 52 (.tmp 51) rfl b2 (off2 + at_ * 3) rfl (rnC y).toList _ hrg Try.underlying52 rfl (rn_infL y) ?_; simp only [Act.put, List.setIfInBounds_toArray, List.set_cons_zero, List.set_cons_succ])
                      | (refine class_neq_rn (by rfl) (.tmp 52) (.tmp 56) rfl y ⟨id, 1, x.1.n⟩ rfl rfl _ HSB.out ?_; simp only [Act.put, List.setIfInBounds_toArray, List.set_cons_zero, List.set_cons_succ])
                      | go_big_quiet_step (first | (go_at_call 82; exact class_call _ CQ.out)))
                    refine wpQuiet_nil ?_
                    rintro _ ⟨s7, rfl⟩
                    have J7 := s7.h
                    clear hne hc0 hk0 hk2 J
                    go_wp2_with fail
                    go_roundw
                    case rel => exact ⟨u + 1, p2 - 1, _, rfl, by omega, by omega, by go_num, by go_num, Lib.hid HI3.out, Lib.hid J7⟩
                    case measure => simp [intOf]; omega
                  · have hI : E = false := HI2.out
                    go_wp2_with (first
                      | (refine wpList_load_row rfl 25 (.tmp 1) rfl w.heap.size rfl 25 (scC (some ⟨b2, off2, none⟩) k c (some ⟨b, off, none⟩) m2 c2) (0, 0) _ HQS.out.ks.blk Try.underlying25 rfl (sc_inf _ _ _ _ _ _) ?_)
                      | (refine (RN1.out _ HQS.out.bel).mono ?_
                         clear RN1
                         rintro e w3 ⟨rfl, bb⟩
                         have J := (HQS.out.step bb).step ((Below.refl _ _).drew)
                         clear bb))
                    have hne : Nonempty (Sig (QS w (some ⟨b2, off2, none⟩) k c (some ⟨b, off, none⟩) m2 c2 wq.heap.size x)) := ⟨⟨_, J⟩⟩
                    refine region_class (S := QS w (some ⟨b2, off2, none⟩) k c (some ⟨b, off, none⟩) m2 c2 wq.heap.size x) (by kernel_rfl) (by kernel_rfl) J ?_
                    have hc0 : ∀ s : Sig (QS w (some ⟨b2, off2, none⟩) k c (some ⟨b, off, none⟩) m2 c2 wq.heap.size x), s.V.cell? ⟨w.heap.size, 0, none⟩ = some (.slice (some ⟨b2, off2, none⟩) k c) := fun s => s.h.ks.cell 0
                    have hk0 : ∀ s : Sig (QS w (some ⟨b2, off2, none⟩) k c (some ⟨b, off, none⟩) m2 c2 wq.heap.size x), s.V.cell? ⟨wq.heap.size, 0, none⟩ = some (.int .i64 x.1.n) := fun s => s.h.kk.cell 0
                    have hk2 : ∀ s : Sig (QS w (some ⟨b2, off2, none⟩) k c (some ⟨b, off, none⟩) m2 c2 wq.heap.size x), s.V.cell? ⟨wq.heap.size, 2, none⟩ = some (.slice (some ⟨bq, oq, none⟩) x.1.q.length x.2.2) := fun s => by rw [← hAq]; exact s.h.kk.cell 2
                    repeat (first
                      | (refine class_load_mid (by rfl) 52 (.tmp 51) rfl b2 (off2 + at_ * 3) rfl (rnC y).toList _ hrg Try.underlying52 rfl (rn_infL y) ?_; simp only [Act.put, List.setIfInBounds_toArray, List.set_cons_zero, List.set_cons_succ])
                      | (refine class_neq_rn (by rfl) (.tmp 52) (.tmp 56) rfl y ⟨id, 1, x.1.n⟩ rfl rfl _ HSB.out ?_; simp only [Act.put, List.setIfInBounds_toArray, List.set_cons_zero, List.set_cons_succ])
                      | go_big_quiet_step (first | (go_at_call 82; exact class_call _ CQ.out)))
                    refine wpQuiet_nil ?_
                    rintro _ ⟨s7, rfl⟩
                    have J7 := s7.h
                    clear hne hc0 hk0 hk2 J
                    go_wp2_with fail
                    go_ret
                    exact ⟨by rw [hI]; rfl, J7.bel⟩
            · obtain rfl : u = N := by omega
              have hI := HI.out
              rw [List.drop_of_length_le (by have := HN.out; omega)] at hI
              have HI4 := Lib.hid (show E = restQ R (L.drop (j + 1)) (p1 - (x.1.q.length : Nat)) by rw [hI]; rfl)
              have hlu := HN.out
              have J7 := HQS.out
              have HP2 := Lib.hid (show p2 = p1 - (x.1.q.length : Nat) by rw [hlu]; exact hp2)
              clear hI HI hlu HQS
              go_wp2_with fail
              go_roundw
              case rel => exact ⟨j + 1, p2, _, rfl, by omega, by omega, by have := hp1'; push_cast; omega, rfl, by go_num, Lib.hid (by rw [HP2.out]; exact HI4.out), J7.bel, J7.ks⟩
              case measure => simp [intOf]; omega
        · obtain rfl : j = m2 := by omega
          have hI := HI.out
          rw [List.drop_of_length_le (by have := HM2.out; omega)] at hI
          have HI := Lib.hid (show E = (p1 == 0) by rw [hI, restQ_nil])
          clear hI
          go_wp2_with fail
          go_ret
          exact ⟨by rw [HI.out]; rfl, hB⟩
end Go.Proofs.Ytfohifnbohdbcaa

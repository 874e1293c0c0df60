/-
  steps.Ready, Pick, Owner, Owns.
-/
import Derived.Test.YtolalbpjaebfdaaQScE
import Derived.Test.YtolalbpjaebfdaaQScB
import Derived.RangeFuncKeeps
import Derived.RangeFuncBound
import Derived.RangeFuncCalls
import Derived.RangeFuncLeaves
import Derived.RangeFuncNested
import Derived.RangeFuncWrites
import Derived.Shelf.Abstract
import Derived.OwnWalkIn
import Derived.TacticsInMore
import Derived.LoopNIn
import Derived.LoopIn
namespace Go.Proofs.Ytolalbpjaebfdaa
open Go.RowKit Go.Shelf
attribute [local go_sem] Oper.semAt_some
set_option linter.unusedVariables false
set_option linter.unusedSimpArgs false
def wfB (R : List Rn) (n id : Int) : Bool := match runF R id with | some x => sameR x ⟨id, 1, n⟩ | none => false
def qB (R : List Rn) (n : Int) : List Int → List Int → Bool
  | _, [] => true
  | p, x :: l => wfB R n x && (!(p.contains x) && qB R n (p ++ [x]) l)
def lockQ (R : List Rn) (x : Kw) : Bool := qB R x.1.n [] x.1.q
def lensK (L : List Kw) : Nat := (L.map (·.1.q.length)).sum
def queB (R : List Rn) (L : List Kw) : Bool := L.all (lockQ R) && ((R.countP waitB : Int) - (lensK L : Nat) == 0)
def restQ (R : List Rn) (L : List Kw) (p : Int) : Bool := L.all (lockQ R) && (p - (lensK L : Nat) == 0)
theorem restQ_cons (R : List Rn) (x : Kw) (L : List Kw) (p : Int) : restQ R (x :: L) p = (lockQ R x && restQ R L (p - (x.1.q.length : Nat))) := by
  unfold restQ lensK
  rw [List.all_cons, List.map_cons, List.sum_cons, Bool.and_assoc, Int.natCast_add, ← Int.sub_sub]
theorem restQ_nil (R : List Rn) (p : Int) : restQ R [] p = (p == 0) := by
  unfold restQ lensK
  rw [List.all_nil, Bool.true_and, List.map_nil, List.sum_nil]
  show (p - 0 == 0) = _
  rw [Int.sub_zero]
structure QS (w : World) (A : Option Addr) (m c : Nat) (A2 : Option Addr) (m2 c2 : Nat) (gk : Nat) (x : Kw) (V : World) : Prop where
  bel : Below w.heap.size w V
  ks : Blk V w.heap.size (scC A m c A2 m2 c2) 25
  kk : Blk V gk (kwC x) 48
theorem QS.step {w V V' : World} {A : Option Addr} {m c : Nat} {A2 : Option Addr} {m2 c2 gk : Nat} {x : Kw} (h : QS w A m c A2 m2 c2 gk x V) (b : Below V.heap.size V V') : QS w A m c A2 m2 c2 gk x V' := ⟨h.bel.trans (b.mono h.bel.size), h.ks.below b h.ks.lt, h.kk.below b h.kk.lt⟩
set_option maxRecDepth 100000 in
set_option maxHeartbeats 8000000 in
theorem queues_sc (A : Option Addr) (m c : Nat) (R : List Rn) (A2 : Option Addr) (m2 c2 : Nat) (L : List Kw) (w : World) (h : Sc w w.heap.size A m c R A2 m2 c2 L) (hu : UpR R) :
    Calls Try.prog 61 #[scV A m c A2 m2 c2] w fun e w' => e = .returned (.bool (queB R L)) ∧ Below w.heap.size w w' := by
  have k1 := Blk.new w (scC A m c A2 m2 c2) 25
  have B0 := (Below.refl w.heap.size w).alloc (Nat.le_refl _) (.cells (scC A m c A2 m2 c2) 25)
  have q0 : (w.alloc (.cells (scC A m c A2 m2 c2) 25)).cell? ⟨w.heap.size, 0, none⟩ = some (.slice A m c) := k1.cell 0
  have HM := Lib.hid h.len
  have HM2 := Lib.hid h.len2
  have HS := Lib.hid h
  have RN := Lib.hid (fun (id : Int) (V : World) (hV : Below w.heap.size w V) => run_sc id (h.on hV) hu)
  have HU := Lib.hid hu
  obtain ⟨E, hE⟩ : ∃ E, queB R L = E := ⟨_, rfl⟩
  rw [hE]
  have HE := Lib.hid (show E = restQ R L (R.countP waitB : Int) from hE.symm)
  have hm6 : m ≤ 100000 := h.lim
  have hm26 : m2 ≤ 100000 := h.lim2
  clear hE h hu
  unfold scV at *
  go_enter Try.func61, Try.ntmps61
  go_wp2_with fail
  clear q0
  go_loopw [3, 15] (fun p i wr' => ∃ (k : Nat) (p0 : Nat) (wr : World), wr = wr' ∧ k ≤ m ∧ p0 ≤ k ∧ p = .int .i64 p0 ∧ i = .int .i64 k ∧ Hid (p0 = (R.take k).countP waitB) ∧ Below w.heap.size w wr ∧ Blk wr w.heap.size (scC A m c A2 m2 c2) 25) (fun _ i _ => m - (intOf i).toNat)
  case atStart => exact ⟨0, 0, _, rfl, Nat.zero_le _, Nat.le_refl _, rfl, rfl, Lib.hid (by simp), B0, k1⟩
  case round =>
    clear B0 k1
    obtain ⟨k, p0, wr, hwr, hk, hpk, rfl, rfl, HI, hB, kB⟩ := hrel
    subst hwr
    by_cases hlt : k < m
    · have hlt' : (k : Int) < (m : Int) := by omega
      have hkl : k < R.length := by have := HM.out; omega
      obtain ⟨b, off, rfl, hb, hc⟩ := (HS.out.rs.below hB (Nat.le_refl _)) k hkl
      have hI : p0 + (if waitB (R.getD k rn0) = true then 1 else 0) = (R.take (k + 1)).countP waitB := by
        rw [List.take_succ_eq_append_getElem hkl, List.countP_append, ← HI.out, show R.getD k rn0 = R[k] by simp [List.getD, hkl]]
        simp [List.countP_cons]
      clear HI hkl
      generalize R.getD k rn0 = x at hc hI
      have WA := Lib.hid (waits_sc x)
      unfold rnV at WA
      have hs3 : (rnC x).size = 3 := rn_size x
      cases hx : waitB x
      · rw [hx] at WA hI
        have HI := Lib.hid hI
        clear hI hx
        go_wp2_with (first
          | (refine wpList_load_mid rfl 52 (.tmp 17) rfl b (off + k * 3) rfl (rnC x).toList _ hc Try.underlying52 rfl (rn_infL x) ?_)
          | (refine wpList_store_blk rfl 52 (.tmp 5) (.tmp 18) rfl wr.heap.size (rnC rn0) (rnC x) 52 rfl rfl (Blk.new _ _ _) rfl (rn_inf x) (rn_one x) ?_
             intro w1 k2 n1
             have bb : Below wr.heap.size wr w1 := ((Below.refl _ wr).alloc (Nat.le_refl _) _).trans (n1.below _ (Nat.le_refl _) (by simp))
             have hB1 := hB.trans (bb.mono hB.size)
             have kB1 := kB.below bb kB.lt
             clear bb n1 hc)
          | (refine wpList_load_row rfl 52 (.tmp 5) rfl wr.heap.size rfl 52 (rnC x) (0, 0) _ k2.blk Try.underlying52 rfl (rn_inf x) ?_)
          | (refine (WA.out _).mono ?_
             rintro e w2 ⟨rfl, bb⟩
             have hB2 := hB1.trans (bb.mono hB1.size)
             have kB2 := kB1.below bb kB1.lt
             clear bb))
        go_roundw
        case rel => exact ⟨k + 1, p0, _, rfl, by omega, by omega, rfl, by go_num, Lib.hid HI.out, hB2, kB2⟩
        case measure => simp [intOf]; omega
      · rw [hx] at WA hI
        have HI := Lib.hid hI
        clear hI hx
        go_wp2_with (first
          | (refine wpList_load_mid rfl 52 (.tmp 17) rfl b (off + k * 3) rfl (rnC x).toList _ hc Try.underlying52 rfl (rn_infL x) ?_)
          | (refine wpList_store_blk rfl 52 (.tmp 5) (.tmp 18) rfl wr.heap.size (rnC rn0) (rnC x) 52 rfl rfl (Blk.new _ _ _) rfl (rn_inf x) (rn_one x) ?_
             intro w1 k2 n1
             have bb : Below wr.heap.size wr w1 := ((Below.refl _ wr).alloc (Nat.le_refl _) _).trans (n1.below _ (Nat.le_refl _) (by simp))
             have hB1 := hB.trans (bb.mono hB.size)
             have kB1 := kB.below bb kB.lt
             clear bb n1 hc)
          | (refine wpList_load_row rfl 52 (.tmp 5) rfl wr.heap.size rfl 52 (rnC x) (0, 0) _ k2.blk Try.underlying52 rfl (rn_inf x) ?_)
          | (refine (WA.out _).mono ?_
             rintro e w2 ⟨rfl, bb⟩
             have hB2 := hB1.trans (bb.mono hB1.size)
             have kB2 := kB1.below bb kB1.lt
             clear bb))
        go_roundw
        case rel => exact ⟨k + 1, p0 + 1, _, rfl, by omega, by omega, by go_num, by go_num, Lib.hid HI.out, hB2, kB2⟩
        case measure => simp [intOf]; omega
    · obtain rfl : k = m := by omega
      have hI := HI.out
      rw [List.take_of_length_le (by have := HM.out; omega)] at hI
      have HI2 := Lib.hid (show E = restQ R L (p0 : Int) by rw [hI]; exact HE.out)
      have q1 : wr.cell? ⟨w.heap.size, 1, none⟩ = some (.slice A2 m2 c2) := kB.cell 1
      clear hI HI HE hlt
      go_wp2_with fail
      clear q1
      go_loopw [3, 27] (fun p i wr' => ∃ (j : Nat) (p1 : Int) (wq : World), wq = wr' ∧ j ≤ m2 ∧ p1 ≤ 1000000 ∧ -((j : Int) * 1000000) ≤ p1 ∧ p = .int .i64 p1 ∧ i = .int .i64 j ∧ Hid (E = restQ R (L.drop j) p1) ∧ Below w.heap.size w wq ∧ Blk wq w.heap.size (scC A k c A2 m2 c2) 25) (fun _ i _ => m2 - (intOf i).toNat)
      case atStart => exact ⟨0, p0, _, rfl, Nat.zero_le _, by omega, by omega, rfl, rfl, Lib.hid (by rw [List.drop_zero]; exact HI2.out), hB, kB⟩
      case round =>
        clear hB kB HI2
        obtain ⟨j, p1, wq, hwq, hj, hp1, hp1', rfl, rfl, HI, hB, kB⟩ := hrel
        subst hwq
        by_cases hlt : j < m2
        · have hlt' : (j : Int) < (m2 : Int) := by omega
          have hjl : j < L.length := by have := HM2.out; omega
          obtain ⟨b, off, hA2, hb, hc⟩ := (HS.out.ks.below hB (Nat.le_refl _)) j hjl
          have hq := HS.out.q' hjl
          have hI := HI.out
          rw [List.drop_eq_getElem_cons hjl, restQ_cons, show L[j] = L.getD j kw0 by simp [List.getD, hjl]] at hI
          clear HI hjl
          generalize L.getD j kw0 = x at hc hI hq
          have HQ := Lib.hid hq
          have hql : x.1.q.length ≤ 1000000 := hq.l
          have hqe : x.1.q.length ≤ x.2.2 := hq.le
          unfold lockQ at hI
          have HI3 := Lib.hid hI
          clear hq hI
          have hs3 : (kwC x).size = 3 := kw_size x
          subst hA2
          go_wp2_with (first
            | (refine wpList_load_mid rfl 48 (.tmp 29) rfl b (off + j * 3) rfl (kwC x).toList _ hc Try.underlying48 rfl (kw_infL x) ?_)
            | (refine wpList_store_blk rfl 48 (.tmp 7) (.tmp 30) rfl wq.heap.size (kwC kw0) (kwC x) 48 rfl rfl (Blk.new _ _ _) rfl (kw_inf x) (kw_one x) ?_
               intro w1 k2 n1
               have bb : Below wq.heap.size wq w1 := ((Below.refl _ wq).alloc (Nat.le_refl _) _).trans (n1.below _ (Nat.le_refl _) (by simp))
               have hB1 := hB.trans (bb.mono hB.size)
               have kB1 := kB.below bb kB.lt
               have q42 : w1.cell? ⟨wq.heap.size, 2, none⟩ = some (.slice x.2.1 x.1.q.length x.2.2) := k2.cell 2
               clear bb n1 hc))
          clear q42
          obtain ⟨N, hN⟩ : ∃ N, x.1.q.length = N := ⟨_, rfl⟩
          rw [hN] at hql hqe
          have HN := Lib.hid hN
          have QW : QS w A k c (some ⟨b, off, none⟩) m2 c2 wq.heap.size x w1 := ⟨hB1, kB1, k2⟩
          clear hB1 kB1 k2 hB kB
          obtain ⟨XA, hXA⟩ : ∃ a, x.2.1 = a := ⟨_, rfl⟩
          simp only [hN, hXA]
          have HXA := Lib.hid hXA
          clear hN hXA
          go_loopw [3, 34] (fun p i wr' => ∃ (u : Nat) (p2 : Int) (wz : World), wz = wr' ∧ u ≤ N ∧ p2 = p1 - u ∧ p = .int .i64 p2 ∧ i = .int .i64 u ∧ Hid (E = (qB R x.1.n (x.1.q.take u) (x.1.q.drop u) && restQ R (L.drop (j + 1)) (p1 - (x.1.q.length : Nat)))) ∧ Hid (QS w A k c (some ⟨b, off, none⟩) m2 c2 wq.heap.size x wz)) (fun _ i _ => N - (intOf i).toNat)
          case atStart => exact ⟨0, p1, _, rfl, Nat.zero_le _, by simp, rfl, rfl, Lib.hid (by rw [List.take_zero, List.drop_zero]; exact HI3.out), Lib.hid QW⟩
          case round =>
            clear QW HI3
            obtain ⟨u, p2, wz, hwz, hu, hp2, rfl, rfl, HI, HQS⟩ := hrel
            subst hwz
            by_cases hun : u < N
            · have hun' : (u : Int) < (N : Int) := by omega
              have hul : u < x.1.q.length := by have := HN.out; omega
              obtain ⟨bq, oq, hAq, hbq, hcq⟩ := (HQ.out.ri.below HQS.out.bel (Nat.le_refl _)) u hul
              obtain rfl : XA = some ⟨bq, oq, none⟩ := HXA.out.symm.trans hAq
              have hI := HI.out
              rw [List.drop_eq_getElem_cons hul, qB, show x.1.q[u] = x.1.q.getD u 0 by simp [List.getD, hul]] at hI
              have HTK := Lib.hid (show x.1.q.take (u + 1) = x.1.q.take u ++ [x.1.q.getD u 0] by rw [List.take_succ_eq_append_getElem hul]; simp [List.getD, hul])
              have HTL := Lib.hid (show (x.1.q.take u).length = u by rw [List.length_take]; omega)
              clear HI hul
              generalize x.1.q.getD u 0 = id at hcq hI HTK
              have RN1 := Lib.hid (RN.out id)
              obtain ⟨at_, hat⟩ : ∃ a, lessP (numsR R) id = a := ⟨_, rfl⟩
              obtain ⟨ct, hct⟩ : ∃ c, (numsR R).contains id = c := ⟨_, rfl⟩
              rw [hat, hct] at RN1
              have hp2b : -1000000000000 ≤ p2 := by have := hp1'; have h1 : (j : Int) * 1000000 ≤ 100000000000 := by omega
                                                    omega
              have hp2c : p2 ≤ 1000000 := by omega
              cases ct
              · have hI : E = false := by
                  rw [hI]
                  unfold wfB
                  rw [runF_none hct]
                  rfl
                clear hat hct
                go_wp2_with (first
                  | (refine wpList_load_row rfl 25 (.tmp 1) rfl w.heap.size rfl 25 (scC A k c (some ⟨b, off, none⟩) m2 c2) (0, 0) _ HQS.out.ks.blk Try.underlying25 rfl (sc_inf _ _ _ _ _ _) ?_)
                  | (refine (RN1.out _ HQS.out.bel).mono ?_
                     clear RN1
                     rintro e w3 ⟨rfl, bb⟩
                     have J := (HQS.out.step bb).step ((Below.refl _ _).drew)
                     clear bb))
                have hne : Nonempty (Sig (QS w A k c (some ⟨b, off, none⟩) m2 c2 wq.heap.size x)) := ⟨⟨_, J⟩⟩
                refine region_class (S := QS w A k c (some ⟨b, off, none⟩) m2 c2 wq.heap.size x) (by kernel_rfl) (by kernel_rfl) J ?_
                have hc0 : ∀ s : Sig (QS w A k c (some ⟨b, off, none⟩) m2 c2 wq.heap.size x), s.V.cell? ⟨w.heap.size, 0, none⟩ = some (.slice A k c) := fun s => s.h.ks.cell 0
                have hk0 : ∀ s : Sig (QS w A k c (some ⟨b, off, none⟩) m2 c2 wq.heap.size x), s.V.cell? ⟨wq.heap.size, 0, none⟩ = some (.int .i64 x.1.n) := fun s => s.h.kk.cell 0
                have hk2 : ∀ s : Sig (QS w A k c (some ⟨b, off, none⟩) m2 c2 wq.heap.size x), s.V.cell? ⟨wq.heap.size, 2, none⟩ = some (.slice x.2.1 x.1.q.length x.2.2) := fun s => s.h.kk.cell 2
                repeat (go_big_quiet_step (fail))
                refine wpQuiet_nil ?_
                rintro _ ⟨s7, rfl⟩
                have J7 := s7.h
                clear hne hc0 hk0 hk2 J
                go_wp2_with fail
                go_ret
                exact ⟨by rw [hI]; rfl, J7.bel⟩
              · obtain ⟨hlt3, _, hf⟩ := runF_some HU.out hct
                rw [hat] at hf hlt3
                have hI : E = (sameR (R.getD at_ rn0) ⟨id, 1, x.1.n⟩ && (!((x.1.q.take u).contains id) && qB R x.1.n (x.1.q.take (u + 1)) (x.1.q.drop (u + 1))) && restQ R (L.drop (j + 1)) (p1 - (x.1.q.length : Nat))) := by
                  rw [hI, HTK.out]
                  unfold wfB
                  rw [hf]
                obtain ⟨b2, off2, hA, hb2, hcR⟩ := HS.out.rs _ hlt3
                subst hA
                have hakm : (at_ : Int) < (k : Int) := by have := HM.out; omega
                clear hf hct hlt3 hat
                generalize R.getD at_ rn0 = y at hI hcR
                obtain ⟨sb, hsb⟩ : ∃ s, sameR y ⟨id, 1, x.1.n⟩ = s := ⟨_, rfl⟩
                obtain ⟨cb, hcb⟩ : ∃ s, (x.1.q.take u).contains id = s := ⟨_, rfl⟩
                rw [hsb, hcb] at hI
                have HSB := Lib.hid hsb
                have hrg : ∀ V, QS w (some ⟨b2, off2, none⟩) k c (some ⟨b, off, none⟩) m2 c2 wq.heap.size x V → V.rangeAt b2 (off2 + at_ * 3) (rnC y).toList := fun V hV => range_below3 hcR hV.bel hb2
                have CQ := Lib.hid (fun (V : World) (hV : QS w (some ⟨b2, off2, none⟩) k c (some ⟨b, off, none⟩) m2 c2 wq.heap.size x V) => (containsZq x.2.1 u x.2.2 (x.1.q.take u) id V (fun i hi => by
                  have hi' : i < u := by rw [HTL.out] at hi; exact hi
                  obtain ⟨b7, o7, e7, h7, c7⟩ := ((HQ.out.ri.below hV.bel (Nat.le_refl _)).more hV.bel.size) i (by have := HN.out; omega)
                  refine ⟨b7, o7, e7, h7, ?_⟩
                  rw [c7]
                  simp [List.getD, List.getElem?_take, hi']) HTL.out.symm (by omega) (by omega)).mono (R' := fun e V' => e = .returned (.bool cb) ∧ QS w (some ⟨b2, off2, none⟩) k c (some ⟨b, off, none⟩) m2 c2 wq.heap.size x V') (by rintro e V' ⟨rfl, rfl⟩; exact ⟨by rw [hcb], hV⟩))
                rw [hAq] at CQ
                have HI2 := Lib.hid hI
                have HHH := Lib.hid hcb
                clear hI hcb hsb hcR
                cases sb
                · have hI : E = false := HI2.out
                  go_wp2_with (first
                    | (refine wpList_load_row rfl 25 (.tmp 1) rfl w.heap.size rfl 25 (scC (some ⟨b2, off2, none⟩) k c (some ⟨b, off, none⟩) m2 c2) (0, 0) _ HQS.out.ks.blk Try.underlying25 rfl (sc_inf _ _ _ _ _ _) ?_)
                    | (refine (RN1.out _ HQS.out.bel).mono ?_
                       clear RN1
                       rintro e w3 ⟨rfl, bb⟩
                       have J := (HQS.out.step bb).step ((Below.refl _ _).drew)
                       clear bb))
                  have hne : Nonempty (Sig (QS w (some ⟨b2, off2, none⟩) k c (some ⟨b, off, none⟩) m2 c2 wq.heap.size x)) := ⟨⟨_, J⟩⟩
                  refine region_class (S := QS w (some ⟨b2, off2, none⟩) k c (some ⟨b, off, none⟩) m2 c2 wq.heap.size x) (by kernel_rfl) (by kernel_rfl) J ?_
                  have hc0 : ∀ s : Sig (QS w (some ⟨b2, off2, none⟩) k c (some ⟨b, off, none⟩) m2 c2 wq.heap.size x), s.V.cell? ⟨w.heap.size, 0, none⟩ = some (.slice (some ⟨b2, off2, none⟩) k c) := fun s => s.h.ks.cell 0
                  have hk0 : ∀ s : Sig (QS w (some ⟨b2, off2, none⟩) k c (some ⟨b, off, none⟩) m2 c2 wq.heap.size x), s.V.cell? ⟨wq.heap.size, 0, none⟩ = some (.int .i64 x.1.n) := fun s => s.h.kk.cell 0
                  have hk2 : ∀ s : Sig (QS w (some ⟨b2, off2, none⟩) k c (some ⟨b, off, none⟩) m2 c2 wq.heap.size x), s.V.cell? ⟨wq.heap.size, 2, none⟩ = some (.slice (some ⟨bq, oq, none⟩) x.1.q.length x.2.2) := fun s => by rw [← hAq]; exact s.h.kk.cell 2
                  repeat (first
                    | (refine class_load_mid (by rfl) 52 (.tmp 51) rfl b2 (off2 + at_ * 3) rfl (rnC y).toList _ hrg Try.underlying52 rfl (rn_infL y) ?_; simp only [Act.put, List.setIfInBounds_toArray, List.set_cons_zero, List.set_cons_succ])
                    | (refine class_neq_rn (by rfl) (.tmp 52) (.tmp 56) rfl y ⟨id, 1, x.1.n⟩ rfl rfl _ HSB.out ?_; simp only [Act.put, List.setIfInBounds_toArray, List.set_cons_zero, List.set_cons_succ])
                    | go_big_quiet_step (first | (go_at_call 82; exact class_call _ CQ.out)))
                  refine wpQuiet_nil ?_
                  rintro _ ⟨s7, rfl⟩
                  have J7 := s7.h
                  clear hne hc0 hk0 hk2 J
                  go_wp2_with fail
                  go_ret
                  exact ⟨by rw [hI]; rfl, J7.bel⟩
                · cases cb
                  · have hI := HI2.out
                    rw [Bool.true_and, Bool.not_false, Bool.true_and] at hI
                    have HI3 := Lib.hid hI
                    clear hI
                    go_wp2_with (first
                      | (refine wpList_load_row rfl 25 (.tmp 1) rfl w.heap.size rfl 25 (scC (some ⟨b2, off2, none⟩) k c (some ⟨b, off, none⟩) m2 c2) (0, 0) _ HQS.out.ks.blk Try.underlying25 rfl (sc_inf _ _ _ _ _ _) ?_)
                      | (refine (RN1.out _ HQS.out.bel).mono ?_
                         clear RN1
                         rintro e w3 ⟨rfl, bb⟩
                         have J := (HQS.out.step bb).step ((Below.refl _ _).drew)
                         clear bb))
                    have hne : Nonempty (Sig (QS w (some ⟨b2, off2, none⟩) k c (some ⟨b, off, none⟩) m2 c2 wq.heap.size x)) := ⟨⟨_, J⟩⟩
                    refine region_class (S := QS w (some ⟨b2, off2, none⟩) k c (some ⟨b, off, none⟩) m2 c2 wq.heap.size x) (by kernel_rfl) (by kernel_rfl) J ?_
                    have hc0 : ∀ s : Sig (QS w (some ⟨b2, off2, none⟩) k c (some ⟨b, off, none⟩) m2 c2 wq.heap.size x), s.V.cell? ⟨w.heap.size, 0, none⟩ = some (.slice (some ⟨b2, off2, none⟩) k c) := fun s => s.h.ks.cell 0
                    have hk0 : ∀ s : Sig (QS w (some ⟨b2, off2, none⟩) k c (some ⟨b, off, none⟩) m2 c2 wq.heap.size x), s.V.cell? ⟨wq.heap.size, 0, none⟩ = some (.int .i64 x.1.n) := fun s => s.h.kk.cell 0
                    have hk2 : ∀ s : Sig (QS w (some ⟨b2, off2, none⟩) k c (some ⟨b, off, none⟩) m2 c2 wq.heap.size x), s.V.cell? ⟨wq.heap.size, 2, none⟩ = some (.slice (some ⟨bq, oq, none⟩) x.1.q.length x.2.2) := fun s => by rw [← hAq]; exact s.h.kk.cell 2
                    repeat (first
                      | (refine class_load_mid (by rfl) 52 (.tmp 51) rfl b2 (off2 + at_ * 3) rfl (rnC y).toList _ hrg Try.underlying52 rfl (rn_infL y) ?_; simp only [Act.put, List.setIfInBounds_toArray, List.set_cons_zero, List.set_cons_succ])
                      | (refine class_neq_rn (by rfl) (.tmp 52) (.tmp 56) rfl y ⟨id, 1, x.1.n⟩ rfl rfl _ HSB.out ?_; simp only [Act.put, List.setIfInBounds_toArray, List.set_cons_zero, List.set_cons_succ])
                      | go_big_quiet_step (first | (go_at_call 82; exact class_call _ CQ.out)))
                    refine wpQuiet_nil ?_
                    rintro _ ⟨s7, rfl⟩
                    have J7 := s7.h
                    clear hne hc0 hk0 hk2 J
                    go_wp2_with fail
                    go_roundw
                    case rel => exact ⟨u + 1, p2 - 1, _, rfl, by omega, by omega, by go_num, by go_num, Lib.hid HI3.out, Lib.hid J7⟩
                    case measure => simp [intOf]; omega
                  · have hI : E = false := HI2.out
                    go_wp2_with (first
                      | (refine wpList_load_row rfl 25 (.tmp 1) rfl w.heap.size rfl 25 (scC (some ⟨b2, off2, none⟩) k c (some ⟨b, off, none⟩) m2 c2) (0, 0) _ HQS.out.ks.blk Try.underlying25 rfl (sc_inf _ _ _ _ _ _) ?_)
                      | (refine (RN1.out _ HQS.out.bel).mono ?_
                         clear RN1
                         rintro e w3 ⟨rfl, bb⟩
                         have J := (HQS.out.step bb).step ((Below.refl _ _).drew)
                         clear bb))
                    have hne : Nonempty (Sig (QS w (some ⟨b2, off2, none⟩) k c (some ⟨b, off, none⟩) m2 c2 wq.heap.size x)) := ⟨⟨_, J⟩⟩
                    refine region_class (S := QS w (some ⟨b2, off2, none⟩) k c (some ⟨b, off, none⟩) m2 c2 wq.heap.size x) (by kernel_rfl) (by kernel_rfl) J ?_
                    have hc0 : ∀ s : Sig (QS w (some ⟨b2, off2, none⟩) k c (some ⟨b, off, none⟩) m2 c2 wq.heap.size x), s.V.cell? ⟨w.heap.size, 0, none⟩ = some (.slice (some ⟨b2, off2, none⟩) k c) := fun s => s.h.ks.cell 0
                    have hk0 : ∀ s : Sig (QS w (some ⟨b2, off2, none⟩) k c (some ⟨b, off, none⟩) m2 c2 wq.heap.size x), s.V.cell? ⟨wq.heap.size, 0, none⟩ = some (.int .i64 x.1.n) := fun s => s.h.kk.cell 0
                    have hk2 : ∀ s : Sig (QS w (some ⟨b2, off2, none⟩) k c (some ⟨b, off, none⟩) m2 c2 wq.heap.size x), s.V.cell? ⟨wq.heap.size, 2, none⟩ = some (.slice (some ⟨bq, oq, none⟩) x.1.q.length x.2.2) := fun s => by rw [← hAq]; exact s.h.kk.cell 2
                    repeat (first
                      | (refine class_load_mid (by rfl) 52 (.tmp 51) rfl b2 (off2 + at_ * 3) rfl (rnC y).toList _ hrg Try.underlying52 rfl (rn_infL y) ?_; simp only [Act.put, List.setIfInBounds_toArray, List.set_cons_zero, List.set_cons_succ])
                      | (refine class_neq_rn (by rfl) (.tmp 52) (.tmp 56) rfl y ⟨id, 1, x.1.n⟩ rfl rfl _ HSB.out ?_; simp only [Act.put, List.setIfInBounds_toArray, List.set_cons_zero, List.set_cons_succ])
                      | go_big_quiet_step (first | (go_at_call 82; exact class_call _ CQ.out)))
                    refine wpQuiet_nil ?_
                    rintro _ ⟨s7, rfl⟩
                    have J7 := s7.h
                    clear hne hc0 hk0 hk2 J
                    go_wp2_with fail
                    go_ret
                    exact ⟨by rw [hI]; rfl, J7.bel⟩
            · obtain rfl : u = N := by omega
              have hI := HI.out
              rw [List.drop_of_length_le (by have := HN.out; omega)] at hI
              have HI4 := Lib.hid (show E = restQ R (L.drop (j + 1)) (p1 - (x.1.q.length : Nat)) by rw [hI]; rfl)
              have hlu := HN.out
              have J7 := HQS.out
              have HP2 := Lib.hid (show p2 = p1 - (x.1.q.length : Nat) by rw [hlu]; exact hp2)
              clear hI HI hlu HQS
              go_wp2_with fail
              go_roundw
              case rel => exact ⟨j + 1, p2, _, rfl, by omega, by omega, by have := hp1'; push_cast; omega, rfl, by go_num, Lib.hid (by rw [HP2.out]; exact HI4.out), J7.bel, J7.ks⟩
              case measure => simp [intOf]; omega
        · obtain rfl : j = m2 := by omega
          have hI := HI.out
          rw [List.drop_of_length_le (by have := HM2.out; omega)] at hI
          have HI := Lib.hid (show E = (p1 == 0) by rw [hI, restQ_nil])
          clear hI
          go_wp2_with fail
          go_ret
          exact ⟨by rw [HI.out]; rfl, hB⟩
end Go.Proofs.Ytolalbpjaebfdaa
namespace Go.Proofs.Ytolalbpjaebfdaa
open Go.RowKit Go.Shelf
set_option linter.unusedVariables false
set_option linter.unusedSimpArgs false
def schB (R : List Rn) (L : List Kw) : Bool := decide (R.length ≤ 8) && (riseT 20 0 (numsR R) && (riseT 40 0 (numsK L) && (!(R.any strB) && (L.all (ownB R) && queB R L))))
def scE (R : List Rn) (L : List Kw) : Int := if schB R L then 0 else 230
structure CS (w : World) (A : Option Addr) (m c : Nat) (A2 : Option Addr) (m2 c2 : Nat) (V : World) : Prop where
  b : Below w.heap.size w V
  k : Blk V w.heap.size (scC A m c A2 m2 c2) 25
theorem CS.step {w V V' : World} {A : Option Addr} {m c : Nat} {A2 : Option Addr} {m2 c2 : Nat} (h : CS w A m c A2 m2 c2 V) (b : Below V.heap.size V V') : CS w A m c A2 m2 c2 V' := ⟨h.b.trans (b.mono h.b.size), h.k.below b h.k.lt⟩
theorem CS.c0 {w V : World} {A : Option Addr} {m c : Nat} {A2 : Option Addr} {m2 c2 : Nat} (h : CS w A m c A2 m2 c2 V) : V.cell? ⟨w.heap.size, 0, none⟩ = some (.slice A m c) := h.k.cell 0
theorem CS.c1 {w V : World} {A : Option Addr} {m c : Nat} {A2 : Option Addr} {m2 c2 : Nat} (h : CS w A m c A2 m2 c2 V) : V.cell? ⟨w.heap.size, 1, none⟩ = some (.slice A2 m2 c2) := h.k.cell 1
theorem CS.new (w : World) (A : Option Addr) (m c : Nat) (A2 : Option Addr) (m2 c2 : Nat) : CS w A m c A2 m2 c2 (w.alloc (.cells (scC A m c A2 m2 c2) 25)) := ⟨(Below.refl w.heap.size w).alloc (Nat.le_refl _) _, Blk.new _ _ _⟩
set_option maxRecDepth 100000 in
set_option maxHeartbeats 8000000 in
theorem check_sc (A : Option Addr) (m c : Nat) (R : List Rn) (A2 : Option Addr) (m2 c2 : Nat) (L : List Kw) (w : World) (h : Sc w w.heap.size A m c R A2 m2 c2 L) :
    Calls Try.prog 22 #[scV A m c A2 m2 c2] w fun e w' => e = .returned (.int .i64 (scE R L)) ∧ Below w.heap.size w w' := by
  have J0 := CS.new w A m c A2 m2 c2
  have q0 := J0.c0
  have q1 := J0.c1
  have CR := Lib.hid (fun (V : World) (hV : CS w A m c A2 m2 c2 V) => rise_R A m c R 20 V (h.on hV.b).rs h.len (by have := h.lim; omega))
  have CK := Lib.hid (fun (V : World) (hV : CS w A m c A2 m2 c2 V) => rise_K A2 m2 c2 L 40 V (h.on hV.b).ks h.len2 (by have := h.lim2; omega))
  have CA := Lib.hid (fun (V : World) (hV : CS w A m c A2 m2 c2 V) => anyf_R 59 strB (enters_of Try.func59 (by kernel_rfl) rfl) strange_sc A m c R V (h.on hV.b).rs h.len (by have := h.lim; omega))
  have CO := Lib.hid (fun (hu : UpR R) (V : World) (hV : CS w A m c A2 m2 c2 V) => owners_sc A m c R A2 m2 c2 L V (h.on hV.b) hu)
  have CQ := Lib.hid (fun (hu : UpR R) (V : World) (hV : CS w A m c A2 m2 c2 V) => queues_sc A m c R A2 m2 c2 L V (h.on hV.b) hu)
  obtain ⟨E, hE⟩ : ∃ E, scE R L = E := ⟨_, rfl⟩
  rw [hE]
  have hm := h.len
  clear h
  unfold scV at *
  cases h0 : decide (R.length ≤ 8)
  · have hd : decide ((8 : Int) < (m : Int)) = true := by have := of_decide_eq_false h0; simp; omega
    clear hm
    have hr : E = 230 := by rw [← hE]; unfold scE schB; simp only [h0]; rfl
    clear hE
    go_enter Try.func22, Try.ntmps22
    go_wp2_with fail
    go_ret
    exact ⟨by rw [hr]; rfl, J0.b⟩
  · have hd : decide ((8 : Int) < (m : Int)) = false := by have := of_decide_eq_true h0; simp; omega
    clear hm
    cases h1 : riseT 20 0 (numsR R)
    · have hr : E = 230 := by rw [← hE]; unfold scE schB; simp only [h0, h1]; rfl
      clear hE
      rw [h1] at CR
      go_enter Try.func22, Try.ntmps22
      go_wp2_with (first
        | (refine (CR.out _ J0).mono ?_
           clear CR
           rintro e w1 ⟨rfl, bb⟩
           have J1 := J0.step bb
           have q0 := J1.c0
           have q1 := J1.c1
           clear bb))
      go_ret
      exact ⟨by rw [hr]; rfl, J1.b⟩
    · have hup : UpR R := (riseT_up h1).1
      cases h2 : riseT 40 0 (numsK L)
      · have hr : E = 230 := by rw [← hE]; unfold scE schB; simp only [h0, h1, h2]; rfl
        clear hE
        rw [h1] at CR
        rw [h2] at CK
        go_enter Try.func22, Try.ntmps22
        go_wp2_with (first
          | (refine (CR.out _ J0).mono ?_
             clear CR
             rintro e w1 ⟨rfl, bb⟩
             have J1 := J0.step bb
             have q0 := J1.c0
             have q1 := J1.c1
             clear bb)
          | (refine (CK.out _ J1).mono ?_
             clear CK
             rintro e w2 ⟨rfl, bb⟩
             have J2 := J1.step bb
             have q0 := J2.c0
             have q1 := J2.c1
             clear bb))
        go_ret
        exact ⟨by rw [hr]; rfl, J2.b⟩
      · cases h3 : R.any strB
        · cases h4 : L.all (ownB R)
          · have hr : E = 230 := by rw [← hE]; unfold scE schB; simp only [h0, h1, h2, h3, h4]; rfl
            clear hE
            rw [h1] at CR
            rw [h2] at CK
            rw [h3] at CA
            rw [h4] at CO
            go_enter Try.func22, Try.ntmps22
            go_wp2_with (first
              | (refine (CR.out _ J0).mono ?_
                 clear CR
                 rintro e w1 ⟨rfl, bb⟩
                 have J1 := J0.step bb
                 have q0 := J1.c0
                 have q1 := J1.c1
                 clear bb)
              | (refine (CK.out _ J1).mono ?_
                 clear CK
                 rintro e w2 ⟨rfl, bb⟩
                 have J2 := J1.step bb
                 have q0 := J2.c0
                 have q1 := J2.c1
                 clear bb)
              | (refine (CA.out _ J2).mono ?_
                 clear CA
                 rintro e w3 ⟨rfl, bb⟩
                 have J3 := J2.step bb
                 have q0 := J3.c0
                 have q1 := J3.c1
                 clear bb)
              | (refine wpListG_load (by rfl) 25 (.tmp 1) rfl w.heap.size rfl 25 (scC A m c A2 m2 c2) _ J3.k Try.underlying25 rfl (sc_inf A m c A2 m2 c2) ?_)
              | (refine (CO.out hup _ J3).mono ?_
                 clear CO
                 rintro e w4 ⟨rfl, bb⟩
                 have J4 := J3.step bb
                 have q0 := J4.c0
                 have q1 := J4.c1
                 clear bb))
            go_ret
            exact ⟨by rw [hr]; rfl, J4.b⟩
          · cases h5 : queB R L
            · have hr : E = 230 := by rw [← hE]; unfold scE schB; simp only [h0, h1, h2, h3, h4, h5]; rfl
              clear hE
              rw [h1] at CR
              rw [h2] at CK
              rw [h3] at CA
              rw [h4] at CO
              rw [h5] at CQ
              go_enter Try.func22, Try.ntmps22
              go_wp2_with (first
                | (refine (CR.out _ J0).mono ?_
                   clear CR
                   rintro e w1 ⟨rfl, bb⟩
                   have J1 := J0.step bb
                   have q0 := J1.c0
                   have q1 := J1.c1
                   clear bb)
                | (refine (CK.out _ J1).mono ?_
                   clear CK
                   rintro e w2 ⟨rfl, bb⟩
                   have J2 := J1.step bb
                   have q0 := J2.c0
                   have q1 := J2.c1
                   clear bb)
                | (refine (CA.out _ J2).mono ?_
                   clear CA
                   rintro e w3 ⟨rfl, bb⟩
                   have J3 := J2.step bb
                   have q0 := J3.c0
                   have q1 := J3.c1
                   clear bb)
                | (refine wpListG_load (by rfl) 25 (.tmp 1) rfl w.heap.size rfl 25 (scC A m c A2 m2 c2) _ J3.k Try.underlying25 rfl (sc_inf A m c A2 m2 c2) ?_)
                | (refine (CO.out hup _ J3).mono ?_
                   clear CO
                   rintro e w4 ⟨rfl, bb⟩
                   have J4 := J3.step bb
                   have q0 := J4.c0
                   have q1 := J4.c1
                   clear bb)
                | (refine wpListG_load (by rfl) 25 (.tmp 1) rfl w.heap.size rfl 25 (scC A m c A2 m2 c2) _ J4.k Try.underlying25 rfl (sc_inf A m c A2 m2 c2) ?_)
                | (refine (CQ.out hup _ J4).mono ?_
                   clear CQ
                   rintro e w5 ⟨rfl, bb⟩
                   have J5 := J4.step bb
                   have q0 := J5.c0
                   have q1 := J5.c1
                   clear bb))
              go_ret
              exact ⟨by rw [hr]; rfl, J5.b⟩
            · have hr : E = 0 := by rw [← hE]; unfold scE schB; simp only [h0, h1, h2, h3, h4, h5]; rfl
              clear hE
              rw [h1] at CR
              rw [h2] at CK
              rw [h3] at CA
              rw [h4] at CO
              rw [h5] at CQ
              go_enter Try.func22, Try.ntmps22
              go_wp2_with (first
                | (refine (CR.out _ J0).mono ?_
                   clear CR
                   rintro e w1 ⟨rfl, bb⟩
                   have J1 := J0.step bb
                   have q0 := J1.c0
                   have q1 := J1.c1
                   clear bb)
                | (refine (CK.out _ J1).mono ?_
                   clear CK
                   rintro e w2 ⟨rfl, bb⟩
                   have J2 := J1.step bb
                   have q0 := J2.c0
                   have q1 := J2.c1
                   clear bb)
                | (refine (CA.out _ J2).mono ?_
                   clear CA
                   rintro e w3 ⟨rfl, bb⟩
                   have J3 := J2.step bb
                   have q0 := J3.c0
                   have q1 := J3.c1
                   clear bb)
                | (refine wpListG_load (by rfl) 25 (.tmp 1) rfl w.heap.size rfl 25 (scC A m c A2 m2 c2) _ J3.k Try.underlying25 rfl (sc_inf A m c A2 m2 c2) ?_)
                | (refine (CO.out hup _ J3).mono ?_
                   clear CO
                   rintro e w4 ⟨rfl, bb⟩
                   have J4 := J3.step bb
                   have q0 := J4.c0
                   have q1 := J4.c1
                   clear bb)
                | (refine wpListG_load (by rfl) 25 (.tmp 1) rfl w.heap.size rfl 25 (scC A m c A2 m2 c2) _ J4.k Try.underlying25 rfl (sc_inf A m c A2 m2 c2) ?_)
                | (refine (CQ.out hup _ J4).mono ?_
                   clear CQ
                   rintro e w5 ⟨rfl, bb⟩
                   have J5 := J4.step bb
                   have q0 := J5.c0
                   have q1 := J5.c1
                   clear bb))
              go_ret
              exact ⟨by rw [hr]; rfl, J5.b⟩
        · have hr : E = 230 := by rw [← hE]; unfold scE schB; simp only [h0, h1, h2, h3]; rfl
          clear hE
          rw [h1] at CR
          rw [h2] at CK
          rw [h3] at CA
          go_enter Try.func22, Try.ntmps22
          go_wp2_with (first
            | (refine (CR.out _ J0).mono ?_
               clear CR
               rintro e w1 ⟨rfl, bb⟩
               have J1 := J0.step bb
               have q0 := J1.c0
               have q1 := J1.c1
               clear bb)
            | (refine (CK.out _ J1).mono ?_
               clear CK
               rintro e w2 ⟨rfl, bb⟩
               have J2 := J1.step bb
               have q0 := J2.c0
               have q1 := J2.c1
               clear bb)
            | (refine (CA.out _ J2).mono ?_
               clear CA
               rintro e w3 ⟨rfl, bb⟩
               have J3 := J2.step bb
               have q0 := J3.c0
               have q1 := J3.c1
               clear bb))
          go_ret
          exact ⟨by rw [hr]; rfl, J3.b⟩
end Go.Proofs.Ytolalbpjaebfdaa
namespace Go.Proofs.Ytolalbpjaebfdaa
open Go.RowKit Go.Shelf
attribute [local go_sem] Oper.semAt_some
set_option linter.unusedVariables false
set_option linter.unusedSimpArgs false
theorem own_but {w w' : World} {g base m c : Nat} {A : Option Addr} {l : List Int} (h : Zo w base A m c l) (n : But g w w') (hg : some g ≠ (Value.slice A m c).ownBlock) : Zo w' base A m c l := by
  refine ⟨h.1, ?_⟩
  rcases h.2 with h0 | ⟨g', cap, cur, hv, hb, hh, r⟩
  · exact .inl h0
  · refine .inr ⟨g', cap, cur, hv, hb, ?_, r⟩
    have hlt := (Array.getElem?_eq_some_iff.1 hh).1
    have hne : g' ≠ g := by
      rintro rfl
      apply hg
      rw [hv]
      rfl
    exact (n.block g' hlt hne).trans hh
theorem zo_own {W W' : World} {base m c : Nat} {A : Option Addr} {l : List Int} {row : Option Nat} (h : Zo W base A m c l) (hg : W.grownBy W' row) (hr : ∀ r, row = some r → ∃ o : Obj, W.heap[r]? = some o ∧ o.isCells = false) : Zo W' base A m c l := by
  refine ⟨h.1, ?_⟩
  rcases h.2 with h0 | ⟨g, cap, cur, hv, hb, hh, r⟩
  · exact .inl h0
  · exact .inr ⟨g, cap, cur, hv, hb, (blk_own ⟨hh⟩ hg hr).blk, r⟩
theorem wpListIn_load_midT {F : Fence} {nF : Nat} {P : Program} {ops : Array Oper} {rest : List Oper} {o : Oper} {a : Act} {w : World} {Q : Exit → Act → World → Prop} (hgd : o.guard = none) (ty : TypeId) (x : Operand) (ho : o.op = .load ty x)
    (g off : Nat) (hx : a.eval x = .pointer (some ⟨g, off, none⟩)) (cs : List Value) (d : TypeDesc) (hc : w.rangeAt g off cs)
    (hu : P.underlying ty = some d) (hd : d.isRow = true) (hi : (P.info? ty).map (·.size) = some cs.length)
    (h : wpListIn F nF P ops Q rest (a.put o.dst (.agg cs.toArray)) w) : wpListIn F nF P ops Q (o :: rest) a w := by
  refine wpListIn_plain hgd fun K hK => ?_
  have hr := run_loadVar_mid (P := P) w g off ty cs d hc hu hd hi
  unfold Oper.wpIn
  refine ⟨by simp [Oper.about, ho], ?_⟩
  rw [Oper.semAt_plain F _ _ (by rw [ho]; intro c hc'; cases hc')]
  simp only [execOp, ho, hx, Instr.loadAt, Instr.sureAddr, Sem.run_bind, Sem.run_pure, Result.andThen_ok, hr]
  exact hK _ _ h
theorem grown_of_belowT {w w' : World} (h : Below w.heap.size w w') : w.grownBy w' none := ⟨h.os, h.tape, h.output, h.size, fun k hk _ => h.block k hk⟩
theorem keeps_grownT {B : Nat} {W W' : World} {row : Option Nat} (hg : W.grownBy W' row) (hr : ∀ r, row = some r → ∃ cs, W.heap[r]? = some (.cells cs 3 (0, 0))) : KeepsFrom B W W' := ⟨hg.size, fun k o _ hk ho =>
  (hg.block k (Array.getElem?_eq_some_iff.1 hk).1 fun e => by
    obtain ⟨cs', h'⟩ := hr k e.symm
    rw [hk] at h'
    cases h'
    cases ho).trans hk⟩
theorem keeps_butT {B g : Nat} {W W' : World} {cs : Array Value} {t : TypeId} (n : But g W W') (k : Blk W g cs t) : KeepsFrom B W W' := ⟨n.size, fun j o _ hj ho =>
  (n.block j (Array.getElem?_eq_some_iff.1 hj).1 fun e => by
    subst e
    have h := k.blk
    rw [hj] at h
    cases h
    cases ho).trans hj⟩
structure Kt (n₀ g : Nat) (W W' : World) : Prop where
  b : Below n₀ W W'
  g : W'.heap[g]? = W.heap[g]?
theorem Kt.refl (n₀ g : Nat) (W : World) : Kt n₀ g W W := ⟨Below.refl _ _, rfl⟩
theorem Kt.trans {n₀ g : Nat} {A B C : World} (h : Kt n₀ g A B) (k : Kt n₀ g B C) : Kt n₀ g A C := ⟨h.b.trans k.b, k.g.trans h.g⟩
theorem Kt.below {n₀ g : Nat} {A B : World} (h : Below A.heap.size A B) (hn : n₀ ≤ A.heap.size) (hg : g < A.heap.size) : Kt n₀ g A B := ⟨h.mono hn, h.block g hg⟩
structure IdR (g3 : Nat) (l : List Int) (W : World) : Prop where
  r : ∃ G gm gc, Blk W g3 #[.slice G gm gc] 40 ∧ Zo W (g3 + 1) G gm gc l
theorem IdR.own {A B : World} {g3 : Nat} {l : List Int} {row : Option Nat} (h : IdR g3 l A) (hg : A.grownBy B row) (hr : ∀ r, row = some r → ∃ o : Obj, A.heap[r]? = some o ∧ o.isCells = false) : IdR g3 l B := by
  obtain ⟨G, gm, gc, k, z⟩ := h.r
  exact ⟨G, gm, gc, blk_own k hg hr, zo_own z hg hr⟩
theorem IdR.below {A B : World} {g3 : Nat} {l : List Int} (h : IdR g3 l A) (hg : Below A.heap.size A B) : IdR g3 l B := by
  obtain ⟨G, gm, gc, k, z⟩ := h.r
  exact ⟨G, gm, gc, k.below hg k.lt, z.below hg (Nat.le_refl _)⟩
theorem results_tmp1 {P : Program} {fn : Func} {p : Tmp} (h : fn.results = #[.tmp p]) (tmps : Array Value) (w : World) : (results fn tmps).run P w = .ok (tmps.getD p undef) w := by
  simp [results, h]
end Go.Proofs.Ytolalbpjaebfdaa
namespace Go.Proofs.Ytolalbpjaebfdaa
open Go.RowKit Go.Shelf
attribute [local go_sem] Oper.semAt_some
set_option linter.unusedVariables false
set_option linter.unusedSimpArgs false
def rdyF (R : List Rn) : List Int := (R.filter fun x => x.s == 0).map (·.i)
theorem rdyF_take {R : List Rn} {k : Nat} (hk : k < R.length) : rdyF (R.take (k + 1)) = rdyF (R.take k) ++ if ((R.getD k rn0).s == 0) = true then [(R.getD k rn0).i] else [] := by
  rw [List.take_succ_eq_append_getElem hk, show R.getD k rn0 = R[k] by simp [List.getD, hk]]
  unfold rdyF
  rw [List.filter_append, List.map_append, List.filter_cons]
  cases (R[k].s == 0) <;> simp
theorem rdyF_pre {R : List Rn} (k : Nat) : rdyF (R.take k) <+: rdyF R := by
  unfold rdyF
  exact ((List.take_prefix k R).filter _).map _
theorem rdyF_len (R : List Rn) : (rdyF R).length ≤ R.length := by
  unfold rdyF
  rw [List.length_map]
  exact List.length_filter_le _ _
theorem skip_wideS {n : Nat} {P : Program} {ops : Array Oper} {Q : Exit → Act → World → Prop} {a : Act} {w : World} {rest : List Oper} {o : Oper} (hw : Region.wanted o (yielded ops a.tmps) = false)
    (h : wpListIn Fence.wide n P ops Q rest (a.put o.dst undef) w) : wpListIn Fence.wide n P ops Q (o :: rest) a w := by
  unfold wpListIn
  rw [hw]
  exact ⟨fun _ _ => trivial, h⟩
theorem ready_any (A : Option Addr) (m c : Nat) (A2 : Option Addr) (m2 c2 : Nat) (w : World) :
    Calls Try.prog 62 #[scV A m c A2 m2 c2] w fun e w' => e = .returned (.func (.func 83) #[] #[.pointer (some ⟨w.heap.size, 0, none⟩)]) ∧ w' = w.alloc (.cells (scC A m c A2 m2 c2) 25) := by
  unfold scV scC
  go_enter Try.func62, Try.ntmps62
  go_wp2
  go_ret
  exact ⟨rfl, rfl⟩
set_option maxRecDepth 100000 in
set_option maxHeartbeats 4000000 in
theorem ready_seq (n : Nat) (hn : 1 ≤ n) (n₀ g : Nat) (A : Option Addr) (m c : Nat) (R : List Rn) (A2 : Option Addr) (m2 c2 : Nat) (w : World) (hP : RsR w n₀ A R) (hg : Blk w g (scC A m c A2 m2 c2) 25) (hm : m = R.length) (h6 : m ≤ 1000000) (hgn : n₀ ≤ g) (hgw : g < w.heap.size) :
    SeqStopsK Fence.wide n Try.prog 83 #[.pointer (some ⟨g, 0, none⟩)] (fun x : Int => #[.int .i64 x]) (Kt n₀ g) (fun xs => xs = rdyF R) (fun pre => pre <+: rdyF R) (rdyF R).length w := by
  intro lp J Jx W hW hJ hJx hY h0
  have HM := Lib.hid hm
  clear hm
  have gW : Blk W g (scC A m c A2 m2 c2) 25 := hg.below hW hgw
  have PW := hP.below hW (by omega)
  have hgW : g < W.heap.size := gW.lt
  have hc0 : W.cell? ⟨g, 0, none⟩ = some (.slice A m c) := gW.cell 0
  refine callsIn_of_wp Try.func83 rfl trivial ?_ rfl
  simp only [Try.ntmps83, List.size_toArray, List.length_cons, List.length_nil, Nat.reduceAdd, Nat.reduceSub, Array.replicate_succ, Array.replicate_zero, List.push_toArray, List.append_toArray, List.nil_append, List.cons_append]
  gi_wp2
  clear hc0
  gi_loopw [8] (fun i wr => ∃ (k : Nat) (pre : List Int), k ≤ m ∧ i = .int .i64 k ∧ pre = rdyF (R.take k) ∧ J pre wr ∧ Kt n₀ g W wr) (fun i _ => m - (intOf i).toNat)
  case atStart => exact ⟨0, [], Nat.zero_le _, rfl, rfl, h0, Kt.refl _ _ _⟩
  case round =>
    obtain ⟨k, pre, hk, rfl, hpm, hJs, hB⟩ := hrel
    have HP := Lib.hid hpm
    clear hpm
    by_cases hlt : k < m
    · have hlt' : (k : Int) < m := by omega
      have hkl : k < R.length := by have := HM.out; omega
      obtain ⟨b, off, rfl, hb, hc⟩ := PW k hkl
      have hcr := range_below3 hc hB.b hb
      have hgr : g < wr.heap.size := Nat.lt_of_lt_of_le hgW hB.b.size
      have HTK := Lib.hid (rdyF_take hkl)
      have HPR := Lib.hid (rdyF_pre (R := R) (k + 1))
      clear hkl
      generalize R.getD k rn0 = x at hcr HTK hc
      have hs3 : (rnC x).size = 3 := rn_size x
      cases hx : (x.s == 0)
      · have HT2 := Lib.hid (show rdyF (R.take (k + 1)) = rdyF (R.take k) by rw [HTK.out, hx, if_neg (by simp), List.append_nil])
        gi_wp2_with (first
          | (refine wpListIn_load_midT rfl 52 (.tmp 10) rfl b (off + k * 3) rfl (rnC x).toList _ hcr Try.underlying52 rfl (rn_infL x) ?_)
          | (refine wpListIn_store_blk rfl 52 (.tmp 4) (.tmp 11) rfl wr.heap.size (rnC rn0) (rnC x) 52 rfl rfl (Blk.new _ _ _) rfl (rn_inf x) (rn_one x) ?_
             intro w1 hw1 hn1
             have b1 : Below wr.heap.size wr w1 := ((Below.refl _ wr).alloc (Nat.le_refl _) _).trans (hn1.below _ (Nat.le_refl _) (by simp))
             have hJ1 := hJ pre wr w1 none hJs (grown_of_belowT b1) (fun r e => by cases e)
             have hB1 : Kt n₀ g W w1 := hB.trans (Kt.below b1 (by omega) hgr)
             have q2 : w1.cell? ⟨wr.heap.size, 1, none⟩ = some (.int .i64 x.s) := hw1.cell 1
             clear hJs hn1)
          | (refine skip_wideS rfl ?_))
        exact ⟨⟨k + 1, pre, by omega, by go_num, by rw [HT2.out, HP.out], hJ1, hB1⟩, by simp [intOf]; omega⟩
      · have HT2 := Lib.hid (show rdyF (R.take (k + 1)) = rdyF (R.take k) ++ [x.i] by rw [HTK.out, hx, if_pos rfl])
        have hlen : pre.length < (rdyF R).length := by
          have h1 := HPR.out.length_le
          rw [HT2.out, ← HP.out, List.length_append] at h1
          simp at h1
          omega
        gi_wp2_with (first
          | (refine wpListIn_load_midT rfl 52 (.tmp 10) rfl b (off + k * 3) rfl (rnC x).toList _ hcr Try.underlying52 rfl (rn_infL x) ?_)
          | (refine wpListIn_store_blk rfl 52 (.tmp 4) (.tmp 11) rfl wr.heap.size (rnC rn0) (rnC x) 52 rfl rfl (Blk.new _ _ _) rfl (rn_inf x) (rn_one x) ?_
             intro w1 hw1 hn1
             have b1 : Below wr.heap.size wr w1 := ((Below.refl _ wr).alloc (Nat.le_refl _) _).trans (hn1.below _ (Nat.le_refl _) (by simp))
             have hJ1 := hJ pre wr w1 none hJs (grown_of_belowT b1) (fun r e => by cases e)
             have hB1 : Kt n₀ g W w1 := hB.trans (Kt.below b1 (by omega) hgr)
             have q2 : w1.cell? ⟨wr.heap.size, 1, none⟩ = some (.int .i64 x.s) := hw1.cell 1
             have q3 : w1.cell? ⟨wr.heap.size, 0, none⟩ = some (.int .i64 x.i) := hw1.cell 0
             obtain ⟨fn, tmps, assign, body, hy, hRd⟩ := hY pre x.i w1 hJ1 hlen
             clear hJs hn1))
        have hmap : pre ++ [x.i] = rdyF (R.take (k + 1)) := by rw [HT2.out, HP.out]
        have HMP := Lib.hid hmap
        clear hmap
        refine hRd.mono ?_
        rintro e W3 h3
        rcases h3 with ⟨rfl, hJ3, hb3⟩ | ⟨rfl, hJx3⟩
        · gi_wp2
          exact ⟨⟨k + 1, pre ++ [x.i], by omega, by go_num, HMP.out, hJ3, hB1.trans hb3⟩, by simp [intOf]; omega⟩
        · gi_wp2
          refine bodyPost_ret (results_none rfl _ _ _) rfl ?_
          exact ⟨⟨_, rfl⟩, .inr ⟨_, by rw [HMP.out]; exact HPR.out, hJx3⟩⟩
    · obtain rfl : k = m := by omega
      gi_wp2
      go_end0
      refine ⟨⟨_, rfl⟩, .inl ⟨pre, ?_, hJs⟩⟩
      rw [HP.out, HM.out, List.take_length]
end Go.Proofs.Ytolalbpjaebfdaa
namespace Go.Proofs.Ytolalbpjaebfdaa
open Go.RowKit Go.Shelf
attribute [local go_sem] Oper.semAt_some
set_option linter.unusedVariables false
set_option linter.unusedSimpArgs false
def rdyA (R : List Rn) (L : List Kw) : List Int := if scE R L = 0 then rdyF R else []
set_option maxRecDepth 100000 in
set_option maxHeartbeats 8000000 in
theorem ready_in (A : Option Addr) (m c : Nat) (R : List Rn) (A2 : Option Addr) (m2 c2 : Nat) (L : List Kw) (w : World) (h : Sc w w.heap.size A m c R A2 m2 c2 L) :
    CallsIn Fence.wide 6 Try.prog 23 #[scV A m c A2 m2 c2] w fun e w' => ∃ G gm gc, e = .returned (.slice G gm gc) ∧ Zo w' w.heap.size G gm gc (rdyA R L) ∧ Below w.heap.size w w' := by
  have J0 := CS.new w A m c A2 m2 c2
  have CK := callsIn_wide (n := 5) |>.2 (check_sc A m c R A2 m2 c2 L _ (h.on J0.b))
  have HRS := Lib.hid h.rs
  have HM := Lib.hid h.len
  have h6 : m ≤ 100000 := h.lim
  have TH := fun V => callsIn_wide (n := 5) |>.2 (ready_any A m c A2 m2 c2 V)
  obtain ⟨ck, hck⟩ : ∃ ck, scE R L = ck := ⟨_, rfl⟩
  rw [hck] at CK
  unfold rdyA
  rw [hck]
  clear h hck
  unfold scV at TH CK ⊢
  have HTH := Lib.hid TH
  clear TH
  obtain ⟨i0, hi, hz0, hz1, hz2⟩ := info_parts zint_info
  refine callsIn_of_wp_marks Try.func23 rfl trivial ?_ rfl
  simp only [Try.ntmps23, List.size_toArray, List.length_cons, List.length_nil, Nat.reduceAdd, Nat.reduceSub, Array.replicate_succ, Array.replicate_zero, List.push_toArray, List.append_toArray, List.nil_append, List.cons_append]
  by_cases h0 : ck = 0
  · subst h0
    rw [if_pos rfl]
    gi_wp2_with (first
      | (refine wpListIn_load_row rfl 25 (.tmp 1) rfl w.heap.size rfl 25 (scC A m c A2 m2 c2) (0, 0) _ J0.k.blk Try.underlying25 rfl (sc_inf A m c A2 m2 c2) ?_)
      | (refine ⟨trivial, CK.mono ?_⟩
         clear CK
         rintro e w1 ⟨rfl, bb⟩
         have J1 := J0.step bb
         have k1 := J1.k.alloc (.cells #[.slice none 0 0] 40)
         have k3 := Blk.new w1 #[.slice none 0 0] 40
         have B0 := J1.b.alloc J1.b.size (.cells #[.slice none 0 0] 40)
         have hs0 : (w1.alloc (.cells #[.slice none 0 0] 40)).heap.size = w1.heap.size + 1 := by simp
         have R0 : IdR w1.heap.size [] (w1.alloc (.cells #[.slice none 0 0] 40)) := ⟨none, 0, 0, k3, zo_nil _ _⟩
         have hg1 : w.heap.size < w1.heap.size := J1.k.lt
         clear bb J0)
      | (refine wpListIn_load_row rfl 25 (.tmp 1) rfl w.heap.size rfl 25 (scC A m c A2 m2 c2) (0, 0) _ k1.blk Try.underlying25 rfl (sc_inf A m c A2 m2 c2) ?_))
    clear k3 J1
    obtain ⟨N1, hN1⟩ : ∃ N, w1.heap.size = N := ⟨_, rfl⟩
    generalize hwq : w1.alloc (.cells #[.slice none 0 0] 40) = wq at k1 B0 hs0 R0 ⊢
    rw [hN1] at hs0 R0 hg1 ⊢
    clear hwq hN1
    refine ⟨trivial, (HTH.out _).mono ?_⟩
    rintro e w1 ⟨rfl, rfl⟩
    gi_wp2
    have ba : Below wq.heap.size wq (wq.alloc (.cells (scC A m c A2 m2 c2) 25)) := (Below.refl _ _).alloc (Nat.le_refl _) _
    have kT := Blk.new wq (scC A m c A2 m2 c2) 25
    have k1 := k1.below ba k1.lt
    have R1 := R0.below ba
    have B1 := B0.trans (ba.mono B0.size)
    have hs2 : (wq.alloc (.cells (scC A m c A2 m2 c2) 25)).heap.size = wq.heap.size + 1 := by simp
    generalize wq.alloc (.cells (scC A m c A2 m2 c2) 25) = w2 at kT k1 R1 B1 hs2 ⊢
    rw [hs0] at kT hs2
    have hbs : w.heap.size ≤ N1 + 1 := by omega
    clear ba HTH R0 B0
    have hseq := ready_seq 5 (by omega) w.heap.size (N1 + 1) A m c R A2 m2 c2 w2 (HRS.out.below B1 (Nat.le_refl _)) kT HM.out (by omega) hbs (by omega)
    refine wpIn_rangeFunc_ownG rfl (by omega) (gf := 83) (lb := #[.pointer (some ⟨N1 + 1, 0, none⟩)]) rfl trivial (enters_of Try.func83 (by kernel_rfl) rfl) hseq (fun h k => h.trans k) (fun W l o o' hl h hc hw => ⟨(belowK_b (w := w2) (Nat.le_refl _) W l o o' hl h hc hw).mono (by omega), World.putObj_heap_other (by omega)⟩) (Below.refl _ _) (fun _ => rfl)
      (fun pre W => IdR N1 pre W ∧ (Blk W (N1 + 1) (scC A m c A2 m2 c2) 25 ∧ (Below w.heap.size w W ∧ w2.heap.size ≤ W.heap.size))) (fun _ _ _ => False) ?hI ?hIx ⟨R1, kT, B1, Nat.le_refl _⟩
      (fun x => { tmps := #[.agg (scC A m c A2 m2 c2), .pointer (some ⟨w.heap.size, 0, none⟩), .slice none 0 0, .pointer (some ⟨N1, 0, none⟩), .int .i64 x, .agg (scC A m c A2 m2 c2), .int .i64 0, .bool false, .agg (scC A m c A2 m2 c2), .func (.func 83) #[] #[.pointer (some ⟨N1 + 1, 0, none⟩)], .int .i64 x, undef, undef, undef, undef, undef], defers := [] })
      ?assign ?body ?done ?stop
    case hI => exact OwnFrom.and (Own.from (I := fun (pre : List Int) W => IdR N1 pre W) (fun s A B row hs hg hr => hs.own hg hr) _) (OwnFrom.and (Own.from (I := fun (pre : List Int) W => Blk W (N1 + 1) (scC A m c A2 m2 c2) 25) (fun s A B row hs hg hr => blk_own hs hg hr) _) (OwnFrom.and (ownFrom_below (by omega) B1.size) (Own.from (fun s A B row hs hg hr => Nat.le_trans hs hg.size) _)))
    case hIx => exact fun cd => Own.from (fun s A B row hs hg hr => hs) _
    case assign =>
      intro l x W K hK
      gi_wp2
      exact hK
    case body =>
      rintro lp pre x W ⟨hR, kq, hB, hsW⟩ hpl
      have hrl := rdyF_len R
      have hml := HM.out
      obtain ⟨G, gm, gc, kg, zg⟩ := hR.r
      have hlg := zg.len
      have hgm : gm ≤ 1000000 := by omega
      have q30 : W.cell? ⟨N1, 0, none⟩ = some (.slice G gm gc) := kg.cell 0
      have ba : Below W.heap.size W (W.alloc (.cells #[.int .i64 x] 3)) := (Below.refl _ _).alloc (Nat.le_refl _) _
      have zg1 := zg.below ba (Nat.le_refl _)
      have hbs3 := hB.size
      clear hlg hseq kT k1 R1 B1 hrl hml
      gi_wp2_with (first
        | (gi_at_builtin; refine wpListIn_append_own _ rfl _ _ 40 rfl (N1 + 1) 3 i0 _ 1 8 Try.underlying40 hi hz0 hz1 hz2 rfl (by decide) _ _ _ rfl zg1 ⟨W.heap.size, 0, none⟩ 1 1 [.int .i64 x] rfl rfl (cell_one_new _ _ _) (by simp [Value.oneCell']) (by simp only [maxLen]; omega) (by omega) (by simp; omega) ?_
           intro v' w3 hown' hgrow _
           obtain ⟨A9, c9, rfl⟩ := own_slice hown'
           have kg2 := kg.below ba kg.lt
           have kg3 : Blk w3 N1 #[.slice G gm gc] 40 := ⟨(hgrow.block _ kg2.lt (fun e => by have := (zg1.lt _ e.symm).1; omega)).trans kg2.blk⟩
           have q33 : w3.cell? ⟨N1, 0, none⟩ = some (.slice G gm gc) := kg3.cell 0
           have f33 := kg3.frozen 0))
      have bS : But N1 w3 (w3.setCell ⟨N1, 0, none⟩ (.slice A9 (gm + 1) c9)) := (But.refl _ w3).setCell (p := ⟨N1, 0, none⟩) (.inl rfl) _
      have hsa : (W.alloc (.cells #[.int .i64 x] 3)).heap.size = W.heap.size + 1 := by simp
      have hs3g : W.heap.size + 1 ≤ w3.heap.size := by have := hgrow.size; rw [hsa] at this; exact this
      have B3 : Below w.heap.size w w3 := (hB.trans (ba.mono hB.size)).grown hgrow (by rw [hsa]; omega) (fun r e => by have := (zg1.lt r e).1; omega)
      have B4 := B3.trans (bS.below _ (by omega) B3.size)
      have kg4 := kg3.set_ 0 (.slice A9 (gm + 1) c9)
      have zz : Zo w3 (N1 + 1) A9 (gm + 1) c9 (pre ++ [x]) := by
        unfold Zo
        rw [List.map_append]
        exact hown'
      have z4 := own_but zz bS (fun e => by have := (zz.lt _ e.symm).1; omega)
      have hrow : ∀ r, (Value.slice G gm gc).ownBlock = some r → ∃ cs, (W.alloc (.cells #[.int .i64 x] 3)).heap[r]? = some (.cells cs 3 (0, 0)) := fun r e => by
        rcases zg1.form with ⟨rfl, _, _, _⟩ | ⟨g9, rfl, _, _, cur, hh, _⟩
        · cases e
        · have e9 : some g9 = some r := e
          cases e9
          exact ⟨cur, hh⟩
      have kp : KeepsFrom (N1 + 1 + 1) W (w3.setCell ⟨N1, 0, none⟩ (.slice A9 (gm + 1) c9)) := ((keeps_grownT (grown_of_belowT ba) (fun r e => by cases e)).trans (keeps_grownT hgrow hrow)).trans (keeps_butT bS kg3)
      have bW : Below w.heap.size W (w3.setCell ⟨N1, 0, none⟩ (.slice A9 (gm + 1) c9)) := ((ba.mono hbs3).grown hgrow (by rw [hsa]; omega) (fun r e => by have := (zg1.lt r e).1; omega)).trans (bS.below _ (by omega) (by omega))
      have kq1 := kq.below ba kq.lt
      have hqr : some (N1 + 1) ≠ (Value.slice G gm gc).ownBlock := fun e => by
        obtain ⟨cs, hcs⟩ := hrow _ e.symm
        have := kq1.blk
        rw [hcs] at this
        have h9 : (3 : TypeId) = 25 := by injection this with this; injection this
        exact absurd h9 (by decide)
      have kq3 : Blk w3 (N1 + 1) (scC A m c A2 m2 c2) 25 := ⟨(hgrow.block _ kq1.lt hqr).trans kq1.blk⟩
      have kq9 := bS.blk7 kq3 (by omega)
      exact ⟨by rw [hs2]; exact kp, ⟨bW, kq9.blk.trans kq.blk.symm⟩, ⟨A9, gm + 1, c9, kg4, z4⟩, kq9, B4, by have := bS.size; omega⟩
    case done =>
      rintro D xs W hD hS ⟨hR, kq, hB, hsW⟩ hK
      subst hS
      obtain ⟨G, gm, gc, kg, zg⟩ := hR.r
      have q3 : W.cell? ⟨N1, 0, none⟩ = some (.slice G gm gc) := kg.cell 0
      have HKD := Lib.hid hK
      clear hseq hR kT k1 R1 B1 hK
      gi_wp2
      have hg3 := grownBy_putObj' W D (.deferred none)
      have hr3 : ∀ r, some D = some r → ∃ o : Obj, W.heap[r]? = some o ∧ o.isCells = false := fun r e => by cases e; exact ⟨_, HKD.out, rfl⟩
      refine ⟨by simp, .inl ⟨_, _, rfl, run_takeDeferred HKD.out, ?_⟩⟩
      exact ⟨_, results_tmp1 rfl _ _, G, gm, gc, rfl, (zo_own zg hg3 hr3).down (by omega), hB.trans (belowK_b (w := w) (Nat.le_refl _) W D _ _ (by omega) HKD.out rfl rfl)⟩
    case stop =>
      rintro D cd pre W hD _ hF
      exact hF.elim
  · have hne : (ck != 0) = true := by simpa using h0
    rw [if_neg h0]
    have H0 := Lib.hid h0
    clear h0
    gi_wp2_with (first
      | (refine wpListIn_load_row rfl 25 (.tmp 1) rfl w.heap.size rfl 25 (scC A m c A2 m2 c2) (0, 0) _ J0.k.blk Try.underlying25 rfl (sc_inf A m c A2 m2 c2) ?_)
      | (refine ⟨trivial, CK.mono ?_⟩
         clear CK
         rintro e w1 ⟨rfl, bb⟩
         have J1 := J0.step bb
         clear bb J0))
    refine ⟨_, results_tmp1 rfl _ _, ?_⟩
    exact ⟨none, 0, 0, rfl, zo_nil _ _, J1.b⟩
theorem ready_sc (A : Option Addr) (m c : Nat) (R : List Rn) (A2 : Option Addr) (m2 c2 : Nat) (L : List Kw) (w : World) (h : Sc w w.heap.size A m c R A2 m2 c2 L) :
    Calls Try.prog 23 #[scV A m c A2 m2 c2] w fun e w' => ∃ G gm gc, e = .returned (.slice G gm gc) ∧ Zo w' w.heap.size G gm gc (rdyA R L) ∧ Below w.heap.size w w' :=
  (callsIn_wide (n := 6)).1 (ready_in A m c R A2 m2 c2 L w h)
end Go.Proofs.Ytolalbpjaebfdaa

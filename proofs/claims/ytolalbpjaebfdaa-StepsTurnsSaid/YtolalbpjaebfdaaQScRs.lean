/-
  The reference's Ready, Same.
-/
import Derived.Test.YtolalbpjaebfdaaQScZ
import Derived.Test.YtolalbpjaebfdaaQScB
namespace Go.Proofs.Ytolalbpjaebfdaa
open Go.RowKit Go.Shelf
attribute [local go_sem] Oper.semAt_some
set_option linter.unusedVariables false
set_option linter.unusedSimpArgs false
def pickV (l : List Int) (n : Int) : Int × Bool := if l.length = 0 then (0, false) else (l.getD (max n 0 % (l.length : Int)).toNat 0, true)
set_option maxRecDepth 100000 in
set_option maxHeartbeats 4000000 in
theorem pick_sc (A : Option Addr) (m c : Nat) (R : List Rn) (A2 : Option Addr) (m2 c2 : Nat) (L : List Kw) (n : Int) (w : World) (h : Sc w w.heap.size A m c R A2 m2 c2 L) :
    Calls Try.prog 24 #[scV A m c A2 m2 c2, .int .i64 n] w fun e w' => e = .returned (.tuple #[.int .i64 (pickV (rdyA R L) n).1, .bool (pickV (rdyA R L) n).2]) ∧ Below w.heap.size w w' := by
  have J0 := CS.new w A m c A2 m2 c2
  have RD := Lib.hid (ready_sc A m c R A2 m2 c2 L _ (h.on J0.b))
  have hlen : (rdyA R L).length ≤ 100000 := by
    have h1 := rdyF_len R
    have h2 := h.len
    have h3 := h.lim
    unfold rdyA
    split
    · omega
    · simp
  generalize rdyA R L = l at RD hlen ⊢
  clear h
  unfold scV at *
  unfold pickV
  by_cases h0 : l.length = 0
  · rw [if_pos h0]
    have H0 := Lib.hid h0
    clear h0
    go_enter Try.func24, Try.ntmps24
    go_wp2_with (first
      | (refine wpList_load_row rfl 25 (.tmp 2) rfl w.heap.size rfl 25 (scC A m c A2 m2 c2) (0, 0) _ J0.k.blk Try.underlying25 rfl (sc_inf A m c A2 m2 c2) ?_)
      | (refine RD.out.mono ?_
         clear RD
         rintro e w1 ⟨G, gm, gc, rfl, zg, bb⟩
         obtain rfl : gm = 0 := by rw [zg.len]; exact H0.out
         have J1 := J0.step bb
         clear bb J0))
    refine bodyPost_ret (results_tmp2 rfl _ _ _) rfl ?_
    exact ⟨rfl, J1.b⟩
  · rw [if_neg h0]
    obtain ⟨q, hq⟩ : ∃ q : Nat, max n 0 % (l.length : Int) = q := ⟨(max n 0 % (l.length : Int)).toNat, by
      have := Int.emod_nonneg (max n 0) (show (l.length : Int) ≠ 0 by omega); omega⟩
    have hql : q < l.length := by
      have := Int.emod_lt_of_pos (max n 0) (show (0 : Int) < (l.length : Int) by omega); omega
    rw [hq]
    have HQ := Lib.hid hq
    have HQL := Lib.hid hql
    have hqt : ((q : Int)).toNat = q := by omega
    rw [hqt]
    clear hq hql hqt
    go_enter Try.func24, Try.ntmps24
    go_wp2_with (first
      | (refine wpList_load_row rfl 25 (.tmp 2) rfl w.heap.size rfl 25 (scC A m c A2 m2 c2) (0, 0) _ J0.k.blk Try.underlying25 rfl (sc_inf A m c A2 m2 c2) ?_)
      | (refine RD.out.mono ?_
         clear RD
         rintro e w1 ⟨G, gm, gc, rfl, zg, bb⟩
         have hgl := zg.len
         obtain ⟨b, off, rfl, hb, hc⟩ := zg.ri q HQL.out
         have J1 := J0.step bb
         have hg0 : ((gm : Int) == 0) = false := by simp; omega
         have hgz : ¬ ((gm : Int) = 0) := by omega
         have hqm : (q : Int) < (gm : Int) := by have := HQL.out; omega
         have hmx : (0 : Int) ≤ max n 0 := by omega
         have hrm : (max n 0).tmod (gm : Int) = (q : Int) := by rw [Int.tmod_eq_emod_of_nonneg hmx, hgl]; exact HQ.out
         have HGL := Lib.hid hgl
         clear bb J0 hgl hmx))
    refine bodyPost_ret (results_tmp2 rfl _ _ _) rfl ?_
    exact ⟨rfl, J1.b⟩
def ownerF (L : List Kw) (n : Int) : Int := match lockF L n with | some x => x.1.o | none => 0
section
variable {A : Option Addr} {m c : Nat} {R : List Rn} {A2 : Option Addr} {m2 c2 : Nat} {L : List Kw} {w : World}
set_option maxRecDepth 100000 in
set_option maxHeartbeats 4000000 in
theorem owner1_sc (n : Int) (h : Sc w w.heap.size A m c R A2 m2 c2 L) (hu : UpK L) :
    Calls Try.prog 53 #[scV A m c A2 m2 c2, .int .i64 n] w fun e w' => e = .returned (.int .i64 (ownerF L n)) ∧ Below w.heap.size w w' := by
  have J0 := CS.new w A m c A2 m2 c2
  have RN := Lib.hid (held_sc n (h.on J0.b) hu)
  obtain ⟨E, hE⟩ : ∃ E, ownerF L n = E := ⟨_, rfl⟩
  rw [hE]
  unfold ownerF at hE
  have HM := Lib.hid h.len2
  cases hct : (numsK L).contains n
  · rw [hct] at RN
    rw [lockF_none hct] at hE
    have hr : E = 0 := hE.symm
    generalize lessP (numsK L) n = k at RN
    clear hE hct hu h
    unfold scV at *
    go_enter Try.func53, Try.ntmps53
    go_wp2_with (first
      | (refine wpList_load_row rfl 25 (.tmp 2) rfl w.heap.size rfl 25 (scC A m c A2 m2 c2) (0, 0) _ J0.k.blk Try.underlying25 rfl (sc_inf A m c A2 m2 c2) ?_)
      | (refine RN.out.mono ?_; clear RN; rintro e w1 ⟨rfl, bb⟩; have J1 := J0.step bb))
    go_ret
    exact ⟨by rw [hr]; rfl, J1.b⟩
  · rw [hct] at RN
    obtain ⟨hk, _, hf⟩ := lockF_some hu hct
    rw [hf] at hE
    have HP := Lib.hid (fun (V : World) (hV : Below w.heap.size w V) => (h.ks.below hV (Nat.le_refl _)) _ hk)
    generalize lessP (numsK L) n = k at *
    have hkm : (k : Int) < (m2 : Int) := by have := HM.out; omega
    generalize L.getD k kw0 = x at *
    have hE : x.1.o = E := hE
    clear hct hu h hf hk
    unfold scV at *
    go_enter Try.func53, Try.ntmps53
    go_wp2_with (first
      | (refine wpList_load_row rfl 25 (.tmp 2) rfl w.heap.size rfl 25 (scC A m c A2 m2 c2) (0, 0) _ J0.k.blk Try.underlying25 rfl (sc_inf A m c A2 m2 c2) ?_)
      | (refine RN.out.mono ?_
         clear RN
         rintro e w1 ⟨rfl, bb⟩
         have J1 := J0.step bb
         obtain ⟨b, off, rfl, hb, hc⟩ := HP.out _ J1.b
         have q2 : w1.cell? ⟨w.heap.size, 1, none⟩ = some (.slice (some ⟨b, off, none⟩) m2 c2) := J1.c1
         have q3 : w1.cell? ⟨b, off + k * 3 + 1, none⟩ = some (.int .i64 x.1.o) := hc 1 _ rfl
         clear hc bb J0))
    go_ret
    exact ⟨by rw [← hE]; rfl, J1.b⟩
def ownerA (R : List Rn) (L : List Kw) (n : Int) : Int := if scE R L = 0 then ownerF L n else 0
theorem scE_or (R : List Rn) (L : List Kw) : (scE R L = 0 ∧ schB R L = true) ∨ (scE R L = 230 ∧ schB R L = false) := by
  unfold scE
  cases schB R L
  · exact .inr ⟨rfl, rfl⟩
  · exact .inl ⟨rfl, rfl⟩
theorem schB_up {R : List Rn} {L : List Kw} (h : schB R L = true) : UpR R ∧ UpK L := by
  unfold schB at h
  simp only [Bool.and_eq_true] at h
  exact ⟨(riseT_up h.2.1).1, (riseT_up h.2.2.1).1⟩
theorem scE_up {R : List Rn} {L : List Kw} (h : scE R L = 0) : UpR R ∧ UpK L := by
  rcases scE_or R L with ⟨_, h2⟩ | ⟨h1, _⟩
  · exact schB_up h2
  · omega
set_option maxRecDepth 100000 in
set_option maxHeartbeats 4000000 in
theorem owner_sc (n : Int) (h : Sc w w.heap.size A m c R A2 m2 c2 L) :
    Calls Try.prog 27 #[scV A m c A2 m2 c2, .int .i64 n] w fun e w' => e = .returned (.int .i64 (ownerA R L n)) ∧ Below w.heap.size w w' := by
  have J0 := CS.new w A m c A2 m2 c2
  have CK := Lib.hid (check_sc A m c R A2 m2 c2 L _ (h.on J0.b))
  have OW := Lib.hid (fun (hc : scE R L = 0) (V : World) (hV : Below w.heap.size w V) => owner1_sc n (h.on hV) (scE_up hc).2)
  unfold ownerA
  generalize ownerF L n = E at OW ⊢
  generalize scE R L = ck at CK OW ⊢
  clear h
  unfold scV at *
  by_cases h0 : ck = 0
  · subst h0
    have OW2 := Lib.hid (OW.out rfl)
    clear OW
    rw [if_pos rfl]
    go_enter Try.func27, Try.ntmps27
    go_wp2_with (first
      | (refine wpList_load_row rfl 25 (.tmp 2) rfl w.heap.size rfl 25 (scC A m c A2 m2 c2) (0, 0) _ J0.k.blk Try.underlying25 rfl (sc_inf A m c A2 m2 c2) ?_)
      | (refine CK.out.mono ?_
         clear CK
         rintro e w1 ⟨rfl, bb⟩
         have J1 := J0.step bb
         clear bb J0)
      | (refine wpList_load_row rfl 25 (.tmp 2) rfl w.heap.size rfl 25 (scC A m c A2 m2 c2) (0, 0) _ J1.k.blk Try.underlying25 rfl (sc_inf A m c A2 m2 c2) ?_)
      | (refine (OW2.out _ J1.b).mono ?_
         clear OW2
         rintro e w2 ⟨rfl, bb⟩
         have J2 := J1.step bb))
    go_ret
    exact ⟨rfl, J2.b⟩
  · have hne : (ck != 0) = true := by simpa using h0
    rw [if_neg h0]
    clear h0 OW
    go_enter Try.func27, Try.ntmps27
    go_wp2_with (first
      | (refine wpList_load_row rfl 25 (.tmp 2) rfl w.heap.size rfl 25 (scC A m c A2 m2 c2) (0, 0) _ J0.k.blk Try.underlying25 rfl (sc_inf A m c A2 m2 c2) ?_)
      | (refine CK.out.mono ?_
         clear CK
         rintro e w1 ⟨rfl, bb⟩
         have J1 := J0.step bb
         clear bb J0))
    go_ret
    exact ⟨rfl, J1.b⟩
end
def ownsF (L : List Kw) (id : Int) : List Int := (L.filter fun x => x.1.o == id).map (·.1.n)
theorem ownsF_len (L : List Kw) (id : Int) : (ownsF L id).length ≤ L.length := by
  unfold ownsF
  rw [List.length_map]
  exact List.length_filter_le _ _
theorem ownsF_take {L : List Kw} {k : Nat} (hk : k < L.length) (id : Int) : ownsF (L.take (k + 1)) id = ownsF (L.take k) id ++ if ((L.getD k kw0).1.o == id) = true then [(L.getD k kw0).1.n] else [] := by
  rw [List.take_succ_eq_append_getElem hk, show L.getD k kw0 = L[k] by simp [List.getD, hk]]
  unfold ownsF
  rw [List.filter_append, List.map_append, List.filter_cons]
  cases (L[k].1.o == id) <;> simp
set_option maxRecDepth 100000 in
set_option maxHeartbeats 8000000 in
theorem owned_in (A : Option Addr) (m c : Nat) (R : List Rn) (A2 : Option Addr) (m2 c2 : Nat) (L : List Kw) (id : Int) (w : World) (h : Sc w w.heap.size A m c R A2 m2 c2 L) :
    CallsIn Fence.wide 6 Try.prog 42 #[scV A m c A2 m2 c2, .int .i64 id] w fun e w' => ∃ G gm gc, e = .returned (.slice G gm gc) ∧ Zo w' w.heap.size G gm gc (ownsF L id) ∧ Below w.heap.size w w' := by
  have k1 := Blk.new w (scC A m c A2 m2 c2) 25
  have B0 := (Below.refl w.heap.size w).alloc (Nat.le_refl _) (.cells (scC A m c A2 m2 c2) 25)
  have hs0 : (w.alloc (.cells (scC A m c A2 m2 c2) 25)).heap.size = w.heap.size + 1 := by simp
  have q2 : (w.alloc (.cells (scC A m c A2 m2 c2) 25)).cell? ⟨w.heap.size, 1, none⟩ = some (.slice A2 m2 c2) := k1.cell 1
  have HM := Lib.hid h.len2
  have HK := Lib.hid h.ks
  have h6 : m2 ≤ 100000 := h.lim2
  clear h
  unfold scV
  obtain ⟨i0, hi, hz0, hz1, hz2⟩ := info_parts zint_info
  refine callsIn_of_wp_marks Try.func42 rfl trivial ?_ rfl
  simp only [Try.ntmps42, List.size_toArray, List.length_cons, List.length_nil, Nat.reduceAdd, Nat.reduceSub, Array.replicate_succ, Array.replicate_zero, List.push_toArray, List.append_toArray, List.nil_append, List.cons_append]
  gi_wp2
  clear q2
  gi_loopw [5, 11] (fun q i wr => ∃ (k : Nat) (G : Option Addr) (gm gc : Nat), k ≤ m2 ∧ i = .int .i64 k ∧ q = .slice G gm gc ∧ Hid (Zo wr (w.heap.size + 1) G gm gc (ownsF (L.take k) id)) ∧ Hid (Below w.heap.size w wr) ∧ w.heap.size < wr.heap.size) (fun _ i _ => m2 - (intOf i).toNat)
  case atStart => exact ⟨0, none, 0, 0, Nat.zero_le _, rfl, rfl, Lib.hid (zo_nil _ _), Lib.hid B0, by simp⟩
  case round =>
    clear k1 B0 hs0
    obtain ⟨k, G, gm, gc, hk, rfl, rfl, HZ, HB, hsz⟩ := hrel
    obtain ⟨wq, rfl⟩ : ∃ wq : World, wq = wr := ⟨_, rfl⟩
    have hgm : gm ≤ 1000000 := by
      have := HZ.out.len
      have h1 := ownsF_len (L.take k) id
      rw [List.length_take] at h1
      omega
    by_cases hlt : k < m2
    · have hlt' : (k : Int) < m2 := by omega
      have hkl : k < L.length := by have := HM.out; omega
      have zg := HZ.out
      obtain ⟨b, off, rfl, hb, hc⟩ := (HK.out.below HB.out (Nat.le_refl _)) k hkl
      have HTK := Lib.hid (ownsF_take hkl id)
      generalize L.getD k kw0 = x at hc HTK
      have hs3 : (kwC x).size = 3 := kw_size x
      have hbz := HB.out.size
      cases hq1 : (x.1.o == id)
      · have HT2 := Lib.hid (show ownsF (L.take (k + 1)) id = ownsF (L.take k) id by rw [HTK.out, hq1, if_neg (by simp), List.append_nil])
        gi_wp2_with (first
          | (refine wpListIn_load_midT rfl 48 (.tmp 13) rfl b (off + k * 3) rfl (kwC x).toList _ hc Try.underlying48 rfl (kw_infL x) ?_)
          | (refine wpListIn_store_blk rfl 48 (.tmp 7) (.tmp 14) rfl wq.heap.size (kwC kw0) (kwC x) 48 rfl rfl (Blk.new _ _ _) rfl (kw_inf x) (kw_one x) ?_
             intro w1 hw1 hn1
             have b1 : Below wq.heap.size wq w1 := ((Below.refl _ wq).alloc (Nat.le_refl _) _).trans (hn1.below _ (Nat.le_refl _) (by simp))
             have hs1 : wq.heap.size ≤ w1.heap.size := b1.size
             have zg0 := zg.below b1 (Nat.le_refl _)
             have q51 : w1.cell? ⟨wq.heap.size, 1, none⟩ = some (.int .i64 x.1.o) := hw1.cell 1
             clear hn1))
        refine ⟨⟨k + 1, G, gm, gc, by omega, by go_num, rfl, Lib.hid ?_, Lib.hid (HB.out.trans (b1.mono HB.out.size)), by omega⟩, by simp [intOf]; omega⟩
        rw [HT2.out]
        exact zg0
      · have HT2 := Lib.hid (show ownsF (L.take (k + 1)) id = ownsF (L.take k) id ++ [x.1.n] by rw [HTK.out, hq1, if_pos rfl])
        gi_wp2_with (first
          | (refine wpListIn_load_midT rfl 48 (.tmp 13) rfl b (off + k * 3) rfl (kwC x).toList _ hc Try.underlying48 rfl (kw_infL x) ?_)
          | (refine wpListIn_store_blk rfl 48 (.tmp 7) (.tmp 14) rfl wq.heap.size (kwC kw0) (kwC x) 48 rfl rfl (Blk.new _ _ _) rfl (kw_inf x) (kw_one x) ?_
             intro w1 hw1 hn1
             have b1 : Below wq.heap.size wq w1 := ((Below.refl _ wq).alloc (Nat.le_refl _) _).trans (hn1.below _ (Nat.le_refl _) (by simp))
             have hs1 : wq.heap.size ≤ w1.heap.size := b1.size
             have zg0 := zg.below b1 (Nat.le_refl _)
             have q51 : w1.cell? ⟨wq.heap.size, 1, none⟩ = some (.int .i64 x.1.o) := hw1.cell 1
             have q50 : w1.cell? ⟨wq.heap.size, 0, none⟩ = some (.int .i64 x.1.n) := hw1.cell 0
             have ba : Below w1.heap.size w1 (w1.alloc (.cells #[.int .i64 x.1.n] 3)) := (Below.refl _ _).alloc (Nat.le_refl _) _
             have zg1 := zg0.below ba (Nat.le_refl _)
             clear hn1)
          | (gi_at_builtin; refine wpListIn_append_own _ rfl _ _ 40 rfl (w.heap.size + 1) 3 i0 _ 1 8 Try.underlying40 hi hz0 hz1 hz2 rfl (by decide) _ _ _ rfl zg1 ⟨w1.heap.size, 0, none⟩ 1 1 [.int .i64 x.1.n] rfl rfl (cell_one_new _ _ _) (by simp [Value.oneCell']) (by simp only [maxLen]; omega) (by omega) (by simp; omega) ?_
             intro v' w3 hown' hgrow _
             obtain ⟨A9, c9, rfl⟩ := own_slice hown'))
        have hsa : (w1.alloc (.cells #[.int .i64 x.1.n] 3)).heap.size = w1.heap.size + 1 := by simp
        have hB1 : Below w.heap.size w w3 := ((HB.out.trans (b1.mono HB.out.size)).trans (ba.mono (by omega))).grown hgrow (by rw [hsa]; omega) (fun r e => by have := (zg1.lt r e).1; omega)
        have hs3g : w1.heap.size + 1 ≤ w3.heap.size := by have := hgrow.size; rw [hsa] at this; exact this
        have zz : Zo w3 (w.heap.size + 1) A9 (gm + 1) c9 (ownsF (L.take (k + 1)) id) := by
          unfold Zo
          rw [HT2.out, List.map_append]
          exact hown'
        refine ⟨⟨k + 1, A9, gm + 1, c9, by omega, by go_num, rfl, Lib.hid zz, Lib.hid hB1, by omega⟩, by simp [intOf]; omega⟩
    · obtain rfl : k = m2 := by omega
      have zg := HZ.out
      rw [List.take_of_length_le (by have := HM.out; omega)] at zg
      gi_wp2
      refine ⟨_, results_tmp1 rfl _ _, ?_⟩
      exact ⟨G, gm, gc, rfl, zg.down (by omega), HB.out⟩
theorem owned_sc (A : Option Addr) (m c : Nat) (R : List Rn) (A2 : Option Addr) (m2 c2 : Nat) (L : List Kw) (id : Int) (w : World) (h : Sc w w.heap.size A m c R A2 m2 c2 L) :
    Calls Try.prog 42 #[scV A m c A2 m2 c2, .int .i64 id] w fun e w' => ∃ G gm gc, e = .returned (.slice G gm gc) ∧ Zo w' w.heap.size G gm gc (ownsF L id) ∧ Below w.heap.size w w' :=
  (callsIn_wide (n := 6)).1 (owned_in A m c R A2 m2 c2 L id w h)
end Go.Proofs.Ytolalbpjaebfdaa
namespace Go.Proofs.Ytolalbpjaebfdaa
open Go.RowKit Go.Shelf
set_option linter.unusedVariables false
set_option linter.unusedSimpArgs false
def eqK (x y : Kw) : Bool := x.1.n == y.1.n && (x.1.o == y.1.o && (x.1.q == y.1.q))
theorem eqK_iff (x y : Kw) : eqK x y = true ↔ x.1 = y.1 := by
  obtain ⟨⟨i, p, t⟩, r⟩ := x
  obtain ⟨⟨i2, p2, t2⟩, r2⟩ := y
  simp [eqK]
def EqK (L M : List Kw) (m m2 : Nat) (b : Bool) : Prop := b = true ↔ m = m2 ∧ ∀ k, k < m → eqK (L.getD k kw0) (M.getD k kw0) = true
theorem EqK.val {L M : List Kw} {m m2 : Nat} {b : Bool} (h : EqK L M m m2 b) (hm : m = L.length) (hm2 : m2 = M.length) : b = decide (L.map (·.1) = M.map (·.1)) := by
  have hi : (m = m2 ∧ ∀ k, k < m → eqK (L.getD k kw0) (M.getD k kw0) = true) ↔ L.map (·.1) = M.map (·.1) := by
    constructor
    · rintro ⟨h1, h2⟩
      refine List.ext_getElem (by simp; omega) fun k hk hk' => ?_
      have e := (eqK_iff _ _).1 (h2 k (by simp at hk; omega))
      simp only [List.length_map] at hk hk'
      simpa [List.getD, hk, hk'] using e
    · intro e
      have hl : L.length = M.length := by simpa using congrArg List.length e
      refine ⟨by omega, fun k hk => (eqK_iff _ _).2 ?_⟩
      have hk1 : k < L.length := by omega
      have hk2 : k < M.length := by omega
      have := congrArg (fun l => l[k]?) e
      simp only [List.getElem?_map, List.getElem?_eq_getElem hk1, List.getElem?_eq_getElem hk2, Option.map_some, Option.some.injEq] at this
      simpa [List.getD, hk1, hk2] using this
  cases b
  · rw [Eq.comm, decide_eq_false_iff_not]
    exact fun e => absurd (h.2 (hi.2 e)) (by decide)
  · rw [Eq.comm, decide_eq_true_iff]
    exact hi.1 (h.1 rfl)
end Go.Proofs.Ytolalbpjaebfdaa
namespace Go.Proofs.Ytolalbpjaebfdaa
open Go.RowKit Go.Shelf
set_option linter.unusedVariables false
set_option linter.unusedSimpArgs false
def fndR (L : List Rn) (n : Int) : Rn × Bool := match runF L n with | some x => (x, true) | none => (rn0, false)
def fndK (L : List Kw) (n : Int) : Kw × Bool := match lockF L n with | some x => (x, true) | none => (kw0, false)
end Go.Proofs.Ytolalbpjaebfdaa
namespace Go.Proofs.Ytolalbpjaebfdaa
open Go.RowKit Go.Shelf
attribute [local go_sem] Oper.semAt_some
set_option linter.unusedVariables false
set_option linter.unusedSimpArgs false
structure WS (w : World) (A : Option Addr) (m c : Nat) (A2 : Option Addr) (m2 c2 : Nat) (B : Option Addr) (n d : Nat) (B2 : Option Addr) (n2 d2 : Nat) (V : World) : Prop where
  b : Below w.heap.size w V
  k : Blk V w.heap.size (scC A m c A2 m2 c2) 25
  l : Blk V (w.heap.size + 1) (scC B n d B2 n2 d2) 25
theorem WS.step {w V V' : World} {A : Option Addr} {m c : Nat} {A2 : Option Addr} {m2 c2 : Nat} {B : Option Addr} {n d : Nat} {B2 : Option Addr} {n2 d2 : Nat} (h : WS w A m c A2 m2 c2 B n d B2 n2 d2 V) (b : Below V.heap.size V V') : WS w A m c A2 m2 c2 B n d B2 n2 d2 V' := ⟨h.b.trans (b.mono h.b.size), h.k.below b h.k.lt, h.l.below b h.l.lt⟩
end Go.Proofs.Ytolalbpjaebfdaa

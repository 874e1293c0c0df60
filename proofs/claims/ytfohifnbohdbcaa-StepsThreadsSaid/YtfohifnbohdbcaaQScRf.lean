/-
  The reference's Run, Lock, count, SameInts, Ready.
-/
import Derived.Test.YtfohifnbohdbcaaQScZ
import Derived.Test.YtfohifnbohdbcaaQScB
namespace Go.Proofs.Ytfohifnbohdbcaa
open Go.RowKit Go.Shelf
attribute [local go_sem] Oper.semAt_some
set_option linter.unusedVariables false
set_option linter.unusedSimpArgs false
def ownerF (L : List Kw) (n : Int) : Int := match lockF L n with | some x => x.1.o | none => 0
section
variable {A : Option Addr} {m c : Nat} {R : List Rn} {A2 : Option Addr} {m2 c2 : Nat} {L : List Kw} {w : World}
set_option maxRecDepth 100000 in
set_option maxHeartbeats 4000000 in
theorem owner1_sc (n : Int) (h : Sc w w.heap.size A m c R A2 m2 c2 L) (hu : UpK L) :
    Calls Try.prog 53 #[scV A m c A2 m2 c2, .int .i64 n] w fun e w' => e = .returned (.int .i64 (ownerF L n)) ∧ Below w.heap.size w w' := by
  have J0 := CS.new w A m c A2 m2 c2
  have RN := Lib.hid (held_sc n (h.on J0.b) hu)
  obtain ⟨E, hE⟩ : ∃ E, ownerF L n = E := ⟨_, rfl⟩
  rw [hE]
  unfold ownerF at hE
  have HM := Lib.hid h.len2
  cases hct : (numsK L).contains n
  · rw [hct] at RN
    rw [lockF_none hct] at hE
    have hr : E = 0 := hE.symm
    generalize lessP (numsK L) n = k at RN
    clear hE hct hu h
    unfold scV at *
    go_enter Try.func53, Try.ntmps53
    go_wp2_with (first
      | (refine wpList_load_row rfl 25 (.tmp 2) rfl w.heap.size rfl 25 (scC A m c A2 m2 c2) (0, 0) _ J0.k.blk Try.underlying25 rfl (sc_inf A m c A2 m2 c2) ?_)
      | (refine RN.out.mono ?_; clear RN; rintro e w1 ⟨rfl, bb⟩; have J1 := J0.step bb))
    go_ret
    exact ⟨by rw [hr]; rfl, J1.b⟩
  · rw [hct] at RN
    obtain ⟨hk, _, hf⟩ := lockF_some hu hct
    rw [hf] at hE
    have HP := Lib.hid (fun (V : World) (hV : Below w.heap.size w V) => (h.ks.below hV (Nat.le_refl _)) _ hk)
    generalize lessP (numsK L) n = k at *
    have hkm : (k : Int) < (m2 : Int) := by have := HM.out; omega
    generalize L.getD k kw0 = x at *
    have hE : x.1.o = E := hE
    clear hct hu h hf hk
    unfold scV at *
    go_enter Try.func53, Try.ntmps53
    go_wp2_with (first
      | (refine wpList_load_row rfl 25 (.tmp 2) rfl w.heap.size rfl 25 (scC A m c A2 m2 c2) (0, 0) _ J0.k.blk Try.underlying25 rfl (sc_inf A m c A2 m2 c2) ?_)
      | (refine RN.out.mono ?_
         clear RN
         rintro e w1 ⟨rfl, bb⟩
         have J1 := J0.step bb
         obtain ⟨b, off, rfl, hb, hc⟩ := HP.out _ J1.b
         have q2 : w1.cell? ⟨w.heap.size, 1, none⟩ = some (.slice (some ⟨b, off, none⟩) m2 c2) := J1.c1
         have q3 : w1.cell? ⟨b, off + k * 3 + 1, none⟩ = some (.int .i64 x.1.o) := hc 1 _ rfl
         clear hc bb J0))
    go_ret
    exact ⟨by rw [← hE]; rfl, J1.b⟩
def ownerA (R : List Rn) (L : List Kw) (n : Int) : Int := if scE R L = 0 then ownerF L n else 0
theorem scE_or (R : List Rn) (L : List Kw) : (scE R L = 0 ∧ schB R L = true) ∨ (scE R L = 230 ∧ schB R L = false) := by
  unfold scE
  cases schB R L
  · exact .inr ⟨rfl, rfl⟩
  · exact .inl ⟨rfl, rfl⟩
theorem schB_up {R : List Rn} {L : List Kw} (h : schB R L = true) : UpR R ∧ UpK L := by
  unfold schB at h
  simp only [Bool.and_eq_true] at h
  exact ⟨(riseT_up h.2.1).1, (riseT_up h.2.2.1).1⟩
theorem scE_up {R : List Rn} {L : List Kw} (h : scE R L = 0) : UpR R ∧ UpK L := by
  rcases scE_or R L with ⟨_, h2⟩ | ⟨h1, _⟩
  · exact schB_up h2
  · omega
set_option maxRecDepth 100000 in
set_option maxHeartbeats 4000000 in
theorem owner_sc (n : Int) (h : Sc w w.heap.size A m c R A2 m2 c2 L) :
    Calls Try.prog 27 #[scV A m c A2 m2 c2, .int .i64 n] w fun e w' => e = .returned (.int .i64 (ownerA R L n)) ∧ Below w.heap.size w w' := by
  have J0 := CS.new w A m c A2 m2 c2
  have CK := Lib.hid (check_sc A m c R A2 m2 c2 L _ (h.on J0.b))
  have OW := Lib.hid (fun (hc : scE R L = 0) (V : World) (hV : Below w.heap.size w V) => owner1_sc n (h.on hV) (scE_up hc).2)
  unfold ownerA
  generalize ownerF L n = E at OW ⊢
  generalize scE R L = ck at CK OW ⊢
  clear h
  unfold scV at *
  by_cases h0 : ck = 0
  · subst h0
    have OW2 := Lib.hid (OW.out rfl)
    clear OW
    rw [if_pos rfl]
    go_enter Try.func27, Try.ntmps27
    go_wp2_with (first
      | (refine wpList_load_row rfl 25 (.tmp 2) rfl w.heap.size rfl 25 (scC A m c A2 m2 c2) (0, 0) _ J0.k.blk Try.underlying25 rfl (sc_inf A m c A2 m2 c2) ?_)
      | (refine CK.out.mono ?_
         clear CK
         rintro e w1 ⟨rfl, bb⟩
         have J1 := J0.step bb
         clear bb J0)
      | (refine wpList_load_row rfl 25 (.tmp 2) rfl w.heap.size rfl 25 (scC A m c A2 m2 c2) (0, 0) _ J1.k.blk Try.underlying25 rfl (sc_inf A m c A2 m2 c2) ?_)
      | (refine (OW2.out _ J1.b).mono ?_
         clear OW2
         rintro e w2 ⟨rfl, bb⟩
         have J2 := J1.step bb))
    go_ret
    exact ⟨rfl, J2.b⟩
  · have hne : (ck != 0) = true := by simpa using h0
    rw [if_neg h0]
    clear h0 OW
    go_enter Try.func27, Try.ntmps27
    go_wp2_with (first
      | (refine wpList_load_row rfl 25 (.tmp 2) rfl w.heap.size rfl 25 (scC A m c A2 m2 c2) (0, 0) _ J0.k.blk Try.underlying25 rfl (sc_inf A m c A2 m2 c2) ?_)
      | (refine CK.out.mono ?_
         clear CK
         rintro e w1 ⟨rfl, bb⟩
         have J1 := J0.step bb
         clear bb J0))
    go_ret
    exact ⟨rfl, J1.b⟩
end
def ownsF (L : List Kw) (id : Int) : List Int := (L.filter fun x => x.1.o == id).map (·.1.n)
theorem ownsF_len (L : List Kw) (id : Int) : (ownsF L id).length ≤ L.length := by
  unfold ownsF
  rw [List.length_map]
  exact List.length_filter_le _ _
theorem ownsF_take {L : List Kw} {k : Nat} (hk : k < L.length) (id : Int) : ownsF (L.take (k + 1)) id = ownsF (L.take k) id ++ if ((L.getD k kw0).1.o == id) = true then [(L.getD k kw0).1.n] else [] := by
  rw [List.take_succ_eq_append_getElem hk, show L.getD k kw0 = L[k] by simp [List.getD, hk]]
  unfold ownsF
  rw [List.filter_append, List.map_append, List.filter_cons]
  cases (L[k].1.o == id) <;> simp
set_option maxRecDepth 100000 in
set_option maxHeartbeats 8000000 in
theorem owned_in (A : Option Addr) (m c : Nat) (R : List Rn) (A2 : Option Addr) (m2 c2 : Nat) (L : List Kw) (id : Int) (w : World) (h : Sc w w.heap.size A m c R A2 m2 c2 L) :
    CallsIn Fence.wide 6 Try.prog 42 #[scV A m c A2 m2 c2, .int .i64 id] w fun e w' => ∃ G gm gc, e = .returned (.slice G gm gc) ∧ Zo w' w.heap.size G gm gc (ownsF L id) ∧ Below w.heap.size w w' := by
  have k1 := Blk.new w (scC A m c A2 m2 c2) 25
  have B0 := (Below.refl w.heap.size w).alloc (Nat.le_refl _) (.cells (scC A m c A2 m2 c2) 25)
  have hs0 : (w.alloc (.cells (scC A m c A2 m2 c2) 25)).heap.size = w.heap.size + 1 := by simp
  have q2 : (w.alloc (.cells (scC A m c A2 m2 c2) 25)).cell? ⟨w.heap.size, 1, none⟩ = some (.slice A2 m2 c2) := k1.cell 1
  have HM := Lib.hid h.len2
  have HK := Lib.hid h.ks
  have h6 : m2 ≤ 100000 := h.lim2
  clear h
  unfold scV
  obtain ⟨i0, hi, hz0, hz1, hz2⟩ := info_parts zint_info
  refine callsIn_of_wp_marks Try.func42 rfl trivial ?_ rfl
  simp only [Try.ntmps42, List.size_toArray, List.length_cons, List.length_nil, Nat.reduceAdd, Nat.reduceSub, Array.replicate_succ, Array.replicate_zero, List.push_toArray, List.append_toArray, List.nil_append, List.cons_append]
  gi_wp2
  clear q2
  gi_loopw [5, 11] (fun q i wr => ∃ (k : Nat) (G : Option Addr) (gm gc : Nat), k ≤ m2 ∧ i = .int .i64 k ∧ q = .slice G gm gc ∧ Hid (Zo wr (w.heap.size + 1) G gm gc (ownsF (L.take k) id)) ∧ Hid (Below w.heap.size w wr) ∧ w.heap.size < wr.heap.size) (fun _ i _ => m2 - (intOf i).toNat)
  case atStart => exact ⟨0, none, 0, 0, Nat.zero_le _, rfl, rfl, Lib.hid (zo_nil _ _), Lib.hid B0, by simp⟩
  case round =>
    clear k1 B0 hs0
    obtain ⟨k, G, gm, gc, hk, rfl, rfl, HZ, HB, hsz⟩ := hrel
    obtain ⟨wq, rfl⟩ : ∃ wq : World, wq = wr := ⟨_, rfl⟩
    have hgm : gm ≤ 1000000 := by
      have := HZ.out.len
      have h1 := ownsF_len (L.take k) id
      rw [List.length_take] at h1
      omega
    by_cases hlt : k < m2
    · have hlt' : (k : Int) < m2 := by omega
      have hkl : k < L.length := by have := HM.out; omega
      have zg := HZ.out
      obtain ⟨b, off, rfl, hb, hc⟩ := (HK.out.below HB.out (Nat.le_refl _)) k hkl
      have HTK := Lib.hid (ownsF_take hkl id)
      generalize L.getD k kw0 = x at hc HTK
      have hs3 : (kwC x).size = 3 := kw_size x
      have hbz := HB.out.size
      cases hq1 : (x.1.o == id)
      · have HT2 := Lib.hid (show ownsF (L.take (k + 1)) id = ownsF (L.take k) id by rw [HTK.out, hq1, if_neg (by simp), List.append_nil])
        gi_wp2_with (first
          | (refine wpListIn_load_midT rfl 48 (.tmp 13) rfl b (off + k * 3) rfl (kwC x).toList _ hc Try.underlying48 rfl (kw_infL x) ?_)
          | (refine wpListIn_store_blk rfl 48 (.tmp 7) (.tmp 14) rfl wq.heap.size (kwC kw0) (kwC x) 48 rfl rfl (Blk.new _ _ _) rfl (kw_inf x) (kw_one x) ?_
             intro w1 hw1 hn1
             have b1 : Below wq.heap.size wq w1 := ((Below.refl _ wq).alloc (Nat.le_refl _) _).trans (hn1.below _ (Nat.le_refl _) (by simp))
             have hs1 : wq.heap.size ≤ w1.heap.size := b1.size
             have zg0 := zg.below b1 (Nat.le_refl _)
             have q51 : w1.cell? ⟨wq.heap.size, 1, none⟩ = some (.int .i64 x.1.o) := hw1.cell 1
             clear hn1))
        refine ⟨⟨k + 1, G, gm, gc, by omega, by go_num, rfl, Lib.hid ?_, Lib.hid (HB.out.trans (b1.mono HB.out.size)), by omega⟩, by simp [intOf]; omega⟩
        rw [HT2.out]
        exact zg0
      · have HT2 := Lib.hid (show ownsF (L.take (k + 1)) id = ownsF (L.take k) id ++ [x.1.n] by rw [HTK.out, hq1, if_pos rfl])
        gi_wp2_with (first
          | (refine wpListIn_load_midT rfl 48 (.tmp 13) rfl b (off + k * 3) rfl (kwC x).toList _ hc Try.underlying48 rfl (kw_infL x) ?_)
          | (refine wpListIn_store_blk rfl 48 (.tmp 7) (.tmp 14) rfl wq.heap.size (kwC kw0) (kwC x) 48 rfl rfl (Blk.new _ _ _) rfl (kw_inf x) (kw_one x) ?_
             intro w1 hw1 hn1
             have b1 : Below wq.heap.size wq w1 := ((Below.refl _ wq).alloc (Nat.le_refl _) _).trans (hn1.below _ (Nat.le_refl _) (by simp))
             have hs1 : wq.heap.size ≤ w1.heap.size := b1.size
             have zg0 := zg.below b1 (Nat.le_refl _)
             have q51 : w1.cell? ⟨wq.heap.size, 1, none⟩ = some (.int .i64 x.1.o) := hw1.cell 1
             have q50 : w1.cell? ⟨wq.heap.size, 0, none⟩ = some (.int .i64 x.1.n) := hw1.cell 0
             have ba : Below w1.heap.size w1 (w1.alloc (.cells #[.int .i64 x.1.n] 3)) := (Below.refl _ _).alloc (Nat.le_refl _) _
             have zg1 := zg0.below ba (Nat.le_refl _)
             clear hn1)
          | (gi_at_builtin; refine wpListIn_append_own _ rfl _ _ 40 rfl (w.heap.size + 1) 3 i0 _ 1 8 Try.underlying40 hi hz0 hz1 hz2 rfl (by decide) _ _ _ rfl zg1 ⟨w1.heap.size, 0, none⟩ 1 1 [.int .i64 x.1.n] rfl rfl (cell_one_new _ _ _) (by simp [Value.oneCell']) (by simp only [maxLen]; omega) (by omega) (by simp; omega) ?_
             intro v' w3 hown' hgrow _
             obtain ⟨A9, c9, rfl⟩ := own_slice hown'))
        have hsa : (w1.alloc (.cells #[.int .i64 x.1.n] 3)).heap.size = w1.heap.size + 1 := by simp
        have hB1 : Below w.heap.size w w3 := ((HB.out.trans (b1.mono HB.out.size)).trans (ba.mono (by omega))).grown hgrow (by rw [hsa]; omega) (fun r e => by have := (zg1.lt r e).1; omega)
        have hs3g : w1.heap.size + 1 ≤ w3.heap.size := by have := hgrow.size; rw [hsa] at this; exact this
        have zz : Zo w3 (w.heap.size + 1) A9 (gm + 1) c9 (ownsF (L.take (k + 1)) id) := by
          unfold Zo
          rw [HT2.out, List.map_append]
          exact hown'
        refine ⟨⟨k + 1, A9, gm + 1, c9, by omega, by go_num, rfl, Lib.hid zz, Lib.hid hB1, by omega⟩, by simp [intOf]; omega⟩
    · obtain rfl : k = m2 := by omega
      have zg := HZ.out
      rw [List.take_of_length_le (by have := HM.out; omega)] at zg
      gi_wp2
      refine ⟨_, results_tmp1 rfl _ _, ?_⟩
      exact ⟨G, gm, gc, rfl, zg.down (by omega), HB.out⟩
theorem owned_sc (A : Option Addr) (m c : Nat) (R : List Rn) (A2 : Option Addr) (m2 c2 : Nat) (L : List Kw) (id : Int) (w : World) (h : Sc w w.heap.size A m c R A2 m2 c2 L) :
    Calls Try.prog 42 #[scV A m c A2 m2 c2, .int .i64 id] w fun e w' => ∃ G gm gc, e = .returned (.slice G gm gc) ∧ Zo w' w.heap.size G gm gc (ownsF L id) ∧ Below w.heap.size w w' :=
  (callsIn_wide (n := 6)).1 (owned_in A m c R A2 m2 c2 L id w h)
end Go.Proofs.Ytfohifnbohdbcaa
namespace Go.Proofs.Ytfohifnbohdbcaa
open Go.RowKit Go.Shelf
set_option linter.unusedVariables false
set_option linter.unusedSimpArgs false
theorem eq_drop {l p : List Int} {k : Nat} (h : k < l.length) (h' : k < p.length) : (l.drop k == p.drop k) = ((l.getD k 0 == p.getD k 0) && (l.drop (k + 1) == p.drop (k + 1))) := by
  have e1 : l.getD k 0 = l[k] := by simp [List.getD, h]
  have e2 : p.getD k 0 = p[k] := by simp [List.getD, h']
  rw [e1, e2, List.drop_eq_getElem_cons h, List.drop_eq_getElem_cons h', List.cons_beq_cons]
end Go.Proofs.Ytfohifnbohdbcaa
namespace Go.Proofs.Ytfohifnbohdbcaa
open Go.RowKit Go.Shelf
set_option linter.unusedVariables false
set_option linter.unusedSimpArgs false
def eqK (x y : Kw) : Bool := x.1.n == y.1.n && (x.1.o == y.1.o && (x.1.q == y.1.q))
theorem eqK_iff (x y : Kw) : eqK x y = true ↔ x.1 = y.1 := by
  obtain ⟨⟨i, p, t⟩, r⟩ := x
  obtain ⟨⟨i2, p2, t2⟩, r2⟩ := y
  simp [eqK]
def sameS (R R2 : List Rn) (L L2 : List Kw) : Bool := eqR R R2 && decide (L.map (·.1) = L2.map (·.1))
end Go.Proofs.Ytfohifnbohdbcaa
namespace Go.Proofs.Ytfohifnbohdbcaa
open Go.RowKit Go.Shelf
set_option linter.unusedVariables false
set_option linter.unusedSimpArgs false
def fndR (L : List Rn) (n : Int) : Rn × Bool := match runF L n with | some x => (x, true) | none => (rn0, false)
theorem runF_drop {L : List Rn} {k : Nat} (h : k < L.length) (n : Int) : runF (L.drop k) n = if (numR (L.getD k rn0) == n) = true then some (L.getD k rn0) else runF (L.drop (k + 1)) n := by
  rw [List.drop_eq_getElem_cons h, show L.getD k rn0 = L[k] by simp [List.getD, h]]
  unfold runF
  rw [List.find?_cons]
  unfold numR
  split <;> simp_all
theorem fndR_drop {L : List Rn} {k : Nat} (h : k < L.length) (n : Int) : fndR (L.drop k) n = if (numR (L.getD k rn0) == n) = true then (L.getD k rn0, true) else fndR (L.drop (k + 1)) n := by
  unfold fndR
  rw [runF_drop h]
  cases (numR (L.getD k rn0) == n) <;> rfl
set_option maxRecDepth 100000 in
set_option maxHeartbeats 4000000 in
theorem find_R (A : Option Addr) (m c : Nat) (R : List Rn) (A2 : Option Addr) (m2 c2 : Nat) (L : List Kw) (n : Int) (w : World) (h : Sc w w.heap.size A m c R A2 m2 c2 L) :
    Calls Try.prog 38 #[scV A m c A2 m2 c2, .int .i64 n] w fun e w' => e = .returned (.tuple #[rnV (fndR R n).1, .bool (fndR R n).2]) ∧ Below w.heap.size w w' := by
  have k1 := (Blk.new w (scC A m c A2 m2 c2) 25).alloc (.cells (rnC rn0) 52)
  have k3 := Blk.new_ (w.alloc (.cells (scC A m c A2 m2 c2) 25)) (rnC rn0) 52 (n := w.heap.size + 1) (by simp)
  have B0 := ((Below.refl w.heap.size w).alloc (Nat.le_refl _) (.cells (scC A m c A2 m2 c2) 25)).alloc (by simp) (.cells (rnC rn0) 52)
  have HM := Lib.hid h.len
  have HS := Lib.hid h.rs
  have hm6 : m ≤ 100000 := h.lim
  obtain ⟨E, hE⟩ : ∃ E, fndR R n = E := ⟨_, rfl⟩
  rw [hE]
  have HE := Lib.hid hE
  clear hE h
  unfold scV at *
  go_enter Try.func38, Try.ntmps38
  go_wp2_with fail
  go_loopw [6] (fun i wr' => ∃ (k : Nat) (wr : World), wr = wr' ∧ k ≤ m ∧ i = .int .i64 k ∧ Hid (E = fndR (R.drop k) n) ∧ Below w.heap.size w wr ∧ Blk wr w.heap.size (scC A m c A2 m2 c2) 25 ∧ Blk wr (w.heap.size + 1) (rnC rn0) 52) (fun i _ => m - (intOf i).toNat)
  case atStart => exact ⟨0, _, rfl, Nat.zero_le _, rfl, Lib.hid (by rw [List.drop_zero, HE.out]), B0, k1, k3⟩
  case round =>
    clear B0 k1 k3 HE
    obtain ⟨k, wr, hwr, hk, rfl, HI, hB, kB, k3⟩ := hrel
    subst hwr
    have q0 : wr.cell? ⟨w.heap.size, 0, none⟩ = some (.slice A m c) := kB.cell 0
    by_cases hlt : k < m
    · have hlt' : (k : Int) < (m : Int) := by omega
      have hkl : k < R.length := by have := HM.out; omega
      obtain ⟨b, off, rfl, hb, hc⟩ := (HS.out.below hB (Nat.le_refl _)) k hkl
      have hI := HI.out
      rw [fndR_drop hkl] at hI
      clear HI hkl
      generalize R.getD k rn0 = x at hc hI
      have hs3 : (rnC x).size = 3 := rn_size x
      have q3 : wr.cell? ⟨b, off + k * 3, none⟩ = some (.int .i64 (numR x)) := hc 0 _ rfl
      cases hx : (numR x == n)
      · rw [hx, if_neg (by simp)] at hI
        have HI := Lib.hid hI
        clear hI hc
        generalize numR x = z at *
        go_wp2_with fail
        go_roundw
        case rel => exact ⟨k + 1, _, rfl, by omega, by go_num, HI, hB, kB, k3⟩
        case measure => simp [intOf]; omega
      · rw [hx, if_pos rfl] at hI
        have HI := Lib.hid hI
        clear hI
        generalize numR x = z at *
        go_wp2_with (first
          | (refine wpList_load_mid rfl 52 (.tmp 25) rfl b (off + k * 3) rfl (rnC x).toList _ hc Try.underlying52 rfl (rn_infL x) ?_)
          | (refine wpList_store_blk rfl 52 (.tmp 4) (.tmp 26) rfl (w.heap.size + 1) (rnC rn0) (rnC x) 52 rfl rfl k3 rfl (rn_inf x) (rn_one x) ?_
             intro w3 h3 n3))
        refine bodyPost_ret (results_row_tmp rfl _ _ (w.heap.size + 1) 52 (rnC x) (0, 0) _ rfl h3.blk Try.underlying52 rfl (rn_inf x) _ rfl) rfl ?_
        exact ⟨by rw [HI.out]; rfl, hB.trans (n3.below _ (by omega) hB.size)⟩
    · obtain rfl : k = m := by omega
      have hI := HI.out
      rw [List.drop_of_length_le (by have := HM.out; omega)] at hI
      have HI := Lib.hid hI
      clear hI
      go_wp2_with (first
        | (refine wpList_store_blk rfl 52 (.tmp 4) (.tmp 27) rfl (w.heap.size + 1) (rnC rn0) (rnC rn0) 52 rfl rfl k3 rfl (rn_inf rn0) (rn_one rn0) ?_
           intro w3 h3 n3))
      refine bodyPost_ret (results_row_tmp rfl _ _ (w.heap.size + 1) 52 (rnC rn0) (0, 0) _ rfl h3.blk Try.underlying52 rfl (rn_inf rn0) _ rfl) rfl ?_
      exact ⟨by rw [HI.out]; rfl, hB.trans (n3.below _ (by omega) hB.size)⟩
def fndK (L : List Kw) (n : Int) : Kw × Bool := match lockF L n with | some x => (x, true) | none => (kw0, false)
theorem lockF_drop {L : List Kw} {k : Nat} (h : k < L.length) (n : Int) : lockF (L.drop k) n = if (numK (L.getD k kw0) == n) = true then some (L.getD k kw0) else lockF (L.drop (k + 1)) n := by
  rw [List.drop_eq_getElem_cons h, show L.getD k kw0 = L[k] by simp [List.getD, h]]
  unfold lockF
  rw [List.find?_cons]
  unfold numK
  split <;> simp_all
theorem fndK_drop {L : List Kw} {k : Nat} (h : k < L.length) (n : Int) : fndK (L.drop k) n = if (numK (L.getD k kw0) == n) = true then (L.getD k kw0, true) else fndK (L.drop (k + 1)) n := by
  unfold fndK
  rw [lockF_drop h]
  cases (numK (L.getD k kw0) == n) <;> rfl
set_option maxRecDepth 100000 in
set_option maxHeartbeats 4000000 in
theorem find_K (A : Option Addr) (m c : Nat) (R : List Rn) (A2 : Option Addr) (m2 c2 : Nat) (L : List Kw) (n : Int) (w : World) (h : Sc w w.heap.size A m c R A2 m2 c2 L) :
    Calls Try.prog 32 #[scV A m c A2 m2 c2, .int .i64 n] w fun e w' => e = .returned (.tuple #[kwV (fndK L n).1, .bool (fndK L n).2]) ∧ Below w.heap.size w w' := by
  have k1 := (Blk.new w (scC A m c A2 m2 c2) 25).alloc (.cells (kwC kw0) 48)
  have k3 := Blk.new_ (w.alloc (.cells (scC A m c A2 m2 c2) 25)) (kwC kw0) 48 (n := w.heap.size + 1) (by simp)
  have B0 := ((Below.refl w.heap.size w).alloc (Nat.le_refl _) (.cells (scC A m c A2 m2 c2) 25)).alloc (by simp) (.cells (kwC kw0) 48)
  have HM := Lib.hid h.len2
  have HS := Lib.hid h.ks
  have hm6 : m2 ≤ 100000 := h.lim2
  obtain ⟨E, hE⟩ : ∃ E, fndK L n = E := ⟨_, rfl⟩
  rw [hE]
  have HE := Lib.hid hE
  clear hE h
  unfold scV at *
  go_enter Try.func32, Try.ntmps32
  go_wp2_with fail
  go_loopw [6] (fun i wr' => ∃ (k : Nat) (wr : World), wr = wr' ∧ k ≤ m2 ∧ i = .int .i64 k ∧ Hid (E = fndK (L.drop k) n) ∧ Below w.heap.size w wr ∧ Blk wr w.heap.size (scC A m c A2 m2 c2) 25 ∧ Blk wr (w.heap.size + 1) (kwC kw0) 48) (fun i _ => m2 - (intOf i).toNat)
  case atStart => exact ⟨0, _, rfl, Nat.zero_le _, rfl, Lib.hid (by rw [List.drop_zero, HE.out]), B0, k1, k3⟩
  case round =>
    clear B0 k1 k3 HE
    obtain ⟨k, wr, hwr, hk, rfl, HI, hB, kB, k3⟩ := hrel
    subst hwr
    have q0 : wr.cell? ⟨w.heap.size, 1, none⟩ = some (.slice A2 m2 c2) := kB.cell 1
    by_cases hlt : k < m2
    · have hlt' : (k : Int) < (m2 : Int) := by omega
      have hkl : k < L.length := by have := HM.out; omega
      obtain ⟨b, off, rfl, hb, hc⟩ := (HS.out.below hB (Nat.le_refl _)) k hkl
      have hI := HI.out
      rw [fndK_drop hkl] at hI
      clear HI hkl
      generalize L.getD k kw0 = x at hc hI
      have hs3 : (kwC x).size = 3 := kw_size x
      have q3 : wr.cell? ⟨b, off + k * 3, none⟩ = some (.int .i64 (numK x)) := hc 0 _ rfl
      cases hx : (numK x == n)
      · rw [hx, if_neg (by simp)] at hI
        have HI := Lib.hid hI
        clear hI hc
        generalize numK x = z at *
        go_wp2_with fail
        go_roundw
        case rel => exact ⟨k + 1, _, rfl, by omega, by go_num, HI, hB, kB, k3⟩
        case measure => simp [intOf]; omega
      · rw [hx, if_pos rfl] at hI
        have HI := Lib.hid hI
        clear hI
        generalize numK x = z at *
        go_wp2_with (first
          | (refine wpList_load_mid rfl 48 (.tmp 25) rfl b (off + k * 3) rfl (kwC x).toList _ hc Try.underlying48 rfl (kw_infL x) ?_)
          | (refine wpList_store_blk rfl 48 (.tmp 4) (.tmp 26) rfl (w.heap.size + 1) (kwC kw0) (kwC x) 48 rfl rfl k3 rfl (kw_inf x) (kw_one x) ?_
             intro w3 h3 n3))
        refine bodyPost_ret (results_row_tmp rfl _ _ (w.heap.size + 1) 48 (kwC x) (0, 0) _ rfl h3.blk Try.underlying48 rfl (kw_inf x) _ rfl) rfl ?_
        exact ⟨by rw [HI.out]; rfl, hB.trans (n3.below _ (by omega) hB.size)⟩
    · obtain rfl : k = m2 := by omega
      have hI := HI.out
      rw [List.drop_of_length_le (by have := HM.out; omega)] at hI
      have HI := Lib.hid hI
      clear hI
      go_wp2_with (first
        | (refine wpList_store_blk rfl 48 (.tmp 4) (.tmp 27) rfl (w.heap.size + 1) (kwC kw0) (kwC kw0) 48 rfl rfl k3 rfl (kw_inf kw0) (kw_one kw0) ?_
           intro w3 h3 n3))
      refine bodyPost_ret (results_row_tmp rfl _ _ (w.heap.size + 1) 48 (kwC kw0) (0, 0) _ rfl h3.blk Try.underlying48 rfl (kw_inf kw0) _ rfl) rfl ?_
      exact ⟨by rw [HI.out]; rfl, hB.trans (n3.below _ (by omega) hB.size)⟩
set_option maxRecDepth 100000 in
set_option maxHeartbeats 4000000 in
theorem count_rf (A : Option Addr) (m c : Nat) (l : List Int) (n : Int) (w : World) (hA : Ri7 w w.heap.size A l) (hm : m = l.length) (h6 : m ≤ 1000000) :
    Calls Try.prog 67 #[.slice A m c, .int .i64 n] w fun e w' => e = .returned (.int .i64 (l.count n : Nat)) ∧ w' = w := by
  have HM := Lib.hid hm
  clear hm
  go_enter Try.func67, Try.ntmps67
  go_wp2_with fail
  go_loopw [5, 6] (fun p i wr' => ∃ (k p0 : Nat) (wr : World), wr = wr' ∧ k ≤ m ∧ p0 ≤ k ∧ i = .int .i64 k ∧ p = .int .i64 p0 ∧ Hid (p0 = (l.take k).count n) ∧ Hid (wr = w)) (fun _ i _ => m - (intOf i).toNat)
  case atStart => exact ⟨0, 0, _, rfl, Nat.zero_le _, Nat.le_refl _, rfl, rfl, Lib.hid (by simp), Lib.hid rfl⟩
  case round =>
    obtain ⟨k, p0, wr, hwr, hk, hpk, rfl, rfl, HI, HW⟩ := hrel
    subst hwr
    by_cases hlt : k < m
    · have hlt' : (k : Int) < (m : Int) := by omega
      have hkl : k < l.length := by have := HM.out; omega
      have hAr : Ri7 wr w.heap.size A l := by rw [HW.out]; exact hA
      obtain ⟨b, off, rfl, hb, hc⟩ := hAr k hkl
      have hI : (l.take (k + 1)).count n = p0 + (if (l.getD k 0 == n) = true then 1 else 0) := by
        rw [List.take_succ_eq_append_getElem hkl, List.count_append, ← HI.out, show l.getD k 0 = l[k] by simp [List.getD, hkl], List.count_singleton]
      clear HI hkl hAr
      generalize l.getD k 0 = y at hc hI
      cases hq : (y == n)
      · rw [hq, if_neg (by simp)] at hI
        have HI := Lib.hid hI
        clear hI
        go_wp2_with fail
        go_roundw
        case rel => exact ⟨k + 1, p0, _, rfl, by omega, by omega, by go_num, rfl, Lib.hid HI.out.symm, HW⟩
        case measure => simp [intOf]; omega
      · rw [hq, if_pos rfl] at hI
        have HI := Lib.hid hI
        clear hI
        go_wp2_with fail
        go_roundw
        case rel => exact ⟨k + 1, p0 + 1, _, rfl, by omega, by omega, by go_num, by go_num, Lib.hid HI.out.symm, HW⟩
        case measure => simp [intOf]; omega
    · obtain rfl : k = m := by omega
      have hI := HI.out
      rw [List.take_of_length_le (by have := HM.out; omega)] at hI
      have HI := Lib.hid hI
      clear hI
      go_wp2_with fail
      go_ret
      exact ⟨by rw [HI.out]; rfl, HW.out⟩
set_option maxRecDepth 100000 in
set_option maxHeartbeats 4000000 in
theorem sameInts_rf (A : Option Addr) (m c : Nat) (l : List Int) (A2 : Option Addr) (m2 c2 : Nat) (l2 : List Int) (w : World) (hA : Ri7 w w.heap.size A l) (hm : m = l.length) (h6 : m ≤ 1000000) (hA2 : Ri7 w w.heap.size A2 l2) (hm2 : m2 = l2.length) :
    Calls Try.prog 31 #[.slice A m c, .slice A2 m2 c2] w fun e w' => e = .returned (.bool (l == l2)) ∧ Below w.heap.size w w' := by
  have B0 := Below.refl w.heap.size w
  have HM := Lib.hid hm
  have HM2 := Lib.hid hm2
  clear hm hm2
  by_cases hmm : m = m2
  · subst hmm
    go_enter Try.func31, Try.ntmps31
    go_wp2_with fail
    go_loopw [5] (fun i wr' => ∃ (k : Nat) (wr : World), wr = wr' ∧ k ≤ m ∧ i = .int .i64 k ∧ (l == l2) = (l.drop k == l2.drop k) ∧ Below w.heap.size w wr) (fun i _ => m - (intOf i).toNat)
    case atStart => exact ⟨0, _, rfl, Nat.zero_le _, rfl, by simp, B0⟩
    case round =>
      clear B0
      obtain ⟨k, wr, hwr, hk, rfl, hinv, hB⟩ := hrel
      subst hwr
      by_cases hlt : k < m
      · have hlt' : (k : Int) < (m : Int) := by omega
        have hkl : k < l.length := by have := HM.out; omega
        have hkl2 : k < l2.length := by have := HM2.out; omega
        obtain ⟨b, off, rfl, hb, hc⟩ := hA.below hB (Nat.le_refl _) k hkl
        obtain ⟨b2, off2, rfl, hb2, hc2⟩ := hA2.below hB (Nat.le_refl _) k hkl2
        rw [eq_drop hkl hkl2] at hinv
        generalize l.getD k 0 = y at hc hinv
        generalize l2.getD k 0 = y2 at hc2 hinv
        cases h1 : (y == y2)
        · rw [h1] at hinv
          have HI := Lib.hid hinv
          clear hinv
          go_wp2_with fail
          go_region
          all_goals
            go_wp2_with fail
            go_ret
            exact ⟨by rw [HI.out]; rfl, by first | exact hB.drew | exact hB⟩
        · rw [h1, Bool.true_and] at hinv
          have HI := Lib.hid hinv
          clear hinv
          go_wp2_with fail
          go_region
          all_goals
            go_wp2_with fail
            go_roundw
            case rel => exact ⟨k + 1, _, rfl, by omega, by go_num, HI.out, by first | exact hB.drew | exact hB⟩
            case measure => simp [intOf]; omega
      · obtain rfl : k = m := by omega
        have hi : (l == l2) = true := by rw [hinv]; conv => lhs; rw [HM.out, List.drop_length, ← HM.out, HM2.out, List.drop_length]
                                         rfl
        have HI := Lib.hid hi
        clear hinv hi
        go_wp2_with fail
        go_ret
        exact ⟨by rw [HI.out]; rfl, hB⟩
  · have hi : (l == l2) = false := by
      rw [beq_eq_false_iff_ne]
      intro e
      exact hmm (by rw [HM.out, HM2.out, e])
    have hne : ((m : Int) == (m2 : Int)) = false := by simp; omega
    have HI := Lib.hid hi
    have HN := Lib.hid hmm
    clear hi hmm
    go_enter Try.func31, Try.ntmps31
    go_wp2_with fail
    go_ret
    exact ⟨by rw [HI.out]; rfl, B0⟩
end Go.Proofs.Ytfohifnbohdbcaa

/-
  Threads' rows compared; slices.Equal at threads; single cells loaded in a class of worlds.
-/
import Derived.Test.YtolalbpjaebfdaaQScRp
import Derived.Test.YtolalbpjaebfdaaQScKu
import Derived.BigQuiet
import Derived.Test.YtolalbpjaebfdaaQScB
import Derived.ChangeKeysEq
import Derived.Laws.StructEq
namespace Go.Proofs.Ytolalbpjaebfdaa
open Go.RowKit Go.Shelf
attribute [local go_sem] Oper.semAt_some
set_option linter.unusedVariables false
set_option linter.unusedSimpArgs false
def scC (A : Option Addr) (m c : Nat) (A2 : Option Addr) (m2 c2 : Nat) : Array Value := #[.slice A m c, .slice A2 m2 c2]
def scV (A : Option Addr) (m c : Nat) (A2 : Option Addr) (m2 c2 : Nat) : Value := .agg (scC A m c A2 m2 c2)
theorem sc_inf (A : Option Addr) (m c : Nat) (A2 : Option Addr) (m2 c2 : Nat) : (Try.prog.info? 25).map (·.size) = some (scC A m c A2 m2 c2).size := by rw [show (scC A m c A2 m2 c2).size = 2 from rfl]; kernel_rfl
theorem sc_one (A : Option Addr) (m c : Nat) (A2 : Option Addr) (m2 c2 : Nat) : (scC A m c A2 m2 c2).all (·.oneCell') = true := by simp [scC, Value.oneCell']
structure Tq (w : World) (B : Nat) (x : Kw) : Prop where
  ri : Ri7 w B x.2.1 x.1.q
  le : x.1.q.length ≤ x.2.2
  l : x.1.q.length ≤ 1000000
theorem Tq.below {w w' : World} {B B' : Nat} {x : Kw} (h : Tq w B x) (hb : Below B' w w') (hB : B ≤ B') : Tq w' B x := ⟨h.ri.below hb hB, h.le, h.l⟩
theorem Tq.more {w : World} {B B' : Nat} {x : Kw} (h : Tq w B x) (hB : B ≤ B') : Tq w B' x := ⟨h.ri.more hB, h.le, h.l⟩
structure Sc (w : World) (B : Nat) (A : Option Addr) (m c : Nat) (R : List Rn) (A2 : Option Addr) (m2 c2 : Nat) (L : List Kw) : Prop where
  rs : RsR w B A R
  ks : RsK w B A2 L
  q : ∀ x ∈ L, Tq w B x
  len : m = R.length
  len2 : m2 = L.length
  lim : m ≤ 100000
  lim2 : m2 ≤ 100000
section
variable {w w' : World} {B B' m c m2 c2 : Nat} {A A2 : Option Addr} {R : List Rn} {L : List Kw}
theorem Sc.below (h : Sc w B A m c R A2 m2 c2 L) (hb : Below B' w w') (hB : B ≤ B') : Sc w' B A m c R A2 m2 c2 L := ⟨h.rs.below hb hB, h.ks.below hb hB, fun x hx => (h.q x hx).below hb hB, h.len, h.len2, h.lim, h.lim2⟩
theorem Sc.more (h : Sc w B A m c R A2 m2 c2 L) (hB : B ≤ B') : Sc w B' A m c R A2 m2 c2 L := ⟨h.rs.more hB, h.ks.more hB, fun x hx => (h.q x hx).more hB, h.len, h.len2, h.lim, h.lim2⟩
theorem Sc.on (h : Sc w w.heap.size A m c R A2 m2 c2 L) (hb : Below w.heap.size w w') : Sc w' w'.heap.size A m c R A2 m2 c2 L := (h.below hb (Nat.le_refl _)).more hb.size
theorem Sc.q' (h : Sc w B A m c R A2 m2 c2 L) {k : Nat} (hk : k < L.length) : Tq w B (L.getD k kw0) := by
  rw [show L.getD k kw0 = L[k] by simp [List.getD, hk]]; exact h.q _ (List.getElem_mem hk)
end
theorem sc_nil (w : World) (B c c2 : Nat) (A A2 : Option Addr) : Sc w B A 0 c [] A2 0 c2 [] := ⟨rs_nilR _ _ _, rs_nilK _ _ _, (fun x hx => by cases hx), rfl, rfl, Nat.zero_le _, Nat.zero_le _⟩
abbrev UpR (R : List Rn) : Prop := (numsR R).Pairwise (· < ·)
abbrev UpK (L : List Kw) : Prop := (numsK L).Pairwise (· < ·)
section
variable {A : Option Addr} {m c : Nat} {R : List Rn} {A2 : Option Addr} {m2 c2 : Nat} {L : List Kw} {w : World}
set_option maxRecDepth 100000 in
theorem run_sc (id : Int) (h : Sc w w.heap.size A m c R A2 m2 c2 L) (hu : UpR R) :
    Calls Try.prog 36 #[scV A m c A2 m2 c2, .int .i64 id] w fun e w' => e = .returned (.tuple #[.int .i64 (lessP (numsR R) id), .bool ((numsR R).contains id)]) ∧ Below w.heap.size w w' := by
  have k1 := Blk.new w (scC A m c A2 m2 c2) 25
  have B0 := (Below.refl w.heap.size w).alloc (Nat.le_refl _) (.cells (scC A m c A2 m2 c2) 25)
  have q0 : (w.alloc (.cells (scC A m c A2 m2 c2) 25)).cell? ⟨w.heap.size, 0, none⟩ = some (.slice A m c) := k1.cell 0
  have PL := Lib.hid (place_R A m c R id _ (h.on B0).rs h.len (by have := h.lim; omega) hu)
  generalize lessP (numsR R) id = k at PL ⊢
  generalize (numsR R).contains id = ct at PL ⊢
  clear h hu k1
  unfold scV
  go_enter Try.func36, Try.ntmps36
  go_wp2_with (first | (refine PL.out.mono ?_; rintro e w1 ⟨rfl, bb⟩))
  refine bodyPost_ret (results_tmp2 rfl _ _ _) rfl ?_
  exact ⟨rfl, B0.trans (bb.mono B0.size)⟩
set_option maxRecDepth 100000 in
theorem held_sc (n : Int) (h : Sc w w.heap.size A m c R A2 m2 c2 L) (hu : UpK L) :
    Calls Try.prog 50 #[scV A m c A2 m2 c2, .int .i64 n] w fun e w' => e = .returned (.tuple #[.int .i64 (lessP (numsK L) n), .bool ((numsK L).contains n)]) ∧ Below w.heap.size w w' := by
  have k1 := Blk.new w (scC A m c A2 m2 c2) 25
  have B0 := (Below.refl w.heap.size w).alloc (Nat.le_refl _) (.cells (scC A m c A2 m2 c2) 25)
  have q0 : (w.alloc (.cells (scC A m c A2 m2 c2) 25)).cell? ⟨w.heap.size, 1, none⟩ = some (.slice A2 m2 c2) := k1.cell 1
  have PL := Lib.hid (place_K A2 m2 c2 L n _ (h.on B0).ks h.len2 (by have := h.lim2; omega) hu)
  generalize lessP (numsK L) n = k at PL ⊢
  generalize (numsK L).contains n = ct at PL ⊢
  clear h hu k1
  unfold scV
  go_enter Try.func50, Try.ntmps50
  go_wp2_with (first | (refine PL.out.mono ?_; rintro e w1 ⟨rfl, bb⟩))
  refine bodyPost_ret (results_tmp2 rfl _ _ _) rfl ?_
  exact ⟨rfl, B0.trans (bb.mono B0.size)⟩
end
def runF (R : List Rn) (id : Int) : Option Rn := R.find? (fun x => x.i == id)
def lockF (L : List Kw) (n : Int) : Option Kw := L.find? (fun x => x.1.n == n)
def livesB (R : List Rn) (id : Int) : Bool := match runF R id with | some x => x.s != 2 | none => false
theorem less_mem {l : List Int} {x : Int} (hu : l.Pairwise (· < ·)) (hc : l.contains x = true) : lessP l x < l.length ∧ l.getD (lessP l x) 0 = x := by
  obtain ⟨k, hk, e⟩ := List.getElem_of_mem (List.contains_iff_mem.1 hc)
  have e2 : l.getD k 0 = x := by simpa [List.getD, hk] using e
  have hl : lessP l x = k := less_at (by omega) (fun j hj => by have := up_getD hu hj hk; omega) (fun j h1 h2 => by
    rcases Nat.lt_or_ge k j with h3 | h3
    · have := up_getD hu h3 h2; omega
    · obtain rfl : j = k := by omega
      omega)
  rw [hl]
  exact ⟨hk, e2⟩
theorem runF_some {R : List Rn} {id : Int} (hu : UpR R) (hc : (numsR R).contains id = true) : lessP (numsR R) id < R.length ∧ (R.getD (lessP (numsR R) id) rn0).i = id ∧ runF R id = some (R.getD (lessP (numsR R) id) rn0) := by
  obtain ⟨h1, h2⟩ := less_mem hu hc
  have hl : (numsR R).length = R.length := by simp [numsR]
  rw [hl] at h1
  rw [nums_getDR h1] at h2
  refine ⟨h1, h2, ?_⟩
  generalize lessP (numsR R) id = k at *
  unfold runF
  have e : R.getD k rn0 = R[k] := by simp [List.getD, h1]
  rw [e] at h2 ⊢
  refine List.find?_eq_some_iff_append.2 ⟨by simpa [numR] using h2, R.take k, R.drop (k + 1), by rw [← List.drop_eq_getElem_cons h1, List.take_append_drop], fun y hy => ?_⟩
  obtain ⟨j, hj, rfl⟩ := List.getElem_of_mem hy
  rw [List.length_take] at hj
  have hlt := List.pairwise_iff_getElem.1 hu j k (by omega) (by omega) (by omega)
  simp only [numsR, List.getElem_map] at hlt
  rw [List.getElem_take]
  simp only [numR] at h2 hlt
  simp
  omega
theorem runF_none {R : List Rn} {id : Int} (hc : (numsR R).contains id = false) : runF R id = none := by
  refine List.find?_eq_none.2 fun x hx => ?_
  simp only [beq_iff_eq]
  rintro rfl
  have : (numsR R).contains x.i = true := List.contains_iff_mem.2 (List.mem_map.2 ⟨x, hx, rfl⟩)
  rw [hc] at this
  cases this
theorem lockF_some {L : List Kw} {n : Int} (hu : UpK L) (hc : (numsK L).contains n = true) : lessP (numsK L) n < L.length ∧ (L.getD (lessP (numsK L) n) kw0).1.n = n ∧ lockF L n = some (L.getD (lessP (numsK L) n) kw0) := by
  obtain ⟨h1, h2⟩ := less_mem hu hc
  have hl : (numsK L).length = L.length := by simp [numsK]
  rw [hl] at h1
  rw [nums_getDK h1] at h2
  refine ⟨h1, h2, ?_⟩
  generalize lessP (numsK L) n = k at *
  unfold lockF
  have e : L.getD k kw0 = L[k] := by simp [List.getD, h1]
  rw [e] at h2 ⊢
  refine List.find?_eq_some_iff_append.2 ⟨by simpa [numK] using h2, L.take k, L.drop (k + 1), by rw [← List.drop_eq_getElem_cons h1, List.take_append_drop], fun y hy => ?_⟩
  obtain ⟨j, hj, rfl⟩ := List.getElem_of_mem hy
  rw [List.length_take] at hj
  have hlt := List.pairwise_iff_getElem.1 hu j k (by omega) (by omega) (by omega)
  simp only [numsK, List.getElem_map] at hlt
  rw [List.getElem_take]
  simp only [numK] at h2 hlt
  simp
  omega
theorem lockF_none {L : List Kw} {n : Int} (hc : (numsK L).contains n = false) : lockF L n = none := by
  refine List.find?_eq_none.2 fun x hx => ?_
  simp only [beq_iff_eq]
  rintro rfl
  have : (numsK L).contains x.1.n = true := List.contains_iff_mem.2 (List.mem_map.2 ⟨x, hx, rfl⟩)
  rw [hc] at this
  cases this
section
variable {A : Option Addr} {m c : Nat} {R : List Rn} {A2 : Option Addr} {m2 c2 : Nat} {L : List Kw} {w : World}
set_option maxRecDepth 100000 in
set_option maxHeartbeats 4000000 in
theorem lives_sc (id : Int) (h : Sc w w.heap.size A m c R A2 m2 c2 L) (hu : UpR R) :
    Calls Try.prog 74 #[scV A m c A2 m2 c2, .int .i64 id] w fun e w' => e = .returned (.bool (livesB R id)) ∧ Below w.heap.size w w' := by
  have k1 := Blk.new w (scC A m c A2 m2 c2) 25
  have B0 := (Below.refl w.heap.size w).alloc (Nat.le_refl _) (.cells (scC A m c A2 m2 c2) 25)
  have RN := Lib.hid (run_sc id (h.on B0) hu)
  obtain ⟨E, hE⟩ : ∃ E, livesB R id = E := ⟨_, rfl⟩
  rw [hE]
  unfold livesB at hE
  have HM := Lib.hid h.len
  cases hct : (numsR R).contains id
  · rw [hct] at RN
    rw [runF_none hct] at hE
    have hr : E = false := hE.symm
    generalize lessP (numsR R) id = k at RN
    clear hE hct hu h
    unfold scV at *
    go_enter Try.func74, Try.ntmps74
    go_wp2_with (first
      | (refine wpList_load_row rfl 25 (.tmp 2) rfl w.heap.size rfl 25 (scC A m c A2 m2 c2) (0, 0) _ k1.blk Try.underlying25 rfl (sc_inf A m c A2 m2 c2) ?_)
      | (refine RN.out.mono ?_; clear RN; rintro e w1 ⟨rfl, bb⟩))
    go_ret
    exact ⟨by rw [hr]; rfl, B0.trans (bb.mono B0.size)⟩
  · rw [hct] at RN
    obtain ⟨hk, _, hf⟩ := runF_some hu hct
    rw [hf] at hE
    have HP := Lib.hid (fun (V : World) (hV : Below w.heap.size w V) => (h.rs.below hV (Nat.le_refl _)) _ hk)
    generalize lessP (numsR R) id = k at *
    have hkm : (k : Int) < (m : Int) := by have := HM.out; omega
    generalize R.getD k rn0 = x at *
    have hE : (x.s != 2) = E := hE
    clear hct hu h hf hk
    unfold scV at *
    go_enter Try.func74, Try.ntmps74
    go_wp2_with (first
      | (refine wpList_load_row rfl 25 (.tmp 2) rfl w.heap.size rfl 25 (scC A m c A2 m2 c2) (0, 0) _ k1.blk Try.underlying25 rfl (sc_inf A m c A2 m2 c2) ?_)
      | (refine RN.out.mono ?_
         clear RN
         rintro e w1 ⟨rfl, bb⟩
         have k11 := k1.below bb k1.lt
         have B1 := B0.trans (bb.mono B0.size)
         obtain ⟨b, off, rfl, hb, hc⟩ := HP.out _ B1
         have q2 : w1.cell? ⟨w.heap.size, 0, none⟩ = some (.slice (some ⟨b, off, none⟩) m c) := k11.cell 0
         have q3 : w1.cell? ⟨b, off + k * 3 + 1, none⟩ = some (.int .i64 x.s) := hc 1 _ rfl
         clear hc))
    go_ret
    exact ⟨by rw [← hE]; rfl, B1⟩
end
def waitB (x : Rn) : Bool := x.s == 1
def strB (x : Rn) : Bool := decide (x.s < 0) || (decide (2 < x.s) || (x.n != 0 && !waitB x))
theorem waits_sc (x : Rn) (w : World) : Calls Try.prog 68 #[rnV x] w fun e w' => e = .returned (.bool (waitB x)) ∧ Below w.heap.size w w' := by
  have k1 := Blk.new w (rnC x) 52
  have B0 := (Below.refl w.heap.size w).alloc (Nat.le_refl _) (.cells (rnC x) 52)
  have q0 : (w.alloc (.cells (rnC x) 52)).cell? ⟨w.heap.size, 1, none⟩ = some (.int .i64 x.s) := k1.cell 1
  clear k1
  unfold rnV waitB
  generalize x.s = z at *
  go_enter Try.func68, Try.ntmps68
  go_wp2
  go_ret
  exact ⟨rfl, B0⟩
set_option maxHeartbeats 4000000 in
theorem strange_sc (x : Rn) (w : World) : Calls Try.prog 59 #[rnV x] w fun e w' => e = .returned (.bool (strB x)) ∧ Below w.heap.size w w' := by
  have k1 := Blk.new w (rnC x) 52
  have B0 := (Below.refl w.heap.size w).alloc (Nat.le_refl _) (.cells (rnC x) 52)
  have q1 : (w.alloc (.cells (rnC x) 52)).cell? ⟨w.heap.size, 1, none⟩ = some (.int .i64 x.s) := k1.cell 1
  have q2 : (w.alloc (.cells (rnC x) 52)).cell? ⟨w.heap.size, 2, none⟩ = some (.int .i64 x.n) := k1.cell 2
  have WA := Lib.hid (waits_sc x (w.alloc (.cells (rnC x) 52)))
  unfold rnV strB at *
  generalize waitB x = wb at *
  obtain ⟨xi, xs, xn⟩ := x
  simp only at *
  cases h1 : decide (xs < 0)
  · cases h2 : decide (2 < xs)
    · cases h3 : (xn != 0)
      · go_enter Try.func59, Try.ntmps59
        go_wp2_with fail
        go_ret
        exact ⟨rfl, B0⟩
      · go_enter Try.func59, Try.ntmps59
        go_wp2_with (first
          | (refine wpListG_load (by rfl) 52 (.tmp 1) rfl w.heap.size rfl 52 (rnC ⟨xi, xs, xn⟩) _ k1 Try.underlying52 rfl (rn_inf _) ?_)
          | (refine WA.out.mono ?_
             clear WA
             rintro e w1 ⟨rfl, bb⟩))
        go_ret
        exact ⟨by cases wb <;> rfl, B0.trans (bb.mono B0.size)⟩
    · go_enter Try.func59, Try.ntmps59
      go_wp2_with fail
      go_ret
      exact ⟨rfl, B0⟩
  · go_enter Try.func59, Try.ntmps59
    go_wp2_with fail
    go_ret
    exact ⟨rfl, B0⟩
set_option maxRecDepth 100000 in
set_option maxHeartbeats 4000000 in
theorem any_R (cf : Nat) (bf : Rn → Bool) (ec : ∀ args w, (callFunc cf args).run Try.prog w = .ok (.enter cf args) w) (hf : ∀ (x : Rn) (V : World), Calls Try.prog cf #[rnV x] V fun e V' => e = .returned (.bool (bf x)) ∧ Below V.heap.size V V')
    (A : Option Addr) (m c : Nat) (R : List Rn) (w : World) (hP : RsR w w.heap.size A R) (hm : m = R.length) (h6 : m ≤ 1000000) :
    Calls Try.prog 81 #[.slice A m c, .func (.func cf) #[] #[]] w fun e w' => ∃ r : Int, e = .returned (.int .i64 r) ∧ decide (0 ≤ r) = R.any bf ∧ Below w.heap.size w w' := by
  have B0 := Below.refl w.heap.size w
  have HM := Lib.hid hm
  clear hm
  go_enter Try.func81, Try.ntmps81
  go_wp2_with fail
  go_loopw [8] (fun i wr' => ∃ (k : Nat) (wr : World), wr = wr' ∧ k ≤ m ∧ i = .int .i64 k ∧ Hid (R.any bf = (R.drop k).any bf) ∧ Below w.heap.size w wr) (fun i _ => m - (intOf i).toNat)
  case atStart => exact ⟨0, _, rfl, Nat.zero_le _, rfl, Lib.hid (by rw [List.drop_zero]), B0⟩
  case round =>
    clear B0
    obtain ⟨k, wr, hwr, hk, rfl, HI, hB⟩ := hrel
    subst hwr
    by_cases hlt : k < m
    · have hlt' : (k : Int) < (m : Int) := by omega
      have hkl : k < R.length := by have := HM.out; omega
      obtain ⟨b, off, rfl, hb, hc⟩ := (hP.below hB (Nat.le_refl _)) k hkl
      have hI := HI.out
      rw [List.drop_eq_getElem_cons hkl, List.any_cons, show R[k] = R.getD k rn0 by simp [List.getD, hkl]] at hI
      clear HI hkl
      generalize R.getD k rn0 = x at hc hI
      have PL := Lib.hid (hf x wr)
      unfold rnV at PL
      cases hx : bf x
      · rw [hx] at PL
        rw [hx, Bool.false_or] at hI
        have HI := Lib.hid hI
        clear hI hx
        go_wp2_with (first
          | (refine wpList_load_mid rfl 52 (.tmp 14) rfl b (off + k * 3) rfl (rnC x).toList _ hc Try.underlying52 rfl (rn_infL x) ?_)
          | (refine PL.out.mono ?_
             clear PL
             rintro e w1 ⟨rfl, bb⟩
             go_wp2_with fail))
        go_roundw
        case rel => exact ⟨k + 1, _, rfl, by omega, by go_num, HI, hB.trans (bb.mono hB.size)⟩
        case measure => simp [intOf]; omega
      · rw [hx] at PL
        rw [hx, Bool.true_or] at hI
        have HI := Lib.hid hI
        clear hI hx
        go_wp2_with (first
          | (refine wpList_load_mid rfl 52 (.tmp 14) rfl b (off + k * 3) rfl (rnC x).toList _ hc Try.underlying52 rfl (rn_infL x) ?_)
          | (refine PL.out.mono ?_
             clear PL
             rintro e w1 ⟨rfl, bb⟩
             go_wp2_with fail))
        go_ret
        exact ⟨_, rfl, by rw [HI.out]; exact decide_eq_true (by omega), hB.trans (bb.mono hB.size)⟩
    · obtain rfl : k = m := by omega
      have hI := HI.out
      rw [List.drop_of_length_le (by have := HM.out; omega)] at hI
      have HI := Lib.hid hI
      clear hI
      go_wp2_with fail
      go_ret
      exact ⟨_, rfl, by rw [HI.out]; rfl, hB⟩
theorem anyf_R (cf : Nat) (bf : Rn → Bool) (ec : ∀ args w, (callFunc cf args).run Try.prog w = .ok (.enter cf args) w) (hf : ∀ (x : Rn) (V : World), Calls Try.prog cf #[rnV x] V fun e V' => e = .returned (.bool (bf x)) ∧ Below V.heap.size V V')
    (A : Option Addr) (m c : Nat) (R : List Rn) (w : World) (hP : RsR w w.heap.size A R) (hm : m = R.length) (h6 : m ≤ 1000000) :
    Calls Try.prog 58 #[.slice A m c, .func (.func cf) #[] #[]] w fun e w' => e = .returned (.bool (R.any bf)) ∧ Below w.heap.size w w' := by
  have PL := Lib.hid (any_R cf bf ec hf A m c R w hP hm h6)
  generalize R.any bf = rb at *
  clear hm hf
  go_enter Try.func58, Try.ntmps58
  go_wp2_with (refine PL.out.mono ?_; rintro e w1 ⟨r, rfl, hr, bb⟩)
  go_ret
  exact ⟨by rw [← hr]; first | rfl | simp, bb⟩
end Go.Proofs.Ytolalbpjaebfdaa
namespace Go.Proofs.Ytolalbpjaebfdaa
open Go.RowKit Go.Shelf
set_option linter.unusedVariables false
set_option linter.unusedSimpArgs false
def IxR (l : List Int) (x r : Int) : Prop := (∃ k : Nat, r = k ∧ k < l.length ∧ l.getD k 0 = x) ∨ r = -1 ∧ ∀ j, j < l.length → l.getD j 0 ≠ x
set_option maxRecDepth 100000 in
set_option maxHeartbeats 2000000 in
theorem indexZ_any (A : Option Addr) (m c : Nat) (l : List Int) (x : Int) (w : World) (hA : Ri7 w w.heap.size A l) (hm : m = l.length) (hmc : m ≤ c) (h6 : m ≤ 1000000) :
    Calls Try.prog 95 #[.slice A m c, .int .i64 x] w fun e w' => ∃ r, e = .returned (.int .i64 r) ∧ IxR l x r ∧ Below w.heap.size w w' := by
  have B0 := Below.refl w.heap.size w
  have HM := Lib.hid hm
  clear hm
  go_enter Try.func95, Try.ntmps95
  go_wp2_with fail
  go_loopw [8] (fun i wr' => ∃ (k : Nat) (wr : World), wr = wr' ∧ k ≤ m ∧ i = .int .i64 k ∧ Hid (∀ j, j < k → l.getD j 0 ≠ x) ∧ Below w.heap.size w wr) (fun i _ => m - (intOf i).toNat)
  case atStart => exact ⟨0, _, rfl, Nat.zero_le _, rfl, Lib.hid (fun j hj => absurd hj (Nat.not_lt_zero j)), B0⟩
  case round =>
    clear B0
    obtain ⟨k, wr, hwr, hk, rfl, hall, hB⟩ := hrel
    subst hwr
    by_cases hlt : k < m
    · have hlt' : (k : Int) < (m : Int) := by omega
      have hkl : k < l.length := by have := HM.out; omega
      obtain ⟨b, off, rfl, hb, hc⟩ := hA.below hB (Nat.le_refl _) k hkl
      obtain ⟨y, hy⟩ : ∃ y, l.getD k 0 = y := ⟨_, rfl⟩
      rw [hy] at hc
      have HY := Lib.hid hy
      have HK := Lib.hid hkl
      clear hy hkl
      cases hxy : (x == y)
      · have HN := Lib.hid (show x ≠ y by simpa using hxy)
        go_wp2_with fail
        first
          | (go_region; go_wp2_with fail)
          | skip
        go_roundw
        case rel =>
          refine ⟨k + 1, _, rfl, by omega, by go_num, Lib.hid (fun j hj => ?_), by first | exact hB.drew | exact hB⟩
          rcases Nat.lt_succ_iff_lt_or_eq.1 hj with h | rfl
          · exact hall.out j h
          · rw [HY.out]; exact fun h => HN.out h.symm
        case measure => simp [intOf]; omega
      · have HN := Lib.hid (show x = y by simpa using hxy)
        go_wp2_with fail
        first
          | (go_region; go_wp2_with fail)
          | skip
        go_ret
        exact ⟨_, rfl, .inl ⟨k, rfl, HK.out, by rw [HY.out, HN.out]⟩, by first | exact hB.drew | exact hB⟩
    · obtain rfl : k = m := by omega
      go_wp2_with fail
      go_ret
      exact ⟨_, rfl, .inr ⟨rfl, by rw [← HM.out]; exact hall.out⟩, hB⟩
theorem IxR.mem {l : List Int} {x r : Int} (h : IxR l x r) : decide (0 ≤ r) = l.contains x := by
  rcases h with ⟨k, rfl, hk, he⟩ | ⟨rfl, hn⟩
  · have h1 : l.contains x = true := by
      rw [List.contains_iff_mem, ← he]
      rw [show l.getD k 0 = l[k] by simp [List.getD, hk]]
      exact List.getElem_mem hk
    rw [h1]
    simp
  · have h1 : l.contains x = false := by
      rw [← Bool.not_eq_true, List.contains_iff_mem]
      intro hm
      obtain ⟨k, hk, he⟩ := List.getElem_of_mem hm
      exact hn k hk (by simpa [List.getD, hk] using he)
    rw [h1]
    rfl
set_option maxRecDepth 100000 in
set_option maxHeartbeats 2000000 in
theorem containsZ_any (A : Option Addr) (m c : Nat) (l : List Int) (x : Int) (w : World) (hA : Ri7 w w.heap.size A l) (hm : m = l.length) (hmc : m ≤ c) (h6 : m ≤ 1000000) :
    Calls Try.prog 82 #[.slice A m c, .int .i64 x] w fun e w' => e = .returned (.bool (l.contains x)) ∧ Below w.heap.size w w' := by
  have HI := Lib.hid (indexZ_any A m c l x w hA hm hmc h6)
  clear hm
  go_enter Try.func82, Try.ntmps82
  go_wp2_with fail
  refine HI.out.mono ?_
  rintro e w1 ⟨r, rfl, hr, b1⟩
  have HR := Lib.hid hr.mem
  clear hr HI
  go_wp2_with fail
  go_ret
  exact ⟨by rw [← HR.out]; rfl, b1⟩
end Go.Proofs.Ytolalbpjaebfdaa
namespace Go.Proofs.Ytolalbpjaebfdaa
open Go.RowKit Go.Shelf
attribute [local go_sem] Oper.semAt_some
set_option linter.unusedVariables false
set_option linter.unusedSimpArgs false
def ownB (R : List Rn) (x : Kw) : Bool := livesB R x.1.o && !(x.1.q.contains x.1.o)
set_option maxRecDepth 100000 in
set_option maxHeartbeats 8000000 in
theorem owners_sc (A : Option Addr) (m c : Nat) (R : List Rn) (A2 : Option Addr) (m2 c2 : Nat) (L : List Kw) (w : World) (h : Sc w w.heap.size A m c R A2 m2 c2 L) (hu : UpR R) :
    Calls Try.prog 60 #[scV A m c A2 m2 c2] w fun e w' => e = .returned (.bool (L.all (ownB R))) ∧ Below w.heap.size w w' := by
  have k1 := Blk.new w (scC A m c A2 m2 c2) 25
  have B0 := (Below.refl w.heap.size w).alloc (Nat.le_refl _) (.cells (scC A m c A2 m2 c2) 25)
  have q0 : (w.alloc (.cells (scC A m c A2 m2 c2) 25)).cell? ⟨w.heap.size, 1, none⟩ = some (.slice A2 m2 c2) := k1.cell 1
  have HM := Lib.hid h.len2
  have HL := Lib.hid h.lim2
  have HS := Lib.hid h
  have LV := Lib.hid (fun (id : Int) (V : World) (hV : Below w.heap.size w V) => lives_sc id (h.on hV) hu)
  obtain ⟨E, hE⟩ : ∃ E, L.all (ownB R) = E := ⟨_, rfl⟩
  rw [hE]
  have HE := Lib.hid hE
  have hm6 : m2 ≤ 100000 := h.lim2
  clear hE h hu
  unfold scV at *
  go_enter Try.func60, Try.ntmps60
  go_wp2_with fail
  clear q0
  go_loopw [8] (fun i wr' => ∃ (k : Nat) (wr : World), wr = wr' ∧ k ≤ m2 ∧ i = .int .i64 k ∧ Hid (E = (L.drop k).all (ownB R)) ∧ Below w.heap.size w wr ∧ Blk wr w.heap.size (scC A m c A2 m2 c2) 25) (fun i _ => m2 - (intOf i).toNat)
  case atStart => exact ⟨0, _, rfl, Nat.zero_le _, rfl, Lib.hid (by rw [List.drop_zero, HE.out]), B0, k1⟩
  case round =>
    clear B0 HE k1
    obtain ⟨k, wr, hwr, hk, rfl, HI, hB, kB⟩ := hrel
    subst hwr
    by_cases hlt : k < m2
    · have hlt' : (k : Int) < (m2 : Int) := by omega
      have hkl : k < L.length := by have := HM.out; omega
      obtain ⟨b, off, rfl, hb, hc⟩ := (HS.out.ks.below hB (Nat.le_refl _)) k hkl
      have hq := HS.out.q' hkl
      have hI := HI.out
      rw [List.drop_eq_getElem_cons hkl, List.all_cons, show L[k] = L.getD k kw0 by simp [List.getD, hkl]] at hI
      clear HI hkl
      generalize L.getD k kw0 = x at hc hI hq
      have HQ := Lib.hid hq
      clear hq
      unfold ownB at hI
      have hs3 : (kwC x).size = 3 := kw_size x
      cases h1 : livesB R x.1.o
      · rw [h1, Bool.false_and, Bool.false_and] at hI
        have HI := Lib.hid hI
        clear hI
        go_wp2_with (first
          | (refine wpList_load_mid rfl 48 (.tmp 10) rfl b (off + k * 3) rfl (kwC x).toList _ hc Try.underlying48 rfl (kw_infL x) ?_)
          | (refine wpList_store_blk rfl 48 (.tmp 4) (.tmp 11) rfl wr.heap.size (kwC kw0) (kwC x) 48 rfl rfl (Blk.new _ _ _) rfl (kw_inf x) (kw_one x) ?_
             intro w1 k2 n1
             have bb : Below wr.heap.size wr w1 := ((Below.refl _ wr).alloc (Nat.le_refl _) _).trans (n1.below _ (Nat.le_refl _) (by simp))
             have hB1 := hB.trans (bb.mono hB.size)
             have kB1 := kB.below bb kB.lt
             have q41 : w1.cell? ⟨wr.heap.size, 1, none⟩ = some (.int .i64 x.1.o) := k2.cell 1
             have CL := LV.out x.1.o w1 hB1
             rw [h1] at CL
             clear bb n1 hc)
          | (refine wpList_load_row rfl 25 (.tmp 1) rfl w.heap.size rfl 25 (scC (some ⟨_, _, none⟩) _ _ _ _ _) (0, 0) _ kB1.blk Try.underlying25 rfl (sc_inf _ _ _ _ _ _) ?_)
          | (refine wpList_load_row rfl 25 (.tmp 1) rfl w.heap.size rfl 25 (scC A _ _ _ _ _) (0, 0) _ kB1.blk Try.underlying25 rfl (sc_inf _ _ _ _ _ _) ?_)
          | (refine CL.mono ?_
             clear CL
             rintro e w2 ⟨rfl, bb⟩
             have hB2 := hB1.trans (bb.mono hB1.size)
             clear bb))
        go_ret
        exact ⟨by rw [HI.out]; rfl, hB2⟩
      · rw [h1, Bool.true_and] at hI
        obtain ⟨qc, hqc⟩ : ∃ qc, x.1.q.contains x.1.o = qc := ⟨_, rfl⟩
        rw [hqc] at hI
        have HQC := Lib.hid hqc
        clear hqc
        cases qc
        · rw [Bool.not_false, Bool.true_and] at hI
          have HI := Lib.hid hI
          clear hI
          go_wp2_with (first
            | (refine wpList_load_mid rfl 48 (.tmp 10) rfl b (off + k * 3) rfl (kwC x).toList _ hc Try.underlying48 rfl (kw_infL x) ?_)
            | (refine wpList_store_blk rfl 48 (.tmp 4) (.tmp 11) rfl wr.heap.size (kwC kw0) (kwC x) 48 rfl rfl (Blk.new _ _ _) rfl (kw_inf x) (kw_one x) ?_
               intro w1 k2 n1
               have bb : Below wr.heap.size wr w1 := ((Below.refl _ wr).alloc (Nat.le_refl _) _).trans (n1.below _ (Nat.le_refl _) (by simp))
               have hB1 := hB.trans (bb.mono hB.size)
               have kB1 := kB.below bb kB.lt
               have q41 : w1.cell? ⟨wr.heap.size, 1, none⟩ = some (.int .i64 x.1.o) := k2.cell 1
               have CL := LV.out x.1.o w1 hB1
               rw [h1] at CL
               clear bb n1 hc)
            | (refine wpList_load_row rfl 25 (.tmp 1) rfl w.heap.size rfl 25 (scC A _ _ _ _ _) (0, 0) _ kB1.blk Try.underlying25 rfl (sc_inf _ _ _ _ _ _) ?_)
            | (refine CL.mono ?_
               clear CL
               rintro e w2 ⟨rfl, bb⟩
               have hB2 := hB1.trans (bb.mono hB1.size)
               have kB2 := kB1.below bb kB1.lt
               have k22 := k2.below bb k2.lt
               have q41 : w2.cell? ⟨wr.heap.size, 1, none⟩ = some (.int .i64 x.1.o) := k22.cell 1
               have q42 : w2.cell? ⟨wr.heap.size, 2, none⟩ = some (.slice x.2.1 x.1.q.length x.2.2) := k22.cell 2
               have CQ := containsZ_any x.2.1 x.1.q.length x.2.2 x.1.q x.1.o w2 ((HQ.out.ri.below hB2 (Nat.le_refl _)).more hB2.size) rfl HQ.out.le HQ.out.l
               rw [HQC.out] at CQ
               clear bb k2 k22 kB1 hB1)
            | (refine CQ.mono ?_
               clear CQ
               rintro e w3 ⟨rfl, bb⟩
               have hB3 := hB2.trans (bb.mono hB2.size)
               have kB3 := kB2.below bb kB2.lt
               clear bb))
          go_roundw
          case rel => exact ⟨k + 1, _, rfl, by omega, by go_num, HI, hB3, kB3⟩
          case measure => simp [intOf]; omega
        · rw [Bool.not_true, Bool.false_and] at hI
          have HI := Lib.hid hI
          clear hI
          go_wp2_with (first
            | (refine wpList_load_mid rfl 48 (.tmp 10) rfl b (off + k * 3) rfl (kwC x).toList _ hc Try.underlying48 rfl (kw_infL x) ?_)
            | (refine wpList_store_blk rfl 48 (.tmp 4) (.tmp 11) rfl wr.heap.size (kwC kw0) (kwC x) 48 rfl rfl (Blk.new _ _ _) rfl (kw_inf x) (kw_one x) ?_
               intro w1 k2 n1
               have bb : Below wr.heap.size wr w1 := ((Below.refl _ wr).alloc (Nat.le_refl _) _).trans (n1.below _ (Nat.le_refl _) (by simp))
               have hB1 := hB.trans (bb.mono hB.size)
               have kB1 := kB.below bb kB.lt
               have q41 : w1.cell? ⟨wr.heap.size, 1, none⟩ = some (.int .i64 x.1.o) := k2.cell 1
               have CL := LV.out x.1.o w1 hB1
               rw [h1] at CL
               clear bb n1 hc)
            | (refine wpList_load_row rfl 25 (.tmp 1) rfl w.heap.size rfl 25 (scC A _ _ _ _ _) (0, 0) _ kB1.blk Try.underlying25 rfl (sc_inf _ _ _ _ _ _) ?_)
            | (refine CL.mono ?_
               clear CL
               rintro e w2 ⟨rfl, bb⟩
               have hB2 := hB1.trans (bb.mono hB1.size)
               have k22 := k2.below bb k2.lt
               have q41 : w2.cell? ⟨wr.heap.size, 1, none⟩ = some (.int .i64 x.1.o) := k22.cell 1
               have q42 : w2.cell? ⟨wr.heap.size, 2, none⟩ = some (.slice x.2.1 x.1.q.length x.2.2) := k22.cell 2
               have CQ := containsZ_any x.2.1 x.1.q.length x.2.2 x.1.q x.1.o w2 ((HQ.out.ri.below hB2 (Nat.le_refl _)).more hB2.size) rfl HQ.out.le HQ.out.l
               rw [HQC.out] at CQ
               clear bb k2 k22 kB1 hB1)
            | (refine CQ.mono ?_
               clear CQ
               rintro e w3 ⟨rfl, bb⟩
               have hB3 := hB2.trans (bb.mono hB2.size)
               clear bb))
          go_ret
          exact ⟨by rw [HI.out]; rfl, hB3⟩
    · obtain rfl : k = m2 := by omega
      have hI := HI.out
      rw [List.drop_of_length_le (by have := HM.out; omega)] at hI
      have HI := Lib.hid hI
      clear hI
      go_wp2_with fail
      go_ret
      exact ⟨by rw [HI.out]; rfl, hB⟩
end Go.Proofs.Ytolalbpjaebfdaa
namespace Go.Proofs.Ytolalbpjaebfdaa
open Go.RowKit Go.Shelf
set_option linter.unusedVariables false
set_option linter.unusedSimpArgs false
set_option maxRecDepth 100000 in
set_option maxHeartbeats 2000000 in
theorem indexZq (A : Option Addr) (m c : Nat) (l : List Int) (x : Int) (w : World) (hA : Ri7 w w.heap.size A l) (hm : m = l.length) (hmc : m ≤ c) (h6 : m ≤ 1000000) :
    Calls Try.prog 95 #[.slice A m c, .int .i64 x] w fun e w' => ∃ r, e = .returned (.int .i64 r) ∧ IxR l x r ∧ w' = w := by
  have HM := Lib.hid hm
  clear hm
  go_enter Try.func95, Try.ntmps95
  go_wp2_with fail
  go_loopw [8] (fun i wr' => ∃ (k : Nat) (wr : World), wr = wr' ∧ k ≤ m ∧ i = .int .i64 k ∧ Hid (∀ j, j < k → l.getD j 0 ≠ x) ∧ Hid (wr = w)) (fun i _ => m - (intOf i).toNat)
  case atStart => exact ⟨0, _, rfl, Nat.zero_le _, rfl, Lib.hid (fun j hj => absurd hj (Nat.not_lt_zero j)), Lib.hid rfl⟩
  case round =>
    obtain ⟨k, wr, hwr, hk, rfl, hall, HW⟩ := hrel
    subst hwr
    by_cases hlt : k < m
    · have hlt' : (k : Int) < (m : Int) := by omega
      have hkl : k < l.length := by have := HM.out; omega
      have hAr : Ri7 wr w.heap.size A l := by rw [HW.out]; exact hA
      obtain ⟨b, off, rfl, hb, hc⟩ := hAr k hkl
      clear hAr
      obtain ⟨y, hy⟩ : ∃ y, l.getD k 0 = y := ⟨_, rfl⟩
      rw [hy] at hc
      have HY := Lib.hid hy
      have HK := Lib.hid hkl
      clear hy hkl
      cases hxy : (x == y)
      · have HN := Lib.hid (show x ≠ y by simpa using hxy)
        go_wp2_with (fail)
        go_roundw
        case rel =>
          refine ⟨k + 1, _, rfl, by omega, by go_num, Lib.hid (fun j hj => ?_), Lib.hid ?_⟩
          · rcases Nat.lt_succ_iff_lt_or_eq.1 hj with h | rfl
            · exact hall.out j h
            · rw [HY.out]; exact fun h => HN.out h.symm
          · exact HW.out
        case measure => simp [intOf]; omega
      · have HN := Lib.hid (show x = y by simpa using hxy)
        go_wp2_with (fail)
        go_ret
        exact ⟨_, rfl, .inl ⟨k, rfl, HK.out, by rw [HY.out, HN.out]⟩, HW.out⟩
    · obtain rfl : k = m := by omega
      go_wp2_with fail
      go_ret
      exact ⟨_, rfl, .inr ⟨rfl, by rw [← HM.out]; exact hall.out⟩, HW.out⟩
set_option maxRecDepth 100000 in
set_option maxHeartbeats 2000000 in
theorem containsZq (A : Option Addr) (m c : Nat) (l : List Int) (x : Int) (w : World) (hA : Ri7 w w.heap.size A l) (hm : m = l.length) (hmc : m ≤ c) (h6 : m ≤ 1000000) :
    Calls Try.prog 82 #[.slice A m c, .int .i64 x] w fun e w' => e = .returned (.bool (l.contains x)) ∧ w' = w := by
  have HI := Lib.hid (indexZq A m c l x w hA hm hmc h6)
  clear hm
  go_enter Try.func82, Try.ntmps82
  go_wp2_with fail
  refine HI.out.mono ?_
  rintro e w1 ⟨r, rfl, hr, rfl⟩
  have HR := Lib.hid hr.mem
  clear hr HI
  go_wp2_with fail
  go_ret
  exact ⟨by rw [← HR.out]; rfl, rfl⟩
end Go.Proofs.Ytolalbpjaebfdaa
namespace Go.Proofs.Ytolalbpjaebfdaa
open Go.RowKit Go.Shelf
set_option linter.unusedVariables false
set_option linter.unusedSimpArgs false
theorem eqF_consR {P : Program} {d : Nat} {xs ys : Array Value} {f : Field} {fs : List Field} {w : World} {a b : Value} {r r' : Bool} (hn : f.name ≠ "_") (ha : (part f.type xs f.offset).run P w = .ok a w) (hb : (part f.type ys f.offset).run P w = .ok b w)
    (hr : (Op.equalIn d f.type a b).run P w = .ok r w) (hf : (Op.eqFields d xs ys fs).run P w = .ok r' w) : (Op.eqFields d xs ys (f :: fs)).run P w = .ok (r && r') w := by
  simp only [Op.eqFields, hn, ne_eq, not_false_eq_true, if_true, Sem.run_bind, ha, hb, hr, Result.andThen_ok]
  cases r <;> simp [hf]
theorem rn_fields : (Try.prog.fieldsOf 52).toList = [⟨"Id", 3, 0, false, "", "", 0⟩, ⟨"State", 3, 1, false, "", "", 8⟩, ⟨"Wants", 3, 2, false, "", "", 16⟩] := by kernel_rfl
def sameR (a b : Rn) : Bool := a.i == b.i && (a.s == b.s && a.n == b.n)
theorem run_eqIn_rn (d : Nat) (a b : Rn) (w : World) : (Op.equalIn (d + 2) 52 (.agg (rnC a)) (.agg (rnC b))).run Try.prog w = .ok (sameR a b) w := by
  rw [run_equalIn_struct w (d + 1) 52 _ _ (by kernel_rfl) (by kernel_rfl), rn_fields]
  have h0 := run_equalIn_int w d 3 .i64 .i64 a.i b.i Try.underlying3
  have h1 := run_equalIn_int w d 3 .i64 .i64 a.s b.s Try.underlying3
  have h2 := run_equalIn_int w d 3 .i64 .i64 a.n b.n Try.underlying3
  have hz : (Op.eqFields (d + 1) (rnC a) (rnC b) []).run Try.prog w = .ok true w := by simp [Op.eqFields]
  have e := eqF_consR (f := ⟨"Id", 3, 0, false, "", "", 0⟩) (by decide) (run_part_plain w (v := .int .i64 a.i) (by kernel_rfl) rfl) (run_part_plain w (v := .int .i64 b.i) (by kernel_rfl) rfl) h0
    (eqF_consR (f := ⟨"State", 3, 1, false, "", "", 8⟩) (by decide) (run_part_plain w (v := .int .i64 a.s) (by kernel_rfl) rfl) (run_part_plain w (v := .int .i64 b.s) (by kernel_rfl) rfl) h1
    (eqF_consR (f := ⟨"Wants", 3, 2, false, "", "", 16⟩) (by decide) (run_part_plain w (v := .int .i64 a.n) (by kernel_rfl) rfl) (run_part_plain w (v := .int .i64 b.n) (by kernel_rfl) rfl) h2 hz))
  have eb : (a.i == b.i && (a.s == b.s && (a.n == b.n && true))) = sameR a b := by
    unfold sameR
    simp only [Bool.and_true]
  rw [e, eb]
theorem run_neq_rn (a b : Rn) (w : World) : (binOp .neq 52 (.agg (rnC a)) (.agg (rnC b))).run Try.prog w = .ok (.bool (!sameR a b)) w := by
  rw [run_neq_struct, run_eqIn_rn 9998]
  rfl
theorem rn_guard : Try.prog.eqGuardType Try.prog.depth 52 = false := by kernel_rfl
theorem class_neq_rn {ops : Array Oper} {S : World → Prop} {Q : Act → Prop} {a : Act} {o : Oper} {rest : List Oper} (hw : Region.wanted o (yielded ops a.tmps) = true) (x y : Operand) (ho : o.op = .binOp .neq 52 x y 52)
    (s s' : Rn) (hx : a.eval x = .agg (rnC s)) (hy : a.eval y = .agg (rnC s')) (b : Bool) (hb : sameR s s' = b)
    (h : wpQuiet Try.prog ops (fun w' => ∃ s : Sig S, w' = s.V) Q rest (a.put o.dst (.bool !b))) : wpQuiet Try.prog ops (fun w' => ∃ s : Sig S, w' = s.V) Q (o :: rest) a :=
  wpQuiet_step fun K hK => by
    rw [if_pos hw]
    refine ⟨.bool !b, ?_, hK _ h⟩
    rintro w ⟨s1, rfl⟩
    have hrun := run_neq_rn s s' s1.V
    rw [hb] at hrun
    unfold Oper.quietAt execOp
    simp only [ho, hx, hy, Sem.run_bind, run_eqGuard_agg s1.V .neq 52 x y _ _ rn_guard, hrun, Result.andThen_ok]
    exact ⟨rfl, rfl⟩
end Go.Proofs.Ytolalbpjaebfdaa

/-
  steps.Same.
-/
import Derived.Test.YtfohifnbohdbcaaScO
import Derived.Test.YtfohifnbohdbcaaEqZ
namespace Go.Proofs.Ytfohifnbohdbcaa
open Go.RowKit Go.Shelf
set_option linter.unusedVariables false
set_option linter.unusedSimpArgs false

/-- The same lock. -/
def eqK (x y : Kw) : Bool := x.1.n == y.1.n && (x.1.o == y.1.o && (x.1.q == y.1.q))
theorem eqK_iff (x y : Kw) : eqK x y = true ↔ x.1 = y.1 := by
  obtain ⟨⟨i, p, t⟩, r⟩ := x
  obtain ⟨⟨i2, p2, t2⟩, r2⟩ := y
  simp [eqK]
def EqK (L M : List Kw) (m m2 : Nat) (b : Bool) : Prop := b = true ↔ m = m2 ∧ ∀ k, k < m → eqK (L.getD k kw0) (M.getD k kw0) = true
theorem EqK.val {L M : List Kw} {m m2 : Nat} {b : Bool} (h : EqK L M m m2 b) (hm : m = L.length) (hm2 : m2 = M.length) : b = decide (L.map (·.1) = M.map (·.1)) := by
  have hi : (m = m2 ∧ ∀ k, k < m → eqK (L.getD k kw0) (M.getD k kw0) = true) ↔ L.map (·.1) = M.map (·.1) := by
    constructor
    · rintro ⟨h1, h2⟩
      refine List.ext_getElem (by simp; omega) fun k hk hk' => ?_
      have e := (eqK_iff _ _).1 (h2 k (by simp at hk; omega))
      simp only [List.length_map] at hk hk'
      simpa [List.getD, hk, hk'] using e
    · intro e
      have hl : L.length = M.length := by simpa using congrArg List.length e
      refine ⟨by omega, fun k hk => (eqK_iff _ _).2 ?_⟩
      have hk1 : k < L.length := by omega
      have hk2 : k < M.length := by omega
      have := congrArg (fun l => l[k]?) e
      simp only [List.getElem?_map, List.getElem?_eq_getElem hk1, List.getElem?_eq_getElem hk2, Option.map_some, Option.some.injEq] at this
      simpa [List.getD, hk1, hk2] using this
  cases b
  · rw [Eq.comm, decide_eq_false_iff_not]
    exact fun e => absurd (h.2 (hi.2 e)) (by decide)
  · rw [Eq.comm, decide_eq_true_iff]
    exact hi.1 (h.1 rfl)
set_option maxRecDepth 100000 in
set_option maxHeartbeats 4000000 in
theorem same1_sc (x y : Kw) (w : World) (hx : Tq w w.heap.size x) (hy : Tq w w.heap.size y) :
    Calls Try.prog 65 #[kwV x, kwV y] w fun e w' => e = .returned (.bool (eqK x y)) ∧ Below w.heap.size w w' := by
  have k1 := (Blk.new w (kwC x) 48).alloc (.cells (kwC y) 48)
  have k2 := Blk.new_ (w.alloc (.cells (kwC x) 48)) (kwC y) 48 (n := w.heap.size + 1) (by simp)
  have B0 := ((Below.refl w.heap.size w).alloc (Nat.le_refl _) (.cells (kwC x) 48)).alloc (by simp) (.cells (kwC y) 48)
  have q0 : _ = some (Value.int .i64 x.1.n) := k1.cell 0
  have q1 : _ = some (Value.int .i64 x.1.o) := k1.cell 1
  have q2 : _ = some (Value.slice x.2.1 x.1.q.length x.2.2) := k1.cell 2
  have p0 : _ = some (Value.int .i64 y.1.n) := k2.cell 0
  have p1 : _ = some (Value.int .i64 y.1.o) := k2.cell 1
  have p2 : _ = some (Value.slice y.2.1 y.1.q.length y.2.2) := k2.cell 2
  have hr := equalZ_any x.2.1 x.1.q.length x.2.2 x.1.q y.2.1 y.1.q.length y.2.2 y.1.q _ ((hx.ri.below B0 (Nat.le_refl _)).more B0.size) rfl hx.l ((hy.ri.below B0 (Nat.le_refl _)).more B0.size) rfl
  obtain ⟨E, hE⟩ : ∃ E, eqK x y = E := ⟨_, rfl⟩
  rw [hE]
  unfold eqK at hE
  have HE := Lib.hid hE
  clear hE hx hy
  unfold kwV kwC at *
  cases h1 : (x.1.n == y.1.n)
  · have hr : E = false := by rw [← HE.out, h1]; rfl
    go_enter Try.func65, Try.ntmps65
    go_wp2_with fail
    go_ret
    exact ⟨by rw [hr]; rfl, B0⟩
  · cases h2 : (x.1.o == y.1.o)
    · have hr : E = false := by rw [← HE.out, h1, h2]; rfl
      go_enter Try.func65, Try.ntmps65
      go_wp2_with fail
      go_ret
      exact ⟨by rw [hr]; rfl, B0⟩
    · have hre : E = (x.1.q == y.1.q) := by rw [← HE.out, h1, h2]; rfl
      rw [← hre] at hr
      clear hre
      go_enter Try.func65, Try.ntmps65
      go_wp2_with (refine hr.mono ?_; rintro e w1 ⟨rfl, b1⟩)
      go_ret
      exact ⟨rfl, B0.trans (b1.mono B0.size)⟩
set_option maxRecDepth 100000 in
set_option maxHeartbeats 4000000 in
theorem eqF_sc (A : Option Addr) (m c : Nat) (L : List Kw) (A2 : Option Addr) (m2 c2 : Nat) (M : List Kw) (w : World) (hP : RsK w w.heap.size A L) (hQ : ∀ x ∈ L, Tq w w.heap.size x) (hP2 : RsK w w.heap.size A2 M) (hQ2 : ∀ x ∈ M, Tq w w.heap.size x) (hm : m = L.length) (hm2 : m2 = M.length) (h6 : m ≤ 1000000) (h62 : m2 ≤ 1000000) :
    Calls Try.prog 64 #[.slice A m c, .slice A2 m2 c2, .func (.func 65) #[] #[]] w fun e w' => ∃ b, e = .returned (.bool b) ∧ EqK L M m m2 b ∧ Below w.heap.size w w' := by
  have B0 := Below.refl w.heap.size w
  have ec := enters_of Try.func65 (by kernel_rfl) rfl
  have HM := Lib.hid hm
  have HM2 := Lib.hid hm2
  clear hm hm2
  by_cases hll : m = m2
  · subst hll
    have hf : ((m : Int) != (m : Int)) = false := by simp
    go_enter Try.func64, Try.ntmps64
    go_wp2_with fail
    go_loopw [17] (fun i wr' => ∃ (k : Nat) (wr : World), wr = wr' ∧ k ≤ m ∧ i = .int .i64 k ∧ Hid (∀ j, j < k → eqK (L.getD j kw0) (M.getD j kw0) = true) ∧ Below w.heap.size w wr) (fun i _ => m - (intOf i).toNat)
    case atStart => exact ⟨0, _, rfl, Nat.zero_le _, rfl, Lib.hid (fun j hj => absurd hj (Nat.not_lt_zero j)), B0⟩
    case round =>
      clear B0
      obtain ⟨k, wr, hwr, hk, rfl, hall, hB⟩ := hrel
      subst hwr
      by_cases hlt : k < m
      · have hlt' : (k : Int) < (m : Int) := by omega
        have hkl : k < L.length := by have := HM.out; omega
        have hkm : k < M.length := by have := HM2.out; omega
        obtain ⟨b, off, rfl, hb, hc⟩ := (hP.below hB (Nat.le_refl _)) k hkl
        obtain ⟨b2, off2, rfl, hb2, hc2⟩ := (hP2.below hB (Nat.le_refl _)) k hkm
        have hx0 : Tq w w.heap.size (L.getD k kw0) := by
          rw [show L.getD k kw0 = L[k] by simp [List.getD, hkl]]
          exact hQ _ (List.getElem_mem hkl)
        have hy0 : Tq w w.heap.size (M.getD k kw0) := by
          rw [show M.getD k kw0 = M[k] by simp [List.getD, hkm]]
          exact hQ2 _ (List.getElem_mem hkm)
        obtain ⟨x, hx⟩ : ∃ x, L.getD k kw0 = x := ⟨_, rfl⟩
        obtain ⟨y, hy⟩ : ∃ y, M.getD k kw0 = y := ⟨_, rfl⟩
        rw [hx] at hc hx0
        rw [hy] at hc2 hy0
        have HX := Lib.hid hx
        have HY := Lib.hid hy
        clear hx hy hkl hkm
        have hs2 : (kwC x).size = 3 := kw_size x
        have hs3 : (kwC y).size = 3 := kw_size y
        go_wp2_with (first
          | (refine wpList_load_mid rfl 48 (.tmp 20) rfl b (off + k * 3) rfl (kwC x).toList _ hc Try.underlying48 rfl (kw_infL x) ?_)
          | (refine wpList_store_blk rfl 48 (.tmp 8) (.tmp 21) rfl wr.heap.size (kwC kw0) (kwC x) 48 rfl rfl (Blk.new _ _ _) rfl (kw_inf x) (kw_one x) ?_
             intro w1 h1 n1
             have bb : Below wr.heap.size wr w1 := ((Below.refl _ wr).alloc (Nat.le_refl _) _).trans (n1.below _ (Nat.le_refl _) (by simp))
             have hB1 := hB.trans (bb.mono hB.size)
             have hc3 := range_below3 hc2 bb (Nat.lt_of_lt_of_le hb2 hB.size)
             clear bb n1 hc hc2)
          | (refine wpList_load_mid rfl 48 (.tmp 24) rfl b2 (off2 + k * 3) rfl (kwC y).toList _ hc3 Try.underlying48 rfl (kw_infL y) ?_)
          | (refine wpList_store_blk rfl 48 (.tmp 9) (.tmp 25) rfl w1.heap.size (kwC kw0) (kwC y) 48 rfl rfl (Blk.new _ _ _) rfl (kw_inf y) (kw_one y) ?_
             intro w2 h2 n2
             have bb : Below w1.heap.size w1 w2 := ((Below.refl _ w1).alloc (Nat.le_refl _) _).trans (n2.below _ (Nat.le_refl _) (by simp))
             have hB2 := hB1.trans (bb.mono hB1.size)
             have h12 := h1.below bb h1.lt
             clear bb n2 hc3 h1 hB1)
          | (refine wpList_load_row rfl 48 (.tmp 8) rfl wr.heap.size rfl 48 (kwC x) (0, 0) _ h12.blk Try.underlying48 rfl (kw_inf x) ?_)
          | (refine wpList_load_row rfl 48 (.tmp 9) rfl w1.heap.size rfl 48 (kwC y) (0, 0) _ h2.blk Try.underlying48 rfl (kw_inf y) ?_))
        refine (same1_sc x y w2 ((hx0.below hB2 (Nat.le_refl _)).more hB2.size) ((hy0.below hB2 (Nat.le_refl _)).more hB2.size)).mono ?_
        rintro e w3 ⟨rfl, bb⟩
        have hB3 := hB2.trans (bb.mono hB2.size)
        clear bb hB2 h2 h12
        obtain ⟨sb, hsb⟩ : ∃ sb, eqK x y = sb := ⟨_, rfl⟩
        have HSB := Lib.hid hsb
        rw [hsb]
        clear hsb
        cases sb
        · go_wp2_with fail
          go_ret
          refine ⟨false, rfl, ⟨fun h => absurd h (by decide), fun h => ?_⟩, hB3⟩
          have := h.2 k hlt
          rw [HX.out, HY.out, HSB.out] at this
          cases this
        · go_wp2_with fail
          go_roundw
          case rel =>
            refine ⟨k + 1, _, rfl, by omega, by go_num, Lib.hid (fun j hj => ?_), hB3⟩
            rcases Nat.lt_succ_iff_lt_or_eq.1 hj with h | rfl
            · exact hall.out j h
            · rw [HX.out, HY.out]; exact HSB.out
          case measure => simp [intOf]; omega
      · obtain rfl : k = m := by omega
        go_wp2_with fail
        go_ret
        exact ⟨true, rfl, ⟨fun _ => ⟨rfl, hall.out⟩, fun _ => rfl⟩, hB⟩
  · have hf : ((m : Int) != (m2 : Int)) = true := by simp; omega
    have HLL := Lib.hid hll
    clear hll
    go_enter Try.func64, Try.ntmps64
    go_wp2_with fail
    go_ret
    exact ⟨false, rfl, ⟨fun h => absurd h (by decide), fun h => absurd h.1 HLL.out⟩, B0⟩
/-- The same schedule. -/
def sameS (R R2 : List Rn) (L L2 : List Kw) : Bool := eqR R R2 && decide (L.map (·.1) = L2.map (·.1))
set_option maxRecDepth 100000 in
set_option maxHeartbeats 4000000 in
theorem same_sc (A : Option Addr) (m c : Nat) (R : List Rn) (A2 : Option Addr) (m2 c2 : Nat) (L : List Kw) (B : Option Addr) (n d : Nat) (R2 : List Rn) (B2 : Option Addr) (n2 d2 : Nat) (L2 : List Kw) (w : World) (h : Sc w w.heap.size A m c R A2 m2 c2 L) (h2 : Sc w w.heap.size B n d R2 B2 n2 d2 L2) :
    Calls Try.prog 25 #[scV A m c A2 m2 c2, scV B n d B2 n2 d2] w fun e w' => e = .returned (.bool (sameS R R2 L L2)) ∧ Below w.heap.size w w' := by
  have k1 := (Blk.new w (scC A m c A2 m2 c2) 25).alloc (.cells (scC B n d B2 n2 d2) 25)
  have k2 := Blk.new_ (w.alloc (.cells (scC A m c A2 m2 c2) 25)) (scC B n d B2 n2 d2) 25 (n := w.heap.size + 1) (by simp)
  have B0 := ((Below.refl w.heap.size w).alloc (Nat.le_refl _) (.cells (scC A m c A2 m2 c2) 25)).alloc (by simp) (.cells (scC B n d B2 n2 d2) 25)
  have q0 : _ = some (Value.slice A m c) := k1.cell 0
  have p0 : _ = some (Value.slice B n d) := k2.cell 0
  have PS := Lib.hid (equal_R A m c R B n d R2 _ (h.on B0).rs h.len (by have := h.lim; omega) (h2.on B0).rs h2.len)
  have EF := Lib.hid (fun (V : World) (hV : Below w.heap.size w V) => eqF_sc A2 m2 c2 L B2 n2 d2 L2 V (h.on hV).ks (h.on hV).q (h2.on hV).ks (h2.on hV).q h.len2 h2.len2 (by have := h.lim2; omega) (by have := h2.lim2; omega))
  have HM := Lib.hid h.len2
  have HM2 := Lib.hid h2.len2
  unfold sameS
  generalize eqR R R2 = b1 at PS ⊢
  clear h h2
  unfold scV
  unfold scC at *
  cases b1
  · go_enter Try.func25, Try.ntmps25
    go_wp2_with (refine PS.out.mono ?_; rintro e w1 ⟨rfl, b1⟩)
    go_ret
    exact ⟨by rw [Bool.false_and]; rfl, B0.trans (b1.mono B0.size)⟩
  · go_enter Try.func25, Try.ntmps25
    go_wp2_with (first
      | (refine PS.out.mono ?_
         clear PS
         rintro e w1 ⟨rfl, b1⟩
         have k11 := k1.below b1 k1.lt
         have k21 := k2.below b1 k2.lt
         have q2 : w1.cell? ⟨w.heap.size, 1, none⟩ = some (.slice A2 m2 c2) := k11.cell 1
         have p2 : w1.cell? ⟨w.heap.size + 1, 1, none⟩ = some (.slice B2 n2 d2) := k21.cell 1
         have B1 := B0.trans (b1.mono B0.size))
      | (refine (EF.out _ B1).mono ?_
         clear EF
         rintro e w2 ⟨b, rfl, he, b2⟩))
    go_ret
    exact ⟨by rw [he.val HM.out HM2.out, Bool.true_and]; rfl, B1.trans (b2.mono B1.size)⟩
end Go.Proofs.Ytfohifnbohdbcaa

/-
  What a change is handed: threads and locks of its own; steps.copied.
-/
import Derived.Test.YtfohifnbohdbcaaScRs
namespace Go.Proofs.Ytfohifnbohdbcaa
open Go.RowKit Go.Shelf
set_option linter.unusedVariables false
set_option linter.unusedSimpArgs false

theorem region_cutY {α : Type} {P : Program} {id : Nat} {ops : Array Oper} {dr : Bool} {Q : Exit → Act → World → Prop} {a : Act} {w : World} (F : α → Act) (H : α → World → Prop)
    (h1 : (Code.region id ops dr).wp P (fun e a' w' => e = .normal ∧ ∃ x, a' = F x ∧ H x w') a w) (h2 : ∀ x w', H x w' → Q .normal (F x) w') : (Code.region id ops dr).wp P Q a w :=
  Code.wp_mono (fun e a' w' h => by obtain ⟨he, x, ha, hg⟩ := h; subst he ha; exact h2 _ _ hg) h1
/-- An own row is kept, where only a block of another kind turns. -/
theorem own_kind {w w' : World} {base e size n : Nat} {v : Value} {xs : List Value} {row : Option Nat} (h : w.ownsRow base e size v n xs) (hg : w.grownBy w' row) (hr : ∀ g, row = some g → ∃ cs t, Blk w g cs t ∧ t ≠ e) : w'.ownsRow base e size v n xs := by
  refine ⟨h.1, ?_⟩
  rcases h.2 with h0 | ⟨g', cap, cur, hv, hb, hh, r⟩
  · exact .inl h0
  · refine .inr ⟨g', cap, cur, hv, hb, (hg.block g' (Array.getElem?_eq_some_iff.1 hh).1 (fun e1 => ?_)).trans hh, r⟩
    obtain ⟨cs, t, k, hne⟩ := hr g' e1.symm
    have := k.blk
    rw [hh] at this
    have h9 : e = t := by injection this with this; injection this
    exact hne h9.symm
theorem grown_but {w w' : World} {g : Nat} (n : But g w w') : w.grownBy w' (some g) := ⟨n.os, n.tape, n.output, n.size, fun k hk hne => n.block k hk (fun e => hne (by rw [e]))⟩
theorem but_grown {w w' : World} {g : Nat} (n : w.grownBy w' (some g)) : But g w w' := ⟨n.os, n.tape, n.output, n.size, fun k hk hne => n.block k hk (fun e => hne (Option.some.inj e))⟩
/-- Where a Queue lies. -/
def ownQ (x : Kw) : Option Nat := (Value.slice x.2.1 x.1.q.length x.2.2).ownBlock
/-- Threads and locks that the call owns, and the locks' Queues. -/
structure Own (V : World) (B : Nat) (A1 : Option Addr) (m1 c1 : Nat) (R : List Rn) (A2 : Option Addr) (m2 c2 : Nat) (L : List Kw) : Prop where
  rr : RoR V B A1 m1 c1 R
  rl : RoK V B A2 m2 c2 L
  q : ∀ x ∈ L, Zo V B x.2.1 x.1.q.length x.2.2 x.1.q
  qd : ∀ i j, i < L.length → j < L.length → i ≠ j → ∀ g, ownQ (L.getD i kw0) = some g → ownQ (L.getD j kw0) ≠ some g
theorem zo_tq {w : World} {B : Nat} {x : Kw} (h : Zo w B x.2.1 x.1.q.length x.2.2 x.1.q) (hl : x.1.q.length ≤ 1000000) : Tq w w.heap.size x := ⟨h.ri, h.cap, hl⟩
theorem Own.sc {V : World} {B : Nat} {A1 : Option Addr} {m1 c1 : Nat} {R : List Rn} {A2 : Option Addr} {m2 c2 : Nat} {L : List Kw} (h : Own V B A1 m1 c1 R A2 m2 c2 L) (h1 : m1 ≤ 100000) (h2 : m2 ≤ 100000) (hq : ∀ x ∈ L, x.1.q.length ≤ 1000000) : Sc V V.heap.size A1 m1 c1 R A2 m2 c2 L :=
  ⟨h.rr.rs, h.rl.rs, fun x hx => zo_tq (h.q x hx) (hq x hx), h.rr.len, h.rl.len, h1, h2⟩
theorem Own.below {V V' : World} {B B' : Nat} {A1 : Option Addr} {m1 c1 : Nat} {R : List Rn} {A2 : Option Addr} {m2 c2 : Nat} {L : List Kw} (h : Own V B A1 m1 c1 R A2 m2 c2 L) (b : Below B' V V') (hB : V.heap.size ≤ B') : Own V' B A1 m1 c1 R A2 m2 c2 L :=
  ⟨h.rr.below b hB, h.rl.below b hB, fun x hx => (h.q x hx).below b hB, h.qd⟩
theorem Own.kind {V V' : World} {B g : Nat} {A1 : Option Addr} {m1 c1 : Nat} {R : List Rn} {A2 : Option Addr} {m2 c2 : Nat} {L : List Kw} {cs : Array Value} {t : TypeId} (h : Own V B A1 m1 c1 R A2 m2 c2 L) (n : But g V V') (k : Blk V g cs t) (h1 : t ≠ 52) (h2 : t ≠ 48) (h3 : t ≠ 3) : Own V' B A1 m1 c1 R A2 m2 c2 L :=
  ⟨own_kind h.rr (grown_but n) (fun g' e => by cases e; exact ⟨cs, t, k, h1⟩), own_kind h.rl (grown_but n) (fun g' e => by cases e; exact ⟨cs, t, k, h2⟩), fun x hx => own_kind (h.q x hx) (grown_but n) (fun g' e => by cases e; exact ⟨cs, t, k, h3⟩), h.qd⟩
theorem zo_blk {w : World} {B m c : Nat} {A : Option Addr} {l : List Int} {g : Nat} (h : Zo w B A m c l) (hg : (Value.slice A m c).ownBlock = some g) : ∃ cur, Blk w g cur 3 := by
  rcases h.form with ⟨rfl, _⟩ | ⟨g', rfl, _, _, cur, hh, _⟩
  · cases hg
  · have e : some g' = some g := hg
    cases e
    exact ⟨cur, ⟨hh⟩⟩
theorem roR_blk {w : World} {B m c : Nat} {A : Option Addr} {L : List Rn} {g : Nat} (h : RoR w B A m c L) (hg : (Value.slice A m c).ownBlock = some g) : ∃ cur, Blk w g cur 52 := by
  rcases h.form with ⟨rfl, _⟩ | ⟨g', rfl, _, _, cur, hh, _⟩
  · cases hg
  · have e : some g' = some g := hg
    cases e
    exact ⟨cur, ⟨hh⟩⟩
theorem roK_blk {w : World} {B m c : Nat} {A : Option Addr} {L : List Kw} {g : Nat} (h : RoK w B A m c L) (hg : (Value.slice A m c).ownBlock = some g) : ∃ cur, Blk w g cur 48 := by
  rcases h.form with ⟨rfl, _⟩ | ⟨g', rfl, _, _, cur, hh, _⟩
  · cases hg
  · have e : some g' = some g := hg
    cases e
    exact ⟨cur, ⟨hh⟩⟩
/-- What is read is kept, where a block of another kind turns. -/
theorem cell_but {w w' : World} {g b o : Nat} {v : Value} (n : But g w w') (h : w.cell? ⟨b, o, none⟩ = some v) (hne : b ≠ g) : w'.cell? ⟨b, o, none⟩ = some v := by
  have hb : b < w.heap.size := World.block_lt_of_cell? w _ h
  simp only [World.cell?] at h ⊢
  rw [n.block b hb hne]
  exact h
/-- Locks whose first Queues have been copied. -/
def mixK (L0 L1 : List Kw) (k : Nat) : Prop := L1.map (·.1) = L0.map (·.1) ∧ ∀ j, k ≤ j → j < L0.length → L1.getD j kw0 = L0.getD j kw0
structure Cpd (w : World) (B : Nat) (A : Option Addr) (m c : Nat) (R : List Rn) (A2 : Option Addr) (m2 c2 : Nat) (L : List Kw) (k : Nat) (A1 : Option Addr) (c1 : Nat) (A3 : Option Addr) (c3 : Nat) (L1 : List Kw) (V : World) : Prop where
  b : Below B w V
  ks : Blk V B (scC A1 m c1 A3 m2 c3) 25
  k2 : Blk V (B + 1) (scC none 0 0 none 0 0) 25
  rr : RoR V (B + 1) A1 m c1 R
  rl : RoK V (B + 1) A3 m2 c3 L1
  mx : mixK L L1 k
  q : ∀ j, j < k → j < L.length → Zo V (B + 1) (L1.getD j kw0).2.1 (L1.getD j kw0).1.q.length (L1.getD j kw0).2.2 (L1.getD j kw0).1.q
  qd : ∀ i j, i < k → j < k → i ≠ j → ∀ g, ownQ (L1.getD i kw0) = some g → ownQ (L1.getD j kw0) ≠ some g
theorem getD_namesK {L M : List Kw} (h : L.map (·.1) = M.map (·.1)) (j : Nat) : (L.getD j kw0).1 = (M.getD j kw0).1 := by
  have := congrArg (fun l => l[j]?) h
  simp only [List.getElem?_map] at this
  simp only [List.getD]
  cases h1 : L[j]? <;> cases h2 : M[j]? <;> rw [h1, h2] at this <;> simp at this
  · exact this
theorem names_setK {L : List Kw} {k : Nat} {y : Kw} (hk : k < L.length) (hy : y.1 = (L.getD k kw0).1) : (L.set k y).map (·.1) = L.map (·.1) := by
  rw [List.map_set, hy, show (L.getD k kw0).1 = (L.map (·.1))[k]'(by simpa using hk) by simp [List.getD, hk], List.set_getElem_self]
theorem getD_setK {L : List Kw} {k j : Nat} {y : Kw} (hk : k < L.length) : (L.set k y).getD j kw0 = if j = k then y else L.getD j kw0 := by
  simp only [List.getD, List.getElem?_set]
  by_cases h : k = j
  · subst h; simp [hk]
  · rw [if_neg h, if_neg (fun e => h e.symm)]
theorem Cpd.step {w V V' : World} {B : Nat} {A : Option Addr} {m c : Nat} {R : List Rn} {A2 : Option Addr} {m2 c2 : Nat} {L : List Kw} {k : Nat} {A1 : Option Addr} {c1 : Nat} {A3 : Option Addr} {c3 : Nat} {L1 : List Kw} (h : Cpd w B A m c R A2 m2 c2 L k A1 c1 A3 c3 L1 V) (b : Below V.heap.size V V') (hB : B ≤ V.heap.size) : Cpd w B A m c R A2 m2 c2 L k A1 c1 A3 c3 L1 V' :=
  ⟨h.b.trans (b.mono hB), h.ks.below b h.ks.lt, h.k2.below b h.k2.lt, h.rr.below b (Nat.le_refl _), h.rl.below b (Nat.le_refl _), h.mx, fun j h1 h2 => (h.q j h1 h2).below b (Nat.le_refl _), h.qd⟩
/-- What is known of each world of the first statement. -/
structure XS (w : World) (A : Option Addr) (m c : Nat) (A2 : Option Addr) (m2 c2 : Nat) (V : World) : Prop where
  b : Below w.heap.size w V
  k : ∃ A0 c0, Blk V w.heap.size #[.slice A0 m c0, .slice A2 m2 c2] 25
set_option maxRecDepth 100000 in
set_option maxHeartbeats 8000000 in
theorem copied_sc (A : Option Addr) (m c : Nat) (R : List Rn) (A2 : Option Addr) (m2 c2 : Nat) (L : List Kw) (w : World) (h : Sc w w.heap.size A m c R A2 m2 c2 L) :
    Calls Try.prog 69 #[scV A m c A2 m2 c2] w fun e w' => ∃ A1 c1 A3 c3 L1, e = .returned (scV A1 m c1 A3 m2 c3) ∧ Own w' w.heap.size A1 m c1 R A3 m2 c3 L1 ∧ L1.map (·.1) = L.map (·.1) ∧ Below w.heap.size w w' := by
  have k1 := (Blk.new w (scC A m c A2 m2 c2) 25).alloc (.cells #[.slice none 0 0, .slice none 0 0] 25)
  have k2 := Blk.new_ (w.alloc (.cells (scC A m c A2 m2 c2) 25)) #[.slice none 0 0, .slice none 0 0] 25 (n := w.heap.size + 1) (by simp)
  have B0 := ((Below.refl w.heap.size w).alloc (Nat.le_refl _) (.cells (scC A m c A2 m2 c2) 25)).alloc (by simp) (.cells #[.slice none 0 0, .slice none 0 0] 25)
  have CR := Lib.hid (fun (V : World) (hV : Below w.heap.size w V) => clone_R A m c R V (h.on hV).rs h.len h.lim)
  have CK := Lib.hid (fun (V : World) (hV : Below w.heap.size w V) => clone_K A2 m2 c2 L V (h.on hV).ks h.len2 h.lim2)
  have HS := Lib.hid h
  have HM2 := Lib.hid h.len2
  have h6 : m2 ≤ 100000 := h.lim2
  clear h
  unfold scV
  go_enter Try.func69, Try.ntmps69
  go_wp2_with fail
  generalize hW0 : (w.alloc (.cells (scC A m c A2 m2 c2) 25)).alloc (.cells #[.slice none 0 0, .slice none 0 0] 25) = W at k1 k2 B0 ⊢
  have k2 : Blk W (w.heap.size + 1) (scC none 0 0 none 0 0) 25 := k2
  clear hW0
  try simp only [Act.put, List.getElem_toArray, List.getElem_cons_zero, List.getElem_cons_succ, List.setIfInBounds_toArray, List.set_cons_zero, List.set_cons_succ]
  refine region_cutY (α := (Option Addr × Nat) × (Option Addr × Nat)) (fun q => { tmps := #[.agg (scC A m c A2 m2 c2), .pointer (some ⟨w.heap.size, 0, none⟩), .pointer (some ⟨w.heap.size + 1, 0, none⟩), undef, undef, .pointer (some ⟨w.heap.size, 0, none⟩), .slice A m c, .slice q.1.1 m q.1.2, .pointer (some ⟨w.heap.size, 1, none⟩), .slice A2 m2 c2, .slice q.2.1 m2 q.2.2, .pointer (some ⟨w.heap.size, 0, none⟩), .pointer (some ⟨w.heap.size, 1, none⟩), undef, undef, undef, undef, undef, undef, undef, undef, undef, undef, undef, undef, undef, undef, undef, undef, undef, undef], defers := [] }) (fun q V => Cpd w w.heap.size A m c R A2 m2 c2 L 0 q.1.1 q.1.2 q.2.1 q.2.2 L V) ?_ ?_
  · have k1 := k1.drew
    have k2 := k2.drew
    have J := B0.drew
    refine wp_region_held_drew (S := (fun V => Below w.heap.size w V)) (by kernel_rfl) J (fun _ => ?_)
    generalize W.drew = W0 at J k1 k2 ⊢
    clear B0
    have hs1 : w.heap.size + 1 < W0.heap.size := k2.lt
    refine wpAnyH_take (i := 0) (v := .pointer (some ⟨w.heap.size, 0, none⟩)) rfl (by kernel_rfl) (by kernel_rfl) (by kernel_rfl) (fun _ _ _ h => nomatch h.1) (.inl ⟨by rfl, fun V hV => by go_simp⟩) J ?_
    try simp only [Act.put, List.getElem_toArray, List.getElem_cons_zero, List.getElem_cons_succ, List.setIfInBounds_toArray, List.set_cons_zero, List.set_cons_succ]
    refine wpAnyH_take (i := 3) (v := .pointer (some ⟨w.heap.size, 1, none⟩)) rfl (by kernel_rfl) (by kernel_rfl) (by kernel_rfl) (fun _ _ _ h => nomatch h.1) (.inl ⟨by rfl, fun V hV => by go_simp⟩) J ?_
    try simp only [Act.put, List.getElem_toArray, List.getElem_cons_zero, List.getElem_cons_succ, List.setIfInBounds_toArray, List.set_cons_zero, List.set_cons_succ]
    refine wpAnyH_ready (rs := [1, 4]) (by kernel_rfl) (by simp) ?_
    refine AllReadyH.cons rfl (fun K hK => ?_) (AllReadyH.cons rfl (fun K hK => ?_) AllReadyH.nil)
    · try simp only [Act.put, List.getElem_toArray, List.getElem_cons_zero, List.getElem_cons_succ, List.setIfInBounds_toArray, List.set_cons_zero, List.set_cons_succ]
      have qq := k1.cell 0
      change _ = some (Value.slice A m c) at qq
      go_simp
      clear qq
      refine hK.out _ _ J (fun _ => ?_)
      clear hK K
      try simp only [Act.put, List.getElem_toArray, List.getElem_cons_zero, List.getElem_cons_succ, List.setIfInBounds_toArray, List.set_cons_zero, List.set_cons_succ]
      refine wpAnyH_ready (rs := [2, 4]) (by kernel_rfl) (by simp) ?_
      refine AllReadyH.cons rfl (fun K hK => ?_) (AllReadyH.cons rfl (fun K hK => ?_) AllReadyH.nil)
      · try simp only [Act.put, List.getElem_toArray, List.getElem_cons_zero, List.getElem_cons_succ, List.setIfInBounds_toArray, List.set_cons_zero, List.set_cons_succ]
        go_simp
        refine (CR.out _ J).mono ?_
        rintro e W2 ⟨A1, c1, rfl, ro, bb⟩
        go_wp2_with fail
        have k1 := k1.below bb k1.lt
        have k2 := k2.below bb k2.lt
        have hs2 := bb.size
        have ro := ro.down (b := w.heap.size + 1) (by omega)
        have J := J.trans (bb.mono J.size)
        have hs1 : w.heap.size + 1 < W2.heap.size := by omega
        clear bb hs2
        refine hK.out _ _ J (fun _ => ?_)
        clear hK K
        try simp only [Act.put, List.getElem_toArray, List.getElem_cons_zero, List.getElem_cons_succ, List.setIfInBounds_toArray, List.set_cons_zero, List.set_cons_succ]
        refine wpAnyH_ready (rs := [4]) (by kernel_rfl) (by simp) ?_
        refine AllReadyH.cons rfl (fun K hK => ?_) AllReadyH.nil
        try simp only [Act.put, List.getElem_toArray, List.getElem_cons_zero, List.getElem_cons_succ, List.setIfInBounds_toArray, List.set_cons_zero, List.set_cons_succ]
        have qq := k1.cell 1
        change _ = some (Value.slice A2 m2 c2) at qq
        go_simp
        clear qq
        refine hK.out _ _ J (fun _ => ?_)
        clear hK K
        try simp only [Act.put, List.getElem_toArray, List.getElem_cons_zero, List.getElem_cons_succ, List.setIfInBounds_toArray, List.set_cons_zero, List.set_cons_succ]
        refine wpAnyH_take (i := 6) (v := .pointer (some ⟨w.heap.size, 0, none⟩)) rfl (by kernel_rfl) (by kernel_rfl) (by kernel_rfl) (fun _ _ _ h => nomatch h.1) (.inl ⟨by rfl, fun V hV => by go_simp⟩) J ?_
        try simp only [Act.put, List.getElem_toArray, List.getElem_cons_zero, List.getElem_cons_succ, List.setIfInBounds_toArray, List.set_cons_zero, List.set_cons_succ]
        refine wpAnyH_ready (rs := [5]) (by kernel_rfl) (by simp) ?_
        refine AllReadyH.cons rfl (fun K hK => ?_) AllReadyH.nil
        try simp only [Act.put, List.getElem_toArray, List.getElem_cons_zero, List.getElem_cons_succ, List.setIfInBounds_toArray, List.set_cons_zero, List.set_cons_succ]
        go_simp
        refine (CK.out _ J).mono ?_
        rintro e W3 ⟨A3, c3, rfl, rk, bb⟩
        go_wp2_with fail
        have k1 := k1.below bb k1.lt
        have k2 := k2.below bb k2.lt
        have hs2 := bb.size
        have ro := ro.below bb (Nat.le_refl _)
        have rk := rk.down (b := w.heap.size + 1) (by omega)
        have J := J.trans (bb.mono J.size)
        clear bb hs2
        refine hK.out _ _ J (fun _ => ?_)
        clear hK K
        try simp only [Act.put, List.getElem_toArray, List.getElem_cons_zero, List.getElem_cons_succ, List.setIfInBounds_toArray, List.set_cons_zero, List.set_cons_succ]
        refine wpAnyH_ready (rs := [7]) (by kernel_rfl) (by simp) ?_
        refine AllReadyH.cons rfl (fun K hK => ?_) AllReadyH.nil
        try simp only [Act.put, List.getElem_toArray, List.getElem_cons_zero, List.getElem_cons_succ, List.setIfInBounds_toArray, List.set_cons_zero, List.set_cons_succ]
        have q0 : W3.cell? ⟨w.heap.size, 0, none⟩ = some (.slice A m c) := k1.cell 0
        have f0 := k1.frozen 0
        go_simp
        clear q0 f0
        have k1 := k1.set_ 0 (.slice A1 m c1)
        have k2 : Blk (W3.setCell ⟨w.heap.size, 0, none⟩ (.slice A1 m c1)) (w.heap.size + 1) (scC none 0 0 none 0 0) 25 := k2.far (by simp) _
        have ro : RoR (W3.setCell ⟨w.heap.size, 0, none⟩ (.slice A1 m c1)) (w.heap.size + 1) A1 m c1 R := own_far ro (Nat.lt_succ_self _) _
        have rk : RoK (W3.setCell ⟨w.heap.size, 0, none⟩ (.slice A1 m c1)) (w.heap.size + 1) A3 m2 c3 L := own_far rk (Nat.lt_succ_self _) _
        have J := J.setCell (p := ⟨w.heap.size, 0, none⟩) (Nat.le_refl _) (.slice A1 m c1)
        generalize W3.setCell ⟨w.heap.size, 0, none⟩ (.slice A1 m c1) = W4 at k1 k2 ro rk J ⊢
        refine hK.out _ _ J (fun _ => ?_)
        clear hK K
        try simp only [Act.put, List.getElem_toArray, List.getElem_cons_zero, List.getElem_cons_succ, List.setIfInBounds_toArray, List.set_cons_zero, List.set_cons_succ]
        refine wpAnyH_take (i := 8) (v := .pointer (some ⟨w.heap.size, 1, none⟩)) rfl (by kernel_rfl) (by kernel_rfl) (by kernel_rfl) (fun _ _ _ h => nomatch h.1) (.inl ⟨by rfl, fun V hV => by go_simp⟩) J ?_
        try simp only [Act.put, List.getElem_toArray, List.getElem_cons_zero, List.getElem_cons_succ, List.setIfInBounds_toArray, List.set_cons_zero, List.set_cons_succ]
        refine wpAnyH_ready (rs := [9]) (by kernel_rfl) (by simp) ?_
        refine AllReadyH.cons rfl (fun K hK => ?_) AllReadyH.nil
        try simp only [Act.put, List.getElem_toArray, List.getElem_cons_zero, List.getElem_cons_succ, List.setIfInBounds_toArray, List.set_cons_zero, List.set_cons_succ]
        have q0 : W4.cell? ⟨w.heap.size, 1, none⟩ = some (.slice A2 m2 c2) := k1.cell 1
        have f0 := k1.frozen 1
        go_simp
        clear q0 f0
        have k1 := k1.set_ 1 (.slice A3 m2 c3)
        have k2 : Blk (W4.setCell ⟨w.heap.size, 1, none⟩ (.slice A3 m2 c3)) (w.heap.size + 1) (scC none 0 0 none 0 0) 25 := k2.far (by simp) _
        have ro : RoR (W4.setCell ⟨w.heap.size, 1, none⟩ (.slice A3 m2 c3)) (w.heap.size + 1) A1 m c1 R := own_far ro (Nat.lt_succ_self _) _
        have rk : RoK (W4.setCell ⟨w.heap.size, 1, none⟩ (.slice A3 m2 c3)) (w.heap.size + 1) A3 m2 c3 L := own_far rk (Nat.lt_succ_self _) _
        have J := J.setCell (p := ⟨w.heap.size, 1, none⟩) (Nat.le_refl _) (.slice A3 m2 c3)
        refine hK.out _ _ J (fun _ => ?_)
        clear hK K
        try simp only [Act.put, List.getElem_toArray, List.getElem_cons_zero, List.getElem_cons_succ, List.setIfInBounds_toArray, List.set_cons_zero, List.set_cons_succ]
        refine wpAnyH_done (by kernel_rfl) ?_ _
        exact ⟨rfl, ((A1, c1), (A3, c3)), rfl, ⟨J, k1, k2, ro, rk, ⟨rfl, fun j _ _ => rfl⟩, (fun j h => absurd h (by omega)), (fun i j h => absurd h (by omega))⟩⟩
      · try simp only [Act.put, List.getElem_toArray, List.getElem_cons_zero, List.getElem_cons_succ, List.setIfInBounds_toArray, List.set_cons_zero, List.set_cons_succ]
        have qq := k1.cell 1
        change _ = some (Value.slice A2 m2 c2) at qq
        go_simp
        clear qq
        refine hK.out _ _ J (fun _ => ?_)
        clear hK K
        try simp only [Act.put, List.getElem_toArray, List.getElem_cons_zero, List.getElem_cons_succ, List.setIfInBounds_toArray, List.set_cons_zero, List.set_cons_succ]
        refine wpAnyH_ready (rs := [2]) (by kernel_rfl) (by simp) ?_
        refine AllReadyH.cons rfl (fun K hK => ?_) AllReadyH.nil
        try simp only [Act.put, List.getElem_toArray, List.getElem_cons_zero, List.getElem_cons_succ, List.setIfInBounds_toArray, List.set_cons_zero, List.set_cons_succ]
        go_simp
        refine (CR.out _ J).mono ?_
        rintro e W2 ⟨A1, c1, rfl, ro, bb⟩
        go_wp2_with fail
        have k1 := k1.below bb k1.lt
        have k2 := k2.below bb k2.lt
        have hs2 := bb.size
        have ro := ro.down (b := w.heap.size + 1) (by omega)
        have J := J.trans (bb.mono J.size)
        have hs1 : w.heap.size + 1 < W2.heap.size := by omega
        clear bb hs2
        refine hK.out _ _ J (fun _ => ?_)
        clear hK K
        try simp only [Act.put, List.getElem_toArray, List.getElem_cons_zero, List.getElem_cons_succ, List.setIfInBounds_toArray, List.set_cons_zero, List.set_cons_succ]
        refine wpAnyH_take (i := 6) (v := .pointer (some ⟨w.heap.size, 0, none⟩)) rfl (by kernel_rfl) (by kernel_rfl) (by kernel_rfl) (fun _ _ _ h => nomatch h.1) (.inl ⟨by rfl, fun V hV => by go_simp⟩) J ?_
        try simp only [Act.put, List.getElem_toArray, List.getElem_cons_zero, List.getElem_cons_succ, List.setIfInBounds_toArray, List.set_cons_zero, List.set_cons_succ]
        refine wpAnyH_ready (rs := [5]) (by kernel_rfl) (by simp) ?_
        refine AllReadyH.cons rfl (fun K hK => ?_) AllReadyH.nil
        try simp only [Act.put, List.getElem_toArray, List.getElem_cons_zero, List.getElem_cons_succ, List.setIfInBounds_toArray, List.set_cons_zero, List.set_cons_succ]
        go_simp
        refine (CK.out _ J).mono ?_
        rintro e W3 ⟨A3, c3, rfl, rk, bb⟩
        go_wp2_with fail
        have k1 := k1.below bb k1.lt
        have k2 := k2.below bb k2.lt
        have hs2 := bb.size
        have ro := ro.below bb (Nat.le_refl _)
        have rk := rk.down (b := w.heap.size + 1) (by omega)
        have J := J.trans (bb.mono J.size)
        clear bb hs2
        refine hK.out _ _ J (fun _ => ?_)
        clear hK K
        try simp only [Act.put, List.getElem_toArray, List.getElem_cons_zero, List.getElem_cons_succ, List.setIfInBounds_toArray, List.set_cons_zero, List.set_cons_succ]
        refine wpAnyH_ready (rs := [7]) (by kernel_rfl) (by simp) ?_
        refine AllReadyH.cons rfl (fun K hK => ?_) AllReadyH.nil
        try simp only [Act.put, List.getElem_toArray, List.getElem_cons_zero, List.getElem_cons_succ, List.setIfInBounds_toArray, List.set_cons_zero, List.set_cons_succ]
        have q0 : W3.cell? ⟨w.heap.size, 0, none⟩ = some (.slice A m c) := k1.cell 0
        have f0 := k1.frozen 0
        go_simp
        clear q0 f0
        have k1 := k1.set_ 0 (.slice A1 m c1)
        have k2 : Blk (W3.setCell ⟨w.heap.size, 0, none⟩ (.slice A1 m c1)) (w.heap.size + 1) (scC none 0 0 none 0 0) 25 := k2.far (by simp) _
        have ro : RoR (W3.setCell ⟨w.heap.size, 0, none⟩ (.slice A1 m c1)) (w.heap.size + 1) A1 m c1 R := own_far ro (Nat.lt_succ_self _) _
        have rk : RoK (W3.setCell ⟨w.heap.size, 0, none⟩ (.slice A1 m c1)) (w.heap.size + 1) A3 m2 c3 L := own_far rk (Nat.lt_succ_self _) _
        have J := J.setCell (p := ⟨w.heap.size, 0, none⟩) (Nat.le_refl _) (.slice A1 m c1)
        generalize W3.setCell ⟨w.heap.size, 0, none⟩ (.slice A1 m c1) = W4 at k1 k2 ro rk J ⊢
        refine hK.out _ _ J (fun _ => ?_)
        clear hK K
        try simp only [Act.put, List.getElem_toArray, List.getElem_cons_zero, List.getElem_cons_succ, List.setIfInBounds_toArray, List.set_cons_zero, List.set_cons_succ]
        refine wpAnyH_take (i := 8) (v := .pointer (some ⟨w.heap.size, 1, none⟩)) rfl (by kernel_rfl) (by kernel_rfl) (by kernel_rfl) (fun _ _ _ h => nomatch h.1) (.inl ⟨by rfl, fun V hV => by go_simp⟩) J ?_
        try simp only [Act.put, List.getElem_toArray, List.getElem_cons_zero, List.getElem_cons_succ, List.setIfInBounds_toArray, List.set_cons_zero, List.set_cons_succ]
        refine wpAnyH_ready (rs := [9]) (by kernel_rfl) (by simp) ?_
        refine AllReadyH.cons rfl (fun K hK => ?_) AllReadyH.nil
        try simp only [Act.put, List.getElem_toArray, List.getElem_cons_zero, List.getElem_cons_succ, List.setIfInBounds_toArray, List.set_cons_zero, List.set_cons_succ]
        have q0 : W4.cell? ⟨w.heap.size, 1, none⟩ = some (.slice A2 m2 c2) := k1.cell 1
        have f0 := k1.frozen 1
        go_simp
        clear q0 f0
        have k1 := k1.set_ 1 (.slice A3 m2 c3)
        have k2 : Blk (W4.setCell ⟨w.heap.size, 1, none⟩ (.slice A3 m2 c3)) (w.heap.size + 1) (scC none 0 0 none 0 0) 25 := k2.far (by simp) _
        have ro : RoR (W4.setCell ⟨w.heap.size, 1, none⟩ (.slice A3 m2 c3)) (w.heap.size + 1) A1 m c1 R := own_far ro (Nat.lt_succ_self _) _
        have rk : RoK (W4.setCell ⟨w.heap.size, 1, none⟩ (.slice A3 m2 c3)) (w.heap.size + 1) A3 m2 c3 L := own_far rk (Nat.lt_succ_self _) _
        have J := J.setCell (p := ⟨w.heap.size, 1, none⟩) (Nat.le_refl _) (.slice A3 m2 c3)
        refine hK.out _ _ J (fun _ => ?_)
        clear hK K
        try simp only [Act.put, List.getElem_toArray, List.getElem_cons_zero, List.getElem_cons_succ, List.setIfInBounds_toArray, List.set_cons_zero, List.set_cons_succ]
        refine wpAnyH_done (by kernel_rfl) ?_ _
        exact ⟨rfl, ((A1, c1), (A3, c3)), rfl, ⟨J, k1, k2, ro, rk, ⟨rfl, fun j _ _ => rfl⟩, (fun j h => absurd h (by omega)), (fun i j h => absurd h (by omega))⟩⟩
    · try simp only [Act.put, List.getElem_toArray, List.getElem_cons_zero, List.getElem_cons_succ, List.setIfInBounds_toArray, List.set_cons_zero, List.set_cons_succ]
      have qq := k1.cell 1
      change _ = some (Value.slice A2 m2 c2) at qq
      go_simp
      clear qq
      refine hK.out _ _ J (fun _ => ?_)
      clear hK K
      try simp only [Act.put, List.getElem_toArray, List.getElem_cons_zero, List.getElem_cons_succ, List.setIfInBounds_toArray, List.set_cons_zero, List.set_cons_succ]
      refine wpAnyH_ready (rs := [1]) (by kernel_rfl) (by simp) ?_
      refine AllReadyH.cons rfl (fun K hK => ?_) AllReadyH.nil
      try simp only [Act.put, List.getElem_toArray, List.getElem_cons_zero, List.getElem_cons_succ, List.setIfInBounds_toArray, List.set_cons_zero, List.set_cons_succ]
      have qq := k1.cell 0
      change _ = some (Value.slice A m c) at qq
      go_simp
      clear qq
      refine hK.out _ _ J (fun _ => ?_)
      clear hK K
      try simp only [Act.put, List.getElem_toArray, List.getElem_cons_zero, List.getElem_cons_succ, List.setIfInBounds_toArray, List.set_cons_zero, List.set_cons_succ]
      refine wpAnyH_ready (rs := [2]) (by kernel_rfl) (by simp) ?_
      refine AllReadyH.cons rfl (fun K hK => ?_) AllReadyH.nil
      try simp only [Act.put, List.getElem_toArray, List.getElem_cons_zero, List.getElem_cons_succ, List.setIfInBounds_toArray, List.set_cons_zero, List.set_cons_succ]
      go_simp
      refine (CR.out _ J).mono ?_
      rintro e W2 ⟨A1, c1, rfl, ro, bb⟩
      go_wp2_with fail
      have k1 := k1.below bb k1.lt
      have k2 := k2.below bb k2.lt
      have hs2 := bb.size
      have ro := ro.down (b := w.heap.size + 1) (by omega)
      have J := J.trans (bb.mono J.size)
      have hs1 : w.heap.size + 1 < W2.heap.size := by omega
      clear bb hs2
      refine hK.out _ _ J (fun _ => ?_)
      clear hK K
      try simp only [Act.put, List.getElem_toArray, List.getElem_cons_zero, List.getElem_cons_succ, List.setIfInBounds_toArray, List.set_cons_zero, List.set_cons_succ]
      refine wpAnyH_take (i := 6) (v := .pointer (some ⟨w.heap.size, 0, none⟩)) rfl (by kernel_rfl) (by kernel_rfl) (by kernel_rfl) (fun _ _ _ h => nomatch h.1) (.inl ⟨by rfl, fun V hV => by go_simp⟩) J ?_
      try simp only [Act.put, List.getElem_toArray, List.getElem_cons_zero, List.getElem_cons_succ, List.setIfInBounds_toArray, List.set_cons_zero, List.set_cons_succ]
      refine wpAnyH_ready (rs := [5]) (by kernel_rfl) (by simp) ?_
      refine AllReadyH.cons rfl (fun K hK => ?_) AllReadyH.nil
      try simp only [Act.put, List.getElem_toArray, List.getElem_cons_zero, List.getElem_cons_succ, List.setIfInBounds_toArray, List.set_cons_zero, List.set_cons_succ]
      go_simp
      refine (CK.out _ J).mono ?_
      rintro e W3 ⟨A3, c3, rfl, rk, bb⟩
      go_wp2_with fail
      have k1 := k1.below bb k1.lt
      have k2 := k2.below bb k2.lt
      have hs2 := bb.size
      have ro := ro.below bb (Nat.le_refl _)
      have rk := rk.down (b := w.heap.size + 1) (by omega)
      have J := J.trans (bb.mono J.size)
      clear bb hs2
      refine hK.out _ _ J (fun _ => ?_)
      clear hK K
      try simp only [Act.put, List.getElem_toArray, List.getElem_cons_zero, List.getElem_cons_succ, List.setIfInBounds_toArray, List.set_cons_zero, List.set_cons_succ]
      refine wpAnyH_ready (rs := [7]) (by kernel_rfl) (by simp) ?_
      refine AllReadyH.cons rfl (fun K hK => ?_) AllReadyH.nil
      try simp only [Act.put, List.getElem_toArray, List.getElem_cons_zero, List.getElem_cons_succ, List.setIfInBounds_toArray, List.set_cons_zero, List.set_cons_succ]
      have q0 : W3.cell? ⟨w.heap.size, 0, none⟩ = some (.slice A m c) := k1.cell 0
      have f0 := k1.frozen 0
      go_simp
      clear q0 f0
      have k1 := k1.set_ 0 (.slice A1 m c1)
      have k2 : Blk (W3.setCell ⟨w.heap.size, 0, none⟩ (.slice A1 m c1)) (w.heap.size + 1) (scC none 0 0 none 0 0) 25 := k2.far (by simp) _
      have ro : RoR (W3.setCell ⟨w.heap.size, 0, none⟩ (.slice A1 m c1)) (w.heap.size + 1) A1 m c1 R := own_far ro (Nat.lt_succ_self _) _
      have rk : RoK (W3.setCell ⟨w.heap.size, 0, none⟩ (.slice A1 m c1)) (w.heap.size + 1) A3 m2 c3 L := own_far rk (Nat.lt_succ_self _) _
      have J := J.setCell (p := ⟨w.heap.size, 0, none⟩) (Nat.le_refl _) (.slice A1 m c1)
      generalize W3.setCell ⟨w.heap.size, 0, none⟩ (.slice A1 m c1) = W4 at k1 k2 ro rk J ⊢
      refine hK.out _ _ J (fun _ => ?_)
      clear hK K
      try simp only [Act.put, List.getElem_toArray, List.getElem_cons_zero, List.getElem_cons_succ, List.setIfInBounds_toArray, List.set_cons_zero, List.set_cons_succ]
      refine wpAnyH_take (i := 8) (v := .pointer (some ⟨w.heap.size, 1, none⟩)) rfl (by kernel_rfl) (by kernel_rfl) (by kernel_rfl) (fun _ _ _ h => nomatch h.1) (.inl ⟨by rfl, fun V hV => by go_simp⟩) J ?_
      try simp only [Act.put, List.getElem_toArray, List.getElem_cons_zero, List.getElem_cons_succ, List.setIfInBounds_toArray, List.set_cons_zero, List.set_cons_succ]
      refine wpAnyH_ready (rs := [9]) (by kernel_rfl) (by simp) ?_
      refine AllReadyH.cons rfl (fun K hK => ?_) AllReadyH.nil
      try simp only [Act.put, List.getElem_toArray, List.getElem_cons_zero, List.getElem_cons_succ, List.setIfInBounds_toArray, List.set_cons_zero, List.set_cons_succ]
      have q0 : W4.cell? ⟨w.heap.size, 1, none⟩ = some (.slice A2 m2 c2) := k1.cell 1
      have f0 := k1.frozen 1
      go_simp
      clear q0 f0
      have k1 := k1.set_ 1 (.slice A3 m2 c3)
      have k2 : Blk (W4.setCell ⟨w.heap.size, 1, none⟩ (.slice A3 m2 c3)) (w.heap.size + 1) (scC none 0 0 none 0 0) 25 := k2.far (by simp) _
      have ro : RoR (W4.setCell ⟨w.heap.size, 1, none⟩ (.slice A3 m2 c3)) (w.heap.size + 1) A1 m c1 R := own_far ro (Nat.lt_succ_self _) _
      have rk : RoK (W4.setCell ⟨w.heap.size, 1, none⟩ (.slice A3 m2 c3)) (w.heap.size + 1) A3 m2 c3 L := own_far rk (Nat.lt_succ_self _) _
      have J := J.setCell (p := ⟨w.heap.size, 1, none⟩) (Nat.le_refl _) (.slice A3 m2 c3)
      refine hK.out _ _ J (fun _ => ?_)
      clear hK K
      try simp only [Act.put, List.getElem_toArray, List.getElem_cons_zero, List.getElem_cons_succ, List.setIfInBounds_toArray, List.set_cons_zero, List.set_cons_succ]
      refine wpAnyH_done (by kernel_rfl) ?_ _
      exact ⟨rfl, ((A1, c1), (A3, c3)), rfl, ⟨J, k1, k2, ro, rk, ⟨rfl, fun j _ _ => rfl⟩, (fun j h => absurd h (by omega)), (fun i j h => absurd h (by omega))⟩⟩
  · rintro ⟨⟨A1, c1⟩, ⟨A3, c3⟩⟩ W1 C0
    simp only at C0 ⊢
    clear k1 k2 B0 CR CK
    have q1 : W1.cell? ⟨w.heap.size, 1, none⟩ = some (.slice A3 m2 c3) := C0.ks.cell 1
    go_wp2_with fail
    clear q1
    go_loopw [16] (fun i wr' => ∃ (k : Nat) (L1 : List Kw) (wr : World), wr = wr' ∧ k ≤ m2 ∧ i = .int .i64 k ∧ Hid (Cpd w w.heap.size A m c R A2 m2 c2 L k A1 c1 A3 c3 L1 wr)) (fun i _ => m2 - (intOf i).toNat)
    case atStart => exact ⟨0, L, _, rfl, Nat.zero_le _, rfl, Lib.hid C0⟩
    case round =>
      clear C0
      obtain ⟨k, L1, wr, hwr, hk, rfl, HC⟩ := hrel
      subst hwr
      have C := HC.out
      clear HC
      have hll : L1.length = L.length := by have := congrArg List.length C.mx.1; simpa using this
      have HLL := Lib.hid hll
      by_cases hlt : k < m2
      · have hlt' : (k : Int) < (m2 : Int) := by omega
        have hkl : k < L.length := by have := HM2.out; omega
        have hkl1 : k < L1.length := by omega
        obtain ⟨g3, hA3, hg3, hg3l⟩ := C.rl.at0 (by omega)
        subst hA3
        obtain ⟨b, off, he, hb, hc⟩ := C.rl.rs k hkl1
        cases he
        have hx := C.mx.2 k (Nat.le_refl _) hkl
        have hq := HS.out.q' hkl
        rw [← hx] at hq
        have hcell : wr.cell? ⟨g3, 0 + k * 3 + 2, none⟩ = some (.slice (L1.getD k kw0).2.1 (L1.getD k kw0).1.q.length (L1.getD k kw0).2.2) := hc 2 _ rfl
        have hfr := World.ownsRow.frozenAt C.rl (k * 3 + 2)
        rw [Nat.zero_add] at hcell hc
        have HC := Lib.hid C
        have HX := Lib.hid hx
        have hgB : w.heap.size + 1 ≤ g3 := hg3
        obtain ⟨x, hxx⟩ : ∃ x, L1.getD k kw0 = x := ⟨_, rfl⟩
        rw [hxx] at hc hq hcell
        have HXX := Lib.hid hxx
        clear hx hxx hll
        have hs3 : (kwC x).size = 3 := kw_size x
        have hwB : w.heap.size ≤ wr.heap.size := C.b.size
        have ZC := Lib.hid (fun (V : World) (hV : Below w.heap.size w V) => zclone_any x.2.1 x.1.q.length x.2.2 x.1.q V ((hq.ri.below hV (Nat.le_refl _)).more hV.size) rfl hq.l)
        go_wp2_with (first
          | (refine wpList_load_mid rfl 48 (.tmp 19) rfl g3 (k * 3) rfl (kwC x).toList _ hc Try.underlying48 rfl (kw_infL x) ?_)
          | (refine wpList_store_blk rfl 48 (.tmp 4) (.tmp 20) rfl wr.heap.size (kwC kw0) (kwC x) 48 rfl rfl (Blk.new _ _ _) rfl (kw_inf x) (kw_one x) ?_
             intro w1 k4 n4
             have bb : Below wr.heap.size wr w1 := ((Below.refl _ wr).alloc (Nat.le_refl _) _).trans (n4.below _ (Nat.le_refl _) (by simp))
             have C1 := C.step bb hwB
             have hwr4 : wr.heap.size < w1.heap.size := k4.lt
             clear hc hcell hfr C bb n4))
        try simp only [Act.put, List.getElem_toArray, List.getElem_cons_zero, List.getElem_cons_succ, List.setIfInBounds_toArray, List.set_cons_zero, List.set_cons_succ]
        refine region_cutP ?_
        have C2 := C1.step (Below.refl _ _).drew C1.b.size
        have J : Below w.heap.size w w1.drew ∧ (Blk w1.drew w.heap.size (scC A1 m c1 (some ⟨g3, 0, none⟩) m2 c3) 25 ∧ Blk w1.drew wr.heap.size (kwC x) 48) := ⟨C2.b, C2.ks, k4.drew⟩
        refine wp_region_held_drew (S := (fun V => Below w.heap.size w V ∧ (Blk V w.heap.size (scC A1 m c1 (some ⟨g3, 0, none⟩) m2 c3) 25 ∧ Blk V wr.heap.size (kwC x) 48))) (by kernel_rfl) J (fun _ => ?_)
        refine wpAnyH_take (i := 0) (v := .pointer (some ⟨w.heap.size, 1, none⟩)) rfl (by kernel_rfl) (by kernel_rfl) (by kernel_rfl) (fun _ _ _ h => nomatch h.1) (.inl ⟨by rfl, fun V hV => by go_simp⟩) J ?_
        try simp only [Act.put, List.getElem_toArray, List.getElem_cons_zero, List.getElem_cons_succ, List.setIfInBounds_toArray, List.set_cons_zero, List.set_cons_succ]
        refine wpAnyH_take (i := 2) (v := .int .i64 k) rfl (by kernel_rfl) (by kernel_rfl) (by kernel_rfl) (fun _ _ _ h => nomatch h.1) (.inl ⟨by rfl, fun V hV => by go_simp⟩) J ?_
        try simp only [Act.put, List.getElem_toArray, List.getElem_cons_zero, List.getElem_cons_succ, List.setIfInBounds_toArray, List.set_cons_zero, List.set_cons_succ]
        refine wpAnyH_take (i := 3) (v := .pointer (some ⟨wr.heap.size, 2, none⟩)) rfl (by kernel_rfl) (by kernel_rfl) (by kernel_rfl) (fun _ _ _ h => nomatch h.1) (.inl ⟨by rfl, fun V hV => by go_simp⟩) J ?_
        try simp only [Act.put, List.getElem_toArray, List.getElem_cons_zero, List.getElem_cons_succ, List.setIfInBounds_toArray, List.set_cons_zero, List.set_cons_succ]
        refine wpAnyH_take (i := 1) (v := .slice (some ⟨g3, 0, none⟩) m2 c3) rfl (by kernel_rfl) (by kernel_rfl) (by kernel_rfl) (fun _ _ _ h => nomatch h.1) (.inl ⟨by rfl, fun V hV => by have c2 : V.cell? ⟨w.heap.size, 1, none⟩ = some (.slice (some ⟨g3, 0, none⟩) m2 c3) := hV.2.1.cell 1; go_simp⟩) J ?_
        try simp only [Act.put, List.getElem_toArray, List.getElem_cons_zero, List.getElem_cons_succ, List.setIfInBounds_toArray, List.set_cons_zero, List.set_cons_succ]
        refine wpAnyH_take (i := 4) (v := .slice x.2.1 x.1.q.length x.2.2) rfl (by kernel_rfl) (by kernel_rfl) (by kernel_rfl) (fun _ _ _ h => nomatch h.1) (.inl ⟨by rfl, fun V hV => by have c2 : V.cell? ⟨wr.heap.size, 2, none⟩ = some (.slice x.2.1 x.1.q.length x.2.2) := hV.2.2.cell 2; go_simp⟩) J ?_
        try simp only [Act.put, List.getElem_toArray, List.getElem_cons_zero, List.getElem_cons_succ, List.setIfInBounds_toArray, List.set_cons_zero, List.set_cons_succ]
        refine wpAnyH_ready (rs := [5]) (by kernel_rfl) (by simp) ?_
        refine AllReadyH.cons rfl (fun K hK => ?_) AllReadyH.nil
        try simp only [Act.put, List.getElem_toArray, List.getElem_cons_zero, List.getElem_cons_succ, List.setIfInBounds_toArray, List.set_cons_zero, List.set_cons_succ]
        go_simp
        have hWW : w1.heap.size ≤ w1.drew.heap.size := Nat.le_refl _
        obtain ⟨W0, hW0⟩ : ∃ W0, W0 = w1.drew := ⟨_, rfl⟩
        rw [← hW0] at J C2 hWW ⊢
        clear hW0
        refine (ZC.out _ J.1).mono ?_
        rintro e W2 ⟨A4, c4, rfl, zo, bb⟩
        go_wp2_with fail
        have hs2 : W0.heap.size ≤ W2.heap.size := bb.size
        have C3 := C2.step bb C2.b.size
        have hqlt : ∀ j, j < k → ∀ g, ownQ (L1.getD j kw0) = some g → g < W0.heap.size := fun j hj g hg => ((C2.q j hj (by omega)).lt g hg).2
        have hqge : ∀ g, ownQ (x.1, (A4, c4)) = some g → W0.heap.size ≤ g := fun g hg => (zo.lt g hg).1
        have zo1 := zo.down (b := w.heap.size + 1) (by have := C2.k2.lt; omega)
        have J : Below w.heap.size w W2 ∧ (Blk W2 w.heap.size (scC A1 m c1 (some ⟨g3, 0, none⟩) m2 c3) 25 ∧ Blk W2 wr.heap.size (kwC x) 48) := ⟨C3.b, C3.ks, J.2.2.below bb J.2.2.lt⟩
        clear bb zo C2
        refine hK.out _ _ J (fun _ => ?_)
        clear hK K
        try simp only [Act.put, List.getElem_toArray, List.getElem_cons_zero, List.getElem_cons_succ, List.setIfInBounds_toArray, List.set_cons_zero, List.set_cons_succ]
        refine wpAnyH_take (i := 6) (v := .pointer (some ⟨g3, k * 3, none⟩)) rfl (by kernel_rfl) (by kernel_rfl) (by kernel_rfl) (fun _ _ _ h => nomatch h.1) (.inl ⟨by rfl, fun V hV => by go_simp⟩) J ?_
        try simp only [Act.put, List.getElem_toArray, List.getElem_cons_zero, List.getElem_cons_succ, List.setIfInBounds_toArray, List.set_cons_zero, List.set_cons_succ]
        refine wpAnyH_take (i := 7) (v := .pointer (some ⟨g3, k * 3 + 2, none⟩)) rfl (by kernel_rfl) (by kernel_rfl) (by kernel_rfl) (fun _ _ _ h => nomatch h.1) (.inl ⟨by rfl, fun V hV => by go_simp⟩) J ?_
        try simp only [Act.put, List.getElem_toArray, List.getElem_cons_zero, List.getElem_cons_succ, List.setIfInBounds_toArray, List.set_cons_zero, List.set_cons_succ]
        refine wpAnyH_ready (rs := [8]) (by kernel_rfl) (by simp) ?_
        refine AllReadyH.cons rfl (fun K hK => ?_) AllReadyH.nil
        try simp only [Act.put, List.getElem_toArray, List.getElem_cons_zero, List.getElem_cons_succ, List.setIfInBounds_toArray, List.set_cons_zero, List.set_cons_succ]
        obtain ⟨b7, off7, he7, hb7, hc7⟩ := C3.rl.rs k hkl1
        cases he7
        have q2 : W2.cell? ⟨g3, k * 3 + 2, none⟩ = some (.slice x.2.1 x.1.q.length x.2.2) := by have := hc7 2 _ rfl; rw [HXX.out, Nat.zero_add] at this; exact this
        have f2 := World.ownsRow.frozenAt C3.rl (k * 3 + 2)
        go_simp
        clear q2 f2 hc7
        have hy : (kwC (x.1, (A4, c4))).toList = (kwC (L1.getD k kw0)).toList.set 2 (.slice A4 x.1.q.length c4) := by rw [HXX.out]; rfl
        have rl9 := C3.rl.cellSet hkl1 (j := 2) (u := .slice A4 x.1.q.length c4) (y := (x.1, (A4, c4))) (by omega) hy
        have n9 : But g3 W2 (W2.setCell ⟨g3, k * 3 + 2, none⟩ (.slice A4 x.1.q.length c4)) := (But.refl g3 W2).setCell (p := ⟨g3, k * 3 + 2, none⟩) (.inl rfl) _
        obtain ⟨curK, kK⟩ := roK_blk C3.rl rfl
        have hkn : ∀ j, (L1.set k (x.1, (A4, c4))).getD j kw0 = if j = k then (x.1, (A4, c4)) else L1.getD j kw0 := fun j => getD_setK hkl1
        have hbne : w.heap.size + 1 ≠ g3 := fun e => by
          have k2 := C3.k2.blk
          rw [e, kK.blk] at k2
          have h9 : (48 : TypeId) = 25 := by injection k2 with k2; injection k2
          exact absurd h9 (by decide)
        have zo9 : Zo (W2.setCell ⟨g3, k * 3 + 2, none⟩ (.slice A4 x.1.q.length c4)) (w.heap.size + 1) A4 x.1.q.length c4 x.1.q := own_kind zo1 (grown_but n9) (fun g e => by cases e; exact ⟨_, _, kK, by decide⟩)
        have J : Below w.heap.size w (W2.setCell ⟨g3, k * 3 + 2, none⟩ (.slice A4 x.1.q.length c4)) ∧ (Blk (W2.setCell ⟨g3, k * 3 + 2, none⟩ (.slice A4 x.1.q.length c4)) w.heap.size (scC A1 m c1 (some ⟨g3, 0, none⟩) m2 c3) 25 ∧ Blk (W2.setCell ⟨g3, k * 3 + 2, none⟩ (.slice A4 x.1.q.length c4)) wr.heap.size (kwC x) 48) := ⟨C3.b.trans (n9.below _ (by omega) C3.b.size), n9.blk7 C3.ks (by omega), n9.blk7 J.2.2 (by omega)⟩
        have C9 : Cpd w w.heap.size A m c R A2 m2 c2 L (k + 1) A1 c1 (some ⟨g3, 0, none⟩) c3 (L1.set k (x.1, (A4, c4))) (W2.setCell ⟨g3, k * 3 + 2, none⟩ (.slice A4 x.1.q.length c4)) := ⟨J.1, J.2.1, n9.blk7 C3.k2 hbne, own_kind C3.rr (grown_but n9) (fun g e => by cases e; exact ⟨_, _, kK, by decide⟩), rl9,
            ⟨by rw [names_setK hkl1 (by rw [HXX.out])]; exact C3.mx.1, fun j h1 h2 => by rw [hkn j, if_neg (by omega)]; exact C3.mx.2 j (by omega) h2⟩,
            (fun j h1 h2 => by
              rw [hkn j]
              by_cases hjk : j = k
              · rw [if_pos hjk]; exact zo9
              · rw [if_neg hjk]; exact own_kind (C3.q j (by omega) h2) (grown_but n9) (fun g e => by cases e; exact ⟨_, _, kK, by decide⟩)),
            (fun i j hi hj hne g => by
              rw [hkn i, hkn j]
              by_cases hik : i = k
              · by_cases hjk : j = k
                · omega
                · rw [if_pos hik, if_neg hjk]
                  intro h1 h2
                  have := hqge g h1
                  have := hqlt j (by omega) g h2
                  omega
              · by_cases hjk : j = k
                · rw [if_neg hik, if_pos hjk]
                  intro h1 h2
                  have := hqge g h2
                  have := hqlt i (by omega) g h1
                  omega
                · rw [if_neg hik, if_neg hjk]
                  exact C3.qd i j (by omega) (by omega) hne g)⟩
        generalize W2.setCell ⟨g3, k * 3 + 2, none⟩ (.slice A4 x.1.q.length c4) = W9 at J C9 ⊢
        refine hK.out _ _ J (fun _ => ?_)
        clear hK K
        try simp only [Act.put, List.getElem_toArray, List.getElem_cons_zero, List.getElem_cons_succ, List.setIfInBounds_toArray, List.set_cons_zero, List.set_cons_succ]
        refine wpAnyH_done (by kernel_rfl) ?_ _
        refine ⟨rfl, ?_⟩
        clear J
        go_wp2_with fail
        go_roundw
        case rel => exact ⟨k + 1, _, _, rfl, by omega, by go_num, Lib.hid C9⟩
        case measure => simp [intOf]; omega
      · obtain rfl : k = m2 := by omega
        go_wp2_with (first
          | (refine wpList_load_row rfl 25 (.tmp 1) rfl w.heap.size rfl 25 (scC A1 m c1 A3 k c3) (0, 0) _ C.ks.blk Try.underlying25 rfl (sc_inf _ _ _ _ _ _) ?_)
          | (refine wpList_store_blk rfl 25 (.tmp 2) (.tmp 30) rfl (w.heap.size + 1) (scC none 0 0 none 0 0) (scC A1 m c1 A3 k c3) 25 rfl rfl C.k2 rfl (sc_inf _ _ _ _ _ _) (sc_one _ _ _ _ _ _) ?_
             intro w3 h3 n3))
        refine bodyPost_ret (results_cell_row rfl _ _ (w.heap.size + 1) 25 (scC A1 m c1 A3 k c3) (0, 0) _ rfl h3.blk Try.underlying25 rfl (sc_inf _ _ _ _ _ _)) rfl ?_
        have O : Own wr w.heap.size A1 m c1 R A3 k c3 L1 := ⟨C.rr.down (by omega), C.rl.down (by omega), fun x hx => by
          obtain ⟨j, hj, rfl⟩ := List.getElem_of_mem hx
          have hk2 := HM2.out
          have := C.q j (by omega) (by omega)
          rw [show L1.getD j kw0 = L1[j] by simp [List.getD, hj]] at this
          exact this.down (by omega), fun i j hi hj => C.qd i j (by have := HM2.out; omega) (by have := HM2.out; omega)⟩
        exact ⟨A1, c1, A3, c3, L1, rfl, O.kind n3 C.k2 (by decide) (by decide) (by decide), C.mx.1, C.b.trans (n3.below _ (by omega) C.b.size)⟩
end Go.Proofs.Ytfohifnbohdbcaa

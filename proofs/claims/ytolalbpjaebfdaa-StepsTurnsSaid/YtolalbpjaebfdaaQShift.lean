/-
  Cells put into a row: in place, and in a new row; a list with one more at a place.
-/
import Derived.Test.YtolalbpjaebfdaaQScRs
import Derived.Test.YtolalbpjaebfdaaQScB
namespace Go.Proofs.Ytolalbpjaebfdaa
open Go.RowKit Go.Shelf
set_option linter.unusedVariables false
set_option linter.unusedSimpArgs false
theorem region_cutY {α : Type} {P : Program} {id : Nat} {ops : Array Oper} {dr : Bool} {Q : Exit → Act → World → Prop} {a : Act} {w : World} (F : α → Act) (H : α → World → Prop)
    (h1 : (Code.region id ops dr).wp P (fun e a' w' => e = .normal ∧ ∃ x, a' = F x ∧ H x w') a w) (h2 : ∀ x w', H x w' → Q .normal (F x) w') : (Code.region id ops dr).wp P Q a w :=
  Code.wp_mono (fun e a' w' h => by obtain ⟨he, x, ha, hg⟩ := h; subst he ha; exact h2 _ _ hg) h1
theorem own_kind {w w' : World} {base e size n : Nat} {v : Value} {xs : List Value} {row : Option Nat} (h : w.ownsRow base e size v n xs) (hg : w.grownBy w' row) (hr : ∀ g, row = some g → ∃ cs t, Blk w g cs t ∧ t ≠ e) : w'.ownsRow base e size v n xs := by
  refine ⟨h.1, ?_⟩
  rcases h.2 with h0 | ⟨g', cap, cur, hv, hb, hh, r⟩
  · exact .inl h0
  · refine .inr ⟨g', cap, cur, hv, hb, (hg.block g' (Array.getElem?_eq_some_iff.1 hh).1 (fun e1 => ?_)).trans hh, r⟩
    obtain ⟨cs, t, k, hne⟩ := hr g' e1.symm
    have := k.blk
    rw [hh] at this
    have h9 : e = t := by injection this with this; injection this
    exact hne h9.symm
theorem grown_but {w w' : World} {g : Nat} (n : But g w w') : w.grownBy w' (some g) := ⟨n.os, n.tape, n.output, n.size, fun k hk hne => n.block k hk (fun e => hne (by rw [e]))⟩
def ownQ (x : Kw) : Option Nat := (Value.slice x.2.1 x.1.q.length x.2.2).ownBlock
structure Own (V : World) (B : Nat) (A1 : Option Addr) (m1 c1 : Nat) (R : List Rn) (A2 : Option Addr) (m2 c2 : Nat) (L : List Kw) : Prop where
  rr : RoR V B A1 m1 c1 R
  rl : RoK V B A2 m2 c2 L
  q : ∀ x ∈ L, Zo V B x.2.1 x.1.q.length x.2.2 x.1.q
  qd : ∀ i j, i < L.length → j < L.length → i ≠ j → ∀ g, ownQ (L.getD i kw0) = some g → ownQ (L.getD j kw0) ≠ some g
theorem zo_tq {w : World} {B : Nat} {x : Kw} (h : Zo w B x.2.1 x.1.q.length x.2.2 x.1.q) (hl : x.1.q.length ≤ 1000000) : Tq w w.heap.size x := ⟨h.ri, h.cap, hl⟩
theorem Own.sc {V : World} {B : Nat} {A1 : Option Addr} {m1 c1 : Nat} {R : List Rn} {A2 : Option Addr} {m2 c2 : Nat} {L : List Kw} (h : Own V B A1 m1 c1 R A2 m2 c2 L) (h1 : m1 ≤ 100000) (h2 : m2 ≤ 100000) (hq : ∀ x ∈ L, x.1.q.length ≤ 1000000) : Sc V V.heap.size A1 m1 c1 R A2 m2 c2 L :=
  ⟨h.rr.rs, h.rl.rs, fun x hx => zo_tq (h.q x hx) (hq x hx), h.rr.len, h.rl.len, h1, h2⟩
theorem Own.below {V V' : World} {B B' : Nat} {A1 : Option Addr} {m1 c1 : Nat} {R : List Rn} {A2 : Option Addr} {m2 c2 : Nat} {L : List Kw} (h : Own V B A1 m1 c1 R A2 m2 c2 L) (b : Below B' V V') (hB : V.heap.size ≤ B') : Own V' B A1 m1 c1 R A2 m2 c2 L :=
  ⟨h.rr.below b hB, h.rl.below b hB, fun x hx => (h.q x hx).below b hB, h.qd⟩
theorem Own.kind {V V' : World} {B g : Nat} {A1 : Option Addr} {m1 c1 : Nat} {R : List Rn} {A2 : Option Addr} {m2 c2 : Nat} {L : List Kw} {cs : Array Value} {t : TypeId} (h : Own V B A1 m1 c1 R A2 m2 c2 L) (n : But g V V') (k : Blk V g cs t) (h1 : t ≠ 52) (h2 : t ≠ 48) (h3 : t ≠ 3) : Own V' B A1 m1 c1 R A2 m2 c2 L :=
  ⟨own_kind h.rr (grown_but n) (fun g' e => by cases e; exact ⟨cs, t, k, h1⟩), own_kind h.rl (grown_but n) (fun g' e => by cases e; exact ⟨cs, t, k, h2⟩), fun x hx => own_kind (h.q x hx) (grown_but n) (fun g' e => by cases e; exact ⟨cs, t, k, h3⟩), h.qd⟩
theorem zo_blk {w : World} {B m c : Nat} {A : Option Addr} {l : List Int} {g : Nat} (h : Zo w B A m c l) (hg : (Value.slice A m c).ownBlock = some g) : ∃ cur, Blk w g cur 3 := by
  rcases h.form with ⟨rfl, _⟩ | ⟨g', rfl, _, _, cur, hh, _⟩
  · cases hg
  · have e : some g' = some g := hg
    cases e
    exact ⟨cur, ⟨hh⟩⟩
theorem roR_blk {w : World} {B m c : Nat} {A : Option Addr} {L : List Rn} {g : Nat} (h : RoR w B A m c L) (hg : (Value.slice A m c).ownBlock = some g) : ∃ cur, Blk w g cur 52 := by
  rcases h.form with ⟨rfl, _⟩ | ⟨g', rfl, _, _, cur, hh, _⟩
  · cases hg
  · have e : some g' = some g := hg
    cases e
    exact ⟨cur, ⟨hh⟩⟩
theorem roK_blk {w : World} {B m c : Nat} {A : Option Addr} {L : List Kw} {g : Nat} (h : RoK w B A m c L) (hg : (Value.slice A m c).ownBlock = some g) : ∃ cur, Blk w g cur 48 := by
  rcases h.form with ⟨rfl, _⟩ | ⟨g', rfl, _, _, cur, hh, _⟩
  · cases hg
  · have e : some g' = some g := hg
    cases e
    exact ⟨cur, ⟨hh⟩⟩
theorem cell_but {w w' : World} {g b o : Nat} {v : Value} (n : But g w w') (h : w.cell? ⟨b, o, none⟩ = some v) (hne : b ≠ g) : w'.cell? ⟨b, o, none⟩ = some v := by
  have hb : b < w.heap.size := World.block_lt_of_cell? w _ h
  simp only [World.cell?] at h ⊢
  rw [n.block b hb hne]
  exact h
def mixK (L0 L1 : List Kw) (k : Nat) : Prop := L1.map (·.1) = L0.map (·.1) ∧ ∀ j, k ≤ j → j < L0.length → L1.getD j kw0 = L0.getD j kw0
structure Cpd (w : World) (B : Nat) (A : Option Addr) (m c : Nat) (R : List Rn) (A2 : Option Addr) (m2 c2 : Nat) (L : List Kw) (k : Nat) (A1 : Option Addr) (c1 : Nat) (A3 : Option Addr) (c3 : Nat) (L1 : List Kw) (V : World) : Prop where
  b : Below B w V
  ks : Blk V B (scC A1 m c1 A3 m2 c3) 25
  k2 : Blk V (B + 1) (scC none 0 0 none 0 0) 25
  rr : RoR V (B + 1) A1 m c1 R
  rl : RoK V (B + 1) A3 m2 c3 L1
  mx : mixK L L1 k
  q : ∀ j, j < k → j < L.length → Zo V (B + 1) (L1.getD j kw0).2.1 (L1.getD j kw0).1.q.length (L1.getD j kw0).2.2 (L1.getD j kw0).1.q
  qd : ∀ i j, i < k → j < k → i ≠ j → ∀ g, ownQ (L1.getD i kw0) = some g → ownQ (L1.getD j kw0) ≠ some g
theorem names_setK {L : List Kw} {k : Nat} {y : Kw} (hk : k < L.length) (hy : y.1 = (L.getD k kw0).1) : (L.set k y).map (·.1) = L.map (·.1) := by
  rw [List.map_set, hy, show (L.getD k kw0).1 = (L.map (·.1))[k]'(by simpa using hk) by simp [List.getD, hk], List.set_getElem_self]
theorem getD_setK {L : List Kw} {k j : Nat} {y : Kw} (hk : k < L.length) : (L.set k y).getD j kw0 = if j = k then y else L.getD j kw0 := by
  simp only [List.getD, List.getElem?_set]
  by_cases h : k = j
  · subst h; simp [hk]
  · rw [if_neg h, if_neg (fun e => h e.symm)]
theorem Cpd.step {w V V' : World} {B : Nat} {A : Option Addr} {m c : Nat} {R : List Rn} {A2 : Option Addr} {m2 c2 : Nat} {L : List Kw} {k : Nat} {A1 : Option Addr} {c1 : Nat} {A3 : Option Addr} {c3 : Nat} {L1 : List Kw} (h : Cpd w B A m c R A2 m2 c2 L k A1 c1 A3 c3 L1 V) (b : Below V.heap.size V V') (hB : B ≤ V.heap.size) : Cpd w B A m c R A2 m2 c2 L k A1 c1 A3 c3 L1 V' :=
  ⟨h.b.trans (b.mono hB), h.ks.below b h.ks.lt, h.k2.below b h.k2.lt, h.rr.below b (Nat.le_refl _), h.rl.below b (Nat.le_refl _), h.mx, fun j h1 h2 => (h.q j h1 h2).below b (Nat.le_refl _), h.qd⟩
set_option maxRecDepth 100000 in
set_option maxHeartbeats 8000000 in
theorem copied_sc (A : Option Addr) (m c : Nat) (R : List Rn) (A2 : Option Addr) (m2 c2 : Nat) (L : List Kw) (w : World) (h : Sc w w.heap.size A m c R A2 m2 c2 L) :
    Calls Try.prog 69 #[scV A m c A2 m2 c2] w fun e w' => ∃ A1 c1 A3 c3 L1, e = .returned (scV A1 m c1 A3 m2 c3) ∧ Own w' w.heap.size A1 m c1 R A3 m2 c3 L1 ∧ L1.map (·.1) = L.map (·.1) ∧ Below w.heap.size w w' := by
  have k1 := (Blk.new w (scC A m c A2 m2 c2) 25).alloc (.cells #[.slice none 0 0, .slice none 0 0] 25)
  have k2 := Blk.new_ (w.alloc (.cells (scC A m c A2 m2 c2) 25)) #[.slice none 0 0, .slice none 0 0] 25 (n := w.heap.size + 1) (by simp)
  have B0 := ((Below.refl w.heap.size w).alloc (Nat.le_refl _) (.cells (scC A m c A2 m2 c2) 25)).alloc (by simp) (.cells #[.slice none 0 0, .slice none 0 0] 25)
  have CR := Lib.hid (fun (V : World) (hV : Below w.heap.size w V) => clone_R A m c R V (h.on hV).rs h.len h.lim)
  have CK := Lib.hid (fun (V : World) (hV : Below w.heap.size w V) => clone_K A2 m2 c2 L V (h.on hV).ks h.len2 h.lim2)
  have HS := Lib.hid h
  have HM2 := Lib.hid h.len2
  have h6 : m2 ≤ 100000 := h.lim2
  clear h
  unfold scV
  go_enter Try.func69, Try.ntmps69
  go_wp2_with fail
  generalize hW0 : (w.alloc (.cells (scC A m c A2 m2 c2) 25)).alloc (.cells #[.slice none 0 0, .slice none 0 0] 25) = W at k1 k2 B0 ⊢
  have k2 : Blk W (w.heap.size + 1) (scC none 0 0 none 0 0) 25 := k2
  clear hW0
  try simp only [Act.put, List.getElem_toArray, List.getElem_cons_zero, List.getElem_cons_succ, List.setIfInBounds_toArray, List.set_cons_zero, List.set_cons_succ]
  refine region_cutY (α := (Option Addr × Nat) × (Option Addr × Nat)) (fun q => { tmps := #[.agg (scC A m c A2 m2 c2), .pointer (some ⟨w.heap.size, 0, none⟩), .pointer (some ⟨w.heap.size + 1, 0, none⟩), undef, undef, .pointer (some ⟨w.heap.size, 0, none⟩), .slice A m c, .slice q.1.1 m q.1.2, .pointer (some ⟨w.heap.size, 1, none⟩), .slice A2 m2 c2, .slice q.2.1 m2 q.2.2, .pointer (some ⟨w.heap.size, 0, none⟩), .pointer (some ⟨w.heap.size, 1, none⟩), undef, undef, undef, undef, undef, undef, undef, undef, undef, undef, undef, undef, undef, undef, undef, undef, undef, undef], defers := [] }) (fun q V => Cpd w w.heap.size A m c R A2 m2 c2 L 0 q.1.1 q.1.2 q.2.1 q.2.2 L V) ?_ ?_
  · have k1 := k1.drew
    have k2 := k2.drew
    have J := B0.drew
    refine wp_region_held_drew (S := (fun V => Below w.heap.size w V)) (by kernel_rfl) J (fun _ => ?_)
    generalize W.drew = W0 at J k1 k2 ⊢
    clear B0
    have hs1 : w.heap.size + 1 < W0.heap.size := k2.lt
    refine wpAnyH_take (i := 0) (v := .pointer (some ⟨w.heap.size, 0, none⟩)) rfl (by kernel_rfl) (by kernel_rfl) (by kernel_rfl) (fun _ _ _ h => nomatch h.1) (.inl ⟨by rfl, fun V hV => by go_simp⟩) J ?_
    try simp only [Act.put, List.getElem_toArray, List.getElem_cons_zero, List.getElem_cons_succ, List.setIfInBounds_toArray, List.set_cons_zero, List.set_cons_succ]
    refine wpAnyH_take (i := 3) (v := .pointer (some ⟨w.heap.size, 1, none⟩)) rfl (by kernel_rfl) (by kernel_rfl) (by kernel_rfl) (fun _ _ _ h => nomatch h.1) (.inl ⟨by rfl, fun V hV => by go_simp⟩) J ?_
    try simp only [Act.put, List.getElem_toArray, List.getElem_cons_zero, List.getElem_cons_succ, List.setIfInBounds_toArray, List.set_cons_zero, List.set_cons_succ]
    refine wpAnyH_ready (rs := [1, 4]) (by kernel_rfl) (by simp) ?_
    refine AllReadyH.cons rfl (fun K hK => ?_) (AllReadyH.cons rfl (fun K hK => ?_) AllReadyH.nil)
    · try simp only [Act.put, List.getElem_toArray, List.getElem_cons_zero, List.getElem_cons_succ, List.setIfInBounds_toArray, List.set_cons_zero, List.set_cons_succ]
      have qq := k1.cell 0
      change _ = some (Value.slice A m c) at qq
      go_simp
      clear qq
      refine hK.out _ _ J (fun _ => ?_)
      clear hK K
      try simp only [Act.put, List.getElem_toArray, List.getElem_cons_zero, List.getElem_cons_succ, List.setIfInBounds_toArray, List.set_cons_zero, List.set_cons_succ]
      refine wpAnyH_ready (rs := [2, 4]) (by kernel_rfl) (by simp) ?_
      refine AllReadyH.cons rfl (fun K hK => ?_) (AllReadyH.cons rfl (fun K hK => ?_) AllReadyH.nil)
      · try simp only [Act.put, List.getElem_toArray, List.getElem_cons_zero, List.getElem_cons_succ, List.setIfInBounds_toArray, List.set_cons_zero, List.set_cons_succ]
        go_simp
        refine (CR.out _ J).mono ?_
        rintro e W2 ⟨A1, c1, rfl, ro, bb⟩
        go_wp2_with fail
        have k1 := k1.below bb k1.lt
        have k2 := k2.below bb k2.lt
        have hs2 := bb.size
        have ro := ro.down (b := w.heap.size + 1) (by omega)
        have J := J.trans (bb.mono J.size)
        have hs1 : w.heap.size + 1 < W2.heap.size := by omega
        clear bb hs2
        refine hK.out _ _ J (fun _ => ?_)
        clear hK K
        try simp only [Act.put, List.getElem_toArray, List.getElem_cons_zero, List.getElem_cons_succ, List.setIfInBounds_toArray, List.set_cons_zero, List.set_cons_succ]
        refine wpAnyH_ready (rs := [4]) (by kernel_rfl) (by simp) ?_
        refine AllReadyH.cons rfl (fun K hK => ?_) AllReadyH.nil
        try simp only [Act.put, List.getElem_toArray, List.getElem_cons_zero, List.getElem_cons_succ, List.setIfInBounds_toArray, List.set_cons_zero, List.set_cons_succ]
        have qq := k1.cell 1
        change _ = some (Value.slice A2 m2 c2) at qq
        go_simp
        clear qq
        refine hK.out _ _ J (fun _ => ?_)
        clear hK K
        try simp only [Act.put, List.getElem_toArray, List.getElem_cons_zero, List.getElem_cons_succ, List.setIfInBounds_toArray, List.set_cons_zero, List.set_cons_succ]
        refine wpAnyH_take (i := 6) (v := .pointer (some ⟨w.heap.size, 0, none⟩)) rfl (by kernel_rfl) (by kernel_rfl) (by kernel_rfl) (fun _ _ _ h => nomatch h.1) (.inl ⟨by rfl, fun V hV => by go_simp⟩) J ?_
        try simp only [Act.put, List.getElem_toArray, List.getElem_cons_zero, List.getElem_cons_succ, List.setIfInBounds_toArray, List.set_cons_zero, List.set_cons_succ]
        refine wpAnyH_ready (rs := [5]) (by kernel_rfl) (by simp) ?_
        refine AllReadyH.cons rfl (fun K hK => ?_) AllReadyH.nil
        try simp only [Act.put, List.getElem_toArray, List.getElem_cons_zero, List.getElem_cons_succ, List.setIfInBounds_toArray, List.set_cons_zero, List.set_cons_succ]
        go_simp
        refine (CK.out _ J).mono ?_
        rintro e W3 ⟨A3, c3, rfl, rk, bb⟩
        go_wp2_with fail
        have k1 := k1.below bb k1.lt
        have k2 := k2.below bb k2.lt
        have hs2 := bb.size
        have ro := ro.below bb (Nat.le_refl _)
        have rk := rk.down (b := w.heap.size + 1) (by omega)
        have J := J.trans (bb.mono J.size)
        clear bb hs2
        refine hK.out _ _ J (fun _ => ?_)
        clear hK K
        try simp only [Act.put, List.getElem_toArray, List.getElem_cons_zero, List.getElem_cons_succ, List.setIfInBounds_toArray, List.set_cons_zero, List.set_cons_succ]
        refine wpAnyH_ready (rs := [7]) (by kernel_rfl) (by simp) ?_
        refine AllReadyH.cons rfl (fun K hK => ?_) AllReadyH.nil
        try simp only [Act.put, List.getElem_toArray, List.getElem_cons_zero, List.getElem_cons_succ, List.setIfInBounds_toArray, List.set_cons_zero, List.set_cons_succ]
        have q0 : W3.cell? ⟨w.heap.size, 0, none⟩ = some (.slice A m c) := k1.cell 0
        have f0 := k1.frozen 0
        go_simp
        clear q0 f0
        have k1 := k1.set_ 0 (.slice A1 m c1)
        have k2 : Blk (W3.setCell ⟨w.heap.size, 0, none⟩ (.slice A1 m c1)) (w.heap.size + 1) (scC none 0 0 none 0 0) 25 := k2.far (by simp) _
        have ro : RoR (W3.setCell ⟨w.heap.size, 0, none⟩ (.slice A1 m c1)) (w.heap.size + 1) A1 m c1 R := own_far ro (Nat.lt_succ_self _) _
        have rk : RoK (W3.setCell ⟨w.heap.size, 0, none⟩ (.slice A1 m c1)) (w.heap.size + 1) A3 m2 c3 L := own_far rk (Nat.lt_succ_self _) _
        have J := J.setCell (p := ⟨w.heap.size, 0, none⟩) (Nat.le_refl _) (.slice A1 m c1)
        generalize W3.setCell ⟨w.heap.size, 0, none⟩ (.slice A1 m c1) = W4 at k1 k2 ro rk J ⊢
        refine hK.out _ _ J (fun _ => ?_)
        clear hK K
        try simp only [Act.put, List.getElem_toArray, List.getElem_cons_zero, List.getElem_cons_succ, List.setIfInBounds_toArray, List.set_cons_zero, List.set_cons_succ]
        refine wpAnyH_take (i := 8) (v := .pointer (some ⟨w.heap.size, 1, none⟩)) rfl (by kernel_rfl) (by kernel_rfl) (by kernel_rfl) (fun _ _ _ h => nomatch h.1) (.inl ⟨by rfl, fun V hV => by go_simp⟩) J ?_
        try simp only [Act.put, List.getElem_toArray, List.getElem_cons_zero, List.getElem_cons_succ, List.setIfInBounds_toArray, List.set_cons_zero, List.set_cons_succ]
        refine wpAnyH_ready (rs := [9]) (by kernel_rfl) (by simp) ?_
        refine AllReadyH.cons rfl (fun K hK => ?_) AllReadyH.nil
        try simp only [Act.put, List.getElem_toArray, List.getElem_cons_zero, List.getElem_cons_succ, List.setIfInBounds_toArray, List.set_cons_zero, List.set_cons_succ]
        have q0 : W4.cell? ⟨w.heap.size, 1, none⟩ = some (.slice A2 m2 c2) := k1.cell 1
        have f0 := k1.frozen 1
        go_simp
        clear q0 f0
        have k1 := k1.set_ 1 (.slice A3 m2 c3)
        have k2 : Blk (W4.setCell ⟨w.heap.size, 1, none⟩ (.slice A3 m2 c3)) (w.heap.size + 1) (scC none 0 0 none 0 0) 25 := k2.far (by simp) _
        have ro : RoR (W4.setCell ⟨w.heap.size, 1, none⟩ (.slice A3 m2 c3)) (w.heap.size + 1) A1 m c1 R := own_far ro (Nat.lt_succ_self _) _
        have rk : RoK (W4.setCell ⟨w.heap.size, 1, none⟩ (.slice A3 m2 c3)) (w.heap.size + 1) A3 m2 c3 L := own_far rk (Nat.lt_succ_self _) _
        have J := J.setCell (p := ⟨w.heap.size, 1, none⟩) (Nat.le_refl _) (.slice A3 m2 c3)
        refine hK.out _ _ J (fun _ => ?_)
        clear hK K
        try simp only [Act.put, List.getElem_toArray, List.getElem_cons_zero, List.getElem_cons_succ, List.setIfInBounds_toArray, List.set_cons_zero, List.set_cons_succ]
        refine wpAnyH_done (by kernel_rfl) ?_ _
        exact ⟨rfl, ((A1, c1), (A3, c3)), rfl, ⟨J, k1, k2, ro, rk, ⟨rfl, fun j _ _ => rfl⟩, (fun j h => absurd h (by omega)), (fun i j h => absurd h (by omega))⟩⟩
      · try simp only [Act.put, List.getElem_toArray, List.getElem_cons_zero, List.getElem_cons_succ, List.setIfInBounds_toArray, List.set_cons_zero, List.set_cons_succ]
        have qq := k1.cell 1
        change _ = some (Value.slice A2 m2 c2) at qq
        go_simp
        clear qq
        refine hK.out _ _ J (fun _ => ?_)
        clear hK K
        try simp only [Act.put, List.getElem_toArray, List.getElem_cons_zero, List.getElem_cons_succ, List.setIfInBounds_toArray, List.set_cons_zero, List.set_cons_succ]
        refine wpAnyH_ready (rs := [2]) (by kernel_rfl) (by simp) ?_
        refine AllReadyH.cons rfl (fun K hK => ?_) AllReadyH.nil
        try simp only [Act.put, List.getElem_toArray, List.getElem_cons_zero, List.getElem_cons_succ, List.setIfInBounds_toArray, List.set_cons_zero, List.set_cons_succ]
        go_simp
        refine (CR.out _ J).mono ?_
        rintro e W2 ⟨A1, c1, rfl, ro, bb⟩
        go_wp2_with fail
        have k1 := k1.below bb k1.lt
        have k2 := k2.below bb k2.lt
        have hs2 := bb.size
        have ro := ro.down (b := w.heap.size + 1) (by omega)
        have J := J.trans (bb.mono J.size)
        have hs1 : w.heap.size + 1 < W2.heap.size := by omega
        clear bb hs2
        refine hK.out _ _ J (fun _ => ?_)
        clear hK K
        try simp only [Act.put, List.getElem_toArray, List.getElem_cons_zero, List.getElem_cons_succ, List.setIfInBounds_toArray, List.set_cons_zero, List.set_cons_succ]
        refine wpAnyH_take (i := 6) (v := .pointer (some ⟨w.heap.size, 0, none⟩)) rfl (by kernel_rfl) (by kernel_rfl) (by kernel_rfl) (fun _ _ _ h => nomatch h.1) (.inl ⟨by rfl, fun V hV => by go_simp⟩) J ?_
        try simp only [Act.put, List.getElem_toArray, List.getElem_cons_zero, List.getElem_cons_succ, List.setIfInBounds_toArray, List.set_cons_zero, List.set_cons_succ]
        refine wpAnyH_ready (rs := [5]) (by kernel_rfl) (by simp) ?_
        refine AllReadyH.cons rfl (fun K hK => ?_) AllReadyH.nil
        try simp only [Act.put, List.getElem_toArray, List.getElem_cons_zero, List.getElem_cons_succ, List.setIfInBounds_toArray, List.set_cons_zero, List.set_cons_succ]
        go_simp
        refine (CK.out _ J).mono ?_
        rintro e W3 ⟨A3, c3, rfl, rk, bb⟩
        go_wp2_with fail
        have k1 := k1.below bb k1.lt
        have k2 := k2.below bb k2.lt
        have hs2 := bb.size
        have ro := ro.below bb (Nat.le_refl _)
        have rk := rk.down (b := w.heap.size + 1) (by omega)
        have J := J.trans (bb.mono J.size)
        clear bb hs2
        refine hK.out _ _ J (fun _ => ?_)
        clear hK K
        try simp only [Act.put, List.getElem_toArray, List.getElem_cons_zero, List.getElem_cons_succ, List.setIfInBounds_toArray, List.set_cons_zero, List.set_cons_succ]
        refine wpAnyH_ready (rs := [7]) (by kernel_rfl) (by simp) ?_
        refine AllReadyH.cons rfl (fun K hK => ?_) AllReadyH.nil
        try simp only [Act.put, List.getElem_toArray, List.getElem_cons_zero, List.getElem_cons_succ, List.setIfInBounds_toArray, List.set_cons_zero, List.set_cons_succ]
        have q0 : W3.cell? ⟨w.heap.size, 0, none⟩ = some (.slice A m c) := k1.cell 0
        have f0 := k1.frozen 0
        go_simp
        clear q0 f0
        have k1 := k1.set_ 0 (.slice A1 m c1)
        have k2 : Blk (W3.setCell ⟨w.heap.size, 0, none⟩ (.slice A1 m c1)) (w.heap.size + 1) (scC none 0 0 none 0 0) 25 := k2.far (by simp) _
        have ro : RoR (W3.setCell ⟨w.heap.size, 0, none⟩ (.slice A1 m c1)) (w.heap.size + 1) A1 m c1 R := own_far ro (Nat.lt_succ_self _) _
        have rk : RoK (W3.setCell ⟨w.heap.size, 0, none⟩ (.slice A1 m c1)) (w.heap.size + 1) A3 m2 c3 L := own_far rk (Nat.lt_succ_self _) _
        have J := J.setCell (p := ⟨w.heap.size, 0, none⟩) (Nat.le_refl _) (.slice A1 m c1)
        generalize W3.setCell ⟨w.heap.size, 0, none⟩ (.slice A1 m c1) = W4 at k1 k2 ro rk J ⊢
        refine hK.out _ _ J (fun _ => ?_)
        clear hK K
        try simp only [Act.put, List.getElem_toArray, List.getElem_cons_zero, List.getElem_cons_succ, List.setIfInBounds_toArray, List.set_cons_zero, List.set_cons_succ]
        refine wpAnyH_take (i := 8) (v := .pointer (some ⟨w.heap.size, 1, none⟩)) rfl (by kernel_rfl) (by kernel_rfl) (by kernel_rfl) (fun _ _ _ h => nomatch h.1) (.inl ⟨by rfl, fun V hV => by go_simp⟩) J ?_
        try simp only [Act.put, List.getElem_toArray, List.getElem_cons_zero, List.getElem_cons_succ, List.setIfInBounds_toArray, List.set_cons_zero, List.set_cons_succ]
        refine wpAnyH_ready (rs := [9]) (by kernel_rfl) (by simp) ?_
        refine AllReadyH.cons rfl (fun K hK => ?_) AllReadyH.nil
        try simp only [Act.put, List.getElem_toArray, List.getElem_cons_zero, List.getElem_cons_succ, List.setIfInBounds_toArray, List.set_cons_zero, List.set_cons_succ]
        have q0 : W4.cell? ⟨w.heap.size, 1, none⟩ = some (.slice A2 m2 c2) := k1.cell 1
        have f0 := k1.frozen 1
        go_simp
        clear q0 f0
        have k1 := k1.set_ 1 (.slice A3 m2 c3)
        have k2 : Blk (W4.setCell ⟨w.heap.size, 1, none⟩ (.slice A3 m2 c3)) (w.heap.size + 1) (scC none 0 0 none 0 0) 25 := k2.far (by simp) _
        have ro : RoR (W4.setCell ⟨w.heap.size, 1, none⟩ (.slice A3 m2 c3)) (w.heap.size + 1) A1 m c1 R := own_far ro (Nat.lt_succ_self _) _
        have rk : RoK (W4.setCell ⟨w.heap.size, 1, none⟩ (.slice A3 m2 c3)) (w.heap.size + 1) A3 m2 c3 L := own_far rk (Nat.lt_succ_self _) _
        have J := J.setCell (p := ⟨w.heap.size, 1, none⟩) (Nat.le_refl _) (.slice A3 m2 c3)
        refine hK.out _ _ J (fun _ => ?_)
        clear hK K
        try simp only [Act.put, List.getElem_toArray, List.getElem_cons_zero, List.getElem_cons_succ, List.setIfInBounds_toArray, List.set_cons_zero, List.set_cons_succ]
        refine wpAnyH_done (by kernel_rfl) ?_ _
        exact ⟨rfl, ((A1, c1), (A3, c3)), rfl, ⟨J, k1, k2, ro, rk, ⟨rfl, fun j _ _ => rfl⟩, (fun j h => absurd h (by omega)), (fun i j h => absurd h (by omega))⟩⟩
    · try simp only [Act.put, List.getElem_toArray, List.getElem_cons_zero, List.getElem_cons_succ, List.setIfInBounds_toArray, List.set_cons_zero, List.set_cons_succ]
      have qq := k1.cell 1
      change _ = some (Value.slice A2 m2 c2) at qq
      go_simp
      clear qq
      refine hK.out _ _ J (fun _ => ?_)
      clear hK K
      try simp only [Act.put, List.getElem_toArray, List.getElem_cons_zero, List.getElem_cons_succ, List.setIfInBounds_toArray, List.set_cons_zero, List.set_cons_succ]
      refine wpAnyH_ready (rs := [1]) (by kernel_rfl) (by simp) ?_
      refine AllReadyH.cons rfl (fun K hK => ?_) AllReadyH.nil
      try simp only [Act.put, List.getElem_toArray, List.getElem_cons_zero, List.getElem_cons_succ, List.setIfInBounds_toArray, List.set_cons_zero, List.set_cons_succ]
      have qq := k1.cell 0
      change _ = some (Value.slice A m c) at qq
      go_simp
      clear qq
      refine hK.out _ _ J (fun _ => ?_)
      clear hK K
      try simp only [Act.put, List.getElem_toArray, List.getElem_cons_zero, List.getElem_cons_succ, List.setIfInBounds_toArray, List.set_cons_zero, List.set_cons_succ]
      refine wpAnyH_ready (rs := [2]) (by kernel_rfl) (by simp) ?_
      refine AllReadyH.cons rfl (fun K hK => ?_) AllReadyH.nil
      try simp only [Act.put, List.getElem_toArray, List.getElem_cons_zero, List.getElem_cons_succ, List.setIfInBounds_toArray, List.set_cons_zero, List.set_cons_succ]
      go_simp
      refine (CR.out _ J).mono ?_
      rintro e W2 ⟨A1, c1, rfl, ro, bb⟩
      go_wp2_with fail
      have k1 := k1.below bb k1.lt
      have k2 := k2.below bb k2.lt
      have hs2 := bb.size
      have ro := ro.down (b := w.heap.size + 1) (by omega)
      have J := J.trans (bb.mono J.size)
      have hs1 : w.heap.size + 1 < W2.heap.size := by omega
      clear bb hs2
      refine hK.out _ _ J (fun _ => ?_)
      clear hK K
      try simp only [Act.put, List.getElem_toArray, List.getElem_cons_zero, List.getElem_cons_succ, List.setIfInBounds_toArray, List.set_cons_zero, List.set_cons_succ]
      refine wpAnyH_take (i := 6) (v := .pointer (some ⟨w.heap.size, 0, none⟩)) rfl (by kernel_rfl) (by kernel_rfl) (by kernel_rfl) (fun _ _ _ h => nomatch h.1) (.inl ⟨by rfl, fun V hV => by go_simp⟩) J ?_
      try simp only [Act.put, List.getElem_toArray, List.getElem_cons_zero, List.getElem_cons_succ, List.setIfInBounds_toArray, List.set_cons_zero, List.set_cons_succ]
      refine wpAnyH_ready (rs := [5]) (by kernel_rfl) (by simp) ?_
      refine AllReadyH.cons rfl (fun K hK => ?_) AllReadyH.nil
      try simp only [Act.put, List.getElem_toArray, List.getElem_cons_zero, List.getElem_cons_succ, List.setIfInBounds_toArray, List.set_cons_zero, List.set_cons_succ]
      go_simp
      refine (CK.out _ J).mono ?_
      rintro e W3 ⟨A3, c3, rfl, rk, bb⟩
      go_wp2_with fail
      have k1 := k1.below bb k1.lt
      have k2 := k2.below bb k2.lt
      have hs2 := bb.size
      have ro := ro.below bb (Nat.le_refl _)
      have rk := rk.down (b := w.heap.size + 1) (by omega)
      have J := J.trans (bb.mono J.size)
      clear bb hs2
      refine hK.out _ _ J (fun _ => ?_)
      clear hK K
      try simp only [Act.put, List.getElem_toArray, List.getElem_cons_zero, List.getElem_cons_succ, List.setIfInBounds_toArray, List.set_cons_zero, List.set_cons_succ]
      refine wpAnyH_ready (rs := [7]) (by kernel_rfl) (by simp) ?_
      refine AllReadyH.cons rfl (fun K hK => ?_) AllReadyH.nil
      try simp only [Act.put, List.getElem_toArray, List.getElem_cons_zero, List.getElem_cons_succ, List.setIfInBounds_toArray, List.set_cons_zero, List.set_cons_succ]
      have q0 : W3.cell? ⟨w.heap.size, 0, none⟩ = some (.slice A m c) := k1.cell 0
      have f0 := k1.frozen 0
      go_simp
      clear q0 f0
      have k1 := k1.set_ 0 (.slice A1 m c1)
      have k2 : Blk (W3.setCell ⟨w.heap.size, 0, none⟩ (.slice A1 m c1)) (w.heap.size + 1) (scC none 0 0 none 0 0) 25 := k2.far (by simp) _
      have ro : RoR (W3.setCell ⟨w.heap.size, 0, none⟩ (.slice A1 m c1)) (w.heap.size + 1) A1 m c1 R := own_far ro (Nat.lt_succ_self _) _
      have rk : RoK (W3.setCell ⟨w.heap.size, 0, none⟩ (.slice A1 m c1)) (w.heap.size + 1) A3 m2 c3 L := own_far rk (Nat.lt_succ_self _) _
      have J := J.setCell (p := ⟨w.heap.size, 0, none⟩) (Nat.le_refl _) (.slice A1 m c1)
      generalize W3.setCell ⟨w.heap.size, 0, none⟩ (.slice A1 m c1) = W4 at k1 k2 ro rk J ⊢
      refine hK.out _ _ J (fun _ => ?_)
      clear hK K
      try simp only [Act.put, List.getElem_toArray, List.getElem_cons_zero, List.getElem_cons_succ, List.setIfInBounds_toArray, List.set_cons_zero, List.set_cons_succ]
      refine wpAnyH_take (i := 8) (v := .pointer (some ⟨w.heap.size, 1, none⟩)) rfl (by kernel_rfl) (by kernel_rfl) (by kernel_rfl) (fun _ _ _ h => nomatch h.1) (.inl ⟨by rfl, fun V hV => by go_simp⟩) J ?_
      try simp only [Act.put, List.getElem_toArray, List.getElem_cons_zero, List.getElem_cons_succ, List.setIfInBounds_toArray, List.set_cons_zero, List.set_cons_succ]
      refine wpAnyH_ready (rs := [9]) (by kernel_rfl) (by simp) ?_
      refine AllReadyH.cons rfl (fun K hK => ?_) AllReadyH.nil
      try simp only [Act.put, List.getElem_toArray, List.getElem_cons_zero, List.getElem_cons_succ, List.setIfInBounds_toArray, List.set_cons_zero, List.set_cons_succ]
      have q0 : W4.cell? ⟨w.heap.size, 1, none⟩ = some (.slice A2 m2 c2) := k1.cell 1
      have f0 := k1.frozen 1
      go_simp
      clear q0 f0
      have k1 := k1.set_ 1 (.slice A3 m2 c3)
      have k2 : Blk (W4.setCell ⟨w.heap.size, 1, none⟩ (.slice A3 m2 c3)) (w.heap.size + 1) (scC none 0 0 none 0 0) 25 := k2.far (by simp) _
      have ro : RoR (W4.setCell ⟨w.heap.size, 1, none⟩ (.slice A3 m2 c3)) (w.heap.size + 1) A1 m c1 R := own_far ro (Nat.lt_succ_self _) _
      have rk : RoK (W4.setCell ⟨w.heap.size, 1, none⟩ (.slice A3 m2 c3)) (w.heap.size + 1) A3 m2 c3 L := own_far rk (Nat.lt_succ_self _) _
      have J := J.setCell (p := ⟨w.heap.size, 1, none⟩) (Nat.le_refl _) (.slice A3 m2 c3)
      refine hK.out _ _ J (fun _ => ?_)
      clear hK K
      try simp only [Act.put, List.getElem_toArray, List.getElem_cons_zero, List.getElem_cons_succ, List.setIfInBounds_toArray, List.set_cons_zero, List.set_cons_succ]
      refine wpAnyH_done (by kernel_rfl) ?_ _
      exact ⟨rfl, ((A1, c1), (A3, c3)), rfl, ⟨J, k1, k2, ro, rk, ⟨rfl, fun j _ _ => rfl⟩, (fun j h => absurd h (by omega)), (fun i j h => absurd h (by omega))⟩⟩
  · rintro ⟨⟨A1, c1⟩, ⟨A3, c3⟩⟩ W1 C0
    simp only at C0 ⊢
    clear k1 k2 B0 CR CK
    have q1 : W1.cell? ⟨w.heap.size, 1, none⟩ = some (.slice A3 m2 c3) := C0.ks.cell 1
    go_wp2_with fail
    clear q1
    go_loopw [16] (fun i wr' => ∃ (k : Nat) (L1 : List Kw) (wr : World), wr = wr' ∧ k ≤ m2 ∧ i = .int .i64 k ∧ Hid (Cpd w w.heap.size A m c R A2 m2 c2 L k A1 c1 A3 c3 L1 wr)) (fun i _ => m2 - (intOf i).toNat)
    case atStart => exact ⟨0, L, _, rfl, Nat.zero_le _, rfl, Lib.hid C0⟩
    case round =>
      clear C0
      obtain ⟨k, L1, wr, hwr, hk, rfl, HC⟩ := hrel
      subst hwr
      have C := HC.out
      clear HC
      have hll : L1.length = L.length := by have := congrArg List.length C.mx.1; simpa using this
      have HLL := Lib.hid hll
      by_cases hlt : k < m2
      · have hlt' : (k : Int) < (m2 : Int) := by omega
        have hkl : k < L.length := by have := HM2.out; omega
        have hkl1 : k < L1.length := by omega
        obtain ⟨g3, hA3, hg3, hg3l⟩ := C.rl.at0 (by omega)
        subst hA3
        obtain ⟨b, off, he, hb, hc⟩ := C.rl.rs k hkl1
        cases he
        have hx := C.mx.2 k (Nat.le_refl _) hkl
        have hq := HS.out.q' hkl
        rw [← hx] at hq
        have hcell : wr.cell? ⟨g3, 0 + k * 3 + 2, none⟩ = some (.slice (L1.getD k kw0).2.1 (L1.getD k kw0).1.q.length (L1.getD k kw0).2.2) := hc 2 _ rfl
        have hfr := World.ownsRow.frozenAt C.rl (k * 3 + 2)
        rw [Nat.zero_add] at hcell hc
        have HC := Lib.hid C
        have HX := Lib.hid hx
        have hgB : w.heap.size + 1 ≤ g3 := hg3
        obtain ⟨x, hxx⟩ : ∃ x, L1.getD k kw0 = x := ⟨_, rfl⟩
        rw [hxx] at hc hq hcell
        have HXX := Lib.hid hxx
        clear hx hxx hll
        have hs3 : (kwC x).size = 3 := kw_size x
        have hwB : w.heap.size ≤ wr.heap.size := C.b.size
        have ZC := Lib.hid (fun (V : World) (hV : Below w.heap.size w V) => zclone_any x.2.1 x.1.q.length x.2.2 x.1.q V ((hq.ri.below hV (Nat.le_refl _)).more hV.size) rfl hq.l)
        go_wp2_with (first
          | (refine wpList_load_mid rfl 48 (.tmp 19) rfl g3 (k * 3) rfl (kwC x).toList _ hc Try.underlying48 rfl (kw_infL x) ?_)
          | (refine wpList_store_blk rfl 48 (.tmp 4) (.tmp 20) rfl wr.heap.size (kwC kw0) (kwC x) 48 rfl rfl (Blk.new _ _ _) rfl (kw_inf x) (kw_one x) ?_
             intro w1 k4 n4
             have bb : Below wr.heap.size wr w1 := ((Below.refl _ wr).alloc (Nat.le_refl _) _).trans (n4.below _ (Nat.le_refl _) (by simp))
             have C1 := C.step bb hwB
             have hwr4 : wr.heap.size < w1.heap.size := k4.lt
             clear hc hcell hfr C bb n4))
        try simp only [Act.put, List.getElem_toArray, List.getElem_cons_zero, List.getElem_cons_succ, List.setIfInBounds_toArray, List.set_cons_zero, List.set_cons_succ]
        refine region_cutP ?_
        have C2 := C1.step (Below.refl _ _).drew C1.b.size
        have J : Below w.heap.size w w1.drew ∧ (Blk w1.drew w.heap.size (scC A1 m c1 (some ⟨g3, 0, none⟩) m2 c3) 25 ∧ Blk w1.drew wr.heap.size (kwC x) 48) := ⟨C2.b, C2.ks, k4.drew⟩
        refine wp_region_held_drew (S := (fun V => Below w.heap.size w V ∧ (Blk V w.heap.size (scC A1 m c1 (some ⟨g3, 0, none⟩) m2 c3) 25 ∧ Blk V wr.heap.size (kwC x) 48))) (by kernel_rfl) J (fun _ => ?_)
        refine wpAnyH_take (i := 0) (v := .pointer (some ⟨w.heap.size, 1, none⟩)) rfl (by kernel_rfl) (by kernel_rfl) (by kernel_rfl) (fun _ _ _ h => nomatch h.1) (.inl ⟨by rfl, fun V hV => by go_simp⟩) J ?_
        try simp only [Act.put, List.getElem_toArray, List.getElem_cons_zero, List.getElem_cons_succ, List.setIfInBounds_toArray, List.set_cons_zero, List.set_cons_succ]
        refine wpAnyH_take (i := 2) (v := .int .i64 k) rfl (by kernel_rfl) (by kernel_rfl) (by kernel_rfl) (fun _ _ _ h => nomatch h.1) (.inl ⟨by rfl, fun V hV => by go_simp⟩) J ?_
        try simp only [Act.put, List.getElem_toArray, List.getElem_cons_zero, List.getElem_cons_succ, List.setIfInBounds_toArray, List.set_cons_zero, List.set_cons_succ]
        refine wpAnyH_take (i := 3) (v := .pointer (some ⟨wr.heap.size, 2, none⟩)) rfl (by kernel_rfl) (by kernel_rfl) (by kernel_rfl) (fun _ _ _ h => nomatch h.1) (.inl ⟨by rfl, fun V hV => by go_simp⟩) J ?_
        try simp only [Act.put, List.getElem_toArray, List.getElem_cons_zero, List.getElem_cons_succ, List.setIfInBounds_toArray, List.set_cons_zero, List.set_cons_succ]
        refine wpAnyH_take (i := 1) (v := .slice (some ⟨g3, 0, none⟩) m2 c3) rfl (by kernel_rfl) (by kernel_rfl) (by kernel_rfl) (fun _ _ _ h => nomatch h.1) (.inl ⟨by rfl, fun V hV => by have c2 : V.cell? ⟨w.heap.size, 1, none⟩ = some (.slice (some ⟨g3, 0, none⟩) m2 c3) := hV.2.1.cell 1; go_simp⟩) J ?_
        try simp only [Act.put, List.getElem_toArray, List.getElem_cons_zero, List.getElem_cons_succ, List.setIfInBounds_toArray, List.set_cons_zero, List.set_cons_succ]
        refine wpAnyH_take (i := 4) (v := .slice x.2.1 x.1.q.length x.2.2) rfl (by kernel_rfl) (by kernel_rfl) (by kernel_rfl) (fun _ _ _ h => nomatch h.1) (.inl ⟨by rfl, fun V hV => by have c2 : V.cell? ⟨wr.heap.size, 2, none⟩ = some (.slice x.2.1 x.1.q.length x.2.2) := hV.2.2.cell 2; go_simp⟩) J ?_
        try simp only [Act.put, List.getElem_toArray, List.getElem_cons_zero, List.getElem_cons_succ, List.setIfInBounds_toArray, List.set_cons_zero, List.set_cons_succ]
        refine wpAnyH_ready (rs := [5]) (by kernel_rfl) (by simp) ?_
        refine AllReadyH.cons rfl (fun K hK => ?_) AllReadyH.nil
        try simp only [Act.put, List.getElem_toArray, List.getElem_cons_zero, List.getElem_cons_succ, List.setIfInBounds_toArray, List.set_cons_zero, List.set_cons_succ]
        go_simp
        have hWW : w1.heap.size ≤ w1.drew.heap.size := Nat.le_refl _
        obtain ⟨W0, hW0⟩ : ∃ W0, W0 = w1.drew := ⟨_, rfl⟩
        rw [← hW0] at J C2 hWW ⊢
        clear hW0
        refine (ZC.out _ J.1).mono ?_
        rintro e W2 ⟨A4, c4, rfl, zo, bb⟩
        go_wp2_with fail
        have hs2 : W0.heap.size ≤ W2.heap.size := bb.size
        have C3 := C2.step bb C2.b.size
        have hqlt : ∀ j, j < k → ∀ g, ownQ (L1.getD j kw0) = some g → g < W0.heap.size := fun j hj g hg => ((C2.q j hj (by omega)).lt g hg).2
        have hqge : ∀ g, ownQ (x.1, (A4, c4)) = some g → W0.heap.size ≤ g := fun g hg => (zo.lt g hg).1
        have zo1 := zo.down (b := w.heap.size + 1) (by have := C2.k2.lt; omega)
        have J : Below w.heap.size w W2 ∧ (Blk W2 w.heap.size (scC A1 m c1 (some ⟨g3, 0, none⟩) m2 c3) 25 ∧ Blk W2 wr.heap.size (kwC x) 48) := ⟨C3.b, C3.ks, J.2.2.below bb J.2.2.lt⟩
        clear bb zo C2
        refine hK.out _ _ J (fun _ => ?_)
        clear hK K
        try simp only [Act.put, List.getElem_toArray, List.getElem_cons_zero, List.getElem_cons_succ, List.setIfInBounds_toArray, List.set_cons_zero, List.set_cons_succ]
        refine wpAnyH_take (i := 6) (v := .pointer (some ⟨g3, k * 3, none⟩)) rfl (by kernel_rfl) (by kernel_rfl) (by kernel_rfl) (fun _ _ _ h => nomatch h.1) (.inl ⟨by rfl, fun V hV => by go_simp⟩) J ?_
        try simp only [Act.put, List.getElem_toArray, List.getElem_cons_zero, List.getElem_cons_succ, List.setIfInBounds_toArray, List.set_cons_zero, List.set_cons_succ]
        refine wpAnyH_take (i := 7) (v := .pointer (some ⟨g3, k * 3 + 2, none⟩)) rfl (by kernel_rfl) (by kernel_rfl) (by kernel_rfl) (fun _ _ _ h => nomatch h.1) (.inl ⟨by rfl, fun V hV => by go_simp⟩) J ?_
        try simp only [Act.put, List.getElem_toArray, List.getElem_cons_zero, List.getElem_cons_succ, List.setIfInBounds_toArray, List.set_cons_zero, List.set_cons_succ]
        refine wpAnyH_ready (rs := [8]) (by kernel_rfl) (by simp) ?_
        refine AllReadyH.cons rfl (fun K hK => ?_) AllReadyH.nil
        try simp only [Act.put, List.getElem_toArray, List.getElem_cons_zero, List.getElem_cons_succ, List.setIfInBounds_toArray, List.set_cons_zero, List.set_cons_succ]
        obtain ⟨b7, off7, he7, hb7, hc7⟩ := C3.rl.rs k hkl1
        cases he7
        have q2 : W2.cell? ⟨g3, k * 3 + 2, none⟩ = some (.slice x.2.1 x.1.q.length x.2.2) := by have := hc7 2 _ rfl; rw [HXX.out, Nat.zero_add] at this; exact this
        have f2 := World.ownsRow.frozenAt C3.rl (k * 3 + 2)
        go_simp
        clear q2 f2 hc7
        have hy : (kwC (x.1, (A4, c4))).toList = (kwC (L1.getD k kw0)).toList.set 2 (.slice A4 x.1.q.length c4) := by rw [HXX.out]; rfl
        have rl9 := C3.rl.cellSet hkl1 (j := 2) (u := .slice A4 x.1.q.length c4) (y := (x.1, (A4, c4))) (by omega) hy
        have n9 : But g3 W2 (W2.setCell ⟨g3, k * 3 + 2, none⟩ (.slice A4 x.1.q.length c4)) := (But.refl g3 W2).setCell (p := ⟨g3, k * 3 + 2, none⟩) (.inl rfl) _
        obtain ⟨curK, kK⟩ := roK_blk C3.rl rfl
        have hkn : ∀ j, (L1.set k (x.1, (A4, c4))).getD j kw0 = if j = k then (x.1, (A4, c4)) else L1.getD j kw0 := fun j => getD_setK hkl1
        have hbne : w.heap.size + 1 ≠ g3 := fun e => by
          have k2 := C3.k2.blk
          rw [e, kK.blk] at k2
          have h9 : (48 : TypeId) = 25 := by injection k2 with k2; injection k2
          exact absurd h9 (by decide)
        have zo9 : Zo (W2.setCell ⟨g3, k * 3 + 2, none⟩ (.slice A4 x.1.q.length c4)) (w.heap.size + 1) A4 x.1.q.length c4 x.1.q := own_kind zo1 (grown_but n9) (fun g e => by cases e; exact ⟨_, _, kK, by decide⟩)
        have J : Below w.heap.size w (W2.setCell ⟨g3, k * 3 + 2, none⟩ (.slice A4 x.1.q.length c4)) ∧ (Blk (W2.setCell ⟨g3, k * 3 + 2, none⟩ (.slice A4 x.1.q.length c4)) w.heap.size (scC A1 m c1 (some ⟨g3, 0, none⟩) m2 c3) 25 ∧ Blk (W2.setCell ⟨g3, k * 3 + 2, none⟩ (.slice A4 x.1.q.length c4)) wr.heap.size (kwC x) 48) := ⟨C3.b.trans (n9.below _ (by omega) C3.b.size), n9.blk7 C3.ks (by omega), n9.blk7 J.2.2 (by omega)⟩
        have C9 : Cpd w w.heap.size A m c R A2 m2 c2 L (k + 1) A1 c1 (some ⟨g3, 0, none⟩) c3 (L1.set k (x.1, (A4, c4))) (W2.setCell ⟨g3, k * 3 + 2, none⟩ (.slice A4 x.1.q.length c4)) := ⟨J.1, J.2.1, n9.blk7 C3.k2 hbne, own_kind C3.rr (grown_but n9) (fun g e => by cases e; exact ⟨_, _, kK, by decide⟩), rl9,
            ⟨by rw [names_setK hkl1 (by rw [HXX.out])]; exact C3.mx.1, fun j h1 h2 => by rw [hkn j, if_neg (by omega)]; exact C3.mx.2 j (by omega) h2⟩,
            (fun j h1 h2 => by
              rw [hkn j]
              by_cases hjk : j = k
              · rw [if_pos hjk]; exact zo9
              · rw [if_neg hjk]; exact own_kind (C3.q j (by omega) h2) (grown_but n9) (fun g e => by cases e; exact ⟨_, _, kK, by decide⟩)),
            (fun i j hi hj hne g => by
              rw [hkn i, hkn j]
              by_cases hik : i = k
              · by_cases hjk : j = k
                · omega
                · rw [if_pos hik, if_neg hjk]
                  intro h1 h2
                  have := hqge g h1
                  have := hqlt j (by omega) g h2
                  omega
              · by_cases hjk : j = k
                · rw [if_neg hik, if_pos hjk]
                  intro h1 h2
                  have := hqge g h2
                  have := hqlt i (by omega) g h1
                  omega
                · rw [if_neg hik, if_neg hjk]
                  exact C3.qd i j (by omega) (by omega) hne g)⟩
        generalize W2.setCell ⟨g3, k * 3 + 2, none⟩ (.slice A4 x.1.q.length c4) = W9 at J C9 ⊢
        refine hK.out _ _ J (fun _ => ?_)
        clear hK K
        try simp only [Act.put, List.getElem_toArray, List.getElem_cons_zero, List.getElem_cons_succ, List.setIfInBounds_toArray, List.set_cons_zero, List.set_cons_succ]
        refine wpAnyH_done (by kernel_rfl) ?_ _
        refine ⟨rfl, ?_⟩
        clear J
        go_wp2_with fail
        go_roundw
        case rel => exact ⟨k + 1, _, _, rfl, by omega, by go_num, Lib.hid C9⟩
        case measure => simp [intOf]; omega
      · obtain rfl : k = m2 := by omega
        go_wp2_with (first
          | (refine wpList_load_row rfl 25 (.tmp 1) rfl w.heap.size rfl 25 (scC A1 m c1 A3 k c3) (0, 0) _ C.ks.blk Try.underlying25 rfl (sc_inf _ _ _ _ _ _) ?_)
          | (refine wpList_store_blk rfl 25 (.tmp 2) (.tmp 30) rfl (w.heap.size + 1) (scC none 0 0 none 0 0) (scC A1 m c1 A3 k c3) 25 rfl rfl C.k2 rfl (sc_inf _ _ _ _ _ _) (sc_one _ _ _ _ _ _) ?_
             intro w3 h3 n3))
        refine bodyPost_ret (results_cell_row rfl _ _ (w.heap.size + 1) 25 (scC A1 m c1 A3 k c3) (0, 0) _ rfl h3.blk Try.underlying25 rfl (sc_inf _ _ _ _ _ _)) rfl ?_
        have O : Own wr w.heap.size A1 m c1 R A3 k c3 L1 := ⟨C.rr.down (by omega), C.rl.down (by omega), fun x hx => by
          obtain ⟨j, hj, rfl⟩ := List.getElem_of_mem hx
          have hk2 := HM2.out
          have := C.q j (by omega) (by omega)
          rw [show L1.getD j kw0 = L1[j] by simp [List.getD, hj]] at this
          exact this.down (by omega), fun i j hi hj => C.qd i j (by have := HM2.out; omega) (by have := HM2.out; omega)⟩
        exact ⟨A1, c1, A3, c3, L1, rfl, O.kind n3 C.k2 (by decide) (by decide) (by decide), C.mx.1, C.b.trans (n3.below _ (by omega) C.b.size)⟩
end Go.Proofs.Ytolalbpjaebfdaa
namespace Go.Proofs.Ytolalbpjaebfdaa
open Go.RowKit Go.Shelf
set_option linter.unusedVariables false
set_option linter.unusedSimpArgs false
structure Bx (B : Nat) (o : Option Nat) (w w' : World) : Prop where
  os : w'.os = w.os
  tape : w'.tape = w.tape
  output : w'.output = w.output
  size : w.heap.size ≤ w'.heap.size
  block : ∀ k, k < B → some k ≠ o → w'.heap[k]? = w.heap[k]?
theorem Bx.of {B : Nat} {o : Option Nat} {w w' : World} (h : Below B w w') : Bx B o w w' := ⟨h.os, h.tape, h.output, h.size, fun k hk _ => h.block k hk⟩
theorem Bx.below {B : Nat} {w w' : World} (h : Bx B none w w') : Below B w w' := ⟨h.os, h.tape, h.output, h.size, fun k hk => h.block k hk (by simp)⟩
theorem Bx.trans {B : Nat} {o : Option Nat} {a b c : World} (h : Bx B o a b) (k : Bx B o b c) : Bx B o a c := ⟨k.os.trans h.os, k.tape.trans h.tape, k.output.trans h.output, Nat.le_trans h.size k.size, fun i hi hn => (k.block i hi hn).trans (h.block i hi hn)⟩
theorem Bx.mono {B B' : Nat} {o : Option Nat} {a b : World} (h : Bx B o a b) (hB : B' ≤ B) : Bx B' o a b := ⟨h.os, h.tape, h.output, h.size, fun i hi hn => h.block i (Nat.lt_of_lt_of_le hi hB) hn⟩
theorem Bx.blk {B g : Nat} {o : Option Nat} {a b : World} {cs : Array Value} {t : TypeId} (h : Bx B o a b) (k : Blk a g cs t) (hg : g < B) (hn : some g ≠ o) : Blk b g cs t := ⟨(h.block g hg hn).trans k.blk⟩
def Ob (V : World) (o : Option Nat) (b : Bool) : Prop := ∀ g, o = some g → Blk V g #[.bool b] 4
theorem Ob.below {V V' : World} {o : Option Nat} {b : Bool} {B : Nat} (h : Ob V o b) (hb : Below B V V') (ho : ∀ g, o = some g → g < B) : Ob V' o b := fun g e => (h g e).below hb (ho g e)
structure Fro (B : Nat) (A A2 : Option Addr) (L : List Kw) : Prop where
  a : ∀ a, A = some a → B ≤ a.block
  a2 : ∀ a, A2 = some a → B ≤ a.block
  q : ∀ x ∈ L, ∀ a, x.2.1 = some a → B ≤ a.block
theorem range_but {w w' : World} {g b o : Nat} {cs : List Value} (n : But g w w') (h : w.rangeAt b o cs) (hne : b ≠ g) : w'.rangeAt b o cs := fun j v hv => cell_but n (h j v hv) hne
theorem Sc.off {w w' : World} {B B' g m c m2 c2 : Nat} {A A2 : Option Addr} {R : List Rn} {L : List Kw} (h : Sc w B' A m c R A2 m2 c2 L) (f : Fro B A A2 L) (n : But g w w') (hg : g < B) : Sc w' B' A m c R A2 m2 c2 L :=
  ⟨fun k hk => by
    obtain ⟨b, off, e, h1, h2⟩ := h.rs k hk
    have := f.a _ e
    exact ⟨b, off, e, h1, range_but n h2 (by simp only at this; omega)⟩, fun k hk => by
    obtain ⟨b, off, e, h1, h2⟩ := h.ks k hk
    have := f.a2 _ e
    exact ⟨b, off, e, h1, range_but n h2 (by simp only at this; omega)⟩, fun x hx => ⟨fun k hk => by
      obtain ⟨b, off, e, h1, h2⟩ := (h.q x hx).ri k hk
      have := f.q x hx _ e
      exact ⟨b, off, e, h1, cell_but n h2 (by simp only at this; omega)⟩, (h.q x hx).le, (h.q x hx).l⟩, h.len, h.len2, h.lim, h.lim2⟩
def ChO (V' : World) (B g : Nat) (r : List Rn × List Kn × Int) : Prop := ∃ A3 m3 c3 A4 m4 c4 L3, Blk V' g (scC A3 m3 c3 A4 m4 c4) 25 ∧ Sc V' V'.heap.size A3 m3 c3 r.1 A4 m4 c4 L3 ∧ L3.map (·.1) = r.2.1 ∧ Fro B A3 A4 L3
abbrev Chg (N : Nat) (cf : Nat) (cb : Array Value) (S : World → Prop) (o : Option Nat) (b0 b1 : Bool) (R : List Rn) (K : List Kn) (r : List Rn × List Kn × Int) : Prop :=
  ∀ (V : World) (B g : Nat) (A1 : Option Addr) (m1 c1 : Nat) (A2 : Option Addr) (m2 c2 : Nat) (L : List Kw), S V → Ob V o b0 → (∀ k, o = some k → k < B) → L.map (·.1) = K → Own V B A1 m1 c1 R A2 m2 c2 L → Blk V g (scC A1 m1 c1 A2 m2 c2) 25 → B ≤ g → N ≤ B →
    Calls Try.prog cf (#[.pointer (some ⟨g, 0, none⟩)] ++ cb) V fun e V' => e = .returned (.int .i64 r.2.2) ∧ Bx B o V V' ∧ Ob V' o b1 ∧ (r.2.2 = 0 → ChO V' B g r)
def chgS (R : List Rn) (L : List Kw) (r : List Rn × List Kn × Int) : List Rn × List Kn × Int := if scE R L = 0 then (if r.2.2 = 0 then r else ([], [], r.2.2)) else ([], [], scE R L)
def ScR (w : World) (B : Nat) (v : Value) (R : List Rn) (K : List Kn) : Prop := ∃ A m c A2 m2 c2 L, v = scV A m c A2 m2 c2 ∧ Sc w w.heap.size A m c R A2 m2 c2 L ∧ L.map (·.1) = K ∧ Fro B A A2 L
theorem fro_nil (B : Nat) : Fro B none none [] := ⟨(fun a e => by cases e), (fun a e => by cases e), (fun x hx => by cases hx)⟩
theorem scR_nil (w : World) (B : Nat) : ScR w B (scV none 0 0 none 0 0) [] [] := ⟨none, 0, 0, none, 0, 0, [], rfl, sc_nil _ _ _ _ _ _, rfl, fro_nil B⟩
theorem Fro.down {B B' : Nat} {A A2 : Option Addr} {L : List Kw} (h : Fro B A A2 L) (hb : B' ≤ B) : Fro B' A A2 L := ⟨fun a e => Nat.le_trans hb (h.a a e), fun a e => Nat.le_trans hb (h.a2 a e), fun x hx a e => Nat.le_trans hb (h.q x hx a e)⟩
theorem Sc.off' {w w' : World} {B g m c m2 c2 : Nat} {A A2 : Option Addr} {R : List Rn} {L : List Kw} (h : Sc w w.heap.size A m c R A2 m2 c2 L) (f : Fro B A A2 L) (n : But g w w') (hg : g < B) : Sc w' w'.heap.size A m c R A2 m2 c2 L := (h.off f n hg).more n.size
set_option maxRecDepth 100000 in
set_option maxHeartbeats 8000000 in
theorem changed_sc (N : Nat) (cf : Nat) (cb : Array Value) (S : World → Prop) (o : Option Nat) (b0 b1 : Bool) (A : Option Addr) (m c : Nat) (R : List Rn) (A2 : Option Addr) (m2 c2 : Nat) (L : List Kw) (r : List Rn × List Kn × Int) (w : World)
    (ec : ∀ args w, (callFunc cf args).run Try.prog w = .ok (.enter cf args) w) (h : Sc w w.heap.size A m c R A2 m2 c2 L) (ho : ∀ k, o = some k → k < w.heap.size) (hob : Ob w o b0)
    (hN : N ≤ w.heap.size) (hS : ∀ V, Below w.heap.size w V → S V) (hc : scE R L = 0 → Chg N cf cb S o b0 b1 R (L.map (·.1)) r) :
    Calls Try.prog 34 #[scV A m c A2 m2 c2, .func (.func cf) #[] cb] w fun e w' => ∃ v, e = .returned (.tuple #[v, .int .i64 (chgS R L r).2.2]) ∧ ScR w' w.heap.size v (chgS R L r).1 (chgS R L r).2.1 ∧ Bx w.heap.size o w w' ∧ Ob w' o (if scE R L = 0 then b1 else b0) := by
  have k1 := (Blk.new w (scC A m c A2 m2 c2) 25).alloc (.cells #[.slice none 0 0, .slice none 0 0] 25)
  have k2 : Blk ((w.alloc (.cells (scC A m c A2 m2 c2) 25)).alloc (.cells #[.slice none 0 0, .slice none 0 0] 25)) (w.heap.size + 1) (scC none 0 0 none 0 0) 25 := Blk.new_ _ _ _ (by simp)
  have B0 := ((Below.refl w.heap.size w).alloc (Nat.le_refl _) (.cells (scC A m c A2 m2 c2) 25)).alloc (by simp) (.cells #[.slice none 0 0, .slice none 0 0] 25)
  have CK := Lib.hid (check_sc A m c R A2 m2 c2 L _ (h.on B0))
  have CC := Lib.hid (fun (V : World) (hV : Below w.heap.size w V) => copied_sc A m c R A2 m2 c2 L V (h.on hV))
  have HC := Lib.hid hc
  have HO := Lib.hid ho
  have HOB := Lib.hid hob
  have HS := Lib.hid hS
  clear hc h ho hob hS
  unfold chgS
  generalize scE R L = ck at CK HC ⊢
  unfold scV at *
  by_cases h0 : ck = 0
  · subst h0
    rw [if_pos rfl, if_pos rfl]
    have HC2 := Lib.hid (HC.out rfl)
    clear HC
    generalize hG : (if r.2.2 = 0 then r else ([], [], r.2.2)) = G
    have HG := Lib.hid hG
    clear hG
    go_enter Try.func34, Try.ntmps34
    go_wp2_with (first
      | (refine wpList_load_row rfl 25 (.tmp 2) rfl w.heap.size rfl 25 (scC A m c A2 m2 c2) (0, 0) _ k1.blk Try.underlying25 rfl (sc_inf A m c A2 m2 c2) ?_)
      | (refine CK.out.mono ?_
         clear CK
         rintro e w1 ⟨rfl, bb⟩
         have k11 := k1.below bb k1.lt
         have k21 := k2.below bb k2.lt
         have B1 := B0.trans (bb.mono B0.size)
         clear bb k1 k2 B0)
      | (refine wpList_load_row rfl 25 (.tmp 2) rfl w.heap.size rfl 25 (scC A m c A2 m2 c2) (0, 0) _ k11.blk Try.underlying25 rfl (sc_inf A m c A2 m2 c2) ?_)
      | (refine (CC.out _ B1).mono ?_
         clear CC
         rintro e w2 ⟨A1, c1, A3, c3, L1, rfl, own, hnm, bb⟩
         have k22 := k21.below bb k21.lt
         have B2 := B1.trans (bb.mono B1.size)
         have hs1 : w.heap.size + 1 < w1.heap.size := k21.lt
         have hs2 : w1.heap.size ≤ w2.heap.size := bb.size
         clear bb k11 k21 B1)
      | (refine wpList_store_blk rfl 25 (.tmp 7) (.tmp 16) rfl w2.heap.size (scC none 0 0 none 0 0) (scC A1 m c1 A3 m2 c3) 25 rfl rfl (Blk.new _ _ _) rfl (sc_inf _ _ _ _ _ _) (sc_one _ _ _ _ _ _) ?_
         intro w3 k7 n7
         have bb : Below w2.heap.size w2 w3 := ((Below.refl _ w2).alloc (Nat.le_refl _) _).trans (n7.below _ (Nat.le_refl _) (by simp))
         have k23 := k22.below bb k22.lt
         have B3 := B2.trans (bb.mono B2.size)
         have own3 := own.below bb (Nat.le_refl _)
         have CF := HC2.out w3 w1.heap.size w2.heap.size A1 m c1 A3 m2 c3 L1 (HS.out _ B3) (HOB.out.below B3 HO.out) (fun k e => Nat.lt_trans (HO.out k e) (by omega)) hnm own3 k7 hs2 (by omega)
         clear bb k22 B2 own n7))
    refine CF.mono ?_
    clear CF HC2 own3
    rintro e w4 ⟨rfl, bx, ob, hr⟩
    have k24 : Blk w4 (w.heap.size + 1) (scC none 0 0 none 0 0) 25 := bx.blk k23 hs1 (fun e => by have := HO.out _ e.symm; omega)
    have B4 : Bx w.heap.size o w w4 := (Bx.of B3).trans (bx.mono (by omega))
    clear bx k23 B3 k7
    obtain ⟨R', K', er⟩ := r
    simp only at hr ⊢
    by_cases he : er = 0
    · subst he
      obtain rfl : (R', K', (0 : Int)) = G := HG.out
      obtain ⟨A5, m5, c5, A6, m6, c6, L5, k75, sc5, hn5, fr5⟩ := hr rfl
      clear hr
      go_wp2_with (first
        | (refine wpList_load_row rfl 25 (.tmp 7) rfl w2.heap.size rfl 25 (scC A5 m5 c5 A6 m6 c6) (0, 0) _ k75.blk Try.underlying25 rfl (sc_inf _ _ _ _ _ _) ?_)
        | (refine wpList_store_blk rfl 25 (.tmp 4) (.tmp 23) rfl (w.heap.size + 1) (scC none 0 0 none 0 0) (scC A5 m5 c5 A6 m6 c6) 25 rfl rfl k24 rfl (sc_inf _ _ _ _ _ _) (sc_one _ _ _ _ _ _) ?_
           intro w5 h5 n5))
      refine bodyPost_ret (results_row_tmp rfl _ _ (w.heap.size + 1) 25 (scC A5 m5 c5 A6 m6 c6) (0, 0) _ rfl h5.blk Try.underlying25 rfl (sc_inf _ _ _ _ _ _) _ rfl) rfl ?_
      have sc6 : Sc w5 w5.heap.size A5 m5 c5 R' A6 m6 c6 L5 := (sc5.off fr5 n5 hs1).more n5.size
      exact ⟨_, rfl, ⟨A5, m5, c5, A6, m6, c6, L5, rfl, sc6, hn5, fr5.down (by omega)⟩, B4.trans (Bx.of (n5.below _ (by omega) B4.size)), fun g e => n5.blk7 (ob g e) (by have := HO.out g e; omega)⟩
    · have hne : (er != 0) = true := by simpa using he
      obtain rfl : (([] : List Rn), ([] : List Kn), er) = G := by have := HG.out; simpa [he] using this
      clear he hr
      go_wp2_with (first
        | (refine wpList_store_blk rfl 25 (.tmp 4) (.tmp 21) rfl (w.heap.size + 1) (scC none 0 0 none 0 0) (scC none 0 0 none 0 0) 25 rfl rfl k24 rfl (sc_inf _ _ _ _ _ _) (sc_one _ _ _ _ _ _) ?_
           intro w5 h5 n5))
      refine bodyPost_ret (results_row_tmp rfl _ _ (w.heap.size + 1) 25 (scC none 0 0 none 0 0) (0, 0) _ rfl h5.blk Try.underlying25 rfl (sc_inf _ _ _ _ _ _) _ rfl) rfl ?_
      exact ⟨_, rfl, scR_nil _ _, B4.trans (Bx.of (n5.below _ (by omega) B4.size)), fun g e => n5.blk7 (ob g e) (by have := HO.out g e; omega)⟩
  · have hne : (ck != 0) = true := by simpa using h0
    rw [if_neg h0, if_neg h0]
    clear h0 HC
    go_enter Try.func34, Try.ntmps34
    go_wp2_with (first
      | (refine wpList_load_row rfl 25 (.tmp 2) rfl w.heap.size rfl 25 (scC A m c A2 m2 c2) (0, 0) _ k1.blk Try.underlying25 rfl (sc_inf A m c A2 m2 c2) ?_)
      | (refine CK.out.mono ?_
         clear CK
         rintro e w1 ⟨rfl, bb⟩
         have k21 := k2.below bb k2.lt
         have B1 := B0.trans (bb.mono B0.size)
         clear bb k1 k2 B0)
      | (refine wpList_store_blk rfl 25 (.tmp 4) (.tmp 13) rfl (w.heap.size + 1) (scC none 0 0 none 0 0) (scC none 0 0 none 0 0) 25 rfl rfl k21 rfl (sc_inf _ _ _ _ _ _) (sc_one _ _ _ _ _ _) ?_
         intro w5 h5 n5))
    refine bodyPost_ret (results_row_tmp rfl _ _ (w.heap.size + 1) 25 (scC none 0 0 none 0 0) (0, 0) _ rfl h5.blk Try.underlying25 rfl (sc_inf _ _ _ _ _ _) _ rfl) rfl ?_
    have B5 := B1.trans (n5.below _ (by omega) B1.size)
    exact ⟨_, rfl, scR_nil _ _, Bx.of B5, HOB.out.below B5 HO.out⟩
end Go.Proofs.Ytolalbpjaebfdaa
namespace Go.Proofs.Ytolalbpjaebfdaa
set_option linter.unusedVariables false
set_option linter.unusedSimpArgs false
theorem shift_cells {cur F X : List Value} {a n t : Nat} (hF : F.length = n) (hc : cur.take n = F) (ht : X.length = t) (ha : a ≤ n) (hl : n + t ≤ cur.length) :
    let c1 := cur.take (a + t) ++ F.drop a ++ cur.drop (a + t + (F.drop a).length)
    (c1.take a ++ X ++ c1.drop (a + X.length)).take (n + t) = F.take a ++ X ++ F.drop a ∧ (c1.take a ++ X ++ c1.drop (a + X.length)).length = cur.length := by
  intro c1
  have hl1 : (F.drop a).length = n - a := by rw [List.length_drop, hF]
  have e0 : c1.length = cur.length := by
    simp only [c1, List.length_append, List.length_take, List.length_drop, hF]; omega
  have e1 : c1.take a = F.take a := by
    simp only [c1]
    rw [List.append_assoc, List.take_append_of_le_length (by rw [List.length_take]; omega), List.take_take, ← hc, List.take_take]
    congr 1; omega
  have e2 : c1.drop (a + X.length) = F.drop a ++ cur.drop (a + t + (F.drop a).length) := by
    simp only [c1]
    rw [List.append_assoc, ht, List.drop_append_of_le_length (by rw [List.length_take]; omega), List.drop_of_length_le (by rw [List.length_take]; omega), List.nil_append]
  refine ⟨?_, ?_⟩
  · rw [e1, e2, ← List.append_assoc, List.take_append_of_le_length (by simp only [List.length_append, List.length_take, hl1, hF, ht]; omega), List.take_of_length_le (by simp only [List.length_append, List.length_take, hl1, hF, ht]; omega)]
  · simp only [List.length_append, List.length_take, List.length_drop, e0, ht]; omega
theorem grow_cells {F X Z : List Value} {a n t : Nat} (hF : F.length = n) (ht : X.length = t) (ha : a ≤ n) (hl : n + t ≤ a + Z.length) :
    let c0 := F.take a ++ Z
    let c1 := c0.take a ++ X ++ c0.drop (a + X.length)
    (c1.take (a + t) ++ F.drop a ++ c1.drop (a + t + (F.drop a).length)).take (n + t) = F.take a ++ X ++ F.drop a ∧ (c1.take (a + t) ++ F.drop a ++ c1.drop (a + t + (F.drop a).length)).length = a + Z.length := by
  intro c0 c1
  have hl1 : (F.drop a).length = n - a := by rw [List.length_drop, hF]
  have hl2 : (F.take a).length = a := by rw [List.length_take, hF]; omega
  have e0 : c0.length = a + Z.length := by simp only [c0, List.length_append, hl2]
  have e1 : c0.take a = F.take a := by
    simp only [c0]
    rw [List.take_append_of_le_length (by omega), List.take_of_length_le (by omega)]
  have e3 : c1.length = a + Z.length := by simp only [c1, List.length_append, List.length_take, List.length_drop, e0, ht]; omega
  have e2 : c1.take (a + t) = F.take a ++ X := by
    simp only [c1, e1]
    rw [List.take_append_of_le_length (by rw [List.length_append, hl2, ht]; omega), List.take_of_length_le (by rw [List.length_append, hl2, ht]; omega)]
  refine ⟨?_, ?_⟩
  · rw [e2, List.take_append_of_le_length (by simp only [List.length_append, hl1, hl2, ht]; omega), List.take_of_length_le (by simp only [List.length_append, hl1, hl2, ht]; omega)]
  · simp only [List.length_append, List.length_take, List.length_drop, e3, hl1]; omega
def insL {α : Type} (k : Nat) (x : α) (L : List α) : List α := L.take k ++ x :: L.drop k
theorem insL_len {α : Type} {k : Nat} {x : α} {L : List α} : (insL k x L).length = L.length + 1 := by
  unfold insL
  rw [List.length_append, List.length_cons, List.length_take, List.length_drop]; omega
theorem insL_mem {α : Type} {k : Nat} {x y : α} {L : List α} (h : y ∈ insL k x L) : y = x ∨ y ∈ L := by
  unfold insL at h
  rcases List.mem_append.1 h with h | h
  · exact .inr (List.mem_of_mem_take h)
  · rcases List.mem_cons.1 h with h | h
    · exact .inl h
    · exact .inr (List.mem_of_mem_drop h)
theorem insL_end {α : Type} {x : α} {L : List α} : insL L.length x L = L ++ [x] := by simp [insL]
end Go.Proofs.Ytolalbpjaebfdaa

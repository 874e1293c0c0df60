/-
  Who waits for a lock, as the law keeps it: a map of queues beside a schedule.
-/
import Derived.Test.YtolalbpjaebfdaaQScTv
import Derived.Test.YtolalbpjaebfdaaQScRs
import Derived.Test.YtolalbpjaebfdaaQQr
namespace Go.Proofs.Ytolalbpjaebfdaa
open Go.RowKit Go.Shelf
open Go.Maps (Keyed)
set_option linter.unusedVariables false
set_option linter.unusedSimpArgs false
abbrev zNil : Value := .slice none 0 0
theorem keyI : Keyed Try.prog 3 := Maps.int_keyed Try.underlying3
theorem zeroRow (w : World) : (zeroValue 40).run Try.prog w = .ok zNil w := by kernel_rfl
theorem wf5 {j : Int} (h1 : 1 ≤ j) (h2 : j ≤ 5) : (Lit.int .i64 j).wf = true := WalkArith.wf_i64 ⟨by omega, by omega⟩
theorem gb_below {w w' : World} (h : Below w.heap.size w w') : w.grownBy w' none := ⟨h.os, h.tape, h.output, h.size, fun k hk _ => h.block k hk⟩
theorem gb_but {w w' : World} {g : Nat} (h : But g w w') : w.grownBy w' (some g) := ⟨h.os, h.tape, h.output, h.size, fun k hk hn => h.block k hk (fun e => hn (by rw [e]))⟩
theorem but_gb {w w' : World} {g : Nat} (h : w.grownBy w' (some g)) : But g w w' := ⟨h.os, h.tape, h.output, h.size, fun k hk hn => h.block k hk (fun e => hn (Option.some.inj e))⟩
theorem below_gb {w w' : World} (h : w.grownBy w' none) : Below w.heap.size w w' := ⟨h.os, h.tape, h.output, h.size, fun k hk => h.block k hk (by simp)⟩
theorem Below.gb {B : Nat} {w V V' : World} {row : Option Nat} (h : Below B w V) (hg : V.grownBy V' row) (hB : B ≤ V.heap.size) (hr : ∀ g, row = some g → B ≤ g) : Below B w V' := h.grown hg hB hr
section
variable {w V V' V7 V8 : World} {B b5 bm n n' r cnt : Nat} {f : Int → Value} {Q Q' : Int → List Int} {X X' : Array Value} {row : Option Nat} {left : Int → Bool}
structure Rw (V : World) (B : Nat) (f : Int → Value) (Q : Int → List Int) : Prop where
  rows : ∀ j, 1 ≤ j → j ≤ 5 → ∃ A m c, f j = .slice A m c ∧ Qr V B A m c (Q j)
  ap : ∀ i j, 1 ≤ i → i ≤ 5 → 1 ≤ j → j ≤ 5 → i ≠ j → ∀ A m c A' m' c', f i = .slice A m c → f j = .slice A' m' c' → ∀ a a', A = some a → A' = some a' → a.block ≠ a'.block
  out : ∀ j, (j < 1 ∨ 5 < j) → f j = zNil
theorem Rw.congr (h : Rw V B f Q) (e : ∀ j, 1 ≤ j → j ≤ 5 → Q j = Q' j) : Rw V B f Q' := ⟨fun j h1 h2 => by rw [← e j h1 h2]; exact h.rows j h1 h2, h.ap, h.out⟩
theorem Rw.shape (h : Rw V B f Q) (j : Int) : ∃ A m c, f j = .slice A m c := by
  by_cases hj : j < 1 ∨ 5 < j
  · exact ⟨_, _, _, h.out j hj⟩
  · obtain ⟨A, m, c, e, _⟩ := h.rows j (by omega) (by omega)
    exact ⟨A, m, c, e⟩
theorem Rw.grown (h : Rw V B f Q) (hg : V.grownBy V' row) (hr : ∀ g, row = some g → ∀ cur, V.heap[g]? ≠ some (.cells cur 3 (0, 0))) : Rw V' B f Q := ⟨fun j h1 h2 => by
  obtain ⟨A, m, c, e, q⟩ := h.rows j h1 h2
  refine ⟨A, m, c, e, q.blk fun a ea => hg.block _ (q.lt ea).2 fun e9 => ?_⟩
  obtain ⟨cur, hc⟩ := q.kind ea
  exact hr _ e9.symm cur hc, h.ap, h.out⟩
theorem Rw.step (h : Rw V B f Q) {i : Int} (h1 : 1 ≤ i) (h5 : i ≤ 5) {A A' : Option Addr} {m c m' c' : Nat} {l' : List Int} (hf : f i = .slice A m c) (hg : V.grownBy V' (A.map (·.block))) (hq : Qr V' B A' m' c' l')
    (hl : A'.map (·.block) = A.map (·.block) ∨ ∃ g, A'.map (·.block) = some g ∧ V.heap.size ≤ g) : Rw V' B (fun j => if j = i then .slice A' m' c' else f j) (fun j => if j = i then l' else Q j) := by
  have other : ∀ j, 1 ≤ j → j ≤ 5 → j ≠ i → ∀ A2 m2 c2, f j = .slice A2 m2 c2 → ∀ a2, A2 = some a2 → (A.map (·.block)) ≠ some a2.block := fun j j1 j5 hne A2 m2 c2 e a2 ea e9 => by
    cases eA : A with
    | none => rw [eA] at e9; cases e9
    | some a =>
      rw [eA] at e9
      have e9 : some a.block = some a2.block := e9
      exact h.ap i j h1 h5 j1 j5 (fun e => hne e.symm) A m c A2 m2 c2 hf e a a2 eA ea (Option.some.inj e9)
  have newne : ∀ j, 1 ≤ j → j ≤ 5 → j ≠ i → ∀ A2 m2 c2, f j = .slice A2 m2 c2 → ∀ a' a2, A' = some a' → A2 = some a2 → a'.block ≠ a2.block := fun j j1 j5 hne A2 m2 c2 e a' a2 ea' ea e9 => by
    obtain ⟨A3, m3, c3, e3, q3⟩ := h.rows j j1 j5
    rw [e3] at e
    injection e with e31 e32 e33
    subst e31
    have hlt := (q3.lt ea).2
    rw [ea'] at hl
    rcases hl with hl | ⟨g, hl, hge⟩
    · have hl : some a'.block = A.map (·.block) := hl
      exact other j j1 j5 hne _ _ _ e3 a2 ea (by rw [← hl, e9])
    · have hl : some a'.block = some g := hl
      have := Option.some.inj hl
      omega
  refine ⟨fun j j1 j5 => ?_, fun p q p1 p5 q1 q5 hpq A1 m1 c1 A2 m2 c2 e1 e2 a1 a2 ea1 ea2 => ?_, fun j hj => ?_⟩
  · by_cases e : j = i
    · rw [if_pos e, if_pos e]
      exact ⟨_, _, _, rfl, hq⟩
    · rw [if_neg e, if_neg e]
      obtain ⟨A2, m2, c2, e2, q2⟩ := h.rows j j1 j5
      exact ⟨A2, m2, c2, e2, q2.blk fun a ea => hg.block _ (q2.lt ea).2 (fun e9 => other j j1 j5 e _ _ _ e2 a ea e9.symm)⟩
  · by_cases ep : p = i
    · rw [if_pos ep] at e1
      injection e1 with e11 _ _
      have hqi : q ≠ i := fun e => hpq (ep.trans e.symm)
      rw [if_neg hqi] at e2
      exact newne q q1 q5 hqi A2 m2 c2 e2 a1 a2 (e11.trans ea1) ea2
    · rw [if_neg ep] at e1
      by_cases eq : q = i
      · rw [if_pos eq] at e2
        injection e2 with e21 _ _
        exact fun e9 => newne p p1 p5 ep A1 m1 c1 e1 a2 a1 (e21.trans ea2) ea1 e9.symm
      · rw [if_neg eq] at e2
        exact h.ap p q p1 p5 q1 q5 hpq A1 m1 c1 A2 m2 c2 e1 e2 a1 a2 ea1 ea2
  · rw [if_neg (by omega)]
    exact h.out j hj
theorem QM.cells (h : QM V Try.prog 3 bm n zNil f) {g : Nat} {cur : Array Value} {t : TypeId} {fr : Nat × Nat} (hg : V.heap[g]? = some (.cells cur t fr)) : g ≠ bm := by
  obtain ⟨es, clock, hb, _⟩ := h
  intro e
  rw [e, hb] at hg
  cases hg
theorem QR.cells (h : QR V Try.prog 3 bm r n zNil f left cnt) {g : Nat} {cur : Array Value} {t : TypeId} {fr : Nat × Nat} (hg : V.heap[g]? = some (.cells cur t fr)) : g ≠ r := by
  obtain ⟨es, clock, since, seen, c0, hb, _, _, _, _, hr, _⟩ := h
  intro e
  rw [e, hr] at hg
  cases hg
structure Md (w V : World) (b5 bm n : Nat) (X : Array Value) (f : Int → Value) (Q : Int → List Int) : Prop where
  q : QM V Try.prog 3 bm n zNil f
  r : Rw V w.heap.size f Q
  k : Blk V b5 X 25
  b : Below w.heap.size w V
  hb : w.heap.size ≤ b5
  hm : w.heap.size ≤ bm
theorem Md.nn (h : Md w V b5 bm n X f Q) (hg : V.grownBy V' none) : Md w V' b5 bm n X f Q :=
  ⟨h.q.blk (hg.block _ h.q.lt (by simp)), h.r.grown hg (fun g e => by cases e), h.k.below (below_gb hg) h.k.lt, h.b.grown hg h.b.size (fun g e => by cases e), h.hb, h.hm⟩
theorem Md.keep (h : Md w V b5 bm n X f Q) (b : Below V.heap.size V V') : Md w V' b5 bm n X f Q := h.nn (gb_below b)
theorem Md.sched (h : Md w V b5 bm n X f Q) (nn : But b5 V V') (k' : Blk V' b5 X' 25) : Md w V' b5 bm n X' f Q :=
  ⟨h.q.blk (nn.block _ h.q.lt (fun e => h.q.cells h.k.blk e.symm)), h.r.grown (gb_but nn) (fun g e cur hc => by
    cases e
    have h9 := h.k.blk
    rw [hc] at h9
    cases h9), k', h.b.grown (gb_but nn) h.b.size (fun g e => by cases e; exact h.hb), h.hb, h.hm⟩
theorem Md.mapAt (h : Md w V b5 bm n X f Q) {i : Int} (h1 : 1 ≤ i) (h5 : i ≤ 5) {A : Option Addr} {m c : Nat} (hf : f i = .slice A m c) (hg : V.grownBy V7 (A.map (·.block))) : QM V7 Try.prog 3 bm n zNil f := by
  refine h.q.blk (hg.block _ h.q.lt fun e => ?_)
  obtain ⟨A2, m2, c2, e2, q2⟩ := h.r.rows i h1 h5
  rw [hf] at e2
  injection e2 with e21 _ _
  subst e21
  cases eA : A with
  | none => rw [eA] at e; cases e
  | some a =>
    rw [eA] at e
    have e : some bm = some a.block := e
    obtain ⟨cur, hc⟩ := q2.kind eA
    exact h.q.cells hc (Option.some.inj e).symm
theorem Md.stored (h : Md w V b5 bm n X f Q) {i : Int} (h1 : 1 ≤ i) (h5 : i ≤ 5) {A A' : Option Addr} {m c m' c' : Nat} {l' : List Int} (hf : f i = .slice A m c) (hg : V.grownBy V7 (A.map (·.block))) (hq : Qr V7 w.heap.size A' m' c' l')
    (hl : A'.map (·.block) = A.map (·.block) ∨ ∃ g, A'.map (·.block) = some g ∧ V.heap.size ≤ g) (q8 : QM V8 Try.prog 3 bm n' zNil (fun j => if j = i then .slice A' m' c' else f j)) (g8 : V7.grownBy V8 (some bm)) :
    Md w V8 b5 bm n' X (fun j => if j = i then .slice A' m' c' else f j) (fun j => if j = i then l' else Q j) := by
  have hq7 := h.mapAt h1 h5 hf hg
  obtain ⟨A2, m2, c2, e2, q2⟩ := h.r.rows i h1 h5
  rw [hf] at e2
  injection e2 with e21 _ _
  subst e21
  have hk7 : Blk V7 b5 X 25 := ⟨(hg.block _ h.k.lt fun e => by
    cases eA : A with
    | none => rw [eA] at e; cases e
    | some a =>
      rw [eA] at e
      have e : some b5 = some a.block := e
      obtain ⟨cur, hc⟩ := q2.kind eA
      have h9 := h.k.blk
      rw [Option.some.inj e, hc] at h9
      cases h9).trans h.k.blk⟩
  have hA : ∀ g, A.map (·.block) = some g → w.heap.size ≤ g := fun g e => by
    cases eA : A with
    | none => rw [eA] at e; cases e
    | some a =>
      rw [eA] at e
      have e : some a.block = some g := e
      rw [← Option.some.inj e]
      exact (q2.lt eA).1
  have hb7 := h.b.grown hg h.b.size hA
  exact ⟨q8, (h.r.step h1 h5 hf hg hq hl).grown g8 (fun g e cur hc => by cases e; exact hq7.cells hc rfl), ⟨(g8.block _ hk7.lt fun e => hq7.cells hk7.blk (Option.some.inj e)).trans hk7.blk⟩, hb7.grown g8 hb7.size (fun g e => by cases e; exact h.hm), h.hb, h.hm⟩
theorem Md.box (h : Md w V b5 bm n X f Q) {i : Int} (h1 : 1 ≤ i) (h5 : i ≤ 5) {A : Option Addr} {m c : Nat} (hf : f i = .slice A m c) (hg : V.grownBy V7 (A.map (·.block))) (g8 : V7.grownBy V8 (some bm)) {g : Nat} {cs : Array Value} (k : Blk V g cs 25) : Blk V8 g cs 25 := by
  have hq7 := h.mapAt h1 h5 hf hg
  obtain ⟨A2, m2, c2, e2, q2⟩ := h.r.rows i h1 h5
  rw [hf] at e2
  injection e2 with e21 _ _
  subst e21
  have hk7 : Blk V7 g cs 25 := ⟨(hg.block _ k.lt fun e => by
    cases eA : A with
    | none => rw [eA] at e; cases e
    | some a =>
      rw [eA] at e
      have e : some g = some a.block := e
      obtain ⟨cur, hc⟩ := q2.kind eA
      have h9 := k.blk
      rw [Option.some.inj e, hc] at h9
      cases h9).trans k.blk⟩
  exact ⟨(g8.block _ hk7.lt fun e => hq7.cells hk7.blk (Option.some.inj e)).trans hk7.blk⟩
structure Mr (w V : World) (b5 bm r n : Nat) (X : Array Value) (f : Int → Value) (left : Int → Bool) (cnt : Nat) (Q : Int → List Int) : Prop where
  q : QR V Try.prog 3 bm r n zNil f left cnt
  md : Md w V b5 bm n X f Q
  hr : w.heap.size ≤ r
theorem Mr.keep (h : Mr w V b5 bm r n X f left cnt Q) (b : Below V.heap.size V V') : Mr w V' b5 bm r n X f left cnt Q := ⟨h.q.blk (b.block _ h.md.q.lt) (b.block _ h.q.lt), h.md.keep b, h.hr⟩
theorem Md.ranged (h : Md w V b5 bm n X f Q) (q : QR V' Try.prog 3 bm V.heap.size n zNil f left cnt) (hg : V.grownBy V' none) : Mr w V' b5 bm V.heap.size n X f left cnt Q := ⟨q, h.nn hg, h.b.size⟩
theorem Mr.next {left' : Int → Bool} {cnt' : Nat} (h : Mr w V b5 bm r n X f left cnt Q) (q : QR V' Try.prog 3 bm r n zNil f left' cnt') (hg : V.grownBy V' (some r)) : Mr w V' b5 bm r n X f left' cnt' Q :=
  ⟨q, ⟨q.map, h.md.r.grown hg (fun g e cur hc => by cases e; exact h.q.cells hc rfl), ⟨(hg.block _ h.md.k.lt fun e => h.q.cells h.md.k.blk (Option.some.inj e)).trans h.md.k.blk⟩, h.md.b.grown hg h.md.b.size (fun g e => by cases e; exact h.hr), h.md.hb, h.md.hm⟩, h.hr⟩
theorem Mr.stored (h : Mr w V b5 bm r n X f left cnt Q) {i : Int} (h1 : 1 ≤ i) (h5 : i ≤ 5) {A A' : Option Addr} {m c m' c' : Nat} {l' : List Int} (hf : f i = .slice A m c) (hq : Qr V w.heap.size A' m' c' l') (hl : A'.map (·.block) = A.map (·.block))
    (q8 : QR V8 Try.prog 3 bm r n zNil (fun j => if j = i then .slice A' m' c' else f j) left cnt) (g8 : V.grownBy V8 (some bm)) : Mr w V8 b5 bm r n X (fun j => if j = i then .slice A' m' c' else f j) left cnt (fun j => if j = i then l' else Q j) :=
  ⟨q8, h.md.stored h1 h5 hf (World.grownBy.refl V _) hq (.inl hl) q8.map g8, h.hr⟩
structure Sd (V : World) (F : Nat) (A : Option Addr) (m c : Nat) (R : List Rn) (A2 : Option Addr) (m2 c2 : Nat) (L : List Kw) : Prop where
  sc : Sc V V.heap.size A m c R A2 m2 c2 L
  fr : Fro F A A2 L
theorem Sd.grown {F : Nat} {A : Option Addr} {m c : Nat} {R : List Rn} {A2 : Option Addr} {m2 c2 : Nat} {L : List Kw} (h : Sd V F A m c R A2 m2 c2 L) (hg : V.grownBy V' row) (hr : ∀ g, row = some g → g < F) : Sd V' F A m c R A2 m2 c2 L := by
  cases row with
  | none => exact ⟨h.sc.on (below_gb hg), h.fr⟩
  | some g => exact ⟨h.sc.off' h.fr (but_gb hg) (hr g rfl), h.fr⟩
theorem ne_of_cell {g b o : Nat} {v : Value} (h : V.cell? ⟨b, o, none⟩ = some v) (hg : ∀ cur t fr, V.heap[g]? ≠ some (.cells cur t fr)) : b ≠ g := fun e => by
  subst e
  cases hb : V.heap[b]? with
  | none => simp [World.cell?, hb] at h
  | some x =>
    cases x with
    | cells cur t fr => exact hg cur t fr hb
    | _ => simp [World.cell?, hb] at h
theorem Sc.ncell {B' g m c m2 c2 : Nat} {A A2 : Option Addr} {R : List Rn} {L : List Kw} (h : Sc V B' A m c R A2 m2 c2 L) (n : But g V V') (hg : ∀ cur t fr, V.heap[g]? ≠ some (.cells cur t fr)) : Sc V' B' A m c R A2 m2 c2 L :=
  ⟨fun k hk => by
    obtain ⟨b, off, e, h1, h2⟩ := h.rs k hk
    exact ⟨b, off, e, h1, range_but n h2 (ne_of_cell (h2 0 _ rfl) hg)⟩, fun k hk => by
    obtain ⟨b, off, e, h1, h2⟩ := h.ks k hk
    exact ⟨b, off, e, h1, range_but n h2 (ne_of_cell (h2 0 _ rfl) hg)⟩, fun x hx => ⟨fun k hk => by
      obtain ⟨b, off, e, h1, h2⟩ := (h.q x hx).ri k hk
      exact ⟨b, off, e, h1, cell_but n h2 (ne_of_cell h2 hg)⟩, (h.q x hx).le, (h.q x hx).l⟩, h.len, h.len2, h.lim, h.lim2⟩
theorem Sd.iter {F g : Nat} {A : Option Addr} {m c : Nat} {R : List Rn} {A2 : Option Addr} {m2 c2 : Nat} {L : List Kw} (h : Sd V F A m c R A2 m2 c2 L) (hg : V.grownBy V' (some g)) (hr : ∀ cur t fr, V.heap[g]? ≠ some (.cells cur t fr)) : Sd V' F A m c R A2 m2 c2 L :=
  ⟨(h.sc.ncell (but_gb hg) hr).more hg.size, h.fr⟩
structure Tn (w V : World) (b5 bm n : Nat) (A : Option Addr) (m c : Nat) (R : List Rn) (A2 : Option Addr) (m2 c2 : Nat) (L : List Kw) (f : Int → Value) (Q : Int → List Int) : Prop where
  md : Md w V b5 bm n (scC A m c A2 m2 c2) f Q
  sc : Sc V V.heap.size A m c R A2 m2 c2 L
  g : Good R (L.map (·.1))
  q : ∀ j, 1 ≤ j → j ≤ 5 → Q j = qN (L.map (·.1)) j
theorem Tn.keep {A : Option Addr} {m c : Nat} {R : List Rn} {A2 : Option Addr} {m2 c2 : Nat} {L : List Kw} (h : Tn w V b5 bm n A m c R A2 m2 c2 L f Q) (b : Below V.heap.size V V') : Tn w V' b5 bm n A m c R A2 m2 c2 L f Q := ⟨h.md.keep b, h.sc.on b, h.g, h.q⟩
theorem Tn.queue {A : Option Addr} {m c : Nat} {R : List Rn} {A2 : Option Addr} {m2 c2 : Nat} {L : List Kw} (h : Tn w V b5 bm n A m c R A2 m2 c2 L f Q) {j : Int} (h1 : 1 ≤ j) (h5 : j ≤ 5) : ∃ A3 m3 c3, f j = .slice A3 m3 c3 ∧ Qr V w.heap.size A3 m3 c3 (qN (L.map (·.1)) j) := by
  rw [← h.q j h1 h5]
  exact h.md.r.rows j h1 h5
theorem Md.queue (h : Md w V b5 bm n X f Q) {j : Int} (h1 : 1 ≤ j) (h5 : j ≤ 5) {A3 : Option Addr} {m3 c3 : Nat} (hf : f j = .slice A3 m3 c3) : Qr V w.heap.size A3 m3 c3 (Q j) := by
  obtain ⟨A, m, c, e, q⟩ := h.r.rows j h1 h5
  rw [hf] at e
  injection e with e1 e2 e3
  subst e1 e2 e3
  exact q
theorem Tn.cell0 {A : Option Addr} {m c : Nat} {R : List Rn} {A2 : Option Addr} {m2 c2 : Nat} {L : List Kw} (h : Tn w V b5 bm n A m c R A2 m2 c2 L f Q) {j : Int} (h1 : 1 ≤ j) (h5 : j ≤ 5) {g o m3 c3 : Nat} (hf : f j = .slice (some ⟨g, o, none⟩) m3 c3) {i : Int} {t : List Int} (hq : qN (L.map (·.1)) j = i :: t) : V.cell? ⟨g, o, none⟩ = some (.int .i64 i) := by
  have q := h.md.queue h1 h5 hf
  rw [h.q j h1 h5, hq] at q
  obtain ⟨g', o', e, hc⟩ := q.cell (j := 0) (by have := q.len; simp at this; omega)
  cases e
  exact hc
theorem Qr.blk_lt {A : Option Addr} {m c : Nat} {l : List Int} (h : Qr V B A m c l) : ∀ g, A.map (·.block) = some g → g < V.heap.size := fun g e => by
  cases eA : A with
  | none => rw [eA] at e; cases e
  | some a =>
    rw [eA] at e
    have e : some a.block = some g := e
    rw [← Option.some.inj e]
    exact (h.lt eA).2
def strike (id : Int) (l : List Int) : List Int := if l.head? = some id then l.tail else l
theorem strike_keep {q0 : Int → List Int} {id iq : Int} (h : ∀ j, 1 ≤ j → j ≤ 5 → Q j = if left j = true then q0 j else strike id (q0 j)) (hli : left iq = true) (hs : 1 ≤ iq → iq ≤ 5 → strike id (q0 iq) = q0 iq) : ∀ j, 1 ≤ j → j ≤ 5 → Q j = if (left j && j != iq) = true then q0 j else strike id (q0 j) := fun j h1 h5 => by
  rw [h j h1 h5]
  by_cases e : j = iq
  · subst e
    rw [if_pos hli, if_neg (by simp), hs h1 h5]
  · have : (j != iq) = true := by simpa using e
    rw [this, Bool.and_true]
theorem strike_new {q0 : Int → List Int} {id iq : Int} (h : ∀ j, 1 ≤ j → j ≤ 5 → Q j = if left j = true then q0 j else strike id (q0 j)) : ∀ j, 1 ≤ j → j ≤ 5 → (if j = iq then strike id (q0 iq) else Q j) = if (left j && j != iq) = true then q0 j else strike id (q0 j) := fun j h1 h5 => by
  by_cases e : j = iq
  · subst e
    rw [if_pos rfl, if_neg (by simp)]
  · have : (j != iq) = true := by simpa using e
    rw [if_neg e, this, Bool.and_true, h j h1 h5]
theorem Md.tn {A : Option Addr} {m c : Nat} {R : List Rn} {A2 : Option Addr} {m2 c2 : Nat} {L : List Kw} {F : Nat} (h : Md w V b5 bm n X f Q) (s : Sd V F A m c R A2 m2 c2 L) (hF : b5 < F) (nn : But b5 V V') (k' : Blk V' b5 (scC A m c A2 m2 c2) 25)
    (g : Good R (L.map (·.1))) (q : ∀ j, 1 ≤ j → j ≤ 5 → Q j = qN (L.map (·.1)) j) : Tn w V' b5 bm n A m c R A2 m2 c2 L f Q :=
  ⟨h.sched nn k', (s.grown (gb_but nn) (fun g e => by cases e; exact hF)).sc, g, q⟩
end
theorem wpList_appQ {w : World} {ops : Array Oper} {rest : List Oper} {o : Oper} {a : Act} {Q : Exit → Act → World → Prop} (hgd : o.guard = none) (s x : Operand)
    (ho : o.op = .call { callee := .builtin .append, args := #[s, x], argTypes := #[40, 40] })
    (B : Nat) (A : Option Addr) (m c : Nat) (l : List Int) (hs : a.eval s = .slice A m c) (hq : Qr w B A m c l) (b : Nat) (y : Int) (hx : a.eval x = .slice (some ⟨b, 0, none⟩) 1 1) (hy : w.cell? ⟨b, 0, none⟩ = some (.int .i64 y)) (hm : m ≤ 2000000) (hB : B ≤ w.heap.size)
    (h : ∀ A' c' w', Qr w' B A' (m + 1) c' (l ++ [y]) → w.grownBy w' (A.map (·.block)) → (A'.map (·.block) = A.map (·.block) ∨ ∃ g, A'.map (·.block) = some g ∧ w.heap.size ≤ g) → wpList Try.prog ops Q rest (a.put o.dst (.slice A' (m + 1) c')) w') :
    wpList Try.prog ops Q (o :: rest) a w := by
  refine wpList_plain hgd fun K hK => ?_
  obtain ⟨A', c', w', hrun, h3, h4, h5⟩ := run_appQ o.type hq y b hy hm hB
  unfold Oper.wp execOp
  simp only [ho, resolve, invoke, builtin, Sem.run_bind, Sem.run_pure, Result.andThen_ok, List.map_toArray, List.map_cons, List.map_nil, hs, hx, hrun]
  exact hK _ _ (h A' c' w' h3 h4 h5)
theorem wpList_lookQ {w : World} {ops : Array Oper} {rest : List Oper} {o : Oper} {a : Act} {Q : Exit → Act → World → Prop} (hg : o.guard = none) (m x : Operand) (hop : o.op = Op.lookup 56 m x false)
    (b n : Nat) (f : Int → Value) (hm : a.eval m = .map (some b)) (h : QM w Try.prog 3 b n zNil f) (i : Int) (hx : a.eval x = .int .i64 i) (h1 : 1 ≤ i) (h5 : i ≤ 5) (v : Value) (hv : f i = v)
    (hK : wpList Try.prog ops Q rest (a.put o.dst v) w) : wpList Try.prog ops Q (o :: rest) a w := by
  subst hv
  exact wpList_lookupQ w hg m x _ hop keyI Try.underlying3 Try.underlying56 (zeroRow w) hm h i hx (wf5 h1 h5) hK
theorem wpList_lookW {w : World} {ops : Array Oper} {rest : List Oper} {o : Oper} {a : Act} {Q : Exit → Act → World → Prop} (hg : Region.wanted o (yielded ops a.tmps) = true) (m x : Operand) (hop : o.op = Op.lookup 56 m x false)
    (b n : Nat) (f : Int → Value) (hm : a.eval m = .map (some b)) (h : QM w Try.prog 3 b n zNil f) (i : Int) (hx : a.eval x = .int .i64 i) (h1 : 1 ≤ i) (h5 : i ≤ 5) (v : Value) (hv : f i = v)
    (hK : wpList Try.prog ops Q rest (a.put o.dst v) w) : wpList Try.prog ops Q (o :: rest) a w := by
  subst hv
  refine wpList_step fun K hK' => ?_
  rw [if_pos hg]
  unfold Oper.wp
  simp [execOp, hop, hm, hx, h.at keyI Try.underlying3 Try.underlying56 (zeroRow w) (wf5 h1 h5), Result.andThen]
  exact hK' _ _ hK
end Go.Proofs.Ytolalbpjaebfdaa

/-
  Plain: the reference's answer on a schedule is the program's.
-/
import Derived.Test.YtolalbpjaebfdaaQScTa
import Derived.Test.YtolalbpjaebfdaaQScKd
import Derived.Test.YtolalbpjaebfdaaQScRi
import Derived.Laws.OwnMore
import Derived.Test.YtolalbpjaebfdaaQScRp
import Derived.Test.YtolalbpjaebfdaaQScKu
import Derived.BigQuiet
import Derived.Deep.MidRow
import Derived.Test.YtolalbpjaebfdaaQScLc
import Derived.Test.YtolalbpjaebfdaaQScRs
import Derived.Test.YtolalbpjaebfdaaQScZ
namespace Go.Proofs.Ytolalbpjaebfdaa
open Go.RowKit Go.Shelf
set_option linter.unusedVariables false
set_option linter.unusedSimpArgs false
structure Tz (V : World) (B : Nat) (x : Kw) : Prop where
  ri : Ri7 V V.heap.size x.2.1 x.1.q
  le : x.1.q.length ≤ x.2.2
  fro : ∀ a, x.2.1 = some a → B ≤ a.block
  ty : ∀ a, x.2.1 = some a → ∃ cur, Blk V a.block cur 3
theorem Tz.tq {V : World} {B : Nat} {x : Kw} (h : Tz V B x) (hl : x.1.q.length ≤ 1000000) : Tq V V.heap.size x := ⟨h.ri, h.le, hl⟩
theorem zo_tz {V : World} {B : Nat} {x : Kw} (h : Zo V B x.2.1 x.1.q.length x.2.2 x.1.q) : Tz V B x := by
  refine ⟨h.ri, h.cap, fun a e => ?_, fun a e => ?_⟩
  · rcases h.form with ⟨e2, _⟩ | ⟨g, e2, h1, _⟩
    · rw [e] at e2; cases e2
    · rw [e] at e2; cases e2; exact h1
  · rcases h.form with ⟨e2, _⟩ | ⟨g, e2, _, _, cur, hh, _⟩
    · rw [e] at e2; cases e2
    · rw [e] at e2; cases e2; exact ⟨cur, ⟨hh⟩⟩
theorem Tz.kind {V V' : World} {B : Nat} {x : Kw} {row : Option Nat} (h : Tz V B x) (hg : V.grownBy V' row) (hr : ∀ g, row = some g → ∃ cs t, Blk V g cs t ∧ t ≠ 3) : Tz V' B x := by
  have hk : ∀ a, x.2.1 = some a → V'.heap[a.block]? = V.heap[a.block]? := fun a e => by
    obtain ⟨cur, hb⟩ := h.ty a e
    refine hg.block a.block hb.lt (fun e1 => ?_)
    obtain ⟨cs, t, k, hne⟩ := hr _ e1.symm
    have := k.blk
    rw [hb.blk] at this
    have h9 : (3 : TypeId) = t := by injection this with this; injection this
    exact hne h9.symm
  refine ⟨fun j hj => ?_, h.le, h.fro, fun a e => ?_⟩
  · obtain ⟨b, off, e, hb, hc⟩ := h.ri j hj
    refine ⟨b, off, e, Nat.lt_of_lt_of_le hb hg.size, ?_⟩
    have h1 := hk _ e
    simp only at h1
    simp only [World.cell?, h1] at hc ⊢
    exact hc
  · obtain ⟨cur, hb⟩ := h.ty a e
    exact ⟨cur, ⟨(hk a e).trans hb.blk⟩⟩
theorem Tz.below {V V' : World} {B : Nat} {x : Kw} (h : Tz V B x) (b : Below V.heap.size V V') : Tz V' B x := h.kind (row := none) ⟨b.os, b.tape, b.output, b.size, fun k hk _ => b.block k hk⟩ (fun g e => by cases e)
structure OwnT (V : World) (B : Nat) (A1 : Option Addr) (m1 c1 : Nat) (R : List Rn) (A2 : Option Addr) (m2 c2 : Nat) (L : List Kw) : Prop where
  rr : RoR V B A1 m1 c1 R
  rl : RoK V B A2 m2 c2 L
  q : ∀ x ∈ L, Tz V B x
theorem Own.t {V : World} {B : Nat} {A1 : Option Addr} {m1 c1 : Nat} {R : List Rn} {A2 : Option Addr} {m2 c2 : Nat} {L : List Kw} (h : Own V B A1 m1 c1 R A2 m2 c2 L) : OwnT V B A1 m1 c1 R A2 m2 c2 L := ⟨h.rr, h.rl, fun x hx => zo_tz (h.q x hx)⟩
section
variable {V V' : World} {B : Nat} {A1 : Option Addr} {m1 c1 : Nat} {R : List Rn} {A2 : Option Addr} {m2 c2 : Nat} {L : List Kw}
theorem OwnT.below (h : OwnT V B A1 m1 c1 R A2 m2 c2 L) (b : Below V.heap.size V V') : OwnT V' B A1 m1 c1 R A2 m2 c2 L := ⟨h.rr.below b (Nat.le_refl _), h.rl.below b (Nat.le_refl _), fun x hx => (h.q x hx).below b⟩
theorem OwnT.kind {g : Nat} {cs : Array Value} {t : TypeId} (h : OwnT V B A1 m1 c1 R A2 m2 c2 L) (n : But g V V') (k : Blk V g cs t) (h1 : t ≠ 52) (h2 : t ≠ 48) (h3 : t ≠ 3) : OwnT V' B A1 m1 c1 R A2 m2 c2 L :=
  ⟨own_kind h.rr (grown_but n) (fun g' e => by cases e; exact ⟨cs, t, k, h1⟩), own_kind h.rl (grown_but n) (fun g' e => by cases e; exact ⟨cs, t, k, h2⟩), fun x hx => (h.q x hx).kind (grown_but n) (fun g' e => by cases e; exact ⟨cs, t, k, h3⟩)⟩
theorem OwnT.sc (h : OwnT V B A1 m1 c1 R A2 m2 c2 L) (o : Okd R (L.map (·.1))) : Sc V V.heap.size A1 m1 c1 R A2 m2 c2 L :=
  ⟨h.rr.rs, h.rl.rs, fun x hx => (h.q x hx).tq (o.q x.1 (List.mem_map.2 ⟨x, hx, rfl⟩)), h.rr.len, h.rl.len, by have := h.rr.len; have := o.r; omega, by have := h.rl.len; have := o.k; rw [List.length_map] at this; omega⟩
theorem OwnT.fro (h : OwnT V B A1 m1 c1 R A2 m2 c2 L) : Fro B A1 A2 L := by
  refine ⟨fun a e => ?_, fun a e => ?_, fun x hx a e => (h.q x hx).fro a e⟩
  · rcases h.rr.form with ⟨e2, _⟩ | ⟨g, e2, h1, _⟩
    · rw [e] at e2; cases e2
    · rw [e] at e2; cases e2; exact h1
  · rcases h.rl.form with ⟨e2, _⟩ | ⟨g, e2, h1, _⟩
    · rw [e] at e2; cases e2
    · rw [e] at e2; cases e2; exact h1
end
def IntK (V V' : World) : Prop := ∀ j cs, Blk V j cs 3 → Blk V' j cs 3
theorem IntK.trans {a b c : World} (h : IntK a b) (k : IntK b c) : IntK a c := fun j cs hb => k j cs (h j cs hb)
theorem IntK.of {V V' : World} {row : Option Nat} (hg : V.grownBy V' row) (hr : ∀ g, row = some g → ∃ cs t, Blk V g cs t ∧ t ≠ 3) : IntK V V' := fun j cs hb => ⟨(hg.block j hb.lt (fun e => by
  obtain ⟨cs', t, k, hne⟩ := hr _ e.symm
  have := k.blk
  rw [hb.blk] at this
  have h9 : (3 : TypeId) = t := by injection this with this; injection this
  exact hne h9.symm)).trans hb.blk⟩
theorem IntK.below {V V' : World} (b : Below V.heap.size V V') : IntK V V' := fun j cs hb => hb.below b hb.lt
def giveN (R : List Rn) (K : List Kn) (n : Int) : List Rn × List Kn := match (K.getD (lessP (K.map (·.n)) n) kn0).q with
  | [] => (R, delL (lessP (K.map (·.n)) n) K)
  | h :: t => (R.set (lessP (numsR R) h) ⟨h, 0, 0⟩, K.set (lessP (K.map (·.n)) n) ⟨(K.getD (lessP (K.map (·.n)) n) kn0).n, h, t⟩)
structure GvL (V V' : World) (B g : Nat) (A1 : Option Addr) (m1 c1 : Nat) (R : List Rn) (L : List Kw) (n : Int) (R' : List Rn) (A2 : Option Addr) (m2 c2 : Nat) (L' : List Kw) : Prop where
  own : OwnT V' B A1 m1 c1 R' A2 m2 c2 L'
  k : Blk V' g (scC A1 m1 c1 A2 m2 c2) 25
  e : (R', L'.map (·.1)) = giveN R (L.map (·.1)) n
  other : ∀ x ∈ L, x.1.n ≠ n → x ∈ L'
  from_ : ∀ y ∈ L', ∃ z ∈ L, z.1.n = y.1.n ∧ ∀ a, y.2.1 = some a → ∃ a', z.2.1 = some a' ∧ a'.block = a.block
  b : Below B V V'
  i : IntK V V'
theorem delL_map {α β : Type} (f : α → β) (k : Nat) (L : List α) : (delL k L).map f = delL k (L.map f) := by
  unfold delL
  simp [List.map_take, List.map_drop]
theorem mem_delL {α : Type} {k : Nat} {L : List α} {x d : α} (hx : x ∈ L) (hne : x ≠ L.getD k d) : x ∈ delL k L := by
  unfold delL
  obtain ⟨i, hi, rfl⟩ := List.getElem_of_mem hx
  rcases Nat.lt_trichotomy i k with h | h | h
  · exact List.mem_append_left _ (by rw [List.mem_take_iff_getElem]; exact ⟨i, by omega, rfl⟩)
  · subst h; exact absurd (by simp [List.getD, hi]) hne
  · exact List.mem_append_right _ (by rw [List.mem_drop_iff_getElem]; exact ⟨i - (k + 1), by omega, by congr 1; omega⟩)
theorem mem_of_delL {α : Type} {k : Nat} {L : List α} {x : α} (hx : x ∈ delL k L) : x ∈ L := by
  unfold delL at hx
  rcases List.mem_append.1 hx with h | h
  · exact List.mem_of_mem_take h
  · exact List.mem_of_mem_drop h
theorem mem_set_ne {α : Type} {k : Nat} {L : List α} {x y d : α} (hx : x ∈ L) (hne : x ≠ L.getD k d) : x ∈ L.set k y := by
  obtain ⟨i, hi, rfl⟩ := List.getElem_of_mem hx
  have hik : i ≠ k := fun e => by subst e; exact hne (by simp [List.getD, hi])
  exact List.mem_of_getElem? (i := i) (by rw [List.getElem?_set, if_neg (fun e => hik e.symm)]; exact List.getElem?_eq_getElem hi)
theorem wp_op_storeR {o : Oper} {a : Act} {w W : World} {K : Act → World → Prop} {Q : Exit → Act → World → Prop} (x y : Operand) (ho : o.op = .store 52 x y)
    (p : Addr) (z : Rn) (hx : a.eval x = .pointer (some p)) (hy : a.eval y = .agg (rnC z)) (hrun : (storeCells p (rnC z).toList 0).run Try.prog w = .ok () W)
    (h : K (a.put o.dst undef) W) : Oper.wp Try.prog o a w K Q := by
  obtain ⟨i, hi, hz, hs1, hb1⟩ := info_parts rn_info3
  have hs' : (rnC z).size = i.size := by rw [hs1]; rfl
  have hr2 : (storeVar 52 p (.agg (rnC z))).run Try.prog w = .ok () W := by simp [storeVar, sizeOf, typeInfo, hi, Value.cells, hs', hrun]
  unfold Oper.wp execOp
  simp only [ho, hx, hy, Instr.storeAt, Instr.sureAddr, Sem.run_bind, Sem.run_pure, Result.andThen_ok, hr2]
  exact h
theorem RoR.stored {w : World} {base g m c k : Nat} {L : List Rn} (h : RoR w base (some ⟨g, 0, none⟩) m c L) (hk : k < L.length) (x : Rn) :
    ∃ W, (storeCells ⟨g, k * 3, none⟩ (rnC x).toList 0).run Try.prog w = .ok () W ∧ RoR W base (some ⟨g, 0, none⟩) m c (L.set k x) ∧ w.grownBy W (some g) := by
  rcases h.form with ⟨e, _⟩ | ⟨g', e, hb, hlt, cur, hh, h1, h2, h3, h4⟩
  · cases e
  · cases e
    have hm := h.len
    have hs := run_storeCells_at Try.prog g (k * 3) 52 (rnC x).toList 0 cur w hh (by rw [rn_len3, h3]; omega) (rn_oneL x)
    refine ⟨_, hs, ?_⟩
    simp only [Nat.add_zero, rn_len3]
    obtain ⟨C, hC⟩ : ∃ C : Array Value, C = (cur.toList.take (k * 3) ++ (rnC x).toList ++ cur.toList.drop (k * 3 + 3)).toArray := ⟨_, rfl⟩
    rw [← hC]
    have hgr : w.grownBy (w.setRow g C) (some g) := ⟨rfl, rfl, rfl, by simp, fun j hj hne => setRow_other w g j C (fun e => hne (by rw [e]))⟩
    have hl1 : (cur.toList.take (k * 3) ++ (rnC x).toList).length = k * 3 + 3 := by rw [List.length_append, List.length_take, Array.length_toList, rn_len3, h3]; omega
    refine ⟨ro_blockR hb (setRow_heap w g cur C _ _ hh) h1 h2 ?_ ?_ (by rw [List.length_set]; exact hm), hgr⟩
    · rw [hC, List.size_toArray, List.length_append, hl1, List.length_drop, Array.length_toList, h3]; omega
    · rw [hC, flatR_set x L k hk, ← h4, List.take_append, hl1, List.take_of_length_le (by rw [hl1]; omega), List.take_take, Nat.min_eq_left (by omega), List.drop_take, List.append_assoc]
theorem mem_set_orK {α : Type} {k : Nat} {L : List α} {x y : α} (hx : x ∈ L.set k y) : x ∈ L ∨ x = y := by
  rcases List.mem_or_eq_of_mem_set hx with h | h
  · exact .inl h
  · exact .inr h
theorem set_same {α : Type} {k : Nat} {L : List α} (d : α) (hk : k < L.length) : L.set k (L.getD k d) = L := by
  rw [show L.getD k d = L[k] by simp [List.getD, hk]]
  exact List.set_getElem_self hk
theorem Okd.setK {R : List Rn} {K : List Kn} {k : Nat} {y : Kn} (ok : Okd R K) (hk : k < K.length) (hn : y.n = (K.getD k kn0).n) (hl : y.q.length ≤ 1000000) : Okd R (K.set k y) := by
  refine ⟨ok.r, by rw [List.length_set]; exact ok.k, fun x hx => ?_, ok.ur, ?_⟩
  · rcases mem_set_orK hx with h | rfl
    · exact ok.q x h
    · exact hl
  · have e : (K.set k y).map (·.n) = K.map (·.n) := by
      rw [List.map_set, hn]
      have h2 := set_same 0 (k := k) (L := K.map (·.n)) (by simpa using hk)
      rw [show (K.map (·.n)).getD k 0 = (K.getD k kn0).n by simp [List.getD, hk]] at h2
      exact h2
    rw [e]; exact ok.uk
theorem Okd.setR {R : List Rn} {K : List Kn} {k : Nat} {y : Rn} (ok : Okd R K) (hk : k < R.length) (hn : y.i = (R.getD k rn0).i) : Okd (R.set k y) K := by
  refine ⟨by rw [List.length_set]; exact ok.r, ok.k, ok.q, ?_, ok.uk⟩
  have e : numsR (R.set k y) = numsR R := by
    unfold numsR
    rw [List.map_set]
    have h2 := set_same 0 (k := k) (L := R.map numR) (by simpa using hk)
    rw [show (R.map numR).getD k 0 = numR (R.getD k rn0) by simp [List.getD, hk]] at h2
    rw [show numR y = numR (R.getD k rn0) from hn]
    exact h2
  show (numsR (R.set k y)).Pairwise (· < ·)
  rw [e]; exact ok.ur
theorem Tz.tail {V : World} {B : Nat} {x : Kw} {h : Int} {t : List Int} {qb qo cq : Nat} (hx : Tz V B x) (hq : x.1.q = h :: t) (he : x.2.1 = some ⟨qb, qo, none⟩) (hc : x.2.2 = cq + 1) (n' h' : Int) :
    Tz V B (⟨n', h', t⟩, (if cq = 0 then some ⟨qb, qo, none⟩ else some ⟨qb, qo + 1, none⟩, cq)) := by
  have hl : t.length ≤ cq := by
    have := hx.le
    rw [hq, hc] at this
    simpa using this
  have hb : ∀ a, (if cq = 0 then some (⟨qb, qo, none⟩ : Addr) else some ⟨qb, qo + 1, none⟩) = some a → a.block = qb := fun a e => by
    split at e <;> cases e <;> rfl
  refine ⟨fun j hj => ?_, hl, fun a e => ?_, fun a e => ?_⟩
  · have hj' : j < t.length := hj
    obtain ⟨b, off, e, hlt, hcell⟩ := hx.ri (j + 1) (by rw [hq]; simpa using hj')
    rw [he] at e
    cases e
    rw [hq] at hcell
    refine ⟨qb, qo + 1, by rw [if_neg (by omega)], hlt, ?_⟩
    rw [show qo + 1 + j = qo + (j + 1) by omega]
    exact hcell
  · rw [hb a e]; exact hx.fro _ he
  · rw [hb a e]; exact hx.ty _ he
theorem Blk.cellKeep {w w' : World} {g : Nat} {cs : Array Value} {t : TypeId} (h : Blk w g cs t) (e : w'.heap[g]? = w.heap[g]?) : Blk w' g cs t := ⟨e.trans h.blk⟩
theorem blk_kind {w : World} {g : Nat} {cs cs2 : Array Value} {t t2 : TypeId} (h : Blk w g cs t) (k : Blk w g cs2 t2) : t = t2 := by
  have := h.blk
  rw [k.blk] at this
  injection this with this
  injection this with _ h9
  exact h9.symm
set_option maxRecDepth 100000 in
set_option maxHeartbeats 8000000 in
theorem give_sc (V : World) (B g : Nat) (A1 : Option Addr) (m1 c1 : Nat) (R : List Rn) (A2 : Option Addr) (m2 c2 : Nat) (L : List Kw) (n : Int) (own : OwnT V B A1 m1 c1 R A2 m2 c2 L) (kg : Blk V g (scC A1 m1 c1 A2 m2 c2) 25) (hBg : B ≤ g) (ok : Okd R (L.map (·.1)))
    (hin : (numsK L).contains n = true) (hq : ∀ h t, (L.getD (lessP (numsK L) n) kw0).1.q = h :: t → (numsR R).contains h = true) :
    Calls Try.prog 43 #[.pointer (some ⟨g, 0, none⟩), .int .i64 n] V fun e V' => e = .returned (.tuple #[]) ∧ ∃ R' A4 m4 c4 L', GvL V V' B g A1 m1 c1 R L n R' A4 m4 c4 L' := by
  have sc := own.sc ok
  have hgl : g < V.heap.size := kg.lt
  have hBV : B ≤ V.heap.size := Nat.le_trans hBg (Nat.le_of_lt hgl)
  have uk : UpK L := by show (numsK L).Pairwise (· < ·); rw [numsK_names]; exact ok.uk
  obtain ⟨hkl, hxn, _⟩ := lockF_some uk hin
  have HD := Lib.hid (held_sc n sc uk)
  rw [hin] at HD
  have hgn : ∀ h t, (L.getD (lessP (numsK L) n) kw0).1.q = h :: t → giveN R (L.map (·.1)) n = (R.set (lessP (numsR R) h) ⟨h, 0, 0⟩, (L.map (·.1)).set (lessP (numsK L) n) ⟨n, h, t⟩) := fun h t e => by
    unfold giveN
    rw [← numsK_names, fst_getD, e, hxn]
  have hg0 : (L.getD (lessP (numsK L) n) kw0).1.q = [] → giveN R (L.map (·.1)) n = (R, delL (lessP (numsK L) n) (L.map (·.1))) := fun e => by
    unfold giveN
    rw [← numsK_names, fst_getD, e]
  have hoth : ∀ x ∈ L, x.1.n ≠ n → x ≠ L.getD (lessP (numsK L) n) kw0 := fun x _ hne e => hne (by rw [e]; exact hxn)
  have hxm : L.getD (lessP (numsK L) n) kw0 ∈ L := by
    rw [show L.getD (lessP (numsK L) n) kw0 = L[lessP (numsK L) n] by simp [List.getD, hkl]]
    exact List.getElem_mem _
  generalize lessP (numsK L) n = k at HD hkl hxn hgn hg0 hoth hxm hq
  obtain ⟨gK, rfl, hBK, hKl⟩ := own.rl.at0 (by omega)
  have hm2 := own.rl.len
  have hkm : (k : Int) < (m2 : Int) := by omega
  have hkm' : k < m2 := by omega
  obtain ⟨bK, oK, eK, _, hcK⟩ := own.rl.rs k hkl
  cases eK
  rw [Nat.zero_add] at hcK
  obtain ⟨curK, kK⟩ := roK_blk own.rl (g := gK) rfl
  have HX := Lib.hid hxm
  obtain ⟨x, hx⟩ : ∃ x, L.getD k kw0 = x := ⟨_, rfl⟩
  rw [hx] at hcK hxn hgn hg0 hoth HX hq
  have q1 : V.cell? ⟨gK, k * 3 + 1, none⟩ = some (.int .i64 x.1.o) := hcK 1 _ rfl
  have q2 : V.cell? ⟨gK, k * 3 + 2, none⟩ = some (.slice x.2.1 x.1.q.length x.2.2) := hcK 2 _ rfl
  have c1_ : V.cell? ⟨g, 1, none⟩ = some (.slice (some ⟨gK, 0, none⟩) m2 c2) := kg.cell 1
  have HGN := Lib.hid hgn
  have HG0 := Lib.hid hg0
  have HOT := Lib.hid hoth
  have HXN := Lib.hid hxn
  have HQ := Lib.hid hq
  have HKL := Lib.hid hkl
  have HXE := Lib.hid hx
  have HM2 := Lib.hid hm2
  have HCK := Lib.hid hcK
  have HM6 := Lib.hid (show m2 ≤ 100000 from sc.lim2)
  have hwr : IntKind.i64.wrap ((k : Int) + 1) = (k : Int) + 1 := by have := HM6.out; rw [IntKind.wrap_i64]; omega
  have hgK : gK ≠ g := fun e => by
    have h8 := kK.blk
    rw [e, kg.blk] at h8
    have h9 : (25 : TypeId) = 48 := by injection h8 with h8; injection h8
    exact absurd h9 (by decide)
  clear hgn hg0 hoth hxn hq hkl hx hm2 hcK hin uk hxm
  unfold scV at HD
  have LDS : ∀ {V' : World}, Below V.heap.size V V' → Blk V' g (scC A1 m1 c1 (some ⟨gK, 0, none⟩) m2 c2) 25 := fun b => kg.below b hgl
  rcases hq0 : x.1.q with _ | ⟨h, t⟩
  · have hlen : x.1.q.length = 0 := by rw [hq0]; rfl
    rw [hlen] at q2
    have HE := Lib.hid (HG0.out hq0)
    clear hlen HG0 HGN HQ
    go_enter Try.func43, Try.ntmps43
    go_wp2_with (first
      | (refine wpList_load_row rfl 25 (.tmp 11) rfl g rfl 25 (scC A1 m1 c1 (some ⟨gK, 0, none⟩) m2 c2) (0, 0) _ kg.blk Try.underlying25 rfl (sc_inf _ _ _ _ _ _) ?_)
      | (refine HD.out.mono ?_
         clear HD
         rintro e W1 ⟨rfl, bb⟩
         have own1 := own.below bb
         have kg1 := LDS bb
         have c11 : W1.cell? ⟨g, 1, none⟩ = some (.slice (some ⟨gK, 0, none⟩) m2 c2) := kg1.cell 1
         have q21 := (bb.cell (p := ⟨gK, k * 3 + 2, none⟩) hKl).trans q2
         have CD := Lib.hid (del_K B gK m2 c2 k L W1 own1.rl HM6.out hkm')
         have i1 := IntK.below bb
         have b1 := bb.mono hBV
         have s1 : B ≤ W1.heap.size := Nat.le_trans hBV bb.size
         clear bb q1 q2 c1_)
      | (refine CD.out.mono ?_
         clear CD
         rintro e W2 ⟨rfl, rk, hg2⟩
         have hrow : ∀ g', some gK = some g' → ∃ cs t, Blk W1 g' cs t ∧ t = 48 := fun g' e => by cases e; obtain ⟨cur, k9⟩ := roK_blk own1.rl (g := gK) rfl; exact ⟨cur, _, k9, rfl⟩
         have i2 := i1.trans (IntK.of hg2 (fun g' e => by obtain ⟨cs, t, k9, rfl⟩ := hrow g' e; exact ⟨cs, _, k9, by decide⟩))
         have kg2 : Blk W2 g (scC A1 m1 c1 (some ⟨gK, 0, none⟩) m2 c2) 25 := ⟨(hg2.block g kg1.lt (fun e => hgK (Option.some.inj e).symm)).trans kg1.blk⟩
         have rr2 := own_kind own1.rr hg2 (fun g' e => by obtain ⟨cs, t, k9, rfl⟩ := hrow g' e; exact ⟨cs, _, k9, by decide⟩)
         have tz2 : ∀ y ∈ delL k L, Tz W2 B y := fun y hy => (own1.q y (mem_of_delL hy)).kind hg2 (fun g' e => by obtain ⟨cs, t, k9, rfl⟩ := hrow g' e; exact ⟨cs, _, k9, by decide⟩)
         have own2 : OwnT W2 B A1 m1 c1 R (some ⟨gK, 0, none⟩) (m2 - 1) c2 (delL k L) := ⟨rr2, rk, tz2⟩
         have s2 : B ≤ W2.heap.size := Nat.le_trans s1 hg2.size
         have b2 := b1.trans ((Below.refl B W1).grown hg2 s1 (fun r e => by cases e; exact hBK))
         have c12 : W2.cell? ⟨g, 1, none⟩ = some (.slice (some ⟨gK, 0, none⟩) m2 c2) := kg2.cell 1
         have f12 := kg2.frozen 1
         have n3 : But g W2 (W2.setCell ⟨g, 1, none⟩ (.slice (some ⟨gK, 0, none⟩) (m2 - 1) c2)) := (But.refl g W2).setCell (p := ⟨g, 1, none⟩) (.inl rfl) _
         have kg3 : Blk (W2.setCell ⟨g, 1, none⟩ (.slice (some ⟨gK, 0, none⟩) (m2 - 1) c2)) g (scC A1 m1 c1 (some ⟨gK, 0, none⟩) (m2 - 1) c2) 25 := kg2.set_ 1 _
         have own3 := own2.kind n3 kg2 (by decide) (by decide) (by decide)
         have HZ := Lib.hid (And.intro kg3 (And.intro own3 (And.intro (b2.trans (n3.below _ hBg s2)) (i2.trans (IntK.of (grown_but n3) (fun g' e => by cases e; exact ⟨_, _, kg2, by decide⟩))))))
         clear hrow i2 kg2 rr2 tz2 own2 b2 n3 kg3 own3 rk hg2 own1 kg1 b1 i1 c11 q21))
    refine bodyPost_ret (results_none rfl _ _ _) rfl ?_
    exact ⟨rfl, R, some ⟨gK, 0, none⟩, m2 - 1, c2, delL k L, HZ.out.2.1, HZ.out.1, by rw [HE.out, delL_map], fun y hy hne => mem_delL hy (by rw [HXE.out]; exact HOT.out y hy hne), fun y hy => ⟨y, mem_of_delL hy, rfl, fun a e => ⟨a, e, rfl⟩⟩, HZ.out.2.2.1, HZ.out.2.2.2⟩
  · obtain ⟨qb, qo, eq, hqb, hqc⟩ := (own.q x HX.out).ri 0 (by rw [hq0]; simp)
    have hTZ := Lib.hid (own.q x HX.out)
    rw [hq0] at hqc
    simp only [Nat.add_zero, List.getD_cons_zero] at hqc
    have hlen : x.1.q.length = t.length + 1 := by rw [hq0]; rfl
    have hle := (own.q x HX.out).le
    rw [hlen] at hle
    rw [hlen, eq] at q2
    have HE := Lib.hid (HGN.out h t hq0)
    have HIN := Lib.hid (HQ.out h t hq0)
    have HLEN := Lib.hid hlen
    have HEQ := Lib.hid eq
    obtain ⟨tl, htl⟩ : ∃ tl, t.length = tl := ⟨_, rfl⟩
    rw [htl] at q2 hle
    have HTL := Lib.hid htl
    obtain ⟨cq, hcq⟩ : ∃ cq, x.2.2 = cq + 1 := ⟨x.2.2 - 1, by omega⟩
    rw [hcq] at q2 hle
    have HCQ := Lib.hid hcq
    clear hlen HG0 HGN HQ htl hcq eq
    go_enter Try.func43, Try.ntmps43
    go_wp2_with (first
      | (refine wpList_load_row rfl 25 (.tmp 11) rfl g rfl 25 (scC A1 m1 c1 (some ⟨gK, 0, none⟩) m2 c2) (0, 0) _ kg.blk Try.underlying25 rfl (sc_inf _ _ _ _ _ _) ?_)
      | (refine HD.out.mono ?_
         clear HD
         rintro e W1 ⟨rfl, bb⟩
         have own1 := own.below bb
         have kg1 := LDS bb
         have c11 : W1.cell? ⟨g, 1, none⟩ = some (.slice (some ⟨gK, 0, none⟩) m2 c2) := kg1.cell 1
         have q21 := (bb.cell (p := ⟨gK, k * 3 + 2, none⟩) hKl).trans q2
         have q11 := (bb.cell (p := ⟨gK, k * 3 + 1, none⟩) hKl).trans q1
         have qc1 := (bb.cell (p := ⟨qb, qo, none⟩) hqb).trans hqc
         have kK1 := kK.below bb hKl
         have f21 := kK1.frozen (k * 3 + 2)
         have f11 := kK1.frozen (k * 3 + 1)
         have i1 := IntK.below bb
         have s1 : B ≤ W1.heap.size := Nat.le_trans hBV bb.size
         have b1 := bb.mono hBV
         clear bb q1 q2 c1_ hqc))
    have hcb : (1 : Int) ≤ (tl : Int) + 1 := by omega
    have hcb2 : (tl : Int) + 1 ≤ (cq : Int) + 1 := by omega
    go_region
    generalize hTB : (if cq = 0 then some (⟨qb, qo, none⟩ : Addr) else some ⟨qb, qo + 1, none⟩) = TB
    have HTB := Lib.hid hTB
    clear hTB
    have hy1 : (kwC ((⟨x.1.n, h, x.1.q⟩, x.2) : Kw)).toList = (kwC (L.getD k kw0)).toList.set 1 (.int .i64 h) := by rw [HXE.out]; rfl
    have rl1 := own1.rl.cellSet HKL.out (by decide) hy1
    have hy2 : (kwC ((⟨x.1.n, h, t⟩, (TB, cq)) : Kw)).toList = (kwC ((L.set k ((⟨x.1.n, h, x.1.q⟩, x.2) : Kw)).getD k kw0)).toList.set 2 (.slice TB tl cq) := by
      rw [set_getD _ _ HKL.out, if_pos rfl, ← HTL.out]; rfl
    have rl2 := rl1.cellSet (by rw [List.length_set]; exact HKL.out) (by decide) hy2
    rw [List.set_set] at rl2
    have nK : But gK W1 ((W1.setCell ⟨gK, k * 3 + 1, none⟩ (.int .i64 h)).setCell ⟨gK, k * 3 + 2, none⟩ (.slice TB tl cq)) := ((But.refl gK W1).setCell (p := ⟨gK, k * 3 + 1, none⟩) (.inl rfl) _).setCell (p := ⟨gK, k * 3 + 2, none⟩) (.inl rfl) _
    have rr2 := own_kind own1.rr (grown_but nK) (fun g' e => by cases e; exact ⟨_, _, kK1, by decide⟩)
    have kg2 := kg1.cellKeep (nK.block g kg1.lt (fun e => hgK e.symm))
    have tz2 : ∀ y ∈ L.set k ((⟨x.1.n, h, t⟩, (TB, cq)) : Kw), Tz ((W1.setCell ⟨gK, k * 3 + 1, none⟩ (.int .i64 h)).setCell ⟨gK, k * 3 + 2, none⟩ (.slice TB tl cq)) B y := fun y hy => by
      refine Tz.kind (V := W1) ?_ (grown_but nK) (fun g' e => by cases e; exact ⟨_, _, kK1, by decide⟩)
      rcases mem_set_orK hy with h9 | rfl
      · exact own1.q y h9
      · have h8 := (own1.q x HX.out).tail hq0 HEQ.out HCQ.out x.1.n h
        rw [HTB.out] at h8
        exact h8
    have i2 := i1.trans (IntK.of (grown_but nK) (fun g' e => by cases e; exact ⟨_, _, kK1, by decide⟩))
    have b2 := b1.trans (nK.below B hBK s1)
    have q12 : ((W1.setCell ⟨gK, k * 3 + 1, none⟩ (.int .i64 h)).setCell ⟨gK, k * 3 + 2, none⟩ (.slice TB tl cq)).cell? ⟨gK, k * 3 + 1, none⟩ = some (.int .i64 h) := by
      have h5 := rl2.rs k (by rw [List.length_set]; exact HKL.out)
      obtain ⟨b', o', e', _, hc'⟩ := h5
      cases e'
      rw [set_getD _ _ HKL.out, if_pos rfl, Nat.zero_add] at hc'
      exact hc' 1 _ rfl
    have own2 : OwnT _ B A1 m1 c1 R (some ⟨gK, 0, none⟩) m2 c2 (L.set k ((⟨x.1.n, h, t⟩, (TB, cq)) : Kw)) := ⟨rr2, rl2, tz2⟩
    have s2 : B ≤ ((W1.setCell ⟨gK, k * 3 + 1, none⟩ (.int .i64 h)).setCell ⟨gK, k * 3 + 2, none⟩ (.slice TB tl cq)).heap.size := Nat.le_trans s1 nK.size
    generalize (W1.setCell ⟨gK, k * 3 + 1, none⟩ (.int .i64 h)).setCell ⟨gK, k * 3 + 2, none⟩ (.slice TB tl cq) = W2 at kg2 i2 b2 q12 own2 s2 ⊢
    clear hy1 rl1 hy2 rl2 nK rr2 tz2 own1 kg1 c11 q21 q11 qc1 kK1 f21 f11 i1 s1 b1
    have bd : Below W2.heap.size W2 W2.drew := (Below.refl _ _).drew
    have own2 := own2.below bd
    have kg2 := kg2.below bd kg2.lt
    have q12 : W2.drew.cell? ⟨gK, k * 3 + 1, none⟩ = some (.int .i64 h) := q12
    have i2 := i2.trans (IntK.below bd)
    have b2 := b2.trans (bd.mono s2)
    have s2 : B ≤ W2.drew.heap.size := s2
    generalize W2.drew = W3 at kg2 i2 b2 q12 own2 s2 ⊢
    clear bd
    have ok2 : Okd R ((L.set k ((⟨x.1.n, h, t⟩, (TB, cq)) : Kw)).map (·.1)) := by
      rw [List.map_set]
      refine ok.setK (by rw [List.length_map]; exact HKL.out) ?_ ?_
      · rw [fst_getD, HXE.out]
      · have h5 := ok.q x.1 (List.mem_map.2 ⟨x, HX.out, rfl⟩)
        have h6 := HLEN.out
        show t.length ≤ 1000000
        omega
    have sc2 := own2.sc ok2
    have RN := Lib.hid (fun (V' : World) (hV : Below W3.heap.size W3 V') => run_sc h (sc2.on hV) ok2.ur)
    rw [HIN.out] at RN
    obtain ⟨hrl, hri, _⟩ := runF_some ok2.ur HIN.out
    have HRI := Lib.hid hri
    generalize lessP (numsR R) h = to at RN hrl HRI HE
    have HRL := Lib.hid hrl
    obtain ⟨gR, rfl, hBR, hRl⟩ := own2.rr.at0 (by omega)
    have hm1 := own2.rr.len
    have hrm : (to : Int) < (m1 : Int) := by omega
    have hg3 := kg2.lt
    have hK3 : gK < W3.heap.size := by
      obtain ⟨cur, k9⟩ := roK_blk own2.rl (g := gK) rfl
      exact k9.lt
    clear ok2 sc2 hri hrl hm1
    unfold scV at RN
    go_wp2_with fail
    try simp only [Act.put]
    refine region_cutP ?_
    have Jd : Below W3.heap.size W3 W3.drew := (Below.refl _ _).drew
    refine wp_region_held_drew (S := (fun V' => Below W3.heap.size W3 V')) (by kernel_rfl) Jd (fun _ => ?_)
    refine wpAnyH_take (i := 0) (v := .pointer (some ⟨g, 0, none⟩)) rfl (by kernel_rfl) (by kernel_rfl) (by kernel_rfl) (fun _ _ _ h => nomatch h.1) (.inl ⟨by rfl, fun V hV => by go_simp⟩) Jd ?_
    try simp only [Act.put, List.getElem_toArray, List.getElem_cons_zero, List.getElem_cons_succ, List.setIfInBounds_toArray, List.set_cons_zero, List.set_cons_succ]
    refine wpAnyH_take (i := 3) (v := .pointer (some ⟨gK, k * 3, none⟩)) rfl (by kernel_rfl) (by kernel_rfl) (by kernel_rfl) (fun _ _ _ h => nomatch h.1) (.inl ⟨by rfl, fun V hV => by go_simp⟩) Jd ?_
    try simp only [Act.put, List.getElem_toArray, List.getElem_cons_zero, List.getElem_cons_succ, List.setIfInBounds_toArray, List.set_cons_zero, List.set_cons_succ]
    refine wpAnyH_take (i := 1) (v := .pointer (some ⟨g, 0, none⟩)) rfl (by kernel_rfl) (by kernel_rfl) (by kernel_rfl) (fun _ _ _ h => nomatch h.1) (.inl ⟨by rfl, fun V hV => by go_simp⟩) Jd ?_
    try simp only [Act.put, List.getElem_toArray, List.getElem_cons_zero, List.getElem_cons_succ, List.setIfInBounds_toArray, List.set_cons_zero, List.set_cons_succ]
    refine wpAnyH_take (i := 4) (v := .pointer (some ⟨gK, k * 3, none⟩)) rfl (by kernel_rfl) (by kernel_rfl) (by kernel_rfl) (fun _ _ _ h => nomatch h.1) (.inl ⟨by rfl, fun V hV => by go_simp⟩) Jd ?_
    try simp only [Act.put, List.getElem_toArray, List.getElem_cons_zero, List.getElem_cons_succ, List.setIfInBounds_toArray, List.set_cons_zero, List.set_cons_succ]
    refine wpAnyH_take (i := 2) (v := .agg (scC (some ⟨gR, 0, none⟩) m1 c1 (some ⟨gK, 0, none⟩) m2 c2)) rfl (by kernel_rfl) (by kernel_rfl) (by kernel_rfl) (fun _ _ _ h => nomatch h.1) (yieldsIf_blk (by rfl) 25 (.tmp 59) rfl g rfl (scC (some ⟨gR, 0, none⟩) m1 c1 (some ⟨gK, 0, none⟩) m2 c2) 25 _ (fun _ h => kg2.below h hg3) Try.underlying25 rfl (sc_inf _ _ _ _ _ _)) Jd ?_
    try simp only [Act.put, List.getElem_toArray, List.getElem_cons_zero, List.getElem_cons_succ, List.setIfInBounds_toArray, List.set_cons_zero, List.set_cons_succ]
    refine wpAnyH_take (i := 5) (v := .pointer (some ⟨gK, k * 3 + 1, none⟩)) rfl (by kernel_rfl) (by kernel_rfl) (by kernel_rfl) (fun _ _ _ h => nomatch h.1) (.inl ⟨by rfl, fun V hV => by go_simp⟩) Jd ?_
    try simp only [Act.put, List.getElem_toArray, List.getElem_cons_zero, List.getElem_cons_succ, List.setIfInBounds_toArray, List.set_cons_zero, List.set_cons_succ]
    refine wpAnyH_take (i := 6) (v := .int .i64 h) rfl (by kernel_rfl) (by kernel_rfl) (by kernel_rfl) (fun _ _ _ h => nomatch h.1) (.inl ⟨by rfl, fun V hV => by have c6 := (hV.cell (p := ⟨gK, k * 3 + 1, none⟩) hK3).trans q12; go_simp⟩) Jd ?_
    try simp only [Act.put, List.getElem_toArray, List.getElem_cons_zero, List.getElem_cons_succ, List.setIfInBounds_toArray, List.set_cons_zero, List.set_cons_succ]
    refine wpAnyH_ready (rs := [7]) (by kernel_rfl) (by simp) ?_
    refine AllReadyH.cons rfl (fun K hK => ?_) AllReadyH.nil
    try simp only [Act.put, List.getElem_toArray, List.getElem_cons_zero, List.getElem_cons_succ, List.setIfInBounds_toArray, List.set_cons_zero, List.set_cons_succ]
    go_simp
    refine (RN.out _ Jd).mono ?_
    rintro e W5 ⟨rfl, bb⟩
    go_wp2_with fail
    have Jd := Jd.trans (bb.mono Jd.size)
    clear bb
    refine hK.out _ _ Jd (fun _ => ?_)
    clear hK K
    try simp only [Act.put, List.getElem_toArray, List.getElem_cons_zero, List.getElem_cons_succ, List.setIfInBounds_toArray, List.set_cons_zero, List.set_cons_succ]
    refine wpAnyH_take (i := 8) (v := .tuple #[.int .i64 to, .bool true]) rfl (by kernel_rfl) (by kernel_rfl) (by kernel_rfl) (fun _ _ _ h => nomatch h.1) (.inl ⟨by rfl, fun V hV => by go_simp⟩) Jd ?_
    try simp only [Act.put, List.getElem_toArray, List.getElem_cons_zero, List.getElem_cons_succ, List.setIfInBounds_toArray, List.set_cons_zero, List.set_cons_succ]
    refine wpAnyH_take (i := 9) (v := .int .i64 to) rfl (by kernel_rfl) (by kernel_rfl) (by kernel_rfl) (fun _ _ _ h => nomatch h.1) (.inl ⟨by rfl, fun V hV => by go_simp⟩) Jd ?_
    try simp only [Act.put, List.getElem_toArray, List.getElem_cons_zero, List.getElem_cons_succ, List.setIfInBounds_toArray, List.set_cons_zero, List.set_cons_succ]
    refine wpAnyH_take (i := 10) (v := .bool true) rfl (by kernel_rfl) (by kernel_rfl) (by kernel_rfl) (fun _ _ _ h => nomatch h.1) (.inl ⟨by rfl, fun V hV => by go_simp⟩) Jd ?_
    try simp only [Act.put, List.getElem_toArray, List.getElem_cons_zero, List.getElem_cons_succ, List.setIfInBounds_toArray, List.set_cons_zero, List.set_cons_succ]
    refine wpAnyH_take (i := 11) (v := .int .i64 to) rfl (by kernel_rfl) (by kernel_rfl) (by kernel_rfl) (fun _ _ _ h => nomatch h.1) (.inl ⟨by rfl, fun V hV => by go_simp⟩) Jd ?_
    try simp only [Act.put, List.getElem_toArray, List.getElem_cons_zero, List.getElem_cons_succ, List.setIfInBounds_toArray, List.set_cons_zero, List.set_cons_succ]
    refine wpAnyH_take (i := 12) (v := .bool true) rfl (by kernel_rfl) (by kernel_rfl) (by kernel_rfl) (fun _ _ _ h => nomatch h.1) (.inl ⟨by rfl, fun V hV => by go_simp⟩) Jd ?_
    try simp only [Act.put, List.getElem_toArray, List.getElem_cons_zero, List.getElem_cons_succ, List.setIfInBounds_toArray, List.set_cons_zero, List.set_cons_succ]
    refine wpAnyH_done (by kernel_rfl) ?_ _
    refine ⟨rfl, ?_⟩
    go_wp2_with fail
    try simp only [Act.put]
    refine region_cutP ?_
    have Jd := Jd.trans ((Below.refl W5.heap.size W5).drew.mono Jd.size)
    have own5 := own2.below Jd
    have kg5 := kg2.below Jd hg3
    have q15 := (Jd.cell (p := ⟨gK, k * 3 + 1, none⟩) hK3).trans q12
    have q05 : W5.drew.cell? ⟨g, 0, none⟩ = some (.slice (some ⟨gR, 0, none⟩) m1 c1) := kg5.cell 0
    have i5 := i2.trans (IntK.below Jd)
    have b5 := b2.trans (Jd.mono s2)
    have s5 := Nat.le_trans s2 Jd.size
    have J : W5.drew.cell? ⟨g, 0, none⟩ = some (.slice (some ⟨gR, 0, none⟩) m1 c1) ∧ W5.drew.cell? ⟨gK, k * 3 + 1, none⟩ = some (.int .i64 h) := ⟨q05, q15⟩
    refine wp_region_held_drew (S := fun V' => V'.cell? ⟨g, 0, none⟩ = some (.slice (some ⟨gR, 0, none⟩) m1 c1) ∧ V'.cell? ⟨gK, k * 3 + 1, none⟩ = some (.int .i64 h)) (by kernel_rfl) J (fun _ => ?_)
    generalize W5.drew = W6 at J own5 kg5 q15 q05 i5 b5 s5 ⊢
    obtain ⟨W7, hst, rr7, hg7⟩ := own5.rr.stored (k := to) HRL.out ⟨h, 0, 0⟩
    obtain ⟨curR, kR⟩ := roR_blk own5.rr (g := gR) rfl
    obtain ⟨cur9, k9⟩ := roK_blk own5.rl (g := gK) rfl
    have hgR : gR ≠ g := fun e => by rw [e] at kR; exact absurd (blk_kind kR kg5) (by decide)
    have hgR2 : gR ≠ gK := fun e => by rw [e] at kR; exact absurd (blk_kind kR k9) (by decide)
    have q17 : W7.cell? ⟨gK, k * 3 + 1, none⟩ = some (.int .i64 h) := by have h9 := hg7.block gK k9.lt (fun e => hgR2 (Option.some.inj e).symm); simp only [World.cell?, h9] at q15 ⊢; exact q15
    have kg7 := kg5.cellKeep (hg7.block g kg5.lt (fun e => hgR (Option.some.inj e).symm))
    have q07 : W7.cell? ⟨g, 0, none⟩ = some (.slice (some ⟨gR, 0, none⟩) m1 c1) := kg7.cell 0
    have HF := Lib.hid (show OwnT W7 B (some ⟨gR, 0, none⟩) m1 c1 (R.set to ⟨h, 0, 0⟩) (some ⟨gK, 0, none⟩) m2 c2 (L.set k ((⟨x.1.n, h, t⟩, (TB, cq)) : Kw)) ∧ Below B V W7 ∧ IntK V W7 from ⟨⟨rr7, own_kind own5.rl hg7 (fun g' e => by cases e; exact ⟨_, _, kR, by decide⟩), fun y hy => (own5.q y hy).kind hg7 (fun g' e => by cases e; exact ⟨_, _, kR, by decide⟩)⟩, b5.trans ((Below.refl B W6).grown hg7 s5 (fun r e => by cases e; exact hBR)), i5.trans (IntK.of hg7 (fun g' e => by cases e; exact ⟨_, _, kR, by decide⟩))⟩)
    have HG7 := Lib.hid kg7
    clear Jd RN own2 kg2 q12 i2 b2 own5 kg5 i5 b5 rr7 hg7 kR k9 kg7
    refine wpAnyH_take (i := 0) (v := .pointer (some ⟨g, 0, none⟩)) rfl (by kernel_rfl) (by kernel_rfl) (by kernel_rfl) (fun _ _ _ h => nomatch h.1) (.inl ⟨by rfl, fun V hV => by go_simp⟩) J ?_
    try simp only [Act.put, List.getElem_toArray, List.getElem_cons_zero, List.getElem_cons_succ, List.setIfInBounds_toArray, List.set_cons_zero, List.set_cons_succ]
    refine wpAnyH_take (i := 4) (v := .int .i64 to) rfl (by kernel_rfl) (by kernel_rfl) (by kernel_rfl) (fun _ _ _ h => nomatch h.1) (.inl ⟨by rfl, fun V hV => by go_simp⟩) J ?_
    try simp only [Act.put, List.getElem_toArray, List.getElem_cons_zero, List.getElem_cons_succ, List.setIfInBounds_toArray, List.set_cons_zero, List.set_cons_succ]
    refine wpAnyH_take (i := 5) (v := .pointer (some ⟨gK, k * 3, none⟩)) rfl (by kernel_rfl) (by kernel_rfl) (by kernel_rfl) (fun _ _ _ h => nomatch h.1) (.inl ⟨by rfl, fun V hV => by go_simp⟩) J ?_
    try simp only [Act.put, List.getElem_toArray, List.getElem_cons_zero, List.getElem_cons_succ, List.setIfInBounds_toArray, List.set_cons_zero, List.set_cons_succ]
    refine wpAnyH_take (i := 1) (v := .pointer (some ⟨g, 0, none⟩)) rfl (by kernel_rfl) (by kernel_rfl) (by kernel_rfl) (fun _ _ _ h => nomatch h.1) (.inl ⟨by rfl, fun V hV => by go_simp⟩) J ?_
    try simp only [Act.put, List.getElem_toArray, List.getElem_cons_zero, List.getElem_cons_succ, List.setIfInBounds_toArray, List.set_cons_zero, List.set_cons_succ]
    refine wpAnyH_take (i := 6) (v := .pointer (some ⟨gK, k * 3, none⟩)) rfl (by kernel_rfl) (by kernel_rfl) (by kernel_rfl) (fun _ _ _ h => nomatch h.1) (.inl ⟨by rfl, fun V hV => by go_simp⟩) J ?_
    try simp only [Act.put, List.getElem_toArray, List.getElem_cons_zero, List.getElem_cons_succ, List.setIfInBounds_toArray, List.set_cons_zero, List.set_cons_succ]
    refine wpAnyH_take (i := 2) (v := .pointer (some ⟨g, 0, none⟩)) rfl (by kernel_rfl) (by kernel_rfl) (by kernel_rfl) (fun _ _ _ h => nomatch h.1) (.inl ⟨by rfl, fun V hV => by go_simp⟩) J ?_
    try simp only [Act.put, List.getElem_toArray, List.getElem_cons_zero, List.getElem_cons_succ, List.setIfInBounds_toArray, List.set_cons_zero, List.set_cons_succ]
    refine wpAnyH_take (i := 7) (v := .pointer (some ⟨gK, k * 3 + 1, none⟩)) rfl (by kernel_rfl) (by kernel_rfl) (by kernel_rfl) (fun _ _ _ h => nomatch h.1) (.inl ⟨by rfl, fun V hV => by go_simp⟩) J ?_
    try simp only [Act.put, List.getElem_toArray, List.getElem_cons_zero, List.getElem_cons_succ, List.setIfInBounds_toArray, List.set_cons_zero, List.set_cons_succ]
    refine wpAnyH_take (i := 3) (v := .slice (some ⟨gR, 0, none⟩) m1 c1) rfl (by kernel_rfl) (by kernel_rfl) (by kernel_rfl) (fun _ _ _ h => nomatch h.1) (.inl ⟨by rfl, fun V hV => by have c9 := hV.1; go_simp⟩) J ?_
    try simp only [Act.put, List.getElem_toArray, List.getElem_cons_zero, List.getElem_cons_succ, List.setIfInBounds_toArray, List.set_cons_zero, List.set_cons_succ]
    refine wpAnyH_take (i := 8) (v := .int .i64 h) rfl (by kernel_rfl) (by kernel_rfl) (by kernel_rfl) (fun _ _ _ h => nomatch h.1) (.inl ⟨by rfl, fun V hV => by have c9 := hV.2; go_simp⟩) J ?_
    try simp only [Act.put, List.getElem_toArray, List.getElem_cons_zero, List.getElem_cons_succ, List.setIfInBounds_toArray, List.set_cons_zero, List.set_cons_succ]
    refine wpAnyH_take (i := 9) (v := .agg (rnC ⟨h, 0, 0⟩)) rfl (by kernel_rfl) (by kernel_rfl) (by kernel_rfl) (fun _ _ _ h => nomatch h.1) (.inl ⟨by rfl, fun V hV => by go_simp; rfl⟩) J ?_
    try simp only [Act.put, List.getElem_toArray, List.getElem_cons_zero, List.getElem_cons_succ, List.setIfInBounds_toArray, List.set_cons_zero, List.set_cons_succ]
    refine wpAnyH_take (i := 10) (v := .pointer (some ⟨gR, to * 3, none⟩)) rfl (by kernel_rfl) (by kernel_rfl) (by kernel_rfl) (fun _ _ _ h => nomatch h.1) (.inl ⟨by rfl, fun V hV => by go_simp⟩) J ?_
    try simp only [Act.put, List.getElem_toArray, List.getElem_cons_zero, List.getElem_cons_succ, List.setIfInBounds_toArray, List.set_cons_zero, List.set_cons_succ]
    refine wpAnyH_ready (rs := [11]) (by kernel_rfl) (by simp) ?_
    refine AllReadyH.cons rfl (fun K hK => ?_) AllReadyH.nil
    try simp only [Act.put, List.getElem_toArray, List.getElem_cons_zero, List.getElem_cons_succ, List.setIfInBounds_toArray, List.set_cons_zero, List.set_cons_succ]
    refine wp_op_storeR (.tmp 78) (.tmp 77) rfl ⟨gR, to * 3, none⟩ ⟨h, 0, 0⟩ rfl rfl hst ?_
    have J := And.intro q07 q17
    refine hK.out _ _ J (fun _ => ?_)
    clear hK K
    try simp only [Act.put, List.getElem_toArray, List.getElem_cons_zero, List.getElem_cons_succ, List.setIfInBounds_toArray, List.set_cons_zero, List.set_cons_succ]
    refine wpAnyH_done (by kernel_rfl) ?_ _
    refine ⟨rfl, ?_⟩
    go_wp2_with fail
    refine bodyPost_end (results_none rfl _ _ _) rfl ?_
    exact ⟨rfl, R.set to ⟨h, 0, 0⟩, some ⟨gK, 0, none⟩, m2, c2, L.set k ((⟨x.1.n, h, t⟩, (TB, cq)) : Kw), HF.out.1, HG7.out, by rw [HE.out, List.map_set, HXN.out], fun y hy hne => mem_set_ne hy (by rw [HXE.out]; exact HOT.out y hy hne), fun y hy => (by
            rcases mem_set_orK hy with h9 | rfl
            · exact ⟨y, h9, rfl, fun a e => ⟨a, e, rfl⟩⟩
            · refine ⟨x, HX.out, rfl, fun a e => ⟨_, HEQ.out, ?_⟩⟩
              have hb := HTB.out
              simp only at e
              rw [e] at hb
              split at hb <;> cases hb <;> rfl), HF.out.2.1, HF.out.2.2⟩
end Go.Proofs.Ytolalbpjaebfdaa
namespace Go.Proofs.Ytolalbpjaebfdaa
open Go.RowKit Go.Shelf
set_option linter.unusedVariables false
set_option linter.unusedSimpArgs false
theorem RoK.base {w : World} {B m c : Nat} {A : Option Addr} {L : List Kw} (h : RoK w B A m c L) {a : Addr} (e : A = some a) : B ≤ a.block := by
  rcases h.form with ⟨e2, _⟩ | ⟨g, e2, h1, _⟩
  · rw [e] at e2; cases e2
  · rw [e] at e2; cases e2; exact h1
theorem RoR.base {w : World} {B m c : Nat} {A : Option Addr} {L : List Rn} (h : RoR w B A m c L) {a : Addr} (e : A = some a) : B ≤ a.block := by
  rcases h.form with ⟨e2, _⟩ | ⟨g, e2, h1, _⟩
  · rw [e] at e2; cases e2
  · rw [e] at e2; cases e2; exact h1
def fndN (K : List Kn) (n : Int) : Kn := match K.find? (fun x => x.n == n) with | some x => x | none => kn0
theorem fndK_N (L : List Kw) (n : Int) : (fndK L n).1.1 = fndN (L.map (·.1)) n := by
  unfold fndK lockF fndN
  induction L with
  | nil => rfl
  | cons x L ih =>
    rw [List.map_cons, List.find?_cons, List.find?_cons]
    cases h : (x.1.n == n)
    · exact ih
    · rfl
def passN (R : List Rn) (K : List Kn) (n : Int) : List Rn × List Kn := match (fndN K n).q with
  | [] => (R, putG (·.n) ⟨n, 0, []⟩ true K)
  | h :: t => (putG numR ⟨h, 0, 0⟩ false R, putG (·.n) ⟨n, h, t⟩ (h == 0) K)
structure Avd (G : Nat → Prop) (A A2 : Option Addr) (R : List Rn) (L : List Kw) : Prop where
  a : R ≠ [] → ∀ a, A = some a → ¬ G a.block
  a2 : L ≠ [] → ∀ a, A2 = some a → ¬ G a.block
  q : ∀ x ∈ L, x.1.q ≠ [] → ∀ a, x.2.1 = some a → ¬ G a.block
theorem Tq.tail {V : World} {B : Nat} {x : Kw} {h : Int} {t : List Int} {qb qo cq : Nat} (hx : Tq V B x) (hq : x.1.q = h :: t) (he : x.2.1 = some ⟨qb, qo, none⟩) (hc : x.2.2 = cq + 1) (n' h' : Int) :
    Tq V B (⟨n', h', t⟩, (if cq = 0 then some ⟨qb, qo, none⟩ else some ⟨qb, qo + 1, none⟩, cq)) := by
  have hl : t.length ≤ cq := by
    have := hx.le
    rw [hq, hc] at this
    simpa using this
  refine ⟨fun j hj => ?_, hl, ?_⟩
  · have hj' : j < t.length := hj
    obtain ⟨b, off, e, hlt, hcell⟩ := hx.ri (j + 1) (by rw [hq]; simpa using hj')
    rw [he] at e
    cases e
    rw [hq] at hcell
    refine ⟨qb, qo + 1, by rw [if_neg (by omega)], hlt, ?_⟩
    rw [show qo + 1 + j = qo + (j + 1) by omega]
    exact hcell
  · have := hx.l
    rw [hq] at this
    simp only [List.length_cons] at this
    show t.length ≤ 1000000
    omega
end Go.Proofs.Ytolalbpjaebfdaa
namespace Go.Proofs.Ytolalbpjaebfdaa
open Go.RowKit Go.Shelf
set_option linter.unusedVariables false
set_option linter.unusedSimpArgs false
def cntA (L : List Kw) (id : Int) : Nat := (L.map fun k => k.1.q.count id).sum
def cntO (L : List Kw) (n id : Int) : Nat := (L.map fun k => if (k.1.n == n) = true then k.1.q.count id else 0).sum
def qOkB (a o : Nat) (x : Rn) : Bool := if (x.s == 1) = true then (x.n != 0 && (a == 1 && o == 1)) else (x.n == 0 && a == 0)
def thereB (R : List Rn) (id : Int) : Bool := (fndR R id).2
structure RS2 (w : World) (A : Option Addr) (m c : Nat) (A2 : Option Addr) (m2 c2 : Nat) (g : Nat) (x : Rn) (V : World) : Prop where
  c : CS w A m c A2 m2 c2 V
  k : Blk V g (rnC x) 52
theorem RS2.step {w V V' : World} {A : Option Addr} {m c : Nat} {A2 : Option Addr} {m2 c2 g : Nat} {x : Rn} (h : RS2 w A m c A2 m2 c2 g x V) (b : Below V.heap.size V V') : RS2 w A m c A2 m2 c2 g x V' := ⟨h.c.step b, h.k.below b h.k.lt⟩
structure KS2 (w : World) (A : Option Addr) (m c : Nat) (A2 : Option Addr) (m2 c2 : Nat) (g : Nat) (x : Kw) (V : World) : Prop where
  c : CS w A m c A2 m2 c2 V
  k : Blk V g (kwC x) 48
theorem KS2.step {w V V' : World} {A : Option Addr} {m c : Nat} {A2 : Option Addr} {m2 c2 g : Nat} {x : Kw} (h : KS2 w A m c A2 m2 c2 g x V) (b : Below V.heap.size V V') : KS2 w A m c A2 m2 c2 g x V' := ⟨h.c.step b, h.k.below b h.k.lt⟩
end Go.Proofs.Ytolalbpjaebfdaa
namespace Go.Proofs.Ytolalbpjaebfdaa
open Go.RowKit Go.Shelf
set_option linter.unusedVariables false
set_option linter.unusedSimpArgs false
def okR (L : List Kw) (x : Rn) : Bool := decide (0 ≤ x.s) && (decide (x.s ≤ 2) && (decide (0 ≤ x.n) && (decide (x.n ≤ 40) && qOkB (cntA L x.i) (cntO L x.n x.i) x)))
def allQ (L : List Kw) : List Int := L.flatMap fun k => k.1.q
theorem cntA_all (L : List Kw) (id : Int) : cntA L id = (allQ L).count id := by
  unfold cntA allQ
  induction L with
  | nil => rfl
  | cons x L ih => rw [List.map_cons, List.sum_cons, List.flatMap_cons, List.count_append, ih]
theorem lensK_all (L : List Kw) : lensK L = (allQ L).length := by
  unfold lensK allQ
  induction L with
  | nil => rfl
  | cons x L ih => rw [List.map_cons, List.sum_cons, List.flatMap_cons, List.length_append, ih]
theorem cntO_le (L : List Kw) (n id : Int) : cntO L n id ≤ cntA L id := by
  unfold cntO cntA
  induction L with
  | nil => exact Nat.le_refl _
  | cons x L ih =>
    simp only [List.map_cons, List.sum_cons]
    split <;> omega
theorem cntO_all {L : List Kw} {n id : Int} (h : cntA L id ≤ cntO L n id) : ∀ k ∈ L, id ∈ k.1.q → k.1.n = n := by
  induction L with
  | nil => intro k hk; cases hk
  | cons x L ih =>
    have h1 := cntO_le L n id
    have e1 : cntA (x :: L) id = x.1.q.count id + cntA L id := by simp [cntA]
    have e2 : cntO (x :: L) n id = (if (x.1.n == n) = true then x.1.q.count id else 0) + cntO L n id := by simp [cntO]
    rw [e1, e2] at h
    intro k hk hid
    rcases List.mem_cons.1 hk with rfl | hk
    · by_cases hn : k.1.n = n
      · exact hn
      · rw [if_neg (by simpa using hn)] at h
        have := List.count_pos_iff.2 hid
        omega
    · refine ih ?_ k hk hid
      split at h <;> omega
theorem cntO_of {L : List Kw} {n id : Int} (h : ∀ k ∈ L, id ∈ k.1.q → k.1.n = n) : cntO L n id = cntA L id := by
  induction L with
  | nil => rfl
  | cons x L ih =>
    have e1 : cntA (x :: L) id = x.1.q.count id + cntA L id := by simp [cntA]
    have e2 : cntO (x :: L) n id = (if (x.1.n == n) = true then x.1.q.count id else 0) + cntO L n id := by simp [cntO]
    rw [e1, e2, ih (fun k hk => h k (List.mem_cons_of_mem _ hk))]
    by_cases hn : x.1.n = n
    · rw [if_pos (by simpa using hn)]
    · rw [if_neg (by simpa using hn), List.count_eq_zero.2 (fun hid => hn (h x (List.mem_cons_self ..) hid))]
theorem qB_iff (R : List Rn) (n : Int) : ∀ (q p : List Int), qB R n p q = true ↔ (∀ id ∈ q, wfB R n id = true ∧ id ∉ p) ∧ q.Nodup
  | [], p => by simp [qB]
  | x :: q, p => by
    rw [qB, Bool.and_eq_true, Bool.and_eq_true, qB_iff R n q (p ++ [x]), List.nodup_cons]
    constructor
    · rintro ⟨h1, h2, h3, h4⟩
      refine ⟨fun id hid => ?_, fun hx => ?_, h4⟩
      · rcases List.mem_cons.1 hid with rfl | hid
        · exact ⟨h1, by simpa using h2⟩
        · exact ⟨(h3 id hid).1, fun hp => (h3 id hid).2 (List.mem_append_left _ hp)⟩
      · exact (h3 x hx).2 (by simp)
    · rintro ⟨h1, h2, h4⟩
      refine ⟨(h1 x (List.mem_cons_self ..)).1, by simpa using (h1 x (List.mem_cons_self ..)).2, fun id hid => ⟨(h1 id (List.mem_cons_of_mem _ hid)).1, fun hp => ?_⟩, h4⟩
      rcases List.mem_append.1 hp with hp | hp
      · exact (h1 id (List.mem_cons_of_mem _ hid)).2 hp
      · rw [List.mem_singleton.1 hp] at hid; exact h2 hid
theorem runF_mem {R : List Rn} {x : Rn} (hu : UpR R) (hx : x ∈ R) : runF R x.i = some x := by
  unfold runF
  induction R with
  | nil => cases hx
  | cons y R ih =>
    have hu' : (y.i :: numsR R).Pairwise (· < ·) := hu
    rw [List.pairwise_cons] at hu'
    rw [List.find?_cons]
    rcases List.mem_cons.1 hx with rfl | hx
    · simp
    · have hne : (y.i == x.i) = false := by
        have := hu'.1 x.i (List.mem_map.2 ⟨x, hx, rfl⟩)
        simp; omega
      rw [hne]
      exact ih hu'.2 hx
theorem runF_is {R : List Rn} {id : Int} {x : Rn} (h : runF R id = some x) : x ∈ R ∧ x.i = id := by
  refine ⟨List.mem_of_find?_eq_some h, ?_⟩
  have := List.find?_some h
  simpa using this
theorem sub_len : ∀ {Q W : List Int}, Q.Nodup → (∀ x ∈ Q, x ∈ W) → Q.length ≤ W.length
  | [], W, _, _ => Nat.zero_le _
  | x :: Q, W, hn, hs => by
    rw [List.nodup_cons] at hn
    have hx := hs x (List.mem_cons_self ..)
    have h1 : ∀ y ∈ Q, y ∈ W.erase x := fun y hy => (List.mem_erase_of_ne (fun e : y = x => hn.1 (by rw [← e]; exact hy))).2 (hs y (List.mem_cons_of_mem _ hy))
    have h2 := sub_len hn.2 h1
    rw [List.length_erase_of_mem hx] at h2
    have := List.length_pos_of_mem hx
    rw [List.length_cons]; omega
theorem sub_back {Q W : List Int} (hn : Q.Nodup) (hs : ∀ x ∈ Q, x ∈ W) (hl : W.length ≤ Q.length) : ∀ x ∈ W, x ∈ Q := fun x hx => by
  apply Classical.byContradiction
  intro h
  have := sub_len (Q := x :: Q) (W := W) (List.nodup_cons.2 ⟨h, hn⟩) (fun y hy => by
    rcases List.mem_cons.1 hy with rfl | hy
    · exact hx
    · exact hs y hy)
  rw [List.length_cons] at this; omega
def waitsL (R : List Rn) : List Int := (R.filter waitB).map (·.i)
theorem waitsL_len (R : List Rn) : (waitsL R).length = R.countP waitB := by unfold waitsL; rw [List.length_map, List.countP_eq_length_filter]
theorem waitsL_nodup {R : List Rn} (hu : UpR R) : (waitsL R).Nodup := by
  have h1 : (waitsL R).Sublist (numsR R) := List.filter_sublist.map _
  exact (hu.sublist h1).imp (fun h => by omega)
theorem nodup_count {Q : List Int} (h : ∀ x ∈ Q, Q.count x = 1) : Q.Nodup := by
  rw [List.nodup_iff_count]
  intro x
  by_cases hx : x ∈ Q
  · rw [h x hx]; exact Nat.le_refl _
  · rw [List.count_eq_zero.2 hx]; exact Nat.zero_le _
theorem mem_allQ {L : List Kw} {id : Int} : id ∈ allQ L ↔ ∃ k ∈ L, id ∈ k.1.q := List.mem_flatMap
theorem wfB_iff {R : List Rn} {n id : Int} : wfB R n id = true ↔ runF R id = some ⟨id, 1, n⟩ := by
  unfold wfB
  cases hr : runF R id with
  | none => simp
  | some x =>
    obtain ⟨xi, xs, xn⟩ := x
    simp only [sameR, Bool.and_eq_true, beq_iff_eq, Option.some.injEq, Rn.mk.injEq]
theorem que_iff {R : List Rn} {L : List Kw} (hR : riseT 20 0 (numsR R) = true) (hK : riseT 40 0 (numsK L) = true) :
    ((∀ x ∈ R, okR L x = true) ∧ ∀ k ∈ L, k.1.q.all (thereB R) = true) ↔ (R.any strB = false ∧ queB R L = true) := by
  have uR : UpR R := (riseT_up hR).1
  have uK : UpK L := (riseT_up hK).1
  have lK : ∀ k ∈ L, 1 ≤ k.1.n ∧ k.1.n ≤ 40 := fun k hk => by
    have := (riseT_up hK).2 k.1.n (List.mem_map.2 ⟨k, hk, rfl⟩)
    omega
  constructor
  · rintro ⟨h1, h2⟩
    have hs : ∀ x ∈ R, (0 ≤ x.s ∧ x.s ≤ 2 ∧ 0 ≤ x.n ∧ x.n ≤ 40) ∧ (x.s = 1 → x.n ≠ 0 ∧ cntA L x.i = 1 ∧ cntO L x.n x.i = 1) ∧ (x.s ≠ 1 → x.n = 0 ∧ cntA L x.i = 0) := fun x hx => by
      have h3 := h1 x hx
      simp only [okR, qOkB, Bool.and_eq_true, decide_eq_true_iff] at h3
      obtain ⟨a1, a2, a3, a4, a5⟩ := h3
      refine ⟨⟨a1, a2, a3, a4⟩, fun e => ?_, fun e => ?_⟩
      · rw [if_pos (by simpa using e)] at a5
        simpa using a5
      · rw [if_neg (by simpa using e)] at a5
        simpa using a5
    
    have hw : ∀ k ∈ L, ∀ id ∈ k.1.q, ∃ x ∈ R, x.i = id ∧ runF R id = some x ∧ x.s = 1 ∧ x.n = k.1.n ∧ (allQ L).count id = 1 := fun k hk id hid => by
      have h3 := List.all_eq_true.1 (h2 k hk) id hid
      unfold thereB fndR at h3
      cases hr : runF R id with
      | none => rw [hr] at h3; cases h3
      | some x =>
        obtain ⟨hx, rfl⟩ := runF_is hr
        obtain ⟨_, h4, h5⟩ := hs x hx
        have h6 : 0 < cntA L x.i := by
          rw [cntA_all]
          exact List.count_pos_iff.2 (mem_allQ.2 ⟨k, hk, hid⟩)
        have h7 : x.s = 1 := by
          apply Classical.byContradiction
          intro hne
          have := (h5 hne).2
          omega
        obtain ⟨_, h8, h9⟩ := h4 h7
        exact ⟨x, hx, rfl, rfl, h7, (cntO_all (by omega) k hk hid).symm, by rw [← cntA_all]; exact h8⟩
    have hn : (allQ L).Nodup := nodup_count fun id hid => by
      obtain ⟨k, hk, h3⟩ := mem_allQ.1 hid
      obtain ⟨_, _, _, _, _, _, h4⟩ := hw k hk id h3
      exact h4
    refine ⟨?_, ?_⟩
    · rw [List.any_eq_false]
      intro x hx
      obtain ⟨⟨a1, a2, _, _⟩, _, h5⟩ := hs x hx
      simp only [strB, waitB, Bool.or_eq_true, Bool.and_eq_true, decide_eq_true_iff, Bool.not_eq_true', beq_eq_false_iff_ne, bne_iff_ne, not_or, not_and, ne_eq]
      exact ⟨by omega, by omega, fun h6 h7 => h6 (h5 h7).1⟩
    · unfold queB
      rw [Bool.and_eq_true]
      constructor
      · rw [List.all_eq_true]
        intro k hk
        unfold lockQ
        rw [qB_iff]
        refine ⟨fun id hid => ⟨?_, by simp⟩, ?_⟩
        · obtain ⟨x, hx, e1, e2, e3, e4, _⟩ := hw k hk id hid
          rw [wfB_iff, e2]
          obtain ⟨xi, xs, xn⟩ := x
          simp only at e1 e3 e4
          rw [e1, e3, e4]
        · exact List.Nodup.sublist (by
            obtain ⟨s, t, rfl⟩ := List.append_of_mem hk
            unfold allQ
            rw [List.flatMap_append, List.flatMap_cons]
            exact (List.sublist_append_left _ _).trans (List.sublist_append_right _ _)) hn
      · have e : (allQ L).length = (waitsL R).length := by
          apply Nat.le_antisymm
          · refine sub_len hn fun id hid => ?_
            obtain ⟨k, hk, h3⟩ := mem_allQ.1 hid
            obtain ⟨x, hx, e1, e2, e3, e4, _⟩ := hw k hk id h3
            exact List.mem_map.2 ⟨x, List.mem_filter.2 ⟨hx, by simp [waitB, e3]⟩, e1⟩
          · refine sub_len (waitsL_nodup uR) fun id hid => ?_
            obtain ⟨x, hx, rfl⟩ := List.mem_map.1 hid
            obtain ⟨hx, h3⟩ := List.mem_filter.1 hx
            have h4 := ((hs x hx).2.1 (by simpa [waitB] using h3)).2.1
            rw [cntA_all] at h4
            exact List.count_pos_iff.1 (by omega)
        rw [lensK_all, e, waitsL_len]
        simp
  · rintro ⟨h1, h2⟩
    unfold queB at h2
    rw [Bool.and_eq_true, List.all_eq_true] at h2
    obtain ⟨h2, h3⟩ := h2
    have hw : ∀ k ∈ L, ∀ id ∈ k.1.q, runF R id = some ⟨id, 1, k.1.n⟩ := fun k hk id hid => by
      have := h2 k hk
      unfold lockQ at this
      rw [qB_iff] at this
      exact wfB_iff.1 (this.1 id hid).1
    have hn : (allQ L).Nodup := by
      unfold allQ
      rw [show (List.flatMap (fun k : Kw => k.1.q) L).Nodup ↔ _ from List.pairwise_flatMap]
      refine ⟨fun k hk => ?_, ?_⟩
      · have := h2 k hk
        unfold lockQ at this
        rw [qB_iff] at this
        exact this.2
      · have h4 : L.Pairwise (fun a b => a.1.n < b.1.n) := List.pairwise_map.1 uK
        refine List.Pairwise.imp_of_mem ?_ h4
        intro a b ha hb hlt x hx y hy e
        subst e
        have e1 := hw a ha x hx
        rw [hw b hb x hy] at e1
        simp only [Option.some.injEq, Rn.mk.injEq, true_and] at e1
        omega
    have hsub : ∀ id ∈ allQ L, id ∈ waitsL R := fun id hid => by
      obtain ⟨k, hk, h4⟩ := mem_allQ.1 hid
      have h5 := hw k hk id h4
      exact List.mem_map.2 ⟨_, List.mem_filter.2 ⟨(runF_is h5).1, rfl⟩, rfl⟩
    have hback := sub_back hn hsub (by
      rw [waitsL_len, ← lensK_all]
      have : (R.countP waitB : Int) - (lensK L : Nat) = 0 := by simpa using h3
      omega)
    rw [List.any_eq_false] at h1
    refine ⟨fun x hx => ?_, fun k hk => ?_⟩
    · have h4 := h1 x hx
      simp only [strB, waitB, Bool.or_eq_true, Bool.and_eq_true, decide_eq_true_iff, Bool.not_eq_true', beq_eq_false_iff_ne, bne_iff_ne, not_or, not_and, ne_eq] at h4
      obtain ⟨a1, a2, a3⟩ := h4
      have hr := runF_mem uR hx
      unfold okR qOkB
      by_cases hs : x.s = 1
      · have hin := hback x.i (List.mem_map.2 ⟨x, List.mem_filter.2 ⟨hx, by simp [waitB, hs]⟩, rfl⟩)
        obtain ⟨k, hk, h5⟩ := mem_allQ.1 hin
        have h6 := hw k hk x.i h5
        rw [hr] at h6
        have h7 : x.n = k.1.n := by
          have := congrArg (Option.map Rn.n) h6
          simpa using this
        have h8 := lK k hk
        have h9 : cntA L x.i = 1 := by
          rw [cntA_all]
          have := List.nodup_iff_count.1 hn x.i
          have := List.count_pos_iff.2 hin
          omega
        have h10 : cntO L x.n x.i = 1 := by
          rw [cntO_of fun k' hk' h' => ?_, h9]
          have h11 := hw k' hk' x.i h'
          rw [hr] at h11
          have := congrArg (Option.map Rn.n) h11
          simp at this
          exact this.symm
        rw [if_pos (by simpa using hs), h9, h10]
        simp only [Bool.and_eq_true, decide_eq_true_iff]
        exact ⟨by omega, by omega, by omega, by omega, by simp; omega⟩
      · have h5 : x.n = 0 := by
          apply Classical.byContradiction
          intro h; exact (a3 h) hs
        have h6 : cntA L x.i = 0 := by
          rw [cntA_all, List.count_eq_zero]
          intro hid
          obtain ⟨k, hk, h7⟩ := mem_allQ.1 hid
          have h8 := hw k hk x.i h7
          rw [hr] at h8
          have := congrArg (Option.map Rn.s) h8
          simp at this
          exact hs this
        rw [if_neg (by simpa using hs), h5, h6]
        simp only [Bool.and_eq_true, decide_eq_true_iff]
        exact ⟨by omega, by omega, by omega, by omega, by simp⟩
    · rw [List.all_eq_true]
      intro id hid
      unfold thereB fndR
      rw [hw k hk id hid]
end Go.Proofs.Ytolalbpjaebfdaa

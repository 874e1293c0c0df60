/-
  The law's spoil: it writes over what is the call's own, and over nothing else.
-/
import Derived.Test.YtlelhhgggnjndaaGreatQTrE
namespace Go.Proofs.YtlelhhgggnjndaaGreat
open Go.RowKit Go.Shelf
set_option linter.unusedVariables false
set_option linter.unusedSimpArgs false
theorem zo_put {V : World} {B m c g k : Nat} {A : Option Addr} {l : List Int} {v : Int} (h : Zo V B A m c l) : ∃ l', l'.length = l.length ∧ Zo (V.setCell ⟨g, k, none⟩ (.int .i64 v)) B A m c l' := by
  have n5 : But g V (V.setCell ⟨g, k, none⟩ (.int .i64 v)) := (But.refl g V).setCell (p := ⟨g, k, none⟩) (.inl rfl) _
  by_cases e : (Value.slice A m c).ownBlock = some g
  · have hA : A = some ⟨g, 0, none⟩ := by
      rcases h.form with ⟨rfl, _⟩ | ⟨g', rfl, _⟩
      · cases e
      · have e' : some g' = some g := e
        cases e'; rfl
    subst hA
    refine ⟨l.set k v, by simp, ?_⟩
    have hs := (World.ownsRow.stored h k (.int .i64 v)).1
    unfold Zo
    rw [List.map_set]
    exact hs
  · exact ⟨l, rfl, own_but h n5 (fun e2 => e e2.symm)⟩
theorem own_rows {V' : World} {B : Nat} : ∀ {L : List Pw}, (∀ x ∈ L, ∃ l', l'.length = x.1.t.length ∧ Zo V' B x.2.1 x.1.t.length x.2.2 l') → ∃ L' : List Pw, L'.length = L.length ∧ flatP L' = flatP L ∧ (∀ j, (L'.getD j pw0).1.t.length = (L.getD j pw0).1.t.length) ∧ (∀ x ∈ L', Zo V' B x.2.1 x.1.t.length x.2.2 x.1.t) ∧ L'.map (·.2) = L.map (·.2)
  | [], _ => ⟨[], rfl, rfl, fun _ => rfl, fun x hx => (by cases hx), rfl⟩
  | x :: L, h => by
    obtain ⟨L', h1, h2, h3, h4, h5⟩ := own_rows (L := L) (fun y hy => h y (List.mem_cons_of_mem _ hy))
    obtain ⟨l', e, z⟩ := h x (List.mem_cons_self ..)
    refine ⟨(⟨x.1.i, x.1.p, l'⟩, x.2) :: L', by simp [h1], ?_, fun j => ?_, fun y hy => ?_, by rw [List.map_cons, List.map_cons, h5]⟩
    · rw [flatP_cons, flatP_cons, h2]
      congr 1
      unfold prC
      simp only [e]
    · cases j with
      | zero => exact e
      | succ j => simpa [List.getD] using h3 j
    · rcases List.mem_cons.1 hy with rfl | hy
      · show Zo V' B x.2.1 l'.length x.2.2 l'
        rw [e]; exact z
      · exact h4 y hy
theorem OwnW.put {V : World} {B um uc m c g k : Nat} {Ua A : Option Addr} {U : List Int} {L : List Pw} {v : Int} {cs : Array Value} (o : OwnW V B Ua um uc U A m c L) (kb : Blk V g cs 3) : ∃ U' L', OwnW (V.setCell ⟨g, k, none⟩ (.int .i64 v)) B Ua um uc U' A m c L' ∧ L'.length = L.length ∧ (∀ j, (L'.getD j pw0).1.t.length = (L.getD j pw0).1.t.length) ∧ L'.map (·.2) = L.map (·.2) := by
  have n5 : But g V (V.setCell ⟨g, k, none⟩ (.int .i64 v)) := (But.refl g V).setCell (p := ⟨g, k, none⟩) (.inl rfl) _
  obtain ⟨U', _, zu⟩ := zo_put (g := g) (k := k) (v := v) o.u
  obtain ⟨L', h1, h2, h3, h4, h5⟩ := own_rows (V' := V.setCell ⟨g, k, none⟩ (.int .i64 v)) (B := B) (L := L) (fun x hx => zo_put (o.q x hx))
  refine ⟨U', L', ⟨zu, ?_, h4⟩, h1, h3, h5⟩
  have := own_kind o.p (grown_but n5) (fun g' e => by cases e; exact ⟨_, _, kb, by decide⟩)
  unfold RoP
  rw [h2]
  exact this
structure Kp (B E : Nat) (w V : World) : Prop where
  b : Below B w V
  e : ∀ g, E ≤ g → g < w.heap.size → V.heap[g]? = w.heap[g]?
structure LtE (E : Nat) (Ua A : Option Addr) (T : List (Option Addr × Nat)) : Prop where
  u : ∀ a, Ua = some a → a.block < E
  p : ∀ a, A = some a → a.block < E
  q : ∀ x ∈ T, ∀ a, x.1 = some a → a.block < E
theorem zo_lt {V : World} {B m c : Nat} {A : Option Addr} {l : List Int} (h : Zo V B A m c l) : ∀ a, A = some a → a.block < V.heap.size := fun a e => by
  rcases h.form with ⟨e0, _⟩ | ⟨g, e0, _, hl, _⟩
  · rw [e0] at e; cases e
  · rw [e0] at e; cases e; exact hl
theorem OwnW.lt {V : World} {B um uc m c : Nat} {Ua A : Option Addr} {U : List Int} {L : List Pw} (h : OwnW V B Ua um uc U A m c L) : LtE V.heap.size Ua A (L.map (·.2)) := ⟨zo_lt h.u, fun a e => by
  rcases h.p.form with ⟨e0, _⟩ | ⟨g, e0, _, hl, _⟩
  · rw [e0] at e; cases e
  · rw [e0] at e; cases e; exact hl, fun x hx a e => by
  obtain ⟨y, hy, rfl⟩ := List.mem_map.1 hx
  exact zo_lt (h.q y hy) a e⟩
theorem Kp.but {B E g : Nat} {w V V' : World} (h : Kp B E w V) (hs : B ≤ V.heap.size) (n : But g V V') (h1 : B ≤ g) (h2 : g < E) : Kp B E w V' :=
  ⟨h.b.trans (n.below B h1 hs), fun g' h3 h4 => (n.block g' (Nat.lt_of_lt_of_le h4 h.b.size) (by omega)).trans (h.e g' h3 h4)⟩
structure SpS (w : World) (B E : Nat) (a : Int) (Ua : Option Addr) (um uc : Nat) (A : Option Addr) (m c : Nat) (U : List Int) (L : List Pw) (V : World) : Prop where
  k : Blk V w.heap.size (tkC a Ua um uc A m c) 27
  o : OwnW V B Ua um uc U A m c L
  b : Kp B E w V
  s : B ≤ w.heap.size
  f : LtE E Ua A (L.map (·.2))
section
variable {w V : World} {B E um uc m c g j k gP : Nat} {a v : Int} {Ua A : Option Addr} {U : List Int} {L : List Pw} {cs : Array Value}
theorem SpS.put (h : SpS w B E a Ua um uc A m c U L V) (hB : B ≤ g) (hE : g < E) (kb : Blk V g cs 3) : ∃ U' L', SpS w B E a Ua um uc A m c U' L' (V.setCell ⟨g, k, none⟩ (.int .i64 v)) ∧ L'.length = L.length ∧ (∀ j, (L'.getD j pw0).1.t.length = (L.getD j pw0).1.t.length) := by
  have n5 : But g V (V.setCell ⟨g, k, none⟩ (.int .i64 v)) := (But.refl g V).setCell (p := ⟨g, k, none⟩) (.inl rfl) _
  obtain ⟨U', L', o', h1, h2, h3⟩ := h.o.put (k := k) (v := v) kb
  exact ⟨U', L', ⟨n5.blk7 h.k (fun e => by have k9 := h.k; rw [e] at k9; exact absurd (blk_kind k9 kb) (by decide)), o', h.b.but (Nat.le_trans h.s h.b.b.size) n5 hB hE, h.s, by rw [h3]; exact h.f⟩, h1, h2⟩
theorem SpS.par (h : SpS w B E a Ua um uc (some ⟨gP, 0, none⟩) m c U L V) (hj : j < L.length) : SpS w B E a Ua um uc (some ⟨gP, 0, none⟩) m c U (L.set j (reP (L.getD j pw0) v)) (V.setCell ⟨gP, j * 3 + 1, none⟩ (.int .i64 v)) := by
  have n5 : But gP V (V.setCell ⟨gP, j * 3 + 1, none⟩ (.int .i64 v)) := (But.refl gP V).setCell (p := ⟨gP, j * 3 + 1, none⟩) (.inl rfl) _
  obtain ⟨curP, kP⟩ := roP_blk h.o.p rfl
  have hg : B ≤ gP := by
    rcases h.o.p.form with ⟨e, _⟩ | ⟨g9, e, h2, _⟩
    · cases e
    · cases e; exact h2
  have hm : (L.set j (reP (L.getD j pw0) v)).map (·.2) = L.map (·.2) := by
    rw [List.map_set]
    have : (reP (L.getD j pw0) v).2 = (L.map (·.2))[j]'(by simpa using hj) := by simp [reP, List.getD, hj]
    rw [this, List.set_getElem_self]
  exact ⟨n5.blk7 h.k (fun e => by have k9 := h.k; rw [e] at k9; exact absurd (blk_kind k9 kP) (by decide)), h.o.setP hj v, h.b.but (Nat.le_trans h.s h.b.b.size) n5 hg (h.f.p _ rfl), h.s, by rw [hm]; exact h.f⟩
end
set_option maxRecDepth 100000 in
set_option maxHeartbeats 8000000 in
theorem spoil_tk (a : Int) (Ua : Option Addr) (um uc : Nat) (U : List Int) (A : Option Addr) (m c : Nat) (L : List Pw) (B : Nat) (w : World) (h : OwnW w B Ua um uc U A m c L) (hB : B ≤ w.heap.size) (hu6 : um ≤ 1000000) (hm6 : m ≤ 1000000) (hq6 : ∀ j, (L.getD j pw0).1.t.length ≤ 1000000) (E : Nat) (hE : LtE E Ua A (L.map (·.2))) :
    Calls Tryz.prog 12 #[tkV a Ua um uc A m c] w fun e w' => e = .returned (.tuple #[]) ∧ Kp B E w w' := by
  have k1 := Blk.new w (tkC a Ua um uc A m c) 27
  have b1 : Below w.heap.size w (w.alloc (.cells (tkC a Ua um uc A m c) 27)) := (Below.refl _ _).alloc (Nat.le_refl _) _
  have J0 : SpS w B E a Ua um uc A m c U L (w.alloc (.cells (tkC a Ua um uc A m c) 27)) := ⟨k1, h.below b1 (Nat.le_refl _), ⟨b1.mono hB, fun g h1 h2 => b1.block g h2⟩, hB, hE⟩
  have HQ := Lib.hid hq6
  have c2 : (w.alloc (.cells (tkC a Ua um uc A m c) 27)).cell? ⟨w.heap.size, 2, none⟩ = some (.slice A m c) := k1.cell 2
  clear h k1 b1 hq6 hE
  unfold tkV
  go_enter Tryz.func12, Tryz.ntmps12
  go_wp2_with fail
  clear c2
  have HJ0 := Lib.hid J0
  clear J0
  go_loopw [8] (fun i wr' => ∃ (k : Nat) (U1 : List Int) (L1 : List Pw) (wr : World), wr = wr' ∧ k ≤ m ∧ i = .int .i64 k ∧ Hid (∀ j, (L1.getD j pw0).1.t.length = (L.getD j pw0).1.t.length) ∧ Hid (SpS w B E a Ua um uc A m c U1 L1 wr)) (fun i _ => m - (intOf i).toNat)
  case atStart => exact ⟨0, U, L, _, rfl, Nat.zero_le _, rfl, Lib.hid (fun _ => rfl), HJ0⟩
  case round =>
    clear HJ0
    obtain ⟨k, U1, L1, wr, hwr, hk, rfl, HN, HJ⟩ := hrel
    subst hwr
    have J := HJ.out
    clear HJ
    by_cases hlt : k < m
    · have hlt' : (k : Int) < (m : Int) := by omega
      have hkl : k < L1.length := by have := J.o.p.len; omega
      obtain ⟨gP, hA, _, _⟩ := J.o.p.at0 (by omega)
      subst hA
      have c2 : wr.cell? ⟨w.heap.size, 2, none⟩ = some (.slice (some ⟨gP, 0, none⟩) m c) := J.k.cell 2
      obtain ⟨b8, off8, he8, _, hc8⟩ := J.o.p.rs k hkl
      cases he8
      rw [Nat.zero_add] at hc8
      have r1 : wr.cell? ⟨gP, k * 3 + 1, none⟩ = some (.int .i64 (L1.getD k pw0).1.p) := hc8 1 _ rfl
      have f1 := World.ownsRow.frozenAt J.o.p (k * 3 + 1)
      have J1 := J.par (v := 99) hkl
      have hn1 : ∀ j, ((L1.set k (reP (L1.getD k pw0) 99)).getD j pw0).1.t.length = (L.getD j pw0).1.t.length := fun j => by
        rw [getD_setP hkl]
        split
        · rename_i e; rw [e]; exact HN.out k
        · exact HN.out j
      have hl1 : (L1.set k (reP (L1.getD k pw0) 99)).length = m := by rw [List.length_set]; exact J.o.p.len.symm
      have HJ1 := Lib.hid (And.intro J1 (And.intro hn1 hl1))
      clear J J1 hn1 hl1 hc8 hkl HN
      go_upto_region 5 with fail
      generalize L1.set k (reP (L1.getD k pw0) 99) = L2 at HJ1
      obtain ⟨V1, hV1⟩ : ∃ W, wr.setCell ⟨gP, k * 3 + 1, none⟩ (.int .i64 99) = W := ⟨_, rfl⟩
      rw [hV1] at HJ1 ⊢
      clear hV1 c2 r1 f1
      have c2 : V1.cell? ⟨w.heap.size, 2, none⟩ = some (.slice (some ⟨gP, 0, none⟩) m c) := HJ1.out.1.k.cell 2
      obtain ⟨b8, off8, he8, _, hc8⟩ := HJ1.out.1.o.p.rs k (by have := HJ1.out.2.2; omega)
      cases he8
      rw [Nat.zero_add] at hc8
      obtain ⟨n, hn⟩ : ∃ n, (L2.getD k pw0).1.t.length = n := ⟨_, rfl⟩
      have r2 : V1.cell? ⟨gP, k * 3 + 2, none⟩ = some (.slice (L2.getD k pw0).2.1 n (L2.getD k pw0).2.2) := by rw [← hn]; exact hc8 2 _ rfl
      have hn6 : n ≤ 1000000 := by rw [← hn, HJ1.out.2.1]; exact HQ.out k
      have HNN := Lib.hid hn
      clear hc8 hn
      go_wp2_with fail
      clear c2 r2
      go_loopw [23] (fun i wr' => ∃ (q : Nat) (U3 : List Int) (L3 : List Pw) (wr : World), wr = wr' ∧ q ≤ n ∧ i = .int .i64 q ∧ Hid (∀ j, (L3.getD j pw0).1.t.length = (L2.getD j pw0).1.t.length) ∧ Hid (SpS w B E a Ua um uc (some ⟨gP, 0, none⟩) m c U3 L3 wr)) (fun i _ => n - (intOf i).toNat)
      case atStart => exact ⟨0, U1, L2, _, rfl, Nat.zero_le _, rfl, Lib.hid (fun _ => rfl), Lib.hid HJ1.out.1⟩
      case round =>
        obtain ⟨q, U3, L3, ws, hws, hq, rfl, HN3, HJ3⟩ := hrel
        subst hws
        have J := HJ3.out
        clear HJ3
        by_cases hqn : q < n
        · have hqn' : (q : Int) < (n : Int) := by omega
          have hkl : k < L3.length := by have := J.o.p.len; omega
          have c2 : ws.cell? ⟨w.heap.size, 2, none⟩ = some (.slice (some ⟨gP, 0, none⟩) m c) := J.k.cell 2
          obtain ⟨b8, off8, he8, _, hc8⟩ := J.o.p.rs k hkl
          cases he8
          rw [Nat.zero_add] at hc8
          have hx : L3.getD k pw0 ∈ L3 := by rw [show L3.getD k pw0 = L3[k] by simp [List.getD, hkl]]; exact List.getElem_mem hkl
          have hz := J.o.q _ hx
          have hxn : (L3.getD k pw0).1.t.length = n := by rw [HN3.out, HNN.out]
          have r2 : ws.cell? ⟨gP, k * 3 + 2, none⟩ = some (.slice (L3.getD k pw0).2.1 n (L3.getD k pw0).2.2) := by rw [← hxn]; exact hc8 2 _ rfl
          rcases hz.form with ⟨_, h0, _⟩ | ⟨g, e, hgB, hgl, cur, hh, _⟩
          · omega
          · have f3 : ws.frozen? ⟨g, q, none⟩ = false := by
              have hz2 := hz
              rw [e] at hz2
              have := World.ownsRow.frozenAt hz2 q
              simpa using this
            obtain ⟨b9, off9, e9, _, r3⟩ := hz.ri q (by omega)
            rw [e] at r2
            have e9' : some (⟨g, 0, none⟩ : Addr) = some ⟨b9, off9, none⟩ := e.symm.trans e9
            cases e9'
            rw [Nat.zero_add] at r3
            have hgE : g < E := J.f.q _ (List.mem_map.2 ⟨_, hx, rfl⟩) _ e
            obtain ⟨U4, L4, J4, hl4, hn4⟩ := J.put (k := q) (v := 99) hgB hgE ⟨hh⟩
            have HN4 := Lib.hid (fun j => (hn4 j).trans (HN3.out j))
            have HJ4 := Lib.hid J4
            generalize (L3.getD k pw0).2.2 = xc at r2
            generalize (L3.getD k pw0).1.t.getD q 0 = xv at r3
            clear hz hx hxn hc8 J J4 hn4 hh e hgB hgl e9 HN3 hgE
            go_wp2_with fail
            go_roundw
            case rel => exact ⟨q + 1, U4, L4, _, rfl, by omega, by go_num, HN4, HJ4⟩
            case measure => simp [intOf]; omega
        · obtain rfl : q = n := by omega
          go_wp2_with fail
          go_roundw
          case rel => exact ⟨k + 1, U3, L3, _, rfl, by omega, by go_num, Lib.hid (fun j => (HN3.out j).trans (HJ1.out.2.1 j)), Lib.hid J⟩
          case measure => simp [intOf]; omega
    · obtain rfl : k = m := by omega
      have c1 : wr.cell? ⟨w.heap.size, 1, none⟩ = some (.slice Ua um uc) := J.k.cell 1
      go_wp2_with fail
      clear c1
      have HJ1 := Lib.hid J
      clear J
      go_loopw [40] (fun i wr' => ∃ (q : Nat) (U3 : List Int) (L3 : List Pw) (wr : World), wr = wr' ∧ q ≤ um ∧ i = .int .i64 q ∧ Hid (SpS w B E a Ua um uc A k c U3 L3 wr)) (fun i _ => um - (intOf i).toNat)
      case atStart => exact ⟨0, U1, L1, _, rfl, Nat.zero_le _, rfl, HJ1⟩
      case round =>
        obtain ⟨q, U3, L3, ws, hws, hq, rfl, HJ3⟩ := hrel
        subst hws
        have J := HJ3.out
        clear HJ3 HJ1
        by_cases hqn : q < um
        · have hqn' : (q : Int) < (um : Int) := by omega
          have c1 : ws.cell? ⟨w.heap.size, 1, none⟩ = some (.slice Ua um uc) := J.k.cell 1
          have hz := J.o.u
          have hzl := hz.len
          rcases hz.form with ⟨_, h0, _⟩ | ⟨g, e, hgB, hgl, cur, hh, _⟩
          · omega
          · subst e
            have f3 : ws.frozen? ⟨g, q, none⟩ = false := by
              have := World.ownsRow.frozenAt hz q
              simpa using this
            obtain ⟨b9, off9, e9, _, r3⟩ := hz.ri q (by omega)
            cases e9
            rw [Nat.zero_add] at r3
            have hgE : g < E := J.f.u _ rfl
            obtain ⟨U4, L4, J4, _, _⟩ := J.put (k := q) (v := 99) hgB hgE ⟨hh⟩
            have HJ4 := Lib.hid J4
            generalize U3.getD q 0 = xv at r3
            clear hz hzl J J4 hh hgB hgl hgE
            go_wp2_with fail
            go_roundw
            case rel => exact ⟨q + 1, U4, L4, _, rfl, by omega, by go_num, HJ4⟩
            case measure => simp [intOf]; omega
        · obtain rfl : q = um := by omega
          go_wp2_with fail
          refine bodyPost_end (results_none rfl _ _ _) rfl ?_
          exact ⟨rfl, J.b⟩
theorem own_kp {V V' : World} {B E base e size n : Nat} {v : Value} {xs : List Value} (h : V.ownsRow base e size v n xs) (hE : E ≤ base) (kp : Kp B E V V') : V'.ownsRow base e size v n xs := by
  refine ⟨h.1, ?_⟩
  rcases h.2 with h0 | ⟨g', cap, cur, hv, hb, hh, r⟩
  · exact .inl h0
  · exact .inr ⟨g', cap, cur, hv, hb, (kp.e g' (Nat.le_trans hE hb) (Array.getElem?_eq_some_iff.1 hh).1).trans hh, r⟩
theorem OwnT.kp {V V' : World} {B E B' um uc m c : Nat} {Ua A : Option Addr} {U : List Int} {L : List Pw} (h : OwnT V B' Ua um uc U A m c L) (hE : E ≤ B') (kp : Kp B E V V') : OwnT V' B' Ua um uc U A m c L := ⟨own_kp h.u hE kp, own_kp h.p hE kp, fun x hx => own_kp (h.q x hx) hE kp, h.qd, h.ud⟩
theorem blk_kp {V V' : World} {B E g : Nat} {cs : Array Value} {t : TypeId} (k : Blk V g cs t) (hE : E ≤ g) (kp : Kp B E V V') : Blk V' g cs t := ⟨(kp.e g hE k.lt).trans k.blk⟩
end Go.Proofs.YtlelhhgggnjndaaGreat

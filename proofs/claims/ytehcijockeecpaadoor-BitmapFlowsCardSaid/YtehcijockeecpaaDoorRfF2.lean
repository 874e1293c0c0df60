/-
  The reference's Flow: plain lemmas for its inner rounds.
-/
import Derived.Test.YtehcijockeecpaaDoorRfF1
namespace Go.Proofs.YtehcijockeecpaaDoor
open Go.RowKit
set_option linter.unusedVariables false
theorem plc_len {hd : Int → Int → Int → Bool} (q : Ins) (i : Nat) (s : StS) : (plcR hd q i s).length ≤ 2 := by
  unfold plcR
  repeat' split
  all_goals simp
section
variable {w V V' : World} {m g8 g12 B : Nat} {L L' : List StS} {A10 : Option Addr} {c10 : Nat} {rs : List Ab} {PA : Option Addr} {ps : List Nat} {t : StS} {RA : Option Addr} {rs' : List Ab}
theorem nx_range {p r : Value} {g : Nat} {ty : TypeId} (h : Blk V g (nxC p t r) ty) (hl : t.m.length = 16) : V.rangeAt g 1 (stC t).toList := fun j v hv => by
  have hs := st_size hl
  have hj : j < 37 := by
    have := (List.getElem?_eq_some_iff.1 hv).1
    rwa [Array.length_toList, hs] at this
  rw [h.cell]
  unfold nxC
  rw [Array.getElem?_append_left (by simp [hs]; omega), Array.getElem?_append_right (by simp)]
  rw [← hv]
  simp
theorem nx_0 {p r : Value} : (nxC p t r)[0]? = some p := by
  unfold nxC
  rw [Array.getElem?_append_left (by simp; omega), Array.getElem?_append_left (by simp)]
  rfl
theorem nx_38 {p r : Value} (hl : t.m.length = 16) : (nxC p t r)[38]? = some r := by
  have hs := st_size hl
  unfold nxC
  rw [Array.getElem?_append_right (by simp [hs])]
  simp [hs]
theorem fold_take {j pn : Nat} (h : j < ps.length) (hp : ps.getD j 0 = pn) : (ps.take (j + 1)).foldl (putS t) L = ((ps.take j).foldl (putS t) L).set pn (joinS (((ps.take j).foldl (putS t) L).getD pn st0) t) := by
  have e : ps[j] = pn := by rw [← hp]; simp [List.getD, h]
  rw [List.take_succ_eq_append_getElem h, List.foldl_append, e]
  rfl
/-- The states, what the answer lies at, what has been collected. -/
structure QR (w V : World) (m g8 g12 : Nat) (L : List StS) (PA : Option Addr) (n : Nat) (t : StS) (RA : Option Addr) (n' : Nat) : Prop where
  q : QF w V m g8 L
  k12 : Blk V g12 (nxC (.slice PA n n) t (.slice RA n' n')) 72
theorem QR.grown {v : Value} {n n' k : Nat} {xs : List Value} {row : Option Nat} (h : QR w V m g8 g12 L PA n t RA n') (o : V.ownsRow (g8 + 1) 27 2 v k xs) (hg : V.grownBy V' row) (hr : row = v.ownBlock) : QR w V' m g8 g12 L PA n t RA n' := by
  have key : ∀ r, row = some r → g8 < r ∧ r ≠ g12 := fun r e => by
    rw [hr] at e
    rcases o.2 with ⟨rfl, _⟩ | ⟨g, cap, cur, rfl, hb, hgg, _⟩
    · cases e
    · simp [Value.ownBlock] at e
      subst e
      exact ⟨by omega, blk_ne ⟨hgg⟩ h.k12 abs_ne_next⟩
  have h8 := h.q.h8
  have blk : ∀ k, k < V.heap.size → (k ≤ g8 ∨ k = g12) → V'.heap[k]? = V.heap[k]? := fun k hk hc => hg.block k hk (fun e => by have := key k e.symm; omega)
  refine ⟨⟨⟨(blk _ h.q.k7.lt (by omega)).trans h.q.k7.blk⟩, ⟨(blk _ h.q.k8.lt (by omega)).trans h.q.k8.blk⟩, h8, h.q.hL, ?_⟩, ⟨(blk _ h.k12.lt (by omega)).trans h.k12.blk⟩⟩
  refine ⟨hg.os.trans h.q.old.os, hg.tape.trans h.q.old.tape, hg.output.trans h.q.old.output, Nat.le_trans h.q.old.size hg.size, fun k hk => ?_⟩
  have h7 := h.q.k7.lt
  exact (blk k (by omega) (by omega)).trans (h.q.old.block k hk)
theorem QR.below {n n' : Nat} (h : QR w V m g8 g12 L PA n t RA n') (hb : Below V.heap.size V V') : QR w V' m g8 g12 L PA n t RA n' := ⟨h.q.below hb, h.k12.below hb h.k12.lt⟩
/-- The call's own row of these, read. -/
theorem abs_range {v : Value} {base : Nat} (o : V.ownsRow base 27 2 v rs.length (absL rs)) {j : Nat} (hj : j < rs.length) : ∃ g c, v = .slice (some ⟨g, 0, none⟩) rs.length c ∧ rs.length ≤ c ∧ base ≤ g ∧ g < V.heap.size ∧ V.rangeAt g (j * 2) (abA (rs.getD j ab0)).toList := by
  obtain ⟨g, c, hv, hg, hc⟩ := own_head o (by omega)
  rcases o.2 with ⟨e, _⟩ | ⟨g', cap, cur, e, hb, _, hle, _⟩
  · rw [hv] at e; cases e
  · rw [hv] at e
    injection e with e1 _ e3
    injection e1 with e1
    injection e1 with e1
    subst e1 e3
    refine ⟨g, c, hv, hle, hb, hg, fun i u hu => ?_⟩
    have hi : i < 2 := by
      have := (List.getElem?_eq_some_iff.1 hu).1
      simpa [abA] using this
    exact hc _ _ ((absL_at rs j i hj hi).trans hu)
theorem results_flow7 {fn : Func} (h : fn.results = #[.tmp 6, .cell 7 27]) (tmps : Array Value) (w : World) (g : Nat) (cs : Array Value) (hp : tmps.getD 7 undef = .pointer (some ⟨g, 0, none⟩)) (hg : Blk w g cs 27) (x : Value) (hx : tmps.getD 6 undef = x)
    (hi : (Tryd.prog.info? 27).map (·.size) = some cs.size := by kernel_rfl) : (results fn tmps).run Tryd.prog w = .ok (.tuple #[x, .agg cs]) w := by
  subst hx
  have hp' : tmps[7]?.getD undef = .pointer (some ⟨g, 0, none⟩) := by simpa using hp
  simp [results, h, hp', asAddr, run_loadVar_row w g 27 27 cs (0, 0) _ hg.blk Tryd.underlying27 rfl hi]
theorem retE_take {r : Ab} {rs : List Ab} {j : Nat} (h1 : 1 ≤ j) (hj : j < (r :: rs).length) : (retE ((r :: rs).take (j + 1))).b = alikeA (retE ((r :: rs).take j)).b ((r :: rs).getD j ab0) := by
  obtain ⟨i, rfl⟩ : ∃ i, j = i + 1 := ⟨j - 1, by omega⟩
  simp only [List.length_cons] at hj
  have hi : i < rs.length := by omega
  have e : (r :: rs).getD (i + 1) ab0 = rs[i] := by simp [List.getD, hi]
  rw [e, List.take_succ_cons, List.take_succ_cons]
  show (rs.take (i + 1)).foldl alikeA r = alikeA ((rs.take i).foldl alikeA r) rs[i]
  rw [List.take_succ_eq_append_getElem hi, List.foldl_append]
  rfl
theorem own_keep1 {base e size n : Nat} {v : Value} {xs : List Value} (h : V.ownsRow base e size v n xs) (hk : ∀ g, v.ownBlock = some g → V'.heap[g]? = V.heap[g]?) : V'.ownsRow base e size v n xs := by
  refine ⟨h.1, ?_⟩
  rcases h.2 with h0 | ⟨g, cap, cur, hv, hg, hh, r⟩
  · exact .inl h0
  · exact .inr ⟨g, cap, cur, hv, hg, (hk g (by rw [hv]; rfl)).trans hh, r⟩
/-- What is told, in a block of its own. -/
structure QE (w V : World) (m g8 g10 c10 g15 : Nat) (L : List StS) (rs : List Ab) (o : Ab) : Prop where
  q : QF w V m g8 L
  k15 : Blk V g15 (abA o) 27
  own : V.ownsRow (g8 + 1) 27 2 (.slice (some ⟨g10, 0, none⟩) rs.length c10) rs.length (absL rs)
  h10 : g8 < g10
  h15 : g10 < g15
theorem QE.below {g10 g15 : Nat} {o : Ab} (h : QE w V m g8 g10 c10 g15 L rs o) (hb : Below V.heap.size V V') : QE w V' m g8 g10 c10 g15 L rs o := ⟨h.q.below hb, h.k15.below hb h.k15.lt, own_blw h.own hb, h.h10, h.h15⟩
theorem QE.put {g10 g15 : Nat} {o o' : Ab} (h : QE w V m g8 g10 c10 g15 L rs o) (k : Blk V' g15 (abA o') 27) (n : But g15 V V') : QE w V' m g8 g10 c10 g15 L rs o' := by
  have h1 := h.h10
  have h2 := h.h15
  have h8 := h.q.h8
  have hs := h.k15.lt
  refine ⟨⟨n.blk' h.q.k7 (by omega), n.blk' h.q.k8 (by omega), h8, h.q.hL, h.q.old.trans (n.below _ (by omega) h.q.old.size)⟩, k, own_keep1 h.own fun g e => ?_, h1, h2⟩
  simp [Value.ownBlock] at e
  subst e
  exact n.block _ (by omega) (by omega)
end
end Go.Proofs.YtehcijockeecpaaDoor

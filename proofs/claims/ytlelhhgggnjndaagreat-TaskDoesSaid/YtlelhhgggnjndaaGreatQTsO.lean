/-
  Ops that came in, and tasks by value, as they are opened.
-/
import Derived.Test.YtlelhhgggnjndaaGreatQTsE
import Derived.Test.YtlelhhgggnjndaaGreatQTsR
import Derived.Test.YtlelhhgggnjndaaGreatQTsP
import Derived.Test.YtlelhhgggnjndaaGreatQTqO
import Derived.Test.YtlelhhgggnjndaaGreatQTpM
import Derived.Test.YtlelhhgggnjndaaGreatQTqM
import Derived.Test.YtlelhhgggnjndaaGreatQPiRh
import Derived.Test.YtlelhhgggnjndaaGreatQTsB
import Derived.Test.YtlelhhgggnjndaaGreatQTpB
import Derived.Test.YtlelhhgggnjndaaGreatQTsI
import Derived.Deep.Slices
import Derived.Deep.Strs
import Derived.Lib.SmallJoins
import Derived.ChangeArms
import Derived.ChangeSlices
import Derived.ChangeSame
namespace Go.Proofs.YtlelhhgggnjndaaGreat
open Go.RowKit Go.Shelf
set_option linter.unusedVariables false
set_option linter.unusedSimpArgs false
def opR (k : Int) (a : Int) (U : List Int) (L : List Pw) (id : Int) : TkA :=
  if IntKind.u64.wrap k % 8 = 0 ∨ IntKind.u64.wrap k % 8 = 1 then chgT (tkE a U L) (homeF L id) (forkR a U (L.map (·.1)) (homeF L id).1)
  else if IntKind.u64.wrap k % 8 = 2 ∨ IntKind.u64.wrap k % 8 = 3 then chgT (tkE a U L) (homeF L id) (cloneR a U (L.map (·.1)) (homeF L id).1)
  else if IntKind.u64.wrap k % 8 = 4 then chgT (tkE a U L) (homeF L id) (execR a U (L.map (·.1)) (homeF L id).1)
  else if IntKind.u64.wrap k % 8 = 5 then chgT (tkE a U L) (homeF L id) (endX (L.length + 1) a U (L.map (·.1)) (homeF L id).1 id)
  else if IntKind.u64.wrap k % 8 = 6 then chgT (tkE a U L) (lessP (idsP L) id, runB L id) (killR (L.length + 1) a U (L.map (·.1)) (lessP (idsP L) id))
  else chgT (tkE a U L) (homeF L id) (reapR a U (L.map (·.1)) (homeF L id).1)
theorem opR_nm {L M : List Pw} (h : L.map (·.1) = M.map (·.1)) (k a : Int) (U : List Int) (id : Int) : opR k a U L id = opR k a U M id := by
  unfold opR
  rw [tkE_nm h, home_nm h, run_nm h, ids_nm h, len_nm h, h]
theorem k_cases (k : Int) : IntKind.u64.wrap k % 8 = 0 ∨ IntKind.u64.wrap k % 8 = 1 ∨ IntKind.u64.wrap k % 8 = 2 ∨ IntKind.u64.wrap k % 8 = 3 ∨ IntKind.u64.wrap k % 8 = 4 ∨ IntKind.u64.wrap k % 8 = 5 ∨ IntKind.u64.wrap k % 8 = 6 ∨ IntKind.u64.wrap k % 8 = 7 := by omega
section
variable {k a id : Int} {U : List Int} {L : List Pw}
theorem opR01 (h : IntKind.u64.wrap k % 8 = 0 ∨ IntKind.u64.wrap k % 8 = 1) : opR k a U L id = chgT (tkE a U L) (homeF L id) (forkR a U (L.map (·.1)) (homeF L id).1) := by unfold opR; rw [if_pos h]
theorem opR23 (h : IntKind.u64.wrap k % 8 = 2 ∨ IntKind.u64.wrap k % 8 = 3) : opR k a U L id = chgT (tkE a U L) (homeF L id) (cloneR a U (L.map (·.1)) (homeF L id).1) := by unfold opR; rw [if_neg (by omega), if_pos h]
theorem opR4 (h : IntKind.u64.wrap k % 8 = 4) : opR k a U L id = chgT (tkE a U L) (homeF L id) (execR a U (L.map (·.1)) (homeF L id).1) := by unfold opR; rw [if_neg (by omega), if_neg (by omega), if_pos h]
theorem opR5 (h : IntKind.u64.wrap k % 8 = 5) : opR k a U L id = chgT (tkE a U L) (homeF L id) (endX (L.length + 1) a U (L.map (·.1)) (homeF L id).1 id) := by unfold opR; rw [if_neg (by omega), if_neg (by omega), if_neg (by omega), if_pos h]
theorem opR6 (h : IntKind.u64.wrap k % 8 = 6) : opR k a U L id = chgT (tkE a U L) (lessP (idsP L) id, runB L id) (killR (L.length + 1) a U (L.map (·.1)) (lessP (idsP L) id)) := by unfold opR; rw [if_neg (by omega), if_neg (by omega), if_neg (by omega), if_neg (by omega), if_pos h]
theorem opR7 (h : IntKind.u64.wrap k % 8 = 7) : opR k a U L id = chgT (tkE a U L) (homeF L id) (reapR a U (L.map (·.1)) (homeF L id).1) := by unfold opR; rw [if_neg (by omega), if_neg (by omega), if_neg (by omega), if_neg (by omega), if_neg (by omega)]
end
theorem chg_n {ck : Int} {p : Nat × Bool} {r : TkA} (h : r.n = 0) : (chgT ck p r).n = 0 := by
  unfold chgT
  split
  · split
    · split
      · exact h
      · rfl
    · rfl
  · rfl
theorem endX_n (n : Nat) (a : Int) (U : List Int) (P : List Pn) (p : Nat) (tid : Int) : (endX n a U P p tid).n = 0 := by unfold endX; split <;> rfl
theorem run_all (k i : Int) (f : Bool) (a : Int) (Ua : Option Addr) (um uc : Nat) (U : List Int) (A : Option Addr) (m c : Nat) (L : List Pw) (id : Int) (w : World) (h : Tk w w.heap.size Ua um uc U A m c L) :
    Calls Tryz.prog 8 #[.agg (opC k i f), tkV a Ua um uc A m c, .int .i64 id] w fun e w' => RunO w (opR k a U L id) e w' := by
  have hlt : ∀ {p : Nat}, p < L.length → p < (L.map (·.1)).length := fun h => by simpa using h
  rcases k_cases k with hk | hk | hk | hk | hk | hk | hk | hk
  · rw [opR01 (.inl hk)]
    exact run_fork k i f a Ua um uc A m c id _ w (.inl hk) fun V hV => fork_tk a Ua um uc U A m c L id V (h.on hV)
  · rw [opR01 (.inr hk)]
    exact run_fork k i f a Ua um uc A m c id _ w (.inr hk) fun V hV => fork_tk a Ua um uc U A m c L id V (h.on hV)
  · rw [opR23 (.inl hk)]
    exact run_clone k i f a Ua um uc A m c id _ w (.inl hk) fun V hV => clone_tk a Ua um uc U A m c L id V (h.on hV)
  · rw [opR23 (.inr hk)]
    exact run_clone k i f a Ua um uc A m c id _ w (.inr hk) fun V hV => clone_tk a Ua um uc U A m c L id V (h.on hV)
  · rw [opR4 hk]
    exact run_exec k i f a Ua um uc A m c id _ w hk (fun V hV => exec_tk a Ua um uc U A m c L id _ V (h.on hV) (fun g hp _ => exec1_tk a U (L.map (·.1)) _ (hlt hp) (Nat.le_trans g.n8 (by omega)))) (chg_n rfl)
  · rw [opR5 hk]
    refine run_end k i f a Ua um uc A m c id _ w hk (fun V hV => end_tk a Ua um uc U A m c L id _ V (h.on hV) (fun gt g hp _ => ?_)) (chg_n (endX_n ..))
    unfold endX
    split
    · rename_i hs
      exact end2_tk gt id (L.length + 1) a U (L.map (·.1)) _ (hlt hp) (Nat.le_trans g.n8 (by omega)) (by rw [← idsP_names]; exact g.pup) (good_clm g) hs
    · rename_i hs
      exact end1_tk gt id a U (L.map (·.1)) _ (hlt hp) (Nat.le_trans g.n8 (by omega)) hs
  · rw [opR6 hk]
    refine run_kill k i f a Ua um uc A m c id _ w hk (fun V hV => kill_tk a Ua um uc U A m c L id _ V (h.on hV) (fun g hr => ?_)) (chg_n rfl)
    exact kill1_tk (L.length + 1) a U (L.map (·.1)) _ (hlt (runB_lt g.pup (by unfold runB at hr; rw [Bool.and_eq_true] at hr; exact hr.1))) (Nat.le_trans g.n8 (by omega)) (by rw [← idsP_names]; exact g.pup) (good_clm g)
  · rw [opR7 hk]
    exact run_reap k i f a Ua um uc A m c id _ w hk fun V hV => reap_tk a Ua um uc U A m c L id _ V (h.on hV) (fun g hp _ => reap1_tk a U (L.map (·.1)) _ (hlt hp) (by rw [← idsP_names]; exact g.pup) g.n8 (by simpa using g.p6))
theorem chg_bad {p : Nat × Bool} {r : TkA} : chgT 220 p r = noT 220 := by unfold chgT; rw [if_neg (by decide)]
theorem opR_bad {k a id : Int} {U : List Int} {L : List Pw} (h : tkE a U L = 220) : opR k a U L id = noT 220 := by
  unfold opR
  rw [h]
  simp only [chg_bad, ite_self]
theorem wants_all (k i : Int) (f : Bool) (a : Int) (Ua : Option Addr) (um uc : Nat) (U : List Int) (A : Option Addr) (m c : Nat) (L : List Pw) (id : Int) (w : World) (h : Tk w w.heap.size Ua um uc U A m c L) (hn : (tidF L).length ≤ 1000) (hu6 : um ≤ 100000) :
    Calls Tryz.prog 9 #[.agg (opC k i f), tkV a Ua um uc A m c, .int .i64 id] w fun e w' => WanO w (opR k a U L id) e w' := by
  rcases tkE_or a U L with h0 | h0
  · have hr : rgtB a U L = true := by rw [rgt_eq, h0]; rfl
    have g : TkGood a U L := rgt_good.1 hr
    rcases k_cases k with hk | hk | hk | hk | hk | hk | hk | hk
    · rw [opR01 (.inl hk), h0]
      exact wants_fork k i f a Ua um uc U A m c L id _ w (.inl hk) h hn hr fun V hV => want_fork id (h.on hV) hu6 g
    · rw [opR01 (.inr hk), h0]
      exact wants_fork k i f a Ua um uc U A m c L id _ w (.inr hk) h hn hr fun V hV => want_fork id (h.on hV) hu6 g
    · rw [opR23 (.inl hk), h0]
      exact wants_clone k i f a Ua um uc U A m c L id _ w (.inl hk) h hn hr fun V hV => want_clone id (h.on hV) hu6 g
    · rw [opR23 (.inr hk), h0]
      exact wants_clone k i f a Ua um uc U A m c L id _ w (.inr hk) h hn hr fun V hV => want_clone id (h.on hV) hu6 g
    · rw [opR4 hk, h0]
      exact wants_exec k i f a Ua um uc U A m c L id _ w hk h hn hr (fun V hV => want_exec id (h.on hV) hu6 g) (chg_n rfl)
    · rw [opR5 hk, h0]
      exact wants_end k i f a Ua um uc U A m c L id _ w hk h hn hr (fun V hV => want_end id (h.on hV) hu6 g) (chg_n (endX_n ..))
    · rw [opR6 hk, h0]
      exact wants_kill k i f a Ua um uc U A m c L id _ w hk h hn hr (fun V hV => want_kill id (h.on hV) hu6 g) (chg_n rfl)
    · rw [opR7 hk, h0]
      exact wants_reap k i f a Ua um uc U A m c L id _ w hk h hn hr fun V hV => want_reap id (h.on hV) hu6 g
  · rw [opR_bad h0]
    exact wants_no k i f a Ua um uc U A m c L id w h hn (by rw [rgt_eq, h0]; rfl)
structure Sma (U : List Int) (P : List Pn) : Prop where
  u : U.length ≤ 22
  p : P.length ≤ 7
  t : ∀ x ∈ P, x.t.length ≤ 10
theorem sma_nil : Sma [] [] := ⟨by simp, by simp, fun x hx => by cases hx⟩
theorem sma_chg {ck : Int} {p : Nat × Bool} {r : TkA} (h : ck = 0 → p.2 = true → r.e = 0 → Sma r.U r.P) : Sma (chgT ck p r).U (chgT ck p r).P := by
  unfold chgT
  split
  · rename_i h1
    split
    · rename_i h2
      split
      · rename_i h3; exact h h1 h2 h3
      · exact sma_nil
    · exact sma_nil
  · exact sma_nil
theorem bqG_le : ∀ (k : Nat) (s : Int × List Int × List Pn), (bqG k s).2.1.length ≤ s.2.1.length ∧ (bqG k s).2.2.length ≤ s.2.2.length
  | 0, s => ⟨Nat.le_refl _, Nat.le_refl _⟩
  | k + 1, s => by
    rw [bqG]
    obtain ⟨h1, h2⟩ := bqG_le k (if ((s.2.2.getD k pn0).t.length == 0 && (s.2.2.getD k pn0).p == 0) = true then ((freeV s.1 s.2.1 (s.2.2.getD k pn0).i).1, (freeV s.1 s.2.1 (s.2.2.getD k pn0).i).2.1, delL k s.2.2) else s)
    refine ⟨Nat.le_trans h1 ?_, Nat.le_trans h2 ?_⟩
    · split
      · exact freeV_len _ _ _
      · exact Nat.le_refl _
    · split
      · simp only [delL, List.length_append, List.length_take, List.length_drop]; omega
      · exact Nat.le_refl _
theorem sma_gone {n p : Nat} {s : Int × List Int} {P : List Pn} (h1 : s.2.length ≤ 22) (h2 : P.length ≤ 7) (h3 : cntT P ≤ 10) : Sma (gone9 n s P p).U (gone9 n s P p).P := by
  unfold gone9
  simp only
  obtain ⟨h4, h5⟩ := bqG_le P.length (s.1, s.2, bqF n (P.getD p pn0).i P.length 0 P)
  have h6 := cnt_bqG P.length (s.1, s.2, bqF n (P.getD p pn0).i P.length 0 P)
  simp only at h4 h5 h6
  rw [ids_bq] at h5
  rw [cnt_bqF] at h6
  refine ⟨by omega, by omega, fun x hx => ?_⟩
  have := cnt_le hx
  omega
theorem take_sma {a : Int} {U : List Int} (h : Ids a U) : (takeV a U).2.1.length ≤ 22 := by
  cases hn : nextP a.toNat U with
  | none => rw [take_full h ((h.none_iff).1 hn)]; simp
  | some i => rw [take_some h hn]; simp only [len_insP]; have := h.len; omega
theorem sma_op (k a : Int) (U : List Int) (L : List Pw) (id : Int) : Sma (opR k a U L id).U (opR k a U L id).P := by
  have hset : ∀ {g : TkGood a U L} {p : Nat} {y : Pn}, y.t.length ≤ 10 → ∀ x ∈ (L.map (·.1)).set p y, x.t.length ≤ 10 := fun {g p y} hy x hx => by
    rcases List.mem_or_eq_of_mem_set hx with h | rfl
    · obtain ⟨v, hv, rfl⟩ := List.mem_map.1 h
      have := good_cnt g v hv
      omega
    · exact hy
  have hfr : ∀ (g : TkGood a U L) (e : Int → Bool) (pid : Int) (l : List Int), (frees e pid l (a, U)).2.length ≤ 22 := fun g e pid l => by
    have h1 := frees_len e pid l (a, U)
    have h2 := g.ids.len
    simp only at h1
    omega
  have hgt : ∀ (g : TkGood a U L) (p : Nat), ((L.map (·.1)).getD p pn0).t.length ≤ 8 := fun g p => by
    by_cases hp : p < (L.map (·.1)).length
    · have hm : (L.map (·.1)).getD p pn0 ∈ L.map (·.1) := by rw [List.getD, List.getElem?_eq_getElem hp]; exact List.getElem_mem hp
      have := cnt_le hm
      have := g.n8
      omega
    · rw [show (L.map (·.1)).getD p pn0 = pn0 by simp only [List.getD, List.getElem?_eq_none (Nat.not_lt.1 hp)]; rfl]
      simp [pn0]
  have hgone : ∀ (g : TkGood a U L) (p : Nat), p < L.length → ∀ (e : Int → Bool) (pid : Int) (l : List Int), Sma (gone9 (L.length + 1) (frees e pid l (a, U)) (noThr (L.map (·.1)) p) p).U (gone9 (L.length + 1) (frees e pid l (a, U)) (noThr (L.map (·.1)) p) p).P := fun g p hp e pid l => by
    refine sma_gone (hfr g _ _ _) ?_ ?_
    · unfold noThr; rw [List.length_set, List.length_map]; have := g.p6; omega
    · have := cnt_noThr (P := L.map (·.1)) (p := p) (by simpa using hp)
      have := g.n8
      omega
  rcases k_cases k with hk | hk | hk | hk | hk | hk | hk | hk
  case inl | inr.inl =>
    first | rw [opR01 (.inl hk)] | rw [opR01 (.inr hk)]
    refine sma_chg fun h0 h1 h2 => ?_
    have g := tk_good h0
    unfold forkR at h2 ⊢
    split
    · exact sma_nil
    · split
      · exact sma_nil
      · split
        · refine ⟨take_sma g.ids, ?_, fun x hx => ?_⟩
          · rw [insL_len, List.length_map]; have := g.p6; omega
          · unfold insL at hx
            simp only at hx
            rcases List.mem_append.1 hx with h | h
            · obtain ⟨v, hv, rfl⟩ := List.mem_map.1 (List.mem_of_mem_take h)
              have := good_cnt g v hv; omega
            · rcases List.mem_cons.1 h with rfl | h
              · simp
              · obtain ⟨v, hv, rfl⟩ := List.mem_map.1 (List.mem_of_mem_drop h)
                have := good_cnt g v hv; omega
        · exact sma_nil
  case inr.inr.inl | inr.inr.inr.inl =>
    first | rw [opR23 (.inl hk)] | rw [opR23 (.inr hk)]
    refine sma_chg fun h0 h1 h2 => ?_
    have g := tk_good h0
    unfold cloneR at h2 ⊢
    split
    · exact sma_nil
    · split
      · refine ⟨take_sma g.ids, ?_, hset (g := g) ?_⟩
        · rw [List.length_set, List.length_map]; have := g.p6; omega
        · simp only [len_insP]
          have := hgt g (homeF L id).1
          omega
      · exact sma_nil
  case inr.inr.inr.inr.inl =>
    rw [opR4 hk]
    refine sma_chg fun h0 h1 h2 => ?_
    have g := tk_good h0
    unfold execR
    refine ⟨hfr g _ _ _, ?_, hset (g := g) (by simp)⟩
    rw [List.length_set, List.length_map]; have := g.p6; omega
  case inr.inr.inr.inr.inr.inl =>
    rw [opR5 hk]
    refine sma_chg fun h0 h1 h2 => ?_
    have g := tk_good h0
    unfold endX
    split
    · exact hgone g _ (homeF_lt h1) _ _ _
    · unfold endN
      refine ⟨hfr g _ _ _, ?_, hset (g := g) ?_⟩
      · rw [List.length_set, List.length_map]; have := g.p6; omega
      · have h3 := hgt g (homeF L id).1
        exact Nat.le_trans (List.length_filter_le _ _) (by omega)
  case inr.inr.inr.inr.inr.inr.inl =>
    rw [opR6 hk]
    refine sma_chg fun h0 h1 h2 => ?_
    have g := tk_good h0
    exact hgone g _ (runB_lt g.pup (by have h3 : runB L id = true := h1; unfold runB at h3; rw [Bool.and_eq_true] at h3; exact h3.1)) _ _ _
  case inr.inr.inr.inr.inr.inr.inr =>
    rw [opR7 hk]
    refine sma_chg fun h0 h1 h2 => ?_
    have g := tk_good h0
    unfold reapR
    split
    · exact sma_nil
    · split
      · exact sma_nil
      · rename_i q hq
        refine ⟨?_, ?_, fun x hx => ?_⟩
        · exact Nat.le_trans (freeV_len _ _ _) (by have := g.ids.len; omega)
        · simp only [delL, List.length_append, List.length_take, List.length_drop, List.length_map]; have := g.p6; omega
        · have h3 : x.t.length ≤ cntT (delL (lessP ((L.map (·.1)).map (·.i)) q) (L.map (·.1))) := cnt_le hx
          have h4 := cnt_del (k := lessP ((L.map (·.1)).map (·.i)) q) (P := L.map (·.1))
          have := g.n8
          omega
end Go.Proofs.YtlelhhgggnjndaaGreat
namespace Go.Proofs.YtlelhhgggnjndaaGreat
open Go.RowKit Go.Shelf Go.ChangeShapes Go.WideShapes
set_option linter.unusedVariables false
set_option linter.unusedSimpArgs false
abbrev Opn := Int × Int × Bool
def op0 : Opn := (0, 0, false)
def onC (q : Opn) : Array Value := opC q.1 q.2.1 q.2.2
def OpsI (w : World) (B : Nat) (A : Option Addr) (L : List Opn) : Prop := ∀ k, k < L.length → ∃ b off, A = some ⟨b, off, none⟩ ∧ b < B ∧ w.rangeAt b (off + k * 3) (onC (L.getD k op0)).toList
section
variable {H : Type} {enc : TypeId × Value → H} {w : World} {base : Nat} {spare : Nat → Bool} {held : Bool} {fuel : Nat} {x : DataW H × List MemPlace}
theorem tk_of {cs : Array Value} {d : DataW H} {p : List MemPlace} (hz : cs.size = Tryz.prog.cellsOf 27) (h : DataW.Trod enc Tryz.prog w base spare held 27 (.agg cs) d p) : ∃ q : Tx, cs = txC q ∧ TxI w w.heap.size q := by
  obtain ⟨fuel, hf⟩ := h
  rw [show Tryz.prog.cellsOf 27 = 3 by kernel_rfl] at hz
  obtain ⟨v0, v1, v2, rfl⟩ : ∃ v0 v1 v2, cs = #[v0, v1, v2] := by
    obtain ⟨l⟩ := cs
    match l, hz with
    | [v0, v1, v2], _ => exact ⟨v0, v1, v2, rfl⟩
  obtain ⟨q, e, h⟩ := tasks1_of (by simpa [Value.cells] using hf)
  exact ⟨q, e.symm, h⟩
set_option maxRecDepth 100000 in
theorem ops_of {v : Value} (h : DataW.trod enc Tryz.prog w base spare held fuel 28 [v] = some x) : ∃ a l c L, v = .slice a l c ∧ OpsI w w.heap.size a L ∧ l = L.length ∧ l ≤ maxLen := by
  rcases Go.Deep.open_slice Tryz.underlying28 h with ⟨hcs, _⟩ | ⟨p, l, c', m, n, D, Pl, hcs, _, hl, hm, hmm, _, hel⟩
  · simp at hcs
    exact ⟨none, 0, 0, [], hcs, fun k hk => absurd hk (by simp), rfl, by simp [maxLen]⟩
  · simp at hcs
    have hlm : l ≤ m := by rw [hmm]; split <;> omega
    have hc4 : Tryz.prog.cellsOf 32 = 3 := by kernel_rfl
    have hci : Tryz.prog.cellsOf 3 = 1 := by kernel_rfl
    have hcb : Tryz.prog.cellsOf 4 = 1 := by kernel_rfl
    rw [hc4] at hel
    have each : ∀ i, i < l → ∃ q : Opn, (∀ j v, (onC q).toList[j]? = some v → w.cell? ((p.add (i * 3)).add j) = some v) := by
      intro i hi
      obtain ⟨cs', h1, h2⟩ := hel i (by omega)
      obtain ⟨_, hlen, hcell⟩ := World.cells?_some h1
      obtain ⟨y0, y1, y2, n', _, _, t0, t1, t2⟩ := Go.Deep.trod_struct3 Tryz.underlying32 h2
      match cs', hlen with
      | [v0, v1, v2], _ =>
        simp [hci] at t0 t1
        simp [hci, hcb] at t2
        obtain ⟨q0, e0, _, f0⟩ := DataW.trod_int Tryz.underlying3 t0
        obtain ⟨q1, e1, _, f1⟩ := DataW.trod_int Tryz.underlying3 t1
        obtain ⟨q2, e2, _⟩ := DataW.trod_bool Tryz.underlying4 t2
        simp only [List.cons.injEq, and_true] at e0 e1 e2
        subst e0 e1 e2
        refine ⟨(q0, q1, q2), fun j v hv => ?_⟩
        have hj : j < 3 := by
          rcases Nat.lt_or_ge j 3 with h | h
          · exact h
          · rw [List.getElem?_eq_none (by simpa [onC, opC] using h)] at hv; cases hv
        have := hcell j (by omega)
        rw [this]
        exact hv
    haveI : Inhabited Opn := ⟨op0⟩
    obtain ⟨q, hq⟩ := Go.Deep.choose_lt each
    refine ⟨some p, l, c', (List.range l).map q, hcs, fun k hk => ?_, by simp, by omega⟩
    have hkl : k < l := by simpa using hk
    have e0 : ((List.range l).map q).getD k op0 = q k := by simp [List.getD, hkl]
    rw [e0]
    have z : ∃ v0, w.cell? (p.add 0) = some v0 := ⟨_, by
      have := (hq 0 (by omega)) 0 (.int .i64 (q 0).1) rfl
      rw [Go.Deep.add_add] at this
      simpa using this⟩
    have a0 := (hq k hkl) 0 (.int .i64 (q k).1) rfl
    rw [Go.Deep.add_add] at a0
    obtain ⟨ea, hb, _⟩ := add_none a0 z
    refine ⟨p.block, p.off, congrArg some ea, hb, fun j v hv => ?_⟩
    have := (hq k hkl) j v hv
    rw [Go.Deep.add_add] at this
    have h3 := (add_none this z).2.2
    rwa [← Nat.add_assoc] at h3
end
end Go.Proofs.YtlelhhgggnjndaaGreat

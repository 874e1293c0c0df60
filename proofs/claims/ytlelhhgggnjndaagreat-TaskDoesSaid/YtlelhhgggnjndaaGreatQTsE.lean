/-
  What the reference answers is what the program leaves.
-/
import Derived.Test.YtlelhhgggnjndaaGreatQTsI
import Derived.Test.YtlelhhgggnjndaaGreatQTrV
import Derived.Test.YtlelhhgggnjndaaGreatQTsB
namespace Go.Proofs.YtlelhhgggnjndaaGreat
open Go.RowKit Go.Shelf
set_option linter.unusedVariables false
set_option linter.unusedSimpArgs false
theorem wn3 {V w' : World} {e : Ending} {r : TkA} {er : Int} (hr : r = noT er) (h : e = .returned (.tuple #[tkV 0 none 0 0 none 0 0, .int .i64 0, .int .i64 er]) ∧ Below V.heap.size V w') : ∃ v, e = .returned (.tuple #[v, .int .i64 r.n, .int .i64 r.e]) ∧ TkW w' V.heap.size v r ∧ Below V.heap.size V w' := by
  subst hr
  exact ⟨_, h.1, tkW_nil _ _ _, h.2⟩
theorem wn2 {V w' : World} {e : Ending} {r : TkA} {er : Int} (hr : r = noT er) (h : e = .returned (.tuple #[tkV 0 none 0 0 none 0 0, .int .i64 er]) ∧ Below V.heap.size V w') : ∃ v, e = .returned (.tuple #[v, .int .i64 r.e]) ∧ TkW w' V.heap.size v r ∧ Below V.heap.size V w' := by
  subst hr
  exact ⟨_, h.1, tkW_nil _ _ _, h.2⟩
theorem chg_no {p : Nat × Bool} {r : TkA} (h : p.2 = false) : chgT 0 p r = noT 25 := by unfold chgT; rw [if_pos rfl, if_neg (by rw [h]; simp)]
theorem chg_er {p : Nat × Bool} {er : Int} (h : p.2 = true) (he : er ≠ 0) : chgT 0 p (noT er) = noT er := by unfold chgT; rw [if_pos rfl, if_pos h, if_neg (show ¬ (noT er).e = 0 from he)]; rfl
theorem chg_ok {p : Nat × Bool} {r : TkA} (h : p.2 = true) (he : r.e = 0) : chgT 0 p r = r := by unfold chgT; rw [if_pos rfl, if_pos h, if_pos he]
section
variable {a : Int} {Ua : Option Addr} {um uc : Nat} {U : List Int} {A : Option Addr} {m c : Nat} {L : List Pw} {V : World}
theorem want_fork (id : Int) (h : Tk V V.heap.size Ua um uc U A m c L) (hu6 : um ≤ 100000) (g : TkGood a U L) : WanCN true a Ua um uc A m c id (chgT 0 (homeF L id) (forkR a U (L.map (·.1)) (homeF L id).1)) V := by
  unfold WanCN
  have hup : ((L.map (·.1)).map (·.i)).Pairwise (· < ·) := by rw [← idsP_names]; exact g.pup
  have hN : (tidF L).length ≤ 1000 := by rw [tid_len, thr_cnt 0]; have := g.n8; omega
  obtain ⟨an, rfl⟩ : ∃ n : Nat, a = n := ⟨a.toNat, by have := g.ids.a0; omega⟩
  rcases home_of g.pup id with ⟨h1, h2⟩ | ⟨j, x, h1, h2, h3, h4, h5⟩
  · exact (newN_rf an Ua um uc U A m c L id true V h h2).mono fun e w' hh => wn3 (chg_no h1) hh
  · have hx := List.mem_of_getElem? h2
    have hj : j < L.length := (List.getElem?_eq_some_iff.1 h2).1
    have hx0 : (x.1.i == 0) = false := by simpa using good_pos g x hx
    have hgx : ((L.map (·.1)).getD j pn0) = x.1 := by rw [getD_name, getD_some h2]
    rw [h1]
    simp only
    unfold forkR
    rw [hgx]
    have hlive := live_len g
    have hml := h.pl
    by_cases c1 : (L.map (·.1)).length = 6
    · rw [if_pos c1, chg_er (h := rfl) (he := by decide)]
      rw [List.length_map] at c1
      by_cases c2 : cntT (L.map (·.1)) = 8
      · exact (newF_rf an Ua um uc U A m c L id x.1.i true V h h3 hx0 hN (by omega)).mono fun e w' hh => wn3 rfl hh
      · exact (newP_rf an Ua um uc U A m c L id x.1.i V h h3 hx0 hN ⟨by have := g.n8; omega, by omega⟩).mono fun e w' hh => wn3 rfl hh
    · rw [if_neg c1]
      rw [List.length_map] at c1
      by_cases c2 : cntT (L.map (·.1)) = 8
      · rw [if_pos c2, chg_er (h := rfl) (he := by decide)]
        exact (newF_rf an Ua um uc U A m c L id x.1.i true V h h3 hx0 hN (by omega)).mono fun e w' hh => wn3 rfl hh
      · rw [if_neg c2]
        have hf8 : (withs [] (tidF L)).length < 8 := by have := g.n8; omega
        have hm6 : m < 6 := by have := g.p6; omega
        have hnew := take_new g.ids
        obtain ⟨a', l', id', er, ht⟩ : ∃ a' l' id' er, takeV an U = (a', l', id', er) := ⟨_, _, _, _, rfl⟩
        rw [ht] at hnew ⊢
        simp only at hnew ⊢
        by_cases c3 : er = 0
        · subst c3
          rw [if_pos rfl, chg_ok (h := rfl) (he := rfl)]
          refine (newD_rf an Ua um uc U A m c L id x.1.i V h g.ids hu6 h3 hx0 hN hf8 hm6 a' id' l' ht (fun y hy => by have := good_cnt g y hy; omega)).mono fun e w' hh => ?_
          obtain ⟨Ua9, um9, uc9, A9, m9, c9, M, he, ho, hn, hb⟩ := hh
          refine ⟨_, he, ⟨Ua9, um9, uc9, A9, m9, c9, M, rfl, ho, ?_⟩, hb⟩
          rw [hn, nwG_ins (y := ⟨id', x.1.i, [id']⟩) hup]
          show id' ∉ _
          intro hm
          rw [← idsP_names] at hm
          exact hnew rfl ((good_mem g).2 (.inl hm))
        · rw [if_neg c3, chg_er (h := rfl) (he := c3)]
          exact (newEt_rf an Ua um uc U A m c L id x.1.i V h g.ids hu6 h3 hx0 hN hf8 hm6 a' id' l' er (by simpa using c3) ht).mono fun e w' hh => wn3 rfl hh
theorem want_clone (id : Int) (h : Tk V V.heap.size Ua um uc U A m c L) (hu6 : um ≤ 100000) (g : TkGood a U L) : WanCN false a Ua um uc A m c id (chgT 0 (homeF L id) (cloneR a U (L.map (·.1)) (homeF L id).1)) V := by
  unfold WanCN
  have hN : (tidF L).length ≤ 1000 := by rw [tid_len, thr_cnt 0]; have := g.n8; omega
  obtain ⟨an, rfl⟩ : ∃ n : Nat, a = n := ⟨a.toNat, by have := g.ids.a0; omega⟩
  rcases home_of g.pup id with ⟨h1, h2⟩ | ⟨j, x, h1, h2, h3, h4, h5⟩
  · exact (newN_rf an Ua um uc U A m c L id false V h h2).mono fun e w' hh => wn3 (chg_no h1) hh
  · have hx := List.mem_of_getElem? h2
    have hj : j < L.length := (List.getElem?_eq_some_iff.1 h2).1
    have hx0 : (x.1.i == 0) = false := by simpa using good_pos g x hx
    have hgx : ((L.map (·.1)).getD j pn0) = x.1 := by rw [getD_name, getD_some h2]
    rw [h1]
    simp only
    unfold cloneR
    rw [hgx]
    have hlive := live_len g
    by_cases c2 : cntT (L.map (·.1)) = 8
    · rw [if_pos c2, chg_er (h := rfl) (he := by decide)]
      exact (newF_rf an Ua um uc U A m c L id x.1.i false V h h3 hx0 hN (by omega)).mono fun e w' hh => wn3 rfl hh
    · rw [if_neg c2]
      have hf8 : (withs [] (tidF L)).length < 8 := by have := g.n8; omega
      have hnew := take_new g.ids
      obtain ⟨a', l', id', er, ht⟩ : ∃ a' l' id' er, takeV an U = (a', l', id', er) := ⟨_, _, _, _, rfl⟩
      rw [ht] at hnew ⊢
      simp only at hnew ⊢
      by_cases c3 : er = 0
      · subst c3
        rw [if_pos rfl, chg_ok (h := rfl) (he := rfl)]
        refine (newC_rf an Ua um uc U A m c L id x.1.i j V h g.ids hu6 h3 hx0 hN hf8 hj h4 a' id' l' ht (fun y hy => by have := good_cnt g y hy; omega)).mono fun e w' hh => ?_
        obtain ⟨Ua9, um9, uc9, A9, m9, c9, M, he, ho, hn, hb⟩ := hh
        refine ⟨_, he, ⟨Ua9, um9, uc9, A9, m9, c9, M, rfl, ho, ?_⟩, hb⟩
        rw [hn, getD_some h2, withG_ins (g.tup x hx)]
        intro hm
        exact hnew rfl ((good_mem g).2 (.inr ⟨x, hx, hm⟩))
      · rw [if_neg c3, chg_er (h := rfl) (he := c3)]
        exact (newEf_rf an Ua um uc U A m c L id x.1.i V h g.ids hu6 h3 hx0 hN hf8 a' id' l' er (by simpa using c3) ht).mono fun e w' hh => wn3 rfl hh
theorem enr_w {E : Int × List Int × List Pn} {r : TkA} {e : Ending} {w' : World} (hh : EnR V E 0 e w') (h1 : E.1 = r.a) (h2 : E.2.1 = r.U) (h3 : E.2.2 = r.P) (h4 : r.e = 0) : ∃ v, e = .returned (.tuple #[v, .int .i64 r.e]) ∧ TkW w' V.heap.size v r ∧ Below V.heap.size V w' := by
  obtain ⟨Ua9, um9, uc9, A9, m9, c9, M, he, ho, hn, _, _, hb⟩ := hh
  refine ⟨_, by rw [h4]; exact he, ⟨Ua9, um9, uc9, A9, m9, c9, M, by rw [h1], by rw [← h2]; exact ho, by rw [hn, h3]⟩, hb⟩
theorem want_exec (id : Int) (h : Tk V V.heap.size Ua um uc U A m c L) (hu6 : um ≤ 100000) (g : TkGood a U L) : WanC2 33 a Ua um uc A m c id (chgT 0 (homeF L id) (execR a U (L.map (·.1)) (homeF L id).1)) V := by
  unfold WanC2
  rcases home_of g.pup id with ⟨h1, h2⟩ | ⟨j, x, h1, h2, h3, h4, h5⟩
  · exact (execN_rf a Ua um uc U A m c L id V h h2).mono fun e w' hh => wn2 (chg_no h1) hh
  · have hx := List.mem_of_getElem? h2
    have hj : j < L.length := (List.getElem?_eq_some_iff.1 h2).1
    have hjP : j < (L.map (·.1)).length := by simpa using hj
    have hx0 : (x.1.i == 0) = false := by simpa using good_pos g x hx
    have hgx : ((L.map (·.1)).getD j pn0) = x.1 := by rw [getD_name, getD_some h2]
    rw [h1, chg_ok (h := rfl) (he := rfl)]
    refine (exec_rf a Ua um uc U A m c L id x.1.i j V h hu6 h3 hx0 hj h4 (by rw [getD_some h2]; intro e; rw [e] at h5; cases h5)).mono fun e w' hh => ?_
    unfold exN at hh
    rw [hgx, lvF_eq x.1.i j x.1.t a U _ g.ids hjP] at hh
    simp only at hh
    have hg2 : ∀ y : Pn, ((L.map (·.1)).set j y).getD j pn0 = y := fun y => by rw [List.getD, List.getElem?_set_self hjP]; rfl
    rw [hg2, List.set_set, hgx] at hh
    refine enr_w hh ?_ ?_ ?_ rfl
    · unfold execR; rw [hgx]
    · unfold execR; rw [hgx]
    · unfold execR; rw [hgx]
def endX (n : Nat) (a : Int) (U : List Int) (P : List Pn) (p : Nat) (tid : Int) : TkA := if (P.getD p pn0).t.filter (fun t => !(t == tid)) = [] then endG n a U P p tid else endN a U P p tid
theorem gone_eq (g : TkGood a U L) {j : Nat} {x : Pw} (h2 : L[j]? = some x) (e : Int → Bool) : edEnd (edF ((frees e x.1.i x.1.t (a, U)).1, (frees e x.1.i x.1.t (a, U)).2, noThr (L.map (·.1)) j) (kidF (ofN (noThr (L.map (·.1)) j)) x.1.i)) x.1.i = ((gone9 (L.length + 1) (frees e x.1.i x.1.t (a, U)) (noThr (L.map (·.1)) j) j).a, (gone9 (L.length + 1) (frees e x.1.i x.1.t (a, U)) (noThr (L.map (·.1)) j) j).U, (gone9 (L.length + 1) (frees e x.1.i x.1.t (a, U)) (noThr (L.map (·.1)) j) j).P) := by
  have hj : j < L.length := (List.getElem?_eq_some_iff.1 h2).1
  have hjP : j < (L.map (·.1)).length := by simpa using hj
  have hgx : ((L.map (·.1)).getD j pn0) = x.1 := by rw [getD_name, getD_some h2]
  obtain ⟨hB, hk⟩ := binv_of g hj
  have hin := thr_keep g hj e
  rw [getD_some h2] at hB hk hin
  have hI : Ids (frees e x.1.i x.1.t (a, U)).1 (frees e x.1.i x.1.t (a, U)).2 := Ids.frs e x.1.i x.1.t (a, U) g.ids
  rw [beq_eq hB hI hin hk]
  have hpi : ((noThr (L.map (·.1)) j).getD j pn0).i = x.1.i := by
    unfold noThr
    rw [hgx, List.getD, List.getElem?_set_self hjP]
    rfl
  unfold gone9
  rw [hpi]
theorem want_end (id : Int) (h : Tk V V.heap.size Ua um uc U A m c L) (hu6 : um ≤ 100000) (g : TkGood a U L) : WanC2 34 a Ua um uc A m c id (chgT 0 (homeF L id) (endX (L.length + 1) a U (L.map (·.1)) (homeF L id).1 id)) V := by
  unfold WanC2
  rcases home_of g.pup id with ⟨h1, h2⟩ | ⟨j, x, h1, h2, h3, h4, h5⟩
  · exact (endN_rf a Ua um uc U A m c L id V h h2).mono fun e w' hh => wn2 (chg_no h1) hh
  · have hx := List.mem_of_getElem? h2
    have hj : j < L.length := (List.getElem?_eq_some_iff.1 h2).1
    have hjP : j < (L.map (·.1)).length := by simpa using hj
    have hx0 : (x.1.i == 0) = false := by simpa using good_pos g x hx
    have hgx : ((L.map (·.1)).getD j pn0) = x.1 := by rw [getD_name, getD_some h2]
    have hgD : L.getD j pw0 = x := getD_some h2
    have hwo : ∀ t : List Int, woutF t id = t.filter fun t => !(t == id) := fun t => rfl
    have hfr := frees_one (pid := x.1.i) (s := (a, U)) (g.tup x hx) h5
    have hlv : lvN a U (L.map (·.1)) j x.1.i id = ((frees (fun t => t == id) x.1.i x.1.t (a, U)).1, (frees (fun t => t == id) x.1.i x.1.t (a, U)).2, (L.map (·.1)).set j ⟨x.1.i, x.1.p, woutF x.1.t id⟩) := by
      unfold lvN
      simp only
      rw [hgx, hfr, rfree_fr g.ids]
    have hez : (endX (L.length + 1) a U (L.map (·.1)) j id).e = 0 := by unfold endX; split <;> rfl
    rw [h1, chg_ok (h := rfl) (he := hez)]
    refine (end_rf a Ua um uc U A m c L id x.1.i j V h hu6 h3 hx0 hj h4 (fun um' m' M hM i1 i2 i3 => ?_)).mono fun e w' hh => ?_
    · rw [hlv] at hM
      have := edi_of g hj (t' := woutF x.1.t id) (by rw [hgD]; exact List.length_filter_le _ _) um' m' M (by rw [hM, hgD]) i1 i2 i3
      rw [hgD] at this
      exact this
    · unfold enN at hh
      rw [hgx] at hh
      unfold endX at hez ⊢
      rw [hgx] at hez ⊢
      by_cases c1 : x.1.t.filter (fun t => !(t == id)) = []
      · rw [if_pos (by rw [hwo, c1]; rfl), hlv] at hh
        simp only at hh
        have hnt : (L.map (·.1)).set j ⟨x.1.i, x.1.p, woutF x.1.t id⟩ = noThr (L.map (·.1)) j := by
          unfold noThr
          rw [hgx, hwo, c1]
        rw [hnt, gone_eq g h2] at hh
        rw [if_pos c1]
        refine enr_w hh ?_ ?_ ?_ rfl
        · unfold endG; rw [hgx]
        · unfold endG; rw [hgx]
        · unfold endG; rw [hgx]
      · rw [if_neg (by rw [hwo]; intro e9; exact c1 (List.eq_nil_of_length_eq_zero (by simpa using e9))), hlv] at hh
        rw [if_neg c1]
        refine enr_w hh ?_ ?_ ?_ rfl
        · unfold endN; rw [hgx]
        · unfold endN; rw [hgx]
        · unfold endN; rw [hgx]; rfl
theorem want_kill (id : Int) (h : Tk V V.heap.size Ua um uc U A m c L) (hu6 : um ≤ 100000) (g : TkGood a U L) : WanC2 35 a Ua um uc A m c id (chgT 0 (lessP (idsP L) id, runB L id) (killR (L.length + 1) a U (L.map (·.1)) (lessP (idsP L) id))) V := by
  unfold WanC2
  rcases fndF_at L 0 id with ⟨h1, h2⟩ | ⟨j, x, h1, h2, h3⟩
  · have hr : runB L id = false := by unfold runB; rw [show (idsP L).contains id = false by simpa using h2]; rfl
    exact (killN_rf a Ua um uc U A m c L id V h h1).mono fun e w' hh => wn2 (chg_no hr) hh
  · subst h2
    have hx := List.mem_of_getElem? h1
    have hj : j < L.length := (List.getElem?_eq_some_iff.1 h1).1
    have hjP : j < (L.map (·.1)).length := by simpa using hj
    have hgx : ((L.map (·.1)).getD j pn0) = x.1 := by rw [getD_name, getD_some h1]
    have hgD : L.getD j pw0 = x := getD_some h1
    have hl := less_idx g.pup h1
    rw [Nat.zero_add] at h3
    have hr : runB L x.1.i = !(x.1.t.length == 0) := by
      unfold runB
      rw [hl, hgD, show (idsP L).contains x.1.i = true by simpa using List.mem_of_getElem? (idsP_get h1), Bool.true_and]
    rw [hl]
    by_cases c1 : x.1.t = []
    · exact (killZ_rf a Ua um uc U A m c L x.1.i j V h hj h3 (by rw [hgD]; exact c1)).mono fun e w' hh => wn2 (chg_no (by rw [hr, c1]; rfl)) hh
    · rw [chg_ok (h := by rw [hr]; simpa using c1) (he := rfl)]
      have hlv : lvF (a, U, L.map (·.1)) x.1.i j x.1.t = ((frees (fun _ => true) x.1.i x.1.t (a, U)).1, (frees (fun _ => true) x.1.i x.1.t (a, U)).2, noThr (L.map (·.1)) j) := by
        rw [lvF_eq x.1.i j x.1.t a U _ g.ids hjP, hgx]
        unfold noThr
        rw [hgx, List.filter_eq_nil_iff.2 (fun t ht => by simpa using ht)]
      refine (kill_rf a Ua um uc U A m c L x.1.i j V h hu6 hj h3 (by rw [hgD]; exact c1) (fun um' m' M hM i1 i2 i3 => ?_)).mono fun e w' hh => ?_
      · rw [hgD, hlv] at hM
        have := edi_of g hj (t' := []) (by simp) um' m' M (by rw [hM]; unfold noThr; rw [hgx, hgD]) i1 i2 i3
        rw [hgD] at this
        exact this
      · unfold klN at hh
        rw [hgx, hlv] at hh
        simp only at hh
        rw [gone_eq g h1] at hh
        refine enr_w hh ?_ ?_ ?_ rfl
        · unfold killR; rw [hgx]
        · unfold killR; rw [hgx]
        · unfold killR; rw [hgx]
theorem want_reap (id : Int) (h : Tk V V.heap.size Ua um uc U A m c L) (hu6 : um ≤ 100000) (g : TkGood a U L) : WanC3 36 a Ua um uc A m c id (chgT 0 (homeF L id) (reapR a U (L.map (·.1)) (homeF L id).1)) V := by
  unfold WanC3
  have hup : ((L.map (·.1)).map (·.i)).Pairwise (· < ·) := by rw [← idsP_names]; exact g.pup
  rcases home_of g.pup id with ⟨h1, h2⟩ | ⟨j, x, h1, h2, h3, h4, h5⟩
  · exact (reapN_rf a Ua um uc U A m c L id V h h2).mono fun e w' hh => wn3 (chg_no h1) hh
  · have hx := List.mem_of_getElem? h2
    have hx0 : (x.1.i == 0) = false := by simpa using good_pos g x hx
    have hgx : ((L.map (·.1)).getD j pn0) = x.1 := by rw [getD_name, getD_some h2]
    rw [h1]
    simp only
    refine (reap_rf a Ua um uc U A m c L id x.1.i V h hu6 h3 hx0).mono fun e w' hh => ?_
    have hkid : sortZ (kidN (L.map (·.1)) x.1.i) = kidF L x.1.i := by rw [← kid_names, kid_eq g.pup]
    have hkm : ∀ q ∈ kidF L x.1.i, q ∈ (L.map (·.1)).map (·.i) := fun q hq => by rw [kid_names] at hq; exact kid_mem hq
    rw [rp_find hup hkm] at hh
    unfold reapR
    rw [hgx, hkid]
    by_cases c1 : (kidF L x.1.i).length = 0
    · rw [if_pos c1, chg_er (h := rfl) (he := by decide)]
      rw [if_pos c1, List.eq_nil_of_length_eq_zero c1] at hh
      exact wn3 rfl hh
    · rw [if_neg c1] at hh ⊢
      cases hq : (kidF L x.1.i).find? (endQ (L.map (·.1))) with
      | none =>
        rw [hq] at hh
        simp only
        rw [chg_er (h := rfl) (he := by decide)]
        exact wn3 rfl hh
      | some q =>
        rw [hq] at hh
        simp only
        rw [chg_ok (h := rfl) (he := rfl)]
        obtain ⟨Ua9, um9, uc9, A9, m9, c9, M, he, ho, hn, _, _, hb⟩ := hh
        rw [rfree_fr g.ids] at he ho
        refine ⟨_, he, ⟨Ua9, um9, uc9, A9, m9, c9, M, rfl, ho, ?_⟩, hb⟩
        rw [hn]
        exact (del_filter hup (hkm q (List.mem_of_find?_eq_some hq))).symm
end
end Go.Proofs.YtlelhhgggnjndaaGreat

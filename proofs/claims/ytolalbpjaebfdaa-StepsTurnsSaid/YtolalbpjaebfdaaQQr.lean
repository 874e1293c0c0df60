/-
  A slice of numbers of the call's own that may begin anywhere in its block: read, cut at the front, appended to.
-/
import Derived.Maps.RangeWalk
import Derived.Test.YtolalbpjaebfdaaQScB
import Derived.ArgAppend
namespace Go.Proofs.Ytolalbpjaebfdaa
open Go Go.ChangeMaps Go.MapKept Go.WideShapes Go.RowKit
open Go.WideElems (Fit rd rg pl rd_key rd_val rg_of rd_mk other_key)
open Go.Maps (Keyed)
set_option linter.unusedVariables false
set_option linter.unusedSimpArgs false
def anyE (v : Value) : Option (DataW Value × List MemPlace) := some (.held v, [])
section
variable {P : Program} {k t e : TypeId} {w w' : World} {b r n : Nat} {z : Value} {f : Int → Value} {left : Int → Bool} {cnt : Nat}
def QM (w : World) (P : Program) (k : TypeId) (b n : Nat) (z : Value) (f : Int → Value) : Prop :=
  ∃ es clock, w.heap[b]? = some (.map es clock) ∧ Fit P k anyE es clock ∧ es.size ≤ n ∧ (∀ x ∈ es.toList, ∀ i, x.key = .int .i64 i → x.val = f i) ∧ ∀ i, (∀ x ∈ es.toList, x.key ≠ .int .i64 i) → f i = z
theorem QM.blk (h : QM w P k b n z f) (e : w'.heap[b]? = w.heap[b]?) : QM w' P k b n z f := by
  obtain ⟨es, clock, hb, rest⟩ := h
  exact ⟨es, clock, e.trans hb, rest⟩
theorem QM.lt (h : QM w P k b n z f) : b < w.heap.size := by
  obtain ⟨es, clock, hb, _⟩ := h
  exact (Array.getElem?_eq_some_iff.1 hb).1
theorem QM.below {B : Nat} (h : QM w P k b n z f) (hb : Below B w w') (hB : b < B) : QM w' P k b n z f := h.blk (hb.block b hB)
theorem QM.more {n' : Nat} (h : QM w P k b n z f) (hn : n ≤ n') : QM w P k b n' z f := by
  obtain ⟨es, clock, hb, F, hs, rest⟩ := h
  exact ⟨es, clock, hb, F, Nat.le_trans hs hn, rest⟩
theorem QM.made (w : World) (P : Program) (k : TypeId) (z : Value) : QM (w.alloc (.map #[] 0)) P k w.heap.size 0 z (fun _ => z) :=
  ⟨#[], 0, (MapKept.heap_alloc w _).1, ⟨by simp, stamped_empty 0, by simp⟩, Nat.le_refl _, by simp, by simp⟩
theorem QM.at (h : QM w P k b n z f) (K : Keyed P k) (hk : P.underlying k = some (.int .i64)) (ht : P.underlying t = some (.map k e)) (hz : (zeroValue e).run P w = .ok z w) {i : Int} (hw : (Lit.int .i64 i).wf = true) :
    (Instr.lookup t (.map (some b)) (.int .i64 i) false).run P w = .ok (f i) w := by
  obtain ⟨es, clock, hb, F, hs, h1, h2⟩ := h
  rcases Maps.fit_look false K ht hz hb F (Maps.keyOf_int_mk hk hw) with ⟨hrun, hne, _⟩ | ⟨e0, y, hm, hkey, hrun, _⟩
  · rw [h2 i hne]
    simpa using hrun
  · rw [← h1 e0 hm i hkey]
    simpa using hrun
theorem store_raw {es : Array MapEntry} {clock : Nat} (K : Keyed P k) (ht : P.underlying t = some (.map k e)) (hb : w.heap[b]? = some (.map es clock)) (F : Fit P k anyE es clock) (hroom : es.size < maxLen) {key : Value} {kl : Lit} (hkey : keyOf P k key = some kl) (v : Value) :
    ((∀ x ∈ es.toList, x.key ≠ key) ∧ (Instr.mapUpdate t (.map (some b)) key v).run P w = .ok () (setBlock w b (.map (es.push ⟨key, v, clock⟩) (clock + 1))) ∧ Fit P k anyE (es.push ⟨key, v, clock⟩) (clock + 1)) ∨
    ∃ j e0 es', es.toList[j]? = some e0 ∧ e0.key = key ∧ (Instr.mapUpdate t (.map (some b)) key v).run P w = .ok () (setBlock w b (.map es' clock)) ∧ Fit P k anyE es' clock ∧ es'.toList = es.toList.set j { e0 with key := key, val := v } ∧ es'.size = es.size := by
  rcases K.find w hkey es.toList F.keys with ⟨h1, h2⟩ | ⟨j, e0, h1, h2, h3⟩
  · refine .inl ⟨h2, ?_, ⟨by simp; omega, stamped_push F.stamped h2, ?_⟩⟩
    · simp [Instr.mapUpdate, run_underlying ht, MapKept.run_getObj_map hb, K.check w false hkey, h1, MapKept.run_setObj_map _ hb, Result.andThen, setBlock]
    · intro x hx
      simp only [Array.toList_push, List.mem_append, List.mem_singleton] at hx
      rcases hx with hx | rfl
      · exact F.reads x hx
      · exact ⟨_, rd_mk hkey rfl⟩
  · have hj : es[j]? = some e0 := by simpa using h2
    have hkeyf : ∀ e', es[j]? = some e' → ({ e' with key := key, val := v } : MapEntry).key = e'.key := fun e' he' => by rw [hj] at he'; cases he'; exact h3.symm
    have hlist : (es.modify j (fun e' => { e' with key := key, val := v })).toList = es.toList.set j { e0 with key := key, val := v } := by rw [Array.toList_modify, modify_eq_set _ _ _ _ h2]
    refine .inr ⟨j, e0, es.modify j (fun e' => { e' with key := key, val := v }), h2, h3, ?_, ⟨by simpa using F.size, stamped_modify F.stamped _ _ (fun _ _ => rfl) (fun e' _ he' => hkeyf e' he'), ?_⟩, hlist, by simp⟩
    · simp [Instr.mapUpdate, run_underlying ht, MapKept.run_getObj_map hb, K.check w false hkey, h1, hj, h3, K.stays w hkey, MapKept.run_setObj_map _ hb, Result.andThen, setBlock]
    · intro x hx
      rw [hlist] at hx
      rcases List.mem_or_eq_of_mem_set hx with hx | rfl
      · exact F.reads x hx
      · exact ⟨_, rd_mk hkey rfl⟩
theorem grown_set {es es' : Array MapEntry} {clock clock' : Nat} (hb : w.heap[b]? = some (.map es clock)) : w.grownBy (setBlock w b (.map es' clock')) (some b) := ⟨rfl, rfl, rfl, by simp [setBlock], fun i _ hi => heap_setBlock_other hb _ (fun e1 => hi (by rw [e1]))⟩
theorem set_who {es : Array MapEntry} {clock j : Nat} {e0 x : MapEntry} {key v : Value} (F : Fit P k anyE es clock) (h2 : es.toList[j]? = some e0) (h3 : e0.key = key) (hx : x ∈ es.toList.set j { e0 with key := key, val := v }) : x = { e0 with key := key, val := v } ∨ (x ∈ es.toList ∧ x.key ≠ key) := by
  obtain ⟨i, hi, ex⟩ := List.getElem_of_mem hx
  rw [List.getElem_set] at ex
  split at ex
  · exact .inl ex.symm
  · rename_i hne
    have hi' : i < es.toList.length := by simpa using hi
    refine .inr ⟨ex ▸ List.getElem_mem hi', ?_⟩
    rw [← h3]
    exact other_key F h2 (by rw [List.getElem?_eq_getElem hi', ex]) (fun e1 => hne e1.symm)
theorem set_in {es : Array MapEntry} {j : Nat} {e0 y x : MapEntry} (h2 : es.toList[j]? = some e0) (hx : x ∈ es.toList) (hne : x ≠ e0) : x ∈ es.toList.set j y := by
  obtain ⟨i, hi, rfl⟩ := List.getElem_of_mem hx
  have hij : j ≠ i := fun e => hne (by subst e; rw [List.getElem?_eq_getElem hi] at h2; exact Option.some.inj h2)
  have h9 : (es.toList.set j y)[i]? = some es.toList[i] := by rw [List.getElem?_set_ne hij, List.getElem?_eq_getElem hi]
  exact List.mem_of_getElem? h9
theorem set_new {es : Array MapEntry} {j : Nat} {e0 y : MapEntry} (h2 : es.toList[j]? = some e0) : y ∈ es.toList.set j y := by
  have hj : j < es.toList.length := (List.getElem?_eq_some_iff.1 h2).1
  have h9 : (es.toList.set j y)[j]? = some y := by rw [List.getElem?_set_self hj]
  exact List.mem_of_getElem? h9
theorem set_vals {es es' : Array MapEntry} {clock j : Nat} {e0 : MapEntry} {i : Int} {v : Value} (F : Fit P k anyE es clock) (h2 : es.toList[j]? = some e0) (h3 : e0.key = .int .i64 i) (hl : es'.toList = es.toList.set j { e0 with key := .int .i64 i, val := v })
    (a1 : ∀ x ∈ es.toList, ∀ i, x.key = .int .i64 i → x.val = f i) (a2 : ∀ i, (∀ x ∈ es.toList, x.key ≠ .int .i64 i) → f i = z) :
    (∀ x ∈ es'.toList, ∀ j, x.key = .int .i64 j → x.val = if j = i then v else f j) ∧ ∀ j, (∀ x ∈ es'.toList, x.key ≠ .int .i64 j) → (if j = i then v else f j) = z := by
  rw [hl]
  refine ⟨fun x hx j hj => ?_, fun j hj => ?_⟩
  · rcases set_who F h2 h3 hx with rfl | ⟨h8, h9⟩
    · have h9 : (Value.int .i64 i) = .int .i64 j := hj
      injection h9 with _ h9
      rw [if_pos h9.symm]
    · rw [if_neg (fun e => h9 (by rw [hj, e]))]
      exact a1 x h8 j hj
  · by_cases e : j = i
    · exact absurd (by rw [e]) (hj _ (set_new h2))
    · rw [if_neg e]
      refine a2 j fun x hx hk => hj x (set_in h2 hx fun e9 => ?_) hk
      rw [e9, h3] at hk
      injection hk with _ hk
      exact e hk.symm
theorem QM.store (h : QM w P k b n z f) (K : Keyed P k) (hk : P.underlying k = some (.int .i64)) (ht : P.underlying t = some (.map k e)) (hn : n < maxLen) {i : Int} (hw : (Lit.int .i64 i).wf = true) (v : Value) :
    ∃ w', (Instr.mapUpdate t (.map (some b)) (.int .i64 i) v).run P w = .ok () w' ∧ QM w' P k b (n + 1) z (fun j => if j = i then v else f j) ∧ w.grownBy w' (some b) := by
  obtain ⟨es, clock, hb, F, hs, a1, a2⟩ := h
  rcases store_raw K ht hb F (Nat.lt_of_le_of_lt hs hn) (Maps.keyOf_int_mk hk hw) v with ⟨h2, hrun, F'⟩ | ⟨j, e0, es', h2, h3, hrun, F', hl, hsz⟩
  · refine ⟨_, hrun, ⟨_, _, heap_setBlock_same hb _, F', by simp; omega, fun x hx j hj => ?_, fun j hj => ?_⟩, grown_set hb⟩
    · simp only [Array.toList_push, List.mem_append, List.mem_singleton] at hx
      rcases hx with hx | rfl
      · show x.val = if j = i then v else f j
        rw [if_neg (show ¬ j = i from fun e => h2 x hx (by rw [hj, e]))]
        exact a1 x hx j hj
      · have h9 : (Value.int .i64 i) = .int .i64 j := hj
        injection h9 with _ h9
        show v = if j = i then v else f j
        rw [if_pos h9.symm]
    · simp only [Array.toList_push, List.mem_append, List.mem_singleton] at hj
      have hne : j ≠ i := fun e => hj _ (.inr rfl) (by rw [e])
      show (if j = i then v else f j) = z
      rw [if_neg hne]
      exact a2 j fun x hx => hj x (.inl hx)
  · obtain ⟨c1, c2⟩ := set_vals F h2 h3 hl a1 a2
    exact ⟨_, hrun, ⟨_, _, heap_setBlock_same hb _, F', by omega, c1, c2⟩, grown_set hb⟩
def QR (w : World) (P : Program) (k : TypeId) (b r n : Nat) (z : Value) (f : Int → Value) (left : Int → Bool) (cnt : Nat) : Prop :=
  ∃ es clock since seen c0, w.heap[b]? = some (.map es clock) ∧ Fit P k anyE es clock ∧ es.size ≤ n ∧ (∀ x ∈ es.toList, ∀ i, x.key = .int .i64 i → x.val = f i) ∧ (∀ i, (∀ x ∈ es.toList, x.key ≠ .int .i64 i) → f i = z) ∧
    w.heap[r]? = some (.mapIter (some b) since seen c0) ∧ (∀ x ∈ es.toList, x.born < since) ∧ (leftOf es seen).size = cnt ∧
    (∀ x ∈ es.toList, ∀ i, x.key = .int .i64 i → left i = !seen.contains x.born) ∧ (∀ i, left i = true → ∃ x ∈ es.toList, x.key = .int .i64 i) ∧ since ≤ c0 ∧ since ≤ clock
theorem QR.map (h : QR w P k b r n z f left cnt) : QM w P k b n z f := by
  obtain ⟨es, clock, since, seen, c0, hb, F, hs, a1, a2, _⟩ := h
  exact ⟨es, clock, hb, F, hs, a1, a2⟩
theorem QR.blk (h : QR w P k b r n z f left cnt) (e1 : w'.heap[b]? = w.heap[b]?) (e2 : w'.heap[r]? = w.heap[r]?) : QR w' P k b r n z f left cnt := by
  obtain ⟨es, clock, since, seen, c0, hb, F, hs, a1, a2, hr, rest⟩ := h
  exact ⟨es, clock, since, seen, c0, e1.trans hb, F, hs, a1, a2, e2.trans hr, rest⟩
theorem QR.ne (h : QR w P k b r n z f left cnt) : r ≠ b := by
  obtain ⟨es, clock, since, seen, c0, hb, _, _, _, _, hr, _⟩ := h
  intro e
  rw [e, hb] at hr
  cases hr
theorem QR.lt (h : QR w P k b r n z f left cnt) : r < w.heap.size := by
  obtain ⟨es, clock, since, seen, c0, hb, _, _, _, _, hr, _⟩ := h
  exact (Array.getElem?_eq_some_iff.1 hr).1
theorem QR.left_eq (h : QR w P k b r n z f left cnt) : w.rangeLeft b r = cnt := by
  obtain ⟨es, clock, since, seen, c0, hb, _, _, _, _, hr, _, hc, _⟩ := h
  simp only [World.rangeLeft, hb, hr]
  exact hc
open Classical in
theorem QM.range (h : QM w P k b n z f) (ht : P.underlying t = some (.map k e)) : ∃ w' left cnt, (Instr.range t (.map (some b))).run P w = .ok (.pointer (some ⟨w.heap.size, 0, none⟩)) w' ∧ QR w' P k b w.heap.size n z f left cnt ∧ (∀ i, left i = false → f i = z) ∧ w.grownBy w' none ∧ w'.heap.size = w.heap.size + 1 := by
  have hlt := h.lt
  obtain ⟨es, clock, hb, F, hs, a1, a2⟩ := h
  refine ⟨_, fun i => decide (∃ x ∈ es.toList, x.key = .int .i64 i), _, run_range_map w t k e b es clock ht hb, ⟨es, clock, clock, #[], clock, ((MapKept.heap_alloc w _).2 b hlt).trans hb, F, hs, a1, a2, (MapKept.heap_alloc w _).1, F.stamped.1, rfl, fun x hx i hi => ?_, fun i hi => of_decide_eq_true hi, Nat.le_refl _, Nat.le_refl _⟩, fun i hi => a2 i fun x hx hk => of_decide_eq_false hi ⟨x, hx, hk⟩, World.grownBy_alloc w _ none, by simp⟩
  show decide (∃ x ∈ es.toList, x.key = Value.int .i64 i) = _
  rw [decide_eq_true ⟨x, hx, hi⟩]
  simp
theorem QR.next (h : QR w P k b r n z f left cnt) (K : Keyed P k) (hk : P.underlying k = some (.int .i64)) (ty : TypeId) :
    (cnt = 0 ∧ (∀ i, left i = false) ∧ (Instr.next (.pointer (some ⟨r, 0, none⟩)) false ty).run P w = .ok (.tuple #[.bool false]) w) ∨
    ∃ i w' cnt', (Lit.int .i64 i).wf = true ∧ left i = true ∧ (Instr.next (.pointer (some ⟨r, 0, none⟩)) false ty).run P w = .ok (.tuple #[.bool true, .int .i64 i, f i]) w' ∧
      QR w' P k b r n z f (fun j => left j && j != i) cnt' ∧ cnt' < cnt ∧ w.grownBy w' (some r) ∧ w'.heap.size = w.heap.size ∧ (Instr.entry (.pointer (some ⟨r, 0, none⟩))).run P w' = .ok (.tuple #[.int .i64 i, f i]) w' := by
  have hne := h.ne
  obtain ⟨es, clock, since, seen, c0, hb, F, hs, a1, a2, hr, hold, rfl, hl1, hl2, hsc, hsk⟩ := h
  rcases run_next_at (P := P) w ty r b since c0 seen es clock hr hb hold hsc with ⟨h0, hrun⟩ | ⟨e, he, w1, hal, hrun⟩
  · refine Or.inl ⟨h0, fun i => ?_, hrun⟩
    cases hki : left i
    · rfl
    · obtain ⟨x, hx, hxk⟩ := hl2 i hki
      rw [hl1 x hx i hxk, all_seen es seen h0 x hx] at hki
      cases hki
  · obtain ⟨hem, hes⟩ := mem_left he
    obtain ⟨y0, hy0⟩ := F.reads e hem
    obtain ⟨i, hei, _, hwf⟩ := Maps.keyOf_int_inv hk (rd_key hy0)
    have hv := a1 e hem i hei
    have hr1 : w1.heap[r]? = some (.mapIter (some b) since seen c0) := by rcases hal with rfl | rfl <;> exact hr
    have hb1 : w1.heap[b]? = some (.map es clock) := by rcases hal with rfl | rfl <;> exact hb
    have hset := heap_set (o' := .mapIter (some b) since (seen.push e.born) clock) hr1
    have hb' : (setBlock w1 r (.mapIter (some b) since (seen.push e.born) clock)).heap[b]? = some (.map es clock) := (hset.2 b (fun e1 => hne e1.symm)).trans hb1
    have hst := (stamped_iff es clock).1 F.stamped
    rw [hei, hv] at hrun
    refine Or.inr ⟨i, _, _, hwf, by rw [hl1 e hem i hei, hes]; rfl, hrun,
      ⟨es, clock, since, seen.push e.born, clock, hb', F, hs, a1, a2, hset.1, hold, rfl, fun x hx j hj => ?_, fun j hj => hl2 j (by simp at hj; exact hj.1), hsk, hsk⟩, left_shrinks es seen e he, ?_, ?_, ?_⟩
    · show (left j && j != i) = _
      rw [hl1 x hx j hj, contains_push]
      have : (j != i) = !(x.born == e.born) := by
        by_cases hbe : x.born = e.born
        · obtain rfl := born_inj hst.2.1 hx hem hbe
          rw [hj] at hei
          injection hei with _ hei
          subst hei
          simp
        · have h1 : (x.born == e.born) = false := by simp [hbe]
          rw [h1]
          have : j ≠ i := fun e9 => hbe (congrArg MapEntry.born (entry_eq_of_key hst.2.2 hx hem (by rw [hj, hei, e9])))
          simp [this]
      rw [this]
      cases seen.contains x.born <;> cases (x.born == e.born) <;> rfl
    · rcases hal with rfl | rfl <;> exact ⟨rfl, rfl, rfl, by simp [setBlock], fun i _ hi => hset.2 i (fun e1 => hi (by rw [e1]))⟩
    · rcases hal with rfl | rfl <;> simp [setBlock]
    · have := run_entry_at (P := P) _ r b since seen es clock e hset.1 hb' hem hst.2.1
      rw [hei, hv] at this
      exact this
theorem QR.store (h : QR w P k b r n z f left cnt) (K : Keyed P k) (hk : P.underlying k = some (.int .i64)) (ht : P.underlying t = some (.map k e)) (hn : n < maxLen) {i : Int} (hw : (Lit.int .i64 i).wf = true) (hi : f i ≠ z) (v : Value) :
    ∃ w', (Instr.mapUpdate t (.map (some b)) (.int .i64 i) v).run P w = .ok () w' ∧ QR w' P k b r n z (fun j => if j = i then v else f j) left cnt ∧ w.grownBy w' (some b) := by
  have hne := h.ne
  obtain ⟨es, clock, since, seen, c0, hb, F, hs, a1, a2, hr, hold, rfl, hl1, hl2, hsc, hsk⟩ := h
  rcases store_raw K ht hb F (Nat.lt_of_le_of_lt hs hn) (Maps.keyOf_int_mk hk hw) v with ⟨h2, _, _⟩ | ⟨j, e0, es', h2, h3, hrun, F', hl, hsz⟩
  · exact absurd (a2 i h2) hi
  · obtain ⟨c1, c2⟩ := set_vals F h2 h3 hl a1 a2
    have hm0 : e0 ∈ es.toList := List.mem_of_getElem? h2
    refine ⟨_, hrun, ⟨es', clock, since, seen, c0, heap_setBlock_same hb _, F', by omega, c1, c2, (heap_setBlock_other hb _ hne).trans hr, fun x hx => ?_, ?_, fun x hx a ha => ?_, fun a ha => ?_, hsc, hsk⟩, grown_set hb⟩
    · rw [hl] at hx
      rcases set_who F h2 h3 hx with rfl | ⟨hx, _⟩
      · exact hold e0 hm0
      · exact hold x hx
    · have e1 : ∀ a : Array MapEntry, (leftOf a seen).size = ((a.toList.map (·.born)).filter fun i => !seen.contains i).length := fun a => by
        unfold leftOf
        rw [← Array.length_toList, Array.toList_filter, List.filter_map, List.length_map]
        rfl
      have e2 : es'.toList.map (·.born) = es.toList.map (·.born) := by
        rw [hl, List.map_set]
        show (es.toList.map (·.born)).set j e0.born = _
        apply List.ext_getElem?
        intro m
        by_cases hjm : j = m
        · subst hjm
          rw [List.getElem?_set_self (by simpa using (List.getElem?_eq_some_iff.1 h2).1), List.getElem?_map, h2]
          rfl
        · rw [List.getElem?_set_ne hjm]
      rw [e1, e1, e2]
    · rw [hl] at hx
      rcases set_who F h2 h3 hx with rfl | ⟨hx, _⟩
      · have h9 : (Value.int .i64 i) = .int .i64 a := ha
        injection h9 with _ h9
        subst h9
        exact hl1 e0 hm0 i h3
      · exact hl1 x hx a ha
    · obtain ⟨x, hx, hxa⟩ := hl2 a ha
      rw [hl]
      by_cases e9 : x = e0
      · refine ⟨_, set_new h2, ?_⟩
        show (Value.int .i64 i) = .int .i64 a
        rw [← hxa, e9, h3]
      · exact ⟨x, set_in h2 hx e9, hxa⟩
end
section
variable {P : Program} (w : World) {ops : Array Oper} {rest : List Oper} {o : Oper} {a : Act} {Q : Exit → Act → World → Prop} {k e : TypeId} {b r n : Nat} {z : Value} {f : Int → Value} {left : Int → Bool} {cnt : Nat}
theorem wpList_lookupQ (hg : o.guard = none) (m x : Operand) (t : TypeId) (hop : o.op = Op.lookup t m x false) (K : Keyed P k) (hk : P.underlying k = some (.int .i64)) (ht : P.underlying t = some (.map k e)) (hz : (zeroValue e).run P w = .ok z w)
    (hm : a.eval m = .map (some b)) (h : QM w P k b n z f) (i : Int) (hx : a.eval x = .int .i64 i) (hw : (Lit.int .i64 i).wf = true)
    (hK : wpList P ops Q rest (a.put o.dst (f i)) w) : wpList P ops Q (o :: rest) a w := by
  refine wpList_plain hg fun K' hK' => ?_
  unfold Oper.wp
  simp [execOp, hop, hm, hx, h.at K hk ht hz hw, Result.andThen]
  exact hK' _ _ hK
theorem wpList_storeQ (hg : o.guard = none) (m x v : Operand) (t : TypeId) (hop : o.op = Op.mapUpdate t m x v) (K : Keyed P k) (hk : P.underlying k = some (.int .i64)) (ht : P.underlying t = some (.map k e))
    (hm : a.eval m = .map (some b)) (h : QM w P k b n z f) (hn : n < maxLen) (i : Int) (hx : a.eval x = .int .i64 i) (hw : (Lit.int .i64 i).wf = true) (u : Value) (hv : a.eval v = u)
    (hK : ∀ w', QM w' P k b (n + 1) z (fun j => if j = i then u else f j) → w.grownBy w' (some b) → wpList P ops Q rest (a.put o.dst undef) w') : wpList P ops Q (o :: rest) a w := by
  refine wpList_plain hg fun K' hK' => ?_
  obtain ⟨w', hrun, r1, r2⟩ := h.store K hk ht hn hw u
  unfold Oper.wp
  simp [execOp, hop, hm, hx, hv, hrun, Result.andThen]
  exact hK' _ _ (hK w' r1 r2)
theorem wpList_storeQR (hg : o.guard = none) (m x v : Operand) (t : TypeId) (hop : o.op = Op.mapUpdate t m x v) (K : Keyed P k) (hk : P.underlying k = some (.int .i64)) (ht : P.underlying t = some (.map k e))
    (hm : a.eval m = .map (some b)) (h : QR w P k b r n z f left cnt) (hn : n < maxLen) (i : Int) (hx : a.eval x = .int .i64 i) (hw : (Lit.int .i64 i).wf = true) (hi : f i ≠ z) (u : Value) (hv : a.eval v = u)
    (hK : ∀ w', QR w' P k b r n z (fun j => if j = i then u else f j) left cnt → w.grownBy w' (some b) → wpList P ops Q rest (a.put o.dst undef) w') : wpList P ops Q (o :: rest) a w := by
  refine wpList_plain hg fun K' hK' => ?_
  obtain ⟨w', hrun, r1, r2⟩ := h.store K hk ht hn hw hi u
  unfold Oper.wp
  simp [execOp, hop, hm, hx, hv, hrun, Result.andThen]
  exact hK' _ _ (hK w' r1 r2)
theorem wpList_rangeQ (hg : o.guard = none) (m : Operand) (t : TypeId) (hop : o.op = Op.range t m) (ht : P.underlying t = some (.map k e)) (hm : a.eval m = .map (some b)) (h : QM w P k b n z f)
    (hK : ∀ w' left cnt, QR w' P k b w.heap.size n z f left cnt → (∀ i, left i = false → f i = z) → w.grownBy w' none → w'.heap.size = w.heap.size + 1 → wpList P ops Q rest (a.put o.dst (.pointer (some ⟨w.heap.size, 0, none⟩))) w') : wpList P ops Q (o :: rest) a w := by
  refine wpList_plain hg fun K' hK' => ?_
  obtain ⟨w', left, cnt, hrun, r1, r2, r3, r4⟩ := h.range ht
  unfold Oper.wp
  simp [execOp, hop, hm, hrun, Result.andThen]
  exact hK' _ _ (hK w' left cnt r1 r2 r3 r4)
theorem wpList_nextQ (hg : o.guard = none) (it : Operand) (hop : o.op = Op.next it false) (K : Keyed P k) (hk : P.underlying k = some (.int .i64)) (hit : a.eval it = .pointer (some ⟨r, 0, none⟩)) (h : QR w P k b r n z f left cnt)
    (hDone : cnt = 0 → (∀ i, left i = false) → wpList P ops Q rest (a.put o.dst (.tuple #[.bool false])) w)
    (hMore : ∀ (i : Int) (w' : World) (cnt' : Nat), (Lit.int .i64 i).wf = true → left i = true → QR w' P k b r n z f (fun j => left j && j != i) cnt' → cnt' < cnt → w.grownBy w' (some r) → w'.heap.size = w.heap.size →
      (Instr.entry (.pointer (some ⟨r, 0, none⟩))).run P w' = .ok (.tuple #[.int .i64 i, f i]) w' → wpList P ops Q rest (a.put o.dst (.tuple #[.bool true, .int .i64 i, f i])) w') : wpList P ops Q (o :: rest) a w := by
  refine wpList_plain hg fun K' hK' => ?_
  unfold Oper.wp
  rcases h.next K hk o.type with ⟨h0, hl, hrun⟩ | ⟨i, w', cnt', hwf, hli, hrun, hrg, hlt, hgr, hsz, hen⟩
  · simp [execOp, hop, hit, hrun, Result.andThen]
    exact hK' _ _ (hDone h0 hl)
  · simp [execOp, hop, hit, hrun, Result.andThen]
    exact hK' _ _ (hMore i w' cnt' hwf hli hrg hlt hgr hsz hen)
end
end Go.Proofs.Ytolalbpjaebfdaa
namespace Go.Proofs.Ytolalbpjaebfdaa
open Go.RowKit Go.Shelf
set_option linter.unusedVariables false
set_option linter.unusedSimpArgs false
structure Qr (w : World) (B : Nat) (A : Option Addr) (m c : Nat) (l : List Int) : Prop where
  len : m = l.length
  le : m ≤ c
  nil : A = none → c = 0
  at_ : ∀ a, A = some a → ∃ g off, a = ⟨g, off, none⟩ ∧ B ≤ g ∧ ∃ cur, w.heap[g]? = some (.cells cur 3 (0, 0)) ∧ off + c ≤ cur.size ∧ c ≤ maxLen ∧ ∀ j, j < m → cur[off + j]? = some (.int .i64 (l.getD j 0))
section
variable {w w' : World} {B m c : Nat} {A : Option Addr} {l : List Int}
theorem qr_nil (w : World) (B : Nat) : Qr w B none 0 0 [] := ⟨rfl, Nat.le_refl _, fun _ => rfl, fun a e => by cases e⟩
theorem Qr.blk (h : Qr w B A m c l) (hk : ∀ a, A = some a → w'.heap[a.block]? = w.heap[a.block]?) : Qr w' B A m c l := ⟨h.len, h.le, h.nil, fun a e => by
  obtain ⟨g, off, rfl, hb, cur, hh, rest⟩ := h.at_ a e
  exact ⟨g, off, rfl, hb, cur, (hk _ e).trans hh, rest⟩⟩
theorem Qr.lt (h : Qr w B A m c l) {a : Addr} (e : A = some a) : B ≤ a.block ∧ a.block < w.heap.size := by
  obtain ⟨g, off, rfl, hb, cur, hh, _⟩ := h.at_ a e
  exact ⟨hb, (Array.getElem?_eq_some_iff.1 hh).1⟩
theorem Qr.below {X : Nat} (h : Qr w B A m c l) (b : Below X w w') (hX : w.heap.size ≤ X) : Qr w' B A m c l := h.blk fun a e => b.block _ (Nat.lt_of_lt_of_le (h.lt e).2 hX)
theorem Qr.but {g : Nat} (h : Qr w B A m c l) (n : But g w w') (hg : ∀ a, A = some a → a.block ≠ g) : Qr w' B A m c l := h.blk fun a e => n.block _ (h.lt e).2 (hg a e)
theorem Qr.cell (h : Qr w B A m c l) {j : Nat} (hj : j < m) : ∃ g off, A = some ⟨g, off, none⟩ ∧ w.cell? ⟨g, off + j, none⟩ = some (.int .i64 (l.getD j 0)) := by
  cases e : A with
  | none => have := h.nil e; have := h.le; omega
  | some a =>
    obtain ⟨g, off, rfl, hb, cur, hh, hs, hc, hv⟩ := h.at_ a e
    refine ⟨g, off, rfl, ?_⟩
    simp only [World.cell?, hh]
    exact hv j hj
theorem Qr.kind (h : Qr w B A m c l) {a : Addr} (e : A = some a) : ∃ cur, w.heap[a.block]? = some (.cells cur 3 (0, 0)) := by
  obtain ⟨g, off, rfl, hb, cur, hh, _⟩ := h.at_ a e
  exact ⟨cur, hh⟩
theorem Qr.tail {i : Int} {t : List Int} {c' : Nat} {g off : Nat} (h : Qr w B (some ⟨g, off, none⟩) (t.length + 1) (c' + 1) (i :: t)) : Qr w B (if c' = 0 then some ⟨g, off, none⟩ else some ⟨g, off + 1, none⟩) t.length c' t := by
  obtain ⟨g', off', e2, hb, cur, hh, hs, hc, hv⟩ := h.at_ _ rfl
  cases e2
  have hle := h.le
  by_cases h0 : c' = 0
  · rw [if_pos h0]
    refine ⟨rfl, by omega, fun e => (by cases e), fun a e => ?_⟩
    cases e
    exact ⟨g, off, rfl, hb, cur, hh, by omega, by omega, fun j hj => by omega⟩
  · rw [if_neg h0]
    refine ⟨rfl, by omega, fun e => (by cases e), fun a e => ?_⟩
    cases e
    refine ⟨g, off + 1, rfl, hb, cur, hh, by omega, by omega, fun j hj => ?_⟩
    rw [show off + 1 + j = off + (j + 1) by omega, hv (j + 1) (by omega)]
    rfl
theorem run_append_room_off {P : Program} (t ty e : TypeId) (i : TypeInfo) (ht : P.underlying t = some (.slice e)) (hi : P.info? e = some i) (h1s : i.size = 1)
    (g off sLen sCap : Nat) (cur : Array Value) (hg : w.heap[g]? = some (.cells cur e (0, 0)))
    (a : Addr) (mm cc : Nat) (news : List Value) (hl : news.length = mm * i.size) (hnews : ∀ j u, news[j]? = some u → w.cell? (a.add j) = some u) (h1 : ∀ u ∈ news, u.oneCell' = true)
    (hroom : sLen + mm ≤ sCap) (hfit : off + sLen + news.length ≤ cur.size) :
    (Builtin.append_ #[t, t] ty #[.slice (some ⟨g, off, none⟩) sLen sCap, .slice (some a) mm cc]).run P w =
      .ok (.slice (some ⟨g, off, none⟩) (sLen + mm) sCap) (w.setRow g (cur.toList.take (off + sLen) ++ news ++ cur.toList.drop (off + sLen + news.length)).toArray) := by
  have hf := run_firstCells_some (P := P) w i.size mm a mm cc news hl hnews
  have hst := run_storeCells_at P g (off + sLen) e news 0 cur w hg (by simpa using hfit) h1
  simp only [Nat.add_zero] at hst
  rw [h1s] at hf
  simp [Builtin.append_, run_underlying ht, sizeOf, typeInfo, hi, h1s, Builtin.lenOf, hroom, hf, Addr.add_lit, hst]
theorem run_appQ (ty : TypeId) (h : Qr w B A m c l) (x : Int) (b : Nat) (hx : w.cell? ⟨b, 0, none⟩ = some (.int .i64 x)) (hm : m ≤ 2000000) (hB : B ≤ w.heap.size) :
    ∃ A' c' w', (Builtin.append_ #[40, 40] ty #[.slice A m c, .slice (some ⟨b, 0, none⟩) 1 1]).run Try.prog w = .ok (.slice A' (m + 1) c') w' ∧ Qr w' B A' (m + 1) c' (l ++ [x]) ∧
      w.grownBy w' (A.map (·.block)) ∧ ((A'.map (·.block)) = A.map (·.block) ∨ ∃ g, A'.map (·.block) = some g ∧ w.heap.size ≤ g) := by
  obtain ⟨i, hi, hz, hs1, hb1⟩ := info_parts zint_info
  have hlen := h.len
  have hnews : ∀ j u, [Value.int .i64 x][j]? = some u → w.cell? ((⟨b, 0, none⟩ : Addr).add j) = some u := fun j u hj => by
    cases j with
    | zero =>
      have hj : some (Value.int .i64 x) = some u := hj
      rw [← Option.some.inj hj, z_add]
      exact hx
    | succ j => cases hj
  have h1c : ∀ u ∈ [Value.int .i64 x], u.oneCell' = true := fun u hu => by rw [List.mem_singleton.1 hu]; rfl
  have fromOwn : ∀ {v : Value} {w' : World}, w'.ownsRow w.heap.size 3 1 v (m + 1) (l.map (Value.int .i64) ++ [.int .i64 x]) → ∃ A' c', v = .slice A' (m + 1) c' ∧ Qr w' B A' (m + 1) c' (l ++ [x]) ∧ ∃ g, A'.map (·.block) = some g ∧ w.heap.size ≤ g := fun {v w'} ho => by
    have ho2 : w'.ownsRow w.heap.size 3 1 v (m + 1) ((l ++ [x]).map (Value.int .i64)) := by rw [List.map_append]; exact ho
    obtain ⟨A', c', rfl⟩ := own_slice ho2
    have hz2 : Zo w' w.heap.size A' (m + 1) c' (l ++ [x]) := ho2
    rcases hz2.form with ⟨_, h0, _⟩ | ⟨g, rfl, hgb, _, cur, hh, h3, h4, h5, h6⟩
    · omega
    · refine ⟨_, _, rfl, ⟨by simp [hlen], h3, fun e => (by cases e), fun a e => ?_⟩, g, rfl, hgb⟩
      cases e
      refine ⟨g, 0, rfl, Nat.le_trans hB hgb, cur, hh, by omega, h4, fun j hj => ?_⟩
      have h7 : (cur.toList.take (m + 1))[j]? = some (.int .i64 ((l ++ [x]).getD j 0)) := by rw [h6]; exact z_get' (by simp; omega)
      rw [List.getElem?_take_of_lt hj] at h7
      rw [Nat.zero_add]
      simpa using h7
  cases e : A with
  | none =>
    have hc0 := h.nil e
    have hm0 : m = 0 := by have := h.le; omega
    have hl0 : l = [] := List.eq_nil_of_length_eq_zero (by omega)
    subst hc0 hm0 hl0
    obtain ⟨v', w', hrun, h3, h4, _, _⟩ := run_append_own_at (P := Try.prog) w w.heap.size 40 ty 3 i _ 1 8 Try.underlying40 hi hz hs1 hb1 rfl (by decide) _ 0 [] (World.ownsRow_nil w _ _ _) ⟨b, 0, none⟩ 1 1 [.int .i64 x] rfl hnews h1c (by simp [maxLen]) (by omega) (Nat.le_refl _)
    obtain ⟨A', c', rfl, hq, g, hg1, hg2⟩ := fromOwn (by simpa using h3)
    exact ⟨A', c', w', hrun, hq, h4, .inr ⟨g, hg1, hg2⟩⟩
  | some a =>
    subst e
    obtain ⟨g, off, rfl, hb, cur, hh, hs, hc, hv⟩ := h.at_ a rfl
    by_cases hroom : m + 1 ≤ c
    · have hr := run_append_room_off (P := Try.prog) 40 ty 3 i Try.underlying40 hi hs1 g off m c cur hh ⟨b, 0, none⟩ 1 1 [.int .i64 x] (by rw [hs1]; rfl) hnews h1c hroom (by simp; omega)
      refine ⟨_, _, _, hr, ⟨by simp [hlen], hroom, fun e => (by cases e), fun a e => ?_⟩, ⟨rfl, rfl, rfl, by simp [World.setRow], fun k _ hk => setRow_other w g k _ (fun e => hk (by rw [e]; rfl))⟩, .inl rfl⟩
      cases e
      have hsz : (off + m) ≤ cur.toList.length := by simp; omega
      refine ⟨g, off, rfl, hb, _, setRow_heap w g cur _ _ _ hh, by simp; omega, hc, fun j hj => ?_⟩
      rw [List.getElem?_toArray, List.append_assoc]
      by_cases hjm : j < m
      · rw [List.getElem?_append_left (by simp; omega), List.getElem?_take_of_lt (by omega)]
        have := hv j hjm
        rw [show (l ++ [x]).getD j 0 = l.getD j 0 by simp [List.getD, List.getElem?_append_left (show j < l.length by omega)]]
        simpa using this
      · have hjm : j = m := by omega
        subst hjm
        rw [List.getElem?_append_right (by simp; omega)]
        simp only [List.length_take]
        rw [show off + j - min (off + j) cur.toList.length = 0 by omega, hlen]
        simp [List.getD]
    · have holds : ∀ k u, (l.map (Value.int .i64))[k]? = some u → w.cell? ((⟨g, off, none⟩ : Addr).add k) = some u := fun k u hk => by
        obtain ⟨hk2, rfl⟩ := z_get hk
        rw [z_add]
        simp only [World.cell?, hh]
        exact hv k (by omega)
      obtain ⟨v', w', hrun, h3, h4⟩ := run_append_arg_grows (P := Try.prog) w 40 ty 3 i _ 1 8 Try.underlying40 hi hz hs1 hb1 rfl (by decide) ⟨g, off, none⟩ m c (l.map (Value.int .i64)) (by simp [hlen]) holds ⟨b, 0, none⟩ 1 1 [.int .i64 x] rfl hnews (by omega) (by simp only [maxLen]; omega) (by omega)
      obtain ⟨A', c', rfl, hq, g2, hg1, hg2⟩ := fromOwn h3
      refine ⟨A', c', w', hrun, hq, ⟨h4.os, h4.tape, h4.output, h4.size, fun k hk _ => h4.block k hk (by simp)⟩, .inr ⟨g2, hg1, hg2⟩⟩
end
end Go.Proofs.Ytolalbpjaebfdaa

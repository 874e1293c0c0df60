/-
  The reference's Flow: what lies there while it runs; something is always returned.
-/
import Derived.Test.YtehcijockeecpaaDoorRfDo
import Derived.Test.YtehcijockeecpaaDoorBmZ
import Derived.Test.YtehcijockeecpaaDoorBmW
namespace Go.Proofs.YtehcijockeecpaaDoor
open Go.RowKit
set_option linter.unusedVariables false

theorem told_any {f : Nat → Ins} {n : Nat} (hM : May f n) (ho : ∀ i, i < n → insO (f i)) {nr arch : Int} (hnr : U32 nr) (har : U32 arch) : (floS alI hdI nr arch f n n).2.r = true := by
  have h := all_fit (d := fun o => if o = 0 then nr else if o = 4 then arch else 0) hM ho (fun o => by
    split
    · exact hnr
    · split
      · exact har
      · exact u32_0) rfl rfl hnr har
  exact h.2.1
/-- The cells of a row of numbers that may be known. -/
def absL (rs : List Ab) : List Value := rs.flatMap fun r => (abA r).toList
theorem absL_len : ∀ rs : List Ab, (absL rs).length = rs.length * 2
  | [] => rfl
  | r :: rs => by
    have := absL_len rs
    unfold absL at this ⊢
    rw [List.flatMap_cons, List.length_append, this, List.length_cons]
    simp [abA]
    omega
theorem absL_snoc (rs : List Ab) (r : Ab) : absL (rs ++ [r]) = absL rs ++ (abA r).toList := by simp [absL]
theorem absL_at : ∀ (rs : List Ab) (j k : Nat), j < rs.length → k < 2 → (absL rs)[j * 2 + k]? = (abA (rs.getD j ab0)).toList[k]?
  | [], j, _, h, _ => absurd h (by simp)
  | r :: rs, 0, k, _, hk => by
    unfold absL
    rw [List.flatMap_cons, List.getElem?_append_left (by simp [abA]; omega), Nat.zero_mul, Nat.zero_add]
    rfl
  | r :: rs, j + 1, k, h, hk => by
    have ih := absL_at rs j k (by simpa using h) hk
    unfold absL at ih ⊢
    rw [List.flatMap_cons, List.getElem?_append_right (by simp [abA]; omega)]
    have e : (j + 1) * 2 + k - (abA r).toList.length = j * 2 + k := by simp [abA]; omega
    rw [e]
    exact ih
theorem abs_one (r : Ab) : ∀ u ∈ (abA r).toList, u.oneCell' = true := by
  intro u hu
  simp only [abA, List.mem_cons, List.not_mem_nil, or_false] at hu
  rcases hu with rfl | rfl <;> rfl
theorem abs_info : (Tryd.prog.info? 27).map (fun i => (i.zero, i.size, i.bytes)) = some (some (.agg #[.bool false, .int .u32 0]), 2, 8) := by kernel_rfl
/-- An own row lies as it lay, if all from its base on does. -/
theorem own_keep {w w' : World} {base e size n : Nat} {v : Value} {xs : List Value} (h : w.ownsRow base e size v n xs) (hk : ∀ g cur, base ≤ g → w.heap[g]? = some (.cells cur e (0, 0)) → w'.heap[g]? = w.heap[g]?) : w'.ownsRow base e size v n xs := by
  refine ⟨h.1, ?_⟩
  rcases h.2 with h0 | ⟨g, cap, cur, hv, hg, hh, r⟩
  · exact .inl h0
  · exact .inr ⟨g, cap, cur, hv, hg, (hk g cur hg hh).trans hh, r⟩
/-- The states, and the call's own result. -/
structure QF (w V : World) (m g8 : Nat) (L : List StS) : Prop where
  k7 : Blk V w.heap.size (abA ab0) 27
  k8 : Blk V g8 (rowS L) 40
  h8 : w.heap.size < g8
  hL : L.length = m
  old : Below w.heap.size w V
section
variable {w V V' : World} {m g8 : Nat} {L L' : List StS}
theorem QF.below (h : QF w V m g8 L) (hb : Below V.heap.size V V') : QF w V' m g8 L := ⟨h.k7.below hb h.k7.lt, h.k8.below hb h.k8.lt, h.h8, h.hL, h.old.trans (hb.mono h.old.size)⟩
theorem QF.put (h : QF w V m g8 L) (k : Blk V' g8 (rowS L') 40) (n : But g8 V V') (hl : L'.length = m) : QF w V' m g8 L' :=
  have := h.h8
  ⟨n.blk' h.k7 (by omega), k, h.h8, hl, h.old.trans (n.below _ (by omega) h.old.size)⟩
theorem own_but {base n : Nat} {v : Value} {xs : List Value} (h : V.ownsRow base 27 2 v n xs) (b : But g8 V V') (hg : g8 < base) : V'.ownsRow base 27 2 v n xs :=
  own_keep h fun g cur hg' hh => b.block g (Array.getElem?_eq_some_iff.1 hh).1 (by omega)
theorem own_blw {base n : Nat} {v : Value} {xs : List Value} (h : V.ownsRow base 27 2 v n xs) (b : Below V.heap.size V V') : V'.ownsRow base 27 2 v n xs :=
  own_keep h fun g cur _ hh => b.block g (Array.getElem?_eq_some_iff.1 hh).1
end
/-- Places as they are read. -/
def Pr7 (V : World) (B : Nat) (A : Option Addr) (ps : List Nat) : Prop := ∀ j, j < ps.length → ∃ b, A = some ⟨b, 0, none⟩ ∧ b < B ∧ V.cell? ⟨b, j, none⟩ = some (.int .i64 ((ps.getD j 0 : Nat) : Int))
theorem pr_of {V : World} {P : Value} {ps : List Nat} (h : PL V P (ps.map fun n : Nat => (n : Int))) : ∃ A, P = .slice A ps.length ps.length ∧ Pr7 V V.heap.size A ps := by
  rcases h with ⟨rfl, h⟩ | ⟨g, rfl, hb⟩
  · have : ps = [] := List.map_eq_nil_iff.1 h
    subst this
    exact ⟨none, rfl, fun j hj => absurd hj (by simp)⟩
  · refine ⟨some ⟨g, 0, none⟩, by simp, fun j hj => ⟨g, rfl, hb.lt, ?_⟩⟩
    rw [hb.cell]
    simp [List.getD, hj]
theorem Pr7.keep {V V' : World} {B : Nat} {A : Option Addr} {ps : List Nat} (h : Pr7 V B A ps) (hk : ∀ b j v, b < B → V.cell? ⟨b, j, none⟩ = some (.int .i64 v) → V'.cell? ⟨b, j, none⟩ = V.cell? ⟨b, j, none⟩) : Pr7 V' B A ps := fun j hj => by
  obtain ⟨b, e, hb, hc⟩ := h j hj
  exact ⟨b, e, hb, (hk b j _ hb hc).trans hc⟩
theorem Pr7.blw {V V' : World} {A : Option Addr} {ps : List Nat} {B : Nat} (h : Pr7 V B A ps) (hB : B ≤ V.heap.size) (b : Below V.heap.size V V') : Pr7 V' B A ps := h.keep fun g j v hg _ => b.cell (p := ⟨g, j, none⟩) (Nat.lt_of_lt_of_le hg hB)
theorem Pr7.but {V V' : World} {A : Option Addr} {ps : List Nat} {B g8 : Nat} {L : List StS} (h : Pr7 V B A ps) (hB : B ≤ V.heap.size) (k : Blk V g8 (rowS L) 40) (b : But g8 V V') : Pr7 V' B A ps := h.keep fun g j v hg hc => by
  have hne : g ≠ g8 := by
    rintro rfl
    exact row_no64 k j _ v hc rfl
  have := b.block g (Nat.lt_of_lt_of_le hg hB) hne
  simp [World.cell?, this]
/-- What may be returned, as it is read. -/
def Rr7 (V : World) (B : Nat) (A : Option Addr) (rs : List Ab) : Prop := rs = [] ∨ ∃ b u, rs = [u] ∧ A = some ⟨b, 0, none⟩ ∧ b < B ∧ Blk V b (abA u) 27
theorem rr_of {V : World} {R : Value} {rs : List Ab} (h : RL V R rs) : ∃ A, R = .slice A rs.length rs.length ∧ Rr7 V V.heap.size A rs := by
  rcases h with ⟨rfl, rfl⟩ | ⟨g, u, rfl, rfl, hb⟩
  · exact ⟨none, rfl, .inl rfl⟩
  · exact ⟨some ⟨g, 0, none⟩, rfl, .inr ⟨g, u, rfl, rfl, hb.lt, hb⟩⟩
theorem Rr7.keep {V V' : World} {B : Nat} {A : Option Addr} {rs : List Ab} (h : Rr7 V B A rs) (hk : ∀ b cs, b < B → Blk V b cs 27 → V'.heap[b]? = V.heap[b]?) : Rr7 V' B A rs := by
  rcases h with h | ⟨b, u, e1, e2, e3, e4⟩
  · exact .inl h
  · exact .inr ⟨b, u, e1, e2, e3, ⟨(hk b _ e3 e4).trans e4.blk⟩⟩
theorem rts_len (q : Ins) (s : StS) : (rtsR q s).length ≤ 1 := by unfold rtsR; split <;> simp
theorem plc_sub {hd : Int → Int → Int → Bool} {q : Ins} (hr : rowC q.1 ≠ none) {i : Nat} (hi : i ≤ 255) (hj : formOf q.1 = 4 → q.2.2.2 ≤ 255) {s : StS} {p : Nat} (h : p ∈ plcR hd q i s) : p ∈ nextL q i := by
  have hf := form_row hr
  have hall : ∀ c ∈ ([0, 1, 2, 3, 4, 5, 6, 7, 12, 20, 21, 22, 28, 29, 32, 36, 37, 44, 45, 52, 53, 60, 61, 68, 69, 76, 77, 84, 92, 96, 97, 100, 108, 116, 124, 128, 129, 132, 135, 164, 172] : List Int), (c = 5 ↔ formOf c = 4) := by decide
  have h5 := hall _ (row_list hr)
  obtain ⟨c, y, z, k⟩ := q
  simp only at *
  unfold plcR at h
  simp only at h
  by_cases a1 : c = 6 ∨ c = 22
  · rw [if_pos a1] at h; cases h
  rw [if_neg a1] at h
  have hnx : ¬ (255 < i ∨ formOf c = -1 ∨ retI (c, y, z, k) = true ∨ (formOf c = 4 ∧ 255 < k)) := by
    rintro (h | h | h | ⟨h, h'⟩)
    · omega
    · exact hf h
    · rw [show retI (c, y, z, k) = false by simpa [retI] using a1] at h; cases h
    · have := hj h; omega
  unfold nextL
  simp only
  rw [if_neg hnx]
  by_cases a2 : c = 5
  · rw [if_pos a2] at h
    rw [if_pos (h5.1 a2)]
    exact h
  rw [if_neg a2] at h
  rw [if_neg (fun e => a2 (h5.2 e))]
  by_cases a3 : formOf c = 5 ∨ formOf c = 6
  · rw [if_pos a3] at h ⊢
    have hyz : p = i + 1 + y.toNat ∨ p = i + 1 + z.toNat := by
      split at h
      · split at h <;> simp at h <;> omega
      · simp at h; omega
    split
    · rename_i e; rw [← e] at hyz; simp; omega
    · split <;> simp <;> omega
  · rw [if_neg a3] at h ⊢
    split at h
    · cases h
    · exact h
structure QG (w V : World) (m g8 g12 B : Nat) (L : List StS) (A10 : Option Addr) (c10 : Nat) (rs : List Ab) (PA : Option Addr) (ps : List Nat) (t : StS) (RA : Option Addr) (rs' : List Ab) : Prop where
  q : QF w V m g8 L
  k12 : Blk V g12 (nxC (.slice PA ps.length ps.length) t (.slice RA rs'.length rs'.length)) 72
  h12 : g8 < g12
  own : V.ownsRow (g8 + 1) 27 2 (.slice A10 rs.length c10) rs.length (absL rs)
  pr : Pr7 V B PA ps
  rr : Rr7 V B RA rs'
  hB : B ≤ V.heap.size
section
variable {w V V' : World} {m g8 g12 B : Nat} {L L' : List StS} {A10 : Option Addr} {c10 : Nat} {rs : List Ab} {PA : Option Addr} {ps : List Nat} {t : StS} {RA : Option Addr} {rs' : List Ab}
theorem QG.below (h : QG w V m g8 g12 B L A10 c10 rs PA ps t RA rs') (hb : Below V.heap.size V V') : QG w V' m g8 g12 B L A10 c10 rs PA ps t RA rs' :=
  ⟨h.q.below hb, h.k12.below hb h.k12.lt, h.h12, own_blw h.own hb, h.pr.blw h.hB hb, h.rr.keep fun b _ hb' _ => hb.block b (Nat.lt_of_lt_of_le hb' h.hB), Nat.le_trans h.hB hb.size⟩
theorem abs_ne_state : 27 ≠ 40 := by decide
theorem abs_ne_next : 27 ≠ 72 := by decide
theorem QG.put (h : QG w V m g8 g12 B L A10 c10 rs PA ps t RA rs') (k : Blk V' g8 (rowS L') 40) (n : But g8 V V') (hl : L'.length = m) : QG w V' m g8 g12 B L' A10 c10 rs PA ps t RA rs' := by
  have h12 := h.h12
  refine ⟨h.q.put k n hl, n.blk' h.k12 (by omega), h.h12, own_but h.own n (by omega), h.pr.but h.hB h.q.k8 n, h.rr.keep fun b cs hb hk => n.block b (Nat.lt_of_lt_of_le hb h.hB) ?_, Nat.le_trans h.hB n.size⟩
  rintro rfl
  have e := hk.blk.symm.trans h.q.k8.blk
  injection e with e
  injection e with _ e _
  exact abs_ne_state e
/-- Behind the call: what the answer lies at. -/
theorem qg_of {P R : Value} (q : QF w V m g8 L) (o : V.ownsRow (g8 + 1) 27 2 (.slice A10 rs.length c10) rs.length (absL rs)) (hP : PL V P (ps.map fun n : Nat => (n : Int))) (hR : RL V R rs') (hg : g8 < g12)
    (hb : Below V.heap.size V V') (k : ∀ P R, Blk V' g12 (nxC P t R) 72 → True) : ∃ PA RA, P = .slice PA ps.length ps.length ∧ R = .slice RA rs'.length rs'.length ∧ (Blk V' g12 (nxC P t R) 72 → QG w V' m g8 g12 V.heap.size L A10 c10 rs PA ps t RA rs') := by
  obtain ⟨PA, rfl, h1⟩ := pr_of hP
  obtain ⟨RA, rfl, h2⟩ := rr_of hR
  exact ⟨PA, RA, rfl, rfl, fun k => ⟨q.below hb, k, hg, own_blw o hb, h1.blw (Nat.le_refl _) hb, h2.keep fun b _ hb' _ => hb.block b hb', hb.size⟩⟩
theorem blk_ne {W : World} {a b : Nat} {cs cs' : Array Value} {t t' : TypeId} (h : Blk W a cs t) (h' : Blk W b cs' t') (ht : t ≠ t') : a ≠ b := by
  rintro rfl
  have e := h.blk.symm.trans h'.blk
  injection e with e
  injection e with _ e _
  exact ht e
theorem int_ne_next : 3 ≠ 72 := by decide
/-- .. where the box was laid ahead of the call. -/
theorem qg_of2 {P R : Value} {cs : Array Value} (q : QF w V m g8 L) (o : V.ownsRow (g8 + 1) 27 2 (.slice A10 rs.length c10) rs.length (absL rs)) (hP : PL V P (ps.map fun n : Nat => (n : Int))) (hR : RL V R rs') (hg : g8 < g12)
    (k0 : Blk V g12 cs 72) : ∃ PA RA, P = .slice PA ps.length ps.length ∧ R = .slice RA rs'.length rs'.length ∧ (∀ V', But g12 V V' → Blk V' g12 (nxC P t R) 72 → QG w V' m g8 g12 V.heap.size L A10 c10 rs PA ps t RA rs') := by
  have hP' := hP
  obtain ⟨PA, rfl, h1⟩ := pr_of hP
  obtain ⟨RA, rfl, h2⟩ := rr_of hR
  refine ⟨PA, RA, rfl, rfl, fun V' n k => ⟨⟨n.blk' q.k7 (by have := q.h8; omega), n.blk' q.k8 (by omega), q.h8, q.hL, q.old.trans (n.below _ (by have := q.h8; omega) q.old.size)⟩, k, hg, ?_, ?_, h2.keep fun b cs hb hk => n.block b hb (blk_ne hk k0 abs_ne_next), n.size⟩⟩
  · exact own_keep o fun g cur hg' hh => n.block g (Array.getElem?_eq_some_iff.1 hh).1 (blk_ne ⟨hh⟩ k0 abs_ne_next)
  · rcases hP' with ⟨e, h⟩ | ⟨g, e, hb⟩
    · have : ps = [] := List.map_eq_nil_iff.1 h
      subst this
      exact fun j hj => absurd hj (by simp)
    · intro j hj
      obtain ⟨b, e', hb', hc⟩ := h1 j hj
      injection e with e1 _ _
      rw [e'] at e1
      injection e1 with e1
      injection e1 with e1
      subst e1
      refine ⟨b, e', hb', ?_⟩
      have := n.block b hb' (blk_ne hb k0 int_ne_next)
      rw [← hc]
      simp [World.cell?, this]
end
end Go.Proofs.YtehcijockeecpaaDoor

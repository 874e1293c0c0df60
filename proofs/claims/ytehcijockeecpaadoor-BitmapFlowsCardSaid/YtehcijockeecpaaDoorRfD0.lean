/-
  The reference's Do: what an instruction does to a state: what lies there.
-/
import Derived.Test.YtehcijockeecpaaDoorRfJ
import Derived.Test.YtehcijockeecpaaDoorRfSp
import Derived.Test.YtehcijockeecpaaDoorHK
import Derived.Test.YtehcijockeecpaaDoorVmRA
namespace Go.Proofs.YtehcijockeecpaaDoor
open Go.RowKit
set_option linter.unusedVariables false
set_option linter.unusedSimpArgs false

/-- The cells of what Do answers: places, a state, what may be returned. -/
def nxC (p : Value) (t : StS) (r : Value) : Array Value := #[p] ++ stC t ++ #[r]
abbrev nil0 : Value := .slice none 0 0
def nxZ : Array Value := #[.slice none 0 0, .bool false, .bool false, .int .u32 0, .bool false, .int .u32 0, .bool false, .int .u32 0, .bool false, .int .u32 0, .bool false, .int .u32 0, .bool false, .int .u32 0, .bool false, .int .u32 0, .bool false, .int .u32 0, .bool false, .int .u32 0, .bool false, .int .u32 0, .bool false, .int .u32 0, .bool false, .int .u32 0, .bool false, .int .u32 0, .bool false, .int .u32 0, .bool false, .int .u32 0, .bool false, .int .u32 0, .bool false, .int .u32 0, .bool false, .int .u32 0, .slice none 0 0]
/-- An instruction, a state, the answer and a value, each in a block of the call's own. -/
structure D1 (w V : World) (q : Ins) (s : StS) (gv : Nat) (v : Ab) : Prop where
  ki : Blk V w.heap.size (celI q).toArray 51
  ks : Blk V (w.heap.size + 1) (stC s) 40
  kz : Blk V (w.heap.size + 1 + 1) nxZ 72
  kv : Blk V gv (abA v) 27
  hv : w.heap.size + 1 + 1 < gv
  old : Below w.heap.size w V
structure D2 (w V : World) (q : Ins) (s : StS) (gv : Nat) (v : Ab) (go : Nat) (o : Ab) : Prop where
  d : D1 w V q s gv v
  ko : Blk V go (abA o) 27
  ho : gv < go
structure D3 (w V : World) (q : Ins) (s : StS) (gv : Nat) (v : Ab) (go : Nat) (o : Ab) (gn : Nat) (n : Array Value) : Prop where
  d : D2 w V q s gv v go o
  kn : Blk V gn n 72
  hn : go < gn
section
variable {w V V' : World} {q : Ins} {s : StS} {gv go gn : Nat} {v v' o o' : Ab} {n n' : Array Value}
theorem D1.below (h : D1 w V q s gv v) (hb : Below V.heap.size V V') : D1 w V' q s gv v := ⟨h.ki.below hb h.ki.lt, h.ks.below hb h.ks.lt, h.kz.below hb h.kz.lt, h.kv.below hb h.kv.lt, h.hv, h.old.trans (hb.mono h.old.size)⟩
theorem D2.below (h : D2 w V q s gv v go o) (hb : Below V.heap.size V V') : D2 w V' q s gv v go o := ⟨h.d.below hb, h.ko.below hb h.ko.lt, h.ho⟩
theorem D3.below (h : D3 w V q s gv v go o gn n) (hb : Below V.heap.size V V') : D3 w V' q s gv v go o gn n := ⟨h.d.below hb, h.kn.below hb h.kn.lt, h.hn⟩
theorem D1.put (h : D1 w V q s gv v) (k : Blk V' gv (abA v') 27) (m : But gv V V') : D1 w V' q s gv v' :=
  have := h.hv
  ⟨m.blk' h.ki (by omega), m.blk' h.ks (by omega), m.blk' h.kz (by omega), k, h.hv, h.old.trans (m.below _ (by omega) h.old.size)⟩
theorem D2.put (h : D2 w V q s gv v go o) (k : Blk V' go (abA o') 27) (m : But go V V') : D2 w V' q s gv v go o' :=
  have := h.d.hv
  have := h.ho
  ⟨⟨m.blk' h.d.ki (by omega), m.blk' h.d.ks (by omega), m.blk' h.d.kz (by omega), m.blk' h.d.kv (by omega), h.d.hv, h.d.old.trans (m.below _ (by omega) h.d.old.size)⟩, k, h.ho⟩
theorem D3.put (h : D3 w V q s gv v go o gn n) (k : Blk V' gn n' 72) (m : But gn V V') : D3 w V' q s gv v go o gn n' :=
  have := h.d.d.hv
  have := h.d.ho
  have := h.hn
  ⟨⟨⟨m.blk' h.d.d.ki (by omega), m.blk' h.d.d.ks (by omega), m.blk' h.d.d.kz (by omega), m.blk' h.d.d.kv (by omega), h.d.d.hv, h.d.d.old.trans (m.below _ (by omega) h.d.d.old.size)⟩, m.blk' h.d.ko (by omega), h.d.ho⟩, k, h.hn⟩
theorem D1.facts (h : D1 w V q s gv v) : V.cell? ⟨w.heap.size, 0, none⟩ = some (.int .u16 q.1) ∧ V.cell? ⟨w.heap.size, 1, none⟩ = some (.int .u8 q.2.1) ∧ V.cell? ⟨w.heap.size, 2, none⟩ = some (.int .u8 q.2.2.1) ∧ V.cell? ⟨w.heap.size, 3, none⟩ = some (.int .u32 q.2.2.2) ∧
    V.cell? ⟨w.heap.size + 1, 1, none⟩ = some (.bool s.a.k) ∧ V.cell? ⟨w.heap.size + 1, 2, none⟩ = some (.int .u32 s.a.v) ∧ V.cell? ⟨w.heap.size + 1, 3, none⟩ = some (.bool s.x.k) ∧ V.cell? ⟨w.heap.size + 1, 4, none⟩ = some (.int .u32 s.x.v) ∧
    V.cell? ⟨gv, 0, none⟩ = some (.bool v.k) ∧ V.cell? ⟨gv, 1, none⟩ = some (.int .u32 v.v) :=
  ⟨h.ki.cell 0, h.ki.cell 1, h.ki.cell 2, h.ki.cell 3, (h.ks.cell 1).trans st_1, (h.ks.cell 2).trans st_2, (h.ks.cell 3).trans st_3, (h.ks.cell 4).trans st_4, h.kv.cell 0, h.kv.cell 1⟩
theorem D2.facts (h : D2 w V q s gv v go o) : V.cell? ⟨go, 0, none⟩ = some (.bool o.k) ∧ V.cell? ⟨go, 1, none⟩ = some (.int .u32 o.v) := ⟨h.ko.cell 0, h.ko.cell 1⟩
end

/-- A slice of places. -/
def PL (V : World) (p : Value) (ps : List Int) : Prop := (p = nil0 ∧ ps = []) ∨ ∃ g, p = .slice (some ⟨g, 0, none⟩) ps.length ps.length ∧ Blk V g (ps.map (Value.int .i64)).toArray 3
/-- A slice of what may be returned: one or none. -/
def RL (V : World) (r : Value) (rs : List Ab) : Prop := (r = nil0 ∧ rs = []) ∨ ∃ g u, rs = [u] ∧ r = .slice (some ⟨g, 0, none⟩) 1 1 ∧ Blk V g (abA u) 27
theorem nx_size {p : Value} {t : StS} {r : Value} (h : t.m.length = 16) : (nxC p t r).size = 39 := by simp [nxC, st_size h]
theorem nx_inf0 : (Tryd.prog.info? 72).map (·.size) = some 39 := by kernel_rfl
theorem nx_inf {p : Value} {t : StS} {r : Value} (h : t.m.length = 16) : (Tryd.prog.info? 72).map (·.size) = some (nxC p t r).size := by rw [nx_size h]; exact nx_inf0
theorem nxz_size : nxZ.size = 39 := rfl
theorem nx_one {A B : Option Addr} {l l' c c' : Nat} {t : StS} : (nxC (.slice A l c) t (.slice B l' c')).all (·.oneCell') = true := by
  rw [Array.all_eq_true_iff_forall_mem]
  intro v hv
  simp only [nxC, Array.mem_append, List.mem_toArray, List.mem_cons, List.not_mem_nil, or_false] at hv
  rcases hv with (rfl | hv) | rfl
  · rfl
  · have := Array.all_eq_true_iff_forall_mem.1 (st_one (s := t)) v hv
    exact this
  · rfl
section
variable {p p' r r' : Value} {t : StS}
theorem set_take {L : List Value} {n : Nat} (v : Value) (h : n < L.length) : (L.set n v).take (n + 1) = L.take n ++ [v] := by
  rw [List.take_set, List.take_succ_eq_append_getElem h, List.set_append_right _ _ (by simp; omega)]
  simp [Nat.min_eq_left (Nat.le_of_lt h)]
theorem fold_set : ∀ (l : List Value) (k : Nat) (A : Array Value), 1 + k + l.length ≤ A.size → (List.foldl (fun (cs : Array Value) (x : Value × Nat) => cs.setIfInBounds (1 + x.snd) x.fst) A (l.zipIdx k)).toList = A.toList.take (1 + k) ++ l ++ A.toList.drop (1 + k + l.length)
  | [], k, A, _ => by simp
  | v :: l, k, A, h => by
    simp only [List.length_cons] at h
    rw [List.zipIdx_cons, List.foldl_cons, fold_set l (k + 1) _ (by simp; omega)]
    have hk : 1 + k < A.toList.length := by simp; omega
    simp only [Array.toList_setIfInBounds, List.length_cons]
    rw [show 1 + (k + 1) = 1 + k + 1 by omega, set_take v hk, List.drop_set_of_lt (by omega), show 1 + k + 1 + l.length = 1 + k + (l.length + 1) by omega]
    simp
theorem nx_lit (p : Value) : (#[p, .bool false, .bool false, .int .u32 0, .bool false, .int .u32 0, .bool false, .int .u32 0, .bool false, .int .u32 0, .bool false, .int .u32 0, .bool false, .int .u32 0, .bool false, .int .u32 0, .bool false, .int .u32 0, .bool false, .int .u32 0, .bool false, .int .u32 0, .bool false, .int .u32 0, .bool false, .int .u32 0, .bool false, .int .u32 0, .bool false, .int .u32 0, .bool false, .int .u32 0, .bool false, .int .u32 0, .bool false, .int .u32 0, .bool false, .int .u32 0, .slice none 0 0] : Array Value) = nxC p st0 nil0 := by
  unfold nxC
  rw [← zst_st0]
  simp [zstL]
theorem nx_build (h : t.m.length = 16) (p : Value) : Array.foldl (fun (cs : Array Value) (x : Value × Nat) => cs.setIfInBounds (1 + x.snd) x.fst) (#[p, .bool false, .bool false, .int .u32 0, .bool false, .int .u32 0, .bool false, .int .u32 0, .bool false, .int .u32 0, .bool false, .int .u32 0, .bool false, .int .u32 0, .bool false, .int .u32 0, .bool false, .int .u32 0, .bool false, .int .u32 0, .bool false, .int .u32 0, .bool false, .int .u32 0, .bool false, .int .u32 0, .bool false, .int .u32 0, .bool false, .int .u32 0, .bool false, .int .u32 0, .bool false, .int .u32 0, .bool false, .int .u32 0, .bool false, .int .u32 0, .slice none 0 0] : Array Value) (stC t).zipIdx 0 (stC t).size = nxC p t nil0 := by
  rw [nx_lit]
  have hs := st_size h
  have e : (stC t).size = (stC t).zipIdx.size := by simp
  rw [e, ← Array.foldl_toList, Array.toList_zipIdx]
  apply Array.ext'
  rw [fold_set (stC t).toList 0 _ (by rw [nx_size st0_len, Array.length_toList, hs]; omega), Array.length_toList, hs]
  have h0 : (nxC p st0 nil0).toList.take (1 + 0) = [p] := by simp [nxC]
  have h1 : (nxC p st0 nil0).toList.drop (1 + 0 + 37) = [nil0] := by
    simp only [nxC, Array.toList_append]
    exact List.drop_left' (by simp [st_size st0_len])
  rw [h0, h1]
  simp [nxC]
theorem nx_build7 (h : t.m.length = 16) (p : Value) : Array.foldl (fun (cs : Array Value) (x : Value × Nat) => cs.setIfInBounds (1 + x.snd) x.fst) (#[p, .bool false, .bool false, .int .u32 0, .bool false, .int .u32 0, .bool false, .int .u32 0, .bool false, .int .u32 0, .bool false, .int .u32 0, .bool false, .int .u32 0, .bool false, .int .u32 0, .bool false, .int .u32 0, .bool false, .int .u32 0, .bool false, .int .u32 0, .bool false, .int .u32 0, .bool false, .int .u32 0, .bool false, .int .u32 0, .bool false, .int .u32 0, .bool false, .int .u32 0, .bool false, .int .u32 0, .bool false, .int .u32 0, .bool false, .int .u32 0, .slice none 0 0] : Array Value) (stC t).zipIdx 0 37 = nxC p t nil0 := by
  have := nx_build h p
  rw [st_size h] at this
  exact this
theorem nx_p : (nxC p t r).setIfInBounds 0 p' = nxC p' t r := by apply Array.ext'; simp [nxC]
theorem nx_r (h : t.m.length = 16) : (nxC p t r).setIfInBounds 38 r' = nxC p t r' := by
  have := st_size h
  apply Array.ext'
  simp only [nxC, Array.toList_setIfInBounds, Array.toList_append]
  rw [List.set_append_right _ _ (by simp [this])]
  simp [this]
theorem nx_set {k : Nat} {b : Ab} {t' : StS} (hk : k + 1 < (stC t).size) (h : ((stC t).setIfInBounds k (.bool b.k)).setIfInBounds (k + 1) (.int .u32 b.v) = stC t') : ((nxC p t r).setIfInBounds (1 + k) (.bool b.k)).setIfInBounds (1 + k + 1) (.int .u32 b.v) = nxC p t' r := by
  simp only [nxC]
  rw [← h]
  apply Array.ext'
  simp only [Array.toList_setIfInBounds, Array.toList_append, List.append_assoc]
  have hl : (stC t).toList.length = (stC t).size := Array.length_toList
  rw [show (1 + k + 1) = (k + 1) + 1 by omega, show 1 + k = k + 1 by omega]
  simp only [List.cons_append, List.nil_append, List.set_cons_succ]
  rw [List.set_append_left _ _ (by omega), List.set_append_left _ _ (by simp; omega)]
theorem nx_sa (h : t.m.length = 16) (b : Ab) : ((nxC p t r).setIfInBounds 2 (.bool b.k)).setIfInBounds (2 + 1) (.int .u32 b.v) = nxC p { t with a := b } r := nx_set (k := 1) (by rw [st_size h]; omega) (st_sa b)
theorem nx_sx (h : t.m.length = 16) (b : Ab) : ((nxC p t r).setIfInBounds 4 (.bool b.k)).setIfInBounds (4 + 1) (.int .u32 b.v) = nxC p { t with x := b } r := nx_set (k := 3) (by rw [st_size h]; omega) (st_sx b)
theorem nx_sm (h : t.m.length = 16) {k : Nat} (hk : k < 16) (b : Ab) : ((nxC p t r).setIfInBounds (1 + (5 + k * 2)) (.bool b.k)).setIfInBounds (1 + (5 + k * 2) + 1) (.int .u32 b.v) = nxC p { t with m := t.m.set k b } r := nx_set (k := 5 + k * 2) (by rw [st_size h]; omega) (st_sm k b)
end
theorem nx_sm6 {p r : Value} {t : StS} (h : t.m.length = 16) {k : Nat} (hk : k < 16) (b : Ab) : ((nxC p t r).setIfInBounds (6 + k * 2) (.bool b.k)).setIfInBounds (6 + k * 2 + 1) (.int .u32 b.v) = nxC p { t with m := t.m.set k b } r := by
  have h := nx_sm (p := p) (r := r) h hk b
  rw [show 1 + (5 + k * 2) = 6 + k * 2 by omega] at h
  exact h
/-- One cell stored into a block that is known whole. -/
theorem wpList_store_fl7 {P : Program} {ops : Array Oper} {rest : List Oper} {o : Oper} {a : Act} {w : World} {Q : Exit → Act → World → Prop} (hgd : o.guard = none) (ty : TypeId) (x y : Operand) (ho : o.op = .store ty x y)
    (g k : Nat) (cs : Array Value) (t : TypeId) (v : Value) (hx : a.eval x = .pointer (some ⟨g, k, none⟩)) (hy : a.eval y = v) (hb : Blk w g cs t) (hk : k < cs.size)
    (hi : (P.info? ty).map (·.size) = some 1) (hv : v.cells = #[v]) (h1 : v.oneCell' = true) (h : ∀ w', Blk w' g (cs.setIfInBounds k v) t → But g w w' → wpList P ops Q rest (a.put o.dst undef) w') : wpList P ops Q (o :: rest) a w := by
  refine wpList_plain hgd fun K hK => ?_
  have hs := run_storeCells_at (P := P) g k t [v] 0 cs w hb.blk (by simp; omega) (fun u hu => by simp at hu; subst hu; exact h1)
  have e : (cs.toList.take (k + 0) ++ [v] ++ cs.toList.drop (k + 0 + [v].length)).toArray = cs.setIfInBounds k v := by
    apply Array.ext'
    simp [List.set_eq_take_append_cons_drop, hk]
  rw [e] at hs
  cases hq : P.info? ty with
  | none => simp [hq] at hi
  | some i =>
    have hs' : i.size = 1 := by simpa [hq] using hi
    have hrun : (storeVar ty ⟨g, k, none⟩ v).run P w = .ok () (w.setRow g (cs.setIfInBounds k v)) := by simp [storeVar, sizeOf, typeInfo, hq, hv, hs', hs]
    unfold Oper.wp execOp
    simp only [ho, hx, hy, Instr.storeAt, Instr.sureAddr, Sem.run_bind, Sem.run_pure, Result.andThen_ok, hrun]
    have q := setRow_blk (cs' := cs.setIfInBounds k v) hb
    exact hK _ _ (h _ q.1 q.2)
theorem inf_ints : (Tryd.prog.info? 70).map (·.size) = some 1 := by kernel_rfl
theorem inf_abss : (Tryd.prog.info? 69).map (·.size) = some 1 := by kernel_rfl
theorem PL.but {V V' : World} {p : Value} {ps : List Int} {g : Nat} (h : PL V p ps) (hb : Below V.heap.size V V') : PL V' p ps := by
  rcases h with h | ⟨g, e, h⟩
  · exact .inl h
  · exact .inr ⟨g, e, h.below hb h.lt⟩
end Go.Proofs.YtehcijockeecpaaDoor

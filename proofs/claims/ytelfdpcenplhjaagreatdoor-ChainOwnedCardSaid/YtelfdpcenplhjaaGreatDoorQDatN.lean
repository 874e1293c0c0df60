/-
  A call's data: its values, its words, in plain numbers.
-/
import Derived.Test.YtelfdpcenplhjaaGreatDoorQJK
import Derived.Test.YtelfdpcenplhjaaGreatDoorQJL
import Derived.Laws.OwnMore
import Derived.Shelf.Spec.SlicesInsertGrow
import Derived.Laws.CopyRow
import Derived.Lib.Overlaps
import Derived.Test.YtelfdpcenplhjaaGreatDoorQHE
import Derived.Test.YtelfdpcenplhjaaGreatDoorQHH
import Derived.Laws.BitsAllLaws
import Derived.Laws.Rows
namespace Go.Proofs.YtelfdpcenplhjaaGreatDoor
open Go.RowKit Go.Shelf
set_option linter.unusedVariables false
set_option linter.unusedSimpArgs false
def cntN (x : Nl) (v : Int) : Nl := ({ x.1 with k := v }, x.2)
theorem flatN_cons (x : Nl) (L : List Nl) : flatN (x :: L) = (ndC x).toList ++ flatN L := by simp [flatN]
theorem flatN_set4 (v : Int) : ∀ (L : List Nl) (k : Nat), k < L.length → (flatN L).set (k * 7 + 4) (.int .i64 v) = flatN (L.set k (cntN (L.getD k nl0) v))
  | [], k, h => absurd h (by simp)
  | x :: L, 0, _ => by
    rw [List.set_cons_zero, flatN_cons, flatN_cons, List.set_append_left _ _ (by rw [ndL_len]; omega)]
    rfl
  | x :: L, k + 1, h => by
    rw [List.set_cons_succ, flatN_cons, flatN_cons, List.set_append_right _ _ (by rw [ndL_len]; omega), ndL_len, show (k + 1) * 7 + 4 - 7 = k * 7 + 4 by omega, flatN_set4 v L k (by simpa using h)]
    simp [List.getD]
theorem mem_set_or {α : Type} {L : List α} {k : Nat} {x y : α} (h : y ∈ L.set k x) : y ∈ L ∨ y = x := List.mem_or_eq_of_mem_set h
theorem getD_mem {L : List Nl} {k : Nat} (hk : k < L.length) : L.getD k nl0 ∈ L := by rw [show L.getD k nl0 = L[k] by simp [List.getD, hk]]; exact List.getElem_mem hk
section
variable {w w' : World} {base B m c g : Nat} {A : Option Addr} {L : List Nl}
theorem Nr.cnt {x : Nl} (h : Nr w B x) {v : Int} (hv : I64 v) : Nr w B (cntN x v) := ⟨{ h.ok with k := hv }, h.ri, h.le⟩
theorem No.count (h : No w base (some ⟨g, 0, none⟩) m c L) {k : Nat} (hk : k < L.length) {v : Int} (hv : I64 v) : No (w.setCell ⟨g, k * 7 + 4, none⟩ (.int .i64 v)) base (some ⟨g, 0, none⟩) m c (L.set k (cntN (L.getD k nl0) v)) := by
  have hs := h.own.stored (k * 7 + 4) (.int .i64 v)
  rw [flatN_set4 v L k hk] at hs
  have key : ∀ y ∈ L.set k (cntN (L.getD k nl0) v), ∃ x ∈ L, y.2 = x.2 ∧ y.1.g = x.1.g ∧ (y = x ∨ y = cntN x v) := fun y hy => by
    rcases mem_set_or hy with h1 | h1
    · exact ⟨y, h1, rfl, rfl, .inl rfl⟩
    · exact ⟨_, getD_mem hk, by rw [h1]; rfl, by rw [h1]; rfl, .inr h1⟩
  refine ⟨hs.1, fun y hy => ?_, fun g' e y hy hl a ha => ?_⟩
  · obtain ⟨x, hx, e1, e2, e3⟩ := key y hy
    have hn : Nr (w.setCell ⟨g, k * 7 + 4, none⟩ (.int .i64 v)) (w.setCell ⟨g, k * 7 + 4, none⟩ (.int .i64 v)).heap.size x := (h.nr x hx).off (fun hl a ha hlt => hs.2.block _ hlt fun e => h.ap g rfl x hx hl a ha (Option.some.inj e)) hs.2.size
    rcases e3 with rfl | rfl
    · exact hn
    · exact hn.cnt hv
  · obtain ⟨x, hx, e1, e2, _⟩ := key y hy
    exact h.ap g' e x hx (by rw [← e2]; exact hl) a (by rw [← e1]; exact ha)
theorem No.at0 (h : No w base A m c L) (hm : 0 < L.length) : ∃ g, A = some ⟨g, 0, none⟩ ∧ base ≤ g ∧ g < w.heap.size := by
  have hl := h.len
  obtain ⟨g, c', hv, hg, hcs⟩ := own_head h.own (by omega)
  injection hv with hA _ _
  subst hA
  exact ⟨g, rfl, (h.own.lt g rfl).1, hg⟩
theorem getD_names {L M : List Nl} (h : L.map (·.1) = M.map (·.1)) (j : Nat) : (L.getD j nl0).1 = (M.getD j nl0).1 := by
  have := congrArg (fun l => l[j]?) h
  simp only [List.getElem?_map] at this
  simp only [List.getD]
  cases h1 : L[j]? <;> cases h2 : M[j]? <;> rw [h1, h2] at this <;> simp at this
  exact this
theorem placeR_names {L M : List Nl} {id r : Int} (h : L.map (·.1) = M.map (·.1)) (hp : PlaceR L id r) : PlaceR M id r := by
  have hl : L.length = M.length := by simpa using congrArg List.length h
  have hg := getD_names h
  unfold PlaceR at hp ⊢
  simpa only [hl, hg] using hp
theorem names_set {L : List Nl} {k : Nat} {y : Nl} : (L.set k y).map (·.1) = (L.map (·.1)).set k y.1 := by rw [List.map_set]
end
structure ChO (w V : World) (gq : Nat) (A : Option Addr) (m c : Nat) (L : List Nl) : Prop where
  b : Below w.heap.size w V
  gt : w.heap.size + 1 < gq
  row : No V (gq + 1) A m c L
  pr : ∀ x ∈ L, ∀ a, x.2.1 = some a → gq < a.block
theorem ChO.but {w V V' : World} {gq m c g : Nat} {A : Option Addr} {L : List Nl} (h : ChO w V gq A m c L) (n : But g V V') (hg : w.heap.size ≤ g) (hg' : g < gq) : ChO w V' gq A m c L :=
  ⟨h.b.trans (n.below _ hg h.b.size), h.gt, h.row.but n (by omega) (fun y hy hl a ha => by have := h.pr y hy a ha; omega), h.pr⟩
theorem ChO.old {w w0 V : World} {gq m c : Nat} {A : Option Addr} {L : List Nl} (h : ChO w0 V gq A m c L) (hb : Below w.heap.size w w0) : ChO w V gq A m c L := ⟨hb.trans (h.b.mono hb.size), by have := h.gt; have := hb.size; omega, h.row, h.pr⟩
def TkR (w : World) (id : Int) (V : World) (gq : Nat) (A1 : Option Addr) (c1 : Nat) (L1 : List Nl) (V' : World) (er : Int) (A2 : Option Addr) (m2 c2 : Nat) : Prop :=
  (er = 4 ∧ PlaceR L1 id (-1) ∧ Below w.heap.size w V') ∨
  (er = 0 ∧ ∃ k : Nat, PlaceR L1 id k ∧ k < L1.length ∧ m2 = L1.length ∧ ChO w V' gq A2 m2 c2 (L1.set k (cntN (L1.getD k nl0) (IntKind.i64.wrap ((L1.getD k nl0).1.k + 1)))))
theorem wrapI64 (x : Int) : I64 (IntKind.i64.wrap x) := by
  have := IntKind.wrap_i64 x
  unfold I64
  simp only [IntKind.wrap_i64]
  have h1 := Int.bmod_lt (x := x) (m := 18446744073709551616) (by decide)
  have h2 := Int.le_bmod (x := x) (m := 18446744073709551616) (by decide)
  omega
theorem take1_ch (id : Int) (gi : Nat) (w : World) (m : Nat) (M : List Nm) (V : World) (gq : Nat) (A1 : Option Addr) (c1 : Nat) (L1 : List Nl) (h : ChP w m M V gq A1 c1 L1) (h6 : m ≤ 1000000) (hgi : gi < w.heap.size) (ki : Boxed V gi 3 (.int .i64 id)) :
    Calls Tryz.prog 41 #[.pointer (some ⟨gq, 0, none⟩), .pointer (some ⟨gi, 0, none⟩)] V fun e V' => ∃ er A2 m2 c2, e = .returned (.int .i64 er) ∧ Blk V' gq #[.slice A2 m2 c2] 24 ∧ Blk V' (w.heap.size + 1) #[.slice none 0 0] 24 ∧ TkR w id V gq A1 c1 L1 V' er A2 m2 c2 := by
  have hm := h.row.len
  have hgt := h.gt
  refine (take1_any A1 m c1 L1 id gq gi V h.row.po hm h.row.cap h6 h.box.blk ki (fun b off o e => ?_)).mono ?_
  · have hl := h.row.own
    rw [e] at hl
    have e0 : off = 0 := by
      rcases hl.2 with ⟨h', _⟩ | ⟨g', cap', cur, h', _⟩
      · simp at h'
      · simp at h'; omega
    subst e0
    exact hl.frozenAt o
  · rintro e V' (⟨k, b, off, w1, hp, hk, rfl, hbl, rfl, bb, rfl⟩ | ⟨hp, rfl, bb⟩)
    · obtain ⟨g, e, hg, _⟩ := h.row.at0 (by omega)
      cases e
      have C := h.below bb
      rw [Nat.zero_add]
      refine ⟨0, _, _, _, rfl, C.box.far (by simp; omega) _, C.res.far (by simp; omega) _, .inr ⟨rfl, k, hp, hk, hm, ?_⟩⟩
      exact ⟨C.b.setCell (p := ⟨b, k * 7 + 4, none⟩) (by simp; omega) _, hgt, C.row.count hk (wrapI64 _), fun y hy a ha => by
        rcases mem_set_or hy with h1 | h1
        · exact C.pr y h1 a ha
        · exact C.pr _ (getD_mem hk) a (by rw [h1] at ha; exact ha)⟩
    · have C := h.below bb
      exact ⟨4, _, _, _, rfl, C.box, C.res, .inl ⟨rfl, hp, C.b⟩⟩
def TakeO (w : World) (L : List Nl) (id : Int) (e : Ending) (w' : World) : Prop :=
  Below w.heap.size w w' ∧
  ((¬ chkP L = 0 ∧ e = .returned (.tuple #[poV none 0 0, .int .i64 (chkP L)])) ∨
   (chkP L = 0 ∧ PlaceR L id (-1) ∧ e = .returned (.tuple #[poV none 0 0, .int .i64 4])) ∨
   (chkP L = 0 ∧ ∃ (k : Nat) (A2 : Option Addr) (c2 : Nat) (L2 : List Nl), PlaceR L id k ∧ k < L.length ∧ L2.map (·.1) = (L.map (·.1)).set k { (L.getD k nl0).1 with k := IntKind.i64.wrap ((L.getD k nl0).1.k + 1) } ∧ No w' w.heap.size A2 L2.length c2 L2 ∧ e = .returned (.tuple #[poV A2 L2.length c2, .int .i64 0])))
set_option maxRecDepth 100000 in
set_option maxHeartbeats 2000000 in
theorem take_any (A : Option Addr) (m c : Nat) (L : List Nl) (id : Int) (w : World) (hK : Kinds w) (hP : Po w w.heap.size A L) (hm : m = L.length) (hmc : m ≤ c) (h6 : m ≤ 100000) (hg : ∀ x ∈ L, x.1.g.length ≤ 300) :
    Calls Tryz.prog 15 #[poV A m c, .int .i64 id] w fun e w' => TakeO w L id e w' := by
  have k0 := ((Blk.new w #[.slice A m c] 24).alloc (.cells #[.int .i64 id] 3)).alloc (.cells #[.slice none 0 0] 24)
  have k1 := (Blk.new_ (w.alloc (.cells #[.slice A m c] 24)) #[.int .i64 id] 3 (n := w.heap.size + 1) (by simp)).alloc (.cells #[.slice none 0 0] 24)
  have k2 := Blk.new_ ((w.alloc (.cells #[.slice A m c] 24)).alloc (.cells #[.int .i64 id] 3)) #[.slice none 0 0] 24 (n := w.heap.size + 1 + 1) (by simp)
  have B0 := (((Below.refl w.heap.size w).alloc (Nat.le_refl _) (.cells #[.slice A m c] 24)).alloc (by simp) (.cells #[.int .i64 id] 3)).alloc (by simp; omega) (.cells #[.slice none 0 0] 24)
  generalize hw0 : ((w.alloc (.cells #[.slice A m c] 24)).alloc (.cells #[.int .i64 id] 3)).alloc (.cells #[.slice none 0 0] 24) = w0 at k0 k1 k2 B0
  have CH := changed_any 41 #[.pointer (some ⟨w.heap.size + 1, 0, none⟩)] A m c L w0 (hK.below B0 hK.pos) ((hP.below B0 (Nat.le_refl _)).more B0.size) hm hmc h6 hg
    (enters_of Tryz.func41 (by kernel_rfl) rfl) (TkR w0 id)
    (fun V gq A1 c1 L1 hC _ => take1_ch id (w.heap.size + 1) w0 m _ V gq A1 c1 L1 hC (by omega) k1.lt ((k1.below hC.b k1.lt).blk))
  subst hw0
  have HM := Lib.hid hm
  clear hm
  unfold poV at CH ⊢
  go_enter Tryz.func15, Tryz.ntmps15
  go_wp2_with (refine wpList_load_row rfl 24 (.tmp 2) rfl w.heap.size rfl 24 #[.slice A m c] (0, 0) _ k0.blk Tryz.underlying24 rfl (po_info A m c) ?_)
  refine CH.mono ?_
  rintro e w1 h1
  have hs0 : w.heap.size + 2 < (((w.alloc (.cells #[.slice A m c] 24)).alloc (.cells #[.int .i64 id] 3)).alloc (.cells #[.slice none 0 0] 24)).heap.size := by simp
  generalize ((w.alloc (.cells #[.slice A m c] 24)).alloc (.cells #[.int .i64 id] 3)).alloc (.cells #[.slice none 0 0] 24) = w0 at k0 k1 k2 B0 h1 hs0
  obtain ⟨A2, m2, c2, er, rfl, hout⟩ : ∃ A2 m2 c2 er, e = .returned (.tuple #[.agg #[.slice A2 m2 c2], .int .i64 er]) ∧ Below w0.heap.size w0 w1 ∧
      ((¬ chkP L = 0 ∧ A2 = none ∧ m2 = 0 ∧ c2 = 0 ∧ er = chkP L) ∨ (chkP L = 0 ∧ PlaceR L id (-1) ∧ A2 = none ∧ m2 = 0 ∧ c2 = 0 ∧ er = 4) ∨
       (chkP L = 0 ∧ er = 0 ∧ ∃ (k gq : Nat) (L2 : List Nl), PlaceR L id k ∧ k < L.length ∧ L2.map (·.1) = (L.map (·.1)).set k { (L.getD k nl0).1 with k := IntKind.i64.wrap ((L.getD k nl0).1.k + 1) } ∧ ChO w0 w1 gq A2 m2 c2 L2)) := by
    rcases h1 with ⟨h0, rfl, bb⟩ | ⟨h0, V, gq, A1, c1, L1, V', er, A2, m2, c2, hC, hR, hB, hE⟩
    · exact ⟨_, _, _, _, rfl, bb, .inl ⟨h0, rfl, rfl, rfl, rfl⟩⟩
    · have hnm := hC.names
      rcases hR with ⟨rfl, hp, bb⟩ | ⟨rfl, k, hp, hk, rfl, ho⟩
      · obtain rfl : e = .returned (.tuple #[.agg #[.slice none 0 0], .int .i64 4]) := by
          rcases hE with ⟨h, _⟩ | ⟨_, h⟩
          · exact absurd h (by decide)
          · exact h
        exact ⟨_, _, _, _, rfl, bb.trans (hB.below _ (by omega) bb.size), .inr (.inl ⟨h0, placeR_names hnm hp, rfl, rfl, rfl, rfl⟩)⟩
      · obtain rfl : e = .returned (.tuple #[.agg #[.slice A2 L1.length c2], .int .i64 0]) := by
          rcases hE with ⟨_, h⟩ | ⟨h, _⟩
          · exact h
          · exact absurd rfl h
        have ho2 := ho.but hB (by omega) ho.gt
        have hl : L1.length = L.length := by simpa using congrArg List.length hnm
        have hgk : (L1.getD k nl0).1 = (L.getD k nl0).1 := getD_names hnm k
        refine ⟨_, _, _, _, rfl, ho2.b, .inr (.inr ⟨h0, rfl, k, gq, _, placeR_names hnm hp, by omega, ?_, ho2⟩)⟩
        rw [names_set, hnm, ← hgk]
        rfl
  obtain ⟨bb, hout⟩ := hout
  have HO := Lib.hid hout
  have k3 := k2.below bb k2.lt
  have q3 : w1.cell? ⟨w.heap.size + 1 + 1, 0, none⟩ = some (.slice none 0 0) := k3.cell 0
  have f3 := k3.frozen 0
  clear h1 hout CH
  go_wp2_with fail
  refine bodyPost_ret (results_row_tmp rfl _ _ (w.heap.size + 1 + 1) 24 #[.slice A2 m2 c2] (0, 0) _ rfl (k3.set_ 0 (.slice A2 m2 c2)).blk Tryz.underlying24 rfl (po_info A2 m2 c2) _ rfl) rfl ?_
  have b1 : Below w.heap.size w (w1.setCell ⟨w.heap.size + 1 + 1, 0, none⟩ (.slice A2 m2 c2)) := (B0.trans (bb.mono B0.size)).setCell (p := ⟨w.heap.size + 1 + 1, 0, none⟩) (by simp; omega) _
  refine ⟨b1, ?_⟩
  rcases HO.out with ⟨h0, rfl, rfl, rfl, rfl⟩ | ⟨h0, hp, rfl, rfl, rfl, rfl⟩ | ⟨h0, rfl, k, gq, L2, hp, hk, hn, ho⟩
  · exact .inl ⟨h0, rfl⟩
  · exact .inr (.inl ⟨h0, hp, rfl⟩)
  · have hgt := ho.gt
    have ho2 := (ho.old B0).but (V' := w1.setCell ⟨w.heap.size + 1 + 1, 0, none⟩ (.slice A2 m2 c2)) ((But.refl (w.heap.size + 1 + 1) w1).setCell (p := ⟨w.heap.size + 1 + 1, 0, none⟩) (.inl rfl) _) (by omega) (by omega)
    obtain rfl := ho2.row.len
    exact .inr (.inr ⟨h0, k, A2, c2, L2, hp, hk, hn, ho2.row.down (by omega), rfl⟩)
end Go.Proofs.YtelfdpcenplhjaaGreatDoor
namespace Go.Proofs.YtelfdpcenplhjaaGreatDoor
open Go.RowKit Go.Shelf
set_option linter.unusedVariables false
set_option linter.unusedSimpArgs false
theorem run_copyN (w : World) (ty : TypeId) (g o dLen dCap : Nat) (a : Addr) (sLen sCap : Nat) (cur : Array Value) (cs : List Value)
    (hg : w.heap[g]? = some (.cells cur 46 (0, 0))) (hn : cs.length = Nat.min sLen dLen * 7)
    (hsrc : ∀ j v, cs[j]? = some v → w.cell? (a.add j) = some v) (hfit : o + cs.length ≤ cur.size) (h1 : ∀ v ∈ cs, v.oneCell' = true) :
    (Builtin.copy_ #[22, 22] ty #[.slice (some ⟨g, o, none⟩) dLen dCap, .slice (some a) sLen sCap]).run Tryz.prog w =
      .ok (goInt (Nat.min sLen dLen)) (w.setRow g (cur.toList.take o ++ cs ++ cur.toList.drop (o + cs.length)).toArray) := by
  have hl := run_loadCells_list (P := Tryz.prog) w a cs hsrc
  have hst := run_storeCells_at Tryz.prog g o 46 cs 0 cur w hg (by simpa using hfit) h1
  obtain ⟨i, hi, hz, hs1, hb1⟩ := info_parts nd_info3
  rw [hn] at hl
  simp [Builtin.copy_, run_underlying Tryz.underlying22, Builtin.lenOf, Builtin.firstCells, sizeOf, typeInfo, hi, hs1, hl, hst, hn]
def insN (k : Nat) (x : Nl) (L : List Nl) : List Nl := L.take k ++ x :: L.drop k
theorem insN_len {k : Nat} {x : Nl} {L : List Nl} : (insN k x L).length = L.length + 1 := by
  unfold insN
  rw [List.length_append, List.length_cons, List.length_take, List.length_drop]; omega
theorem insN_mem {k : Nat} {x y : Nl} {L : List Nl} (h : y ∈ insN k x L) : y = x ∨ y ∈ L := by
  unfold insN at h
  rcases List.mem_append.1 h with h | h
  · exact .inr (List.mem_of_mem_take h)
  · rcases List.mem_cons.1 h with h | h
    · exact .inl h
    · exact .inr (List.mem_of_mem_drop h)
theorem insN_end {x : Nl} {L : List Nl} : insN L.length x L = L ++ [x] := by simp [insN]
theorem flatN_take : ∀ (k : Nat) (L : List Nl), (flatN L).take (k * 7) = flatN (L.take k)
  | 0, L => by simp [flatN]
  | k + 1, [] => by simp [flatN]
  | k + 1, x :: L => by
    rw [flatN_cons, List.take_succ_cons, flatN_cons, List.take_append, ndL_len, show (k + 1) * 7 - 7 = k * 7 by omega, flatN_take k L, List.take_of_length_le (by rw [ndL_len]; omega)]
theorem flatN_drop : ∀ (k : Nat) (L : List Nl), (flatN L).drop (k * 7) = flatN (L.drop k)
  | 0, L => by simp [flatN]
  | k + 1, [] => by simp [flatN]
  | k + 1, x :: L => by
    rw [flatN_cons, List.drop_succ_cons, List.drop_append, ndL_len, show (k + 1) * 7 - 7 = k * 7 by omega, flatN_drop k L, List.drop_of_length_le (by rw [ndL_len]; omega), List.nil_append]
theorem flatN_ins (k : Nat) (x : Nl) (L : List Nl) : flatN (insN k x L) = (flatN L).take (k * 7) ++ (ndC x).toList ++ (flatN L).drop (k * 7) := by
  unfold insN
  rw [flatN_append, flatN_cons, flatN_take, flatN_drop, List.append_assoc]
theorem shift_cells {cur F X : List Value} {a n t : Nat} (hF : F.length = n) (hc : cur.take n = F) (ht : X.length = t) (ha : a ≤ n) (hl : n + t ≤ cur.length) :
    let c1 := cur.take (a + t) ++ F.drop a ++ cur.drop (a + t + (F.drop a).length)
    (c1.take a ++ X ++ c1.drop (a + X.length)).take (n + t) = F.take a ++ X ++ F.drop a ∧ (c1.take a ++ X ++ c1.drop (a + X.length)).length = cur.length := by
  intro c1
  have hl1 : (F.drop a).length = n - a := by rw [List.length_drop, hF]
  have e0 : c1.length = cur.length := by
    simp only [c1, List.length_append, List.length_take, List.length_drop, hF]; omega
  have e1 : c1.take a = F.take a := by
    simp only [c1]
    rw [List.append_assoc, List.take_append_of_le_length (by rw [List.length_take]; omega), List.take_take, ← hc, List.take_take]
    congr 1; omega
  have e2 : c1.drop (a + X.length) = F.drop a ++ cur.drop (a + t + (F.drop a).length) := by
    simp only [c1]
    rw [List.append_assoc, ht, List.drop_append_of_le_length (by rw [List.length_take]; omega), List.drop_of_length_le (by rw [List.length_take]; omega), List.nil_append]
  refine ⟨?_, ?_⟩
  · rw [e1, e2, ← List.append_assoc, List.take_append_of_le_length (by simp only [List.length_append, List.length_take, hl1, hF, ht]; omega), List.take_of_length_le (by simp only [List.length_append, List.length_take, hl1, hF, ht]; omega)]
  · simp only [List.length_append, List.length_take, List.length_drop, e0, ht]; omega
theorem grow_cells {F X Z : List Value} {a n t : Nat} (hF : F.length = n) (ht : X.length = t) (ha : a ≤ n) (hl : n + t ≤ a + Z.length) :
    let c0 := F.take a ++ Z
    let c1 := c0.take a ++ X ++ c0.drop (a + X.length)
    (c1.take (a + t) ++ F.drop a ++ c1.drop (a + t + (F.drop a).length)).take (n + t) = F.take a ++ X ++ F.drop a ∧ (c1.take (a + t) ++ F.drop a ++ c1.drop (a + t + (F.drop a).length)).length = a + Z.length := by
  intro c0 c1
  have hl1 : (F.drop a).length = n - a := by rw [List.length_drop, hF]
  have hl2 : (F.take a).length = a := by rw [List.length_take, hF]; omega
  have e0 : c0.length = a + Z.length := by simp only [c0, List.length_append, hl2]
  have e1 : c0.take a = F.take a := by
    simp only [c0]
    rw [List.take_append_of_le_length (by omega), List.take_of_length_le (by omega)]
  have e3 : c1.length = a + Z.length := by simp only [c1, List.length_append, List.length_take, List.length_drop, e0, ht]; omega
  have e2 : c1.take (a + t) = F.take a ++ X := by
    simp only [c1, e1]
    rw [List.take_append_of_le_length (by rw [List.length_append, hl2, ht]; omega), List.take_of_length_le (by rw [List.length_append, hl2, ht]; omega)]
  refine ⟨?_, ?_⟩
  · rw [e2, List.take_append_of_le_length (by simp only [List.length_append, hl1, hl2, ht]; omega), List.take_of_length_le (by simp only [List.length_append, hl1, hl2, ht]; omega)]
  · simp only [List.length_append, List.length_take, List.length_drop, e3, hl1]; omega
theorem No.form {w : World} {base m c : Nat} {A : Option Addr} {L : List Nl} (h : No w base A m c L) : (A = none ∧ m = 0 ∧ c = 0 ∧ L = []) ∨ ∃ g, A = some ⟨g, 0, none⟩ ∧ base ≤ g ∧ g < w.heap.size ∧ ∃ cur, w.heap[g]? = some (.cells cur 46 (0, 0)) ∧ m ≤ c ∧ c ≤ maxLen ∧ cur.size = c * 7 ∧ cur.toList.take (m * 7) = flatN L := by
  have hl := h.len
  rcases h.own.2 with ⟨hv, h0⟩ | ⟨g, cap, cur, hv, hg, hh, h1, h2, h3, h4⟩
  · injection hv with e1 e2 e3
    exact .inl ⟨e1, h0, e3, List.eq_nil_of_length_eq_zero (by omega)⟩
  · injection hv with e1 _ e3
    subst e3
    exact .inr ⟨g, e1, hg, (Array.getElem?_eq_some_iff.1 hh).1, cur, hh, h1, h2, h3, h4⟩
end Go.Proofs.YtelfdpcenplhjaaGreatDoor
namespace Go.Proofs.YtelfdpcenplhjaaGreatDoor
open Go.RowKit Go.Shelf
set_option linter.unusedVariables false
set_option linter.unusedSimpArgs false
set_option maxRecDepth 100000 in
set_option maxHeartbeats 4000000 in
theorem insert_end (base : Nat) (A : Option Addr) (m c : Nat) (L : List Nl) (x : Nl) (gb : Nat) (w : World) (h : No w base A m c L) (hx : Nr w w.heap.size x) (hxa : ∀ g, (Value.slice A m c).ownBlock = some g → 0 < x.1.g.length → ∀ a, x.2.1 = some a → a.block ≠ g)
    (hb : w.heap[gb]? = some (.cells (ndC x) 46 (0, 0))) (h6 : m + 1 ≤ 100000) (hbase : base ≤ w.heap.size) :
    Calls Tryz.prog 36 #[.slice A m c, .int .i64 m, .slice (some ⟨gb, 0, none⟩) 1 1] w fun e w' => ∃ A' c', e = .returned (.slice A' (m + 1) c') ∧ No w' base A' (m + 1) c' (insN m x L) ∧ w.grownBy w' (Value.slice A m c).ownBlock ∧ Below base w w' := by
  have hcap := h.cap
  have HM := Lib.hid h.len
  have HX := Lib.hid hx
  obtain ⟨mv, hmv⟩ : ∃ mv : Nat, mv = 1 := ⟨1, rfl⟩
  rw [← hmv]
  have hz1 : ¬ ((mv : Int) = 0) := by omega
  have hmm : ((m : Int) == (m : Int)) = true := by simp
  have hz0 : ((mv : Int) == 0) = false := by simp; omega
  have HV := Lib.hid hmv
  clear hmv hx
  have insE : insN m x L = L ++ [x] := by rw [HM.out]; exact insN_end
  rcases h.form with ⟨rfl, rfl, rfl, rfl⟩ | ⟨g, rfl, hbg, hlt, cur, hh, h1, h2, h3, h4⟩
  · clear hcap HM hmm
    go_enter Tryz.func36, Tryz.ntmps36
    go_wp2_with (at_builtin; refine wpList_plain rfl fun K hK => wp_appN (.tmp 23) (.tmp 24) rfl base none 0 0 [] rfl h x gb (by rw [HV.out]; rfl) HX.out hxa hb (by omega) hbase (fun A' c' w' q1 q2 q3 => hK _ _ ?_))
    all_goals
      go_ret
      have e1 := HV.out
      subst e1
      exact ⟨A', c', rfl, by first | exact q1 | (rw [insE]; exact q1), q2, q3⟩
  · go_enter Tryz.func36, Tryz.ntmps36
    go_wp2_with (at_builtin; refine wpList_plain rfl fun K hK => wp_appN (.tmp 23) (.tmp 24) rfl base (some ⟨g, 0, none⟩) m c L rfl h x gb (by rw [HV.out]; rfl) HX.out hxa hb (by omega) hbase (fun A' c' w' q1 q2 q3 => hK _ _ ?_))
    all_goals
      go_ret
      have e1 := HV.out
      subst e1
      exact ⟨A', c', rfl, by first | exact q1 | (rw [insE]; exact q1), q2, q3⟩
end Go.Proofs.YtelfdpcenplhjaaGreatDoor
namespace Go.Proofs.YtelfdpcenplhjaaGreatDoor
open Go.RowKit Go.Shelf
set_option linter.unusedVariables false
set_option linter.unusedSimpArgs false
theorem sizeOf_of {P : Program} {t : TypeId} {z : Value} {n b : Nat} (h : (P.info? t).map (fun i => (i.zero, i.size, i.bytes)) = some (some z, n, b)) (w : World) : (Go.sizeOf t).run P w = .ok n w := by
  obtain ⟨i, hi, hz, hs1, hb1⟩ := info_parts h
  simp [Go.sizeOf, typeInfo, hi, hs1]
theorem no_block {w : World} {base g m c : Nat} {L : List Nl} {cur : Array Value} (hb : base ≤ g) (hh : w.heap[g]? = some (.cells cur 46 (0, 0))) (h1 : m ≤ c) (h2 : c ≤ maxLen) (h3 : cur.size = c * 7) (h4 : cur.toList.take (m * 7) = flatN L) (hm : m = L.length) (hn : ∀ x ∈ L, Nr w w.heap.size x) (ha : ∀ x ∈ L, 0 < x.1.g.length → ∀ a, x.2.1 = some a → a.block ≠ g) : No w base (some ⟨g, 0, none⟩) m c L :=
  ⟨⟨by rw [flatN_len, hm], .inr ⟨g, c, cur, rfl, hb, hh, h1, h2, h3, h4⟩⟩, hn, fun g' e => by cases e; exact ha⟩
set_option maxRecDepth 100000 in
set_option maxHeartbeats 4000000 in
theorem insert_shift (base g m c k : Nat) (L : List Nl) (x : Nl) (gb : Nat) (w : World) (h : No w base (some ⟨g, 0, none⟩) m c L) (hx : Nr w w.heap.size x) (hxa : 0 < x.1.g.length → ∀ a, x.2.1 = some a → a.block ≠ g)
    (hb : w.heap[gb]? = some (.cells (ndC x) 46 (0, 0))) (hgb : gb ≠ g) (h6 : m + 1 ≤ 100000) (hbase : base ≤ w.heap.size) (hk : k < m) (hroom : m + 1 ≤ c) :
    Calls Tryz.prog 36 #[.slice (some ⟨g, 0, none⟩) m c, .int .i64 k, .slice (some ⟨gb, 0, none⟩) 1 1] w fun e w' => ∃ A' c', e = .returned (.slice A' (m + 1) c') ∧ No w' base A' (m + 1) c' (insN k x L) ∧ w.grownBy w' (some g) ∧ Below base w w' := by
  have HM := Lib.hid h.len
  have HX := Lib.hid hx
  obtain ⟨cur, hh, h1, h2, h3, h4, hbg⟩ : ∃ cur : Array Value, w.heap[g]? = some (.cells cur 46 (0, 0)) ∧ m ≤ c ∧ c ≤ maxLen ∧ cur.size = c * 7 ∧ cur.toList.take (m * 7) = flatN L ∧ base ≤ g := by
    rcases h.form with ⟨e, _⟩ | ⟨g', e, q1, q2, cur, q3, q4, q5, q6, q7⟩
    · cases e
    · cases e; exact ⟨cur, q3, q4, q5, q6, q7, q1⟩
  have hfl : (flatN L).length = m * 7 := by rw [flatN_len, ← HM.out]
  have hdl : (flatN (L.drop k)).length = (m - k) * 7 := by rw [flatN_len, List.length_drop, ← HM.out]
  have hcc : c ≤ 9223372036854775807 := by simp only [maxLen] at h2; omega
  have hcp1 : ∀ ty dc sc, (Builtin.copy_ #[22, 22] ty #[.slice (some ⟨g, (k + 1) * 7, none⟩) (m - k) dc, .slice (some ⟨g, k * 7, none⟩) (m + 1 - k) sc]).run Tryz.prog w.drew = .ok (goInt (m - k : Nat)) (w.drew.setRow g (cur.toList.take ((k + 1) * 7) ++ flatN (L.drop k) ++ cur.toList.drop ((k + 1) * 7 + (flatN (L.drop k)).length)).toArray) := fun ty dc sc => by
    have hmin : Nat.min (m + 1 - k) (m - k) = m - k := by simp only [Nat.min_def]; split <;> omega
    have := run_copyN w.drew ty g ((k + 1) * 7) (m - k) dc ⟨g, k * 7, none⟩ (m + 1 - k) sc cur (flatN (L.drop k)) hh (by rw [hdl, hmin]) (fun j v hj => by
        rw [n_add]
        rw [← flatN_drop, List.getElem?_drop, ← h4] at hj
        have hj2 : cur[k * 7 + j]? = some v := by
          rw [List.getElem?_take] at hj
          split at hj
          · simpa using hj
          · cases hj
        simp only [World.cell?, World.drew, hh]
        exact hj2) (by rw [hdl, h3]; omega) (flatN_one _)
    rw [hmin] at this
    exact this
  obtain ⟨C1, hC1⟩ : ∃ C1 : Array Value, C1 = (cur.toList.take ((k + 1) * 7) ++ flatN (L.drop k) ++ cur.toList.drop ((k + 1) * 7 + (flatN (L.drop k)).length)).toArray := ⟨_, rfl⟩
  have hx7 : (ndC x).toList.length = 7 := rfl
  have hsc := shift_cells (cur := cur.toList) (F := flatN L) (X := (ndC x).toList) (a := k * 7) (n := m * 7) (t := 7) hfl h4 hx7 (by omega) (by rw [Array.length_toList, h3]; omega)
  simp only [flatN_drop] at hsc
  rw [show k * 7 + 7 = (k + 1) * 7 by omega] at hsc
  rw [← hC1] at hcp1
  have eC1 : C1.toList = cur.toList.take ((k + 1) * 7) ++ flatN (L.drop k) ++ cur.toList.drop ((k + 1) * 7 + (flatN (L.drop k)).length) := by rw [hC1]
  rw [← eC1] at hsc
  have hl1 : C1.size = c * 7 := by
    rw [← Array.length_toList, eC1]
    simp only [List.length_append, List.length_take, List.length_drop, Array.length_toList, h3, hdl]; omega
  have hhd : w.drew.heap[g]? = some (.cells cur 46 (0, 0)) := hh
  have hg1 : (w.drew.setRow g C1).heap[g]? = some (.cells C1 46 (0, 0)) := setRow_heap w.drew g cur C1 _ _ hhd
  have hb1 : (w.drew.setRow g C1).heap[gb]? = some (.cells (ndC x) 46 (0, 0)) := (setRow_other w.drew g gb C1 hgb).trans hb
  obtain ⟨C2, hC2⟩ : ∃ C2 : Array Value, C2 = (C1.toList.take (k * 7) ++ (ndC x).toList ++ C1.toList.drop (k * 7 + (ndC x).toList.length)).toArray := ⟨_, rfl⟩
  have eC2 : C2.toList = C1.toList.take (k * 7) ++ (ndC x).toList ++ C1.toList.drop (k * 7 + (ndC x).toList.length) := by rw [hC2]
  rw [← eC2] at hsc
  obtain ⟨mv, hmv⟩ : ∃ mv : Nat, mv = 1 := ⟨1, rfl⟩
  have hcp2 : ∀ ty dc, (Builtin.copy_ #[22, 22] ty #[.slice (some ⟨g, k * 7, none⟩) (m + 1 - k) dc, .slice (some ⟨gb, 0, none⟩) 1 1]).run Tryz.prog (w.drew.setRow g C1) = .ok (goInt (1 : Nat)) ((w.drew.setRow g C1).setRow g C2) := fun ty dc => by
    have hmin : Nat.min 1 (m + 1 - k) = 1 := by simp only [Nat.min_def]; split <;> omega
    have := run_copyN (w.drew.setRow g C1) ty g (k * 7) (m + 1 - k) dc ⟨gb, 0, none⟩ 1 1 C1 (ndC x).toList hg1 (by rw [hx7, hmin]) (fun j v hj => by
        rw [n_add, Nat.zero_add]
        simp only [World.cell?, hb1]
        rw [← Array.getElem?_toList]
        exact hj) (by rw [hx7, hl1]; omega) (nd_oneL x)
    rw [hmin, ← hC2] at this
    exact this
  have hW2 : (w.drew.setRow g C1).setRow g C2 = w.drew.setRow g C2 := setRow_setRow _ _ _ _
  rw [hW2] at hcp2
  have hov : ∀ lb cb, (callFunc 70 #[.slice (some ⟨gb, 0, none⟩) 1 1, .slice (some ⟨g, (k + 1) * 7, none⟩) lb cb]).run Tryz.prog w = .ok (.value (.bool false)) w := fun lb cb => by
    rw [run_callFunc_extern Tryz.func70 (by kernel_rfl) (by kernel_rfl) (by kernel_rfl) (e := Extern.SlicesOverlaps.overlaps #[22, 22] #[4]) (by kernel_rfl),
      Lib.run_overlaps_apart w 22 4 46 Tryz.underlying22 7 (sizeOf_of nd_info3) ⟨gb, 0, none⟩ ⟨g, (k + 1) * 7, none⟩ 1 1 lb cb hgb 46 46 7 (c * 7) (by simp [World.shape?, hb]; rfl) (by simp [World.shape?, hh, h3]) (by omega) (by simp [World.frozen?, hb]) (by simp [World.frozen?, hb])]
    rfl
  have hnot : ¬ ((k : Int) = (m : Int)) := by omega
  have hw1 : IntKind.i64.wrap ((k : Int) + 1) = (k : Int) + 1 := by rw [IntKind.wrap_i64]; omega
  have hp1 : (0 : Int) ≤ (k : Int) + 1 := by omega
  have hin : k ≤ m := by omega
  have htn : ((k : Int) + 1).toNat = k + 1 := by omega
  have hp2 : ¬ (c = k + 1) := by omega
  have hp3 : (k : Int) ≤ (m : Int) + 1 := by omega
  have hp4 : ¬ (c = k) := by omega
  have hp5 : ¬ ((c : Int) < (m : Int) + 1) := by omega
  have mixed : Tryz.prog.follows .mixedOrders = true := by kernel_rfl
  have HSC := Lib.hid hsc
  have HC2 := Lib.hid (And.intro hC1 hC2)
  have hm' := HM.out
  clear hsc eC1 eC2 hC1 hC2 hm'
  go_enter Tryz.func36, Tryz.ntmps36
  go_wp2_with (simp only [hov])
  go_region_law_o (refine step_copy_runI rfl _ _ 22 22 rfl (.slice (some ⟨g, (k + 1) * 7, none⟩) (m - k) (c - (k + 1))) (.slice (some ⟨g, k * 7, none⟩) (m + 1 - k) (c - k)) (by simp [Act.eval, Act.put]) (by simp [Act.eval, Act.put]) (hcp1 _ _ _) ?_)
  go_wp2_with (at_builtin; refine wpList_copy_runI _ rfl _ _ 22 22 rfl _ _ rfl rfl (hcp2 _ _) ?_)
  go_ret
  have hgr : w.grownBy (w.drew.setRow g C2) (some g) := ⟨rfl, rfl, rfl, by simp, fun j hj hne => (setRow_other w.drew g j C2 (fun e => hne (by rw [e]))).trans rfl⟩
  have hgW : (w.drew.setRow g C2).heap[g]? = some (.cells C2 46 (0, 0)) := setRow_heap w.drew g cur C2 _ _ hhd
  have hsC := HSC.out
  refine ⟨some ⟨g, 0, none⟩, c, rfl, ?_, hgr, (Below.refl _ _).grown hgr hbase fun j e => by cases e; exact hbg⟩
  have key : ∀ y, y = x ∨ y ∈ L → Nr w w.heap.size y ∧ (0 < y.1.g.length → ∀ a, y.2.1 = some a → a.block ≠ g) := fun y hy => by
    rcases hy with rfl | hy
    · exact ⟨HX.out, hxa⟩
    · exact ⟨h.nr y hy, h.ap g rfl y hy⟩
  refine no_block hbg hgW hroom h2 ?_ ?_ (by rw [insN_len, ← HM.out]) (fun y hy => ?_) (fun y hy => (key y (insN_mem hy)).2)
  · rw [← Array.length_toList, hsC.2, Array.length_toList, h3]
  · rw [show (m + 1) * 7 = m * 7 + 7 by omega, hsC.1, flatN_ins, flatN_drop]
  · obtain ⟨q1, q2⟩ := key y (insN_mem hy)
    exact q1.off (fun hl a ha hlt => hgr.block _ hlt fun e => q2 hl a ha (Option.some.inj e)) hgr.size
end Go.Proofs.YtelfdpcenplhjaaGreatDoor
namespace Go.Proofs.YtelfdpcenplhjaaGreatDoor
open Go.RowKit Go.Shelf
set_option linter.unusedVariables false
set_option linter.unusedSimpArgs false
set_option maxRecDepth 100000 in
set_option maxHeartbeats 4000000 in
theorem insert_grow (base g m c k : Nat) (L : List Nl) (x : Nl) (gb : Nat) (w : World) (h : No w base (some ⟨g, 0, none⟩) m c L) (hx : Nr w w.heap.size x)
    (hb : w.heap[gb]? = some (.cells (ndC x) 46 (0, 0))) (h6 : m + 1 ≤ 100000) (hbase : base ≤ w.heap.size) (hk : k < m) (hroom : c < m + 1) :
    Calls Tryz.prog 36 #[.slice (some ⟨g, 0, none⟩) m c, .int .i64 k, .slice (some ⟨gb, 0, none⟩) 1 1] w fun e w' => ∃ A' c', e = .returned (.slice A' (m + 1) c') ∧ No w' base A' (m + 1) c' (insN k x L) ∧ w.grownBy w' (some g) ∧ Below base w w' := by
  have HM := Lib.hid h.len
  have HX := Lib.hid hx
  obtain ⟨cur, hh, h1, h2, h3, h4, hbg, hgl⟩ : ∃ cur : Array Value, w.heap[g]? = some (.cells cur 46 (0, 0)) ∧ m ≤ c ∧ c ≤ maxLen ∧ cur.size = c * 7 ∧ cur.toList.take (m * 7) = flatN L ∧ base ≤ g ∧ g < w.heap.size := by
    rcases h.form with ⟨e, _⟩ | ⟨g', e, q1, q2, cur, q3, q4, q5, q6, q7⟩
    · cases e
    · cases e; exact ⟨cur, q3, q4, q5, q6, q7, q1, q2⟩
  obtain ⟨i0, hi0, hz0, hzs, hzb⟩ := info_parts nd_info3
  have hfl : (flatN L).length = m * 7 := by rw [flatN_len, ← HM.out]
  have hdl : (flatN (L.drop k)).length = (m - k) * 7 := by rw [flatN_len, List.length_drop, ← HM.out]
  have htl : (flatN (L.take k)).length = k * 7 := by rw [flatN_len, List.length_take, ← HM.out, Nat.min_eq_left (by omega)]
  have hread : ∀ j v, (flatN L)[j]? = some v → w.cell? ⟨g, j, none⟩ = some v := fun j v hj => by
    rw [← h4, List.getElem?_take] at hj
    split at hj
    · simp only [World.cell?, hh]; simpa using hj
    · cases hj
  have hold : (Builtin.firstCells i0.size k (.slice (some ⟨g, 0, none⟩) k c)).run Tryz.prog w.drew = .ok (flatN (L.take k)).toArray w.drew := by
    rw [hzs]
    exact run_firstCells_some w.drew 7 k ⟨g, 0, none⟩ k c (flatN (L.take k)) (by rw [htl]) (fun j v hj => by
      rw [n_add, Nat.zero_add]
      rw [← flatN_take, List.getElem?_take] at hj
      split at hj
      · exact hread j v hj
      · cases hj)
  obtain ⟨G, hG⟩ : ∃ G, G = grownCap w (m + 1) c 46 := ⟨_, rfl⟩
  obtain ⟨ROW, hROW⟩ : ∃ ROW : Array Value, ROW = (flatN (L.take k)).toArray ++ Builtin.zeroCells (ndV nl0).cells (m + 1 - k) ++ Builtin.zeroCells (ndV nl0).cells (G - (m + 1)) := ⟨_, rfl⟩
  obtain ⟨W1, hW1⟩ : ∃ W1, W1 = w.drew.alloc (.cells ROW 46) := ⟨_, rfl⟩
  have hkk : (m : Int) + 1 - (k : Int) = ((m + 1 - k : Nat) : Int) := by omega
  have hik : k + (m + 1 - k) = m + 1 := by omega
  have hrz : ∀ ty, (Builtin.append_ #[22, 3] ty #[.slice (some ⟨g, 0, none⟩) k c, .int .i64 ((m : Int) + 1 - (k : Int))]).run Tryz.prog w = .ok (.slice (some ⟨w.heap.size, 0, none⟩) (m + 1) G) W1 := fun ty => by
    have h := Lib.run_append_grow_zeros w 22 3 ty 46 i0 _ .i64 .i64 Tryz.underlying22 Tryz.underlying3 hi0 hz0 (some ⟨g, 0, none⟩) k c (flatN (L.take k)) hold (m + 1 - k) (by omega) (by rw [hzs]; decide) (by omega) (by omega) (by rw [hzb]; omega) (by rw [hzb, hik]; exact growslice_fits hroom (by omega))
    rw [hik, ← hG, ← hROW, ← hW1] at h
    rw [hkk]
    exact h
  have hGn : m + 1 ≤ G := by rw [hG]; exact grownCap_ge w _ _ _
  have hGm : G ≤ maxLen := by rw [hG]; exact grownCap_le_maxLen w (m + 1) c 46 (by unfold maxLen; omega)
  have hG63 : G ≤ 9223372036854775807 := by unfold maxLen at hGm; omega
  have hzc : ∀ t, (Builtin.zeroCells (ndV nl0).cells t).size = t * 7 := fun t => by simp [Builtin.zeroCells, Value.cells, ndV, ndC]
  obtain ⟨Z, hZ, hZl⟩ : ∃ Z : List Value, ROW.toList = flatN (L.take k) ++ Z ∧ Z.length = (G - k) * 7 := ⟨(Builtin.zeroCells (ndV nl0).cells (m + 1 - k)).toList ++ (Builtin.zeroCells (ndV nl0).cells (G - (m + 1))).toList, by rw [hROW]; simp, by rw [List.length_append, Array.length_toList, Array.length_toList, hzc, hzc]; omega⟩
  have hRs : ROW.size = G * 7 := by rw [← Array.length_toList, hZ, List.length_append, htl, hZl]; omega
  have hg1 : W1.heap[w.heap.size]? = some (.cells ROW 46 (0, 0)) := by rw [hW1]; exact heap_alloc_new w.drew _
  have ho1 : ∀ j, j < w.heap.size → W1.heap[j]? = w.heap[j]? := fun j hj => by rw [hW1]; exact Below.heap_alloc w.drew _ j hj
  have hs1 : W1.heap.size = w.heap.size + 1 := by rw [hW1]; simp
  have hgr1 : w.grownBy W1 (some g) := by rw [hW1]; exact ⟨rfl, rfl, rfl, by simp, fun j hj _ => Below.heap_alloc w.drew _ j hj⟩
  have hgbl : gb < w.heap.size := (Array.getElem?_eq_some_iff.1 hb).1
  have hx7 : (ndC x).toList.length = 7 := rfl
  obtain ⟨C1, hC1⟩ : ∃ C1 : Array Value, C1 = (ROW.toList.take (k * 7) ++ (ndC x).toList ++ ROW.toList.drop (k * 7 + (ndC x).toList.length)).toArray := ⟨_, rfl⟩
  have eC1 : C1.toList = ROW.toList.take (k * 7) ++ (ndC x).toList ++ ROW.toList.drop (k * 7 + (ndC x).toList.length) := by rw [hC1]
  have hl1 : C1.size = G * 7 := by
    rw [← Array.length_toList, eC1]
    simp only [List.length_append, List.length_take, List.length_drop, Array.length_toList, hRs, hx7]; omega
  have hcp1 : ∀ ty dc, (Builtin.copy_ #[22, 22] ty #[.slice (some ⟨w.heap.size, k * 7, none⟩) (m + 1 - k) dc, .slice (some ⟨gb, 0, none⟩) 1 1]).run Tryz.prog W1 = .ok (goInt (1 : Nat)) (W1.setRow w.heap.size C1) := fun ty dc => by
    have hmin : Nat.min 1 (m + 1 - k) = 1 := by simp only [Nat.min_def]; split <;> omega
    have := run_copyN W1 ty w.heap.size (k * 7) (m + 1 - k) dc ⟨gb, 0, none⟩ 1 1 ROW (ndC x).toList hg1 (by rw [hx7, hmin]) (fun j v hj => by
        rw [n_add, Nat.zero_add]
        simp only [World.cell?, ho1 gb hgbl, hb]
        rw [← Array.getElem?_toList]
        exact hj) (by rw [hx7, hRs]; omega) (nd_oneL x)
    rw [hmin, ← hC1] at this
    exact this
  obtain ⟨W2, hW2⟩ : ∃ W2, W2 = W1.setRow w.heap.size C1 := ⟨_, rfl⟩
  rw [← hW2] at hcp1
  have hg2 : W2.heap[w.heap.size]? = some (.cells C1 46 (0, 0)) := by rw [hW2]; exact setRow_heap W1 _ ROW C1 _ _ hg1
  have ho2 : ∀ j, j < w.heap.size → W2.heap[j]? = w.heap[j]? := fun j hj => by rw [hW2, setRow_other W1 _ j C1 (by omega)]; exact ho1 j hj
  obtain ⟨C2, hC2⟩ : ∃ C2 : Array Value, C2 = (C1.toList.take ((k + 1) * 7) ++ flatN (L.drop k) ++ C1.toList.drop ((k + 1) * 7 + (flatN (L.drop k)).length)).toArray := ⟨_, rfl⟩
  have eC2 : C2.toList = C1.toList.take ((k + 1) * 7) ++ flatN (L.drop k) ++ C1.toList.drop ((k + 1) * 7 + (flatN (L.drop k)).length) := by rw [hC2]
  have hcp2 : ∀ ty dc sc, (Builtin.copy_ #[22, 22] ty #[.slice (some ⟨w.heap.size, (k + 1) * 7, none⟩) (m - k) dc, .slice (some ⟨g, k * 7, none⟩) (m - k) sc]).run Tryz.prog W2.drew = .ok (goInt (m - k : Nat)) (W2.drew.setRow w.heap.size C2) := fun ty dc sc => by
    have hmin : Nat.min (m - k) (m - k) = m - k := by simp only [Nat.min_def]; split <;> omega
    have := run_copyN W2.drew ty w.heap.size ((k + 1) * 7) (m - k) dc ⟨g, k * 7, none⟩ (m - k) sc C1 (flatN (L.drop k)) hg2 (by rw [hdl, hmin]) (fun j v hj => by
        rw [n_add]
        rw [← flatN_drop, List.getElem?_drop] at hj
        have := hread _ v hj
        simp only [World.cell?, World.drew, ho2 g hgl] at this ⊢
        exact this) (by rw [hdl, hl1]; omega) (flatN_one _)
    rw [hmin, ← hC2] at this
    exact this
  have hsc := grow_cells (F := flatN L) (X := (ndC x).toList) (Z := Z) (a := k * 7) (n := m * 7) (t := 7) hfl hx7 (by omega) (by rw [hZl]; omega)
  simp only [flatN_drop, flatN_take] at hsc
  rw [← hZ, ← eC1, show k * 7 + 7 = (k + 1) * 7 by omega, ← eC2] at hsc
  have hnot : ¬ ((k : Int) = (m : Int)) := by omega
  have hw1 : IntKind.i64.wrap ((k : Int) + 1) = (k : Int) + 1 := by rw [IntKind.wrap_i64]; omega
  have hp1 : (0 : Int) ≤ (k : Int) + 1 := by omega
  have hin : k ≤ m := by omega
  have htn : ((k : Int) + 1).toNat = k + 1 := by omega
  have hp2 : ¬ (G = k + 1) := by omega
  have hp3 : (k : Int) ≤ (m : Int) := by omega
  have hp4 : ¬ (c = k) := by omega
  have hp5 : (c : Int) < (m : Int) + 1 := by omega
  have hp6 : ¬ (G = k) := by omega
  have hp7 : (k : Int) ≤ (c : Int) := by omega
  have mixed : Tryz.prog.follows .mixedOrders = true := by kernel_rfl
  have HSC := Lib.hid hsc
  have HG2 := Lib.hid (show w.grownBy (W2.drew.setRow w.heap.size C2) (some g) from ⟨by rw [hW2, hW1]; rfl, by rw [hW2, hW1]; rfl, by rw [hW2, hW1]; rfl, by rw [setRow_size, hW2]; show w.heap.size ≤ (W1.setRow w.heap.size C1).heap.size; rw [setRow_size, hs1]; omega, fun j hj _ => (setRow_other W2.drew _ j C2 (by omega)).trans (ho2 j hj)⟩)
  clear hsc eC1 eC2 hC1 hC2 hkk hik hold hROW hG hZ hi0 hz0 hzs hzb hgr1 hW1 hW2 hg1 hs1
  go_enter Tryz.func36, Tryz.ntmps36
  go_wp2_with (first
    | (at_builtin; refine Lib.wpList_append_run _ rfl _ _ _ _ rfl _ _ rfl rfl _ _ (hrz _) ?_)
    | (at_builtin; refine wpList_copy_runI _ rfl _ _ 22 22 rfl _ _ rfl rfl (hcp1 _ _) ?_))
  go_region_law_o (refine step_copy_runI rfl _ _ 22 22 rfl (.slice (some ⟨w.heap.size, (k + 1) * 7, none⟩) (m - k) (G - (k + 1))) (.slice (some ⟨g, k * 7, none⟩) (m - k) (c - k)) (by simp [Act.eval, Act.put]) (by simp [Act.eval, Act.put]) (hcp2 _ _ _) ?_)
  go_wp2_with fail
  go_ret
  have hgr : w.grownBy (W2.drew.setRow w.heap.size C2) (some g) := HG2.out
  have hgW : (W2.drew.setRow w.heap.size C2).heap[w.heap.size]? = some (.cells C2 46 (0, 0)) := setRow_heap W2.drew _ C1 C2 _ _ hg2
  have hsC := HSC.out
  have key : ∀ y, y = x ∨ y ∈ L → Nr w w.heap.size y := fun y hy => by
    rcases hy with rfl | hy
    · exact HX.out
    · exact h.nr y hy
  have hold : ∀ y, Nr w w.heap.size y → Nr (W2.drew.setRow w.heap.size C2) (W2.drew.setRow w.heap.size C2).heap.size y := fun y q1 =>
    q1.off (fun hl a ha hlt => (setRow_other W2.drew _ _ C2 (by omega)).trans (ho2 _ hlt)) hgr.size
  refine ⟨some ⟨w.heap.size, 0, none⟩, G, rfl, ?_, hgr, (Below.refl _ _).grown hgr hbase fun j e => by cases e; exact hbg⟩
  refine no_block hbase hgW hGn hGm ?_ ?_ (by rw [insN_len, ← HM.out]) (fun y hy => hold y (key y (insN_mem hy))) (fun y hy hl a ha => ?_)
  · rw [← Array.length_toList, hsC.2, hZl]; omega
  · rw [show (m + 1) * 7 = m * 7 + 7 by omega, hsC.1, flatN_ins, flatN_drop, flatN_take]
  · have := (key y (insN_mem hy)).prog_lt hl ha
    omega
theorem insert_any (base : Nat) (A : Option Addr) (m c k : Nat) (L : List Nl) (x : Nl) (gb : Nat) (w : World) (h : No w base A m c L) (hx : Nr w w.heap.size x) (hxa : ∀ g, (Value.slice A m c).ownBlock = some g → 0 < x.1.g.length → ∀ a, x.2.1 = some a → a.block ≠ g)
    (hb : w.heap[gb]? = some (.cells (ndC x) 46 (0, 0))) (hgb : ∀ g, (Value.slice A m c).ownBlock = some g → gb ≠ g) (h6 : m + 1 ≤ 100000) (hbase : base ≤ w.heap.size) (hk : k ≤ m) :
    Calls Tryz.prog 36 #[.slice A m c, .int .i64 k, .slice (some ⟨gb, 0, none⟩) 1 1] w fun e w' => ∃ A' c', e = .returned (.slice A' (m + 1) c') ∧ No w' base A' (m + 1) c' (insN k x L) ∧ w.grownBy w' (Value.slice A m c).ownBlock ∧ Below base w w' := by
  rcases Nat.lt_or_ge k m with hlt | hge
  · have hm := h.len
    obtain ⟨g, rfl, _⟩ := h.at0 (by omega)
    have eo : (Value.slice (some ⟨g, 0, none⟩) m c).ownBlock = some g := rfl
    rw [eo]
    rcases Nat.lt_or_ge c (m + 1) with h1 | h1
    · exact insert_grow base g m c k L x gb w h hx hb h6 hbase hlt h1
    · exact insert_shift base g m c k L x gb w h hx (hxa g rfl) hb (hgb g rfl) h6 hbase hlt h1
  · obtain rfl : k = m := by omega
    exact insert_end base A k c L x gb w h hx hxa hb h6 hbase
end Go.Proofs.YtelfdpcenplhjaaGreatDoor
namespace Go.Proofs.YtelfdpcenplhjaaGreatDoor
open Go.RowKit
structure VmS where
  pc : Nat
  a : Int
  x : Int
  mem : List Int
def vm0 : VmS := ⟨0, 0, 0, List.replicate 16 0⟩
section
variable (al : Int → Int → Int → Option Int) (hd : Int → Int → Int → Bool)
def effV (q : Ins) (d : Int → Int) (s : VmS) : Option (Int × Int × List Int) :=
  if q.1 = 32 then some (d q.2.2.2, s.x, s.mem)
  else if q.1 = 128 then some (64, s.x, s.mem)
  else if q.1 = 129 then some (s.a, 64, s.mem)
  else if q.1 = 0 then some (q.2.2.2, s.x, s.mem)
  else if q.1 = 1 then some (s.a, q.2.2.2, s.mem)
  else if q.1 = 96 then some (s.mem.getD q.2.2.2.toNat 0, s.x, s.mem)
  else if q.1 = 97 then some (s.a, s.mem.getD q.2.2.2.toNat 0, s.mem)
  else if q.1 = 2 then some (s.a, s.x, s.mem.set q.2.2.2.toNat s.a)
  else if q.1 = 3 then some (s.a, s.x, s.mem.set q.2.2.2.toNat s.x)
  else if q.1 = 7 then some (s.a, s.a, s.mem)
  else if q.1 = 135 then some (s.x, s.x, s.mem)
  else (al q.1 s.a (if q.1 % 16 = 12 then s.x else q.2.2.2)).map fun v => (v, s.x, s.mem)
def stepV (q : Ins) (d : Int → Int) (s : VmS) : Option Int × VmS :=
  if q.1 = 6 then (some q.2.2.2, s)
  else if q.1 = 22 then (some s.a, s)
  else if q.1 = 5 then (none, { s with pc := s.pc + 1 + q.2.2.2.toNat })
  else if formOf q.1 = 5 ∨ formOf q.1 = 6 then (none, { s with pc := s.pc + 1 + (if hd q.1 s.a (if formOf q.1 = 5 then q.2.2.2 else s.x) = true then q.2.1.toNat else q.2.2.1.toNat) })
  else match effV al q d s with
    | some e => (none, ⟨s.pc + 1, e.1, e.2.1, e.2.2⟩)
    | none => (some 0, s)
end
theorem form_4 {c : Int} : formOf c = 4 ↔ c = 5 := by
  constructor
  · intro h
    unfold formOf at h
    cases hr : rowC c with
    | none => rw [hr] at h; cases h
    | some i =>
      rw [hr] at h
      obtain ⟨hi, rfl⟩ := rowC_some hr
      have hall : ((List.range 41).all fun i => (kF i != 4) || (kC i == 5)) = true := by decide
      have := List.all_eq_true.1 hall i (List.mem_range.2 hi)
      simp only at h
      rw [h] at this
      simpa using this
  · rintro rfl; rfl
section
variable {al : Int → Int → Int → Option Int} {hd : Int → Int → Int → Bool}
theorem step_next {q : Ins} {d : Int → Int} {s s' : VmS} (h : stepV al hd q d s = (none, s')) (hp : s.pc ≤ 255) (hf : formOf q.1 ≠ -1) (hk : formOf q.1 = 4 → q.2.2.2 ≤ 255) : s'.pc ∈ nextL q s.pc := by
  have hr : retI q = false := by
    unfold retI
    unfold stepV at h
    by_cases h6 : q.1 = 6
    · rw [if_pos h6] at h; simp at h
    · rw [if_neg h6] at h
      by_cases h22 : q.1 = 22
      · rw [if_pos h22] at h; simp at h
      · simp [h6, h22]
  have hn : ¬ (255 < s.pc ∨ formOf q.1 = -1 ∨ retI q = true ∨ formOf q.1 = 4 ∧ 255 < q.2.2.2) := by
    rintro (h1 | h1 | h1 | ⟨h1, h2⟩)
    · omega
    · exact hf h1
    · rw [hr] at h1; cases h1
    · have := hk h1; omega
  unfold nextL
  rw [if_neg hn]
  unfold stepV at h
  have h6 : ¬ q.1 = 6 := by intro e; simp [retI, e] at hr
  have h22 : ¬ q.1 = 22 := by intro e; simp [retI, e] at hr
  rw [if_neg h6, if_neg h22] at h
  by_cases h5 : q.1 = 5
  · rw [if_pos h5] at h
    rw [if_pos (form_4.2 h5)]
    injection h with _ h
    subst h
    simp
  · rw [if_neg h5] at h
    rw [if_neg (fun e => h5 (form_4.1 e))]
    by_cases hj : formOf q.1 = 5 ∨ formOf q.1 = 6
    · rw [if_pos hj] at h
      rw [if_pos hj]
      injection h with _ h
      subst h
      by_cases hab : q.2.1 = q.2.2.1
      · rw [if_pos hab]
        simp [hab]
      · rw [if_neg hab]
        by_cases hh : hd q.1 s.a (if formOf q.1 = 5 then q.2.2.2 else s.x) = true
        · simp only [hh, if_true]
          split <;> simp
        · simp only [hh]
          split <;> simp
    · rw [if_neg hj] at h
      rw [if_neg hj]
      have key : s'.pc = s.pc + 1 := by
        cases he : effV al q d s with
        | none => rw [he] at h; simp at h
        | some e =>
          rw [he] at h
          injection h with _ h
          subst h
          rfl
      rw [key]
      simp
end
end Go.Proofs.YtelfdpcenplhjaaGreatDoor
namespace Go.Proofs.YtelfdpcenplhjaaGreatDoor
open Go.RowKit
structure Dat where
  nr : Int
  ar : Int
  ip : Int
  a0 : Int
  a1 : Int
  a2 : Int
  a3 : Int
  a4 : Int
  a5 : Int
def U32 (x : Int) : Prop := 0 ≤ x ∧ x ≤ 4294967295
def U64 (x : Int) : Prop := 0 ≤ x ∧ x ≤ 18446744073709551615
structure DatOk (d : Dat) : Prop where
  nr : U32 d.nr
  ar : U32 d.ar
  ip : U64 d.ip
  a0 : U64 d.a0
  a1 : U64 d.a1
  a2 : U64 d.a2
  a3 : U64 d.a3
  a4 : U64 d.a4
  a5 : U64 d.a5
def datC (d : Dat) : Array Value := #[.int .u32 d.nr, .int .u32 d.ar, .int .u64 d.ip, .int .u64 d.a0, .int .u64 d.a1, .int .u64 d.a2, .int .u64 d.a3, .int .u64 d.a4, .int .u64 d.a5]
def datV (d : Dat) : Value := .agg (datC d)
def arrC (l : List Int) : Array Value := (l.map (Value.int .u32)).toArray
def arrV (l : List Int) : Value := .agg (arrC l)
def lo (x : Int) : Int := x % 4294967296
def hi (x : Int) : Int := x / 4294967296
def wordsL (d : Dat) : List Int := [d.nr, d.ar, lo d.ip, hi d.ip, lo d.a0, hi d.a0, lo d.a1, hi d.a1, lo d.a2, hi d.a2, lo d.a3, hi d.a3, lo d.a4, hi d.a4, lo d.a5, hi d.a5]
def U32s (l : List Int) : Prop := ∀ z ∈ l, U32 z
theorem lo_bd (x : Int) : U32 (lo x) := by unfold U32 lo; omega
theorem hi_bd (x : Int) (h : U64 x) : U32 (hi x) := by unfold U32 hi; unfold U64 at h; omega
theorem U32s.at_ {l : List Int} (h : U32s l) (k : Nat) : U32 (l.getD k 0) := by
  rcases Nat.lt_or_ge k l.length with hk | hk
  · rw [List.getD_eq_getElem?_getD, List.getElem?_eq_getElem hk]; exact h _ (List.getElem_mem hk)
  · rw [List.getD_eq_getElem?_getD, List.getElem?_eq_none hk]; unfold U32; simp
theorem words_bd (d : Dat) (h : DatOk d) : U32s (wordsL d) := by
  intro z hz
  simp only [wordsL, List.mem_cons, List.not_mem_nil, or_false] at hz
  rcases hz with rfl | rfl | rfl | rfl | rfl | rfl | rfl | rfl | rfl | rfl | rfl | rfl | rfl | rfl | rfl | rfl <;>
    first | exact h.nr | exact h.ar | exact lo_bd _ | exact hi_bd _ h.ip | exact hi_bd _ h.a0 | exact hi_bd _ h.a1 | exact hi_bd _ h.a2 | exact hi_bd _ h.a3 | exact hi_bd _ h.a4 | exact hi_bd _ h.a5
theorem words_len (d : Dat) : (wordsL d).length = 16 := rfl
end Go.Proofs.YtelfdpcenplhjaaGreatDoor

/-
  The walk of ChainOwned.
-/
import Derived.Test.YtelfdpcenplhjaaGreatDoorQVmF
import Derived.Test.YtelfdpcenplhjaaGreatDoorQPlWw
import Derived.Deep.CutBlock
import Derived.ChangeKeysEq
import Derived.Deep.CutRange
import Derived.Maps.OwnOps
import Derived.Maps.OwnSet
namespace Go.Proofs.YtelfdpcenplhjaaGreatDoor
open Go.RowKit Go.Shelf Go.Maps
set_option linter.unusedVariables false
set_option linter.unusedSimpArgs false
def owC (own : List Int) : Array Value := (own.map (Value.int .i64)).toArray
theorem ow_size (own : List Int) : (owC own).size = own.length := by simp [owC]
theorem ow_inf {own : List Int} (h : own.length = 8) : (Tryz.prog.info? 56).map (·.size) = some (owC own).size := by rw [ow_size, h]; kernel_rfl
theorem ow_set {own : List Int} {k : Nat} (v : Int) : (owC own).setIfInBounds k (.int .i64 v) = owC (own.set k v) := by simp [owC, List.map_set]
theorem ow_get {own : List Int} {k : Nat} (hk : k < own.length) : (owC own)[k]? = some (.int .i64 (own.getD k 0)) := by
  simp [owC, List.getElem?_map, hk, List.getD]
def whN (x : Int) : Nat := (max x 0).toNat % 8
def kdN (x : Int) : Nat := ((x.tmod 3 + 3).tmod 3).toNat
theorem whN_lt (x : Int) : whN x < 8 := Nat.mod_lt _ (by decide)
theorem wh_val (x : Int) : (max x 0).tmod 8 = (whN x : Int) := by
  unfold whN
  have h : 0 ≤ max x 0 := Int.le_max_right _ _
  obtain ⟨n, hn⟩ := Int.eq_ofNat_of_zero_le h
  rw [hn]
  simp
  rfl
theorem kd_val (x : Int) : (x.tmod 3 + 3).tmod 3 = (kdN x : Int) ∧ kdN x < 3 := by
  unfold kdN
  have h1 : -3 < x.tmod 3 ∧ x.tmod 3 < 3 := by
    have := Int.tmod_lt_of_pos x (show (0 : Int) < 3 by decide)
    have := Int.lt_tmod_of_pos x (show (0 : Int) < 3 by decide)
    omega
  generalize x.tmod 3 = y at h1
  obtain ⟨h1, h2⟩ := h1
  obtain ⟨n, hn⟩ := Int.eq_ofNat_of_zero_le (show 0 ≤ y + 3 by omega)
  rw [hn]
  have : n < 6 := by omega
  match n, this with
  | 0, _ => decide
  | 1, _ => decide
  | 2, _ => decide
  | 3, _ => decide
  | 4, _ => decide
  | 5, _ => decide
structure OwI (w : World) (g3 : Nat) (A : Option Addr) (m c : Nat) (L : List Nl) (own : List Int) (V : World) : Prop where
  b : Below w.heap.size w V
  k3 : Blk V g3 #[.slice A m c] 24
  k4 : Blk V (g3 + 1) (owC own) 56
  p : Pk V A m c L
  le : w.heap.size ≤ g3
theorem OwI.step {w V V' : World} {g3 : Nat} {A : Option Addr} {m c : Nat} {L : List Nl} {own : List Int} (h : OwI w g3 A m c L own V) (bb : Below V.heap.size V V') : OwI w g3 A m c L own V' :=
  ⟨h.b.trans (bb.mono h.b.size), h.k3.below bb h.k3.lt, h.k4.below bb h.k4.lt, h.p.below bb, h.le⟩
theorem OwI.ow {w V : World} {g3 : Nat} {A : Option Addr} {m c : Nat} {L : List Nl} {own : List Int} (h : OwI w g3 A m c L own V) {k : Nat} (hk : k < own.length) : V.cell? ⟨g3 + 1, k, none⟩ = some (.int .i64 (own.getD k 0)) := by
  rw [h.k4.cell k]
  exact ow_get hk
structure OwA (w : World) (g3 : Nat) (A : Option Addr) (m c : Nat) (L : List Nl) (own : List Int) (g6 : Nat) (x : Al) (V : World) : Prop where
  i : OwI w g3 A m c L own V
  a : Blk V g6 (acC x) 58
  r : Ar V V.heap.size x
theorem OwA.step {w V V' : World} {g3 g6 : Nat} {A : Option Addr} {m c : Nat} {L : List Nl} {own : List Int} {x : Al} (h : OwA w g3 A m c L own g6 x V) (bb : Below V.heap.size V V') : OwA w g3 A m c L own g6 x V' := ⟨h.i.step bb, h.a.below bb h.a.lt, (h.r.below bb (Nat.le_refl _)).more bb.size⟩
theorem zero_intN (w : World) : (zeroValue 3).run Tryz.prog w = .ok (.int .i64 0) w := by kernel_rfl
theorem key_intN {a : Int} (h : -9223372036854775808 ≤ a ∧ a ≤ 9223372036854775807) : keyOf Tryz.prog 3 (.int .i64 a) = some (.int .i64 a) := keyOf_int_mk Tryz.underlying3 (WalkArith.wf_i64 h)
theorem int_of_litN {a b : Int} (h : (DataW.lit (.int .i64 a) : DataW Unit) = .lit (.int .i64 b)) : a = b := by injection h with h; injection h
theorem run_idx8 {own : List Int} {j : Nat} (hj : j < 8) (ho : own.length = 8) (w : World) : (Instr.index 56 (.agg (owC own)) (.int .i64 (j : Int))).run Tryz.prog w = .ok (.int .i64 (own.getD j 0)) w := by
  have hn : (j : Int) < 8 := by omega
  have hp := run_part_plain (P := Tryz.prog) w (e := 3) (by kernel_rfl) (xs := owC own) (off := j) (ow_get (own := own) (k := j) (by omega))
  have hs : (sizeOf 3).run Tryz.prog w = .ok 1 w := by kernel_rfl
  simp [Instr.index, run_underlying Tryz.underlying56, asIntOf, hn, hj, go_sem, hs, hp, ow_get (own := own) (k := j) (by omega)]
theorem bare_own {V : World} {g : Nat} {own : List Int} (k : Blk V g (owC own) 56) : Bare V g := by
  have key : ∀ (j : Nat) (v : Value), (owC own)[j]? = some v → ∃ a, v = .int .i64 a := fun j v h => by
    simp only [owC, List.getElem?_toArray, List.getElem?_map] at h
    cases ho : own[j]? with
    | none => rw [ho] at h; cases h
    | some a => rw [ho] at h; exact ⟨a, (Option.some.inj h).symm⟩
  refine .of_blk k (fun j v h => ?_) (fun j a s n c ⟨_, h⟩ => ?_)
  · obtain ⟨a, e⟩ := key _ _ h; cases e
  · obtain ⟨a, e⟩ := key _ _ h; cases e
theorem own_small {L : List Nl} {own : List Int} (h : Inv L own 0) (j : Nat) : 0 ≤ own.getD j 0 ∧ own.getD j 0 ≤ 24 := by
  by_cases hj : j < own.length
  · have e : own.getD j 0 = own[j] := by simp [List.getD, hj]
    rw [e]
    by_cases h0 : own[j] = 0
    · omega
    · obtain ⟨x, hx, e2⟩ := h.has _ (List.getElem_mem hj) h0
      have h1 := no_zero h.chk x hx
      have h2 := id_le24 (chk_std h.chk).1 x hx
      omega
  · have e : own.getD j 0 = 0 := by simp [List.getD, List.getElem?_eq_none (Nat.le_of_not_lt hj)]
    omega
structure OwM (w : World) (g3 : Nat) (A : Option Addr) (m c : Nat) (L : List Nl) (own : List Int) (gm n : Nat) (D : DataW Unit) (V : World) : Prop where
  i : OwI w g3 A m c L own V
  m : V.ownsMap Tryz.prog 3 (plainElem Tryz.prog 3) gm n D
  lt : g3 + 1 < gm
theorem OwM.step {w V V' : World} {g3 gm n : Nat} {A : Option Addr} {m c : Nat} {L : List Nl} {own : List Int} {D : DataW Unit} (h : OwM w g3 A m c L own gm n D V) (bb : Below V.heap.size V V') : OwM w g3 A m c L own gm n D V' :=
  ⟨h.i.step bb, h.m.kept (grown_of_below bb) (by simp), h.lt⟩
theorem OwM.put {w V V' : World} {g3 gm n n' : Nat} {A : Option Addr} {m c : Nat} {L : List Nl} {own : List Int} {D D' : DataW Unit} (h : OwM w g3 A m c L own gm n D V) (hm : V'.ownsMap Tryz.prog 3 (plainElem Tryz.prog 3) gm n' D') (hg : V.grownBy V' (some gm)) : OwM w g3 A m c L own gm n' D' V' := by
  obtain ⟨es, ck, hmb, _⟩ := h.m
  have hlt := h.lt
  have hle := h.i.le
  have hb : Below w.heap.size V V' := ⟨hg.os, hg.tape, hg.output, hg.size, fun j hj => hg.block j (Nat.lt_of_lt_of_le hj h.i.b.size) (fun e => by have := Option.some.inj e; omega)⟩
  exact ⟨⟨h.i.b.trans hb, (Turn.grown hg).blk h.i.k3 (by omega), (Turn.grown hg).blk h.i.k4 (by omega), h.i.p.turn (Turn.grown hg) (bare_map hmb), hle⟩, hm, hlt⟩
theorem ins_ok {V : World} {B : Nat} {A : Option Addr} {g : List Ins} (h : Ri V B A g.length (gF g)) : ∀ q ∈ g, insO q := fun q hq => by
  obtain ⟨k, hk, rfl⟩ := List.getElem_of_mem hq
  obtain ⟨_, _, _, _, _, ho⟩ := h k hk
  have e : gF g k = g[k] := by simp [gF, List.getD, hk]
  rw [e] at ho
  exact ho
theorem OwI.but {w V V' : World} {g3 g : Nat} {A : Option Addr} {m c : Nat} {L : List Nl} {own : List Int} (h : OwI w g3 A m c L own V) (n : But g V V') (hb : Bare V g) (hg : g3 + 1 < g) : OwI w g3 A m c L own V' :=
  ⟨h.b.trans (n.below _ (by have := h.le; omega) h.b.size), n.blk7 h.k3 (by omega), n.blk7 h.k4 (by omega), h.p.turn (Turn.but n) hb, h.le⟩
theorem OwA.but {w V V' : World} {g3 g6 g : Nat} {A : Option Addr} {m c : Nat} {L : List Nl} {own : List Int} {x : Al} (h : OwA w g3 A m c L own g6 x V) (n : But g V V') (hb : Bare V g) (hg : g6 < g) (h36 : g3 + 1 < g6) : OwA w g3 A m c L own g6 x V' :=
  ⟨h.i.but n hb (by omega), n.blk7 h.a (by omega), h.r.turn (Turn.but n) hb⟩
theorem OwI.pool {w V V' : World} {g3 : Nat} {A A2 : Option Addr} {m c m2 c2 : Nat} {L Y : List Nl} {own : List Int} (h : OwI w g3 A m c L own V) (n : But g3 V V') (k : Blk V' g3 #[.slice A2 m2 c2] 24) (p : Pk V' A2 m2 c2 Y) : OwI w g3 A2 m2 c2 Y own V' :=
  ⟨h.b.trans (n.below _ h.le h.b.size), k, n.blk7 h.k4 (by omega), p, h.le⟩
theorem OwI.set {w V : World} {g3 : Nat} {A : Option Addr} {m c : Nat} {L : List Nl} {own : List Int} (h : OwI w g3 A m c L own V) (who : Nat) (v : Int) : OwI w g3 A m c L (own.set who v) (V.setCell ⟨g3 + 1, who, none⟩ (.int .i64 v)) := by
  have hle := h.le
  have n : But (g3 + 1) V (V.setCell ⟨g3 + 1, who, none⟩ (.int .i64 v)) := (But.refl _ V).setCell (p := ⟨g3 + 1, who, none⟩) (.inl rfl) _
  refine ⟨h.b.trans (n.below _ (by omega) h.b.size), n.blk7 h.k3 (by omega), ?_, h.p.turn (Turn.but n) (bare_own h.k4), hle⟩
  have := h.k4.set_ who (.int .i64 v)
  rw [ow_set] at this
  exact this
theorem getD_own {own : List Int} {who : Nat} (h : who < own.length) : own.getD who 0 = own[who] := by simp [List.getD, h]
theorem ow_add {V : World} {A : Option Addr} {m c who : Nat} {L : List Nl} {own : List Int} {x : Al} {o : Int} (hI : Inv L own 0) (h8 : own.length = 8) (hw : who < 8) (ho : o = own.getD who 0) (hK : HK V) (hP : Pk V A m c L) (hr : Ar V V.heap.size x) (hg : x.1.g.length ≤ 300) (hE : freshE L o x.1.g = 0) :
    Calls Tryz.prog 12 #[.agg #[.slice A m c], .int .i64 o, .slice x.2.1 x.1.g.length x.2.2] V fun e w' => ∃ A2 m2 c2 Y, e = .returned (.tuple #[.agg #[.slice A2 m2 c2], .int .i64 (freshN L o x.1.g).i, .int .i64 0]) ∧ Pk w' A2 m2 c2 Y ∧ Hid (Inv Y (own.set who (freshN L o x.1.g).i) 0) ∧ Below V.heap.size V w' := by
  have hwl : who < own.length := by omega
  have hb := own_small hI who
  rw [← ho] at hb
  have ho2 := ho.trans (getD_own hwl)
  refine (cb_add_ok V hK hP (by have := chk_len24 hI.chk; omega) (chk_short hI.chk) ⟨by omega, by omega⟩ hr.ri (ins_ok hr.ri) hg hr.le hI.chk hE).mono fun e w' ⟨A2, m2, c2, Y, he, hp, ⟨k, hk, hn⟩, bb⟩ => ⟨A2, m2, c2, Y, he, hp, Lib.hid ?_, bb⟩
  subst ho2
  exact inv_add hI hwl hE hk hn
theorem ow_take {V : World} {A : Option Addr} {m c who oth : Nat} {L : List Nl} {own : List Int} {o1 o2 : Int} (hI : Inv L own 0) (h8 : own.length = 8) (hw : who < 8) (ho : oth < 8) (e1 : o1 = own.getD who 0) (e2 : o2 = own.getD oth 0) (hz1 : o1 = 0) (hz2 : ¬ o2 = 0) (hK : HK V) (hP : Pk V A m c L) :
    Calls Tryz.prog 15 #[.agg #[.slice A m c], .int .i64 o2] V fun e w' => ∃ A2 m2 c2 Y, e = .returned (.tuple #[.agg #[.slice A2 m2 c2], .int .i64 0]) ∧ Pk w' A2 m2 c2 Y ∧ Hid (Inv Y (own.set who o2) 0) ∧ Below V.heap.size V w' := by
  have hwl : who < own.length := by omega
  have hol : oth < own.length := by omega
  have hm : o2 ∈ own := by rw [e2, getD_own hol]; exact List.getElem_mem hol
  obtain ⟨k, hk⟩ := inv_there hI hm hz2
  exact (cb_take_ok V hK hP (by have := chk_len24 hI.chk; omega) (chk_short hI.chk) hI.chk hk).mono fun e w' ⟨A2, m2, c2, Y, he, hp, hn, bb⟩ => ⟨A2, m2, c2, Y, he, hp, Lib.hid (inv_take hI (by omega) hwl (by rw [← getD_own hwl, ← e1]; exact hz1) hm hz2 hk hn), bb⟩
theorem ow_give {V : World} {A : Option Addr} {m c who : Nat} {L : List Nl} {own : List Int} {o1 : Int} (hI : Inv L own 0) (h8 : own.length = 8) (hw : who < 8) (e1 : o1 = own.getD who 0) (hz1 : ¬ o1 = 0) (hK : HK V) (hP : Pk V A m c L) :
    Calls Tryz.prog 17 #[.agg #[.slice A m c], .int .i64 o1] V fun e w' => ∃ A2 m2 c2 Y G gm gc gone, e = .returned (.tuple #[.agg #[.slice A2 m2 c2], .slice G gm gc, .int .i64 0]) ∧ Pk w' A2 m2 c2 Y ∧ Ri7 w' w'.heap.size G gone ∧ Hid (gm = gone.length ∧ Inv Y (own.set who 0) 0 ∧ gm ≤ 1000000 ∧ ∀ id ∈ gone, (idR Y id).2 = false) ∧ Below V.heap.size V w' := by
  have hwl : who < own.length := by omega
  have e2 := e1.trans (getD_own hwl)
  obtain ⟨hg, hgo⟩ := inv_give hI (by omega) hwl (by rw [← e2]; exact hz1)
  rw [← e2] at hg hgo
  refine (give_any A m c L o1 V hK.k hP.po hP.len hP.cap (by have := chk_len24 hI.chk; have := hP.len; omega) (chk_short hI.chk)).mono fun e w' ⟨hb, h⟩ => ?_
  rcases h with ⟨h1, _⟩ | ⟨_, h1, _⟩ | ⟨_, _, X1, U, G, gm, gc, A2, m2, c2, L2, hn, hU, hz, hN, hL, rfl⟩
  · exact absurd hI.chk h1
  · rw [hg] at h1; cases h1
  · obtain ⟨i1, i2⟩ := hgo X1 U L2 hn hU hL
    have hNX : ∀ x ∈ X1, NmOk x.1 := fun x hx => by
      obtain ⟨y, hy, e⟩ := mem_of_names hn hx
      rw [← e]
      exact (hP.po.nr y hy).ok
    have hus := up_short hNX ((chkP_names hn).trans hI.chk) hU
    have hgl : (goneU U).length ≤ U.length := by unfold goneU; exact (List.takeWhile_sublist _).length_le
    have hlen := hz.len
    simp only [List.length_map] at hlen
    exact ⟨A2, m2, c2, L2, G, gm, gc, _, rfl, .of (w := V) hN, hz.ri, Lib.hid ⟨hz.len, i1, by omega, i2⟩, hb⟩
theorem ow_find {V : World} {A : Option Addr} {m c : Nat} {L : List Nl} {own : List Int} {id : Int} (hI : Inv L own 0) (hK : HK V) (hP : Pk V A m c L) (hno : (idR L id).2 = false) :
    Calls Tryz.prog 24 #[.agg #[.slice A m c], .int .i64 id] V fun e w' => ∃ r : Nl, e = .returned (.tuple #[.agg (ndC r), .bool false]) ∧ Below V.heap.size V w' :=
  (pfind_any A m c L id V hK.k hP.po hP.len hP.cap (by have := chk_len24 hI.chk; have := hP.len; omega) (chk_short hI.chk)).mono fun e w' ⟨r, l, b, he, h1, _, hb⟩ => by
    have h2 := h1 hI.chk
    rw [h2] at hno
    simp only at hno
    subst hno
    exact ⟨(r.1, l), he, hb⟩
theorem Ri7.turnN {V V' : World} {g : Nat} {A G : Option Addr} {m c : Nat} {l : List Int} (h : Ri7 V V.heap.size G l) (t : Turn g V V') (k : Blk V g #[.slice A m c] 24) : Ri7 V' V'.heap.size G l := fun j hj => by
  obtain ⟨b, off, e, h1, h2⟩ := h j hj
  have hne : b ≠ g := by
    rintro rfl
    rw [k.cell] at h2
    rcases hq : off + j with _ | n <;> rw [hq] at h2 <;> simp at h2
  exact ⟨b, off, e, Nat.lt_of_lt_of_le h1 t.size, (t.cell h1 hne).trans h2⟩
structure SQ (w : World) (g : Nat) (cs : Array Value) (V : World) : Prop where
  b : Below w.heap.size w V
  k : Blk V g cs 24
theorem ow_addno {V : World} {A : Option Addr} {m c who : Nat} {L : List Nl} {own : List Int} {x : Al} {o : Int} (hI : Inv L own 0) (h8 : own.length = 8) (hw : who < 8) (ho : o = own.getD who 0) (hK : HK V) (hP : Pk V A m c L) (hr : Ar V V.heap.size x) (hg : x.1.g.length ≤ 300) (hE : ¬ freshE L o x.1.g = 0) :
    Calls Tryz.prog 12 #[.agg #[.slice A m c], .int .i64 o, .slice x.2.1 x.1.g.length x.2.2] V fun e w' => ∃ A2 m2 c2 Y, e = .returned (.tuple #[.agg #[.slice A2 m2 c2], .int .i64 0, .int .i64 (freshE L o x.1.g)]) ∧ Pk w' A2 m2 c2 Y ∧ True ∧ Below V.heap.size V w' := by
  have hb := own_small hI who
  rw [← ho] at hb
  exact (cb_add_no V hK hP (by have := chk_len24 hI.chk; omega) (chk_short hI.chk) ⟨by omega, by omega⟩ hr.ri (ins_ok hr.ri) hg hr.le hI.chk hE).mono fun e w' ⟨he, bb⟩ => ⟨none, 0, 0, [], he, ⟨Po.nil, rfl, Nat.le_refl _⟩, trivial, bb⟩
set_option maxRecDepth 100000 in
set_option maxHeartbeats 16000000 in
theorem owned_law (A0 : Option Addr) (n0 c0 : Nat) (AL : List Al) (w : World) (hK : HK w) (hA : Aa w w.heap.size A0 AL) (hAr : ∀ x ∈ AL, Ar w w.heap.size x) (hn0 : n0 = AL.length) (hn6 : n0 ≤ 9223372036854775807) :
    Calls Tryz.prog 7 #[.slice A0 n0 c0] w fun e w' => e = .returned (.bool true) ∧ Below w.heap.size w w' := by
  have hmm := @run_makeMap Tryz.prog
  have HMM := Lib.hid hmm
  clear hmm
  have HKW := Lib.hid (fun V (h : Below w.heap.size w V) => hK.below h (Nat.le_refl _))
  have HWK := Lib.hid (wakes9_any w hK)
  have HN := Lib.hid hn0
  clear hn0
  go_enter Tryz.func7, Tryz.ntmps7
  go_wp2_with (refine HWK.out.mono ?_; clear HWK; rintro e w1 ⟨rfl, b1⟩)
  have I0 : OwI w w1.heap.size none 0 0 [] (List.replicate 8 0) ((w1.alloc (.cells #[.slice none 0 0] 24)).alloc (.cells #[.int .i64 0, .int .i64 0, .int .i64 0, .int .i64 0, .int .i64 0, .int .i64 0, .int .i64 0, .int .i64 0] 56)) :=
    ⟨(b1.alloc b1.size _).alloc (by simp; have := b1.size; omega) _, (Blk.new w1 _ _).alloc _, Blk.new_ (w1.alloc (.cells #[.slice none 0 0] 24)) _ _ (by simp), ⟨Po.nil, rfl, Nat.le_refl _⟩, b1.size⟩
  have hb1 := b1.size
  clear b1
  generalize w1.heap.size = g3 at *
  go_loopw [32] (fun iv wr' => ∃ (k : Nat) (wr : World) (A : Option Addr) (m c : Nat) (L : List Nl) (own : List Int), wr = wr' ∧ k ≤ n0 ∧ iv = .int .i64 k ∧ Hid (OwI w g3 A m c L own wr) ∧ Hid (Inv L own 0 ∧ own.length = 8)) (fun iv _ => n0 - (intOf iv).toNat)
  case atStart => exact ⟨0, _, none, 0, 0, [], List.replicate 8 0, rfl, Nat.zero_le _, rfl, Lib.hid I0, Lib.hid ⟨inv_nil 8, rfl⟩⟩
  case round =>
    clear I0
    obtain ⟨k, wr, A, m, c, L, own, hwr, hk, rfl, HI, HV⟩ := hrel
    subst hwr
    by_cases hlt : k < n0
    · have hlt' : (k : Int) < (n0 : Int) := by omega
      have hkl : k < AL.length := by have := HN.out; omega
      obtain ⟨b, off, rfl, hb, hc⟩ := (hA.below HI.out.b (Nat.le_refl _)) k hkl
      have hax : Ar w w.heap.size (AL.getD k al0) := by
        rw [show AL.getD k al0 = AL[k] by simp [List.getD, hkl]]
        exact hAr _ (List.getElem_mem hkl)
      clear hkl
      generalize AL.getD k al0 = x at hc hax
      have hs4 : (acC x).size = 4 := ac_size x
      cases h60 : ((k : Int) == 60)
      · cases hg : decide (300 < x.1.g.length)
        · have hg1 : decide ((300 : Int) < (x.1.g.length : Int)) = false := by have := of_decide_eq_false hg; simp; omega
          have HG : Hid (x.1.g.length ≤ 300) := Lib.hid (by have := of_decide_eq_false hg; omega)
          clear hg
          go_wp2_with (first
            | (refine wpList_load_mid rfl 58 (.tmp 35) rfl b (off + k * 4) rfl (acC x).toList _ hc Tryz.underlying58 rfl (ac_infL x) ?_)
            | (refine wpList_store_blk rfl 58 (.tmp 6) (.tmp 36) rfl wr.heap.size (acC al0) (acC x) 58 rfl rfl (Blk.new _ _ _) rfl (ac_inf x) (ac_one x) ?_
               intro W1 k6 n6
               have bb : Below wr.heap.size wr W1 := newP rfl n6
               have I1 := HI.out.step bb
               have q63 : W1.cell? ⟨wr.heap.size, 3, none⟩ = some (.slice x.2.1 x.1.g.length x.2.2) := k6.cell 3
               clear n6))
          have J1 : OwA w g3 A m c L own wr.heap.size x W1 := ⟨I1, k6, (hax.below I1.b (Nat.le_refl _)).more I1.b.size⟩
          have hg36 : g3 + 1 < wr.heap.size := HI.out.k4.lt
          clear I1 k6 q63 bb HI hc hax
          generalize wr.heap.size = g6 at *
          have JD := J1.step (Below.refl _ W1).drew
          clear J1
          refine region_cutP ?_
          refine wp_region_held_drew (S := OwA w g3 A m c L own g6 x) (by kernel_rfl) JD (fun _ => ?_)
          generalize W1.drew = W2 at JD ⊢
          refine wpAnyH_take (i := 0) (v := .pointer (some ⟨g6, 1, none⟩)) rfl (by kernel_rfl) (by kernel_rfl) (by kernel_rfl) (fun _ _ _ h => nomatch h.1) (.inl ⟨by rfl, fun V hV => by go_simp⟩) JD ?_
          try simp only [Act.put, List.getElem_toArray, List.getElem_cons_zero, List.getElem_cons_succ, List.setIfInBounds_toArray, List.set_cons_zero, List.set_cons_succ]
          refine wpAnyH_take (i := 1) (v := .int .i64 x.1.w) rfl (by kernel_rfl) (by kernel_rfl) (by kernel_rfl) (fun _ _ _ h => nomatch h.1) (.inl ⟨by rfl, fun V hV => by have c0 : V.cell? ⟨g6, 1, none⟩ = some (.int .i64 x.1.w) := hV.a.cell 1; go_simp⟩) JD ?_
          try simp only [Act.put, List.getElem_toArray, List.getElem_cons_zero, List.getElem_cons_succ, List.setIfInBounds_toArray, List.set_cons_zero, List.set_cons_succ]
          refine wpAnyH_take (i := 2) (v := .int .i64 (max x.1.w 0)) rfl (by kernel_rfl) (by kernel_rfl) (by kernel_rfl) (fun _ _ _ h => nomatch h.1) (.inl ⟨by rfl, fun V hV => by go_simp⟩) JD ?_
          try simp only [Act.put, List.getElem_toArray, List.getElem_cons_zero, List.getElem_cons_succ, List.setIfInBounds_toArray, List.set_cons_zero, List.set_cons_succ]
          refine wpAnyH_take (i := 3) (v := .int .i64 (whN x.1.w)) rfl (by kernel_rfl) (by kernel_rfl) (by kernel_rfl) (fun _ _ _ h => nomatch h.1) (.inl ⟨by rfl, fun V hV => by have c0 := wh_val x.1.w; go_simp⟩) JD ?_
          try simp only [Act.put, List.getElem_toArray, List.getElem_cons_zero, List.getElem_cons_succ, List.setIfInBounds_toArray, List.set_cons_zero, List.set_cons_succ]
          refine wpAnyH_take (i := 4) (v := .pointer (some ⟨g6, 2, none⟩)) rfl (by kernel_rfl) (by kernel_rfl) (by kernel_rfl) (fun _ _ _ h => nomatch h.1) (.inl ⟨by rfl, fun V hV => by go_simp⟩) JD ?_
          try simp only [Act.put, List.getElem_toArray, List.getElem_cons_zero, List.getElem_cons_succ, List.setIfInBounds_toArray, List.set_cons_zero, List.set_cons_succ]
          refine wpAnyH_take (i := 5) (v := .int .i64 x.1.o) rfl (by kernel_rfl) (by kernel_rfl) (by kernel_rfl) (fun _ _ _ h => nomatch h.1) (.inl ⟨by rfl, fun V hV => by have c0 : V.cell? ⟨g6, 2, none⟩ = some (.int .i64 x.1.o) := hV.a.cell 2; go_simp⟩) JD ?_
          try simp only [Act.put, List.getElem_toArray, List.getElem_cons_zero, List.getElem_cons_succ, List.setIfInBounds_toArray, List.set_cons_zero, List.set_cons_succ]
          refine wpAnyH_take (i := 6) (v := .int .i64 (max x.1.o 0)) rfl (by kernel_rfl) (by kernel_rfl) (by kernel_rfl) (fun _ _ _ h => nomatch h.1) (.inl ⟨by rfl, fun V hV => by go_simp⟩) JD ?_
          try simp only [Act.put, List.getElem_toArray, List.getElem_cons_zero, List.getElem_cons_succ, List.setIfInBounds_toArray, List.set_cons_zero, List.set_cons_succ]
          refine wpAnyH_take (i := 7) (v := .int .i64 (whN x.1.o)) rfl (by kernel_rfl) (by kernel_rfl) (by kernel_rfl) (fun _ _ _ h => nomatch h.1) (.inl ⟨by rfl, fun V hV => by have c0 := wh_val x.1.o; go_simp⟩) JD ?_
          try simp only [Act.put, List.getElem_toArray, List.getElem_cons_zero, List.getElem_cons_succ, List.setIfInBounds_toArray, List.set_cons_zero, List.set_cons_succ]
          refine wpAnyH_ready (rs := [8]) (by kernel_rfl) (by simp) ?_
          refine AllReadyH.cons rfl (fun K hK => ?_) AllReadyH.nil
          try simp only [Act.put, List.getElem_toArray, List.getElem_cons_zero, List.getElem_cons_succ, List.setIfInBounds_toArray, List.set_cons_zero, List.set_cons_succ]
          go_simp
          refine hK.out _ _ JD (fun _ => ?_)
          clear hK K
          try simp only [Act.put, List.getElem_toArray, List.getElem_cons_zero, List.getElem_cons_succ, List.setIfInBounds_toArray, List.set_cons_zero, List.set_cons_succ]
          refine wpAnyH_ready (rs := [9]) (by kernel_rfl) (by simp) ?_
          refine AllReadyH.cons rfl (fun K hK => ?_) AllReadyH.nil
          try simp only [Act.put, List.getElem_toArray, List.getElem_cons_zero, List.getElem_cons_succ, List.setIfInBounds_toArray, List.set_cons_zero, List.set_cons_succ]
          go_simp
          refine hK.out _ _ JD (fun _ => ?_)
          clear hK K
          try simp only [Act.put, List.getElem_toArray, List.getElem_cons_zero, List.getElem_cons_succ, List.setIfInBounds_toArray, List.set_cons_zero, List.set_cons_succ]
          refine wpAnyH_done (by kernel_rfl) ?_ _
          refine ⟨rfl, ?_⟩
          have q60 : W2.cell? ⟨g6, 0, none⟩ = some (.int .i64 x.1.k) := JD.a.cell 0
          have hwho := whN_lt x.1.w
          have hoth := whN_lt x.1.o
          obtain ⟨who, hwh⟩ : ∃ n, n = whN x.1.w := ⟨_, rfl⟩
          obtain ⟨oth, hot⟩ : ∃ n, n = whN x.1.o := ⟨_, rfl⟩
          rw [← hwh] at hwho ⊢
          rw [← hot] at hoth ⊢
          clear hwh hot
          have hwho8 : (who : Int) < 8 := by omega
          have hoth8 : (oth : Int) < 8 := by omega
          go_upto_block 2 with fail
          go_cut [] from 33 to 193 (fun wx => ∃ (A' : Option Addr) (m' c' : Nat) (L' : List Nl) (own' : List Int), Hid (OwI w g3 A' m' c' L' own' wx) ∧ Hid (Inv L' own' 0 ∧ own'.length = 8))
          case rest => as_aux_lemma =>
            obtain ⟨A', m', c', L', own', HI', HV'⟩ := hcut
            clear JD q60 HV
            have hmm := HMM.out
            have k4' := HI'.out.k4.alloc (.map #[] 0)
            have hoi := ow_inf HV'.out.2
            go_wp2_with (refine wpListG_load (by rfl) 56 (.tmp 4) rfl (g3 + 1) rfl 56 (owC own') _ k4' Tryz.underlying56 rfl hoi ?_)
            have M0 : OwM w g3 A' m' c' L' own' wc.heap.size 0 (.map []) (wc.alloc (.map #[] 0)) := ⟨HI'.out.step ((Below.refl _ wc).alloc (Nat.le_refl _) _), World.ownsMap_made wc Tryz.prog 3 (plainElem Tryz.prog 3), HI'.out.k4.lt⟩
            clear hmm k4' hoi HI'
            generalize wc.heap.size = gm at M0 ⊢
            generalize wc.alloc (.map #[] 0) = wm at M0 ⊢
            have hown8 := HV'.out.2
            go_loopw [141] (fun iv wr' => ∃ (j : Nat) (wr : World) (D : DataW Unit) (ks : List Int), wr = wr' ∧ j ≤ 8 ∧ iv = .int .i64 j ∧ Hid (OwM w g3 A' m' c' L' own' gm j D wr) ∧ Hid (TabN D (cntG (own'.take j) []) ks)) (fun iv _ => 8 - (intOf iv).toNat)
            case atStart => exact ⟨0, _, .map [], [], rfl, by omega, rfl, Lib.hid M0, Lib.hid (by have e : cntG (own'.take 0) [] = fun _ => 0 := (by funext x; simp [cntG, holdN, kidsN]); rw [e]; exact TabN.empty)⟩
            case round =>
              clear M0
              obtain ⟨j, wr, D, ks, hwr, hj, rfl, HM, HT⟩ := hrel
              subst hwr
              by_cases hj8 : j < 8
              · have hj8' : (j : Int) < 8 := by omega
                have hix := run_idx8 hj8 hown8 wr
                have hjo : j < own'.length := by omega
                have hel := ow_get hjo
                have hbd := own_small HV'.out.1 j
                have hge : own'.getD j 0 = own'[j] := by simp [List.getD, hjo]
                have HGE := Lib.hid hge
                clear hge
                generalize own'.getD j 0 = o at hel hbd HGE hix
                clear hel
                cases ho : (o != 0)
                · go_wp2_with fail
                  go_roundw
                  case rel => exact ⟨j + 1, _, D, ks, rfl, by omega, by go_num, Lib.hid ⟨HM.out.i, HM.out.m.mono (by omega), HM.out.lt⟩, Lib.hid (by rw [cntG_own0 hjo (by rw [← HGE.out]; simpa using ho)]; exact HT.out)⟩
                  case measure => simp [intOf]; omega
                · have hown := HM.out.m
                  have hkey := key_intN (a := o) (by omega)
                  have hat0 := HT.out.at_ o
                  have hcb : cntG (own'.take j) [] o ≤ 8 := by
                    unfold cntG
                    split
                    · omega
                    · have := hold_le (own'.take j) o
                      have h9 : kidsN [] o = 0 := rfl
                      rw [List.length_take] at this
                      omega
                  have HPT := Lib.hid (HT.out.put o)
                  have HO := Lib.hid ho
                  generalize hgc : cntG (own'.take j) [] o = cn at hat0 hcb HPT
                  have HGC := Lib.hid hgc
                  clear hgc
                  go_wp2_with (first
                    | (at_lookup; refine wpList_lookup_own_int _ rfl _ _ 59 rfl 3 3 .i64 (int_keyed Tryz.underlying3) Tryz.underlying59 Tryz.underlying3 (zero_intN _) gm _ _ rfl hown _ _ rfl hkey ?_; intro cc hat hwc; have hcv := int_of_litN (hat.symm.trans hat0); subst hcv)
                    | (at_mapUpdate; refine wpList_mapUpdate_own _ rfl _ _ _ 59 rfl 3 3 (int_keyed Tryz.underlying3) Tryz.underlying59 _ gm _ _ rfl hown (by unfold maxLen; omega) _ _ _ rfl rfl hkey _ [] (plainElem_int Tryz.underlying3 (WalkArith.wf_i64 (by omega))) ?_; intro w6 hown6 hgrow6))
                  go_roundw
                  case rel =>
                    refine ⟨j + 1, _, _, (if o ∈ ks then ks else o :: ks), rfl, by omega, by go_num, Lib.hid (HM.out.put hown6 hgrow6), Lib.hid ?_⟩
                    have h8 := HPT.out
                    have h7 : (fun x => if x = o then cn + 1 else cntG (own'.take j) [] x) = cntG (own'.take (j + 1)) [] := by
                      rw [← HGC.out, HGE.out]
                      exact cntG_own hjo (by rw [← HGE.out]; simpa using HO.out)
                    rw [h7] at h8
                    exact h8
                  case measure => simp [intOf]; omega
              · obtain rfl : j = 8 := by omega
                have ht8 : own'.take 8 = own' := List.take_of_length_le (by omega)
                rw [ht8] at HT
                have hzt : cntG own' [] = cntG own' (L'.take 0) := rfl
                rw [hzt] at HT
                have HC0 := Lib.hid (HV'.out.1.chk)
                have hm24 : m' ≤ 24 := by have h1 := HM.out.i.p.len; have h2 := chk_len24 HC0.out; omega
                have HLN := Lib.hid HM.out.i.p.len
                have q3 : wr.cell? ⟨g3, 0, none⟩ = some (.slice A' m' c') := HM.out.i.k3.cell 0
                go_wp2_with fail
                go_loopw [154] (fun iv wr' => ∃ (j : Nat) (wr : World) (D : DataW Unit) (ks : List Int), wr = wr' ∧ j ≤ m' ∧ iv = .int .i64 j ∧ Hid (OwM w g3 A' m' c' L' own' gm (8 + j) D wr) ∧ Hid (TabN D (cntG own' (L'.take j)) ks)) (fun iv _ => m' - (intOf iv).toNat)
                case atStart => exact ⟨0, _, D, ks, rfl, Nat.zero_le _, rfl, HM, HT⟩
                case round =>
                  clear HM HT q3 D ks hzt ht8
                  obtain ⟨j, wr, D, ks, hwr, hj, rfl, HM, HT⟩ := hrel
                  subst hwr
                  by_cases hjm : j < m'
                  · have hjm' : (j : Int) < (m' : Int) := by omega
                    have hjl : j < L'.length := by have := HLN.out; omega
                    obtain ⟨b2, off2, hA2, hb2, hc2⟩ := HM.out.i.p.po.at_ j hjl
                    subst hA2
                    have hge : L'.getD j nl0 = L'[j] := by simp [List.getD, hjl]
                    have hpb : 0 ≤ (L'.getD j nl0).1.p ∧ (L'.getD j nl0).1.p ≤ 24 := by
                      have hx := getD_mem hjl
                      by_cases h0 : (L'.getD j nl0).1.p = 0
                      · omega
                      · obtain ⟨y, hy, e2⟩ := parent_in HC0.out hx h0
                        have h1 := no_zero HC0.out y hy
                        have h2 := id_le24 (chk_std HC0.out).1 y hy
                        omega
                    have HGE := Lib.hid hge
                    clear hge
                    generalize L'.getD j nl0 = y at hc2 hpb HGE
                    have hs7 : (ndC y).size = 7 := nd_size y
                    cases ho : (y.1.p != 0)
                    · go_wp2_with (first
                        | (refine wpList_load_mid rfl 46 (.tmp 156) rfl b2 (off2 + j * 7) rfl (ndC y).toList _ hc2 Tryz.underlying46 rfl (nd_infL y) ?_)
                        | (refine wpList_store_blk rfl 46 (.tmp 25) (.tmp 157) rfl wr.heap.size (ndC nl0) (ndC y) 46 rfl rfl (Blk.new _ _ _) rfl (nd_inf y) (nd_one y) ?_
                           intro W5 k25 n25
                           have bb := newP rfl n25
                           have M5 := HM.out.step bb
                           have q25 : W5.cell? ⟨wr.heap.size, 1, none⟩ = some (.int .i64 y.1.p) := k25.cell 1
                           clear n25 bb))
                      go_roundw
                      case rel => (repeat apply Exists.intro); exact ⟨⟨j + 1, _, D, ks, rfl, by omega, by go_num, Lib.hid ⟨M5.i, M5.m.mono (by omega), M5.lt⟩, Lib.hid (by rw [cntG_kid0 hjl (by rw [← HGE.out]; simpa using ho)]; exact HT.out)⟩, rfl⟩
                      case measure => simp [intOf]; omega
                    · have hkey := key_intN (a := y.1.p) (by omega)
                      have hat0 := HT.out.at_ y.1.p
                      have hcb : cntG own' (L'.take j) y.1.p ≤ 100 := by
                        unfold cntG
                        split
                        · omega
                        · have h1 := hold_le own' y.1.p
                          have h2 := kids_le (L'.take j) y.1.p
                          rw [List.length_take] at h2
                          omega
                      have HPT := Lib.hid (HT.out.put y.1.p)
                      have HO := Lib.hid ho
                      generalize hgc : cntG own' (L'.take j) y.1.p = cn at hat0 hcb HPT
                      have HGC := Lib.hid hgc
                      clear hgc
                      go_wp2_with (first
                        | (refine wpList_load_mid rfl 46 (.tmp 156) rfl b2 (off2 + j * 7) rfl (ndC y).toList _ hc2 Tryz.underlying46 rfl (nd_infL y) ?_)
                        | (refine wpList_store_blk rfl 46 (.tmp 25) (.tmp 157) rfl wr.heap.size (ndC nl0) (ndC y) 46 rfl rfl (Blk.new _ _ _) rfl (nd_inf y) (nd_one y) ?_
                           intro W5 k25 n25
                           have bb := newP rfl n25
                           have M5 := HM.out.step bb
                           have hown := M5.m
                           have q25 : W5.cell? ⟨wr.heap.size, 1, none⟩ = some (.int .i64 y.1.p) := k25.cell 1
                           clear n25 bb)
                        | (at_lookup; refine wpList_lookup_own_int _ rfl _ _ 59 rfl 3 3 .i64 (int_keyed Tryz.underlying3) Tryz.underlying59 Tryz.underlying3 (zero_intN _) gm _ _ rfl hown _ _ rfl hkey ?_; intro cc hat hwc; have hcv := int_of_litN (hat.symm.trans hat0); subst hcv)
                        | (at_mapUpdate; refine wpList_mapUpdate_own _ rfl _ _ _ 59 rfl 3 3 (int_keyed Tryz.underlying3) Tryz.underlying59 _ gm _ _ rfl hown (by unfold maxLen; omega) _ _ _ rfl rfl hkey _ [] (plainElem_int Tryz.underlying3 (WalkArith.wf_i64 (by omega))) ?_; intro w6 hown6 hgrow6))
                      go_roundw
                      case rel =>
                        repeat apply Exists.intro
                        refine ⟨⟨j + 1, _, _, (if y.1.p ∈ ks then ks else y.1.p :: ks), rfl, by omega, by go_num, Lib.hid (M5.put hown6 hgrow6), Lib.hid ?_⟩, rfl⟩
                        have h8 := HPT.out
                        have h7 : (fun x => if x = y.1.p then cn + 1 else cntG own' (L'.take j) x) = cntG own' (L'.take (j + 1)) := by
                          rw [← HGC.out, HGE.out]
                          exact cntG_kid hjl (by rw [← HGE.out]; simpa using HO.out)
                        rw [h7] at h8
                        exact h8
                      case measure => simp [intOf]; omega
                  · obtain rfl : j = m' := by omega
                    have htm : L'.take j = L' := List.take_of_length_le (by have := HLN.out; omega)
                    rw [htm] at HT
                    clear htm
                    have HCK := Lib.hid (cb_check wr (HKW.out _ HM.out.i.b) HM.out.i.p (by have := HLN.out; omega))
                    rw [HC0.out] at HCK
                    have HCT := Lib.hid (HT.out.count HV'.out.1)
                    go_wp2_with (first
                      | (refine wpListG_load (by rfl) 24 (.tmp 3) rfl g3 rfl 24 #[.slice A' j c'] _ HM.out.i.k3 Tryz.underlying24 rfl (po_info _ _ _) ?_)
                      | (refine HCK.out.mono ?_
                         clear HCK
                         rintro e w7 ⟨rfl, bb⟩
                         have M7 := HM.out.step bb
                         have hlen := M7.m.len Tryz.underlying59 3
                         rw [HCT.out, ← HLN.out] at hlen
                         have q37 : w7.cell? ⟨g3, 0, none⟩ = some (.slice A' j c') := M7.i.k3.cell 0
                         clear bb
                         go_wp2_with fail))
                    clear hlen q37 HM
                    go_loopw [181] (fun iv wr' => ∃ (i : Nat) (wr : World), wr = wr' ∧ i ≤ j ∧ iv = .int .i64 i ∧ Hid (OwM w g3 A' j c' L' own' gm (8 + j) D wr)) (fun iv _ => j - (intOf iv).toNat)
                    case atStart => exact ⟨0, _, rfl, Nat.zero_le _, rfl, Lib.hid M7⟩
                    case round =>
                      clear M7
                      obtain ⟨i, wr, hwr, hi, rfl, HM⟩ := hrel
                      subst hwr
                      by_cases hij : i < j
                      · have hij' : (i : Int) < (j : Int) := by omega
                        have hil : i < L'.length := by have := HLN.out; omega
                        obtain ⟨b2, off2, hA2, hb2, hc2⟩ := HM.out.i.p.po.at_ i hil
                        subst hA2
                        have hcn := HV'.out.1.cnt2 _ (getD_mem hil)
                        have hib : 0 ≤ (L'.getD i nl0).1.i ∧ (L'.getD i nl0).1.i ≤ 24 := by
                          have h1 := no_zero HC0.out _ (getD_mem hil)
                          have h2 := id_le24 (chk_std HC0.out).1 _ (getD_mem hil)
                          omega
                        generalize L'.getD i nl0 = y at hc2 hcn hib
                        have hs7 : (ndC y).size = 7 := nd_size y
                        have hkey := key_intN (a := y.1.i) (by omega)
                        have hat0 := HT.out.at_ y.1.i
                        generalize cntG own' L' y.1.i = cn at hat0 hcn
                        have hcmp : ((cn : Int) != y.1.k) = false := by rw [hcn]; simp
                        clear hcn
                        go_wp2_with (first
                          | (refine wpList_load_mid rfl 46 (.tmp 183) rfl b2 (off2 + i * 7) rfl (ndC y).toList _ hc2 Tryz.underlying46 rfl (nd_infL y) ?_)
                          | (refine wpList_store_blk rfl 46 (.tmp 27) (.tmp 184) rfl wr.heap.size (ndC nl0) (ndC y) 46 rfl rfl (Blk.new _ _ _) rfl (nd_inf y) (nd_one y) ?_
                             intro W5 k27 n27
                             have bb := newP rfl n27
                             have M5 := HM.out.step bb
                             have hown := M5.m
                             have q270 : W5.cell? ⟨wr.heap.size, 0, none⟩ = some (.int .i64 y.1.i) := k27.cell 0
                             have q274 : W5.cell? ⟨wr.heap.size, 4, none⟩ = some (.int .i64 y.1.k) := k27.cell 4
                             clear n27 bb)
                          | (at_lookup; refine wpList_lookup_own_int _ rfl _ _ 59 rfl 3 3 .i64 (int_keyed Tryz.underlying3) Tryz.underlying59 Tryz.underlying3 (zero_intN _) gm _ _ rfl hown _ _ rfl hkey ?_; intro cc hat hwc; have hcv := int_of_litN (hat.symm.trans hat0); subst hcv))
                        go_roundw
                        case rel => exact ⟨i + 1, _, rfl, by omega, by go_num, Lib.hid M5⟩
                        case measure => simp [intOf]; omega
                      · obtain rfl : i = j := by omega
                        go_wp2_with fail
                        go_roundw
                        case rel => exact ⟨k + 1, _, _, i, c', L', own', rfl, by omega, by go_num, Lib.hid HM.out.i, HV'⟩
                        case measure => simp [intOf]; omega
          obtain ⟨hkd, hk3⟩ := kd_val x.1.k
          rw [← Go.IntWalk.wrap64_in (x.1.k.tmod 3 + 3) (by have h1 := Int.tmod_lt_of_pos x.1.k (show (0 : Int) < 3 by decide); have h2 := Int.lt_tmod_of_pos x.1.k (show (0 : Int) < 3 by decide); omega)] at hkd
          have qw := JD.i.ow (k := who) (by rw [HV.out.2]; exact hwho)
          have qo := JD.i.ow (k := oth) (by rw [HV.out.2]; exact hoth)
          obtain ⟨ow1, how1⟩ : ∃ v, v = own.getD who 0 := ⟨_, rfl⟩
          obtain ⟨ow2, how2⟩ : ∃ v, v = own.getD oth 0 := ⟨_, rfl⟩
          rw [← how1] at qw
          rw [← how2] at qo
          have HW1 := Lib.hid how1
          have HW2 := Lib.hid how2
          clear how1 how2
          obtain ⟨kd, hkn⟩ : ∃ n, n = kdN x.1.k := ⟨_, rfl⟩
          rw [← hkn] at hkd hk3
          clear hkn
          obtain rfl | rfl | rfl : kd = 0 ∨ kd = 1 ∨ kd = 2 := by omega
          · as_aux_lemma =>
              by_cases hE : freshE L ow1 x.1.g = 0
              · have HC := Lib.hid (fun V (hV : OwA w g3 A m c L own g6 x V) => ow_add (who := who) HV.out.1 HV.out.2 hwho HW1.out (HKW.out V hV.i.b) hV.i.p hV.r HG.out hE)
                generalize (freshN L ow1 x.1.g).i = idn at HC
                clear hE
                go_wp2_with fail
                go_cut [9, 10, 11] from 33 to 193 (fun s9 s10 s11 wx => ∃ (g9 : Nat) (A2 : Option Addr) (m2 c2 : Nat) (Y : List Nl), s9 = .pointer (some ⟨g9, 0, none⟩) ∧ s10 = .int .i64 idn ∧ s11 = .int .i64 0 ∧ Hid (OwA w g3 A m c L own g6 x wx) ∧ Hid (Blk wx g9 #[.slice A2 m2 c2] 24) ∧ Hid (Pk wx A2 m2 c2 Y) ∧ g6 < g9 ∧ Hid (Inv Y (own.set who idn) 0))
                case first =>
                  skip
                  have JE := JD.step (Below.refl _ W2).drew
                  refine region_cutP ?_
                  refine wp_region_held_drew (S := OwA w g3 A m c L own g6 x) (by kernel_rfl) JE (fun _ => ?_)
                  generalize W2.drew = V0 at JE ⊢
                  refine wpAnyH_take (i := 0) (v := .agg #[.slice A m c]) rfl (by kernel_rfl) (by kernel_rfl) (by kernel_rfl) (fun _ _ _ h => nomatch h.1) (yieldsIf_blk (by rfl) 24 (.tmp 3) rfl g3 rfl #[.slice A m c] 24 _ (fun _ h => h.i.k3) Tryz.underlying24 rfl rfl) JE ?_
                  try simp only [Act.put, List.getElem_toArray, List.getElem_cons_zero, List.getElem_cons_succ, List.setIfInBounds_toArray, List.set_cons_zero, List.set_cons_succ]
                  refine wpAnyH_take (i := 1) (v := .int .i64 who) rfl (by kernel_rfl) (by kernel_rfl) (by kernel_rfl) (fun _ _ _ h => nomatch h.1) (.inl ⟨by rfl, fun V hV => by go_simp⟩) JE ?_
                  try simp only [Act.put, List.getElem_toArray, List.getElem_cons_zero, List.getElem_cons_succ, List.setIfInBounds_toArray, List.set_cons_zero, List.set_cons_succ]
                  refine wpAnyH_take (i := 2) (v := .pointer (some ⟨g3 + 1, who, none⟩)) rfl (by kernel_rfl) (by kernel_rfl) (by kernel_rfl) (fun _ _ _ h => nomatch h.1) (.inl ⟨by rfl, fun V hV => by go_simp⟩) JE ?_
                  try simp only [Act.put, List.getElem_toArray, List.getElem_cons_zero, List.getElem_cons_succ, List.setIfInBounds_toArray, List.set_cons_zero, List.set_cons_succ]
                  refine wpAnyH_take (i := 3) (v := .int .i64 ow1) rfl (by kernel_rfl) (by kernel_rfl) (by kernel_rfl) (fun _ _ _ h => nomatch h.1) (.inl ⟨by rfl, fun V hV => by have c0 : V.cell? ⟨g3 + 1, who, none⟩ = some (.int .i64 ow1) := (by have h0 := hV.i.ow (k := who) (by rw [HV.out.2]; exact hwho); rw [← HW1.out] at h0; exact h0); go_simp⟩) JE ?_
                  try simp only [Act.put, List.getElem_toArray, List.getElem_cons_zero, List.getElem_cons_succ, List.setIfInBounds_toArray, List.set_cons_zero, List.set_cons_succ]
                  refine wpAnyH_take (i := 4) (v := .pointer (some ⟨g6, 3, none⟩)) rfl (by kernel_rfl) (by kernel_rfl) (by kernel_rfl) (fun _ _ _ h => nomatch h.1) (.inl ⟨by rfl, fun V hV => by go_simp⟩) JE ?_
                  try simp only [Act.put, List.getElem_toArray, List.getElem_cons_zero, List.getElem_cons_succ, List.setIfInBounds_toArray, List.set_cons_zero, List.set_cons_succ]
                  refine wpAnyH_take (i := 5) (v := .slice x.2.1 x.1.g.length x.2.2) rfl (by kernel_rfl) (by kernel_rfl) (by kernel_rfl) (fun _ _ _ h => nomatch h.1) (.inl ⟨by rfl, fun V hV => by have c0 : V.cell? ⟨g6, 3, none⟩ = some (.slice x.2.1 x.1.g.length x.2.2) := hV.a.cell 3; go_simp⟩) JE ?_
                  try simp only [Act.put, List.getElem_toArray, List.getElem_cons_zero, List.getElem_cons_succ, List.setIfInBounds_toArray, List.set_cons_zero, List.set_cons_succ]
                  refine wpAnyH_ready (rs := [6, 11]) (by kernel_rfl) (by simp) ?_
                  refine AllReadyH.cons rfl (fun K hK => ?_) (AllReadyH.cons rfl (fun K hK => ?_) AllReadyH.nil)
                  · skip
                    try simp only [Act.put, List.getElem_toArray, List.getElem_cons_zero, List.getElem_cons_succ, List.setIfInBounds_toArray, List.set_cons_zero, List.set_cons_succ]
                    go_simp
                    refine (HC.out V0 JE).mono ?_
                    rintro e V1 ⟨A2, m2, c2, Y, rfl, hP, hF, bb⟩
                    have J1 := JE.step bb
                    clear bb
                    go_wp2_with fail
                    refine hK.out _ _ J1 (fun _ => ?_)
                    clear hK K
                    try simp only [Act.put, List.getElem_toArray, List.getElem_cons_zero, List.getElem_cons_succ, List.setIfInBounds_toArray, List.set_cons_zero, List.set_cons_succ]
                    refine wpAnyH_take (i := 7) (v := .tuple #[.agg #[.slice A2 m2 c2], .int .i64 idn, .int .i64 0]) rfl (by kernel_rfl) (by kernel_rfl) (by kernel_rfl) (fun _ _ _ h => nomatch h.1) (.inl ⟨by rfl, fun V hV => by go_simp⟩) J1 ?_
                    try simp only [Act.put, List.getElem_toArray, List.getElem_cons_zero, List.getElem_cons_succ, List.setIfInBounds_toArray, List.set_cons_zero, List.set_cons_succ]
                    refine wpAnyH_take (i := 8) (v := .agg #[.slice A2 m2 c2]) rfl (by kernel_rfl) (by kernel_rfl) (by kernel_rfl) (fun _ _ _ h => nomatch h.1) (.inl ⟨by rfl, fun V hV => by go_simp⟩) J1 ?_
                    try simp only [Act.put, List.getElem_toArray, List.getElem_cons_zero, List.getElem_cons_succ, List.setIfInBounds_toArray, List.set_cons_zero, List.set_cons_succ]
                    refine wpAnyH_take (i := 9) (v := .int .i64 idn) rfl (by kernel_rfl) (by kernel_rfl) (by kernel_rfl) (fun _ _ _ h => nomatch h.1) (.inl ⟨by rfl, fun V hV => by go_simp⟩) J1 ?_
                    try simp only [Act.put, List.getElem_toArray, List.getElem_cons_zero, List.getElem_cons_succ, List.setIfInBounds_toArray, List.set_cons_zero, List.set_cons_succ]
                    refine wpAnyH_take (i := 10) (v := .int .i64 0) rfl (by kernel_rfl) (by kernel_rfl) (by kernel_rfl) (fun _ _ _ h => nomatch h.1) (.inl ⟨by rfl, fun V hV => by go_simp⟩) J1 ?_
                    try simp only [Act.put, List.getElem_toArray, List.getElem_cons_zero, List.getElem_cons_succ, List.setIfInBounds_toArray, List.set_cons_zero, List.set_cons_succ]
                    refine wpAnyH_ready (rs := [11]) (by kernel_rfl) (by simp) ?_
                    refine AllReadyH.cons rfl (fun K hK => ?_) AllReadyH.nil
                    try simp only [Act.put, List.getElem_toArray, List.getElem_cons_zero, List.getElem_cons_succ, List.setIfInBounds_toArray, List.set_cons_zero, List.set_cons_succ]
                    go_simp
                    have bb : Below V1.heap.size V1 (V1.alloc (.cells #[.slice none 0 0] 24)) := (Below.refl _ _).alloc (Nat.le_refl _) _
                    have k9 := Blk.new V1 #[.slice none 0 0] 24
                    have hg69 : g6 < V1.heap.size := J1.a.lt
                    have J2 := J1.step bb
                    have hP := hP.below bb
                    show K _ (V1.alloc (.cells #[.slice none 0 0] 24))
                    generalize V1.alloc (.cells #[.slice none 0 0] 24) = V2 at bb k9 J2 hP ⊢
                    obtain ⟨g9, hg9⟩ : ∃ g, g = V1.heap.size := ⟨_, rfl⟩
                    rw [← hg9] at k9 hg69 ⊢
                    clear hg9 bb
                    refine hK.out _ _ J2 (fun _ => ?_)
                    clear hK K
                    try simp only [Act.put, List.getElem_toArray, List.getElem_cons_zero, List.getElem_cons_succ, List.setIfInBounds_toArray, List.set_cons_zero, List.set_cons_succ]
                    refine wpAnyH_ready (rs := [12]) (by kernel_rfl) (by simp) ?_
                    refine AllReadyH.cons rfl (fun K hK => ?_) AllReadyH.nil
                    try simp only [Act.put, List.getElem_toArray, List.getElem_cons_zero, List.getElem_cons_succ, List.setIfInBounds_toArray, List.set_cons_zero, List.set_cons_succ]
                    rw [if_pos (by rfl)]
                    refine wp_store_blk 24 (.tmp 9) (.tmp 68) rfl g9 #[.slice none 0 0] #[.slice A2 m2 c2] 24 rfl rfl k9 rfl (po_info _ _ _) (by simp [Value.oneCell']) ?_
                    intro V5 k95 n9
                    have J5 := J2.but n9 (bare_pool k9) (by omega) hg36
                    have hP5 := hP.turn (Turn.but n9) (bare_pool k9)
                    clear n9
                    refine hK.out _ _ J5 (fun _ => ?_)
                    clear hK K
                    try simp only [Act.put, List.getElem_toArray, List.getElem_cons_zero, List.getElem_cons_succ, List.setIfInBounds_toArray, List.set_cons_zero, List.set_cons_succ]
                    refine wpAnyH_ready (rs := [13]) (by kernel_rfl) (by simp) ?_
                    refine AllReadyH.cons rfl (fun K hK => ?_) AllReadyH.nil
                    try simp only [Act.put, List.getElem_toArray, List.getElem_cons_zero, List.getElem_cons_succ, List.setIfInBounds_toArray, List.set_cons_zero, List.set_cons_succ]
                    go_simp
                    refine hK.out _ _ J5 (fun _ => ?_)
                    clear hK K
                    try simp only [Act.put, List.getElem_toArray, List.getElem_cons_zero, List.getElem_cons_succ, List.setIfInBounds_toArray, List.set_cons_zero, List.set_cons_succ]
                    refine wpAnyH_ready (rs := [14]) (by kernel_rfl) (by simp) ?_
                    refine AllReadyH.cons rfl (fun K hK => ?_) AllReadyH.nil
                    try simp only [Act.put, List.getElem_toArray, List.getElem_cons_zero, List.getElem_cons_succ, List.setIfInBounds_toArray, List.set_cons_zero, List.set_cons_succ]
                    go_simp
                    refine hK.out _ _ J5 (fun _ => ?_)
                    clear hK K
                    try simp only [Act.put, List.getElem_toArray, List.getElem_cons_zero, List.getElem_cons_succ, List.setIfInBounds_toArray, List.set_cons_zero, List.set_cons_succ]
                    refine wpAnyH_done (by kernel_rfl) ?_ _
                    refine ⟨rfl, ?_⟩
                    go_wp2_with fail
                    go_meet
                    case rel => exact ⟨g9, A2, m2, c2, Y, rfl, rfl, rfl, Lib.hid J5, Lib.hid k95, Lib.hid hP5, hg69, hF⟩
                  · skip
                    try simp only [Act.put, List.getElem_toArray, List.getElem_cons_zero, List.getElem_cons_succ, List.setIfInBounds_toArray, List.set_cons_zero, List.set_cons_succ]
                    go_simp
                    have bb : Below V0.heap.size V0 (V0.alloc (.cells #[.slice none 0 0] 24)) := (Below.refl _ _).alloc (Nat.le_refl _) _
                    have k9 := Blk.new V0 #[.slice none 0 0] 24
                    have hg69 : g6 < V0.heap.size := JE.a.lt
                    have J1 := JE.step bb
                    show K _ (V0.alloc (.cells #[.slice none 0 0] 24))
                    generalize V0.alloc (.cells #[.slice none 0 0] 24) = V1 at bb k9 J1 ⊢
                    obtain ⟨g9, hg9⟩ : ∃ g, g = V0.heap.size := ⟨_, rfl⟩
                    rw [← hg9] at k9 hg69 ⊢
                    clear hg9 bb
                    refine hK.out _ _ J1 (fun _ => ?_)
                    clear hK K
                    try simp only [Act.put, List.getElem_toArray, List.getElem_cons_zero, List.getElem_cons_succ, List.setIfInBounds_toArray, List.set_cons_zero, List.set_cons_succ]
                    refine wpAnyH_ready (rs := [6]) (by kernel_rfl) (by simp) ?_
                    refine AllReadyH.cons rfl (fun K hK => ?_) AllReadyH.nil
                    try simp only [Act.put, List.getElem_toArray, List.getElem_cons_zero, List.getElem_cons_succ, List.setIfInBounds_toArray, List.set_cons_zero, List.set_cons_succ]
                    go_simp
                    refine (HC.out V1 J1).mono ?_
                    rintro e V2 ⟨A2, m2, c2, Y, rfl, hP, hF, bb⟩
                    have J2 := J1.step bb
                    have k9 := k9.below bb k9.lt
                    clear bb
                    go_wp2_with fail
                    refine hK.out _ _ J2 (fun _ => ?_)
                    clear hK K
                    try simp only [Act.put, List.getElem_toArray, List.getElem_cons_zero, List.getElem_cons_succ, List.setIfInBounds_toArray, List.set_cons_zero, List.set_cons_succ]
                    refine wpAnyH_take (i := 7) (v := .tuple #[.agg #[.slice A2 m2 c2], .int .i64 idn, .int .i64 0]) rfl (by kernel_rfl) (by kernel_rfl) (by kernel_rfl) (fun _ _ _ h => nomatch h.1) (.inl ⟨by rfl, fun V hV => by go_simp⟩) J2 ?_
                    try simp only [Act.put, List.getElem_toArray, List.getElem_cons_zero, List.getElem_cons_succ, List.setIfInBounds_toArray, List.set_cons_zero, List.set_cons_succ]
                    refine wpAnyH_take (i := 8) (v := .agg #[.slice A2 m2 c2]) rfl (by kernel_rfl) (by kernel_rfl) (by kernel_rfl) (fun _ _ _ h => nomatch h.1) (.inl ⟨by rfl, fun V hV => by go_simp⟩) J2 ?_
                    try simp only [Act.put, List.getElem_toArray, List.getElem_cons_zero, List.getElem_cons_succ, List.setIfInBounds_toArray, List.set_cons_zero, List.set_cons_succ]
                    refine wpAnyH_take (i := 9) (v := .int .i64 idn) rfl (by kernel_rfl) (by kernel_rfl) (by kernel_rfl) (fun _ _ _ h => nomatch h.1) (.inl ⟨by rfl, fun V hV => by go_simp⟩) J2 ?_
                    try simp only [Act.put, List.getElem_toArray, List.getElem_cons_zero, List.getElem_cons_succ, List.setIfInBounds_toArray, List.set_cons_zero, List.set_cons_succ]
                    refine wpAnyH_take (i := 10) (v := .int .i64 0) rfl (by kernel_rfl) (by kernel_rfl) (by kernel_rfl) (fun _ _ _ h => nomatch h.1) (.inl ⟨by rfl, fun V hV => by go_simp⟩) J2 ?_
                    try simp only [Act.put, List.getElem_toArray, List.getElem_cons_zero, List.getElem_cons_succ, List.setIfInBounds_toArray, List.set_cons_zero, List.set_cons_succ]
                    refine wpAnyH_ready (rs := [12]) (by kernel_rfl) (by simp) ?_
                    refine AllReadyH.cons rfl (fun K hK => ?_) AllReadyH.nil
                    try simp only [Act.put, List.getElem_toArray, List.getElem_cons_zero, List.getElem_cons_succ, List.setIfInBounds_toArray, List.set_cons_zero, List.set_cons_succ]
                    rw [if_pos (by rfl)]
                    refine wp_store_blk 24 (.tmp 9) (.tmp 68) rfl g9 #[.slice none 0 0] #[.slice A2 m2 c2] 24 rfl rfl k9 rfl (po_info _ _ _) (by simp [Value.oneCell']) ?_
                    intro V5 k95 n9
                    have J5 := J2.but n9 (bare_pool k9) (by omega) hg36
                    have hP5 := hP.turn (Turn.but n9) (bare_pool k9)
                    clear n9
                    refine hK.out _ _ J5 (fun _ => ?_)
                    clear hK K
                    try simp only [Act.put, List.getElem_toArray, List.getElem_cons_zero, List.getElem_cons_succ, List.setIfInBounds_toArray, List.set_cons_zero, List.set_cons_succ]
                    refine wpAnyH_ready (rs := [13]) (by kernel_rfl) (by simp) ?_
                    refine AllReadyH.cons rfl (fun K hK => ?_) AllReadyH.nil
                    try simp only [Act.put, List.getElem_toArray, List.getElem_cons_zero, List.getElem_cons_succ, List.setIfInBounds_toArray, List.set_cons_zero, List.set_cons_succ]
                    go_simp
                    refine hK.out _ _ J5 (fun _ => ?_)
                    clear hK K
                    try simp only [Act.put, List.getElem_toArray, List.getElem_cons_zero, List.getElem_cons_succ, List.setIfInBounds_toArray, List.set_cons_zero, List.set_cons_succ]
                    refine wpAnyH_ready (rs := [14]) (by kernel_rfl) (by simp) ?_
                    refine AllReadyH.cons rfl (fun K hK => ?_) AllReadyH.nil
                    try simp only [Act.put, List.getElem_toArray, List.getElem_cons_zero, List.getElem_cons_succ, List.setIfInBounds_toArray, List.set_cons_zero, List.set_cons_succ]
                    go_simp
                    refine hK.out _ _ J5 (fun _ => ?_)
                    clear hK K
                    try simp only [Act.put, List.getElem_toArray, List.getElem_cons_zero, List.getElem_cons_succ, List.setIfInBounds_toArray, List.set_cons_zero, List.set_cons_succ]
                    refine wpAnyH_done (by kernel_rfl) ?_ _
                    refine ⟨rfl, ?_⟩
                    go_wp2_with fail
                    go_meet
                    case rel => exact ⟨g9, A2, m2, c2, Y, rfl, rfl, rfl, Lib.hid J5, Lib.hid k95, Lib.hid hP5, hg69, hF⟩
                case rest =>
                  obtain ⟨g9, A2, m2, c2, Y, rfl, rfl, rfl, HJ, HK9, HP9, hg69, HF⟩ := hcut
                  clear HC JD
                  go_wp2_with (first
                    | (refine wpListG_load (by rfl) 24 (.tmp 9) rfl g9 rfl 24 #[.slice A2 m2 c2] _ HK9.out Tryz.underlying24 rfl (po_info _ _ _) ?_)
                    | (refine wpList_store_blk rfl 24 (.tmp 3) (.tmp 74) rfl g3 #[.slice A m c] #[.slice A2 m2 c2] 24 rfl rfl HJ.out.i.k3 rfl (po_info _ _ _) (by simp [Value.oneCell']) ?_
                       intro V3 k3n n3
                       have I3 := HJ.out.i.pool n3 k3n (HP9.out.turn (Turn.but n3) (bare_pool HJ.out.i.k3))
                       have q4c := I3.ow (k := who) (by rw [HV.out.2]; exact hwho)
                       have f4c := I3.k4.frozen who
                       clear n3 k3n
                       go_wp2_with fail))
                  go_meet
                  case rel => exact ⟨A2, m2, c2, Y, own.set who idn, Lib.hid (I3.set who idn), Lib.hid ⟨HF.out, by rw [List.length_set]; exact HV.out.2⟩⟩
              · have HC := Lib.hid (fun V (hV : OwA w g3 A m c L own g6 x V) => ow_addno (who := who) HV.out.1 HV.out.2 hwho HW1.out (HKW.out V hV.i.b) hV.i.p hV.r HG.out hE)
                have hen : ((freshE L ow1 x.1.g) == 0) = false := by simpa using hE
                generalize (freshE L ow1 x.1.g) = ern at HC hen
                clear hE
                go_wp2_with fail
                go_cut [9, 10, 11] from 33 to 193 (fun s9 s10 s11 wx => ∃ (g9 : Nat) (A2 : Option Addr) (m2 c2 : Nat) (Y : List Nl), s9 = .pointer (some ⟨g9, 0, none⟩) ∧ s10 = .int .i64 0 ∧ s11 = .int .i64 ern ∧ Hid (OwA w g3 A m c L own g6 x wx) ∧ Hid (Blk wx g9 #[.slice A2 m2 c2] 24) ∧ Hid (Pk wx A2 m2 c2 Y) ∧ g6 < g9 ∧ True)
                case first =>
                  skip
                  have JE := JD.step (Below.refl _ W2).drew
                  refine region_cutP ?_
                  refine wp_region_held_drew (S := OwA w g3 A m c L own g6 x) (by kernel_rfl) JE (fun _ => ?_)
                  generalize W2.drew = V0 at JE ⊢
                  refine wpAnyH_take (i := 0) (v := .agg #[.slice A m c]) rfl (by kernel_rfl) (by kernel_rfl) (by kernel_rfl) (fun _ _ _ h => nomatch h.1) (yieldsIf_blk (by rfl) 24 (.tmp 3) rfl g3 rfl #[.slice A m c] 24 _ (fun _ h => h.i.k3) Tryz.underlying24 rfl rfl) JE ?_
                  try simp only [Act.put, List.getElem_toArray, List.getElem_cons_zero, List.getElem_cons_succ, List.setIfInBounds_toArray, List.set_cons_zero, List.set_cons_succ]
                  refine wpAnyH_take (i := 1) (v := .int .i64 who) rfl (by kernel_rfl) (by kernel_rfl) (by kernel_rfl) (fun _ _ _ h => nomatch h.1) (.inl ⟨by rfl, fun V hV => by go_simp⟩) JE ?_
                  try simp only [Act.put, List.getElem_toArray, List.getElem_cons_zero, List.getElem_cons_succ, List.setIfInBounds_toArray, List.set_cons_zero, List.set_cons_succ]
                  refine wpAnyH_take (i := 2) (v := .pointer (some ⟨g3 + 1, who, none⟩)) rfl (by kernel_rfl) (by kernel_rfl) (by kernel_rfl) (fun _ _ _ h => nomatch h.1) (.inl ⟨by rfl, fun V hV => by go_simp⟩) JE ?_
                  try simp only [Act.put, List.getElem_toArray, List.getElem_cons_zero, List.getElem_cons_succ, List.setIfInBounds_toArray, List.set_cons_zero, List.set_cons_succ]
                  refine wpAnyH_take (i := 3) (v := .int .i64 ow1) rfl (by kernel_rfl) (by kernel_rfl) (by kernel_rfl) (fun _ _ _ h => nomatch h.1) (.inl ⟨by rfl, fun V hV => by have c0 : V.cell? ⟨g3 + 1, who, none⟩ = some (.int .i64 ow1) := (by have h0 := hV.i.ow (k := who) (by rw [HV.out.2]; exact hwho); rw [← HW1.out] at h0; exact h0); go_simp⟩) JE ?_
                  try simp only [Act.put, List.getElem_toArray, List.getElem_cons_zero, List.getElem_cons_succ, List.setIfInBounds_toArray, List.set_cons_zero, List.set_cons_succ]
                  refine wpAnyH_take (i := 4) (v := .pointer (some ⟨g6, 3, none⟩)) rfl (by kernel_rfl) (by kernel_rfl) (by kernel_rfl) (fun _ _ _ h => nomatch h.1) (.inl ⟨by rfl, fun V hV => by go_simp⟩) JE ?_
                  try simp only [Act.put, List.getElem_toArray, List.getElem_cons_zero, List.getElem_cons_succ, List.setIfInBounds_toArray, List.set_cons_zero, List.set_cons_succ]
                  refine wpAnyH_take (i := 5) (v := .slice x.2.1 x.1.g.length x.2.2) rfl (by kernel_rfl) (by kernel_rfl) (by kernel_rfl) (fun _ _ _ h => nomatch h.1) (.inl ⟨by rfl, fun V hV => by have c0 : V.cell? ⟨g6, 3, none⟩ = some (.slice x.2.1 x.1.g.length x.2.2) := hV.a.cell 3; go_simp⟩) JE ?_
                  try simp only [Act.put, List.getElem_toArray, List.getElem_cons_zero, List.getElem_cons_succ, List.setIfInBounds_toArray, List.set_cons_zero, List.set_cons_succ]
                  refine wpAnyH_ready (rs := [6, 11]) (by kernel_rfl) (by simp) ?_
                  refine AllReadyH.cons rfl (fun K hK => ?_) (AllReadyH.cons rfl (fun K hK => ?_) AllReadyH.nil)
                  · skip
                    try simp only [Act.put, List.getElem_toArray, List.getElem_cons_zero, List.getElem_cons_succ, List.setIfInBounds_toArray, List.set_cons_zero, List.set_cons_succ]
                    go_simp
                    refine (HC.out V0 JE).mono ?_
                    rintro e V1 ⟨A2, m2, c2, Y, rfl, hP, hF, bb⟩
                    have J1 := JE.step bb
                    clear bb
                    go_wp2_with fail
                    refine hK.out _ _ J1 (fun _ => ?_)
                    clear hK K
                    try simp only [Act.put, List.getElem_toArray, List.getElem_cons_zero, List.getElem_cons_succ, List.setIfInBounds_toArray, List.set_cons_zero, List.set_cons_succ]
                    refine wpAnyH_take (i := 7) (v := .tuple #[.agg #[.slice A2 m2 c2], .int .i64 0, .int .i64 ern]) rfl (by kernel_rfl) (by kernel_rfl) (by kernel_rfl) (fun _ _ _ h => nomatch h.1) (.inl ⟨by rfl, fun V hV => by go_simp⟩) J1 ?_
                    try simp only [Act.put, List.getElem_toArray, List.getElem_cons_zero, List.getElem_cons_succ, List.setIfInBounds_toArray, List.set_cons_zero, List.set_cons_succ]
                    refine wpAnyH_take (i := 8) (v := .agg #[.slice A2 m2 c2]) rfl (by kernel_rfl) (by kernel_rfl) (by kernel_rfl) (fun _ _ _ h => nomatch h.1) (.inl ⟨by rfl, fun V hV => by go_simp⟩) J1 ?_
                    try simp only [Act.put, List.getElem_toArray, List.getElem_cons_zero, List.getElem_cons_succ, List.setIfInBounds_toArray, List.set_cons_zero, List.set_cons_succ]
                    refine wpAnyH_take (i := 9) (v := .int .i64 0) rfl (by kernel_rfl) (by kernel_rfl) (by kernel_rfl) (fun _ _ _ h => nomatch h.1) (.inl ⟨by rfl, fun V hV => by go_simp⟩) J1 ?_
                    try simp only [Act.put, List.getElem_toArray, List.getElem_cons_zero, List.getElem_cons_succ, List.setIfInBounds_toArray, List.set_cons_zero, List.set_cons_succ]
                    refine wpAnyH_take (i := 10) (v := .int .i64 ern) rfl (by kernel_rfl) (by kernel_rfl) (by kernel_rfl) (fun _ _ _ h => nomatch h.1) (.inl ⟨by rfl, fun V hV => by go_simp⟩) J1 ?_
                    try simp only [Act.put, List.getElem_toArray, List.getElem_cons_zero, List.getElem_cons_succ, List.setIfInBounds_toArray, List.set_cons_zero, List.set_cons_succ]
                    refine wpAnyH_ready (rs := [11]) (by kernel_rfl) (by simp) ?_
                    refine AllReadyH.cons rfl (fun K hK => ?_) AllReadyH.nil
                    try simp only [Act.put, List.getElem_toArray, List.getElem_cons_zero, List.getElem_cons_succ, List.setIfInBounds_toArray, List.set_cons_zero, List.set_cons_succ]
                    go_simp
                    have bb : Below V1.heap.size V1 (V1.alloc (.cells #[.slice none 0 0] 24)) := (Below.refl _ _).alloc (Nat.le_refl _) _
                    have k9 := Blk.new V1 #[.slice none 0 0] 24
                    have hg69 : g6 < V1.heap.size := J1.a.lt
                    have J2 := J1.step bb
                    have hP := hP.below bb
                    show K _ (V1.alloc (.cells #[.slice none 0 0] 24))
                    generalize V1.alloc (.cells #[.slice none 0 0] 24) = V2 at bb k9 J2 hP ⊢
                    obtain ⟨g9, hg9⟩ : ∃ g, g = V1.heap.size := ⟨_, rfl⟩
                    rw [← hg9] at k9 hg69 ⊢
                    clear hg9 bb
                    refine hK.out _ _ J2 (fun _ => ?_)
                    clear hK K
                    try simp only [Act.put, List.getElem_toArray, List.getElem_cons_zero, List.getElem_cons_succ, List.setIfInBounds_toArray, List.set_cons_zero, List.set_cons_succ]
                    refine wpAnyH_ready (rs := [12]) (by kernel_rfl) (by simp) ?_
                    refine AllReadyH.cons rfl (fun K hK => ?_) AllReadyH.nil
                    try simp only [Act.put, List.getElem_toArray, List.getElem_cons_zero, List.getElem_cons_succ, List.setIfInBounds_toArray, List.set_cons_zero, List.set_cons_succ]
                    rw [if_pos (by rfl)]
                    refine wp_store_blk 24 (.tmp 9) (.tmp 68) rfl g9 #[.slice none 0 0] #[.slice A2 m2 c2] 24 rfl rfl k9 rfl (po_info _ _ _) (by simp [Value.oneCell']) ?_
                    intro V5 k95 n9
                    have J5 := J2.but n9 (bare_pool k9) (by omega) hg36
                    have hP5 := hP.turn (Turn.but n9) (bare_pool k9)
                    clear n9
                    refine hK.out _ _ J5 (fun _ => ?_)
                    clear hK K
                    try simp only [Act.put, List.getElem_toArray, List.getElem_cons_zero, List.getElem_cons_succ, List.setIfInBounds_toArray, List.set_cons_zero, List.set_cons_succ]
                    refine wpAnyH_ready (rs := [13]) (by kernel_rfl) (by simp) ?_
                    refine AllReadyH.cons rfl (fun K hK => ?_) AllReadyH.nil
                    try simp only [Act.put, List.getElem_toArray, List.getElem_cons_zero, List.getElem_cons_succ, List.setIfInBounds_toArray, List.set_cons_zero, List.set_cons_succ]
                    go_simp
                    refine hK.out _ _ J5 (fun _ => ?_)
                    clear hK K
                    try simp only [Act.put, List.getElem_toArray, List.getElem_cons_zero, List.getElem_cons_succ, List.setIfInBounds_toArray, List.set_cons_zero, List.set_cons_succ]
                    refine wpAnyH_ready (rs := [14]) (by kernel_rfl) (by simp) ?_
                    refine AllReadyH.cons rfl (fun K hK => ?_) AllReadyH.nil
                    try simp only [Act.put, List.getElem_toArray, List.getElem_cons_zero, List.getElem_cons_succ, List.setIfInBounds_toArray, List.set_cons_zero, List.set_cons_succ]
                    go_simp
                    refine hK.out _ _ J5 (fun _ => ?_)
                    clear hK K
                    try simp only [Act.put, List.getElem_toArray, List.getElem_cons_zero, List.getElem_cons_succ, List.setIfInBounds_toArray, List.set_cons_zero, List.set_cons_succ]
                    refine wpAnyH_done (by kernel_rfl) ?_ _
                    refine ⟨rfl, ?_⟩
                    go_wp2_with fail
                    go_meet
                    case rel => exact ⟨g9, A2, m2, c2, Y, rfl, rfl, rfl, Lib.hid J5, Lib.hid k95, Lib.hid hP5, hg69, hF⟩
                  · skip
                    try simp only [Act.put, List.getElem_toArray, List.getElem_cons_zero, List.getElem_cons_succ, List.setIfInBounds_toArray, List.set_cons_zero, List.set_cons_succ]
                    go_simp
                    have bb : Below V0.heap.size V0 (V0.alloc (.cells #[.slice none 0 0] 24)) := (Below.refl _ _).alloc (Nat.le_refl _) _
                    have k9 := Blk.new V0 #[.slice none 0 0] 24
                    have hg69 : g6 < V0.heap.size := JE.a.lt
                    have J1 := JE.step bb
                    show K _ (V0.alloc (.cells #[.slice none 0 0] 24))
                    generalize V0.alloc (.cells #[.slice none 0 0] 24) = V1 at bb k9 J1 ⊢
                    obtain ⟨g9, hg9⟩ : ∃ g, g = V0.heap.size := ⟨_, rfl⟩
                    rw [← hg9] at k9 hg69 ⊢
                    clear hg9 bb
                    refine hK.out _ _ J1 (fun _ => ?_)
                    clear hK K
                    try simp only [Act.put, List.getElem_toArray, List.getElem_cons_zero, List.getElem_cons_succ, List.setIfInBounds_toArray, List.set_cons_zero, List.set_cons_succ]
                    refine wpAnyH_ready (rs := [6]) (by kernel_rfl) (by simp) ?_
                    refine AllReadyH.cons rfl (fun K hK => ?_) AllReadyH.nil
                    try simp only [Act.put, List.getElem_toArray, List.getElem_cons_zero, List.getElem_cons_succ, List.setIfInBounds_toArray, List.set_cons_zero, List.set_cons_succ]
                    go_simp
                    refine (HC.out V1 J1).mono ?_
                    rintro e V2 ⟨A2, m2, c2, Y, rfl, hP, hF, bb⟩
                    have J2 := J1.step bb
                    have k9 := k9.below bb k9.lt
                    clear bb
                    go_wp2_with fail
                    refine hK.out _ _ J2 (fun _ => ?_)
                    clear hK K
                    try simp only [Act.put, List.getElem_toArray, List.getElem_cons_zero, List.getElem_cons_succ, List.setIfInBounds_toArray, List.set_cons_zero, List.set_cons_succ]
                    refine wpAnyH_take (i := 7) (v := .tuple #[.agg #[.slice A2 m2 c2], .int .i64 0, .int .i64 ern]) rfl (by kernel_rfl) (by kernel_rfl) (by kernel_rfl) (fun _ _ _ h => nomatch h.1) (.inl ⟨by rfl, fun V hV => by go_simp⟩) J2 ?_
                    try simp only [Act.put, List.getElem_toArray, List.getElem_cons_zero, List.getElem_cons_succ, List.setIfInBounds_toArray, List.set_cons_zero, List.set_cons_succ]
                    refine wpAnyH_take (i := 8) (v := .agg #[.slice A2 m2 c2]) rfl (by kernel_rfl) (by kernel_rfl) (by kernel_rfl) (fun _ _ _ h => nomatch h.1) (.inl ⟨by rfl, fun V hV => by go_simp⟩) J2 ?_
                    try simp only [Act.put, List.getElem_toArray, List.getElem_cons_zero, List.getElem_cons_succ, List.setIfInBounds_toArray, List.set_cons_zero, List.set_cons_succ]
                    refine wpAnyH_take (i := 9) (v := .int .i64 0) rfl (by kernel_rfl) (by kernel_rfl) (by kernel_rfl) (fun _ _ _ h => nomatch h.1) (.inl ⟨by rfl, fun V hV => by go_simp⟩) J2 ?_
                    try simp only [Act.put, List.getElem_toArray, List.getElem_cons_zero, List.getElem_cons_succ, List.setIfInBounds_toArray, List.set_cons_zero, List.set_cons_succ]
                    refine wpAnyH_take (i := 10) (v := .int .i64 ern) rfl (by kernel_rfl) (by kernel_rfl) (by kernel_rfl) (fun _ _ _ h => nomatch h.1) (.inl ⟨by rfl, fun V hV => by go_simp⟩) J2 ?_
                    try simp only [Act.put, List.getElem_toArray, List.getElem_cons_zero, List.getElem_cons_succ, List.setIfInBounds_toArray, List.set_cons_zero, List.set_cons_succ]
                    refine wpAnyH_ready (rs := [12]) (by kernel_rfl) (by simp) ?_
                    refine AllReadyH.cons rfl (fun K hK => ?_) AllReadyH.nil
                    try simp only [Act.put, List.getElem_toArray, List.getElem_cons_zero, List.getElem_cons_succ, List.setIfInBounds_toArray, List.set_cons_zero, List.set_cons_succ]
                    rw [if_pos (by rfl)]
                    refine wp_store_blk 24 (.tmp 9) (.tmp 68) rfl g9 #[.slice none 0 0] #[.slice A2 m2 c2] 24 rfl rfl k9 rfl (po_info _ _ _) (by simp [Value.oneCell']) ?_
                    intro V5 k95 n9
                    have J5 := J2.but n9 (bare_pool k9) (by omega) hg36
                    have hP5 := hP.turn (Turn.but n9) (bare_pool k9)
                    clear n9
                    refine hK.out _ _ J5 (fun _ => ?_)
                    clear hK K
                    try simp only [Act.put, List.getElem_toArray, List.getElem_cons_zero, List.getElem_cons_succ, List.setIfInBounds_toArray, List.set_cons_zero, List.set_cons_succ]
                    refine wpAnyH_ready (rs := [13]) (by kernel_rfl) (by simp) ?_
                    refine AllReadyH.cons rfl (fun K hK => ?_) AllReadyH.nil
                    try simp only [Act.put, List.getElem_toArray, List.getElem_cons_zero, List.getElem_cons_succ, List.setIfInBounds_toArray, List.set_cons_zero, List.set_cons_succ]
                    go_simp
                    refine hK.out _ _ J5 (fun _ => ?_)
                    clear hK K
                    try simp only [Act.put, List.getElem_toArray, List.getElem_cons_zero, List.getElem_cons_succ, List.setIfInBounds_toArray, List.set_cons_zero, List.set_cons_succ]
                    refine wpAnyH_ready (rs := [14]) (by kernel_rfl) (by simp) ?_
                    refine AllReadyH.cons rfl (fun K hK => ?_) AllReadyH.nil
                    try simp only [Act.put, List.getElem_toArray, List.getElem_cons_zero, List.getElem_cons_succ, List.setIfInBounds_toArray, List.set_cons_zero, List.set_cons_succ]
                    go_simp
                    refine hK.out _ _ J5 (fun _ => ?_)
                    clear hK K
                    try simp only [Act.put, List.getElem_toArray, List.getElem_cons_zero, List.getElem_cons_succ, List.setIfInBounds_toArray, List.set_cons_zero, List.set_cons_succ]
                    refine wpAnyH_done (by kernel_rfl) ?_ _
                    refine ⟨rfl, ?_⟩
                    go_wp2_with fail
                    go_meet
                    case rel => exact ⟨g9, A2, m2, c2, Y, rfl, rfl, rfl, Lib.hid J5, Lib.hid k95, Lib.hid hP5, hg69, hF⟩
                case rest =>
                  obtain ⟨g9, A2, m2, c2, Y, rfl, rfl, rfl, HJ, HK9, HP9, hg69, HF⟩ := hcut
                  clear HC JD
                  go_wp2_with fail
                  go_meet
                  case rel => exact ⟨A, m, c, L, own, Lib.hid HJ.out.i, HV⟩
          · as_aux_lemma =>
              cases hz1 : (ow1 != 0)
              · cases hz2 : (ow2 == 0)
                · have HC := Lib.hid (fun V (hV : OwA w g3 A m c L own g6 x V) => ow_take (who := who) HV.out.1 HV.out.2 hwho hoth HW1.out HW2.out (by simpa using hz1) (by simpa using hz2) (HKW.out V hV.i.b) hV.i.p)
                  go_wp2_with fail
                  go_cut [12, 13] from 33 to 193 (fun s12 s13 wx => ∃ (g9 : Nat) (A2 : Option Addr) (m2 c2 : Nat) (Y : List Nl), s12 = .pointer (some ⟨g9, 0, none⟩) ∧ s13 = .int .i64 0 ∧ Hid (OwA w g3 A m c L own g6 x wx) ∧ Hid (Blk wx g9 #[.slice A2 m2 c2] 24) ∧ Hid (Pk wx A2 m2 c2 Y) ∧ g6 < g9 ∧ Hid (Inv Y (own.set who ow2) 0))
                  case first =>
                    skip
                    have JE := JD.step (Below.refl _ W2).drew
                    refine region_cutP ?_
                    refine wp_region_held_drew (S := OwA w g3 A m c L own g6 x) (by kernel_rfl) JE (fun _ => ?_)
                    generalize W2.drew = V0 at JE ⊢
                    refine wpAnyH_take (i := 0) (v := .agg #[.slice A m c]) rfl (by kernel_rfl) (by kernel_rfl) (by kernel_rfl) (fun _ _ _ h => nomatch h.1) (yieldsIf_blk (by rfl) 24 (.tmp 3) rfl g3 rfl #[.slice A m c] 24 _ (fun _ h => h.i.k3) Tryz.underlying24 rfl rfl) JE ?_
                    try simp only [Act.put, List.getElem_toArray, List.getElem_cons_zero, List.getElem_cons_succ, List.setIfInBounds_toArray, List.set_cons_zero, List.set_cons_succ]
                    refine wpAnyH_take (i := 1) (v := .int .i64 oth) rfl (by kernel_rfl) (by kernel_rfl) (by kernel_rfl) (fun _ _ _ h => nomatch h.1) (.inl ⟨by rfl, fun V hV => by go_simp⟩) JE ?_
                    try simp only [Act.put, List.getElem_toArray, List.getElem_cons_zero, List.getElem_cons_succ, List.setIfInBounds_toArray, List.set_cons_zero, List.set_cons_succ]
                    refine wpAnyH_take (i := 2) (v := .pointer (some ⟨g3 + 1, oth, none⟩)) rfl (by kernel_rfl) (by kernel_rfl) (by kernel_rfl) (fun _ _ _ h => nomatch h.1) (.inl ⟨by rfl, fun V hV => by go_simp⟩) JE ?_
                    try simp only [Act.put, List.getElem_toArray, List.getElem_cons_zero, List.getElem_cons_succ, List.setIfInBounds_toArray, List.set_cons_zero, List.set_cons_succ]
                    refine wpAnyH_take (i := 3) (v := .int .i64 ow2) rfl (by kernel_rfl) (by kernel_rfl) (by kernel_rfl) (fun _ _ _ h => nomatch h.1) (.inl ⟨by rfl, fun V hV => by have c0 : V.cell? ⟨g3 + 1, oth, none⟩ = some (.int .i64 ow2) := (by have h0 := hV.i.ow (k := oth) (by rw [HV.out.2]; exact hoth); rw [← HW2.out] at h0; exact h0); go_simp⟩) JE ?_
                    try simp only [Act.put, List.getElem_toArray, List.getElem_cons_zero, List.getElem_cons_succ, List.setIfInBounds_toArray, List.set_cons_zero, List.set_cons_succ]
                    refine wpAnyH_ready (rs := [4, 8]) (by kernel_rfl) (by simp) ?_
                    refine AllReadyH.cons rfl (fun K hK => ?_) (AllReadyH.cons rfl (fun K hK => ?_) AllReadyH.nil)
                    · skip
                      try simp only [Act.put, List.getElem_toArray, List.getElem_cons_zero, List.getElem_cons_succ, List.setIfInBounds_toArray, List.set_cons_zero, List.set_cons_succ]
                      go_simp
                      refine (HC.out V0 JE).mono ?_
                      rintro e V1 ⟨A2, m2, c2, Y, rfl, hP, hF, bb⟩
                      have J1 := JE.step bb
                      clear bb
                      go_wp2_with fail
                      refine hK.out _ _ J1 (fun _ => ?_)
                      clear hK K
                      try simp only [Act.put, List.getElem_toArray, List.getElem_cons_zero, List.getElem_cons_succ, List.setIfInBounds_toArray, List.set_cons_zero, List.set_cons_succ]
                      refine wpAnyH_take (i := 5) (v := .tuple #[.agg #[.slice A2 m2 c2], .int .i64 0]) rfl (by kernel_rfl) (by kernel_rfl) (by kernel_rfl) (fun _ _ _ h => nomatch h.1) (.inl ⟨by rfl, fun V hV => by go_simp⟩) J1 ?_
                      try simp only [Act.put, List.getElem_toArray, List.getElem_cons_zero, List.getElem_cons_succ, List.setIfInBounds_toArray, List.set_cons_zero, List.set_cons_succ]
                      refine wpAnyH_take (i := 6) (v := .agg #[.slice A2 m2 c2]) rfl (by kernel_rfl) (by kernel_rfl) (by kernel_rfl) (fun _ _ _ h => nomatch h.1) (.inl ⟨by rfl, fun V hV => by go_simp⟩) J1 ?_
                      try simp only [Act.put, List.getElem_toArray, List.getElem_cons_zero, List.getElem_cons_succ, List.setIfInBounds_toArray, List.set_cons_zero, List.set_cons_succ]
                      refine wpAnyH_take (i := 7) (v := .int .i64 0) rfl (by kernel_rfl) (by kernel_rfl) (by kernel_rfl) (fun _ _ _ h => nomatch h.1) (.inl ⟨by rfl, fun V hV => by go_simp⟩) J1 ?_
                      try simp only [Act.put, List.getElem_toArray, List.getElem_cons_zero, List.getElem_cons_succ, List.setIfInBounds_toArray, List.set_cons_zero, List.set_cons_succ]
                      refine wpAnyH_ready (rs := [8]) (by kernel_rfl) (by simp) ?_
                      refine AllReadyH.cons rfl (fun K hK => ?_) AllReadyH.nil
                      try simp only [Act.put, List.getElem_toArray, List.getElem_cons_zero, List.getElem_cons_succ, List.setIfInBounds_toArray, List.set_cons_zero, List.set_cons_succ]
                      go_simp
                      have bb : Below V1.heap.size V1 (V1.alloc (.cells #[.slice none 0 0] 24)) := (Below.refl _ _).alloc (Nat.le_refl _) _
                      have k9 := Blk.new V1 #[.slice none 0 0] 24
                      have hg69 : g6 < V1.heap.size := J1.a.lt
                      have J2 := J1.step bb
                      have hP := hP.below bb
                      show K _ (V1.alloc (.cells #[.slice none 0 0] 24))
                      generalize V1.alloc (.cells #[.slice none 0 0] 24) = V2 at bb k9 J2 hP ⊢
                      obtain ⟨g9, hg9⟩ : ∃ g, g = V1.heap.size := ⟨_, rfl⟩
                      rw [← hg9] at k9 hg69 ⊢
                      clear hg9 bb
                      refine hK.out _ _ J2 (fun _ => ?_)
                      clear hK K
                      try simp only [Act.put, List.getElem_toArray, List.getElem_cons_zero, List.getElem_cons_succ, List.setIfInBounds_toArray, List.set_cons_zero, List.set_cons_succ]
                      refine wpAnyH_ready (rs := [9]) (by kernel_rfl) (by simp) ?_
                      refine AllReadyH.cons rfl (fun K hK => ?_) AllReadyH.nil
                      try simp only [Act.put, List.getElem_toArray, List.getElem_cons_zero, List.getElem_cons_succ, List.setIfInBounds_toArray, List.set_cons_zero, List.set_cons_succ]
                      rw [if_pos (by rfl)]
                      refine wp_store_blk 24 (.tmp 12) (.tmp 95) rfl g9 #[.slice none 0 0] #[.slice A2 m2 c2] 24 rfl rfl k9 rfl (po_info _ _ _) (by simp [Value.oneCell']) ?_
                      intro V5 k95 n9
                      have J5 := J2.but n9 (bare_pool k9) (by omega) hg36
                      have hP5 := hP.turn (Turn.but n9) (bare_pool k9)
                      clear n9
                      refine hK.out _ _ J5 (fun _ => ?_)
                      clear hK K
                      try simp only [Act.put, List.getElem_toArray, List.getElem_cons_zero, List.getElem_cons_succ, List.setIfInBounds_toArray, List.set_cons_zero, List.set_cons_succ]
                      refine wpAnyH_ready (rs := [10]) (by kernel_rfl) (by simp) ?_
                      refine AllReadyH.cons rfl (fun K hK => ?_) AllReadyH.nil
                      try simp only [Act.put, List.getElem_toArray, List.getElem_cons_zero, List.getElem_cons_succ, List.setIfInBounds_toArray, List.set_cons_zero, List.set_cons_succ]
                      go_simp
                      refine hK.out _ _ J5 (fun _ => ?_)
                      clear hK K
                      try simp only [Act.put, List.getElem_toArray, List.getElem_cons_zero, List.getElem_cons_succ, List.setIfInBounds_toArray, List.set_cons_zero, List.set_cons_succ]
                      refine wpAnyH_done (by kernel_rfl) ?_ _
                      refine ⟨rfl, ?_⟩
                      go_wp2_with fail
                      go_meet
                      case rel => exact ⟨g9, A2, m2, c2, Y, rfl, rfl, Lib.hid J5, Lib.hid k95, Lib.hid hP5, hg69, hF⟩
                    · skip
                      try simp only [Act.put, List.getElem_toArray, List.getElem_cons_zero, List.getElem_cons_succ, List.setIfInBounds_toArray, List.set_cons_zero, List.set_cons_succ]
                      go_simp
                      have bb : Below V0.heap.size V0 (V0.alloc (.cells #[.slice none 0 0] 24)) := (Below.refl _ _).alloc (Nat.le_refl _) _
                      have k9 := Blk.new V0 #[.slice none 0 0] 24
                      have hg69 : g6 < V0.heap.size := JE.a.lt
                      have J1 := JE.step bb
                      show K _ (V0.alloc (.cells #[.slice none 0 0] 24))
                      generalize V0.alloc (.cells #[.slice none 0 0] 24) = V1 at bb k9 J1 ⊢
                      obtain ⟨g9, hg9⟩ : ∃ g, g = V0.heap.size := ⟨_, rfl⟩
                      rw [← hg9] at k9 hg69 ⊢
                      clear hg9 bb
                      refine hK.out _ _ J1 (fun _ => ?_)
                      clear hK K
                      try simp only [Act.put, List.getElem_toArray, List.getElem_cons_zero, List.getElem_cons_succ, List.setIfInBounds_toArray, List.set_cons_zero, List.set_cons_succ]
                      refine wpAnyH_ready (rs := [4]) (by kernel_rfl) (by simp) ?_
                      refine AllReadyH.cons rfl (fun K hK => ?_) AllReadyH.nil
                      try simp only [Act.put, List.getElem_toArray, List.getElem_cons_zero, List.getElem_cons_succ, List.setIfInBounds_toArray, List.set_cons_zero, List.set_cons_succ]
                      go_simp
                      refine (HC.out V1 J1).mono ?_
                      rintro e V2 ⟨A2, m2, c2, Y, rfl, hP, hF, bb⟩
                      have J2 := J1.step bb
                      have k9 := k9.below bb k9.lt
                      clear bb
                      go_wp2_with fail
                      refine hK.out _ _ J2 (fun _ => ?_)
                      clear hK K
                      try simp only [Act.put, List.getElem_toArray, List.getElem_cons_zero, List.getElem_cons_succ, List.setIfInBounds_toArray, List.set_cons_zero, List.set_cons_succ]
                      refine wpAnyH_take (i := 5) (v := .tuple #[.agg #[.slice A2 m2 c2], .int .i64 0]) rfl (by kernel_rfl) (by kernel_rfl) (by kernel_rfl) (fun _ _ _ h => nomatch h.1) (.inl ⟨by rfl, fun V hV => by go_simp⟩) J2 ?_
                      try simp only [Act.put, List.getElem_toArray, List.getElem_cons_zero, List.getElem_cons_succ, List.setIfInBounds_toArray, List.set_cons_zero, List.set_cons_succ]
                      refine wpAnyH_take (i := 6) (v := .agg #[.slice A2 m2 c2]) rfl (by kernel_rfl) (by kernel_rfl) (by kernel_rfl) (fun _ _ _ h => nomatch h.1) (.inl ⟨by rfl, fun V hV => by go_simp⟩) J2 ?_
                      try simp only [Act.put, List.getElem_toArray, List.getElem_cons_zero, List.getElem_cons_succ, List.setIfInBounds_toArray, List.set_cons_zero, List.set_cons_succ]
                      refine wpAnyH_take (i := 7) (v := .int .i64 0) rfl (by kernel_rfl) (by kernel_rfl) (by kernel_rfl) (fun _ _ _ h => nomatch h.1) (.inl ⟨by rfl, fun V hV => by go_simp⟩) J2 ?_
                      try simp only [Act.put, List.getElem_toArray, List.getElem_cons_zero, List.getElem_cons_succ, List.setIfInBounds_toArray, List.set_cons_zero, List.set_cons_succ]
                      refine wpAnyH_ready (rs := [9]) (by kernel_rfl) (by simp) ?_
                      refine AllReadyH.cons rfl (fun K hK => ?_) AllReadyH.nil
                      try simp only [Act.put, List.getElem_toArray, List.getElem_cons_zero, List.getElem_cons_succ, List.setIfInBounds_toArray, List.set_cons_zero, List.set_cons_succ]
                      rw [if_pos (by rfl)]
                      refine wp_store_blk 24 (.tmp 12) (.tmp 95) rfl g9 #[.slice none 0 0] #[.slice A2 m2 c2] 24 rfl rfl k9 rfl (po_info _ _ _) (by simp [Value.oneCell']) ?_
                      intro V5 k95 n9
                      have J5 := J2.but n9 (bare_pool k9) (by omega) hg36
                      have hP5 := hP.turn (Turn.but n9) (bare_pool k9)
                      clear n9
                      refine hK.out _ _ J5 (fun _ => ?_)
                      clear hK K
                      try simp only [Act.put, List.getElem_toArray, List.getElem_cons_zero, List.getElem_cons_succ, List.setIfInBounds_toArray, List.set_cons_zero, List.set_cons_succ]
                      refine wpAnyH_ready (rs := [10]) (by kernel_rfl) (by simp) ?_
                      refine AllReadyH.cons rfl (fun K hK => ?_) AllReadyH.nil
                      try simp only [Act.put, List.getElem_toArray, List.getElem_cons_zero, List.getElem_cons_succ, List.setIfInBounds_toArray, List.set_cons_zero, List.set_cons_succ]
                      go_simp
                      refine hK.out _ _ J5 (fun _ => ?_)
                      clear hK K
                      try simp only [Act.put, List.getElem_toArray, List.getElem_cons_zero, List.getElem_cons_succ, List.setIfInBounds_toArray, List.set_cons_zero, List.set_cons_succ]
                      refine wpAnyH_done (by kernel_rfl) ?_ _
                      refine ⟨rfl, ?_⟩
                      go_wp2_with fail
                      go_meet
                      case rel => exact ⟨g9, A2, m2, c2, Y, rfl, rfl, Lib.hid J5, Lib.hid k95, Lib.hid hP5, hg69, hF⟩
                  case rest =>
                    obtain ⟨g9, A2, m2, c2, Y, rfl, rfl, HJ, HK9, HP9, hg69, HF⟩ := hcut
                    clear HC JD
                    go_wp2_with fail
                    have HQ : SQ w g9 #[.slice A2 m2 c2] wc.drew := ⟨HJ.out.i.b.drew, HK9.out.drew⟩
                    have JQ := HJ.out.step (Below.refl _ wc).drew
                    have KQ := HK9.out.drew
                    have PQ := HP9.out.below (Below.refl _ wc).drew
                    refine region_cutP ?_
                    refine wp_region_held_drew (S := SQ w g9 #[.slice A2 m2 c2]) (by kernel_rfl) HQ (fun _ => ?_)
                    generalize wc.drew = V0 at HQ JQ KQ PQ ⊢
                    refine wpAnyH_take (i := 0) (v := .int .i64 who) rfl (by kernel_rfl) (by kernel_rfl) (by kernel_rfl) (fun _ _ _ h => nomatch h.1) (.inl ⟨by rfl, fun V hV => by go_simp⟩) HQ ?_
                    try simp only [Act.put, List.getElem_toArray, List.getElem_cons_zero, List.getElem_cons_succ, List.setIfInBounds_toArray, List.set_cons_zero, List.set_cons_succ]
                    refine wpAnyH_take (i := 1) (v := .agg #[.slice A2 m2 c2]) rfl (by kernel_rfl) (by kernel_rfl) (by kernel_rfl) (fun _ _ _ h => nomatch h.1) (yieldsIf_blk (by rfl) 24 (.tmp 12) rfl g9 rfl #[.slice A2 m2 c2] 24 _ (fun _ h => h.k) Tryz.underlying24 rfl rfl) HQ ?_
                    try simp only [Act.put, List.getElem_toArray, List.getElem_cons_zero, List.getElem_cons_succ, List.setIfInBounds_toArray, List.set_cons_zero, List.set_cons_succ]
                    refine wpAnyH_take (i := 2) (v := .int .i64 oth) rfl (by kernel_rfl) (by kernel_rfl) (by kernel_rfl) (fun _ _ _ h => nomatch h.1) (.inl ⟨by rfl, fun V hV => by go_simp⟩) HQ ?_
                    try simp only [Act.put, List.getElem_toArray, List.getElem_cons_zero, List.getElem_cons_succ, List.setIfInBounds_toArray, List.set_cons_zero, List.set_cons_succ]
                    refine wpAnyH_take (i := 3) (v := .pointer (some ⟨g3 + 1, oth, none⟩)) rfl (by kernel_rfl) (by kernel_rfl) (by kernel_rfl) (fun _ _ _ h => nomatch h.1) (.inl ⟨by rfl, fun V hV => by go_simp⟩) HQ ?_
                    try simp only [Act.put, List.getElem_toArray, List.getElem_cons_zero, List.getElem_cons_succ, List.setIfInBounds_toArray, List.set_cons_zero, List.set_cons_succ]
                    refine wpAnyH_ready (rs := [4, 5]) (by kernel_rfl) (by simp) ?_
                    refine AllReadyH.cons rfl (fun K hK => ?_) (AllReadyH.cons rfl (fun K hK => ?_) AllReadyH.nil)
                    · skip
                      try simp only [Act.put, List.getElem_toArray, List.getElem_cons_zero, List.getElem_cons_succ, List.setIfInBounds_toArray, List.set_cons_zero, List.set_cons_succ]
                      have q4 := JQ.i.ow (k := oth) (by rw [HV.out.2]; exact hoth)
                      rw [← HW2.out] at q4
                      go_simp
                      clear q4
                      refine hK.out _ _ HQ (fun _ => ?_)
                      clear hK K
                      try simp only [Act.put, List.getElem_toArray, List.getElem_cons_zero, List.getElem_cons_succ, List.setIfInBounds_toArray, List.set_cons_zero, List.set_cons_succ]
                      refine wpAnyH_ready (rs := [5]) (by kernel_rfl) (by simp) ?_
                      refine AllReadyH.cons rfl (fun K hK => ?_) AllReadyH.nil
                      try simp only [Act.put, List.getElem_toArray, List.getElem_cons_zero, List.getElem_cons_succ, List.setIfInBounds_toArray, List.set_cons_zero, List.set_cons_succ]
                      rw [if_pos (by rfl)]
                      refine wp_store_blk 24 (.tmp 3) (.tmp 100) rfl g3 #[.slice A m c] #[.slice A2 m2 c2] 24 rfl rfl JQ.i.k3 rfl (po_info _ _ _) (by simp [Value.oneCell']) ?_
                      intro V3 k3n n3
                      have I3 := JQ.i.pool n3 k3n (PQ.turn (Turn.but n3) (bare_pool JQ.i.k3))
                      have HQ3 : SQ w g9 #[.slice A2 m2 c2] V3 := ⟨I3.b, n3.blk7 KQ (by omega)⟩
                      clear n3 k3n
                      refine hK.out _ _ HQ3 (fun _ => ?_)
                      clear hK K
                      try simp only [Act.put, List.getElem_toArray, List.getElem_cons_zero, List.getElem_cons_succ, List.setIfInBounds_toArray, List.set_cons_zero, List.set_cons_succ]
                      refine wpAnyH_take (i := 6) (v := .pointer (some ⟨g3 + 1, who, none⟩)) rfl (by kernel_rfl) (by kernel_rfl) (by kernel_rfl) (fun _ _ _ h => nomatch h.1) (.inl ⟨by rfl, fun V hV => by go_simp⟩) HQ3 ?_
                      try simp only [Act.put, List.getElem_toArray, List.getElem_cons_zero, List.getElem_cons_succ, List.setIfInBounds_toArray, List.set_cons_zero, List.set_cons_succ]
                      refine wpAnyH_ready (rs := [7]) (by kernel_rfl) (by simp) ?_
                      refine AllReadyH.cons rfl (fun K hK => ?_) AllReadyH.nil
                      try simp only [Act.put, List.getElem_toArray, List.getElem_cons_zero, List.getElem_cons_succ, List.setIfInBounds_toArray, List.set_cons_zero, List.set_cons_succ]
                      have q4c := I3.ow (k := who) (by rw [HV.out.2]; exact hwho)
                      have f4c := I3.k4.frozen who
                      go_simp
                      have I4 := I3.set who ow2
                      have HQ4 : SQ w g9 #[.slice A2 m2 c2] (V3.setCell ⟨g3 + 1, who, none⟩ (.int .i64 ow2)) := ⟨I4.b, HQ3.k.far (by show g9 ≠ g3 + 1; omega) _⟩
                      refine hK.out _ _ HQ4 (fun _ => ?_)
                      clear hK K
                      try simp only [Act.put, List.getElem_toArray, List.getElem_cons_zero, List.getElem_cons_succ, List.setIfInBounds_toArray, List.set_cons_zero, List.set_cons_succ]
                      refine wpAnyH_done (by kernel_rfl) ?_ _
                      refine ⟨rfl, ?_⟩
                      go_wp2_with fail
                      go_meet
                      case rel => exact ⟨A2, m2, c2, Y, own.set who ow2, Lib.hid I4, Lib.hid ⟨HF.out, by rw [List.length_set]; exact HV.out.2⟩⟩
                    · skip
                      try simp only [Act.put, List.getElem_toArray, List.getElem_cons_zero, List.getElem_cons_succ, List.setIfInBounds_toArray, List.set_cons_zero, List.set_cons_succ]
                      rw [if_pos (by rfl)]
                      refine wp_store_blk 24 (.tmp 3) (.tmp 100) rfl g3 #[.slice A m c] #[.slice A2 m2 c2] 24 rfl rfl JQ.i.k3 rfl (po_info _ _ _) (by simp [Value.oneCell']) ?_
                      intro V3 k3n n3
                      have I3 := JQ.i.pool n3 k3n (PQ.turn (Turn.but n3) (bare_pool JQ.i.k3))
                      have HQ3 : SQ w g9 #[.slice A2 m2 c2] V3 := ⟨I3.b, n3.blk7 KQ (by omega)⟩
                      clear n3 k3n
                      refine hK.out _ _ HQ3 (fun _ => ?_)
                      clear hK K
                      try simp only [Act.put, List.getElem_toArray, List.getElem_cons_zero, List.getElem_cons_succ, List.setIfInBounds_toArray, List.set_cons_zero, List.set_cons_succ]
                      refine wpAnyH_ready (rs := [4]) (by kernel_rfl) (by simp) ?_
                      refine AllReadyH.cons rfl (fun K hK => ?_) AllReadyH.nil
                      try simp only [Act.put, List.getElem_toArray, List.getElem_cons_zero, List.getElem_cons_succ, List.setIfInBounds_toArray, List.set_cons_zero, List.set_cons_succ]
                      have q4 := I3.ow (k := oth) (by rw [HV.out.2]; exact hoth)
                      rw [← HW2.out] at q4
                      go_simp
                      clear q4
                      refine hK.out _ _ HQ3 (fun _ => ?_)
                      clear hK K
                      try simp only [Act.put, List.getElem_toArray, List.getElem_cons_zero, List.getElem_cons_succ, List.setIfInBounds_toArray, List.set_cons_zero, List.set_cons_succ]
                      refine wpAnyH_take (i := 6) (v := .pointer (some ⟨g3 + 1, who, none⟩)) rfl (by kernel_rfl) (by kernel_rfl) (by kernel_rfl) (fun _ _ _ h => nomatch h.1) (.inl ⟨by rfl, fun V hV => by go_simp⟩) HQ3 ?_
                      try simp only [Act.put, List.getElem_toArray, List.getElem_cons_zero, List.getElem_cons_succ, List.setIfInBounds_toArray, List.set_cons_zero, List.set_cons_succ]
                      refine wpAnyH_ready (rs := [7]) (by kernel_rfl) (by simp) ?_
                      refine AllReadyH.cons rfl (fun K hK => ?_) AllReadyH.nil
                      try simp only [Act.put, List.getElem_toArray, List.getElem_cons_zero, List.getElem_cons_succ, List.setIfInBounds_toArray, List.set_cons_zero, List.set_cons_succ]
                      have q4c := I3.ow (k := who) (by rw [HV.out.2]; exact hwho)
                      have f4c := I3.k4.frozen who
                      go_simp
                      have I4 := I3.set who ow2
                      have HQ4 : SQ w g9 #[.slice A2 m2 c2] (V3.setCell ⟨g3 + 1, who, none⟩ (.int .i64 ow2)) := ⟨I4.b, HQ3.k.far (by show g9 ≠ g3 + 1; omega) _⟩
                      refine hK.out _ _ HQ4 (fun _ => ?_)
                      clear hK K
                      try simp only [Act.put, List.getElem_toArray, List.getElem_cons_zero, List.getElem_cons_succ, List.setIfInBounds_toArray, List.set_cons_zero, List.set_cons_succ]
                      refine wpAnyH_done (by kernel_rfl) ?_ _
                      refine ⟨rfl, ?_⟩
                      go_wp2_with fail
                      go_meet
                      case rel => exact ⟨A2, m2, c2, Y, own.set who ow2, Lib.hid I4, Lib.hid ⟨HF.out, by rw [List.length_set]; exact HV.out.2⟩⟩
                · go_wp2_with fail
                  go_roundw
                  case rel => exact ⟨k + 1, _, A, m, c, L, own, rfl, by omega, by go_num, Lib.hid JD.i, HV⟩
                  case measure => simp [intOf]; omega
              · go_wp2_with fail
                go_roundw
                case rel => exact ⟨k + 1, _, A, m, c, L, own, rfl, by omega, by go_num, Lib.hid JD.i, HV⟩
                case measure => simp [intOf]; omega
          · as_aux_lemma =>
              cases hz1 : (ow1 == 0)
              · have HC := Lib.hid (fun V (hV : OwA w g3 A m c L own g6 x V) => ow_give (who := who) HV.out.1 HV.out.2 hwho HW1.out (by simpa using hz1) (HKW.out V hV.i.b) hV.i.p)
                go_wp2_with fail
                go_cut [14, 15, 16] from 33 to 193 (fun s14 s15 s16 wx => ∃ (g9 : Nat) (A2 : Option Addr) (m2 c2 : Nat) (Y : List Nl) (G : Option Addr) (gm gc : Nat) (gone : List Int), s14 = .pointer (some ⟨g9, 0, none⟩) ∧ s15 = .slice G gm gc ∧ s16 = .int .i64 0 ∧ Hid (OwA w g3 A m c L own g6 x wx) ∧ Hid (Blk wx g9 #[.slice A2 m2 c2] 24) ∧ Hid (Pk wx A2 m2 c2 Y) ∧ Hid (Ri7 wx wx.heap.size G gone) ∧ g6 < g9 ∧ Hid (gm = gone.length ∧ Inv Y (own.set who 0) 0 ∧ gm ≤ 1000000 ∧ ∀ id ∈ gone, (idR Y id).2 = false))
                case first =>
                  skip
                  have JE := JD.step (Below.refl _ W2).drew
                  refine region_cutP ?_
                  refine wp_region_held_drew (S := OwA w g3 A m c L own g6 x) (by kernel_rfl) JE (fun _ => ?_)
                  generalize W2.drew = V0 at JE ⊢
                  refine wpAnyH_take (i := 0) (v := .agg #[.slice A m c]) rfl (by kernel_rfl) (by kernel_rfl) (by kernel_rfl) (fun _ _ _ h => nomatch h.1) (yieldsIf_blk (by rfl) 24 (.tmp 3) rfl g3 rfl #[.slice A m c] 24 _ (fun _ h => h.i.k3) Tryz.underlying24 rfl rfl) JE ?_
                  try simp only [Act.put, List.getElem_toArray, List.getElem_cons_zero, List.getElem_cons_succ, List.setIfInBounds_toArray, List.set_cons_zero, List.set_cons_succ]
                  refine wpAnyH_take (i := 1) (v := .int .i64 who) rfl (by kernel_rfl) (by kernel_rfl) (by kernel_rfl) (fun _ _ _ h => nomatch h.1) (.inl ⟨by rfl, fun V hV => by go_simp⟩) JE ?_
                  try simp only [Act.put, List.getElem_toArray, List.getElem_cons_zero, List.getElem_cons_succ, List.setIfInBounds_toArray, List.set_cons_zero, List.set_cons_succ]
                  refine wpAnyH_take (i := 2) (v := .pointer (some ⟨g3 + 1, who, none⟩)) rfl (by kernel_rfl) (by kernel_rfl) (by kernel_rfl) (fun _ _ _ h => nomatch h.1) (.inl ⟨by rfl, fun V hV => by go_simp⟩) JE ?_
                  try simp only [Act.put, List.getElem_toArray, List.getElem_cons_zero, List.getElem_cons_succ, List.setIfInBounds_toArray, List.set_cons_zero, List.set_cons_succ]
                  refine wpAnyH_take (i := 3) (v := .int .i64 ow1) rfl (by kernel_rfl) (by kernel_rfl) (by kernel_rfl) (fun _ _ _ h => nomatch h.1) (.inl ⟨by rfl, fun V hV => by have c0 : V.cell? ⟨g3 + 1, who, none⟩ = some (.int .i64 ow1) := (by have h0 := hV.i.ow (k := who) (by rw [HV.out.2]; exact hwho); rw [← HW1.out] at h0; exact h0); go_simp⟩) JE ?_
                  try simp only [Act.put, List.getElem_toArray, List.getElem_cons_zero, List.getElem_cons_succ, List.setIfInBounds_toArray, List.set_cons_zero, List.set_cons_succ]
                  refine wpAnyH_ready (rs := [4, 9]) (by kernel_rfl) (by simp) ?_
                  refine AllReadyH.cons rfl (fun K hK => ?_) (AllReadyH.cons rfl (fun K hK => ?_) AllReadyH.nil)
                  · skip
                    try simp only [Act.put, List.getElem_toArray, List.getElem_cons_zero, List.getElem_cons_succ, List.setIfInBounds_toArray, List.set_cons_zero, List.set_cons_succ]
                    go_simp
                    refine (HC.out V0 JE).mono ?_
                    rintro e V1 ⟨A2, m2, c2, Y, G, gm, gc, gone, rfl, hP, hR, hF, bb⟩
                    have J1 := JE.step bb
                    clear bb
                    go_wp2_with fail
                    refine hK.out _ _ J1 (fun _ => ?_)
                    clear hK K
                    try simp only [Act.put, List.getElem_toArray, List.getElem_cons_zero, List.getElem_cons_succ, List.setIfInBounds_toArray, List.set_cons_zero, List.set_cons_succ]
                    refine wpAnyH_take (i := 5) (v := .tuple #[.agg #[.slice A2 m2 c2], .slice G gm gc, .int .i64 0]) rfl (by kernel_rfl) (by kernel_rfl) (by kernel_rfl) (fun _ _ _ h => nomatch h.1) (.inl ⟨by rfl, fun V hV => by go_simp⟩) J1 ?_
                    try simp only [Act.put, List.getElem_toArray, List.getElem_cons_zero, List.getElem_cons_succ, List.setIfInBounds_toArray, List.set_cons_zero, List.set_cons_succ]
                    refine wpAnyH_take (i := 6) (v := .agg #[.slice A2 m2 c2]) rfl (by kernel_rfl) (by kernel_rfl) (by kernel_rfl) (fun _ _ _ h => nomatch h.1) (.inl ⟨by rfl, fun V hV => by go_simp⟩) J1 ?_
                    try simp only [Act.put, List.getElem_toArray, List.getElem_cons_zero, List.getElem_cons_succ, List.setIfInBounds_toArray, List.set_cons_zero, List.set_cons_succ]
                    refine wpAnyH_take (i := 7) (v := .slice G gm gc) rfl (by kernel_rfl) (by kernel_rfl) (by kernel_rfl) (fun _ _ _ h => nomatch h.1) (.inl ⟨by rfl, fun V hV => by go_simp⟩) J1 ?_
                    try simp only [Act.put, List.getElem_toArray, List.getElem_cons_zero, List.getElem_cons_succ, List.setIfInBounds_toArray, List.set_cons_zero, List.set_cons_succ]
                    refine wpAnyH_take (i := 8) (v := .int .i64 0) rfl (by kernel_rfl) (by kernel_rfl) (by kernel_rfl) (fun _ _ _ h => nomatch h.1) (.inl ⟨by rfl, fun V hV => by go_simp⟩) J1 ?_
                    try simp only [Act.put, List.getElem_toArray, List.getElem_cons_zero, List.getElem_cons_succ, List.setIfInBounds_toArray, List.set_cons_zero, List.set_cons_succ]
                    refine wpAnyH_ready (rs := [9]) (by kernel_rfl) (by simp) ?_
                    refine AllReadyH.cons rfl (fun K hK => ?_) AllReadyH.nil
                    try simp only [Act.put, List.getElem_toArray, List.getElem_cons_zero, List.getElem_cons_succ, List.setIfInBounds_toArray, List.set_cons_zero, List.set_cons_succ]
                    go_simp
                    have bb : Below V1.heap.size V1 (V1.alloc (.cells #[.slice none 0 0] 24)) := (Below.refl _ _).alloc (Nat.le_refl _) _
                    have k9 := Blk.new V1 #[.slice none 0 0] 24
                    have hg69 : g6 < V1.heap.size := J1.a.lt
                    have J2 := J1.step bb
                    have hP := hP.below bb
                    have hR := (hR.below bb (Nat.le_refl _)).more bb.size
                    show K _ (V1.alloc (.cells #[.slice none 0 0] 24))
                    generalize V1.alloc (.cells #[.slice none 0 0] 24) = V2 at bb k9 J2 hP hR ⊢
                    obtain ⟨g9, hg9⟩ : ∃ g, g = V1.heap.size := ⟨_, rfl⟩
                    rw [← hg9] at k9 hg69 ⊢
                    clear hg9 bb
                    refine hK.out _ _ J2 (fun _ => ?_)
                    clear hK K
                    try simp only [Act.put, List.getElem_toArray, List.getElem_cons_zero, List.getElem_cons_succ, List.setIfInBounds_toArray, List.set_cons_zero, List.set_cons_succ]
                    refine wpAnyH_ready (rs := [10]) (by kernel_rfl) (by simp) ?_
                    refine AllReadyH.cons rfl (fun K hK => ?_) AllReadyH.nil
                    try simp only [Act.put, List.getElem_toArray, List.getElem_cons_zero, List.getElem_cons_succ, List.setIfInBounds_toArray, List.set_cons_zero, List.set_cons_succ]
                    rw [if_pos (by rfl)]
                    refine wp_store_blk 24 (.tmp 14) (.tmp 117) rfl g9 #[.slice none 0 0] #[.slice A2 m2 c2] 24 rfl rfl k9 rfl (po_info _ _ _) (by simp [Value.oneCell']) ?_
                    intro V5 k95 n9
                    have J5 := J2.but n9 (bare_pool k9) (by omega) hg36
                    have hP5 := hP.turn (Turn.but n9) (bare_pool k9)
                    have hR5 := hR.turnN (Turn.but n9) k9
                    clear n9
                    refine hK.out _ _ J5 (fun _ => ?_)
                    clear hK K
                    try simp only [Act.put, List.getElem_toArray, List.getElem_cons_zero, List.getElem_cons_succ, List.setIfInBounds_toArray, List.set_cons_zero, List.set_cons_succ]
                    refine wpAnyH_ready (rs := [11]) (by kernel_rfl) (by simp) ?_
                    refine AllReadyH.cons rfl (fun K hK => ?_) AllReadyH.nil
                    try simp only [Act.put, List.getElem_toArray, List.getElem_cons_zero, List.getElem_cons_succ, List.setIfInBounds_toArray, List.set_cons_zero, List.set_cons_succ]
                    go_simp
                    refine hK.out _ _ J5 (fun _ => ?_)
                    clear hK K
                    try simp only [Act.put, List.getElem_toArray, List.getElem_cons_zero, List.getElem_cons_succ, List.setIfInBounds_toArray, List.set_cons_zero, List.set_cons_succ]
                    refine wpAnyH_ready (rs := [12]) (by kernel_rfl) (by simp) ?_
                    refine AllReadyH.cons rfl (fun K hK => ?_) AllReadyH.nil
                    try simp only [Act.put, List.getElem_toArray, List.getElem_cons_zero, List.getElem_cons_succ, List.setIfInBounds_toArray, List.set_cons_zero, List.set_cons_succ]
                    go_simp
                    refine hK.out _ _ J5 (fun _ => ?_)
                    clear hK K
                    try simp only [Act.put, List.getElem_toArray, List.getElem_cons_zero, List.getElem_cons_succ, List.setIfInBounds_toArray, List.set_cons_zero, List.set_cons_succ]
                    refine wpAnyH_done (by kernel_rfl) ?_ _
                    refine ⟨rfl, ?_⟩
                    go_wp2_with fail
                    go_meet
                    case rel => exact ⟨g9, A2, m2, c2, Y, G, gm, gc, gone, rfl, rfl, rfl, Lib.hid J5, Lib.hid k95, Lib.hid hP5, Lib.hid hR5, hg69, hF⟩
                  · skip
                    try simp only [Act.put, List.getElem_toArray, List.getElem_cons_zero, List.getElem_cons_succ, List.setIfInBounds_toArray, List.set_cons_zero, List.set_cons_succ]
                    go_simp
                    have bb : Below V0.heap.size V0 (V0.alloc (.cells #[.slice none 0 0] 24)) := (Below.refl _ _).alloc (Nat.le_refl _) _
                    have k9 := Blk.new V0 #[.slice none 0 0] 24
                    have hg69 : g6 < V0.heap.size := JE.a.lt
                    have J1 := JE.step bb
                    show K _ (V0.alloc (.cells #[.slice none 0 0] 24))
                    generalize V0.alloc (.cells #[.slice none 0 0] 24) = V1 at bb k9 J1 ⊢
                    obtain ⟨g9, hg9⟩ : ∃ g, g = V0.heap.size := ⟨_, rfl⟩
                    rw [← hg9] at k9 hg69 ⊢
                    clear hg9 bb
                    refine hK.out _ _ J1 (fun _ => ?_)
                    clear hK K
                    try simp only [Act.put, List.getElem_toArray, List.getElem_cons_zero, List.getElem_cons_succ, List.setIfInBounds_toArray, List.set_cons_zero, List.set_cons_succ]
                    refine wpAnyH_ready (rs := [4]) (by kernel_rfl) (by simp) ?_
                    refine AllReadyH.cons rfl (fun K hK => ?_) AllReadyH.nil
                    try simp only [Act.put, List.getElem_toArray, List.getElem_cons_zero, List.getElem_cons_succ, List.setIfInBounds_toArray, List.set_cons_zero, List.set_cons_succ]
                    go_simp
                    refine (HC.out V1 J1).mono ?_
                    rintro e V2 ⟨A2, m2, c2, Y, G, gm, gc, gone, rfl, hP, hR, hF, bb⟩
                    have J2 := J1.step bb
                    have k9 := k9.below bb k9.lt
                    clear bb
                    go_wp2_with fail
                    refine hK.out _ _ J2 (fun _ => ?_)
                    clear hK K
                    try simp only [Act.put, List.getElem_toArray, List.getElem_cons_zero, List.getElem_cons_succ, List.setIfInBounds_toArray, List.set_cons_zero, List.set_cons_succ]
                    refine wpAnyH_take (i := 5) (v := .tuple #[.agg #[.slice A2 m2 c2], .slice G gm gc, .int .i64 0]) rfl (by kernel_rfl) (by kernel_rfl) (by kernel_rfl) (fun _ _ _ h => nomatch h.1) (.inl ⟨by rfl, fun V hV => by go_simp⟩) J2 ?_
                    try simp only [Act.put, List.getElem_toArray, List.getElem_cons_zero, List.getElem_cons_succ, List.setIfInBounds_toArray, List.set_cons_zero, List.set_cons_succ]
                    refine wpAnyH_take (i := 6) (v := .agg #[.slice A2 m2 c2]) rfl (by kernel_rfl) (by kernel_rfl) (by kernel_rfl) (fun _ _ _ h => nomatch h.1) (.inl ⟨by rfl, fun V hV => by go_simp⟩) J2 ?_
                    try simp only [Act.put, List.getElem_toArray, List.getElem_cons_zero, List.getElem_cons_succ, List.setIfInBounds_toArray, List.set_cons_zero, List.set_cons_succ]
                    refine wpAnyH_take (i := 7) (v := .slice G gm gc) rfl (by kernel_rfl) (by kernel_rfl) (by kernel_rfl) (fun _ _ _ h => nomatch h.1) (.inl ⟨by rfl, fun V hV => by go_simp⟩) J2 ?_
                    try simp only [Act.put, List.getElem_toArray, List.getElem_cons_zero, List.getElem_cons_succ, List.setIfInBounds_toArray, List.set_cons_zero, List.set_cons_succ]
                    refine wpAnyH_take (i := 8) (v := .int .i64 0) rfl (by kernel_rfl) (by kernel_rfl) (by kernel_rfl) (fun _ _ _ h => nomatch h.1) (.inl ⟨by rfl, fun V hV => by go_simp⟩) J2 ?_
                    try simp only [Act.put, List.getElem_toArray, List.getElem_cons_zero, List.getElem_cons_succ, List.setIfInBounds_toArray, List.set_cons_zero, List.set_cons_succ]
                    refine wpAnyH_ready (rs := [10]) (by kernel_rfl) (by simp) ?_
                    refine AllReadyH.cons rfl (fun K hK => ?_) AllReadyH.nil
                    try simp only [Act.put, List.getElem_toArray, List.getElem_cons_zero, List.getElem_cons_succ, List.setIfInBounds_toArray, List.set_cons_zero, List.set_cons_succ]
                    rw [if_pos (by rfl)]
                    refine wp_store_blk 24 (.tmp 14) (.tmp 117) rfl g9 #[.slice none 0 0] #[.slice A2 m2 c2] 24 rfl rfl k9 rfl (po_info _ _ _) (by simp [Value.oneCell']) ?_
                    intro V5 k95 n9
                    have J5 := J2.but n9 (bare_pool k9) (by omega) hg36
                    have hP5 := hP.turn (Turn.but n9) (bare_pool k9)
                    have hR5 := hR.turnN (Turn.but n9) k9
                    clear n9
                    refine hK.out _ _ J5 (fun _ => ?_)
                    clear hK K
                    try simp only [Act.put, List.getElem_toArray, List.getElem_cons_zero, List.getElem_cons_succ, List.setIfInBounds_toArray, List.set_cons_zero, List.set_cons_succ]
                    refine wpAnyH_ready (rs := [11]) (by kernel_rfl) (by simp) ?_
                    refine AllReadyH.cons rfl (fun K hK => ?_) AllReadyH.nil
                    try simp only [Act.put, List.getElem_toArray, List.getElem_cons_zero, List.getElem_cons_succ, List.setIfInBounds_toArray, List.set_cons_zero, List.set_cons_succ]
                    go_simp
                    refine hK.out _ _ J5 (fun _ => ?_)
                    clear hK K
                    try simp only [Act.put, List.getElem_toArray, List.getElem_cons_zero, List.getElem_cons_succ, List.setIfInBounds_toArray, List.set_cons_zero, List.set_cons_succ]
                    refine wpAnyH_ready (rs := [12]) (by kernel_rfl) (by simp) ?_
                    refine AllReadyH.cons rfl (fun K hK => ?_) AllReadyH.nil
                    try simp only [Act.put, List.getElem_toArray, List.getElem_cons_zero, List.getElem_cons_succ, List.setIfInBounds_toArray, List.set_cons_zero, List.set_cons_succ]
                    go_simp
                    refine hK.out _ _ J5 (fun _ => ?_)
                    clear hK K
                    try simp only [Act.put, List.getElem_toArray, List.getElem_cons_zero, List.getElem_cons_succ, List.setIfInBounds_toArray, List.set_cons_zero, List.set_cons_succ]
                    refine wpAnyH_done (by kernel_rfl) ?_ _
                    refine ⟨rfl, ?_⟩
                    go_wp2_with fail
                    go_meet
                    case rel => exact ⟨g9, A2, m2, c2, Y, G, gm, gc, gone, rfl, rfl, rfl, Lib.hid J5, Lib.hid k95, Lib.hid hP5, Lib.hid hR5, hg69, hF⟩
                case rest =>
                  obtain ⟨g9, A2, m2, c2, Y, G, gm, gc, gone, rfl, rfl, rfl, HJ, HK9, HP9, HR9, hg69, HF⟩ := hcut
                  clear HC JD
                  go_wp2_with fail
                  have hgm6 := HF.out.2.2.1
                  go_loopw [124] (fun iv wr' => ∃ (t : Nat) (wr : World), wr = wr' ∧ t ≤ gm ∧ iv = .int .i64 t ∧ Hid (OwI w g3 A m c L own wr) ∧ Hid (Blk wr g9 #[.slice A2 m2 c2] 24) ∧ Hid (Pk wr A2 m2 c2 Y) ∧ Hid (Ri7 wr wr.heap.size G gone)) (fun iv _ => gm - (intOf iv).toNat)
                  case atStart => exact ⟨0, _, rfl, Nat.zero_le _, rfl, Lib.hid HJ.out.i, HK9, HP9, HR9⟩
                  case round =>
                    clear HJ HK9 HP9 HR9
                    obtain ⟨t, wr, hwr, ht, rfl, HJ, HK9, HP9, HR9⟩ := hrel
                    subst hwr
                    by_cases htg : t < gm
                    · have htg' : (t : Int) < (gm : Int) := by omega
                      have htl : t < gone.length := by have := HF.out.1; omega
                      obtain ⟨b2, off2, hG2, hb2, hc2⟩ := HR9.out t htl
                      subst hG2
                      have hgi : gone.getD t 0 ∈ gone := by rw [show gone.getD t 0 = gone[t] by simp [List.getD, htl]]; exact List.getElem_mem htl
                      have HIN := Lib.hid hgi
                      clear hgi
                      generalize gone.getD t 0 = id at hc2 HIN
                      have HFD := Lib.hid (ow_find (V := wr) (id := id) HF.out.2.1 (HKW.out wr HJ.out.b) HP9.out (HF.out.2.2.2 id HIN.out))
                      go_wp2_with (first
                        | (refine wpListG_load (by rfl) 24 (.tmp 14) rfl g9 rfl 24 #[.slice A2 m2 c2] _ HK9.out Tryz.underlying24 rfl (po_info _ _ _) ?_)
                        | (refine HFD.out.mono ?_
                           clear HFD
                           rintro e W5 ⟨r5, rfl, bb⟩
                           have J5 := HJ.out.step bb
                           have k95 := HK9.out.below bb HK9.out.lt
                           have p5 := HP9.out.below bb
                           have r95 := (HR9.out.below bb (Nat.le_refl _)).more bb.size
                           clear bb
                           go_wp2_with (first
                             | (refine wpList_store_blk rfl 46 (.tmp 19) (.tmp 132) rfl W5.heap.size (ndC nl0) (ndC r5) 46 rfl rfl (Blk.new _ _ _) rfl (nd_inf r5) (nd_one r5) ?_
                                intro W6 k19 n19
                                have bb := newP rfl n19
                                have J6 := J5.step bb
                                have k96 := k95.below bb k95.lt
                                have p6 := p5.below bb
                                have r96 := (r95.below bb (Nat.le_refl _)).more bb.size
                                clear n19 bb))))
                      go_roundw
                      case rel => exact ⟨t + 1, _, rfl, by omega, by go_num, Lib.hid J6, Lib.hid k96, Lib.hid p6, Lib.hid r96⟩
                      case measure => simp [intOf]; omega
                    · obtain rfl : t = gm := by omega
                      go_wp2_with (first
                        | (refine wpListG_load (by rfl) 24 (.tmp 14) rfl g9 rfl 24 #[.slice A2 m2 c2] _ HK9.out Tryz.underlying24 rfl (po_info _ _ _) ?_)
                        | (refine wpList_store_blk rfl 24 (.tmp 3) (.tmp 137) rfl g3 #[.slice A m c] #[.slice A2 m2 c2] 24 rfl rfl HJ.out.k3 rfl (po_info _ _ _) (by simp [Value.oneCell']) ?_
                           intro V3 k3n n3
                           have I3 := HJ.out.pool n3 k3n (HP9.out.turn (Turn.but n3) (bare_pool HJ.out.k3))
                           have q4c := I3.ow (k := who) (by rw [HV.out.2]; exact hwho)
                           have f4c := I3.k4.frozen who
                           clear n3 k3n
                           go_wp2_with fail))
                      go_meet
                      case rel => exact ⟨A2, m2, c2, Y, own.set who 0, Lib.hid (I3.set who 0), Lib.hid ⟨HF.out.2.1, by rw [List.length_set]; exact HV.out.2⟩⟩
              · go_wp2_with fail
                go_roundw
                case rel => exact ⟨k + 1, _, A, m, c, L, own, rfl, by omega, by go_num, Lib.hid JD.i, HV⟩
                case measure => simp [intOf]; omega
        · have hg1 : decide ((300 : Int) < (x.1.g.length : Int)) = true := by have := of_decide_eq_true hg; simp; omega
          clear hg
          go_wp2_with (first
            | (refine wpList_load_mid rfl 58 (.tmp 35) rfl b (off + k * 4) rfl (acC x).toList _ hc Tryz.underlying58 rfl (ac_infL x) ?_)
            | (refine wpList_store_blk rfl 58 (.tmp 6) (.tmp 36) rfl wr.heap.size (acC al0) (acC x) 58 rfl rfl (Blk.new _ _ _) rfl (ac_inf x) (ac_one x) ?_
               intro W1 k6 n6
               have bb : Below wr.heap.size wr W1 := newP rfl n6
               have I1 := HI.out.step bb
               have q63 : W1.cell? ⟨wr.heap.size, 3, none⟩ = some (.slice x.2.1 x.1.g.length x.2.2) := k6.cell 3
               clear n6))
          go_ret
          exact ⟨rfl, I1.b⟩
      · go_wp2_with (first
          | (refine wpList_load_mid rfl 58 (.tmp 35) rfl b (off + k * 4) rfl (acC x).toList _ hc Tryz.underlying58 rfl (ac_infL x) ?_)
          | (refine wpList_store_blk rfl 58 (.tmp 6) (.tmp 36) rfl wr.heap.size (acC al0) (acC x) 58 rfl rfl (Blk.new _ _ _) rfl (ac_inf x) (ac_one x) ?_
             intro W1 k6 n6
             have bb : Below wr.heap.size wr W1 := newP rfl n6
             have I1 := HI.out.step bb
             have q63 : W1.cell? ⟨wr.heap.size, 3, none⟩ = some (.slice x.2.1 x.1.g.length x.2.2) := k6.cell 3
             clear n6))
        go_ret
        exact ⟨rfl, I1.b⟩
    · obtain rfl : k = n0 := by omega
      go_wp2_with fail
      go_ret
      exact ⟨rfl, HI.out.b⟩
end Go.Proofs.YtelfdpcenplhjaaGreatDoor

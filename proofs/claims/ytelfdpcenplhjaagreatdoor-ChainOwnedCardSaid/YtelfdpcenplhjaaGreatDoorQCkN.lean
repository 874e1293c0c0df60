/-
  Which names the codes have that check asks for; check.within, tests, returns; the reference's returns.
-/
import Derived.Test.YtelfdpcenplhjaaGreatDoorQHH
import Derived.Test.YtelfdpcenplhjaaGreatDoorQHE
import Derived.RangeFuncKeeps
import Derived.RangeFuncNested
namespace Go.Proofs.YtelfdpcenplhjaaGreatDoor
open Go.RowKit
set_option linter.unusedVariables false
def ins0 : Ins := (0, 0, 0, 0)
structure Nm where
  i : Int
  p : Int
  g : List Ins
  z : Int
  k : Int
  o : Int
  t : Int
deriving instance DecidableEq for Nm
def nm0 : Nm := ⟨0, 0, [], 0, 0, 0, 0⟩
abbrev Loc := Option Addr × Nat
def loc0 : Loc := (none, 0)
abbrev Nl := Nm × Loc
def nl0 : Nl := (nm0, loc0)
def gF (g : List Ins) (k : Nat) : Ins := g.getD k ins0
def ndC (x : Nl) : Array Value := #[.int .i64 x.1.i, .int .i64 x.1.p, .slice x.2.1 x.1.g.length x.2.2, .int .i64 x.1.z, .int .i64 x.1.k, .int .u64 x.1.o, .int .u64 x.1.t]
def ndV (x : Nl) : Value := .agg (ndC x)
theorem nd_size (x : Nl) : (ndC x).size = 7 := rfl
theorem nd_inf (x : Nl) : (Tryz.prog.info? 46).map (·.size) = some (ndC x).size := by rw [nd_size]; kernel_rfl
theorem nd_infL (x : Nl) : (Tryz.prog.info? 46).map (·.size) = some (ndC x).toList.length := by rw [Array.length_toList]; exact nd_inf x
theorem nd_one (x : Nl) : (ndC x).all (·.oneCell') = true := by simp [ndC, Value.oneCell']
theorem nd_oneL (x : Nl) : ∀ u ∈ (ndC x).toList, u.oneCell' = true := by
  intro u hu
  simp only [ndC, List.mem_cons, List.not_mem_nil, or_false] at hu
  rcases hu with rfl | rfl | rfl | rfl | rfl | rfl | rfl <;> rfl
def I64 (x : Int) : Prop := -9223372036854775808 ≤ x ∧ x ≤ 9223372036854775807
def U64n (x : Int) : Prop := 0 ≤ x ∧ x ≤ 18446744073709551615
structure NmOk (x : Nm) : Prop where
  i : I64 x.i
  p : I64 x.p
  z : I64 x.z
  k : I64 x.k
  o : U64n x.o
  t : U64n x.t
  g : ∀ q ∈ x.g, insO q
  l : x.g.length ≤ 1000000000
structure Nr (w : World) (B : Nat) (x : Nl) : Prop where
  ok : NmOk x.1
  ri : Ri w B x.2.1 x.1.g.length (gF x.1.g)
  le : x.1.g.length ≤ x.2.2
theorem nm0_ok : NmOk nm0 := by
  constructor <;> first | (unfold I64 nm0; simp) | (unfold U64n nm0; simp) | (intro q hq; cases hq) | (simp [nm0])
section
variable {w w' : World} {B B' : Nat} {x : Nl}
theorem nr0 : Nr w B nl0 := ⟨nm0_ok, fun k hk => absurd hk (by simp [nl0, nm0]), by simp [nl0, nm0]⟩
theorem Nr.below (h : Nr w B x) (hb : Below B' w w') (hB : B ≤ B') : Nr w' B x := ⟨h.ok, h.ri.below hb hB, h.le⟩
theorem Nr.more (h : Nr w B x) (hB : B ≤ B') : Nr w B' x := ⟨h.ok, h.ri.more hB, h.le⟩
end
structure Po (w : World) (B : Nat) (A : Option Addr) (L : List Nl) : Prop where
  at_ : ∀ k, k < L.length → ∃ b off, A = some ⟨b, off, none⟩ ∧ b < B ∧ w.rangeAt b (off + k * 7) (ndC (L.getD k nl0)).toList
  nr : ∀ x ∈ L, Nr w B x
section
variable {w w' : World} {B B' : Nat} {A : Option Addr} {L : List Nl}
theorem range_below {w w' : World} {b o B : Nat} {cs : List Value} (h : w.rangeAt b o cs) (hb : Below B w w') (hB : b < B) : w'.rangeAt b o cs := fun j v hv => (hb.cell (p := ⟨b, o + j, none⟩) hB).trans (h j v hv)
theorem Po.below (h : Po w B A L) (hb : Below B' w w') (hB : B ≤ B') : Po w' B A L := ⟨fun k hk => by
  obtain ⟨b, off, e, h1, h2⟩ := h.at_ k hk
  exact ⟨b, off, e, h1, range_below h2 hb (Nat.lt_of_lt_of_le h1 hB)⟩, fun x hx => (h.nr x hx).below hb hB⟩
theorem Po.more (h : Po w B A L) (hB : B ≤ B') : Po w B' A L := ⟨fun k hk => by
  obtain ⟨b, off, e, h1, h2⟩ := h.at_ k hk
  exact ⟨b, off, e, by omega, h2⟩, fun x hx => (h.nr x hx).more hB⟩
theorem Po.at' (h : Po w B A L) {k : Nat} (hk : k < L.length) : Nr w B (L.getD k nl0) := by
  have e : L.getD k nl0 = L[k] := by simp [List.getD, hk]
  rw [e]; exact h.nr _ (List.getElem_mem hk)
theorem Po.nil : Po w B A [] := ⟨fun k hk => absurd hk (by simp), fun x hx => by cases hx⟩
end
def poV (A : Option Addr) (n c : Nat) : Value := .agg #[.slice A n c]
end Go.Proofs.YtelfdpcenplhjaaGreatDoor
namespace Go.Proofs.YtelfdpcenplhjaaGreatDoor
open Go.RowKit Go.Shelf
attribute [local go_sem] Oper.semAt_some
set_option linter.unusedVariables false
set_option linter.unusedSimpArgs false
abbrev Nq (w₀ : World) (n₀ : Nat) := {x : Nl // Nr w₀ n₀ x}
theorem take_snocN (L : List Nl) (k : Nat) (h : k < L.length) : L.take (k + 1) = L.take k ++ [L.getD k nl0] := by
  rw [List.take_succ_eq_append_getElem h]; simp [List.getD, h]
theorem wpListIn_load_mid {F : Fence} {nF : Nat} {P : Program} {ops : Array Oper} {rest : List Oper} {o : Oper} {a : Act} {w : World} {Q : Exit → Act → World → Prop} (hgd : o.guard = none) (ty : TypeId) (x : Operand) (ho : o.op = .load ty x)
    (g off : Nat) (hx : a.eval x = .pointer (some ⟨g, off, none⟩)) (cs : List Value) (d : TypeDesc) (hc : w.rangeAt g off cs)
    (hu : P.underlying ty = some d) (hd : d.isRow = true) (hi : (P.info? ty).map (·.size) = some cs.length)
    (h : wpListIn F nF P ops Q rest (a.put o.dst (.agg cs.toArray)) w) : wpListIn F nF P ops Q (o :: rest) a w := by
  refine wpListIn_plain hgd fun K hK => ?_
  have hr := run_loadVar_mid (P := P) w g off ty cs d hc hu hd hi
  unfold Oper.wpIn
  refine ⟨by simp [Oper.about, ho], ?_⟩
  rw [Oper.semAt_plain F _ _ (by rw [ho]; intro c hc'; cases hc')]
  simp only [execOp, ho, hx, Instr.loadAt, Instr.sureAddr, Sem.run_bind, Sem.run_pure, Result.andThen_ok, hr]
  exact hK _ _ h
theorem grown_of_below {w w' : World} (h : Below w.heap.size w w') : w.grownBy w' none := ⟨h.os, h.tape, h.output, h.size, fun k hk _ => h.block k hk⟩
theorem pvalues_any (A : Option Addr) (m c : Nat) (w : World) :
    Calls Tryz.prog 53 #[.slice A m c] w fun e w' => e = .returned (.func (.func 78) #[] #[.pointer (some ⟨w.heap.size, 0, none⟩)]) ∧ w' = w.alloc (.cells #[.slice A m c] 22) := by
  go_enter Tryz.func53, Tryz.ntmps53
  go_wp2
  go_ret
  exact ⟨rfl, rfl⟩
theorem called_any (id : Int) (w : World) : Calls Tryz.prog 63 #[.int .i64 id] w fun e w' => e = .returned (.func (.func 82) #[] #[.pointer (some ⟨w.heap.size, 0, none⟩)]) ∧ w' = w.alloc (.cells #[.int .i64 id] 3) := by
  go_enter Tryz.func63, Tryz.ntmps63
  go_wp2
  go_ret
  exact ⟨rfl, rfl⟩
theorem called1_any (x : Nl) (id : Int) (B : Nat) (w : World) (hB : Boxed w B 3 (.int .i64 id)) : Calls Tryz.prog 82 #[ndV x, .pointer (some ⟨B, 0, none⟩)] w fun e w' => e = .returned (.bool (x.1.i == id)) ∧ Below w.heap.size w w' := by
  have hc := (hB.alloc (.cells (ndC x) 46)).cell
  have hx := (Blk.new w (ndC x) 46).cell 0
  have b1 := (Below.refl w.heap.size w).alloc (Nat.le_refl _) (.cells (ndC x) 46)
  unfold ndV ndC at *
  simp only [List.getElem?_toArray, List.getElem?_cons_zero] at hx
  go_enter Tryz.func82, Tryz.ntmps82
  go_wp2
  go_ret
  exact ⟨rfl, b1⟩
set_option maxRecDepth 100000 in
set_option maxHeartbeats 4000000 in
theorem pvalues_seq (n : Nat) (hn : 1 ≤ n) (w₀ : World) (n₀ Bl m c : Nat) (A : Option Addr) (L : List Nl) (w : World) (hw₀ : Below n₀ w₀ w) (hP : Po w n₀ A L) (hP0 : ∀ x ∈ L, Nr w₀ n₀ x) (bl : Boxed w Bl 22 (.slice A m c)) (hm : m = L.length) (hmc : m ≤ c) (h6 : m ≤ 1000000) (hBl : Bl < n₀) (hn₀ : n₀ ≤ w.heap.size) :
    SeqStopsK Fence.wide n Tryz.prog 78 #[.pointer (some ⟨Bl, 0, none⟩)] (fun x : Nq w₀ n₀ => #[ndV x.1]) (Below n₀) (fun xs => xs.map (·.1) = L) (fun pre => ∃ k, k < L.length ∧ pre.map (·.1) = L.take (k + 1)) m w := by
  intro lp J Jx W hW hJ hJx hY h0
  have HM := Lib.hid hm
  clear hm
  have blW : Boxed W Bl 22 (.slice A m c) := boxed_below bl hW (by omega)
  have PW := hP.below hW hn₀
  have hnW : n₀ ≤ W.heap.size := Nat.le_trans hn₀ hW.size
  have hc0 := blW.cell
  refine callsIn_of_wp Tryz.func78 rfl trivial ?_ rfl
  simp only [Tryz.ntmps78, List.size_toArray, List.length_cons, List.length_nil, Nat.reduceAdd, Nat.reduceSub, Array.replicate_succ, Array.replicate_zero, List.push_toArray, List.append_toArray, List.nil_append, List.cons_append]
  gi_wp2
  clear hc0
  gi_loopw [7] (fun i wr => ∃ (k : Nat) (pre : List (Nq w₀ n₀)), k ≤ m ∧ i = .int .i64 k ∧ pre.length = k ∧ pre.map (·.1) = L.take k ∧ J pre wr ∧ Below n₀ W wr) (fun i _ => m - (intOf i).toNat)
  case atStart => exact ⟨0, [], Nat.zero_le _, rfl, rfl, rfl, h0, Below.refl _ _⟩
  case round =>
    obtain ⟨k, pre, hk, rfl, hpl, hpm, hJs, hB⟩ := hrel
    have HP := Lib.hid hpm
    have HL := Lib.hid hpl
    clear hpm hpl
    by_cases hlt : k < m
    · have hlt' : (k : Int) < m := by omega
      have hkl : k < L.length := by have := HM.out; omega
      obtain ⟨b, off, rfl, hb, hc⟩ := PW.at_ k hkl
      have hx : Nr w₀ n₀ (L.getD k nl0) := by
        rw [show L.getD k nl0 = L[k] by simp [List.getD, hkl]]
        exact hP0 _ (List.getElem_mem hkl)
      have hcr := range_below hc hB hb
      have ht := Lib.hid (take_snocN L k hkl)
      generalize L.getD k nl0 = x at hcr hx ht hc
      have hlen : pre.length < m := by have := HL.out; omega
      have hne2 : (ndC x).size = 7 := nd_size x
      gi_wp2_with (first
        | (refine wpListIn_load_mid rfl 46 (.tmp 9) rfl b (off + k * 7) rfl (ndC x).toList _ hcr Tryz.underlying46 rfl (nd_infL x) ?_)
        | (refine wpListIn_store_blk rfl 46 (.tmp 4) (.tmp 10) rfl wr.heap.size (ndC nl0) (ndC x) 46 rfl rfl (Blk.new _ _ _) rfl (nd_inf x) (nd_one x) ?_
           intro w1 hw1 hn1
           have b1 : Below wr.heap.size wr w1 := ((Below.refl _ wr).alloc (Nat.le_refl _) _).trans (hn1.below _ (Nat.le_refl _) (by simp))
           have hJ1 := hJ pre wr w1 none hJs (grown_of_below b1) (fun r e => by cases e)
           have hB1 : Below n₀ W w1 := hB.trans (b1.mono (Nat.le_trans hnW hB.size))
           obtain ⟨fn, tmps, assign, body, hy, hRd⟩ := hY pre ⟨x, hx⟩ w1 hJ1 hlen
           simp only [ndV] at hy
           clear hJs hn1)
        | (refine wpListIn_load_row rfl 46 (.tmp 4) rfl wr.heap.size rfl 46 (ndC x) (0, 0) _ hw1.blk Tryz.underlying46 rfl (nd_inf x) ?_))
      have hmap : (pre ++ [(⟨x, hx⟩ : Nq w₀ n₀)]).map (·.1) = L.take (k + 1) := by rw [ht.out, List.map_append, HP.out]; rfl
      have HMP := Lib.hid hmap
      clear hmap
      refine hRd.mono ?_
      rintro e W3 h3
      rcases h3 with ⟨rfl, hJ3, hb3⟩ | ⟨rfl, hJx3⟩
      · gi_wp2
        refine ⟨⟨k + 1, pre ++ [⟨x, hx⟩], by omega, by go_num, ?_, HMP.out, hJ3, hB1.trans hb3⟩, by simp [intOf]; omega⟩
        rw [List.length_append, HL.out]; rfl
      · gi_wp2
        refine bodyPost_ret (results_none rfl _ _ _) rfl ?_
        exact ⟨⟨_, rfl⟩, .inr ⟨_, ⟨k, hkl, HMP.out⟩, hJx3⟩⟩
    · obtain rfl : k = m := by omega
      gi_wp2
      go_end0
      refine ⟨⟨_, rfl⟩, .inl ⟨pre, ?_, hJs⟩⟩
      rw [HP.out, HM.out, List.take_length]
end Go.Proofs.YtelfdpcenplhjaaGreatDoor
namespace Go.Proofs.YtelfdpcenplhjaaGreatDoor
open Go.RowKit Go.Shelf
attribute [local go_sem] Oper.semAt_some
set_option linter.unusedVariables false
set_option linter.unusedSimpArgs false
theorem But.blk7 {w w' : World} {g g' : Nat} {cs : Array Value} {t : TypeId} (h : But g w w') (k : Blk w g' cs t) (hn : g' ≠ g) : Blk w' g' cs t := ⟨(h.block g' k.lt hn).trans k.blk⟩
theorem blk_own {W W' : World} {g : Nat} {cs : Array Value} {t : TypeId} {row : Option Nat} (h : Blk W g cs t) (hg : W.grownBy W' row) (hr : ∀ r, row = some r → ∃ o : Obj, W.heap[r]? = some o ∧ o.isCells = false) : Blk W' g cs t := by
  refine ⟨(hg.block g h.lt (fun e => ?_)).trans h.blk⟩
  obtain ⟨o, ho, hc⟩ := hr g e.symm
  rw [h.blk] at ho
  cases ho
  cases hc
theorem results_cells2 {P : Program} {fn : Func} {p q : Tmp} {ty ty2 : TypeId} (h : fn.results = #[.cell p ty, .cell q ty2]) (tmps : Array Value) (w : World) (g g2 : Nat) (t t2 : TypeId) (cs : Array Value) (v : Value) (d : TypeDesc)
    (hp : tmps.getD p undef = .pointer (some ⟨g, 0, none⟩)) (hq : tmps.getD q undef = .pointer (some ⟨g2, 0, none⟩)) (hg : Blk w g cs t) (hu : P.underlying ty = some d) (hd : (match d with | .struct _ | .array _ _ => true | _ => false) = true) (hi : (P.info? ty).map (·.size) = some cs.size)
    (h2 : (loadVar ty2 ⟨g2, 0, none⟩).run P w = .ok v w) :
    (results fn tmps).run P w = .ok (.tuple #[.agg cs, v]) w := by
  have hp' : tmps[p]?.getD undef = .pointer (some ⟨g, 0, none⟩) := by simpa using hp
  have hq' : tmps[q]?.getD undef = .pointer (some ⟨g2, 0, none⟩) := by simpa using hq
  simp [results, h, hp', hq', asAddr, run_loadVar_row w g t ty cs (0, 0) d hg.blk hu hd hi, h2]
theorem bool_load (w : World) (g : Nat) (b : Bool) (t : TypeId) (h : Blk w g #[.bool b] t) : (loadVar 4 ⟨g, 0, none⟩).run Tryz.prog w = .ok (.bool b) w := by
  have hc := h.cell 0
  simp only [List.getElem?_toArray, List.getElem?_cons_zero] at hc
  have hu := run_underlying Tryz.underlying4
  simp [go_sem, hu, hc]
theorem find_pre {α β : Type} (f : α → β) (bf : β → Bool) {L : List β} {ini : List α} {x : α} {k : Nat} (h : (ini ++ [x]).map f = L.take (k + 1)) (h1 : ∀ y ∈ ini, bf (f y) = false) (h2 : bf (f x) = true) : L.find? bf = some (f x) := by
  have e : L = ini.map f ++ f x :: L.drop (k + 1) := by
    rw [List.map_append] at h
    conv => lhs; rw [← List.take_append_drop (k + 1) L, ← h]
    simp
  rw [e, List.find?_append]
  have : (ini.map f).find? bf = none := List.find?_eq_none.2 fun y hy => by
    obtain ⟨z, hz, rfl⟩ := List.mem_map.1 hy
    rw [h1 z hz]; simp
  rw [this]
  simp [h2]
theorem find_none7 {α β : Type} (f : α → β) (bf : β → Bool) {L : List β} {xs : List α} (h : xs.map f = L) (h1 : ∀ y ∈ xs, bf (f y) = false) : L.find? bf = none := by
  subst h
  refine List.find?_eq_none.2 fun y hy => ?_
  obtain ⟨z, hz, rfl⟩ := List.mem_map.1 hy
  rw [h1 z hz]; simp
theorem rangeF_push (k : Nat) : List.range k ++ [k] = List.range (k + 1) := (List.range_succ).symm
theorem results_cells2i {P : Program} {fn : Func} {p q : Tmp} {ty ty2 : TypeId} (h : fn.results = #[.cell p ty, .cell q ty2]) (tmps : Array Value) (w : World) (g g2 : Nat) (u v : Value)
    (hp : tmps.getD p undef = .pointer (some ⟨g, 0, none⟩)) (hq : tmps.getD q undef = .pointer (some ⟨g2, 0, none⟩)) (h1 : (loadVar ty ⟨g, 0, none⟩).run P w = .ok u w) (h2 : (loadVar ty2 ⟨g2, 0, none⟩).run P w = .ok v w) :
    (results fn tmps).run P w = .ok (.tuple #[u, v]) w := by
  have hp' : tmps[p]?.getD undef = .pointer (some ⟨g, 0, none⟩) := by simpa using hp
  have hq' : tmps[q]?.getD undef = .pointer (some ⟨g2, 0, none⟩) := by simpa using hq
  simp [results, h, hp', hq', asAddr, h1, h2]
theorem int_load (w : World) (g : Nat) (x : Int) (t : TypeId) (h : Blk w g #[.int .i64 x] t) : (loadVar 3 ⟨g, 0, none⟩).run Tryz.prog w = .ok (.int .i64 x) w := by
  have hc := h.cell 0
  simp only [List.getElem?_toArray, List.getElem?_cons_zero] at hc
  have hu := run_underlying Tryz.underlying3
  simp [go_sem, hu, hc]
theorem wpListG_at {P : Program} {ops : Array Oper} {rest : List Oper} {o : Oper} {a : Act} {w : World} {Q : Exit → Act → World → Prop} (hw : Region.wanted o (yielded ops a.tmps) = true)
    (h : ∀ K : Act → World → Prop, (∀ a w, wpList P ops Q rest a w → K a w) → o.wp P a w K Q) : wpList P ops Q (o :: rest) a w :=
  wpList_step fun K hK => by rw [if_pos hw]; exact h K hK
theorem wpListG_load {P : Program} {ops : Array Oper} {rest : List Oper} {o : Oper} {a : Act} {w : World} {Q : Exit → Act → World → Prop} (hw : Region.wanted o (yielded ops a.tmps) = true) (ty : TypeId) (x : Operand) (ho : o.op = .load ty x)
    (g : Nat) (hx : a.eval x = .pointer (some ⟨g, 0, none⟩)) (t : TypeId) (cs : Array Value) (d : TypeDesc) (hg : Blk w g cs t)
    (hu : P.underlying ty = some d) (hd : (match d with | .struct _ | .array _ _ => true | _ => false) = true) (hi : (P.info? ty).map (·.size) = some cs.size)
    (h : wpList P ops Q rest (a.put o.dst (.agg cs)) w) : wpList P ops Q (o :: rest) a w :=
  wpListG_at hw fun _ hK => wp_load_row ty x ho g hx t cs (0, 0) d hg.blk hu hd hi (hK _ _ h)
theorem region_cutP {P : Program} {id : Nat} {ops : Array Oper} {dr : Bool} {Q : Exit → Act → World → Prop} {a : Act} {w : World} (h : (Code.region id ops dr).wp P (fun e a' w' => e = .normal ∧ Q .normal a' w') a w) : (Code.region id ops dr).wp P Q a w :=
  Code.wp_mono (fun e a' w' ⟨he, h⟩ => by subst he; exact h) h
end Go.Proofs.YtelfdpcenplhjaaGreatDoor
namespace Go.Proofs.YtelfdpcenplhjaaGreatDoor
open Go.RowKit Go.Shelf
attribute [local go_sem] Oper.semAt_some
set_option linter.unusedVariables false
set_option linter.unusedSimpArgs false
def NodesFrom (B : Nat) (X Y : World) : Prop := ∀ k cs, B ≤ k → Blk X k cs 46 → Blk Y k cs 46
theorem NodesFrom.trans {B : Nat} {X Y Z : World} (h : NodesFrom B X Y) (k : NodesFrom B Y Z) : NodesFrom B X Z := fun i cs hi hb => k i cs hi (h i cs hi hb)
theorem nodes_below {B : Nat} {X Y : World} (h : Below X.heap.size X Y) : NodesFrom B X Y := fun _ _ _ hb => hb.below h hb.lt
theorem nodes_put {B : Nat} (W : World) (l : Nat) (o o' : Obj) (h : W.heap[l]? = some o) (hc : o.isCells = false) : NodesFrom B W (W.putObj l o') := fun k cs _ hb => by
  have hne : k ≠ l := by
    rintro rfl
    rw [hb.blk] at h
    cases h
    cases hc
  exact ⟨((grownBy_putObj' W l o').block k hb.lt (fun e => hne (Option.some.inj e))).trans hb.blk⟩
theorem seq_weak {α : Type} {F : Fence} {n : Nat} {P : Program} {g : Nat} {lb : Array Value} {encs : α → Array Value} {Kp Kp' : World → World → Prop} {S Sp : List α → Prop} {N : Nat} {w : World} (h : SeqStopsK F n P g lb encs Kp S Sp N w) (hk : ∀ X Y, Kp' X Y → Kp X Y) : SeqStopsK F n P g lb encs Kp' S Sp N w := fun l J Jx W hW hJ hJx hY h0 =>
  h l J Jx W hW hJ hJx (fun pre x W1 hJ1 hl => by
    obtain ⟨fn, tmps, assign, body, hy, hR⟩ := hY pre x W1 hJ1 hl
    refine ⟨fn, tmps, assign, body, hy, hR.mono ?_⟩
    rintro e W' (⟨h1, h2, h3⟩ | h1)
    · exact .inl ⟨h1, h2, hk _ _ h3⟩
    · exact .inr h1) h0
def fI (w : World) (cf : Nat) (cb : Array Value) (bf : Nm → Bool) {n₀ : Nat} (pre : List (Nq w n₀)) (W : World) : Prop :=
  ((∀ x ∈ pre, bf x.1.1 = false) ∧ Blk W w.heap.size #[.func (.func cf) #[] cb] 90 ∧ Blk W (w.heap.size + 1) (ndC nl0) 46 ∧ Blk W (w.heap.size + 1 + 1) #[.bool false] 4) ∧ Below w.heap.size w W
def fX (w : World) (bf : Nm → Bool) {n₀ : Nat} (cd : Code) (pre : List (Nq w n₀)) (W : World) : Prop :=
  (cd = .ret ∧ ∃ ini x, pre = ini ++ [x] ∧ (∀ y ∈ ini, bf y.1.1 = false) ∧ bf x.1.1 = true ∧ Blk W (w.heap.size + 1) (ndC x.1) 46 ∧ Blk W (w.heap.size + 1 + 1) #[.bool true] 4) ∧ Below w.heap.size w W
set_option maxRecDepth 100000 in
set_option maxHeartbeats 4000000 in
theorem first_in (gf : Nat) (lb : Array Value) (cf : Nat) (cb : Array Value) (L : List Nl) (bf : Nm → Bool) (N : Nat) (w : World)
    (eg : ∀ args w, (callFunc gf args).run Tryz.prog w = .ok (.enter gf args) w) (ec : ∀ args w, (callFunc cf args).run Tryz.prog w = .ok (.enter cf args) w)
    (hseq : ∀ w', Below w.heap.size w w' → SeqStopsK Fence.wide 5 Tryz.prog gf lb (fun x : Nq w w.heap.size => #[ndV x.1]) (fun X Y => Below w.heap.size X Y ∧ NodesFrom w'.heap.size X Y) (fun xs => xs.map (·.1) = L) (fun pre => ∃ k, k < L.length ∧ pre.map (·.1) = L.take (k + 1)) N w')
    (hclo : ∀ (x : Nl) (W : World), Below w.heap.size w W → Nr W w.heap.size x → Calls Tryz.prog cf (#[ndV x] ++ cb) W fun e w' => e = .returned (.bool (bf x.1)) ∧ Below W.heap.size W w') :
    CallsIn Fence.wide 6 Tryz.prog 52 #[.func (.func gf) #[] lb, .func (.func cf) #[] cb] w fun e w' =>
      ∃ r b, e = .returned (.tuple #[ndV r, .bool b]) ∧ (L.find? (fun x => bf x.1) = some r ∧ b = true ∨ L.find? (fun x => bf x.1) = none ∧ r = nl0 ∧ b = false) ∧ Below w.heap.size w w' := by
  refine callsIn_of_wp_marks Tryz.func52 rfl trivial ?_ rfl
  simp only [Tryz.ntmps52, List.size_toArray, List.length_cons, List.length_nil, Nat.reduceAdd, Nat.reduceSub, Array.replicate_succ, Array.replicate_zero, List.push_toArray, List.append_toArray, List.nil_append, List.cons_append]
  gi_wp2
  have b0 := ((Blk.new w #[.func (.func cf) #[] cb] 90).alloc (.cells (ndC nl0) 46)).alloc (.cells #[.bool false] 4)
  have b1 := (Blk.new_ (w.alloc (.cells #[.func (.func cf) #[] cb] 90)) (ndC nl0) 46 (n := w.heap.size + 1) (by simp)).alloc (.cells #[.bool false] 4)
  have b2 := Blk.new_ ((w.alloc (.cells #[.func (.func cf) #[] cb] 90)).alloc (.cells (ndC nl0) 46)) #[.bool false] 4 (n := w.heap.size + 1 + 1) (by simp)
  have hB0 : Below w.heap.size w (((w.alloc (.cells #[.func (.func cf) #[] cb] 90)).alloc (.cells (ndC nl0) 46)).alloc (.cells #[.bool false] 4)) := (((Below.refl _ w).alloc (Nat.le_refl _) _).alloc (by simp) _).alloc (by simp; omega) _
  have hsz : (((w.alloc (.cells #[.func (.func cf) #[] cb] 90)).alloc (.cells (ndC nl0) 46)).alloc (.cells #[.bool false] 4)).heap.size = w.heap.size + 1 + 1 + 1 := by simp
  show Code.wpIn _ _ _ _ _ _ (((w.alloc (.cells #[.func (.func cf) #[] cb] 90)).alloc (.cells (ndC nl0) 46)).alloc (.cells #[.bool false] 4))
  generalize ((w.alloc (.cells #[.func (.func cf) #[] cb] 90)).alloc (.cells (ndC nl0) 46)).alloc (.cells #[.bool false] 4) = w0 at b0 b1 b2 hB0 hsz ⊢
  refine wpIn_rangeFunc_ownH rfl (by omega) (gf := gf) (lb := lb) rfl trivial eg (hseq w0 hB0) (fun h k => ⟨h.1.trans k.1, h.2.trans k.2⟩) (fun W l o o' hl h hc hw => ⟨belowK_b hB0.size W l o o' hl h hc hw, nodes_put W l o o' h hc⟩) (Below.refl _ _) (fun _ => rfl)
    (fI w cf cb bf) (fX w bf) ?hI ?hIx ⟨⟨by simp, b0, b1, b2⟩, hB0⟩
    (fun x a' W => ∃ g, a' = { tmps := #[.func (.func gf) #[] lb, .func (.func cf) #[] cb, undef, .pointer (some ⟨w.heap.size, 0, none⟩), .pointer (some ⟨w.heap.size + 1, 0, none⟩), .pointer (some ⟨w.heap.size + 1 + 1, 0, none⟩), .pointer (some ⟨g, 0, none⟩), undef, .func (.func gf) #[] lb, ndV x.1, undef, undef, undef, undef, undef], defers := [] } ∧ Blk W g (ndC x.1) 46 ∧ w.heap.size + 1 + 1 < g)
    ?hAx ?assign ?body ?done ?stop
  case hI => exact OwnFrom.and (Own.from (fun s A B row hs hg hr => ⟨hs.1, blk_own hs.2.1 hg hr, blk_own hs.2.2.1 hg hr, blk_own hs.2.2.2 hg hr⟩) _) (ownFrom_below (Nat.le_refl _) hB0.size)
  case hIx => exact fun cd => OwnFrom.and (Own.from (fun s A B row hs hg hr => by obtain ⟨hc, ini, x, e1, e2, e3, e4, e5⟩ := hs; exact ⟨hc, ini, x, e1, e2, e3, blk_own e4 hg hr, blk_own e5 hg hr⟩) _) (ownFrom_below (Nat.le_refl _) hB0.size)
  case hAx =>
    intro x a'
    exact Own.from (fun s A B row hs hg hr => by obtain ⟨g, e, hb, hl⟩ := hs; exact ⟨g, e, blk_own hb hg hr, hl⟩) _
  case assign =>
    rintro l pre x W K ⟨⟨hp, c0, c1, c2⟩, hB⟩ hK
    gi_wp2_with (refine wpListIn_store_blk rfl 46 (.tmp 6) (.tmp 9) rfl W.heap.size (ndC nl0) (ndC x.1) 46 rfl rfl (Blk.new _ _ _) rfl (nd_inf x.1) (nd_one x.1) ?_
                 intro w1 hw1 hn1
                 have bb : Below W.heap.size W w1 := ((Below.refl _ W).alloc (Nat.le_refl _) _).trans (hn1.below _ (Nat.le_refl _) (by simp)))
    refine hK _ _ ((keeps_below bb).from _) ⟨bb.mono hB.size, nodes_below bb⟩ ⟨⟨hp, c0.below bb c0.lt, c1.below bb c1.lt, c2.below bb c2.lt⟩, hB.trans (bb.mono hB.size)⟩ ⟨W.heap.size, rfl, hw1, c2.lt⟩
  case body =>
    rintro l pre x a' W hwl _ ⟨⟨hp, c0, c1, c2⟩, hB⟩ ⟨g, rfl, hg, hgl⟩ _
    have hx := x.2.below hB (Nat.le_refl _)
    have hc := CallsIn.inRound l (callsIn_wide (n := 3) |>.2 (hclo x.1 W hB hx))
    have q0 := c0.cell 0
    simp only [List.getElem?_toArray, List.getElem?_cons_zero] at q0
    simp only [ndV] at hc
    cases hbx : bf x.1.1
    · rw [hbx] at hc
      gi_wp2_with (refine wpListIn_load_row rfl 46 (.tmp 6) rfl g rfl 46 (ndC x.1) (0, 0) _ hg.blk Tryz.underlying46 rfl (nd_inf x.1) ?_)
      refine ⟨trivial, hc.mono ?_⟩
      rintro e V1 ⟨rfl, b1⟩
      gi_wp2
      refine ⟨(keeps_below b1).from _, ⟨b1.mono hB.size, nodes_below b1⟩, ⟨fun y hy => ?_, c0.below b1 c0.lt, c1.below b1 c1.lt, c2.below b1 c2.lt⟩, hB.trans (b1.mono hB.size)⟩
      rcases List.mem_append.1 hy with h | h
      · exact hp y h
      · simp at h; subst h; exact hbx
    · rw [hbx] at hc
      gi_wp2_with (refine wpListIn_load_row rfl 46 (.tmp 6) rfl g rfl 46 (ndC x.1) (0, 0) _ hg.blk Tryz.underlying46 rfl (nd_inf x.1) ?_)
      refine ⟨trivial, hc.mono ?_⟩
      rintro e V1 ⟨rfl, b1⟩
      have hg1 := hg.below b1 hg.lt
      have d1 := c1.below b1 c1.lt
      have d2 := c2.below b1 c2.lt
      have hB1 := hB.trans (b1.mono hB.size)
      gi_wp2_with (first
        | (refine wpListIn_load_row rfl 46 (.tmp 6) rfl g rfl 46 (ndC x.1) (0, 0) _ hg1.blk Tryz.underlying46 rfl (nd_inf x.1) ?_)
        | (refine wpListIn_store_blk rfl 46 (.tmp 4) (.tmp 13) rfl (w.heap.size + 1) (ndC nl0) (ndC x.1) 46 rfl rfl d1 rfl (nd_inf x.1) (nd_one x.1) ?_
           intro V2 h2 n2
           have d22 : Blk V2 (w.heap.size + 1 + 1) #[.bool false] 4 := n2.blk7 d2 (by omega)
           have q2 := d22.cell 0
           have f2 := d22.frozen 0
           simp only [List.getElem?_toArray, List.getElem?_cons_zero] at q2))
      have kk : KeepsFrom (w.heap.size + 1 + 1 + 1) W (V2.setCell ⟨w.heap.size + 1 + 1, 0, none⟩ (.bool true)) := by
        refine ((keeps_below b1).from _).trans (⟨n2.size, fun k o hk ho _ => (n2.block k (Array.getElem?_eq_some_iff.1 ho).1 (by omega)).trans ho⟩ |> fun h => KeepsFrom.trans h ((KeepsOthers.setCell V2 _ _).from _))
      rw [hsz]
      refine ⟨kk, ⟨rfl, pre, x, rfl, hp, hbx, h2.far (by simp) _, d22.set_ 0 (.bool true)⟩, (hB1.trans (n2.below _ (by omega) hB1.size)).setCell (p := ⟨w.heap.size + 1 + 1, 0, none⟩) (by simp; omega) _⟩
  case done =>
    rintro D xs W hD hS ⟨⟨hp, c0, c1, c2⟩, hB⟩ hK
    have e1 : Below W.heap.size W (W.alloc (.cells (ndC nl0) 46)) := (Below.refl _ _).alloc (Nat.le_refl _) _
    have d1 := c1.below e1 c1.lt
    have d2 := c2.below e1 c2.lt
    have hg1 := Blk.new W (ndC nl0) 46
    have hfn := find_none7 (fun x : Nq w w.heap.size => x.1) (fun x : Nl => bf x.1) hS hp
    gi_wp2_with (first
      | (refine wpListIn_load_row rfl 46 (.tmp 7) rfl W.heap.size rfl 46 (ndC nl0) (0, 0) _ hg1.blk Tryz.underlying46 rfl (nd_inf nl0) ?_)
      | (refine wpListIn_store_blk rfl 46 (.tmp 4) (.tmp 14) rfl (w.heap.size + 1) (ndC nl0) (ndC nl0) 46 rfl rfl d1 rfl (nd_inf nl0) (nd_one nl0) ?_
         intro V2 h2 n2
         have d22 : Blk V2 (w.heap.size + 1 + 1) #[.bool false] 4 := n2.blk7 d2 (by omega)
         have q2 := d22.cell 0
         have f2 := d22.frozen 0
         simp only [List.getElem?_toArray, List.getElem?_cons_zero] at q2))
    have hDW : D < W.heap.size := (Array.getElem?_eq_some_iff.1 hK).1
    have hK2 : V2.heap[D]? = some (.deferred (some [])) := (n2.block D (by simp; omega) (by omega)).trans ((Below.heap_alloc W _ D hDW).trans hK)
    have hK3 : (V2.setCell ⟨w.heap.size + 1 + 1, 0, none⟩ (.bool false)).heap[D]? = some (.deferred (some [])) := (KeepsOthers.setCell V2 _ _).same D _ hK2 rfl
    have h3 : Blk (V2.setCell ⟨w.heap.size + 1 + 1, 0, none⟩ (.bool false)) (w.heap.size + 1) (ndC nl0) 46 := h2.far (by simp) _
    have d3 : Blk (V2.setCell ⟨w.heap.size + 1 + 1, 0, none⟩ (.bool false)) (w.heap.size + 1 + 1) #[.bool false] 4 := d22.set_ 0 (.bool false)
    have hs2 := n2.size
    simp only [World.size_alloc] at hs2
    have hB2 : Below w.heap.size w V2 := (hB.trans (e1.mono hB.size)).trans (n2.below _ (by omega) (by simp; have := hB.size; omega))
    have hB3 := hB2.setCell (p := ⟨w.heap.size + 1 + 1, 0, none⟩) (by simp; omega) (.bool false)
    generalize V2.setCell ⟨w.heap.size + 1 + 1, 0, none⟩ (.bool false) = V3 at hK3 h3 d3 hB3 ⊢
    have hg3 := grownBy_putObj' V3 D (.deferred none)
    have hr3 : ∀ r, some D = some r → ∃ o : Obj, V3.heap[r]? = some o ∧ o.isCells = false := fun r e => by cases e; exact ⟨_, hK3, rfl⟩
    refine ⟨by simp, .inl ⟨_, _, rfl, run_takeDeferred hK3, ?_⟩⟩
    refine ⟨_, results_cells2 rfl _ _ (w.heap.size + 1) (w.heap.size + 1 + 1) 46 4 (ndC nl0) (.bool false) _ rfl rfl (blk_own h3 hg3 hr3) Tryz.underlying46 rfl (nd_inf nl0) (bool_load _ _ _ _ (blk_own d3 hg3 hr3)), ?_⟩
    exact ⟨nl0, false, rfl, .inr ⟨hfn, rfl, rfl⟩, hB3.trans (belowK_b (w := w) (Nat.le_refl _) V3 D _ _ (by omega) hK3 rfl rfl)⟩
  case stop =>
    rintro D cd pre W hD ⟨k, hk, hpre⟩ ⟨⟨rfl, ini, x, rfl, h1, h2, c1, c2⟩, hB⟩ hK
    have hfx := find_pre (fun x : Nq w w.heap.size => x.1) (fun x : Nl => bf x.1) hpre h1 h2
    have hg3 := grownBy_putObj' W D (.deferred none)
    have hr3 : ∀ r, some D = some r → ∃ o : Obj, W.heap[r]? = some o ∧ o.isCells = false := fun r e => by cases e; exact ⟨_, hK, rfl⟩
    gi_wp2
    refine ⟨by simp, .inl ⟨_, _, rfl, run_takeDeferred hK, ?_⟩⟩
    refine ⟨_, results_cells2 rfl _ _ (w.heap.size + 1) (w.heap.size + 1 + 1) 46 4 (ndC x.1) (.bool true) _ rfl rfl (blk_own c1 hg3 hr3) Tryz.underlying46 rfl (nd_inf x.1) (bool_load _ _ _ _ (blk_own c2 hg3 hr3)), ?_⟩
    exact ⟨x.1, true, rfl, .inl ⟨hfx, rfl⟩, hB.trans (belowK_b (w := w) (Nat.le_refl _) W D _ _ (by omega) hK rfl rfl)⟩
theorem first_any (gf : Nat) (lb : Array Value) (cf : Nat) (cb : Array Value) (L : List Nl) (bf : Nm → Bool) (N : Nat) (w : World)
    (eg : ∀ args w, (callFunc gf args).run Tryz.prog w = .ok (.enter gf args) w) (ec : ∀ args w, (callFunc cf args).run Tryz.prog w = .ok (.enter cf args) w)
    (hseq : ∀ w', Below w.heap.size w w' → SeqStopsK Fence.wide 5 Tryz.prog gf lb (fun x : Nq w w.heap.size => #[ndV x.1]) (fun X Y => Below w.heap.size X Y ∧ NodesFrom w'.heap.size X Y) (fun xs => xs.map (·.1) = L) (fun pre => ∃ k, k < L.length ∧ pre.map (·.1) = L.take (k + 1)) N w')
    (hclo : ∀ (x : Nl) (W : World), Below w.heap.size w W → Nr W w.heap.size x → Calls Tryz.prog cf (#[ndV x] ++ cb) W fun e w' => e = .returned (.bool (bf x.1)) ∧ Below W.heap.size W w') :
    Calls Tryz.prog 52 #[.func (.func gf) #[] lb, .func (.func cf) #[] cb] w fun e w' =>
      ∃ r b, e = .returned (.tuple #[ndV r, .bool b]) ∧ (L.find? (fun x => bf x.1) = some r ∧ b = true ∨ L.find? (fun x => bf x.1) = none ∧ r = nl0 ∧ b = false) ∧ Below w.heap.size w w' := callsIn_wide.1 (first_in gf lb cf cb L bf N w eg ec hseq hclo)
end Go.Proofs.YtelfdpcenplhjaaGreatDoor
namespace Go.Proofs.YtelfdpcenplhjaaGreatDoor
open Go.RowKit Go.Shelf
set_option linter.unusedVariables false
set_option linter.unusedSimpArgs false
def RowR (L : List Nl) (id : Int) (r : Nl) (b : Bool) : Prop := L.find? (fun x => x.1.i == id) = some r ∧ b = true ∨ L.find? (fun x => x.1.i == id) = none ∧ r = nl0 ∧ b = false
theorem RowR.nr {L : List Nl} {id : Int} {r : Nl} {b : Bool} {w : World} {B : Nat} (h : RowR L id r b) (hL : ∀ x ∈ L, Nr w B x) : Nr w B r := by
  rcases h with ⟨h, _⟩ | ⟨_, rfl, _⟩
  · exact hL _ (List.mem_of_find?_eq_some h)
  · exact nr0
theorem results_rowT {P : Program} {fn : Func} {p u : Tmp} {ty : TypeId} (h : fn.results = #[.cell p ty, .tmp u]) (tmps : Array Value) (w : World) (g : Nat) (t : TypeId) (cs : Array Value) (d : TypeDesc)
    (hp : tmps.getD p undef = .pointer (some ⟨g, 0, none⟩)) (hg : Blk w g cs t) (hu : P.underlying ty = some d) (hd : (match d with | .struct _ | .array _ _ => true | _ => false) = true) (hi : (P.info? ty).map (·.size) = some cs.size) (v : Value) (hv : tmps.getD u undef = v) :
    (results fn tmps).run P w = .ok (.tuple #[.agg cs, v]) w := results_row_tmp h tmps w g t cs (0, 0) d hp hg.blk hu hd hi v hv
theorem pvalues_box (A : Option Addr) (m c : Nat) (w : World) :
    Calls Tryz.prog 53 #[.slice A m c] w fun e w' => ∃ g, e = .returned (.func (.func 78) #[] #[.pointer (some ⟨g, 0, none⟩)]) ∧ Boxed w' g 22 (.slice A m c) ∧ Below w.heap.size w w' :=
  (pvalues_any A m c w).mono fun e w' ⟨h1, h2⟩ => ⟨_, h1, by rw [h2]; exact Boxed.new _ _ _, by rw [h2]; exact (Below.refl _ _).alloc (Nat.le_refl _) _⟩
theorem called_box (id : Int) (w : World) : Calls Tryz.prog 63 #[.int .i64 id] w fun e w' => ∃ g, e = .returned (.func (.func 82) #[] #[.pointer (some ⟨g, 0, none⟩)]) ∧ Boxed w' g 3 (.int .i64 id) ∧ Below w.heap.size w w' :=
  (called_any id w).mono fun e w' ⟨h1, h2⟩ => ⟨_, h1, by rw [h2]; exact Boxed.new _ _ _, by rw [h2]; exact (Below.refl _ _).alloc (Nat.le_refl _) _⟩
theorem firstV_any (A : Option Addr) (m c : Nat) (L : List Nl) (id : Int) (gv gc : Nat) (w : World) (hP : Po w w.heap.size A L) (hm : m = L.length) (hmc : m ≤ c) (h6 : m ≤ 1000000) (hv : Boxed w gv 22 (.slice A m c)) (hc : Boxed w gc 3 (.int .i64 id)) :
    Calls Tryz.prog 52 #[.func (.func 78) #[] #[.pointer (some ⟨gv, 0, none⟩)], .func (.func 82) #[] #[.pointer (some ⟨gc, 0, none⟩)]] w fun e w' => ∃ r b, e = .returned (.tuple #[ndV r, .bool b]) ∧ RowR L id r b ∧ Below w.heap.size w w' :=
  first_any _ _ _ _ L (fun x => x.i == id) m w (enters_of Tryz.func78 (by kernel_rfl) rfl) (enters_of Tryz.func82 (by kernel_rfl) rfl)
    (fun w' hw' => seq_weak (pvalues_seq 5 (by omega) w w.heap.size gv m c A L w' hw' (hP.below hw' (Nat.le_refl _)) hP.nr (boxed_below hv hw' hv.lt) hm hmc h6 hv.lt hw'.size) fun _ _ h => h.1)
    (fun x W hW _ => called1_any x id gc W (boxed_below hc hW hc.lt))
set_option maxRecDepth 100000 in
set_option maxHeartbeats 4000000 in
theorem row_any (A : Option Addr) (m c : Nat) (L : List Nl) (id : Int) (w : World) (hP : Po w w.heap.size A L) (hm : m = L.length) (hmc : m ≤ c) (h6 : m ≤ 1000000) :
    Calls Tryz.prog 44 #[poV A m c, .int .i64 id] w fun e w' => ∃ r b, e = .returned (.tuple #[ndV r, .bool b]) ∧ RowR L id r b ∧ Below w.heap.size w w' := by
  have k2 := (Boxed.new w 24 (.slice A m c)).alloc (.cells (ndC nl0) 46)
  have k4 := Blk.new_ (w.alloc (.cells #[.slice A m c] 24)) (ndC nl0) 46 (n := w.heap.size + 1) (by simp)
  have B0 := ((Below.refl w.heap.size w).alloc (Nat.le_refl _) (.cells #[.slice A m c] 24)).alloc (by simp) (.cells (ndC nl0) 46)
  have HM := Lib.hid hm
  clear hm
  unfold poV
  go_enter Tryz.func44, Tryz.ntmps44
  have c2 := k2.cell
  go_wp2_with fail
  refine (pvalues_box A m c _).mono ?_
  rintro e w1 ⟨gv, rfl, hv, bb⟩
  have b1 : Below w.heap.size w w1 := B0.trans (bb.mono (by simp; omega))
  have k41 := k4.below bb k4.lt
  clear bb B0 k4 k2 c2
  go_wp2_with fail
  refine (called_box id _).mono ?_
  rintro e w2 ⟨gc, rfl, hc, bb⟩
  have b2 := b1.trans (bb.mono b1.size)
  have k42 := k41.below bb k41.lt
  have hv2 := boxed_below hv bb hv.lt
  clear bb b1 k41 hv
  go_wp2_with fail
  refine (firstV_any A m c L id gv gc w2 ((hP.below b2 (Nat.le_refl _)).more b2.size) HM.out hmc h6 hv2 hc).mono ?_
  rintro e w3 ⟨r, b, rfl, hr, bb⟩
  have b3 := b2.trans (bb.mono b2.size)
  have k43 := k42.below bb k42.lt
  have HR := Lib.hid hr
  clear bb b2 k42 hv2 hc hr
  unfold ndV
  go_wp2_with (refine wpList_store_blk rfl 46 (.tmp 4) (.tmp 12) rfl (w.heap.size + 1) (ndC nl0) (ndC r) 46 rfl rfl k43 rfl (nd_inf r) (nd_one r) ?_; intro w4 h4 n4)
  refine bodyPost_ret (results_rowT rfl _ _ (w.heap.size + 1) 46 (ndC r) _ rfl h4 Tryz.underlying46 rfl (nd_inf r) _ rfl) rfl ?_
  exact ⟨r, b, rfl, HR.out, b3.trans (n4.below _ (by omega) b3.size)⟩
end Go.Proofs.YtelfdpcenplhjaaGreatDoor
namespace Go.Proofs.YtelfdpcenplhjaaGreatDoor
open Go.RowKit Go.Shelf
set_option linter.unusedVariables false
set_option linter.unusedSimpArgs false
theorem psize_any (A : Option Addr) (m c : Nat) (x : Nl) (hx : NmOk x.1) (hm : m ≤ 1000000000) (w : World) :
    Calls Tryz.prog 69 #[.slice A m c, ndV x] w fun e w' => e = .returned (.int .i64 (IntKind.i64.wrap ((m : Int) + 4 + x.1.z))) ∧ Below w.heap.size w w' := by
  have hb := (Blk.new w (ndC x) 46).cell 3
  have b1 := (Below.refl w.heap.size w).alloc (Nat.le_refl _) (.cells (ndC x) 46)
  obtain ⟨z0, z1⟩ := hx.z
  unfold ndV ndC at *
  simp only [List.getElem?_toArray, List.getElem?_cons_zero, List.getElem?_cons_succ] at hb
  generalize hz : IntKind.i64.wrap ((m : Int) + 4 + x.1.z) = zz
  have hz' : IntKind.i64.wrap ((m : Int) + 4 + x.1.z) = zz := hz
  clear hz
  have HZ := Lib.hid hz'
  clear hz'
  go_enter Tryz.func69, Tryz.ntmps69
  go_wp2
  go_ret
  refine ⟨?_, b1⟩
  rw [← HZ.out]
  simp [wrap64, IntKind.wrap_i64]
def kidsN (L : List Nl) (id : Int) : Nat := L.countP fun x => x.1.p == id
theorem kids_le (L : List Nl) (id : Int) : kidsN L id ≤ L.length := List.countP_le_length
set_option maxRecDepth 100000 in
set_option maxHeartbeats 2000000 in
theorem children_any (A : Option Addr) (m c : Nat) (L : List Nl) (id : Int) (w : World) (hP : Po w w.heap.size A L) (hm : m = L.length) (hmc : m ≤ c) (h6 : m ≤ 1000000) :
    Calls Tryz.prog 45 #[poV A m c, .int .i64 id] w fun e w' => e = .returned (.int .i64 (kidsN L id)) ∧ Below w.heap.size w w' := by
  have k2 := (Boxed.new w 24 (.slice A m c)).cell
  have B0 := (Below.refl w.heap.size w).alloc (Nat.le_refl _) (.cells #[.slice A m c] 24)
  have HM := Lib.hid hm
  clear hm
  unfold poV
  go_enter Tryz.func45, Tryz.ntmps45
  go_wp2_with fail
  clear k2
  generalize w.alloc (.cells #[.slice A m c] 24) = w0 at B0 ⊢
  go_loopw [5, 11] (fun n i wr' => ∃ (k : Nat) (wr : World), wr = wr' ∧ k ≤ m ∧ i = .int .i64 k ∧ n = .int .i64 (kidsN (L.take k) id) ∧ Below w.heap.size w wr) (fun _ i _ => m - (intOf i).toNat)
  case atStart => exact ⟨0, _, rfl, Nat.zero_le _, rfl, rfl, B0⟩
  case round =>
    clear B0
    obtain ⟨k, wr, hwr, hk, rfl, rfl, hB⟩ := hrel
    subst hwr
    by_cases hlt : k < m
    · have hlt' : (k : Int) < (m : Int) := by omega
      have hkl : k < L.length := by have := HM.out; omega
      obtain ⟨b, off, rfl, hb, hc⟩ := (hP.below hB (Nat.le_refl _)).at_ k hkl
      have hst : kidsN (L.take (k + 1)) id = kidsN (L.take k) id + if (L.getD k nl0).1.p == id then 1 else 0 := by
        unfold kidsN
        rw [take_snocN L k hkl, List.countP_append, List.countP_singleton]
      have hkn := kids_le (L.take k) id
      rw [List.length_take] at hkn
      generalize L.getD k nl0 = x at hc hst
      generalize kidsN (L.take k) id = kn at hst hkn
      have hkn' : kn ≤ 1000000 := by omega
      have hs2 : (ndC x).size = 7 := nd_size x
      have HST := Lib.hid hst
      clear hst
      cases hx : (x.1.p == id)
      all_goals
        have hx' : (x.1.p == id) = _ := hx
        have HX := Lib.hid hx'
        clear hx hx'
        go_wp2_with (first
          | (refine wpList_load_mid rfl 46 (.tmp 13) rfl b (off + k * 7) rfl (ndC x).toList _ hc Tryz.underlying46 rfl (nd_infL x) ?_)
          | (refine wpList_store_blk rfl 46 (.tmp 7) (.tmp 14) rfl wr.heap.size (ndC nl0) (ndC x) 46 rfl rfl (Blk.new _ _ _) rfl (nd_inf x) (nd_one x) ?_
             intro w1 hw1 hn1
             have bb : Below wr.heap.size wr w1 := ((Below.refl _ wr).alloc (Nat.le_refl _) _).trans (hn1.below _ (Nat.le_refl _) (by simp))
             have hB1 := hB.trans (bb.mono hB.size)
             have q1 := hw1.cell 1
             simp only [ndC, List.getElem?_toArray, List.getElem?_cons_zero, List.getElem?_cons_succ] at q1
             have hxx := HX.out
             clear hn1 bb hw1))
        go_roundw
        case rel => exact ⟨k + 1, _, rfl, by omega, by go_num, by rw [HST.out, HX.out]; simp, hB1⟩
        case measure => simp [intOf]; omega
    · obtain rfl : k = m := by omega
      have ht : L.take k = L := by rw [HM.out, List.take_length]
      rw [ht]
      go_wp2_with fail
      go_ret
      exact ⟨rfl, hB⟩
def riseB : Int → List Nl → Bool
  | _, [] => true
  | l, x :: xs => !(decide (x.1.i ≤ l) || decide (24 < x.1.i)) && riseB x.1.i xs
theorem rise_drop {l : Int} {L : List Nl} {k : Nat} (hk : k < L.length) : riseB l (L.drop k) = (!(decide ((L.getD k nl0).1.i ≤ l) || decide (24 < (L.getD k nl0).1.i)) && riseB (L.getD k nl0).1.i (L.drop (k + 1))) := by
  have e : L.drop k = L.getD k nl0 :: L.drop (k + 1) := by
    rw [List.drop_eq_getElem_cons hk]
    simp [List.getD, hk]
  rw [e]
  rfl
set_option maxRecDepth 100000 in
set_option maxHeartbeats 2000000 in
theorem rise_any (A : Option Addr) (m c : Nat) (L : List Nl) (w : World) (hP : Po w w.heap.size A L) (hm : m = L.length) (hmc : m ≤ c) (h6 : m ≤ 1000000) :
    Calls Tryz.prog 51 #[poV A m c] w fun e w' => e = .returned (.bool (riseB 0 L)) ∧ Below w.heap.size w w' := by
  have k2 := (Boxed.new w 24 (.slice A m c)).cell
  have B0 := (Below.refl w.heap.size w).alloc (Nat.le_refl _) (.cells #[.slice A m c] 24)
  have HM := Lib.hid hm
  clear hm
  unfold poV
  go_enter Tryz.func51, Tryz.ntmps51
  go_wp2_with fail
  clear k2
  generalize w.alloc (.cells #[.slice A m c] 24) = w0 at B0 ⊢
  go_loopw [3, 9] (fun l i wr' => ∃ (k : Nat) (lv : Int) (wr : World), wr = wr' ∧ k ≤ m ∧ i = .int .i64 k ∧ l = .int .i64 lv ∧ riseB 0 L = riseB lv (L.drop k) ∧ Below w.heap.size w wr) (fun _ i _ => m - (intOf i).toNat)
  case atStart => exact ⟨0, 0, _, rfl, Nat.zero_le _, rfl, rfl, by simp, B0⟩
  case round =>
    clear B0
    obtain ⟨k, lv, wr, hwr, hk, rfl, rfl, hinv, hB⟩ := hrel
    subst hwr
    by_cases hlt : k < m
    · have hlt' : (k : Int) < (m : Int) := by omega
      have hkl : k < L.length := by have := HM.out; omega
      obtain ⟨b, off, rfl, hb, hc⟩ := (hP.below hB (Nat.le_refl _)).at_ k hkl
      rw [rise_drop hkl] at hinv
      generalize L.getD k nl0 = x at hc hinv
      have HI := Lib.hid hinv
      clear hinv
      have hs2 : (ndC x).size = 7 := nd_size x
      cases h1 : decide (x.1.i ≤ lv)
      · cases h2 : decide (24 < x.1.i)
        · have hi := HI.out
          rw [h1, h2] at hi
          have HI2 := Lib.hid hi
          have H1 := Lib.hid h1
          have H2 := Lib.hid h2
          clear hi h1 h2
          go_wp2_with (first
            | (refine wpList_load_mid rfl 46 (.tmp 11) rfl b (off + k * 7) rfl (ndC x).toList _ hc Tryz.underlying46 rfl (nd_infL x) ?_)
            | (refine wpList_store_blk rfl 46 (.tmp 5) (.tmp 12) rfl wr.heap.size (ndC nl0) (ndC x) 46 rfl rfl (Blk.new _ _ _) rfl (nd_inf x) (nd_one x) ?_
               intro w1 hw1 hn1
               have bb : Below wr.heap.size wr w1 := ((Below.refl _ wr).alloc (Nat.le_refl _) _).trans (hn1.below _ (Nat.le_refl _) (by simp))
               have hB1 := hB.trans (bb.mono hB.size)
               have q0 := hw1.cell 0
               simp only [ndC, List.getElem?_toArray, List.getElem?_cons_zero] at q0
               have h1 := H1.out
               have h2 := H2.out
               clear hn1 bb hw1))
          go_roundw
          case rel => exact ⟨k + 1, x.1.i, _, rfl, by omega, by go_num, rfl, by rw [HI2.out]; simp, hB1⟩
          case measure => simp [intOf]; omega
        · have hi := HI.out
          rw [h1, h2] at hi
          have HI2 := Lib.hid hi
          have H1 := Lib.hid h1
          have H2 := Lib.hid h2
          clear hi h1 h2
          go_wp2_with (first
            | (refine wpList_load_mid rfl 46 (.tmp 11) rfl b (off + k * 7) rfl (ndC x).toList _ hc Tryz.underlying46 rfl (nd_infL x) ?_)
            | (refine wpList_store_blk rfl 46 (.tmp 5) (.tmp 12) rfl wr.heap.size (ndC nl0) (ndC x) 46 rfl rfl (Blk.new _ _ _) rfl (nd_inf x) (nd_one x) ?_
               intro w1 hw1 hn1
               have bb : Below wr.heap.size wr w1 := ((Below.refl _ wr).alloc (Nat.le_refl _) _).trans (hn1.below _ (Nat.le_refl _) (by simp))
               have hB1 := hB.trans (bb.mono hB.size)
               have q0 := hw1.cell 0
               simp only [ndC, List.getElem?_toArray, List.getElem?_cons_zero] at q0
               have h1 := H1.out
               have h2 := H2.out
               clear hn1 bb hw1))
          go_ret
          exact ⟨by rw [HI2.out]; rfl, hB1⟩
      · have hi := HI.out
        rw [h1] at hi
        have HI2 := Lib.hid hi
        have H1 := Lib.hid h1
        clear hi h1
        go_wp2_with (first
          | (refine wpList_load_mid rfl 46 (.tmp 11) rfl b (off + k * 7) rfl (ndC x).toList _ hc Tryz.underlying46 rfl (nd_infL x) ?_)
          | (refine wpList_store_blk rfl 46 (.tmp 5) (.tmp 12) rfl wr.heap.size (ndC nl0) (ndC x) 46 rfl rfl (Blk.new _ _ _) rfl (nd_inf x) (nd_one x) ?_
             intro w1 hw1 hn1
             have bb : Below wr.heap.size wr w1 := ((Below.refl _ wr).alloc (Nat.le_refl _) _).trans (hn1.below _ (Nat.le_refl _) (by simp))
             have hB1 := hB.trans (bb.mono hB.size)
             have q0 := hw1.cell 0
             simp only [ndC, List.getElem?_toArray, List.getElem?_cons_zero] at q0
             have h1 := H1.out
             clear hn1 bb hw1))
        go_ret
        exact ⟨by rw [HI2.out]; rfl, hB1⟩
    · obtain rfl : k = m := by omega
      have ht : L.drop k = [] := by rw [HM.out]; simp
      rw [ht] at hinv
      have HI := Lib.hid hinv
      clear hinv
      go_wp2_with fail
      go_ret
      exact ⟨by rw [HI.out]; rfl, hB⟩
end Go.Proofs.YtelfdpcenplhjaaGreatDoor
namespace Go.Proofs.YtelfdpcenplhjaaGreatDoor
open Go.RowKit
theorem find_none_of {c : Int} (h : rowC c = none) : ∀ i ∈ List.range 41, (kC i == c) = false := fun i hi => by
  have := List.find?_eq_none.1 h i hi
  simpa using this
theorem nm_eq (c v : Int) (s : List UInt8) (h : ((List.range 41).all fun i => ((kAt i).2.1 == s) == (kC i == v)) = true) (hv : ((List.range 41).any fun i => kC i == v) = true) (hs : s.isEmpty = false) : (nameOf c).1.toList = s ↔ c = v := by
  simp only [ByteArray.toList_eq]
  unfold nameOf
  cases hr : rowC c with
  | none =>
    have h1 : c ≠ v := by
      rintro rfl
      obtain ⟨i, hi, he⟩ := List.any_eq_true.1 hv
      have := find_none_of hr i hi
      rw [this] at he; cases he
    simp only [h1, iff_false]
    rintro rfl
    cases hs
  | some i =>
    obtain ⟨hi, rfl⟩ := rowC_some hr
    have := List.all_eq_true.1 h i (List.mem_range.2 hi)
    rw [Bool.beq_eq_decide_eq, decide_eq_true_eq, Bool.eq_iff_iff, beq_iff_eq, beq_iff_eq] at this
    exact this
theorem nm_ret_k (c : Int) : (nameOf c).1.toList = [114, 101, 116, 46, 107] ↔ c = 6 := nm_eq c 6 [114, 101, 116, 46, 107] (by decide) (by decide) rfl
theorem nm_ret_a (c : Int) : (nameOf c).1.toList = [114, 101, 116, 46, 97] ↔ c = 22 := nm_eq c 22 [114, 101, 116, 46, 97] (by decide) (by decide) rfl
theorem nm_div_k (c : Int) : (nameOf c).1.toList = [100, 105, 118, 46, 107] ↔ c = 52 := nm_eq c 52 [100, 105, 118, 46, 107] (by decide) (by decide) rfl
theorem nm_lsh_k (c : Int) : (nameOf c).1.toList = [108, 115, 104, 46, 107] ↔ c = 100 := nm_eq c 100 [108, 115, 104, 46, 107] (by decide) (by decide) rfl
theorem nm_rsh_k (c : Int) : (nameOf c).1.toList = [114, 115, 104, 46, 107] ↔ c = 116 := nm_eq c 116 [114, 115, 104, 46, 107] (by decide) (by decide) rfl
theorem nm_ld_abs (c : Int) : (nameOf c).1.toList = [108, 100, 46, 97, 98, 115] ↔ c = 32 := nm_eq c 32 [108, 100, 46, 97, 98, 115] (by decide) (by decide) rfl
theorem form_named {c : Int} (h : c = 52 ∨ c = 100 ∨ c = 116 ∨ c = 6) : formOf c = 1 := by rcases h with rfl | rfl | rfl | rfl <;> rfl
theorem form_2 {c : Int} : formOf c = 2 ↔ c = 32 := by
  constructor
  · intro h
    unfold formOf at h
    cases hr : rowC c with
    | none => rw [hr] at h; cases h
    | some i =>
      rw [hr] at h
      obtain ⟨hi, rfl⟩ := rowC_some hr
      have hall : ((List.range 41).all fun i => (kF i != 2) || (kC i == 32)) = true := by decide
      have := List.all_eq_true.1 hall i (List.mem_range.2 hi)
      simp only at h
      rw [h] at this
      simpa using this
  · rintro rfl; rfl
theorem name_fst (c : Int) (h : rowC c ≠ none) : nameOf c = ((nameOf c).1, true) := by
  unfold nameOf
  cases hr : rowC c with
  | none => exact absurd hr h
  | some i => rfl
theorem name_no {c : Int} (h : rowC c = none) : nameOf c = (⟨#[]⟩, false) := by
  unfold nameOf
  rw [h]
theorem form_no {c : Int} (h : rowC c = none) : formOf c = -1 := by
  unfold formOf
  rw [h]
theorem oneL_32 (left a b k : Int) : oneL left (32, a, b, k) = if k % 4 ≠ 0 ∨ 64 ≤ k then 142 else 0 := by
  simp [oneL, show rowC 32 ≠ none by decide, show formOf 32 = 2 by rfl]
theorem oneL_52 (left a b k : Int) : oneL left (52, a, b, k) = if k = 0 then 143 else 0 := by
  simp [oneL, show rowC 52 ≠ none by decide, show formOf 52 = 1 by rfl]
theorem oneL_100 (left a b k : Int) : oneL left (100, a, b, k) = if 32 ≤ k then 144 else 0 := by
  simp [oneL, show rowC 100 ≠ none by decide, show formOf 100 = 1 by rfl]
theorem oneL_116 (left a b k : Int) : oneL left (116, a, b, k) = if 32 ≤ k then 144 else 0 := by
  simp [oneL, show rowC 116 ≠ none by decide, show formOf 116 = 1 by rfl]
set_option maxHeartbeats 1000000 in
theorem within_any (k : Int) (i n : Nat) (w : World) (h0 : 0 ≤ k) (h1 : k ≤ 4294967295) (hi : i ≤ 1000) (hn : n ≤ 1000) :
    Calls Tryz.prog 104 #[.int .u32 k, .int .i64 i, .int .i64 n] w fun e w' => e = .returned (.bool (decide (k < (n : Int) - 1 - i))) ∧ w' = w := by
  by_cases h : k < (n : Int) - 1 - i
  · have hq : (i : Int) + 1 + k < n := by omega
    have hp : (i : Int) + 1 + k > i := by omega
    simp only [h, decide_true]
    go_enter Tryz.func104, Tryz.ntmps104
    go_wp2
    go_ret
    exact ⟨rfl, rfl⟩
  · have hq : ¬ (i : Int) + 1 + k < n := by omega
    have hp : (i : Int) + 1 + k > i := by omega
    simp only [h, decide_false]
    go_enter Tryz.func104, Tryz.ntmps104
    go_wp2
    go_ret
    exact ⟨rfl, rfl⟩
set_option maxHeartbeats 1000000 in
theorem tests_any (q : Ins) (w : World) (hK : Kinds w) :
    Calls Tryz.prog 105 #[valI q] w fun e w' => e = .returned (.bool (decide (formOf q.1 = 5 ∨ formOf q.1 = 6))) ∧ Below w.heap.size w w' := by
  obtain ⟨c, a, b, k⟩ := q
  have hF := fun w hK => form_any c w hK
  simp only [valI, insV]
  obtain ⟨fm, hfm⟩ : ∃ fm, formOf c = fm := ⟨_, rfl⟩
  rw [hfm] at hF ⊢
  clear hfm
  by_cases h5 : fm = 5
  · subst h5
    go_enter Tryz.func105, Tryz.ntmps105
    go_wp2_with fail
    refine (hF _ (hK.alloc _)).mono ?_
    rintro e w1 ⟨rfl, rfl⟩
    go_wp2_with fail
    go_ret
    exact ⟨by simp [*], (Below.refl _ _).alloc (Nat.le_refl _) _⟩
  · by_cases h6 : fm = 6
    · subst h6
      go_enter Tryz.func105, Tryz.ntmps105
      go_wp2_with fail
      refine (hF _ (hK.alloc _)).mono ?_
      rintro e w1 ⟨rfl, rfl⟩
      go_wp2_with fail
      go_ret
      exact ⟨by simp [*], (Below.refl _ _).alloc (Nat.le_refl _) _⟩
    · go_enter Tryz.func105, Tryz.ntmps105
      go_wp2_with fail
      refine (hF _ (hK.alloc _)).mono ?_
      rintro e w1 ⟨rfl, rfl⟩
      go_wp2_with fail
      go_ret
      exact ⟨by simp [*], (Below.refl _ _).alloc (Nat.le_refl _) _⟩
set_option maxHeartbeats 1000000 in
theorem returns_any (q : Ins) (w : World) (hK : Kinds w) :
    Calls Tryz.prog 89 #[valI q] w fun e w' => e = .returned (.bool (retI q)) ∧ Below w.heap.size w w' := by
  obtain ⟨c, a, b, k⟩ := q
  have hN := fun w hK => name_any c w hK
  have n1 := nm_ret_k c
  have n2 := nm_ret_a c
  simp only [valI, insV, retI]
  obtain ⟨s, hs⟩ : ∃ s, (nameOf c).1 = s := ⟨_, rfl⟩
  obtain ⟨t, ht⟩ : ∃ t, (nameOf c).2 = t := ⟨_, rfl⟩
  rw [hs] at hN n1 n2
  rw [ht] at hN
  clear hs ht
  by_cases h6 : c = 6
  · subst h6
    simp only [iff_true] at n1
    go_enter Tryz.func89, Tryz.ntmps89
    go_wp2_with fail
    refine (hN _ (hK.alloc _)).mono ?_
    rintro e w1 ⟨rfl, hb⟩
    go_wp2_with fail
    go_ret
    exact ⟨by simp [*], ((Below.refl _ _).alloc (Nat.le_refl _) _).trans (hb.mono (by simp))⟩
  · simp only [h6, iff_false] at n1
    by_cases h22 : c = 22
    · subst h22
      simp only [iff_true] at n2
      go_enter Tryz.func89, Tryz.ntmps89
      go_wp2_with fail
      refine (hN _ (hK.alloc _)).mono ?_
      rintro e w1 ⟨rfl, hb⟩
      go_wp2_with fail
      go_ret
      exact ⟨by simp [*], ((Below.refl _ _).alloc (Nat.le_refl _) _).trans (hb.mono (by simp))⟩
    · simp only [h22, iff_false] at n2
      go_enter Tryz.func89, Tryz.ntmps89
      go_wp2_with fail
      refine (hN _ (hK.alloc _)).mono ?_
      rintro e w1 ⟨rfl, hb⟩
      go_wp2_with fail
      go_ret
      exact ⟨by simp [*], ((Below.refl _ _).alloc (Nat.le_refl _) _).trans (hb.mono (by simp))⟩
end Go.Proofs.YtelfdpcenplhjaaGreatDoor

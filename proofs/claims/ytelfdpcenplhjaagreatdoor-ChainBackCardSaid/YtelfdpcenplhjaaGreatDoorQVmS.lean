/-
  A machine in memory: its cells; vm.second, vm.given, vm.moved.
-/
import Derived.Test.YtelfdpcenplhjaaGreatDoorQJL
import Derived.Test.YtelfdpcenplhjaaGreatDoorQJC
import Derived.Test.YtelfdpcenplhjaaGreatDoorQJK
import Derived.Test.YtelfdpcenplhjaaGreatDoorQHH
import Derived.Deep.Slices
import Derived.Lib.SmallJoins
import Derived.ChangeArms
import Derived.ChangeSame
import Derived.Test.YtelfdpcenplhjaaGreatDoorQPlBp
import Derived.Test.YtelfdpcenplhjaaGreatDoorQJN
import Derived.Test.YtelfdpcenplhjaaGreatDoorQJO
import Derived.Test.YtelfdpcenplhjaaGreatDoorQHE
import Derived.Test.YtelfdpcenplhjaaGreatDoorQAluU
import Derived.Test.YtelfdpcenplhjaaGreatDoorQDatN
import Derived.Test.YtelfdpcenplhjaaGreatDoorQVmA
import Derived.Test.YtelfdpcenplhjaaGreatDoorQVmH
import Derived.StillTailTactics
import Derived.Deep.RegionHeld3
import Derived.ChangeKeysEq
import Derived.Laws.BitsAllLaws
namespace Go.Proofs.YtelfdpcenplhjaaGreatDoor
open Go.RowKit Go.Shelf
set_option linter.unusedVariables false
set_option linter.unusedSimpArgs false
def Pa (w : World) (B : Nat) (A : Option Addr) (L : List Nl) : Prop := ∀ k, k < L.length → ∃ b off, A = some ⟨b, off, none⟩ ∧ b < B ∧ w.rangeAt b (off + k * 7) (ndC (L.getD k nl0)).toList
theorem Pa.below {w w' : World} {B B' : Nat} {A : Option Addr} {L : List Nl} (h : Pa w B A L) (hb : Below B' w w') (hB : B ≤ B') : Pa w' B A L := fun k hk => by
  obtain ⟨b, off, e, h1, h2⟩ := h k hk
  exact ⟨b, off, e, h1, range_below h2 hb (Nat.lt_of_lt_of_le h1 hB)⟩
def ovN (x : Nm) : Bool := decide (100 < x.g.length) || decide (1099511627776 < x.k)
def overB (L : List Nl) : Bool := decide (60 < L.length) || L.any (fun x => ovN x.1)
theorem any_at {L : List Nl} {k : Nat} (hk : k < L.length) (h : ovN (L.getD k nl0).1 = true) : (L.any fun x => ovN x.1) = true := List.any_eq_true.2 ⟨L.getD k nl0, by rw [show L.getD k nl0 = L[k] by simp [List.getD, hk]]; exact List.getElem_mem hk, h⟩
theorem overB_take {L : List Nl} (h : ¬ 60 < L.length) : overB L = L.any (fun x => ovN x.1) := by unfold overB; rw [decide_eq_false h]; rfl
set_option maxRecDepth 100000 in
set_option maxHeartbeats 2000000 in
theorem over_any (A : Option Addr) (m c : Nat) (L : List Nl) (w : World) (hP : Pa w w.heap.size A L) (hm : m = L.length) (hmc : m ≤ c) :
    Calls Tryz.prog 10 #[poV A m c] w fun e w' => e = .returned (.bool (overB L)) ∧ Below w.heap.size w w' := by
  have k1 := Blk.new w #[.slice A m c] 24
  have B0 := (Below.refl w.heap.size w).alloc (Nat.le_refl _) (.cells #[.slice A m c] 24)
  have q1 : (w.alloc (.cells #[.slice A m c] 24)).cell? ⟨w.heap.size, 0, none⟩ = some (.slice A m c) := k1.cell 0
  have HM := Lib.hid hm
  clear hm
  unfold poV
  go_enter Tryz.func10, Tryz.ntmps10
  by_cases h60 : 60 < m
  · have h1 : decide ((60 : Int) < (m : Int)) = true := by simp; omega
    have HN := Lib.hid h60
    clear h60
    go_wp2_with fail
    go_ret
    exact ⟨by unfold overB; rw [decide_eq_true (by rw [← HM.out]; exact HN.out)]; rfl, B0⟩
  · have h1 : decide ((60 : Int) < (m : Int)) = false := by simp; omega
    have hov : overB L = L.any (fun x => ovN x.1) := overB_take (by rw [← HM.out]; exact h60)
    have HO := Lib.hid hov
    have hm60 : m ≤ 60 := by omega
    clear h60 hov
    go_wp2_with fail
    go_loopw [12] (fun i wr' => ∃ (k : Nat) (wr : World), wr = wr' ∧ k ≤ m ∧ i = .int .i64 k ∧ Hid (∀ j, j < k → ovN (L.getD j nl0).1 = false) ∧ Below w.heap.size w wr) (fun i _ => m - (intOf i).toNat)
    case atStart => exact ⟨0, _, rfl, Nat.zero_le _, rfl, Lib.hid (fun j hj => absurd hj (Nat.not_lt_zero j)), B0⟩
    case round =>
      clear B0 k1 q1
      obtain ⟨k, wr, hwr, hk, rfl, hall, hB⟩ := hrel
      subst hwr
      by_cases hlt : k < m
      · have hlt' : (k : Int) < (m : Int) := by omega
        have hkl : k < L.length := by have := HM.out; omega
        obtain ⟨b, off, rfl, hb, hc⟩ := (hP.below hB (Nat.le_refl _)) k hkl
        have HK := Lib.hid hkl
        generalize hx : L.getD k nl0 = x at hc
        have HX := Lib.hid hx
        clear hx hkl
        have hs2 : (ndC x).size = 7 := nd_size x
        cases hg : decide (100 < x.1.g.length)
        · have hg1 : decide ((100 : Int) < (x.1.g.length : Int)) = false := by have := of_decide_eq_false hg; simp; omega
          have HG := Lib.hid hg
          clear hg
          cases hq : decide (1099511627776 < x.1.k)
          · have HQ := Lib.hid hq
            go_wp2_with (first
              | (refine wpList_load_mid rfl 46 (.tmp 14) rfl b (off + k * 7) rfl (ndC x).toList _ hc Tryz.underlying46 rfl (nd_infL x) ?_)
              | (refine wpList_store_blk rfl 46 (.tmp 4) (.tmp 15) rfl wr.heap.size (ndC nl0) (ndC x) 46 rfl rfl (Blk.new _ _ _) rfl (nd_inf x) (nd_one x) ?_
                 intro W1 k9 n9
                 have bb : Below wr.heap.size wr W1 := ((Below.refl _ wr).alloc (Nat.le_refl _) _).trans (n9.below _ (Nat.le_refl _) (by simp))
                 have q2 : W1.cell? ⟨wr.heap.size, 2, none⟩ = some (.slice x.2.1 x.1.g.length x.2.2) := k9.cell 2
                 have q4 : W1.cell? ⟨wr.heap.size, 4, none⟩ = some (.int .i64 x.1.k) := k9.cell 4))
            have hB1 := hB.trans (bb.mono hB.size)
            go_roundw
            case rel =>
              refine ⟨k + 1, _, rfl, by omega, by go_num, Lib.hid (fun j hj => ?_), hB1⟩
              rcases Nat.lt_succ_iff_lt_or_eq.1 hj with h | rfl
              · exact hall.out j h
              · rw [HX.out]; unfold ovN; rw [HG.out, HQ.out]; rfl
            case measure => simp [intOf]; omega
          · have HQ := Lib.hid hq
            go_wp2_with (first
              | (refine wpList_load_mid rfl 46 (.tmp 14) rfl b (off + k * 7) rfl (ndC x).toList _ hc Tryz.underlying46 rfl (nd_infL x) ?_)
              | (refine wpList_store_blk rfl 46 (.tmp 4) (.tmp 15) rfl wr.heap.size (ndC nl0) (ndC x) 46 rfl rfl (Blk.new _ _ _) rfl (nd_inf x) (nd_one x) ?_
                 intro W1 k9 n9
                 have bb : Below wr.heap.size wr W1 := ((Below.refl _ wr).alloc (Nat.le_refl _) _).trans (n9.below _ (Nat.le_refl _) (by simp))
                 have q2 : W1.cell? ⟨wr.heap.size, 2, none⟩ = some (.slice x.2.1 x.1.g.length x.2.2) := k9.cell 2
                 have q4 : W1.cell? ⟨wr.heap.size, 4, none⟩ = some (.int .i64 x.1.k) := k9.cell 4))
            have hB1 := hB.trans (bb.mono hB.size)
            go_ret
            exact ⟨by rw [HO.out, any_at HK.out (by rw [HX.out]; unfold ovN; rw [HQ.out]; simp)]; rfl, hB1⟩
        · have hg1 : decide ((100 : Int) < (x.1.g.length : Int)) = true := by have := of_decide_eq_true hg; simp; omega
          have HG := Lib.hid hg
          clear hg
          go_wp2_with (first
            | (refine wpList_load_mid rfl 46 (.tmp 14) rfl b (off + k * 7) rfl (ndC x).toList _ hc Tryz.underlying46 rfl (nd_infL x) ?_)
            | (refine wpList_store_blk rfl 46 (.tmp 4) (.tmp 15) rfl wr.heap.size (ndC nl0) (ndC x) 46 rfl rfl (Blk.new _ _ _) rfl (nd_inf x) (nd_one x) ?_
               intro W1 k9 n9
               have bb : Below wr.heap.size wr W1 := ((Below.refl _ wr).alloc (Nat.le_refl _) _).trans (n9.below _ (Nat.le_refl _) (by simp))
               have q2 : W1.cell? ⟨wr.heap.size, 2, none⟩ = some (.slice x.2.1 x.1.g.length x.2.2) := k9.cell 2
               have q4 : W1.cell? ⟨wr.heap.size, 4, none⟩ = some (.int .i64 x.1.k) := k9.cell 4))
          have hB1 := hB.trans (bb.mono hB.size)
          go_ret
          exact ⟨by rw [HO.out, any_at HK.out (by rw [HX.out]; unfold ovN; rw [HG.out]; rfl)]; rfl, hB1⟩
      · obtain rfl : k = m := by omega
        go_wp2_with fail
        go_ret
        refine ⟨?_, hB⟩
        rw [HO.out]
        have : (L.any fun x => ovN x.1) = false := List.any_eq_false.2 fun x hx => by
          obtain ⟨j, hj, rfl⟩ := List.getElem_of_mem hx
          have h := hall.out j (by have := HM.out; omega)
          rw [show L.getD j nl0 = L[j] by simp [List.getD, hj]] at h
          rw [h]; decide
        rw [this]
        rfl
theorem over_false {L : List Nl} (h : overB L = false) : L.length ≤ 60 ∧ ∀ x ∈ L, x.1.g.length ≤ 100 ∧ x.1.k ≤ 1099511627776 := by
  unfold overB at h
  simp only [Bool.or_eq_false_iff, decide_eq_false_iff_not, List.any_eq_false] at h
  refine ⟨by omega, fun x hx => ?_⟩
  have := h.2 x hx
  unfold ovN at this
  simp at this
  omega
end Go.Proofs.YtelfdpcenplhjaaGreatDoor
namespace Go.Proofs.YtelfdpcenplhjaaGreatDoor
open Go.RowKit
set_option maxRecDepth 100000 in
theorem insns_of {H : Type} {enc : TypeId × Value → H} {w : World} {base : Nat} {spare : Nat → Bool} {held : Bool} {fuel : Nat} {a : Option Addr} {l c : Nat} {x : DataW H × List MemPlace}
    (h : DataW.trod enc Tryz.prog w base spare held fuel 25 [.slice a l c] = some x) : ∃ f, Ri w w.heap.size a l f ∧ l ≤ c ∧ l ≤ maxLen := by
  rcases Go.Deep.open_slice Tryz.underlying25 h with ⟨hcs, _⟩ | ⟨p, l', c', m, n, D, Pl, hcs, _, hl, hm, hmm, _, hel⟩
  · simp at hcs
    obtain ⟨rfl, rfl, rfl⟩ := hcs
    exact ⟨fun _ => (0, 0, 0, 0), fun k hk => absurd hk (by omega), by omega, by simp [maxLen]⟩
  · simp at hcs
    obtain ⟨rfl, rfl, rfl⟩ := hcs
    have hlm : l ≤ m := by rw [hmm]; split <;> omega
    have hc4 : Tryz.prog.cellsOf 111 = 4 := by kernel_rfl
    have hu16 : Tryz.prog.cellsOf 65 = 1 := by kernel_rfl
    have hu8 : Tryz.prog.cellsOf 5 = 1 := by kernel_rfl
    have hu32 : Tryz.prog.cellsOf 61 = 1 := by kernel_rfl
    rw [hc4] at hel
    have each : ∀ i, i < l → ∃ q : Ins, (w.cell? ((p.add (i * 4)).add 0) = some (.int .u16 q.1) ∧ w.cell? ((p.add (i * 4)).add 1) = some (.int .u8 q.2.1) ∧ w.cell? ((p.add (i * 4)).add 2) = some (.int .u8 q.2.2.1) ∧ w.cell? ((p.add (i * 4)).add 3) = some (.int .u32 q.2.2.2)) ∧ insO q := by
      intro i hi
      obtain ⟨cs', h1, h2⟩ := hel i (by omega)
      obtain ⟨_, hlen, hcell⟩ := World.cells?_some h1
      obtain ⟨y0, y1, y2, y3, n', _, _, t0, t1, t2, t3⟩ := Joins.trod_struct4 Tryz.underlying111 h2
      match cs', hlen with
      | [v0, v1, v2, v3], _ =>
        simp [hu16] at t0
        simp [hu8] at t1 t2
        simp [hu32] at t3
        obtain ⟨q0, e0, _, f0⟩ := DataW.trod_int Tryz.underlying65 t0
        obtain ⟨q1, e1, _, f1⟩ := DataW.trod_int Tryz.underlying5 t1
        obtain ⟨q2, e2, _, f2⟩ := DataW.trod_int Tryz.underlying5 t2
        obtain ⟨q3, e3, _, f3⟩ := DataW.trod_int Tryz.underlying61 t3
        simp only [List.cons.injEq, and_true] at e0 e1 e2 e3
        subst e0 e1 e2 e3
        refine ⟨(q0, q1, q2, q3), ⟨by simpa using hcell 0 (by omega), by simpa using hcell 1 (by omega), by simpa using hcell 2 (by omega), by simpa using hcell 3 (by omega)⟩, ?_⟩
        simp [Lit.wf, IntKind.min, IntKind.max, IntKind.signed, IntKind.bits] at f0 f1 f2 f3
        show InsOk q0 q1 q2 q3
        constructor <;> omega
    obtain ⟨q, hq⟩ := Go.Deep.choose_lt each
    refine ⟨q, fun k hk => ?_, hl, by omega⟩
    obtain ⟨⟨e0, e1, e2, e3⟩, ho⟩ := hq k hk
    have z : w.cell? (p.add 0) = some (.int .u16 (q 0).1) := by
      have := (hq 0 (by omega)).1.1
      rw [Go.Deep.add_add] at this
      simpa using this
    rw [Go.Deep.add_add] at e0 e1 e2 e3
    obtain ⟨ea, hb, g0⟩ := add_none e0 ⟨_, z⟩
    exact ⟨p.block, p.off, congrArg some ea, hb, ⟨g0, (add_none e1 ⟨_, z⟩).2.2, (add_none e2 ⟨_, z⟩).2.2, (add_none e3 ⟨_, z⟩).2.2⟩, ho⟩
end Go.Proofs.YtelfdpcenplhjaaGreatDoor
namespace Go.Proofs.YtelfdpcenplhjaaGreatDoor
open Go.RowKit Go.Shelf Go.ChangeShapes
set_option linter.unusedVariables false
set_option linter.unusedSimpArgs false
section
variable {H : Type} {enc : TypeId × Value → H} {w : World} {base : Nat} {spare : Nat → Bool} {held : Bool} {fuel : Nat} {x : DataW H × List MemPlace}
theorem prog_of {v : Value} (h : DataW.trod enc Tryz.prog w base spare held fuel 25 [v] = some x) : ∃ a c g, v = .slice a (g : List Ins).length c ∧ Ri w w.heap.size a g.length (gF g) ∧ g.length ≤ c := by
  have hv : ∃ a l c, v = .slice a l c := by
    rcases Go.Deep.open_slice Tryz.underlying25 h with ⟨hcs, _⟩ | ⟨p, l', c', m, n, D, Pl, hcs, _⟩
    · simp at hcs; exact ⟨_, _, _, hcs⟩
    · simp at hcs; exact ⟨_, _, _, hcs⟩
  obtain ⟨a, l, c, rfl⟩ := hv
  obtain ⟨f, hf, hl, _⟩ := insns_of h
  refine ⟨a, c, (List.range l).map f, by simp, ?_, by simpa using hl⟩
  intro k hk
  have hk' : k < l := by simpa using hk
  have e : gF ((List.range l).map f) k = f k := by simp [gF, List.getD, hk']
  rw [e]
  exact hf k hk'
set_option maxRecDepth 100000 in
theorem nodes_of {a : Option Addr} {l c : Nat} (h : DataW.trod enc Tryz.prog w base spare held fuel 22 [.slice a l c] = some x) : ∃ L, Pa w w.heap.size a L ∧ (∀ x ∈ L, x.1.g.length ≤ 1000000000 → Nr w w.heap.size x) ∧ l = L.length ∧ l ≤ c ∧ c ≤ maxLen := by
  rcases Go.Deep.open_slice Tryz.underlying22 h with ⟨hcs, _⟩ | ⟨p, l', c', m, n, D, Pl, hcs, _, hl, hm, hmm, _, hel⟩
  · simp at hcs
    obtain ⟨rfl, rfl, rfl⟩ := hcs
    exact ⟨[], fun k hk => absurd hk (by simp), fun x hx => (by cases hx), rfl, by omega, by simp [maxLen]⟩
  · simp at hcs
    obtain ⟨rfl, rfl, rfl⟩ := hcs
    have hlm : l ≤ m := by rw [hmm]; split <;> omega
    have hc7 : Tryz.prog.cellsOf 46 = 7 := by kernel_rfl
    have hci : Tryz.prog.cellsOf 3 = 1 := by kernel_rfl
    have hcu : Tryz.prog.cellsOf 44 = 1 := by kernel_rfl
    have hcs : Tryz.prog.cellsOf 25 = 1 := by kernel_rfl
    rw [hc7] at hel
    have each : ∀ i, i < l → ∃ q : Nl, (∀ j v, (ndC q).toList[j]? = some v → w.cell? ((p.add (i * 7)).add j) = some v) ∧ (q.1.g.length ≤ 1000000000 → Nr w w.heap.size q) := by
      intro i hi
      obtain ⟨cs', h1, h2⟩ := hel i (by omega)
      obtain ⟨_, hlen, hcell⟩ := World.cells?_some h1
      obtain ⟨xs, n', _, _, _, hxl, hf⟩ := DataW.trod_struct Tryz.underlying46 h2
      match cs', hlen, xs, hxl with
      | [v0, v1, v2, v3, v4, v5, v6], _, [y0, y1, y2, y3, y4, y5, y6], _ =>
        have t0 := hf 0 _ rfl
        have t1 := hf 1 _ rfl
        have t2 := hf 2 _ rfl
        have t3 := hf 3 _ rfl
        have t4 := hf 4 _ rfl
        have t5 := hf 5 _ rfl
        have t6 := hf 6 _ rfl
        simp [hci] at t0 t1 t3 t4
        simp [hcs] at t2
        simp [hcu] at t5 t6
        obtain ⟨q0, e0, _, f0⟩ := DataW.trod_int Tryz.underlying3 t0
        obtain ⟨q1, e1, _, f1⟩ := DataW.trod_int Tryz.underlying3 t1
        obtain ⟨q3, e3, _, f3⟩ := DataW.trod_int Tryz.underlying3 t3
        obtain ⟨q4, e4, _, f4⟩ := DataW.trod_int Tryz.underlying3 t4
        obtain ⟨q5, e5, _, f5⟩ := DataW.trod_int Tryz.underlying44 t5
        obtain ⟨q6, e6, _, f6⟩ := DataW.trod_int Tryz.underlying44 t6
        obtain ⟨pa, pc, g, e2, hr, hle⟩ := prog_of t2
        simp only [List.cons.injEq, and_true] at e0 e1 e3 e4 e5 e6
        subst e0 e1 e2 e3 e4 e5 e6
        simp [Lit.wf, IntKind.min, IntKind.max, IntKind.signed, IntKind.bits] at f0 f1 f3 f4 f5 f6
        have b0 : I64 q0 := ⟨f0.1, by omega⟩
        have b1 : I64 q1 := ⟨f1.1, by omega⟩
        have b3 : I64 q3 := ⟨f3.1, by omega⟩
        have b4 : I64 q4 := ⟨f4.1, by omega⟩
        have b5 : U64n q5 := ⟨f5.1, by omega⟩
        have b6 : U64n q6 := ⟨f6.1, by omega⟩
        refine ⟨(⟨q0, q1, g, q3, q4, q5, q6⟩, (pa, pc)), fun j v hv => ?_, fun hg => ⟨⟨b0, b1, b3, b4, b5, b6, fun q hq => ?_, hg⟩, hr, hle⟩⟩
        · have hj : j < 7 := by
            rcases Nat.lt_or_ge j 7 with h | h
            · exact h
            · rw [List.getElem?_eq_none (by rw [Array.length_toList, nd_size]; exact h)] at hv; cases hv
          have := hcell j (by omega)
          rw [this]
          exact hv
        · obtain ⟨k, hk, rfl⟩ := List.getElem_of_mem hq
          obtain ⟨_, _, _, _, _, ho⟩ := hr k hk
          have e : gF g k = g[k] := by simp [gF, List.getD, hk]
          rw [e] at ho
          exact ho
    haveI : Inhabited Nl := ⟨nl0⟩
    obtain ⟨q, hq⟩ := Go.Deep.choose_lt each
    refine ⟨(List.range l).map q, fun k hk => ?_, fun y hy => ?_, by simp, hl, by omega⟩
    · have hkl : k < l := by simpa using hk
      have e0 : ((List.range l).map q).getD k nl0 = q k := by simp [List.getD, hkl]
      rw [e0]
      have z : ∃ v0, w.cell? (p.add 0) = some v0 := ⟨_, by
        have := (hq 0 (by omega)).1 0 (.int .i64 (q 0).1.i) rfl
        rw [Go.Deep.add_add] at this
        simpa using this⟩
      have a0 := (hq k hkl).1 0 (.int .i64 (q k).1.i) rfl
      rw [Go.Deep.add_add] at a0
      obtain ⟨ea, hb, _⟩ := add_none a0 z
      refine ⟨p.block, p.off, congrArg some ea, hb, fun j v hv => ?_⟩
      have := (hq k hkl).1 j v hv
      rw [Go.Deep.add_add] at this
      have h3 := (add_none this z).2.2
      rwa [← Nat.add_assoc] at h3
    · obtain ⟨k, hk, rfl⟩ := List.mem_map.1 hy
      exact (hq k (by simpa using hk)).2
end
theorem po_of {w : World} {A : Option Addr} {L : List Nl} (h : Pa w w.heap.size A L) (hn : ∀ x ∈ L, x.1.g.length ≤ 1000000000 → Nr w w.heap.size x) (ho : overB L = false) : Po w w.heap.size A L :=
  ⟨h, fun x hx => hn x hx (by have := ((over_false ho).2 x hx).1; omega)⟩
end Go.Proofs.YtelfdpcenplhjaaGreatDoor
namespace Go.Proofs.YtelfdpcenplhjaaGreatDoor
open Go.RowKit Go.Shelf Go.ChangeShapes
set_option linter.unusedVariables false
theorem pool_of {H : Type} {enc : TypeId × Value → H} {w : World} {base : Nat} {spare : Nat → Bool} {held : Bool} {cs : Array Value} {d : DataW H} {p : List MemPlace} (hz : cs.size = Tryz.prog.cellsOf 24) (h : DataW.Trod enc Tryz.prog w base spare held 24 (.agg cs) d p) :
    ∃ a l c L, cs = #[.slice a l c] ∧ Pa w w.heap.size a L ∧ (∀ x ∈ L, x.1.g.length ≤ 1000000000 → Nr w w.heap.size x) ∧ l = L.length ∧ l ≤ c := by
  obtain ⟨fuel, hf⟩ := h
  obtain ⟨y0, n, _, hl, h0⟩ := trod_struct1 Tryz.underlying24 hf
  have hc1 : Tryz.prog.cellsOf 24 = 1 := by kernel_rfl
  have hcs : Tryz.prog.cellsOf 22 = 1 := by kernel_rfl
  rw [hc1] at hz
  obtain ⟨v, rfl⟩ : ∃ v, cs = #[v] := Array.size_eq_one_iff.1 hz
  simp [Value.cells, hcs] at h0
  have hv : ∃ a l c, v = .slice a l c := by
    rcases Go.Deep.open_slice Tryz.underlying22 h0 with ⟨hcs, _⟩ | ⟨p, l', c', m, n, D, Pl, hcs, _⟩
    · simp at hcs; exact ⟨_, _, _, hcs⟩
    · simp at hcs; exact ⟨_, _, _, hcs⟩
  obtain ⟨a, l, c, rfl⟩ := hv
  obtain ⟨L, h1, h2, h3, h4, _⟩ := nodes_of h0
  exact ⟨a, l, c, L, rfl, h1, h2, h3, h4⟩
end Go.Proofs.YtelfdpcenplhjaaGreatDoor
namespace Go.Proofs.YtelfdpcenplhjaaGreatDoor
open Go.RowKit Go.Shelf
set_option linter.unusedVariables false
set_option linter.unusedSimpArgs false
theorem chk_std {L : List Nl} (hc : chkP L = 0) : riseB 0 L = true ∧ ∀ x ∈ L, standV L x.1 = true := by
  unfold chkP at hc
  split at hc
  · rename_i hb
    simpa only [Bool.and_eq_true, List.all_eq_true] using hb
  · cases hc
theorem stand_k {L : List Nl} {x : Nm} (h : standV L x = true) : 1 ≤ x.k ∧ (kidsN L x.i : Int) ≤ x.k := by
  unfold standV at h
  simp only [Bool.and_eq_true, decide_eq_true_eq] at h
  have := h.2
  omega
theorem rise_idR : ∀ {L : List Nl} {l : Int}, riseB l L = true → ∀ x ∈ L, idR L x.1.i = (x, true)
  | [], _, _, x, hx => by cases hx
  | y :: L, l, h, x, hx => by
    unfold riseB at h
    simp only [Bool.and_eq_true] at h
    unfold idR
    rw [List.find?_cons]
    rcases List.mem_cons.1 hx with rfl | hx
    · simp
    · have h1 := rise_all h.2 x hx
      have h2 : (y.1.i == x.1.i) = false := by simp; omega
      rw [h2]
      have := rise_idR h.2 x hx
      unfold idR at this
      exact this
theorem place_some {L : List Nl} {id : Int} {k : Nat} (hk : k < L.length) (hi : (L.getD k nl0).1.i = id) (hj : ∀ j, j < k → (L.getD j nl0).1.i ≠ id) : idR L id = (L.getD k nl0, true) := by
  have hg : L.getD k nl0 = L[k] := by simp [List.getD, hk]
  have : L.find? (fun x => x.1.i == id) = some (L.getD k nl0) := by
    rw [List.find?_eq_some_iff_getElem]
    refine ⟨by simpa using hi, k, hk, hg.symm, fun j hjk => ?_⟩
    have h := hj j hjk
    have hjl : j < L.length := by omega
    simp only [List.getD, List.getElem?_eq_getElem hjl, Option.getD_some] at h
    simpa using h
  unfold idR
  rw [this]
theorem place_nat {L : List Nl} {id : Int} {k : Nat} (h : PlaceR L id k) : k < L.length ∧ (L.getD k nl0).1.i = id ∧ ∀ j, j < k → (L.getD j nl0).1.i ≠ id := by
  rcases h with ⟨k', h1, h2, h3, h4⟩ | ⟨h1, _⟩
  · obtain rfl : k = k' := by omega
    exact ⟨h2, h3, h4⟩
  · omega
theorem place_no {L : List Nl} {id : Int} (h : PlaceR L id (-1)) : ∀ j, j < L.length → (L.getD j nl0).1.i ≠ id := by
  rcases h with ⟨k', h1, _⟩ | ⟨_, h⟩
  · omega
  · exact h
theorem place_uniq {L : List Nl} {id : Int} {k k' : Nat} (h : PlaceR L id k) (h' : PlaceR L id k') : k = k' := by
  obtain ⟨_, a2, a3⟩ := place_nat h
  obtain ⟨_, b2, b3⟩ := place_nat h'
  rcases Nat.lt_trichotomy k k' with h | h | h
  · exact absurd a2 (b3 k h)
  · exact h
  · exact absurd b2 (a3 k' h)
structure Bk (L X : List Nl) (pa : Int) : Prop where
  chk : chkP X = 0
  kid : ∀ x ∈ X, x.1.i = pa → (kidsN X x.1.i : Int) + 1 ≤ x.1.k ∧ 2 ≤ x.1.k
  hon : honP X = honP L
  back : ∀ (M L2 : List Nl) (s : Int), M.map (·.1) = X.map (·.1) → ((idR X pa).2 = false ∧ s = 0 ∨ (idR X pa).2 = true ∧ s = pa) →
    ((PlaceR M s (-1) ∧ L2 = M) ∨ ∃ k : Nat, PlaceR M s k ∧ k < M.length ∧ L2 = M.set k (cntN (M.getD k nl0) (IntKind.i64.wrap ((M.getD k nl0).1.k - 1)))) → L2.map (·.1) = L.map (·.1)
theorem no_zero {L : List Nl} (hc : chkP L = 0) : ∀ x ∈ L, 0 < x.1.i := fun x hx => rise_all (chk_std hc).1 x hx
theorem names_mem {M X : List Nl} (h : M.map (·.1) = X.map (·.1)) {j : Nat} (hj : j < M.length) : ∃ x ∈ X, x.1 = (M.getD j nl0).1 := by
  have hl : M.length = X.length := by simpa using congrArg List.length h
  exact ⟨X.getD j nl0, getD_mem (by omega), (getD_names h j).symm⟩
theorem bk_zero {L : List Nl} (hc : chkP L = 0) : Bk L L 0 := by
  refine ⟨hc, fun x hx h => absurd h (by have := no_zero hc x hx; omega), rfl, fun M L2 s hM hs h => ?_⟩
  obtain rfl : s = 0 := by rcases hs with ⟨_, h⟩ | ⟨_, h⟩ <;> exact h
  rcases h with ⟨_, rfl⟩ | ⟨k, hp, hk, _⟩
  · exact hM
  · obtain ⟨x, hx, e⟩ := names_mem hM hk
    have h1 := (place_nat hp).2.1
    have h2 := no_zero hc x hx
    rw [e] at h2
    omega
theorem wrap_up {c : Int} (h1 : 1 ≤ c) (h2 : c ≤ 1099511627776) : IntKind.i64.wrap (c + 1) = c + 1 := by rw [IntKind.wrap_i64]; omega
theorem wrap_down {c : Int} (h1 : 1 ≤ c) (h2 : c ≤ 1099511627776) : IntKind.i64.wrap (c + 1 - 1) = c := by rw [IntKind.wrap_i64]; omega
section
variable {L X : List Nl} {pa : Int} {k : Nat}
theorem tk_names (hX : X.map (·.1) = (L.map (·.1)).set k { (L.getD k nl0).1 with k := IntKind.i64.wrap ((L.getD k nl0).1.k + 1) }) (h1 : 1 ≤ (L.getD k nl0).1.k) (h2 : (L.getD k nl0).1.k ≤ 1099511627776) : X.map (·.1) = (L.set k (cntN (L.getD k nl0) ((L.getD k nl0).1.k + 1))).map (·.1) := by
  rw [hX, wrap_up h1 h2, names_set]
  rfl
theorem core_set (hk : k < L.length) (v : Int) : L.map (fun x => coreN x.1) = (L.set k (cntN (L.getD k nl0) v)).map (fun x => coreN x.1) := by
  rw [List.map_set]
  refine List.ext_getElem? fun j => ?_
  rw [List.getElem?_set]
  by_cases h : k = j
  · subst h
    simp [hk, coreN, cntN]
  · rw [if_neg h]
theorem getD_set_ne {j : Nat} (h : k ≠ j) (y : Nl) : (L.set k y).getD j nl0 = L.getD j nl0 := by simp [List.getD, List.getElem?_set, h]
theorem getD_set_eq (hk : k < L.length) (y : Nl) : (L.set k y).getD k nl0 = y := by simp [List.getD, hk]
theorem kc (hc : chkP L = 0) (hk : k < L.length) : 1 ≤ (L.getD k nl0).1.k ∧ (kidsN L (L.getD k nl0).1.i : Int) ≤ (L.getD k nl0).1.k := stand_k ((chk_std hc).2 _ (getD_mem hk))
theorem chk_tk (hc : chkP L = 0) (hk : k < L.length) : chkP (L.set k (cntN (L.getD k nl0) ((L.getD k nl0).1.k + 1))) = 0 := by
  refine chk_core (core_set hk _) (fun j hj => ?_) hc
  by_cases h : k = j
  · subst h
    rw [getD_set_eq hk]
    show (L.getD k nl0).1.k ≤ (L.getD k nl0).1.k + 1
    omega
  · rw [getD_set_ne h]
    exact Int.le_refl _
theorem place_set (hp : PlaceR L pa k) (v : Int) : PlaceR (L.set k (cntN (L.getD k nl0) v)) pa k := by
  obtain ⟨h1, h2, h3⟩ := place_nat hp
  refine .inl ⟨k, rfl, by simpa using h1, by rw [getD_set_eq h1]; exact h2, fun j hj => by rw [getD_set_ne (by omega)]; exact h3 j hj⟩
theorem idR_tk (hp : PlaceR L pa k) (v : Int) : idR (L.set k (cntN (L.getD k nl0) v)) pa = (cntN (L.getD k nl0) v, true) := by
  obtain ⟨h1, h2, h3⟩ := place_nat (place_set hp v)
  rw [place_some h1 h2 h3, getD_set_eq (place_nat hp).1]
theorem hon_tk (hk : k < L.length) (v : Int) : honP (L.set k (cntN (L.getD k nl0) v)) = honP L := by
  have e : ∀ K : List Nl, honP K = (K.map (fun x => honB x.1)).all id := fun K => by unfold honP; rw [List.all_map]; rfl
  rw [e, e, List.map_set]
  refine congrArg (fun l => List.all l id) (List.ext_getElem? fun j => ?_)
  rw [List.getElem?_set]
  by_cases h : k = j
  · subst h
    simp [hk, honB, cntN]
  · rw [if_neg h]
theorem hon_names {L M : List Nl} (h : L.map (·.1) = M.map (·.1)) : honP L = honP M := all_names honB h
theorem set_back {M : List Nl} (hp : PlaceR L pa k) (hc : chkP L = 0) (h2 : (L.getD k nl0).1.k ≤ 1099511627776) (hM : M.map (·.1) = (L.set k (cntN (L.getD k nl0) ((L.getD k nl0).1.k + 1))).map (·.1)) {L2 : List Nl}
    (h : (PlaceR M pa (-1) ∧ L2 = M) ∨ ∃ k : Nat, PlaceR M pa k ∧ k < M.length ∧ L2 = M.set k (cntN (M.getD k nl0) (IntKind.i64.wrap ((M.getD k nl0).1.k - 1)))) : L2.map (·.1) = L.map (·.1) := by
  have hk := (place_nat hp).1
  have h1 := (kc hc hk).1
  have hpM := placeR_names hM.symm (place_set hp ((L.getD k nl0).1.k + 1))
  rcases h with ⟨h, _⟩ | ⟨k', hk', hlt, rfl⟩
  · have := place_no h k (place_nat hpM).1
    exact absurd (place_nat hpM).2.1 this
  · obtain rfl := place_uniq hk' hpM
    have e := getD_names hM k'
    rw [getD_set_eq hk] at e
    rw [names_set, hM, names_set, List.set_set]
    have e2 : (cntN (M.getD k' nl0) (IntKind.i64.wrap ((M.getD k' nl0).1.k - 1))).1 = (L.getD k' nl0).1 := by
      have e3 : (M.getD k' nl0).1.k - 1 = (L.getD k' nl0).1.k + 1 - 1 := by rw [e]; rfl
      rw [e3, wrap_down h1 h2]
      show ({ (M.getD k' nl0).1 with k := (L.getD k' nl0).1.k } : Nm) = _
      rw [e]
      rfl
    rw [e2]
    refine List.ext_getElem? fun j => ?_
    simp only [List.getElem?_set, List.length_map, List.getElem?_map]
    by_cases hj : k' = j
    · subst hj
      simp [hk]
    · rw [if_neg hj]
theorem bk_take (hc : chkP L = 0) (hp : PlaceR L pa k) (h2 : (L.getD k nl0).1.k ≤ 1099511627776)
    (hX : X.map (·.1) = (L.map (·.1)).set k { (L.getD k nl0).1 with k := IntKind.i64.wrap ((L.getD k nl0).1.k + 1) }) : Bk L X pa := by
  have hk := (place_nat hp).1
  obtain ⟨h1, hkid⟩ := kc hc hk
  have hn := tk_names hX h1 h2
  have hcX : chkP X = 0 := (chkP_names hn).trans (chk_tk hc hk)
  have hidX := idR_names hn pa
  rw [idR_tk hp] at hidX
  refine ⟨hcX, fun x hx he => ?_, (hon_names hn).trans (hon_tk hk _), fun M L2 s hM hs h => ?_⟩
  · have hxr := rise_idR (chk_std hcX).1 x hx
    rw [he] at hxr
    rw [hxr] at hidX
    have hx1 : x.1 = (cntN (L.getD k nl0) ((L.getD k nl0).1.k + 1)).1 := hidX.1
    have hxk : x.1.k = (L.getD k nl0).1.k + 1 := by rw [hx1]; rfl
    have hkd : kidsN X x.1.i = kidsN L (L.getD k nl0).1.i := by
      rw [kids_names hn, ← kids_core (core_set hk _), he, (place_nat hp).2.1]
    rw [hkd, hxk]
    omega
  · obtain rfl : s = pa := by
      rcases hs with ⟨h3, _⟩ | ⟨_, h3⟩
      · rw [hidX.2] at h3; cases h3
      · exact h3
    exact set_back hp hc h2 (hM.trans hn) h
theorem take_give (hc : chkP L = 0) (hp : PlaceR L pa k) (h2 : (L.getD k nl0).1.k ≤ 1099511627776)
    (hX : X.map (·.1) = (L.map (·.1)).set k { (L.getD k nl0).1 with k := IntKind.i64.wrap ((L.getD k nl0).1.k + 1) }) : giveE X pa = 0 ∧ ∀ (X1 U L2 : List Nl), X1.map (·.1) = X.map (·.1) → Up X1 pa U → GvL X1 U L2 → goneU U = [] ∧ L2.map (·.1) = L.map (·.1) := by
  have hk := (place_nat hp).1
  obtain ⟨h1, hkid⟩ := kc hc hk
  have hn := tk_names hX h1 h2
  refine ⟨?_, fun X1 U L2 hX1 hU hG => ?_⟩
  · rw [giveE_names hn]
    unfold giveE
    rw [idR_tk hp, ← kids_core (core_set hk _), if_pos]
    refine ⟨rfl, fun e => ?_⟩
    have e' : (L.getD k nl0).1.k + 1 = (kidsN L pa : Int) := e
    rw [(place_nat hp).2.1] at hkid
    have e2 : (kidsN L pa : Int) = (L.getD k nl0).1.k + 1 := e'.symm
    omega
  · have hidX := idR_names (hX1.trans hn) pa
    rw [idR_tk hp] at hidX
    have hgs : goneU U = [] ∧ staysU U = pa := by
      cases hU with
      | nil h0 => rw [h0] at hidX; exact absurd hidX.2 (by simp)
      | cons h0 hU' =>
        rename_i r U'
        rw [h0] at hidX
        have hr : r.1 = (cntN (L.getD k nl0) ((L.getD k nl0).1.k + 1)).1 := hidX.1
        have hrk : (r.1.k == 1) = false := by
          rw [hr]
          exact beq_false_of_ne (show (L.getD k nl0).1.k + 1 ≠ 1 by omega)
        have hri : r.1.i = pa := by rw [hr]; exact (place_nat hp).2.1
        constructor
        · unfold goneU; rw [List.takeWhile_cons, hrk]; rfl
        · unfold staysU; rw [List.find?_cons, hrk]; exact hri
    have hl : leftN X1 U = X1 := by
      unfold leftN
      rw [hgs.1]
      simp
    unfold GvL at hG
    rw [hl, hgs.2] at hG
    exact ⟨hgs.1, set_back hp hc h2 (hX1.trans hn) hG⟩
end
theorem add_give {L X Y : List Nl} {pa : Int} {g : List Ins} {k : Nat} (hB : Bk L X pa) (hE : freshE X pa g = 0) (hi : (freshN X pa g).i = (k : Nat) + 1) (hn : Y.map (·.1) = insM k (freshN X pa g) (X.map (·.1))) :
    chkP Y = 0 ∧ honP Y = honP L ∧ giveE Y (freshN X pa g).i = 0 ∧ ∀ (Y1 U L2 : List Nl), Y1.map (·.1) = Y.map (·.1) → Up Y1 (freshN X pa g).i U → GvL Y1 U L2 → (goneU U).map (fun x => x.1.i) = [(freshN X pa g).i] ∧ L2.map (·.1) = L.map (·.1) := by
  have hY := chk_add hB.chk hE hi hn (fun x hx e => (hB.kid x hx e).1)
  refine ⟨hY, ?_, give_new hB.chk hE hi hn, fun Y1 U L2 hY1 hU hG => ?_⟩
  · have hnm : Y.map (·.1) = (insN k ((freshN X pa g), loc0) X).map (·.1) := by rw [names_ins]; exact hn
    rw [hon_names hnm, ← hB.hon]
    obtain ⟨k', hf, _, _, _, _, hg, _⟩ := fresh_full hE
    have h1 : honB (freshN X pa g) = true := by
      rw [hf]
      unfold honB bitT
      simp [hg]
    unfold honP insN
    rw [List.all_append, List.all_cons]
    show (_ && (honB (freshN X pa g) && _)) = _
    rw [h1, Bool.true_and, ← List.all_append, List.take_append_drop]
  · obtain ⟨k', hf, h24, hall, hno, hp, hg, hz⟩ := fresh_full hE
    have hkk : k' = k := by rw [hf] at hi; simp only at hi; omega
    subst hkk
    have hno' : ∀ x ∈ X, ¬ x.1.i = (freshN X pa g).i := by rw [hf]; exact hno
    have hn1 : (freshN X pa g).k = 1 := by rw [hf]
    have hnp : (freshN X pa g).p = pa := by rw [hf]
    have hpn : ¬ (freshN X pa g).i = (freshN X pa g).p := fun e => by
      rw [hnp] at e
      rcases hp with h1 | h1
      · obtain ⟨r, b, hr⟩ : ∃ r b, idR X pa = (r, b) := ⟨_, _, rfl⟩
        rw [hr] at h1
        simp only at h1
        subst h1
        obtain ⟨hm, hi2⟩ := idR_some hr
        exact hno' r hm (hi2.trans e.symm)
      · omega
    obtain ⟨a1, a2, a3⟩ := give_parts (n := freshN X pa g) (k := k') hno' hn1 hpn (fun x hx e => (hB.kid x hx (e.trans hnp)).2) (hY1.trans hn) hU
    rw [hnp] at a3
    refine ⟨a1, hB.back (leftN Y1 U) L2 (staysU U) a2 a3 ?_⟩
    exact hG
end Go.Proofs.YtelfdpcenplhjaaGreatDoor
namespace Go.Proofs.YtelfdpcenplhjaaGreatDoor
open Go.RowKit Go.Shelf
set_option linter.unusedVariables false
set_option linter.unusedSimpArgs false
theorem place_or (L : List Nl) (id : Int) : (∃ k : Nat, PlaceR L id k) ∨ PlaceR L id (-1) := by
  cases h : L.findIdx? (fun x => x.1.i == id) with
  | none =>
    rw [List.findIdx?_eq_none_iff] at h
    refine .inr (.inr ⟨rfl, fun j hj => ?_⟩)
    have := h (L.getD j nl0) (getD_mem hj)
    simpa using this
  | some k =>
    rw [List.findIdx?_eq_some_iff_getElem] at h
    obtain ⟨hk, h1, h2⟩ := h
    refine .inl ⟨k, .inl ⟨k, rfl, hk, ?_, fun j hj => ?_⟩⟩
    · rw [show L.getD k nl0 = L[k] by simp [List.getD, hk]]
      simpa using h1
    · have := h2 j hj
      have hjl : j < L.length := by omega
      rw [show L.getD j nl0 = L[j] by simp [List.getD, hjl]]
      simpa using this
section
variable {L M : List Nl}
theorem freeB_core (h : L.map (fun x => coreN x.1) = M.map (fun x => coreN x.1)) : freeB L = freeB M := by
  funext k
  have e := find_core (fun x => x.1 == ((k : Int) + 1)) h
  simp only [coreN] at e
  unfold freeB
  cases h1 : L.find? (fun x => x.1.i == ((k : Int) + 1)) <;> cases h2 : M.find? (fun x => x.1.i == ((k : Int) + 1)) <;> rw [h1, h2] at e <;> simp at e
  all_goals rfl
theorem freeR_core (h : L.map (fun x => coreN x.1) = M.map (fun x => coreN x.1)) : freeR L = freeR M := by unfold freeR; rw [freeB_core h]
theorem szG_core (h : L.map (fun x => coreN x.1) = M.map (fun x => coreN x.1)) (pa : Int) (g : List Ins) : szG L pa g = szG M pa g := by
  have e := (idR_core h pa).1
  have e2 : (idR L pa).1.1.z = (idR M pa).1.1.z := congrArg (fun q => q.2.2.2) e
  unfold szG
  rw [e2]
theorem freshE_core (h : L.map (fun x => coreN x.1) = M.map (fun x => coreN x.1)) (pa : Int) (g : List Ins) : freshE L pa g = freshE M pa g := by unfold freshE; rw [(idR_core h pa).2, freeR_core h, szG_core h]
end
structure Pk (V : World) (A : Option Addr) (m c : Nat) (L : List Nl) : Prop where
  po : Po V V.heap.size A L
  len : m = L.length
  cap : m ≤ c
theorem Pk.below {V V' : World} {A : Option Addr} {m c : Nat} {L : List Nl} (h : Pk V A m c L) (hb : Below V.heap.size V V') : Pk V' A m c L := ⟨(h.po.below hb (Nat.le_refl _)).more hb.size, h.len, h.cap⟩
theorem Pk.of {w V : World} {base : Nat} {A : Option Addr} {m c : Nat} {L : List Nl} (h : No V base A m c L) : Pk V A m c L := ⟨h.po, h.len, h.cap⟩
section
variable {A A1 A2 : Option Addr} {m c m1 c1 m2 c2 : Nat} {L X Y : List Nl} {pa : Int} {g : List Ins} {k : Nat}
theorem cb_check (V : World) (hK : HK V) (hP : Pk V A m c L) (h6 : L.length ≤ 1000) : Calls Tryz.prog 19 #[.agg #[.slice A m c]] V fun e w' => e = .returned (.int .i64 (chkP L)) ∧ Below V.heap.size V w' :=
  pcheck_any A m c L V hK.k hP.po hP.len hP.cap (by have := hP.len; omega)
theorem cb_honest (V : World) (hK : HK V) (hP : Pk V A m c L) (h6 : L.length ≤ 1000) (hc : chkP L = 0) : Calls Tryz.prog 22 #[.agg #[.slice A m c]] V fun e w' => e = .returned (.tuple #[.bool (honP L), .int .i64 0]) ∧ Below V.heap.size V w' :=
  (honest_any A m c L V hK hP.po hP.len hP.cap (by have := hP.len; omega)).mono fun e w' ⟨b, he, h, _, hb⟩ => ⟨by rw [he, h hc, hc], hb⟩
theorem cb_same (V : World) (hP : Pk V A1 m1 c1 X) (hP2 : Pk V A m c L) (h6 : L.length ≤ 1000) (hn : X.map (·.1) = L.map (·.1)) : Calls Tryz.prog 21 #[.agg #[.slice A1 m1 c1], .agg #[.slice A m c]] V fun e w' => e = .returned (.bool true) ∧ Below V.heap.size V w' :=
  have hl : X.length = L.length := by simpa using congrArg List.length hn
  (same_any A1 m1 c1 X A m c L V hP.po hP2.po hP.len hP2.len hP.cap hP2.cap (by have := hP.len; omega) (by have := hP2.len; omega)).mono fun e w' ⟨b, he, hr, hb⟩ => ⟨by rw [he, eqR_names hn hP.len hP2.len hr], hb⟩
theorem cb_take0 (V : World) (hK : HK V) (hP : Pk V A m c L) (h6 : L.length ≤ 1000) (hg : ∀ x ∈ L, x.1.g.length ≤ 300) (pa : Int) : Calls Tryz.prog 15 #[.agg #[.slice A m c], .int .i64 pa] V fun e w' => (∃ A1 m1 c1 er, e = .returned (.tuple #[.agg #[.slice A1 m1 c1], .int .i64 er])) ∧ Below V.heap.size V w' :=
  (take_any A m c L pa V hK.k hP.po hP.len hP.cap (by have := hP.len; omega) hg).mono fun e w' ⟨hb, h⟩ => by
    rcases h with ⟨_, rfl⟩ | ⟨_, _, rfl⟩ | ⟨_, k, A2, c2, L2, _, _, _, _, rfl⟩
    · exact ⟨⟨_, _, _, _, rfl⟩, hb⟩
    · exact ⟨⟨_, _, _, _, rfl⟩, hb⟩
    · exact ⟨⟨_, _, _, _, rfl⟩, hb⟩
theorem cb_take_no (V : World) (hK : HK V) (hP : Pk V A m c L) (h6 : L.length ≤ 1000) (hg : ∀ x ∈ L, x.1.g.length ≤ 300) (hno : ¬ chkP L = 0 ∨ PlaceR L pa (-1)) : Calls Tryz.prog 15 #[.agg #[.slice A m c], .int .i64 pa] V fun e w' => e = .returned (.tuple #[.agg #[.slice none 0 0], .int .i64 (if chkP L = 0 then 4 else chkP L)]) ∧ Below V.heap.size V w' :=
  (take_any A m c L pa V hK.k hP.po hP.len hP.cap (by have := hP.len; omega) hg).mono fun e w' ⟨hb, h⟩ => by
    rcases h with ⟨h0, rfl⟩ | ⟨h0, _, rfl⟩ | ⟨h0, k, A2, c2, L2, hp, hk, _, _, rfl⟩
    · exact ⟨by rw [if_neg h0]; rfl, hb⟩
    · exact ⟨by rw [if_pos h0]; rfl, hb⟩
    · rcases hno with h1 | h1
      · exact absurd h0 h1
      · exact absurd (place_nat hp).2.1 (place_no h1 k hk)
theorem cb_take_ok (V : World) (hK : HK V) (hP : Pk V A m c L) (h6 : L.length ≤ 1000) (hg : ∀ x ∈ L, x.1.g.length ≤ 300) (h0 : chkP L = 0) (hp : PlaceR L pa k) : Calls Tryz.prog 15 #[.agg #[.slice A m c], .int .i64 pa] V fun e w' => ∃ A1 m1 c1 X, e = .returned (.tuple #[.agg #[.slice A1 m1 c1], .int .i64 0]) ∧ Pk w' A1 m1 c1 X ∧ X.map (·.1) = (L.map (·.1)).set k { (L.getD k nl0).1 with k := IntKind.i64.wrap ((L.getD k nl0).1.k + 1) } ∧ Below V.heap.size V w' :=
  (take_any A m c L pa V hK.k hP.po hP.len hP.cap (by have := hP.len; omega) hg).mono fun e w' ⟨hb, h⟩ => by
    rcases h with ⟨h1, _⟩ | ⟨_, h1, _⟩ | ⟨_, k', A2, c2, L2, hp', hk, hn, hN, rfl⟩
    · exact absurd h0 h1
    · exact absurd (place_nat hp).2.1 (place_no h1 k (place_nat hp).1)
    · obtain rfl := place_uniq hp' hp
      exact ⟨_, _, _, L2, rfl, .of (w := V) hN, hn, hb⟩
theorem cb_give1 (V : World) (hK : HK V) (hP : Pk V A1 m1 c1 X) (h6 : X.length ≤ 1000) (hg : ∀ x ∈ X, x.1.g.length ≤ 300) (h0 : chkP X = 0) (hG : giveE X pa = 0)
    (hgo : ∀ (X1 U L2 : List Nl), X1.map (·.1) = X.map (·.1) → Up X1 pa U → GvL X1 U L2 → goneU U = [] ∧ L2.map (·.1) = L.map (·.1)) : Calls Tryz.prog 17 #[.agg #[.slice A1 m1 c1], .int .i64 pa] V fun e w' => ∃ A2 m2 c2 G gc Y, e = .returned (.tuple #[.agg #[.slice A2 m2 c2], .slice G 0 gc, .int .i64 0]) ∧ Pk w' A2 m2 c2 Y ∧ Y.map (·.1) = L.map (·.1) ∧ Below V.heap.size V w' :=
  (give_any A1 m1 c1 X pa V hK.k hP.po hP.len hP.cap (by have := hP.len; omega) hg).mono fun e w' ⟨hb, h⟩ => by
    rcases h with ⟨h1, _⟩ | ⟨_, h1, _⟩ | ⟨_, _, X1, U, G, gm, gc, A2, m2, c2, L2, hn, hU, hz, hN, hL, rfl⟩
    · exact absurd h0 h1
    · rw [hG] at h1; cases h1
    · obtain ⟨e1, e2⟩ := hgo X1 U L2 hn hU hL
      have hl := hz.len
      rw [e1] at hl
      obtain rfl : gm = 0 := hl
      exact ⟨_, _, _, _, _, L2, rfl, .of (w := V) hN, e2, hb⟩
theorem cb_give2 (V : World) (hK : HK V) (hP : Pk V A1 m1 c1 Y) (h6 : Y.length ≤ 1000) (hg : ∀ x ∈ Y, x.1.g.length ≤ 300) {id : Int} (h0 : chkP Y = 0) (hG : giveE Y id = 0)
    (hgo : ∀ (Y1 U L2 : List Nl), Y1.map (·.1) = Y.map (·.1) → Up Y1 id U → GvL Y1 U L2 → (goneU U).map (fun x => x.1.i) = [id] ∧ L2.map (·.1) = L.map (·.1)) : Calls Tryz.prog 17 #[.agg #[.slice A1 m1 c1], .int .i64 id] V fun e w' => ∃ A2 m2 c2 b off gc Z, e = .returned (.tuple #[.agg #[.slice A2 m2 c2], .slice (some ⟨b, off, none⟩) 1 gc, .int .i64 0]) ∧ Pk w' A2 m2 c2 Z ∧ Z.map (·.1) = L.map (·.1) ∧ b < w'.heap.size ∧ w'.cell? ⟨b, off, none⟩ = some (.int .i64 id) ∧ Below V.heap.size V w' :=
  (give_any A1 m1 c1 Y id V hK.k hP.po hP.len hP.cap (by have := hP.len; omega) hg).mono fun e w' ⟨hb, h⟩ => by
    rcases h with ⟨h1, _⟩ | ⟨_, h1, _⟩ | ⟨_, _, X1, U, G, gm, gc, A2, m2, c2, L2, hn, hU, hz, hN, hL, rfl⟩
    · exact absurd h0 h1
    · rw [hG] at h1; cases h1
    · obtain ⟨e1, e2⟩ := hgo X1 U L2 hn hU hL
      rw [e1] at hz
      have hl := hz.len
      obtain rfl : gm = 1 := hl
      obtain ⟨b, off, rfl, hbl, hc⟩ := hz.ri 0 (by simp)
      exact ⟨_, _, _, b, off, gc, L2, rfl, .of (w := V) hN, e2, hbl, by simpa using hc, hb⟩
theorem cb_add_no (V : World) (hK : HK V) (hP : Pk V A1 m1 c1 X) (h6 : X.length ≤ 1000) (hg : ∀ x ∈ X, x.1.g.length ≤ 300) (hpa : I64 pa) {G : Option Addr} {gc : Nat} (hG : Ri V V.heap.size G g.length (gF g)) (hgo : ∀ q ∈ g, insO q) (hgl : g.length ≤ 300) (hgc : g.length ≤ gc)
    (h0 : chkP X = 0) (hE : ¬ freshE X pa g = 0) : Calls Tryz.prog 12 #[.agg #[.slice A1 m1 c1], .int .i64 pa, .slice G g.length gc] V fun e w' => e = .returned (.tuple #[.agg #[.slice none 0 0], .int .i64 0, .int .i64 (freshE X pa g)]) ∧ Below V.heap.size V w' :=
  (add_any A1 m1 c1 X pa hpa G gc g V hK hP.po hP.len hP.cap (by have := hP.len; omega) hg hG hgo (by omega) hgc).mono fun e w' ⟨hb, h⟩ => by
    rcases h with ⟨h1, _⟩ | ⟨_, _, rfl⟩ | ⟨_, h1, _⟩
    · exact absurd h0 h1
    · exact ⟨rfl, hb⟩
    · exact absurd h1 hE
theorem cb_add_ok (V : World) (hK : HK V) (hP : Pk V A1 m1 c1 X) (h6 : X.length ≤ 1000) (hg : ∀ x ∈ X, x.1.g.length ≤ 300) (hpa : I64 pa) {G : Option Addr} {gc : Nat} (hG : Ri V V.heap.size G g.length (gF g)) (hgo : ∀ q ∈ g, insO q) (hgl : g.length ≤ 300) (hgc : g.length ≤ gc)
    (h0 : chkP X = 0) (hE : freshE X pa g = 0) : Calls Tryz.prog 12 #[.agg #[.slice A1 m1 c1], .int .i64 pa, .slice G g.length gc] V fun e w' => ∃ A2 m2 c2 Y, e = .returned (.tuple #[.agg #[.slice A2 m2 c2], .int .i64 (freshN X pa g).i, .int .i64 0]) ∧ Pk w' A2 m2 c2 Y ∧ (∃ k : Nat, (freshN X pa g).i = (k : Nat) + 1 ∧ Y.map (·.1) = insM k (freshN X pa g) (X.map (·.1))) ∧ Below V.heap.size V w' :=
  (add_any A1 m1 c1 X pa hpa G gc g V hK hP.po hP.len hP.cap (by have := hP.len; omega) hg hG hgo (by omega) hgc).mono fun e w' ⟨hb, h⟩ => by
    rcases h with ⟨h1, _⟩ | ⟨_, h1, _⟩ | ⟨_, _, k, A2, c2, L2, hk, hkl, hn, hN, rfl⟩
    · exact absurd h0 h1
    · exact absurd hE h1
    · exact ⟨_, _, _, L2, rfl, .of (w := V) hN, ⟨k, hk, hn⟩, hb⟩
theorem len_ins {X Y : List Nl} {n : Nm} {k : Nat} (hn : Y.map (·.1) = insM k n (X.map (·.1))) (hk : k ≤ X.length) : Y.length = X.length + 1 := by
  have := congrArg List.length hn
  simp [insM] at this
  omega
theorem short_ins {X Y : List Nl} {n : Nm} {k : Nat} (hn : Y.map (·.1) = insM k n (X.map (·.1))) (hl : n.g.length ≤ 300) (hg : ∀ x ∈ X, x.1.g.length ≤ 300) : ∀ x ∈ Y, x.1.g.length ≤ 300 := fun x hx => by
  have hm : x.1 ∈ insM k n (X.map (·.1)) := by rw [← hn]; exact List.mem_map_of_mem hx
  have key : ∀ z ∈ X.map (·.1), z.g.length ≤ 300 := fun z hz => by
    obtain ⟨y, hy, e⟩ := List.mem_map.1 hz
    rw [← e]
    exact hg y hy
  unfold insM at hm
  rcases List.mem_append.1 hm with h | h
  · exact key _ (List.mem_of_mem_take h)
  · rcases List.mem_cons.1 h with h | h
    · rw [h]; exact hl
    · exact key _ (List.mem_of_mem_drop h)
theorem short_set {L X : List Nl} {v : Int} (hk : k < L.length) (hn : X.map (·.1) = (L.map (·.1)).set k { (L.getD k nl0).1 with k := v }) (hg : ∀ x ∈ L, x.1.g.length ≤ 300) : X.length = L.length ∧ ∀ x ∈ X, x.1.g.length ≤ 300 := by
  refine ⟨by simpa using congrArg List.length hn, fun x hx => ?_⟩
  have hm : x.1 ∈ (L.map (·.1)).set k { (L.getD k nl0).1 with k := v } := by rw [← hn]; exact List.mem_map_of_mem hx
  rcases List.mem_or_eq_of_mem_set hm with h | h
  · obtain ⟨y, hy, e⟩ := List.mem_map.1 h
    rw [← e]
    exact hg y hy
  · rw [h]
    exact hg _ (getD_mem hk)
theorem core_names (h : L.map (·.1) = X.map (·.1)) : L.map (fun x => coreN x.1) = X.map (fun x => coreN x.1) := by
  have e : ∀ K : List Nl, K.map (fun x => coreN x.1) = (K.map (·.1)).map coreN := fun K => by rw [List.map_map]; rfl
  rw [e, e, h]
end
end Go.Proofs.YtelfdpcenplhjaaGreatDoor
namespace Go.Proofs.YtelfdpcenplhjaaGreatDoor
open Go.RowKit
set_option linter.unusedVariables false
def pairV (f : Nat → Ins) (d : Int → Int) : Nat → VmS → List (VmS × Int)
  | 0, _ => []
  | n + 1, s => match stepV alI hdI (f s.pc) d s with
    | (some r, _) => [(s, r)]
    | (none, s') => (s, 0) :: pairV f d n s'
section
variable {f : Nat → Ins} {d : Int → Int}
theorem pair_len : ∀ (k : Nat) (s : VmS), (pairV f d k s).length ≤ k := by
  intro k
  induction k with
  | zero => intro s; simp [pairV]
  | succ k ih =>
    intro s
    simp only [pairV]
    cases stepV alI hdI (f s.pc) d s with
    | mk r s' =>
      cases r with
      | some r => simp
      | none => have := ih s'; simp; omega
def lastV (l : List (VmS × Int)) : Int := match l.getLast? with | some x => x.2 | none => 0
theorem last_snoc (l : List (VmS × Int)) (x : VmS × Int) : lastV (l ++ [x]) = x.2 := by simp [lastV]
variable {n : Nat}
theorem step_fwd {s s' : VmS} (hM : May f n) (ho : ∀ i, i < n → insO (f i)) (hs : s.pc < n) (h : stepV alI hdI (f s.pc) d s = (none, s')) : s.pc < s'.pc ∧ s'.pc < n := by
  have hn := hM.hi
  obtain ⟨h1, _, h4, _⟩ := oneL_ok (hM.one s.pc hs)
  exact (may_goes hM ho).ok s.pc hs _ (step_next h (by omega) (form_row h1) (fun e => by have := h4 e; omega))
theorem pair_fuel (hM : May f n) (ho : ∀ i, i < n → insO (f i)) : ∀ (k k' : Nat) (s : VmS), s.pc < n → n - s.pc ≤ k → n - s.pc ≤ k' → pairV f d k s = pairV f d k' s := by
  intro k
  induction k with
  | zero => intro k' s hs hk; omega
  | succ k ih =>
    intro k' s hs hk hk'
    obtain ⟨m, rfl⟩ : ∃ m, k' = m + 1 := ⟨k' - 1, by omega⟩
    simp only [pairV]
    cases hst : stepV alI hdI (f s.pc) d s with
    | mk r s' =>
      cases r with
      | some r => rfl
      | none =>
        obtain ⟨h1, h2⟩ := step_fwd hM ho hs hst
        simp only
        rw [ih m s' h2 (by omega) (by omega)]
def restV (f : Nat → Ins) (d : Int → Int) (n : Nat) (s : VmS) : List (VmS × Int) := pairV f d (n - s.pc) s
theorem rest_go (hM : May f n) (ho : ∀ i, i < n → insO (f i)) {s s' : VmS} (hs : s.pc < n) (h : stepV alI hdI (f s.pc) d s = (none, s')) : restV f d n s = (s, 0) :: restV f d n s' := by
  obtain ⟨h1, h2⟩ := step_fwd hM ho hs h
  obtain ⟨m, hm⟩ : ∃ m, n - s.pc = m + 1 := ⟨n - s.pc - 1, by omega⟩
  unfold restV
  rw [hm]
  simp only [pairV, h]
  rw [pair_fuel hM ho m (n - s'.pc) s' h2 (by omega) (by omega)]
theorem rest_ret {s s' : VmS} {r : Int} (hs : s.pc < n) (h : stepV alI hdI (f s.pc) d s = (some r, s')) : restV f d n s = [(s, r)] := by
  obtain ⟨m, hm⟩ : ∃ m, n - s.pc = m + 1 := ⟨n - s.pc - 1, by omega⟩
  unfold restV
  rw [hm]
  simp only [pairV, h]
theorem rest_len (s : VmS) : (restV f d n s).length ≤ n := by have := pair_len (f := f) (d := d) (n - s.pc) s; unfold restV; omega
def allV (f : Nat → Ins) (d : Int → Int) (n : Nat) : List (VmS × Int) := restV f d n vm0
theorem all_len : (allV f d n).length ≤ n := rest_len vm0
def retV (f : Nat → Ins) (d : Int → Int) (n : Nat) : Int := lastV (allV f d n)
end
structure VmOk (s : VmS) : Prop where
  a : U32 s.a
  x : U32 s.x
  len : s.mem.length = 16
  mem : U32s s.mem
theorem vm0_ok : VmOk vm0 := ⟨by unfold U32 vm0; simp, by unfold U32 vm0; simp, by simp [vm0], fun z hz => by
  simp only [vm0, List.mem_replicate] at hz
  rw [hz.2]
  unfold U32; omega⟩
theorem set_U32 {l : List Int} (h : U32s l) (k : Nat) {v : Int} (hv : U32 v) : U32s (l.set k v) := by
  intro z hz
  rcases List.mem_or_eq_of_mem_set hz with h1 | h1
  · exact h z h1
  · rw [h1]; exact hv
theorem eff_ok {q : Ins} {d : Int → Int} {s : VmS} {e : Int × Int × List Int} (hq : insO q) (hd : ∀ o, U32 (d o)) (hs : VmOk s) (h : effV alI q d s = some e) : U32 e.1 ∧ U32 e.2.1 ∧ e.2.2.length = 16 ∧ U32s e.2.2 := by
  have hk : U32 q.2.2.2 := ⟨hq.k0, hq.k1⟩
  have h64 : U32 64 := by unfold U32; omega
  have hm : ∀ n, U32 (s.mem.getD n 0) := fun n => hs.mem.at_ n
  have hl := hs.len
  have hM := hs.mem
  have ha := hs.a
  have hx := hs.x
  unfold effV at h
  by_cases c32 : q.1 = 32
  · rw [if_pos c32] at h; injection h with h; subst h; exact ⟨hd _, hx, hl, hM⟩
  rw [if_neg c32] at h
  by_cases c128 : q.1 = 128
  · rw [if_pos c128] at h; injection h with h; subst h; exact ⟨h64, hx, hl, hM⟩
  rw [if_neg c128] at h
  by_cases c129 : q.1 = 129
  · rw [if_pos c129] at h; injection h with h; subst h; exact ⟨ha, h64, hl, hM⟩
  rw [if_neg c129] at h
  by_cases c0 : q.1 = 0
  · rw [if_pos c0] at h; injection h with h; subst h; exact ⟨hk, hx, hl, hM⟩
  rw [if_neg c0] at h
  by_cases c1 : q.1 = 1
  · rw [if_pos c1] at h; injection h with h; subst h; exact ⟨ha, hk, hl, hM⟩
  rw [if_neg c1] at h
  by_cases c96 : q.1 = 96
  · rw [if_pos c96] at h; injection h with h; subst h; exact ⟨hm _, hx, hl, hM⟩
  rw [if_neg c96] at h
  by_cases c97 : q.1 = 97
  · rw [if_pos c97] at h; injection h with h; subst h; exact ⟨ha, hm _, hl, hM⟩
  rw [if_neg c97] at h
  by_cases c2 : q.1 = 2
  · rw [if_pos c2] at h; injection h with h; subst h; exact ⟨ha, hx, by simpa using hl, set_U32 hM _ ha⟩
  rw [if_neg c2] at h
  by_cases c3 : q.1 = 3
  · rw [if_pos c3] at h; injection h with h; subst h; exact ⟨ha, hx, by simpa using hl, set_U32 hM _ hx⟩
  rw [if_neg c3] at h
  by_cases c7 : q.1 = 7
  · rw [if_pos c7] at h; injection h with h; subst h; exact ⟨ha, ha, hl, hM⟩
  rw [if_neg c7] at h
  by_cases c135 : q.1 = 135
  · rw [if_pos c135] at h; injection h with h; subst h; exact ⟨hx, hx, hl, hM⟩
  rw [if_neg c135] at h
  rw [Option.map_eq_some_iff] at h
  obtain ⟨v, hv, rfl⟩ := h
  exact ⟨al_U32 ha (by by_cases hc : q.1 % 16 = 12; rw [if_pos hc]; exact hx; rw [if_neg hc]; exact hk) hv, hx, hl, hM⟩
theorem step_ok {q : Ins} {d : Int → Int} {s s' : VmS} {r : Option Int} (hq : insO q) (hd : ∀ o, U32 (d o)) (hs : VmOk s) (h : stepV alI hdI q d s = (r, s')) : VmOk s' := by
  unfold stepV at h
  by_cases c6 : q.1 = 6
  · rw [if_pos c6] at h; injection h with _ h; subst h; exact hs
  rw [if_neg c6] at h
  by_cases c22 : q.1 = 22
  · rw [if_pos c22] at h; injection h with _ h; subst h; exact hs
  rw [if_neg c22] at h
  by_cases c5 : q.1 = 5
  · rw [if_pos c5] at h; injection h with _ h; subst h; exact ⟨hs.a, hs.x, hs.len, hs.mem⟩
  rw [if_neg c5] at h
  by_cases cj : formOf q.1 = 5 ∨ formOf q.1 = 6
  · rw [if_pos cj] at h; injection h with _ h; subst h; exact ⟨hs.a, hs.x, hs.len, hs.mem⟩
  rw [if_neg cj] at h
  cases he : effV alI q d s with
  | none => rw [he] at h; injection h with _ h; subst h; exact hs
  | some e =>
    obtain ⟨h1, h2, h3, h4⟩ := eff_ok hq hd hs he
    rw [he] at h
    injection h with _ h
    subst h
    exact ⟨h1, h2, h3, h4⟩
end Go.Proofs.YtelfdpcenplhjaaGreatDoor
namespace Go.Proofs.YtelfdpcenplhjaaGreatDoor
open Go.RowKit
theorem row_list {c : Int} (h : rowC c ≠ none) : c ∈ ([0, 1, 2, 3, 4, 5, 6, 7, 12, 20, 21, 22, 28, 29, 32, 36, 37, 44, 45, 52, 53, 60, 61, 68, 69, 76, 77, 84, 92, 96, 97, 100, 108, 116, 124, 128, 129, 132, 135, 164, 172] : List Int) := by
  cases hr : rowC c with
  | none => exact absurd hr h
  | some i =>
    obtain ⟨hi, rfl⟩ := rowC_some hr
    have hall : ((List.range 41).all fun i => ([0, 1, 2, 3, 4, 5, 6, 7, 12, 20, 21, 22, 28, 29, 32, 36, 37, 44, 45, 52, 53, 60, 61, 68, 69, 76, 77, 84, 92, 96, 97, 100, 108, 116, 124, 128, 129, 132, 135, 164, 172] : List Int).contains (kC i)) = true := by decide
    simpa using List.all_eq_true.1 hall i (List.mem_range.2 hi)
theorem form_at_0 : formOf 0 = 1 := by rfl
theorem form_at_1 : formOf 1 = 1 := by rfl
theorem form_at_2 : formOf 2 = 3 := by rfl
theorem form_at_3 : formOf 3 = 3 := by rfl
theorem form_at_4 : formOf 4 = 1 := by rfl
theorem form_at_5 : formOf 5 = 4 := by rfl
theorem form_at_6 : formOf 6 = 1 := by rfl
theorem form_at_7 : formOf 7 = 0 := by rfl
theorem form_at_12 : formOf 12 = 0 := by rfl
theorem form_at_20 : formOf 20 = 1 := by rfl
theorem form_at_21 : formOf 21 = 5 := by rfl
theorem form_at_22 : formOf 22 = 0 := by rfl
theorem form_at_28 : formOf 28 = 0 := by rfl
theorem form_at_29 : formOf 29 = 6 := by rfl
theorem form_at_32 : formOf 32 = 2 := by rfl
theorem form_at_36 : formOf 36 = 1 := by rfl
theorem form_at_37 : formOf 37 = 5 := by rfl
theorem form_at_44 : formOf 44 = 0 := by rfl
theorem form_at_45 : formOf 45 = 6 := by rfl
theorem form_at_52 : formOf 52 = 1 := by rfl
theorem form_at_53 : formOf 53 = 5 := by rfl
theorem form_at_60 : formOf 60 = 0 := by rfl
theorem form_at_61 : formOf 61 = 6 := by rfl
theorem form_at_68 : formOf 68 = 1 := by rfl
theorem form_at_69 : formOf 69 = 5 := by rfl
theorem form_at_76 : formOf 76 = 0 := by rfl
theorem form_at_77 : formOf 77 = 6 := by rfl
theorem form_at_84 : formOf 84 = 1 := by rfl
theorem form_at_92 : formOf 92 = 0 := by rfl
theorem form_at_96 : formOf 96 = 3 := by rfl
theorem form_at_97 : formOf 97 = 3 := by rfl
theorem form_at_100 : formOf 100 = 1 := by rfl
theorem form_at_108 : formOf 108 = 0 := by rfl
theorem form_at_116 : formOf 116 = 1 := by rfl
theorem form_at_124 : formOf 124 = 0 := by rfl
theorem form_at_128 : formOf 128 = 0 := by rfl
theorem form_at_129 : formOf 129 = 0 := by rfl
theorem form_at_132 : formOf 132 = 0 := by rfl
theorem form_at_135 : formOf 135 = 0 := by rfl
theorem form_at_164 : formOf 164 = 1 := by rfl
theorem form_at_172 : formOf 172 = 0 := by rfl
end Go.Proofs.YtelfdpcenplhjaaGreatDoor
namespace Go.Proofs.YtelfdpcenplhjaaGreatDoor
open Go.RowKit
set_option maxHeartbeats 400000 in
theorem halves_any (x : Int) (h : U64 x) (w : World) :
    Calls Tryz.prog 168 #[.int .u64 x] w fun e w' => e = .returned (.tuple #[.int .u32 (lo x), .int .u32 (hi x)]) ∧ w = w' := by
  obtain ⟨h0, h1⟩ := h
  go_enter Tryz.func168, Tryz.ntmps168
  go_wp2
  go_ret2
  exact ⟨rfl, rfl⟩
def rightB (o : Int) : Bool := decide (o % 4 = 0 ∧ o ≤ 60)
set_option maxHeartbeats 400000 in
theorem holds_any (o : Int) (ho : U32 o) (w : World) :
    Calls Tryz.prog 162 #[.int .u32 o] w fun e w' => e = .returned (.bool (rightB o)) ∧ w = w' := by
  obtain ⟨h0, h1⟩ := ho
  by_cases h4 : o % 4 = 0
  · by_cases h6 : o ≤ 60
    · have e : rightB o = true := by unfold rightB; simp [h4, h6]
      rw [e]
      clear e
      go_enter Tryz.func162, Tryz.ntmps162
      go_wp2
      go_ret
      exact ⟨rfl, rfl⟩
    · have e : rightB o = false := by unfold rightB; simp [h6]
      rw [e]
      clear e
      go_enter Tryz.func162, Tryz.ntmps162
      go_wp2
      go_ret
      exact ⟨rfl, rfl⟩
  · have e : rightB o = false := by unfold rightB; simp [h4]
    rw [e]
    clear e
    go_enter Tryz.func162, Tryz.ntmps162
    go_wp2
    go_ret
    exact ⟨rfl, rfl⟩
theorem dat_info : (Tryz.prog.info? 64).map (·.size) = some 9 := by kernel_rfl
end Go.Proofs.YtelfdpcenplhjaaGreatDoor
namespace Go.Proofs.YtelfdpcenplhjaaGreatDoor
open Go.RowKit
def wk (d : Dat) (k : Nat) : List Int := (wordsL d).take (4 + 2 * k) ++ List.replicate (12 - 2 * k) 0
def argL (d : Dat) : List Int := [d.a0, d.a1, d.a2, d.a3, d.a4, d.a5]
theorem wk_step (d : Dat) (k : Nat) (hk : k < 6) : ((arrC (wk d k)).setIfInBounds (4 + 2 * k) (.int .u32 (lo ((argL d).getD k 0)))).setIfInBounds (5 + 2 * k) (.int .u32 (hi ((argL d).getD k 0))) = arrC (wk d (k + 1)) := by
  match k, hk with
  | 0, _ => rfl
  | 1, _ => rfl
  | 2, _ => rfl
  | 3, _ => rfl
  | 4, _ => rfl
  | 5, _ => rfl
theorem wk_end (d : Dat) : wk d 6 = wordsL d := by simp [wk, wordsL]
theorem arr_get (l : List Int) (k : Nat) (hk : k < l.length) : (arrC l)[k]? = some (.int .u32 (l.getD k 0)) := by
  simp [arrC, List.getD, hk]
theorem arr_info : (Tryz.prog.info? 147).map (·.size) = some 16 := by kernel_rfl
theorem arr_one (l : List Int) : (arrC l).all (·.oneCell') = true := by simp [arrC, Value.oneCell']
theorem wk_len (d : Dat) (k : Nat) (hk : k ≤ 6) : (wk d k).length = 16 := by
  simp [wk, words_len]; omega
theorem arg_index (d : Dat) (k : Nat) (hk : k < 6) : ∀ w : World, (Instr.index 62 (.agg #[.int .u64 d.a0, .int .u64 d.a1, .int .u64 d.a2, .int .u64 d.a3, .int .u64 d.a4, .int .u64 d.a5]) (.int .i64 k)).run Tryz.prog w = .ok (.int .u64 ((argL d).getD k 0)) w := by
  match k, hk with
  | 0, _ => intro V; kernel_rfl
  | 1, _ => intro V; kernel_rfl
  | 2, _ => intro V; kernel_rfl
  | 3, _ => intro V; kernel_rfl
  | 4, _ => intro V; kernel_rfl
  | 5, _ => intro V; kernel_rfl
theorem arg_ok (d : Dat) (h : DatOk d) (k : Nat) (hk : k < 6) : U64 ((argL d).getD k 0) := by
  match k, hk with
  | 0, _ => exact h.a0
  | 1, _ => exact h.a1
  | 2, _ => exact h.a2
  | 3, _ => exact h.a3
  | 4, _ => exact h.a4
  | 5, _ => exact h.a5
set_option maxHeartbeats 2000000 in
theorem words_any (d : Dat) (h : DatOk d) (w : World) :
    Calls Tryz.prog 163 #[datV d] w fun e w' => e = .returned (arrV (wordsL d)) ∧ Below w.heap.size w w' := by
  have HA := Lib.hid (arg_ok d h)
  have HI := Lib.hid (arg_index d)
  have hip := h.ip
  unfold datV datC
  go_enter Tryz.func163, Tryz.ntmps163
  go_wp2_with (go_at_call 168; refine (halves_any _ hip _).mono ?_; rintro e w' ⟨rfl, rfl⟩)
  go_loopw [21] (fun i wr => ∃ k : Nat, k ≤ 6 ∧ i = .int .i64 k ∧ Blk wr (w.heap.size + 1 + 1) (arrC (wk d k)) 147 ∧ Blk wr (w.heap.size + 1) (arrC (List.replicate 16 0)) 147 ∧ Below w.heap.size w wr) (fun i _ => 6 - (intOf i).toNat)
  case atStart =>
    exact ⟨0, Nat.zero_le _, rfl, Blk.new_ _ _ _ (by simp), (Blk.new_ _ _ _ (by simp)).alloc _, (((Below.refl _ _).alloc (Nat.le_refl _) _).alloc (by simp) _).alloc (by simp; omega) _⟩
  case round =>
    obtain ⟨k, hk, rfl, b3, b2, hb⟩ := hrel
    by_cases hlt : k < 6
    · have hlt' : (k : Int) < 6 := by omega
      have hi := HI.out k hlt
      have ha := HA.out k hlt
      have c1 := (b3.cell (4 + 2 * k)).trans (arr_get _ _ (by rw [wk_len d k hk]; omega))
      have c2 := (b3.cell (5 + 2 * k)).trans (arr_get _ _ (by rw [wk_len d k hk]; omega))
      have f1 := b3.frozen (4 + 2 * k)
      have f2 := b3.frozen (5 + 2 * k)
      have hst := Lib.hid (wk_step d k hlt)
      have hset := Lib.hid (fun u v => (b3.set_ (4 + 2 * k) u).set_ (5 + 2 * k) v)
      obtain ⟨x, hx⟩ : ∃ x, (argL d).getD k 0 = x := ⟨_, rfl⟩
      rw [hx] at hi ha
      have HX := Lib.hid hx
      clear hx
      go_wp2_with (go_at_call 168; refine (halves_any _ ha _).mono ?_; rintro e w' ⟨rfl, rfl⟩)
      refine ⟨⟨k + 1, by omega, by go_num, ?_, (b2.far (by simp) _).far (by simp) _, (hb.setCell (by simp; omega) _).setCell (by simp; omega) _⟩, by simp [intOf]; omega⟩
      rw [← hst.out, HX.out]
      exact hset.out _ _
    · obtain rfl : k = 6 := by omega
      rw [wk_end] at b3
      have hone := Lib.hid (arr_one (wordsL d))
      go_wp2_with (first
        | (refine wpList_load_row rfl 147 (.tmp 3) rfl (w.heap.size + 1 + 1) rfl 147 (arrC (wordsL d)) (0, 0) _ b3.blk Tryz.underlying147 rfl arr_info ?_)
        | (refine wpList_store_blk rfl 147 (.tmp 2) (.tmp 39) rfl (w.heap.size + 1) (arrC (List.replicate 16 0)) (arrC (wordsL d)) 147 rfl rfl b2 rfl arr_info hone.out ?_; intro w9 hw9 hn9))
      refine bodyPost_ret (v := arrV (wordsL d)) (results_cell_row rfl _ _ (w.heap.size + 1) 147 (arrC (wordsL d)) (0, 0) _ rfl hw9.blk Tryz.underlying147 rfl arr_info) rfl ?_
      exact ⟨rfl, hb.trans (hn9.below w.heap.size (by omega) hb.size)⟩
end Go.Proofs.YtelfdpcenplhjaaGreatDoor
namespace Go.Proofs.YtelfdpcenplhjaaGreatDoor
open Go.RowKit
deriving instance DecidableEq for Dat
end Go.Proofs.YtelfdpcenplhjaaGreatDoor
namespace Go.Proofs.YtelfdpcenplhjaaGreatDoor
open Go.RowKit
end Go.Proofs.YtelfdpcenplhjaaGreatDoor
namespace Go.Proofs.YtelfdpcenplhjaaGreatDoor
open Go.RowKit
end Go.Proofs.YtelfdpcenplhjaaGreatDoor
namespace Go.Proofs.YtelfdpcenplhjaaGreatDoor
open Go.RowKit
def dat0 : Dat := ⟨0, 0, 0, 0, 0, 0, 0, 0, 0⟩
end Go.Proofs.YtelfdpcenplhjaaGreatDoor
namespace Go.Proofs.YtelfdpcenplhjaaGreatDoor
open Go.RowKit
def wb (L : List Int) : List Int := (List.range 16).flatMap fun i => low (L.getD i 0) 4
end Go.Proofs.YtelfdpcenplhjaaGreatDoor
namespace Go.Proofs.YtelfdpcenplhjaaGreatDoor
open Go.RowKit
theorem dat0_ok : DatOk dat0 := by constructor <;> (unfold dat0; simp only [U32, U64]; omega)
end Go.Proofs.YtelfdpcenplhjaaGreatDoor
namespace Go.Proofs.YtelfdpcenplhjaaGreatDoor
open Go.RowKit
set_option linter.unusedVariables false
def mcC (p a x : Int) (mem : List Int) : Array Value := #[.int .i64 p, .int .u32 a, .int .u32 x] ++ arrC mem
def vmC (s : VmS) : Array Value := mcC s.pc s.a s.x s.mem
def vmV (s : VmS) : Value := .agg (vmC s)
section
variable {p a x : Int} {mem : List Int}
theorem mc_0 : (mcC p a x mem)[0]? = some (.int .i64 p) := by unfold mcC; rw [Array.getElem?_append_left (by simp)]; rfl
theorem mc_1 : (mcC p a x mem)[1]? = some (.int .u32 a) := by unfold mcC; rw [Array.getElem?_append_left (by simp)]; rfl
theorem mc_2 : (mcC p a x mem)[2]? = some (.int .u32 x) := by unfold mcC; rw [Array.getElem?_append_left (by simp)]; rfl
theorem mc_3 {k : Nat} (h : mem.length = 16) (hk : k < 16) : (mcC p a x mem)[3 + k]? = some (.int .u32 (mem.getD k 0)) := by
  unfold mcC
  rw [Array.getElem?_append_right (by simp)]
  simp only [List.size_toArray, List.length_cons, List.length_nil, Nat.zero_add, Nat.add_sub_cancel_left, Nat.reduceAdd]
  exact arr_get mem k (by omega)
theorem mc_size (h : mem.length = 16) : (mcC p a x mem).size = 19 := by simp [mcC, arrC, h]
theorem mc_one : (mcC p a x mem).all (·.oneCell') = true := by
  rw [Array.all_eq_true_iff_forall_mem]
  intro v hv
  simp only [mcC, Array.mem_append, List.mem_toArray, List.mem_cons, List.not_mem_nil, or_false, arrC, List.mem_map] at hv
  rcases hv with (rfl | rfl | rfl) | ⟨z, _, rfl⟩ <;> rfl
theorem mc_inf (h : mem.length = 16) : (Tryz.prog.info? 149).map (·.size) = some (mcC p a x mem).size := by rw [mc_size h]; kernel_rfl
theorem mc_s0 (u : Int) : (mcC p a x mem).setIfInBounds 0 (.int .i64 u) = mcC u a x mem := by
  apply Array.ext'; simp [mcC]
theorem mc_s1 (u : Int) : (mcC p a x mem).setIfInBounds 1 (.int .u32 u) = mcC p u x mem := by
  apply Array.ext'; simp [mcC]
theorem mc_s2 (u : Int) : (mcC p a x mem).setIfInBounds 2 (.int .u32 u) = mcC p a u mem := by
  apply Array.ext'; simp [mcC]
theorem mc_s3 (k : Nat) (u : Int) : (mcC p a x mem).setIfInBounds (3 + k) (.int .u32 u) = mcC p a x (mem.set k u) := by
  apply Array.ext'
  rw [Nat.add_comm]
  simp [mcC, arrC, List.map_set]
end
section
variable {V : World} {g : Nat} {p a x : Int} {m0 m1 m2 m3 m4 m5 m6 m7 m8 m9 m10 m11 m12 m13 m14 m15 : Int} {t : TypeId}
end
set_option maxHeartbeats 400000 in
theorem second_any (c y z k p a x : Int) (mem : List Int) (w : World) (hK : Kinds w) :
    Calls Tryz.prog 133 #[insV c y z k, .agg (mcC p a x mem)] w fun e w' => e = .returned (.int .u32 (if formOf c = 1 ∨ formOf c = 5 then k else x)) ∧ Below w.heap.size w w' := by
  have F := fun V (h : Kinds V) => form_any c V h
  obtain ⟨r, hr⟩ : ∃ r, formOf c = r := ⟨_, rfl⟩
  rw [hr] at F ⊢
  unfold insV
  have B := (((Below.refl _ w).alloc (Nat.le_refl _) (.cells #[.int .u16 c, .int .u8 y, .int .u8 z, .int .u32 k] 111)).alloc (by simp) (.cells (mcC p a x mem) 149))
  have F' := F _ (hK.below B hK.pos)
  have b2 := Blk.new_ (w.alloc (.cells #[.int .u16 c, .int .u8 y, .int .u8 z, .int .u32 k] 111)) (mcC p a x mem) 149 (n := w.heap.size + 1) (by simp)
  have c2 := (b2.cell 2).trans mc_2
  clear F hr b2
  have key : ∀ v, (if r = 1 ∨ r = 5 then k else x) = v → Calls Tryz.prog 133 #[.agg #[.int .u16 c, .int .u8 y, .int .u8 z, .int .u32 k], .agg (mcC p a x mem)] w fun e w' => e = .returned (.int .u32 v) ∧ Below w.heap.size w w' := by
    intro v hv
    by_cases h1 : r = 1
    · subst h1
      obtain rfl : k = v := by simpa using hv
      clear hv
      go_enter Tryz.func133, Tryz.ntmps133
      go_wp2_with fail
      refine F'.mono ?_
      rintro e w' ⟨rfl, hw'⟩
      subst w'
      go_wp2_with fail
      go_ret
      exact ⟨rfl, B⟩
    · by_cases h5 : r = 5
      · subst h5
        obtain rfl : k = v := by simpa using hv
        clear hv
        go_enter Tryz.func133, Tryz.ntmps133
        go_wp2_with fail
        refine F'.mono ?_
        rintro e w' ⟨rfl, hw'⟩
        subst w'
        go_wp2_with fail
        go_ret
        exact ⟨rfl, B⟩
      · obtain rfl : x = v := by simpa [h1, h5] using hv
        clear hv
        go_enter Tryz.func133, Tryz.ntmps133
        go_wp2_with fail
        refine F'.mono ?_
        rintro e w' ⟨rfl, hw'⟩
        subst w'
        go_wp2_with fail
        go_ret
        exact ⟨rfl, B⟩
  exact key _ rfl
set_option maxHeartbeats 400000 in
theorem given_any (c y z k p a x : Int) (mem : List Int) (w : World) (hK : Kinds w) :
    Calls Tryz.prog 135 #[insV c y z k, .agg (mcC p a x mem)] w fun e w' => e = .returned (.int .u32 (if formOf c = 1 then k else a)) ∧ Below w.heap.size w w' := by
  have F := fun V (h : Kinds V) => form_any c V h
  obtain ⟨r, hr⟩ : ∃ r, formOf c = r := ⟨_, rfl⟩
  rw [hr] at F ⊢
  unfold insV
  have B := (((Below.refl _ w).alloc (Nat.le_refl _) (.cells #[.int .u16 c, .int .u8 y, .int .u8 z, .int .u32 k] 111)).alloc (by simp) (.cells (mcC p a x mem) 149))
  have F' := F _ (hK.below B hK.pos)
  have b2 := Blk.new_ (w.alloc (.cells #[.int .u16 c, .int .u8 y, .int .u8 z, .int .u32 k] 111)) (mcC p a x mem) 149 (n := w.heap.size + 1) (by simp)
  have c1 := (b2.cell 1).trans mc_1
  clear F hr b2
  by_cases h1 : r = 1
  · subst h1
    rw [if_pos rfl]
    go_enter Tryz.func135, Tryz.ntmps135
    go_wp2_with fail
    refine F'.mono ?_
    rintro e w' ⟨rfl, hw'⟩
    subst w'
    go_wp2_with fail
    go_ret
    exact ⟨rfl, B⟩
  · rw [if_neg h1]
    go_enter Tryz.func135, Tryz.ntmps135
    go_wp2_with fail
    refine F'.mono ?_
    rintro e w' ⟨rfl, hw'⟩
    subst w'
    go_wp2_with fail
    go_ret
    exact ⟨rfl, B⟩
set_option maxHeartbeats 400000 in
theorem moved_any (c y z k p a x : Int) (mem : List Int) (w : World) (hK : Kinds w) :
    Calls Tryz.prog 136 #[insV c y z k, .agg (mcC p a x mem)] w fun e w' => e = .returned (.tuple #[.int .u32 (if (nameOf c).1.toList = [116, 97, 120] then a else x), .int .u32 (if (nameOf c).1.toList = [116, 97, 120] then a else x)]) ∧ Below w.heap.size w w' := by
  have F := fun V (h : Kinds V) => name_any c V h
  obtain ⟨⟨r, t⟩, hr⟩ : ∃ r, nameOf c = r := ⟨_, rfl⟩
  rw [hr] at F ⊢
  simp only at F ⊢
  unfold insV
  have B := (((Below.refl _ w).alloc (Nat.le_refl _) (.cells #[.int .u16 c, .int .u8 y, .int .u8 z, .int .u32 k] 111)).alloc (by simp) (.cells (mcC p a x mem) 149))
  have F' := F _ (hK.below B hK.pos)
  have b2 := Blk.new_ (w.alloc (.cells #[.int .u16 c, .int .u8 y, .int .u8 z, .int .u32 k] 111)) (mcC p a x mem) 149 (n := w.heap.size + 1) (by simp)
  have b3 := fun V (h : Below (w.heap.size + 2) ((w.alloc (.cells #[.int .u16 c, .int .u8 y, .int .u8 z, .int .u32 k] 111)).alloc (.cells (mcC p a x mem) 149)) V) => b2.below h (by omega)
  clear F hr b2
  by_cases h1 : r.toList = [116, 97, 120]
  · rw [if_pos h1]
    go_enter Tryz.func136, Tryz.ntmps136
    go_wp2_with fail
    refine F'.mono ?_
    rintro e w' ⟨rfl, hb⟩
    have b4 := b3 w' (by simpa using hb)
    have c1 := (b4.cell 1).trans mc_1
    have B' := B.trans (hb.mono (by simp; omega))
    clear b3 hb
    go_wp2_with fail
    go_region
    go_wp2_with fail
    go_ret2
    exact ⟨rfl, B'.drew⟩
  · rw [if_neg h1]
    have h2 : (r.toList == [116, 97, 120]) = false := by simpa using h1
    go_enter Tryz.func136, Tryz.ntmps136
    go_wp2_with fail
    refine F'.mono ?_
    rintro e w' ⟨rfl, hb⟩
    have b4 := b3 w' (by simpa using hb)
    have c2 := (b4.cell 2).trans mc_2
    have B' := B.trans (hb.mono (by simp; omega))
    clear b3 hb
    go_wp2_with fail
    go_region
    go_wp2_with fail
    go_ret2
    exact ⟨rfl, B'.drew⟩
end Go.Proofs.YtelfdpcenplhjaaGreatDoor

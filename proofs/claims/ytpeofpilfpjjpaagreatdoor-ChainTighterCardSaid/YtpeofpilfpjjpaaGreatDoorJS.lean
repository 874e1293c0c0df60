/-
  PlOv, OpenI, PlOp, PlOq: in one file.
-/
import Derived.Test.YtpeofpilfpjjpaaGreatDoorJL
import Derived.Test.YtpeofpilfpjjpaaGreatDoorJC
import Derived.Test.YtpeofpilfpjjpaaGreatDoorJK
import Derived.Test.YtpeofpilfpjjpaaGreatDoorHI
import Derived.Deep.Slices
import Derived.Lib.SmallJoins
import Derived.ChangeArms
import Derived.ChangeSame
/-
  The law's own over.
-/
namespace Go.Proofs.YtpeofpilfpjjpaaGreatDoor
open Go.RowKit Go.Shelf
set_option linter.unusedVariables false
set_option linter.unusedSimpArgs false

/-- A slice whose cells read as these filters. -/
def Pa (w : World) (B : Nat) (A : Option Addr) (L : List Nl) : Prop := ∀ k, k < L.length → ∃ b off, A = some ⟨b, off, none⟩ ∧ b < B ∧ w.rangeAt b (off + k * 7) (ndC (L.getD k nl0)).toList
theorem Pa.below {w w' : World} {B B' : Nat} {A : Option Addr} {L : List Nl} (h : Pa w B A L) (hb : Below B' w w') (hB : B ≤ B') : Pa w' B A L := fun k hk => by
  obtain ⟨b, off, e, h1, h2⟩ := h k hk
  exact ⟨b, off, e, h1, range_below h2 hb (Nat.lt_of_lt_of_le h1 hB)⟩
/-- Is a filter more than is gone through? -/
def ovN (x : Nm) : Bool := decide (100 < x.g.length) || decide (1099511627776 < x.k)
def overB (L : List Nl) : Bool := decide (60 < L.length) || L.any (fun x => ovN x.1)
theorem any_at {L : List Nl} {k : Nat} (hk : k < L.length) (h : ovN (L.getD k nl0).1 = true) : (L.any fun x => ovN x.1) = true := List.any_eq_true.2 ⟨L.getD k nl0, by rw [show L.getD k nl0 = L[k] by simp [List.getD, hk]]; exact List.getElem_mem hk, h⟩
theorem overB_take {L : List Nl} (h : ¬ 60 < L.length) : overB L = L.any (fun x => ovN x.1) := by unfold overB; rw [decide_eq_false h]; rfl
set_option maxRecDepth 100000 in
set_option maxHeartbeats 2000000 in
theorem over_any (A : Option Addr) (m c : Nat) (L : List Nl) (w : World) (hP : Pa w w.heap.size A L) (hm : m = L.length) (hmc : m ≤ c) :
    Calls Tryz.prog 10 #[poV A m c] w fun e w' => e = .returned (.bool (overB L)) ∧ Below w.heap.size w w' := by
  have k1 := Blk.new w #[.slice A m c] 24
  have B0 := (Below.refl w.heap.size w).alloc (Nat.le_refl _) (.cells #[.slice A m c] 24)
  have q1 : (w.alloc (.cells #[.slice A m c] 24)).cell? ⟨w.heap.size, 0, none⟩ = some (.slice A m c) := k1.cell 0
  have HM := Lib.hid hm
  clear hm
  unfold poV
  go_enter Tryz.func10, Tryz.ntmps10
  by_cases h60 : 60 < m
  · have h1 : decide ((60 : Int) < (m : Int)) = true := by simp; omega
    have HN := Lib.hid h60
    clear h60
    go_wp2_with fail
    go_ret
    exact ⟨by unfold overB; rw [decide_eq_true (by rw [← HM.out]; exact HN.out)]; rfl, B0⟩
  · have h1 : decide ((60 : Int) < (m : Int)) = false := by simp; omega
    have hov : overB L = L.any (fun x => ovN x.1) := overB_take (by rw [← HM.out]; exact h60)
    have HO := Lib.hid hov
    have hm60 : m ≤ 60 := by omega
    clear h60 hov
    go_wp2_with fail
    go_loopw [12] (fun i wr' => ∃ (k : Nat) (wr : World), wr = wr' ∧ k ≤ m ∧ i = .int .i64 k ∧ Hid (∀ j, j < k → ovN (L.getD j nl0).1 = false) ∧ Below w.heap.size w wr) (fun i _ => m - (intOf i).toNat)
    case atStart => exact ⟨0, _, rfl, Nat.zero_le _, rfl, Lib.hid (fun j hj => absurd hj (Nat.not_lt_zero j)), B0⟩
    case round =>
      clear B0 k1 q1
      obtain ⟨k, wr, hwr, hk, rfl, hall, hB⟩ := hrel
      subst hwr
      by_cases hlt : k < m
      · have hlt' : (k : Int) < (m : Int) := by omega
        have hkl : k < L.length := by have := HM.out; omega
        obtain ⟨b, off, rfl, hb, hc⟩ := (hP.below hB (Nat.le_refl _)) k hkl
        have HK := Lib.hid hkl
        generalize hx : L.getD k nl0 = x at hc
        have HX := Lib.hid hx
        clear hx hkl
        have hs2 : (ndC x).size = 7 := nd_size x
        cases hg : decide (100 < x.1.g.length)
        · have hg1 : decide ((100 : Int) < (x.1.g.length : Int)) = false := by have := of_decide_eq_false hg; simp; omega
          have HG := Lib.hid hg
          clear hg
          cases hq : decide (1099511627776 < x.1.k)
          · have HQ := Lib.hid hq
            go_wp2_with (first
              | (refine wpList_load_mid rfl 46 (.tmp 14) rfl b (off + k * 7) rfl (ndC x).toList _ hc Tryz.underlying46 rfl (nd_infL x) ?_)
              | (refine wpList_store_blk rfl 46 (.tmp 4) (.tmp 15) rfl wr.heap.size (ndC nl0) (ndC x) 46 rfl rfl (Blk.new _ _ _) rfl (nd_inf x) (nd_one x) ?_
                 intro W1 k9 n9
                 have bb : Below wr.heap.size wr W1 := ((Below.refl _ wr).alloc (Nat.le_refl _) _).trans (n9.below _ (Nat.le_refl _) (by simp))
                 have q2 : W1.cell? ⟨wr.heap.size, 2, none⟩ = some (.slice x.2.1 x.1.g.length x.2.2) := k9.cell 2
                 have q4 : W1.cell? ⟨wr.heap.size, 4, none⟩ = some (.int .i64 x.1.k) := k9.cell 4))
            have hB1 := hB.trans (bb.mono hB.size)
            go_roundw
            case rel =>
              refine ⟨k + 1, _, rfl, by omega, by go_num, Lib.hid (fun j hj => ?_), hB1⟩
              rcases Nat.lt_succ_iff_lt_or_eq.1 hj with h | rfl
              · exact hall.out j h
              · rw [HX.out]; unfold ovN; rw [HG.out, HQ.out]; rfl
            case measure => simp [intOf]; omega
          · have HQ := Lib.hid hq
            go_wp2_with (first
              | (refine wpList_load_mid rfl 46 (.tmp 14) rfl b (off + k * 7) rfl (ndC x).toList _ hc Tryz.underlying46 rfl (nd_infL x) ?_)
              | (refine wpList_store_blk rfl 46 (.tmp 4) (.tmp 15) rfl wr.heap.size (ndC nl0) (ndC x) 46 rfl rfl (Blk.new _ _ _) rfl (nd_inf x) (nd_one x) ?_
                 intro W1 k9 n9
                 have bb : Below wr.heap.size wr W1 := ((Below.refl _ wr).alloc (Nat.le_refl _) _).trans (n9.below _ (Nat.le_refl _) (by simp))
                 have q2 : W1.cell? ⟨wr.heap.size, 2, none⟩ = some (.slice x.2.1 x.1.g.length x.2.2) := k9.cell 2
                 have q4 : W1.cell? ⟨wr.heap.size, 4, none⟩ = some (.int .i64 x.1.k) := k9.cell 4))
            have hB1 := hB.trans (bb.mono hB.size)
            go_ret
            exact ⟨by rw [HO.out, any_at HK.out (by rw [HX.out]; unfold ovN; rw [HQ.out]; simp)]; rfl, hB1⟩
        · have hg1 : decide ((100 : Int) < (x.1.g.length : Int)) = true := by have := of_decide_eq_true hg; simp; omega
          have HG := Lib.hid hg
          clear hg
          go_wp2_with (first
            | (refine wpList_load_mid rfl 46 (.tmp 14) rfl b (off + k * 7) rfl (ndC x).toList _ hc Tryz.underlying46 rfl (nd_infL x) ?_)
            | (refine wpList_store_blk rfl 46 (.tmp 4) (.tmp 15) rfl wr.heap.size (ndC nl0) (ndC x) 46 rfl rfl (Blk.new _ _ _) rfl (nd_inf x) (nd_one x) ?_
               intro W1 k9 n9
               have bb : Below wr.heap.size wr W1 := ((Below.refl _ wr).alloc (Nat.le_refl _) _).trans (n9.below _ (Nat.le_refl _) (by simp))
               have q2 : W1.cell? ⟨wr.heap.size, 2, none⟩ = some (.slice x.2.1 x.1.g.length x.2.2) := k9.cell 2
               have q4 : W1.cell? ⟨wr.heap.size, 4, none⟩ = some (.int .i64 x.1.k) := k9.cell 4))
          have hB1 := hB.trans (bb.mono hB.size)
          go_ret
          exact ⟨by rw [HO.out, any_at HK.out (by rw [HX.out]; unfold ovN; rw [HG.out]; rfl)]; rfl, hB1⟩
      · obtain rfl : k = m := by omega
        go_wp2_with fail
        go_ret
        refine ⟨?_, hB⟩
        rw [HO.out]
        have : (L.any fun x => ovN x.1) = false := List.any_eq_false.2 fun x hx => by
          obtain ⟨j, hj, rfl⟩ := List.getElem_of_mem hx
          have h := hall.out j (by have := HM.out; omega)
          rw [show L.getD j nl0 = L[j] by simp [List.getD, hj]] at h
          rw [h]; decide
        rw [this]
        rfl
theorem over_false {L : List Nl} (h : overB L = false) : L.length ≤ 60 ∧ ∀ x ∈ L, x.1.g.length ≤ 100 ∧ x.1.k ≤ 1099511627776 := by
  unfold overB at h
  simp only [Bool.or_eq_false_iff, decide_eq_false_iff_not, List.any_eq_false] at h
  refine ⟨by omega, fun x hx => ?_⟩
  have := h.2 x hx
  unfold ovN at this
  simp at this
  omega
end Go.Proofs.YtpeofpilfpjjpaaGreatDoor

/-
  Instructions that came in, as they are opened.
-/
namespace Go.Proofs.YtpeofpilfpjjpaaGreatDoor
open Go.RowKit

set_option maxRecDepth 100000 in
theorem insns_of {H : Type} {enc : TypeId × Value → H} {w : World} {base : Nat} {spare : Nat → Bool} {held : Bool} {fuel : Nat} {a : Option Addr} {l c : Nat} {x : DataW H × List MemPlace}
    (h : DataW.trod enc Tryz.prog w base spare held fuel 25 [.slice a l c] = some x) : ∃ f, Ri w w.heap.size a l f ∧ l ≤ c ∧ l ≤ maxLen := by
  rcases Go.Deep.open_slice Tryz.underlying25 h with ⟨hcs, _⟩ | ⟨p, l', c', m, n, D, Pl, hcs, _, hl, hm, hmm, _, hel⟩
  · simp at hcs
    obtain ⟨rfl, rfl, rfl⟩ := hcs
    exact ⟨fun _ => (0, 0, 0, 0), fun k hk => absurd hk (by omega), by omega, by simp [maxLen]⟩
  · simp at hcs
    obtain ⟨rfl, rfl, rfl⟩ := hcs
    have hlm : l ≤ m := by rw [hmm]; split <;> omega
    have hc4 : Tryz.prog.cellsOf 111 = 4 := by kernel_rfl
    have hu16 : Tryz.prog.cellsOf 65 = 1 := by kernel_rfl
    have hu8 : Tryz.prog.cellsOf 5 = 1 := by kernel_rfl
    have hu32 : Tryz.prog.cellsOf 61 = 1 := by kernel_rfl
    rw [hc4] at hel
    have each : ∀ i, i < l → ∃ q : Ins, (w.cell? ((p.add (i * 4)).add 0) = some (.int .u16 q.1) ∧ w.cell? ((p.add (i * 4)).add 1) = some (.int .u8 q.2.1) ∧ w.cell? ((p.add (i * 4)).add 2) = some (.int .u8 q.2.2.1) ∧ w.cell? ((p.add (i * 4)).add 3) = some (.int .u32 q.2.2.2)) ∧ insO q := by
      intro i hi
      obtain ⟨cs', h1, h2⟩ := hel i (by omega)
      obtain ⟨_, hlen, hcell⟩ := World.cells?_some h1
      obtain ⟨y0, y1, y2, y3, n', _, _, t0, t1, t2, t3⟩ := Joins.trod_struct4 Tryz.underlying111 h2
      match cs', hlen with
      | [v0, v1, v2, v3], _ =>
        simp [hu16] at t0
        simp [hu8] at t1 t2
        simp [hu32] at t3
        obtain ⟨q0, e0, _, f0⟩ := DataW.trod_int Tryz.underlying65 t0
        obtain ⟨q1, e1, _, f1⟩ := DataW.trod_int Tryz.underlying5 t1
        obtain ⟨q2, e2, _, f2⟩ := DataW.trod_int Tryz.underlying5 t2
        obtain ⟨q3, e3, _, f3⟩ := DataW.trod_int Tryz.underlying61 t3
        simp only [List.cons.injEq, and_true] at e0 e1 e2 e3
        subst e0 e1 e2 e3
        refine ⟨(q0, q1, q2, q3), ⟨by simpa using hcell 0 (by omega), by simpa using hcell 1 (by omega), by simpa using hcell 2 (by omega), by simpa using hcell 3 (by omega)⟩, ?_⟩
        simp [Lit.wf, IntKind.min, IntKind.max, IntKind.signed, IntKind.bits] at f0 f1 f2 f3
        show InsOk q0 q1 q2 q3
        constructor <;> omega
    obtain ⟨q, hq⟩ := Go.Deep.choose_lt each
    refine ⟨q, fun k hk => ?_, hl, by omega⟩
    obtain ⟨⟨e0, e1, e2, e3⟩, ho⟩ := hq k hk
    have z : w.cell? (p.add 0) = some (.int .u16 (q 0).1) := by
      have := (hq 0 (by omega)).1.1
      rw [Go.Deep.add_add] at this
      simpa using this
    rw [Go.Deep.add_add] at e0 e1 e2 e3
    obtain ⟨ea, hb, g0⟩ := add_none e0 ⟨_, z⟩
    exact ⟨p.block, p.off, congrArg some ea, hb, ⟨g0, (add_none e1 ⟨_, z⟩).2.2, (add_none e2 ⟨_, z⟩).2.2, (add_none e3 ⟨_, z⟩).2.2⟩, ho⟩
end Go.Proofs.YtpeofpilfpjjpaaGreatDoor

/-
  Pools that came in, as they are opened.
-/
namespace Go.Proofs.YtpeofpilfpjjpaaGreatDoor
open Go.RowKit Go.Shelf Go.ChangeShapes
set_option linter.unusedVariables false
set_option linter.unusedSimpArgs false

section
variable {H : Type} {enc : TypeId × Value → H} {w : World} {base : Nat} {spare : Nat → Bool} {held : Bool} {fuel : Nat} {x : DataW H × List MemPlace}
theorem prog_of {v : Value} (h : DataW.trod enc Tryz.prog w base spare held fuel 25 [v] = some x) : ∃ a c g, v = .slice a (g : List Ins).length c ∧ Ri w w.heap.size a g.length (gF g) ∧ g.length ≤ c := by
  have hv : ∃ a l c, v = .slice a l c := by
    rcases Go.Deep.open_slice Tryz.underlying25 h with ⟨hcs, _⟩ | ⟨p, l', c', m, n, D, Pl, hcs, _⟩
    · simp at hcs; exact ⟨_, _, _, hcs⟩
    · simp at hcs; exact ⟨_, _, _, hcs⟩
  obtain ⟨a, l, c, rfl⟩ := hv
  obtain ⟨f, hf, hl, _⟩ := insns_of h
  refine ⟨a, c, (List.range l).map f, by simp, ?_, by simpa using hl⟩
  intro k hk
  have hk' : k < l := by simpa using hk
  have e : gF ((List.range l).map f) k = f k := by simp [gF, List.getD, hk']
  rw [e]
  exact hf k hk'
set_option maxRecDepth 100000 in
theorem nodes_of {a : Option Addr} {l c : Nat} (h : DataW.trod enc Tryz.prog w base spare held fuel 22 [.slice a l c] = some x) : ∃ L, Pa w w.heap.size a L ∧ (∀ x ∈ L, x.1.g.length ≤ 1000000000 → Nr w w.heap.size x) ∧ l = L.length ∧ l ≤ c ∧ c ≤ maxLen := by
  rcases Go.Deep.open_slice Tryz.underlying22 h with ⟨hcs, _⟩ | ⟨p, l', c', m, n, D, Pl, hcs, _, hl, hm, hmm, _, hel⟩
  · simp at hcs
    obtain ⟨rfl, rfl, rfl⟩ := hcs
    exact ⟨[], fun k hk => absurd hk (by simp), fun x hx => (by cases hx), rfl, by omega, by simp [maxLen]⟩
  · simp at hcs
    obtain ⟨rfl, rfl, rfl⟩ := hcs
    have hlm : l ≤ m := by rw [hmm]; split <;> omega
    have hc7 : Tryz.prog.cellsOf 46 = 7 := by kernel_rfl
    have hci : Tryz.prog.cellsOf 3 = 1 := by kernel_rfl
    have hcu : Tryz.prog.cellsOf 44 = 1 := by kernel_rfl
    have hcs : Tryz.prog.cellsOf 25 = 1 := by kernel_rfl
    rw [hc7] at hel
    have each : ∀ i, i < l → ∃ q : Nl, (∀ j v, (ndC q).toList[j]? = some v → w.cell? ((p.add (i * 7)).add j) = some v) ∧ (q.1.g.length ≤ 1000000000 → Nr w w.heap.size q) := by
      intro i hi
      obtain ⟨cs', h1, h2⟩ := hel i (by omega)
      obtain ⟨_, hlen, hcell⟩ := World.cells?_some h1
      obtain ⟨xs, n', _, _, _, hxl, hf⟩ := DataW.trod_struct Tryz.underlying46 h2
      match cs', hlen, xs, hxl with
      | [v0, v1, v2, v3, v4, v5, v6], _, [y0, y1, y2, y3, y4, y5, y6], _ =>
        have t0 := hf 0 _ rfl
        have t1 := hf 1 _ rfl
        have t2 := hf 2 _ rfl
        have t3 := hf 3 _ rfl
        have t4 := hf 4 _ rfl
        have t5 := hf 5 _ rfl
        have t6 := hf 6 _ rfl
        simp [hci] at t0 t1 t3 t4
        simp [hcs] at t2
        simp [hcu] at t5 t6
        obtain ⟨q0, e0, _, f0⟩ := DataW.trod_int Tryz.underlying3 t0
        obtain ⟨q1, e1, _, f1⟩ := DataW.trod_int Tryz.underlying3 t1
        obtain ⟨q3, e3, _, f3⟩ := DataW.trod_int Tryz.underlying3 t3
        obtain ⟨q4, e4, _, f4⟩ := DataW.trod_int Tryz.underlying3 t4
        obtain ⟨q5, e5, _, f5⟩ := DataW.trod_int Tryz.underlying44 t5
        obtain ⟨q6, e6, _, f6⟩ := DataW.trod_int Tryz.underlying44 t6
        obtain ⟨pa, pc, g, e2, hr, hle⟩ := prog_of t2
        simp only [List.cons.injEq, and_true] at e0 e1 e3 e4 e5 e6
        subst e0 e1 e2 e3 e4 e5 e6
        simp [Lit.wf, IntKind.min, IntKind.max, IntKind.signed, IntKind.bits] at f0 f1 f3 f4 f5 f6
        have b0 : I64 q0 := ⟨f0.1, by omega⟩
        have b1 : I64 q1 := ⟨f1.1, by omega⟩
        have b3 : I64 q3 := ⟨f3.1, by omega⟩
        have b4 : I64 q4 := ⟨f4.1, by omega⟩
        have b5 : U64n q5 := ⟨f5.1, by omega⟩
        have b6 : U64n q6 := ⟨f6.1, by omega⟩
        refine ⟨(⟨q0, q1, g, q3, q4, q5, q6⟩, (pa, pc)), fun j v hv => ?_, fun hg => ⟨⟨b0, b1, b3, b4, b5, b6, fun q hq => ?_, hg⟩, hr, hle⟩⟩
        · have hj : j < 7 := by
            rcases Nat.lt_or_ge j 7 with h | h
            · exact h
            · rw [List.getElem?_eq_none (by rw [Array.length_toList, nd_size]; exact h)] at hv; cases hv
          have := hcell j (by omega)
          rw [this]
          exact hv
        · obtain ⟨k, hk, rfl⟩ := List.getElem_of_mem hq
          obtain ⟨_, _, _, _, _, ho⟩ := hr k hk
          have e : gF g k = g[k] := by simp [gF, List.getD, hk]
          rw [e] at ho
          exact ho
    haveI : Inhabited Nl := ⟨nl0⟩
    obtain ⟨q, hq⟩ := Go.Deep.choose_lt each
    refine ⟨(List.range l).map q, fun k hk => ?_, fun y hy => ?_, by simp, hl, by omega⟩
    · have hkl : k < l := by simpa using hk
      have e0 : ((List.range l).map q).getD k nl0 = q k := by simp [List.getD, hkl]
      rw [e0]
      have z : ∃ v0, w.cell? (p.add 0) = some v0 := ⟨_, by
        have := (hq 0 (by omega)).1 0 (.int .i64 (q 0).1.i) rfl
        rw [Go.Deep.add_add] at this
        simpa using this⟩
      have a0 := (hq k hkl).1 0 (.int .i64 (q k).1.i) rfl
      rw [Go.Deep.add_add] at a0
      obtain ⟨ea, hb, _⟩ := add_none a0 z
      refine ⟨p.block, p.off, congrArg some ea, hb, fun j v hv => ?_⟩
      have := (hq k hkl).1 j v hv
      rw [Go.Deep.add_add] at this
      have h3 := (add_none this z).2.2
      rwa [← Nat.add_assoc] at h3
    · obtain ⟨k, hk, rfl⟩ := List.mem_map.1 hy
      exact (hq k (by simpa using hk)).2
end
/-- What is not over may be walked. -/
theorem po_of {w : World} {A : Option Addr} {L : List Nl} (h : Pa w w.heap.size A L) (hn : ∀ x ∈ L, x.1.g.length ≤ 1000000000 → Nr w w.heap.size x) (ho : overB L = false) : Po w w.heap.size A L :=
  ⟨h, fun x hx => hn x hx (by have := ((over_false ho).2 x hx).1; omega)⟩
end Go.Proofs.YtpeofpilfpjjpaaGreatDoor

/-
  A pool that came in, as it is opened.
-/
namespace Go.Proofs.YtpeofpilfpjjpaaGreatDoor
open Go.RowKit Go.Shelf Go.ChangeShapes
set_option linter.unusedVariables false

theorem pool_of {H : Type} {enc : TypeId × Value → H} {w : World} {base : Nat} {spare : Nat → Bool} {held : Bool} {cs : Array Value} {d : DataW H} {p : List MemPlace} (hz : cs.size = Tryz.prog.cellsOf 24) (h : DataW.Trod enc Tryz.prog w base spare held 24 (.agg cs) d p) :
    ∃ a l c L, cs = #[.slice a l c] ∧ Pa w w.heap.size a L ∧ (∀ x ∈ L, x.1.g.length ≤ 1000000000 → Nr w w.heap.size x) ∧ l = L.length ∧ l ≤ c := by
  obtain ⟨fuel, hf⟩ := h
  obtain ⟨y0, n, _, hl, h0⟩ := trod_struct1 Tryz.underlying24 hf
  have hc1 : Tryz.prog.cellsOf 24 = 1 := by kernel_rfl
  have hcs : Tryz.prog.cellsOf 22 = 1 := by kernel_rfl
  rw [hc1] at hz
  obtain ⟨v, rfl⟩ : ∃ v, cs = #[v] := Array.size_eq_one_iff.1 hz
  simp [Value.cells, hcs] at h0
  have hv : ∃ a l c, v = .slice a l c := by
    rcases Go.Deep.open_slice Tryz.underlying22 h0 with ⟨hcs, _⟩ | ⟨p, l', c', m, n, D, Pl, hcs, _⟩
    · simp at hcs; exact ⟨_, _, _, hcs⟩
    · simp at hcs; exact ⟨_, _, _, hcs⟩
  obtain ⟨a, l, c, rfl⟩ := hv
  obtain ⟨L, h1, h2, h3, h4, _⟩ := nodes_of h0
  exact ⟨a, l, c, L, rfl, h1, h2, h3, h4⟩
end Go.Proofs.YtpeofpilfpjjpaaGreatDoor

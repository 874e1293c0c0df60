/-
  Half, BmA, BmX: in one file.
-/
import Derived.Test.YtelfdpcenplhjaaGreatDoorQHH
import Derived.LaidMore
import Derived.Stop.Joined
import Derived.ChangeSame
import Derived.Laws.BitsAllLaws
import Derived.Deep.QuietTactic
import Derived.WalkLawsBesides
import Derived.WalkSpells
import Derived.Test.YtelfdpcenplhjaaGreatDoorQBmW
namespace Go.Proofs.YtelfdpcenplhjaaGreatDoor
open Go.RowKit Go.ChangeShapes Go.Deep
set_option linter.unusedVariables false
def haL : List Int := [32768, 0, 3, 5, 32704, 32752, 32764, 32767]
def haAt (i : Nat) : Int := haL.getD i 0
def haC : Array Value := (haL.map (Value.int .u16)).toArray
structure Halves (w : World) : Prop where
  h : ∃ t fr, w.heap[0]? = some (.cells haC t fr)
section
variable {w w' : World} {B : Nat}
theorem Halves.pos (h : Halves w) : 0 < w.heap.size := by obtain ⟨t, fr, h⟩ := h.h; exact (Array.getElem?_eq_some_iff.1 h).1
theorem Halves.below (h : Halves w) (hb : Below B w w') (hB : 0 < B) : Halves w' := by
  obtain ⟨t, fr, h1⟩ := h.h
  exact ⟨t, fr, (hb.block _ hB).trans h1⟩
theorem Halves.drew (h : Halves w) : Halves w.drew := ⟨h.h⟩
theorem Halves.alloc (h : Halves w) (o : Obj) : Halves (w.alloc o) := h.below ((Below.refl _ _).alloc (Nat.le_refl _) o) h.pos
end
theorem halves_cell {w : World} (h : Halves w) (k : Nat) (hk : k < 8) : w.cell? ⟨0, k, none⟩ = some (.int .u16 (haAt k)) := by
  obtain ⟨t, fr, h⟩ := h.h
  simp only [World.cell?, h]
  match k, hk with
  | 0, _ | 1, _ | 2, _ | 3, _ | 4, _ | 5, _ | 6, _ | 7, _ => rfl
  | n + 8, h => exact absurd h (by omega)
theorem isact7 (w : World) : Calls Tryz.prog 130 #[.int .i64 7] w fun e w' => e = .returned (.bool true) ∧ w' = w := by
  go_enter Tryz.func130, Tryz.ntmps130
  go_wp2
  go_ret
  exact ⟨rfl, rfl⟩
set_option maxHeartbeats 1000000 in
theorem join7 (w : World) (hK : Halves w) : Calls Tryz.prog 113 #[.agg #[.int .i64 7, .int .u16 0]] w fun e w' => e = .returned (.tuple #[.int .u32 2147418112, .int .i64 0]) ∧ Below w.heap.size w w' := by
  have hc : (w.alloc (.cells #[.int .i64 7, .int .u16 0] 67)).cell? ⟨0, 7, none⟩ = some (.int .u16 32767) := halves_cell (hK.alloc _) 7 (by omega)
  go_enter Tryz.func113, Tryz.ntmps113
  go_wp2_with (go_at_call 130; refine (isact7 _).mono ?_; rintro e w' ⟨rfl, rfl⟩)
  go_quiet (fail)
  go_wp2
  go_ret2
  refine ⟨?_, below_drewN ((Below.refl _ _).alloc (Nat.le_refl _) _) nq⟩
  have h : bits .or .u32 2147418112 0 = 2147418112 := by decide +kernel
  first | rfl | (rw [h])
theorem laid_ha : (Rows.laid_wicketgate_action_halves : DataW Unit) = .agg (haL.map fun k => .lit (.int .u16 k)) := rfl
theorem cells_ha1 : Tryz.prog.cellsOf 65 = 1 := by kernel_rfl
theorem cells_ha8 : Tryz.prog.cellsOf 168 = 8 := by kernel_rfl
theorem g_ha : Tryz.prog.globalNamed "wicketgate/action.halves" = some 0 := by kernel_rfl
theorem gt_ha : (Tryz.prog.globals[0]?).map (·.type) = some 168 := by kernel_rfl
theorem trod_cellsB {H : Type} {enc : TypeId × Value → H} {P : Program} {w : World} {base : Nat} {spare : Nat → Bool} {held : Bool} {t e : TypeId} {m fuel : Nat} {cs : List Value} {x : DataW H × List MemPlace} (hs : P.underlying t = some (.array m e)) (h : DataW.trod enc P w base spare held fuel t cs = some x) :
    cs.length = P.cellsOf t := by
  cases fuel with
  | zero => simp [DataW.trod] at h
  | succ n =>
    unfold DataW.trod at h
    rw [hs] at h
    simp only at h
    split at h
    · assumption
    · cases h
theorem var_blkB {P : Program} {w : World} {n : String} {g : Nat} {cs : Array Value} (hg : P.globalNamed n = some g) (h : w.var? P n = some cs) : ∃ t fr, w.heap[g]? = some (.cells cs t fr) := by
  simp only [World.var?, hg, Option.bind_some] at h
  split at h
  · rename_i cs' t fr hh
    cases h
    exact ⟨t, fr, hh⟩
  · cases h
theorem ints_laidB {P : Program} {W : World} {t e : TypeId} {kd : IntKind} {L : List Int} {fuel : Nat} {cs : Array Value} {p : List MemPlace} (hs : P.underlying t = some (.array L.length e)) (he : P.underlying e = some (.int kd)) (hc : P.cellsOf e = 1)
    (h : DataW.trod (fun _ => ()) P W 0 (fun _ => true) false fuel t cs.toList = some (.agg (L.map fun k => .lit (.int kd k)), p)) (hn : P.cellsOf t = L.length) : cs = (L.map (Value.int kd)).toArray := by
  have hlen : cs.toList.length = P.cellsOf t := (trod_cellsB hs h)
  obtain ⟨xs, m, _, ex, _, hl, hel⟩ := DataW.trod_array hs h
  apply Array.ext'
  apply List.ext_getElem?
  intro r
  rcases Nat.lt_or_ge r L.length with hr | hr
  · have hE := hel r hr
    rw [hc, List.getElem?_eq_getElem (by omega)] at hE
    obtain ⟨z0, c0, e2, _⟩ := DataW.trod_int he hE
    have e5 := (DataW.agg.inj (Prod.mk.inj ex).1).symm
    have e6 : (xs.map (·.1))[r]? = (L.map fun k => (DataW.lit (.int kd k) : DataW Unit))[r]? := by rw [e5]
    rw [List.getElem?_map, List.getElem?_map, List.getElem?_eq_getElem (by omega : r < xs.length), List.getElem?_eq_getElem hr, e2] at e6
    simp only [Option.map_some, Option.some.injEq, DataW.lit.injEq, Lit.int.injEq, true_and] at e6
    have h3 : ((cs.toList.drop (r * 1)).take 1)[0]? = some (.int kd z0) := by rw [c0]; rfl
    have h4 : cs.toList[r]? = some (.int kd z0) := by simpa [List.getElem?_take] using h3
    rw [h4, e6]
    simp [hr]
  · rw [List.getElem?_eq_none (by omega), List.getElem?_eq_none (by simpa using hr)]
theorem kinds_of_trod {W : World} {cs : Array Value} {fuel : Nat} {p : List MemPlace} (hv : W.var? Tryz.prog "wicketgate/insn.kinds" = some cs)
    (hd : DataW.trod (fun _ => ()) Tryz.prog W 0 (fun _ => true) false fuel 178 cs.toList = some (Rows.laid_wicketgate_insn_kinds, p)) : Kinds W := by
  have hg := g_kinds
  obtain ⟨xs, m, _, ex, _, hl, hel⟩ := DataW.trod_array Tryz.underlying178 hd
  intro r hr
  have hE := hel r hr
  rw [cells_kind, List.getElem?_eq_getElem (by omega)] at hE
  obtain ⟨y0, y1, y2, n, e1, _, h0, h1, h2⟩ := trod_struct3 Tryz.underlying177 hE
  simp only [cells_u16, cells_str, cells_int] at h0 h1 h2
  obtain ⟨z0, c0, e2, _⟩ := DataW.trod_int Tryz.underlying65 h0
  obtain ⟨z1, c1, e3, _⟩ := DataW.trod_string Tryz.underlying9 h1
  obtain ⟨z2, c2, e4, _⟩ := DataW.trod_int Tryz.underlying3 h2
  rw [laid_rows] at ex
  have e5 := (DataW.agg.inj (Prod.mk.inj ex).1).symm
  have e6 : (xs.map (·.1))[r]? = (kT.map fun k => (DataW.agg [.lit (.int .u16 k.1), .lit (.string k.2.1), .lit (.int .i64 k.2.2)] : DataW Unit))[r]? := by rw [e5]
  have hk : r < kT.length := by rw [kT_len]; exact hr
  rw [List.getElem?_map, List.getElem?_map, List.getElem?_eq_getElem (by omega : r < xs.length), List.getElem?_eq_getElem hk, e1, e2, e3, e4] at e6
  simp only [Option.map_some, Option.some.injEq, DataW.agg.injEq, List.cons.injEq, DataW.lit.injEq, Lit.int.injEq, Lit.string.injEq, and_true, true_and] at e6
  obtain ⟨q0, q1, q2⟩ := e6
  have hat : kAt r = kT[r] := by simp [kAt, List.getD, hk]
  refine ⟨?_, ?_, ?_⟩
  · rw [World.var?_cell hg hv (r * 3)]
    have h3 : ((((cs.toList.drop (r * 3)).take 3).drop 0).take 1)[0]? = some (.int .u16 z0) := by rw [c0]; rfl
    have : cs.toList[r * 3]? = some (.int .u16 z0) := by simpa [List.getElem?_take] using h3
    rw [kC, hat, ← q0]
    simpa using this
  · rw [World.var?_cell hg hv (r * 3 + 1)]
    have h3 : ((((cs.toList.drop (r * 3)).take 3).drop 1).take 1)[0]? = some (.string z1) := by rw [c1]; rfl
    have : cs.toList[r * 3 + 1]? = some (.string z1) := by simpa [List.getElem?_take] using h3
    rw [kN, hat, ← q1]
    simpa using this
  · rw [World.var?_cell hg hv (r * 3 + 2)]
    have h3 : ((((cs.toList.drop (r * 3)).take 3).drop 2).take 1)[0]? = some (.int .i64 z2) := by rw [c2]; rfl
    have : cs.toList[r * 3 + 2]? = some (.int .i64 z2) := by simpa [List.getElem?_take] using h3
    rw [kF, hat, ← q2]
    simpa using this
structure HK (w : World) : Prop where
  h : Halves w
  k : Kinds w
theorem HK.below {w w' : World} {B : Nat} (h : HK w) (hb : Below B w w') (hB : w.heap.size ≤ B) : HK w' := ⟨h.h.below hb (Nat.lt_of_lt_of_le h.h.pos hB), h.k.below hb (Nat.lt_of_lt_of_le h.k.pos hB)⟩
theorem both_of_laid {W : World} (h : laidMetH Tryz.prog [("wicketgate/action.halves", Rows.laid_wicketgate_action_halves), ("wicketgate/insn.kinds", Rows.laid_wicketgate_insn_kinds)] W) : HK W := by
  rw [MakeChecks.laidMetH_plain _ _ _ (by kernel_rfl)] at h
  obtain ⟨ps, ⟨g, t, cs, fuel, p, q, hg, ht, hv, hd, ⟨g2, t2, cs2, fuel2, p2, q2, hg2, ht2, hv2, hd2, _, _⟩, _⟩, _, _⟩ := h
  obtain rfl := Option.some.inj (g_ha.symm.trans hg)
  obtain rfl := Option.some.inj (gt_ha.symm.trans ht)
  obtain rfl := Option.some.inj (g_kinds.symm.trans hg2)
  obtain rfl := Option.some.inj (g_type.symm.trans ht2)
  rw [laid_ha] at hd
  have e1 := ints_laidB Tryz.underlying168 Tryz.underlying65 cells_ha1 hd cells_ha8
  have b1 := var_blkB hg hv
  rw [e1] at b1
  exact ⟨⟨b1⟩, kinds_of_trod hv2 hd2⟩
end Go.Proofs.YtelfdpcenplhjaaGreatDoor
namespace Go.Proofs.YtelfdpcenplhjaaGreatDoor
open Go.RowKit
set_option linter.unusedVariables false
set_option linter.unusedSimpArgs false
theorem class_eql_ab {ops : Array Oper} {S : World → Prop} {Q : Act → Prop} {a : Act} {o : Oper} {rest : List Oper} (hw : Region.wanted o (yielded ops a.tmps) = true) (x y : Operand) (ho : o.op = .binOp .eql 139 x y 139)
    (u v : Ab) (hx : a.eval x = abV u) (hy : a.eval y = abV v) (b : Bool) (hb : decide (u = v) = b)
    (h : wpQuiet Tryz.prog ops (fun w' => ∃ s : Sig S, w' = s.V) Q rest (a.put o.dst (.bool b))) : wpQuiet Tryz.prog ops (fun w' => ∃ s : Sig S, w' = s.V) Q (o :: rest) a :=
  wpQuiet_step fun K hK => by
    rw [if_pos hw]
    refine ⟨.bool b, ?_, hK _ h⟩
    rintro w ⟨s0, rfl⟩
    unfold Oper.quietAt execOp
    have hrun := run_eql_ab u v s0.V
    rw [hb] at hrun
    unfold abV at hx hy hrun
    simp only [ho, hx, hy, Sem.run_bind, run_eqGuard_agg s0.V .eql 139 x y _ _ ab_guard, hrun, Result.andThen_ok]
    exact ⟨rfl, rfl⟩
def alwI (f : Nat → Ins) (m : Nat) (nr arch : Int) : Bool := decide ((floS alI hdI nr arch f m m).2.b = sureA 2147418112)
structure AJ (w : World) (g : Nat) (V : World) (o : Ab) : Prop where
  k : Blk V g (abA o) 139
  old : Below w.heap.size w V
theorem AJ.below {w V V' : World} {g : Nat} {o : Ab} (h : AJ w g V o) (hb : Below V.heap.size V V') : AJ w g V' o := ⟨h.k.below hb h.k.lt, h.old.trans (hb.mono h.old.size)⟩
set_option maxRecDepth 100000 in
set_option maxHeartbeats 2000000 in
theorem allows_ok (A : Option Addr) (m cap : Nat) (f : Nat → Ins) (nr arch : Int) (hnr : U32 nr) (har : U32 arch) (w : World) (hK : HK w) (hA : Ri w w.heap.size A m f) (hcap : m ≤ cap) (hM : May f m) :
    Calls Tryz.prog 98 #[.slice A m cap, .int .u32 nr, .int .u32 arch] w fun e w' => e = .returned (.tuple #[.bool (alwI f m nr arch), .int .i64 0]) ∧ Below w.heap.size w w' := by
  have FL := flow_ok A m cap f nr arch hnr har w hK.k hA hcap hM
  unfold alwI
  obtain ⟨o, ho⟩ : ∃ o, (floS alI hdI nr arch f m m).2.b = o := ⟨_, rfl⟩
  rw [ho] at FL ⊢
  obtain ⟨bv, hbv⟩ : ∃ b, decide (o = sureA 2147418112) = b := ⟨_, rfl⟩
  rw [hbv]
  have HB := Lib.hid hbv
  clear ho hbv
  go_enter Tryz.func98, Tryz.ntmps98
  go_wp2_with fail
  refine FL.mono ?_
  rintro e w1 ⟨g, rfl, _, b1⟩
  clear FL
  go_wp2_with (refine wpList_store_blk rfl 139 (.tmp 9) (.tmp 18) rfl w1.heap.size (abA ab0) (abA o) 139 rfl rfl (Blk.new_ _ _ _ rfl) rfl (abA_inf _) (abA_one _) ?_
               intro w2 hw2 hn2
               have J2 : AJ w w1.heap.size w2 o := ⟨hw2, (b1.alloc b1.size _).trans (hn2.below _ b1.size (by have := b1.size; simp; omega))⟩
               clear hn2 hw2)
  refine (join7 _ (hK.below J2.old (Nat.le_refl _)).h).mono ?_
  rintro e w3 ⟨rfl, b3⟩
  have J3 := J2.below b3
  clear J2 b3 b1
  go_wp2_with fail
  have J0 : AJ w w1.heap.size w3.drew o := J3.below (Below.refl _ _).drew
  clear J3
  have CS := Lib.hid (calls_keep (S := fun V => AJ w w1.heap.size V o) (fun V V' h hb => h.below hb) (fun V _ => sure_any 2147418112 V))
  have hne : Nonempty (Sig (fun V => AJ w w1.heap.size V o)) := ⟨⟨_, J0⟩⟩
  refine region_class (S := fun V => AJ w w1.heap.size V o) (by kernel_rfl) (by kernel_rfl) J0 ?_
  refine class_load (by rfl) 139 (.tmp 9) rfl w1.heap.size rfl (abA o) 139 _ (fun _ h => h.k) Tryz.underlying139 rfl (abA_inf _) ?_
  simp only [Act.put, List.setIfInBounds_toArray, List.set_cons_zero, List.set_cons_succ]
  go_big_quiet_step (fail)
  go_big_quiet_step (first | (go_at_call 114; exact class_call _ CS.out))
  refine class_eql_ab (by rfl) (.tmp 28) (.tmp 30) rfl o (sureA 2147418112) rfl rfl bv HB.out ?_
  simp only [Act.put, List.setIfInBounds_toArray, List.set_cons_zero, List.set_cons_succ]
  repeat (go_big_quiet_step (fail))
  refine wpQuiet_nil ?_
  rintro _ ⟨s7, rfl⟩
  have J7 := s7.h
  clear hne CS J0
  go_wp2_with fail
  go_ret2
  exact ⟨rfl, J7.old⟩
end Go.Proofs.YtelfdpcenplhjaaGreatDoor
namespace Go.Proofs.YtelfdpcenplhjaaGreatDoor
open Go.RowKit
set_option linter.unusedVariables false
set_option linter.unusedSimpArgs false
def bitS (al : Nat → Bool) : Nat → Int
  | 0 => 0
  | k + 1 => if al k then bitS al k + 2 ^ k else bitS al k
theorem bitS_bd (al : Nat → Bool) : ∀ k, 0 ≤ bitS al k ∧ bitS al k < 2 ^ k
  | 0 => by simp [bitS]
  | k + 1 => by
    have ih := bitS_bd al k
    have h2 : (2 : Int) ^ (k + 1) = 2 ^ k + 2 ^ k := by rw [Int.pow_succ]; omega
    unfold bitS
    split <;> omega
theorem or_pow {k : Nat} (hk : k < 64) {b : Int} (h0 : 0 ≤ b) (h1 : b < 2 ^ k) : bits .or .u64 b (IntKind.u64.wrap (2 ^ k)) = b + 2 ^ k := by
  obtain ⟨B, rfl⟩ := Int.eq_ofNat_of_zero_le h0
  have hp : (2 : Int) ^ k = ((2 ^ k : Nat) : Int) := by simp
  have hlt : 2 ^ k < 18446744073709551616 := by
    have : 2 ^ k ≤ 2 ^ 63 := Nat.pow_le_pow_right (by omega) (by omega)
    omega
  have hB : B < 2 ^ k := by rw [hp] at h1; omega
  have hw : IntKind.u64.wrap (2 ^ k) = ((2 ^ k : Nat) : Int) := by
    rw [hp]
    simp only [IntKind.wrap, IntKind.signed, IntKind.bits]
    simp
    omega
  rw [hw, u64_or_nat B (2 ^ k) (by omega) hlt, hp]
  have e4 := Nat.two_pow_add_eq_or_of_lt hB 1
  rw [Nat.mul_one] at e4
  rw [Nat.or_comm, ← e4]
  omega
set_option maxRecDepth 100000 in
set_option maxHeartbeats 2000000 in
theorem bits_ok (A : Option Addr) (m cap : Nat) (f : Nat → Ins) (arch : Int) (har : U32 arch) (w : World) (hK : HK w) (hA : Ri w w.heap.size A m f) (hcap : m ≤ cap) (hM : May f m) :
    Calls Tryz.prog 80 #[.slice A m cap, .int .u32 arch] w fun e w' => e = .returned (.tuple #[.int .u64 (bitS (fun k => alwI f m (k : Int) arch) 64), .int .i64 0]) ∧ Below w.heap.size w w' := by
  have AL := fun (k : Nat) (hk : k < 64) V (hV : Below w.heap.size w V) => allows_ok A m cap f (k : Int) arch (by unfold U32; omega) har V (hK.below hV (Nat.le_refl _)) ((hA.below hV (Nat.le_refl _)).more hV.size) hcap hM
  generalize hal : (fun k : Nat => alwI f m (k : Int) arch) = al
  have AL' : ∀ (k : Nat) (hk : k < 64) V (hV : Below w.heap.size w V), Calls Tryz.prog 98 #[.slice A m cap, .int .u32 (k : Int), .int .u32 arch] V fun e w' => e = .returned (.tuple #[.bool (al k), .int .i64 0]) ∧ Below V.heap.size V w' := fun k hk V hV => by rw [← hal]; exact AL k hk V hV
  clear AL hal hM hcap hA
  go_enter Tryz.func80, Tryz.ntmps80
  go_wp2
  go_loopw [6, 10] (fun bs i wr => ∃ k : Nat, k ≤ 64 ∧ i = .int .u32 (k : Int) ∧ bs = .int .u64 (bitS al k) ∧ Below w.heap.size w wr) (fun _ i _ => 64 - (intOf i).toNat)
  case atStart => exact ⟨0, by omega, rfl, rfl, Below.refl _ _⟩
  case round =>
    obtain ⟨k, hk, rfl, rfl, hB⟩ := hrel
    by_cases hlt : k < 64
    · have hlt' : (k : Int) < 64 := by omega
      have C := AL' k hlt wr hB
      have hbd := bitS_bd al k
      have hst : bitS al (k + 1) = if al k then bitS al k + 2 ^ k else bitS al k := rfl
      obtain ⟨b0, hb0⟩ : ∃ b, bitS al k = b := ⟨_, rfl⟩
      rw [hb0] at hbd hst ⊢
      have HB0 := Lib.hid hb0
      clear hb0
      cases hx : al k
      · rw [hx] at C hst
        have HST := Lib.hid hst
        clear hst hx
        go_wp2_with fail
        refine C.mono ?_
        rintro e w1 ⟨rfl, b1⟩
        have B1 := hB.trans (b1.mono hB.size)
        clear C b1 hB
        go_wp2_with fail
        go_roundw
        case rel => exact ⟨k + 1, by omega, by go_num, by rw [HST.out]; rfl, B1⟩
        case measure => simp [intOf]; omega
      · rw [hx] at C hst
        have HST := Lib.hid hst
        clear hst hx
        go_wp2_with fail
        refine C.mono ?_
        rintro e w1 ⟨rfl, b1⟩
        have B1 := hB.trans (b1.mono hB.size)
        clear C b1 hB
        go_wp2_with fail
        have hor := or_pow hlt hbd.1 hbd.2
        exact ⟨⟨k + 1, by omega, by go_num, by rw [HST.out, if_pos trivial, hor], B1⟩, by simp [intOf]; omega⟩
    · obtain rfl : k = 64 := by omega
      go_wp2_with fail
      go_ret2
      exact ⟨rfl, hB⟩
end Go.Proofs.YtelfdpcenplhjaaGreatDoor

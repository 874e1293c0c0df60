/-
  asm.Line: an instruction's line.
-/
import Derived.Test.YtceeinljakcdkaaDoorAsmOne
import Derived.Test.YtceeinljakcdkaaDoorClass
import Derived.Test.YtceeinljakcdkaaDoorClassL
import Derived.Shelf.RegionOpen
namespace Go.Proofs.YtceeinljakcdkaaDoor
open Go.RowKit Go.Shelf

/-! Two instructions compared. -/
theorem eqF_consI {P : Program} {d : Nat} {xs ys : Array Value} {f : Field} {fs : List Field} {w : World} {a b : Value} {r r' : Bool} (hn : f.name ≠ "_") (ha : (part f.type xs f.offset).run P w = .ok a w) (hb : (part f.type ys f.offset).run P w = .ok b w)
    (hr : (Op.equalIn d f.type a b).run P w = .ok r w) (hf : (Op.eqFields d xs ys fs).run P w = .ok r' w) : (Op.eqFields d xs ys (f :: fs)).run P w = .ok (r && r') w := by
  simp only [Op.eqFields, hn, ne_eq, not_false_eq_true, if_true, Sem.run_bind, ha, hb, hr, Result.andThen_ok]
  cases r <;> simp [hf]
theorem ins_fields : (Tryd.prog.fieldsOf 32).toList = [⟨"Code", 29, 0, false, "", "", 0⟩, ⟨"Jt", 5, 1, false, "", "", 2⟩, ⟨"Jf", 5, 2, false, "", "", 3⟩, ⟨"K", 30, 3, false, "", "", 4⟩] := by kernel_rfl
theorem run_eqIn_ins (d : Nat) (a b : Ins) (w : World) : (Op.equalIn (d + 2) 32 (.agg (celI a).toArray) (.agg (celI b).toArray)).run Tryd.prog w = .ok (decide (a = b)) w := by
  rw [run_equalIn_struct w (d + 1) 32 _ _ (by kernel_rfl) (by kernel_rfl), ins_fields]
  have h0 := run_equalIn_int w d 29 .u16 .u16 a.1 b.1 Tryd.underlying29
  have h1 := run_equalIn_int w d 5 .u8 .u8 a.2.1 b.2.1 Tryd.underlying5
  have h2 := run_equalIn_int w d 5 .u8 .u8 a.2.2.1 b.2.2.1 Tryd.underlying5
  have h3 := run_equalIn_int w d 30 .u32 .u32 a.2.2.2 b.2.2.2 Tryd.underlying30
  have hz : (Op.eqFields (d + 1) (celI a).toArray (celI b).toArray []).run Tryd.prog w = .ok true w := by simp [Op.eqFields]
  have e := eqF_consI (f := ⟨"Code", 29, 0, false, "", "", 0⟩) (by decide) (run_part_plain w (v := .int .u16 a.1) (by kernel_rfl) rfl) (run_part_plain w (v := .int .u16 b.1) (by kernel_rfl) rfl) h0
    (eqF_consI (f := ⟨"Jt", 5, 1, false, "", "", 2⟩) (by decide) (run_part_plain w (v := .int .u8 a.2.1) (by kernel_rfl) rfl) (run_part_plain w (v := .int .u8 b.2.1) (by kernel_rfl) rfl) h1
    (eqF_consI (f := ⟨"Jf", 5, 2, false, "", "", 3⟩) (by decide) (run_part_plain w (v := .int .u8 a.2.2.1) (by kernel_rfl) rfl) (run_part_plain w (v := .int .u8 b.2.2.1) (by kernel_rfl) rfl) h2
    (eqF_consI (f := ⟨"K", 30, 3, false, "", "", 4⟩) (by decide) (run_part_plain w (v := .int .u32 a.2.2.2) (by kernel_rfl) rfl) (run_part_plain w (v := .int .u32 b.2.2.2) (by kernel_rfl) rfl) h3 hz)))
  have eb : (a.1 == b.1 && (a.2.1 == b.2.1 && (a.2.2.1 == b.2.2.1 && (a.2.2.2 == b.2.2.2 && true)))) = decide (a = b) := by
    obtain ⟨k, v, x, y⟩ := a
    obtain ⟨k', v', x', y'⟩ := b
    rw [Bool.eq_iff_iff]
    simp
  rw [e, eb]
theorem run_neq_ins (a b : Ins) (w : World) : (binOp .neq 32 (.agg (celI a).toArray) (.agg (celI b).toArray)).run Tryd.prog w = .ok (.bool (!decide (a = b))) w := by
  rw [run_neq_struct, run_eqIn_ins 9998]
  rfl
theorem run_eql_ins (a b : Ins) (w : World) : (binOp .eql 32 (.agg (celI a).toArray) (.agg (celI b).toArray)).run Tryd.prog w = .ok (.bool (decide (a = b))) w := by
  rw [run_eql_struct, run_eqIn_ins 9998]
  rfl

/-! The line. -/
def digB (cnt x : Int) : List UInt8 := if cnt = 0 then [] else 32 :: Lib.decDigits x.toNat
def bareI (q : Ins) : Ins := (q.1, bareJ q.1 q.2.1, bareJ q.1 q.2.2.1, bareK q.1 q.2.2.2)
def hasL (q : Ins) : Bool := (nameOf q.1).2 && decide (bareI q = q)
def lineB (q : Ins) : List UInt8 := (((nameOf q.1).1.data.toList ++ digB (bareK q.1 1) q.2.2.2) ++ digB (bareJ q.1 1) q.2.1) ++ digB (bareJ q.1 1) q.2.2.1
theorem isB_below {T e : TypeId} {B b : Nat} {xs : List Value} {w w' : World} (h : Lib.IsBuilderF T e B b xs w) (hb : Below w.heap.size w w') : Lib.IsBuilderF T e B b xs w' := by
  have go : ∀ p, Lib.BuilderAtF T e B b p xs w → Lib.BuilderAtF T e B b p xs w' := by
    rintro p ⟨hB, v, h1, h2, h3⟩
    refine ⟨hB, v, (hb.block b (Array.getElem?_eq_some_iff.1 h1).1).trans h1, h2.kept (row := none) ⟨hb.os, hb.tape, hb.output, hb.size, fun k hk _ => hb.block k hk⟩ ?_, h3⟩
    cases v.ownBlock with
    | none => exact .inl rfl
    | some g => exact .inr (by simp)
  exact h.imp (go _) (go _)
theorem nDig_le {u : Nat} (h : u < 4294967296) : (Lib.decDigits u).length ≤ 20 := by
  rw [Lib.decDigits_length]
  exact Lib.nDigits_le20 u (by omega)
abbrev IsB (B b : Nat) (l : List UInt8) (w : World) : Prop := Lib.IsBuilderF 57 5 B b (Lib.byteCells l) w

set_option maxRecDepth 100000 in
set_option maxHeartbeats 8000000 in
theorem write32_any (B b : Nat) (l : List UInt8) (cnt x : Int) (hx0 : 0 ≤ x) (hx : x < 4294967296) (w : World) (hT : T8 w) (hG : G8 ≤ B) (hBw : B ≤ w.heap.size) (hl : l.length ≤ 1048576) (hIB : IsB B b l w) :
    Calls Tryd.prog 32 #[.pointer (some ⟨b, 0, none⟩), .int .u32 cnt, .int .u32 x] w fun e w' => e = .returned (.tuple #[]) ∧ IsB B b (l ++ digB cnt x) w' ∧ Below B w w' := by
  unfold digB
  by_cases hc : cnt = 0
  · subst hc
    go_enter Tryd.func32, Tryd.ntmps32
    go_wp2
    exact bodyPost_ret (results_none rfl _ _ _) rfl ⟨rfl, by simpa using hIB, Below.refl _ _⟩
  · rw [if_neg hc]
    obtain ⟨u, rfl⟩ : ∃ u : Nat, x = (u : Int) := ⟨x.toNat, by omega⟩
    rw [Int.toNat_natCast]
    have hw2 : IntKind.u64.wrap (u : Int) = (u : Int) := by rw [IntKind.wrap_u64]; omega
    have hdl := nDig_le (u := u) (by omega)
    have hfmt := fun w hT => fmt_any u (by omega) w hT
    have hbb := bbyte_any B b (Lib.byteCells l) 32 w hIB (by rw [Lib.byteCells_length]; omega) hBw
    have HL := Lib.hid hl
    have HD := Lib.hid hdl
    clear hx hl hdl hx0
    go_enter Tryd.func32, Tryd.ntmps32
    go_wp2_with (go_at_call 28; refine hbb.mono ?_; rintro e w1 ⟨rfl, hat1, hb1, _⟩; refine Hid.out ?_)
    refine Lib.hid ?_
    have hT1 := hT.below hb1 hG
    have h1 : IsB B b (l ++ [32]) w1 := .inr (by simpa [Lib.byteCells] using hat1)
    clear hbb hat1
    go_wp2_with (go_at_call 54; refine (hfmt _ hT1).mono ?_; rintro e w2 ⟨rfl, hb2⟩; refine Hid.out ?_)
    refine Lib.hid ?_
    have h2 := isB_below h1 hb2
    have hbs := bstr_any B b _ (bs (Lib.decDigits u)) w2 h2 (by have := HL.out; have := HD.out; rw [Lib.byteCells_length, bs_size, List.length_append, List.length_singleton]; omega) (by have := hb1.size; have := hb2.size; omega)
    go_wp2_with (go_at_call 27; refine hbs.mono ?_; rintro e w3 ⟨rfl, hat3, hb3, _⟩; refine Hid.out ?_)
    refine Lib.hid ?_
    have h3 : IsB B b (l ++ 32 :: Lib.decDigits u) w3 := .inr (by
      rw [show l ++ 32 :: Lib.decDigits u = (l ++ [32]) ++ Lib.decDigits u by simp, Lib.byteCells_append]
      have e : Lib.strCells (bs (Lib.decDigits u)) = Lib.byteCells (Lib.decDigits u) := by rw [Lib.strCells_eq, bs_list]
      rwa [e] at hat3)
    clear hbs hat3
    go_wp2
    go_end0
    exact ⟨rfl, h3, hb1.trans ((hb2.mono (by have := hb1.size; omega)).trans hb3)⟩

set_option maxRecDepth 100000 in
set_option maxHeartbeats 8000000 in
theorem write8_any (B b : Nat) (l : List UInt8) (cnt x : Int) (hx0 : 0 ≤ x) (hx : x < 4294967296) (w : World) (hT : T8 w) (hG : G8 ≤ B) (hBw : B ≤ w.heap.size) (hl : l.length ≤ 1048576) (hIB : IsB B b l w) :
    Calls Tryd.prog 33 #[.pointer (some ⟨b, 0, none⟩), .int .u8 cnt, .int .u8 x] w fun e w' => e = .returned (.tuple #[]) ∧ IsB B b (l ++ digB cnt x) w' ∧ Below B w w' := by
  unfold digB
  by_cases hc : cnt = 0
  · subst hc
    go_enter Tryd.func33, Tryd.ntmps33
    go_wp2
    exact bodyPost_ret (results_none rfl _ _ _) rfl ⟨rfl, by simpa using hIB, Below.refl _ _⟩
  · rw [if_neg hc]
    obtain ⟨u, rfl⟩ : ∃ u : Nat, x = (u : Int) := ⟨x.toNat, by omega⟩
    rw [Int.toNat_natCast]
    have hw2 : IntKind.u64.wrap (u : Int) = (u : Int) := by rw [IntKind.wrap_u64]; omega
    have hdl := nDig_le (u := u) (by omega)
    have hfmt := fun w hT => fmt_any u (by omega) w hT
    have hbb := bbyte_any B b (Lib.byteCells l) 32 w hIB (by rw [Lib.byteCells_length]; omega) hBw
    have HL := Lib.hid hl
    have HD := Lib.hid hdl
    clear hx hl hdl hx0
    go_enter Tryd.func33, Tryd.ntmps33
    go_wp2_with (go_at_call 28; refine hbb.mono ?_; rintro e w1 ⟨rfl, hat1, hb1, _⟩; refine Hid.out ?_)
    refine Lib.hid ?_
    have hT1 := hT.below hb1 hG
    have h1 : IsB B b (l ++ [32]) w1 := .inr (by simpa [Lib.byteCells] using hat1)
    clear hbb hat1
    go_wp2_with (go_at_call 54; refine (hfmt _ hT1).mono ?_; rintro e w2 ⟨rfl, hb2⟩; refine Hid.out ?_)
    refine Lib.hid ?_
    have h2 := isB_below h1 hb2
    have hbs := bstr_any B b _ (bs (Lib.decDigits u)) w2 h2 (by have := HL.out; have := HD.out; rw [Lib.byteCells_length, bs_size, List.length_append, List.length_singleton]; omega) (by have := hb1.size; have := hb2.size; omega)
    go_wp2_with (go_at_call 27; refine hbs.mono ?_; rintro e w3 ⟨rfl, hat3, hb3, _⟩; refine Hid.out ?_)
    refine Lib.hid ?_
    have h3 : IsB B b (l ++ 32 :: Lib.decDigits u) w3 := .inr (by
      rw [show l ++ 32 :: Lib.decDigits u = (l ++ [32]) ++ Lib.decDigits u by simp, Lib.byteCells_append]
      have e : Lib.strCells (bs (Lib.decDigits u)) = Lib.byteCells (Lib.decDigits u) := by rw [Lib.strCells_eq, bs_list]
      rwa [e] at hat3)
    clear hbs hat3
    go_wp2
    go_end0
    exact ⟨rfl, h3, hb1.trans ((hb2.mono (by have := hb1.size; omega)).trans hb3)⟩

theorem name_len (c : Int) : (nameOf c).1.size ≤ 64 := by
  unfold nameOf
  cases h : rowC c with
  | none => decide
  | some i =>
    have hi : i < 41 := List.mem_range.1 (List.mem_of_find?_eq_some h)
    have hall : ((List.range 41).all fun i => decide ((kN i).size ≤ 64)) = true := by decide
    simpa using List.all_eq_true.1 hall i (List.mem_range.2 hi)
theorem dig_len (cnt x : Int) (h0 : 0 ≤ x) (h1 : x < 4294967296) : (digB cnt x).length ≤ 21 := by
  unfold digB
  split
  · simp
  · have := nDig_le (u := x.toNat) (by omega)
    simp
    omega
def lineS (q : Ins) : ByteArray := if hasL q then bs (lineB q) else bs []
def lineE (q : Ins) : Int := if hasL q then 0 else 2
/-- What lies in memory while it is asked whether a line can be. -/
structure LI (w V : World) (q : Ins) : Prop where
  ki : Blk V w.heap.size (celI q).toArray 32
  old : Below w.heap.size w V
theorem LI.below {w V V' : World} {q : Ins} (h : LI w V q) (hb : Below V.heap.size V V') : LI w V' q := ⟨h.ki.below hb h.ki.lt, h.old.trans (hb.mono h.old.size)⟩
set_option maxRecDepth 100000 in
set_option maxHeartbeats 8000000 in
theorem line_any (q : Ins) (hq : insO q) (w : World) (hT : T8 w) :
    Calls Tryd.prog 10 #[valI q] w fun e w' => e = .returned (.tuple #[.string (lineS q), .int .i64 (lineE q)]) ∧ Below w.heap.size w w' := by
  have hname := fun w hK => name_any q.1 w hK
  have J0 : LI w (w.alloc (.cells (celI q).toArray 32)) q := ⟨Blk.new w _ _, (Below.refl _ w).alloc (Nat.le_refl _) _⟩
  by_cases hkn : (nameOf q.1).2 = true
  · rw [hkn] at hname
    have hbare := fun w hK => bare_any q.1 q.2.1 q.2.2.1 q.2.2.2 w hK
    have hneq := run_neq_ins (bareI q) q
    obtain ⟨c, a, b, k⟩ := q
    have B' := Lib.hid (calls_keep (P := Tryd.prog) (f := 19) (args := #[valI (c, a, b, k)]) (v := valI (bareI (c, a, b, k))) (S := fun V => LI w V (c, a, b, k)) (fun V V' h hb => h.below hb) (fun V h => hbare V (hT.new h.old).kinds))
    simp only [valI, insV, celI, bareI] at hname J0 hneq B' ⊢
    clear hbare
    have i0 := J0.ki.cell 0
    simp only [celI, List.getElem?_toArray, List.getElem?_cons_zero] at i0
    go_enter Tryd.func10, Tryd.ntmps10
    go_wp2_with (go_at_call 30; refine (hname _ (hT.alloc _).kinds).mono ?_; rintro e w1 ⟨rfl, hb1⟩)
    have J1 : LI w w1.drew (c, a, b, k) := (J0.below hb1).below ((Below.refl _ w1).drew)
    have hne : Nonempty (Sig (fun V => LI w V (c, a, b, k))) := ⟨⟨_, J1⟩⟩
    refine region_class (S := fun V => LI w V (c, a, b, k)) (by kernel_rfl) (by kernel_rfl) J1 ?_
    repeat (first
      | (refine class_load (by rfl) 32 (.tmp 1) rfl w.heap.size rfl (celI (c, a, b, k)).toArray 32 _ (fun _ h => h.ki) Tryd.underlying32 rfl insn_size ?_; simp only [celI, Act.put, List.setIfInBounds_toArray, List.set_cons_zero, List.set_cons_succ])
      | go_big_quiet_step (first | (go_at_call 19; exact class_call _ B'.out)))
    refine wpQuiet_nil ?_
    rintro _ ⟨⟨V7, J7⟩, rfl⟩
    try dsimp only
    by_cases hb : bareJ c a = a ∧ bareJ c b = b ∧ bareK c k = k
    · have hbool : (!decide (bareJ c a = a) || (!decide (bareJ c b = b) || !decide (bareK c k = k))) = false := by simp [hb.1, hb.2.1, hb.2.2]
      rw [hbool]
      have hS : lineS (c, a, b, k) = bs (lineB (c, a, b, k)) := by simp [lineS, hasL, hkn, bareI, hb.1, hb.2.1, hb.2.2]
      have hE : lineE (c, a, b, k) = 0 := by simp [lineE, hasL, hkn, bareI, hb.1, hb.2.1, hb.2.2]
      have HS := Lib.hid hS
      have HE := Lib.hid hE
      have hcount := fun w hK => counted_any c w hK
      unfold insV at hcount
      have hnl := name_len c
      obtain ⟨o1, o2, o3, o4, o5, o6, o7, o8⟩ := hq
      simp only at o1 o2 o3 o4 o5 o6 o7 o8
      have hd1 := dig_len (bareK c 1) k (by omega) (by omega)
      have hd2 := dig_len (bareJ c 1) a (by omega) (by omega)
      have HO := Lib.hid (show (0 ≤ k ∧ k ≤ 4294967295) ∧ (0 ≤ a ∧ a ≤ 255) ∧ 0 ≤ b ∧ b ≤ 255 from by omega)
      have i7 := J7.ki.cell 0
      simp only [celI, List.getElem?_toArray, List.getElem?_cons_zero] at i7
      clear hS hE hbool hb B' hneq hname i0 J0 J1 hne hb1 o1 o2 o3 o4 o5 o6 o7 o8
      go_wp2_with (go_at_call 31; refine (hcount _ (hT.new J7.old).kinds).mono ?_; rintro e w2 ⟨rfl, hb2⟩; refine Hid.out ?_)
      refine Lib.hid ?_
      have J8 := J7.below hb2
      have hsz2 := J8.old.size
      have J9 := (J8.below ((Below.refl _ _).alloc (Nat.le_refl _) (.cells #[.int .u16 c, .int .u8 (bareJ c 1), .int .u8 (bareJ c 1), .int .u32 (bareK c 1)] 32))).below ((Below.refl _ _).alloc (Nat.le_refl _) (.cells #[.pointer none, .slice none 0 0] 57))
      have k9 := (Blk.new w2 #[.int .u16 c, .int .u8 (bareJ c 1), .int .u8 (bareJ c 1), .int .u32 (bareK c 1)] 32).alloc (.cells #[.pointer none, .slice none 0 0] 57)
      have hfr := Lib.fresh_isBuilder 57 5 (w2.alloc (.cells #[.int .u16 c, .int .u8 (bareJ c 1), .int .u8 (bareJ c 1), .int .u32 (bareK c 1)] 32))
      rw [World.size_alloc] at hfr
      have hG := (hT.pos)
      have hws := bstr_any (w2.heap.size + 1) (w2.heap.size + 1) [] (nameOf c).1 _ (Lib.IsBuilderF.of hfr) (by simp; omega) (by simp)
      clear hcount hb2 J7 J8 i7
      go_wp2_with (go_at_call 27; refine hws.mono ?_; rintro e w4 ⟨rfl, hat, hb4, _⟩; refine Hid.out ?_)
      refine Lib.hid ?_
      have hI4 : IsB (w2.heap.size + 1) (w2.heap.size + 1) (nameOf c).1.data.toList w4 := .inr hat
      have hz4 : w2.heap.size + 2 ≤ w4.heap.size := by simpa using hb4.size
      have x4 : Blk w4 w.heap.size (celI (c, a, b, k)).toArray 32 := J9.ki.below hb4 (by omega)
      have m4 := k9.below hb4 (by omega)
      have bl4 : Below w.heap.size w w4 := J9.old.trans (hb4.mono (by omega))
      have hT4 := hT.new bl4
      have l4 : (nameOf c).1.data.toList.length ≤ 64 := okB hnl
      have w32 := write32_any (w2.heap.size + 1) (w2.heap.size + 1) (nameOf c).1.data.toList (bareK c 1) k HO.out.1.1 (by have := HO.out.1.2; omega) w4 hT4 (by omega) (by omega) (by omega) hI4
      have q1 := m4.cell 3
      have q2 := x4.cell 3
      simp only [celI, List.getElem?_toArray, List.getElem?_cons_zero, List.getElem?_cons_succ] at q1 q2
      clear hws hat hfr J9 k9 hb4
      go_wp2_with (go_at_call 32; refine w32.mono ?_; rintro e w5 ⟨rfl, hI5, hb5⟩; refine Hid.out ?_)
      refine Lib.hid ?_
      have hz5 := hb5.size
      have x5 := x4.below hb5 (by omega)
      have m5 := m4.below hb5 (by omega)
      have bl5 := bl4.trans (hb5.mono (by omega))
      have w81 := write8_any (w2.heap.size + 1) (w2.heap.size + 1) _ (bareJ c 1) a HO.out.2.1.1 (by have := HO.out.2.1.2; omega) w5 (hT.new bl5) (by omega) (by omega) (by rw [List.length_append]; omega) hI5
      have r1 := m5.cell 1
      have r2 := x5.cell 1
      simp only [celI, List.getElem?_toArray, List.getElem?_cons_zero, List.getElem?_cons_succ] at r1 r2
      clear w32 hI4 q1 q2 hb5
      go_wp2_with (go_at_call 33; refine w81.mono ?_; rintro e w6 ⟨rfl, hI6, hb6⟩; refine Hid.out ?_)
      refine Lib.hid ?_
      have hz6 := hb6.size
      have x6 := x5.below hb6 (by omega)
      have m6 := m5.below hb6 (by omega)
      have bl6 := bl5.trans (hb6.mono (by omega))
      have w82 := write8_any (w2.heap.size + 1) (w2.heap.size + 1) _ (bareJ c 1) b HO.out.2.2.1 (by have := HO.out.2.2.2; omega) w6 (hT.new bl6) (by omega) (by omega) (by rw [List.length_append, List.length_append]; omega) hI6
      have s1 := m6.cell 2
      have s2 := x6.cell 2
      simp only [celI, List.getElem?_toArray, List.getElem?_cons_zero, List.getElem?_cons_succ] at s1 s2
      clear w81 hI5 r1 r2 hb6
      go_wp2_with (go_at_call 33; refine w82.mono ?_; rintro e w7 ⟨rfl, hI7, hb7⟩; refine Hid.out ?_)
      refine Lib.hid ?_
      have hz7 := hb7.size
      have bl7 := bl6.trans (hb7.mono (by omega))
      have hst := bstring_any (w2.heap.size + 1) (w2.heap.size + 1) _ w7 hI7 (by omega)
      clear w82 hI6 s1 s2 hb7
      go_wp2_with (go_at_call 29; refine hst.mono ?_; rintro e w8 ⟨rfl, _, hb8, _⟩)
      exact bodyPost_ret (v := .tuple #[.string (bs (lineB (c, a, b, k))), .int .i64 0]) (by simp [results, Tryd.f10, go_sem, lineB]) rfl ⟨by rw [HS.out, HE.out], bl7.trans (hb8.mono (by omega))⟩
    · have hbool : (!decide (bareJ c a = a) || (!decide (bareJ c b = b) || !decide (bareK c k = k))) = true := by
        simp only [Bool.or_eq_true, Bool.not_eq_true', decide_eq_false_iff_not]
        by_cases h1 : bareJ c a = a <;> by_cases h2 : bareJ c b = b <;> by_cases h3 : bareK c k = k <;> simp_all
      rw [hbool]
      have hne2 : ¬ bareI (c, a, b, k) = (c, a, b, k) := by
        intro e
        simp only [bareI, Prod.mk.injEq, true_and] at e
        exact hb e
      have hS : lineS (c, a, b, k) = bs [] := by simp [lineS, hasL, hne2]
      have hE : lineE (c, a, b, k) = 2 := by simp [lineE, hasL, hne2]
      have HS := Lib.hid hS
      have HE := Lib.hid hE
      clear hS hE hbool hb hne2 hneq hname i0 J0 J1 hne hb1
      go_wp2
      exact bodyPost_ret (v := .tuple #[.string (bs []), .int .i64 2]) (by simp [results, Tryd.f10, go_sem, bs]) rfl ⟨by rw [HS.out, HE.out], J7.old⟩
  · have hkn' : (nameOf q.1).2 = false := by simpa using hkn
    have e1 : lineS q = bs [] := by simp [lineS, hasL, hkn']
    have e2 : lineE q = 2 := by simp [lineE, hasL, hkn']
    rw [e1, e2]
    rw [hkn'] at hname
    obtain ⟨c, a, b, k⟩ := q
    simp only [valI, insV, celI] at hname J0 ⊢
    clear e1 e2 hkn hkn'
    have i0 := J0.ki.cell 0
    simp only [celI, List.getElem?_toArray, List.getElem?_cons_zero] at i0
    go_enter Tryd.func10, Tryd.ntmps10
    go_wp2_with (first | (go_at_call 30; refine (hname _ (hT.alloc _).kinds).mono ?_; rintro e w1 ⟨rfl, hb1⟩) | go_quiet (fail))
    have J1 := J0.below hb1
    exact bodyPost_ret (v := .tuple #[.string (bs []), .int .i64 2]) (by simp [results, Tryd.f10, go_sem, bs]) rfl ⟨rfl, below_drewN J1.old _⟩
end Go.Proofs.YtceeinljakcdkaaDoor

/-
  Threads' rows compared; slices.Equal at threads; single cells loaded in a class of worlds.
-/
import Derived.Test.YtfohifnbohdbcaaScC
import Derived.Test.YtfohifnbohdbcaaPlNq
import Derived.Test.YtfohifnbohdbcaaClassL
import Derived.ChangeKeysEq
import Derived.Laws.StructEq
namespace Go.Proofs.Ytfohifnbohdbcaa
open Go.RowKit Go.Shelf
set_option linter.unusedVariables false
set_option linter.unusedSimpArgs false

theorem eqF_consR {P : Program} {d : Nat} {xs ys : Array Value} {f : Field} {fs : List Field} {w : World} {a b : Value} {r r' : Bool} (hn : f.name ≠ "_") (ha : (part f.type xs f.offset).run P w = .ok a w) (hb : (part f.type ys f.offset).run P w = .ok b w)
    (hr : (Op.equalIn d f.type a b).run P w = .ok r w) (hf : (Op.eqFields d xs ys fs).run P w = .ok r' w) : (Op.eqFields d xs ys (f :: fs)).run P w = .ok (r && r') w := by
  simp only [Op.eqFields, hn, ne_eq, not_false_eq_true, if_true, Sem.run_bind, ha, hb, hr, Result.andThen_ok]
  cases r <;> simp [hf]
theorem rn_fields : (Try.prog.fieldsOf 52).toList = [⟨"Id", 3, 0, false, "", "", 0⟩, ⟨"State", 3, 1, false, "", "", 8⟩, ⟨"Wants", 3, 2, false, "", "", 16⟩] := by kernel_rfl
/-- The same thread's row. -/
def sameR (a b : Rn) : Bool := a.i == b.i && (a.s == b.s && a.n == b.n)
theorem sameR_iff {a b : Rn} : sameR a b = true ↔ a = b := by
  obtain ⟨i, s, n⟩ := a
  obtain ⟨i', s', n'⟩ := b
  simp [sameR]
theorem run_eqIn_rn (d : Nat) (a b : Rn) (w : World) : (Op.equalIn (d + 2) 52 (.agg (rnC a)) (.agg (rnC b))).run Try.prog w = .ok (sameR a b) w := by
  rw [run_equalIn_struct w (d + 1) 52 _ _ (by kernel_rfl) (by kernel_rfl), rn_fields]
  have h0 := run_equalIn_int w d 3 .i64 .i64 a.i b.i Try.underlying3
  have h1 := run_equalIn_int w d 3 .i64 .i64 a.s b.s Try.underlying3
  have h2 := run_equalIn_int w d 3 .i64 .i64 a.n b.n Try.underlying3
  have hz : (Op.eqFields (d + 1) (rnC a) (rnC b) []).run Try.prog w = .ok true w := by simp [Op.eqFields]
  have e := eqF_consR (f := ⟨"Id", 3, 0, false, "", "", 0⟩) (by decide) (run_part_plain w (v := .int .i64 a.i) (by kernel_rfl) rfl) (run_part_plain w (v := .int .i64 b.i) (by kernel_rfl) rfl) h0
    (eqF_consR (f := ⟨"State", 3, 1, false, "", "", 8⟩) (by decide) (run_part_plain w (v := .int .i64 a.s) (by kernel_rfl) rfl) (run_part_plain w (v := .int .i64 b.s) (by kernel_rfl) rfl) h1
    (eqF_consR (f := ⟨"Wants", 3, 2, false, "", "", 16⟩) (by decide) (run_part_plain w (v := .int .i64 a.n) (by kernel_rfl) rfl) (run_part_plain w (v := .int .i64 b.n) (by kernel_rfl) rfl) h2 hz))
  have eb : (a.i == b.i && (a.s == b.s && (a.n == b.n && true))) = sameR a b := by
    unfold sameR
    simp only [Bool.and_true]
  rw [e, eb]
theorem run_neq_rn (a b : Rn) (w : World) : (binOp .neq 52 (.agg (rnC a)) (.agg (rnC b))).run Try.prog w = .ok (.bool (!sameR a b)) w := by
  rw [run_neq_struct, run_eqIn_rn 9998]
  rfl
theorem rn_guard : Try.prog.eqGuardType Try.prog.depth 52 = false := by kernel_rfl
theorem class_neq_rn {ops : Array Oper} {S : World → Prop} {Q : Act → Prop} {a : Act} {o : Oper} {rest : List Oper} (hw : Region.wanted o (yielded ops a.tmps) = true) (x y : Operand) (ho : o.op = .binOp .neq 52 x y 52)
    (s s' : Rn) (hx : a.eval x = .agg (rnC s)) (hy : a.eval y = .agg (rnC s')) (b : Bool) (hb : sameR s s' = b)
    (h : wpQuiet Try.prog ops (fun w' => ∃ s : Sig S, w' = s.V) Q rest (a.put o.dst (.bool !b))) : wpQuiet Try.prog ops (fun w' => ∃ s : Sig S, w' = s.V) Q (o :: rest) a :=
  wpQuiet_step fun K hK => by
    rw [if_pos hw]
    refine ⟨.bool !b, ?_, hK _ h⟩
    rintro w ⟨s1, rfl⟩
    have hrun := run_neq_rn s s' s1.V
    rw [hb] at hrun
    unfold Oper.quietAt execOp
    simp only [ho, hx, hy, Sem.run_bind, run_eqGuard_agg s1.V .neq 52 x y _ _ rn_guard, hrun, Result.andThen_ok]
    exact ⟨rfl, rfl⟩
theorem class_loadv {P : Program} {ops : Array Oper} {S : World → Prop} {Q : Act → Prop} {a : Act} {o : Oper} {rest : List Oper} (hw : Region.wanted o (yielded ops a.tmps) = true) (ty : TypeId) (x : Operand) (ho : o.op = .load ty x)
    (p : Addr) (hx : a.eval x = .pointer (some p)) (v : Value) (hl : ∀ w, S w → (loadVar ty p).run P w = .ok v w)
    (h : wpQuiet P ops (fun w' => ∃ s : Sig S, w' = s.V) Q rest (a.put o.dst v)) : wpQuiet P ops (fun w' => ∃ s : Sig S, w' = s.V) Q (o :: rest) a :=
  wpQuiet_step fun K hK => by
    rw [if_pos hw]
    refine ⟨v, ?_, hK _ h⟩
    rintro w ⟨s, rfl⟩
    unfold Oper.quietAt execOp
    simp only [ho, hx, Instr.loadAt, Instr.sureAddr, Sem.run_bind, Sem.run_pure, Result.andThen_ok, hl s.V s.h]
    exact ⟨rfl, rfl⟩
theorem int_loadc {w : World} {p : Addr} {x : Int} (h : w.cell? p = some (.int .i64 x)) : (loadVar 3 p).run Try.prog w = .ok (.int .i64 x) w := by
  have hu := run_underlying Try.underlying3
  simp [go_sem, hu, h]
theorem ints_loadc {w : World} {p : Addr} {A : Option Addr} {m c : Nat} (h : w.cell? p = some (.slice A m c)) : (loadVar 40 p).run Try.prog w = .ok (.slice A m c) w := by
  have hu := run_underlying Try.underlying40
  simp [go_sem, hu, h]
theorem runs_loadc {w : World} {p : Addr} {A : Option Addr} {m c : Nat} (h : w.cell? p = some (.slice A m c)) : (loadVar 22 p).run Try.prog w = .ok (.slice A m c) w := by
  have hu := run_underlying Try.underlying22
  simp [go_sem, hu, h]
theorem locks_loadc {w : World} {p : Addr} {A : Option Addr} {m c : Nat} (h : w.cell? p = some (.slice A m c)) : (loadVar 23 p).run Try.prog w = .ok (.slice A m c) w := by
  have hu := run_underlying Try.underlying23
  simp [go_sem, hu, h]
/-- The same rows, one by one. -/
def eqR : List Rn → List Rn → Bool
  | [], [] => true
  | x :: l, y :: k => sameR x y && eqR l k
  | _, _ => false
theorem eqR_iff : ∀ {l k : List Rn}, eqR l k = true ↔ l = k
  | [], [] => by simp [eqR]
  | [], y :: k => by simp [eqR]
  | x :: l, [] => by simp [eqR]
  | x :: l, y :: k => by rw [eqR, Bool.and_eq_true, sameR_iff, eqR_iff, List.cons.injEq]
theorem eqR_len {l k : List Rn} (h : l.length ≠ k.length) : eqR l k = false := by
  cases hq : eqR l k
  · rfl
  · exact absurd (by rw [eqR_iff.1 hq]) h
theorem eqR_drop {l p : List Rn} {k : Nat} (h : k < l.length) (h' : k < p.length) : eqR (l.drop k) (p.drop k) = (sameR (l.getD k rn0) (p.getD k rn0) && eqR (l.drop (k + 1)) (p.drop (k + 1))) := by
  rw [List.drop_eq_getElem_cons h, List.drop_eq_getElem_cons h', eqR]
  simp [List.getD, h, h']
/-- What is known of each world of a comparison. -/
structure E2 (w : World) (b o : Nat) (x : Rn) (b2 o2 : Nat) (y : Rn) (V : World) : Prop where
  bel : Below w.heap.size w V
  c1 : V.rangeAt b o (rnC x).toList
  c2 : V.rangeAt b2 o2 (rnC y).toList
set_option maxRecDepth 100000 in
set_option maxHeartbeats 4000000 in
theorem equal_R (A : Option Addr) (m c : Nat) (R : List Rn) (A2 : Option Addr) (m2 c2 : Nat) (R2 : List Rn) (w : World) (hA : RsR w w.heap.size A R) (hm : m = R.length) (h6 : m ≤ 1000000) (hA2 : RsR w w.heap.size A2 R2) (hm2 : m2 = R2.length) :
    Calls Try.prog 63 #[.slice A m c, .slice A2 m2 c2] w fun e w' => e = .returned (.bool (eqR R R2)) ∧ Below w.heap.size w w' := by
  have B0 := Below.refl w.heap.size w
  obtain ⟨E, hE⟩ : ∃ E, eqR R R2 = E := ⟨_, rfl⟩
  rw [hE]
  by_cases hmm : m = m2
  · subst hmm
    have hf : ((m : Int) != (m : Int)) = false := by simp
    have HM := Lib.hid hm
    have HM2 := Lib.hid hm2
    have HE := Lib.hid hE
    clear hm hm2 hE
    go_enter Try.func63, Try.ntmps63
    go_wp2_with fail
    go_loopw [13] (fun i wr' => ∃ (k : Nat) (wr : World), wr = wr' ∧ k ≤ m ∧ i = .int .i64 k ∧ Hid (E = eqR (R.drop k) (R2.drop k)) ∧ Below w.heap.size w wr) (fun i _ => m - (intOf i).toNat)
    case atStart => exact ⟨0, _, rfl, Nat.zero_le _, rfl, Lib.hid (by simpa using HE.out.symm), B0⟩
    case round =>
      clear B0 HE
      obtain ⟨k, wr, hwr, hk, rfl, HI, hB⟩ := hrel
      subst hwr
      by_cases hlt : k < m
      · have hlt' : (k : Int) < (m : Int) := by omega
        have hkl : k < R.length := by have := HM.out; omega
        have hkl2 : k < R2.length := by have := HM2.out; omega
        obtain ⟨b, off, rfl, hb, hc⟩ := (hA.below hB (Nat.le_refl _)) k hkl
        obtain ⟨b2, off2, rfl, hb2, hc2⟩ := (hA2.below hB (Nat.le_refl _)) k hkl2
        have hI := HI.out
        rw [eqR_drop hkl hkl2] at hI
        clear HI hkl hkl2
        generalize R.getD k rn0 = x at hc hI
        generalize R2.getD k rn0 = y at hc2 hI
        obtain ⟨sb, hsb⟩ : ∃ sb, sameR x y = sb := ⟨_, rfl⟩
        rw [hsb] at hI
        have HSB := Lib.hid hsb
        have HI := Lib.hid hI
        clear hI hsb
        have J : E2 w b (off + k * 3) x b2 (off2 + k * 3) y wr.drew := ⟨hB.drew, hc, hc2⟩
        clear hc hc2
        go_wp2_with fail
        have hne : Nonempty (Sig (E2 w b (off + k * 3) x b2 (off2 + k * 3) y)) := ⟨⟨_, J⟩⟩
        refine region_class (S := E2 w b (off + k * 3) x b2 (off2 + k * 3) y) (by kernel_rfl) (by kernel_rfl) J ?_
        repeat (first
          | (refine class_load_mid (by rfl) 52 (.tmp 18) rfl b (off + k * 3) rfl (rnC x).toList _ (fun _ h => h.c1) Try.underlying52 rfl (rn_infL x) ?_; simp only [Act.put, List.setIfInBounds_toArray, List.set_cons_zero, List.set_cons_succ])
          | (refine class_load_mid (by rfl) 52 (.tmp 22) rfl b2 (off2 + k * 3) rfl (rnC y).toList _ (fun _ h => h.c2) Try.underlying52 rfl (rn_infL y) ?_; simp only [Act.put, List.setIfInBounds_toArray, List.set_cons_zero, List.set_cons_succ])
          | (refine class_neq_rn (by rfl) (.tmp 19) (.tmp 23) rfl x y rfl rfl sb HSB.out ?_; simp only [Act.put, List.setIfInBounds_toArray, List.set_cons_zero, List.set_cons_succ])
          | go_big_quiet_step (fail))
        refine wpQuiet_nil ?_
        rintro _ ⟨s7, rfl⟩
        have hB7 := s7.h.bel
        clear J hne
        cases sb
        · have hI : E = false := HI.out
          go_wp2_with fail
          go_ret
          exact ⟨by rw [hI]; rfl, hB7⟩
        · go_wp2_with fail
          go_roundw
          case rel => exact ⟨k + 1, _, rfl, by omega, by go_num, Lib.hid HI.out, hB7⟩
          case measure => simp [intOf]; omega
      · obtain rfl : k = m := by omega
        have hI := HI.out
        rw [List.drop_of_length_le (by have := HM.out; omega), List.drop_of_length_le (by have := HM2.out; omega)] at hI
        have HI := Lib.hid hI
        clear hI
        go_wp2_with fail
        go_ret
        exact ⟨by rw [HI.out]; rfl, hB⟩
  · have hf : ((m : Int) != (m2 : Int)) = true := by simp; omega
    have hr : E = false := by rw [← hE]; exact eqR_len (by omega)
    clear hE hmm
    go_enter Try.func63, Try.ntmps63
    go_wp2_with fail
    go_ret
    exact ⟨by rw [hr]; rfl, B0⟩
end Go.Proofs.Ytfohifnbohdbcaa

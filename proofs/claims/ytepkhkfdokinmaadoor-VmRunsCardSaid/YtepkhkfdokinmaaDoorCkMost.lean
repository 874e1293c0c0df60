/-
  check.met: the function over which one ranges, walked.
  What check.met tells, gone through; a number put behind the call's own.
  check.Most: in how many steps at most.
-/
import Derived.Test.YtepkhkfdokinmaaDoorCkMet
import Derived.Test.YtepkhkfdokinmaaDoorCkCheck
import Derived.Maps.AppendAt
namespace Go.Proofs.YtepkhkfdokinmaaDoor
open Go.RowKit Go.Shelf Go.Maps
attribute [local go_sem] Oper.semAt_some

theorem zero_int (w : World) : (zeroValue 3).run Tryd.prog w = .ok (.int .i64 0) w := by kernel_rfl
theorem key_int {a : Int} (h : -9223372036854775808 ≤ a ∧ a ≤ 9223372036854775807) : keyOf Tryd.prog 3 (.int .i64 a) = some (.int .i64 a) := keyOf_int_mk Tryd.underlying3 (WalkArith.wf_i64 h)
theorem mets_zero (f : Nat → Ins) : metsI f 0 = [] := rfl
theorem grown_of_below {W W' : World} (h : Below W.heap.size W W') : W.grownBy W' none := ⟨h.os, h.tape, h.output, h.size, fun k hk _ => h.block k hk⟩

theorem mets_succ_ne {f : Nat → Ins} {k : Nat} (h : upI f k k ≠ 0) : metsI f (k + 1) = metsI f k ++ [(k, upI f k k)] := by rw [mets_succ, if_neg h]
theorem int_of_lit {a b : Int} (h : (DataW.lit (.int .i64 a) : DataW Unit) = .lit (.int .i64 b)) : a = b := by injection h with h; injection h
/-- A block of four cells, an instruction. -/
def BoxI (w : World) (g : Nat) (x y z u : Int) : Prop := w.heap[g]? = some (.cells #[.int .u16 x, .int .u8 y, .int .u8 z, .int .u32 u] 54 (0, 0))
theorem Boxed4_new (w : World) (x y z u : Int) : BoxI (w.alloc (.cells #[.int .u16 x, .int .u8 y, .int .u8 z, .int .u32 u] 54)) w.heap.size x y z u := heap_alloc_new w _
theorem BoxI.cells {w : World} {g : Nat} {x y z u : Int} (h : BoxI w g x y z u) : w.cell? ⟨g, 0, none⟩ = some (.int .u16 x) ∧ w.cell? ⟨g, 1, none⟩ = some (.int .u8 y) ∧ w.cell? ⟨g, 2, none⟩ = some (.int .u8 z) ∧ w.cell? ⟨g, 3, none⟩ = some (.int .u32 u) := by
  unfold BoxI at h
  refine ⟨?_, ?_, ?_, ?_⟩ <;> simp [World.cell?, h]
theorem next_len (q : Ins) (i : Nat) : (nextL q i).length ≤ 2 := by
  unfold nextL
  split
  · simp
  · split
    · simp
    · split
      · split
        · simp
        · split <;> simp
      · simp
theorem foldl_next {g : Nat → Nat} {L : List Nat} {t v : Nat} (h : t < L.length) : (L.take (t + 1)).foldl (fun m p => updI m p v) g = updI ((L.take t).foldl (fun m p => updI m p v) g) (L.getD t 0) v := by
  rw [List.take_add_one, List.foldl_append]
  simp [List.getD, h]
theorem wf_max {a b : Nat} (h : (Lit.int .i64 (a : Int)).wf = true) (hb : b ≤ 1000) : (Lit.int .i64 ((max a b : Nat) : Int)).wf = true := by
  refine WalkArith.wf_i64 ?_
  simp [Lit.wf, IntKind.min, IntKind.max, IntKind.signed, IntKind.bits] at h
  omega
/-- The map at block b reads as g; what lay below n₀ lies as it lay. -/
structure MetI (W wr : World) (n₀ c : Nat) (g : Nat → Nat) : Prop where
  bel : Below n₀ W wr
  map : ∃ D : DataW Unit, wr.ownsMap Tryd.prog 3 (plainElem Tryd.prog 3) W.heap.size c D ∧ Tab D g
section
variable {W wr wr' : World} {n₀ c : Nat} {g : Nat → Nat}
theorem MetI.lt (h : MetI W wr n₀ c g) : W.heap.size < wr.heap.size := by obtain ⟨D, h1, _⟩ := h.map; exact h1.lt
theorem MetI.below (h : MetI W wr n₀ c g) (hn : n₀ ≤ W.heap.size) (hb : Below wr.heap.size wr wr') : MetI W wr' n₀ c g :=
  ⟨h.bel.trans (hb.mono (Nat.le_trans hn (Nat.le_of_lt h.lt))), by
    obtain ⟨D, h1, h2⟩ := h.map
    exact ⟨D, h1.kept (grown_of_below hb) (by simp), h2⟩⟩
theorem MetI.mono (h : MetI W wr n₀ c g) {c' : Nat} (hc : c ≤ c') : MetI W wr n₀ c' g := ⟨h.bel, by
  obtain ⟨D, h1, h2⟩ := h.map
  exact ⟨D, h1.mono hc, h2⟩⟩
theorem MetI.keep (h : MetI W wr n₀ c g) (hk : KeepP n₀ wr wr') : MetI W wr' n₀ c g :=
  ⟨h.bel.trans hk.1, by
    obtain ⟨D, ⟨es, ck, hb, F, hs, hD⟩, h2⟩ := h.map
    exact ⟨D, ⟨es, ck, hk.2 _ _ hb (.inl rfl), F, hs, hD⟩, h2⟩⟩
theorem Rn.kept {w w' : World} {B : Nat} {A : Option Addr} {l : List Nat} {row : Option Nat} (h : Rn w B A l) (hg : w.grownBy w' row) (hr : ∀ r, row = some r → ∃ o : Obj, w.heap[r]? = some o ∧ o.isCells = false) : Rn w' B A l := fun k hk => by
  obtain ⟨b', off, e, h1, c⟩ := h k hk
  exact ⟨b', off, e, h1, cell_kept c hg hr⟩
end

set_option maxRecDepth 100000 in
set_option maxHeartbeats 8000000 in
theorem met_in (n : Nat) (hn : 1 ≤ n) (l n₀ Bl m cap : Nat) (A : Option Addr) (f : Nat → Ins) (hm : m ≤ 64) (hcap : m ≤ cap) (hG : Goes f m) (J Jx : List (Nat × Nat) → World → Prop)
    (hY : ∀ pre (x : Nat × Nat) W, J pre W → pre.length < m → YieldAt Fence.wide (n - 1) Tryd.prog l #[.int .i64 (x.1 : Int), .int .i64 (x.2 : Int)] W fun e W' =>
      (e = .returned (.bool true) ∧ J (pre ++ [x]) W' ∧ KeepP n₀ W W') ∨ (e = .returned (.bool false) ∧ Jx (pre ++ [x]) W'))
    (W : World) (hn0 : n₀ ≤ W.heap.size) (h0n : 0 < n₀) (hJ : AbidesFrom W.heap.size J) (hK : Kinds W) (bl : Boxed W Bl 28 (.slice A m cap)) (hBl : Bl < W.heap.size) (hA : Ri W n₀ A m f) (h0 : J [] W) :
    CallsIn Fence.wide n Tryd.prog 69 #[.func (.yield l) #[] #[], .pointer (some ⟨Bl, 0, none⟩)] W fun e W' => (∃ v, e = .returned v) ∧
      ((∃ ys, ys = metsI f m ∧ J ys W') ∨ (∃ pre, True ∧ Jx pre W')) := by
  have hmm := @run_makeMap Tryd.prog
  have hm0 := World.ownsMap_made W Tryd.prog 3 (plainElem (H := Unit) Tryd.prog 3)
  obtain ⟨w1, hins, hown1, hgrow1⟩ := hm0.update (t := 97) (int_keyed Tryd.underlying3) Tryd.underlying97 (by unfold maxLen; omega) (key_int (a := 0) (by omega)) (plainElem_int (a := 1) Tryd.underlying3 (WalkArith.wf_i64 (by omega)))
  have hb1 : Below n₀ W w1 := ((Below.refl n₀ W).alloc hn0 (.map #[] 0)).grown hgrow1 (by simp; omega) (fun k e => by cases e; exact hn0)
  have hJ1 : J (metsI f 0) w1 := by
    rw [mets_zero]
    exact hJ [] _ _ (some W.heap.size) (hJ [] _ _ none h0 (World.grownBy_alloc W (.map #[] 0) none) (fun r e => by cases e)) hgrow1 (fun r e => by cases e; exact ⟨Nat.le_refl _, _, heap_alloc_new W _, rfl⟩)
  have hM1 : MetI W w1 n₀ 1 (upI f 0) := ⟨hb1, _, hown1, by
    have := Tab.empty.put 0 (v := 1) (by omega)
    exact this⟩
  have blw : Boxed w1 Bl 28 (.slice A m cap) := (hgrow1.block Bl (by simp; omega) (by simp; omega)).trans ((Below.heap_alloc W (.map #[] 0) Bl hBl).trans bl)
  have blc := blw.cell
  clear hm0 hown1 hgrow1 hb1 h0 bl blw
  refine callsIn_of_wp Tryd.func69 rfl trivial ?_ rfl
  simp only [Tryd.ntmps69, List.size_toArray, List.length_cons, List.length_nil, Nat.reduceAdd, Nat.reduceSub, Array.replicate_succ, Array.replicate_zero, List.push_toArray, List.append_toArray, List.nil_append, List.cons_append]
  gi_wp2
  clear hins hmm blc
  gi_loopw [14] (fun i wr => ∃ k : Nat, k ≤ m ∧ i = .int .i64 k ∧ J (metsI f k) wr ∧ MetI W wr n₀ (1 + 2 * k) (upI f k)) (fun i _ => m - (intOf i).toNat)
  case atStart => exact ⟨0, Nat.zero_le _, rfl, hJ1, hM1⟩
  case round =>
    obtain ⟨k, hk, rfl, hJs, hM⟩ := hrel
    by_cases hlt : k < m
    · have hlt' : (k : Int) < m := by omega
      obtain ⟨b, off, rfl, _, ⟨p0, p1, p2, p3⟩, ho⟩ := (hA.below hM.bel (Nat.le_refl _)) k hlt
      obtain ⟨⟨x, y, z, u⟩, hf⟩ : ∃ q : Ins, f k = q := ⟨_, rfl⟩
      rw [hf] at p0 p1 p2 p3 ho
      simp only at p0 p1 p2 p3
      have HF := Lib.hid hf
      clear hf
      obtain ⟨D, hown, hT⟩ := hM.map
      have ba : Below wr.heap.size wr (wr.alloc (.cells #[.int .u16 x, .int .u8 y, .int .u8 z, .int .u32 u] 54)) := (Below.refl _ _).alloc (Nat.le_refl _) _
      have hMa := hM.below hn0 ba
      have hJa := hJ _ _ _ none hJs (grown_of_below ba) (fun r e => by cases e)
      have hown' := hown.kept (grown_of_below ba) (by simp)
      have hat0 := hT.at_ k
      have has0 := hT.has k
      have hkey := key_int (a := (k : Int)) (by omega)
      have hule := up_le f k k
      obtain ⟨v, hv⟩ : ∃ v, upI f k k = v := ⟨_, rfl⟩
      rw [hv] at hat0 has0 hule
      have HV := Lib.hid hv
      clear hv
      by_cases hu : v = 0
      · subst hu
        simp only [ne_eq, not_true_eq_false, decide_false] at has0
        gi_wp2_with (gi_at_lookup; refine wpListIn_lookup_own_ok_int _ rfl _ _ 97 rfl 3 3 .i64 (int_keyed Tryd.underlying3) Tryd.underlying97 Tryd.underlying3 (zero_int _) W.heap.size _ _ rfl hown' _ _ rfl hkey ?_; intro c hat hwc; rw [has0])
        refine ⟨⟨k + 1, by omega, by go_num, ?_, ?_⟩, by simp [intOf]; omega⟩
        · rw [mets_succ, if_pos HV.out]
          exact hJa
        · rw [up_zero HV.out]
          exact ⟨hMa.bel, D, hown'.mono (by omega), hT⟩
      · have hne : upI f k k ≠ 0 := by rw [HV.out]; exact hu
        have hlen := mets_len f k
        obtain ⟨fn, tmps, assign, body, hy, hR⟩ := hY (metsI f k) (k, v) _ hJa (by omega)
        simp only at hy
        rw [← HV.out, ← mets_succ_ne hne] at hR
        simp only [ne_eq, hu, not_false_eq_true, decide_true] at has0
        have hx := Boxed4_new wr x y z u
        gi_wp2_with (gi_at_lookup; refine wpListIn_lookup_own_ok_int _ rfl _ _ 97 rfl 3 3 .i64 (int_keyed Tryd.underlying3) Tryd.underlying97 Tryd.underlying3 (zero_int _) W.heap.size _ _ rfl hown' _ _ rfl hkey ?_; intro c hat hwc; rw [has0]; have hcv := int_of_lit (hat.symm.trans hat0); subst hcv)
        refine hR.mono ?_
        rintro e W3 (⟨rfl, hJ3, hk3⟩ | ⟨rfl, hJx3⟩)
        · have hM3 := hMa.keep hk3
          have hK3 := hK.below hM3.bel h0n
          obtain ⟨x0, x1, x2, x3⟩ := (show BoxI W3 wr.heap.size x y z u from hk3.2 _ _ hx (.inr ⟨_, _, rfl⟩)).cells
          have hnx := next_any (x, y, z, u) k W3 hK3 ho
          simp only [valI, insV] at hnx
          have hG' := fun p hp => hG.ok k hlt p hp
          rw [HF.out] at hG'
          have hL2 := next_len (x, y, z, u) k
          obtain ⟨L, hL⟩ : ∃ L, nextL (x, y, z, u) k = L := ⟨_, rfl⟩
          rw [hL] at hnx hG' hL2
          have HL := Lib.hid hL
          clear hL hk3 hx hMa hJa hown' hown hT hat0 has0 hR hy ba hM hJs p0 p1 p2 p3 hkey ho
          gi_wp2_with (refine ⟨trivial, ?_⟩; gi_at_call 70; refine (callsIn_wide.2 hnx).mono ?_; rintro e W4 ⟨A4, c4, rfl, hc4, hr4, hb4⟩)
          have hJ4 := hJ _ _ _ none hJ3 (grown_of_below hb4) (fun r e => by cases e)
          have hM4 := hM3.below hn0 hb4
          clear hnx hJ3 hM3 hK3 hb4 x0 x1 x2 x3
          gi_loopw [36] (fun j wq => ∃ t : Nat, t ≤ L.length ∧ j = .int .i64 t ∧ J (metsI f (k + 1)) wq ∧ MetI W wq n₀ (1 + 2 * k + t) ((L.take t).foldl (fun m p => updI m p (v + 1)) (upI f k)) ∧ Rn wq W4.heap.size A4 L) (fun j _ => L.length - (intOf j).toNat)
          case atStart => exact ⟨0, Nat.zero_le _, rfl, hJ4, by simpa using hM4, hr4⟩
          case round =>
            obtain ⟨t, ht, rfl, hJt, hMt, hRt⟩ := hrel
            obtain ⟨wq, rfl⟩ : ∃ wq : World, wq = wr := ⟨_, rfl⟩
            by_cases htl : t < L.length
            · have htl' : (t : Int) < (L.length : Int) := by omega
              obtain ⟨b', off', rfl, hbb, q0⟩ := hRt t htl
              have hpm := hG' (L.getD t 0) (by simp [List.getD, htl])
              have HN := Lib.hid (foldl_next (g := upI f k) (v := v + 1) htl)
              obtain ⟨g, hg⟩ : ∃ g, (L.take t).foldl (fun m p => updI m p (v + 1)) (upI f k) = g := ⟨_, rfl⟩
              obtain ⟨p, hp⟩ : ∃ p, L.getD t 0 = p := ⟨_, rfl⟩
              rw [hp] at q0 hpm HN
              rw [hg] at hMt HN
              clear hg hp
              obtain ⟨D, hown, hT⟩ := hMt.map
              have hat0 := hT.at_ p
              have hkey := key_int (a := (p : Int)) (by omega)
              obtain ⟨gp, hgp⟩ : ∃ x, g p = x := ⟨_, rfl⟩
              rw [hgp] at hat0
              have HGP := Lib.hid hgp
              clear hgp
              have ba : Below wq.heap.size wq (wq.alloc (.cells #[.int .i64 ((v : Int) + 1)] 3)) := (Below.refl _ _).alloc (Nat.le_refl _) _
              have hown' := hown.kept (grown_of_below ba) (by simp)
              have hgr := great_one wq.heap.size gp (v + 1) (wq.alloc (.cells #[.int .i64 ((v : Int) + 1)] 3)) (by simp)
              gi_wp2_with (first
                | (gi_at_lookup; refine wpListIn_lookup_own_int _ rfl _ _ 97 rfl 3 3 .i64 (int_keyed Tryd.underlying3) Tryd.underlying97 Tryd.underlying3 (zero_int _) W.heap.size _ _ rfl hown _ _ rfl hkey ?_; intro c hat hwc; have hcv := int_of_lit (hat.symm.trans hat0); subst hcv)
                | (refine ⟨trivial, ?_⟩; gi_at_call 50; refine (callsIn_wide.2 hgr).mono ?_; rintro e w5 ⟨rfl, rfl⟩)
                | (gi_at_mapUpdate; refine wpListIn_mapUpdate_own _ rfl _ _ _ 97 rfl 3 3 (int_keyed Tryd.underlying3) Tryd.underlying97 _ W.heap.size _ _ rfl hown' (by unfold maxLen; omega) _ _ _ rfl rfl hkey _ [] (plainElem_int Tryd.underlying3 (wf_max hwc (by omega))) ?_; intro w6 hown6 hgrow6))
              obtain ⟨es, ck, hmb, _⟩ := hown'
              have hJ6 := hJ _ _ _ (some W.heap.size) (hJ _ _ _ none hJt (grown_of_below ba) (fun r e => by cases e)) hgrow6 (fun r e => by cases e; exact ⟨Nat.le_refl _, _, hmb, rfl⟩)
              have hR6 := (hRt.kept (grown_of_below ba) (fun r e => by cases e)).kept hgrow6 (fun r e => by cases e; exact ⟨_, hmb, rfl⟩)
              have hlt1 := hMt.lt
              have hM6 : MetI W w6 n₀ (1 + 2 * k + (t + 1)) (updI g p (v + 1)) :=
                ⟨(hMt.bel.trans (ba.mono (by omega))).grown hgrow6 (by simp; omega) (fun k e => by cases e; exact hn0), _, hown6, hT.upd p (by omega) (by rw [HGP.out])⟩
              exact ⟨⟨t + 1, by omega, by go_num, hJ6, by rw [HN.out]; exact hM6, hR6⟩, by simp [intOf]; omega⟩
            · obtain rfl : t = L.length := by omega
              rw [List.take_length] at hMt
              have hMk : MetI W wq n₀ (1 + 2 * (k + 1)) (upI f (k + 1)) := by
                rw [up_more hne, HV.out, HF.out, HL.out]
                exact hMt.mono (by omega)
              gi_wp2
              exact ⟨⟨k + 1, by omega, by go_num, hJt, hMk⟩, by simp [intOf]; omega⟩
        · gi_wp2
          refine bodyPost_ret (results_none rfl _ _ _) rfl ?_
          exact ⟨⟨_, rfl⟩, .inr ⟨_, trivial, hJx3⟩⟩
    · obtain rfl : k = m := by omega
      gi_wp2
      go_end0
      exact ⟨⟨_, rfl⟩, .inl ⟨_, rfl, hJs⟩⟩

open Go.RowKit Go.Shelf Go.Maps
attribute [local go_sem] Oper.semAt_some

theorem met_stops (n : Nat) (hn : 1 ≤ n) (n₀ Bl m cap : Nat) (A : Option Addr) (f : Nat → Ins) (hm : m ≤ 64) (hcap : m ≤ cap) (hG : Goes f m) (w : World) (hn0 : n₀ ≤ w.heap.size) (h0n : 0 < n₀) (hK : Kinds w) (bl : Boxed w Bl 28 (.slice A m cap)) (hBl : Bl < w.heap.size) (hA : Ri w n₀ A m f) :
    SeqStopsK Fence.wide n Tryd.prog 69 #[.pointer (some ⟨Bl, 0, none⟩)] (fun x : Nat × Nat => #[Value.int .i64 (x.1 : Int), Value.int .i64 (x.2 : Int)]) (KeepP n₀) (fun ys => ys = metsI f m) (fun _ => True) m w :=
  fun l J Jx W hW hJ _ hY h0 => met_in n hn l n₀ Bl m cap A f hm hcap hG J Jx hY W (Nat.le_trans hn0 hW.size) h0n hJ (hK.below hW (by omega)) ((hW.block Bl (by omega)).trans bl) (Nat.lt_of_lt_of_le hBl hW.size) (hA.below hW hn0) h0

/-- Whole numbers, as values. -/
def nv (l : List Nat) : List Value := l.map fun (p : Nat) => .int .i64 (p : Int)
theorem nv_len (l : List Nat) : (nv l).length = l.length := by simp [nv]
theorem nv_snoc (l : List Nat) (p : Nat) : nv (l ++ [p]) = nv l ++ [.int .i64 (p : Int)] := by simp [nv]
theorem int_info : (Tryd.prog.info? 3).map (fun i => (i.zero, i.size, i.bytes)) = some (some (.int .i64 0), 1, 8) := by kernel_rfl

/-- Appending a number to the call's own. -/
theorem run_append_num {w : World} (ty : TypeId) (base : Nat) (A : Option Addr) (n c : Nat) (l : List Nat) (hown : w.ownsRow base 3 1 (.slice A n c) n (nv l)) (g p : Nat) (hr : w.cell? ⟨g, 0, none⟩ = some (.int .i64 (p : Int))) (hsz : n + 1 ≤ 1000000) (hbase : base ≤ w.heap.size) :
    ∃ A'' c'' w', (Builtin.append_ #[74, 74] ty #[.slice A n c, .slice (some ⟨g, 0, none⟩) 1 1]).run Tryd.prog w = .ok (.slice A'' (n + 1) c'') w' ∧ w'.ownsRow base 3 1 (.slice A'' (n + 1) c'') (n + 1) (nv (l ++ [p])) ∧ KeepP base w w' ∧ KeepsOthers w w' := by
  obtain ⟨i, hi, hz, hs1, hb1⟩ := info_parts int_info
  obtain ⟨v', w', hrun, h1, h2, _, _⟩ := run_append_own_at (P := Tryd.prog) w base 74 ty 3 i (.int .i64 0) 1 8 Tryd.underlying74 hi hz hs1 hb1 rfl (by decide) _ n (nv l) hown ⟨g, 0, none⟩ 1 1 [.int .i64 (p : Int)]
    rfl (by
      intro j u hj
      have : j = 0 := by
        rcases j with _ | j
        · rfl
        · simp at hj
      subst this
      simp at hj
      subst hj
      simpa [Addr.add] using hr) (by intro u hu; simp at hu; subst hu; rfl) (by simp only [maxLen]; omega) (by omega) hbase
  obtain ⟨A'', c'', rfl⟩ := own_slice h1
  have hty : ∀ (j : Nat) (o : Obj), (Value.slice A n c).ownBlock = some j → w.heap[j]? = some o → ∃ cs, o = .cells cs 3 (0, 0) := fun j o ej hj => by
    rcases hown.2 with ⟨hv, _⟩ | ⟨g', cap, cur, hv, _, hgb, _⟩
    · rw [hv] at ej; simp [Value.ownBlock] at ej
    · rw [hv] at ej
      obtain rfl : g' = j := by simpa [Value.ownBlock] using ej
      rw [hgb] at hj; cases hj; exact ⟨_, rfl⟩
  refine ⟨A'', c'', w', hrun, by rw [nv_snoc]; exact h1, ⟨(Below.refl _ _).grown h2 hbase fun k hk => (hown.lt k hk).1, fun j o hj ho => ?_⟩, KeepsOthers.of_grownBy h2 fun j o ej hj => by obtain ⟨cs, rfl⟩ := hty j o ej hj; rfl⟩
  refine (h2.block j (Array.getElem?_eq_some_iff.1 hj).1 fun e => ?_).trans hj
  obtain ⟨cs, rfl⟩ := hty j o e.symm hj
  rcases ho with ho | ⟨cs', fz, ho⟩
  · cases ho
  · injection ho with _ h
    exact absurd h (by decide)
theorem wpListIn_append_num {F : Fence} {nF : Nat} {w : World} {ops : Array Oper} {rest : List Oper} {o : Oper} {a : Act} {Q : Exit → Act → World → Prop} (hgd : o.guard = none) (s x : Operand)
    (ho : o.op = .call { callee := .builtin .append, args := #[s, x], argTypes := #[74, 74] })
    (base : Nat) (A : Option Addr) (n c : Nat) (l : List Nat) (hs : a.eval s = .slice A n c) (hown : w.ownsRow base 3 1 (.slice A n c) n (nv l)) (g p : Nat) (hx : a.eval x = .slice (some ⟨g, 0, none⟩) 1 1) (hr : w.cell? ⟨g, 0, none⟩ = some (.int .i64 (p : Int))) (hsz : n + 1 ≤ 1000000) (hbase : base ≤ w.heap.size)
    (h : ∀ A'' c'' w', w'.ownsRow base 3 1 (.slice A'' (n + 1) c'') (n + 1) (nv (l ++ [p])) → KeepP base w w' → KeepsOthers w w' → wpListIn F nF Tryd.prog ops Q rest (a.put o.dst (.slice A'' (n + 1) c'')) w') :
    wpListIn F nF Tryd.prog ops Q (o :: rest) a w := by
  refine wpListIn_plain hgd fun K hK => ?_
  obtain ⟨A'', c'', w', hrun, h1, h2, h3⟩ := run_append_num o.type base A n c l hown g p hr hsz hbase
  unfold Oper.wpIn
  refine ⟨by simp [Oper.about, ho, resolve, Target.leads, Sem.run_pure], ?_⟩
  rw [Oper.semAt_plain F _ _ (by rw [ho]; intro c hc'; cases hc')]
  simp [execOp, ho, resolve, invoke, builtin, hs, hx, hrun, Result.andThen]
  exact hK _ _ (h A'' c'' w' h1 h2 h3)
theorem keepP_set {n₀ b : Nat} {w : World} {v u : Value} (hv : Boxed w b 74 v) (hn : n₀ ≤ b) : KeepP n₀ w (w.setCell ⟨b, 0, none⟩ u) := by
  refine ⟨(Below.refl _ _).setCell (p := ⟨b, 0, none⟩) hn u, fun j o hj ho => (Below.heap_setCell w ⟨b, 0, none⟩ u j ?_).trans hj⟩
  rintro rfl
  rw [show w.heap[_]? = _ from hv] at hj
  cases hj
  rcases ho with ho | ⟨cs', fz, ho⟩
  · cases ho
  · injection ho with _ h
    exact absurd h (by decide)
theorem KeepP.mono {n₀ n₁ : Nat} {w w' : World} (h : KeepP n₁ w w') (hn : n₀ ≤ n₁) : KeepP n₀ w w' := ⟨h.1.mono hn, h.2⟩
theorem rn_of_own {w : World} {base n c : Nat} {A : Option Addr} {l : List Nat} (h : w.ownsRow base 3 1 (.slice A n c) n (nv l)) : Rn w w.heap.size A l ∧ n ≤ c ∧ n = l.length := by
  have hl := h.1
  rw [nv_len, Nat.mul_one] at hl
  refine ⟨fun k hk => ?_, ?_, hl.symm⟩
  · obtain ⟨g, c', hv, hg, hcs⟩ := own_head h (by omega)
    injection hv with hA _ _
    refine ⟨g, 0, hA, hg, ?_⟩
    rw [Nat.zero_add]
    exact hcs k _ (by simp [nv, List.getD, hk])
  · rcases h.2 with ⟨hv, h0⟩ | ⟨g, cap, cur, hv, _, _, hnc, _⟩
    · omega
    · injection hv with _ _ h3
      omega

open Go.RowKit Go.Shelf Go.Maps
attribute [local go_sem] Oper.semAt_some

set_option maxRecDepth 100000 in
set_option maxHeartbeats 4000000 in
theorem most_ok (A : Option Addr) (m cap : Nat) (f : Nat → Ins) (w : World) (hK : Kinds w) (hA : Ri w w.heap.size A m f) (hcap : m ≤ cap) (hM : May f m) (hG : Goes f m) :
    Calls Tryd.prog 21 #[.slice A m cap] w fun e w' => e = .returned (.tuple #[.int .i64 ((mostI f m : Nat) : Int), .int .i64 0]) ∧ Below w.heap.size w w' := by
  have hC := check_any A m cap f w hK hA
  rw [chk_may hM] at hC
  refine (callsIn_wide (n := 6)).1 ?_
  refine callsIn_of_wp_marks Tryd.func21 rfl trivial ?_ rfl
  simp only [Tryd.ntmps21, List.size_toArray, List.length_cons, List.length_nil, Nat.reduceAdd, Nat.reduceSub, Array.replicate_succ, Array.replicate_zero, List.push_toArray, List.append_toArray, List.nil_append, List.cons_append]
  refine wpIn_wide.2 ?_
  go_wp2_with fail
  refine hC.mono ?_
  rintro e w1 ⟨rfl, b1⟩
  go_wp2_with fail
  refine (met_any A m cap _).mono ?_
  rintro e w2 ⟨rfl, rfl⟩
  go_wp2_with fail
  have bP := (Boxed.new w1 74 (.slice none 0 0)).alloc (.cells #[.slice A m cap] 28)
  have bL := Boxed.new (w1.alloc (.cells #[.slice none 0 0] 74)) 28 (.slice A m cap)
  have hB0 : Below w.heap.size w ((w1.alloc (.cells #[.slice none 0 0] 74)).alloc (.cells #[.slice A m cap] 28)) := (b1.alloc b1.size _).alloc (by have := b1.size; simp; omega) _
  have hs1 := b1.size
  have hpos := hK.pos
  simp only [World.size_alloc] at bL
  have hsz : ((w1.alloc (.cells #[.slice none 0 0] 74)).alloc (.cells #[.slice A m cap] 28)).heap.size = w1.heap.size + 1 + 1 := by simp
  obtain ⟨w0, hw0⟩ : ∃ w0, (w1.alloc (.cells #[.slice none 0 0] 74)).alloc (.cells #[.slice A m cap] 28) = w0 := ⟨_, rfl⟩
  rw [hw0] at bP bL hB0 hsz ⊢
  clear hw0 hC b1
  have hms := met_stops 5 (by omega) w.heap.size (w1.heap.size + 1) m cap A f hM.hi hcap hG w0 (by omega) hpos (hK.below hB0 hpos) bL (by omega) (hA.below hB0 (Nat.le_refl _))
  refine (wpIn_wide (n := 6)).1 ?_
  refine wpIn_rangeFunc_ownG rfl (by omega) (gf := 69) (lb := #[.pointer (some ⟨w1.heap.size + 1, 0, none⟩)]) rfl trivial (enters_of Tryd.func69 (by kernel_rfl) rfl)
    hms keepP_t (keepP_b (by omega)) (Below.refl _ _) (fun _ => rfl)
    (fun (pre : List (Nat × Nat)) W => (∃ v, Boxed W w1.heap.size 74 v ∧ W.ownsRow w0.heap.size 3 1 v pre.length (nv (pre.map (·.2))) ∧ True) ∧ Below w.heap.size w0 W)
    (fun _ _ _ => False)
    (OwnFrom.and (Own.from (holdsRow_own w0.heap.size w1.heap.size 74 3 1 (fun (pre : List (Nat × Nat)) => pre.length) (fun pre => nv (pre.map (·.2))) (fun _ _ => True)) _) (ownFrom_below (by omega) (by omega)))
    (fun _ _ _ _ _ hs _ _ => hs)
    ⟨⟨_, bP, World.ownsRow_nil _ _ _ _, trivial⟩, Below.refl _ _⟩
    (fun x => { tmps := #[.slice A m cap, undef, .int .i64 0, .int .i64 0, .int .i64 0, .int .i64 0, .pointer (some ⟨w1.heap.size, 0, none⟩), undef, .int .i64 (x.2 : Int), .tuple #[.int .i64 0, .int .i64 0], .slice A m cap, .tuple #[.int .i64 0, .int .i64 0], .int .i64 0, .int .i64 0, .int .i64 0, .bool false, undef, .slice A m cap,
      .func (.func 69) #[] #[.pointer (some ⟨w1.heap.size + 1, 0, none⟩)], .int .i64 (x.1 : Int), .int .i64 (x.2 : Int), undef, undef, undef, undef, undef, undef], defers := [] }) ?assign ?body ?done ?stop
  case assign =>
    intro l x W K hK
    gi_wp2
    exact hK
  case body =>
    rintro l pre ⟨q, p⟩ W ⟨⟨v, hv, hrow, _⟩, hB⟩ hlt
    obtain ⟨A', c', rfl⟩ := own_slice hrow
    have hc := hv.cell
    have hsW := hB.size
    have hm64 := hM.hi
    have ba : Below W.heap.size W (W.alloc (.cells #[.int .i64 (p : Int)] 3)) := (Below.refl _ _).alloc (Nat.le_refl _) _
    have hva := boxed_below hv ba (by omega)
    have hrow' := ownsRow_below hrow ba (Nat.le_refl _)
    gi_wp2_with (gi_at_builtin; refine wpListIn_append_num rfl (.tmp 21) (.tmp 23) rfl w0.heap.size A' pre.length c' (pre.map (·.2)) rfl hrow' W.heap.size p rfl (by simp) (by omega) (by simp; omega) ?_; intro A2 c2 w2 how2 hk2 ho2; have hv2 := boxed_below hva hk2.1 (by omega); have hc2 := hv2.cell; have hf2 := hv2.frozen)
    have hkp : KeepP w.heap.size W (w2.setCell ⟨w1.heap.size, 0, none⟩ (.slice A2 (pre.length + 1) c2)) := keepP_t (keepP_below ba (by omega)) (keepP_t (hk2.mono (by omega)) (keepP_set hv2 hs1))
    refine ⟨((KeepsOthers.alloc _ _).trans (ho2.trans (KeepsOthers.setCell _ _ _))).from _, hkp, ⟨⟨_, hv2.set _, ?_, trivial⟩, hB.trans hkp.1⟩⟩
    have hq := own_drew_set (u' := .slice A2 (pre.length + 1) c2) how2 hv2 (by decide)
    simpa using hq
  case done =>
    rintro D ys W hD rfl ⟨⟨v, hv, hrow, _⟩, hB⟩ hKD
    obtain ⟨A', c', rfl⟩ := own_slice hrow
    obtain ⟨h1, _, h3⟩ := rn_of_own hrow
    have hlm := mets_len f m
    have hm64 := hM.hi
    have hg := great_any A' (metsI f m).length c' W.heap.size 0 ((metsI f m).map (·.2)) W h1 h3 (by omega)
    rw [mets_most hG] at hg
    clear h1 h3 hlm hrow
    obtain ⟨len, hlen⟩ : ∃ len, (metsI f m).length = len := ⟨_, rfl⟩
    rw [hlen] at hv hg
    clear hlen hms
    have hc := hv.cell
    go_wp2_with fail
    refine hg.mono ?_
    rintro e W2 ⟨rfl, rfl⟩
    go_wp2_with fail
    refine ⟨by simp, .inl ⟨_, _, rfl, run_takeDeferred hKD, ?_⟩⟩
    exact ⟨_, results_tmp2 rfl _ _ _, rfl, (hB0.trans hB).trans (belowK_b (w := w) (Nat.le_refl _) W2 D _ _ (by omega) hKD rfl rfl)⟩
  case stop =>
    rintro D cd pre W _ _ h _
    exact h.elim

set_option maxHeartbeats 1000000 in
theorem most_no (A : Option Addr) (m cap : Nat) (f : Nat → Ins) (w : World) (hK : Kinds w) (hA : Ri w w.heap.size A m f) (r1 r2 : Int) (hr : chkI f m = (r1, r2)) (h0 : ¬ r2 = 0) :
    Calls Tryd.prog 21 #[.slice A m cap] w fun e w' => e = .returned (.tuple #[.int .i64 0, .int .i64 r2]) ∧ Below w.heap.size w w' := by
  have hC := check_any A m cap f w hK hA
  rw [hr] at hC
  clear hr
  go_enter Tryd.func21, Tryd.ntmps21
  go_wp2_with fail
  refine hC.mono ?_
  rintro e w1 ⟨rfl, b1⟩
  go_wp2_with fail
  go_ret2
  exact ⟨rfl, b1⟩
end Go.Proofs.YtepkhkfdokinmaaDoor

/-
  The reference's Trace, walked.
-/
import Derived.Test.YtepkhkfdokinmaaDoorRefSw
import Derived.Test.YtepkhkfdokinmaaDoorVmEn
import Derived.Test.YtepkhkfdokinmaaDoorGL
namespace Go.Proofs.YtepkhkfdokinmaaDoor
open Go.RowKit Go.Shelf
attribute [local go_sem] Oper.semAt_some
set_option linter.unusedVariables false
set_option linter.unusedSimpArgs false

theorem wpList_append_vm {w : World} {ops : Array Oper} {rest : List Oper} {o : Oper} {a : Act} {Q : Exit → Act → World → Prop} (hgd : o.guard = none) (s x : Operand)
    (ho : o.op = .call { callee := .builtin .append, args := #[s, x], argTypes := #[47, 47] })
    (base : Nat) (A : Option Addr) (n c : Nat) (l : List VmS) (hs : a.eval s = .slice A n c) (hown : w.ownsRow base 35 19 (.slice A n c) n (flatV l)) (hn0 : n = 0 → A = none) (g : Nat) (m : VmS) (hm : m.mem.length = 16) (hx : a.eval x = .slice (some ⟨g, 0, none⟩) 1 1) (hg : Blk w g (vmC m) 35) (hsz : n + 1 ≤ 1000) (hbase : base ≤ w.heap.size)
    (h : ∀ A'' c'' w', w'.ownsRow base 35 19 (.slice A'' (n + 1) c'') (n + 1) (flatV (l ++ [m])) → KeepV base w w' → wpList Tryd.prog ops Q rest (a.put o.dst (.slice A'' (n + 1) c'')) w') :
    wpList Tryd.prog ops Q (o :: rest) a w := by
  refine wpList_plain hgd fun K hK => ?_
  obtain ⟨A'', c'', w', hrun, h1, h2, _⟩ := run_append_vm o.type base A n c l hown hn0 g m hm hg hsz hbase
  unfold Oper.wp execOp
  simp only [ho, resolve, invoke, builtin, Sem.run_bind, Sem.run_pure, Result.andThen_ok, List.map_toArray, List.map_cons, List.map_nil, hs, hx, hrun]
  exact hK _ _ (h A'' c'' w' h1 h2)
theorem ownsRow_but {w w' : World} {base e size n g : Nat} {v : Value} {xs : List Value} (h : w.ownsRow base e size v n xs) (hb : But g w w') (hg : g < base) : w'.ownsRow base e size v n xs := by
  refine ⟨h.1, ?_⟩
  rcases h.2 with h0 | ⟨g', cap, cur, hv, hbg, hh, r⟩
  · exact .inl h0
  · exact .inr ⟨g', cap, cur, hv, hbg, (hb.block g' (Array.getElem?_eq_some_iff.1 hh).1 (by omega)).trans hh, r⟩
theorem take_at {L : List VmS} {k : Nat} {s : VmS} (hk : k < L.length) (hs : L.getD k vm0 = s) : L.take (k + 1) = L.take k ++ [s] := by
  rw [List.take_succ_eq_append_getElem hk]
  congr 2
  rw [← hs]
  simp [List.getD, hk]
/-- What the reference's Trace has. -/
structure TR (w V : World) (gm base : Nat) (d : Dat) (s : VmS) (A : Option Addr) (k c : Nat) (l : List VmS) : Prop where
  bel : Below w.heap.size w V
  kd : Blk V w.heap.size (datC d) 32
  km : Blk V gm (vmC s) 35
  row : V.ownsRow base 35 19 (.slice A k c) k (flatV l)
  nil : k = 0 → A = none
  lo : base ≤ V.heap.size
  all : ∀ s ∈ l, s.mem.length = 16
section
variable {w V V' : World} {gm base : Nat} {d : Dat} {s s' : VmS} {A : Option Addr} {k c : Nat} {l : List VmS}
theorem TR.below (h : TR w V gm base d s A k c l) (hb : Below V.heap.size V V') : TR w V' gm base d s A k c l :=
  ⟨h.bel.trans (hb.mono h.bel.size), h.kd.below hb h.kd.lt, h.km.below hb h.km.lt, ownsRow_below h.row hb (Nat.le_refl _), h.nil, Nat.le_trans h.lo hb.size, h.all⟩
end

set_option maxHeartbeats 1000000 in
theorem rtrace_no (A : Option Addr) (m cap : Nat) (f : Nat → Ins) (d : Dat) (w : World) (hA : Ri w w.heap.size A m f) (r1 r2 : Int) (hr : chkI f m = (r1, r2)) (h0 : ¬ r2 = 0) :
    Calls Tryd.prog 19 #[.slice A m cap, datV d] w fun e w' => e = .returned (.tuple #[.slice none 0 0, .int .u32 0, .int .i64 r2]) ∧ Below w.heap.size w w' := by
  have hC := rcheck_any A m cap f _ ((hA.below ((Below.refl _ w).alloc (Nat.le_refl _) (.cells (datC d) 32)) (Nat.le_refl _)).more (by simp))
  rw [hr] at hC
  clear hr
  unfold datV
  go_enter Tryd.func19, Tryd.ntmps19
  go_wp2_with fail
  refine hC.mono ?_
  rintro e w1 ⟨rfl, b1⟩
  go_wp2_with fail
  go_ret3
  exact ⟨rfl, ((Below.refl _ w).alloc (Nat.le_refl _) _).trans (b1.mono (by simp))⟩

set_option maxRecDepth 100000 in
set_option maxHeartbeats 8000000 in
theorem rtrace_ok (A : Option Addr) (m cap : Nat) (f : Nat → Ins) (d : Dat) (hd : DatOk d) (w : World) (hA : Ri w w.heap.size A m f) (hcap : m ≤ cap) (hM : May f m) :
    Calls Tryd.prog 19 #[.slice A m cap, datV d] w fun e w' => ∃ A' c', e = .returned (.tuple #[.slice A' (traV f (dW d) m).length c', .int .u32 (retV f (dW d) m), .int .i64 0]) ∧ (traV f (dW d) m).length ≤ c' ∧ Rm w' w'.heap.size A' (traV f (dW d) m) ∧ Below w.heap.size w w' := by
  have hC := rcheck_any A m cap f _ ((hA.below ((Below.refl _ w).alloc (Nat.le_refl _) (.cells (datC d) 32)) (Nat.le_refl _)).more (by simp))
  rw [chk_may hM] at hC
  have hm64 := hM.hi
  have hio := hA.ok
  have hall := tra_len f (dW d) m
  have ST := Lib.hid (fun s (hs : VmOk s) (hp : s.pc < m) V hV => rstep_any A m cap f d hd s hs V hV hcap hM hp)
  have hget := Lib.hid (fun k s (hs : s.pc < m) h => at_get (d := dW d) (k := k) (s := s) hM hio hs h)
  have hret := Lib.hid (fun k s (hs : s.pc < m) h s2 r hst => at_ret (f := f) (d := dW d) (n := m) (k := k) (s := s) hs h (s2 := s2) (r := r) hst)
  have hgo := Lib.hid (fun k s (hs : s.pc < m) h s2 hst => at_go (d := dW d) (k := k) (s := s) hM hio hs h (s2 := s2) hst)
  generalize retV f (dW d) m = rv at hret ⊢
  generalize traV f (dW d) m = L at hget hret hall ⊢
  unfold datV
  go_enter Tryd.func19, Tryd.ntmps19
  go_wp2_with fail
  refine hC.mono ?_
  rintro e w1 ⟨rfl, b1⟩
  have B1 : Below w.heap.size w w1 := ((Below.refl _ w).alloc (Nat.le_refl _) _).trans (b1.mono (by simp))
  have kd1 := (Blk.new w (datC d) 32).below b1 (by simp)
  clear hC b1
  go_wp2_with (refine wpList_store_blk rfl 35 (.tmp 10) (.tmp 23) rfl w1.heap.size _ _ 35 rfl rfl (Blk.new_ _ _ _ rfl) rfl vm_info19 (by simp [Value.oneCell']) ?_; intro w2 hw2 hn2)
  rw [zer_lit] at hw2
  have bW : Below w1.heap.size w1 w2 := ((Below.refl _ w1).alloc (Nat.le_refl _) _).trans (hn2.below _ (Nat.le_refl _) (by simp))
  have T0 : TR w w2 w1.heap.size (w1.heap.size + 1) d vm0 none 0 0 ([] : List VmS) :=
    ⟨B1.trans (bW.mono B1.size), kd1.below bW kd1.lt, hw2, World.ownsRow_nil _ _ _ _, fun _ => rfl, hw2.lt, by simp⟩
  try simp only [Act.put]
  generalize (Value.agg #[.int .i64 0, .int .u32 0, .int .u32 0, .int .u32 0, .int .u32 0, .int .u32 0, .int .u32 0, .int .u32 0, .int .u32 0, .int .u32 0, .int .u32 0, .int .u32 0, .int .u32 0, .int .u32 0, .int .u32 0, .int .u32 0, .int .u32 0, .int .u32 0, .int .u32 0] : Value) = z23
  obtain ⟨gm, hgm⟩ : ∃ gm, w1.heap.size = gm := ⟨_, rfl⟩
  rw [hgm] at T0 ⊢
  clear hw2 hn2 bW
  have hgw : w.heap.size < gm := by rw [← hgm]; exact kd1.lt
  clear hgm kd1 B1
  go_loopw [9, 11] (fun o i wr => ∃ (k : Nat) (s : VmS) (A' : Option Addr) (c' : Nat), i = .int .i64 k ∧ o = .slice A' k c' ∧ s.pc < m ∧ VmOk s ∧ AtK f (dW d) m k s ∧ TR w wr gm (gm + 1) d s A' k c' (L.take k)) (fun _ i _ => m - (intOf i).toNat)
  case atStart => exact ⟨0, vm0, none, 0, rfl, rfl, hM.lo, vm0_ok, at_zero, T0⟩
  case round =>
    obtain ⟨k, s, A', c', rfl, rfl, hs, hok, hat, hT⟩ := hrel
    obtain ⟨hkn, hLk⟩ := hget.out k s hs hat
    have hkm : (k : Int) < m := by omega
    have hmem := hok.len
    have hfold := build_vm hmem
    have hsz19 : (vmC s).size = 19 := mc_size hmem
    rw [hsz19] at hfold
    have htk := Lib.hid (take_at hkn hLk)
    have T1 := hT.below ((Below.refl wr.heap.size wr).alloc (Nat.le_refl _) (.cells (vmC s) 35))
    have F1 := Blk.new wr (vmC s) 35
    obtain ⟨⟨o, s2⟩, hst⟩ : ∃ t, stepV alI hdI (f s.pc) (dW d) s = t := ⟨_, rfl⟩
    have ok2 : VmOk s2 := step_ok (hio s.pc hs) (fun o => dW_bd d hd o) hok hst
    have CS := ST.out s hok hs
    rw [stepR_eq hst] at CS
    unfold datV vmV at CS
    have HST := Lib.hid hst
    have HLK := Lib.hid hLk
    have HAT := Lib.hid hat
    clear hst hLk hat
    go_wp2_with (first
      | (refine wpList_load_row rfl 35 (.tmp 10) rfl gm rfl 35 (vmC s) (0, 0) _ hT.km.blk Tryd.underlying35 rfl (mc_inf hmem) ?_)
      | (at_builtin
         refine wpList_append_vm rfl (.tmp 30) (.tmp 32) rfl (gm + 1) A' k c' (L.take k) rfl T1.row T1.nil wr.heap.size s hmem rfl F1 (by omega) T1.lo ?_
         intro A2 c2 w3 how hk3
         rw [← htk.out] at how
         have T3 : TR w w3 gm (gm + 1) d s A2 (k + 1) c2 (L.take (k + 1)) := ⟨T1.bel.trans (hk3.1.mono (by omega)), T1.kd.below hk3.1 (by omega), T1.km.below hk3.1 (by omega), how, fun h => by simp at h, Nat.le_trans T1.lo hk3.1.size, by
           rw [htk.out]
           intro x hx
           rcases List.mem_append.1 hx with h | h
           · exact T1.all x h
           · rw [List.mem_singleton] at h; subst h; exact hmem⟩
         clear how hk3 T1 F1 hT)
      | (refine wpList_load_row rfl 32 (.tmp 3) rfl w.heap.size rfl 32 (datC d) (0, 0) _ T3.kd.blk Tryd.underlying32 rfl dat_info ?_)
      | (refine wpList_load_row rfl 35 (.tmp 10) rfl gm rfl 35 (vmC s) (0, 0) _ T3.km.blk Tryd.underlying35 rfl (mc_inf hmem) ?_))
    refine (CS w3 ((hA.below T3.bel (Nat.le_refl _)).more T3.bel.size)).mono ?_
    rintro e w4 ⟨rfl, b4⟩
    have T4 := T3.below b4
    clear b4 T3 CS hfold
    cases o with
    | some r =>
      obtain ⟨hnk, hrv⟩ := hret.out k s hs HAT.out s2 r HST.out
      simp only [wdO, ovO]
      go_wp2_with (refine wpList_store_blk rfl 35 (.tmp 12) (.tmp 39) rfl w4.heap.size _ (vmC s2) 35 rfl rfl (Blk.new_ _ _ _ rfl) (vm_z19 ok2.len) (mc_inf ok2.len) mc_one ?_
                   intro w5 hF5 hn5
                   have b5 : Below w4.heap.size w4 w5 := ((Below.refl _ w4).alloc (Nat.le_refl _) _).trans (hn5.below _ (Nat.le_refl _) (by simp))
                   have T5 := T4.below b5
                   clear hn5 b5 T4)
      go_ret3
      have e1 : L.take (k + 1) = L := List.take_of_length_le (by omega)
      have hrow := T5.row
      have hallm := T5.all
      rw [e1] at hrow hallm
      obtain ⟨h1, h2⟩ := rm_of_own hrow hallm hnk.symm
      exact ⟨A2, c2, by rw [hnk, hrv]; rfl, by omega, h1, T5.bel⟩
    | none =>
      obtain ⟨hat2, hp2⟩ := hgo.out k s hs HAT.out s2 HST.out
      have HA2 := Lib.hid hat2
      clear hat2
      simp only [wdO, ovO]
      go_wp2_with (first
        | (refine wpList_store_blk rfl 35 (.tmp 12) (.tmp 39) rfl w4.heap.size _ (vmC s2) 35 rfl rfl (Blk.new_ _ _ _ rfl) (vm_z19 ok2.len) (mc_inf ok2.len) mc_one ?_
           intro w5 hF5 hn5
           have b5 : Below w4.heap.size w4 w5 := ((Below.refl _ w4).alloc (Nat.le_refl _) _).trans (hn5.below _ (Nat.le_refl _) (by simp))
           have T5 := T4.below b5
           clear hn5 b5 T4)
        | (refine wpList_load_row rfl 35 (.tmp 12) rfl w4.heap.size rfl 35 (vmC s2) (0, 0) _ hF5.blk Tryd.underlying35 rfl (mc_inf ok2.len) ?_)
        | (refine wpList_store_blk rfl 35 (.tmp 10) (.tmp 45) rfl gm _ (vmC s2) 35 rfl rfl T5.km ((mc_size hok.len).trans (mc_size ok2.len).symm) (mc_inf ok2.len) mc_one ?_; intro w9 hF9 hn9))
      have T9 : TR w w9 gm (gm + 1) d s2 A2 (k + 1) c2 (L.take (k + 1)) := ⟨T5.bel.trans (hn9.below _ (by omega) T5.bel.size), But.blk' hn9 T5.kd (by omega), hF9, ownsRow_but T5.row hn9 (by omega), T5.nil, Nat.le_trans T5.lo hn9.size, T5.all⟩
      try simp only [Act.put]
      go_roundw
      case rel => exact ⟨k + 1, s2, A2, c2, by go_num, rfl, hp2, ok2, HA2.out, T9⟩
      case measure => simp [intOf]; omega
end Go.Proofs.YtepkhkfdokinmaaDoor

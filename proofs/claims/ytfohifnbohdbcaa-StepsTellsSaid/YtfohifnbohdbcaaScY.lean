/-
  steps.ready: those who may be picked are told.
-/
import Derived.Test.YtfohifnbohdbcaaScCk
import Derived.Test.YtfohifnbohdbcaaKt
namespace Go.Proofs.Ytfohifnbohdbcaa
open Go.RowKit Go.Shelf
attribute [local go_sem] Oper.semAt_some
set_option linter.unusedVariables false
set_option linter.unusedSimpArgs false

/-- Those who are ready. -/
def rdyF (R : List Rn) : List Int := (R.filter fun x => x.s == 0).map (·.i)
theorem rdyF_take {R : List Rn} {k : Nat} (hk : k < R.length) : rdyF (R.take (k + 1)) = rdyF (R.take k) ++ if ((R.getD k rn0).s == 0) = true then [(R.getD k rn0).i] else [] := by
  rw [List.take_succ_eq_append_getElem hk, show R.getD k rn0 = R[k] by simp [List.getD, hk]]
  unfold rdyF
  rw [List.filter_append, List.map_append, List.filter_cons]
  cases (R[k].s == 0) <;> simp
theorem rdyF_pre {R : List Rn} (k : Nat) : rdyF (R.take k) <+: rdyF R := by
  unfold rdyF
  exact ((List.take_prefix k R).filter _).map _
theorem rdyF_len (R : List Rn) : (rdyF R).length ≤ R.length := by
  unfold rdyF
  rw [List.length_map]
  exact List.length_filter_le _ _
theorem skip_wideS {n : Nat} {P : Program} {ops : Array Oper} {Q : Exit → Act → World → Prop} {a : Act} {w : World} {rest : List Oper} {o : Oper} (hw : Region.wanted o (yielded ops a.tmps) = false)
    (h : wpListIn Fence.wide n P ops Q rest (a.put o.dst undef) w) : wpListIn Fence.wide n P ops Q (o :: rest) a w := by
  unfold wpListIn
  rw [hw]
  exact ⟨fun _ _ => trivial, h⟩
theorem ready_any (A : Option Addr) (m c : Nat) (A2 : Option Addr) (m2 c2 : Nat) (w : World) :
    Calls Try.prog 62 #[scV A m c A2 m2 c2] w fun e w' => e = .returned (.func (.func 83) #[] #[.pointer (some ⟨w.heap.size, 0, none⟩)]) ∧ w' = w.alloc (.cells (scC A m c A2 m2 c2) 25) := by
  unfold scV scC
  go_enter Try.func62, Try.ntmps62
  go_wp2
  go_ret
  exact ⟨rfl, rfl⟩
set_option maxRecDepth 100000 in
set_option maxHeartbeats 4000000 in
/-- They are told, one by one. -/
theorem ready_seq (n : Nat) (hn : 1 ≤ n) (n₀ g : Nat) (A : Option Addr) (m c : Nat) (R : List Rn) (A2 : Option Addr) (m2 c2 : Nat) (w : World) (hP : RsR w n₀ A R) (hg : Blk w g (scC A m c A2 m2 c2) 25) (hm : m = R.length) (h6 : m ≤ 1000000) (hgn : n₀ ≤ g) (hgw : g < w.heap.size) :
    SeqStopsK Fence.wide n Try.prog 83 #[.pointer (some ⟨g, 0, none⟩)] (fun x : Int => #[.int .i64 x]) (Kt n₀ g) (fun xs => xs = rdyF R) (fun pre => pre <+: rdyF R) (rdyF R).length w := by
  intro lp J Jx W hW hJ hJx hY h0
  have HM := Lib.hid hm
  clear hm
  have gW : Blk W g (scC A m c A2 m2 c2) 25 := hg.below hW hgw
  have PW := hP.below hW (by omega)
  have hgW : g < W.heap.size := gW.lt
  have hc0 : W.cell? ⟨g, 0, none⟩ = some (.slice A m c) := gW.cell 0
  refine callsIn_of_wp Try.func83 rfl trivial ?_ rfl
  simp only [Try.ntmps83, List.size_toArray, List.length_cons, List.length_nil, Nat.reduceAdd, Nat.reduceSub, Array.replicate_succ, Array.replicate_zero, List.push_toArray, List.append_toArray, List.nil_append, List.cons_append]
  gi_wp2
  clear hc0
  gi_loopw [8] (fun i wr => ∃ (k : Nat) (pre : List Int), k ≤ m ∧ i = .int .i64 k ∧ pre = rdyF (R.take k) ∧ J pre wr ∧ Kt n₀ g W wr) (fun i _ => m - (intOf i).toNat)
  case atStart => exact ⟨0, [], Nat.zero_le _, rfl, rfl, h0, Kt.refl _ _ _⟩
  case round =>
    obtain ⟨k, pre, hk, rfl, hpm, hJs, hB⟩ := hrel
    have HP := Lib.hid hpm
    clear hpm
    by_cases hlt : k < m
    · have hlt' : (k : Int) < m := by omega
      have hkl : k < R.length := by have := HM.out; omega
      obtain ⟨b, off, rfl, hb, hc⟩ := PW k hkl
      have hcr := range_below3 hc hB.b hb
      have hgr : g < wr.heap.size := Nat.lt_of_lt_of_le hgW hB.b.size
      have HTK := Lib.hid (rdyF_take hkl)
      have HPR := Lib.hid (rdyF_pre (R := R) (k + 1))
      clear hkl
      generalize R.getD k rn0 = x at hcr HTK hc
      have hs3 : (rnC x).size = 3 := rn_size x
      cases hx : (x.s == 0)
      · have HT2 := Lib.hid (show rdyF (R.take (k + 1)) = rdyF (R.take k) by rw [HTK.out, hx, if_neg (by simp), List.append_nil])
        gi_wp2_with (first
          | (refine wpListIn_load_midT rfl 52 (.tmp 10) rfl b (off + k * 3) rfl (rnC x).toList _ hcr Try.underlying52 rfl (rn_infL x) ?_)
          | (refine wpListIn_store_blk rfl 52 (.tmp 4) (.tmp 11) rfl wr.heap.size (rnC rn0) (rnC x) 52 rfl rfl (Blk.new _ _ _) rfl (rn_inf x) (rn_one x) ?_
             intro w1 hw1 hn1
             have b1 : Below wr.heap.size wr w1 := ((Below.refl _ wr).alloc (Nat.le_refl _) _).trans (hn1.below _ (Nat.le_refl _) (by simp))
             have hJ1 := hJ pre wr w1 none hJs (grown_of_belowT b1) (fun r e => by cases e)
             have hB1 : Kt n₀ g W w1 := hB.trans (Kt.below b1 (by omega) hgr)
             have q2 : w1.cell? ⟨wr.heap.size, 1, none⟩ = some (.int .i64 x.s) := hw1.cell 1
             clear hJs hn1)
          | (refine skip_wideS rfl ?_))
        exact ⟨⟨k + 1, pre, by omega, by go_num, by rw [HT2.out, HP.out], hJ1, hB1⟩, by simp [intOf]; omega⟩
      · have HT2 := Lib.hid (show rdyF (R.take (k + 1)) = rdyF (R.take k) ++ [x.i] by rw [HTK.out, hx, if_pos rfl])
        have hlen : pre.length < (rdyF R).length := by
          have h1 := HPR.out.length_le
          rw [HT2.out, ← HP.out, List.length_append] at h1
          simp at h1
          omega
        gi_wp2_with (first
          | (refine wpListIn_load_midT rfl 52 (.tmp 10) rfl b (off + k * 3) rfl (rnC x).toList _ hcr Try.underlying52 rfl (rn_infL x) ?_)
          | (refine wpListIn_store_blk rfl 52 (.tmp 4) (.tmp 11) rfl wr.heap.size (rnC rn0) (rnC x) 52 rfl rfl (Blk.new _ _ _) rfl (rn_inf x) (rn_one x) ?_
             intro w1 hw1 hn1
             have b1 : Below wr.heap.size wr w1 := ((Below.refl _ wr).alloc (Nat.le_refl _) _).trans (hn1.below _ (Nat.le_refl _) (by simp))
             have hJ1 := hJ pre wr w1 none hJs (grown_of_belowT b1) (fun r e => by cases e)
             have hB1 : Kt n₀ g W w1 := hB.trans (Kt.below b1 (by omega) hgr)
             have q2 : w1.cell? ⟨wr.heap.size, 1, none⟩ = some (.int .i64 x.s) := hw1.cell 1
             have q3 : w1.cell? ⟨wr.heap.size, 0, none⟩ = some (.int .i64 x.i) := hw1.cell 0
             obtain ⟨fn, tmps, assign, body, hy, hRd⟩ := hY pre x.i w1 hJ1 hlen
             clear hJs hn1))
        have hmap : pre ++ [x.i] = rdyF (R.take (k + 1)) := by rw [HT2.out, HP.out]
        have HMP := Lib.hid hmap
        clear hmap
        refine hRd.mono ?_
        rintro e W3 h3
        rcases h3 with ⟨rfl, hJ3, hb3⟩ | ⟨rfl, hJx3⟩
        · gi_wp2
          exact ⟨⟨k + 1, pre ++ [x.i], by omega, by go_num, HMP.out, hJ3, hB1.trans hb3⟩, by simp [intOf]; omega⟩
        · gi_wp2
          refine bodyPost_ret (results_none rfl _ _ _) rfl ?_
          exact ⟨⟨_, rfl⟩, .inr ⟨_, by rw [HMP.out]; exact HPR.out, hJx3⟩⟩
    · obtain rfl : k = m := by omega
      gi_wp2
      go_end0
      refine ⟨⟨_, rfl⟩, .inl ⟨pre, ?_, hJs⟩⟩
      rw [HP.out, HM.out, List.take_length]
end Go.Proofs.Ytfohifnbohdbcaa

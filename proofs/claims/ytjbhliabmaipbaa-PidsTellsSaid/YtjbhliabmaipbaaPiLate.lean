/-
  The walk of PidsLate.
-/
import Derived.Test.YtjbhliabmaipbaaPiO
import Derived.Test.YtjbhliabmaipbaaPiL
namespace Go.Proofs.Ytjbhliabmaipbaa
open Go.RowKit Go.Shelf
set_option linter.unusedVariables false
set_option linter.unusedSimpArgs false

theorem zo_apart {w : World} {base m c g : Nat} {A : Option Addr} {l : List Int} (h : Zo w base A m c l) (hg : g < base) : some g ≠ (Value.slice A m c).ownBlock := fun e => by have := (h.lt _ e.symm).1; omega
theorem new_blk {w w' : World} {cs : Array Value} {t : TypeId} (n : But w.heap.size (w.alloc (.cells cs t)) w') : Below w.heap.size w w' := ((Below.refl _ w).alloc (Nat.le_refl _) _).trans (n.below _ (Nat.le_refl _) (by simp))
theorem tup3 {a c d a' c' d' : Int} {l l' : List Int} (h : (a, l, c, d) = (a', l', c', d')) : a = a' ∧ l = l' ∧ c = c' ∧ d = d' := by
  injection h with h1 h2; injection h2 with h2 h3; injection h3 with h3 h4; exact ⟨h1, h2, h3, h4⟩
theorem tup2 {a d a' d' : Int} {l l' : List Int} (h : (a, l, d) = (a', l', d')) : a = a' ∧ l = l' ∧ d = d' := by
  injection h with h1 h2; injection h2 with h2 h3; exact ⟨h1, h2, h3⟩
theorem take_some {a : Int} {l : List Int} {i : Nat} (h : Ids a l) (hn : nextP a.toNat l = some i) : takeV a l = (((cand a.toNat i : Nat) : Int), insP l ((cand a.toNat i : Nat) : Int), ((cand a.toNat i : Nat) : Int), 0) := by
  unfold takeV
  rw [if_pos (ids_iff.2 h), hn]
theorem take_full {a : Int} {l : List Int} (h : Ids a l) (hl : l.length = 20) : takeV a l = (0, [], 0, 24) := by
  unfold takeV
  rw [if_pos (ids_iff.2 h), h.none_iff.2 hl]
theorem free_yes {a : Int} {l : List Int} {x : Int} (h : Ids a l) (hx : x ∈ l) : freeV a l x = (a, delP l x, 0) := by
  unfold freeV
  rw [if_pos (ids_iff.2 h), if_pos (by simpa using hx)]
/-- The laws' beginning is walked: what is left of the ids in memory of their own. -/
def cntI (w : World) (B : Nat) (W : World) (cur : Int) (A : Option Addr) (m c : Nat) (L : List Int) : Prop :=
  Blk W w.heap.size (pdC cur A m c) 24 ∧ Zo W B A m c L ∧ Below w.heap.size w W ∧ B ≤ W.heap.size
theorem free_none {a : Int} {l : List Int} {x : Int} (h : Ids a l) (hx : x ∉ l) : freeV a l x = (0, [], 4) := by
  unfold freeV
  rw [if_pos (ids_iff.2 h), if_neg (by simpa using hx)]
set_option maxRecDepth 100000 in
set_option maxHeartbeats 8000000 in
theorem late_law (a : Int) (A : Option Addr) (m c : Nat) (l : List Int) (w : World) (hA : Ri7 w w.heap.size A l) (hm : m = l.length) (hmc : m ≤ c) :
    Calls Try.prog 6 #[pdV a A m c] w fun e w' => e = .returned (.bool true) ∧ Below w.heap.size w w' := by
  have k0 := Blk.new w (pdC a A m c) 24
  have B0 := (Below.refl w.heap.size w).alloc (Nat.le_refl _) (.cells (pdC a A m c) 24)
  have HM := Lib.hid hm
  clear hm
  unfold pdV
  go_enter Try.func6, Try.ntmps6
  go_wp2_with fail
  refine (wakes_pid _).mono ?_
  rintro e w1 ⟨rfl, bb⟩
  have k1 := k0.below bb k0.lt
  have b1 := B0.trans (bb.mono B0.size)
  clear bb k0 B0
  go_wp2_with (refine wpList_load_row rfl 24 (.tmp 1) rfl w.heap.size rfl 24 (pdC a A m c) (0, 0) _ k1.blk Try.underlying24 rfl (pd_inf _ _ _ _) ?_)
  refine (short_pid a A m c l w1 ((hA.below b1 (Nat.le_refl _)).more b1.size) HM.out hmc).mono ?_
  rintro e w2 ⟨A1, m1, c1, rfl, z2, bb⟩
  have k2 := k1.below bb k1.lt
  have b2 := b1.trans (bb.mono b1.size)
  have hs1 : w.heap.size < w1.heap.size := k1.lt
  clear bb k1 b1
  have hl1 : (l.take 22).length ≤ 22 := by rw [List.length_take]; omega
  generalize l.take 22 = l1 at z2 hl1
  have HM1 := Lib.hid z2.len
  have HL1 := Lib.hid hl1
  clear hl1
  unfold pdV
  go_wp2_with (first
    | (refine wpList_store_blk rfl 24 (.tmp 1) (.tmp 13) rfl w.heap.size (pdC a A m c) (pdC a A1 m1 c1) 24 rfl rfl k2 rfl (pd_inf _ _ _ _) (pd_one _ _ _ _) ?_
       intro w3 k3 n3
       have b3 : Below w.heap.size w w3 := b2.trans (n3.below _ (Nat.le_refl _) b2.size)
       have z3 := own_but z2 n3 (zo_apart z2 hs1)
       clear n3)
    | (refine wpList_load_row rfl 24 (.tmp 1) rfl w.heap.size rfl 24 (pdC a A1 m1 c1) (0, 0) _ k3.blk Try.underlying24 rfl (pd_inf _ _ _ _) ?_))
  have ch := pcheck_pid a A1 m1 c1 l1 w3 z3.ri HM1.out (by have := HM1.out; have := HL1.out; omega)
  obtain ⟨ck, hck⟩ : ∃ ck, pidE a l1 = ck := ⟨_, rfl⟩
  have hck2 := pidE_or a l1
  rw [hck] at ch hck2
  have HC := Lib.hid hck
  clear hck
  unfold pdV at ch
  refine ch.mono ?_
  rintro e w4 ⟨rfl, bb⟩
  have k4 := k3.below bb k3.lt
  have z4 := z3.below bb (Nat.le_refl _)
  have b4 := b3.trans (bb.mono b3.size)
  clear bb k3 z3 b3 z2 k2 b2 ch
  rcases hck2 with rfl | rfl
  · have hI : Ids a l1 := ids_iff.1 HC.out
    have q1 : w4.cell? ⟨w.heap.size, 1, none⟩ = some (.slice A1 m1 c1) := k4.cell 1
    cases h20 : ((m1 : Int) == 20)
    · have hlt : l1.length < 20 := by
        have := hI.len
        have := HM1.out
        simp at h20
        omega
      have HLT := Lib.hid hlt
      clear hlt
      go_wp2_with (refine wpList_load_row rfl 24 (.tmp 1) rfl w.heap.size rfl 24 (pdC a A1 m1 c1) (0, 0) _ k4.blk Try.underlying24 rfl (pd_inf _ _ _ _) ?_)
      obtain ⟨i, hi⟩ : ∃ i, nextP a.toNat l1 = some i := by
        cases hn : nextP a.toNat l1 with
        | none => have := hI.none_iff.1 hn; have := HLT.out; omega
        | some i => exact ⟨i, rfl⟩
      have tk := take_pid a A1 m1 c1 l1 w4 z4.ri HM1.out (by have := HM1.out; have := HL1.out; omega)
      rw [take_some hI hi] at tk
      have hI2 := hI.taken hi
      have hx := (nextP_some hi).2.1
      have hcl := cand_le a.toNat i
      generalize cand a.toNat i = id at tk hI2 hx hcl
      have hfr := free_yes hI2 (mem_insP.2 (.inl rfl))
      rw [ins_del hI.up hx] at hfr
      have hI3 : Ids (id : Int) l1 := ⟨hI2.a0, hI2.a1, hI.up, hI.m⟩
      have HLB := Lib.hid (late_begin hI3 hx)
      have HFR := Lib.hid hfr
      have HCL := Lib.hid hcl
      have hlen2 := len_insP l1 ((id : Nat) : Int)
      have HLN2 := Lib.hid hlen2
      clear hfr hcl hlen2 hI2 hx hI3 hi
      unfold pdV at tk
      refine tk.mono ?_
      rintro e w5 ⟨A2, m2, c2, a2, l2, i2, e2, rfl, z5, ht, bb⟩
      obtain ⟨rfl, rfl, rfl, rfl⟩ := tup3 ht
      have k5 := k4.below bb k4.lt
      have z15 := z4.below bb (Nat.le_refl _)
      have b5 := b4.trans (bb.mono b4.size)
      have hs5 : w.heap.size < w5.heap.size := k5.lt
      clear ht tk bb k4 z4 b4 q1
      have HM2 := Lib.hid z5.len
      go_wp2_with (first
        | (refine wpList_store_blk rfl 24 (.tmp 3) (.tmp 26) rfl w5.heap.size (pdC 0 none 0 0) (pdC id A2 m2 c2) 24 rfl rfl (Blk.new _ _ _) rfl (pd_inf _ _ _ _) (pd_one _ _ _ _) ?_
           intro w6 k6 n6
           have bb : Below w5.heap.size w5 w6 := new_blk n6
           have k16 := k5.below bb k5.lt
           have z6 := z5.below bb (Nat.le_refl _)
           have z16 := z15.below bb (Nat.le_refl _)
           have b6 := b5.trans (bb.mono b5.size)
           clear bb n6)
        | (refine wpList_load_row rfl 24 (.tmp 3) rfl w5.heap.size rfl 24 (pdC id A2 m2 c2) (0, 0) _ k6.blk Try.underlying24 rfl (pd_inf _ _ _ _) ?_))
      have fr := free_pid id A2 m2 c2 (insP l1 (id : Int)) id w6 z6.ri HM2.out (by have := HM2.out; have := HLN2.out; have := HL1.out; omega)
      rw [HFR.out] at fr
      unfold pdV at fr
      refine fr.mono ?_
      rintro e w7 ⟨A3, m3, c3, a3, l3, e3, rfl, z7, ht, bb⟩
      obtain ⟨rfl, rfl, rfl⟩ := tup2 ht
      have k7 := k6.below bb k6.lt
      have k17 := k16.below bb k16.lt
      have z17 := z16.below bb (Nat.le_refl _)
      have b7 := b6.trans (bb.mono b6.size)
      have hs7 : w5.heap.size < w6.heap.size := k6.lt
      have hs67 : w6.heap.size ≤ w7.heap.size := bb.size
      clear ht fr bb k6 k16 z6 z16 b6 z5 z15 k5 b5 HFR
      have q1 : w7.cell? ⟨w.heap.size, 1, none⟩ = some (.slice A1 m1 c1) := k17.cell 1
      go_wp2_with (first
        | (refine wpList_store_blk rfl 24 (.tmp 3) (.tmp 35) rfl w5.heap.size (pdC id A2 m2 c2) (pdC id A3 m3 c3) 24 rfl rfl k7 rfl (pd_inf _ _ _ _) (pd_one _ _ _ _) ?_
           intro w8 k8 n8
           have k18 : Blk w8 w.heap.size (pdC a A1 m1 c1) 24 := n8.blk7 k17 (by omega)
           have q8 : w8.cell? ⟨w.heap.size, 1, none⟩ = some (.slice A1 m1 c1) := k18.cell 1
           have z8 := own_but z7 n8 (zo_apart z7 hs7)
           have hs8 : w6.heap.size ≤ w8.heap.size := Nat.le_trans hs67 n8.size
           have b8 : Below w.heap.size w w8 := b7.trans (n8.below _ (by omega) b7.size)
           clear n8))
      have HG := Lib.hid (show w5.heap.size < w6.heap.size from hs7)
      clear k7 k17 z17 b7 z7
      go_loopw [6] (fun kv wr' => ∃ (k : Nat) (wr : World) (cur : Int) (A5 : Option Addr) (m5 c5 : Nat) (L : List Int), wr = wr' ∧ k ≤ 20 ∧ kv = .int .i64 k ∧ Blk wr w5.heap.size (pdC cur A5 m5 c5) 24 ∧ Zo wr w6.heap.size A5 m5 c5 L ∧ Hid (lateP id cur L) ∧ Hid (L.length = k) ∧ Below w.heap.size w wr ∧ w6.heap.size ≤ wr.heap.size) (fun kv _ => 20 - (intOf kv).toNat)
      case atStart => exact ⟨m1, _, _, A3, m3, c3, _, rfl, by have := HM1.out; have := HLT.out; omega, rfl, k8, z8, HLB, Lib.hid HM1.out.symm, b8, hs8⟩
      case round =>
        clear k8 z8 b8 k18 q8 q1
        obtain ⟨k, wr, cur, A5, m5, c5, L, hwr, hk, rfl, kb, zb, HLP, HLL, hB, hsr⟩ := hrel
        subst hwr
        have HM5 := Lib.hid zb.len
        by_cases hlt : k < 20
        · have hlt' : (k : Int) < 20 := by omega
          obtain ⟨i, hi, heq, hnx⟩ := late_step HCL.out.1 HCL.out.2 HLP.out (by rw [HLL.out]; exact hlt)
          have tk := take_pid cur A5 m5 c5 L wr zb.ri HM5.out (by have := HM5.out; have := HLL.out; omega)
          rw [take_some HLP.out.1 hi] at tk
          rw [HLL.out] at heq
          have hln := len_insP L ((cand cur.toNat i : Nat) : Int)
          rw [HLL.out] at hln
          generalize ((cand cur.toNat i : Nat) : Int) = x at tk heq hnx hln
          have HNX := Lib.hid hnx
          have HLN := Lib.hid hln
          have HEQ := Lib.hid heq
          generalize hL' : insP L x = L' at tk HNX HLN
          have HLI := Lib.hid hL'
          clear hnx hln hi hL' heq
          unfold pdV at tk
          go_wp2_with (refine wpList_load_row rfl 24 (.tmp 3) rfl w5.heap.size rfl 24 (pdC cur A5 m5 c5) (0, 0) _ kb.blk Try.underlying24 rfl (pd_inf _ _ _ _) ?_)
          refine tk.mono ?_
          rintro e V1 ⟨A6, m6, c6, a6, l6, i6, e6, rfl, z6', ht, bb⟩
          obtain ⟨rfl, rfl, rfl, rfl⟩ := tup3 ht
          have kb1 := kb.below bb kb.lt
          have hB1 := hB.trans (bb.mono hB.size)
          have hs9 : w6.heap.size ≤ V1.heap.size := Nat.le_trans hsr bb.size
          have hs6w : w6.heap.size ≤ wr.heap.size := hsr
          clear ht tk bb kb zb hB hsr
          cases hxb : (x == (id : Int))
          · have hk19 : ((k : Int) == 19) = false := by rw [← HEQ.out]; exact hxb
            go_wp2_with (first
              | (refine wpList_store_blk rfl 24 (.tmp 7) (.tmp 49) rfl V1.heap.size (pdC 0 none 0 0) (pdC x A6 m6 c6) 24 rfl rfl (Blk.new _ _ _) rfl (pd_inf _ _ _ _) (pd_one _ _ _ _) ?_
                 intro V2 k2 n2
                 have bb : Below V1.heap.size V1 V2 := new_blk n2
                 have kb2 := kb1.below bb kb1.lt
                 have z2 := z6'.below bb (Nat.le_refl _)
                 have hB2 := hB1.trans (bb.mono hB1.size)
                 have hs2 := bb.size
                 clear bb n2)
              | (refine wpList_load_row rfl 24 (.tmp 7) rfl V1.heap.size rfl 24 (pdC x A6 m6 c6) (0, 0) _ k2.blk Try.underlying24 rfl (pd_inf _ _ _ _) ?_)
              | (refine wpList_store_blk rfl 24 (.tmp 3) (.tmp 62) rfl w5.heap.size (pdC cur A5 m5 c5) (pdC x A6 m6 c6) 24 rfl rfl kb2 rfl (pd_inf _ _ _ _) (pd_one _ _ _ _) ?_
                 intro V3 k3 n3
                 have z3 := own_but z2 n3 (zo_apart z2 (by have := HG.out; omega))
                 have hB3 : Below w.heap.size w V3 := hB2.trans (n3.below _ (by omega) hB2.size)
                 have hs3 : w6.heap.size ≤ V3.heap.size := Nat.le_trans (Nat.le_trans hs9 hs2) n3.size
                 clear n3))
            go_roundw
            case rel => exact ⟨k + 1, _, x, A6, m6, c6, L', rfl, by omega, by go_num, k3, z3.down hs6w, HNX, Lib.hid HLN.out, hB3, hs3⟩
            case measure => simp [intOf]; omega
          · have hk19 : ((k : Int) == 19) = true := by rw [← HEQ.out]; exact hxb
            go_wp2_with (first
              | (refine wpList_store_blk rfl 24 (.tmp 7) (.tmp 49) rfl V1.heap.size (pdC 0 none 0 0) (pdC x A6 m6 c6) 24 rfl rfl (Blk.new _ _ _) rfl (pd_inf _ _ _ _) (pd_one _ _ _ _) ?_
                 intro V2 k2 n2
                 have bb : Below V1.heap.size V1 V2 := new_blk n2
                 have kb2 := kb1.below bb kb1.lt
                 have z2 := z6'.below bb (Nat.le_refl _)
                 have hB2 := hB1.trans (bb.mono hB1.size)
                 have hs2 := bb.size
                 clear bb n2)
              | (refine wpList_load_row rfl 24 (.tmp 7) rfl V1.heap.size rfl 24 (pdC x A6 m6 c6) (0, 0) _ k2.blk Try.underlying24 rfl (pd_inf _ _ _ _) ?_)
              | (refine wpList_store_blk rfl 24 (.tmp 3) (.tmp 62) rfl w5.heap.size (pdC cur A5 m5 c5) (pdC x A6 m6 c6) 24 rfl rfl kb2 rfl (pd_inf _ _ _ _) (pd_one _ _ _ _) ?_
                 intro V3 k3 n3
                 have z3 := own_but z2 n3 (zo_apart z2 (by have := HG.out; omega))
                 have hB3 : Below w.heap.size w V3 := hB2.trans (n3.below _ (by omega) hB2.size)
                 have hs3 : w6.heap.size ≤ V3.heap.size := Nat.le_trans (Nat.le_trans hs9 hs2) n3.size
                 clear n3))
            go_roundw
            case rel => exact ⟨k + 1, _, x, A6, m6, c6, L', rfl, by omega, by go_num, k3, z3.down hs6w, HNX, Lib.hid HLN.out, hB3, hs3⟩
            case measure => simp [intOf]; omega
        · obtain rfl : k = 20 := by omega
          have tk := take_pid cur A5 m5 c5 L wr zb.ri HM5.out (by have := HM5.out; have := HLL.out; omega)
          rw [take_full HLP.out.1 HLL.out] at tk
          unfold pdV at tk
          go_wp2_with (refine wpList_load_row rfl 24 (.tmp 3) rfl w5.heap.size rfl 24 (pdC cur A5 m5 c5) (0, 0) _ kb.blk Try.underlying24 rfl (pd_inf _ _ _ _) ?_)
          refine tk.mono ?_
          rintro e V1 ⟨A6, m6, c6, a6, l6, i6, e6, rfl, z6', ht, bb⟩
          obtain ⟨rfl, rfl, rfl, rfl⟩ := tup3 ht
          go_wp2_with fail
          go_ret
          exact ⟨rfl, hB.trans (bb.mono hB.size)⟩
    · go_wp2_with fail
      go_ret
      exact ⟨rfl, b4⟩
  · go_wp2_with fail
    go_ret
    exact ⟨rfl, b4⟩
end Go.Proofs.Ytjbhliabmaipbaa

/-
  The walk of PidsCounts.
-/
import Derived.Test.YtjbhliabmaipbaaPiLate
namespace Go.Proofs.Ytjbhliabmaipbaa
open Go.RowKit Go.Shelf
set_option linter.unusedVariables false
set_option linter.unusedSimpArgs false

/-- The laws' beginning is walked: what is left of the ids in memory of their own. -/
def cntI (w : World) (B : Nat) (W : World) (cur : Int) (A : Option Addr) (m c : Nat) (L : List Int) : Prop :=
  Blk W w.heap.size (pdC cur A m c) 24 ∧ Zo W B A m c L ∧ Below w.heap.size w W ∧ B ≤ W.heap.size
theorem free_none {a : Int} {l : List Int} {x : Int} (h : Ids a l) (hx : x ∉ l) : freeV a l x = (0, [], 4) := by
  unfold freeV
  rw [if_pos (ids_iff.2 h), if_neg (by simpa using hx)]
set_option maxRecDepth 100000 in
set_option maxHeartbeats 16000000 in
theorem counts_law (a : Int) (A : Option Addr) (m c : Nat) (l : List Int) (A0 : Option Addr) (m0 c0 : Nat) (os : List Int) (w : World) (hA : Ri7 w w.heap.size A l) (hm : m = l.length) (hmc : m ≤ c) (hA0 : Ri7 w w.heap.size A0 os) (hm0 : m0 = os.length) (h63 : m0 ≤ 9223372036854775807) :
    Calls Try.prog 5 #[pdV a A m c, .slice A0 m0 c0] w fun e w' => e = .returned (.bool true) ∧ Below w.heap.size w w' := by
  have k0 := Blk.new w (pdC a A m c) 24
  have B0 := (Below.refl w.heap.size w).alloc (Nat.le_refl _) (.cells (pdC a A m c) 24)
  have HM := Lib.hid hm
  have HM0 := Lib.hid hm0
  clear hm hm0
  unfold pdV
  go_enter Try.func5, Try.ntmps5
  go_wp2_with fail
  refine (wakes_pid _).mono ?_
  rintro e w1 ⟨rfl, bb⟩
  have k1 := k0.below bb k0.lt
  have b1 := B0.trans (bb.mono B0.size)
  clear bb k0 B0
  go_wp2_with (refine wpList_load_row rfl 24 (.tmp 2) rfl w.heap.size rfl 24 (pdC a A m c) (0, 0) _ k1.blk Try.underlying24 rfl (pd_inf _ _ _ _) ?_)
  refine (short_pid a A m c l w1 ((hA.below b1 (Nat.le_refl _)).more b1.size) HM.out hmc).mono ?_
  rintro e w2 ⟨A1, m1, c1, rfl, z2, bb⟩
  have k2 := k1.below bb k1.lt
  have b2 := b1.trans (bb.mono b1.size)
  have hs1 : w.heap.size < w1.heap.size := k1.lt
  have hs2 : w1.heap.size ≤ w2.heap.size := bb.size
  clear bb k1 b1
  have hl1 : (l.take 22).length ≤ 22 := by rw [List.length_take]; omega
  generalize l.take 22 = l1 at z2 hl1
  have HM1 := Lib.hid z2.len
  have HL1 := Lib.hid hl1
  clear hl1
  unfold pdV
  go_wp2_with (first
    | (refine wpList_store_blk rfl 24 (.tmp 2) (.tmp 16) rfl w.heap.size (pdC a A m c) (pdC a A1 m1 c1) 24 rfl rfl k2 rfl (pd_inf _ _ _ _) (pd_one _ _ _ _) ?_
       intro w3 k3 n3
       have b3 : Below w.heap.size w w3 := b2.trans (n3.below _ (Nat.le_refl _) b2.size)
       have z3 := own_but z2 n3 (zo_apart z2 hs1)
       have hs3 : w1.heap.size ≤ w3.heap.size := Nat.le_trans hs2 n3.size
       clear n3)
    | (refine wpList_load_row rfl 24 (.tmp 2) rfl w.heap.size rfl 24 (pdC a A1 m1 c1) (0, 0) _ k3.blk Try.underlying24 rfl (pd_inf _ _ _ _) ?_))
  have ch := pcheck_pid a A1 m1 c1 l1 w3 z3.ri HM1.out (by have := HM1.out; have := HL1.out; omega)
  obtain ⟨ck, hck⟩ : ∃ ck, pidE a l1 = ck := ⟨_, rfl⟩
  have hck2 := pidE_or a l1
  rw [hck] at ch hck2
  have HC := Lib.hid hck
  clear hck
  unfold pdV at ch
  refine ch.mono ?_
  rintro e w4 ⟨rfl, bb⟩
  have k4 := k3.below bb k3.lt
  have z4 := z3.below bb (Nat.le_refl _)
  have b4 := b3.trans (bb.mono b3.size)
  have hs4 : w1.heap.size ≤ w4.heap.size := Nat.le_trans hs3 bb.size
  clear bb k3 z3 b3 z2 k2 b2 ch
  rcases hck2 with rfl | rfl
  · have HI := Lib.hid (ids_iff.1 HC.out)
    have HG := Lib.hid hs1
    clear hs1 hs2 hs3
    go_wp2_with fail
    go_loopw [22] (fun kv wr' => ∃ (k : Nat) (wr : World) (cur : Int) (A5 : Option Addr) (m5 c5 : Nat) (L : List Int), wr = wr' ∧ k ≤ m0 ∧ kv = .int .i64 k ∧ Hid (cntI w w1.heap.size wr cur A5 m5 c5 L) ∧ Hid (Ids cur L)) (fun kv _ => m0 - (intOf kv).toNat)
    case atStart => exact ⟨0, _, _, A1, m1, c1, _, rfl, Nat.zero_le _, rfl, Lib.hid ⟨k4, z4, b4, hs4⟩, HI⟩
    case round =>
      clear k4 z4 b4 hs4
      obtain ⟨k, wr, cur, A5, m5, c5, L, hwr, hk, rfl, HCI, HID⟩ := hrel
      subst hwr
      obtain ⟨kb, zb, hB, hsr⟩ := HCI.out
      have HM5 := Lib.hid zb.len
      have hm20 : m5 ≤ 20 := by rw [HM5.out]; exact HID.out.len
      have HM20 := Lib.hid hm20
      clear hm20 HCI
      by_cases hlt : k < m0
      · have hlt' : (k : Int) < (m0 : Int) := by omega
        have hkl : k < os.length := by have := HM0.out; omega
        obtain ⟨b, off, rfl, hb, hc⟩ := hA0.below hB (Nat.le_refl _) k hkl
        generalize os.getD k 0 = o at hc
        clear hkl
        cases h60 : ((k : Int) == 60)
        · have q1 : wr.cell? ⟨w.heap.size, 1, none⟩ = some (.slice A5 m5 c5) := kb.cell 1
          cases ho : (o == 0)
          · have fr := free_pid cur A5 m5 c5 L o wr zb.ri HM5.out (by have := HM20.out; omega)
            unfold pdV at fr
            by_cases hin : o ∈ L
            · rw [free_yes HID.out hin] at fr
              have hcn : L.contains o = true := by simpa using hin
              have HCN := Lib.hid hcn
              have hI2 := HID.out.freed hin
              have hln := len_delP hin
              have hnin : (delP L o).contains o = false := by
                have := mt (mem_delP HID.out.up hin (y := o)).1 (fun h => h.2 rfl)
                simpa using this
              generalize delP L o = L' at fr hI2 hln hnin
              have HI2 := Lib.hid hI2
              have HLN := Lib.hid hln
              have HNI := Lib.hid hnin
              clear hin hcn hI2 hln hnin
              go_wp2_with (refine wpListG_load (by rfl) 24 (.tmp 2) rfl w.heap.size rfl 24 (pdC cur A5 m5 c5) _ kb Try.underlying24 rfl (pd_inf _ _ _ _) ?_)
              refine fr.mono ?_
              rintro e V1 ⟨A6, m6, c6, a6, l6, e6, rfl, z6, ht, bb⟩
              obtain ⟨e1, e2, e3⟩ := tup2 ht
              subst e1 e2 e3
              have kb1 := kb.below bb kb.lt
              have zb1 := zb.below bb (Nat.le_refl _)
              have hB1 := hB.trans (bb.mono hB.size)
              have hs9 : w1.heap.size ≤ V1.heap.size := Nat.le_trans hsr bb.size
              have hsr0 := hsr
              have hm6 : m6 + 1 = m5 := by rw [z6.len, HLN.out, HM5.out]
              have HM6 := Lib.hid hm6
              clear ht fr bb kb zb hB hsr q1 hm6
              go_wp2_with (first
                | (refine wpList_store_blk rfl 24 (.tmp 11) (.tmp 81) rfl V1.heap.size (pdC 0 none 0 0) (pdC cur A6 m6 c6) 24 rfl rfl (Blk.new _ _ _) rfl (pd_inf _ _ _ _) (pd_one _ _ _ _) ?_
                   intro V2 kV2 nV2
                   have bb : Below V1.heap.size V1 V2 := new_blk nV2
                   have kb2 := kb1.below bb kb1.lt
                   have zb2 := zb1.below bb (Nat.le_refl _)
                   have z62 := z6.below bb (Nat.le_refl _)
                   have hB2 := hB1.trans (bb.mono hB1.size)
                   have hs2 := Nat.le_trans hs9 bb.size
                   have q1 : V2.cell? ⟨w.heap.size, 1, none⟩ = some (.slice A5 m5 c5) := kb2.cell 1
                   clear bb nV2))
              have h1 := containsZ_any A5 m5 c5 L o V2 zb2.ri HM5.out zb2.cap (by have := HM20.out; omega)
              rw [HCN.out] at h1
              refine h1.mono ?_
              rintro e V3 ⟨rfl, bb⟩
              have kb3 := kb2.below bb kb2.lt
              have k3 := kV2.below bb kV2.lt
              have z63 := z62.below bb (Nat.le_refl _)
              have hB3 := hB2.trans (bb.mono hB2.size)
              have hs3 := Nat.le_trans hs2 bb.size
              clear h1 bb kb2 kV2 zb2 z62 hB2 hs2 kb1 zb1 z6 hB1 q1
              go_wp2_with (refine wpListG_load (by rfl) 24 (.tmp 11) rfl V1.heap.size rfl 24 (pdC cur A6 m6 c6) _ k3 Try.underlying24 rfl (pd_inf _ _ _ _) ?_)
              have h1 := has_pid cur A6 m6 c6 L' o V3 z63.ri z63.len z63.cap (by have := HM20.out; have := HM6.out; omega)
              rw [HNI.out] at h1
              unfold pdV at h1
              refine h1.mono ?_
              rintro e V4 ⟨rfl, bb⟩
              have kb4 := kb3.below bb kb3.lt
              have k4 := k3.below bb k3.lt
              have z64 := z63.below bb (Nat.le_refl _)
              have hB4 := hB3.trans (bb.mono hB3.size)
              have hs4 := Nat.le_trans hs3 bb.size
              clear h1 bb kb3 k3 z63 hB3 hs3
              have q1 : V4.cell? ⟨V1.heap.size, 1, none⟩ = some (.slice A6 m6 c6) := k4.cell 1
              have q2 : V4.cell? ⟨V1.heap.size, 0, none⟩ = some (.int .i64 cur) := k4.cell 0
              have q3 : V4.cell? ⟨w.heap.size, 0, none⟩ = some (.int .i64 cur) := kb4.cell 0
              have hwr : IntKind.i64.wrap ((m5 : Int) - 1) = (m5 : Int) - 1 := by rw [IntKind.wrap_i64]; have := HM20.out; omega
              have hne : ((m6 : Int) != (m5 : Int) - 1) = false := by have := HM6.out; simp; omega
              go_wp2_with (refine wpListG_load (by rfl) 24 (.tmp 11) rfl V1.heap.size rfl 24 (pdC cur A6 m6 c6) _ k4 Try.underlying24 rfl (pd_inf _ _ _ _) ?_)
              have h1 := pcheck_pid cur A6 m6 c6 L' V4 z64.ri z64.len (by have := HM20.out; have := HM6.out; omega)
              rw [ids_iff.2 HI2.out] at h1
              unfold pdV at h1
              refine h1.mono ?_
              rintro e V5 ⟨rfl, bb⟩
              have kb5 := kb4.below bb kb4.lt
              have k5 := k4.below bb k4.lt
              have z65 := z64.below bb (Nat.le_refl _)
              have hB5 := hB4.trans (bb.mono hB4.size)
              have hs5 := Nat.le_trans hs4 bb.size
              clear h1 bb kb4 k4 z64 hB4 hs4 q1 q2 q3
              go_wp2_with (first
                | (refine wpListG_load (by rfl) 24 (.tmp 11) rfl V1.heap.size rfl 24 (pdC cur A6 m6 c6) _ k5 Try.underlying24 rfl (pd_inf _ _ _ _) ?_)
                | (refine wpList_store_blk rfl 24 (.tmp 2) (.tmp 115) rfl w.heap.size (pdC cur A5 m5 c5) (pdC cur A6 m6 c6) 24 rfl rfl (kb5) rfl (pd_inf _ _ _ _) (pd_one _ _ _ _) ?_
                   intro V6 kV6 nV6
                   have z66 := own_but z65 nV6 (zo_apart z65 (by have := HG.out; have := hsr0; omega))
                   have hB6 : Below w.heap.size w V6 := hB5.trans (nV6.below _ (Nat.le_refl _) hB5.size)
                   have hs6 := Nat.le_trans hs5 nV6.size
                   clear nV6))
              go_roundw
              case rel => exact ⟨k + 1, _, cur, A6, m6, c6, L', rfl, by omega, by go_num, Lib.hid ⟨kV6, z66.down hsr0, hB6, hs6⟩, HI2⟩
              case measure => simp [intOf]; omega
            · rw [free_none HID.out hin] at fr
              have hcn : L.contains o = false := by simpa using hin
              have HCN := Lib.hid hcn
              clear hin hcn
              go_wp2_with (refine wpListG_load (by rfl) 24 (.tmp 2) rfl w.heap.size rfl 24 (pdC cur A5 m5 c5) _ kb Try.underlying24 rfl (pd_inf _ _ _ _) ?_)
              refine fr.mono ?_
              rintro e V1 ⟨A6, m6, c6, a6, l6, e6, rfl, z6, ht, bb⟩
              obtain ⟨e1, e2, e3⟩ := tup2 ht
              subst e1 e2 e3
              have kb1 := kb.below bb kb.lt
              have zb1 := zb.below bb (Nat.le_refl _)
              have hB1 := hB.trans (bb.mono hB.size)
              have hs9 : w1.heap.size ≤ V1.heap.size := Nat.le_trans hsr bb.size
              clear ht fr bb kb zb hB hsr q1
              go_wp2_with (first
                | (refine wpList_store_blk rfl 24 (.tmp 11) (.tmp 81) rfl V1.heap.size (pdC 0 none 0 0) (pdC 0 A6 m6 c6) 24 rfl rfl (Blk.new _ _ _) rfl (pd_inf _ _ _ _) (pd_one _ _ _ _) ?_
                   intro V2 kV2 nV2
                   have bb : Below V1.heap.size V1 V2 := new_blk nV2
                   have kb2 := kb1.below bb kb1.lt
                   have zb2 := zb1.below bb (Nat.le_refl _)
                   have hB2 := hB1.trans (bb.mono hB1.size)
                   have hs2 := Nat.le_trans hs9 bb.size
                   have q1 : V2.cell? ⟨w.heap.size, 1, none⟩ = some (.slice A5 m5 c5) := kb2.cell 1
                   clear bb nV2))
              have h1 := containsZ_any A5 m5 c5 L o V2 zb2.ri HM5.out zb2.cap (by have := HM20.out; omega)
              rw [HCN.out] at h1
              refine h1.mono ?_
              rintro e V3 ⟨rfl, bb⟩
              have kb3 := kb2.below bb kb2.lt
              have zb3 := zb2.below bb (Nat.le_refl _)
              have hB3 := hB2.trans (bb.mono hB2.size)
              have hs3 := Nat.le_trans hs2 bb.size
              clear h1 bb kb2 kV2 zb2 hB2 hs2 kb1 zb1 z6 hB1 q1
              go_wp2_with fail
              go_roundw
              case rel => exact ⟨k + 1, _, cur, A5, m5, c5, L, rfl, by omega, by go_num, Lib.hid ⟨kb3, zb3, hB3, hs3⟩, HID⟩
              case measure => simp [intOf]; omega
          · have tk := take_pid cur A5 m5 c5 L wr zb.ri HM5.out (by have := HM20.out; omega)
            unfold pdV at tk
            cases hn : nextP cur.toNat L with
            | none =>
              have h20 := HID.out.none_iff.1 hn
              rw [take_full HID.out h20] at tk
              have hm5 : m5 = 20 := HM5.out.trans h20
              have HM6 := Lib.hid hm5
              clear h20 hn hm5
              go_wp2_with (refine wpListG_load (by rfl) 24 (.tmp 2) rfl w.heap.size rfl 24 (pdC cur A5 m5 c5) _ kb Try.underlying24 rfl (pd_inf _ _ _ _) ?_)
              refine tk.mono ?_
              rintro e V1 ⟨A6, m6, c6, a6, l6, i6, e6, rfl, z6, ht, bb⟩
              obtain ⟨e1, e2, e3, e4⟩ := tup3 ht
              subst e1 e2 e3 e4
              have kb1 := kb.below bb kb.lt
              have zb1 := zb.below bb (Nat.le_refl _)
              have hB1 := hB.trans (bb.mono hB.size)
              have hs9 : w1.heap.size ≤ V1.heap.size := Nat.le_trans hsr bb.size
              have hne : ((m5 : Int) != 20) = false := by rw [HM6.out]; rfl
              clear ht tk bb kb zb hB hsr q1
              go_wp2_with (refine wpList_store_blk rfl 24 (.tmp 8) (.tmp 37) rfl V1.heap.size (pdC 0 none 0 0) (pdC 0 A6 m6 c6) 24 rfl rfl (Blk.new _ _ _) rfl (pd_inf _ _ _ _) (pd_one _ _ _ _) ?_
                           intro V2 k2 n2
                           have bb : Below V1.heap.size V1 V2 := new_blk n2
                           have kb2 := kb1.below bb kb1.lt
                           have zb2 := zb1.below bb (Nat.le_refl _)
                           have hB2 := hB1.trans (bb.mono hB1.size)
                           have hs2 := Nat.le_trans hs9 bb.size
                           clear bb n2)
              go_roundw
              case rel => exact ⟨k + 1, _, cur, A5, m5, c5, L, rfl, by omega, by go_num, Lib.hid ⟨kb2, zb2, hB2, hs2⟩, HID⟩
              case measure => simp [intOf]; omega
            | some i =>
              rw [take_some HID.out hn] at tk
              have hI2 := HID.out.taken hn
              have hx := (nextP_some hn).2.1
              have hln := len_insP L ((cand cur.toNat i : Nat) : Int)
              generalize ((cand cur.toNat i : Nat) : Int) = x at tk hI2 hx hln
              have hin : x ∈ insP L x := mem_insP.2 (.inl rfl)
              generalize insP L x = L' at tk hI2 hln hin
              have HI2 := Lib.hid hI2
              have HX := Lib.hid hx
              have HLN := Lib.hid hln
              have HIN := Lib.hid hin
              clear hI2 hx hln hin hn
              go_wp2_with (refine wpListG_load (by rfl) 24 (.tmp 2) rfl w.heap.size rfl 24 (pdC cur A5 m5 c5) _ kb Try.underlying24 rfl (pd_inf _ _ _ _) ?_)
              refine tk.mono ?_
              rintro e V1 ⟨A6, m6, c6, a6, l6, i6, e6, rfl, z6, ht, bb⟩
              obtain ⟨e1, e2, e3, e4⟩ := tup3 ht
              subst e1 e2 e3 e4
              have kb1 := kb.below bb kb.lt
              have zb1 := zb.below bb (Nat.le_refl _)
              have hB1 := hB.trans (bb.mono hB.size)
              have hs9 : w1.heap.size ≤ V1.heap.size := Nat.le_trans hsr bb.size
              have hsr0 := hsr
              have hm6 : m6 = m5 + 1 := by rw [z6.len, HLN.out, HM5.out]
              have HM6 := Lib.hid hm6
              clear ht tk bb kb zb hB hsr q1 hm6
              go_wp2_with (first
                | (refine wpList_store_blk rfl 24 (.tmp 8) (.tmp 37) rfl V1.heap.size (pdC 0 none 0 0) (pdC x A6 m6 c6) 24 rfl rfl (Blk.new _ _ _) rfl (pd_inf _ _ _ _) (pd_one _ _ _ _) ?_
                   intro V2 kV2 nV2
                   have bb : Below V1.heap.size V1 V2 := new_blk nV2
                   have kb2 := kb1.below bb kb1.lt
                   have zb2 := zb1.below bb (Nat.le_refl _)
                   have z62 := z6.below bb (Nat.le_refl _)
                   have hB2 := hB1.trans (bb.mono hB1.size)
                   have hs2 := Nat.le_trans hs9 bb.size
                   clear bb nV2)
                | (refine wpListG_load (by rfl) 24 (.tmp 2) rfl w.heap.size rfl 24 (pdC cur A5 m5 c5) _ kb2 Try.underlying24 rfl (pd_inf _ _ _ _) ?_))
              have h1 := has_pid cur A5 m5 c5 L x V2 zb2.ri HM5.out zb2.cap (by have := HM20.out; omega)
              rw [show L.contains x = false by simpa using HX.out] at h1
              unfold pdV at h1
              refine h1.mono ?_
              rintro e V3 ⟨rfl, bb⟩
              have kb3 := kb2.below bb kb2.lt
              have k3 := kV2.below bb kV2.lt
              have zb3 := zb2.below bb (Nat.le_refl _)
              have z63 := z62.below bb (Nat.le_refl _)
              have hB3 := hB2.trans (bb.mono hB2.size)
              have hs3 := Nat.le_trans hs2 bb.size
              clear h1 bb kb2 kV2 zb2 z62 hB2 hs2 kb1 zb1 z6 hB1
              go_wp2_with (refine wpListG_load (by rfl) 24 (.tmp 8) rfl V1.heap.size rfl 24 (pdC x A6 m6 c6) _ k3 Try.underlying24 rfl (pd_inf _ _ _ _) ?_)
              have h1 := has_pid x A6 m6 c6 L' x V3 z63.ri z63.len z63.cap (by have := HM20.out; have := HM6.out; omega)
              rw [show L'.contains x = true by simpa using HIN.out] at h1
              unfold pdV at h1
              refine h1.mono ?_
              rintro e V4 ⟨rfl, bb⟩
              have kb4 := kb3.below bb kb3.lt
              have k4 := k3.below bb k3.lt
              have zb4 := zb3.below bb (Nat.le_refl _)
              have z64 := z63.below bb (Nat.le_refl _)
              have hB4 := hB3.trans (bb.mono hB3.size)
              have hs4 := Nat.le_trans hs3 bb.size
              clear h1 bb kb3 k3 zb3 z63 hB3 hs3
              have q1 : V4.cell? ⟨V1.heap.size, 1, none⟩ = some (.slice A6 m6 c6) := k4.cell 1
              have q2 : V4.cell? ⟨V1.heap.size, 0, none⟩ = some (.int .i64 x) := k4.cell 0
              have hwr : IntKind.i64.wrap ((m5 : Int) + 1) = (m5 : Int) + 1 := by rw [IntKind.wrap_i64]; have := HM20.out; omega
              have hne : ((m6 : Int) != (m5 : Int) + 1) = false := by rw [HM6.out]; simp
              go_wp2_with (refine wpListG_load (by rfl) 24 (.tmp 8) rfl V1.heap.size rfl 24 (pdC x A6 m6 c6) _ k4 Try.underlying24 rfl (pd_inf _ _ _ _) ?_)
              have h1 := pcheck_pid x A6 m6 c6 L' V4 z64.ri z64.len (by have := HM20.out; have := HM6.out; omega)
              rw [ids_iff.2 HI2.out] at h1
              unfold pdV at h1
              refine h1.mono ?_
              rintro e V5 ⟨rfl, bb⟩
              have kb5 := kb4.below bb kb4.lt
              have k5 := k4.below bb k4.lt
              have zb5 := zb4.below bb (Nat.le_refl _)
              have z65 := z64.below bb (Nat.le_refl _)
              have hB5 := hB4.trans (bb.mono hB4.size)
              have hs5 := Nat.le_trans hs4 bb.size
              clear h1 bb kb4 k4 zb4 z64 hB4 hs4 q1 q2
              go_wp2_with (first
                | (refine wpListG_load (by rfl) 24 (.tmp 8) rfl V1.heap.size rfl 24 (pdC x A6 m6 c6) _ k5 Try.underlying24 rfl (pd_inf _ _ _ _) ?_)
                | (refine wpList_store_blk rfl 24 (.tmp 2) (.tmp 76) rfl w.heap.size (pdC cur A5 m5 c5) (pdC x A6 m6 c6) 24 rfl rfl (kb5) rfl (pd_inf _ _ _ _) (pd_one _ _ _ _) ?_
                   intro V6 kV6 nV6
                   have z66 := own_but z65 nV6 (zo_apart z65 (by have := HG.out; have := hsr0; omega))
                   have hB6 : Below w.heap.size w V6 := hB5.trans (nV6.below _ (Nat.le_refl _) hB5.size)
                   have hs6 := Nat.le_trans hs5 nV6.size
                   clear nV6))
              go_roundw
              case rel => exact ⟨k + 1, _, x, A6, m6, c6, L', rfl, by omega, by go_num, Lib.hid ⟨kV6, z66.down hsr0, hB6, hs6⟩, HI2⟩
              case measure => simp [intOf]; omega
        · go_wp2_with fail
          go_ret
          exact ⟨rfl, hB⟩
      · obtain rfl : k = m0 := by omega
        go_wp2_with fail
        go_ret
        exact ⟨rfl, hB⟩
  · go_wp2_with fail
    go_ret
    exact ⟨rfl, b4⟩
end Go.Proofs.Ytjbhliabmaipbaa

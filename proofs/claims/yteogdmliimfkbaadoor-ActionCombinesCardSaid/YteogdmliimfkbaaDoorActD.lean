/-
  action.CombineSeq, Combine; the law's own iterator, that counts; the reference's Combine; few.
-/
import Derived.Test.YteogdmliimfkbaaDoorActC
namespace Go.Proofs.YteogdmliimfkbaaDoor
open Go.RowKit Go.Shelf
attribute [local go_sem] Oper.semAt_some
set_option linter.unusedVariables false

set_option maxRecDepth 100000 in
set_option maxHeartbeats 4000000 in
theorem told_seq (n : Nat) (hn : 1 ≤ n) (n₀ Bl Bt m c : Nat) (A : Option Addr) (l : List Int) (w : World) (hR : Ru w Bt A l) (bl : Boxed w Bl 22 (.slice A m c)) (bt : Boxed w Bt 3 (.int .i64 0)) (hm : m = l.length) (hmc : m ≤ c) (h6 : m ≤ 1000000) (hBl : Bl < Bt) (hBt : Bt < n₀) (hnw : n₀ ≤ w.heap.size) :
    SeqO Fence.wide n Tryd.prog 22 #[.pointer (some ⟨Bl, 0, none⟩), .pointer (some ⟨Bt, 0, none⟩)] (fun x : W32 => #[.int .u32 x.1]) n₀ (fun xs => xs.map (·.1) = l) m (some Bt) (fun W => Boxed W Bt 3 (.int .i64 m)) w := by
  intro lp J W hW hJ hY h0
  have HM := Lib.hid hm
  clear hm
  have blW : Boxed W Bl 22 (.slice A m c) := boxed_below bl hW (by omega)
  have btW : Boxed W Bt 3 (.int .i64 0) := boxed_below bt hW (by omega)
  have RW := hR.below hW (by omega)
  have hc0 := blW.cell
  have hnW : n₀ ≤ W.heap.size := Nat.le_trans hnw hW.size
  refine callsIn_of_wp Tryd.func22 rfl trivial ?_ rfl
  simp only [Tryd.ntmps22, List.size_toArray, List.length_cons, List.length_nil, Nat.reduceAdd, Nat.reduceSub, Array.replicate_succ, Array.replicate_zero, List.push_toArray, List.append_toArray, List.nil_append, List.cons_append]
  gi_wp2
  clear hc0
  gi_loopw [8] (fun i wr => ∃ (k : Nat) (pre : List W32), k ≤ m ∧ i = .int .i64 k ∧ pre.length = k ∧ pre.map (·.1) = l.take k ∧ J pre wr ∧ ButO (some Bt) n₀ W wr ∧ Boxed wr Bt 3 (.int .i64 k)) (fun i _ => m - (intOf i).toNat)
  case atStart => exact ⟨0, [], Nat.zero_le _, rfl, rfl, rfl, h0, .of_below (Below.refl _ _), btW⟩
  case round =>
    obtain ⟨k, pre, hk, rfl, hpl, hpm, hJs, hB, hT⟩ := hrel
    have HP := Lib.hid hpm
    have HL := Lib.hid hpl
    clear hpm hpl
    by_cases hlt : k < m
    · have hlt' : (k : Int) < m := by omega
      have hkl : k < l.length := by have := HM.out; omega
      obtain ⟨b, off, rfl, hb, hc⟩ := (RW.butO hB (by omega) (fun r e => by cases e; omega)).2 k hkl
      have hx := RW.at_ k hkl
      have ht := Lib.hid (take_snoc' l k hkl)
      generalize l.getD k 0 = x at hc hx ht
      have tc := hT.cell
      have tf := hT.frozen
      have hgs := grownBy_setCell' wr Bt (.int .i64 ((k : Int) + 1))
      have hJ1 := hJ _ _ _ _ hJs hgs (fun r e => e)
      have hB1 := hB.grown hgs (fun r e => .inl e) (Nat.le_trans hnW hB.size)
      have hT1 := hT.set (.int .i64 ((k : Int) + 1))
      obtain ⟨fn, tmps, assign, body, hy, hRd⟩ := hY pre ⟨x, hx⟩ _ hJ1 hB1.size (by have := HL.out; omega)
      simp only at hy
      gi_wp2
      refine hRd.mono ?_
      rintro e W3 ⟨rfl, hJ3, hb3⟩
      gi_wp2
      refine ⟨⟨k + 1, pre ++ [⟨x, hx⟩], by omega, by go_num, ?_, ?_, hJ3, hB1.below hb3, ?_⟩, by simp [intOf]; omega⟩
      · rw [List.length_append, HL.out]; rfl
      · rw [ht.out, List.map_append, HP.out]; rfl
      · exact boxed_below (v := .int .i64 ((k + 1 : Nat) : Int)) (by exact_mod_cast hT1) hb3 (by omega)
    · obtain rfl : k = m := by omega
      gi_wp2
      go_end0
      refine ⟨⟨_, rfl⟩, pre, ?_, hJs, hT⟩
      rw [HP.out, HM.out, List.take_length]

/-- The verdict of a row of words: action, data, place. -/
def cmbI (l : List Int) : Nat × Int × Int := if (lowS l).2.1 < 0 then (7, 0, (lowS l).2.1) else (actI (lowS l).1, (lowS l).1 % 65536, (lowS l).2.1)

set_option maxRecDepth 100000 in
set_option maxHeartbeats 4000000 in
theorem cseq_any (gf : Nat) (lb : Array Value) (l : List Int) (N : Nat) (g : Option Nat) (E : World → Prop) (w : World) (hK : Acts w) (hg : ∀ r, g = some r → 1 < r ∧ r < w.heap.size) (hN : N ≤ 1000000) (hl : ∀ x ∈ l, 0 ≤ x ∧ x < 4294967296)
    (eg : ∀ args w, (callFunc gf args).run Tryd.prog w = .ok (.enter gf args) w)
    (hE : ∀ W W', E W → Below w.heap.size W W' → E W') (hseq : SeqO Fence.wide 5 Tryd.prog gf lb (fun x : W32 => #[.int .u32 x.1]) (w.heap.size + 1) (fun xs => xs.map (·.1) = l) N g E (w.alloc (.cells #[.int .i64 0, .int .u16 0] 29))) :
    Calls Tryd.prog 21 #[.func (.func gf) #[] lb] w fun e w' => e = .returned (.tuple #[.agg #[.int .i64 (cmbI l).1, .int .u16 (cmbI l).2.1], .int .i64 (cmbI l).2.2]) ∧ ButO g w.heap.size w w' ∧ E w' := by
  have hpos := hK.pos
  have hlow := lowest_any gf lb l N g E (w.alloc (.cells #[.int .i64 0, .int .u16 0] 29)) (hK.alloc _) (fun r e => ⟨(hg r e).1, by have := (hg r e).2; simp; omega⟩) hN eg (fun W W' h hb => hE W W' h (hb.mono (by simp))) (by simpa using hseq)
  have hbd : 0 ≤ (lowS l).1 ∧ (lowS l).1 < 4294967296 := (lowF_bd l _ hl (by decide) (by decide) (by decide)).1
  have hcm : cmbI l = if (lowS l).2.1 < 0 then (7, 0, (lowS l).2.1) else (actI (lowS l).1, (lowS l).1 % 65536, (lowS l).2.1) := rfl
  have bR := Blk.new w #[.int .i64 0, .int .u16 0] 29
  generalize (lowS l).1 = fw at *
  generalize (lowS l).2.1 = pw at *
  generalize cmbI l = C at *
  have HC := Lib.hid hcm
  clear hcm
  by_cases hp : pw < 0
  · have hC2 : C = (7, 0, pw) := by rw [HC.out, if_pos hp]
    subst hC2
    have hp' : decide (pw < 0) = true := by simpa using hp
    go_enter Tryd.func21, Tryd.ntmps21
    go_wp2_with fail
    refine hlow.mono ?_
    rintro e w1 ⟨rfl, b1, he⟩
    have R1 : Blk w1 w.heap.size #[.int .i64 0, .int .u16 0] 29 := ⟨(b1.block _ (by simp) (fun e => by have := (hg _ e).2; omega)).trans bR.blk⟩
    have B1 : ButO g w.heap.size w w1 := ⟨b1.os, b1.tape, b1.output, by have := b1.size; simp at this; omega, fun k hk hne => (b1.block k (by simp; omega) hne).trans (Below.heap_alloc w _ k hk)⟩
    go_wp2_with (refine wpList_store_blk rfl 29 (.tmp 2) (.tmp 13) rfl w.heap.size _ _ 29 rfl rfl R1 rfl ver_info (by simp [Value.oneCell']) ?_; intro w3 hw3 hn3)
    refine bodyPost_ret (results_row_tmp rfl _ _ w.heap.size 29 _ (0, 0) _ rfl hw3.blk Tryd.underlying29 rfl ver_info _ rfl) rfl ⟨rfl, ?_, ?_⟩
    · exact B1.below (hn3.below _ (Nat.le_refl _) (by have := b1.size; simp at this; omega))
    · exact hE _ _ he (hn3.below _ (Nat.le_refl _) (by have := b1.size; simp at this; omega))
  · have hC2 : C = (actI fw, fw % 65536, pw) := by rw [HC.out, if_neg hp]
    subst hC2
    have hp' : decide (pw < 0) = false := by simpa using hp
    go_enter Tryd.func21, Tryd.ntmps21
    go_wp2_with fail
    refine hlow.mono ?_
    rintro e w1 ⟨rfl, b1, he⟩
    have hs1 := b1.size
    simp only [World.size_alloc] at hs1
    have R1 : Blk w1 w.heap.size #[.int .i64 0, .int .u16 0] 29 := ⟨(b1.block _ (by simp) (fun e => by have := (hg _ e).2; omega)).trans bR.blk⟩
    have B1 : ButO g w.heap.size w w1 := ⟨b1.os, b1.tape, b1.output, by omega, fun k hk hne => (b1.block k (by simp; omega) hne).trans (Below.heap_alloc w _ k hk)⟩
    go_wp2_with fail
    refine (split_any fw hbd.1 hbd.2 _ (B1.acts hK (fun r e => (hg r e).1) hpos)).mono ?_
    rintro e w2 ⟨rfl, b2⟩
    have R2 := R1.below b2 R1.lt
    go_wp2_with (refine wpList_store_blk rfl 29 (.tmp 2) (.tmp 16) rfl w.heap.size _ _ 29 rfl rfl R2 rfl ver_info (by simp [Value.oneCell']) ?_; intro w3 hw3 hn3)
    have hb13 : Below w.heap.size w1 w3 := (b2.mono (by omega)).trans (hn3.below _ (Nat.le_refl _) (Nat.le_trans (by omega) b2.size))
    refine bodyPost_ret (results_row_tmp rfl _ _ w.heap.size 29 _ (0, 0) _ rfl hw3.blk Tryd.underlying29 rfl ver_info _ rfl) rfl ⟨rfl, B1.below hb13, hE _ _ he hb13⟩

set_option maxRecDepth 100000 in
set_option maxHeartbeats 4000000 in
theorem combine_any (A : Option Addr) (m c : Nat) (l : List Int) (w : World) (hK : Acts w) (hR : Ru w w.heap.size A l) (hm : m = l.length) (hmc : m ≤ c) (h6 : m ≤ 1000000) :
    Calls Tryd.prog 20 #[.slice A m c] w fun e w' => e = .returned (.tuple #[.agg #[.int .i64 (cmbI l).1, .int .u16 (cmbI l).2.1], .int .i64 (cmbI l).2.2]) ∧ Below w.heap.size w w' := by
  have HM := Lib.hid hm
  clear hm
  have bR := (Blk.new w #[.int .i64 0, .int .u16 0] 29).alloc (.cells #[.slice A m c] 22)
  have bS := Boxed.new (w.alloc (.cells #[.int .i64 0, .int .u16 0] 29)) 22 (.slice A m c)
  simp only [World.size_alloc] at bS
  have hB0 : Below w.heap.size w ((w.alloc (.cells #[.int .i64 0, .int .u16 0] 29)).alloc (.cells #[.slice A m c] 22)) := ((Below.refl _ _).alloc (Nat.le_refl _) _).alloc (by simp) _
  have hsz : ((w.alloc (.cells #[.int .i64 0, .int .u16 0] 29)).alloc (.cells #[.slice A m c] 22)).heap.size = w.heap.size + 1 + 1 := by simp
  go_enter Tryd.func20, Tryd.ntmps20
  go_wp2_with fail
  refine (values_any A m c _).mono ?_
  rintro e w0 ⟨rfl, hw0⟩
  rw [← hw0] at bR bS hB0 hsz
  simp only [World.size_alloc]
  clear hw0
  have hcs := cseq_any 28 #[.pointer (some ⟨w.heap.size + 1, 0, none⟩)] l m none (fun _ => True) w0 (hK.below hB0 hK.pos) (fun r e => by cases e) h6 hR.1 (enters_of Tryd.func28 (by kernel_rfl) rfl) (fun _ _ _ _ => trivial)
    (values_seq 5 (by omega) (w0.heap.size + 1) (w.heap.size + 1) m c A l _ ((hR.below (hB0.trans (((Below.refl _ w0).alloc (Nat.le_refl _) _).mono (by omega))) (Nat.le_refl _)).more (by omega)) (bS.alloc _) HM.out hmc h6 (by omega))
  go_wp2_with fail
  refine hcs.mono ?_
  rintro e w1 ⟨rfl, b1, _⟩
  have bb := b1.none_
  have R1 := bR.below bb (by omega)
  go_wp2_with (refine wpList_store_blk rfl 29 (.tmp 2) (.tmp 7) rfl w.heap.size _ _ 29 rfl rfl R1 rfl ver_info (by simp [Value.oneCell']) ?_; intro w3 hw3 hn3)
  refine bodyPost_ret (results_row_tmp rfl _ _ w.heap.size 29 _ (0, 0) _ rfl hw3.blk Tryd.underlying29 rfl ver_info _ rfl) rfl ⟨rfl, ?_⟩
  exact (hB0.trans (bb.mono (by omega))).trans (hn3.below _ (Nat.le_refl _) (by have := bb.size; omega))

theorem lowS_take (l : List Int) (k : Nat) (h : k < l.length) : lowS (l.take (k + 1)) = lowF (lowS (l.take k)) (l.getD k 0) := by rw [take_snoc' l k h, lowS_snoc]
theorem act8 (x : Int) : actI x ≤ 7 := by have := actI_lt x; omega
theorem cmb_new {l : List Int} {k : Nat} (h : k < l.length) (hn : (lowS (l.take k)).2.1 < 0 ∨ actI (l.getD k 0) < actI (lowS (l.take k)).1) : cmbI (l.take (k + 1)) = (actI (l.getD k 0), l.getD k 0 % 65536, (k : Int)) := by
  have e := lowS_take l k h
  have hlen : (lowS (l.take k)).2.2 = k := by rw [lowS_len, List.length_take]; omega
  rw [lowF, if_pos hn, hlen] at e
  rw [cmbI, e, if_neg (by show ¬ (k : Int) < 0; omega)]
theorem cmb_old {l : List Int} {k : Nat} (h : k < l.length) (hn : ¬ ((lowS (l.take k)).2.1 < 0 ∨ actI (l.getD k 0) < actI (lowS (l.take k)).1)) : cmbI (l.take (k + 1)) = cmbI (l.take k) := by
  have e := lowS_take l k h
  rw [lowF, if_neg hn] at e
  unfold cmbI
  rw [e]
theorem cmb_at (l : List Int) : (cmbI l).2.2 = (lowS l).2.1 := by unfold cmbI; split <;> rfl
theorem cmb_act {l : List Int} (h : ¬ (lowS l).2.1 < 0) : (cmbI l).1 = actI (lowS l).1 := by unfold cmbI; rw [if_neg h]

set_option maxRecDepth 100000 in
set_option maxHeartbeats 4000000 in
theorem combineR_any (A : Option Addr) (m c : Nat) (l : List Int) (w : World) (hR : Ru w w.heap.size A l) (hm : m = l.length) (hmc : m ≤ c) (h6 : m ≤ 1000000) :
    Calls Tryd.prog 19 #[.slice A m c] w fun e w' => e = .returned (.tuple #[.agg #[.int .i64 (cmbI l).1, .int .u16 (cmbI l).2.1], .int .i64 (cmbI l).2.2]) ∧ Below w.heap.size w w' := by
  have HM := Lib.hid hm
  clear hm
  go_enter Tryd.func19, Tryd.ntmps19
  go_wp2
  have A0 := (Blk.new w #[.int .i64 0, .int .u16 0] 29).alloc (.cells #[.int .i64 7, .int .u16 0] 29)
  have B0 := Blk.new_ (w.alloc (.cells #[.int .i64 0, .int .u16 0] 29)) #[.int .i64 7, .int .u16 0] 29 (n := w.heap.size + 1) (by simp)
  have C0 : Below w.heap.size w ((w.alloc (.cells #[.int .i64 0, .int .u16 0] 29)).alloc (.cells #[.int .i64 7, .int .u16 0] 29)) := ((Below.refl _ _).alloc (Nat.le_refl _) _).alloc (by simp) _
  generalize (w.alloc (.cells #[.int .i64 0, .int .u16 0] 29)).alloc (.cells #[.int .i64 7, .int .u16 0] 29) = w1 at A0 B0 C0 ⊢
  go_loopw [5, 12] (fun at_ i wr => ∃ k : Nat, k ≤ m ∧ i = .int .i64 k ∧ at_ = .int .i64 (cmbI (l.take k)).2.2 ∧ Blk wr (w.heap.size + 1) #[.int .i64 (cmbI (l.take k)).1, .int .u16 (cmbI (l.take k)).2.1] 29 ∧ Blk wr w.heap.size #[.int .i64 0, .int .u16 0] 29 ∧ Below w.heap.size w wr) (fun _ i _ => m - (intOf i).toNat)
  case atStart => exact ⟨0, Nat.zero_le _, rfl, rfl, B0, A0, C0⟩
  case round =>
    obtain ⟨k, hk, rfl, rfl, hB, hA, hC⟩ := hrel
    by_cases hlt : k < m
    · have hlt' : (k : Int) < m := by omega
      have hkl : k < l.length := by have := HM.out; omega
      obtain ⟨b, off, rfl, hb, hc⟩ := (hR.below hC (Nat.le_refl _)).2 k hkl
      have hx := hR.at_ k hkl
      have hnw := cmb_new (l := l) hkl
      have hod := cmb_old (l := l) hkl
      have hat := cmb_at (l.take k)
      have hca := cmb_act (l := l.take k)
      generalize l.getD k 0 = x at hc hx hnw hod
      generalize (lowS (l.take k)).2.1 = pw at hnw hod hat hca
      generalize (lowS (l.take k)).1 = fw at hnw hod hat hca
      generalize cmbI (l.take k) = C at *
      obtain ⟨a0, d0, p0⟩ := C
      simp only at hat hca hB hA
      subst hat
      have HN := Lib.hid hnw
      have HO := Lib.hid hod
      have HA := Lib.hid hca
      clear hnw hod hca
      simp only
      by_cases hp : p0 < 0
      · have hp' : decide (p0 < 0) = true := by simpa using hp
        go_wp2_with fail
        refine (splitR_any x hx.1 hx.2 _).mono ?_
        rintro e w2 ⟨rfl, b2⟩
        have hB2 := (hB.below b2 hB.lt).alloc (.cells #[.int .i64 (actI x), .int .u16 (x % 65536)] 29)
        have hA2 := (hA.below b2 hA.lt).alloc (.cells #[.int .i64 (actI x), .int .u16 (x % 65536)] 29)
        have hN2 := Blk.new w2 #[.int .i64 (actI x), .int .u16 (x % 65536)] 29
        have hC2 : Below w.heap.size w (w2.alloc (.cells #[.int .i64 (actI x), .int .u16 (x % 65536)] 29)) := (hC.trans (b2.mono hC.size)).alloc (Nat.le_trans hC.size b2.size) _
        have q0 := hB2.cell 0
        simp only [List.getElem?_toArray, List.getElem?_cons_zero] at q0
        go_wp2_with (first
          | (refine wpList_load_row rfl 29 (.tmp 8) rfl w2.heap.size rfl 29 _ (0, 0) _ hN2.blk Tryd.underlying29 rfl ver_info ?_)
          | (refine wpList_store_blk rfl 29 (.tmp 4) (.tmp 28) rfl (w.heap.size + 1) _ _ 29 rfl rfl hB2 rfl ver_info (by simp [Value.oneCell']) ?_; intro w3 hw3 hn3))
        go_roundw
        case rel =>
          refine ⟨k + 1, by omega, by go_num, by rw [HN.out (.inl hp)], by rw [HN.out (.inl hp)]; exact hw3, ⟨(hn3.block _ hA2.lt (by omega)).trans hA2.blk⟩, hC2.trans (hn3.below _ (by omega) hC2.size)⟩
        case measure => simp [intOf]; omega
      · have hp' : decide (p0 < 0) = false := by simpa using hp
        have ha := HA.out hp
        by_cases hu : actI x < actI fw
        · have hu' : decide (actI x < a0) = true := by rw [ha]; simpa using hu
          have HU := Lib.hid ha
          clear ha
          go_wp2_with fail
          refine (splitR_any x hx.1 hx.2 _).mono ?_
          rintro e w2 ⟨rfl, b2⟩
          have hB2 := (hB.below b2 hB.lt).alloc (.cells #[.int .i64 (actI x), .int .u16 (x % 65536)] 29)
          have hA2 := (hA.below b2 hA.lt).alloc (.cells #[.int .i64 (actI x), .int .u16 (x % 65536)] 29)
          have hN2 := Blk.new w2 #[.int .i64 (actI x), .int .u16 (x % 65536)] 29
          have hC2 : Below w.heap.size w (w2.alloc (.cells #[.int .i64 (actI x), .int .u16 (x % 65536)] 29)) := (hC.trans (b2.mono hC.size)).alloc (Nat.le_trans hC.size b2.size) _
          have q0 := hB2.cell 0
          simp only [List.getElem?_toArray, List.getElem?_cons_zero] at q0
          go_wp2_with (first
            | (refine wpList_load_row rfl 29 (.tmp 8) rfl w2.heap.size rfl 29 _ (0, 0) _ hN2.blk Tryd.underlying29 rfl ver_info ?_)
            | (refine wpList_store_blk rfl 29 (.tmp 4) (.tmp 28) rfl (w.heap.size + 1) _ _ 29 rfl rfl hB2 rfl ver_info (by simp [Value.oneCell']) ?_; intro w3 hw3 hn3))
          go_roundw
          case rel =>
            refine ⟨k + 1, by omega, by go_num, by rw [HN.out (.inr hu)], by rw [HN.out (.inr hu)]; exact hw3, ⟨(hn3.block _ hA2.lt (by omega)).trans hA2.blk⟩, hC2.trans (hn3.below _ (by omega) hC2.size)⟩
          case measure => simp [intOf]; omega
        · have hu' : decide (actI x < a0) = false := by rw [ha]; simpa using hu
          have HU := Lib.hid ha
          clear ha
          have hno : ¬ (p0 < 0 ∨ actI x < actI fw) := by rintro (h | h) <;> contradiction
          have HX := Lib.hid hno
          clear hno
          go_wp2_with fail
          refine (splitR_any x hx.1 hx.2 _).mono ?_
          rintro e w2 ⟨rfl, b2⟩
          have hB2 := (hB.below b2 hB.lt).alloc (.cells #[.int .i64 (actI x), .int .u16 (x % 65536)] 29)
          have hA2 := (hA.below b2 hA.lt).alloc (.cells #[.int .i64 (actI x), .int .u16 (x % 65536)] 29)
          have hN2 := Blk.new w2 #[.int .i64 (actI x), .int .u16 (x % 65536)] 29
          have hC2 : Below w.heap.size w (w2.alloc (.cells #[.int .i64 (actI x), .int .u16 (x % 65536)] 29)) := (hC.trans (b2.mono hC.size)).alloc (Nat.le_trans hC.size b2.size) _
          have q0 := hB2.cell 0
          simp only [List.getElem?_toArray, List.getElem?_cons_zero] at q0
          go_wp2
          go_roundw
          case rel => exact ⟨k + 1, by omega, by go_num, by rw [HO.out HX.out], by rw [HO.out HX.out]; exact hB2, hA2, hC2⟩
          case measure => simp [intOf]; omega
    · obtain rfl : k = m := by omega
      have ht : l.take k = l := by rw [HM.out, List.take_length]
      rw [ht] at hB ⊢
      go_wp2_with (first
        | (refine wpList_load_row rfl 29 (.tmp 4) rfl (w.heap.size + 1) rfl 29 _ (0, 0) _ hB.blk Tryd.underlying29 rfl ver_info ?_)
        | (refine wpList_store_blk rfl 29 (.tmp 2) (.tmp 31) rfl w.heap.size _ _ 29 rfl rfl hA rfl ver_info (by simp [Value.oneCell']) ?_; intro w3 hw3 hn3))
      refine bodyPost_ret (results_row_tmp rfl _ _ w.heap.size 29 _ (0, 0) _ rfl hw3.blk Tryd.underlying29 rfl ver_info _ rfl) rfl ⟨rfl, ?_⟩
      exact hC.trans (hn3.below _ (Nat.le_refl _) hC.size)
end Go.Proofs.YteogdmliimfkbaaDoor

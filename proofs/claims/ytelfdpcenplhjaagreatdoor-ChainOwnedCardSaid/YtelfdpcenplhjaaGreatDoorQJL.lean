/-
  PlI, PlX, PlO: in one file.
-/
import Derived.Test.YtelfdpcenplhjaaGreatDoorQJC
namespace Go.Proofs.YtelfdpcenplhjaaGreatDoor
open Go.RowKit Go.Shelf
attribute [local go_sem] Oper.semAt_some
set_option linter.unusedVariables false
set_option linter.unusedSimpArgs false
set_option maxRecDepth 100000 in
set_option maxHeartbeats 2000000 in
theorem ids_seq (n : Nat) (hn : 1 ≤ n) (n₀ : Nat) (w : World) :
    SeqStopsK Fence.wide n Tryz.prog 91 #[] (fun x : Fin 24 => #[.int .i64 ((x.val : Int) + 1)]) (Below n₀) (fun xs => xs.map (·.val) = List.range 24) (fun pre => ∃ k, k < 24 ∧ pre.map (·.val) = List.range (k + 1)) 24 w := by
  intro lp J Jx W hW hJ hJx hY h0
  refine callsIn_of_wp Tryz.func91 rfl trivial ?_ rfl
  simp only [Tryz.ntmps91, List.size_toArray, List.length_cons, List.length_nil, Nat.reduceAdd, Nat.reduceSub, Array.replicate_succ, Array.replicate_zero, List.push_toArray, List.append_toArray, List.nil_append, List.cons_append]
  gi_wp2
  gi_loopw [3] (fun i wr => ∃ (k : Nat) (pre : List (Fin 24)), k ≤ 24 ∧ i = .int .i64 k ∧ pre.map (·.val) = List.range k ∧ J pre wr) (fun i _ => 24 - (intOf i).toNat)
  case atStart => exact ⟨0, [], Nat.zero_le _, rfl, rfl, h0⟩
  case round =>
    obtain ⟨k, pre, hk, rfl, hpm, hJs⟩ := hrel
    by_cases hlt : k < 24
    · have hlt' : (k : Int) < 24 := by omega
      have hlen : pre.length < 24 := by
        have := congrArg List.length hpm
        simp at this; omega
      have hmap : (pre ++ [(⟨k, hlt⟩ : Fin 24)]).map (·.val) = List.range (k + 1) := by rw [List.map_append, hpm, ← rangeF_push]; rfl
      have HMP := Lib.hid hmap
      clear hmap hpm
      obtain ⟨fn, tmps, assign, body, hy, hRd⟩ := hY pre ⟨k, hlt⟩ wr hJs hlen
      simp only at hy
      gi_wp2
      refine hRd.mono ?_
      rintro e W3 h3
      rcases h3 with ⟨rfl, hJ3, hb3⟩ | ⟨rfl, hJx3⟩
      · gi_wp2
        exact ⟨⟨k + 1, pre ++ [⟨k, hlt⟩], by omega, by go_num, HMP.out, hJ3⟩, by simp [intOf]; omega⟩
      · gi_wp2
        refine bodyPost_ret (results_none rfl _ _ _) rfl ?_
        exact ⟨⟨_, rfl⟩, .inr ⟨_, ⟨k, hlt, HMP.out⟩, hJx3⟩⟩
    · obtain rfl : k = 24 := by omega
      gi_wp2
      go_end0
      exact ⟨⟨_, rfl⟩, .inl ⟨pre, hpm, hJs⟩⟩
def gI (w : World) (cf : Nat) (cb : Array Value) (bf : Nat → Bool) (pre : List (Fin 24)) (W : World) : Prop :=
  ((∀ x ∈ pre, bf x.val = false) ∧ Blk W w.heap.size #[.func (.func cf) #[] cb] 133 ∧ Blk W (w.heap.size + 1) #[.int .i64 0] 3 ∧ Blk W (w.heap.size + 1 + 1) #[.bool false] 4) ∧ Below w.heap.size w W
def gX (w : World) (bf : Nat → Bool) (cd : Code) (pre : List (Fin 24)) (W : World) : Prop :=
  (cd = .ret ∧ ∃ ini x, pre = ini ++ [x] ∧ (∀ y ∈ ini, bf y.val = false) ∧ bf x.val = true ∧ Blk W (w.heap.size + 1) #[.int .i64 ((x.val : Int) + 1)] 3 ∧ Blk W (w.heap.size + 1 + 1) #[.bool true] 4) ∧ Below w.heap.size w W
set_option maxRecDepth 100000 in
set_option maxHeartbeats 4000000 in
theorem firsti_in (cf : Nat) (cb : Array Value) (bf : Nat → Bool) (w : World) (ec : ∀ args w, (callFunc cf args).run Tryz.prog w = .ok (.enter cf args) w)
    (hclo : ∀ (i : Nat) (W : World), i < 24 → Below w.heap.size w W → Calls Tryz.prog cf (#[.int .i64 ((i : Int) + 1)] ++ cb) W fun e w' => e = .returned (.bool (bf i)) ∧ Below W.heap.size W w') :
    CallsIn Fence.wide 6 Tryz.prog 90 #[.func (.func 91) #[] #[], .func (.func cf) #[] cb] w fun e w' =>
      ∃ r b, e = .returned (.tuple #[.int .i64 r, .bool b]) ∧ ((∃ i, (List.range 24).find? bf = some i ∧ r = (i : Int) + 1 ∧ b = true) ∨ (List.range 24).find? bf = none ∧ r = 0 ∧ b = false) ∧ Below w.heap.size w w' := by
  refine callsIn_of_wp_marks Tryz.func90 rfl trivial ?_ rfl
  simp only [Tryz.ntmps90, List.size_toArray, List.length_cons, List.length_nil, Nat.reduceAdd, Nat.reduceSub, Array.replicate_succ, Array.replicate_zero, List.push_toArray, List.append_toArray, List.nil_append, List.cons_append]
  gi_wp2
  have b0 := ((Blk.new w #[.func (.func cf) #[] cb] 133).alloc (.cells #[.int .i64 0] 3)).alloc (.cells #[.bool false] 4)
  have b1 := (Blk.new_ (w.alloc (.cells #[.func (.func cf) #[] cb] 133)) #[.int .i64 0] 3 (n := w.heap.size + 1) (by simp)).alloc (.cells #[.bool false] 4)
  have b2 := Blk.new_ ((w.alloc (.cells #[.func (.func cf) #[] cb] 133)).alloc (.cells #[.int .i64 0] 3)) #[.bool false] 4 (n := w.heap.size + 1 + 1) (by simp)
  have hB0 : Below w.heap.size w (((w.alloc (.cells #[.func (.func cf) #[] cb] 133)).alloc (.cells #[.int .i64 0] 3)).alloc (.cells #[.bool false] 4)) := (((Below.refl _ w).alloc (Nat.le_refl _) _).alloc (by simp) _).alloc (by simp; omega) _
  have hsz : (((w.alloc (.cells #[.func (.func cf) #[] cb] 133)).alloc (.cells #[.int .i64 0] 3)).alloc (.cells #[.bool false] 4)).heap.size = w.heap.size + 1 + 1 + 1 := by simp
  generalize ((w.alloc (.cells #[.func (.func cf) #[] cb] 133)).alloc (.cells #[.int .i64 0] 3)).alloc (.cells #[.bool false] 4) = w0 at b0 b1 b2 hB0 hsz ⊢
  refine wpIn_rangeFunc_ownG rfl (by omega) (gf := 91) (lb := #[]) rfl trivial (enters_of Tryz.func91 (by kernel_rfl) rfl) (ids_seq 5 (by omega) w.heap.size w) belowK_t (belowK_b hB0.size) hB0 (fun _ => rfl)
    (gI w cf cb bf) (gX w bf) ?hI ?hIx ⟨⟨by simp, b0, b1, b2⟩, hB0⟩
    (fun x => { tmps := #[.func (.func 91) #[] #[], .func (.func cf) #[] cb, undef, .pointer (some ⟨w.heap.size, 0, none⟩), .pointer (some ⟨w.heap.size + 1, 0, none⟩), .pointer (some ⟨w.heap.size + 1 + 1, 0, none⟩), .int .i64 ((x.val : Int) + 1), undef, .func (.func 91) #[] #[], .int .i64 ((x.val : Int) + 1), undef, undef, undef, undef, undef], defers := [] })
    ?assign ?body ?done ?stop
  case hI => exact OwnFrom.and (Own.from (fun s A B row hs hg hr => ⟨hs.1, blk_own hs.2.1 hg hr, blk_own hs.2.2.1 hg hr, blk_own hs.2.2.2 hg hr⟩) _) (ownFrom_below (Nat.le_refl _) hB0.size)
  case hIx => exact fun cd => OwnFrom.and (Own.from (fun s A B row hs hg hr => by obtain ⟨hc, ini, x, e1, e2, e3, e4, e5⟩ := hs; exact ⟨hc, ini, x, e1, e2, e3, blk_own e4 hg hr, blk_own e5 hg hr⟩) _) (ownFrom_below (Nat.le_refl _) hB0.size)
  case assign =>
    intro l x W K hK
    gi_wp2
    exact hK
  case body =>
    rintro l pre x W ⟨⟨hp, c0, c1, c2⟩, hB⟩ _
    have hc := CallsIn.inRound l (callsIn_wide (n := 3) |>.2 (hclo x.val W x.isLt hB))
    have q0 := c0.cell 0
    have q1 := c1.cell 0
    have q2 := c2.cell 0
    simp only [List.getElem?_toArray, List.getElem?_cons_zero] at q0 q1 q2
    cases hbx : bf x.val
    · rw [hbx] at hc
      gi_wp2
      refine ⟨trivial, hc.mono ?_⟩
      rintro e V1 ⟨rfl, bb⟩
      gi_wp2
      refine ⟨(keeps_below bb).from _, bb.mono hB.size, ⟨fun y hy => ?_, c0.below bb c0.lt, c1.below bb c1.lt, c2.below bb c2.lt⟩, hB.trans (bb.mono hB.size)⟩
      rcases List.mem_append.1 hy with h | h
      · exact hp y h
      · simp at h; subst h; exact hbx
    · rw [hbx] at hc
      gi_wp2
      refine ⟨trivial, hc.mono ?_⟩
      rintro e V1 ⟨rfl, bb⟩
      have d1 := c1.below bb c1.lt
      have d2 := c2.below bb c2.lt
      have hB1 := hB.trans (bb.mono hB.size)
      have q1 := d1.cell 0
      have f1 := d1.frozen 0
      have q2 := d2.cell 0
      have f2 := d2.frozen 0
      simp only [List.getElem?_toArray, List.getElem?_cons_zero] at q1 q2
      gi_wp2
      have m1 := d1.set_ 0 (.int .i64 ((x.val : Int) + 1))
      have m2 := d2.far (g := w.heap.size + 1 + 1) (p := ⟨w.heap.size + 1, 0, none⟩) (by simp) (.int .i64 ((x.val : Int) + 1))
      have kk : KeepsFrom (w.heap.size + 1 + 1 + 1) W ((V1.setCell ⟨w.heap.size + 1, 0, none⟩ (.int .i64 ((x.val : Int) + 1))).setCell ⟨w.heap.size + 1 + 1, 0, none⟩ (.bool true)) := by
        refine ((keeps_below bb).from _).trans (KeepsFrom.trans ((KeepsOthers.setCell V1 _ _).from _) ((KeepsOthers.setCell _ _ _).from _))
      rw [hsz]
      refine ⟨kk, ⟨rfl, pre, x, rfl, hp, hbx, m1.far (by simp) _, m2.set_ 0 (.bool true)⟩, (hB1.setCell (p := ⟨w.heap.size + 1, 0, none⟩) (by simp) _).setCell (p := ⟨w.heap.size + 1 + 1, 0, none⟩) (by simp; omega) _⟩
  case done =>
    rintro D xs W hD hS ⟨⟨hp, c0, c1, c2⟩, hB⟩ hK
    have hfn : (List.range 24).find? bf = none := find_none7 (fun x : Fin 24 => x.val) bf hS hp
    have q1 := c1.cell 0
    have f1 := c1.frozen 0
    have q2 := c2.cell 0
    have f2 := c2.frozen 0
    simp only [List.getElem?_toArray, List.getElem?_cons_zero] at q1 q2
    gi_wp2
    have m1 := (c1.set_ 0 (.int .i64 0)).far (g := w.heap.size + 1) (p := ⟨w.heap.size + 1 + 1, 0, none⟩) (by simp) (.bool false)
    have m2 := (c2.far (g := w.heap.size + 1 + 1) (p := ⟨w.heap.size + 1, 0, none⟩) (by simp) (.int .i64 0)).set_ 0 (.bool false)
    have hK3 : ((W.setCell ⟨w.heap.size + 1, 0, none⟩ (.int .i64 0)).setCell ⟨w.heap.size + 1 + 1, 0, none⟩ (.bool false)).heap[D]? = some (.deferred (some [])) := (KeepsOthers.setCell _ _ _).same D _ ((KeepsOthers.setCell W _ _).same D _ hK rfl) rfl
    have hB3 := (hB.setCell (p := ⟨w.heap.size + 1, 0, none⟩) (by simp) (.int .i64 0)).setCell (p := ⟨w.heap.size + 1 + 1, 0, none⟩) (by simp; omega) (.bool false)
    generalize (W.setCell ⟨w.heap.size + 1, 0, none⟩ (.int .i64 0)).setCell ⟨w.heap.size + 1 + 1, 0, none⟩ (.bool false) = V3 at m1 m2 hK3 hB3 ⊢
    have hg3 := grownBy_putObj' V3 D (.deferred none)
    have hr3 : ∀ r, some D = some r → ∃ o : Obj, V3.heap[r]? = some o ∧ o.isCells = false := fun r e => by cases e; exact ⟨_, hK3, rfl⟩
    refine ⟨by simp, .inl ⟨_, _, rfl, run_takeDeferred hK3, ?_⟩⟩
    refine ⟨_, results_cells2i rfl _ _ (w.heap.size + 1) (w.heap.size + 1 + 1) _ _ rfl rfl (int_load _ _ _ _ (blk_own m1 hg3 hr3)) (bool_load _ _ _ _ (blk_own m2 hg3 hr3)), ?_⟩
    exact ⟨0, false, rfl, .inr ⟨hfn, rfl, rfl⟩, hB3.trans (belowK_b (w := w) (Nat.le_refl _) V3 D _ _ (by omega) hK3 rfl rfl)⟩
  case stop =>
    rintro D cd pre W hD ⟨k, hk, hpre⟩ ⟨⟨rfl, ini, x, rfl, h1, h2, c1, c2⟩, hB⟩ hK
    have hfx : (List.range 24).find? bf = some x.val := find_pre (fun x : Fin 24 => x.val) bf (k := k) (by rw [hpre, List.take_range, Nat.min_eq_left (by omega)]) h1 h2
    have hg3 := grownBy_putObj' W D (.deferred none)
    have hr3 : ∀ r, some D = some r → ∃ o : Obj, W.heap[r]? = some o ∧ o.isCells = false := fun r e => by cases e; exact ⟨_, hK, rfl⟩
    gi_wp2
    refine ⟨by simp, .inl ⟨_, _, rfl, run_takeDeferred hK, ?_⟩⟩
    refine ⟨_, results_cells2i rfl _ _ (w.heap.size + 1) (w.heap.size + 1 + 1) _ _ rfl rfl (int_load _ _ _ _ (blk_own c1 hg3 hr3)) (bool_load _ _ _ _ (blk_own c2 hg3 hr3)), ?_⟩
    exact ⟨_, true, rfl, .inl ⟨_, hfx, rfl, rfl⟩, hB.trans (belowK_b (w := w) (Nat.le_refl _) W D _ _ (by omega) hK rfl rfl)⟩
def freeB (L : List Nl) (k : Nat) : Bool := (L.find? (fun x => x.1.i == ((k : Int) + 1))).isNone
theorem RowR.free {L : List Nl} {k : Nat} {r : Nl} {b : Bool} (h : RowR L ((k : Int) + 1) r b) : freeB L k = !b := by
  unfold freeB
  rcases h with ⟨h, rfl⟩ | ⟨h, _, rfl⟩ <;> rw [h] <;> rfl
set_option maxRecDepth 100000 in
set_option maxHeartbeats 2000000 in
theorem free1_any (A : Option Addr) (m c : Nat) (L : List Nl) (k : Nat) (gp : Nat) (w : World) (hP : Po w w.heap.size A L) (hm : m = L.length) (hmc : m ≤ c) (h6 : m ≤ 1000000) (hg : Boxed w gp 24 (.slice A m c)) :
    Calls Tryz.prog 92 #[.int .i64 ((k : Int) + 1), .pointer (some ⟨gp, 0, none⟩)] w fun e w' => e = .returned (.bool (freeB L k)) ∧ Below w.heap.size w w' := by
  have HM := Lib.hid hm
  have HP := Lib.hid hP
  clear hm hP
  go_enter Tryz.func92, Tryz.ntmps92
  go_wp2_with (refine wpList_load_row rfl 24 (.tmp 1) rfl gp rfl 24 #[.slice A m c] (0, 0) _ hg Tryz.underlying24 rfl rfl ?_)
  refine (row_any A m c L ((k : Int) + 1) w HP.out HM.out hmc h6).mono ?_
  rintro e w1 ⟨r, b, rfl, hr1, b1⟩
  have he := hr1.free
  clear hr1
  have HE := Lib.hid he
  clear he
  unfold ndV
  go_wp2_with (refine wpList_store_blk rfl 46 (.tmp 4) (.tmp 10) rfl w1.heap.size (ndC nl0) (ndC r) 46 rfl rfl (Blk.new _ _ _) rfl (nd_inf r) (nd_one r) ?_; intro w4 h4 n4)
  go_ret
  refine ⟨?_, (b1.alloc b1.size _).trans (n4.below _ b1.size (by have := b1.size; simp; omega))⟩
  rw [HE.out]
  cases b <;> rfl
set_option maxRecDepth 100000 in
set_option maxHeartbeats 2000000 in
theorem leastFree_any (A : Option Addr) (m c : Nat) (L : List Nl) (w : World) (hP : Po w w.heap.size A L) (hm : m = L.length) (hmc : m ≤ c) (h6 : m ≤ 1000000) :
    Calls Tryz.prog 68 #[poV A m c] w fun e w' =>
      ∃ r b, e = .returned (.tuple #[.int .i64 r, .bool b]) ∧ ((∃ i, (List.range 24).find? (freeB L) = some i ∧ r = (i : Int) + 1 ∧ b = true) ∨ (List.range 24).find? (freeB L) = none ∧ r = 0 ∧ b = false) ∧ Below w.heap.size w w' := by
  have k0 := Boxed.new w 24 (.slice A m c)
  have B0 := (Below.refl w.heap.size w).alloc (Nat.le_refl _) (.cells #[.slice A m c] 24)
  have HM := Lib.hid hm
  have HP := Lib.hid hP
  clear hm hP
  unfold poV
  go_enter Tryz.func68, Tryz.ntmps68
  go_wp2_with fail
  refine (callsIn_wide.1 (firsti_in 92 #[.pointer (some ⟨w.heap.size, 0, none⟩)] (freeB L) _ (enters_of Tryz.func92 (by kernel_rfl) rfl)
    (fun i W hi hW => free1_any A m c L i w.heap.size W (((HP.out.below (B0.trans (hW.mono B0.size)) (Nat.le_refl _))).more (B0.trans (hW.mono B0.size)).size) HM.out hmc h6 (boxed_below k0 hW k0.lt)))).mono ?_
  rintro e w1 ⟨r, b, rfl, hr, b1⟩
  have HR := Lib.hid hr
  clear hr
  have b2 := B0.trans (b1.mono B0.size)
  clear b1
  go_wp2
  refine bodyPost_ret (results_tmp2 rfl _ _ _) rfl ?_
  exact ⟨r, b, rfl, HR.out, b2⟩
end Go.Proofs.YtelfdpcenplhjaaGreatDoor
namespace Go.Proofs.YtelfdpcenplhjaaGreatDoor
open Go.RowKit Go.Shelf
set_option linter.unusedVariables false
set_option linter.unusedSimpArgs false
theorem region_cutM {P : Program} {id : Nat} {ops : Array Oper} {dr : Bool} {Q : Exit → Act → World → Prop} {a : Act} {w : World} (h : (Code.region id ops dr).wp P (fun e a' w' => e = .normal ∧ Q .normal a' w') a w) : (Code.region id ops dr).wp P Q a w :=
  Code.wp_mono (fun e a' w' ⟨he, h⟩ => by subst he; exact h) h
def PlaceR (L : List Nl) (id r : Int) : Prop := (∃ k : Nat, r = k ∧ k < L.length ∧ (L.getD k nl0).1.i = id ∧ ∀ j, j < k → (L.getD j nl0).1.i ≠ id) ∨ r = -1 ∧ ∀ j, j < L.length → (L.getD j nl0).1.i ≠ id
set_option maxRecDepth 100000 in
set_option maxHeartbeats 2000000 in
theorem indexf_any (A : Option Addr) (m c : Nat) (L : List Nl) (id : Int) (gc : Nat) (w : World) (hP : Po w w.heap.size A L) (hm : m = L.length) (hmc : m ≤ c) (h6 : m ≤ 1000000) (hc : Boxed w gc 3 (.int .i64 id)) :
    Calls Tryz.prog 75 #[.slice A m c, .func (.func 82) #[] #[.pointer (some ⟨gc, 0, none⟩)]] w fun e w' => ∃ r, e = .returned (.int .i64 r) ∧ PlaceR L id r ∧ Below w.heap.size w w' := by
  have B0 := Below.refl w.heap.size w
  have HM := Lib.hid hm
  have HC := Lib.hid hc
  clear hm hc
  have ec := enters_of Tryz.func82 (by kernel_rfl) rfl
  go_enter Tryz.func75, Tryz.ntmps75
  go_wp2_with fail
  go_loopw [8] (fun i wr' => ∃ (k : Nat) (wr : World), wr = wr' ∧ k ≤ m ∧ i = .int .i64 k ∧ Hid (∀ j, j < k → (L.getD j nl0).1.i ≠ id) ∧ Below w.heap.size w wr) (fun i _ => m - (intOf i).toNat)
  case atStart => exact ⟨0, _, rfl, Nat.zero_le _, rfl, Lib.hid (fun j hj => absurd hj (Nat.not_lt_zero j)), B0⟩
  case round =>
    clear B0
    obtain ⟨k, wr, hwr, hk, rfl, hall, hB⟩ := hrel
    subst hwr
    by_cases hlt : k < m
    · have hlt' : (k : Int) < (m : Int) := by omega
      have hkl : k < L.length := by have := HM.out; omega
      obtain ⟨b, off, rfl, hb, hc⟩ := (hP.below hB (Nat.le_refl _)).at_ k hkl
      have HK := Lib.hid hkl
      generalize hx : L.getD k nl0 = x at hc
      have HX := Lib.hid hx
      clear hx hkl
      have hs2 : (ndC x).size = 7 := nd_size x
      have hcl := called1_any x id gc wr (boxed_below HC.out hB HC.out.lt)
      go_wp2_with (refine wpList_load_mid rfl 46 (.tmp 14) rfl b (off + k * 7) rfl (ndC x).toList _ hc Tryz.underlying46 rfl (nd_infL x) ?_)
      refine hcl.mono ?_
      rintro e w1 ⟨rfl, bb⟩
      have hB1 := hB.trans (bb.mono hB.size)
      clear bb hc hb
      cases hxi : (x.1.i == id)
      · have hne : x.1.i ≠ id := by simpa using hxi
        have HN := Lib.hid hne
        clear hxi hne
        go_wp2_with fail
        go_roundw
        case rel =>
          refine ⟨k + 1, _, rfl, by omega, by go_num, Lib.hid (fun j hj => ?_), hB1⟩
          rcases Nat.lt_succ_iff_lt_or_eq.1 hj with h | rfl
          · exact hall.out j h
          · rw [HX.out]; exact HN.out
        case measure => simp [intOf]; omega
      · have he : x.1.i = id := by simpa using hxi
        have HN := Lib.hid he
        clear hxi he
        go_wp2_with fail
        go_ret
        exact ⟨_, rfl, .inl ⟨k, rfl, HK.out, by rw [HX.out]; exact HN.out, hall.out⟩, hB1⟩
    · obtain rfl : k = m := by omega
      go_wp2_with fail
      go_ret
      exact ⟨_, rfl, .inr ⟨rfl, by rw [← HM.out]; exact hall.out⟩, hB⟩
set_option maxRecDepth 100000 in
set_option maxHeartbeats 2000000 in
theorem place_any (A : Option Addr) (m c : Nat) (L : List Nl) (id : Int) (w : World) (hP : Po w w.heap.size A L) (hm : m = L.length) (hmc : m ≤ c) (h6 : m ≤ 1000000) :
    Calls Tryz.prog 42 #[poV A m c, .int .i64 id] w fun e w' => ∃ r, e = .returned (.int .i64 r) ∧ PlaceR L id r ∧ Below w.heap.size w w' := by
  have kp := Boxed.new w 24 (.slice A m c)
  have B0 := (Below.refl w.heap.size w).alloc (Nat.le_refl _) (.cells #[.slice A m c] 24)
  have HM := Lib.hid hm
  clear hm
  unfold poV
  go_enter Tryz.func42, Tryz.ntmps42
  have k2 := kp.cell
  go_wp2_with fail
  clear k2
  generalize w.alloc (.cells #[.slice A m c] 24) = w1 at kp B0 ⊢
  have HS : Below w1.heap.size w1 w1.drew := (Below.refl _ _).drew
  refine region_cutM ?_
  refine wp_region_held_drew (S := fun V => Below w1.heap.size w1 V) (by kernel_rfl) HS (fun _ => ?_)
  refine wpAnyH_take (i := 0) (v := .pointer (some ⟨w.heap.size, 0, none⟩)) rfl (by kernel_rfl) (by kernel_rfl) (by kernel_rfl) (fun _ _ _ h => nomatch h.1) (.inl ⟨by rfl, fun V hV => by go_simp⟩) HS ?_
  try simp only [Act.put, List.getElem_toArray, List.getElem_cons_zero, List.getElem_cons_succ, List.setIfInBounds_toArray, List.set_cons_zero, List.set_cons_succ]
  refine wpAnyH_take (i := 1) (v := .slice A m c) rfl (by kernel_rfl) (by kernel_rfl) (by kernel_rfl) (fun _ _ _ h => nomatch h.1) (.inl ⟨by rfl, fun V hV => by have c0 := (boxed_below kp hV kp.lt).cell; go_simp⟩) HS ?_
  try simp only [Act.put, List.getElem_toArray, List.getElem_cons_zero, List.getElem_cons_succ, List.setIfInBounds_toArray, List.set_cons_zero, List.set_cons_succ]
  refine wpAnyH_take (i := 2) (v := .int .i64 id) rfl (by kernel_rfl) (by kernel_rfl) (by kernel_rfl) (fun _ _ _ h => nomatch h.1) (.inl ⟨by rfl, fun V hV => by go_simp⟩) HS ?_
  try simp only [Act.put, List.getElem_toArray, List.getElem_cons_zero, List.getElem_cons_succ, List.setIfInBounds_toArray, List.set_cons_zero, List.set_cons_succ]
  refine wpAnyH_ready (rs := [3]) (by kernel_rfl) (by simp) ?_
  refine AllReadyH.cons rfl (fun K hK => ?_) AllReadyH.nil
  try simp only [Act.put, List.getElem_toArray, List.getElem_cons_zero, List.getElem_cons_succ, List.setIfInBounds_toArray, List.set_cons_zero, List.set_cons_succ]
  go_simp
  refine (called_box id _).mono ?_
  rintro e V1 ⟨gc, rfl, hc, bb⟩
  go_wp2_with fail
  have J1 := HS.trans (bb.mono HS.size)
  clear bb
  refine hK.out _ _ J1 (fun _ => ?_)
  clear hK K
  try simp only [Act.put, List.getElem_toArray, List.getElem_cons_zero, List.getElem_cons_succ, List.setIfInBounds_toArray, List.set_cons_zero, List.set_cons_succ]
  refine wpAnyH_ready (rs := [4]) (by kernel_rfl) (by simp) ?_
  refine AllReadyH.cons rfl (fun K hK => ?_) AllReadyH.nil
  try simp only [Act.put, List.getElem_toArray, List.getElem_cons_zero, List.getElem_cons_succ, List.setIfInBounds_toArray, List.set_cons_zero, List.set_cons_succ]
  go_simp
  have b2 := B0.trans (J1.mono B0.size)
  refine (indexf_any A m c L id gc V1 ((hP.below b2 (Nat.le_refl _)).more b2.size) HM.out hmc h6 hc).mono ?_
  rintro e w3 ⟨r, rfl, hr, bb⟩
  have HR := Lib.hid hr
  have J2 := J1.trans (bb.mono J1.size)
  have b3 := b2.trans (bb.mono b2.size)
  clear bb b2 hr
  go_wp2_with fail
  refine hK.out _ _ J2 (fun _ => ?_)
  clear hK K
  try simp only [Act.put, List.getElem_toArray, List.getElem_cons_zero, List.getElem_cons_succ, List.setIfInBounds_toArray, List.set_cons_zero, List.set_cons_succ]
  refine wpAnyH_ready (rs := [5]) (by kernel_rfl) (by simp) ?_
  refine AllReadyH.cons rfl (fun K hK => ?_) AllReadyH.nil
  try simp only [Act.put, List.getElem_toArray, List.getElem_cons_zero, List.getElem_cons_succ, List.setIfInBounds_toArray, List.set_cons_zero, List.set_cons_succ]
  go_simp
  refine hK.out _ _ J2 (fun _ => ?_)
  clear hK K
  try simp only [Act.put, List.getElem_toArray, List.getElem_cons_zero, List.getElem_cons_succ, List.setIfInBounds_toArray, List.set_cons_zero, List.set_cons_succ]
  refine wpAnyH_done (by kernel_rfl) ?_ _
  refine ⟨rfl, ?_⟩
  go_wp2_with fail
  go_ret
  exact ⟨r, rfl, HR.out, b3⟩
end Go.Proofs.YtelfdpcenplhjaaGreatDoor
namespace Go.Proofs.YtelfdpcenplhjaaGreatDoor
open Go.RowKit Go.Shelf
set_option linter.unusedVariables false
set_option linter.unusedSimpArgs false
set_option maxRecDepth 100000 in
set_option maxHeartbeats 2000000 in
theorem take1_any (A : Option Addr) (m c : Nat) (L : List Nl) (id : Int) (gq gi : Nat) (w : World) (hP : Po w w.heap.size A L) (hm : m = L.length) (hmc : m ≤ c) (h6 : m ≤ 1000000) (kq : Boxed w gq 24 (.slice A m c)) (ki : Boxed w gi 3 (.int .i64 id))
    (hz : ∀ b off o, A = some ⟨b, off, none⟩ → w.frozen? ⟨b, o, none⟩ = false) :
    Calls Tryz.prog 41 #[.pointer (some ⟨gq, 0, none⟩), .pointer (some ⟨gi, 0, none⟩)] w fun e w' =>
      (∃ (k b off : Nat) (w1 : World), PlaceR L id k ∧ k < L.length ∧ A = some ⟨b, off, none⟩ ∧ b < w.heap.size ∧ e = .returned (.int .i64 0) ∧ Below w.heap.size w w1 ∧ w' = w1.setCell ⟨b, off + k * 7 + 4, none⟩ (.int .i64 (IntKind.i64.wrap ((L.getD k nl0).1.k + 1)))) ∨
      (PlaceR L id (-1) ∧ e = .returned (.int .i64 4) ∧ Below w.heap.size w w') := by
  have B0 := Below.refl w.heap.size w
  have HPL := Lib.hid (fun (V : World) (hV : Below w.heap.size w V) => place_any A m c L id V ((hP.below hV (Nat.le_refl _)).more hV.size) hm hmc h6)
  have HM := Lib.hid hm
  clear hm
  have kB : Blk w gq #[.slice A m c] 24 := ⟨kq⟩
  go_enter Tryz.func41, Tryz.ntmps41
  go_wp2_with fail
  have HS : Below w.heap.size w w.drew := B0.drew
  refine region_cutM ?_
  refine wp_region_held_drew (S := fun V => Below w.heap.size w V) (by kernel_rfl) HS (fun _ => ?_)
  refine wpAnyH_take (i := 0) (v := .pointer (some ⟨gq, 0, none⟩)) rfl (by kernel_rfl) (by kernel_rfl) (by kernel_rfl) (fun _ _ _ h => nomatch h.1) (.inl ⟨by rfl, fun V hV => by go_simp⟩) HS ?_
  try simp only [Act.put, List.getElem_toArray, List.getElem_cons_zero, List.getElem_cons_succ, List.setIfInBounds_toArray, List.set_cons_zero, List.set_cons_succ]
  refine wpAnyH_take (i := 1) (v := .pointer (some ⟨gq, 0, none⟩)) rfl (by kernel_rfl) (by kernel_rfl) (by kernel_rfl) (fun _ _ _ h => nomatch h.1) (.inl ⟨by rfl, fun V hV => by go_simp⟩) HS ?_
  try simp only [Act.put, List.getElem_toArray, List.getElem_cons_zero, List.getElem_cons_succ, List.setIfInBounds_toArray, List.set_cons_zero, List.set_cons_succ]
  refine wpAnyH_take (i := 2) (v := .agg #[.slice A m c]) rfl (by kernel_rfl) (by kernel_rfl) (by kernel_rfl) (fun _ _ _ h => nomatch h.1) (yieldsIf_blk (by rfl) 24 (.tmp 6) rfl gq rfl #[.slice A m c] 24 _ (fun V hV => kB.below hV kB.lt) Tryz.underlying24 rfl rfl) HS ?_
  try simp only [Act.put, List.getElem_toArray, List.getElem_cons_zero, List.getElem_cons_succ, List.setIfInBounds_toArray, List.set_cons_zero, List.set_cons_succ]
  refine wpAnyH_take (i := 3) (v := .int .i64 id) rfl (by kernel_rfl) (by kernel_rfl) (by kernel_rfl) (fun _ _ _ h => nomatch h.1) (.inl ⟨by rfl, fun V hV => by have c0 := (boxed_below ki hV ki.lt).cell; go_simp⟩) HS ?_
  try simp only [Act.put, List.getElem_toArray, List.getElem_cons_zero, List.getElem_cons_succ, List.setIfInBounds_toArray, List.set_cons_zero, List.set_cons_succ]
  refine wpAnyH_ready (rs := [4]) (by kernel_rfl) (by simp) ?_
  refine AllReadyH.cons rfl (fun K hK => ?_) AllReadyH.nil
  try simp only [Act.put, List.getElem_toArray, List.getElem_cons_zero, List.getElem_cons_succ, List.setIfInBounds_toArray, List.set_cons_zero, List.set_cons_succ]
  go_simp
  refine (HPL.out _ HS).mono ?_
  rintro e w1 ⟨r, rfl, hr, bb⟩
  have b1 := HS.trans (bb.mono HS.size)
  go_wp2_with fail
  refine hK.out _ _ b1 (fun _ => ?_)
  clear hK K
  try simp only [Act.put, List.getElem_toArray, List.getElem_cons_zero, List.getElem_cons_succ, List.setIfInBounds_toArray, List.set_cons_zero, List.set_cons_succ]
  refine wpAnyH_ready (rs := [5]) (by kernel_rfl) (by simp) ?_
  refine AllReadyH.cons rfl (fun K hK => ?_) AllReadyH.nil
  try simp only [Act.put, List.getElem_toArray, List.getElem_cons_zero, List.getElem_cons_succ, List.setIfInBounds_toArray, List.set_cons_zero, List.set_cons_succ]
  go_simp
  refine hK.out _ _ b1 (fun _ => ?_)
  clear hK K
  try simp only [Act.put, List.getElem_toArray, List.getElem_cons_zero, List.getElem_cons_succ, List.setIfInBounds_toArray, List.set_cons_zero, List.set_cons_succ]
  refine wpAnyH_done (by kernel_rfl) ?_ _
  refine ⟨rfl, ?_⟩
  have kq1 := boxed_below kq b1 kq.lt
  have q2 := kq1.cell
  clear HPL ki HS bb
  have key : (∃ k : Nat, r = k ∧ k < L.length) ∨ r = -1 := by
    rcases hr with ⟨k, h1, h2, _⟩ | ⟨h1, _⟩
    · exact .inl ⟨k, h1, h2⟩
    · exact .inr h1
  have HR := Lib.hid hr
  clear hr
  rcases key with ⟨k, rfl, hk⟩ | rfl
  · have hlt : (k : Int) < (m : Int) := by have := HM.out; omega
    obtain ⟨b, off, rfl, hb, hc⟩ := (hP.below b1 (Nat.le_refl _)).at_ k hk
    have hfz : w1.frozen? ⟨b, off + k * 7 + 4, none⟩ = false := by
      have h0 := hz b off (off + k * 7 + 4) rfl
      have hbk := b1.block b hb
      simpa [World.frozen?, hbk] using h0
    have hc4 : w1.cell? ⟨b, off + k * 7 + 4, none⟩ = some (.int .i64 (L.getD k nl0).1.k) := by
      have := hc 4 (.int .i64 (L.getD k nl0).1.k) rfl
      simpa [Nat.add_assoc] using this
    have hkk := ((hP.nr (L.getD k nl0) (by rw [show L.getD k nl0 = L[k] by simp [List.getD, hk]]; exact List.getElem_mem hk)).ok.k)
    obtain ⟨kx, hkx⟩ : ∃ kx, (L.getD k nl0).1.k = kx := ⟨_, rfl⟩
    rw [hkx] at hc4 hkk
    have HKX := Lib.hid hkx
    obtain ⟨kk0, kk1⟩ := hkk
    obtain ⟨kw, hkw⟩ : ∃ kw, IntKind.i64.wrap (kx + 1) = kw := ⟨_, rfl⟩
    have HKW := Lib.hid hkw
    clear hkx hkw hc
    go_wp2_with fail
    go_ret
    refine .inl ⟨k, b, off, w1, HR.out, hk, rfl, hb, rfl, b1, ?_⟩
    rw [HKX.out]
    simp [wrap64, IntKind.wrap_i64]
  · go_wp2_with fail
    go_ret
    exact .inr ⟨HR.out, rfl, b1⟩
end Go.Proofs.YtelfdpcenplhjaaGreatDoor

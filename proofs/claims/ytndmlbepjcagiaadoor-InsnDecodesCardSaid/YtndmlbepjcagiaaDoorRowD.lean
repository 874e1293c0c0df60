/-
  insn.row over bytes: the instructions, one behind the other.
-/
import Derived.Test.YtndmlbepjcagiaaDoorChunkB
import Derived.Test.YtndmlbepjcagiaaDoorDec
import Derived.Test.YtndmlbepjcagiaaDoorRowE
namespace Go.Proofs.YtndmlbepjcagiaaDoor
open Go.RowKit Go.Shelf
attribute [local go_sem] Oper.semAt_some

/-- The instruction of the eight bytes at place x. -/
def dI (l : List Int) (x : Nat) : Ins := (dC ((l.drop (x * 8)).take 8), dA ((l.drop (x * 8)).take 8), dB ((l.drop (x * 8)).take 8), dK ((l.drop (x * 8)).take 8))
def celI (x : Ins) : List Value := [.int .u16 x.1, .int .u8 x.2.1, .int .u8 x.2.2.1, .int .u32 x.2.2.2]
theorem cel_one (x : Ins) : ∀ u ∈ celI x, u.oneCell' = true := by
  intro u hu
  simp only [celI, List.mem_cons, List.not_mem_nil, or_false] at hu
  rcases hu with rfl | rfl | rfl | rfl <;> rfl
theorem insn_info : (Tryd.prog.info? 48).map (fun i => (i.zero, i.size, i.bytes)) = some (some (.agg #[.int .u16 0, .int .u8 0, .int .u8 0, .int .u32 0]), 4, 8) := by kernel_rfl

/-- Appending instructions to the call's own. -/
theorem run_append_insn {w : World} (ty : TypeId) (base : Nat) (A : Option Addr) (n c : Nat) (cs : List Value) (hown : w.ownsRow base 48 4 (.slice A n c) n cs)
    (g m c' : Nat) (news : List Value) (hr : w.heap[g]? = some (.cells news.toArray 48 (0, 0))) (hl' : news.length = m * 4) (h1 : ∀ u ∈ news, u.oneCell' = true) (hsz : n + m ≤ 1000000) (hbase : base ≤ w.heap.size) :
    ∃ A'' c'' w', (Builtin.append_ #[37, 37] ty #[.slice A n c, .slice (some ⟨g, 0, none⟩) m c']).run Tryd.prog w = .ok (.slice A'' (n + m) c'') w' ∧ w'.ownsRow base 48 4 (.slice A'' (n + m) c'') (n + m) (cs ++ news) ∧ Below base w w' ∧ KeepsOthers w w' := by
  obtain ⟨i, hi, hz, hs1, hb1⟩ := info_parts insn_info
  obtain ⟨v', w', hrun, h2, h3, _, _⟩ := run_append_own_at (P := Tryd.prog) w base 37 ty 48 i _ 4 8 Tryd.underlying37 hi hz hs1 hb1 rfl (by decide) _ n cs hown ⟨g, 0, none⟩ m c' news hl' (by
      intro j u hj
      have ea : (⟨g, 0, none⟩ : Addr).add j = ⟨g, j, none⟩ := by
        unfold Addr.add
        by_cases h0 : j = 0 <;> simp [h0]
      rw [ea]
      simp only [World.cell?, hr]
      simpa using hj) h1 (by simp only [maxLen]; omega) (by omega) hbase
  obtain ⟨A'', c'', rfl⟩ := own_slice h2
  refine ⟨A'', c'', w', hrun, h2, (Below.refl _ _).grown h3 hbase fun k hk => (hown.lt k hk).1, KeepsOthers.of_grownBy h3 fun j o ej hj => ?_⟩
  rcases hown.2 with ⟨hv, _⟩ | ⟨g', cap, cur, hv, _, hgb, _⟩
  · rw [hv] at ej; simp [Value.ownBlock] at ej
  · rw [hv] at ej
    obtain rfl : g' = j := by simpa [Value.ownBlock] using ej
    rw [hgb] at hj; cases hj; rfl
theorem piece8 {w : World} {B m L x : Nat} {A : Option Addr} {l : List Int} (h : Rd w B A L l) (hL : L = m * 8) (hx : x < m) : ∃ b off, A = some ⟨b, off, none⟩ ∧ Rd w B (some ⟨b, off + x * 8, none⟩) 8 ((l.drop (x * 8)).take 8) := by
  obtain ⟨b, off, e, hr⟩ := h.cut (k := x * 8) (by omega)
  exact ⟨b, off, e, hr.take (by omega)⟩

set_option maxHeartbeats 1000000 in
theorem dec1_any (A : Option Addr) (l : List Int) (w : World) (hr : Rd w w.heap.size A 8 l) :
    Calls Tryd.prog 39 #[.slice A 8 8] w fun e w' => ∃ g, e = .returned (.slice (some ⟨g, 0, none⟩) 1 1) ∧ w.heap.size ≤ g ∧ w'.heap[g]? = some (.cells (celI (dC l, dA l, dB l, dK l)).toArray 48 (0, 0)) ∧ Below w.heap.size w w' := by
  have hl : l.take 8 = l := List.take_of_length_le (by rw [hr.len]; omega)
  have hd := dec_ok A 8 8 l w hr (by omega) (by omega) (by omega)
  rw [hl] at hd
  go_enter Tryd.func39, Tryd.ntmps39
  go_wp2_with fail
  refine hd.mono ?_
  unfold insV
  rintro e w1 ⟨rfl, hb1⟩
  go_wp2_with fail
  go_ret
  have hh := heap_alloc_new (w1.alloc (.cells #[.int .u16 (dC l), .int .u8 (dA l), .int .u8 (dB l), .int .u32 (dK l)] 48)) (.cells #[.int .u16 (dC l), .int .u8 (dA l), .int .u8 (dB l), .int .u32 (dK l)] 48)
  rw [World.size_alloc] at hh
  exact ⟨_, rfl, by have := hb1.size; omega, hh, (hb1.alloc hb1.size _).alloc (by have := hb1.size; simp; omega) _⟩

set_option maxRecDepth 100000 in
set_option maxHeartbeats 4000000 in
theorem rowD_any (A : Option Addr) (m L cap : Nat) (l : List Int) (w : World) (hA : Rd w w.heap.size A L l) (hL : L = m * 8) (hcap : L ≤ cap) (hm : m ≤ 300) :
    Calls Tryd.prog 38 #[.slice A L cap, .int .i64 8, .func (.func 39) #[] #[]] w fun e w' =>
      ∃ A' c', e = .returned (.slice A' m c') ∧ w'.ownsRow w.heap.size 48 4 (.slice A' m c') m ((List.range m).flatMap fun k => celI (dI l k)) ∧ Below w.heap.size w w' := by
  have HL := Lib.hid hL
  clear hL
  refine (callsIn_wide (n := 6)).1 ?_
  refine callsIn_of_wp_marks Tryd.func38 rfl trivial ?_ rfl
  simp only [Tryd.ntmps38, List.size_toArray, List.length_cons, List.length_nil, Nat.reduceAdd, Nat.reduceSub, Array.replicate_succ, Array.replicate_zero, List.push_toArray, List.append_toArray, List.nil_append, List.cons_append]
  refine wpIn_wide.2 ?_
  go_wp2_with (go_at_call 49; refine (chunkB_any A L cap _).mono ?_; rintro e w' ⟨rfl, rfl⟩)
  have bF := ((((Boxed.new w 75 (.func (.func 39) #[] #[])).alloc (.cells #[.slice none 0 0] 37)).alloc (.cells #[.slice A L cap] 39)).alloc (.cells #[.int .i64 8] 3))
  have bW := (((Boxed.new (w.alloc (.cells #[.func (.func 39) #[] #[]] 75)) 37 (.slice none 0 0)).alloc (.cells #[.slice A L cap] 39)).alloc (.cells #[.int .i64 8] 3))
  have b1 := ((Boxed.new ((w.alloc (.cells #[.func (.func 39) #[] #[]] 75)).alloc (.cells #[.slice none 0 0] 37)) 39 (.slice A L cap)).alloc (.cells #[.int .i64 8] 3))
  have b2 := Boxed.new (((w.alloc (.cells #[.func (.func 39) #[] #[]] 75)).alloc (.cells #[.slice none 0 0] 37)).alloc (.cells #[.slice A L cap] 39)) 3 (.int .i64 8)
  have hB0 : Below w.heap.size w ((((w.alloc (.cells #[.func (.func 39) #[] #[]] 75)).alloc (.cells #[.slice none 0 0] 37)).alloc (.cells #[.slice A L cap] 39)).alloc (.cells #[.int .i64 8] 3)) :=
    ((((Below.refl _ w).alloc (Nat.le_refl _) _).alloc (by simp) _).alloc (by simp; omega) _).alloc (by simp; omega) _
  simp only [World.size_alloc] at bF bW b1 b2
  have hsz : ((((w.alloc (.cells #[.func (.func 39) #[] #[]] 75)).alloc (.cells #[.slice none 0 0] 37)).alloc (.cells #[.slice A L cap] 39)).alloc (.cells #[.int .i64 8] 3)).heap.size = w.heap.size + 1 + 1 + 1 + 1 := by simp
  obtain ⟨w0, hw0⟩ : ∃ w0, ((((w.alloc (.cells #[.func (.func 39) #[] #[]] 75)).alloc (.cells #[.slice none 0 0] 37)).alloc (.cells #[.slice A L cap] 39)).alloc (.cells #[.int .i64 8] 3)) = w0 := ⟨_, rfl⟩
  rw [hw0] at bF bW b1 b2 hB0 hsz ⊢
  clear hw0
  have hsome : 0 < m → ∃ b off, A = some ⟨b, off, none⟩ := fun h => by obtain ⟨b, off, e, _⟩ := hA.cells (by have := HL.out; omega); exact ⟨b, off, e⟩
  refine (wpIn_wide (n := 6)).1 ?_
  refine wpIn_rangeFunc_ownG rfl (by omega) (gf := 52) (lb := #[.pointer (some ⟨w.heap.size + 1 + 1, 0, none⟩), .pointer (some ⟨w.heap.size + 1 + 1 + 1, 0, none⟩)]) rfl trivial (enters_of Tryd.func52 (by kernel_rfl) rfl)
    (chunkB_stops 5 (by omega) (w.heap.size + 1) (w.heap.size + 1 + 1) (w.heap.size + 1 + 1 + 1) m L cap A HL.out hcap hm w0 (by omega) (by omega) hsome b1 b2) keepC_t (keepC_b (by omega) (by omega) (by omega)) (Below.refl _ _) (fun _ => rfl)
    (fun (pre : List (Fin m)) W => (∃ v, Boxed W (w.heap.size + 1) 37 v ∧ W.ownsRow w0.heap.size 48 4 v pre.length (pre.flatMap fun x => celI (dI l x.val)) ∧ True) ∧ KeepC (w.heap.size + 1) (w.heap.size + 1 + 1) (w.heap.size + 1 + 1 + 1) w0 W)
    (fun _ _ _ => False)
    (OwnFrom.and (Own.from (holdsRow_own w0.heap.size (w.heap.size + 1) 37 48 4 (fun (pre : List (Fin m)) => pre.length) (fun pre => pre.flatMap fun x => celI (dI l x.val)) (fun _ _ => True)) _) (keepC_own (by omega) (by omega) (by omega) (by omega) (by omega) (by omega)))
    (fun _ _ _ _ _ hs _ _ => hs)
    ⟨⟨_, bW, World.ownsRow_nil _ _ _ _, trivial⟩, keepC_refl _ _ _ _⟩
    (fun x => { tmps := #[.slice A L cap, .int .i64 8, .func (.func 39) #[] #[], undef, undef, .pointer (some ⟨w.heap.size, 0, none⟩), .slice none 0 0, .pointer (some ⟨w.heap.size + 1, 0, none⟩), .slice (A.map fun p => ⟨p.block, p.off + x.val * 8, none⟩) 8 8, .slice A L cap, .int .i64 8,
      .func (.func 52) #[] #[.pointer (some ⟨w.heap.size + 1 + 1, 0, none⟩), .pointer (some ⟨w.heap.size + 1 + 1 + 1, 0, none⟩)], .slice (A.map fun p => ⟨p.block, p.off + x.val * 8, none⟩) 8 8, undef, undef, undef, undef, undef, undef], defers := [] }) ?assign ?body ?done ?stop
  case assign =>
    intro lp x W K hK
    gi_wp2
    exact hK
  case body =>
    rintro lp pre ⟨x, hx⟩ W ⟨⟨v, hv, hrow, _⟩, hk⟩ hlt
    obtain ⟨A', c', rfl⟩ := own_slice hrow
    obtain ⟨b, off, rfl, hp⟩ := piece8 (hA.below (hB0.trans (hk.1.mono (by omega)))) HL.out hx
    have hF := (boxed_below bF hk.1 (by omega)).cell
    have hc := hv.cell
    have hlen : pre.length + 1 ≤ 1000000 := by omega
    have hvd : Boxed W.drew (w.heap.size + 1) 37 (.slice A' pre.length c') := hv
    have howd : W.drew.ownsRow w0.heap.size 48 4 (.slice A' pre.length c') pre.length (pre.flatMap fun x => celI (dI l x.val)) := hrow
    have hpd : Rd W.drew W.drew.heap.size (some ⟨b, off + x * 8, none⟩) 8 ((l.drop (x * 8)).take 8) := (hp.more (Nat.le_trans hB0.size (Nat.le_trans (Nat.le_refl _) hk.1.size))).drew
    simp only [Option.map_some]
    gi_wp2
    gi_region_with (first
      | (refine ⟨trivial, ?_⟩; gi_at_call 39; refine (CallsIn.inRound lp (callsIn_wide.2 (dec1_any (some ⟨b, off + x * 8, none⟩) _ W.drew hpd))).mono ?_; rintro e W1 ⟨g, rfl, hg, hwh, hbb⟩; have hv1 := boxed_below hvd hbb hvd.lt; have hc1 := hv1.cell; obtain ⟨A2, c2, w2, hrun, how2, hb2, hko⟩ := run_append_insn 37 w0.heap.size A' pre.length c' _ (ownsRow_below howd hbb (Nat.le_refl _)) g 1 1 _ hwh (by simp [celI]) (cel_one _) hlen (Nat.le_trans hk.1.size hbb.size); simp [go_sem] at hrun; have hv2 := boxed_below hv1 hb2 (by omega); have hc2 := hv2.cell; have hf2 := hv2.frozen))
    all_goals
      clear hrun
      have hB5 : Below w0.heap.size W w2 := ((Below.refl _ W).drew.trans (hbb.mono hk.1.size)).trans hb2
      have hkp : KeepC (w.heap.size + 1) (w.heap.size + 1 + 1) (w.heap.size + 1 + 1 + 1) W (w2.setCell ⟨w.heap.size + 1, 0, none⟩ (.slice A2 (pre.length + 1) c2)) :=
        ⟨(hB5.mono (show w.heap.size + 1 ≤ w0.heap.size by omega)).setCell (p := ⟨w.heap.size + 1, 0, none⟩) (Nat.le_refl _) _, (Below.heap_setCell _ _ _ _ (by simp)).trans (hB5.block _ (by omega)), (Below.heap_setCell _ _ _ _ (by simp; omega)).trans (hB5.block _ (by omega))⟩
      gi_wp2
      refine ⟨(((KeepsOthers.drew W).trans (keeps_below hbb)).trans (hko.trans (KeepsOthers.setCell _ _ _))).from _, hkp, ⟨⟨_, hv2.set _, ?_, trivial⟩, keepC_t hk hkp⟩⟩
      have hq := own_drew_set (u' := .slice A2 (pre.length + 1) c2) how2 hv2 (by decide)
      rw [show (pre ++ [(⟨x, hx⟩ : Fin m)]).length = pre.length + 1 by simp]
      simpa [dI] using hq
  case done =>
    rintro D ys W hD hys ⟨⟨v, hv, hrow, _⟩, hk⟩ hKD
    obtain ⟨A', c', rfl⟩ := own_slice hrow
    have hlen : ys.length = m := by simpa using congrArg List.length hys
    have hmap : (ys.flatMap fun x => celI (dI l x.val)) = (List.range m).flatMap fun k => celI (dI l k) := by rw [← hys, List.flatMap_map]
    rw [hlen] at hv hrow
    rw [hmap] at hrow
    have hc := hv.cell
    clear hlen hmap hys
    go_wp2_with fail
    refine ⟨by simp, .inl ⟨_, _, rfl, run_takeDeferred hKD, ?_⟩⟩
    exact ⟨_, results_tmp rfl _ _ _, A', c', rfl, own_base (ownsRow_putObj hrow _ hKD rfl) (by omega), (hB0.trans (hk.1.mono (by omega))).trans (belowK_b (w := w) (Nat.le_refl _) W D _ _ (by omega) hKD rfl rfl)⟩
  case stop =>
    rintro D cd pre W _ _ h _
    exact h.elim
end Go.Proofs.YtndmlbepjcagiaaDoor

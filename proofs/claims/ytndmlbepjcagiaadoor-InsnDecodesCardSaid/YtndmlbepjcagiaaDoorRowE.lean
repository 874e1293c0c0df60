/-
  insn.row over instructions: their bytes, one behind the other.
-/
import Derived.Test.YtndmlbepjcagiaaDoorChunkI
import Derived.Test.YtndmlbepjcagiaaDoorEnc
import Derived.Test.YtndmlbepjcagiaaDoorCodesW
namespace Go.Proofs.YtndmlbepjcagiaaDoor
open Go.RowKit Go.Shelf
attribute [local go_sem] Oper.semAt_some

/-- An instruction's numbers. -/
abbrev Ins := Int × Int × Int × Int
def insO (x : Ins) : Prop := InsOk x.1 x.2.1 x.2.2.1 x.2.2.2
def bytI (x : Ins) : List Int := insB x.1 x.2.1 x.2.2.1 x.2.2.2
def valI (x : Ins) : Value := insV x.1 x.2.1 x.2.2.1 x.2.2.2
/-- The slice reads as these instructions; they lie below block B. -/
def Ri (w : World) (B : Nat) (A : Option Addr) (n : Nat) (f : Nat → Ins) : Prop := ∀ k, k < n → ∃ b off, A = some ⟨b, off, none⟩ ∧ b < B ∧
  (w.cell? ⟨b, off + k * 4, none⟩ = some (.int .u16 (f k).1) ∧ w.cell? ⟨b, off + k * 4 + 1, none⟩ = some (.int .u8 (f k).2.1) ∧ w.cell? ⟨b, off + k * 4 + 2, none⟩ = some (.int .u8 (f k).2.2.1) ∧ w.cell? ⟨b, off + k * 4 + 3, none⟩ = some (.int .u32 (f k).2.2.2)) ∧ insO (f k)
theorem Ri.below {w w' : World} {B B' n : Nat} {A : Option Addr} {f : Nat → Ins} (h : Ri w B A n f) (hb : Below B' w w') (hB : B ≤ B') : Ri w' B A n f := fun k hk => by
  obtain ⟨b, off, e, h1, ⟨c0, c1, c2, c3⟩, ho⟩ := h k hk
  have hlt := Nat.lt_of_lt_of_le h1 hB
  exact ⟨b, off, e, h1, ⟨(hb.cell (p := ⟨b, off + k * 4, none⟩) hlt).trans c0, (hb.cell (p := ⟨b, off + k * 4 + 1, none⟩) hlt).trans c1, (hb.cell (p := ⟨b, off + k * 4 + 2, none⟩) hlt).trans c2, (hb.cell (p := ⟨b, off + k * 4 + 3, none⟩) hlt).trans c3⟩, ho⟩
theorem Ri.more {w : World} {B B' n : Nat} {A : Option Addr} {f : Nat → Ins} (h : Ri w B A n f) (hB : B ≤ B') : Ri w B' A n f := fun k hk => by
  obtain ⟨b, off, e, h1, r⟩ := h k hk
  exact ⟨b, off, e, by omega, r⟩
theorem bytI_len (x : Ins) : (bytI x).length = 8 := by simp [bytI, insB, low_length]

set_option maxHeartbeats 1000000 in
theorem enc1_any (b off c : Nat) (x : Ins) (w : World) (c0 : w.cell? ⟨b, off, none⟩ = some (.int .u16 x.1)) (c1 : w.cell? ⟨b, off + 1, none⟩ = some (.int .u8 x.2.1)) (c2 : w.cell? ⟨b, off + 2, none⟩ = some (.int .u8 x.2.2.1)) (c3 : w.cell? ⟨b, off + 3, none⟩ = some (.int .u32 x.2.2.2)) (ho : insO x) :
    Calls Tryd.prog 34 #[.slice (some ⟨b, off, none⟩) 1 c] w fun e w' => ∃ g, e = .returned (.slice (some ⟨g, 0, none⟩) 8 8) ∧ w.heap.size ≤ g ∧ Wh w' g (bytI x) ∧ Below w.heap.size w w' := by
  go_enter Tryd.func34, Tryd.ntmps34
  go_wp2_with fail
  refine (enc_any x.1 x.2.1 x.2.2.1 x.2.2.2 w ho).mono ?_
  rintro e w1 ⟨g, rfl, hg, h1, hb1⟩
  go_wp2_with fail
  go_ret
  exact ⟨g, rfl, hg, h1, hb1⟩

/-- As 'run_append_bytes'; and whatever is no cells lies as it lay. -/
theorem run_append_keeps {w : World} (ty : TypeId) (base : Nat) (A : Option Addr) (n c : Nat) (l : List Int) (hown : Ow w base A n c l)
    (g m c' : Nat) (l' : List Int) (hr : Wh w g l') (hl' : l'.length = m) (hsz : n + m ≤ 1000000) (hbase : base ≤ w.heap.size) :
    ∃ A'' c'' w', (Builtin.append_ #[39, 39] ty #[.slice A n c, .slice (some ⟨g, 0, none⟩) m c']).run Tryd.prog w = .ok (.slice A'' (n + m) c'') w' ∧ Ow w' base A'' (n + m) c'' (l ++ l') ∧ Below base w w' ∧ KeepsOthers w w' := by
  have hbyt := hown.byt.append hr.byt
  obtain ⟨i, hi, hz, hs1, hb1⟩ := u8_parts
  obtain ⟨v', w', hrun, h1, h2, _, _⟩ := run_append_own_at (P := Tryd.prog) w base 39 ty 5 i (.int .u8 0) 1 1 Tryd.underlying39 hi hz hs1 hb1 rfl (by decide) _ n (bv l) hown.own ⟨g, 0, none⟩ m c' (bv l')
    (by rw [bv_length, hl', Nat.mul_one]) (by
      intro j u hj
      have hjl : j < l'.length := by
        rcases Nat.lt_or_ge j l'.length with h | h
        · exact h
        · rw [List.getElem?_eq_none (by rw [bv_length]; exact h)] at hj; cases hj
      have ea : (⟨g, 0, none⟩ : Addr).add j = ⟨g, j, none⟩ := by
        unfold Addr.add
        by_cases h0 : j = 0 <;> simp [h0]
      rw [ea, hr.cell hjl, ← hj]
      simp [bv, List.getD, hjl]) (by
      intro u hu
      simp only [bv, List.mem_map] at hu
      obtain ⟨z, _, rfl⟩ := hu
      rfl) (by simp only [maxLen]; omega) (by omega) hbase
  obtain ⟨A'', c'', rfl⟩ := own_slice h1
  refine ⟨A'', c'', w', hrun, ⟨by rw [bv_append]; exact h1, hbyt⟩, (Below.refl _ _).grown h2 hbase fun k hk => (hown.own.lt k hk).1, KeepsOthers.of_grownBy h2 fun j o ej hj => ?_⟩
  rcases hown.own.2 with ⟨hv, _⟩ | ⟨g', cap, cur, hv, _, hgb, _⟩
  · rw [hv] at ej; simp [Value.ownBlock] at ej
  · rw [hv] at ej
    obtain rfl : g' = j := by simpa [Value.ownBlock] using ej
    rw [hgb] at hj; cases hj; rfl
theorem own_base {w : World} {b b' e size n : Nat} {v : Value} {xs : List Value} (h : w.ownsRow b e size v n xs) (hb : b' ≤ b) : w.ownsRow b' e size v n xs := by
  refine ⟨h.1, ?_⟩
  rcases h.2 with h0 | ⟨g, cap, cur, hv, hg, r⟩
  · exact .inl h0
  · exact .inr ⟨g, cap, cur, hv, Nat.le_trans hb hg, r⟩
theorem own_drew_set {w : World} {b e size n B : Nat} {t : TypeId} {v u u' : Value} {xs : List Value} (h : w.ownsRow b e size v n xs) (hB : Boxed w B t u) (hte : t ≠ e) : (w.setCell ⟨B, 0, none⟩ u').ownsRow b e size v n xs := by
  refine ⟨h.1, ?_⟩
  rcases h.2 with h0 | ⟨g, cap, cur, hv, hg, hgb, r⟩
  · exact .inl h0
  · refine .inr ⟨g, cap, cur, hv, hg, ?_, r⟩
    rw [Below.heap_setCell _ _ _ _ (by rintro rfl; rw [show w.heap[_]? = _ from hB] at hgb; cases hgb; exact hte rfl)]
    exact hgb
theorem keepC_own {β : Type} {n₀ B1 B2 B : Nat} {w₀ : World} (hn : n₀ ≤ w₀.heap.size) (hB : n₀ ≤ B) (h1 : B1 < B) (h2 : B2 < B) (l1 : B1 < w₀.heap.size) (l2 : B2 < w₀.heap.size) : OwnFrom B (fun (_ : β) W => KeepC n₀ B1 B2 w₀ W) :=
  fun s W W' row hs hg hr => ⟨ownFrom_below (β := β) hn hB s W W' row hs.1 hg hr, (hg.block B1 (Nat.lt_of_lt_of_le l1 hs.1.size) (fun e => by have := (hr B1 e.symm).1; omega)).trans hs.2.1, (hg.block B2 (Nat.lt_of_lt_of_le l2 hs.1.size) (fun e => by have := (hr B2 e.symm).1; omega)).trans hs.2.2⟩
theorem byt_flat {m : Nat} (f : Nat → Ins) (hf : ∀ k, k < m → insO (f k)) (pre : List (Fin m)) : Byt (pre.flatMap fun x => bytI (f x.val)) := by
  intro z hz
  obtain ⟨x, _, hx⟩ := List.mem_flatMap.1 hz
  have h := hf x.val x.isLt
  simp only [bytI, insB, List.mem_append] at hx
  rcases hx with (h1 | h1) | h1
  · exact low_byt _ _ z h1
  · simp at h1
    rcases h1 with rfl | rfl
    · exact ⟨h.a0, h.a1⟩
    · exact ⟨h.b0, h.b1⟩
  · exact low_byt _ _ z h1

set_option maxRecDepth 100000 in
set_option maxHeartbeats 4000000 in
theorem rowE_any (A : Option Addr) (m cap : Nat) (f : Nat → Ins) (w : World) (hA : Ri w w.heap.size A m f) (hcap : m ≤ cap) (hm : m ≤ 300) :
    Calls Tryd.prog 33 #[.slice A m cap, .int .i64 1, .func (.func 34) #[] #[]] w fun e w' =>
      ∃ A' c', e = .returned (.slice A' (8 * m) c') ∧ Ow w' w.heap.size A' (8 * m) c' ((List.range m).flatMap fun k => bytI (f k)) ∧ Below w.heap.size w w' := by
  refine (callsIn_wide (n := 6)).1 ?_
  refine callsIn_of_wp_marks Tryd.func33 rfl trivial ?_ rfl
  simp only [Tryd.ntmps33, List.size_toArray, List.length_cons, List.length_nil, Nat.reduceAdd, Nat.reduceSub, Array.replicate_succ, Array.replicate_zero, List.push_toArray, List.append_toArray, List.nil_append, List.cons_append]
  refine wpIn_wide.2 ?_
  go_wp2_with (go_at_call 47; refine (chunkI_any A m cap _).mono ?_; rintro e w' ⟨rfl, rfl⟩)
  have bF := ((((Boxed.new w 44 (.func (.func 34) #[] #[])).alloc (.cells #[.slice none 0 0] 39)).alloc (.cells #[.slice A m cap] 37)).alloc (.cells #[.int .i64 1] 3))
  have bW := (((Boxed.new (w.alloc (.cells #[.func (.func 34) #[] #[]] 44)) 39 (.slice none 0 0)).alloc (.cells #[.slice A m cap] 37)).alloc (.cells #[.int .i64 1] 3))
  have b1 := ((Boxed.new ((w.alloc (.cells #[.func (.func 34) #[] #[]] 44)).alloc (.cells #[.slice none 0 0] 39)) 37 (.slice A m cap)).alloc (.cells #[.int .i64 1] 3))
  have b2 := Boxed.new (((w.alloc (.cells #[.func (.func 34) #[] #[]] 44)).alloc (.cells #[.slice none 0 0] 39)).alloc (.cells #[.slice A m cap] 37)) 3 (.int .i64 1)
  have hB0 : Below w.heap.size w ((((w.alloc (.cells #[.func (.func 34) #[] #[]] 44)).alloc (.cells #[.slice none 0 0] 39)).alloc (.cells #[.slice A m cap] 37)).alloc (.cells #[.int .i64 1] 3)) :=
    ((((Below.refl _ w).alloc (Nat.le_refl _) _).alloc (by simp) _).alloc (by simp; omega) _).alloc (by simp; omega) _
  simp only [World.size_alloc] at bF bW b1 b2
  have hsz : ((((w.alloc (.cells #[.func (.func 34) #[] #[]] 44)).alloc (.cells #[.slice none 0 0] 39)).alloc (.cells #[.slice A m cap] 37)).alloc (.cells #[.int .i64 1] 3)).heap.size = w.heap.size + 1 + 1 + 1 + 1 := by simp
  obtain ⟨w0, hw0⟩ : ∃ w0, ((((w.alloc (.cells #[.func (.func 34) #[] #[]] 44)).alloc (.cells #[.slice none 0 0] 39)).alloc (.cells #[.slice A m cap] 37)).alloc (.cells #[.int .i64 1] 3)) = w0 := ⟨_, rfl⟩
  rw [hw0] at bF bW b1 b2 hB0 hsz ⊢
  clear hw0
  have hsome : 0 < m → ∃ b off, A = some ⟨b, off, none⟩ := fun h => by obtain ⟨b, off, e, _⟩ := hA 0 h; exact ⟨b, off, e⟩
  have hok : ∀ k, k < m → insO (f k) := fun k hk => by obtain ⟨_, _, _, _, _, h⟩ := hA k hk; exact h
  refine (wpIn_wide (n := 6)).1 ?_
  refine wpIn_rangeFunc_ownG rfl (by omega) (gf := 51) (lb := #[.pointer (some ⟨w.heap.size + 1 + 1, 0, none⟩), .pointer (some ⟨w.heap.size + 1 + 1 + 1, 0, none⟩)]) rfl trivial (enters_of Tryd.func51 (by kernel_rfl) rfl)
    (chunkI_stops 5 (by omega) (w.heap.size + 1) (w.heap.size + 1 + 1) (w.heap.size + 1 + 1 + 1) m cap A hcap hm w0 (by omega) (by omega) hsome b1 b2) keepC_t (keepC_b (by omega) (by omega) (by omega)) (Below.refl _ _) (fun _ => rfl)
    (fun (pre : List (Fin m)) W => (∃ v, Boxed W (w.heap.size + 1) 39 v ∧ W.ownsRow w0.heap.size 5 1 v (8 * pre.length) (bv (pre.flatMap fun x => bytI (f x.val))) ∧ True) ∧ KeepC (w.heap.size + 1) (w.heap.size + 1 + 1) (w.heap.size + 1 + 1 + 1) w0 W)
    (fun _ _ _ => False)
    (OwnFrom.and (Own.from (holdsRow_own w0.heap.size (w.heap.size + 1) 39 5 1 (fun (pre : List (Fin m)) => 8 * pre.length) (fun pre => bv (pre.flatMap fun x => bytI (f x.val))) (fun _ _ => True)) _) (keepC_own (by omega) (by omega) (by omega) (by omega) (by omega) (by omega)))
    (fun _ _ _ _ _ hs _ _ => hs)
    ⟨⟨_, bW, World.ownsRow_nil _ _ _ _, trivial⟩, keepC_refl _ _ _ _⟩
    (fun x => { tmps := #[.slice A m cap, .int .i64 1, .func (.func 34) #[] #[], undef, undef, .pointer (some ⟨w.heap.size, 0, none⟩), .slice none 0 0, .pointer (some ⟨w.heap.size + 1, 0, none⟩), .slice (A.map fun p => ⟨p.block, p.off + x.val * 4, none⟩) 1 1, .slice A m cap, .int .i64 1,
      .func (.func 51) #[] #[.pointer (some ⟨w.heap.size + 1 + 1, 0, none⟩), .pointer (some ⟨w.heap.size + 1 + 1 + 1, 0, none⟩)], .slice (A.map fun p => ⟨p.block, p.off + x.val * 4, none⟩) 1 1, undef, undef, undef, undef, undef, undef], defers := [] }) ?assign ?body ?done ?stop
  case assign =>
    intro l x W K hK
    gi_wp2
    exact hK
  case body =>
    rintro l pre ⟨x, hx⟩ W ⟨⟨v, hv, hrow, _⟩, hk⟩ hlt
    obtain ⟨A', c', rfl⟩ := own_slice hrow
    have how : Ow W w0.heap.size A' (8 * pre.length) c' (pre.flatMap fun x => bytI (f x.val)) := ⟨hrow, byt_flat f hok pre⟩
    obtain ⟨b, off, rfl, hbl, ⟨i0, i1, i2, i3⟩, ho⟩ := (hA.below (hB0.trans (hk.1.mono (by omega))) (Nat.le_refl _)) x hx
    have hF := (boxed_below bF hk.1 (by omega)).cell
    have hc := hv.cell
    have hlen : 8 * pre.length + 8 ≤ 1000000 := by omega
    have hvd : Boxed W.drew (w.heap.size + 1) 39 (.slice A' (8 * pre.length) c') := hv
    have howd := how.drew
    simp only [Option.map_some]
    gi_wp2
    gi_region_with (first
      | (refine ⟨trivial, ?_⟩; gi_at_call 34; refine (CallsIn.inRound l (callsIn_wide.2 (enc1_any b (off + x * 4) 1 (f x) W.drew i0 i1 i2 i3 ho))).mono ?_; rintro e W1 ⟨g, rfl, hg, hwh, hbb⟩; have hv1 := boxed_below hvd hbb hvd.lt; have hc1 := hv1.cell; obtain ⟨A2, c2, w2, hrun, how2, hb2, hko⟩ := run_append_keeps 39 w0.heap.size A' (8 * pre.length) c' _ (howd.below hbb (Nat.le_refl _)) g 8 8 _ hwh (bytI_len _) hlen (Nat.le_trans hk.1.size hbb.size); simp [go_sem] at hrun; have hv2 := boxed_below hv1 hb2 (by omega); have hc2 := hv2.cell; have hf2 := hv2.frozen))
    all_goals
      clear hrun
      have hB5 : Below w0.heap.size W w2 := ((Below.refl _ W).drew.trans (hbb.mono hk.1.size)).trans hb2
      have hkp : KeepC (w.heap.size + 1) (w.heap.size + 1 + 1) (w.heap.size + 1 + 1 + 1) W (w2.setCell ⟨w.heap.size + 1, 0, none⟩ (.slice A2 (8 * pre.length + 8) c2)) :=
        ⟨(hB5.mono (show w.heap.size + 1 ≤ w0.heap.size by omega)).setCell (p := ⟨w.heap.size + 1, 0, none⟩) (Nat.le_refl _) _, (Below.heap_setCell _ _ _ _ (by simp)).trans (hB5.block _ (by omega)), (Below.heap_setCell _ _ _ _ (by simp; omega)).trans (hB5.block _ (by omega))⟩
      gi_wp2
      refine ⟨(((KeepsOthers.drew W).trans (keeps_below hbb)).trans (hko.trans (KeepsOthers.setCell _ _ _))).from _, hkp, ⟨⟨_, hv2.set _, ?_, trivial⟩, keepC_t hk hkp⟩⟩
      have hq := own_drew_set (u' := .slice A2 (8 * pre.length + 8) c2) how2.own hv2 (by decide)
      rw [show 8 * (pre ++ [(⟨x, hx⟩ : Fin m)]).length = 8 * pre.length + 8 by simp; omega]
      simpa using hq
  case done =>
    rintro D ys W hD hys ⟨⟨v, hv, hrow, _⟩, hk⟩ hKD
    obtain ⟨A', c', rfl⟩ := own_slice hrow
    have hlen : ys.length = m := by simpa using congrArg List.length hys
    have hmap : (ys.flatMap fun x => bytI (f x.val)) = (List.range m).flatMap fun k => bytI (f k) := by rw [← hys, List.flatMap_map]
    have hby := byt_flat f hok ys
    rw [hlen] at hv hrow
    rw [hmap] at hrow hby
    have hc := hv.cell
    clear hlen hmap hys
    go_wp2_with fail
    refine ⟨by simp, .inl ⟨_, _, rfl, run_takeDeferred hKD, ?_⟩⟩
    exact ⟨_, results_tmp rfl _ _ _, A', c', rfl, ⟨own_base (ownsRow_putObj hrow _ hKD rfl) (by omega), hby⟩, (hB0.trans (hk.1.mono (by omega))).trans (belowK_b (w := w) (Nat.le_refl _) W D _ _ (by omega) hKD rfl rfl)⟩
  case stop =>
    rintro D cd pre W _ _ h _
    exact h.elim
end Go.Proofs.YtndmlbepjcagiaaDoor

/-
  Ids as lists of numbers that rise: plain lemmas.
-/
import Derived.Test.YtfiaaobpodglmaaGreatQTkN
import Derived.Shelf.Slices.SearchI
import Derived.Shelf.Slices.Delete
import Derived.Shelf.Spec.SlicesInsert
import Derived.Shelf.Spec.SlicesInsertGrow
import Derived.Test.YtfiaaobpodglmaaGreatRows
namespace Go.Proofs.YtfiaaobpodglmaaGreat
open Go.RowKit Go.Shelf
attribute [local go_sem] Oper.semAt_some
set_option linter.unusedVariables false
set_option linter.unusedSimpArgs false
def homeF (L : List Pw) (tid : Int) : Nat × Bool := match (thrF 0 L).find? (fun x => x.2 == tid) with | some x => (x.1, true) | none => (0, false)
theorem homeF_stop {L : List Pw} {tid : Int} {pre ini : List (Nat × Int)} {x : Nat × Int} (hp : pre <+: thrF 0 L) (e : pre = ini ++ [x]) (h1 : ∀ y ∈ ini, (y.2 == tid) = false) (h2 : (x.2 == tid) = true) : homeF L tid = (x.1, true) := by
  obtain ⟨r, hr⟩ := hp
  unfold homeF
  have : (thrF 0 L).find? (fun x => x.2 == tid) = some x := by
    rw [← hr, e, List.append_assoc, List.find?_append, List.find?_eq_none.2 (fun y hy => by simpa using h1 y hy)]
    simp [h2]
  rw [this]
theorem homeF_none {L : List Pw} {tid : Int} (h1 : ∀ y ∈ thrF 0 L, (y.2 == tid) = false) : homeF L tid = (0, false) := by
  unfold homeF
  rw [List.find?_eq_none.2 (fun y hy => by simpa using h1 y hy)]
def hoI (w w2 : World) (tid : Int) (pre : List (Nat × Int)) (W : World) : Prop := (∀ y ∈ pre, (y.2 == tid) = false) ∧ Below w2.heap.size w2 W
def hoX (w : World) (tid : Int) (cd : Code) (pre : List (Nat × Int)) (W : World) : Prop :=
  (cd = .ret ∧ ∃ ini x, pre = ini ++ [x] ∧ (∀ y ∈ ini, (y.2 == tid) = false) ∧ (x.2 == tid) = true ∧ Blk W (w.heap.size + 1 + 1) #[.int .i64 (x.1 : Nat)] 3 ∧ Blk W (w.heap.size + 1 + 1 + 1) #[.bool true] 4) ∧ Below w.heap.size w W
set_option maxRecDepth 100000 in
set_option maxHeartbeats 4000000 in
theorem home_in (a : Int) (Ua : Option Addr) (um uc : Nat) (A : Option Addr) (m c : Nat) (L : List Pw) (tid : Int) (w : World) (hP : Ps w w.heap.size A L) (hm : m = L.length) (h6 : m ≤ 1000000) :
    CallsIn Fence.wide 6 Tryz.prog 56 #[tkV a Ua um uc A m c, .int .i64 tid] w fun e w' => e = .returned (.tuple #[.int .i64 (homeF L tid).1, .bool (homeF L tid).2]) ∧ Below w.heap.size w w' := by
  obtain ⟨wa, hwa⟩ : ∃ wa, wa = w.alloc (.cells (tkC a Ua um uc A m c) 27) := ⟨_, rfl⟩
  obtain ⟨wb, hwb⟩ : ∃ wb, wb = wa.alloc (.cells #[.int .i64 tid] 3) := ⟨_, rfl⟩
  obtain ⟨wc, hwc⟩ : ∃ wc, wc = wb.alloc (.cells #[.int .i64 0] 3) := ⟨_, rfl⟩
  obtain ⟨wd, hwd⟩ : ∃ wd, wd = wc.alloc (.cells #[.bool false] 4) := ⟨_, rfl⟩
  have sa : wa.heap.size = w.heap.size + 1 := by rw [hwa]; simp
  have sb : wb.heap.size = w.heap.size + 1 + 1 := by rw [hwb]; simp [sa]
  have sc : wc.heap.size = w.heap.size + 1 + 1 + 1 := by rw [hwc]; simp [sb]
  have sd : wd.heap.size = w.heap.size + 1 + 1 + 1 + 1 := by rw [hwd]; simp [sc]
  have k1 : Blk wd w.heap.size (tkC a Ua um uc A m c) 27 := by rw [hwd, hwc, hwb, hwa]; exact (((Blk.new w _ _).alloc _).alloc _).alloc _
  have k2 : Blk wd (w.heap.size + 1) #[.int .i64 tid] 3 := by rw [hwd, hwc, hwb]; exact ((Blk.new_ wa _ _ sa).alloc _).alloc _
  have k3 : Blk wd (w.heap.size + 1 + 1) #[.int .i64 0] 3 := by rw [hwd, hwc]; exact (Blk.new_ wb _ _ sb).alloc _
  have k4 : Blk wd (w.heap.size + 1 + 1 + 1) #[.bool false] 4 := by rw [hwd]; exact Blk.new_ wc _ _ sc
  have B0 : Below w.heap.size w wd := by rw [hwd, hwc, hwb, hwa]; exact ((((Below.refl _ w).alloc (Nat.le_refl _) _).alloc (by simp) _).alloc (by simp; omega) _).alloc (by simp; omega) _
  have TH := fun V => callsIn_wide (n := 5) |>.2 (threads_any a Ua um uc A m c V)
  have HM := Lib.hid hm
  clear hm
  unfold tkV at TH ⊢
  have HTH := Lib.hid TH
  clear TH
  rw [hwd, hwc, hwb, hwa] at k1
  refine callsIn_of_wp_marks Tryz.func56 rfl trivial ?_ rfl
  simp only [Tryz.ntmps56, List.size_toArray, List.length_cons, List.length_nil, Nat.reduceAdd, Nat.reduceSub, Array.replicate_succ, Array.replicate_zero, List.push_toArray, List.append_toArray, List.nil_append, List.cons_append]
  gi_wp2_with (refine wpListIn_load_row rfl 27 (.tmp 2) rfl w.heap.size rfl 27 (tkC a Ua um uc A m c) (0, 0) _ k1.blk Tryz.underlying27 rfl (tk_inf a Ua um uc A m c) ?_)
  refine ⟨trivial, (HTH.out _).mono ?_⟩
  rintro e w1 ⟨rfl, hw1⟩
  rw [← hwa, ← hwb, ← hwc, ← hwd] at hw1 k1
  rw [← hwa, ← hwb, ← hwc, ← hwd]
  have kT : Blk w1 (w.heap.size + 1 + 1 + 1 + 1) (tkC a Ua um uc A m c) 27 := by rw [hw1]; exact Blk.new_ wd _ _ sd
  have bb : Below wd.heap.size wd w1 := by rw [hw1]; exact (Below.refl _ _).alloc (Nat.le_refl _) _
  have s1 : w1.heap.size = w.heap.size + 1 + 1 + 1 + 1 + 1 := by rw [hw1]; simp [sd]
  have k21 := k2.below bb k2.lt
  have k31 := k3.below bb k3.lt
  have k41 := k4.below bb k4.lt
  have B1 := B0.trans (bb.mono B0.size)
  clear k1 k2 k3 k4 B0 hw1 HTH hwa hwb hwc hwd sa sb sc bb
  rw [sd]
  clear sd
  gi_wp2
  have hseq := threads_seq 5 (by omega) w.heap.size (w.heap.size + 1 + 1 + 1 + 1) m c a Ua um uc A L w1 (hP.below B1 (Nat.le_refl _)) kT HM.out h6 (by omega) (by omega)
  refine wpIn_rangeFunc_ownG rfl (by omega) (gf := 86) (lb := #[.pointer (some ⟨w.heap.size + 1 + 1 + 1 + 1, 0, none⟩)]) rfl trivial (enters_of Tryz.func86 (by kernel_rfl) rfl) hseq (fun h k => h.trans k) (fun W l o o' hl h hc hw => ⟨(belowK_b (w := w1) (Nat.le_refl _) W l o o' hl h hc hw).mono (by omega), World.putObj_heap_other (by omega)⟩) (Below.refl _ _) (fun _ => rfl)
    (hoI w w1 tid) (hoX w tid) ?hI ?hIx ⟨by simp, Below.refl _ _⟩
    (fun x => { tmps := #[.agg (tkC a Ua um uc A m c), .int .i64 tid, .pointer (some ⟨w.heap.size, 0, none⟩), .pointer (some ⟨w.heap.size + 1, 0, none⟩), .pointer (some ⟨w.heap.size + 1 + 1, 0, none⟩), .pointer (some ⟨w.heap.size + 1 + 1 + 1, 0, none⟩), .int .i64 x.1, .int .i64 x.2, .agg (tkC a Ua um uc A m c), .func (.func 86) #[] #[.pointer (some ⟨w.heap.size + 1 + 1 + 1 + 1, 0, none⟩)], .int .i64 x.1, .int .i64 x.2, undef, undef, undef, undef], defers := [] })
    ?assign ?body ?done ?stop
  case hI => exact OwnFrom.and (Own.from (fun s A B row hs hg hr => hs) _) (ownFrom_below (Nat.le_refl _) (Nat.le_refl _))
  case hIx => exact fun cd => OwnFrom.and (Own.from (fun s A B row hs hg hr => by obtain ⟨hc, ini, x, e1, e2, e3, e4, e5⟩ := hs; exact ⟨hc, ini, x, e1, e2, e3, blk_own e4 hg hr, blk_own e5 hg hr⟩) _) (ownFrom_below (Nat.le_refl _) B1.size)
  case assign =>
    intro l x W K hK
    gi_wp2
    exact hK
  case body =>
    rintro lp pre x W ⟨hp, hW2⟩ _
    have c2 : W.cell? ⟨w.heap.size + 1, 0, none⟩ = some (.int .i64 tid) := (k21.below hW2 k21.lt).cell 0
    have c3 := k31.below hW2 k31.lt
    have c4 := k41.below hW2 k41.lt
    have q3 : W.cell? ⟨w.heap.size + 1 + 1, 0, none⟩ = some (.int .i64 0) := c3.cell 0
    have q4 : W.cell? ⟨w.heap.size + 1 + 1 + 1, 0, none⟩ = some (.bool false) := c4.cell 0
    have f3 := c3.frozen 0
    have f4 := c4.frozen 0
    have hB := B1.trans (hW2.mono B1.size)
    have HP := Lib.hid hp
    clear hp
    obtain ⟨x1, x2⟩ := x
    simp only
    cases hq : (x2 == tid)
    · gi_wp2
      refine ⟨KeepsFrom.refl _ _, Kt.refl _ _ _, fun y hy => ?_, hW2⟩
      rcases List.mem_append.1 hy with h | h
      · exact HP.out y h
      · simp at h; subst h; exact hq
    · gi_wp2
      have e3 := (c3.set_ 0 (.int .i64 (x1 : Nat))).far (p := ⟨w.heap.size + 1 + 1 + 1, 0, none⟩) (by simp) (.bool true)
      have e4 := (c4.far (p := ⟨w.heap.size + 1 + 1, 0, none⟩) (by simp) (.int .i64 (x1 : Nat))).set_ 0 (.bool true)
      have n1 : But (w.heap.size + 1 + 1) W (W.setCell ⟨w.heap.size + 1 + 1, 0, none⟩ (.int .i64 (x1 : Nat))) := (But.refl _ W).setCell (p := ⟨w.heap.size + 1 + 1, 0, none⟩) (.inl rfl) _
      have c41 := c4.far (p := ⟨w.heap.size + 1 + 1, 0, none⟩) (by simp) (.int .i64 (x1 : Nat))
      have n2 : But (w.heap.size + 1 + 1 + 1) (W.setCell ⟨w.heap.size + 1 + 1, 0, none⟩ (.int .i64 (x1 : Nat))) ((W.setCell ⟨w.heap.size + 1 + 1, 0, none⟩ (.int .i64 (x1 : Nat))).setCell ⟨w.heap.size + 1 + 1 + 1, 0, none⟩ (.bool true)) := (But.refl _ _).setCell (p := ⟨w.heap.size + 1 + 1 + 1, 0, none⟩) (.inl rfl) _
      have b2 := (hB.trans (n1.below _ (by omega) hB.size)).trans (n2.below _ (by omega) (Nat.le_trans hB.size n1.size))
      exact ⟨(keeps_butT n1 c3).trans (keeps_butT n2 c41), ⟨rfl, pre, (x1, x2), rfl, HP.out, hq, e3, e4⟩, b2⟩
  case done =>
    rintro D xs W hD hS ⟨hp, hW2⟩ hK
    have c3 := k31.below hW2 k31.lt
    have c4 := k41.below hW2 k41.lt
    have q3 : W.cell? ⟨w.heap.size + 1 + 1, 0, none⟩ = some (.int .i64 0) := c3.cell 0
    have q4 : W.cell? ⟨w.heap.size + 1 + 1 + 1, 0, none⟩ = some (.bool false) := c4.cell 0
    have f3 := c3.frozen 0
    have f4 := c4.frozen 0
    have hB := B1.trans (hW2.mono B1.size)
    rw [hS] at hp
    have HF := Lib.hid (homeF_none hp)
    clear hp
    gi_wp2
    have e3 := (c3.set_ 0 (.int .i64 0)).far (p := ⟨w.heap.size + 1 + 1 + 1, 0, none⟩) (by simp) (.bool false)
    have e4 := (c4.far (p := ⟨w.heap.size + 1 + 1, 0, none⟩) (by simp) (.int .i64 0)).set_ 0 (.bool false)
    have hK6 : ((W.setCell ⟨w.heap.size + 1 + 1, 0, none⟩ (.int .i64 0)).setCell ⟨w.heap.size + 1 + 1 + 1, 0, none⟩ (.bool false)).heap[D]? = some (.deferred (some [])) := (KeepsOthers.setCell _ _ _).same D _ ((KeepsOthers.setCell W _ _).same D _ hK rfl) rfl
    have b6 := (hB.setCell (p := ⟨w.heap.size + 1 + 1, 0, none⟩) (by simp; omega) (.int .i64 0)).setCell (p := ⟨w.heap.size + 1 + 1 + 1, 0, none⟩) (by simp; omega) (.bool false)
    generalize (W.setCell ⟨w.heap.size + 1 + 1, 0, none⟩ (.int .i64 0)).setCell ⟨w.heap.size + 1 + 1 + 1, 0, none⟩ (.bool false) = V6 at e3 e4 b6 hK6 ⊢
    have hg3 := grownBy_putObj' V6 D (.deferred none)
    have hr3 : ∀ r, some D = some r → ∃ o : Obj, V6.heap[r]? = some o ∧ o.isCells = false := fun r e => by cases e; exact ⟨_, hK6, rfl⟩
    refine ⟨by simp, .inl ⟨_, _, rfl, run_takeDeferred hK6, ?_⟩⟩
    refine ⟨_, results_cells2i rfl _ _ (w.heap.size + 1 + 1) (w.heap.size + 1 + 1 + 1) _ _ rfl rfl (int_load _ _ _ _ (blk_own e3 hg3 hr3)) (bool_load _ _ _ _ (blk_own e4 hg3 hr3)), ?_⟩
    exact ⟨by rw [HF.out]; rfl, b6.trans (belowK_b (w := w) (Nat.le_refl _) V6 D _ _ (by omega) hK6 rfl rfl)⟩
  case stop =>
    rintro D cd pre W hD hpre ⟨⟨rfl, ini, x, he, h1, h2, e3, e4⟩, hB⟩ hK
    have HF := Lib.hid (homeF_stop hpre he h1 h2)
    have hg3 := grownBy_putObj' W D (.deferred none)
    have hr3 : ∀ r, some D = some r → ∃ o : Obj, W.heap[r]? = some o ∧ o.isCells = false := fun r e => by cases e; exact ⟨_, hK, rfl⟩
    gi_wp2
    refine ⟨by simp, .inl ⟨_, _, rfl, run_takeDeferred hK, ?_⟩⟩
    refine ⟨_, results_cells2i rfl _ _ (w.heap.size + 1 + 1) (w.heap.size + 1 + 1 + 1) _ _ rfl rfl (int_load _ _ _ _ (blk_own e3 hg3 hr3)) (bool_load _ _ _ _ (blk_own e4 hg3 hr3)), ?_⟩
    exact ⟨by rw [HF.out], hB.trans (belowK_b (w := w) (Nat.le_refl _) W D _ _ (by omega) hK rfl rfl)⟩
theorem home_any (a : Int) (Ua : Option Addr) (um uc : Nat) (A : Option Addr) (m c : Nat) (L : List Pw) (tid : Int) (w : World) (hP : Ps w w.heap.size A L) (hm : m = L.length) (h6 : m ≤ 1000000) :
    Calls Tryz.prog 56 #[tkV a Ua um uc A m c, .int .i64 tid] w fun e w' => e = .returned (.tuple #[.int .i64 (homeF L tid).1, .bool (homeF L tid).2]) ∧ Below w.heap.size w w' := callsIn_wide.1 (home_in a Ua um uc A m c L tid w hP hm h6)
end Go.Proofs.YtfiaaobpodglmaaGreat
namespace Go.Proofs.YtfiaaobpodglmaaGreat
open Go.Shelf Go.RowKit
def Tryz.lays2_25_ren : Go.Shelf.Ren := ⟨fun | 25 => 64 | 31 => 96 | 32 => 97 | 37 => 120 | n => n, fun | 0 => 0 | 3 => 3 | 4 => 4 | 22 => 22 | 40 => 55 | n => n, fun | n => n⟩
theorem Tryz.lays2_25 : Go.Proofs.Lays2.n25 Tryz.prog Tryz.lays2_25_ren := {
  mixed := by kernel_rfl
  f25 := Tryz.func64.trans (congrArg some (by kernel_rfl))
  f31 := Tryz.func96.trans (congrArg some (by kernel_rfl))
  f32 := Tryz.func97.trans (congrArg some (by kernel_rfl))
  f37 := Tryz.func120.trans (congrArg some (by kernel_rfl))
  t0 := Tryz.underlying0
  a0 := Tryz.isAgg0
  z0 := Tryz.sizeOf0
  v0 := Tryz.zeroValue0
  t3 := Tryz.underlying3
  a3 := Tryz.isAgg3
  z3 := Tryz.sizeOf3
  v3 := Tryz.zeroValue3
  t4 := Tryz.underlying4
  a4 := Tryz.isAgg4
  z4 := Tryz.sizeOf4
  v4 := Tryz.zeroValue4
  t22 := Tryz.underlying22
  a22 := Tryz.isAgg22
  z22 := Tryz.sizeOf22
  v22 := Tryz.zeroValue22
  t40 := Tryz.underlying55
  a40 := Tryz.isAgg55
  z40 := Tryz.sizeOf55
  v40 := Tryz.zeroValue55 }
def Tryz.lays2_23_ren : Go.Shelf.Ren := ⟨fun | 23 => 133 | n => n, fun | 0 => 0 | 3 => 3 | 4 => 4 | 22 => 22 | n => n, fun | n => n⟩
theorem Tryz.lays2_23 : Go.Proofs.Lays2.n23 Tryz.prog Tryz.lays2_23_ren := {
  mixed := by kernel_rfl
  f23 := Tryz.func133.trans (congrArg some (by kernel_rfl))
  t0 := Tryz.underlying0
  a0 := Tryz.isAgg0
  z0 := Tryz.sizeOf0
  v0 := Tryz.zeroValue0
  t3 := Tryz.underlying3
  a3 := Tryz.isAgg3
  z3 := Tryz.sizeOf3
  v3 := Tryz.zeroValue3
  t4 := Tryz.underlying4
  a4 := Tryz.isAgg4
  z4 := Tryz.sizeOf4
  v4 := Tryz.zeroValue4
  t22 := Tryz.underlying22
  a22 := Tryz.isAgg22
  z22 := Tryz.sizeOf22
  v22 := Tryz.zeroValue22
  i3 := by kernel_rfl }
def Tryz.lays2_21_ren : Go.Shelf.Ren := ⟨fun | 21 => 65 | 27 => 98 | 28 => 99 | 35 => 122 | 39 => 132 | n => n, fun | 0 => 0 | 3 => 3 | 4 => 4 | 22 => 22 | n => n, fun | n => n⟩
theorem Tryz.lays2_21 : Go.Proofs.Lays2.n21 Tryz.prog Tryz.lays2_21_ren := {
  mixed := by kernel_rfl
  f21 := Tryz.func65.trans (congrArg some (by kernel_rfl))
  f27 := Tryz.func98.trans (congrArg some (by kernel_rfl))
  f28 := Tryz.func99.trans (congrArg some (by kernel_rfl))
  f35 := Tryz.func122.trans (congrArg some (by kernel_rfl))
  f39 := Tryz.func132.trans (congrArg some (by kernel_rfl))
  t0 := Tryz.underlying0
  a0 := Tryz.isAgg0
  z0 := Tryz.sizeOf0
  v0 := Tryz.zeroValue0
  t3 := Tryz.underlying3
  a3 := Tryz.isAgg3
  z3 := Tryz.sizeOf3
  v3 := Tryz.zeroValue3
  t4 := Tryz.underlying4
  a4 := Tryz.isAgg4
  z4 := Tryz.sizeOf4
  v4 := Tryz.zeroValue4
  t22 := Tryz.underlying22
  a22 := Tryz.isAgg22
  z22 := Tryz.sizeOf22
  v22 := Tryz.zeroValue22
  i3 := by kernel_rfl }
end Go.Proofs.YtfiaaobpodglmaaGreat
namespace Go.Proofs.YtfiaaobpodglmaaGreat
set_option linter.unusedVariables false
def riseP : Int → List Int → Bool
  | _, [] => true
  | p, x :: l => decide (p < x) && (decide (x ≤ 20) && riseP x l)
def pidE (a : Int) (l : List Int) : Int := if decide (0 ≤ a) && (decide (a ≤ 20) && riseP 0 l) then 0 else 200
structure Ids (a : Int) (l : List Int) : Prop where
  a0 : 0 ≤ a
  a1 : a ≤ 20
  up : l.Pairwise (· < ·)
  m : ∀ x ∈ l, 1 ≤ x ∧ x ≤ 20
theorem riseP_iff : ∀ (l : List Int) (p : Int), riseP p l = true ↔ (∀ x ∈ l, p < x ∧ x ≤ 20) ∧ l.Pairwise (· < ·)
  | [], p => by simp [riseP]
  | x :: l, p => by
    rw [riseP, Bool.and_eq_true, Bool.and_eq_true, decide_eq_true_iff, decide_eq_true_iff, riseP_iff l x, List.pairwise_cons]
    constructor
    · rintro ⟨h1, h2, h3, h4⟩
      refine ⟨fun y hy => ?_, fun y hy => (h3 y hy).1, h4⟩
      rcases List.mem_cons.1 hy with rfl | h
      · exact ⟨h1, h2⟩
      · exact ⟨Int.lt_trans h1 (h3 y h).1, (h3 y h).2⟩
    · rintro ⟨h1, h2, h3⟩
      exact ⟨(h1 x (by simp)).1, (h1 x (by simp)).2, fun y hy => ⟨h2 y hy, (h1 y (by simp [hy])).2⟩, h3⟩
theorem ids_iff {a : Int} {l : List Int} : pidE a l = 0 ↔ Ids a l := by
  unfold pidE
  constructor
  · intro h
    split at h
    · rename_i hc
      simp only [Bool.and_eq_true, decide_eq_true_iff, riseP_iff] at hc
      obtain ⟨h1, h2, h3, h4⟩ := hc
      exact ⟨h1, h2, h4, fun x hx => ⟨by have := (h3 x hx).1; omega, (h3 x hx).2⟩⟩
    · cases h
  · intro h
    rw [if_pos]
    simp only [Bool.and_eq_true, decide_eq_true_iff, riseP_iff]
    exact ⟨h.a0, h.a1, fun x hx => ⟨by have := (h.m x hx).1; omega, (h.m x hx).2⟩, h.up⟩
theorem pidE_or (a : Int) (l : List Int) : pidE a l = 0 ∨ pidE a l = 200 := by unfold pidE; split <;> simp
theorem pidE_no {a : Int} {l : List Int} (h : ¬ Ids a l) : pidE a l = 200 := by
  rcases pidE_or a l with h1 | h1
  · exact absurd (ids_iff.1 h1) h
  · exact h1
theorem up_ext : ∀ {l m : List Int}, l.Pairwise (· < ·) → m.Pairwise (· < ·) → (∀ x, x ∈ l ↔ x ∈ m) → l = m
  | [], [], _, _, _ => rfl
  | [], y :: m, _, _, h => absurd ((h y).2 (by simp)) (by simp)
  | x :: l, [], _, _, h => absurd ((h x).1 (by simp)) (by simp)
  | x :: l, y :: m, hl, hm, h => by
    rw [List.pairwise_cons] at hl hm
    have hxy : x = y := by
      have h1 := (h x).1 (by simp)
      have h2 := (h y).2 (by simp)
      rcases List.mem_cons.1 h1 with e | h1
      · exact e
      · rcases List.mem_cons.1 h2 with e | h2
        · exact e.symm
        · have := hm.1 x h1; have := hl.1 y h2; omega
    subst hxy
    rw [up_ext hl.2 hm.2 fun z => ?_]
    constructor
    · intro hz
      rcases List.mem_cons.1 ((h z).1 (by simp [hz])) with e | e
      · subst e; exact absurd (hl.1 z hz) (by omega)
      · exact e
    · intro hz
      rcases List.mem_cons.1 ((h z).2 (by simp [hz])) with e | e
      · subst e; exact absurd (hm.1 z hz) (by omega)
      · exact e
def lessP (l : List Int) (x : Int) : Nat := l.countP (fun y => decide (y < x))
theorem lessP_le (l : List Int) (x : Int) : lessP l x ≤ l.length := List.countP_le_length
theorem less_zero {l : List Int} {x y : Int} (h : ∀ z ∈ l, y < z) (hxy : x ≤ y) : lessP l x = 0 := by
  unfold lessP
  rw [List.countP_eq_zero]
  intro z hz
  have := h z hz
  simp; omega
theorem take_less : ∀ {l : List Int} (x : Int), l.Pairwise (· < ·) → l.take (lessP l x) = l.filter (fun y => decide (y < x)) ∧ l.drop (lessP l x) = l.filter (fun y => !decide (y < x))
  | [], x, _ => ⟨rfl, rfl⟩
  | y :: l, x, h => by
    rw [List.pairwise_cons] at h
    obtain ⟨h1, h2⟩ := take_less x h.2
    by_cases hy : y < x
    · have e : lessP (y :: l) x = lessP l x + 1 := by unfold lessP; rw [List.countP_cons_of_pos (by simpa using hy)]
      rw [e, List.take_succ_cons, List.drop_succ_cons, h1, h2, List.filter_cons_of_pos (by simpa using hy), List.filter_cons_of_neg (by simpa using hy)]
      exact ⟨rfl, rfl⟩
    · have e : lessP (y :: l) x = 0 := by
        unfold lessP
        rw [List.countP_cons_of_neg (by simpa using hy)]
        exact less_zero h.1 (by omega)
      rw [e, List.take_zero, List.drop_zero]
      constructor
      · rw [List.filter_cons_of_neg (by simpa using hy)]
        refine (List.filter_eq_nil_iff.2 fun z hz => ?_).symm
        have := h.1 z hz
        simp; omega
      · rw [List.filter_cons_of_pos (by simpa using hy)]
        refine congrArg _ (List.filter_eq_self.2 fun z hz => ?_).symm
        have := h.1 z hz
        simp; omega
def insP (l : List Int) (x : Int) : List Int := l.take (lessP l x) ++ x :: l.drop (lessP l x)
def delP (l : List Int) (x : Int) : List Int := l.take (lessP l x) ++ l.drop (lessP l x + 1)
theorem mem_insP {l : List Int} {x y : Int} : y ∈ insP l x ↔ y = x ∨ y ∈ l := by
  have h : y ∈ l ↔ y ∈ l.take (lessP l x) ∨ y ∈ l.drop (lessP l x) := by
    rw [← List.mem_append, List.take_append_drop]
  unfold insP
  rw [List.mem_append, List.mem_cons, h]
  constructor
  · rintro (h | h | h)
    · exact .inr (.inl h)
    · exact .inl h
    · exact .inr (.inr h)
  · rintro (h | h | h)
    · exact .inr (.inl h)
    · exact .inl h
    · exact .inr (.inr h)
theorem len_insP (l : List Int) (x : Int) : (insP l x).length = l.length + 1 := by
  have := lessP_le l x
  simp [insP, List.length_append]
  omega
theorem up_insP {l : List Int} {x : Int} (h : l.Pairwise (· < ·)) (hx : x ∉ l) : (insP l x).Pairwise (· < ·) := by
  obtain ⟨h1, h2⟩ := take_less x h
  unfold insP
  rw [h1, h2, List.pairwise_append, List.pairwise_cons]
  refine ⟨h.filter _, ⟨fun y hy => ?_, h.filter _⟩, fun y hy z hz => ?_⟩
  · rw [List.mem_filter] at hy
    have : y ≠ x := fun e => hx (e ▸ hy.1)
    have := hy.2
    simp at this
    omega
  · rw [List.mem_filter] at hy
    have h3 := hy.2
    simp at h3
    rcases List.mem_cons.1 hz with rfl | hz
    · exact h3
    · rw [List.mem_filter] at hz
      have := hz.2
      simp at this
      omega
theorem delP_eq : ∀ {l : List Int} {x : Int}, l.Pairwise (· < ·) → x ∈ l → delP l x = l.filter (fun y => y != x)
  | [], x, _, h => absurd h (by simp)
  | y :: l, x, h, hx => by
    rw [List.pairwise_cons] at h
    by_cases hy : y < x
    · have e : lessP (y :: l) x = lessP l x + 1 := by unfold lessP; rw [List.countP_cons_of_pos (by simpa using hy)]
      have hxl : x ∈ l := by
        rcases List.mem_cons.1 hx with e | e
        · omega
        · exact e
      have ih := delP_eq h.2 hxl
      unfold delP at ih ⊢
      rw [e, List.take_succ_cons, List.drop_succ_cons, List.cons_append, ih, List.filter_cons_of_pos (by simp; omega)]
    · have e : lessP (y :: l) x = 0 := by
        unfold lessP
        rw [List.countP_cons_of_neg (by simpa using hy)]
        exact less_zero h.1 (by omega)
      have hxy : x = y := by
        rcases List.mem_cons.1 hx with e | e
        · exact e
        · have := h.1 x e; omega
      subst hxy
      unfold delP
      rw [e, List.take_zero, List.nil_append, Nat.zero_add, List.drop_succ_cons, List.drop_zero, List.filter_cons_of_neg (by simp)]
      refine (List.filter_eq_self.2 fun z hz => ?_).symm
      have := h.1 z hz
      simp; omega
theorem mem_delP {l : List Int} {x y : Int} (h : l.Pairwise (· < ·)) (hx : x ∈ l) : y ∈ delP l x ↔ y ∈ l ∧ y ≠ x := by
  rw [delP_eq h hx, List.mem_filter]; simp
theorem up_delP {l : List Int} {x : Int} (h : l.Pairwise (· < ·)) (hx : x ∈ l) : (delP l x).Pairwise (· < ·) := by
  rw [delP_eq h hx]; exact h.filter _
theorem less_lt {l : List Int} {x : Int} (hx : x ∈ l) : lessP l x < l.length := by
  rcases Nat.lt_or_ge (lessP l x) l.length with h | h
  · exact h
  · have e : lessP l x = l.length := Nat.le_antisymm (lessP_le l x) h
    unfold lessP at e
    rw [List.countP_eq_length] at e
    have := e x hx
    simp at this
def all20 : List Int := (List.range 20).map fun (k : Nat) => (k : Int) + 1
theorem mem_all20 {x : Int} : x ∈ all20 ↔ 1 ≤ x ∧ x ≤ 20 := by
  unfold all20
  rw [List.mem_map]
  constructor
  · rintro ⟨k, hk, rfl⟩
    rw [List.mem_range] at hk
    omega
  · rintro ⟨h1, h2⟩
    exact ⟨(x - 1).toNat, List.mem_range.2 (by omega), by omega⟩
theorem up_all20 : all20.Pairwise (· < ·) := by decide
theorem filter_all20 {l : List Int} (p : Int → Bool) (h : l.Pairwise (· < ·)) (hp : ∀ x, x ∈ l ↔ (1 ≤ x ∧ x ≤ 20) ∧ p x = true) : all20.filter p = l :=
  up_ext (up_all20.filter _) h fun x => by rw [List.mem_filter, mem_all20, hp]
theorem Ids.canon {a : Int} {l : List Int} (h : Ids a l) : all20.filter (fun x => l.contains x) = l :=
  filter_all20 _ h.up fun x => ⟨fun hx => ⟨h.m x hx, by simpa using hx⟩, fun hx => by simpa using hx.2⟩
theorem Ids.len {a : Int} {l : List Int} (h : Ids a l) : l.length ≤ 20 := by
  rw [← h.canon]
  exact List.length_filter_le _ all20
def cand (a i : Nat) : Nat := (a + i) % 20 + 1
theorem cand_le (a i : Nat) : 1 ≤ cand a i ∧ cand a i ≤ 20 := by unfold cand; omega
def nextP (a : Nat) (l : List Int) : Option Nat := (List.range 20).find? fun i => !l.contains ((cand a i : Nat) : Int)
theorem range_find {p : Nat → Bool} {i n : Nat} (h : (List.range n).find? p = some i) : i < n ∧ p i = true ∧ ∀ j, j < i → p j = false := by
  refine ⟨List.mem_range.1 (List.mem_of_find?_eq_some h), List.find?_some h, fun j hj => ?_⟩
  rw [List.find?_range_eq_some] at h
  simpa using h.2.2 j hj
theorem nextP_some {a : Nat} {l : List Int} {i : Nat} (h : nextP a l = some i) : i < 20 ∧ ((cand a i : Nat) : Int) ∉ l ∧ ∀ j, j < i → ((cand a j : Nat) : Int) ∈ l := by
  obtain ⟨h1, h2, h3⟩ := range_find h
  exact ⟨h1, by simpa using h2, fun j hj => by simpa using h3 j hj⟩
theorem Ids.taken {a : Int} {l : List Int} {n i : Nat} (h : Ids a l) (hn : nextP n l = some i) : Ids ((cand n i : Nat) : Int) (insP l ((cand n i : Nat) : Int)) := by
  obtain ⟨h1, h2, h3⟩ := nextP_some hn
  have h4 := cand_le n i
  refine ⟨by omega, by omega, up_insP h.up h2, fun x hx => ?_⟩
  rcases mem_insP.1 hx with rfl | hx
  · omega
  · exact h.m x hx
theorem Ids.freed {a : Int} {l : List Int} {x : Int} (h : Ids a l) (hx : x ∈ l) : Ids a (delP l x) :=
  ⟨h.a0, h.a1, up_delP h.up hx, fun y hy => h.m y ((mem_delP h.up hx).1 hy).1⟩
end Go.Proofs.YtfiaaobpodglmaaGreat

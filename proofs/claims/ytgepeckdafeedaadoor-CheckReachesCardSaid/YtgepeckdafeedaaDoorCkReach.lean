/-
  check.Reach, check.Most: what is reached, and in how many steps at most.
-/
import Derived.Test.YtgepeckdafeedaaDoorCkMetW
import Derived.Test.YtgepeckdafeedaaDoorCkCheck
import Derived.Maps.AppendAt
namespace Go.Proofs.YtgepeckdafeedaaDoor
open Go.RowKit Go.Shelf Go.Maps
attribute [local go_sem] Oper.semAt_some

theorem met_stops (n : Nat) (hn : 1 ≤ n) (n₀ Bl m cap : Nat) (A : Option Addr) (f : Nat → Ins) (hm : m ≤ 64) (hcap : m ≤ cap) (hG : Goes f m) (w : World) (hn0 : n₀ ≤ w.heap.size) (h0n : 0 < n₀) (hK : Kinds w) (bl : Boxed w Bl 24 (.slice A m cap)) (hBl : Bl < w.heap.size) (hA : Ri w n₀ A m f) :
    SeqStopsK Fence.wide n Tryd.prog 34 #[.pointer (some ⟨Bl, 0, none⟩)] (fun x : Nat × Nat => #[Value.int .i64 (x.1 : Int), Value.int .i64 (x.2 : Int)]) (KeepP n₀) (fun ys => ys = metsI f m) (fun _ => True) m w :=
  fun l J Jx W hW hJ _ hY h0 => met_in n hn l n₀ Bl m cap A f hm hcap hG J Jx hY W (Nat.le_trans hn0 hW.size) h0n hJ (hK.below hW (by omega)) ((hW.block Bl (by omega)).trans bl) (Nat.lt_of_lt_of_le hBl hW.size) (hA.below hW hn0) h0

/-- Whole numbers, as values. -/
def nv (l : List Nat) : List Value := l.map fun (p : Nat) => .int .i64 (p : Int)
theorem nv_len (l : List Nat) : (nv l).length = l.length := by simp [nv]
theorem nv_snoc (l : List Nat) (p : Nat) : nv (l ++ [p]) = nv l ++ [.int .i64 (p : Int)] := by simp [nv]
theorem int_info : (Tryd.prog.info? 3).map (fun i => (i.zero, i.size, i.bytes)) = some (some (.int .i64 0), 1, 8) := by kernel_rfl

/-- Appending a number to the call's own. -/
theorem run_append_num {w : World} (ty : TypeId) (base : Nat) (A : Option Addr) (n c : Nat) (l : List Nat) (hown : w.ownsRow base 3 1 (.slice A n c) n (nv l)) (g p : Nat) (hr : w.cell? ⟨g, 0, none⟩ = some (.int .i64 (p : Int))) (hsz : n + 1 ≤ 1000000) (hbase : base ≤ w.heap.size) :
    ∃ A'' c'' w', (Builtin.append_ #[31, 31] ty #[.slice A n c, .slice (some ⟨g, 0, none⟩) 1 1]).run Tryd.prog w = .ok (.slice A'' (n + 1) c'') w' ∧ w'.ownsRow base 3 1 (.slice A'' (n + 1) c'') (n + 1) (nv (l ++ [p])) ∧ KeepP base w w' ∧ KeepsOthers w w' := by
  obtain ⟨i, hi, hz, hs1, hb1⟩ := info_parts int_info
  obtain ⟨v', w', hrun, h1, h2, _, _⟩ := run_append_own_at (P := Tryd.prog) w base 31 ty 3 i (.int .i64 0) 1 8 Tryd.underlying31 hi hz hs1 hb1 rfl (by decide) _ n (nv l) hown ⟨g, 0, none⟩ 1 1 [.int .i64 (p : Int)]
    rfl (by
      intro j u hj
      have : j = 0 := by
        rcases j with _ | j
        · rfl
        · simp at hj
      subst this
      simp at hj
      subst hj
      simpa [Addr.add] using hr) (by intro u hu; simp at hu; subst hu; rfl) (by simp only [maxLen]; omega) (by omega) hbase
  obtain ⟨A'', c'', rfl⟩ := own_slice h1
  have hty : ∀ (j : Nat) (o : Obj), (Value.slice A n c).ownBlock = some j → w.heap[j]? = some o → ∃ cs, o = .cells cs 3 (0, 0) := fun j o ej hj => by
    rcases hown.2 with ⟨hv, _⟩ | ⟨g', cap, cur, hv, _, hgb, _⟩
    · rw [hv] at ej; simp [Value.ownBlock] at ej
    · rw [hv] at ej
      obtain rfl : g' = j := by simpa [Value.ownBlock] using ej
      rw [hgb] at hj; cases hj; exact ⟨_, rfl⟩
  refine ⟨A'', c'', w', hrun, by rw [nv_snoc]; exact h1, ⟨(Below.refl _ _).grown h2 hbase fun k hk => (hown.lt k hk).1, fun j o hj ho => ?_⟩, KeepsOthers.of_grownBy h2 fun j o ej hj => by obtain ⟨cs, rfl⟩ := hty j o ej hj; rfl⟩
  refine (h2.block j (Array.getElem?_eq_some_iff.1 hj).1 fun e => ?_).trans hj
  obtain ⟨cs, rfl⟩ := hty j o e.symm hj
  rcases ho with ho | ⟨cs', fz, ho⟩
  · cases ho
  · injection ho with _ h
    exact absurd h (by decide)
theorem wpListIn_append_num {F : Fence} {nF : Nat} {w : World} {ops : Array Oper} {rest : List Oper} {o : Oper} {a : Act} {Q : Exit → Act → World → Prop} (hgd : o.guard = none) (s x : Operand)
    (ho : o.op = .call { callee := .builtin .append, args := #[s, x], argTypes := #[31, 31] })
    (base : Nat) (A : Option Addr) (n c : Nat) (l : List Nat) (hs : a.eval s = .slice A n c) (hown : w.ownsRow base 3 1 (.slice A n c) n (nv l)) (g p : Nat) (hx : a.eval x = .slice (some ⟨g, 0, none⟩) 1 1) (hr : w.cell? ⟨g, 0, none⟩ = some (.int .i64 (p : Int))) (hsz : n + 1 ≤ 1000000) (hbase : base ≤ w.heap.size)
    (h : ∀ A'' c'' w', w'.ownsRow base 3 1 (.slice A'' (n + 1) c'') (n + 1) (nv (l ++ [p])) → KeepP base w w' → KeepsOthers w w' → wpListIn F nF Tryd.prog ops Q rest (a.put o.dst (.slice A'' (n + 1) c'')) w') :
    wpListIn F nF Tryd.prog ops Q (o :: rest) a w := by
  refine wpListIn_plain hgd fun K hK => ?_
  obtain ⟨A'', c'', w', hrun, h1, h2, h3⟩ := run_append_num o.type base A n c l hown g p hr hsz hbase
  unfold Oper.wpIn
  refine ⟨by simp [Oper.about, ho, resolve, Target.leads, Sem.run_pure], ?_⟩
  rw [Oper.semAt_plain F _ _ (by rw [ho]; intro c hc'; cases hc')]
  simp [execOp, ho, resolve, invoke, builtin, hs, hx, hrun, Result.andThen]
  exact hK _ _ (h A'' c'' w' h1 h2 h3)
theorem keepP_set {n₀ b : Nat} {w : World} {v u : Value} (hv : Boxed w b 31 v) (hn : n₀ ≤ b) : KeepP n₀ w (w.setCell ⟨b, 0, none⟩ u) := by
  refine ⟨(Below.refl _ _).setCell (p := ⟨b, 0, none⟩) hn u, fun j o hj ho => (Below.heap_setCell w ⟨b, 0, none⟩ u j ?_).trans hj⟩
  rintro rfl
  rw [show w.heap[_]? = _ from hv] at hj
  cases hj
  rcases ho with ho | ⟨cs', fz, ho⟩
  · cases ho
  · injection ho with _ h
    exact absurd h (by decide)
theorem KeepP.mono {n₀ n₁ : Nat} {w w' : World} (h : KeepP n₁ w w') (hn : n₀ ≤ n₁) : KeepP n₀ w w' := ⟨h.1.mono hn, h.2⟩
theorem rn_of_own {w : World} {base n c : Nat} {A : Option Addr} {l : List Nat} (h : w.ownsRow base 3 1 (.slice A n c) n (nv l)) : Rn w w.heap.size A l ∧ n ≤ c ∧ n = l.length := by
  have hl := h.1
  rw [nv_len, Nat.mul_one] at hl
  refine ⟨fun k hk => ?_, ?_, hl.symm⟩
  · obtain ⟨g, c', hv, hg, hcs⟩ := own_head h (by omega)
    injection hv with hA _ _
    refine ⟨g, 0, hA, hg, ?_⟩
    rw [Nat.zero_add]
    exact hcs k _ (by simp [nv, List.getD, hk])
  · rcases h.2 with ⟨hv, h0⟩ | ⟨g, cap, cur, hv, _, _, hnc, _⟩
    · omega
    · injection hv with _ _ h3
      omega

set_option maxRecDepth 100000 in
set_option maxHeartbeats 4000000 in
theorem reach_ok (A : Option Addr) (m cap : Nat) (f : Nat → Ins) (w : World) (hK : Kinds w) (hA : Ri w w.heap.size A m f) (hcap : m ≤ cap) (hM : May f m) (hG : Goes f m) :
    Calls Tryd.prog 13 #[.slice A m cap] w fun e w' => ∃ A' c', e = .returned (.tuple #[.slice A' (reachI f m).length c', .int .i64 0]) ∧ (reachI f m).length ≤ c' ∧ Rn w' w'.heap.size A' (reachI f m) ∧ Below w.heap.size w w' := by
  have hC := check_any A m cap f w hK hA
  rw [chk_may hM] at hC
  refine (callsIn_wide (n := 6)).1 ?_
  refine callsIn_of_wp_marks Tryd.func13 rfl trivial ?_ rfl
  simp only [Tryd.ntmps13, List.size_toArray, List.length_cons, List.length_nil, Nat.reduceAdd, Nat.reduceSub, Array.replicate_succ, Array.replicate_zero, List.push_toArray, List.append_toArray, List.nil_append, List.cons_append]
  refine wpIn_wide.2 ?_
  go_wp2_with fail
  refine hC.mono ?_
  rintro e w1 ⟨rfl, b1⟩
  go_wp2_with fail
  refine (met_any A m cap _).mono ?_
  rintro e w2 ⟨rfl, rfl⟩
  go_wp2_with fail
  have bP := (Boxed.new w1 31 (.slice none 0 0)).alloc (.cells #[.slice A m cap] 24)
  have bL := Boxed.new (w1.alloc (.cells #[.slice none 0 0] 31)) 24 (.slice A m cap)
  have hB0 : Below w.heap.size w ((w1.alloc (.cells #[.slice none 0 0] 31)).alloc (.cells #[.slice A m cap] 24)) := (b1.alloc b1.size _).alloc (by have := b1.size; simp; omega) _
  have hs1 := b1.size
  have hpos := hK.pos
  simp only [World.size_alloc] at bL
  have hsz : ((w1.alloc (.cells #[.slice none 0 0] 31)).alloc (.cells #[.slice A m cap] 24)).heap.size = w1.heap.size + 1 + 1 := by simp
  obtain ⟨w0, hw0⟩ : ∃ w0, (w1.alloc (.cells #[.slice none 0 0] 31)).alloc (.cells #[.slice A m cap] 24) = w0 := ⟨_, rfl⟩
  rw [hw0] at bP bL hB0 hsz ⊢
  clear hw0 hC b1
  have hms := met_stops 5 (by omega) w.heap.size (w1.heap.size + 1) m cap A f hM.hi hcap hG w0 (by omega) hpos (hK.below hB0 hpos) bL (by omega) (hA.below hB0 (Nat.le_refl _))
  refine (wpIn_wide (n := 6)).1 ?_
  refine wpIn_rangeFunc_ownG rfl (by omega) (gf := 34) (lb := #[.pointer (some ⟨w1.heap.size + 1, 0, none⟩)]) rfl trivial (enters_of Tryd.func34 (by kernel_rfl) rfl)
    hms keepP_t (keepP_b (by omega)) (Below.refl _ _) (fun _ => rfl)
    (fun (pre : List (Nat × Nat)) W => (∃ v, Boxed W w1.heap.size 31 v ∧ W.ownsRow w0.heap.size 3 1 v pre.length (nv (pre.map (·.1))) ∧ True) ∧ Below w.heap.size w0 W)
    (fun _ _ _ => False)
    (OwnFrom.and (Own.from (holdsRow_own w0.heap.size w1.heap.size 31 3 1 (fun (pre : List (Nat × Nat)) => pre.length) (fun pre => nv (pre.map (·.1))) (fun _ _ => True)) _) (ownFrom_below (by omega) (by omega)))
    (fun _ _ _ _ _ hs _ _ => hs)
    ⟨⟨_, bP, World.ownsRow_nil _ _ _ _, trivial⟩, Below.refl _ _⟩
    (fun x => { tmps := #[.slice A m cap, undef, .slice none 0 0, .int .i64 0, .int .i64 0, .int .i64 0, .pointer (some ⟨w1.heap.size, 0, none⟩), .int .i64 (x.1 : Int), .tuple #[.int .i64 0, .int .i64 0], .slice A m cap, .tuple #[.int .i64 0, .int .i64 0], .int .i64 0, .int .i64 0, .int .i64 0, .bool false, undef, .slice A m cap,
      .func (.func 34) #[] #[.pointer (some ⟨w1.heap.size + 1, 0, none⟩)], .int .i64 (x.1 : Int), .int .i64 (x.2 : Int), undef, undef, undef, undef, undef], defers := [] }) ?assign ?body ?done ?stop
  case assign =>
    intro l x W K hK
    gi_wp2
    exact hK
  case body =>
    rintro l pre ⟨p, q⟩ W ⟨⟨v, hv, hrow, _⟩, hB⟩ hlt
    obtain ⟨A', c', rfl⟩ := own_slice hrow
    have hc := hv.cell
    have hsW := hB.size
    have hm64 := hM.hi
    have ba : Below W.heap.size W (W.alloc (.cells #[.int .i64 (p : Int)] 3)) := (Below.refl _ _).alloc (Nat.le_refl _) _
    have hva := boxed_below hv ba (by omega)
    have hrow' := ownsRow_below hrow ba (Nat.le_refl _)
    gi_wp2_with (gi_at_builtin; refine wpListIn_append_num rfl (.tmp 20) (.tmp 22) rfl w0.heap.size A' pre.length c' (pre.map (·.1)) rfl hrow' W.heap.size p rfl (by simp) (by omega) (by simp; omega) ?_; intro A2 c2 w2 how2 hk2 ho2; have hv2 := boxed_below hva hk2.1 (by omega); have hc2 := hv2.cell; have hf2 := hv2.frozen)
    have hkp : KeepP w.heap.size W (w2.setCell ⟨w1.heap.size, 0, none⟩ (.slice A2 (pre.length + 1) c2)) := keepP_t (keepP_below ba (by omega)) (keepP_t (hk2.mono (by omega)) (keepP_set hv2 hs1))
    refine ⟨((KeepsOthers.alloc _ _).trans (ho2.trans (KeepsOthers.setCell _ _ _))).from _, hkp, ⟨⟨_, hv2.set _, ?_, trivial⟩, hB.trans hkp.1⟩⟩
    have hq := own_drew_set (u' := .slice A2 (pre.length + 1) c2) how2 hv2 (by decide)
    simpa using hq
  case done =>
    rintro D ys W hD rfl ⟨⟨v, hv, hrow, _⟩, hB⟩ hKD
    obtain ⟨A', c', rfl⟩ := own_slice hrow
    have hlen : (metsI f m).length = (reachI f m).length := by rw [← mets_fst, List.length_map]
    rw [mets_fst, hlen] at hrow
    rw [hlen] at hv
    have hc := hv.cell
    go_wp2_with fail
    refine ⟨by simp, .inl ⟨_, _, rfl, run_takeDeferred hKD, ?_⟩⟩
    have hr' := ownsRow_putObj hrow (.deferred none) hKD rfl
    obtain ⟨h1, h2, _⟩ := rn_of_own hr'
    exact ⟨_, results_tmp2 rfl _ _ _, A', c', rfl, h2, h1, (hB0.trans hB).trans (belowK_b (w := w) (Nat.le_refl _) W D _ _ (by omega) hKD rfl rfl)⟩
  case stop =>
    rintro D cd pre W _ _ h _
    exact h.elim

set_option maxHeartbeats 1000000 in
theorem reach_no (A : Option Addr) (m cap : Nat) (f : Nat → Ins) (w : World) (hK : Kinds w) (hA : Ri w w.heap.size A m f) (r1 r2 : Int) (hr : chkI f m = (r1, r2)) (h0 : ¬ r2 = 0) :
    Calls Tryd.prog 13 #[.slice A m cap] w fun e w' => e = .returned (.tuple #[.slice none 0 0, .int .i64 r2]) ∧ Below w.heap.size w w' := by
  have hC := check_any A m cap f w hK hA
  rw [hr] at hC
  clear hr
  go_enter Tryd.func13, Tryd.ntmps13
  go_wp2_with fail
  refine hC.mono ?_
  rintro e w1 ⟨rfl, b1⟩
  go_wp2_with fail
  go_ret2
  exact ⟨rfl, b1⟩

set_option maxHeartbeats 1000000 in
theorem most_no (A : Option Addr) (m cap : Nat) (f : Nat → Ins) (w : World) (hK : Kinds w) (hA : Ri w w.heap.size A m f) (r1 r2 : Int) (hr : chkI f m = (r1, r2)) (h0 : ¬ r2 = 0) :
    Calls Tryd.prog 14 #[.slice A m cap] w fun e w' => e = .returned (.tuple #[.int .i64 0, .int .i64 r2]) ∧ Below w.heap.size w w' := by
  have hC := check_any A m cap f w hK hA
  rw [hr] at hC
  clear hr
  go_enter Tryd.func14, Tryd.ntmps14
  go_wp2_with fail
  refine hC.mono ?_
  rintro e w1 ⟨rfl, b1⟩
  go_wp2_with fail
  go_ret2
  exact ⟨rfl, b1⟩

set_option maxRecDepth 100000 in
set_option maxHeartbeats 4000000 in
theorem most_ok (A : Option Addr) (m cap : Nat) (f : Nat → Ins) (w : World) (hK : Kinds w) (hA : Ri w w.heap.size A m f) (hcap : m ≤ cap) (hM : May f m) (hG : Goes f m) :
    Calls Tryd.prog 14 #[.slice A m cap] w fun e w' => e = .returned (.tuple #[.int .i64 ((mostI f m : Nat) : Int), .int .i64 0]) ∧ Below w.heap.size w w' := by
  have hC := check_any A m cap f w hK hA
  rw [chk_may hM] at hC
  refine (callsIn_wide (n := 6)).1 ?_
  refine callsIn_of_wp_marks Tryd.func14 rfl trivial ?_ rfl
  simp only [Tryd.ntmps14, List.size_toArray, List.length_cons, List.length_nil, Nat.reduceAdd, Nat.reduceSub, Array.replicate_succ, Array.replicate_zero, List.push_toArray, List.append_toArray, List.nil_append, List.cons_append]
  refine wpIn_wide.2 ?_
  go_wp2_with fail
  refine hC.mono ?_
  rintro e w1 ⟨rfl, b1⟩
  go_wp2_with fail
  refine (met_any A m cap _).mono ?_
  rintro e w2 ⟨rfl, rfl⟩
  go_wp2_with fail
  have bP := (Boxed.new w1 31 (.slice none 0 0)).alloc (.cells #[.slice A m cap] 24)
  have bL := Boxed.new (w1.alloc (.cells #[.slice none 0 0] 31)) 24 (.slice A m cap)
  have hB0 : Below w.heap.size w ((w1.alloc (.cells #[.slice none 0 0] 31)).alloc (.cells #[.slice A m cap] 24)) := (b1.alloc b1.size _).alloc (by have := b1.size; simp; omega) _
  have hs1 := b1.size
  have hpos := hK.pos
  simp only [World.size_alloc] at bL
  have hsz : ((w1.alloc (.cells #[.slice none 0 0] 31)).alloc (.cells #[.slice A m cap] 24)).heap.size = w1.heap.size + 1 + 1 := by simp
  obtain ⟨w0, hw0⟩ : ∃ w0, (w1.alloc (.cells #[.slice none 0 0] 31)).alloc (.cells #[.slice A m cap] 24) = w0 := ⟨_, rfl⟩
  rw [hw0] at bP bL hB0 hsz ⊢
  clear hw0 hC b1
  have hms := met_stops 5 (by omega) w.heap.size (w1.heap.size + 1) m cap A f hM.hi hcap hG w0 (by omega) hpos (hK.below hB0 hpos) bL (by omega) (hA.below hB0 (Nat.le_refl _))
  refine (wpIn_wide (n := 6)).1 ?_
  refine wpIn_rangeFunc_ownG rfl (by omega) (gf := 34) (lb := #[.pointer (some ⟨w1.heap.size + 1, 0, none⟩)]) rfl trivial (enters_of Tryd.func34 (by kernel_rfl) rfl)
    hms keepP_t (keepP_b (by omega)) (Below.refl _ _) (fun _ => rfl)
    (fun (pre : List (Nat × Nat)) W => (∃ v, Boxed W w1.heap.size 31 v ∧ W.ownsRow w0.heap.size 3 1 v pre.length (nv (pre.map (·.2))) ∧ True) ∧ Below w.heap.size w0 W)
    (fun _ _ _ => False)
    (OwnFrom.and (Own.from (holdsRow_own w0.heap.size w1.heap.size 31 3 1 (fun (pre : List (Nat × Nat)) => pre.length) (fun pre => nv (pre.map (·.2))) (fun _ _ => True)) _) (ownFrom_below (by omega) (by omega)))
    (fun _ _ _ _ _ hs _ _ => hs)
    ⟨⟨_, bP, World.ownsRow_nil _ _ _ _, trivial⟩, Below.refl _ _⟩
    (fun x => { tmps := #[.slice A m cap, undef, .int .i64 0, .int .i64 0, .int .i64 0, .int .i64 0, .pointer (some ⟨w1.heap.size, 0, none⟩), undef, .int .i64 (x.2 : Int), .tuple #[.int .i64 0, .int .i64 0], .slice A m cap, .tuple #[.int .i64 0, .int .i64 0], .int .i64 0, .int .i64 0, .int .i64 0, .bool false, undef, .slice A m cap,
      .func (.func 34) #[] #[.pointer (some ⟨w1.heap.size + 1, 0, none⟩)], .int .i64 (x.1 : Int), .int .i64 (x.2 : Int), undef, undef, undef, undef, undef, undef], defers := [] }) ?assign ?body ?done ?stop
  case assign =>
    intro l x W K hK
    gi_wp2
    exact hK
  case body =>
    rintro l pre ⟨q, p⟩ W ⟨⟨v, hv, hrow, _⟩, hB⟩ hlt
    obtain ⟨A', c', rfl⟩ := own_slice hrow
    have hc := hv.cell
    have hsW := hB.size
    have hm64 := hM.hi
    have ba : Below W.heap.size W (W.alloc (.cells #[.int .i64 (p : Int)] 3)) := (Below.refl _ _).alloc (Nat.le_refl _) _
    have hva := boxed_below hv ba (by omega)
    have hrow' := ownsRow_below hrow ba (Nat.le_refl _)
    gi_wp2_with (gi_at_builtin; refine wpListIn_append_num rfl (.tmp 21) (.tmp 23) rfl w0.heap.size A' pre.length c' (pre.map (·.2)) rfl hrow' W.heap.size p rfl (by simp) (by omega) (by simp; omega) ?_; intro A2 c2 w2 how2 hk2 ho2; have hv2 := boxed_below hva hk2.1 (by omega); have hc2 := hv2.cell; have hf2 := hv2.frozen)
    have hkp : KeepP w.heap.size W (w2.setCell ⟨w1.heap.size, 0, none⟩ (.slice A2 (pre.length + 1) c2)) := keepP_t (keepP_below ba (by omega)) (keepP_t (hk2.mono (by omega)) (keepP_set hv2 hs1))
    refine ⟨((KeepsOthers.alloc _ _).trans (ho2.trans (KeepsOthers.setCell _ _ _))).from _, hkp, ⟨⟨_, hv2.set _, ?_, trivial⟩, hB.trans hkp.1⟩⟩
    have hq := own_drew_set (u' := .slice A2 (pre.length + 1) c2) how2 hv2 (by decide)
    simpa using hq
  case done =>
    rintro D ys W hD rfl ⟨⟨v, hv, hrow, _⟩, hB⟩ hKD
    obtain ⟨A', c', rfl⟩ := own_slice hrow
    obtain ⟨h1, _, h3⟩ := rn_of_own hrow
    have hlm := mets_len f m
    have hm64 := hM.hi
    have hg := great_any A' (metsI f m).length c' W.heap.size 0 ((metsI f m).map (·.2)) W h1 h3 (by omega)
    rw [mets_most hG] at hg
    clear h1 h3 hlm hrow
    obtain ⟨len, hlen⟩ : ∃ len, (metsI f m).length = len := ⟨_, rfl⟩
    rw [hlen] at hv hg
    clear hlen hms
    have hc := hv.cell
    go_wp2_with fail
    refine hg.mono ?_
    rintro e W2 ⟨rfl, rfl⟩
    go_wp2_with fail
    refine ⟨by simp, .inl ⟨_, _, rfl, run_takeDeferred hKD, ?_⟩⟩
    exact ⟨_, results_tmp2 rfl _ _ _, rfl, (hB0.trans hB).trans (belowK_b (w := w) (Nat.le_refl _) W2 D _ _ (by omega) hKD rfl rfl)⟩
  case stop =>
    rintro D cd pre W _ _ h _
    exact h.elim
end Go.Proofs.YtgepeckdafeedaaDoor

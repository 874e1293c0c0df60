/-
  The reference's One and All; Decode of fewer than eight bytes.
-/
import Derived.Test.YtndmlbepjcagiaaDoorRefNum
import Derived.Test.YtndmlbepjcagiaaDoorRefBare
import Derived.Test.YtndmlbepjcagiaaDoorAll
import Derived.Test.YtndmlbepjcagiaaDoorFew
namespace Go.Proofs.YtndmlbepjcagiaaDoor
open Go.RowKit

theorem dC_at (l : List Int) : dC l = nAt l 0 2 := rfl
theorem dK_at (l : List Int) : dK l = nAt l 4 4 := by simp [dK, nAt, List.drop_drop]
theorem d1_at {l : List Int} {o : Nat} (h : o < l.length) : numL ((l.drop o).take 1) = l.getD o 0 := by
  rw [show (1 : Nat) = 0 + 1 from rfl, take_succ (l.drop o) 0 (by rw [List.length_drop]; omega)]
  simp [numL]
theorem dA_at {l : List Int} (h : l.length = 8) : dA l = l.getD 2 0 := d1_at (by omega)
theorem dB_at {l : List Int} (h : l.length = 8) : dB l = l.getD 3 0 := by
  unfold dB
  rw [List.drop_drop]
  exact d1_at (by omega)
theorem oneS {w : World} {B b off : Nat} {l : List Int} (hr : Rd w B (some ⟨b, off, none⟩) 8 l) (hB : B ≤ w.heap.size) (cs : Array Value) : let V := (w.alloc (.cells cs 48)).drew
    V.cell? ⟨b, off + 2, none⟩ = some (.int .u8 (l.getD 2 0)) ∧ V.cell? ⟨b, off + 3, none⟩ = some (.int .u8 (l.getD 3 0)) ∧ Below w.heap.size w V := by
  intro V
  have hb : Below w.heap.size w V := ((Below.refl _ w).alloc (Nat.le_refl _) _).drew
  obtain ⟨b', off', e, hlt, hc⟩ := (hr.below (hb.mono hB)).cells (by omega)
  injection e with e
  injection e with e1 e2
  subst e1 e2
  exact ⟨hc 2 (by omega), hc 3 (by omega), hb⟩
theorem oneB {w V : World} {b off : Nat} {y z : Int} (h : V.cell? ⟨b, off + 2, none⟩ = some (.int .u8 y) ∧ V.cell? ⟨b, off + 3, none⟩ = some (.int .u8 z) ∧ Below w.heap.size w V) : Below w.heap.size w V := h.2.2
theorem keepO {w V : World} (h : Below w.heap.size w V) {B : Nat} (hB : B ≤ w.heap.size) : ∀ p : Addr, p.block < B → V.cell? p = w.cell? p := fun _ hp => h.cell (by omega)

set_option maxHeartbeats 4000000 in
theorem one_any (A : Option Addr) (c B : Nat) (l : List Int) (w : World) (hr : Rd w B A 8 l) (hB : B ≤ w.heap.size) (hc : 8 ≤ c) :
    Calls Tryd.prog 29 #[.slice A 8 c] w fun e w' => e = .returned (.agg #[.int .u16 (dC l), .int .u8 (dA l), .int .u8 (dB l), .int .u32 (dK l)]) ∧ Below w.heap.size w w' := by
  obtain ⟨b, off, rfl, hbl, _⟩ := hr.at_ (k := 0) (by omega)
  have HS := Lib.hid (oneS hr hB)
  have N0 := fun w' hw => refnum_mid (o := 0) (m := 2) (c := c) (w' := w') hr (by omega) (by omega) (by omega) hw
  have N4 := fun w' hw => refnum_mid (o := 4) (m := 4) (c := c - 4) (w' := w') hr (by omega) (by omega) (by omega) hw
  have ha := hr.byt.at_ 2
  have hb := hr.byt.at_ 3
  rw [dC_at, dK_at, dA_at hr.len, dB_at hr.len]
  have b0 := numL_bd ((hr.byt.drop 0).take 2)
  have b4 := numL_bd ((hr.byt.drop 4).take 4)
  have l0 : ((l.drop 0).take 2).length = 2 := by rw [List.length_take, List.length_drop, hr.len]; rfl
  have l4 : ((l.drop 4).take 4).length = 4 := by rw [List.length_take, List.length_drop, hr.len]; rfl
  rw [l0] at b0
  rw [l4] at b4
  obtain ⟨x, hx⟩ : ∃ x, nAt l 0 2 = x := ⟨_, rfl⟩
  obtain ⟨u, hu⟩ : ∃ u, nAt l 4 4 = u := ⟨_, rfl⟩
  obtain ⟨y, hy⟩ : ∃ y, l.getD 2 0 = y := ⟨_, rfl⟩
  obtain ⟨z, hz⟩ : ∃ z, l.getD 3 0 = z := ⟨_, rfl⟩
  have x1 : 0 ≤ x ∧ x ≤ 65535 := by
    have h2 : (256 : Int) ^ 2 = 65536 := by decide
    rw [← hx]; unfold nAt; omega
  have u1 : 0 ≤ u ∧ u ≤ 4294967295 := by
    have h2 : (256 : Int) ^ 4 = 4294967296 := by decide
    rw [← hu]; unfold nAt; omega
  simp only [hx, hu, hy, hz] at N0 N4 HS ha hb ⊢
  simp only [Nat.add_zero] at N0
  clear hx hu hy hz b0 b4 l0 l4
  obtain ⟨x0, x1⟩ := x1
  obtain ⟨u0, u1⟩ := u1
  have s1 : IntKind.u16.wrap x = x := by rw [IntKind.wrap_u16]; omega
  have s2 : IntKind.u32.wrap u = u := by rw [IntKind.wrap_u32]; omega
  have q1 : (2 : Int) ≤ c := by omega
  have q2 : (8 : Int) ≤ c := by omega
  have q4 : ¬ c = 4 := by omega
  have q6 : ¬ c = 0 := by omega
  go_enter Tryd.func29, Tryd.ntmps29
  go_wp2_with fail
  go_region_held3 (fun V => V.cell? ⟨b, off + 2, none⟩ = some (.int .u8 y) ∧ V.cell? ⟨b, off + 3, none⟩ = some (.int .u8 z) ∧ Below w.heap.size w V) (first | exact HS.out _ | assumption)
    (first
      | (go_at_call 45; ((with_reducible refine (N0 _ (keepO (oneB (by assumption)) hB)).mono ?_); rintro e w' ⟨rfl, rfl⟩))
      | (go_at_call 45; ((with_reducible refine (N4 _ (keepO (oneB (by assumption)) hB)).mono ?_); rintro e w' ⟨rfl, rfl⟩)))
  clear N0 N4 HS q1 q2 q4 q6 s1 s2
  go_wp2_with fail
  refine bodyPost_ret (results_cell_row rfl _ _ w.heap.size 48 (insC x y z u) (0, 0) _ rfl (Blk.new w (insC x y z u) 48).drew.blk Tryd.underlying48 rfl ins_inf) rfl ?_
  exact ⟨rfl, ((Below.refl _ w).alloc (Nat.le_refl _) _).drew⟩

theorem wpList_append_insn {w : World} {ops : Array Oper} {rest : List Oper} {o : Oper} {a : Act} {Q : Exit → Act → World → Prop} (hgd : o.guard = none) (s x : Operand)
    (ho : o.op = .call { callee := .builtin .append, args := #[s, x], argTypes := #[37, 37] })
    (base : Nat) (A : Option Addr) (n c : Nat) (cs : List Value) (hs : a.eval s = .slice A n c) (hown : w.ownsRow base 48 4 (.slice A n c) n cs)
    (g m c' : Nat) (news : List Value) (hx : a.eval x = .slice (some ⟨g, 0, none⟩) m c') (hr : w.heap[g]? = some (.cells news.toArray 48 (0, 0))) (hl' : news.length = m * 4) (h1 : ∀ u ∈ news, u.oneCell' = true) (hsz : n + m ≤ 1000000) (hbase : base ≤ w.heap.size)
    (h : ∀ A'' c'' w', w'.ownsRow base 48 4 (.slice A'' (n + m) c'') (n + m) (cs ++ news) → Below base w w' → wpList Tryd.prog ops Q rest (a.put o.dst (.slice A'' (n + m) c'')) w') :
    wpList Tryd.prog ops Q (o :: rest) a w := by
  refine wpList_plain hgd fun K hK => ?_
  obtain ⟨A'', c'', w', hrun, h2, h3, _⟩ := run_append_insn o.type base A n c cs hown g m c' news hr hl' h1 hsz hbase
  unfold Oper.wp execOp
  simp only [ho, resolve, invoke, builtin, Sem.run_bind, Sem.run_pure, Result.andThen_ok, List.map_toArray, List.map_cons, List.map_nil, hs, hx, hrun]
  exact hK _ _ (h A'' c'' w' h2 h3)
theorem own_below {w w' : World} {base n B size : Nat} {e : TypeId} {v : Value} {cs : List Value} (h : w.ownsRow base e size v n cs) (hb : Below B w w') (hB : w.heap.size ≤ B) : w'.ownsRow base e size v n cs := by
  refine ⟨h.1, ?_⟩
  rcases h.2 with h0 | ⟨g, cap, cur, hv, hg, hh, r⟩
  · exact .inl h0
  · have hlt : g < w.heap.size := (Array.getElem?_eq_some_iff.1 hh).1
    exact .inr ⟨g, cap, cur, hv, hg, (hb.block g (by omega)).trans hh, r⟩
theorem rb_le' {w : World} {n : Nat} {o : Obj} (h : n ≤ w.heap.size) : n ≤ (w.alloc o).heap.size := Nat.le_trans h (by simp)
theorem flatV_next (g : Nat → List Value) (k : Nat) : ((List.range k).flatMap g) ++ g k = (List.range (k + 1)).flatMap g := by simp [List.range_succ]

set_option maxHeartbeats 4000000 in
theorem all_ok (A : Option Addr) (m L cap : Nat) (l : List Int) (w : World) (hA : Rd w w.heap.size A L l) (hL : L = m * 8) (hcap : L ≤ cap) (hm : m ≤ 255) :
    Calls Tryd.prog 27 #[.slice A L cap] w fun e w' =>
      ∃ A' c', e = .returned (.tuple #[.slice A' m c', .int .i64 0]) ∧ w'.ownsRow w.heap.size 48 4 (.slice A' m c') m ((List.range m).flatMap fun k => celI (dI l k)) ∧ Below w.heap.size w w' := by
  have h1 : (L : Int) ≤ 2040 := by omega
  have h2 : (L : Int) % 8 = 0 := by omega
  have h3 : (L : Int).tmod 8 = 0 := by rw [Int.tmod_eq_emod_of_nonneg (by omega)]; exact h2
  have HL := Lib.hid hL
  clear hL
  go_enter Tryd.func27, Tryd.ntmps27
  go_wp2_with fail
  go_loopw [4, 5] (fun v i wr => ∃ (k : Nat) (A1 : Option Addr) (c1 : Nat), k ≤ m ∧ i = .int .i64 ((k : Int) * 8) ∧ v = .slice A1 k c1 ∧ wr.ownsRow w.heap.size 48 4 (.slice A1 k c1) k ((List.range k).flatMap fun k => celI (dI l k)) ∧ Below w.heap.size w wr) (fun _ i _ => L - (intOf i).toNat)
  case atStart => exact ⟨0, none, 0, Nat.zero_le _, rfl, rfl, World.ownsRow_nil w _ _ _, Below.refl _ _⟩
  case round =>
    obtain ⟨k, A1, c1, hk, rfl, rfl, hown, hbr⟩ := hrel
    have hHL := HL.out
    by_cases hlt : k < m
    · have hlt' : (k : Int) * 8 < L := by omega
      have t1 : (k : Int) * 8 + 8 ≤ cap := by omega
      have t2 : ¬ cap = k * 8 := by omega
      have t3 : (0 : Int) ≤ (k : Int) * 8 := by omega
      have t4 : (k : Int) * 8 + 8 ≤ 2040 := by omega
      obtain ⟨b, off, rfl, hp⟩ := piece8 (hA.below hbr) HL.out hlt
      have hs := hbr.size
      have O := one_any (some ⟨b, off + k * 8, none⟩) (cap - k * 8) w.heap.size _ wr hp hs (by omega)
      have hst := Lib.hid (flatV_next (fun k => celI (dI l k)) k)
      have hci : celI (dI l k) = [.int .u16 (dC ((l.drop (k * 8)).take 8)), .int .u8 (dA ((l.drop (k * 8)).take 8)), .int .u8 (dB ((l.drop (k * 8)).take 8)), .int .u32 (dK ((l.drop (k * 8)).take 8))] := rfl
      obtain ⟨x, hx⟩ : ∃ x, dC ((l.drop (k * 8)).take 8) = x := ⟨_, rfl⟩
      obtain ⟨y, hy⟩ : ∃ x, dA ((l.drop (k * 8)).take 8) = x := ⟨_, rfl⟩
      obtain ⟨z, hz⟩ : ∃ x, dB ((l.drop (k * 8)).take 8) = x := ⟨_, rfl⟩
      obtain ⟨u, hu⟩ : ∃ x, dK ((l.drop (k * 8)).take 8) = x := ⟨_, rfl⟩
      rw [hx, hy, hz, hu] at O hci
      have HC := Lib.hid hci
      have HO := Lib.hid O
      clear hx hy hz hu hci O hp hHL
      go_wp2_with fail
      refine HO.out.mono ?_
      rintro e w3 ⟨rfl, b3⟩
      have o3 := (own_below hown b3 (Nat.le_refl _)).alloc (.cells #[.int .u16 x, .int .u8 y, .int .u8 z, .int .u32 u] 48)
      have B3 := hbr.trans (b3.mono hs)
      have s3 := B3.size
      have hh := heap_alloc_new w3 (.cells #[.int .u16 x, .int .u8 y, .int .u8 z, .int .u32 u] 48)
      go_wp2_with (at_builtin; refine wpList_append_insn rfl (.tmp 19) (.tmp 26) rfl w.heap.size A1 k c1 _ rfl o3 w3.heap.size 1 1 [.int .u16 x, .int .u8 y, .int .u8 z, .int .u32 u] rfl hh rfl (cel_one (x, y, z, u)) (by omega) (rb_le' s3) ?_; intro A4 c4 w4 o4 b4)
      refine ⟨⟨k + 1, A4, c4, by omega, by go_num, rfl, ?_, (B3.alloc s3 _).trans b4⟩, by simp [intOf]; omega⟩
      rw [← hst.out, HC.out]
      exact o4
    · obtain rfl : k = m := by omega
      have hge : ¬ (k : Int) * 8 < L := by omega
      clear hHL
      go_wp2_with fail
      go_ret2
      exact ⟨A1, c1, rfl, hown, hbr⟩
theorem all_long (A : Option Addr) (L cap : Nat) (w : World) (hm : 2040 < L) :
    Calls Tryd.prog 27 #[.slice A L cap] w fun e w' => e = .returned (.tuple #[.slice none 0 0, .int .i64 3]) ∧ w' = w := by
  have hm' : (2040 : Int) < L := by omega
  go_enter Tryd.func27, Tryd.ntmps27
  go_wp2_with fail
  go_ret2
  exact ⟨rfl, rfl⟩
theorem all_row (A : Option Addr) (L cap : Nat) (w : World) (hm : L ≤ 2040) (hr : L % 8 ≠ 0) :
    Calls Tryd.prog 27 #[.slice A L cap] w fun e w' => e = .returned (.tuple #[.slice none 0 0, .int .i64 120]) ∧ w' = w := by
  have h1 : (L : Int) ≤ 2040 := by omega
  have h2 : ¬ (L : Int) % 8 = 0 := by omega
  have h3 : ¬ (L : Int).tmod 8 = 0 := by rw [Int.tmod_eq_emod_of_nonneg (by omega)]; exact h2
  go_enter Tryd.func27, Tryd.ntmps27
  go_wp2_with fail
  go_ret2
  exact ⟨rfl, rfl⟩
end Go.Proofs.YtndmlbepjcagiaaDoor

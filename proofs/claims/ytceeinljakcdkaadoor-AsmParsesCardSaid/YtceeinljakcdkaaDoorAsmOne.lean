/-
  asm.One: the instruction whose line this is.
-/
import Derived.Test.YtceeinljakcdkaaDoorAsmRead
namespace Go.Proofs.YtceeinljakcdkaaDoor
open Go.RowKit Go.Shelf

def oneV (o : Option Ins) : Value := match o with | some q => valI q | none => valI (0, 0, 0, 0)
def oneE (o : Option Ins) : Int := match o with | some _ => 0 | none => 180
theorem empty_eq (r : List UInt8) : (bs r).toList.isEmpty = decide (r = []) := by
  rw [ByteArray.toList_eq, bs_list]
  cases r <;> simp
theorem wpList_load_in8 {ops : Array Oper} {rest : List Oper} {o : Oper} {a : Act} {w : World} {Q : Exit → Act → World → Prop} (hgd : o.guard = none) (x : Operand) (ho : o.op = .load 32 x)
    (g : Nat) (hx : a.eval x = .pointer (some ⟨g, 0, none⟩)) (cs : Array Value) (hc : cs.size = 4) (hg : Blk w g cs 32)
    (h : wpList Tryd.prog ops Q rest (a.put o.dst (.agg cs)) w) : wpList Tryd.prog ops Q (o :: rest) a w :=
  wpList_plain hgd fun _ hK => wp_load_row 32 x ho g hx 32 cs (0, 0) _ hg.blk Tryd.underlying32 rfl (by rw [hc]; exact insn_size) (hK _ _ h)
theorem wpList_store_in8 {ops : Array Oper} {rest : List Oper} {o : Oper} {a : Act} {w : World} {Q : Exit → Act → World → Prop} (hgd : o.guard = none) (x y : Operand) (ho : o.op = .store 32 x y)
    (g : Nat) (q q' : Ins) (hx : a.eval x = .pointer (some ⟨g, 0, none⟩)) (hy : a.eval y = valI q') (hb : Blk w g (celI q).toArray 32)
    (h : ∀ w', Blk w' g (celI q').toArray 32 → But g w w' → wpList Tryd.prog ops Q rest (a.put o.dst undef) w') : wpList Tryd.prog ops Q (o :: rest) a w :=
  wpList_store_blk hgd 32 x y ho g _ (celI q').toArray 32 hx hy hb rfl insn_size (by simp [celI, Value.oneCell']) h
theorem read_le {W : Nat} {c : Bool} {r : List UInt8} {n : Nat} {r' : List UInt8} (h : readL W c r = some (n, r')) : r'.length ≤ r.length := by
  unfold readL at h
  split at h
  · cases hn : numL W (partL (Lib.trimPrefix r [32])).1 with
    | none => rw [hn] at h; cases h
    | some m =>
      rw [hn] at h
      simp only [Option.map_some, Option.some.injEq, Prod.mk.injEq] at h
      obtain ⟨_, rfl⟩ := h
      exact Nat.le_trans (part_le _).2 (trim_le r)
  · simp only [Option.some.injEq, Prod.mk.injEq] at h
    obtain ⟨_, rfl⟩ := h
    exact Nat.le_refl _
set_option maxRecDepth 100000 in
set_option maxHeartbeats 16000000 in
theorem one_any (s : ByteArray) (hs : s.size ≤ 1048576) (w : World) (hT : T8 w) :
    Calls Tryd.prog 17 #[.string s] w fun e w' => e = .returned (.tuple #[oneV (oneB s.data.toList), .int .i64 (oneE (oneB s.data.toList))]) ∧ Below w.heap.size w w' := by
  unfold oneB
  obtain ⟨P, hP⟩ : ∃ P, partL s.data.toList = P := ⟨_, rfl⟩
  have hPl : P.2.length ≤ 1048576 := by
    have q1 := part_le s.data.toList
    have q3 := Lib.size_eq s
    rw [hP] at q1
    omega
  have hpart : ∀ w, Calls Tryd.prog 40 #[.string s] w fun e w' => e = .returned (.tuple #[.string (bs P.1), .string (bs P.2)]) ∧ Below w.heap.size w w' := fun w => by
    have := part_any s w
    rwa [hP] at this
  rw [hP]
  have hcode := fun w hK => code_any (bs P.1) w hK
  have g0 := Blk.new w #[.int .u16 0, .int .u8 0, .int .u8 0, .int .u32 0] 32
  have hB0 : Below w.heap.size w (w.alloc (.cells #[.int .u16 0, .int .u8 0, .int .u8 0, .int .u32 0] 32)) := (Below.refl _ w).alloc (Nat.le_refl _) _
  by_cases hkn : (codeOf (bs P.1)).2 = true
  · rw [if_pos hkn]
    rw [hkn] at hcode
    obtain ⟨c, hc⟩ : ∃ c, (codeOf (bs P.1)).1 = c := ⟨_, rfl⟩
    rw [hc] at hcode ⊢
    have hcount := fun w hK => counted_any c w hK
    unfold insV at hcount
    obtain ⟨o, ho⟩ : ∃ o, tailL c P.2 = o := ⟨_, rfl⟩
    rw [ho]
    have HO := Lib.hid ho
    clear hP hkn hc ho
    go_enter Tryd.func17, Tryd.ntmps17
    go_wp2_with (go_at_call 40; refine (hpart _).mono ?_)
    rintro e w1 ⟨rfl, hb1⟩
    have hB1 : Below w.heap.size w w1 := hB0.trans (hb1.mono hB0.size)
    have hT1 := hT.new hB1
    have k0 := g0.below hb1 g0.lt
    go_wp2_with (go_at_call 41; refine (hcode _ (hT1.alloc _).kinds).mono ?_)
    rintro e w2 ⟨rfl, hb2⟩
    have hb12 : Below w1.heap.size w1 w2 := ((Below.refl _ w1).alloc (Nat.le_refl _) _).trans (hb2.mono (by simp))
    have hB2 : Below w.heap.size w w2 := hB1.trans (hb12.mono hB1.size)
    have m0 := k0.below hb12 k0.lt
    have m1 := (Blk.new w1 #[.string (bs P.2)] 9).below hb2 (by simp)
    have hT2 := hT.new hB2
    have l01 := k0.lt
    go_wp2_with (go_at_call 31; refine (hcount _ hT2.kinds).mono ?_)
    rintro e w3 ⟨rfl, hb3⟩
    have hB3 : Below w.heap.size w w3 := hB2.trans (hb3.mono hB2.size)
    have n0 := m0.below hb3 m0.lt
    have n1 := m1.below hb3 m1.lt
    have l12 := n1.lt
    have p0 := (n0.alloc (.cells #[.int .u16 c, .int .u8 0, .int .u8 0, .int .u32 0] 32)).alloc (.cells #[.int .u16 c, .int .u8 (bareJ c 1), .int .u8 (bareJ c 1), .int .u32 (bareK c 1)] 32)
    have p1 := (n1.alloc (.cells #[.int .u16 c, .int .u8 0, .int .u8 0, .int .u32 0] 32)).alloc (.cells #[.int .u16 c, .int .u8 (bareJ c 1), .int .u8 (bareJ c 1), .int .u32 (bareK c 1)] 32)
    have p2 := (Blk.new w3 #[.int .u16 c, .int .u8 0, .int .u8 0, .int .u32 0] 32).alloc (.cells #[.int .u16 c, .int .u8 (bareJ c 1), .int .u8 (bareJ c 1), .int .u32 (bareK c 1)] 32)
    have p3 := Blk.new_ (w3.alloc (.cells #[.int .u16 c, .int .u8 0, .int .u8 0, .int .u32 0] 32)) #[.int .u16 c, .int .u8 (bareJ c 1), .int .u8 (bareJ c 1), .int .u32 (bareK c 1)] 32 (World.size_alloc _ _)
    have hBW : Below w.heap.size w ((w3.alloc (.cells #[.int .u16 c, .int .u8 0, .int .u8 0, .int .u32 0] 32)).alloc (.cells #[.int .u16 c, .int .u8 (bareJ c 1), .int .u8 (bareJ c 1), .int .u32 (bareK c 1)] 32)) :=
      (hB3.alloc hB3.size _).alloc (by simp; exact Nat.le_succ_of_le hB3.size) _
    have hsz3 := hB3.size
    have hread := read32_any w1.heap.size w3.heap.size (bs P.2) #[.int .u16 c, .int .u8 0, .int .u8 0, .int .u32 0] (bareK c 1) _ (hT.new hBW) (by rw [bs_size]; exact hPl) p1 p2 (by omega) rfl
    rw [bs_list] at hread
    go_wp2_with (go_at_call 42; refine hread.mono ?_)
    clear hread
    rintro e w4 ⟨ok, rfl, htw4, hsome, hnone⟩
    have q0 := p0.two htw4 (by omega) (by omega)
    have q3 := p3.two htw4 (by omega) (by omega)
    have hB4 : Below w.heap.size w w4 := hBW.trans (htw4.below (by omega) (by omega) hBW.size)
    cases hR1 : readL 4294967296 (bareK c 1 != 0) P.2 with
    | none =>
      obtain ⟨rfl, q1, q2⟩ := hnone hR1
      obtain rfl : o = none := by
        rw [← HO.out]
        simp only [tailL, hR1]
      clear hR1
      clear hsome hnone
      go_wp2_with (refine wpList_store_in8 rfl (.tmp 2) (.tmp 50) rfl w.heap.size (0, 0, 0, 0) (0, 0, 0, 0) rfl rfl q0 ?_; intro w7 b7 n7)
      exact bodyPost_ret (results_row_tmp (by rfl) _ _ w.heap.size 32 (celI (0, 0, 0, 0)).toArray (0, 0) _ rfl b7.blk Tryd.underlying32 rfl insn_size (.int .i64 180) rfl) rfl ⟨rfl, hB4.trans (n7.below _ (Nat.le_refl _) hB4.size)⟩
    | some X1 =>
      obtain ⟨nk, r1⟩ := X1
      obtain ⟨rfl, q1, q2⟩ := hsome _ _ hR1
      have hr1 := read_le hR1
      have d1 := q3.cell 1
      have d2 := q3.cell 2
      simp only [List.getElem?_toArray, List.getElem?_cons_zero, List.getElem?_cons_succ] at d1 d2
      have hread := read8_any 1 w1.heap.size w3.heap.size (bs r1) _ (bareJ c 1) _ (hT.new hB4) (by rw [bs_size]; omega) q1 q2 (by omega) rfl
      rw [bs_list] at hread
      go_wp2_with (go_at_call 43; refine hread.mono ?_)
      clear hread hsome hnone
      rintro e w5 ⟨ok, rfl, htw5, hsome, hnone⟩
      have s0 := q0.two htw5 (by omega) (by omega)
      have s3 := q3.two htw5 (by omega) (by omega)
      have hB5 : Below w.heap.size w w5 := hB4.trans (htw5.below (by omega) (by omega) hB4.size)
      cases hR2 : readL 256 (bareJ c 1 != 0) r1 with
      | none =>
        obtain ⟨rfl, s1, s2⟩ := hnone hR2
        obtain rfl : o = none := by
          rw [← HO.out]
          simp only [tailL, hR1, hR2]
        clear hR1 hR2
        clear hsome hnone
        go_wp2_with (refine wpList_store_in8 rfl (.tmp 2) (.tmp 50) rfl w.heap.size (0, 0, 0, 0) (0, 0, 0, 0) rfl rfl s0 ?_; intro w7 b7 n7)
        exact bodyPost_ret (results_row_tmp (by rfl) _ _ w.heap.size 32 (celI (0, 0, 0, 0)).toArray (0, 0) _ rfl b7.blk Tryd.underlying32 rfl insn_size (.int .i64 180) rfl) rfl ⟨rfl, hB5.trans (n7.below _ (Nat.le_refl _) hB5.size)⟩
      | some X2 =>
        obtain ⟨na, r2⟩ := X2
        obtain ⟨rfl, s1, s2⟩ := hsome _ _ hR2
        have hr2 := read_le hR2
        have d3 := s3.cell 2
        simp only [List.getElem?_toArray, List.getElem?_cons_zero, List.getElem?_cons_succ] at d3
        have hread := read8_any 2 w1.heap.size w3.heap.size (bs r2) _ (bareJ c 1) _ (hT.new hB5) (by rw [bs_size]; omega) s1 s2 (by omega) rfl
        rw [bs_list] at hread
        go_wp2_with (go_at_call 43; refine hread.mono ?_)
        clear hread hsome hnone
        rintro e w6 ⟨ok, rfl, htw6, hsome, hnone⟩
        have t0 := s0.two htw6 (by omega) (by omega)
        have hB6 : Below w.heap.size w w6 := hB5.trans (htw6.below (by omega) (by omega) hB5.size)
        cases hR3 : readL 256 (bareJ c 1 != 0) r2 with
        | none =>
          obtain ⟨rfl, t1, t2⟩ := hnone hR3
          obtain rfl : o = none := by
            rw [← HO.out]
            simp only [tailL, hR1, hR2, hR3]
          clear hR1 hR2 hR3
          clear hsome hnone
          go_wp2_with (refine wpList_store_in8 rfl (.tmp 2) (.tmp 50) rfl w.heap.size (0, 0, 0, 0) (0, 0, 0, 0) rfl rfl t0 ?_; intro w7 b7 n7)
          exact bodyPost_ret (results_row_tmp (by rfl) _ _ w.heap.size 32 (celI (0, 0, 0, 0)).toArray (0, 0) _ rfl b7.blk Tryd.underlying32 rfl insn_size (.int .i64 180) rfl) rfl ⟨rfl, hB6.trans (n7.below _ (Nat.le_refl _) hB6.size)⟩
        | some X3 =>
          obtain ⟨nb, r3⟩ := X3
          obtain ⟨rfl, t1, t2⟩ := hsome _ _ hR3
          have f1 := t1.cell 0
          simp only [List.getElem?_toArray, List.getElem?_cons_zero] at f1
          have heq := empty_eq r3
          by_cases hr : r3 = []
          · rw [decide_eq_true hr] at heq
            obtain rfl : o = some (c, (na : Int), (nb : Int), (nk : Int)) := by
              rw [← HO.out]
              simp only [tailL, hR1, hR2, hR3, if_pos hr]
            clear hr hR1 hR2 hR3 hsome hnone
            go_wp2_with (first
              | (refine wpList_load_in8 rfl (.tmp 8) rfl w3.heap.size rfl (celI (c, (na : Int), (nb : Int), (nk : Int))).toArray rfl t2 ?_)
              | (refine wpList_store_in8 rfl (.tmp 2) (.tmp 51) rfl w.heap.size (0, 0, 0, 0) (c, (na : Int), (nb : Int), (nk : Int)) rfl rfl t0 ?_; intro w7 b7 n7))
            exact bodyPost_ret (results_row_tmp (by rfl) _ _ w.heap.size 32 (celI (c, (na : Int), (nb : Int), (nk : Int))).toArray (0, 0) _ rfl b7.blk Tryd.underlying32 rfl insn_size (.int .i64 0) rfl) rfl ⟨rfl, hB6.trans (n7.below _ (Nat.le_refl _) hB6.size)⟩
          · rw [decide_eq_false hr] at heq
            obtain rfl : o = none := by
              rw [← HO.out]
              simp only [tailL, hR1, hR2, hR3, if_neg hr]
            clear hR1 hR2 hR3 hr
            clear hsome hnone
            go_wp2_with (refine wpList_store_in8 rfl (.tmp 2) (.tmp 50) rfl w.heap.size (0, 0, 0, 0) (0, 0, 0, 0) rfl rfl t0 ?_; intro w7 b7 n7)
            exact bodyPost_ret (results_row_tmp (by rfl) _ _ w.heap.size 32 (celI (0, 0, 0, 0)).toArray (0, 0) _ rfl b7.blk Tryd.underlying32 rfl insn_size (.int .i64 180) rfl) rfl ⟨rfl, hB6.trans (n7.below _ (Nat.le_refl _) hB6.size)⟩
  · have hkn' : (codeOf (bs P.1)).2 = false := by simpa using hkn
    rw [if_neg hkn]
    rw [hkn'] at hcode
    clear hkn hkn' hP
    go_enter Tryd.func17, Tryd.ntmps17
    go_wp2_with (go_at_call 40; refine (hpart _).mono ?_)
    rintro e w1 ⟨rfl, hb1⟩
    have hB1 : Below w.heap.size w w1 := hB0.trans (hb1.mono hB0.size)
    have hT1 := hT.new hB1
    have k0 := g0.below hb1 g0.lt
    go_wp2_with (go_at_call 41; refine (hcode _ (hT1.alloc _).kinds).mono ?_)
    rintro e w2 ⟨rfl, hb2⟩
    have hb12 : Below w1.heap.size w1 w2 := ((Below.refl _ w1).alloc (Nat.le_refl _) _).trans (hb2.mono (by simp))
    have hB2 : Below w.heap.size w w2 := hB1.trans (hb12.mono hB1.size)
    have m0 := k0.below hb12 k0.lt
    go_wp2_with (refine wpList_store_in8 rfl (.tmp 2) (.tmp 23) rfl w.heap.size (0, 0, 0, 0) (0, 0, 0, 0) rfl rfl m0 ?_; intro w7 b7 n7)
    exact bodyPost_ret (results_row_tmp (by rfl) _ _ w.heap.size 32 (celI (0, 0, 0, 0)).toArray (0, 0) _ rfl b7.blk Tryd.underlying32 rfl insn_size (.int .i64 180) rfl) rfl ⟨rfl, hB2.trans (n7.below _ (Nat.le_refl _) hB2.size)⟩
end Go.Proofs.YtceeinljakcdkaaDoor

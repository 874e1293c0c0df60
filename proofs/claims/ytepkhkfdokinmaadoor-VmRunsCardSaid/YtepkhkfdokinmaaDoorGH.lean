/-
  Laws, App, RefB, Built, Low, RefD, RefNum, RefN, Step, Own, RefWd, RefSp: in one file.
-/
import Derived.Test.YtepkhkfdokinmaaDoorGA
import Derived.Maps.AppendAt
import Derived.RegionTactic
import Derived.Test.YtepkhkfdokinmaaDoorGD
import Derived.Lib.Hide
import Derived.Deep.RegionHeld3
import Derived.Deep.RegionLaw
import Derived.BigRegion
import Derived.Test.YtepkhkfdokinmaaDoorGC
/-
  Laws for the walk: making a slice of bytes, copying bytes into a block that is known whole.
-/
namespace Go.Proofs.YtepkhkfdokinmaaDoor
open Go.RowKit

theorem u8_parts : ∃ i, Tryd.prog.info? 5 = some i ∧ i.zero = some (.int .u8 0) ∧ i.size = 1 ∧ i.bytes = 1 := info_parts u8_info

/-- 'make([]byte, n)'. -/
theorem wpList_make_bytes {w : World} {ops : Array Oper} {rest : List Oper} {o : Oper} {a : Act} {Q : Exit → Act → World → Prop}
    (hg : o.guard = none) (s c : Operand) (hop : o.op = Op.makeSlice 92 s c) (L C : Int) (n : Nat)
    (hl : a.eval s = .int .i64 L) (hc : a.eval c = .int .i64 C) (hL : L = (n : Int)) (hC : C = (n : Int)) (hn : n ≤ 281474976710656)
    (hK : ∀ w', Wh w' w.heap.size (List.replicate n 0) → Below w.heap.size w w' → wpList Tryd.prog ops Q rest (a.put o.dst (.slice (some ⟨w.heap.size, 0, none⟩) n n)) w') :
    wpList Tryd.prog ops Q (o :: rest) a w := by
  refine wpList_plain hg fun K hK' => ?_
  obtain ⟨i, hi, hz, hs, hb⟩ := u8_parts
  have hrun := run_make (P := Tryd.prog) w 92 5 i (.int .u8 0) Tryd.underlying92 hi hz .i64 .i64 L C (by omega) (by omega) (by rw [hb]; omega) (by omega)
  subst hL
  subst hC
  rw [hs, Nat.mul_one, Int.toNat_natCast] at hrun
  unfold Oper.wp
  simp [execOp, hop, hl, hc, hrun, Result.andThen]
  exact hK' _ _ (hK _ (Wh.made w n) ((Below.refl _ _).alloc (Nat.le_refl _) _))

/-- 'copy(dst, src)', dst a piece of a block that is known whole, src no longer. -/
theorem wpList_copy_bytes {w : World} {ops : Array Oper} {rest : List Oper} {o : Oper} {a : Act} {Q : Exit → Act → World → Prop} (hgd : o.guard = none) (d s : Operand)
    (ho : o.op = .call { callee := .builtin .copy, args := #[d, s], argTypes := #[92, 92] })
    (g off : Nat) (A : Option Addr) (dLen dCap sLen sCap : Nat) (hd : a.eval d = .slice (some ⟨g, off, none⟩) dLen dCap) (hs : a.eval s = .slice A sLen sCap)
    (L l : List Int) (hg : Wh w g L) (B : Nat) (hr : Rd w B A sLen l) (hle : sLen ≤ dLen) (hfit : off + dLen ≤ L.length) (B0 : Nat) (w0 : World) (hb : Below B0 w0 w) (hB0 : B0 ≤ g)
    (h : ∀ w', Wh w' g (L.take off ++ l ++ L.drop (off + sLen)) → Below B0 w0 w' → wpList Tryd.prog ops Q rest (a.put o.dst (goInt sLen)) w') :
    wpList Tryd.prog ops Q (o :: rest) a w := by
  have hlen := hr.len
  have h1 : ∀ v ∈ bv l, v.oneCell' = true := by
    intro v hv
    simp only [bv, List.mem_map] at hv
    obtain ⟨z, _, rfl⟩ := hv
    rfl
  refine wpList_copy_splice hgd d s 92 92 ho 5 Tryd.underlying92 u8_size _ A dLen dCap sLen sCap hd hs g off (bv L) 5 hg.blk (bv l)
    (by rw [bv_length, hlen]; exact (Nat.min_eq_left hle).symm) (fun hp => ⟨rfl, ?_⟩) (by rw [bv_length, bv_length]; omega) h1 B0 w0 hb hB0 (fun w' hw hb' => ?_)
  · rw [bv_length] at hp
    obtain ⟨b, o', rfl, _, hc⟩ := hr.cells (by omega)
    refine ⟨_, rfl, fun j v hj => ?_⟩
    have hjl : j < l.length := by
      rcases Nat.lt_or_ge j l.length with h | h
      · exact h
      · rw [List.getElem?_eq_none (by rw [bv_length]; exact h)] at hj; cases hj
    have e : (⟨b, o', none⟩ : Addr).add j = ⟨b, o' + j, none⟩ := by
      unfold Addr.add
      by_cases h0 : j = 0 <;> simp [h0]
    rw [e, hc j (by omega)]
    rw [← hj]
    simp [bv, List.getD, hjl]
  · have e : (bv l).length = sLen := by rw [bv_length, hlen]
    rw [e]
    refine h w' ⟨((hg.byt.take off).append hr.byt).append (hg.byt.drop _), ?_⟩ hb'
    have := hw.out
    rw [this]
    congr 2
    apply Array.ext'
    simp [splice, bv, hlen]
end Go.Proofs.YtepkhkfdokinmaaDoor

/-
  Laws for append on bytes of the call's own.
-/
namespace Go.Proofs.YtepkhkfdokinmaaDoor
open Go.RowKit

/-- The call's own bytes l, from block 'base' on. -/
structure Ow (w : World) (base : Nat) (A : Option Addr) (n c : Nat) (l : List Int) : Prop where
  own : w.ownsRow base 5 1 (.slice A n c) n (bv l)
  byt : Byt l
section
variable {w w' : World} {base n c : Nat} {A : Option Addr} {l : List Int}
theorem Ow.len (h : Ow w base A n c l) : l.length = n := by
  have := h.own.1
  rw [bv_length] at this
  omega
theorem Ow.rd (h : Ow w base A n c l) : Rd w w.heap.size A n l := by
  refine ⟨h.len, h.byt, fun hn => ?_⟩
  rcases h.own.2 with ⟨_, h0⟩ | ⟨g, cap, cur, hv, _, hh, hnc, _, hsz, ht⟩
  · omega
  · injection hv with hA
    subst hA
    have hg : g < w.heap.size := by
      rcases Nat.lt_or_ge g w.heap.size with h1 | h1
      · exact h1
      · rw [Array.getElem?_eq_none h1] at hh; cases hh
    refine ⟨g, 0, rfl, hg, fun k hk => ?_⟩
    have hkl : k < l.length := by rw [h.len]; exact hk
    have e : cur[k]? = some (.int .u8 (l.getD k 0)) := by
      have h1 : (cur.toList.take (n * 1))[k]? = (bv l)[k]? := by rw [ht]
      rw [List.getElem?_take, if_pos (by omega)] at h1
      rw [← Array.getElem?_toList, h1]
      simp [bv, List.getD, hkl]
    rw [Nat.zero_add]
    simpa [World.cell?, hh] using e
theorem Ow.cap (h : Ow w base A n c l) : n ≤ c := by
  rcases h.own.2 with ⟨hv, h0⟩ | ⟨g, cap, cur, hv, _, _, hnc, _⟩
  · omega
  · injection hv with _ _ h3
    omega
theorem Ow.head (h : Ow w base A n c l) (hn : 0 < n) : ∃ g, A = some ⟨g, 0, none⟩ ∧ base ≤ g ∧ g < w.heap.size := by
  rcases h.own.2 with ⟨hv, h0⟩ | ⟨g, cap, cur, hv, hb, hh, hnc, _⟩
  · omega
  · injection hv with h1
    refine ⟨g, h1, hb, ?_⟩
    rcases Nat.lt_or_ge g w.heap.size with h1 | h1
    · exact h1
    · rw [Array.getElem?_eq_none h1] at hh; cases hh
theorem Ow.nil (w : World) (base : Nat) : Ow w base none 0 0 [] := ⟨World.ownsRow_nil w base _ _, by intro z hz; cases hz⟩
theorem Ow.empty (w : World) (base : Nat) (hb : base ≤ w.heap.size) : Ow (w.alloc (.cells #[] 5)) base (some ⟨w.heap.size, 0, none⟩) 0 0 [] :=
  ⟨World.ownsRow_made w #[] 0 hb (by simp [maxLen]) (by simp), by intro z hz; cases hz⟩
theorem Ow.alloc (h : Ow w base A n c l) (o : Obj) : Ow (w.alloc o) base A n c l := ⟨h.own.alloc o, h.byt⟩
theorem Ow.drew (h : Ow w base A n c l) : Ow w.drew base A n c l := ⟨h.own.drew, h.byt⟩
end

theorem run_app_nil {w : World} {base : Nat} {A : Option Addr} {n c c' : Nat} {l : List Int} (ty : TypeId) (h : Ow w base A n c l) :
    (Builtin.append_ #[92, 92] ty #[.slice A n c, .slice none 0 c']).run Tryd.prog w = .ok (.slice A n c) w := by
  obtain ⟨i, hi, _, _, _⟩ := u8_parts
  have hc : (A = none ∧ n = 0 ∧ c = 0) ∨ ∃ g, A = some ⟨g, 0, none⟩ ∧ n ≤ c := by
    rcases h.own.2 with ⟨hv, h0⟩ | ⟨g, cap, cur, hv, _, _, hnc, _⟩
    · injection hv with h1 h2 h3
      exact .inl ⟨h1, h2, h3⟩
    · injection hv with h1 _ h3
      subst h1
      subst h3
      exact .inr ⟨g, rfl, hnc⟩
  rcases hc with ⟨rfl, rfl, rfl⟩ | ⟨g, rfl, hnc⟩
  · simp [Builtin.append_, run_underlying Tryd.underlying92, sizeOf, typeInfo, hi, Builtin.lenOf, Builtin.firstCells]
  · simp [Builtin.append_, run_underlying Tryd.underlying92, sizeOf, typeInfo, hi, Builtin.lenOf, Builtin.firstCells, hnc, storeCells]

/-- 'append(v, x...)', v the call's own, x whatever bytes. -/
theorem wpList_append_bytes {w : World} {ops : Array Oper} {rest : List Oper} {o : Oper} {a : Act} {Q : Exit → Act → World → Prop} (hgd : o.guard = none) (s x : Operand)
    (ho : o.op = .call { callee := .builtin .append, args := #[s, x], argTypes := #[92, 92] })
    (base : Nat) (A : Option Addr) (n c : Nat) (l : List Int) (hs : a.eval s = .slice A n c) (hown : Ow w base A n c l)
    (B : Nat) (A' : Option Addr) (m c' : Nat) (l' : List Int) (hx : a.eval x = .slice A' m c') (hr : Rd w B A' m l') (hsz : n + m ≤ 1000000) (hbase : base ≤ w.heap.size)
    (h : ∀ A'' c'' w', Ow w' base A'' (n + m) c'' (l ++ l') → Below base w w' → wpList Tryd.prog ops Q rest (a.put o.dst (.slice A'' (n + m) c'')) w') :
    wpList Tryd.prog ops Q (o :: rest) a w := by
  have hbyt := hown.byt.append hr.byt
  have none_case : A' = none → wpList Tryd.prog ops Q (o :: rest) a w := by
    rintro rfl
    have hm : m = 0 := by
      rcases Nat.eq_zero_or_pos m with h0 | h0
      · exact h0
      · obtain ⟨b, off, e, _⟩ := hr.cells h0
        cases e
    subst hm
    obtain rfl : l' = [] := List.eq_nil_of_length_eq_zero hr.len
    refine wpList_plain hgd fun K hK => ?_
    have hrun := run_app_nil (c' := c') o.type hown
    unfold Oper.wp execOp
    simp only [ho, resolve, invoke, builtin, Sem.run_bind, Sem.run_pure, Result.andThen_ok, List.map_toArray, List.map_cons, List.map_nil, hs, hx, hrun]
    refine hK _ _ ?_
    have := h A c w (by simpa using hown) (Below.refl _ _)
    simpa using this
  rcases A' with _ | ad
  · exact none_case rfl
  · obtain ⟨i, hi, hz, hs1, hb1⟩ := u8_parts
    refine wpList_append_own_at w hgd s x 92 ho base 5 i (.int .u8 0) 1 1 Tryd.underlying92 hi hz hs1 hb1 rfl (by decide) _ n (bv l) hs hown.own ad m c' (bv l') hx
      (by rw [bv_length, hr.len, Nat.mul_one]) ?_ ?_ (by simp only [maxLen]; omega) (by omega) hbase (fun v' w' h1 h2 _ h4 => ?_)
    · intro j u hj
      have hjl : j < l'.length := by
        rcases Nat.lt_or_ge j l'.length with h | h
        · exact h
        · rw [List.getElem?_eq_none (by rw [bv_length]; exact h)] at hj; cases hj
      have hlen := hr.len
      obtain ⟨b, off, e, _, hc⟩ := hr.cells (by omega)
      obtain rfl := Option.some.inj e
      have ea : (⟨b, off, none⟩ : Addr).add j = ⟨b, off + j, none⟩ := by
        unfold Addr.add
        by_cases h0 : j = 0 <;> simp [h0]
      rw [ea, hc j (by omega), ← hj]
      simp [bv, List.getD, hjl]
    · intro u hu
      simp only [bv, List.mem_map] at hu
      obtain ⟨z, _, rfl⟩ := hu
      rfl
    · have hv : ∃ A'' c'', v' = .slice A'' (n + m) c'' := by
        rcases h1.2 with ⟨e, h0⟩ | ⟨g, cap, cur, e, _⟩
        · exact ⟨none, 0, by rw [e, h0]⟩
        · exact ⟨_, _, e⟩
      obtain ⟨A'', c'', rfl⟩ := hv
      refine h A'' c'' w' ⟨by rw [bv_append]; exact h1, hbyt⟩ ((Below.refl _ _).grown h2 hbase fun k hk => ?_)
      exact (hown.own.lt k hk).1
end Go.Proofs.YtepkhkfdokinmaaDoor

/-
  The reference's Both: bytes, and others behind them.
-/
namespace Go.Proofs.YtepkhkfdokinmaaDoor
open Go.RowKit

set_option maxHeartbeats 1000000 in
theorem both_any (A A' : Option Addr) (n c m c' : Nat) (l l' : List Int) (w : World) (hr : Rd w w.heap.size A n l) (hr' : Rd w w.heap.size A' m l') (hn : n ≤ 300000) (hm : m ≤ 300000) :
    Calls Tryd.prog 74 #[.slice A n c, .slice A' m c'] w fun e w' =>
      ∃ A2 c2, e = .returned (.slice A2 (n + m) c2) ∧ Ow w' w.heap.size A2 (n + m) c2 (l ++ l') ∧ Below w.heap.size w w' := by
  go_enter Tryd.func74, Tryd.ntmps74
  go_wp2_with (first
    | (at_builtin; refine wpList_append_bytes rfl (.tmp 5) (.tmp 6) rfl w.heap.size _ 0 0 _ rfl (Ow.empty w w.heap.size (Nat.le_refl _)) w.heap.size A n c l rfl (hr.alloc_ (Nat.le_refl _) _) (by omega) (by simp) ?_; intro Aa ca wa oa ba; have ba' : Below w.heap.size w wa := ((Below.refl _ _).alloc (Nat.le_refl _) _).trans ba; simp only [Nat.zero_add, List.nil_append] at oa)
    | (at_builtin; refine wpList_append_bytes rfl (.tmp 7) (.tmp 8) rfl w.heap.size Aa n ca l rfl oa w.heap.size A' m c' l' rfl (hr'.below ba') (by omega) ba'.size ?_; intro Ab cb wb ob bb))
  go_ret
  exact ⟨Ab, cb, rfl, ob, ba'.trans bb⟩
end Go.Proofs.YtepkhkfdokinmaaDoor

/-
  A slice of one byte, built.
-/
namespace Go.Proofs.YtepkhkfdokinmaaDoor
open Go.RowKit

theorem built_one (w : World) (z : Int) (h0 : 0 ≤ z) (h1 : z ≤ 255) : Rd (w.alloc (.cells #[.int .u8 z] 5)) (w.heap.size + 1) (some ⟨w.heap.size, 0, none⟩) 1 [z] :=
  (Wh.new w [z] (by intro y hy; simp at hy; subst hy; exact ⟨h0, h1⟩)).rd
end Go.Proofs.YtepkhkfdokinmaaDoor

/-
  The reference's Low: the bytes of a number.
-/
namespace Go.Proofs.YtepkhkfdokinmaaDoor
open Go.RowKit

set_option maxHeartbeats 1000000 in
theorem low_own (x : Int) (wd : Nat) (w : World) (h8 : wd ≤ 8) :
    Calls Tryd.prog 75 #[.int .u64 x, .int .i64 wd] w fun e w' =>
      ∃ A1 c1, e = .returned (.slice A1 wd c1) ∧ Ow w' w.heap.size A1 wd c1 (low x wd) ∧ Below w.heap.size w w' := by
  go_enter Tryd.func75, Tryd.ntmps75
  go_wp2_with fail
  go_loopw [5, 6] (fun v i wr => ∃ (k : Nat) (A1 : Option Addr) (c1 : Nat), k ≤ wd ∧ i = .int .i64 k ∧ v = .slice A1 k c1 ∧ Ow wr w.heap.size A1 k c1 (low x k) ∧ Below w.heap.size w wr) (fun _ i _ => wd - (intOf i).toNat)
  case atStart => exact ⟨0, none, 0, Nat.zero_le _, rfl, rfl, Ow.nil _ _, Below.refl _ _⟩
  case round =>
    obtain ⟨k, A1, c1, hk, rfl, rfl, hown, hbr⟩ := hrel
    by_cases hlt : k < wd
    · have hl := Lib.hid (low_succ x k)
      obtain ⟨p0, p1⟩ := byt_bd x k
      unfold byt at p0 p1
      go_wp2_with (first
        | (at_builtin; refine wpList_append_bytes rfl (.tmp 12) (.tmp 18) rfl w.heap.size A1 k c1 _ rfl (hown.alloc _) (wr.heap.size + 1) _ 1 1 [x / 2 ^ (8 * k) % 256] rfl (built_one wr _ p0 p1) (by omega) (by have := hbr.size; simp; omega) ?_; intro A2 c2 w2 hown2 hb2))
      go_roundw
      case rel =>
        have e : low x k ++ [x / 2 ^ (8 * k) % 256] = low x (k + 1) := hl.out.symm
        rw [e] at hown2
        exact ⟨k + 1, A2, c2, by omega, by go_num, rfl, hown2, (hbr.alloc hbr.size _).trans hb2⟩
      case measure => simp [intOf]; omega
    · go_wp2
      go_ret
      obtain rfl : k = wd := by omega
      exact ⟨A1, c1, rfl, hown, hbr⟩
theorem low_any (x : Int) (wd : Nat) (w : World) (h8 : wd ≤ 8) :
    Calls Tryd.prog 75 #[.int .u64 x, .int .i64 wd] w fun e w' =>
      ∃ A1 c1, e = .returned (.slice A1 wd c1) ∧ Rd w' w'.heap.size A1 wd (low x wd) ∧ Below w.heap.size w w' :=
  (low_own x wd w h8).mono fun _ _ ⟨A1, c1, h1, h2, h3⟩ => ⟨A1, c1, h1, h2.rd, h3⟩
theorem low2_any (x : Int) (w : World) :
    Calls Tryd.prog 75 #[.int .u64 x, .int .i64 2] w fun e w' =>
      ∃ A1 c1, e = .returned (.slice A1 2 c1) ∧ Rd w' w'.heap.size A1 2 (low x 2) ∧ Below w.heap.size w w' := low_any x 2 w (by omega)
theorem low4_any (x : Int) (w : World) :
    Calls Tryd.prog 75 #[.int .u64 x, .int .i64 4] w fun e w' =>
      ∃ A1 c1, e = .returned (.slice A1 4 c1) ∧ Rd w' w'.heap.size A1 4 (low x 4) ∧ Below w.heap.size w w' := low_any x 4 w (by omega)
theorem low8_any (x : Int) (w : World) :
    Calls Tryd.prog 75 #[.int .u64 x, .int .i64 8] w fun e w' =>
      ∃ A1 c1, e = .returned (.slice A1 8 c1) ∧ Rd w' w'.heap.size A1 8 (low x 8) ∧ Below w.heap.size w w' := low_any x 8 w (by omega)
theorem low2_own (x : Int) (w : World) :
    Calls Tryd.prog 75 #[.int .u64 x, .int .i64 2] w fun e w' =>
      ∃ A1 c1, e = .returned (.slice A1 2 c1) ∧ Ow w' w.heap.size A1 2 c1 (low x 2) ∧ Below w.heap.size w w' := low_own x 2 w (by omega)
end Go.Proofs.YtepkhkfdokinmaaDoor

/-
  The reference's Bytes of a call's data; Right.
-/
namespace Go.Proofs.YtepkhkfdokinmaaDoor
open Go.RowKit

set_option maxHeartbeats 400000 in
theorem right_any (o : Int) (ho : U32 o) (w : World) :
    Calls Tryd.prog 61 #[.int .u32 o] w fun e w' => e = .returned (.bool (rightB o)) ∧ w = w' := by
  obtain ⟨h0, h1⟩ := ho
  by_cases h6 : o ≤ 60
  · by_cases h4 : o % 4 = 0
    · have e : rightB o = true := by unfold rightB; simp [h4, h6]
      rw [e]
      clear e
      go_enter Tryd.func61, Tryd.ntmps61
      go_wp2
      go_ret
      exact ⟨rfl, rfl⟩
    · have e : rightB o = false := by unfold rightB; simp [h4]
      have h4' : (o % 4 == 0) = false := by simpa using h4
      rw [e]
      clear e
      go_enter Tryd.func61, Tryd.ntmps61
      go_wp2
      go_ret
      exact ⟨rfl, rfl⟩
  · have e : rightB o = false := by unfold rightB; simp [h6]
    rw [e]
    clear e
    go_enter Tryd.func61, Tryd.ntmps61
    go_wp2
    go_ret
    exact ⟨rfl, rfl⟩

theorem keepR {g : Nat} {V V' : World} {u v : Value} (b : Below V.heap.size V V') (hh : V.cell? ⟨g, 0, none⟩ = some u ∧ V.cell? ⟨g, 1, none⟩ = some v) : V'.cell? ⟨g, 0, none⟩ = some u ∧ V'.cell? ⟨g, 1, none⟩ = some v := by
  have hg : g < V.heap.size := World.block_lt_of_cell? V _ hh.1
  exact ⟨(b.cell (p := ⟨g, 0, none⟩) hg).trans hh.1, (b.cell (p := ⟨g, 1, none⟩) hg).trans hh.2⟩
theorem Ow.down {w : World} {base base' n c : Nat} {A : Option Addr} {l : List Int} (h : Ow w base A n c l) (hb : base' ≤ base) : Ow w base' A n c l := by
  refine ⟨⟨h.own.1, ?_⟩, h.byt⟩
  rcases h.own.2 with h0 | ⟨g, cap, cur, hv, hg, r⟩
  · exact .inl h0
  · exact .inr ⟨g, cap, cur, hv, by omega, r⟩
theorem dat_arg (d : Dat) (k : Nat) (hk : k < 6) (x : Int) (hx : (argL d).getD k 0 = x) : (datC d)[3 + k]? = some (.int .u64 x) := by
  subst hx
  match k, hk with
  | 0, _ => rfl
  | 1, _ => rfl
  | 2, _ => rfl
  | 3, _ => rfl
  | 4, _ => rfl
  | 5, _ => rfl
set_option maxHeartbeats 4000000 in
theorem rbytes_any (d : Dat) (h : DatOk d) (w : World) :
    Calls Tryd.prog 63 #[datV d] w fun e w' => ∃ A c, e = .returned (.slice A 64 c) ∧ Ow w' w.heap.size A 64 c (datB d) ∧ Below w.heap.size w w' := by
  obtain ⟨n0, n1⟩ := h.nr
  obtain ⟨r0, r1⟩ := h.ar
  have K0 := (Blk.new w (datC d) 32)
  have c0 : (w.alloc (.cells (datC d) 32)).drew.cell? ⟨w.heap.size, 0, none⟩ = some (.int .u32 d.nr) := K0.drew.cell 0
  have c1 : (w.alloc (.cells (datC d) 32)).drew.cell? ⟨w.heap.size, 1, none⟩ = some (.int .u32 d.ar) := K0.drew.cell 1
  unfold datC at c0 c1
  have e1 : IntKind.u64.wrap d.nr = d.nr := by rw [IntKind.wrap_u64]; omega
  have e2 : IntKind.u64.wrap d.ar = d.ar := by rw [IntKind.wrap_u64]; omega
  rw [datV_eq]
  go_enter Tryd.func63, Tryd.ntmps63
  go_wp2_with fail
  go_region_held3 (fun V => V.cell? ⟨w.heap.size, 0, none⟩ = some (.int .u32 d.nr) ∧ V.cell? ⟨w.heap.size, 1, none⟩ = some (.int .u32 d.ar)) (first | exact ⟨c0, c1⟩ | exact keepR (by assumption) (by assumption))
    (first
      | (go_at_call 75; ((with_reducible refine (low4_any d.nr _).mono ?_); rintro e wL ⟨A1, a1, rfl, hL, bL⟩))
      | (go_at_call 75; ((with_reducible refine (low4_any d.ar _).mono ?_); rintro e wM ⟨A2, a2, rfl, hM, bM⟩))
      | (go_at_call 74; ((with_reducible refine (both_any A1 A2 4 a1 4 a2 _ _ _ ((hL.below bM).more bM.size) hM (by omega) (by omega)).mono ?_); rintro e wB ⟨A3, a3, rfl, oB, bB⟩)))
  simp only [World.size_alloc, World.size_drew] at bL
  have KB : Blk wB w.heap.size (datC d) 32 := ((K0.drew.below bL (by omega)).below bM (by have := bL.size; simp at this; omega)).below bB (by have := bL.size; have := bM.size; simp at *; omega)
  have B0 : Below w.heap.size w wL := (((Below.refl _ w).alloc (Nat.le_refl _) _).drew).trans (bL.mono (by omega))
  have B1 : Below w.heap.size w wM := B0.trans (bM.mono B0.size)
  have BB : Below w.heap.size w wB := B1.trans (bB.mono B1.size)
  have o3 := oB.down B1.size
  clear c0 c1 K0 bL bM bB B0 B1 oB hL hM
  have c2 := dat_cell2 KB
  have zB := KB.lt
  have rB : Rd wB wB.heap.size A3 8 (low d.nr 4 ++ low d.ar 4) := o3.rd
  go_wp2_with fail
  refine (low8_any d.ip _).mono ?_
  rintro e wN ⟨A4, a4, rfl, hN, bN⟩
  go_wp2_with fail
  refine (both_any A3 A4 8 a3 8 a4 _ _ wN ((rB.below bN).more bN.size) hN (by omega) (by omega)).mono ?_
  rintro e wO ⟨A5, a5, rfl, o5, bO⟩
  have KO := (KB.below bN KB.lt).below bO (Nat.lt_of_lt_of_le KB.lt bN.size)
  have BN := BB.trans (bN.mono BB.size)
  have BO := BN.trans (bO.mono BN.size)
  replace o5 := o5.down BN.size
  have oz : Ow wO w.heap.size A5 (16 + 8 * 0) a5 (low d.nr 4 ++ low d.ar 4 ++ low d.ip 8 ++ argB d 0) := by simpa [argB] using o5
  clear c2 zB rB o3 KB BB hN bN bO BN o5 e1 e2
  go_wp2_with fail
  go_loopw [3, 4] (fun v i wr => ∃ (k : Nat) (A : Option Addr) (c : Nat), k ≤ 6 ∧ i = .int .i64 k ∧ v = .slice A (16 + 8 * k) c ∧ Ow wr w.heap.size A (16 + 8 * k) c (low d.nr 4 ++ low d.ar 4 ++ low d.ip 8 ++ argB d k) ∧ Blk wr w.heap.size (datC d) 32 ∧ Below w.heap.size w wr) (fun _ i _ => 6 - (intOf i).toNat)
  case atStart => exact ⟨0, A5, a5, by omega, rfl, rfl, oz, KO, BO⟩
  case round =>
    obtain ⟨k, A, c, hk, rfl, rfl, ho, hK, hb⟩ := hrel
    by_cases hlt : k < 6
    · have hlt' : (k : Int) < 6 := by omega
      obtain ⟨x, hx⟩ : ∃ x, (argL d).getD k 0 = x := ⟨_, rfl⟩
      have hc := (hK.cell (3 + k)).trans (dat_arg d k hlt x hx)
      have hst := Lib.hid (argB_step d k hlt x hx)
      clear hx
      have r1 := ho.rd
      go_wp2_with fail
      refine (low8_any x _).mono ?_
      rintro e wP ⟨A6, a6, rfl, hP, bP⟩
      go_wp2_with fail
      refine (both_any A A6 (16 + 8 * k) c 8 a6 _ _ wP ((r1.below bP).more bP.size) hP (by omega) (by omega)).mono ?_
      rintro e wQ ⟨A7, a7, rfl, o7, bQ⟩
      have BP := hb.trans (bP.mono hb.size)
      go_wp2_with fail
      refine ⟨⟨k + 1, A7, a7, by omega, by go_num, rfl, ?_, (hK.below bP hK.lt).below bQ (Nat.lt_of_lt_of_le hK.lt bP.size), BP.trans (bQ.mono BP.size)⟩, by simp [intOf]; omega⟩
      rw [hst.out, ← List.append_assoc]
      exact o7.down BP.size
    · obtain rfl : k = 6 := by omega
      go_wp2
      go_ret
      exact ⟨A, c, rfl, ho, hb⟩
end Go.Proofs.YtepkhkfdokinmaaDoor

/-
  The reference's Number.
-/
namespace Go.Proofs.YtepkhkfdokinmaaDoor
open Go.RowKit

/-- The number of bytes, as sixty-four bits have it. -/
def nm (l : List Int) : Int := IntKind.u64.wrap (numL l)
theorem nm_cons (z : Int) (l : List Int) : IntKind.u64.wrap (IntKind.u64.wrap (nm l * 256) + IntKind.u64.wrap z) = nm (z :: l) := by
  simp only [nm, numL, IntKind.wrap_u64]
  omega
theorem nm_small {l : List Int} (h : Byt l) (h8 : l.length ≤ 8) : nm l = numL l := by
  have h1 := numL_bd h
  have h2 := pow8_le h8
  have h3 : (256 : Int) ^ 8 = 18446744073709551616 := by decide
  rw [nm, IntKind.wrap_u64]
  omega

set_option maxHeartbeats 1000000 in
theorem refnumber_at (A : Option Addr) (n c B : Nat) (l : List Int) (v : Int) (w : World) (hr : Rd w B A n l) (hn : n ≤ 100000) (hv : nm l = v) :
    Calls Tryd.prog 62 #[.slice A n c] w fun e w' => e = .returned (.int .u64 v) ∧ w = w' := by
  subst hv
  have hlen := Lib.hid hr.len
  go_enter Tryd.func62, Tryd.ntmps62
  go_wp2_with fail
  go_loop [3, 4] (fun x i => ∃ k : Int, -1 ≤ k ∧ k ≤ (n : Int) - 1 ∧ i = .int .i64 k ∧ x = .int .u64 (nm (l.drop (k + 1).toNat))) (fun _ i => (intOf i + 1).toNat)
  case atStart =>
    refine ⟨(n : Int) - 1, by omega, by omega, rfl, ?_⟩
    have e : ((n : Int) - 1 + 1).toNat = n := by omega
    rw [e, List.drop_eq_nil_of_le (by rw [hlen.out]; omega)]
    rfl
  case round =>
    obtain ⟨k, hk1, hk2, rfl, rfl⟩ := hrel
    by_cases h0 : 0 ≤ k
    · obtain ⟨j, rfl⟩ := Int.eq_ofNat_of_zero_le h0
      obtain ⟨b, off, rfl, _, hc⟩ := hr.at_ (k := j) (by omega)
      have hj : j < l.length := by rw [hlen.out]; omega
      obtain ⟨z, hz⟩ : ∃ z, z = l.getD j 0 := ⟨_, rfl⟩
      obtain ⟨d, hd⟩ : ∃ d, d = l.drop ((j : Int) + 1).toNat := ⟨_, rfl⟩
      have hs := nm_cons z d
      have hcons : l.drop j = z :: d := by
        have e : ((j : Int) + 1).toNat = j + 1 := by omega
        rw [hd, hz, e, List.drop_eq_getElem_cons hj]
        simp [List.getD, hj]
      rw [← hd]
      rw [← hz] at hc
      have HC := Lib.hid hcons
      have HS := Lib.hid hs
      clear hz hd hcons hs hj
      have hjn : (j : Int) < n := by omega
      go_wp2
      go_round
      case rel =>
        refine ⟨(j : Int) - 1, by omega, by omega, rfl, ?_⟩
        have e : ((j : Int) - 1 + 1).toNat = j := by omega
        rw [e, HC.out, ← HS.out]
      case measure => simp [intOf]
    · go_wp2
      go_ret
      obtain rfl : k = -1 := by omega
      exact ⟨rfl, rfl⟩

/-- The number of n bytes at a place. -/
def nAt (l : List Int) (o n : Nat) : Int := numL ((l.drop o).take n)
/-- A piece of a slice, as the model cuts it. -/
theorem Rd.mid {w : World} {B n : Nat} {A : Option Addr} {l : List Int} (h : Rd w B A n l) {o m : Nat} (hm : 0 < m) (ho : o + m ≤ n) : ∃ b off, A = some ⟨b, off, none⟩ ∧ Rd w B (some ⟨b, off + o, none⟩) m ((l.drop o).take m) := by
  obtain ⟨b, off, e, hr⟩ := h.cut (k := o) (by omega)
  exact ⟨b, off, e, hr.take (by omega)⟩
theorem refnum_mid {w w' : World} {B b off n c m o : Nat} {l : List Int} (hr : Rd w B (some ⟨b, off, none⟩) n l) (hm : 0 < m) (h8 : m ≤ 8) (ho : o + m ≤ n) (hw : ∀ p : Addr, p.block < B → w'.cell? p = w.cell? p) :
    Calls Tryd.prog 62 #[.slice (some ⟨b, off + o, none⟩) m c] w' fun e w2 => e = .returned (.int .u64 (nAt l o m)) ∧ w' = w2 := by
  obtain ⟨b', off', e, h⟩ := (hr.keep hw).mid hm ho
  injection e with e
  injection e with e1 e2
  subst e1 e2
  exact refnumber_at _ m c B _ _ w' h (by omega) (nm_small h.byt (by rw [h.len]; exact h8))

end Go.Proofs.YtepkhkfdokinmaaDoor

/-
  Numbers at places among bytes: plain lemmas.
-/
namespace Go.Proofs.YtepkhkfdokinmaaDoor
open Go.RowKit

theorem num8_split (q : List Int) (h : 8 ≤ q.length) : numL (q.take 8) = wh (numL (q.take 4)) (numL ((q.drop 4).take 4)) := by
  rw [show (8 : Nat) = 4 + 4 from rfl, List.take_add, numL_append, List.length_take, Nat.min_eq_left (by omega)]
  have e : (256 : Int) ^ 4 = 4294967296 := by decide
  unfold wh
  omega
theorem nAt4 (l : List Int) (k : Nat) (hk : k < 16) : (wordsB l).getD k 0 = nAt l (4 * k) 4 := wordsB_get l k hk
theorem nAt8 (l : List Int) (o : Nat) (h : o + 8 ≤ l.length) : nAt l o 8 = wh (nAt l o 4) (nAt l (o + 4) 4) := by
  unfold nAt
  rw [num8_split _ (by rw [List.length_drop]; omega), List.drop_drop]
theorem nAt_bd {l : List Int} (h : Byt l) (o : Nat) : U32 (nAt l o 4) := num4_bd h o
theorem nAt_bd8 {l : List Int} (h : Byt l) (o : Nat) (hl : o + 8 ≤ l.length) : U64 (nAt l o 8) := by
  rw [nAt8 l o hl]
  exact wh_bd _ _ (nAt_bd h _) (nAt_bd h _)
end Go.Proofs.YtepkhkfdokinmaaDoor

/-
  Appending bytes as one step of a region that draws its order; a block that is known whole, as the call's own bytes; a slice of bytes written out.
-/
namespace Go.Proofs.YtepkhkfdokinmaaDoor
open Go.RowKit

theorem run_append_bytes {w : World} (ty : TypeId) (base : Nat) (A : Option Addr) (n c : Nat) (l : List Int) (hown : Ow w base A n c l)
    (B : Nat) (A' : Option Addr) (m c' : Nat) (l' : List Int) (hr : Rd w B A' m l') (hsz : n + m ≤ 1000000) (hbase : base ≤ w.heap.size) :
    ∃ A'' c'' w', (Builtin.append_ #[92, 92] ty #[.slice A n c, .slice A' m c']).run Tryd.prog w = .ok (.slice A'' (n + m) c'') w' ∧ Ow w' base A'' (n + m) c'' (l ++ l') ∧ Below base w w' := by
  have hbyt := hown.byt.append hr.byt
  rcases A' with _ | ad
  · have hm : m = 0 := by
      rcases Nat.eq_zero_or_pos m with h0 | h0
      · exact h0
      · obtain ⟨b, off, e, _⟩ := hr.cells h0
        cases e
    subst hm
    obtain rfl : l' = [] := List.eq_nil_of_length_eq_zero hr.len
    exact ⟨A, c, w, run_app_nil ty hown, by simpa using hown, Below.refl _ _⟩
  · obtain ⟨i, hi, hz, hs1, hb1⟩ := u8_parts
    obtain ⟨v', w', hrun, h1, h2, _, _⟩ := run_append_own_at (P := Tryd.prog) w base 92 ty 5 i (.int .u8 0) 1 1 Tryd.underlying92 hi hz hs1 hb1 rfl (by decide) _ n (bv l) hown.own ad m c' (bv l')
      (by rw [bv_length, hr.len, Nat.mul_one]) (by
        intro j u hj
        have hjl : j < l'.length := by
          rcases Nat.lt_or_ge j l'.length with h | h
          · exact h
          · rw [List.getElem?_eq_none (by rw [bv_length]; exact h)] at hj; cases hj
        have hlen := hr.len
        obtain ⟨b, off, e, _, hc⟩ := hr.cells (by omega)
        obtain rfl := Option.some.inj e
        have ea : (⟨b, off, none⟩ : Addr).add j = ⟨b, off + j, none⟩ := by
          unfold Addr.add
          by_cases h0 : j = 0 <;> simp [h0]
        rw [ea, hc j (by omega), ← hj]
        simp [bv, List.getD, hjl]) (by
        intro u hu
        simp only [bv, List.mem_map] at hu
        obtain ⟨z, _, rfl⟩ := hu
        rfl) (by simp only [maxLen]; omega) (by omega) hbase
    have hv : ∃ A'' c'', v' = .slice A'' (n + m) c'' := by
      rcases h1.2 with ⟨e, h0⟩ | ⟨g, cap, cur, e, _⟩
      · exact ⟨none, 0, by rw [e, h0]⟩
      · exact ⟨_, _, e⟩
    obtain ⟨A'', c'', rfl⟩ := hv
    exact ⟨A'', c'', w', hrun, ⟨by rw [bv_append]; exact h1, hbyt⟩, (Below.refl _ _).grown h2 hbase fun k hk => (hown.own.lt k hk).1⟩

/-- At the operation. -/
theorem wp_append_bytes {w : World} {o : Oper} {a : Act} {K : Act → World → Prop} {Q : Exit → Act → World → Prop} (s x : Operand)
    (ho : o.op = .call { callee := .builtin .append, args := #[s, x], argTypes := #[92, 92] })
    (base : Nat) (A : Option Addr) (n c : Nat) (l : List Int) (hs : a.eval s = .slice A n c) (hown : Ow w base A n c l)
    (B : Nat) (A' : Option Addr) (m c' : Nat) (l' : List Int) (hx : a.eval x = .slice A' m c') (hr : Rd w B A' m l') (hsz : n + m ≤ 1000000) (hbase : base ≤ w.heap.size)
    (h : ∀ A'' c'' w', Ow w' base A'' (n + m) c'' (l ++ l') → Below base w w' → K (a.put o.dst (.slice A'' (n + m) c'')) w') : o.wp Tryd.prog a w K Q := by
  obtain ⟨A'', c'', w', hrun, h1, h2⟩ := run_append_bytes o.type base A n c l hown B A' m c' l' hr hsz hbase
  unfold Oper.wp execOp
  simp only [ho, resolve, invoke, builtin, Sem.run_bind, Sem.run_pure, Result.andThen_ok, List.map_toArray, List.map_cons, List.map_nil, hs, hx, hrun]
  exact h A'' c'' w' h1 h2

/-- At a step of a region that draws its order. -/
theorem step_append_bytes {w : World} {ops : Array Oper} {o : Oper} {a : Act} {K : Act → World → Prop} {Q : Exit → Act → World → Prop} {E : Prop} (hgd : o.guard = none) (s x : Operand)
    (ho : o.op = .call { callee := .builtin .append, args := #[s, x], argTypes := #[92, 92] })
    (base : Nat) (A : Option Addr) (n c : Nat) (l : List Int) (hs : a.eval s = .slice A n c) (hown : Ow w base A n c l)
    (B : Nat) (A' : Option Addr) (m c' : Nat) (l' : List Int) (hx : a.eval x = .slice A' m c') (hr : Rd w B A' m l') (hsz : n + m ≤ 1000000) (hbase : base ≤ w.heap.size)
    (h : ∀ A'' c'' w', Ow w' base A'' (n + m) c'' (l ++ l') → Below base w w' → K (a.put o.dst (.slice A'' (n + m) c'')) w') :
    if Region.wanted o (yielded ops a.tmps) = true then Oper.wp Tryd.prog o a w K Q else E := by
  have hw : Region.wanted o (yielded ops a.tmps) = true := by simp [Region.wanted, hgd]
  rw [if_pos hw]
  exact wp_append_bytes s x ho base A n c l hs hown B A' m c' l' hx hr hsz hbase h

/-- A block that is known whole, the call's own. -/
theorem Wh.ow {w : World} {g base n : Nat} {l : List Int} (h : Wh w g l) (hb : base ≤ g) (hn : l.length = n) (hn1 : n ≤ 1000000) : Ow w base (some ⟨g, 0, none⟩) n n l :=
  ⟨⟨by rw [bv_length]; omega, .inr ⟨g, n, (bv l).toArray, rfl, hb, h.blk, Nat.le_refl _, by simp only [maxLen]; omega, by simp [bv_length, hn], by simp only [Nat.mul_one]; exact List.take_of_length_le (by rw [bv_length]; omega)⟩⟩, h.byt⟩
theorem Ow.below {w w' : World} {base n c B : Nat} {A : Option Addr} {l : List Int} (h : Ow w base A n c l) (hb : Below B w w') (hB : w.heap.size ≤ B) : Ow w' base A n c l := by
  refine ⟨⟨h.own.1, ?_⟩, h.byt⟩
  rcases h.own.2 with h0 | ⟨g, cap, cur, hv, hg, hh, r⟩
  · exact .inl h0
  · have hlt : g < w.heap.size := by
      rcases Nat.lt_or_ge g w.heap.size with h1 | h1
      · exact h1
      · rw [Array.getElem?_eq_none h1] at hh; cases hh
    exact .inr ⟨g, cap, cur, hv, hg, (hb.block g (by omega)).trans hh, r⟩
theorem built_two (w : World) (y z : Int) (h0 : 0 ≤ y) (h1 : y ≤ 255) (h2 : 0 ≤ z) (h3 : z ≤ 255) : Rd (w.alloc (.cells #[.int .u8 y, .int .u8 z] 5)) (w.heap.size + 1) (some ⟨w.heap.size, 0, none⟩) 2 [y, z] :=
  (Wh.new w [y, z] (by intro u hu; simp at hu; rcases hu with rfl | rfl <;> omega)).rd
end Go.Proofs.YtepkhkfdokinmaaDoor

/-
  The call's own bytes, written cell by cell.
-/
namespace Go.Proofs.YtepkhkfdokinmaaDoor
open Go.RowKit

section
variable {w w' : World} {base n c g : Nat} {A : Option Addr} {l : List Int}
theorem Ow.far (h : Ow w base A n c l) {p : Addr} (hp : p.block < base) (u : Value) : Ow (w.setCell p u) base A n c l := by
  refine ⟨⟨h.own.1, ?_⟩, h.byt⟩
  rcases h.own.2 with h0 | ⟨g, cap, cur, hv, hg, hh, r⟩
  · exact .inl h0
  · exact .inr ⟨g, cap, cur, hv, hg, (Below.heap_setCell w p u g (by omega)).trans hh, r⟩
theorem Ow.at_ (h : Ow w base (some ⟨g, 0, none⟩) n c l) {k : Nat} (hk : k < n) : w.cell? ⟨g, k, none⟩ = some (.int .u8 (l.getD k 0)) ∧ w.frozen? ⟨g, k, none⟩ = false := by
  obtain ⟨b, off, e, _, hc⟩ := h.rd.at_ hk
  injection e with e
  injection e with e1 e2
  subst e1 e2
  refine ⟨by simpa using hc, ?_⟩
  rcases h.own.2 with ⟨hv, _⟩ | ⟨g', cap, cur, hv, hg, hh, r⟩
  · cases hv
  · injection hv with e3
    injection e3 with e3
    injection e3 with e3
    subst e3
    simp [World.frozen?, hh]
theorem Ow.set_ (h : Ow w base (some ⟨g, 0, none⟩) n c l) {k : Nat} (_hk : k < n) (z : Int) (hz : 0 ≤ z ∧ z ≤ 255) : Ow (w.setCell ⟨g, k, none⟩ (.int .u8 z)) base (some ⟨g, 0, none⟩) n c (l.set k z) := by
  refine ⟨⟨?_, ?_⟩, fun y hy => ?_⟩
  · rw [bv_length, List.length_set, h.len, Nat.mul_one]
  · rcases h.own.2 with ⟨hv, _⟩ | ⟨g', cap, cur, hv, hg, hh, h1, h2, h3, h4⟩
    · cases hv
    · have hv' := hv
      injection hv' with e3
      injection e3 with e3
      injection e3 with e3
      subst e3
      refine .inr ⟨g, cap, cur.setIfInBounds k (.int .u8 z), hv, hg, by simp [World.setCell, Array.getElem?_modify, hh], h1, h2, by simpa using h3, ?_⟩
      rw [Nat.mul_one] at h4 ⊢
      rw [Array.toList_setIfInBounds, List.take_set, h4]
      simp [bv, List.map_set]
  · rcases List.mem_or_eq_of_mem_set hy with h1 | h1
    · exact h.byt y h1
    · subst h1; exact hz
end
end Go.Proofs.YtepkhkfdokinmaaDoor

/-
  The reference's Word.
-/
namespace Go.Proofs.YtepkhkfdokinmaaDoor
open Go.RowKit

theorem right_mul (k : Nat) (hk : k < 16) : rightB (4 * (k : Int)) = true := by unfold rightB; simp; omega

theorem mul_U32 (k : Nat) (hk : k < 16) : U32 (4 * (k : Int)) := by unfold U32; omega

theorem datB_byt (d : Dat) : Byt (datB d) := by
  rw [datB_wb]
  intro z hz
  simp only [wb, List.mem_flatMap] at hz
  obtain ⟨i, _, h⟩ := hz
  exact low_byt _ _ z h

set_option maxHeartbeats 1000000 in
theorem rword_no (d : Dat) (o : Int) (ho : U32 o) (hr : rightB o = false) (w : World) :
    Calls Tryd.prog 45 #[datV d, .int .u32 o] w fun e w' => e = .returned (.tuple #[.int .u32 0, .int .i64 2]) ∧ Below w.heap.size w w' := by
  have H := right_any o ho
  rw [hr] at H
  clear hr
  unfold datV datC
  go_enter Tryd.func45, Tryd.ntmps45
  go_wp2_with fail
  refine (H _).mono ?_
  rintro e w' ⟨rfl, rfl⟩
  go_wp2_with fail
  go_ret2
  exact ⟨rfl, (Below.refl _ _).alloc (Nat.le_refl _) _⟩

set_option maxHeartbeats 2000000 in
theorem rword_ok (d : Dat) (h : DatOk d) (k : Nat) (hk : k < 16) (w : World) :
    Calls Tryd.prog 45 #[datV d, .int .u32 (4 * (k : Int))] w fun e w' => e = .returned (.tuple #[.int .u32 ((wordsL d).getD k 0), .int .i64 0]) ∧ Below w.heap.size w w' := by
  have H := right_any _ (mul_U32 k hk)
  rw [right_mul k hk] at H
  have hx : (wordsL d).getD k 0 = nAt (datB d) (4 * k) 4 := by rw [← words_datB d h, nAt4 _ k hk]
  have hb := nAt_bd (datB_byt d) (4 * k)
  obtain ⟨x, hx'⟩ : ∃ x, nAt (datB d) (4 * k) 4 = x := ⟨_, rfl⟩
  rw [hx, hx']
  rw [hx'] at hb
  have HX := Lib.hid hx'
  obtain ⟨x0, x1⟩ := hb
  have s0 : IntKind.u32.wrap x = x := by rw [IntKind.wrap_u32]; omega
  clear hx hx'
  have B := fun w => rbytes_any d h w
  rw [datV_eq] at B ⊢
  have t0 : (0 : Int) ≤ 4 * k := by omega
  have t1 : (4 * (k : Int)) ≤ 60 := by omega
  go_enter Tryd.func45, Tryd.ntmps45
  go_wp2_with fail
  refine (H _).mono ?_
  rintro e w' ⟨rfl, rfl⟩
  go_wp2_with fail
  refine (B _).mono ?_
  rintro e w2 ⟨A, c, rfl, hO, b2⟩
  have hc := hO.cap
  obtain ⟨g, rfl, hg1, hg2⟩ := hO.head (by omega)
  have t2 : (4 * (k : Int) + 4) ≤ c := by omega
  have t3 : ¬ c = 4 * k := by omega
  have R := hO.rd
  have N := refnum_mid (o := 4 * k) (m := 4) (c := c - 4 * k) (w' := w2) R (by omega) (by omega) (by omega) (fun _ _ => rfl)
  rw [HX.out, Nat.zero_add] at N
  have HN := Lib.hid N
  clear N
  go_wp2_with fail
  refine HN.out.mono ?_
  rintro e w' ⟨rfl, rfl⟩
  go_wp2_with fail
  go_ret2
  exact ⟨rfl, ((Below.refl _ w).alloc (Nat.le_refl _) _).trans (b2.mono (by simp))⟩
end Go.Proofs.YtepkhkfdokinmaaDoor

/-
  The reference's split: a name at its first dot.
-/
namespace Go.Proofs.YtepkhkfdokinmaaDoor
open Go.RowKit
set_option linter.unusedVariables false

theorem ext_pre (pre post : List UInt8) : (⟨(pre ++ 46 :: post).toArray⟩ : ByteArray).extract 0 pre.length = ⟨pre.toArray⟩ := by
  apply ByteArray.ext
  rw [ByteArray.data_extract]
  apply Array.ext'
  simp
theorem ext_post (pre post : List UInt8) : (⟨(pre ++ 46 :: post).toArray⟩ : ByteArray).extract (pre.length + 1) (pre.length + post.length + 1) = ⟨post.toArray⟩ := by
  apply ByteArray.ext
  rw [ByteArray.data_extract]
  apply Array.ext'
  have e : pre ++ 46 :: post = (pre ++ [46]) ++ post := by simp
  rw [e]
  simp only [List.extract_toArray, List.extract_eq_take_drop]
  rw [List.drop_append_of_le_length (by simp)]
  simp

set_option maxHeartbeats 1000000 in
theorem split_no (s : List UInt8) (h : ∀ b ∈ s, b ≠ 46) (hl : s.length < 1000) (w : World) :
    Calls Tryd.prog 44 #[.string ⟨s.toArray⟩] w fun e w' => e = .returned (.tuple #[.string ⟨s.toArray⟩, .string ⟨#[]⟩]) ∧ Below w.heap.size w w' := by
  obtain ⟨n, hn⟩ : ∃ n, s.length = n := ⟨_, rfl⟩
  go_enter Tryd.func44, Tryd.ntmps44
  go_wp2
  go_loopw [4] (fun i wr => ∃ k : Nat, k ≤ s.length ∧ i = .int .i64 k ∧ wr = w) (fun i _ => n - (intOf i).toNat)
  case atStart => exact ⟨0, Nat.zero_le _, rfl, rfl⟩
  case round =>
    obtain ⟨k, hk, rfl, rfl⟩ := hrel
    by_cases hkk : k < s.length
    · have hkn : (k : Int) < s.length := by omega
      have hsz : k < (⟨s.toArray⟩ : ByteArray).size := by
        show k < s.toArray.size
        simpa using hkk
      have hq : (((((⟨s.toArray⟩ : ByteArray)[k]'hsz).toNat : Nat) : Int) == 46) = false := by
        have e : ((⟨s.toArray⟩ : ByteArray)[k]'hsz) = s[k] := by
          show (s.toArray[k]'_) = _
          simp
        rw [e]
        have hne := h _ (List.getElem_mem hkk)
        rw [beq_eq_false_iff_ne]
        intro hc
        exact hne (UInt8.toNat_inj.1 (by have : s[k].toNat = 46 := by omega
                                         rw [this]; rfl))
      go_wp2
      exact ⟨⟨k + 1, by omega, by first | rfl | go_num, trivial⟩, by simp [intOf]; omega⟩
    · obtain rfl : k = s.length := by omega
      have hkn : ¬ (s.length : Int) < s.length := by omega
      go_wp2
      go_ret2
      exact ⟨rfl, Below.refl _ _⟩

set_option maxHeartbeats 1000000 in
theorem split_at (pre post : List UInt8) (h : ∀ b ∈ pre, b ≠ 46) (hl : pre.length + post.length < 1000) (w : World) :
    Calls Tryd.prog 44 #[.string ⟨(pre ++ 46 :: post).toArray⟩] w fun e w' => e = .returned (.tuple #[.string ⟨pre.toArray⟩, .string ⟨post.toArray⟩]) ∧ Below w.heap.size w w' := by
  obtain ⟨n, hn⟩ : ∃ n, (pre ++ 46 :: post).length = n := ⟨_, rfl⟩
  have hn' : n = pre.length + post.length + 1 := by rw [← hn]; simp; omega
  go_enter Tryd.func44, Tryd.ntmps44
  go_wp2
  go_loopw [4] (fun i wr => ∃ k : Nat, k ≤ pre.length ∧ i = .int .i64 k ∧ wr = w) (fun i _ => n - (intOf i).toNat)
  case atStart => exact ⟨0, Nat.zero_le _, rfl, rfl⟩
  case round =>
    obtain ⟨k, hk, rfl, rfl⟩ := hrel
    have hkn : (k : Int) < n := by omega
    have hsz : k < (⟨(pre ++ 46 :: post).toArray⟩ : ByteArray).size := by
      show k < (pre ++ 46 :: post).toArray.size
      simp; omega
    by_cases hkk : k < pre.length
    · have hq : (((((⟨(pre ++ 46 :: post).toArray⟩ : ByteArray)[k]'hsz).toNat : Nat) : Int) == 46) = false := by
        have e : ((⟨(pre ++ 46 :: post).toArray⟩ : ByteArray)[k]'hsz) = pre[k] := by
          show ((pre ++ 46 :: post).toArray[k]'_) = _
          simp [List.getElem_append_left hkk]
        rw [e]
        have hne := h _ (List.getElem_mem hkk)
        rw [beq_eq_false_iff_ne]
        intro hc
        exact hne (UInt8.toNat_inj.1 (by have : pre[k].toNat = 46 := by omega
                                         rw [this]; rfl))
      go_wp2
      exact ⟨⟨k + 1, by omega, by first | rfl | go_num, trivial⟩, by simp [intOf]; omega⟩
    · obtain rfl : k = pre.length := by omega
      have hq : (((((⟨(pre ++ 46 :: post).toArray⟩ : ByteArray)[pre.length]'hsz).toNat : Nat) : Int) == 46) = true := by
        have e : ((⟨(pre ++ 46 :: post).toArray⟩ : ByteArray)[pre.length]'hsz) = 46 := by
          show ((pre ++ 46 :: post).toArray[pre.length]'_) = _
          simp
        rw [e]
        rfl
      have hz : (⟨(pre ++ 46 :: post).toArray⟩ : ByteArray).size = pre.length + post.length + 1 := by
        show (pre ++ 46 :: post).toArray.size = _
        simp; omega
      go_wp2
      go_region
      rw [ext_pre, ext_post]
      go_wp2
      go_ret2
      exact ⟨rfl, (Below.refl _ _).drew⟩

/-- What stands ahead of a name's first dot, and behind it. -/
def headOf (s : List UInt8) : List UInt8 := s.takeWhile (fun b => b != 46)
def tailOf (s : List UInt8) : List UInt8 := (s.dropWhile (fun b => b != 46)).tail
theorem head_no (s : List UInt8) : ∀ b ∈ headOf s, b ≠ 46 := by
  induction s with
  | nil => intro b hb; simp [headOf] at hb
  | cons x s ih =>
    intro b hb
    unfold headOf at hb
    rw [List.takeWhile_cons] at hb
    by_cases hx : x = 46
    · subst hx; simp at hb
    · rw [if_pos (by simpa using hx)] at hb
      rcases List.mem_cons.1 hb with rfl | hb
      · exact hx
      · exact ih b hb
theorem head_tail (s : List UInt8) : (headOf s = s ∧ tailOf s = []) ∨ s = headOf s ++ 46 :: tailOf s := by
  induction s with
  | nil => exact .inl ⟨rfl, rfl⟩
  | cons x s ih =>
    unfold headOf tailOf
    rw [List.takeWhile_cons, List.dropWhile_cons]
    by_cases hx : x = 46
    · subst hx
      right
      simp
    · rw [if_pos (by simpa using hx), if_pos (by simpa using hx)]
      rcases ih with ⟨h1, h2⟩ | h
      · left
        exact ⟨by rw [show s.takeWhile (fun b => b != 46) = s from h1], h2⟩
      · right
        rw [List.cons_append]
        exact congrArg (x :: ·) h
theorem split_any (s : List UInt8) (hl : s.length < 1000) (w : World) :
    Calls Tryd.prog 44 #[.string ⟨s.toArray⟩] w fun e w' => e = .returned (.tuple #[.string ⟨(headOf s).toArray⟩, .string ⟨(tailOf s).toArray⟩]) ∧ Below w.heap.size w w' := by
  have hn := head_no s
  rcases head_tail s with ⟨h1, h2⟩ | h
  · rw [h1, h2]
    rw [h1] at hn
    exact split_no s hn hl w
  · have hlen := congrArg List.length h
    simp at hlen
    have hs := split_at (headOf s) (tailOf s) hn (by omega) w
    rw [← h] at hs
    exact hs
end Go.Proofs.YtepkhkfdokinmaaDoor

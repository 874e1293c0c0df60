/-
  Laws for the walk: making a slice of bytes, copying bytes into a block that is known whole.
-/
import Derived.Test.YtepkhkfdokinmaaDoorBase
namespace Go.Proofs.YtepkhkfdokinmaaDoor
open Go.RowKit

theorem u8_parts : ∃ i, Tryd.prog.info? 5 = some i ∧ i.zero = some (.int .u8 0) ∧ i.size = 1 ∧ i.bytes = 1 := info_parts u8_info

/-- 'make([]byte, n)'. -/
theorem wpList_make_bytes {w : World} {ops : Array Oper} {rest : List Oper} {o : Oper} {a : Act} {Q : Exit → Act → World → Prop}
    (hg : o.guard = none) (s c : Operand) (hop : o.op = Op.makeSlice 92 s c) (L C : Int) (n : Nat)
    (hl : a.eval s = .int .i64 L) (hc : a.eval c = .int .i64 C) (hL : L = (n : Int)) (hC : C = (n : Int)) (hn : n ≤ 281474976710656)
    (hK : ∀ w', Wh w' w.heap.size (List.replicate n 0) → Below w.heap.size w w' → wpList Tryd.prog ops Q rest (a.put o.dst (.slice (some ⟨w.heap.size, 0, none⟩) n n)) w') :
    wpList Tryd.prog ops Q (o :: rest) a w := by
  refine wpList_plain hg fun K hK' => ?_
  obtain ⟨i, hi, hz, hs, hb⟩ := u8_parts
  have hrun := run_make (P := Tryd.prog) w 92 5 i (.int .u8 0) Tryd.underlying92 hi hz .i64 .i64 L C (by omega) (by omega) (by rw [hb]; omega) (by omega)
  subst hL
  subst hC
  rw [hs, Nat.mul_one, Int.toNat_natCast] at hrun
  unfold Oper.wp
  simp [execOp, hop, hl, hc, hrun, Result.andThen]
  exact hK' _ _ (hK _ (Wh.made w n) ((Below.refl _ _).alloc (Nat.le_refl _) _))

/-- 'copy(dst, src)', dst a piece of a block that is known whole, src no longer. -/
theorem wpList_copy_bytes {w : World} {ops : Array Oper} {rest : List Oper} {o : Oper} {a : Act} {Q : Exit → Act → World → Prop} (hgd : o.guard = none) (d s : Operand)
    (ho : o.op = .call { callee := .builtin .copy, args := #[d, s], argTypes := #[92, 92] })
    (g off : Nat) (A : Option Addr) (dLen dCap sLen sCap : Nat) (hd : a.eval d = .slice (some ⟨g, off, none⟩) dLen dCap) (hs : a.eval s = .slice A sLen sCap)
    (L l : List Int) (hg : Wh w g L) (B : Nat) (hr : Rd w B A sLen l) (hle : sLen ≤ dLen) (hfit : off + dLen ≤ L.length) (B0 : Nat) (w0 : World) (hb : Below B0 w0 w) (hB0 : B0 ≤ g)
    (h : ∀ w', Wh w' g (L.take off ++ l ++ L.drop (off + sLen)) → Below B0 w0 w' → wpList Tryd.prog ops Q rest (a.put o.dst (goInt sLen)) w') :
    wpList Tryd.prog ops Q (o :: rest) a w := by
  have hlen := hr.len
  have h1 : ∀ v ∈ bv l, v.oneCell' = true := by
    intro v hv
    simp only [bv, List.mem_map] at hv
    obtain ⟨z, _, rfl⟩ := hv
    rfl
  refine wpList_copy_splice hgd d s 92 92 ho 5 Tryd.underlying92 u8_size _ A dLen dCap sLen sCap hd hs g off (bv L) 5 hg.blk (bv l)
    (by rw [bv_length, hlen]; exact (Nat.min_eq_left hle).symm) (fun hp => ⟨rfl, ?_⟩) (by rw [bv_length, bv_length]; omega) h1 B0 w0 hb hB0 (fun w' hw hb' => ?_)
  · rw [bv_length] at hp
    obtain ⟨b, o', rfl, _, hc⟩ := hr.cells (by omega)
    refine ⟨_, rfl, fun j v hj => ?_⟩
    have hjl : j < l.length := by
      rcases Nat.lt_or_ge j l.length with h | h
      · exact h
      · rw [List.getElem?_eq_none (by rw [bv_length]; exact h)] at hj; cases hj
    have e : (⟨b, o', none⟩ : Addr).add j = ⟨b, o' + j, none⟩ := by
      unfold Addr.add
      by_cases h0 : j = 0 <;> simp [h0]
    rw [e, hc j (by omega)]
    rw [← hj]
    simp [bv, List.getD, hjl]
  · have e : (bv l).length = sLen := by rw [bv_length, hlen]
    rw [e]
    refine h w' ⟨((hg.byt.take off).append hr.byt).append (hg.byt.drop _), ?_⟩ hb'
    have := hw.out
    rw [this]
    congr 2
    apply Array.ext'
    simp [splice, bv, hlen]
end Go.Proofs.YtepkhkfdokinmaaDoor

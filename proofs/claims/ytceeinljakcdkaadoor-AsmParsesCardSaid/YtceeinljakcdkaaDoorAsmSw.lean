/-
  The reference's split, walked.
-/
import Derived.Test.YtceeinljakcdkaaDoorAsmSp
import Derived.Test.YtceeinljakcdkaaDoorOwnH
import Derived.Maps.AppendAt
namespace Go.Proofs.YtceeinljakcdkaaDoor
open Go.RowKit Go.Shelf

theorem str_info : (Tryd.prog.info? 9).map (fun i => (i.zero, i.size, i.bytes)) = some (some (.string ⟨#[]⟩), 1, 16) := by kernel_rfl
def stC8 (ps : List (List UInt8)) : List Value := ps.map fun p => .string (bs p)
theorem ext_bs (l : List UInt8) (a b : Nat) : (bs l).extract a b = bs ((l.take b).drop a) := by
  apply ByteArray.ext
  simp only [bs, ByteArray.data_extract]
  apply Array.toList_inj.1
  by_cases h : a ≤ b
  · simp [List.take_drop, Nat.add_sub_cancel' h]
  · simp [show b - a = 0 by omega]
    omega
theorem idx_bs {l : List UInt8} {i : Nat} (h : i < l.length) (k : IntKind) (w : World) : (Instr.index 9 (.string (bs l)) (.int k (i : Int))).run Tryd.prog w = .ok (.int .u8 ((l[i]'h).toNat : Int)) w := by
  rw [run_index_string w 9 (bs l) k (i : Int) Tryd.underlying9, dif_pos ⟨by omega, by rw [bs_size]; omega⟩]
  rfl
set_option maxRecDepth 100000 in
set_option maxHeartbeats 8000000 in
theorem split_any8 (l : List UInt8) (hl : l.length ≤ 100000) (w : World) :
    Calls Tryd.prog 44 #[.string (bs l)] w fun e w' => ∃ v, e = .returned v ∧ w'.ownsRow w.heap.size 9 1 v (splitL l).length (stC8 (splitL l)) ∧ Below w.heap.size w w' := by
  obtain ⟨i0, hi, hz0, hz1, hz2⟩ := info_parts str_info
  have hsz := bs_size l
  go_enter Tryd.func44, Tryd.ntmps44
  go_wp2
  go_loopw [3, 4, 8] (fun v a i wr => ∃ (k b : Nat) (outs : List (List UInt8)), k ≤ l.length ∧ b ≤ k ∧ i = .int .i64 k ∧ a = .int .i64 b ∧ splitL l = outs ++ glue ((l.take k).drop b) (splitL (l.drop k)) ∧ outs.length ≤ k ∧ wr.ownsRow w.heap.size 9 1 v outs.length (stC8 outs) ∧ Below w.heap.size w wr) (fun _ _ i _ => l.length - (intOf i).toNat)
  case atStart => exact ⟨0, 0, [], Nat.zero_le _, Nat.le_refl _, rfl, rfl, by simp [glue_nil (split_ne l)], Nat.le_refl _, World.ownsRow_nil _ _ _ _, Below.refl _ _⟩
  case round =>
    obtain ⟨k, b, outs, hk, hbk, rfl, rfl, hsp, ho, hown, hb⟩ := hrel
    by_cases hlt : k < l.length
    · have hlt' : (k : Int) < ((bs l).size : Int) := by rw [hsz]; omega
      have hkl : (k : Int) ≤ ((bs l).size : Int) := by omega
      have hbk' : (b : Int) ≤ (k : Int) := by omega
      have hix := idx_bs hlt .i64
      have hdr : l.drop k = l[k] :: l.drop (k + 1) := (List.getElem_cons_drop (h := hlt)).symm
      have htk : l.take (k + 1) = l.take k ++ [l[k]] := by rw [List.take_add_one, List.getElem?_eq_getElem hlt]; rfl
      have hdb : (l.take (k + 1)).drop b = (l.take k).drop b ++ [l[k]] := by rw [htk, List.drop_append_of_le_length (by simp; omega)]
      generalize l[k] = c at hix hdr hdb htk
      by_cases hc : c = 32
      · subst hc
        have hsp' : splitL l = (outs ++ [(l.take k).drop b]) ++ glue ((l.take (k + 1)).drop (k + 1)) (splitL (l.drop (k + 1))) := by
          rw [hsp, hdr]
          simp only [splitL, if_pos]
          rw [show (l.take (k + 1)).drop (k + 1) = [] by rw [List.drop_eq_nil_iff]; simp; omega, glue_nil (split_ne _)]
          simp [glue]
        have hex := ext_bs l b k
        generalize (l.take k).drop b = P at hex hsp'
        have HS := Lib.hid hsp'
        have HL := Lib.hid (show outs.length + 1 ≤ k + 1 ∧ outs.length + 1 ≤ 100000 from by omega)
        have h32 : (((32 : UInt8).toNat : Nat) : Int) = 32 := rfl
        rw [h32] at hix
        clear hsp hsp' hdr hdb htk h32 ho hsz
        go_wp2_with (at_builtin; refine wpList_append_own_at _ rfl (.tmp 15) (.tmp 20) 39 rfl w.heap.size 9 i0 _ 1 16 Tryd.underlying39 hi hz0 hz1 hz2 rfl (by decide) _ outs.length (stC8 outs) rfl (hown.alloc _) ⟨wr.heap.size, 0, none⟩ 1 1 [.string (bs P)] rfl rfl (cell_one_new _ _ _) (by simp [Value.oneCell']) (by have := HL.out; simp only [maxLen]; omega) (by have := HL.out; omega) (by have := hb.size; simp; omega) ?_; intro v' w2 hown' hgrow hnil hat'; refine Hid.out ?_)
        refine Lib.hid ?_
        go_wp2
        go_roundw
        case rel =>
          refine ⟨k + 1, k + 1, outs ++ [P], by omega, Nat.le_refl _, by go_num, by go_num, HS.out, by have := HL.out; simp; omega, ?_, (hb.alloc hb.size _).grown hgrow (by have := hb.size; simp; omega) (fun j hj => (hown.lt j hj).1)⟩
          simpa [stC8] using hown'
        case measure => simp [intOf]; omega
      · have hsp' : splitL l = outs ++ glue ((l.take (k + 1)).drop b) (splitL (l.drop (k + 1))) := by
          rw [hsp, hdr, hdb]
          simp only [splitL, if_neg hc, glue_glue]
        have hc' : ¬ ((c.toNat : Nat) : Int) = 32 := by
          intro e
          exact hc (UInt8.toNat_inj.1 (by show c.toNat = 32; omega))
        have HS := Lib.hid hsp'
        generalize ((c.toNat : Nat) : Int) = cc at hix hc'
        clear hsp hsp' hdr hdb htk hsz
        go_wp2
        go_roundw
        case rel => exact ⟨k + 1, b, outs, by omega, by omega, by go_num, rfl, HS.out, by omega, hown, hb⟩
        case measure => simp [intOf]; omega
    · obtain rfl : k = l.length := by omega
      have hbk' : (b : Int) ≤ ((bs l).size : Int) := by rw [hsz]; omega
      have hsp' : splitL l = outs ++ [l.drop b] := by
        rw [hsp]
        simp [splitL, glue]
      have hex : (bs l).extract b (bs l).size = bs (l.drop b) := by
        rw [hsz, ext_bs, List.take_of_length_le (Nat.le_refl _)]
      generalize l.drop b = P at hex hsp'
      have HS := Lib.hid hsp'
      have HL := Lib.hid (show outs.length + 1 ≤ 100001 from by omega)
      clear hsp hsp' ho hsz
      go_wp2_with (at_builtin; refine wpList_append_own_at _ rfl (.tmp 25) (.tmp 29) 39 rfl w.heap.size 9 i0 _ 1 16 Tryd.underlying39 hi hz0 hz1 hz2 rfl (by decide) _ outs.length (stC8 outs) rfl (hown.alloc _) ⟨wr.heap.size, 0, none⟩ 1 1 [.string (bs P)] rfl rfl (cell_one_new _ _ _) (by simp [Value.oneCell']) (by have := HL.out; simp only [maxLen]; omega) (by have := HL.out; omega) (by have := hb.size; simp; omega) ?_; intro v' w2 hown' hgrow hnil hat'; refine Hid.out ?_)
      refine Lib.hid ?_
      go_wp2
      go_ret
      refine ⟨_, rfl, ?_, (hb.alloc hb.size _).grown hgrow (by have := hb.size; simp; omega) (fun j hj => (hown.lt j hj).1)⟩
      rw [HS.out]
      simpa [stC8] using hown'
end Go.Proofs.YtceeinljakcdkaaDoor

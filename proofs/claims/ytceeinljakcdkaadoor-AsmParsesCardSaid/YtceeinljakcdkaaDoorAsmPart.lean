/-
  asm: what stands ahead of a blank; which fields count.
-/
import Derived.Test.YtceeinljakcdkaaDoorAsmLib
import Derived.Test.YtceeinljakcdkaaDoorBlk
import Derived.BigQuiet
namespace Go.Proofs.YtceeinljakcdkaaDoor
open Go.RowKit Go.Shelf

theorem part_no {l : List UInt8} (h : Lib.indexByte l 32 = -1) : partL l = (l, []) := by
  have h1 := Lib.indexByte_none h
  have h2 : ∀ c ∈ l, (c != 32) = true := fun c hc => by
    obtain ⟨k, hk, ek⟩ := List.mem_iff_getElem.1 hc
    have := h1 k
    rw [List.getElem?_eq_getElem hk, ek] at this
    simpa using this
  unfold partL
  have e1 : l.dropWhile (· != 32) = [] := by
    clear h h1
    induction l with
    | nil => rfl
    | cons c l ih => rw [List.dropWhile_cons, if_pos (h2 c List.mem_cons_self)]; exact ih (fun d hd => h2 d (List.mem_cons_of_mem _ hd))
  have e2 := List.takeWhile_append_dropWhile (p := (· != 32)) (l := l)
  rw [e1, List.append_nil] at e2
  rw [e1, e2]
theorem part_at {l : List UInt8} {i : Nat} (h : Lib.indexByte l 32 = (i : Int)) : i < l.length ∧ partL l = (l.take i, l.drop i) := by
  obtain ⟨h1, h2⟩ := Lib.indexByte_some h
  have hi : i < l.length := (List.getElem?_eq_some_iff.1 h1).1
  have e : l = l.take i ++ 32 :: l.drop (i + 1) := by
    have h3 := (List.getElem?_eq_some_iff.1 h1).2
    rw [← h3, List.getElem_cons_drop, List.take_append_drop]
  have hx : ∀ c ∈ l.take i, (c != 32) = true := by
    intro c hc
    obtain ⟨k, hk, ek⟩ := List.mem_iff_getElem.1 hc
    simp at hk
    have := h2 k (by omega)
    rw [List.getElem_take] at ek
    rw [List.getElem?_eq_getElem (by omega), ek] at this
    simpa using this
  refine ⟨hi, ?_⟩
  have e2 : l.drop i = 32 :: l.drop (i + 1) := by
    have h3 := (List.getElem?_eq_some_iff.1 h1).2
    rw [← h3, List.getElem_cons_drop]
  unfold partL
  have t1 : l.takeWhile (· != 32) = l.take i := by
    conv => lhs; rw [e]
    rw [List.takeWhile_append_of_pos hx]
    simp
  have t2 : l.dropWhile (· != 32) = l.drop i := by
    conv => lhs; rw [e]
    rw [List.dropWhile_append_of_pos hx, e2]
    simp
  rw [t1, t2]
theorem extract_bs (s : ByteArray) (a b : Nat) : s.extract a b = bs ((s.data.toList.drop a).take (b - a)) := by
  rw [← bs_of (s.extract a b)]
  congr 1
  have := Lib.extract_toList s a b
  rwa [ByteArray.toList_eq] at this
theorem take_bs (s : ByteArray) (i : Nat) : s.extract 0 i = bs (s.data.toList.take i) := by rw [extract_bs]; simp
theorem drop_bs (s : ByteArray) (i : Nat) : s.extract i s.size = bs (s.data.toList.drop i) := by
  rw [extract_bs, List.take_of_length_le]
  rw [List.length_drop, ← Lib.size_eq]
  omega
theorem part_le (l : List UInt8) : (partL l).1.length ≤ l.length ∧ (partL l).2.length ≤ l.length := by
  have := congrArg List.length (List.takeWhile_append_dropWhile (p := (· != 32)) (l := l))
  simp only [List.length_append] at this
  simp only [partL]
  omega
set_option maxRecDepth 100000 in
set_option maxHeartbeats 4000000 in
theorem part_any (s : ByteArray) (w : World) :
    Calls Tryd.prog 40 #[.string s] w fun e w' => e = .returned (.tuple #[.string (bs (partL s.data.toList).1), .string (bs (partL s.data.toList).2)]) ∧ Below w.heap.size w w' := by
  have hidx := index_any s 32
  have hc : ((32 : Int).toNat.toUInt8) = 32 := rfl
  rw [hc] at hidx
  have hge := Lib.indexByte_ge s.data.toList 32
  by_cases h : Lib.indexByte s.data.toList 32 = -1
  · rw [part_no h]
    rw [h] at hidx
    go_enter Tryd.func40, Tryd.ntmps40
    go_wp2_with (go_at_call 25; refine (hidx _).mono ?_; rintro e w' ⟨rfl, rfl⟩)
    refine bodyPost_ret (v := .tuple #[.string s, .string (bs [])]) (by simp [results, Tryd.f40, go_sem, bs]) rfl ⟨by rw [bs_of], Below.refl _ _⟩
  · obtain ⟨i, hi⟩ : ∃ i : Nat, Lib.indexByte s.data.toList 32 = (i : Int) := ⟨(Lib.indexByte s.data.toList 32).toNat, by omega⟩
    obtain ⟨hlt, hp⟩ := part_at hi
    have hz : i < s.size := by rw [Lib.size_eq]; exact hlt
    rw [hp]
    rw [hi] at hidx
    rw [← take_bs, ← drop_bs]
    clear hp hi h hge
    go_enter Tryd.func40, Tryd.ntmps40
    go_wp2_with (first | (go_at_call 25; refine (hidx _).mono ?_; rintro e w' ⟨rfl, rfl⟩) | go_quiet (fail))
    exact bodyPost_ret (v := .tuple #[.string (s.extract 0 i), .string (s.extract i s.size)]) (by simp [results, Tryd.f40, go_sem]) rfl ⟨rfl, below_drewN (Below.refl _ _) _⟩
theorem insn_size : (Tryd.prog.info? 32).map (·.size) = some 4 := by kernel_rfl
theorem results_row_one {P : Program} {fn : Func} {p : Tmp} {ty : TypeId} (h : fn.results = #[.cell p ty]) (tmps : Array Value) (w : World) (g : Nat) (t : TypeId) (cs : Array Value) (fr : Nat × Nat) (d : TypeDesc)
    (hp : tmps.getD p undef = .pointer (some ⟨g, 0, none⟩)) (hg : w.heap[g]? = some (.cells cs t fr))
    (hu : P.underlying ty = some d) (hd : (match d with | .struct _ | .array _ _ => true | _ => false) = true) (hi : (P.info? ty).map (·.size) = some cs.size) :
    (results fn tmps).run P w = .ok (.agg cs) w := by
  have hp' : tmps[p]?.getD undef = .pointer (some ⟨g, 0, none⟩) := by simpa using hp
  simp [results, h, hp', asAddr, run_loadVar_row w g t ty cs fr d hg hu hd hi]
/-- Which fields stand in a code's lines. -/
theorem counted_any (c : Int) (w : World) (hK : Kinds w) :
    Calls Tryd.prog 31 #[.int .u16 c] w fun e w' => e = .returned (insV c (bareJ c 1) (bareJ c 1) (bareK c 1)) ∧ Below w.heap.size w w' := by
  have hB := fun w hK => bare_any c 1 1 1 w hK
  unfold insV at hB ⊢
  go_enter Tryd.func31, Tryd.ntmps31
  go_wp2_with (go_at_call 19; refine (hB _ (hK.alloc _)).mono ?_)
  rintro e w1 ⟨rfl, hb⟩
  have b1 := (Blk.new w #[.int .u16 0, .int .u8 0, .int .u8 0, .int .u32 0] 32).below hb (by simp)
  have hb0 : Below w.heap.size w w1 := ((Below.refl _ w).alloc (Nat.le_refl _) _).trans (hb.mono (by simp))
  go_wp2_with (refine wpList_store_blk rfl 32 (.tmp 2) (.tmp 5) rfl w.heap.size _ _ 32 rfl rfl b1 rfl insn_size (by simp [Value.oneCell']) ?_; intro w2 hw2 hn2)
  exact bodyPost_ret (results_row_one (by rfl) _ _ w.heap.size 32 _ (0, 0) _ rfl hw2.blk Tryd.underlying32 rfl insn_size) rfl ⟨rfl, hb0.trans (hn2.below _ (Nat.le_refl _) hb0.size)⟩
end Go.Proofs.YtceeinljakcdkaaDoor

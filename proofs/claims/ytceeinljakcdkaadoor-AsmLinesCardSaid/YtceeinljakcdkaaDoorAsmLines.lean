/-
  AsmLines: the walk.
-/
import Derived.Test.YtceeinljakcdkaaDoorAsmWk
import Derived.Test.YtceeinljakcdkaaDoorAsmLw
namespace Go.Proofs.YtceeinljakcdkaaDoor
open Go.RowKit Go.Shelf

theorem min_bs (s : ByteArray) (n : Nat) : s.extract 0 (min (s.size : Int) (n : Int)).toNat = bs (s.data.toList.take n) := by
  rw [take_bs]
  congr 1
  have h := Lib.size_eq s
  by_cases hn : s.size ≤ n
  · rw [List.take_of_length_le (by omega), List.take_of_length_le (by omega)]
  · congr 1
    omega
set_option maxRecDepth 100000 in
set_option maxHeartbeats 8000000 in
theorem asmLines_any (s t : ByteArray) (w : World) (hT : T8 w) : Calls Tryd.prog 6 #[.string s, .string t] w fun e w' => e = .returned (.bool true) ∧ Below w.heap.size w w' := by
  have hwk := wakes8_any w hT
  go_enter Tryd.func6, Tryd.ntmps6
  go_wp2_with (first | (go_at_call 7; refine hwk.mono ?_; rintro e w1 ⟨rfl, hb1⟩) | go_quiet (fail))
  have e1 : s.extract 0 (min (s.size : Int) 4000).toNat = bs (s.data.toList.take 4000) := min_bs s 4000
  have e2 : t.extract 0 (min (t.size : Int) 1000).toNat = bs (t.data.toList.take 1000) := min_bs t 1000
  rw [e1, e2]
  have hl : (s.data.toList.take 4000).length ≤ 4000 := by simp; omega
  have hm : (t.data.toList.take 1000).length ≤ 1000 := by simp; omega
  generalize s.data.toList.take 4000 = l at hl ⊢
  generalize t.data.toList.take 1000 = m at hm ⊢
  have hbd : Below w.heap.size w (w1.drewN nq) := below_drewN hb1 nq
  generalize w1.drewN nq = w2 at hbd ⊢
  have hT2 := hT.new hbd
  have hp := parse_any (bs l) w2 hT2
  rw [bs_list] at hp
  clear e1 e2 hwk hb1
  rcases lines_law l m hl hm with ⟨acc, h⟩ | ⟨p, h, hlt, hat, hend⟩
  · rw [h] at hp
    refine hp.mono ?_
    rintro e w3 ⟨A, c, rfl, hb3, _⟩
    go_wp2
    go_ret
    exact ⟨rfl, hbd.trans (hb3.mono hbd.size)⟩
  · rw [h] at hp
    refine hp.mono ?_
    rintro e w3 ⟨A, c, rfl, hb3, _⟩
    have hB3 : Below w.heap.size w w3 := hbd.trans (hb3.mono hbd.size)
    have hT3 := hT.new hB3
    have hsz : ((bs l).size : Int) = (l.length : Int) := by rw [bs_size]
    have hp0 : (0 : Int) ≤ (p : Int) := by omega
    have hp1 : (p : Int) < (l.length : Int) := by omega
    clear hp hb3 hbd hT2
    have hidx : ∀ w, Calls Tryd.prog 25 #[.string (bs (l.drop p)), .int .u8 10] w fun e w' => e = .returned (.int .i64 (Lib.indexByte (l.drop p) 10)) ∧ w' = w := fun w => by
      have := index_any (bs (l.drop p)) 10 w
      rwa [bs_list] at this
    have e1 : (bs l).extract p (bs l).size = bs (l.drop p) := by rw [drop_bs, bs_list]
    have hidx2 : ∀ w, Calls Tryd.prog 25 #[.string ((bs l).extract p (bs l).size), .int .u8 10] w fun e w' => e = .returned (.int .i64 (Lib.indexByte (l.drop p) 10)) ∧ w' = w := fun w => by
      rw [e1]
      exact hidx w
    have hnil : ¬ l = [] := by
      rintro rfl
      simp at hlt
    have hge := Lib.indexByte_ge (l.drop p) 10
    have hlast : ∀ h : p - 1 < (bs l).size, 0 < p → (bs l)[p - 1]'h = 10 := fun h hp => by
      have h1 := hat hp
      have h2 : (bs l).data[p - 1]? = some 10 := by
        rw [← Array.getElem?_toList, bs_list]
        exact h1
      exact (Array.getElem?_eq_some_iff.1 h2).2
    clear hat
    clear e1
    by_cases hi : Lib.indexByte (l.drop p) 10 = -1
    · rw [hi] at hidx hidx2
      by_cases hp2 : p = 0
      · subst hp2
        rw [List.drop_zero] at hidx
        clear hlast hend hi
        go_wp2_with (go_at_call 25; refine (hidx _).mono ?_; rintro e w' ⟨rfl, e1⟩; obtain rfl := e1.symm)
        go_ret
        exact ⟨rfl, hB3⟩
      · have hp3 : (0 : Int) < (p : Int) := by omega
        have hlast' := fun h => hlast h (by omega)
        clear hlast hend hi
        go_wp2_with (go_at_call 25; refine (hidx2 _).mono ?_; rintro e w' ⟨rfl, e1⟩; obtain rfl := e1.symm)
        go_ret
        exact ⟨rfl, hB3⟩
    · obtain ⟨i, hi⟩ : ∃ i : Nat, Lib.indexByte (l.drop p) 10 = (i : Int) := ⟨(Lib.indexByte (l.drop p) 10).toNat, by omega⟩
      rw [hi] at hidx hidx2
      obtain ⟨hle, hpar⟩ := hend i hi
      have hp4 : ∀ w, T8 w → Calls Tryd.prog 15 #[.string (bs (l.take (p + i + 1) ++ m))] w fun e w' => (∃ A c, e = .returned (.tuple #[.slice A 0 c, .int .i64 p, .int .i64 180])) ∧ Below w.heap.size w w' := fun w hT => by
        have := parse_any (bs (l.take (p + i + 1) ++ m)) w hT
        rw [bs_list, hpar] at this
        refine this.mono ?_
        rintro e w' ⟨A, c, rfl, hb, _⟩
        exact ⟨⟨A, c, rfl⟩, hb⟩
      have ht : (bs l).extract 0 (p + i + 1) = bs (l.take (p + i + 1)) := by rw [take_bs, bs_list]
      have hw1 : IntKind.i64.wrap ((p : Int) + (i : Int)) = (p : Int) + (i : Int) := by rw [IntKind.wrap_i64]; omega
      have hw2 : IntKind.i64.wrap ((p : Int) + (i : Int) + 1) = (p : Int) + (i : Int) + 1 := by rw [IntKind.wrap_i64]; omega
      have hle2 : (p : Int) + (i : Int) + 1 ≤ (l.length : Int) := by omega
      have hi0 : (0 : Int) ≤ (i : Int) := by omega
      by_cases hp2 : p = 0
      · subst hp2
        rw [List.drop_zero] at hidx
        clear hlast hend hi hpar
        go_wp2_with (go_at_call 25; refine (hidx _).mono ?_; rintro e w' ⟨rfl, e1⟩; obtain rfl := e1.symm)
        · exfalso
          have z1 := bs_size l
          have z2 := bs_size m
          omega
        · have hcat : (bs l).extract 0 (i + 1) ++ bs m = bs (l.take (i + 1) ++ m) := by
            rw [take_bs, bs_list]
            simp [bs, ByteArray.ext_iff]
          rw [hcat]
          simp only [Nat.zero_add] at hp4
          refine (hp4 _ hT3).mono ?_
          rintro e w4 ⟨⟨A4, c4, rfl⟩, hb4⟩
          go_wp2
          go_ret
          exact ⟨rfl, hB3.trans (hb4.mono hB3.size)⟩
      · have hp3 : (0 : Int) < (p : Int) := by omega
        have hlast' := fun h => hlast h (by omega)
        clear hlast hend hi hpar
        go_wp2_with (go_at_call 25; refine (hidx2 _).mono ?_; rintro e w' ⟨rfl, e1⟩; obtain rfl := e1.symm)
        · exfalso
          have z1 := bs_size (l.take (p + i + 1))
          have z2 := bs_size m
          rw [List.length_take] at z1
          omega
        · have hcat : bs (l.take (p + i + 1)) ++ bs m = bs (l.take (p + i + 1) ++ m) := by simp [bs, ByteArray.ext_iff]
          rw [hcat]
          refine (hp4 _ hT3).mono ?_
          rintro e w4 ⟨⟨A4, c4, rfl⟩, hb4⟩
          go_wp2
          go_ret
          exact ⟨rfl, hB3.trans (hb4.mono hB3.size)⟩
end Go.Proofs.YtceeinljakcdkaaDoor

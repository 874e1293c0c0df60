/-
  asm.read: a number taken off the front of what is left of a line.
-/
import Derived.Test.YtceeinljakcdkaaDoorAsmPart
import Derived.BigQuiet
namespace Go.Proofs.YtceeinljakcdkaaDoor
open Go.RowKit Go.Shelf

/-- Of what lay there, two blocks alone may have turned. -/
structure Two (a b : Nat) (w w' : World) : Prop where
  os : w'.os = w.os
  tape : w'.tape = w.tape
  output : w'.output = w.output
  size : w.heap.size ≤ w'.heap.size
  block : ∀ k, k < w.heap.size → k ≠ a → k ≠ b → w'.heap[k]? = w.heap[k]?
theorem Two.refl (a b : Nat) (w : World) : Two a b w w := ⟨rfl, rfl, rfl, Nat.le_refl _, fun _ _ _ _ => rfl⟩
theorem Two.trans {a b : Nat} {u v w : World} (h : Two a b u v) (k : Two a b v w) : Two a b u w :=
  ⟨k.os.trans h.os, k.tape.trans h.tape, k.output.trans h.output, Nat.le_trans h.size k.size, fun i hi h1 h2 => (k.block i (Nat.lt_of_lt_of_le hi h.size) h1 h2).trans (h.block i hi h1 h2)⟩
theorem Two.of {a b : Nat} {w w' : World} (h : Below w.heap.size w w') : Two a b w w' := ⟨h.os, h.tape, h.output, h.size, fun k hk _ _ => h.block k hk⟩
theorem Two.below {a b B : Nat} {w w' : World} (h : Two a b w w') (ha : B ≤ a) (hb : B ≤ b) (hB : B ≤ w.heap.size) : Below B w w' := ⟨h.os, h.tape, h.output, h.size, fun k hk => h.block k (by omega) (by omega) (by omega)⟩
theorem Two.set {a b : Nat} {u w : World} (h : Two a b u w) (p : Addr) (hp : p.block = a ∨ p.block = b) (v : Value) : Two a b u (w.setCell p v) :=
  ⟨h.os, h.tape, h.output, by simp [World.setCell]; exact h.size, fun k hk h1 h2 => (Below.heap_setCell _ _ _ _ (by omega)).trans (h.block k hk h1 h2)⟩
theorem Two.drew {a b : Nat} {u w : World} (h : Two a b u w) (n : Nat) : Two a b u (w.drewN n) := ⟨h.os, h.tape, h.output, h.size, h.block⟩
theorem Blk.two {a b g : Nat} {w w' : World} {cs : Array Value} {t : TypeId} (h : Blk w g cs t) (k : Two a b w w') (ha : g ≠ a) (hb : g ≠ b) : Blk w' g cs t := ⟨(k.block g h.lt ha hb).trans h.blk⟩
/-- What a read leaves. -/
def readPost (a b : Nat) (r : ByteArray) (cs : Array Value) (f : Nat) (k : IntKind) (o : Option (Nat × List UInt8)) (w : World) (e : Ending) (w' : World) : Prop :=
  ∃ ok, e = .returned (.bool ok) ∧ Two a b w w' ∧ (∀ n r', o = some (n, r') → ok = true ∧ Blk w' a #[.string (bs r')] 9 ∧ Blk w' b (cs.setIfInBounds f (.int k (n : Nat))) 32) ∧
    (o = none → ok = false ∧ Blk w' a #[.string r] 9 ∧ Blk w' b cs 32)
theorem set_same {cs : Array Value} {f : Nat} {v : Value} (h : cs[f]? = some v) : cs.setIfInBounds f v = cs := by
  apply Array.ext_getElem?
  intro i
  rw [Array.getElem?_setIfInBounds]
  by_cases hi : f = i
  · subst hi
    have := (Array.getElem?_eq_some_iff.1 h).1
    have e := (Array.getElem?_eq_some_iff.1 h).2
    simp [this, e]
  · simp [hi]
theorem bs_eq (a b : List UInt8) : ((bs a).toList == (bs b).toList) = decide (a = b) := by
  have h : ∀ l, (bs l).toList = l := fun l => by rw [ByteArray.toList_eq, bs_list]
  rw [h, h]
  by_cases e : a = b <;> simp [e]
theorem trim_le (l : List UInt8) : (Lib.trimPrefix l [32]).length ≤ l.length := Lib.trimPrefix_le _ _

set_option maxRecDepth 100000 in
set_option maxHeartbeats 8000000 in
theorem read32_any (a b : Nat) (r : ByteArray) (cs : Array Value) (cnt : Int) (w : World) (hT : T8 w) (hr : r.size ≤ 1048576) (h1 : Blk w a #[.string r] 9) (h2 : Blk w b cs 32) (hab : a ≠ b)
    (h3 : cs[3]? = some (.int .u32 0)) :
    Calls Tryd.prog 42 #[.pointer (some ⟨a, 0, none⟩), .int .u32 cnt, .pointer (some ⟨b, 3, none⟩)] w (readPost a b r cs 3 .u32 (readL 4294967296 (cnt != 0) r.data.toList) w) := by
  unfold readL
  by_cases hc : cnt = 0
  · subst hc
    go_enter Tryd.func42, Tryd.ntmps42
    go_wp2
    go_ret
    refine ⟨true, rfl, Two.refl _ _ _, ?_, by simp⟩
    intro n r' he
    simp at he
    obtain ⟨rfl, rfl⟩ := he
    exact ⟨rfl, by rw [bs_of]; exact h1, by rw [show ((0 : Nat) : Int) = 0 from rfl, set_same h3]; exact h2⟩
  · have hc' : (cnt != 0) = true := by simpa using hc
    rw [hc']
    simp only [if_true]
    obtain ⟨P, hP⟩ : ∃ P, partL (Lib.trimPrefix r.data.toList [32]) = P := ⟨_, rfl⟩
    have hPl : P.1.length ≤ 1048576 ∧ P.2.length ≤ 1048576 := by
      have q1 := part_le (Lib.trimPrefix r.data.toList [32])
      have q2 := trim_le r.data.toList
      have q3 := Lib.size_eq r
      rw [hP] at q1
      omega
    have hpart : ∀ w, Calls Tryd.prog 40 #[.string (bs (Lib.trimPrefix r.data.toList [32]))] w fun e w' => e = .returned (.tuple #[.string (bs P.1), .string (bs P.2)]) ∧ Below w.heap.size w w' := fun w => by
      have := part_any (bs (Lib.trimPrefix r.data.toList [32])) w
      rwa [bs_list, hP] at this
    have htrim : ∀ w, Calls Tryd.prog 59 #[.string r, .string ⟨#[32]⟩] w fun e w' => e = .returned (.string (bs (Lib.trimPrefix r.data.toList [32]))) ∧ w' = w := fun w => trimP_any r ⟨#[32]⟩ w
    rw [hP]
    have hnum : ∀ w, T8 w → _ := fun w hT => parseU_any (bs P.1) (by rw [bs_size]; omega) w hT
    rw [bs_list] at hnum
    have c1 := h1.cell 0
    simp only [List.getElem?_toArray, List.getElem?_cons_zero] at c1
    clear hP hc'
    by_cases hok : ∃ u, Lib.parseUintB 64 P.1 = .ok u
    · obtain ⟨u, hu⟩ := hok
      have hnum' : ∀ w, T8 w → Calls Tryd.prog 60 #[.string (bs P.1), .int .i64 10, .int .i64 64] w fun e w' => e = .returned (.tuple #[.int .u64 (u : Int), .nilIface]) ∧ Below w.heap.size w w' := fun w hT =>
        (hnum w hT).mono (by
          rintro e w' ⟨v, er, rfl, hb, h⟩
          rcases h with ⟨u', h, rfl, rfl⟩ | ⟨h, _⟩
          · rw [hu] at h
            cases h
            exact ⟨rfl, hb⟩
          · exact absurd hu (h u))
      have hn : numL 4294967296 P.1 = if Lib.decDigits (u % 4294967296) = P.1 then some (u % 4294967296) else none := by unfold numL; rw [hu]
      rw [hn]
      clear hn
      have hul : u ≤ 18446744073709551615 := Lib.parseUintB_le hu
      have hw1 : IntKind.u32.wrap (u : Int) = ((u % 4294967296 : Nat) : Int) := by rw [IntKind.wrap_u32]; omega
      have hw2 : IntKind.u64.wrap ((u % 4294967296 : Nat) : Int) = ((u % 4294967296 : Nat) : Int) := by rw [IntKind.wrap_u64]; omega
      obtain ⟨m, hm⟩ : ∃ m, u % 4294967296 = m := ⟨_, rfl⟩
      have hmw : m < 4294967296 := by omega
      rw [hm] at hw1 hw2
      rw [hm]
      have hfmt := fun w hT => fmt_any m (by omega) w hT
      have heq := bs_eq (Lib.decDigits m) P.1
      clear hu hul hm hnum
      by_cases hd : Lib.decDigits m = P.1
      · rw [if_pos hd]
        rw [decide_eq_true hd] at heq
        clear hd
        go_enter Tryd.func42, Tryd.ntmps42
        go_wp2_with (first
          | (go_at_call 59; refine (htrim _).mono ?_; rintro e w' ⟨rfl, e1⟩; obtain rfl := e1.symm)
          | (go_at_call 40; refine (hpart _).mono ?_; rintro e w1 ⟨rfl, hb1⟩)
          | (go_at_call 60; refine (hnum' _ (hT.new hb1)).mono ?_; rintro e w2 ⟨rfl, hb2⟩)
          | (go_at_call 54; refine (hfmt _ ((hT.new hb1).new hb2)).mono ?_; rintro e w3 ⟨rfl, hb3⟩; refine Hid.out ?_))
        refine Lib.hid ?_
        have hb03 : Below w.heap.size w w3 := (hb1.trans (hb2.mono hb1.size)).trans (hb3.mono ((hb1.trans (hb2.mono hb1.size))).size)
        have k1 := h1.below hb03 h1.lt
        have k2 := h2.below hb03 h2.lt
        have a1 := k1.cell 0
        simp only [List.getElem?_toArray, List.getElem?_cons_zero] at a1
        have a2 := k1.frozen 0
        have a3 := k2.cell 3
        rw [h3] at a3
        have a4 := k2.frozen 3
        go_wp2
        go_ret
        refine ⟨true, rfl, ((Two.of (a := a) (b := b) hb03).set ⟨b, 3, none⟩ (.inr rfl) _).set ⟨a, 0, none⟩ (.inl rfl) _, ?_, by simp⟩
        intro n r' he
        simp at he
        obtain ⟨rfl, rfl⟩ := he
        exact ⟨rfl, by simpa using (k1.far (p := ⟨b, 3, none⟩) hab (.int .u32 m)).set_ 0 (.string (bs P.2)), (k2.set_ 3 (.int .u32 m)).far (p := ⟨a, 0, none⟩) (Ne.symm hab) _⟩
      · rw [if_neg hd]
        rw [decide_eq_false hd] at heq
        clear hd
        go_enter Tryd.func42, Tryd.ntmps42
        go_wp2_with (first
          | (go_at_call 59; refine (htrim _).mono ?_; rintro e w' ⟨rfl, e1⟩; obtain rfl := e1.symm)
          | (go_at_call 40; refine (hpart _).mono ?_; rintro e w1 ⟨rfl, hb1⟩)
          | (go_at_call 60; refine (hnum' _ (hT.new hb1)).mono ?_; rintro e w2 ⟨rfl, hb2⟩)
          | (go_at_call 54; refine (hfmt _ ((hT.new hb1).new hb2)).mono ?_; rintro e w3 ⟨rfl, hb3⟩))
        go_ret
        have hb03 : Below w.heap.size w w3 := (hb1.trans (hb2.mono hb1.size)).trans (hb3.mono ((hb1.trans (hb2.mono hb1.size))).size)
        exact ⟨false, rfl, Two.of hb03, by simp, fun _ => ⟨rfl, h1.below hb03 h1.lt, h2.below hb03 h2.lt⟩⟩
    · have hnum' : ∀ w, T8 w → Calls Tryd.prog 60 #[.string (bs P.1), .int .i64 10, .int .i64 64] w fun e w' => (∃ v t p, e = .returned (.tuple #[.int .u64 v, .iface t p])) ∧ Below w.heap.size w w' := fun w hT =>
        (hnum w hT).mono (by
          rintro e w' ⟨v, er, rfl, hb, h⟩
          rcases h with ⟨u', h, rfl, rfl⟩ | ⟨_, t, p, rfl⟩
          · exact absurd ⟨u', h⟩ hok
          · exact ⟨⟨_, _, _, rfl⟩, hb⟩)
      have hno : numL 4294967296 P.1 = none := by
        unfold numL
        rcases h : Lib.parseUintB 64 P.1 with u | _ | _
        · exact absurd ⟨u, h⟩ hok
        · rfl
        · rfl
      rw [hno]
      clear hno hok hnum
      go_enter Tryd.func42, Tryd.ntmps42
      go_wp2_with (first
        | (go_at_call 59; refine (htrim _).mono ?_; rintro e w' ⟨rfl, e1⟩; obtain rfl := e1.symm)
        | (go_at_call 40; refine (hpart _).mono ?_; rintro e w1 ⟨rfl, hb1⟩)
        | (go_at_call 60; refine (hnum' _ (hT.new hb1)).mono ?_; rintro e w2 ⟨⟨v, t, p, rfl⟩, hb2⟩))
      go_ret
      have hb03 : Below w.heap.size w w2 := hb1.trans (hb2.mono hb1.size)
      exact ⟨false, rfl, Two.of hb03, by simp, fun _ => ⟨rfl, h1.below hb03 h1.lt, h2.below hb03 h2.lt⟩⟩

set_option maxRecDepth 100000 in
set_option maxHeartbeats 8000000 in
theorem read8_any (f : Nat) (a b : Nat) (r : ByteArray) (cs : Array Value) (cnt : Int) (w : World) (hT : T8 w) (hr : r.size ≤ 1048576) (h1 : Blk w a #[.string r] 9) (h2 : Blk w b cs 32) (hab : a ≠ b)
    (h3 : cs[f]? = some (.int .u8 0)) :
    Calls Tryd.prog 43 #[.pointer (some ⟨a, 0, none⟩), .int .u8 cnt, .pointer (some ⟨b, f, none⟩)] w (readPost a b r cs f .u8 (readL 256 (cnt != 0) r.data.toList) w) := by
  unfold readL
  by_cases hc : cnt = 0
  · subst hc
    go_enter Tryd.func43, Tryd.ntmps43
    go_wp2
    go_ret
    refine ⟨true, rfl, Two.refl _ _ _, ?_, by simp⟩
    intro n r' he
    simp at he
    obtain ⟨rfl, rfl⟩ := he
    exact ⟨rfl, by rw [bs_of]; exact h1, by rw [show ((0 : Nat) : Int) = 0 from rfl, set_same h3]; exact h2⟩
  · have hc' : (cnt != 0) = true := by simpa using hc
    rw [hc']
    simp only [if_true]
    obtain ⟨P, hP⟩ : ∃ P, partL (Lib.trimPrefix r.data.toList [32]) = P := ⟨_, rfl⟩
    have hPl : P.1.length ≤ 1048576 ∧ P.2.length ≤ 1048576 := by
      have q1 := part_le (Lib.trimPrefix r.data.toList [32])
      have q2 := trim_le r.data.toList
      have q3 := Lib.size_eq r
      rw [hP] at q1
      omega
    have hpart : ∀ w, Calls Tryd.prog 40 #[.string (bs (Lib.trimPrefix r.data.toList [32]))] w fun e w' => e = .returned (.tuple #[.string (bs P.1), .string (bs P.2)]) ∧ Below w.heap.size w w' := fun w => by
      have := part_any (bs (Lib.trimPrefix r.data.toList [32])) w
      rwa [bs_list, hP] at this
    have htrim : ∀ w, Calls Tryd.prog 59 #[.string r, .string ⟨#[32]⟩] w fun e w' => e = .returned (.string (bs (Lib.trimPrefix r.data.toList [32]))) ∧ w' = w := fun w => trimP_any r ⟨#[32]⟩ w
    rw [hP]
    have hnum : ∀ w, T8 w → _ := fun w hT => parseU_any (bs P.1) (by rw [bs_size]; omega) w hT
    rw [bs_list] at hnum
    have c1 := h1.cell 0
    simp only [List.getElem?_toArray, List.getElem?_cons_zero] at c1
    clear hP hc'
    by_cases hok : ∃ u, Lib.parseUintB 64 P.1 = .ok u
    · obtain ⟨u, hu⟩ := hok
      have hnum' : ∀ w, T8 w → Calls Tryd.prog 60 #[.string (bs P.1), .int .i64 10, .int .i64 64] w fun e w' => e = .returned (.tuple #[.int .u64 (u : Int), .nilIface]) ∧ Below w.heap.size w w' := fun w hT =>
        (hnum w hT).mono (by
          rintro e w' ⟨v, er, rfl, hb, h⟩
          rcases h with ⟨u', h, rfl, rfl⟩ | ⟨h, _⟩
          · rw [hu] at h
            cases h
            exact ⟨rfl, hb⟩
          · exact absurd hu (h u))
      have hn : numL 256 P.1 = if Lib.decDigits (u % 256) = P.1 then some (u % 256) else none := by unfold numL; rw [hu]
      rw [hn]
      clear hn
      have hul : u ≤ 18446744073709551615 := Lib.parseUintB_le hu
      have hw1 : IntKind.u8.wrap (u : Int) = ((u % 256 : Nat) : Int) := by rw [IntKind.wrap_u8]; omega
      have hw2 : IntKind.u64.wrap ((u % 256 : Nat) : Int) = ((u % 256 : Nat) : Int) := by rw [IntKind.wrap_u64]; omega
      obtain ⟨m, hm⟩ : ∃ m, u % 256 = m := ⟨_, rfl⟩
      have hmw : m < 256 := by omega
      rw [hm] at hw1 hw2
      rw [hm]
      have hfmt := fun w hT => fmt_any m (by omega) w hT
      have heq := bs_eq (Lib.decDigits m) P.1
      clear hu hul hm hnum
      by_cases hd : Lib.decDigits m = P.1
      · rw [if_pos hd]
        rw [decide_eq_true hd] at heq
        clear hd
        go_enter Tryd.func43, Tryd.ntmps43
        go_wp2_with (first
          | (go_at_call 59; refine (htrim _).mono ?_; rintro e w' ⟨rfl, e1⟩; obtain rfl := e1.symm)
          | (go_at_call 40; refine (hpart _).mono ?_; rintro e w1 ⟨rfl, hb1⟩)
          | (go_at_call 60; refine (hnum' _ (hT.new hb1)).mono ?_; rintro e w2 ⟨rfl, hb2⟩)
          | (go_at_call 54; refine (hfmt _ ((hT.new hb1).new hb2)).mono ?_; rintro e w3 ⟨rfl, hb3⟩; refine Hid.out ?_))
        refine Lib.hid ?_
        have hb03 : Below w.heap.size w w3 := (hb1.trans (hb2.mono hb1.size)).trans (hb3.mono ((hb1.trans (hb2.mono hb1.size))).size)
        have k1 := h1.below hb03 h1.lt
        have k2 := h2.below hb03 h2.lt
        have a1 := k1.cell 0
        simp only [List.getElem?_toArray, List.getElem?_cons_zero] at a1
        have a2 := k1.frozen 0
        have a3 := k2.cell f
        rw [h3] at a3
        have a4 := k2.frozen f
        go_wp2
        go_ret
        refine ⟨true, rfl, ((Two.of (a := a) (b := b) hb03).set ⟨b, f, none⟩ (.inr rfl) _).set ⟨a, 0, none⟩ (.inl rfl) _, ?_, by simp⟩
        intro n r' he
        simp at he
        obtain ⟨rfl, rfl⟩ := he
        exact ⟨rfl, by simpa using (k1.far (p := ⟨b, f, none⟩) hab (.int .u8 m)).set_ 0 (.string (bs P.2)), (k2.set_ f (.int .u8 m)).far (p := ⟨a, 0, none⟩) (Ne.symm hab) _⟩
      · rw [if_neg hd]
        rw [decide_eq_false hd] at heq
        clear hd
        go_enter Tryd.func43, Tryd.ntmps43
        go_wp2_with (first
          | (go_at_call 59; refine (htrim _).mono ?_; rintro e w' ⟨rfl, e1⟩; obtain rfl := e1.symm)
          | (go_at_call 40; refine (hpart _).mono ?_; rintro e w1 ⟨rfl, hb1⟩)
          | (go_at_call 60; refine (hnum' _ (hT.new hb1)).mono ?_; rintro e w2 ⟨rfl, hb2⟩)
          | (go_at_call 54; refine (hfmt _ ((hT.new hb1).new hb2)).mono ?_; rintro e w3 ⟨rfl, hb3⟩))
        go_ret
        have hb03 : Below w.heap.size w w3 := (hb1.trans (hb2.mono hb1.size)).trans (hb3.mono ((hb1.trans (hb2.mono hb1.size))).size)
        exact ⟨false, rfl, Two.of hb03, by simp, fun _ => ⟨rfl, h1.below hb03 h1.lt, h2.below hb03 h2.lt⟩⟩
    · have hnum' : ∀ w, T8 w → Calls Tryd.prog 60 #[.string (bs P.1), .int .i64 10, .int .i64 64] w fun e w' => (∃ v t p, e = .returned (.tuple #[.int .u64 v, .iface t p])) ∧ Below w.heap.size w w' := fun w hT =>
        (hnum w hT).mono (by
          rintro e w' ⟨v, er, rfl, hb, h⟩
          rcases h with ⟨u', h, rfl, rfl⟩ | ⟨_, t, p, rfl⟩
          · exact absurd ⟨u', h⟩ hok
          · exact ⟨⟨_, _, _, rfl⟩, hb⟩)
      have hno : numL 256 P.1 = none := by
        unfold numL
        rcases h : Lib.parseUintB 64 P.1 with u | _ | _
        · exact absurd ⟨u, h⟩ hok
        · rfl
        · rfl
      rw [hno]
      clear hno hok hnum
      go_enter Tryd.func43, Tryd.ntmps43
      go_wp2_with (first
        | (go_at_call 59; refine (htrim _).mono ?_; rintro e w' ⟨rfl, e1⟩; obtain rfl := e1.symm)
        | (go_at_call 40; refine (hpart _).mono ?_; rintro e w1 ⟨rfl, hb1⟩)
        | (go_at_call 60; refine (hnum' _ (hT.new hb1)).mono ?_; rintro e w2 ⟨⟨v, t, p, rfl⟩, hb2⟩))
      go_ret
      have hb03 : Below w.heap.size w w2 := hb1.trans (hb2.mono hb1.size)
      exact ⟨false, rfl, Two.of hb03, by simp, fun _ => ⟨rfl, h1.below hb03 h1.lt, h2.below hb03 h2.lt⟩⟩
end Go.Proofs.YtceeinljakcdkaaDoor

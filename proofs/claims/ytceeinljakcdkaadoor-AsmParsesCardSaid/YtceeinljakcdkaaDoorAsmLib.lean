/-
  The tables and variables that the asm layer's road reads; numbers written and read; what stands ahead of a blank.
-/
import Derived.Test.YtceeinljakcdkaaDoorAsmShelf
import Derived.Shelf.Strconv.Itoa1
import Derived.Lib.ItoaMem
import Derived.Lib.ItoaLen
import Derived.Lib.AtoiErrMem
import Derived.Lib.LaidTab
import Derived.Lib.Walk
import Derived.WalkKit
import Derived.BigCall
import Derived.BigGuard
namespace Go.Proofs.YtceeinljakcdkaaDoor
open Go.RowKit Go.Shelf Go.Sort

def G8 : Nat := max (max 0 2) (max 3 4) + 1
/-- What is laid: the table of kinds, the powers of ten, the two errors. -/
structure T8 (w : World) : Prop where
  kinds : Kinds w
  pow : Lib.TabIs Tryd.prog w "internal/strconv.uint64pow10" .u64 Lib.pow10Tab
  syn : ∃ ev, w.cell? ⟨3, 0, none⟩ = some ev ∧ ∃ t p, ev = .iface t p
  rng : ∃ ev, w.cell? ⟨4, 0, none⟩ = some ev ∧ ∃ t p, ev = .iface t p
theorem g_pow : Tryd.prog.globalNamed "internal/strconv.uint64pow10" = some 2 := by kernel_rfl
theorem var_keep {w w' : World} {n : String} {g : Nat} {cs : Array Value} (hg : Tryd.prog.globalNamed n = some g) (h : w.var? Tryd.prog n = some cs) (hk : w'.heap[g]? = w.heap[g]?) : w'.var? Tryd.prog n = some cs := by
  rw [← h]
  simp [World.var?, hg, hk]
theorem T8.pos {w : World} (h : T8 w) : G8 ≤ w.heap.size := by
  have h1 := h.kinds.pos
  have h2 := World.block_lt_of_cell? w _ (h.pow.cell g_pow 0 (by simp [Lib.pow10Tab_length]))
  obtain ⟨_, h3, _⟩ := h.syn
  obtain ⟨_, h4, _⟩ := h.rng
  have h5 := World.block_lt_of_cell? w _ h3
  have h6 := World.block_lt_of_cell? w _ h4
  simp only [G8]
  simp only at h2 h5 h6
  omega
theorem T8.below {w w' : World} {B : Nat} (h : T8 w) (hb : Below B w w') (hB : G8 ≤ B) : T8 w' := by
  have hm : ∀ g, g < G8 → w'.heap[g]? = w.heap[g]? := fun g hg => hb.block g (by omega)
  refine ⟨h.kinds.below hb (by simp only [G8] at hB; omega), var_keep g_pow h.pow (hm _ (by simp only [G8]; omega)), ?_, ?_⟩
  · obtain ⟨ev, h1, h2⟩ := h.syn
    exact ⟨ev, (hb.cell (p := ⟨3, 0, none⟩) (by simp only [G8] at hB; simp only; omega)).trans h1, h2⟩
  · obtain ⟨ev, h1, h2⟩ := h.rng
    exact ⟨ev, (hb.cell (p := ⟨4, 0, none⟩) (by simp only [G8] at hB; simp only; omega)).trans h1, h2⟩
theorem T8.new {w w' : World} (h : T8 w) (hb : Below w.heap.size w w') : T8 w' := h.below hb h.pos
theorem T8.alloc {w : World} (h : T8 w) (o : Obj) : T8 (w.alloc o) := h.new ((Below.refl _ w).alloc (Nat.le_refl _) o)
theorem T8.drew {w : World} (h : T8 w) : T8 w.drew := h.new ((Below.refl _ w).drew)

theorem zeros_at0 (w : World) (T : TypeId) (nd : Nat) (hs : nd ≤ 24) : Holds (fun (b : UInt8) => Value.int .u8 (b.toNat : Int)) (w.alloc (.cells Lib.zeros24 T)) w.heap.size 0 (Array.replicate nd (0 : UInt8)) := fun j hj => by
  have hj' : j < nd := by simpa using hj
  refine ⟨?_, World.frozen?_alloc_new _ _ _ _⟩
  rw [World.cell?_alloc_new, Lib.zeros24_at _ (by omega), getElem!_pos _ j hj]
  simp
theorem small_any (i : Nat) (h : i < 100) (w : World) : Calls Tryd.prog 76 #[.int .i64 i] w fun e w' => e = .returned (.string (bs (Lib.decDigits i))) ∧ w' = w := Any.internal_strconv_small Tryd.lays283 i h w
theorem digits_any (u : Nat) (h1 : 1 ≤ u) (h2 : u < 18446744073709551616) (w : World) (htab : Lib.TabIs Tryd.prog w "internal/strconv.uint64pow10" .u64 Lib.pow10Tab) :
    Calls Tryd.prog 77 #[.int .u64 u] w fun e w' => e = .returned (.int .i64 (Lib.nDigits u)) ∧ w' = w := Any.internal_strconv_numDigits Tryd.laysM284 u h1 h2 w htab
theorem base10_any (blk off cap : Nat) (u : Nat) (d : Array UInt8) (w : World) (hH : Holds (fun (b : UInt8) => Value.int .u8 (b.toNat : Int)) w blk off d) (hu : u < 10 ^ d.size) (hu64 : u < 18446744073709551616) (hsz : d.size < 4611686018427387904) :
    Calls Tryd.prog 78 #[.slice (some ⟨blk, off, none⟩) d.size cap, .int .u64 u] w fun e w' =>
      e = .returned (.tuple #[]) ∧ ∃ (n v' : Nat) (dk : Array UInt8), w' = (putRow (fun (b : UInt8) => Value.int .u8 (b.toNat : Int)) w blk off dk).drewN n ∧ Lib.FmtInv d.size u 0 v' dk := Any.internal_strconv_formatBase10 Tryd.lays285 blk off cap u d w hH hu hu64 hsz
set_option maxHeartbeats 6400000 in
set_option maxRecDepth 100000 in
/-- A number's digits. -/
theorem fmtI_any (u : Nat) (hu : u < 18446744073709551616) (w : World) (hT : T8 w) :
    Calls Tryd.prog 66 #[.int .u64 u, .int .i64 10] w fun e w' => e = .returned (.string (bs (Lib.decDigits u))) ∧ Below w.heap.size w w' := by
  by_cases hs : u < 100
  · have hw : IntKind.i64.wrap (u : Int) = u := by rw [IntKind.wrap_i64]; omega
    go_enter Tryd.func66, Tryd.ntmps66
    go_wp2_with (go_at_call 76; refine (small_any u hs _).mono ?_; rintro e w' ⟨rfl, rfl⟩)
    go_ret
    exact ⟨rfl, Below.refl _ _⟩
  · have hu1 : 1 ≤ u := by omega
    have hb3 : Lib.nDigits u ≤ 20 := Lib.nDigits_le20 u hu
    have hal : Tryd.prog.arrayLen 120 = 24 := by simp [Program.arrayLen, Tryd.underlying120]
    have hsl1 : ∀ W, (Instr.sliceAt 120 (.pointer (some ⟨w.heap.size, 0, none⟩)) none (some (.int .i64 (Lib.nDigits u : Int))) none).run Tryd.prog W = .ok (.slice (some ⟨w.heap.size, 0, none⟩) (Lib.nDigits u) 24) W := fun W => by
      rw [run_sliceAt_array_h W 120 ⟨w.heap.size, 0, none⟩ (by simp [Program.arrayLen, Program.elem, Tryd.underlying120]) .i64 (Lib.nDigits u : Int) (by omega) (by rw [hal]; omega)]
      go_simp
    have hH0 := zeros_at0 w 120 (Lib.nDigits u) (by omega)
    have hfmt := base10_any w.heap.size 0 24 u (Array.replicate (Lib.nDigits u) 0) (w.alloc (.cells Lib.zeros24 120)) hH0 (by rw [Array.size_replicate]; exact Lib.lt_pow_nDigits u) hu (by rw [Array.size_replicate]; omega)
    rw [Array.size_replicate] at hfmt
    have HH0 := Lib.hid hH0
    clear hH0 hal
    go_enter Tryd.func66, Tryd.ntmps66
    go_wp2_with (go_at_call 77; refine (digits_any u hu1 hu _ (Lib.tabIs_alloc hT.pow _)).mono ?_; rintro e w' ⟨rfl, rfl⟩)
    go_at_call 78
    refine hfmt.mono ?_
    rintro e w' ⟨rfl, k, v', dk, rfl, hF⟩
    have hcv : (convert 55 9 (.slice (some ⟨w.heap.size, 0, none⟩) (Lib.nDigits u) 24)).run Tryd.prog ((putRow (fun (b : UInt8) => Value.int .u8 (b.toNat : Int)) (w.alloc (.cells Lib.zeros24 120)) w.heap.size 0 dk).drewN k) = .ok (.string ⟨(Lib.decDigits u).toArray⟩) ((putRow (fun (b : UInt8) => Value.int .u8 (b.toNat : Int)) (w.alloc (.cells Lib.zeros24 120)) w.heap.size 0 dk).drewN k) := by
      have h := run_convert_bytes_back (P := Tryd.prog) ((putRow (fun (b : UInt8) => Value.int .u8 (b.toNat : Int)) (w.alloc (.cells Lib.zeros24 120)) w.heap.size 0 dk).drewN k) 55 9 5 ⟨w.heap.size, 0, none⟩ 24 (Lib.decDigits u) Tryd.underlying55 Tryd.underlying5 Tryd.underlying9 (fun j hj => by
        rw [Lib.row_is_numeral hF j hj, Lib.add_plain, World.cell?_drewN]
        exact cell?_putRow (fun (b : UInt8) => Value.int .u8 (b.toNat : Int)) _ w.heap.size 0 _ dk HH0.out (by rw [hF.size, Array.size_replicate]) j (by rw [hF.size]; rw [Lib.decDigits_length] at hj; exact hj))
      rw [Lib.decDigits_length] at h
      exact h
    go_wp2
    go_ret
    refine ⟨rfl, ?_⟩
    refine below_drewN ?_ k
    rw [alloc_eq_grow]
    obtain ⟨os', _, e⟩ := putRow_grow_new (fun (b : UInt8) => Value.int .u8 (b.toNat : Int)) w #[.cells Lib.zeros24 120] w.heap.size 0 dk (Nat.le_refl _)
    rw [e]
    exact ⟨rfl, rfl, rfl, by simp [grow], fun k hk => heap_grow_old w os' hk⟩
/-- .. -/
theorem fmt_any (u : Nat) (hu : u < 18446744073709551616) (w : World) (hT : T8 w) :
    Calls Tryd.prog 54 #[.int .u64 u, .int .i64 10] w fun e w' => e = .returned (.string (bs (Lib.decDigits u))) ∧ Below w.heap.size w w' := by
  go_enter Tryd.func54, Tryd.ntmps54
  go_wp2_with (go_at_call 66; refine (fmtI_any u hu _ hT).mono ?_; rintro e w' ⟨rfl, hb⟩)
  go_ret
  exact ⟨rfl, hb⟩
theorem okB {n : Nat} {s : ByteArray} (h : s.size ≤ n) : s.data.toList.length ≤ n := by rw [← Lib.size_eq]; exact h
/-- The number that digits are; or an error. -/
theorem parseU_any (s : ByteArray) (hs : s.size ≤ 281474976710656) (w : World) (hT : T8 w) :
    Calls Tryd.prog 60 #[.string s, .int .i64 10, .int .i64 64] w fun e w' => ∃ v er, e = .returned (.tuple #[.int .u64 v, er]) ∧ Below w.heap.size w w' ∧
      ((∃ u : Nat, Lib.parseUintB 64 s.data.toList = .ok u ∧ v = u ∧ er = .nilIface) ∨ ((∀ u, Lib.parseUintB 64 s.data.toList ≠ .ok u) ∧ ∃ t p, er = .iface t p)) := by
  rcases h : Lib.parseUintB 64 s.data.toList with u | _ | _
  · refine (show Calls Tryd.prog 60 #[.string s, .int .i64 10, .int .i64 64] w _ from Any.strconv_ParseUint_10_at64_ok Tryd.laysPu14 s (by omega) u h w).mono ?_
    rintro e w' ⟨rfl, hw⟩
    refine ⟨_, _, rfl, ?_, .inl ⟨u, rfl, rfl, rfl⟩⟩
    rcases hw with rfl | rfl
    · exact Below.refl _ _
    · exact Lib.bytesWorld_below _ _ _
  · obtain ⟨ev, h1, t, p, rfl⟩ := hT.syn
    refine (show Calls Tryd.prog 60 #[.string s, .int .i64 10, .int .i64 64] w _ from Any.strconv_ParseUint_10_at64_syntax Tryd.laysPu14 s hs h _ w h1 (.inr ⟨t, p, rfl⟩)).mono ?_
    rintro e w' ⟨N, rfl, _, _, hb⟩
    exact ⟨_, _, rfl, hb, .inr ⟨fun u => by simp, _, _, rfl⟩⟩
  · obtain ⟨ev, h1, t, p, rfl⟩ := hT.rng
    refine (show Calls Tryd.prog 60 #[.string s, .int .i64 10, .int .i64 64] w _ from Any.strconv_ParseUint_10_at64_range Tryd.laysPu14 s hs h _ w h1 (.inr ⟨t, p, rfl⟩)).mono ?_
    rintro e w' ⟨N, rfl, _, _, hb⟩
    exact ⟨_, _, rfl, hb, .inr ⟨fun u => by simp, _, _, rfl⟩⟩
theorem index_any (s : ByteArray) (c : Int) (w : World) : Calls Tryd.prog 25 #[.string s, .int .u8 c] w fun e w' => e = .returned (.int .i64 (Lib.indexByte s.data.toList c.toNat.toUInt8)) ∧ w' = w := Any.strings_IndexByte Tryd.lays137 s c w
theorem trimP_any (s p : ByteArray) (w : World) : Calls Tryd.prog 59 #[.string s, .string p] w fun e w' => e = .returned (.string (bs (Lib.trimPrefix s.data.toList p.data.toList))) ∧ w' = w := Any.strings_TrimPrefix Tryd.lays101 s p w
theorem cutS_any (s p : ByteArray) (hs : s.size ≤ 9223372036854775807) (w : World) : Calls Tryd.prog 39 #[.string s, .string p] w fun e w' => e = .returned (.tuple #[.string (bs (Lib.trimSuffix s.data.toList p.data.toList)), .bool (Lib.hasSuffix s.data.toList p.data.toList)]) ∧ w' = w :=
  Any.strings_CutSuffix Tryd.lays104 s p w hs
theorem count_any (s : ByteArray) (c : UInt8) (w : World) : Calls Tryd.prog 21 #[.string s, .string ⟨#[c]⟩] w fun e w' => e = .returned (.int .i64 (Lib.countByte s.data.toList c)) ∧ w' = w := Any.strings_Count_one Tryd.lays138 s c w
theorem blen_any (B b : Nat) (xs : List Value) (w : World) (h : Lib.IsBuilderF 57 5 B b xs w) : Calls Tryd.prog 26 #[.pointer (some ⟨b, 0, none⟩)] w fun e w' => e = .returned (.int .i64 xs.length) ∧ w' = w := Any.Builder_Len_f Tryd.lays170 B b xs w h
theorem bbyte_any (B b : Nat) (xs : List Value) (c : Int) (w : World) (h : Lib.IsBuilderF 57 5 B b xs w) (hlen : xs.length + 1 ≤ 140737488355328) (hBw : B ≤ w.heap.size) :
    Calls Tryd.prog 28 #[.pointer (some ⟨b, 0, none⟩), .int .u8 c] w fun e w' => e = .returned .nilIface ∧ (Lib.BuilderAtF 57 5 B b (.pointer (some ⟨b, 0, none⟩)) (xs ++ [.int .u8 c]) w' ∧ Below B w w' ∧ Lib.OthersKept 5 (some b) w w') :=
  Any.Builder_WriteByte_k Tryd.lays167 Tryd.extra167 B b xs c w h hlen hBw
theorem bstr_any (B b : Nat) (xs : List Value) (s : ByteArray) (w : World) (h : Lib.IsBuilderF 57 5 B b xs w) (hlen : xs.length + s.size ≤ 140737488355328) (hBw : B ≤ w.heap.size) :
    Calls Tryd.prog 27 #[.pointer (some ⟨b, 0, none⟩), .string s] w fun e w' => e = .returned (.tuple #[.int .i64 s.size, .nilIface]) ∧ (Lib.BuilderAtF 57 5 B b (.pointer (some ⟨b, 0, none⟩)) (xs ++ Lib.strCells s) w' ∧ Below B w w' ∧ Lib.OthersKept 5 (some b) w w') :=
  Any.Builder_WriteString_k Tryd.lays166 Tryd.extra166 B b xs s w h hlen hBw
theorem bstring_any (B b : Nat) (l : List UInt8) (w : World) (h : Lib.IsBuilderF 57 5 B b (Lib.byteCells l) w) (hBw : B ≤ w.heap.size) :
    Calls Tryd.prog 29 #[.pointer (some ⟨b, 0, none⟩)] w fun e w' => e = .returned (.string (bs l)) ∧ (Lib.IsBuilderF 57 5 B b (Lib.byteCells l) w' ∧ Below B w w' ∧ Lib.OthersKept 5 (some b) w w') :=
  Any.Builder_String_any_k Tryd.lays169 Tryd.extra169 B b l w h hBw
end Go.Proofs.YtceeinljakcdkaaDoor

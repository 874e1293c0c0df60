/-
  DatW, DatQ, Flat, Math, DatP, DatM, DatG: in one file.
-/
import Derived.Test.YtpeofpilfpjjpaaGreatDoorDat
import Derived.Test.YtpeofpilfpjjpaaGreatDoorHH
import Derived.Test.YtpeofpilfpjjpaaGreatDoorHF
import Derived.StillTailTactics
import Derived.Deep.RegionHeld3
import Derived.ChangeKeysEq
import Derived.Test.YtpeofpilfpjjpaaGreatDoorHI
import Derived.Laws.BitsAllLaws
/-
  data.Words, data.join: the words of a call's data, the data of words.
-/
namespace Go.Proofs.YtpeofpilfpjjpaaGreatDoor
open Go.RowKit

/-- The words while they are laid: k of the six pairs. -/
def wk (d : Dat) (k : Nat) : List Int := (wordsL d).take (4 + 2 * k) ++ List.replicate (12 - 2 * k) 0
def argL (d : Dat) : List Int := [d.a0, d.a1, d.a2, d.a3, d.a4, d.a5]
theorem wk_step (d : Dat) (k : Nat) (hk : k < 6) : ((arrC (wk d k)).setIfInBounds (4 + 2 * k) (.int .u32 (lo ((argL d).getD k 0)))).setIfInBounds (5 + 2 * k) (.int .u32 (hi ((argL d).getD k 0))) = arrC (wk d (k + 1)) := by
  match k, hk with
  | 0, _ => rfl
  | 1, _ => rfl
  | 2, _ => rfl
  | 3, _ => rfl
  | 4, _ => rfl
  | 5, _ => rfl
theorem wk_end (d : Dat) : wk d 6 = wordsL d := by simp [wk, wordsL]
theorem arr_get (l : List Int) (k : Nat) (hk : k < l.length) : (arrC l)[k]? = some (.int .u32 (l.getD k 0)) := by
  simp [arrC, List.getD, hk]
theorem arr_info : (Tryz.prog.info? 147).map (·.size) = some 16 := by kernel_rfl
theorem arr_one (l : List Int) : (arrC l).all (·.oneCell') = true := by simp [arrC, Value.oneCell']
theorem arr_size (l : List Int) : (arrC l).size = l.length := by simp [arrC]
theorem arr_inf (l : List Int) (h : l.length = 16) : (Tryz.prog.info? 147).map (·.size) = some (arrC l).size := by rw [arr_size, h]; exact arr_info
theorem wk_len (d : Dat) (k : Nat) (hk : k ≤ 6) : (wk d k).length = 16 := by
  simp [wk, words_len]; omega
theorem arg_index (d : Dat) (k : Nat) (hk : k < 6) : ∀ w : World, (Instr.index 62 (.agg #[.int .u64 d.a0, .int .u64 d.a1, .int .u64 d.a2, .int .u64 d.a3, .int .u64 d.a4, .int .u64 d.a5]) (.int .i64 k)).run Tryz.prog w = .ok (.int .u64 ((argL d).getD k 0)) w := by
  match k, hk with
  | 0, _ => intro V; kernel_rfl
  | 1, _ => intro V; kernel_rfl
  | 2, _ => intro V; kernel_rfl
  | 3, _ => intro V; kernel_rfl
  | 4, _ => intro V; kernel_rfl
  | 5, _ => intro V; kernel_rfl
theorem arg_ok (d : Dat) (h : DatOk d) (k : Nat) (hk : k < 6) : U64 ((argL d).getD k 0) := by
  match k, hk with
  | 0, _ => exact h.a0
  | 1, _ => exact h.a1
  | 2, _ => exact h.a2
  | 3, _ => exact h.a3
  | 4, _ => exact h.a4
  | 5, _ => exact h.a5

set_option maxHeartbeats 2000000 in
theorem words_any (d : Dat) (h : DatOk d) (w : World) :
    Calls Tryz.prog 163 #[datV d] w fun e w' => e = .returned (arrV (wordsL d)) ∧ Below w.heap.size w w' := by
  have HA := Lib.hid (arg_ok d h)
  have HI := Lib.hid (arg_index d)
  have hip := h.ip
  unfold datV datC
  go_enter Tryz.func163, Tryz.ntmps163
  go_wp2_with (go_at_call 168; refine (halves_any _ hip _).mono ?_; rintro e w' ⟨rfl, rfl⟩)
  go_loopw [21] (fun i wr => ∃ k : Nat, k ≤ 6 ∧ i = .int .i64 k ∧ Blk wr (w.heap.size + 1 + 1) (arrC (wk d k)) 147 ∧ Blk wr (w.heap.size + 1) (arrC (List.replicate 16 0)) 147 ∧ Below w.heap.size w wr) (fun i _ => 6 - (intOf i).toNat)
  case atStart =>
    exact ⟨0, Nat.zero_le _, rfl, Blk.new_ _ _ _ (by simp), (Blk.new_ _ _ _ (by simp)).alloc _, (((Below.refl _ _).alloc (Nat.le_refl _) _).alloc (by simp) _).alloc (by simp; omega) _⟩
  case round =>
    obtain ⟨k, hk, rfl, b3, b2, hb⟩ := hrel
    by_cases hlt : k < 6
    · have hlt' : (k : Int) < 6 := by omega
      have hi := HI.out k hlt
      have ha := HA.out k hlt
      have c1 := (b3.cell (4 + 2 * k)).trans (arr_get _ _ (by rw [wk_len d k hk]; omega))
      have c2 := (b3.cell (5 + 2 * k)).trans (arr_get _ _ (by rw [wk_len d k hk]; omega))
      have f1 := b3.frozen (4 + 2 * k)
      have f2 := b3.frozen (5 + 2 * k)
      have hst := Lib.hid (wk_step d k hlt)
      have hset := Lib.hid (fun u v => (b3.set_ (4 + 2 * k) u).set_ (5 + 2 * k) v)
      obtain ⟨x, hx⟩ : ∃ x, (argL d).getD k 0 = x := ⟨_, rfl⟩
      rw [hx] at hi ha
      have HX := Lib.hid hx
      clear hx
      go_wp2_with (go_at_call 168; refine (halves_any _ ha _).mono ?_; rintro e w' ⟨rfl, rfl⟩)
      refine ⟨⟨k + 1, by omega, by go_num, ?_, (b2.far (by simp) _).far (by simp) _, (hb.setCell (by simp; omega) _).setCell (by simp; omega) _⟩, by simp [intOf]; omega⟩
      rw [← hst.out, HX.out]
      exact hset.out _ _
    · obtain rfl : k = 6 := by omega
      rw [wk_end] at b3
      have hone := Lib.hid (arr_one (wordsL d))
      go_wp2_with (first
        | (refine wpList_load_row rfl 147 (.tmp 3) rfl (w.heap.size + 1 + 1) rfl 147 (arrC (wordsL d)) (0, 0) _ b3.blk Tryz.underlying147 rfl arr_info ?_)
        | (refine wpList_store_blk rfl 147 (.tmp 2) (.tmp 39) rfl (w.heap.size + 1) (arrC (List.replicate 16 0)) (arrC (wordsL d)) 147 rfl rfl b2 rfl arr_info hone.out ?_; intro w9 hw9 hn9))
      refine bodyPost_ret (v := arrV (wordsL d)) (results_cell_row rfl _ _ (w.heap.size + 1) 147 (arrC (wordsL d)) (0, 0) _ rfl hw9.blk Tryz.underlying147 rfl arr_info) rfl ?_
      exact ⟨rfl, hb.trans (hn9.below w.heap.size (by omega) hb.size)⟩
end Go.Proofs.YtpeofpilfpjjpaaGreatDoor

/-
  Comparing words and data: '==' and '!=' of [16]uint32 and of api.Data; an index into words.
-/
namespace Go.Proofs.YtpeofpilfpjjpaaGreatDoor
open Go.RowKit

theorem eqItems_ints {P : Program} {e : TypeId} {kd : IntKind} (he : P.underlying e = some (.int kd)) (hp : P.plainKey e = true) (d : Nat) (w : World) (l l' : List Int) : ∀ is : List Nat, (∀ i ∈ is, i < l.length ∧ i < l'.length) →
    (Op.eqItems (d + 1) e 1 (l.map (Value.int kd)).toArray (l'.map (Value.int kd)).toArray is).run P w = .ok (is.all fun i => l.getD i 0 == l'.getD i 0) w
  | [], _ => by simp [Op.eqItems]
  | i :: is, h => by
    obtain ⟨h1, h2⟩ := h i (by simp)
    have ih := eqItems_ints he hp d w l l' is (fun j hj => h j (by simp [hj]))
    have g1 : (l.map (Value.int kd)).toArray[i]? = some (.int kd (l.getD i 0)) := by simp [List.getD, h1]
    have g2 : (l'.map (Value.int kd)).toArray[i]? = some (.int kd (l'.getD i 0)) := by simp [List.getD, h2]
    simp only [Op.eqItems, Sem.run_bind, Nat.mul_one, run_part_plain w hp g1, run_part_plain w hp g2, Result.andThen_ok, run_equalIn_int w d e kd kd _ _ he, List.all_cons]
    cases hq : (l.getD i 0 == l'.getD i 0)
    · simp
    · simp only [Bool.not_true, Bool.false_eq_true, if_false, Bool.true_and]
      exact ih
theorem all_getD (l l' : List Int) (n : Nat) (h : l.length = n) (h' : l'.length = n) : ((List.range n).all fun i => l.getD i 0 == l'.getD i 0) = decide (l = l') := by
  rw [Bool.eq_iff_iff]
  simp only [List.all_eq_true, List.mem_range, beq_iff_eq, decide_eq_true_eq]
  refine ⟨fun hh => ?_, fun e i _ => by rw [e]⟩
  apply List.ext_getElem (by omega)
  intro i h1 h2
  have := hh i (by omega)
  simpa [List.getD, h1, h2] using this

theorem run_eql_arr (l l' : List Int) (h : l.length = 16) (h' : l'.length = 16) (w : World) : (binOp .eql 147 (arrV l) (arrV l')).run Tryz.prog w = .ok (.bool (decide (l = l'))) w := by
  obtain ⟨i, hi, _, hs, _⟩ := info_parts (show (Tryz.prog.info? 61).map (fun i => (i.zero, i.size, i.bytes)) = some (some (.int .u32 0), 1, 4) by kernel_rfl)
  have hc : Tryz.prog.cellsOf 61 = 1 := by simp [Program.cellsOf, hi, hs]
  unfold arrV arrC
  rw [run_eql_struct, run_equalIn_array w 9999 _ _ Tryz.underlying147 hi, hc, eqItems_ints Tryz.underlying61 (by kernel_rfl) 9998 w l l' _ (by intro i hi; simp at hi; omega), all_getD l l' 16 h h']
  rfl

theorem run_eql_args (l l' : List Int) (h : l.length = 6) (h' : l'.length = 6) (d : Nat) (w : World) : (Op.equalIn (d + 2) 62 (.agg (l.map (Value.int .u64)).toArray) (.agg (l'.map (Value.int .u64)).toArray)).run Tryz.prog w = .ok (decide (l = l')) w := by
  obtain ⟨i, hi, _, hs, _⟩ := info_parts (show (Tryz.prog.info? 44).map (fun i => (i.zero, i.size, i.bytes)) = some (some (.int .u64 0), 1, 8) by kernel_rfl)
  have hc : Tryz.prog.cellsOf 44 = 1 := by simp [Program.cellsOf, hi, hs]
  rw [run_equalIn_array w (d + 1) _ _ Tryz.underlying62 hi, hc, eqItems_ints Tryz.underlying44 (by kernel_rfl) d w l l' _ (by intro i hi; simp at hi; omega), all_getD l l' 6 h h']
theorem dat_fields : (Tryz.prog.fieldsOf 64).toList = [⟨"Nr", 61, 0, false, "", "", 0⟩, ⟨"Arch", 61, 1, false, "", "", 4⟩, ⟨"Ip", 44, 2, false, "", "", 8⟩, ⟨"Args", 62, 3, false, "", "", 16⟩] := by kernel_rfl
deriving instance DecidableEq for Dat
def datEq (d d' : Dat) : Bool := decide (d.nr = d'.nr) && (decide (d.ar = d'.ar) && (decide (d.ip = d'.ip) && decide (argL d = argL d')))
theorem datEq_iff (d d' : Dat) : datEq d d' = decide (d = d') := by
  cases d
  cases d'
  simp [datEq, argL]
theorem run_eql_dat (d d' : Dat) (w : World) : (Op.equalIn 10000 64 (datV d) (datV d')).run Tryz.prog w = .ok (decide (d = d')) w := by
  obtain ⟨i, hi, _, hs, _⟩ := info_parts (show (Tryz.prog.info? 62).map (fun i => (i.zero, i.size, i.bytes)) = some (some (.agg #[.int .u64 0, .int .u64 0, .int .u64 0, .int .u64 0, .int .u64 0, .int .u64 0]), 6, 48) by kernel_rfl)
  have hp : ∀ x : Dat, (part 62 (datC x) 3).run Tryz.prog w = .ok (.agg ((argL x).map (Value.int .u64)).toArray) w := by
    intro x
    simp [part, isAgg, run_underlying Tryz.underlying62, sizeOf, typeInfo, hi, hs, datC, argL]
  have p32 : ∀ (x : Dat) (k : Nat) (v : Value), (datC x)[k]? = some v → (part 61 (datC x) k).run Tryz.prog w = .ok v w := fun x k v h => run_part_plain w (by kernel_rfl) h
  have p64 : ∀ (x : Dat) (k : Nat) (v : Value), (datC x)[k]? = some v → (part 44 (datC x) k).run Tryz.prog w = .ok v w := fun x k v h => run_part_plain w (by kernel_rfl) h
  unfold datV
  rw [run_equalIn_struct w 9999 64 _ _ (by kernel_rfl) (by kernel_rfl), dat_fields, ← datEq_iff]
  have g1 := p32 d 0 (.int .u32 d.nr) rfl
  have g1' := p32 d' 0 (.int .u32 d'.nr) rfl
  have g2 := p32 d 1 (.int .u32 d.ar) rfl
  have g2' := p32 d' 1 (.int .u32 d'.ar) rfl
  have g3 := p64 d 2 (.int .u64 d.ip) rfl
  have g3' := p64 d' 2 (.int .u64 d'.ip) rfl
  have hA := run_eql_args (argL d) (argL d') rfl rfl 9997 w
  have hN := run_equalIn_int w 9998 61 .u32 .u32 d.nr d'.nr Tryz.underlying61
  have hR := run_equalIn_int w 9998 61 .u32 .u32 d.ar d'.ar Tryz.underlying61
  have hI := run_equalIn_int w 9998 44 .u64 .u64 d.ip d'.ip Tryz.underlying44
  unfold datEq
  simp only [Nat.reduceAdd] at hA hN hR hI
  simp [Op.eqFields, g1, g1', g2, g2', g3, g3', hp, hA, hN, hR, hI]
  by_cases e1 : d.nr = d'.nr <;> by_cases e2 : d.ar = d'.ar <;> by_cases e3 : d.ip = d'.ip <;> by_cases e4 : argL d = argL d' <;> simp [e1, e2, e3, e4]
end Go.Proofs.YtpeofpilfpjjpaaGreatDoor

/-
  Rows of equally long pieces: plain lemmas.
-/
namespace Go.Proofs.YtpeofpilfpjjpaaGreatDoor
open Go.RowKit

theorem flatNf_len (n : Nat) (g : Nat → List Int) (hg : ∀ k, (g k).length = n) (m : Nat) : ((List.range m).flatMap g).length = m * n := by
  induction m with
  | zero => simp
  | succ m ih => rw [List.range_succ, List.flatMap_append, List.length_append, ih]; simp [hg, Nat.succ_mul]
theorem flatN_piece (n : Nat) (g : Nat → List Int) (hg : ∀ k, (g k).length = n) (m x : Nat) (hx : x < m) : (((List.range m).flatMap g).drop (x * n)).take n = g x := by
  induction m with
  | zero => omega
  | succ m ih =>
    have hl := flatNf_len n g hg m
    have hmul : x + 1 ≤ m → x * n + n ≤ m * n := fun h => by have := Nat.mul_le_mul_right n h; rw [Nat.succ_mul] at this; exact this
    rw [List.range_succ, List.flatMap_append]
    rcases Nat.lt_or_ge x m with h | h
    · have := hmul (by omega)
      rw [List.drop_append_of_le_length (by omega), List.take_append_of_le_length (by rw [List.length_drop]; omega)]
      exact ih h
    · obtain rfl : x = m := by omega
      rw [List.drop_append, hl, Nat.sub_self, List.drop_eq_nil_of_le (by omega)]
      simp [List.take_of_length_le (Nat.le_of_eq (hg x))]
theorem piecesN_all (n : Nat) (l : List Int) (m : Nat) (h : m * n ≤ l.length) : ((List.range m).flatMap fun k => (l.drop (k * n)).take n) = l.take (m * n) := by
  induction m with
  | zero => simp
  | succ m ih =>
    rw [Nat.succ_mul] at h
    rw [List.range_succ, List.flatMap_append, ih (by omega), Nat.succ_mul, List.take_add]
    simp
end Go.Proofs.YtpeofpilfpjjpaaGreatDoor

/-
  Plain numbers: the number of bytes, the bytes of a number, a byte laid above a number by 'or'.
-/
namespace Go.Proofs.YtpeofpilfpjjpaaGreatDoor
open Go.RowKit

/-- The number of bytes, the least one first. -/
def numL : List Int → Int
  | [] => 0
  | b :: l => b + 256 * numL l

theorem pow8 (k : Nat) : (2 : Int) ^ (8 * k) = 256 ^ k := by rw [Int.pow_mul]; rfl
theorem pow256_pos (k : Nat) : (0 : Int) < 256 ^ k := Int.pow_pos (by decide)
theorem numL_append (a b : List Int) : numL (a ++ b) = numL a + 256 ^ a.length * numL b := by
  induction a with
  | nil => simp [numL]
  | cons x a ih =>
    have e : (256 : Int) ^ (x :: a).length = 256 * 256 ^ a.length := by rw [List.length_cons, Int.pow_succ, Int.mul_comm]
    rw [e]
    simp only [List.cons_append, numL, ih]
    rw [Int.mul_add, Int.mul_assoc]
    omega
theorem numL_bd {l : List Int} (h : Byt l) : 0 ≤ numL l ∧ numL l < 256 ^ l.length := by
  induction l with
  | nil => simp [numL]
  | cons x l ih =>
    have hx := h x (by simp)
    have h1 := ih (fun z hz => h z (by simp [hz]))
    have e : (256 : Int) ^ (x :: l).length = 256 * 256 ^ l.length := by rw [List.length_cons, Int.pow_succ, Int.mul_comm]
    rw [e]
    simp only [numL]
    omega
theorem take_succ (l : List Int) (k : Nat) (h : k < l.length) : l.take (k + 1) = l.take k ++ [l.getD k 0] := by
  rw [List.take_succ_eq_append_getElem h]
  simp [List.getD, h]
theorem numL_take_succ (l : List Int) (k : Nat) (h : k < l.length) : numL (l.take (k + 1)) = numL (l.take k) + l.getD k 0 * 2 ^ (8 * k) := by
  rw [take_succ l k h, numL_append, pow8]
  simp only [numL, List.length_take]
  rw [Nat.min_eq_left (by omega), Int.mul_zero, Int.add_zero, Int.mul_comm]
theorem pow8_le {k m : Nat} (h : k ≤ m) : (256 : Int) ^ k ≤ 256 ^ m := by
  obtain ⟨d, rfl⟩ := Nat.le.dest h
  rw [Int.pow_add]
  have h1 := pow256_pos k
  have h2 := pow256_pos d
  have h3 := Int.mul_nonneg (show (0 : Int) ≤ 256 ^ k by omega) (show (0 : Int) ≤ 256 ^ d - 1 by omega)
  rw [Int.mul_sub, Int.mul_one] at h3
  omega

theorem or_byte (a b : Int) (k : Nat) (hk : k ≤ 7) (ha0 : 0 ≤ a) (ha : a < 256 ^ k) (hb0 : 0 ≤ b) (hb : b ≤ 255) :
    bits .or .u64 a (IntKind.u64.wrap (IntKind.u64.wrap b * 2 ^ (8 * k))) = a + b * 2 ^ (8 * k) := by
  have h7 : (256 : Int) ^ k ≤ 256 ^ 7 := pow8_le hk
  have h7' : (256 : Int) ^ 7 = 72057594037927936 := by decide
  have hp := pow256_pos k
  have hm : b * 256 ^ k ≤ 255 * 256 ^ 7 := Int.mul_le_mul hb h7 (by omega) (by omega)
  have hm0 : 0 ≤ b * 256 ^ k := Int.mul_nonneg hb0 (by omega)
  rw [pow8]
  have e1 : IntKind.u64.wrap b = b := by rw [IntKind.wrap_u64]; omega
  have e2 : IntKind.u64.wrap (b * 256 ^ k) = b * 256 ^ k := by rw [IntKind.wrap_u64]; omega
  rw [e1, e2, u64_or a _ ha0 (by omega) hm0 (by omega)]
  obtain ⟨A, rfl⟩ := Int.eq_ofNat_of_zero_le ha0
  obtain ⟨C, rfl⟩ := Int.eq_ofNat_of_zero_le hb0
  have hA : A < 2 ^ (8 * k) := by
    have : ((A : Int)) < ((2 ^ (8 * k) : Nat) : Int) := by
      rw [Int.natCast_pow]; rw [← pow8] at ha; exact ha
    omega
  have e3 : ((C : Int) * 256 ^ k).toNat = 2 ^ (8 * k) * C := by
    have : ((C : Int) * 256 ^ k) = ((2 ^ (8 * k) * C : Nat) : Int) := by
      rw [Int.natCast_mul, Int.natCast_pow, Int.mul_comm, ← pow8]; rfl
    rw [this, Int.toNat_natCast]
  have e4 := Nat.two_pow_add_eq_or_of_lt hA C
  rw [e3, Int.toNat_natCast, Nat.or_comm, ← e4, Int.natCast_add, Int.natCast_mul, Int.natCast_pow, ← pow8, Int.mul_comm, Int.add_comm]
  rfl

theorem or_step (l : List Int) (k : Nat) (hl : Byt l) (hk : k < l.length) (h7 : k ≤ 7) :
    bits .or .u64 (numL (l.take k)) (IntKind.u64.wrap (IntKind.u64.wrap (l.getD k 0) * 2 ^ (8 * k))) = numL (l.take (k + 1)) := by
  have h1 := numL_bd (hl.take k)
  rw [List.length_take, Nat.min_eq_left (by omega)] at h1
  rw [or_byte _ _ k h7 h1.1 h1.2 (hl.at_ k).1 (hl.at_ k).2, numL_take_succ l k hk]
end Go.Proofs.YtpeofpilfpjjpaaGreatDoor

/-
  A call's data and its words as bytes: plain lemmas.
-/
namespace Go.Proofs.YtpeofpilfpjjpaaGreatDoor
open Go.RowKit

/-- The sixteen words of bytes. -/
def wordsB (l : List Int) : List Int := (List.range 16).map fun i => numL ((l.drop (4 * i)).take 4)
theorem wordsB_len (l : List Int) : (wordsB l).length = 16 := by simp [wordsB]
theorem wordsB_get (l : List Int) (k : Nat) (hk : k < 16) : (wordsB l).getD k 0 = numL ((l.drop (4 * k)).take 4) := by
  simp [wordsB, List.getD, hk]
theorem num4_bd {l : List Int} (h : Byt l) (n : Nat) : U32 (numL ((l.drop n).take 4)) := by
  have h1 := numL_bd ((h.drop n).take 4)
  have h2 := pow8_le (k := ((l.drop n).take 4).length) (m := 4) (List.length_take_le _ _)
  have h3 : (256 : Int) ^ 4 = 4294967296 := by decide
  unfold U32
  omega
theorem wordsB_bd {l : List Int} (h : Byt l) : U32s (wordsB l) := by
  intro z hz
  simp only [wordsB, List.mem_map] at hz
  obtain ⟨i, _, rfl⟩ := hz
  exact num4_bd h _
/-- The bytes of the first k arguments. -/
def argB (d : Dat) (k : Nat) : List Int := ((argL d).take k).flatMap fun x => low x 8
/-- The bytes of a call's data. -/
def datB (d : Dat) : List Int := low d.nr 4 ++ low d.ar 4 ++ low d.ip 8 ++ argB d 6
theorem argB_step (d : Dat) (k : Nat) (hk : k < 6) (x : Int) (hx : (argL d).getD k 0 = x) : argB d (k + 1) = argB d k ++ low x 8 := by
  have e : (argL d).take (k + 1) = (argL d).take k ++ [(argL d).getD k 0] := by
    rw [List.take_succ_eq_append_getElem (show k < (argL d).length from hk)]
    simp [List.getD, show k < (argL d).length from hk]
  unfold argB
  rw [e, hx]
  simp
theorem argB_len (d : Dat) (k : Nat) (hk : k ≤ 6) : (argB d k).length = 8 * k := by
  match k, hk with
  | 0, _ => simp [argB]
  | 1, _ => simp [argB, argL, low_length]
  | 2, _ => simp [argB, argL, low_length]
  | 3, _ => simp [argB, argL, low_length]
  | 4, _ => simp [argB, argL, low_length]
  | 5, _ => simp [argB, argL, low_length]
  | 6, _ => simp [argB, argL, low_length]
theorem datB_len (d : Dat) : (datB d).length = 64 := by simp [datB, low_length, argB_len]
def dat0 : Dat := ⟨0, 0, 0, 0, 0, 0, 0, 0, 0⟩
theorem datV_eq (d : Dat) : datV d = .agg #[.int .u32 d.nr, .int .u32 d.ar, .int .u64 d.ip, .int .u64 d.a0, .int .u64 d.a1, .int .u64 d.a2, .int .u64 d.a3, .int .u64 d.a4, .int .u64 d.a5] := rfl
theorem dat_cell1 {w : World} {g : Nat} {d : Dat} (h : Blk w g (datC d) 64) : w.cell? ⟨g, 1, none⟩ = some (.int .u32 d.ar) := h.cell 1
theorem dat_cell2 {w : World} {g : Nat} {d : Dat} (h : Blk w g (datC d) 64) : w.cell? ⟨g, 2, none⟩ = some (.int .u64 d.ip) := h.cell 2
theorem dat_cells {w : World} {g : Nat} {d : Dat} (h : Blk w g (datC d) 64) : w.cell? ⟨g, 3, none⟩ = some (.int .u64 d.a0) ∧ w.cell? ⟨g, 4, none⟩ = some (.int .u64 d.a1) ∧ w.cell? ⟨g, 5, none⟩ = some (.int .u64 d.a2) ∧
    w.cell? ⟨g, 6, none⟩ = some (.int .u64 d.a3) ∧ w.cell? ⟨g, 7, none⟩ = some (.int .u64 d.a4) ∧ w.cell? ⟨g, 8, none⟩ = some (.int .u64 d.a5) := ⟨h.cell 3, h.cell 4, h.cell 5, h.cell 6, h.cell 7, h.cell 8⟩
end Go.Proofs.YtpeofpilfpjjpaaGreatDoor

/-
  A call's data, its words and its bytes lead to one another: plain lemmas.
-/
namespace Go.Proofs.YtpeofpilfpjjpaaGreatDoor
open Go.RowKit

theorem low4' (k : Int) : low k 4 = [k % 256, k / 256 % 256, k / 65536 % 256, k / 16777216 % 256] := by simp [low, byt, List.range_succ]
theorem low8' (k : Int) : low k 8 = low (lo k) 4 ++ low (hi k) 4 := by
  simp only [low4', lo, hi]
  simp [low, byt, List.range_succ]
  omega
theorem num4' (a b c d : Int) : numL [a, b, c, d] = a + 256 * b + 65536 * c + 16777216 * d := by simp [numL]; omega
theorem num_low4 (x : Int) (h : U32 x) : numL (low x 4) = x := by
  unfold U32 at h
  rw [low4', num4']
  omega
theorem low_num4 {q : List Int} (hq : Byt q) (h : q.length = 4) : low (numL q) 4 = q := by
  match q, h with
  | [a, b, c, d], _ =>
    have g : ∀ z ∈ [a, b, c, d], 0 ≤ z ∧ z ≤ 255 := hq
    simp only [List.mem_cons, List.not_mem_nil, or_false, forall_eq_or_imp, forall_eq] at g
    rw [num4', low4']
    simp only [List.cons.injEq, and_true]
    omega
/-- The bytes of words. -/
def wb (L : List Int) : List Int := (List.range 16).flatMap fun i => low (L.getD i 0) 4
theorem datB_wb (d : Dat) : datB d = wb (wordsL d) := by
  simp [datB, argB, argL, wb, wordsL, List.range_succ, low8']
theorem get_getD (l : List Int) (i : Nat) (h : i < l.length) : l[i]? = some (l.getD i 0) := by simp [List.getD, h]
theorem words_of_wb (L : List Int) (hL : L.length = 16) (h : U32s L) : wordsB (wb L) = L := by
  apply List.ext_getElem?
  intro i
  rcases Nat.lt_or_ge i 16 with hi | hi
  · rw [get_getD _ i (by rw [wordsB_len]; exact hi), get_getD L i (by omega), wordsB_get _ i hi, Nat.mul_comm 4 i, wb, flatN_piece 4 _ (fun k => low_length _ _) 16 i hi, num_low4 _ (h.at_ i)]
  · rw [List.getElem?_eq_none (by rw [wordsB_len]; exact hi), List.getElem?_eq_none (by omega)]
theorem wb_of_words (l : List Int) (hl : l.length = 64) (hb : Byt l) : wb (wordsB l) = l := by
  have e : wb (wordsB l) = (List.range 16).flatMap fun k => (l.drop (k * 4)).take 4 := by
    unfold wb
    have : ∀ i ∈ List.range 16, low ((wordsB l).getD i 0) 4 = (l.drop (i * 4)).take 4 := by
      intro i hi
      have hi' : i < 16 := by simpa using hi
      rw [wordsB_get l i hi', Nat.mul_comm 4 i]
      exact low_num4 ((hb.drop _).take _) (by rw [List.length_take, List.length_drop]; omega)
    simp only [List.flatMap_def]
    rw [List.map_congr_left this]
  rw [e, piecesN_all 4 l 16 (by omega), List.take_of_length_le (by omega)]
theorem words_datB (d : Dat) (h : DatOk d) : wordsB (datB d) = wordsL d := by rw [datB_wb, words_of_wb _ (words_len d) (words_bd d h)]
theorem dat_back (d : Dat) (h : DatOk d) : joinD (wordsB (datB d)) = d := by rw [words_datB d h, join_words]
theorem dat_forth (l : List Int) (hl : l.length = 64) (hb : Byt l) : datB (joinD (wordsB l)) = l := by rw [datB_wb, words_join _ (wordsB_len l) (wordsB_bd hb), wb_of_words l hl hb]
theorem words_inj (a b : Dat) : wordsL a = wordsL b ↔ a = b := ⟨fun h => by rw [← join_words a, h, join_words], fun h => by rw [h]⟩
end Go.Proofs.YtpeofpilfpjjpaaGreatDoor

/-
  Laws for operations that stand under a guard: a whole struct or array loaded; two data compared.
-/
namespace Go.Proofs.YtpeofpilfpjjpaaGreatDoor
open Go.RowKit

theorem wpList_at {P : Program} {ops : Array Oper} {rest : List Oper} {o : Oper} {a : Act} {w : World} {Q : Exit → Act → World → Prop} (hw : Region.wanted o (yielded ops a.tmps) = true)
    (h : ∀ K : Act → World → Prop, (∀ a w, wpList P ops Q rest a w → K a w) → o.wp P a w K Q) : wpList P ops Q (o :: rest) a w :=
  wpList_step fun K hK => by rw [if_pos hw]; exact h K hK
theorem wpList_load_at {P : Program} {ops : Array Oper} {rest : List Oper} {o : Oper} {a : Act} {w : World} {Q : Exit → Act → World → Prop} (hw : Region.wanted o (yielded ops a.tmps) = true) (ty : TypeId) (x : Operand) (ho : o.op = .load ty x)
    (g : Nat) (hx : a.eval x = .pointer (some ⟨g, 0, none⟩)) (t : TypeId) (cs : Array Value) (d : TypeDesc) (hg : Blk w g cs t)
    (hu : P.underlying ty = some d) (hd : (match d with | .struct _ | .array _ _ => true | _ => false) = true) (hi : (P.info? ty).map (·.size) = some cs.size)
    (h : wpList P ops Q rest (a.put o.dst (.agg cs)) w) : wpList P ops Q (o :: rest) a w :=
  wpList_at hw fun _ hK => wp_load_row ty x ho g hx t cs (0, 0) d hg.blk hu hd hi (hK _ _ h)
theorem run_eql_datV (d d' : Dat) (w : World) : (binOp .eql 64 (.agg (datC d)) (.agg (datC d'))).run Tryz.prog w = .ok (.bool (decide (d = d'))) w := by
  have h := run_eql_dat d d' w
  unfold datV at h
  rw [run_eql_struct, h]
  rfl
theorem run_neq_datV (d d' : Dat) (w : World) : (binOp .neq 64 (.agg (datC d)) (.agg (datC d'))).run Tryz.prog w = .ok (.bool (!decide (d = d'))) w := by
  have h := run_eql_dat d d' w
  unfold datV at h
  rw [run_neq_struct, h]
  rfl
theorem dat_guard : Tryz.prog.eqGuardType Tryz.prog.depth 64 = false := by kernel_rfl
theorem wpList_eql_dat {ops : Array Oper} {rest : List Oper} {o : Oper} {a : Act} {w : World} {Q : Exit → Act → World → Prop} (hw : Region.wanted o (yielded ops a.tmps) = true) (x y : Operand) (ho : o.op = .binOp .eql 64 x y 64)
    (d d' : Dat) (hx : a.eval x = .agg (datC d)) (hy : a.eval y = .agg (datC d')) (b : Bool) (hb : decide (d = d') = b)
    (h : wpList Tryz.prog ops Q rest (a.put o.dst (.bool b)) w) : wpList Tryz.prog ops Q (o :: rest) a w := by
  refine wpList_at hw fun K hK => ?_
  have hrun := run_eql_datV d d' w
  rw [hb] at hrun
  unfold Oper.wp execOp
  simp only [ho, hx, hy, Sem.run_bind, run_eqGuard_agg w .eql 64 x y _ _ dat_guard, hrun, Result.andThen_ok]
  exact hK _ _ h
theorem wpList_neq_dat {ops : Array Oper} {rest : List Oper} {o : Oper} {a : Act} {w : World} {Q : Exit → Act → World → Prop} (hw : Region.wanted o (yielded ops a.tmps) = true) (x y : Operand) (ho : o.op = .binOp .neq 64 x y 64)
    (d d' : Dat) (hx : a.eval x = .agg (datC d)) (hy : a.eval y = .agg (datC d')) (b : Bool) (hb : (!decide (d = d')) = b)
    (h : wpList Tryz.prog ops Q rest (a.put o.dst (.bool b)) w) : wpList Tryz.prog ops Q (o :: rest) a w := by
  refine wpList_at hw fun K hK => ?_
  have hrun := run_neq_datV d d' w
  rw [hb] at hrun
  unfold Oper.wp execOp
  simp only [ho, hx, hy, Sem.run_bind, run_eqGuard_agg w .neq 64 x y _ _ dat_guard, hrun, Result.andThen_ok]
  exact hK _ _ h
theorem dat0_ok : DatOk dat0 := by constructor <;> (unfold dat0; simp only [U32, U64]; omega)
end Go.Proofs.YtpeofpilfpjjpaaGreatDoor

/-
  The reference's Of and Decode: the data of 64 bytes.
-/
import Derived.Test.YtpehbpjgbjlbjaaRefD
import Derived.Test.YtpehbpjgbjlbjaaRefNum
namespace Go.Proofs.Ytpehbpjgbjlbjaa
open Go.RowKit

theorem num8_split (q : List Int) (h : 8 ≤ q.length) : numL (q.take 8) = wh (numL (q.take 4)) (numL ((q.drop 4).take 4)) := by
  rw [show (8 : Nat) = 4 + 4 from rfl, List.take_add, numL_append, List.length_take, Nat.min_eq_left (by omega)]
  have e : (256 : Int) ^ 4 = 4294967296 := by decide
  unfold wh
  omega
/-- The number of n bytes at a place. -/
def nAt (l : List Int) (o n : Nat) : Int := numL ((l.drop o).take n)
theorem nAt4 (l : List Int) (k : Nat) (hk : k < 16) : (wordsB l).getD k 0 = nAt l (4 * k) 4 := wordsB_get l k hk
theorem nAt8 (l : List Int) (o : Nat) (h : o + 8 ≤ l.length) : nAt l o 8 = wh (nAt l o 4) (nAt l (o + 4) 4) := by
  unfold nAt
  rw [num8_split _ (by rw [List.length_drop]; omega), List.drop_drop]
theorem nAt_bd {l : List Int} (h : Byt l) (o : Nat) : U32 (nAt l o 4) := num4_bd h o
theorem nAt_bd8 {l : List Int} (h : Byt l) (o : Nat) (hl : o + 8 ≤ l.length) : U64 (nAt l o 8) := by
  rw [nAt8 l o hl]
  exact wh_bd _ _ (nAt_bd h _) (nAt_bd h _)
/-- While it is laid. -/
def ok (l : List Int) (k : Nat) : Array Value :=
  let z (i : Nat) : Value := .int .u64 (if i < k then nAt l (16 + 8 * i) 8 else 0)
  #[.int .u32 (nAt l 0 4), .int .u32 (nAt l 4 4), .int .u64 (nAt l 8 8), z 0, z 1, z 2, z 3, z 4, z 5]
theorem ok_step (l : List Int) (k : Nat) (hk : k < 6) (x : Int) (hx : nAt l (16 + 8 * k) 8 = x) : (ok l k).setIfInBounds (3 + k) (.int .u64 x) = ok l (k + 1) := by
  subst hx
  match k, hk with
  | 0, _ => rfl
  | 1, _ => rfl
  | 2, _ => rfl
  | 3, _ => rfl
  | 4, _ => rfl
  | 5, _ => rfl
theorem ok_end (l : List Int) (hl : l.length = 64) : ok l 6 = datC (joinD (wordsB l)) := by
  unfold joinD datC
  simp only [nAt4 l _ (by decide : (0 : Nat) < 16), nAt4 l _ (by decide : (1 : Nat) < 16), nAt4 l _ (by decide : (2 : Nat) < 16), nAt4 l _ (by decide : (3 : Nat) < 16), nAt4 l _ (by decide : (4 : Nat) < 16), nAt4 l _ (by decide : (5 : Nat) < 16),
    nAt4 l _ (by decide : (6 : Nat) < 16), nAt4 l _ (by decide : (7 : Nat) < 16), nAt4 l _ (by decide : (8 : Nat) < 16), nAt4 l _ (by decide : (9 : Nat) < 16), nAt4 l _ (by decide : (10 : Nat) < 16), nAt4 l _ (by decide : (11 : Nat) < 16),
    nAt4 l _ (by decide : (12 : Nat) < 16), nAt4 l _ (by decide : (13 : Nat) < 16), nAt4 l _ (by decide : (14 : Nat) < 16), nAt4 l _ (by decide : (15 : Nat) < 16)]
  simp [ok, nAt8 l 8 (by omega), nAt8 l 16 (by omega), nAt8 l 24 (by omega), nAt8 l 32 (by omega), nAt8 l 40 (by omega), nAt8 l 48 (by omega), nAt8 l 56 (by omega)]
/-- A piece of a slice, as the model cuts it. -/
theorem Rd.mid {w : World} {B n : Nat} {A : Option Addr} {l : List Int} (h : Rd w B A n l) {o m : Nat} (hm : 0 < m) (ho : o + m ≤ n) : ∃ b off, A = some ⟨b, off, none⟩ ∧ Rd w B (some ⟨b, off + o, none⟩) m ((l.drop o).take m) := by
  obtain ⟨b, off, e, hr⟩ := h.cut (k := o) (by omega)
  exact ⟨b, off, e, hr.take (by omega)⟩
theorem refnum_mid {w w' : World} {B b off n c m o : Nat} {l : List Int} (hr : Rd w B (some ⟨b, off, none⟩) n l) (hm : 0 < m) (h8 : m ≤ 8) (ho : o + m ≤ n) (hw : ∀ p : Addr, p.block < B → w'.cell? p = w.cell? p) :
    Calls Try.prog 30 #[.slice (some ⟨b, off + o, none⟩) m c] w' fun e w2 => e = .returned (.int .u64 (nAt l o m)) ∧ w' = w2 := by
  obtain ⟨b', off', e, h⟩ := (hr.keep hw).mid hm ho
  injection e with e
  injection e with e1 e2
  subst e1 e2
  exact refnumber_at _ m c B _ _ w' h (by omega) (nm_small h.byt (by rw [h.len]; exact h8))

theorem keepB {w V : World} {o : Obj} (h : Below w.heap.size w V) : Below w.heap.size w (V.alloc o) := h.alloc h.size o
theorem keepC {w V : World} (h : Below w.heap.size w V) : ∀ p : Addr, p.block < w.heap.size → V.cell? p = w.cell? p := fun _ hp => h.cell hp
theorem ofStart (l : List Int) (w : World) : let W := (((w.alloc (.cells (datC dat0) 26)).alloc (.cells (ok l 0) 26))).drew
    ∃ k : Nat, k ≤ 6 ∧ Value.int .i64 0 = .int .i64 k ∧ Blk W (w.heap.size + 1) (ok l k) 26 ∧ Blk W w.heap.size (datC dat0) 26 ∧ Below w.heap.size w W :=
  ⟨0, by omega, rfl, (Blk.new_ _ _ _ (by simp)).drew, ((Blk.new w _ _).alloc _).drew, (((Below.refl _ w).alloc (Nat.le_refl _) _).alloc (by simp) _).drew⟩
set_option maxHeartbeats 4000000 in
theorem of_any (A : Option Addr) (c : Nat) (l : List Int) (w : World) (hr : Rd w w.heap.size A 64 l) (hc : 64 ≤ c) :
    Calls Try.prog 23 #[.slice A 64 c] w fun e w' => e = .returned (datV (joinD (wordsB l))) ∧ Below w.heap.size w w' := by
  obtain ⟨b, off, rfl, hbl, _⟩ := hr.at_ (k := 0) (by omega)
  have N0 := fun w' hw => refnum_mid (o := 0) (m := 4) (c := c) (w' := w') hr (by omega) (by omega) (by omega) hw
  have N4 := fun w' hw => refnum_mid (o := 4) (m := 4) (c := c - 4) (w' := w') hr (by omega) (by omega) (by omega) hw
  have N8 := fun w' hw => refnum_mid (o := 8) (m := 8) (c := c - 8) (w' := w') hr (by omega) (by omega) (by omega) hw
  have hby := hr.byt
  have HL := Lib.hid hr.len
  simp only [Nat.add_zero] at N0
  have q1 : (4 : Int) ≤ c := by omega
  have q2 : (8 : Int) ≤ c := by omega
  have q3 : (16 : Int) ≤ c := by omega
  have q4 : ¬ c = 4 := by omega
  have q5 : ¬ c = 8 := by omega
  have q6 : ¬ c = 0 := by omega
  obtain ⟨x0, hx0⟩ : ∃ x, nAt l 0 4 = x := ⟨_, rfl⟩
  obtain ⟨x1, hx1⟩ : ∃ x, nAt l 4 4 = x := ⟨_, rfl⟩
  obtain ⟨x2, hx2⟩ : ∃ x, nAt l 8 8 = x := ⟨_, rfl⟩
  have y0 := hx0 ▸ nAt_bd hby 0
  have y1 := hx1 ▸ nAt_bd hby 4
  have y2 := hx2 ▸ nAt_bd8 hby 8 (by rw [HL.out]; omega)
  obtain ⟨y00, y01⟩ := y0
  obtain ⟨y10, y11⟩ := y1
  rw [hx0] at N0
  rw [hx1] at N4
  rw [hx2] at N8
  have H0 := Lib.hid hx0
  have H1 := Lib.hid hx1
  have H2 := Lib.hid hx2
  clear hx0 hx1 hx2
  have s0 : IntKind.u32.wrap x0 = x0 := by rw [IntKind.wrap_u32]; omega
  have s1 : IntKind.u32.wrap x1 = x1 := by rw [IntKind.wrap_u32]; omega
  go_enter Try.func23, Try.ntmps23
  go_wp2_with fail
  go_region_held3 (fun V => Below w.heap.size w V) (first | exact ((Below.refl _ w).alloc (Nat.le_refl _) _).drew | exact keepB (by assumption) | exact (((Below.refl _ w).alloc (Nat.le_refl _) _).alloc (by simp) _).drew)
    (first
      | (go_at_call 30; ((with_reducible refine (N0 _ (keepC (by assumption))).mono ?_); rintro e w' ⟨rfl, rfl⟩))
      | (go_at_call 30; ((with_reducible refine (N4 _ (keepC (by assumption))).mono ?_); rintro e w' ⟨rfl, rfl⟩))
      | (go_at_call 30; ((with_reducible refine (N8 _ (keepC (by assumption))).mono ?_); rintro e w' ⟨rfl, rfl⟩)))
  all_goals clear N0 N4 N8 q1 q2 q3 q4 q5 q6
  all_goals go_wp2_with fail
  all_goals go_loopw [4] (fun i wr => ∃ k : Nat, k ≤ 6 ∧ i = .int .i64 k ∧ Blk wr (w.heap.size + 1) (ok l k) 26 ∧ Blk wr w.heap.size (datC dat0) 26 ∧ Below w.heap.size w wr) (fun i _ => 6 - (intOf i).toNat)
  case atStart => (rw [← H0.out, ← H1.out, ← H2.out]; exact ofStart l w)
  case atStart => (rw [← H0.out, ← H1.out, ← H2.out]; exact ofStart l w)
  case atStart => (rw [← H0.out, ← H1.out, ← H2.out]; exact ofStart l w)
  case atStart => (rw [← H0.out, ← H1.out, ← H2.out]; exact ofStart l w)
  all_goals
    obtain ⟨k, hk, rfl, b3, b2, hb⟩ := hrel
    by_cases hlt : k < 6
    · have hlt' : (k : Int) < 6 := by omega
      obtain ⟨x, hx⟩ : ∃ x, nAt l (16 + 8 * k) 8 = x := ⟨_, rfl⟩
      have N := refnum_mid (o := 16 + 8 * k) (m := 8) (c := c - (16 + 8 * k)) (w' := wr) hr (by omega) (by omega) (by omega) (keepC hb)
      rw [show (Value.slice (some ⟨b, off + (16 + 8 * k), none⟩) 8 (c - (16 + 8 * k))) = .slice (some ⟨b, off + (16 + 8 * k), none⟩) (24 + 8 * k - (16 + 8 * k)) (c - (16 + 8 * k)) by rw [show 24 + 8 * k - (16 + 8 * k) = 8 by omega]] at N
      rw [hx] at N
      have hst := Lib.hid (ok_step l k hlt x hx)
      obtain ⟨v0, hv0⟩ : ∃ v0, (ok l k)[3 + k]? = some v0 := ⟨_, Array.getElem?_eq_getElem (by show 3 + k < 9; omega)⟩
      have c3 := (b3.cell (3 + k)).trans hv0
      have f3 := b3.frozen (3 + k)
      have hset := Lib.hid (fun u => b3.set_ (3 + k) u)
      have t1 : (16 : Int) + 8 * k ≤ c := by omega
      have t2 : (24 : Int) + 8 * k ≤ c := by omega
      have t3 : ¬ c = 16 + 8 * k := by omega
      clear hx hv0
      have HN := Lib.hid N
      clear N
      go_wp2_with fail
      refine HN.out.mono ?_
      rintro e w' ⟨rfl, rfl⟩
      go_wp2_with fail
      refine ⟨⟨k + 1, by omega, by go_num, ?_, b2.far (by simp) _, hb.setCell (by simp) _⟩, by simp [intOf]; omega⟩
      rw [← hst.out]
      exact hset.out _
    · obtain rfl : k = 6 := by omega
      rw [ok_end l HL.out] at b3
      have hone := Lib.hid (dat_one (joinD (wordsB l)))
      go_wp2_with (first
        | (refine wpList_load_row rfl 26 (.tmp 3) rfl (w.heap.size + 1) rfl 26 (datC (joinD (wordsB l))) (0, 0) _ b3.blk Try.underlying26 rfl dat_info ?_)
        | (refine wpList_store_blk rfl 26 (.tmp 2) (.tmp 33) rfl w.heap.size _ (datC (joinD (wordsB l))) 26 rfl rfl b2 rfl dat_info hone.out ?_; intro w9 hw9 hn9))
      refine bodyPost_ret (v := datV (joinD (wordsB l))) (results_cell_row rfl _ _ w.heap.size 26 (datC (joinD (wordsB l))) (0, 0) _ rfl hw9.blk Try.underlying26 rfl dat_info) rfl ?_
      exact ⟨rfl, hb.trans (hn9.below w.heap.size (by omega) hb.size)⟩
end Go.Proofs.Ytpehbpjgbjlbjaa

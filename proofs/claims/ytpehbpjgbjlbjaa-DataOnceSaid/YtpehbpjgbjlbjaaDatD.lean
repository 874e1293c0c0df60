/-
  data.Decode.
-/
import Derived.Test.YtpehbpjgbjlbjaaDatT
namespace Go.Proofs.Ytpehbpjgbjlbjaa
open Go.RowKit

theorem results_row_tmp {P : Program} {fn : Func} {p u : Tmp} {ty : TypeId} (h : fn.results = #[.cell p ty, .tmp u]) (tmps : Array Value) (w : World) (g : Nat) (t : TypeId) (cs : Array Value) (fr : Nat × Nat) (d : TypeDesc)
    (hp : tmps.getD p undef = .pointer (some ⟨g, 0, none⟩)) (hg : w.heap[g]? = some (.cells cs t fr))
    (hu : P.underlying ty = some d) (hd : (match d with | .struct _ | .array _ _ => true | _ => false) = true) (hi : (P.info? ty).map (·.size) = some cs.size) (v : Value) (hv : tmps.getD u undef = v) :
    (results fn tmps).run P w = .ok (.tuple #[.agg cs, v]) w := by
  subst hv
  have hp' : tmps[p]?.getD undef = .pointer (some ⟨g, 0, none⟩) := by simpa using hp
  simp [results, h, hp', asAddr, run_loadVar_row w g t ty cs fr d hg hu hd hi]

set_option maxHeartbeats 1000000 in
theorem decode_ok (A : Option Addr) (c : Nat) (l : List Int) (w : World) (hr : Rd w w.heap.size A 64 l) :
    Calls Try.prog 8 #[.slice A 64 c] w fun e w' => e = .returned (.tuple #[datV (joinD (wordsB l)), .int .i64 0]) ∧ Below w.heap.size w w' := by
  have hz := hr.len
  have hby := hr.byt
  have HL := Lib.hid hz
  clear hz
  go_enter Try.func8, Try.ntmps8
  go_wp2_with fail
  refine (read_any A 64 c l _ ((hr.alloc_ (Nat.le_refl _) _).more (by simp)) (by omega)).mono ?_
  rintro e w1 ⟨r, rfl, hrl, hrd, hb1⟩
  have z0 := hb1.size
  simp only [World.size_alloc] at hrl z0
  have T := take_any r l w1 hrd HL.out
  unfold nextV at T
  go_wp2_with fail
  refine T.mono ?_
  rintro e w2 ⟨rfl, hb2⟩
  have b0 : Blk w2 w.heap.size (datC ⟨0, 0, 0, 0, 0, 0, 0, 0, 0⟩) 26 := ⟨(hb2.block _ (by omega) (by omega)).trans ((hb1.block w.heap.size (by simp)).trans (heap_alloc_new _ _))⟩
  have hB2 : Below w.heap.size w w2 := (((Below.refl _ w).alloc (Nat.le_refl _) _).trans (hb1.mono (by simp))).trans (hb2.below w.heap.size (by omega) (by omega))
  go_wp2_with fail
  refine (join_any _ (wordsB_len l) (wordsB_bd hby) _).mono ?_
  rintro e w3 ⟨rfl, hb3⟩
  have b1 := b0.below hb3 b0.lt
  have hone := Lib.hid (dat_one (joinD (wordsB l)))
  unfold datV
  go_wp2_with (refine wpList_store_blk rfl 26 (.tmp 2) (.tmp 18) rfl w.heap.size _ (datC (joinD (wordsB l))) 26 rfl rfl b1 rfl dat_info hone.out ?_; intro w9 hw9 hn9)
  refine bodyPost_ret (v := .tuple #[datV (joinD (wordsB l)), .int .i64 0]) (results_row_tmp rfl _ _ w.heap.size 26 (datC (joinD (wordsB l))) (0, 0) _ rfl hw9.blk Try.underlying26 rfl dat_info _ rfl) rfl ?_
  exact ⟨rfl, (hB2.trans (hb3.mono hB2.size)).trans (hn9.below w.heap.size (Nat.le_refl _) (Nat.le_trans hB2.size hb3.size))⟩

def dat0 : Dat := ⟨0, 0, 0, 0, 0, 0, 0, 0, 0⟩
set_option maxHeartbeats 1000000 in
theorem decode_short (A : Option Addr) (n c : Nat) (w : World) (h : n < 64) :
    Calls Try.prog 8 #[.slice A n c] w fun e w' => e = .returned (.tuple #[datV dat0, .int .i64 7]) ∧ Below w.heap.size w w' := by
  have h' : (n : Int) < 64 := by omega
  go_enter Try.func8, Try.ntmps8
  go_wp2
  refine bodyPost_ret (v := .tuple #[datV dat0, .int .i64 7]) (by simp [results, Try.f8, go_sem, datV, datC, dat0]) rfl ?_
  exact ⟨rfl, (Below.refl _ w).alloc (Nat.le_refl _) _⟩
set_option maxHeartbeats 1000000 in
theorem decode_long (A : Option Addr) (n c : Nat) (w : World) (h : 64 < n) :
    Calls Try.prog 8 #[.slice A n c] w fun e w' => e = .returned (.tuple #[datV dat0, .int .i64 3]) ∧ Below w.heap.size w w' := by
  have h' : (64 : Int) < n := by omega
  have h'' : ¬ (n : Int) < 64 := by omega
  go_enter Try.func8, Try.ntmps8
  go_wp2
  refine bodyPost_ret (v := .tuple #[datV dat0, .int .i64 3]) (by simp [results, Try.f8, go_sem, datV, datC, dat0]) rfl ?_
  exact ⟨rfl, (Below.refl _ w).alloc (Nat.le_refl _) _⟩
end Go.Proofs.Ytpehbpjgbjlbjaa

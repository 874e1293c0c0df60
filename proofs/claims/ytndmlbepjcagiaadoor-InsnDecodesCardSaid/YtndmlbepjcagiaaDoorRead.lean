/-
  octet.Read, and the reader that it makes.
-/
import Derived.Test.YtndmlbepjcagiaaDoorNum
namespace Go.Proofs.YtndmlbepjcagiaaDoor
open Go.RowKit

/-- At block r lies a reader that has l before it, and the fault f. -/
structure Rdr (w : World) (r : Nat) (l : List Int) (f : Int) : Prop where
  blk : ∃ A c, l.length ≤ c ∧ c ≤ 1000000 ∧ w.heap[r]? = some (.cells #[.slice A l.length c, .int .i64 f] 96 (0, 0)) ∧ Rd w r A l.length l
theorem Rdr.lt {w : World} {r : Nat} {l : List Int} {f : Int} (h : Rdr w r l f) : r < w.heap.size := by
  obtain ⟨A, c, _, _, hb, _⟩ := h.blk
  rcases Nat.lt_or_ge r w.heap.size with hlt | hge
  · exact hlt
  · rw [Array.getElem?_eq_none hge] at hb; cases hb
theorem Rdr.below {w w' : World} {B r : Nat} {l : List Int} {f : Int} (h : Rdr w r l f) (hb : Below B w w') (hr : r < B) : Rdr w' r l f := by
  obtain ⟨A, c, h1, h2, hk, hd⟩ := h.blk
  exact ⟨A, c, h1, h2, (hb.block r hr).trans hk, hd.below (hb.mono (by omega))⟩
theorem Rdr.drew {w : World} {r : Nat} {l : List Int} {f : Int} (h : Rdr w r l f) : Rdr w.drew r l f := by
  obtain ⟨A, c, h1, h2, hk, hd⟩ := h.blk
  exact ⟨A, c, h1, h2, hk, hd.drew⟩
theorem Rdr.byt {w : World} {r : Nat} {l : List Int} {f : Int} (h : Rdr w r l f) : Byt l := by
  obtain ⟨A, c, _, _, _, hd⟩ := h.blk
  exact hd.byt

theorem read_copied (n : Nat) (l : List Int) : (List.replicate n (0 : Int)).take 0 ++ l ++ (List.replicate n 0).drop (0 + n) = l := by
  simp

set_option maxHeartbeats 400000 in
theorem read_any (A : Option Addr) (n c : Nat) (l : List Int) (w : World) (hr : Rd w w.heap.size A n l) (hn : n ≤ 1000000) :
    Calls Tryd.prog 40 #[.slice A n c] w fun e w' =>
      ∃ r, e = .returned (.pointer (some ⟨r, 0, none⟩)) ∧ w.heap.size ≤ r ∧ Rdr w' r l 0 ∧ Below w.heap.size w w' := by
  go_enter Tryd.func40, Tryd.ntmps40
  go_wp2_with (first
    | (at_make; refine wpList_make_bytes rfl (.tmp 5) (.tmp 5) rfl _ _ n rfl rfl rfl rfl (by omega) ?_; intro w1 hw1 hb1)
    | (with_reducible refine wpList_copy_bytes rfl (.tmp 7) (.tmp 8) rfl w.heap.size 0 A n n n c rfl rfl _ l hw1 w.heap.size (hr.below hb1) (Nat.le_refl _) (by simp) w.heap.size w hb1 (Nat.le_refl _) ?_; intro w2 hw2 hb2))
  go_ret
  have hl := hr.len
  rw [read_copied] at hw2
  have hlt := hw2.lt
  exact ⟨w2.heap.size, rfl, hb2.size, ⟨some ⟨w.heap.size, 0, none⟩, n, by omega, hn, by rw [hl]; exact heap_alloc_new _ _, ((hw2.alloc _).rd).more hlt⟩, hb2.alloc hb2.size _⟩

/-- What is seen, what is left, and the fault, when n bytes are asked for (n not below 0). -/
def seen (l : List Int) (f : Int) (n : Nat) : List Int := if f = 0 ∧ n ≤ l.length then l.take n else []
def left (l : List Int) (f : Int) (n : Nat) : List Int := if f = 0 ∧ n ≤ l.length then l.drop n else l
def falt (l : List Int) (f : Int) (n : Nat) : Int := if f = 0 then (if n ≤ l.length then 0 else 7) else f

theorem num_below {w w3 : World} {o1 o2 : Obj} (hb : But (w.heap.size + 1) ((w.alloc o1).alloc o2) w3) : Below w.heap.size w w3 :=
  (((Below.refl _ _).alloc (Nat.le_refl _) o1).alloc (by simp) o2).trans (hb.below w.heap.size (by omega) (by simp; omega))
theorem two_below (w : World) (o1 o2 : Obj) : Below w.heap.size w ((w.alloc o1).alloc o2) := ((Below.refl _ _).alloc (Nat.le_refl _) o1).alloc (by simp) o2
theorem one_new (w : World) (v u : Value) (t t' : TypeId) : One ((w.alloc (.cells #[v] t)).alloc (.cells #[u] t')) w.heap.size v t ∧ One ((w.alloc (.cells #[v] t)).alloc (.cells #[u] t')) (w.heap.size + 1) u t' := by
  refine ⟨⟨(Below.heap_alloc _ _ _ (by simp)).trans (heap_alloc_new w _)⟩, ⟨?_⟩⟩
  have := heap_alloc_new (w.alloc (.cells #[v] t)) (.cells #[u] t')
  simpa using this

theorem add_at (b off k : Nat) : (⟨b, off, none⟩ : Addr).add k = ⟨b, off + k, none⟩ := by
  unfold Addr.add
  by_cases h0 : k = 0 <;> simp [h0]
theorem cut_rd {w : World} {r n k : Nat} {A : Option Addr} {l : List Int} (hd : Rd w r A n l) (hk : k ≤ n) : Rd w r (Option.map (fun x => x.add k) A) (n - k) (l.drop k) := by
  rcases Nat.lt_or_ge k n with h | h
  · obtain ⟨b, off, rfl, hr⟩ := hd.cut h
    simpa [add_at] using hr
  · obtain rfl : k = n := by omega
    rw [List.drop_eq_nil_of_le (by rw [hd.len]; omega), Nat.sub_self]
    exact Rd.none_
theorem cut_rd0 {w : World} {r n k : Nat} {A A' : Option Addr} {l : List Int} (hd : Rd w r A n l) (hk : n ≤ k) : Rd w r A' (n - k) (l.drop k) := by
  rw [List.drop_eq_nil_of_le (by rw [hd.len]; omega), show n - k = 0 by omega]
  exact Rd.none_
theorem rdr_moved {w w3 : World} {r : Nat} {A A' : Option Addr} {c c' n : Nat} {l l' : List Int} {f : Int} (hB : Below w.heap.size w w3) (hlt : r < w.heap.size)
    (hk : w.heap[r]? = some (.cells #[.slice A l.length c, .int .i64 f] 96 (0, 0))) (hA : Rd w r A' n l') (hn : n ≤ c') (hc : c' ≤ 1000000) :
    Rdr (w3.setCell ⟨r, 0, none⟩ (.slice A' n c')) r l' f ∧ But r w (w3.setCell ⟨r, 0, none⟩ (.slice A' n c')) := by
  obtain rfl := hA.len
  refine ⟨⟨A', c', hn, hc, ?_, ?_⟩, (But.of_below hB r).setCell (.inl rfl) _⟩
  · have e : w3.heap[r]? = _ := (hB.block r hlt).trans hk
    simp [World.setCell, Array.getElem?_modify, e]
  · exact hA.keep fun p hp => by
      rw [World.cell?_setCell_other _ _ _ _ (fun e => by subst e; simp at hp)]
      exact hB.cell (by omega)
theorem rdr_falt {w w3 : World} {r : Nat} {A : Option Addr} {c : Nat} {l : List Int} {f f' : Int} (hB : Below w.heap.size w w3) (hlt : r < w.heap.size)
    (hk : w.heap[r]? = some (.cells #[.slice A l.length c, .int .i64 f] 96 (0, 0))) (hA : Rd w r A l.length l) (hn : l.length ≤ c) (hc : c ≤ 1000000) :
    Rdr (w3.setCell ⟨r, 1, none⟩ (.int .i64 f')) r l f' ∧ But r w (w3.setCell ⟨r, 1, none⟩ (.int .i64 f')) := by
  refine ⟨⟨A, c, hn, hc, ?_, ?_⟩, (But.of_below hB r).setCell (.inl rfl) _⟩
  · have e : w3.heap[r]? = _ := (hB.block r hlt).trans hk
    simp [World.setCell, Array.getElem?_modify, e]
  · exact hA.keep fun p hp => by
      rw [World.cell?_setCell_other _ _ _ _ (fun e => by subst e; simp at hp)]
      exact hB.cell (by omega)
theorem rdr_same {w w3 : World} {r : Nat} {l : List Int} {f : Int} (hB : Below w.heap.size w w3) (h : Rdr w r l f) : Rdr w3 r l f ∧ But r w w3 := ⟨h.below hB h.lt, But.of_below hB r⟩

set_option maxHeartbeats 1000000 in
theorem number_any (r wd : Nat) (l : List Int) (f : Int) (w : World) (h : Rdr w r l f) (h8 : wd ≤ 8) :
    Calls Tryd.prog 50 #[.pointer (some ⟨r, 0, none⟩), .int .i64 wd] w fun e w' =>
      e = .returned (.int .u64 (numL (seen l f wd))) ∧ Rdr w' r (left l f wd) (falt l f wd) ∧ But r w w' := by
  have hlt := h.lt
  have hby := h.byt
  obtain ⟨A, c, hc1, hc2, hk, hd⟩ := h.blk
  have hc0 : w.cell? ⟨r, 0, none⟩ = some (.slice A l.length c) := by simp [World.cell?, hk]
  have hcf : w.cell? ⟨r, 1, none⟩ = some (.int .i64 f) := by simp [World.cell?, hk]
  have hz0 : w.frozen? ⟨r, 0, none⟩ = false := by simp [World.frozen?, hk]
  have hz1 : w.frozen? ⟨r, 1, none⟩ = false := by simp [World.frozen?, hk]
  by_cases hf : f = 0
  · subst hf
    by_cases hn : wd ≤ l.length
    · go_enter Tryd.func50, Tryd.ntmps50
      go_wp2_with (first
        | (go_at_call 54
           ((with_reducible refine (numcl_any A wd c (l.take wd) w.heap.size (w.heap.size + 1) wd r _ ?s1 (by omega) (Nat.le_refl _) h8 ?s2 ?s3).mono ?_))
           rotate_right
           rintro e w3 ⟨rfl, h3, hb3⟩
           have hB3 := num_below hb3
           have q0 := (hB3.cell (p := ⟨r, 0, none⟩) hlt).trans hc0
           have q1 := (hB3.frozen (p := ⟨r, 0, none⟩) hlt).trans hz0
           have q3 := fun u => (h3.far (p := ⟨r, 0, none⟩) (by simp; omega) u).cell)
        | go_in)
      case s1 => exact (hd.below ((two_below w _ _).mono (by omega))).take hn
      case s2 => exact (one_new w _ _ _ _).1
      case s3 => exact (one_new w _ _ _ _).2
      all_goals go_end0
      all_goals go_wp2
      all_goals go_ret
      · obtain rfl : c = wd := by assumption
        have e1 : seen l 0 c = l.take c := by simp [seen, hn]
        have e2 : left l 0 c = l.drop c := by simp [left, hn]
        have e3 : falt l 0 c = 0 := by simp [falt, hn]
        rw [e1, e2, e3]
        rw [List.take_take, Nat.min_self]
        exact ⟨rfl, rdr_moved hB3 hlt hk (cut_rd0 hd (by omega)) (by omega) (by omega)⟩
      · have e1 : seen l 0 wd = l.take wd := by simp [seen, hn]
        have e2 : left l 0 wd = l.drop wd := by simp [left, hn]
        have e3 : falt l 0 wd = 0 := by simp [falt, hn]
        rw [e1, e2, e3]
        rw [List.take_take, Nat.min_self]
        exact ⟨rfl, rdr_moved hB3 hlt hk (cut_rd hd hn) (by omega) (by omega)⟩
    · have e1 : seen l 0 wd = [] := by simp [seen, hn]
      have e2 : left l 0 wd = l := by simp [left, hn]
      have e3 : falt l 0 wd = 7 := by simp [falt, hn]
      rw [e1, e2, e3]
      clear e1 e2 e3
      have hn' : (l.length : Int) < wd := by omega
      go_enter Tryd.func50, Tryd.ntmps50
      go_wp2_with (go_in)
      go_end0
      go_wp2
      go_ret
      have q := rdr_falt (f' := 7) (Below.refl w.heap.size w) hlt hk hd hc1 hc2
      exact ⟨rfl, q.1.below (two_below _ _ _) q.1.lt, q.2.trans (But.of_below (two_below _ _ _) r)⟩
  · have e1 : seen l f wd = [] := by simp [seen, hf]
    have e2 : left l f wd = l := by simp [left, hf]
    have e3 : falt l f wd = f := by simp [falt, hf]
    rw [e1, e2, e3]
    clear e1 e2 e3
    have hf' : (f == 0) = false := by simpa using hf
    have hf'' : (f != 0) = true := by simpa using hf
    go_enter Tryd.func50, Tryd.ntmps50
    go_wp2_with (go_in)
    refine bodyPost_ret (results_none rfl _ _ _) rfl ?_
    go_wp2
    go_ret
    exact ⟨rfl, rdr_same (two_below w _ _) h⟩
end Go.Proofs.YtndmlbepjcagiaaDoor

/-
  The reference's number, walked.
-/
import Derived.Test.YtceeinljakcdkaaDoorAsmSw
namespace Go.Proofs.YtceeinljakcdkaaDoor
open Go.RowKit Go.Shelf

def NumR (d : List UInt8) (most : Nat) (w : World) (e : Ending) (w' : World) : Prop := ∃ (x : Nat) (ok : Bool), e = .returned (.tuple #[.int .u32 x, .bool ok]) ∧ w' = w ∧ numL (most + 1) d = if ok then some x else none
theorem NumR.no {d : List UInt8} {most : Nat} {w : World} (hm : most < 4294967296) (h : ¬ goodN d) : NumR d most w (.returned (.tuple #[.int .u32 0, .bool false])) w := ⟨0, false, rfl, rfl, by rw [num_bad (by omega) (by omega) h]; rfl⟩
theorem take_snoc {l : List UInt8} {k : Nat} (h : k < l.length) : l.take (k + 1) = l.take k ++ [l[k]] := by rw [List.take_add_one, List.getElem?_eq_getElem h]; rfl
set_option maxRecDepth 100000 in
set_option maxHeartbeats 8000000 in
theorem number_any8 (d : List UInt8) (most : Nat) (hm : most < 4294967296) (w : World) :
    Calls Tryd.prog 46 #[.string (bs d), .int .u64 most] w fun e w' => NumR d most w e w' := by
  have hsz := bs_size d
  have hno := Lib.hid (fun (h : ¬ goodN d) => NumR.no (w := w) hm h)
  have HM := Lib.hid hm
  clear hm
  by_cases h0 : d.length < 1
  · have h0' : ((bs d).size : Int) < 1 := by rw [hsz]; omega
    have hf := hno.out (fun h => by have := h.1; omega)
    clear hno hsz h0 HM
    go_enter Tryd.func46, Tryd.ntmps46
    go_wp2
    go_ret2
    exact hf
  · have h0' : ¬ ((bs d).size : Int) < 1 := by rw [hsz]; omega
    by_cases h1 : 10 < d.length
    · have h1' : (10 : Int) < ((bs d).size : Int) := by rw [hsz]; omega
      have hf := hno.out (fun h => by have := h.2.1; omega)
      clear hno hsz h0 HM h1
      go_enter Tryd.func46, Tryd.ntmps46
      go_wp2
      go_ret2
      exact hf
    · have h1' : ¬ (10 : Int) < ((bs d).size : Int) := by rw [hsz]; omega
      have hix : ∀ w : World, (Instr.index 9 (.string (bs d)) (.int .i64 0)).run Tryd.prog w = .ok (.int .u8 ((d[0]'(by omega)).toNat : Int)) w := fun w => idx_bs (l := d) (i := 0) (by omega) .i64 w
      obtain ⟨c0, hc0⟩ : ∃ c0 : UInt8, d[0]'(by omega) = c0 := ⟨_, rfl⟩
      have hh : d.head? = some c0 := by rw [← hc0, List.head?_eq_getElem?, List.getElem?_eq_getElem]
      rw [hc0] at hix
      by_cases h2 : 1 < d.length ∧ c0 = 48
      · obtain ⟨h2, rfl⟩ := h2
        have h2' : (1 : Int) < ((bs d).size : Int) := by rw [hsz]; omega
        have hf := hno.out (fun h => h.2.2.1 h2 hh)
        have h48 : (((48 : UInt8).toNat : Nat) : Int) = 48 := rfl
        rw [h48] at hix
        clear hno hsz h0 HM h1 hh hc0 h48 h2
        go_enter Tryd.func46, Tryd.ntmps46
        go_wp2
        go_ret2
        exact hf
      · have hlead : 1 < d.length → d.head? ≠ some 48 := fun h e => h2 ⟨h, by rw [hh] at e; exact Option.some.inj e⟩
        have hgt : (1 < d.length ∧ ¬ ((c0.toNat : Nat) : Int) = 48) ∨ ¬ 1 < d.length := by
          by_cases h : 1 < d.length
          · refine .inl ⟨h, fun e => h2 ⟨h, UInt8.toNat_inj.1 ?_⟩⟩
            show c0.toNat = 48
            omega
          · exact .inr h
        have hloop : ∀ (n6 n7 t9 t10 t11 t12 t13 t14 t15 t16 t17 t18 t19 t20 t21 t22 t23 t24 t25 : Value), True := fun _ _ _ _ _ _ _ _ _ _ _ _ _ _ _ _ _ _ _ => trivial
        clear hloop
        generalize ((c0.toNat : Nat) : Int) = cz at hix hgt
        have HL := Lib.hid hlead
        have HD := Lib.hid (show 1 ≤ d.length ∧ d.length ≤ 10 from by omega)
        clear hlead hh hc0 h0 h1 h2
        have hsl : ((bs d).size : Int) = d.length := by rw [hsz]
        have HZ := Lib.hid hsl
        have HS := Lib.hid hsz
        have hfin : ∀ P : Prop, P → P := fun _ h => h
        clear hfin
        rcases hgt with ⟨hg, hgz⟩ | hg
        · have hg' : (1 : Int) < ((bs d).size : Int) := by rw [hsz]; omega
          have hgb : (cz == 48) = false := by simpa using hgz
          clear hg hgz hsz hsl
          go_enter Tryd.func46, Tryd.ntmps46
          go_wp2
          go_loopw [6, 28] (fun n i wr => ∃ (k v : Nat), wr = w ∧ k ≤ d.length ∧ i = .int .i64 k ∧ n = .int .u64 v ∧ v = valL (d.take k) ∧ ∀ c ∈ d.take k, isD c) (fun _ i _ => d.length - (intOf i).toNat)
          case atStart => exact ⟨0, 0, rfl, Nat.zero_le _, rfl, rfl, rfl, fun c hc => by simp at hc⟩
          case round =>
            obtain ⟨k, v, rfl, hk, rfl, rfl, hv, hall⟩ := hrel
            by_cases hlt : k < d.length
            · have hlt' : (k : Int) < ((bs d).size : Int) := by have := HZ.out; omega
              have hix2 := idx_bs hlt .i64
              have htk := take_snoc hlt
              have hmem : d[k] ∈ d := List.getElem_mem hlt
              generalize d[k] = c at hix2 htk hmem
              obtain ⟨cn, hcn⟩ : ∃ n, c.toNat = n := ⟨_, rfl⟩
              rw [hcn] at hix2
              by_cases hc1 : cn < 48
              · have hc1' : (cn : Int) < 48 := by omega
                have hf := hno.out (fun h => by have := (h.2.2.2 c hmem).1; omega)
                clear hc1 hv hall htk hmem hcn hix hno HL HD HM HZ HS
                go_wp2
                go_ret2
                exact hf
              · have hc1' : ¬ (cn : Int) < 48 := by omega
                by_cases hc2 : 57 < cn
                · have hc2' : (57 : Int) < cn := by omega
                  have hf := hno.out (fun h => by have := (h.2.2.2 c hmem).2; omega)
                  clear hc1 hc2 hv hall htk hmem hcn hix hno HL HD HM HZ HS
                  go_wp2
                  go_ret2
                  exact hf
                · have hc2' : ¬ (57 : Int) < cn := by omega
                  have hvb : v < 10000000000 := by rw [hv]; exact val_ten _ hall (by have := HD.out; simp; omega)
                  obtain ⟨v10, e10⟩ : ∃ n : Nat, n = 10 * v := ⟨_, rfl⟩
                  obtain ⟨dd, edd⟩ : ∃ n : Nat, n = cn - 48 := ⟨_, rfl⟩
                  obtain ⟨vn, evn⟩ : ∃ n : Nat, n = v10 + dd := ⟨_, rfl⟩
                  have hw1 : IntKind.u64.wrap (10 * (v : Int)) = (v10 : Int) := by rw [IntKind.wrap_u64]; omega
                  have hw2 : IntKind.u8.wrap ((cn : Int) - 48) = (dd : Int) := by rw [IntKind.wrap_u8]; omega
                  have hw3 : IntKind.u64.wrap (dd : Int) = (dd : Int) := by rw [IntKind.wrap_u64]; omega
                  have hw4 : IntKind.u64.wrap ((v10 : Int) + (dd : Int)) = (vn : Int) := by rw [IntKind.wrap_u64]; omega
                  have hN := Lib.hid (show vn = valL (d.take (k + 1)) from by rw [htk, val_snoc, ← hv, hcn]; omega)
                  have hA := Lib.hid (show ∀ c ∈ d.take (k + 1), isD c from by
                    rw [htk]
                    intro c' hc'
                    rcases List.mem_append.1 hc' with h | h
                    · exact hall c' h
                    · rw [List.mem_singleton] at h
                      subst h
                      exact ⟨by omega, by omega⟩)
                  clear hvb e10 edd evn hc1 hc2 hv hall htk hmem hcn
                  go_wp2
                  go_roundw
                  case rel => exact ⟨k + 1, vn, trivial, by omega, by go_num, rfl, hN.out, hA.out⟩
                  case measure => simp [intOf]; omega
            · obtain rfl : k = d.length := by omega
              have hlt' : ¬ (d.length : Int) < ((bs d).size : Int) := by have := HZ.out; omega
              rw [List.take_length] at hv hall
              have hg9 : goodN d := ⟨HD.out.1, HD.out.2, HL.out, hall⟩
              have hnum := num_good (w := most + 1) (by omega) (by have := HM.out; omega) hg9
              rw [← hv] at hnum
              have hvb : v < 10000000000 := by rw [hv]; exact val_ten _ hall HD.out.2
              obtain ⟨x, ex⟩ : ∃ n : Nat, n = v % 4294967296 := ⟨_, rfl⟩
              have hw1 : IntKind.u32.wrap (v : Int) = (x : Int) := by rw [IntKind.wrap_u32]; omega
              by_cases hvm : v ≤ most
              · have hvm' : (v : Int) ≤ (most : Int) := by omega
                have hxv : x = v := by have := HM.out; omega
                rw [if_pos (by omega)] at hnum
                subst hxv
                have hf : NumR d most wr (.returned (.tuple #[.int .u32 (x : Int), .bool true])) wr := ⟨x, true, rfl, rfl, hnum⟩
                clear hnum hg9 hv hall hvb ex hvm hno HL HD HM
                go_wp2
                go_ret2
                exact hf
              · have hvm' : ¬ (v : Int) ≤ (most : Int) := by omega
                rw [if_neg (by omega)] at hnum
                have hf : NumR d most wr (.returned (.tuple #[.int .u32 (x : Int), .bool false])) wr := ⟨x, false, rfl, rfl, hnum⟩
                clear hnum hg9 hv hall hvb ex hvm hno HL HD HM
                go_wp2
                go_ret2
                exact hf
        · have hg' : ¬ (1 : Int) < ((bs d).size : Int) := by rw [hsz]; omega
          clear hg hsz hsl
          go_enter Tryd.func46, Tryd.ntmps46
          go_wp2
          go_loopw [6, 28] (fun n i wr => ∃ (k v : Nat), wr = w ∧ k ≤ d.length ∧ i = .int .i64 k ∧ n = .int .u64 v ∧ v = valL (d.take k) ∧ ∀ c ∈ d.take k, isD c) (fun _ i _ => d.length - (intOf i).toNat)
          case atStart => exact ⟨0, 0, rfl, Nat.zero_le _, rfl, rfl, rfl, fun c hc => by simp at hc⟩
          case round =>
            obtain ⟨k, v, rfl, hk, rfl, rfl, hv, hall⟩ := hrel
            by_cases hlt : k < d.length
            · have hlt' : (k : Int) < ((bs d).size : Int) := by have := HZ.out; omega
              have hix2 := idx_bs hlt .i64
              have htk := take_snoc hlt
              have hmem : d[k] ∈ d := List.getElem_mem hlt
              generalize d[k] = c at hix2 htk hmem
              obtain ⟨cn, hcn⟩ : ∃ n, c.toNat = n := ⟨_, rfl⟩
              rw [hcn] at hix2
              by_cases hc1 : cn < 48
              · have hc1' : (cn : Int) < 48 := by omega
                have hf := hno.out (fun h => by have := (h.2.2.2 c hmem).1; omega)
                clear hc1 hv hall htk hmem hcn hix hno HL HD HM HZ HS
                go_wp2
                go_ret2
                exact hf
              · have hc1' : ¬ (cn : Int) < 48 := by omega
                by_cases hc2 : 57 < cn
                · have hc2' : (57 : Int) < cn := by omega
                  have hf := hno.out (fun h => by have := (h.2.2.2 c hmem).2; omega)
                  clear hc1 hc2 hv hall htk hmem hcn hix hno HL HD HM HZ HS
                  go_wp2
                  go_ret2
                  exact hf
                · have hc2' : ¬ (57 : Int) < cn := by omega
                  have hvb : v < 10000000000 := by rw [hv]; exact val_ten _ hall (by have := HD.out; simp; omega)
                  obtain ⟨v10, e10⟩ : ∃ n : Nat, n = 10 * v := ⟨_, rfl⟩
                  obtain ⟨dd, edd⟩ : ∃ n : Nat, n = cn - 48 := ⟨_, rfl⟩
                  obtain ⟨vn, evn⟩ : ∃ n : Nat, n = v10 + dd := ⟨_, rfl⟩
                  have hw1 : IntKind.u64.wrap (10 * (v : Int)) = (v10 : Int) := by rw [IntKind.wrap_u64]; omega
                  have hw2 : IntKind.u8.wrap ((cn : Int) - 48) = (dd : Int) := by rw [IntKind.wrap_u8]; omega
                  have hw3 : IntKind.u64.wrap (dd : Int) = (dd : Int) := by rw [IntKind.wrap_u64]; omega
                  have hw4 : IntKind.u64.wrap ((v10 : Int) + (dd : Int)) = (vn : Int) := by rw [IntKind.wrap_u64]; omega
                  have hN := Lib.hid (show vn = valL (d.take (k + 1)) from by rw [htk, val_snoc, ← hv, hcn]; omega)
                  have hA := Lib.hid (show ∀ c ∈ d.take (k + 1), isD c from by
                    rw [htk]
                    intro c' hc'
                    rcases List.mem_append.1 hc' with h | h
                    · exact hall c' h
                    · rw [List.mem_singleton] at h
                      subst h
                      exact ⟨by omega, by omega⟩)
                  clear hvb e10 edd evn hc1 hc2 hv hall htk hmem hcn
                  go_wp2
                  go_roundw
                  case rel => exact ⟨k + 1, vn, trivial, by omega, by go_num, rfl, hN.out, hA.out⟩
                  case measure => simp [intOf]; omega
            · obtain rfl : k = d.length := by omega
              have hlt' : ¬ (d.length : Int) < ((bs d).size : Int) := by have := HZ.out; omega
              rw [List.take_length] at hv hall
              have hg9 : goodN d := ⟨HD.out.1, HD.out.2, HL.out, hall⟩
              have hnum := num_good (w := most + 1) (by omega) (by have := HM.out; omega) hg9
              rw [← hv] at hnum
              have hvb : v < 10000000000 := by rw [hv]; exact val_ten _ hall HD.out.2
              obtain ⟨x, ex⟩ : ∃ n : Nat, n = v % 4294967296 := ⟨_, rfl⟩
              have hw1 : IntKind.u32.wrap (v : Int) = (x : Int) := by rw [IntKind.wrap_u32]; omega
              by_cases hvm : v ≤ most
              · have hvm' : (v : Int) ≤ (most : Int) := by omega
                have hxv : x = v := by have := HM.out; omega
                rw [if_pos (by omega)] at hnum
                subst hxv
                have hf : NumR d most wr (.returned (.tuple #[.int .u32 (x : Int), .bool true])) wr := ⟨x, true, rfl, rfl, hnum⟩
                clear hnum hg9 hv hall hvb ex hvm hno HL HD HM
                go_wp2
                go_ret2
                exact hf
              · have hvm' : ¬ (v : Int) ≤ (most : Int) := by omega
                rw [if_neg (by omega)] at hnum
                have hf : NumR d most wr (.returned (.tuple #[.int .u32 (x : Int), .bool false])) wr := ⟨x, false, rfl, rfl, hnum⟩
                clear hnum hg9 hv hall hvb ex hvm hno HL HD HM
                go_wp2
                go_ret2
                exact hf
end Go.Proofs.YtceeinljakcdkaaDoor

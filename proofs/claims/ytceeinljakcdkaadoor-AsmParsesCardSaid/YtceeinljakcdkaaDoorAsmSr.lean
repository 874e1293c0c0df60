/-
  The reference's Parse, walked.
-/
import Derived.Test.YtceeinljakcdkaaDoorAsmSo
import Derived.Test.YtceeinljakcdkaaDoorAsmPar
namespace Go.Proofs.YtceeinljakcdkaaDoor
open Go.RowKit Go.Shelf

theorem suf_snoc (y : List UInt8) : Lib.hasSuffix (y ++ [10]) [10] = true := by
  rw [Lib.hasSuffix, List.isSuffixOf_iff_suffix]
  exact ⟨y, rfl⟩
theorem trim_snoc (y : List UInt8) : Lib.trimSuffix (y ++ [10]) [10] = y := by
  rw [Lib.trimSuffix, if_pos (suf_snoc y)]
  simp
theorem suf_no {y : List UInt8} (h : ∀ c ∈ y, c ≠ 10) : Lib.hasSuffix y [10] = false := by
  cases hs : Lib.hasSuffix y [10] with
  | false => rfl
  | true =>
    rw [Lib.hasSuffix, List.isSuffixOf_iff_suffix] at hs
    obtain ⟨z, hz⟩ := hs
    exact absurd rfl (h 10 (by rw [← hz]; simp))
/-- What is left of a text, by its first line feed. -/
theorem cut_feed {l : List UInt8} {p e : Nat} (hpe : p ≤ e) (he : e < l.length) (h : ∀ c ∈ (l.take e).drop p, c ≠ 10) (h10 : l[e] = 10) : linesL (l.drop p) = ((l.take e).drop p ++ [10]) :: linesL (l.drop (e + 1)) := by
  have e1 : l.drop p = (l.take e).drop p ++ 10 :: l.drop (e + 1) := by
    conv => lhs; rw [← List.take_append_drop e l]
    rw [List.drop_append_of_le_length (by simp; omega), ← List.getElem_cons_drop (h := he), h10]
  rw [e1]
  exact linesL_first _ _ h
theorem cut_end {l : List UInt8} {p : Nat} (hp : p < l.length) (h : ∀ c ∈ (l.take l.length).drop p, c ≠ 10) : linesL (l.drop p) = [l.drop p] := by
  rw [List.take_length] at h
  exact linesL_last _ h (by intro e; have := congrArg List.length e; simp at this; omega)
theorem own_slice8 {w : World} {base e size n : Nat} {v : Value} {xs : List Value} (h : w.ownsRow base e size v n xs) : ∃ A c, v = .slice A n c := by
  rcases h.2 with ⟨hv, h0⟩ | ⟨g, cap, cur, hv, _⟩
  · exact ⟨none, 0, by rw [hv, h0]⟩
  · exact ⟨_, _, hv⟩
theorem celA_one (acc : List Ins) (q : Ins) : celA (acc ++ [q]) = celA acc ++ celI q := by simp [celA]
set_option maxRecDepth 100000 in
set_option maxHeartbeats 16000000 in
theorem rparse_any (l : List UInt8) (w : World) :
    Calls Tryd.prog 16 #[.string (bs l)] w fun e w' => ∃ v, e = .returned (.tuple #[v, .int .i64 ((parseB l).2.1 : Nat), .int .i64 (parseB l).2.2]) ∧ w'.ownsRow w.heap.size 32 4 v (parseB l).1.length (celA (parseB l).1) ∧ Below w.heap.size w w' := by
  have hsz := bs_size l
  by_cases hbig : 8192 < l.length
  · have hbig' : (8192 : Int) < ((bs l).size : Int) := by rw [hsz]; omega
    have hp : parseB l = ([], 0, 3) := by unfold parseB; rw [if_pos hbig]
    rw [hp]
    clear hbig hsz hp
    go_enter Tryd.func16, Tryd.ntmps16
    go_wp2
    exact bodyPost_ret (v := .tuple #[.slice none 0 0, .int .i64 0, .int .i64 3]) (by simp [results, Tryd.f16, go_sem]) rfl ⟨_, rfl, World.ownsRow_nil _ _ _ _, Below.refl _ _⟩
  have hbig' : ¬ (8192 : Int) < ((bs l).size : Int) := by rw [hsz]; omega
  have hl : l.length ≤ 8192 := by omega
  obtain ⟨i0, hi, hz0, hz1, hz2⟩ := info_parts insn_info
  obtain ⟨PB, hPB⟩ : ∃ PB, parseB l = PB := ⟨_, rfl⟩
  have HSZ := Lib.hid hsz
  have HL := Lib.hid hl
  rw [hPB]
  have HPB := Lib.hid hPB
  clear hbig hsz hPB hl
  go_enter Tryd.func16, Tryd.ntmps16
  go_wp2
  go_loopw [5, 6] (fun v a wr => ∃ (p : Nat) (xs : List (List UInt8)) (acc : List Ins), p ≤ l.length ∧ a = .int .i64 p ∧ linesL l = xs ++ linesL (l.drop p) ∧ xs.flatten.length = p ∧ runB xs [] = some acc ∧ acc.length ≤ 255 ∧ (∃ A c, v = .slice A acc.length c) ∧ wr.ownsRow w.heap.size 32 4 v acc.length (celA acc) ∧ Below w.heap.size w wr) (fun _ a _ => l.length - (intOf a).toNat)
  case atStart => exact ⟨0, [], [], Nat.zero_le _, rfl, by simp, rfl, rfl, Nat.zero_le _, ⟨none, 0, rfl⟩, World.ownsRow_nil _ _ _ _, Below.refl _ _⟩
  case round =>
    obtain ⟨p, xs, acc, hp, rfl, hli, hfl, hrun, hacc, ⟨A, c, rfl⟩, hown, hb⟩ := hrel
    by_cases hlt : p < l.length
    · have hlt' : (p : Int) < ((bs l).size : Int) := by have := HSZ.out; omega
      go_wp2
      go_loopw [7] (fun e w9 => ∃ k : Nat, w9 = wr ∧ p ≤ k ∧ k ≤ l.length ∧ e = .int .i64 k ∧ ∀ c ∈ (l.take k).drop p, c ≠ 10) (fun e _ => l.length - (intOf e).toNat)
      case atStart => exact ⟨p, rfl, Nat.le_refl _, hp, rfl, fun c hc => by rw [List.drop_eq_nil_iff.2 (by simp; omega)] at hc; cases hc⟩
      case round =>
        obtain ⟨k, rfl, hpk, hkl, rfl, hno⟩ := hrel
        by_cases hkl2 : k < l.length
        · have hk' : (k : Int) < ((bs l).size : Int) := by have := HSZ.out; omega
          have hix := idx_bs hkl2 .i64
          have htk := take_snoc hkl2
          obtain ⟨ch, hch⟩ : ∃ ch : UInt8, l[k] = ch := ⟨_, rfl⟩
          rw [hch] at hix htk
          by_cases h10 : ch = 10
          · subst h10
            have h10' : (((10 : UInt8).toNat : Nat) : Int) = 10 := rfl
            rw [h10'] at hix
            have hcut := cut_feed hpk hkl2 hno hch
            rw [hcut] at hli
            have hex := ext_bs l p k
            have hyl : ((l.take k).drop p).length = k - p := by simp; omega
            obtain ⟨y, hy⟩ : ∃ y, (l.take k).drop p = y := ⟨_, rfl⟩
            rw [hy] at hex hli hcut hyl
            have hone := fun w => rone_any y (by have := HL.out; omega) w
            obtain ⟨o, ho⟩ : ∃ o, oneB y = o := ⟨_, rfl⟩
            rw [ho] at hone
            have hpk' : (p : Int) ≤ (k : Int) := by omega
            have hkl3 : (k : Int) ≤ ((bs l).size : Int) := by omega
            have hkne : ((k : Int) == ((bs l).size : Int)) = false := by simp; omega
            by_cases h255 : acc.length = 255
            · have h255' : (acc.length : Int) = 255 := by omega
              have hpb := HPB.out
              rw [parse_no HL.out hli hrun (stepB_no3 h255), hfl] at hpb
              subst hpb
              clear hli hcut hno hch htk h10' hy ho hone hex h255 hrun HPB HL HSZ hyl hfl hacc
              go_wp2
              exact bodyPost_ret (v := .tuple #[.slice none 0 0, .int .i64 (p : Int), .int .i64 180]) (by simp [results, Tryd.f16, go_sem]) rfl ⟨_, rfl, World.ownsRow_nil _ _ _ _, hb⟩
            · have h255' : ((acc.length : Int) == 255) = false := by simp; omega
              cases o with
              | none =>
                have hpb := HPB.out
                rw [parse_no HL.out hli hrun (stepB_no2 (by rw [trim_snoc]; exact ho)), hfl] at hpb
                subst hpb
                simp only [oneV, valI, insV, Option.isSome_none] at hone
                clear hli hcut hno hch htk h10' hy ho h255 hrun HPB HL HSZ hyl hfl hacc
                go_wp2_with (go_at_call 18; refine (hone _).mono ?_; rintro e w3 ⟨rfl, hb3⟩; refine Hid.out ?_)
                refine Lib.hid ?_
                go_wp2
                exact bodyPost_ret (v := .tuple #[.slice none 0 0, .int .i64 (p : Int), .int .i64 180]) (by simp [results, Tryd.f16, go_sem]) rfl ⟨_, rfl, World.ownsRow_nil _ _ _ _, (hb.trans (hb3.mono hb.size)).alloc (by have := hb.size; have := hb3.size; omega) _⟩
              | some q =>
                have hst := stepB_ok (suf_snoc y) (by rw [trim_snoc]; exact ho) h255
                have hrun' := runB_snoc hrun hst
                have hfl' : (xs ++ [y ++ [10]]).flatten.length = k + 1 := by
                  rw [List.flatten_append, List.length_append, hfl]
                  simp [hyl]
                  omega
                have hli' : linesL l = (xs ++ [y ++ [10]]) ++ linesL (l.drop (k + 1)) := by rw [hli]; simp
                have G := Lib.hid (And.intro hrun' (And.intro hfl' hli'))
                have HA := Lib.hid (show acc.length ≤ 254 from by omega)
                simp only [oneV, valI, insV, Option.isSome_some] at hone
                clear hli hcut hno hch htk h10' hy ho h255 hrun hyl hfl hacc hst hrun' hfl' hli'
                go_wp2_with (go_at_call 18; refine (hone _).mono ?_; rintro e w3 ⟨rfl, hb3⟩; refine Hid.out ?_)
                refine Lib.hid ?_
                have hB3 := hb.trans (hb3.mono hb.size)
                have ho3 := ownsRow_below hown hb3 (Nat.le_refl _)
                have hnew : ∀ j u, (celI q)[j]? = some u → ((w3.alloc (.cells (celI q).toArray 32)).alloc (.cells (celI q).toArray 32)).cell? ((⟨w3.heap.size + 1, 0, none⟩ : Addr).add j) = some u := by
                  have := news_new (w3.alloc (.cells (celI q).toArray 32)) (celI q).toArray 32
                  simpa using this
                clear hone hb3 hown hb
                go_wp2_with (at_builtin; refine wpList_append_own_at _ rfl (.tmp 51) (.tmp 53) 24 rfl w.heap.size 32 i0 _ 4 8 Tryd.underlying24 hi hz0 hz1 hz2 rfl (by decide) _ acc.length (celA acc) rfl ((ho3.alloc _).alloc _) ⟨w3.heap.size + 1, 0, none⟩ 1 1 (celI q) rfl rfl hnew (cel_one _) (by have := HA.out; simp only [maxLen]; omega) (by have := HA.out; omega) (by have := hB3.size; simp; omega) ?_; intro v' w5 hown' hgrow hnil hat'; refine Hid.out ?_)
                refine Lib.hid ?_
                go_wp2
                go_roundw
                case rel => exact ⟨k + 1, xs ++ [y ++ [10]], acc ++ [q], by omega, by go_num, G.out.2.2, G.out.2.1, G.out.1, by have := HA.out; simp; omega, own_slice8 (by simpa [celA_one] using hown'), by simpa [celA_one] using hown', ((hB3.alloc hB3.size _).alloc (by have := hB3.size; simp; omega) _).grown hgrow (by have := hB3.size; simp; omega) (fun j hj => (ho3.lt j hj).1)⟩
                case measure => simp [intOf]; omega
          · have hc' : ¬ ((ch.toNat : Nat) : Int) = 10 := by
              intro e
              exact h10 (UInt8.toNat_inj.1 (by show ch.toNat = 10; omega))
            have hno' := Lib.hid (show ∀ c ∈ (l.take (k + 1)).drop p, c ≠ 10 from by
              rw [htk, List.drop_append_of_le_length (by simp; omega)]
              intro c hc
              rcases List.mem_append.1 hc with h | h
              · exact hno c h
              · rw [List.mem_singleton] at h
                subst h
                exact h10)
            generalize ((ch.toNat : Nat) : Int) = cc at hix hc'
            clear hno htk hch h10 hrun hli
            go_wp2
            go_roundw
            case rel => exact ⟨k + 1, trivial, by omega, by omega, by go_num, hno'.out⟩
            case measure => simp [intOf]; omega
        · obtain rfl : k = l.length := by omega
          have hk' : ¬ (l.length : Int) < ((bs l).size : Int) := by have := HSZ.out; omega
          have hke : (l.length : Int) = ((bs l).size : Int) := by have := HSZ.out; omega
          rw [cut_end hlt hno] at hli
          have hnn : ∀ c ∈ l.drop p, c ≠ 10 := by rwa [List.take_length] at hno
          have hpb := HPB.out
          rw [parse_no HL.out hli hrun (stepB_no1 (suf_no hnn)), hfl] at hpb
          subst hpb
          clear hli hno hnn hrun HPB HL HSZ hfl hacc hkl2
          go_wp2
          exact bodyPost_ret (v := .tuple #[.slice none 0 0, .int .i64 (p : Int), .int .i64 180]) (by simp [results, Tryd.f16, go_sem]) rfl ⟨_, rfl, World.ownsRow_nil _ _ _ _, hb⟩
    · obtain rfl : p = l.length := by omega
      have hlt' : ¬ (l.length : Int) < ((bs l).size : Int) := by have := HSZ.out; omega
      have hpb := HPB.out
      rw [parse_ok HL.out (acc := acc) (by rw [hli, List.drop_length]; simpa [linesL] using hrun)] at hpb
      subst hpb
      clear hli hrun hacc HPB
      go_wp2
      exact bodyPost_ret (v := .tuple #[.slice A acc.length c, .int .i64 0, .int .i64 0]) (by simp [results, Tryd.f16, go_sem]) rfl ⟨_, rfl, hown, hb⟩
end Go.Proofs.YtceeinljakcdkaaDoor

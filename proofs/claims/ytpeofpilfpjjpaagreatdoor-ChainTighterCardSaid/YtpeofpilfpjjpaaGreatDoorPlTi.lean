/-
  The walk of ChainTighter.
-/
import Derived.Test.YtpeofpilfpjjpaaGreatDoorJQ
import Derived.Test.YtpeofpilfpjjpaaGreatDoorPlWw
import Derived.Test.YtpeofpilfpjjpaaGreatDoorJS
import Derived.Test.YtpeofpilfpjjpaaGreatDoorJD
import Derived.ChangeKeysEq
import Derived.Laws.StructEq
namespace Go.Proofs.YtpeofpilfpjjpaaGreatDoor
open Go.RowKit Go.Shelf
set_option linter.unusedVariables false
set_option linter.unusedSimpArgs false

/-! Verdicts compared. -/
theorem eqF_consT {P : Program} {d : Nat} {xs ys : Array Value} {f : Field} {fs : List Field} {w : World} {a b : Value} {r r' : Bool} (hn : f.name ≠ "_") (ha : (part f.type xs f.offset).run P w = .ok a w) (hb : (part f.type ys f.offset).run P w = .ok b w)
    (hr : (Op.equalIn d f.type a b).run P w = .ok r w) (hf : (Op.eqFields d xs ys fs).run P w = .ok r' w) : (Op.eqFields d xs ys (f :: fs)).run P w = .ok (r && r') w := by
  simp only [Op.eqFields, hn, ne_eq, not_false_eq_true, if_true, Sem.run_bind, ha, hb, hr, Result.andThen_ok]
  cases r <;> simp [hf]
theorem ver_fields : (Tryz.prog.fieldsOf 67).toList = [⟨"Action", 3, 0, false, "", "", 0⟩, ⟨"Data", 65, 1, false, "", "", 8⟩] := by kernel_rfl
theorem run_neq_ver (a b : Int) (w : World) : (binOp .neq 67 (.agg #[.int .i64 a, .int .u16 b]) (.agg #[.int .i64 a, .int .u16 b])).run Tryz.prog w = .ok (.bool false) w := by
  have key : ∀ d, (Op.equalIn (d + 2) 67 (.agg #[.int .i64 a, .int .u16 b]) (.agg #[.int .i64 a, .int .u16 b])).run Tryz.prog w = .ok true w := fun d => by
    rw [run_equalIn_struct w (d + 1) 67 _ _ (by kernel_rfl) (by kernel_rfl), ver_fields]
    have h0 := run_equalIn_int w d 3 .i64 .i64 a a Tryz.underlying3
    have h1 := run_equalIn_int w d 65 .u16 .u16 b b Tryz.underlying65
    have hz : (Op.eqFields (d + 1) #[.int .i64 a, .int .u16 b] #[.int .i64 a, .int .u16 b] []).run Tryz.prog w = .ok true w := by simp [Op.eqFields]
    have e := eqF_consT (f := ⟨"Action", 3, 0, false, "", "", 0⟩) (by decide) (run_part_plain w (v := .int .i64 a) (by kernel_rfl) rfl) (run_part_plain w (v := .int .i64 a) (by kernel_rfl) rfl) h0
      (eqF_consT (f := ⟨"Data", 65, 1, false, "", "", 8⟩) (by decide) (run_part_plain w (v := .int .u16 b) (by kernel_rfl) rfl) (run_part_plain w (v := .int .u16 b) (by kernel_rfl) rfl) h1 hz)
    rw [e]
    simp
  rw [run_neq_struct, key 9998]
  rfl
theorem ver_guard : Tryz.prog.eqGuardType Tryz.prog.depth 67 = false := by kernel_rfl
theorem wpListG_neq_ver {ops : Array Oper} {rest : List Oper} {o : Oper} {a : Act} {w : World} {Q : Exit → Act → World → Prop} (hw : Region.wanted o (yielded ops a.tmps) = true) (x y : Operand) (ho : o.op = .binOp .neq 67 x y 67)
    (p q : Int) (hx : a.eval x = .agg #[.int .i64 p, .int .u16 q]) (hy : a.eval y = .agg #[.int .i64 p, .int .u16 q]) (h : wpList Tryz.prog ops Q rest (a.put o.dst (.bool false)) w) : wpList Tryz.prog ops Q (o :: rest) a w :=
  wpListG_at hw fun _ hK => by
    unfold Oper.wp execOp
    simp only [ho, hx, hy, Sem.run_bind, run_eqGuard_agg w .neq 67 x y _ _ ver_guard, run_neq_ver p q w, Result.andThen_ok]
    exact hK _ _ h
section
variable {A : Option Addr} {m c : Nat} {L U : List Nl} {id : Int} {d : Dat}
theorem ev_c (hd : DatOk d) (w : World) (hK : HK w) (hP : Po w w.heap.size A L) (hm : m = L.length) (hmc : m ≤ c) (h6 : m ≤ 1000000) (hf : foE L id = 0) (hU : Up L id U) :
    Calls Tryz.prog 29 #[poV A m c, .int .i64 id, datV d] w fun e w' => e = .returned (.tuple #[.agg #[.int .i64 (evV d U).1, .int .u16 (evV d U).2], .int .i64 0]) ∧ Below w.heap.size w w' :=
  (eval_any A m c L id d hd w hK hP hm hmc h6).mono fun e w' ⟨v, he, hb, _, h⟩ => by
    obtain ⟨U', hU', rfl⟩ := h hf
    rw [up_det hU' hU] at he
    exact ⟨by rw [he, hf], hb⟩
theorem ev_no (hd : DatOk d) (w : World) (hK : HK w) (hP : Po w w.heap.size A L) (hm : m = L.length) (hmc : m ≤ c) (h6 : m ≤ 1000000) (hf : ¬ foE L id = 0) :
    Calls Tryz.prog 29 #[poV A m c, .int .i64 id, datV d] w fun e w' => e = .returned (.tuple #[.agg #[.int .i64 0, .int .u16 0], .int .i64 (foE L id)]) ∧ Below w.heap.size w w' :=
  (eval_any A m c L id d hd w hK hP hm hmc h6).mono fun e w' ⟨v, he, hb, h, _⟩ => by
    rw [h hf] at he
    exact ⟨he, hb⟩
theorem fa_c (hd : DatOk d) (w : World) (hK : HK w) (hP : Po w w.heap.size A L) (hm : m = L.length) (hmc : m ≤ c) (h6 : m ≤ 1000000) (hf : foE L id = 0) (hU : Up L id U) :
    Calls Tryz.prog 30 #[poV A m c, .int .i64 id, .int .u32 d.nr, .int .u32 d.ar] w fun e w' => e = .returned (.tuple #[.bool (fastB U d.nr d.ar), .int .i64 0]) ∧ Below w.heap.size w w' :=
  (fast_any A m c L id d.nr d.ar hd.nr hd.ar w hK.k hP hm hmc h6).mono fun e w' ⟨b, he, h, _, hb⟩ => by
    obtain ⟨U', hU', rfl⟩ := h hf
    rw [up_det hU' hU] at he
    exact ⟨by rw [he, hf], hb⟩
theorem fa_no (hd : DatOk d) (w : World) (hK : HK w) (hP : Po w w.heap.size A L) (hm : m = L.length) (hmc : m ≤ c) (h6 : m ≤ 1000000) (hf : ¬ foE L id = 0) :
    Calls Tryz.prog 30 #[poV A m c, .int .i64 id, .int .u32 d.nr, .int .u32 d.ar] w fun e w' => e = .returned (.tuple #[.bool false, .int .i64 (foE L id)]) ∧ Below w.heap.size w w' :=
  (fast_any A m c L id d.nr d.ar hd.nr hd.ar w hK.k hP hm hmc h6).mono fun e w' ⟨b, he, _, h, hb⟩ => by
    rw [h hf] at he
    exact ⟨he, hb⟩
theorem ho_c (w : World) (hK : HK w) (hP : Po w w.heap.size A L) (hm : m = L.length) (hmc : m ≤ c) (h6 : m ≤ 1000000) (hc : chkP L = 0) :
    Calls Tryz.prog 22 #[poV A m c] w fun e w' => e = .returned (.tuple #[.bool (honP L), .int .i64 0]) ∧ Below w.heap.size w w' :=
  (honest_any A m c L w hK hP hm hmc h6).mono fun e w' ⟨b, he, h, _, hb⟩ => ⟨by rw [he, h hc, hc], hb⟩
theorem ch_c (w : World) (hK : HK w) (hP : Po w w.heap.size A L) (hm : m = L.length) (hmc : m ≤ c) (h6 : m ≤ 1000000) (hf : foE L id = 0) (hU : Up L id U) (hUl : U.length ≤ 1000000) :
    Calls Tryz.prog 26 #[poV A m c, .int .i64 id] w fun e w' => ∃ G gc, e = .returned (.tuple #[.slice G U.length gc, .int .i64 0]) ∧ Ri7 w' w'.heap.size G (U.map fun x => x.1.i) ∧ Below w.heap.size w w' :=
  (chain_any A m c L id w hK.k hP hm hmc h6 (fun U' hU' => by rw [up_det hU' hU]; exact hUl)).mono fun e w' ⟨G, gm, gc, he, hb, _, h⟩ => by
    obtain ⟨U', hU', hz⟩ := h hf
    rw [up_det hU' hU] at hz
    have hl := hz.len
    simp only [List.length_map] at hl
    subst hl
    exact ⟨G, gc, by rw [he, hf], hz.ri, hb⟩
theorem ab_c (w : World) (hK : HK w) (hP : Po w w.heap.size A L) (hm : m = L.length) (hmc : m ≤ c) (h6 : m ≤ 1000000) (hf : foE L id = 0) (hU : Up L id U) {k : Nat} (hk : k < U.length) :
    Calls Tryz.prog 28 #[poV A m c, .int .i64 (U.getD k nl0).1.i, .int .i64 id] w fun e w' => e = .returned (.tuple #[.bool true, .int .i64 0]) ∧ Below w.heap.size w w' :=
  (above_any A m c L (U.getD k nl0).1.i id w hK.k hP hm hmc h6).mono fun e w' ⟨b, he, h, _, hb⟩ => by
    obtain ⟨U', hU', rfl⟩ := h hf
    rw [up_det hU' hU, above_in hk] at he
    exact ⟨by rw [he, hf], hb⟩
end
structure TiS (w : World) (A : Option Addr) (m c : Nat) (d : Dat) (V : World) : Prop where
  b : Below w.heap.size w V
  kp : Blk V w.heap.size #[.slice A m c] 24
  kd : Blk V (w.heap.size + 1) (datC d) 64
theorem TiS.step {w V V' : World} {A : Option Addr} {m c : Nat} {d : Dat} (h : TiS w A m c d V) (bb : Below V.heap.size V V') : TiS w A m c d V' := ⟨h.b.trans (bb.mono h.b.size), h.kp.below bb h.kp.lt, h.kd.below bb h.kd.lt⟩
set_option maxRecDepth 100000 in
set_option maxHeartbeats 16000000 in
theorem tighter_law (A : Option Addr) (m c : Nat) (L : List Nl) (id : Int) (d : Dat) (hd : DatOk d) (w : World) (hK : HK w) (hPa : Pa w w.heap.size A L) (hNr : ∀ x ∈ L, x.1.g.length ≤ 1000000000 → Nr w w.heap.size x) (hm : m = L.length) (hmc : m ≤ c) :
    Calls Tryz.prog 8 #[poV A m c, .int .i64 id, datV d] w fun e w' => e = .returned (.bool true) ∧ Below w.heap.size w w' := by
  have k0 := (Blk.new w #[.slice A m c] 24).alloc (.cells (datC d) 64)
  have k1 := Blk.new_ (w.alloc (.cells #[.slice A m c] 24)) (datC d) 64 (n := w.heap.size + 1) (by simp)
  have B0 := ((Below.refl w.heap.size w).alloc (Nat.le_refl _) (.cells #[.slice A m c] 24)).alloc (by simp) (.cells (datC d) 64)
  have J0 : TiS w A m c d ((w.alloc (.cells #[.slice A m c] 24)).alloc (.cells (datC d) 64)) := ⟨B0, k0, k1⟩
  clear k0 k1 B0
  have HKW := Lib.hid (fun V (h : TiS w A m c d V) => hK.below h.b (Nat.le_refl _))
  have HWK := Lib.hid (fun V (h : TiS w A m c d V) => wakes9_any V (HKW.out V h))
  have HOV := Lib.hid (fun V (h : TiS w A m c d V) => over_any A m c L V (fun k hk => by obtain ⟨b, off, e, h1, h2⟩ := (hPa.below h.b (Nat.le_refl _)) k hk; exact ⟨b, off, e, Nat.lt_of_lt_of_le h1 h.b.size, h2⟩) hm hmc)
  cases ho : overB L
  · have hPo := po_of hPa hNr ho
    have h6 : m ≤ 1000000 := by have := (over_false ho).1; omega
    have HPV := Lib.hid (fun V (h : TiS w A m c d V) => ((hPo.below h.b (Nat.le_refl _)).more h.b.size : Po V V.heap.size A L))
    have hN : ∀ x ∈ L, NmOk x.1 := fun x hx => (hPo.nr x hx).ok
    rw [ho] at HOV
    by_cases hf : foE L id = 0
    · have hck := foE_chk hf
      obtain ⟨U, hU⟩ : ∃ U, Up L id U := chk_up hN hck id
      have hUl := up_short hN hck hU
      have HEV := Lib.hid (fun V (h : TiS w A m c d V) => ev_c hd V (HKW.out V h) (HPV.out V h) hm hmc h6 hf hU)
      have HFA := Lib.hid (fun V (h : TiS w A m c d V) => fa_c hd V (HKW.out V h) (HPV.out V h) hm hmc h6 hf hU)
      have HHO := Lib.hid (fun V (h : TiS w A m c d V) => ho_c V (HKW.out V h) (HPV.out V h) hm hmc h6 hck)
      have HCH := Lib.hid (fun V (h : TiS w A m c d V) => ch_c V (HKW.out V h) (HPV.out V h) hm hmc h6 hf hU hUl)
      have HEK := Lib.hid (fun V (h : TiS w A m c d V) k (hk : k < U.length) => ev_c (id := (U.getD k nl0).1.i) hd V (HKW.out V h) (HPV.out V h) hm hmc h6 (foE_in hck hU hk) (up_drop hU k hk))
      have HAK := Lib.hid (fun V (h : TiS w A m c d V) k (hk : k < U.length) => ab_c V (HKW.out V h) (HPV.out V h) hm hmc h6 hf hU hk)
      have HDR := Lib.hid (fun k (hk : k < U.length) => ev_drop d U k hk)
      have hal : honP L = true → fastB U d.nr d.ar = true → evV d U = (7, 0) := fun h1 h2 => fast_allow hd hN hck hU h1 h2
      generalize fastB U d.nr d.ar = fb at HFA hal
      generalize honP L = hb at HHO hal
      have hid2 : Hid (evV d U = evV d U) := Lib.hid rfl
      obtain ⟨v, hv⟩ : ∃ v, evV d U = v := ⟨_, rfl⟩
      rw [hv] at HEV HDR hal
      obtain ⟨v1, v2⟩ := v
      simp only at HEV HDR hal
      have HUL := Lib.hid hUl
      obtain ⟨n, hn⟩ : ∃ n, n = U.length := ⟨_, rfl⟩
      rw [← hn] at HCH
      have HNL := Lib.hid hn
      clear hUl hv hid2 hU hck hf hN h6 hPo hn ho hm hmc hPa hNr
      unfold poV datV at *
      cases fb
      · clear hal
        go_enter Tryz.func8, Tryz.ntmps8
        go_wp2_with (first
          | (refine (HWK.out _ J0).mono ?_
             clear HWK
             rintro e w1 ⟨rfl, bb⟩
             have J1 := J0.step bb
             clear bb J0
             go_wp2_with (first
               | (refine wpListG_load (by rfl) 24 (.tmp 3) rfl w.heap.size rfl 24 #[.slice A m c] _ J1.kp Tryz.underlying24 rfl (po_info _ _ _) ?_)
               | (refine (HOV.out w1 J1).mono ?_
                  clear HOV
                  rintro e w2 ⟨rfl, bb⟩
                  have J2 := J1.step bb
                  clear bb J1
                  go_wp2_with (first
                    | (refine wpListG_load (by rfl) 24 (.tmp 3) rfl w.heap.size rfl 24 #[.slice A m c] _ J2.kp Tryz.underlying24 rfl (po_info _ _ _) ?_)
                    | (refine wpListG_load (by rfl) 64 (.tmp 5) rfl (w.heap.size + 1) rfl 64 (datC d) _ J2.kd Tryz.underlying64 rfl dat_info ?_)
                    | (refine (HEV.out w2 J2).mono ?_
                       clear HEV
                       rintro e w3 ⟨rfl, bb⟩
                       have J3 := J2.step bb
                       clear bb J2
                       go_wp2_with (first
                         | (refine wpList_store_blk rfl 67 (.tmp 7) (.tmp 29) rfl w3.heap.size #[.int .i64 0, .int .u16 0] #[.int .i64 v1, .int .u16 v2] 67 rfl rfl (Blk.new _ _ _) rfl ver_info (by simp [Value.oneCell']) ?_
                            intro w4 k7 g7
                            have J4 := J3.step (newP rfl g7)
                            have q0 : w4.cell? ⟨w.heap.size + 1, 0, none⟩ = some (.int .u32 d.nr) := J4.kd.cell 0
                            have q1 : w4.cell? ⟨w.heap.size + 1, 1, none⟩ = some (.int .u32 d.ar) := J4.kd.cell 1
                            clear g7 J3
                            go_wp2_with (first
                              | (refine wpListG_load (by rfl) 24 (.tmp 3) rfl w.heap.size rfl 24 #[.slice A m c] _ J4.kp Tryz.underlying24 rfl (po_info _ _ _) ?_)
                              | (refine (HFA.out w4 J4).mono ?_
                                 clear HFA
                                 rintro e w5 ⟨rfl, bb⟩
                                 have J5 := J4.step bb
                                 have k75 := k7.below bb k7.lt
                                 clear bb J4 k7 q0 q1
                                 go_wp2_with (first
                                   | (refine wpListG_load (by rfl) 24 (.tmp 3) rfl w.heap.size rfl 24 #[.slice A m c] _ J5.kp Tryz.underlying24 rfl (po_info _ _ _) ?_)
                                   | (refine (HHO.out w5 J5).mono ?_
                                      clear HHO
                                      rintro e w6 ⟨rfl, bb⟩
                                      have J6 := J5.step bb
                                      have k76 := k75.below bb k75.lt
                                      clear bb J5 k75
                                      go_wp2_with (first
                                        | (refine wpListG_load (by rfl) 24 (.tmp 3) rfl w.heap.size rfl 24 #[.slice A m c] _ J6.kp Tryz.underlying24 rfl (po_info _ _ _) ?_)
                                        | (refine (HCH.out w6 J6).mono ?_
                                           clear HCH
                                           rintro e w7 ⟨G, gc, rfl, hz, bb⟩
                                           have J7 := J6.step bb
                                           have k77 := k76.below bb k76.lt
                                           clear bb J6 k76
                                           go_wp2_with fail))))))))))))))
        generalize w3.heap.size = g7 at k77 ⊢
        go_loopw [76] (fun iv wr' => ∃ (k : Nat) (wr : World), wr = wr' ∧ k ≤ n ∧ iv = .int .i64 k ∧ Below w7.heap.size w7 wr) (fun iv _ => n - (intOf iv).toNat)
        case atStart => exact ⟨0, _, rfl, Nat.zero_le _, rfl, Below.refl _ _⟩
        case round =>
          obtain ⟨k, wr, hwr, hk, rfl, hB⟩ := hrel
          subst hwr
          have J8 := J7.step hB
          have k78 := k77.below hB k77.lt
          by_cases hlt : k < n
          · have hlt' : (k : Int) < (n : Int) := by omega
            have hkU : k < U.length := by have := HNL.out; omega
            have hkb : k ≤ 1000000 := by have := HUL.out; omega
            obtain ⟨b, off, rfl, hb, hc⟩ := (hz.below hB (Nat.le_refl _)) k (by simpa using hkU)
            have hgi : (U.map fun x => x.1.i).getD k 0 = (U.getD k nl0).1.i := by simp [List.getD, hkU]
            rw [hgi] at hc
            have EK := Lib.hid (fun V h => HEK.out V h k hkU)
            have AK := Lib.hid (fun V h => HAK.out V h k hkU)
            have hle := HDR.out k hkU
            clear HEK HAK HDR hgi hkU J7 k77 hz
            generalize (U.getD k nl0).1.i = oi at hc EK AK
            generalize evV d (U.drop k) = u at EK hle
            obtain ⟨u1, u2⟩ := u
            simp only at EK hle
            have hnl : decide (u1 < v1) = false := by simp; omega
            clear hle
            go_wp2_with (first
              | (refine wpListG_load (by rfl) 24 (.tmp 3) rfl w.heap.size rfl 24 #[.slice A m c] _ J8.kp Tryz.underlying24 rfl (po_info _ _ _) ?_)
              | (refine wpListG_load (by rfl) 64 (.tmp 5) rfl (w.heap.size + 1) rfl 64 (datC d) _ J8.kd Tryz.underlying64 rfl dat_info ?_)
              | (refine (EK.out wr J8).mono ?_
                 clear EK
                 rintro e w8 ⟨rfl, bb⟩
                 have J9 := J8.step bb
                 have k79 := k78.below bb k78.lt
                 have B9 := hB.trans (bb.mono hB.size)
                 clear bb J8 k78
                 go_wp2_with (first
                   | (refine wpList_store_blk rfl 67 (.tmp 16) (.tmp 85) rfl w8.heap.size #[.int .i64 0, .int .u16 0] #[.int .i64 u1, .int .u16 u2] 67 rfl rfl (Blk.new _ _ _) rfl ver_info (by simp [Value.oneCell']) ?_
                      intro w9 kw gw
                      have J10 := J9.step (newP rfl gw)
                      have k710 := k79.below (newP rfl gw) k79.lt
                      have B10 := B9.trans ((newP rfl gw).mono B9.size)
                      clear gw J9 k79 B9
                      go_wp2_with (first
                        | (refine wpListG_load (by rfl) 24 (.tmp 3) rfl w.heap.size rfl 24 #[.slice A m c] _ J10.kp Tryz.underlying24 rfl (po_info _ _ _) ?_)
                        | (refine (AK.out w9 J10).mono ?_
                           clear AK
                           rintro e x1 ⟨rfl, bb⟩
                           have q16 : x1.cell? ⟨w8.heap.size, 0, none⟩ = some (.int .i64 u1) := (kw.below bb kw.lt).cell 0
                           have q7 : x1.cell? ⟨g7, 0, none⟩ = some (.int .i64 v1) := (k710.below bb k710.lt).cell 0
                           have B11 := B10.trans (bb.mono B10.size)
                           clear bb J10 k710 kw
                           go_wp2_with fail))))))
            go_roundw
            case rel => exact ⟨k + 1, _, rfl, by omega, by go_num, B11⟩
            case measure => simp [intOf]; omega
          · obtain rfl : k = n := by omega
            go_wp2_with fail
            go_ret
            exact ⟨rfl, J8.b⟩
      · cases hb
        · clear hal
          go_enter Tryz.func8, Tryz.ntmps8
          go_wp2_with (first
            | (refine (HWK.out _ J0).mono ?_
               clear HWK
               rintro e w1 ⟨rfl, bb⟩
               have J1 := J0.step bb
               clear bb J0
               go_wp2_with (first
                 | (refine wpListG_load (by rfl) 24 (.tmp 3) rfl w.heap.size rfl 24 #[.slice A m c] _ J1.kp Tryz.underlying24 rfl (po_info _ _ _) ?_)
                 | (refine (HOV.out w1 J1).mono ?_
                    clear HOV
                    rintro e w2 ⟨rfl, bb⟩
                    have J2 := J1.step bb
                    clear bb J1
                    go_wp2_with (first
                      | (refine wpListG_load (by rfl) 24 (.tmp 3) rfl w.heap.size rfl 24 #[.slice A m c] _ J2.kp Tryz.underlying24 rfl (po_info _ _ _) ?_)
                      | (refine wpListG_load (by rfl) 64 (.tmp 5) rfl (w.heap.size + 1) rfl 64 (datC d) _ J2.kd Tryz.underlying64 rfl dat_info ?_)
                      | (refine (HEV.out w2 J2).mono ?_
                         clear HEV
                         rintro e w3 ⟨rfl, bb⟩
                         have J3 := J2.step bb
                         clear bb J2
                         go_wp2_with (first
                           | (refine wpList_store_blk rfl 67 (.tmp 7) (.tmp 29) rfl w3.heap.size #[.int .i64 0, .int .u16 0] #[.int .i64 v1, .int .u16 v2] 67 rfl rfl (Blk.new _ _ _) rfl ver_info (by simp [Value.oneCell']) ?_
                              intro w4 k7 g7
                              have J4 := J3.step (newP rfl g7)
                              have q0 : w4.cell? ⟨w.heap.size + 1, 0, none⟩ = some (.int .u32 d.nr) := J4.kd.cell 0
                              have q1 : w4.cell? ⟨w.heap.size + 1, 1, none⟩ = some (.int .u32 d.ar) := J4.kd.cell 1
                              clear g7 J3
                              go_wp2_with (first
                                | (refine wpListG_load (by rfl) 24 (.tmp 3) rfl w.heap.size rfl 24 #[.slice A m c] _ J4.kp Tryz.underlying24 rfl (po_info _ _ _) ?_)
                                | (refine (HFA.out w4 J4).mono ?_
                                   clear HFA
                                   rintro e w5 ⟨rfl, bb⟩
                                   have J5 := J4.step bb
                                   have k75 := k7.below bb k7.lt
                                   clear bb J4 k7 q0 q1
                                   go_wp2_with (first
                                     | (refine wpListG_load (by rfl) 24 (.tmp 3) rfl w.heap.size rfl 24 #[.slice A m c] _ J5.kp Tryz.underlying24 rfl (po_info _ _ _) ?_)
                                     | (refine (HHO.out w5 J5).mono ?_
                                        clear HHO
                                        rintro e w6 ⟨rfl, bb⟩
                                        have J6 := J5.step bb
                                        have k76 := k75.below bb k75.lt
                                        clear bb J5 k75
                                        go_wp2_with (first
                                          | (refine wpListG_load (by rfl) 24 (.tmp 3) rfl w.heap.size rfl 24 #[.slice A m c] _ J6.kp Tryz.underlying24 rfl (po_info _ _ _) ?_)
                                          | (refine (HCH.out w6 J6).mono ?_
                                             clear HCH
                                             rintro e w7 ⟨G, gc, rfl, hz, bb⟩
                                             have J7 := J6.step bb
                                             have k77 := k76.below bb k76.lt
                                             clear bb J6 k76
                                             go_wp2_with fail))))))))))))))
          generalize w3.heap.size = g7 at k77 ⊢
          go_loopw [76] (fun iv wr' => ∃ (k : Nat) (wr : World), wr = wr' ∧ k ≤ n ∧ iv = .int .i64 k ∧ Below w7.heap.size w7 wr) (fun iv _ => n - (intOf iv).toNat)
          case atStart => exact ⟨0, _, rfl, Nat.zero_le _, rfl, Below.refl _ _⟩
          case round =>
            obtain ⟨k, wr, hwr, hk, rfl, hB⟩ := hrel
            subst hwr
            have J8 := J7.step hB
            have k78 := k77.below hB k77.lt
            by_cases hlt : k < n
            · have hlt' : (k : Int) < (n : Int) := by omega
              have hkU : k < U.length := by have := HNL.out; omega
              have hkb : k ≤ 1000000 := by have := HUL.out; omega
              obtain ⟨b, off, rfl, hb, hc⟩ := (hz.below hB (Nat.le_refl _)) k (by simpa using hkU)
              have hgi : (U.map fun x => x.1.i).getD k 0 = (U.getD k nl0).1.i := by simp [List.getD, hkU]
              rw [hgi] at hc
              have EK := Lib.hid (fun V h => HEK.out V h k hkU)
              have AK := Lib.hid (fun V h => HAK.out V h k hkU)
              have hle := HDR.out k hkU
              clear HEK HAK HDR hgi hkU J7 k77 hz
              generalize (U.getD k nl0).1.i = oi at hc EK AK
              generalize evV d (U.drop k) = u at EK hle
              obtain ⟨u1, u2⟩ := u
              simp only at EK hle
              have hnl : decide (u1 < v1) = false := by simp; omega
              clear hle
              go_wp2_with (first
                | (refine wpListG_load (by rfl) 24 (.tmp 3) rfl w.heap.size rfl 24 #[.slice A m c] _ J8.kp Tryz.underlying24 rfl (po_info _ _ _) ?_)
                | (refine wpListG_load (by rfl) 64 (.tmp 5) rfl (w.heap.size + 1) rfl 64 (datC d) _ J8.kd Tryz.underlying64 rfl dat_info ?_)
                | (refine (EK.out wr J8).mono ?_
                   clear EK
                   rintro e w8 ⟨rfl, bb⟩
                   have J9 := J8.step bb
                   have k79 := k78.below bb k78.lt
                   have B9 := hB.trans (bb.mono hB.size)
                   clear bb J8 k78
                   go_wp2_with (first
                     | (refine wpList_store_blk rfl 67 (.tmp 16) (.tmp 85) rfl w8.heap.size #[.int .i64 0, .int .u16 0] #[.int .i64 u1, .int .u16 u2] 67 rfl rfl (Blk.new _ _ _) rfl ver_info (by simp [Value.oneCell']) ?_
                        intro w9 kw gw
                        have J10 := J9.step (newP rfl gw)
                        have k710 := k79.below (newP rfl gw) k79.lt
                        have B10 := B9.trans ((newP rfl gw).mono B9.size)
                        clear gw J9 k79 B9
                        go_wp2_with (first
                          | (refine wpListG_load (by rfl) 24 (.tmp 3) rfl w.heap.size rfl 24 #[.slice A m c] _ J10.kp Tryz.underlying24 rfl (po_info _ _ _) ?_)
                          | (refine (AK.out w9 J10).mono ?_
                             clear AK
                             rintro e x1 ⟨rfl, bb⟩
                             have q16 : x1.cell? ⟨w8.heap.size, 0, none⟩ = some (.int .i64 u1) := (kw.below bb kw.lt).cell 0
                             have q7 : x1.cell? ⟨g7, 0, none⟩ = some (.int .i64 v1) := (k710.below bb k710.lt).cell 0
                             have B11 := B10.trans (bb.mono B10.size)
                             clear bb J10 k710 kw
                             go_wp2_with fail))))))
              go_roundw
              case rel => exact ⟨k + 1, _, rfl, by omega, by go_num, B11⟩
              case measure => simp [intOf]; omega
            · obtain rfl : k = n := by omega
              go_wp2_with fail
              go_ret
              exact ⟨rfl, J8.b⟩
        · have h7 := hal rfl rfl
          simp only [Prod.mk.injEq] at h7
          obtain ⟨rfl, rfl⟩ := h7
          clear hal
          go_enter Tryz.func8, Tryz.ntmps8
          go_wp2_with (first
            | (refine (HWK.out _ J0).mono ?_
               clear HWK
               rintro e w1 ⟨rfl, bb⟩
               have J1 := J0.step bb
               clear bb J0
               go_wp2_with (first
                 | (refine wpListG_load (by rfl) 24 (.tmp 3) rfl w.heap.size rfl 24 #[.slice A m c] _ J1.kp Tryz.underlying24 rfl (po_info _ _ _) ?_)
                 | (refine (HOV.out w1 J1).mono ?_
                    clear HOV
                    rintro e w2 ⟨rfl, bb⟩
                    have J2 := J1.step bb
                    clear bb J1
                    go_wp2_with (first
                      | (refine wpListG_load (by rfl) 24 (.tmp 3) rfl w.heap.size rfl 24 #[.slice A m c] _ J2.kp Tryz.underlying24 rfl (po_info _ _ _) ?_)
                      | (refine wpListG_load (by rfl) 64 (.tmp 5) rfl (w.heap.size + 1) rfl 64 (datC d) _ J2.kd Tryz.underlying64 rfl dat_info ?_)
                      | (refine (HEV.out w2 J2).mono ?_
                         clear HEV
                         rintro e w3 ⟨rfl, bb⟩
                         have J3 := J2.step bb
                         clear bb J2
                         go_wp2_with (first
                           | (refine wpList_store_blk rfl 67 (.tmp 7) (.tmp 29) rfl w3.heap.size #[.int .i64 0, .int .u16 0] #[.int .i64 7, .int .u16 0] 67 rfl rfl (Blk.new _ _ _) rfl ver_info (by simp [Value.oneCell']) ?_
                              intro w4 k7 g7
                              have J4 := J3.step (newP rfl g7)
                              have q0 : w4.cell? ⟨w.heap.size + 1, 0, none⟩ = some (.int .u32 d.nr) := J4.kd.cell 0
                              have q1 : w4.cell? ⟨w.heap.size + 1, 1, none⟩ = some (.int .u32 d.ar) := J4.kd.cell 1
                              clear g7 J3
                              go_wp2_with (first
                                | (refine wpListG_load (by rfl) 24 (.tmp 3) rfl w.heap.size rfl 24 #[.slice A m c] _ J4.kp Tryz.underlying24 rfl (po_info _ _ _) ?_)
                                | (refine (HFA.out w4 J4).mono ?_
                                   clear HFA
                                   rintro e w5 ⟨rfl, bb⟩
                                   have J5 := J4.step bb
                                   have k75 := k7.below bb k7.lt
                                   clear bb J4 k7 q0 q1
                                   go_wp2_with (first
                                     | (refine wpListG_load (by rfl) 24 (.tmp 3) rfl w.heap.size rfl 24 #[.slice A m c] _ J5.kp Tryz.underlying24 rfl (po_info _ _ _) ?_)
                                     | (refine (HHO.out w5 J5).mono ?_
                                        clear HHO
                                        rintro e w6 ⟨rfl, bb⟩
                                        have J6 := J5.step bb
                                        have k76 := k75.below bb k75.lt
                                        clear bb J5 k75
                                        go_wp2_with (first
                            | (refine wpListG_load (by rfl) 67 (.tmp 7) rfl w3.heap.size rfl 67 #[.int .i64 7, .int .u16 0] _ k76 Tryz.underlying67 rfl ver_info ?_)
                            | (refine wpListG_neq_ver (by rfl) (.tmp 62) (.tmp 63) rfl 7 0 rfl rfl ?_)
                                          | (refine wpListG_load (by rfl) 24 (.tmp 3) rfl w.heap.size rfl 24 #[.slice A m c] _ J6.kp Tryz.underlying24 rfl (po_info _ _ _) ?_)
                                          | (refine (HCH.out w6 J6).mono ?_
                                             clear HCH
                                             rintro e w7 ⟨G, gc, rfl, hz, bb⟩
                                             have J7 := J6.step bb
                                             have k77 := k76.below bb k76.lt
                                             clear bb J6 k76
                                             go_wp2_with fail))))))))))))))
          generalize w3.heap.size = g7 at k77 ⊢
          go_loopw [76] (fun iv wr' => ∃ (k : Nat) (wr : World), wr = wr' ∧ k ≤ n ∧ iv = .int .i64 k ∧ Below w7.heap.size w7 wr) (fun iv _ => n - (intOf iv).toNat)
          case atStart => exact ⟨0, _, rfl, Nat.zero_le _, rfl, Below.refl _ _⟩
          case round =>
            obtain ⟨k, wr, hwr, hk, rfl, hB⟩ := hrel
            subst hwr
            have J8 := J7.step hB
            have k78 := k77.below hB k77.lt
            by_cases hlt : k < n
            · have hlt' : (k : Int) < (n : Int) := by omega
              have hkU : k < U.length := by have := HNL.out; omega
              have hkb : k ≤ 1000000 := by have := HUL.out; omega
              obtain ⟨b, off, rfl, hb, hc⟩ := (hz.below hB (Nat.le_refl _)) k (by simpa using hkU)
              have hgi : (U.map fun x => x.1.i).getD k 0 = (U.getD k nl0).1.i := by simp [List.getD, hkU]
              rw [hgi] at hc
              have EK := Lib.hid (fun V h => HEK.out V h k hkU)
              have AK := Lib.hid (fun V h => HAK.out V h k hkU)
              have hle := HDR.out k hkU
              clear HEK HAK HDR hgi hkU J7 k77 hz
              generalize (U.getD k nl0).1.i = oi at hc EK AK
              generalize evV d (U.drop k) = u at EK hle
              obtain ⟨u1, u2⟩ := u
              simp only at EK hle
              have hnl : decide ((u1 : Int) < 7) = false := by simp; omega
              clear hle
              go_wp2_with (first
                | (refine wpListG_load (by rfl) 24 (.tmp 3) rfl w.heap.size rfl 24 #[.slice A m c] _ J8.kp Tryz.underlying24 rfl (po_info _ _ _) ?_)
                | (refine wpListG_load (by rfl) 64 (.tmp 5) rfl (w.heap.size + 1) rfl 64 (datC d) _ J8.kd Tryz.underlying64 rfl dat_info ?_)
                | (refine (EK.out wr J8).mono ?_
                   clear EK
                   rintro e w8 ⟨rfl, bb⟩
                   have J9 := J8.step bb
                   have k79 := k78.below bb k78.lt
                   have B9 := hB.trans (bb.mono hB.size)
                   clear bb J8 k78
                   go_wp2_with (first
                     | (refine wpList_store_blk rfl 67 (.tmp 16) (.tmp 85) rfl w8.heap.size #[.int .i64 0, .int .u16 0] #[.int .i64 u1, .int .u16 u2] 67 rfl rfl (Blk.new _ _ _) rfl ver_info (by simp [Value.oneCell']) ?_
                        intro w9 kw gw
                        have J10 := J9.step (newP rfl gw)
                        have k710 := k79.below (newP rfl gw) k79.lt
                        have B10 := B9.trans ((newP rfl gw).mono B9.size)
                        clear gw J9 k79 B9
                        go_wp2_with (first
                          | (refine wpListG_load (by rfl) 24 (.tmp 3) rfl w.heap.size rfl 24 #[.slice A m c] _ J10.kp Tryz.underlying24 rfl (po_info _ _ _) ?_)
                          | (refine (AK.out w9 J10).mono ?_
                             clear AK
                             rintro e x1 ⟨rfl, bb⟩
                             have q16 : x1.cell? ⟨w8.heap.size, 0, none⟩ = some (.int .i64 u1) := (kw.below bb kw.lt).cell 0
                             have q7 : x1.cell? ⟨g7, 0, none⟩ = some (.int .i64 7) := (k710.below bb k710.lt).cell 0
                             have B11 := B10.trans (bb.mono B10.size)
                             clear bb J10 k710 kw
                             go_wp2_with fail))))))
              go_roundw
              case rel => exact ⟨k + 1, _, rfl, by omega, by go_num, B11⟩
              case measure => simp [intOf]; omega
            · obtain rfl : k = n := by omega
              go_wp2_with fail
              go_ret
              exact ⟨rfl, J8.b⟩
    · have HEV := Lib.hid (fun V (h : TiS w A m c d V) => ev_no hd V (HKW.out V h) (HPV.out V h) hm hmc h6 hf)
      have HFA := Lib.hid (fun V (h : TiS w A m c d V) => fa_no hd V (HKW.out V h) (HPV.out V h) hm hmc h6 hf)
      have hne : (foE L id != 0) = true := by simpa using hf
      generalize foE L id = r at HEV HFA hne
      clear hf hN h6 hPo ho hm hmc hPa hNr
      unfold poV datV at *
      go_enter Tryz.func8, Tryz.ntmps8
      go_wp2_with (first
        | (refine (HWK.out _ J0).mono ?_
           clear HWK
           rintro e w1 ⟨rfl, bb⟩
           have J1 := J0.step bb
           clear bb J0
           go_wp2_with (first
             | (refine wpListG_load (by rfl) 24 (.tmp 3) rfl w.heap.size rfl 24 #[.slice A m c] _ J1.kp Tryz.underlying24 rfl (po_info _ _ _) ?_)
             | (refine (HOV.out w1 J1).mono ?_
                clear HOV
                rintro e w2 ⟨rfl, bb⟩
                have J2 := J1.step bb
                clear bb J1
                go_wp2_with (first
                  | (refine wpListG_load (by rfl) 24 (.tmp 3) rfl w.heap.size rfl 24 #[.slice A m c] _ J2.kp Tryz.underlying24 rfl (po_info _ _ _) ?_)
                  | (refine wpListG_load (by rfl) 64 (.tmp 5) rfl (w.heap.size + 1) rfl 64 (datC d) _ J2.kd Tryz.underlying64 rfl dat_info ?_)
                  | (refine (HEV.out w2 J2).mono ?_
                     clear HEV
                     rintro e w3 ⟨rfl, bb⟩
                     have J3 := J2.step bb
                     clear bb J2
                     go_wp2_with (first
                       | (refine wpList_store_blk rfl 67 (.tmp 7) (.tmp 29) rfl w3.heap.size #[.int .i64 0, .int .u16 0] #[.int .i64 0, .int .u16 0] 67 rfl rfl (Blk.new _ _ _) rfl ver_info (by simp [Value.oneCell']) ?_
                          intro w4 k7 g7
                          have J4 := J3.step (newP rfl g7)
                          have q0 : w4.cell? ⟨w.heap.size + 1, 0, none⟩ = some (.int .u32 d.nr) := J4.kd.cell 0
                          have q1 : w4.cell? ⟨w.heap.size + 1, 1, none⟩ = some (.int .u32 d.ar) := J4.kd.cell 1
                          clear g7 J3
                          go_wp2_with (first
                            | (refine wpListG_load (by rfl) 24 (.tmp 3) rfl w.heap.size rfl 24 #[.slice A m c] _ J4.kp Tryz.underlying24 rfl (po_info _ _ _) ?_)
                            | (refine (HFA.out w4 J4).mono ?_
                               clear HFA
                               rintro e w5 ⟨rfl, bb⟩
                               have J5 := J4.step bb
                               clear bb J4 k7 q0 q1
                               go_wp2_with fail))))))))))
      go_ret
      exact ⟨by simp, J5.b⟩
  · rw [ho] at HOV
    clear ho hm hmc hPa hNr
    unfold poV datV at *
    go_enter Tryz.func8, Tryz.ntmps8
    go_wp2_with (first
      | (refine (HWK.out _ J0).mono ?_
         clear HWK
         rintro e w1 ⟨rfl, bb⟩
         have J1 := J0.step bb
         clear bb J0
         go_wp2_with (first
           | (refine wpListG_load (by rfl) 24 (.tmp 3) rfl w.heap.size rfl 24 #[.slice A m c] _ J1.kp Tryz.underlying24 rfl (po_info _ _ _) ?_)
           | (refine (HOV.out w1 J1).mono ?_
              clear HOV
              rintro e w2 ⟨rfl, bb⟩
              have J2 := J1.step bb
              clear bb J1
              go_wp2_with fail))))
    go_ret
    exact ⟨rfl, J2.b⟩
end Go.Proofs.YtpeofpilfpjjpaaGreatDoor

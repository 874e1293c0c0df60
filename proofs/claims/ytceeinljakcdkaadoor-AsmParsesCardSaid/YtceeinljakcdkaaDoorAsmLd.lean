/-
  What the card lists of package-level variables, as the walks want it.
-/
import Derived.Test.YtceeinljakcdkaaDoorAsmLib
import Derived.Stop.LaidErr
import Derived.Test.YtceeinljakcdkaaDoorRows
namespace Go.Proofs.YtceeinljakcdkaaDoor
open Go.RowKit

theorem laidMet_tail {P : Program} {x : String × DataW Unit} {r : List (String × DataW Unit)} {W : World} (h : laidMet P (x :: r) W) : laidMet P r W := by
  obtain ⟨ps, ⟨g0, t0, cs0, f0, p0, q0, hg0, ht0, hv0, hd0, hs, e0⟩, hnd, hrows⟩ := h
  subst e0
  exact ⟨q0, hs, (List.nodup_append.1 hnd).2.1, fun b off hm => hrows b off (List.mem_append_right _ hm)⟩
theorem star_err : "*" ++ "errors.errorString" = "*errors.errorString" := by decide
theorem row_err (u : TypeId) (h : Tryd.prog.typeName? 3 u = some "*errors.errorString") : u = 143 :=
  typeName_ptr_named (nm := "errors.errorString") (by rw [star_err]; kernel_rfl) (by kernel_rfl) (by decide) u (by rw [star_err]; exact h)
theorem g_syn : Tryd.prog.globalNamed "strconv.ErrSyntax" = some 3 := by kernel_rfl
theorem g_rng : Tryd.prog.globalNamed "strconv.ErrRange" = some 4 := by kernel_rfl
theorem gt_syn : (Tryd.prog.globals[3]?).map (·.type) = some 60 := by kernel_rfl
theorem gt_rng : (Tryd.prog.globals[4]?).map (·.type) = some 60 := by kernel_rfl
theorem gt_pow : (Tryd.prog.globals[2]?).map (·.type) = some 134 := by kernel_rfl
theorem pow_data : (Rows.laid_internal_strconv_uint64pow10 : DataW Unit) = Lib.tabData .u64 Lib.pow10Tab := by kernel_rfl
theorem cells_eS : Tryd.prog.cellsOf 145 = 1 := by kernel_rfl
theorem cells_sS : Tryd.prog.cellsOf 9 = 1 := by kernel_rfl
theorem cells_u64 : Tryd.prog.cellsOf 87 = 1 := by kernel_rfl
theorem cells_p20 : Tryd.prog.cellsOf 134 = Lib.pow10Tab.length := by kernel_rfl
theorem six_of_laid {W : World} (h : laidMetH Tryd.prog [("math/bits.deBruijn32tab", Rows.laid_math_bits_deBruijn32tab), ("math/bits.deBruijn64tab", Rows.laid_math_bits_deBruijn64tab), ("internal/strconv.uint64pow10", Rows.laid_internal_strconv_uint64pow10), ("strconv.ErrRange", Rows.laid_strconv_ErrRange), ("strconv.ErrSyntax", Rows.laid_strconv_ErrSyntax), ("wicketgate/insn.kinds", Rows.laid_wicketgate_insn_kinds)] W) : T8 W := by
  rw [MakeChecks.laidMetH_plain _ _ _ (by kernel_rfl)] at h
  have h3 := laidMet_tail (laidMet_tail h)
  have h4 := laidMet_tail h3
  have h5 := laidMet_tail h4
  have h6 := laidMet_tail h5
  rw [pow_data] at h3
  obtain ⟨a4, s4, hv4, -, -, -⟩ := laid_sentinel h4 g_rng gt_rng Tryd.underlying60 row_err Tryd.underlying143 Tryd.underlying145 rfl rfl Tryd.underlying9 cells_eS cells_sS
  obtain ⟨a5, s5, hv5, -, -, -⟩ := laid_sentinel h5 g_syn gt_syn Tryd.underlying60 row_err Tryd.underlying143 Tryd.underlying145 rfl rfl Tryd.underlying9 cells_eS cells_sS
  refine ⟨kinds_of_laid (by rw [MakeChecks.laidMetH_plain _ _ _ (by kernel_rfl)]; exact h6), Lib.tabIs_of_head g_pow gt_pow Tryd.underlying134 Tryd.underlying87 cells_u64 cells_p20 h3, ?_, ?_⟩
  · exact ⟨_, by have h0 := World.var?_cell g_syn hv5 0; simpa using h0, _, _, rfl⟩
  · exact ⟨_, by have h0 := World.var?_cell g_rng hv4 0; simpa using h0, _, _, rfl⟩
end Go.Proofs.YtceeinljakcdkaaDoor

/- The variables that the rows list: what they read as; a world in which they lie so; the builder for rows that list them and ask the world's shape. -/
import Derived.Test.YtfoilmhpoipmpaaDoorSl
import Derived.Test.YtfoilmhpoipmpaaDoorSm
import Derived.Test.YtfoilmhpoipmpaaDoorB2
import Derived.Stop.LaidErr
import Derived.LaidSub
import Derived.Shelf.Vars
namespace Go.Proofs.YtfoilmhpoipmpaaDoor
open Go.ChangeShapes Go.WideShapes Go.ChangeAt Go.RowKit
set_option linter.unusedVariables false
set_option linter.unusedSimpArgs false
set_option maxRecDepth 100000
abbrev LA : List (String × DataW Unit) := [("math/bits.deBruijn32tab", Rows.laid_math_bits_deBruijn32tab), ("math/bits.deBruijn64tab", Rows.laid_math_bits_deBruijn64tab), ("internal/strconv.uint64pow10", Rows.laid_internal_strconv_uint64pow10), ("unicode/utf8.acceptRanges", Rows.laid_unicode_utf8_acceptRanges), ("strconv.ErrRange", Rows.laid_strconv_ErrRange), ("strconv.ErrSyntax", Rows.laid_strconv_ErrSyntax), ("padlock/lex.marks", Rows.laid_padlock_lex_marks), ("unicode/utf8.first", Rows.laid_unicode_utf8_first)]
abbrev laidA : World → Prop := laidMet Tryd.prog LA
theorem laidA_M {W : World} (h : laidA W) : laidM W := by
  have h1 := h.filter (fun x => x.1 == "padlock/lex.marks")
  have e : LA.filter (fun x => x.1 == "padlock/lex.marks") = [("padlock/lex.marks", Rows.laid_padlock_lex_marks)] := by kernel_rfl
  rwa [e] at h1
theorem err_star : "*" ++ "errors.errorString" = "*errors.errorString" := by decide
theorem err_row (u : TypeId) (h : Tryd.prog.typeName? 3 u = some "*errors.errorString") : u = 113 :=
  typeName_ptr_named (nm := "errors.errorString") (by rw [err_star]; kernel_rfl) (by kernel_rfl) (by decide) u (by rw [err_star]; exact h)
theorem rng_at : Tryd.prog.globalNamed "strconv.ErrRange" = some 3 := by kernel_rfl
theorem laidA_R {W : World} (h : laidA W) : ∃ t fr tp p, W.heap[3]? = some (.cells #[.iface tp p] t fr) := by
  have h1 := h.filter (fun x => x.1 == "strconv.ErrRange")
  have e : LA.filter (fun x => x.1 == "strconv.ErrRange") = [("strconv.ErrRange", Rows.laid_strconv_ErrRange)] := by kernel_rfl
  rw [e] at h1
  obtain ⟨a, s, hv, _⟩ := laid_sentinel (g := 3) (ti := 60) (tp := 113) (te := 115) (ts := 9) h1 rng_at (by kernel_rfl) Tryd.underlying60 err_row Tryd.underlying113 Tryd.underlying115 rfl rfl Tryd.underlying9 (by kernel_rfl) (by kernel_rfl)
  obtain ⟨t, fr, hb⟩ := var_block rng_at hv
  exact ⟨t, fr, _, _, hb⟩
theorem A_of {W : World} (h : laidA W) (hs : W.ShapedOpen Tryd.prog) : Lx W := by
  refine ⟨M_of (laidA_M h), ?_, laidA_R h⟩
  exact cell_of_shapedOpen_int (zero := #[.int .i64 0]) (t := 3) hs (of_decide_eq_true (by kernel_rfl)) (by kernel_rfl) rfl (by kernel_rfl) (by kernel_rfl) Tryd.underlying3
/-- The cells that a datum of numbers and texts lies as. -/
def cellsD : Nat → DataW Unit → List Value
  | 0, _ => []
  | n + 1, .lit (.int k x) => [.int k x]
  | n + 1, .lit (.string l) => [.string ⟨l.toArray⟩]
  | n + 1, .agg xs => xs.flatMap (cellsD n)
  | _, _ => []
noncomputable def lowN : Nat := (World.holding Tryd.prog default ⟨#[], #[], []⟩).heap.size
def textOf : DataW Unit → ByteArray
  | .iface _ (.ptr (.agg [.lit (.string l)])) => ⟨l.toArray⟩
  | _ => ⟨#[]⟩
noncomputable def tabledA (os : Os) : World :=
  let w0 := World.holding Tryd.prog os ⟨#[.cells #[.string (textOf Rows.laid_strconv_ErrRange)] 115, .cells #[.string (textOf Rows.laid_strconv_ErrSyntax)] 115], #[], []⟩
  { w0 with heap := (((((((w0.heap.modify 0 (layC mkC)).modify 7 (layC (cellsD 3 Rows.laid_math_bits_deBruijn32tab).toArray)).modify 8 (layC (cellsD 3 Rows.laid_math_bits_deBruijn64tab).toArray)).modify 4 (layC (cellsD 3 Rows.laid_internal_strconv_uint64pow10).toArray)).modify 6 (layC (cellsD 3 Rows.laid_unicode_utf8_acceptRanges).toArray)).modify 5 (layC (cellsD 3 Rows.laid_unicode_utf8_first).toArray)).modify 3 (layC #[.iface 113 (.pointer (some ⟨lowN, 0, none⟩))])).modify 2 (layC #[.iface 113 (.pointer (some ⟨lowN + 1, 0, none⟩))]) }
theorem tabledA_run (os : Os) (args : Array Value) : (DataW.laidRun Tryd.prog ((tabledA os).forCall (fun _ _ => 0) ⟨#[], args, []⟩).memory 8 (LA.map (·.1))).map (·.1) = some LA := by kernel_rfl
theorem tabledA_rows (os : Os) (args : Array Value) : (DataW.laidRun Tryd.prog ((tabledA os).forCall (fun _ _ => 0) ⟨#[], args, []⟩).memory 8 (LA.map (·.1))).map (fun x => decide x.2.Nodup && laidRowsB Tryd.prog ((tabledA os).forCall (fun _ _ => 0) ⟨#[], args, []⟩).memory x.2) = some true := by kernel_rfl
theorem tabledA_laid (os : Os) (args : Array Value) : laidA ((tabledA os).forCall (fun _ _ => 0) ⟨#[], args, []⟩).memory :=
  laidMet_of_run' 8 (tabledA_run os args) (tabledA_rows os args)
end Go.Proofs.YtfoilmhpoipmpaaDoor

import Derived.Test.YtdeollmeljaaoaaDoorCpk
/- The tables that the rows of Parse's laws list; a world in which they lie so. -/
namespace Go.Proofs.YtdeollmeljaaoaaDoor.rd
open Go.ChangeShapes Go.WideShapes Go.ChangeAt Go.RowKit Go.Proofs.YtdeollmeljaaoaaDoor.cs
set_option linter.unusedVariables false
set_option linter.unusedSimpArgs false
/-- All that Parse and Show want of the tables. -/
structure Tby (w : World) : Prop where
  p : Tbp w
  q : Tbq w
theorem Tby.below {w w' : World} (h : Tby w) (hb : Below w.heap.size w w') : Tby w' := ⟨h.p.below hb, h.q.below hb⟩
abbrev LY : List (String × DataW Unit) := [("padlock/lex.marks", Rows.laid_padlock_lex_marks), ("padlock/parse.worksOn", Rows.laid_padlock_parse_worksOn), ("padlock/parse.signs", Rows.laid_padlock_parse_signs), ("padlock/parse.comparisons", Rows.laid_padlock_parse_comparisons), ("padlock/parse.constants", Rows.laid_padlock_parse_constants), ("padlock/parse.kept", Rows.laid_padlock_parse_kept), ("padlock/parse.kinds", Rows.laid_padlock_parse_kinds)]
abbrev laidY : World → Prop := laidMet Tryd.prog LY
theorem Y_of {W : World} (h : laidY W) : Tby W := by
  obtain ⟨ps, ⟨g, t, cs, fuel, p, q, hg, ht, hv, hd, ⟨g1, t1, cs1, fuel1, p1, q1, hg1, ht1, hv1, hd1, ⟨g2, t2, cs2, fuel2, p2, q2, hg2, ht2, hv2, hd2, ⟨g3, t3, cs3, fuel3, p3, q3, hg3, ht3, hv3, hd3, ⟨g4, t4, cs4, fuel4, p4, q4, hg4, ht4, hv4, hd4, ⟨g5, t5, cs5, fuel5, p5, q5, hg5, ht5, hv5, hd5, ⟨g6, t6, cs6, fuel6, p6, q6, hg6, ht6, hv6, hd6, _, _⟩, _⟩, _⟩, _⟩, _⟩, _⟩, _⟩, _⟩ := h
  exact ⟨⟨⟨(mks_var hg ht hv hd), (wos_var hg1 ht1 hv1 hd1), (kps_var hg5 ht5 hv5 hd5), (kds_var hg6 ht6 hv6 hd6)⟩, (sgs_var hg2 ht2 hv2 hd2), (cos_var hg4 ht4 hv4 hd4)⟩, ⟨(mks_var hg ht hv hd), (kps_var hg5 ht5 hv5 hd5), (kds_var hg6 ht6 hv6 hd6), (sgs_var hg2 ht2 hv2 hd2), (cos_var hg4 ht4 hv4 hd4), (cms_var hg3 ht3 hv3 hd3)⟩⟩
noncomputable def tabledY (os : Os) : World :=
  { World.holding Tryd.prog os ⟨#[], #[], []⟩ with heap := ((((((((World.holding Tryd.prog os ⟨#[], #[], []⟩).heap.modify 5 (layC mkC)).modify 2 (layC woC)).modify 4 (layC sgC)).modify 6 (layC cmC)).modify 1 (layC coC)).modify 3 (layC kpC)).modify 0 (layC kdC)) }
theorem tabledY_laidY (os : Os) (args : Array Value) : laidY ((tabledY os).forCall (fun _ _ => 0) ⟨#[], args, []⟩).memory :=
  laidMet_of_run' 8 (by kernel_rfl) (by kernel_rfl)
end Go.Proofs.YtdeollmeljaaoaaDoor.rd

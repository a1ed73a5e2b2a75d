import Derived.Test.YtdeollmeljaaoaaDoorBak
/- What ParseMinus parses: a minus ahead of a number, between two, alone, ahead of a name. -/
namespace Go.Proofs.YtdeollmeljaaoaaDoor.rd
open Go.Proofs.YtdeollmeljaaoaaDoor.cs
set_option linter.unusedVariables false
set_option linter.unusedSimpArgs false
set_option maxHeartbeats 4000000
set_option maxRecDepth 100000
def colx : Oq := ⟨2, v0, ⟨#[120]⟩⟩
theorem st_neg (x : Int) : stmtF (headT ++ [mk_ [45], nu x]) 6 = .inr (delS [liq (-x)]) := by kernel_rfl
theorem st_sub (x : Int) : stmtF (headT ++ [wd [120], mk_ [45], nu x]) 7 = .inr (delS [colx, liq x, opO 9]) := by kernel_rfl
theorem st_subneg (x : Int) : stmtF (headT ++ [wd [120], mk_ [45], mk_ [45], nu x]) 8 = .inr (delS [colx, liq (-x), opO 9]) := by kernel_rfl
theorem st_alone : stmtF (headT ++ [mk_ [45]]) 5 = .inl (5, 7) := by kernel_rfl
theorem st_name : stmtF (headT ++ [mk_ [45], wd [120]]) 6 = .inl (5, 6) := by kernel_rfl
theorem tok_minus : tkF 4 [45] 0 = 0 := by decide
theorem tok_x : tkF 1 [120] 0 = 0 := by decide
theorem p_neg {x : Int} (h : 0 ≤ x) : parseF (headT ++ [mk_ [45], nu x]) = (delS [liq (-x)], 0, 0) := by
  refine parse_good (by show (6 : Nat) ≤ 100; omega) ?_ (st_neg x)
  intro t ht
  simp only [List.mem_append, List.mem_cons, List.not_mem_nil, or_false] at ht
  rcases ht with ht | rfl | rfl
  · exact head_ok t ht
  · exact tok_minus
  · exact tk_nu h
theorem p_sub {x : Int} (h : 0 ≤ x) : parseF (headT ++ [wd [120], mk_ [45], nu x]) = (delS [colx, liq x, opO 9], 0, 0) := by
  refine parse_good (by show (7 : Nat) ≤ 100; omega) ?_ (st_sub x)
  intro t ht
  simp only [List.mem_append, List.mem_cons, List.not_mem_nil, or_false] at ht
  rcases ht with ht | rfl | rfl | rfl
  · exact head_ok t ht
  · exact tok_x
  · exact tok_minus
  · exact tk_nu h
theorem p_subneg {x : Int} (h : 0 ≤ x) : parseF (headT ++ [wd [120], mk_ [45], mk_ [45], nu x]) = (delS [colx, liq (-x), opO 9], 0, 0) := by
  refine parse_good (by show (8 : Nat) ≤ 100; omega) ?_ (st_subneg x)
  intro t ht
  simp only [List.mem_append, List.mem_cons, List.not_mem_nil, or_false] at ht
  rcases ht with ht | rfl | rfl | rfl | rfl
  · exact head_ok t ht
  · exact tok_x
  · exact tok_minus
  · exact tok_minus
  · exact tk_nu h
theorem p_alone : parseF (headT ++ [mk_ [45]]) = (sqz, 5, 7) := by
  refine parse_flt (f := (5, 7)) (by show (5 : Nat) ≤ 100; omega) ?_ st_alone
  decide
theorem p_name : parseF (headT ++ [mk_ [45], wd [120]]) = (sqz, 5, 6) := by
  refine parse_flt (f := (5, 6)) (by show (6 : Nat) ≤ 100; omega) ?_ st_name
  decide
end Go.Proofs.YtdeollmeljaaoaaDoor.rd

import Derived.Test.YtdeollmeljaaoaaDoorCak
import Derived.Test.YtdeollmeljaaoaaDoorUhk
import Derived.Test.YtdeollmeljaaoaaDoorCpk
import Derived.Deep.RegionHeld3
import Derived.Deep.RegionWith
import Derived.Deep.RegionLaw
/- A statement in memory; what its parts lack, by the program's small functions. -/
namespace Go.Proofs.YtdeollmeljaaoaaDoor.cs
open Go.ChangeShapes Go.WideShapes Go.ChangeAt Go.RowKit
set_option linter.unusedVariables false
set_option linter.unusedSimpArgs false
set_option maxHeartbeats 2000000
/-- Where a statement's slices lie. -/
structure Ps where
  a2 : Option Addr
  n2 : Nat
  c2 : Nat
  a3 : Option Addr
  n3 : Nat
  c3 : Nat
  a4 : Option Addr
  n4 : Nat
  c4 : Nat
  a6 : Option Addr
  n6 : Nat
  c6 : Nat
  a11 : Option Addr
  n11 : Nat
  c11 : Nat
abbrev stC (s : Sq) (p : Ps) : Array Value := #[.int .i64 s.k, .string s.t, .slice p.a2 p.n2 p.c2, .slice p.a3 p.n3 p.c3, .slice p.a4 p.n4 p.c4, .bool s.cnt, .slice p.a6 p.n6 p.c6, .string s.ord, .bool s.dn, .int .i64 s.lim, .string s.st, .slice p.a11 p.n11 p.c11]
abbrev stV (s : Sq) (p : Ps) : Value := .agg (stC s p)
/-- What a statement's slices read as. -/
structure StR (w : World) (s : Sq) (p : Ps) : Prop where
  r2 : Rd w 2 p.n2 (.slice p.a2 p.n2 p.c2) (ccs s.cols)
  r3 : Rd w 3 p.n3 (.slice p.a3 p.n3 p.c3) (vc s.row)
  r4 : Rd w 1 p.n4 (.slice p.a4 p.n4 p.c4) (s.names.map Value.string)
  r6 : Rd w 5 p.n6 (.slice p.a6 p.n6 p.c6) (ocs s.wh)
  r11 : Rd w 5 p.n11 (.slice p.a11 p.n11 p.c11) (ocs s.to)
theorem len_s {w : World} {n : Nat} {v : Value} {l : List ByteArray} (h : Rd w 1 n v (l.map Value.string)) : n = l.length := by have := h.1; simp at this; omega
theorem StR.lens {w : World} {s : Sq} {p : Ps} (h : StR w s p) : p.n2 = s.cols.length ∧ p.n3 = s.row.length ∧ p.n4 = s.names.length ∧ p.n6 = s.wh.length ∧ p.n11 = s.to.length :=
  ⟨len_c h.r2, len_v h.r3, len_s h.r4, len_o h.r6, len_o h.r11⟩
theorem StR.below {w w' : World} {s : Sq} {p : Ps} (h : StR w s p) (hb : Below w.heap.size w w') : StR w' s p := ⟨h.r2.below hb, h.r3.below hb, h.r4.below hb, h.r6.below hb, h.r11.below hb⟩
/-- Block B is a statement. -/
structure StB (w : World) (B : Nat) (s : Sq) (p : Ps) : Prop where
  c0 : w.cell? ⟨B, 0, none⟩ = some (.int .i64 s.k)
  c1 : w.cell? ⟨B, 1, none⟩ = some (.string s.t)
  c2 : w.cell? ⟨B, 2, none⟩ = some (.slice p.a2 p.n2 p.c2)
  c3 : w.cell? ⟨B, 3, none⟩ = some (.slice p.a3 p.n3 p.c3)
  c4 : w.cell? ⟨B, 4, none⟩ = some (.slice p.a4 p.n4 p.c4)
  c5 : w.cell? ⟨B, 5, none⟩ = some (.bool s.cnt)
  c6 : w.cell? ⟨B, 6, none⟩ = some (.slice p.a6 p.n6 p.c6)
  c7 : w.cell? ⟨B, 7, none⟩ = some (.string s.ord)
  c8 : w.cell? ⟨B, 8, none⟩ = some (.bool s.dn)
  c9 : w.cell? ⟨B, 9, none⟩ = some (.int .i64 s.lim)
  c10 : w.cell? ⟨B, 10, none⟩ = some (.string s.st)
  c11 : w.cell? ⟨B, 11, none⟩ = some (.slice p.a11 p.n11 p.c11)
theorem StB.below {w w' : World} {B : Nat} {s : Sq} {p : Ps} (h : StB w B s p) (hb : Below w.heap.size w w') : StB w' B s p := by
  obtain ⟨c0, c1, c2, c3, c4, c5, c6, c7, c8, c9, c10, c11⟩ := h
  refine ⟨?_, ?_, ?_, ?_, ?_, ?_, ?_, ?_, ?_, ?_, ?_, ?_⟩
  · exact cell_blz hb c0
  · exact cell_blz hb c1
  · exact cell_blz hb c2
  · exact cell_blz hb c3
  · exact cell_blz hb c4
  · exact cell_blz hb c5
  · exact cell_blz hb c6
  · exact cell_blz hb c7
  · exact cell_blz hb c8
  · exact cell_blz hb c9
  · exact cell_blz hb c10
  · exact cell_blz hb c11
theorem sdrop_cons {l : List ByteArray} {k : Nat} (h : k < l.length) : l.drop k = l.getD k nby :: l.drop (k + 1) := by
  rw [List.drop_eq_getElem_cons h]
  simp [List.getD, List.getElem?_eq_getElem h]
end Go.Proofs.YtdeollmeljaaoaaDoor.cs
/- Values and names shown as tokens: the program. -/
namespace Go.Proofs.YtdeollmeljaaoaaDoor.cs
open Go.ChangeShapes Go.WideShapes Go.ChangeAt Go.RowKit
set_option linter.unusedVariables false
set_option linter.unusedSimpArgs false
set_option maxHeartbeats 4000000
set_option maxRecDepth 100000
/-- A value that may be shown. -/
def VOk (v : V) : Prop := litF v.k v.n v.t = 0 ∧ -9223372036854775808 ≤ v.n ∧ v.n ≤ 9223372036854775807
theorem VOk.kinds {v : V} (h : VOk v) : (v = ⟨0, 0, ⟨#[]⟩⟩ ∨ v = ⟨1, 0, ⟨#[]⟩⟩ ∨ v = ⟨1, 1, ⟨#[]⟩⟩) ∨ (v.k = 2 ∧ v.t = ⟨#[]⟩ ∧ -9223372036854775808 < v.n ∧ v.n ≤ 9223372036854775807) ∨ (v.k = 3 ∧ v.n = 0 ∧ v.t.size ≤ 20) := by
  obtain ⟨h1, h2, h3⟩ := h
  obtain ⟨k, n, t⟩ := v
  unfold litF at h1
  simp only at h1 h2 h3 ⊢
  split at h1
  · omega
  · rename_i hn
    have hs : k = 3 → t.size ≤ 20 := fun hk => by
      unfold chk at h1
      subst hk
      split at h1
      · omega
      · split at h1
        · omega
        · split at h1
          · omega
          · split at h1
            · omega
            · omega
    obtain ⟨g1, g2, g3, g4, g5, g6⟩ := chk0 h1
    have hk : k = 0 ∨ k = 1 ∨ k = 2 ∨ k = 3 := by omega
    rcases hk with rfl | rfl | rfl | rfl
    · rw [g3 (by omega), g4 rfl]; exact .inl (.inl rfl)
    · rw [g3 (by omega)]
      rcases g5 rfl with rfl | rfl
      · exact .inl (.inr (.inl rfl))
      · exact .inl (.inr (.inr rfl))
    · exact .inr (.inl ⟨rfl, g3 (by omega), by
        have : ¬ n = -9223372036854775808 := fun e => hn ⟨rfl, e⟩
        omega, h3⟩)
    · exact .inr (.inr ⟨rfl, g6 rfl, hs rfl⟩)
theorem con0 (w : World) : (Instr.index 103 (.agg coC) (.int .i64 (0 : Int))).run Tryd.prog w = .ok (.agg #[coC[0]!, coC[1]!, coC[2]!, coC[3]!]) w := by kernel_rfl
theorem con1 (w : World) : (Instr.index 103 (.agg coC) (.int .i64 (1 : Int))).run Tryd.prog w = .ok (.agg #[coC[4]!, coC[5]!, coC[6]!, coC[7]!]) w := by kernel_rfl
theorem con2 (w : World) : (Instr.index 103 (.agg coC) (.int .i64 (2 : Int))).run Tryd.prog w = .ok (.agg #[coC[8]!, coC[9]!, coC[10]!, coC[11]!]) w := by kernel_rfl
end Go.Proofs.YtdeollmeljaaoaaDoor.cs

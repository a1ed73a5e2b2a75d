/- A Create that makes columns: what it lacks, by the program. -/
import Derived.Test.YtcgomhcglnbalaaDoorQh
namespace Go.Proofs.YtcgomhcglnbalaaDoor
open Go.ChangeShapes Go.WideShapes Go.ChangeAt Go.RowKit
set_option linter.unusedVariables false
set_option linter.unusedSimpArgs false
set_option maxHeartbeats 4000000
/-- A Create of a table with these columns. -/
abbrev crC (t : ByteArray) (v : Value) : Array Value := #[.int .i64 1, .string t, v, .slice none 0 0, .slice none 0 0, .bool false, .slice none 0 0, .string ⟨#[]⟩, .bool false, .int .i64 (-1), .string ⟨#[]⟩, .slice none 0 0]
abbrev crV (t : ByteArray) (v : Value) : Value := .agg (crC t v)
/-- Block B is a Create. -/
structure CrB (w : World) (B : Nat) (t : ByteArray) (v : Value) : Prop where
  c0 : w.cell? ⟨B, 0, none⟩ = some (.int .i64 1)
  c1 : w.cell? ⟨B, 1, none⟩ = some (.string t)
  c2 : w.cell? ⟨B, 2, none⟩ = some v
  c3 : w.cell? ⟨B, 3, none⟩ = some (.slice none 0 0)
  c4 : w.cell? ⟨B, 4, none⟩ = some (.slice none 0 0)
  c5 : w.cell? ⟨B, 5, none⟩ = some (.bool false)
  c6 : w.cell? ⟨B, 6, none⟩ = some (.slice none 0 0)
  c7 : w.cell? ⟨B, 7, none⟩ = some (.string ⟨#[]⟩)
  c8 : w.cell? ⟨B, 8, none⟩ = some (.bool false)
  c9 : w.cell? ⟨B, 9, none⟩ = some (.int .i64 (-1))
  c10 : w.cell? ⟨B, 10, none⟩ = some (.string ⟨#[]⟩)
  c11 : w.cell? ⟨B, 11, none⟩ = some (.slice none 0 0)
theorem CrB.new (w : World) (t : ByteArray) (v : Value) {w1 : World} (hb : Below (w.alloc (.cells (crC t v) 49)).heap.size (w.alloc (.cells (crC t v) 49)) w1) : CrB w1 w.heap.size t v := by
  have h1 : w1.heap[w.heap.size]? = some (.cells (crC t v) 49 (0, 0)) := (hb.block w.heap.size (by simp)).trans (new0 _ _)
  refine ⟨?_, ?_, ?_, ?_, ?_, ?_, ?_, ?_, ?_, ?_, ?_, ?_⟩ <;> simp [World.cell?, h1]
set_option maxRecDepth 100000 in
theorem hasMore_create (w : World) (t : ByteArray) (ao : Option Addr) (n cap : Nat) : Calls Tryd.prog 33 #[crV t (.slice ao n cap)] w fun e w' => e = .returned (.bool false) ∧ Below w.heap.size w w' := by
  have hE : (({ data := #[] } : ByteArray) ++ { data := #[] } ++ { data := #[] }).toList.isEmpty = true := by decide +kernel
  go_enter Tryd.func33, Tryd.ntmps33
  go_wp2_with fail
  go_ret
  exact ⟨rfl, (Below.refl _ _).alloc (Nat.le_refl _) _⟩
set_option maxRecDepth 100000 in
theorem checkParts_create (w : World) (hM : Mk w) (hK : Kt w) (t : ByteArray) (n : Nat) (v : Value) (l : List Cq) (hr : Rd w 2 n v (ccs l)) (hs : ∀ c ∈ l, c.t.size ≤ maxLen) :
    Calls Tryd.prog 32 #[crV t v] w fun e w' => e = .returned (.int .i64 (colsF l)) ∧ Below w.heap.size w w' := by
  have hb0 : Below w.heap.size w (w.alloc (.cells (crC t v) 49)) := (Below.refl _ _).alloc (Nat.le_refl _) _
  have HC := Lib.hid (checkCols_any _ (hM.below hb0) (hK.below hb0) n v l (hr.below hb0) hs)
  have HB0 := Lib.hid hb0
  clear hb0 hr hM hK hs
  go_enter Tryd.func32, Tryd.ntmps32
  go_wp2_with fail
  refine HC.out.mono ?_
  rintro e w1 ⟨rfl, hb⟩
  go_wp2_with fail
  go_ret
  exact ⟨rfl, into HB0.out hb⟩
end Go.Proofs.YtcgomhcglnbalaaDoor

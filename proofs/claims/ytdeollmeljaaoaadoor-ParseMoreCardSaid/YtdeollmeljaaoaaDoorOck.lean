import Derived.Test.YtdeollmeljaaoaaDoorQok
import Derived.Deep.RegionHeld3
import Derived.Deep.RegionWith
import Derived.Deep.RegionLaw
import Derived.Lib.BufferMore
set_option linter.unusedVariables false
set_option linter.unusedSimpArgs false
set_option maxHeartbeats 4000000
set_option maxRecDepth 1000000
open Go.ChangeAt Go.ChangeShapes Go.RowKit Go.WideShapes
open Go.Lib (hid)
namespace Go.Proofs.YtdeollmeljaaoaaDoor.tw
def regionOf (n : Nat) : Code → Option Code
 | .region i o d => if i = n then some (.region i o d) else none
 | .seq a b => (regionOf n a).or (regionOf n b)
 | .block _ c => regionOf n c
 | .loop c => regionOf n c
 | .scope c => regionOf n c
 | .cond _ a b => (regionOf n a).or (regionOf n b)
 | _ => none
def NQ (Q : Exit → Act → World → Prop) : Exit → Act → World → Prop
 | .normal, a, w => Q .normal a w
 | _, _, _ => False
theorem nq_to {Q : Exit → Act → World → Prop} : ∀ e a w, NQ Q e a w → Q e a w := by
 intro e a w h
 cases e <;> first | exact h | exact h.elim
theorem cell_of_below {W W' : World} {a : Addr} {v : Value} (hb : Below W.heap.size W W') (h : W.cell? a = some v) : W'.cell? a = some v := (hb.cell (lt_cell h)).trans h
theorem cell_al {W : World} {a : Addr} {v : Value} (o : Obj) (h : W.cell? a = some v) : (W.alloc o).cell? a = some v := (World.cell?_of_block (Below.heap_alloc W _ _ (lt_cell h))).trans h
theorem cell_dr {W : World} {a : Addr} {v : Value} (h : W.cell? a = some v) : W.drew.cell? a = some v := by simpa using h
theorem box3 {w : World} {B : Nat} {x0 x1 x2 : Value} {T : TypeId} (h : w.heap[B]? = some (.cells #[x0, x1, x2] T (0, 0))) :
  w.cell? ⟨B, 0, none⟩ = some x0 ∧ w.cell? ⟨B, 1, none⟩ = some x1 ∧ w.cell? ⟨B, 2, none⟩ = some x2 ∧ w.frozen? ⟨B, 0, none⟩ = false ∧ w.frozen? ⟨B, 1, none⟩ = false ∧ w.frozen? ⟨B, 2, none⟩ = false := by
 refine ⟨?_, ?_, ?_, ?_, ?_, ?_⟩ <;> simp [World.cell?, World.frozen?, h]
theorem box_after {w1 w2 : World} {C : Array Value} {T : TypeId} (hb : Below ((w1.alloc (.cells C T)).drew).heap.size (w1.alloc (.cells C T)).drew w2) : w2.heap[w1.heap.size]? = some (.cells C T (0, 0)) :=
 (hb.block w1.heap.size (by simp)).trans (new0 w1 (.cells C T))
theorem all3 {w : World} {C : Nat} {z0 z1 z2 : Value} {T : TypeId} (h : w.heap[C]? = some (.cells #[z0, z1, z2] T (0, 0))) (a b c : Value) :
  (((w.setCell ⟨C, 0, none⟩ a).setCell ⟨C, 1, none⟩ b).setCell ⟨C, 2, none⟩ c).heap[C]? = some (.cells #[a, b, c] T (0, 0)) := by
 have h1 := Lib.heap_setCell_same (i := 0) h a
 have h2 := Lib.heap_setCell_same (i := 1) h1 b
 have h3 := Lib.heap_setCell_same (i := 2) h2 c
 exact h3
theorem lit7 (Q : Exit → Act → World → Prop) {c0 c1 c3 c4 c5 c6 c7 c8 c9 c10 c11 c12 c13 c14 c15 c16 c17 c18 c19 c20 c21 c22 c23 c24 c25 c26 c27 c28 c29 c30 c31 c32 c33 c34 c35 c36 c37 c38 c39 c40 c41 c42 c43 c44 c45 c46 c47 c48 c49 c50 c51 c52 c53 c54 c55 c56 c57 c58 c59 c60 c61 c62 c63 c64 c65 c66 c67 c68 : Value} (w0 : World) (P : Nat) (hP : P < w0.heap.size) (n p rk rn : Int) (s rt : ByteArray) (h0 : 0 ≤ p) (h1 : p < 40)
  (p1 : w0.cell? ⟨P, 1, none⟩ = some (.int .i64 n)) (p2 : w0.cell? ⟨P, 2, none⟩ = some (.string s))
  (PC : Hid (∀ W, Calls Tryd.prog 14 #[.int .i64 n, .int .i64 40] W fun e w' => e = .returned (.int .i64 p) ∧ W = w'))
  (VC : Hid (∀ W, Calls Tryd.prog 15 #[.agg #[.int .i64 n, .int .i64 (IntKind.i64.wrap (p - 20)), .string s]] W fun e w' => e = .returned (.agg #[.int .i64 rk, .int .i64 rn, .string rt]) ∧ Below W.heap.size W w'))
  (hout : Hid (∀ (u22 u23 u24 u25 u26 u27 u28 u29 u30 u31 : Value) (C : Nat) (w' : World), w0.heap.size ≤ C → C < w'.heap.size → w'.heap[C]? = some (.cells #[.int .i64 rk, .int .i64 rn, .string rt] 50 (0, 0)) → Below w0.heap.size w0 w' → Q .normal ⟨List.toArray (c0 :: c1 :: (.pointer (some ⟨P, 0, none⟩)) :: c3 :: c4 :: c5 :: c6 :: (.pointer (some ⟨C, 0, none⟩)) :: c8 :: c9 :: c10 :: c11 :: c12 :: c13 :: c14 :: c15 :: c16 :: c17 :: c18 :: c19 :: c20 :: c21 :: u22 :: u23 :: u24 :: u25 :: u26 :: u27 :: u28 :: u29 :: u30 :: u31 :: c32 :: c33 :: c34 :: c35 :: c36 :: c37 :: c38 :: c39 :: c40 :: c41 :: c42 :: c43 :: c44 :: c45 :: c46 :: c47 :: c48 :: c49 :: c50 :: c51 :: c52 :: c53 :: c54 :: c55 :: c56 :: c57 :: c58 :: c59 :: c60 :: c61 :: c62 :: c63 :: c64 :: c65 :: c66 :: c67 :: c68 :: []), []⟩ w')) :
  Code.wp Tryd.prog ((regionOf 7 (Tryd.f32.body.getD .skip)).getD .skip) Q ⟨List.toArray (c0 :: c1 :: (.pointer (some ⟨P, 0, none⟩)) :: c3 :: c4 :: c5 :: c6 :: c7 :: c8 :: c9 :: c10 :: c11 :: c12 :: c13 :: c14 :: c15 :: c16 :: c17 :: c18 :: c19 :: c20 :: c21 :: c22 :: c23 :: c24 :: c25 :: c26 :: c27 :: c28 :: c29 :: c30 :: c31 :: c32 :: c33 :: c34 :: c35 :: c36 :: c37 :: c38 :: c39 :: c40 :: c41 :: c42 :: c43 :: c44 :: c45 :: c46 :: c47 :: c48 :: c49 :: c50 :: c51 :: c52 :: c53 :: c54 :: c55 :: c56 :: c57 :: c58 :: c59 :: c60 :: c61 :: c62 :: c63 :: c64 :: c65 :: c66 :: c67 :: c68 :: []), []⟩ w0 := by
 refine Code.wp_mono (Q := NQ Q) nq_to ?_
 conv => arg 2; whnf
 have HBA := hid (fun (C : Array Value) (T : TypeId) => ((Below.refl w0.heap.size w0).alloc (Nat.le_refl _) (.cells C T)).drew)
 have HBD : Hid (Below w0.heap.size w0 w0.drew) := hid ((Below.refl _ _).drew)
 have n1 : w0.heap.size ≠ P := by omega
 go_region_held3 (fun wx => wx.cell? ⟨P, 1, none⟩ = some (.int .i64 n) ∧ wx.cell? ⟨P, 2, none⟩ = some (.string s))
  ((first
   | (simp only [World.cell?_setCell_far, n1, ne_eq, not_false_eq_true]; with_reducible exact ⟨cell_of_below hb2 (cell_dr (cell_al _ p1)), cell_of_below hb2 (cell_dr (cell_al _ p2))⟩)
   | (with_reducible exact ⟨cell_al _ (cell_of_below hb2 (cell_dr p1)), cell_al _ (cell_of_below hb2 (cell_dr p2))⟩)
   | (with_reducible exact ⟨cell_dr p1, cell_dr p2⟩)
   | (with_reducible exact ⟨cell_dr (cell_al _ p1), cell_dr (cell_al _ p2)⟩)
   | (with_reducible exact ⟨cell_of_below hb2 (cell_dr p1), cell_of_below hb2 (cell_dr p2)⟩)
   | (with_reducible exact ⟨cell_of_below hb2 (cell_dr (cell_al _ p1)), cell_of_below hb2 (cell_dr (cell_al _ p2))⟩)))
  ((first
   | (go_at_call 14; ((with_reducible refine (PC.out _).mono ?_); rintro e w' ⟨rfl, rfl⟩))
   | (go_at_call 15; ((with_reducible refine (VC.out w0.drew).mono ?_); rintro e w2 ⟨rfl, hb2⟩))
   | (go_at_call 15; ((with_reducible refine (VC.out _).mono ?_); rintro e w2 ⟨rfl, hb2⟩); have hq := box3 (box_after hb2))))
 ·have hz2 : w0.heap.size ≤ w2.heap.size := hb2.size
  exact hout.out _ _ _ _ _ _ _ _ _ _ w2.heap.size _ hz2 (by simp) (new0 _ _) ((into HBD.out hb2).alloc hz2 _)
 all_goals (
  have hz2 := hb2.size
  have hz3 : w0.heap.size + 1 ≤ w2.heap.size := by simpa using hz2
  exact hout.out _ _ _ _ _ _ _ _ _ _ w0.heap.size _ (Nat.le_refl _) (by simp; omega) (all3 (box_after hb2) _ _ _) ((((into (HBA.out _ _) hb2).setCell (p := ⟨w0.heap.size, 0, none⟩) (Nat.le_refl _) _).setCell (p := ⟨w0.heap.size, 1, none⟩) (Nat.le_refl _) _).setCell (p := ⟨w0.heap.size, 2, none⟩) (Nat.le_refl _) _))
end Go.Proofs.YtdeollmeljaaoaaDoor.tw

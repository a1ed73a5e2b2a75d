/- Leaving: the two regions that take a transaction's locks away. -/
import Derived.Test.YtpddlckkncmlmaaDoorMp
import Derived.Deep.RegionWith
namespace Go.Proofs.YtpddlckkncmlmaaDoor
open Go.ChangeShapes Go.WideShapes Go.ChangeAt Go.RowKit
set_option linter.unusedVariables false
set_option linter.unusedSimpArgs false
set_option maxHeartbeats 8000000
set_option maxRecDepth 100000
/-- A region by its number. -/
def regionOf (n : Nat) : Code → Option Code
  | .region i o d => if i = n then some (.region i o d) else none
  | .seq a b => (regionOf n a).or (regionOf n b)
  | .block _ c => regionOf n c
  | .loop c => regionOf n c
  | .scope c => regionOf n c
  | .cond _ a b => (regionOf n a).or (regionOf n b)
  | _ => none
/-- What is asked at a normal end alone. -/
def NQ (Q : Exit → Act → World → Prop) : Exit → Act → World → Prop
  | .normal, a, w => Q .normal a w
  | _, _, _ => False
theorem nq_to {Q : Exit → Act → World → Prop} : ∀ e a w, NQ Q e a w → Q e a w := by
  intro e a w h
  cases e <;> first | exact h | exact h.elim
theorem lv6 (Q : Exit → Act → World → Prop) (c0 c3 c4 c5 c6 c7 c8 c9 c10 c11 c12 c13 c14 c15 c16 c17 c18 c19 c20 c21 c22 c23 c24 c25 c26 c27 c28 c29 c30 c31 c32 c33 c34 c35 c36 c37 c38 c39 c40 c41 c42 c43 c44 c45 c46 c47 c48 c49 c50 c51 c52 c53 c54 c55 c56 c57 c58 c59 c60 c61 c62 c63 : Value) (w0 : World) (P n c1 : Nat) (a1 : Option Addr) (t : Int) (R : World → Option Addr → Nat → Nat → Prop)
    (p0 : w0.cell? ⟨P, 0, none⟩ = some (.slice a1 n c1)) (f0 : w0.frozen? ⟨P, 0, none⟩ = false)
    (HOF : Hid (∀ W, Below w0.heap.size w0 W → Calls Tryd.prog 32 #[.int .i64 t] W fun e w' => ∃ Pc : Nat, e = .returned (.func (.func 53) #[] #[.pointer (some ⟨Pc, 0, none⟩)]) ∧ Below w0.heap.size w0 w' ∧
      Calls Tryd.prog 31 #[.slice a1 n c1, .func (.func 53) #[] #[.pointer (some ⟨Pc, 0, none⟩)]] w' fun e w2 => ∃ a m c, e = .returned (.slice a m c) ∧ R w2 a m c ∧ w2.cell? ⟨P, 0, none⟩ = some (.slice a1 n c1) ∧ w2.frozen? ⟨P, 0, none⟩ = false))
    (hout : Hid (∀ (u22 u23 u24 u25 u26 u27 : Value) (w2 : World) (a : Option Addr) (m c : Nat), R w2 a m c → Q .normal ⟨List.toArray (c0 :: (.int .i64 t) :: (.pointer (some ⟨P, 0, none⟩)) :: c3 :: c4 :: c5 :: c6 :: c7 :: c8 :: c9 :: c10 :: c11 :: c12 :: c13 :: c14 :: c15 :: c16 :: c17 :: c18 :: c19 :: c20 :: c21 :: u22 :: u23 :: u24 :: u25 :: u26 :: u27 :: c28 :: c29 :: c30 :: c31 :: c32 :: c33 :: c34 :: c35 :: c36 :: c37 :: c38 :: c39 :: c40 :: c41 :: c42 :: c43 :: c44 :: c45 :: c46 :: c47 :: c48 :: c49 :: c50 :: c51 :: c52 :: c53 :: c54 :: c55 :: c56 :: c57 :: c58 :: c59 :: c60 :: c61 :: c62 :: c63 :: []), []⟩ (w2.setCell ⟨P, 0, none⟩ (.slice a m c)))) :
    Code.wp Tryd.prog ((regionOf 6 (Tryd.f13.body.getD .skip)).getD .skip) Q ⟨List.toArray (c0 :: (.int .i64 t) :: (.pointer (some ⟨P, 0, none⟩)) :: c3 :: c4 :: c5 :: c6 :: c7 :: c8 :: c9 :: c10 :: c11 :: c12 :: c13 :: c14 :: c15 :: c16 :: c17 :: c18 :: c19 :: c20 :: c21 :: c22 :: c23 :: c24 :: c25 :: c26 :: c27 :: c28 :: c29 :: c30 :: c31 :: c32 :: c33 :: c34 :: c35 :: c36 :: c37 :: c38 :: c39 :: c40 :: c41 :: c42 :: c43 :: c44 :: c45 :: c46 :: c47 :: c48 :: c49 :: c50 :: c51 :: c52 :: c53 :: c54 :: c55 :: c56 :: c57 :: c58 :: c59 :: c60 :: c61 :: c62 :: c63 :: []), []⟩ w0 := by
  refine Code.wp_mono (Q := NQ Q) nq_to ?_
  conv => arg 2; whnf
  have HD : Hid (Below w0.heap.size w0 w0.drew) := (Below.refl _ _).drew
  go_region_with ((first
    | (go_at_call 32; ((with_reducible refine (HOF.out w0.drew HD.out).mono ?_); rintro e w1 ⟨Pc, rfl, hb1, hd⟩; have p1 := cell_of_below hb1 p0))
    | (go_at_call 31; ((with_reducible refine hd.mono ?_); rintro e w2 ⟨a, m, c, rfl, hR, q0, g0⟩))))
  all_goals exact hout.out _ _ _ _ _ _ w2 a m c hR
theorem lv7 (Q : Exit → Act → World → Prop) (c0 c3 c4 c5 c6 c7 c8 c9 c10 c11 c12 c13 c14 c15 c16 c17 c18 c19 c20 c21 c22 c23 c24 c25 c26 c27 c28 c29 c30 c31 c32 c33 c34 c35 c36 c37 c38 c39 c40 c41 c42 c43 c44 c45 c46 c47 c48 c49 c50 c51 c52 c53 c54 c55 c56 c57 c58 c59 c60 c61 c62 c63 : Value) (w0 : World) (P n c1 : Nat) (a1 : Option Addr) (t : Int) (R : World → Option Addr → Nat → Nat → Prop)
    (p0 : w0.cell? ⟨P, 1, none⟩ = some (.slice a1 n c1)) (f0 : w0.frozen? ⟨P, 1, none⟩ = false)
    (HOF : Hid (∀ W, Below w0.heap.size w0 W → Calls Tryd.prog 32 #[.int .i64 t] W fun e w' => ∃ Pc : Nat, e = .returned (.func (.func 53) #[] #[.pointer (some ⟨Pc, 0, none⟩)]) ∧ Below w0.heap.size w0 w' ∧
      Calls Tryd.prog 31 #[.slice a1 n c1, .func (.func 53) #[] #[.pointer (some ⟨Pc, 0, none⟩)]] w' fun e w2 => ∃ a m c, e = .returned (.slice a m c) ∧ R w2 a m c ∧ w2.cell? ⟨P, 1, none⟩ = some (.slice a1 n c1) ∧ w2.frozen? ⟨P, 1, none⟩ = false))
    (hout : Hid (∀ (u28 u29 u30 u31 u32 u33 : Value) (w2 : World) (a : Option Addr) (m c : Nat), R w2 a m c → Q .normal ⟨List.toArray (c0 :: (.int .i64 t) :: (.pointer (some ⟨P, 0, none⟩)) :: c3 :: c4 :: c5 :: c6 :: c7 :: c8 :: c9 :: c10 :: c11 :: c12 :: c13 :: c14 :: c15 :: c16 :: c17 :: c18 :: c19 :: c20 :: c21 :: c22 :: c23 :: c24 :: c25 :: c26 :: c27 :: u28 :: u29 :: u30 :: u31 :: u32 :: u33 :: c34 :: c35 :: c36 :: c37 :: c38 :: c39 :: c40 :: c41 :: c42 :: c43 :: c44 :: c45 :: c46 :: c47 :: c48 :: c49 :: c50 :: c51 :: c52 :: c53 :: c54 :: c55 :: c56 :: c57 :: c58 :: c59 :: c60 :: c61 :: c62 :: c63 :: []), []⟩ (w2.setCell ⟨P, 1, none⟩ (.slice a m c)))) :
    Code.wp Tryd.prog ((regionOf 7 (Tryd.f13.body.getD .skip)).getD .skip) Q ⟨List.toArray (c0 :: (.int .i64 t) :: (.pointer (some ⟨P, 0, none⟩)) :: c3 :: c4 :: c5 :: c6 :: c7 :: c8 :: c9 :: c10 :: c11 :: c12 :: c13 :: c14 :: c15 :: c16 :: c17 :: c18 :: c19 :: c20 :: c21 :: c22 :: c23 :: c24 :: c25 :: c26 :: c27 :: c28 :: c29 :: c30 :: c31 :: c32 :: c33 :: c34 :: c35 :: c36 :: c37 :: c38 :: c39 :: c40 :: c41 :: c42 :: c43 :: c44 :: c45 :: c46 :: c47 :: c48 :: c49 :: c50 :: c51 :: c52 :: c53 :: c54 :: c55 :: c56 :: c57 :: c58 :: c59 :: c60 :: c61 :: c62 :: c63 :: []), []⟩ w0 := by
  refine Code.wp_mono (Q := NQ Q) nq_to ?_
  conv => arg 2; whnf
  have HD : Hid (Below w0.heap.size w0 w0.drew) := (Below.refl _ _).drew
  go_region_with ((first
    | (go_at_call 32; ((with_reducible refine (HOF.out w0.drew HD.out).mono ?_); rintro e w1 ⟨Pc, rfl, hb1, hd⟩; have p1 := cell_of_below hb1 p0))
    | (go_at_call 31; ((with_reducible refine hd.mono ?_); rintro e w2 ⟨a, m, c, rfl, hR, q0, g0⟩))))
  all_goals exact hout.out _ _ _ _ _ _ w2 a m c hR
end Go.Proofs.YtpddlckkncmlmaaDoor

import Derived.Test.YtdeollmeljaaoaaDoorQhk
import Derived.Deep.RegionHeld3
import Derived.Deep.RegionWith
import Derived.Deep.RegionLaw
set_option linter.unusedVariables false
set_option linter.unusedSimpArgs false
set_option maxHeartbeats 4000000
set_option maxRecDepth 1000000
open Go.ChangeAt Go.ChangeShapes Go.RowKit Go.WideShapes
namespace Go.Proofs.YtdeollmeljaaoaaDoor
abbrev sCREATE : ByteArray := ⟨#[67, 82, 69, 65, 84, 69]⟩
abbrev sTABLE : ByteArray := ⟨#[84, 65, 66, 76, 69]⟩
abbrev sOpen : ByteArray := ⟨#[40]⟩
abbrev sClose : ByteArray := ⟨#[41]⟩
def crT (t : ByteArray) (l : List Cq) : List Tk := [ptk sCREATE, ptk sTABLE, ptk t, ptk sOpen] ++ (btw comma shC l ++ [ptk sClose])
theorem crT_len (t : ByteArray) (l : List Cq) : (crT t l).length ≤ l.length * 3 + 5 := by
 have := btwc_len l
 unfold crT
 simp only [List.length_append, List.length_cons, List.length_nil]
 omega
theorem concat3 (w : World) (v v1 v2 v3 : Value) (l1 l2 l3 : List Tk) (n1 n2 n3 : Nat) (hr : Rd w 1 3 v [v1, v2, v3]) (h1 : Rd w 3 n1 v1 (tkc l1)) (h2 : Rd w 3 n2 v2 (tkc l2)) (h3 : Rd w 3 n3 v3 (tkc l3)) (hT : l1.length + (l2.length + l3.length) ≤ 1000000) :
  Calls Tryd.prog 33 #[v] w (ToksIs (l1 ++ (l2 ++ l3)) w) := by
 have q1 : n1 = l1.length := by have := h1.1; rw [tkc_length] at this; omega
 have q2 : n2 = l2.length := by have := h2.1; rw [tkc_length] at this; omega
 have q3 : n3 = l3.length := by have := h3.1; rw [tkc_length] at this; omega
 subst q1 q2 q3
 have e : ptl [⟨v1, l1⟩, ⟨v2, l2⟩, ⟨v3, l3⟩] = l1 ++ (l2 ++ l3) := by simp [ptl]
 refine (concat_any w 3 v [⟨v1, l1⟩, ⟨v2, l2⟩, ⟨v3, l3⟩] (by omega) (by omega) hr ?_ (by rw [e]; simp only [List.length_append]; exact hT)).mono ?_
 ·intro p hp
  simp only [List.mem_cons, List.not_mem_nil, or_false] at hp
  rcases hp with rfl | rfl | rfl
  ·exact h1
  ·exact h2
  ·exact h3
 ·rintro e' w' ⟨v', g1, g2, g3⟩
  rw [e] at g2
  exact ⟨v', g1, g2, g3⟩
theorem own_shape {w : World} {B e s n : Nat} {v : Value} {xs : List Value} (h : w.ownsRow B e s v n xs) : ∃ ao cap, v = .slice ao n cap := by
 obtain ⟨_, ao, cap, h1, _⟩ := Rd.own h
 exact ⟨ao, cap, h1⟩
theorem rd_drew {w : World} {s n : Nat} {v : Value} {xs : List Value} (h : Rd w s n v xs) : Rd w.drew s n v xs := h.below (Below.refl _ _).drew
theorem rd_alloc {w : World} {s n : Nat} {v : Value} {xs : List Value} (h : Rd w s n v xs) (o : Obj) : Rd (w.alloc o) s n v xs := h.below ((Below.refl _ _).alloc (Nat.le_refl _) _)
theorem rd_sl3 (w : World) (a b c : Value) (B : Nat) (hB : w.heap.size = B) : Rd (w.alloc (.cells #[a, b, c] 35)) 1 3 (.slice (some ⟨B, 0, none⟩) 3 3) [a, b, c] := by
 subst hB
 exact Rd.own (World.ownsRow_lit (base := w.heap.size) w #[a, b, c] 3 (Nat.le_refl _) (by unfold maxLen; omega) rfl)
def regionOf (n : Nat) : Code → Option Code
 | .region i o d => if i = n then some (.region i o d) else none
 | .seq a b => (regionOf n a).or (regionOf n b)
 | .block _ c => regionOf n c
 | .loop c => regionOf n c
 | .scope c => regionOf n c
 | .cond _ a b => (regionOf n a).or (regionOf n b)
 | _ => none
def NQ (Q : Exit → Act → World → Prop) : Exit → Act → World → Prop
 | .normal, a, w => Q .normal a w
 | _, _, _ => False
theorem nq_to {Q : Exit → Act → World → Prop} : ∀ e a w, NQ Q e a w → Q e a w := by
 intro e a w h
 cases e <;> first | exact h | exact h.elim
theorem cell_of_below {W W' : World} {a : Addr} {v : Value} (hb : Below W.heap.size W W') (h : W.cell? a = some v) : W'.cell? a = some v := (hb.cell (lt_cell h)).trans h
theorem cell_al {W : World} {a : Addr} {v : Value} (o : Obj) (h : W.cell? a = some v) : (W.alloc o).cell? a = some v := (World.cell?_of_block (Below.heap_alloc W _ _ (lt_cell h))).trans h
theorem cell_dr {W : World} {a : Addr} {v : Value} (h : W.cell? a = some v) : W.drew.cell? a = some v := by simpa using h
theorem show3 (Q : Exit → Act → World → Prop) {c0 c2 c3 c4 c5 c6 c7 c8 c9 c10 c11 c12 c13 c14 c15 c16 c17 c18 c19 c20 c21 c22 c23 c24 c25 c26 c27 c28 c29 c30 c31 c32 c33 c34 c35 c36 c37 c38 c39 c40 c41 c42 c43 c44 c45 c46 c47 c48 c49 c50 c51 c52 c53 c54 c55 c56 c57 c58 c59 c60 c61 c62 c63 c64 c65 c66 c67 c68 c69 c70 c71 c72 c73 c74 c75 c76 c77 : Value} (w0 : World) (P : Nat) (hP : P < w0.heap.size) (t : ByteArray) (ao : Option Addr) (n cap : Nat) (L : List Tk)
  (p1 : w0.cell? ⟨P, 1, none⟩ = some (.string t)) (p2 : w0.cell? ⟨P, 2, none⟩ = some (.slice ao n cap))
  (HP4 : Hid (∀ W B, Below w0.heap.size w0 W → Rd W 1 4 (.slice (some ⟨B, 0, none⟩) 4 4) ([sCREATE, sTABLE, t, sOpen].map Value.string) → Calls Tryd.prog 34 #[.slice (some ⟨B, 0, none⟩) 4 4] W (ToksIs [ptk sCREATE, ptk sTABLE, ptk t, ptk sOpen] W)))
  (HP1 : Hid (∀ W B, Below w0.heap.size w0 W → Rd W 1 1 (.slice (some ⟨B, 0, none⟩) 1 1) ([sClose].map Value.string) → Calls Tryd.prog 34 #[.slice (some ⟨B, 0, none⟩) 1 1] W (ToksIs [ptk sClose] W)))
  (HBT : Hid (∀ W, Below w0.heap.size w0 W → Calls Tryd.prog 35 #[.slice ao n cap, .func (.func 36) #[] #[]] W (ToksIs L W)))
  (HLN : Hid ([ptk sCREATE, ptk sTABLE, ptk t, ptk sOpen].length + (L.length + [ptk sClose].length) ≤ 1000000))
  (hout : Hid (∀ (u7 u8 u9 u10 u11 u12 u13 u14 u15 u16 u17 : Value) (v5 : Value) (w' : World), ToksIs ([ptk sCREATE, ptk sTABLE, ptk t, ptk sOpen] ++ (L ++ [ptk sClose])) w0 (.returned v5) w' → Q .normal ⟨List.toArray (c0 :: (.pointer (some ⟨P, 0, none⟩)) :: v5 :: c3 :: c4 :: c5 :: c6 :: u7 :: u8 :: u9 :: u10 :: u11 :: u12 :: u13 :: u14 :: u15 :: u16 :: u17 :: c18 :: c19 :: c20 :: c21 :: c22 :: c23 :: c24 :: c25 :: c26 :: c27 :: c28 :: c29 :: c30 :: c31 :: c32 :: c33 :: c34 :: c35 :: c36 :: c37 :: c38 :: c39 :: c40 :: c41 :: c42 :: c43 :: c44 :: c45 :: c46 :: c47 :: c48 :: c49 :: c50 :: c51 :: c52 :: c53 :: c54 :: c55 :: c56 :: c57 :: c58 :: c59 :: c60 :: c61 :: c62 :: c63 :: c64 :: c65 :: c66 :: c67 :: c68 :: c69 :: c70 :: c71 :: c72 :: c73 :: c74 :: c75 :: c76 :: c77 :: []), []⟩ w')) :
  Code.wp Tryd.prog ((regionOf 3 (Tryd.f24.body.getD .skip)).getD .skip) Q ⟨List.toArray (c0 :: (.pointer (some ⟨P, 0, none⟩)) :: c2 :: c3 :: c4 :: c5 :: c6 :: c7 :: c8 :: c9 :: c10 :: c11 :: c12 :: c13 :: c14 :: c15 :: c16 :: c17 :: c18 :: c19 :: c20 :: c21 :: c22 :: c23 :: c24 :: c25 :: c26 :: c27 :: c28 :: c29 :: c30 :: c31 :: c32 :: c33 :: c34 :: c35 :: c36 :: c37 :: c38 :: c39 :: c40 :: c41 :: c42 :: c43 :: c44 :: c45 :: c46 :: c47 :: c48 :: c49 :: c50 :: c51 :: c52 :: c53 :: c54 :: c55 :: c56 :: c57 :: c58 :: c59 :: c60 :: c61 :: c62 :: c63 :: c64 :: c65 :: c66 :: c67 :: c68 :: c69 :: c70 :: c71 :: c72 :: c73 :: c74 :: c75 :: c76 :: c77 :: []), []⟩ w0 := by
 refine Code.wp_mono (Q := NQ Q) nq_to ?_
 conv => arg 2; whnf
 have hB0 : Below w0.heap.size w0 w0 := Below.refl _ _
 go_region_held3 (fun wx => wx.cell? ⟨P, 1, none⟩ = some (.string t) ∧ wx.cell? ⟨P, 2, none⟩ = some (.slice ao n cap))
  ((constructor <;> (repeat' (first | (with_reducible assumption) | (with_reducible refine cell_dr ?_) | (with_reducible refine cell_al _ ?_) | (with_reducible refine cell_of_below hb5 ?_) | (with_reducible refine cell_of_below hb4 ?_) | (with_reducible refine cell_of_below hb3 ?_) | (with_reducible refine cell_of_below hb2 ?_)))))
  ((first
   | (go_at_call 34; (with_reducible refine (HP4.out _ _ (by go_grown) (by (repeat' (first | (with_reducible assumption) | (with_reducible refine rd_lit4 _ _ _ _ _ _ ?_) | (with_reducible refine rd_lit1 _ _ _ ?_) | (with_reducible refine rd_sl3 _ _ _ _ _ ?_) | (with_reducible refine Rd.below ?_ hb4) | (with_reducible refine Rd.below ?_ hb3) | (with_reducible refine Rd.below ?_ hb2) | (with_reducible refine rd_drew ?_) | (with_reducible refine rd_alloc ?_ _) | (simp; done))))).mono ?_); rintro e w2 ⟨v2, rfl, hown2, hb2⟩; obtain ⟨a2, q2, rfl⟩ := own_shape hown2; have r2 : Rd w2 3 4 (.slice a2 4 q2) (tkc [ptk sCREATE, ptk sTABLE, ptk t, ptk sOpen]) := Rd.own hown2; have hB2 : Below w0.heap.size w0 w2 := into (by go_grown) hb2; have hz2 := hB2.size)
   | (go_at_call 35; (with_reducible refine (HBT.out _ (by go_grown)).mono ?_); rintro e w3 ⟨v3, rfl, hown3, hb3⟩; obtain ⟨a3, q3, rfl⟩ := own_shape hown3; have r3 := Rd.own hown3; have hB3 : Below w0.heap.size w0 w3 := into (by go_grown) hb3; have hz3 := hB3.size)
   | (go_at_call 34; (with_reducible refine (HP1.out _ _ (by go_grown) (by (repeat' (first | (with_reducible assumption) | (with_reducible refine rd_lit4 _ _ _ _ _ _ ?_) | (with_reducible refine rd_lit1 _ _ _ ?_) | (with_reducible refine rd_sl3 _ _ _ _ _ ?_) | (with_reducible refine Rd.below ?_ hb4) | (with_reducible refine Rd.below ?_ hb3) | (with_reducible refine Rd.below ?_ hb2) | (with_reducible refine rd_drew ?_) | (with_reducible refine rd_alloc ?_ _) | (simp; done))))).mono ?_); rintro e w4 ⟨v4, rfl, hown4, hb4⟩; obtain ⟨a4, q4, rfl⟩ := own_shape hown4; have r4 : Rd w4 3 1 (.slice a4 1 q4) (tkc [ptk sClose]) := Rd.own hown4; have hB4 : Below w0.heap.size w0 w4 := into (by go_grown) hb4; have hz4 := hB4.size)
   | (go_at_call 33; (with_reducible refine (concat3 _ _ _ _ _ [ptk sCREATE, ptk sTABLE, ptk t, ptk sOpen] L [ptk sClose] 4 L.length 1 (by (repeat' (first | (with_reducible assumption) | (with_reducible refine rd_lit4 _ _ _ _ _ _ ?_) | (with_reducible refine rd_lit1 _ _ _ ?_) | (with_reducible refine rd_sl3 _ _ _ _ _ ?_) | (with_reducible refine Rd.below ?_ hb4) | (with_reducible refine Rd.below ?_ hb3) | (with_reducible refine Rd.below ?_ hb2) | (with_reducible refine rd_drew ?_) | (with_reducible refine rd_alloc ?_ _) | (simp; done)))) (by (repeat' (first | (with_reducible assumption) | (with_reducible refine rd_lit4 _ _ _ _ _ _ ?_) | (with_reducible refine rd_lit1 _ _ _ ?_) | (with_reducible refine rd_sl3 _ _ _ _ _ ?_) | (with_reducible refine Rd.below ?_ hb4) | (with_reducible refine Rd.below ?_ hb3) | (with_reducible refine Rd.below ?_ hb2) | (with_reducible refine rd_drew ?_) | (with_reducible refine rd_alloc ?_ _) | (simp; done)))) (by (repeat' (first | (with_reducible assumption) | (with_reducible refine rd_lit4 _ _ _ _ _ _ ?_) | (with_reducible refine rd_lit1 _ _ _ ?_) | (with_reducible refine rd_sl3 _ _ _ _ _ ?_) | (with_reducible refine Rd.below ?_ hb4) | (with_reducible refine Rd.below ?_ hb3) | (with_reducible refine Rd.below ?_ hb2) | (with_reducible refine rd_drew ?_) | (with_reducible refine rd_alloc ?_ _) | (simp; done)))) (by (repeat' (first | (with_reducible assumption) | (with_reducible refine rd_lit4 _ _ _ _ _ _ ?_) | (with_reducible refine rd_lit1 _ _ _ ?_) | (with_reducible refine rd_sl3 _ _ _ _ _ ?_) | (with_reducible refine Rd.below ?_ hb4) | (with_reducible refine Rd.below ?_ hb3) | (with_reducible refine Rd.below ?_ hb2) | (with_reducible refine rd_drew ?_) | (with_reducible refine rd_alloc ?_ _) | (simp; done)))) HLN.out).mono ?_); rintro e w5 ⟨v5, rfl, hown5, hb5⟩; have hT5 := ToksIs.from ⟨v5, rfl, hown5, hb5⟩ (show Below w0.heap.size w0 _ by go_grown))))
 all_goals exact hout.out _ _ _ _ _ _ _ _ _ _ _ _ _ hT5
theorem nm_size {t : ByteArray} (h : nmF t.data.toList = 0) : t.size ≤ 8 := by
 have hl := len_size t
 by_cases h8 : 8 < t.data.toList.length
 ·rw [nm_long h8] at h
  omega
 ·omega
end Go.Proofs.YtdeollmeljaaoaaDoor

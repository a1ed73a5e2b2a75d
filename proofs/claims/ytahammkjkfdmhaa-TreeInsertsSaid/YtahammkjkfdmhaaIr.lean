/- The document's copy of a tree: a page begun. -/
import Derived.Test.YtahammkjkfdmhaaIo
import Derived.Test.YtahammkjkfdmhaaHg
import Derived.Deep.RegionHeld3
import Derived.Deep.AppendLies
import Derived.Deep.RegionWith
import Derived.Deep.RegionLaw
import Derived.Lib.BufferMore
namespace Go.Proofs.Ytahammkjkfdmhaa
open Go.ChangeShapes Go.WideShapes Go.ChangeAt Go.RowKit
set_option linter.unusedVariables false
set_option linter.unusedSimpArgs false
set_option maxHeartbeats 4000000
variable {c0 c1 c2 c3 c4 c6 c7 c8 c9 c10 c11 c12 c13 c14 c15 c16 c17 c18 c19 c20 c21 c22 c23 c24 c25 c26 c27 c28 c29 c30 c31 c32 c33 c34 c35 c36 c37 c38 c39 c40 c41 c42 c43 c44 c45 c46 c47 c48 c49 c50 c51 c52 c53 c54 c55 c56 c57 c58 c59 c60 c61 c62 c63 c64 c65 c66 c67 c68 c69 c70 c71 c72 c73 c74 c75 : Value}
set_option maxRecDepth 1000000
theorem all5 {w : World} {C : Nat} {z0 z1 z2 z3 z4 : Value} {T : TypeId} (h : w.heap[C]? = some (.cells #[z0, z1, z2, z3, z4] T (0, 0))) (a b c d e : Value) :
    (((((w.setCell ⟨C, 0, none⟩ a).setCell ⟨C, 1, none⟩ b).setCell ⟨C, 2, none⟩ c).setCell ⟨C, 3, none⟩ d).setCell ⟨C, 4, none⟩ e).heap[C]? = some (.cells #[a, b, c, d, e] T (0, 0)) := by
  have h1 := Lib.heap_setCell_same (i := 0) h a
  have h2 := Lib.heap_setCell_same (i := 1) h1 b
  have h3 := Lib.heap_setCell_same (i := 2) h2 c
  have h4 := Lib.heap_setCell_same (i := 3) h3 d
  have h5 := Lib.heap_setCell_same (i := 4) h4 e
  exact h5
theorem far5 (w : World) (C : Nat) (a b c d e : Value) (q : Nat) (hq : q ≠ C) :
    (((((w.setCell ⟨C, 0, none⟩ a).setCell ⟨C, 1, none⟩ b).setCell ⟨C, 2, none⟩ c).setCell ⟨C, 3, none⟩ d).setCell ⟨C, 4, none⟩ e).heap[q]? = w.heap[q]? := by
  rw [Below.heap_setCell _ _ _ _ hq, Below.heap_setCell _ _ _ _ hq, Below.heap_setCell _ _ _ _ hq, Below.heap_setCell _ _ _ _ hq, Below.heap_setCell _ _ _ _ hq]
theorem rt6 (Q : Exit → Act → World → Prop)  (w0 : World) (P : Nat) (hP : P < w0.heap.size) (pl : Bool) (pn : Int) (ok : Nat → Prop) (ah : Option Addr) (nh ch : Nat) (hg : List UInt8) (hh : RB w0 ok (.slice ah nh ch) hg) (hl : hg.length ≤ 140737488355327)
    (p0 : w0.cell? ⟨P, 0, none⟩ = some (.bool pl)) (p3 : w0.cell? ⟨P, 3, none⟩ = some (.slice ah nh ch)) (p4 : w0.cell? ⟨P, 4, none⟩ = some (.int .i64 pn))
    (hout : Hid (∀ (u25 u26 u27 u28 u29 u30 u31 u32 : Value) (C : Nat) (w' : World) (av : Option Addr) (nv cv : Nat), w0.heap.size ≤ C → C < w'.heap.size → w'.heap[C]? = some (.cells #[.bool pl, .slice none 0 0, .slice none 0 0, .slice av nv cv, .int .i64 pn] 43 (0, 0)) → RB w' (fun b => w0.heap.size ≤ b ∧ b < w'.heap.size ∧ b ≠ C) (.slice av nv cv) hg → Below w0.heap.size w0 w' → Q .normal ⟨List.toArray (c0::c1::c2::c3::c4::(.pointer (some ⟨P, 0, none⟩))::(.pointer (some ⟨C, 0, none⟩))::c7::c8::c9::c10::c11::c12::c13::c14::c15::c16::c17::c18::c19::c20::c21::c22::c23::c24::u25::u26::u27::u28::u29::u30::u31::u32::c33::c34::c35::c36::c37::c38::c39::c40::c41::c42::c43::c44::c45::c46::c47::c48::c49::c50::c51::c52::c53::c54::c55::c56::c57::c58::c59::c60::c61::c62::c63::c64::c65::c66::c67::c68::c69::c70::c71::c72::c73::c74::c75::[]), []⟩ w')) :
    Code.wp Try.prog ((regionOf 6 (Try.f12.body.getD .skip)).getD .skip) Q ⟨List.toArray (c0::c1::c2::c3::c4::(.pointer (some ⟨P, 0, none⟩))::c6::c7::c8::c9::c10::c11::c12::c13::c14::c15::c16::c17::c18::c19::c20::c21::c22::c23::c24::c25::c26::c27::c28::c29::c30::c31::c32::c33::c34::c35::c36::c37::c38::c39::c40::c41::c42::c43::c44::c45::c46::c47::c48::c49::c50::c51::c52::c53::c54::c55::c56::c57::c58::c59::c60::c61::c62::c63::c64::c65::c66::c67::c68::c69::c70::c71::c72::c73::c74::c75::[]), []⟩ w0 := by
  refine Code.wp_mono (Q := NQ Q) nq_to ?_
  conv => arg 2; whnf
  have cc : ∀ W : World, Below w0.heap.size w0 W → Calls Try.prog 28 #[.slice ah nh ch] W fun e w' => ∃ av nv cv, e = .returned (.slice av nv cv) ∧ RB w' (newOnes W w') (.slice av nv cv) hg ∧ Below W.heap.size W w' := fun W hW =>
    (bcopy_any W ok _ hg (hh.below hW) hl).mono fun e w' ⟨v', h1, h2, h3⟩ => by
      obtain ⟨a, c, rfl⟩ := h2.sh
      exact ⟨a, _, c, h1, h2, h3⟩
  have CC := Lib.hid cc
  have hbA := fun (C : Array Value) (T : TypeId) => ((Below.refl w0.heap.size w0).alloc (Nat.le_refl _) (.cells C T)).drew
  have HBA := Lib.hid hbA
  have hbD : Below w0.heap.size w0 w0.drew := (Below.refl _ _).drew
  have HBD := Lib.hid hbD
  clear cc hbA hbD hh
  have n1 : w0.heap.size ≠ P := by omega
  go_region_held3 (fun wx => wx.cell? ⟨P, 0, none⟩ = some (.bool pl) ∧ wx.cell? ⟨P, 3, none⟩ = some (.slice ah nh ch) ∧ wx.cell? ⟨P, 4, none⟩ = some (.int .i64 pn))
    ((first
      | (simp only [World.cell?_setCell_far, n1, ne_eq, not_false_eq_true]; with_reducible exact ⟨cell_of_below hb2 (cell_dr (cell_al _ p0)), cell_of_below hb2 (cell_dr (cell_al _ p3)), cell_of_below hb2 (cell_dr (cell_al _ p4))⟩)
      | (with_reducible exact ⟨cell_al _ (cell_of_below hb2 (cell_dr p0)), cell_al _ (cell_of_below hb2 (cell_dr p3)), cell_al _ (cell_of_below hb2 (cell_dr p4))⟩)
      | (with_reducible exact ⟨cell_dr p0, cell_dr p3, cell_dr p4⟩)
      | (with_reducible exact ⟨cell_dr (cell_al _ p0), cell_dr (cell_al _ p3), cell_dr (cell_al _ p4)⟩)
      | (with_reducible exact ⟨cell_of_below hb2 (cell_dr p0), cell_of_below hb2 (cell_dr p3), cell_of_below hb2 (cell_dr p4)⟩)
      | (with_reducible exact ⟨cell_of_below hb2 (cell_dr (cell_al _ p0)), cell_of_below hb2 (cell_dr (cell_al _ p3)), cell_of_below hb2 (cell_dr (cell_al _ p4))⟩)))
    ((first
      | (go_at_call 28; ((with_reducible refine (CC.out w0.drew HBD.out).mono ?_); rintro e w2 ⟨av, nv, cv, rfl, hr2, hb2⟩))
      | (go_at_call 28; ((with_reducible refine (CC.out _ (HBA.out _ _)).mono ?_); rintro e w2 ⟨av, nv, cv, rfl, hr2, hb2⟩); have hq := box5 (box_after hb2))))
  · have hz2 : w0.heap.size ≤ w2.heap.size := hb2.size
    refine hout.out _ _ _ _ _ _ _ _ w2.heap.size _ av nv cv hz2 (by simp) (new0 _ _) ?_ ((into HBD.out hb2).alloc hz2 _)
    refine RB.mono (hr2.below ((Below.refl _ _).alloc (Nat.le_refl _) _)) fun b g => ?_
    have g1 : w0.heap.size ≤ b := g.1
    have g2 := g.2
    exact ⟨g1, by simp; omega, by omega⟩
  · have hz2 := hb2.size
    have hz3 : w0.heap.size + 1 ≤ w2.heap.size := by simpa using hz2
    have hbx := box_after hb2
    refine hout.out _ _ _ _ _ _ _ _ w0.heap.size _ av nv cv (Nat.le_refl _) (by simp; omega) (all5 hbx _ _ _ _ _) ?_ ?_
    · refine RB.mono (RB.agree hr2 (ok := newOnes _ w2) fun b g hlt => far5 _ _ _ _ _ _ _ _ ?_) fun b g => ?_
      · have := g.1
        simp at this
        omega
      · have g1 := g.1
        have g2 := g.2
        simp at g1
        exact ⟨by omega, by simp; omega, by omega⟩
    · exact (((((into (HBA.out _ _) hb2).setCell (p := ⟨w0.heap.size, 0, none⟩) (Nat.le_refl _) _).setCell (p := ⟨w0.heap.size, 1, none⟩) (Nat.le_refl _) _).setCell (p := ⟨w0.heap.size, 2, none⟩) (Nat.le_refl _) _).setCell (p := ⟨w0.heap.size, 3, none⟩) (Nat.le_refl _) _).setCell (p := ⟨w0.heap.size, 4, none⟩) (Nat.le_refl _) _
end Go.Proofs.Ytahammkjkfdmhaa
/- The document's copy of a tree: page by page. -/
namespace Go.Proofs.Ytahammkjkfdmhaa
open Go.ChangeShapes Go.WideShapes Go.ChangeAt Go.RowKit
set_option linter.unusedVariables false
set_option linter.unusedSimpArgs false
set_option maxHeartbeats 4000000
variable {c0 c2 c5 c6 c7 c8 c9 c10 c11 c12 c13 c14 c15 c16 c17 c18 c19 c20 c21 c22 c23 c24 c25 c26 c27 c28 c29 c30 c31 c32 c33 c34 c35 c36 c37 c38 c39 c40 c41 c42 c43 c44 c45 c46 c47 c48 c49 c50 c51 c52 c53 c54 c55 c56 c57 c58 c59 c60 c61 c62 c63 c64 c65 c66 c67 c68 c69 c70 c71 c72 c73 c74 c75 : Value}
set_option maxRecDepth 1000000
theorem infoI_pg : (Try.prog.info? 43).map (fun i => (i.zero, i.size, i.bytes)) = some (some (.agg #[.bool false, .slice none 0 0, .slice none 0 0, .slice none 0 0, .int .i64 0]), 5, 88) := by kernel_rfl
theorem box2I {w : World} {B : Nat} {x0 x1 : Value} {T : TypeId} (h : w.heap[B]? = some (.cells #[x0, x1] T (0, 0))) : w.cell? ⟨B, 0, none⟩ = some x0 ∧ w.cell? ⟨B, 1, none⟩ = some x1 ∧ w.frozen? ⟨B, 0, none⟩ = false ∧ w.frozen? ⟨B, 1, none⟩ = false := by
  refine ⟨?_, ?_, ?_, ?_⟩ <;> simp [World.cell?, World.frozen?, h]
theorem RPs.snoc {w : World} {ok : Nat → Prop} {vs cs : List Value} {ps : List Pg} {p : Pg} (h : RPs w ok vs ps) (hp : RP w ok cs p) (hc : cs.length = 5) : RPs w ok (vs ++ cs) (ps ++ [p]) := by
  refine ⟨by simp [h.1, hc]; omega, fun i q hq => ?_⟩
  rcases Nat.lt_or_ge i ps.length with g | g
  · rw [List.getElem?_append_left g] at hq
    have h2 := h.2 i q hq
    have e : ((vs ++ cs).drop (i * 5)).take 5 = (vs.drop (i * 5)).take 5 := by
      rw [List.drop_append_of_le_length (by rw [h.1]; omega), List.take_append_of_le_length (by rw [List.length_drop, h.1]; omega)]
    rw [e]
    exact h2
  · rw [List.getElem?_append_right g] at hq
    have hi : i - ps.length = 0 := by
      have := (List.getElem?_eq_some_iff.1 hq).1
      simp at this
      omega
    rw [hi] at hq
    simp only [List.getElem?_cons_zero, Option.some.injEq] at hq
    subst hq
    have e : ((vs ++ cs).drop (i * 5)).take 5 = cs := by
      have : i * 5 = vs.length := by rw [h.1]; omega
      rw [this, List.drop_left, List.take_of_length_le (by omega)]
    rw [e]
    exact hp
/-- What a tree's pages may measure. -/
def Cpy (T : Tr) : Prop := T.pages.length * 88 ≤ 140737488351232 ∧ ∀ p ∈ T.pages, p.keys.length * 24 ≤ 140737488351232 ∧ (∀ k ∈ p.keys, k.length ≤ 140737488351232) ∧ p.kids.length * 8 ≤ 140737488351232 ∧ p.high.length ≤ 140737488351232
theorem rndC (Q : Exit → Act → World → Prop)  (wr : World) (BB X O : Nat) (ok : Nat → Prop) (hok : ∀ b, ok b → b < BB ∧ b ≠ O) (hX : X < BB) (hO : O < BB) (hXO : X ≠ O) (hBB : BB ≤ wr.heap.size) (i NP bp op cp : Nat) (kv dv gv : Value) (p : Pg) (rt : Int) (hi : i < NP) (hNPm : NP * 88 ≤ 140737488351232) (hbp : ok bp)
    (x0 : wr.cell? ⟨X, 0, none⟩ = some (.slice (some ⟨bp, op, none⟩) NP cp)) (hpa : PageAt wr ok bp op i kv dv gv p) (s1 : p.keys.length * 24 ≤ 140737488351232) (s2 : Hid (∀ k ∈ p.keys, k.length ≤ 140737488351232)) (s3 : p.kids.length * 8 ≤ 140737488351232) (s4 : p.high.length ≤ 140737488351232)
    (ao : Option Addr) (co : Nat) (vs : List Value) (hbo : wr.heap[O]? = some (.cells #[.slice ao i co, .int .i64 rt] 24 (0, 0))) (hown : Hid (wr.ownsRow BB 43 5 (.slice ao i co) i vs))
    (hnext : Hid (∀ (u5 u6 u7 u8 u9 u13 u14 u15 u16 u17 u18 u19 u20 u21 u22 u23 u24 u25 u26 u27 u28 u29 u30 u31 u32 u33 u34 u35 u36 u37 u38 u39 u40 u41 u42 u43 u44 u45 u46 u47 u48 u49 u50 u51 u52 u53 u54 u55 u56 u57 u58 u59 u60 u61 u62 u63 u64 u65 u66 u67 u68 u69 u70 u71 u72 u73 u74 : Value) (w' : World) (v : Value) (cs : List Value), w'.ownsRow BB 43 5 v (i + 1) (vs ++ cs) → cs.length = 5 → RP w' (fun b => wr.heap.size ≤ b ∧ b < w'.heap.size ∧ v.ownBlock ≠ some b) cs p → (v.ownBlock = (Value.slice ao i co).ownBlock ∨ ∀ g, v.ownBlock = some g → wr.heap.size ≤ g) → w'.heap[O]? = some (.cells #[v, .int .i64 rt] 24 (0, 0)) → wr.heap.size ≤ w'.heap.size → w'.os = wr.os → w'.tape = wr.tape → w'.output = wr.output → (∀ q, q < wr.heap.size → q ≠ O → (Value.slice ao i co).ownBlock ≠ some q → w'.heap[q]? = wr.heap[q]?) → Q .normal ⟨List.toArray (c0::(.pointer (some ⟨X, 0, none⟩))::c2::(.pointer (some ⟨O, 0, none⟩))::(.int .i64 ((i : Int) + 1))::u5::u6::u7::u8::u9::c10::c11::c12::u13::u14::u15::u16::u17::u18::u19::u20::u21::u22::u23::u24::u25::u26::u27::u28::u29::u30::u31::u32::u33::u34::u35::u36::u37::u38::u39::u40::u41::u42::u43::u44::u45::u46::u47::u48::u49::u50::u51::u52::u53::u54::u55::u56::u57::u58::u59::u60::u61::u62::u63::u64::u65::u66::u67::u68::u69::u70::u71::u72::u73::u74::c75::[]), []⟩ w')) :
    Code.wp Try.prog (loopAt Try.f12 0) Q ⟨List.toArray (c0::(.pointer (some ⟨X, 0, none⟩))::c2::(.pointer (some ⟨O, 0, none⟩))::(.int .i64 (i : Int))::c5::c6::c7::c8::c9::c10::c11::c12::c13::c14::c15::c16::c17::c18::c19::c20::c21::c22::c23::c24::c25::c26::c27::c28::c29::c30::c31::c32::c33::c34::c35::c36::c37::c38::c39::c40::c41::c42::c43::c44::c45::c46::c47::c48::c49::c50::c51::c52::c53::c54::c55::c56::c57::c58::c59::c60::c61::c62::c63::c64::c65::c66::c67::c68::c69::c70::c71::c72::c73::c74::c75::[]), []⟩ wr := by
  conv => arg 2; whnf
  obtain ⟨pl, pks, pds, ph, pn⟩ := p
  simp only at s1 s2 s3 s4
  obtain ⟨a1, a2, a3, a4, a5, a6, a7, a8⟩ := hpa
  simp only at a1 a5 a6 a7 a8
  have A6 := Lib.hid a6
  have A7 := Lib.hid a7
  have A8 := Lib.hid a8
  obtain ⟨ak, ck, ff, k0, _, k2, k3⟩ := keysF a6
  obtain ⟨ad, cd, d0, _, d2, d3⟩ := intsF a7
  obtain ⟨ag, cg, e8⟩ := a8.sh
  rw [k0] at a2
  rw [d0] at a3
  rw [e8] at a4 A8
  obtain ⟨K, hK⟩ : ∃ K, K = pks.length := ⟨_, rfl⟩
  obtain ⟨D, hD⟩ : ∃ D, D = pds.length := ⟨_, rfl⟩
  obtain ⟨Hh, hHh⟩ : ∃ H, H = ph.length := ⟨_, rfl⟩
  rw [← hK] at a2 k3 s1
  rw [← hD] at a3 d3 s3
  rw [← hHh] at a4 A8
  have K3 := Lib.hid k3
  have D3 := Lib.hid d3
  have HK := Lib.hid hK
  have HD := Lib.hid hD
  have HH := Lib.hid hHh
  have hbp' := hok _ hbp
  have i0 : (0 : Int) ≤ (i : Int) := by omega
  have i1 : (i : Int) < (NP : Int) := by omega
  have HBO := Lib.hid hbo
  unfold maxLen at k2 d2
  clear a6 a7 a8 k0 d0 e8 hK hD hHh k3 d3 hbo
  go_wp2_with fail
  obtain ⟨wA, hwA⟩ : ∃ wA : World, wA = wr.alloc (.cells #[.bool pl, .slice ak K ck, .slice ad D cd, .slice ag Hh cg, .int .i64 pn] 43) := ⟨_, rfl⟩
  have hbA : Below wr.heap.size wr wA := by rw [hwA]; go_grown
  have hzA : wA.heap.size = wr.heap.size + 1 := by rw [hwA]; simp
  have q0 : wA.cell? ⟨wr.heap.size, 0, none⟩ = some (.bool pl) := by rw [hwA]; simp
  have q1 : wA.cell? ⟨wr.heap.size, 1, none⟩ = some (.slice ak K ck) := by rw [hwA]; simp
  have q2 : wA.cell? ⟨wr.heap.size, 2, none⟩ = some (.slice ad D cd) := by rw [hwA]; simp
  have q3 : wA.cell? ⟨wr.heap.size, 3, none⟩ = some (.slice ag Hh cg) := by rw [hwA]; simp
  have q4 : wA.cell? ⟨wr.heap.size, 4, none⟩ = some (.int .i64 pn) := by rw [hwA]; simp
  rw [← hwA]
  have HBA := Lib.hid hbA
  clear hwA hbA a1 a2 a3 a4 a5 x0
  change Code.wp _ ((regionOf 6 (Try.f12.body.getD .skip)).getD .skip) _ _ _
  refine rt6 _ wA wr.heap.size (by omega) pl pn ok ag Hh cg ph (A8.out.below HBA.out) (by omega) q0 q3 q4 ?_
  refine Lib.hid ?_
  intro z0 z1 z2 z3 z4 z5 z6 z7 C w2 av nv cv h1 h2 h3 h4 h5
  have H3 := Lib.hid h3
  have H4 := Lib.hid h4
  have H5 := Lib.hid h5
  have hz2 := h5.size
  have r1 := cell_below h5 q1
  have r2 := cell_below h5 q2
  clear h3 h4 h5 q0 q1 q2 q3 q4
  go_wp2_with fail
  change Code.wp _ (Code.loop (loopAt Try.f12 1)) _ _ _
  have HB2 : Hid (Below wr.heap.size wr w2) := HBA.out.trans (H5.out.mono (by omega))
  refine tc2 _ w2 wr.heap.size C ok (fun b hb => by have := (hok b hb).1; omega) (by omega) h2 (by omega) pks K HK (by omega) (fun s hs => by have := s2.out s hs; omega) ak ck ff r1 (fun j hj => by
    obtain ⟨b, o, g1, g2, g3, g4, g5⟩ := K3.out j hj
    exact ⟨b, o, g1, g3, cell_below HB2.out g4, g5.below HB2.out⟩) _ _ _ _ H3.out ?_
  refine Lib.hid ?_
  iterate 21 intro _
  intro w3 G kv3 us t1 t2 t3 t4 t5
  have T1 := Lib.hid t1
  have T2 := Lib.hid t2
  have T3 := Lib.hid t3
  have T4 := Lib.hid t4
  have T5 := Lib.hid t5
  have hz3 := t5.size
  have r2' := t5.cell r2 (fun e => by have := Option.some.inj e; simp at this; omega)
  clear t1 t2 t3 t4 t5 r1 r2
  go_wp2_with fail
  change Code.wp _ (Code.loop (loopAt Try.f12 2)) _ _ _
  refine tc3 _ w3 wr.heap.size C ok (fun b hb => by have := (hok b hb).1; omega) (by omega) (by omega) (by omega) pds D HD (by omega) ad cd r2' (fun j hj => by
    obtain ⟨b, o, g1, g2, g3, g4⟩ := D3.out j hj
    exact ⟨b, o, g1, g3, T5.out.cell (cell_below HB2.out g4) (fun e => by have := Option.some.inj e; simp at this; omega)⟩) _ _ _ _ T4.out ?_
  refine Lib.hid ?_
  intro x9 x52 x53 x54 x55 x56 x57 x58 x59 x60 x61 x62 x63 x64 x65 x66 x67 x68 w4 dv4 v1 v2 v3
  have V1 := Lib.hid v1
  have V2 := Lib.hid v2
  have V3 := Lib.hid v3
  have hz4 := v3.size
  clear v1 v2 v3 r2'
  obtain ⟨_, a5, c5, rfl, _⟩ := Rd.own T2.out
  obtain ⟨_, a6, c6, rfl, _⟩ := Rd.own V1.out
  have hOw : O < wr.heap.size := by omega
  have hO2 := (HB2.out.block O hOw).trans HBO.out
  have hO3 := (T5.out.block O (by omega) (fun e => by have := Option.some.inj e; omega)).trans hO2
  have hO4 := (V3.out.block O (by omega) (fun e => by have := Option.some.inj e; omega)).trans hO3
  obtain ⟨b0, b1, f0, f1⟩ := box2I hO4
  obtain ⟨y0, y1, y2, y3, y4, _, _, _, _, _⟩ := box5 V2.out
  have hol : ∀ g, (Value.slice ao i co).ownBlock = some g → BB ≤ g ∧ g < wr.heap.size := hown.out.lt
  have hneC : (Value.slice ao i co).ownBlock = none ∨ (Value.slice ao i co).ownBlock ≠ some C := by
    refine .inr fun e => ?_
    have := (hol C e).2
    omega
  have ho4 := ((own_below hown.out HB2.out).kept T5.out hneC).kept V3.out hneC
  have HO4 := Lib.hid hO4
  have HOWN4 := Lib.hid ho4
  have HOL := Lib.hid hol
  clear hO2 hO3 hO4 ho4 hol hneC
  go_wp2_with (at_builtin; refine apx w4 1 rfl (.tmp 70) (.tmp 72) 22 43 _ 5 88 Try.underlying22 infoI_pg rfl (by omega) rfl HOWN4.out (by omega) (by omega) (by unfold maxLen; omega) [.bool pl, .slice a5 K c5, .slice a6 D c6, .slice av nv cv, .int .i64 pn] rfl (by simp [Value.oneCell']) _ rfl rfl rfl ?_; intro v5 w5 o5 b5 g5 e5; obtain ⟨_, a7, c7, rfl, _⟩ := Rd.own o5; have hz5 := b5.size; have hOn : some O ≠ (Value.slice ao i co).ownBlock := (fun e => by have := (HOL.out O e.symm).1; omega); have hbO5 := (g5.block O (by omega) hOn).trans HO4.out; have hbb := box2I hbO5; obtain ⟨j0, j1, j2, j3⟩ := hbb; have O5 := Lib.hid o5; have G5 := Lib.hid g5; have E5 := Lib.hid e5; have HBO5 := Lib.hid hbO5; clear o5 b5 g5 e5 hbO5)
  have g5z := G5.out.size
  have E4 : Nat → Prop := fun _ => True
  have hrk : RK w4 (fun b => wr.heap.size ≤ b ∧ b < w4.heap.size) (.slice a5 K c5) pks := by
    have hk4 := T2.out.kept V3.out (.inr fun e => by have := (T2.out.lt C e).1; omega)
    refine ⟨us, by rw [← HK.out]; exact Rd.own hk4, fun a n c e g => ?_, fun j s hs => ?_⟩
    · have := at_own hk4 a n c e g
      exact ⟨by have := this.1; omega, this.2⟩
    · obtain ⟨x, x1, x2⟩ := T3.out.2 j s hs
      refine ⟨x, x1, RB.mono (x2.agree (ok := G) fun b g hlt => V3.out.block b hlt (fun e => by have := Option.some.inj e; have := (T1.out b g).1; omega)) fun b g => ?_⟩
      have := T1.out b g
      exact ⟨by omega, by omega⟩
  have hri : RI w4 (fun b => wr.heap.size ≤ b ∧ b < w4.heap.size) (.slice a6 D c6) pds := by
    refine ⟨by rw [← HD.out]; exact Rd.own V1.out, fun a n c e g => ?_⟩
    have := at_own V1.out a n c e g
    exact ⟨by have := this.1; omega, this.2⟩
  have hrb : RB w4 (fun b => wr.heap.size ≤ b ∧ b < w4.heap.size) (.slice av nv cv) ph := by
    refine RB.mono ((H4.out.agree fun b g hlt => T5.out.block b hlt (fun e => g.2.2 (Option.some.inj e))).agree fun b g hlt => V3.out.block b hlt (fun e => g.2.2 (Option.some.inj e))) fun b g => ?_
    have := g.1
    have := g.2.1
    exact ⟨by omega, by omega⟩
  have HRK := Lib.hid hrk
  have HRI := Lib.hid hri
  have HRB := Lib.hid hrb
  clear hrk hri hrb E4
  obtain ⟨w6, hw6⟩ : ∃ w6 : World, w6 = w5.setCell ⟨O, 0, none⟩ (.slice a7 (i + 1) c7) := ⟨_, rfl⟩
  have hz6 : w6.heap.size = w5.heap.size := by rw [hw6]; simp
  have hb6 : w6.heap[O]? = some (.cells #[.slice a7 (i + 1) c7, .int .i64 rt] 24 (0, 0)) := by rw [hw6, Lib.heap_setCell_same HBO5.out]; rfl
  have hf6 : ∀ b, b ≠ O → w6.heap[b]? = w5.heap[b]? := fun b h => by rw [hw6]; exact Below.heap_setCell _ _ _ _ h
  have ho6 : w6.ownsRow BB 43 5 (.slice a7 (i + 1) c7) (i + 1) (vs ++ [.bool pl, .slice a5 K c5, .slice a6 D c6, .slice av nv cv, .int .i64 pn]) := by
    rw [hw6]; exact O5.out.kept (bt_set _ _ _ _) (.inr fun e => by have := (O5.out.lt O e).1; omega)
  have hos6 : w6.os = w5.os ∧ w6.tape = w5.tape ∧ w6.output = w5.output := by rw [hw6]; exact ⟨rfl, rfl, rfl⟩
  rw [← hw6]
  have HB6 := Lib.hid hb6
  have HF6 := Lib.hid hf6
  have HO6 := Lib.hid ho6
  have HS6 := Lib.hid hos6
  clear hw6 hb6 hf6 ho6 hos6
  go_wp2_with fail
  have hag : Agree (fun b => wr.heap.size ≤ b ∧ b < w4.heap.size) w4 w6 := fun b hb hlt => (HF6.out b (by have := hb.1; omega)).trans (G5.out.block b hlt (fun e => by have := (HOL.out b e.symm).2; have := hb.1; omega))
  have hmo : ∀ b, (wr.heap.size ≤ b ∧ b < w4.heap.size) → wr.heap.size ≤ b ∧ b < w6.heap.size ∧ (Value.slice a7 (i + 1) c7).ownBlock ≠ some b := fun b hb => by
    refine ⟨hb.1, by omega, fun e => ?_⟩
    rcases E5.out with f | f
    · rw [f] at e; have := (HOL.out b e).2; have := hb.1; omega
    · rw [f] at e; have := Option.some.inj e; have := hb.2; omega
  refine hnext.out _ _ _ _ _ _ _ _ _ _ _ _ _ _ _ _ _ _ _ _ _ _ _ _ _ _ _ _ _ _ _ _ _ _ _ _ _ _ _ _ _ _ _ _ _ _ _ _ _ _ _ _ _ _ _ _ _ _ _ _ _ _ _ _ _ _ _ w6 _ _ HO6.out rfl ⟨_, _, _, rfl, ?_, ?_, RB.mono (HRB.out.agree hag) hmo⟩ ?_ HB6.out (by omega) ?_ ?_ ?_ ?_
  · obtain ⟨us', m1, m2, m3⟩ := HRK.out.agree hag
    exact ⟨us', m1, fun a n c e g => hmo _ (m2 a n c e g), fun j s hs => by obtain ⟨x, x1, x2⟩ := m3 j s hs; exact ⟨x, x1, x2.mono hmo⟩⟩
  · obtain ⟨m1, m2⟩ := HRI.out.agree hag
    exact ⟨m1, fun a n c e g => hmo _ (m2 a n c e g)⟩
  · rcases E5.out with f | f
    · exact .inl f
    · refine .inr fun g hg => ?_
      rw [f] at hg
      have := Option.some.inj hg
      omega
  · exact HS6.out.1.trans (G5.out.os.trans (V3.out.os.trans (T5.out.os.trans HB2.out.os)))
  · exact HS6.out.2.1.trans (G5.out.tape.trans (V3.out.tape.trans (T5.out.tape.trans HB2.out.tape)))
  · exact HS6.out.2.2.trans (G5.out.output.trans (V3.out.output.trans (T5.out.output.trans HB2.out.output)))
  · intro q hq hqO hqo
    have e1 : q ≠ C := by omega
    exact (HF6.out q hqO).trans ((G5.out.block q (by omega) (fun e => hqo e.symm)).trans ((V3.out.block q (by omega) (fun e => e1 (Option.some.inj e))).trans ((T5.out.block q (by omega) (fun e => e1 (Option.some.inj e))).trans (HB2.out.block q hq))))
theorem treeCopy_any (w : World) (ok : Nat → Prop) (hok : ∀ b, ok b → b < w.heap.size) (tv : Value) (T : Tr) (ht : RT w ok tv T) (hcp : Cpy T) :
    Calls Try.prog 12 #[tv] w fun e w' => ∃ v', e = .returned v' ∧ RT w' (newOnes w w') v' T ∧ Below w.heap.size w w' := by
  obtain ⟨ap, cp, kf, df, gf, rfl, g1, g2, g3⟩ := pagesF ht
  obtain ⟨NP, hNP⟩ : ∃ N, N = T.pages.length := ⟨_, rfl⟩
  obtain ⟨hc1, hc2⟩ := hcp
  rw [← hNP] at g1 g3 hc1
  rw [← hNP]
  obtain ⟨rt, hrt⟩ : ∃ rt : Int, rt = T.root := ⟨_, rfl⟩
  rw [← hrt]
  have HNP := Lib.hid hNP
  have HRT := Lib.hid hrt
  have HP := Lib.hid g3
  have HC := Lib.hid hc2
  unfold maxLen at g2
  clear hNP hrt g3 hc2 ht
  go_enter Try.func12, Try.ntmps12
  go_wp2
  obtain ⟨W0, hW0⟩ : ∃ W0 : World, W0 = ((w.alloc (.cells #[.slice ap NP cp, .int .i64 rt] 24)).alloc (.cells #[.slice none 0 0, .int .i64 0] 24)).alloc (.cells #[.slice none 0 0, .int .i64 rt] 24) := ⟨_, rfl⟩
  have hB0 : Below w.heap.size w W0 := by rw [hW0]; go_grown
  have hz0 : W0.heap.size = w.heap.size + 3 := by rw [hW0]; simp
  have b2 : W0.heap[w.heap.size + 1 + 1]? = some (.cells #[.slice none 0 0, .int .i64 rt] 24 (0, 0)) := by rw [hW0]; exact new2 _ _ _ _
  have hb21 : Below ((w.alloc (.cells #[.slice ap NP cp, .int .i64 rt] 24)).alloc (.cells #[.slice none 0 0, .int .i64 0] 24)).heap.size ((w.alloc (.cells #[.slice ap NP cp, .int .i64 rt] 24)).alloc (.cells #[.slice none 0 0, .int .i64 0] 24)) W0 := by rw [hW0]; exact (Below.refl _ _).alloc (Nat.le_refl _) _
  have hb20 : Below (w.alloc (.cells #[.slice ap NP cp, .int .i64 rt] 24)).heap.size (w.alloc (.cells #[.slice ap NP cp, .int .i64 rt] 24)) ((w.alloc (.cells #[.slice ap NP cp, .int .i64 rt] 24)).alloc (.cells #[.slice none 0 0, .int .i64 0] 24)) := (Below.refl _ _).alloc (Nat.le_refl _) _
  have b1 : W0.heap[w.heap.size + 1]? = some (.cells #[.slice none 0 0, .int .i64 0] 24 (0, 0)) := (hb21.block _ (by simp)).trans (new1 _ _ _)
  have b0 : W0.heap[w.heap.size]? = some (.cells #[.slice ap NP cp, .int .i64 rt] 24 (0, 0)) := (hb21.block _ (by simp; omega)).trans ((hb20.block _ (by simp)).trans (new0 _ _))
  rw [← hW0]
  have HB0 := Lib.hid hB0
  have B2 := Lib.hid b2
  have B1 := Lib.hid b1
  have BX := Lib.hid b0
  clear hW0 hB0 hb21 hb20 b0 b1 b2
  go_loopw [4] (fun v wr => ∃ (k : Nat) (ao : Option Addr) (co : Nat) (vs : List Value) (G : Nat → Prop), k ≤ NP ∧ v = .int .i64 (k : Int) ∧ wr.heap[w.heap.size + 1 + 1]? = some (.cells #[.slice ao k co, .int .i64 rt] 24 (0, 0)) ∧ wr.ownsRow (w.heap.size + 3) 43 5 (.slice ao k co) k vs ∧ RPs wr G vs (T.pages.take k) ∧ (∀ b, G b → b < wr.heap.size ∧ (Value.slice ao k co).ownBlock ≠ some b ∧ w.heap.size + 3 ≤ b) ∧ W0.grownBy wr (some (w.heap.size + 1 + 1))) (fun v _ => NP - (intOf v).toNat)
  case atStart => exact ⟨0, none, 0, [], fun _ => False, by omega, rfl, B2.out, World.ownsRow_nil _ _ _ _, ⟨by simp, fun i p h => by simp at h⟩, fun b h => h.elim, World.grownBy.refl _ _⟩
  case round =>
    obtain ⟨k, ao, co, vs, G, hk, rfl, hbo, hown, hps, hG, hgr⟩ := hrel
    have hz := hgr.size
    have hB : Below w.heap.size w wr := HB0.out.trans (bt_old hgr (by omega) (by omega))
    have hbX := (hgr.block w.heap.size (by omega) (fun e => by have := Option.some.inj e; omega)).trans BX.out
    have hbR := (hgr.block (w.heap.size + 1) (by omega) (fun e => by have := Option.some.inj e; omega)).trans B1.out
    have HBO := Lib.hid hbo
    have HOWN := Lib.hid hown
    have HPS := Lib.hid hps
    have HG := Lib.hid hG
    have HGR := Lib.hid hgr
    have HB := Lib.hid hB
    have x0 := (box2I hbX).1
    have HBR := Lib.hid hbR
    clear hbo hown hps hG hgr hB hbR hbX
    by_cases hlt : k < NP
    · obtain ⟨bp, op, rfl, _, hokb, hpa⟩ := HP.out k hlt
      have hkl : k < T.pages.length := by rw [← HNP.out]; exact hlt
      obtain ⟨s1, s2, s3, s4⟩ := HC.out _ (page_mem hkl)
      have HKL := Lib.hid hkl
      clear hkl
      change Code.wp _ (loopAt Try.f12 0) _ _ _
      refine rndC _ wr (w.heap.size + 3) w.heap.size (w.heap.size + 1 + 1) ok (fun b hb => by have := hok b hb; omega) (by omega) (by omega) (by omega) (by omega) k NP bp op cp (kf k) (df k) (gf k) (T.pages.getD k noPg) rt hlt hc1 hokb x0 (hpa.below HB.out) s1 s2 s3 s4 ao co vs HBO.out HOWN ?_
      refine Lib.hid ?_
      iterate 67 intro _
      intro w2 v cs t1 t2 t3 t4 t5 t6 t7 t8 t9 t10
      obtain ⟨_, a9, c9, rfl, _⟩ := Rd.own t1
      have hg2 : W0.grownBy w2 (some (w.heap.size + 1 + 1)) := ⟨t7.trans HGR.out.os, t8.trans HGR.out.tape, t9.trans HGR.out.output, by omega, fun q hq hne => (t10 q (by omega) (fun e => hne (by rw [e])) (fun e => by have := (HOWN.out.lt q e).1; omega)).trans (HGR.out.block q hq hne)⟩
      have hps2 : RPs w2 (fun b => G b ∨ (wr.heap.size ≤ b ∧ b < w2.heap.size ∧ (Value.slice a9 (k + 1) c9).ownBlock ≠ some b)) (vs ++ cs) (T.pages.take (k + 1)) := by
        rw [take_nextG (d := noPg) HKL.out]
        refine RPs.snoc (RPs.mono (HPS.out.agree fun b g hlt => t10 b hlt (by have := (HG.out b g).2.2; omega) (HG.out b g).2.1) fun b g => .inl g) ?_ t2
        exact t3.mono fun b g => .inr g
      have hG2 : ∀ b, (G b ∨ (wr.heap.size ≤ b ∧ b < w2.heap.size ∧ (Value.slice a9 (k + 1) c9).ownBlock ≠ some b)) → b < w2.heap.size ∧ (Value.slice a9 (k + 1) c9).ownBlock ≠ some b ∧ w.heap.size + 3 ≤ b := by
        rintro b (g | g)
        · obtain ⟨g1, g2, g3⟩ := HG.out b g
          refine ⟨by omega, fun e => ?_, g3⟩
          rcases t4 with f | f
          · rw [f] at e; exact g2 e
          · have := f b e; omega
        · exact ⟨g.2.1, g.2.2, by have := g.1; omega⟩
      have T1 := Lib.hid t1
      have T5 := Lib.hid t5
      have HG2 := Lib.hid hG2
      have HPS2 := Lib.hid hps2
      have HGR2 := Lib.hid hg2
      clear t1 t2 t3 t4 t5 t6 t7 t8 t9 t10 hg2 hps2 hG2
      go_roundw
      case rel => refine ⟨_, _, _, _, _, _, _, _, _, _, _, _, _, _, _, _, _, _, _, _, _, _, _, _, _, _, _, _, _, _, _, _, _, _, _, _, _, _, _, _, _, _, _, _, _, _, _, _, _, _, _, _, _, _, _, _, _, _, _, _, _, _, _, _, _, _, _, _, ⟨k + 1, a9, c9, _, _, by omega, by go_num, T5.out, T1.out, HPS2.out, HG2.out, HGR2.out⟩, rfl⟩
      case measure => simp [intOf] <;> omega
    · obtain rfl : NP = k := by omega
      have e : T.pages.take NP = T.pages := List.take_of_length_le (by rw [← HNP.out]; exact Nat.le_refl _)
      rw [e] at HPS
      obtain ⟨o0, o1, _, _⟩ := box2I HBO.out
      obtain ⟨r0, r1, r2, r3⟩ := box2I HBR.out
      have HE := Lib.hid e
      clear e
      go_wp2
      have h51 : (wr.setCell ⟨w.heap.size + 1, 0, none⟩ (.slice ao NP co)).heap[w.heap.size + 1]? = some (.cells #[.slice ao NP co, .int .i64 0] 24 (0, 0)) := by rw [Lib.heap_setCell_same HBR.out]; rfl
      have h61 : ((wr.setCell ⟨w.heap.size + 1, 0, none⟩ (.slice ao NP co)).setCell ⟨w.heap.size + 1, 1, none⟩ (.int .i64 rt)).heap[w.heap.size + 1]? = some (.cells #[.slice ao NP co, .int .i64 rt] 24 (0, 0)) := by rw [Lib.heap_setCell_same h51]; rfl
      have hf6 : ∀ b, b ≠ w.heap.size + 1 → ((wr.setCell ⟨w.heap.size + 1, 0, none⟩ (.slice ao NP co)).setCell ⟨w.heap.size + 1, 1, none⟩ (.int .i64 rt)).heap[b]? = wr.heap[b]? := fun b hb => (Below.heap_setCell _ _ _ _ hb).trans (Below.heap_setCell _ _ _ _ hb)
      have hz6 : ((wr.setCell ⟨w.heap.size + 1, 0, none⟩ (.slice ao NP co)).setCell ⟨w.heap.size + 1, 1, none⟩ (.int .i64 rt)).heap.size = wr.heap.size := by simp
      have hB6 : Below w.heap.size w ((wr.setCell ⟨w.heap.size + 1, 0, none⟩ (.slice ao NP co)).setCell ⟨w.heap.size + 1, 1, none⟩ (.int .i64 rt)) := (HB.out.setCell (p := ⟨w.heap.size + 1, 0, none⟩) (by show w.heap.size ≤ w.heap.size + 1; omega) _).setCell (p := ⟨w.heap.size + 1, 1, none⟩) (by show w.heap.size ≤ w.heap.size + 1; omega) _
      have ho6 := (HOWN.out.kept (bt_set _ (w.heap.size + 1) 0 (.slice ao NP co)) (.inr fun e => by have := (HOWN.out.lt _ e).1; omega))
      have ho7 := ho6.kept (bt_set _ (w.heap.size + 1) 1 (.int .i64 rt)) (.inr fun e => by have := (ho6.lt _ e).1; omega)
      generalize ((wr.setCell ⟨w.heap.size + 1, 0, none⟩ (.slice ao NP co)).setCell ⟨w.heap.size + 1, 1, none⟩ (.int .i64 rt)) = W6 at *
      obtain ⟨q0, q1, _, _⟩ := box2I h61
      refine bodyPost_ret (v := .agg #[.slice ao NP co, .int .i64 rt]) (by simp [results, Try.results12, go_sem, q0, q1]; try rfl) rfl ⟨_, rfl, ⟨_, vs, by rw [HRT.out], ?_, ?_, ?_⟩, hB6⟩
      · rw [← HNP.out]; exact Rd.own ho7
      · intro a n c e g
        have := at_own ho7 a n c e g
        exact ⟨by have := this.1; omega, this.2⟩
      · refine RPs.mono (HPS.out.agree fun b g hlt => hf6 b (by have := (HG.out b g).2.2; omega)) fun b g => ?_
        have := (HG.out b g).1
        have := (HG.out b g).2.2
        exact ⟨by omega, by omega⟩
end Go.Proofs.Ytahammkjkfdmhaa
/- The law's helper 'trees': a copy of a tree. -/
namespace Go.Proofs.Ytahammkjkfdmhaa
open Go.ChangeShapes Go.WideShapes Go.ChangeAt Go.RowKit
set_option linter.unusedVariables false
set_option linter.unusedSimpArgs false
set_option maxHeartbeats 400000
theorem trees_any (w : World) (ok : Nat → Prop) (hok : ∀ b, ok b → b < w.heap.size) (tv : Value) (T : Tr) (ht : RT w ok tv T) (hcp : Cpy T) :
    Calls Try.prog 5 #[tv] w fun e w' => ∃ v', e = .returned v' ∧ RT w' (newOnes w w') v' T ∧ Below w.heap.size w w' := by
  obtain ⟨a1, n1, c1, rfl⟩ : ∃ a n c, tv = .agg #[.slice a n c, .int .i64 T.root] := by
    obtain ⟨s, vs, h0, h1, _⟩ := ht
    obtain ⟨_, ao, cap, rfl, _⟩ := h1
    exact ⟨_, _, _, h0⟩
  have HT := Lib.hid ht
  clear ht
  go_enter Try.func5, Try.ntmps5
  go_wp2_with fail
  have hb0 : Below w.heap.size w ((w.alloc (.cells #[.slice a1 n1 c1, .int .i64 T.root] 24)).alloc (.cells #[.slice none 0 0, .int .i64 0] 24)) := by go_grown
  have hb1 : ((w.alloc (.cells #[.slice a1 n1 c1, .int .i64 T.root] 24)).alloc (.cells #[.slice none 0 0, .int .i64 0] 24)).heap[w.heap.size + 1]? = some (.cells #[.slice none 0 0, .int .i64 0] 24 (0, 0)) := new1 _ _ _
  have hz1 : ((w.alloc (.cells #[.slice a1 n1 c1, .int .i64 T.root] 24)).alloc (.cells #[.slice none 0 0, .int .i64 0] 24)).heap.size = w.heap.size + 2 := by simp
  refine (treeCopy_any _ ok (fun b hb => by have := hok b hb; omega) _ T (HT.out.agree (Agree.below hb0 ok)) hcp).mono ?_
  rintro e w2 ⟨v2, rfl, hr2, hb2⟩
  have hB := hb0.trans (hb2.mono (by omega))
  have hbR := (hb2.block (w.heap.size + 1) (by omega)).trans hb1
  have hz2 := hb2.size
  rw [hz1] at hz2
  generalize hq : newOnes (((w.alloc (.cells #[.slice a1 n1 c1, .int .i64 T.root] 24)).alloc (.cells #[.slice none 0 0, .int .i64 0] 24))) w2 = okN at hr2
  have hN : ∀ b, okN b → w.heap.size + 2 ≤ b ∧ b < w2.heap.size := fun b hb => by rw [← hq] at hb; have h1 := hb.1; have h2 := hb.2; exact ⟨by omega, h2⟩
  clear hq
  obtain ⟨a2, n2, c2, rfl⟩ : ∃ a n c, v2 = .agg #[.slice a n c, .int .i64 T.root] := by
    obtain ⟨s, vs, h0, h1, _⟩ := hr2
    obtain ⟨_, ao, cap, rfl, _⟩ := h1
    exact ⟨_, _, _, h0⟩
  have HB := Lib.hid hB
  have HR := Lib.hid hr2
  have HBR := Lib.hid hbR
  clear hb0 hb1 hz1 hb2 hB hr2 hbR HT
  obtain ⟨r0, r1, r2, r3⟩ := box2I HBR.out
  go_wp2
  have h51 : (w2.setCell ⟨w.heap.size + 1, 0, none⟩ (.slice a2 n2 c2)).heap[w.heap.size + 1]? = some (.cells #[.slice a2 n2 c2, .int .i64 0] 24 (0, 0)) := by rw [Lib.heap_setCell_same HBR.out]; rfl
  have h61 : ((w2.setCell ⟨w.heap.size + 1, 0, none⟩ (.slice a2 n2 c2)).setCell ⟨w.heap.size + 1, 1, none⟩ (.int .i64 T.root)).heap[w.heap.size + 1]? = some (.cells #[.slice a2 n2 c2, .int .i64 T.root] 24 (0, 0)) := by rw [Lib.heap_setCell_same h51]; rfl
  have hf6 : ∀ b, b ≠ w.heap.size + 1 → ((w2.setCell ⟨w.heap.size + 1, 0, none⟩ (.slice a2 n2 c2)).setCell ⟨w.heap.size + 1, 1, none⟩ (.int .i64 T.root)).heap[b]? = w2.heap[b]? := fun b hb => (Below.heap_setCell _ _ _ _ hb).trans (Below.heap_setCell _ _ _ _ hb)
  have hz6 : ((w2.setCell ⟨w.heap.size + 1, 0, none⟩ (.slice a2 n2 c2)).setCell ⟨w.heap.size + 1, 1, none⟩ (.int .i64 T.root)).heap.size = w2.heap.size := by simp
  have hB6 : Below w.heap.size w ((w2.setCell ⟨w.heap.size + 1, 0, none⟩ (.slice a2 n2 c2)).setCell ⟨w.heap.size + 1, 1, none⟩ (.int .i64 T.root)) := (HB.out.setCell (p := ⟨w.heap.size + 1, 0, none⟩) (by show w.heap.size ≤ w.heap.size + 1; omega) _).setCell (p := ⟨w.heap.size + 1, 1, none⟩) (by show w.heap.size ≤ w.heap.size + 1; omega) _
  generalize ((w2.setCell ⟨w.heap.size + 1, 0, none⟩ (.slice a2 n2 c2)).setCell ⟨w.heap.size + 1, 1, none⟩ (.int .i64 T.root)) = W6 at *
  obtain ⟨q0, q1, _, _⟩ := box2I h61
  refine bodyPost_ret (v := .agg #[.slice a2 n2 c2, .int .i64 T.root]) (by simp [results, Try.results5, go_sem, q0, q1]; try rfl) rfl ⟨_, rfl, ?_, hB6⟩
  refine RT.mono (HR.out.agree fun b hb hlt => hf6 b (by have := (hN b hb).1; omega)) fun b hb => ?_
  exact ⟨by have := (hN b hb).1; omega, by have := (hN b hb).2; omega⟩
end Go.Proofs.Ytahammkjkfdmhaa

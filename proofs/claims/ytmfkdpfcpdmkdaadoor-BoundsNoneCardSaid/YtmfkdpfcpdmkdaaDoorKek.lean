import Derived.Test.YtmfkdpfcpdmkdaaDoorQrk
import Derived.Test.YtmfkdpfcpdmkdaaDoorYbk
import Derived.Test.YtmfkdpfcpdmkdaaDoorVvk
import Derived.Test.YtmfkdpfcpdmkdaaDoorYdk
import Derived.Deep.AppendLies
/- Values in cells. -/
namespace Go.Proofs.YtmfkdpfcpdmkdaaDoor
open Go.ChangeShapes Go.WideShapes Go.ChangeAt Go.RowKit
set_option linter.unusedVariables false
set_option linter.unusedSimpArgs false
set_option maxHeartbeats 1000000
theorem Tryd.info36 : (Tryd.prog.info? 36).map (fun i => (i.zero, i.size, i.bytes)) = some (some (.agg #[.int .i64 0, .int .i64 0, .string ⟨#[]⟩]), 3, 32) := by kernel_rfl
theorem vc_one : ∀ (l : List V), ∀ u ∈ vc l, u.oneCell' = true
  | [], u, hu => by simp [vc] at hu
  | v :: l, u, hu => by
    simp only [vc, List.mem_cons] at hu
    rcases hu with rfl | rfl | rfl | hu
    · rfl
    · rfl
    · rfl
    · exact vc_one l u hu
end Go.Proofs.YtmfkdpfcpdmkdaaDoor
/- Stacks of values. -/
namespace Go.Proofs.YtmfkdpfcpdmkdaaDoor
open Go.ChangeShapes Go.WideShapes Go.ChangeAt Go.RowKit
set_option linter.unusedVariables false
set_option linter.unusedSimpArgs false
set_option maxHeartbeats 4000000
set_option maxRecDepth 1000000
abbrev va (u : V) : Value := .agg #[.int .i64 u.k, .int .i64 u.n, .string u.t]
theorem vc_app : ∀ l m : List V, vc (l ++ m) = vc l ++ vc m
  | [], m => by simp [vc]
  | v :: l, m => by simp [vc, vc_app l m]
theorem vc_take : ∀ (l : List V) (k : Nat), (vc l).take (k * 3) = vc (l.take k)
  | l, 0 => by simp [vc]
  | [], k + 1 => by simp [vc]
  | v :: l, k + 1 => by
    rw [show (k + 1) * 3 = k * 3 + 1 + 1 + 1 by omega]
    simp [vc, vc_take l k]
theorem vc_rd1 (w : World) (x : V) (B : Nat) (hB : w.heap.size = B) : Rd (w.alloc (.cells #[.int .i64 x.k, .int .i64 x.n, .string x.t] 36)) 3 1 (.slice (some ⟨B, 0, none⟩) 1 1) (vc [x]) := by
  subst hB
  exact Rd.own (World.ownsRow_lit (base := w.heap.size) w #[.int .i64 x.k, .int .i64 x.n, .string x.t] 1 (Nat.le_refl _) (by unfold maxLen; omega) rfl)
theorem vrev_push (st : List V) (x : V) : (x :: st).reverse = st.reverse ++ [x] := by simp
theorem vrev_top {st : List V} {a : V} {s : List V} (h : st = a :: s) : st.reverse.take s.length = s.reverse ∧ st.reverse[s.length]? = some a := by
  subst h
  constructor
  · rw [List.reverse_cons, List.take_append_of_le_length (by simp)]
    rw [List.take_of_length_le (by simp)]
  · rw [List.reverse_cons, List.getElem?_append_right (by simp)]
    simp
theorem vrev_two {st : List V} {a b : V} {s : List V} (h : st = b :: a :: s) : st.reverse.take s.length = s.reverse ∧ st.reverse[s.length]? = some a ∧ st.reverse[s.length + 1]? = some b := by
  subst h
  refine ⟨?_, ?_, ?_⟩
  · simp only [List.reverse_cons, List.append_assoc]
    rw [List.take_append_of_le_length (by simp), List.take_of_length_le (by simp)]
  · simp only [List.reverse_cons, List.append_assoc]
    rw [List.getElem?_append_right (by simp)]
    simp
  · simp only [List.reverse_cons, List.append_assoc]
    rw [List.getElem?_append_right (by simp)]
    simp
theorem own_cell3 {w : World} {B e n cap : Nat} {ao : Option Addr} {l : List V} (h : w.ownsRow B e 3 (.slice ao n cap) n (vc l)) {j : Nat} {x : V} (hj : l[j]? = some x) : ∃ g, ao = some ⟨g, 0, none⟩ ∧ w.cell? ⟨g, j * 3, none⟩ = some (.int .i64 x.k) ∧ w.cell? ⟨g, j * 3 + 1, none⟩ = some (.int .i64 x.n) ∧ w.cell? ⟨g, j * 3 + 2, none⟩ = some (.string x.t) := by
  have hjl : j < l.length := (List.getElem?_eq_some_iff.1 hj).1
  have hl := h.1
  rw [vc_length] at hl
  have hx : l.getD j nul = x := by rw [List.getD_eq_getElem?_getD, hj]; rfl
  rcases h.2 with ⟨hv, h0⟩ | ⟨g, c, cur, hv, _⟩
  · omega
  · simp only [Value.slice.injEq] at hv
    obtain ⟨rfl, _, rfl⟩ := hv
    obtain ⟨c0, c1, c2⟩ := vc_at hjl
    rw [hx] at c0 c1 c2
    refine ⟨g, rfl, ?_, ?_, ?_⟩
    · have h1 := h.cells rfl _ _ c0; rwa [Addr.add_lit, Nat.zero_add] at h1
    · have h1 := h.cells rfl _ _ c1; rwa [Addr.add_lit, Nat.zero_add] at h1
    · have h1 := h.cells rfl _ _ c2; rwa [Addr.add_lit, Nat.zero_add] at h1
/-- What a leaf, an op of one thing, an op of two make of a row's values: the fault first. -/
def lfV (l : List Cq) (r : List V) (o : Oq) : Int × V := (0, if o.k = 1 then o.v else r.getD (plI l o.t).toNat nul)
def onV (k : Int) (a : V) : Int × V := ((one k a).2, (one k a).1)
def twV (k : Int) (a b : V) : Int × V := ((two k a b).2, (two k a b).1)
/-- What a call that makes a value answers. -/
def ValIs (p : Int × V) (w : World) (e : Ending) (w' : World) : Prop := e = .returned (.tuple #[va p.2, .int .i64 p.1]) ∧ Below w.heap.size w w'
theorem oneV_any (w : World) (k : Int) (a : V) : Calls Tryd.prog 32 #[.int .i64 k, va a] w (ValIs (onV k a) w) := (vv.one_any k a.k a.n a.t w).mono fun e w' h => h
theorem twoV_any (w : World) (k : Int) (a b : V) : Calls Tryd.prog 33 #[.int .i64 k, va a, va b] w (ValIs (twV k a b) w) := (vv.two_any k a.k a.n b.k b.n a.t b.t w).mono fun e w' h => h
end Go.Proofs.YtmfkdpfcpdmkdaaDoor
/- Ops folded over a stack of values: what a call makes is kept, and put upon the stack. -/
namespace Go.Proofs.YtmfkdpfcpdmkdaaDoor
open Go.ChangeShapes Go.WideShapes Go.ChangeAt Go.RowKit
set_option linter.unusedVariables false
set_option linter.unusedSimpArgs false
set_option maxHeartbeats 4000000
set_option maxRecDepth 1000000
theorem vc_news (w : World) (x : V) (B : Nat) (hB : w.heap.size = B) : (w.alloc (.cells #[.int .i64 x.k, .int .i64 x.n, .string x.t] 36)).heap[B]? = some (.cells #[.int .i64 x.k, .int .i64 x.n, .string x.t] 36 (0, 0)) := by
  subst hB
  exact heap_alloc_new w _
theorem box3 {w : World} {B : Nat} {x y z : Value} {T : TypeId} (h : w.heap[B]? = some (.cells #[x, y, z] T (0, 0))) :
    w.cell? ⟨B, 0, none⟩ = some x ∧ w.cell? ⟨B, 1, none⟩ = some y ∧ w.cell? ⟨B, 2, none⟩ = some z ∧ w.frozen? ⟨B, 0, none⟩ = false ∧ w.frozen? ⟨B, 1, none⟩ = false ∧ w.frozen? ⟨B, 2, none⟩ = false := by
  refine ⟨?_, ?_, ?_, ?_, ?_, ?_⟩ <;> (simp only [World.cell?, World.frozen?]; rw [h]; rfl)
theorem st3 {w0 w : World} {B : Nat} {x y z : Value} {T : TypeId} (hb : Below B w0 w) (h : w.heap[B]? = some (.cells #[x, y, z] T (0, 0))) (a b c : Value) :
    Below B w0 (((w.setCell ⟨B, 0, none⟩ a).setCell ⟨B, 1, none⟩ b).setCell ⟨B, 2, none⟩ c) ∧ B < (((w.setCell ⟨B, 0, none⟩ a).setCell ⟨B, 1, none⟩ b).setCell ⟨B, 2, none⟩ c).heap.size ∧ (((w.setCell ⟨B, 0, none⟩ a).setCell ⟨B, 1, none⟩ b).setCell ⟨B, 2, none⟩ c).heap[B]? = some (.cells #[a, b, c] T (0, 0)) := by
  have hl : B < w.heap.size := by
    rcases Nat.lt_or_ge B w.heap.size with h1 | h1
    · exact h1
    · rw [Array.getElem?_eq_none h1] at h; cases h
  have h3 := Lib.heap_setCell_same (i := 2) (Lib.heap_setCell_same (i := 1) (Lib.heap_setCell_same (i := 0) h a) b) c
  refine ⟨⟨hb.os, hb.tape, hb.output, by simpa using hb.size, fun k hk => ?_⟩, by simpa using hl, by simpa using h3⟩
  rw [Below.heap_setCell _ _ _ _ (by show _ ≠ B; omega), Below.heap_setCell _ _ _ _ (by show _ ≠ B; omega), Below.heap_setCell _ _ _ _ (by show _ ≠ B; omega)]
  exact hb.block k hk
theorem k20 (Q : Exit → Act → World → Prop) (c0 c1 c2 c3 c4 c5 c6 c7 c8 c9 c10 c12 c13 c15 c17 c18 c19 c20 c21 c22 c23 c24 c25 c26 c27 c28 c29 c30 c31 c32 c33 c34 c35 c36 c37 c38 c39 c40 c41 c42 c43 c44 c45 c46 c47 c48 c49 c50 c51 c52 c53 c54 c55 c56 c57 c58 c59 c60 c61 c62 c63 c64 c65 c66 c67 c68 c69 c70 c71 c72 c73 c74 c75 c76 c77 c78 c79 c80 c81 c82 c83 c84 : Value) (w0 : World) (B MB n p cp : Nat) (ao : Option Addr) (s : List V) (x : V) (hB : B ≤ w0.heap.size) (hp : p ≤ n) (hn : n ≤ cp) (hs : p ≤ 1000) (hao : ∀ a, ao = some a → ∃ g, a = ⟨g, 0, none⟩) (hao0 : ao = none → cp = 0)
    (m0 : w0.cell? ⟨MB, 0, none⟩ = some (.int .i64 x.k)) (m1 : w0.cell? ⟨MB, 1, none⟩ = some (.int .i64 x.n)) (m2 : w0.cell? ⟨MB, 2, none⟩ = some (.string x.t)) (hown : Hid (w0.ownsRow B 36 3 (.slice ao p cp) p (vc s)))
    (hout : Hid (∀ (u75 u76 u77 u78 u79 u80 u11 : Value) (w' : World), w'.ownsRow B 36 3 u11 (p + 1) (vc s ++ vc [x]) → Below B w0 w' → Q .normal ⟨List.toArray (c0 :: c1 :: c2 :: c3 :: c4 :: c5 :: c6 :: c7 :: c8 :: c9 :: c10 :: u11 :: c12 :: c13 :: (.pointer (some ⟨MB, 0, none⟩)) :: c15 :: (.int .i64 (p : Int)) :: c17 :: c18 :: c19 :: c20 :: c21 :: c22 :: c23 :: c24 :: c25 :: c26 :: c27 :: c28 :: c29 :: c30 :: c31 :: c32 :: c33 :: c34 :: c35 :: c36 :: c37 :: c38 :: c39 :: c40 :: c41 :: c42 :: c43 :: c44 :: c45 :: c46 :: c47 :: c48 :: c49 :: c50 :: c51 :: c52 :: c53 :: c54 :: c55 :: c56 :: c57 :: c58 :: c59 :: c60 :: c61 :: c62 :: c63 :: c64 :: c65 :: c66 :: c67 :: c68 :: c69 :: c70 :: c71 :: c72 :: c73 :: c74 :: u75 :: u76 :: u77 :: u78 :: u79 :: u80 :: c81 :: c82 :: c83 :: c84 :: []), []⟩ w')) :
    Code.wp Tryd.prog ((regionOf 20 (Tryd.f29.body.getD .skip)).getD .skip) Q ⟨List.toArray (c0 :: c1 :: c2 :: c3 :: c4 :: c5 :: c6 :: c7 :: c8 :: c9 :: c10 :: (.slice ao n cp) :: c12 :: c13 :: (.pointer (some ⟨MB, 0, none⟩)) :: c15 :: (.int .i64 (p : Int)) :: c17 :: c18 :: c19 :: c20 :: c21 :: c22 :: c23 :: c24 :: c25 :: c26 :: c27 :: c28 :: c29 :: c30 :: c31 :: c32 :: c33 :: c34 :: c35 :: c36 :: c37 :: c38 :: c39 :: c40 :: c41 :: c42 :: c43 :: c44 :: c45 :: c46 :: c47 :: c48 :: c49 :: c50 :: c51 :: c52 :: c53 :: c54 :: c55 :: c56 :: c57 :: c58 :: c59 :: c60 :: c61 :: c62 :: c63 :: c64 :: c65 :: c66 :: c67 :: c68 :: c69 :: c70 :: c71 :: c72 :: c73 :: c74 :: c75 :: c76 :: c77 :: c78 :: c79 :: c80 :: c81 :: c82 :: c83 :: c84 :: []), []⟩ w0 := by
  refine Code.wp_mono (Q := NQ Q) nq_to ?_
  conv => arg 2; whnf
  obtain ⟨i9, hi0, hz0, hz1, hz2⟩ := info_parts Tryd.info36
  cases ao with
  | none =>
    obtain rfl : cp = 0 := hao0 rfl
    obtain rfl : n = 0 := by omega
    obtain rfl : p = 0 := by omega
    go_region_law ((refine step_append_lies _ (by rfl) _ _ _ (by rfl) B 36 i9 _ 3 32 Tryd.underlying25 hi0 hz0 hz1 hz2 rfl (by omega) (.slice none 0 0) 0 (vc s) (by rfl) ((hown.out.alloc _).drew) ⟨w0.heap.size, 0, none⟩ 1 1 (vc [x]) (by rfl) (by rfl) (World.news_of_block (cs := #[.int .i64 x.k, .int .i64 x.n, .string x.t]) (t := 36) (fr := (0, 0)) (heap_alloc_new w0 _)) (vc_one _) (by omega) (by unfold maxLen; omega) (by omega) (by simp; omega) (w0.heap.size + 1) (by simp) ?_; intro gg cap1 w1 hown1 hgrow hat2 hlt4; have hO := (hown.out.alloc (.cells #[.int .i64 x.k, .int .i64 x.n, .string x.t] 36)).drew; have hb9 := (((Below.refl B w0).alloc hB (.cells #[.int .i64 x.k, .int .i64 x.n, .string x.t] 36)).drew).grown hgrow (by simp; omega) (own_ge hO)))
    all_goals exact hout.out _ _ _ _ _ _ _ _ hown1 hb9
  | some a =>
    obtain ⟨g, rfl⟩ := hao a rfl
    have i0 : (0 : Int) ≤ (p : Int) := by omega
    have i1 : (p : Int) ≤ (cp : Int) := by omega
    go_region_law ((refine step_append_lies _ (by rfl) _ _ _ (by rfl) B 36 i9 _ 3 32 Tryd.underlying25 hi0 hz0 hz1 hz2 rfl (by omega) (.slice (some ⟨g, 0, none⟩) p cp) p (vc s) (by rfl) ((hown.out.alloc _).drew) ⟨w0.heap.size, 0, none⟩ 1 1 (vc [x]) (by rfl) (by rfl) (World.news_of_block (cs := #[.int .i64 x.k, .int .i64 x.n, .string x.t]) (t := 36) (fr := (0, 0)) (heap_alloc_new w0 _)) (vc_one _) (by omega) (by unfold maxLen; omega) (by omega) (by simp; omega) (w0.heap.size + 1) (by simp) ?_; intro gg cap1 w1 hown1 hgrow hat2 hlt4; have hO := (hown.out.alloc (.cells #[.int .i64 x.k, .int .i64 x.n, .string x.t] 36)).drew; have hb9 := (((Below.refl B w0).alloc hB (.cells #[.int .i64 x.k, .int .i64 x.n, .string x.t] 36)).drew).grown hgrow (by simp; omega) (own_ge hO)))
    all_goals exact hout.out _ _ _ _ _ _ _ _ hown1 hb9
theorem k17 (Q : Exit → Act → World → Prop) (c0 c1 c3 c4 c5 c6 c7 c8 c9 c10 c12 c15 c17 c18 c19 c20 c21 c22 c23 c24 c25 c26 c27 c28 c29 c30 c31 c32 c33 c34 c35 c36 c37 c38 c39 c40 c41 c42 c43 c44 c45 c46 c47 c48 c49 c50 c51 c52 c53 c54 c55 c56 c57 c58 c59 c60 c61 c62 c63 c64 c65 c66 c67 c68 c69 c70 c71 c72 c73 c74 c75 c76 c77 c78 c79 c80 c81 c82 c83 c84 : Value) (w0 : World) (OB MB g n p cp : Nat) (k re : Int) (a x : V) (y0 y1 y2 : Value) (hp : p < n) (hn : n ≤ 1000) (hz : MB + 1 = w0.heap.size) (hO : OB < MB) (hg : g < MB)
    (hk : w0.cell? ⟨OB, 0, none⟩ = some (.int .i64 k)) (ha0 : w0.cell? ⟨g, p * 3, none⟩ = some (.int .i64 a.k)) (ha1 : w0.cell? ⟨g, p * 3 + 1, none⟩ = some (.int .i64 a.n)) (ha2 : w0.cell? ⟨g, p * 3 + 2, none⟩ = some (.string a.t))
    (hbox : Hid (w0.heap[MB]? = some (.cells #[y0, y1, y2] 36 (0, 0)))) (hcall : Hid (∀ w, Calls Tryd.prog 32 #[.int .i64 k, va a] w (ValIs (re, x) w)))
    (hout : Hid (∀ (u61 u62 u63 u64 u65 u66 u67 u68 u60 u69 u70 : Value) (w' : World), Below MB w0 w' → MB < w'.heap.size → w'.heap[MB]? = some (.cells #[.int .i64 x.k, .int .i64 x.n, .string x.t] 36 (0, 0)) → Q .normal ⟨List.toArray (c0 :: c1 :: (.func (.func 32) #[] #[]) :: c3 :: c4 :: c5 :: c6 :: c7 :: c8 :: c9 :: c10 :: (.slice (some ⟨g, 0, none⟩) n cp) :: c12 :: (.pointer (some ⟨OB, 0, none⟩)) :: (.pointer (some ⟨MB, 0, none⟩)) :: (.int .i64 re) :: (.int .i64 (p : Int)) :: c17 :: c18 :: c19 :: c20 :: c21 :: c22 :: c23 :: c24 :: c25 :: c26 :: c27 :: c28 :: c29 :: c30 :: c31 :: c32 :: c33 :: c34 :: c35 :: c36 :: c37 :: c38 :: c39 :: c40 :: c41 :: c42 :: c43 :: c44 :: c45 :: c46 :: c47 :: c48 :: c49 :: c50 :: c51 :: c52 :: c53 :: c54 :: c55 :: c56 :: c57 :: c58 :: c59 :: u60 :: u61 :: u62 :: u63 :: u64 :: u65 :: u66 :: u67 :: u68 :: u69 :: u70 :: c71 :: c72 :: c73 :: c74 :: c75 :: c76 :: c77 :: c78 :: c79 :: c80 :: c81 :: c82 :: c83 :: c84 :: []), []⟩ w')) :
    Code.wp Tryd.prog ((regionOf 17 (Tryd.f29.body.getD .skip)).getD .skip) Q ⟨List.toArray (c0 :: c1 :: (.func (.func 32) #[] #[]) :: c3 :: c4 :: c5 :: c6 :: c7 :: c8 :: c9 :: c10 :: (.slice (some ⟨g, 0, none⟩) n cp) :: c12 :: (.pointer (some ⟨OB, 0, none⟩)) :: (.pointer (some ⟨MB, 0, none⟩)) :: c15 :: (.int .i64 (p : Int)) :: c17 :: c18 :: c19 :: c20 :: c21 :: c22 :: c23 :: c24 :: c25 :: c26 :: c27 :: c28 :: c29 :: c30 :: c31 :: c32 :: c33 :: c34 :: c35 :: c36 :: c37 :: c38 :: c39 :: c40 :: c41 :: c42 :: c43 :: c44 :: c45 :: c46 :: c47 :: c48 :: c49 :: c50 :: c51 :: c52 :: c53 :: c54 :: c55 :: c56 :: c57 :: c58 :: c59 :: c60 :: c61 :: c62 :: c63 :: c64 :: c65 :: c66 :: c67 :: c68 :: c69 :: c70 :: c71 :: c72 :: c73 :: c74 :: c75 :: c76 :: c77 :: c78 :: c79 :: c80 :: c81 :: c82 :: c83 :: c84 :: []), []⟩ w0 := by
  refine Code.wp_mono (Q := NQ Q) nq_to ?_
  conv => arg 2; whnf
  have i0 : (0 : Int) ≤ (p : Int) := by omega
  have i1 : (p : Int) < (n : Int) := by omega
  have heldk17 : ∀ wx, Below MB w0 wx → (fun wx => Below MB w0 wx ∧ wx.cell? ⟨OB, 0, none⟩ = some (.int .i64 k) ∧ wx.cell? ⟨g, p * 3, none⟩ = some (.int .i64 a.k) ∧ wx.cell? ⟨g, p * 3 + 1, none⟩ = some (.int .i64 a.n) ∧ wx.cell? ⟨g, p * 3 + 2, none⟩ = some (.string a.t)) wx := fun wx h => ⟨h, (h.cell (by show _ < MB; omega)).trans hk, (h.cell (by show _ < MB; omega)).trans ha0, (h.cell (by show _ < MB; omega)).trans ha1, (h.cell (by show _ < MB; omega)).trans ha2⟩
  refine wp_region_held_drew (S := (fun wx => Below MB w0 wx ∧ wx.cell? ⟨OB, 0, none⟩ = some (.int .i64 k) ∧ wx.cell? ⟨g, p * 3, none⟩ = some (.int .i64 a.k) ∧ wx.cell? ⟨g, p * 3 + 1, none⟩ = some (.int .i64 a.n) ∧ wx.cell? ⟨g, p * 3 + 2, none⟩ = some (.string a.t))) (by kernel_rfl) ?_ (fun hHeld => ?_)
  · (try dsimp only)
    exact heldk17 _ (by first | exact (Below.refl _ _).drew | exact hB2 | exact (st3 hB2 hbx _ _ _).1)
  refine wpAnyH_take (i := 0) (oi := _) (v := ?_) rfl (by kernel_rfl) (by kernel_rfl) (by kernel_rfl) (fun _ _ _ h => h) (Or.inl ⟨by rfl, ?_⟩) (by assumption) ?_
  rotate_left
  · (intro w hSw; (try dsimp only at hSw); go_simp)
    all_goals (with_reducible rfl)
  (try simp only [List.getElem_toArray, List.getElem_cons_zero, List.getElem_cons_succ, Act.put, List.setIfInBounds_toArray, List.set_cons_zero, List.set_cons_succ])
  refine wpAnyH_take (i := 1) (oi := _) (v := ?_) rfl (by kernel_rfl) (by kernel_rfl) (by kernel_rfl) (fun _ _ _ h => h) (Or.inl ⟨by rfl, ?_⟩) (by assumption) ?_
  rotate_left
  · (intro w hSw; (try dsimp only at hSw); go_simp)
    all_goals (with_reducible rfl)
  (try simp only [List.getElem_toArray, List.getElem_cons_zero, List.getElem_cons_succ, Act.put, List.setIfInBounds_toArray, List.set_cons_zero, List.set_cons_succ])
  refine wpAnyH_take (i := 2) (oi := _) (v := ?_) rfl (by kernel_rfl) (by kernel_rfl) (by kernel_rfl) (fun _ _ _ h => h) (Or.inl ⟨by rfl, ?_⟩) (by assumption) ?_
  rotate_left
  · (intro w hSw; (try dsimp only at hSw); go_simp)
    all_goals (with_reducible rfl)
  (try simp only [List.getElem_toArray, List.getElem_cons_zero, List.getElem_cons_succ, Act.put, List.setIfInBounds_toArray, List.set_cons_zero, List.set_cons_succ])
  refine wpAnyH_take (i := 3) (oi := _) (v := ?_) rfl (by kernel_rfl) (by kernel_rfl) (by kernel_rfl) (fun _ _ _ h => h) (Or.inl ⟨by rfl, ?_⟩) (by assumption) ?_
  rotate_left
  · (intro w hSw; (try dsimp only at hSw); go_simp)
    all_goals (with_reducible rfl)
  (try simp only [List.getElem_toArray, List.getElem_cons_zero, List.getElem_cons_succ, Act.put, List.setIfInBounds_toArray, List.set_cons_zero, List.set_cons_succ])
  refine wpAnyH_take (i := 4) (oi := _) (v := ?_) rfl (by kernel_rfl) (by kernel_rfl) (by kernel_rfl) (fun _ _ _ h => h) (Or.inl ⟨by rfl, ?_⟩) (by assumption) ?_
  rotate_left
  · (intro w hSw; (try dsimp only at hSw); go_simp)
    all_goals (with_reducible rfl)
  (try simp only [List.getElem_toArray, List.getElem_cons_zero, List.getElem_cons_succ, Act.put, List.setIfInBounds_toArray, List.set_cons_zero, List.set_cons_succ])
  refine wpAnyH_take (i := 5) (oi := _) (v := ?_) rfl (by kernel_rfl) (by kernel_rfl) (by kernel_rfl) (fun _ _ _ h => h) (Or.inl ⟨by rfl, ?_⟩) (by assumption) ?_
  rotate_left
  · (intro w hSw; (try dsimp only at hSw); go_simp)
    all_goals (with_reducible rfl)
  (try simp only [List.getElem_toArray, List.getElem_cons_zero, List.getElem_cons_succ, Act.put, List.setIfInBounds_toArray, List.set_cons_zero, List.set_cons_succ])
  refine wpAnyH_take (i := 6) (oi := _) (v := ?_) rfl (by kernel_rfl) (by kernel_rfl) (by kernel_rfl) (fun _ _ _ h => h) (Or.inl ⟨by rfl, ?_⟩) (by assumption) ?_
  rotate_left
  · (intro w hSw; (try dsimp only at hSw); go_simp)
    all_goals (with_reducible rfl)
  (try simp only [List.getElem_toArray, List.getElem_cons_zero, List.getElem_cons_succ, Act.put, List.setIfInBounds_toArray, List.set_cons_zero, List.set_cons_succ])
  refine wpAnyH_ready (rs := [7]) (by kernel_rfl) (by simp) ?_
  refine AllReadyH.cons rfl (fun K hK => ?_) AllReadyH.nil
  go_simp
  (go_at_call 32; (with_reducible refine (hcall.out _).mono ?_); rintro e w2 ⟨rfl, hb2⟩; have hB1 : Below w0.heap.size w0 w2 := into (by go_grown) hb2; have hB2 : Below MB w0 w2 := hB1.mono (by omega); have hbx := (hB1.block MB (by omega)).trans hbox.out; obtain ⟨z0, z1, z2, f0, f1, f2⟩ := box3 hbx)
  go_wp2_with fail
  refine hK.out _ _ ?_ (fun hHeld => ?_)
  · (try dsimp only)
    exact heldk17 _ (by first | exact (Below.refl _ _).drew | exact hB2 | exact (st3 hB2 hbx _ _ _).1)
  clear hK K
  (try simp only [List.getElem_toArray, List.getElem_cons_zero, List.getElem_cons_succ, Act.put, List.setIfInBounds_toArray, List.set_cons_zero, List.set_cons_succ])
  refine wpAnyH_take (i := 8) (oi := _) (v := ?_) rfl (by kernel_rfl) (by kernel_rfl) (by kernel_rfl) (fun _ _ _ h => h) (Or.inl ⟨by rfl, ?_⟩) (by assumption) ?_
  rotate_left
  · (intro w hSw; (try dsimp only at hSw); go_simp)
    all_goals (with_reducible rfl)
  (try simp only [List.getElem_toArray, List.getElem_cons_zero, List.getElem_cons_succ, Act.put, List.setIfInBounds_toArray, List.set_cons_zero, List.set_cons_succ])
  refine wpAnyH_take (i := 9) (oi := _) (v := ?_) rfl (by kernel_rfl) (by kernel_rfl) (by kernel_rfl) (fun _ _ _ h => h) (Or.inl ⟨by rfl, ?_⟩) (by assumption) ?_
  rotate_left
  · (intro w hSw; (try dsimp only at hSw); go_simp)
    all_goals (with_reducible rfl)
  (try simp only [List.getElem_toArray, List.getElem_cons_zero, List.getElem_cons_succ, Act.put, List.setIfInBounds_toArray, List.set_cons_zero, List.set_cons_succ])
  refine wpAnyH_take (i := 10) (oi := _) (v := ?_) rfl (by kernel_rfl) (by kernel_rfl) (by kernel_rfl) (fun _ _ _ h => h) (Or.inl ⟨by rfl, ?_⟩) (by assumption) ?_
  rotate_left
  · (intro w hSw; (try dsimp only at hSw); go_simp)
    all_goals (with_reducible rfl)
  (try simp only [List.getElem_toArray, List.getElem_cons_zero, List.getElem_cons_succ, Act.put, List.setIfInBounds_toArray, List.set_cons_zero, List.set_cons_succ])
  refine wpAnyH_ready (rs := [11]) (by kernel_rfl) (by simp) ?_
  refine AllReadyH.cons rfl (fun K hK => ?_) AllReadyH.nil
  go_simp
  refine hK.out _ _ ?_ (fun hHeld => ?_)
  · (try dsimp only)
    exact heldk17 _ (by first | exact (Below.refl _ _).drew | exact hB2 | exact (st3 hB2 hbx _ _ _).1)
  clear hK K
  (try simp only [List.getElem_toArray, List.getElem_cons_zero, List.getElem_cons_succ, Act.put, List.setIfInBounds_toArray, List.set_cons_zero, List.set_cons_succ])
  refine wpAnyH_ready (rs := [12]) (by kernel_rfl) (by simp) ?_
  refine AllReadyH.cons rfl (fun K hK => ?_) AllReadyH.nil
  go_simp
  refine hK.out _ _ ?_ (fun hHeld => ?_)
  · (try dsimp only)
    exact heldk17 _ (by first | exact (Below.refl _ _).drew | exact hB2 | exact (st3 hB2 hbx _ _ _).1)
  clear hK K
  (try simp only [List.getElem_toArray, List.getElem_cons_zero, List.getElem_cons_succ, Act.put, List.setIfInBounds_toArray, List.set_cons_zero, List.set_cons_succ])
  refine wpAnyH_done (by kernel_rfl) ?_ _
  exact hout.out _ _ _ _ _ _ _ _ _ _ _ _ (st3 hB2 hbx _ _ _).1 (st3 hB2 hbx _ _ _).2.1 (st3 hB2 hbx _ _ _).2.2
theorem k10 (Q : Exit → Act → World → Prop) (c0 c1 c2 c4 c5 c6 c7 c8 c9 c10 c12 c15 c17 c18 c19 c20 c21 c22 c23 c24 c25 c26 c27 c28 c29 c30 c31 c32 c33 c34 c35 c36 c37 c38 c39 c40 c41 c42 c43 c44 c45 c46 c47 c48 c49 c50 c51 c52 c53 c54 c55 c56 c57 c58 c59 c60 c61 c62 c63 c64 c65 c66 c67 c68 c69 c70 c71 c72 c73 c74 c75 c76 c77 c78 c79 c80 c81 c82 c83 c84 : Value) (w0 : World) (OB MB g n p p1 cp : Nat) (hp1 : Hid (p1 = p + 1)) (k re : Int) (a b x : V) (y0 y1 y2 : Value) (hp : p + 1 < n) (hn : n ≤ 1000) (hz : MB + 1 = w0.heap.size) (hO : OB < MB) (hg : g < MB)
    (hk : w0.cell? ⟨OB, 0, none⟩ = some (.int .i64 k)) (ha0 : w0.cell? ⟨g, p * 3, none⟩ = some (.int .i64 a.k)) (ha1 : w0.cell? ⟨g, p * 3 + 1, none⟩ = some (.int .i64 a.n)) (ha2 : w0.cell? ⟨g, p * 3 + 2, none⟩ = some (.string a.t))
    (hb0 : w0.cell? ⟨g, p1 * 3, none⟩ = some (.int .i64 b.k)) (hb1 : w0.cell? ⟨g, p1 * 3 + 1, none⟩ = some (.int .i64 b.n)) (hb2 : w0.cell? ⟨g, p1 * 3 + 2, none⟩ = some (.string b.t))
    (hbox : Hid (w0.heap[MB]? = some (.cells #[y0, y1, y2] 36 (0, 0)))) (hcall : Hid (∀ w, Calls Tryd.prog 33 #[.int .i64 k, va a, va b] w (ValIs (re, x) w)))
    (hout : Hid (∀ (u31 u32 u33 u34 u35 u36 u37 u38 u39 u40 u41 u42 u43 u30 u44 u45 : Value) (w' : World), Below MB w0 w' → MB < w'.heap.size → w'.heap[MB]? = some (.cells #[.int .i64 x.k, .int .i64 x.n, .string x.t] 36 (0, 0)) → Q .normal ⟨List.toArray (c0 :: c1 :: c2 :: (.func (.func 33) #[] #[]) :: c4 :: c5 :: c6 :: c7 :: c8 :: c9 :: c10 :: (.slice (some ⟨g, 0, none⟩) n cp) :: c12 :: (.pointer (some ⟨OB, 0, none⟩)) :: (.pointer (some ⟨MB, 0, none⟩)) :: (.int .i64 re) :: (.int .i64 (p : Int)) :: c17 :: c18 :: c19 :: c20 :: c21 :: c22 :: c23 :: c24 :: c25 :: c26 :: c27 :: c28 :: c29 :: u30 :: u31 :: u32 :: u33 :: u34 :: u35 :: u36 :: u37 :: u38 :: u39 :: u40 :: u41 :: u42 :: u43 :: u44 :: u45 :: c46 :: c47 :: c48 :: c49 :: c50 :: c51 :: c52 :: c53 :: c54 :: c55 :: c56 :: c57 :: c58 :: c59 :: c60 :: c61 :: c62 :: c63 :: c64 :: c65 :: c66 :: c67 :: c68 :: c69 :: c70 :: c71 :: c72 :: c73 :: c74 :: c75 :: c76 :: c77 :: c78 :: c79 :: c80 :: c81 :: c82 :: c83 :: c84 :: []), []⟩ w')) :
    Code.wp Tryd.prog ((regionOf 10 (Tryd.f29.body.getD .skip)).getD .skip) Q ⟨List.toArray (c0 :: c1 :: c2 :: (.func (.func 33) #[] #[]) :: c4 :: c5 :: c6 :: c7 :: c8 :: c9 :: c10 :: (.slice (some ⟨g, 0, none⟩) n cp) :: c12 :: (.pointer (some ⟨OB, 0, none⟩)) :: (.pointer (some ⟨MB, 0, none⟩)) :: c15 :: (.int .i64 (p : Int)) :: c17 :: c18 :: c19 :: c20 :: c21 :: c22 :: c23 :: c24 :: c25 :: c26 :: c27 :: c28 :: c29 :: c30 :: c31 :: c32 :: c33 :: c34 :: c35 :: c36 :: c37 :: c38 :: c39 :: c40 :: c41 :: c42 :: c43 :: c44 :: c45 :: c46 :: c47 :: c48 :: c49 :: c50 :: c51 :: c52 :: c53 :: c54 :: c55 :: c56 :: c57 :: c58 :: c59 :: c60 :: c61 :: c62 :: c63 :: c64 :: c65 :: c66 :: c67 :: c68 :: c69 :: c70 :: c71 :: c72 :: c73 :: c74 :: c75 :: c76 :: c77 :: c78 :: c79 :: c80 :: c81 :: c82 :: c83 :: c84 :: []), []⟩ w0 := by
  refine Code.wp_mono (Q := NQ Q) nq_to ?_
  conv => arg 2; whnf
  have i0 : (0 : Int) ≤ (p : Int) := by omega
  have i1 : (p : Int) < (n : Int) := by omega
  have j0 : (0 : Int) ≤ (p1 : Int) := by omega
  have j1 : (p1 : Int) < (n : Int) := by have := hp1.out; omega
  have jw : IntKind.i64.wrap ((p : Int) + 1) = (p1 : Int) := (IntWalk.i64_in _ (by omega)).trans (by have := hp1.out; omega)
  have heldk10 : ∀ wx, Below MB w0 wx → (fun wx => Below MB w0 wx ∧ wx.cell? ⟨OB, 0, none⟩ = some (.int .i64 k) ∧ wx.cell? ⟨g, p * 3, none⟩ = some (.int .i64 a.k) ∧ wx.cell? ⟨g, p * 3 + 1, none⟩ = some (.int .i64 a.n) ∧ wx.cell? ⟨g, p * 3 + 2, none⟩ = some (.string a.t) ∧ wx.cell? ⟨g, p1 * 3, none⟩ = some (.int .i64 b.k) ∧ wx.cell? ⟨g, p1 * 3 + 1, none⟩ = some (.int .i64 b.n) ∧ wx.cell? ⟨g, p1 * 3 + 2, none⟩ = some (.string b.t)) wx := fun wx h => ⟨h, (h.cell (by show _ < MB; omega)).trans hk, (h.cell (by show _ < MB; omega)).trans ha0, (h.cell (by show _ < MB; omega)).trans ha1, (h.cell (by show _ < MB; omega)).trans ha2, (h.cell (by show _ < MB; omega)).trans hb0, (h.cell (by show _ < MB; omega)).trans hb1, (h.cell (by show _ < MB; omega)).trans hb2⟩
  refine wp_region_held_drew (S := (fun wx => Below MB w0 wx ∧ wx.cell? ⟨OB, 0, none⟩ = some (.int .i64 k) ∧ wx.cell? ⟨g, p * 3, none⟩ = some (.int .i64 a.k) ∧ wx.cell? ⟨g, p * 3 + 1, none⟩ = some (.int .i64 a.n) ∧ wx.cell? ⟨g, p * 3 + 2, none⟩ = some (.string a.t) ∧ wx.cell? ⟨g, p1 * 3, none⟩ = some (.int .i64 b.k) ∧ wx.cell? ⟨g, p1 * 3 + 1, none⟩ = some (.int .i64 b.n) ∧ wx.cell? ⟨g, p1 * 3 + 2, none⟩ = some (.string b.t))) (by kernel_rfl) ?_ (fun hHeld => ?_)
  · (try dsimp only)
    exact heldk10 _ (by first | exact (Below.refl _ _).drew | exact hB2 | exact (st3 hB2 hbx _ _ _).1)
  refine wpAnyH_take (i := 0) (oi := _) (v := ?_) rfl (by kernel_rfl) (by kernel_rfl) (by kernel_rfl) (fun _ _ _ h => h) (Or.inl ⟨by rfl, ?_⟩) (by assumption) ?_
  rotate_left
  · (intro w hSw; (try dsimp only at hSw); go_simp)
    all_goals (with_reducible rfl)
  (try simp only [List.getElem_toArray, List.getElem_cons_zero, List.getElem_cons_succ, Act.put, List.setIfInBounds_toArray, List.set_cons_zero, List.set_cons_succ])
  refine wpAnyH_take (i := 1) (oi := _) (v := ?_) rfl (by kernel_rfl) (by kernel_rfl) (by kernel_rfl) (fun _ _ _ h => h) (Or.inl ⟨by rfl, ?_⟩) (by assumption) ?_
  rotate_left
  · (intro w hSw; (try dsimp only at hSw); go_simp)
    all_goals (with_reducible rfl)
  (try simp only [List.getElem_toArray, List.getElem_cons_zero, List.getElem_cons_succ, Act.put, List.setIfInBounds_toArray, List.set_cons_zero, List.set_cons_succ])
  refine wpAnyH_take (i := 2) (oi := _) (v := ?_) rfl (by kernel_rfl) (by kernel_rfl) (by kernel_rfl) (fun _ _ _ h => h) (Or.inl ⟨by rfl, ?_⟩) (by assumption) ?_
  rotate_left
  · (intro w hSw; (try dsimp only at hSw); go_simp)
    all_goals (with_reducible rfl)
  (try simp only [List.getElem_toArray, List.getElem_cons_zero, List.getElem_cons_succ, Act.put, List.setIfInBounds_toArray, List.set_cons_zero, List.set_cons_succ])
  refine wpAnyH_take (i := 3) (oi := _) (v := ?_) rfl (by kernel_rfl) (by kernel_rfl) (by kernel_rfl) (fun _ _ _ h => h) (Or.inl ⟨by rfl, ?_⟩) (by assumption) ?_
  rotate_left
  · (intro w hSw; (try dsimp only at hSw); go_simp)
    all_goals (with_reducible rfl)
  (try simp only [List.getElem_toArray, List.getElem_cons_zero, List.getElem_cons_succ, Act.put, List.setIfInBounds_toArray, List.set_cons_zero, List.set_cons_succ])
  refine wpAnyH_take (i := 4) (oi := _) (v := ?_) rfl (by kernel_rfl) (by kernel_rfl) (by kernel_rfl) (fun _ _ _ h => h) (Or.inl ⟨by rfl, ?_⟩) (by assumption) ?_
  rotate_left
  · (intro w hSw; (try dsimp only at hSw); go_simp)
    all_goals (with_reducible rfl)
  (try simp only [List.getElem_toArray, List.getElem_cons_zero, List.getElem_cons_succ, Act.put, List.setIfInBounds_toArray, List.set_cons_zero, List.set_cons_succ])
  refine wpAnyH_take (i := 5) (oi := _) (v := ?_) rfl (by kernel_rfl) (by kernel_rfl) (by kernel_rfl) (fun _ _ _ h => h) (Or.inl ⟨by rfl, ?_⟩) (by assumption) ?_
  rotate_left
  · (intro w hSw; (try dsimp only at hSw); go_simp)
    all_goals (with_reducible rfl)
  (try simp only [List.getElem_toArray, List.getElem_cons_zero, List.getElem_cons_succ, Act.put, List.setIfInBounds_toArray, List.set_cons_zero, List.set_cons_succ])
  refine wpAnyH_take (i := 6) (oi := _) (v := ?_) rfl (by kernel_rfl) (by kernel_rfl) (by kernel_rfl) (fun _ _ _ h => h) (Or.inl ⟨by rfl, ?_⟩) (by assumption) ?_
  rotate_left
  · (intro w hSw; (try dsimp only at hSw); go_simp)
    all_goals (with_reducible rfl)
  (try simp only [List.getElem_toArray, List.getElem_cons_zero, List.getElem_cons_succ, Act.put, List.setIfInBounds_toArray, List.set_cons_zero, List.set_cons_succ])
  refine wpAnyH_take (i := 7) (oi := _) (v := ?_) rfl (by kernel_rfl) (by kernel_rfl) (by kernel_rfl) (fun _ _ _ h => h) (Or.inl ⟨by rfl, ?_⟩) (by assumption) ?_
  rotate_left
  · (intro w hSw; (try dsimp only at hSw); go_simp)
    all_goals (with_reducible rfl)
  (try simp only [List.getElem_toArray, List.getElem_cons_zero, List.getElem_cons_succ, Act.put, List.setIfInBounds_toArray, List.set_cons_zero, List.set_cons_succ])
  refine wpAnyH_take (i := 8) (oi := _) (v := ?_) rfl (by kernel_rfl) (by kernel_rfl) (by kernel_rfl) (fun _ _ _ h => h) (Or.inl ⟨by rfl, ?_⟩) (by assumption) ?_
  rotate_left
  · (intro w hSw; (try dsimp only at hSw); go_simp)
    all_goals (with_reducible rfl)
  (try simp only [List.getElem_toArray, List.getElem_cons_zero, List.getElem_cons_succ, Act.put, List.setIfInBounds_toArray, List.set_cons_zero, List.set_cons_succ])
  refine wpAnyH_take (i := 9) (oi := _) (v := ?_) rfl (by kernel_rfl) (by kernel_rfl) (by kernel_rfl) (fun _ _ _ h => h) (Or.inl ⟨by rfl, ?_⟩) (by assumption) ?_
  rotate_left
  · (intro w hSw; (try dsimp only at hSw); go_simp)
    all_goals (with_reducible rfl)
  (try simp only [List.getElem_toArray, List.getElem_cons_zero, List.getElem_cons_succ, Act.put, List.setIfInBounds_toArray, List.set_cons_zero, List.set_cons_succ])
  refine wpAnyH_take (i := 10) (oi := _) (v := ?_) rfl (by kernel_rfl) (by kernel_rfl) (by kernel_rfl) (fun _ _ _ h => h) (Or.inl ⟨by rfl, ?_⟩) (by assumption) ?_
  rotate_left
  · (intro w hSw; (try dsimp only at hSw); go_simp)
    all_goals (with_reducible rfl)
  (try simp only [List.getElem_toArray, List.getElem_cons_zero, List.getElem_cons_succ, Act.put, List.setIfInBounds_toArray, List.set_cons_zero, List.set_cons_succ])
  refine wpAnyH_take (i := 11) (oi := _) (v := ?_) rfl (by kernel_rfl) (by kernel_rfl) (by kernel_rfl) (fun _ _ _ h => h) (Or.inl ⟨by rfl, ?_⟩) (by assumption) ?_
  rotate_left
  · (intro w hSw; (try dsimp only at hSw); go_simp)
    all_goals (with_reducible rfl)
  (try simp only [List.getElem_toArray, List.getElem_cons_zero, List.getElem_cons_succ, Act.put, List.setIfInBounds_toArray, List.set_cons_zero, List.set_cons_succ])
  refine wpAnyH_ready (rs := [12]) (by kernel_rfl) (by simp) ?_
  refine AllReadyH.cons rfl (fun K hK => ?_) AllReadyH.nil
  go_simp
  (go_at_call 33; (with_reducible refine (hcall.out _).mono ?_); rintro e w2 ⟨rfl, hb2⟩; have hB1 : Below w0.heap.size w0 w2 := into (by go_grown) hb2; have hB2 : Below MB w0 w2 := hB1.mono (by omega); have hbx := (hB1.block MB (by omega)).trans hbox.out; obtain ⟨z0, z1, z2, f0, f1, f2⟩ := box3 hbx)
  go_wp2_with fail
  refine hK.out _ _ ?_ (fun hHeld => ?_)
  · (try dsimp only)
    exact heldk10 _ (by first | exact (Below.refl _ _).drew | exact hB2 | exact (st3 hB2 hbx _ _ _).1)
  clear hK K
  (try simp only [List.getElem_toArray, List.getElem_cons_zero, List.getElem_cons_succ, Act.put, List.setIfInBounds_toArray, List.set_cons_zero, List.set_cons_succ])
  refine wpAnyH_take (i := 13) (oi := _) (v := ?_) rfl (by kernel_rfl) (by kernel_rfl) (by kernel_rfl) (fun _ _ _ h => h) (Or.inl ⟨by rfl, ?_⟩) (by assumption) ?_
  rotate_left
  · (intro w hSw; (try dsimp only at hSw); go_simp)
    all_goals (with_reducible rfl)
  (try simp only [List.getElem_toArray, List.getElem_cons_zero, List.getElem_cons_succ, Act.put, List.setIfInBounds_toArray, List.set_cons_zero, List.set_cons_succ])
  refine wpAnyH_take (i := 14) (oi := _) (v := ?_) rfl (by kernel_rfl) (by kernel_rfl) (by kernel_rfl) (fun _ _ _ h => h) (Or.inl ⟨by rfl, ?_⟩) (by assumption) ?_
  rotate_left
  · (intro w hSw; (try dsimp only at hSw); go_simp)
    all_goals (with_reducible rfl)
  (try simp only [List.getElem_toArray, List.getElem_cons_zero, List.getElem_cons_succ, Act.put, List.setIfInBounds_toArray, List.set_cons_zero, List.set_cons_succ])
  refine wpAnyH_take (i := 15) (oi := _) (v := ?_) rfl (by kernel_rfl) (by kernel_rfl) (by kernel_rfl) (fun _ _ _ h => h) (Or.inl ⟨by rfl, ?_⟩) (by assumption) ?_
  rotate_left
  · (intro w hSw; (try dsimp only at hSw); go_simp)
    all_goals (with_reducible rfl)
  (try simp only [List.getElem_toArray, List.getElem_cons_zero, List.getElem_cons_succ, Act.put, List.setIfInBounds_toArray, List.set_cons_zero, List.set_cons_succ])
  refine wpAnyH_ready (rs := [16]) (by kernel_rfl) (by simp) ?_
  refine AllReadyH.cons rfl (fun K hK => ?_) AllReadyH.nil
  go_simp
  refine hK.out _ _ ?_ (fun hHeld => ?_)
  · (try dsimp only)
    exact heldk10 _ (by first | exact (Below.refl _ _).drew | exact hB2 | exact (st3 hB2 hbx _ _ _).1)
  clear hK K
  (try simp only [List.getElem_toArray, List.getElem_cons_zero, List.getElem_cons_succ, Act.put, List.setIfInBounds_toArray, List.set_cons_zero, List.set_cons_succ])
  refine wpAnyH_ready (rs := [17]) (by kernel_rfl) (by simp) ?_
  refine AllReadyH.cons rfl (fun K hK => ?_) AllReadyH.nil
  go_simp
  refine hK.out _ _ ?_ (fun hHeld => ?_)
  · (try dsimp only)
    exact heldk10 _ (by first | exact (Below.refl _ _).drew | exact hB2 | exact (st3 hB2 hbx _ _ _).1)
  clear hK K
  (try simp only [List.getElem_toArray, List.getElem_cons_zero, List.getElem_cons_succ, Act.put, List.setIfInBounds_toArray, List.set_cons_zero, List.set_cons_succ])
  refine wpAnyH_done (by kernel_rfl) ?_ _
  exact hout.out _ _ _ _ _ _ _ _ _ _ _ _ _ _ _ _ _ (st3 hB2 hbx _ _ _).1 (st3 hB2 hbx _ _ _).2.1 (st3 hB2 hbx _ _ _).2.2
end Go.Proofs.YtmfkdpfcpdmkdaaDoor
/- Ops folded over a stack of values: the program's loop. -/
namespace Go.Proofs.YtmfkdpfcpdmkdaaDoor
open Go.ChangeShapes Go.WideShapes Go.ChangeAt Go.RowKit
set_option linter.unusedVariables false
set_option linter.unusedSimpArgs false
set_option maxHeartbeats 8000000
set_option maxRecDepth 1000000
/-- What a fold over values answers, by what the stack makes of the ops. -/
def FoldVIs (R : Int × List V) (w : World) (e : Ending) (w' : World) : Prop := e = .returned (.tuple #[va (if R.1 ≠ 0 then nul else R.2.headD nul), .int .i64 R.1]) ∧ Below w.heap.size w w'
theorem own_nilcap {w : World} {B e s n cp : Nat} {ao : Option Addr} {xs : List Value} (h : w.ownsRow B e s (.slice ao n cp) n xs) : (∀ a, ao = some a → ∃ g, a = ⟨g, 0, none⟩ ∧ g < w.heap.size) ∧ (ao = none → cp = 0) ∧ n ≤ cp := by
  have hl := h.lt
  rcases h.2 with ⟨hv, h0⟩ | ⟨g, c, cur, hv, h1, h2, h3, _⟩
  · simp only [Value.slice.injEq] at hv
    obtain ⟨rfl, rfl, rfl⟩ := hv
    exact ⟨fun a h => (by cases h), fun _ => rfl, Nat.le_refl _⟩
  · simp only [Value.slice.injEq] at hv
    obtain ⟨rfl, _, rfl⟩ := hv
    exact ⟨fun a h => (by cases h; exact ⟨g, rfl, (hl g rfl).2⟩), fun h => (by cases h), by omega⟩
theorem st3c {w : World} {B : Nat} {x y z : Value} {T : TypeId} (h : w.heap[B]? = some (.cells #[x, y, z] T (0, 0))) (a b c : Value) :
    (w.setCell ⟨B, 0, none⟩ a).cell? ⟨B, 0, none⟩ = some a ∧ ((w.setCell ⟨B, 0, none⟩ a).setCell ⟨B, 1, none⟩ b).cell? ⟨B, 1, none⟩ = some b ∧ (((w.setCell ⟨B, 0, none⟩ a).setCell ⟨B, 1, none⟩ b).setCell ⟨B, 2, none⟩ c).cell? ⟨B, 2, none⟩ = some c := by
  have h0 := Lib.heap_setCell_same (i := 0) h a
  have h1 := Lib.heap_setCell_same (i := 1) h0 b
  have h2 := Lib.heap_setCell_same (i := 2) h1 c
  refine ⟨?_, ?_, ?_⟩
  · simp only [World.cell?]; rw [h0]; simp
  · simp only [World.cell?]; rw [h1]; simp
  · simp only [World.cell?]; rw [h2]; simp
theorem foldV_any (w : World) (m : Nat) (v : Value) (ops : List Oq) (l : List Cq) (r : List V) (RB CB : Nat) (hr : Rd w 5 m v (ocs ops)) (hex : exprF ops = 0)
    (hlf : ∀ W, Below w.heap.size w W → ∀ o ∈ ops, wks o.k = 0 → Calls Tryd.prog 30 #[.agg #[.int .i64 o.k, .int .i64 o.v.k, .int .i64 o.v.n, .string o.v.t, .string o.t], .pointer (some ⟨RB, 0, none⟩), .pointer (some ⟨CB, 0, none⟩)] W (ValIs (lfV l r o) W)) :
    Calls Tryd.prog 29 #[v, (.func (.func 30) #[] #[.pointer (some ⟨RB, 0, none⟩), .pointer (some ⟨CB, 0, none⟩)]), .func (.func 32) #[] #[], .func (.func 33) #[] #[]] w (FoldVIs (rnF (lfV l r) onV twV [] ops) w) := by
  have hml := len_o hr
  have h40 : m ≤ 40 ∧ exF 0 ops = 0 := by
    unfold exprF at hex
    split at hex
    · omega
    · exact ⟨by omega, hex⟩
  have hm0 : 0 < m := by
    rcases Nat.eq_zero_or_pos m with h | h
    · have : ops = [] := List.eq_nil_of_length_eq_zero (by omega)
      rw [this] at h40
      simp [exF] at h40
    · exact h
  obtain ⟨b, o, cap, rfl, _, _, hbw, hcell⟩ := ops_of hr hm0
  have HC := Lib.hid hcell
  have HML := Lib.hid hml
  have HLF := Lib.hid hlf
  have HEX := Lib.hid h40.2
  obtain ⟨R, hR⟩ : ∃ R, R = rnF (lfV l r) onV twV [] ops := ⟨_, rfl⟩
  have HR := Lib.hid hR
  rw [← hR]
  have h40' := h40.1
  clear hcell hml hlf hr hex h40 hR
  obtain ⟨W0, hW0⟩ : ∃ W0, W0 = (w.alloc (.cells #[.int .i64 0, .int .i64 0, .string ⟨#[]⟩] 36)).alloc (.cells #[.int .i64 0, .int .i64 0, .string ⟨#[]⟩] 36) := ⟨_, rfl⟩
  have HB0 : Hid (Below w.heap.size w W0) := Lib.hid (by subst hW0; exact ((Below.refl _ _).alloc (Nat.le_refl _) _).alloc (by simp) _)
  have hz0 : W0.heap.size = w.heap.size + 2 := by subst hW0; simp
  have HR0 : Hid (W0.heap[w.heap.size]? = some (.cells #[.int .i64 0, .int .i64 0, .string ⟨#[]⟩] 36 (0, 0))) := Lib.hid (by subst hW0; rw [Below.heap_alloc _ _ _ (by simp)]; exact heap_alloc_new w _)
  have HN0 : Hid (W0.heap[w.heap.size + 1]? = some (.cells #[.int .i64 0, .int .i64 0, .string ⟨#[]⟩] 36 (0, 0))) := Lib.hid (by subst hW0; have h := heap_alloc_new (w.alloc (.cells #[.int .i64 0, .int .i64 0, .string ⟨#[]⟩] 36)) (.cells #[.int .i64 0, .int .i64 0, .string ⟨#[]⟩] 36); simpa using h)
  go_enter Tryd.func29, Tryd.ntmps29
  go_wp2_with fail
  rw [← hW0]
  clear hW0
  go_loopw [11, 19] (fun u i wr => ∃ (k : Nat) (st : List V), k ≤ m ∧ i = .int .i64 (k : Int) ∧ st.length ≤ k ∧ Hid (wr.ownsRow W0.heap.size 36 3 u st.length (vc st.reverse)) ∧ Hid (exF (st.length : Int) (ops.drop k) = 0) ∧ Hid (R = rnF (lfV l r) onV twV st (ops.drop k)) ∧ Hid (Below W0.heap.size W0 wr)) (fun _ i _ => m - (intOf i).toNat)
  case atStart => exact ⟨0, [], by omega, rfl, by simp, World.ownsRow_nil _ _ _ _, HEX.out, HR.out, Below.refl _ _⟩
  case round =>
    obtain ⟨k, st, hk, rfl, hsk, HU, HE, HRN, HB⟩ := hrel
    have hwz := HB.out.size
    obtain ⟨ao, cp, rfl⟩ := own_shape HU.out
    obtain ⟨hao, hao0, hqc⟩ := own_nilcap HU.out
    have HAO := Lib.hid hao
    have HAOG : Hid (∀ a, ao = some a → ∃ g, a = ⟨g, 0, none⟩) := Lib.hid fun a h => (by obtain ⟨g, h1, _⟩ := hao a h; exact ⟨g, h1⟩)
    have HAZ := Lib.hid hao0
    clear hao hao0
    have HBW := Lib.hid (HB0.out.trans (HB.out.mono HB0.out.size))
    have HRB := Lib.hid ((HB.out.block w.heap.size (by omega)).trans HR0.out)
    have HNB := Lib.hid ((HB.out.block (w.heap.size + 1) (by omega)).trans HN0.out)
    obtain ⟨n0, n1, n2, -, -, -⟩ := box3 HNB.out
    by_cases hlt : k < m
    · have hkl : k < ops.length := by rw [← HML.out]; exact hlt
      obtain ⟨g0, g1, g2, g3, g4⟩ := HC.out k hlt
      have c0 := cell_blz HBW.out g0
      have c1 := cell_blz HBW.out g1
      have c2 := cell_blz HBW.out g2
      have c3 := cell_blz HBW.out g3
      have c4 := cell_blz HBW.out g4
      have hdr := drop_cons hkl
      have hmem : ops.getD k noq ∈ ops := by
        rw [List.getD_eq_getElem?_getD, List.getElem?_eq_getElem hkl]
        exact List.getElem_mem hkl
      obtain ⟨x, hx⟩ : ∃ x, x = ops.getD k noq := ⟨_, rfl⟩
      rw [← hx] at c0 c1 c2 c3 c4 hdr hmem
      have he := HE.out
      rw [hdr] at he
      obtain ⟨ho, hw, he2⟩ := ex_cons he
      have hrn := HRN.out
      rw [hdr] at hrn
      have hkind := opF_kind ho
      have HRX := Lib.hid hrn
      have HE2 := Lib.hid he2
      have q0 := cell_blz ((Below.refl wr.heap.size wr).alloc (Nat.le_refl _) (.cells #[.int .i64 x.k, .int .i64 x.v.k, .int .i64 x.v.n, .string x.v.t, .string x.t] 44)) n0
      have q1 := cell_blz ((Below.refl wr.heap.size wr).alloc (Nat.le_refl _) (.cells #[.int .i64 x.k, .int .i64 x.v.k, .int .i64 x.v.n, .string x.v.t, .string x.t] 44)) n1
      have q2 := cell_blz ((Below.refl wr.heap.size wr).alloc (Nat.le_refl _) (.cells #[.int .i64 x.k, .int .i64 x.v.k, .int .i64 x.v.n, .string x.v.t, .string x.t] 44)) n2
      obtain ⟨W1, hW1⟩ : ∃ W1, W1 = (wr.alloc (.cells #[.int .i64 x.k, .int .i64 x.v.k, .int .i64 x.v.n, .string x.v.t, .string x.t] 44)).alloc (.cells #[.int .i64 0, .int .i64 0, .string ⟨#[]⟩] 36) := ⟨_, rfl⟩
      have HB1 : Hid (Below wr.heap.size wr W1) := Lib.hid (by subst hW1; exact ((Below.refl _ _).alloc (Nat.le_refl _) _).alloc (by simp) _)
      have hz1 : W1.heap.size = wr.heap.size + 2 := by subst hW1; simp
      have HO1 : Hid (W1.heap[wr.heap.size]? = some (.cells #[.int .i64 x.k, .int .i64 x.v.k, .int .i64 x.v.n, .string x.v.t, .string x.t] 44 (0, 0))) := Lib.hid (by subst hW1; rw [Below.heap_alloc _ _ _ (by simp)]; exact heap_alloc_new wr _)
      have HM1 : Hid (W1.heap[wr.heap.size + 1]? = some (.cells #[.int .i64 0, .int .i64 0, .string ⟨#[]⟩] 36 (0, 0))) := Lib.hid (by subst hW1; have h := heap_alloc_new (wr.alloc (.cells #[.int .i64 x.k, .int .i64 x.v.k, .int .i64 x.v.n, .string x.v.t, .string x.t] 44)) (.cells #[.int .i64 0, .int .i64 0, .string ⟨#[]⟩] 36); simpa using h)
      have HBF : Hid (Below w.heap.size w W1) := Lib.hid (into HBW.out HB1.out)
      have HLX := Lib.hid (HLF.out W1 HBF.out x hmem)
      obtain ⟨q, hq⟩ : ∃ q, q = st.length := ⟨_, rfl⟩
      have HQ := Lib.hid hq
      have HU2 := HU.out
      rw [← hq] at HU2 hqc hsk hw
      have HUQ := Lib.hid HU2
      have hwk : wks x.k = if x.k = 1 ∨ x.k = 2 then 0 else if x.k = 5 ∨ x.k = 11 then 1 else 2 := rfl
      rw [← hq]
      have HW1 := Lib.hid hW1
      clear g0 g1 g2 g3 g4 hdr hx he ho he2 hrn hkl HE HRN HU2 hq HU hmem hW1
      /- what follows a call that made re and rv: the box holds it, the stack's beginning is s' of p things -/
      by_cases hk12 : x.k = 1 ∨ x.k = 2
      · have hw0 : wks x.k = 0 := by rw [hwk, if_pos hk12]
        have HRL : Hid (R = if (lfV l r x).1 ≠ 0 then ((lfV l r x).1, []) else rnF (lfV l r) onV twV ((lfV l r x).2 :: st) (ops.drop (k + 1))) := by
          show _ = _
          rw [HRX.out, rn_leaf (lfV l r) onV twV hw0]
        have HLY := Lib.hid (HLX.out hw0)
        obtain ⟨⟨re, rv⟩, hre⟩ : ∃ r0, r0 = lfV l r x := ⟨_, rfl⟩
        rw [← hre] at HLY HRL
        have HRE : Hid (re = 0) := Lib.hid (by have h : (re, rv).1 = (lfV l r x).1 := by rw [hre]
                                               exact h)
        obtain ⟨xk, ⟨vk, vn, vt⟩, xt⟩ := x
        simp only at c0 c1 c2 c3 c4 hk12 HLY HBF HRL HE2 hw0 HO1 HW1 q0 q1 q2
        clear hre HRX hwk hw hkind HLX
        obtain rfl : re = 0 := HRE.out
        rcases hk12 with rfl | rfl
        all_goals (
          go_wp2_with fail
          rw [← HW1.out]
          refine HLY.out.mono ?_
          rintro e w2 ⟨rfl, hb2⟩
          have hbx := (hb2.block (wr.heap.size + 1) (by omega)).trans HM1.out
          obtain ⟨z0, z1, z2, f0, f1, f2⟩ := box3 hbx
          have s3 := st3 (hb2.mono (show wr.heap.size + 1 ≤ _ by omega)) hbx (.int .i64 rv.k) (.int .i64 rv.n) (.string rv.t)
          go_wp2_with fail
          obtain ⟨w3, hw3⟩ : ∃ w3, w3 = (((w2.setCell ⟨wr.heap.size + 1, 0, none⟩ (.int .i64 rv.k)).setCell ⟨wr.heap.size + 1, 1, none⟩ (.int .i64 rv.n)).setCell ⟨wr.heap.size + 1, 2, none⟩ (.string rv.t)) := ⟨_, rfl⟩
          rw [← hw3] at s3 ⊢
          clear hw3 z0 z1 z2 f0 f1 f2 hbx hb2
          have HLS : Hid (st.length = q) := HQ.out.symm
          have HE3 : Hid (exF ((q : Int) + 1) (ops.drop (k + 1)) = 0) := by
            show _ = _
            rw [← HE2.out, hw0, ← HQ.out]
            (congr 1) <;> omega
          obtain ⟨hb3, hz3, hbx3⟩ := s3
          have B3 : Below wr.heap.size wr w3 := HB1.out.trans (hb3.mono (by omega))
          have HB3 := Lib.hid (into HB.out B3)
          obtain ⟨m0, m1, m2, -, -, -⟩ := box3 hbx3
          have hz4 := HB3.out.size
          have O3 := Lib.hid (own_below HUQ.out B3)
          change Code.wp _ ((regionOf 20 (Tryd.f29.body.getD .skip)).getD .skip) _ _ _
          refine k20 _ _ _ _ _ _ _ _ _ _ _ _ _ _ _ _ _ _ _ _ _ _ _ _ _ _ _ _ _ _ _ _ _ _ _ _ _ _ _ _ _ _ _ _ _ _ _ _ _ _ _ _ _ _ _ _ _ _ _ _ _ _ _ _ _ _ _ _ _ _ _ _ _ _ _ _ _ _ _ _ _ _ _ w3 W0.heap.size (wr.heap.size + 1) q q cp _ st.reverse rv hz4 (by omega) hqc (by omega) HAOG.out HAZ.out m0 m1 m2 O3 ?_
          refine Lib.hid ?_
          intro u75 u76 u77 u78 u79 u80 u11 w4 h1 h2
          have H1 := Lib.hid h1
          have H4 := Lib.hid (HB3.out.trans h2)
          clear h1 h2 hb3 hz3 hbx3 B3 m0 m1 m2 hz4
          go_wp2_with fail
          go_roundw
          case rel =>
            refine ⟨k + 1, rv :: st, by omega, by go_num, by rw [List.length_cons, HLS.out]; omega, ?_, ?_, ?_, H4.out⟩
            · show World.ownsRow _ _ _ _ _ _ _
              rw [List.length_cons, HLS.out, vrev_push, vc_app]
              exact H1.out
            · show _ = _
              rw [List.length_cons, HLS.out]
              have h := HE3.out
              simpa using h
            · show _ = _
              rw [HRL.out]
              rfl
          case measure => (simp [intOf]) <;> omega
          )
      · by_cases hk511 : x.k = 5 ∨ x.k = 11
        · have hw1 : wks x.k = 1 := by rw [hwk, if_neg hk12, if_pos hk511]
          obtain ⟨p, rfl⟩ : ∃ p, q = p + 1 := ⟨q - 1, by omega⟩
          obtain ⟨a, s', hst⟩ : ∃ a s', st = a :: s' := by
            match st, HQ.out with
            | a :: s', _ => exact ⟨a, s', rfl⟩
            | [], h => simp at h
          have hsl : s'.length = p := by have := HQ.out; rw [hst] at this; simp at this; omega
          obtain ⟨t1, t2⟩ := vrev_top hst
          rw [hsl] at t1 t2
          have HRL : Hid (R = if (onV x.k a).1 ≠ 0 then ((onV x.k a).1, []) else rnF (lfV l r) onV twV ((onV x.k a).2 :: s') (ops.drop (k + 1))) := by
            show _ = _
            rw [HRX.out, hst, rn_un (lfV l r) onV twV hw1]
          have HON := Lib.hid (fun w => oneV_any w x.k a)
          obtain ⟨⟨re, rv⟩, hre⟩ : ∃ r0, r0 = onV x.k a := ⟨_, rfl⟩
          rw [← hre] at HRL HON
          obtain ⟨g, rfl, hg0, hg1, hg2⟩ := own_cell3 HUQ.out t2
          obtain ⟨_, hgq, hgl⟩ := HAO.out _ rfl
          obtain rfl := (Addr.mk.inj hgq).1
          have a0 := cell_blz HB1.out hg0
          have a1 := cell_blz HB1.out hg1
          have a2 := cell_blz HB1.out hg2
          have O0 := own_take HUQ.out p (by omega)
          rw [vc_take, t1] at O0
          have HOT := Lib.hid O0
          have HLS := Lib.hid hsl
          have HE3 : Hid (exF ((p : Int) + 1) (ops.drop (k + 1)) = 0) := by
            show _ = _
            rw [← HE2.out, hw1, ← HQ.out]
            congr 1
            omega
          have hk1 : W1.cell? ⟨wr.heap.size, 0, none⟩ = some (.int .i64 x.k) := by simp only [World.cell?]; rw [HO1.out]; rfl
          obtain ⟨xk, ⟨vk, vn, vt⟩, xt⟩ := x
          simp only at c0 c1 c2 c3 c4 HBF HRL HON HE2 HO1 HW1 q0 q1 q2 hk1 hk511
          clear hre HRX hwk hw hkind hst hsl t1 t2 hg0 hg1 hg2 O0 HE2 HLX HQ hgq HAO hw1 hk12
          rcases hk511 with rfl | rfl
          all_goals (
            go_wp2_with fail
            rw [← HW1.out]
            change Code.wp _ ((regionOf 17 (Tryd.f29.body.getD .skip)).getD .skip) _ _ _
            refine k17 _ _ _ _ _ _ _ _ _ _ _ _ _ _ _ _ _ _ _ _ _ _ _ _ _ _ _ _ _ _ _ _ _ _ _ _ _ _ _ _ _ _ _ _ _ _ _ _ _ _ _ _ _ _ _ _ _ _ _ _ _ _ _ _ _ _ _ _ _ _ _ _ _ _ _ _ _ _ _ _ _ W1 wr.heap.size (wr.heap.size + 1) g (p + 1) p cp _ re a rv _ _ _ (by omega) (by omega) (by omega) (by omega) (by omega) hk1 a0 a1 a2 HM1 HON ?_
            refine Lib.hid ?_
            intro d0 d1 d2 d3 d4 d5 d6 d7 d8 d9 d10 w3 hb3 hz3 hbx3
            clear hk1 a0 a1 a2 
            by_cases h0 : re = 0
            · subst h0
              have s3 : Below (wr.heap.size + 1) W1 w3 ∧ wr.heap.size + 1 < w3.heap.size ∧ w3.heap[wr.heap.size + 1]? = some (.cells #[.int .i64 rv.k, .int .i64 rv.n, .string rv.t] 36 (0, 0)) := ⟨hb3, hz3, hbx3⟩
              clear hb3 hz3 hbx3
              go_wp2_with fail
              obtain ⟨hb3, hz3, hbx3⟩ := s3
              have B3 : Below wr.heap.size wr w3 := HB1.out.trans (hb3.mono (by omega))
              have HB3 := Lib.hid (into HB.out B3)
              obtain ⟨m0, m1, m2, -, -, -⟩ := box3 hbx3
              have hz4 := HB3.out.size
              have O3 := Lib.hid (own_below HOT.out B3)
              change Code.wp _ ((regionOf 20 (Tryd.f29.body.getD .skip)).getD .skip) _ _ _
              refine k20 _ _ _ _ _ _ _ _ _ _ _ _ _ _ _ _ _ _ _ _ _ _ _ _ _ _ _ _ _ _ _ _ _ _ _ _ _ _ _ _ _ _ _ _ _ _ _ _ _ _ _ _ _ _ _ _ _ _ _ _ _ _ _ _ _ _ _ _ _ _ _ _ _ _ _ _ _ _ _ _ _ _ _ w3 W0.heap.size (wr.heap.size + 1) (p + 1) p cp _ s'.reverse rv hz4 (by omega) hqc (by omega) HAOG.out HAZ.out m0 m1 m2 O3 ?_
              refine Lib.hid ?_
              intro u75 u76 u77 u78 u79 u80 u11 w4 h1 h2
              have H1 := Lib.hid h1
              have H4 := Lib.hid (HB3.out.trans h2)
              clear h1 h2 hb3 hz3 hbx3 B3 m0 m1 m2 hz4
              go_wp2_with fail
              go_roundw
              case rel =>
                refine ⟨k + 1, rv :: s', by omega, by go_num, by rw [List.length_cons, HLS.out]; omega, ?_, ?_, ?_, H4.out⟩
                · show World.ownsRow _ _ _ _ _ _ _
                  rw [List.length_cons, HLS.out, vrev_push, vc_app]
                  exact H1.out
                · show _ = _
                  rw [List.length_cons, HLS.out]
                  have h := HE3.out
                  simpa using h
                · show _ = _
                  rw [HRL.out]
                  rfl
              case measure => (simp [intOf]) <;> omega
            · have h0' : (re == 0) = false := by simpa using h0
              have B3 : Below wr.heap.size wr w3 := HB1.out.trans (hb3.mono (by omega))
              have RB3 := Lib.hid ((B3.block w.heap.size (by omega)).trans HRB.out)
              obtain ⟨y0, y1, y2, f0, f1, f2⟩ := box3 RB3.out
              obtain ⟨r0, r1, r2, -, -, -⟩ := box3 ((B3.block (w.heap.size + 1) (by omega)).trans HNB.out)
              have BW3 := Lib.hid (HBW.out.trans (B3.mono HBW.out.size))
              clear hb3 hz3 hbx3 B3
              obtain ⟨v0, v1, v2⟩ := st3c RB3.out (.int .i64 0) (.int .i64 0) (.string ⟨#[]⟩)
              go_wp2_with fail
              (try simp only [Exit.inBlock, Exit.then])
              refine bodyPost_ret (by simp [results, Tryd.results29, go_sem, v0, v1, v2]; try rfl) rfl ?_
              refine ⟨?_, (st3 BW3.out RB3.out _ _ _).1⟩
              rw [HRL.out]
              simp [h0, nul])
        · have hw2 : wks x.k = 2 := by rw [hwk, if_neg hk12, if_neg hk511]
          obtain ⟨p, rfl⟩ : ∃ p, q = p + 2 := ⟨q - 2, by omega⟩
          obtain ⟨a, c, s', hst⟩ : ∃ a c s', st = c :: a :: s' := by
            match st, HQ.out with
            | c :: a :: s', _ => exact ⟨a, c, s', rfl⟩
            | [], h => simp at h
            | [_], h => simp at h
          have hsl : s'.length = p := by have := HQ.out; rw [hst] at this; simp at this; omega
          obtain ⟨t1, t2, t3⟩ := vrev_two hst
          rw [hsl] at t1 t2 t3
          have HRL : Hid (R = if (twV x.k a c).1 ≠ 0 then ((twV x.k a c).1, []) else rnF (lfV l r) onV twV ((twV x.k a c).2 :: s') (ops.drop (k + 1))) := by
            show _ = _
            rw [HRX.out, hst, rn_bi (lfV l r) onV twV hw2]
          have HON := Lib.hid (fun w => twoV_any w x.k a c)
          obtain ⟨⟨re, rv⟩, hre⟩ : ∃ r0, r0 = twV x.k a c := ⟨_, rfl⟩
          rw [← hre] at HRL HON
          obtain ⟨g, rfl, hg0, hg1, hg2⟩ := own_cell3 HUQ.out t2
          obtain ⟨g', hgg, hh0, hh1, hh2⟩ := own_cell3 HUQ.out t3
          obtain rfl : g = g' := by simpa using hgg
          have b0 := cell_blz HB1.out hh0
          have b1 := cell_blz HB1.out hh1
          have b2 := cell_blz HB1.out hh2
          obtain ⟨_, hgq, hgl⟩ := HAO.out _ rfl
          obtain rfl := (Addr.mk.inj hgq).1
          have a0 := cell_blz HB1.out hg0
          have a1 := cell_blz HB1.out hg1
          have a2 := cell_blz HB1.out hg2
          have O0 := own_take HUQ.out p (by omega)
          rw [vc_take, t1] at O0
          have HOT := Lib.hid O0
          have HLS := Lib.hid hsl
          have HE3 : Hid (exF ((p : Int) + 1) (ops.drop (k + 1)) = 0) := by
            show _ = _
            rw [← HE2.out, hw2, ← HQ.out]
            congr 1
            omega
          have hk1 : W1.cell? ⟨wr.heap.size, 0, none⟩ = some (.int .i64 x.k) := by simp only [World.cell?]; rw [HO1.out]; rfl
          have e1 : (x.k == 1) = false := by simp; omega
          have e2 : (x.k == 2) = false := by simp; omega
          have e5 : (x.k == 5) = false := by simp; omega
          have e11 : (x.k == 11) = false := by simp; omega
          obtain ⟨xk, ⟨vk, vn, vt⟩, xt⟩ := x
          simp only at c0 c1 c2 c3 c4 HBF HRL HON HE2 HO1 HW1 q0 q1 q2 hk1 e1 e2 e5 e11
          clear hre HRX hwk hw hkind hst hsl t1 t2 hg0 hg1 hg2 O0 HE2 HLX HQ hgq HAO hw2 t3 hh0 hh1 hh2 hgg hk12 hk511
          all_goals (
            go_wp2_with fail
            rw [← HW1.out]
            change Code.wp _ ((regionOf 10 (Tryd.f29.body.getD .skip)).getD .skip) _ _ _
            refine k10 _ _ _ _ _ _ _ _ _ _ _ _ _ _ _ _ _ _ _ _ _ _ _ _ _ _ _ _ _ _ _ _ _ _ _ _ _ _ _ _ _ _ _ _ _ _ _ _ _ _ _ _ _ _ _ _ _ _ _ _ _ _ _ _ _ _ _ _ _ _ _ _ _ _ _ _ _ _ _ _ _ W1 wr.heap.size (wr.heap.size + 1) g (p + 2) p (p + 1) cp (Lib.hid rfl) _ re a c rv _ _ _ (by omega) (by omega) (by omega) (by omega) (by omega) hk1 a0 a1 a2 b0 b1 b2 HM1 HON ?_
            refine Lib.hid ?_
            intro d0 d1 d2 d3 d4 d5 d6 d7 d8 d9 d10 d11 d12 d13 d14 d15 w3 hb3 hz3 hbx3
            clear hk1 a0 a1 a2 b0 b1 b2
            by_cases h0 : re = 0
            · subst h0
              have s3 : Below (wr.heap.size + 1) W1 w3 ∧ wr.heap.size + 1 < w3.heap.size ∧ w3.heap[wr.heap.size + 1]? = some (.cells #[.int .i64 rv.k, .int .i64 rv.n, .string rv.t] 36 (0, 0)) := ⟨hb3, hz3, hbx3⟩
              clear hb3 hz3 hbx3
              go_wp2_with fail
              obtain ⟨hb3, hz3, hbx3⟩ := s3
              have B3 : Below wr.heap.size wr w3 := HB1.out.trans (hb3.mono (by omega))
              have HB3 := Lib.hid (into HB.out B3)
              obtain ⟨m0, m1, m2, -, -, -⟩ := box3 hbx3
              have hz4 := HB3.out.size
              have O3 := Lib.hid (own_below HOT.out B3)
              change Code.wp _ ((regionOf 20 (Tryd.f29.body.getD .skip)).getD .skip) _ _ _
              refine k20 _ _ _ _ _ _ _ _ _ _ _ _ _ _ _ _ _ _ _ _ _ _ _ _ _ _ _ _ _ _ _ _ _ _ _ _ _ _ _ _ _ _ _ _ _ _ _ _ _ _ _ _ _ _ _ _ _ _ _ _ _ _ _ _ _ _ _ _ _ _ _ _ _ _ _ _ _ _ _ _ _ _ _ w3 W0.heap.size (wr.heap.size + 1) (p + 2) p cp _ s'.reverse rv hz4 (by omega) hqc (by omega) HAOG.out HAZ.out m0 m1 m2 O3 ?_
              refine Lib.hid ?_
              intro u75 u76 u77 u78 u79 u80 u11 w4 h1 h2
              have H1 := Lib.hid h1
              have H4 := Lib.hid (HB3.out.trans h2)
              clear h1 h2 hb3 hz3 hbx3 B3 m0 m1 m2 hz4
              go_wp2_with fail
              go_roundw
              case rel =>
                refine ⟨k + 1, rv :: s', by omega, by go_num, by rw [List.length_cons, HLS.out]; omega, ?_, ?_, ?_, H4.out⟩
                · show World.ownsRow _ _ _ _ _ _ _
                  rw [List.length_cons, HLS.out, vrev_push, vc_app]
                  exact H1.out
                · show _ = _
                  rw [List.length_cons, HLS.out]
                  have h := HE3.out
                  simpa using h
                · show _ = _
                  rw [HRL.out]
                  rfl
              case measure => (simp [intOf]) <;> omega
            · have h0' : (re == 0) = false := by simpa using h0
              have B3 : Below wr.heap.size wr w3 := HB1.out.trans (hb3.mono (by omega))
              have RB3 := Lib.hid ((B3.block w.heap.size (by omega)).trans HRB.out)
              obtain ⟨y0, y1, y2, f0, f1, f2⟩ := box3 RB3.out
              obtain ⟨r0, r1, r2, -, -, -⟩ := box3 ((B3.block (w.heap.size + 1) (by omega)).trans HNB.out)
              have BW3 := Lib.hid (HBW.out.trans (B3.mono HBW.out.size))
              clear hb3 hz3 hbx3 B3
              obtain ⟨v0, v1, v2⟩ := st3c RB3.out (.int .i64 0) (.int .i64 0) (.string ⟨#[]⟩)
              go_wp2_with fail
              (try simp only [Exit.inBlock, Exit.then])
              refine bodyPost_ret (by simp [results, Tryd.results29, go_sem, v0, v1, v2]; try rfl) rfl ?_
              refine ⟨?_, (st3 BW3.out RB3.out _ _ _).1⟩
              rw [HRL.out]
              simp [h0, nul])
    · obtain rfl : k = m := by omega
      have he := HE.out
      rw [List.drop_eq_nil_of_le (by rw [← HML.out]; exact Nat.le_refl _)] at he
      have h1 : st.length = 1 := by
        unfold exF at he
        split at he
        · omega
        · omega
      obtain ⟨x, rfl⟩ : ∃ x, st = [x] := by
        match st, h1 with
        | [x], _ => exact ⟨x, rfl⟩
      obtain ⟨g, rfl, hg0, hg1, hg2⟩ := own_cell3 (j := 0) (x := x) HU.out rfl
      have HZ : Hid (R = (0, [x])) := by
        show _ = _
        rw [HRN.out, List.drop_eq_nil_of_le (by rw [← HML.out]; exact Nat.le_refl _)]
        rfl
      obtain ⟨y0, y1, y2, f0, f1, f2⟩ := box3 HRB.out
      obtain ⟨v0, v1, v2⟩ := st3c HRB.out (.int .i64 x.k) (.int .i64 x.n) (.string x.t)
      clear he HE HRN HU h1
      go_wp2_with fail
      (try simp only [Exit.inBlock, Exit.then])
      refine bodyPost_ret (by simp [results, Tryd.results29, go_sem, v0, v1, v2]; try rfl) rfl ?_
      refine ⟨?_, (st3 HBW.out HRB.out _ _ _).1⟩
      rw [HZ.out]
      rfl
end Go.Proofs.YtmfkdpfcpdmkdaaDoor
/- Rows: the program's expr.Row. -/
namespace Go.Proofs.YtmfkdpfcpdmkdaaDoor
open Go.ChangeShapes Go.WideShapes Go.ChangeAt Go.RowKit Go.Deep
set_option linter.unusedVariables false
set_option linter.unusedSimpArgs false
set_option maxRecDepth 100000 in
set_option maxHeartbeats 4000000 in
theorem row_any (w : World) (hT : Tbs w) (n m : Nat) (v u : Value) (l : List Cq) (r : List V) (hr : Rd w 2 n v (ccs l)) (hs : ∀ c ∈ l, c.t.size ≤ maxLen) (hu : Rd w 3 m u (vc r)) :
    Calls Tryd.prog 28 #[v, u] w fun e w' => e = .returned (.int .i64 (rowF l r)) ∧ Below w.heap.size w w' := by
  have hnl := len_c hr
  have hml := len_v hu
  have hmax := hu.len
  have hmax2 := hr.len
  unfold maxLen at hmax hmax2
  obtain ⟨ao, cap, rfl⟩ : ∃ ao cap, v = .slice ao n cap := by
    obtain ⟨_, ao, cap, h, _⟩ := id hr
    exact ⟨ao, cap, h⟩
  obtain ⟨bo, cbp, rfl⟩ : ∃ ao cap, u = .slice ao m cap := by
    obtain ⟨_, ao, cap, h, _⟩ := id hu
    exact ⟨ao, cap, h⟩
  have hc := cols_any w hT n _ l hr hs
  have hF : rowF l r = if colsF l ≠ 0 then colsF l else if m ≠ n then 1 else rvF 0 l r := by unfold rowF; rw [← hnl, ← hml]
  obtain ⟨q, hq⟩ : ∃ q, q = colsF l := ⟨_, rfl⟩
  have HQ := Lib.hid hq
  rw [← hq] at hc hF
  have HC := Lib.hid hc
  have HF := Lib.hid hF
  clear hc hF hq
  by_cases hq0 : q = 0
  · subst hq0
    by_cases hmn : m = n
    · subst hmn
      obtain ⟨hok, hn1, hn6⟩ := colsF_ok HQ.out.symm
      have HG : Hid (rowF l r = rvF 0 l r) := by show _ = _; rw [HF.out]; simp
      obtain ⟨b, o, cap', hv, _, _, hbw, hcell⟩ := cols_of hr (by omega)
      obtain ⟨_, b', o', cbp', hv', _, _, hbw', hcell'⟩ := vals_of hu (by omega)
      simp only [Value.slice.injEq] at hv hv'
      obtain ⟨rfl, -, rfl⟩ := hv
      obtain ⟨rfl, -, rfl⟩ := hv'
      have HC1 := Lib.hid hcell
      have HC2 := Lib.hid hcell'
      have HN := Lib.hid hnl
      have HM := Lib.hid hml
      have HOK := Lib.hid hok
      clear hcell hcell' hnl hml hok hr hu hs hT HF HQ hn1 hn6
      go_enter Tryd.func28, Tryd.ntmps28
      go_wp2_with fail
      refine HC.out.mono ?_
      rintro e w1 ⟨rfl, hb1⟩
      have HB1 := Lib.hid hb1
      clear hb1
      go_wp2_with fail
      go_loopw [21] (fun i wr => ∃ k : Nat, k ≤ m ∧ i = .int .i64 (k : Int) ∧ Hid (rvF 0 l r = rvF k (l.drop k) (r.drop k)) ∧ Hid (Below w.heap.size w wr)) (fun i _ => m - (intOf i).toNat)
      case atStart => exact ⟨0, by omega, rfl, rfl, HB1.out⟩
      case round =>
        obtain ⟨k, hk, rfl, HE, HB⟩ := hrel
        by_cases hlt : k < m
        · obtain ⟨g0, g1⟩ := HC1.out k hlt
          obtain ⟨d0, d1, d2⟩ := HC2.out k hlt
          have c1 := (HB.out.cell (p := ⟨b, o + k * 2 + 1, none⟩) hbw).trans g1
          have e0 := (HB.out.cell (p := ⟨b', o' + k * 3, none⟩) hbw').trans d0
          have e1 := (HB.out.cell (p := ⟨b', o' + k * 3 + 1, none⟩) hbw').trans d1
          have e2 := (HB.out.cell (p := ⟨b', o' + k * 3 + 2, none⟩) hbw').trans d2
          have hll : k < l.length := by rw [← HN.out]; exact hlt
          have hrl : k < r.length := by rw [← HM.out]; exact hlt
          have hE : rvF k (l.drop k) (r.drop k) = if chk (r.getD k nul).k (r.getD k nul).n (r.getD k nul).t ≠ 0 then chk (r.getD k nul).k (r.getD k nul).n (r.getD k nul).t else if ((r.getD k nul).k ≠ (l.getD k ncq).k ∧ (r.getD k nul).k ≠ 0) ∨ (k = 0 ∧ (r.getD k nul).k = 0) then 4 else rvF (k + 1) (l.drop (k + 1)) (r.drop (k + 1)) := by
            rw [cdrop_cons hll, vdrop_cons hrl]
            rfl
          have hco := HOK.out _ (cgetD_mem hll)
          obtain ⟨x, hx⟩ : ∃ x, x = r.getD k nul := ⟨_, rfl⟩
          obtain ⟨ck, hck⟩ : ∃ ck, ck = (l.getD k ncq).k := ⟨_, rfl⟩
          rw [← hx] at e0 e1 e2 hE
          rw [← hck] at c1 hE hco
          obtain ⟨xk, xn, xt⟩ := x
          simp only at e0 e1 e2 hE
          have hch := chk_any xk xn xt (wr.alloc (.cells #[.int .i64 xk, .int .i64 xn, .string xt] 36))
          obtain ⟨z, hz⟩ : ∃ z, z = chk xk xn xt := ⟨_, rfl⟩
          rw [← hz] at hch hE
          have HCH := Lib.hid hch
          have HEQ := Lib.hid hE
          have HBN : Hid (Below w.heap.size w (wr.alloc (.cells #[.int .i64 xk, .int .i64 xn, .string xt] 36))) := HB.out.alloc HB.out.size _
          have hk1 : 1 ≤ ck := hco.2.1
          clear hch hE hx hck hz hll hrl hco g0 g1 d0 d1 d2
          have c1' := cell_blz ((Below.refl wr.heap.size wr).alloc (Nat.le_refl _) (.cells #[.int .i64 xk, .int .i64 xn, .string xt] 36)) c1
          go_wp2_with fail
          refine HCH.out.mono ?_
          rintro e w2 ⟨rfl, hb2⟩
          obtain ⟨y0, y1, y2, -, -, -⟩ := has3 (new0 wr (.cells #[.int .i64 xk, .int .i64 xn, .string xt] 36)) hb2
          have f1 := cell_blz hb2 c1'
          have HB2 := Lib.hid (into HBN.out hb2)
          clear hb2 c1 c1' e0 e1 e2
          by_cases hz0 : z = 0
          · subst hz0
            obtain ⟨p, hp⟩ : ∃ p, p = (xk == ck || xk == 0) := ⟨_, rfl⟩
            have HKN := Lib.hid (fun w => known_any w xk ck p hp.symm)
            obtain ⟨y, hy⟩ : ∃ y, y = (!p || (decide (k = 0) && decide (xk = 0))) := ⟨_, rfl⟩
            have HYY : Hid (rvF 0 l r = if y = true then 4 else rvF (k + 1) (l.drop (k + 1)) (r.drop (k + 1))) := by
              show _ = _
              rw [HE.out, HEQ.out, if_neg (by simp), hy, hp]
              by_cases c1 : xk = ck <;> by_cases c2 : xk = 0 <;> by_cases c3 : k = 0 <;> simp [c1, c2, c3]
            have hkc : (k : Int) < (m : Int) := by omega
            clear hp HEQ HE
            have hcases : (p = false ∧ y = true) ∨ (p = true ∧ ¬ k = 0 ∧ y = false) ∨ (p = true ∧ k = 0 ∧ xk = 0 ∧ y = true) ∨ (p = true ∧ k = 0 ∧ ¬ xk = 0 ∧ y = false) := by
              rw [hy]
              cases p <;> by_cases c2 : xk = 0 <;> by_cases c3 : k = 0 <;> simp [c2, c3]
            clear hy
            rcases hcases with ⟨rfl, rfl⟩ | ⟨rfl, h3, rfl⟩ | ⟨rfl, h3, h4, rfl⟩ | ⟨rfl, h3, h4, rfl⟩
            · go_wp2_with fail
              go_quiet ((go_at_call 22; exact Calls.quiet_of_same (HKN.out _)))
              go_wp2_with fail
              go_ret
              exact ⟨ri (by rw [HG.out, HYY.out]; rfl), HB2.out.trans ((below_drewN _ _).mono HB2.out.size)⟩
            · have hkz : ((k : Int) == 0) = false := by simp; omega
              go_wp2_with fail
              go_quiet ((go_at_call 22; exact Calls.quiet_of_same (HKN.out _)))
              go_wp2_with fail
              go_roundw
              case rel => exact ⟨k + 1, by omega, by go_num, by show _ = _; rw [HYY.out]; rfl, HB2.out.trans ((below_drewN _ _).mono HB2.out.size)⟩
              case measure => (simp [intOf]) <;> omega
            · subst h3
              obtain rfl : xk = 0 := h4
              simp only [Nat.zero_mul, Nat.add_zero] at f1
              have hm0 : (0 : Int) < (m : Int) := by omega
              clear hkc
              go_wp2_with fail
              go_quiet ((go_at_call 22; exact Calls.quiet_of_same (HKN.out _)))
              go_wp2_with fail
              go_ret
              exact ⟨ri (by rw [HG.out, HYY.out]; rfl), HB2.out.trans ((below_drewN _ _).mono HB2.out.size)⟩
            · subst h3
              simp only [Nat.zero_mul, Nat.add_zero] at f1
              have hm0 : (0 : Int) < (m : Int) := by omega
              have hxz : (xk == 0) = false := by simp; omega
              clear hkc
              go_wp2_with fail
              go_quiet ((go_at_call 22; exact Calls.quiet_of_same (HKN.out _)))
              go_wp2_with fail
              go_roundw
              case rel => exact ⟨0 + 1, by omega, by go_num, by show _ = _; rw [HYY.out]; rfl, HB2.out.trans ((below_drewN _ _).mono HB2.out.size)⟩
              case measure => (simp [intOf]) <;> omega
          · have hz0' : (z == 0) = false := by simpa using hz0
            go_wp2_with fail
            go_ret
            exact ⟨ri (by rw [HG.out, HE.out, HEQ.out, if_pos hz0]), HB2.out⟩
        · obtain rfl : k = m := by omega
          have HZ : Hid (rowF l r = 0) := by
            show _ = _
            rw [HG.out, HE.out, List.drop_eq_nil_of_le (by rw [← HN.out]; exact Nat.le_refl _)]
            rfl
          go_wp2_with fail
          go_ret
          exact ⟨ri HZ.out.symm, HB.out⟩
    · have hmn' : ((m : Int) == (n : Int)) = false := by simp; omega
      have hmn2 : ¬ (m : Int) = (n : Int) := by omega
      have HG : Hid (rowF l r = 1) := by show _ = _; rw [HF.out]; simp [hmn]
      clear HF hnl hml hr hu hs hT
      go_enter Tryd.func28, Tryd.ntmps28
      go_wp2_with fail
      refine HC.out.mono ?_
      rintro e w1 ⟨rfl, hb1⟩
      have HB1 := Lib.hid hb1
      clear hb1
      go_wp2_with fail
      go_ret
      exact ⟨ri HG.out.symm, HB1.out⟩
  · have hq0' : (q == 0) = false := by simpa using hq0
    have HG : Hid (rowF l r = q) := by show _ = _; rw [HF.out, if_pos hq0]
    clear HF hnl hml hr hu hs hT
    go_enter Tryd.func28, Tryd.ntmps28
    go_wp2_with fail
    refine HC.out.mono ?_
    rintro e w1 ⟨rfl, hb1⟩
    have HB1 := Lib.hid hb1
    clear hb1
    go_wp2_with fail
    go_ret
    exact ⟨ri HG.out.symm, HB1.out⟩
end Go.Proofs.YtmfkdpfcpdmkdaaDoor
/- What an expression makes of a row: the program. -/
namespace Go.Proofs.YtmfkdpfcpdmkdaaDoor
open Go.ChangeShapes Go.WideShapes Go.ChangeAt Go.RowKit
set_option linter.unusedVariables false
set_option linter.unusedSimpArgs false
set_option maxHeartbeats 8000000
set_option maxRecDepth 1000000
theorem wks_is (k : Int) : wks k = 0 ∨ wks k = 1 ∨ wks k = 2 := by
  unfold wks
  split
  · exact .inl rfl
  · split
    · exact .inr (.inl rfl)
    · exact .inr (.inr rfl)
theorem ex_mem : ∀ (l : List Oq) (n : Int), exF n l = 0 → ∀ o ∈ l, opF o.k o.v.k o.v.n o.v.t o.t = 0
  | [], n, h, o, ho => by cases ho
  | x :: l, n, h, o, ho => by
    obtain ⟨h1, _, h2⟩ := ex_cons h
    rcases List.mem_cons.1 ho with rfl | ho
    · exact h1
    · exact ex_mem l _ h2 o ho
section
variable {α : Type} (lf : Oq → Int × α) (one : Int → α → Int × α) (two : Int → α → α → Int × α)
theorem rn_ok : ∀ (l : List Oq) (st : List α), exF (st.length : Int) l = 0 → (rnF lf one two st l).1 = 0 → ∀ o ∈ l, wks o.k = 0 → (lf o).1 = 0
  | [], st, _, _, o, ho, _ => by cases ho
  | x :: l, st, he, h, o, ho, hw => by
    obtain ⟨_, h1, h2⟩ := ex_cons he
    rcases wks_is x.k with hk | hk | hk
    · rw [rn_leaf lf one two hk] at h
      by_cases hne : (lf x).1 = 0
      · rw [if_neg (by simpa using hne)] at h
        rcases List.mem_cons.1 ho with rfl | ho
        · exact hne
        · exact rn_ok l _ (by rw [← h2, hk]; congr 1 <;> simp <;> omega) h o ho hw
      · rw [if_pos hne] at h
        exact absurd h hne
    · match st, h1, h2, h with
      | [], h1, _, _ => exact absurd (by rw [hk]; simp) h1
      | a :: s, h1, h2, h =>
        rw [rn_un lf one two hk] at h
        by_cases hne : (one x.k a).1 = 0
        · rw [if_neg (by simpa using hne)] at h
          rcases List.mem_cons.1 ho with rfl | ho
          · omega
          · exact rn_ok l _ (by rw [← h2, hk]; congr 1 <;> simp <;> omega) h o ho hw
        · rw [if_pos hne] at h
          exact absurd h hne
    · match st, h1, h2, h with
      | [], h1, _, _ => exact absurd (by rw [hk]; simp) h1
      | [_], h1, _, _ => exact absurd (by rw [hk]; simp) h1
      | b :: a :: s, h1, h2, h =>
        rw [rn_bi lf one two hk] at h
        by_cases hne : (two x.k a b).1 = 0
        · rw [if_neg (by simpa using hne)] at h
          rcases List.mem_cons.1 ho with rfl | ho
          · omega
          · exact rn_ok l _ (by rw [← h2, hk]; congr 1 <;> simp <;> omega) h o ho hw
        · rw [if_pos hne] at h
          exact absurd h hne
theorem rn_pres (P : α → Prop) (h1 : ∀ k a, P a → P (one k a).2) (h2 : ∀ k a b, P a → P b → P (two k a b).2) : ∀ (l : List Oq) (st : List α), (∀ o ∈ l, wks o.k = 0 → P (lf o).2) → (∀ x ∈ st, P x) → ∀ x ∈ (rnF lf one two st l).2, P x
  | [], st, _, hs => by simpa [rnF] using hs
  | o :: l, st, hl, hs => by
    have hl' : ∀ o ∈ l, wks o.k = 0 → P (lf o).2 := fun x hx => hl x (List.mem_cons_of_mem _ hx)
    have no : ∀ x ∈ ([] : List α), P x := fun x hx => by cases hx
    unfold rnF
    by_cases k0 : wks o.k = 0
    · rw [if_pos k0]
      by_cases hne : (lf o).1 ≠ 0
      · rw [if_pos hne]; exact no
      · rw [if_neg hne]
        refine rn_pres P h1 h2 l _ hl' fun x hx => ?_
        rcases List.mem_cons.1 hx with rfl | hx
        · exact hl o (by simp) k0
        · exact hs x hx
    · rw [if_neg k0]
      by_cases k1 : wks o.k = 1
      · rw [if_pos k1]
        match st, hs with
        | [], _ => exact no
        | a :: s, hs =>
          show ∀ x ∈ (if (one o.k a).1 ≠ 0 then ((one o.k a).1, []) else rnF lf one two ((one o.k a).2 :: s) l).2, P x
          by_cases hne : (one o.k a).1 ≠ 0
          · rw [if_pos hne]; exact no
          · rw [if_neg hne]
            refine rn_pres P h1 h2 l _ hl' fun x hx => ?_
            rcases List.mem_cons.1 hx with rfl | hx
            · exact h1 _ _ (hs a (by simp))
            · exact hs x (by simp [hx])
      · rw [if_neg k1]
        match st, hs with
        | [], _ => exact no
        | [_], _ => exact no
        | b :: a :: s, hs =>
          show ∀ x ∈ (if (two o.k a b).1 ≠ 0 then ((two o.k a b).1, []) else rnF lf one two ((two o.k a b).2 :: s) l).2, P x
          by_cases hne : (two o.k a b).1 ≠ 0
          · rw [if_pos hne]; exact no
          · rw [if_neg hne]
            refine rn_pres P h1 h2 l _ hl' fun x hx => ?_
            rcases List.mem_cons.1 hx with rfl | hx
            · exact h2 _ _ _ (hs a (by simp)) (hs b (by simp))
            · exact hs x (by simp [hx])
end
def Sm (v : V) : Prop := v.t.size ≤ 20
theorem sm_nul : Sm nul := by unfold Sm nul; decide
theorem sm_tru (b : Bool) : Sm (tru b) := by show (⟨#[]⟩ : ByteArray).size ≤ 20; decide
theorem sm_one (k : Int) (a : V) (h : Sm a) : Sm (onV k a).2 := by
  show Sm (one k a).1
  unfold one turn
  split
  · exact sm_nul
  · split
    · exact sm_tru _
    · split
      · split
        · exact sm_nul
        · split
          · exact sm_tru _
          · exact sm_nul
      · exact sm_nul
theorem sm_join (a b : V) (d : Int) (h : Sm a) (g : Sm b) : Sm (join a b d).1 := by
  unfold join
  split
  · exact sm_nul
  · split
    · exact h
    · split
      · exact g
      · split
        · exact sm_nul
        · exact sm_tru _
theorem sm_hold (k : Int) (a b : V) : Sm (hold k a b).1 := by
  unfold hold
  split
  · exact sm_nul
  · split
    · exact sm_nul
    · split
      · exact sm_tru _
      · exact sm_tru _
theorem sm_reck (k : Int) (a b : V) : Sm (reck k a b).1 := by
  unfold reck
  split
  · exact sm_nul
  · split
    · exact sm_nul
    · split
      · exact sm_nul
      · show (⟨#[]⟩ : ByteArray).size ≤ 20; decide
theorem sm_two (k : Int) (a b : V) (h : Sm a) (g : Sm b) : Sm (twV k a b).2 := by
  show Sm (two k a b).1
  unfold two
  split
  · exact sm_nul
  · split
    · exact sm_join _ _ _ h g
    · split
      · exact sm_join _ _ _ h g
      · split
        · exact sm_hold _ _ _
        · split
          · exact sm_hold _ _ _
          · split
            · exact sm_reck _ _ _
            · split
              · exact sm_reck _ _ _
              · split
                · exact sm_reck _ _ _
                · exact sm_nul
theorem chk_sm {v : V} (h : chk v.k v.n v.t = 0) : Sm v := by
  unfold chk at h
  unfold Sm
  split at h
  · omega
  · split at h
    · omega
    · split at h
      · omega
      · split at h <;> omega
theorem rv_sm : ∀ (r : List V) (l : List Cq) (i : Nat), r.length = l.length → rvF i l r = 0 → ∀ v ∈ r, Sm v
  | [], _, _, _, _, v, hv => by cases hv
  | x :: r, [], _, h, _, _, _ => by simp at h
  | x :: r, c :: l, i, hl, h, v, hv => by
    unfold rvF at h
    split at h
    · omega
    · next h1 =>
      split at h
      · omega
      · rcases List.mem_cons.1 hv with rfl | hv
        · exact chk_sm (by simpa using h1)
        · exact rv_sm r l _ (by simpa using hl) h v hv
theorem op_sm {o : Oq} (h : opF o.k o.v.k o.v.n o.v.t o.t = 0) : Sm o.v := by
  unfold opF at h
  split at h
  · omega
  · split at h
    · omega
    · next h1 =>
      have h2 : litF o.v.k o.v.n o.v.t = 0 := by simpa using h1
      unfold litF at h2
      split at h2
      · omega
      · exact chk_sm h2
/-- What Eval answers: the fault, the value. -/
def evalF (l : List Cq) (r : List V) (ops : List Oq) : Int × V :=
  if rowF l r ≠ 0 then (rowF l r, nul) else if (kindF l ops).1 ≠ 0 then ((kindF l ops).1, nul)
  else ((rnF (lfV l r) onV twV [] ops).1, if (rnF (lfV l r) onV twV [] ops).1 ≠ 0 then nul else (rnF (lfV l r) onV twV [] ops).2.headD nul)
theorem row_ok {l : List Cq} {r : List V} (h : rowF l r = 0) : colsF l = 0 ∧ r.length = l.length ∧ rvF 0 l r = 0 := by
  unfold rowF at h
  split at h
  · omega
  · next h1 =>
    split at h
    · omega
    · next h2 => exact ⟨by simpa using h1, by simpa using h2, h⟩
theorem kind_ok {l : List Cq} {ops : List Oq} (h : (kindF l ops).1 = 0) : exprF ops = 0 ∧ exF 0 ops = 0 ∧ (rnF (lfK l) onK twK [] ops).1 = 0 := by
  unfold kindF at h
  split at h
  · next h1 => exact absurd h h1
  · split at h
    · next h1 => exact absurd h h1
    · next h1 =>
      have h2 : exprF ops = 0 := by simpa using h1
      refine ⟨h2, ?_, h⟩
      unfold exprF at h2
      split at h2
      · omega
      · exact h2
/-- Where a leaf's column is. -/
theorem leaf_in {l : List Cq} {r : List V} {ops : List Oq} (hr : rowF l r = 0) (hk : (kindF l ops).1 = 0) {o : Oq} (ho : o ∈ ops) (hw : wks o.k = 0) : o.k = 1 ∨ ∃ j : Nat, plI l o.t = (j : Int) ∧ j < r.length := by
  obtain ⟨_, h1, h2⟩ := kind_ok hk
  have h3 := rn_ok (lfK l) onK twK ops [] h1 h2 o ho hw
  by_cases h : o.k = 1
  · exact .inl h
  · unfold lfK at h3
    rw [if_neg h] at h3
    rcases plI_in l o.t with hp | ⟨j, hp, hj⟩
    · rw [hp] at h3
      simp at h3
    · exact .inr ⟨j, hp, by rw [(row_ok hr).2.1]; exact hj⟩
theorem eval_sm {l : List Cq} {r : List V} {ops : List Oq} (hr : rowF l r = 0) (hk : (kindF l ops).1 = 0) : Sm (if (rnF (lfV l r) onV twV [] ops).1 ≠ 0 then nul else (rnF (lfV l r) onV twV [] ops).2.headD nul) := by
  have h := rn_pres (lfV l r) onV twV Sm sm_one sm_two ops [] (fun o ho hw => by
    unfold lfV
    show Sm (if o.k = 1 then o.v else r.getD (plI l o.t).toNat nul)
    split
    · exact op_sm (ex_mem ops 0 (kind_ok hk).2.1 o ho)
    · next h1 =>
      rcases leaf_in hr hk ho hw with h2 | ⟨j, h2, h3⟩
      · exact absurd h2 h1
      · rw [h2]
        refine rv_sm r l 0 (row_ok hr).2.1 (row_ok hr).2.2 _ ?_
        rw [Int.toNat_natCast, List.getD_eq_getElem?_getD, List.getElem?_eq_getElem h3]
        exact List.getElem_mem h3) (fun x hx => by cases hx)
  split
  · exact sm_nul
  · match hq : (rnF (lfV l r) onV twV [] ops).2 with
    | [] => exact sm_nul
    | x :: s =>
      rw [hq] at h
      exact h x (by simp)
theorem eval1_any (w : World) (RB CB n m : Nat) (v u : Value) (l : List Cq) (r : List V) (o : Oq) (hr : Rd w 2 n v (ccs l)) (hx : w.cell? ⟨CB, 0, none⟩ = some v) (hu : Rd w 3 m u (vc r)) (hy : w.cell? ⟨RB, 0, none⟩ = some u) (hin : o.k = 1 ∨ ∃ j : Nat, plI l o.t = (j : Int) ∧ j < r.length) :
    Calls Tryd.prog 30 #[.agg #[.int .i64 o.k, .int .i64 o.v.k, .int .i64 o.v.n, .string o.v.t, .string o.t], .pointer (some ⟨RB, 0, none⟩), .pointer (some ⟨CB, 0, none⟩)] w (ValIs (lfV l r o) w) := by
  obtain ⟨k, ⟨vk, vn, vt⟩, t⟩ := o
  obtain ⟨W1, hW1⟩ : ∃ W1, W1 = (w.alloc (.cells #[.int .i64 k, .int .i64 vk, .int .i64 vn, .string vt, .string t] 44)).alloc (.cells #[.int .i64 0, .int .i64 0, .string ⟨#[]⟩] 36) := ⟨_, rfl⟩
  have HBW : Hid (Below w.heap.size w W1) := Lib.hid (by subst hW1; exact ((Below.refl _ _).alloc (Nat.le_refl _) _).alloc (by simp) _)
  have hz1 : W1.heap.size = w.heap.size + 2 := by subst hW1; simp
  have HO1 : Hid (W1.heap[w.heap.size]? = some (.cells #[.int .i64 k, .int .i64 vk, .int .i64 vn, .string vt, .string t] 44 (0, 0))) := Lib.hid (by subst hW1; rw [Below.heap_alloc _ _ _ (by simp)]; exact heap_alloc_new w _)
  have HM1 : Hid (W1.heap[w.heap.size + 1]? = some (.cells #[.int .i64 0, .int .i64 0, .string ⟨#[]⟩] 36 (0, 0))) := Lib.hid (by subst hW1; have h := heap_alloc_new (w.alloc (.cells #[.int .i64 k, .int .i64 vk, .int .i64 vn, .string vt, .string t] 44)) (.cells #[.int .i64 0, .int .i64 0, .string ⟨#[]⟩] 36); simpa using h)
  have HW1 := Lib.hid hW1
  clear hW1
  by_cases h1 : k = 1
  · subst h1
    clear hr hx hu hy hin
    go_enter Tryd.func30, Tryd.ntmps30
    go_wp2_with fail
    go_returns
    exact ⟨rfl, ((Below.refl _ _).alloc (Nat.le_refl _) _).alloc (by simp) _⟩
  · have h1' : (k == 1) = false := by simpa using h1
    obtain ⟨j, hj, hjr⟩ : ∃ j : Nat, plI l t = (j : Int) ∧ j < r.length := by
      rcases hin with h | h
      · exact absurd h h1
      · exact h
    have HP := Lib.hid (fun (W : World) (h : Below w.heap.size w W) => place_any W n v l t (hr.below h))
    rw [hj] at HP
    have HF : Hid (lfV l r ⟨k, ⟨vk, vn, vt⟩, t⟩ = (0, r.getD j nul)) := by
      show _ = _
      unfold lfV
      simp [h1, hj]
    obtain ⟨hrl, b, o, cap, rfl, _, _, hbw, hcell⟩ := vals_of hu (by have := len_v hu; omega)
    obtain ⟨g0, g1, g2⟩ := hcell j (by omega)
    obtain ⟨x, hxx⟩ : ∃ x, x = r.getD j nul := ⟨_, rfl⟩
    rw [← hxx] at g0 g1 g2 HF
    have c0 := cell_blz HBW.out g0
    have c1 := cell_blz HBW.out g1
    have c2 := cell_blz HBW.out g2
    have p0 := cell_blz HBW.out hy
    have p1 := cell_blz HBW.out hx
    have o4 : W1.cell? ⟨w.heap.size, 4, none⟩ = some (.string t) := by simp only [World.cell?]; rw [HO1.out]; rfl
    have i0 : (0 : Int) ≤ (j : Int) := by omega
    have i1 : (j : Int) < (m : Int) := by omega
    have hRB := lt_cell hy
    have hCB := lt_cell hx
    have hbb : b < w.heap.size + 1 := by omega
    have hRB' : RB < w.heap.size + 1 := Nat.lt_succ_of_lt hRB
    have hCB' : CB < w.heap.size + 1 := Nat.lt_succ_of_lt hCB
    clear hr hx hu hy hin hcell g0 g1 g2 hxx
    have heldE : ∀ wx, Below (w.heap.size + 1) W1 wx → (fun wx => Below (w.heap.size + 1) W1 wx ∧ wx.cell? ⟨RB, 0, none⟩ = some (.slice (some ⟨b, o, none⟩) m cap) ∧ wx.cell? ⟨CB, 0, none⟩ = some v ∧ wx.cell? ⟨w.heap.size, 4, none⟩ = some (.string t) ∧ wx.cell? ⟨b, o + j * 3, none⟩ = some (.int .i64 x.k) ∧ wx.cell? ⟨b, o + j * 3 + 1, none⟩ = some (.int .i64 x.n) ∧ wx.cell? ⟨b, o + j * 3 + 2, none⟩ = some (.string x.t)) wx := fun wx h => ⟨h, (h.cell (by show RB < _; omega)).trans p0, (h.cell (by show CB < _; omega)).trans p1, (h.cell (by show w.heap.size < _; omega)).trans o4, (h.cell (by show b < _; omega)).trans c0, (h.cell (by show b < _; omega)).trans c1, (h.cell (by show b < _; omega)).trans c2⟩
    go_enter Tryd.func30, Tryd.ntmps30
    go_wp2_with fail
    rw [← HW1.out]
    refine wp_region_held_drew (S := (fun wx => Below (w.heap.size + 1) W1 wx ∧ wx.cell? ⟨RB, 0, none⟩ = some (.slice (some ⟨b, o, none⟩) m cap) ∧ wx.cell? ⟨CB, 0, none⟩ = some v ∧ wx.cell? ⟨w.heap.size, 4, none⟩ = some (.string t) ∧ wx.cell? ⟨b, o + j * 3, none⟩ = some (.int .i64 x.k) ∧ wx.cell? ⟨b, o + j * 3 + 1, none⟩ = some (.int .i64 x.n) ∧ wx.cell? ⟨b, o + j * 3 + 2, none⟩ = some (.string x.t))) (by kernel_rfl) ?_ (fun hHeld => ?_)
    · (try dsimp only)
      exact heldE _ (by first | exact (Below.refl _ _).drew | exact hB2 | exact (st3 hB2 hbx _ _ _).1)
    refine wpAnyH_take (i := 0) (oi := _) (v := ?_) rfl (by kernel_rfl) (by kernel_rfl) (by kernel_rfl) (fun _ _ _ h => h) (Or.inl ⟨by rfl, ?_⟩) (by assumption) ?_
    rotate_left
    · (intro w hSw; (try dsimp only at hSw); go_simp)
      all_goals (with_reducible rfl)
    (try simp only [List.getElem_toArray, List.getElem_cons_zero, List.getElem_cons_succ, Act.put, List.setIfInBounds_toArray, List.set_cons_zero, List.set_cons_succ])
    refine wpAnyH_take (i := 1) (oi := _) (v := ?_) rfl (by kernel_rfl) (by kernel_rfl) (by kernel_rfl) (fun _ _ _ h => h) (Or.inl ⟨by rfl, ?_⟩) (by assumption) ?_
    rotate_left
    · (intro w hSw; (try dsimp only at hSw); go_simp)
      all_goals (with_reducible rfl)
    (try simp only [List.getElem_toArray, List.getElem_cons_zero, List.getElem_cons_succ, Act.put, List.setIfInBounds_toArray, List.set_cons_zero, List.set_cons_succ])
    refine wpAnyH_take (i := 2) (oi := _) (v := ?_) rfl (by kernel_rfl) (by kernel_rfl) (by kernel_rfl) (fun _ _ _ h => h) (Or.inl ⟨by rfl, ?_⟩) (by assumption) ?_
    rotate_left
    · (intro w hSw; (try dsimp only at hSw); go_simp)
      all_goals (with_reducible rfl)
    (try simp only [List.getElem_toArray, List.getElem_cons_zero, List.getElem_cons_succ, Act.put, List.setIfInBounds_toArray, List.set_cons_zero, List.set_cons_succ])
    refine wpAnyH_take (i := 3) (oi := _) (v := ?_) rfl (by kernel_rfl) (by kernel_rfl) (by kernel_rfl) (fun _ _ _ h => h) (Or.inl ⟨by rfl, ?_⟩) (by assumption) ?_
    rotate_left
    · (intro w hSw; (try dsimp only at hSw); go_simp)
      all_goals (with_reducible rfl)
    (try simp only [List.getElem_toArray, List.getElem_cons_zero, List.getElem_cons_succ, Act.put, List.setIfInBounds_toArray, List.set_cons_zero, List.set_cons_succ])
    refine wpAnyH_ready (rs := [4]) (by kernel_rfl) (by simp) ?_
    refine AllReadyH.cons rfl (fun K hK => ?_) AllReadyH.nil
    go_simp
    (go_at_call 31; (with_reducible refine (HP.out _ (into HBW.out (by go_grown))).mono ?_); rintro e w2 ⟨rfl, hb2⟩; have hB1 : Below W1.heap.size W1 w2 := into (by go_grown) hb2; have hB2 : Below (w.heap.size + 1) W1 w2 := hB1.mono (by omega); have hbx := (hB1.block (w.heap.size + 1) (by omega)).trans HM1.out; obtain ⟨z0, z1, z2, f0, f1, f2⟩ := box3 hbx)
    go_wp2_with fail
    refine hK.out _ _ ?_ (fun hHeld => ?_)
    · (try dsimp only)
      exact heldE _ (by first | exact (Below.refl _ _).drew | exact hB2 | exact (st3 hB2 hbx _ _ _).1)
    clear hK K
    (try simp only [List.getElem_toArray, List.getElem_cons_zero, List.getElem_cons_succ, Act.put, List.setIfInBounds_toArray, List.set_cons_zero, List.set_cons_succ])
    refine wpAnyH_take (i := 5) (oi := _) (v := ?_) rfl (by kernel_rfl) (by kernel_rfl) (by kernel_rfl) (fun _ _ _ h => h) (Or.inl ⟨by rfl, ?_⟩) (by assumption) ?_
    rotate_left
    · (intro w hSw; (try dsimp only at hSw); go_simp)
      all_goals (with_reducible rfl)
    (try simp only [List.getElem_toArray, List.getElem_cons_zero, List.getElem_cons_succ, Act.put, List.setIfInBounds_toArray, List.set_cons_zero, List.set_cons_succ])
    refine wpAnyH_take (i := 6) (oi := _) (v := ?_) rfl (by kernel_rfl) (by kernel_rfl) (by kernel_rfl) (fun _ _ _ h => h) (Or.inl ⟨by rfl, ?_⟩) (by assumption) ?_
    rotate_left
    · (intro w hSw; (try dsimp only at hSw); go_simp)
      all_goals (with_reducible rfl)
    (try simp only [List.getElem_toArray, List.getElem_cons_zero, List.getElem_cons_succ, Act.put, List.setIfInBounds_toArray, List.set_cons_zero, List.set_cons_succ])
    refine wpAnyH_ready (rs := [7]) (by kernel_rfl) (by simp) ?_
    refine AllReadyH.cons rfl (fun K hK => ?_) AllReadyH.nil
    go_simp
    refine hK.out _ _ ?_ (fun hHeld => ?_)
    · (try dsimp only)
      exact heldE _ (by first | exact (Below.refl _ _).drew | exact hB2 | exact (st3 hB2 hbx _ _ _).1)
    clear hK K
    (try simp only [List.getElem_toArray, List.getElem_cons_zero, List.getElem_cons_succ, Act.put, List.setIfInBounds_toArray, List.set_cons_zero, List.set_cons_succ])
    refine wpAnyH_ready (rs := [8]) (by kernel_rfl) (by simp) ?_
    refine AllReadyH.cons rfl (fun K hK => ?_) AllReadyH.nil
    go_simp
    refine hK.out _ _ ?_ (fun hHeld => ?_)
    · (try dsimp only)
      exact heldE _ (by first | exact (Below.refl _ _).drew | exact hB2 | exact (st3 hB2 hbx _ _ _).1)
    clear hK K
    (try simp only [List.getElem_toArray, List.getElem_cons_zero, List.getElem_cons_succ, Act.put, List.setIfInBounds_toArray, List.set_cons_zero, List.set_cons_succ])
    refine wpAnyH_done (by kernel_rfl) ?_ _
    have s3 := st3 hB2 hbx (.int .i64 x.k) (.int .i64 x.n) (.string x.t)
    obtain ⟨v0, v1, v2⟩ := st3c hbx (.int .i64 x.k) (.int .i64 x.n) (.string x.t)
    go_wp2_with fail
    (try simp only [Exit.inBlock, Exit.then])
    refine bodyPost_ret (by simp [results, Tryd.results30, go_sem, v0, v1, v2]; try rfl) rfl ?_
    rw [HF.out]
    exact ⟨rfl, HBW.out.trans (s3.1.mono (by omega))⟩
theorem eval_any (w : World) (hT : Tbs w) (n m q : Nat) (v u x : Value) (l : List Cq) (r : List V) (ops : List Oq) (hr : Rd w 2 n v (ccs l)) (hs : ∀ c ∈ l, c.t.size ≤ maxLen) (hu : Rd w 3 m u (vc r)) (hx : Rd w 5 q x (ocs ops)) (hos : ∀ o ∈ ops, o.t.size ≤ maxLen) :
    Calls Tryd.prog 11 #[v, u, x] w (ValIs (evalF l r ops) w) := by
  obtain ⟨va0, vcap, rfl⟩ : ∃ ao cap, v = .slice ao n cap := by
    obtain ⟨_, ao, cap, h, _⟩ := id hr
    exact ⟨ao, cap, h⟩
  obtain ⟨ua0, ucap, rfl⟩ : ∃ ao cap, u = .slice ao m cap := by
    obtain ⟨_, ao, cap, h, _⟩ := id hu
    exact ⟨ao, cap, h⟩
  obtain ⟨W0, hW0⟩ : ∃ W0, W0 = ((w.alloc (.cells #[.slice va0 n vcap] 33)).alloc (.cells #[.slice ua0 m ucap] 25)).alloc (.cells #[.int .i64 0, .int .i64 0, .string ⟨#[]⟩] 36) := ⟨_, rfl⟩
  have HBW : Hid (Below w.heap.size w W0) := Lib.hid (by subst hW0; exact (((Below.refl _ _).alloc (Nat.le_refl _) _).alloc (by simp) _).alloc (by simp; omega) _)
  have hz0 : W0.heap.size = w.heap.size + 3 := by subst hW0; simp
  have k0 : W0.cell? ⟨w.heap.size, 0, none⟩ = some (.slice va0 n vcap) := by
    subst hW0
    simp only [World.cell?]
    rw [Below.heap_alloc _ _ _ (by simp; omega), Below.heap_alloc _ _ _ (by simp), heap_alloc_new w _]
    rfl
  have k1 : W0.cell? ⟨w.heap.size + 1, 0, none⟩ = some (.slice ua0 m ucap) := by
    subst hW0
    have h := heap_alloc_new (w.alloc (.cells #[.slice va0 n vcap] 33)) (.cells #[.slice ua0 m ucap] 25)
    simp only [World.cell?]
    rw [Below.heap_alloc _ _ _ (by simp), show w.heap.size + 1 = (w.alloc (.cells #[.slice va0 n vcap] 33)).heap.size by simp, h]
    rfl
  have HM0 : Hid (W0.heap[w.heap.size + 2]? = some (.cells #[.int .i64 0, .int .i64 0, .string ⟨#[]⟩] 36 (0, 0))) := Lib.hid (by subst hW0; have h := heap_alloc_new ((w.alloc (.cells #[.slice va0 n vcap] 33)).alloc (.cells #[.slice ua0 m ucap] 25)) (.cells #[.int .i64 0, .int .i64 0, .string ⟨#[]⟩] 36); simpa using h)
  have HR := Lib.hid (fun (W : World) (h : Below w.heap.size w W) => row_any W (hT.below h) n m _ _ l r (hr.below h) hs (hu.below h))
  have HK := Lib.hid (fun (W : World) (h : Below w.heap.size w W) => kind_any W (hT.below h) n q _ x l ops (hr.below h) hs (hx.below h) hos)
  have HFD := Lib.hid (fun (W : World) (h : Below w.heap.size w W) (h1 : W.cell? ⟨w.heap.size + 1, 0, none⟩ = some (.slice ua0 m ucap)) (h2 : W.cell? ⟨w.heap.size, 0, none⟩ = some (.slice va0 n vcap)) (h3 : rowF l r = 0) (h4 : (kindF l ops).1 = 0) =>
    foldV_any W q x ops l r (w.heap.size + 1) w.heap.size (hx.below h) (kind_ok h4).1 (fun W2 hb o ho hw => eval1_any W2 (w.heap.size + 1) w.heap.size n m _ _ l r o (hr.below (into h hb)) (cell_blz hb h2) (hu.below (into h hb)) (cell_blz hb h1) (leaf_in h3 h4 ho hw)))
  have hF : evalF l r ops = if rowF l r ≠ 0 then (rowF l r, nul) else if (kindF l ops).1 ≠ 0 then ((kindF l ops).1, nul) else ((rnF (lfV l r) onV twV [] ops).1, if (rnF (lfV l r) onV twV [] ops).1 ≠ 0 then nul else (rnF (lfV l r) onV twV [] ops).2.headD nul) := rfl
  have HSM := Lib.hid (fun (h3 : rowF l r = 0) (h4 : (kindF l ops).1 = 0) => eval_sm h3 h4)
  obtain ⟨y, hy⟩ : ∃ y, y = rowF l r := ⟨_, rfl⟩
  obtain ⟨z, hz⟩ : ∃ z, z = kindF l ops := ⟨_, rfl⟩
  obtain ⟨R, hR⟩ : ∃ R, R = rnF (lfV l r) onV twV [] ops := ⟨_, rfl⟩
  obtain ⟨z1, z2⟩ := z
  rw [← hy] at HR HFD hF HSM
  rw [← hz] at HK HFD hF HSM
  rw [← hR] at HFD hF HSM
  obtain ⟨g, hg⟩ : ∃ g, g = (if R.1 ≠ 0 then nul else R.2.headD nul) := ⟨_, rfl⟩
  obtain ⟨f, hf⟩ : ∃ f, f = R.1 := ⟨_, rfl⟩
  have HFE : Hid (∀ W, Below w.heap.size w W → W.cell? ⟨w.heap.size + 1, 0, none⟩ = some (.slice ua0 m ucap) → W.cell? ⟨w.heap.size, 0, none⟩ = some (.slice va0 n vcap) → y = 0 → z1 = 0 → Calls Tryd.prog 29 #[x, .func (.func 30) #[] #[.pointer (some ⟨w.heap.size + 1, 0, none⟩), .pointer (some ⟨w.heap.size, 0, none⟩)], .func (.func 32) #[] #[], .func (.func 33) #[] #[]] W fun e w' => e = .returned (.tuple #[va g, .int .i64 f]) ∧ Below W.heap.size W w') := fun W h1 h2 h3 h4 h5 => by
    rw [hg, hf]
    exact HFD.out W h1 h2 h3 h4 h5
  rw [← hg, ← hf] at hF
  rw [← hg] at HSM
  have HF := Lib.hid hF
  have HW0 := Lib.hid hW0
  clear hF hy hz hR hg hf HFD hr hs hu hx hos hT hW0
  by_cases hy0 : y = 0
  · subst hy0
    by_cases hz0' : z1 = 0
    · subst hz0'
      have HZ : Hid (evalF l r ops = (f, g)) := by show _ = _; rw [HF.out]; simp
      have hsm : g.t.size ≤ 20 := HSM.out rfl rfl
      have HCL : Hid (∀ W, Calls Tryd.prog 34 #[.string g.t] W fun e w' => e = .returned (.string g.t) ∧ Below W.heap.size W w') := fun W => clone_any W g.t (by omega)
      clear HSM HF hsm
      go_enter Tryd.func11, Tryd.ntmps11
      go_wp2_with fail
      rw [← HW0.out]
      refine (HR.out _ HBW.out).mono ?_
      rintro e w1 ⟨rfl, hb1⟩
      have a0 := cell_blz hb1 k0
      have a1 := cell_blz hb1 k1
      have HM1 := Lib.hid ((hb1.block (w.heap.size + 2) (by omega)).trans HM0.out)
      have HB1 := Lib.hid (into HBW.out hb1)
      have hz1 := hb1.size
      clear hb1 k0 k1
      go_wp2_with fail
      refine (HK.out _ HB1.out).mono ?_
      rintro e w2 ⟨rfl, hb2⟩
      have b0 := cell_blz hb2 a0
      have b1 := cell_blz hb2 a1
      have HM2 := Lib.hid ((hb2.block (w.heap.size + 2) (by omega)).trans HM1.out)
      have HB2 := Lib.hid (into HB1.out hb2)
      have hz2 := hb2.size
      clear hb2 a0 a1
      go_wp2_with fail
      refine (HFE.out _ HB2.out b1 b0 (by simp) (by simp)).mono ?_
      rintro e w3 ⟨rfl, hb3⟩
      have HM3 := Lib.hid ((hb3.block (w.heap.size + 2) (by omega)).trans HM2.out)
      have HB3 := Lib.hid (into HB2.out hb3)
      have hz3 := hb3.size
      clear hb3 b0 b1
      go_wp2_with fail
      refine (HCL.out _).mono ?_
      rintro e w4 ⟨rfl, hb4⟩
      have hb34 : Below w3.heap.size w3 w4 := into ((Below.refl _ _).alloc (Nat.le_refl _) _) hb4
      have HM4 := Lib.hid ((hb34.block (w.heap.size + 2) (by omega)).trans HM3.out)
      have HV4 : Hid (w4.heap[w3.heap.size]? = some (.cells #[.int .i64 g.k, .int .i64 g.n, .string g.t] 36 (0, 0))) := Lib.hid ((hb4.block w3.heap.size (by simp)).trans (heap_alloc_new w3 _))
      obtain ⟨y0, y1, y2, f0, f1, f2⟩ := box3 HV4.out
      have hne : w.heap.size + 2 ≠ w3.heap.size := by omega
      have HM5 : Hid ((w4.setCell ⟨w3.heap.size, 2, none⟩ (.string g.t)).heap[w.heap.size + 2]? = some (.cells #[.int .i64 0, .int .i64 0, .string ⟨#[]⟩] 36 (0, 0))) := Lib.hid ((Below.heap_setCell _ _ _ _ hne).trans HM4.out)
      obtain ⟨x0, x1, x2, e0, e1, e2⟩ := box3 HM5.out
      have HV5 : (w4.setCell ⟨w3.heap.size, 2, none⟩ (.string g.t)).cell? ⟨w3.heap.size, 2, none⟩ = some (.string g.t) := by
        have h := Lib.heap_setCell_same (i := 2) HV4.out (.string g.t)
        simp only [World.cell?]
        rw [h]
        rfl
      obtain ⟨v0, v1, v2⟩ := st3c HM5.out (.int .i64 g.k) (.int .i64 g.n) (.string g.t)
      have hb5 : Below w.heap.size w (w4.setCell ⟨w3.heap.size, 2, none⟩ (.string g.t)) := by
        have h := into HB3.out hb34
        exact ⟨h.os, h.tape, h.output, by simpa using h.size, fun k hk => (Below.heap_setCell _ _ _ _ (by show _ ≠ w3.heap.size; omega)).trans (h.block k hk)⟩
      have s3 := st3 (Below.refl (w.heap.size + 2) _) HM5.out (.int .i64 g.k) (.int .i64 g.n) (.string g.t)
      go_wp2_with fail
      (try simp only [Exit.inBlock, Exit.then])
      refine bodyPost_ret (by simp [results, Tryd.results11, go_sem, v0, v1, v2]; try rfl) rfl ?_
      rw [HZ.out]
      exact ⟨rfl, hb5.trans (s3.1.mono (by omega))⟩
    · have hq0 : (z1 == 0) = false := by simpa using hz0'
      have HZ : Hid (evalF l r ops = (z1, nul)) := by show _ = _; rw [HF.out]; simp [hz0']
      clear HSM HF HFE
      go_enter Tryd.func11, Tryd.ntmps11
      go_wp2_with fail
      rw [← HW0.out]
      refine (HR.out _ HBW.out).mono ?_
      rintro e w1 ⟨rfl, hb1⟩
      have a0 := cell_blz hb1 k0
      have HM1 := Lib.hid ((hb1.block (w.heap.size + 2) (by omega)).trans HM0.out)
      have HB1 := Lib.hid (into HBW.out hb1)
      have hz1 := hb1.size
      clear hb1 k0 k1
      go_wp2_with fail
      refine (HK.out _ HB1.out).mono ?_
      rintro e w2 ⟨rfl, hb2⟩
      have HM2 := Lib.hid ((hb2.block (w.heap.size + 2) (by omega)).trans HM1.out)
      have HB2 := Lib.hid (into HB1.out hb2)
      clear hb2 a0
      obtain ⟨x0, x1, x2, e0, e1, e2⟩ := box3 HM2.out
      obtain ⟨v0, v1, v2⟩ := st3c HM2.out (.int .i64 0) (.int .i64 0) (.string ⟨#[]⟩)
      have s3 := st3 (Below.refl (w.heap.size + 2) _) HM2.out (.int .i64 0) (.int .i64 0) (.string ⟨#[]⟩)
      go_wp2_with fail
      (try simp only [Exit.inBlock, Exit.then])
      refine bodyPost_ret (by simp [results, Tryd.results11, go_sem, v0, v1, v2]; try rfl) rfl ?_
      rw [HZ.out]
      exact ⟨rfl, HB2.out.trans (s3.1.mono (by omega))⟩
  · have hq0 : (y == 0) = false := by simpa using hy0
    have HZ : Hid (evalF l r ops = (y, nul)) := by show _ = _; rw [HF.out]; simp [hy0]
    clear HSM HF HFE HK
    go_enter Tryd.func11, Tryd.ntmps11
    go_wp2_with fail
    rw [← HW0.out]
    refine (HR.out _ HBW.out).mono ?_
    rintro e w1 ⟨rfl, hb1⟩
    have HM1 := Lib.hid ((hb1.block (w.heap.size + 2) (by omega)).trans HM0.out)
    have HB1 := Lib.hid (into HBW.out hb1)
    clear hb1 k0 k1
    obtain ⟨x0, x1, x2, e0, e1, e2⟩ := box3 HM1.out
    obtain ⟨v0, v1, v2⟩ := st3c HM1.out (.int .i64 0) (.int .i64 0) (.string ⟨#[]⟩)
    have s3 := st3 (Below.refl (w.heap.size + 2) _) HM1.out (.int .i64 0) (.int .i64 0) (.string ⟨#[]⟩)
    go_wp2_with fail
    (try simp only [Exit.inBlock, Exit.then])
    refine bodyPost_ret (by simp [results, Tryd.results11, go_sem, v0, v1, v2]; try rfl) rfl ?_
    rw [HZ.out]
    exact ⟨rfl, HB1.out.trans (s3.1.mono (by omega))⟩
end Go.Proofs.YtmfkdpfcpdmkdaaDoor

/- Ops folded over a stack of values: what a call makes is kept, and put upon the stack. -/
import Derived.Test.YtfbmnkkpbcdjfaaDoorYh
import Derived.Deep.AppendLies
namespace Go.Proofs.YtfbmnkkpbcdjfaaDoor
open Go.ChangeShapes Go.WideShapes Go.ChangeAt Go.RowKit
set_option linter.unusedVariables false
set_option linter.unusedSimpArgs false
set_option maxHeartbeats 4000000
set_option maxRecDepth 1000000
theorem vc_news (w : World) (x : V) (B : Nat) (hB : w.heap.size = B) : (w.alloc (.cells #[.int .i64 x.k, .int .i64 x.n, .string x.t] 36)).heap[B]? = some (.cells #[.int .i64 x.k, .int .i64 x.n, .string x.t] 36 (0, 0)) := by
  subst hB
  exact heap_alloc_new w _
theorem box3 {w : World} {B : Nat} {x y z : Value} {T : TypeId} (h : w.heap[B]? = some (.cells #[x, y, z] T (0, 0))) :
    w.cell? ⟨B, 0, none⟩ = some x ∧ w.cell? ⟨B, 1, none⟩ = some y ∧ w.cell? ⟨B, 2, none⟩ = some z ∧ w.frozen? ⟨B, 0, none⟩ = false ∧ w.frozen? ⟨B, 1, none⟩ = false ∧ w.frozen? ⟨B, 2, none⟩ = false := by
  refine ⟨?_, ?_, ?_, ?_, ?_, ?_⟩ <;> (simp only [World.cell?, World.frozen?]; rw [h]; rfl)
theorem st3 {w0 w : World} {B : Nat} {x y z : Value} {T : TypeId} (hb : Below B w0 w) (h : w.heap[B]? = some (.cells #[x, y, z] T (0, 0))) (a b c : Value) :
    Below B w0 (((w.setCell ⟨B, 0, none⟩ a).setCell ⟨B, 1, none⟩ b).setCell ⟨B, 2, none⟩ c) ∧ B < (((w.setCell ⟨B, 0, none⟩ a).setCell ⟨B, 1, none⟩ b).setCell ⟨B, 2, none⟩ c).heap.size ∧ (((w.setCell ⟨B, 0, none⟩ a).setCell ⟨B, 1, none⟩ b).setCell ⟨B, 2, none⟩ c).heap[B]? = some (.cells #[a, b, c] T (0, 0)) := by
  have hl : B < w.heap.size := by
    rcases Nat.lt_or_ge B w.heap.size with h1 | h1
    · exact h1
    · rw [Array.getElem?_eq_none h1] at h; cases h
  have h3 := Lib.heap_setCell_same (i := 2) (Lib.heap_setCell_same (i := 1) (Lib.heap_setCell_same (i := 0) h a) b) c
  refine ⟨⟨hb.os, hb.tape, hb.output, by simpa using hb.size, fun k hk => ?_⟩, by simpa using hl, by simpa using h3⟩
  rw [Below.heap_setCell _ _ _ _ (by show _ ≠ B; omega), Below.heap_setCell _ _ _ _ (by show _ ≠ B; omega), Below.heap_setCell _ _ _ _ (by show _ ≠ B; omega)]
  exact hb.block k hk
theorem k20 (Q : Exit → Act → World → Prop) (c0 c1 c2 c3 c4 c5 c6 c7 c8 c9 c10 c12 c13 c15 c17 c18 c19 c20 c21 c22 c23 c24 c25 c26 c27 c28 c29 c30 c31 c32 c33 c34 c35 c36 c37 c38 c39 c40 c41 c42 c43 c44 c45 c46 c47 c48 c49 c50 c51 c52 c53 c54 c55 c56 c57 c58 c59 c60 c61 c62 c63 c64 c65 c66 c67 c68 c69 c70 c71 c72 c73 c74 c75 c76 c77 c78 c79 c80 c81 c82 c83 c84 : Value) (w0 : World) (B MB n p cp : Nat) (ao : Option Addr) (s : List V) (x : V) (hB : B ≤ w0.heap.size) (hp : p ≤ n) (hn : n ≤ cp) (hs : p ≤ 1000) (hao : ∀ a, ao = some a → ∃ g, a = ⟨g, 0, none⟩) (hao0 : ao = none → cp = 0)
    (m0 : w0.cell? ⟨MB, 0, none⟩ = some (.int .i64 x.k)) (m1 : w0.cell? ⟨MB, 1, none⟩ = some (.int .i64 x.n)) (m2 : w0.cell? ⟨MB, 2, none⟩ = some (.string x.t)) (hown : Hid (w0.ownsRow B 36 3 (.slice ao p cp) p (vc s)))
    (hout : Hid (∀ (u75 u76 u77 u78 u79 u80 u11 : Value) (w' : World), w'.ownsRow B 36 3 u11 (p + 1) (vc s ++ vc [x]) → Below B w0 w' → Q .normal ⟨List.toArray (c0 :: c1 :: c2 :: c3 :: c4 :: c5 :: c6 :: c7 :: c8 :: c9 :: c10 :: u11 :: c12 :: c13 :: (.pointer (some ⟨MB, 0, none⟩)) :: c15 :: (.int .i64 (p : Int)) :: c17 :: c18 :: c19 :: c20 :: c21 :: c22 :: c23 :: c24 :: c25 :: c26 :: c27 :: c28 :: c29 :: c30 :: c31 :: c32 :: c33 :: c34 :: c35 :: c36 :: c37 :: c38 :: c39 :: c40 :: c41 :: c42 :: c43 :: c44 :: c45 :: c46 :: c47 :: c48 :: c49 :: c50 :: c51 :: c52 :: c53 :: c54 :: c55 :: c56 :: c57 :: c58 :: c59 :: c60 :: c61 :: c62 :: c63 :: c64 :: c65 :: c66 :: c67 :: c68 :: c69 :: c70 :: c71 :: c72 :: c73 :: c74 :: u75 :: u76 :: u77 :: u78 :: u79 :: u80 :: c81 :: c82 :: c83 :: c84 :: []), []⟩ w')) :
    Code.wp Tryd.prog ((regionOf 20 (Tryd.f30.body.getD .skip)).getD .skip) Q ⟨List.toArray (c0 :: c1 :: c2 :: c3 :: c4 :: c5 :: c6 :: c7 :: c8 :: c9 :: c10 :: (.slice ao n cp) :: c12 :: c13 :: (.pointer (some ⟨MB, 0, none⟩)) :: c15 :: (.int .i64 (p : Int)) :: c17 :: c18 :: c19 :: c20 :: c21 :: c22 :: c23 :: c24 :: c25 :: c26 :: c27 :: c28 :: c29 :: c30 :: c31 :: c32 :: c33 :: c34 :: c35 :: c36 :: c37 :: c38 :: c39 :: c40 :: c41 :: c42 :: c43 :: c44 :: c45 :: c46 :: c47 :: c48 :: c49 :: c50 :: c51 :: c52 :: c53 :: c54 :: c55 :: c56 :: c57 :: c58 :: c59 :: c60 :: c61 :: c62 :: c63 :: c64 :: c65 :: c66 :: c67 :: c68 :: c69 :: c70 :: c71 :: c72 :: c73 :: c74 :: c75 :: c76 :: c77 :: c78 :: c79 :: c80 :: c81 :: c82 :: c83 :: c84 :: []), []⟩ w0 := by
  refine Code.wp_mono (Q := NQ Q) nq_to ?_
  conv => arg 2; whnf
  obtain ⟨i9, hi0, hz0, hz1, hz2⟩ := info_parts Tryd.info36
  cases ao with
  | none =>
    obtain rfl : cp = 0 := hao0 rfl
    obtain rfl : n = 0 := by omega
    obtain rfl : p = 0 := by omega
    go_region_law ((refine step_append_lies _ (by rfl) _ _ _ (by rfl) B 36 i9 _ 3 32 Tryd.underlying39 hi0 hz0 hz1 hz2 rfl (by omega) (.slice none 0 0) 0 (vc s) (by rfl) ((hown.out.alloc _).drew) ⟨w0.heap.size, 0, none⟩ 1 1 (vc [x]) (by rfl) (by rfl) (World.news_of_block (cs := #[.int .i64 x.k, .int .i64 x.n, .string x.t]) (t := 36) (fr := (0, 0)) (heap_alloc_new w0 _)) (vc_one _) (by omega) (by unfold maxLen; omega) (by omega) (by simp; omega) (w0.heap.size + 1) (by simp) ?_; intro gg cap1 w1 hown1 hgrow hat2 hlt4; have hO := (hown.out.alloc (.cells #[.int .i64 x.k, .int .i64 x.n, .string x.t] 36)).drew; have hb9 := (((Below.refl B w0).alloc hB (.cells #[.int .i64 x.k, .int .i64 x.n, .string x.t] 36)).drew).grown hgrow (by simp; omega) (own_ge hO)))
    all_goals exact hout.out _ _ _ _ _ _ _ _ hown1 hb9
  | some a =>
    obtain ⟨g, rfl⟩ := hao a rfl
    have i0 : (0 : Int) ≤ (p : Int) := by omega
    have i1 : (p : Int) ≤ (cp : Int) := by omega
    go_region_law ((refine step_append_lies _ (by rfl) _ _ _ (by rfl) B 36 i9 _ 3 32 Tryd.underlying39 hi0 hz0 hz1 hz2 rfl (by omega) (.slice (some ⟨g, 0, none⟩) p cp) p (vc s) (by rfl) ((hown.out.alloc _).drew) ⟨w0.heap.size, 0, none⟩ 1 1 (vc [x]) (by rfl) (by rfl) (World.news_of_block (cs := #[.int .i64 x.k, .int .i64 x.n, .string x.t]) (t := 36) (fr := (0, 0)) (heap_alloc_new w0 _)) (vc_one _) (by omega) (by unfold maxLen; omega) (by omega) (by simp; omega) (w0.heap.size + 1) (by simp) ?_; intro gg cap1 w1 hown1 hgrow hat2 hlt4; have hO := (hown.out.alloc (.cells #[.int .i64 x.k, .int .i64 x.n, .string x.t] 36)).drew; have hb9 := (((Below.refl B w0).alloc hB (.cells #[.int .i64 x.k, .int .i64 x.n, .string x.t] 36)).drew).grown hgrow (by simp; omega) (own_ge hO)))
    all_goals exact hout.out _ _ _ _ _ _ _ _ hown1 hb9
theorem k17 (Q : Exit → Act → World → Prop) (c0 c1 c3 c4 c5 c6 c7 c8 c9 c10 c12 c15 c17 c18 c19 c20 c21 c22 c23 c24 c25 c26 c27 c28 c29 c30 c31 c32 c33 c34 c35 c36 c37 c38 c39 c40 c41 c42 c43 c44 c45 c46 c47 c48 c49 c50 c51 c52 c53 c54 c55 c56 c57 c58 c59 c60 c61 c62 c63 c64 c65 c66 c67 c68 c69 c70 c71 c72 c73 c74 c75 c76 c77 c78 c79 c80 c81 c82 c83 c84 : Value) (w0 : World) (OB MB g n p cp : Nat) (k re : Int) (a x : V) (y0 y1 y2 : Value) (hp : p < n) (hn : n ≤ 1000) (hz : MB + 1 = w0.heap.size) (hO : OB < MB) (hg : g < MB)
    (hk : w0.cell? ⟨OB, 0, none⟩ = some (.int .i64 k)) (ha0 : w0.cell? ⟨g, p * 3, none⟩ = some (.int .i64 a.k)) (ha1 : w0.cell? ⟨g, p * 3 + 1, none⟩ = some (.int .i64 a.n)) (ha2 : w0.cell? ⟨g, p * 3 + 2, none⟩ = some (.string a.t))
    (hbox : Hid (w0.heap[MB]? = some (.cells #[y0, y1, y2] 36 (0, 0)))) (hcall : Hid (∀ w, Calls Tryd.prog 16 #[.int .i64 k, va a] w (ValIs (re, x) w)))
    (hout : Hid (∀ (u61 u62 u63 u64 u65 u66 u67 u68 u60 u69 u70 : Value) (w' : World), Below MB w0 w' → MB < w'.heap.size → w'.heap[MB]? = some (.cells #[.int .i64 x.k, .int .i64 x.n, .string x.t] 36 (0, 0)) → Q .normal ⟨List.toArray (c0 :: c1 :: (.func (.func 16) #[] #[]) :: c3 :: c4 :: c5 :: c6 :: c7 :: c8 :: c9 :: c10 :: (.slice (some ⟨g, 0, none⟩) n cp) :: c12 :: (.pointer (some ⟨OB, 0, none⟩)) :: (.pointer (some ⟨MB, 0, none⟩)) :: (.int .i64 re) :: (.int .i64 (p : Int)) :: c17 :: c18 :: c19 :: c20 :: c21 :: c22 :: c23 :: c24 :: c25 :: c26 :: c27 :: c28 :: c29 :: c30 :: c31 :: c32 :: c33 :: c34 :: c35 :: c36 :: c37 :: c38 :: c39 :: c40 :: c41 :: c42 :: c43 :: c44 :: c45 :: c46 :: c47 :: c48 :: c49 :: c50 :: c51 :: c52 :: c53 :: c54 :: c55 :: c56 :: c57 :: c58 :: c59 :: u60 :: u61 :: u62 :: u63 :: u64 :: u65 :: u66 :: u67 :: u68 :: u69 :: u70 :: c71 :: c72 :: c73 :: c74 :: c75 :: c76 :: c77 :: c78 :: c79 :: c80 :: c81 :: c82 :: c83 :: c84 :: []), []⟩ w')) :
    Code.wp Tryd.prog ((regionOf 17 (Tryd.f30.body.getD .skip)).getD .skip) Q ⟨List.toArray (c0 :: c1 :: (.func (.func 16) #[] #[]) :: c3 :: c4 :: c5 :: c6 :: c7 :: c8 :: c9 :: c10 :: (.slice (some ⟨g, 0, none⟩) n cp) :: c12 :: (.pointer (some ⟨OB, 0, none⟩)) :: (.pointer (some ⟨MB, 0, none⟩)) :: c15 :: (.int .i64 (p : Int)) :: c17 :: c18 :: c19 :: c20 :: c21 :: c22 :: c23 :: c24 :: c25 :: c26 :: c27 :: c28 :: c29 :: c30 :: c31 :: c32 :: c33 :: c34 :: c35 :: c36 :: c37 :: c38 :: c39 :: c40 :: c41 :: c42 :: c43 :: c44 :: c45 :: c46 :: c47 :: c48 :: c49 :: c50 :: c51 :: c52 :: c53 :: c54 :: c55 :: c56 :: c57 :: c58 :: c59 :: c60 :: c61 :: c62 :: c63 :: c64 :: c65 :: c66 :: c67 :: c68 :: c69 :: c70 :: c71 :: c72 :: c73 :: c74 :: c75 :: c76 :: c77 :: c78 :: c79 :: c80 :: c81 :: c82 :: c83 :: c84 :: []), []⟩ w0 := by
  refine Code.wp_mono (Q := NQ Q) nq_to ?_
  conv => arg 2; whnf
  have i0 : (0 : Int) ≤ (p : Int) := by omega
  have i1 : (p : Int) < (n : Int) := by omega
  have heldk17 : ∀ wx, Below MB w0 wx → (fun wx => Below MB w0 wx ∧ wx.cell? ⟨OB, 0, none⟩ = some (.int .i64 k) ∧ wx.cell? ⟨g, p * 3, none⟩ = some (.int .i64 a.k) ∧ wx.cell? ⟨g, p * 3 + 1, none⟩ = some (.int .i64 a.n) ∧ wx.cell? ⟨g, p * 3 + 2, none⟩ = some (.string a.t)) wx := fun wx h => ⟨h, (h.cell (by show _ < MB; omega)).trans hk, (h.cell (by show _ < MB; omega)).trans ha0, (h.cell (by show _ < MB; omega)).trans ha1, (h.cell (by show _ < MB; omega)).trans ha2⟩
  refine wp_region_held_drew (S := (fun wx => Below MB w0 wx ∧ wx.cell? ⟨OB, 0, none⟩ = some (.int .i64 k) ∧ wx.cell? ⟨g, p * 3, none⟩ = some (.int .i64 a.k) ∧ wx.cell? ⟨g, p * 3 + 1, none⟩ = some (.int .i64 a.n) ∧ wx.cell? ⟨g, p * 3 + 2, none⟩ = some (.string a.t))) (by kernel_rfl) ?_ (fun hHeld => ?_)
  · (try dsimp only)
    exact heldk17 _ (by first | exact (Below.refl _ _).drew | exact hB2 | exact (st3 hB2 hbx _ _ _).1)
  refine wpAnyH_take (i := 0) (oi := _) (v := ?_) rfl (by kernel_rfl) (by kernel_rfl) (by kernel_rfl) (fun _ _ _ h => h) (Or.inl ⟨by rfl, ?_⟩) (by assumption) ?_
  rotate_left
  · (intro w hSw; (try dsimp only at hSw); go_simp)
    all_goals (with_reducible rfl)
  (try simp only [List.getElem_toArray, List.getElem_cons_zero, List.getElem_cons_succ, Act.put, List.setIfInBounds_toArray, List.set_cons_zero, List.set_cons_succ])
  refine wpAnyH_take (i := 1) (oi := _) (v := ?_) rfl (by kernel_rfl) (by kernel_rfl) (by kernel_rfl) (fun _ _ _ h => h) (Or.inl ⟨by rfl, ?_⟩) (by assumption) ?_
  rotate_left
  · (intro w hSw; (try dsimp only at hSw); go_simp)
    all_goals (with_reducible rfl)
  (try simp only [List.getElem_toArray, List.getElem_cons_zero, List.getElem_cons_succ, Act.put, List.setIfInBounds_toArray, List.set_cons_zero, List.set_cons_succ])
  refine wpAnyH_take (i := 2) (oi := _) (v := ?_) rfl (by kernel_rfl) (by kernel_rfl) (by kernel_rfl) (fun _ _ _ h => h) (Or.inl ⟨by rfl, ?_⟩) (by assumption) ?_
  rotate_left
  · (intro w hSw; (try dsimp only at hSw); go_simp)
    all_goals (with_reducible rfl)
  (try simp only [List.getElem_toArray, List.getElem_cons_zero, List.getElem_cons_succ, Act.put, List.setIfInBounds_toArray, List.set_cons_zero, List.set_cons_succ])
  refine wpAnyH_take (i := 3) (oi := _) (v := ?_) rfl (by kernel_rfl) (by kernel_rfl) (by kernel_rfl) (fun _ _ _ h => h) (Or.inl ⟨by rfl, ?_⟩) (by assumption) ?_
  rotate_left
  · (intro w hSw; (try dsimp only at hSw); go_simp)
    all_goals (with_reducible rfl)
  (try simp only [List.getElem_toArray, List.getElem_cons_zero, List.getElem_cons_succ, Act.put, List.setIfInBounds_toArray, List.set_cons_zero, List.set_cons_succ])
  refine wpAnyH_take (i := 4) (oi := _) (v := ?_) rfl (by kernel_rfl) (by kernel_rfl) (by kernel_rfl) (fun _ _ _ h => h) (Or.inl ⟨by rfl, ?_⟩) (by assumption) ?_
  rotate_left
  · (intro w hSw; (try dsimp only at hSw); go_simp)
    all_goals (with_reducible rfl)
  (try simp only [List.getElem_toArray, List.getElem_cons_zero, List.getElem_cons_succ, Act.put, List.setIfInBounds_toArray, List.set_cons_zero, List.set_cons_succ])
  refine wpAnyH_take (i := 5) (oi := _) (v := ?_) rfl (by kernel_rfl) (by kernel_rfl) (by kernel_rfl) (fun _ _ _ h => h) (Or.inl ⟨by rfl, ?_⟩) (by assumption) ?_
  rotate_left
  · (intro w hSw; (try dsimp only at hSw); go_simp)
    all_goals (with_reducible rfl)
  (try simp only [List.getElem_toArray, List.getElem_cons_zero, List.getElem_cons_succ, Act.put, List.setIfInBounds_toArray, List.set_cons_zero, List.set_cons_succ])
  refine wpAnyH_take (i := 6) (oi := _) (v := ?_) rfl (by kernel_rfl) (by kernel_rfl) (by kernel_rfl) (fun _ _ _ h => h) (Or.inl ⟨by rfl, ?_⟩) (by assumption) ?_
  rotate_left
  · (intro w hSw; (try dsimp only at hSw); go_simp)
    all_goals (with_reducible rfl)
  (try simp only [List.getElem_toArray, List.getElem_cons_zero, List.getElem_cons_succ, Act.put, List.setIfInBounds_toArray, List.set_cons_zero, List.set_cons_succ])
  refine wpAnyH_ready (rs := [7]) (by kernel_rfl) (by simp) ?_
  refine AllReadyH.cons rfl (fun K hK => ?_) AllReadyH.nil
  go_simp
  (go_at_call 16; (with_reducible refine (hcall.out _).mono ?_); rintro e w2 ⟨rfl, hb2⟩; have hB1 : Below w0.heap.size w0 w2 := into (by go_grown) hb2; have hB2 : Below MB w0 w2 := hB1.mono (by omega); have hbx := (hB1.block MB (by omega)).trans hbox.out; obtain ⟨z0, z1, z2, f0, f1, f2⟩ := box3 hbx)
  go_wp2_with fail
  refine hK.out _ _ ?_ (fun hHeld => ?_)
  · (try dsimp only)
    exact heldk17 _ (by first | exact (Below.refl _ _).drew | exact hB2 | exact (st3 hB2 hbx _ _ _).1)
  clear hK K
  (try simp only [List.getElem_toArray, List.getElem_cons_zero, List.getElem_cons_succ, Act.put, List.setIfInBounds_toArray, List.set_cons_zero, List.set_cons_succ])
  refine wpAnyH_take (i := 8) (oi := _) (v := ?_) rfl (by kernel_rfl) (by kernel_rfl) (by kernel_rfl) (fun _ _ _ h => h) (Or.inl ⟨by rfl, ?_⟩) (by assumption) ?_
  rotate_left
  · (intro w hSw; (try dsimp only at hSw); go_simp)
    all_goals (with_reducible rfl)
  (try simp only [List.getElem_toArray, List.getElem_cons_zero, List.getElem_cons_succ, Act.put, List.setIfInBounds_toArray, List.set_cons_zero, List.set_cons_succ])
  refine wpAnyH_take (i := 9) (oi := _) (v := ?_) rfl (by kernel_rfl) (by kernel_rfl) (by kernel_rfl) (fun _ _ _ h => h) (Or.inl ⟨by rfl, ?_⟩) (by assumption) ?_
  rotate_left
  · (intro w hSw; (try dsimp only at hSw); go_simp)
    all_goals (with_reducible rfl)
  (try simp only [List.getElem_toArray, List.getElem_cons_zero, List.getElem_cons_succ, Act.put, List.setIfInBounds_toArray, List.set_cons_zero, List.set_cons_succ])
  refine wpAnyH_take (i := 10) (oi := _) (v := ?_) rfl (by kernel_rfl) (by kernel_rfl) (by kernel_rfl) (fun _ _ _ h => h) (Or.inl ⟨by rfl, ?_⟩) (by assumption) ?_
  rotate_left
  · (intro w hSw; (try dsimp only at hSw); go_simp)
    all_goals (with_reducible rfl)
  (try simp only [List.getElem_toArray, List.getElem_cons_zero, List.getElem_cons_succ, Act.put, List.setIfInBounds_toArray, List.set_cons_zero, List.set_cons_succ])
  refine wpAnyH_ready (rs := [11]) (by kernel_rfl) (by simp) ?_
  refine AllReadyH.cons rfl (fun K hK => ?_) AllReadyH.nil
  go_simp
  refine hK.out _ _ ?_ (fun hHeld => ?_)
  · (try dsimp only)
    exact heldk17 _ (by first | exact (Below.refl _ _).drew | exact hB2 | exact (st3 hB2 hbx _ _ _).1)
  clear hK K
  (try simp only [List.getElem_toArray, List.getElem_cons_zero, List.getElem_cons_succ, Act.put, List.setIfInBounds_toArray, List.set_cons_zero, List.set_cons_succ])
  refine wpAnyH_ready (rs := [12]) (by kernel_rfl) (by simp) ?_
  refine AllReadyH.cons rfl (fun K hK => ?_) AllReadyH.nil
  go_simp
  refine hK.out _ _ ?_ (fun hHeld => ?_)
  · (try dsimp only)
    exact heldk17 _ (by first | exact (Below.refl _ _).drew | exact hB2 | exact (st3 hB2 hbx _ _ _).1)
  clear hK K
  (try simp only [List.getElem_toArray, List.getElem_cons_zero, List.getElem_cons_succ, Act.put, List.setIfInBounds_toArray, List.set_cons_zero, List.set_cons_succ])
  refine wpAnyH_done (by kernel_rfl) ?_ _
  exact hout.out _ _ _ _ _ _ _ _ _ _ _ _ (st3 hB2 hbx _ _ _).1 (st3 hB2 hbx _ _ _).2.1 (st3 hB2 hbx _ _ _).2.2
theorem k10 (Q : Exit → Act → World → Prop) (c0 c1 c2 c4 c5 c6 c7 c8 c9 c10 c12 c15 c17 c18 c19 c20 c21 c22 c23 c24 c25 c26 c27 c28 c29 c30 c31 c32 c33 c34 c35 c36 c37 c38 c39 c40 c41 c42 c43 c44 c45 c46 c47 c48 c49 c50 c51 c52 c53 c54 c55 c56 c57 c58 c59 c60 c61 c62 c63 c64 c65 c66 c67 c68 c69 c70 c71 c72 c73 c74 c75 c76 c77 c78 c79 c80 c81 c82 c83 c84 : Value) (w0 : World) (OB MB g n p p1 cp : Nat) (hp1 : Hid (p1 = p + 1)) (k re : Int) (a b x : V) (y0 y1 y2 : Value) (hp : p + 1 < n) (hn : n ≤ 1000) (hz : MB + 1 = w0.heap.size) (hO : OB < MB) (hg : g < MB)
    (hk : w0.cell? ⟨OB, 0, none⟩ = some (.int .i64 k)) (ha0 : w0.cell? ⟨g, p * 3, none⟩ = some (.int .i64 a.k)) (ha1 : w0.cell? ⟨g, p * 3 + 1, none⟩ = some (.int .i64 a.n)) (ha2 : w0.cell? ⟨g, p * 3 + 2, none⟩ = some (.string a.t))
    (hb0 : w0.cell? ⟨g, p1 * 3, none⟩ = some (.int .i64 b.k)) (hb1 : w0.cell? ⟨g, p1 * 3 + 1, none⟩ = some (.int .i64 b.n)) (hb2 : w0.cell? ⟨g, p1 * 3 + 2, none⟩ = some (.string b.t))
    (hbox : Hid (w0.heap[MB]? = some (.cells #[y0, y1, y2] 36 (0, 0)))) (hcall : Hid (∀ w, Calls Tryd.prog 15 #[.int .i64 k, va a, va b] w (ValIs (re, x) w)))
    (hout : Hid (∀ (u31 u32 u33 u34 u35 u36 u37 u38 u39 u40 u41 u42 u43 u30 u44 u45 : Value) (w' : World), Below MB w0 w' → MB < w'.heap.size → w'.heap[MB]? = some (.cells #[.int .i64 x.k, .int .i64 x.n, .string x.t] 36 (0, 0)) → Q .normal ⟨List.toArray (c0 :: c1 :: c2 :: (.func (.func 15) #[] #[]) :: c4 :: c5 :: c6 :: c7 :: c8 :: c9 :: c10 :: (.slice (some ⟨g, 0, none⟩) n cp) :: c12 :: (.pointer (some ⟨OB, 0, none⟩)) :: (.pointer (some ⟨MB, 0, none⟩)) :: (.int .i64 re) :: (.int .i64 (p : Int)) :: c17 :: c18 :: c19 :: c20 :: c21 :: c22 :: c23 :: c24 :: c25 :: c26 :: c27 :: c28 :: c29 :: u30 :: u31 :: u32 :: u33 :: u34 :: u35 :: u36 :: u37 :: u38 :: u39 :: u40 :: u41 :: u42 :: u43 :: u44 :: u45 :: c46 :: c47 :: c48 :: c49 :: c50 :: c51 :: c52 :: c53 :: c54 :: c55 :: c56 :: c57 :: c58 :: c59 :: c60 :: c61 :: c62 :: c63 :: c64 :: c65 :: c66 :: c67 :: c68 :: c69 :: c70 :: c71 :: c72 :: c73 :: c74 :: c75 :: c76 :: c77 :: c78 :: c79 :: c80 :: c81 :: c82 :: c83 :: c84 :: []), []⟩ w')) :
    Code.wp Tryd.prog ((regionOf 10 (Tryd.f30.body.getD .skip)).getD .skip) Q ⟨List.toArray (c0 :: c1 :: c2 :: (.func (.func 15) #[] #[]) :: c4 :: c5 :: c6 :: c7 :: c8 :: c9 :: c10 :: (.slice (some ⟨g, 0, none⟩) n cp) :: c12 :: (.pointer (some ⟨OB, 0, none⟩)) :: (.pointer (some ⟨MB, 0, none⟩)) :: c15 :: (.int .i64 (p : Int)) :: c17 :: c18 :: c19 :: c20 :: c21 :: c22 :: c23 :: c24 :: c25 :: c26 :: c27 :: c28 :: c29 :: c30 :: c31 :: c32 :: c33 :: c34 :: c35 :: c36 :: c37 :: c38 :: c39 :: c40 :: c41 :: c42 :: c43 :: c44 :: c45 :: c46 :: c47 :: c48 :: c49 :: c50 :: c51 :: c52 :: c53 :: c54 :: c55 :: c56 :: c57 :: c58 :: c59 :: c60 :: c61 :: c62 :: c63 :: c64 :: c65 :: c66 :: c67 :: c68 :: c69 :: c70 :: c71 :: c72 :: c73 :: c74 :: c75 :: c76 :: c77 :: c78 :: c79 :: c80 :: c81 :: c82 :: c83 :: c84 :: []), []⟩ w0 := by
  refine Code.wp_mono (Q := NQ Q) nq_to ?_
  conv => arg 2; whnf
  have i0 : (0 : Int) ≤ (p : Int) := by omega
  have i1 : (p : Int) < (n : Int) := by omega
  have j0 : (0 : Int) ≤ (p1 : Int) := by omega
  have j1 : (p1 : Int) < (n : Int) := by have := hp1.out; omega
  have jw : IntKind.i64.wrap ((p : Int) + 1) = (p1 : Int) := (IntWalk.i64_in _ (by omega)).trans (by have := hp1.out; omega)
  have heldk10 : ∀ wx, Below MB w0 wx → (fun wx => Below MB w0 wx ∧ wx.cell? ⟨OB, 0, none⟩ = some (.int .i64 k) ∧ wx.cell? ⟨g, p * 3, none⟩ = some (.int .i64 a.k) ∧ wx.cell? ⟨g, p * 3 + 1, none⟩ = some (.int .i64 a.n) ∧ wx.cell? ⟨g, p * 3 + 2, none⟩ = some (.string a.t) ∧ wx.cell? ⟨g, p1 * 3, none⟩ = some (.int .i64 b.k) ∧ wx.cell? ⟨g, p1 * 3 + 1, none⟩ = some (.int .i64 b.n) ∧ wx.cell? ⟨g, p1 * 3 + 2, none⟩ = some (.string b.t)) wx := fun wx h => ⟨h, (h.cell (by show _ < MB; omega)).trans hk, (h.cell (by show _ < MB; omega)).trans ha0, (h.cell (by show _ < MB; omega)).trans ha1, (h.cell (by show _ < MB; omega)).trans ha2, (h.cell (by show _ < MB; omega)).trans hb0, (h.cell (by show _ < MB; omega)).trans hb1, (h.cell (by show _ < MB; omega)).trans hb2⟩
  refine wp_region_held_drew (S := (fun wx => Below MB w0 wx ∧ wx.cell? ⟨OB, 0, none⟩ = some (.int .i64 k) ∧ wx.cell? ⟨g, p * 3, none⟩ = some (.int .i64 a.k) ∧ wx.cell? ⟨g, p * 3 + 1, none⟩ = some (.int .i64 a.n) ∧ wx.cell? ⟨g, p * 3 + 2, none⟩ = some (.string a.t) ∧ wx.cell? ⟨g, p1 * 3, none⟩ = some (.int .i64 b.k) ∧ wx.cell? ⟨g, p1 * 3 + 1, none⟩ = some (.int .i64 b.n) ∧ wx.cell? ⟨g, p1 * 3 + 2, none⟩ = some (.string b.t))) (by kernel_rfl) ?_ (fun hHeld => ?_)
  · (try dsimp only)
    exact heldk10 _ (by first | exact (Below.refl _ _).drew | exact hB2 | exact (st3 hB2 hbx _ _ _).1)
  refine wpAnyH_take (i := 0) (oi := _) (v := ?_) rfl (by kernel_rfl) (by kernel_rfl) (by kernel_rfl) (fun _ _ _ h => h) (Or.inl ⟨by rfl, ?_⟩) (by assumption) ?_
  rotate_left
  · (intro w hSw; (try dsimp only at hSw); go_simp)
    all_goals (with_reducible rfl)
  (try simp only [List.getElem_toArray, List.getElem_cons_zero, List.getElem_cons_succ, Act.put, List.setIfInBounds_toArray, List.set_cons_zero, List.set_cons_succ])
  refine wpAnyH_take (i := 1) (oi := _) (v := ?_) rfl (by kernel_rfl) (by kernel_rfl) (by kernel_rfl) (fun _ _ _ h => h) (Or.inl ⟨by rfl, ?_⟩) (by assumption) ?_
  rotate_left
  · (intro w hSw; (try dsimp only at hSw); go_simp)
    all_goals (with_reducible rfl)
  (try simp only [List.getElem_toArray, List.getElem_cons_zero, List.getElem_cons_succ, Act.put, List.setIfInBounds_toArray, List.set_cons_zero, List.set_cons_succ])
  refine wpAnyH_take (i := 2) (oi := _) (v := ?_) rfl (by kernel_rfl) (by kernel_rfl) (by kernel_rfl) (fun _ _ _ h => h) (Or.inl ⟨by rfl, ?_⟩) (by assumption) ?_
  rotate_left
  · (intro w hSw; (try dsimp only at hSw); go_simp)
    all_goals (with_reducible rfl)
  (try simp only [List.getElem_toArray, List.getElem_cons_zero, List.getElem_cons_succ, Act.put, List.setIfInBounds_toArray, List.set_cons_zero, List.set_cons_succ])
  refine wpAnyH_take (i := 3) (oi := _) (v := ?_) rfl (by kernel_rfl) (by kernel_rfl) (by kernel_rfl) (fun _ _ _ h => h) (Or.inl ⟨by rfl, ?_⟩) (by assumption) ?_
  rotate_left
  · (intro w hSw; (try dsimp only at hSw); go_simp)
    all_goals (with_reducible rfl)
  (try simp only [List.getElem_toArray, List.getElem_cons_zero, List.getElem_cons_succ, Act.put, List.setIfInBounds_toArray, List.set_cons_zero, List.set_cons_succ])
  refine wpAnyH_take (i := 4) (oi := _) (v := ?_) rfl (by kernel_rfl) (by kernel_rfl) (by kernel_rfl) (fun _ _ _ h => h) (Or.inl ⟨by rfl, ?_⟩) (by assumption) ?_
  rotate_left
  · (intro w hSw; (try dsimp only at hSw); go_simp)
    all_goals (with_reducible rfl)
  (try simp only [List.getElem_toArray, List.getElem_cons_zero, List.getElem_cons_succ, Act.put, List.setIfInBounds_toArray, List.set_cons_zero, List.set_cons_succ])
  refine wpAnyH_take (i := 5) (oi := _) (v := ?_) rfl (by kernel_rfl) (by kernel_rfl) (by kernel_rfl) (fun _ _ _ h => h) (Or.inl ⟨by rfl, ?_⟩) (by assumption) ?_
  rotate_left
  · (intro w hSw; (try dsimp only at hSw); go_simp)
    all_goals (with_reducible rfl)
  (try simp only [List.getElem_toArray, List.getElem_cons_zero, List.getElem_cons_succ, Act.put, List.setIfInBounds_toArray, List.set_cons_zero, List.set_cons_succ])
  refine wpAnyH_take (i := 6) (oi := _) (v := ?_) rfl (by kernel_rfl) (by kernel_rfl) (by kernel_rfl) (fun _ _ _ h => h) (Or.inl ⟨by rfl, ?_⟩) (by assumption) ?_
  rotate_left
  · (intro w hSw; (try dsimp only at hSw); go_simp)
    all_goals (with_reducible rfl)
  (try simp only [List.getElem_toArray, List.getElem_cons_zero, List.getElem_cons_succ, Act.put, List.setIfInBounds_toArray, List.set_cons_zero, List.set_cons_succ])
  refine wpAnyH_take (i := 7) (oi := _) (v := ?_) rfl (by kernel_rfl) (by kernel_rfl) (by kernel_rfl) (fun _ _ _ h => h) (Or.inl ⟨by rfl, ?_⟩) (by assumption) ?_
  rotate_left
  · (intro w hSw; (try dsimp only at hSw); go_simp)
    all_goals (with_reducible rfl)
  (try simp only [List.getElem_toArray, List.getElem_cons_zero, List.getElem_cons_succ, Act.put, List.setIfInBounds_toArray, List.set_cons_zero, List.set_cons_succ])
  refine wpAnyH_take (i := 8) (oi := _) (v := ?_) rfl (by kernel_rfl) (by kernel_rfl) (by kernel_rfl) (fun _ _ _ h => h) (Or.inl ⟨by rfl, ?_⟩) (by assumption) ?_
  rotate_left
  · (intro w hSw; (try dsimp only at hSw); go_simp)
    all_goals (with_reducible rfl)
  (try simp only [List.getElem_toArray, List.getElem_cons_zero, List.getElem_cons_succ, Act.put, List.setIfInBounds_toArray, List.set_cons_zero, List.set_cons_succ])
  refine wpAnyH_take (i := 9) (oi := _) (v := ?_) rfl (by kernel_rfl) (by kernel_rfl) (by kernel_rfl) (fun _ _ _ h => h) (Or.inl ⟨by rfl, ?_⟩) (by assumption) ?_
  rotate_left
  · (intro w hSw; (try dsimp only at hSw); go_simp)
    all_goals (with_reducible rfl)
  (try simp only [List.getElem_toArray, List.getElem_cons_zero, List.getElem_cons_succ, Act.put, List.setIfInBounds_toArray, List.set_cons_zero, List.set_cons_succ])
  refine wpAnyH_take (i := 10) (oi := _) (v := ?_) rfl (by kernel_rfl) (by kernel_rfl) (by kernel_rfl) (fun _ _ _ h => h) (Or.inl ⟨by rfl, ?_⟩) (by assumption) ?_
  rotate_left
  · (intro w hSw; (try dsimp only at hSw); go_simp)
    all_goals (with_reducible rfl)
  (try simp only [List.getElem_toArray, List.getElem_cons_zero, List.getElem_cons_succ, Act.put, List.setIfInBounds_toArray, List.set_cons_zero, List.set_cons_succ])
  refine wpAnyH_take (i := 11) (oi := _) (v := ?_) rfl (by kernel_rfl) (by kernel_rfl) (by kernel_rfl) (fun _ _ _ h => h) (Or.inl ⟨by rfl, ?_⟩) (by assumption) ?_
  rotate_left
  · (intro w hSw; (try dsimp only at hSw); go_simp)
    all_goals (with_reducible rfl)
  (try simp only [List.getElem_toArray, List.getElem_cons_zero, List.getElem_cons_succ, Act.put, List.setIfInBounds_toArray, List.set_cons_zero, List.set_cons_succ])
  refine wpAnyH_ready (rs := [12]) (by kernel_rfl) (by simp) ?_
  refine AllReadyH.cons rfl (fun K hK => ?_) AllReadyH.nil
  go_simp
  (go_at_call 15; (with_reducible refine (hcall.out _).mono ?_); rintro e w2 ⟨rfl, hb2⟩; have hB1 : Below w0.heap.size w0 w2 := into (by go_grown) hb2; have hB2 : Below MB w0 w2 := hB1.mono (by omega); have hbx := (hB1.block MB (by omega)).trans hbox.out; obtain ⟨z0, z1, z2, f0, f1, f2⟩ := box3 hbx)
  go_wp2_with fail
  refine hK.out _ _ ?_ (fun hHeld => ?_)
  · (try dsimp only)
    exact heldk10 _ (by first | exact (Below.refl _ _).drew | exact hB2 | exact (st3 hB2 hbx _ _ _).1)
  clear hK K
  (try simp only [List.getElem_toArray, List.getElem_cons_zero, List.getElem_cons_succ, Act.put, List.setIfInBounds_toArray, List.set_cons_zero, List.set_cons_succ])
  refine wpAnyH_take (i := 13) (oi := _) (v := ?_) rfl (by kernel_rfl) (by kernel_rfl) (by kernel_rfl) (fun _ _ _ h => h) (Or.inl ⟨by rfl, ?_⟩) (by assumption) ?_
  rotate_left
  · (intro w hSw; (try dsimp only at hSw); go_simp)
    all_goals (with_reducible rfl)
  (try simp only [List.getElem_toArray, List.getElem_cons_zero, List.getElem_cons_succ, Act.put, List.setIfInBounds_toArray, List.set_cons_zero, List.set_cons_succ])
  refine wpAnyH_take (i := 14) (oi := _) (v := ?_) rfl (by kernel_rfl) (by kernel_rfl) (by kernel_rfl) (fun _ _ _ h => h) (Or.inl ⟨by rfl, ?_⟩) (by assumption) ?_
  rotate_left
  · (intro w hSw; (try dsimp only at hSw); go_simp)
    all_goals (with_reducible rfl)
  (try simp only [List.getElem_toArray, List.getElem_cons_zero, List.getElem_cons_succ, Act.put, List.setIfInBounds_toArray, List.set_cons_zero, List.set_cons_succ])
  refine wpAnyH_take (i := 15) (oi := _) (v := ?_) rfl (by kernel_rfl) (by kernel_rfl) (by kernel_rfl) (fun _ _ _ h => h) (Or.inl ⟨by rfl, ?_⟩) (by assumption) ?_
  rotate_left
  · (intro w hSw; (try dsimp only at hSw); go_simp)
    all_goals (with_reducible rfl)
  (try simp only [List.getElem_toArray, List.getElem_cons_zero, List.getElem_cons_succ, Act.put, List.setIfInBounds_toArray, List.set_cons_zero, List.set_cons_succ])
  refine wpAnyH_ready (rs := [16]) (by kernel_rfl) (by simp) ?_
  refine AllReadyH.cons rfl (fun K hK => ?_) AllReadyH.nil
  go_simp
  refine hK.out _ _ ?_ (fun hHeld => ?_)
  · (try dsimp only)
    exact heldk10 _ (by first | exact (Below.refl _ _).drew | exact hB2 | exact (st3 hB2 hbx _ _ _).1)
  clear hK K
  (try simp only [List.getElem_toArray, List.getElem_cons_zero, List.getElem_cons_succ, Act.put, List.setIfInBounds_toArray, List.set_cons_zero, List.set_cons_succ])
  refine wpAnyH_ready (rs := [17]) (by kernel_rfl) (by simp) ?_
  refine AllReadyH.cons rfl (fun K hK => ?_) AllReadyH.nil
  go_simp
  refine hK.out _ _ ?_ (fun hHeld => ?_)
  · (try dsimp only)
    exact heldk10 _ (by first | exact (Below.refl _ _).drew | exact hB2 | exact (st3 hB2 hbx _ _ _).1)
  clear hK K
  (try simp only [List.getElem_toArray, List.getElem_cons_zero, List.getElem_cons_succ, Act.put, List.setIfInBounds_toArray, List.set_cons_zero, List.set_cons_succ])
  refine wpAnyH_done (by kernel_rfl) ?_ _
  exact hout.out _ _ _ _ _ _ _ _ _ _ _ _ _ _ _ _ _ (st3 hB2 hbx _ _ _).1 (st3 hB2 hbx _ _ _).2.1 (st3 hB2 hbx _ _ _).2.2
end Go.Proofs.YtfbmnkkpbcdjfaaDoor

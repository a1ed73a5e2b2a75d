import Derived.Test.YtmfkdpfcpdmkdaaGreatDoorFbk
import Derived.Deep.AppendLies
/- Ops folded over a stack of parts: what a call makes is kept, and put upon the stack. -/
namespace Go.Proofs.YtmfkdpfcpdmkdaaGreatDoor.bd
open Go.ChangeShapes Go.WideShapes Go.ChangeAt Go.RowKit
set_option linter.unusedVariables false
set_option linter.unusedSimpArgs false
set_option maxHeartbeats 4000000
set_option maxRecDepth 1000000

theorem k20 (Q : Exit → Act → World → Prop) (c0 c1 c2 c3 c4 c5 c6 c7 c8 c9 c10 c12 c13 c15 c17 c18 c19 c20 c21 c22 c23 c24 c25 c26 c27 c28 c29 c30 c31 c32 c33 c34 c35 c36 c37 c38 c39 c40 c41 c42 c43 c44 c45 c46 c47 c48 c49 c50 c51 c52 c53 c54 c55 c56 c57 c58 c59 c60 c61 c62 c63 c64 c65 c66 c67 c68 c69 c70 c71 c72 c73 c74 c75 c76 c77 c78 c79 c80 c81 c82 c83 c84 : Value) (w0 : World) (B MB n p cp : Nat) (ao : Option Addr) (s : List Pv) (x : Pv) (hB : B ≤ w0.heap.size) (hp : p ≤ n) (hn : n ≤ cp) (hs : p ≤ 1000) (hao : ∀ a, ao = some a → ∃ g, a = ⟨g, 0, none⟩) (hao0 : ao = none → cp = 0)
    (m0 : w0.cell? ⟨MB, 0, none⟩ = some (.bool x.f)) (m1 : w0.cell? ⟨MB, 1, none⟩ = some (sv x.k)) (m2 : w0.cell? ⟨MB, 2, none⟩ = some (sv x.hl)) (m3 : w0.cell? ⟨MB, 3, none⟩ = some (sv x.hh)) (m4 : w0.cell? ⟨MB, 4, none⟩ = some (sv x.fl)) (m5 : w0.cell? ⟨MB, 5, none⟩ = some (sv x.fh)) (hown : Hid (w0.ownsRow B 39 6 (.slice ao p cp) p (pcs s)))
    (hout : Hid (∀ (u75 u76 u77 u78 u79 u80 u11 : Value) (w' : World), w'.ownsRow B 39 6 u11 (p + 1) (pcs s ++ pcs [x]) → Below B w0 w' → (∀ s l, Rt w0 s l → Rt w' s l) → Q .normal ⟨List.toArray (c0 :: c1 :: c2 :: c3 :: c4 :: c5 :: c6 :: c7 :: c8 :: c9 :: c10 :: u11 :: c12 :: c13 :: (.pointer (some ⟨MB, 0, none⟩)) :: c15 :: (.int .i64 (p : Int)) :: c17 :: c18 :: c19 :: c20 :: c21 :: c22 :: c23 :: c24 :: c25 :: c26 :: c27 :: c28 :: c29 :: c30 :: c31 :: c32 :: c33 :: c34 :: c35 :: c36 :: c37 :: c38 :: c39 :: c40 :: c41 :: c42 :: c43 :: c44 :: c45 :: c46 :: c47 :: c48 :: c49 :: c50 :: c51 :: c52 :: c53 :: c54 :: c55 :: c56 :: c57 :: c58 :: c59 :: c60 :: c61 :: c62 :: c63 :: c64 :: c65 :: c66 :: c67 :: c68 :: c69 :: c70 :: c71 :: c72 :: c73 :: c74 :: u75 :: u76 :: u77 :: u78 :: u79 :: u80 :: c81 :: c82 :: c83 :: c84 :: []), []⟩ w')) :
    Code.wp Tryz.prog ((regionOf 20 (Tryz.f12.body.getD .skip)).getD .skip) Q ⟨List.toArray (c0 :: c1 :: c2 :: c3 :: c4 :: c5 :: c6 :: c7 :: c8 :: c9 :: c10 :: (.slice ao n cp) :: c12 :: c13 :: (.pointer (some ⟨MB, 0, none⟩)) :: c15 :: (.int .i64 (p : Int)) :: c17 :: c18 :: c19 :: c20 :: c21 :: c22 :: c23 :: c24 :: c25 :: c26 :: c27 :: c28 :: c29 :: c30 :: c31 :: c32 :: c33 :: c34 :: c35 :: c36 :: c37 :: c38 :: c39 :: c40 :: c41 :: c42 :: c43 :: c44 :: c45 :: c46 :: c47 :: c48 :: c49 :: c50 :: c51 :: c52 :: c53 :: c54 :: c55 :: c56 :: c57 :: c58 :: c59 :: c60 :: c61 :: c62 :: c63 :: c64 :: c65 :: c66 :: c67 :: c68 :: c69 :: c70 :: c71 :: c72 :: c73 :: c74 :: c75 :: c76 :: c77 :: c78 :: c79 :: c80 :: c81 :: c82 :: c83 :: c84 :: []), []⟩ w0 := by
  refine Code.wp_mono (Q := NQ Q) nq_to ?_
  conv => arg 2; whnf
  obtain ⟨i9, hi0, hz0, hz1, hz2⟩ := info_parts Tryz.info39
  cases ao with
  | none =>
    obtain rfl : cp = 0 := hao0 rfl
    obtain rfl : n = 0 := by omega
    obtain rfl : p = 0 := by omega
    go_region_law ((refine step_append_lies _ (by rfl) _ _ _ (by rfl) B 39 i9 _ 6 128 Tryz.underlying70 hi0 hz0 hz1 hz2 rfl (by omega) (.slice none 0 0) 0 (pcs s) (by rfl) ((hown.out.alloc _).drew) ⟨w0.heap.size, 0, none⟩ 1 1 (pcs [x]) (by rfl) (by rfl) (World.news_of_block (cs := #[.bool x.f, sv x.k, sv x.hl, sv x.hh, sv x.fl, sv x.fh]) (t := 39) (fr := (0, 0)) (heap_alloc_new w0 _)) (pcs_one _) (by omega) (by unfold maxLen; omega) (by omega) (by simp; omega) (w0.heap.size + 1) (by simp) ?_; intro gg cap1 w1 hown1 hgrow hat2 hlt4; have hO := (hown.out.alloc (.cells #[.bool x.f, sv x.k, sv x.hl, sv x.hh, sv x.fl, sv x.fh] 39)).drew; have hb9 := (((Below.refl B w0).alloc hB (.cells #[.bool x.f, sv x.k, sv x.hl, sv x.hh, sv x.fl, sv x.fh] 39)).drew).grown hgrow (by simp; omega) (own_ge hO); have hst : ∀ s l, Rt w0 s l → Rt w1 s l := fun s l h => ((h.below (((Below.refl _ w0).alloc (Nat.le_refl _) (.cells #[.bool x.f, sv x.k, sv x.hl, sv x.hh, sv x.fl, sv x.fh] 39)).drew)).grown hO hgrow pt_ne)))
    all_goals exact hout.out _ _ _ _ _ _ _ _ hown1 hb9 hst
  | some a =>
    obtain ⟨g, rfl⟩ := hao a rfl
    have i0 : (0 : Int) ≤ (p : Int) := by omega
    have i1 : (p : Int) ≤ (cp : Int) := by omega
    go_region_law ((refine step_append_lies _ (by rfl) _ _ _ (by rfl) B 39 i9 _ 6 128 Tryz.underlying70 hi0 hz0 hz1 hz2 rfl (by omega) (.slice (some ⟨g, 0, none⟩) p cp) p (pcs s) (by rfl) ((hown.out.alloc _).drew) ⟨w0.heap.size, 0, none⟩ 1 1 (pcs [x]) (by rfl) (by rfl) (World.news_of_block (cs := #[.bool x.f, sv x.k, sv x.hl, sv x.hh, sv x.fl, sv x.fh]) (t := 39) (fr := (0, 0)) (heap_alloc_new w0 _)) (pcs_one _) (by omega) (by unfold maxLen; omega) (by omega) (by simp; omega) (w0.heap.size + 1) (by simp) ?_; intro gg cap1 w1 hown1 hgrow hat2 hlt4; have hO := (hown.out.alloc (.cells #[.bool x.f, sv x.k, sv x.hl, sv x.hh, sv x.fl, sv x.fh] 39)).drew; have hb9 := (((Below.refl B w0).alloc hB (.cells #[.bool x.f, sv x.k, sv x.hl, sv x.hh, sv x.fl, sv x.fh] 39)).drew).grown hgrow (by simp; omega) (own_ge hO); have hst : ∀ s l, Rt w0 s l → Rt w1 s l := fun s l h => ((h.below (((Below.refl _ w0).alloc (Nat.le_refl _) (.cells #[.bool x.f, sv x.k, sv x.hl, sv x.hh, sv x.fl, sv x.fh] 39)).drew)).grown hO hgrow pt_ne)))
    all_goals exact hout.out _ _ _ _ _ _ _ _ hown1 hb9 hst
theorem k17 (Q : Exit → Act → World → Prop) (c0 c1 c3 c4 c5 c6 c7 c8 c9 c10 c12 c15 c17 c18 c19 c20 c21 c22 c23 c24 c25 c26 c27 c28 c29 c30 c31 c32 c33 c34 c35 c36 c37 c38 c39 c40 c41 c42 c43 c44 c45 c46 c47 c48 c49 c50 c51 c52 c53 c54 c55 c56 c57 c58 c59 c60 c61 c62 c63 c64 c65 c66 c67 c68 c69 c70 c71 c72 c73 c74 c75 c76 c77 c78 c79 c80 c81 c82 c83 c84 : Value) (w0 : World) (OB MB g n p cp : Nat) (k : Int) (r : Int × Pt) (a : Pv) (y0 y1 y2 y3 y4 y5 : Value) (hp : p < n) (hn : n ≤ 1000) (hz : MB + 1 = w0.heap.size) (hO : OB < MB) (hg : g < MB)
    (hk : w0.cell? ⟨OB, 0, none⟩ = some (.int .i64 k)) (ha0 : w0.cell? ⟨g, p * 6, none⟩ = some (.bool a.f)) (ha1 : w0.cell? ⟨g, p * 6 + 1, none⟩ = some (sv a.k)) (ha2 : w0.cell? ⟨g, p * 6 + 2, none⟩ = some (sv a.hl)) (ha3 : w0.cell? ⟨g, p * 6 + 3, none⟩ = some (sv a.hh)) (ha4 : w0.cell? ⟨g, p * 6 + 4, none⟩ = some (sv a.fl)) (ha5 : w0.cell? ⟨g, p * 6 + 5, none⟩ = some (sv a.fh))
    (hbox : Hid (w0.heap[MB]? = some (.cells #[y0, y1, y2, y3, y4, y5] 39 (0, 0)))) (hcall : Hid (∀ w, Below w0.heap.size w0 w → Calls Tryz.prog 15 #[.int .i64 k, pva a] w (PartIs r w)))
    (hout : Hid (∀ (u61 u62 u63 u64 u65 u66 u67 u68 u60 u69 u70 : Value) (x : Pv) (w' : World), Below MB w0 w' → MB < w'.heap.size → w'.heap[MB]? = some (.cells (p6 x) 39 (0, 0)) → RP w' x r.2 → Q .normal ⟨List.toArray (c0 :: c1 :: (.func (.func 15) #[] #[]) :: c3 :: c4 :: c5 :: c6 :: c7 :: c8 :: c9 :: c10 :: (.slice (some ⟨g, 0, none⟩) n cp) :: c12 :: (.pointer (some ⟨OB, 0, none⟩)) :: (.pointer (some ⟨MB, 0, none⟩)) :: (.int .i64 r.1) :: (.int .i64 (p : Int)) :: c17 :: c18 :: c19 :: c20 :: c21 :: c22 :: c23 :: c24 :: c25 :: c26 :: c27 :: c28 :: c29 :: c30 :: c31 :: c32 :: c33 :: c34 :: c35 :: c36 :: c37 :: c38 :: c39 :: c40 :: c41 :: c42 :: c43 :: c44 :: c45 :: c46 :: c47 :: c48 :: c49 :: c50 :: c51 :: c52 :: c53 :: c54 :: c55 :: c56 :: c57 :: c58 :: c59 :: u60 :: u61 :: u62 :: u63 :: u64 :: u65 :: u66 :: u67 :: u68 :: u69 :: u70 :: c71 :: c72 :: c73 :: c74 :: c75 :: c76 :: c77 :: c78 :: c79 :: c80 :: c81 :: c82 :: c83 :: c84 :: []), []⟩ w')) :
    Code.wp Tryz.prog ((regionOf 17 (Tryz.f12.body.getD .skip)).getD .skip) Q ⟨List.toArray (c0 :: c1 :: (.func (.func 15) #[] #[]) :: c3 :: c4 :: c5 :: c6 :: c7 :: c8 :: c9 :: c10 :: (.slice (some ⟨g, 0, none⟩) n cp) :: c12 :: (.pointer (some ⟨OB, 0, none⟩)) :: (.pointer (some ⟨MB, 0, none⟩)) :: c15 :: (.int .i64 (p : Int)) :: c17 :: c18 :: c19 :: c20 :: c21 :: c22 :: c23 :: c24 :: c25 :: c26 :: c27 :: c28 :: c29 :: c30 :: c31 :: c32 :: c33 :: c34 :: c35 :: c36 :: c37 :: c38 :: c39 :: c40 :: c41 :: c42 :: c43 :: c44 :: c45 :: c46 :: c47 :: c48 :: c49 :: c50 :: c51 :: c52 :: c53 :: c54 :: c55 :: c56 :: c57 :: c58 :: c59 :: c60 :: c61 :: c62 :: c63 :: c64 :: c65 :: c66 :: c67 :: c68 :: c69 :: c70 :: c71 :: c72 :: c73 :: c74 :: c75 :: c76 :: c77 :: c78 :: c79 :: c80 :: c81 :: c82 :: c83 :: c84 :: []), []⟩ w0 := by
  refine Code.wp_mono (Q := NQ Q) nq_to ?_
  conv => arg 2; whnf
  have i0 : (0 : Int) ≤ (p : Int) := by omega
  have i1 : (p : Int) < (n : Int) := by omega
  have heldk17 : ∀ wx, Below MB w0 wx → (fun wx => Below MB w0 wx ∧ wx.cell? ⟨OB, 0, none⟩ = some (.int .i64 k) ∧ wx.cell? ⟨g, p * 6, none⟩ = some (.bool a.f) ∧ wx.cell? ⟨g, p * 6 + 1, none⟩ = some (sv a.k) ∧ wx.cell? ⟨g, p * 6 + 2, none⟩ = some (sv a.hl) ∧ wx.cell? ⟨g, p * 6 + 3, none⟩ = some (sv a.hh) ∧ wx.cell? ⟨g, p * 6 + 4, none⟩ = some (sv a.fl) ∧ wx.cell? ⟨g, p * 6 + 5, none⟩ = some (sv a.fh)) wx := fun wx h => ⟨h, (h.cell (by show _ < MB; omega)).trans hk, (h.cell (by show _ < MB; omega)).trans ha0, (h.cell (by show _ < MB; omega)).trans ha1, (h.cell (by show _ < MB; omega)).trans ha2, (h.cell (by show _ < MB; omega)).trans ha3, (h.cell (by show _ < MB; omega)).trans ha4, (h.cell (by show _ < MB; omega)).trans ha5⟩
  refine wp_region_held_drew (S := (fun wx => Below MB w0 wx ∧ wx.cell? ⟨OB, 0, none⟩ = some (.int .i64 k) ∧ wx.cell? ⟨g, p * 6, none⟩ = some (.bool a.f) ∧ wx.cell? ⟨g, p * 6 + 1, none⟩ = some (sv a.k) ∧ wx.cell? ⟨g, p * 6 + 2, none⟩ = some (sv a.hl) ∧ wx.cell? ⟨g, p * 6 + 3, none⟩ = some (sv a.hh) ∧ wx.cell? ⟨g, p * 6 + 4, none⟩ = some (sv a.fl) ∧ wx.cell? ⟨g, p * 6 + 5, none⟩ = some (sv a.fh))) (by kernel_rfl) ?_ (fun hHeld => ?_)
  · (try dsimp only)
    exact heldk17 _ (by first | (with_reducible exact (Below.refl _ _).drew) | (with_reducible exact hB2) | (with_reducible exact (st6 hB2 hbx _ _ _ _ _ _).1))
  refine wpAnyH_take (i := 0) (oi := _) (v := ?_) rfl (by kernel_rfl) (by kernel_rfl) (by kernel_rfl) (fun _ _ _ h => h) (Or.inl ⟨by rfl, ?_⟩) (by assumption) ?_
  rotate_left
  · (intro w hSw; (try dsimp only at hSw); go_simp)
    all_goals (with_reducible rfl)
  (try simp only [List.getElem_toArray, List.getElem_cons_zero, List.getElem_cons_succ, Act.put, List.setIfInBounds_toArray, List.set_cons_zero, List.set_cons_succ])
  refine wpAnyH_take (i := 1) (oi := _) (v := ?_) rfl (by kernel_rfl) (by kernel_rfl) (by kernel_rfl) (fun _ _ _ h => h) (Or.inl ⟨by rfl, ?_⟩) (by assumption) ?_
  rotate_left
  · (intro w hSw; (try dsimp only at hSw); go_simp)
    all_goals (with_reducible rfl)
  (try simp only [List.getElem_toArray, List.getElem_cons_zero, List.getElem_cons_succ, Act.put, List.setIfInBounds_toArray, List.set_cons_zero, List.set_cons_succ])
  refine wpAnyH_take (i := 2) (oi := _) (v := ?_) rfl (by kernel_rfl) (by kernel_rfl) (by kernel_rfl) (fun _ _ _ h => h) (Or.inl ⟨by rfl, ?_⟩) (by assumption) ?_
  rotate_left
  · (intro w hSw; (try dsimp only at hSw); go_simp)
    all_goals (with_reducible rfl)
  (try simp only [List.getElem_toArray, List.getElem_cons_zero, List.getElem_cons_succ, Act.put, List.setIfInBounds_toArray, List.set_cons_zero, List.set_cons_succ])
  refine wpAnyH_take (i := 3) (oi := _) (v := ?_) rfl (by kernel_rfl) (by kernel_rfl) (by kernel_rfl) (fun _ _ _ h => h) (Or.inl ⟨by rfl, ?_⟩) (by assumption) ?_
  rotate_left
  · (intro w hSw; (try dsimp only at hSw); go_simp)
    all_goals (with_reducible rfl)
  (try simp only [List.getElem_toArray, List.getElem_cons_zero, List.getElem_cons_succ, Act.put, List.setIfInBounds_toArray, List.set_cons_zero, List.set_cons_succ])
  refine wpAnyH_take (i := 4) (oi := _) (v := ?_) rfl (by kernel_rfl) (by kernel_rfl) (by kernel_rfl) (fun _ _ _ h => h) (Or.inl ⟨by rfl, ?_⟩) (by assumption) ?_
  rotate_left
  · (intro w hSw; (try dsimp only at hSw); go_simp)
    all_goals (with_reducible rfl)
  (try simp only [List.getElem_toArray, List.getElem_cons_zero, List.getElem_cons_succ, Act.put, List.setIfInBounds_toArray, List.set_cons_zero, List.set_cons_succ])
  refine wpAnyH_take (i := 5) (oi := _) (v := ?_) rfl (by kernel_rfl) (by kernel_rfl) (by kernel_rfl) (fun _ _ _ h => h) (Or.inl ⟨by rfl, ?_⟩) (by assumption) ?_
  rotate_left
  · (intro w hSw; (try dsimp only at hSw); go_simp)
    all_goals (with_reducible rfl)
  (try simp only [List.getElem_toArray, List.getElem_cons_zero, List.getElem_cons_succ, Act.put, List.setIfInBounds_toArray, List.set_cons_zero, List.set_cons_succ])
  refine wpAnyH_take (i := 6) (oi := _) (v := ?_) rfl (by kernel_rfl) (by kernel_rfl) (by kernel_rfl) (fun _ _ _ h => h) (Or.inl ⟨by rfl, ?_⟩) (by assumption) ?_
  rotate_left
  · (intro w hSw; (try dsimp only at hSw); go_simp)
    all_goals (with_reducible rfl)
  (try simp only [List.getElem_toArray, List.getElem_cons_zero, List.getElem_cons_succ, Act.put, List.setIfInBounds_toArray, List.set_cons_zero, List.set_cons_succ])
  refine wpAnyH_ready (rs := [7]) (by kernel_rfl) (by simp) ?_
  refine AllReadyH.cons rfl (fun K hK => ?_) AllReadyH.nil
  go_simp
  (go_at_call 15; (with_reducible refine (hcall.out _ ((Below.refl _ _).drew)).mono ?_); rintro e w2 ⟨x, rfl, hrp, hb2⟩; have hB1 : Below w0.heap.size w0 w2 := into (by go_grown) hb2; have hB2 : Below MB w0 w2 := hB1.mono (by omega); have hbx := (hB1.block MB (by omega)).trans hbox.out; obtain ⟨z0, z1, z2, z3, z4, z5, f0, f1, f2, f3, f4, f5⟩ := box6 hbx; have hHRP := Lib.hid hrp; clear hrp)
  go_wp2_with fail
  refine hK.out _ _ ?_ (fun hHeld => ?_)
  · (try dsimp only)
    exact heldk17 _ (by first | (with_reducible exact (Below.refl _ _).drew) | (with_reducible exact hB2) | (with_reducible exact (st6 hB2 hbx _ _ _ _ _ _).1))
  clear hK K
  (try simp only [List.getElem_toArray, List.getElem_cons_zero, List.getElem_cons_succ, Act.put, List.setIfInBounds_toArray, List.set_cons_zero, List.set_cons_succ])
  refine wpAnyH_take (i := 8) (oi := _) (v := ?_) rfl (by kernel_rfl) (by kernel_rfl) (by kernel_rfl) (fun _ _ _ h => h) (Or.inl ⟨by rfl, ?_⟩) (by assumption) ?_
  rotate_left
  · (intro w hSw; (try dsimp only at hSw); go_simp)
    all_goals (with_reducible rfl)
  (try simp only [List.getElem_toArray, List.getElem_cons_zero, List.getElem_cons_succ, Act.put, List.setIfInBounds_toArray, List.set_cons_zero, List.set_cons_succ])
  refine wpAnyH_take (i := 9) (oi := _) (v := ?_) rfl (by kernel_rfl) (by kernel_rfl) (by kernel_rfl) (fun _ _ _ h => h) (Or.inl ⟨by rfl, ?_⟩) (by assumption) ?_
  rotate_left
  · (intro w hSw; (try dsimp only at hSw); go_simp)
    all_goals (with_reducible rfl)
  (try simp only [List.getElem_toArray, List.getElem_cons_zero, List.getElem_cons_succ, Act.put, List.setIfInBounds_toArray, List.set_cons_zero, List.set_cons_succ])
  refine wpAnyH_take (i := 10) (oi := _) (v := ?_) rfl (by kernel_rfl) (by kernel_rfl) (by kernel_rfl) (fun _ _ _ h => h) (Or.inl ⟨by rfl, ?_⟩) (by assumption) ?_
  rotate_left
  · (intro w hSw; (try dsimp only at hSw); go_simp)
    all_goals (with_reducible rfl)
  (try simp only [List.getElem_toArray, List.getElem_cons_zero, List.getElem_cons_succ, Act.put, List.setIfInBounds_toArray, List.set_cons_zero, List.set_cons_succ])
  refine wpAnyH_ready (rs := [11]) (by kernel_rfl) (by simp) ?_
  refine AllReadyH.cons rfl (fun K hK => ?_) AllReadyH.nil
  go_simp
  refine hK.out _ _ ?_ (fun hHeld => ?_)
  · (try dsimp only)
    exact heldk17 _ (by first | (with_reducible exact (Below.refl _ _).drew) | (with_reducible exact hB2) | (with_reducible exact (st6 hB2 hbx _ _ _ _ _ _).1))
  clear hK K
  (try simp only [List.getElem_toArray, List.getElem_cons_zero, List.getElem_cons_succ, Act.put, List.setIfInBounds_toArray, List.set_cons_zero, List.set_cons_succ])
  refine wpAnyH_ready (rs := [12]) (by kernel_rfl) (by simp) ?_
  refine AllReadyH.cons rfl (fun K hK => ?_) AllReadyH.nil
  go_simp
  refine hK.out _ _ ?_ (fun hHeld => ?_)
  · (try dsimp only)
    exact heldk17 _ (by first | (with_reducible exact (Below.refl _ _).drew) | (with_reducible exact hB2) | (with_reducible exact (st6 hB2 hbx _ _ _ _ _ _).1))
  clear hK K
  (try simp only [List.getElem_toArray, List.getElem_cons_zero, List.getElem_cons_succ, Act.put, List.setIfInBounds_toArray, List.set_cons_zero, List.set_cons_succ])
  refine wpAnyH_done (by kernel_rfl) ?_ _
  exact hout.out _ _ _ _ _ _ _ _ _ _ _ x _ (st6 hB2 hbx _ _ _ _ _ _).1 (st6 hB2 hbx _ _ _ _ _ _).2.1 (st6 hB2 hbx _ _ _ _ _ _).2.2 (hHRP.out.mono fun _ _ h => h.set6 hbx pt_ne _ _ _ _ _ _)
theorem k10 (Q : Exit → Act → World → Prop) (c0 c1 c2 c4 c5 c6 c7 c8 c9 c10 c12 c15 c17 c18 c19 c20 c21 c22 c23 c24 c25 c26 c27 c28 c29 c30 c31 c32 c33 c34 c35 c36 c37 c38 c39 c40 c41 c42 c43 c44 c45 c46 c47 c48 c49 c50 c51 c52 c53 c54 c55 c56 c57 c58 c59 c60 c61 c62 c63 c64 c65 c66 c67 c68 c69 c70 c71 c72 c73 c74 c75 c76 c77 c78 c79 c80 c81 c82 c83 c84 : Value) (w0 : World) (OB MB g n p p1 cp : Nat) (hp1 : Hid (p1 = p + 1)) (k : Int) (r : Int × Pt) (a b : Pv) (y0 y1 y2 y3 y4 y5 : Value) (hp : p + 1 < n) (hn : n ≤ 1000) (hz : MB + 1 = w0.heap.size) (hO : OB < MB) (hg : g < MB)
    (hk : w0.cell? ⟨OB, 0, none⟩ = some (.int .i64 k)) (ha0 : w0.cell? ⟨g, p * 6, none⟩ = some (.bool a.f)) (ha1 : w0.cell? ⟨g, p * 6 + 1, none⟩ = some (sv a.k)) (ha2 : w0.cell? ⟨g, p * 6 + 2, none⟩ = some (sv a.hl)) (ha3 : w0.cell? ⟨g, p * 6 + 3, none⟩ = some (sv a.hh)) (ha4 : w0.cell? ⟨g, p * 6 + 4, none⟩ = some (sv a.fl)) (ha5 : w0.cell? ⟨g, p * 6 + 5, none⟩ = some (sv a.fh)) (hb0 : w0.cell? ⟨g, p1 * 6, none⟩ = some (.bool b.f)) (hb1 : w0.cell? ⟨g, p1 * 6 + 1, none⟩ = some (sv b.k)) (hb2 : w0.cell? ⟨g, p1 * 6 + 2, none⟩ = some (sv b.hl)) (hb3 : w0.cell? ⟨g, p1 * 6 + 3, none⟩ = some (sv b.hh)) (hb4 : w0.cell? ⟨g, p1 * 6 + 4, none⟩ = some (sv b.fl)) (hb5 : w0.cell? ⟨g, p1 * 6 + 5, none⟩ = some (sv b.fh))
    (hbox : Hid (w0.heap[MB]? = some (.cells #[y0, y1, y2, y3, y4, y5] 39 (0, 0)))) (hcall : Hid (∀ w, Below w0.heap.size w0 w → Calls Tryz.prog 16 #[.int .i64 k, pva a, pva b] w (PartIs r w)))
    (hout : Hid (∀ (u31 u32 u33 u34 u35 u36 u37 u38 u39 u40 u41 u42 u43 u30 u44 u45 : Value) (x : Pv) (w' : World), Below MB w0 w' → MB < w'.heap.size → w'.heap[MB]? = some (.cells (p6 x) 39 (0, 0)) → RP w' x r.2 → Q .normal ⟨List.toArray (c0 :: c1 :: c2 :: (.func (.func 16) #[] #[]) :: c4 :: c5 :: c6 :: c7 :: c8 :: c9 :: c10 :: (.slice (some ⟨g, 0, none⟩) n cp) :: c12 :: (.pointer (some ⟨OB, 0, none⟩)) :: (.pointer (some ⟨MB, 0, none⟩)) :: (.int .i64 r.1) :: (.int .i64 (p : Int)) :: c17 :: c18 :: c19 :: c20 :: c21 :: c22 :: c23 :: c24 :: c25 :: c26 :: c27 :: c28 :: c29 :: u30 :: u31 :: u32 :: u33 :: u34 :: u35 :: u36 :: u37 :: u38 :: u39 :: u40 :: u41 :: u42 :: u43 :: u44 :: u45 :: c46 :: c47 :: c48 :: c49 :: c50 :: c51 :: c52 :: c53 :: c54 :: c55 :: c56 :: c57 :: c58 :: c59 :: c60 :: c61 :: c62 :: c63 :: c64 :: c65 :: c66 :: c67 :: c68 :: c69 :: c70 :: c71 :: c72 :: c73 :: c74 :: c75 :: c76 :: c77 :: c78 :: c79 :: c80 :: c81 :: c82 :: c83 :: c84 :: []), []⟩ w')) :
    Code.wp Tryz.prog ((regionOf 10 (Tryz.f12.body.getD .skip)).getD .skip) Q ⟨List.toArray (c0 :: c1 :: c2 :: (.func (.func 16) #[] #[]) :: c4 :: c5 :: c6 :: c7 :: c8 :: c9 :: c10 :: (.slice (some ⟨g, 0, none⟩) n cp) :: c12 :: (.pointer (some ⟨OB, 0, none⟩)) :: (.pointer (some ⟨MB, 0, none⟩)) :: c15 :: (.int .i64 (p : Int)) :: c17 :: c18 :: c19 :: c20 :: c21 :: c22 :: c23 :: c24 :: c25 :: c26 :: c27 :: c28 :: c29 :: c30 :: c31 :: c32 :: c33 :: c34 :: c35 :: c36 :: c37 :: c38 :: c39 :: c40 :: c41 :: c42 :: c43 :: c44 :: c45 :: c46 :: c47 :: c48 :: c49 :: c50 :: c51 :: c52 :: c53 :: c54 :: c55 :: c56 :: c57 :: c58 :: c59 :: c60 :: c61 :: c62 :: c63 :: c64 :: c65 :: c66 :: c67 :: c68 :: c69 :: c70 :: c71 :: c72 :: c73 :: c74 :: c75 :: c76 :: c77 :: c78 :: c79 :: c80 :: c81 :: c82 :: c83 :: c84 :: []), []⟩ w0 := by
  refine Code.wp_mono (Q := NQ Q) nq_to ?_
  conv => arg 2; whnf
  have i0 : (0 : Int) ≤ (p : Int) := by omega
  have i1 : (p : Int) < (n : Int) := by omega
  have j0 : (0 : Int) ≤ (p1 : Int) := by omega
  have j1 : (p1 : Int) < (n : Int) := by have := hp1.out; omega
  have jw : IntKind.i64.wrap ((p : Int) + 1) = (p1 : Int) := (IntWalk.i64_in _ (by omega)).trans (by have := hp1.out; omega)
  have heldk10 : ∀ wx, Below MB w0 wx → (fun wx => Below MB w0 wx ∧ wx.cell? ⟨OB, 0, none⟩ = some (.int .i64 k) ∧ wx.cell? ⟨g, p * 6, none⟩ = some (.bool a.f) ∧ wx.cell? ⟨g, p * 6 + 1, none⟩ = some (sv a.k) ∧ wx.cell? ⟨g, p * 6 + 2, none⟩ = some (sv a.hl) ∧ wx.cell? ⟨g, p * 6 + 3, none⟩ = some (sv a.hh) ∧ wx.cell? ⟨g, p * 6 + 4, none⟩ = some (sv a.fl) ∧ wx.cell? ⟨g, p * 6 + 5, none⟩ = some (sv a.fh) ∧ wx.cell? ⟨g, p1 * 6, none⟩ = some (.bool b.f) ∧ wx.cell? ⟨g, p1 * 6 + 1, none⟩ = some (sv b.k) ∧ wx.cell? ⟨g, p1 * 6 + 2, none⟩ = some (sv b.hl) ∧ wx.cell? ⟨g, p1 * 6 + 3, none⟩ = some (sv b.hh) ∧ wx.cell? ⟨g, p1 * 6 + 4, none⟩ = some (sv b.fl) ∧ wx.cell? ⟨g, p1 * 6 + 5, none⟩ = some (sv b.fh)) wx := fun wx h => ⟨h, (h.cell (by show _ < MB; omega)).trans hk, (h.cell (by show _ < MB; omega)).trans ha0, (h.cell (by show _ < MB; omega)).trans ha1, (h.cell (by show _ < MB; omega)).trans ha2, (h.cell (by show _ < MB; omega)).trans ha3, (h.cell (by show _ < MB; omega)).trans ha4, (h.cell (by show _ < MB; omega)).trans ha5, (h.cell (by show _ < MB; omega)).trans hb0, (h.cell (by show _ < MB; omega)).trans hb1, (h.cell (by show _ < MB; omega)).trans hb2, (h.cell (by show _ < MB; omega)).trans hb3, (h.cell (by show _ < MB; omega)).trans hb4, (h.cell (by show _ < MB; omega)).trans hb5⟩
  refine wp_region_held_drew (S := (fun wx => Below MB w0 wx ∧ wx.cell? ⟨OB, 0, none⟩ = some (.int .i64 k) ∧ wx.cell? ⟨g, p * 6, none⟩ = some (.bool a.f) ∧ wx.cell? ⟨g, p * 6 + 1, none⟩ = some (sv a.k) ∧ wx.cell? ⟨g, p * 6 + 2, none⟩ = some (sv a.hl) ∧ wx.cell? ⟨g, p * 6 + 3, none⟩ = some (sv a.hh) ∧ wx.cell? ⟨g, p * 6 + 4, none⟩ = some (sv a.fl) ∧ wx.cell? ⟨g, p * 6 + 5, none⟩ = some (sv a.fh) ∧ wx.cell? ⟨g, p1 * 6, none⟩ = some (.bool b.f) ∧ wx.cell? ⟨g, p1 * 6 + 1, none⟩ = some (sv b.k) ∧ wx.cell? ⟨g, p1 * 6 + 2, none⟩ = some (sv b.hl) ∧ wx.cell? ⟨g, p1 * 6 + 3, none⟩ = some (sv b.hh) ∧ wx.cell? ⟨g, p1 * 6 + 4, none⟩ = some (sv b.fl) ∧ wx.cell? ⟨g, p1 * 6 + 5, none⟩ = some (sv b.fh))) (by kernel_rfl) ?_ (fun hHeld => ?_)
  · (try dsimp only)
    exact heldk10 _ (by first | (with_reducible exact (Below.refl _ _).drew) | (with_reducible exact hB2) | (with_reducible exact (st6 hB2 hbx _ _ _ _ _ _).1))
  refine wpAnyH_take (i := 0) (oi := _) (v := ?_) rfl (by kernel_rfl) (by kernel_rfl) (by kernel_rfl) (fun _ _ _ h => h) (Or.inl ⟨by rfl, ?_⟩) (by assumption) ?_
  rotate_left
  · (intro w hSw; (try dsimp only at hSw); go_simp)
    all_goals (with_reducible rfl)
  (try simp only [List.getElem_toArray, List.getElem_cons_zero, List.getElem_cons_succ, Act.put, List.setIfInBounds_toArray, List.set_cons_zero, List.set_cons_succ])
  refine wpAnyH_take (i := 1) (oi := _) (v := ?_) rfl (by kernel_rfl) (by kernel_rfl) (by kernel_rfl) (fun _ _ _ h => h) (Or.inl ⟨by rfl, ?_⟩) (by assumption) ?_
  rotate_left
  · (intro w hSw; (try dsimp only at hSw); go_simp)
    all_goals (with_reducible rfl)
  (try simp only [List.getElem_toArray, List.getElem_cons_zero, List.getElem_cons_succ, Act.put, List.setIfInBounds_toArray, List.set_cons_zero, List.set_cons_succ])
  refine wpAnyH_take (i := 2) (oi := _) (v := ?_) rfl (by kernel_rfl) (by kernel_rfl) (by kernel_rfl) (fun _ _ _ h => h) (Or.inl ⟨by rfl, ?_⟩) (by assumption) ?_
  rotate_left
  · (intro w hSw; (try dsimp only at hSw); go_simp)
    all_goals (with_reducible rfl)
  (try simp only [List.getElem_toArray, List.getElem_cons_zero, List.getElem_cons_succ, Act.put, List.setIfInBounds_toArray, List.set_cons_zero, List.set_cons_succ])
  refine wpAnyH_take (i := 3) (oi := _) (v := ?_) rfl (by kernel_rfl) (by kernel_rfl) (by kernel_rfl) (fun _ _ _ h => h) (Or.inl ⟨by rfl, ?_⟩) (by assumption) ?_
  rotate_left
  · (intro w hSw; (try dsimp only at hSw); go_simp)
    all_goals (with_reducible rfl)
  (try simp only [List.getElem_toArray, List.getElem_cons_zero, List.getElem_cons_succ, Act.put, List.setIfInBounds_toArray, List.set_cons_zero, List.set_cons_succ])
  refine wpAnyH_take (i := 4) (oi := _) (v := ?_) rfl (by kernel_rfl) (by kernel_rfl) (by kernel_rfl) (fun _ _ _ h => h) (Or.inl ⟨by rfl, ?_⟩) (by assumption) ?_
  rotate_left
  · (intro w hSw; (try dsimp only at hSw); go_simp)
    all_goals (with_reducible rfl)
  (try simp only [List.getElem_toArray, List.getElem_cons_zero, List.getElem_cons_succ, Act.put, List.setIfInBounds_toArray, List.set_cons_zero, List.set_cons_succ])
  refine wpAnyH_take (i := 5) (oi := _) (v := ?_) rfl (by kernel_rfl) (by kernel_rfl) (by kernel_rfl) (fun _ _ _ h => h) (Or.inl ⟨by rfl, ?_⟩) (by assumption) ?_
  rotate_left
  · (intro w hSw; (try dsimp only at hSw); go_simp)
    all_goals (with_reducible rfl)
  (try simp only [List.getElem_toArray, List.getElem_cons_zero, List.getElem_cons_succ, Act.put, List.setIfInBounds_toArray, List.set_cons_zero, List.set_cons_succ])
  refine wpAnyH_take (i := 6) (oi := _) (v := ?_) rfl (by kernel_rfl) (by kernel_rfl) (by kernel_rfl) (fun _ _ _ h => h) (Or.inl ⟨by rfl, ?_⟩) (by assumption) ?_
  rotate_left
  · (intro w hSw; (try dsimp only at hSw); go_simp)
    all_goals (with_reducible rfl)
  (try simp only [List.getElem_toArray, List.getElem_cons_zero, List.getElem_cons_succ, Act.put, List.setIfInBounds_toArray, List.set_cons_zero, List.set_cons_succ])
  refine wpAnyH_take (i := 7) (oi := _) (v := ?_) rfl (by kernel_rfl) (by kernel_rfl) (by kernel_rfl) (fun _ _ _ h => h) (Or.inl ⟨by rfl, ?_⟩) (by assumption) ?_
  rotate_left
  · (intro w hSw; (try dsimp only at hSw); go_simp)
    all_goals (with_reducible rfl)
  (try simp only [List.getElem_toArray, List.getElem_cons_zero, List.getElem_cons_succ, Act.put, List.setIfInBounds_toArray, List.set_cons_zero, List.set_cons_succ])
  refine wpAnyH_take (i := 8) (oi := _) (v := ?_) rfl (by kernel_rfl) (by kernel_rfl) (by kernel_rfl) (fun _ _ _ h => h) (Or.inl ⟨by rfl, ?_⟩) (by assumption) ?_
  rotate_left
  · (intro w hSw; (try dsimp only at hSw); go_simp)
    all_goals (with_reducible rfl)
  (try simp only [List.getElem_toArray, List.getElem_cons_zero, List.getElem_cons_succ, Act.put, List.setIfInBounds_toArray, List.set_cons_zero, List.set_cons_succ])
  refine wpAnyH_take (i := 9) (oi := _) (v := ?_) rfl (by kernel_rfl) (by kernel_rfl) (by kernel_rfl) (fun _ _ _ h => h) (Or.inl ⟨by rfl, ?_⟩) (by assumption) ?_
  rotate_left
  · (intro w hSw; (try dsimp only at hSw); go_simp)
    all_goals (with_reducible rfl)
  (try simp only [List.getElem_toArray, List.getElem_cons_zero, List.getElem_cons_succ, Act.put, List.setIfInBounds_toArray, List.set_cons_zero, List.set_cons_succ])
  refine wpAnyH_take (i := 10) (oi := _) (v := ?_) rfl (by kernel_rfl) (by kernel_rfl) (by kernel_rfl) (fun _ _ _ h => h) (Or.inl ⟨by rfl, ?_⟩) (by assumption) ?_
  rotate_left
  · (intro w hSw; (try dsimp only at hSw); go_simp)
    all_goals (with_reducible rfl)
  (try simp only [List.getElem_toArray, List.getElem_cons_zero, List.getElem_cons_succ, Act.put, List.setIfInBounds_toArray, List.set_cons_zero, List.set_cons_succ])
  refine wpAnyH_take (i := 11) (oi := _) (v := ?_) rfl (by kernel_rfl) (by kernel_rfl) (by kernel_rfl) (fun _ _ _ h => h) (Or.inl ⟨by rfl, ?_⟩) (by assumption) ?_
  rotate_left
  · (intro w hSw; (try dsimp only at hSw); go_simp)
    all_goals (with_reducible rfl)
  (try simp only [List.getElem_toArray, List.getElem_cons_zero, List.getElem_cons_succ, Act.put, List.setIfInBounds_toArray, List.set_cons_zero, List.set_cons_succ])
  refine wpAnyH_ready (rs := [12]) (by kernel_rfl) (by simp) ?_
  refine AllReadyH.cons rfl (fun K hK => ?_) AllReadyH.nil
  go_simp
  (go_at_call 16; (with_reducible refine (hcall.out _ ((Below.refl _ _).drew)).mono ?_); rintro e w2 ⟨x, rfl, hrp, hb2⟩; have hB1 : Below w0.heap.size w0 w2 := into (by go_grown) hb2; have hB2 : Below MB w0 w2 := hB1.mono (by omega); have hbx := (hB1.block MB (by omega)).trans hbox.out; obtain ⟨z0, z1, z2, z3, z4, z5, f0, f1, f2, f3, f4, f5⟩ := box6 hbx; have hHRP := Lib.hid hrp; clear hrp)
  go_wp2_with fail
  refine hK.out _ _ ?_ (fun hHeld => ?_)
  · (try dsimp only)
    exact heldk10 _ (by first | (with_reducible exact (Below.refl _ _).drew) | (with_reducible exact hB2) | (with_reducible exact (st6 hB2 hbx _ _ _ _ _ _).1))
  clear hK K
  (try simp only [List.getElem_toArray, List.getElem_cons_zero, List.getElem_cons_succ, Act.put, List.setIfInBounds_toArray, List.set_cons_zero, List.set_cons_succ])
  refine wpAnyH_take (i := 13) (oi := _) (v := ?_) rfl (by kernel_rfl) (by kernel_rfl) (by kernel_rfl) (fun _ _ _ h => h) (Or.inl ⟨by rfl, ?_⟩) (by assumption) ?_
  rotate_left
  · (intro w hSw; (try dsimp only at hSw); go_simp)
    all_goals (with_reducible rfl)
  (try simp only [List.getElem_toArray, List.getElem_cons_zero, List.getElem_cons_succ, Act.put, List.setIfInBounds_toArray, List.set_cons_zero, List.set_cons_succ])
  refine wpAnyH_take (i := 14) (oi := _) (v := ?_) rfl (by kernel_rfl) (by kernel_rfl) (by kernel_rfl) (fun _ _ _ h => h) (Or.inl ⟨by rfl, ?_⟩) (by assumption) ?_
  rotate_left
  · (intro w hSw; (try dsimp only at hSw); go_simp)
    all_goals (with_reducible rfl)
  (try simp only [List.getElem_toArray, List.getElem_cons_zero, List.getElem_cons_succ, Act.put, List.setIfInBounds_toArray, List.set_cons_zero, List.set_cons_succ])
  refine wpAnyH_take (i := 15) (oi := _) (v := ?_) rfl (by kernel_rfl) (by kernel_rfl) (by kernel_rfl) (fun _ _ _ h => h) (Or.inl ⟨by rfl, ?_⟩) (by assumption) ?_
  rotate_left
  · (intro w hSw; (try dsimp only at hSw); go_simp)
    all_goals (with_reducible rfl)
  (try simp only [List.getElem_toArray, List.getElem_cons_zero, List.getElem_cons_succ, Act.put, List.setIfInBounds_toArray, List.set_cons_zero, List.set_cons_succ])
  refine wpAnyH_ready (rs := [16]) (by kernel_rfl) (by simp) ?_
  refine AllReadyH.cons rfl (fun K hK => ?_) AllReadyH.nil
  go_simp
  refine hK.out _ _ ?_ (fun hHeld => ?_)
  · (try dsimp only)
    exact heldk10 _ (by first | (with_reducible exact (Below.refl _ _).drew) | (with_reducible exact hB2) | (with_reducible exact (st6 hB2 hbx _ _ _ _ _ _).1))
  clear hK K
  (try simp only [List.getElem_toArray, List.getElem_cons_zero, List.getElem_cons_succ, Act.put, List.setIfInBounds_toArray, List.set_cons_zero, List.set_cons_succ])
  refine wpAnyH_ready (rs := [17]) (by kernel_rfl) (by simp) ?_
  refine AllReadyH.cons rfl (fun K hK => ?_) AllReadyH.nil
  go_simp
  refine hK.out _ _ ?_ (fun hHeld => ?_)
  · (try dsimp only)
    exact heldk10 _ (by first | (with_reducible exact (Below.refl _ _).drew) | (with_reducible exact hB2) | (with_reducible exact (st6 hB2 hbx _ _ _ _ _ _).1))
  clear hK K
  (try simp only [List.getElem_toArray, List.getElem_cons_zero, List.getElem_cons_succ, Act.put, List.setIfInBounds_toArray, List.set_cons_zero, List.set_cons_succ])
  refine wpAnyH_done (by kernel_rfl) ?_ _
  exact hout.out _ _ _ _ _ _ _ _ _ _ _ _ _ _ _ _ x _ (st6 hB2 hbx _ _ _ _ _ _).1 (st6 hB2 hbx _ _ _ _ _ _).2.1 (st6 hB2 hbx _ _ _ _ _ _).2.2 (hHRP.out.mono fun _ _ h => h.set6 hbx pt_ne _ _ _ _ _ _)
end Go.Proofs.YtmfkdpfcpdmkdaaGreatDoor.bd

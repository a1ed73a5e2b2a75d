/- Leaving, as the document has it: the regions that take a lock over. -/
import Derived.Test.YtpddlckkncmlmaaDoorNo
import Derived.Test.YtpddlckkncmlmaaDoorMq
import Derived.Deep.AppendLies
import Derived.Deep.RegionHeld3
namespace Go.Proofs.YtpddlckkncmlmaaDoor
open Go.ChangeShapes Go.WideShapes Go.ChangeAt Go.RowKit
set_option linter.unusedVariables false
set_option linter.unusedSimpArgs false
set_option maxHeartbeats 8000000
set_option maxRecDepth 100000
/-- All blocks stay but C and the row's. -/
structure Gr (w w' : World) (C : Nat) (row : Option Nat) : Prop where
  os : w'.os = w.os
  tape : w'.tape = w.tape
  output : w'.output = w.output
  size : w.heap.size ≤ w'.heap.size
  block : ∀ k, k < w.heap.size → k ≠ C → some k ≠ row → w'.heap[k]? = w.heap[k]?
theorem Gr.below {w w' : World} {C B : Nat} {row : Option Nat} (h : Gr w w' C row) (hC : B ≤ C) (hr : ∀ k, row = some k → B ≤ k) (hB : B ≤ w.heap.size) : Below B w w' :=
  ⟨h.os, h.tape, h.output, h.size, fun k hk => h.block k (by omega) (by omega) (fun e => by have := hr k e.symm; omega)⟩
theorem Gr.own {w w' : World} {C B e s n : Nat} {row : Option Nat} {v : Value} {xs : List Value} (h : Gr w w' C row) (ho : w.ownsRow B e s v n xs) (hC : ∀ k, v.ownBlock = some k → k ≠ C) (hr : ∀ k, v.ownBlock = some k → some k ≠ row) : w'.ownsRow B e s v n xs := by
  refine ⟨ho.1, ?_⟩
  rcases ho.2 with h0 | ⟨g, cap, cur, rfl, h1, h2, h3⟩
  · exact .inl h0
  · exact .inr ⟨g, cap, cur, rfl, h1, (h.block g (Array.getElem?_eq_some_iff.1 h2).1 (hC g rfl) (hr g rfl)).trans h2, h3⟩
/-- What such a region leaves. -/
structure LbR (wr w5 : World) (C B m gg cap1 : Nat) (row : Option Nat) (L : List Value) : Prop where
  own : w5.ownsRow B 26 3 (.slice (some ⟨gg, 0, none⟩) (m + 1) cap1) (m + 1) L
  gr : Gr wr w5 C row
  at_ : row = some gg ∨ wr.heap.size ≤ gg
theorem lb_end {wr w4 : World} {C B m gg cap1 : Nat} {av : Option Addr} {cv : Nat} {Lx L : List Value} {ob : Obj} {j : Nat} {v : Value} (hCB : C < B) (ho : wr.ownsRow B 26 3 (.slice av m cv) m Lx) (hC : C < wr.heap.size)
    (h4 : w4.ownsRow B 26 3 (.slice (some ⟨gg, 0, none⟩) (m + 1) cap1) (m + 1) L) (hgrow : ((wr.alloc ob).drew).grownBy w4 (Value.slice av m cv).ownBlock) (hat : (Value.slice av m cv).ownBlock = some gg ∨ gg = wr.heap.size + 1) :
    LbR wr (w4.setCell ⟨C, j, none⟩ v) C B m gg cap1 (Value.slice av m cv).ownBlock L ∧ w4.heap[C]? = wr.heap[C]? := by
  have hb : Below wr.heap.size wr ((wr.alloc ob).drew) := ((Below.refl _ _).alloc (Nat.le_refl _) ob).drew
  have hne : some C ≠ (Value.slice av m cv).ownBlock := fun e => by have := (ho.lt C e.symm).1; omega
  refine ⟨⟨h4.kept (gc_set _ _ _ _) (.inr fun e => by have := (h4.lt C e).1; omega), ⟨hgrow.os.trans hb.os, hgrow.tape.trans hb.tape, hgrow.output.trans hb.output, ?_, fun k hk h1 h2 => ?_⟩, ?_⟩, (hgrow.block C (by have := hb.size; omega) hne).trans (hb.block C (by omega))⟩
  · have h1 := hb.size
    have h2 := hgrow.size
    simpa using Nat.le_trans h1 h2
  · exact ((gc_set w4 C j v).block k (by have := hb.size; have := hgrow.size; omega) (fun e => h1 (Option.some.inj e))).trans ((hgrow.block k (by have := hb.size; omega) h2).trans (hb.block k hk))
  · rcases hat with h | h
    · exact .inl h
    · exact .inr (by omega)
theorem lb11 (Q : Exit → Act → World → Prop) (c0 c1 c3 c4 c5 c6 c7 c10 c11 c12 c13 c14 c15 c16 c17 c18 c19 c20 c21 c22 c23 c24 c25 c26 c27 c28 c29 c30 c31 c32 c33 c34 c35 c36 c37 c38 c39 c40 c41 c42 c43 c44 c45 c46 c47 c48 c49 c50 c51 c52 c53 c54 c55 c56 c57 c58 c59 c60 c61 c62 c63 c64 c65 c66 c67 c68 c69 c70 c71 c72 c73 c74 c75 c76 c77 c78 c79 c80 c81 c82 c83 c84 c85 c86 c87 c88 c89 c90 c91 c92 c93 c94 c95 c96 c97 c98 c99 c100 c101 c102 c103 c104 c105 c106 c107 c108 c109 c110 c111 c112 c113 c114 c115 c116 c117 c118 c119 c120 c121 c122 c123 c124 c125 c126 c127 c128 c129 c130 c131 : Value) (wr : World) (P C B b o k n cq m cv : Nat) (av : Option Addr) (z : Value) (ut um : Int) (uth : ByteArray) (L : List Value)
    (x0 : wr.cell? ⟨P, 0, none⟩ = some (.slice (some ⟨b, o, none⟩) n cq)) (e0 : wr.cell? ⟨b, o + k * 3, none⟩ = some (.int .i64 ut)) (e1 : wr.cell? ⟨b, o + k * 3 + 1, none⟩ = some (.string uth)) (e2 : wr.cell? ⟨b, o + k * 3 + 2, none⟩ = some (.int .i64 um))
    (hbx : wr.heap[C]? = some (.cells #[.slice av m cv, z] 24 (0, 0))) (HO : Hid (wr.ownsRow B 26 3 (.slice av m cv) m L)) (hCB : C < B) (hPC : C ≠ P) (hbC : C ≠ b) (hPB : P < B) (hbB : b < B) (hB : B ≤ wr.heap.size) (hkn : k < n) (hn : n ≤ 1000) (hm : m ≤ 1000)
    (hout : Hid (∀ (u45 u46 u47 u48 u49 u50 u51 u52 u53 u54 : Value) (w5 : World) (gg cap1 : Nat), LbR wr w5 C B m gg cap1 (Value.slice av m cv).ownBlock (L ++ [.int .i64 ut, .string uth, .int .i64 um]) → w5.heap[C]? = some (.cells #[.slice (some ⟨gg, 0, none⟩) (m + 1) cap1, z] 24 (0, 0)) → Q .normal ⟨List.toArray (c0 :: c1 :: (.pointer (some ⟨P, 0, none⟩)) :: c3 :: c4 :: c5 :: c6 :: c7 :: (.pointer (some ⟨C, 0, none⟩)) :: (.int .i64 (k : Int)) :: c10 :: c11 :: c12 :: c13 :: c14 :: c15 :: c16 :: c17 :: c18 :: c19 :: c20 :: c21 :: c22 :: c23 :: c24 :: c25 :: c26 :: c27 :: c28 :: c29 :: c30 :: c31 :: c32 :: c33 :: c34 :: c35 :: c36 :: c37 :: c38 :: c39 :: c40 :: c41 :: c42 :: c43 :: c44 :: u45 :: u46 :: u47 :: u48 :: u49 :: u50 :: u51 :: u52 :: u53 :: u54 :: c55 :: c56 :: c57 :: c58 :: c59 :: c60 :: c61 :: c62 :: c63 :: c64 :: c65 :: c66 :: c67 :: c68 :: c69 :: c70 :: c71 :: c72 :: c73 :: c74 :: c75 :: c76 :: c77 :: c78 :: c79 :: c80 :: c81 :: c82 :: c83 :: c84 :: c85 :: c86 :: c87 :: c88 :: c89 :: c90 :: c91 :: c92 :: c93 :: c94 :: c95 :: c96 :: c97 :: c98 :: c99 :: c100 :: c101 :: c102 :: c103 :: c104 :: c105 :: c106 :: c107 :: c108 :: c109 :: c110 :: c111 :: c112 :: c113 :: c114 :: c115 :: c116 :: c117 :: c118 :: c119 :: c120 :: c121 :: c122 :: c123 :: c124 :: c125 :: c126 :: c127 :: c128 :: c129 :: c130 :: c131 :: []), []⟩ w5)) :
    Code.wp Tryd.prog ((regionOf 11 (Tryd.f14.body.getD .skip)).getD .skip) Q ⟨List.toArray (c0 :: c1 :: (.pointer (some ⟨P, 0, none⟩)) :: c3 :: c4 :: c5 :: c6 :: c7 :: (.pointer (some ⟨C, 0, none⟩)) :: (.int .i64 (k : Int)) :: c10 :: c11 :: c12 :: c13 :: c14 :: c15 :: c16 :: c17 :: c18 :: c19 :: c20 :: c21 :: c22 :: c23 :: c24 :: c25 :: c26 :: c27 :: c28 :: c29 :: c30 :: c31 :: c32 :: c33 :: c34 :: c35 :: c36 :: c37 :: c38 :: c39 :: c40 :: c41 :: c42 :: c43 :: c44 :: c45 :: c46 :: c47 :: c48 :: c49 :: c50 :: c51 :: c52 :: c53 :: c54 :: c55 :: c56 :: c57 :: c58 :: c59 :: c60 :: c61 :: c62 :: c63 :: c64 :: c65 :: c66 :: c67 :: c68 :: c69 :: c70 :: c71 :: c72 :: c73 :: c74 :: c75 :: c76 :: c77 :: c78 :: c79 :: c80 :: c81 :: c82 :: c83 :: c84 :: c85 :: c86 :: c87 :: c88 :: c89 :: c90 :: c91 :: c92 :: c93 :: c94 :: c95 :: c96 :: c97 :: c98 :: c99 :: c100 :: c101 :: c102 :: c103 :: c104 :: c105 :: c106 :: c107 :: c108 :: c109 :: c110 :: c111 :: c112 :: c113 :: c114 :: c115 :: c116 :: c117 :: c118 :: c119 :: c120 :: c121 :: c122 :: c123 :: c124 :: c125 :: c126 :: c127 :: c128 :: c129 :: c130 :: c131 :: []), []⟩ wr := by
  obtain ⟨i9, hi0, hz0, hz1, hz2⟩ := info_parts Tryd.info26
  obtain ⟨y0, y1, f0, f1⟩ := box2 hbx
  have hne : ∀ q, q < B → some q ≠ (Value.slice av m cv).ownBlock := fun q h e => by have := (HO.out.lt _ e.symm).1; omega
  have HNE := Lib.hid hne
  have HBX := Lib.hid hbx
  have hPw : P < wr.heap.size := by omega
  have hCw : C < wr.heap.size := by omega
  have hbw : b < wr.heap.size := by omega
  have i0 : (0 : Int) ≤ (k : Int) := by omega
  have i1 : (k : Int) < (n : Int) := by omega
  have hm63 : m + 1 ≤ maxLen := by unfold maxLen; omega
  clear hne hbx
  have yA := cell_al2 (.cells #[.int .i64 ut, .string uth, .int .i64 um] 26) y0
  refine Code.wp_mono (Q := NQ Q) nq_to ?_
  conv => arg 2; whnf
  refine wp_region_held_drew (S := (fun wx => wx.cell? ⟨P, 0, none⟩ = some (.slice (some ⟨b, o, none⟩) n cq) ∧ wx.cell? ⟨b, o + k * 3, none⟩ = some (.int .i64 ut) ∧ wx.cell? ⟨b, o + k * 3 + 1, none⟩ = some (.string uth) ∧ wx.cell? ⟨b, o + k * 3 + 2, none⟩ = some (.int .i64 um))) (by kernel_rfl) ?_ (fun hHeld => ?_)
  · (try dsimp only)
    (first | (with_reducible exact ⟨cell_dr x0, cell_dr e0, cell_dr e1, cell_dr e2⟩) | (with_reducible exact ⟨cell_dr (cell_al2 _ x0), cell_dr (cell_al2 _ e0), cell_dr (cell_al2 _ e1), cell_dr (cell_al2 _ e2)⟩) | (with_reducible exact ⟨k0, k1, k2, k3⟩) | (with_reducible exact ⟨s0 _, s1 _, s2 _, s3 _⟩))
  refine wpAnyH_take (i := 0) (oi := _) (v := ?_) rfl (by kernel_rfl) (by kernel_rfl) (by kernel_rfl) (fun _ _ _ h => h) (Or.inl ⟨by rfl, ?_⟩) (by assumption) ?_
  rotate_left
  · (intro w hSw; (try dsimp only at hSw); go_simp)
    all_goals (with_reducible rfl)
  (try simp only [List.getElem_toArray, List.getElem_cons_zero, List.getElem_cons_succ, Act.put, List.setIfInBounds_toArray, List.set_cons_zero, List.set_cons_succ])
  refine wpAnyH_take (i := 2) (oi := _) (v := ?_) rfl (by kernel_rfl) (by kernel_rfl) (by kernel_rfl) (fun _ _ _ h => h) (Or.inl ⟨by rfl, ?_⟩) (by assumption) ?_
  rotate_left
  · (intro w hSw; (try dsimp only at hSw); go_simp)
    all_goals (with_reducible rfl)
  (try simp only [List.getElem_toArray, List.getElem_cons_zero, List.getElem_cons_succ, Act.put, List.setIfInBounds_toArray, List.set_cons_zero, List.set_cons_succ])
  refine wpAnyH_take (i := 3) (oi := _) (v := ?_) rfl (by kernel_rfl) (by kernel_rfl) (by kernel_rfl) (fun _ _ _ h => h) (Or.inl ⟨by rfl, ?_⟩) (by assumption) ?_
  rotate_left
  · (intro w hSw; (try dsimp only at hSw); go_simp)
    all_goals (with_reducible rfl)
  (try simp only [List.getElem_toArray, List.getElem_cons_zero, List.getElem_cons_succ, Act.put, List.setIfInBounds_toArray, List.set_cons_zero, List.set_cons_succ])
  refine wpAnyH_take (i := 4) (oi := _) (v := ?_) rfl (by kernel_rfl) (by kernel_rfl) (by kernel_rfl) (fun _ _ _ h => h) (Or.inl ⟨by rfl, ?_⟩) (by assumption) ?_
  rotate_left
  · (intro w hSw; (try dsimp only at hSw); go_simp)
    all_goals (with_reducible rfl)
  (try simp only [List.getElem_toArray, List.getElem_cons_zero, List.getElem_cons_succ, Act.put, List.setIfInBounds_toArray, List.set_cons_zero, List.set_cons_succ])
  refine wpAnyH_take (i := 5) (oi := _) (v := ?_) rfl (by kernel_rfl) (by kernel_rfl) (by kernel_rfl) (fun _ _ _ h => h) (Or.inl ⟨by rfl, ?_⟩) (by assumption) ?_
  rotate_left
  · (intro w hSw; (try dsimp only at hSw); go_simp)
    all_goals (with_reducible rfl)
  (try simp only [List.getElem_toArray, List.getElem_cons_zero, List.getElem_cons_succ, Act.put, List.setIfInBounds_toArray, List.set_cons_zero, List.set_cons_succ])
  refine wpAnyH_take (i := 6) (oi := _) (v := ?_) rfl (by kernel_rfl) (by kernel_rfl) (by kernel_rfl) (fun _ _ _ h => h) (Or.inl ⟨by rfl, ?_⟩) (by assumption) ?_
  rotate_left
  · (intro w hSw; (try dsimp only at hSw); go_simp)
    all_goals (with_reducible rfl)
  (try simp only [List.getElem_toArray, List.getElem_cons_zero, List.getElem_cons_succ, Act.put, List.setIfInBounds_toArray, List.set_cons_zero, List.set_cons_succ])
  refine wpAnyH_ready (rs := [1, 7]) (by kernel_rfl) (by simp) ?_
  refine AllReadyH.cons rfl (fun K hK => ?_) (AllReadyH.cons rfl (fun K hK => ?_) AllReadyH.nil)
  · go_simp
    refine hK.out _ _ ?_ (fun hHeld => ?_)
    · (try dsimp only)
      (first | (with_reducible exact ⟨cell_dr x0, cell_dr e0, cell_dr e1, cell_dr e2⟩) | (with_reducible exact ⟨cell_dr (cell_al2 _ x0), cell_dr (cell_al2 _ e0), cell_dr (cell_al2 _ e1), cell_dr (cell_al2 _ e2)⟩) | (with_reducible exact ⟨k0, k1, k2, k3⟩) | (with_reducible exact ⟨s0 _, s1 _, s2 _, s3 _⟩))
    clear hK K
    (try simp only [List.getElem_toArray, List.getElem_cons_zero, List.getElem_cons_succ, Act.put, List.setIfInBounds_toArray, List.set_cons_zero, List.set_cons_succ])
    refine wpAnyH_ready (rs := [7]) (by kernel_rfl) (by simp) ?_
    refine AllReadyH.cons rfl (fun K hK => ?_) AllReadyH.nil
    go_simp
    refine hK.out _ _ ?_ (fun hHeld => ?_)
    · (try dsimp only)
      (first | (with_reducible exact ⟨cell_dr x0, cell_dr e0, cell_dr e1, cell_dr e2⟩) | (with_reducible exact ⟨cell_dr (cell_al2 _ x0), cell_dr (cell_al2 _ e0), cell_dr (cell_al2 _ e1), cell_dr (cell_al2 _ e2)⟩) | (with_reducible exact ⟨k0, k1, k2, k3⟩) | (with_reducible exact ⟨s0 _, s1 _, s2 _, s3 _⟩))
    clear hK K
    (try simp only [List.getElem_toArray, List.getElem_cons_zero, List.getElem_cons_succ, Act.put, List.setIfInBounds_toArray, List.set_cons_zero, List.set_cons_succ])
    refine wpAnyH_ready (rs := [8]) (by kernel_rfl) (by simp) ?_
    refine AllReadyH.cons rfl (fun K hK => ?_) AllReadyH.nil
    refine step_append_lies _ (by rfl) _ _ _ (by rfl) B 26 i9 _ 3 32 Tryd.underlying22 hi0 hz0 hz1 hz2 rfl (by omega) (.slice av m cv) m L (by rfl) ((HO.out.alloc _).drew) ⟨wr.heap.size, 0, none⟩ 1 1 [.int .i64 ut, .string uth, .int .i64 um] (by rfl) (by rfl) (World.news_of_block (cs := #[.int .i64 ut, .string uth, .int .i64 um]) (t := 26) (fr := (0, 0)) (heap_alloc_new wr _)) (by simp [Value.oneCell']) (by omega) hm63 (by omega) (by simp; omega) (wr.heap.size + 1) (by simp) ?_
    intro gg cap1 w4 hown4 hgrow hat4 hlt4
    have k0 := (hgrow.cell_far ⟨P, 0, none⟩ (by simp; omega) (HNE.out P hPB)).trans (cell_dr (cell_al2 (.cells #[.int .i64 ut, .string uth, .int .i64 um] 26) x0))
    have k1 := (hgrow.cell_far ⟨b, o + k * 3, none⟩ (by simp; omega) (HNE.out b hbB)).trans (cell_dr (cell_al2 (.cells #[.int .i64 ut, .string uth, .int .i64 um] 26) e0))
    have k2 := (hgrow.cell_far ⟨b, o + k * 3 + 1, none⟩ (by simp; omega) (HNE.out b hbB)).trans (cell_dr (cell_al2 (.cells #[.int .i64 ut, .string uth, .int .i64 um] 26) e1))
    have k3 := (hgrow.cell_far ⟨b, o + k * 3 + 2, none⟩ (by simp; omega) (HNE.out b hbB)).trans (cell_dr (cell_al2 (.cells #[.int .i64 ut, .string uth, .int .i64 um] 26) e2))
    have s0 := fun v => (World.cell?_setCell_far w4 ⟨C, 0, none⟩ ⟨P, 0, none⟩ v hPC).trans k0
    have s1 := fun v => (World.cell?_setCell_far w4 ⟨C, 0, none⟩ ⟨b, o + k * 3, none⟩ v hbC).trans k1
    have s2 := fun v => (World.cell?_setCell_far w4 ⟨C, 0, none⟩ ⟨b, o + k * 3 + 1, none⟩ v hbC).trans k2
    have s3 := fun v => (World.cell?_setCell_far w4 ⟨C, 0, none⟩ ⟨b, o + k * 3 + 2, none⟩ v hbC).trans k3
    have hc4 := (hgrow.cell_far ⟨C, 0, none⟩ (by simp; omega) (HNE.out C hCB)).trans (cell_dr (cell_al2 (.cells #[.int .i64 ut, .string uth, .int .i64 um] 26) y0))
    have hf4 := (hgrow.frozen_far ⟨C, 0, none⟩ (by simp; omega) (HNE.out C hCB)).trans (frz_al (.cells #[.int .i64 ut, .string uth, .int .i64 um] 26) y0 f0)
    refine hK.out _ _ ?_ (fun hHeld => ?_)
    · (try dsimp only)
      (first | (with_reducible exact ⟨cell_dr x0, cell_dr e0, cell_dr e1, cell_dr e2⟩) | (with_reducible exact ⟨cell_dr (cell_al2 _ x0), cell_dr (cell_al2 _ e0), cell_dr (cell_al2 _ e1), cell_dr (cell_al2 _ e2)⟩) | (with_reducible exact ⟨k0, k1, k2, k3⟩) | (with_reducible exact ⟨s0 _, s1 _, s2 _, s3 _⟩))
    clear hK K
    (try simp only [List.getElem_toArray, List.getElem_cons_zero, List.getElem_cons_succ, Act.put, List.setIfInBounds_toArray, List.set_cons_zero, List.set_cons_succ])
    refine wpAnyH_take (i := 9) (oi := _) (v := ?_) rfl (by kernel_rfl) (by kernel_rfl) (by kernel_rfl) (fun _ _ _ h => h) (Or.inl ⟨by rfl, ?_⟩) (by assumption) ?_
    rotate_left
    · (intro w hSw; (try dsimp only at hSw); go_simp)
      all_goals (with_reducible rfl)
    (try simp only [List.getElem_toArray, List.getElem_cons_zero, List.getElem_cons_succ, Act.put, List.setIfInBounds_toArray, List.set_cons_zero, List.set_cons_succ])
    refine wpAnyH_ready (rs := [10]) (by kernel_rfl) (by simp) ?_
    refine AllReadyH.cons rfl (fun K hK => ?_) AllReadyH.nil
    go_simp
    refine hK.out _ _ ?_ (fun hHeld => ?_)
    · (try dsimp only)
      (first | (with_reducible exact ⟨cell_dr x0, cell_dr e0, cell_dr e1, cell_dr e2⟩) | (with_reducible exact ⟨cell_dr (cell_al2 _ x0), cell_dr (cell_al2 _ e0), cell_dr (cell_al2 _ e1), cell_dr (cell_al2 _ e2)⟩) | (with_reducible exact ⟨k0, k1, k2, k3⟩) | (with_reducible exact ⟨s0 _, s1 _, s2 _, s3 _⟩))
    clear hK K
    (try simp only [List.getElem_toArray, List.getElem_cons_zero, List.getElem_cons_succ, Act.put, List.setIfInBounds_toArray, List.set_cons_zero, List.set_cons_succ])
    refine wpAnyH_done (by kernel_rfl) ?_ _
    obtain ⟨r1, r2⟩ := lb_end (j := 0) (v := .slice (some ⟨gg, 0, none⟩) (m + 1) cap1) hCB HO.out hCw hown4 hgrow hat4
    refine hout.out _ _ _ _ _ _ _ _ _ _ _ gg cap1 r1 ?_
    rw [Lib.heap_setCell_same (r2.trans HBX.out)]
    rfl
  · go_simp
    refine hK.out _ _ ?_ (fun hHeld => ?_)
    · (try dsimp only)
      (first | (with_reducible exact ⟨cell_dr x0, cell_dr e0, cell_dr e1, cell_dr e2⟩) | (with_reducible exact ⟨cell_dr (cell_al2 _ x0), cell_dr (cell_al2 _ e0), cell_dr (cell_al2 _ e1), cell_dr (cell_al2 _ e2)⟩) | (with_reducible exact ⟨k0, k1, k2, k3⟩) | (with_reducible exact ⟨s0 _, s1 _, s2 _, s3 _⟩))
    clear hK K
    (try simp only [List.getElem_toArray, List.getElem_cons_zero, List.getElem_cons_succ, Act.put, List.setIfInBounds_toArray, List.set_cons_zero, List.set_cons_succ])
    refine wpAnyH_ready (rs := [1]) (by kernel_rfl) (by simp) ?_
    refine AllReadyH.cons rfl (fun K hK => ?_) AllReadyH.nil
    go_simp
    refine hK.out _ _ ?_ (fun hHeld => ?_)
    · (try dsimp only)
      (first | (with_reducible exact ⟨cell_dr x0, cell_dr e0, cell_dr e1, cell_dr e2⟩) | (with_reducible exact ⟨cell_dr (cell_al2 _ x0), cell_dr (cell_al2 _ e0), cell_dr (cell_al2 _ e1), cell_dr (cell_al2 _ e2)⟩) | (with_reducible exact ⟨k0, k1, k2, k3⟩) | (with_reducible exact ⟨s0 _, s1 _, s2 _, s3 _⟩))
    clear hK K
    (try simp only [List.getElem_toArray, List.getElem_cons_zero, List.getElem_cons_succ, Act.put, List.setIfInBounds_toArray, List.set_cons_zero, List.set_cons_succ])
    refine wpAnyH_ready (rs := [8]) (by kernel_rfl) (by simp) ?_
    refine AllReadyH.cons rfl (fun K hK => ?_) AllReadyH.nil
    refine step_append_lies _ (by rfl) _ _ _ (by rfl) B 26 i9 _ 3 32 Tryd.underlying22 hi0 hz0 hz1 hz2 rfl (by omega) (.slice av m cv) m L (by rfl) ((HO.out.alloc _).drew) ⟨wr.heap.size, 0, none⟩ 1 1 [.int .i64 ut, .string uth, .int .i64 um] (by rfl) (by rfl) (World.news_of_block (cs := #[.int .i64 ut, .string uth, .int .i64 um]) (t := 26) (fr := (0, 0)) (heap_alloc_new wr _)) (by simp [Value.oneCell']) (by omega) hm63 (by omega) (by simp; omega) (wr.heap.size + 1) (by simp) ?_
    intro gg cap1 w4 hown4 hgrow hat4 hlt4
    have k0 := (hgrow.cell_far ⟨P, 0, none⟩ (by simp; omega) (HNE.out P hPB)).trans (cell_dr (cell_al2 (.cells #[.int .i64 ut, .string uth, .int .i64 um] 26) x0))
    have k1 := (hgrow.cell_far ⟨b, o + k * 3, none⟩ (by simp; omega) (HNE.out b hbB)).trans (cell_dr (cell_al2 (.cells #[.int .i64 ut, .string uth, .int .i64 um] 26) e0))
    have k2 := (hgrow.cell_far ⟨b, o + k * 3 + 1, none⟩ (by simp; omega) (HNE.out b hbB)).trans (cell_dr (cell_al2 (.cells #[.int .i64 ut, .string uth, .int .i64 um] 26) e1))
    have k3 := (hgrow.cell_far ⟨b, o + k * 3 + 2, none⟩ (by simp; omega) (HNE.out b hbB)).trans (cell_dr (cell_al2 (.cells #[.int .i64 ut, .string uth, .int .i64 um] 26) e2))
    have s0 := fun v => (World.cell?_setCell_far w4 ⟨C, 0, none⟩ ⟨P, 0, none⟩ v hPC).trans k0
    have s1 := fun v => (World.cell?_setCell_far w4 ⟨C, 0, none⟩ ⟨b, o + k * 3, none⟩ v hbC).trans k1
    have s2 := fun v => (World.cell?_setCell_far w4 ⟨C, 0, none⟩ ⟨b, o + k * 3 + 1, none⟩ v hbC).trans k2
    have s3 := fun v => (World.cell?_setCell_far w4 ⟨C, 0, none⟩ ⟨b, o + k * 3 + 2, none⟩ v hbC).trans k3
    have hc4 := (hgrow.cell_far ⟨C, 0, none⟩ (by simp; omega) (HNE.out C hCB)).trans (cell_dr (cell_al2 (.cells #[.int .i64 ut, .string uth, .int .i64 um] 26) y0))
    have hf4 := (hgrow.frozen_far ⟨C, 0, none⟩ (by simp; omega) (HNE.out C hCB)).trans (frz_al (.cells #[.int .i64 ut, .string uth, .int .i64 um] 26) y0 f0)
    refine hK.out _ _ ?_ (fun hHeld => ?_)
    · (try dsimp only)
      (first | (with_reducible exact ⟨cell_dr x0, cell_dr e0, cell_dr e1, cell_dr e2⟩) | (with_reducible exact ⟨cell_dr (cell_al2 _ x0), cell_dr (cell_al2 _ e0), cell_dr (cell_al2 _ e1), cell_dr (cell_al2 _ e2)⟩) | (with_reducible exact ⟨k0, k1, k2, k3⟩) | (with_reducible exact ⟨s0 _, s1 _, s2 _, s3 _⟩))
    clear hK K
    (try simp only [List.getElem_toArray, List.getElem_cons_zero, List.getElem_cons_succ, Act.put, List.setIfInBounds_toArray, List.set_cons_zero, List.set_cons_succ])
    refine wpAnyH_take (i := 9) (oi := _) (v := ?_) rfl (by kernel_rfl) (by kernel_rfl) (by kernel_rfl) (fun _ _ _ h => h) (Or.inl ⟨by rfl, ?_⟩) (by assumption) ?_
    rotate_left
    · (intro w hSw; (try dsimp only at hSw); go_simp)
      all_goals (with_reducible rfl)
    (try simp only [List.getElem_toArray, List.getElem_cons_zero, List.getElem_cons_succ, Act.put, List.setIfInBounds_toArray, List.set_cons_zero, List.set_cons_succ])
    refine wpAnyH_ready (rs := [10]) (by kernel_rfl) (by simp) ?_
    refine AllReadyH.cons rfl (fun K hK => ?_) AllReadyH.nil
    go_simp
    refine hK.out _ _ ?_ (fun hHeld => ?_)
    · (try dsimp only)
      (first | (with_reducible exact ⟨cell_dr x0, cell_dr e0, cell_dr e1, cell_dr e2⟩) | (with_reducible exact ⟨cell_dr (cell_al2 _ x0), cell_dr (cell_al2 _ e0), cell_dr (cell_al2 _ e1), cell_dr (cell_al2 _ e2)⟩) | (with_reducible exact ⟨k0, k1, k2, k3⟩) | (with_reducible exact ⟨s0 _, s1 _, s2 _, s3 _⟩))
    clear hK K
    (try simp only [List.getElem_toArray, List.getElem_cons_zero, List.getElem_cons_succ, Act.put, List.setIfInBounds_toArray, List.set_cons_zero, List.set_cons_succ])
    refine wpAnyH_done (by kernel_rfl) ?_ _
    obtain ⟨r1, r2⟩ := lb_end (j := 0) (v := .slice (some ⟨gg, 0, none⟩) (m + 1) cap1) hCB HO.out hCw hown4 hgrow hat4
    refine hout.out _ _ _ _ _ _ _ _ _ _ _ gg cap1 r1 ?_
    rw [Lib.heap_setCell_same (r2.trans HBX.out)]
    rfl
theorem lb16 (Q : Exit → Act → World → Prop) (c0 c1 c3 c4 c5 c6 c7 c9 c11 c12 c13 c14 c15 c16 c17 c18 c19 c20 c21 c22 c23 c24 c25 c26 c27 c28 c29 c30 c31 c32 c33 c34 c35 c36 c37 c38 c39 c40 c41 c42 c43 c44 c45 c46 c47 c48 c49 c50 c51 c52 c53 c54 c55 c56 c57 c58 c59 c60 c61 c62 c63 c64 c65 c66 c67 c68 c69 c70 c71 c72 c73 c74 c75 c76 c77 c78 c79 c80 c81 c82 c83 c84 c85 c86 c87 c88 c89 c90 c91 c92 c93 c94 c95 c96 c97 c98 c99 c100 c101 c102 c103 c104 c105 c106 c107 c108 c109 c110 c111 c112 c113 c114 c115 c116 c117 c118 c119 c120 c121 c122 c123 c124 c125 c126 c127 c128 c129 c130 c131 : Value) (wr : World) (P C B b o k n cq m cv : Nat) (av : Option Addr) (z : Value) (ut um : Int) (uth : ByteArray) (L : List Value)
    (x0 : wr.cell? ⟨P, 1, none⟩ = some (.slice (some ⟨b, o, none⟩) n cq)) (e0 : wr.cell? ⟨b, o + k * 3, none⟩ = some (.int .i64 ut)) (e1 : wr.cell? ⟨b, o + k * 3 + 1, none⟩ = some (.string uth)) (e2 : wr.cell? ⟨b, o + k * 3 + 2, none⟩ = some (.int .i64 um))
    (hbx : wr.heap[C]? = some (.cells #[z, .slice av m cv] 24 (0, 0))) (HO : Hid (wr.ownsRow B 26 3 (.slice av m cv) m L)) (hCB : C < B) (hPC : C ≠ P) (hbC : C ≠ b) (hPB : P < B) (hbB : b < B) (hB : B ≤ wr.heap.size) (hkn : k < n) (hn : n ≤ 1000) (hm : m ≤ 1000)
    (hout : Hid (∀ (u70 u71 u72 u73 u74 u75 u76 u77 u78 u79 : Value) (w5 : World) (gg cap1 : Nat), LbR wr w5 C B m gg cap1 (Value.slice av m cv).ownBlock (L ++ [.int .i64 ut, .string uth, .int .i64 um]) → w5.heap[C]? = some (.cells #[z, .slice (some ⟨gg, 0, none⟩) (m + 1) cap1] 24 (0, 0)) → Q .normal ⟨List.toArray (c0 :: c1 :: (.pointer (some ⟨P, 0, none⟩)) :: c3 :: c4 :: c5 :: c6 :: c7 :: (.pointer (some ⟨C, 0, none⟩)) :: c9 :: (.int .i64 (k : Int)) :: c11 :: c12 :: c13 :: c14 :: c15 :: c16 :: c17 :: c18 :: c19 :: c20 :: c21 :: c22 :: c23 :: c24 :: c25 :: c26 :: c27 :: c28 :: c29 :: c30 :: c31 :: c32 :: c33 :: c34 :: c35 :: c36 :: c37 :: c38 :: c39 :: c40 :: c41 :: c42 :: c43 :: c44 :: c45 :: c46 :: c47 :: c48 :: c49 :: c50 :: c51 :: c52 :: c53 :: c54 :: c55 :: c56 :: c57 :: c58 :: c59 :: c60 :: c61 :: c62 :: c63 :: c64 :: c65 :: c66 :: c67 :: c68 :: c69 :: u70 :: u71 :: u72 :: u73 :: u74 :: u75 :: u76 :: u77 :: u78 :: u79 :: c80 :: c81 :: c82 :: c83 :: c84 :: c85 :: c86 :: c87 :: c88 :: c89 :: c90 :: c91 :: c92 :: c93 :: c94 :: c95 :: c96 :: c97 :: c98 :: c99 :: c100 :: c101 :: c102 :: c103 :: c104 :: c105 :: c106 :: c107 :: c108 :: c109 :: c110 :: c111 :: c112 :: c113 :: c114 :: c115 :: c116 :: c117 :: c118 :: c119 :: c120 :: c121 :: c122 :: c123 :: c124 :: c125 :: c126 :: c127 :: c128 :: c129 :: c130 :: c131 :: []), []⟩ w5)) :
    Code.wp Tryd.prog ((regionOf 16 (Tryd.f14.body.getD .skip)).getD .skip) Q ⟨List.toArray (c0 :: c1 :: (.pointer (some ⟨P, 0, none⟩)) :: c3 :: c4 :: c5 :: c6 :: c7 :: (.pointer (some ⟨C, 0, none⟩)) :: c9 :: (.int .i64 (k : Int)) :: c11 :: c12 :: c13 :: c14 :: c15 :: c16 :: c17 :: c18 :: c19 :: c20 :: c21 :: c22 :: c23 :: c24 :: c25 :: c26 :: c27 :: c28 :: c29 :: c30 :: c31 :: c32 :: c33 :: c34 :: c35 :: c36 :: c37 :: c38 :: c39 :: c40 :: c41 :: c42 :: c43 :: c44 :: c45 :: c46 :: c47 :: c48 :: c49 :: c50 :: c51 :: c52 :: c53 :: c54 :: c55 :: c56 :: c57 :: c58 :: c59 :: c60 :: c61 :: c62 :: c63 :: c64 :: c65 :: c66 :: c67 :: c68 :: c69 :: c70 :: c71 :: c72 :: c73 :: c74 :: c75 :: c76 :: c77 :: c78 :: c79 :: c80 :: c81 :: c82 :: c83 :: c84 :: c85 :: c86 :: c87 :: c88 :: c89 :: c90 :: c91 :: c92 :: c93 :: c94 :: c95 :: c96 :: c97 :: c98 :: c99 :: c100 :: c101 :: c102 :: c103 :: c104 :: c105 :: c106 :: c107 :: c108 :: c109 :: c110 :: c111 :: c112 :: c113 :: c114 :: c115 :: c116 :: c117 :: c118 :: c119 :: c120 :: c121 :: c122 :: c123 :: c124 :: c125 :: c126 :: c127 :: c128 :: c129 :: c130 :: c131 :: []), []⟩ wr := by
  obtain ⟨i9, hi0, hz0, hz1, hz2⟩ := info_parts Tryd.info26
  obtain ⟨y0, y1, f0, f1⟩ := box2 hbx
  have hne : ∀ q, q < B → some q ≠ (Value.slice av m cv).ownBlock := fun q h e => by have := (HO.out.lt _ e.symm).1; omega
  have HNE := Lib.hid hne
  have HBX := Lib.hid hbx
  have hPw : P < wr.heap.size := by omega
  have hCw : C < wr.heap.size := by omega
  have hbw : b < wr.heap.size := by omega
  have i0 : (0 : Int) ≤ (k : Int) := by omega
  have i1 : (k : Int) < (n : Int) := by omega
  have hm63 : m + 1 ≤ maxLen := by unfold maxLen; omega
  clear hne hbx
  have yA := cell_al2 (.cells #[.int .i64 ut, .string uth, .int .i64 um] 26) y1
  refine Code.wp_mono (Q := NQ Q) nq_to ?_
  conv => arg 2; whnf
  refine wp_region_held_drew (S := (fun wx => wx.cell? ⟨P, 1, none⟩ = some (.slice (some ⟨b, o, none⟩) n cq) ∧ wx.cell? ⟨b, o + k * 3, none⟩ = some (.int .i64 ut) ∧ wx.cell? ⟨b, o + k * 3 + 1, none⟩ = some (.string uth) ∧ wx.cell? ⟨b, o + k * 3 + 2, none⟩ = some (.int .i64 um))) (by kernel_rfl) ?_ (fun hHeld => ?_)
  · (try dsimp only)
    (first | (with_reducible exact ⟨cell_dr x0, cell_dr e0, cell_dr e1, cell_dr e2⟩) | (with_reducible exact ⟨cell_dr (cell_al2 _ x0), cell_dr (cell_al2 _ e0), cell_dr (cell_al2 _ e1), cell_dr (cell_al2 _ e2)⟩) | (with_reducible exact ⟨k0, k1, k2, k3⟩) | (with_reducible exact ⟨s0 _, s1 _, s2 _, s3 _⟩))
  refine wpAnyH_take (i := 0) (oi := _) (v := ?_) rfl (by kernel_rfl) (by kernel_rfl) (by kernel_rfl) (fun _ _ _ h => h) (Or.inl ⟨by rfl, ?_⟩) (by assumption) ?_
  rotate_left
  · (intro w hSw; (try dsimp only at hSw); go_simp)
    all_goals (with_reducible rfl)
  (try simp only [List.getElem_toArray, List.getElem_cons_zero, List.getElem_cons_succ, Act.put, List.setIfInBounds_toArray, List.set_cons_zero, List.set_cons_succ])
  refine wpAnyH_take (i := 2) (oi := _) (v := ?_) rfl (by kernel_rfl) (by kernel_rfl) (by kernel_rfl) (fun _ _ _ h => h) (Or.inl ⟨by rfl, ?_⟩) (by assumption) ?_
  rotate_left
  · (intro w hSw; (try dsimp only at hSw); go_simp)
    all_goals (with_reducible rfl)
  (try simp only [List.getElem_toArray, List.getElem_cons_zero, List.getElem_cons_succ, Act.put, List.setIfInBounds_toArray, List.set_cons_zero, List.set_cons_succ])
  refine wpAnyH_take (i := 3) (oi := _) (v := ?_) rfl (by kernel_rfl) (by kernel_rfl) (by kernel_rfl) (fun _ _ _ h => h) (Or.inl ⟨by rfl, ?_⟩) (by assumption) ?_
  rotate_left
  · (intro w hSw; (try dsimp only at hSw); go_simp)
    all_goals (with_reducible rfl)
  (try simp only [List.getElem_toArray, List.getElem_cons_zero, List.getElem_cons_succ, Act.put, List.setIfInBounds_toArray, List.set_cons_zero, List.set_cons_succ])
  refine wpAnyH_take (i := 4) (oi := _) (v := ?_) rfl (by kernel_rfl) (by kernel_rfl) (by kernel_rfl) (fun _ _ _ h => h) (Or.inl ⟨by rfl, ?_⟩) (by assumption) ?_
  rotate_left
  · (intro w hSw; (try dsimp only at hSw); go_simp)
    all_goals (with_reducible rfl)
  (try simp only [List.getElem_toArray, List.getElem_cons_zero, List.getElem_cons_succ, Act.put, List.setIfInBounds_toArray, List.set_cons_zero, List.set_cons_succ])
  refine wpAnyH_take (i := 5) (oi := _) (v := ?_) rfl (by kernel_rfl) (by kernel_rfl) (by kernel_rfl) (fun _ _ _ h => h) (Or.inl ⟨by rfl, ?_⟩) (by assumption) ?_
  rotate_left
  · (intro w hSw; (try dsimp only at hSw); go_simp)
    all_goals (with_reducible rfl)
  (try simp only [List.getElem_toArray, List.getElem_cons_zero, List.getElem_cons_succ, Act.put, List.setIfInBounds_toArray, List.set_cons_zero, List.set_cons_succ])
  refine wpAnyH_take (i := 6) (oi := _) (v := ?_) rfl (by kernel_rfl) (by kernel_rfl) (by kernel_rfl) (fun _ _ _ h => h) (Or.inl ⟨by rfl, ?_⟩) (by assumption) ?_
  rotate_left
  · (intro w hSw; (try dsimp only at hSw); go_simp)
    all_goals (with_reducible rfl)
  (try simp only [List.getElem_toArray, List.getElem_cons_zero, List.getElem_cons_succ, Act.put, List.setIfInBounds_toArray, List.set_cons_zero, List.set_cons_succ])
  refine wpAnyH_ready (rs := [1, 7]) (by kernel_rfl) (by simp) ?_
  refine AllReadyH.cons rfl (fun K hK => ?_) (AllReadyH.cons rfl (fun K hK => ?_) AllReadyH.nil)
  · go_simp
    refine hK.out _ _ ?_ (fun hHeld => ?_)
    · (try dsimp only)
      (first | (with_reducible exact ⟨cell_dr x0, cell_dr e0, cell_dr e1, cell_dr e2⟩) | (with_reducible exact ⟨cell_dr (cell_al2 _ x0), cell_dr (cell_al2 _ e0), cell_dr (cell_al2 _ e1), cell_dr (cell_al2 _ e2)⟩) | (with_reducible exact ⟨k0, k1, k2, k3⟩) | (with_reducible exact ⟨s0 _, s1 _, s2 _, s3 _⟩))
    clear hK K
    (try simp only [List.getElem_toArray, List.getElem_cons_zero, List.getElem_cons_succ, Act.put, List.setIfInBounds_toArray, List.set_cons_zero, List.set_cons_succ])
    refine wpAnyH_ready (rs := [7]) (by kernel_rfl) (by simp) ?_
    refine AllReadyH.cons rfl (fun K hK => ?_) AllReadyH.nil
    go_simp
    refine hK.out _ _ ?_ (fun hHeld => ?_)
    · (try dsimp only)
      (first | (with_reducible exact ⟨cell_dr x0, cell_dr e0, cell_dr e1, cell_dr e2⟩) | (with_reducible exact ⟨cell_dr (cell_al2 _ x0), cell_dr (cell_al2 _ e0), cell_dr (cell_al2 _ e1), cell_dr (cell_al2 _ e2)⟩) | (with_reducible exact ⟨k0, k1, k2, k3⟩) | (with_reducible exact ⟨s0 _, s1 _, s2 _, s3 _⟩))
    clear hK K
    (try simp only [List.getElem_toArray, List.getElem_cons_zero, List.getElem_cons_succ, Act.put, List.setIfInBounds_toArray, List.set_cons_zero, List.set_cons_succ])
    refine wpAnyH_ready (rs := [8]) (by kernel_rfl) (by simp) ?_
    refine AllReadyH.cons rfl (fun K hK => ?_) AllReadyH.nil
    refine step_append_lies _ (by rfl) _ _ _ (by rfl) B 26 i9 _ 3 32 Tryd.underlying22 hi0 hz0 hz1 hz2 rfl (by omega) (.slice av m cv) m L (by rfl) ((HO.out.alloc _).drew) ⟨wr.heap.size, 0, none⟩ 1 1 [.int .i64 ut, .string uth, .int .i64 um] (by rfl) (by rfl) (World.news_of_block (cs := #[.int .i64 ut, .string uth, .int .i64 um]) (t := 26) (fr := (0, 0)) (heap_alloc_new wr _)) (by simp [Value.oneCell']) (by omega) hm63 (by omega) (by simp; omega) (wr.heap.size + 1) (by simp) ?_
    intro gg cap1 w4 hown4 hgrow hat4 hlt4
    have k0 := (hgrow.cell_far ⟨P, 1, none⟩ (by simp; omega) (HNE.out P hPB)).trans (cell_dr (cell_al2 (.cells #[.int .i64 ut, .string uth, .int .i64 um] 26) x0))
    have k1 := (hgrow.cell_far ⟨b, o + k * 3, none⟩ (by simp; omega) (HNE.out b hbB)).trans (cell_dr (cell_al2 (.cells #[.int .i64 ut, .string uth, .int .i64 um] 26) e0))
    have k2 := (hgrow.cell_far ⟨b, o + k * 3 + 1, none⟩ (by simp; omega) (HNE.out b hbB)).trans (cell_dr (cell_al2 (.cells #[.int .i64 ut, .string uth, .int .i64 um] 26) e1))
    have k3 := (hgrow.cell_far ⟨b, o + k * 3 + 2, none⟩ (by simp; omega) (HNE.out b hbB)).trans (cell_dr (cell_al2 (.cells #[.int .i64 ut, .string uth, .int .i64 um] 26) e2))
    have s0 := fun v => (World.cell?_setCell_far w4 ⟨C, 1, none⟩ ⟨P, 1, none⟩ v hPC).trans k0
    have s1 := fun v => (World.cell?_setCell_far w4 ⟨C, 1, none⟩ ⟨b, o + k * 3, none⟩ v hbC).trans k1
    have s2 := fun v => (World.cell?_setCell_far w4 ⟨C, 1, none⟩ ⟨b, o + k * 3 + 1, none⟩ v hbC).trans k2
    have s3 := fun v => (World.cell?_setCell_far w4 ⟨C, 1, none⟩ ⟨b, o + k * 3 + 2, none⟩ v hbC).trans k3
    have hc4 := (hgrow.cell_far ⟨C, 1, none⟩ (by simp; omega) (HNE.out C hCB)).trans (cell_dr (cell_al2 (.cells #[.int .i64 ut, .string uth, .int .i64 um] 26) y1))
    have hf4 := (hgrow.frozen_far ⟨C, 1, none⟩ (by simp; omega) (HNE.out C hCB)).trans (frz_al (.cells #[.int .i64 ut, .string uth, .int .i64 um] 26) y1 f1)
    refine hK.out _ _ ?_ (fun hHeld => ?_)
    · (try dsimp only)
      (first | (with_reducible exact ⟨cell_dr x0, cell_dr e0, cell_dr e1, cell_dr e2⟩) | (with_reducible exact ⟨cell_dr (cell_al2 _ x0), cell_dr (cell_al2 _ e0), cell_dr (cell_al2 _ e1), cell_dr (cell_al2 _ e2)⟩) | (with_reducible exact ⟨k0, k1, k2, k3⟩) | (with_reducible exact ⟨s0 _, s1 _, s2 _, s3 _⟩))
    clear hK K
    (try simp only [List.getElem_toArray, List.getElem_cons_zero, List.getElem_cons_succ, Act.put, List.setIfInBounds_toArray, List.set_cons_zero, List.set_cons_succ])
    refine wpAnyH_take (i := 9) (oi := _) (v := ?_) rfl (by kernel_rfl) (by kernel_rfl) (by kernel_rfl) (fun _ _ _ h => h) (Or.inl ⟨by rfl, ?_⟩) (by assumption) ?_
    rotate_left
    · (intro w hSw; (try dsimp only at hSw); go_simp)
      all_goals (with_reducible rfl)
    (try simp only [List.getElem_toArray, List.getElem_cons_zero, List.getElem_cons_succ, Act.put, List.setIfInBounds_toArray, List.set_cons_zero, List.set_cons_succ])
    refine wpAnyH_ready (rs := [10]) (by kernel_rfl) (by simp) ?_
    refine AllReadyH.cons rfl (fun K hK => ?_) AllReadyH.nil
    go_simp
    refine hK.out _ _ ?_ (fun hHeld => ?_)
    · (try dsimp only)
      (first | (with_reducible exact ⟨cell_dr x0, cell_dr e0, cell_dr e1, cell_dr e2⟩) | (with_reducible exact ⟨cell_dr (cell_al2 _ x0), cell_dr (cell_al2 _ e0), cell_dr (cell_al2 _ e1), cell_dr (cell_al2 _ e2)⟩) | (with_reducible exact ⟨k0, k1, k2, k3⟩) | (with_reducible exact ⟨s0 _, s1 _, s2 _, s3 _⟩))
    clear hK K
    (try simp only [List.getElem_toArray, List.getElem_cons_zero, List.getElem_cons_succ, Act.put, List.setIfInBounds_toArray, List.set_cons_zero, List.set_cons_succ])
    refine wpAnyH_done (by kernel_rfl) ?_ _
    obtain ⟨r1, r2⟩ := lb_end (j := 1) (v := .slice (some ⟨gg, 0, none⟩) (m + 1) cap1) hCB HO.out hCw hown4 hgrow hat4
    refine hout.out _ _ _ _ _ _ _ _ _ _ _ gg cap1 r1 ?_
    rw [Lib.heap_setCell_same (r2.trans HBX.out)]
    rfl
  · go_simp
    refine hK.out _ _ ?_ (fun hHeld => ?_)
    · (try dsimp only)
      (first | (with_reducible exact ⟨cell_dr x0, cell_dr e0, cell_dr e1, cell_dr e2⟩) | (with_reducible exact ⟨cell_dr (cell_al2 _ x0), cell_dr (cell_al2 _ e0), cell_dr (cell_al2 _ e1), cell_dr (cell_al2 _ e2)⟩) | (with_reducible exact ⟨k0, k1, k2, k3⟩) | (with_reducible exact ⟨s0 _, s1 _, s2 _, s3 _⟩))
    clear hK K
    (try simp only [List.getElem_toArray, List.getElem_cons_zero, List.getElem_cons_succ, Act.put, List.setIfInBounds_toArray, List.set_cons_zero, List.set_cons_succ])
    refine wpAnyH_ready (rs := [1]) (by kernel_rfl) (by simp) ?_
    refine AllReadyH.cons rfl (fun K hK => ?_) AllReadyH.nil
    go_simp
    refine hK.out _ _ ?_ (fun hHeld => ?_)
    · (try dsimp only)
      (first | (with_reducible exact ⟨cell_dr x0, cell_dr e0, cell_dr e1, cell_dr e2⟩) | (with_reducible exact ⟨cell_dr (cell_al2 _ x0), cell_dr (cell_al2 _ e0), cell_dr (cell_al2 _ e1), cell_dr (cell_al2 _ e2)⟩) | (with_reducible exact ⟨k0, k1, k2, k3⟩) | (with_reducible exact ⟨s0 _, s1 _, s2 _, s3 _⟩))
    clear hK K
    (try simp only [List.getElem_toArray, List.getElem_cons_zero, List.getElem_cons_succ, Act.put, List.setIfInBounds_toArray, List.set_cons_zero, List.set_cons_succ])
    refine wpAnyH_ready (rs := [8]) (by kernel_rfl) (by simp) ?_
    refine AllReadyH.cons rfl (fun K hK => ?_) AllReadyH.nil
    refine step_append_lies _ (by rfl) _ _ _ (by rfl) B 26 i9 _ 3 32 Tryd.underlying22 hi0 hz0 hz1 hz2 rfl (by omega) (.slice av m cv) m L (by rfl) ((HO.out.alloc _).drew) ⟨wr.heap.size, 0, none⟩ 1 1 [.int .i64 ut, .string uth, .int .i64 um] (by rfl) (by rfl) (World.news_of_block (cs := #[.int .i64 ut, .string uth, .int .i64 um]) (t := 26) (fr := (0, 0)) (heap_alloc_new wr _)) (by simp [Value.oneCell']) (by omega) hm63 (by omega) (by simp; omega) (wr.heap.size + 1) (by simp) ?_
    intro gg cap1 w4 hown4 hgrow hat4 hlt4
    have k0 := (hgrow.cell_far ⟨P, 1, none⟩ (by simp; omega) (HNE.out P hPB)).trans (cell_dr (cell_al2 (.cells #[.int .i64 ut, .string uth, .int .i64 um] 26) x0))
    have k1 := (hgrow.cell_far ⟨b, o + k * 3, none⟩ (by simp; omega) (HNE.out b hbB)).trans (cell_dr (cell_al2 (.cells #[.int .i64 ut, .string uth, .int .i64 um] 26) e0))
    have k2 := (hgrow.cell_far ⟨b, o + k * 3 + 1, none⟩ (by simp; omega) (HNE.out b hbB)).trans (cell_dr (cell_al2 (.cells #[.int .i64 ut, .string uth, .int .i64 um] 26) e1))
    have k3 := (hgrow.cell_far ⟨b, o + k * 3 + 2, none⟩ (by simp; omega) (HNE.out b hbB)).trans (cell_dr (cell_al2 (.cells #[.int .i64 ut, .string uth, .int .i64 um] 26) e2))
    have s0 := fun v => (World.cell?_setCell_far w4 ⟨C, 1, none⟩ ⟨P, 1, none⟩ v hPC).trans k0
    have s1 := fun v => (World.cell?_setCell_far w4 ⟨C, 1, none⟩ ⟨b, o + k * 3, none⟩ v hbC).trans k1
    have s2 := fun v => (World.cell?_setCell_far w4 ⟨C, 1, none⟩ ⟨b, o + k * 3 + 1, none⟩ v hbC).trans k2
    have s3 := fun v => (World.cell?_setCell_far w4 ⟨C, 1, none⟩ ⟨b, o + k * 3 + 2, none⟩ v hbC).trans k3
    have hc4 := (hgrow.cell_far ⟨C, 1, none⟩ (by simp; omega) (HNE.out C hCB)).trans (cell_dr (cell_al2 (.cells #[.int .i64 ut, .string uth, .int .i64 um] 26) y1))
    have hf4 := (hgrow.frozen_far ⟨C, 1, none⟩ (by simp; omega) (HNE.out C hCB)).trans (frz_al (.cells #[.int .i64 ut, .string uth, .int .i64 um] 26) y1 f1)
    refine hK.out _ _ ?_ (fun hHeld => ?_)
    · (try dsimp only)
      (first | (with_reducible exact ⟨cell_dr x0, cell_dr e0, cell_dr e1, cell_dr e2⟩) | (with_reducible exact ⟨cell_dr (cell_al2 _ x0), cell_dr (cell_al2 _ e0), cell_dr (cell_al2 _ e1), cell_dr (cell_al2 _ e2)⟩) | (with_reducible exact ⟨k0, k1, k2, k3⟩) | (with_reducible exact ⟨s0 _, s1 _, s2 _, s3 _⟩))
    clear hK K
    (try simp only [List.getElem_toArray, List.getElem_cons_zero, List.getElem_cons_succ, Act.put, List.setIfInBounds_toArray, List.set_cons_zero, List.set_cons_succ])
    refine wpAnyH_take (i := 9) (oi := _) (v := ?_) rfl (by kernel_rfl) (by kernel_rfl) (by kernel_rfl) (fun _ _ _ h => h) (Or.inl ⟨by rfl, ?_⟩) (by assumption) ?_
    rotate_left
    · (intro w hSw; (try dsimp only at hSw); go_simp)
      all_goals (with_reducible rfl)
    (try simp only [List.getElem_toArray, List.getElem_cons_zero, List.getElem_cons_succ, Act.put, List.setIfInBounds_toArray, List.set_cons_zero, List.set_cons_succ])
    refine wpAnyH_ready (rs := [10]) (by kernel_rfl) (by simp) ?_
    refine AllReadyH.cons rfl (fun K hK => ?_) AllReadyH.nil
    go_simp
    refine hK.out _ _ ?_ (fun hHeld => ?_)
    · (try dsimp only)
      (first | (with_reducible exact ⟨cell_dr x0, cell_dr e0, cell_dr e1, cell_dr e2⟩) | (with_reducible exact ⟨cell_dr (cell_al2 _ x0), cell_dr (cell_al2 _ e0), cell_dr (cell_al2 _ e1), cell_dr (cell_al2 _ e2)⟩) | (with_reducible exact ⟨k0, k1, k2, k3⟩) | (with_reducible exact ⟨s0 _, s1 _, s2 _, s3 _⟩))
    clear hK K
    (try simp only [List.getElem_toArray, List.getElem_cons_zero, List.getElem_cons_succ, Act.put, List.setIfInBounds_toArray, List.set_cons_zero, List.set_cons_succ])
    refine wpAnyH_done (by kernel_rfl) ?_ _
    obtain ⟨r1, r2⟩ := lb_end (j := 1) (v := .slice (some ⟨gg, 0, none⟩) (m + 1) cap1) hCB HO.out hCw hown4 hgrow hat4
    refine hout.out _ _ _ _ _ _ _ _ _ _ _ gg cap1 r1 ?_
    rw [Lib.heap_setCell_same (r2.trans HBX.out)]
    rfl
end Go.Proofs.YtpddlckkncmlmaaDoor

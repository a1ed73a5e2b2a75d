import Derived.Test.YtdeollmeljaaoaaDoorByk
import Derived.Deep.DeepCutAuto
set_option linter.unusedVariables false
set_option linter.unusedSimpArgs false
set_option maxHeartbeats 8000000
set_option maxRecDepth 100000
open Go.ChangeAt Go.ChangeShapes Go.Joins Go.RowKit Go.WideShapes
open Go.Lib (hid)
namespace Go.Proofs.YtdeollmeljaaoaaDoor.rd
open Go.Proofs.YtdeollmeljaaoaaDoor.cs
def Pw (f : Ph) (P : Nat) (w0 wx : World) : Prop := wx.heap[P]? = some (.cells (phC f) 27 (0, 0)) ∧ Below w0.heap.size w0 wx
theorem Pw.go {f : Ph} {P : Nat} {w0 w w' : World} (h : Pw f P w0 w) (hb : Below w.heap.size w w') : Pw f P w0 w' := ⟨(hb.block _ (blk_lt h.1)).trans h.1, h.2.trans (hb.mono h.2.size)⟩
theorem blk_lt2 {w : World} {b : Nat} {o : Obj} (h : w.heap[b]? = some o) : b < w.heap.size := by
 rcases Nat.lt_or_ge b w.heap.size with g | g
 ·exact g
 ·rw [Array.getElem?_eq_none g] at h; cases h
theorem bk {w w' : World} {b : Nat} {o : Obj} (h : Hid (Below w.heap.size w w')) (g : Hid (w.heap[b]? = some o)) : Hid (w'.heap[b]? = some o) := (h.out.block _ (blk_lt2 g.out)).trans g.out
theorem fin1 {f : Ph} {P S : Nat} {w0 w w' : World} {o : Obj} (HPW : Hid (Pw f P w0 w0)) (HSZ : Hid (w0.heap.size ≤ S)) (h : Pw f P w0 w) (g : Below S w w' ∧ w'.heap[S]? = some o ∧ ∀ k, k ≠ S → w'.heap[k]? = w.heap[k]?) : Hid (w'.heap[S]? = some o ∧ Pw f P w0 w' ∧ w0.heap.size ≤ S) :=
 ⟨g.2.1, ⟨(g.2.2 P (by have := blk_lt HPW.out.1; have := HSZ.out; omega)).trans h.1, h.2.trans (g.1.mono HSZ.out)⟩, HSZ.out⟩
def tbN (j : Nat) : ByteArray := if j = 0 then ⟨#[116]⟩ else ⟨#[117]⟩
theorem box2j {w : World} {B j : Nat} {T : TypeId} (h : w.heap[B]? = some (.cells #[.string ⟨#[116]⟩, .string ⟨#[117]⟩] T (0, 0))) (hj : j < 2) : w.cell? ⟨B, j, none⟩ = some (.string (tbN j)) := by
 match j, hj with
 | 0, _ => simp only [World.cell?]; rw [h]; rfl
 | 1, _ => simp only [World.cell?]; rw [h]; rfl
theorem sreg1 (Q : Exit → Act → World → Prop) {c0 c2 c15 c16 c17 c18 c19 c20 c21 c22 c23 c24 c25 c26 c27 c28 c29 c30 c31 c32 c33 c34 c35 c36 c37 c38 c39 c40 c41 c42 c43 c44 c45 c46 c47 c48 c49 c50 c51 c52 c53 c54 c55 c56 c57 c58 c59 c60 c61 c62 c63 c64 c65 c66 c67 c68 c69 c70 c71 c72 c73 c74 c75 c76 c77 c78 c79 c80 c81 c82 c83 c84 c85 c86 c87 c88 c89 c90 c91 c92 c93 c94 c95 c96 c97 c98 c99 c100 c101 c102 c103 c104 c105 c106 c107 c108 c109 c110 c3 c4 c5 c6 c7 c8 c9 c10 c11 c12 c13 c14 : Value} (f : Ph) (P j : Nat) (k : Int) (w0 : World) (HPW : Hid (Pw f P w0 w0)) (HK : Hid ((0 ≤ k ∧ k < 6) ∧ j < 2))
  (HP1 : Hid (∀ W, Calls Tryd.prog 14 #[.int .i64 f.kd, .int .i64 6] W fun e w' => e = .returned (.int .i64 k) ∧ W = w')) (HP2 : Hid (∀ W, Calls Tryd.prog 14 #[.int .i64 f.tb, .int .i64 2] W fun e w' => e = .returned (.int .i64 (j : Int)) ∧ W = w'))
  (hout : Hid (∀ (u4 u5 u6 u7 u8 u9 u10 u11 u12 u13 u14 : Value) (S : Nat) (w' : World), Pw f P w0 w' → w'.heap[S]? = some (.cells (stC (sqB (1 + k) (tbN j)) ps0) 33 (0, 0)) → w0.heap.size ≤ S → Q .normal ⟨List.toArray (c0 :: (.pointer (some ⟨P, 0, none⟩)) :: c2 :: (.pointer (some ⟨S, 0, none⟩)) :: u4 :: u5 :: u6 :: u7 :: u8 :: u9 :: u10 :: u11 :: u12 :: u13 :: u14 :: c15 :: c16 :: c17 :: c18 :: c19 :: c20 :: c21 :: c22 :: c23 :: c24 :: c25 :: c26 :: c27 :: c28 :: c29 :: c30 :: c31 :: c32 :: c33 :: c34 :: c35 :: c36 :: c37 :: c38 :: c39 :: c40 :: c41 :: c42 :: c43 :: c44 :: c45 :: c46 :: c47 :: c48 :: c49 :: c50 :: c51 :: c52 :: c53 :: c54 :: c55 :: c56 :: c57 :: c58 :: c59 :: c60 :: c61 :: c62 :: c63 :: c64 :: c65 :: c66 :: c67 :: c68 :: c69 :: c70 :: c71 :: c72 :: c73 :: c74 :: c75 :: c76 :: c77 :: c78 :: c79 :: c80 :: c81 :: c82 :: c83 :: c84 :: c85 :: c86 :: c87 :: c88 :: c89 :: c90 :: c91 :: c92 :: c93 :: c94 :: c95 :: c96 :: c97 :: c98 :: c99 :: c100 :: c101 :: c102 :: c103 :: c104 :: c105 :: c106 :: c107 :: c108 :: c109 :: c110 :: []), []⟩ w')) :
  Code.wp Tryd.prog ((regionOf 1 (Tryd.f9.body.getD .skip)).getD .skip) Q ⟨List.toArray (c0 :: (.pointer (some ⟨P, 0, none⟩)) :: c2 :: c3 :: c4 :: c5 :: c6 :: c7 :: c8 :: c9 :: c10 :: c11 :: c12 :: c13 :: c14 :: c15 :: c16 :: c17 :: c18 :: c19 :: c20 :: c21 :: c22 :: c23 :: c24 :: c25 :: c26 :: c27 :: c28 :: c29 :: c30 :: c31 :: c32 :: c33 :: c34 :: c35 :: c36 :: c37 :: c38 :: c39 :: c40 :: c41 :: c42 :: c43 :: c44 :: c45 :: c46 :: c47 :: c48 :: c49 :: c50 :: c51 :: c52 :: c53 :: c54 :: c55 :: c56 :: c57 :: c58 :: c59 :: c60 :: c61 :: c62 :: c63 :: c64 :: c65 :: c66 :: c67 :: c68 :: c69 :: c70 :: c71 :: c72 :: c73 :: c74 :: c75 :: c76 :: c77 :: c78 :: c79 :: c80 :: c81 :: c82 :: c83 :: c84 :: c85 :: c86 :: c87 :: c88 :: c89 :: c90 :: c91 :: c92 :: c93 :: c94 :: c95 :: c96 :: c97 :: c98 :: c99 :: c100 :: c101 :: c102 :: c103 :: c104 :: c105 :: c106 :: c107 :: c108 :: c109 :: c110 :: []), []⟩ w0 := by
 refine Code.wp_mono (Q := NQ Q) nq_to ?_
 conv => arg 2; whnf
 have hk1 := HK.out.1.1
 have hk2 := HK.out.1.2
 have hj1 : (0 : Int) ≤ (j : Int) := by omega
 have hj2 : (j : Int) < 2 := by have := HK.out.2; omega
 have HWR : Hid (IntKind.i64.wrap (1 + k) = 1 + k) := by show _ = _; rw [IntKind.wrap_i64]; first | omega | (unfold wrap64; omega)
 refine wpT_begin2 (S := (Pw f P w0)) [12] (by kernel_rfl) ?_ (fun Wd gH => ?_)
 ·(try dsimp only)
  exact HPW.out.go (Below.refl _ _).drew
 refine qP 0 _ ?_ rfl (.inl ⟨by rfl, ?_⟩) (fun _ => by assumption) ?_
 rotate_left
 ·(intro w hSw; go_simp)
  all_goals (with_reducible rfl)
 (try simp only [qs, Act.put])
 refine qT 1 _ ?_ rfl (.inl ⟨by rfl, ?_⟩) (by assumption) ?_
 rotate_left
 ·(intro w hSw; (try dsimp only at hSw); obtain ⟨y0, y1, y2, y3, y4, y5, y6, y7, y8, y9, y10, y11, y12, y13⟩ := box14 hSw.1; go_simp)
  all_goals (with_reducible rfl)
 (try simp only [qs, Act.put])
 refine qP 5 _ ?_ rfl (.inl ⟨by rfl, ?_⟩) (fun _ => by assumption) ?_
 rotate_left
 ·(intro w hSw; go_simp)
  all_goals (with_reducible rfl)
 (try simp only [qs, Act.put])
 refine qT 6 _ ?_ rfl (.inl ⟨by rfl, ?_⟩) (by assumption) ?_
 rotate_left
 ·(intro w hSw; (try dsimp only at hSw); obtain ⟨y0, y1, y2, y3, y4, y5, y6, y7, y8, y9, y10, y11, y12, y13⟩ := box14 hSw.1; go_simp)
  all_goals (with_reducible rfl)
 (try simp only [qs, Act.put])
 refine wpAnyT_ready (rs := [2, 4, 11]) (by kernel_rfl) (by simp) ?_
 refine AllReadyT.cons rfl (fun K hK => ?_) (AllReadyT.cons rfl (fun K hK => ?_) (AllReadyT.cons rfl (fun K hK => ?_) AllReadyT.nil))
 ·skip
  go_simp
  (go_at_call 14; (refine (HP1.out _).mono ?_); rintro e w2 ⟨rfl, rfl⟩)
  go_wp2_with fail
  refine hK.out _ _ (fun _ => ?_) (fun gH0 => ?_)
  ·(try dsimp only)
   exact gH
  have gH1 := gH0 (by kernel_rfl)
  clear hK K gH0
  clear gH; have gH := gH1; clear gH1
  (try simp only [qs, Act.put])
  refine qP 3 _ ?_ rfl (.inl ⟨by rfl, ?_⟩) (fun _ => by assumption) ?_
  rotate_left
  ·(intro w hSw; go_simp)
   all_goals (with_reducible rfl)
  (try simp only [qs, Act.put])
  refine wpAnyT_ready (rs := [4, 7, 11]) (by kernel_rfl) (by simp) ?_
  refine AllReadyT.cons rfl (fun K hK => ?_) (AllReadyT.cons rfl (fun K hK => ?_) (AllReadyT.cons rfl (fun K hK => ?_) AllReadyT.nil))
  ·skip
   go_simp
   (refine k_nm (fun w4 hW4 => ?_); have HB4 := hid (al_below hW4); (try have HZ := bk HB4 HZ); have HS := hid (al_new hW4); clear hW4)
   refine hK.out _ _ (fun _ => ?_) (fun gH0 => ?_)
   ·(try dsimp only)
    exact gH.go HB4.out
   have gH1 := gH0 (by kernel_rfl)
   clear hK K gH0
   clear gH; have gH := gH1; clear gH1
   (try simp only [qs, Act.put])
   refine wpAnyT_ready (rs := [7, 11]) (by kernel_rfl) (by simp) ?_
   refine AllReadyT.cons rfl (fun K hK => ?_) (AllReadyT.cons rfl (fun K hK => ?_) AllReadyT.nil)
   ·skip
    go_simp
    (go_at_call 14; (refine (HP2.out _).mono ?_); rintro e w7 ⟨rfl, rfl⟩)
    go_wp2_with fail
    refine hK.out _ _ (fun _ => ?_) (fun gH0 => ?_)
    ·(try dsimp only)
     exact gH
    have gH1 := gH0 (by kernel_rfl)
    clear hK K gH0
    clear gH; have gH := gH1; clear gH1
    (try simp only [qs, Act.put])
    refine qP 8 _ ?_ rfl (.inl ⟨by rfl, ?_⟩) (fun _ => by assumption) ?_
    rotate_left
    ·(intro w hSw; go_simp)
     all_goals (with_reducible rfl)
    (try simp only [qs, Act.put])
    refine wpAnyT_ready (rs := [9, 11]) (by kernel_rfl) (by simp) ?_
    refine AllReadyT.cons rfl (fun K hK => ?_) (AllReadyT.cons rfl (fun K hK => ?_) AllReadyT.nil)
    ·skip
     have t0 := box2j HS.out HK.out.2
     go_simp
     refine hK.out _ _ (fun _ => ?_) (fun gH0 => ?_)
     ·(try dsimp only)
      (first | (with_reducible exact gH) | (with_reducible exact ⟨Below.alloc (gH) (gH).size _⟩))
     have gH1 := gH0 (by kernel_rfl)
     clear hK K gH0
     clear gH; have gH := gH1; clear gH1
     (try simp only [qs, Act.put])
     refine qP 10 _ ?_ rfl (.inl ⟨by rfl, ?_⟩) (fun _ => by assumption) ?_
     rotate_left
     ·(intro w hSw; go_simp)
      all_goals (with_reducible rfl)
     (try simp only [qs, Act.put])
     refine wpAnyT_ready (rs := [11]) (by kernel_rfl) (by simp) ?_
     refine AllReadyT.cons rfl (fun K hK => ?_) AllReadyT.nil
     go_simp
     (refine k_nm (fun w11 hW11 => ?_); have HB11 := hid (al_below hW11); have HSZ := hid gH.2.size; (try have HS := bk HB11 HS); have HZ := hid (al_new hW11); clear hW11)
     refine hK.out _ _ (fun _ => ?_) (fun gH0 => ?_)
     ·(try dsimp only)
      exact gH.go HB11.out
     have gH1 := gH0 (by kernel_rfl)
     clear hK K gH0
     clear gH; have gH := gH1; clear gH1
     (try simp only [qs, Act.put])
     refine wpAnyT_ready (rs := [12]) (by kernel_rfl) (by simp) ?_
     refine AllReadyT.cons rfl (fun K hK => ?_) AllReadyT.nil
     obtain ⟨z0, z1, z2, z3, z4, z5, z6, z7, z8, z9, z10, z11, f0, f1, f2, f3, f4, f5, f6, f7, f8, f9, f10, f11⟩ := box12 HZ.out
     go_simp
     (refine k_nm (fun w12 hW12 => ?_); have HE := fin1 HPW HSZ gH (st12b HZ.out _ _ _ _ _ _ _ _ _ _ _ _ hW12); clear hW12 z0 z1 z2 z3 z4 z5 z6 z7 z8 z9 z10 z11 f0 f1 f2 f3 f4 f5 f6 f7 f8 f9 f10 f11)
     refine hK.out _ _ (noneB_off (by kernel_rfl)) (fun _ => ?_)
     clear hK K
     (try simp only [qs, Act.put])
     refine wpAnyT_done (by kernel_rfl) ?_ _
     have hE := HE.out; rw [HWR.out] at hE; exact hout.out _ _ _ _ _ _ _ _ _ _ _ _ _ hE.2.1 hE.1 hE.2.2
    ·skip
     go_simp
     (refine k_nm (fun w11 hW11 => ?_); have HB11 := hid (al_below hW11); have HSZ := hid gH.2.size; (try have HS := bk HB11 HS); have HZ := hid (al_new hW11); clear hW11)
     refine hK.out _ _ (fun _ => ?_) (fun gH0 => ?_)
     ·(try dsimp only)
      exact gH.go HB11.out
     have gH1 := gH0 (by kernel_rfl)
     clear hK K gH0
     clear gH; have gH := gH1; clear gH1
     (try simp only [qs, Act.put])
     refine wpAnyT_ready (rs := [9]) (by kernel_rfl) (by simp) ?_
     refine AllReadyT.cons rfl (fun K hK => ?_) AllReadyT.nil
     have t0 := box2j HS.out HK.out.2
     go_simp
     refine hK.out _ _ (fun _ => ?_) (fun gH0 => ?_)
     ·(try dsimp only)
      (first | (with_reducible exact gH) | (with_reducible exact ⟨Below.alloc (gH) (gH).size _⟩))
     have gH1 := gH0 (by kernel_rfl)
     clear hK K gH0
     clear gH; have gH := gH1; clear gH1
     (try simp only [qs, Act.put])
     refine qP 10 _ ?_ rfl (.inl ⟨by rfl, ?_⟩) (fun _ => by assumption) ?_
     rotate_left
     ·(intro w hSw; go_simp)
      all_goals (with_reducible rfl)
     (try simp only [qs, Act.put])
     refine wpAnyT_ready (rs := [12]) (by kernel_rfl) (by simp) ?_
     refine AllReadyT.cons rfl (fun K hK => ?_) AllReadyT.nil
     obtain ⟨z0, z1, z2, z3, z4, z5, z6, z7, z8, z9, z10, z11, f0, f1, f2, f3, f4, f5, f6, f7, f8, f9, f10, f11⟩ := box12 HZ.out
     go_simp
     (refine k_nm (fun w12 hW12 => ?_); have HE := fin1 HPW HSZ gH (st12b HZ.out _ _ _ _ _ _ _ _ _ _ _ _ hW12); clear hW12 z0 z1 z2 z3 z4 z5 z6 z7 z8 z9 z10 z11 f0 f1 f2 f3 f4 f5 f6 f7 f8 f9 f10 f11)
     refine hK.out _ _ (noneB_off (by kernel_rfl)) (fun _ => ?_)
     clear hK K
     (try simp only [qs, Act.put])
     refine wpAnyT_done (by kernel_rfl) ?_ _
     have hE := HE.out; rw [HWR.out] at hE; exact hout.out _ _ _ _ _ _ _ _ _ _ _ _ _ hE.2.1 hE.1 hE.2.2
   ·skip
    go_simp
    (refine k_nm (fun w11 hW11 => ?_); have HB11 := hid (al_below hW11); have HSZ := hid gH.2.size; (try have HS := bk HB11 HS); have HZ := hid (al_new hW11); clear hW11)
    refine hK.out _ _ (fun _ => ?_) (fun gH0 => ?_)
    ·(try dsimp only)
     exact gH.go HB11.out
    have gH1 := gH0 (by kernel_rfl)
    clear hK K gH0
    clear gH; have gH := gH1; clear gH1
    (try simp only [qs, Act.put])
    refine wpAnyT_ready (rs := [7]) (by kernel_rfl) (by simp) ?_
    refine AllReadyT.cons rfl (fun K hK => ?_) AllReadyT.nil
    go_simp
    (go_at_call 14; (refine (HP2.out _).mono ?_); rintro e w7 ⟨rfl, rfl⟩)
    go_wp2_with fail
    refine hK.out _ _ (fun _ => ?_) (fun gH0 => ?_)
    ·(try dsimp only)
     exact gH
    have gH1 := gH0 (by kernel_rfl)
    clear hK K gH0
    clear gH; have gH := gH1; clear gH1
    (try simp only [qs, Act.put])
    refine qP 8 _ ?_ rfl (.inl ⟨by rfl, ?_⟩) (fun _ => by assumption) ?_
    rotate_left
    ·(intro w hSw; go_simp)
     all_goals (with_reducible rfl)
    (try simp only [qs, Act.put])
    refine wpAnyT_ready (rs := [9]) (by kernel_rfl) (by simp) ?_
    refine AllReadyT.cons rfl (fun K hK => ?_) AllReadyT.nil
    have t0 := box2j HS.out HK.out.2
    go_simp
    refine hK.out _ _ (fun _ => ?_) (fun gH0 => ?_)
    ·(try dsimp only)
     (first | (with_reducible exact gH) | (with_reducible exact ⟨Below.alloc (gH) (gH).size _⟩))
    have gH1 := gH0 (by kernel_rfl)
    clear hK K gH0
    clear gH; have gH := gH1; clear gH1
    (try simp only [qs, Act.put])
    refine qP 10 _ ?_ rfl (.inl ⟨by rfl, ?_⟩) (fun _ => by assumption) ?_
    rotate_left
    ·(intro w hSw; go_simp)
     all_goals (with_reducible rfl)
    (try simp only [qs, Act.put])
    refine wpAnyT_ready (rs := [12]) (by kernel_rfl) (by simp) ?_
    refine AllReadyT.cons rfl (fun K hK => ?_) AllReadyT.nil
    obtain ⟨z0, z1, z2, z3, z4, z5, z6, z7, z8, z9, z10, z11, f0, f1, f2, f3, f4, f5, f6, f7, f8, f9, f10, f11⟩ := box12 HZ.out
    go_simp
    (refine k_nm (fun w12 hW12 => ?_); have HE := fin1 HPW HSZ gH (st12b HZ.out _ _ _ _ _ _ _ _ _ _ _ _ hW12); clear hW12 z0 z1 z2 z3 z4 z5 z6 z7 z8 z9 z10 z11 f0 f1 f2 f3 f4 f5 f6 f7 f8 f9 f10 f11)
    refine hK.out _ _ (noneB_off (by kernel_rfl)) (fun _ => ?_)
    clear hK K
    (try simp only [qs, Act.put])
    refine wpAnyT_done (by kernel_rfl) ?_ _
    have hE := HE.out; rw [HWR.out] at hE; exact hout.out _ _ _ _ _ _ _ _ _ _ _ _ _ hE.2.1 hE.1 hE.2.2
  ·skip
   go_simp
   (go_at_call 14; (refine (HP2.out _).mono ?_); rintro e w7 ⟨rfl, rfl⟩)
   go_wp2_with fail
   refine hK.out _ _ (fun _ => ?_) (fun gH0 => ?_)
   ·(try dsimp only)
    exact gH
   have gH1 := gH0 (by kernel_rfl)
   clear hK K gH0
   clear gH; have gH := gH1; clear gH1
   (try simp only [qs, Act.put])
   refine wpAnyT_ready (rs := [4, 11]) (by kernel_rfl) (by simp) ?_
   refine AllReadyT.cons rfl (fun K hK => ?_) (AllReadyT.cons rfl (fun K hK => ?_) AllReadyT.nil)
   ·skip
    go_simp
    (refine k_nm (fun w4 hW4 => ?_); have HB4 := hid (al_below hW4); (try have HZ := bk HB4 HZ); have HS := hid (al_new hW4); clear hW4)
    refine hK.out _ _ (fun _ => ?_) (fun gH0 => ?_)
    ·(try dsimp only)
     exact gH.go HB4.out
    have gH1 := gH0 (by kernel_rfl)
    clear hK K gH0
    clear gH; have gH := gH1; clear gH1
    (try simp only [qs, Act.put])
    refine qP 8 _ ?_ rfl (.inl ⟨by rfl, ?_⟩) (fun _ => by assumption) ?_
    rotate_left
    ·(intro w hSw; go_simp)
     all_goals (with_reducible rfl)
    (try simp only [qs, Act.put])
    refine wpAnyT_ready (rs := [9, 11]) (by kernel_rfl) (by simp) ?_
    refine AllReadyT.cons rfl (fun K hK => ?_) (AllReadyT.cons rfl (fun K hK => ?_) AllReadyT.nil)
    ·skip
     have t0 := box2j HS.out HK.out.2
     go_simp
     refine hK.out _ _ (fun _ => ?_) (fun gH0 => ?_)
     ·(try dsimp only)
      (first | (with_reducible exact gH) | (with_reducible exact ⟨Below.alloc (gH) (gH).size _⟩))
     have gH1 := gH0 (by kernel_rfl)
     clear hK K gH0
     clear gH; have gH := gH1; clear gH1
     (try simp only [qs, Act.put])
     refine qP 10 _ ?_ rfl (.inl ⟨by rfl, ?_⟩) (fun _ => by assumption) ?_
     rotate_left
     ·(intro w hSw; go_simp)
      all_goals (with_reducible rfl)
     (try simp only [qs, Act.put])
     refine wpAnyT_ready (rs := [11]) (by kernel_rfl) (by simp) ?_
     refine AllReadyT.cons rfl (fun K hK => ?_) AllReadyT.nil
     go_simp
     (refine k_nm (fun w11 hW11 => ?_); have HB11 := hid (al_below hW11); have HSZ := hid gH.2.size; (try have HS := bk HB11 HS); have HZ := hid (al_new hW11); clear hW11)
     refine hK.out _ _ (fun _ => ?_) (fun gH0 => ?_)
     ·(try dsimp only)
      exact gH.go HB11.out
     have gH1 := gH0 (by kernel_rfl)
     clear hK K gH0
     clear gH; have gH := gH1; clear gH1
     (try simp only [qs, Act.put])
     refine wpAnyT_ready (rs := [12]) (by kernel_rfl) (by simp) ?_
     refine AllReadyT.cons rfl (fun K hK => ?_) AllReadyT.nil
     obtain ⟨z0, z1, z2, z3, z4, z5, z6, z7, z8, z9, z10, z11, f0, f1, f2, f3, f4, f5, f6, f7, f8, f9, f10, f11⟩ := box12 HZ.out
     go_simp
     (refine k_nm (fun w12 hW12 => ?_); have HE := fin1 HPW HSZ gH (st12b HZ.out _ _ _ _ _ _ _ _ _ _ _ _ hW12); clear hW12 z0 z1 z2 z3 z4 z5 z6 z7 z8 z9 z10 z11 f0 f1 f2 f3 f4 f5 f6 f7 f8 f9 f10 f11)
     refine hK.out _ _ (noneB_off (by kernel_rfl)) (fun _ => ?_)
     clear hK K
     (try simp only [qs, Act.put])
     refine wpAnyT_done (by kernel_rfl) ?_ _
     have hE := HE.out; rw [HWR.out] at hE; exact hout.out _ _ _ _ _ _ _ _ _ _ _ _ _ hE.2.1 hE.1 hE.2.2
    ·skip
     go_simp
     (refine k_nm (fun w11 hW11 => ?_); have HB11 := hid (al_below hW11); have HSZ := hid gH.2.size; (try have HS := bk HB11 HS); have HZ := hid (al_new hW11); clear hW11)
     refine hK.out _ _ (fun _ => ?_) (fun gH0 => ?_)
     ·(try dsimp only)
      exact gH.go HB11.out
     have gH1 := gH0 (by kernel_rfl)
     clear hK K gH0
     clear gH; have gH := gH1; clear gH1
     (try simp only [qs, Act.put])
     refine wpAnyT_ready (rs := [9]) (by kernel_rfl) (by simp) ?_
     refine AllReadyT.cons rfl (fun K hK => ?_) AllReadyT.nil
     have t0 := box2j HS.out HK.out.2
     go_simp
     refine hK.out _ _ (fun _ => ?_) (fun gH0 => ?_)
     ·(try dsimp only)
      (first | (with_reducible exact gH) | (with_reducible exact ⟨Below.alloc (gH) (gH).size _⟩))
     have gH1 := gH0 (by kernel_rfl)
     clear hK K gH0
     clear gH; have gH := gH1; clear gH1
     (try simp only [qs, Act.put])
     refine qP 10 _ ?_ rfl (.inl ⟨by rfl, ?_⟩) (fun _ => by assumption) ?_
     rotate_left
     ·(intro w hSw; go_simp)
      all_goals (with_reducible rfl)
     (try simp only [qs, Act.put])
     refine wpAnyT_ready (rs := [12]) (by kernel_rfl) (by simp) ?_
     refine AllReadyT.cons rfl (fun K hK => ?_) AllReadyT.nil
     obtain ⟨z0, z1, z2, z3, z4, z5, z6, z7, z8, z9, z10, z11, f0, f1, f2, f3, f4, f5, f6, f7, f8, f9, f10, f11⟩ := box12 HZ.out
     go_simp
     (refine k_nm (fun w12 hW12 => ?_); have HE := fin1 HPW HSZ gH (st12b HZ.out _ _ _ _ _ _ _ _ _ _ _ _ hW12); clear hW12 z0 z1 z2 z3 z4 z5 z6 z7 z8 z9 z10 z11 f0 f1 f2 f3 f4 f5 f6 f7 f8 f9 f10 f11)
     refine hK.out _ _ (noneB_off (by kernel_rfl)) (fun _ => ?_)
     clear hK K
     (try simp only [qs, Act.put])
     refine wpAnyT_done (by kernel_rfl) ?_ _
     have hE := HE.out; rw [HWR.out] at hE; exact hout.out _ _ _ _ _ _ _ _ _ _ _ _ _ hE.2.1 hE.1 hE.2.2
   ·skip
    go_simp
    (refine k_nm (fun w11 hW11 => ?_); have HB11 := hid (al_below hW11); have HSZ := hid gH.2.size; (try have HS := bk HB11 HS); have HZ := hid (al_new hW11); clear hW11)
    refine hK.out _ _ (fun _ => ?_) (fun gH0 => ?_)
    ·(try dsimp only)
     exact gH.go HB11.out
    have gH1 := gH0 (by kernel_rfl)
    clear hK K gH0
    clear gH; have gH := gH1; clear gH1
    (try simp only [qs, Act.put])
    refine wpAnyT_ready (rs := [4]) (by kernel_rfl) (by simp) ?_
    refine AllReadyT.cons rfl (fun K hK => ?_) AllReadyT.nil
    go_simp
    (refine k_nm (fun w4 hW4 => ?_); have HB4 := hid (al_below hW4); (try have HZ := bk HB4 HZ); have HS := hid (al_new hW4); clear hW4)
    refine hK.out _ _ (fun _ => ?_) (fun gH0 => ?_)
    ·(try dsimp only)
     exact gH.go HB4.out
    have gH1 := gH0 (by kernel_rfl)
    clear hK K gH0
    clear gH; have gH := gH1; clear gH1
    (try simp only [qs, Act.put])
    refine qP 8 _ ?_ rfl (.inl ⟨by rfl, ?_⟩) (fun _ => by assumption) ?_
    rotate_left
    ·(intro w hSw; go_simp)
     all_goals (with_reducible rfl)
    (try simp only [qs, Act.put])
    refine wpAnyT_ready (rs := [9]) (by kernel_rfl) (by simp) ?_
    refine AllReadyT.cons rfl (fun K hK => ?_) AllReadyT.nil
    have t0 := box2j HS.out HK.out.2
    go_simp
    refine hK.out _ _ (fun _ => ?_) (fun gH0 => ?_)
    ·(try dsimp only)
     (first | (with_reducible exact gH) | (with_reducible exact ⟨Below.alloc (gH) (gH).size _⟩))
    have gH1 := gH0 (by kernel_rfl)
    clear hK K gH0
    clear gH; have gH := gH1; clear gH1
    (try simp only [qs, Act.put])
    refine qP 10 _ ?_ rfl (.inl ⟨by rfl, ?_⟩) (fun _ => by assumption) ?_
    rotate_left
    ·(intro w hSw; go_simp)
     all_goals (with_reducible rfl)
    (try simp only [qs, Act.put])
    refine wpAnyT_ready (rs := [12]) (by kernel_rfl) (by simp) ?_
    refine AllReadyT.cons rfl (fun K hK => ?_) AllReadyT.nil
    obtain ⟨z0, z1, z2, z3, z4, z5, z6, z7, z8, z9, z10, z11, f0, f1, f2, f3, f4, f5, f6, f7, f8, f9, f10, f11⟩ := box12 HZ.out
    go_simp
    (refine k_nm (fun w12 hW12 => ?_); have HE := fin1 HPW HSZ gH (st12b HZ.out _ _ _ _ _ _ _ _ _ _ _ _ hW12); clear hW12 z0 z1 z2 z3 z4 z5 z6 z7 z8 z9 z10 z11 f0 f1 f2 f3 f4 f5 f6 f7 f8 f9 f10 f11)
    refine hK.out _ _ (noneB_off (by kernel_rfl)) (fun _ => ?_)
    clear hK K
    (try simp only [qs, Act.put])
    refine wpAnyT_done (by kernel_rfl) ?_ _
    have hE := HE.out; rw [HWR.out] at hE; exact hout.out _ _ _ _ _ _ _ _ _ _ _ _ _ hE.2.1 hE.1 hE.2.2
  ·skip
   go_simp
   (refine k_nm (fun w11 hW11 => ?_); have HB11 := hid (al_below hW11); have HSZ := hid gH.2.size; (try have HS := bk HB11 HS); have HZ := hid (al_new hW11); clear hW11)
   refine hK.out _ _ (fun _ => ?_) (fun gH0 => ?_)
   ·(try dsimp only)
    exact gH.go HB11.out
   have gH1 := gH0 (by kernel_rfl)
   clear hK K gH0
   clear gH; have gH := gH1; clear gH1
   (try simp only [qs, Act.put])
   refine wpAnyT_ready (rs := [4, 7]) (by kernel_rfl) (by simp) ?_
   refine AllReadyT.cons rfl (fun K hK => ?_) (AllReadyT.cons rfl (fun K hK => ?_) AllReadyT.nil)
   ·skip
    go_simp
    (refine k_nm (fun w4 hW4 => ?_); have HB4 := hid (al_below hW4); (try have HZ := bk HB4 HZ); have HS := hid (al_new hW4); clear hW4)
    refine hK.out _ _ (fun _ => ?_) (fun gH0 => ?_)
    ·(try dsimp only)
     exact gH.go HB4.out
    have gH1 := gH0 (by kernel_rfl)
    clear hK K gH0
    clear gH; have gH := gH1; clear gH1
    (try simp only [qs, Act.put])
    refine wpAnyT_ready (rs := [7]) (by kernel_rfl) (by simp) ?_
    refine AllReadyT.cons rfl (fun K hK => ?_) AllReadyT.nil
    go_simp
    (go_at_call 14; (refine (HP2.out _).mono ?_); rintro e w7 ⟨rfl, rfl⟩)
    go_wp2_with fail
    refine hK.out _ _ (fun _ => ?_) (fun gH0 => ?_)
    ·(try dsimp only)
     exact gH
    have gH1 := gH0 (by kernel_rfl)
    clear hK K gH0
    clear gH; have gH := gH1; clear gH1
    (try simp only [qs, Act.put])
    refine qP 8 _ ?_ rfl (.inl ⟨by rfl, ?_⟩) (fun _ => by assumption) ?_
    rotate_left
    ·(intro w hSw; go_simp)
     all_goals (with_reducible rfl)
    (try simp only [qs, Act.put])
    refine wpAnyT_ready (rs := [9]) (by kernel_rfl) (by simp) ?_
    refine AllReadyT.cons rfl (fun K hK => ?_) AllReadyT.nil
    have t0 := box2j HS.out HK.out.2
    go_simp
    refine hK.out _ _ (fun _ => ?_) (fun gH0 => ?_)
    ·(try dsimp only)
     (first | (with_reducible exact gH) | (with_reducible exact ⟨Below.alloc (gH) (gH).size _⟩))
    have gH1 := gH0 (by kernel_rfl)
    clear hK K gH0
    clear gH; have gH := gH1; clear gH1
    (try simp only [qs, Act.put])
    refine qP 10 _ ?_ rfl (.inl ⟨by rfl, ?_⟩) (fun _ => by assumption) ?_
    rotate_left
    ·(intro w hSw; go_simp)
     all_goals (with_reducible rfl)
    (try simp only [qs, Act.put])
    refine wpAnyT_ready (rs := [12]) (by kernel_rfl) (by simp) ?_
    refine AllReadyT.cons rfl (fun K hK => ?_) AllReadyT.nil
    obtain ⟨z0, z1, z2, z3, z4, z5, z6, z7, z8, z9, z10, z11, f0, f1, f2, f3, f4, f5, f6, f7, f8, f9, f10, f11⟩ := box12 HZ.out
    go_simp
    (refine k_nm (fun w12 hW12 => ?_); have HE := fin1 HPW HSZ gH (st12b HZ.out _ _ _ _ _ _ _ _ _ _ _ _ hW12); clear hW12 z0 z1 z2 z3 z4 z5 z6 z7 z8 z9 z10 z11 f0 f1 f2 f3 f4 f5 f6 f7 f8 f9 f10 f11)
    refine hK.out _ _ (noneB_off (by kernel_rfl)) (fun _ => ?_)
    clear hK K
    (try simp only [qs, Act.put])
    refine wpAnyT_done (by kernel_rfl) ?_ _
    have hE := HE.out; rw [HWR.out] at hE; exact hout.out _ _ _ _ _ _ _ _ _ _ _ _ _ hE.2.1 hE.1 hE.2.2
   ·skip
    go_simp
    (go_at_call 14; (refine (HP2.out _).mono ?_); rintro e w7 ⟨rfl, rfl⟩)
    go_wp2_with fail
    refine hK.out _ _ (fun _ => ?_) (fun gH0 => ?_)
    ·(try dsimp only)
     exact gH
    have gH1 := gH0 (by kernel_rfl)
    clear hK K gH0
    clear gH; have gH := gH1; clear gH1
    (try simp only [qs, Act.put])
    refine wpAnyT_ready (rs := [4]) (by kernel_rfl) (by simp) ?_
    refine AllReadyT.cons rfl (fun K hK => ?_) AllReadyT.nil
    go_simp
    (refine k_nm (fun w4 hW4 => ?_); have HB4 := hid (al_below hW4); (try have HZ := bk HB4 HZ); have HS := hid (al_new hW4); clear hW4)
    refine hK.out _ _ (fun _ => ?_) (fun gH0 => ?_)
    ·(try dsimp only)
     exact gH.go HB4.out
    have gH1 := gH0 (by kernel_rfl)
    clear hK K gH0
    clear gH; have gH := gH1; clear gH1
    (try simp only [qs, Act.put])
    refine qP 8 _ ?_ rfl (.inl ⟨by rfl, ?_⟩) (fun _ => by assumption) ?_
    rotate_left
    ·(intro w hSw; go_simp)
     all_goals (with_reducible rfl)
    (try simp only [qs, Act.put])
    refine wpAnyT_ready (rs := [9]) (by kernel_rfl) (by simp) ?_
    refine AllReadyT.cons rfl (fun K hK => ?_) AllReadyT.nil
    have t0 := box2j HS.out HK.out.2
    go_simp
    refine hK.out _ _ (fun _ => ?_) (fun gH0 => ?_)
    ·(try dsimp only)
     (first | (with_reducible exact gH) | (with_reducible exact ⟨Below.alloc (gH) (gH).size _⟩))
    have gH1 := gH0 (by kernel_rfl)
    clear hK K gH0
    clear gH; have gH := gH1; clear gH1
    (try simp only [qs, Act.put])
    refine qP 10 _ ?_ rfl (.inl ⟨by rfl, ?_⟩) (fun _ => by assumption) ?_
    rotate_left
    ·(intro w hSw; go_simp)
     all_goals (with_reducible rfl)
    (try simp only [qs, Act.put])
    refine wpAnyT_ready (rs := [12]) (by kernel_rfl) (by simp) ?_
    refine AllReadyT.cons rfl (fun K hK => ?_) AllReadyT.nil
    obtain ⟨z0, z1, z2, z3, z4, z5, z6, z7, z8, z9, z10, z11, f0, f1, f2, f3, f4, f5, f6, f7, f8, f9, f10, f11⟩ := box12 HZ.out
    go_simp
    (refine k_nm (fun w12 hW12 => ?_); have HE := fin1 HPW HSZ gH (st12b HZ.out _ _ _ _ _ _ _ _ _ _ _ _ hW12); clear hW12 z0 z1 z2 z3 z4 z5 z6 z7 z8 z9 z10 z11 f0 f1 f2 f3 f4 f5 f6 f7 f8 f9 f10 f11)
    refine hK.out _ _ (noneB_off (by kernel_rfl)) (fun _ => ?_)
    clear hK K
    (try simp only [qs, Act.put])
    refine wpAnyT_done (by kernel_rfl) ?_ _
    have hE := HE.out; rw [HWR.out] at hE; exact hout.out _ _ _ _ _ _ _ _ _ _ _ _ _ hE.2.1 hE.1 hE.2.2
 ·skip
  go_simp
  (refine k_nm (fun w4 hW4 => ?_); have HB4 := hid (al_below hW4); (try have HZ := bk HB4 HZ); have HS := hid (al_new hW4); clear hW4)
  refine hK.out _ _ (fun _ => ?_) (fun gH0 => ?_)
  ·(try dsimp only)
   exact gH.go HB4.out
  have gH1 := gH0 (by kernel_rfl)
  clear hK K gH0
  clear gH; have gH := gH1; clear gH1
  (try simp only [qs, Act.put])
  refine wpAnyT_ready (rs := [2, 11]) (by kernel_rfl) (by simp) ?_
  refine AllReadyT.cons rfl (fun K hK => ?_) (AllReadyT.cons rfl (fun K hK => ?_) AllReadyT.nil)
  ·skip
   go_simp
   (go_at_call 14; (refine (HP1.out _).mono ?_); rintro e w2 ⟨rfl, rfl⟩)
   go_wp2_with fail
   refine hK.out _ _ (fun _ => ?_) (fun gH0 => ?_)
   ·(try dsimp only)
    exact gH
   have gH1 := gH0 (by kernel_rfl)
   clear hK K gH0
   clear gH; have gH := gH1; clear gH1
   (try simp only [qs, Act.put])
   refine qP 3 _ ?_ rfl (.inl ⟨by rfl, ?_⟩) (fun _ => by assumption) ?_
   rotate_left
   ·(intro w hSw; go_simp)
    all_goals (with_reducible rfl)
   (try simp only [qs, Act.put])
   refine wpAnyT_ready (rs := [7, 11]) (by kernel_rfl) (by simp) ?_
   refine AllReadyT.cons rfl (fun K hK => ?_) (AllReadyT.cons rfl (fun K hK => ?_) AllReadyT.nil)
   ·skip
    go_simp
    (go_at_call 14; (refine (HP2.out _).mono ?_); rintro e w7 ⟨rfl, rfl⟩)
    go_wp2_with fail
    refine hK.out _ _ (fun _ => ?_) (fun gH0 => ?_)
    ·(try dsimp only)
     exact gH
    have gH1 := gH0 (by kernel_rfl)
    clear hK K gH0
    clear gH; have gH := gH1; clear gH1
    (try simp only [qs, Act.put])
    refine qP 8 _ ?_ rfl (.inl ⟨by rfl, ?_⟩) (fun _ => by assumption) ?_
    rotate_left
    ·(intro w hSw; go_simp)
     all_goals (with_reducible rfl)
    (try simp only [qs, Act.put])
    refine wpAnyT_ready (rs := [9, 11]) (by kernel_rfl) (by simp) ?_
    refine AllReadyT.cons rfl (fun K hK => ?_) (AllReadyT.cons rfl (fun K hK => ?_) AllReadyT.nil)
    ·skip
     have t0 := box2j HS.out HK.out.2
     go_simp
     refine hK.out _ _ (fun _ => ?_) (fun gH0 => ?_)
     ·(try dsimp only)
      (first | (with_reducible exact gH) | (with_reducible exact ⟨Below.alloc (gH) (gH).size _⟩))
     have gH1 := gH0 (by kernel_rfl)
     clear hK K gH0
     clear gH; have gH := gH1; clear gH1
     (try simp only [qs, Act.put])
     refine qP 10 _ ?_ rfl (.inl ⟨by rfl, ?_⟩) (fun _ => by assumption) ?_
     rotate_left
     ·(intro w hSw; go_simp)
      all_goals (with_reducible rfl)
     (try simp only [qs, Act.put])
     refine wpAnyT_ready (rs := [11]) (by kernel_rfl) (by simp) ?_
     refine AllReadyT.cons rfl (fun K hK => ?_) AllReadyT.nil
     go_simp
     (refine k_nm (fun w11 hW11 => ?_); have HB11 := hid (al_below hW11); have HSZ := hid gH.2.size; (try have HS := bk HB11 HS); have HZ := hid (al_new hW11); clear hW11)
     refine hK.out _ _ (fun _ => ?_) (fun gH0 => ?_)
     ·(try dsimp only)
      exact gH.go HB11.out
     have gH1 := gH0 (by kernel_rfl)
     clear hK K gH0
     clear gH; have gH := gH1; clear gH1
     (try simp only [qs, Act.put])
     refine wpAnyT_ready (rs := [12]) (by kernel_rfl) (by simp) ?_
     refine AllReadyT.cons rfl (fun K hK => ?_) AllReadyT.nil
     obtain ⟨z0, z1, z2, z3, z4, z5, z6, z7, z8, z9, z10, z11, f0, f1, f2, f3, f4, f5, f6, f7, f8, f9, f10, f11⟩ := box12 HZ.out
     go_simp
     (refine k_nm (fun w12 hW12 => ?_); have HE := fin1 HPW HSZ gH (st12b HZ.out _ _ _ _ _ _ _ _ _ _ _ _ hW12); clear hW12 z0 z1 z2 z3 z4 z5 z6 z7 z8 z9 z10 z11 f0 f1 f2 f3 f4 f5 f6 f7 f8 f9 f10 f11)
     refine hK.out _ _ (noneB_off (by kernel_rfl)) (fun _ => ?_)
     clear hK K
     (try simp only [qs, Act.put])
     refine wpAnyT_done (by kernel_rfl) ?_ _
     have hE := HE.out; rw [HWR.out] at hE; exact hout.out _ _ _ _ _ _ _ _ _ _ _ _ _ hE.2.1 hE.1 hE.2.2
    ·skip
     go_simp
     (refine k_nm (fun w11 hW11 => ?_); have HB11 := hid (al_below hW11); have HSZ := hid gH.2.size; (try have HS := bk HB11 HS); have HZ := hid (al_new hW11); clear hW11)
     refine hK.out _ _ (fun _ => ?_) (fun gH0 => ?_)
     ·(try dsimp only)
      exact gH.go HB11.out
     have gH1 := gH0 (by kernel_rfl)
     clear hK K gH0
     clear gH; have gH := gH1; clear gH1
     (try simp only [qs, Act.put])
     refine wpAnyT_ready (rs := [9]) (by kernel_rfl) (by simp) ?_
     refine AllReadyT.cons rfl (fun K hK => ?_) AllReadyT.nil
     have t0 := box2j HS.out HK.out.2
     go_simp
     refine hK.out _ _ (fun _ => ?_) (fun gH0 => ?_)
     ·(try dsimp only)
      (first | (with_reducible exact gH) | (with_reducible exact ⟨Below.alloc (gH) (gH).size _⟩))
     have gH1 := gH0 (by kernel_rfl)
     clear hK K gH0
     clear gH; have gH := gH1; clear gH1
     (try simp only [qs, Act.put])
     refine qP 10 _ ?_ rfl (.inl ⟨by rfl, ?_⟩) (fun _ => by assumption) ?_
     rotate_left
     ·(intro w hSw; go_simp)
      all_goals (with_reducible rfl)
     (try simp only [qs, Act.put])
     refine wpAnyT_ready (rs := [12]) (by kernel_rfl) (by simp) ?_
     refine AllReadyT.cons rfl (fun K hK => ?_) AllReadyT.nil
     obtain ⟨z0, z1, z2, z3, z4, z5, z6, z7, z8, z9, z10, z11, f0, f1, f2, f3, f4, f5, f6, f7, f8, f9, f10, f11⟩ := box12 HZ.out
     go_simp
     (refine k_nm (fun w12 hW12 => ?_); have HE := fin1 HPW HSZ gH (st12b HZ.out _ _ _ _ _ _ _ _ _ _ _ _ hW12); clear hW12 z0 z1 z2 z3 z4 z5 z6 z7 z8 z9 z10 z11 f0 f1 f2 f3 f4 f5 f6 f7 f8 f9 f10 f11)
     refine hK.out _ _ (noneB_off (by kernel_rfl)) (fun _ => ?_)
     clear hK K
     (try simp only [qs, Act.put])
     refine wpAnyT_done (by kernel_rfl) ?_ _
     have hE := HE.out; rw [HWR.out] at hE; exact hout.out _ _ _ _ _ _ _ _ _ _ _ _ _ hE.2.1 hE.1 hE.2.2
   ·skip
    go_simp
    (refine k_nm (fun w11 hW11 => ?_); have HB11 := hid (al_below hW11); have HSZ := hid gH.2.size; (try have HS := bk HB11 HS); have HZ := hid (al_new hW11); clear hW11)
    refine hK.out _ _ (fun _ => ?_) (fun gH0 => ?_)
    ·(try dsimp only)
     exact gH.go HB11.out
    have gH1 := gH0 (by kernel_rfl)
    clear hK K gH0
    clear gH; have gH := gH1; clear gH1
    (try simp only [qs, Act.put])
    refine wpAnyT_ready (rs := [7]) (by kernel_rfl) (by simp) ?_
    refine AllReadyT.cons rfl (fun K hK => ?_) AllReadyT.nil
    go_simp
    (go_at_call 14; (refine (HP2.out _).mono ?_); rintro e w7 ⟨rfl, rfl⟩)
    go_wp2_with fail
    refine hK.out _ _ (fun _ => ?_) (fun gH0 => ?_)
    ·(try dsimp only)
     exact gH
    have gH1 := gH0 (by kernel_rfl)
    clear hK K gH0
    clear gH; have gH := gH1; clear gH1
    (try simp only [qs, Act.put])
    refine qP 8 _ ?_ rfl (.inl ⟨by rfl, ?_⟩) (fun _ => by assumption) ?_
    rotate_left
    ·(intro w hSw; go_simp)
     all_goals (with_reducible rfl)
    (try simp only [qs, Act.put])
    refine wpAnyT_ready (rs := [9]) (by kernel_rfl) (by simp) ?_
    refine AllReadyT.cons rfl (fun K hK => ?_) AllReadyT.nil
    have t0 := box2j HS.out HK.out.2
    go_simp
    refine hK.out _ _ (fun _ => ?_) (fun gH0 => ?_)
    ·(try dsimp only)
     (first | (with_reducible exact gH) | (with_reducible exact ⟨Below.alloc (gH) (gH).size _⟩))
    have gH1 := gH0 (by kernel_rfl)
    clear hK K gH0
    clear gH; have gH := gH1; clear gH1
    (try simp only [qs, Act.put])
    refine qP 10 _ ?_ rfl (.inl ⟨by rfl, ?_⟩) (fun _ => by assumption) ?_
    rotate_left
    ·(intro w hSw; go_simp)
     all_goals (with_reducible rfl)
    (try simp only [qs, Act.put])
    refine wpAnyT_ready (rs := [12]) (by kernel_rfl) (by simp) ?_
    refine AllReadyT.cons rfl (fun K hK => ?_) AllReadyT.nil
    obtain ⟨z0, z1, z2, z3, z4, z5, z6, z7, z8, z9, z10, z11, f0, f1, f2, f3, f4, f5, f6, f7, f8, f9, f10, f11⟩ := box12 HZ.out
    go_simp
    (refine k_nm (fun w12 hW12 => ?_); have HE := fin1 HPW HSZ gH (st12b HZ.out _ _ _ _ _ _ _ _ _ _ _ _ hW12); clear hW12 z0 z1 z2 z3 z4 z5 z6 z7 z8 z9 z10 z11 f0 f1 f2 f3 f4 f5 f6 f7 f8 f9 f10 f11)
    refine hK.out _ _ (noneB_off (by kernel_rfl)) (fun _ => ?_)
    clear hK K
    (try simp only [qs, Act.put])
    refine wpAnyT_done (by kernel_rfl) ?_ _
    have hE := HE.out; rw [HWR.out] at hE; exact hout.out _ _ _ _ _ _ _ _ _ _ _ _ _ hE.2.1 hE.1 hE.2.2
  ·skip
   go_simp
   (refine k_nm (fun w11 hW11 => ?_); have HB11 := hid (al_below hW11); have HSZ := hid gH.2.size; (try have HS := bk HB11 HS); have HZ := hid (al_new hW11); clear hW11)
   refine hK.out _ _ (fun _ => ?_) (fun gH0 => ?_)
   ·(try dsimp only)
    exact gH.go HB11.out
   have gH1 := gH0 (by kernel_rfl)
   clear hK K gH0
   clear gH; have gH := gH1; clear gH1
   (try simp only [qs, Act.put])
   refine wpAnyT_ready (rs := [2]) (by kernel_rfl) (by simp) ?_
   refine AllReadyT.cons rfl (fun K hK => ?_) AllReadyT.nil
   go_simp
   (go_at_call 14; (refine (HP1.out _).mono ?_); rintro e w2 ⟨rfl, rfl⟩)
   go_wp2_with fail
   refine hK.out _ _ (fun _ => ?_) (fun gH0 => ?_)
   ·(try dsimp only)
    exact gH
   have gH1 := gH0 (by kernel_rfl)
   clear hK K gH0
   clear gH; have gH := gH1; clear gH1
   (try simp only [qs, Act.put])
   refine qP 3 _ ?_ rfl (.inl ⟨by rfl, ?_⟩) (fun _ => by assumption) ?_
   rotate_left
   ·(intro w hSw; go_simp)
    all_goals (with_reducible rfl)
   (try simp only [qs, Act.put])
   refine wpAnyT_ready (rs := [7]) (by kernel_rfl) (by simp) ?_
   refine AllReadyT.cons rfl (fun K hK => ?_) AllReadyT.nil
   go_simp
   (go_at_call 14; (refine (HP2.out _).mono ?_); rintro e w7 ⟨rfl, rfl⟩)
   go_wp2_with fail
   refine hK.out _ _ (fun _ => ?_) (fun gH0 => ?_)
   ·(try dsimp only)
    exact gH
   have gH1 := gH0 (by kernel_rfl)
   clear hK K gH0
   clear gH; have gH := gH1; clear gH1
   (try simp only [qs, Act.put])
   refine qP 8 _ ?_ rfl (.inl ⟨by rfl, ?_⟩) (fun _ => by assumption) ?_
   rotate_left
   ·(intro w hSw; go_simp)
    all_goals (with_reducible rfl)
   (try simp only [qs, Act.put])
   refine wpAnyT_ready (rs := [9]) (by kernel_rfl) (by simp) ?_
   refine AllReadyT.cons rfl (fun K hK => ?_) AllReadyT.nil
   have t0 := box2j HS.out HK.out.2
   go_simp
   refine hK.out _ _ (fun _ => ?_) (fun gH0 => ?_)
   ·(try dsimp only)
    (first | (with_reducible exact gH) | (with_reducible exact ⟨Below.alloc (gH) (gH).size _⟩))
   have gH1 := gH0 (by kernel_rfl)
   clear hK K gH0
   clear gH; have gH := gH1; clear gH1
   (try simp only [qs, Act.put])
   refine qP 10 _ ?_ rfl (.inl ⟨by rfl, ?_⟩) (fun _ => by assumption) ?_
   rotate_left
   ·(intro w hSw; go_simp)
    all_goals (with_reducible rfl)
   (try simp only [qs, Act.put])
   refine wpAnyT_ready (rs := [12]) (by kernel_rfl) (by simp) ?_
   refine AllReadyT.cons rfl (fun K hK => ?_) AllReadyT.nil
   obtain ⟨z0, z1, z2, z3, z4, z5, z6, z7, z8, z9, z10, z11, f0, f1, f2, f3, f4, f5, f6, f7, f8, f9, f10, f11⟩ := box12 HZ.out
   go_simp
   (refine k_nm (fun w12 hW12 => ?_); have HE := fin1 HPW HSZ gH (st12b HZ.out _ _ _ _ _ _ _ _ _ _ _ _ hW12); clear hW12 z0 z1 z2 z3 z4 z5 z6 z7 z8 z9 z10 z11 f0 f1 f2 f3 f4 f5 f6 f7 f8 f9 f10 f11)
   refine hK.out _ _ (noneB_off (by kernel_rfl)) (fun _ => ?_)
   clear hK K
   (try simp only [qs, Act.put])
   refine wpAnyT_done (by kernel_rfl) ?_ _
   have hE := HE.out; rw [HWR.out] at hE; exact hout.out _ _ _ _ _ _ _ _ _ _ _ _ _ hE.2.1 hE.1 hE.2.2
 ·skip
  go_simp
  (refine k_nm (fun w11 hW11 => ?_); have HB11 := hid (al_below hW11); have HSZ := hid gH.2.size; (try have HS := bk HB11 HS); have HZ := hid (al_new hW11); clear hW11)
  refine hK.out _ _ (fun _ => ?_) (fun gH0 => ?_)
  ·(try dsimp only)
   exact gH.go HB11.out
  have gH1 := gH0 (by kernel_rfl)
  clear hK K gH0
  clear gH; have gH := gH1; clear gH1
  (try simp only [qs, Act.put])
  refine wpAnyT_ready (rs := [2, 4]) (by kernel_rfl) (by simp) ?_
  refine AllReadyT.cons rfl (fun K hK => ?_) (AllReadyT.cons rfl (fun K hK => ?_) AllReadyT.nil)
  ·skip
   go_simp
   (go_at_call 14; (refine (HP1.out _).mono ?_); rintro e w2 ⟨rfl, rfl⟩)
   go_wp2_with fail
   refine hK.out _ _ (fun _ => ?_) (fun gH0 => ?_)
   ·(try dsimp only)
    exact gH
   have gH1 := gH0 (by kernel_rfl)
   clear hK K gH0
   clear gH; have gH := gH1; clear gH1
   (try simp only [qs, Act.put])
   refine qP 3 _ ?_ rfl (.inl ⟨by rfl, ?_⟩) (fun _ => by assumption) ?_
   rotate_left
   ·(intro w hSw; go_simp)
    all_goals (with_reducible rfl)
   (try simp only [qs, Act.put])
   refine wpAnyT_ready (rs := [4, 7]) (by kernel_rfl) (by simp) ?_
   refine AllReadyT.cons rfl (fun K hK => ?_) (AllReadyT.cons rfl (fun K hK => ?_) AllReadyT.nil)
   ·skip
    go_simp
    (refine k_nm (fun w4 hW4 => ?_); have HB4 := hid (al_below hW4); (try have HZ := bk HB4 HZ); have HS := hid (al_new hW4); clear hW4)
    refine hK.out _ _ (fun _ => ?_) (fun gH0 => ?_)
    ·(try dsimp only)
     exact gH.go HB4.out
    have gH1 := gH0 (by kernel_rfl)
    clear hK K gH0
    clear gH; have gH := gH1; clear gH1
    (try simp only [qs, Act.put])
    refine wpAnyT_ready (rs := [7]) (by kernel_rfl) (by simp) ?_
    refine AllReadyT.cons rfl (fun K hK => ?_) AllReadyT.nil
    go_simp
    (go_at_call 14; (refine (HP2.out _).mono ?_); rintro e w7 ⟨rfl, rfl⟩)
    go_wp2_with fail
    refine hK.out _ _ (fun _ => ?_) (fun gH0 => ?_)
    ·(try dsimp only)
     exact gH
    have gH1 := gH0 (by kernel_rfl)
    clear hK K gH0
    clear gH; have gH := gH1; clear gH1
    (try simp only [qs, Act.put])
    refine qP 8 _ ?_ rfl (.inl ⟨by rfl, ?_⟩) (fun _ => by assumption) ?_
    rotate_left
    ·(intro w hSw; go_simp)
     all_goals (with_reducible rfl)
    (try simp only [qs, Act.put])
    refine wpAnyT_ready (rs := [9]) (by kernel_rfl) (by simp) ?_
    refine AllReadyT.cons rfl (fun K hK => ?_) AllReadyT.nil
    have t0 := box2j HS.out HK.out.2
    go_simp
    refine hK.out _ _ (fun _ => ?_) (fun gH0 => ?_)
    ·(try dsimp only)
     (first | (with_reducible exact gH) | (with_reducible exact ⟨Below.alloc (gH) (gH).size _⟩))
    have gH1 := gH0 (by kernel_rfl)
    clear hK K gH0
    clear gH; have gH := gH1; clear gH1
    (try simp only [qs, Act.put])
    refine qP 10 _ ?_ rfl (.inl ⟨by rfl, ?_⟩) (fun _ => by assumption) ?_
    rotate_left
    ·(intro w hSw; go_simp)
     all_goals (with_reducible rfl)
    (try simp only [qs, Act.put])
    refine wpAnyT_ready (rs := [12]) (by kernel_rfl) (by simp) ?_
    refine AllReadyT.cons rfl (fun K hK => ?_) AllReadyT.nil
    obtain ⟨z0, z1, z2, z3, z4, z5, z6, z7, z8, z9, z10, z11, f0, f1, f2, f3, f4, f5, f6, f7, f8, f9, f10, f11⟩ := box12 HZ.out
    go_simp
    (refine k_nm (fun w12 hW12 => ?_); have HE := fin1 HPW HSZ gH (st12b HZ.out _ _ _ _ _ _ _ _ _ _ _ _ hW12); clear hW12 z0 z1 z2 z3 z4 z5 z6 z7 z8 z9 z10 z11 f0 f1 f2 f3 f4 f5 f6 f7 f8 f9 f10 f11)
    refine hK.out _ _ (noneB_off (by kernel_rfl)) (fun _ => ?_)
    clear hK K
    (try simp only [qs, Act.put])
    refine wpAnyT_done (by kernel_rfl) ?_ _
    have hE := HE.out; rw [HWR.out] at hE; exact hout.out _ _ _ _ _ _ _ _ _ _ _ _ _ hE.2.1 hE.1 hE.2.2
   ·skip
    go_simp
    (go_at_call 14; (refine (HP2.out _).mono ?_); rintro e w7 ⟨rfl, rfl⟩)
    go_wp2_with fail
    refine hK.out _ _ (fun _ => ?_) (fun gH0 => ?_)
    ·(try dsimp only)
     exact gH
    have gH1 := gH0 (by kernel_rfl)
    clear hK K gH0
    clear gH; have gH := gH1; clear gH1
    (try simp only [qs, Act.put])
    refine wpAnyT_ready (rs := [4]) (by kernel_rfl) (by simp) ?_
    refine AllReadyT.cons rfl (fun K hK => ?_) AllReadyT.nil
    go_simp
    (refine k_nm (fun w4 hW4 => ?_); have HB4 := hid (al_below hW4); (try have HZ := bk HB4 HZ); have HS := hid (al_new hW4); clear hW4)
    refine hK.out _ _ (fun _ => ?_) (fun gH0 => ?_)
    ·(try dsimp only)
     exact gH.go HB4.out
    have gH1 := gH0 (by kernel_rfl)
    clear hK K gH0
    clear gH; have gH := gH1; clear gH1
    (try simp only [qs, Act.put])
    refine qP 8 _ ?_ rfl (.inl ⟨by rfl, ?_⟩) (fun _ => by assumption) ?_
    rotate_left
    ·(intro w hSw; go_simp)
     all_goals (with_reducible rfl)
    (try simp only [qs, Act.put])
    refine wpAnyT_ready (rs := [9]) (by kernel_rfl) (by simp) ?_
    refine AllReadyT.cons rfl (fun K hK => ?_) AllReadyT.nil
    have t0 := box2j HS.out HK.out.2
    go_simp
    refine hK.out _ _ (fun _ => ?_) (fun gH0 => ?_)
    ·(try dsimp only)
     (first | (with_reducible exact gH) | (with_reducible exact ⟨Below.alloc (gH) (gH).size _⟩))
    have gH1 := gH0 (by kernel_rfl)
    clear hK K gH0
    clear gH; have gH := gH1; clear gH1
    (try simp only [qs, Act.put])
    refine qP 10 _ ?_ rfl (.inl ⟨by rfl, ?_⟩) (fun _ => by assumption) ?_
    rotate_left
    ·(intro w hSw; go_simp)
     all_goals (with_reducible rfl)
    (try simp only [qs, Act.put])
    refine wpAnyT_ready (rs := [12]) (by kernel_rfl) (by simp) ?_
    refine AllReadyT.cons rfl (fun K hK => ?_) AllReadyT.nil
    obtain ⟨z0, z1, z2, z3, z4, z5, z6, z7, z8, z9, z10, z11, f0, f1, f2, f3, f4, f5, f6, f7, f8, f9, f10, f11⟩ := box12 HZ.out
    go_simp
    (refine k_nm (fun w12 hW12 => ?_); have HE := fin1 HPW HSZ gH (st12b HZ.out _ _ _ _ _ _ _ _ _ _ _ _ hW12); clear hW12 z0 z1 z2 z3 z4 z5 z6 z7 z8 z9 z10 z11 f0 f1 f2 f3 f4 f5 f6 f7 f8 f9 f10 f11)
    refine hK.out _ _ (noneB_off (by kernel_rfl)) (fun _ => ?_)
    clear hK K
    (try simp only [qs, Act.put])
    refine wpAnyT_done (by kernel_rfl) ?_ _
    have hE := HE.out; rw [HWR.out] at hE; exact hout.out _ _ _ _ _ _ _ _ _ _ _ _ _ hE.2.1 hE.1 hE.2.2
  ·skip
   go_simp
   (refine k_nm (fun w4 hW4 => ?_); have HB4 := hid (al_below hW4); (try have HZ := bk HB4 HZ); have HS := hid (al_new hW4); clear hW4)
   refine hK.out _ _ (fun _ => ?_) (fun gH0 => ?_)
   ·(try dsimp only)
    exact gH.go HB4.out
   have gH1 := gH0 (by kernel_rfl)
   clear hK K gH0
   clear gH; have gH := gH1; clear gH1
   (try simp only [qs, Act.put])
   refine wpAnyT_ready (rs := [2]) (by kernel_rfl) (by simp) ?_
   refine AllReadyT.cons rfl (fun K hK => ?_) AllReadyT.nil
   go_simp
   (go_at_call 14; (refine (HP1.out _).mono ?_); rintro e w2 ⟨rfl, rfl⟩)
   go_wp2_with fail
   refine hK.out _ _ (fun _ => ?_) (fun gH0 => ?_)
   ·(try dsimp only)
    exact gH
   have gH1 := gH0 (by kernel_rfl)
   clear hK K gH0
   clear gH; have gH := gH1; clear gH1
   (try simp only [qs, Act.put])
   refine qP 3 _ ?_ rfl (.inl ⟨by rfl, ?_⟩) (fun _ => by assumption) ?_
   rotate_left
   ·(intro w hSw; go_simp)
    all_goals (with_reducible rfl)
   (try simp only [qs, Act.put])
   refine wpAnyT_ready (rs := [7]) (by kernel_rfl) (by simp) ?_
   refine AllReadyT.cons rfl (fun K hK => ?_) AllReadyT.nil
   go_simp
   (go_at_call 14; (refine (HP2.out _).mono ?_); rintro e w7 ⟨rfl, rfl⟩)
   go_wp2_with fail
   refine hK.out _ _ (fun _ => ?_) (fun gH0 => ?_)
   ·(try dsimp only)
    exact gH
   have gH1 := gH0 (by kernel_rfl)
   clear hK K gH0
   clear gH; have gH := gH1; clear gH1
   (try simp only [qs, Act.put])
   refine qP 8 _ ?_ rfl (.inl ⟨by rfl, ?_⟩) (fun _ => by assumption) ?_
   rotate_left
   ·(intro w hSw; go_simp)
    all_goals (with_reducible rfl)
   (try simp only [qs, Act.put])
   refine wpAnyT_ready (rs := [9]) (by kernel_rfl) (by simp) ?_
   refine AllReadyT.cons rfl (fun K hK => ?_) AllReadyT.nil
   have t0 := box2j HS.out HK.out.2
   go_simp
   refine hK.out _ _ (fun _ => ?_) (fun gH0 => ?_)
   ·(try dsimp only)
    (first | (with_reducible exact gH) | (with_reducible exact ⟨Below.alloc (gH) (gH).size _⟩))
   have gH1 := gH0 (by kernel_rfl)
   clear hK K gH0
   clear gH; have gH := gH1; clear gH1
   (try simp only [qs, Act.put])
   refine qP 10 _ ?_ rfl (.inl ⟨by rfl, ?_⟩) (fun _ => by assumption) ?_
   rotate_left
   ·(intro w hSw; go_simp)
    all_goals (with_reducible rfl)
   (try simp only [qs, Act.put])
   refine wpAnyT_ready (rs := [12]) (by kernel_rfl) (by simp) ?_
   refine AllReadyT.cons rfl (fun K hK => ?_) AllReadyT.nil
   obtain ⟨z0, z1, z2, z3, z4, z5, z6, z7, z8, z9, z10, z11, f0, f1, f2, f3, f4, f5, f6, f7, f8, f9, f10, f11⟩ := box12 HZ.out
   go_simp
   (refine k_nm (fun w12 hW12 => ?_); have HE := fin1 HPW HSZ gH (st12b HZ.out _ _ _ _ _ _ _ _ _ _ _ _ hW12); clear hW12 z0 z1 z2 z3 z4 z5 z6 z7 z8 z9 z10 z11 f0 f1 f2 f3 f4 f5 f6 f7 f8 f9 f10 f11)
   refine hK.out _ _ (noneB_off (by kernel_rfl)) (fun _ => ?_)
   clear hK K
   (try simp only [qs, Act.put])
   refine wpAnyT_done (by kernel_rfl) ?_ _
   have hE := HE.out; rw [HWR.out] at hE; exact hout.out _ _ _ _ _ _ _ _ _ _ _ _ _ hE.2.1 hE.1 hE.2.2
open Go.Proofs.YtdeollmeljaaoaaDoor.cs Go.Proofs.YtdeollmeljaaoaaDoor.tw
theorem own_blk {w : World} {b s n E : Nat} {xs : List Value} {e : TypeId} (h : w.heap[b]? = some (.cells xs.toArray e (0, 0))) (hl : xs.length = n * s) (hn : n ≤ 1000) (hE : E ≤ b) : w.ownsRow E e s (.slice (some ⟨b, 0, none⟩) n n) n xs :=
 ⟨hl, .inr ⟨b, n, xs.toArray, rfl, hE, h, Nat.le_refl _, by unfold maxLen; omega, by simpa using hl, by rw [List.take_of_length_le]; simp; omega⟩⟩
theorem cut_small (t : ByteArray) : (⟨#[]⟩ ++ cutS t 2 : ByteArray).size ≤ maxLen := by
 have h := (cut_size t 2).1
 have e : (⟨#[]⟩ ++ cutS t 2 : ByteArray).size = 0 + (cutS t 2).size := ByteArray.size_append
 rw [e]
 unfold maxLen
 omega
theorem sreg6 (Q : Exit → Act → World → Prop) {c0 c2 c4 c5 c6 c7 c8 c9 c10 c11 c12 c13 c14 c15 c16 c17 c18 c19 c20 c21 c22 c23 c24 c25 c26 c27 c28 c29 c30 c31 c32 c33 c34 c35 c36 c37 c38 c39 c40 c41 c42 c43 c44 c45 c46 c47 c48 c49 c50 c51 c52 c53 c54 c55 c56 c57 c58 c59 c60 c61 c62 c63 c64 c65 c66 c67 c68 c69 c70 c71 c72 c73 c74 c75 c76 c77 c78 c79 c80 c81 c82 c83 c84 c85 c86 c87 c88 c89 c90 c91 c92 c93 c94 c95 c96 c97 c98 c99 c100 c101 c102 c103 c104 c105 c106 c107 c108 c109 c110 : Value} (f : Ph) (P S R E : Nat) (s : Sq) (p : Ps) (x y : Int) (W0 w0 : World) (HSV : Hid (Sv f P S R E s p W0 w0))
  (HP1 : Hid (∀ W, Calls Tryd.prog 14 #[.int .i64 f.a, .int .i64 12] W fun e w' => e = .returned (.int .i64 x) ∧ W = w')) (HP2 : Hid (∀ W, Calls Tryd.prog 14 #[.int .i64 f.b, .int .i64 9] W fun e w' => e = .returned (.int .i64 y) ∧ W = w'))
  (HWO : Hid (∀ W, Below W0.heap.size W0 W → Calls Tryd.prog 21 #[phV f] W fun e w' => ∃ t : ByteArray, e = .returned (.string t) ∧ t.size ≤ maxLen ∧ Below W.heap.size W w'))
  (HCU : Hid (∀ t W, t.size ≤ maxLen → Calls Tryd.prog 20 #[.string t, .int .i64 2] W fun e w' => e = .returned (.string (cutS t 2)) ∧ W = w'))
  (HWD : Hid (∀ t W, t.size ≤ maxLen → Calls Tryd.prog 19 #[.string t] W (WordIs W)))
  (HTR : Hid (∀ W, Calls Tryd.prog 22 #[.int .i64 f.b] W fun e w' => e = .returned (.agg #[.int .i64 (truV f.b).k, .int .i64 (truV f.b).n, .string (truV f.b).t]) ∧ Below W.heap.size W w'))
  (hout : Hid (∀ (u23 u24 u25 u26 u27 u28 u29 u30 u31 u32 u33 u34 u35 u36 u37 u38 u39 u40 u41 : Value) (u : List UInt8) (B : Nat) (w' : World), Lw u → Sv f P S R E { s with row := [⟨2, x, ⟨#[]⟩⟩, ⟨2, y, ⟨#[]⟩⟩, ⟨3, 0, ⟨u.toArray⟩⟩, truV f.b] } { p with a3 := some ⟨B, 0, none⟩, n3 := 4, c3 := 4 } W0 w' → Q .normal ⟨List.toArray (c0 :: (.pointer (some ⟨P, 0, none⟩)) :: c2 :: (.pointer (some ⟨S, 0, none⟩)) :: c4 :: c5 :: c6 :: c7 :: c8 :: c9 :: c10 :: c11 :: c12 :: c13 :: c14 :: c15 :: c16 :: c17 :: c18 :: c19 :: c20 :: c21 :: c22 :: u23 :: u24 :: u25 :: u26 :: u27 :: u28 :: u29 :: u30 :: u31 :: u32 :: u33 :: u34 :: u35 :: u36 :: u37 :: u38 :: u39 :: u40 :: u41 :: c42 :: c43 :: c44 :: c45 :: c46 :: c47 :: c48 :: c49 :: c50 :: c51 :: c52 :: c53 :: c54 :: c55 :: c56 :: c57 :: c58 :: c59 :: c60 :: c61 :: c62 :: c63 :: c64 :: c65 :: c66 :: c67 :: c68 :: c69 :: c70 :: c71 :: c72 :: c73 :: c74 :: c75 :: c76 :: c77 :: c78 :: c79 :: c80 :: c81 :: c82 :: c83 :: c84 :: c85 :: c86 :: c87 :: c88 :: c89 :: c90 :: c91 :: c92 :: c93 :: c94 :: c95 :: c96 :: c97 :: c98 :: c99 :: c100 :: c101 :: c102 :: c103 :: c104 :: c105 :: c106 :: c107 :: c108 :: c109 :: c110 :: []), []⟩ w')) :
  Code.wp Tryd.prog ((regionOf 6 (Tryd.f9.body.getD .skip)).getD .skip) Q ⟨List.toArray (c0 :: (.pointer (some ⟨P, 0, none⟩)) :: c2 :: (.pointer (some ⟨S, 0, none⟩)) :: c4 :: c5 :: c6 :: c7 :: c8 :: c9 :: c10 :: c11 :: c12 :: c13 :: c14 :: c15 :: c16 :: c17 :: c18 :: c19 :: c20 :: c21 :: c22 :: c23 :: c24 :: c25 :: c26 :: c27 :: c28 :: c29 :: c30 :: c31 :: c32 :: c33 :: c34 :: c35 :: c36 :: c37 :: c38 :: c39 :: c40 :: c41 :: c42 :: c43 :: c44 :: c45 :: c46 :: c47 :: c48 :: c49 :: c50 :: c51 :: c52 :: c53 :: c54 :: c55 :: c56 :: c57 :: c58 :: c59 :: c60 :: c61 :: c62 :: c63 :: c64 :: c65 :: c66 :: c67 :: c68 :: c69 :: c70 :: c71 :: c72 :: c73 :: c74 :: c75 :: c76 :: c77 :: c78 :: c79 :: c80 :: c81 :: c82 :: c83 :: c84 :: c85 :: c86 :: c87 :: c88 :: c89 :: c90 :: c91 :: c92 :: c93 :: c94 :: c95 :: c96 :: c97 :: c98 :: c99 :: c100 :: c101 :: c102 :: c103 :: c104 :: c105 :: c106 :: c107 :: c108 :: c109 :: c110 :: []), []⟩ w0 := by
 refine Code.wp_mono (Q := NQ Q) nq_to ?_
 conv => arg 2; whnf
 refine wpT_begin2 (S := (Sv f P S R E s p W0)) [19] (by kernel_rfl) ?_ (fun Wd gH => ?_)
 ·(try dsimp only)
  exact HSV.out.go (Below.refl _ _).drew
 refine qP 0 _ ?_ rfl (.inl ⟨by rfl, ?_⟩) (fun _ => by assumption) ?_
 rotate_left
 ·(intro w hSw; go_simp)
  all_goals (with_reducible rfl)
 (try simp only [qs, Act.put])
 refine qT 1 _ ?_ rfl (.inl ⟨by rfl, ?_⟩) (by assumption) ?_
 rotate_left
 ·(intro w hSw; (try dsimp only at hSw); obtain ⟨y0, y1, y2, y3, y4, y5, y6, y7, y8, y9, y10, y11, y12, y13⟩ := box14 hSw.ph; go_simp)
  all_goals (with_reducible rfl)
 (try simp only [qs, Act.put])
 refine qP 4 _ ?_ rfl (.inl ⟨by rfl, ?_⟩) (fun _ => by assumption) ?_
 rotate_left
 ·(intro w hSw; go_simp)
  all_goals (with_reducible rfl)
 (try simp only [qs, Act.put])
 refine qT 5 _ ?_ rfl (.inl ⟨by rfl, ?_⟩) (by assumption) ?_
 rotate_left
 ·(intro w hSw; (try dsimp only at hSw); obtain ⟨y0, y1, y2, y3, y4, y5, y6, y7, y8, y9, y10, y11, y12, y13⟩ := box14 hSw.ph; go_simp)
  all_goals (with_reducible rfl)
 (try simp only [qs, Act.put])
 refine qT 8 _ ?_ rfl (.inl ⟨by rfl, ?_⟩) (by assumption) ?_
 rotate_left
 ·(intro w hSw; (try dsimp only at hSw); obtain ⟨y0, y1, y2, y3, y4, y5, y6, y7, y8, y9, y10, y11, y12, y13⟩ := box14 hSw.ph; go_simp)
  all_goals (with_reducible rfl)
 (try simp only [qs, Act.put])
 refine qP 14 _ ?_ rfl (.inl ⟨by rfl, ?_⟩) (fun _ => by assumption) ?_
 rotate_left
 ·(intro w hSw; go_simp)
  all_goals (with_reducible rfl)
 (try simp only [qs, Act.put])
 refine qT 15 _ ?_ rfl (.inl ⟨by rfl, ?_⟩) (by assumption) ?_
 rotate_left
 ·(intro w hSw; (try dsimp only at hSw); obtain ⟨y0, y1, y2, y3, y4, y5, y6, y7, y8, y9, y10, y11, y12, y13⟩ := box14 hSw.ph; go_simp)
  all_goals (with_reducible rfl)
 (try simp only [qs, Act.put])
 refine wpAnyT_ready (rs := [2]) (by kernel_rfl) (by simp) ?_
 refine AllReadyT.cons rfl (fun K hK => ?_) AllReadyT.nil
 go_simp
 (go_at_call 14; (refine (HP1.out _).mono ?_); rintro e w2 ⟨rfl, rfl⟩)
 go_wp2_with fail
 refine hK.out _ _ (fun _ => ?_) (fun gH0 => ?_)
 ·(try dsimp only)
  exact gH
 have gH1 := gH0 (by kernel_rfl)
 clear hK K gH0
 clear gH; have gH := gH1; clear gH1
 (try simp only [qs, Act.put])
 refine qP 3 _ ?_ rfl (.inl ⟨by rfl, ?_⟩) (fun _ => by assumption) ?_
 rotate_left
 ·(intro w hSw; go_simp)
  all_goals (with_reducible rfl)
 (try simp only [qs, Act.put])
 refine wpAnyT_ready (rs := [6]) (by kernel_rfl) (by simp) ?_
 refine AllReadyT.cons rfl (fun K hK => ?_) AllReadyT.nil
 go_simp
 (go_at_call 14; (refine (HP2.out _).mono ?_); rintro e w6 ⟨rfl, rfl⟩)
 go_wp2_with fail
 refine hK.out _ _ (fun _ => ?_) (fun gH0 => ?_)
 ·(try dsimp only)
  exact gH
 have gH1 := gH0 (by kernel_rfl)
 clear hK K gH0
 clear gH; have gH := gH1; clear gH1
 (try simp only [qs, Act.put])
 refine qP 7 _ ?_ rfl (.inl ⟨by rfl, ?_⟩) (fun _ => by assumption) ?_
 rotate_left
 ·(intro w hSw; go_simp)
  all_goals (with_reducible rfl)
 (try simp only [qs, Act.put])
 refine wpAnyT_ready (rs := [9]) (by kernel_rfl) (by simp) ?_
 refine AllReadyT.cons rfl (fun K hK => ?_) AllReadyT.nil
 go_simp
 (go_at_call 21; (refine (HWO.out _ gH.hb).mono ?_); rintro e w9 ⟨t9, rfl, hz9, hb9⟩; have HB9 := hid hb9; have HZ9 := hid hz9; clear hb9 hz9)
 go_wp2_with fail
 refine hK.out _ _ (fun _ => ?_) (fun gH0 => ?_)
 ·(try dsimp only)
  exact gH.go HB9.out
 have gH1 := gH0 (by kernel_rfl)
 clear hK K gH0
 clear gH; have gH := gH1; clear gH1
 (try simp only [qs, Act.put])
 refine wpAnyT_ready (rs := [10]) (by kernel_rfl) (by simp) ?_
 refine AllReadyT.cons rfl (fun K hK => ?_) AllReadyT.nil
 go_simp
 (go_at_call 20; (refine (HCU.out _ _ HZ9.out).mono ?_); rintro e w10 ⟨rfl, rfl⟩; have hn10 : ¬ (9223372036854775807 < (cutS t9 2).size) := (by have := (cut_size t9 2).1; omega))
 go_wp2_with fail
 refine hK.out _ _ (fun _ => ?_) (fun gH0 => ?_)
 ·(try dsimp only)
  exact gH
 have gH1 := gH0 (by kernel_rfl)
 clear hK K gH0
 clear gH; have gH := gH1; clear gH1
 (try simp only [qs, Act.put])
 refine qP 11 _ ?_ rfl (.inl ⟨by rfl, ?_⟩) (fun _ => by assumption) ?_
 rotate_left
 ·(intro w hSw; go_simp)
  all_goals (with_reducible rfl)
 (try simp only [qs, Act.put])
 refine wpAnyT_ready (rs := [12]) (by kernel_rfl) (by simp) ?_
 refine AllReadyT.cons rfl (fun K hK => ?_) AllReadyT.nil
 go_simp
 (go_at_call 19; (refine (HWD.out _ _ (cut_small t9)).mono ?_); rintro e w12 ⟨u12, rfl, hu12, hb12⟩; have HB12 := hid hb12; have HU := hid hu12; clear hb12 hu12)
 go_wp2_with fail
 refine hK.out _ _ (fun _ => ?_) (fun gH0 => ?_)
 ·(try dsimp only)
  exact gH.go HB12.out
 have gH1 := gH0 (by kernel_rfl)
 clear hK K gH0
 clear gH; have gH := gH1; clear gH1
 (try simp only [qs, Act.put])
 refine qP 13 _ ?_ rfl (.inl ⟨by rfl, ?_⟩) (fun _ => by assumption) ?_
 rotate_left
 ·(intro w hSw; go_simp)
  all_goals (with_reducible rfl)
 (try simp only [qs, Act.put])
 refine wpAnyT_ready (rs := [16]) (by kernel_rfl) (by simp) ?_
 refine AllReadyT.cons rfl (fun K hK => ?_) AllReadyT.nil
 go_simp
 (go_at_call 22; (refine (HTR.out _).mono ?_); rintro e w16 ⟨rfl, hb16⟩; have HB16 := hid hb16; clear hb16)
 go_wp2_with fail
 refine hK.out _ _ (fun _ => ?_) (fun gH0 => ?_)
 ·(try dsimp only)
  exact gH.go HB16.out
 have gH1 := gH0 (by kernel_rfl)
 clear hK K gH0
 clear gH; have gH := gH1; clear gH1
 (try simp only [qs, Act.put])
 refine wpAnyT_ready (rs := [17]) (by kernel_rfl) (by simp) ?_
 refine AllReadyT.cons rfl (fun K hK => ?_) AllReadyT.nil
 go_simp
 (refine k_nm (fun w17 hW17 => ?_); have HB17 := hid (al_below hW17); have HEB := hid gH.wf.2.2.2.2; have HN := hid (al_new hW17); clear hW17)
 refine hK.out _ _ (fun _ => ?_) (fun gH0 => ?_)
 ·(try dsimp only)
  exact gH.go HB17.out
 have gH1 := gH0 (by kernel_rfl)
 clear hK K gH0
 clear gH; have gH := gH1; clear gH1
 (try simp only [qs, Act.put])
 refine qP 18 _ ?_ rfl (.inl ⟨by rfl, ?_⟩) (fun _ => by assumption) ?_
 rotate_left
 ·(intro w hSw; go_simp)
  all_goals (with_reducible rfl)
 (try simp only [qs, Act.put])
 refine wpAnyT_ready (rs := [19]) (by kernel_rfl) (by simp) ?_
 refine AllReadyT.cons rfl (fun K hK => ?_) AllReadyT.nil
 obtain ⟨z0, z1, z2, z3, z4, z5, z6, z7, z8, z9, z10, z11, f0, f1, f2, f3, f4, f5, f6, f7, f8, f9, f10, f11⟩ := box12 gH.bx
 go_simp
 (refine k_nm (fun w19 hW19 => ?_); clear z0 z1 z2 z3 z4 z5 z6 z7 z8 z9 z10 z11 f0 f1 f2 f3 f4 f5 f6 f7 f8 f9 f10 f11; have HX := hid (gH.put (s' := { s with row := [⟨2, x, ⟨#[]⟩⟩, ⟨2, y, ⟨#[]⟩⟩, ⟨3, 0, ⟨u12.toArray⟩⟩, truV f.b] }) (p' := { p with a3 := some ⟨_, 0, none⟩, n3 := 4, c3 := 4 }) 3 (.slice (some ⟨_, 0, none⟩) 4 4) rfl ⟨gH.ow.o2, own_blk (xs := vc [⟨2, x, ⟨#[]⟩⟩, ⟨2, y, ⟨#[]⟩⟩, ⟨3, 0, ⟨u12.toArray⟩⟩, truV f.b]) HN.out rfl (by show (4 : Nat) ≤ 1000; omega) HEB.out, gH.ow.o4, gH.ow.o6, gH.ow.o11⟩); rw [← hW19] at HX; clear hW19)
 refine hK.out _ _ (noneB_off (by kernel_rfl)) (fun _ => ?_)
 clear hK K
 (try simp only [qs, Act.put])
 refine wpAnyT_done (by kernel_rfl) ?_ _
 exact hout.out _ _ _ _ _ _ _ _ _ _ _ _ _ _ _ _ _ _ _ _ _ _ HU.out HX.out
end Go.Proofs.YtdeollmeljaaoaaDoor.rd

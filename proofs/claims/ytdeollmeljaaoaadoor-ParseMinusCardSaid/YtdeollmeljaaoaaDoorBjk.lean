import Derived.Test.YtdeollmeljaaoaaDoorBdk
import Derived.Deep.DeepCutAuto
/- Region 7 of ParseMinus, in every order. -/
namespace Go.Proofs.YtdeollmeljaaoaaDoor.rd
open Go.ChangeShapes Go.WideShapes Go.ChangeAt Go.RowKit Go.Joins
open Go.Proofs.YtdeollmeljaaoaaDoor.cs
set_option linter.unusedVariables false
set_option linter.unusedSimpArgs false
set_option maxHeartbeats 8000000
set_option maxRecDepth 100000
theorem reg7 (Q : Exit → Act → World → Prop) (c0 c1 c2 c3 c8 c9 c10 c11 c12 c13 c14 c15 c16 c17 c18 c19 c20 c21 c22 c23 c24 c25 c26 c27 c28 c29 c30 c31 c32 c33 c34 c35 c36 c37 c38 c39 c40 c41 c42 c43 c44 c45 c46 c47 c48 c49 c50 c51 c52 c53 c54 c55 c56 c57 c58 c59 c60 c61 c62 c63 c64 c65 c66 c67 c68 c69 c70 c71 c72 c73 c74 c75 c76 c77 c78 c79 c80 c81 c82 c83 c84 c85 c86 c87 c88 c89 c90 c91 c92 c93 c94 c95 c96 c97 c98 c99 c100 c101 c102 c103 c104 c105 c106 c107 c108 c109 c110 c111 c112 c113 c114 c115 c116 c117 c118 c119 c120 c121 c122 c123 c124 c125 c126 c127 c128 c129 c130 c131 c132 c133 c134 c135 c136 c137 c138 c139 c140 c141 c142 c143 c144 c145 c146 c147 c148 c149 c150 c151 c152 c153 c154 c155 c156 c157 c158 c159 c160 c161 c162 c163 c164 c165 c166 c167 c168 c169 c170 c171 c172 c173 c174 c175 c176 c177 c178 : Value) (x : Int) (X H : Nat) (W w0 : World) (hL : Tbq W) (HBW : Hid (Below W.heap.size W w0)) (HX : Hid (0 ≤ x ∧ x < 4611686018427387904))
    (HH : Hid (Rd w0 3 4 (.slice (some ⟨H, 0, none⟩) 4 4) (tkc headT))) (HT : Hid (Tri x X w0 w0))
    (HW : Hid (∀ s w, Calls Tryd.prog 16 #[.string s] w fun e w' => e = .returned (.agg #[.int .i64 1, .string s, .int .i64 0]) ∧ Below w.heap.size w w'))
    (hout : Hid (∀ (u48 u49 u50 u51 u52 u53 u54 u55 u56 u57 u58 u59 u60 : Value) (s : Value) (w' : World), Got w0 (delS [colx, liq x, opO 9]) s w' → Q .normal ⟨List.toArray (c0 :: c1 :: c2 :: c3 :: (.pointer (some ⟨X, 0, none⟩)) :: (.pointer (some ⟨X + 1, 0, none⟩)) :: (.func (.func 16) #[] #[]) :: (.slice (some ⟨H, 0, none⟩) 4 4) :: c8 :: c9 :: c10 :: s :: (.int .i64 0) :: (.int .i64 0) :: c14 :: c15 :: c16 :: c17 :: c18 :: c19 :: c20 :: c21 :: c22 :: c23 :: c24 :: c25 :: c26 :: c27 :: c28 :: c29 :: c30 :: c31 :: c32 :: c33 :: c34 :: c35 :: c36 :: c37 :: c38 :: c39 :: c40 :: c41 :: c42 :: c43 :: c44 :: c45 :: c46 :: c47 :: u48 :: u49 :: u50 :: u51 :: u52 :: u53 :: u54 :: u55 :: u56 :: u57 :: u58 :: u59 :: u60 :: c61 :: c62 :: c63 :: c64 :: c65 :: c66 :: c67 :: c68 :: c69 :: c70 :: c71 :: c72 :: c73 :: c74 :: c75 :: c76 :: c77 :: c78 :: c79 :: c80 :: c81 :: c82 :: c83 :: c84 :: c85 :: c86 :: c87 :: c88 :: c89 :: c90 :: c91 :: c92 :: c93 :: c94 :: c95 :: c96 :: c97 :: c98 :: c99 :: c100 :: c101 :: c102 :: c103 :: c104 :: c105 :: c106 :: c107 :: c108 :: c109 :: c110 :: c111 :: c112 :: c113 :: c114 :: c115 :: c116 :: c117 :: c118 :: c119 :: c120 :: c121 :: c122 :: c123 :: c124 :: c125 :: c126 :: c127 :: c128 :: c129 :: c130 :: c131 :: c132 :: c133 :: c134 :: c135 :: c136 :: c137 :: c138 :: c139 :: c140 :: c141 :: c142 :: c143 :: c144 :: c145 :: c146 :: c147 :: c148 :: c149 :: c150 :: c151 :: c152 :: c153 :: c154 :: c155 :: c156 :: c157 :: c158 :: c159 :: c160 :: c161 :: c162 :: c163 :: c164 :: c165 :: c166 :: c167 :: c168 :: c169 :: c170 :: c171 :: c172 :: c173 :: c174 :: c175 :: c176 :: c177 :: c178 :: []), []⟩ w')) :
    Code.wp Tryd.prog ((regionOf 7 (Tryd.f7.body.getD .skip)).getD .skip) Q ⟨List.toArray (c0 :: c1 :: c2 :: c3 :: (.pointer (some ⟨X, 0, none⟩)) :: (.pointer (some ⟨X + 1, 0, none⟩)) :: (.func (.func 16) #[] #[]) :: (.slice (some ⟨H, 0, none⟩) 4 4) :: c8 :: c9 :: c10 :: c11 :: c12 :: c13 :: c14 :: c15 :: c16 :: c17 :: c18 :: c19 :: c20 :: c21 :: c22 :: c23 :: c24 :: c25 :: c26 :: c27 :: c28 :: c29 :: c30 :: c31 :: c32 :: c33 :: c34 :: c35 :: c36 :: c37 :: c38 :: c39 :: c40 :: c41 :: c42 :: c43 :: c44 :: c45 :: c46 :: c47 :: c48 :: c49 :: c50 :: c51 :: c52 :: c53 :: c54 :: c55 :: c56 :: c57 :: c58 :: c59 :: c60 :: c61 :: c62 :: c63 :: c64 :: c65 :: c66 :: c67 :: c68 :: c69 :: c70 :: c71 :: c72 :: c73 :: c74 :: c75 :: c76 :: c77 :: c78 :: c79 :: c80 :: c81 :: c82 :: c83 :: c84 :: c85 :: c86 :: c87 :: c88 :: c89 :: c90 :: c91 :: c92 :: c93 :: c94 :: c95 :: c96 :: c97 :: c98 :: c99 :: c100 :: c101 :: c102 :: c103 :: c104 :: c105 :: c106 :: c107 :: c108 :: c109 :: c110 :: c111 :: c112 :: c113 :: c114 :: c115 :: c116 :: c117 :: c118 :: c119 :: c120 :: c121 :: c122 :: c123 :: c124 :: c125 :: c126 :: c127 :: c128 :: c129 :: c130 :: c131 :: c132 :: c133 :: c134 :: c135 :: c136 :: c137 :: c138 :: c139 :: c140 :: c141 :: c142 :: c143 :: c144 :: c145 :: c146 :: c147 :: c148 :: c149 :: c150 :: c151 :: c152 :: c153 :: c154 :: c155 :: c156 :: c157 :: c158 :: c159 :: c160 :: c161 :: c162 :: c163 :: c164 :: c165 :: c166 :: c167 :: c168 :: c169 :: c170 :: c171 :: c172 :: c173 :: c174 :: c175 :: c176 :: c177 :: c178 :: []), []⟩ w0 := by
  refine Code.wp_mono (Q := NQ Q) nq_to ?_
  conv => arg 2; whnf
  have HA : Hid (∀ w v, Below w0.heap.size w0 w → Rd w 3 (4 + 3) v (tkc (headT ++ [wd [120], mk_ [45], nu x])) → Calls Tryd.prog 12 #[v] w (Pz w (delS [colx, liq x, opO 9], 0, 0))) := fun w v hb h => by
    have := parse_any w 7 _ _ (hL.below (HBW.out.trans (hb.mono HBW.out.size))) h (tok_z HX.out.2 _ (by have h0 := HX.out.2; refine List.forall_mem_append.2 ⟨head_sz, ?_⟩; simp; try omega))
    rwa [p_sub HX.out.1] at this
  refine wpT_begin2 (S := (Tri x X w0)) [14] (by kernel_rfl) ?_ (fun Wd hHeld => ?_)
  · (try dsimp only)
    exact HT.out.go HT.out (Below.refl _ _).drew
  refine wpAnyT_pure (i := 0) (oi := _) (v := ?_) rfl (by kernel_rfl) (by kernel_rfl) (by kernel_rfl) (by kernel_rfl) (fun _ _ _ h => h) (Or.inl ⟨by rfl, ?_⟩) (fun _ => by assumption) ?_
  rotate_left
  · (intro w hSw; go_simp)
    all_goals (with_reducible rfl)
  (try simp only [List.getElem_toArray, List.getElem_cons_zero, List.getElem_cons_succ, Act.put, List.setIfInBounds_toArray, List.set_cons_zero, List.set_cons_succ])
  refine wpAnyT_pure (i := 2) (oi := _) (v := ?_) rfl (by kernel_rfl) (by kernel_rfl) (by kernel_rfl) (by kernel_rfl) (fun _ _ _ h => h) (Or.inl ⟨by rfl, ?_⟩) (fun _ => by assumption) ?_
  rotate_left
  · (intro w hSw; go_simp)
    all_goals (with_reducible rfl)
  (try simp only [List.getElem_toArray, List.getElem_cons_zero, List.getElem_cons_succ, Act.put, List.setIfInBounds_toArray, List.set_cons_zero, List.set_cons_succ])
  refine wpAnyT_take (i := 4) (oi := _) (v := ?_) rfl (by kernel_rfl) (by kernel_rfl) (by kernel_rfl) (by kernel_rfl) (fun _ _ _ h => h) (Or.inl ⟨by rfl, ?_⟩) (by assumption) ?_
  rotate_left
  · (intro w hSw; (try dsimp only at hSw); obtain ⟨s0, s1, s2, s3, s4, s5, -⟩ := hSw; go_simp)
    all_goals (with_reducible rfl)
  (try simp only [List.getElem_toArray, List.getElem_cons_zero, List.getElem_cons_succ, Act.put, List.setIfInBounds_toArray, List.set_cons_zero, List.set_cons_succ])
  refine wpAnyT_take (i := 5) (oi := _) (v := ?_) rfl (by kernel_rfl) (by kernel_rfl) (by kernel_rfl) (by kernel_rfl) (fun _ _ _ h => h) (Or.inl ⟨by rfl, ?_⟩) (by assumption) ?_
  rotate_left
  · (intro w hSw; (try dsimp only at hSw); obtain ⟨s0, s1, s2, s3, s4, s5, -⟩ := hSw; go_simp)
    all_goals (with_reducible rfl)
  (try simp only [List.getElem_toArray, List.getElem_cons_zero, List.getElem_cons_succ, Act.put, List.setIfInBounds_toArray, List.set_cons_zero, List.set_cons_succ])
  refine wpAnyT_ready (rs := [1, 13]) (by kernel_rfl) (by simp) ?_
  refine AllReadyT.cons rfl (fun K hK => ?_) (AllReadyT.cons rfl (fun K hK => ?_) AllReadyT.nil)
  · skip
    (refine stap0 w0.heap.size 4 _ headT (by rfl) _ _ (by rfl) (HH.out.below hHeld.2.2.2.2.2.2) (by omega) hHeld.2.2.2.2.2.2.size (by omega) (by rfl) (by rfl) ?_; intro g1 q1 w1 ho1 hb1; have HB1 := Lib.hid hb1; (try (have h' := Lib.hid (HR.out.below HB1.out); clear HR; have HR := h'; clear h')); (try (have h' := Lib.hid ((HB1.out.block _ (blk_lt HZ.out)).trans HZ.out); clear HZ; have HZ := h'; clear h')); (try (have h' := Lib.hid (HS.out.far fun k hk hl => HB1.out.block k hl); clear HS; have HS := h'; clear h')); have HO := Lib.hid ho1; clear ho1 hb1)
    refine hK.out _ _ (fun _ => ?_) (fun hHeld0 => ?_)
    · (try dsimp only)
      exact HT.out.go hHeld HB1.out
    have hHeld1 := hHeld0 (by kernel_rfl)
    clear hK K hHeld0
    clear hHeld; have hHeld := hHeld1; clear hHeld1
    (try simp only [List.getElem_toArray, List.getElem_cons_zero, List.getElem_cons_succ, Act.put, List.setIfInBounds_toArray, List.set_cons_zero, List.set_cons_succ])
    refine wpAnyT_ready (rs := [3, 13]) (by kernel_rfl) (by simp) ?_
    refine AllReadyT.cons rfl (fun K hK => ?_) (AllReadyT.cons rfl (fun K hK => ?_) AllReadyT.nil)
    · skip
      go_simp
      (go_at_call 16; (refine (HW.out _ _).mono ?_); rintro e w2 ⟨rfl, hb2⟩; have HB2 := Lib.hid hb2; clear hb2; (try (have h' := Lib.hid (own_below HO.out HB2.out); clear HO; have HO := h'; clear h')); (try (have h' := Lib.hid (HR.out.below HB2.out); clear HR; have HR := h'; clear h')); (try (have h' := Lib.hid ((HB2.out.block _ (blk_lt HZ.out)).trans HZ.out); clear HZ; have HZ := h'; clear h')); (try (have h' := Lib.hid (HS.out.far fun k hk hl => HB2.out.block k hl); clear HS; have HS := h'; clear h')))
      go_wp2_with fail
      refine hK.out _ _ (fun _ => ?_) (fun hHeld0 => ?_)
      · (try dsimp only)
        exact HT.out.go hHeld HB2.out
      have hHeld1 := hHeld0 (by kernel_rfl)
      clear hK K hHeld0
      clear hHeld; have hHeld := hHeld1; clear hHeld1
      (try simp only [List.getElem_toArray, List.getElem_cons_zero, List.getElem_cons_succ, Act.put, List.setIfInBounds_toArray, List.set_cons_zero, List.set_cons_succ])
      refine wpAnyT_ready (rs := [6, 13]) (by kernel_rfl) (by simp) ?_
      refine AllReadyT.cons rfl (fun K hK => ?_) (AllReadyT.cons rfl (fun K hK => ?_) AllReadyT.nil)
      · skip
        go_simp
        (refine k_nm (fun w4 hW4 => ?_); have HB4 := Lib.hid (al_below hW4); (try (have h' := Lib.hid (own_below HO.out HB4.out); clear HO; have HO := h'; clear h')); (try (have h' := Lib.hid ((HB4.out.block _ (blk_lt HZ.out)).trans HZ.out); clear HZ; have HZ := h'; clear h')); (try (have h' := Lib.hid (HS.out.far fun k hk hl => HB4.out.block k hl); clear HS; have HS := h'; clear h')); have HR := Lib.hid (rd_blk (xs := tkc [wd [120], mk_ [45], nu x]) (n := 3) (s := 3) (al_new hW4) rfl (by omega)); clear hW4)
        refine hK.out _ _ (fun _ => ?_) (fun hHeld0 => ?_)
        · (try dsimp only)
          exact HT.out.go hHeld HB4.out
        have hHeld1 := hHeld0 (by kernel_rfl)
        clear hK K hHeld0
        clear hHeld; have hHeld := hHeld1; clear hHeld1
        (try simp only [List.getElem_toArray, List.getElem_cons_zero, List.getElem_cons_succ, Act.put, List.setIfInBounds_toArray, List.set_cons_zero, List.set_cons_succ])
        refine wpAnyT_ready (rs := [7, 13]) (by kernel_rfl) (by simp) ?_
        refine AllReadyT.cons rfl (fun K hK => ?_) (AllReadyT.cons rfl (fun K hK => ?_) AllReadyT.nil)
        · skip
          (refine stap w0.heap.size 4 3 _ _ headT [wd [120], mk_ [45], nu x] (by rfl) _ _ (by rfl) HO.out HR.out (by omega) hHeld.2.2.2.2.2.2.size (by omega) (by omega) (by rfl) (by rfl) ?_; intro g5 q5 w5 ho5 hb5 hg5; (try (have h' := Lib.hid (box_row HZ.out (by decide) HO.out hg5); clear HZ; have HZ := h'; clear h')); have HB5 := Lib.hid hb5; clear HO HR; have HO := Lib.hid ho5; clear ho5 hb5 hg5)
          refine hK.out _ _ (fun _ => ?_) (fun hHeld0 => ?_)
          · (try dsimp only)
            exact HT.out.step hHeld HB5.out
          have hHeld1 := hHeld0 (by kernel_rfl)
          clear hK K hHeld0
          clear hHeld; have hHeld := hHeld1; clear hHeld1
          (try simp only [List.getElem_toArray, List.getElem_cons_zero, List.getElem_cons_succ, Act.put, List.setIfInBounds_toArray, List.set_cons_zero, List.set_cons_succ])
          refine wpAnyT_ready (rs := [8, 13]) (by kernel_rfl) (by simp) ?_
          refine AllReadyT.cons rfl (fun K hK => ?_) (AllReadyT.cons rfl (fun K hK => ?_) AllReadyT.nil)
          · skip
            go_simp
            (go_at_call 12; (refine (HA.out _ _ hHeld.2.2.2.2.2.2 (Rd.own HO.out)).mono ?_); rintro e w6 ⟨⟨a2, n2, c2, a3, n3, c3, a4, n4, c4, a6, n6, c6, a11, n11, c11⟩, rfl, ho6, hb6⟩; have HB6 := Lib.hid hb6; clear HO; (try (have h' := Lib.hid (own_below HO.out HB6.out); clear HO; have HO := h'; clear h')); (try (have h' := Lib.hid (HR.out.below HB6.out); clear HR; have HR := h'; clear h')); (try (have h' := Lib.hid ((HB6.out.block _ (blk_lt HZ.out)).trans HZ.out); clear HZ; have HZ := h'; clear h')); (try (have h' := Lib.hid (HS.out.far fun k hk hl => HB6.out.block k hl); clear HS; have HS := h'; clear h')); have HS := Lib.hid ho6; clear ho6 hb6)
            go_wp2_with fail
            refine hK.out _ _ (fun _ => ?_) (fun hHeld0 => ?_)
            · (try dsimp only)
              exact HT.out.go hHeld HB6.out
            have hHeld1 := hHeld0 (by kernel_rfl)
            clear hK K hHeld0
            clear hHeld; have hHeld := hHeld1; clear hHeld1
            (try simp only [List.getElem_toArray, List.getElem_cons_zero, List.getElem_cons_succ, Act.put, List.setIfInBounds_toArray, List.set_cons_zero, List.set_cons_succ])
            refine wpAnyT_pure (i := 9) (oi := _) (v := ?_) rfl (by kernel_rfl) (by kernel_rfl) (by kernel_rfl) (by kernel_rfl) (fun _ _ _ h => h) (Or.inl ⟨by rfl, ?_⟩) (fun _ => by assumption) ?_
            rotate_left
            · (intro w hSw; go_simp)
              all_goals (with_reducible rfl)
            (try simp only [List.getElem_toArray, List.getElem_cons_zero, List.getElem_cons_succ, Act.put, List.setIfInBounds_toArray, List.set_cons_zero, List.set_cons_succ])
            refine wpAnyT_pure (i := 10) (oi := _) (v := ?_) rfl (by kernel_rfl) (by kernel_rfl) (by kernel_rfl) (by kernel_rfl) (fun _ _ _ h => h) (Or.inl ⟨by rfl, ?_⟩) (fun _ => by assumption) ?_
            rotate_left
            · (intro w hSw; go_simp)
              all_goals (with_reducible rfl)
            (try simp only [List.getElem_toArray, List.getElem_cons_zero, List.getElem_cons_succ, Act.put, List.setIfInBounds_toArray, List.set_cons_zero, List.set_cons_succ])
            refine wpAnyT_pure (i := 11) (oi := _) (v := ?_) rfl (by kernel_rfl) (by kernel_rfl) (by kernel_rfl) (by kernel_rfl) (fun _ _ _ h => h) (Or.inl ⟨by rfl, ?_⟩) (fun _ => by assumption) ?_
            rotate_left
            · (intro w hSw; go_simp)
              all_goals (with_reducible rfl)
            (try simp only [List.getElem_toArray, List.getElem_cons_zero, List.getElem_cons_succ, Act.put, List.setIfInBounds_toArray, List.set_cons_zero, List.set_cons_succ])
            refine wpAnyT_pure (i := 12) (oi := _) (v := ?_) rfl (by kernel_rfl) (by kernel_rfl) (by kernel_rfl) (by kernel_rfl) (fun _ _ _ h => h) (Or.inl ⟨by rfl, ?_⟩) (fun _ => by assumption) ?_
            rotate_left
            · (intro w hSw; go_simp)
              all_goals (with_reducible rfl)
            (try simp only [List.getElem_toArray, List.getElem_cons_zero, List.getElem_cons_succ, Act.put, List.setIfInBounds_toArray, List.set_cons_zero, List.set_cons_succ])
            refine wpAnyT_ready (rs := [13]) (by kernel_rfl) (by simp) ?_
            refine AllReadyT.cons rfl (fun K hK => ?_) AllReadyT.nil
            go_simp
            (refine k_nm (fun w11 hW11 => ?_); have HB11 := Lib.hid (al_below hW11); have HAl := Lib.hid (Below.size hHeld.2.2.2.2.2.2); (try (have h' := Lib.hid (own_below HO.out HB11.out); clear HO; have HO := h'; clear h')); (try (have h' := Lib.hid (HR.out.below HB11.out); clear HR; have HR := h'; clear h')); (try (have h' := Lib.hid ((HB11.out.block _ (blk_lt HZ.out)).trans HZ.out); clear HZ; have HZ := h'; clear h')); (try (have h' := Lib.hid (HS.out.far fun k hk hl => HB11.out.block k hl); clear HS; have HS := h'; clear h')); have HZ := Lib.hid (al_new hW11); clear hW11)
            refine hK.out _ _ (fun _ => ?_) (fun hHeld0 => ?_)
            · (try dsimp only)
              exact HT.out.go hHeld HB11.out
            have hHeld1 := hHeld0 (by kernel_rfl)
            clear hK K hHeld0
            clear hHeld; have hHeld := hHeld1; clear hHeld1
            (try simp only [List.getElem_toArray, List.getElem_cons_zero, List.getElem_cons_succ, Act.put, List.setIfInBounds_toArray, List.set_cons_zero, List.set_cons_succ])
            refine wpAnyT_ready (rs := [14]) (by kernel_rfl) (by simp) ?_
            refine AllReadyT.cons rfl (fun K hK => ?_) AllReadyT.nil
            obtain ⟨z0, z1, z2, z3, z4, z5, z6, z7, z8, z9, z10, z11, f0, f1, f2, f3, f4, f5, f6, f7, f8, f9, f10, f11⟩ := box12 HZ.out
            go_simp
            (refine k_nm (fun w12 hW12 => ?_); have h12 := st12b HZ.out _ _ _ _ _ _ _ _ _ _ _ _ hW12; have HE := Lib.hid (And.intro h12.2.1 (And.intro (HS.out.box HZ.out h12.2.2) (hHeld.2.2.2.2.2.2.trans (h12.1.mono HAl.out)))); clear hW12 h12 z0 z1 z2 z3 z4 z5 z6 z7 z8 z9 z10 z11 f0 f1 f2 f3 f4 f5 f6 f7 f8 f9 f10 f11)
            refine hK.out _ _ (noneB_off (by kernel_rfl)) (fun _ => ?_)
            clear hK K
            (try simp only [List.getElem_toArray, List.getElem_cons_zero, List.getElem_cons_succ, Act.put, List.setIfInBounds_toArray, List.set_cons_zero, List.set_cons_succ])
            refine wpAnyT_ready (rs := [15]) (by kernel_rfl) (by simp) ?_
            refine AllReadyT.cons rfl (fun K hK => ?_) AllReadyT.nil
            go_simp
            refine hK.out _ _ (noneB_off (by kernel_rfl)) (fun _ => ?_)
            clear hK K
            (try simp only [List.getElem_toArray, List.getElem_cons_zero, List.getElem_cons_succ, Act.put, List.setIfInBounds_toArray, List.set_cons_zero, List.set_cons_succ])
            refine wpAnyT_ready (rs := [16]) (by kernel_rfl) (by simp) ?_
            refine AllReadyT.cons rfl (fun K hK => ?_) AllReadyT.nil
            go_simp
            refine hK.out _ _ (noneB_off (by kernel_rfl)) (fun _ => ?_)
            clear hK K
            (try simp only [List.getElem_toArray, List.getElem_cons_zero, List.getElem_cons_succ, Act.put, List.setIfInBounds_toArray, List.set_cons_zero, List.set_cons_succ])
            refine wpAnyT_done (by kernel_rfl) ?_ _
            exact hout.out _ _ _ _ _ _ _ _ _ _ _ _ _  _ _ ⟨_, ⟨a2, n2, c2, a3, n3, c3, a4, n4, c4, a6, n6, c6, a11, n11, c11⟩, rfl, HE.out.1, HE.out.2.1.rd, HE.out.2.2⟩
          · skip
            go_simp
            (refine k_nm (fun w11 hW11 => ?_); have HB11 := Lib.hid (al_below hW11); have HAl := Lib.hid (Below.size hHeld.2.2.2.2.2.2); (try (have h' := Lib.hid (own_below HO.out HB11.out); clear HO; have HO := h'; clear h')); (try (have h' := Lib.hid (HR.out.below HB11.out); clear HR; have HR := h'; clear h')); (try (have h' := Lib.hid ((HB11.out.block _ (blk_lt HZ.out)).trans HZ.out); clear HZ; have HZ := h'; clear h')); (try (have h' := Lib.hid (HS.out.far fun k hk hl => HB11.out.block k hl); clear HS; have HS := h'; clear h')); have HZ := Lib.hid (al_new hW11); clear hW11)
            refine hK.out _ _ (fun _ => ?_) (fun hHeld0 => ?_)
            · (try dsimp only)
              exact HT.out.go hHeld HB11.out
            have hHeld1 := hHeld0 (by kernel_rfl)
            clear hK K hHeld0
            clear hHeld; have hHeld := hHeld1; clear hHeld1
            (try simp only [List.getElem_toArray, List.getElem_cons_zero, List.getElem_cons_succ, Act.put, List.setIfInBounds_toArray, List.set_cons_zero, List.set_cons_succ])
            refine wpAnyT_ready (rs := [8]) (by kernel_rfl) (by simp) ?_
            refine AllReadyT.cons rfl (fun K hK => ?_) AllReadyT.nil
            go_simp
            (go_at_call 12; (refine (HA.out _ _ hHeld.2.2.2.2.2.2 (Rd.own HO.out)).mono ?_); rintro e w6 ⟨⟨a2, n2, c2, a3, n3, c3, a4, n4, c4, a6, n6, c6, a11, n11, c11⟩, rfl, ho6, hb6⟩; have HB6 := Lib.hid hb6; clear HO; (try (have h' := Lib.hid (own_below HO.out HB6.out); clear HO; have HO := h'; clear h')); (try (have h' := Lib.hid (HR.out.below HB6.out); clear HR; have HR := h'; clear h')); (try (have h' := Lib.hid ((HB6.out.block _ (blk_lt HZ.out)).trans HZ.out); clear HZ; have HZ := h'; clear h')); (try (have h' := Lib.hid (HS.out.far fun k hk hl => HB6.out.block k hl); clear HS; have HS := h'; clear h')); have HS := Lib.hid ho6; clear ho6 hb6)
            go_wp2_with fail
            refine hK.out _ _ (fun _ => ?_) (fun hHeld0 => ?_)
            · (try dsimp only)
              exact HT.out.go hHeld HB6.out
            have hHeld1 := hHeld0 (by kernel_rfl)
            clear hK K hHeld0
            clear hHeld; have hHeld := hHeld1; clear hHeld1
            (try simp only [List.getElem_toArray, List.getElem_cons_zero, List.getElem_cons_succ, Act.put, List.setIfInBounds_toArray, List.set_cons_zero, List.set_cons_succ])
            refine wpAnyT_pure (i := 9) (oi := _) (v := ?_) rfl (by kernel_rfl) (by kernel_rfl) (by kernel_rfl) (by kernel_rfl) (fun _ _ _ h => h) (Or.inl ⟨by rfl, ?_⟩) (fun _ => by assumption) ?_
            rotate_left
            · (intro w hSw; go_simp)
              all_goals (with_reducible rfl)
            (try simp only [List.getElem_toArray, List.getElem_cons_zero, List.getElem_cons_succ, Act.put, List.setIfInBounds_toArray, List.set_cons_zero, List.set_cons_succ])
            refine wpAnyT_pure (i := 10) (oi := _) (v := ?_) rfl (by kernel_rfl) (by kernel_rfl) (by kernel_rfl) (by kernel_rfl) (fun _ _ _ h => h) (Or.inl ⟨by rfl, ?_⟩) (fun _ => by assumption) ?_
            rotate_left
            · (intro w hSw; go_simp)
              all_goals (with_reducible rfl)
            (try simp only [List.getElem_toArray, List.getElem_cons_zero, List.getElem_cons_succ, Act.put, List.setIfInBounds_toArray, List.set_cons_zero, List.set_cons_succ])
            refine wpAnyT_pure (i := 11) (oi := _) (v := ?_) rfl (by kernel_rfl) (by kernel_rfl) (by kernel_rfl) (by kernel_rfl) (fun _ _ _ h => h) (Or.inl ⟨by rfl, ?_⟩) (fun _ => by assumption) ?_
            rotate_left
            · (intro w hSw; go_simp)
              all_goals (with_reducible rfl)
            (try simp only [List.getElem_toArray, List.getElem_cons_zero, List.getElem_cons_succ, Act.put, List.setIfInBounds_toArray, List.set_cons_zero, List.set_cons_succ])
            refine wpAnyT_pure (i := 12) (oi := _) (v := ?_) rfl (by kernel_rfl) (by kernel_rfl) (by kernel_rfl) (by kernel_rfl) (fun _ _ _ h => h) (Or.inl ⟨by rfl, ?_⟩) (fun _ => by assumption) ?_
            rotate_left
            · (intro w hSw; go_simp)
              all_goals (with_reducible rfl)
            (try simp only [List.getElem_toArray, List.getElem_cons_zero, List.getElem_cons_succ, Act.put, List.setIfInBounds_toArray, List.set_cons_zero, List.set_cons_succ])
            refine wpAnyT_ready (rs := [14]) (by kernel_rfl) (by simp) ?_
            refine AllReadyT.cons rfl (fun K hK => ?_) AllReadyT.nil
            obtain ⟨z0, z1, z2, z3, z4, z5, z6, z7, z8, z9, z10, z11, f0, f1, f2, f3, f4, f5, f6, f7, f8, f9, f10, f11⟩ := box12 HZ.out
            go_simp
            (refine k_nm (fun w12 hW12 => ?_); have h12 := st12b HZ.out _ _ _ _ _ _ _ _ _ _ _ _ hW12; have HE := Lib.hid (And.intro h12.2.1 (And.intro (HS.out.box HZ.out h12.2.2) (hHeld.2.2.2.2.2.2.trans (h12.1.mono HAl.out)))); clear hW12 h12 z0 z1 z2 z3 z4 z5 z6 z7 z8 z9 z10 z11 f0 f1 f2 f3 f4 f5 f6 f7 f8 f9 f10 f11)
            refine hK.out _ _ (noneB_off (by kernel_rfl)) (fun _ => ?_)
            clear hK K
            (try simp only [List.getElem_toArray, List.getElem_cons_zero, List.getElem_cons_succ, Act.put, List.setIfInBounds_toArray, List.set_cons_zero, List.set_cons_succ])
            refine wpAnyT_ready (rs := [15]) (by kernel_rfl) (by simp) ?_
            refine AllReadyT.cons rfl (fun K hK => ?_) AllReadyT.nil
            go_simp
            refine hK.out _ _ (noneB_off (by kernel_rfl)) (fun _ => ?_)
            clear hK K
            (try simp only [List.getElem_toArray, List.getElem_cons_zero, List.getElem_cons_succ, Act.put, List.setIfInBounds_toArray, List.set_cons_zero, List.set_cons_succ])
            refine wpAnyT_ready (rs := [16]) (by kernel_rfl) (by simp) ?_
            refine AllReadyT.cons rfl (fun K hK => ?_) AllReadyT.nil
            go_simp
            refine hK.out _ _ (noneB_off (by kernel_rfl)) (fun _ => ?_)
            clear hK K
            (try simp only [List.getElem_toArray, List.getElem_cons_zero, List.getElem_cons_succ, Act.put, List.setIfInBounds_toArray, List.set_cons_zero, List.set_cons_succ])
            refine wpAnyT_done (by kernel_rfl) ?_ _
            exact hout.out _ _ _ _ _ _ _ _ _ _ _ _ _  _ _ ⟨_, ⟨a2, n2, c2, a3, n3, c3, a4, n4, c4, a6, n6, c6, a11, n11, c11⟩, rfl, HE.out.1, HE.out.2.1.rd, HE.out.2.2⟩
        · skip
          go_simp
          (refine k_nm (fun w11 hW11 => ?_); have HB11 := Lib.hid (al_below hW11); have HAl := Lib.hid (Below.size hHeld.2.2.2.2.2.2); (try (have h' := Lib.hid (own_below HO.out HB11.out); clear HO; have HO := h'; clear h')); (try (have h' := Lib.hid (HR.out.below HB11.out); clear HR; have HR := h'; clear h')); (try (have h' := Lib.hid ((HB11.out.block _ (blk_lt HZ.out)).trans HZ.out); clear HZ; have HZ := h'; clear h')); (try (have h' := Lib.hid (HS.out.far fun k hk hl => HB11.out.block k hl); clear HS; have HS := h'; clear h')); have HZ := Lib.hid (al_new hW11); clear hW11)
          refine hK.out _ _ (fun _ => ?_) (fun hHeld0 => ?_)
          · (try dsimp only)
            exact HT.out.go hHeld HB11.out
          have hHeld1 := hHeld0 (by kernel_rfl)
          clear hK K hHeld0
          clear hHeld; have hHeld := hHeld1; clear hHeld1
          (try simp only [List.getElem_toArray, List.getElem_cons_zero, List.getElem_cons_succ, Act.put, List.setIfInBounds_toArray, List.set_cons_zero, List.set_cons_succ])
          refine wpAnyT_ready (rs := [7]) (by kernel_rfl) (by simp) ?_
          refine AllReadyT.cons rfl (fun K hK => ?_) AllReadyT.nil
          (refine stap w0.heap.size 4 3 _ _ headT [wd [120], mk_ [45], nu x] (by rfl) _ _ (by rfl) HO.out HR.out (by omega) hHeld.2.2.2.2.2.2.size (by omega) (by omega) (by rfl) (by rfl) ?_; intro g5 q5 w5 ho5 hb5 hg5; (try (have h' := Lib.hid (box_row HZ.out (by decide) HO.out hg5); clear HZ; have HZ := h'; clear h')); have HB5 := Lib.hid hb5; clear HO HR; have HO := Lib.hid ho5; clear ho5 hb5 hg5)
          refine hK.out _ _ (fun _ => ?_) (fun hHeld0 => ?_)
          · (try dsimp only)
            exact HT.out.step hHeld HB5.out
          have hHeld1 := hHeld0 (by kernel_rfl)
          clear hK K hHeld0
          clear hHeld; have hHeld := hHeld1; clear hHeld1
          (try simp only [List.getElem_toArray, List.getElem_cons_zero, List.getElem_cons_succ, Act.put, List.setIfInBounds_toArray, List.set_cons_zero, List.set_cons_succ])
          refine wpAnyT_ready (rs := [8]) (by kernel_rfl) (by simp) ?_
          refine AllReadyT.cons rfl (fun K hK => ?_) AllReadyT.nil
          go_simp
          (go_at_call 12; (refine (HA.out _ _ hHeld.2.2.2.2.2.2 (Rd.own HO.out)).mono ?_); rintro e w6 ⟨⟨a2, n2, c2, a3, n3, c3, a4, n4, c4, a6, n6, c6, a11, n11, c11⟩, rfl, ho6, hb6⟩; have HB6 := Lib.hid hb6; clear HO; (try (have h' := Lib.hid (own_below HO.out HB6.out); clear HO; have HO := h'; clear h')); (try (have h' := Lib.hid (HR.out.below HB6.out); clear HR; have HR := h'; clear h')); (try (have h' := Lib.hid ((HB6.out.block _ (blk_lt HZ.out)).trans HZ.out); clear HZ; have HZ := h'; clear h')); (try (have h' := Lib.hid (HS.out.far fun k hk hl => HB6.out.block k hl); clear HS; have HS := h'; clear h')); have HS := Lib.hid ho6; clear ho6 hb6)
          go_wp2_with fail
          refine hK.out _ _ (fun _ => ?_) (fun hHeld0 => ?_)
          · (try dsimp only)
            exact HT.out.go hHeld HB6.out
          have hHeld1 := hHeld0 (by kernel_rfl)
          clear hK K hHeld0
          clear hHeld; have hHeld := hHeld1; clear hHeld1
          (try simp only [List.getElem_toArray, List.getElem_cons_zero, List.getElem_cons_succ, Act.put, List.setIfInBounds_toArray, List.set_cons_zero, List.set_cons_succ])
          refine wpAnyT_pure (i := 9) (oi := _) (v := ?_) rfl (by kernel_rfl) (by kernel_rfl) (by kernel_rfl) (by kernel_rfl) (fun _ _ _ h => h) (Or.inl ⟨by rfl, ?_⟩) (fun _ => by assumption) ?_
          rotate_left
          · (intro w hSw; go_simp)
            all_goals (with_reducible rfl)
          (try simp only [List.getElem_toArray, List.getElem_cons_zero, List.getElem_cons_succ, Act.put, List.setIfInBounds_toArray, List.set_cons_zero, List.set_cons_succ])
          refine wpAnyT_pure (i := 10) (oi := _) (v := ?_) rfl (by kernel_rfl) (by kernel_rfl) (by kernel_rfl) (by kernel_rfl) (fun _ _ _ h => h) (Or.inl ⟨by rfl, ?_⟩) (fun _ => by assumption) ?_
          rotate_left
          · (intro w hSw; go_simp)
            all_goals (with_reducible rfl)
          (try simp only [List.getElem_toArray, List.getElem_cons_zero, List.getElem_cons_succ, Act.put, List.setIfInBounds_toArray, List.set_cons_zero, List.set_cons_succ])
          refine wpAnyT_pure (i := 11) (oi := _) (v := ?_) rfl (by kernel_rfl) (by kernel_rfl) (by kernel_rfl) (by kernel_rfl) (fun _ _ _ h => h) (Or.inl ⟨by rfl, ?_⟩) (fun _ => by assumption) ?_
          rotate_left
          · (intro w hSw; go_simp)
            all_goals (with_reducible rfl)
          (try simp only [List.getElem_toArray, List.getElem_cons_zero, List.getElem_cons_succ, Act.put, List.setIfInBounds_toArray, List.set_cons_zero, List.set_cons_succ])
          refine wpAnyT_pure (i := 12) (oi := _) (v := ?_) rfl (by kernel_rfl) (by kernel_rfl) (by kernel_rfl) (by kernel_rfl) (fun _ _ _ h => h) (Or.inl ⟨by rfl, ?_⟩) (fun _ => by assumption) ?_
          rotate_left
          · (intro w hSw; go_simp)
            all_goals (with_reducible rfl)
          (try simp only [List.getElem_toArray, List.getElem_cons_zero, List.getElem_cons_succ, Act.put, List.setIfInBounds_toArray, List.set_cons_zero, List.set_cons_succ])
          refine wpAnyT_ready (rs := [14]) (by kernel_rfl) (by simp) ?_
          refine AllReadyT.cons rfl (fun K hK => ?_) AllReadyT.nil
          obtain ⟨z0, z1, z2, z3, z4, z5, z6, z7, z8, z9, z10, z11, f0, f1, f2, f3, f4, f5, f6, f7, f8, f9, f10, f11⟩ := box12 HZ.out
          go_simp
          (refine k_nm (fun w12 hW12 => ?_); have h12 := st12b HZ.out _ _ _ _ _ _ _ _ _ _ _ _ hW12; have HE := Lib.hid (And.intro h12.2.1 (And.intro (HS.out.box HZ.out h12.2.2) (hHeld.2.2.2.2.2.2.trans (h12.1.mono HAl.out)))); clear hW12 h12 z0 z1 z2 z3 z4 z5 z6 z7 z8 z9 z10 z11 f0 f1 f2 f3 f4 f5 f6 f7 f8 f9 f10 f11)
          refine hK.out _ _ (noneB_off (by kernel_rfl)) (fun _ => ?_)
          clear hK K
          (try simp only [List.getElem_toArray, List.getElem_cons_zero, List.getElem_cons_succ, Act.put, List.setIfInBounds_toArray, List.set_cons_zero, List.set_cons_succ])
          refine wpAnyT_ready (rs := [15]) (by kernel_rfl) (by simp) ?_
          refine AllReadyT.cons rfl (fun K hK => ?_) AllReadyT.nil
          go_simp
          refine hK.out _ _ (noneB_off (by kernel_rfl)) (fun _ => ?_)
          clear hK K
          (try simp only [List.getElem_toArray, List.getElem_cons_zero, List.getElem_cons_succ, Act.put, List.setIfInBounds_toArray, List.set_cons_zero, List.set_cons_succ])
          refine wpAnyT_ready (rs := [16]) (by kernel_rfl) (by simp) ?_
          refine AllReadyT.cons rfl (fun K hK => ?_) AllReadyT.nil
          go_simp
          refine hK.out _ _ (noneB_off (by kernel_rfl)) (fun _ => ?_)
          clear hK K
          (try simp only [List.getElem_toArray, List.getElem_cons_zero, List.getElem_cons_succ, Act.put, List.setIfInBounds_toArray, List.set_cons_zero, List.set_cons_succ])
          refine wpAnyT_done (by kernel_rfl) ?_ _
          exact hout.out _ _ _ _ _ _ _ _ _ _ _ _ _  _ _ ⟨_, ⟨a2, n2, c2, a3, n3, c3, a4, n4, c4, a6, n6, c6, a11, n11, c11⟩, rfl, HE.out.1, HE.out.2.1.rd, HE.out.2.2⟩
      · skip
        go_simp
        (refine k_nm (fun w11 hW11 => ?_); have HB11 := Lib.hid (al_below hW11); have HAl := Lib.hid (Below.size hHeld.2.2.2.2.2.2); (try (have h' := Lib.hid (own_below HO.out HB11.out); clear HO; have HO := h'; clear h')); (try (have h' := Lib.hid (HR.out.below HB11.out); clear HR; have HR := h'; clear h')); (try (have h' := Lib.hid ((HB11.out.block _ (blk_lt HZ.out)).trans HZ.out); clear HZ; have HZ := h'; clear h')); (try (have h' := Lib.hid (HS.out.far fun k hk hl => HB11.out.block k hl); clear HS; have HS := h'; clear h')); have HZ := Lib.hid (al_new hW11); clear hW11)
        refine hK.out _ _ (fun _ => ?_) (fun hHeld0 => ?_)
        · (try dsimp only)
          exact HT.out.go hHeld HB11.out
        have hHeld1 := hHeld0 (by kernel_rfl)
        clear hK K hHeld0
        clear hHeld; have hHeld := hHeld1; clear hHeld1
        (try simp only [List.getElem_toArray, List.getElem_cons_zero, List.getElem_cons_succ, Act.put, List.setIfInBounds_toArray, List.set_cons_zero, List.set_cons_succ])
        refine wpAnyT_ready (rs := [6]) (by kernel_rfl) (by simp) ?_
        refine AllReadyT.cons rfl (fun K hK => ?_) AllReadyT.nil
        go_simp
        (refine k_nm (fun w4 hW4 => ?_); have HB4 := Lib.hid (al_below hW4); (try (have h' := Lib.hid (own_below HO.out HB4.out); clear HO; have HO := h'; clear h')); (try (have h' := Lib.hid ((HB4.out.block _ (blk_lt HZ.out)).trans HZ.out); clear HZ; have HZ := h'; clear h')); (try (have h' := Lib.hid (HS.out.far fun k hk hl => HB4.out.block k hl); clear HS; have HS := h'; clear h')); have HR := Lib.hid (rd_blk (xs := tkc [wd [120], mk_ [45], nu x]) (n := 3) (s := 3) (al_new hW4) rfl (by omega)); clear hW4)
        refine hK.out _ _ (fun _ => ?_) (fun hHeld0 => ?_)
        · (try dsimp only)
          exact HT.out.go hHeld HB4.out
        have hHeld1 := hHeld0 (by kernel_rfl)
        clear hK K hHeld0
        clear hHeld; have hHeld := hHeld1; clear hHeld1
        (try simp only [List.getElem_toArray, List.getElem_cons_zero, List.getElem_cons_succ, Act.put, List.setIfInBounds_toArray, List.set_cons_zero, List.set_cons_succ])
        refine wpAnyT_ready (rs := [7]) (by kernel_rfl) (by simp) ?_
        refine AllReadyT.cons rfl (fun K hK => ?_) AllReadyT.nil
        (refine stap w0.heap.size 4 3 _ _ headT [wd [120], mk_ [45], nu x] (by rfl) _ _ (by rfl) HO.out HR.out (by omega) hHeld.2.2.2.2.2.2.size (by omega) (by omega) (by rfl) (by rfl) ?_; intro g5 q5 w5 ho5 hb5 hg5; (try (have h' := Lib.hid (box_row HZ.out (by decide) HO.out hg5); clear HZ; have HZ := h'; clear h')); have HB5 := Lib.hid hb5; clear HO HR; have HO := Lib.hid ho5; clear ho5 hb5 hg5)
        refine hK.out _ _ (fun _ => ?_) (fun hHeld0 => ?_)
        · (try dsimp only)
          exact HT.out.step hHeld HB5.out
        have hHeld1 := hHeld0 (by kernel_rfl)
        clear hK K hHeld0
        clear hHeld; have hHeld := hHeld1; clear hHeld1
        (try simp only [List.getElem_toArray, List.getElem_cons_zero, List.getElem_cons_succ, Act.put, List.setIfInBounds_toArray, List.set_cons_zero, List.set_cons_succ])
        refine wpAnyT_ready (rs := [8]) (by kernel_rfl) (by simp) ?_
        refine AllReadyT.cons rfl (fun K hK => ?_) AllReadyT.nil
        go_simp
        (go_at_call 12; (refine (HA.out _ _ hHeld.2.2.2.2.2.2 (Rd.own HO.out)).mono ?_); rintro e w6 ⟨⟨a2, n2, c2, a3, n3, c3, a4, n4, c4, a6, n6, c6, a11, n11, c11⟩, rfl, ho6, hb6⟩; have HB6 := Lib.hid hb6; clear HO; (try (have h' := Lib.hid (own_below HO.out HB6.out); clear HO; have HO := h'; clear h')); (try (have h' := Lib.hid (HR.out.below HB6.out); clear HR; have HR := h'; clear h')); (try (have h' := Lib.hid ((HB6.out.block _ (blk_lt HZ.out)).trans HZ.out); clear HZ; have HZ := h'; clear h')); (try (have h' := Lib.hid (HS.out.far fun k hk hl => HB6.out.block k hl); clear HS; have HS := h'; clear h')); have HS := Lib.hid ho6; clear ho6 hb6)
        go_wp2_with fail
        refine hK.out _ _ (fun _ => ?_) (fun hHeld0 => ?_)
        · (try dsimp only)
          exact HT.out.go hHeld HB6.out
        have hHeld1 := hHeld0 (by kernel_rfl)
        clear hK K hHeld0
        clear hHeld; have hHeld := hHeld1; clear hHeld1
        (try simp only [List.getElem_toArray, List.getElem_cons_zero, List.getElem_cons_succ, Act.put, List.setIfInBounds_toArray, List.set_cons_zero, List.set_cons_succ])
        refine wpAnyT_pure (i := 9) (oi := _) (v := ?_) rfl (by kernel_rfl) (by kernel_rfl) (by kernel_rfl) (by kernel_rfl) (fun _ _ _ h => h) (Or.inl ⟨by rfl, ?_⟩) (fun _ => by assumption) ?_
        rotate_left
        · (intro w hSw; go_simp)
          all_goals (with_reducible rfl)
        (try simp only [List.getElem_toArray, List.getElem_cons_zero, List.getElem_cons_succ, Act.put, List.setIfInBounds_toArray, List.set_cons_zero, List.set_cons_succ])
        refine wpAnyT_pure (i := 10) (oi := _) (v := ?_) rfl (by kernel_rfl) (by kernel_rfl) (by kernel_rfl) (by kernel_rfl) (fun _ _ _ h => h) (Or.inl ⟨by rfl, ?_⟩) (fun _ => by assumption) ?_
        rotate_left
        · (intro w hSw; go_simp)
          all_goals (with_reducible rfl)
        (try simp only [List.getElem_toArray, List.getElem_cons_zero, List.getElem_cons_succ, Act.put, List.setIfInBounds_toArray, List.set_cons_zero, List.set_cons_succ])
        refine wpAnyT_pure (i := 11) (oi := _) (v := ?_) rfl (by kernel_rfl) (by kernel_rfl) (by kernel_rfl) (by kernel_rfl) (fun _ _ _ h => h) (Or.inl ⟨by rfl, ?_⟩) (fun _ => by assumption) ?_
        rotate_left
        · (intro w hSw; go_simp)
          all_goals (with_reducible rfl)
        (try simp only [List.getElem_toArray, List.getElem_cons_zero, List.getElem_cons_succ, Act.put, List.setIfInBounds_toArray, List.set_cons_zero, List.set_cons_succ])
        refine wpAnyT_pure (i := 12) (oi := _) (v := ?_) rfl (by kernel_rfl) (by kernel_rfl) (by kernel_rfl) (by kernel_rfl) (fun _ _ _ h => h) (Or.inl ⟨by rfl, ?_⟩) (fun _ => by assumption) ?_
        rotate_left
        · (intro w hSw; go_simp)
          all_goals (with_reducible rfl)
        (try simp only [List.getElem_toArray, List.getElem_cons_zero, List.getElem_cons_succ, Act.put, List.setIfInBounds_toArray, List.set_cons_zero, List.set_cons_succ])
        refine wpAnyT_ready (rs := [14]) (by kernel_rfl) (by simp) ?_
        refine AllReadyT.cons rfl (fun K hK => ?_) AllReadyT.nil
        obtain ⟨z0, z1, z2, z3, z4, z5, z6, z7, z8, z9, z10, z11, f0, f1, f2, f3, f4, f5, f6, f7, f8, f9, f10, f11⟩ := box12 HZ.out
        go_simp
        (refine k_nm (fun w12 hW12 => ?_); have h12 := st12b HZ.out _ _ _ _ _ _ _ _ _ _ _ _ hW12; have HE := Lib.hid (And.intro h12.2.1 (And.intro (HS.out.box HZ.out h12.2.2) (hHeld.2.2.2.2.2.2.trans (h12.1.mono HAl.out)))); clear hW12 h12 z0 z1 z2 z3 z4 z5 z6 z7 z8 z9 z10 z11 f0 f1 f2 f3 f4 f5 f6 f7 f8 f9 f10 f11)
        refine hK.out _ _ (noneB_off (by kernel_rfl)) (fun _ => ?_)
        clear hK K
        (try simp only [List.getElem_toArray, List.getElem_cons_zero, List.getElem_cons_succ, Act.put, List.setIfInBounds_toArray, List.set_cons_zero, List.set_cons_succ])
        refine wpAnyT_ready (rs := [15]) (by kernel_rfl) (by simp) ?_
        refine AllReadyT.cons rfl (fun K hK => ?_) AllReadyT.nil
        go_simp
        refine hK.out _ _ (noneB_off (by kernel_rfl)) (fun _ => ?_)
        clear hK K
        (try simp only [List.getElem_toArray, List.getElem_cons_zero, List.getElem_cons_succ, Act.put, List.setIfInBounds_toArray, List.set_cons_zero, List.set_cons_succ])
        refine wpAnyT_ready (rs := [16]) (by kernel_rfl) (by simp) ?_
        refine AllReadyT.cons rfl (fun K hK => ?_) AllReadyT.nil
        go_simp
        refine hK.out _ _ (noneB_off (by kernel_rfl)) (fun _ => ?_)
        clear hK K
        (try simp only [List.getElem_toArray, List.getElem_cons_zero, List.getElem_cons_succ, Act.put, List.setIfInBounds_toArray, List.set_cons_zero, List.set_cons_succ])
        refine wpAnyT_done (by kernel_rfl) ?_ _
        exact hout.out _ _ _ _ _ _ _ _ _ _ _ _ _  _ _ ⟨_, ⟨a2, n2, c2, a3, n3, c3, a4, n4, c4, a6, n6, c6, a11, n11, c11⟩, rfl, HE.out.1, HE.out.2.1.rd, HE.out.2.2⟩
    · skip
      go_simp
      (refine k_nm (fun w11 hW11 => ?_); have HB11 := Lib.hid (al_below hW11); have HAl := Lib.hid (Below.size hHeld.2.2.2.2.2.2); (try (have h' := Lib.hid (own_below HO.out HB11.out); clear HO; have HO := h'; clear h')); (try (have h' := Lib.hid (HR.out.below HB11.out); clear HR; have HR := h'; clear h')); (try (have h' := Lib.hid ((HB11.out.block _ (blk_lt HZ.out)).trans HZ.out); clear HZ; have HZ := h'; clear h')); (try (have h' := Lib.hid (HS.out.far fun k hk hl => HB11.out.block k hl); clear HS; have HS := h'; clear h')); have HZ := Lib.hid (al_new hW11); clear hW11)
      refine hK.out _ _ (fun _ => ?_) (fun hHeld0 => ?_)
      · (try dsimp only)
        exact HT.out.go hHeld HB11.out
      have hHeld1 := hHeld0 (by kernel_rfl)
      clear hK K hHeld0
      clear hHeld; have hHeld := hHeld1; clear hHeld1
      (try simp only [List.getElem_toArray, List.getElem_cons_zero, List.getElem_cons_succ, Act.put, List.setIfInBounds_toArray, List.set_cons_zero, List.set_cons_succ])
      refine wpAnyT_ready (rs := [3]) (by kernel_rfl) (by simp) ?_
      refine AllReadyT.cons rfl (fun K hK => ?_) AllReadyT.nil
      go_simp
      (go_at_call 16; (refine (HW.out _ _).mono ?_); rintro e w2 ⟨rfl, hb2⟩; have HB2 := Lib.hid hb2; clear hb2; (try (have h' := Lib.hid (own_below HO.out HB2.out); clear HO; have HO := h'; clear h')); (try (have h' := Lib.hid (HR.out.below HB2.out); clear HR; have HR := h'; clear h')); (try (have h' := Lib.hid ((HB2.out.block _ (blk_lt HZ.out)).trans HZ.out); clear HZ; have HZ := h'; clear h')); (try (have h' := Lib.hid (HS.out.far fun k hk hl => HB2.out.block k hl); clear HS; have HS := h'; clear h')))
      go_wp2_with fail
      refine hK.out _ _ (fun _ => ?_) (fun hHeld0 => ?_)
      · (try dsimp only)
        exact HT.out.go hHeld HB2.out
      have hHeld1 := hHeld0 (by kernel_rfl)
      clear hK K hHeld0
      clear hHeld; have hHeld := hHeld1; clear hHeld1
      (try simp only [List.getElem_toArray, List.getElem_cons_zero, List.getElem_cons_succ, Act.put, List.setIfInBounds_toArray, List.set_cons_zero, List.set_cons_succ])
      refine wpAnyT_ready (rs := [6]) (by kernel_rfl) (by simp) ?_
      refine AllReadyT.cons rfl (fun K hK => ?_) AllReadyT.nil
      go_simp
      (refine k_nm (fun w4 hW4 => ?_); have HB4 := Lib.hid (al_below hW4); (try (have h' := Lib.hid (own_below HO.out HB4.out); clear HO; have HO := h'; clear h')); (try (have h' := Lib.hid ((HB4.out.block _ (blk_lt HZ.out)).trans HZ.out); clear HZ; have HZ := h'; clear h')); (try (have h' := Lib.hid (HS.out.far fun k hk hl => HB4.out.block k hl); clear HS; have HS := h'; clear h')); have HR := Lib.hid (rd_blk (xs := tkc [wd [120], mk_ [45], nu x]) (n := 3) (s := 3) (al_new hW4) rfl (by omega)); clear hW4)
      refine hK.out _ _ (fun _ => ?_) (fun hHeld0 => ?_)
      · (try dsimp only)
        exact HT.out.go hHeld HB4.out
      have hHeld1 := hHeld0 (by kernel_rfl)
      clear hK K hHeld0
      clear hHeld; have hHeld := hHeld1; clear hHeld1
      (try simp only [List.getElem_toArray, List.getElem_cons_zero, List.getElem_cons_succ, Act.put, List.setIfInBounds_toArray, List.set_cons_zero, List.set_cons_succ])
      refine wpAnyT_ready (rs := [7]) (by kernel_rfl) (by simp) ?_
      refine AllReadyT.cons rfl (fun K hK => ?_) AllReadyT.nil
      (refine stap w0.heap.size 4 3 _ _ headT [wd [120], mk_ [45], nu x] (by rfl) _ _ (by rfl) HO.out HR.out (by omega) hHeld.2.2.2.2.2.2.size (by omega) (by omega) (by rfl) (by rfl) ?_; intro g5 q5 w5 ho5 hb5 hg5; (try (have h' := Lib.hid (box_row HZ.out (by decide) HO.out hg5); clear HZ; have HZ := h'; clear h')); have HB5 := Lib.hid hb5; clear HO HR; have HO := Lib.hid ho5; clear ho5 hb5 hg5)
      refine hK.out _ _ (fun _ => ?_) (fun hHeld0 => ?_)
      · (try dsimp only)
        exact HT.out.step hHeld HB5.out
      have hHeld1 := hHeld0 (by kernel_rfl)
      clear hK K hHeld0
      clear hHeld; have hHeld := hHeld1; clear hHeld1
      (try simp only [List.getElem_toArray, List.getElem_cons_zero, List.getElem_cons_succ, Act.put, List.setIfInBounds_toArray, List.set_cons_zero, List.set_cons_succ])
      refine wpAnyT_ready (rs := [8]) (by kernel_rfl) (by simp) ?_
      refine AllReadyT.cons rfl (fun K hK => ?_) AllReadyT.nil
      go_simp
      (go_at_call 12; (refine (HA.out _ _ hHeld.2.2.2.2.2.2 (Rd.own HO.out)).mono ?_); rintro e w6 ⟨⟨a2, n2, c2, a3, n3, c3, a4, n4, c4, a6, n6, c6, a11, n11, c11⟩, rfl, ho6, hb6⟩; have HB6 := Lib.hid hb6; clear HO; (try (have h' := Lib.hid (own_below HO.out HB6.out); clear HO; have HO := h'; clear h')); (try (have h' := Lib.hid (HR.out.below HB6.out); clear HR; have HR := h'; clear h')); (try (have h' := Lib.hid ((HB6.out.block _ (blk_lt HZ.out)).trans HZ.out); clear HZ; have HZ := h'; clear h')); (try (have h' := Lib.hid (HS.out.far fun k hk hl => HB6.out.block k hl); clear HS; have HS := h'; clear h')); have HS := Lib.hid ho6; clear ho6 hb6)
      go_wp2_with fail
      refine hK.out _ _ (fun _ => ?_) (fun hHeld0 => ?_)
      · (try dsimp only)
        exact HT.out.go hHeld HB6.out
      have hHeld1 := hHeld0 (by kernel_rfl)
      clear hK K hHeld0
      clear hHeld; have hHeld := hHeld1; clear hHeld1
      (try simp only [List.getElem_toArray, List.getElem_cons_zero, List.getElem_cons_succ, Act.put, List.setIfInBounds_toArray, List.set_cons_zero, List.set_cons_succ])
      refine wpAnyT_pure (i := 9) (oi := _) (v := ?_) rfl (by kernel_rfl) (by kernel_rfl) (by kernel_rfl) (by kernel_rfl) (fun _ _ _ h => h) (Or.inl ⟨by rfl, ?_⟩) (fun _ => by assumption) ?_
      rotate_left
      · (intro w hSw; go_simp)
        all_goals (with_reducible rfl)
      (try simp only [List.getElem_toArray, List.getElem_cons_zero, List.getElem_cons_succ, Act.put, List.setIfInBounds_toArray, List.set_cons_zero, List.set_cons_succ])
      refine wpAnyT_pure (i := 10) (oi := _) (v := ?_) rfl (by kernel_rfl) (by kernel_rfl) (by kernel_rfl) (by kernel_rfl) (fun _ _ _ h => h) (Or.inl ⟨by rfl, ?_⟩) (fun _ => by assumption) ?_
      rotate_left
      · (intro w hSw; go_simp)
        all_goals (with_reducible rfl)
      (try simp only [List.getElem_toArray, List.getElem_cons_zero, List.getElem_cons_succ, Act.put, List.setIfInBounds_toArray, List.set_cons_zero, List.set_cons_succ])
      refine wpAnyT_pure (i := 11) (oi := _) (v := ?_) rfl (by kernel_rfl) (by kernel_rfl) (by kernel_rfl) (by kernel_rfl) (fun _ _ _ h => h) (Or.inl ⟨by rfl, ?_⟩) (fun _ => by assumption) ?_
      rotate_left
      · (intro w hSw; go_simp)
        all_goals (with_reducible rfl)
      (try simp only [List.getElem_toArray, List.getElem_cons_zero, List.getElem_cons_succ, Act.put, List.setIfInBounds_toArray, List.set_cons_zero, List.set_cons_succ])
      refine wpAnyT_pure (i := 12) (oi := _) (v := ?_) rfl (by kernel_rfl) (by kernel_rfl) (by kernel_rfl) (by kernel_rfl) (fun _ _ _ h => h) (Or.inl ⟨by rfl, ?_⟩) (fun _ => by assumption) ?_
      rotate_left
      · (intro w hSw; go_simp)
        all_goals (with_reducible rfl)
      (try simp only [List.getElem_toArray, List.getElem_cons_zero, List.getElem_cons_succ, Act.put, List.setIfInBounds_toArray, List.set_cons_zero, List.set_cons_succ])
      refine wpAnyT_ready (rs := [14]) (by kernel_rfl) (by simp) ?_
      refine AllReadyT.cons rfl (fun K hK => ?_) AllReadyT.nil
      obtain ⟨z0, z1, z2, z3, z4, z5, z6, z7, z8, z9, z10, z11, f0, f1, f2, f3, f4, f5, f6, f7, f8, f9, f10, f11⟩ := box12 HZ.out
      go_simp
      (refine k_nm (fun w12 hW12 => ?_); have h12 := st12b HZ.out _ _ _ _ _ _ _ _ _ _ _ _ hW12; have HE := Lib.hid (And.intro h12.2.1 (And.intro (HS.out.box HZ.out h12.2.2) (hHeld.2.2.2.2.2.2.trans (h12.1.mono HAl.out)))); clear hW12 h12 z0 z1 z2 z3 z4 z5 z6 z7 z8 z9 z10 z11 f0 f1 f2 f3 f4 f5 f6 f7 f8 f9 f10 f11)
      refine hK.out _ _ (noneB_off (by kernel_rfl)) (fun _ => ?_)
      clear hK K
      (try simp only [List.getElem_toArray, List.getElem_cons_zero, List.getElem_cons_succ, Act.put, List.setIfInBounds_toArray, List.set_cons_zero, List.set_cons_succ])
      refine wpAnyT_ready (rs := [15]) (by kernel_rfl) (by simp) ?_
      refine AllReadyT.cons rfl (fun K hK => ?_) AllReadyT.nil
      go_simp
      refine hK.out _ _ (noneB_off (by kernel_rfl)) (fun _ => ?_)
      clear hK K
      (try simp only [List.getElem_toArray, List.getElem_cons_zero, List.getElem_cons_succ, Act.put, List.setIfInBounds_toArray, List.set_cons_zero, List.set_cons_succ])
      refine wpAnyT_ready (rs := [16]) (by kernel_rfl) (by simp) ?_
      refine AllReadyT.cons rfl (fun K hK => ?_) AllReadyT.nil
      go_simp
      refine hK.out _ _ (noneB_off (by kernel_rfl)) (fun _ => ?_)
      clear hK K
      (try simp only [List.getElem_toArray, List.getElem_cons_zero, List.getElem_cons_succ, Act.put, List.setIfInBounds_toArray, List.set_cons_zero, List.set_cons_succ])
      refine wpAnyT_done (by kernel_rfl) ?_ _
      exact hout.out _ _ _ _ _ _ _ _ _ _ _ _ _  _ _ ⟨_, ⟨a2, n2, c2, a3, n3, c3, a4, n4, c4, a6, n6, c6, a11, n11, c11⟩, rfl, HE.out.1, HE.out.2.1.rd, HE.out.2.2⟩
  · skip
    go_simp
    (refine k_nm (fun w11 hW11 => ?_); have HB11 := Lib.hid (al_below hW11); have HAl := Lib.hid (Below.size hHeld.2.2.2.2.2.2); (try (have h' := Lib.hid (own_below HO.out HB11.out); clear HO; have HO := h'; clear h')); (try (have h' := Lib.hid (HR.out.below HB11.out); clear HR; have HR := h'; clear h')); (try (have h' := Lib.hid ((HB11.out.block _ (blk_lt HZ.out)).trans HZ.out); clear HZ; have HZ := h'; clear h')); (try (have h' := Lib.hid (HS.out.far fun k hk hl => HB11.out.block k hl); clear HS; have HS := h'; clear h')); have HZ := Lib.hid (al_new hW11); clear hW11)
    refine hK.out _ _ (fun _ => ?_) (fun hHeld0 => ?_)
    · (try dsimp only)
      exact HT.out.go hHeld HB11.out
    have hHeld1 := hHeld0 (by kernel_rfl)
    clear hK K hHeld0
    clear hHeld; have hHeld := hHeld1; clear hHeld1
    (try simp only [List.getElem_toArray, List.getElem_cons_zero, List.getElem_cons_succ, Act.put, List.setIfInBounds_toArray, List.set_cons_zero, List.set_cons_succ])
    refine wpAnyT_ready (rs := [1]) (by kernel_rfl) (by simp) ?_
    refine AllReadyT.cons rfl (fun K hK => ?_) AllReadyT.nil
    (refine stap0 w0.heap.size 4 _ headT (by rfl) _ _ (by rfl) (HH.out.below hHeld.2.2.2.2.2.2) (by omega) hHeld.2.2.2.2.2.2.size (by omega) (by rfl) (by rfl) ?_; intro g1 q1 w1 ho1 hb1; have HB1 := Lib.hid hb1; (try (have h' := Lib.hid (HR.out.below HB1.out); clear HR; have HR := h'; clear h')); (try (have h' := Lib.hid ((HB1.out.block _ (blk_lt HZ.out)).trans HZ.out); clear HZ; have HZ := h'; clear h')); (try (have h' := Lib.hid (HS.out.far fun k hk hl => HB1.out.block k hl); clear HS; have HS := h'; clear h')); have HO := Lib.hid ho1; clear ho1 hb1)
    refine hK.out _ _ (fun _ => ?_) (fun hHeld0 => ?_)
    · (try dsimp only)
      exact HT.out.go hHeld HB1.out
    have hHeld1 := hHeld0 (by kernel_rfl)
    clear hK K hHeld0
    clear hHeld; have hHeld := hHeld1; clear hHeld1
    (try simp only [List.getElem_toArray, List.getElem_cons_zero, List.getElem_cons_succ, Act.put, List.setIfInBounds_toArray, List.set_cons_zero, List.set_cons_succ])
    refine wpAnyT_ready (rs := [3]) (by kernel_rfl) (by simp) ?_
    refine AllReadyT.cons rfl (fun K hK => ?_) AllReadyT.nil
    go_simp
    (go_at_call 16; (refine (HW.out _ _).mono ?_); rintro e w2 ⟨rfl, hb2⟩; have HB2 := Lib.hid hb2; clear hb2; (try (have h' := Lib.hid (own_below HO.out HB2.out); clear HO; have HO := h'; clear h')); (try (have h' := Lib.hid (HR.out.below HB2.out); clear HR; have HR := h'; clear h')); (try (have h' := Lib.hid ((HB2.out.block _ (blk_lt HZ.out)).trans HZ.out); clear HZ; have HZ := h'; clear h')); (try (have h' := Lib.hid (HS.out.far fun k hk hl => HB2.out.block k hl); clear HS; have HS := h'; clear h')))
    go_wp2_with fail
    refine hK.out _ _ (fun _ => ?_) (fun hHeld0 => ?_)
    · (try dsimp only)
      exact HT.out.go hHeld HB2.out
    have hHeld1 := hHeld0 (by kernel_rfl)
    clear hK K hHeld0
    clear hHeld; have hHeld := hHeld1; clear hHeld1
    (try simp only [List.getElem_toArray, List.getElem_cons_zero, List.getElem_cons_succ, Act.put, List.setIfInBounds_toArray, List.set_cons_zero, List.set_cons_succ])
    refine wpAnyT_ready (rs := [6]) (by kernel_rfl) (by simp) ?_
    refine AllReadyT.cons rfl (fun K hK => ?_) AllReadyT.nil
    go_simp
    (refine k_nm (fun w4 hW4 => ?_); have HB4 := Lib.hid (al_below hW4); (try (have h' := Lib.hid (own_below HO.out HB4.out); clear HO; have HO := h'; clear h')); (try (have h' := Lib.hid ((HB4.out.block _ (blk_lt HZ.out)).trans HZ.out); clear HZ; have HZ := h'; clear h')); (try (have h' := Lib.hid (HS.out.far fun k hk hl => HB4.out.block k hl); clear HS; have HS := h'; clear h')); have HR := Lib.hid (rd_blk (xs := tkc [wd [120], mk_ [45], nu x]) (n := 3) (s := 3) (al_new hW4) rfl (by omega)); clear hW4)
    refine hK.out _ _ (fun _ => ?_) (fun hHeld0 => ?_)
    · (try dsimp only)
      exact HT.out.go hHeld HB4.out
    have hHeld1 := hHeld0 (by kernel_rfl)
    clear hK K hHeld0
    clear hHeld; have hHeld := hHeld1; clear hHeld1
    (try simp only [List.getElem_toArray, List.getElem_cons_zero, List.getElem_cons_succ, Act.put, List.setIfInBounds_toArray, List.set_cons_zero, List.set_cons_succ])
    refine wpAnyT_ready (rs := [7]) (by kernel_rfl) (by simp) ?_
    refine AllReadyT.cons rfl (fun K hK => ?_) AllReadyT.nil
    (refine stap w0.heap.size 4 3 _ _ headT [wd [120], mk_ [45], nu x] (by rfl) _ _ (by rfl) HO.out HR.out (by omega) hHeld.2.2.2.2.2.2.size (by omega) (by omega) (by rfl) (by rfl) ?_; intro g5 q5 w5 ho5 hb5 hg5; (try (have h' := Lib.hid (box_row HZ.out (by decide) HO.out hg5); clear HZ; have HZ := h'; clear h')); have HB5 := Lib.hid hb5; clear HO HR; have HO := Lib.hid ho5; clear ho5 hb5 hg5)
    refine hK.out _ _ (fun _ => ?_) (fun hHeld0 => ?_)
    · (try dsimp only)
      exact HT.out.step hHeld HB5.out
    have hHeld1 := hHeld0 (by kernel_rfl)
    clear hK K hHeld0
    clear hHeld; have hHeld := hHeld1; clear hHeld1
    (try simp only [List.getElem_toArray, List.getElem_cons_zero, List.getElem_cons_succ, Act.put, List.setIfInBounds_toArray, List.set_cons_zero, List.set_cons_succ])
    refine wpAnyT_ready (rs := [8]) (by kernel_rfl) (by simp) ?_
    refine AllReadyT.cons rfl (fun K hK => ?_) AllReadyT.nil
    go_simp
    (go_at_call 12; (refine (HA.out _ _ hHeld.2.2.2.2.2.2 (Rd.own HO.out)).mono ?_); rintro e w6 ⟨⟨a2, n2, c2, a3, n3, c3, a4, n4, c4, a6, n6, c6, a11, n11, c11⟩, rfl, ho6, hb6⟩; have HB6 := Lib.hid hb6; clear HO; (try (have h' := Lib.hid (own_below HO.out HB6.out); clear HO; have HO := h'; clear h')); (try (have h' := Lib.hid (HR.out.below HB6.out); clear HR; have HR := h'; clear h')); (try (have h' := Lib.hid ((HB6.out.block _ (blk_lt HZ.out)).trans HZ.out); clear HZ; have HZ := h'; clear h')); (try (have h' := Lib.hid (HS.out.far fun k hk hl => HB6.out.block k hl); clear HS; have HS := h'; clear h')); have HS := Lib.hid ho6; clear ho6 hb6)
    go_wp2_with fail
    refine hK.out _ _ (fun _ => ?_) (fun hHeld0 => ?_)
    · (try dsimp only)
      exact HT.out.go hHeld HB6.out
    have hHeld1 := hHeld0 (by kernel_rfl)
    clear hK K hHeld0
    clear hHeld; have hHeld := hHeld1; clear hHeld1
    (try simp only [List.getElem_toArray, List.getElem_cons_zero, List.getElem_cons_succ, Act.put, List.setIfInBounds_toArray, List.set_cons_zero, List.set_cons_succ])
    refine wpAnyT_pure (i := 9) (oi := _) (v := ?_) rfl (by kernel_rfl) (by kernel_rfl) (by kernel_rfl) (by kernel_rfl) (fun _ _ _ h => h) (Or.inl ⟨by rfl, ?_⟩) (fun _ => by assumption) ?_
    rotate_left
    · (intro w hSw; go_simp)
      all_goals (with_reducible rfl)
    (try simp only [List.getElem_toArray, List.getElem_cons_zero, List.getElem_cons_succ, Act.put, List.setIfInBounds_toArray, List.set_cons_zero, List.set_cons_succ])
    refine wpAnyT_pure (i := 10) (oi := _) (v := ?_) rfl (by kernel_rfl) (by kernel_rfl) (by kernel_rfl) (by kernel_rfl) (fun _ _ _ h => h) (Or.inl ⟨by rfl, ?_⟩) (fun _ => by assumption) ?_
    rotate_left
    · (intro w hSw; go_simp)
      all_goals (with_reducible rfl)
    (try simp only [List.getElem_toArray, List.getElem_cons_zero, List.getElem_cons_succ, Act.put, List.setIfInBounds_toArray, List.set_cons_zero, List.set_cons_succ])
    refine wpAnyT_pure (i := 11) (oi := _) (v := ?_) rfl (by kernel_rfl) (by kernel_rfl) (by kernel_rfl) (by kernel_rfl) (fun _ _ _ h => h) (Or.inl ⟨by rfl, ?_⟩) (fun _ => by assumption) ?_
    rotate_left
    · (intro w hSw; go_simp)
      all_goals (with_reducible rfl)
    (try simp only [List.getElem_toArray, List.getElem_cons_zero, List.getElem_cons_succ, Act.put, List.setIfInBounds_toArray, List.set_cons_zero, List.set_cons_succ])
    refine wpAnyT_pure (i := 12) (oi := _) (v := ?_) rfl (by kernel_rfl) (by kernel_rfl) (by kernel_rfl) (by kernel_rfl) (fun _ _ _ h => h) (Or.inl ⟨by rfl, ?_⟩) (fun _ => by assumption) ?_
    rotate_left
    · (intro w hSw; go_simp)
      all_goals (with_reducible rfl)
    (try simp only [List.getElem_toArray, List.getElem_cons_zero, List.getElem_cons_succ, Act.put, List.setIfInBounds_toArray, List.set_cons_zero, List.set_cons_succ])
    refine wpAnyT_ready (rs := [14]) (by kernel_rfl) (by simp) ?_
    refine AllReadyT.cons rfl (fun K hK => ?_) AllReadyT.nil
    obtain ⟨z0, z1, z2, z3, z4, z5, z6, z7, z8, z9, z10, z11, f0, f1, f2, f3, f4, f5, f6, f7, f8, f9, f10, f11⟩ := box12 HZ.out
    go_simp
    (refine k_nm (fun w12 hW12 => ?_); have h12 := st12b HZ.out _ _ _ _ _ _ _ _ _ _ _ _ hW12; have HE := Lib.hid (And.intro h12.2.1 (And.intro (HS.out.box HZ.out h12.2.2) (hHeld.2.2.2.2.2.2.trans (h12.1.mono HAl.out)))); clear hW12 h12 z0 z1 z2 z3 z4 z5 z6 z7 z8 z9 z10 z11 f0 f1 f2 f3 f4 f5 f6 f7 f8 f9 f10 f11)
    refine hK.out _ _ (noneB_off (by kernel_rfl)) (fun _ => ?_)
    clear hK K
    (try simp only [List.getElem_toArray, List.getElem_cons_zero, List.getElem_cons_succ, Act.put, List.setIfInBounds_toArray, List.set_cons_zero, List.set_cons_succ])
    refine wpAnyT_ready (rs := [15]) (by kernel_rfl) (by simp) ?_
    refine AllReadyT.cons rfl (fun K hK => ?_) AllReadyT.nil
    go_simp
    refine hK.out _ _ (noneB_off (by kernel_rfl)) (fun _ => ?_)
    clear hK K
    (try simp only [List.getElem_toArray, List.getElem_cons_zero, List.getElem_cons_succ, Act.put, List.setIfInBounds_toArray, List.set_cons_zero, List.set_cons_succ])
    refine wpAnyT_ready (rs := [16]) (by kernel_rfl) (by simp) ?_
    refine AllReadyT.cons rfl (fun K hK => ?_) AllReadyT.nil
    go_simp
    refine hK.out _ _ (noneB_off (by kernel_rfl)) (fun _ => ?_)
    clear hK K
    (try simp only [List.getElem_toArray, List.getElem_cons_zero, List.getElem_cons_succ, Act.put, List.setIfInBounds_toArray, List.set_cons_zero, List.set_cons_succ])
    refine wpAnyT_done (by kernel_rfl) ?_ _
    exact hout.out _ _ _ _ _ _ _ _ _ _ _ _ _  _ _ ⟨_, ⟨a2, n2, c2, a3, n3, c3, a4, n4, c4, a6, n6, c6, a11, n11, c11⟩, rfl, HE.out.1, HE.out.2.1.rd, HE.out.2.2⟩
end Go.Proofs.YtdeollmeljaaoaaDoor.rd

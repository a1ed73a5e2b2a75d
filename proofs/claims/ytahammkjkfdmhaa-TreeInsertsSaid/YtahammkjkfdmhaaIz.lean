/- The entries of a page above the leaves. -/
import Derived.Test.YtahammkjkfdmhaaIy
import Derived.Deep.RegionHeld3
namespace Go.Proofs.Ytahammkjkfdmhaa
open Go.ChangeShapes Go.WideShapes Go.ChangeAt Go.RowKit
set_option linter.unusedVariables false
set_option linter.unusedSimpArgs false
set_option maxHeartbeats 4000000
set_option maxRecDepth 100000
section
variable {P : Program} {w : World}
/-- 'append(v, nil...)' in a drawing region: v as it was. -/
theorem step_append_none {ops : Array Oper} {o : Oper} {a : Act} {K : Act → World → Prop} {Q : Exit → Act → World → Prop} {E : Prop} (hgd : o.guard = none) (s x : Operand) (t : TypeId)
    (ho : o.op = .call { callee := .builtin .append, args := #[s, x], argTypes := #[t, t] })
    (base : Nat) (e : TypeId) (i : TypeInfo) (size : Nat) (ht : P.underlying t = some (.slice e)) (hi : P.info? e = some i)
    (v : Value) (n : Nat) (xs : List Value) (hs : a.eval s = v) (hown : w.ownsRow base e size v n xs) (hx : a.eval x = .slice none 0 0)
    (h : K (a.put o.dst v) w) : if Region.wanted o (yielded ops a.tmps) = true then Oper.wp P o a w K Q else E := by
  have hw : Region.wanted o (yielded ops a.tmps) = true := by simp [Region.wanted, hgd]
  rw [if_pos hw]
  have hrun := run_append_owned_none (P := P) w base t o.type e i size ht hi _ n xs hown
  unfold Oper.wp
  simp [execOp, ho, resolve, invoke, builtin, hs, hx, hrun, Result.andThen]
  exact h
end
theorem ents_node (w : World) (ok : Nat → Prop) (hok : ∀ b, ok b → b < w.heap.size) (tv : Value) (T : Tr) (ht : RT w ok tv T) (i : Nat) (kl : List Key) (ds : List Int) (ls : List (List (Key × Int))) (hi : Key) (nx : Int) (hpg : T.pages[i]? = some ⟨false, kl, ds, hi, nx⟩) (hll : ls.length = ds.length) (hl4 : ls.flatten.length ≤ 1000000) (hds : ds.length ≤ 1000) (hn4 : T.pages.length ≤ 4000) (hkid : ∀ (W : World) (j : Nat), Below w.heap.size w W → j < ds.length → Calls Try.prog 53 #[tv, .int .i64 (ds.getD j 0)] W (EntsIs (ls.getD j []) W)) :
    Calls Try.prog 53 #[tv, .int .i64 (i : Int)] w (EntsIs ls.flatten w) := by
  obtain ⟨ao, cap, kf, df, gf, rfl, g1, g2, g3⟩ := pagesF ht
  have hil : i < T.pages.length := (List.getElem?_eq_some_iff.1 hpg).1
  obtain ⟨N, hNN⟩ : ∃ N, N = T.pages.length := ⟨_, rfl⟩
  rw [← hNN] at g1 g3 hil hn4 hkid
  rw [← hNN]
  obtain ⟨b0, o0, rfl, hb0, hok0, hpa⟩ := g3 i hil
  rw [getD_of hpg] at hpa
  obtain ⟨ak, ck, ad, cd, ag, cg, x1, x2, x3⟩ := page_box hpa
  rw [x1, x2, x3] at hpa
  obtain ⟨a1, a2, a3, a4, a5, a6, a7, a8⟩ := hpa
  simp only at a1 a2 a3 a4 a5 a6 a7 a8
  obtain ⟨M, hMM⟩ : ∃ M, M = kl.length := ⟨_, rfl⟩
  obtain ⟨m, hm⟩ : ∃ m, m = ds.length := ⟨_, rfl⟩
  have HKD := Lib.hid hkid
  obtain ⟨Kg, hKg⟩ : ∃ K, K = hi.length := ⟨_, rfl⟩
  rw [← hm] at a3 hds
  rw [← hMM] at a2
  rw [← hKg] at a4
  have HPG := Lib.hid hpg
  have HLL := Lib.hid hll
  have HL4 := Lib.hid hl4
  have HMM := Lib.hid hMM
  have HM := Lib.hid hm
  have A6 := Lib.hid a6
  have A7 := Lib.hid a7
  have A8 := Lib.hid a8
  have HT := Lib.hid ht
  have HNN := Lib.hid hNN
  have HKG := Lib.hid hKg
  unfold maxLen at g2
  clear hpg hll hl4 hkid hMM hm a6 a7 a8 ht hNN hKg x1 x2 x3 g3
  go_enter Try.func53, Try.ntmps53
  go_wp2_with fail
  obtain ⟨W2, hW2⟩ : ∃ W2, W2 = (w.alloc (.cells #[.slice (some ⟨b0, o0, none⟩) N cap, .int .i64 T.root] 24)).alloc (.cells #[.bool false, .slice ak M ck, .slice ad m cd, .slice ag Kg cg, .int .i64 nx] 43) := ⟨_, rfl⟩
  have hbW : Below w.heap.size w W2 := by rw [hW2]; exact ((Below.refl _ _).alloc (Nat.le_refl _) _).alloc (by simp) _
  have hzW : W2.heap.size = w.heap.size + 2 := by rw [hW2]; simp
  have hpW : W2.heap[w.heap.size + 1]? = some (.cells #[.bool false, .slice ak M ck, .slice ad m cd, .slice ag Kg cg, .int .i64 nx] 43 (0, 0)) := by rw [hW2]; exact new1 _ _ _
  have htr : W2.heap[w.heap.size]? = some (.cells #[.slice (some ⟨b0, o0, none⟩) N cap, .int .i64 T.root] 24 (0, 0)) := by rw [hW2]; exact (((Below.refl (w.heap.size + 1) (w.alloc _)).alloc (by simp) _).block w.heap.size (by omega)).trans (new0 _ _)
  rw [← hW2]
  have HBW := Lib.hid hbW
  have HPW := Lib.hid hpW
  clear hW2 hbW hpW a1 a2 a3 a4 a5
  go_loopw [6, 7] (fun v ji wr => ∃ (j : Nat) (cs : List Value), j ≤ m ∧ ji = .int .i64 (j : Int) ∧ Hid (wr.ownsRow W2.heap.size 66 2 v (ls.take j).flatten.length cs) ∧ Hid (EntC wr (KeyOn W2.heap.size wr v) cs (ls.take j).flatten) ∧ Hid (Below W2.heap.size W2 wr) ∧ Hid ((ls.take j).flatten = [] → v = .slice none 0 0)) (fun _ ji _ => m - (intOf ji).toNat)
  case atStart => exact ⟨0, [], by omega, rfl, by show World.ownsRow _ _ _ _ _ (List.flatten (ls.take 0)).length _; rw [List.take_zero]; exact World.ownsRow_nil _ _ _ _, by show EntC _ _ [] (ls.take 0).flatten; rw [List.take_zero]; trivial, Below.refl _ _, fun _ => rfl⟩
  case round =>
    obtain ⟨j, cs, hj, rfl, HO, HE, HBL, HNIL⟩ := hrel
    have hwz := HBL.out.size
    have hpr := (HBL.out.block _ (by omega)).trans HPW.out
    have htr2 := (HBL.out.block _ (by omega)).trans htr
    have p0 : wr.cell? ⟨w.heap.size + 1, 0, none⟩ = some (.bool false) := by simp [World.cell?, hpr]
    have p2 : wr.cell? ⟨w.heap.size + 1, 2, none⟩ = some (.slice ad m cd) := by simp [World.cell?, hpr]
    have t0 : wr.cell? ⟨w.heap.size, 0, none⟩ = some (.slice (some ⟨b0, o0, none⟩) N cap) := by simp [World.cell?, htr2]
    have t1 : wr.cell? ⟨w.heap.size, 1, none⟩ = some (.int .i64 T.root) := by simp [World.cell?, htr2]
    clear hpr htr2
    by_cases hlt : j < m
    · obtain ⟨eo, ecap, eq_, _, _, ec⟩ := intsF ((A7.out.below HBW.out).below HBL.out)
      obtain ⟨db, doff, had, hdb, hokd, dcell⟩ := ec j (by rw [← HM.out]; exact hlt)
      simp only [Value.slice.injEq] at eq_
      obtain ⟨rfl, -, rfl⟩ := eq_
      subst had
      have hdw := hok db hokd
      have hjl : j < ls.length := by rw [HLL.out, ← HM.out]; exact hlt
      have htk : (ls.take (j + 1)).flatten = (ls.take j).flatten ++ ls.getD j [] := by
        rw [List.take_succ_eq_append_getElem hjl, List.flatten_append]
        simp [List.getD, hjl]
      have htl : (ls.take (j + 1)).flatten.length ≤ 1000000 := by
        refine Nat.le_trans ?_ HL4.out
        rw [← List.take_append_drop (j + 1) ls, List.flatten_append, List.length_append]
        simp
      rw [htk, List.length_append] at htl
      obtain ⟨le, hle⟩ : ∃ le, le = ls.getD j [] := ⟨_, rfl⟩
      obtain ⟨dj, hdj⟩ : ∃ dj, dj = ds.getD j 0 := ⟨_, rfl⟩
      have hk1 : ∀ W, Below w.heap.size w W → Calls Try.prog 53 #[.agg #[.slice (some ⟨b0, o0, none⟩) N cap, .int .i64 T.root], .int .i64 dj] W (EntsIs le W) := fun W hW => by rw [hle, hdj]; exact HKD.out W j hW (by rw [← HM.out]; exact hlt)
      rw [← hdj] at dcell
      rw [← hle] at htk htl
      obtain ⟨q, hq⟩ : ∃ q, q = (ls.take j).flatten.length := ⟨_, rfl⟩
      rw [← hq] at HO htl
      have HK1 := Lib.hid hk1
      have HTK := Lib.hid htk
      have HQ := Lib.hid hq
      have HBD : Hid (Below wr.heap.size wr wr.drew) := Lib.hid ((Below.refl _ _).drew)
      have HBR := Lib.hid (into HBW.out HBL.out)
      clear hk1 htk hle hdj hq ec hjl
      go_wp2_with fail
      obtain ⟨i9, hi0, hz0, hz1, hz2⟩ := info_parts Try.info66
      by_cases hpos : 0 < le.length
      · go_region_held3 (fun wx => wx.cell? ⟨w.heap.size, 0, none⟩ = some (.slice (some ⟨b0, o0, none⟩) N cap) ∧ wx.cell? ⟨w.heap.size, 1, none⟩ = some (.int .i64 T.root) ∧ wx.cell? ⟨w.heap.size + 1, 2, none⟩ = some (.slice (some ⟨db, doff, none⟩) m cd) ∧ wx.cell? ⟨db, doff + j, none⟩ = some (.int .i64 dj))
          ((first
            | (with_reducible exact ⟨cell_dr t0, cell_dr t1, cell_dr p2, cell_dr dcell⟩)
            | (with_reducible exact ⟨cell_of_below hb2 (cell_dr t0), cell_of_below hb2 (cell_dr t1), cell_of_below hb2 (cell_dr p2), cell_of_below hb2 (cell_dr dcell)⟩)
            | exact ⟨(hb4.cell (by show w.heap.size < _; omega)).trans t0, (hb4.cell (by show w.heap.size < _; omega)).trans t1, (hb4.cell (by show w.heap.size + 1 < _; omega)).trans p2, (hb4.cell (by show db < _; omega)).trans dcell⟩))
          ((first
            | (go_at_call 53; ((with_reducible refine (HK1.out wr.drew (HBR.out.trans (HBD.out.mono (by have := HBR.out.size; exact this)))).mono ?_); rintro e w2 ⟨v2, c2, rfl, hown2, hent2, hb2, -⟩; obtain ⟨ab, ao2, ac2, rfl, _, _, _, gnews⟩ := (Rd.own hown2).pos hpos (by omega)))
            | (refine step_append_lies _ (by rfl) _ _ _ (by rfl) W2.heap.size 66 i9 _ 2 32 Try.underlying63 hi0 hz0 hz1 hz2 rfl (by omega) u6 q cs (by rfl) (own_below HO.out (into HBD.out hb2)) ⟨ab, ao2, none⟩ le.length ac2 c2 (by rfl) hown2.1 (fun j u hu => by rw [Addr.add_lit]; exact gnews j u hu) hent2.one hpos (by unfold maxLen; omega) (by omega) (by have := (into HBD.out hb2).size; omega) w2.heap.size rfl ?_; intro gg cap1 w4 hown4 hgrow hat4 hlt4; have hb4 : Below W2.heap.size wr w4 := ((into HBD.out hb2).mono hwz).trans ((Below.refl _ w2).grown hgrow (by have := (into HBD.out hb2).size; omega) (own_ge (own_below HO.out (into HBD.out hb2)))))))
        have HO4 := Lib.hid hown4
        have HB4 := Lib.hid hb4
        have HG4 := Lib.hid (And.intro hgrow (And.intro hat4 hlt4))
        have HN2 := Lib.hid hent2
        have HBI := Lib.hid (into HBD.out hb2)
        clear hown4 hb4 hgrow hat4 hlt4 hent2 hown2 hb2 gnews
        go_wp2_with fail
        go_roundw
        case rel =>
          refine ⟨j + 1, cs ++ c2, by omega, by go_num, ?_, ?_, Lib.hid (HBL.out.trans HB4.out), Lib.hid (fun h => by rw [HTK.out] at h; have := (List.append_eq_nil_iff.1 h).2; rw [this] at hpos; simp at hpos)⟩
          · show World.ownsRow _ _ _ _ _ _ _
            rw [HTK.out, List.length_append, ← HQ.out]
            exact HO4.out
          · have hz2 := HBI.out.size
            have hg := HG4.out.1
            have hg2 := hg.size
            have hown := HO.out
            have hat := HG4.out.2.1
            show EntC w4 _ _ _
            rw [HTK.out]
            refine EntC.app ?_ ?_
            · refine EntC.mono (EntC.agree (HE.out.below HBI.out) fun b hb hlt => ?_) fun b hb => ?_
              · exact hg.block b hlt hb.2.2
              · refine ⟨hb.1, by omega, fun e => ?_⟩
                have e9 : b = gg := Option.some.inj e
                rcases hat with h | h
                · exact hb.2.2 (by rw [h, e9])
                · omega
            · refine EntC.mono (EntC.agree HN2.out fun b hb hlt => ?_) fun b hb => ?_
              · exact hg.block b hlt (fun e => by have := (hown.lt b e.symm).2; have h1 := hb.1; simp at h1; omega)
              · have h1 := hb.1
                have h2 := hb.2.1
                simp at h1
                refine ⟨by omega, by omega, fun e => ?_⟩
                have e9 : b = gg := Option.some.inj e
                rcases hat with h | h
                · have := (hown.lt gg h).2
                  omega
                · omega
        case measure => simp [intOf]; omega
      · have hemp : le = [] := List.eq_nil_of_length_eq_zero (by omega)
        go_region_held3 (fun wx => wx.cell? ⟨w.heap.size, 0, none⟩ = some (.slice (some ⟨b0, o0, none⟩) N cap) ∧ wx.cell? ⟨w.heap.size, 1, none⟩ = some (.int .i64 T.root) ∧ wx.cell? ⟨w.heap.size + 1, 2, none⟩ = some (.slice (some ⟨db, doff, none⟩) m cd) ∧ wx.cell? ⟨db, doff + j, none⟩ = some (.int .i64 dj))
          ((first
            | (with_reducible exact ⟨cell_dr t0, cell_dr t1, cell_dr p2, cell_dr dcell⟩)
            | (with_reducible exact ⟨cell_of_below hb2 (cell_dr t0), cell_of_below hb2 (cell_dr t1), cell_of_below hb2 (cell_dr p2), cell_of_below hb2 (cell_dr dcell)⟩)))
          ((first
            | (go_at_call 53; ((with_reducible refine (HK1.out wr.drew (HBR.out.trans (HBD.out.mono (by have := HBR.out.size; exact this)))).mono ?_); rintro e w2 ⟨v2, c2, rfl, hown2, hent2, hb2, hnil⟩; obtain rfl := hnil hemp))
            | (refine step_append_none (by rfl) _ _ _ (by rfl) W2.heap.size 66 i9 2 Try.underlying63 hi0 u6 q cs (by rfl) (own_below HO.out (into HBD.out hb2)) (by rfl) ?_)))
        have HO4 := Lib.hid (own_below HO.out (into HBD.out hb2))
        have HBI := Lib.hid (into HBD.out hb2)
        clear hown2 hent2 hb2 hnil
        go_wp2_with fail
        go_roundw
        case rel =>
          refine ⟨j + 1, cs, by omega, by go_num, ?_, ?_, Lib.hid (HBL.out.trans (HBI.out.mono hwz)), ?_⟩
          · show World.ownsRow _ _ _ _ _ _ _
            rw [HTK.out, hemp, List.append_nil, ← HQ.out]
            exact HO4.out
          · have hz2 := HBI.out.size
            show EntC w2 _ _ _
            rw [HTK.out, hemp, List.append_nil]
            exact (HE.out.below HBI.out).mono fun b hb => ⟨hb.1, by have := hb.2.1; omega, hb.2.2⟩
          · show _ → _
            rw [HTK.out, hemp, List.append_nil]
            exact HNIL.out
        case measure => simp [intOf]; omega
    · obtain rfl : j = m := by omega
      have hall : ls.take j = ls := List.take_of_length_le (by rw [HLL.out, ← HM.out]; exact Nat.le_refl _)
      have HALL := Lib.hid hall
      clear hall
      go_wp2_with fail
      go_ret
      refine ⟨_, cs, rfl, ?_, ?_, into HBW.out HBL.out, fun h => HNIL.out (by rw [HALL.out]; exact h)⟩
      · have := HO.out
        rw [HALL.out] at this
        exact own_mono this (by omega)
      · have := HE.out
        rw [HALL.out] at this
        exact this.mono fun b hb => ⟨by omega, hb.2⟩
end Go.Proofs.Ytahammkjkfdmhaa

import Derived.Test.YtnheepkmaibofaaDoorCpk
import Derived.Test.YtnheepkmaibofaaDoorCbk
import Derived.Deep.RegionHeld3
import Derived.Deep.RegionWith
import Derived.Deep.RegionLaw
import Derived.Test.YtnheepkmaibofaaDoorCak
import Derived.Deep.QuietTactic
import Derived.BigQuiet
/- Values and names shown as tokens: the program. -/
namespace Go.Proofs.YtnheepkmaibofaaDoor.cs
open Go.ChangeShapes Go.WideShapes Go.ChangeAt Go.RowKit
set_option linter.unusedVariables false
set_option linter.unusedSimpArgs false
set_option maxHeartbeats 4000000
set_option maxRecDepth 100000
/-- A value that may be shown. -/
def VOk (v : V) : Prop := litF v.k v.n v.t = 0 ∧ -9223372036854775808 ≤ v.n ∧ v.n ≤ 9223372036854775807
theorem vok_of {v : V} (h : litF v.k v.n v.t = 0) (hw : (Lit.int .i64 v.n).wf = true) : VOk v := by
  simp only [Lit.wf, Bool.and_eq_true, decide_eq_true_eq] at hw
  simp [IntKind.min, IntKind.max, IntKind.signed, IntKind.bits] at hw
  exact ⟨h, by omega, by omega⟩
theorem VOk.kinds {v : V} (h : VOk v) : (v = ⟨0, 0, ⟨#[]⟩⟩ ∨ v = ⟨1, 0, ⟨#[]⟩⟩ ∨ v = ⟨1, 1, ⟨#[]⟩⟩) ∨ (v.k = 2 ∧ v.t = ⟨#[]⟩ ∧ -9223372036854775808 < v.n ∧ v.n ≤ 9223372036854775807) ∨ (v.k = 3 ∧ v.n = 0 ∧ v.t.size ≤ 20) := by
  obtain ⟨h1, h2, h3⟩ := h
  obtain ⟨k, n, t⟩ := v
  unfold litF at h1
  simp only at h1 h2 h3 ⊢
  split at h1
  · omega
  · rename_i hn
    have hs : k = 3 → t.size ≤ 20 := fun hk => by
      unfold chk at h1
      subst hk
      split at h1
      · omega
      · split at h1
        · omega
        · split at h1
          · omega
          · split at h1
            · omega
            · omega
    obtain ⟨g1, g2, g3, g4, g5, g6⟩ := chk0 h1
    have hk : k = 0 ∨ k = 1 ∨ k = 2 ∨ k = 3 := by omega
    rcases hk with rfl | rfl | rfl | rfl
    · rw [g3 (by omega), g4 rfl]; exact .inl (.inl rfl)
    · rw [g3 (by omega)]
      rcases g5 rfl with rfl | rfl
      · exact .inl (.inr (.inl rfl))
      · exact .inl (.inr (.inr rfl))
    · exact .inr (.inl ⟨rfl, g3 (by omega), by
        have : ¬ n = -9223372036854775808 := fun e => hn ⟨rfl, e⟩
        omega, h3⟩)
    · exact .inr (.inr ⟨rfl, g6 rfl, hs rfl⟩)
theorem rd_news {w : World} {s m c : Nat} {ad : Addr} {xs : List Value} (h : Rd w s m (.slice (some ad) m c) xs) : ∀ j u, xs[j]? = some u → w.cell? (ad.add j) = some u := by
  obtain ⟨_, ao, cap, h2, h3, h4, h5, h6⟩ := h
  simp only [Value.slice.injEq] at h2
  obtain ⟨rfl, -, rfl⟩ := h2
  exact h6 ad rfl
theorem rd_tk1 (w : World) (k n : Int) (t : ByteArray) (B : Nat) (hB : w.heap.size = B) : Rd (w.alloc (.cells #[.int .i64 k, .string t, .int .i64 n] 39)) 3 1 (.slice (some ⟨B, 0, none⟩) 1 1) [.int .i64 k, .string t, .int .i64 n] := by
  subst hB
  exact Rd.own (World.ownsRow_lit (base := w.heap.size) w #[.int .i64 k, .string t, .int .i64 n] 1 (Nat.le_refl _) (by unfold maxLen; omega) rfl)
theorem tok_lit (w : World) (k n : Int) (t : ByteArray) (x : Tk) (hx : x = ⟨k, t.data.toList, n⟩) : ToksIs [x] w (.returned (.slice (some ⟨w.heap.size, 0, none⟩) 1 1)) (w.alloc (.cells #[.int .i64 k, .string t, .int .i64 n] 39)) := by
  subst hx
  refine ⟨_, rfl, ?_, (Below.refl _ _).alloc (Nat.le_refl _) _⟩
  have h := World.ownsRow_lit (base := w.heap.size) w #[.int .i64 k, .string t, .int .i64 n] (e := 39) (size := 3) 1 (Nat.le_refl _) (by unfold maxLen; omega) rfl
  have e : tkc [⟨k, t.data.toList, n⟩] = [.int .i64 k, .string t, .int .i64 n] := by
    show [Value.int .i64 k, Value.string ⟨t.data.toList.toArray⟩, Value.int .i64 n] = _
    rw [show (⟨t.data.toList.toArray⟩ : ByteArray) = t from of_data t]
  rw [e]
  exact h
theorem tok_litB (w : World) (k n : Int) (t : ByteArray) (x : Tk) (B : Nat) (hB : w.heap.size = B) (hx : x = ⟨k, t.data.toList, n⟩) : ToksIs [x] w (.returned (.slice (some ⟨B, 0, none⟩) 1 1)) (w.alloc (.cells #[.int .i64 k, .string t, .int .i64 n] 39)) := by
  subst hB
  exact tok_lit w k n t x hx
theorem showName_any (w : World) (hT : Tbp w) (t : ByteArray) (ht : t.size ≤ 1000) : Calls Tryd.prog 76 #[.string t] w (ToksIs (shN t) w) := by
  have HP := Lib.hid (plain1 w hT.b.m t ht w.heap.size rfl)
  clear hT ht
  go_enter Tryd.func76, Tryd.ntmps76
  go_wp2_with fail
  refine HP.out.mono ?_
  rintro e w1 ⟨v1, rfl, h1, h2⟩
  have H := Lib.hid (show ToksIs (shN t) w (.returned v1) w1 from ⟨v1, rfl, h1, h2⟩)
  clear h1 h2
  go_wp2_with fail
  go_ret
  exact H.out
theorem val4 (Q : Exit → Act → World → Prop) (c0 c2 c3 c4 c5 c6 c7 c8 c9 c10 c11 c12 c13 c14 c15 c16 c17 c18 c19 c20 c21 c22 c23 c24 c25 c26 c27 c28 c29 c30 c31 c32 c33 c34 c35 c36 c37 c38 c39 c40 c41 c42 c43 c44 c45 c46 c47 c48 c49 c50 c51 c52 c53 : Value) (w0 : World) (P : Nat) (hP : P < w0.heap.size) (x : Int) (hx0 : x < 0) (hx1 : -9223372036854775808 < x)
    (p0 : w0.cell? ⟨P, 1, none⟩ = some (.int .i64 x))
    (HPA : Hid (∀ W B, Below w0.heap.size w0 W → Rd W 1 1 (.slice (some ⟨B, 0, none⟩) 1 1) ([sMinus].map Value.string) → Calls Tryd.prog 42 #[.slice (some ⟨B, 0, none⟩) 1 1] W (ToksIs [ptk sMinus] W)))
    (hout : Hid (∀ (u24 u25 u26 u27 u28 u29 u30 u31 : Value) (vout : Value) (w' : World), ToksIs [ptk sMinus, ⟨2, [], -x⟩] w0 (.returned vout) w' → Q .normal ⟨List.toArray (c0 :: (.pointer (some ⟨P, 0, none⟩)) :: vout :: c3 :: c4 :: c5 :: c6 :: c7 :: c8 :: c9 :: c10 :: c11 :: c12 :: c13 :: c14 :: c15 :: c16 :: c17 :: c18 :: c19 :: c20 :: c21 :: c22 :: c23 :: u24 :: u25 :: u26 :: u27 :: u28 :: u29 :: u30 :: u31 :: c32 :: c33 :: c34 :: c35 :: c36 :: c37 :: c38 :: c39 :: c40 :: c41 :: c42 :: c43 :: c44 :: c45 :: c46 :: c47 :: c48 :: c49 :: c50 :: c51 :: c52 :: c53 :: []), []⟩ w')) :
    Code.wp Tryd.prog ((regionOf 4 (Tryd.f46.body.getD .skip)).getD .skip) Q ⟨List.toArray (c0 :: (.pointer (some ⟨P, 0, none⟩)) :: c2 :: c3 :: c4 :: c5 :: c6 :: c7 :: c8 :: c9 :: c10 :: c11 :: c12 :: c13 :: c14 :: c15 :: c16 :: c17 :: c18 :: c19 :: c20 :: c21 :: c22 :: c23 :: c24 :: c25 :: c26 :: c27 :: c28 :: c29 :: c30 :: c31 :: c32 :: c33 :: c34 :: c35 :: c36 :: c37 :: c38 :: c39 :: c40 :: c41 :: c42 :: c43 :: c44 :: c45 :: c46 :: c47 :: c48 :: c49 :: c50 :: c51 :: c52 :: c53 :: []), []⟩ w0 := by
  refine Code.wp_mono (Q := NQ Q) nq_to ?_
  conv => arg 2; whnf
  have hB0 : Below w0.heap.size w0 w0 := Below.refl _ _
  obtain ⟨i9, hi0, hz0, hz1, hz2⟩ := info_parts Tryd.info39
  have hneg : IntKind.i64.wrap (-x) = -x := by simp [IntKind.wrap, IntKind.signed, IntKind.bits]; omega
  have hneg2 : wrap64 (-x) = -x := by unfold wrap64; omega
  go_region_held3 (fun wx => wx.cell? ⟨P, 1, none⟩ = some (.int .i64 x))
    ((repeat' (first | (with_reducible assumption) | (with_reducible refine cell_dr ?_) | (with_reducible refine cell_al _ ?_) | (with_reducible refine cell_of_below hbA ?_) | (with_reducible refine cell_of_below hb4 ?_))))
    ((first
      | (go_at_call 42; (with_reducible refine (HPA.out _ _ (by go_grown) (by ((repeat' (first | (with_reducible assumption) | (with_reducible refine rd_lit1 _ _ _ ?_) | (with_reducible refine rd_drew ?_) | (with_reducible refine rd_alloc ?_ _) | (simp; done))); (first | done | fail)))).mono ?_); rintro e wA ⟨vA, rfl, hownA, hbA⟩; obtain ⟨aA, qA, rfl⟩ := own_shape hownA; have hBA : Below w0.heap.size w0 wA := into (by go_grown) hbA; have hzA := hBA.size; have hownA2 : wA.ownsRow w0.heap.size 39 3 (.slice aA 1 qA) 1 (tkc [ptk sMinus]) := own_mono hownA (by simp; try omega))
      | (refine step_append_lies _ (by rfl) _ _ _ (by rfl) w0.heap.size 39 i9 _ 3 32 Tryd.underlying32 hi0 hz0 hz1 hz2 rfl (by omega) (.slice aA 1 qA) 1 (tkc [ptk sMinus]) (by rfl) (by first | exact hownA2 | exact own_below hownA2 (by go_grown)) _ 1 1 [.int .i64 2, .string ⟨#[]⟩, .int .i64 (-x)] (by rfl) (by rfl) (rd_news (s := 3) (m := 1) (c := 1) (by ((repeat' (first | (with_reducible assumption) | (with_reducible refine rd_tk1 _ _ _ _ _ ?_) | (with_reducible refine Rd.below ?_ hbA) | (with_reducible refine rd_drew ?_) | (with_reducible refine rd_alloc ?_ _) | (simp; done))); (first | done | fail)))) (by intro u hu; simp at hu; rcases hu with rfl | rfl | rfl <;> rfl) (by omega) (by unfold maxLen; omega) (by omega) (by first | omega | (simp; done) | (simp; omega)) _ rfl ?_; intro gg cap1 w4 hown4 hgrow hat4 hlt4; have hgg := (Below.refl w0.heap.size _).grown hgrow (by first | omega | (simp; done) | (simp; omega)) (own_ge hownA2); have hb4 : Below w0.heap.size w0 w4 := Below.trans (by go_grown) hgg)))
  all_goals exact hout.out _ _ _ _ _ _ _ _ _ _ ⟨_, rfl, hown4, hb4⟩
theorem con0 (w : World) : (Instr.index 99 (.agg coC) (.int .i64 (0 : Int))).run Tryd.prog w = .ok (.agg #[coC[0]!, coC[1]!, coC[2]!, coC[3]!]) w := by kernel_rfl
theorem con1 (w : World) : (Instr.index 99 (.agg coC) (.int .i64 (1 : Int))).run Tryd.prog w = .ok (.agg #[coC[4]!, coC[5]!, coC[6]!, coC[7]!]) w := by kernel_rfl
theorem con2 (w : World) : (Instr.index 99 (.agg coC) (.int .i64 (2 : Int))).run Tryd.prog w = .ok (.agg #[coC[8]!, coC[9]!, coC[10]!, coC[11]!]) w := by kernel_rfl
theorem showValue_any (w : World) (hT : Tbp w) (v : V) (hv : VOk v) : Calls Tryd.prog 46 #[.agg #[.int .i64 v.k, .int .i64 v.n, .string v.t]] w (ToksIs (valT v) w) := by
  have hm := hT.b.m
  obtain ⟨ct, cf, hco⟩ := hT.c
  have hkinds := hv.kinds
  obtain ⟨k, n, t⟩ := v
  simp only at hkinds ⊢
  have hb0 : Below w.heap.size w (w.alloc (.cells #[.int .i64 k, .int .i64 n, .string t] 44)) := (Below.refl _ _).alloc (Nat.le_refl _) _
  rcases hkinds with hw | ⟨rfl, rfl, h1, h2⟩ | ⟨rfl, rfl, h20⟩
  · have HCO : Hid ((w.alloc (.cells #[.int .i64 k, .int .i64 n, .string t] 44)).heap[3]? = some (.cells coC ct cf)) := by
      have hlt : 3 < w.heap.size := by
        rcases Nat.lt_or_ge 3 w.heap.size with g | g
        · exact g
        · rw [Array.getElem?_eq_none g] at hco; cases hco
      exact (hb0.block _ hlt).trans hco
    have HP : Hid (∀ s : ByteArray, s.size ≤ 1000 → ∀ W, Below w.heap.size w W → ∀ B, W.heap.size = B → Calls Tryd.prog 42 #[.slice (some ⟨B, 0, none⟩) 1 1] (W.alloc (.cells #[.string s] 9)) (ToksIs [ptk s] W)) := fun s hs W hW B hB => plain1 W (hm.below hW) s hs B hB
    have HI0 := con0
    have HI1 := con1
    have HI2 := con2
    simp only [coC] at HI0 HI1 HI2 HCO
    have z4 : (4 : Nat) ≤ 1000 := by omega
    clear hco hv hm hT
    simp only [V.mk.injEq] at hw
    rcases hw with ⟨rfl, rfl, rfl⟩ | ⟨rfl, rfl, rfl⟩ | ⟨rfl, rfl, rfl⟩
    · go_enter Tryd.func46, Tryd.ntmps46
      go_wp2_with (refine wpList_load_row rfl _ _ rfl _ rfl _ _ _ _ HCO.out Tryd.underlying99 rfl (by kernel_rfl) ?_)
      refine wp_loop_rounds 4 ?_
      rw [rounds_succ]
      go_wp2_with fail
      rw [rounds_succ]
      go_wp2_with fail
      rw [rounds_succ]
      go_wp2_with fail
      rw [rounds_succ]
      go_wp2_with fail
      refine (HP.out sNULL (by decide) _ ?_ _ ?_).mono ?_
      rotate_left 2
      · rintro e w1 ⟨v1, rfl, h1, h2⟩
        have H := Lib.hid (ToksIs.from (show ToksIs [ptk sNULL] _ (.returned v1) w1 from ⟨v1, rfl, h1, h2⟩) (show Below w.heap.size w _ by go_grown))
        clear h1 h2
        go_wp2_with fail
        go_ret
        exact H.out
      · go_grown
      · simp
    · go_enter Tryd.func46, Tryd.ntmps46
      go_wp2_with (refine wpList_load_row rfl _ _ rfl _ rfl _ _ _ _ HCO.out Tryd.underlying99 rfl (by kernel_rfl) ?_)
      refine wp_loop_rounds 4 ?_
      rw [rounds_succ]
      go_wp2_with fail
      rw [rounds_succ]
      go_wp2_with fail
      rw [rounds_succ]
      go_wp2_with fail
      rw [rounds_succ]
      go_wp2_with fail
      refine (HP.out sFALSE (by decide) _ ?_ _ ?_).mono ?_
      rotate_left 2
      · rintro e w1 ⟨v1, rfl, h1, h2⟩
        have H := Lib.hid (ToksIs.from (show ToksIs [ptk sFALSE] _ (.returned v1) w1 from ⟨v1, rfl, h1, h2⟩) (show Below w.heap.size w _ by go_grown))
        clear h1 h2
        go_wp2_with fail
        go_ret
        exact H.out
      · go_grown
      · simp
    · go_enter Tryd.func46, Tryd.ntmps46
      go_wp2_with (refine wpList_load_row rfl _ _ rfl _ rfl _ _ _ _ HCO.out Tryd.underlying99 rfl (by kernel_rfl) ?_)
      refine wp_loop_rounds 4 ?_
      rw [rounds_succ]
      go_wp2_with fail
      rw [rounds_succ]
      go_wp2_with fail
      rw [rounds_succ]
      go_wp2_with fail
      rw [rounds_succ]
      go_wp2_with fail
      refine (HP.out sTRUE (by decide) _ ?_ _ ?_).mono ?_
      rotate_left 2
      · rintro e w1 ⟨v1, rfl, h1, h2⟩
        have H := Lib.hid (ToksIs.from (show ToksIs [ptk sTRUE] _ (.returned v1) w1 from ⟨v1, rfl, h1, h2⟩) (show Below w.heap.size w _ by go_grown))
        clear h1 h2
        go_wp2_with fail
        go_ret
        exact H.out
      · go_grown
      · simp
  · have HP : Hid (∀ W B, Below (w.alloc (.cells #[.int .i64 2, .int .i64 n, .string ⟨#[]⟩] 44)).heap.size (w.alloc (.cells #[.int .i64 2, .int .i64 n, .string ⟨#[]⟩] 44)) W → Rd W 1 1 (.slice (some ⟨B, 0, none⟩) 1 1) ([sMinus].map Value.string) → Calls Tryd.prog 42 #[.slice (some ⟨B, 0, none⟩) 1 1] W (ToksIs [ptk sMinus] W)) := fun W B hW hr => plain_any W (hm.below (into hb0 hW)) 1 _ _ (by omega) (by omega) hr (by simp; decide)
    have HB0 := Lib.hid hb0
    have hp0 : (w.alloc (.cells #[.int .i64 2, .int .i64 n, .string ⟨#[]⟩] 44)).cell? ⟨w.heap.size, 1, none⟩ = some (.int .i64 n) := by simp
    have HP0 := Lib.hid hp0
    clear hco hv hm hT hb0 hp0
    by_cases hn : n < 0
    · have HF : Hid (valT ⟨2, n, ⟨#[]⟩⟩ = [ptk sMinus, ⟨2, [], -n⟩]) := by
        show _ = _
        unfold valT
        rw [if_neg (by simp), if_pos rfl, if_pos hn]
      go_enter Tryd.func46, Tryd.ntmps46
      go_wp2_with fail
      change Code.wp _ ((regionOf 4 (Tryd.f46.body.getD .skip)).getD .skip) _ _ _
      refine val4 _ _ _ _ _ _ _ _ _ _ _ _ _ _ _ _ _ _ _ _ _ _ _ _ _ _ _ _ _ _ _ _ _ _ _ _ _ _ _ _ _ _ _ _ _ _ _ _ _ _ _ _ _ _ _ w.heap.size (by simp) n hn h1 HP0.out HP (Lib.hid ?_)
      intro e24 e25 e26 e27 e28 e29 e30 e31 vv w1 h
      have H := Lib.hid h
      clear h
      go_wp2_with fail
      go_ret
      rw [HF.out]
      exact ToksIs.from H.out HB0.out
    · have HF : Hid (valT ⟨2, n, ⟨#[]⟩⟩ = [⟨2, [], n⟩]) := by
        show _ = _
        unfold valT
        rw [if_neg (by simp), if_pos rfl, if_neg hn]
      go_enter Tryd.func46, Tryd.ntmps46
      go_wp2_with fail
      go_ret
      rw [HF.out]
      exact ToksIs.from (tok_litB _ 2 n ⟨#[]⟩ ⟨2, [], n⟩ _ (by simp) rfl) HB0.out
  · have HCL := Lib.hid (clone_any (w.alloc (.cells #[.int .i64 3, .int .i64 0, .string t] 44)) t (by omega))
    have HB0 := Lib.hid hb0
    clear hco hv hm hb0 h20 hT
    go_enter Tryd.func46, Tryd.ntmps46
    go_wp2_with fail
    refine HCL.out.mono ?_
    rintro e w1 ⟨rfl, hb1⟩
    have HB1 := Lib.hid (into HB0.out hb1)
    clear hb1 HCL
    go_wp2_with fail
    go_ret
    exact ToksIs.from (tok_lit w1 3 0 t _ rfl) HB1.out
end Go.Proofs.YtnheepkmaibofaaDoor.cs
/- Tokens put together; values as tokens: the document. -/
namespace Go.Proofs.YtnheepkmaibofaaDoor.cs
open Go.ChangeShapes Go.WideShapes Go.ChangeAt Go.RowKit
set_option linter.unusedVariables false
set_option linter.unusedSimpArgs false
set_option maxHeartbeats 4000000
set_option maxRecDepth 100000
theorem tgetD_mem {l : List Tk} {k : Nat} (h : k < l.length) : l.getD k tk0 ∈ l := by
  rw [List.getD, List.getElem?_eq_getElem h]
  exact List.getElem_mem h
theorem ttake_snoc {l : List Tk} {k : Nat} (h : k < l.length) : l.take (k + 1) = l.take k ++ [l.getD k tk0] := by
  rw [List.take_succ_eq_append_getElem h]
  simp [List.getD, List.getElem?_eq_getElem h]
theorem joinToks_any (w : World) (m : Nat) (v : Value) (ps : List Pt) (hm0 : 0 < m) (hm : m ≤ 1000) (hr : Rd w 1 m v (ps.map Pt.v)) (hp : ∀ p ∈ ps, Rd w 3 p.l.length p.v (tkc p.l)) (hT : (ptl ps).length ≤ 100000) :
    Calls Tryd.prog 57 #[v] w (ToksIs (ptl ps) w) := by
  have hml : m = ps.length := by have := hr.1; simp at this; omega
  obtain ⟨b, o, cap, rfl, hmc, _, hbw, hcell⟩ := hr.pos hm0 (by omega)
  have HC : Hid (∀ k, k < m → w.cell? ⟨b, o + k, none⟩ = some (ps.getD k npt).v) := fun k hk => hcell k _ (pv_at (by omega))
  have HP := Lib.hid hp
  have HN := Lib.hid hml
  have HT := Lib.hid hT
  clear hcell hp hml hr hT
  go_enter Tryd.func57, Tryd.ntmps57
  go_wp2_with fail
  go_loopw [3, 4] (fun u i wr => ∃ (k : Nat) (L : List Tk) (r : Nat), k ≤ m ∧ i = .int .i64 (k : Int) ∧ Hid (L = ptl (ps.take k)) ∧ Hid (r = L.length) ∧ r ≤ 100000 ∧ Hid (wr.ownsRow w.heap.size 39 3 u r (tkc L)) ∧ Hid (Below w.heap.size w wr)) (fun _ i _ => m - (intOf i).toNat)
  case atStart => exact ⟨0, [], 0, by omega, rfl, rfl, rfl, by omega, World.ownsRow_nil _ _ _ _, Below.refl _ _⟩
  case round =>
    obtain ⟨k, L, r, hk, rfl, HL, HLn, hr9, HU, HB⟩ := hrel
    by_cases hlt : k < m
    · have hll : k < ps.length := by rw [← HN.out]; exact hlt
      have cw := HC.out k hlt
      have hrp := HP.out _ (pgetD_mem hll)
      have hsn := ptl_snoc hll
      have hle := ptl_le ps (k + 1)
      rw [hsn, List.length_append, ← HL.out, ← HLn.out] at hle
      rw [← HL.out] at hsn
      obtain ⟨p, hpp⟩ : ∃ p, p = ps.getD k npt := ⟨_, rfl⟩
      rw [← hpp] at cw hrp hsn hle
      obtain ⟨pv, M⟩ := p
      simp only at cw hrp hsn hle
      obtain ⟨q, hq⟩ : ∃ q, q = M.length := ⟨_, rfl⟩
      rw [← hq] at hrp hle
      have hb9 : r + q ≤ 100000 := Nat.le_trans hle HT.out
      have HS := Lib.hid hsn
      have HQ := Lib.hid hq
      have HR := Lib.hid hrp
      obtain ⟨_, ao, cp, rfl, _⟩ := hrp
      have CW := Lib.hid cw
      have c0 := (HB.out.cell (p := ⟨b, o + k, none⟩) hbw).trans cw
      clear hle hsn hq hpp hll cw
      obtain ⟨wo, rfl⟩ : ∃ wo : World, wo = wr := ⟨_, rfl⟩
      go_wp2_with fail
      go_loopw [3, 5] (fun u j wk => ∃ d : Nat, d ≤ q ∧ j = .int .i64 (d : Int) ∧ Hid (wk.ownsRow w.heap.size 39 3 u (r + d) (tkc (L ++ M.take d))) ∧ Hid (Below w.heap.size w wk)) (fun _ j _ => q - (intOf j).toNat)
      case atStart => exact ⟨0, by omega, rfl, by simpa [Hid] using HU.out, HB.out⟩
      case round =>
        obtain ⟨d, hd, rfl, HV, HK⟩ := hrel
        have c2 := (HK.out.cell (p := ⟨b, o + k, none⟩) hbw).trans CW.out
        clear c0
        by_cases hdq : d < q
        · obtain ⟨cb, co, cp', hv, _, _, hcw, hcc⟩ := HR.out.pos (by omega) (by omega)
          simp only [Value.slice.injEq] at hv
          obtain ⟨rfl, -, rfl⟩ := hv
          have hdl : d < M.length := by rw [← HQ.out]; exact hdq
          obtain ⟨t0, t1, t2⟩ := tkc_at hdl
          have e0 := (HK.out.cell (p := ⟨cb, co + d * 3, none⟩) hcw).trans (hcc _ _ t0)
          have e1 : wr.cell? ⟨cb, co + d * 3 + 1, none⟩ = some (.string ⟨(M.getD d tk0).t.toArray⟩) := (HK.out.cell (p := ⟨cb, co + d * 3 + 1, none⟩) hcw).trans (by have := hcc _ _ t1; rwa [← Nat.add_assoc] at this)
          have e2 : wr.cell? ⟨cb, co + d * 3 + 2, none⟩ = some (.int .i64 (M.getD d tk0).n) := (HK.out.cell (p := ⟨cb, co + d * 3 + 2, none⟩) hcw).trans (by have := hcc _ _ t2; rwa [← Nat.add_assoc] at this)
          have htk := ttake_snoc hdl
          obtain ⟨x, hx⟩ : ∃ x, x = M.getD d tk0 := ⟨_, rfl⟩
          rw [← hx] at e0 e1 e2 htk
          have HTK := Lib.hid htk
          have hz := HK.out.size
          obtain ⟨xk, xt, xn⟩ := x
          simp only at e0 e1 e2
          have HCL : Hid (tkc (L ++ M.take (d + 1)) = tkc (L ++ M.take d) ++ [.int .i64 xk, .string ⟨xt.toArray⟩, .int .i64 xn]) := by
            show _ = _
            rw [HTK.out, ← List.append_assoc, tkc_app (L ++ M.take d)]
            rfl
          clear hcc t0 t1 t2 hx htk hdl HTK
          obtain ⟨xb, hxb⟩ : ∃ xb : ByteArray, xb = ⟨xt.toArray⟩ := ⟨_, rfl⟩
          rw [← hxb] at e1 HCL
          clear hxb
          go_wp2_with (at_builtin; refine apt wr rfl _ _ rfl HV.out hz (by omega) wr.heap.size rfl rfl rfl ?_; intro v1 w1 hown1 hb1 _; have HO1 := Lib.hid hown1; have HB1 := Lib.hid (HK.out.trans hb1); clear hown1 hb1)
          go_roundw
          case rel =>
            refine ⟨d + 1, by omega, by go_num, ?_, HB1.out⟩
            show World.ownsRow _ _ _ _ _ _ _
            rw [HCL.out]
            exact HO1.out
          case measure => (simp [intOf]) <;> omega
        · obtain rfl : d = q := by omega
          have HE : Hid (L ++ M.take d = ptl (ps.take (k + 1))) := by
            show _ = _
            rw [List.take_of_length_le (by rw [← HQ.out]; exact Nat.le_refl _), HS.out]
          have HLL : Hid (r + d = (ptl (ps.take (k + 1))).length) := by
            show _ = _
            rw [HS.out, List.length_append, ← HLn.out, ← HQ.out]
          go_wp2_with fail
          go_roundw
          case rel =>
            refine ⟨k + 1, ptl (ps.take (k + 1)), r + d, by omega, by go_num, rfl, HLL.out, hb9, ?_, HK.out⟩
            show World.ownsRow _ _ _ _ _ _ _
            rw [← HE.out]
            exact HV.out
          case measure => (simp [intOf]) <;> omega
    · obtain rfl : k = m := by omega
      have HE : Hid (ptl ps = L) := by
        show _ = _
        rw [HL.out, List.take_of_length_le (by rw [← HN.out]; exact Nat.le_refl _)]
      go_wp2_with fail
      go_ret
      rw [HE.out]
      refine ⟨_, rfl, ?_, HB.out⟩
      rw [← HLn.out]
      exact HU.out
theorem toksT (w : World) (s : ByteArray) (hs : s.size ≤ 1000) (L : List Tk) (hL : tz s.data.toList = L) : Calls Tryd.prog 55 #[.string s] w (ToksIs L w) := by
  subst hL
  exact toks_any w s hs
theorem yesv_any (b : Bool) (w : World) :
    Calls Tryd.prog 83 #[.bool b] w fun e w' => e = .returned (.agg #[.int .i64 1, .int .i64 (if b = true then 1 else 0), .string ⟨#[]⟩]) ∧ Below w.heap.size w w' := by
  cases b
  all_goals (
    go_enter Tryd.func83, Tryd.ntmps83
    go_wp2
    go_returns
    exact ⟨rfl, by go_grown⟩)
theorem rval10 (Q : Exit → Act → World → Prop) (c0 c2 c3 c4 c5 c6 c7 c8 c9 c10 c11 c12 c13 c14 c15 c16 c17 c18 c19 c20 c21 c22 c23 c24 c25 c26 c27 c28 c29 c30 c31 c32 c33 c34 c35 : Value) (w0 : World) (P : Nat) (hP : P < w0.heap.size) (x : Int) (hx0 : x < 0) (hx1 : -9223372036854775808 < x)
    (p0 : w0.cell? ⟨P, 1, none⟩ = some (.int .i64 x))
    (HPA : Hid (∀ W, Below w0.heap.size w0 W → Calls Tryd.prog 55 #[.string sMinus] W (ToksIs [ptk sMinus] W)))
    (hout : Hid (∀ (u25 u26 u27 u28 u29 u30 u31 : Value) (vout : Value) (w' : World), ToksIs [ptk sMinus, ⟨2, [], -x⟩] w0 (.returned vout) w' → Q .normal ⟨List.toArray (c0 :: (.pointer (some ⟨P, 0, none⟩)) :: vout :: c3 :: c4 :: c5 :: c6 :: c7 :: c8 :: c9 :: c10 :: c11 :: c12 :: c13 :: c14 :: c15 :: c16 :: c17 :: c18 :: c19 :: c20 :: c21 :: c22 :: c23 :: c24 :: u25 :: u26 :: u27 :: u28 :: u29 :: u30 :: u31 :: c32 :: c33 :: c34 :: c35 :: []), []⟩ w')) :
    Code.wp Tryd.prog ((regionOf 10 (Tryd.f56.body.getD .skip)).getD .skip) Q ⟨List.toArray (c0 :: (.pointer (some ⟨P, 0, none⟩)) :: c2 :: c3 :: c4 :: c5 :: c6 :: c7 :: c8 :: c9 :: c10 :: c11 :: c12 :: c13 :: c14 :: c15 :: c16 :: c17 :: c18 :: c19 :: c20 :: c21 :: c22 :: c23 :: c24 :: c25 :: c26 :: c27 :: c28 :: c29 :: c30 :: c31 :: c32 :: c33 :: c34 :: c35 :: []), []⟩ w0 := by
  refine Code.wp_mono (Q := NQ Q) nq_to ?_
  conv => arg 2; whnf
  have hB0 : Below w0.heap.size w0 w0 := Below.refl _ _
  obtain ⟨i9, hi0, hz0, hz1, hz2⟩ := info_parts Tryd.info39
  have hneg : IntKind.i64.wrap (-x) = -x := by simp [IntKind.wrap, IntKind.signed, IntKind.bits]; omega
  have hneg2 : wrap64 (-x) = -x := by unfold wrap64; omega
  go_region_held3 (fun wx => wx.cell? ⟨P, 1, none⟩ = some (.int .i64 x))
    ((repeat' (first | (with_reducible assumption) | (with_reducible refine cell_dr ?_) | (with_reducible refine cell_al _ ?_) | (with_reducible refine cell_of_below hbA ?_) | (with_reducible refine cell_of_below hb4 ?_))))
    ((first
      | (go_at_call 55; (with_reducible refine (HPA.out _ (by go_grown)).mono ?_); rintro e wA ⟨vA, rfl, hownA, hbA⟩; obtain ⟨aA, qA, rfl⟩ := own_shape hownA; have hBA : Below w0.heap.size w0 wA := into (by go_grown) hbA; have hzA := hBA.size; have hownA2 : wA.ownsRow w0.heap.size 39 3 (.slice aA 1 qA) 1 (tkc [ptk sMinus]) := own_mono hownA (by first | omega | (simp; done) | (simp; omega)))
      | (refine step_append_lies _ (by rfl) _ _ _ (by rfl) w0.heap.size 39 i9 _ 3 32 Tryd.underlying32 hi0 hz0 hz1 hz2 rfl (by omega) (.slice aA 1 qA) 1 (tkc [ptk sMinus]) (by rfl) (by first | exact hownA2 | exact own_below hownA2 (by go_grown)) _ 1 1 [.int .i64 2, .string ⟨#[]⟩, .int .i64 (-x)] (by rfl) (by rfl) (rd_news (s := 3) (m := 1) (c := 1) (by ((repeat' (first | (with_reducible assumption) | (with_reducible refine rd_tk1 _ _ _ _ _ ?_) | (with_reducible refine Rd.below ?_ hbA) | (with_reducible refine rd_drew ?_) | (with_reducible refine rd_alloc ?_ _) | (simp; done))); (first | done | fail)))) (by intro u hu; simp at hu; rcases hu with rfl | rfl | rfl <;> rfl) (by omega) (by unfold maxLen; omega) (by omega) (by first | omega | (simp; done) | (simp; omega)) _ rfl ?_; intro gg cap1 w4 hown4 hgrow hat4 hlt4; have hgg := (Below.refl w0.heap.size _).grown hgrow (by first | omega | (simp; done) | (simp; omega)) (own_ge hownA2); have hb4 : Below w0.heap.size w0 w4 := Below.trans (by go_grown) hgg)))
  all_goals exact hout.out _ _ _ _ _ _ _ _ _ ⟨_, rfl, hown4, hb4⟩
theorem valueToks_any (w : World) (v : V) (hv : VOk v) : Calls Tryd.prog 56 #[.agg #[.int .i64 v.k, .int .i64 v.n, .string v.t]] w (ToksIs (valT v) w) := by
  have hkinds := hv.kinds
  obtain ⟨k, n, t⟩ := v
  simp only at hkinds ⊢
  have hb0 : Below w.heap.size w (w.alloc (.cells #[.int .i64 k, .int .i64 n, .string t] 44)) := (Below.refl _ _).alloc (Nat.le_refl _) _
  have hnew := fun w1 (hb : Below (w.alloc (.cells #[.int .i64 k, .int .i64 n, .string t] 44)).heap.size (w.alloc (.cells #[.int .i64 k, .int .i64 n, .string t] 44)) w1) => has3 (new0 w (.cells #[.int .i64 k, .int .i64 n, .string t] 44)) hb
  have hsz : w.heap.size < (w.alloc (.cells #[.int .i64 k, .int .i64 n, .string t] 44)).heap.size := by simp
  obtain ⟨W0, hW0⟩ : ∃ W0, W0 = w.alloc (.cells #[.int .i64 k, .int .i64 n, .string t] 44) := ⟨_, rfl⟩
  rw [← hW0] at hb0 hnew hsz
  have HNEW := Lib.hid hnew
  have HWE := Lib.hid hW0
  have HSZ := Lib.hid hsz
  have HY := Lib.hid yesv_any
  have HTK := Lib.hid toksT
  have HB0 := Lib.hid hb0
  have hB0 : Below W0.heap.size W0 W0 := Below.refl _ _
  obtain ⟨y0, y1, y2, -, -, -⟩ := hnew W0 hB0
  clear hb0 hv hW0 hnew hsz
  rcases hkinds with hw | ⟨rfl, rfl, h1, h2⟩ | ⟨rfl, rfl, h20⟩
  · simp only [V.mk.injEq] at hw
    rcases hw with ⟨rfl, rfl, rfl⟩ | ⟨rfl, rfl, rfl⟩ | ⟨rfl, rfl, rfl⟩
    · go_enter Tryd.func56, Tryd.ntmps56
      go_wp2_with fail
      refine (HTK.out _ sNULL (by decide) [ptk sNULL] (wd_tz wNULL)).mono ?_
      rintro e wz ⟨vz, rfl, h1, h2⟩
      have H := Lib.hid (show ToksIs [ptk sNULL] _ (.returned vz) wz from ⟨vz, rfl, h1, h2⟩)
      clear h1 h2
      go_wp2_with fail
      go_ret
      exact ToksIs.from (ToksIs.from H.out (by rw [HWE.out]; exact Below.refl _ _)) HB0.out
    · go_enter Tryd.func56, Tryd.ntmps56
      go_wp2_with fail
      rw [← HWE.out]
      go_region_with (go_at_call 83; ((with_reducible refine (HY.out true _).mono ?_); rintro e wa ⟨rfl, hba⟩; have hBa : Below W0.heap.size W0 wa := into (by go_grown) hba; obtain ⟨x0, x1, x2, -, -, -⟩ := HNEW.out wa hBa))
      all_goals (
        go_wp2_with fail
        go_region_with (go_at_call 83; ((with_reducible refine (HY.out false _).mono ?_); rintro e wb ⟨rfl, hbb⟩; have hBb : Below W0.heap.size W0 wb := into (by go_grown) hbb; obtain ⟨x0, x1, x2, -, -, -⟩ := HNEW.out wb hBb))
        all_goals (
          go_wp2_with fail
          refine (HTK.out _ sFALSE (by decide) [ptk sFALSE] (wd_tz wFALSE)).mono ?_
          rintro e wz ⟨vz, rfl, h1, h2⟩
          have H := Lib.hid (show ToksIs [ptk sFALSE] _ (.returned vz) wz from ⟨vz, rfl, h1, h2⟩)
          clear h1 h2
          go_wp2_with fail
          go_ret
          exact ToksIs.from (ToksIs.from H.out hBb) HB0.out))
    · go_enter Tryd.func56, Tryd.ntmps56
      go_wp2_with fail
      rw [← HWE.out]
      go_region_with (go_at_call 83; ((with_reducible refine (HY.out true _).mono ?_); rintro e wa ⟨rfl, hba⟩; have hBa : Below W0.heap.size W0 wa := into (by go_grown) hba; obtain ⟨x0, x1, x2, -, -, -⟩ := HNEW.out wa hBa))
      all_goals (
        go_wp2_with fail
        refine (HTK.out _ sTRUE (by decide) [ptk sTRUE] (wd_tz wTRUE)).mono ?_
        rintro e wz ⟨vz, rfl, h1, h2⟩
        have H := Lib.hid (show ToksIs [ptk sTRUE] _ (.returned vz) wz from ⟨vz, rfl, h1, h2⟩)
        clear h1 h2
        go_wp2_with fail
        go_ret
        exact ToksIs.from (ToksIs.from H.out hBa) HB0.out)
  · by_cases hn : n < 0
    · have HF : Hid (valT ⟨2, n, ⟨#[]⟩⟩ = [ptk sMinus, ⟨2, [], -n⟩]) := by
        show _ = _
        unfold valT
        rw [if_neg (by simp), if_pos rfl, if_pos hn]
      go_enter Tryd.func56, Tryd.ntmps56
      go_wp2_with fail
      rw [← HWE.out]
      go_region_with (go_at_call 83; ((with_reducible refine (HY.out true _).mono ?_); rintro e wa ⟨rfl, hba⟩; have hBa : Below W0.heap.size W0 wa := into (by go_grown) hba; obtain ⟨x0, x1, x2, -, -, -⟩ := HNEW.out wa hBa))
      all_goals (
        go_wp2_with fail
        go_region_with (go_at_call 83; ((with_reducible refine (HY.out false _).mono ?_); rintro e wb ⟨rfl, hbb⟩; have hBb : Below W0.heap.size W0 wb := into (by go_grown) hbb; obtain ⟨x0, x1, x2, -, -, -⟩ := HNEW.out wb hBb))
        all_goals (
          go_wp2_with fail
          change Code.wp _ ((regionOf 10 (Tryd.f56.body.getD .skip)).getD .skip) _ _ _
          refine rval10 _ _ _ _ _ _ _ _ _ _ _ _ _ _ _ _ _ _ _ _ _ _ _ _ _ _ _ _ _ _ _ _ _ _ _ _ wb w.heap.size (Nat.lt_of_lt_of_le HSZ.out hBb.size) n hn h1 x1 (Lib.hid fun W _ => HTK.out W sMinus (by decide) [ptk sMinus] (wd_tz wMinus)) (Lib.hid ?_)
          intro e25 e26 e27 e28 e29 e30 e31 vv w1 h
          have H := Lib.hid h
          clear h
          go_wp2_with fail
          go_ret
          rw [HF.out]
          exact ToksIs.from (ToksIs.from H.out hBb) HB0.out))
    · have HF : Hid (valT ⟨2, n, ⟨#[]⟩⟩ = [⟨2, [], n⟩]) := by
        show _ = _
        unfold valT
        rw [if_neg (by simp), if_pos rfl, if_neg hn]
      go_enter Tryd.func56, Tryd.ntmps56
      go_wp2_with fail
      rw [← HWE.out]
      go_region_with (go_at_call 83; ((with_reducible refine (HY.out true _).mono ?_); rintro e wa ⟨rfl, hba⟩; have hBa : Below W0.heap.size W0 wa := into (by go_grown) hba; obtain ⟨x0, x1, x2, -, -, -⟩ := HNEW.out wa hBa))
      all_goals (
        go_wp2_with fail
        go_region_with (go_at_call 83; ((with_reducible refine (HY.out false _).mono ?_); rintro e wb ⟨rfl, hbb⟩; have hBb : Below W0.heap.size W0 wb := into (by go_grown) hbb; obtain ⟨x0, x1, x2, -, -, -⟩ := HNEW.out wb hBb))
        all_goals (
          go_wp2_with fail
          go_ret
          rw [HF.out]
          exact ToksIs.from (ToksIs.from (tok_litB _ 2 n ⟨#[]⟩ ⟨2, [], n⟩ _ rfl rfl) hBb) HB0.out))
  · go_enter Tryd.func56, Tryd.ntmps56
    go_wp2_with fail
    rw [← HWE.out]
    go_region_with (go_at_call 83; ((with_reducible refine (HY.out true _).mono ?_); rintro e wa ⟨rfl, hba⟩; have hBa : Below W0.heap.size W0 wa := into (by go_grown) hba; obtain ⟨x0, x1, x2, -, -, -⟩ := HNEW.out wa hBa))
    all_goals (
      go_wp2_with fail
      go_region_with (go_at_call 83; ((with_reducible refine (HY.out false _).mono ?_); rintro e wb ⟨rfl, hbb⟩; have hBb : Below W0.heap.size W0 wb := into (by go_grown) hbb; obtain ⟨x0, x1, x2, -, -, -⟩ := HNEW.out wb hBb))
      all_goals (
        go_wp2_with fail
        go_ret
        exact ToksIs.from (ToksIs.from (tok_litB _ 3 0 t _ _ rfl rfl) hBb) HB0.out))
end Go.Proofs.YtnheepkmaibofaaDoor.cs

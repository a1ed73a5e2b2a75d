import Derived.Test.YtdeollmeljaaoaaDoorCpk
import Derived.Test.YtdeollmeljaaoaaDoorCbk
import Derived.Deep.RegionHeld3
import Derived.Deep.RegionWith
import Derived.Deep.RegionLaw
import Derived.Test.YtdeollmeljaaoaaDoorCgk
/- Values and names shown as tokens: the program. -/
namespace Go.Proofs.YtdeollmeljaaoaaDoor.cs
open Go.ChangeShapes Go.WideShapes Go.ChangeAt Go.RowKit
set_option linter.unusedVariables false
set_option linter.unusedSimpArgs false
set_option maxHeartbeats 4000000
set_option maxRecDepth 100000
/-- A value that may be shown. -/
def VOk (v : V) : Prop := litF v.k v.n v.t = 0 ∧ -9223372036854775808 ≤ v.n ∧ v.n ≤ 9223372036854775807
theorem vok_of {v : V} (h : litF v.k v.n v.t = 0) (hw : (Lit.int .i64 v.n).wf = true) : VOk v := by
  simp only [Lit.wf, Bool.and_eq_true, decide_eq_true_eq] at hw
  simp [IntKind.min, IntKind.max, IntKind.signed, IntKind.bits] at hw
  exact ⟨h, by omega, by omega⟩
theorem VOk.kinds {v : V} (h : VOk v) : (v = ⟨0, 0, ⟨#[]⟩⟩ ∨ v = ⟨1, 0, ⟨#[]⟩⟩ ∨ v = ⟨1, 1, ⟨#[]⟩⟩) ∨ (v.k = 2 ∧ v.t = ⟨#[]⟩ ∧ -9223372036854775808 < v.n ∧ v.n ≤ 9223372036854775807) ∨ (v.k = 3 ∧ v.n = 0 ∧ v.t.size ≤ 20) := by
  obtain ⟨h1, h2, h3⟩ := h
  obtain ⟨k, n, t⟩ := v
  unfold litF at h1
  simp only at h1 h2 h3 ⊢
  split at h1
  · omega
  · rename_i hn
    have hs : k = 3 → t.size ≤ 20 := fun hk => by
      unfold chk at h1
      subst hk
      split at h1
      · omega
      · split at h1
        · omega
        · split at h1
          · omega
          · split at h1
            · omega
            · omega
    obtain ⟨g1, g2, g3, g4, g5, g6⟩ := chk0 h1
    have hk : k = 0 ∨ k = 1 ∨ k = 2 ∨ k = 3 := by omega
    rcases hk with rfl | rfl | rfl | rfl
    · rw [g3 (by omega), g4 rfl]; exact .inl (.inl rfl)
    · rw [g3 (by omega)]
      rcases g5 rfl with rfl | rfl
      · exact .inl (.inr (.inl rfl))
      · exact .inl (.inr (.inr rfl))
    · exact .inr (.inl ⟨rfl, g3 (by omega), by
        have : ¬ n = -9223372036854775808 := fun e => hn ⟨rfl, e⟩
        omega, h3⟩)
    · exact .inr (.inr ⟨rfl, g6 rfl, hs rfl⟩)
theorem rd_news {w : World} {s m c : Nat} {ad : Addr} {xs : List Value} (h : Rd w s m (.slice (some ad) m c) xs) : ∀ j u, xs[j]? = some u → w.cell? (ad.add j) = some u := by
  obtain ⟨_, ao, cap, h2, h3, h4, h5, h6⟩ := h
  simp only [Value.slice.injEq] at h2
  obtain ⟨rfl, -, rfl⟩ := h2
  exact h6 ad rfl
theorem rd_tk1 (w : World) (k n : Int) (t : ByteArray) (B : Nat) (hB : w.heap.size = B) : Rd (w.alloc (.cells #[.int .i64 k, .string t, .int .i64 n] 45)) 3 1 (.slice (some ⟨B, 0, none⟩) 1 1) [.int .i64 k, .string t, .int .i64 n] := by
  subst hB
  exact Rd.own (World.ownsRow_lit (base := w.heap.size) w #[.int .i64 k, .string t, .int .i64 n] 1 (Nat.le_refl _) (by unfold maxLen; omega) rfl)
theorem tok_lit (w : World) (k n : Int) (t : ByteArray) (x : Tk) (hx : x = ⟨k, t.data.toList, n⟩) : ToksIs [x] w (.returned (.slice (some ⟨w.heap.size, 0, none⟩) 1 1)) (w.alloc (.cells #[.int .i64 k, .string t, .int .i64 n] 45)) := by
  subst hx
  refine ⟨_, rfl, ?_, (Below.refl _ _).alloc (Nat.le_refl _) _⟩
  have h := World.ownsRow_lit (base := w.heap.size) w #[.int .i64 k, .string t, .int .i64 n] (e := 45) (size := 3) 1 (Nat.le_refl _) (by unfold maxLen; omega) rfl
  have e : tkc [⟨k, t.data.toList, n⟩] = [.int .i64 k, .string t, .int .i64 n] := by
    show [Value.int .i64 k, Value.string ⟨t.data.toList.toArray⟩, Value.int .i64 n] = _
    rw [show (⟨t.data.toList.toArray⟩ : ByteArray) = t from of_data t]
  rw [e]
  exact h
theorem tok_litB (w : World) (k n : Int) (t : ByteArray) (x : Tk) (B : Nat) (hB : w.heap.size = B) (hx : x = ⟨k, t.data.toList, n⟩) : ToksIs [x] w (.returned (.slice (some ⟨B, 0, none⟩) 1 1)) (w.alloc (.cells #[.int .i64 k, .string t, .int .i64 n] 45)) := by
  subst hB
  exact tok_lit w k n t x hx
theorem showName_any (w : World) (hT : Tbp w) (t : ByteArray) (ht : t.size ≤ 1000) : Calls Tryd.prog 63 #[.string t] w (ToksIs (shN t) w) := by
  have HP := Lib.hid (plain1 w hT.b.m t ht w.heap.size rfl)
  clear hT ht
  go_enter Tryd.func63, Tryd.ntmps63
  go_wp2_with fail
  refine HP.out.mono ?_
  rintro e w1 ⟨v1, rfl, h1, h2⟩
  have H := Lib.hid (show ToksIs (shN t) w (.returned v1) w1 from ⟨v1, rfl, h1, h2⟩)
  clear h1 h2
  go_wp2_with fail
  go_ret
  exact H.out
theorem val4 (Q : Exit → Act → World → Prop) (c0 c2 c3 c4 c5 c6 c7 c8 c9 c10 c11 c12 c13 c14 c15 c16 c17 c18 c19 c20 c21 c22 c23 c24 c25 c26 c27 c28 c29 c30 c31 c32 c33 c34 c35 c36 c37 c38 c39 c40 c41 c42 c43 c44 c45 c46 c47 c48 c49 c50 c51 c52 c53 : Value) (w0 : World) (P : Nat) (hP : P < w0.heap.size) (x : Int) (hx0 : x < 0) (hx1 : -9223372036854775808 < x)
    (p0 : w0.cell? ⟨P, 1, none⟩ = some (.int .i64 x))
    (HPA : Hid (∀ W B, Below w0.heap.size w0 W → Rd W 1 1 (.slice (some ⟨B, 0, none⟩) 1 1) ([sMinus].map Value.string) → Calls Tryd.prog 34 #[.slice (some ⟨B, 0, none⟩) 1 1] W (ToksIs [ptk sMinus] W)))
    (hout : Hid (∀ (u24 u25 u26 u27 u28 u29 u30 u31 : Value) (vout : Value) (w' : World), ToksIs [ptk sMinus, ⟨2, [], -x⟩] w0 (.returned vout) w' → Q .normal ⟨List.toArray (c0 :: (.pointer (some ⟨P, 0, none⟩)) :: vout :: c3 :: c4 :: c5 :: c6 :: c7 :: c8 :: c9 :: c10 :: c11 :: c12 :: c13 :: c14 :: c15 :: c16 :: c17 :: c18 :: c19 :: c20 :: c21 :: c22 :: c23 :: u24 :: u25 :: u26 :: u27 :: u28 :: u29 :: u30 :: u31 :: c32 :: c33 :: c34 :: c35 :: c36 :: c37 :: c38 :: c39 :: c40 :: c41 :: c42 :: c43 :: c44 :: c45 :: c46 :: c47 :: c48 :: c49 :: c50 :: c51 :: c52 :: c53 :: []), []⟩ w')) :
    Code.wp Tryd.prog ((regionOf 4 (Tryd.f38.body.getD .skip)).getD .skip) Q ⟨List.toArray (c0 :: (.pointer (some ⟨P, 0, none⟩)) :: c2 :: c3 :: c4 :: c5 :: c6 :: c7 :: c8 :: c9 :: c10 :: c11 :: c12 :: c13 :: c14 :: c15 :: c16 :: c17 :: c18 :: c19 :: c20 :: c21 :: c22 :: c23 :: c24 :: c25 :: c26 :: c27 :: c28 :: c29 :: c30 :: c31 :: c32 :: c33 :: c34 :: c35 :: c36 :: c37 :: c38 :: c39 :: c40 :: c41 :: c42 :: c43 :: c44 :: c45 :: c46 :: c47 :: c48 :: c49 :: c50 :: c51 :: c52 :: c53 :: []), []⟩ w0 := by
  refine Code.wp_mono (Q := NQ Q) nq_to ?_
  conv => arg 2; whnf
  have hB0 : Below w0.heap.size w0 w0 := Below.refl _ _
  obtain ⟨i9, hi0, hz0, hz1, hz2⟩ := info_parts Tryd.info45
  have hneg : IntKind.i64.wrap (-x) = -x := by simp [IntKind.wrap, IntKind.signed, IntKind.bits]; omega
  have hneg2 : wrap64 (-x) = -x := by unfold wrap64; omega
  go_region_held3 (fun wx => wx.cell? ⟨P, 1, none⟩ = some (.int .i64 x))
    ((repeat' (first | (with_reducible assumption) | (with_reducible refine cell_dr ?_) | (with_reducible refine cell_al _ ?_) | (with_reducible refine cell_of_below hbA ?_) | (with_reducible refine cell_of_below hb4 ?_))))
    ((first
      | (go_at_call 34; (with_reducible refine (HPA.out _ _ (by go_grown) (by ((repeat' (first | (with_reducible assumption) | (with_reducible refine rd_lit1 _ _ _ ?_) | (with_reducible refine rd_drew ?_) | (with_reducible refine rd_alloc ?_ _) | (simp; done))); (first | done | fail)))).mono ?_); rintro e wA ⟨vA, rfl, hownA, hbA⟩; obtain ⟨aA, qA, rfl⟩ := own_shape hownA; have hBA : Below w0.heap.size w0 wA := into (by go_grown) hbA; have hzA := hBA.size; have hownA2 : wA.ownsRow w0.heap.size 45 3 (.slice aA 1 qA) 1 (tkc [ptk sMinus]) := own_mono hownA (by simp; try omega))
      | (refine step_append_lies _ (by rfl) _ _ _ (by rfl) w0.heap.size 45 i9 _ 3 32 Tryd.underlying35 hi0 hz0 hz1 hz2 rfl (by omega) (.slice aA 1 qA) 1 (tkc [ptk sMinus]) (by rfl) (by first | exact hownA2 | exact own_below hownA2 (by go_grown)) _ 1 1 [.int .i64 2, .string ⟨#[]⟩, .int .i64 (-x)] (by rfl) (by rfl) (rd_news (s := 3) (m := 1) (c := 1) (by ((repeat' (first | (with_reducible assumption) | (with_reducible refine rd_tk1 _ _ _ _ _ ?_) | (with_reducible refine Rd.below ?_ hbA) | (with_reducible refine rd_drew ?_) | (with_reducible refine rd_alloc ?_ _) | (simp; done))); (first | done | fail)))) (by intro u hu; simp at hu; rcases hu with rfl | rfl | rfl <;> rfl) (by omega) (by unfold maxLen; omega) (by omega) (by first | omega | (simp; done) | (simp; omega)) _ rfl ?_; intro gg cap1 w4 hown4 hgrow hat4 hlt4; have hgg := (Below.refl w0.heap.size _).grown hgrow (by first | omega | (simp; done) | (simp; omega)) (own_ge hownA2); have hb4 : Below w0.heap.size w0 w4 := Below.trans (by go_grown) hgg)))
  all_goals exact hout.out _ _ _ _ _ _ _ _ _ _ ⟨_, rfl, hown4, hb4⟩
theorem con0 (w : World) : (Instr.index 103 (.agg coC) (.int .i64 (0 : Int))).run Tryd.prog w = .ok (.agg #[coC[0]!, coC[1]!, coC[2]!, coC[3]!]) w := by kernel_rfl
theorem con1 (w : World) : (Instr.index 103 (.agg coC) (.int .i64 (1 : Int))).run Tryd.prog w = .ok (.agg #[coC[4]!, coC[5]!, coC[6]!, coC[7]!]) w := by kernel_rfl
theorem con2 (w : World) : (Instr.index 103 (.agg coC) (.int .i64 (2 : Int))).run Tryd.prog w = .ok (.agg #[coC[8]!, coC[9]!, coC[10]!, coC[11]!]) w := by kernel_rfl
theorem showValue_any (w : World) (hT : Tbp w) (v : V) (hv : VOk v) : Calls Tryd.prog 38 #[.agg #[.int .i64 v.k, .int .i64 v.n, .string v.t]] w (ToksIs (valT v) w) := by
  have hm := hT.b.m
  obtain ⟨ct, cf, hco⟩ := hT.c
  have hkinds := hv.kinds
  obtain ⟨k, n, t⟩ := v
  simp only at hkinds ⊢
  have hb0 : Below w.heap.size w (w.alloc (.cells #[.int .i64 k, .int .i64 n, .string t] 50)) := (Below.refl _ _).alloc (Nat.le_refl _) _
  rcases hkinds with hw | ⟨rfl, rfl, h1, h2⟩ | ⟨rfl, rfl, h20⟩
  · have HCO : Hid ((w.alloc (.cells #[.int .i64 k, .int .i64 n, .string t] 50)).heap[1]? = some (.cells coC ct cf)) := by
      have hlt : 1 < w.heap.size := by
        rcases Nat.lt_or_ge 1 w.heap.size with g | g
        · exact g
        · rw [Array.getElem?_eq_none g] at hco; cases hco
      exact (hb0.block _ hlt).trans hco
    have HP : Hid (∀ s : ByteArray, s.size ≤ 1000 → ∀ W, Below w.heap.size w W → ∀ B, W.heap.size = B → Calls Tryd.prog 34 #[.slice (some ⟨B, 0, none⟩) 1 1] (W.alloc (.cells #[.string s] 9)) (ToksIs [ptk s] W)) := fun s hs W hW B hB => plain1 W (hm.below hW) s hs B hB
    have HI0 := con0
    have HI1 := con1
    have HI2 := con2
    simp only [coC] at HI0 HI1 HI2 HCO
    have z4 : (4 : Nat) ≤ 1000 := by omega
    clear hco hv hm hT
    simp only [V.mk.injEq] at hw
    rcases hw with ⟨rfl, rfl, rfl⟩ | ⟨rfl, rfl, rfl⟩ | ⟨rfl, rfl, rfl⟩
    · go_enter Tryd.func38, Tryd.ntmps38
      go_wp2_with (refine wpList_load_row rfl _ _ rfl _ rfl _ _ _ _ HCO.out Tryd.underlying103 rfl (by kernel_rfl) ?_)
      refine wp_loop_rounds 4 ?_
      rw [rounds_succ]
      go_wp2_with fail
      rw [rounds_succ]
      go_wp2_with fail
      rw [rounds_succ]
      go_wp2_with fail
      rw [rounds_succ]
      go_wp2_with fail
      refine (HP.out sNULL (by decide) _ ?_ _ ?_).mono ?_
      rotate_left 2
      · rintro e w1 ⟨v1, rfl, h1, h2⟩
        have H := Lib.hid (ToksIs.from (show ToksIs [ptk sNULL] _ (.returned v1) w1 from ⟨v1, rfl, h1, h2⟩) (show Below w.heap.size w _ by go_grown))
        clear h1 h2
        go_wp2_with fail
        go_ret
        exact H.out
      · go_grown
      · simp
    · go_enter Tryd.func38, Tryd.ntmps38
      go_wp2_with (refine wpList_load_row rfl _ _ rfl _ rfl _ _ _ _ HCO.out Tryd.underlying103 rfl (by kernel_rfl) ?_)
      refine wp_loop_rounds 4 ?_
      rw [rounds_succ]
      go_wp2_with fail
      rw [rounds_succ]
      go_wp2_with fail
      rw [rounds_succ]
      go_wp2_with fail
      rw [rounds_succ]
      go_wp2_with fail
      refine (HP.out sFALSE (by decide) _ ?_ _ ?_).mono ?_
      rotate_left 2
      · rintro e w1 ⟨v1, rfl, h1, h2⟩
        have H := Lib.hid (ToksIs.from (show ToksIs [ptk sFALSE] _ (.returned v1) w1 from ⟨v1, rfl, h1, h2⟩) (show Below w.heap.size w _ by go_grown))
        clear h1 h2
        go_wp2_with fail
        go_ret
        exact H.out
      · go_grown
      · simp
    · go_enter Tryd.func38, Tryd.ntmps38
      go_wp2_with (refine wpList_load_row rfl _ _ rfl _ rfl _ _ _ _ HCO.out Tryd.underlying103 rfl (by kernel_rfl) ?_)
      refine wp_loop_rounds 4 ?_
      rw [rounds_succ]
      go_wp2_with fail
      rw [rounds_succ]
      go_wp2_with fail
      rw [rounds_succ]
      go_wp2_with fail
      rw [rounds_succ]
      go_wp2_with fail
      refine (HP.out sTRUE (by decide) _ ?_ _ ?_).mono ?_
      rotate_left 2
      · rintro e w1 ⟨v1, rfl, h1, h2⟩
        have H := Lib.hid (ToksIs.from (show ToksIs [ptk sTRUE] _ (.returned v1) w1 from ⟨v1, rfl, h1, h2⟩) (show Below w.heap.size w _ by go_grown))
        clear h1 h2
        go_wp2_with fail
        go_ret
        exact H.out
      · go_grown
      · simp
  · have HP : Hid (∀ W B, Below (w.alloc (.cells #[.int .i64 2, .int .i64 n, .string ⟨#[]⟩] 50)).heap.size (w.alloc (.cells #[.int .i64 2, .int .i64 n, .string ⟨#[]⟩] 50)) W → Rd W 1 1 (.slice (some ⟨B, 0, none⟩) 1 1) ([sMinus].map Value.string) → Calls Tryd.prog 34 #[.slice (some ⟨B, 0, none⟩) 1 1] W (ToksIs [ptk sMinus] W)) := fun W B hW hr => plain_any W (hm.below (into hb0 hW)) 1 _ _ (by omega) (by omega) hr (by simp; decide)
    have HB0 := Lib.hid hb0
    have hp0 : (w.alloc (.cells #[.int .i64 2, .int .i64 n, .string ⟨#[]⟩] 50)).cell? ⟨w.heap.size, 1, none⟩ = some (.int .i64 n) := by simp
    have HP0 := Lib.hid hp0
    clear hco hv hm hT hb0 hp0
    by_cases hn : n < 0
    · have HF : Hid (valT ⟨2, n, ⟨#[]⟩⟩ = [ptk sMinus, ⟨2, [], -n⟩]) := by
        show _ = _
        unfold valT
        rw [if_neg (by simp), if_pos rfl, if_pos hn]
      go_enter Tryd.func38, Tryd.ntmps38
      go_wp2_with fail
      change Code.wp _ ((regionOf 4 (Tryd.f38.body.getD .skip)).getD .skip) _ _ _
      refine val4 _ _ _ _ _ _ _ _ _ _ _ _ _ _ _ _ _ _ _ _ _ _ _ _ _ _ _ _ _ _ _ _ _ _ _ _ _ _ _ _ _ _ _ _ _ _ _ _ _ _ _ _ _ _ _ w.heap.size (by simp) n hn h1 HP0.out HP (Lib.hid ?_)
      intro e24 e25 e26 e27 e28 e29 e30 e31 vv w1 h
      have H := Lib.hid h
      clear h
      go_wp2_with fail
      go_ret
      rw [HF.out]
      exact ToksIs.from H.out HB0.out
    · have HF : Hid (valT ⟨2, n, ⟨#[]⟩⟩ = [⟨2, [], n⟩]) := by
        show _ = _
        unfold valT
        rw [if_neg (by simp), if_pos rfl, if_neg hn]
      go_enter Tryd.func38, Tryd.ntmps38
      go_wp2_with fail
      go_ret
      rw [HF.out]
      exact ToksIs.from (tok_litB _ 2 n ⟨#[]⟩ ⟨2, [], n⟩ _ (by simp) rfl) HB0.out
  · have HCL := Lib.hid (clone_any (w.alloc (.cells #[.int .i64 3, .int .i64 0, .string t] 50)) t (by omega))
    have HB0 := Lib.hid hb0
    clear hco hv hm hb0 h20 hT
    go_enter Tryd.func38, Tryd.ntmps38
    go_wp2_with fail
    refine HCL.out.mono ?_
    rintro e w1 ⟨rfl, hb1⟩
    have HB1 := Lib.hid (into HB0.out hb1)
    clear hb1 HCL
    go_wp2_with fail
    go_ret
    exact ToksIs.from (tok_lit w1 3 0 t _ rfl) HB1.out
end Go.Proofs.YtdeollmeljaaoaaDoor.cs
/- Rows of tokens by their type; an op shown: the program. -/
namespace Go.Proofs.YtdeollmeljaaoaaDoor.cs
open Go.ChangeShapes Go.WideShapes Go.ChangeAt Go.RowKit
set_option linter.unusedVariables false
set_option linter.unusedSimpArgs false
set_option maxHeartbeats 4000000
set_option maxRecDepth 1000000
/-- A slice. -/
structure Sv where
  a : Option Addr
  n : Nat
  c : Nat
abbrev svv (s : Sv) : Value := .slice s.a s.n s.c
/-- The slice is the call's own (from block B on), and reads as these tokens. -/
def Rk (B : Nat) (w : World) (s : Sv) (l : List Tk) : Prop := w.ownsRow B 45 3 (svv s) l.length (tkc l)
theorem own_same {w w' : World} {B e s n : Nat} {v : Value} {xs : List Value} (h : w.ownsRow B e s v n xs) (hb : ∀ g, v.ownBlock = some g → w'.heap[g]? = w.heap[g]?) : w'.ownsRow B e s v n xs := by
  refine ⟨h.1, ?_⟩
  rcases h.2 with h0 | ⟨g, cap, cur, hv, h1, h2, h3⟩
  · exact .inl h0
  · exact .inr ⟨g, cap, cur, hv, h1, (hb g (by rw [hv]; rfl)).trans h2, h3⟩
theorem Rk.below {B : Nat} {w w' : World} {s : Sv} {l : List Tk} (h : Rk B w s l) (hb : Below w.heap.size w w') : Rk B w' s l := own_below h hb
theorem own_tyk {w : World} {B e s n g : Nat} {v : Value} {xs : List Value} (h : w.ownsRow B e s v n xs) (hg : v.ownBlock = some g) : ∃ cur sp, w.heap[g]? = some (.cells cur e sp) := by
  obtain ⟨h1, h2⟩ := h
  rcases h2 with ⟨hv, _⟩ | ⟨g', cap, cur, hv, hb, hg', hnc, hcm, _⟩
  · rw [hv] at hg; simp [Value.ownBlock] at hg
  · rw [hv] at hg
    cases hg
    exact ⟨_, _, hg'⟩
theorem Rk.grown {C : Nat} {w w' : World} {s : Sv} {l : List Tk} {B e z n : Nat} {v : Value} {xs : List Value} (h : Rk C w s l) (hown : w.ownsRow B e z v n xs) (hg : w.grownBy w' v.ownBlock) (hT : e ≠ 45) : Rk C w' s l := by
  refine own_same h fun a ha => ?_
  obtain ⟨cur, sp, h8⟩ := own_tyk h ha
  have hlt : a < w.heap.size := by
    rcases Nat.lt_or_ge a w.heap.size with g | g
    · exact g
    · rw [Array.getElem?_eq_none g] at h8; cases h8
  refine hg.block _ hlt (fun e1 => ?_)
  obtain ⟨c2, s2, h9⟩ := own_tyk hown e1.symm
  rw [h8] at h9
  simp only [Option.some.injEq, Obj.cells.injEq] at h9
  exact hT h9.2.1.symm
theorem Rk.rd {B : Nat} {w : World} {s : Sv} {l : List Tk} (h : Rk B w s l) : Rd w 3 l.length (svv s) (tkc l) := Rd.own h
theorem Rk.len {B : Nat} {w : World} {s : Sv} {l : List Tk} (h : Rk B w s l) : s.n = l.length := by
  obtain ⟨_, ao, cap, hv, _⟩ := Rd.own h
  simp only [svv, Value.slice.injEq] at hv
  exact hv.2.1
/-- What is owned as tokens. -/
theorem Rk.own {B C n c : Nat} {a : Option Addr} {w : World} {l : List Tk} (h : w.ownsRow B 45 3 (.slice a n c) n (tkc l)) (hC : C ≤ B) : Rk C w ⟨a, n, c⟩ l := by
  have hl : n = l.length := by have := h.1; rw [tkc_length] at this; omega
  subst hl
  exact own_mono h hC
def RKs (B : Nat) (w : World) : List Sv → List (List Tk) → Prop
  | [], [] => True
  | x :: xs, p :: ps => Rk B w x p ∧ RKs B w xs ps
  | _, _ => False
theorem RKs.mono {B : Nat} {w w' : World} (f : ∀ s l, Rk B w s l → Rk B w' s l) : ∀ {xs : List Sv} {ps : List (List Tk)}, RKs B w xs ps → RKs B w' xs ps
  | [], [], _ => trivial
  | x :: xs, p :: ps, h => ⟨f _ _ h.1, RKs.mono f h.2⟩
  | [], _ :: _, h => h
  | _ :: _, [], h => h
/-- Words and marks, whatever the world, at the slice that holds them. -/
theorem plainH (w0 : World) (hM : Mk w0) (ts : List ByteArray) (n : Nat) (hn0 : 0 < n) (hn : n ≤ 1000) (hs : ∀ t ∈ ts, t.size ≤ 1000) (L : List Tk) (hL : L = ts.map ptk) :
    Hid (∀ W B, Below w0.heap.size w0 W → Rd W 1 n (.slice (some ⟨B, 0, none⟩) n n) (ts.map Value.string) → Calls Tryd.prog 34 #[.slice (some ⟨B, 0, none⟩) n n] W (ToksIs L W)) := fun W B hW hv => by
  have hl : n = ts.length := by have := hv.1; simp at this; omega
  subst hL
  refine (plain_any W (hM.below hW) n _ ts hn0 hn hv hs).mono ?_
  rintro e w' ⟨v', h1, h2, h3⟩
  exact ⟨v', h1, by rw [List.length_map, ← hl]; exact h2, h3⟩
/-- An op that may be shown. -/
def OOk (o : Oq) : Prop := opF o.k o.v.k o.v.n o.v.t o.t = 0 ∧ -9223372036854775808 ≤ o.v.n ∧ o.v.n ≤ 9223372036854775807
theorem OOk.lit {o : Oq} (h : OOk o) (hk : o.k = 1) : VOk o.v := by
  refine ⟨?_, h.2⟩
  have := h.1
  unfold opF at this
  split at this
  · omega
  · split at this
    · omega
    · rename_i hh
      simpa using hh
theorem OOk.name {o : Oq} (h : OOk o) (hk : o.k = 2) : nmF o.t.data.toList = 0 := by
  have := h.1
  unfold opF at this
  repeat' (split at this)
  all_goals first | omega | assumption
abbrev oqV (o : Oq) : Value := .agg #[.int .i64 o.k, .int .i64 o.v.k, .int .i64 o.v.n, .string o.v.t, .string o.t]
theorem showOp_leaf (w : World) (hT : Tbp w) (o : Oq) (ho : OOk o) (hw : wks o.k = 0) (on : Value) : Calls Tryd.prog 64 #[oqV o, on] w (ToksIs (lfT o) w) := by
  have hk : o.k = 1 ∨ o.k = 2 := by
    unfold wks at hw
    split at hw
    · assumption
    · split at hw <;> omega
  have hlit := ho.lit
  have hnam := ho.name
  obtain ⟨k, ⟨vk, vn, vt⟩, t⟩ := o
  simp only at hk hlit hnam ⊢
  have hb0 : Below w.heap.size w (w.alloc (.cells #[.int .i64 k, .int .i64 vk, .int .i64 vn, .string vt, .string t] 54)) := (Below.refl _ _).alloc (Nat.le_refl _) _
  have HB0 := Lib.hid hb0
  rcases hk with rfl | rfl
  · have HV := Lib.hid (showValue_any _ (hT.below hb0) _ (hlit rfl))
    clear hT ho hw hlit hnam hb0
    go_enter Tryd.func64, Tryd.ntmps64
    go_wp2_with fail
    refine HV.out.mono ?_
    rintro e w1 ⟨v1, rfl, h1, h2⟩
    have H := Lib.hid (show ToksIs _ _ (.returned v1) w1 from ⟨v1, rfl, h1, h2⟩)
    clear h1 h2
    go_wp2_with fail
    go_ret
    exact ToksIs.from H.out HB0.out
  · have hn := nm_size (hnam rfl)
    have HP := Lib.hid (plain1 _ (hT.below hb0).b.m t (by omega) (w.heap.size + 1) (by simp))
    clear hT ho hw hlit hnam hb0 hn
    go_enter Tryd.func64, Tryd.ntmps64
    go_wp2_with fail
    refine HP.out.mono ?_
    rintro e w1 ⟨v1, rfl, h1, h2⟩
    have H := Lib.hid (show ToksIs _ _ (.returned v1) w1 from ⟨v1, rfl, h1, h2⟩)
    clear h1 h2
    go_wp2_with fail
    go_ret
    exact ToksIs.from H.out HB0.out
theorem wk_2 {k : Int} (h : wks k = 2) : k ≠ 1 ∧ k ≠ 2 ∧ k ≠ 5 ∧ k ≠ 11 := by
  unfold wks at h
  split at h
  · omega
  · split at h
    · omega
    · omega
theorem showOp_un (w : World) (hT : Tbp w) (o : Oq) (ho : OOk o) (hw : wks o.k = 1) (b p cap : Nat) (s : Sv) (A : List Tk) (hc : w.cell? ⟨b, p, none⟩ = some (svv s)) (C0 : Nat) (hr : Rk C0 w s A) (hA : A.length ≤ 1000) :
    Calls Tryd.prog 64 #[oqV o, .slice (some ⟨b, p, none⟩) 1 cap] w (ToksIs (onT o.k A) w) := by
  have hk : o.k = 5 ∨ o.k = 11 := by
    unfold wks at hw
    split at hw
    · omega
    · split at hw
      · assumption
      · omega
  obtain ⟨k, ⟨vk, vn, vt⟩, t⟩ := o
  obtain ⟨a0, n0, d0⟩ := s
  simp only at hk ⊢
  have hb0 : Below w.heap.size w (w.alloc (.cells #[.int .i64 k, .int .i64 vk, .int .i64 vn, .string vt, .string t] 54)) := (Below.refl _ _).alloc (Nat.le_refl _) _
  have HB0 := Lib.hid hb0
  have hn0 : n0 = A.length := hr.len
  have HC := Lib.hid (cell_blz hb0 hc)
  have HR : Hid (Rd (w.alloc (.cells #[.int .i64 k, .int .i64 vk, .int .i64 vn, .string vt, .string t] 54)) 3 n0 (.slice a0 n0 d0) (tkc A)) := by
    have := hr.rd.below hb0
    rw [← hn0] at this
    exact this
  clear hr hw hn0
  rcases hk with rfl | rfl
  · have HA := plainH _ (hT.below hb0).b.m [sOpen, sNOT] 2 (by omega) (by omega) (by simp; decide) [ptk sOpen, ptk sNOT] rfl
    have HB := plainH _ (hT.below hb0).b.m [sClose] 1 (by omega) (by omega) (by simp; decide) [ptk sClose] rfl
    have HLN : Hid ([ptk sOpen, ptk sNOT].length + (A.length + ([ptk sClose].length)) ≤ 1000000) := by
      show _ ≤ _
      simp only [List.length_cons, List.length_nil]
      omega
    clear hT ho hb0 hc
    go_enter Tryd.func64, Tryd.ntmps64
    go_wp2_with fail
    change Code.wp _ ((regionOf 7 (Tryd.f64.body.getD .skip)).getD .skip) _ _ _
    refine op7 _ _ _ _ _ _ _ _ _ _ _ _ _ _ _ _ _ _ _ _ _ _ _ _ _ _ _ _ _ _ _ _ _ _ _ _ _ _ _ _ _ _ _ _ _ _ _ _ _ _ _ _ _ _ _ _ _ _ w.heap.size (by simp) b p cap a0 n0 d0 A HC.out HR.out HA HB HLN (Lib.hid ?_)
    intro e20 e21 e22 e23 e24 e25 e26 e27 e28 vv w1 h
    have H := Lib.hid h
    clear h
    go_wp2_with fail
    go_ret
    exact ToksIs.from H.out HB0.out
  · have HA := plainH _ (hT.below hb0).b.m [sOpen] 1 (by omega) (by omega) (by simp; decide) [ptk sOpen] rfl
    have HB := plainH _ (hT.below hb0).b.m [sIS, sNULL, sClose] 3 (by omega) (by omega) (by simp; decide) [ptk sIS, ptk sNULL, ptk sClose] rfl
    have HLN : Hid ([ptk sOpen].length + (A.length + ([ptk sIS, ptk sNULL, ptk sClose].length)) ≤ 1000000) := by
      show _ ≤ _
      simp only [List.length_cons, List.length_nil]
      omega
    clear hT ho hb0 hc
    go_enter Tryd.func64, Tryd.ntmps64
    go_wp2_with fail
    change Code.wp _ ((regionOf 9 (Tryd.f64.body.getD .skip)).getD .skip) _ _ _
    refine op9 _ _ _ _ _ _ _ _ _ _ _ _ _ _ _ _ _ _ _ _ _ _ _ _ _ _ _ _ _ _ _ _ _ _ _ _ _ _ _ _ _ _ _ _ _ _ _ _ _ _ _ _ _ _ _ _ _ _ w.heap.size (by simp) b p cap a0 n0 d0 A HC.out HR.out HA HB HLN (Lib.hid ?_)
    intro e31 e32 e33 e34 e35 e36 e37 e38 e39 vv w1 h
    have H := Lib.hid h
    clear h
    go_wp2_with fail
    go_ret
    exact ToksIs.from H.out HB0.out
theorem showOp_bi (w : World) (hT : Tbp w) (o : Oq) (ho : OOk o) (hw : wks o.k = 2) (b p cap : Nat) (s r : Sv) (A C : List Tk) (hc : w.cell? ⟨b, p, none⟩ = some (svv s)) (hc1 : w.cell? ⟨b, p + 1, none⟩ = some (svv r)) (C0 : Nat) (hr : Rk C0 w s A) (hr1 : Rk C0 w r C) (hA : A.length ≤ 1000) (hC : C.length ≤ 1000) :
    Calls Tryd.prog 64 #[oqV o, .slice (some ⟨b, p, none⟩) 2 cap] w (ToksIs (twT o.k A C) w) := by
  obtain ⟨g1, g11⟩ := opF_kind ho.1
  obtain ⟨q1, q2, q5, q11⟩ := wk_2 hw
  obtain ⟨k, ⟨vk, vn, vt⟩, t⟩ := o
  obtain ⟨a0, n0, d0⟩ := s
  obtain ⟨a1, n1, d1⟩ := r
  simp only at g1 g11 q1 q2 q5 q11 ⊢
  obtain ⟨kn, rfl⟩ : ∃ kn : Nat, k = (kn : Int) := ⟨k.toNat, by omega⟩
  have hb0 : Below w.heap.size w (w.alloc (.cells #[.int .i64 (kn : Int), .int .i64 vk, .int .i64 vn, .string vt, .string t] 54)) := (Below.refl _ _).alloc (Nat.le_refl _) _
  have HB0 := Lib.hid hb0
  have hn0 : n0 = A.length := hr.len
  have hn1 : n1 = C.length := hr1.len
  have HC := Lib.hid (cell_blz hb0 hc)
  have HC1 := Lib.hid (cell_blz hb0 hc1)
  have HR : Hid (Rd (w.alloc (.cells #[.int .i64 (kn : Int), .int .i64 vk, .int .i64 vn, .string vt, .string t] 54)) 3 n0 (.slice a0 n0 d0) (tkc A)) := by
    have := hr.rd.below hb0
    rw [← hn0] at this
    exact this
  have HR1 : Hid (Rd (w.alloc (.cells #[.int .i64 (kn : Int), .int .i64 vk, .int .i64 vn, .string vt, .string t] 54)) 3 n1 (.slice a1 n1 d1) (tkc C)) := by
    have := hr1.rd.below hb0
    rw [← hn1] at this
    exact this
  have hsgs := sg_size kn (by omega)
  have hsz : (sgT (kn : Int)).size ≤ 1000 := by
    show (sgL.getD (Int.toNat (kn : Int)) []).toArray.size ≤ 1000
    rw [List.size_toArray]
    simp only [Int.toNat_natCast]
    omega
  have hsg := sg_at (hT.below hb0).s (k := kn) (by omega)
  have HSG : Hid ((w.alloc (.cells #[.int .i64 (kn : Int), .int .i64 vk, .int .i64 vn, .string vt, .string t] 54)).cell? ⟨4, kn, none⟩ = some (.string (sgT (kn : Int)))) := hsg
  have HA := plainH _ (hT.below hb0).b.m [sOpen] 1 (by omega) (by omega) (by simp; decide) [ptk sOpen] rfl
  have HB := plainH _ (hT.below hb0).b.m [sClose] 1 (by omega) (by omega) (by simp; decide) [ptk sClose] rfl
  have HS := plainH _ (hT.below hb0).b.m [sgT (kn : Int)] 1 (by omega) (by omega) (by simpa using hsz) [ptk (sgT (kn : Int))] rfl
  have HF : Hid (twT (kn : Int) A C = [ptk sOpen] ++ (A ++ ([ptk (sgT (kn : Int))] ++ (C ++ [ptk sClose])))) := rfl
  obtain ⟨sg, hsgq⟩ : ∃ sg, sg = sgT (kn : Int) := ⟨_, rfl⟩
  rw [← hsgq] at HSG HS HF
  have HLN : Hid ([ptk sOpen].length + (A.length + ([ptk sg].length + (C.length + ([ptk sClose].length)))) ≤ 1000000) := by
    show _ ≤ _
    simp only [List.length_cons, List.length_nil]
    omega
  have e1 : ((kn : Int) == 1) = false := by simpa using q1
  have e2 : ((kn : Int) == 2) = false := by simpa using q2
  have e5 : ((kn : Int) == 5) = false := by simpa using q5
  have e11 : ((kn : Int) == 11) = false := by simpa using q11
  have hkl : (kn : Int) < 11 := by omega
  clear hT ho hb0 hc hc1 hr hr1 hw hn0 hn1 hsgs hsz hsg hsgq q1 q2 q5 q11 g1 g11
  go_enter Tryd.func64, Tryd.ntmps64
  go_wp2_with fail
  change Code.wp _ ((regionOf 10 (Tryd.f64.body.getD .skip)).getD .skip) _ _ _
  refine op10 _ _ _ _ _ _ _ _ _ _ _ _ _ _ _ _ _ _ _ _ _ _ _ _ _ _ _ _ _ _ _ _ _ _ _ _ _ _ _ _ _ _ _ _ _ _ _ _ _ _ _ _ _ _ _ _ _ _ w.heap.size (by simp) b p cap a0 n0 d0 A a1 n1 d1 C kn sg hkl HC.out HC1.out (by simp) HSG.out HR.out HR1.out HA HB HS HLN (Lib.hid ?_)
  intro e40 e41 e42 e43 e44 e45 e46 e47 e48 e49 e50 e51 e52 e53 e54 e55 e56 e57 vv w1 h
  have H := Lib.hid h
  clear h
  go_wp2_with fail
  go_ret
  rw [HF.out]
  exact ToksIs.from H.out HB0.out
end Go.Proofs.YtdeollmeljaaoaaDoor.cs

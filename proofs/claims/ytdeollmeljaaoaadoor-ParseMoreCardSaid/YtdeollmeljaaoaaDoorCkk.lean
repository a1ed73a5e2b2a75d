import Derived.Test.YtdeollmeljaaoaaDoorQzk
import Derived.Test.YtdeollmeljaaoaaDoorCbk
import Derived.Deep.RegionHeld3
import Derived.Deep.RegionWith
import Derived.Deep.RegionLaw
set_option linter.unusedVariables false
set_option linter.unusedSimpArgs false
set_option maxHeartbeats 8000000
set_option maxRecDepth 1000000
open Go.ChangeAt Go.ChangeShapes Go.RowKit Go.WideShapes
open Go.Lib (hid)
namespace Go.Proofs.YtdeollmeljaaoaaDoor.cs
def VOk (v : V) : Prop := litF v.k v.n v.t = 0 ∧ -9223372036854775808 ≤ v.n ∧ v.n ≤ 9223372036854775807
theorem vok_of {v : V} (h : litF v.k v.n v.t = 0) (hw : (Lit.int .i64 v.n).wf = true) : VOk v := by
 simp only [Lit.wf, Bool.and_eq_true, decide_eq_true_eq] at hw
 simp [IntKind.min, IntKind.max, IntKind.signed, IntKind.bits] at hw
 exact ⟨h, by omega, by omega⟩
theorem VOk.kinds {v : V} (h : VOk v) : (v = ⟨0, 0, ⟨#[]⟩⟩ ∨ v = ⟨1, 0, ⟨#[]⟩⟩ ∨ v = ⟨1, 1, ⟨#[]⟩⟩) ∨ (v.k = 2 ∧ v.t = ⟨#[]⟩ ∧ -9223372036854775808 < v.n ∧ v.n ≤ 9223372036854775807) ∨ (v.k = 3 ∧ v.n = 0 ∧ v.t.size ≤ 20) := by
 obtain ⟨h1, h2, h3⟩ := h
 obtain ⟨k, n, t⟩ := v
 unfold litF at h1
 simp only at h1 h2 h3 ⊢
 split at h1
 ·omega
 ·rename_i hn
  have hs : k = 3 → t.size ≤ 20 := fun hk => by
   unfold chk at h1
   subst hk
   split at h1
   ·omega
   ·split at h1
    ·omega
    ·split at h1
     ·omega
     ·split at h1
      ·omega
      ·omega
  obtain ⟨g1, g2, g3, g4, g5, g6⟩ := chk0 h1
  have hk : k = 0 ∨ k = 1 ∨ k = 2 ∨ k = 3 := by omega
  rcases hk with rfl | rfl | rfl | rfl
  ·rw [g3 (by omega), g4 rfl]; exact .inl (.inl rfl)
  ·rw [g3 (by omega)]
   rcases g5 rfl with rfl | rfl
   ·exact .inl (.inr (.inl rfl))
   ·exact .inl (.inr (.inr rfl))
  ·exact .inr (.inl ⟨rfl, g3 (by omega), by
    have : ¬ n = -9223372036854775808 := fun e => hn ⟨rfl, e⟩
    omega, h3⟩)
  ·exact .inr (.inr ⟨rfl, g6 rfl, hs rfl⟩)
theorem rd_news {w : World} {s m c : Nat} {ad : Addr} {xs : List Value} (h : Rd w s m (.slice (some ad) m c) xs) : ∀ j u, xs[j]? = some u → w.cell? (ad.add j) = some u := by
 obtain ⟨_, ao, cap, h2, h3, h4, h5, h6⟩ := h
 simp only [Value.slice.injEq] at h2
 obtain ⟨rfl, -, rfl⟩ := h2
 exact h6 ad rfl
theorem rd_tk1 (w : World) (k n : Int) (t : ByteArray) (B : Nat) (hB : w.heap.size = B) : Rd (w.alloc (.cells #[.int .i64 k, .string t, .int .i64 n] 45)) 3 1 (.slice (some ⟨B, 0, none⟩) 1 1) [.int .i64 k, .string t, .int .i64 n] := by
 subst hB
 exact Rd.own (World.ownsRow_lit (base := w.heap.size) w #[.int .i64 k, .string t, .int .i64 n] 1 (Nat.le_refl _) (by unfold maxLen; omega) rfl)
theorem tok_lit (w : World) (k n : Int) (t : ByteArray) (x : Tk) (hx : x = ⟨k, t.data.toList, n⟩) : ToksIs [x] w (.returned (.slice (some ⟨w.heap.size, 0, none⟩) 1 1)) (w.alloc (.cells #[.int .i64 k, .string t, .int .i64 n] 45)) := by
 subst hx
 refine ⟨_, rfl, ?_, (Below.refl _ _).alloc (Nat.le_refl _) _⟩
 have h := World.ownsRow_lit (base := w.heap.size) w #[.int .i64 k, .string t, .int .i64 n] (e := 45) (size := 3) 1 (Nat.le_refl _) (by unfold maxLen; omega) rfl
 have e : tkc [⟨k, t.data.toList, n⟩] = [.int .i64 k, .string t, .int .i64 n] := by
  show [Value.int .i64 k, Value.string ⟨t.data.toList.toArray⟩, Value.int .i64 n] = _
  rw [show (⟨t.data.toList.toArray⟩ : ByteArray) = t from of_data t]
 rw [e]
 exact h
theorem tok_litB (w : World) (k n : Int) (t : ByteArray) (x : Tk) (B : Nat) (hB : w.heap.size = B) (hx : x = ⟨k, t.data.toList, n⟩) : ToksIs [x] w (.returned (.slice (some ⟨B, 0, none⟩) 1 1)) (w.alloc (.cells #[.int .i64 k, .string t, .int .i64 n] 45)) := by
 subst hB
 exact tok_lit w k n t x hx
theorem showName_any (w : World) (hT : Tbp w) (t : ByteArray) (ht : t.size ≤ 1000) : Calls Tryd.prog 63 #[.string t] w (ToksIs (shN t) w) := by
 have HP := hid (plain1 w hT.b.m t ht w.heap.size rfl)
 clear hT ht
 go_enter Tryd.func63, Tryd.ntmps63
 go_wp2_with fail
 refine HP.out.mono ?_
 rintro e w1 ⟨v1, rfl, h1, h2⟩
 have H := hid (show ToksIs (shN t) w (.returned v1) w1 from ⟨v1, rfl, h1, h2⟩)
 clear h1 h2
 go_wp2_with fail
 go_ret
 exact H.out
theorem val4 (Q : Exit → Act → World → Prop) {c0 c2 c3 c4 c5 c6 c7 c8 c9 c10 c11 c12 c13 c14 c15 c16 c17 c18 c19 c20 c21 c22 c23 c24 c25 c26 c27 c28 c29 c30 c31 c32 c33 c34 c35 c36 c37 c38 c39 c40 c41 c42 c43 c44 c45 c46 c47 c48 c49 c50 c51 c52 c53 : Value} (w0 : World) (P : Nat) (hP : P < w0.heap.size) (x : Int) (hx0 : x < 0) (hx1 : -9223372036854775808 < x)
  (p0 : w0.cell? ⟨P, 1, none⟩ = some (.int .i64 x))
  (HPA : Hid (∀ W B, Below w0.heap.size w0 W → Rd W 1 1 (.slice (some ⟨B, 0, none⟩) 1 1) ([sMinus].map Value.string) → Calls Tryd.prog 34 #[.slice (some ⟨B, 0, none⟩) 1 1] W (ToksIs [ptk sMinus] W)))
  (hout : Hid (∀ (u24 u25 u26 u27 u28 u29 u30 u31 : Value) (vout : Value) (w' : World), ToksIs [ptk sMinus, ⟨2, [], -x⟩] w0 (.returned vout) w' → Q .normal ⟨List.toArray (c0 :: (.pointer (some ⟨P, 0, none⟩)) :: vout :: c3 :: c4 :: c5 :: c6 :: c7 :: c8 :: c9 :: c10 :: c11 :: c12 :: c13 :: c14 :: c15 :: c16 :: c17 :: c18 :: c19 :: c20 :: c21 :: c22 :: c23 :: u24 :: u25 :: u26 :: u27 :: u28 :: u29 :: u30 :: u31 :: c32 :: c33 :: c34 :: c35 :: c36 :: c37 :: c38 :: c39 :: c40 :: c41 :: c42 :: c43 :: c44 :: c45 :: c46 :: c47 :: c48 :: c49 :: c50 :: c51 :: c52 :: c53 :: []), []⟩ w')) :
  Code.wp Tryd.prog ((regionOf 4 (Tryd.f38.body.getD .skip)).getD .skip) Q ⟨List.toArray (c0 :: (.pointer (some ⟨P, 0, none⟩)) :: c2 :: c3 :: c4 :: c5 :: c6 :: c7 :: c8 :: c9 :: c10 :: c11 :: c12 :: c13 :: c14 :: c15 :: c16 :: c17 :: c18 :: c19 :: c20 :: c21 :: c22 :: c23 :: c24 :: c25 :: c26 :: c27 :: c28 :: c29 :: c30 :: c31 :: c32 :: c33 :: c34 :: c35 :: c36 :: c37 :: c38 :: c39 :: c40 :: c41 :: c42 :: c43 :: c44 :: c45 :: c46 :: c47 :: c48 :: c49 :: c50 :: c51 :: c52 :: c53 :: []), []⟩ w0 := by
 refine Code.wp_mono (Q := NQ Q) nq_to ?_
 conv => arg 2; whnf
 have hB0 : Below w0.heap.size w0 w0 := Below.refl _ _
 obtain ⟨i9, hi0, hz0, hz1, hz2⟩ := info_parts Tryd.info45
 have hneg : IntKind.i64.wrap (-x) = -x := by simp [IntKind.wrap, IntKind.signed, IntKind.bits]; omega
 have hneg2 : wrap64 (-x) = -x := by unfold wrap64; omega
 go_region_held3 (fun wx => wx.cell? ⟨P, 1, none⟩ = some (.int .i64 x))
  ((repeat' (first | (with_reducible assumption) | (with_reducible refine cell_dr ?_) | (with_reducible refine cell_al _ ?_) | (with_reducible refine cell_of_below hbA ?_) | (with_reducible refine cell_of_below hb4 ?_))))
  ((first
   | (go_at_call 34; (with_reducible refine (HPA.out _ _ (by go_grown) (by ((repeat' (first | (with_reducible assumption) | (with_reducible refine rd_lit1 _ _ _ ?_) | (with_reducible refine rd_drew ?_) | (with_reducible refine rd_alloc ?_ _) | (simp; done))); (first | done | fail)))).mono ?_); rintro e wA ⟨vA, rfl, hownA, hbA⟩; obtain ⟨aA, qA, rfl⟩ := own_shape hownA; have hBA : Below w0.heap.size w0 wA := into (by go_grown) hbA; have hzA := hBA.size; have hownA2 : wA.ownsRow w0.heap.size 45 3 (.slice aA 1 qA) 1 (tkc [ptk sMinus]) := own_mono hownA (by simp; try omega))
   | (refine step_append_lies _ (by rfl) _ _ _ (by rfl) w0.heap.size 45 i9 _ 3 32 Tryd.underlying35 hi0 hz0 hz1 hz2 rfl (by omega) (.slice aA 1 qA) 1 (tkc [ptk sMinus]) (by rfl) (by first | exact hownA2 | exact own_below hownA2 (by go_grown)) _ 1 1 [.int .i64 2, .string ⟨#[]⟩, .int .i64 (-x)] (by rfl) (by rfl) (rd_news (s := 3) (m := 1) (c := 1) (by ((repeat' (first | (with_reducible assumption) | (with_reducible refine rd_tk1 _ _ _ _ _ ?_) | (with_reducible refine Rd.below ?_ hbA) | (with_reducible refine rd_drew ?_) | (with_reducible refine rd_alloc ?_ _) | (simp; done))); (first | done | fail)))) (by intro u hu; simp at hu; rcases hu with rfl | rfl | rfl <;> rfl) (by omega) (by unfold maxLen; omega) (by omega) (by first | omega | (simp; done) | (simp; omega)) _ rfl ?_; intro gg cap1 w4 hown4 hgrow hat4 hlt4; have hgg := (Below.refl w0.heap.size _).grown hgrow (by first | omega | (simp; done) | (simp; omega)) (own_ge hownA2); have hb4 : Below w0.heap.size w0 w4 := Below.trans (by go_grown) hgg)))
 all_goals exact hout.out _ _ _ _ _ _ _ _ _ _ ⟨_, rfl, hown4, hb4⟩
theorem con0 (w : World) : (Instr.index 103 (.agg coC) (.int .i64 (0 : Int))).run Tryd.prog w = .ok (.agg #[coC[0]!, coC[1]!, coC[2]!, coC[3]!]) w := by kernel_rfl
theorem con1 (w : World) : (Instr.index 103 (.agg coC) (.int .i64 (1 : Int))).run Tryd.prog w = .ok (.agg #[coC[4]!, coC[5]!, coC[6]!, coC[7]!]) w := by kernel_rfl
theorem con2 (w : World) : (Instr.index 103 (.agg coC) (.int .i64 (2 : Int))).run Tryd.prog w = .ok (.agg #[coC[8]!, coC[9]!, coC[10]!, coC[11]!]) w := by kernel_rfl
theorem showValue_any (w : World) (hT : Tbp w) (v : V) (hv : VOk v) : Calls Tryd.prog 38 #[.agg #[.int .i64 v.k, .int .i64 v.n, .string v.t]] w (ToksIs (valT v) w) := by
 have hm := hT.b.m
 obtain ⟨ct, cf, hco⟩ := hT.c
 have hkinds := hv.kinds
 obtain ⟨k, n, t⟩ := v
 simp only at hkinds ⊢
 have hb0 : Below w.heap.size w (w.alloc (.cells #[.int .i64 k, .int .i64 n, .string t] 50)) := (Below.refl _ _).alloc (Nat.le_refl _) _
 rcases hkinds with hw | ⟨rfl, rfl, h1, h2⟩ | ⟨rfl, rfl, h20⟩
 ·have HCO : Hid ((w.alloc (.cells #[.int .i64 k, .int .i64 n, .string t] 50)).heap[1]? = some (.cells coC ct cf)) := by
   have hlt : 1 < w.heap.size := by
    rcases Nat.lt_or_ge 1 w.heap.size with g | g
    ·exact g
    ·rw [Array.getElem?_eq_none g] at hco; cases hco
   exact (hb0.block _ hlt).trans hco
  have HP : Hid (∀ s : ByteArray, s.size ≤ 1000 → ∀ W, Below w.heap.size w W → ∀ B, W.heap.size = B → Calls Tryd.prog 34 #[.slice (some ⟨B, 0, none⟩) 1 1] (W.alloc (.cells #[.string s] 9)) (ToksIs [ptk s] W)) := fun s hs W hW B hB => plain1 W (hm.below hW) s hs B hB
  have HI0 := con0
  have HI1 := con1
  have HI2 := con2
  simp only [coC] at HI0 HI1 HI2 HCO
  have z4 : (4 : Nat) ≤ 1000 := by omega
  clear hco hv hm hT
  simp only [V.mk.injEq] at hw
  rcases hw with ⟨rfl, rfl, rfl⟩ | ⟨rfl, rfl, rfl⟩ | ⟨rfl, rfl, rfl⟩
  ·go_enter Tryd.func38, Tryd.ntmps38
   go_wp2_with (refine wpList_load_row rfl _ _ rfl _ rfl _ _ _ _ HCO.out Tryd.underlying103 rfl (by kernel_rfl) ?_)
   refine wp_loop_rounds 4 ?_
   rw [rounds_succ]
   go_wp2_with fail
   rw [rounds_succ]
   go_wp2_with fail
   rw [rounds_succ]
   go_wp2_with fail
   rw [rounds_succ]
   go_wp2_with fail
   refine (HP.out sNULL (by decide) _ ?_ _ ?_).mono ?_
   rotate_left 2
   ·rintro e w1 ⟨v1, rfl, h1, h2⟩
    have H := hid (ToksIs.from (show ToksIs [ptk sNULL] _ (.returned v1) w1 from ⟨v1, rfl, h1, h2⟩) (show Below w.heap.size w _ by go_grown))
    clear h1 h2
    go_wp2_with fail
    go_ret
    exact H.out
   ·go_grown
   ·simp
  ·go_enter Tryd.func38, Tryd.ntmps38
   go_wp2_with (refine wpList_load_row rfl _ _ rfl _ rfl _ _ _ _ HCO.out Tryd.underlying103 rfl (by kernel_rfl) ?_)
   refine wp_loop_rounds 4 ?_
   rw [rounds_succ]
   go_wp2_with fail
   rw [rounds_succ]
   go_wp2_with fail
   rw [rounds_succ]
   go_wp2_with fail
   rw [rounds_succ]
   go_wp2_with fail
   refine (HP.out sFALSE (by decide) _ ?_ _ ?_).mono ?_
   rotate_left 2
   ·rintro e w1 ⟨v1, rfl, h1, h2⟩
    have H := hid (ToksIs.from (show ToksIs [ptk sFALSE] _ (.returned v1) w1 from ⟨v1, rfl, h1, h2⟩) (show Below w.heap.size w _ by go_grown))
    clear h1 h2
    go_wp2_with fail
    go_ret
    exact H.out
   ·go_grown
   ·simp
  ·go_enter Tryd.func38, Tryd.ntmps38
   go_wp2_with (refine wpList_load_row rfl _ _ rfl _ rfl _ _ _ _ HCO.out Tryd.underlying103 rfl (by kernel_rfl) ?_)
   refine wp_loop_rounds 4 ?_
   rw [rounds_succ]
   go_wp2_with fail
   rw [rounds_succ]
   go_wp2_with fail
   rw [rounds_succ]
   go_wp2_with fail
   rw [rounds_succ]
   go_wp2_with fail
   refine (HP.out sTRUE (by decide) _ ?_ _ ?_).mono ?_
   rotate_left 2
   ·rintro e w1 ⟨v1, rfl, h1, h2⟩
    have H := hid (ToksIs.from (show ToksIs [ptk sTRUE] _ (.returned v1) w1 from ⟨v1, rfl, h1, h2⟩) (show Below w.heap.size w _ by go_grown))
    clear h1 h2
    go_wp2_with fail
    go_ret
    exact H.out
   ·go_grown
   ·simp
 ·have HP : Hid (∀ W B, Below (w.alloc (.cells #[.int .i64 2, .int .i64 n, .string ⟨#[]⟩] 50)).heap.size (w.alloc (.cells #[.int .i64 2, .int .i64 n, .string ⟨#[]⟩] 50)) W → Rd W 1 1 (.slice (some ⟨B, 0, none⟩) 1 1) ([sMinus].map Value.string) → Calls Tryd.prog 34 #[.slice (some ⟨B, 0, none⟩) 1 1] W (ToksIs [ptk sMinus] W)) := fun W B hW hr => plain_any W (hm.below (into hb0 hW)) 1 _ _ (by omega) (by omega) hr (by simp; decide)
  have HB0 := hid hb0
  have hp0 : (w.alloc (.cells #[.int .i64 2, .int .i64 n, .string ⟨#[]⟩] 50)).cell? ⟨w.heap.size, 1, none⟩ = some (.int .i64 n) := by simp
  have HP0 := hid hp0
  clear hco hv hm hT hb0 hp0
  by_cases hn : n < 0
  ·have HF : Hid (valT ⟨2, n, ⟨#[]⟩⟩ = [ptk sMinus, ⟨2, [], -n⟩]) := by
    show _ = _
    unfold valT
    rw [if_neg (by simp), if_pos rfl, if_pos hn]
   go_enter Tryd.func38, Tryd.ntmps38
   go_wp2_with fail
   change Code.wp _ ((regionOf 4 (Tryd.f38.body.getD .skip)).getD .skip) _ _ _
   refine val4 _ _ w.heap.size (by simp) n hn h1 HP0.out HP (hid ?_)
   intro e24 e25 e26 e27 e28 e29 e30 e31 vv w1 h
   have H := hid h
   clear h
   go_wp2_with fail
   go_ret
   rw [HF.out]
   exact ToksIs.from H.out HB0.out
  ·have HF : Hid (valT ⟨2, n, ⟨#[]⟩⟩ = [⟨2, [], n⟩]) := by
    show _ = _
    unfold valT
    rw [if_neg (by simp), if_pos rfl, if_neg hn]
   go_enter Tryd.func38, Tryd.ntmps38
   go_wp2_with fail
   go_ret
   rw [HF.out]
   exact ToksIs.from (tok_litB _ 2 n ⟨#[]⟩ ⟨2, [], n⟩ _ (by simp) rfl) HB0.out
 ·have HCL := hid (clone_any (w.alloc (.cells #[.int .i64 3, .int .i64 0, .string t] 50)) t (by omega))
  have HB0 := hid hb0
  clear hco hv hm hb0 h20 hT
  go_enter Tryd.func38, Tryd.ntmps38
  go_wp2_with fail
  refine HCL.out.mono ?_
  rintro e w1 ⟨rfl, hb1⟩
  have HB1 := hid (into HB0.out hb1)
  clear hb1 HCL
  go_wp2_with fail
  go_ret
  exact ToksIs.from (tok_lit w1 3 0 t _ rfl) HB1.out
structure Sv where
 a : Option Addr
 n : Nat
 c : Nat
abbrev svv (s : Sv) : Value := .slice s.a s.n s.c
def Rk (B : Nat) (w : World) (s : Sv) (l : List Tk) : Prop := w.ownsRow B 45 3 (svv s) l.length (tkc l)
theorem own_same {w w' : World} {B e s n : Nat} {v : Value} {xs : List Value} (h : w.ownsRow B e s v n xs) (hb : ∀ g, v.ownBlock = some g → w'.heap[g]? = w.heap[g]?) : w'.ownsRow B e s v n xs := by
 refine ⟨h.1, ?_⟩
 rcases h.2 with h0 | ⟨g, cap, cur, hv, h1, h2, h3⟩
 ·exact .inl h0
 ·exact .inr ⟨g, cap, cur, hv, h1, (hb g (by rw [hv]; rfl)).trans h2, h3⟩
theorem Rk.below {B : Nat} {w w' : World} {s : Sv} {l : List Tk} (h : Rk B w s l) (hb : Below w.heap.size w w') : Rk B w' s l := own_below h hb
theorem own_tyk {w : World} {B e s n g : Nat} {v : Value} {xs : List Value} (h : w.ownsRow B e s v n xs) (hg : v.ownBlock = some g) : ∃ cur sp, w.heap[g]? = some (.cells cur e sp) := by
 obtain ⟨h1, h2⟩ := h
 rcases h2 with ⟨hv, _⟩ | ⟨g', cap, cur, hv, hb, hg', hnc, hcm, _⟩
 ·rw [hv] at hg; simp [Value.ownBlock] at hg
 ·rw [hv] at hg
  cases hg
  exact ⟨_, _, hg'⟩
theorem Rk.grown {C : Nat} {w w' : World} {s : Sv} {l : List Tk} {B e z n : Nat} {v : Value} {xs : List Value} (h : Rk C w s l) (hown : w.ownsRow B e z v n xs) (hg : w.grownBy w' v.ownBlock) (hT : e ≠ 45) : Rk C w' s l := by
 refine own_same h fun a ha => ?_
 obtain ⟨cur, sp, h8⟩ := own_tyk h ha
 have hlt : a < w.heap.size := by
  rcases Nat.lt_or_ge a w.heap.size with g | g
  ·exact g
  ·rw [Array.getElem?_eq_none g] at h8; cases h8
 refine hg.block _ hlt (fun e1 => ?_)
 obtain ⟨c2, s2, h9⟩ := own_tyk hown e1.symm
 rw [h8] at h9
 simp only [Option.some.injEq, Obj.cells.injEq] at h9
 exact hT h9.2.1.symm
theorem Rk.rd {B : Nat} {w : World} {s : Sv} {l : List Tk} (h : Rk B w s l) : Rd w 3 l.length (svv s) (tkc l) := Rd.own h
theorem Rk.len {B : Nat} {w : World} {s : Sv} {l : List Tk} (h : Rk B w s l) : s.n = l.length := by
 obtain ⟨_, ao, cap, hv, _⟩ := Rd.own h
 simp only [svv, Value.slice.injEq] at hv
 exact hv.2.1
theorem Rk.own {B C n c : Nat} {a : Option Addr} {w : World} {l : List Tk} (h : w.ownsRow B 45 3 (.slice a n c) n (tkc l)) (hC : C ≤ B) : Rk C w ⟨a, n, c⟩ l := by
 have hl : n = l.length := by have := h.1; rw [tkc_length] at this; omega
 subst hl
 exact own_mono h hC
def RKs (B : Nat) (w : World) : List Sv → List (List Tk) → Prop
 | [], [] => True
 | x :: xs, p :: ps => Rk B w x p ∧ RKs B w xs ps
 | _, _ => False
theorem RKs.mono {B : Nat} {w w' : World} (f : ∀ s l, Rk B w s l → Rk B w' s l) : ∀ {xs : List Sv} {ps : List (List Tk)}, RKs B w xs ps → RKs B w' xs ps
 | [], [], _ => trivial
 | x :: xs, p :: ps, h => ⟨f _ _ h.1, RKs.mono f h.2⟩
 | [], _ :: _, h => h
 | _ :: _, [], h => h
theorem plainH (w0 : World) (hM : Mk w0) (ts : List ByteArray) (n : Nat) (hn0 : 0 < n) (hn : n ≤ 1000) (hs : ∀ t ∈ ts, t.size ≤ 1000) (L : List Tk) (hL : L = ts.map ptk) :
  Hid (∀ W B, Below w0.heap.size w0 W → Rd W 1 n (.slice (some ⟨B, 0, none⟩) n n) (ts.map Value.string) → Calls Tryd.prog 34 #[.slice (some ⟨B, 0, none⟩) n n] W (ToksIs L W)) := fun W B hW hv => by
 have hl : n = ts.length := by have := hv.1; simp at this; omega
 subst hL
 refine (plain_any W (hM.below hW) n _ ts hn0 hn hv hs).mono ?_
 rintro e w' ⟨v', h1, h2, h3⟩
 exact ⟨v', h1, by rw [List.length_map, ← hl]; exact h2, h3⟩
def OOk (o : Oq) : Prop := opF o.k o.v.k o.v.n o.v.t o.t = 0 ∧ -9223372036854775808 ≤ o.v.n ∧ o.v.n ≤ 9223372036854775807
theorem OOk.lit {o : Oq} (h : OOk o) (hk : o.k = 1) : VOk o.v := by
 refine ⟨?_, h.2⟩
 have := h.1
 unfold opF at this
 split at this
 ·omega
 ·split at this
  ·omega
  ·rename_i hh
   simpa using hh
theorem OOk.name {o : Oq} (h : OOk o) (hk : o.k = 2) : nmF o.t.data.toList = 0 := by
 have := h.1
 unfold opF at this
 repeat' (split at this)
 all_goals first | omega | assumption
abbrev oqV (o : Oq) : Value := .agg #[.int .i64 o.k, .int .i64 o.v.k, .int .i64 o.v.n, .string o.v.t, .string o.t]
theorem showOp_leaf (w : World) (hT : Tbp w) (o : Oq) (ho : OOk o) (hw : wks o.k = 0) (on : Value) : Calls Tryd.prog 64 #[oqV o, on] w (ToksIs (lfT o) w) := by
 have hk : o.k = 1 ∨ o.k = 2 := by
  unfold wks at hw
  split at hw
  ·assumption
  ·split at hw <;> omega
 have hlit := ho.lit
 have hnam := ho.name
 obtain ⟨k, ⟨vk, vn, vt⟩, t⟩ := o
 simp only at hk hlit hnam ⊢
 have hb0 : Below w.heap.size w (w.alloc (.cells #[.int .i64 k, .int .i64 vk, .int .i64 vn, .string vt, .string t] 54)) := (Below.refl _ _).alloc (Nat.le_refl _) _
 have HB0 := hid hb0
 rcases hk with rfl | rfl
 ·have HV := hid (showValue_any _ (hT.below hb0) _ (hlit rfl))
  clear hT ho hw hlit hnam hb0
  go_enter Tryd.func64, Tryd.ntmps64
  go_wp2_with fail
  refine HV.out.mono ?_
  rintro e w1 ⟨v1, rfl, h1, h2⟩
  have H := hid (show ToksIs _ _ (.returned v1) w1 from ⟨v1, rfl, h1, h2⟩)
  clear h1 h2
  go_wp2_with fail
  go_ret
  exact ToksIs.from H.out HB0.out
 ·have hn := nm_size (hnam rfl)
  have HP := hid (plain1 _ (hT.below hb0).b.m t (by omega) (w.heap.size + 1) (by simp))
  clear hT ho hw hlit hnam hb0 hn
  go_enter Tryd.func64, Tryd.ntmps64
  go_wp2_with fail
  refine HP.out.mono ?_
  rintro e w1 ⟨v1, rfl, h1, h2⟩
  have H := hid (show ToksIs _ _ (.returned v1) w1 from ⟨v1, rfl, h1, h2⟩)
  clear h1 h2
  go_wp2_with fail
  go_ret
  exact ToksIs.from H.out HB0.out
theorem wk_2 {k : Int} (h : wks k = 2) : k ≠ 1 ∧ k ≠ 2 ∧ k ≠ 5 ∧ k ≠ 11 := by
 unfold wks at h
 split at h
 ·omega
 ·split at h
  ·omega
  ·omega
theorem showOp_un (w : World) (hT : Tbp w) (o : Oq) (ho : OOk o) (hw : wks o.k = 1) (b p cap : Nat) (s : Sv) (A : List Tk) (hc : w.cell? ⟨b, p, none⟩ = some (svv s)) (C0 : Nat) (hr : Rk C0 w s A) (hA : A.length ≤ 1000) :
  Calls Tryd.prog 64 #[oqV o, .slice (some ⟨b, p, none⟩) 1 cap] w (ToksIs (onT o.k A) w) := by
 have hk : o.k = 5 ∨ o.k = 11 := by
  unfold wks at hw
  split at hw
  ·omega
  ·split at hw
   ·assumption
   ·omega
 obtain ⟨k, ⟨vk, vn, vt⟩, t⟩ := o
 obtain ⟨a0, n0, d0⟩ := s
 simp only at hk ⊢
 have hb0 : Below w.heap.size w (w.alloc (.cells #[.int .i64 k, .int .i64 vk, .int .i64 vn, .string vt, .string t] 54)) := (Below.refl _ _).alloc (Nat.le_refl _) _
 have HB0 := hid hb0
 have hn0 : n0 = A.length := hr.len
 have HC := hid (cell_blz hb0 hc)
 have HR : Hid (Rd (w.alloc (.cells #[.int .i64 k, .int .i64 vk, .int .i64 vn, .string vt, .string t] 54)) 3 n0 (.slice a0 n0 d0) (tkc A)) := by
  have := hr.rd.below hb0
  rw [← hn0] at this
  exact this
 clear hr hw hn0
 rcases hk with rfl | rfl
 ·have HA := plainH _ (hT.below hb0).b.m [sOpen, sNOT] 2 (by omega) (by omega) (by simp; decide) [ptk sOpen, ptk sNOT] rfl
  have HB := plainH _ (hT.below hb0).b.m [sClose] 1 (by omega) (by omega) (by simp; decide) [ptk sClose] rfl
  have HLN : Hid ([ptk sOpen, ptk sNOT].length + (A.length + ([ptk sClose].length)) ≤ 1000000) := by
   show _ ≤ _
   simp only [List.length_cons, List.length_nil]
   omega
  clear hT ho hb0 hc
  go_enter Tryd.func64, Tryd.ntmps64
  go_wp2_with fail
  change Code.wp _ ((regionOf 7 (Tryd.f64.body.getD .skip)).getD .skip) _ _ _
  refine op7 _ _ w.heap.size (by simp) b p cap a0 n0 d0 A HC.out HR.out HA HB HLN (hid ?_)
  intro e20 e21 e22 e23 e24 e25 e26 e27 e28 vv w1 h
  have H := hid h
  clear h
  go_wp2_with fail
  go_ret
  exact ToksIs.from H.out HB0.out
 ·have HA := plainH _ (hT.below hb0).b.m [sOpen] 1 (by omega) (by omega) (by simp; decide) [ptk sOpen] rfl
  have HB := plainH _ (hT.below hb0).b.m [sIS, sNULL, sClose] 3 (by omega) (by omega) (by simp; decide) [ptk sIS, ptk sNULL, ptk sClose] rfl
  have HLN : Hid ([ptk sOpen].length + (A.length + ([ptk sIS, ptk sNULL, ptk sClose].length)) ≤ 1000000) := by
   show _ ≤ _
   simp only [List.length_cons, List.length_nil]
   omega
  clear hT ho hb0 hc
  go_enter Tryd.func64, Tryd.ntmps64
  go_wp2_with fail
  change Code.wp _ ((regionOf 9 (Tryd.f64.body.getD .skip)).getD .skip) _ _ _
  refine op9 _ _ w.heap.size (by simp) b p cap a0 n0 d0 A HC.out HR.out HA HB HLN (hid ?_)
  intro e31 e32 e33 e34 e35 e36 e37 e38 e39 vv w1 h
  have H := hid h
  clear h
  go_wp2_with fail
  go_ret
  exact ToksIs.from H.out HB0.out
theorem showOp_bi (w : World) (hT : Tbp w) (o : Oq) (ho : OOk o) (hw : wks o.k = 2) (b p cap : Nat) (s r : Sv) (A C : List Tk) (hc : w.cell? ⟨b, p, none⟩ = some (svv s)) (hc1 : w.cell? ⟨b, p + 1, none⟩ = some (svv r)) (C0 : Nat) (hr : Rk C0 w s A) (hr1 : Rk C0 w r C) (hA : A.length ≤ 1000) (hC : C.length ≤ 1000) :
  Calls Tryd.prog 64 #[oqV o, .slice (some ⟨b, p, none⟩) 2 cap] w (ToksIs (twT o.k A C) w) := by
 obtain ⟨g1, g11⟩ := opF_kind ho.1
 obtain ⟨q1, q2, q5, q11⟩ := wk_2 hw
 obtain ⟨k, ⟨vk, vn, vt⟩, t⟩ := o
 obtain ⟨a0, n0, d0⟩ := s
 obtain ⟨a1, n1, d1⟩ := r
 simp only at g1 g11 q1 q2 q5 q11 ⊢
 obtain ⟨kn, rfl⟩ : ∃ kn : Nat, k = (kn : Int) := ⟨k.toNat, by omega⟩
 have hb0 : Below w.heap.size w (w.alloc (.cells #[.int .i64 (kn : Int), .int .i64 vk, .int .i64 vn, .string vt, .string t] 54)) := (Below.refl _ _).alloc (Nat.le_refl _) _
 have HB0 := hid hb0
 have hn0 : n0 = A.length := hr.len
 have hn1 : n1 = C.length := hr1.len
 have HC := hid (cell_blz hb0 hc)
 have HC1 := hid (cell_blz hb0 hc1)
 have HR : Hid (Rd (w.alloc (.cells #[.int .i64 (kn : Int), .int .i64 vk, .int .i64 vn, .string vt, .string t] 54)) 3 n0 (.slice a0 n0 d0) (tkc A)) := by
  have := hr.rd.below hb0
  rw [← hn0] at this
  exact this
 have HR1 : Hid (Rd (w.alloc (.cells #[.int .i64 (kn : Int), .int .i64 vk, .int .i64 vn, .string vt, .string t] 54)) 3 n1 (.slice a1 n1 d1) (tkc C)) := by
  have := hr1.rd.below hb0
  rw [← hn1] at this
  exact this
 have hsgs := sg_size kn (by omega)
 have hsz : (sgT (kn : Int)).size ≤ 1000 := by
  show (sgL.getD (Int.toNat (kn : Int)) []).toArray.size ≤ 1000
  rw [List.size_toArray]
  simp only [Int.toNat_natCast]
  omega
 have hsg := sg_at (hT.below hb0).s (k := kn) (by omega)
 have HSG : Hid ((w.alloc (.cells #[.int .i64 (kn : Int), .int .i64 vk, .int .i64 vn, .string vt, .string t] 54)).cell? ⟨4, kn, none⟩ = some (.string (sgT (kn : Int)))) := hsg
 have HA := plainH _ (hT.below hb0).b.m [sOpen] 1 (by omega) (by omega) (by simp; decide) [ptk sOpen] rfl
 have HB := plainH _ (hT.below hb0).b.m [sClose] 1 (by omega) (by omega) (by simp; decide) [ptk sClose] rfl
 have HS := plainH _ (hT.below hb0).b.m [sgT (kn : Int)] 1 (by omega) (by omega) (by simpa using hsz) [ptk (sgT (kn : Int))] rfl
 have HF : Hid (twT (kn : Int) A C = [ptk sOpen] ++ (A ++ ([ptk (sgT (kn : Int))] ++ (C ++ [ptk sClose])))) := rfl
 obtain ⟨sg, hsgq⟩ : ∃ sg, sg = sgT (kn : Int) := ⟨_, rfl⟩
 rw [← hsgq] at HSG HS HF
 have HLN : Hid ([ptk sOpen].length + (A.length + ([ptk sg].length + (C.length + ([ptk sClose].length)))) ≤ 1000000) := by
  show _ ≤ _
  simp only [List.length_cons, List.length_nil]
  omega
 have e1 : ((kn : Int) == 1) = false := by simpa using q1
 have e2 : ((kn : Int) == 2) = false := by simpa using q2
 have e5 : ((kn : Int) == 5) = false := by simpa using q5
 have e11 : ((kn : Int) == 11) = false := by simpa using q11
 have hkl : (kn : Int) < 11 := by omega
 clear hT ho hb0 hc hc1 hr hr1 hw hn0 hn1 hsgs hsz hsg hsgq q1 q2 q5 q11 g1 g11
 go_enter Tryd.func64, Tryd.ntmps64
 go_wp2_with fail
 change Code.wp _ ((regionOf 10 (Tryd.f64.body.getD .skip)).getD .skip) _ _ _
 refine op10 _ _ w.heap.size (by simp) b p cap a0 n0 d0 A a1 n1 d1 C kn sg hkl HC.out HC1.out (by simp) HSG.out HR.out HR1.out HA HB HS HLN (hid ?_)
 intro e40 e41 e42 e43 e44 e45 e46 e47 e48 e49 e50 e51 e52 e53 e54 e55 e56 e57 vv w1 h
 have H := hid h
 clear h
 go_wp2_with fail
 go_ret
 rw [HF.out]
 exact ToksIs.from H.out HB0.out
theorem Tryd.info35 : (Tryd.prog.info? 35).map (fun i => (i.zero, i.size, i.bytes)) = some (some (.slice none 0 0), 1, 24) := by kernel_rfl
theorem tt_ne : 35 ≠ 45 := by decide
theorem r6A (Q : Exit → Act → World → Prop) {c0 c1 c2 c4 c7 c8 c9 c10 c11 c12 c13 c14 c15 c16 c17 c18 c19 c20 c21 c22 c23 c24 c25 c26 c27 c28 c29 c30 c31 c32 c33 : Value} (w0 : World) (P B : Nat) (hP : P < w0.heap.size) (hB : B ≤ w0.heap.size) (xk vk vn : Int) (vt xt : ByteArray) (ys : List Value) (L : List Tk) (hn : 0 ≤ 1000)
  (p0 : w0.cell? ⟨P, 0, none⟩ = some (.int .i64 xk)) (p1 : w0.cell? ⟨P, 1, none⟩ = some (.int .i64 vk)) (p2 : w0.cell? ⟨P, 2, none⟩ = some (.int .i64 vn)) (p3 : w0.cell? ⟨P, 3, none⟩ = some (.string vt)) (p4 : w0.cell? ⟨P, 4, none⟩ = some (.string xt))
  (hne : ∀ k, Value.ownBlock (.slice none 0 0) = some k → k ≠ P) (hown : Hid (w0.ownsRow B 35 1 (.slice none 0 0) 0 ys))
  (HSO : Hid (∀ W, Below w0.heap.size w0 W → ∀ on, Calls Tryd.prog 64 #[.agg #[.int .i64 xk, .int .i64 vk, .int .i64 vn, .string vt, .string xt], on] W (ToksIs L W)))
  (hout : Hid (∀ (u20 u21 u22 u23 u24 u25 u26 u27 u28 u29 : Value) (x : Sv) (gg cap1 : Nat) (wz : World), Rk B wz x L → wz.ownsRow B 35 1 (.slice (some ⟨gg, 0, none⟩) (0 + 1) cap1) (0 + 1) (ys ++ [svv x]) → Below B w0 wz → (∀ s l, Rk B w0 s l → Rk B wz s l) → Q .normal ⟨List.toArray (c0 :: c1 :: c2 :: (.slice (some ⟨gg, 0, none⟩) (0 + 1) cap1) :: c4 :: (.pointer (some ⟨P, 0, none⟩)) :: (.int .i64 0) :: c7 :: c8 :: c9 :: c10 :: c11 :: c12 :: c13 :: c14 :: c15 :: c16 :: c17 :: c18 :: c19 :: u20 :: u21 :: u22 :: u23 :: u24 :: u25 :: u26 :: u27 :: u28 :: u29 :: c30 :: c31 :: c32 :: c33 :: []), []⟩ wz)) :
  Code.wp Tryd.prog ((regionOf 6 (Tryd.f40.body.getD .skip)).getD .skip) Q ⟨List.toArray (c0 :: c1 :: c2 :: (.slice none 0 0) :: c4 :: (.pointer (some ⟨P, 0, none⟩)) :: (.int .i64 0) :: c7 :: c8 :: c9 :: c10 :: c11 :: c12 :: c13 :: c14 :: c15 :: c16 :: c17 :: c18 :: c19 :: c20 :: c21 :: c22 :: c23 :: c24 :: c25 :: c26 :: c27 :: c28 :: c29 :: c30 :: c31 :: c32 :: c33 :: []), []⟩ w0 := by
 refine Code.wp_mono (Q := NQ Q) nq_to ?_
 conv => arg 2; whnf
 have hB0 : Below w0.heap.size w0 w0 := Below.refl _ _
 obtain ⟨i9, hi0, hz0, hz1, hz2⟩ := info_parts Tryd.info35
 go_region_held3 (fun wx => wx.cell? ⟨P, 0, none⟩ = some (.int .i64 xk) ∧ wx.cell? ⟨P, 1, none⟩ = some (.int .i64 vk) ∧ wx.cell? ⟨P, 2, none⟩ = some (.int .i64 vn) ∧ wx.cell? ⟨P, 3, none⟩ = some (.string vt) ∧ wx.cell? ⟨P, 4, none⟩ = some (.string xt))
  ((refine ⟨?_, ?_, ?_, ?_, ?_⟩ <;> (repeat' (first | (with_reducible assumption) | (with_reducible refine cell_dr ?_) | (with_reducible refine cell_al _ ?_) | (with_reducible refine cell_of_below hbA ?_) | (refine cell_blk (hgrow.block P (by simp; omega) (fun e => hne _ e.symm rfl)) ?_)))))
  ((first
   | (go_at_call 64; (with_reducible refine (HSO.out _ (by go_grown) _).mono ?_); rintro e wA ⟨vA, rfl, hownA, hbA⟩; obtain ⟨aA, qA, rfl⟩ := own_shape hownA; have hBA : Below w0.heap.size w0 wA := into (by go_grown) hbA; have hzA := hBA.size; have hrA : Rk B wA ⟨aA, L.length, qA⟩ L := Rk.own hownA (by simp; try omega); have hownB := (own_below hown.out hBA).alloc (.cells #[.slice aA L.length qA] 35))
   | (refine step_append_lies _ (by rfl) _ _ _ (by rfl) B 35 i9 _ 1 24 Tryd.underlying99 hi0 hz0 hz1 hz2 rfl (by omega) (.slice none 0 0) 0 ys (by rfl) hownB ⟨wA.heap.size, 0, none⟩ 1 1 [.slice aA L.length qA] (by rfl) (by rfl) (new_cells wA _ _) (by intro u hu; simp at hu; rcases hu with rfl; rfl) (by omega) (by unfold maxLen; omega) (by omega) (by simp; omega) (wA.heap.size + 1) (by simp) ?_; intro gg cap1 w4 hown4 hgrow hat4 hlt4; have hgg := (Below.refl B _).grown hgrow (by simp; omega) (own_ge hownB); have hb4 : Below B w0 w4 := Below.trans (Below.mono (show Below w0.heap.size w0 _ from hBA.alloc (by omega) _) hB) hgg)))
 all_goals exact hout.out _ _ _ _ _ _ _ _ _ _ ⟨aA, L.length, qA⟩ gg cap1 w4 ((hrA.below ((Below.refl _ _).alloc (Nat.le_refl _) _)).grown hownB hgrow tt_ne) hown4 hb4 (fun s l h => ((h.below hBA).below ((Below.refl _ _).alloc (Nat.le_refl _) _)).grown hownB hgrow tt_ne)
theorem r6B (Q : Exit → Act → World → Prop) {c0 c1 c2 c4 c7 c8 c9 c10 c11 c12 c13 c14 c15 c16 c17 c18 c19 c20 c21 c22 c23 c24 c25 c26 c27 c28 c29 c30 c31 c32 c33 : Value} (w0 : World) (P B : Nat) (g q : Nat) (hP : P < w0.heap.size) (hB : B ≤ w0.heap.size) (xk vk vn : Int) (vt xt : ByteArray) (ys : List Value) (L : List Tk) (hn : q ≤ 1000)
  (p0 : w0.cell? ⟨P, 0, none⟩ = some (.int .i64 xk)) (p1 : w0.cell? ⟨P, 1, none⟩ = some (.int .i64 vk)) (p2 : w0.cell? ⟨P, 2, none⟩ = some (.int .i64 vn)) (p3 : w0.cell? ⟨P, 3, none⟩ = some (.string vt)) (p4 : w0.cell? ⟨P, 4, none⟩ = some (.string xt))
  (hne : ∀ k, Value.ownBlock (.slice (some ⟨g, 0, none⟩) q q) = some k → k ≠ P) (hown : Hid (w0.ownsRow B 35 1 (.slice (some ⟨g, 0, none⟩) q q) q ys))
  (HSO : Hid (∀ W, Below w0.heap.size w0 W → ∀ on, Calls Tryd.prog 64 #[.agg #[.int .i64 xk, .int .i64 vk, .int .i64 vn, .string vt, .string xt], on] W (ToksIs L W)))
  (hout : Hid (∀ (u20 u21 u22 u23 u24 u25 u26 u27 u28 u29 : Value) (x : Sv) (gg cap1 : Nat) (wz : World), Rk B wz x L → wz.ownsRow B 35 1 (.slice (some ⟨gg, 0, none⟩) (q + 1) cap1) (q + 1) (ys ++ [svv x]) → Below B w0 wz → (∀ s l, Rk B w0 s l → Rk B wz s l) → Q .normal ⟨List.toArray (c0 :: c1 :: c2 :: (.slice (some ⟨gg, 0, none⟩) (q + 1) cap1) :: c4 :: (.pointer (some ⟨P, 0, none⟩)) :: (.int .i64 (q : Int)) :: c7 :: c8 :: c9 :: c10 :: c11 :: c12 :: c13 :: c14 :: c15 :: c16 :: c17 :: c18 :: c19 :: u20 :: u21 :: u22 :: u23 :: u24 :: u25 :: u26 :: u27 :: u28 :: u29 :: c30 :: c31 :: c32 :: c33 :: []), []⟩ wz)) :
  Code.wp Tryd.prog ((regionOf 6 (Tryd.f40.body.getD .skip)).getD .skip) Q ⟨List.toArray (c0 :: c1 :: c2 :: (.slice (some ⟨g, 0, none⟩) q q) :: c4 :: (.pointer (some ⟨P, 0, none⟩)) :: (.int .i64 (q : Int)) :: c7 :: c8 :: c9 :: c10 :: c11 :: c12 :: c13 :: c14 :: c15 :: c16 :: c17 :: c18 :: c19 :: c20 :: c21 :: c22 :: c23 :: c24 :: c25 :: c26 :: c27 :: c28 :: c29 :: c30 :: c31 :: c32 :: c33 :: []), []⟩ w0 := by
 refine Code.wp_mono (Q := NQ Q) nq_to ?_
 conv => arg 2; whnf
 have hB0 : Below w0.heap.size w0 w0 := Below.refl _ _
 obtain ⟨i9, hi0, hz0, hz1, hz2⟩ := info_parts Tryd.info35
 go_region_held3 (fun wx => wx.cell? ⟨P, 0, none⟩ = some (.int .i64 xk) ∧ wx.cell? ⟨P, 1, none⟩ = some (.int .i64 vk) ∧ wx.cell? ⟨P, 2, none⟩ = some (.int .i64 vn) ∧ wx.cell? ⟨P, 3, none⟩ = some (.string vt) ∧ wx.cell? ⟨P, 4, none⟩ = some (.string xt))
  ((refine ⟨?_, ?_, ?_, ?_, ?_⟩ <;> (repeat' (first | (with_reducible assumption) | (with_reducible refine cell_dr ?_) | (with_reducible refine cell_al _ ?_) | (with_reducible refine cell_of_below hbA ?_) | (refine cell_blk (hgrow.block P (by simp; omega) (fun e => hne _ e.symm rfl)) ?_)))))
  ((first
   | (go_at_call 64; (with_reducible refine (HSO.out _ (by go_grown) _).mono ?_); rintro e wA ⟨vA, rfl, hownA, hbA⟩; obtain ⟨aA, qA, rfl⟩ := own_shape hownA; have hBA : Below w0.heap.size w0 wA := into (by go_grown) hbA; have hzA := hBA.size; have hrA : Rk B wA ⟨aA, L.length, qA⟩ L := Rk.own hownA (by simp; try omega); have hownB := (own_below hown.out hBA).alloc (.cells #[.slice aA L.length qA] 35))
   | (refine step_append_lies _ (by rfl) _ _ _ (by rfl) B 35 i9 _ 1 24 Tryd.underlying99 hi0 hz0 hz1 hz2 rfl (by omega) (.slice (some ⟨g, 0, none⟩) q q) q ys (by rfl) hownB ⟨wA.heap.size, 0, none⟩ 1 1 [.slice aA L.length qA] (by rfl) (by rfl) (new_cells wA _ _) (by intro u hu; simp at hu; rcases hu with rfl; rfl) (by omega) (by unfold maxLen; omega) (by omega) (by simp; omega) (wA.heap.size + 1) (by simp) ?_; intro gg cap1 w4 hown4 hgrow hat4 hlt4; have hgg := (Below.refl B _).grown hgrow (by simp; omega) (own_ge hownB); have hb4 : Below B w0 w4 := Below.trans (Below.mono (show Below w0.heap.size w0 _ from hBA.alloc (by omega) _) hB) hgg)))
 all_goals exact hout.out _ _ _ _ _ _ _ _ _ _ ⟨aA, L.length, qA⟩ gg cap1 w4 ((hrA.below ((Below.refl _ _).alloc (Nat.le_refl _) _)).grown hownB hgrow tt_ne) hown4 hb4 (fun s l h => ((h.below hBA).below ((Below.refl _ _).alloc (Nat.le_refl _) _)).grown hownB hgrow tt_ne)
theorem r6C (Q : Exit → Act → World → Prop) {c0 c1 c2 c4 c7 c8 c9 c10 c11 c12 c13 c14 c15 c16 c17 c18 c19 c20 c21 c22 c23 c24 c25 c26 c27 c28 c29 c30 c31 c32 c33 : Value} (w0 : World) (P B : Nat) (g q cp : Nat) (h1 : (q : Int) ≤ (cp : Int)) (h2 : ¬ q = cp) (h3 : ¬ cp = q) (h4 : (0 : Int) ≤ (q : Int)) (h5 : q < cp) (hP : P < w0.heap.size) (hB : B ≤ w0.heap.size) (xk vk vn : Int) (vt xt : ByteArray) (ys : List Value) (L : List Tk) (hn : q ≤ 1000)
  (p0 : w0.cell? ⟨P, 0, none⟩ = some (.int .i64 xk)) (p1 : w0.cell? ⟨P, 1, none⟩ = some (.int .i64 vk)) (p2 : w0.cell? ⟨P, 2, none⟩ = some (.int .i64 vn)) (p3 : w0.cell? ⟨P, 3, none⟩ = some (.string vt)) (p4 : w0.cell? ⟨P, 4, none⟩ = some (.string xt))
  (hne : ∀ k, Value.ownBlock (.slice (some ⟨g, 0, none⟩) q cp) = some k → k ≠ P) (hown : Hid (w0.ownsRow B 35 1 (.slice (some ⟨g, 0, none⟩) q cp) q ys))
  (HSO : Hid (∀ W, Below w0.heap.size w0 W → ∀ on, Calls Tryd.prog 64 #[.agg #[.int .i64 xk, .int .i64 vk, .int .i64 vn, .string vt, .string xt], on] W (ToksIs L W)))
  (hout : Hid (∀ (u20 u21 u22 u23 u24 u25 u26 u27 u28 u29 : Value) (x : Sv) (gg cap1 : Nat) (wz : World), Rk B wz x L → wz.ownsRow B 35 1 (.slice (some ⟨gg, 0, none⟩) (q + 1) cap1) (q + 1) (ys ++ [svv x]) → Below B w0 wz → (∀ s l, Rk B w0 s l → Rk B wz s l) → Q .normal ⟨List.toArray (c0 :: c1 :: c2 :: (.slice (some ⟨gg, 0, none⟩) (q + 1) cap1) :: c4 :: (.pointer (some ⟨P, 0, none⟩)) :: (.int .i64 (q : Int)) :: c7 :: c8 :: c9 :: c10 :: c11 :: c12 :: c13 :: c14 :: c15 :: c16 :: c17 :: c18 :: c19 :: u20 :: u21 :: u22 :: u23 :: u24 :: u25 :: u26 :: u27 :: u28 :: u29 :: c30 :: c31 :: c32 :: c33 :: []), []⟩ wz)) :
  Code.wp Tryd.prog ((regionOf 6 (Tryd.f40.body.getD .skip)).getD .skip) Q ⟨List.toArray (c0 :: c1 :: c2 :: (.slice (some ⟨g, 0, none⟩) q cp) :: c4 :: (.pointer (some ⟨P, 0, none⟩)) :: (.int .i64 (q : Int)) :: c7 :: c8 :: c9 :: c10 :: c11 :: c12 :: c13 :: c14 :: c15 :: c16 :: c17 :: c18 :: c19 :: c20 :: c21 :: c22 :: c23 :: c24 :: c25 :: c26 :: c27 :: c28 :: c29 :: c30 :: c31 :: c32 :: c33 :: []), []⟩ w0 := by
 refine Code.wp_mono (Q := NQ Q) nq_to ?_
 conv => arg 2; whnf
 have hB0 : Below w0.heap.size w0 w0 := Below.refl _ _
 obtain ⟨i9, hi0, hz0, hz1, hz2⟩ := info_parts Tryd.info35
 go_region_held3 (fun wx => wx.cell? ⟨P, 0, none⟩ = some (.int .i64 xk) ∧ wx.cell? ⟨P, 1, none⟩ = some (.int .i64 vk) ∧ wx.cell? ⟨P, 2, none⟩ = some (.int .i64 vn) ∧ wx.cell? ⟨P, 3, none⟩ = some (.string vt) ∧ wx.cell? ⟨P, 4, none⟩ = some (.string xt))
  ((refine ⟨?_, ?_, ?_, ?_, ?_⟩ <;> (repeat' (first | (with_reducible assumption) | (with_reducible refine cell_dr ?_) | (with_reducible refine cell_al _ ?_) | (with_reducible refine cell_of_below hbA ?_) | (refine cell_blk (hgrow.block P (by simp; omega) (fun e => hne _ e.symm rfl)) ?_)))))
  ((first
   | (go_at_call 64; (with_reducible refine (HSO.out _ (by go_grown) _).mono ?_); rintro e wA ⟨vA, rfl, hownA, hbA⟩; obtain ⟨aA, qA, rfl⟩ := own_shape hownA; have hBA : Below w0.heap.size w0 wA := into (by go_grown) hbA; have hzA := hBA.size; have hrA : Rk B wA ⟨aA, L.length, qA⟩ L := Rk.own hownA (by simp; try omega); have hownB := (own_below hown.out hBA).alloc (.cells #[.slice aA L.length qA] 35))
   | (refine step_append_lies _ (by rfl) _ _ _ (by rfl) B 35 i9 _ 1 24 Tryd.underlying99 hi0 hz0 hz1 hz2 rfl (by omega) (.slice (some ⟨g, 0, none⟩) q cp) q ys (by rfl) hownB ⟨wA.heap.size, 0, none⟩ 1 1 [.slice aA L.length qA] (by rfl) (by rfl) (new_cells wA _ _) (by intro u hu; simp at hu; rcases hu with rfl; rfl) (by omega) (by unfold maxLen; omega) (by omega) (by simp; omega) (wA.heap.size + 1) (by simp) ?_; intro gg cap1 w4 hown4 hgrow hat4 hlt4; have hgg := (Below.refl B _).grown hgrow (by simp; omega) (own_ge hownB); have hb4 : Below B w0 w4 := Below.trans (Below.mono (show Below w0.heap.size w0 _ from hBA.alloc (by omega) _) hB) hgg)))
 all_goals exact hout.out _ _ _ _ _ _ _ _ _ _ ⟨aA, L.length, qA⟩ gg cap1 w4 ((hrA.below ((Below.refl _ _).alloc (Nat.le_refl _) _)).grown hownB hgrow tt_ne) hown4 hb4 (fun s l h => ((h.below hBA).below ((Below.refl _ _).alloc (Nat.le_refl _) _)).grown hownB hgrow tt_ne)
theorem r6D (Q : Exit → Act → World → Prop) {c0 c1 c2 c4 c7 c8 c9 c10 c11 c12 c13 c14 c15 c16 c17 c18 c19 c20 c21 c22 c23 c24 c25 c26 c27 c28 c29 c30 c31 c32 c33 : Value} (w0 : World) (P B : Nat) (g q p cp r : Nat) (h1 : (q : Int) ≤ (cp : Int)) (h2 : ¬ p = cp) (h3 : ¬ cp = p) (h4 : (0 : Int) ≤ (p : Int)) (h5 : (p : Int) ≤ (q : Int)) (h6 : (p : Int) ≤ (cp : Int)) (h7 : q - p = r) (hP : P < w0.heap.size) (hB : B ≤ w0.heap.size) (xk vk vn : Int) (vt xt : ByteArray) (ys : List Value) (L : List Tk) (hn : p ≤ 1000)
  (p0 : w0.cell? ⟨P, 0, none⟩ = some (.int .i64 xk)) (p1 : w0.cell? ⟨P, 1, none⟩ = some (.int .i64 vk)) (p2 : w0.cell? ⟨P, 2, none⟩ = some (.int .i64 vn)) (p3 : w0.cell? ⟨P, 3, none⟩ = some (.string vt)) (p4 : w0.cell? ⟨P, 4, none⟩ = some (.string xt))
  (hne : ∀ k, Value.ownBlock (.slice (some ⟨g, 0, none⟩) p cp) = some k → k ≠ P) (hown : Hid (w0.ownsRow B 35 1 (.slice (some ⟨g, 0, none⟩) p cp) p ys))
  (HSO : Hid (∀ W, Below w0.heap.size w0 W → Calls Tryd.prog 64 #[.agg #[.int .i64 xk, .int .i64 vk, .int .i64 vn, .string vt, .string xt], .slice (some ⟨g, p, none⟩) r (cp - p)] W (ToksIs L W)))
  (hout : Hid (∀ (u20 u21 u22 u23 u24 u25 u26 u27 u28 u29 : Value) (x : Sv) (gg cap1 : Nat) (wz : World), Rk B wz x L → wz.ownsRow B 35 1 (.slice (some ⟨gg, 0, none⟩) (p + 1) cap1) (p + 1) (ys ++ [svv x]) → Below B w0 wz → (∀ s l, Rk B w0 s l → Rk B wz s l) → Q .normal ⟨List.toArray (c0 :: c1 :: c2 :: (.slice (some ⟨gg, 0, none⟩) (p + 1) cap1) :: c4 :: (.pointer (some ⟨P, 0, none⟩)) :: (.int .i64 (p : Int)) :: c7 :: c8 :: c9 :: c10 :: c11 :: c12 :: c13 :: c14 :: c15 :: c16 :: c17 :: c18 :: c19 :: u20 :: u21 :: u22 :: u23 :: u24 :: u25 :: u26 :: u27 :: u28 :: u29 :: c30 :: c31 :: c32 :: c33 :: []), []⟩ wz)) :
  Code.wp Tryd.prog ((regionOf 6 (Tryd.f40.body.getD .skip)).getD .skip) Q ⟨List.toArray (c0 :: c1 :: c2 :: (.slice (some ⟨g, 0, none⟩) q cp) :: c4 :: (.pointer (some ⟨P, 0, none⟩)) :: (.int .i64 (p : Int)) :: c7 :: c8 :: c9 :: c10 :: c11 :: c12 :: c13 :: c14 :: c15 :: c16 :: c17 :: c18 :: c19 :: c20 :: c21 :: c22 :: c23 :: c24 :: c25 :: c26 :: c27 :: c28 :: c29 :: c30 :: c31 :: c32 :: c33 :: []), []⟩ w0 := by
 refine Code.wp_mono (Q := NQ Q) nq_to ?_
 conv => arg 2; whnf
 have hB0 : Below w0.heap.size w0 w0 := Below.refl _ _
 obtain ⟨i9, hi0, hz0, hz1, hz2⟩ := info_parts Tryd.info35
 go_region_held3 (fun wx => wx.cell? ⟨P, 0, none⟩ = some (.int .i64 xk) ∧ wx.cell? ⟨P, 1, none⟩ = some (.int .i64 vk) ∧ wx.cell? ⟨P, 2, none⟩ = some (.int .i64 vn) ∧ wx.cell? ⟨P, 3, none⟩ = some (.string vt) ∧ wx.cell? ⟨P, 4, none⟩ = some (.string xt))
  ((refine ⟨?_, ?_, ?_, ?_, ?_⟩ <;> (repeat' (first | (with_reducible assumption) | (with_reducible refine cell_dr ?_) | (with_reducible refine cell_al _ ?_) | (with_reducible refine cell_of_below hbA ?_) | (refine cell_blk (hgrow.block P (by simp; omega) (fun e => hne _ e.symm rfl)) ?_)))))
  ((first
   | (go_at_call 64; (with_reducible refine (HSO.out _ (by go_grown)).mono ?_); rintro e wA ⟨vA, rfl, hownA, hbA⟩; obtain ⟨aA, qA, rfl⟩ := own_shape hownA; have hBA : Below w0.heap.size w0 wA := into (by go_grown) hbA; have hzA := hBA.size; have hrA : Rk B wA ⟨aA, L.length, qA⟩ L := Rk.own hownA (by simp; try omega); have hownB := (own_below hown.out hBA).alloc (.cells #[.slice aA L.length qA] 35))
   | (refine step_append_lies _ (by rfl) _ _ _ (by rfl) B 35 i9 _ 1 24 Tryd.underlying99 hi0 hz0 hz1 hz2 rfl (by omega) (.slice (some ⟨g, 0, none⟩) p cp) p ys (by rfl) hownB ⟨wA.heap.size, 0, none⟩ 1 1 [.slice aA L.length qA] (by rfl) (by rfl) (new_cells wA _ _) (by intro u hu; simp at hu; rcases hu with rfl; rfl) (by omega) (by unfold maxLen; omega) (by omega) (by simp; omega) (wA.heap.size + 1) (by simp) ?_; intro gg cap1 w4 hown4 hgrow hat4 hlt4; have hgg := (Below.refl B _).grown hgrow (by simp; omega) (own_ge hownB); have hb4 : Below B w0 w4 := Below.trans (Below.mono (show Below w0.heap.size w0 _ from hBA.alloc (by omega) _) hB) hgg)))
 all_goals exact hout.out _ _ _ _ _ _ _ _ _ _ ⟨aA, L.length, qA⟩ gg cap1 w4 ((hrA.below ((Below.refl _ _).alloc (Nat.le_refl _) _)).grown hownB hgrow tt_ne) hown4 hb4 (fun s l h => ((h.below hBA).below ((Below.refl _ _).alloc (Nat.le_refl _) _)).grown hownB hgrow tt_ne)
theorem sv_rev (s : List Sv) (x : Sv) : (x :: s).reverse.map svv = s.reverse.map svv ++ [svv x] := by simp
def tot : List (List Tk) → Nat
 | [] => 0
 | t :: r => t.length + tot r
theorem own_cell1 {w : World} {B e n cap : Nat} {ao : Option Addr} {l : List Value} (h : w.ownsRow B e 1 (.slice ao n cap) n l) {j : Nat} {x : Value} (hj : l[j]? = some x) : ∃ g, ao = some ⟨g, 0, none⟩ ∧ w.cell? ⟨g, j, none⟩ = some x := by
 have hjl : j < l.length := (List.getElem?_eq_some_iff.1 hj).1
 have hl := h.1
 rcases h.2 with ⟨hv, h0⟩ | ⟨g, c, cur, hv, _⟩
 ·omega
 ·simp only [Value.slice.injEq] at hv
  obtain ⟨rfl, _, rfl⟩ := hv
  have h1 := h.cells rfl _ _ hj
  rw [Addr.add_lit, Nat.zero_add] at h1
  exact ⟨g, rfl, h1⟩
theorem own_forms {w : World} {B e s n : Nat} {v : Value} {xs : List Value} (h : w.ownsRow B e s v n xs) : (v = .slice none 0 0 ∧ n = 0) ∨ ∃ g cap, v = .slice (some ⟨g, 0, none⟩) n cap ∧ n ≤ cap ∧ B ≤ g ∧ g < w.heap.size := by
 rcases id h.2 with h0 | ⟨g, cap, _, hv, hb, hg, hc, _⟩
 ·exact Or.inl h0
 ·exact Or.inr ⟨g, cap, hv, hc, hb, (h.lt g (by rw [hv]; rfl)).2⟩
theorem exF_cons {n : Int} {o : Oq} {l : List Oq} (h : exF n (o :: l) = 0) : wks o.k ≤ n ∧ exF (n + 1 - wks o.k) l = 0 := by
 unfold exF at h
 split at h
 ·omega
 ·split at h
  ·omega
  ·exact ⟨by omega, h⟩
theorem own_tak {w : World} {B e s n cap : Nat} {ao : Option Addr} {xs : List Value} (h : w.ownsRow B e s (.slice ao n cap) n xs) (k : Nat) (hk : k ≤ n) : w.ownsRow B e s (.slice ao k cap) k (xs.take (k * s)) := by
 refine ⟨?_, ?_⟩
 ·rw [List.length_take, h.1]
  exact Nat.min_eq_left (Nat.mul_le_mul_right _ hk)
 ·rcases h.2 with ⟨hv, h0⟩ | ⟨g, c, cur, hv, h1, h2, h3, h4, h5, h6⟩
  ·simp only [Value.slice.injEq] at hv
   obtain ⟨rfl, _, rfl⟩ := hv
   exact .inl ⟨by rw [show k = 0 by omega], by omega⟩
  ·simp only [Value.slice.injEq] at hv
   obtain ⟨rfl, _, rfl⟩ := hv
   refine .inr ⟨g, cap, cur, rfl, h1, h2, by omega, h4, h5, ?_⟩
   rw [← h6, List.take_take, Nat.min_eq_left (Nat.mul_le_mul_right _ hk)]
theorem own_pre {w : World} {B e n cap p : Nat} {ao : Option Addr} {l : List Value} (h : w.ownsRow B e 1 (.slice ao n cap) n l) (hp : p ≤ n) : w.ownsRow B e 1 (.slice ao p cap) p (l.take p) := by
 have := own_tak h p hp
 simpa using this
theorem rev_one {s : List Sv} {a : Sv} {q : Nat} (h : s.length = q) : ((a :: s).reverse.map svv).take q = s.reverse.map svv ∧ ((a :: s).reverse.map svv)[q]? = some (svv a) := by
 rw [sv_rev]
 refine ⟨?_, ?_⟩
 ·rw [List.take_append_of_le_length (by simp; omega)]
  exact List.take_of_length_le (by simp; omega)
 ·rw [List.getElem?_append_right (by simp; omega)]
  simp [h]
theorem rev_two {s : List Sv} {a c : Sv} {q : Nat} (h : s.length = q) : ((c :: a :: s).reverse.map svv).take q = s.reverse.map svv ∧ ((c :: a :: s).reverse.map svv)[q]? = some (svv a) ∧ ((c :: a :: s).reverse.map svv)[q + 1]? = some (svv c) := by
 rw [sv_rev, sv_rev, List.append_assoc]
 refine ⟨?_, ?_, ?_⟩
 ·rw [List.take_append_of_le_length (by simp; omega)]
  exact List.take_of_length_le (by simp; omega)
 ·rw [List.getElem?_append_right (by simp; omega)]
  simp [h]
 ·rw [List.getElem?_append_right (by simp; omega)]
  simp [h]
theorem showExp_any (w : World) (hT : Tbp w) (m : Nat) (v : Value) (l : List Oq) (hr : Rd w 5 m v (ocs l)) (hex : exprF l = 0) (hok : ∀ o ∈ l, OOk o) :
  Calls Tryd.prog 40 #[v] w (ToksIs (exT l) w) := by
 have hml := len_o hr
 obtain ⟨h40, tree, _, htree⟩ := expr_tree hex
 have hpos : 0 < m := by rw [hml, htree]; exact tree.flat_pos
 have hexF : exF 0 l = 0 := by
  unfold exprF at hex
  rw [if_neg (by omega)] at hex
  exact hex
 obtain ⟨b, o, cap, rfl, _, _, hbw, hcell⟩ := ops_of hr hpos
 have hm40 : m ≤ 40 := by omega
 have HC := hid hcell
 have HOK := hid hok
 have HT := hid hT
 have HML := hid hml
 obtain ⟨R, hR⟩ : ∃ R, R = rnF lfS onS twS [] l := ⟨_, rfl⟩
 have HF : Hid (exT l = R.2.headD []) := by show _ = _; rw [hR]; rfl
 have HE0 := hid hexF
 have HR0 := hid hR
 clear hcell hok hT hr hml h40 htree hex hexF hR
 go_enter Tryd.func40, Tryd.ntmps40
 go_wp2_with fail
 go_loopw [3, 9] (fun u i wr => ∃ (k : Nat) (st : List (List Tk)) (xs : List Sv) (q : Nat), k ≤ m ∧ i = .int .i64 (k : Int) ∧ Hid (q = xs.length) ∧ q ≤ k ∧ Hid (wr.ownsRow w.heap.size 35 1 u q (xs.reverse.map svv)) ∧ Hid (RKs w.heap.size wr xs st) ∧ Hid (exF (q : Int) (l.drop k) = 0) ∧ Hid (R = rnF lfS onS twS st (l.drop k)) ∧ Hid (tot st ≤ 4 * k) ∧ Hid (Below w.heap.size w wr)) (fun _ i _ => m - (intOf i).toNat)
 case atStart => exact ⟨0, [], [], 0, by omega, rfl, rfl, by omega, World.ownsRow_nil _ _ _ _, trivial, HE0.out, HR0.out, Nat.le_refl _, Below.refl _ _⟩
 case round =>
  obtain ⟨k, st, xs, q, hk, rfl, HQ, hqk, HU, HKS, HE, HRN, HTO, HB⟩ := hrel
  by_cases hlt : k < m
  ·have hll : k < l.length := by rw [← HML.out]; exact hlt
   have hHC := HC.out k hlt
   have hoo := HOK.out _ (getD_mem hll)
   have hdr := drop_cons hll
   obtain ⟨x, hx⟩ : ∃ x, x = l.getD k noq := ⟨_, rfl⟩
   rw [← hx] at hHC hoo hdr
   obtain ⟨g0, g1, g2, g3, g4⟩ := hHC
   have c0 := (HB.out.cell (p := ⟨b, o + k * 5, none⟩) hbw).trans g0
   have c1 := (HB.out.cell (p := ⟨b, o + k * 5 + 1, none⟩) hbw).trans g1
   have c2 := (HB.out.cell (p := ⟨b, o + k * 5 + 2, none⟩) hbw).trans g2
   have c3 := (HB.out.cell (p := ⟨b, o + k * 5 + 3, none⟩) hbw).trans g3
   have c4 := (HB.out.cell (p := ⟨b, o + k * 5 + 4, none⟩) hbw).trans g4
   have he := HE.out
   rw [hdr] at he
   obtain ⟨hwq, he2⟩ := exF_cons he
   have hrn := HRN.out
   rw [hdr] at hrn
   obtain ⟨hk1, hk11⟩ := opF_kind hoo.1
   obtain ⟨w0, w2⟩ := wks_in x.k
   have HRN2 := hid hrn
   have HE2 := hid he2
   have HOO := hid hoo
   have HBN : Hid (Below w.heap.size w (wr.alloc (.cells #[.int .i64 x.k, .int .i64 x.v.k, .int .i64 x.v.n, .string x.v.t, .string x.t] 54))) := HB.out.alloc HB.out.size _
   obtain ⟨kn, hkn⟩ : ∃ kn : Nat, x.k = (kn : Int) := ⟨x.k.toNat, by omega⟩
   have hwo0 := wo_at (HT.out.b.o.below HBN.out) (k := kn) (by omega) (by omega)
   have hfrm := own_forms HU.out
   have hz := HB.out.size
   have HNEW := hid (fun w2 (hb : Below (wr.alloc (.cells #[.int .i64 x.k, .int .i64 x.v.k, .int .i64 x.v.n, .string x.v.t, .string x.t] 54)).heap.size (wr.alloc (.cells #[.int .i64 x.k, .int .i64 x.v.k, .int .i64 x.v.n, .string x.v.t, .string x.t] 54)) w2) => has5 (new0 wr (.cells #[.int .i64 x.k, .int .i64 x.v.k, .int .i64 x.v.n, .string x.v.t, .string x.t] 54)) hb)
   obtain ⟨W1, hW1⟩ : ∃ W1, W1 = wr.alloc (.cells #[.int .i64 x.k, .int .i64 x.v.k, .int .i64 x.v.n, .string x.v.t, .string x.t] 54) := ⟨_, rfl⟩
   have HB1 : Hid (Below wr.heap.size wr W1) := by show Below _ _ _; rw [hW1]; exact (Below.refl _ _).alloc (Nat.le_refl _) _
   have hsz1 : wr.heap.size < W1.heap.size := by rw [hW1]; simp
   obtain ⟨y0, y1, y2, y3, y4⟩ := HNEW.out W1 (by rw [hW1]; exact Below.refl _ _)
   have HO1 := hid (own_below HU.out HB1.out)
   have HKS1 := hid (HKS.out.mono (fun _ _ h => h.below HB1.out))
   have HBW := hid (into HB.out HB1.out)
   have HW1 := hid hW1
   have hwo : (wr.alloc (.cells #[.int .i64 x.k, .int .i64 x.v.k, .int .i64 x.v.n, .string x.v.t, .string x.t] 54)).cell? ⟨2, kn, none⟩ = some (.int .i64 (wks x.k)) := by rw [hkn]; rw [hkn] at hwo0; exact hwo0
   clear g0 g1 g2 g3 g4 hx hdr he hrn he2 hoo hW1 hwo0 HNEW HE HRN hll HU HKS
   by_cases hw0 : wks x.k = 0
   ·have HRL : Hid (R = rnF lfS onS twS (lfT x :: st) (l.drop (k + 1))) := by
     show _ = _
     rw [HRN2.out, rn_leaf lfS onS twS hw0]
     rfl
    have HSO : Hid (∀ W, Below W1.heap.size W1 W → ∀ on, Calls Tryd.prog 64 #[oqV x, on] W (ToksIs (lfT x) W)) := fun W hW on => showOp_leaf W (HT.out.below (into HBW.out hW)) x HOO.out hw0 on
    have HLN : Hid ((lfT x).length ≤ 2) := lfT_len x
    have HE3 : Hid (exF ((q : Int) + 1) (l.drop (k + 1)) = 0) := by
     show _ = _
     rw [← HE2.out, hw0]
     (congr 1) <;> omega
    rw [hw0] at hwo
    clear hw0 hwq HE2 HRN2 w0 w2
    rcases hfrm with ⟨rfl, rfl⟩ | ⟨g, cp, rfl, hqc, hBg, hgw⟩
    ·obtain ⟨xk, ⟨vk, vn, vt⟩, xt⟩ := x
     simp only at c0 c1 c2 c3 c4 hwo HRL HSO HLN HW1 y0 y1 y2 y3 y4 hkn hk1 hk11 HBN
     subst hkn
     go_wp2_with fail
     rw [← HW1.out]
     change Code.wp _ ((regionOf 6 (Tryd.f40.body.getD .skip)).getD .skip) _ _ _
     refine r6A _ W1 wr.heap.size w.heap.size  hsz1 (by omega) _ _ _ _ _ _ _ (by omega) y0 y1 y2 y3 y4 (fun k e => by simp [Value.ownBlock] at e) HO1 HSO (hid ?_)
     intro e20 e21 e22 e23 e24 e25 e26 e27 e28 e29 xz gg cap1 wz h1 h2 h3 h4
     have H1 := hid h1
     have H2 := hid h2
     have H3 := hid (HBW.out.trans h3)
     have H4 := hid h4
     clear h1 h2 h3 h4 y0 y1 y2 y3 y4 hwo c0 c1 c2 c3 c4
     go_wp2_with fail
     go_roundw
     case rel =>
      refine ⟨k + 1, _ :: st, xz :: xs, 0 + 1, by omega, by go_num, ?_, by omega, ?_, ⟨H1.out, HKS1.out.mono H4.out⟩, ?_, HRL.out, ?_, H3.out⟩
      ·show _ = _
       rw [List.length_cons, ← HQ.out]
      ·show World.ownsRow _ _ _ _ _ _ _
       rw [sv_rev]
       exact H2.out
      ·show _ = _
       have h := HE3.out
       simpa using h
      ·show _ ≤ _
       have hl := HLN.out
       show _ + tot _ ≤ _
       have := HTO.out; omega
     case measure => (simp [intOf]) <;> omega
    ·by_cases hqq : q = cp
     ·subst hqq
      obtain ⟨xk, ⟨vk, vn, vt⟩, xt⟩ := x
      simp only at c0 c1 c2 c3 c4 hwo HRL HSO HLN HW1 y0 y1 y2 y3 y4 hkn hk1 hk11 HBN
      subst hkn
      go_wp2_with fail
      rw [← HW1.out]
      change Code.wp _ ((regionOf 6 (Tryd.f40.body.getD .skip)).getD .skip) _ _ _
      refine r6B _ W1 wr.heap.size w.heap.size g q hsz1 (by omega) _ _ _ _ _ _ _ (by omega) y0 y1 y2 y3 y4 (fun k e => by simp [Value.ownBlock] at e; omega) HO1 HSO (hid ?_)
      intro e20 e21 e22 e23 e24 e25 e26 e27 e28 e29 xz gg cap1 wz h1 h2 h3 h4
      have H1 := hid h1
      have H2 := hid h2
      have H3 := hid (HBW.out.trans h3)
      have H4 := hid h4
      clear h1 h2 h3 h4 y0 y1 y2 y3 y4 hwo c0 c1 c2 c3 c4
      go_wp2_with fail
      go_roundw
      case rel =>
       refine ⟨k + 1, _ :: st, xz :: xs, q + 1, by omega, by go_num, ?_, by omega, ?_, ⟨H1.out, HKS1.out.mono H4.out⟩, ?_, HRL.out, ?_, H3.out⟩
       ·show _ = _
        rw [List.length_cons, ← HQ.out]
       ·show World.ownsRow _ _ _ _ _ _ _
        rw [sv_rev]
        exact H2.out
       ·show _ = _
        have h := HE3.out
        simpa using h
       ·show _ ≤ _
        have hl := HLN.out
        show _ + tot _ ≤ _
        have := HTO.out; omega
      case measure => (simp [intOf]) <;> omega
     ·have j1 : (q : Int) ≤ (cp : Int) := by omega
      have j2 : ¬ cp = q := fun e => hqq e.symm
      have j3 : q < cp := by omega
      obtain ⟨xk, ⟨vk, vn, vt⟩, xt⟩ := x
      simp only at c0 c1 c2 c3 c4 hwo HRL HSO HLN HW1 y0 y1 y2 y3 y4 hkn hk1 hk11 HBN
      subst hkn
      go_wp2_with fail
      rw [← HW1.out]
      change Code.wp _ ((regionOf 6 (Tryd.f40.body.getD .skip)).getD .skip) _ _ _
      refine r6C _ W1 wr.heap.size w.heap.size g q cp (by omega) hqq (fun e => hqq e.symm) (by omega) (by omega) hsz1 (by omega) _ _ _ _ _ _ _ (by omega) y0 y1 y2 y3 y4 (fun k e => by simp [Value.ownBlock] at e; omega) HO1 HSO (hid ?_)
      intro e20 e21 e22 e23 e24 e25 e26 e27 e28 e29 xz gg cap1 wz h1 h2 h3 h4
      have H1 := hid h1
      have H2 := hid h2
      have H3 := hid (HBW.out.trans h3)
      have H4 := hid h4
      clear h1 h2 h3 h4 y0 y1 y2 y3 y4 hwo c0 c1 c2 c3 c4
      go_wp2_with fail
      go_roundw
      case rel =>
       refine ⟨k + 1, _ :: st, xz :: xs, q + 1, by omega, by go_num, ?_, by omega, ?_, ⟨H1.out, HKS1.out.mono H4.out⟩, ?_, HRL.out, ?_, H3.out⟩
       ·show _ = _
        rw [List.length_cons, ← HQ.out]
       ·show World.ownsRow _ _ _ _ _ _ _
        rw [sv_rev]
        exact H2.out
       ·show _ = _
        have h := HE3.out
        simpa using h
       ·show _ ≤ _
        have hl := HLN.out
        show _ + tot _ ≤ _
        have := HTO.out; omega
      case measure => (simp [intOf]) <;> omega
   ·by_cases hw1 : wks x.k = 1
    ·obtain ⟨p, rfl⟩ : ∃ p, q = p + 1 := ⟨q - 1, by omega⟩
     obtain ⟨a, s', hst⟩ : ∃ a s', xs = a :: s' := by
      match xs, HQ.out with
      | a :: s', _ => exact ⟨a, s', rfl⟩
      | [], h => simp at h
     have hsl : s'.length = p := by have := HQ.out; rw [hst] at this; simp at this; omega
     have hps := HKS1.out
     rw [hst] at hps
     obtain ⟨pa, ps', hpt⟩ : ∃ a s', st = a :: s' := by
      match st, hps with
      | a :: s', _ => exact ⟨a, s', rfl⟩
      | [], h => exact h.elim
     rw [hpt] at hps
     have HRL : Hid (R = rnF lfS onS twS (onT x.k pa :: ps') (l.drop (k + 1))) := by
      show _ = _
      rw [HRN2.out, hpt, rn_un lfS onS twS hw1]
      rfl
     have htot := HTO.out
     rw [hpt] at htot
     have htt : pa.length + tot ps' ≤ 4 * k := htot
     have HLN : Hid ((onT x.k pa).length ≤ pa.length + 4) := onT_len _ _
     have HE3 : Hid (exF ((p : Int) + 1) (l.drop (k + 1)) = 0) := by
      show _ = _
      rw [← HE2.out, hw1]
      (congr 1) <;> omega
     obtain ⟨t1, t2⟩ := rev_one (a := a) hsl
     have ho := HO1.out
     rw [hst] at ho
     rcases hfrm with ⟨_, h0⟩ | ⟨g, cp, rfl, hqc, hBg, hgw⟩
     ·omega
     have hop := own_pre ho (show p ≤ p + 1 by omega)
     rw [t1] at hop
     obtain ⟨g', hgg, hcg⟩ := own_cell1 ho t2
     obtain rfl : g = g' := by simpa using hgg
     have HOP := hid hop
     have HSO : Hid (∀ W, Below W1.heap.size W1 W → Calls Tryd.prog 64 #[oqV x, .slice (some ⟨g, p, none⟩) 1 (cp - p)] W (ToksIs (onT x.k pa) W)) := fun W hW => showOp_un W (HT.out.below (into HBW.out hW)) x HOO.out hw1 g p _ a pa (cell_blz hW hcg) _ (hps.1.below hW) (by omega)
     have HPS := hid hps.2
     have HSL := hid hsl
     rw [hw1] at hwo
     clear hw0 hw1 hwq HE2 HRN2 w0 w2 hst hsl hps hpt t1 t2 ho hop hgg hcg htot HQ HO1 HKS1 HTO
     have j1 : (p : Int) ≤ (cp : Int) := by omega
     have j2 : ¬ p = cp := by omega
     have j3 : ¬ cp = p := by omega
     have j4 : (p : Int) + 1 - 1 = (p : Int) := by omega
     have j5 : (p : Int) ≤ (p : Int) + 1 := by omega
     obtain ⟨xk, ⟨vk, vn, vt⟩, xt⟩ := x
     simp only at c0 c1 c2 c3 c4 hwo HRL HSO HLN HW1 y0 y1 y2 y3 y4 hkn hk1 hk11 HBN
     subst hkn
     go_wp2_with fail
     rw [← HW1.out]
     change Code.wp _ ((regionOf 6 (Tryd.f40.body.getD .skip)).getD .skip) _ _ _
     refine r6D _ W1 wr.heap.size w.heap.size g (p + 1) p cp 1 (by omega) (by omega) (by omega) (by omega) (by omega) (by omega) (by omega) hsz1 (by omega) _ _ _ _ _ _ _ (by omega) y0 y1 y2 y3 y4 (fun k e => by simp [Value.ownBlock] at e; omega) HOP HSO (hid ?_)
     intro e20 e21 e22 e23 e24 e25 e26 e27 e28 e29 xz gg cap1 wz h1 h2 h3 h4
     have H1 := hid h1
     have H2 := hid h2
     have H3 := hid (HBW.out.trans h3)
     have H4 := hid h4
     clear h1 h2 h3 h4 y0 y1 y2 y3 y4 hwo c0 c1 c2 c3 c4
     go_wp2_with fail
     go_roundw
     case rel =>
      refine ⟨k + 1, _ :: ps', xz :: s', p + 1, by omega, by go_num, ?_, by omega, ?_, ⟨H1.out, HPS.out.mono H4.out⟩, ?_, HRL.out, ?_, H3.out⟩
      ·show _ = _
       rw [List.length_cons, HSL.out]
      ·show World.ownsRow _ _ _ _ _ _ _
       rw [sv_rev]
       exact H2.out
      ·show _ = _
       have h := HE3.out
       simpa using h
      ·show _ ≤ _
       have hl := HLN.out
       show _ + tot _ ≤ _
       omega
     case measure => (simp [intOf]) <;> omega
    ·have hw2 : wks x.k = 2 := by omega
     obtain ⟨p, rfl⟩ : ∃ p, q = p + 2 := ⟨q - 2, by omega⟩
     obtain ⟨a, c, s', hst⟩ : ∃ a c s', xs = c :: a :: s' := by
      match xs, HQ.out with
      | c :: a :: s', _ => exact ⟨a, c, s', rfl⟩
      | [], h => simp at h
      | [_], h => simp at h
     have hsl : s'.length = p := by have := HQ.out; rw [hst] at this; simp at this; omega
     have hps := HKS1.out
     rw [hst] at hps
     obtain ⟨pc, pa, ps', hpt⟩ : ∃ c a s', st = c :: a :: s' := by
      match st, hps with
      | c :: a :: s', _ => exact ⟨c, a, s', rfl⟩
      | [], h => exact h.elim
      | [_], h => exact h.2.elim
     rw [hpt] at hps
     have HRL : Hid (R = rnF lfS onS twS (twT x.k pa pc :: ps') (l.drop (k + 1))) := by
      show _ = _
      rw [HRN2.out, hpt, rn_bi lfS onS twS hw2]
      rfl
     have htot := HTO.out
     rw [hpt] at htot
     have htt : pc.length + (pa.length + tot ps') ≤ 4 * k := htot
     have HLN : Hid ((twT x.k pa pc).length = pa.length + pc.length + 3) := twT_len _ _ _
     have HE3 : Hid (exF ((p : Int) + 1) (l.drop (k + 1)) = 0) := by
      show _ = _
      rw [← HE2.out, hw2]
      (congr 1) <;> omega
     obtain ⟨t1, t2, t3⟩ := rev_two (a := a) (c := c) hsl
     have ho := HO1.out
     rw [hst] at ho
     rcases hfrm with ⟨_, h0⟩ | ⟨g, cp, rfl, hqc, hBg, hgw⟩
     ·omega
     have hop := own_pre ho (show p ≤ p + 2 by omega)
     rw [t1] at hop
     obtain ⟨g', hgg, hcg⟩ := own_cell1 ho t2
     obtain rfl : g = g' := by simpa using hgg
     obtain ⟨g', hgg, hcg1⟩ := own_cell1 ho t3
     obtain rfl : g = g' := by simpa using hgg
     have HOP := hid hop
     have HSO : Hid (∀ W, Below W1.heap.size W1 W → Calls Tryd.prog 64 #[oqV x, .slice (some ⟨g, p, none⟩) 2 (cp - p)] W (ToksIs (twT x.k pa pc) W)) := fun W hW => showOp_bi W (HT.out.below (into HBW.out hW)) x HOO.out hw2 g p _ a c pa pc (cell_blz hW hcg) (cell_blz hW hcg1) _ (hps.2.1.below hW) (hps.1.below hW) (by omega) (by omega)
     have HPS := hid hps.2.2
     have HSL := hid hsl
     rw [hw2] at hwo
     clear hw0 hw1 hw2 hwq HE2 HRN2 w0 w2 hst hsl hps hpt t1 t2 t3 ho hop hgg hcg hcg1 htot HQ HO1 HKS1 HTO
     have j1 : (p : Int) ≤ (cp : Int) := by omega
     have j2 : ¬ p = cp := by omega
     have j3 : ¬ cp = p := by omega
     have j4 : (p : Int) + 2 - 2 = (p : Int) := by omega
     have j5 : (p : Int) ≤ (p : Int) + 2 := by omega
     obtain ⟨xk, ⟨vk, vn, vt⟩, xt⟩ := x
     simp only at c0 c1 c2 c3 c4 hwo HRL HSO HLN HW1 y0 y1 y2 y3 y4 hkn hk1 hk11 HBN
     subst hkn
     go_wp2_with fail
     rw [← HW1.out]
     change Code.wp _ ((regionOf 6 (Tryd.f40.body.getD .skip)).getD .skip) _ _ _
     refine r6D _ W1 wr.heap.size w.heap.size g (p + 2) p cp 2 (by omega) (by omega) (by omega) (by omega) (by omega) (by omega) (by omega) hsz1 (by omega) _ _ _ _ _ _ _ (by omega) y0 y1 y2 y3 y4 (fun k e => by simp [Value.ownBlock] at e; omega) HOP HSO (hid ?_)
     intro e20 e21 e22 e23 e24 e25 e26 e27 e28 e29 xz gg cap1 wz h1 h2 h3 h4
     have H1 := hid h1
     have H2 := hid h2
     have H3 := hid (HBW.out.trans h3)
     have H4 := hid h4
     clear h1 h2 h3 h4 y0 y1 y2 y3 y4 hwo c0 c1 c2 c3 c4
     go_wp2_with fail
     go_roundw
     case rel =>
      refine ⟨k + 1, _ :: ps', xz :: s', p + 1, by omega, by go_num, ?_, by omega, ?_, ⟨H1.out, HPS.out.mono H4.out⟩, ?_, HRL.out, ?_, H3.out⟩
      ·show _ = _
       rw [List.length_cons, HSL.out]
      ·show World.ownsRow _ _ _ _ _ _ _
       rw [sv_rev]
       exact H2.out
      ·show _ = _
       have h := HE3.out
       simpa using h
      ·show _ ≤ _
       have hl := HLN.out
       show _ + tot _ ≤ _
       omega
     case measure => (simp [intOf]) <;> omega
  ·obtain rfl : k = m := by omega
   have he := HE.out
   rw [List.drop_eq_nil_of_le (by rw [← HML.out]; exact Nat.le_refl _)] at he
   have h1 : q = 1 := by
    unfold exF at he
    split at he <;> omega
   subst h1
   obtain ⟨y, rfl⟩ : ∃ x, xs = [x] := by
    match xs, HQ.out with
    | [x], _ => exact ⟨x, rfl⟩
    | [], h => simp at h
    | _ :: _ :: _, h => simp at h
   obtain ⟨py, rfl⟩ : ∃ p, st = [p] := by
    match st, HKS.out with
    | [p], _ => exact ⟨p, rfl⟩
    | [], h => exact h.elim
    | _ :: _ :: _, h => exact h.2.elim
   have hu := HU.out
   rcases own_forms hu with ⟨_, h0⟩ | ⟨g, cp, rfl, _, _, _⟩
   ·omega
   obtain ⟨g', hgg, hg0⟩ := own_cell1 (j := 0) (x := svv y) hu rfl
   obtain rfl : g = g' := by simpa using hgg
   have HZ : Hid (exT l = py) := by
    show _ = _
    rw [HF.out, HRN.out, List.drop_eq_nil_of_le (by rw [← HML.out]; exact Nat.le_refl _)]
    rfl
   have HRK := hid HKS.out.1
   obtain ⟨ya, yn, yc⟩ := y
   simp only [svv] at hg0
   clear he HE HRN hu HU HKS HQ hgg
   go_wp2_with fail
   go_ret
   rw [HZ.out]
   refine ⟨_, rfl, ?_, HB.out⟩
   exact HRK.out
end Go.Proofs.YtdeollmeljaaoaaDoor.cs

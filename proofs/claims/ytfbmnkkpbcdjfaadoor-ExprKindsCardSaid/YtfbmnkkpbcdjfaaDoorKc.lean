/- The kind of an expression: the document, whole. -/
import Derived.Test.YtfbmnkkpbcdjfaaDoorKb
import Derived.Test.YtfbmnkkpbcdjfaaDoorQp
import Derived.Test.YtfbmnkkpbcdjfaaDoorYd
namespace Go.Proofs.YtfbmnkkpbcdjfaaDoor
open Go.ChangeShapes Go.WideShapes Go.ChangeAt Go.RowKit
set_option linter.unusedVariables false
set_option linter.unusedSimpArgs false
set_option maxHeartbeats 4000000
set_option maxRecDepth 100000
theorem dkindOf_any : ∀ (t : Tx), t.ok → t.flat.length ≤ 1000 → ∀ (w : World) (n : Nat) (v u : Value) (l : List Cq), Rd w 2 n v (ccs l) → Rd w 5 t.flat.length u (ocs t.flat) →
    Calls Tryd.prog 27 #[v, u] w (LeafIs (evT (lfK l) onK twK t) w)
  | .leaf o, ht, _, w, n, v, u, l, hr, hu => kd_leaf w n v u l o ht hr hu
  | .un o a, ht, hm, w, n, v, u, l, hr, hu => by
    have hl : (Tx.un o a).flat.length = a.flat.length + 1 := by simp [Tx.flat]
    rw [hl] at hm hu
    exact kd_un w n (a.flat.length + 1) v u l o a ht.1 rfl hm hr hu fun W u' hW hu' => dkindOf_any a ht.2.2 (by omega) W n v u' l (hr.below hW) hu'
  | .bi o a b, ht, hm, w, n, v, u, l, hr, hu => by
    have hl : (Tx.bi o a b).flat.length = a.flat.length + b.flat.length + 1 := by simp [Tx.flat]; omega
    rw [hl] at hm hu
    exact kd_bi w n (a.flat.length + b.flat.length + 1) v u l o a b ht.1 ht.2.2.2 rfl hm hr hu (fun W u' hW hu' => dkindOf_any a ht.2.2.1 (by omega) W n v u' l (hr.below hW) hu') fun W u' hW hu' => dkindOf_any b ht.2.2.2 (by omega) W n v u' l (hr.below hW) hu'
/-- What both are refused for. -/
def coF (l : List Cq) (ops : List Oq) : Int := if colsF l ≠ 0 then colsF l else exprF ops
theorem colsAndOps_any (w : World) (n m : Nat) (v u : Value) (l : List Cq) (ops : List Oq) (hr : Rd w 2 n v (ccs l)) (hs : ∀ c ∈ l, c.t.size ≤ maxLen) (hu : Rd w 5 m u (ocs ops)) (hos : ∀ o ∈ ops, o.t.size ≤ maxLen) :
    Calls Tryd.prog 26 #[v, u] w fun e w' => e = .returned (.int .i64 (coF l ops)) ∧ Below w.heap.size w w' := by
  have HC := Lib.hid (colsFault_any w n v l hr hs)
  have HE := Lib.hid (fun (W : World) (h : Below w.heap.size w W) => rexpr_any W m u ops (hu.below h) hos)
  have hF : coF l ops = if colsF l ≠ 0 then colsF l else exprF ops := rfl
  obtain ⟨q, hq⟩ : ∃ q, q = colsF l := ⟨_, rfl⟩
  obtain ⟨x, hx⟩ : ∃ x, x = exprF ops := ⟨_, rfl⟩
  rw [← hq] at HC hF
  rw [← hx] at HE hF
  have HF := Lib.hid hF
  clear hF hr hs hu hos hq hx
  by_cases h0 : q = 0
  · subst h0
    go_enter Tryd.func26, Tryd.ntmps26
    go_wp2_with fail
    refine HC.out.mono ?_
    rintro e w1 ⟨rfl, hb1⟩
    have HB1 := Lib.hid hb1
    clear hb1
    go_wp2_with fail
    refine (HE.out _ HB1.out).mono ?_
    rintro e w2 ⟨rfl, hb2⟩
    have HB2 := Lib.hid (into HB1.out hb2)
    clear hb2
    go_wp2_with fail
    go_returns
    rw [HF.out]
    exact ⟨rfl, HB2.out⟩
  · have b1 : (q == 0) = false := by simpa using h0
    have HZ : Hid (coF l ops = q) := Lib.hid (by rw [HF.out, if_pos h0])
    go_enter Tryd.func26, Tryd.ntmps26
    go_wp2_with fail
    refine HC.out.mono ?_
    rintro e w1 ⟨rfl, hb1⟩
    have HB1 := Lib.hid hb1
    clear hb1
    go_wp2_with fail
    go_returns
    rw [HZ.out]
    exact ⟨rfl, HB1.out⟩
theorem dKindOf_any (w : World) (n m : Nat) (v u : Value) (l : List Cq) (ops : List Oq) (hr : Rd w 2 n v (ccs l)) (hs : ∀ c ∈ l, c.t.size ≤ maxLen) (hu : Rd w 5 m u (ocs ops)) (hos : ∀ o ∈ ops, o.t.size ≤ maxLen) :
    Calls Tryd.prog 10 #[v, u] w fun e w' => e = .returned (.tuple #[.int .i64 (kindF l ops).2, .int .i64 (kindF l ops).1]) ∧ Below w.heap.size w w' := by
  have hml := len_o hu
  have HC := Lib.hid (colsAndOps_any w n m v u l ops hr hs hu hos)
  by_cases h0 : coF l ops = 0
  · have h1 : colsF l = 0 := by
      by_cases h : colsF l = 0
      · exact h
      · unfold coF at h0; rw [if_pos h] at h0; exact h0
    have h2 : exprF ops = 0 := by unfold coF at h0; rw [if_neg (by simpa using h1)] at h0; exact h0
    obtain ⟨hl40, t, ht, rfl⟩ := expr_tree h2
    have hk := kindF_tree (l := l) ht h1 h2
    rw [hml] at hu
    have HD := Lib.hid (fun (W : World) (h : Below w.heap.size w W) => dkindOf_any t ht (by omega) W n v u l (hr.below h) (hu.below h))
    obtain ⟨R, hR⟩ : ∃ R, R = evT (lfK l) onK twK t := ⟨_, rfl⟩
    have hz := evK_zero l t
    rw [← hR] at hz hk HD
    have hk2 : kindF l t.flat = R := by
      rw [hk]
      by_cases h : R.1 = 0
      · rw [if_neg (by simpa using h)]
      · rw [if_pos h, ← hz h]
    obtain ⟨r1, r2⟩ := R
    rw [h0] at HC
    have HK := Lib.hid hk2
    unfold LeafIs at HD
    clear h0 h1 h2 hk hk2 hz hR hr hs hu hos ht hl40 hml
    go_enter Tryd.func10, Tryd.ntmps10
    go_wp2_with fail
    refine HC.out.mono ?_
    rintro e w1 ⟨rfl, hb1⟩
    have HB1 := Lib.hid hb1
    clear hb1
    go_wp2_with fail
    refine (HD.out _ HB1.out).mono ?_
    rintro e w2 ⟨rfl, hb2⟩
    have HB2 := Lib.hid (into HB1.out hb2)
    clear hb2
    go_wp2_with fail
    go_returns
    rw [HK.out]
    exact ⟨rfl, HB2.out⟩
  · have hk : kindF l ops = (coF l ops, 0) := by
      unfold kindF coF at *
      by_cases h : colsF l = 0
      · rw [if_neg (by simpa using h)] at h0
        rw [if_neg (by simpa using h), if_pos h0, if_neg (by simpa using h)]
      · rw [if_pos h, if_pos h]
    obtain ⟨q, hq⟩ : ∃ q, q = coF l ops := ⟨_, rfl⟩
    rw [← hq] at HC hk h0
    have b1 : (q == 0) = false := by simpa using h0
    have b2 : (q != 0) = true := by simpa using h0
    have HK := Lib.hid hk
    clear h0 hk hq hr hs hu hos hml
    go_enter Tryd.func10, Tryd.ntmps10
    go_wp2_with fail
    refine HC.out.mono ?_
    rintro e w1 ⟨rfl, hb1⟩
    have HB1 := Lib.hid hb1
    clear hb1
    go_wp2_with fail
    go_returns
    rw [HK.out]
    exact ⟨rfl, HB1.out⟩
end Go.Proofs.YtfbmnkkpbcdjfaaDoor

import Derived.Test.YtdeollmeljaaoaaDoorBpk
import Derived.Test.YtdeollmeljaaoaaDoorSak
set_option linter.unusedVariables false
set_option linter.unusedSimpArgs false
set_option linter.unusedSectionVars false
set_option maxHeartbeats 400000
set_option maxRecDepth 100000
open Go.ChangeAt Go.ChangeShapes Go.RowKit Go.WideShapes
namespace Go.Proofs.YtdeollmeljaaoaaDoor.rd
open Go.Proofs.YtdeollmeljaaoaaDoor.cs
theorem lit_ok (n : Int) (k : Int) (h : (k = 0 ∧ n = 0) ∨ (k = 1 ∧ (n = 0 ∨ n = 1)) ∨ (k = 2 ∧ -9223372036854775807 ≤ n)) : Go.Proofs.YtdeollmeljaaoaaDoor.litF k n ⟨#[]⟩ = 0 := by
 have hz : (⟨#[]⟩ : ByteArray).size = 0 := rfl
 unfold Go.Proofs.YtdeollmeljaaoaaDoor.litF chk
 rw [if_neg (by omega), if_neg (by omega), if_neg (by omega), if_neg, if_neg (by rw [hz]; omega)]
 intro e
 rcases e with e | e
 ·exact e.2 e_list
 ·unfold nmb at e
  rcases h with ⟨rfl, rfl⟩ | ⟨rfl, rfl | rfl⟩ | ⟨rfl, _⟩ <;> simp at e
theorem str_ok (l : List UInt8) (h : l.length ≤ 20) : Go.Proofs.YtdeollmeljaaoaaDoor.litF 3 0 ⟨l.toArray⟩ = 0 := by
 have hz : (⟨l.toArray⟩ : ByteArray).size = l.length := by simp [ByteArray.size]
 unfold Go.Proofs.YtdeollmeljaaoaaDoor.litF chk
 rw [if_neg (by omega), if_neg (by omega), if_neg (by omega), if_neg, if_neg (by rw [hz]; omega)]
 intro e
 rcases e with e | e
 ·exact e.1 rfl
 ·simp [nmb] at e
theorem row_snoc : ∀ (l : List V) (v : V), rowL l = 0 → Go.Proofs.YtdeollmeljaaoaaDoor.litF v.k v.n v.t = 0 → rowL (l ++ [v]) = 0
 | [], v, h, hv => by
  show rowL [v] = 0
  unfold rowL
  rw [if_neg (by rw [hv]; simp)]
  rfl
 | d :: l, v, h, hv => by
  show rowL (d :: (l ++ [v])) = 0
  unfold rowL at h ⊢
  split at h
  ·omega
  ·rename_i g
   rw [if_neg g]
   exact row_snoc l v h hv
theorem em0 : em ⟨#[]⟩ = true := by
 unfold em
 rw [e_list]
 rfl
theorem nm_full {t : ByteArray} (h : nmF t.data.toList = 0) : em t = false := by
 cases e : em t with
 | false => rfl
 | true =>
  rw [em_nil e] at h
  exact absurd h (by decide)
theorem st0_of {s : Sq} (h1 : 1 ≤ s.k) (h9 : s.k ≤ 9) (ht : tabF s = 0) (hp : partsF s = 0) (hm : moreF s = false) : st0 s = 0 := by
 unfold st0 f3
 rw [if_neg (by omega), ht, hp, hm]
 simp
open Go.Proofs.YtdeollmeljaaoaaDoor.cs
def VB (v : V) : Prop := -9223372036854775807 ≤ v.n ∧ v.n ≤ 9223372036854775807
def OB (l : List Oq) : Prop := ∀ o ∈ l, VB o.v
theorem wf_vb {v : V} (h : VB v) : (Lit.int .i64 v.n).wf = true := by
 obtain ⟨h1, h2⟩ := h
 simp [Lit.wf, IntKind.min, IntKind.max, IntKind.signed, IntKind.bits]
 omega
theorem nm_sz {t : ByteArray} (h : nmF t.data.toList = 0) : t.size ≤ 8 := by
 unfold nmF at h
 split at h
 ·omega
 ·have : t.data.toList.length = t.size := Array.length_toList
  omega
theorem em_sz {t : ByteArray} (h : t = ⟨#[]⟩) : t.size ≤ 8 := by
 subst h
 show (0 : Nat) ≤ 8
 omega
theorem lit_sz {v : V} (h : Go.Proofs.YtdeollmeljaaoaaDoor.litF v.k v.n v.t = 0) : v.t.size ≤ 20 := by
 unfold Go.Proofs.YtdeollmeljaaoaaDoor.litF chk at h
 repeat' split at h
 all_goals omega
theorem op_sz {o : Oq} (h : opF o.k o.v.k o.v.n o.v.t o.t = 0) : o.v.t.size ≤ 20 ∧ o.t.size ≤ 8 := by
 unfold opF at h
 split at h
 ·omega
 ·split at h
  ·omega
  ·rename_i hl
   refine ⟨lit_sz (v := o.v) (by simpa using hl), ?_⟩
   split at h
   ·omega
   ·rename_i h3
    split at h
    ·exact nm_sz h
    ·rename_i h2
     refine em_sz (empty_of ?_)
     cases e : o.t.toList with
     | nil => rfl
     | cons a l => exact absurd (Or.inr ⟨h2, by simp [e]⟩) h3
theorem ex_sz {l : List Oq} (h : exprF l = 0) : l.length ≤ 40 ∧ ∀ o ∈ l, o.v.t.size ≤ 20 ∧ o.t.size ≤ 8 := by
 obtain ⟨h1, t, h2, rfl⟩ := expr_tree h
 exact ⟨h1, fun o ho => op_sz (Tx.ok_mem h2 o ho)⟩
theorem whx_sz {l : List Oq} (h : whF l = 0) : l.length ≤ 40 ∧ ∀ o ∈ l, o.v.t.size ≤ 20 ∧ o.t.size ≤ 8 := by
 unfold whF at h
 split at h
 ·rename_i h0
  have : l = [] := List.length_eq_zero_iff.1 h0
  subst this
  exact ⟨by simp, fun o ho => by simp at ho⟩
 ·exact ex_sz h
structure Few (s : Sq) : Prop where
 t : s.t.size ≤ 8
 o : s.ord.size ≤ 8
 e : s.st.size ≤ 8
 c : s.cols.length ≤ 6 ∧ ∀ o ∈ s.cols, o.t.size ≤ 8
 r : s.row.length ≤ 6 ∧ ∀ o ∈ s.row, o.t.size ≤ 20
 n : s.names.length ≤ 6 ∧ ∀ o ∈ s.names, o.size ≤ 8
 h : s.wh.length ≤ 40 ∧ ∀ o ∈ s.wh, o.v.t.size ≤ 20 ∧ o.t.size ≤ 8
 x : s.to.length ≤ 40 ∧ ∀ o ∈ s.to, o.v.t.size ≤ 20 ∧ o.t.size ≤ 8
theorem few_of {s : Sq} (h : st0 s = 0) : Few s := by
 obtain ⟨k1, k9, ht, hp, hm⟩ := st0_ok h
 obtain ⟨m0, m1, m2, m3, m4, m5⟩ := more_ok hm
 have q0 : ∀ {l : List Oq}, l = [] → l.length ≤ 40 ∧ ∀ o ∈ l, o.v.t.size ≤ 20 ∧ o.t.size ≤ 8 := fun e => by
  subst e
  exact ⟨by simp, fun o ho => by simp at ho⟩
 unfold tabF at ht
 unfold partsF at hp
 refine ⟨?_, ?_, ?_, ?_, ?_, ?_, ?_, ?_⟩
 ·by_cases k6 : s.k ≤ 6
  ·rw [if_pos k6] at ht
   exact nm_sz ht
  ·exact em_sz (m0 (by omega))
 ·by_cases k4 : s.k = 4
  ·rw [if_neg (by omega), if_neg (by omega), if_pos k4] at hp
   have := (sel_zero hp).2.2.2.2.2.2
   unfold ordF at this
   split at this
   ·rename_i he
    exact em_sz (em_nil he)
   ·exact nm_sz this
  ·exact em_sz (m3 k4).2.2.1
 ·by_cases k5 : s.k = 5
  ·rw [if_neg (by omega), if_neg (by omega), if_neg (by omega), if_pos k5] at hp
   exact nm_sz (f3_zero hp).1
  ·exact em_sz (m4 k5).1
 ·by_cases k1 : s.k = 1
  ·rw [if_pos k1] at hp
   obtain ⟨g1, g2, g3⟩ := colsF_ok hp
   exact ⟨g3, fun o ho => nm_sz (g1 o ho).1⟩
  ·rw [m1 k1]
   exact ⟨by simp, fun o ho => by simp at ho⟩
 ·by_cases k3 : s.k = 3
  ·rw [if_neg (by omega), if_pos k3] at hp
   unfold insF at hp
   split at hp
   ·omega
   ·refine ⟨by omega, fun o ho => ?_⟩
    obtain ⟨a, b, e⟩ := List.append_of_mem ho
    rw [e] at hp
    exact lit_sz (row_at a o b hp)
  ·rw [m2 k3]
   exact ⟨by simp, fun o ho => by simp at ho⟩
 ·by_cases k4 : s.k = 4
  ·rw [if_neg (by omega), if_neg (by omega), if_pos k4] at hp
   obtain ⟨g1, _, _, _, g5, _⟩ := sel_zero hp
   refine ⟨g1, fun o ho => ?_⟩
   obtain ⟨a, b, e⟩ := List.append_of_mem ho
   rw [e] at g5
   exact nm_sz (nms_at a o b g5)
  ·rw [(m3 k4).1]
   exact ⟨by simp, fun o ho => by simp at ho⟩
 ·by_cases k4 : s.k = 4
  ·rw [if_neg (by omega), if_neg (by omega), if_pos k4] at hp
   exact whx_sz (sel_zero hp).2.2.2.2.2.1
  ·by_cases k5 : s.k = 5
   ·rw [if_neg (by omega), if_neg (by omega), if_neg (by omega), if_pos k5] at hp
    exact whx_sz (f3_zero hp).2.2
   ·by_cases k6 : s.k = 6
    ·rw [if_neg (by omega), if_neg (by omega), if_neg (by omega), if_neg (by omega), if_pos k6] at hp
     exact whx_sz hp
    ·exact q0 (m5 k4 k5 k6)
 ·by_cases k5 : s.k = 5
  ·rw [if_neg (by omega), if_neg (by omega), if_neg (by omega), if_pos k5] at hp
   exact ex_sz (f3_zero hp).2.1
  ·exact q0 (m4 k5).2
theorem Few.s {s : Sq} (h : Few s) : SqS s :=
 ⟨by have := h.t; omega, by have := h.o; omega, by have := h.e; omega, by have := h.c.1; omega, by have := h.r.1; omega, by have := h.n.1; omega, by have := h.h.1; omega, by have := h.x.1; omega⟩
theorem Few.z {s : Sq} (h : Few s) (hr : ∀ v ∈ s.row, VB v) (hw : OB s.wh) (hx : OB s.to) : SqZ s :=
 have m : 20 ≤ maxLen := by unfold maxLen; omega
 ⟨by have := h.t; omega, by have := h.o; omega, by have := h.e; omega, fun o ho => by have := h.c.2 o ho; omega, fun o ho => ⟨wf_vb (hr o ho), by have := h.r.2 o ho; omega⟩, fun o ho => by have := h.n.2 o ho; omega,
  fun o ho => ⟨wf_vb (hw o ho), by have := h.h.2 o ho; omega, by have := h.h.2 o ho; omega⟩, fun o ho => ⟨wf_vb (hx o ho), by have := h.x.2 o ho; omega, by have := h.x.2 o ho; omega⟩⟩
end Go.Proofs.YtdeollmeljaaoaaDoor.rd
namespace Go.Proofs.YtdeollmeljaaoaaDoor
def pck (n m : Int) : Int := (if n < 0 then -(n + 1) else n) % m
def Rn (n : Int) : Prop := -9223372036854775808 ≤ n ∧ n ≤ 9223372036854775807
theorem rn_of {n : Int} (h : (Lit.int .i64 n).wf = true) : Rn n := by
 simp [Lit.wf, IntKind.min, IntKind.max, IntKind.signed, IntKind.bits] at h
 exact ⟨by omega, by omega⟩
theorem pck_any (n m : Int) (w : World) (wn : Rn n) (h1 : 1 ≤ m) (h2 : m ≤ 4611686018427387904) :
  Calls Tryd.prog 14 #[.int .i64 n, .int .i64 m] w fun e w' => e = .returned (.int .i64 (pck n m)) ∧ w = w' := by
 have hm0 : (m == 0) = false := by simp; omega
 have hm1 : (m == -1) = false := by simp; omega
 by_cases h : n < 0
 ·go_enter Tryd.func14, Tryd.ntmps14
  go_wp2
  go_ret
  refine ⟨ri ?_, rfl⟩
  unfold Rn at wn
  show (wrap64 (-wrap64 (n + 1))).tmod m = pck n m
  have e1 : wrap64 (-wrap64 (n + 1)) = -(n + 1) := by unfold wrap64; omega
  rw [e1, Int.tmod_eq_emod_of_nonneg (by omega)]
  simp [pck, h]
 ·have h' : 0 ≤ n := by omega
  go_enter Tryd.func14, Tryd.ntmps14
  go_wp2
  go_ret
  refine ⟨ri ?_, rfl⟩
  show n % m = pck n m
  rw [pck, if_neg (by omega)]
theorem pck_in (n m : Int) (h : 1 ≤ m) : 0 ≤ pck n m ∧ pck n m < m := by
 unfold pck
 exact ⟨Int.emod_nonneg _ (by omega), Int.emod_lt_of_pos _ (by omega)⟩
end Go.Proofs.YtdeollmeljaaoaaDoor

import Derived.Test.YtdeollmeljaaoaaDoorBsk
import Derived.Test.YtdeollmeljaaoaaDoorGwk
/- The sizes of what is parsed. Plain. -/
namespace Go.Proofs.YtdeollmeljaaoaaDoor.rd
open Go.Proofs.YtdeollmeljaaoaaDoor.cs
set_option linter.unusedVariables false
set_option linter.unusedSimpArgs false
set_option linter.unusedSectionVars false
set_option maxRecDepth 100000
def VB (v : V) : Prop := -9223372036854775807 ≤ v.n ∧ v.n ≤ 9223372036854775807
def OB (l : List Oq) : Prop := ∀ o ∈ l, VB o.v
theorem OB.snoc {l : List Oq} {o : Oq} (h : OB l) (ho : VB o.v) : OB (l ++ [o]) := fun x hx => by
  rcases List.mem_append.1 hx with hx | hx
  · exact h x hx
  · simp only [List.mem_singleton] at hx
    subst hx
    exact ho
theorem vb0 : VB v0 := ⟨by decide, by decide⟩
/-- A reader puts values of 64 bits. -/
def Pv (r : R) : Prop := ∀ j os j2 o2, r j os = .inr (j2, o2) → OB os → OB o2
theorem pv_put {o : Oq} (ho : VB o.v) : Pv (putF o) := fun j os j2 o2 h hb => by
  obtain ⟨_, _, rfl⟩ := put_in h
  exact hb.snoc ho
theorem pv_loop {L : List Tk} {th : R} (ht : Pv th) (ks : List Nat) : ∀ f, Pv (loopC L th ks f)
  | 0 => fun j os j2 o2 h hb => by
    cases h
    exact hb
  | f + 1 => fun j os j2 o2 h hb => by
    unfold loopC at h
    split at h
    · cases h
      exact hb
    · obtain ⟨x, e1, h⟩ := bd_ok h
      obtain ⟨y, e2, h⟩ := bd_ok h
      exact pv_loop ht ks f _ _ _ _ h (pv_put (o := opO _) vb0 _ _ y.1 y.2 e2 (ht _ _ x.1 x.2 e1 hb))
theorem pv_chain {L : List Tk} {th : R} (ht : Pv th) (ks : List Nat) : Pv (chainF L th ks) := fun j os j2 o2 h hb => by
  obtain ⟨x, e1, h⟩ := bd_ok h
  exact pv_loop ht ks _ _ _ _ _ h (ht _ _ x.1 x.2 e1 hb)
theorem pv_den {L : List Tk} {th : R} (ht : Pv th) : ∀ f, Pv (deniedF L th f)
  | 0 => ht
  | f + 1 => fun j os j2 o2 h hb => by
    unfold deniedF at h
    split at h
    · obtain ⟨x, e1, h⟩ := bd_ok h
      exact pv_put (o := opO 5) vb0 _ _ _ _ h (pv_den ht f _ _ x.1 x.2 e1 hb)
    · exact ht _ _ _ _ h hb
theorem pv_compare (q : Nat) (nt : Bool) : Pv (compareF q nt) := fun j os j2 o2 h hb => by
  rw [compare_in h]
  refine fun o ho => ?_
  simp only [List.mem_append] at ho
  rcases ho with (ho | ho) | ho
  · exact hb o ho
  · simp only [List.mem_singleton] at ho
    subst ho
    exact vb0
  · split at ho
    · simp only [List.mem_singleton] at ho
      subst ho
      exact vb0
    · simp at ho
theorem pv_turn {a b : Nat} {os : List Oq} (h : OB os) : OB (turnF a b os) := fun o ho => by
  unfold turnF at ho
  simp only [List.mem_append] at ho
  rcases ho with ho | ho | ho
  · exact h o (List.mem_of_mem_take ho)
  · exact h o (List.mem_of_mem_drop ho)
  · exact h o (List.mem_of_mem_take (List.mem_of_mem_drop ho))
theorem pv_comparison {L : List Tk} {n : Nat} {sm : R} (hs : Pv sm) : Pv (comparisonF L n sm) := fun j os j2 o2 h hb => by
  unfold comparisonF at h
  obtain ⟨x, e1, h⟩ := bd_ok h
  have hx := hs _ _ x.1 x.2 e1 hb
  split at h
  · unfold isF at h
    split at h
    · split at h
      · exact pv_compare _ _ _ _ _ _ h hx
      · cases h
    · split at h
      · exact pv_compare _ _ _ _ _ _ h hx
      · cases h
  · split at h
    · cases h
      exact hx
    · obtain ⟨y, e2, h⟩ := bd_ok h
      have hy := hs _ _ y.1 y.2 e2 hx
      refine pv_compare _ _ _ _ _ _ h ?_
      split
      · exact pv_turn hy
      · exact hy
theorem lit_vb {L : List Tk} {n k : Nat} (hb : TkB L) {v : V} {j2 : Nat} (h : litG L n k = .inr (some v, j2)) : VB v := by
  unfold litG at h
  repeat' split at h
  all_goals (try cases h)
  · exact vb0
  · exact ⟨by dsimp only; decide, by dsimp only; decide⟩
  · exact ⟨by dsimp only; decide, by dsimp only; decide⟩
  · rename_i h5
    have h1 := (hb (k + 1)).1 h5
    have h2 := (hb (k + 1)).2
    exact ⟨by dsimp only; omega, by dsimp only; omega⟩
  · rename_i h5
    have h1 := (hb k).1 h5
    have h2 := (hb k).2
    exact ⟨by dsimp only; omega, by dsimp only; omega⟩
  · exact ⟨by dsimp only; decide, by dsimp only; decide⟩
theorem pv_leaf {L : List Tk} {n : Nat} (hb : TkB L) : Pv (leafF L n) := fun j os j2 o2 h ho => by
  unfold leafF at h
  obtain ⟨⟨ov, jx⟩, e1, h⟩ := bd_ok h
  cases ov with
  | some v => exact pv_put (o := ⟨1, v, ⟨#[]⟩⟩) (lit_vb hb e1) _ _ _ _ h ho
  | none =>
    obtain ⟨y, e2, h⟩ := bd_ok h
    exact pv_put (o := ⟨2, v0, y.1⟩) vb0 _ _ _ _ h ho
theorem pv_thing {L : List Tk} {n : Nat} (hb : TkB L) {E : R} (he : Pv E) : Pv (thingF L n E) := fun j os j2 o2 h ho => by
  unfold thingF at h
  split at h
  · obtain ⟨x, e1, h⟩ := bd_ok h
    split at h
    · cases h
      exact he _ _ x.1 x.2 e1 ho
    · cases h
  · exact pv_leaf hb _ _ _ _ h ho
theorem pv_eithD {L : List Tk} {n : Nat} (hb : TkB L) : ∀ d, Pv (eithD L n d)
  | 0 => fun j os j2 o2 h ho => by
    cases h
    exact ho
  | d + 1 => pv_chain (pv_chain (pv_den (pv_comparison (pv_chain (pv_chain (pv_thing hb (pv_eithD hb d)) _) _)) _) _) _
theorem exp_vb {L : List Tk} {n : Nat} (hb : TkB L) {j j2 : Nat} {o2 : List Oq} (h : expF L n j = .inr (j2, o2)) : OB o2 := pv_eithD hb _ j [] j2 o2 h fun o ho => by simp at ho
theorem wh_vb {L : List Tk} {n : Nat} (hb : TkB L) {j j2 : Nat} {o2 : List Oq} (h : whereF L n j = .inr (j2, o2)) : OB o2 := by
  unfold whereF at h
  split at h
  · exact exp_vb hb h
  · cases h
    exact fun o ho => by simp at ho
theorem row_vb {L : List Tk} (hb : TkB L) {n j j2 : Nat} {s2 : List V} (h : listF L (valF L n) j [] = .inr (j2, s2)) : ∀ v ∈ s2, VB v :=
  (list_sd (I := fun l => ∀ v ∈ l, VB v) (fun j s j2 s2 hi h => by
    unfold valF at h
    obtain ⟨⟨ov, jx⟩, e1, h⟩ := bd_ok h
    cases ov with
    | none => cases h
    | some v =>
      cases h
      refine ⟨fun x hx => ?_, by simp⟩
      rcases List.mem_append.1 hx with hx | hx
      · exact hi x hx
      · simp only [List.mem_singleton] at hx
        subst hx
        exact lit_vb hb e1) (fun v hv => by simp at hv) h).1
theorem part_vb {L : List Tk} (hb : TkB L) {n j2 : Nat} {s2 : Sq} (h : partF L n sq0 = .inr (j2, s2)) : (∀ v ∈ s2.row, VB v) ∧ OB s2.wh ∧ OB s2.to := by
  have r0 : ∀ v ∈ sq0.row, VB v := fun v hv => by simp [sq0] at hv
  have o0 : OB ([] : List Oq) := fun o ho => by simp at ho
  unfold partF at h
  repeat' split at h
  · unfold createF at h
    obtain ⟨i1, e1, h⟩ := bd_ok h
    obtain ⟨⟨t, i2⟩, e2, h⟩ := bd_ok h
    obtain ⟨i3, e3, h⟩ := bd_ok h
    obtain ⟨⟨i4, cs⟩, e4, h⟩ := bd_ok h
    obtain ⟨i5, e5, h⟩ := bd_ok h
    cases h
    exact ⟨r0, o0, o0⟩
  · unfold dropF at h
    obtain ⟨i1, e1, h⟩ := bd_ok h
    obtain ⟨⟨t, i2⟩, e2, h⟩ := bd_ok h
    cases h
    exact ⟨r0, o0, o0⟩
  · unfold insertF at h
    obtain ⟨i1, e1, h⟩ := bd_ok h
    obtain ⟨⟨t, i2⟩, e2, h⟩ := bd_ok h
    obtain ⟨i3, e3, h⟩ := bd_ok h
    obtain ⟨⟨i4, cs⟩, e4, h⟩ := bd_ok h
    obtain ⟨i5, e5, h⟩ := bd_ok h
    cases h
    exact ⟨row_vb hb e4, o0, o0⟩
  · unfold chooseF at h
    obtain ⟨⟨i1, hd⟩, e1, h⟩ := bd_ok h
    obtain ⟨i2, e2, h⟩ := bd_ok h
    obtain ⟨⟨t, i3⟩, e3, h⟩ := bd_ok h
    obtain ⟨⟨i4, wh⟩, e4, h⟩ := bd_ok h
    obtain ⟨⟨i5, od⟩, e5, h⟩ := bd_ok h
    obtain ⟨⟨i6, lm⟩, e6, h⟩ := bd_ok h
    cases h
    exact ⟨r0, wh_vb hb e4, o0⟩
  · unfold updateF at h
    obtain ⟨⟨t, i1⟩, e1, h⟩ := bd_ok h
    obtain ⟨i2, e2, h⟩ := bd_ok h
    obtain ⟨⟨u, i3⟩, e3, h⟩ := bd_ok h
    obtain ⟨i4, e4, h⟩ := bd_ok h
    obtain ⟨⟨i5, tz⟩, e5, h⟩ := bd_ok h
    obtain ⟨⟨i6, wh⟩, e6, h⟩ := bd_ok h
    cases h
    exact ⟨r0, wh_vb hb e6, exp_vb hb e5⟩
  · unfold deleteF at h
    obtain ⟨i1, e1, h⟩ := bd_ok h
    obtain ⟨⟨t, i2⟩, e2, h⟩ := bd_ok h
    obtain ⟨⟨i3, wh⟩, e3, h⟩ := bd_ok h
    cases h
    exact ⟨r0, wh_vb hb e3, o0⟩
  all_goals (cases h; exact ⟨r0, o0, o0⟩)
theorem wf_vb {v : V} (h : VB v) : (Lit.int .i64 v.n).wf = true := by
  obtain ⟨h1, h2⟩ := h
  simp [Lit.wf, IntKind.min, IntKind.max, IntKind.signed, IntKind.bits]
  omega
theorem nm_sz {t : ByteArray} (h : nmF t.data.toList = 0) : t.size ≤ 8 := by
  unfold nmF at h
  split at h
  · omega
  · have : t.data.toList.length = t.size := Array.length_toList
    omega
theorem em_sz {t : ByteArray} (h : t = ⟨#[]⟩) : t.size ≤ 8 := by
  subst h
  show (0 : Nat) ≤ 8
  omega
theorem lit_sz {v : V} (h : Go.Proofs.YtdeollmeljaaoaaDoor.litF v.k v.n v.t = 0) : v.t.size ≤ 20 := by
  unfold Go.Proofs.YtdeollmeljaaoaaDoor.litF chk at h
  repeat' split at h
  all_goals omega
theorem op_sz {o : Oq} (h : opF o.k o.v.k o.v.n o.v.t o.t = 0) : o.v.t.size ≤ 20 ∧ o.t.size ≤ 8 := by
  unfold opF at h
  split at h
  · omega
  · split at h
    · omega
    · rename_i hl
      refine ⟨lit_sz (v := o.v) (by simpa using hl), ?_⟩
      split at h
      · omega
      · rename_i h3
        split at h
        · exact nm_sz h
        · rename_i h2
          refine em_sz (empty_of ?_)
          cases e : o.t.toList with
          | nil => rfl
          | cons a l => exact absurd (Or.inr ⟨h2, by simp [e]⟩) h3
theorem ex_sz {l : List Oq} (h : exprF l = 0) : l.length ≤ 40 ∧ ∀ o ∈ l, o.v.t.size ≤ 20 ∧ o.t.size ≤ 8 := by
  obtain ⟨h1, t, h2, rfl⟩ := expr_tree h
  exact ⟨h1, fun o ho => op_sz (Tx.ok_mem h2 o ho)⟩
theorem whx_sz {l : List Oq} (h : whF l = 0) : l.length ≤ 40 ∧ ∀ o ∈ l, o.v.t.size ≤ 20 ∧ o.t.size ≤ 8 := by
  unfold whF at h
  split at h
  · rename_i h0
    have : l = [] := List.length_eq_zero_iff.1 h0
    subst this
    exact ⟨by simp, fun o ho => by simp at ho⟩
  · exact ex_sz h
/-- A statement that may be is small. -/
structure Few (s : Sq) : Prop where
  t : s.t.size ≤ 8
  o : s.ord.size ≤ 8
  e : s.st.size ≤ 8
  c : s.cols.length ≤ 6 ∧ ∀ o ∈ s.cols, o.t.size ≤ 8
  r : s.row.length ≤ 6 ∧ ∀ o ∈ s.row, o.t.size ≤ 20
  n : s.names.length ≤ 6 ∧ ∀ o ∈ s.names, o.size ≤ 8
  h : s.wh.length ≤ 40 ∧ ∀ o ∈ s.wh, o.v.t.size ≤ 20 ∧ o.t.size ≤ 8
  x : s.to.length ≤ 40 ∧ ∀ o ∈ s.to, o.v.t.size ≤ 20 ∧ o.t.size ≤ 8
theorem few_of {s : Sq} (h : st0 s = 0) : Few s := by
  obtain ⟨k1, k9, ht, hp, hm⟩ := st0_ok h
  obtain ⟨m0, m1, m2, m3, m4, m5⟩ := more_ok hm
  have q0 : ∀ {l : List Oq}, l = [] → l.length ≤ 40 ∧ ∀ o ∈ l, o.v.t.size ≤ 20 ∧ o.t.size ≤ 8 := fun e => by
    subst e
    exact ⟨by simp, fun o ho => by simp at ho⟩
  unfold tabF at ht
  unfold partsF at hp
  refine ⟨?_, ?_, ?_, ?_, ?_, ?_, ?_, ?_⟩
  · by_cases k6 : s.k ≤ 6
    · rw [if_pos k6] at ht
      exact nm_sz ht
    · exact em_sz (m0 (by omega))
  · by_cases k4 : s.k = 4
    · rw [if_neg (by omega), if_neg (by omega), if_pos k4] at hp
      have := (sel_zero hp).2.2.2.2.2.2
      unfold ordF at this
      split at this
      · rename_i he
        exact em_sz (em_nil he)
      · exact nm_sz this
    · exact em_sz (m3 k4).2.2.1
  · by_cases k5 : s.k = 5
    · rw [if_neg (by omega), if_neg (by omega), if_neg (by omega), if_pos k5] at hp
      exact nm_sz (f3_zero hp).1
    · exact em_sz (m4 k5).1
  · by_cases k1 : s.k = 1
    · rw [if_pos k1] at hp
      obtain ⟨g1, g2, g3⟩ := colsF_ok hp
      exact ⟨g3, fun o ho => nm_sz (g1 o ho).1⟩
    · rw [m1 k1]
      exact ⟨by simp, fun o ho => by simp at ho⟩
  · by_cases k3 : s.k = 3
    · rw [if_neg (by omega), if_pos k3] at hp
      unfold insF at hp
      split at hp
      · omega
      · refine ⟨by omega, fun o ho => ?_⟩
        obtain ⟨a, b, e⟩ := List.append_of_mem ho
        rw [e] at hp
        exact lit_sz (row_at a o b hp)
    · rw [m2 k3]
      exact ⟨by simp, fun o ho => by simp at ho⟩
  · by_cases k4 : s.k = 4
    · rw [if_neg (by omega), if_neg (by omega), if_pos k4] at hp
      obtain ⟨g1, _, _, _, g5, _⟩ := sel_zero hp
      refine ⟨g1, fun o ho => ?_⟩
      obtain ⟨a, b, e⟩ := List.append_of_mem ho
      rw [e] at g5
      exact nm_sz (nms_at a o b g5)
    · rw [(m3 k4).1]
      exact ⟨by simp, fun o ho => by simp at ho⟩
  · by_cases k4 : s.k = 4
    · rw [if_neg (by omega), if_neg (by omega), if_pos k4] at hp
      exact whx_sz (sel_zero hp).2.2.2.2.2.1
    · by_cases k5 : s.k = 5
      · rw [if_neg (by omega), if_neg (by omega), if_neg (by omega), if_pos k5] at hp
        exact whx_sz (f3_zero hp).2.2
      · by_cases k6 : s.k = 6
        · rw [if_neg (by omega), if_neg (by omega), if_neg (by omega), if_neg (by omega), if_pos k6] at hp
          exact whx_sz hp
        · exact q0 (m5 k4 k5 k6)
  · by_cases k5 : s.k = 5
    · rw [if_neg (by omega), if_neg (by omega), if_neg (by omega), if_pos k5] at hp
      exact ex_sz (f3_zero hp).2.1
    · exact q0 (m4 k5).2
theorem Few.s {s : Sq} (h : Few s) : SqS s :=
  ⟨by have := h.t; omega, by have := h.o; omega, by have := h.e; omega, by have := h.c.1; omega, by have := h.r.1; omega, by have := h.n.1; omega, by have := h.h.1; omega, by have := h.x.1; omega⟩
theorem Few.z {s : Sq} (h : Few s) (hr : ∀ v ∈ s.row, VB v) (hw : OB s.wh) (hx : OB s.to) : SqZ s :=
  have m : 20 ≤ maxLen := by unfold maxLen; omega
  ⟨by have := h.t; omega, by have := h.o; omega, by have := h.e; omega, fun o ho => by have := h.c.2 o ho; omega, fun o ho => ⟨wf_vb (hr o ho), by have := h.r.2 o ho; omega⟩, fun o ho => by have := h.n.2 o ho; omega,
    fun o ho => ⟨wf_vb (hw o ho), by have := h.h.2 o ho; omega, by have := h.h.2 o ho; omega⟩, fun o ho => ⟨wf_vb (hx o ho), by have := h.x.2 o ho; omega, by have := h.x.2 o ho; omega⟩⟩
/-- What is parsed may be, and is small; what is not is told by its place. -/
theorem parse_fix {L : List Tk} (hl : L.length < 9223372036854775807) (hz : ∀ k, (L.getD k tk0).n ≤ 9223372036854775807) : (∃ s, parseF L = (s, 0, 0) ∧ st0 s = 0 ∧ SqZ s ∧ SqS s) ∨ ∃ i e, parseF L = (sqz, i, e) ∧ e ≠ 0 ∧ 0 ≤ i ∧ i ≤ (L.length : Int) := by
  rcases parse_all hl hz with ⟨s, h1, h2⟩ | h
  · left
    refine ⟨s, h1, h2, ?_, (few_of h2).s⟩
    unfold parseF at h1
    split at h1
    · cases h1
    · split at h1
      · rename_i x hb
        exact absurd (congrArg (·.2.2) h1) (bad_at L 0 x hb).2.2
      · rename_i hb
        have hk : TksOk L := fun t ht => bad_none L 0 hb t ht
        split at h1
        · rename_i f hs
          exact absurd (congrArg (·.2.2) h1) (gd_stmt hs).2.2
        · rename_i s' hs
          cases h1
          unfold stmtF at hs
          obtain ⟨x, e1, e2⟩ := bd_ok hs
          split at e2
          · cases e2
          · cases e2
            obtain ⟨g1, g2, g3⟩ := part_vb (tkB_of hk hz) e1
            exact (few_of h2).z g1 g2 g3
  · exact .inr h
end Go.Proofs.YtdeollmeljaaoaaDoor.rd
/- The tokens of what is shown are small; limits. Plain. -/
namespace Go.Proofs.YtdeollmeljaaoaaDoor.rd
open Go.Proofs.YtdeollmeljaaoaaDoor.cs
set_option linter.unusedVariables false
set_option linter.unusedSimpArgs false
set_option maxRecDepth 100000
abbrev TkZ (t : Tk) : Prop := t.t.length ≤ 20 ∧ t.n ≤ 9223372036854775807
def TksZ (l : List Tk) : Prop := ∀ t ∈ l, TkZ t
theorem TksZ.nil : TksZ [] := fun t h => by simp at h
theorem TksZ.cons {t : Tk} {l : List Tk} (h : TkZ t) (hl : TksZ l) : TksZ (t :: l) := fun x hx => by
  rcases List.mem_cons.1 hx with rfl | hx
  · exact h
  · exact hl x hx
theorem TksZ.app {l m : List Tk} (h : TksZ l) (hm : TksZ m) : TksZ (l ++ m) := fun x hx => by
  rcases List.mem_append.1 hx with hx | hx
  · exact h x hx
  · exact hm x hx
theorem z_nm {t : ByteArray} (h : nmF t.data.toList = 0) : TkZ (ptk t) := by
  have := nm_sz h
  have hs : t.data.toList.length = t.size := Array.length_toList
  exact ⟨by show t.data.toList.length ≤ 20; omega, by show (0 : Int) ≤ _; omega⟩
theorem z_num {x : Int} (h : x ≤ 9223372036854775807) : TkZ ⟨2, [], x⟩ := ⟨by show (0 : Nat) ≤ 20; omega, h⟩
theorem z_str {l : List UInt8} (h : l.length ≤ 20) : TkZ ⟨3, l, 0⟩ := ⟨h, by show (0 : Int) ≤ _; omega⟩
theorem z_val {v : V} (h : Go.Proofs.YtdeollmeljaaoaaDoor.litF v.k v.n v.t = 0) (hb : (Lit.int .i64 v.n).wf = true) : TksZ (valT v) := by
  have h1 := rn_of hb
  unfold Rn at h1
  have h2 : ¬ (v.k = 2 ∧ v.n = -9223372036854775808) := fun e => by
    unfold Go.Proofs.YtdeollmeljaaoaaDoor.litF at h
    rw [if_pos e] at h
    omega
  have h3 : v.t.data.toList.length = v.t.size := Array.length_toList
  have h4 := lit_sz h
  unfold valT
  split
  · exact TksZ.nil.cons (z_str (by omega))
  · split
    · split
      · exact (TksZ.nil.cons (z_num (by omega))).cons (by decide)
      · exact TksZ.nil.cons (z_num (by omega))
    · split
      · exact TksZ.nil.cons (by decide)
      · split
        · exact TksZ.nil.cons (by decide)
        · exact TksZ.nil.cons (by decide)
theorem z_leaf {o : Oq} (hb : (Lit.int .i64 o.v.n).wf = true) (hw : wks o.k = 0) (h : opF o.k o.v.k o.v.n o.v.t o.t = 0) : TksZ (lfT o) := by
  have hk : o.k = 1 ∨ o.k = 2 := by
    unfold wks at hw
    split at hw
    · assumption
    · split at hw <;> omega
  unfold opF at h
  split at h
  · omega
  · split at h
    · omega
    · rename_i hl
      split at h
      · omega
      · unfold lfT
        rcases hk with hk | hk
        · rw [if_pos hk]
          exact z_val (by simpa using hl) hb
        · rw [if_neg (by omega)]
          rw [if_pos hk] at h
          exact TksZ.nil.cons (z_nm h)
theorem z_tree : ∀ t : Tx, t.ok → (∀ o ∈ t.flat, (Lit.int .i64 o.v.n).wf = true) → TksZ (shX t)
  | .leaf o, h, hb => z_leaf (hb o (by simp [Tx.flat])) h.1 h.2
  | .un o a, h, hb => by
    have := z_tree a h.2.2 fun x hx => hb x (by simp [Tx.flat, hx])
    unfold shX onT
    split
    · exact TksZ.app (TksZ.cons (by decide) (TksZ.cons (by decide) TksZ.nil)) (this.app (TksZ.cons (by decide) TksZ.nil))
    · exact TksZ.app (TksZ.cons (by decide) TksZ.nil) (this.app (TksZ.cons (by decide) (TksZ.cons (by decide) (TksZ.cons (by decide) TksZ.nil))))
  | .bi o a b, h, hB => by
    obtain ⟨hw, hf, hta, htb⟩ := h
    have ha := z_tree a hta fun x hx => hB x (by simp [Tx.flat, hx])
    have hb := z_tree b htb fun x hx => hB x (by simp [Tx.flat, hx])
    have hk : o.k ≠ 1 ∧ o.k ≠ 2 ∧ o.k ≠ 5 ∧ o.k ≠ 11 := by
      unfold wks at hw
      split at hw
      · omega
      · split at hw <;> omega
    obtain ⟨q, rfl, hq1, hq2⟩ := op_nul hf (by omega) (by omega)
    have hk : q = 3 ∨ q = 4 ∨ q = 6 ∨ q = 7 ∨ q = 8 ∨ q = 9 ∨ q = 10 := by simp only [opO] at hk; omega
    have hs : TkZ (ptk (sgT q)) := by rcases hk with rfl | rfl | rfl | rfl | rfl | rfl | rfl <;> decide
    exact TksZ.app (TksZ.cons (by decide) TksZ.nil) (ha.app (TksZ.app (TksZ.cons hs TksZ.nil) (hb.app (TksZ.cons (by decide) TksZ.nil))))
theorem z_exp {l : List Oq} (h : exprF l = 0) (hb : ∀ o ∈ l, (Lit.int .i64 o.v.n).wf = true) : TksZ (exT l) := by
  obtain ⟨h1, t, h2, rfl⟩ := expr_tree h
  rw [exT_tree h2]
  exact z_tree t h2 hb
theorem z_wh {l : List Oq} (h : whF l = 0) (hb : ∀ o ∈ l, (Lit.int .i64 o.v.n).wf = true) : TksZ (whT l) := by
  unfold whT
  unfold whF at h
  by_cases h0 : l.length = 0
  · rw [if_pos h0]; exact TksZ.nil
  · rw [if_neg h0] at h ⊢
    exact TksZ.app (TksZ.cons (by decide) TksZ.nil) (z_exp h hb)
theorem z_btw {α : Type} {f : α → List Tk} : ∀ {l : List α}, (∀ x ∈ l, TksZ (f x)) → TksZ (btw comma f l)
  | [], _ => TksZ.nil
  | x :: r, h => by
    unfold btw
    refine (h x (by simp)).app fun t ht => ?_
    obtain ⟨y, hy, hm⟩ := List.mem_flatMap.1 ht
    rcases List.mem_append.1 hm with hm | hm
    · simp only [comma, List.mem_singleton] at hm
      subst hm
      decide
    · exact h y (by simp [hy]) t hm
theorem z_shown {s : Sq} (h : st0 s = 0) (hz : SqZ s) (hl : s.lim ≤ 9223372036854775807) : TksZ (shT s) := by
  obtain ⟨k1, k9, ht, hp, hm⟩ := st0_ok h
  unfold tabF at ht
  unfold partsF at hp
  unfold shT
  by_cases e1 : s.k = 1
  · rw [if_pos (by omega)] at ht
    rw [if_pos e1] at hp ⊢
    unfold crT
    refine TksZ.app (TksZ.cons (by decide) (TksZ.cons (by decide) (TksZ.cons (z_nm ht) (TksZ.cons (by decide) TksZ.nil)))) ((z_btw fun c hc => ?_).app (TksZ.cons (by decide) TksZ.nil))
    obtain ⟨g, _⟩ := colsF_ok hp
    obtain ⟨g1, g2, g3⟩ := g c hc
    refine TksZ.cons (z_nm g1) (TksZ.cons ?_ TksZ.nil)
    obtain ⟨ct, ck⟩ := c
    dsimp only at g2 g3 ⊢
    have : ck = 1 ∨ ck = 2 ∨ ck = 3 := by omega
    rcases this with rfl | rfl | rfl <;> decide
  · rw [if_neg e1] at hp ⊢
    by_cases e2 : s.k = 2
    · rw [if_pos (by omega)] at ht
      rw [if_pos e2]
      exact TksZ.cons (by decide) (TksZ.cons (by decide) (TksZ.cons (z_nm ht) TksZ.nil))
    · rw [if_neg e2]
      by_cases e3 : s.k = 3
      · rw [if_pos (by omega)] at ht
        rw [if_pos e3] at hp ⊢
        unfold insF at hp
        split at hp
        · omega
        · refine TksZ.app (TksZ.cons (by decide) (TksZ.cons (by decide) (TksZ.cons (z_nm ht) (TksZ.cons (by decide) (TksZ.cons (by decide) TksZ.nil))))) ((z_btw fun v hv => ?_).app (TksZ.cons (by decide) TksZ.nil))
          obtain ⟨a, b, e⟩ := List.append_of_mem hv
          rw [e] at hp
          exact z_val (row_at a v b hp) (hz.r v hv).1
      · rw [if_neg e3] at hp ⊢
        by_cases e4 : s.k = 4
        · rw [if_pos (by omega)] at ht
          rw [if_pos e4] at hp ⊢
          obtain ⟨h1, h2, h3, h4, h5, h6, h7⟩ := sel_zero hp
          unfold selT midT
          refine ((TksZ.app (TksZ.app (TksZ.cons (by decide) TksZ.nil) ?_) ((z_btw fun v hv => ?_).app (TksZ.app (TksZ.cons (by decide) (TksZ.cons (z_nm ht) TksZ.nil)) (z_wh h6 fun o ho => (hz.h o ho).1)))).app ?_).app ?_ |>.app ?_
          · unfold whatT
            split
            · exact TksZ.cons (by decide) (TksZ.cons (by decide) (TksZ.cons (by decide) (TksZ.cons (by decide) TksZ.nil)))
            · split
              · exact TksZ.cons (by decide) TksZ.nil
              · exact TksZ.nil
          · obtain ⟨a, b, e⟩ := List.append_of_mem hv
            rw [e] at h5
            exact TksZ.cons (z_nm (nms_at a v b h5)) TksZ.nil
          · unfold ordT
            unfold ordF at h7
            split
            · exact TksZ.nil
            · rename_i he
              rw [if_neg he] at h7
              exact TksZ.cons (by decide) (TksZ.cons (by decide) (TksZ.cons (z_nm h7) TksZ.nil))
          · unfold dnT
            split
            · exact TksZ.cons (by decide) TksZ.nil
            · exact TksZ.nil
          · unfold limT
            split
            · exact TksZ.cons (by decide) (TksZ.cons (z_num hl) TksZ.nil)
            · exact TksZ.nil
        · rw [if_neg e4] at hp ⊢
          by_cases e5 : s.k = 5
          · rw [if_pos (by omega)] at ht
            rw [if_pos e5] at hp ⊢
            obtain ⟨p1, p2, p3⟩ := f3_zero hp
            exact TksZ.app (TksZ.cons (by decide) (TksZ.cons (z_nm ht) (TksZ.cons (by decide) (TksZ.cons (z_nm p1) (TksZ.cons (by decide) TksZ.nil))))) ((z_exp p2 fun o ho => (hz.x o ho).1).app (z_wh p3 fun o ho => (hz.h o ho).1))
          · rw [if_neg e5] at hp ⊢
            by_cases e6 : s.k = 6
            · rw [if_pos (by omega)] at ht
              rw [if_pos e6] at hp ⊢
              exact TksZ.app (TksZ.cons (by decide) (TksZ.cons (by decide) (TksZ.cons (z_nm ht) TksZ.nil))) (z_wh hp fun o ho => (hz.h o ho).1)
            · rw [if_neg e6]
              split
              · exact TksZ.cons (by decide) TksZ.nil
              · split
                · exact TksZ.cons (by decide) TksZ.nil
                · exact TksZ.cons (by decide) TksZ.nil
theorem z_at {L : List Tk} (h : TksZ L) : ∀ k, (L.getD k tk0).t.length ≤ maxLen ∧ (L.getD k tk0).n ≤ 9223372036854775807 := fun k => by
  have m : 20 ≤ maxLen := by unfold maxLen; omega
  by_cases hk : k < L.length
  · have := h (L.getD k tk0) (by rw [List.getD, List.getElem?_eq_getElem hk]; exact List.getElem_mem hk)
    exact ⟨by omega, this.2⟩
  · rw [show L.getD k tk0 = tk0 by simp [List.getD, List.getElem?_eq_none (show L.length ≤ k by omega)]]
    exact ⟨by show (0 : Nat) ≤ _; omega, by show (0 : Int) ≤ _; omega⟩
theorem lim_vb {L : List Tk} (hb : TkB L) {n j j2 : Nat} {o2 : Int} (h : limitF L n j = .inr (j2, o2)) : o2 ≤ 9223372036854775807 := by
  unfold limitF numG at h
  split at h
  · obtain ⟨x, e1, h⟩ := bd_ok h
    split at e1
    · cases e1
      cases h
      exact (hb (j + 1)).2
    · cases e1
  · cases h
    decide
theorem part_lim {L : List Tk} (hb : TkB L) {n j2 : Nat} {s2 : Sq} (h : partF L n sq0 = .inr (j2, s2)) : s2.lim ≤ 9223372036854775807 := by
  have l0 : sq0.lim ≤ 9223372036854775807 := by decide
  unfold partF at h
  repeat' split at h
  · unfold createF at h
    obtain ⟨i1, e1, h⟩ := bd_ok h
    obtain ⟨⟨t, i2⟩, e2, h⟩ := bd_ok h
    obtain ⟨i3, e3, h⟩ := bd_ok h
    obtain ⟨⟨i4, cs⟩, e4, h⟩ := bd_ok h
    obtain ⟨i5, e5, h⟩ := bd_ok h
    cases h
    exact l0
  · unfold dropF at h
    obtain ⟨i1, e1, h⟩ := bd_ok h
    obtain ⟨⟨t, i2⟩, e2, h⟩ := bd_ok h
    cases h
    exact l0
  · unfold insertF at h
    obtain ⟨i1, e1, h⟩ := bd_ok h
    obtain ⟨⟨t, i2⟩, e2, h⟩ := bd_ok h
    obtain ⟨i3, e3, h⟩ := bd_ok h
    obtain ⟨⟨i4, cs⟩, e4, h⟩ := bd_ok h
    obtain ⟨i5, e5, h⟩ := bd_ok h
    cases h
    exact l0
  · unfold chooseF at h
    obtain ⟨⟨i1, hd⟩, e1, h⟩ := bd_ok h
    obtain ⟨i2, e2, h⟩ := bd_ok h
    obtain ⟨⟨t, i3⟩, e3, h⟩ := bd_ok h
    obtain ⟨⟨i4, wh⟩, e4, h⟩ := bd_ok h
    obtain ⟨⟨i5, od⟩, e5, h⟩ := bd_ok h
    obtain ⟨⟨i6, lm⟩, e6, h⟩ := bd_ok h
    cases h
    exact lim_vb hb e6
  · unfold updateF at h
    obtain ⟨⟨t, i1⟩, e1, h⟩ := bd_ok h
    obtain ⟨i2, e2, h⟩ := bd_ok h
    obtain ⟨⟨u, i3⟩, e3, h⟩ := bd_ok h
    obtain ⟨i4, e4, h⟩ := bd_ok h
    obtain ⟨⟨i5, tz⟩, e5, h⟩ := bd_ok h
    obtain ⟨⟨i6, wh⟩, e6, h⟩ := bd_ok h
    cases h
    exact l0
  · unfold deleteF at h
    obtain ⟨i1, e1, h⟩ := bd_ok h
    obtain ⟨⟨t, i2⟩, e2, h⟩ := bd_ok h
    obtain ⟨⟨i3, wh⟩, e3, h⟩ := bd_ok h
    cases h
    exact l0
  all_goals (cases h; exact l0)
/-- WHAT IS PARSED: it may be, is small, and so are its tokens. -/
theorem parse_pin {L : List Tk} (hl : L.length < 9223372036854775807) (hz : ∀ k, (L.getD k tk0).n ≤ 9223372036854775807) : (∃ s, parseF L = (s, 0, 0) ∧ st0 s = 0 ∧ SqZ s ∧ SqS s ∧ TksZ (shT s)) ∨ ∃ i e, parseF L = (sqz, i, e) ∧ e ≠ 0 ∧ 0 ≤ i ∧ i ≤ (L.length : Int) := by
  rcases parse_fix hl hz with ⟨s, h1, h2, h3, h4⟩ | h
  · left
    refine ⟨s, h1, h2, h3, h4, z_shown h2 h3 ?_⟩
    unfold parseF at h1
    split at h1
    · cases h1
    · split at h1
      · rename_i x hb
        exact absurd (congrArg (·.2.2) h1) (bad_at L 0 x hb).2.2
      · rename_i hb
        have hk : TksOk L := fun t ht => bad_none L 0 hb t ht
        split at h1
        · rename_i f hs
          exact absurd (congrArg (·.2.2) h1) (gd_stmt hs).2.2
        · rename_i s' hs
          cases h1
          unfold stmtF at hs
          obtain ⟨x, e1, e2⟩ := bd_ok hs
          split at e2
          · cases e2
          · cases e2
            exact part_lim (tkB_of hk hz) e1
  · exact .inr h
theorem st_cases {s : Sq} (h : st0 s = 0) : (stF s = 0 ∧ (shT s).length ≤ 100) ∨ (stF s = 10 ∧ 100 < (shT s).length) := by
  unfold stF
  rw [if_neg (by simpa using h)]
  split
  · exact .inr ⟨rfl, by assumption⟩
  · exact .inl ⟨rfl, by omega⟩
end Go.Proofs.YtdeollmeljaaoaaDoor.rd

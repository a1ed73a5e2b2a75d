import Derived.Test.YtdeollmeljaaoaaDoorBsk
import Derived.Test.YtdeollmeljaaoaaDoorUfk
import Derived.Lib.Strings
import Derived.Test.YtdeollmeljaaoaaDoorUbk
import Derived.Test.YtdeollmeljaaoaaDoorSak
import Derived.Deep.Slices
import Derived.Deep.Fields
import Derived.SizedLaws
set_option linter.unusedVariables false
set_option linter.unusedSimpArgs false
set_option maxHeartbeats 400000
set_option maxRecDepth 100000
open Go Go.ChangeAt Go.ChangeShapes Go.Deep Go.RowKit Go.WideShapes
namespace Go.Proofs.YtdeollmeljaaoaaDoor.rd
open Go.Proofs.YtdeollmeljaaoaaDoor.cs
abbrev TkZ (t : Tk) : Prop := t.t.length ≤ 20 ∧ t.n ≤ 9223372036854775807
def TksZ (l : List Tk) : Prop := ∀ t ∈ l, TkZ t
theorem TksZ.nil : TksZ [] := fun t h => by simp at h
theorem TksZ.cons {t : Tk} {l : List Tk} (h : TkZ t) (hl : TksZ l) : TksZ (t :: l) := fun x hx => by
 rcases List.mem_cons.1 hx with rfl | hx
 ·exact h
 ·exact hl x hx
theorem TksZ.app {l m : List Tk} (h : TksZ l) (hm : TksZ m) : TksZ (l ++ m) := fun x hx => by
 rcases List.mem_append.1 hx with hx | hx
 ·exact h x hx
 ·exact hm x hx
theorem z_nm {t : ByteArray} (h : nmF t.data.toList = 0) : TkZ (ptk t) := by
 have := nm_sz h
 have hs : t.data.toList.length = t.size := Array.length_toList
 exact ⟨by show t.data.toList.length ≤ 20; omega, by show (0 : Int) ≤ _; omega⟩
theorem z_num {x : Int} (h : x ≤ 9223372036854775807) : TkZ ⟨2, [], x⟩ := ⟨by show (0 : Nat) ≤ 20; omega, h⟩
theorem z_str {l : List UInt8} (h : l.length ≤ 20) : TkZ ⟨3, l, 0⟩ := ⟨h, by show (0 : Int) ≤ _; omega⟩
theorem z_val {v : V} (h : Go.Proofs.YtdeollmeljaaoaaDoor.litF v.k v.n v.t = 0) (hb : (Lit.int .i64 v.n).wf = true) : TksZ (valT v) := by
 have h1 := rn_of hb
 unfold Rn at h1
 have h2 : ¬ (v.k = 2 ∧ v.n = -9223372036854775808) := fun e => by
  unfold Go.Proofs.YtdeollmeljaaoaaDoor.litF at h
  rw [if_pos e] at h
  omega
 have h3 : v.t.data.toList.length = v.t.size := Array.length_toList
 have h4 := lit_sz h
 unfold valT
 split
 ·exact TksZ.nil.cons (z_str (by omega))
 ·split
  ·split
   ·exact (TksZ.nil.cons (z_num (by omega))).cons (by decide)
   ·exact TksZ.nil.cons (z_num (by omega))
  ·split
   ·exact TksZ.nil.cons (by decide)
   ·split
    ·exact TksZ.nil.cons (by decide)
    ·exact TksZ.nil.cons (by decide)
theorem z_leaf {o : Oq} (hb : (Lit.int .i64 o.v.n).wf = true) (hw : wks o.k = 0) (h : opF o.k o.v.k o.v.n o.v.t o.t = 0) : TksZ (lfT o) := by
 have hk : o.k = 1 ∨ o.k = 2 := by
  unfold wks at hw
  split at hw
  ·assumption
  ·split at hw <;> omega
 unfold opF at h
 split at h
 ·omega
 ·split at h
  ·omega
  ·rename_i hl
   split at h
   ·omega
   ·unfold lfT
    rcases hk with hk | hk
    ·rw [if_pos hk]
     exact z_val (by simpa using hl) hb
    ·rw [if_neg (by omega)]
     rw [if_pos hk] at h
     exact TksZ.nil.cons (z_nm h)
theorem z_tree : ∀ t : Tx, t.ok → (∀ o ∈ t.flat, (Lit.int .i64 o.v.n).wf = true) → TksZ (shX t)
 | .leaf o, h, hb => z_leaf (hb o (by simp [Tx.flat])) h.1 h.2
 | .un o a, h, hb => by
  have := z_tree a h.2.2 fun x hx => hb x (by simp [Tx.flat, hx])
  unfold shX onT
  split
  ·exact TksZ.app (TksZ.cons (by decide) (TksZ.cons (by decide) TksZ.nil)) (this.app (TksZ.cons (by decide) TksZ.nil))
  ·exact TksZ.app (TksZ.cons (by decide) TksZ.nil) (this.app (TksZ.cons (by decide) (TksZ.cons (by decide) (TksZ.cons (by decide) TksZ.nil))))
 | .bi o a b, h, hB => by
  obtain ⟨hw, hf, hta, htb⟩ := h
  have ha := z_tree a hta fun x hx => hB x (by simp [Tx.flat, hx])
  have hb := z_tree b htb fun x hx => hB x (by simp [Tx.flat, hx])
  have hk : o.k ≠ 1 ∧ o.k ≠ 2 ∧ o.k ≠ 5 ∧ o.k ≠ 11 := by
   unfold wks at hw
   split at hw
   ·omega
   ·split at hw <;> omega
  obtain ⟨q, rfl, hq1, hq2⟩ := op_nul hf (by omega) (by omega)
  have hk : q = 3 ∨ q = 4 ∨ q = 6 ∨ q = 7 ∨ q = 8 ∨ q = 9 ∨ q = 10 := by simp only [opO] at hk; omega
  have hs : TkZ (ptk (sgT q)) := by rcases hk with rfl | rfl | rfl | rfl | rfl | rfl | rfl <;> decide
  exact TksZ.app (TksZ.cons (by decide) TksZ.nil) (ha.app (TksZ.app (TksZ.cons hs TksZ.nil) (hb.app (TksZ.cons (by decide) TksZ.nil))))
theorem z_exp {l : List Oq} (h : exprF l = 0) (hb : ∀ o ∈ l, (Lit.int .i64 o.v.n).wf = true) : TksZ (exT l) := by
 obtain ⟨h1, t, h2, rfl⟩ := expr_tree h
 rw [exT_tree h2]
 exact z_tree t h2 hb
theorem z_wh {l : List Oq} (h : whF l = 0) (hb : ∀ o ∈ l, (Lit.int .i64 o.v.n).wf = true) : TksZ (whT l) := by
 unfold whT
 unfold whF at h
 by_cases h0 : l.length = 0
 ·rw [if_pos h0]; exact TksZ.nil
 ·rw [if_neg h0] at h ⊢
  exact TksZ.app (TksZ.cons (by decide) TksZ.nil) (z_exp h hb)
theorem z_btw {α : Type} {f : α → List Tk} : ∀ {l : List α}, (∀ x ∈ l, TksZ (f x)) → TksZ (btw comma f l)
 | [], _ => TksZ.nil
 | x :: r, h => by
  unfold btw
  refine (h x (by simp)).app fun t ht => ?_
  obtain ⟨y, hy, hm⟩ := List.mem_flatMap.1 ht
  rcases List.mem_append.1 hm with hm | hm
  ·simp only [comma, List.mem_singleton] at hm
   subst hm
   decide
  ·exact h y (by simp [hy]) t hm
theorem z_shown {s : Sq} (h : st0 s = 0) (hz : SqZ s) (hl : s.lim ≤ 9223372036854775807) : TksZ (shT s) := by
 obtain ⟨k1, k9, ht, hp, hm⟩ := st0_ok h
 unfold tabF at ht
 unfold partsF at hp
 unfold shT
 by_cases e1 : s.k = 1
 ·rw [if_pos (by omega)] at ht
  rw [if_pos e1] at hp ⊢
  unfold crT
  refine TksZ.app (TksZ.cons (by decide) (TksZ.cons (by decide) (TksZ.cons (z_nm ht) (TksZ.cons (by decide) TksZ.nil)))) ((z_btw fun c hc => ?_).app (TksZ.cons (by decide) TksZ.nil))
  obtain ⟨g, _⟩ := colsF_ok hp
  obtain ⟨g1, g2, g3⟩ := g c hc
  refine TksZ.cons (z_nm g1) (TksZ.cons ?_ TksZ.nil)
  obtain ⟨ct, ck⟩ := c
  dsimp only at g2 g3 ⊢
  have : ck = 1 ∨ ck = 2 ∨ ck = 3 := by omega
  rcases this with rfl | rfl | rfl <;> decide
 ·rw [if_neg e1] at hp ⊢
  by_cases e2 : s.k = 2
  ·rw [if_pos (by omega)] at ht
   rw [if_pos e2]
   exact TksZ.cons (by decide) (TksZ.cons (by decide) (TksZ.cons (z_nm ht) TksZ.nil))
  ·rw [if_neg e2]
   by_cases e3 : s.k = 3
   ·rw [if_pos (by omega)] at ht
    rw [if_pos e3] at hp ⊢
    unfold insF at hp
    split at hp
    ·omega
    ·refine TksZ.app (TksZ.cons (by decide) (TksZ.cons (by decide) (TksZ.cons (z_nm ht) (TksZ.cons (by decide) (TksZ.cons (by decide) TksZ.nil))))) ((z_btw fun v hv => ?_).app (TksZ.cons (by decide) TksZ.nil))
     obtain ⟨a, b, e⟩ := List.append_of_mem hv
     rw [e] at hp
     exact z_val (row_at a v b hp) (hz.r v hv).1
   ·rw [if_neg e3] at hp ⊢
    by_cases e4 : s.k = 4
    ·rw [if_pos (by omega)] at ht
     rw [if_pos e4] at hp ⊢
     obtain ⟨h1, h2, h3, h4, h5, h6, h7⟩ := sel_zero hp
     unfold selT midT
     refine ((TksZ.app (TksZ.app (TksZ.cons (by decide) TksZ.nil) ?_) ((z_btw fun v hv => ?_).app (TksZ.app (TksZ.cons (by decide) (TksZ.cons (z_nm ht) TksZ.nil)) (z_wh h6 fun o ho => (hz.h o ho).1)))).app ?_).app ?_ |>.app ?_
     ·unfold whatT
      split
      ·exact TksZ.cons (by decide) (TksZ.cons (by decide) (TksZ.cons (by decide) (TksZ.cons (by decide) TksZ.nil)))
      ·split
       ·exact TksZ.cons (by decide) TksZ.nil
       ·exact TksZ.nil
     ·obtain ⟨a, b, e⟩ := List.append_of_mem hv
      rw [e] at h5
      exact TksZ.cons (z_nm (nms_at a v b h5)) TksZ.nil
     ·unfold ordT
      unfold ordF at h7
      split
      ·exact TksZ.nil
      ·rename_i he
       rw [if_neg he] at h7
       exact TksZ.cons (by decide) (TksZ.cons (by decide) (TksZ.cons (z_nm h7) TksZ.nil))
     ·unfold dnT
      split
      ·exact TksZ.cons (by decide) TksZ.nil
      ·exact TksZ.nil
     ·unfold limT
      split
      ·exact TksZ.cons (by decide) (TksZ.cons (z_num hl) TksZ.nil)
      ·exact TksZ.nil
    ·rw [if_neg e4] at hp ⊢
     by_cases e5 : s.k = 5
     ·rw [if_pos (by omega)] at ht
      rw [if_pos e5] at hp ⊢
      obtain ⟨p1, p2, p3⟩ := f3_zero hp
      exact TksZ.app (TksZ.cons (by decide) (TksZ.cons (z_nm ht) (TksZ.cons (by decide) (TksZ.cons (z_nm p1) (TksZ.cons (by decide) TksZ.nil))))) ((z_exp p2 fun o ho => (hz.x o ho).1).app (z_wh p3 fun o ho => (hz.h o ho).1))
     ·rw [if_neg e5] at hp ⊢
      by_cases e6 : s.k = 6
      ·rw [if_pos (by omega)] at ht
       rw [if_pos e6] at hp ⊢
       exact TksZ.app (TksZ.cons (by decide) (TksZ.cons (by decide) (TksZ.cons (z_nm ht) TksZ.nil))) (z_wh hp fun o ho => (hz.h o ho).1)
      ·rw [if_neg e6]
       split
       ·exact TksZ.cons (by decide) TksZ.nil
       ·split
        ·exact TksZ.cons (by decide) TksZ.nil
        ·exact TksZ.cons (by decide) TksZ.nil
theorem z_at {L : List Tk} (h : TksZ L) : ∀ k, (L.getD k tk0).t.length ≤ maxLen ∧ (L.getD k tk0).n ≤ 9223372036854775807 := fun k => by
 have m : 20 ≤ maxLen := by unfold maxLen; omega
 by_cases hk : k < L.length
 ·have := h (L.getD k tk0) (by rw [List.getD, List.getElem?_eq_getElem hk]; exact List.getElem_mem hk)
  exact ⟨by omega, this.2⟩
 ·rw [show L.getD k tk0 = tk0 by simp [List.getD, List.getElem?_eq_none (show L.length ≤ k by omega)]]
  exact ⟨by show (0 : Nat) ≤ _; omega, by show (0 : Int) ≤ _; omega⟩
theorem st_cases {s : Sq} (h : st0 s = 0) : (stF s = 0 ∧ (shT s).length ≤ 100) ∨ (stF s = 10 ∧ 100 < (shT s).length) := by
 unfold stF
 rw [if_neg (by simpa using h)]
 split
 ·exact .inr ⟨rfl, by assumption⟩
 ·exact .inl ⟨rfl, by omega⟩
end Go.Proofs.YtdeollmeljaaoaaDoor.rd
namespace Go.Proofs.YtdeollmeljaaoaaDoor
def colL : List ByteArray := [⟨#[105, 100]⟩, ⟨#[110]⟩, ⟨#[115]⟩, ⟨#[98]⟩]
def Fi (n : Int) : Prop := -9223372036854775808 ≤ n ∧ n ≤ 9223372036854775807
def Sml (o : Oq) : Prop := o.t.size ≤ 2 ∧ (o.k = 2 → o.t ∈ colL) ∧ Fi o.v.n
theorem sml_bare {k : Int} {v : V} (h : k ≠ 2) (hv : Fi v.n := by first | exact ⟨by decide, by decide⟩ | (unfold Fi; omega)) : Sml ⟨k, v, ⟨#[]⟩⟩ := ⟨by show (0 : Nat) ≤ 2; omega, fun e => absurd e h, hv⟩
def Whl (l : List Oq) : Prop := (∀ n rest, 0 ≤ n → exF n (l ++ rest) = exF (n + 1) rest) ∧ (∀ j n rest, 0 ≤ n → ∃ m, 0 ≤ m ∧ exF n (l.take j ++ rest) = exF m rest) ∧ ∀ o ∈ l, Sml o
theorem exF_step {n : Int} {o : Oq} {l : List Oq} (h : opF o.k o.v.k o.v.n o.v.t o.t = 0) (hn : wks o.k ≤ n) : exF n (o :: l) = exF (n + 1 - wks o.k) l := by
 rw [exF, if_neg (by rw [h]; simp), if_neg (by omega)]
theorem whl_one {o : Oq} (h : opF o.k o.v.k o.v.n o.v.t o.t = 0) (hw : wks o.k = 0) (hs : Sml o) : Whl [o] := by
 refine ⟨fun n rest hn => ?_, fun j n rest hn => ?_, fun x hx => ?_⟩
 ·rw [List.singleton_append, exF_step h (by omega), hw]
  congr 1
  omega
 ·cases j with
  | zero => exact ⟨n, hn, rfl⟩
  | succ j =>
   refine ⟨n + 1, by omega, ?_⟩
   rw [List.take_succ_cons, List.take_nil, List.singleton_append, exF_step h (by omega), hw]
   congr 1
   omega
 ·rw [List.mem_singleton] at hx
  rw [hx]
  exact hs
theorem take_two {α : Type} (a b : List α) (j : Nat) : (a ++ b).take j = a.take j ∨ ∃ i, (a ++ b).take j = a ++ b.take i := by
 rw [List.take_append]
 by_cases h : j ≤ a.length
 ·left
  rw [Nat.sub_eq_zero_of_le h, List.take_zero, List.append_nil]
 ·right
  exact ⟨j - a.length, by rw [List.take_of_length_le (by omega)]⟩
theorem whl_un {l : List Oq} {o : Oq} (hl : Whl l) (h : opF o.k o.v.k o.v.n o.v.t o.t = 0) (hw : wks o.k = 1) (hs : Sml o) : Whl (l ++ [o]) := by
 refine ⟨fun n rest hn => ?_, fun j n rest hn => ?_, fun x hx => ?_⟩
 ·rw [List.append_assoc, hl.1 n _ hn, List.singleton_append, exF_step h (by omega), hw]
  congr 1
  omega
 ·rcases take_two l [o] j with e | ⟨i, e⟩
  ·rw [e]
   exact hl.2.1 j n rest hn
  ·rw [e, List.append_assoc, hl.1 n _ hn]
   cases i with
   | zero => exact ⟨n + 1, by omega, rfl⟩
   | succ i =>
    refine ⟨n + 1, by omega, ?_⟩
    rw [List.take_succ_cons, List.take_nil, List.singleton_append, exF_step h (by omega), hw]
    congr 1
    omega
 ·rcases List.mem_append.1 hx with hx | hx
  ·exact hl.2.2 x hx
  ·rw [List.mem_singleton] at hx
   rw [hx]
   exact hs
theorem whl_bin {l m : List Oq} {o : Oq} (hl : Whl l) (hm : Whl m) (h : opF o.k o.v.k o.v.n o.v.t o.t = 0) (hw : wks o.k = 2) (hs : Sml o) : Whl (l ++ m ++ [o]) := by
 have hstep : ∀ n rest, 0 ≤ n → exF (n + 1 + 1) (o :: rest) = exF (n + 1) rest := fun n rest hn => by
  rw [exF_step h (by omega), hw]
  congr 1
  omega
 refine ⟨fun n rest hn => ?_, fun j n rest hn => ?_, fun x hx => ?_⟩
 ·rw [List.append_assoc, List.append_assoc, hl.1 n _ hn, hm.1 (n + 1) _ (by omega), List.singleton_append, hstep n rest hn]
 ·rw [List.append_assoc]
  rcases take_two l (m ++ [o]) j with e | ⟨i, e⟩
  ·rw [e]
   exact hl.2.1 j n rest hn
  ·rw [e, List.append_assoc, hl.1 n _ hn]
   rcases take_two m [o] i with e | ⟨i', e⟩
   ·rw [e]
    exact hm.2.1 i (n + 1) rest (by omega)
   ·rw [e, List.append_assoc, hm.1 (n + 1) _ (by omega)]
    cases i' with
    | zero => exact ⟨n + 1 + 1, by omega, rfl⟩
    | succ i' =>
     refine ⟨n + 1, by omega, ?_⟩
     rw [List.take_succ_cons, List.take_nil, List.singleton_append, hstep n rest hn]
 ·rcases List.mem_append.1 hx with hx | hx
  ·rcases List.mem_append.1 hx with hx | hx
   ·exact hl.2.2 x hx
   ·exact hm.2.2 x hx
  ·rw [List.mem_singleton] at hx
   rw [hx]
   exact hs
theorem emp_data : (⟨#[]⟩ : ByteArray).toList.isEmpty = true := by rw [Lib.toList_data]; rfl
theorem op_bare {k : Int} (h1 : 3 ≤ k) (h2 : k ≤ 11) : opF k 0 0 ⟨#[]⟩ ⟨#[]⟩ = 0 := by
 have e : litF 0 0 ⟨#[]⟩ = 0 := by decide +kernel
 unfold opF
 rw [if_neg (by omega), if_neg (by rw [e]; simp), if_neg (by rw [emp_data]; simp [vnul, emp_data]), if_neg (by omega)]
theorem op_lit {vk vn : Int} {vt : ByteArray} (h : litF vk vn vt = 0) : opF 1 vk vn vt ⟨#[]⟩ = 0 := by
 unfold opF
 rw [if_neg (by omega), if_neg (by rw [h]; simp), if_neg (by rw [emp_data]; simp), if_neg (by omega)]
theorem wks_two {k : Int} (h1 : 3 ≤ k) (h5 : k ≠ 5) (h11 : k ≠ 11) : wks k = 2 := by
 unfold wks
 rw [if_neg (by omega), if_neg (by omega)]
theorem whl_all {l : List Oq} (h : Whl l) (hl : l.length ≤ 15) : exprF l = 0 ∧ exprF (l ++ l) = 7 ∧ exprF ([⟨5, ⟨0, 0, ⟨#[]⟩⟩, ⟨#[]⟩⟩] ++ l) = 7 ∧ ∀ j, exprF (l.take j ++ [⟨12, ⟨0, 0, ⟨#[]⟩⟩, ⟨#[]⟩⟩]) = 2 := by
 have e0 : ∀ x : List Oq, x.length ≤ 40 → exprF x = exF 0 x := fun x hx => by
  unfold exprF
  rw [if_neg (by omega)]
 refine ⟨?_, ?_, ?_, fun j => ?_⟩
 ·rw [e0 _ (by omega)]
  have := h.1 0 [] (by omega)
  rw [List.append_nil] at this
  rw [this]
  rfl
 ·rw [e0 _ (by rw [List.length_append]; omega), h.1 0 l (by omega)]
  have := h.1 (0 + 1) [] (by omega)
  rw [List.append_nil] at this
  rw [this]
  rfl
 ·rw [e0 _ (by rw [List.length_append]; simp; omega), List.singleton_append, exF, if_neg (by rw [op_bare (k := 5) (by omega) (by omega)]; simp), if_pos (by decide)]
 ·have hj : (l.take j).length ≤ 15 := by rw [List.length_take]; omega
  rw [e0 _ (by rw [List.length_append]; simp; omega)]
  obtain ⟨m, hm, e⟩ := h.2.1 j 0 [⟨12, ⟨0, 0, ⟨#[]⟩⟩, ⟨#[]⟩⟩] (by omega)
  rw [e, exF]
  have : opF 12 0 0 ⟨#[]⟩ ⟨#[]⟩ = 2 := by
   unfold opF
   rw [if_pos (by omega)]
  rw [if_pos (by rw [this]; simp), this]
def Agree (ok : Nat → Prop) (w w' : World) : Prop := ∀ b, ok b → b < w.heap.size → w'.heap[b]? = w.heap[b]?
theorem Agree.below {w w' : World} (hb : Below w.heap.size w w') (ok : Nat → Prop) : Agree ok w w' := fun b _ h => hb.block b h
section
variable {H : Type} {enc : TypeId × Value → H} {P : Program} {w : World} {base : Nat} {held : Bool}
abbrev small (P : Program) (t : TypeId) (d : DataW H) : Prop := ∀ n ∈ d.weights P t, n ≤ reachBytes
theorem weights_all {e : TypeId} : ∀ {l : List (DataW H)} {d : DataW H}, d ∈ l → ∀ n ∈ d.weights P e, n ∈ DataW.weightsAll P e l
 | x :: l, d, hd, n, hn => by
  simp only [DataW.weightsAll, List.mem_append]
  simp only [List.mem_cons] at hd
  rcases hd with rfl | hd
  ·exact .inl hn
  ·exact .inr (weights_all hd n hn)
theorem open_rows {t e : TypeId} {fuel C : Nat} {cs : List Value} {x : DataW H × List MemPlace} (ht : P.underlying t = some (.slice e)) (hC : P.cellsOf e = C) (hC0 : 0 < C)
  (h : DataW.trod enc P w base (fun _ => true) held fuel t cs = some x) (hs : small P t x.1) {R : List Value → Prop}
  (hR : ∀ (n : Nat) (cs' : List Value) (y : DataW H × List MemPlace), DataW.trod enc P w base (fun _ => true) held n e cs' = some y → small P e y.1 → R cs') :
  ∃ (v : Value) (n : Nat) (vs : List Value), cs = [v] ∧ Rd w C n v vs ∧ n * P.bytesOf e ≤ reachBytes ∧ ∀ i, i < n → R ((vs.drop (i * C)).take C) := by
 rcases open_slice ht h with ⟨rfl, hx⟩ | ⟨a, len, cap, m, n, D, Pl, rfl, _, hl, hm, hmm, hx, hi⟩
 ·exact ⟨_, 0, [], rfl, Rd.nil w C, by simp, fun i hi => by omega⟩
 ·simp only [if_true] at hmm
  subst hmm
  have each : ∀ i, ∃ cs' : List Value, i < len → cs'.length = C ∧ (∀ j, j < C → w.cell? (a.add (i * C + j)) = cs'[j]?) ∧ R cs' := by
   intro i
   by_cases hil : i < len
   ·obtain ⟨cs', hc, htr⟩ := hi i (by omega)
    rw [hC] at hc
    obtain ⟨_, hlen, hat⟩ := World.cells?_some hc
    refine ⟨cs', fun _ => ⟨hlen, fun j hj => ?_, hR _ _ _ htr ?_⟩⟩
    ·rw [← add_add]; exact hat j hj
    ·intro q hq
     refine hs q ?_
     rw [hx]
     simp only [DataW.weights, ht]
     refine List.mem_cons_of_mem _ (List.mem_append_left _ (weights_all (d := D i) ?_ q hq))
     exact List.mem_map.2 ⟨i, List.mem_range.2 hil, rfl⟩
   ·exact ⟨[], fun h => absurd h hil⟩
  obtain ⟨f, hf⟩ := Classical.axiomOfChoice each
  have hlenf : ∀ k, k ≤ len → (((List.range k).map f).flatten).length = k * C := by
   intro k
   induction k with
   | zero => simp
   | succ k ih =>
    intro hk
    rw [List.range_succ, List.map_append, List.flatten_append, List.length_append, ih (by omega)]
    simp only [List.map_cons, List.map_nil, List.flatten_cons, List.flatten_nil, List.append_nil]
    rw [(hf k (by omega)).1, Nat.succ_mul]
  have hcut : ∀ k, k ≤ len → ∀ i, i < k → ((((List.range k).map f).flatten).drop (i * C)).take C = f i := by
   intro k
   induction k with
   | zero => intro _ i hi'; omega
   | succ k ih =>
    intro hk i hi'
    rw [List.range_succ, List.map_append, List.flatten_append]
    simp only [List.map_cons, List.map_nil, List.flatten_cons, List.flatten_nil, List.append_nil]
    have hL := hlenf k (by omega)
    rcases Nat.lt_or_ge i k with hik | hik
    ·have h1 : i * C + C ≤ k * C := by
      rw [← Nat.succ_mul]; exact Nat.mul_le_mul_right _ hik
     rw [List.drop_append_of_le_length (by omega), List.take_append_of_le_length (by rw [List.length_drop]; omega)]
     exact ih (by omega) i hik
    ·obtain rfl : i = k := by omega
     rw [← hL, List.drop_left, List.take_of_length_le (by rw [(hf i (by omega)).1]; exact Nat.le_refl _)]
  refine ⟨_, len, ((List.range len).map f).flatten, rfl, ⟨hlenf len (Nat.le_refl _), some a, m, rfl, hl, hm, (fun h => by cases h), fun b hb j u hu => ?_⟩, ?_, fun i hi' => ?_⟩
  ·obtain rfl := Option.some.inj hb
   have hj : j < len * C := by
    have := (List.getElem?_eq_some_iff.1 hu).1
    rw [hlenf len (Nat.le_refl _)] at this
    exact this
   have hjc : j / C < len := Nat.div_lt_of_lt_mul (by rw [Nat.mul_comm]; exact hj)
   have hjm : j % C < C := Nat.mod_lt _ hC0
   have e : j / C * C + j % C = j := by rw [Nat.mul_comm]; exact Nat.div_add_mod j C
   have hc := (hf (j / C) hjc).2.1 (j % C) hjm
   rw [e] at hc
   rw [hc, ← hcut len (Nat.le_refl _) (j / C) hjc, List.getElem?_take, if_pos hjm, List.getElem?_drop, e]
   exact hu
  ·have := hs ((((List.range len).map D).length + ((List.range (m - len)).map fun j => D (len + j)).length) * P.bytesOf e) (by
    rw [hx]
    simp [DataW.weights, ht])
   simp only [List.length_map, List.length_range] at this
   exact Nat.le_trans (Nat.mul_le_mul_right _ (by omega)) this
  ·rw [hcut len (Nat.le_refl _) i hi']
   exact (hf i hi').2.2
theorem weights_each : ∀ {ts : List TypeId} {ds : List (DataW H)} {j : Nat} {t : TypeId} {d : DataW H}, ts[j]? = some t → ds[j]? = some d → ∀ n ∈ d.weights P t, n ∈ DataW.weightsEach P ts ds :=
 fun ht hd => DataW.weights_mem_each ht hd
end
end Go.Proofs.YtdeollmeljaaoaaDoor

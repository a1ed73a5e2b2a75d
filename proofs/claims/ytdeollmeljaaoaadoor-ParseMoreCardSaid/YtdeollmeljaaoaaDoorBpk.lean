import Derived.Test.YtdeollmeljaaoaaDoorBnk
set_option linter.unusedVariables false
set_option linter.unusedSimpArgs false
set_option linter.unusedSectionVars false
set_option maxRecDepth 100000
namespace Go.Proofs.YtdeollmeljaaoaaDoor.rd
open Go.Proofs.YtdeollmeljaaoaaDoor.cs
abbrev TkOk (t : Tk) : Prop := tkF t.k t.t t.n = 0
def TksOk (l : List Tk) : Prop := ∀ t ∈ l, TkOk t
theorem TksOk.nil : TksOk [] := fun t h => by simp at h
theorem TksOk.cons {t : Tk} {l : List Tk} (h : TkOk t) (hl : TksOk l) : TksOk (t :: l) := fun x hx => by
 rcases List.mem_cons.1 hx with rfl | hx
 ·exact h
 ·exact hl x hx
theorem TksOk.app {l m : List Tk} (h : TksOk l) (hm : TksOk m) : TksOk (l ++ m) := fun x hx => by
 rcases List.mem_append.1 hx with hx | hx
 ·exact h x hx
 ·exact hm x hx
theorem ok_nm {t : ByteArray} (h : nmF t.data.toList = 0) : TkOk (ptk t) := by
 show tkF (ptk t).k (ptk t).t (ptk t).n = 0
 rw [ptk_k h]
 exact nm_tk h
theorem ok_num {x : Int} (h : 0 ≤ x) : TkOk ⟨2, [], x⟩ := tk_nu h
theorem ok_str (l : List UInt8) : TkOk ⟨3, l, 0⟩ := by
 show tkF 3 l 0 = 0
 unfold tkF txt
 simp
theorem ok_val {v : V} (h : Go.Proofs.YtdeollmeljaaoaaDoor.litF v.k v.n v.t = 0) : TksOk (valT v) := by
 unfold valT
 split
 ·exact TksOk.nil.cons (ok_str _)
 ·split
  ·split
   ·exact (TksOk.nil.cons (ok_num (by omega))).cons (by decide)
   ·exact TksOk.nil.cons (ok_num (by omega))
  ·split
   ·exact TksOk.nil.cons (by decide)
   ·split
    ·exact TksOk.nil.cons (by decide)
    ·exact TksOk.nil.cons (by decide)
theorem ok_leaf {o : Oq} (hw : wks o.k = 0) (h : opF o.k o.v.k o.v.n o.v.t o.t = 0) : TksOk (lfT o) := by
 have hk : o.k = 1 ∨ o.k = 2 := by
  unfold wks at hw
  split at hw
  ·assumption
  ·split at hw <;> omega
 unfold opF at h
 split at h
 ·omega
 ·split at h
  ·omega
  ·rename_i hl
   split at h
   ·omega
   ·unfold lfT
    rcases hk with hk | hk
    ·rw [if_pos hk]
     exact ok_val (by simpa using hl)
    ·rw [if_neg (by omega)]
     rw [if_pos hk] at h
     exact TksOk.nil.cons (ok_nm h)
theorem ok_tree : ∀ t : Tx, t.ok → TksOk (shX t)
 | .leaf o, h => ok_leaf h.1 h.2
 | .un o a, h => by
  have := ok_tree a h.2.2
  unfold shX onT
  split
  ·exact TksOk.app (TksOk.cons (by decide) (TksOk.cons (by decide) TksOk.nil)) (this.app (TksOk.cons (by decide) TksOk.nil))
  ·exact TksOk.app (TksOk.cons (by decide) TksOk.nil) (this.app (TksOk.cons (by decide) (TksOk.cons (by decide) (TksOk.cons (by decide) TksOk.nil))))
 | .bi o a b, h => by
  obtain ⟨hw, hf, hta, htb⟩ := h
  have ha := ok_tree a hta
  have hb := ok_tree b htb
  have hk : o.k ≠ 1 ∧ o.k ≠ 2 ∧ o.k ≠ 5 ∧ o.k ≠ 11 := by
   unfold wks at hw
   split at hw
   ·omega
   ·split at hw <;> omega
  obtain ⟨q, rfl, hq1, hq2⟩ := op_nul hf (by omega) (by omega)
  have hk : q = 3 ∨ q = 4 ∨ q = 6 ∨ q = 7 ∨ q = 8 ∨ q = 9 ∨ q = 10 := by simp only [opO] at hk; omega
  have hs : TkOk (ptk (sgT q)) := by rcases hk with rfl | rfl | rfl | rfl | rfl | rfl | rfl <;> decide
  exact TksOk.app (TksOk.cons (by decide) TksOk.nil) (ha.app (TksOk.app (TksOk.cons hs TksOk.nil) (hb.app (TksOk.cons (by decide) TksOk.nil))))
theorem ok_exp {l : List Oq} (h : exprF l = 0) : TksOk (exT l) := by
 obtain ⟨h1, t, h2, rfl⟩ := expr_tree h
 rw [exT_tree h2]
 exact ok_tree t h2
theorem ok_wh {l : List Oq} (h : whF l = 0) : TksOk (whT l) := by
 unfold whT
 unfold whF at h
 by_cases h0 : l.length = 0
 ·rw [if_pos h0]; exact TksOk.nil
 ·rw [if_neg h0] at h ⊢
  exact TksOk.app (TksOk.cons (by decide) TksOk.nil) (ok_exp h)
theorem ok_btw {α : Type} {f : α → List Tk} : ∀ {l : List α}, (∀ x ∈ l, TksOk (f x)) → TksOk (btw comma f l)
 | [], _ => TksOk.nil
 | x :: r, h => by
  unfold btw
  refine (h x (by simp)).app fun t ht => ?_
  obtain ⟨y, hy, hm⟩ := List.mem_flatMap.1 ht
  rcases List.mem_append.1 hm with hm | hm
  ·simp only [comma, List.mem_singleton] at hm
   subst hm
   decide
  ·exact h y (by simp [hy]) t hm
theorem ok_shown {s : Sq} (h : st0 s = 0) : TksOk (shT s) := by
 obtain ⟨k1, k9, ht, hp, hm⟩ := st0_ok h
 unfold tabF at ht
 unfold partsF at hp
 unfold shT
 by_cases e1 : s.k = 1
 ·rw [if_pos (by omega)] at ht
  rw [if_pos e1] at hp ⊢
  unfold crT
  refine TksOk.app (TksOk.cons (by decide) (TksOk.cons (by decide) (TksOk.cons (ok_nm ht) (TksOk.cons (by decide) TksOk.nil)))) ((ok_btw fun c hc => ?_).app (TksOk.cons (by decide) TksOk.nil))
  obtain ⟨g, _⟩ := colsF_ok hp
  obtain ⟨g1, g2, g3⟩ := g c hc
  refine TksOk.cons (ok_nm g1) (TksOk.cons ?_ TksOk.nil)
  obtain ⟨ct, ck⟩ := c
  dsimp only at g2 g3 ⊢
  have : ck = 1 ∨ ck = 2 ∨ ck = 3 := by omega
  rcases this with rfl | rfl | rfl <;> decide
 ·rw [if_neg e1] at hp ⊢
  by_cases e2 : s.k = 2
  ·rw [if_pos (by omega)] at ht
   rw [if_pos e2]
   exact TksOk.cons (by decide) (TksOk.cons (by decide) (TksOk.cons (ok_nm ht) TksOk.nil))
  ·rw [if_neg e2]
   by_cases e3 : s.k = 3
   ·rw [if_pos (by omega)] at ht
    rw [if_pos e3] at hp ⊢
    unfold insF at hp
    split at hp
    ·omega
    ·refine TksOk.app (TksOk.cons (by decide) (TksOk.cons (by decide) (TksOk.cons (ok_nm ht) (TksOk.cons (by decide) (TksOk.cons (by decide) TksOk.nil))))) ((ok_btw fun v hv => ?_).app (TksOk.cons (by decide) TksOk.nil))
     obtain ⟨a, b, e⟩ := List.append_of_mem hv
     rw [e] at hp
     exact ok_val (row_at a v b hp)
   ·rw [if_neg e3] at hp ⊢
    by_cases e4 : s.k = 4
    ·rw [if_pos (by omega)] at ht
     rw [if_pos e4] at hp ⊢
     obtain ⟨h1, h2, h3, h4, h5, h6, h7⟩ := sel_zero hp
     unfold selT midT
     refine ((TksOk.app (TksOk.app (TksOk.cons (by decide) TksOk.nil) ?_) ((ok_btw fun v hv => ?_).app (TksOk.app (TksOk.cons (by decide) (TksOk.cons (ok_nm ht) TksOk.nil)) (ok_wh h6)))).app ?_).app ?_ |>.app ?_
     ·unfold whatT
      split
      ·exact TksOk.cons (by decide) (TksOk.cons (by decide) (TksOk.cons (by decide) (TksOk.cons (by decide) TksOk.nil)))
      ·split
       ·exact TksOk.cons (by decide) TksOk.nil
       ·exact TksOk.nil
     ·obtain ⟨a, b, e⟩ := List.append_of_mem hv
      rw [e] at h5
      exact TksOk.cons (ok_nm (nms_at a v b h5)) TksOk.nil
     ·unfold ordT
      unfold ordF at h7
      split
      ·exact TksOk.nil
      ·rename_i he
       rw [if_neg he] at h7
       exact TksOk.cons (by decide) (TksOk.cons (by decide) (TksOk.cons (ok_nm h7) TksOk.nil))
     ·unfold dnT
      split
      ·exact TksOk.cons (by decide) TksOk.nil
      ·exact TksOk.nil
     ·unfold limT
      split
      ·exact TksOk.cons (by decide) (TksOk.cons (ok_num (by assumption)) TksOk.nil)
      ·exact TksOk.nil
    ·rw [if_neg e4] at hp ⊢
     by_cases e5 : s.k = 5
     ·rw [if_pos (by omega)] at ht
      rw [if_pos e5] at hp ⊢
      obtain ⟨p1, p2, p3⟩ := f3_zero hp
      exact TksOk.app (TksOk.cons (by decide) (TksOk.cons (ok_nm ht) (TksOk.cons (by decide) (TksOk.cons (ok_nm p1) (TksOk.cons (by decide) TksOk.nil))))) ((ok_exp p2).app (ok_wh p3))
     ·rw [if_neg e5] at hp ⊢
      by_cases e6 : s.k = 6
      ·rw [if_pos (by omega)] at ht
       rw [if_pos e6] at hp ⊢
       exact TksOk.app (TksOk.cons (by decide) (TksOk.cons (by decide) (TksOk.cons (ok_nm ht) TksOk.nil))) (ok_wh hp)
      ·rw [if_neg e6]
       split
       ·exact TksOk.cons (by decide) TksOk.nil
       ·split
        ·exact TksOk.cons (by decide) TksOk.nil
        ·exact TksOk.cons (by decide) TksOk.nil
theorem parse_shown {s : Sq} (h : stF s = 0) : parseF (shT s) = (s, 0, 0) := by
 unfold stF at h
 split at h
 ·omega
 ·rename_i h0
  split at h
  ·omega
  ·have h0 : st0 s = 0 := by simpa using h0
   exact parse_good (by omega) (ok_shown h0) (stmt_sh h0)
theorem parse_behind {s : Sq} (h : st0 s = 0) (hl : (shT s).length < 100) : parseF (shT s ++ [ptk sClose]) = (sqz, ((shT s).length : Int), 6) := by
 have hL : (shT s ++ [ptk sClose]).length = (shT s).length + 1 := by simp
 exact parse_flt (L := shT s ++ [ptk sClose]) (f := (((shT s).length : Int), 6)) (by omega) ((ok_shown h).app (TksOk.cons (by decide) TksOk.nil)) (by rw [hL]; exact stmt_more h)
theorem parse_ahead {s : Sq} (h : st0 s = 0) (hl : (shT s).length < 100) : parseF (ptk sOpen :: shT s) = (sqz, 0, 6) :=
 parse_flt (L := ptk sOpen :: shT s) (f := (0, 6)) (by simp only [List.length_cons]; omega) (TksOk.cons (by decide) (ok_shown h)) (stmt_ahead _ _ (by simp))
open Go.Proofs.YtdeollmeljaaoaaDoor.cs
def Any {β : Type} (s : β) : Prop := True
section
variable {L : List Tk} {k : Nat} (hk : k ≤ L.length)
include hk
end
end Go.Proofs.YtdeollmeljaaoaaDoor.rd

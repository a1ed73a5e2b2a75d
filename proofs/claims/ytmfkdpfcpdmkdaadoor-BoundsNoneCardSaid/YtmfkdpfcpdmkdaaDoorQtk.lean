import Derived.Test.YtmfkdpfcpdmkdaaDoorUfk
/- Ops that are an expression are a tree, written out from its leaves on; what a stack makes of them; where what ends at a place begins. Plain. -/
namespace Go.Proofs.YtmfkdpfcpdmkdaaDoor
set_option linter.unusedVariables false
set_option linter.unusedSimpArgs false
inductive Tx where
  | leaf (o : Oq)
  | un (o : Oq) (a : Tx)
  | bi (o : Oq) (a b : Tx)
def Tx.flat : Tx → List Oq
  | .leaf o => [o]
  | .un o a => a.flat ++ [o]
  | .bi o a b => a.flat ++ b.flat ++ [o]
def Tx.op : Tx → Oq
  | .leaf o => o
  | .un o _ => o
  | .bi o _ _ => o
/-- Each op works on as many as stand beneath it, and is one that may be. -/
def Tx.ok : Tx → Prop
  | .leaf o => wks o.k = 0 ∧ opF o.k o.v.k o.v.n o.v.t o.t = 0
  | .un o a => wks o.k = 1 ∧ opF o.k o.v.k o.v.n o.v.t o.t = 0 ∧ a.ok
  | .bi o a b => wks o.k = 2 ∧ opF o.k o.v.k o.v.n o.v.t o.t = 0 ∧ a.ok ∧ b.ok
theorem Tx.flat_pos : ∀ t : Tx, 0 < t.flat.length
  | .leaf o => by simp [Tx.flat]
  | .un o a => by simp [Tx.flat]
  | .bi o a b => by simp [Tx.flat]; omega
theorem Tx.ok_mem : ∀ {t : Tx}, t.ok → ∀ o ∈ t.flat, opF o.k o.v.k o.v.n o.v.t o.t = 0
  | .leaf o, h, x, hx => by
    simp only [Tx.flat, List.mem_singleton] at hx
    subst hx
    exact h.2
  | .un o a, h, x, hx => by
    simp only [Tx.flat, List.mem_append, List.mem_singleton] at hx
    rcases hx with hx | rfl
    · exact Tx.ok_mem h.2.2 x hx
    · exact h.2.1
  | .bi o a b, h, x, hx => by
    simp only [Tx.flat, List.mem_append, List.mem_singleton] at hx
    rcases hx with (hx | hx) | rfl
    · exact Tx.ok_mem h.2.2.1 x hx
    · exact Tx.ok_mem h.2.2.2 x hx
    · exact h.2.1
/-- Trees on a stack, the last one first, written out. -/
def flatS : List Tx → List Oq
  | [] => []
  | t :: s => flatS s ++ t.flat
theorem ex_trees : ∀ (l : List Oq) (st : List Tx) (n : Int), n = (st.length : Int) → (∀ t ∈ st, t.ok) → exF n l = 0 → ∃ t : Tx, t.ok ∧ flatS st ++ l = t.flat
  | [], st, n, hn, hok, h => by
    have h1 : n = 1 := by
      unfold exF at h
      split at h
      · assumption
      · omega
    match st, hn with
    | [t], _ => exact ⟨t, hok t (by simp), by simp [flatS]⟩
    | [], hn => simp at hn; omega
    | _ :: _ :: _, hn => simp at hn; omega
  | o :: l, st, n, hn, hok, h => by
    unfold exF at h
    split at h
    · omega
    · rename_i h0
      have h0 : opF o.k o.v.k o.v.n o.v.t o.t = 0 := by simpa using h0
      split at h
      · omega
      · rename_i hw
        have hx := wks_in o.k
        by_cases k0 : wks o.k = 0
        · obtain ⟨t, h1, h2⟩ := ex_trees l (.leaf o :: st) (n + 1 - wks o.k) (by simp; omega) (fun t ht => by
            rcases List.mem_cons.1 ht with rfl | ht
            · exact ⟨k0, h0⟩
            · exact hok t ht) h
          exact ⟨t, h1, by rw [← h2]; simp [flatS, Tx.flat]⟩
        · by_cases k1 : wks o.k = 1
          · match st, hn, hok with
            | [], hn, _ => simp at hn; omega
            | a :: s, hn, hok =>
              obtain ⟨t, h1, h2⟩ := ex_trees l (.un o a :: s) (n + 1 - wks o.k) (by simp at hn ⊢; omega) (fun t ht => by
                rcases List.mem_cons.1 ht with rfl | ht
                · exact ⟨k1, h0, hok a (by simp)⟩
                · exact hok t (by simp [ht])) h
              exact ⟨t, h1, by rw [← h2]; simp [flatS, Tx.flat]⟩
          · have k2 : wks o.k = 2 := by omega
            match st, hn, hok with
            | [], hn, _ => simp at hn; omega
            | [a], hn, _ => simp at hn; omega
            | b :: a :: s, hn, hok =>
              obtain ⟨t, h1, h2⟩ := ex_trees l (.bi o a b :: s) (n + 1 - wks o.k) (by simp at hn ⊢; omega) (fun t ht => by
                rcases List.mem_cons.1 ht with rfl | ht
                · exact ⟨k2, h0, hok a (by simp), hok b (by simp)⟩
                · exact hok t (by simp [ht])) h
              exact ⟨t, h1, by rw [← h2]; simp [flatS, Tx.flat]⟩
/-- Ops that are an expression are a tree. -/
theorem expr_tree {l : List Oq} (h : exprF l = 0) : l.length ≤ 40 ∧ ∃ t : Tx, t.ok ∧ l = t.flat := by
  unfold exprF at h
  split at h
  · omega
  · obtain ⟨t, h1, h2⟩ := ex_trees l [] 0 rfl (by simp) h
    exact ⟨by omega, t, h1, by simpa [flatS] using h2⟩
section
variable {α : Type} (lf : Oq → Int × α) (one : Int → α → Int × α) (two : Int → α → α → Int × α)
/-- What an expression makes; the first fault. -/
def evT : Tx → Int × α
  | .leaf o => lf o
  | .un o a => if (evT a).1 ≠ 0 then evT a else one o.k (evT a).2
  | .bi o a b => if (evT a).1 ≠ 0 then evT a else if (evT b).1 ≠ 0 then evT b else two o.k (evT a).2 (evT b).2
/-- What a stack makes of ops: the fault, or what stands there (the last one first). -/
def rnF : List α → List Oq → Int × List α
  | st, [] => (0, st)
  | st, o :: l =>
    if wks o.k = 0 then (if (lf o).1 ≠ 0 then ((lf o).1, []) else rnF ((lf o).2 :: st) l)
    else if wks o.k = 1 then (match st with
      | a :: s => if (one o.k a).1 ≠ 0 then ((one o.k a).1, []) else rnF ((one o.k a).2 :: s) l
      | [] => (0, []))
    else (match st with
      | b :: a :: s => if (two o.k a b).1 ≠ 0 then ((two o.k a b).1, []) else rnF ((two o.k a b).2 :: s) l
      | _ => (0, []))
theorem rn_leaf {o : Oq} {st : List α} {l : List Oq} (h : wks o.k = 0) : rnF lf one two st (o :: l) = if (lf o).1 ≠ 0 then ((lf o).1, []) else rnF lf one two ((lf o).2 :: st) l := by
  conv => lhs; unfold rnF
  rw [if_pos h]
theorem rn_un {o : Oq} {a : α} {st : List α} {l : List Oq} (h : wks o.k = 1) : rnF lf one two (a :: st) (o :: l) = if (one o.k a).1 ≠ 0 then ((one o.k a).1, []) else rnF lf one two ((one o.k a).2 :: st) l := by
  conv => lhs; unfold rnF
  rw [if_neg (by omega), if_pos h]
theorem rn_bi {o : Oq} {a b : α} {st : List α} {l : List Oq} (h : wks o.k = 2) : rnF lf one two (b :: a :: st) (o :: l) = if (two o.k a b).1 ≠ 0 then ((two o.k a b).1, []) else rnF lf one two ((two o.k a b).2 :: st) l := by
  conv => lhs; unfold rnF
  rw [if_neg (by omega), if_neg (by omega)]
theorem ev_un_bad {o : Oq} {a : Tx} (h : (evT lf one two a).1 ≠ 0) : evT lf one two (.un o a) = evT lf one two a := by
  conv => lhs; unfold evT
  rw [if_pos h]
theorem ev_un {o : Oq} {a : Tx} (h : (evT lf one two a).1 = 0) : evT lf one two (.un o a) = one o.k (evT lf one two a).2 := by
  conv => lhs; unfold evT
  rw [if_neg (by simpa using h)]
theorem ev_bi_bad {o : Oq} {a b : Tx} (h : (evT lf one two a).1 ≠ 0) : evT lf one two (.bi o a b) = evT lf one two a := by
  conv => lhs; unfold evT
  rw [if_pos h]
theorem ev_bi_bad2 {o : Oq} {a b : Tx} (h : (evT lf one two a).1 = 0) (h2 : (evT lf one two b).1 ≠ 0) : evT lf one two (.bi o a b) = evT lf one two b := by
  conv => lhs; unfold evT
  rw [if_neg (by simpa using h), if_pos h2]
theorem ev_bi {o : Oq} {a b : Tx} (h : (evT lf one two a).1 = 0) (h2 : (evT lf one two b).1 = 0) : evT lf one two (.bi o a b) = two o.k (evT lf one two a).2 (evT lf one two b).2 := by
  conv => lhs; unfold evT
  rw [if_neg (by simpa using h), if_neg (by simpa using h2)]
theorem rn_tree : ∀ (t : Tx), t.ok → ∀ (st : List α) (r : List Oq), rnF lf one two st (t.flat ++ r) = if (evT lf one two t).1 ≠ 0 then ((evT lf one two t).1, []) else rnF lf one two ((evT lf one two t).2 :: st) r
  | .leaf o, h, st, r => rn_leaf lf one two h.1
  | .un o a, h, st, r => by
    rw [Tx.flat, List.append_assoc, rn_tree a h.2.2]
    by_cases h1 : (evT lf one two a).1 = 0
    · rw [if_neg (by simpa using h1), ev_un lf one two h1]
      exact rn_un lf one two h.1
    · rw [ev_un_bad lf one two h1, if_pos h1, if_pos h1]
  | .bi o a b, h, st, r => by
    rw [Tx.flat, List.append_assoc, List.append_assoc, rn_tree a h.2.2.1]
    by_cases h1 : (evT lf one two a).1 = 0
    · rw [if_neg (by simpa using h1), rn_tree b h.2.2.2]
      by_cases h2 : (evT lf one two b).1 = 0
      · rw [if_neg (by simpa using h2), ev_bi lf one two h1 h2]
        exact rn_bi lf one two h.1
      · rw [ev_bi_bad2 lf one two h1 h2, if_pos h2, if_pos h2]
    · rw [ev_bi_bad lf one two h1, if_pos h1, if_pos h1]
/-- A stack that begins empty: what the expression makes, alone. -/
theorem rn_whole {t : Tx} (h : t.ok) : rnF lf one two [] t.flat = if (evT lf one two t).1 ≠ 0 then ((evT lf one two t).1, []) else (0, [(evT lf one two t).2]) := by
  have := rn_tree lf one two t h [] []
  rw [List.append_nil] at this
  rw [this]
  rfl
end
/-- How many ops are gone back, when so many things are needed. -/
def bgF : Nat → List Oq → Nat
  | 0, _ => 0
  | _ + 1, [] => 0
  | n + 1, o :: r => 1 + bgF (n + (wks o.k).toNat) r
theorem bg_tree : ∀ (t : Tx), t.ok → ∀ (n : Nat) (r : List Oq), bgF (n + 1) (t.flat.reverse ++ r) = t.flat.length + bgF n r
  | .leaf o, h, n, r => by
    have h1 := h.1
    simp [Tx.flat, bgF, h1]
  | .un o a, h, n, r => by
    have h1 := h.1
    simp only [Tx.flat, List.reverse_append, List.reverse_singleton, List.cons_append, List.nil_append, bgF, h1]
    rw [show n + (1 : Int).toNat = n + 1 from rfl, bg_tree a h.2.2]
    simp
    omega
  | .bi o a b, h, n, r => by
    have h1 := h.1
    simp only [Tx.flat, List.reverse_append, List.reverse_singleton, List.cons_append, List.nil_append, bgF, h1, List.append_assoc]
    rw [show n + (2 : Int).toNat = (n + 1) + 1 from rfl, bg_tree b h.2.2.2, bg_tree a h.2.2.1]
    simp
    omega
end Go.Proofs.YtmfkdpfcpdmkdaaDoor

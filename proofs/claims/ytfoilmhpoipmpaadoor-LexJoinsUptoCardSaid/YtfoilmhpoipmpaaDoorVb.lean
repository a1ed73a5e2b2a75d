/- What is joined is cut as it was, plainly. -/
import Derived.Test.YtfoilmhpoipmpaaDoorVa
namespace Go.Proofs.YtfoilmhpoipmpaaDoor
set_option linter.unusedVariables false
set_option linter.unusedSimpArgs false
theorem spn_app {p : UInt8 → Bool} {a : List UInt8} {c : UInt8} {r : List UInt8} (ha : a.all p = true) (hc : p c = false) : spn p (a ++ c :: r) = a.length := by
  have h1 : (a ++ c :: r).getD a.length 0 = c := by simp [List.getD]
  refine spn_at p _ _ (fun j hj => ?_) (by simp) (by rw [h1]; exact hc)
  rw [List.all_eq_true] at ha
  have : (a ++ c :: r).getD j 0 = a[j] := by simp [List.getD, List.getElem?_append_left hj, List.getElem?_eq_getElem hj]
  rw [this]
  exact ha _ (List.getElem_mem hj)
theorem strR_dbl : ∀ (t r : List UInt8), strR (dblT t ++ 39 :: 32 :: r) = some (t, (dblT t).length + 1)
  | [], r => by
    rw [dblT, List.nil_append, strR_end (.inr (by simp))]
    rfl
  | c :: t, r => by
    have ih := strR_dbl t r
    by_cases h : c = 39
    · subst h
      rw [dblT, if_pos rfl, List.cons_append, List.cons_append, strR_two, ih]
      simp
    · rw [dblT, if_neg h, List.cons_append, strR_c _ h, ih]
      simp
theorem dgt_fin : ∀ u : Fin 10, dg (UInt8.ofNat (48 + u.val)) = true ∧ (UInt8.ofNat (48 + u.val)).toNat - 48 = u.val := by decide
theorem dgt (u : Nat) (h : u < 10) : dg (UInt8.ofNat (48 + u)) = true ∧ (UInt8.ofNat (48 + u)).toNat - 48 = u := dgt_fin ⟨u, h⟩
theorem dec_all : ∀ (k u : Nat), u ≤ k → (Lib.decDigits u).all dg = true ∧ numOf (Lib.decDigits u) = u ∧ Lib.decDigits u ≠ []
  | k, u, h => by
    rw [Lib.decDigits]
    split
    · rename_i hu
      refine ⟨by rw [List.all_cons, (dgt u hu).1]; rfl, ?_, by simp⟩
      unfold numOf
      rw [numF_cons, numF_nil, (dgt u hu).2]
      omega
    · rename_i hu
      obtain ⟨h1, h2, h3⟩ := dec_all (u / 10) (u / 10) (Nat.le_refl _)
      refine ⟨by rw [List.all_append, h1, List.all_cons, (dgt (u % 10) (by omega)).1]; rfl, ?_, by simp⟩
      unfold numOf at h2 ⊢
      rw [numF_app, h2, numF_cons, numF_nil, (dgt (u % 10) (by omega)).2]
      omega
  termination_by k u => u
  decreasing_by omega
theorem itoa_all {n : Int} (h : 0 ≤ n) : (Lib.itoa n).all dg = true ∧ (numOf (Lib.itoa n) : Int) = n ∧ Lib.itoa n ≠ [] := by
  unfold Lib.itoa
  rw [if_neg (by omega)]
  obtain ⟨h1, h2, h3⟩ := dec_all n.toNat n.toNat (Nat.le_refl _)
  exact ⟨h1, by rw [h2]; omega, h3⟩
theorem m2_32 {c : UInt8} : m2 c 32 = false := by
  unfold m2
  rw [show ((61 : UInt8) == 32) = false by decide, show ((62 : UInt8) == 32) = false by decide]
  simp
theorem mk_blank : ∀ (m r : List UInt8), m ≠ [] → mkOf m = m.length → mkOf (m ++ 32 :: r) = m.length
  | [], r, h, _ => absurd rfl h
  | [c], r, _, hm => by
    rw [List.cons_append, List.nil_append, mkOf_two, m2_32]
    rw [mkOf_one] at hm
    split at hm
    · rename_i h1; simp [h1]
    · simp at hm
  | c :: d :: l, r, _, hm => by
    rw [List.cons_append, List.cons_append, mkOf_two]
    rw [mkOf_two] at hm
    exact hm
theorem tokT_num (a r : List UInt8) (ha : a.all dg = true) (h0 : a ≠ []) (hn : numOf a < 9223372036854775808) : tokT (a ++ 32 :: r) = .tok ⟨2, [], numOf a⟩ a.length := by
  have hsp : spn dg (a ++ 32 :: r) = a.length := spn_app ha (by decide)
  have hd : dg ((a ++ 32 :: r).getD 0 0) = true := by
    cases a with
    | nil => exact absurd rfl h0
    | cons c a => rw [List.all_cons, Bool.and_eq_true] at ha; simpa using ha.1
  unfold tokT
  rw [if_pos hd]
  unfold numT
  rw [hsp, List.take_left]
  have h1 : (a ++ 32 :: r).getD a.length 0 = 32 := by simp [List.getD]
  rw [h1, if_neg (by rintro ⟨_, h⟩; revert h; decide), if_pos hn]
theorem tokT_word (a r : List UInt8) (ha : a.all iw = true) (h0 : a ≠ []) (hd : dg (a.getD 0 0) = false) : tokT (a ++ 32 :: r) = .tok ⟨1, a, 0⟩ a.length := by
  have hsp : spn iw (a ++ 32 :: r) = a.length := spn_app ha (by decide)
  cases a with
  | nil => exact absurd rfl h0
  | cons c a =>
    rw [List.all_cons, Bool.and_eq_true] at ha
    have e : ((c :: a) ++ 32 :: r).getD 0 0 = c := by simp
    have hd' : dg c = false := by simpa using hd
    unfold tokT
    rw [e, if_neg (by rw [hd']; simp), if_pos ha.1, hsp, List.take_left]
theorem tokT_str (t r : List UInt8) : tokT (([39] ++ dblT t ++ [39]) ++ 32 :: r) = .tok ⟨3, t, 0⟩ ([39] ++ dblT t ++ [39]).length := by
  have e : ([39] ++ dblT t ++ [39]) ++ 32 :: r = 39 :: (dblT t ++ 39 :: 32 :: r) := by simp
  rw [e]
  unfold tokT
  have e0 : (39 :: (dblT t ++ 39 :: 32 :: r)).getD 0 0 = (39 : UInt8) := by simp
  rw [e0, if_neg (by decide), if_neg (by decide), if_pos rfl, strT, strR_dbl]
  simp
theorem mk_first {m : List UInt8} (h0 : m ≠ []) (hm : mkOf m = m.length) : m1 (m.getD 0 0) = true := by
  match m, h0 with
  | [c], _ =>
    rw [mkOf_one] at hm
    by_cases h : m1 c = true
    · simpa using h
    · rw [if_neg h] at hm; simp at hm
  | c :: d :: l, _ =>
    rw [mkOf_two] at hm
    by_cases h : m2 c d = true
    · simpa using m1_of h
    · rw [if_neg h] at hm
      by_cases h' : m1 c = true
      · simpa using h'
      · rw [if_neg h'] at hm; simp at hm
theorem m1_no {c : UInt8} (h : m1 c = true) : dg c = false ∧ iw c = false ∧ ¬ c = 39 ∧ bk c = false := by
  unfold m1 at h
  simp only [Bool.or_eq_true, beq_iff_eq] at h
  rcases h with (((((((h | h) | h) | h) | h) | h) | h) | h) | h <;> subst h <;> decide
theorem tokT_mark (m r : List UInt8) (h0 : m ≠ []) (hm : mkOf m = m.length) : tokT (m ++ 32 :: r) = .tok ⟨4, m, 0⟩ m.length := by
  have hf := mk_first h0 hm
  obtain ⟨a1, a2, a3, _⟩ := m1_no hf
  have hk := mk_blank m r h0 hm
  have e : (m ++ 32 :: r).getD 0 0 = m.getD 0 0 := by
    cases m with
    | nil => exact absurd rfl h0
    | cons c m => simp
  unfold tokT
  have hp := List.length_pos_iff.2 h0
  rw [e, if_neg (by rw [a1]; simp), if_neg (by rw [a2]; simp), if_neg a3, hk, if_neg (by omega), List.take_left]
theorem iw_nb {c : UInt8} (h : iw c = true) : bk c = false := by
  unfold iw wb dg at h
  unfold bk
  simp at h ⊢
  omega
/-- A token that may be is taken as it was spelled. -/
theorem tok_spell {x : Tk} (hx : tkF x.k x.t x.n = 0) (hn : x.n ≤ 9223372036854775807) (r : List UInt8) : tokT (spellT x ++ 32 :: r) = .tok x (spellT x).length ∧ spellT x ≠ [] ∧ bk ((spellT x).getD 0 0) = false := by
  obtain ⟨k, t, n⟩ := x
  simp only at hx hn
  unfold tkF at hx
  split at hx
  · omega
  · split at hx
    · omega
    · split at hx
      · omega
      · rename_i h1 h2 h3
        have ht : txt k t = true := by
          cases h : txt k t with
          | true => rfl
          | false => exact absurd (.inr h) h3
        have hk : k = 1 ∨ k = 2 ∨ k = 3 ∨ k = 4 := by omega
        unfold txt at ht
        rcases hk with rfl | rfl | rfl | rfl
        · have hn0 : n = 0 := Decidable.byContradiction fun h => h3 (.inl ⟨by omega, h⟩)
          subst hn0
          simp only [if_true, Bool.and_eq_true, Bool.not_eq_true'] at ht
          obtain ⟨⟨g1, g2⟩, g3⟩ := ht
          have hne : t ≠ [] := by intro e; rw [e] at g1; cases g1
          have es : spellT ⟨1, t, 0⟩ = t := by unfold spellT; simp
          rw [es]
          refine ⟨tokT_word t r g3 hne g2, hne, ?_⟩
          cases t with
          | nil => exact absurd rfl hne
          | cons c t =>
            rw [List.all_cons, Bool.and_eq_true] at g3
            exact iw_nb g3.1
        · have ht' : t = [] := by simpa using ht
          subst ht'
          have es : spellT ⟨2, [], n⟩ = Lib.itoa n := by unfold spellT; simp
          obtain ⟨g1, g2, g3⟩ := itoa_all (n := n) (by omega)
          rw [es]
          have := tokT_num (Lib.itoa n) r g1 g3 (by omega)
          rw [g2] at this
          refine ⟨this, g3, ?_⟩
          cases hi : Lib.itoa n with
          | nil => exact absurd hi g3
          | cons c t =>
            rw [hi, List.all_cons, Bool.and_eq_true] at g1
            exact iw_nb (c := c) (by unfold iw; rw [g1.1]; simp)
        · have hn0 : n = 0 := Decidable.byContradiction fun h => h3 (.inl ⟨by omega, h⟩)
          subst hn0
          have es : spellT ⟨3, t, 0⟩ = [39] ++ dblT t ++ [39] := by unfold spellT; simp
          rw [es]
          exact ⟨tokT_str t r, by simp, by simp; decide⟩
        · have hn0 : n = 0 := Decidable.byContradiction fun h => h3 (.inl ⟨by omega, h⟩)
          subst hn0
          simp at ht
          have es : spellT ⟨4, t, 0⟩ = t := by unfold spellT; simp
          rw [es]
          exact ⟨tokT_mark t r ht.1 ht.2, ht.1, (m1_no (mk_first ht.1 ht.2)).2.2.2⟩
/-- Tokens spelled, a blank behind each. -/
def joined : List Tk → List UInt8
  | [] => []
  | x :: l => spellT x ++ 32 :: joined l
theorem joined_app : ∀ a b : List Tk, joined (a ++ b) = joined a ++ joined b
  | [], _ => rfl
  | x :: l, b => by simp [joined, joined_app l b]
def Ok (l : List Tk) : Prop := ∀ x ∈ l, tkF x.k x.t x.n = 0 ∧ x.n ≤ 9223372036854775807
theorem cut_joined : ∀ (l : List Tk) (pre r : List UInt8) (acc : List Tk), Ok l → acc.length + l.length ≤ 100 → cutW (pre ++ joined l ++ r) pre.length acc = cutW (pre ++ joined l ++ r) (pre.length + (joined l).length) (acc ++ l)
  | [], pre, r, acc, _, _ => by simp [joined]
  | x :: l, pre, r, acc, ho, hl => by
    obtain ⟨h1, h2⟩ := ho x (by simp)
    obtain ⟨t1, t2, t3⟩ := tok_spell h1 h2 (joined l ++ r)
    have hlen : (x :: l).length = l.length + 1 := rfl
    rw [hlen] at hl
    have eL : pre ++ joined (x :: l) ++ r = (pre ++ (spellT x ++ [32])) ++ joined l ++ r := by simp [joined]
    have eD : (pre ++ joined (x :: l) ++ r).drop pre.length = spellT x ++ 32 :: (joined l ++ r) := by simp [joined]
    have hp := List.length_pos_iff.2 t2
    have hg : (pre ++ joined (x :: l) ++ r).getD pre.length 0 = (spellT x).getD 0 0 := by
      have := getD_drop (pre ++ joined (x :: l) ++ r) pre.length 0
      rw [eD, Nat.add_zero] at this
      rw [← this]
      cases hs : spellT x with
      | nil => exact absurd hs t2
      | cons c t => simp
    have hlt : pre.length < (pre ++ joined (x :: l) ++ r).length := by simp [joined]; omega
    rw [cutW_tok hlt (by rw [hg]; exact t3) (by omega) (by rw [eD]; exact t1)]
    have hg2 : (pre ++ joined (x :: l) ++ r).getD (pre.length + (spellT x).length) 0 = 32 := by
      have := getD_drop (pre ++ joined (x :: l) ++ r) pre.length (spellT x).length
      rw [eD] at this
      rw [← this]
      simp [List.getD]
    rw [cutW_blank (by simp [joined] <;> omega) (by rw [hg2]; decide)]
    have ih := cut_joined l (pre ++ (spellT x ++ [32])) r (acc ++ [x]) (fun y hy => ho y (by simp [hy])) (by simp; omega)
    rw [eL]
    have e1 : (pre ++ (spellT x ++ [32])).length = pre.length + (spellT x).length + 1 := by simp; omega
    rw [e1] at ih
    rw [ih]
    have e2 : pre.length + (spellT x).length + 1 + (joined l).length = pre.length + (joined (x :: l)).length := by simp [joined]; omega
    rw [e2]
    simp
/-- What Join makes of tokens that may be, if it is not too long. -/
theorem join_is : ∀ (l : List Tk) (acc : List UInt8), Ok l → (acc ++ joined l).length ≤ 400 → joinT l acc = (acc ++ joined l, 0)
  | [], acc, _, _ => by simp [joinT, joined]
  | x :: l, acc, ho, hl => by
    obtain ⟨h1, h2⟩ := ho x (by simp)
    have e : acc ++ joined (x :: l) = (acc ++ spellT x ++ [32]) ++ joined l := by simp [joined]
    rw [e] at hl ⊢
    rw [joinT, if_neg (by rw [h1]; simp), if_neg (by rw [List.length_append] at hl; omega)]
    exact join_is l _ (fun y hy => ho y (by simp [hy])) hl
theorem joinL_is {l : List Tk} (ho : Ok l) (h100 : l.length ≤ 100) (hl : (joined l).length ≤ 400) : joinL l = (joined l, 0) := by
  unfold joinL
  rw [if_neg (by omega)]
  exact join_is l [] ho hl
theorem cutL_joined {l : List Tk} (ho : Ok l) (h100 : l.length ≤ 100) (hl : (joined l).length ≤ 400) : cutL (joined l) = ⟨l, 0, 0⟩ := by
  unfold cutL
  rw [if_neg (by omega)]
  have := cut_joined l [] [] [] ho (by simpa using h100)
  simp only [List.nil_append, List.append_nil, List.length_nil, Nat.zero_add] at this
  rw [this, cutW_end (Nat.le_refl _)]
end Go.Proofs.YtfoilmhpoipmpaaDoor

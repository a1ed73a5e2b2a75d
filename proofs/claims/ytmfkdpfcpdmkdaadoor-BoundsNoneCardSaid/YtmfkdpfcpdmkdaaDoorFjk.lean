import Derived.Test.YtmfkdpfcpdmkdaaDoorFhk
import Derived.Test.YtmfkdpfcpdmkdaaDoorOik
/- Plain: the bounds of some expressions. -/
namespace Go.Proofs.YtmfkdpfcpdmkdaaDoor.bd
set_option linter.unusedVariables false
set_option linter.unusedSimpArgs false
abbrev cO (t : ByteArray) : Oq := ⟨2, ⟨0, 0, ⟨#[]⟩⟩, t⟩
abbrev lO (v : V) : Oq := ⟨1, v, ⟨#[]⟩⟩
abbrev oO (k : Int) : Oq := ⟨k, ⟨0, 0, ⟨#[]⟩⟩, ⟨#[]⟩⟩
abbrev num (n : Int) : V := ⟨2, n, ⟨#[]⟩⟩
abbrev idT : ByteArray := ⟨#[105, 100]⟩
abbrev nT : ByteArray := ⟨#[110]⟩
def key (n : Int) : List UInt8 := encs [num n]
theorem ok_num {n : Int} (h : 0 ≤ n ∧ n < 100000) : Ok (num n) := ⟨chk_int n, by show _ ≤ n ∧ n ≤ _; omega⟩
theorem key_len (n : Int) : (key n).length = 9 := by simp [key, encs, enc1, tail1, be8, be_length]
theorem key_ne (n : Int) : key n ≠ [] := fun h => by have := key_len n; rw [h] at this; simp at this
/-- A tree that is an expression. -/
structure Ex (t : Tx) : Prop where
  ok : t.ok
  whl : Whl t.flat
theorem ex_id : Ex (.leaf (cO idT)) := ⟨⟨by decide, by decide +kernel⟩, whl_one (by decide +kernel) (by decide) ⟨by decide, fun _ => by simp [colL], ⟨by decide, by decide⟩⟩⟩
theorem ex_n : Ex (.leaf (cO nT)) := ⟨⟨by decide, by decide +kernel⟩, whl_one (by decide +kernel) (by decide) ⟨by decide, fun _ => by simp [colL], ⟨by decide, by decide⟩⟩⟩
theorem ex_nul : Ex (.leaf (lO nul)) := ⟨⟨by decide, by decide +kernel⟩, whl_one (by decide +kernel) (by decide) (sml_bare (k := 1) (by decide) ⟨by decide, by decide⟩)⟩
theorem ex_num {n : Int} (h : 0 ≤ n ∧ n < 100000) : Ex (.leaf (lO (num n))) := by
  have e : opF 1 2 n ⟨#[]⟩ ⟨#[]⟩ = 0 := op_lit (by unfold litF; rw [if_neg (by omega)]; exact chk_int n)
  exact ⟨⟨rfl, e⟩, whl_one (o := lO (num n)) e rfl (sml_bare (k := 1) (by decide) (by show Fi n; unfold Fi; omega))⟩
theorem ex_un {k : Int} {a : Tx} (h : Ex a) (hk : k = 5 ∨ k = 11) : Ex (.un (oO k) a) := by
  have hw : wks k = 1 := by rcases hk with rfl | rfl <;> decide
  have ho : opF k 0 0 ⟨#[]⟩ ⟨#[]⟩ = 0 := op_bare (by omega) (by omega)
  exact ⟨⟨hw, ho, h.ok⟩, whl_un h.whl (o := oO k) ho hw (sml_bare (k := k) (by omega) ⟨by decide, by decide⟩)⟩
theorem ex_bi {k : Int} {a b : Tx} (h : Ex a) (g : Ex b) (h1 : 3 ≤ k) (h2 : k ≤ 10) (h5 : k ≠ 5) : Ex (.bi (oO k) a b) := by
  have hw : wks k = 2 := wks_two h1 h5 (by omega)
  have ho : opF k 0 0 ⟨#[]⟩ ⟨#[]⟩ = 0 := op_bare h1 (by omega)
  exact ⟨⟨hw, ho, h.ok, g.ok⟩, whl_bin h.whl g.whl (o := oO k) ho hw (sml_bare (k := k) (by omega) ⟨by decide, by decide⟩)⟩
theorem bounds_of {t : Tx} (h : Ex t) (hl : t.flat.length ≤ 40) (hk : evT (lfK c4t) onK twK t = (0, 1)) : boundsF c4t t.flat = (0, (evT (lfP ⟨#[105, 100]⟩) onP twP t).2.hl, (evT (lfP ⟨#[105, 100]⟩) onP twP t).2.hh) := by
  have hex := whl_expr' h.whl hl
  have hp := Tx.flat_pos t
  have e1 := kindF_tree h.ok c4t_ok hex
  rw [hk] at e1
  have e2 : rnF (lfP (c4t.getD 0 ncq).t) onP twP [] t.flat = (0, [(evT (lfP (c4t.getD 0 ncq).t) onP twP t).2]) := by
    rw [rn_whole _ _ _ h.ok, if_neg (by rw [evP_fine t h.ok h.whl.2.2]; simp)]
  unfold boundsF
  rw [if_neg (by omega), e1, if_neg (by simp), if_neg (by simp), e2]
  rfl
theorem small_of {t : Tx} (h : Ex t) : ∀ o ∈ t.flat, Sml o := h.whl.2.2
theorem fK_id : lfK c4t (cO idT) = (0, 2) := by decide +kernel
theorem fK_n : lfK c4t (cO nT) = (0, 2) := by decide +kernel
theorem fK_num (n : Int) : lfK c4t (lO (num n)) = (0, 2) := rfl
theorem fK_nul : lfK c4t (lO nul) = (0, 0) := rfl
theorem fP_id : lfP ⟨#[105, 100]⟩ (cO idT) = (0, ⟨true, [], [], [], [], []⟩) := by
  unfold lfP
  rw [if_neg (by simp)]
  simp
theorem fP_n : lfP ⟨#[105, 100]⟩ (cO nT) = (0, np) := by
  unfold lfP
  rw [if_neg (by simp)]
  simp [np, list_of]
theorem fP_nul : lfP ⟨#[105, 100]⟩ (lO nul) = (0, np) := by
  unfold lfP
  rw [if_neg (by simp [nul])]
  simp [np]
theorem fP_num {n : Int} (h : 0 ≤ n ∧ n < 100000) : lfP ⟨#[105, 100]⟩ (lO (num n)) = (0, ⟨false, key n, [], [], [], []⟩) := by
  unfold lfP
  rw [if_pos (by simp), enc_one (ok_num h)]
  rfl
theorem bl_keys {a b : Int} (ha : 0 ≤ a ∧ a < 100000) (hb : 0 ≤ b ∧ b < 100000) (h : a ≤ b) : bl (key b) (key a) = false := by
  refine bl_not (ok_num hb) (ok_num ha) ?_
  unfold ord or3 sgn
  have hs : sgs ⟨#[]⟩ ⟨#[]⟩ = 0 := sgs_eq rfl
  simp only [hs]
  by_cases h1 : b < a
  · omega
  · by_cases h2 : a < b
    · simp [h1, h2]
    · simp [h1, h2]
theorem bl_self (k : List UInt8) : bl k k = false := bl_irr k
theorem bl_nil_key (n : Int) : bl [] (key n) = true := by
  have := key_ne n
  match h : key n with
  | [] => exact absurd h this
  | a :: l => rfl
section
variable (n m : Int)
theorem b1 (h : 0 ≤ n ∧ n < 100000) : boundsF c4t [cO idT, lO (num n), oO 6] = (0, key n, key n) := by
  have e := bounds_of (ex_bi (k := 6) ex_id (ex_num h) (by omega) (by omega) (by omega)) (by simp [Tx.flat]) (by simp [evT, fK_id, fK_num, twK])
  simpa [Tx.flat, evT, fP_id, fP_num h, twP] using e
theorem b2 (h : 0 ≤ n ∧ n < 100000) : boundsF c4t [lO (num n), cO idT, oO 6] = (0, key n, key n) := by
  have e := bounds_of (ex_bi (k := 6) (ex_num h) ex_id (by omega) (by omega) (by omega)) (by simp [Tx.flat]) (by simp [evT, fK_id, fK_num, twK])
  simpa [Tx.flat, evT, fP_id, fP_num h, twP] using e
theorem b3 (h : 0 ≤ n ∧ n < 100000) : boundsF c4t [cO idT, lO (num n), oO 7] = (0, [], key n) := by
  have e := bounds_of (ex_bi (k := 7) ex_id (ex_num h) (by omega) (by omega) (by omega)) (by simp [Tx.flat]) (by simp [evT, fK_id, fK_num, twK])
  simpa [Tx.flat, evT, fP_id, fP_num h, twP] using e
theorem b4 (h : 0 ≤ n ∧ n < 100000) : boundsF c4t [lO (num n), cO idT, oO 7] = (0, key n, []) := by
  have e := bounds_of (ex_bi (k := 7) (ex_num h) ex_id (by omega) (by omega) (by omega)) (by simp [Tx.flat]) (by simp [evT, fK_id, fK_num, twK])
  simpa [Tx.flat, evT, fP_id, fP_num h, twP] using e
theorem b5 (h : 0 ≤ n ∧ n < 100000) : boundsF c4t [cO idT, lO (num n), oO 7, oO 5] = (0, key n, []) := by
  have e := bounds_of (ex_un (k := 5) (ex_bi (k := 7) ex_id (ex_num h) (by omega) (by omega) (by omega)) (by omega)) (by simp [Tx.flat]) (by simp [evT, fK_id, fK_num, twK, onK])
  simpa [Tx.flat, evT, fP_id, fP_num h, twP, onP] using e
theorem b6 (h : 0 ≤ n ∧ n < 100000) : boundsF c4t [lO (num n), cO idT, oO 7, oO 5] = (0, [], key n) := by
  have e := bounds_of (ex_un (k := 5) (ex_bi (k := 7) (ex_num h) ex_id (by omega) (by omega) (by omega)) (by omega)) (by simp [Tx.flat]) (by simp [evT, fK_id, fK_num, twK, onK])
  simpa [Tx.flat, evT, fP_id, fP_num h, twP, onP] using e
theorem b7 (h : 0 ≤ n ∧ n < 100000) : boundsF c4t [cO idT, lO (num n), oO 6, oO 5] = (0, [], []) := by
  have e := bounds_of (ex_un (k := 5) (ex_bi (k := 6) ex_id (ex_num h) (by omega) (by omega) (by omega)) (by omega)) (by simp [Tx.flat]) (by simp [evT, fK_id, fK_num, twK, onK])
  simpa [Tx.flat, evT, fP_id, fP_num h, twP, onP] using e
theorem n1 (h : 0 ≤ n ∧ n < 100000) : boundsF c4t [cO nT, lO (num n), oO 6] = (0, [], []) := by
  have e := bounds_of (ex_bi (k := 6) ex_n (ex_num h) (by omega) (by omega) (by omega)) (by simp [Tx.flat]) (by simp [evT, fK_n, fK_num, twK])
  simpa [Tx.flat, evT, fP_n, fP_num h, twP, np] using e
theorem n2 : boundsF c4t [cO idT, lO nul, oO 6] = (0, [], []) := by
  have e := bounds_of (ex_bi (k := 6) ex_id ex_nul (by omega) (by omega) (by omega)) (by simp [Tx.flat]) (by simp [evT, fK_id, fK_nul, twK])
  simpa [Tx.flat, evT, fP_id, fP_nul, twP, np] using e
theorem n3 : boundsF c4t [cO idT, cO nT, oO 7] = (0, [], []) := by
  have e := bounds_of (ex_bi (k := 7) ex_id ex_n (by omega) (by omega) (by omega)) (by simp [Tx.flat]) (by simp [evT, fK_id, fK_n, twK])
  simpa [Tx.flat, evT, fP_id, fP_n, twP, np] using e
theorem n4 (h : 0 ≤ n ∧ n < 100000) : boundsF c4t [lO (num n), lO (num n), oO 7] = (0, [], []) := by
  have e := bounds_of (ex_bi (k := 7) (ex_num h) (ex_num h) (by omega) (by omega) (by omega)) (by simp [Tx.flat]) (by simp [evT, fK_num, twK])
  simpa [Tx.flat, evT, fP_num h, twP, np] using e
theorem n5 : boundsF c4t [cO idT, oO 11] = (0, [], []) := by
  have e := bounds_of (ex_un (k := 11) ex_id (by omega)) (by simp [Tx.flat]) (by simp [evT, fK_id, onK])
  simpa [Tx.flat, evT, fP_id, onP, np] using e
theorem n6 (h : 0 ≤ n ∧ n < 100000) : boundsF c4t [cO idT, lO (num n), oO 8, lO (num n), oO 7] = (0, [], []) := by
  have e := bounds_of (ex_bi (k := 7) (ex_bi (k := 8) ex_id (ex_num h) (by omega) (by omega) (by omega)) (ex_num h) (by omega) (by omega) (by omega)) (by simp [Tx.flat]) (by simp [evT, fK_id, fK_num, twK, ifK])
  simpa [Tx.flat, evT, fP_id, fP_num h, twP, np] using e
theorem n7 (h : 0 ≤ n ∧ n < 100000) : boundsF c4t [cO idT, lO (num n), oO 7, oO 5, oO 5] = (0, [], []) := by
  have e := bounds_of (ex_un (k := 5) (ex_un (k := 5) (ex_bi (k := 7) ex_id (ex_num h) (by omega) (by omega) (by omega)) (by omega)) (by omega)) (by simp [Tx.flat]) (by simp [evT, fK_id, fK_num, twK, onK])
  simpa [Tx.flat, evT, fP_id, fP_num h, twP, onP] using e
theorem o1 (h : 0 ≤ n ∧ n < 1000) (g : 0 ≤ m ∧ m < 1000) : boundsF c4t [cO idT, lO (num n), oO 7, lO (num m), cO idT, oO 7, oO 3, cO idT, lO (num (n + m)), oO 7, oO 3] = (0, key m, key n) := by
  have h' : 0 ≤ n ∧ n < 100000 := ⟨h.1, by omega⟩
  have g' : 0 ≤ m ∧ m < 100000 := ⟨g.1, by omega⟩
  have s' : 0 ≤ n + m ∧ n + m < 100000 := ⟨by omega, by omega⟩
  have e := bounds_of (ex_bi (k := 3) (ex_bi (k := 3) (ex_bi (k := 7) ex_id (ex_num h') (by omega) (by omega) (by omega)) (ex_bi (k := 7) (ex_num g') ex_id (by omega) (by omega) (by omega)) (by omega) (by omega) (by omega)) (ex_bi (k := 7) ex_id (ex_num s') (by omega) (by omega) (by omega)) (by omega) (by omega) (by omega)) (by simp [Tx.flat]) (by simp [evT, fK_id, fK_num, twK, ifK])
  have hk := key_len n
  have hl := bl_keys h' s' (by omega)
  have e2 : loW (loW [] (key m)) [] = key m := by
    unfold loW
    rw [bl_nil_key, if_pos rfl, bl_nil, if_neg (by simp)]
  have e3 : hiW (hiW (key n) []) (key (n + m)) = key n := by
    unfold hiW
    rw [if_neg (show ¬ ((key n).length = 0 ∨ 0 < ([] : List UInt8).length ∧ bl [] (key n) = true) by simp [hk]), if_neg (by rw [hl]; simp [hk])]
  simp only [Tx.flat, evT, fP_id, fP_num h', fP_num g', fP_num s', twP, List.cons_append, List.nil_append, ne_eq, not_true_eq_false, if_false, Int.reduceEq, false_and, if_true, true_and, Bool.false_eq_true] at e
  rw [e2, e3] at e
  exact e
theorem o2 (h : 0 ≤ n ∧ n < 100000) (g : 0 ≤ m ∧ m < 100000) : boundsF c4t [cO idT, lO (num n), oO 6, cO idT, lO (num m), oO 6, oO 4] = (0, [], []) := by
  have e := bounds_of (ex_bi (k := 4) (ex_bi (k := 6) ex_id (ex_num h) (by omega) (by omega) (by omega)) (ex_bi (k := 6) ex_id (ex_num g) (by omega) (by omega) (by omega)) (by omega) (by omega) (by omega)) (by simp [Tx.flat]) (by simp [evT, fK_id, fK_num, twK, ifK])
  simpa [Tx.flat, evT, fP_id, fP_num h, fP_num g, twP, np] using e
end
end Go.Proofs.YtmfkdpfcpdmkdaaDoor.bd

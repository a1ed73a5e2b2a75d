import Derived.Test.YtmfkdpfcpdmkdaaGreatDoorSak
/- Plain facts on sums and products: the reference's test of what leaves 64 bits is the code's. -/
namespace Go.Proofs.YtmfkdpfcpdmkdaaGreatDoor
set_option linter.unusedVariables false
set_option linter.unusedSimpArgs false
open Go.RowKit

/-- The reference's test: leaves a sum, difference or product 64 bits? -/
def lvs (d a b : Int) : Bool :=
  if d = 9 then (if 0 ≤ a then decide (b < 0) && decide (wrap64 (9223372036854775807 + b) < a) else decide (0 < b) && decide (a < wrap64 (-9223372036854775808 + b)))
  else if d = 8 then (if 0 < b then decide (wrap64 (9223372036854775807 - b) < a) else decide (a < wrap64 (-9223372036854775808 - b)))
  else if a = 0 then false else if b = 0 then false else if a = -1 then b == -9223372036854775808 else if b = -1 then a == -9223372036854775808
  else if 0 < a then (if 0 < b then decide ((9223372036854775807 : Int) / b < a) else decide (b < wrap64 ((-9223372036854775808 : Int).tdiv a)))
  else (if 0 < b then decide (a < wrap64 ((-9223372036854775808 : Int).tdiv b)) else decide (a < wrap64 ((9223372036854775807 : Int).tdiv b)))
def Rng (x : Int) : Prop := -9223372036854775808 ≤ x ∧ x ≤ 9223372036854775807
instance (x : Int) : Decidable (Rng x) := by unfold Rng; infer_instance
theorem rng_of {n : Int} (h : (Lit.int .i64 n).wf = true) : Rng n := by
  simp only [Lit.wf, Bool.and_eq_true, decide_eq_true_eq] at h
  exact ⟨by have := h.1; simp [IntKind.min, IntKind.signed, IntKind.bits] at this; omega, by have := h.2; simp [IntKind.max, IntKind.signed, IntKind.bits] at this; omega⟩
theorem wrap_rng (x : Int) : Rng (wrap64 x) := by unfold Rng wrap64; omega
theorem wrap_of {x : Int} (h : Rng x) : wrap64 x = x := by unfold Rng at h; unfold wrap64; omega
theorem wrap_eq (x : Int) : ∃ j : Int, wrap64 x = x + 18446744073709551616 * j ∧ (¬ Rng x → j ≠ 0) := by
  refine ⟨(wrap64 x - x) / 18446744073709551616, ?_, ?_⟩
  · unfold wrap64; omega
  · intro h; unfold Rng at h; unfold wrap64; omega

theorem cpt8 (a b : Int) (ha : Rng a) (hb : Rng b) : (cpt 8 a b).2 = decide (Rng (a + b)) ∧ lvs 8 a b = !decide (Rng (a + b)) := by
  unfold Rng at ha hb
  by_cases hr : Rng (a + b)
  all_goals
    have hr' := hr
    unfold Rng at hr'
    by_cases h : 0 < b
    · have e1 : wrap64 (9223372036854775807 - b) = 9223372036854775807 - b := by unfold wrap64; omega
      constructor
      · first
          | (have : a < wrap64 (a + b) := by (unfold wrap64; omega)
             simp [cpt, h, hr, this])
          | (have : ¬ a < wrap64 (a + b) := by (unfold wrap64; omega)
             simp [cpt, h, hr, this])
      · simp [lvs, h, hr, e1]; omega
    · have e1 : wrap64 (-9223372036854775808 - b) = -9223372036854775808 - b := by unfold wrap64; omega
      constructor
      · first
          | (have : a < wrap64 (a + b) := by (unfold wrap64; omega)
             simp [cpt, h, hr, this])
          | (have : ¬ a < wrap64 (a + b) := by (unfold wrap64; omega)
             simp [cpt, h, hr, this])
      · simp [lvs, h, hr, e1]; omega
theorem cpt9 (a b : Int) (ha : Rng a) (hb : Rng b) : (cpt 9 a b).2 = decide (Rng (a - b)) ∧ lvs 9 a b = !decide (Rng (a - b)) := by
  unfold Rng at ha hb
  by_cases hr : Rng (a - b)
  all_goals
    have hr' := hr
    unfold Rng at hr'
    constructor
    · by_cases h : 0 < b
      all_goals
        first
          | (have : wrap64 (a - b) < a := by (unfold wrap64; omega)
             simp [cpt, h, hr, this]
             done)
          | (have : ¬ wrap64 (a - b) < a := by (unfold wrap64; omega)
             simp [cpt, h, hr, this])
    · by_cases h : 0 ≤ a
      · by_cases g : b < 0
        · have e1 : wrap64 (9223372036854775807 + b) = 9223372036854775807 + b := by unfold wrap64; omega
          simp [lvs, h, g, hr, e1]; omega
        · simp [lvs, h, g, hr] <;> omega
      · by_cases g : 0 < b
        · have e1 : wrap64 (-9223372036854775808 + b) = -9223372036854775808 + b := by unfold wrap64; omega
          simp [lvs, h, g, hr, e1]; omega
        · simp [lvs, h, g, hr] <;> omega
theorem tms_fits (a b : Int) (ha : Rng a) (hb : Rng b) : (tms a b).2 = decide (Rng (a * b)) := by
  have ha' := ha
  have hb' := hb
  unfold Rng at ha' hb'
  unfold tms
  by_cases h0 : a = 0
  · subst h0; simp [Rng]
  by_cases h1 : a = -1
  · subst h1
    simp only [h0, if_false, if_true]
    rw [Bool.eq_iff_iff]
    simp [Rng]
    omega
  simp only [h0, h1, if_false]
  by_cases hr : Rng (a * b)
  · rw [wrap_of hr, Int.mul_tdiv_cancel_left _ h0, wrap_of hb]
    simp [hr]
  · simp only [hr, decide_false]
    rw [beq_eq_false_iff_ne]
    intro he
    obtain ⟨j, hj, hj0⟩ := wrap_eq (a * b)
    have hN := wrap_rng (a * b)
    generalize wrap64 (a * b) = N at *
    have hj1 := hj0 hr
    have e1 := Int.mul_tdiv_add_tmod N a
    have hq : Rng (N.tdiv a) := by
      have := Int.natAbs_tdiv_le_natAbs N a
      unfold Rng at hN ⊢
      by_cases hm : N = -9223372036854775808
      · subst hm
        have h2 : (Int.tdiv (-9223372036854775808) a).natAbs = 9223372036854775808 / a.natAbs := by rw [Int.natAbs_tdiv]; rfl
        have h3 : 1 ≤ a.natAbs := by omega
        by_cases ha1 : a = 1
        · subst ha1; simp
        · have h4 : 2 ≤ a.natAbs := by omega
          have h5 : 9223372036854775808 / a.natAbs ≤ 9223372036854775808 / 2 := Nat.div_le_div_left h4 (by omega)
          omega
      · omega
    rw [wrap_of hq] at he
    rw [he] at e1
    have e2 : (N.tmod a).natAbs < a.natAbs := by
      rw [Int.natAbs_tmod]
      exact Nat.mod_lt _ (by omega)
    generalize a * b = M at *
    generalize N.tmod a = r at *
    omega
theorem tms_lvs (a b : Int) (ha : Rng a) (hb : Rng b) : lvs 10 a b = !decide (Rng (a * b)) := by
  have ha' := ha
  have hb' := hb
  unfold Rng at ha' hb'
  simp only [lvs]
  by_cases h0 : a = 0
  · subst h0; simp [Rng]
  by_cases g0 : b = 0
  · subst g0; simp [Rng]
  by_cases h1 : a = -1
  · subst h1
    rw [Bool.eq_iff_iff]
    simp [Rng, g0]
    omega
  by_cases g1 : b = -1
  · subst g1
    rw [Bool.eq_iff_iff]
    simp [Rng, h0, h1]
    omega
  have hmin : ∀ c : Int, 0 < c → (-9223372036854775808 : Int).tdiv c = -(9223372036854775808 / c) := fun c hc => by
    rw [show (-9223372036854775808 : Int) = -(9223372036854775808) from rfl, Int.neg_tdiv, Int.tdiv_eq_ediv_of_nonneg (by omega)]
  have hw : ∀ c : Int, 0 < c → wrap64 (-(9223372036854775808 / c)) = -(9223372036854775808 / c) := fun c hc => by
    have h2 : (9223372036854775808 : Int) / c ≤ 9223372036854775808 := Int.ediv_le_self _ (by omega)
    have h3 : 0 ≤ (9223372036854775808 : Int) / c := Int.ediv_nonneg (by omega) (by omega)
    unfold wrap64
    omega
  simp only [h0, g0, h1, g1, if_false]
  by_cases p : 0 < a
  · by_cases q : 0 < b
    · have h2 := Int.ediv_lt_iff_lt_mul (a := 9223372036854775807) (b := a) q
      have h3 : 0 < a * b := Int.mul_pos p q
      simp only [p, q, if_true]
      generalize a * b = M at *
      generalize (9223372036854775807 : Int) / b = Q at *
      by_cases hr : Rng M
      all_goals
        have hr' := hr
        unfold Rng at hr'
        simp [hr]
        omega
    · have h2 := Int.ediv_lt_iff_lt_mul (a := 9223372036854775808) (b := -b) p
      have h3 : 0 < a * (-b) := Int.mul_pos p (by omega)
      have h4 : -b * a = -(a * b) := by rw [Int.neg_mul, Int.mul_comm]
      have h5 : a * (-b) = -(a * b) := by rw [Int.mul_neg]
      simp only [p, q, if_true, if_false]
      rw [hmin a p, hw a p]
      rw [h4] at h2
      rw [h5] at h3
      generalize a * b = M at *
      generalize (9223372036854775808 : Int) / a = Q at *
      by_cases hr : Rng M
      all_goals
        have hr' := hr
        unfold Rng at hr'
        simp [hr]
        omega
  · by_cases q : 0 < b
    · have h2 := Int.ediv_lt_iff_lt_mul (a := 9223372036854775808) (b := -a) q
      have h3 : 0 < (-a) * b := Int.mul_pos (by omega) q
      have h5 : (-a) * b = -(a * b) := by rw [Int.neg_mul]
      simp only [p, q, if_true, if_false]
      rw [hmin b q, hw b q]
      rw [h5] at h2 h3
      generalize a * b = M at *
      generalize (9223372036854775808 : Int) / b = Q at *
      by_cases hr : Rng M
      all_goals
        have hr' := hr
        unfold Rng at hr'
        simp [hr]
        omega
    · have qb : 0 < -b := by omega
      have h2 := Int.ediv_lt_iff_lt_mul (a := 9223372036854775807) (b := -a) qb
      have h3 : 0 < (-a) * (-b) := Int.mul_pos (by omega) qb
      have h5 : (-a) * (-b) = a * b := by rw [Int.neg_mul_neg]
      have h6 : (9223372036854775807 : Int).tdiv b = -(9223372036854775807 / (-b)) := by
        rw [← Int.tdiv_eq_ediv_of_nonneg (by omega), Int.tdiv_neg, Int.neg_neg]
      have h7 : wrap64 (-(9223372036854775807 / (-b))) = -(9223372036854775807 / (-b)) := by
        have h2 : (9223372036854775807 : Int) / (-b) ≤ 9223372036854775807 := Int.ediv_le_self _ (by omega)
        have h3 : 0 ≤ (9223372036854775807 : Int) / (-b) := Int.ediv_nonneg (by omega) (by omega)
        unfold wrap64
        omega
      simp only [p, q, if_false]
      rw [h6, h7]
      rw [h5] at h2 h3
      generalize a * b = M at *
      generalize (9223372036854775807 : Int) / (-b) = Q at *
      by_cases hr : Rng M
      all_goals
        have hr' := hr
        unfold Rng at hr'
        simp [hr]
        omega
end Go.Proofs.YtmfkdpfcpdmkdaaGreatDoor
/- Plain facts: the order of values is one. -/
namespace Go.Proofs.YtmfkdpfcpdmkdaaGreatDoor
set_option linter.unusedVariables false
set_option linter.unusedSimpArgs false
open Go.RowKit
/-- What three comparisons of one order say of each other. -/
def TR (ab ba bc ac : Int) : Prop := -1 ≤ ab ∧ ab ≤ 1 ∧ -1 ≤ bc ∧ bc ≤ 1 ∧ -1 ≤ ac ∧ ac ≤ 1 ∧ ab = -ba ∧ (ab ≤ 0 → bc ≤ 0 → ac ≤ 0 ∧ (ac < 0 ↔ ab < 0 ∨ bc < 0))
theorem TR_or {a b c d a' b' c' d' a'' b'' c'' d'' : Int} (h : TR a b c d) (h' : TR a' b' c' d') (h'' : TR a'' b'' c'' d'') : TR (or3 a a' a'') (or3 b b' b'') (or3 c c' c'') (or3 d d' d'') := by
  unfold TR at *
  have ha : or3 a a' a'' = if a ≠ 0 then a else if a' ≠ 0 then a' else a'' := rfl
  have hb : or3 b b' b'' = if b ≠ 0 then b else if b' ≠ 0 then b' else b'' := rfl
  have hc : or3 c c' c'' = if c ≠ 0 then c else if c' ≠ 0 then c' else c'' := rfl
  have hd : or3 d d' d'' = if d ≠ 0 then d else if d' ≠ 0 then d' else d'' := rfl
  rw [ha, hb, hc, hd]
  by_cases xa : a = 0 <;> by_cases xc : c = 0 <;> by_cases xd : d = 0 <;> by_cases ya : a' = 0 <;> by_cases yc : c' = 0 <;> by_cases yd : d' = 0 <;>
    (have xb : b = -a := by omega
     have yb : b' = -a' := by omega
     simp only [xa, xc, xd, ya, yc, yd, xb, yb, ne_eq, not_true_eq_false, not_false_eq_true, if_true, if_false, Int.neg_eq_zero, Int.neg_zero] at h h' h'' ⊢
     omega)
theorem TR_sgn (a b c : Int) : TR (sgn a b) (sgn b a) (sgn b c) (sgn a c) := by
  unfold TR sgn
  by_cases h1 : a < b <;> by_cases h2 : b < a <;> by_cases h3 : b < c <;> by_cases h4 : c < b <;> by_cases h5 : a < c <;> by_cases h6 : c < a <;> simp [h1, h2, h3, h4, h5, h6] <;> omega
theorem sgs_lt {a b : ByteArray} (h : Op.bytesLess a.toList b.toList = true) : sgs a b = -1 := by simp [sgs_of, h]
theorem sgs_gt {a b : ByteArray} (h : Op.bytesLess b.toList a.toList = true) : sgs a b = 1 := by simp [sgs_of, h, bl_asy _ _ h]
theorem sgs_eq {a b : ByteArray} (h : a = b) : sgs a b = 0 := by subst h; simp [sgs_of, bl_irr]
theorem sgs_tri (a b : ByteArray) : Op.bytesLess a.toList b.toList = true ∨ a = b ∨ Op.bytesLess b.toList a.toList = true := by
  rcases h : Op.bytesLess a.toList b.toList with _ | _
  · rcases g : Op.bytesLess b.toList a.toList with _ | _
    · exact .inr (.inl (same_of (bl_tri _ _ h g)))
    · exact .inr (.inr rfl)
  · exact .inl rfl
theorem TR_sgs (a b c : ByteArray) : TR (sgs a b) (sgs b a) (sgs b c) (sgs a c) := by
  unfold TR
  rcases sgs_tri a b with h | rfl | h
  · rcases sgs_tri b c with g | rfl | g
    · rw [sgs_lt h, sgs_gt h, sgs_lt g, sgs_lt (bl_trans _ _ _ h g)]; simp
    · rw [sgs_lt h, sgs_gt h, sgs_eq rfl]; simp
    · rw [sgs_lt h, sgs_gt h, sgs_gt g]
      rcases sgs_tri a c with k | rfl | k
      · rw [sgs_lt k]; simp
      · rw [sgs_eq rfl]; simp
      · rw [sgs_gt k]; simp
  · rw [sgs_eq rfl]
    rcases sgs_tri a c with k | rfl | k
    · rw [sgs_lt k]; simp
    · rw [sgs_eq rfl]; simp
    · rw [sgs_gt k]; simp
  · rw [sgs_gt h, sgs_lt h]
    rcases sgs_tri b c with g | rfl | g
    · rw [sgs_lt g]
      rcases sgs_tri a c with k | rfl | k
      · rw [sgs_lt k]; simp
      · rw [sgs_eq rfl]; simp
      · rw [sgs_gt k]; simp
    · rw [sgs_eq rfl, sgs_gt h]; simp
    · rw [sgs_gt g, sgs_gt (bl_trans _ _ _ g h)]; simp
theorem TR_ord (a b c : V) : TR (ord a b) (ord b a) (ord b c) (ord a c) := TR_or (TR_sgn _ _ _) (TR_sgn _ _ _) (TR_sgs _ _ _)
theorem ord_zero (a b : V) : ord a b = 0 ↔ (a.k = b.k ∧ a.n = b.n ∧ a.t.toList = b.t.toList) := by
  have s : ∀ x y : Int, sgn x y = 0 ↔ x = y := fun x y => by unfold sgn; by_cases h1 : x < y <;> by_cases h2 : y < x <;> simp [h1, h2] <;> omega
  have t : sgs a.t b.t = 0 ↔ a.t.toList = b.t.toList := by
    rcases sgs_tri a.t b.t with h | h | h
    · rw [sgs_lt h]
      refine ⟨fun g => by omega, fun g => ?_⟩
      rw [g, bl_irr] at h
      cases h
    · rw [sgs_eq h, h]; simp
    · rw [sgs_gt h]
      refine ⟨fun g => by omega, fun g => ?_⟩
      rw [g, bl_irr] at h
      cases h
  unfold ord or3
  have e1 := s a.k b.k
  have e2 := s a.n b.n
  rw [← e1, ← e2, ← t]
  clear e1 e2 s t
  generalize sgn a.k b.k = x
  generalize sgn a.n b.n = y
  generalize sgs a.t b.t = z
  by_cases hx : x = 0 <;> by_cases hy : y = 0 <;> simp [hx, hy]
end Go.Proofs.YtmfkdpfcpdmkdaaGreatDoor
/- Plain facts: what Two makes of two numbers. -/
namespace Go.Proofs.YtmfkdpfcpdmkdaaGreatDoor
set_option linter.unusedVariables false
set_option linter.unusedSimpArgs false
open Go.RowKit
theorem tms_val (a b : Int) (h : Rng (a * b)) : (tms a b).1 = a * b := by
  have w := wrap_of h
  unfold tms
  by_cases h0 : a = 0
  · subst h0; simp
  by_cases h1 : a = -1
  · subst h1
    have e : (-1 : Int) * b = -b := by omega
    rw [e] at w
    simp [w]
  simp [h0, h1, w]
theorem two_add (a b : Int) (ha : Rng a) (hb : Rng b) : two 8 ⟨2, a, ⟨#[]⟩⟩ ⟨2, b, ⟨#[]⟩⟩ = if Rng (a + b) then (⟨2, a + b, ⟨#[]⟩⟩, 0) else (⟨0, 0, ⟨#[]⟩⟩, 5) := by
  have r := (cpt8 a b ha hb).1
  have v : (cpt 8 a b).1 = wrap64 (a + b) := rfl
  by_cases h : Rng (a + b)
  · simp [two, reck, chk2, chk, nmb, known, unk, nul, e_list, e_size, r, h, v, wrap_of h]
  · simp [two, reck, chk2, chk, nmb, known, unk, nul, e_list, e_size, r, h]
theorem two_sub (a b : Int) (ha : Rng a) (hb : Rng b) : two 9 ⟨2, a, ⟨#[]⟩⟩ ⟨2, b, ⟨#[]⟩⟩ = if Rng (a - b) then (⟨2, a - b, ⟨#[]⟩⟩, 0) else (⟨0, 0, ⟨#[]⟩⟩, 5) := by
  have r := (cpt9 a b ha hb).1
  have v : (cpt 9 a b).1 = wrap64 (a - b) := rfl
  by_cases h : Rng (a - b)
  · simp [two, reck, chk2, chk, nmb, known, unk, nul, e_list, e_size, r, h, v, wrap_of h]
  · simp [two, reck, chk2, chk, nmb, known, unk, nul, e_list, e_size, r, h]
theorem two_mul (a b : Int) (ha : Rng a) (hb : Rng b) : two 10 ⟨2, a, ⟨#[]⟩⟩ ⟨2, b, ⟨#[]⟩⟩ = if Rng (a * b) then (⟨2, a * b, ⟨#[]⟩⟩, 0) else (⟨0, 0, ⟨#[]⟩⟩, 5) := by
  have e : cpt 10 a b = tms a b := by simp [cpt]
  have r := tms_fits a b ha hb
  by_cases h : Rng (a * b)
  · have v := tms_val a b h
    simp [two, reck, chk2, chk, nmb, known, unk, nul, e_list, e_size, e, r, h, v]
  · simp [two, reck, chk2, chk, nmb, known, unk, nul, e_list, e_size, e, r, h]
theorem rng_small {x : Int} (h0 : 0 ≤ x) (h1 : x ≤ 4611686018427387904) : Rng x := by unfold Rng; omega
end Go.Proofs.YtmfkdpfcpdmkdaaGreatDoor

/- What does not go together is refused, and Null goes with all: at every kind of op and every two raw values. No condition. -/
import Derived.Test.YtconigmpiggihaaFr
import Derived.Test.YtconigmpiggihaaTa
import Derived.Test.YtconigmpiggihaaTb
import Derived.Test.YtconigmpiggihaaTc
import Derived.Test.YtconigmpiggihaaTd
import Derived.Test.YtconigmpiggihaaTe
namespace Go.Proofs.Ytconigmpiggihaa.lTwoTypes
open Go.ChangeShapes Go.WideShapes Go.ChangeAt Go.RowKit Go.Joins
open Go.ChangeMaps (open_string shut_string)
set_option linter.unusedVariables false
set_option linter.unusedSimpArgs false
set_option maxHeartbeats 400000

theorem kind_in {A : V} (hA : chk A.k A.n A.t = 0) : A.k = 0 ∨ A.k = 1 ∨ A.k = 2 ∨ A.k = 3 := by
  have h := chk0 hA
  omega
theorem pureN (A B : V) (c : chk2 A B = 0) : two 5 A B = (⟨0, 0, ⟨#[]⟩⟩, 2) := by simp [two, c, nul]
theorem nul_or (A B : V) (k : Int) (c : chk2 A B = 0) (hk : k = 3 ∨ k = 4 ∨ k = 6 ∨ k = 7 ∨ k = 8 ∨ k = 9 ∨ k = 10) : (two k A B).2 = 0 ∨ ((two k A B).1.k = 0 ∧ (two k A B).1.n = 0 ∧ (two k A B).1.t = ⟨#[]⟩) := by
  have hj : ∀ d, (join A B d).2 = 0 ∨ ((join A B d).1.k = 0 ∧ (join A B d).1.n = 0 ∧ (join A B d).1.t = ⟨#[]⟩) := fun d => by
    unfold join
    split
    · exact .inr ⟨rfl, rfl, rfl⟩
    split
    · exact .inl rfl
    split
    · exact .inl rfl
    split <;> exact .inl rfl
  have hh : ∀ d, (hold d A B).2 = 0 ∨ ((hold d A B).1.k = 0 ∧ (hold d A B).1.n = 0 ∧ (hold d A B).1.t = ⟨#[]⟩) := fun d => by
    unfold hold
    split
    · exact .inl rfl
    split
    · exact .inr ⟨rfl, rfl, rfl⟩
    split <;> exact .inl rfl
  have hr : ∀ d, (reck d A B).2 = 0 ∨ ((reck d A B).1.k = 0 ∧ (reck d A B).1.n = 0 ∧ (reck d A B).1.t = ⟨#[]⟩) := fun d => by
    unfold reck
    split
    · exact .inr ⟨rfl, rfl, rfl⟩
    split
    · exact .inl rfl
    split
    · exact .inr ⟨rfl, rfl, rfl⟩
    · exact .inl rfl
  rcases hk with rfl | rfl | rfl | rfl | rfl | rfl | rfl
  · rw [show two 3 A B = join A B 0 by simp [two, c]]; exact hj 0
  · rw [show two 4 A B = join A B 1 by simp [two, c]]; exact hj 1
  · rw [show two 6 A B = hold 6 A B by simp [two, c]]; exact hh 6
  · rw [show two 7 A B = hold 7 A B by simp [two, c]]; exact hh 7
  · rw [show two 8 A B = reck 8 A B by simp [two, c]]; exact hr 8
  · rw [show two 9 A B = reck 9 A B by simp [two, c]]; exact hr 9
  · rw [show two 10 A B = reck 10 A B by simp [two, c]]; exact hr 10
theorem err_join (A B : V) (d : Int) (hA : A.k = 0 ∨ A.k = 1 ∨ A.k = 2 ∨ A.k = 3) (hB : B.k = 0 ∨ B.k = 1 ∨ B.k = 2 ∨ B.k = 3) : (join A B d).2 = 4 ↔ ¬ (A.k ≤ 1 ∧ B.k ≤ 1) := by
  have hk : known A.k B.k 1 = decide (A.k ≤ 1 ∧ B.k ≤ 1) := by
    rcases hA with h | h | h | h <;> rcases hB with g | g | g | g <;> simp [known, h, g]
  by_cases h : A.k ≤ 1 ∧ B.k ≤ 1
  · have hd : known A.k B.k 1 = true := by rw [hk]; exact decide_eq_true h
    refine ⟨fun g => ?_, fun g => absurd h g⟩
    exfalso
    unfold join at g
    rw [hd] at g
    simp only [Bool.true_eq_false, if_false] at g
    split at g
    · simp at g
    split at g
    · simp at g
    split at g <;> simp at g
  · have hd : known A.k B.k 1 = false := by rw [hk]; exact decide_eq_false h
    refine ⟨fun _ => h, fun _ => ?_⟩
    unfold join
    rw [hd]
    simp
theorem err_hold (A B : V) (d : Int) : (hold d A B).2 = 4 ↔ ¬ (A.k = B.k ∨ A.k = 0 ∨ B.k = 0) := by
  constructor
  · intro g h
    unfold hold at g
    split at g
    · simp at g
    · rename_i hu
      split at g
      · rename_i hk
        rcases h with h | h | h
        · exact hk h
        · exact hu (by simp [unk, h])
        · exact hu (by simp [unk, h])
      · split at g <;> simp at g
  · intro h
    have h1 : ¬ A.k = B.k := fun g => h (.inl g)
    have h2 : ¬ A.k = 0 := fun g => h (.inr (.inl g))
    have h3 : ¬ B.k = 0 := fun g => h (.inr (.inr g))
    have hu : ¬ unk A.k B.k = true := by simp [unk, h2, h3]
    unfold hold
    rw [if_neg hu, if_pos h1]
theorem err_reck (A B : V) (d : Int) : (reck d A B).2 = 4 ↔ ¬ ((A.k = 2 ∨ A.k = 0) ∧ (B.k = 2 ∨ B.k = 0)) := by
  constructor
  · intro g h
    unfold reck at g
    split at g
    · rename_i hu
      have hk : known A.k B.k 2 = true := by simp [known]; exact h
      rw [hk] at hu
      cases hu
    · split at g
      · simp at g
      split at g <;> simp at g
  · intro h
    have hk : known A.k B.k 2 = false := by
      rw [Bool.eq_false_iff]
      intro g
      apply h
      simp [known] at g
      exact g
    unfold reck
    rw [if_pos hk]
theorem walk (d : Int) (wd : (Lit.int .i64 d).wf = true) (k1 n1 : Int) (s1 : ByteArray) (wk1 : (Lit.int .i64 k1).wf = true) (wn1 : (Lit.int .i64 n1).wf = true) (ws1 : s1.size ≤ maxLen) (k2 n2 : Int) (s2 : ByteArray) (wk2 : (Lit.int .i64 k2).wf = true) (wn2 : (Lit.int .i64 n2).wf = true) (ws2 : s2.size ≤ maxLen) (w : World) :
    Calls Try.prog 12 #[.int .i64 d, .agg #[.int .i64 k1, .int .i64 n1, .string s1], .agg #[.int .i64 k2, .int .i64 n2, .string s2]] w fun e w' => e = .returned (.bool true) ∧ Below w.heap.size w w' := by
  have hd := pck_in d 7 (by omega)
  have c := raw2 k1 n1 s1 k2 n2 s2
  have ha := kind_in (raw_ok k1 n1 s1)
  have hb := kind_in (raw_ok k2 n2 s2)
  have hc : pck d 7 = 0 ∨ pck d 7 = 1 ∨ pck d 7 = 2 ∨ pck d 7 = 3 ∨ pck d 7 = 4 ∨ pck d 7 = 5 ∨ pck d 7 = 6 := by omega
  rcases hc with h | h | h | h | h | h | h
  · have e : two 3 (rawV k1 n1 s1) (rawV k2 n2 s2) = join (rawV k1 n1 s1) (rawV k2 n2 s2) 0 := by simp [two, c]
    have q := err_join (rawV k1 n1 s1) (rawV k2 n2 s2) 0 ha hb
    have z := nul_or (rawV k1 n1 s1) (rawV k2 n2 s2) 3 c (by omega)
    rw [← e] at q
    exact core0 d (rng_of wd) k1 n1 s1 (rng_of wk1) (rng_of wn1) ws1 k2 n2 s2 (rng_of wk2) (rng_of wn2) ws2 _ _ _ _ _ _ _ _ _ _ h rfl rfl rfl (pureN _ _ c) ⟨q, z⟩ w
  · have e : two 4 (rawV k1 n1 s1) (rawV k2 n2 s2) = join (rawV k1 n1 s1) (rawV k2 n2 s2) 1 := by simp [two, c]
    have q := err_join (rawV k1 n1 s1) (rawV k2 n2 s2) 1 ha hb
    have z := nul_or (rawV k1 n1 s1) (rawV k2 n2 s2) 4 c (by omega)
    rw [← e] at q
    exact core1 d (rng_of wd) k1 n1 s1 (rng_of wk1) (rng_of wn1) ws1 k2 n2 s2 (rng_of wk2) (rng_of wn2) ws2 _ _ _ _ _ _ _ _ _ _ h rfl rfl rfl (pureN _ _ c) ⟨q, z⟩ w
  · have e : two 6 (rawV k1 n1 s1) (rawV k2 n2 s2) = hold 6 (rawV k1 n1 s1) (rawV k2 n2 s2) := by simp [two, c]
    have q := err_hold (rawV k1 n1 s1) (rawV k2 n2 s2) 6
    have z := nul_or (rawV k1 n1 s1) (rawV k2 n2 s2) 6 c (by omega)
    rw [← e] at q
    exact core2 d (rng_of wd) k1 n1 s1 (rng_of wk1) (rng_of wn1) ws1 k2 n2 s2 (rng_of wk2) (rng_of wn2) ws2 _ _ _ _ _ _ _ _ _ _ h rfl rfl rfl (pureN _ _ c) ⟨q, z⟩ w
  · have e : two 7 (rawV k1 n1 s1) (rawV k2 n2 s2) = hold 7 (rawV k1 n1 s1) (rawV k2 n2 s2) := by simp [two, c]
    have q := err_hold (rawV k1 n1 s1) (rawV k2 n2 s2) 7
    have z := nul_or (rawV k1 n1 s1) (rawV k2 n2 s2) 7 c (by omega)
    rw [← e] at q
    exact core3 d (rng_of wd) k1 n1 s1 (rng_of wk1) (rng_of wn1) ws1 k2 n2 s2 (rng_of wk2) (rng_of wn2) ws2 _ _ _ _ _ _ _ _ _ _ h rfl rfl rfl (pureN _ _ c) ⟨q, z⟩ w
  · have e : two 8 (rawV k1 n1 s1) (rawV k2 n2 s2) = reck 8 (rawV k1 n1 s1) (rawV k2 n2 s2) := by simp [two, c]
    have q := err_reck (rawV k1 n1 s1) (rawV k2 n2 s2) 8
    have z := nul_or (rawV k1 n1 s1) (rawV k2 n2 s2) 8 c (by omega)
    rw [← e] at q
    exact core4 d (rng_of wd) k1 n1 s1 (rng_of wk1) (rng_of wn1) ws1 k2 n2 s2 (rng_of wk2) (rng_of wn2) ws2 _ _ _ _ _ _ _ _ _ _ h rfl rfl rfl (pureN _ _ c) ⟨q, z⟩ w
  · have e : two 9 (rawV k1 n1 s1) (rawV k2 n2 s2) = reck 9 (rawV k1 n1 s1) (rawV k2 n2 s2) := by simp [two, c]
    have q := err_reck (rawV k1 n1 s1) (rawV k2 n2 s2) 9
    have z := nul_or (rawV k1 n1 s1) (rawV k2 n2 s2) 9 c (by omega)
    rw [← e] at q
    exact core5 d (rng_of wd) k1 n1 s1 (rng_of wk1) (rng_of wn1) ws1 k2 n2 s2 (rng_of wk2) (rng_of wn2) ws2 _ _ _ _ _ _ _ _ _ _ h rfl rfl rfl (pureN _ _ c) ⟨q, z⟩ w
  · have e : two 10 (rawV k1 n1 s1) (rawV k2 n2 s2) = reck 10 (rawV k1 n1 s1) (rawV k2 n2 s2) := by simp [two, c]
    have q := err_reck (rawV k1 n1 s1) (rawV k2 n2 s2) 10
    have z := nul_or (rawV k1 n1 s1) (rawV k2 n2 s2) 10 c (by omega)
    rw [← e] at q
    exact core6 d (rng_of wd) k1 n1 s1 (rng_of wk1) (rng_of wn1) ws1 k2 n2 s2 (rng_of wk2) (rng_of wn2) ws2 _ _ _ _ _ _ _ _ _ _ h rfl rfl rfl (pureN _ _ c) ⟨q, z⟩ w

theorem lifted (os : Os) (started : os.Started) (H : Type) (enc : TypeId × Value → H) :
    ReturnsInHanded {} Try.checked os 12 .any (Rows.twoTypesSpec.pre6 enc Try.prog Try.f12 Rows.twoTypesRow.domain false) (Rows.twoTypesSpec.post enc Try.prog Try.f12 false true false false) := by
  refine returnsInHanded_of_change (C := Try.checked) Try.own started (by kernel_rfl) Try.func12
    (ChangeSpec.witness6 (enc := enc) (C := Try.checked) false ⟨#[], #[.int .i64 0, .agg #[.int .i64 0, .int .i64 0, .string ⟨#[]⟩], .agg #[.int .i64 0, .int .i64 0, .string ⟨#[]⟩]], []⟩ 8 (by kernel_rfl) (by kernel_rfl) (by kernel_rfl) (by kernel_rfl)) ?_
  intro W base args ds gs before hval0 hW hcnd _
  have hval : ∀ (j : Nat) t v, Try.f12.params[j]? = some t → args[j]? = some v → Value.okWide Try.prog W .any base t v := hval0
  have hW' := hW
  obtain ⟨p, q, hA0, hV, rfl, hfz, hnd⟩ := hW
  have hA : DataW.TrodAll enc Try.prog W 0 (fun _ => true) true Try.f12.params.toList args.toList ds p := hA0
  rw [Try.params12] at hA hval
  obtain ⟨v0, v1, v2, d0, d1, d2, p0, p1, p2, rfl, rfl, rfl, h0, h1, h2⟩ := trodAll_three hA
  obtain ⟨rfl, rfl⟩ := trodVars_none hV
  obtain ⟨a0, rfl, rfl, rfl, w0⟩ := open_int Try.underlying3 (hval 0 3 v0 rfl rfl) h0
  obtain ⟨c10, c11, c12, y10, y11, y12, m1, rfl, rfl, hp1, hy10, hy11, hy12⟩ := open_agg3 Try.underlying35 (by kernel_rfl) (by kernel_rfl) (hval 1 35 v1 rfl rfl) h1
  obtain ⟨k1, e10, rfl, wk1⟩ := DataW.trod_int Try.underlying3 hy10
  obtain ⟨n1, e11, rfl, wn1⟩ := DataW.trod_int Try.underlying3 hy11
  obtain ⟨s1, e12, rfl, ws1⟩ := DataW.trod_string Try.underlying9 hy12
  simp at e10 e11 e12
  subst e10 e11 e12
  obtain ⟨c20, c21, c22, y20, y21, y22, m2, rfl, rfl, hp2, hy20, hy21, hy22⟩ := open_agg3 Try.underlying35 (by kernel_rfl) (by kernel_rfl) (hval 2 35 v2 rfl rfl) h2
  obtain ⟨k2, e20, rfl, wk2⟩ := DataW.trod_int Try.underlying3 hy20
  obtain ⟨n2, e21, rfl, wn2⟩ := DataW.trod_int Try.underlying3 hy21
  obtain ⟨s2, e22, rfl, ws2⟩ := DataW.trod_string Try.underlying9 hy22
  simp at e20 e21 e22
  subst e20 e21 e22
  clear hA0 hval0
  refine (walk a0 w0 k1 n1 s1 wk1 wn1 ws1 k2 n2 s2 wk2 wn2 ws2 W).mono fun e W' ⟨he, hg⟩ => ?_
  subst he
  exact ⟨_, rfl, law_post (tb := 4) Try.laidOut (by kernel_rfl) (by kernel_rfl) Try.underlying4 rfl hW' hg rfl rfl rfl⟩

theorem proved : Rows.TwoTypesSaid :=
  OpenClaim.holds_of_wide 12 Try.f12 rfl rfl rfl rfl rfl rfl rfl ⟨rfl, rfl, rfl, rfl, rfl⟩ rfl rfl rfl rfl rfl (by kernel_rfl) Try.func12 (by kernel_rfl)
    (of_decide_eq_true (by kernel_rfl)) (by unfold Func.isWrapper; first | (rw [if_pos (by decide +kernel)]; kernel_rfl) | (rw [if_neg (by decide +kernel)]; exact ⟨rfl, rfl⟩))
    (fun os started H enc _ => lifted os started H enc)
#print axioms proved
end Go.Proofs.Ytconigmpiggihaa.lTwoTypes

/- Plain: numbers that differ, and what is made of them in whatever order. -/
import Derived.Test.YtacpeibkamfibaaXa
namespace Go.Proofs.Ytacpeibkamfibaa
open Go.ChangeShapes Go.WideShapes Go.ChangeAt Go.RowKit Go.Shelf
set_option linter.unusedVariables false
set_option linter.unusedSimpArgs false
def frL (L : List Int) : Nat → List Int
  | 0 => []
  | n + 1 => if pck (L.getD n 0) 90 ∈ frL L n then frL L n else frL L n ++ [pck (L.getD n 0) 90]
theorem frL_ok (L : List Int) : ∀ n, (frL L n).Nodup ∧ (∀ x ∈ frL L n, 0 ≤ x ∧ x < 90) ∧ (frL L n).length ≤ n
  | 0 => by simp [frL]
  | n + 1 => by
    obtain ⟨h1, h2, h3⟩ := frL_ok L n
    unfold frL
    split
    · exact ⟨h1, h2, by omega⟩
    · rename_i hq
      refine ⟨List.nodup_append.2 ⟨h1, by simp, fun a ha b hb => ?_⟩, fun x hx => ?_, by simp; omega⟩
      · rw [List.mem_singleton.1 hb]
        intro e
        exact hq (e ▸ ha)
      · rcases List.mem_append.1 hx with h | h
        · exact h2 x h
        · rw [List.mem_singleton.1 h]; exact pck_in _ 90 (by omega)
def prs (F : List Int) : List (Key × Int) := F.map fun q => (keyK q, q)
def madeE (F : List Int) (i : Nat) : List (Key × Int) := insAll (prs (F.take i))
structure Nums (F : List Int) : Prop where
  nodup : F.Nodup
  small : ∀ x ∈ F, 0 ≤ x ∧ x < 90
theorem Nums.key {F : List Int} (h : Nums F) {a b : Int} (ha : a ∈ F) (hb : b ∈ F) (he : keyK a = keyK b) : a = b := by
  have h1 := h.small a ha
  have h2 := h.small b hb
  have h3 := keyK_eq.1 he
  unfold pck at h3
  rw [if_neg (by omega), if_neg (by omega)] at h3
  omega
theorem Nums.rev {F : List Int} (h : Nums F) : Nums F.reverse := ⟨(List.reverse_perm F).nodup_iff.2 h.nodup, fun x hx => h.small x (List.mem_reverse.1 hx)⟩
theorem made_zero (F : List Int) : madeE F 0 = [] := rfl
theorem made_step {F : List Int} {i : Nat} (hi : i < F.length) : madeE F (i + 1) = insE (keyK F[i]) F[i] (madeE F i) := by
  unfold madeE insAll prs
  rw [List.take_succ_eq_append_getElem hi, List.map_append, List.foldl_append]
  rfl
theorem made_none {F : List Int} (h : Nums F) {i : Nat} (hi : i < F.length) : lookE (keyK F[i]) (madeE F i) = none := by
  refine lookE_none fun e he hk => ?_
  unfold madeE insAll at he
  rw [foldl_mem] at he
  rcases he with he | he
  · obtain ⟨q, hq, rfl⟩ := List.mem_map.1 he
    obtain ⟨j, hj, rfl⟩ := List.getElem_of_mem hq
    rw [List.length_take] at hj
    rw [List.getElem_take] at hk
    have := h.key (List.getElem_mem (by omega)) (List.getElem_mem hi) hk
    exact (List.pairwise_iff_getElem.1 h.nodup j i (by omega) hi (by omega)) this
  · simp at he
theorem ins_len (l : List (Key × Int)) : ∀ a : List (Key × Int), (l.foldl (fun a e => insE e.1 e.2 a) a).length = l.length + a.length := by
  induction l with
  | nil => simp
  | cons x r ih =>
    intro a
    rw [List.foldl_cons, ih, insE_len, List.length_cons]
    omega
theorem made_all (F : List Int) : (madeE F F.length).length = F.length := by
  unfold madeE insAll
  rw [ins_len]
  simp [prs]
theorem made_turn {F : List Int} (h : Nums F) : madeE F F.length = madeE F.reverse F.length := by
  unfold madeE
  rw [List.take_length, show F.reverse.take F.length = F.reverse from List.take_of_length_le (by simp)]
  refine insAll_turn ((List.reverse_perm F).symm.map _) ?_
  have e : (prs F).map (·.1) = F.map keyK := by simp [prs, Function.comp_def]
  rw [e]
  exact List.pairwise_map.2 (List.Pairwise.imp_of_mem (fun ha hb hne he => hne (h.key ha hb he)) h.nodup)
end Go.Proofs.Ytacpeibkamfibaa

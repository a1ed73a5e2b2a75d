import Derived.Test.YtdeollmeljaaoaaDoorBfk
import Derived.Test.YtdeollmeljaaoaaDoorB0k
import Derived.Deep.Slices
import Derived.Deep.Fields
import Derived.SizedLaws
/- Words on trees in memory: lists of keys, pages, trees; what an argument of such a type reads as. -/
namespace Go.Proofs.YtdeollmeljaaoaaDoor
open Go.ChangeShapes Go.WideShapes Go.ChangeAt Go.RowKit Go.Deep
set_option linter.unusedVariables false
set_option linter.unusedSimpArgs false
set_option maxHeartbeats 400000
/-- On the blocks of which ok holds the world w' is as w was. -/
def Agree (ok : Nat → Prop) (w w' : World) : Prop := ∀ b, ok b → b < w.heap.size → w'.heap[b]? = w.heap[b]?
theorem Agree.below {w w' : World} (hb : Below w.heap.size w w') (ok : Nat → Prop) : Agree ok w w' := fun b _ h => hb.block b h
section
variable {H : Type} {enc : TypeId × Value → H} {P : Program} {w : World} {base : Nat} {held : Bool}
abbrev small (P : Program) (t : TypeId) (d : DataW H) : Prop := ∀ n ∈ d.weights P t, n ≤ reachBytes
theorem weights_all {e : TypeId} : ∀ {l : List (DataW H)} {d : DataW H}, d ∈ l → ∀ n ∈ d.weights P e, n ∈ DataW.weightsAll P e l
  | x :: l, d, hd, n, hn => by
    simp only [DataW.weightsAll, List.mem_append]
    simp only [List.mem_cons] at hd
    rcases hd with rfl | hd
    · exact .inl hn
    · exact .inr (weights_all hd n hn)
/-- A slice whose elements are read one by one. -/
theorem open_rows {t e : TypeId} {fuel C : Nat} {cs : List Value} {x : DataW H × List MemPlace} (ht : P.underlying t = some (.slice e)) (hC : P.cellsOf e = C) (hC0 : 0 < C)
    (h : DataW.trod enc P w base (fun _ => true) held fuel t cs = some x) (hs : small P t x.1) {R : List Value → Prop}
    (hR : ∀ (n : Nat) (cs' : List Value) (y : DataW H × List MemPlace), DataW.trod enc P w base (fun _ => true) held n e cs' = some y → small P e y.1 → R cs') :
    ∃ (v : Value) (n : Nat) (vs : List Value), cs = [v] ∧ Rd w C n v vs ∧ n * P.bytesOf e ≤ reachBytes ∧ ∀ i, i < n → R ((vs.drop (i * C)).take C) := by
  rcases open_slice ht h with ⟨rfl, hx⟩ | ⟨a, len, cap, m, n, D, Pl, rfl, _, hl, hm, hmm, hx, hi⟩
  · exact ⟨_, 0, [], rfl, Rd.nil w C, by simp, fun i hi => by omega⟩
  · simp only [if_true] at hmm
    subst hmm
    have each : ∀ i, ∃ cs' : List Value, i < len → cs'.length = C ∧ (∀ j, j < C → w.cell? (a.add (i * C + j)) = cs'[j]?) ∧ R cs' := by
      intro i
      by_cases hil : i < len
      · obtain ⟨cs', hc, htr⟩ := hi i (by omega)
        rw [hC] at hc
        obtain ⟨_, hlen, hat⟩ := World.cells?_some hc
        refine ⟨cs', fun _ => ⟨hlen, fun j hj => ?_, hR _ _ _ htr ?_⟩⟩
        · rw [← add_add]; exact hat j hj
        · intro q hq
          refine hs q ?_
          rw [hx]
          simp only [DataW.weights, ht]
          refine List.mem_cons_of_mem _ (List.mem_append_left _ (weights_all (d := D i) ?_ q hq))
          exact List.mem_map.2 ⟨i, List.mem_range.2 hil, rfl⟩
      · exact ⟨[], fun h => absurd h hil⟩
    obtain ⟨f, hf⟩ := Classical.axiomOfChoice each
    have hlenf : ∀ k, k ≤ len → (((List.range k).map f).flatten).length = k * C := by
      intro k
      induction k with
      | zero => simp
      | succ k ih =>
        intro hk
        rw [List.range_succ, List.map_append, List.flatten_append, List.length_append, ih (by omega)]
        simp only [List.map_cons, List.map_nil, List.flatten_cons, List.flatten_nil, List.append_nil]
        rw [(hf k (by omega)).1, Nat.succ_mul]
    have hcut : ∀ k, k ≤ len → ∀ i, i < k → ((((List.range k).map f).flatten).drop (i * C)).take C = f i := by
      intro k
      induction k with
      | zero => intro _ i hi'; omega
      | succ k ih =>
        intro hk i hi'
        rw [List.range_succ, List.map_append, List.flatten_append]
        simp only [List.map_cons, List.map_nil, List.flatten_cons, List.flatten_nil, List.append_nil]
        have hL := hlenf k (by omega)
        rcases Nat.lt_or_ge i k with hik | hik
        · have h1 : i * C + C ≤ k * C := by
            rw [← Nat.succ_mul]; exact Nat.mul_le_mul_right _ hik
          rw [List.drop_append_of_le_length (by omega), List.take_append_of_le_length (by rw [List.length_drop]; omega)]
          exact ih (by omega) i hik
        · obtain rfl : i = k := by omega
          rw [← hL, List.drop_left, List.take_of_length_le (by rw [(hf i (by omega)).1]; exact Nat.le_refl _)]
    refine ⟨_, len, ((List.range len).map f).flatten, rfl, ⟨hlenf len (Nat.le_refl _), some a, m, rfl, hl, hm, (fun h => by cases h), fun b hb j u hu => ?_⟩, ?_, fun i hi' => ?_⟩
    · obtain rfl := Option.some.inj hb
      have hj : j < len * C := by
        have := (List.getElem?_eq_some_iff.1 hu).1
        rw [hlenf len (Nat.le_refl _)] at this
        exact this
      have hjc : j / C < len := Nat.div_lt_of_lt_mul (by rw [Nat.mul_comm]; exact hj)
      have hjm : j % C < C := Nat.mod_lt _ hC0
      have e : j / C * C + j % C = j := by rw [Nat.mul_comm]; exact Nat.div_add_mod j C
      have hc := (hf (j / C) hjc).2.1 (j % C) hjm
      rw [e] at hc
      rw [hc, ← hcut len (Nat.le_refl _) (j / C) hjc, List.getElem?_take, if_pos hjm, List.getElem?_drop, e]
      exact hu
    · have := hs ((((List.range len).map D).length + ((List.range (m - len)).map fun j => D (len + j)).length) * P.bytesOf e) (by
        rw [hx]
        simp [DataW.weights, ht])
      simp only [List.length_map, List.length_range] at this
      exact Nat.le_trans (Nat.mul_le_mul_right _ (by omega)) this
    · rw [hcut len (Nat.le_refl _) i hi']
      exact (hf i hi').2.2
theorem weights_each : ∀ {ts : List TypeId} {ds : List (DataW H)} {j : Nat} {t : TypeId} {d : DataW H}, ts[j]? = some t → ds[j]? = some d → ∀ n ∈ d.weights P t, n ∈ DataW.weightsEach P ts ds :=
  fun ht hd => DataW.weights_mem_each ht hd
end
end Go.Proofs.YtdeollmeljaaoaaDoor
/- A raw number, picked: from 0 to so many. -/
namespace Go.Proofs.YtdeollmeljaaoaaDoor
open Go.ChangeShapes Go.WideShapes Go.ChangeAt Go.RowKit
set_option linter.unusedVariables false
set_option linter.unusedSimpArgs false
set_option maxHeartbeats 400000
def Rn (n : Int) : Prop := -9223372036854775808 ≤ n ∧ n ≤ 9223372036854775807
theorem rn_of {n : Int} (h : (Lit.int .i64 n).wf = true) : Rn n := by
  simp [Lit.wf, IntKind.min, IntKind.max, IntKind.signed, IntKind.bits] at h
  exact ⟨by omega, by omega⟩
end Go.Proofs.YtdeollmeljaaoaaDoor

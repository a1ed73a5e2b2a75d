/- A map from keys to rows, beside a tree. -/
import Derived.Test.YtacpeibkamfibaaXa
import Derived.Test.YtacpeibkamfibaaXk
import Derived.Maps.OwnSet
namespace Go.Proofs.Ytacpeibkamfibaa
open Go.ChangeShapes Go.WideShapes Go.ChangeAt Go.RowKit Go.Shelf Go.Maps
set_option linter.unusedVariables false
set_option linter.unusedSimpArgs false
set_option maxHeartbeats 1000000
set_option maxRecDepth 100000
theorem look_ins {k k' : Key} {v : Int} : ∀ {l : List (Key × Int)}, lookE k l = none → lookE k' (insE k v l) = if k' = k then some v else lookE k' l
  | [], _ => by
    by_cases h : k' = k
    · subst h; simp [insE, lookE]
    · simp [insE, lookE, h, Ne.symm h]
  | e :: l, h => by
    have h0 : e.1 ≠ k := look_none h e (by simp)
    have hl : lookE k l = none := lookE_none fun x hx => look_none h x (by simp [hx])
    have ih := look_ins (k := k) (k' := k') (v := v) hl
    unfold lookE at ih ⊢
    by_cases g : kl k e.1 = true
    · by_cases h1 : k' = k
      · subst h1; simp [insE, g]
      · simp [insE, g, h1, Ne.symm h1]
    · simp only [insE, g, Bool.false_eq_true, if_false]
      by_cases h2 : e.1 = k'
      · have h3 : k' ≠ k := fun q => h0 (h2.trans q)
        simp [h2, h3]
      · simp only [List.find?_cons, show (e.1 == k') = false by simpa using h2]
        exact ih
theorem look_off {k k' : Key} {l : List (Key × Int)} : lookE k' (offE k l) = if k' = k then none else lookE k' l := by
  by_cases h : k' = k
  · subst h
    rw [if_pos rfl]
    refine lookE_none fun e he => ?_
    have := (List.mem_filter.1 he).2
    simpa using this
  · rw [if_neg h]
    unfold lookE offE
    rw [List.find?_filter]
    congr 2
    funext e
    by_cases g : e.1 = k'
    · have : (e.1 == k) = false := by simp [g, h]
      simp [g, h]
    · simp [g]
theorem off_len {k : Key} : ∀ {l : List (Key × Int)}, Rise l → (offE k l).length + (if (lookE k l).isSome = true then 1 else 0) = l.length
  | [], _ => by simp [offE, lookE]
  | e :: l, h => by
    have hr := List.pairwise_cons.1 h
    by_cases g : e.1 = k
    · have hn : ∀ x ∈ l, x.1 ≠ k := fun x hx q => by
        have := hr.1 x hx
        rw [g, q] at this
        have h2 := kl_not this
        rw [this] at h2
        cases h2
      have e1 : offE k (e :: l) = offE k l := by simp [offE, g]
      rw [e1, offE_same hn]
      simp [lookE, g]
    · have ih := off_len (k := k) (l := l) hr.2
      have e1 : offE k (e :: l) = e :: offE k l := by simp [offE, g]
      have e2 : lookE k (e :: l) = lookE k l := by simp [lookE, g]
      rw [e1, e2, List.length_cons, List.length_cons]
      omega
theorem lawS : Keyed Try.prog 9 := string_keyed Try.underlying9
theorem zeroI (w : World) : (zeroValue 3).run Try.prog w = .ok (.int .i64 0) w := by kernel_rfl
theorem key_lit {k : Key} (hk : okK k) : keyOf Try.prog 9 (.string ⟨k.toArray⟩) = some (.string k) := by
  have := hk.2
  exact Go.WideMaps.keyOf_string_mk Try.underlying9 (by show k.toArray.size ≤ maxLen; unfold maxLen; simp; omega)
/-- Block b is a map of the entries, at most n of them. -/
def MapM (w : World) (b n : Nat) (l : List (Key × Int)) : Prop := ∃ D : DataW Unit, w.ownsMap Try.prog 9 (plainElem Try.prog 3) b n D ∧ (∀ k : Key, has D (.string k) = (lookE k l).isSome) ∧
  (∀ (k : Key) (v : Int), lookE k l = some v → D.atKey (.string k) (.lit (.int .i64 0)) = .lit (.int .i64 v)) ∧ Maps.size D = l.length
theorem MapM.new (w : World) : MapM (w.alloc (.map #[] 0)) w.heap.size 0 [] := ⟨.map [], World.ownsMap_made _ _ _ _, fun k => rfl, fun k v h => by simp [lookE] at h, rfl⟩
theorem MapM.far {w w' : World} {b n : Nat} {l : List (Key × Int)} (h : MapM w b n l) (hb : w'.heap[b]? = w.heap[b]?) : MapM w' b n l := by
  obtain ⟨D, ⟨es, clock, h1, h2⟩, h3⟩ := h
  exact ⟨D, ⟨es, clock, hb.trans h1, h2⟩, h3⟩
theorem MapM.up {w : World} {b n n' : Nat} {l : List (Key × Int)} (h : MapM w b n l) (hn : n ≤ n') : MapM w b n' l := by
  obtain ⟨D, h1, h3⟩ := h
  exact ⟨D, h1.mono hn, h3⟩
theorem MapM.lt {w : World} {b n : Nat} {l : List (Key × Int)} (h : MapM w b n l) : b < w.heap.size := by
  obtain ⟨D, h1, h3⟩ := h
  exact h1.lt
theorem MapM.below {w w' : World} {b n : Nat} {l : List (Key × Int)} (h : MapM w b n l) (hb : Below w.heap.size w w') : MapM w' b n l := h.far (hb.block b h.lt)
theorem key_is (k : Key) : WideAt.IsKeyLit (.string k) := by first | trivial | rfl | simp [WideAt.IsKeyLit]
theorem lit_ne {a b : Key} (h : a ≠ b) : Lit.string a ≠ Lit.string b := fun q => h (by injection q)
theorem MapM.look {w : World} {b n : Nat} {l : List (Key × Int)} (h : MapM w b n l) {k : Key} (hk : okK k) :
    (Instr.lookup 48 (.map (some b)) (.string ⟨k.toArray⟩) true).run Try.prog w = .ok (.tuple #[.int .i64 ((lookE k l).getD 0), .bool (lookE k l).isSome]) w := by
  obtain ⟨D, h1, h2, h3, h4⟩ := h
  obtain ⟨v, ps, hrun, hv⟩ := h1.look_ok lawS Try.underlying48 (zeroI w) (plainElem_int Try.underlying3 (by decide)) (key_lit hk)
  obtain ⟨c, rfl, hc, hwc⟩ := plainElem_int_inv Try.underlying3 hv
  have hc1 := congrArg Prod.fst hc
  simp only at hc1
  rw [hrun, h2]
  cases hl : lookE k l with
  | none =>
    have : has D (.string k) = false := by rw [h2, hl]; rfl
    rw [atKey_of_not_has this] at hc1
    simp only [DataW.lit.injEq, Lit.int.injEq, true_and] at hc1
    simp [← hc1]
  | some v =>
    rw [h3 k v hl] at hc1
    simp only [DataW.lit.injEq, Lit.int.injEq, true_and] at hc1
    simp [← hc1]
theorem MapM.len {w : World} {b n : Nat} {l : List (Key × Int)} (h : MapM w b n l) (ty : TypeId) : (Builtin.len_ #[48] ty #[.map (some b)]).run Try.prog w = .ok (.int .i64 l.length) w := by
  obtain ⟨D, h1, h2, h3, h4⟩ := h
  rw [h1.len Try.underlying48 ty, h4]
theorem MapM.put {w : World} {b n : Nat} {l : List (Key × Int)} (h : MapM w b n l) (hn : n < maxLen) {k : Key} (hk : okK k) {v : Int} (hv : (Lit.int .i64 v).wf = true) (hl : lookE k l = none) :
    ∃ w', (Instr.mapUpdate 48 (.map (some b)) (.string ⟨k.toArray⟩) (.int .i64 v)).run Try.prog w = .ok () w' ∧ MapM w' b (n + 1) (insE k v l) ∧ w.mapTurned w' b := by
  obtain ⟨D, h1, h2, h3, h4⟩ := h
  have hT := h1.tidy lawS
  obtain ⟨w', hrun, ho, ht⟩ := h1.store lawS Try.underlying48 hn (key_lit hk) (plainElem_int Try.underlying3 hv)
  refine ⟨w', hrun, ⟨_, ho, fun k' => ?_, fun k' v' hv' => ?_, ?_⟩, ht⟩
  · rw [look_ins hl]
    by_cases g : k' = k
    · subst g
      rw [if_pos rfl]
      exact has_put_same hT.isMap (key_is _) _
    · rw [if_neg g, has_put_other (lit_ne g), h2]
  · rw [look_ins hl] at hv'
    by_cases g : k' = k
    · subst g
      rw [if_pos rfl] at hv'
      injection hv' with e
      subst e
      exact atKey_put_same hT.isMap (key_is _) _ _
    · rw [if_neg g] at hv'
      rw [atKey_put_other (lit_ne g)]
      exact h3 k' v' hv'
  · rw [size_put hT, h2, hl, insE_len, h4]
    rfl
theorem MapM.del {w : World} {b n : Nat} {l : List (Key × Int)} (h : MapM w b n l) {k : Key} (hk : okK k) (hr : Rise l) (ty : TypeId) :
    ∃ w', (Builtin.delete_ #[48, 9] ty #[.map (some b), .string ⟨k.toArray⟩]).run Try.prog w = .ok (.tuple #[]) w' ∧ MapM w' b n (offE k l) ∧ w.mapTurned w' b := by
  obtain ⟨D, h1, h2, h3, h4⟩ := h
  have hT := h1.tidy lawS
  obtain ⟨w', hrun, ho, ht⟩ := h1.drop lawS Try.underlying48 (key_lit hk) ty
  refine ⟨w', hrun, ⟨_, ho, fun k' => ?_, fun k' v' hv' => ?_, ?_⟩, ht⟩
  · rw [look_off]
    by_cases g : k' = k
    · subst g
      rw [if_pos rfl]
      exact has_del_same
    · rw [if_neg g, has_del_other (lit_ne g), h2]
  · rw [look_off] at hv'
    by_cases g : k' = k
    · rw [if_pos g] at hv'
      cases hv'
    · rw [if_neg g] at hv'
      rw [atKey_del_other (lit_ne g)]
      exact h3 k' v' hv'
  · have q1 := size_del hT (k := .string k)
    have q2 := off_len (k := k) hr
    rw [h2, h4] at q1
    omega
/-! ### at the operation -/
section
variable (w : World) {ops : Array Oper} {rest : List Oper} {o : Oper} {a : Act} {Q : Exit → Act → World → Prop}
theorem at_look (hg : o.guard = none) (m x : Operand) (hop : o.op = Op.lookup 48 m x true) (b n : Nat) (l : List (Key × Int)) (hm : a.eval m = .map (some b)) (h : MapM w b n l) (k : Key) (hk : okK k) (hx : a.eval x = .string ⟨k.toArray⟩)
    (hK : wpList Try.prog ops Q rest (a.put o.dst (.tuple #[.int .i64 ((lookE k l).getD 0), .bool (lookE k l).isSome])) w) : wpList Try.prog ops Q (o :: rest) a w := by
  refine wpList_plain hg fun K' hK' => ?_
  unfold Oper.wp
  simp [execOp, hop, hm, hx, h.look hk, Result.andThen]
  exact hK' _ _ hK
theorem at_mlen (hg : o.guard = none) (m : Operand) (n' : Nat) (hop : o.op = Op.call { callee := Callee.builtin Builtin.len, args := #[m], argTypes := #[48] }) (b n : Nat) (l : List (Key × Int)) (hm : a.eval m = .map (some b)) (h : MapM w b n l) (hn : l.length = n')
    (hK : wpList Try.prog ops Q rest (a.put o.dst (.int .i64 n')) w) : wpList Try.prog ops Q (o :: rest) a w := by
  refine wpList_plain hg fun K' hK' => ?_
  unfold Oper.wp
  simp [execOp, hop, resolve, invoke, builtin, hm, h.len o.type, hn, Result.andThen]
  exact hK' _ _ hK
theorem at_put (hg : o.guard = none) (m x v : Operand) (hop : o.op = Op.mapUpdate 48 m x v) (b n : Nat) (l : List (Key × Int)) (hm : a.eval m = .map (some b)) (h : MapM w b n l) (hn : n < maxLen) (k : Key) (hk : okK k) (r : Int) (hx : a.eval x = .string ⟨k.toArray⟩) (hv : a.eval v = .int .i64 r)
    (hw : (Lit.int .i64 r).wf = true) (hl : lookE k l = none) (hK : ∀ w', MapM w' b (n + 1) (insE k r l) → w.mapTurned w' b → wpList Try.prog ops Q rest (a.put o.dst undef) w') : wpList Try.prog ops Q (o :: rest) a w := by
  refine wpList_plain hg fun K' hK' => ?_
  obtain ⟨w', hrun, r1, r2⟩ := h.put hn hk hw hl
  unfold Oper.wp
  simp [execOp, hop, hm, hx, hv, hrun, Result.andThen]
  exact hK' _ _ (hK w' r1 r2)
theorem at_del (hg : o.guard = none) (m x : Operand) (hop : o.op = Op.call { callee := Callee.builtin Builtin.delete, args := #[m, x], argTypes := #[48, 9] }) (b n : Nat) (l : List (Key × Int)) (hm : a.eval m = .map (some b)) (h : MapM w b n l) (k : Key) (hk : okK k) (hr : Rise l)
    (hx : a.eval x = .string ⟨k.toArray⟩) (hK : ∀ w', MapM w' b n (offE k l) → w.mapTurned w' b → wpList Try.prog ops Q rest (a.put o.dst (.tuple #[])) w') : wpList Try.prog ops Q (o :: rest) a w := by
  refine wpList_plain hg fun K' hK' => ?_
  obtain ⟨w', hrun, r1, r2⟩ := h.del hk hr o.type
  unfold Oper.wp
  simp [execOp, hop, resolve, invoke, builtin, hm, hx, hrun, Result.andThen]
  exact hK' _ _ (hK w' r1 r2)
end
/-! ### the runs' entries -/
theorem below_turned {B b : Nat} {a w w' : World} (h : Below B a w) (ht : w.mapTurned w' b) (hB : B ≤ b) (hz : B ≤ w.heap.size) : Below B a w' := h.grown ht.grown hz fun k hk => by cases hk; exact hB
theorem run_rise (L : List Int) : ∀ j, Rise (runE L j)
  | 0 => List.Pairwise.nil
  | j + 1 => by
    have ih := run_rise L j
    unfold runE stepE
    split
    · exact offE_rise ih
    · split
      · exact ih
      · exact insE_rise ih (look_none (by
          rename_i h1 h2
          cases h : lookE (keyK (L.getD j 0)) (runE L j) with
          | none => rfl
          | some v => rw [h] at h2; simp at h2))
theorem run_key (L : List Int) : ∀ (m : Nat) (e : Key × Int), e ∈ runE L m → okK e.1
  | 0, e, h => by simp [runE] at h
  | m + 1, e, h => by
    have ih := run_key L m
    unfold runE stepE at h
    split at h
    · exact ih e (List.mem_filter.1 h).1
    · split at h
      · exact ih e h
      · rcases insE_mem.1 h with rfl | h
        · exact keyK_ok _
        · exact ih e h
theorem run_neg {L : List Int} {j : Nat} {x : Int} (hx : L.getD j 0 = x) (h : x < 0) : runE L (j + 1) = offE (keyK x) (runE L j) := by
  show stepE _ _ _ = _
  rw [hx]
  exact if_pos h
theorem run_has {L : List Int} {j : Nat} {x : Int} (hx : L.getD j 0 = x) (h : ¬ x < 0) (hl : (lookE (keyK x) (runE L j)).isSome = true) : runE L (j + 1) = runE L j := by
  show stepE _ _ _ = _
  rw [hx]
  exact (if_neg h).trans (if_pos hl)
theorem run_new {L : List Int} {j : Nat} {x : Int} (hx : L.getD j 0 = x) (h : ¬ x < 0) (hl : lookE (keyK x) (runE L j) = none) : runE L (j + 1) = insE (keyK x) j (runE L j) := by
  show stepE _ _ _ = _
  rw [hx]
  exact (if_neg h).trans (if_neg (by rw [hl]; simp))
end Go.Proofs.Ytacpeibkamfibaa

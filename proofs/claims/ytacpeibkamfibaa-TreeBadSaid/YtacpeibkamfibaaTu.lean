/- Text Tg's walk inside a fence: a region that draws its order, in a state S that holds up to its last operations alone. -/
import Derived.OrdersIn
import Derived.Test.YtacpeibkamfibaaTg
namespace Go.Proofs.Ytacpeibkamfibaa
open Go
set_option linter.unusedVariables false
set_option linter.unusedSimpArgs false
section
variable {F : Fence} {n : Nat} {P : Program} {ops : Array Oper} {Q : Exit → Act → World → Prop} {md : Region.Mode} {S : World → Prop} {L : List Nat}
/-- It yields in every world that meets S, and calls nothing in any. -/
def YieldsG (P : Program) (ops : Array Oper) (S : World → Prop) (o : Oper) (v : Value) (a : Act) : Prop := YieldsIf P ops S o v a ∧ ∀ w, o.about P w a.eval = none
theorem YieldsG.calm {o : Oper} {v : Value} {a : Act} (hy : YieldsG P ops S o v a) (w : World) : ∀ f, o.about P w a.eval = some f → F.fn f := fun f hf => by rw [hy.2 w] at hf; cases hf
theorem YieldsG.op {i : Nat} {o : Oper} {v : Value} {a : Act} (hro : F.round = none) (hi : ops[i]? = some o) (hy : YieldsG P ops S o v a) {K : Act → World → Prop} {w : World} (hS : S w) (h : K (a.put o.dst v) w) : wpOpIn F n P ops Q i K a w := by
  have hab := hy.calm (F := F) w
  unfold wpOpIn
  simp only [hi]
  rcases hy.1 with ⟨hw, hv⟩ | ⟨hw, hv⟩
  · rw [if_pos hw]
    refine ⟨hab, ?_⟩
    rw [hro, Oper.semAt_none, hv w hS]
    exact h
  · subst hv
    rw [if_neg (by rw [hw]; simp)]
    exact ⟨hab, h⟩
theorem YieldsG.same {o : Oper} {v : Value} {a a' : Act} (hy : YieldsG P ops S o v a) (he : execOp a'.eval o = execOp a.eval o)
    (hw : Region.wanted o (yielded ops a'.tmps) = Region.wanted o (yielded ops a.tmps)) (hb : ∀ w, o.about P w a'.eval = o.about P w a.eval) : YieldsG P ops S o v a' :=
  ⟨hy.1.of_same he hw, fun w => (hb w).trans (hy.2 w)⟩
theorem YieldsG.put {oi oj : Oper} {v : Value} (hap : oi.apart ops oj = true) (hsi : ∀ cs b, oi.op ≠ .select cs b) {a : Act} (hy : YieldsG P ops S oi v a) (u : Value) : YieldsG P ops S oi v (a.put oj.dst u) :=
  hy.same (execOp_put oi hsi a oj.dst u (Oper.apart_spec hap).2.2) (wanted_put oi a oj.dst u (Oper.apart_spec hap).2.2) fun w => about_put oi w a oj.dst u (Oper.apart_spec hap).2.2
/-- An operation apart from one that yields: it does the same behind it. -/
theorem opIn_swap {j : Nat} {oi oj : Oper} {v : Value} (hro : F.round = none) (hj : ops[j]? = some oj) (hap : oi.apart ops oj = true) (hsi : ∀ cs b, oi.op ≠ .select cs b) (hsj : ∀ cs b, oj.op ≠ .select cs b)
    (hQ : ∀ c a w, Q (.panic c) (a.put oi.dst v) w → Q (.panic c) a w) {K : Act → World → Prop} {a : Act} {w : World} (hy : YieldsG P ops S oi v a) (h : wpOpIn F n P ops Q j K (a.put oi.dst v) w) :
    wpOpIn F n P ops Q j (fun a' w' => YieldsG P ops S oi v a' ∧ K (a'.put oi.dst v) w') a w := by
  have h1 := (Oper.apart_spec hap).1
  have h2 := (Oper.apart_spec hap).2.1
  have next : ∀ (u : Value) (w' : World), K ((a.put oi.dst v).put oj.dst u) w' → YieldsG P ops S oi v (a.put oj.dst u) ∧ K ((a.put oj.dst u).put oi.dst v) w' := fun u w' hk => ⟨hy.put hap hsi u, by rw [← Act.put_comm a v u h2]; exact hk⟩
  unfold wpOpIn at h ⊢
  simp only [hj] at h ⊢
  rw [wanted_put oj a oi.dst v h1, about_put oj w a oi.dst v h1] at h
  by_cases hw : Region.wanted oj (yielded ops a.tmps) = true
  · rw [if_pos hw] at h ⊢
    obtain ⟨ha, h⟩ := h
    rw [about_put oj w a oi.dst v h1] at ha
    refine ⟨ha, ?_⟩
    rw [hro, Oper.semAt_none, execOp_put oj hsj a oi.dst v h1] at h
    rw [hro, Oper.semAt_none]
    revert h
    cases (execOp a.eval oj).run P w with
    | ok x w' =>
      cases x with
      | value u => exact next u w'
      | skip => exact next undef w'
      | defer d =>
        intro h
        have hd : YieldsG P ops S oi v { a with defers := d :: a.defers } := hy.same rfl rfl fun _ => rfl
        refine ⟨hd.put hap hsi undef, ?_⟩
        rw [← Act.put_comm _ v undef h2, ← Act.put_defers]
        exact h
      | enter f args =>
        rintro ⟨hd, h⟩
        refine ⟨hd, h.mono fun e w2 he => ?_⟩
        cases e with
        | returned u => exact next u w2 he
        | panicked c => exact hQ _ _ _ he
        | outgrown => exact he
      | row r args =>
        rintro ⟨hd, h⟩
        exact ⟨hd, h.mono fun u w2 he => next u w2 he⟩
      | round l f tmps as bd =>
        rintro ⟨hd, h⟩
        refine ⟨hd, h.mono fun e w2 he => ?_⟩
        cases e with
        | returned u => exact next u w2 he
        | panicked c => exact hQ _ _ _ he
        | outgrown => exact he
      | _ => exact id
    | halt x w' =>
      cases x with
      | panic u => exact hQ _ _ _
      | _ => exact id
  · rw [if_neg hw] at h ⊢
    exact ⟨h.1, next undef w h.2⟩
/-- Whatever order is picked from here on; behind each operation, as long as none of L has come up, the state S holds. -/
def wpAnyTIn (F : Fence) (n : Nat) (P : Program) (md : Region.Mode) (ops : Array Oper) (Q : Exit → Act → World → Prop) (S : World → Prop) (L : List Nat) : Nat → Array Bool → Act → World → Prop
  | 0, listed, a, w => Region.ready md ops listed = [] ∧ Q .normal a w
  | fuel + 1, listed, a, w => (Region.ready md ops listed = [] → Q .normal a w) ∧ ∀ i ∈ Region.ready md ops listed, wpOpIn F n P ops Q i (fun a' w' => (noneB L (listed.setIfInBounds i true) = true → S w') ∧ wpAnyTIn F n P md ops Q S L fuel (listed.setIfInBounds i true) a' w') a w
theorem anyIn_of_T : ∀ (fuel : Nat) (listed : Array Bool) (a : Act) (w : World), wpAnyTIn F n P md ops Q S L fuel listed a w → wpAnyIn F n P md ops Q fuel listed a w
  | 0, _, _, _, h => h
  | fuel + 1, _, _, _, h => ⟨h.1, fun i hi => wpOpIn_mono (fun a' w' h' => anyIn_of_T fuel _ a' w' h'.2) (h.2 i hi)⟩
theorem wpAnyTIn_first {S0 : World → Prop} {i : Nat} {oi : Oper} {v : Value} (hro : F.round = none) (hi : ops[i]? = some oi) (hiL : i ∉ L) (hsel : ∀ (j : Nat) (o : Oper) cs b, ops[j]? = some o → o.op ≠ .select cs b)
    (hQ : ∀ c a w, Q (.panic c) (a.put oi.dst v) w → Q (.panic c) a w) (G : Array Bool → Prop)
    (hG : ∀ listed j, G listed → i ∈ Region.ready md ops listed → j ∈ Region.ready md ops listed → j ≠ i → G (listed.setIfInBounds j true))
    (hS0 : ∀ listed w, G listed → i ∈ Region.ready md ops listed → (noneB L listed = true → S w) → S0 w) :
    ∀ (fuel : Nat) (listed : Array Bool) (a : Act) (w : World),
      (∀ j oj, ops[j]? = some oj → j ≠ i → listed.getD j true = false → (∀ e ∈ oj.after, Region.binds md e = true → e.on ≠ i) → oi.apart ops oj = true) →
      G listed → i ∈ Region.ready md ops listed → YieldsG P ops S0 oi v a → (noneB L listed = true → S w) →
      wpAnyTIn F n P md ops Q S L fuel (listed.setIfInBounds i true) (a.put oi.dst v) w → wpAnyTIn F n P md ops Q S L (fuel + 1) listed a w := by
  intro fuel
  induction fuel with
  | zero =>
    intro listed a w _ hg hr hy hS H
    refine ⟨fun h => (by rw [h] at hr; cases hr), fun j hj => ?_⟩
    by_cases hji : j = i
    · subst hji; exact hy.op hro hi (hS0 listed w hg hr hS) ⟨fun h => hS (noneB_set h), H⟩
    · have := ready_mono hj hji
      rw [H.1] at this
      cases this
  | succ fuel ih =>
    intro listed a w hfree hg hr hy hS H
    refine ⟨fun h => (by rw [h] at hr; cases hr), fun j hj => ?_⟩
    by_cases hji : j = i
    · subst hji; exact hy.op hro hi (hS0 listed w hg hr hS) ⟨fun h => hS (noneB_set h), H⟩
    · have h1 := H.2 j (ready_mono hj hji)
      obtain ⟨hjun, oj, hoj, hall⟩ := mem_ready.1 hj
      have h0f := ready_un hr
      have hnot : ∀ e ∈ oj.after, Region.binds md e = true → e.on ≠ i := fun e he hb heq => by
        have h1 := hall e he hb
        rw [heq, h0f] at h1
        cases h1
      have h2 := opIn_swap hro hoj (hfree j oj hoj hji hjun hnot) (fun cs b => hsel i oi cs b hi) (fun cs b => hsel j oj cs b hoj) hQ hy h1
      have hfree' : ∀ k ok, ops[k]? = some ok → k ≠ i → (listed.setIfInBounds j true).getD k true = false →
          (∀ e ∈ ok.after, Region.binds md e = true → e.on ≠ i) → oi.apart ops ok = true := fun k ok hk hki hun hno => by
        refine hfree k ok hk hki ?_ hno
        by_cases hjk : j = k
        · subst hjk; exact hjun
        · rw [getD_set_ne true hjk] at hun; exact hun
      have hcomm := Array.setIfInBounds_comm (xs := listed) true true hji
      refine wpOpIn_mono (fun a' w' h3 => ?_) h2
      have hs' : noneB L (listed.setIfInBounds j true) = true → S w' := fun hn => h3.2.1 (by rw [← hcomm]; exact noneB_new hn hiL)
      refine ⟨hs', ih (listed.setIfInBounds j true) a' w' hfree' (hG listed j hg hr hj hji) (ready_mono hr (Ne.symm hji)) h3.1 hs' ?_⟩
      rw [hcomm]
      exact h3.2.2
/-- A load of what S names: all of L come behind it. -/
theorem wpAnyTIn_take {i : Nat} {oi : Oper} {v : Value} {fuel : Nat} {listed : Array Bool} {a : Act} {w : World} (hro : F.round = none) (hi : ops[i]? = some oi)
    (hs : Region.noSelect ops = true) (hf : Region.free md ops listed i = true) (hr : (Region.ready md ops listed).contains i = true) (hl : (lateB md ops L i && cleanB md ops listed i && noneB L listed && !(L.contains i)) = true)
    (hQ : ∀ c a w, Q (.panic c) (a.put oi.dst v) w → Q (.panic c) a w) (hy : YieldsIf P ops S oi v a) (hab : ∀ w, oi.about P w a.eval = none) (hS : S w)
    (h : wpAnyTIn F n P md ops Q S L fuel (listed.setIfInBounds i true) (a.put oi.dst v) w) : wpAnyTIn F n P md ops Q S L (fuel + 1) listed a w := by
  simp only [Bool.and_eq_true, Bool.not_eq_true', List.contains_eq_mem, decide_eq_false_iff_not] at hl
  obtain ⟨⟨⟨h1, h2⟩, h3⟩, h4⟩ := hl
  have hlate : ∀ t ∈ L, waits1 md ops t i = true ∨ ∃ c, c < ops.size ∧ waits1 md ops t c = true ∧ waits1 md ops c i = true := fun t ht => by
    have := List.all_eq_true.1 h1 t ht
    simp only [Bool.or_eq_true, List.any_eq_true, Bool.and_eq_true, List.mem_range] at this
    rcases this with q | ⟨c, q1, q2, q3⟩
    · exact .inl q
    · exact .inr ⟨c, q1, q2, q3⟩
  refine wpAnyTIn_first (S0 := S) hro hi h4 (Region.noSelect_spec hs) hQ (fun listed => (∀ c, c < ops.size → waits1 md ops c i = true → listed.getD c false = false) ∧ noneB L listed = true) ?_ (fun _ _ hg _ hS => hS hg.2) fuel listed a w (Region.free_spec hi hf)
    ⟨fun c hc' hw => ?_, h3⟩ (by simpa using hr) ⟨hy, hab⟩ (fun _ => hS) h
  · rintro listed j ⟨hc, hn⟩ hir hj hji
    have h0f := ready_un hir
    refine ⟨fun c hc' hw => ?_, noneB_new hn fun hjL => ?_⟩
    · have hne : j ≠ c := fun e => ready_not hj h0f (by rw [e]; exact hw)
      rw [getD_set_ne false hne]
      exact hc c hc' hw
    · rcases hlate j hjL with hw | ⟨c, hcl, hw1, hw2⟩
      · exact ready_not hj h0f hw
      · exact ready_not hj (hc c hcl hw2) hw1
  · have := List.all_eq_true.1 h2 c (List.mem_range.2 hc')
    simpa [hw] using this
/-- A load of what S names, L's operations behind it by a way X of operations that wait for it. -/
theorem wpAnyTIn_takeX (X : List Nat) {i : Nat} {oi : Oper} {v : Value} {fuel : Nat} {listed : Array Bool} {a : Act} {w : World} (hro : F.round = none) (hi : ops[i]? = some oi)
    (hs : Region.noSelect ops = true) (hf : Region.free md ops listed i = true) (hr : (Region.ready md ops listed).contains i = true)
    (hl : ((L.all fun t => X.contains t) && (X.all fun c => waits1 md ops c i || X.any fun d => waits1 md ops c d) && noneB X listed && !(X.contains i)) = true)
    (hQ : ∀ c a w, Q (.panic c) (a.put oi.dst v) w → Q (.panic c) a w) (hy : YieldsIf P ops S oi v a) (hab : ∀ w, oi.about P w a.eval = none) (hS : S w)
    (h : wpAnyTIn F n P md ops Q S L fuel (listed.setIfInBounds i true) (a.put oi.dst v) w) : wpAnyTIn F n P md ops Q S L (fuel + 1) listed a w := by
  simp only [Bool.and_eq_true, Bool.not_eq_true', List.contains_eq_mem, decide_eq_false_iff_not, List.all_eq_true, decide_eq_true_eq, Bool.or_eq_true, List.any_eq_true] at hl
  obtain ⟨⟨⟨h1, h2⟩, h3⟩, h4⟩ := hl
  have hL : ∀ listed : Array Bool, noneB X listed = true → noneB L listed = true := fun listed hx => by
    rw [noneB_iff] at hx ⊢
    exact fun t ht => hx t (h1 t ht)
  refine wpAnyTIn_first (S0 := S) hro hi (fun hm => h4 (h1 i hm)) (Region.noSelect_spec hs) hQ (fun listed => noneB X listed = true) ?_ (fun _ _ hg _ hS => hS (hL _ hg)) fuel listed a w (Region.free_spec hi hf)
    h3 (by simpa using hr) ⟨hy, hab⟩ (fun _ => hS) h
  intro listed j hn hir hj hji
  refine noneB_new hn fun hjX => ?_
  rcases h2 j hjX with hw | ⟨d, hd, hw⟩
  · exact ready_not hj (ready_un hir) hw
  · exact ready_not hj (noneB_iff.1 hn d hd) hw
/-- What yields in whatever world. -/
theorem wpAnyTIn_pure {i : Nat} {oi : Oper} {v : Value} {fuel : Nat} {listed : Array Bool} {a : Act} {w : World} (hro : F.round = none) (hi : ops[i]? = some oi)
    (hs : Region.noSelect ops = true) (hf : Region.free md ops listed i = true) (hr : (Region.ready md ops listed).contains i = true) (hl : (!(L.contains i)) = true)
    (hQ : ∀ c a w, Q (.panic c) (a.put oi.dst v) w → Q (.panic c) a w) (hy : YieldsIf P ops (fun _ => True) oi v a) (hab : ∀ w, oi.about P w a.eval = none) (hS : noneB L listed = true → S w)
    (h : wpAnyTIn F n P md ops Q S L fuel (listed.setIfInBounds i true) (a.put oi.dst v) w) : wpAnyTIn F n P md ops Q S L (fuel + 1) listed a w := by
  simp only [Bool.not_eq_true', List.contains_eq_mem, decide_eq_false_iff_not] at hl
  exact wpAnyTIn_first (S0 := fun _ => True) hro hi hl (Region.noSelect_spec hs) hQ (fun _ => True) (fun _ _ _ _ _ _ => trivial) (fun _ _ _ _ _ => trivial) fuel listed a w (Region.free_spec hi hf) trivial (by simpa using hr) ⟨hy, hab⟩ hS h
def AllReadyTIn (F : Fence) (n : Nat) (P : Program) (md : Region.Mode) (ops : Array Oper) (Q : Exit → Act → World → Prop) (S : World → Prop) (L : List Nat) (fuel : Nat) (listed : Array Bool) (a : Act) (w : World) (rs : List Nat) : Prop :=
  ∀ i ∈ rs, wpOpIn F n P ops Q i (fun a' w' => (noneB L (listed.setIfInBounds i true) = true → S w') ∧ wpAnyTIn F n P md ops Q S L fuel (listed.setIfInBounds i true) a' w') a w
theorem AllReadyTIn.nil {fuel : Nat} {listed : Array Bool} {a : Act} {w : World} : AllReadyTIn F n P md ops Q S L fuel listed a w [] := fun _ h => by cases h
theorem AllReadyTIn.cons {fuel : Nat} {listed : Array Bool} {a : Act} {w : World} {i : Nat} {o : Oper} {rs : List Nat} (ho : ops[i]? = some o)
    (h : ∀ K' : Act → World → Prop, Shut (∀ a w, (noneB L (listed.setIfInBounds i true) = true → S w) → ((noneB L (listed.setIfInBounds i true) = true → S w) → wpAnyTIn F n P md ops Q S L fuel (listed.setIfInBounds i true) a w) → K' a w) → if Region.wanted o (yielded ops a.tmps) = true then Oper.wpIn F n P o a w K' Q else (∀ f, o.about P w a.eval = some f → F.fn f) ∧ K' (a.put o.dst undef) w)
    (hs : AllReadyTIn F n P md ops Q S L fuel listed a w rs) : AllReadyTIn F n P md ops Q S L fuel listed a w (i :: rs) := fun j hj => by
  rcases List.mem_cons.1 hj with rfl | hj
  · exact wpOpIn_step ho (fun K' hK => h K' (fun a w hS hW => hK a w ⟨hS, hW hS⟩))
  · exact hs j hj
theorem wpAnyTIn_ready {rs : List Nat} {fuel : Nat} {listed : Array Bool} {a : Act} {w : World} (hr : Region.ready md ops listed = rs) (hne : rs ≠ [])
    (h : AllReadyTIn F n P md ops Q S L fuel listed a w rs) : wpAnyTIn F n P md ops Q S L (fuel + 1) listed a w := ⟨fun h0 => absurd (hr ▸ h0) hne, hr ▸ h⟩
theorem wpAnyTIn_done {listed : Array Bool} {a : Act} {w : World} (hr : Region.ready md ops listed = []) (h : Q .normal a w) : ∀ fuel, wpAnyTIn F n P md ops Q S L fuel listed a w
  | 0 => ⟨hr, h⟩
  | _ + 1 => ⟨fun _ => h, by rw [hr]; simp⟩
theorem wpTIn_begin (L : List Nat) {id : Nat} {a : Act} {w : World} (hm : P.follows .mixedOrders = true) (hS : S w.drew)
    (h : S w.drew → wpAnyTIn F n P .any ops Q S L ops.size (Array.replicate ops.size false) a w.drew) : (Code.region id ops true).wpIn F n P Q a w :=
  wpIn_region_any hm (anyIn_of_T _ _ _ _ (h hS))
end
end Go.Proofs.Ytacpeibkamfibaa

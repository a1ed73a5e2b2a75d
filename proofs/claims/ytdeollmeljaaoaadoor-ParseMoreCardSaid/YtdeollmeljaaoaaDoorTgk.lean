import Derived.Deep.RegionHeld3
import Derived.Test.YtdeollmeljaaoaaDoorDgk
set_option linter.unusedVariables false
set_option linter.unusedSimpArgs false
set_option maxHeartbeats 4000000
set_option maxRecDepth 100000
open Go Go.ChangeAt Go.ChangeShapes Go.RowKit Go.WideShapes
open Go.Lib (hid)
namespace Go.Proofs.YtdeollmeljaaoaaDoor
section
variable {P : Program} {ops : Array Oper} {Q : Exit → Act → World → Prop} {md : Region.Mode} {S : World → Prop} {L : List Nat}
def waits1 (md : Region.Mode) (ops : Array Oper) (c i : Nat) : Bool :=
 match ops[c]? with
 | some o => o.after.any fun e => Region.binds md e && e.on == i
 | none => false
def lateB (md : Region.Mode) (ops : Array Oper) (L : List Nat) (i : Nat) : Bool := L.all fun t => waits1 md ops t i || (List.range ops.size).any fun c => waits1 md ops t c && waits1 md ops c i
def cleanB (md : Region.Mode) (ops : Array Oper) (listed : Array Bool) (i : Nat) : Bool := (List.range ops.size).all fun c => !(waits1 md ops c i) || !(listed.getD c false)
def noneB (L : List Nat) (listed : Array Bool) : Bool := L.all fun t => !(listed.getD t false)
theorem waits1_of {c i : Nat} (h : waits1 md ops c i = true) : ∃ o, ops[c]? = some o ∧ ∃ e ∈ o.after, Region.binds md e = true ∧ e.on = i := by
 unfold waits1 at h
 rcases ho : ops[c]? with _ | o
 ·rw [ho] at h; simp at h
 ·rw [ho] at h
  obtain ⟨j, hj, h⟩ := Array.any_eq_true.1 h
  simp only [Bool.and_eq_true, beq_iff_eq] at h
  exact ⟨o, rfl, o.after[j], Array.getElem_mem hj, h.1, h.2⟩
theorem noneB_iff {listed : Array Bool} : noneB L listed = true ↔ ∀ t ∈ L, listed.getD t false = false := by simp [noneB]
theorem noneB_set {listed : Array Bool} {j : Nat} (h : noneB L (listed.setIfInBounds j true) = true) : noneB L listed = true := by
 rw [noneB_iff] at *
 intro t ht
 rcases hl : listed.getD t false with _ | _
 ·rfl
 ·have := h t ht
  rw [getD_set_true hl] at this
  cases this
theorem noneB_new {listed : Array Bool} {j : Nat} (h : noneB L listed = true) (hj : j ∉ L) : noneB L (listed.setIfInBounds j true) = true := by
 rw [noneB_iff] at *
 intro t ht
 rw [getD_set_ne false (fun e => hj (by rw [e]; exact ht))]
 exact h t ht
def wpAnyT (P : Program) (md : Region.Mode) (ops : Array Oper) (Q : Exit → Act → World → Prop) (S : World → Prop) (L : List Nat) : Nat → Array Bool → Act → World → Prop
 | 0, listed, a, w => Region.ready md ops listed = [] ∧ Q .normal a w
 | fuel + 1, listed, a, w => (Region.ready md ops listed = [] → Q .normal a w) ∧ ∀ i ∈ Region.ready md ops listed, wpOp P ops Q i (fun a' w' => (noneB L (listed.setIfInBounds i true) = true → S w') ∧ wpAnyT P md ops Q S L fuel (listed.setIfInBounds i true) a' w') a w
theorem any_of_T : ∀ (fuel : Nat) (listed : Array Bool) (a : Act) (w : World), wpAnyT P md ops Q S L fuel listed a w → wpAny P md ops Q fuel listed a w
 | 0, _, _, _, h => h
 | fuel + 1, _, _, _, h => ⟨h.1, fun i hi => wpOp_mono (fun a' w' h' => any_of_T fuel _ a' w' h'.2) (h.2 i hi)⟩
theorem ready_not {listed : Array Bool} {t i : Nat} (ht : t ∈ Region.ready md ops listed) (hi : listed.getD i false = false) (hw : waits1 md ops t i = true) : False := by
 obtain ⟨o, ho, e, he, h1, h2⟩ := waits1_of hw
 obtain ⟨_, o', ho', hall⟩ := mem_ready.1 ht
 rw [ho] at ho'
 cases ho'
 have := hall e he h1
 rw [h2, hi] at this
 cases this
theorem ready_un {listed : Array Bool} {i : Nat} (hr : i ∈ Region.ready md ops listed) : listed.getD i false = false := by
 have h0 := (mem_ready.1 hr).1
 rcases Nat.lt_or_ge i listed.size with h' | h'
 ·simp [h'] at h0 ⊢; exact h0
 ·simp [Array.getElem?_eq_none h'] at h0
theorem wpAnyT_first {S0 : World → Prop} {i : Nat} {oi : Oper} {v : Value} (hi : ops[i]? = some oi) (hiL : i ∉ L) (hsel : ∀ (j : Nat) (o : Oper) cs b, ops[j]? = some o → o.op ≠ .select cs b)
  (hQ : ∀ c a w, Q (.panic c) (a.put oi.dst v) w → Q (.panic c) a w) (G : Array Bool → Prop)
  (hG : ∀ listed j, G listed → i ∈ Region.ready md ops listed → j ∈ Region.ready md ops listed → j ≠ i → G (listed.setIfInBounds j true))
  (hS0 : ∀ listed w, G listed → i ∈ Region.ready md ops listed → (noneB L listed = true → S w) → S0 w) :
  ∀ (fuel : Nat) (listed : Array Bool) (a : Act) (w : World),
   (∀ j oj, ops[j]? = some oj → j ≠ i → listed.getD j true = false → (∀ e ∈ oj.after, Region.binds md e = true → e.on ≠ i) → oi.apart ops oj = true) →
   G listed → i ∈ Region.ready md ops listed → YieldsIf P ops S0 oi v a → (noneB L listed = true → S w) →
   wpAnyT P md ops Q S L fuel (listed.setIfInBounds i true) (a.put oi.dst v) w → wpAnyT P md ops Q S L (fuel + 1) listed a w := by
 intro fuel
 induction fuel with
 | zero =>
  intro listed a w _ hg hr hy hS H
  refine ⟨fun h => (by rw [h] at hr; cases hr), fun j hj => ?_⟩
  by_cases hji : j = i
  ·subst hji; exact hy.wpOp hi (hS0 listed w hg hr hS) ⟨fun h => hS (noneB_set h), H⟩
  ·have := ready_mono hj hji
   rw [H.1] at this
   cases this
 | succ fuel ih =>
  intro listed a w hfree hg hr hy hS H
  refine ⟨fun h => (by rw [h] at hr; cases hr), fun j hj => ?_⟩
  by_cases hji : j = i
  ·subst hji; exact hy.wpOp hi (hS0 listed w hg hr hS) ⟨fun h => hS (noneB_set h), H⟩
  ·have h1 := H.2 j (ready_mono hj hji)
   obtain ⟨hjun, oj, hoj, hall⟩ := mem_ready.1 hj
   have h0f := ready_un hr
   have hnot : ∀ e ∈ oj.after, Region.binds md e = true → e.on ≠ i := fun e he hb heq => by
    have h1 := hall e he hb
    rw [heq, h0f] at h1
    cases h1
   have h2 := wpOp_putIf hoj (hfree j oj hoj hji hjun hnot) (fun cs b => hsel i oi cs b hi) (fun cs b => hsel j oj cs b hoj) hQ hy h1
   have hfree' : ∀ k ok, ops[k]? = some ok → k ≠ i → (listed.setIfInBounds j true).getD k true = false →
     (∀ e ∈ ok.after, Region.binds md e = true → e.on ≠ i) → oi.apart ops ok = true := fun k ok hk hki hun hno => by
    refine hfree k ok hk hki ?_ hno
    by_cases hjk : j = k
    ·subst hjk; exact hjun
    ·rw [getD_set_ne true hjk] at hun; exact hun
   have hcomm := Array.setIfInBounds_comm (xs := listed) true true hji
   refine wpOp_mono (fun a' w' h3 => ?_) h2
   have hs' : noneB L (listed.setIfInBounds j true) = true → S w' := fun hn => h3.2.1 (by rw [← hcomm]; exact noneB_new hn hiL)
   refine ⟨hs', ih (listed.setIfInBounds j true) a' w' hfree' (hG listed j hg hr hj hji) (ready_mono hr (Ne.symm hji)) h3.1 hs' ?_⟩
   rw [hcomm]
   exact h3.2.2
theorem wpAnyT_take {i : Nat} {oi : Oper} {v : Value} {fuel : Nat} {listed : Array Bool} {a : Act} {w : World} (hi : ops[i]? = some oi)
  (hs : Region.noSelect ops = true) (hf : Region.free md ops listed i = true) (hr : (Region.ready md ops listed).contains i = true) (hl : (lateB md ops L i && cleanB md ops listed i && noneB L listed && !(L.contains i)) = true)
  (hQ : ∀ c a w, Q (.panic c) (a.put oi.dst v) w → Q (.panic c) a w) (hy : YieldsIf P ops S oi v a) (hS : S w)
  (h : wpAnyT P md ops Q S L fuel (listed.setIfInBounds i true) (a.put oi.dst v) w) : wpAnyT P md ops Q S L (fuel + 1) listed a w := by
 simp only [Bool.and_eq_true, Bool.not_eq_true', List.contains_eq_mem, decide_eq_false_iff_not] at hl
 obtain ⟨⟨⟨h1, h2⟩, h3⟩, h4⟩ := hl
 have hlate : ∀ t ∈ L, waits1 md ops t i = true ∨ ∃ c, c < ops.size ∧ waits1 md ops t c = true ∧ waits1 md ops c i = true := fun t ht => by
  have := List.all_eq_true.1 h1 t ht
  simp only [Bool.or_eq_true, List.any_eq_true, Bool.and_eq_true, List.mem_range] at this
  rcases this with q | ⟨c, q1, q2, q3⟩
  ·exact .inl q
  ·exact .inr ⟨c, q1, q2, q3⟩
 refine wpAnyT_first (S0 := S) hi h4 (Region.noSelect_spec hs) hQ (fun listed => (∀ c, c < ops.size → waits1 md ops c i = true → listed.getD c false = false) ∧ noneB L listed = true) ?_ (fun _ _ hg _ hS => hS hg.2) fuel listed a w (Region.free_spec hi hf)
  ⟨fun c hc' hw => ?_, h3⟩ (by simpa using hr) hy (fun _ => hS) h
 ·rintro listed j ⟨hc, hn⟩ hir hj hji
  have h0f := ready_un hir
  refine ⟨fun c hc' hw => ?_, noneB_new hn fun hjL => ?_⟩
  ·have hne : j ≠ c := fun e => ready_not hj h0f (by rw [e]; exact hw)
   rw [getD_set_ne false hne]
   exact hc c hc' hw
  ·rcases hlate j hjL with hw | ⟨c, hcl, hw1, hw2⟩
   ·exact ready_not hj h0f hw
   ·exact ready_not hj (hc c hcl hw2) hw1
 ·have := List.all_eq_true.1 h2 c (List.mem_range.2 hc')
  simpa [hw] using this
theorem wpAnyT_pure {i : Nat} {oi : Oper} {v : Value} {fuel : Nat} {listed : Array Bool} {a : Act} {w : World} (hi : ops[i]? = some oi)
  (hs : Region.noSelect ops = true) (hf : Region.free md ops listed i = true) (hr : (Region.ready md ops listed).contains i = true) (hl : (!(L.contains i)) = true)
  (hQ : ∀ c a w, Q (.panic c) (a.put oi.dst v) w → Q (.panic c) a w) (hy : YieldsIf P ops (fun _ => True) oi v a) (hS : noneB L listed = true → S w)
  (h : wpAnyT P md ops Q S L fuel (listed.setIfInBounds i true) (a.put oi.dst v) w) : wpAnyT P md ops Q S L (fuel + 1) listed a w := by
 simp only [Bool.not_eq_true', List.contains_eq_mem, decide_eq_false_iff_not] at hl
 exact wpAnyT_first (S0 := fun _ => True) hi hl (Region.noSelect_spec hs) hQ (fun _ => True) (fun _ _ _ _ _ _ => trivial) (fun _ _ _ _ _ => trivial) fuel listed a w (Region.free_spec hi hf) trivial (by simpa using hr) hy hS h
def AllReadyT (P : Program) (md : Region.Mode) (ops : Array Oper) (Q : Exit → Act → World → Prop) (S : World → Prop) (L : List Nat) (fuel : Nat) (listed : Array Bool) (a : Act) (w : World) (rs : List Nat) : Prop :=
 ∀ i ∈ rs, wpOp P ops Q i (fun a' w' => (noneB L (listed.setIfInBounds i true) = true → S w') ∧ wpAnyT P md ops Q S L fuel (listed.setIfInBounds i true) a' w') a w
theorem AllReadyT.nil {fuel : Nat} {listed : Array Bool} {a : Act} {w : World} : AllReadyT P md ops Q S L fuel listed a w [] := fun _ h => by cases h
theorem AllReadyT.cons {fuel : Nat} {listed : Array Bool} {a : Act} {w : World} {i : Nat} {o : Oper} {rs : List Nat} (ho : ops[i]? = some o)
  (h : ∀ K' : Act → World → Prop, Shut (∀ a w, (noneB L (listed.setIfInBounds i true) = true → S w) → ((noneB L (listed.setIfInBounds i true) = true → S w) → wpAnyT P md ops Q S L fuel (listed.setIfInBounds i true) a w) → K' a w) → if Region.wanted o (yielded ops a.tmps) = true then Oper.wp P o a w K' Q else K' (a.put o.dst undef) w)
  (hs : AllReadyT P md ops Q S L fuel listed a w rs) : AllReadyT P md ops Q S L fuel listed a w (i :: rs) := fun j hj => by
 rcases List.mem_cons.1 hj with rfl | hj
 ·exact wpOp_step ho (fun K' hK => h K' (fun a w hS hW => hK a w ⟨hS, hW hS⟩))
 ·exact hs j hj
theorem wpAnyT_ready {rs : List Nat} {fuel : Nat} {listed : Array Bool} {a : Act} {w : World} (hr : Region.ready md ops listed = rs) (hne : rs ≠ [])
  (h : AllReadyT P md ops Q S L fuel listed a w rs) : wpAnyT P md ops Q S L (fuel + 1) listed a w := ⟨fun h0 => absurd (hr ▸ h0) hne, hr ▸ h⟩
theorem wpAnyT_done {listed : Array Bool} {a : Act} {w : World} (hr : Region.ready md ops listed = []) (h : Q .normal a w) : ∀ fuel, wpAnyT P md ops Q S L fuel listed a w
 | 0 => ⟨hr, h⟩
 | _ + 1 => ⟨fun _ => h, by rw [hr]; simp⟩
theorem wpT_begin (L : List Nat) {id : Nat} {a : Act} {w : World} (hm : P.follows .mixedOrders = true) (hS : S w.drew)
  (h : S w.drew → wpAnyT P .any ops Q S L ops.size (Array.replicate ops.size false) a w.drew) : (Code.region id ops true).wp P Q a w :=
 wp_region_any hm (any_of_T _ _ _ _ (h hS))
theorem noneB_off {listed : Array Bool} {q : Prop} (h : noneB L listed = false) : noneB L listed = true → q := fun e => by rw [h] at e; cases e
end
section
variable {P : Program} {ops : Array Oper} {Q : Exit → Act → World → Prop} {md : Region.Mode} {S : World → Prop} {L : List Nat}
theorem qT (i : Nat) (oi : Oper) (v : Value) {fuel : Nat} {listed : Array Bool} {a : Act} {w : World} (hi : ops[i]? = some oi) (hy : YieldsIf P ops S oi v a) (hS : S w)
 (h : wpAnyT P md ops Q S L fuel (listed.setIfInBounds i true) (a.put oi.dst v) w) (hs : Region.noSelect ops = true := by kernel_rfl) (hf : Region.free md ops listed i = true := by kernel_rfl) (hr : (Region.ready md ops listed).contains i = true := by kernel_rfl) (hl : (lateB md ops L i && cleanB md ops listed i && noneB L listed && !(L.contains i)) = true := by kernel_rfl)
 (hQ : ∀ c a w, Q (.panic c) (a.put oi.dst v) w → Q (.panic c) a w := by exact fun _ _ _ h => h) : wpAnyT P md ops Q S L (fuel + 1) listed a w := wpAnyT_take hi hs hf hr hl hQ hy hS h
theorem qP (i : Nat) (oi : Oper) (v : Value) {fuel : Nat} {listed : Array Bool} {a : Act} {w : World} (hi : ops[i]? = some oi) (hy : YieldsIf P ops (fun _ => True) oi v a) (hS : noneB L listed = true → S w)
 (h : wpAnyT P md ops Q S L fuel (listed.setIfInBounds i true) (a.put oi.dst v) w) (hs : Region.noSelect ops = true := by kernel_rfl) (hf : Region.free md ops listed i = true := by kernel_rfl) (hr : (Region.ready md ops listed).contains i = true := by kernel_rfl) (hl : (!(L.contains i)) = true := by kernel_rfl)
 (hQ : ∀ c a w, Q (.panic c) (a.put oi.dst v) w → Q (.panic c) a w := by exact fun _ _ _ h => h) : wpAnyT P md ops Q S L (fuel + 1) listed a w := wpAnyT_pure hi hs hf hr hl hQ hy hS h
end
theorem qs.{u} : (∀ {α : Type u} {xs : List α} {i : Nat} (h : i < xs.toArray.size), xs.toArray[i] = xs[i]'(by simpa using h)) ∧ (∀ {α : Type u} (a : α) (l : List α) (h : 0 < (a :: l).length), (a :: l)[0] = a) ∧ (∀ {α : Type u} (a : α) (l : List α) (i : Nat) (h : i + 1 < (a :: l).length), (a :: l)[i + 1] = l[i]'(Nat.lt_of_succ_lt_succ h)) ∧ (∀ {α : Type u} {l : List α} {i : Nat} {a : α}, l.toArray.setIfInBounds i a = (l.set i a).toArray) ∧ (∀ {α : Type u} {x : α} {xs : List α} {a : α}, (x :: xs).set 0 a = a :: xs) ∧ (∀ {α : Type u} {x : α} {xs : List α} {n : Nat} {a : α}, (x :: xs).set (n + 1) a = x :: xs.set n a) :=
 ⟨fun _ => by simp, fun _ _ _ => rfl, fun _ _ _ _ => rfl, by simp, rfl, rfl⟩
end Go.Proofs.YtdeollmeljaaoaaDoor
namespace Go.Proofs.YtdeollmeljaaoaaDoor.rd
open Go.Proofs.YtdeollmeljaaoaaDoor.cs
theorem info_op : (Tryd.prog.info? 54).map (fun i => (i.zero, i.size, i.bytes)) = some (some (.agg #[.int .i64 0, .int .i64 0, .int .i64 0, .string ⟨#[]⟩, .string ⟨#[]⟩]), 5, 56) := by kernel_rfl
structure ButX (B E : Nat) (w w' : World) : Prop where
 os : w'.os = w.os
 tape : w'.tape = w.tape
 output : w'.output = w.output
 size : w.heap.size ≤ w'.heap.size
 block : ∀ k, k < w.heap.size → k ≠ B → (k < E ∨ ∀ cs fr, w.heap[k]? ≠ some (.cells cs 54 fr)) → w'.heap[k]? = w.heap[k]?
theorem But.to {B : Nat} (E : Nat) {w w' : World} (h : But B w w') : ButX B E w w' := ⟨h.os, h.tape, h.output, h.size, fun k hk hn _ => h.block k hk hn⟩
theorem ButX.of {B : Nat} (E : Nat) {w w' : World} (h : Below w.heap.size w w') : ButX B E w w' := (But.of h).to E
theorem ButX.refl (B E : Nat) (w : World) : ButX B E w w := ButX.of E (Below.refl _ _)
theorem ButX.trans {B E : Nat} {a b c : World} (h : ButX B E a b) (g : ButX B E b c) : ButX B E a c :=
 ⟨g.os.trans h.os, g.tape.trans h.tape, g.output.trans h.output, Nat.le_trans h.size g.size, fun k hk hn ht => by
  have e := h.block k hk hn ht
  exact (g.block k (Nat.lt_of_lt_of_le hk h.size) hn (by rw [e]; exact ht)).trans e⟩
theorem ButX.set (w : World) (B E i : Nat) (v : Value) : ButX B E w (w.setCell ⟨B, i, none⟩ v) := (But.set w B i v).to E
theorem ButX.keep {B E k : Nat} {w w' : World} {cs : Array Value} {T : TypeId} {fr : Nat × Nat} (h : ButX B E w w') (hk : k ≠ B) (hT : T ≠ 54) (hb : w.heap[k]? = some (.cells cs T fr)) : w'.heap[k]? = some (.cells cs T fr) :=
 (h.block k (blk_lt hb) hk (.inr (fun cs' fr' e => by rw [hb] at e; simp only [Option.some.injEq, Obj.cells.injEq] at e; exact hT e.2.1))).trans hb
theorem ButX.low {B E k : Nat} {w w' : World} {o : Obj} (h : ButX B E w w') (hk : k ≠ B) (hE : k < E) (hb : w.heap[k]? = some o) : w'.heap[k]? = some o :=
 (h.block k (blk_lt hb) hk (.inl hE)).trans hb
theorem Tbq.but {B E : Nat} {w w' : World} (h : Tbq w) (o : Off B) (hE : B < E) (hb : ButX B E w w') : Tbq w' := by
 obtain ⟨⟨t1, r1, h1⟩, ⟨t2, r2, h2⟩, ⟨t3, r3, h3⟩, ⟨t4, r4, h4⟩, ⟨t5, r5, h5⟩, ⟨t6, r6, h6⟩⟩ := h
 have o1 := o.m
 have o2 := o.k
 have o3 := o.d
 have o4 := o.s
 have o5 := o.c
 have o6 := o.x
 exact ⟨⟨t1, r1, hb.low (by omega) (by omega) h1⟩, ⟨t2, r2, hb.low (by omega) (by omega) h2⟩, ⟨t3, r3, hb.low (by omega) (by omega) h3⟩, ⟨t4, r4, hb.low (by omega) (by omega) h4⟩, ⟨t5, r5, hb.low (by omega) (by omega) h5⟩, ⟨t6, r6, hb.low (by omega) (by omega) h6⟩⟩
theorem own_but {w w' : World} {B E e s n : Nat} {v : Value} {xs : List Value} (h : w.ownsRow E e s v n xs) (hb : But B w w') (hB : B < E) : w'.ownsRow E e s v n xs := by
 refine ⟨h.1, ?_⟩
 rcases h.2 with h0 | ⟨g, cap, cur, hv, h1, h2, h3⟩
 ·exact .inl h0
 ·exact .inr ⟨g, cap, cur, hv, h1, (hb.block g (blk_lt h2) (by omega)).trans h2, h3⟩
theorem own_ty {w : World} {E e s n : Nat} {v : Value} {xs : List Value} (h : w.ownsRow E e s v n xs) : ∀ g, v.ownBlock = some g → E ≤ g ∧ ∃ cs fr, w.heap[g]? = some (.cells cs e fr) := by
 intro g hg
 refine ⟨(h.lt g hg).1, ?_⟩
 rcases h.2 with h0 | ⟨g', cap, cur, hv, h1, h2, h3⟩
 ·rw [h0.1] at hg; cases hg
 ·rw [hv] at hg
  obtain rfl := Option.some.inj hg
  exact ⟨_, _, h2⟩
theorem ButX.grown {B E n : Nat} {w w' : World} {v : Value} {xs : List Value} (h : w.grownBy w' v.ownBlock) (ho : w.ownsRow E 54 5 v n xs) : ButX B E w w' :=
 ⟨h.os, h.tape, h.output, h.size, fun k hk hn ht => h.block k hk (fun e => by
  obtain ⟨h1, cs, fr, h2⟩ := own_ty ho k e.symm
  rcases ht with h3 | h3
  ·omega
  ·exact h3 _ _ h2)⟩
def TokOk (L : List Tk) : Prop := ∀ k, (L.getD k tk0).t.length ≤ maxLen ∧ 0 ≤ (L.getD k tk0).n ∧ (L.getD k tk0).n ≤ 9223372036854775807
structure Xs (w : World) (B E : Nat) (a : Option Addr) (n c : Nat) (L : List Tk) (k : Nat) (os : List Oq) : Prop where
 ex : ∃ ov, Rdr w B a n c L k ov ∧ w.ownsRow E 54 5 ov os.length (ocs os)
 few : os.length ≤ 40
 lt : B < E
 le : E ≤ w.heap.size
 tok : ∀ x, a = some x → 0 < n → x.block < E
 tb : Tbq w
 off : Off B
 ok : TokOk L
def Ex (w : World) (B E : Nat) (a : Option Addr) (n c : Nat) (L : List Tk) (r : F ⊕ (Nat × List Oq)) (e : Ending) (w' : World) : Prop :=
 ButX B E w w' ∧ match r with
  | .inl f => e = flt f.1 f.2
  | .inr (k', os') => e = .returned (.tuple #[]) ∧ Xs w' B E a n c L k' os'
theorem Xs.later {w w' : World} {B E : Nat} {a : Option Addr} {n c : Nat} {L : List Tk} {k : Nat} {os : List Oq} (h : Xs w B E a n c L k os) (hb : Below w.heap.size w w') : Xs w' B E a n c L k os := by
 obtain ⟨⟨ov, h1, h2⟩, h3, h4, h5, h6, h7, h8, h9⟩ := h
 exact ⟨⟨ov, h1.below hb, own_below h2 hb⟩, h3, h4, Nat.le_trans h5 hb.size, h6, h7.below hb, h8, h9⟩
theorem Xs.go {w w' : World} {B E : Nat} {a : Option Addr} {n c : Nat} {L : List Tk} {k k' : Nat} {os : List Oq} {ov : Value} (h : Xs w B E a n c L k os) (ho : w.ownsRow E 54 5 ov os.length (ocs os)) (hr : Rdr w' B a n c L k' ov) (hN : But B w w') : Xs w' B E a n c L k' os := by
 obtain ⟨_, h3, h4, h5, h6, h7, h8, h9⟩ := h
 exact ⟨⟨ov, hr, own_but ho hN h4⟩, h3, h4, Nat.le_trans h5 hN.size, h6, h7.but h8 h4 (hN.to E), h8, h9⟩
theorem grown_cell {w w' : World} {row : Option Nat} {p : Addr} {v : Value} (h : w.grownBy w' row) (hc : w.cell? p = some v) (hn : some p.block ≠ row) : w'.cell? p = some v := by
 have hl := lt_cell hc
 unfold World.cell? at hc ⊢
 rw [h.block _ hl hn]
 exact hc
theorem bx5 {w : World} {B : Nat} {x y z u v : Value} {T : TypeId} (h : w.heap[B]? = some (.cells #[x, y, z, u, v] T (0, 0))) :
  w.cell? ⟨B, 0, none⟩ = some x ∧ w.cell? ⟨B, 1, none⟩ = some y ∧ w.cell? ⟨B, 2, none⟩ = some z ∧ w.cell? ⟨B, 3, none⟩ = some u ∧ w.cell? ⟨B, 4, none⟩ = some v := by
 refine ⟨?_, ?_, ?_, ?_, ?_⟩ <;> (simp only [World.cell?]; rw [h]; rfl)
abbrev opV (o : Oq) : Value := .agg #[.int .i64 o.k, .int .i64 o.v.k, .int .i64 o.v.n, .string o.v.t, .string o.t]
theorem rd_low {B E : Nat} {w w' : World} {s n : Nat} {v : Value} {xs : List Value} (h : Rd w s n v xs) (hb : ButX B E w w') (hP : ∀ a cap, v = .slice (some a) n cap → 0 < n → a.block ≠ B ∧ a.block < E) (hs : 0 < s) : Rd w' s n v xs := by
 obtain ⟨h1, ao, cap, h2, h3, h4, h5, h6⟩ := h
 refine ⟨h1, ao, cap, h2, h3, h4, h5, fun a ha j u hu => ?_⟩
 have hn : 0 < n := by
  rcases Nat.eq_zero_or_pos n with h0 | h0
  ·subst h0
   have := (List.getElem?_eq_some_iff.1 hu).1
   omega
  ·exact h0
 subst ha
 obtain ⟨hne, hlt⟩ := hP a cap h2 hn
 have h8 := h6 a rfl j u hu
 have hl := lt_cell h8
 have he : (a.add j).block = a.block := by
  obtain ⟨b, o, s⟩ := a
  simp only [Addr.add]
  split <;> rfl
 unfold World.cell? at h8 ⊢
 rw [hb.block _ hl (by rw [he]; exact hne) (.inl (by rw [he]; exact hlt))]
 exact h8
theorem Rdr.put {w w1 : World} {B E : Nat} {a : Option Addr} {n c : Nat} {L : List Tk} {k : Nat} {ov : Value} (h : Rdr w B a n c L k ov) (hN : ButX B E w w1) (h1 : w1.heap[B]? = w.heap[B]?) (ht : ∀ x, a = some x → 0 < n → x.block < E) (ov' : Value) : Rdr (w1.setCell ⟨B, 2, none⟩ ov') B a n c L k ov' := by
 refine ⟨by simpa using Lib.heap_setCell_same (i := 2) (h1.trans h.box) ov', ?_, h.le, h.sm, h.ne⟩
 exact rd_low h.row (hN.trans (ButX.set w1 B E 2 ov')) (fun x cap e hn => by cases e; exact ⟨h.ne x rfl hn, ht x rfl hn⟩) (by omega)
theorem put_any (w : World) (B E : Nat) (a : Option Addr) (n c : Nat) (L : List Tk) (k : Nat) (os : List Oq) (h : Xs w B E a n c L k os) (o : Oq) :
  Calls Tryd.prog 91 #[.pointer (some ⟨B, 0, none⟩), opV o] w (Ex w B E a n c L (putF o k os)) := by
 obtain ⟨⟨ov, hR, hO⟩, hF, hBE, hE, hT, hTb, hOff, hOk⟩ := h
 have hlt := heap_lt hR.box
 obtain ⟨ob, oc, rfl⟩ : ∃ ob oc, ov = .slice ob os.length oc := by
  obtain ⟨_, x, y, e, _⟩ := Rd.own hO
  exact ⟨x, y, e⟩
 obtain ⟨x0, x1, x2, f0, f1, f2⟩ := hR.cells
 have HG : Hid (∀ W, Below w.heap.size w W → Calls Tryd.prog 75 #[.pointer (some ⟨B, 0, none⟩), .int .i64 10] W fun e w' => e = flt ((k : Int) - 1) 10 ∧ Below W.heap.size W w') := fun W hW => giveBack_any W B a n c L k _ (hR.below hW) 10
 have HR := hid hR
 have HO := hid hO
 have hb0 : Below w.heap.size w (w.alloc (.cells #[.int .i64 o.k, .int .i64 o.v.k, .int .i64 o.v.n, .string o.v.t, .string o.t] 54)) := (Below.refl _ _).alloc (Nat.le_refl _) _
 have HB0 := hid hb0
 clear hR hO hb0
 unfold putF
 by_cases h40 : os.length = 40
 ·rw [if_pos h40]
  have h40' : ((os.length : Int) == 40) = true := by simp [h40]
  go_enter Tryd.func91, Tryd.ntmps91
  go_wp2_with fail
  refine (HG.out _ HB0.out).mono ?_
  rintro e w1 ⟨rfl, hb1⟩
  exact ⟨rfl, ButX.of E (into HB0.out hb1), rfl⟩
 ·rw [if_neg h40]
  have h40' : ((os.length : Int) == 40) = false := by simp; omega
  obtain ⟨ok, ⟨ovk, ovn, ovt⟩, ot⟩ := o
  simp only at HB0 ⊢
  obtain ⟨i0, hi0, hz0, hz1, hz2⟩ := info_parts info_op
  go_enter Tryd.func91, Tryd.ntmps91
  go_wp2_with fail
  refine code_nm (fun W0 hW0 => ?_)
  have hP := new0 w (.cells #[.int .i64 ok, .int .i64 ovk, .int .i64 ovn, .string ovt, .string ot] 54)
  rw [← hW0] at hP
  have hB0 : Below w.heap.size w W0 := by rw [hW0]; exact HB0.out
  have hS0 : W0.heap.size = w.heap.size + 1 := by rw [hW0]; simp
  clear hW0
  have HB := hid hB0
  have HS := hid hS0
  have HO1 := hid (own_below (own_below HO.out hB0) (Below.refl _ _).drew)
  obtain ⟨p0, p1, p2, p3, p4⟩ := bx5 hP
  have y2 : W0.cell? ⟨B, 2, none⟩ = some (.slice ob os.length oc) := (hB0.cell (p := ⟨B, 2, none⟩) hlt).trans x2
  have hE0 : Hid (E ≤ W0.heap.size + 1) := by show _ ≤ _; omega
  have hnb : some B ≠ (Value.slice ob os.length oc).ownBlock := fun e => by
   have := (HO.out.lt B e.symm).1
   omega
  have hnp : some w.heap.size ≠ (Value.slice ob os.length oc).ownBlock := fun e => by
   have := (HO.out.lt w.heap.size e.symm).2
   omega
  have HNB := hid hnb
  have HNP := hid hnp
  clear hB0 hS0 HB0 x0 x1 x2 hnb hnp
  refine wpT_begin (S := (fun wx => wx.cell? ⟨B, 2, none⟩ = some (.slice ob os.length oc) ∧ wx.cell? ⟨w.heap.size, 0, none⟩ = some (.int .i64 ok) ∧ wx.cell? ⟨w.heap.size, 1, none⟩ = some (.int .i64 ovk) ∧ wx.cell? ⟨w.heap.size, 2, none⟩ = some (.int .i64 ovn) ∧ wx.cell? ⟨w.heap.size, 3, none⟩ = some (.string ovt) ∧ wx.cell? ⟨w.heap.size, 4, none⟩ = some (.string ot))) [10] (by kernel_rfl) ?_ (fun gH => ?_)
  ·(try dsimp only)
   (first | (with_reducible exact ⟨cell_dr y2, cell_dr p0, cell_dr p1, cell_dr p2, cell_dr p3, cell_dr p4⟩) | (exact ⟨cell_al _ (cell_dr y2), cell_al _ (cell_dr p0), cell_al _ (cell_dr p1), cell_al _ (cell_dr p2), cell_al _ (cell_dr p3), cell_al _ (cell_dr p4)⟩) | (exact ⟨s0, s1, s2, s3, s4, s5⟩))
  refine qP 0 _ ?_ rfl (.inl ⟨by rfl, ?_⟩) (fun _ => by assumption) ?_
  rotate_left
  ·(intro w hSw; go_simp)
   all_goals (with_reducible rfl)
  (try simp only [qs, Act.put])
  refine qP 1 _ ?_ rfl (.inl ⟨by rfl, ?_⟩) (fun _ => by assumption) ?_
  rotate_left
  ·(intro w hSw; go_simp)
   all_goals (with_reducible rfl)
  (try simp only [qs, Act.put])
  refine qP 2 _ ?_ rfl (.inl ⟨by rfl, ?_⟩) (fun _ => by assumption) ?_
  rotate_left
  ·(intro w hSw; go_simp)
   all_goals (with_reducible rfl)
  (try simp only [qs, Act.put])
  refine qP 3 _ ?_ rfl (.inl ⟨by rfl, ?_⟩) (fun _ => by assumption) ?_
  rotate_left
  ·(intro w hSw; go_simp)
   all_goals (with_reducible rfl)
  (try simp only [qs, Act.put])
  refine qT 4 _ ?_ rfl (.inl ⟨by rfl, ?_⟩) (by assumption) ?_
  rotate_left
  ·(intro w hSw; (try dsimp only at hSw); go_simp)
   all_goals (with_reducible rfl)
  (try simp only [qs, Act.put])
  refine qT 5 _ ?_ rfl (.inl ⟨by rfl, ?_⟩) (by assumption) ?_
  rotate_left
  ·(intro w hSw; (try dsimp only at hSw); go_simp)
   all_goals (with_reducible rfl)
  (try simp only [qs, Act.put])
  refine wpAnyT_ready (rs := [6]) (by kernel_rfl) (by simp) ?_
  refine AllReadyT.cons rfl (fun K hK => ?_) AllReadyT.nil
  go_simp
  refine hK.out _ _ (fun _ => ?_) (fun gH0 => ?_)
  ·(try dsimp only)
   (first | (with_reducible exact ⟨cell_dr y2, cell_dr p0, cell_dr p1, cell_dr p2, cell_dr p3, cell_dr p4⟩) | (exact ⟨cell_al _ (cell_dr y2), cell_al _ (cell_dr p0), cell_al _ (cell_dr p1), cell_al _ (cell_dr p2), cell_al _ (cell_dr p3), cell_al _ (cell_dr p4)⟩) | (exact ⟨s0, s1, s2, s3, s4, s5⟩))
  have gH := gH0 (by kernel_rfl)
  clear hK K gH0
  (try simp only [qs, Act.put])
  refine wpAnyT_ready (rs := [7]) (by kernel_rfl) (by simp) ?_
  refine AllReadyT.cons rfl (fun K hK => ?_) AllReadyT.nil
  (refine step_append_lies _ (by rfl) _ _ _ (by rfl) E 54 i0 _ 5 56 Tryd.underlying31 hi0 hz0 hz1 hz2 rfl (by omega) (.slice ob os.length oc) os.length (ocs os) (by rfl) (HO1.out.alloc _) ⟨W0.heap.size, 0, none⟩ 1 1 [.int .i64 ok, .int .i64 ovk, .int .i64 ovn, .string ovt, .string ot] (by rfl) (by rfl) (new_cells W0.drew _ _) (by simp [Value.oneCell']) (by omega) (by unfold maxLen; omega) (by omega) (by have := hE0.out; simp; omega) (W0.heap.size + 1) (by simp) ?_; intro gg cap7 w7 hown7 hgrow7 hat7 hlt7; have s0 := grown_cell hgrow7 (cell_al _ (cell_dr y2)) HNB.out; have s1 := grown_cell hgrow7 (cell_al _ (cell_dr p0)) HNP.out; have s2 := grown_cell hgrow7 (cell_al _ (cell_dr p1)) HNP.out; have s3 := grown_cell hgrow7 (cell_al _ (cell_dr p2)) HNP.out; have s4 := grown_cell hgrow7 (cell_al _ (cell_dr p3)) HNP.out; have s5 := grown_cell hgrow7 (cell_al _ (cell_dr p4)) HNP.out; have hbx : w7.heap[B]? = w.heap[B]? := (hgrow7.block B (by have := HB.out.size; simp; omega) HNB.out).trans ((Below.heap_alloc _ _ _ (by have := HB.out.size; simp; omega)).trans (HB.out.block B hlt)); have sf2 : w7.frozen? ⟨B, 2, none⟩ = false := (bx3 (hbx.trans HR.out.box)).2.2.2.2.2; have HBX := hid hbx; clear hbx; have HOW7 := hid hown7; have HGR7 := hid hgrow7; clear hown7 hgrow7 hat7 hlt7)
  refine hK.out _ _ (fun _ => ?_) (fun gH0 => ?_)
  ·(try dsimp only)
   (first | (with_reducible exact ⟨cell_dr y2, cell_dr p0, cell_dr p1, cell_dr p2, cell_dr p3, cell_dr p4⟩) | (exact ⟨cell_al _ (cell_dr y2), cell_al _ (cell_dr p0), cell_al _ (cell_dr p1), cell_al _ (cell_dr p2), cell_al _ (cell_dr p3), cell_al _ (cell_dr p4)⟩) | (exact ⟨s0, s1, s2, s3, s4, s5⟩))
  have gH := gH0 (by kernel_rfl)
  clear hK K gH0
  (try simp only [qs, Act.put])
  refine qP 8 _ ?_ rfl (.inl ⟨by rfl, ?_⟩) (fun _ => by assumption) ?_
  rotate_left
  ·(intro w hSw; go_simp)
   all_goals (with_reducible rfl)
  (try simp only [qs, Act.put])
  refine qP 9 _ ?_ rfl (.inl ⟨by rfl, ?_⟩) (fun _ => by assumption) ?_
  rotate_left
  ·(intro w hSw; go_simp)
   all_goals (with_reducible rfl)
  (try simp only [qs, Act.put])
  refine wpAnyT_ready (rs := [10]) (by kernel_rfl) (by simp) ?_
  refine AllReadyT.cons rfl (fun K hK => ?_) AllReadyT.nil
  go_simp
  refine hK.out _ _ (noneB_off (by kernel_rfl)) (fun _ => ?_)
  clear hK K
  (try simp only [qs, Act.put])
  refine wpAnyT_done (by kernel_rfl) ?_ _
  have hX : ButX B E w w7 := ((ButX.of E HB.out).trans ((ButX.of E (Below.refl _ _).drew).trans (ButX.of E ((Below.refl _ _).alloc (Nat.le_refl _) _)))).trans (ButX.grown HGR7.out (HO1.out.alloc _))
  have hrd := Rdr.put HR.out hX HBX.out hT (.slice (some ⟨gg, 0, none⟩) (os.length + 1) cap7)
  have hX2 := hX.trans (ButX.set w7 B E 2 (.slice (some ⟨gg, 0, none⟩) (os.length + 1) cap7))
  have hOX : (w7.setCell ⟨B, 2, none⟩ (.slice (some ⟨gg, 0, none⟩) (os.length + 1) cap7)).ownsRow E 54 5 (.slice (some ⟨gg, 0, none⟩) (os.length + 1) cap7) (os ++ [(⟨ok, ⟨ovk, ovn, ovt⟩, ot⟩ : Oq)]).length (ocs (os ++ [(⟨ok, ⟨ovk, ovn, ovt⟩, ot⟩ : Oq)])) := by
   rw [List.length_append, ocs_app]
   exact ownsRow_setCell_below HOW7.out hBE _
  have HZ := hid (And.intro hX2 (And.intro hrd hOX))
  clear hX hrd hX2 hOX
  go_returns
  obtain ⟨z1, z2, z3⟩ := HZ.out
  exact ⟨z1, rfl, ⟨_, z2, z3⟩, by rw [List.length_append]; simp; omega, hBE, Nat.le_trans hE z1.size, hT, hTb.but hOff hBE z1, hOff, hOk⟩
end Go.Proofs.YtdeollmeljaaoaaDoor.rd

import Derived.Test.YtdeollmeljaaoaaDoorDfk
import Derived.Deep.RegionHeld3
/- The parser, plainly: what stands at each token. -/
namespace Go.Proofs.YtdeollmeljaaoaaDoor.rd
open Go.Proofs.YtdeollmeljaaoaaDoor.cs
set_option linter.unusedVariables false
set_option linter.unusedSimpArgs false
abbrev sComma : ByteArray := ⟨#[44]⟩
/-- A fault: the place, the errno. -/
abbrev F := Int × Int
def bd {α β : Type} (r : F ⊕ α) (g : α → F ⊕ β) : F ⊕ β := match r with
  | .inl f => .inl f
  | .inr x => g x
@[simp] theorem bd_inl {α β : Type} (f : F) (g : α → F ⊕ β) : bd (.inl f) g = .inl f := rfl
@[simp] theorem bd_inr {α β : Type} (x : α) (g : α → F ⊕ β) : bd (.inr x) g = g x := rfl
theorem bd_ok {α β : Type} {r : F ⊕ α} {g : α → F ⊕ β} {y : β} (h : bd r g = .inr y) : ∃ x, r = .inr x ∧ g x = .inr y := by
  cases r with
  | inl f => cases h
  | inr x => exact ⟨x, rfl, h⟩
/-- What reads ops: from a place and the ops ahead to another place and more ops. -/
abbrev R := Nat → List Oq → F ⊕ (Nat × List Oq)
def v0 : V := ⟨0, 0, ⟨#[]⟩⟩
def opO (q : Nat) : Oq := ⟨q, v0, ⟨#[]⟩⟩
def putF (o : Oq) : R := fun k os => if os.length = 40 then .inl ((k : Int) - 1, 10) else .inr (k, os ++ [o])
def litG (L : List Tk) (n k : Nat) : F ⊕ (Option V × Nat) :=
  if mayB L k sNULL then .inr (some v0, k + 1)
  else if mayB L k sFALSE then .inr (some ⟨1, 0, ⟨#[]⟩⟩, k + 1)
  else if mayB L k sTRUE then .inr (some ⟨1, 1, ⟨#[]⟩⟩, k + 1)
  else if mayB L k sMinus then (if (L.getD (k + 1) tk0).k = 2 then .inr (some ⟨2, -(L.getD (k + 1) tk0).n, ⟨#[]⟩⟩, k + 2) else .inl (fl n (k + 1) 6))
  else if (L.getD k tk0).k = 2 then .inr (some ⟨2, (L.getD k tk0).n, ⟨#[]⟩⟩, k + 1)
  else if (L.getD k tk0).k = 3 then (if 20 < (L.getD k tk0).t.length then .inl (fl n k 1) else .inr (some ⟨3, 0, ⟨(L.getD k tk0).t.toArray⟩⟩, k + 1))
  else .inr (none, k)
def litV (r : F ⊕ (Option V × Nat)) : F ⊕ (Value × Nat) := match r with
  | .inl f => .inl f
  | .inr (some v, k) => .inr (.tuple #[vV v.k v.n v.t, .bool true], k)
  | .inr (none, k) => .inr (.tuple #[vV 0 0 ⟨#[]⟩, .bool false], k)
theorem litF_G (L : List Tk) (n k : Nat) : litF L n k = litV (litG L n k) := by
  unfold litF litG
  repeat' split
  all_goals rfl
def nameG (L : List Tk) (n k : Nat) : F ⊕ (ByteArray × Nat) :=
  if (L.getD k tk0).k = 1 then (if nmF (L.getD k tk0).t = 0 then .inr (⟨(L.getD k tk0).t.toArray⟩, k + 1) else .inl (fl n k (nmF (L.getD k tk0).t))) else .inl (fl n k 6)
theorem nameF_G (L : List Tk) (n k : Nat) : nameF L n k = match nameG L n k with
    | .inl f => .inl f
    | .inr (t, k') => .inr (.string t, k') := by
  unfold nameF nameG
  repeat' split
  all_goals simp_all
def numG (L : List Tk) (n k : Nat) : F ⊕ (Int × Nat) := if (L.getD k tk0).k = 2 then .inr ((L.getD k tk0).n, k + 1) else .inl (fl n k 6)
def loopC (L : List Tk) (th : R) (ks : List Nat) : Nat → R
  | 0, k, os => .inr (k, os)
  | f + 1, k, os => match signF L k ks with
    | none => .inr (k, os)
    | some q => bd (th (k + 1) os) fun x => bd (putF (opO q) x.1 x.2) fun y => loopC L th ks f y.1 y.2
def chainF (L : List Tk) (th : R) (ks : List Nat) : R := fun k os => bd (th k os) fun x => loopC L th ks L.length x.1 x.2
def deniedF (L : List Tk) (cmp : R) : Nat → R
  | 0, k, os => cmp k os
  | f + 1, k, os => if mayB L k sNOT then bd (deniedF L cmp f (k + 1) os) fun x => putF (opO 5) x.1 x.2 else cmp k os
def compareF (q : Nat) (nt : Bool) : R := fun k os => bd (putF (opO q) k os) fun x => if nt then putF (opO 5) x.1 x.2 else .inr x
def cmpF (L : List Tk) (k : Nat) : List Cmq → Option Cmq
  | [] => none
  | c :: l => if mayB L k ⟨c.s.toArray⟩ then some c else cmpF L k l
def turnF (a b : Nat) (os : List Oq) : List Oq := os.take a ++ (os.drop b ++ (os.take b).drop a)
def isF (L : List Tk) (n : Nat) : R := fun k os =>
  if mayB L k sNOT then (if mayB L (k + 1) sNULL then compareF 11 true (k + 2) os else .inl (fl n (k + 1) 6))
  else (if mayB L k sNULL then compareF 11 false (k + 1) os else .inl (fl n k 6))
def comparisonF (L : List Tk) (n : Nat) (sm : R) : R := fun k os => bd (sm k os) fun x =>
  if mayB L x.1 sIS then isF L n (x.1 + 1) x.2
  else match cmpF L x.1 cmL with
    | none => .inr x
    | some c => bd (sm (x.1 + 1) x.2) fun y => compareF c.q c.nt y.1 (if c.tn then turnF os.length x.2.length y.2 else y.2)
def leafF (L : List Tk) (n : Nat) : R := fun k os => bd (litG L n k) fun x => match x.1 with
  | some v => putF ⟨1, v, ⟨#[]⟩⟩ x.2 os
  | none => bd (nameG L n k) fun y => putF ⟨2, v0, y.1⟩ y.2 os
def thingF (L : List Tk) (n : Nat) (E : R) : R := fun k os =>
  if mayB L k sOpen then bd (E (k + 1) os) fun x => if mayB L x.1 sClose then .inr (x.1 + 1, x.2) else .inl (fl n x.1 6)
  else leafF L n k os
def productF (L : List Tk) (n : Nat) (E : R) : R := chainF L (thingF L n E) [10]
def sumF (L : List Tk) (n : Nat) (E : R) : R := chainF L (productF L n E) [8, 9]
def denF (L : List Tk) (n : Nat) (E : R) : R := deniedF L (comparisonF L n (sumF L n E)) L.length
def bothF (L : List Tk) (n : Nat) (E : R) : R := chainF L (denF L n E) [3]
def eitherF (L : List Tk) (n : Nat) (E : R) : R := chainF L (bothF L n E) [4]
def eithD (L : List Tk) (n : Nat) : Nat → R
  | 0, k, os => .inr (k, os)
  | d + 1, k, os => eitherF L n (eithD L n d) k os
def expF (L : List Tk) (n k : Nat) : F ⊕ (Nat × List Oq) := eithD L n (L.length + 1) k []
def whereF (L : List Tk) (n k : Nat) : F ⊕ (Nat × List Oq) := if mayB L k sWHERE then expF L n (k + 1) else .inr (k, [])
/-- A list of things with a comma between each two. -/
def listL {σ : Type} (L : List Tk) (th : Nat → σ → F ⊕ (Nat × σ)) : Nat → Nat → σ → F ⊕ (Nat × σ)
  | 0, k, s => if mayB L k sComma then .inl ((k : Int), 10) else .inr (k, s)
  | f + 1, k, s => if mayB L k sComma then bd (th (k + 1) s) fun x => listL L th f x.1 x.2 else .inr (k, s)
def listF {σ : Type} (L : List Tk) (th : Nat → σ → F ⊕ (Nat × σ)) (k : Nat) (s : σ) : F ⊕ (Nat × σ) := bd (th k s) fun x => listL L th 5 x.1 x.2
def kindF (L : List Tk) (k : Nat) : List (Nat × List UInt8) → Option Nat
  | [] => none
  | c :: l => if mayB L k ⟨c.2.toArray⟩ then some c.1 else kindF L k l
def kwL : List (Nat × List UInt8) := [(0, []), (1, [66, 79, 79, 76]), (2, [73, 78, 84]), (3, [84, 69, 88, 84])]
def kindG (L : List Tk) (n k : Nat) : F ⊕ (Nat × Nat) := match kindF L k kwL with
  | some q => .inr (q, k + 1)
  | none => .inl (fl n k 6)
def colF (L : List Tk) (n : Nat) : Nat → List Cq → F ⊕ (Nat × List Cq) := fun k l => bd (nameG L n k) fun x =>
  if hasC l x.1 then .inl ((x.2 : Int) - 1, 9) else bd (kindG L n x.2) fun y => .inr (y.2, l ++ [⟨x.1, y.1⟩])
def valF (L : List Tk) (n : Nat) : Nat → List V → F ⊕ (Nat × List V) := fun k l => bd (litG L n k) fun x => match x.1 with
  | some v => .inr (x.2, l ++ [v])
  | none => .inl (fl n x.2 6)
def nmsG (L : List Tk) (n : Nat) : Nat → List ByteArray → F ⊕ (Nat × List ByteArray) := fun k l => bd (nameG L n k) fun x => .inr (x.2, l ++ [x.1])
def sq0 : Sq := ⟨0, ⟨#[]⟩, [], [], [], false, [], ⟨#[]⟩, false, -1, ⟨#[]⟩, []⟩
def createF (L : List Tk) (n k : Nat) (s : Sq) : F ⊕ (Nat × Sq) :=
  bd (mustF L n k [sTABLE]) fun k => bd (nameG L n k) fun x => bd (mustF L n x.2 [sOpen]) fun k => bd (listF L (colF L n) k s.cols) fun y =>
  bd (mustF L n y.1 [sClose]) fun k => .inr (k, { s with k := 1, t := x.1, cols := y.2 })
def dropF (L : List Tk) (n k : Nat) (s : Sq) : F ⊕ (Nat × Sq) := bd (mustF L n k [sTABLE]) fun k => bd (nameG L n k) fun x => .inr (x.2, { s with k := 2, t := x.1 })
def insertF (L : List Tk) (n k : Nat) (s : Sq) : F ⊕ (Nat × Sq) :=
  bd (mustF L n k [sINTO]) fun k => bd (nameG L n k) fun x => bd (mustF L n x.2 [sVALUES, sOpen]) fun k => bd (listF L (valF L n) k s.row) fun y =>
  bd (mustF L n y.1 [sClose]) fun k => .inr (k, { s with k := 3, t := x.1, row := y.2 })
def orderF (L : List Tk) (n k : Nat) : F ⊕ (Nat × ByteArray × Bool) :=
  if mayB L k sORDER then bd (mustF L n (k + 1) [sBY]) fun k => bd (nameG L n k) fun x => .inr (if mayB L x.2 sDESC then (x.2 + 1, x.1, true) else (x.2, x.1, false))
  else .inr (k, ⟨#[]⟩, false)
def limitF (L : List Tk) (n k : Nat) : F ⊕ (Nat × Int) := if mayB L k sLIMIT then bd (numG L n (k + 1)) fun x => .inr (x.2, x.1) else .inr (k, -1)
def headF (L : List Tk) (n k : Nat) : F ⊕ (Nat × List ByteArray × Bool) :=
  if mayB L k sStar then .inr (k + 1, [], false)
  else if mayB L k sCOUNT then bd (mustF L n (k + 1) [sOpen, sStar, sClose]) fun k => .inr (k, [], true)
  else bd (listF L (nmsG L n) k []) fun x => .inr (x.1, x.2, false)
def chooseF (L : List Tk) (n k : Nat) (s : Sq) : F ⊕ (Nat × Sq) :=
  bd (headF L n k) fun h => bd (mustF L n h.1 [sFROM]) fun k => bd (nameG L n k) fun x => bd (whereF L n x.2) fun y => bd (orderF L n y.1) fun z => bd (limitF L n z.1) fun u =>
  .inr (u.1, { s with k := 4, t := x.1, names := h.2.1, cnt := h.2.2, wh := y.2, ord := z.2.1, dn := z.2.2, lim := u.2 })
def updateF (L : List Tk) (n k : Nat) (s : Sq) : F ⊕ (Nat × Sq) :=
  bd (nameG L n k) fun x => bd (mustF L n x.2 [sSET]) fun k => bd (nameG L n k) fun y => bd (mustF L n y.2 [sEq]) fun k => bd (expF L n k) fun z => bd (whereF L n z.1) fun u =>
  .inr (u.1, { s with k := 5, t := x.1, st := y.1, to := z.2, wh := u.2 })
def deleteF (L : List Tk) (n k : Nat) (s : Sq) : F ⊕ (Nat × Sq) := bd (mustF L n k [sFROM]) fun k => bd (nameG L n k) fun x => bd (whereF L n x.2) fun y => .inr (y.1, { s with k := 6, t := x.1, wh := y.2 })
def partF (L : List Tk) (n : Nat) (s : Sq) : F ⊕ (Nat × Sq) :=
  if mayB L 0 sCREATE then createF L n 1 s
  else if mayB L 0 sDROP then dropF L n 1 s
  else if mayB L 0 sINSERT then insertF L n 1 s
  else if mayB L 0 sSELECT then chooseF L n 1 s
  else if mayB L 0 sUPDATE then updateF L n 1 s
  else if mayB L 0 sDELETE then deleteF L n 1 s
  else if mayB L 0 sBEGIN then .inr (1, { s with k := 7 })
  else if mayB L 0 sCOMMIT then .inr (1, { s with k := 8 })
  else if mayB L 0 sROLLBACK then .inr (1, { s with k := 9 })
  else .inr (0, s)
def stmtF (L : List Tk) (n : Nat) : F ⊕ Sq := bd (partF L n sq0) fun x => if x.2.k = 0 ∨ x.1 < n then .inl (fl n x.1 6) else .inr x.2
end Go.Proofs.YtdeollmeljaaoaaDoor.rd
/- A region that draws its order, in a state that holds up to its last operations alone (stores over what it has read): my own form of the library's walk in whatever order. -/
namespace Go.Proofs.YtdeollmeljaaoaaDoor
open Go
set_option linter.unusedVariables false
set_option linter.unusedSimpArgs false
section
variable {P : Program} {ops : Array Oper} {Q : Exit → Act → World → Prop} {md : Region.Mode} {S : World → Prop} {L : List Nat}
/-- Does one operation wait for another? -/
def waits1 (md : Region.Mode) (ops : Array Oper) (c i : Nat) : Bool :=
  match ops[c]? with
  | some o => o.after.any fun e => Region.binds md e && e.on == i
  | none => false
/-- Those of L come behind number i. -/
def lateB (md : Region.Mode) (ops : Array Oper) (L : List Nat) (i : Nat) : Bool := L.all fun t => waits1 md ops t i || (List.range ops.size).any fun c => waits1 md ops t c && waits1 md ops c i
/-- None that waits for number i has come up. -/
def cleanB (md : Region.Mode) (ops : Array Oper) (listed : Array Bool) (i : Nat) : Bool := (List.range ops.size).all fun c => !(waits1 md ops c i) || !(listed.getD c false)
/-- None of L has come up. -/
def noneB (L : List Nat) (listed : Array Bool) : Bool := L.all fun t => !(listed.getD t false)
theorem waits1_of {c i : Nat} (h : waits1 md ops c i = true) : ∃ o, ops[c]? = some o ∧ ∃ e ∈ o.after, Region.binds md e = true ∧ e.on = i := by
  unfold waits1 at h
  rcases ho : ops[c]? with _ | o
  · rw [ho] at h; simp at h
  · rw [ho] at h
    obtain ⟨j, hj, h⟩ := Array.any_eq_true.1 h
    simp only [Bool.and_eq_true, beq_iff_eq] at h
    exact ⟨o, rfl, o.after[j], Array.getElem_mem hj, h.1, h.2⟩
theorem noneB_iff {listed : Array Bool} : noneB L listed = true ↔ ∀ t ∈ L, listed.getD t false = false := by simp [noneB]
theorem noneB_set {listed : Array Bool} {j : Nat} (h : noneB L (listed.setIfInBounds j true) = true) : noneB L listed = true := by
  rw [noneB_iff] at *
  intro t ht
  rcases hl : listed.getD t false with _ | _
  · rfl
  · have := h t ht
    rw [getD_set_true hl] at this
    cases this
theorem noneB_new {listed : Array Bool} {j : Nat} (h : noneB L listed = true) (hj : j ∉ L) : noneB L (listed.setIfInBounds j true) = true := by
  rw [noneB_iff] at *
  intro t ht
  rw [getD_set_ne false (fun e => hj (by rw [e]; exact ht))]
  exact h t ht
/-- Whatever order is picked from here on; behind each operation, as long as none of L has come up, the state S holds. -/
def wpAnyT (P : Program) (md : Region.Mode) (ops : Array Oper) (Q : Exit → Act → World → Prop) (S : World → Prop) (L : List Nat) : Nat → Array Bool → Act → World → Prop
  | 0, listed, a, w => Region.ready md ops listed = [] ∧ Q .normal a w
  | fuel + 1, listed, a, w => (Region.ready md ops listed = [] → Q .normal a w) ∧ ∀ i ∈ Region.ready md ops listed, wpOp P ops Q i (fun a' w' => (noneB L (listed.setIfInBounds i true) = true → S w') ∧ wpAnyT P md ops Q S L fuel (listed.setIfInBounds i true) a' w') a w
theorem any_of_T : ∀ (fuel : Nat) (listed : Array Bool) (a : Act) (w : World), wpAnyT P md ops Q S L fuel listed a w → wpAny P md ops Q fuel listed a w
  | 0, _, _, _, h => h
  | fuel + 1, _, _, _, h => ⟨h.1, fun i hi => wpOp_mono (fun a' w' h' => any_of_T fuel _ a' w' h'.2) (h.2 i hi)⟩
theorem ready_not {listed : Array Bool} {t i : Nat} (ht : t ∈ Region.ready md ops listed) (hi : listed.getD i false = false) (hw : waits1 md ops t i = true) : False := by
  obtain ⟨o, ho, e, he, h1, h2⟩ := waits1_of hw
  obtain ⟨_, o', ho', hall⟩ := mem_ready.1 ht
  rw [ho] at ho'
  cases ho'
  have := hall e he h1
  rw [h2, hi] at this
  cases this
theorem ready_un {listed : Array Bool} {i : Nat} (hr : i ∈ Region.ready md ops listed) : listed.getD i false = false := by
  have h0 := (mem_ready.1 hr).1
  rcases Nat.lt_or_ge i listed.size with h' | h'
  · simp [h'] at h0 ⊢; exact h0
  · simp [Array.getElem?_eq_none h'] at h0
/-- One that may come up now may be taken first: it yields its value in every world that meets S0; and S0 holds as long as it has not come up. -/
theorem wpAnyT_first {S0 : World → Prop} {i : Nat} {oi : Oper} {v : Value} (hi : ops[i]? = some oi) (hiL : i ∉ L) (hsel : ∀ (j : Nat) (o : Oper) cs b, ops[j]? = some o → o.op ≠ .select cs b)
    (hQ : ∀ c a w, Q (.panic c) (a.put oi.dst v) w → Q (.panic c) a w) (G : Array Bool → Prop)
    (hG : ∀ listed j, G listed → i ∈ Region.ready md ops listed → j ∈ Region.ready md ops listed → j ≠ i → G (listed.setIfInBounds j true))
    (hS0 : ∀ listed w, G listed → i ∈ Region.ready md ops listed → (noneB L listed = true → S w) → S0 w) :
    ∀ (fuel : Nat) (listed : Array Bool) (a : Act) (w : World),
      (∀ j oj, ops[j]? = some oj → j ≠ i → listed.getD j true = false → (∀ e ∈ oj.after, Region.binds md e = true → e.on ≠ i) → oi.apart ops oj = true) →
      G listed → i ∈ Region.ready md ops listed → YieldsIf P ops S0 oi v a → (noneB L listed = true → S w) →
      wpAnyT P md ops Q S L fuel (listed.setIfInBounds i true) (a.put oi.dst v) w → wpAnyT P md ops Q S L (fuel + 1) listed a w := by
  intro fuel
  induction fuel with
  | zero =>
    intro listed a w _ hg hr hy hS H
    refine ⟨fun h => (by rw [h] at hr; cases hr), fun j hj => ?_⟩
    by_cases hji : j = i
    · subst hji; exact hy.wpOp hi (hS0 listed w hg hr hS) ⟨fun h => hS (noneB_set h), H⟩
    · have := ready_mono hj hji
      rw [H.1] at this
      cases this
  | succ fuel ih =>
    intro listed a w hfree hg hr hy hS H
    refine ⟨fun h => (by rw [h] at hr; cases hr), fun j hj => ?_⟩
    by_cases hji : j = i
    · subst hji; exact hy.wpOp hi (hS0 listed w hg hr hS) ⟨fun h => hS (noneB_set h), H⟩
    · have h1 := H.2 j (ready_mono hj hji)
      obtain ⟨hjun, oj, hoj, hall⟩ := mem_ready.1 hj
      have h0f := ready_un hr
      have hnot : ∀ e ∈ oj.after, Region.binds md e = true → e.on ≠ i := fun e he hb heq => by
        have h1 := hall e he hb
        rw [heq, h0f] at h1
        cases h1
      have h2 := wpOp_putIf hoj (hfree j oj hoj hji hjun hnot) (fun cs b => hsel i oi cs b hi) (fun cs b => hsel j oj cs b hoj) hQ hy h1
      have hfree' : ∀ k ok, ops[k]? = some ok → k ≠ i → (listed.setIfInBounds j true).getD k true = false →
          (∀ e ∈ ok.after, Region.binds md e = true → e.on ≠ i) → oi.apart ops ok = true := fun k ok hk hki hun hno => by
        refine hfree k ok hk hki ?_ hno
        by_cases hjk : j = k
        · subst hjk; exact hjun
        · rw [getD_set_ne true hjk] at hun; exact hun
      have hcomm := Array.setIfInBounds_comm (xs := listed) true true hji
      refine wpOp_mono (fun a' w' h3 => ?_) h2
      have hs' : noneB L (listed.setIfInBounds j true) = true → S w' := fun hn => h3.2.1 (by rw [← hcomm]; exact noneB_new hn hiL)
      refine ⟨hs', ih (listed.setIfInBounds j true) a' w' hfree' (hG listed j hg hr hj hji) (ready_mono hr (Ne.symm hji)) h3.1 hs' ?_⟩
      rw [hcomm]
      exact h3.2.2
/-- The steps of a walk. A load of what S names: all of L come behind it. -/
theorem wpAnyT_take {i : Nat} {oi : Oper} {v : Value} {fuel : Nat} {listed : Array Bool} {a : Act} {w : World} (hi : ops[i]? = some oi)
    (hs : Region.noSelect ops = true) (hf : Region.free md ops listed i = true) (hr : (Region.ready md ops listed).contains i = true) (hl : (lateB md ops L i && cleanB md ops listed i && noneB L listed && !(L.contains i)) = true)
    (hQ : ∀ c a w, Q (.panic c) (a.put oi.dst v) w → Q (.panic c) a w) (hy : YieldsIf P ops S oi v a) (hS : S w)
    (h : wpAnyT P md ops Q S L fuel (listed.setIfInBounds i true) (a.put oi.dst v) w) : wpAnyT P md ops Q S L (fuel + 1) listed a w := by
  simp only [Bool.and_eq_true, Bool.not_eq_true', List.contains_eq_mem, decide_eq_false_iff_not] at hl
  obtain ⟨⟨⟨h1, h2⟩, h3⟩, h4⟩ := hl
  have hlate : ∀ t ∈ L, waits1 md ops t i = true ∨ ∃ c, c < ops.size ∧ waits1 md ops t c = true ∧ waits1 md ops c i = true := fun t ht => by
    have := List.all_eq_true.1 h1 t ht
    simp only [Bool.or_eq_true, List.any_eq_true, Bool.and_eq_true, List.mem_range] at this
    rcases this with q | ⟨c, q1, q2, q3⟩
    · exact .inl q
    · exact .inr ⟨c, q1, q2, q3⟩
  refine wpAnyT_first (S0 := S) hi h4 (Region.noSelect_spec hs) hQ (fun listed => (∀ c, c < ops.size → waits1 md ops c i = true → listed.getD c false = false) ∧ noneB L listed = true) ?_ (fun _ _ hg _ hS => hS hg.2) fuel listed a w (Region.free_spec hi hf)
    ⟨fun c hc' hw => ?_, h3⟩ (by simpa using hr) hy (fun _ => hS) h
  · rintro listed j ⟨hc, hn⟩ hir hj hji
    have h0f := ready_un hir
    refine ⟨fun c hc' hw => ?_, noneB_new hn fun hjL => ?_⟩
    · have hne : j ≠ c := fun e => ready_not hj h0f (by rw [e]; exact hw)
      rw [getD_set_ne false hne]
      exact hc c hc' hw
    · rcases hlate j hjL with hw | ⟨c, hcl, hw1, hw2⟩
      · exact ready_not hj h0f hw
      · exact ready_not hj (hc c hcl hw2) hw1
  · have := List.all_eq_true.1 h2 c (List.mem_range.2 hc')
    simpa [hw] using this
/-- What yields in whatever world. -/
theorem wpAnyT_pure {i : Nat} {oi : Oper} {v : Value} {fuel : Nat} {listed : Array Bool} {a : Act} {w : World} (hi : ops[i]? = some oi)
    (hs : Region.noSelect ops = true) (hf : Region.free md ops listed i = true) (hr : (Region.ready md ops listed).contains i = true) (hl : (!(L.contains i)) = true)
    (hQ : ∀ c a w, Q (.panic c) (a.put oi.dst v) w → Q (.panic c) a w) (hy : YieldsIf P ops (fun _ => True) oi v a) (hS : noneB L listed = true → S w)
    (h : wpAnyT P md ops Q S L fuel (listed.setIfInBounds i true) (a.put oi.dst v) w) : wpAnyT P md ops Q S L (fuel + 1) listed a w := by
  simp only [Bool.not_eq_true', List.contains_eq_mem, decide_eq_false_iff_not] at hl
  exact wpAnyT_first (S0 := fun _ => True) hi hl (Region.noSelect_spec hs) hQ (fun _ => True) (fun _ _ _ _ _ _ => trivial) (fun _ _ _ _ _ => trivial) fuel listed a w (Region.free_spec hi hf) trivial (by simpa using hr) hy hS h
/-- Those that may come up next, one by one. -/
def AllReadyT (P : Program) (md : Region.Mode) (ops : Array Oper) (Q : Exit → Act → World → Prop) (S : World → Prop) (L : List Nat) (fuel : Nat) (listed : Array Bool) (a : Act) (w : World) (rs : List Nat) : Prop :=
  ∀ i ∈ rs, wpOp P ops Q i (fun a' w' => (noneB L (listed.setIfInBounds i true) = true → S w') ∧ wpAnyT P md ops Q S L fuel (listed.setIfInBounds i true) a' w') a w
theorem AllReadyT.nil {fuel : Nat} {listed : Array Bool} {a : Act} {w : World} : AllReadyT P md ops Q S L fuel listed a w [] := fun _ h => by cases h
theorem AllReadyT.cons {fuel : Nat} {listed : Array Bool} {a : Act} {w : World} {i : Nat} {o : Oper} {rs : List Nat} (ho : ops[i]? = some o)
    (h : ∀ K' : Act → World → Prop, Shut (∀ a w, (noneB L (listed.setIfInBounds i true) = true → S w) → ((noneB L (listed.setIfInBounds i true) = true → S w) → wpAnyT P md ops Q S L fuel (listed.setIfInBounds i true) a w) → K' a w) → if Region.wanted o (yielded ops a.tmps) = true then Oper.wp P o a w K' Q else K' (a.put o.dst undef) w)
    (hs : AllReadyT P md ops Q S L fuel listed a w rs) : AllReadyT P md ops Q S L fuel listed a w (i :: rs) := fun j hj => by
  rcases List.mem_cons.1 hj with rfl | hj
  · exact wpOp_step ho (fun K' hK => h K' (fun a w hS hW => hK a w ⟨hS, hW hS⟩))
  · exact hs j hj
theorem wpAnyT_ready {rs : List Nat} {fuel : Nat} {listed : Array Bool} {a : Act} {w : World} (hr : Region.ready md ops listed = rs) (hne : rs ≠ [])
    (h : AllReadyT P md ops Q S L fuel listed a w rs) : wpAnyT P md ops Q S L (fuel + 1) listed a w := ⟨fun h0 => absurd (hr ▸ h0) hne, hr ▸ h⟩
theorem wpAnyT_done {listed : Array Bool} {a : Act} {w : World} (hr : Region.ready md ops listed = []) (h : Q .normal a w) : ∀ fuel, wpAnyT P md ops Q S L fuel listed a w
  | 0 => ⟨hr, h⟩
  | _ + 1 => ⟨fun _ => h, by rw [hr]; simp⟩
theorem wpT_begin (L : List Nat) {id : Nat} {a : Act} {w : World} (hm : P.follows .mixedOrders = true) (hS : S w.drew)
    (h : S w.drew → wpAnyT P .any ops Q S L ops.size (Array.replicate ops.size false) a w.drew) : (Code.region id ops true).wp P Q a w :=
  wp_region_any hm (any_of_T _ _ _ _ (h hS))
/-- One of L has come up. -/
theorem noneB_off {listed : Array Bool} {q : Prop} (h : noneB L listed = false) : noneB L listed = true → q := fun e => by rw [h] at e; cases e
end
end Go.Proofs.YtdeollmeljaaoaaDoor

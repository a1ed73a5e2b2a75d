import Derived.Test.YtnheepkmaibofaaDoorQrk
import Derived.Test.YtnheepkmaibofaaDoorYbk
import Derived.Test.YtnheepkmaibofaaDoorVvk
import Derived.Test.YtnheepkmaibofaaDoorYdk
import Derived.Deep.AppendLies
/- Values in cells. -/
namespace Go.Proofs.YtnheepkmaibofaaDoor
open Go.ChangeShapes Go.WideShapes Go.ChangeAt Go.RowKit
set_option linter.unusedVariables false
set_option linter.unusedSimpArgs false
set_option maxHeartbeats 1000000
theorem Tryd.info44 : (Tryd.prog.info? 44).map (fun i => (i.zero, i.size, i.bytes)) = some (some (.agg #[.int .i64 0, .int .i64 0, .string ⟨#[]⟩]), 3, 32) := by kernel_rfl
theorem vc_one : ∀ (l : List V), ∀ u ∈ vc l, u.oneCell' = true
  | [], u, hu => by simp [vc] at hu
  | v :: l, u, hu => by
    simp only [vc, List.mem_cons] at hu
    rcases hu with rfl | rfl | rfl | hu
    · rfl
    · rfl
    · rfl
    · exact vc_one l u hu
end Go.Proofs.YtnheepkmaibofaaDoor
/- Stacks of values. -/
namespace Go.Proofs.YtnheepkmaibofaaDoor
open Go.ChangeShapes Go.WideShapes Go.ChangeAt Go.RowKit
set_option linter.unusedVariables false
set_option linter.unusedSimpArgs false
set_option maxHeartbeats 4000000
set_option maxRecDepth 1000000
abbrev va (u : V) : Value := .agg #[.int .i64 u.k, .int .i64 u.n, .string u.t]
theorem vc_app : ∀ l m : List V, vc (l ++ m) = vc l ++ vc m
  | [], m => by simp [vc]
  | v :: l, m => by simp [vc, vc_app l m]
theorem vc_take : ∀ (l : List V) (k : Nat), (vc l).take (k * 3) = vc (l.take k)
  | l, 0 => by simp [vc]
  | [], k + 1 => by simp [vc]
  | v :: l, k + 1 => by
    rw [show (k + 1) * 3 = k * 3 + 1 + 1 + 1 by omega]
    simp [vc, vc_take l k]
theorem vc_rd1 (w : World) (x : V) (B : Nat) (hB : w.heap.size = B) : Rd (w.alloc (.cells #[.int .i64 x.k, .int .i64 x.n, .string x.t] 44)) 3 1 (.slice (some ⟨B, 0, none⟩) 1 1) (vc [x]) := by
  subst hB
  exact Rd.own (World.ownsRow_lit (base := w.heap.size) w #[.int .i64 x.k, .int .i64 x.n, .string x.t] 1 (Nat.le_refl _) (by unfold maxLen; omega) rfl)
theorem vrev_push (st : List V) (x : V) : (x :: st).reverse = st.reverse ++ [x] := by simp
theorem vrev_top {st : List V} {a : V} {s : List V} (h : st = a :: s) : st.reverse.take s.length = s.reverse ∧ st.reverse[s.length]? = some a := by
  subst h
  constructor
  · rw [List.reverse_cons, List.take_append_of_le_length (by simp)]
    rw [List.take_of_length_le (by simp)]
  · rw [List.reverse_cons, List.getElem?_append_right (by simp)]
    simp
theorem vrev_two {st : List V} {a b : V} {s : List V} (h : st = b :: a :: s) : st.reverse.take s.length = s.reverse ∧ st.reverse[s.length]? = some a ∧ st.reverse[s.length + 1]? = some b := by
  subst h
  refine ⟨?_, ?_, ?_⟩
  · simp only [List.reverse_cons, List.append_assoc]
    rw [List.take_append_of_le_length (by simp), List.take_of_length_le (by simp)]
  · simp only [List.reverse_cons, List.append_assoc]
    rw [List.getElem?_append_right (by simp)]
    simp
  · simp only [List.reverse_cons, List.append_assoc]
    rw [List.getElem?_append_right (by simp)]
    simp
theorem own_cell3 {w : World} {B e n cap : Nat} {ao : Option Addr} {l : List V} (h : w.ownsRow B e 3 (.slice ao n cap) n (vc l)) {j : Nat} {x : V} (hj : l[j]? = some x) : ∃ g, ao = some ⟨g, 0, none⟩ ∧ w.cell? ⟨g, j * 3, none⟩ = some (.int .i64 x.k) ∧ w.cell? ⟨g, j * 3 + 1, none⟩ = some (.int .i64 x.n) ∧ w.cell? ⟨g, j * 3 + 2, none⟩ = some (.string x.t) := by
  have hjl : j < l.length := (List.getElem?_eq_some_iff.1 hj).1
  have hl := h.1
  rw [vc_length] at hl
  have hx : l.getD j nul = x := by rw [List.getD_eq_getElem?_getD, hj]; rfl
  rcases h.2 with ⟨hv, h0⟩ | ⟨g, c, cur, hv, _⟩
  · omega
  · simp only [Value.slice.injEq] at hv
    obtain ⟨rfl, _, rfl⟩ := hv
    obtain ⟨c0, c1, c2⟩ := vc_at hjl
    rw [hx] at c0 c1 c2
    refine ⟨g, rfl, ?_, ?_, ?_⟩
    · have h1 := h.cells rfl _ _ c0; rwa [Addr.add_lit, Nat.zero_add] at h1
    · have h1 := h.cells rfl _ _ c1; rwa [Addr.add_lit, Nat.zero_add] at h1
    · have h1 := h.cells rfl _ _ c2; rwa [Addr.add_lit, Nat.zero_add] at h1
/-- What a leaf, an op of one thing, an op of two make of a row's values: the fault first. -/
def lfV (l : List Cq) (r : List V) (o : Oq) : Int × V := (0, if o.k = 1 then o.v else r.getD (plI l o.t).toNat nul)
def onV (k : Int) (a : V) : Int × V := ((one k a).2, (one k a).1)
def twV (k : Int) (a b : V) : Int × V := ((two k a b).2, (two k a b).1)
/-- What a call that makes a value answers. -/
def ValIs (p : Int × V) (w : World) (e : Ending) (w' : World) : Prop := e = .returned (.tuple #[va p.2, .int .i64 p.1]) ∧ Below w.heap.size w w'
end Go.Proofs.YtnheepkmaibofaaDoor
/- Ops folded over a stack of values: what a call makes is kept, and put upon the stack. -/
namespace Go.Proofs.YtnheepkmaibofaaDoor
open Go.ChangeShapes Go.WideShapes Go.ChangeAt Go.RowKit
set_option linter.unusedVariables false
set_option linter.unusedSimpArgs false
set_option maxHeartbeats 4000000
set_option maxRecDepth 1000000
theorem vc_news (w : World) (x : V) (B : Nat) (hB : w.heap.size = B) : (w.alloc (.cells #[.int .i64 x.k, .int .i64 x.n, .string x.t] 44)).heap[B]? = some (.cells #[.int .i64 x.k, .int .i64 x.n, .string x.t] 44 (0, 0)) := by
  subst hB
  exact heap_alloc_new w _
theorem box3 {w : World} {B : Nat} {x y z : Value} {T : TypeId} (h : w.heap[B]? = some (.cells #[x, y, z] T (0, 0))) :
    w.cell? ⟨B, 0, none⟩ = some x ∧ w.cell? ⟨B, 1, none⟩ = some y ∧ w.cell? ⟨B, 2, none⟩ = some z ∧ w.frozen? ⟨B, 0, none⟩ = false ∧ w.frozen? ⟨B, 1, none⟩ = false ∧ w.frozen? ⟨B, 2, none⟩ = false := by
  refine ⟨?_, ?_, ?_, ?_, ?_, ?_⟩ <;> (simp only [World.cell?, World.frozen?]; rw [h]; rfl)
theorem st3 {w0 w : World} {B : Nat} {x y z : Value} {T : TypeId} (hb : Below B w0 w) (h : w.heap[B]? = some (.cells #[x, y, z] T (0, 0))) (a b c : Value) :
    Below B w0 (((w.setCell ⟨B, 0, none⟩ a).setCell ⟨B, 1, none⟩ b).setCell ⟨B, 2, none⟩ c) ∧ B < (((w.setCell ⟨B, 0, none⟩ a).setCell ⟨B, 1, none⟩ b).setCell ⟨B, 2, none⟩ c).heap.size ∧ (((w.setCell ⟨B, 0, none⟩ a).setCell ⟨B, 1, none⟩ b).setCell ⟨B, 2, none⟩ c).heap[B]? = some (.cells #[a, b, c] T (0, 0)) := by
  have hl : B < w.heap.size := by
    rcases Nat.lt_or_ge B w.heap.size with h1 | h1
    · exact h1
    · rw [Array.getElem?_eq_none h1] at h; cases h
  have h3 := Lib.heap_setCell_same (i := 2) (Lib.heap_setCell_same (i := 1) (Lib.heap_setCell_same (i := 0) h a) b) c
  refine ⟨⟨hb.os, hb.tape, hb.output, by simpa using hb.size, fun k hk => ?_⟩, by simpa using hl, by simpa using h3⟩
  rw [Below.heap_setCell _ _ _ _ (by show _ ≠ B; omega), Below.heap_setCell _ _ _ _ (by show _ ≠ B; omega), Below.heap_setCell _ _ _ _ (by show _ ≠ B; omega)]
  exact hb.block k hk
end Go.Proofs.YtnheepkmaibofaaDoor
/- Ops folded over a stack of values: the program's loop. -/
namespace Go.Proofs.YtnheepkmaibofaaDoor
open Go.ChangeShapes Go.WideShapes Go.ChangeAt Go.RowKit
set_option linter.unusedVariables false
set_option linter.unusedSimpArgs false
set_option maxHeartbeats 8000000
set_option maxRecDepth 1000000
/-- What a fold over values answers, by what the stack makes of the ops. -/
def FoldVIs (R : Int × List V) (w : World) (e : Ending) (w' : World) : Prop := e = .returned (.tuple #[va (if R.1 ≠ 0 then nul else R.2.headD nul), .int .i64 R.1]) ∧ Below w.heap.size w w'
theorem own_nilcap {w : World} {B e s n cp : Nat} {ao : Option Addr} {xs : List Value} (h : w.ownsRow B e s (.slice ao n cp) n xs) : (∀ a, ao = some a → ∃ g, a = ⟨g, 0, none⟩ ∧ g < w.heap.size) ∧ (ao = none → cp = 0) ∧ n ≤ cp := by
  have hl := h.lt
  rcases h.2 with ⟨hv, h0⟩ | ⟨g, c, cur, hv, h1, h2, h3, _⟩
  · simp only [Value.slice.injEq] at hv
    obtain ⟨rfl, rfl, rfl⟩ := hv
    exact ⟨fun a h => (by cases h), fun _ => rfl, Nat.le_refl _⟩
  · simp only [Value.slice.injEq] at hv
    obtain ⟨rfl, _, rfl⟩ := hv
    exact ⟨fun a h => (by cases h; exact ⟨g, rfl, (hl g rfl).2⟩), fun h => (by cases h), by omega⟩
theorem st3c {w : World} {B : Nat} {x y z : Value} {T : TypeId} (h : w.heap[B]? = some (.cells #[x, y, z] T (0, 0))) (a b c : Value) :
    (w.setCell ⟨B, 0, none⟩ a).cell? ⟨B, 0, none⟩ = some a ∧ ((w.setCell ⟨B, 0, none⟩ a).setCell ⟨B, 1, none⟩ b).cell? ⟨B, 1, none⟩ = some b ∧ (((w.setCell ⟨B, 0, none⟩ a).setCell ⟨B, 1, none⟩ b).setCell ⟨B, 2, none⟩ c).cell? ⟨B, 2, none⟩ = some c := by
  have h0 := Lib.heap_setCell_same (i := 0) h a
  have h1 := Lib.heap_setCell_same (i := 1) h0 b
  have h2 := Lib.heap_setCell_same (i := 2) h1 c
  refine ⟨?_, ?_, ?_⟩
  · simp only [World.cell?]; rw [h0]; simp
  · simp only [World.cell?]; rw [h1]; simp
  · simp only [World.cell?]; rw [h2]; simp
end Go.Proofs.YtnheepkmaibofaaDoor
/- Rows: the program's expr.Row. -/
namespace Go.Proofs.YtnheepkmaibofaaDoor
open Go.ChangeShapes Go.WideShapes Go.ChangeAt Go.RowKit Go.Deep
set_option linter.unusedVariables false
set_option linter.unusedSimpArgs false
end Go.Proofs.YtnheepkmaibofaaDoor
/- What an expression makes of a row: the program. -/
namespace Go.Proofs.YtnheepkmaibofaaDoor
open Go.ChangeShapes Go.WideShapes Go.ChangeAt Go.RowKit
set_option linter.unusedVariables false
set_option linter.unusedSimpArgs false
set_option maxHeartbeats 8000000
set_option maxRecDepth 1000000
theorem wks_is (k : Int) : wks k = 0 ∨ wks k = 1 ∨ wks k = 2 := by
  unfold wks
  split
  · exact .inl rfl
  · split
    · exact .inr (.inl rfl)
    · exact .inr (.inr rfl)
theorem ex_mem : ∀ (l : List Oq) (n : Int), exF n l = 0 → ∀ o ∈ l, opF o.k o.v.k o.v.n o.v.t o.t = 0
  | [], n, h, o, ho => by cases ho
  | x :: l, n, h, o, ho => by
    obtain ⟨h1, _, h2⟩ := ex_cons h
    rcases List.mem_cons.1 ho with rfl | ho
    · exact h1
    · exact ex_mem l _ h2 o ho
section
variable {α : Type} (lf : Oq → Int × α) (one : Int → α → Int × α) (two : Int → α → α → Int × α)
theorem rn_ok : ∀ (l : List Oq) (st : List α), exF (st.length : Int) l = 0 → (rnF lf one two st l).1 = 0 → ∀ o ∈ l, wks o.k = 0 → (lf o).1 = 0
  | [], st, _, _, o, ho, _ => by cases ho
  | x :: l, st, he, h, o, ho, hw => by
    obtain ⟨_, h1, h2⟩ := ex_cons he
    rcases wks_is x.k with hk | hk | hk
    · rw [rn_leaf lf one two hk] at h
      by_cases hne : (lf x).1 = 0
      · rw [if_neg (by simpa using hne)] at h
        rcases List.mem_cons.1 ho with rfl | ho
        · exact hne
        · exact rn_ok l _ (by rw [← h2, hk]; congr 1 <;> simp <;> omega) h o ho hw
      · rw [if_pos hne] at h
        exact absurd h hne
    · match st, h1, h2, h with
      | [], h1, _, _ => exact absurd (by rw [hk]; simp) h1
      | a :: s, h1, h2, h =>
        rw [rn_un lf one two hk] at h
        by_cases hne : (one x.k a).1 = 0
        · rw [if_neg (by simpa using hne)] at h
          rcases List.mem_cons.1 ho with rfl | ho
          · omega
          · exact rn_ok l _ (by rw [← h2, hk]; congr 1 <;> simp <;> omega) h o ho hw
        · rw [if_pos hne] at h
          exact absurd h hne
    · match st, h1, h2, h with
      | [], h1, _, _ => exact absurd (by rw [hk]; simp) h1
      | [_], h1, _, _ => exact absurd (by rw [hk]; simp) h1
      | b :: a :: s, h1, h2, h =>
        rw [rn_bi lf one two hk] at h
        by_cases hne : (two x.k a b).1 = 0
        · rw [if_neg (by simpa using hne)] at h
          rcases List.mem_cons.1 ho with rfl | ho
          · omega
          · exact rn_ok l _ (by rw [← h2, hk]; congr 1 <;> simp <;> omega) h o ho hw
        · rw [if_pos hne] at h
          exact absurd h hne
theorem rn_pres (P : α → Prop) (h1 : ∀ k a, P a → P (one k a).2) (h2 : ∀ k a b, P a → P b → P (two k a b).2) : ∀ (l : List Oq) (st : List α), (∀ o ∈ l, wks o.k = 0 → P (lf o).2) → (∀ x ∈ st, P x) → ∀ x ∈ (rnF lf one two st l).2, P x
  | [], st, _, hs => by simpa [rnF] using hs
  | o :: l, st, hl, hs => by
    have hl' : ∀ o ∈ l, wks o.k = 0 → P (lf o).2 := fun x hx => hl x (List.mem_cons_of_mem _ hx)
    have no : ∀ x ∈ ([] : List α), P x := fun x hx => by cases hx
    unfold rnF
    by_cases k0 : wks o.k = 0
    · rw [if_pos k0]
      by_cases hne : (lf o).1 ≠ 0
      · rw [if_pos hne]; exact no
      · rw [if_neg hne]
        refine rn_pres P h1 h2 l _ hl' fun x hx => ?_
        rcases List.mem_cons.1 hx with rfl | hx
        · exact hl o (by simp) k0
        · exact hs x hx
    · rw [if_neg k0]
      by_cases k1 : wks o.k = 1
      · rw [if_pos k1]
        match st, hs with
        | [], _ => exact no
        | a :: s, hs =>
          show ∀ x ∈ (if (one o.k a).1 ≠ 0 then ((one o.k a).1, []) else rnF lf one two ((one o.k a).2 :: s) l).2, P x
          by_cases hne : (one o.k a).1 ≠ 0
          · rw [if_pos hne]; exact no
          · rw [if_neg hne]
            refine rn_pres P h1 h2 l _ hl' fun x hx => ?_
            rcases List.mem_cons.1 hx with rfl | hx
            · exact h1 _ _ (hs a (by simp))
            · exact hs x (by simp [hx])
      · rw [if_neg k1]
        match st, hs with
        | [], _ => exact no
        | [_], _ => exact no
        | b :: a :: s, hs =>
          show ∀ x ∈ (if (two o.k a b).1 ≠ 0 then ((two o.k a b).1, []) else rnF lf one two ((two o.k a b).2 :: s) l).2, P x
          by_cases hne : (two o.k a b).1 ≠ 0
          · rw [if_pos hne]; exact no
          · rw [if_neg hne]
            refine rn_pres P h1 h2 l _ hl' fun x hx => ?_
            rcases List.mem_cons.1 hx with rfl | hx
            · exact h2 _ _ _ (hs a (by simp)) (hs b (by simp))
            · exact hs x (by simp [hx])
end
def Sm (v : V) : Prop := v.t.size ≤ 20
theorem sm_nul : Sm nul := by unfold Sm nul; decide
theorem sm_tru (b : Bool) : Sm (tru b) := by show (⟨#[]⟩ : ByteArray).size ≤ 20; decide
theorem sm_one (k : Int) (a : V) (h : Sm a) : Sm (onV k a).2 := by
  show Sm (one k a).1
  unfold one turn
  split
  · exact sm_nul
  · split
    · exact sm_tru _
    · split
      · split
        · exact sm_nul
        · split
          · exact sm_tru _
          · exact sm_nul
      · exact sm_nul
theorem sm_join (a b : V) (d : Int) (h : Sm a) (g : Sm b) : Sm (join a b d).1 := by
  unfold join
  split
  · exact sm_nul
  · split
    · exact h
    · split
      · exact g
      · split
        · exact sm_nul
        · exact sm_tru _
theorem sm_hold (k : Int) (a b : V) : Sm (hold k a b).1 := by
  unfold hold
  split
  · exact sm_nul
  · split
    · exact sm_nul
    · split
      · exact sm_tru _
      · exact sm_tru _
theorem sm_reck (k : Int) (a b : V) : Sm (reck k a b).1 := by
  unfold reck
  split
  · exact sm_nul
  · split
    · exact sm_nul
    · split
      · exact sm_nul
      · show (⟨#[]⟩ : ByteArray).size ≤ 20; decide
theorem sm_two (k : Int) (a b : V) (h : Sm a) (g : Sm b) : Sm (twV k a b).2 := by
  show Sm (two k a b).1
  unfold two
  split
  · exact sm_nul
  · split
    · exact sm_join _ _ _ h g
    · split
      · exact sm_join _ _ _ h g
      · split
        · exact sm_hold _ _ _
        · split
          · exact sm_hold _ _ _
          · split
            · exact sm_reck _ _ _
            · split
              · exact sm_reck _ _ _
              · split
                · exact sm_reck _ _ _
                · exact sm_nul
theorem chk_sm {v : V} (h : chk v.k v.n v.t = 0) : Sm v := by
  unfold chk at h
  unfold Sm
  split at h
  · omega
  · split at h
    · omega
    · split at h
      · omega
      · split at h <;> omega
theorem rv_sm : ∀ (r : List V) (l : List Cq) (i : Nat), r.length = l.length → rvF i l r = 0 → ∀ v ∈ r, Sm v
  | [], _, _, _, _, v, hv => by cases hv
  | x :: r, [], _, h, _, _, _ => by simp at h
  | x :: r, c :: l, i, hl, h, v, hv => by
    unfold rvF at h
    split at h
    · omega
    · next h1 =>
      split at h
      · omega
      · rcases List.mem_cons.1 hv with rfl | hv
        · exact chk_sm (by simpa using h1)
        · exact rv_sm r l _ (by simpa using hl) h v hv
theorem op_sm {o : Oq} (h : opF o.k o.v.k o.v.n o.v.t o.t = 0) : Sm o.v := by
  unfold opF at h
  split at h
  · omega
  · split at h
    · omega
    · next h1 =>
      have h2 : litF o.v.k o.v.n o.v.t = 0 := by simpa using h1
      unfold litF at h2
      split at h2
      · omega
      · exact chk_sm h2
/-- What Eval answers: the fault, the value. -/
def evalF (l : List Cq) (r : List V) (ops : List Oq) : Int × V :=
  if rowF l r ≠ 0 then (rowF l r, nul) else if (kindF l ops).1 ≠ 0 then ((kindF l ops).1, nul)
  else ((rnF (lfV l r) onV twV [] ops).1, if (rnF (lfV l r) onV twV [] ops).1 ≠ 0 then nul else (rnF (lfV l r) onV twV [] ops).2.headD nul)
theorem row_ok {l : List Cq} {r : List V} (h : rowF l r = 0) : colsF l = 0 ∧ r.length = l.length ∧ rvF 0 l r = 0 := by
  unfold rowF at h
  split at h
  · omega
  · next h1 =>
    split at h
    · omega
    · next h2 => exact ⟨by simpa using h1, by simpa using h2, h⟩
theorem kind_ok {l : List Cq} {ops : List Oq} (h : (kindF l ops).1 = 0) : exprF ops = 0 ∧ exF 0 ops = 0 ∧ (rnF (lfK l) onK twK [] ops).1 = 0 := by
  unfold kindF at h
  split at h
  · next h1 => exact absurd h h1
  · split at h
    · next h1 => exact absurd h h1
    · next h1 =>
      have h2 : exprF ops = 0 := by simpa using h1
      refine ⟨h2, ?_, h⟩
      unfold exprF at h2
      split at h2
      · omega
      · exact h2
/-- Where a leaf's column is. -/
theorem leaf_in {l : List Cq} {r : List V} {ops : List Oq} (hr : rowF l r = 0) (hk : (kindF l ops).1 = 0) {o : Oq} (ho : o ∈ ops) (hw : wks o.k = 0) : o.k = 1 ∨ ∃ j : Nat, plI l o.t = (j : Int) ∧ j < r.length := by
  obtain ⟨_, h1, h2⟩ := kind_ok hk
  have h3 := rn_ok (lfK l) onK twK ops [] h1 h2 o ho hw
  by_cases h : o.k = 1
  · exact .inl h
  · unfold lfK at h3
    rw [if_neg h] at h3
    rcases plI_in l o.t with hp | ⟨j, hp, hj⟩
    · rw [hp] at h3
      simp at h3
    · exact .inr ⟨j, hp, by rw [(row_ok hr).2.1]; exact hj⟩
theorem eval_sm {l : List Cq} {r : List V} {ops : List Oq} (hr : rowF l r = 0) (hk : (kindF l ops).1 = 0) : Sm (if (rnF (lfV l r) onV twV [] ops).1 ≠ 0 then nul else (rnF (lfV l r) onV twV [] ops).2.headD nul) := by
  have h := rn_pres (lfV l r) onV twV Sm sm_one sm_two ops [] (fun o ho hw => by
    unfold lfV
    show Sm (if o.k = 1 then o.v else r.getD (plI l o.t).toNat nul)
    split
    · exact op_sm (ex_mem ops 0 (kind_ok hk).2.1 o ho)
    · next h1 =>
      rcases leaf_in hr hk ho hw with h2 | ⟨j, h2, h3⟩
      · exact absurd h2 h1
      · rw [h2]
        refine rv_sm r l 0 (row_ok hr).2.1 (row_ok hr).2.2 _ ?_
        rw [Int.toNat_natCast, List.getD_eq_getElem?_getD, List.getElem?_eq_getElem h3]
        exact List.getElem_mem h3) (fun x hx => by cases hx)
  split
  · exact sm_nul
  · match hq : (rnF (lfV l r) onV twV [] ops).2 with
    | [] => exact sm_nul
    | x :: s =>
      rw [hq] at h
      exact h x (by simp)
end Go.Proofs.YtnheepkmaibofaaDoor

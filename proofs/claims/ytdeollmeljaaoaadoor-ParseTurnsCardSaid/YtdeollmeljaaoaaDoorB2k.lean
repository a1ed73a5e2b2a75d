import Derived.Test.YtdeollmeljaaoaaDoorBfk
import Derived.Test.YtdeollmeljaaoaaDoorB0k
import Derived.Deep.Slices
import Derived.Deep.Fields
import Derived.SizedLaws
import Derived.Test.YtdeollmeljaaoaaDoorQkk
import Derived.Test.YtdeollmeljaaoaaDoorUek
import Derived.Shelf.SlSortCmp.QuietGrown
import Derived.Test.YtdeollmeljaaoaaDoorUfk
/- What an argument that is a slice reads as. -/
namespace Go.Proofs.YtdeollmeljaaoaaDoor
open Go.ChangeShapes Go.WideShapes Go.ChangeAt Go.RowKit Go.Deep
set_option linter.unusedVariables false
set_option linter.unusedSimpArgs false
section
variable {H : Type} {enc : TypeId × Value → H} {P : Program} {w : World} {base : Nat} {spare : Nat → Bool} {held : Bool}
/-- A slice of bytes. -/
theorem open_by {t e : TypeId} {b0 : Nat} {r : Reach} {v : Value} {d : DataW H} {p : List MemPlace} (ht : P.underlying t = some (.slice e)) (he : P.underlying e = some (.int .u8)) (hC : P.cellsOf e = 1) (hv : Value.okWide P w r b0 t v) (h : DataW.Trod enc P w base spare held t v d p) :
    ∃ (n : Nat) (l : List UInt8), Rd w 1 n v (bc l) ∧ (n = 0 ∨ ∃ es sp, d = .slice es sp ∧ es.length = n) := by
  obtain ⟨a0, len, cap, rfl⟩ := okWide_slice ht hv
  obtain ⟨fuel, hf⟩ := h
  rcases open_ints ht he hC hf with ⟨hcs, hx⟩ | ⟨a, len', cap', zs, hcs, _, hl, hm, hz, hx, hcell, hwz⟩
  · simp [Value.cells] at hcs
    obtain ⟨rfl, rfl, rfl⟩ := hcs
    exact ⟨0, [], by simpa [bc] using Rd.nil w 1, .inl rfl⟩
  · simp [Value.cells] at hcs
    obtain ⟨rfl, rfl, rfl⟩ := hcs
    have hle : len ≤ zs.length := by rw [hz]; split <;> omega
    refine ⟨len, (zs.take len).map fun n => UInt8.ofNat n.toNat, ⟨by simp [bc_length]; omega, some a, cap, rfl, hl, hm, (fun h => by cases h), fun b hb j u hu => ?_⟩, ?_⟩
    · obtain rfl := Option.some.inj hb
      have hj : j < len := by
        have := (List.getElem?_eq_some_iff.1 hu).1
        simp [bc_length] at this
        omega
      have hjz : j < zs.length := by omega
      have hw := hwz zs[j] (List.getElem_mem hjz)
      simp only [Lit.wf, Bool.and_eq_true, decide_eq_true_eq] at hw
      have hw1 : 0 ≤ zs[j] := by have := hw.1; simp [IntKind.min, IntKind.signed, IntKind.bits] at this; omega
      have hw2 : zs[j] < 256 := by have := hw.2; simp [IntKind.max, IntKind.signed, IntKind.bits] at this; omega
      rw [hcell j hjz]
      simp [bc, List.getElem?_take, hj, hjz] at hu
      subst hu
      simp [List.getD, hjz]
      omega
    · simp only [Prod.mk.injEq] at hx
      refine .inr ⟨_, _, hx.1, ?_⟩
      simp [lits]
      omega
end
end Go.Proofs.YtdeollmeljaaoaaDoor
/- Rows: values in memory; what a row lacks, by the program and by the document. -/
namespace Go.Proofs.YtdeollmeljaaoaaDoor
open Go.ChangeShapes Go.WideShapes Go.ChangeAt Go.RowKit Go.Deep
set_option linter.unusedVariables false
set_option linter.unusedSimpArgs false
/-- The cells of pieces. -/
def vc : List V → List Value
  | [] => []
  | v :: l => .int .i64 v.k :: .int .i64 v.n :: .string v.t :: vc l
theorem vc_length : ∀ l : List V, (vc l).length = l.length * 3
  | [] => rfl
  | v :: l => by simp [vc, vc_length l]; omega
theorem vc_at : ∀ {l : List V} {k : Nat}, k < l.length → (vc l)[k * 3]? = some (.int .i64 (l.getD k nul).k) ∧ (vc l)[k * 3 + 1]? = some (.int .i64 (l.getD k nul).n) ∧ (vc l)[k * 3 + 2]? = some (.string (l.getD k nul).t)
  | [], k, h => by simp at h
  | v :: l, 0, _ => by simp [vc]
  | v :: l, k + 1, h => by
    have ih := vc_at (l := l) (k := k) (by simpa using h)
    have e : (k + 1) * 3 = k * 3 + 1 + 1 + 1 := by omega
    rw [e]
    simpa [vc] using ih
theorem vals_of {w : World} {n : Nat} {v : Value} {l : List V} (h : Rd w 3 n v (vc l)) (hn : 0 < n) :
    l.length = n ∧ ∃ b o cap, v = .slice (some ⟨b, o, none⟩) n cap ∧ n ≤ cap ∧ cap ≤ maxLen ∧ b < w.heap.size ∧
      ∀ k, k < n → w.cell? ⟨b, o + k * 3, none⟩ = some (.int .i64 (l.getD k nul).k) ∧ w.cell? ⟨b, o + k * 3 + 1, none⟩ = some (.int .i64 (l.getD k nul).n) ∧ w.cell? ⟨b, o + k * 3 + 2, none⟩ = some (.string (l.getD k nul).t) := by
  have hl : l.length = n := by have := h.1; rw [vc_length] at this; omega
  obtain ⟨b, o, cap, h1, h2, h3, h4, h5⟩ := h.pos hn (by omega)
  refine ⟨hl, b, o, cap, h1, h2, h3, h4, fun k hk => ?_⟩
  obtain ⟨g1, g2, g3⟩ := vc_at (l := l) (k := k) (by omega)
  exact ⟨h5 _ _ g1, h5 _ _ g2, h5 _ _ g3⟩
section
variable {H : Type} {enc : TypeId × Value → H} {P : Program} {w : World} {base : Nat} {spare : Nat → Bool} {held : Bool}
/-- Three cells at each element: the slice reads as values. -/
theorem rd_of (f : Nat → V) (n cap : Nat) (a : Addr) (h1 : n ≤ cap) (h2 : cap ≤ maxLen)
    (hc : ∀ i, i < n → w.cell? (a.add (i * 3)) = some (.int .i64 (f i).k) ∧ w.cell? (a.add (i * 3 + 1)) = some (.int .i64 (f i).n) ∧ w.cell? (a.add (i * 3 + 2)) = some (.string (f i).t)) :
    Rd w 3 n (.slice (some a) n cap) (vc ((List.range n).map f)) := by
  refine ⟨by rw [vc_length]; simp, some a, cap, rfl, h1, h2, (fun h => by cases h), fun b hb j u hu => ?_⟩
  obtain rfl := Option.some.inj hb
  have hj : j < n * 3 := by
    have := (List.getElem?_eq_some_iff.1 hu).1
    rw [vc_length] at this
    simpa using this
  have hi : j / 3 < n := by omega
  have hl : j / 3 < ((List.range n).map f).length := by simpa using hi
  obtain ⟨g1, g2, g3⟩ := vc_at (l := (List.range n).map f) hl
  obtain ⟨k1, k2, k3⟩ := hc _ hi
  have hg : ((List.range n).map f).getD (j / 3) nul = f (j / 3) := by simp [List.getD, hi]
  rw [hg] at g1 g2 g3
  have h3 : j = j / 3 * 3 ∨ j = j / 3 * 3 + 1 ∨ j = j / 3 * 3 + 2 := by omega
  rcases h3 with e | e | e
  · rw [e] at hu ⊢; rw [g1] at hu; cases hu; exact k1
  · rw [e] at hu ⊢; rw [g2] at hu; cases hu; exact k2
  · rw [e] at hu ⊢; rw [g3] at hu; cases hu; exact k3
/-- What an element of three cells reads as. -/
theorem elem3 {e : TypeId} {f0 f1 f2 : Field} {fuel : Nat} {cs : List Value} {x : DataW H × List MemPlace} (he : P.underlying e = some (.struct #[f0, f1, f2])) (hone : oneCellFields P #[f0, f1, f2] = true) (hC : P.cellsOf e = 3)
    (h0 : P.underlying f0.type = some (.int .i64)) (h1 : P.underlying f1.type = some (.int .i64)) (h2 : P.underlying f2.type = some .string) (h : DataW.trod enc P w base spare held fuel e cs = some x) :
    ∃ u : V, cs = [.int .i64 u.k, .int .i64 u.n, .string u.t] ∧ (Lit.int .i64 u.k).wf = true ∧ (Lit.int .i64 u.n).wf = true ∧ u.t.size ≤ maxLen := by
  obtain ⟨xs, n, _, _, hl, hx, hf⟩ := DataW.trod_struct he h
  rw [hC] at hl
  obtain ⟨o0, k0⟩ := hone_of hone 0 f0 rfl
  obtain ⟨o1, k1⟩ := hone_of hone 1 f1 rfl
  obtain ⟨o2, k2⟩ := hone_of hone 2 f2 rfl
  match cs, hl with
  | [c0, c1, c2], _ =>
    match xs, hx with
    | [y0, y1, y2], _ =>
      have g0 := hf 0 f0 rfl
      have g1 := hf 1 f1 rfl
      have g2 := hf 2 f2 rfl
      simp [o0, k0] at g0
      simp [o1, k1] at g1
      simp [o2, k2] at g2
      obtain ⟨k, e0, _, w0⟩ := DataW.trod_int h0 g0
      obtain ⟨m, e1, _, w1⟩ := DataW.trod_int h1 g1
      obtain ⟨s, e2, _, w2⟩ := DataW.trod_string h2 g2
      simp at e0 e1 e2
      exact ⟨⟨k, m, s⟩, by rw [e0, e1, e2], w0, w1, w2⟩
theorem open_v3 {t e : TypeId} {f0 f1 f2 : Field} {b0 : Nat} {r : Reach} {v : Value} {d : DataW H} {p : List MemPlace} (ht : P.underlying t = some (.slice e)) (he : P.underlying e = some (.struct #[f0, f1, f2])) (hone : oneCellFields P #[f0, f1, f2] = true) (hC : P.cellsOf e = 3)
    (h0 : P.underlying f0.type = some (.int .i64)) (h1 : P.underlying f1.type = some (.int .i64)) (h2 : P.underlying f2.type = some .string) (hv : Value.okWide P w r b0 t v) (h : DataW.Trod enc P w base spare held t v d p) :
    ∃ (n : Nat) (l : List V), Rd w 3 n v (vc l) ∧ (∀ u ∈ l, (Lit.int .i64 u.k).wf = true ∧ (Lit.int .i64 u.n).wf = true ∧ u.t.size ≤ maxLen) ∧ (n = 0 ∨ ∃ es sp, d = .slice es sp ∧ es.length = n) := by
  obtain ⟨a0, len, cap, rfl⟩ := okWide_slice ht hv
  obtain ⟨fuel, hf⟩ := h
  rcases open_slice ht hf with ⟨hcs, hx⟩ | ⟨a, len', cap', m, n, D, Pl, hcs, _, hl, hm, hmm, hx, hi⟩
  · simp [Value.cells] at hcs
    obtain ⟨rfl, rfl, rfl⟩ := hcs
    exact ⟨0, [], by simpa [vc] using Rd.nil w 3, by simp, .inl rfl⟩
  · simp [Value.cells] at hcs
    obtain ⟨rfl, rfl, rfl⟩ := hcs
    have hle : len ≤ m := by rw [hmm]; split <;> omega
    have each : ∀ i, ∃ u : V, i < len → (w.cell? (a.add (i * 3)) = some (.int .i64 u.k) ∧ w.cell? (a.add (i * 3 + 1)) = some (.int .i64 u.n) ∧ w.cell? (a.add (i * 3 + 2)) = some (.string u.t)) ∧
        (Lit.int .i64 u.k).wf = true ∧ (Lit.int .i64 u.n).wf = true ∧ u.t.size ≤ maxLen := by
      intro i
      by_cases hil : i < len
      · obtain ⟨cs', hc, htr⟩ := hi i (by omega)
        rw [hC] at hc
        obtain ⟨u, rfl, w0, w1, w2⟩ := elem3 he hone hC h0 h1 h2 htr
        obtain ⟨_, _, hat⟩ := World.cells?_some hc
        have a0 := hat 0 (by omega)
        have a1 := hat 1 (by omega)
        have a2 := hat 2 (by omega)
        rw [add_add] at a0 a1 a2
        exact ⟨u, fun _ => ⟨⟨a0, a1, a2⟩, w0, w1, w2⟩⟩
      · exact ⟨nul, fun h => absurd h hil⟩
    obtain ⟨f, hfx⟩ := Classical.axiomOfChoice each
    refine ⟨len, (List.range len).map f, rd_of f len cap a hl hm fun i hi' => (hfx i hi').1, ?_, ?_⟩
    · intro u hu
      obtain ⟨i, hi', rfl⟩ := List.mem_map.1 hu
      exact (hfx i (List.mem_range.1 hi')).2
    · simp only [Prod.mk.injEq] at hx
      exact .inr ⟨_, _, hx.1, by simp⟩
end
theorem len_v {w : World} {n : Nat} {v : Value} {l : List V} (h : Rd w 3 n v (vc l)) : n = l.length := by have := h.1; rw [vc_length] at this; omega
/-- What Join and Cut want of good tokens. -/

theorem cell_blz {W W' : World} {a : Addr} {v : Value} (hb : Below W.heap.size W W') (h : W.cell? a = some v) : W'.cell? a = some v := (hb.cell (lt_cell h)).trans h
/-- What values lack, one by one, from a place on. -/
def rvF : Nat → List Cq → List V → Int
  | i, c :: l, v :: r => if chk v.k v.n v.t ≠ 0 then chk v.k v.n v.t else if (v.k ≠ c.k ∧ v.k ≠ 0) ∨ (i = 0 ∧ v.k = 0) then 4 else rvF (i + 1) l r
  | _, _, _ => 0
def rowF (l : List Cq) (r : List V) : Int := if colsF l ≠ 0 then colsF l else if r.length ≠ l.length then 1 else rvF 0 l r
theorem vdrop_cons {l : List V} {k : Nat} (h : k < l.length) : l.drop k = l.getD k nul :: l.drop (k + 1) := by
  rw [List.drop_eq_getElem_cons h]
  simp [List.getD, List.getElem?_eq_getElem h]
end Go.Proofs.YtdeollmeljaaoaaDoor
/- Ops that are an expression are a tree, written out from its leaves on; what a stack makes of them; where what ends at a place begins. Plain. -/
namespace Go.Proofs.YtdeollmeljaaoaaDoor
set_option linter.unusedVariables false
set_option linter.unusedSimpArgs false
inductive Tx where
  | leaf (o : Oq)
  | un (o : Oq) (a : Tx)
  | bi (o : Oq) (a b : Tx)
def Tx.flat : Tx → List Oq
  | .leaf o => [o]
  | .un o a => a.flat ++ [o]
  | .bi o a b => a.flat ++ b.flat ++ [o]
def Tx.op : Tx → Oq
  | .leaf o => o
  | .un o _ => o
  | .bi o _ _ => o
/-- Each op works on as many as stand beneath it, and is one that may be. -/
def Tx.ok : Tx → Prop
  | .leaf o => wks o.k = 0 ∧ opF o.k o.v.k o.v.n o.v.t o.t = 0
  | .un o a => wks o.k = 1 ∧ opF o.k o.v.k o.v.n o.v.t o.t = 0 ∧ a.ok
  | .bi o a b => wks o.k = 2 ∧ opF o.k o.v.k o.v.n o.v.t o.t = 0 ∧ a.ok ∧ b.ok
theorem Tx.flat_pos : ∀ t : Tx, 0 < t.flat.length
  | .leaf o => by simp [Tx.flat]
  | .un o a => by simp [Tx.flat]
  | .bi o a b => by simp [Tx.flat]; omega
theorem Tx.ok_mem : ∀ {t : Tx}, t.ok → ∀ o ∈ t.flat, opF o.k o.v.k o.v.n o.v.t o.t = 0
  | .leaf o, h, x, hx => by
    simp only [Tx.flat, List.mem_singleton] at hx
    subst hx
    exact h.2
  | .un o a, h, x, hx => by
    simp only [Tx.flat, List.mem_append, List.mem_singleton] at hx
    rcases hx with hx | rfl
    · exact Tx.ok_mem h.2.2 x hx
    · exact h.2.1
  | .bi o a b, h, x, hx => by
    simp only [Tx.flat, List.mem_append, List.mem_singleton] at hx
    rcases hx with (hx | hx) | rfl
    · exact Tx.ok_mem h.2.2.1 x hx
    · exact Tx.ok_mem h.2.2.2 x hx
    · exact h.2.1
/-- Trees on a stack, the last one first, written out. -/
def flatS : List Tx → List Oq
  | [] => []
  | t :: s => flatS s ++ t.flat
theorem ex_trees : ∀ (l : List Oq) (st : List Tx) (n : Int), n = (st.length : Int) → (∀ t ∈ st, t.ok) → exF n l = 0 → ∃ t : Tx, t.ok ∧ flatS st ++ l = t.flat
  | [], st, n, hn, hok, h => by
    have h1 : n = 1 := by
      unfold exF at h
      split at h
      · assumption
      · omega
    match st, hn with
    | [t], _ => exact ⟨t, hok t (by simp), by simp [flatS]⟩
    | [], hn => simp at hn; omega
    | _ :: _ :: _, hn => simp at hn; omega
  | o :: l, st, n, hn, hok, h => by
    unfold exF at h
    split at h
    · omega
    · rename_i h0
      have h0 : opF o.k o.v.k o.v.n o.v.t o.t = 0 := by simpa using h0
      split at h
      · omega
      · rename_i hw
        have hx := wks_in o.k
        by_cases k0 : wks o.k = 0
        · obtain ⟨t, h1, h2⟩ := ex_trees l (.leaf o :: st) (n + 1 - wks o.k) (by simp; omega) (fun t ht => by
            rcases List.mem_cons.1 ht with rfl | ht
            · exact ⟨k0, h0⟩
            · exact hok t ht) h
          exact ⟨t, h1, by rw [← h2]; simp [flatS, Tx.flat]⟩
        · by_cases k1 : wks o.k = 1
          · match st, hn, hok with
            | [], hn, _ => simp at hn; omega
            | a :: s, hn, hok =>
              obtain ⟨t, h1, h2⟩ := ex_trees l (.un o a :: s) (n + 1 - wks o.k) (by simp at hn ⊢; omega) (fun t ht => by
                rcases List.mem_cons.1 ht with rfl | ht
                · exact ⟨k1, h0, hok a (by simp)⟩
                · exact hok t (by simp [ht])) h
              exact ⟨t, h1, by rw [← h2]; simp [flatS, Tx.flat]⟩
          · have k2 : wks o.k = 2 := by omega
            match st, hn, hok with
            | [], hn, _ => simp at hn; omega
            | [a], hn, _ => simp at hn; omega
            | b :: a :: s, hn, hok =>
              obtain ⟨t, h1, h2⟩ := ex_trees l (.bi o a b :: s) (n + 1 - wks o.k) (by simp at hn ⊢; omega) (fun t ht => by
                rcases List.mem_cons.1 ht with rfl | ht
                · exact ⟨k2, h0, hok a (by simp), hok b (by simp)⟩
                · exact hok t (by simp [ht])) h
              exact ⟨t, h1, by rw [← h2]; simp [flatS, Tx.flat]⟩
/-- Ops that are an expression are a tree. -/
theorem expr_tree {l : List Oq} (h : exprF l = 0) : l.length ≤ 40 ∧ ∃ t : Tx, t.ok ∧ l = t.flat := by
  unfold exprF at h
  split at h
  · omega
  · obtain ⟨t, h1, h2⟩ := ex_trees l [] 0 rfl (by simp) h
    exact ⟨by omega, t, h1, by simpa [flatS] using h2⟩
section
variable {α : Type} (lf : Oq → Int × α) (one : Int → α → Int × α) (two : Int → α → α → Int × α)
/-- What an expression makes; the first fault. -/
def evT : Tx → Int × α
  | .leaf o => lf o
  | .un o a => if (evT a).1 ≠ 0 then evT a else one o.k (evT a).2
  | .bi o a b => if (evT a).1 ≠ 0 then evT a else if (evT b).1 ≠ 0 then evT b else two o.k (evT a).2 (evT b).2
/-- What a stack makes of ops: the fault, or what stands there (the last one first). -/
def rnF : List α → List Oq → Int × List α
  | st, [] => (0, st)
  | st, o :: l =>
    if wks o.k = 0 then (if (lf o).1 ≠ 0 then ((lf o).1, []) else rnF ((lf o).2 :: st) l)
    else if wks o.k = 1 then (match st with
      | a :: s => if (one o.k a).1 ≠ 0 then ((one o.k a).1, []) else rnF ((one o.k a).2 :: s) l
      | [] => (0, []))
    else (match st with
      | b :: a :: s => if (two o.k a b).1 ≠ 0 then ((two o.k a b).1, []) else rnF ((two o.k a b).2 :: s) l
      | _ => (0, []))
theorem rn_leaf {o : Oq} {st : List α} {l : List Oq} (h : wks o.k = 0) : rnF lf one two st (o :: l) = if (lf o).1 ≠ 0 then ((lf o).1, []) else rnF lf one two ((lf o).2 :: st) l := by
  conv => lhs; unfold rnF
  rw [if_pos h]
theorem rn_un {o : Oq} {a : α} {st : List α} {l : List Oq} (h : wks o.k = 1) : rnF lf one two (a :: st) (o :: l) = if (one o.k a).1 ≠ 0 then ((one o.k a).1, []) else rnF lf one two ((one o.k a).2 :: st) l := by
  conv => lhs; unfold rnF
  rw [if_neg (by omega), if_pos h]
theorem rn_bi {o : Oq} {a b : α} {st : List α} {l : List Oq} (h : wks o.k = 2) : rnF lf one two (b :: a :: st) (o :: l) = if (two o.k a b).1 ≠ 0 then ((two o.k a b).1, []) else rnF lf one two ((two o.k a b).2 :: st) l := by
  conv => lhs; unfold rnF
  rw [if_neg (by omega), if_neg (by omega)]
theorem ev_un_bad {o : Oq} {a : Tx} (h : (evT lf one two a).1 ≠ 0) : evT lf one two (.un o a) = evT lf one two a := by
  conv => lhs; unfold evT
  rw [if_pos h]
theorem ev_un {o : Oq} {a : Tx} (h : (evT lf one two a).1 = 0) : evT lf one two (.un o a) = one o.k (evT lf one two a).2 := by
  conv => lhs; unfold evT
  rw [if_neg (by simpa using h)]
theorem ev_bi_bad {o : Oq} {a b : Tx} (h : (evT lf one two a).1 ≠ 0) : evT lf one two (.bi o a b) = evT lf one two a := by
  conv => lhs; unfold evT
  rw [if_pos h]
theorem ev_bi_bad2 {o : Oq} {a b : Tx} (h : (evT lf one two a).1 = 0) (h2 : (evT lf one two b).1 ≠ 0) : evT lf one two (.bi o a b) = evT lf one two b := by
  conv => lhs; unfold evT
  rw [if_neg (by simpa using h), if_pos h2]
theorem ev_bi {o : Oq} {a b : Tx} (h : (evT lf one two a).1 = 0) (h2 : (evT lf one two b).1 = 0) : evT lf one two (.bi o a b) = two o.k (evT lf one two a).2 (evT lf one two b).2 := by
  conv => lhs; unfold evT
  rw [if_neg (by simpa using h), if_neg (by simpa using h2)]
theorem rn_tree : ∀ (t : Tx), t.ok → ∀ (st : List α) (r : List Oq), rnF lf one two st (t.flat ++ r) = if (evT lf one two t).1 ≠ 0 then ((evT lf one two t).1, []) else rnF lf one two ((evT lf one two t).2 :: st) r
  | .leaf o, h, st, r => rn_leaf lf one two h.1
  | .un o a, h, st, r => by
    rw [Tx.flat, List.append_assoc, rn_tree a h.2.2]
    by_cases h1 : (evT lf one two a).1 = 0
    · rw [if_neg (by simpa using h1), ev_un lf one two h1]
      exact rn_un lf one two h.1
    · rw [ev_un_bad lf one two h1, if_pos h1, if_pos h1]
  | .bi o a b, h, st, r => by
    rw [Tx.flat, List.append_assoc, List.append_assoc, rn_tree a h.2.2.1]
    by_cases h1 : (evT lf one two a).1 = 0
    · rw [if_neg (by simpa using h1), rn_tree b h.2.2.2]
      by_cases h2 : (evT lf one two b).1 = 0
      · rw [if_neg (by simpa using h2), ev_bi lf one two h1 h2]
        exact rn_bi lf one two h.1
      · rw [ev_bi_bad2 lf one two h1 h2, if_pos h2, if_pos h2]
    · rw [ev_bi_bad lf one two h1, if_pos h1, if_pos h1]
/-- A stack that begins empty: what the expression makes, alone. -/
theorem rn_whole {t : Tx} (h : t.ok) : rnF lf one two [] t.flat = if (evT lf one two t).1 ≠ 0 then ((evT lf one two t).1, []) else (0, [(evT lf one two t).2]) := by
  have := rn_tree lf one two t h [] []
  rw [List.append_nil] at this
  rw [this]
  rfl
end
/-- How many ops are gone back, when so many things are needed. -/
def bgF : Nat → List Oq → Nat
  | 0, _ => 0
  | _ + 1, [] => 0
  | n + 1, o :: r => 1 + bgF (n + (wks o.k).toNat) r
theorem bg_tree : ∀ (t : Tx), t.ok → ∀ (n : Nat) (r : List Oq), bgF (n + 1) (t.flat.reverse ++ r) = t.flat.length + bgF n r
  | .leaf o, h, n, r => by
    have h1 := h.1
    simp [Tx.flat, bgF, h1]
  | .un o a, h, n, r => by
    have h1 := h.1
    simp only [Tx.flat, List.reverse_append, List.reverse_singleton, List.cons_append, List.nil_append, bgF, h1]
    rw [show n + (1 : Int).toNat = n + 1 from rfl, bg_tree a h.2.2]
    simp
    omega
  | .bi o a b, h, n, r => by
    have h1 := h.1
    simp only [Tx.flat, List.reverse_append, List.reverse_singleton, List.cons_append, List.nil_append, bgF, h1, List.append_assoc]
    rw [show n + (2 : Int).toNat = (n + 1) + 1 from rfl, bg_tree b h.2.2.2, bg_tree a h.2.2.1]
    simp
    omega
end Go.Proofs.YtdeollmeljaaoaaDoor

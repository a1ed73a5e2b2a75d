import Derived.Test.YtmfkdpfcpdmkdaaGreatDoorQkk
import Derived.Test.YtmfkdpfcpdmkdaaGreatDoorUek
import Derived.Test.YtmfkdpfcpdmkdaaGreatDoorB2k
import Derived.Shelf.SlSortCmp.QuietGrown
/- Rows: values in memory; what a row lacks, by the program and by the document. -/
namespace Go.Proofs.YtmfkdpfcpdmkdaaGreatDoor
open Go.ChangeShapes Go.WideShapes Go.ChangeAt Go.RowKit Go.Deep
set_option linter.unusedVariables false
set_option linter.unusedSimpArgs false
/-- The cells of pieces. -/
def vc : List V → List Value
  | [] => []
  | v :: l => .int .i64 v.k :: .int .i64 v.n :: .string v.t :: vc l
theorem vc_length : ∀ l : List V, (vc l).length = l.length * 3
  | [] => rfl
  | v :: l => by simp [vc, vc_length l]; omega
theorem vc_at : ∀ {l : List V} {k : Nat}, k < l.length → (vc l)[k * 3]? = some (.int .i64 (l.getD k nul).k) ∧ (vc l)[k * 3 + 1]? = some (.int .i64 (l.getD k nul).n) ∧ (vc l)[k * 3 + 2]? = some (.string (l.getD k nul).t)
  | [], k, h => by simp at h
  | v :: l, 0, _ => by simp [vc]
  | v :: l, k + 1, h => by
    have ih := vc_at (l := l) (k := k) (by simpa using h)
    have e : (k + 1) * 3 = k * 3 + 1 + 1 + 1 := by omega
    rw [e]
    simpa [vc] using ih
theorem vals_of {w : World} {n : Nat} {v : Value} {l : List V} (h : Rd w 3 n v (vc l)) (hn : 0 < n) :
    l.length = n ∧ ∃ b o cap, v = .slice (some ⟨b, o, none⟩) n cap ∧ n ≤ cap ∧ cap ≤ maxLen ∧ b < w.heap.size ∧
      ∀ k, k < n → w.cell? ⟨b, o + k * 3, none⟩ = some (.int .i64 (l.getD k nul).k) ∧ w.cell? ⟨b, o + k * 3 + 1, none⟩ = some (.int .i64 (l.getD k nul).n) ∧ w.cell? ⟨b, o + k * 3 + 2, none⟩ = some (.string (l.getD k nul).t) := by
  have hl : l.length = n := by have := h.1; rw [vc_length] at this; omega
  obtain ⟨b, o, cap, h1, h2, h3, h4, h5⟩ := h.pos hn (by omega)
  refine ⟨hl, b, o, cap, h1, h2, h3, h4, fun k hk => ?_⟩
  obtain ⟨g1, g2, g3⟩ := vc_at (l := l) (k := k) (by omega)
  exact ⟨h5 _ _ g1, h5 _ _ g2, h5 _ _ g3⟩
section
variable {H : Type} {enc : TypeId × Value → H} {P : Program} {w : World} {base : Nat} {spare : Nat → Bool} {held : Bool}
/-- Three cells at each element: the slice reads as values. -/
theorem rd_of (f : Nat → V) (n cap : Nat) (a : Addr) (h1 : n ≤ cap) (h2 : cap ≤ maxLen)
    (hc : ∀ i, i < n → w.cell? (a.add (i * 3)) = some (.int .i64 (f i).k) ∧ w.cell? (a.add (i * 3 + 1)) = some (.int .i64 (f i).n) ∧ w.cell? (a.add (i * 3 + 2)) = some (.string (f i).t)) :
    Rd w 3 n (.slice (some a) n cap) (vc ((List.range n).map f)) := by
  refine ⟨by rw [vc_length]; simp, some a, cap, rfl, h1, h2, (fun h => by cases h), fun b hb j u hu => ?_⟩
  obtain rfl := Option.some.inj hb
  have hj : j < n * 3 := by
    have := (List.getElem?_eq_some_iff.1 hu).1
    rw [vc_length] at this
    simpa using this
  have hi : j / 3 < n := by omega
  have hl : j / 3 < ((List.range n).map f).length := by simpa using hi
  obtain ⟨g1, g2, g3⟩ := vc_at (l := (List.range n).map f) hl
  obtain ⟨k1, k2, k3⟩ := hc _ hi
  have hg : ((List.range n).map f).getD (j / 3) nul = f (j / 3) := by simp [List.getD, hi]
  rw [hg] at g1 g2 g3
  have h3 : j = j / 3 * 3 ∨ j = j / 3 * 3 + 1 ∨ j = j / 3 * 3 + 2 := by omega
  rcases h3 with e | e | e
  · rw [e] at hu ⊢; rw [g1] at hu; cases hu; exact k1
  · rw [e] at hu ⊢; rw [g2] at hu; cases hu; exact k2
  · rw [e] at hu ⊢; rw [g3] at hu; cases hu; exact k3
/-- What an element of three cells reads as. -/
theorem elem3 {e : TypeId} {f0 f1 f2 : Field} {fuel : Nat} {cs : List Value} {x : DataW H × List MemPlace} (he : P.underlying e = some (.struct #[f0, f1, f2])) (hone : oneCellFields P #[f0, f1, f2] = true) (hC : P.cellsOf e = 3)
    (h0 : P.underlying f0.type = some (.int .i64)) (h1 : P.underlying f1.type = some (.int .i64)) (h2 : P.underlying f2.type = some .string) (h : DataW.trod enc P w base spare held fuel e cs = some x) :
    ∃ u : V, cs = [.int .i64 u.k, .int .i64 u.n, .string u.t] ∧ (Lit.int .i64 u.k).wf = true ∧ (Lit.int .i64 u.n).wf = true ∧ u.t.size ≤ maxLen := by
  obtain ⟨xs, n, _, _, hl, hx, hf⟩ := DataW.trod_struct he h
  rw [hC] at hl
  obtain ⟨o0, k0⟩ := hone_of hone 0 f0 rfl
  obtain ⟨o1, k1⟩ := hone_of hone 1 f1 rfl
  obtain ⟨o2, k2⟩ := hone_of hone 2 f2 rfl
  match cs, hl with
  | [c0, c1, c2], _ =>
    match xs, hx with
    | [y0, y1, y2], _ =>
      have g0 := hf 0 f0 rfl
      have g1 := hf 1 f1 rfl
      have g2 := hf 2 f2 rfl
      simp [o0, k0] at g0
      simp [o1, k1] at g1
      simp [o2, k2] at g2
      obtain ⟨k, e0, _, w0⟩ := DataW.trod_int h0 g0
      obtain ⟨m, e1, _, w1⟩ := DataW.trod_int h1 g1
      obtain ⟨s, e2, _, w2⟩ := DataW.trod_string h2 g2
      simp at e0 e1 e2
      exact ⟨⟨k, m, s⟩, by rw [e0, e1, e2], w0, w1, w2⟩
theorem open_v3 {t e : TypeId} {f0 f1 f2 : Field} {b0 : Nat} {r : Reach} {v : Value} {d : DataW H} {p : List MemPlace} (ht : P.underlying t = some (.slice e)) (he : P.underlying e = some (.struct #[f0, f1, f2])) (hone : oneCellFields P #[f0, f1, f2] = true) (hC : P.cellsOf e = 3)
    (h0 : P.underlying f0.type = some (.int .i64)) (h1 : P.underlying f1.type = some (.int .i64)) (h2 : P.underlying f2.type = some .string) (hv : Value.okWide P w r b0 t v) (h : DataW.Trod enc P w base spare held t v d p) :
    ∃ (n : Nat) (l : List V), Rd w 3 n v (vc l) ∧ (∀ u ∈ l, (Lit.int .i64 u.k).wf = true ∧ (Lit.int .i64 u.n).wf = true ∧ u.t.size ≤ maxLen) ∧ (n = 0 ∨ ∃ es sp, d = .slice es sp ∧ es.length = n) := by
  obtain ⟨a0, len, cap, rfl⟩ := okWide_slice ht hv
  obtain ⟨fuel, hf⟩ := h
  rcases open_slice ht hf with ⟨hcs, hx⟩ | ⟨a, len', cap', m, n, D, Pl, hcs, _, hl, hm, hmm, hx, hi⟩
  · simp [Value.cells] at hcs
    obtain ⟨rfl, rfl, rfl⟩ := hcs
    exact ⟨0, [], by simpa [vc] using Rd.nil w 3, by simp, .inl rfl⟩
  · simp [Value.cells] at hcs
    obtain ⟨rfl, rfl, rfl⟩ := hcs
    have hle : len ≤ m := by rw [hmm]; split <;> omega
    have each : ∀ i, ∃ u : V, i < len → (w.cell? (a.add (i * 3)) = some (.int .i64 u.k) ∧ w.cell? (a.add (i * 3 + 1)) = some (.int .i64 u.n) ∧ w.cell? (a.add (i * 3 + 2)) = some (.string u.t)) ∧
        (Lit.int .i64 u.k).wf = true ∧ (Lit.int .i64 u.n).wf = true ∧ u.t.size ≤ maxLen := by
      intro i
      by_cases hil : i < len
      · obtain ⟨cs', hc, htr⟩ := hi i (by omega)
        rw [hC] at hc
        obtain ⟨u, rfl, w0, w1, w2⟩ := elem3 he hone hC h0 h1 h2 htr
        obtain ⟨_, _, hat⟩ := World.cells?_some hc
        have a0 := hat 0 (by omega)
        have a1 := hat 1 (by omega)
        have a2 := hat 2 (by omega)
        rw [add_add] at a0 a1 a2
        exact ⟨u, fun _ => ⟨⟨a0, a1, a2⟩, w0, w1, w2⟩⟩
      · exact ⟨nul, fun h => absurd h hil⟩
    obtain ⟨f, hfx⟩ := Classical.axiomOfChoice each
    refine ⟨len, (List.range len).map f, rd_of f len cap a hl hm fun i hi' => (hfx i hi').1, ?_, ?_⟩
    · intro u hu
      obtain ⟨i, hi', rfl⟩ := List.mem_map.1 hu
      exact (hfx i (List.mem_range.1 hi')).2
    · simp only [Prod.mk.injEq] at hx
      exact .inr ⟨_, _, hx.1, by simp⟩
end
theorem len_v {w : World} {n : Nat} {v : Value} {l : List V} (h : Rd w 3 n v (vc l)) : n = l.length := by have := h.1; rw [vc_length] at this; omega
/-- What Join and Cut want of good tokens. -/

theorem cell_blz {W W' : World} {a : Addr} {v : Value} (hb : Below W.heap.size W W') (h : W.cell? a = some v) : W'.cell? a = some v := (hb.cell (lt_cell h)).trans h
/-- What values lack, one by one, from a place on. -/
def rvF : Nat → List Cq → List V → Int
  | i, c :: l, v :: r => if chk v.k v.n v.t ≠ 0 then chk v.k v.n v.t else if (v.k ≠ c.k ∧ v.k ≠ 0) ∨ (i = 0 ∧ v.k = 0) then 4 else rvF (i + 1) l r
  | _, _, _ => 0
def rowF (l : List Cq) (r : List V) : Int := if colsF l ≠ 0 then colsF l else if r.length ≠ l.length then 1 else rvF 0 l r
theorem vdrop_cons {l : List V} {k : Nat} (h : k < l.length) : l.drop k = l.getD k nul :: l.drop (k + 1) := by
  rw [List.drop_eq_getElem_cons h]
  simp [List.getD, List.getElem?_eq_getElem h]
theorem known_any (w : World) (a b : Int) (q : Bool) (h : (a == b || a == 0) = q) : Calls Tryz.prog 11 #[.int .i64 a, .int .i64 b] w fun e w' => e = .returned (.bool q) ∧ w' = w := by
  subst h
  by_cases h : a = b
  · subst h
    go_enter Tryz.func11, Tryz.ntmps11
    go_wp2
    go_ret
    exact ⟨rb (by simp), rfl⟩
  · have h' : (a == b) = false := by simpa using h
    go_enter Tryz.func11, Tryz.ntmps11
    go_wp2
    go_ret
    exact ⟨rb (by rw [h']; simp), rfl⟩
end Go.Proofs.YtmfkdpfcpdmkdaaGreatDoor

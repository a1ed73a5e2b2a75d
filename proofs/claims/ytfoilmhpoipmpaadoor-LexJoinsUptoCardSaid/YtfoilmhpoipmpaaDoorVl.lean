/- An argument of tokens, and what its bulk says of their texts; a law's own copy of tokens. -/
import Derived.Test.YtfoilmhpoipmpaaDoorVk
import Derived.Test.YtfoilmhpoipmpaaDoorVg
import Derived.Test.YtfoilmhpoipmpaaDoorSw
import Derived.Test.YtfoilmhpoipmpaaDoorRows
namespace Go.Proofs.YtfoilmhpoipmpaaDoor
open Go.ChangeShapes Go.WideShapes Go.ChangeAt Go.RowKit Go.Deep
set_option linter.unusedVariables false
set_option linter.unusedSimpArgs false
set_option maxHeartbeats 1000000
section
variable {H : Type} {enc : TypeId × Value → H} {P : Program} {w : World} {base : Nat} {spare : Nat → Bool} {held : Bool}
theorem rdt_of (f : Nat → Tk) (n cap : Nat) (a : Addr) (h1 : n ≤ cap) (h2 : cap ≤ maxLen)
    (hc : ∀ i, i < n → w.cell? (a.add (i * 3)) = some (.int .i64 (f i).k) ∧ w.cell? (a.add (i * 3 + 1)) = some (.string ⟨(f i).t.toArray⟩) ∧ w.cell? (a.add (i * 3 + 2)) = some (.int .i64 (f i).n)) :
    Rd w 3 n (.slice (some a) n cap) (tkc ((List.range n).map f)) := by
  refine ⟨by rw [tkc_length]; simp, some a, cap, rfl, h1, h2, (fun h => by cases h), fun b hb j u hu => ?_⟩
  obtain rfl := Option.some.inj hb
  have hj : j < n * 3 := by
    have := (List.getElem?_eq_some_iff.1 hu).1
    rw [tkc_length] at this
    simpa using this
  have hi : j / 3 < n := by omega
  have hl : j / 3 < ((List.range n).map f).length := by simpa using hi
  obtain ⟨g1, g2, g3⟩ := tkc_at (l := (List.range n).map f) hl
  obtain ⟨k1, k2, k3⟩ := hc _ hi
  have hg : ((List.range n).map f).getD (j / 3) tk0 = f (j / 3) := by simp [List.getD, hi]
  rw [hg] at g1 g2 g3
  have h3 : j = j / 3 * 3 ∨ j = j / 3 * 3 + 1 ∨ j = j / 3 * 3 + 2 := by omega
  rcases h3 with e | e | e
  · rw [e] at hu ⊢; rw [g1] at hu; cases hu; exact k1
  · rw [e] at hu ⊢; rw [g2] at hu; cases hu; exact k2
  · rw [e] at hu ⊢; rw [g3] at hu; cases hu; exact k3
theorem elemT {e : TypeId} {f0 f1 f2 : Field} {fuel : Nat} {cs : List Value} {x : DataW H × List MemPlace} (he : P.underlying e = some (.struct #[f0, f1, f2])) (hone : oneCellFields P #[f0, f1, f2] = true) (hC : P.cellsOf e = 3)
    (h0 : P.underlying f0.type = some (.int .i64)) (h1 : P.underlying f1.type = some .string) (h2 : P.underlying f2.type = some (.int .i64)) (h : DataW.trod enc P w base spare held fuel e cs = some x) :
    ∃ u : Tk, cs = [.int .i64 u.k, .string ⟨u.t.toArray⟩, .int .i64 u.n] ∧ (Lit.int .i64 u.k).wf = true ∧ (Lit.int .i64 u.n).wf = true ∧ x.1 = .agg [.lit (.int .i64 u.k), .lit (.string u.t), .lit (.int .i64 u.n)] := by
  obtain ⟨xs, n, _, hxx, hl, hx, hf⟩ := DataW.trod_struct he h
  rw [hC] at hl
  obtain ⟨o0, k0⟩ := hone_of hone 0 f0 rfl
  obtain ⟨o1, k1⟩ := hone_of hone 1 f1 rfl
  obtain ⟨o2, k2⟩ := hone_of hone 2 f2 rfl
  match cs, hl with
  | [c0, c1, c2], _ =>
    match xs, hx, hxx with
    | [y0, y1, y2], _, hxx =>
      have g0 := hf 0 f0 rfl
      have g1 := hf 1 f1 rfl
      have g2 := hf 2 f2 rfl
      simp [o0, k0] at g0
      simp [o1, k1] at g1
      simp [o2, k2] at g2
      obtain ⟨k, e0, rfl, w0⟩ := DataW.trod_int h0 g0
      obtain ⟨s, e1, rfl, w1⟩ := DataW.trod_string h1 g1
      obtain ⟨m, e2, rfl, w2⟩ := DataW.trod_int h2 g2
      simp at e0 e1 e2
      exact ⟨⟨k, s.data.toList, m⟩, by rw [e0, e1, e2, mk_of'], w0, w2, by rw [hxx]; rfl⟩
theorem open_tk {t e : TypeId} {f0 f1 f2 : Field} {b0 : Nat} {r : Reach} {v : Value} {d : DataW H} {p : List MemPlace} (ht : P.underlying t = some (.slice e)) (he : P.underlying e = some (.struct #[f0, f1, f2])) (hone : oneCellFields P #[f0, f1, f2] = true) (hC : P.cellsOf e = 3)
    (h0 : P.underlying f0.type = some (.int .i64)) (h1 : P.underlying f1.type = some .string) (h2 : P.underlying f2.type = some (.int .i64)) (hv : Value.okWide P w r b0 t v) (h : DataW.Trod enc P w base spare held t v d p) :
    ∃ (n : Nat) (l : List Tk), Rd w 3 n v (tkc l) ∧ (∀ u ∈ l, (Lit.int .i64 u.k).wf = true ∧ (Lit.int .i64 u.n).wf = true) ∧ (n = 0 ∨ ∃ es sp, d = .slice es sp ∧ es.length = n ∧ ∀ u ∈ l, (.agg [.lit (.int .i64 u.k), .lit (.string u.t), .lit (.int .i64 u.n)] : DataW H) ∈ es) := by
  obtain ⟨a0, len, cap, rfl⟩ := okWide_slice ht hv
  obtain ⟨fuel, hf⟩ := h
  rcases open_slice ht hf with ⟨hcs, hx⟩ | ⟨a, len', cap', m, n, D, Pl, hcs, _, hl, hm, hmm, hx, hi⟩
  · simp [Value.cells] at hcs
    obtain ⟨rfl, rfl, rfl⟩ := hcs
    exact ⟨0, [], by simpa [tkc] using Rd.nil w 3, by simp, .inl rfl⟩
  · simp [Value.cells] at hcs
    obtain ⟨rfl, rfl, rfl⟩ := hcs
    have hle : len ≤ m := by rw [hmm]; split <;> omega
    have each : ∀ i, ∃ u : Tk, i < len → (w.cell? (a.add (i * 3)) = some (.int .i64 u.k) ∧ w.cell? (a.add (i * 3 + 1)) = some (.string ⟨u.t.toArray⟩) ∧ w.cell? (a.add (i * 3 + 2)) = some (.int .i64 u.n)) ∧
        (Lit.int .i64 u.k).wf = true ∧ (Lit.int .i64 u.n).wf = true ∧ D i = .agg [.lit (.int .i64 u.k), .lit (.string u.t), .lit (.int .i64 u.n)] := by
      intro i
      by_cases hil : i < len
      · obtain ⟨cs', hc, htr⟩ := hi i (by omega)
        rw [hC] at hc
        obtain ⟨u, rfl, w0, w1, w2⟩ := elemT he hone hC h0 h1 h2 htr
        obtain ⟨_, _, hat⟩ := World.cells?_some hc
        have a0 := hat 0 (by omega)
        have a1 := hat 1 (by omega)
        have a2 := hat 2 (by omega)
        rw [add_add] at a0 a1 a2
        exact ⟨u, fun _ => ⟨⟨a0, a1, a2⟩, w0, w1, w2⟩⟩
      · exact ⟨tk0, fun h => absurd h hil⟩
    obtain ⟨f, hfx⟩ := Classical.axiomOfChoice each
    simp only [Prod.mk.injEq] at hx
    refine ⟨len, (List.range len).map f, rdt_of f len cap a hl hm fun i hi' => (hfx i hi').1, ?_, .inr ⟨_, _, hx.1, by simp, ?_⟩⟩
    · intro u hu
      obtain ⟨i, hi', rfl⟩ := List.mem_map.1 hu
      exact ⟨(hfx i (List.mem_range.1 hi')).2.1, (hfx i (List.mem_range.1 hi')).2.2.1⟩
    · intro u hu
      obtain ⟨i, hi', rfl⟩ := List.mem_map.1 hu
      exact List.mem_map.2 ⟨i, hi', (hfx i (List.mem_range.1 hi')).2.2.2⟩
theorem bulk_one (d : DataW H) : 1 ≤ Rows.uptoBulk d := by
  cases d with
  | lit l => cases l <;> simp [Rows.uptoBulk]
  | nil => simp [Rows.uptoBulk]
  | ptr d => simp [Rows.uptoBulk]
  | slice elems spare => simp [Rows.uptoBulk]
  | agg parts => simp [Rows.uptoBulk]
  | iface t d => simp [Rows.uptoBulk]
  | map entries => simp [Rows.uptoBulk]
  | held h => simp [Rows.uptoBulk]
theorem bulk_part {d : DataW H} {l : List (DataW H)} (h : d ∈ l) : Rows.uptoBulk d ≤ Rows.uptoBulkAll l := by
  induction l with
  | nil => cases h
  | cons x r ih =>
    simp only [Rows.uptoBulkAll]
    cases List.mem_cons.1 h with
    | inl e => subst e; omega
    | inr e => have := ih e; omega
theorem bulk_len (l : List (DataW H)) : l.length ≤ Rows.uptoBulkAll l := by
  induction l with
  | nil => simp [Rows.uptoBulkAll]
  | cons x r ih =>
    have := bulk_one x
    simp only [Rows.uptoBulkAll, List.length_cons]
    omega
/-- Small arguments: few tokens, of short texts. -/
theorem small_tk {n : Nat} {l : List Tk} {d : DataW H} (hn : n = l.length) (hd : n = 0 ∨ ∃ es sp, d = .slice es sp ∧ es.length = n ∧ ∀ u ∈ l, (.agg [.lit (.int .i64 u.k), .lit (.string u.t), .lit (.int .i64 u.n)] : DataW H) ∈ es)
    (hk : Rows.uptoSmall H [d] = true) (hw : ∀ u ∈ l, (Lit.int .i64 u.k).wf = true ∧ (Lit.int .i64 u.n).wf = true) : n ≤ 1048576 ∧ Sm l := by
  have h : Rows.uptoBulkAll [d] ≤ 1048576 := of_decide_eq_true hk
  simp only [Rows.uptoBulkAll] at h
  rcases hd with rfl | ⟨es, sp, rfl, rfl, hm⟩
  · have : l = [] := List.eq_nil_of_length_eq_zero hn.symm
    subst this
    exact ⟨by omega, fun u hu => by cases hu⟩
  · simp only [Rows.uptoBulk] at h
    refine ⟨by have := bulk_len es; omega, fun u hu => ?_⟩
    have h1 := bulk_part (hm u hu)
    simp only [Rows.uptoBulk, Rows.uptoBulkAll] at h1
    have h2 := rn_of (hw u hu).2
    exact ⟨by omega, h2.1, h2.2⟩
end
theorem tks_any (m : Nat) (v : Value) (l : List Tk) (w : World) (hm : m ≤ 1048576) (hr : Rd w 3 m v (tkc l)) :
    Calls Tryd.prog 16 #[v] w fun e w' => ∃ v', e = .returned v' ∧ w'.ownsRow w.heap.size 29 3 v' m (tkc l) ∧ Below w.heap.size w w' := by
  have HR := Lib.hid hr
  clear hr
  go_enter Tryd.func16, Tryd.ntmps16
  go_wp2_with (at_builtin; refine apg w m rfl _ _ 22 29 _ 3 32 Tryd.underlying22 Tryd.info29 rfl (by omega) rfl (World.ownsRow_nil _ _ _ _) (Nat.le_refl _) (by omega) (by unfold maxLen; omega) (tkc_one _) HR.out rfl rfl ?_; intro v1 w1 hown1 hb1 _)
  go_ret
  exact ⟨_, rfl, by simpa using hown1, hb1⟩
/-- The law's walk. -/
theorem joins_walk (W : World) (hJ : Lj W) (n : Nat) (v : Value) (l : List Tk) (hr : Rd W 3 n v (tkc l)) (hs : Sm l) (hn : n ≤ 1048576) :
    Calls Tryd.prog 5 #[v] W fun e w' => e = .returned (.bool true) ∧ Below W.heap.size W w' := by
  have hnl := len_t hr
  subst hnl
  have HR := Lib.hid hr
  have HS := Lib.hid hs
  have HJ := Lib.hid hJ
  have HT := Lib.hid (tks_any _ v l W hn hr)
  obtain ⟨c, hc⟩ : ∃ c, c = joinL l := ⟨_, rfl⟩
  have hj1 : ∀ w v', Lj w → Rd w 3 l.length v' (tkc l) → Calls Tryd.prog 17 #[v'] w fun e w' => e = .returned (.tuple #[.string ⟨c.1.toArray⟩, .int .i64 c.2]) ∧ Below w.heap.size w w' := fun w v' hj h => by rw [hc]; exact join_any w hj v' l h hs
  have hj2 : ∀ w v', Rd w 3 l.length v' (tkc l) → Calls Tryd.prog 18 #[v'] w fun e w' => e = .returned (.tuple #[.string ⟨c.1.toArray⟩, .int .i64 c.2]) ∧ Below w.heap.size w w' := fun w v' h => by rw [hc]; exact rjoin_any w v' l h hs
  obtain ⟨ct, ce⟩ := c
  simp only at hj1 hj2
  have H1 := Lib.hid hj1
  have H2 := Lib.hid hj2
  clear hj1 hj2 hc hr hs hJ hn
  go_enter Tryd.func5, Tryd.ntmps5
  go_wp2_with fail
  refine HT.out.mono ?_
  rintro e w1 ⟨v1, rfl, hown1, hb1⟩
  have HR1 := Lib.hid (Rd.own hown1)
  have HB1 := Lib.hid hb1
  clear hown1 hb1
  go_wp2_with fail
  refine (H1.out _ _ (HJ.out.below HB1.out) HR1.out).mono ?_
  rintro e w2 ⟨rfl, hb2⟩
  have HR2 := Lib.hid (HR1.out.below hb2)
  have HB2 := Lib.hid (into HB1.out hb2)
  clear hb2
  go_wp2_with fail
  refine (H2.out _ _ (HR.out.below HB2.out)).mono ?_
  rintro e w3 ⟨rfl, hb3⟩
  have HR3 := Lib.hid (HR2.out.below hb3)
  have HB3 := Lib.hid (into HB2.out hb3)
  clear hb3
  go_wp2_with fail
  refine (stk_law _ _ _ l _ HR3.out (HR.out.below HB3.out)).mono ?_
  rintro e w4 ⟨rfl, hb4⟩
  have HB4 := Lib.hid (into HB3.out hb4)
  clear hb4
  go_wp2
  go_ret
  exact ⟨rfl, HB4.out⟩
end Go.Proofs.YtfoilmhpoipmpaaDoor

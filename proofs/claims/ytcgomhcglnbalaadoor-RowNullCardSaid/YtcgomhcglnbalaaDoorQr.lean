/- Rows: values in memory; what a row lacks, by the program and by the document. -/
import Derived.Test.YtcgomhcglnbalaaDoorQl
import Derived.Test.YtcgomhcglnbalaaDoorUe
import Derived.Test.YtcgomhcglnbalaaDoorB2
import Derived.Shelf.SlSortCmp.QuietGrown
namespace Go.Proofs.YtcgomhcglnbalaaDoor
open Go.ChangeShapes Go.WideShapes Go.ChangeAt Go.RowKit Go.Deep
set_option linter.unusedVariables false
set_option linter.unusedSimpArgs false
/-- The cells of pieces. -/
def vc : List V → List Value
  | [] => []
  | v :: l => .int .i64 v.k :: .int .i64 v.n :: .string v.t :: vc l
theorem vc_length : ∀ l : List V, (vc l).length = l.length * 3
  | [] => rfl
  | v :: l => by simp [vc, vc_length l]; omega
theorem vc_at : ∀ {l : List V} {k : Nat}, k < l.length → (vc l)[k * 3]? = some (.int .i64 (l.getD k nul).k) ∧ (vc l)[k * 3 + 1]? = some (.int .i64 (l.getD k nul).n) ∧ (vc l)[k * 3 + 2]? = some (.string (l.getD k nul).t)
  | [], k, h => by simp at h
  | v :: l, 0, _ => by simp [vc]
  | v :: l, k + 1, h => by
    have ih := vc_at (l := l) (k := k) (by simpa using h)
    have e : (k + 1) * 3 = k * 3 + 1 + 1 + 1 := by omega
    rw [e]
    simpa [vc] using ih
theorem vals_of {w : World} {n : Nat} {v : Value} {l : List V} (h : Rd w 3 n v (vc l)) (hn : 0 < n) :
    l.length = n ∧ ∃ b o cap, v = .slice (some ⟨b, o, none⟩) n cap ∧ n ≤ cap ∧ cap ≤ maxLen ∧ b < w.heap.size ∧
      ∀ k, k < n → w.cell? ⟨b, o + k * 3, none⟩ = some (.int .i64 (l.getD k nul).k) ∧ w.cell? ⟨b, o + k * 3 + 1, none⟩ = some (.int .i64 (l.getD k nul).n) ∧ w.cell? ⟨b, o + k * 3 + 2, none⟩ = some (.string (l.getD k nul).t) := by
  have hl : l.length = n := by have := h.1; rw [vc_length] at this; omega
  obtain ⟨b, o, cap, h1, h2, h3, h4, h5⟩ := h.pos hn (by omega)
  refine ⟨hl, b, o, cap, h1, h2, h3, h4, fun k hk => ?_⟩
  obtain ⟨g1, g2, g3⟩ := vc_at (l := l) (k := k) (by omega)
  exact ⟨h5 _ _ g1, h5 _ _ g2, h5 _ _ g3⟩
section
variable {H : Type} {enc : TypeId × Value → H} {P : Program} {w : World} {base : Nat} {spare : Nat → Bool} {held : Bool}
/-- Three cells at each element: the slice reads as values. -/
theorem rd_of (f : Nat → V) (n cap : Nat) (a : Addr) (h1 : n ≤ cap) (h2 : cap ≤ maxLen)
    (hc : ∀ i, i < n → w.cell? (a.add (i * 3)) = some (.int .i64 (f i).k) ∧ w.cell? (a.add (i * 3 + 1)) = some (.int .i64 (f i).n) ∧ w.cell? (a.add (i * 3 + 2)) = some (.string (f i).t)) :
    Rd w 3 n (.slice (some a) n cap) (vc ((List.range n).map f)) := by
  refine ⟨by rw [vc_length]; simp, some a, cap, rfl, h1, h2, (fun h => by cases h), fun b hb j u hu => ?_⟩
  obtain rfl := Option.some.inj hb
  have hj : j < n * 3 := by
    have := (List.getElem?_eq_some_iff.1 hu).1
    rw [vc_length] at this
    simpa using this
  have hi : j / 3 < n := by omega
  have hl : j / 3 < ((List.range n).map f).length := by simpa using hi
  obtain ⟨g1, g2, g3⟩ := vc_at (l := (List.range n).map f) hl
  obtain ⟨k1, k2, k3⟩ := hc _ hi
  have hg : ((List.range n).map f).getD (j / 3) nul = f (j / 3) := by simp [List.getD, hi]
  rw [hg] at g1 g2 g3
  have h3 : j = j / 3 * 3 ∨ j = j / 3 * 3 + 1 ∨ j = j / 3 * 3 + 2 := by omega
  rcases h3 with e | e | e
  · rw [e] at hu ⊢; rw [g1] at hu; cases hu; exact k1
  · rw [e] at hu ⊢; rw [g2] at hu; cases hu; exact k2
  · rw [e] at hu ⊢; rw [g3] at hu; cases hu; exact k3
/-- What an element of three cells reads as. -/
theorem elem3 {e : TypeId} {f0 f1 f2 : Field} {fuel : Nat} {cs : List Value} {x : DataW H × List MemPlace} (he : P.underlying e = some (.struct #[f0, f1, f2])) (hone : oneCellFields P #[f0, f1, f2] = true) (hC : P.cellsOf e = 3)
    (h0 : P.underlying f0.type = some (.int .i64)) (h1 : P.underlying f1.type = some (.int .i64)) (h2 : P.underlying f2.type = some .string) (h : DataW.trod enc P w base spare held fuel e cs = some x) :
    ∃ u : V, cs = [.int .i64 u.k, .int .i64 u.n, .string u.t] ∧ (Lit.int .i64 u.k).wf = true ∧ (Lit.int .i64 u.n).wf = true ∧ u.t.size ≤ maxLen := by
  obtain ⟨xs, n, _, _, hl, hx, hf⟩ := DataW.trod_struct he h
  rw [hC] at hl
  obtain ⟨o0, k0⟩ := hone_of hone 0 f0 rfl
  obtain ⟨o1, k1⟩ := hone_of hone 1 f1 rfl
  obtain ⟨o2, k2⟩ := hone_of hone 2 f2 rfl
  match cs, hl with
  | [c0, c1, c2], _ =>
    match xs, hx with
    | [y0, y1, y2], _ =>
      have g0 := hf 0 f0 rfl
      have g1 := hf 1 f1 rfl
      have g2 := hf 2 f2 rfl
      simp [o0, k0] at g0
      simp [o1, k1] at g1
      simp [o2, k2] at g2
      obtain ⟨k, e0, _, w0⟩ := DataW.trod_int h0 g0
      obtain ⟨m, e1, _, w1⟩ := DataW.trod_int h1 g1
      obtain ⟨s, e2, _, w2⟩ := DataW.trod_string h2 g2
      simp at e0 e1 e2
      exact ⟨⟨k, m, s⟩, by rw [e0, e1, e2], w0, w1, w2⟩
theorem open_v3 {t e : TypeId} {f0 f1 f2 : Field} {b0 : Nat} {r : Reach} {v : Value} {d : DataW H} {p : List MemPlace} (ht : P.underlying t = some (.slice e)) (he : P.underlying e = some (.struct #[f0, f1, f2])) (hone : oneCellFields P #[f0, f1, f2] = true) (hC : P.cellsOf e = 3)
    (h0 : P.underlying f0.type = some (.int .i64)) (h1 : P.underlying f1.type = some (.int .i64)) (h2 : P.underlying f2.type = some .string) (hv : Value.okWide P w r b0 t v) (h : DataW.Trod enc P w base spare held t v d p) :
    ∃ (n : Nat) (l : List V), Rd w 3 n v (vc l) ∧ (∀ u ∈ l, (Lit.int .i64 u.k).wf = true ∧ (Lit.int .i64 u.n).wf = true ∧ u.t.size ≤ maxLen) ∧ (n = 0 ∨ ∃ es sp, d = .slice es sp ∧ es.length = n) := by
  obtain ⟨a0, len, cap, rfl⟩ := okWide_slice ht hv
  obtain ⟨fuel, hf⟩ := h
  rcases open_slice ht hf with ⟨hcs, hx⟩ | ⟨a, len', cap', m, n, D, Pl, hcs, _, hl, hm, hmm, hx, hi⟩
  · simp [Value.cells] at hcs
    obtain ⟨rfl, rfl, rfl⟩ := hcs
    exact ⟨0, [], by simpa [vc] using Rd.nil w 3, by simp, .inl rfl⟩
  · simp [Value.cells] at hcs
    obtain ⟨rfl, rfl, rfl⟩ := hcs
    have hle : len ≤ m := by rw [hmm]; split <;> omega
    have each : ∀ i, ∃ u : V, i < len → (w.cell? (a.add (i * 3)) = some (.int .i64 u.k) ∧ w.cell? (a.add (i * 3 + 1)) = some (.int .i64 u.n) ∧ w.cell? (a.add (i * 3 + 2)) = some (.string u.t)) ∧
        (Lit.int .i64 u.k).wf = true ∧ (Lit.int .i64 u.n).wf = true ∧ u.t.size ≤ maxLen := by
      intro i
      by_cases hil : i < len
      · obtain ⟨cs', hc, htr⟩ := hi i (by omega)
        rw [hC] at hc
        obtain ⟨u, rfl, w0, w1, w2⟩ := elem3 he hone hC h0 h1 h2 htr
        obtain ⟨_, _, hat⟩ := World.cells?_some hc
        have a0 := hat 0 (by omega)
        have a1 := hat 1 (by omega)
        have a2 := hat 2 (by omega)
        rw [add_add] at a0 a1 a2
        exact ⟨u, fun _ => ⟨⟨a0, a1, a2⟩, w0, w1, w2⟩⟩
      · exact ⟨nul, fun h => absurd h hil⟩
    obtain ⟨f, hfx⟩ := Classical.axiomOfChoice each
    refine ⟨len, (List.range len).map f, rd_of f len cap a hl hm fun i hi' => (hfx i hi').1, ?_, ?_⟩
    · intro u hu
      obtain ⟨i, hi', rfl⟩ := List.mem_map.1 hu
      exact (hfx i (List.mem_range.1 hi')).2
    · simp only [Prod.mk.injEq] at hx
      exact .inr ⟨_, _, hx.1, by simp⟩
end
theorem len_v {w : World} {n : Nat} {v : Value} {l : List V} (h : Rd w 3 n v (vc l)) : n = l.length := by have := h.1; rw [vc_length] at this; omega
/-- What Join and Cut want of good tokens. -/

theorem cell_blz {W W' : World} {a : Addr} {v : Value} (hb : Below W.heap.size W W') (h : W.cell? a = some v) : W'.cell? a = some v := (hb.cell (lt_cell h)).trans h
/-- What values lack, one by one, from a place on. -/
def rvF : Nat → List Cq → List V → Int
  | i, c :: l, v :: r => if chk v.k v.n v.t ≠ 0 then chk v.k v.n v.t else if (v.k ≠ c.k ∧ v.k ≠ 0) ∨ (i = 0 ∧ v.k = 0) then 4 else rvF (i + 1) l r
  | _, _, _ => 0
def rowF (l : List Cq) (r : List V) : Int := if colsF l ≠ 0 then colsF l else if r.length ≠ l.length then 1 else rvF 0 l r
theorem vdrop_cons {l : List V} {k : Nat} (h : k < l.length) : l.drop k = l.getD k nul :: l.drop (k + 1) := by
  rw [List.drop_eq_getElem_cons h]
  simp [List.getD, List.getElem?_eq_getElem h]
theorem known_any (w : World) (a b : Int) (q : Bool) (h : (a == b || a == 0) = q) : Calls Tryd.prog 26 #[.int .i64 a, .int .i64 b] w fun e w' => e = .returned (.bool q) ∧ w' = w := by
  subst h
  by_cases h : a = b
  · subst h
    go_enter Tryd.func26, Tryd.ntmps26
    go_wp2
    go_ret
    exact ⟨rb (by simp), rfl⟩
  · have h' : (a == b) = false := by simpa using h
    go_enter Tryd.func26, Tryd.ntmps26
    go_wp2
    go_ret
    exact ⟨rb (by rw [h']; simp), rfl⟩
set_option maxRecDepth 100000 in
set_option maxHeartbeats 4000000 in
theorem row_any (w : World) (hT : Tbs w) (n m : Nat) (v u : Value) (l : List Cq) (r : List V) (hr : Rd w 2 n v (ccs l)) (hs : ∀ c ∈ l, c.t.size ≤ maxLen) (hu : Rd w 3 m u (vc r)) :
    Calls Tryd.prog 13 #[v, u] w fun e w' => e = .returned (.int .i64 (rowF l r)) ∧ Below w.heap.size w w' := by
  have hnl := len_c hr
  have hml := len_v hu
  have hmax := hu.len
  have hmax2 := hr.len
  unfold maxLen at hmax hmax2
  obtain ⟨ao, cap, rfl⟩ : ∃ ao cap, v = .slice ao n cap := by
    obtain ⟨_, ao, cap, h, _⟩ := id hr
    exact ⟨ao, cap, h⟩
  obtain ⟨bo, cbp, rfl⟩ : ∃ ao cap, u = .slice ao m cap := by
    obtain ⟨_, ao, cap, h, _⟩ := id hu
    exact ⟨ao, cap, h⟩
  have hc := cols_any w hT n _ l hr hs
  have hF : rowF l r = if colsF l ≠ 0 then colsF l else if m ≠ n then 1 else rvF 0 l r := by unfold rowF; rw [← hnl, ← hml]
  obtain ⟨q, hq⟩ : ∃ q, q = colsF l := ⟨_, rfl⟩
  have HQ := Lib.hid hq
  rw [← hq] at hc hF
  have HC := Lib.hid hc
  have HF := Lib.hid hF
  clear hc hF hq
  by_cases hq0 : q = 0
  · subst hq0
    by_cases hmn : m = n
    · subst hmn
      obtain ⟨hok, hn1, hn6⟩ := colsF_ok HQ.out.symm
      have HG : Hid (rowF l r = rvF 0 l r) := by show _ = _; rw [HF.out]; simp
      obtain ⟨b, o, cap', hv, _, _, hbw, hcell⟩ := cols_of hr (by omega)
      obtain ⟨_, b', o', cbp', hv', _, _, hbw', hcell'⟩ := vals_of hu (by omega)
      simp only [Value.slice.injEq] at hv hv'
      obtain ⟨rfl, -, rfl⟩ := hv
      obtain ⟨rfl, -, rfl⟩ := hv'
      have HC1 := Lib.hid hcell
      have HC2 := Lib.hid hcell'
      have HN := Lib.hid hnl
      have HM := Lib.hid hml
      have HOK := Lib.hid hok
      clear hcell hcell' hnl hml hok hr hu hs hT HF HQ hn1 hn6
      go_enter Tryd.func13, Tryd.ntmps13
      go_wp2_with fail
      refine HC.out.mono ?_
      rintro e w1 ⟨rfl, hb1⟩
      have HB1 := Lib.hid hb1
      clear hb1
      go_wp2_with fail
      go_loopw [21] (fun i wr => ∃ k : Nat, k ≤ m ∧ i = .int .i64 (k : Int) ∧ Hid (rvF 0 l r = rvF k (l.drop k) (r.drop k)) ∧ Hid (Below w.heap.size w wr)) (fun i _ => m - (intOf i).toNat)
      case atStart => exact ⟨0, by omega, rfl, rfl, HB1.out⟩
      case round =>
        obtain ⟨k, hk, rfl, HE, HB⟩ := hrel
        by_cases hlt : k < m
        · obtain ⟨g0, g1⟩ := HC1.out k hlt
          obtain ⟨d0, d1, d2⟩ := HC2.out k hlt
          have c1 := (HB.out.cell (p := ⟨b, o + k * 2 + 1, none⟩) hbw).trans g1
          have e0 := (HB.out.cell (p := ⟨b', o' + k * 3, none⟩) hbw').trans d0
          have e1 := (HB.out.cell (p := ⟨b', o' + k * 3 + 1, none⟩) hbw').trans d1
          have e2 := (HB.out.cell (p := ⟨b', o' + k * 3 + 2, none⟩) hbw').trans d2
          have hll : k < l.length := by rw [← HN.out]; exact hlt
          have hrl : k < r.length := by rw [← HM.out]; exact hlt
          have hE : rvF k (l.drop k) (r.drop k) = if chk (r.getD k nul).k (r.getD k nul).n (r.getD k nul).t ≠ 0 then chk (r.getD k nul).k (r.getD k nul).n (r.getD k nul).t else if ((r.getD k nul).k ≠ (l.getD k ncq).k ∧ (r.getD k nul).k ≠ 0) ∨ (k = 0 ∧ (r.getD k nul).k = 0) then 4 else rvF (k + 1) (l.drop (k + 1)) (r.drop (k + 1)) := by
            rw [cdrop_cons hll, vdrop_cons hrl]
            rfl
          have hco := HOK.out _ (cgetD_mem hll)
          obtain ⟨x, hx⟩ : ∃ x, x = r.getD k nul := ⟨_, rfl⟩
          obtain ⟨ck, hck⟩ : ∃ ck, ck = (l.getD k ncq).k := ⟨_, rfl⟩
          rw [← hx] at e0 e1 e2 hE
          rw [← hck] at c1 hE hco
          obtain ⟨xk, xn, xt⟩ := x
          simp only at e0 e1 e2 hE
          have hch := chk_any xk xn xt (wr.alloc (.cells #[.int .i64 xk, .int .i64 xn, .string xt] 34))
          obtain ⟨z, hz⟩ : ∃ z, z = chk xk xn xt := ⟨_, rfl⟩
          rw [← hz] at hch hE
          have HCH := Lib.hid hch
          have HEQ := Lib.hid hE
          have HBN : Hid (Below w.heap.size w (wr.alloc (.cells #[.int .i64 xk, .int .i64 xn, .string xt] 34))) := HB.out.alloc HB.out.size _
          have hk1 : 1 ≤ ck := hco.2.1
          clear hch hE hx hck hz hll hrl hco g0 g1 d0 d1 d2
          have c1' := cell_blz ((Below.refl wr.heap.size wr).alloc (Nat.le_refl _) (.cells #[.int .i64 xk, .int .i64 xn, .string xt] 34)) c1
          go_wp2_with fail
          refine HCH.out.mono ?_
          rintro e w2 ⟨rfl, hb2⟩
          obtain ⟨y0, y1, y2, -, -, -⟩ := has3 (new0 wr (.cells #[.int .i64 xk, .int .i64 xn, .string xt] 34)) hb2
          have f1 := cell_blz hb2 c1'
          have HB2 := Lib.hid (into HBN.out hb2)
          clear hb2 c1 c1' e0 e1 e2
          by_cases hz0 : z = 0
          · subst hz0
            obtain ⟨p, hp⟩ : ∃ p, p = (xk == ck || xk == 0) := ⟨_, rfl⟩
            have HKN := Lib.hid (fun w => known_any w xk ck p hp.symm)
            obtain ⟨y, hy⟩ : ∃ y, y = (!p || (decide (k = 0) && decide (xk = 0))) := ⟨_, rfl⟩
            have HYY : Hid (rvF 0 l r = if y = true then 4 else rvF (k + 1) (l.drop (k + 1)) (r.drop (k + 1))) := by
              show _ = _
              rw [HE.out, HEQ.out, if_neg (by simp), hy, hp]
              by_cases c1 : xk = ck <;> by_cases c2 : xk = 0 <;> by_cases c3 : k = 0 <;> simp [c1, c2, c3]
            have hkc : (k : Int) < (m : Int) := by omega
            clear hp HEQ HE
            have hcases : (p = false ∧ y = true) ∨ (p = true ∧ ¬ k = 0 ∧ y = false) ∨ (p = true ∧ k = 0 ∧ xk = 0 ∧ y = true) ∨ (p = true ∧ k = 0 ∧ ¬ xk = 0 ∧ y = false) := by
              rw [hy]
              cases p <;> by_cases c2 : xk = 0 <;> by_cases c3 : k = 0 <;> simp [c2, c3]
            clear hy
            rcases hcases with ⟨rfl, rfl⟩ | ⟨rfl, h3, rfl⟩ | ⟨rfl, h3, h4, rfl⟩ | ⟨rfl, h3, h4, rfl⟩
            · go_wp2_with fail
              go_quiet ((go_at_call 26; exact Calls.quiet_of_same (HKN.out _)))
              go_wp2_with fail
              go_ret
              exact ⟨ri (by rw [HG.out, HYY.out]; rfl), HB2.out.trans ((below_drewN _ _).mono HB2.out.size)⟩
            · have hkz : ((k : Int) == 0) = false := by simp; omega
              go_wp2_with fail
              go_quiet ((go_at_call 26; exact Calls.quiet_of_same (HKN.out _)))
              go_wp2_with fail
              go_roundw
              case rel => exact ⟨k + 1, by omega, by go_num, by show _ = _; rw [HYY.out]; rfl, HB2.out.trans ((below_drewN _ _).mono HB2.out.size)⟩
              case measure => (simp [intOf]) <;> omega
            · subst h3
              obtain rfl : xk = 0 := h4
              simp only [Nat.zero_mul, Nat.add_zero] at f1
              have hm0 : (0 : Int) < (m : Int) := by omega
              clear hkc
              go_wp2_with fail
              go_quiet ((go_at_call 26; exact Calls.quiet_of_same (HKN.out _)))
              go_wp2_with fail
              go_ret
              exact ⟨ri (by rw [HG.out, HYY.out]; rfl), HB2.out.trans ((below_drewN _ _).mono HB2.out.size)⟩
            · subst h3
              simp only [Nat.zero_mul, Nat.add_zero] at f1
              have hm0 : (0 : Int) < (m : Int) := by omega
              have hxz : (xk == 0) = false := by simp; omega
              clear hkc
              go_wp2_with fail
              go_quiet ((go_at_call 26; exact Calls.quiet_of_same (HKN.out _)))
              go_wp2_with fail
              go_roundw
              case rel => exact ⟨0 + 1, by omega, by go_num, by show _ = _; rw [HYY.out]; rfl, HB2.out.trans ((below_drewN _ _).mono HB2.out.size)⟩
              case measure => (simp [intOf]) <;> omega
          · have hz0' : (z == 0) = false := by simpa using hz0
            go_wp2_with fail
            go_ret
            exact ⟨ri (by rw [HG.out, HE.out, HEQ.out, if_pos hz0]), HB2.out⟩
        · obtain rfl : k = m := by omega
          have HZ : Hid (rowF l r = 0) := by
            show _ = _
            rw [HG.out, HE.out, List.drop_eq_nil_of_le (by rw [← HN.out]; exact Nat.le_refl _)]
            rfl
          go_wp2_with fail
          go_ret
          exact ⟨ri HZ.out.symm, HB.out⟩
    · have hmn' : ((m : Int) == (n : Int)) = false := by simp; omega
      have hmn2 : ¬ (m : Int) = (n : Int) := by omega
      have HG : Hid (rowF l r = 1) := by show _ = _; rw [HF.out]; simp [hmn]
      clear HF hnl hml hr hu hs hT
      go_enter Tryd.func13, Tryd.ntmps13
      go_wp2_with fail
      refine HC.out.mono ?_
      rintro e w1 ⟨rfl, hb1⟩
      have HB1 := Lib.hid hb1
      clear hb1
      go_wp2_with fail
      go_ret
      exact ⟨ri HG.out.symm, HB1.out⟩
  · have hq0' : (q == 0) = false := by simpa using hq0
    have HG : Hid (rowF l r = q) := by show _ = _; rw [HF.out, if_pos hq0]
    clear HF hnl hml hr hu hs hT
    go_enter Tryd.func13, Tryd.ntmps13
    go_wp2_with fail
    refine HC.out.mono ?_
    rintro e w1 ⟨rfl, hb1⟩
    have HB1 := Lib.hid hb1
    clear hb1
    go_wp2_with fail
    go_ret
    exact ⟨ri HG.out.symm, HB1.out⟩
end Go.Proofs.YtcgomhcglnbalaaDoor

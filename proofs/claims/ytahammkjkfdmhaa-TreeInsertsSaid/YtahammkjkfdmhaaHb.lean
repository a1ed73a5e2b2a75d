/- A level: does each of its pages know its neighbour, and stand within its bounds? -/
import Derived.Test.YtahammkjkfdmhaaH8
namespace Go.Proofs.Ytahammkjkfdmhaa
open Go.ChangeShapes Go.WideShapes Go.ChangeAt Go.RowKit Go.Shelf
set_option linter.unusedVariables false
set_option linter.unusedSimpArgs false
attribute [local go_sem] Oper.semAt_some
theorem slices3 {w : World} {ok : Nat → Prop} {L : Nat} {f : Nat → Value} {k : Nat → Key} (h : ∀ i, i < L → RB w ok (f i) (k i)) : ∃ (a : Nat → Option Addr) (n c : Nat → Nat), ∀ i, i < L → f i = .slice (a i) (n i) (c i) := by
  have each : ∀ i, ∃ t : Option Addr × Nat × Nat, i < L → f i = .slice t.1 t.2.1 t.2.2 := fun i => by
    by_cases hi : i < L
    · obtain ⟨a, c, e⟩ := (h i hi).sh
      exact ⟨(a, _, c), fun _ => e⟩
    · exact ⟨(none, 0, 0), fun h => absurd h hi⟩
  obtain ⟨t, ht⟩ := Classical.axiomOfChoice each
  exact ⟨fun i => (t i).1, fun i => (t i).2.1, fun i => (t i).2.2, ht⟩
theorem below_grow (w : World) (n : Nat) (os : Array Obj) : Below w.heap.size w (Go.Sort.grow (w.drewN n) os) :=
  ⟨rfl, rfl, rfl, by simp [Go.Sort.grow], fun k hk => by simp [Go.Sort.grow, Array.getElem?_append_left hk]⟩
theorem cell_of_below {W W' : World} {a : Addr} {v : Value} (hb : Below W.heap.size W W') (h : W.cell? a = some v) : W'.cell? a = some v := (hb.cell (lt_cell h)).trans h
theorem frozen_of_below {W W' : World} {a : Addr} {v : Value} {b : Bool} (hb : Below W.heap.size W W') (h : W.cell? a = some v) (hf : W.frozen? a = b) : W'.frozen? a = b := (hb.frozen (lt_cell h)).trans hf
theorem keeps_below {B : Nat} {W W' : World} (hb : Below W.heap.size W W') : KeepsFrom B W W' := ⟨hb.size, fun i o _ hi _ => (hb.block i (Array.getElem?_eq_some_iff.1 hi).1).trans hi⟩
theorem set_far {W : World} {p a : Addr} {u v : Value} (hne : p.block ≠ a.block) (h : W.cell? a = some v) : (W.setCell p u).cell? a = some v := (World.cell?_setCell_far W p a u hne).trans h
theorem cell_al {W : World} {a : Addr} {v : Value} (o : Obj) (h : W.cell? a = some v) : (W.alloc o).cell? a = some v := (World.cell?_of_block (Below.heap_alloc W _ _ (lt_cell h))).trans h
theorem frozen_al {W : World} {a : Addr} {v : Value} {b : Bool} (o : Obj) (h : W.cell? a = some v) (hf : W.frozen? a = b) : (W.alloc o).frozen? a = b := (World.frozen?_of_block (Below.heap_alloc W _ _ (lt_cell h))).trans hf
theorem okLw_tail {ps : List Pg} {leaf : Bool} {b : List Spot} : ∀ {a : List Spot}, okLw ps leaf (a ++ b) → okLw ps leaf b
  | [], h => h
  | x :: a, h => okLw_tail (a := a) h.2
theorem spots_all {l : List Spot} {L : Nat} {sp : Nat → Spot} (hL : L = l.length) (hsp : sp = fun i => l.getD i sp0) : ((List.finRange L).map fun x : Fin L => sp x) = l := by
  subst hL hsp
  apply List.ext_getElem
  · simp
  · intro i h1 h2
    simp [List.getD, h2]
theorem spots_end {l : List Spot} {L k : Nat} {sp : Nat → Spot} (hL : L = l.length) (hsp : sp = fun i => l.getD i sp0) : ∃ a, l = a ++ ((revs L k).reverse.map fun x : Fin L => sp x) := by
  refine ⟨((List.finRange L).reverse.drop k).reverse.map fun x : Fin L => sp x, ?_⟩
  rw [← List.map_append, ← List.reverse_append]
  unfold revs
  rw [List.take_append_drop, List.reverse_reverse]
  exact (spots_all hL hsp).symm
set_option maxRecDepth 100000 in
set_option maxHeartbeats 4000000 in
theorem level_in (w : World) (ok : Nat → Prop) (tv lv : Value) (T : Tr) (l : List Spot) (ht : RT w ok tv T) (hl : RS w ok lv l) (hn : ∀ x ∈ l, x.1 < T.pages.length) (hll : l.length ≤ 100000) :
    CallsIn Fence.wide 5 Try.prog 60 #[tv, lv] w (AnsB (okLw T.pages (T.pages.getD (l.getD 0 sp0).1 noPg).leaf l) w) := by
  obtain ⟨ao, cap, kf, df, gf, rfl, g1, g2, g3⟩ := pagesF ht
  obtain ⟨al, lcap, uf, hf, rfl, e1, e2, e3⟩ := spotsF hl
  obtain ⟨N, hN⟩ : ∃ N, N = T.pages.length := ⟨_, rfl⟩
  obtain ⟨L, hL⟩ : ∃ L, L = l.length := ⟨_, rfl⟩
  rw [← hN] at g1 g3
  rw [← hL] at e1 e3 hll
  rw [← hN, ← hL]
  unfold maxLen at g2 e2
  obtain ⟨ua, un, uc, hu⟩ := slices3 (f := uf) (k := fun i => (l.getD i sp0).2.1) fun i hi => by obtain ⟨_, _, _, _, _, _, _, h, _⟩ := e3 i hi; exact h
  obtain ⟨ha, hn', hc, hh⟩ := slices3 (f := hf) (k := fun i => (l.getD i sp0).2.2) fun i hi => by obtain ⟨_, _, _, _, _, _, _, _, h⟩ := e3 i hi; exact h
  obtain ⟨sp, hsp⟩ : ∃ sp : Nat → Spot, sp = fun i => l.getD i sp0 := ⟨_, rfl⟩
  have HSP : Hid (∀ i, i < L → RB w ok (.slice (ua i) (un i) (uc i)) (sp i).2.1 ∧ RB w ok (.slice (ha i) (hn' i) (hc i)) (sp i).2.2 ∧ (sp i).1 < N) := fun i hi => by
    obtain ⟨_, _, _, _, _, _, _, h1, h2⟩ := e3 i hi
    rw [hu i hi] at h1
    rw [hh i hi] at h2
    rw [hsp]
    refine ⟨h1, h2, ?_⟩
    rw [hN]
    refine hn _ ?_
    have : i < l.length := by rw [← hL]; exact hi
    simp only [List.getD, List.getElem?_eq_getElem this, Option.getD_some]
    exact List.getElem_mem this
  have HCS : Hid (Cells3 w.heap.size w al L (fun i => ((sp i).1 : Int)) ua ha un uc hn' hc) := fun i hi => by
    obtain ⟨b, o, h0, h1, h2, h3, h4, _, _⟩ := e3 i hi
    rw [hu i hi] at h3
    rw [hh i hi] at h4
    rw [hsp]
    exact ⟨b, o, h0, h1, h2, h3, h4⟩
  have HP := Lib.hid g3
  have HN := Lib.hid hN
  have HL := Lib.hid hL
  have HSL := Lib.hid hsp
  clear e3 hu hh hN hL hsp g3 ht hl hn
  refine callsIn_of_wp_marks Try.func60 rfl trivial ?_ rfl
  simp only [Try.ntmps60, List.size_toArray, List.length_cons, List.length_nil, Nat.reduceAdd, Nat.reduceSub, Array.replicate_succ, Array.replicate_zero, List.push_toArray, List.append_toArray, List.nil_append, List.cons_append]
  have hf1 : Fence.wide.fn 65 := trivial
  have hf2 : Fence.wide.fn 66 := trivial
  have HPOST : ∃ P0 : Prop, P0 = okLw T.pages (T.pages.getD (l.getD 0 sp0).1 noPg).leaf l := ⟨_, rfl⟩
  obtain ⟨P0, hP0⟩ := HPOST
  rw [← hP0]
  have HP0 := Lib.hid hP0
  clear hP0
  gi_wp2_with (gi_at_call 65; refine (back_in _ _ trivial rfl _ _ _ _).mono ?_; rintro e w' ⟨rfl, rfl⟩)
  obtain ⟨W0, hW0⟩ : ∃ W0 : World, W0 = ((((w.alloc (.cells #[.slice ao N cap, .int .i64 T.root] 24)).alloc (.cells #[.slice al L lcap] 86)).alloc (.cells #[.bool false] 4)).alloc (.cells #[.int .i64 (-1)] 3)).alloc (.cells #[.slice al L lcap] 86) := ⟨_, rfl⟩
  rw [← hW0]
  have hz0 : W0.heap.size = w.heap.size + 5 := by rw [hW0]; simp
  have hB0 : Below w.heap.size w W0 := by rw [hW0]; go_grown
  have x0 : W0.cell? ⟨w.heap.size, 0, none⟩ = some (.slice ao N cap) := by rw [hW0]; go_simp
  have x1 : W0.cell? ⟨w.heap.size + 1, 0, none⟩ = some (.slice al L lcap) := by rw [hW0]; go_simp
  have x2 : W0.cell? ⟨w.heap.size + 1 + 1, 0, none⟩ = some (.bool false) := by rw [hW0]; go_simp
  have x3 : W0.cell? ⟨w.heap.size + 1 + 1 + 1, 0, none⟩ = some (.int .i64 (-1)) := by rw [hW0]; go_simp
  have x4 : W0.cell? ⟨w.heap.size + 1 + 1 + 1 + 1, 0, none⟩ = some (.slice al L lcap) := by rw [hW0]; go_simp
  have y2 : W0.frozen? ⟨w.heap.size + 1 + 1, 0, none⟩ = false := by rw [hW0]; go_simp
  have y3 : W0.frozen? ⟨w.heap.size + 1 + 1 + 1, 0, none⟩ = false := by rw [hW0]; go_simp
  clear hW0
  obtain ⟨leaf0, hl0⟩ : ∃ q : Bool, q = (T.pages.getD (sp 0).1 noPg).leaf := ⟨_, rfl⟩
  have HL0 := Lib.hid hl0
  clear hl0
  refine wpIn_rangeFunc_ownH (N := L) rfl (by omega) (gf := 69) (lb := #[.pointer (some ⟨w.heap.size + 1 + 1 + 1 + 1, 0, none⟩)]) rfl trivial (enters_of Try.func69 (by kernel_rfl) rfl)
    (back_stops Fence.wide 4 trivial rfl (by omega) (w.heap.size + 1 + 1 + 1 + 1) w.heap.size L lcap al (fun i => ((sp i).1 : Int)) ua ha un uc hn' hc (by omega) W0 (by omega) (by omega) x4 (HCS.out.below hB0)) KpB.t (KpB.b (by omega)) (Below.refl _ _) (fun _ => rfl)
    (fun pre W => (okLw T.pages leaf0 (pre.reverse.map fun x : Fin L => sp x) ∧ W.cell? ⟨w.heap.size, 0, none⟩ = some (.slice ao N cap) ∧ W.cell? ⟨w.heap.size + 1, 0, none⟩ = some (.slice al L lcap) ∧ W.cell? ⟨w.heap.size + 1 + 1, 0, none⟩ = some (.bool false) ∧ W.cell? ⟨w.heap.size + 1 + 1 + 1, 0, none⟩ = some (.int .i64 (rightOf (pre.reverse.map fun x : Fin L => sp x))) ∧
      W.frozen? ⟨w.heap.size + 1 + 1, 0, none⟩ = false ∧ W.frozen? ⟨w.heap.size + 1 + 1 + 1, 0, none⟩ = false ∧ w.heap.size + 5 ≤ W.heap.size) ∧ Below w.heap.size w W)
    (fun c pre W => (c = .ret ∧ ¬ okLw T.pages leaf0 (pre.reverse.map fun x : Fin L => sp x) ∧ W.cell? ⟨w.heap.size + 1 + 1, 0, none⟩ = some (.bool false)) ∧ Below w.heap.size w W)
    (OwnFrom.and (Own.from (fun s A B row hs hg hr => ⟨hs.1, cell_kept hs.2.1 hg hr, cell_kept hs.2.2.1 hg hr, cell_kept hs.2.2.2.1 hg hr, cell_kept hs.2.2.2.2.1 hg hr, (frozen_kept hs.2.2.2.1 hg hr).trans hs.2.2.2.2.2.1, (frozen_kept hs.2.2.2.2.1 hg hr).trans hs.2.2.2.2.2.2.1, Nat.le_trans hs.2.2.2.2.2.2.2 hg.size⟩) _) (ownFrom_below (Nat.le_refl _) (by omega)))
    (fun c => OwnFrom.and (Own.from (fun s A B row hs hg hr => ⟨hs.1, hs.2.1, cell_kept hs.2.2 hg hr⟩) _) (ownFrom_below (Nat.le_refl _) (by omega)))
    ⟨⟨trivial, x0, x1, x2, x3, y2, y3, by omega⟩, hB0⟩
    (fun x a' W => ∃ Bx, w.heap.size + 5 ≤ Bx ∧ Bx < W.heap.size ∧ W.cell? ⟨Bx, 0, none⟩ = some (.int .i64 ((sp x).1 : Int)) ∧ W.cell? ⟨Bx, 1, none⟩ = some (.slice (ua x) (un x) (uc x)) ∧ W.cell? ⟨Bx, 2, none⟩ = some (.slice (ha x) (hn' x) (hc x)) ∧
      a' = { tmps := #[Value.agg #[Value.slice ao N cap, Value.int IntKind.i64 T.root], Value.slice al L lcap, Value.pointer (some ⟨w.heap.size, 0, none⟩), Value.pointer (some ⟨w.heap.size + 1, 0, none⟩), Value.pointer (some ⟨w.heap.size + 1 + 1, 0, none⟩), Value.pointer (some ⟨w.heap.size + 1 + 1 + 1, 0, none⟩), undef, Value.pointer (some ⟨Bx, 0, none⟩), undef, Value.slice al L lcap, Value.func (Fn.func 69) #[] #[Value.pointer (some ⟨w.heap.size + 1 + 1 + 1 + 1, 0, none⟩)], .int .i64 ((x : Nat) : Int), .agg #[.int .i64 ((sp x).1 : Int), .slice (ua x) (un x) (uc x), .slice (ha x) (hn' x) (hc x)], undef, undef, undef, undef, undef, undef, undef, undef, undef, undef, undef, undef, undef, undef, undef, undef, undef, undef, undef, undef, undef, undef, undef, undef, undef, undef, undef, undef, undef, undef, undef, undef], defers := [] })
    ?ax ?assign ?body ?done ?stop
  case ax =>
    rintro x a' s A B row ⟨Bx, h1, h2, h3, h4, h5, h6⟩ hg hr
    exact ⟨Bx, h1, by have := hg.size; omega, cell_kept h3 hg (fun r e => (hr r e).2), cell_kept h4 hg (fun r e => (hr r e).2), cell_kept h5 hg (fun r e => (hr r e).2), h6⟩
  case assign =>
    rintro l pre x W K ⟨⟨q1, q2, q3, q4, q5, q6, q7, q8⟩, hB⟩ hK
    gi_wp2
    exact hK _ _ ((KeepsOthers.alloc _ _).from _) ⟨(Below.refl _ W).alloc hB.size _, fun v hv => cell_al _ hv⟩ ⟨⟨q1, cell_al _ q2, cell_al _ q3, cell_al _ q4, cell_al _ q5, frozen_al _ q4 q6, frozen_al _ q5 q7, by simp; omega⟩, hB.alloc hB.size _⟩ ⟨W.heap.size, q8, by simp, by simp, by simp, by simp, rfl⟩
  case body =>
    rintro l' pre x a' W hl' ⟨r, hr⟩ ⟨⟨q1, q2, q3, q4, q5, q6, q7, q8⟩, hB⟩ ⟨Bx, hBx, hBxl, b0, b1, b2, rfl⟩ hlt
    obtain ⟨i, hi⟩ := x
    simp only at b0 b1 b2
    obtain ⟨s1, s2, s3⟩ := HSP.out i hi
    obtain ⟨s1', s2', s3'⟩ := HSP.out 0 (by omega)
    obtain ⟨b3, o3, rfl, hb3, l0, l1, l2⟩ := HCS.out 0 (by omega)
    obtain ⟨⟨n, lo, hi'⟩, hx⟩ : ∃ x, x = sp i := ⟨_, rfl⟩
    rw [← hx] at b0 s1 s2 s3
    obtain ⟨⟨n0, lo0, hi0⟩, hx0⟩ : ∃ x, x = sp 0 := ⟨_, rfl⟩
    simp only [← hx0] at l0 s3'
    obtain ⟨bp, op, rfl, hbp, _, hpa⟩ := HP.out n s3
    obtain ⟨p, hp⟩ : ∃ p, p = T.pages.getD n noPg := ⟨_, rfl⟩
    rw [← hp] at hpa
    obtain ⟨bp', op', e5, hbp', _, hpa'⟩ := HP.out n0 s3'
    cases e5
    have hlf := HL0.out
    rw [← hx0] at hlf
    have a0' := (hpa'.below hB).1
    simp only at hlf
    rw [← hlf] at a0'
    obtain ⟨pl, pks, pds, ph, pn⟩ := p
    obtain ⟨a1, a2, a3, a4, a5, a6, a7, a8⟩ := hpa.below hB
    simp only at a1 a5 a6 a7 a8
    obtain ⟨ak, ck, ff, k0, k1, k2, k3⟩ := keysF a6
    obtain ⟨ad, cd, d0, d1, d2, d3⟩ := intsF a7
    obtain ⟨ag, cg, eg⟩ := a8.sh
    rw [k0] at a2 a6
    rw [d0] at a3
    rw [eg] at a4 a8
    obtain ⟨K, hK⟩ : ∃ K, K = pks.length := ⟨_, rfl⟩
    obtain ⟨Kd, hKd⟩ : ∃ K, K = pds.length := ⟨_, rfl⟩
    obtain ⟨Kg, hKg⟩ : ∃ K, K = ph.length := ⟨_, rfl⟩
    rw [← hK] at a2 a6
    rw [← hKd] at a3
    rw [← hKg] at a4 a8
    have lv0 : W.cell? ⟨b3, o3, none⟩ = some (.int .i64 (n0 : Int)) := by have := (hB.cell (p := ⟨b3, o3 + 0 * 3, none⟩) hb3).trans l0; simpa using this
    have hLpos : (0 : Int) < (L : Int) := by omega
    have hbW : b3 < W.heap.size := by omega
    have hbpW : bp < W.heap.size := by omega
    have hn0 : (n : Int) < (N : Int) := by omega
    have hn00 : (n0 : Int) < (N : Int) := by omega
    obtain ⟨nx, hnx⟩ : ∃ nx, nx = rightOf (pre.reverse.map fun x : Fin L => sp x) := ⟨_, rfl⟩
    rw [← hnx] at q5
    have HNO : Hid (¬ okLw T.pages leaf0 ((pre ++ [(⟨i, hi⟩ : Fin L)]).reverse.map fun x : Fin L => sp x) → ∀ (Bq : Nat) (W2 : World), Below W.heap.size W W2 → KeepsFrom Bq W (W2.setCell ⟨w.heap.size + 1 + 1, 0, none⟩ (.bool false)) ∧
        ((Code.ret = Code.ret ∧ ¬ okLw T.pages leaf0 ((pre ++ [(⟨i, hi⟩ : Fin L)]).reverse.map fun x : Fin L => sp x) ∧ (W2.setCell ⟨w.heap.size + 1 + 1, 0, none⟩ (.bool false)).cell? ⟨w.heap.size + 1 + 1, 0, none⟩ = some (.bool false)) ∧ Below w.heap.size w (W2.setCell ⟨w.heap.size + 1 + 1, 0, none⟩ (.bool false)))) := fun hn Bq W2 hb =>
      ⟨(keeps_below hb).trans ((KeepsOthers.setCell _ _ _).from _), ⟨rfl, hn, World.cell?_setCell_same' _ _ _ (by rw [cell_of_below hb q4]; rfl)⟩, (hB.trans (hb.mono hB.size)).setCell (p := ⟨w.heap.size + 1 + 1, 0, none⟩) (by show w.heap.size ≤ w.heap.size + 1 + 1; omega) _⟩
    have HYES : Hid (okLw T.pages leaf0 ((pre ++ [(⟨i, hi⟩ : Fin L)]).reverse.map fun x : Fin L => sp x) → ∀ (Bq : Nat) (W2 : World), Below W.heap.size W W2 → KeepsFrom Bq W (W2.setCell ⟨w.heap.size + 1 + 1 + 1, 0, none⟩ (.int .i64 (n : Int))) ∧ KpB w.heap.size (w.heap.size + 1 + 1 + 1 + 1) W (W2.setCell ⟨w.heap.size + 1 + 1 + 1, 0, none⟩ (.int .i64 (n : Int))) ∧
        ((okLw T.pages leaf0 ((pre ++ [(⟨i, hi⟩ : Fin L)]).reverse.map fun x : Fin L => sp x) ∧ (W2.setCell ⟨w.heap.size + 1 + 1 + 1, 0, none⟩ (.int .i64 (n : Int))).cell? ⟨w.heap.size, 0, none⟩ = some (.slice (some ⟨bp, op, none⟩) N cap) ∧ (W2.setCell ⟨w.heap.size + 1 + 1 + 1, 0, none⟩ (.int .i64 (n : Int))).cell? ⟨w.heap.size + 1, 0, none⟩ = some (.slice (some ⟨b3, o3, none⟩) L lcap) ∧
          (W2.setCell ⟨w.heap.size + 1 + 1 + 1, 0, none⟩ (.int .i64 (n : Int))).cell? ⟨w.heap.size + 1 + 1, 0, none⟩ = some (.bool false) ∧ (W2.setCell ⟨w.heap.size + 1 + 1 + 1, 0, none⟩ (.int .i64 (n : Int))).cell? ⟨w.heap.size + 1 + 1 + 1, 0, none⟩ = some (.int .i64 (rightOf ((pre ++ [(⟨i, hi⟩ : Fin L)]).reverse.map fun x : Fin L => sp x))) ∧
          (W2.setCell ⟨w.heap.size + 1 + 1 + 1, 0, none⟩ (.int .i64 (n : Int))).frozen? ⟨w.heap.size + 1 + 1, 0, none⟩ = false ∧ (W2.setCell ⟨w.heap.size + 1 + 1 + 1, 0, none⟩ (.int .i64 (n : Int))).frozen? ⟨w.heap.size + 1 + 1 + 1, 0, none⟩ = false ∧ w.heap.size + 5 ≤ (W2.setCell ⟨w.heap.size + 1 + 1 + 1, 0, none⟩ (.int .i64 (n : Int))).heap.size) ∧ Below w.heap.size w (W2.setCell ⟨w.heap.size + 1 + 1 + 1, 0, none⟩ (.int .i64 (n : Int))))) := fun hn Bq W2 hb => by
      have e : rightOf ((pre ++ [(⟨i, hi⟩ : Fin L)]).reverse.map fun x : Fin L => sp x) = (n : Int) := by
        simp only [List.reverse_append, List.reverse_cons, List.reverse_nil, List.nil_append, List.cons_append, List.map_cons, rightOf]
        rw [← hx]
      rw [e]
      refine ⟨(keeps_below hb).trans ((KeepsOthers.setCell _ _ _).from _), ⟨(hb.mono hB.size).setCell (p := ⟨w.heap.size + 1 + 1 + 1, 0, none⟩) (by show w.heap.size ≤ w.heap.size + 1 + 1 + 1; omega) _, fun v hv => set_far (by simp) (cell_of_below hb hv)⟩,
        ⟨hn, set_far (by show w.heap.size + 1 + 1 + 1 ≠ w.heap.size; omega) (cell_of_below hb q2), set_far (by show w.heap.size + 1 + 1 + 1 ≠ w.heap.size + 1; omega) (cell_of_below hb q3), set_far (by show w.heap.size + 1 + 1 + 1 ≠ w.heap.size + 1 + 1; omega) (cell_of_below hb q4), World.cell?_setCell_same' _ _ _ (by rw [cell_of_below hb q5]; rfl), ?_, ?_, ?_⟩, (hB.trans (hb.mono hB.size)).setCell (p := ⟨w.heap.size + 1 + 1 + 1, 0, none⟩) (by show w.heap.size ≤ w.heap.size + 1 + 1 + 1; omega) _⟩
      · rw [World.frozen?_setCell]; exact frozen_of_below hb q4 q6
      · rw [World.frozen?_setCell]; exact frozen_of_below hb q5 q7
      · have := hb.size
        simp
        omega
    have HSTEP : Hid (okLw T.pages leaf0 ((pre ++ [(⟨i, hi⟩ : Fin L)]).reverse.map fun x : Fin L => sp x) ↔ (pn = nx ∧ ph = hi' ∧ pl = leaf0 ∧ ∀ k ∈ pks, inB lo hi' k)) := by
      refine Lib.hid ?_
      simp only [List.reverse_append, List.reverse_cons, List.reverse_nil, List.nil_append, List.cons_append, List.map_cons, okLw]
      rw [← hx]
      simp only
      rw [← hp]
      simp only
      rw [hnx]
      exact ⟨fun h => h.1, fun h => ⟨h, q1⟩⟩
    have HPP := Lib.hid hp
    have HX := Lib.hid hx
    have HX0 := Lib.hid hx0
    have HNX := Lib.hid hnx
    have HA6 := Lib.hid a6
    have HA8 := Lib.hid a8
    have HS1 := Lib.hid s1
    have HS2 := Lib.hid s2
    have HQ1 := Lib.hid q1
    clear hpa hpa' hp hx hx0 hnx a6 a7 a8 k0 k1 k2 k3 d0 d1 d2 d3 eg hK hKd hKg s1 s2 s1' s2' l0 l1 l2 q1 hlf s3 s3'
    gi_wp2
    obtain ⟨W1, hW1⟩ : ∃ W1 : World, W1 = W.alloc (.cells #[.bool pl, .slice ak K ck, .slice ad Kd cd, .slice ag Kg cg, .int .i64 pn] 43) := ⟨_, rfl⟩
    have hBW : Below W.heap.size W W1 := by rw [hW1]; go_grown
    have p0 : W1.cell? ⟨W.heap.size, 0, none⟩ = some (.bool pl) := by rw [hW1]; simp
    have p1 : W1.cell? ⟨W.heap.size, 1, none⟩ = some (.slice ak K ck) := by rw [hW1]; simp
    have p2 : W1.cell? ⟨W.heap.size, 2, none⟩ = some (.slice ad Kd cd) := by rw [hW1]; simp
    have p3 : W1.cell? ⟨W.heap.size, 3, none⟩ = some (.slice ag Kg cg) := by rw [hW1]; simp
    have p4 : W1.cell? ⟨W.heap.size, 4, none⟩ = some (.int .i64 pn) := by rw [hW1]; simp
    have w2 := cell_al (.cells #[.bool pl, .slice ak K ck, .slice ad Kd cd, .slice ag Kg cg, .int .i64 pn] 43) q2
    have w3 := cell_al (.cells #[.bool pl, .slice ak K ck, .slice ad Kd cd, .slice ag Kg cg, .int .i64 pn] 43) q3
    have w5 := cell_al (.cells #[.bool pl, .slice ak K ck, .slice ad Kd cd, .slice ag Kg cg, .int .i64 pn] 43) q5
    have wb0 := cell_al (.cells #[.bool pl, .slice ak K ck, .slice ad Kd cd, .slice ag Kg cg, .int .i64 pn] 43) b0
    have wb1 := cell_al (.cells #[.bool pl, .slice ak K ck, .slice ad Kd cd, .slice ag Kg cg, .int .i64 pn] 43) b1
    have wb2 := cell_al (.cells #[.bool pl, .slice ak K ck, .slice ad Kd cd, .slice ag Kg cg, .int .i64 pn] 43) b2
    have wa := cell_al (.cells #[.bool pl, .slice ak K ck, .slice ad Kd cd, .slice ag Kg cg, .int .i64 pn] 43) a0'
    have wl := cell_al (.cells #[.bool pl, .slice ak K ck, .slice ad Kd cd, .slice ag Kg cg, .int .i64 pn] 43) lv0
    rw [← hW1] at w2 w3 w5 wb0 wb1 wb2 wa wl
    rw [← hW1]
    have HBW := Lib.hid hBW
    have HW1 := Lib.hid hW1
    have q4' := q4
    have q5' := q5
    have b0' := b0
    clear hBW hW1 q2 q3 q4 q5 b0 b1 b2 a0' lv0 a1 a2 a3 a4 a5
    have hbW1 : W.heap.size < W1.heap.size := by rw [HW1.out]; simp
    have hcall : ∀ (p : GrownBy), CallsIn (Fence.wide.inRound l') 2 Try.prog 66 #[.agg #[.int .i64 (n : Int), .slice (ua i) (un i) (uc i), .slice (ha i) (hn' i) (hc i)], .agg #[.bool pl, .slice ak K ck, .slice ad Kd cd, .slice ag Kg cg, .int .i64 pn]] (Go.Sort.grow (W1.drewN p.n) p.os) fun e w'' =>
        e = .returned (.bool (@decide ((∀ k ∈ pks, inB lo hi' k) ∧ ph = hi') (Classical.propDecidable _))) ∧ ∃ p : GrownBy, w'' = Go.Sort.grow (W1.drewN p.n) p.os := fun p => by
      have hb1 := below_grow W1 p.n p.os
      refine CallsIn.inRound l' (callsIn_wide.2 ((holds_x _ ok ok ok (n : Int) pn pl (.slice (ua i) (un i) (uc i)) (.slice (ha i) (hn' i) (hc i)) (.slice ak K ck) (.slice ad Kd cd) (.slice ag Kg cg) lo hi' ph pks
        (((HS1.out.below hB).below HBW.out).below hb1) (((HS2.out.below hB).below HBW.out).below hb1) ((HA6.out.below HBW.out).below hb1) ((HA8.out.below HBW.out).below hb1)).mono ?_))
      rintro e w2 ⟨b, rfl, h2, rfl⟩
      refine ⟨?_, ⟨p.n, p.os ++ (#[.cells #[.int .i64 (n : Int), .slice (ua i) (un i) (uc i), .slice (ha i) (hn' i) (hc i)] 85] ++ #[.cells #[.bool pl, .slice ak K ck, .slice ad Kd cd, .slice ag Kg cg, .int .i64 pn] 43])⟩, ?_⟩
      · congr 2
        rw [Bool.eq_iff_iff, h2]
        simp
      · rw [Go.Sort.alloc_eq_grow, Go.Sort.alloc_eq_grow, Go.Sort.grow_grow, Go.Sort.grow_grow]
    have HCALL := Lib.hid hcall
    clear hcall
    have hf3 : (Fence.wide.inRound l').fn 66 := trivial
    have g0 := cell_grown (a := ⟨W.heap.size, 0, none⟩) hbW1 p0
    have g1 := cell_grown (a := ⟨W.heap.size, 1, none⟩) hbW1 p1
    have g2 := cell_grown (a := ⟨W.heap.size, 2, none⟩) hbW1 p2
    have g3 := cell_grown (a := ⟨W.heap.size, 3, none⟩) hbW1 p3
    have g4 := cell_grown (a := ⟨W.heap.size, 4, none⟩) hbW1 p4
    have g5 := cell_grown (lt_cell w2) w2
    have g6 := cell_grown (lt_cell w3) w3
    have g7 := cell_grown (lt_cell w5) w5
    have g8 := cell_grown (lt_cell wb0) wb0
    have g9 := cell_grown (lt_cell wb1) wb1
    have g10 := cell_grown (lt_cell wb2) wb2
    have g11 := cell_grown (lt_cell wa) wa
    have g12 := cell_grown (lt_cell wl) wl
    clear p0 p1 p2 p3 p4 w2 w3 w5 wb0 wb1 wb2 wa wl
    obtain ⟨q, hq⟩ : ∃ q : Bool, q = @decide ((∀ k ∈ pks, inB lo hi' k) ∧ ph = hi') (Classical.propDecidable _) := ⟨_, rfl⟩
    rw [← hq] at HCALL
    have HQ := Lib.hid hq
    clear hq
    have HW2 : ∀ W2 : World, (∃ p : GrownBy, W2 = Go.Sort.grow (W1.drewN p.n) p.os) → Below W.heap.size W W2 := by
      rintro W2 ⟨⟨nq, osq⟩, hW2⟩
      rw [hW2]
      exact HBW.out.trans ((below_grow W1 nq osq).mono (by omega))
    have HW2' := Lib.hid HW2
    clear HW2
    by_cases hleaf : pl = leaf0
    · subst hleaf
      by_cases hnext : pn = nx
      · subst hnext
        refine regionR (by kernel_rfl) (by kernel_rfl) (by kernel_rfl) ?_
        repeat (gi_big_quiet_step (exact HCALL.out _))
        refine wpQuietIn_nil ?_
        intro W2 hW2
        have hB2 := HW2'.out W2 hW2
        have HB2 := Lib.hid hB2
        have z2 := hB2.size
        have n4 := cell_of_below hB2 q4'
        have n5 := cell_of_below hB2 q5'
        have m6 := frozen_of_below hB2 q4' q6
        have m7 := frozen_of_below hB2 q5' q7
        have k0 := (cell_of_below hB2 b0')
        clear hB2 hW2 g0 g1 g2 g3 g4 g5 g6 g7 g8 g9 g10 g11 g12 HCALL
        cases q with
        | true =>
          gi_wp2
          have h := HQ.out
          simp only [eq_comm (a := true), decide_eq_true_eq] at h
          obtain ⟨h1, h2, h3⟩ := HYES.out (HSTEP.out.2 (by first | exact ⟨trivial, h.2, trivial, h.1⟩ | exact ⟨rfl, h.2, rfl, h.1⟩)) _ W2 HB2.out
          refine ⟨h1, h2, ?_⟩
          simpa only [List.map_reverse] using h3
        | false =>
          gi_wp2
          have h := HQ.out
          simp only [eq_comm (a := false), decide_eq_false_iff_not] at h
          obtain ⟨h1, ⟨-, h2, h3⟩, h4⟩ := HNO.out (fun hh => by have g := HSTEP.out.1 hh; exact h ⟨g.2.2.2, g.2.1⟩) _ W2 HB2.out
          exact ⟨h1, ⟨rfl, by simpa only [List.map_reverse] using h2, h3⟩, h4⟩
      · have e1 : (pn == nx) = false := by simpa using hnext
        have e2 : (pn != nx) = true := by simpa using hnext
        refine regionR (by kernel_rfl) (by kernel_rfl) (by kernel_rfl) ?_
        repeat (gi_big_quiet_step (exact HCALL.out _))
        refine wpQuietIn_nil ?_
        intro W2 hW2
        have hB2 := HW2'.out W2 hW2
        have HB2 := Lib.hid hB2
        have z2 := hB2.size
        have n4 := cell_of_below hB2 q4'
        have m6 := frozen_of_below hB2 q4' q6
        clear hB2 hW2 g0 g1 g2 g3 g4 g5 g6 g7 g8 g9 g10 g11 g12 HCALL
        gi_wp2
        obtain ⟨h1, ⟨-, h2, h3⟩, h4⟩ := HNO.out (fun hh => hnext (HSTEP.out.1 hh).1) _ W2 HB2.out
        exact ⟨h1, ⟨rfl, by simpa only [List.map_reverse] using h2, h3⟩, h4⟩
    · have HLF := Lib.hid hleaf
      have e3 : (pl == leaf0) = false := by simpa using hleaf
      have e4 : (pl != leaf0) = true := by simpa using hleaf
      clear hleaf
      refine regionR (by kernel_rfl) (by kernel_rfl) (by kernel_rfl) ?_
      repeat (gi_big_quiet_step (exact HCALL.out _))
      refine wpQuietIn_nil ?_
      intro W2 hW2
      have hB2 := HW2'.out W2 hW2
      have HB2 := Lib.hid hB2
      have z2 := hB2.size
      have n4 := cell_of_below hB2 q4'
      have m6 := frozen_of_below hB2 q4' q6
      clear hB2 hW2 g0 g1 g2 g3 g4 g5 g6 g7 g8 g9 g10 g11 g12 HCALL
      gi_wp2
      obtain ⟨h1, ⟨-, h2, h3⟩, h4⟩ := HNO.out (fun hh => HLF.out (HSTEP.out.1 hh).2.2.1) _ W2 HB2.out
      exact ⟨h1, ⟨rfl, by simpa only [List.map_reverse] using h2, h3⟩, h4⟩
  case done =>
    rintro D ys W hD rfl ⟨⟨q1, q2, q3, q4, q5, q6, q7, q8⟩, hB⟩ hK
    have hP : P0 := by
      rw [HP0.out]
      rw [revs_all, List.reverse_reverse, spots_all HL.out HSL.out, HL0.out, HSL.out] at q1
      exact q1
    gi_wp2
    have hK' := (KeepsOthers.setCell W ⟨w.heap.size + 1 + 1, 0, none⟩ (.bool true)).same D _ hK rfl
    refine ⟨by simp, .inl ⟨_, _, rfl, run_takeDeferred hK', ?_⟩⟩
    have hc5 := cell_kept (World.cell?_setCell_same' W ⟨w.heap.size + 1 + 1, 0, none⟩ (.bool true) (by rw [q4]; rfl)) (grownBy_putObj' _ D (.deferred none)) (fun r e => by cases e; exact ⟨_, hK', rfl⟩)
    refine ⟨.bool true, ?_, ansb (by simp [hP]) ((hB.setCell (p := ⟨w.heap.size + 1 + 1, 0, none⟩) (by show w.heap.size ≤ w.heap.size + 1 + 1; omega) _).trans (belowK_b (w := w) (Nat.le_refl _) _ D _ _ (by omega) hK' rfl rfl))⟩
    simp [results, Try.f60, go_sem, hc5]
  case stop =>
    rintro D c pre W hD ⟨k, hk, rfl⟩ ⟨⟨rfl, q1, q2⟩, hB⟩ hK
    have hP : ¬ P0 := by
      rw [HP0.out]
      intro h
      obtain ⟨a, ha⟩ := spots_end (k := k) HL.out HSL.out
      have e1 : sp 0 = l.getD 0 sp0 := by rw [HSL.out]
      rw [HL0.out, e1] at q1
      exact q1 (okLw_tail (a := a) (by rw [← ha]; exact h))
    gi_wp2
    refine ⟨by simp, .inl ⟨_, _, rfl, run_takeDeferred hK, ?_⟩⟩
    have hc5 := cell_kept q2 (grownBy_putObj' _ D (.deferred none)) (fun r e => by cases e; exact ⟨_, hK, rfl⟩)
    refine ⟨.bool false, ?_, ansb (by simp [hP]) (hB.trans (belowK_b (w := w) (Nat.le_refl _) W D _ _ (by omega) hK rfl rfl))⟩
    simp [results, Try.f60, go_sem, hc5]
end Go.Proofs.Ytahammkjkfdmhaa

/- A key found, or not. -/
import Derived.Test.YtahammkjkfdmhaaHe
import Derived.Test.YtahammkjkfdmhaaHd
import Derived.Deep.RegionHeld3
namespace Go.Proofs.Ytahammkjkfdmhaa
open Go.ChangeShapes Go.WideShapes Go.ChangeAt Go.RowKit
set_option linter.unusedVariables false
set_option linter.unusedSimpArgs false
set_option maxHeartbeats 2000000
set_option maxRecDepth 100000
/-- The row of a key among entries. -/
def lookE (k : Key) (l : List (Key × Int)) : Option Int := (l.find? fun e => e.1 == k).map (·.2)
theorem lookE_some {k : Key} {v : Int} : ∀ {l : List (Key × Int)}, Rise l → (k, v) ∈ l → lookE k l = some v
  | [], _, h => by simp at h
  | e :: l, hr, h => by
    rw [Rise, List.pairwise_cons] at hr
    simp only [List.mem_cons] at h
    by_cases he : e.1 = k
    · rcases h with rfl | h
      · simp [lookE]
      · have := hr.1 _ h
        simp only [he] at this
        exact absurd this (by rw [show kl k k = Op.bytesLess k k from rfl, bl_irr]; simp)
    · rcases h with rfl | h
      · exact absurd rfl he
      · have := lookE_some hr.2 h
        simp only [lookE, List.find?_cons, beq_eq_false_iff_ne.2 he] at this ⊢
        exact this
theorem lookE_none {k : Key} {l : List (Key × Int)} (h : ∀ e ∈ l, e.1 ≠ k) : lookE k l = none := by
  unfold lookE
  rw [Option.map_eq_none_iff, List.find?_eq_none]
  intro e he
  simpa using h e he
/-- What is asked in a leaf. -/
theorem leaf_rep : ∀ (h : Nat) (ps : List Pg) (hi : Key) (rs : List Int) (lo hi' : Key) (t : Tb h) (k : Key), repT ps h hi rs t → wfT h lo hi' t →
    ∃ hi2 nx lo3 hi3, ps[(leafT h t k).1]? = some ⟨true, (leafT h t k).2.map (·.1), (leafT h t k).2.map (·.2), hi2, nx⟩ ∧ wfT 0 lo3 hi3 (leafT h t k)
  | 0, ps, hi, rs, lo, hi', t, k, hr, hw => ⟨hi, rs.headD (-1), lo, hi', hr, hw⟩
  | h + 1, ps, hi, rs, lo, hi', t, k, hr, hw => by
    obtain ⟨lo2, hi2, w2⟩ := kw_pick k _ _ _ _ hw.2.2
    obtain ⟨hi3, rs2, e2⟩ := repK_pick k _ _ _ _ hr.2
    exact leaf_rep h ps hi3 rs2 lo2 hi2 (pickK k t.2.1 t.2.2) k e2 w2
theorem rise_keys {l : List (Key × Int)} (h : Rise l) : RiseK (l.map (·.1)) := List.pairwise_map.2 h
theorem look_leaf {k : Key} {l : List (Key × Int)} (hr : Rise l) : lookE k l = if hasK k (l.map (·.1)) then some ((l.map (·.2)).getD (lbK k (l.map (·.1))) 0) else none := by
  by_cases hh : hasK k (l.map (·.1)) = true
  · rw [if_pos hh]
    have h2 := hh
    simp only [hasK, decide_eq_true_eq, List.length_map] at h2
    obtain ⟨h3, h4⟩ := h2
    refine lookE_some hr ?_
    have e1 : (l.map (·.1)).getD (lbK k (l.map (·.1))) [] = l[lbK k (l.map (·.1))].1 := by simp [List.getD, h3]
    have e2 : (l.map (·.2)).getD (lbK k (l.map (·.1))) 0 = l[lbK k (l.map (·.1))].2 := by simp [List.getD, h3]
    rw [e1] at h4
    rw [e2]
    have e3 : (k, l[lbK k (l.map (·.1))].2) = l[lbK k (l.map (·.1))] := Prod.ext h4.symm rfl
    rw [e3]
    exact List.getElem_mem h3
  · rw [if_neg hh]
    refine lookE_none fun e he hk => hh ?_
    rw [has_mem (rise_keys hr)]
    exact List.mem_map.2 ⟨e, he, hk⟩
theorem look_tree {h : Nat} {lo hi : Key} {t : Tb h} {k : Key} (hw : wfT h lo hi t) : lookE k (entT h t) = lookE k (leafT h t k).2 := by
  have hr := ent_rise h lo hi t hw
  rcases hl : lookE k (leafT h t k).2 with _ | v
  · refine lookE_none fun e he hk => ?_
    obtain ⟨a, b⟩ := e
    simp only at hk
    subst hk
    have hm := (leaf_ent h lo hi t a hw b).1 he
    unfold lookE at hl
    rw [Option.map_eq_none_iff, List.find?_eq_none] at hl
    have := hl _ hm
    simp at this
  · refine lookE_some hr ?_
    rw [leaf_ent h lo hi t k hw v]
    unfold lookE at hl
    obtain ⟨e, he, hv⟩ := Option.map_eq_some_iff.1 hl
    have h1 := List.mem_of_find?_eq_some he
    have h2 := List.find?_some he
    obtain ⟨a, b⟩ := e
    simp only [beq_iff_eq] at h2 hv
    subst h2 hv
    exact h1
theorem cell_dr {W : World} {a : Addr} {v : Value} (h : W.cell? a = some v) : W.drew.cell? a = some v := by simpa using h
theorem box_after {w1 w2 : World} {C : Array Value} {T : TypeId} (hb : Below ((w1.alloc (.cells C T)).drew).heap.size (w1.alloc (.cells C T)).drew w2) : w2.heap[w1.heap.size]? = some (.cells C T (0, 0)) :=
  (hb.block w1.heap.size (by simp)).trans (new0 w1 (.cells C T))
/-- Small enough to be told apart by numbers. -/
def Small (T : Tr) : Prop := (∀ p ∈ T.pages, p.keys.length ≤ maxLen ∧ p.kids.length ≤ 4611686018427387904) ∧ Rng T.root
/-- Two results and the world that was. -/
def Two (a b : Int) (w : World) (e : Ending) (w' : World) : Prop := e = .returned (.tuple #[.int .i64 a, .int .i64 b]) ∧ Below w.heap.size w w'
theorem two_of {a b a' b' : Int} {w w' : World} (ha : a = a') (hb : b = b') (h : Below w.heap.size w w') : Two a' b' w (.returned (.tuple #[.int .i64 a, .int .i64 b])) w' := by subst ha; subst hb; exact ⟨rfl, h⟩
theorem find_bad (w : World) (ok : Nat → Prop) (hok : ∀ b, ok b → b < w.heap.size) (tv kv : Value) (T : Tr) (ht : RT w ok tv T) (hs : Small T) (hb : ¬ (T.pages.length ≤ 4000 ∧ Pass T)) :
    Calls Try.prog 13 #[tv, kv] w (Two 0 11 w) := by
  obtain ⟨ao, n, cap, rfl⟩ : ∃ ao n cap, tv = .agg #[.slice ao n cap, .int .i64 T.root] := by
    obtain ⟨ao, cap, _, _, _, e, _⟩ := pagesF ht
    exact ⟨ao, _, cap, e⟩
  have hc := fun (W : World) (hB : Below w.heap.size w W) => check_any W ok (fun b hb' => by have := hok b hb'; have := hB.size; omega) _ T (ht.below hB) hs.1 hs.2
  unfold ChkIs at hc
  rw [chkT_no hb] at hc
  have HC := Lib.hid hc
  clear hc ht hs hb
  go_enter Try.func13, Try.ntmps13
  go_wp2_with fail
  refine (HC.out _ (by go_grown)).mono ?_
  rintro e w1 ⟨rfl, hb1⟩
  have HB := Lib.hid (into (by go_grown : Below w.heap.size w _) hb1)
  clear hb1
  go_wp2
  go_ret2
  exact two_of rfl rfl HB.out
theorem find_size (w : World) (ok ok' : Nat → Prop) (hok : ∀ b, ok b → b < w.heap.size) (tv kv : Value) (T : Tr) (k : Key) (ht : RT w ok tv T) (hk : RB w ok' kv k) (hs : Small T) (hb : T.pages.length ≤ 4000 ∧ Pass T) (hno : ¬ okK k) :
    Calls Try.prog 13 #[tv, kv] w (Two 0 1 w) := by
  obtain ⟨ao, n, cap, rfl⟩ : ∃ ao n cap, tv = .agg #[.slice ao n cap, .int .i64 T.root] := by
    obtain ⟨ao, cap, _, _, _, e, _⟩ := pagesF ht
    exact ⟨ao, _, cap, e⟩
  have hc := fun (W : World) (hB : Below w.heap.size w W) => check_any W ok (fun b hb' => by have := hok b hb'; have := hB.size; omega) _ T (ht.below hB) hs.1 hs.2
  unfold ChkIs at hc
  rw [chkT_yes hb.1 hb.2] at hc
  have HC := Lib.hid hc
  have hkb : keyB k = false := by rw [← Bool.not_eq_true, keyB_iff]; exact hno
  have HK := Lib.hid hk
  clear hc ht hs hb hk
  go_enter Try.func13, Try.ntmps13
  go_wp2_with fail
  refine (HC.out _ (by go_grown)).mono ?_
  rintro e w1 ⟨rfl, hb1⟩
  have HB := Lib.hid (into (by go_grown : Below w.heap.size w _) hb1)
  clear hb1
  go_wp2_with (go_at_call 30; refine (isKey_any _ _ k (HK.out.below HB.out).1).mono ?_; rintro e w' ⟨rfl, rfl⟩)
  go_ret2
  exact two_of rfl rfl HB.out
end Go.Proofs.Ytahammkjkfdmhaa
/- A key found. -/
namespace Go.Proofs.Ytahammkjkfdmhaa
open Go.ChangeShapes Go.WideShapes Go.ChangeAt Go.RowKit
set_option linter.unusedVariables false
set_option linter.unusedSimpArgs false
set_option maxHeartbeats 2000000
set_option maxRecDepth 100000
theorem find_ok (w : World) (ok ok' : Nat → Prop) (hok : ∀ b, ok b → b < w.heap.size) (tv kv : Value) (T : Tr) (h : Nat) (t : Tb h) (k : Key) (ht : RT w ok tv T) (hk : RB w ok' kv k) (hs : Small T) (hN : T.pages.length ≤ 4000) (hr : Reps T h t) (hy : okK k) :
    Calls Try.prog 13 #[tv, kv] w (Two ((lookE k (entT h t)).getD 0) (if (lookE k (entT h t)).isSome then 0 else 8) w) := by
  obtain ⟨ao, cap, kf, df, gf, rfl, g1, g2, g3⟩ := pagesF ht
  have hc := fun (W : World) (hB : Below w.heap.size w W) => check_any W ok (fun b hb' => by have := hok b hb'; have := hB.size; omega) _ T (ht.below hB) hs.1 hs.2
  unfold ChkIs at hc
  rw [chkT_yes hN (reps_pass hr)] at hc
  have hl := fun (W : World) (hB : Below w.heap.size w W) => leafOf_any W ok ok' (fun b hb' => by have := hok b hb'; have := hB.size; omega) _ kv T h t k (ht.below hB) hr (hk.below hB) (by omega)
  obtain ⟨hi2, nx, lo3, hi3, hlf, hwf⟩ := leaf_rep h T.pages [] [] [] [] t k hr.2.1 hr.2.2.1
  have hll : (leafT h t k).1 < T.pages.length := (List.getElem?_eq_some_iff.1 hlf).1
  have hlook := look_tree (k := k) hr.2.2.1
  rw [hlook, look_leaf hwf.2.1]
  have hrise := rise_keys hwf.2.1
  have hl4 : (leafT h t k).2.length ≤ 4 := hwf.1
  obtain ⟨lf, hlfe⟩ : ∃ lf, lf = (leafT h t k).1 := ⟨_, rfl⟩
  obtain ⟨es, hes⟩ : ∃ es, es = (leafT h t k).2 := ⟨_, rfl⟩
  rw [← hlfe] at hl hlf hll
  rw [← hes] at hlf hrise hl4 ⊢
  obtain ⟨N, hNN⟩ : ∃ N, N = T.pages.length := ⟨_, rfl⟩
  rw [← hNN] at g1 g3 hN hll hc hl
  rw [← hNN]
  obtain ⟨b0, o0, rfl, hb0, hok0, hpa⟩ := g3 lf hll
  rw [getD_of hlf] at hpa
  obtain ⟨ak, ck, ad, cd, ag, cg, x1, x2, x3⟩ := page_box hpa
  rw [x1, x2, x3] at hpa
  obtain ⟨a1, a2, a3, a4, a5, a6, a7, a8⟩ := hpa
  simp only [List.length_map] at a1 a2 a3 a4 a5 a6 a7
  obtain ⟨ks, hks⟩ : ∃ ks, ks = es.map (·.1) := ⟨_, rfl⟩
  obtain ⟨ds, hds⟩ : ∃ ds, ds = es.map (·.2) := ⟨_, rfl⟩
  rw [← hks] at a6 hrise ⊢
  rw [← hds] at a7 ⊢
  have hkl : ks.length = es.length := by rw [hks, List.length_map]
  have hdl : ds.length = es.length := by rw [hds, List.length_map]
  have hsm : ks.length ≤ 1000000 := by omega
  have hsr := fun (W : World) (hB : Below w.heap.size w W) => srch_any W ok ok' _ _ ks k (a6.below hB) (hk.below hB) hrise hsm
  obtain ⟨hs1, hhs⟩ : ∃ q, q = hasK k ks := ⟨_, rfl⟩
  obtain ⟨lb, hlb⟩ : ∃ q, q = lbK k ks := ⟨_, rfl⟩
  have hlt : Hid (hs1 = true → lb < es.length) := Lib.hid (fun hh => by rw [hhs] at hh; simp only [hasK, decide_eq_true_eq] at hh; rw [hlb]; omega)
  rw [← hhs, ← hlb] at hsr ⊢
  obtain ⟨ra, hra⟩ : ∃ ra, ra = (if hs1 = true then some (ds.getD lb 0) else none).getD 0 := ⟨_, rfl⟩
  obtain ⟨rb', hrb⟩ : ∃ rb' : Int, rb' = if (if hs1 = true then some (ds.getD lb 0) else none).isSome = true then 0 else 8 := ⟨_, rfl⟩
  rw [← hra, ← hrb]
  have HRA := Lib.hid hra
  have HRB := Lib.hid hrb
  clear hra hrb
  obtain ⟨m, hm⟩ : ∃ m, m = es.length := ⟨_, rfl⟩
  rw [← hm] at a2 a3 a6 a7 hlt hsr hkl hdl hl4
  obtain ⟨Kg, hKg⟩ : ∃ K, K = hi2.length := ⟨_, rfl⟩
  rw [← hKg] at a4
  have HC := Lib.hid hc
  have HL := Lib.hid hl
  have HSR := Lib.hid hsr
  have HK := Lib.hid hk
  have A7 := Lib.hid a7
  have hkb : keyB k = true := (keyB_iff k).2 hy
  have HDL := Lib.hid hdl
  clear hc hl hsr ht hs hr hk a6 a7 a8 g3 hlf hlook hwf hlfe hes hNN x1 x2 x3 hks hds hkl hdl hrise hhs hlb hm hKg hsm hy
  unfold maxLen at g2
  have hlf1 : (lf : Int) < (N : Int) := by omega
  go_enter Try.func13, Try.ntmps13
  go_wp2_with fail
  refine (HC.out _ (by go_grown)).mono ?_
  rintro e w1 ⟨rfl, hb1⟩
  have hB0 : Below w.heap.size w (w.alloc (.cells #[.slice (some ⟨b0, o0, none⟩) N cap, .int .i64 T.root] 24)) := by go_grown
  have t0 : (w.alloc (.cells #[.slice (some ⟨b0, o0, none⟩) N cap, .int .i64 T.root] 24)).cell? ⟨w.heap.size, 0, none⟩ = some (.slice (some ⟨b0, o0, none⟩) N cap) := by simp
  have t1 : (w.alloc (.cells #[.slice (some ⟨b0, o0, none⟩) N cap, .int .i64 T.root] 24)).cell? ⟨w.heap.size, 1, none⟩ = some (.int .i64 T.root) := by simp
  have t0' := cell_of_below hb1 t0
  have t1' := cell_of_below hb1 t1
  have hz1 := hb1.size
  simp only [World.size_alloc] at hz1
  have hB1 := into hB0 hb1
  have HB1 := Lib.hid hB1
  have y1 := cell_of_below hB1 a1
  have y2 := cell_of_below hB1 a2
  have y3 := cell_of_below hB1 a3
  have y4 := cell_of_below hB1 a4
  have y5 := cell_of_below hB1 a5
  have hzw : w.heap.size < w1.heap.size := by omega
  clear hb1 t0 t1 hB0 hB1 a1 a2 a3 a4 a5 hz1
  go_wp2_with (go_at_call 30; refine (isKey_any _ _ k (HK.out.below HB1.out).1).mono ?_; rintro e w' ⟨rfl, rfl⟩)
  have hbA := fun (C : Array Value) (T : TypeId) => (HB1.out.alloc HB1.out.size (.cells C T)).drew
  have HBA := Lib.hid hbA
  clear hbA
  have n1 : w1.heap.size ≠ w.heap.size := by omega
  have n2 : w1.heap.size ≠ b0 := by omega
  go_region_held3 (fun wx => wx.cell? ⟨w.heap.size, 0, none⟩ = some (.slice (some ⟨b0, o0, none⟩) N cap) ∧ wx.cell? ⟨w.heap.size, 1, none⟩ = some (.int .i64 T.root) ∧ wx.cell? ⟨b0, o0 + lf * 5, none⟩ = some (.bool true) ∧ wx.cell? ⟨b0, o0 + lf * 5 + 1, none⟩ = some (.slice ak m ck) ∧ wx.cell? ⟨b0, o0 + lf * 5 + 2, none⟩ = some (.slice ad m cd) ∧ wx.cell? ⟨b0, o0 + lf * 5 + 3, none⟩ = some (.slice ag Kg cg) ∧ wx.cell? ⟨b0, o0 + lf * 5 + 4, none⟩ = some (.int .i64 nx))
    ((first
      | (simp only [World.cell?_setCell_far, n1, n2, ne_eq, not_false_eq_true]; with_reducible exact ⟨cell_of_below hb2 (cell_dr (cell_al _ t0')), cell_of_below hb2 (cell_dr (cell_al _ t1')), cell_of_below hb2 (cell_dr (cell_al _ y1)), cell_of_below hb2 (cell_dr (cell_al _ y2)), cell_of_below hb2 (cell_dr (cell_al _ y3)), cell_of_below hb2 (cell_dr (cell_al _ y4)), cell_of_below hb2 (cell_dr (cell_al _ y5))⟩)
      | (with_reducible exact ⟨cell_al _ (cell_of_below hb2 (cell_dr t0')), cell_al _ (cell_of_below hb2 (cell_dr t1')), cell_al _ (cell_of_below hb2 (cell_dr y1)), cell_al _ (cell_of_below hb2 (cell_dr y2)), cell_al _ (cell_of_below hb2 (cell_dr y3)), cell_al _ (cell_of_below hb2 (cell_dr y4)), cell_al _ (cell_of_below hb2 (cell_dr y5))⟩)
      | (with_reducible exact ⟨cell_dr t0', cell_dr t1', cell_dr y1, cell_dr y2, cell_dr y3, cell_dr y4, cell_dr y5⟩)
      | (with_reducible exact ⟨cell_dr (cell_al _ t0'), cell_dr (cell_al _ t1'), cell_dr (cell_al _ y1), cell_dr (cell_al _ y2), cell_dr (cell_al _ y3), cell_dr (cell_al _ y4), cell_dr (cell_al _ y5)⟩)
      | (with_reducible exact ⟨cell_of_below hb2 (cell_dr t0'), cell_of_below hb2 (cell_dr t1'), cell_of_below hb2 (cell_dr y1), cell_of_below hb2 (cell_dr y2), cell_of_below hb2 (cell_dr y3), cell_of_below hb2 (cell_dr y4), cell_of_below hb2 (cell_dr y5)⟩)
      | (with_reducible exact ⟨cell_of_below hb2 (cell_dr (cell_al _ t0')), cell_of_below hb2 (cell_dr (cell_al _ t1')), cell_of_below hb2 (cell_dr (cell_al _ y1)), cell_of_below hb2 (cell_dr (cell_al _ y2)), cell_of_below hb2 (cell_dr (cell_al _ y3)), cell_of_below hb2 (cell_dr (cell_al _ y4)), cell_of_below hb2 (cell_dr (cell_al _ y5))⟩)))
    ((first
      | (go_at_call 23; ((with_reducible refine (HL.out w1.drew HB1.out.drew).mono ?_); rintro e w2 ⟨rfl, hb2⟩))
      | (go_at_call 23; ((with_reducible refine (HL.out _ (HBA.out _ _)).mono ?_); rintro e w2 ⟨rfl, hb2⟩); have hq := box5 (box_after hb2))))
  · rename_i K hK hHeld
    clear hHeld
    have h0 := into HB1.out.drew hb2
    have hBw := h0.alloc h0.size (.cells #[.bool true, .slice ak m ck, .slice ad m cd, .slice ag Kg cg, .int .i64 nx] 43)
    have c1 : (w2.alloc (.cells #[.bool true, .slice ak m ck, .slice ad m cd, .slice ag Kg cg, .int .i64 nx] 43)).cell? ⟨w2.heap.size, 1, none⟩ = some (.slice ak m ck) := by simp
    have c2 : (w2.alloc (.cells #[.bool true, .slice ak m ck, .slice ad m cd, .slice ag Kg cg, .int .i64 nx] 43)).cell? ⟨w2.heap.size, 2, none⟩ = some (.slice ad m cd) := by simp
    refine hK _ _ ?_
    revert hBw c1 c2
    generalize w2.alloc (.cells #[.bool true, .slice ak m ck, .slice ad m cd, .slice ag Kg cg, .int .i64 nx] 43) = W
    generalize w2.heap.size = B
    intro hBw c1 c2
    clear hK h0 hb2 t0' t1' y1 y2 y3 y4 y5 n1 n2 HBA HB1 HC HL
    obtain ⟨ao, cp, e1, e2, e3, e4⟩ := intsF A7.out
    rw [HDL.out] at e1 e2 e4
    simp only [Value.slice.injEq] at e1
    obtain ⟨rfl, -, rfl⟩ := e1
    have hra := HRA.out
    have hrb := HRB.out
    have hlt' := hlt.out
    have hHB := Lib.hid hBw
    have hHSR := HSR
    clear HRA HRB hlt A7 HDL HSR
    cases hs1 with
    | false =>
      clear e4
      simp only [Bool.false_eq_true, if_false, Option.getD_none, Option.isSome_none] at hra hrb
      subst hra hrb
      go_wp2_with (go_at_call 24; refine (hHSR.out _ hHB.out).mono ?_; rintro e w' ⟨rfl, rfl⟩)
      all_goals go_ret2
      all_goals exact two_of rfl rfl hHB.out
    | true =>
      have hlm := hlt' rfl
      obtain ⟨b, o, rfl, e6, e7, e8⟩ := e4 lb hlm
      have e9 := cell_of_below hBw e8
      clear e4 e8 e7 hlt'
      simp only [if_true, Option.getD_some, Option.isSome_some] at hra hrb
      subst hrb
      rw [← hra] at e9
      go_wp2_with (go_at_call 24; refine (hHSR.out _ hHB.out).mono ?_; rintro e w' ⟨rfl, rfl⟩)
      all_goals go_ret2
      all_goals exact two_of (by simpa using hra.symm) rfl hHB.out
  · rename_i K hK hHeld
    clear hHeld
    obtain ⟨q0, q1, q2, q3, q4, f0, f1, f2, f3, f4⟩ := hq
    have h1 : w.heap.size ≤ w1.heap.size := by omega
    have hBw := ((((((into (HBA.out _ _) hb2).setCell (p := ⟨w1.heap.size, 0, none⟩) h1 (.bool true)).setCell (p := ⟨w1.heap.size, 1, none⟩) h1 (.slice ak m ck)).setCell (p := ⟨w1.heap.size, 2, none⟩) h1 (.slice ad m cd)).setCell (p := ⟨w1.heap.size, 3, none⟩) h1 (.slice ag Kg cg)).setCell (p := ⟨w1.heap.size, 4, none⟩) h1 (.int .i64 nx))
    have c1 : (((((w2.setCell ⟨w1.heap.size, 0, none⟩ (.bool true)).setCell ⟨w1.heap.size, 1, none⟩ (.slice ak m ck)).setCell ⟨w1.heap.size, 2, none⟩ (.slice ad m cd)).setCell ⟨w1.heap.size, 3, none⟩ (.slice ag Kg cg)).setCell ⟨w1.heap.size, 4, none⟩ (.int .i64 nx)).cell? ⟨w1.heap.size, 1, none⟩ = some (.slice ak m ck) := (World.cell?_setCell_other _ _ _ _ (by simp)).trans ((World.cell?_setCell_other _ _ _ _ (by simp)).trans ((World.cell?_setCell_other _ _ _ _ (by simp)).trans (World.cell?_setCell_same' _ _ _ (by rw [((World.cell?_setCell_other _ _ _ _ (by simp)).trans q1)]; rfl))))
    have c2 : (((((w2.setCell ⟨w1.heap.size, 0, none⟩ (.bool true)).setCell ⟨w1.heap.size, 1, none⟩ (.slice ak m ck)).setCell ⟨w1.heap.size, 2, none⟩ (.slice ad m cd)).setCell ⟨w1.heap.size, 3, none⟩ (.slice ag Kg cg)).setCell ⟨w1.heap.size, 4, none⟩ (.int .i64 nx)).cell? ⟨w1.heap.size, 2, none⟩ = some (.slice ad m cd) := (World.cell?_setCell_other _ _ _ _ (by simp)).trans ((World.cell?_setCell_other _ _ _ _ (by simp)).trans (World.cell?_setCell_same' _ _ _ (by rw [((World.cell?_setCell_other _ _ _ _ (by simp)).trans ((World.cell?_setCell_other _ _ _ _ (by simp)).trans q2))]; rfl)))
    refine hK _ _ ?_
    clear hK
    revert hBw c1 c2
    generalize ((((w2.setCell ⟨w1.heap.size, 0, none⟩ (.bool true)).setCell ⟨w1.heap.size, 1, none⟩ (.slice ak m ck)).setCell ⟨w1.heap.size, 2, none⟩ (.slice ad m cd)).setCell ⟨w1.heap.size, 3, none⟩ (.slice ag Kg cg)).setCell ⟨w1.heap.size, 4, none⟩ (.int .i64 nx) = W
    clear hb2 q0 q1 q2 q3 q4 f0 f1 f2 f3 f4 HBA HB1 HC HL t0' t1' y1 y2 y3 y4 y5 n1 n2 h1 hzw
    generalize w1.heap.size = B
    intro hBw c1 c2
    obtain ⟨ao, cp, e1, e2, e3, e4⟩ := intsF A7.out
    rw [HDL.out] at e1 e2 e4
    simp only [Value.slice.injEq] at e1
    obtain ⟨rfl, -, rfl⟩ := e1
    have hra := HRA.out
    have hrb := HRB.out
    have hlt' := hlt.out
    have hHB := Lib.hid hBw
    have hHSR := HSR
    clear HRA HRB hlt A7 HDL HSR
    cases hs1 with
    | false =>
      clear e4
      simp only [Bool.false_eq_true, if_false, Option.getD_none, Option.isSome_none] at hra hrb
      subst hra hrb
      go_wp2_with (go_at_call 24; refine (hHSR.out _ hHB.out).mono ?_; rintro e w' ⟨rfl, rfl⟩)
      all_goals go_ret2
      all_goals exact two_of rfl rfl hHB.out
    | true =>
      have hlm := hlt' rfl
      obtain ⟨b, o, rfl, e6, e7, e8⟩ := e4 lb hlm
      have e9 := cell_of_below hBw e8
      clear e4 e8 e7 hlt'
      simp only [if_true, Option.getD_some, Option.isSome_some] at hra hrb
      subst hrb
      rw [← hra] at e9
      go_wp2_with (go_at_call 24; refine (hHSR.out _ hHB.out).mono ?_; rintro e w' ⟨rfl, rfl⟩)
      all_goals go_ret2
      all_goals exact two_of (by simpa using hra.symm) rfl hHB.out
end Go.Proofs.Ytahammkjkfdmhaa

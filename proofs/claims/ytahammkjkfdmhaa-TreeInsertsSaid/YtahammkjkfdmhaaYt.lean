/- A key put in: the document, and the program beside it. -/
import Derived.Test.YtahammkjkfdmhaaYr
import Derived.Test.YtahammkjkfdmhaaTb
import Derived.WalkSpells
namespace Go.Proofs.Ytahammkjkfdmhaa
open Go.ChangeShapes Go.WideShapes Go.ChangeAt Go.RowKit
set_option linter.unusedVariables false
set_option linter.unusedSimpArgs false
set_option maxHeartbeats 4000000
set_option maxRecDepth 1000000
/-- One page more. -/
theorem DT.push2 {w w5 : World} {BO O PB gg cap5 X : Nat} {cap : Nat} {ps : List Pg} {root : Int} {p : Pg} {k d h : Value} {vs : List Value} (hd1 : BO ≤ PB) (hd2 : BO ≤ O) (hd3 : PB ≠ O) (hB : BO ≤ w.heap.size)
    (h4 : w.heap[O]? = some (.cells #[.slice (some ⟨PB, 0, none⟩) ps.length cap, .int .i64 root] 24 (0, 0))) (h6 : RPs w (Gx w BO O PB) vs ps)
    (hp : RP w (Gx w BO O PB) [.bool p.leaf, k, d, h, .int .i64 p.next] p)
    (hrow : w5.ownsRow BO 43 5 (.slice (some ⟨gg, 0, none⟩) (ps.length + 1) cap5) (ps.length + 1) (vs ++ [.bool p.leaf, k, d, h, .int .i64 p.next])) (hg : w.grownBy w5 (some PB)) (hat : gg = PB ∨ gg = w.heap.size + 1) :
    DT (w5.setCell ⟨O, 0, none⟩ (.slice (some ⟨gg, 0, none⟩) (ps.length + 1) cap5)) BO O gg (ps ++ [p]) root := by
  have hO := (Array.getElem?_eq_some_iff.1 h4).1
  have hz := hg.size
  have hne : gg ≠ O := by rcases hat with rfl | rfl <;> omega
  have hO5 : w5.heap[O]? = some (.cells #[.slice (some ⟨PB, 0, none⟩) ps.length cap, .int .i64 root] 24 (0, 0)) := (hg.block O (by omega) (fun e => hd3 (Option.some.inj e).symm)).trans h4
  have hold : ∀ b, b < w.heap.size → b ≠ PB → b ≠ O → (w5.setCell ⟨O, 0, none⟩ (.slice (some ⟨gg, 0, none⟩) (ps.length + 1) cap5)).heap[b]? = w.heap[b]? := fun b h1 h2 h3 =>
    (Below.heap_setCell _ _ _ _ h3).trans (hg.block b (by omega) (fun e => h2 (Option.some.inj e)))
  refine ⟨by rcases hat with rfl | rfl <;> omega, hd2, hne, cap5, vs ++ [.bool p.leaf, k, d, h, .int .i64 p.next], ?_, ?_, RPs.snoc (cs := [.bool p.leaf, k, d, h, .int .i64 p.next]) ?_ (hp.to (fun b g hlt => hold b hlt g.2.2.1 g.2.2.2) fun b g => ?_) rfl⟩
  · rw [List.length_append, List.length_singleton, Lib.heap_setCell_same hO5]; rfl
  · rw [List.length_append, List.length_singleton]
    exact own_far hrow fun b hb => by
      have hb' := own_eq hb
      subst hb'
      exact Below.heap_setCell _ _ _ _ hne
  · refine RPs.mono (h6.agree fun b g hlt => hold b hlt g.2.2.1 g.2.2.2) fun b g => ⟨g.1, by have := g.2.1; simp; omega, ?_, g.2.2.2⟩
    rcases hat with rfl | rfl
    · exact g.2.2.1
    · have := g.2.1; omega
  · refine ⟨g.1, by have := g.2.1; simp; omega, ?_, g.2.2.2⟩
    rcases hat with rfl | rfl
    · exact g.2.2.1
    · have := g.2.1; omega
/-- A tree and a fault, as the two results of a call. -/
def TreeR (G : Tr) (c : Int) (w : World) (e : Ending) (w' : World) : Prop := ∃ a n cc, e = .returned (.tuple #[.agg #[.slice a n cc, .int .i64 G.root], .int .i64 c]) ∧ RT w' (fun b => w.heap.size ≤ b) (.agg #[.slice a n cc, .int .i64 G.root]) G ∧ Below w.heap.size w w'
theorem noTr_rt (w : World) (ok : Nat → Prop) : RT w ok (.agg #[.slice none 0 0, .int .i64 0]) noTr := ⟨_, [], rfl, Rd.nil w 5, fun a n c h hn => by (cases h), ⟨rfl, fun i p h => by simp [noTr] at h⟩⟩
theorem NoIs.r {c : Int} {w : World} {e : Ending} {w' : World} (h : NoIs c w e w') : TreeR noTr c w e w' := ⟨none, 0, 0, h.1, noTr_rt _ _, h.2⟩
theorem kw_one {α : Type} {W : Key → Key → α → Prop} {lo hi : Key} {c : α} {l : List (Key × α)} (h : kwT W lo hi c l) : ∃ lo' hi', W lo' hi' c := by
  rcases l with _ | ⟨⟨s, d⟩, r⟩
  · exact ⟨lo, hi, h⟩
  · exact ⟨lo, s, h.1⟩
theorem pow_ids : ∀ (h : Nat) (lo hi : Key) (t : Tb h), wfT h lo hi t → 2 ^ (h + 1) ≤ (idsT h t).length + 1
  | 0, lo, hi, t, _ => by simp [idsT]
  | h + 1, lo, hi, t, hw => by
    obtain ⟨h1, h2, h3⟩ := hw
    obtain ⟨i, c, l⟩ := t
    simp only at h1 h2 h3
    rcases l with _ | ⟨⟨s, d⟩, r⟩
    · simp at h1
    · obtain ⟨g1, g2, g3, g4, g5⟩ := h3
      obtain ⟨lo', hi', g6⟩ := kw_one g5
      have a1 := pow_ids h _ _ c g1
      have a2 := pow_ids h _ _ d g6
      show 2 ^ (h + 1 + 1) ≤ (i :: (idsT h c ++ (((s, d) :: r).map fun x => idsT h x.2).flatten)).length + 1
      simp only [List.length_cons, List.length_append, List.map_cons, List.flatten_cons]
      rw [Nat.pow_succ]
      omega
theorem tall {T : Tr} {h : Nat} {t : Tb h} (hr : Reps T h t) (hN : T.pages.length ≤ 4000) : h ≤ 12 := by
  have h1 := pow_ids h [] [] t hr.2.2.1
  rw [hr.2.2.2.length_eq, List.length_range] at h1
  by_cases hh : h ≤ 12
  · exact hh
  · have h2 : 2 ^ 14 ≤ 2 ^ (h + 1) := Nat.pow_le_pow_right (by omega) (by omega)
    omega
theorem cpy_of {T : Tr} {h : Nat} {t : Tb h} (hr : Reps T h t) (hN : T.pages.length ≤ 5000) : Cpy T := by
  have hp := (reps_pass hr).page
  refine ⟨by omega, fun p hm => ?_⟩
  have h1 := (hp p hm).keys
  have h2 := (hp p hm).high
  have h3 := (hp p hm).kids
  refine ⟨by omega, fun k hk => by have := ((hp p hm).okk k hk).1.2; omega, ?_, by omega⟩
  split at h3 <;> omega
theorem DT.rt {w : World} {BO O PB : Nat} {ps : List Pg} {root : Int} (h : DT w BO O PB ps root) : ∃ cap, w.heap[O]? = some (.cells #[.slice (some ⟨PB, 0, none⟩) ps.length cap, .int .i64 root] 24 (0, 0)) ∧ RT w (fun b => BO ≤ b ∧ b < w.heap.size) (.agg #[.slice (some ⟨PB, 0, none⟩) ps.length cap, .int .i64 root]) ⟨ps, root⟩ := by
  obtain ⟨h1, h2, h3, cap, vs, h4, h5, h6⟩ := h
  exact ⟨cap, h4, _, vs, rfl, Rd.own h5, fun a n c e _ => by (cases e; exact ⟨h1, (h5.lt PB rfl).2⟩), RPs.mono h6 fun b g => ⟨g.1, g.2.1⟩⟩
theorem DT.root {w : World} {BO O PB : Nat} {ps : List Pg} {root r2 : Int} (h : DT w BO O PB ps root) : DT (w.setCell ⟨O, 1, none⟩ (.int .i64 r2)) BO O PB ps r2 := by
  obtain ⟨h1, h2, h3, cap, vs, h4, h5, h6⟩ := h
  refine ⟨h1, h2, h3, cap, vs, by rw [Lib.heap_setCell_same h4]; rfl, own_far h5 fun b hb => ?_, RPs.mono (h6.agree fun b g _ => Below.heap_setCell _ _ _ _ g.2.2.2) fun b g => ⟨g.1, by simp; exact g.2.1, g.2.2⟩⟩
  have hb' := own_eq hb
  subst hb'
  exact Below.heap_setCell _ _ _ _ h3
theorem inserted_no (w : World) (ok : Nat → Prop) (hok : ∀ b, ok b → b < w.heap.size) (tv kv : Value) (T : Tr) (k : Key) (row : Int) (ht : RT w ok tv T) (hk : Rd w 1 k.length kv (bc k)) (hrr : Rng T.root) (c : Int)
    (hc : (tkT T k ≠ 0 ∧ c = tkT T k) ∨ (tkT T k = 0 ∧ row < 0 ∧ c = 3) ∨ (tkT T k = 0 ∧ 0 ≤ row ∧ (findT T k).2 = 0 ∧ c = 9)) :
    Calls Try.prog 8 #[tv, kv, .int .i64 row] w (NoIs c w) := by
  obtain ⟨ao, n, cap, rfl⟩ := rt_shape ht
  obtain ⟨W0, hW0⟩ : ∃ W0 : World, W0 = (w.alloc (.cells #[.slice ao n cap, .int .i64 T.root] 24)).alloc (.cells #[.slice none 0 0, .int .i64 0] 24) := ⟨_, rfl⟩
  have hb0 : Below w.heap.size w W0 := by rw [hW0]; exact ((Below.refl _ _).alloc (Nat.le_refl _) _).alloc (by simp) _
  have hx : W0.heap[w.heap.size]? = some (.cells #[.slice ao n cap, .int .i64 T.root] 24 (0, 0)) := by rw [hW0]; exact (((Below.refl _ _).alloc (Nat.le_refl _) _).block _ (by simp)).trans (new0 _ _)
  have hy : W0.heap[w.heap.size + 1]? = some (.cells #[.slice none 0 0, .int .i64 0] 24 (0, 0)) := by rw [hW0]; have := new0 (w.alloc (.cells #[.slice ao n cap, .int .i64 T.root] 24)) (.cells #[.slice none 0 0, .int .i64 0] 24); rwa [World.size_alloc] at this
  have hz0 : W0.heap.size = w.heap.size + 2 := by rw [hW0]; simp
  have htk := treeKey_any W0 ok (fun b hb' => by have := hok b hb'; have := hb0.size; omega) _ kv T k (ht.below hb0) (hk.below hb0) hrr
  have hfd : ∀ W, Below w.heap.size w W → Calls Try.prog 20 #[.agg #[.slice ao n cap, .int .i64 T.root], kv] W (Two (findT T k).1 (findT T k).2 W) := fun W hW => found_any W ok (fun b hb' => by have := hok b hb'; have := hW.size; omega) _ kv T k (ht.below hW) (hk.below hW) hrr
  obtain ⟨q, hq⟩ : ∃ q, q = tkT T k := ⟨_, rfl⟩
  obtain ⟨f1, hf1⟩ : ∃ f, f = (findT T k).1 := ⟨_, rfl⟩
  obtain ⟨f2, hf2⟩ : ∃ f, f = (findT T k).2 := ⟨_, rfl⟩
  rw [← hq] at htk hc
  rw [← hf1, ← hf2] at hfd
  rw [← hf2] at hc
  have HW0 := Lib.hid hW0
  have HTK := Lib.hid htk
  have HFD := Lib.hid hfd
  have HX := Lib.hid hx
  have HY := Lib.hid hy
  have HB0 := Lib.hid hb0
  clear hW0 htk hfd ht hk hq hf1 hf2 hx hy hb0
  rcases hc with ⟨h0, rfl⟩ | ⟨rfl, h1, rfl⟩ | ⟨rfl, h1, rfl, rfl⟩
  · have h0' : (c == 0) = false := beq_eq_false_iff_ne.2 h0
    have h0'' : (c != 0) = true := bne_iff_ne.2 h0
    go_enter Try.func8, Try.ntmps8
    go_wp2_with fail
    rw [← HW0.out]
    refine HTK.out.mono ?_
    rintro e w1 ⟨rfl, hb1⟩
    have HB := Lib.hid (into HB0.out hb1)
    obtain ⟨y0, y1, yf0, yf1⟩ := box2 ((hb1.block _ (Array.getElem?_eq_some_iff.1 HY.out).1).trans HY.out)
    clear hb1
    go_wp2_with fail
    obtain ⟨q0, q1⟩ := box2_two (x := .slice none 0 0) (y := .int .i64 0) y0 y1
    refine bodyPost_ret (v := .tuple #[.agg #[.slice none 0 0, .int .i64 0], .int .i64 c]) (by simp [results, Try.results8, go_sem, q0, q1]; try rfl) rfl ?_
    exact ⟨rfl, (HB.out.setCell (by show w.heap.size ≤ w.heap.size + 1; omega) _).setCell (by show w.heap.size ≤ w.heap.size + 1; omega) _⟩
  · go_enter Try.func8, Try.ntmps8
    go_wp2_with fail
    rw [← HW0.out]
    refine HTK.out.mono ?_
    rintro e w1 ⟨rfl, hb1⟩
    have HB := Lib.hid (into HB0.out hb1)
    obtain ⟨y0, y1, yf0, yf1⟩ := box2 ((hb1.block _ (Array.getElem?_eq_some_iff.1 HY.out).1).trans HY.out)
    clear hb1
    go_wp2_with fail
    obtain ⟨q0, q1⟩ := box2_two (x := .slice none 0 0) (y := .int .i64 0) y0 y1
    refine bodyPost_ret (v := .tuple #[.agg #[.slice none 0 0, .int .i64 0], .int .i64 3]) (by simp [results, Try.results8, go_sem, q0, q1]; try rfl) rfl ?_
    exact ⟨rfl, (HB.out.setCell (by show w.heap.size ≤ w.heap.size + 1; omega) _).setCell (by show w.heap.size ≤ w.heap.size + 1; omega) _⟩
  · have h2 : ¬ row < 0 := by omega
    go_enter Try.func8, Try.ntmps8
    go_wp2_with fail
    rw [← HW0.out]
    refine HTK.out.mono ?_
    rintro e w1 ⟨rfl, hb1⟩
    have HB := Lib.hid (into HB0.out hb1)
    have HY1 := Lib.hid ((hb1.block _ (Array.getElem?_eq_some_iff.1 HY.out).1).trans HY.out)
    obtain ⟨x0, x1, -, -⟩ := box2 ((hb1.block _ (Array.getElem?_eq_some_iff.1 HX.out).1).trans HX.out)
    clear hb1
    go_wp2_with fail
    refine (HFD.out w1 HB.out).mono ?_
    intro e w2 hw
    unfold Two at hw
    obtain ⟨rfl, hb2⟩ := hw
    have HB2 := Lib.hid (into HB.out hb2)
    obtain ⟨y0, y1, yf0, yf1⟩ := box2 ((hb2.block _ (Array.getElem?_eq_some_iff.1 HY1.out).1).trans HY1.out)
    clear hb2
    go_wp2_with fail
    obtain ⟨q0, q1⟩ := box2_two (x := .slice none 0 0) (y := .int .i64 0) y0 y1
    refine bodyPost_ret (v := .tuple #[.agg #[.slice none 0 0, .int .i64 0], .int .i64 9]) (by simp [results, Try.results8, go_sem, q0, q1]; try rfl) rfl ?_
    exact ⟨rfl, (HB2.out.setCell (by show w.heap.size ≤ w.heap.size + 1; omega) _).setCell (by show w.heap.size ≤ w.heap.size + 1; omega) _⟩
theorem two_farX {W : World} {B c : Nat} {a b : Value} (h : c ≠ B) : ((W.setCell ⟨B, 0, none⟩ a).setCell ⟨B, 1, none⟩ b).heap[c]? = W.heap[c]? := by rw [Below.heap_setCell _ _ _ _ h, Below.heap_setCell _ _ _ _ h]
/-- What putting in answers: the tree, or that it is full. -/
def InsR (G : Tr) (w : World) (e : Ending) (w' : World) : Prop := (G.pages.length ≤ 4000 ∧ TreeR G 0 w e w') ∨ (4000 < G.pages.length ∧ NoIs 10 w e w')
theorem inserted_any (w : World) (ok : Nat → Prop) (hok : ∀ b, ok b → b < w.heap.size) (tv kv : Value) (T : Tr) (k : Key) (row : Int) (h : Nat) (t : Tb h) (ht : RT w ok tv T) (ok1 : Nat → Prop) (hk : RB w ok1 kv k) (hrr : Rng T.root) (hcp : Cpy T) (h0 : tkT T k = 0) (hy : okK k) (hv : 0 ≤ row)
    (hr : Reps T h t) (hNs : T.pages.length ≤ 4000) (hne : ∀ e ∈ entT h t, e.1 ≠ k) (hfd : (findT T k).2 = 8) :
    Calls Try.prog 8 #[tv, kv, .int .i64 row] w (InsR (insTr T h k row) w) := by
  obtain ⟨hI, tI, hrI, -, -, hlI⟩ := insTr_good hr hy hv hne
  have htall := tall hr hNs
  have hcpI : Cpy (insTr T h k row) := cpy_of hrI (by omega)
  have hokp : ∀ p ∈ T.pages, OkPg p 4000 := fun p hp => by
    have h9 := (reps_pass hr).page p hp
    exact ⟨h9.keys, h9.high, ⟨h9.next.1, by have := h9.next.2; omega⟩, h9.last, h9.kids, h9.some, h9.okk, h9.rise, fun c hc => ⟨(h9.kid c hc).1, fun hl => by have := (h9.kid c hc).2 hl; omega⟩⟩
  have hway := way_of h T.pages [] [] t k hr.2.1
  have hroot := hr.1
  have hposN : 0 < T.pages.length := by have h2 := hr.lt _ (leaf_mem h t k); omega
  obtain ⟨ao, N, cap, rfl⟩ := rt_shape ht
  have hkl := hk.lt
  obtain ⟨W0, hW0⟩ : ∃ W0 : World, W0 = (w.alloc (.cells #[.slice ao N cap, .int .i64 T.root] 24)).alloc (.cells #[.slice none 0 0, .int .i64 0] 24) := ⟨_, rfl⟩
  have hb0 : Below w.heap.size w W0 := by rw [hW0]; exact ((Below.refl _ _).alloc (Nat.le_refl _) _).alloc (by simp) _
  have hx : W0.heap[w.heap.size]? = some (.cells #[.slice ao N cap, .int .i64 T.root] 24 (0, 0)) := by rw [hW0]; exact (((Below.refl _ _).alloc (Nat.le_refl _) _).block _ (by simp)).trans (new0 _ _)
  have hyy : W0.heap[w.heap.size + 1]? = some (.cells #[.slice none 0 0, .int .i64 0] 24 (0, 0)) := by rw [hW0]; have := new0 (w.alloc (.cells #[.slice ao N cap, .int .i64 T.root] 24)) (.cells #[.slice none 0 0, .int .i64 0] 24); rwa [World.size_alloc] at this
  have hz0 : W0.heap.size = w.heap.size + 2 := by rw [hW0]; simp
  have htk := treeKey_any W0 ok (fun b hb' => by have := hok b hb'; omega) _ kv T k (ht.below hb0) (hk.below hb0).1 hrr
  rw [h0] at htk
  have hfdc : ∀ W, Below w.heap.size w W → Calls Try.prog 20 #[.agg #[.slice ao N cap, .int .i64 T.root], kv] W (Two (findT T k).1 8 W) := fun W hW => by
    have := found_any W ok (fun b hb' => by have := hok b hb'; have := hW.size; omega) _ kv T k (ht.below hW) (hk.below hW).1 hrr
    rw [hfd] at this
    exact this
  obtain ⟨f1, hf1⟩ : ∃ f, f = (findT T k).1 := ⟨_, rfl⟩
  rw [← hf1] at hfdc
  obtain ⟨rt0, hrt0⟩ : ∃ r, r = idT h t := ⟨_, rfl⟩
  rw [← hrt0] at hway hroot
  rw [hroot] at hx hfdc htk hW0 ⊢
  have HT := Lib.hid (show RT w ok (.agg #[.slice ao N cap, .int .i64 (rt0 : Int)]) T by rw [← hroot]; exact ht)
  have HW0 := Lib.hid hW0
  have HTK := Lib.hid htk
  have HFD := Lib.hid hfdc
  have HX := Lib.hid hx
  have HY := Lib.hid hyy
  have HB0 := Lib.hid hb0
  have HK := Lib.hid hkl
  have HC := Lib.hid (And.intro hcp hcpI)
  have HWAY := Lib.hid hway
  have HOKP := Lib.hid hokp
  have HY2 := Lib.hid hy
  have HRT := Lib.hid hroot
  have h2 : ¬ row < 0 := by omega
  have qN := fun (w : World) (a : Option Addr) (n c : Nat) => run_neq_slice_nil_any (P := Try.prog) w 25 5 a n c 0 0 Try.underlying25
  clear hW0 htk hfdc ht hk hf1 hx hyy hb0 hkl hcp hcpI hway hokp hroot hrt0 hrI hr hne hfd h0
  go_enter Try.func8, Try.ntmps8
  go_wp2_with fail
  rw [← HW0.out]
  refine HTK.out.mono ?_
  rintro e w1 ⟨rfl, hb1⟩
  have HB := Lib.hid (into HB0.out hb1)
  have hz1 := hb1.size
  have HX1 := Lib.hid ((hb1.block _ (Array.getElem?_eq_some_iff.1 HX.out).1).trans HX.out)
  have HY1 := Lib.hid ((hb1.block _ (Array.getElem?_eq_some_iff.1 HY.out).1).trans HY.out)
  obtain ⟨x0, x1, -, -⟩ := box2 HX1.out
  clear hb1
  go_wp2_with fail
  refine (HFD.out w1 HB.out).mono ?_
  intro e w2 hw
  unfold Two at hw
  obtain ⟨rfl, hb2⟩ := hw
  have HB2 := Lib.hid (into HB.out hb2)
  have hz2 := hb2.size
  have HX2 := Lib.hid ((hb2.block _ (Array.getElem?_eq_some_iff.1 HX1.out).1).trans HX1.out)
  have HY2' := Lib.hid ((hb2.block _ (Array.getElem?_eq_some_iff.1 HY1.out).1).trans HY1.out)
  clear x0 x1 hb2
  obtain ⟨x0, x1, -, -⟩ := box2 HX2.out
  go_wp2_with fail
  refine (treeCopy_own w2 ok (fun b hb' => by have := hok b hb'; omega) _ T (HT.out.below HB2.out) HC.out.1).mono ?_
  rintro e w3 ⟨v3, BO, rfl, hB1, hB2, hctr, hb3⟩
  obtain ⟨a3, c3, vs, rfl, hown, hps⟩ := hctr
  rw [HRT.out]
  obtain ⟨PB, hPB, rfl⟩ : ∃ PB, BO ≤ PB ∧ a3 = some ⟨PB, 0, none⟩ := by
    rcases hown with ⟨-, ⟨-, h0⟩ | ⟨g, _, _, h2, h3, -⟩⟩
    · omega
    · simp only [Value.slice.injEq] at h2
      exact ⟨g, h3, h2.1⟩
  have hPB2 := (hown.lt PB rfl).2
  have hz3 := hb3.size
  obtain ⟨O, hO⟩ : ∃ O, O = w3.heap.size := ⟨_, rfl⟩
  obtain ⟨W3, hW3⟩ : ∃ W3 : World, W3 = w3.alloc (.cells #[.slice (some ⟨PB, 0, none⟩) T.pages.length c3, .int .i64 (rt0 : Int)] 24) := ⟨_, rfl⟩
  have hb4 : Below w3.heap.size w3 W3 := by rw [hW3]; exact (Below.refl _ _).alloc (Nat.le_refl _) _
  have hO3 : W3.heap[O]? = some (.cells #[.slice (some ⟨PB, 0, none⟩) T.pages.length c3, .int .i64 (rt0 : Int)] 24 (0, 0)) := by rw [hW3, hO]; exact new0 _ _
  have hzW : W3.heap.size = O + 1 := by rw [hW3, hO]; simp
  have hO1 : w3.heap.size ≤ O ∧ O ≤ w3.heap.size := by omega
  have HB3 := Lib.hid (into (into HB2.out hb3) hb4)
  have HX3 := Lib.hid ((hb4.block w.heap.size (by omega)).trans ((hb3.block w.heap.size (by omega)).trans HX2.out))
  have HY3 := Lib.hid ((hb4.block (w.heap.size + 1) (by omega)).trans ((hb3.block (w.heap.size + 1) (by omega)).trans HY2'.out))
  have HDT : Hid (DT W3 BO O PB T.pages (rt0 : Int)) := Lib.hid ⟨hPB, by omega, by omega, c3, vs, hO3, own_below hown hb4, RPs.mono (hps.agree (Agree.below hb4 _)) fun b g => ⟨g.1, by have := g.2.1; omega, fun e => g.2.2 (by rw [e]; rfl), by have := g.2.1; omega⟩⟩
  have hkw : RB W3 (fun b => b < BO) kv k := RB.mono (HK.out.below HB3.out) fun b g => (by have := g.2; omega : b < BO)
  have HAD := Lib.hid (added_any h W3 BO O PB (rt0 : Int) T.pages rt0 k row kv HDT.out HWAY.out HOKP.out HY2.out hkw (by omega))
  obtain ⟨o0, o1, -, -⟩ := box2I hO3
  have HW3 := Lib.hid (And.intro hW3 hO)
  clear hb3 hb4 hown hps hO3 hW3 hO hkw x0 x1 o0 o1
  go_wp2_with fail
  rw [← HW3.out.1, ← HW3.out.2]
  refine HAD.out.mono ?_
  rintro e w4 ⟨v8, v9, rfl, hadd⟩
  have hBOz : w.heap.size + 5 ≤ BO := by omega
  rcases hY : addP h T.pages rt0 k row with ⟨ps1, _ | ⟨up, rt⟩⟩
  · have hG : insTr T h k row = ⟨ps1, (rt0 : Int)⟩ := by
      unfold insTr
      rw [HRT.out, Int.toNat_natCast, hY]
    rw [hY] at hadd
    obtain ⟨PB', f1, f2, f3, f4, f5, f6, f7, f8, -⟩ := hadd
    obtain ⟨rfl, rfl⟩ := f8 rfl
    have HG := Lib.hid hG
    have HDz := Lib.hid f1
    have HYz := Lib.hid ((f7 (w.heap.size + 1) (by omega) (by omega) (by omega)).trans HY3.out)
    have HBz : Hid (Below w.heap.size w w4) := Lib.hid ⟨f4.trans HB3.out.os, f5.trans HB3.out.tape, f6.trans HB3.out.output, by have := HB3.out.size; omega, fun b hb => (f7 b (by omega) (by omega) (by omega)).trans (HB3.out.block b hb)⟩
    clear f1 f2 f4 f5 f6 f7 f8 hG hY HAD
    have hRb := HYz.out
    obtain ⟨y0, y1, yf0, yf1⟩ := box2I hRb
    obtain ⟨capz, hOz, hrtz⟩ := HDz.out.rt
    obtain ⟨z0, z1, -, -⟩ := box2I hOz
    obtain ⟨np, hnp⟩ : ∃ n, n = (ps1).length := ⟨_, rfl⟩
    rw [← hnp] at hOz hrtz z0
    have HNP := Lib.hid hnp
    have HRTZ := Lib.hid hrtz
    clear hRb hOz hrtz hnp
    by_cases hfull : 4000 < np
    · have hf1 : (4000 : Int) < (np : Int) := by omega
      go_wp2_with fail
      obtain ⟨q0, q1⟩ := box2_two (x := .slice none 0 0) (y := .int .i64 0) y0 y1
      (try simp (config := {zetaDelta := true}) only [Exit.inBlock, Exit.then])
      refine bodyPost_ret (v := .tuple #[.agg #[.slice none 0 0, .int .i64 0], .int .i64 10]) (by simp [results, Try.results8, go_sem, q0, q1]; try rfl) rfl ?_
      rw [HG.out]
      exact .inr ⟨by show 4000 < List.length _; rw [← HNP.out]; exact hfull, rfl, (HBz.out.setCell (by show w.heap.size ≤ w.heap.size + 1; omega) _).setCell (by show w.heap.size ≤ w.heap.size + 1; omega) _⟩
    · have hf1 : ¬ (4000 : Int) < (np : Int) := by omega
      have hcz : Cpy ⟨ps1, (rt0 : Int)⟩ := by have h9 := HC.out.2; rw [HG.out] at h9; exact h9
      have htc := treeCopy_any w4 (fun b => BO ≤ b ∧ b < w4.heap.size) (fun b hb => hb.2) _ ⟨ps1, (rt0 : Int)⟩ (by have h9 := HRTZ.out; exact h9) hcz
      have HTC := Lib.hid htc
      clear hcz htc
      go_wp2_with fail
      refine HTC.out.mono ?_
      rintro e w9 ⟨v9, rfl, hr9, hb9⟩
      obtain ⟨a9, n9, c9, rfl⟩ := rt_shape hr9
      have HB9 := Lib.hid (into HBz.out hb9)
      have hY9 := (hb9.block _ (Array.getElem?_eq_some_iff.1 HYz.out).1).trans HYz.out
      have HR9 := Lib.hid hr9
      have hz9 := hb9.size
      clear y0 y1 yf0 yf1 z0 z1 hb9 hr9
      obtain ⟨y0, y1, yf0, yf1⟩ := box2I hY9
      have HBS := HBz.out.size
      go_wp2_with fail
      obtain ⟨q0, q1⟩ := box2_two (x := .slice a9 n9 c9) (y := .int .i64 ((rt0 : Int))) y0 y1
      (try simp (config := {zetaDelta := true}) only [Exit.inBlock, Exit.then])
      refine bodyPost_ret (v := .tuple #[.agg #[.slice a9 n9 c9, .int .i64 ((rt0 : Int))], .int .i64 0]) (by simp [results, Try.results8, go_sem, q0, q1]; try rfl) rfl ?_
      rw [HG.out]
      refine .inl ⟨by show List.length _ ≤ 4000; rw [← HNP.out]; omega, _, _, _, rfl, ?_, (HB9.out.setCell (by show w.heap.size ≤ w.heap.size + 1; omega) _).setCell (by show w.heap.size ≤ w.heap.size + 1; omega) _⟩
      refine RT.mono (HR9.out.agree fun b g _ => two_farX (by have := g.1; omega)) fun b g => ?_
      have := g.1
      omega
  · have hG : insTr T h k row = ⟨ps1 ++ [⟨false, [up], [(rt0 : Int), (rt : Int)], [], -1⟩], (ps1.length : Int)⟩ := by
      unfold insTr
      rw [HRT.out, Int.toNat_natCast, hY]
    have hup : okK up := up_ok h T.pages rt0 k row (fun p hp s hs => ((HOKP.out p hp).okk s hs).1) HY2.out up rt (by rw [hY])
    have hle := addP_len h T.pages rt0 k row
    rw [hY] at hadd hle
    obtain ⟨PB', f1, f2, f3, f4, f5, f6, f7, -, f9⟩ := hadd
    obtain ⟨⟨ub, uo, ut⟩, uc, rfl, rfl, hup2⟩ := f9 up rt rfl
    have HG := Lib.hid hG
    have HD4 := Lib.hid f1
    have HY4 := Lib.hid ((f7 (w.heap.size + 1) (by omega) (by omega) (by omega)).trans HY3.out)
    have HB4 : Hid (Below w.heap.size w w4) := Lib.hid ⟨f4.trans HB3.out.os, f5.trans HB3.out.tape, f6.trans HB3.out.output, by have := HB3.out.size; omega, fun b hb => (f7 b (by omega) (by omega) (by omega)).trans (HB3.out.block b hb)⟩
    have HUP := Lib.hid hup2
    simp only at hle f1
    obtain ⟨d1, d2, d3, cap4, vs4, hO4, hown4, hps4⟩ := f1
    have hPB4 := (hown4.lt PB' rfl).2
    have hO4l := (Array.getElem?_eq_some_iff.1 hO4).1
    obtain ⟨np1, hnp1⟩ : ∃ n, n = ps1.length := ⟨_, rfl⟩
    obtain ⟨nu, hnu⟩ : ∃ n, n = up.length := ⟨_, rfl⟩
    rw [← hnp1] at hO4 hown4 hle
    rw [← hnu]
    obtain ⟨o0, o1, of0, of1⟩ := box2I hO4
    obtain ⟨W6, hW6⟩ : ∃ W6 : World, W6 = (w4.alloc (.cells #[.slice (some ⟨ub, uo, ut⟩) nu uc] 25)).alloc (.cells #[.int .i64 (rt0 : Int), .int .i64 (rt : Int)] 3) := ⟨_, rfl⟩
    have hb6 : Below w4.heap.size w4 W6 := by rw [hW6]; exact ((Below.refl _ _).alloc (Nat.le_refl _) _).alloc (by simp) _
    have hz6 : W6.heap.size = w4.heap.size + 2 := by rw [hW6]; simp
    have hX1 : W6.heap[w4.heap.size]? = some (.cells #[.slice (some ⟨ub, uo, ut⟩) nu uc] 25 (0, 0)) := by rw [hW6]; exact (((Below.refl _ _).alloc (Nat.le_refl _) _).block _ (by simp)).trans (new0 _ _)
    have hX2 : W6.heap[w4.heap.size + 1]? = some (.cells #[.int .i64 (rt0 : Int), .int .i64 (rt : Int)] 3 (0, 0)) := by rw [hW6]; have := new0 (w4.alloc (.cells #[.slice (some ⟨ub, uo, ut⟩) nu uc] 25)) (.cells #[.int .i64 (rt0 : Int), .int .i64 (rt : Int)] 3); rwa [World.size_alloc] at this
    have hO6 := (hb6.block O hO4l).trans hO4
    have HO6 := Lib.hid hO6
    have HOWN6 := Lib.hid (own_below hown4 hb6)
    have HPS6 := Lib.hid (hps4.agree (Agree.below hb6 _))
    have HX12 := Lib.hid (And.intro hX1 hX2)
    have HB6 := Lib.hid hb6
    have HW6 := Lib.hid hW6
    have HNP1 := Lib.hid (And.intro hnp1 hnu)
    have HUK := Lib.hid hup
    clear f2 f4 f5 f6 f7 f9 hG hY HAD hO4 hown4 hps4 hb6 hX1 hX2 hO6 hnp1 hup2 hnu hup
    go_upto_region 13 with (at_builtin; rw [← HW6.out]; refine apx W6 1 rfl (.tmp 49) (.tmp 57) 22 43 _ 5 88 Try.underlying22 infoI_pg rfl (by omega) rfl HOWN6.out (by omega) (by omega) (by unfold maxLen; omega) [.bool false, .slice (some ⟨w4.heap.size, 0, none⟩) 1 1, .slice (some ⟨w4.heap.size + 1, 0, none⟩) 2 2, .slice none 0 0, .int .i64 (-1)] rfl (by simp [Value.oneCell']) (w4.heap.size + 1 + 1) (by omega) rfl rfl ?_; intro v7 w7 h7own h7b h7g h7at; obtain ⟨_, a7, c7, rfl, _⟩ := Rd.own h7own; have z7 := h7b.size; have hO7 := Lib.hid ((h7g.block O (by omega) (fun e => d3 (by have : O = PB' := Option.some.inj e; omega))).trans HO6.out); obtain ⟨s0, s1, sf0, sf1⟩ := box2I hO7.out; have H7O := Lib.hid h7own; have H7G := Lib.hid h7g; have H7A := Lib.hid h7at; clear h7own h7b h7g h7at)
    obtain ⟨gg, rfl⟩ : ∃ gg, a7 = some ⟨gg, 0, none⟩ := by
      rcases H7O.out with ⟨-, ⟨-, h0⟩ | ⟨g, _, _, h2, -⟩⟩
      · omega
      · simp only [Value.slice.injEq] at h2
        exact ⟨g, h2.1⟩
    have hg6 : ∀ b, Gx w4 BO O PB' b → Gx W6 BO O PB' b := fun b g => ⟨g.1, by have := g.2.1; omega, g.2.2⟩
    have hrp : RP W6 (Gx W6 BO O PB') [.bool (⟨false, [up], [(rt0 : Int), (rt : Int)], [], -1⟩ : Pg).leaf, .slice (some ⟨w4.heap.size, 0, none⟩) 1 1, .slice (some ⟨w4.heap.size + 1, 0, none⟩) 2 2, .slice none 0 0, .int .i64 (⟨false, [up], [(rt0 : Int), (rt : Int)], [], -1⟩ : Pg).next] ⟨false, [up], [(rt0 : Int), (rt : Int)], [], -1⟩ := by
      refine ⟨_, _, _, rfl, ⟨[.slice (some ⟨ub, uo, ut⟩) nu uc], ⟨rfl, _, 1, rfl, Nat.le_refl _, by unfold maxLen; omega, fun h => (by cases h), fun a ha j u hu => ?_⟩, fun a n c e _ => by (cases e; exact ⟨by show BO ≤ w4.heap.size; omega, by show w4.heap.size < _; omega, by show w4.heap.size ≠ PB'; omega, by show w4.heap.size ≠ O; omega⟩), fun j q hq => ?_⟩, ⟨⟨rfl, _, 2, rfl, Nat.le_refl _, by unfold maxLen; omega, fun h => (by cases h), fun a ha j u hu => ?_⟩, fun a n c e _ => by (cases e; exact ⟨by show BO ≤ w4.heap.size + 1; omega, by show w4.heap.size + 1 < _; omega, by show w4.heap.size + 1 ≠ PB'; omega, by show w4.heap.size + 1 ≠ O; omega⟩)⟩, ⟨Rd.nil _ 1, fun a n c e _ => (by cases e)⟩⟩
      · obtain rfl := Option.some.inj ha
        rw [Addr.add_lit, Nat.zero_add, cell_of_row W6 _ j _ _ _ HX12.out.1]
        simpa using hu
      · rcases j with _ | j
        · simp only [List.getElem?_cons_zero, Option.some.injEq] at hq
          subst hq
          refine ⟨_, rfl, ?_⟩
          have h9 := HUP.out
          rw [← HNP1.out.2] at h9
          exact RB.mono (h9.below HB6.out) hg6
        · simp at hq
      · obtain rfl := Option.some.inj ha
        rw [Addr.add_lit, Nat.zero_add, cell_of_row W6 _ j _ _ _ HX12.out.2]
        simpa [ic] using hu
    have hlen : (ps1 ++ [⟨false, [up], [(rt0 : Int), (rt : Int)], [], -1⟩] : List Pg).length = np1 + 1 := by rw [List.length_append, ← HNP1.out.1]; rfl
    have hdt8 := DT.push2 (w := W6) (w5 := w7) (cap := cap4) (X := 0) (p := ⟨false, [up], [(rt0 : Int), (rt : Int)], [], -1⟩) (gg := gg) (cap5 := c7) (vs := vs4) d1 d2 (by omega) (by omega) (by rw [← HNP1.out.1]; exact HO6.out) (RPs.mono HPS6.out hg6) hrp (by rw [← HNP1.out.1]; exact H7O.out) (by have h9 := H7G.out; exact h9) (by
      rcases H7A.out with h | h
      · exact .inl (Option.some.inj h)
      · exact .inr (by have : gg = w4.heap.size + 1 + 1 + 1 := Option.some.inj h; omega))
    rw [← HNP1.out.1] at hdt8
    obtain ⟨w8, hw8⟩ : ∃ w8, w8 = w7.setCell ⟨O, 0, none⟩ (.slice (some ⟨gg, 0, none⟩) (np1 + 1) c7) := ⟨_, rfl⟩
    rw [← hw8] at hdt8 ⊢
    have hf8 : ∀ b, b ≠ O → w8.heap[b]? = w7.heap[b]? := fun b hb => by rw [hw8]; exact Below.heap_setCell _ _ _ _ hb
    have hz8 : w8.heap.size = w7.heap.size := by rw [hw8]; simp
    have hos8 : w8.os = w7.os ∧ w8.tape = w7.tape ∧ w8.output = w7.output := by rw [hw8]; exact ⟨rfl, rfl, rfl⟩
    have hO8 : w8.heap[O]? = some (.cells #[.slice (some ⟨gg, 0, none⟩) (np1 + 1) c7, .int .i64 (rt0 : Int)] 24 (0, 0)) := by rw [hw8, Lib.heap_setCell_same hO7.out]; rfl
    have HDT8 := Lib.hid hdt8
    have HF8 := Lib.hid (And.intro hf8 hos8)
    have HO8 := Lib.hid hO8
    have HLEN := Lib.hid hlen
    clear hw8 hdt8 hf8 hos8 hO8 hlen hrp o0 o1 of0 of1 s0 s1 sf0 sf1 hg6
    obtain ⟨s0, s1, sf0, sf1⟩ := box2I HO8.out
    have zN : (1 : Int) ≤ (np1 : Int) + 1 := by omega
    go_upto_region 14 with (fail)
    obtain ⟨w9, hw9⟩ : ∃ w9, w9 = w8.setCell ⟨O, 1, none⟩ (.int .i64 (np1 : Int)) := ⟨_, rfl⟩
    rw [← hw9]
    obtain ⟨qs, hqs⟩ : ∃ qs : List Pg, qs = ps1 ++ [⟨false, [up], [(rt0 : Int), (rt : Int)], [], -1⟩] := ⟨_, rfl⟩
    have HDz : Hid (DT w9 BO O gg qs (np1 : Int)) := Lib.hid (by rw [hw9, hqs]; exact HDT8.out.root)
    have hf9 : ∀ b, b ≠ O → w9.heap[b]? = w8.heap[b]? := fun b hb => by rw [hw9]; exact Below.heap_setCell _ _ _ _ hb
    have hz9 : w9.heap.size = w8.heap.size := by rw [hw9]; simp
    have hos9 : w9.os = w8.os ∧ w9.tape = w8.tape ∧ w9.output = w8.output := by rw [hw9]; exact ⟨rfl, rfl, rfl⟩
    have hold : ∀ b, b < w.heap.size + 5 → w9.heap[b]? = w4.heap[b]? := fun b hb => by
      rw [hf9 b (by omega), HF8.out.1 b (by omega), H7G.out.block b (by omega) (fun e => by have : b = PB' := Option.some.inj e; omega), HB6.out.block b (by omega)]
    have HYz := Lib.hid ((hold (w.heap.size + 1) (by omega)).trans HY4.out)
    have HBz : Hid (Below w.heap.size w w9) := Lib.hid ⟨hos9.1.trans (HF8.out.2.1.trans (H7G.out.os.trans (HB6.out.os.trans HB4.out.os))), hos9.2.1.trans (HF8.out.2.2.1.trans (H7G.out.tape.trans (HB6.out.tape.trans HB4.out.tape))), hos9.2.2.trans (HF8.out.2.2.2.trans (H7G.out.output.trans (HB6.out.output.trans HB4.out.output))), by have := HB4.out.size; omega, fun b hb => (hold b (by omega)).trans (HB4.out.block b hb)⟩
    have HG2 := Lib.hid (show insTr T h k row = ⟨qs, (np1 : Int)⟩ by rw [HG.out, HNP1.out.1, hqs])
    clear HG
    have HG := HG2
    clear HG2 hqs HLEN HDT8 hw9 hf9 hos9 hold s0 s1 sf0 sf1
    have hRb := HYz.out
    obtain ⟨y0, y1, yf0, yf1⟩ := box2I hRb
    obtain ⟨capz, hOz, hrtz⟩ := HDz.out.rt
    obtain ⟨z0, z1, -, -⟩ := box2I hOz
    obtain ⟨np, hnp⟩ : ∃ n, n = qs.length := ⟨_, rfl⟩
    rw [← hnp] at hOz hrtz z0
    have HNP := Lib.hid hnp
    have HRTZ := Lib.hid hrtz
    clear hRb hOz hrtz hnp
    by_cases hfull : 4000 < np
    · have hf1 : (4000 : Int) < (np : Int) := by omega
      go_wp2_with fail
      obtain ⟨q0, q1⟩ := box2_two (x := .slice none 0 0) (y := .int .i64 0) y0 y1
      (try simp (config := {zetaDelta := true}) only [Exit.inBlock, Exit.then])
      refine bodyPost_ret (v := .tuple #[.agg #[.slice none 0 0, .int .i64 0], .int .i64 10]) (by simp [results, Try.results8, go_sem, q0, q1]; try rfl) rfl ?_
      rw [HG.out]
      exact .inr ⟨by show 4000 < List.length _; rw [← HNP.out]; exact hfull, rfl, (HBz.out.setCell (by show w.heap.size ≤ w.heap.size + 1; omega) _).setCell (by show w.heap.size ≤ w.heap.size + 1; omega) _⟩
    · have hf1 : ¬ (4000 : Int) < (np : Int) := by omega
      have hcz : Cpy ⟨qs, (np1 : Int)⟩ := by have h9 := HC.out.2; rw [HG.out] at h9; exact h9
      have htc := treeCopy_any w9 (fun b => BO ≤ b ∧ b < w9.heap.size) (fun b hb => hb.2) _ ⟨qs, (np1 : Int)⟩ (by have h9 := HRTZ.out; exact h9) hcz
      have HTC := Lib.hid htc
      clear hcz htc
      go_wp2_with fail
      refine HTC.out.mono ?_
      rintro e w10 ⟨v9, rfl, hr9, hb9⟩
      obtain ⟨a9, n9, c9, rfl⟩ := rt_shape hr9
      have HB9 := Lib.hid (into HBz.out hb9)
      have hY9 := (hb9.block _ (Array.getElem?_eq_some_iff.1 HYz.out).1).trans HYz.out
      have HR9 := Lib.hid hr9
      have hz9 := hb9.size
      clear y0 y1 yf0 yf1 z0 z1 hb9 hr9
      obtain ⟨y0, y1, yf0, yf1⟩ := box2I hY9
      have HBS := HBz.out.size
      go_wp2_with fail
      obtain ⟨q0, q1⟩ := box2_two (x := .slice a9 n9 c9) (y := .int .i64 (np1 : Int)) y0 y1
      (try simp (config := {zetaDelta := true}) only [Exit.inBlock, Exit.then])
      refine bodyPost_ret (v := .tuple #[.agg #[.slice a9 n9 c9, .int .i64 (np1 : Int)], .int .i64 0]) (by simp [results, Try.results8, go_sem, q0, q1]; try rfl) rfl ?_
      rw [HG.out]
      refine .inl ⟨by show List.length _ ≤ 4000; rw [← HNP.out]; omega, _, _, _, rfl, ?_, (HB9.out.setCell (by show w.heap.size ≤ w.heap.size + 1; omega) _).setCell (by show w.heap.size ≤ w.heap.size + 1; omega) _⟩
      refine RT.mono (HR9.out.agree fun b g _ => two_farX (by have := g.1; omega)) fun b g => ?_
      have := g.1
      omega
theorem bel_al (w : World) (o : Obj) : Below w.heap.size w (w.alloc o) := (Below.refl _ _).alloc (Nat.le_refl _) _
theorem gen_new {P : World → Prop} {W : World} {a b : Value} {T : TypeId}
    (h : ∀ W9 : World, W9.heap[W.heap.size]? = some (.cells #[a, b] T (0, 0)) → W.heap.size < W9.heap.size → (∀ c, c < W.heap.size → W9.heap[c]? = W.heap[c]?) → (∀ n w0, n ≤ W.heap.size → Below n w0 W → Below n w0 W9) → P W9) : P (W.alloc (.cells #[a, b] T (0, 0))) :=
  h _ (new0 W _) (by simp) (fun c hc => Below.heap_alloc _ _ _ hc) fun n w0 hn hb => hb.alloc hn _
theorem gen_two {P : World → Prop} {W : World} {Bx : Nat} {a b u v : Value} {T : TypeId} (hbx : W.heap[Bx]? = some (.cells #[u, v] T (0, 0)))
    (h : ∀ W9 : World, W9.heap[Bx]? = some (.cells #[a, b] T (0, 0)) → W9.heap.size = W.heap.size → (∀ c, c ≠ Bx → W9.heap[c]? = W.heap[c]?) → (∀ n w0, n ≤ Bx → Below n w0 W → Below n w0 W9) → P W9) : P ((W.setCell ⟨Bx, 0, none⟩ a).setCell ⟨Bx, 1, none⟩ b) := by
  refine h _ ?_ (by simp) (fun c hc => by rw [Below.heap_setCell _ _ _ _ hc, Below.heap_setCell _ _ _ _ hc]) fun n w0 hn hb => (hb.setCell (p := ⟨Bx, 0, none⟩) hn _).setCell (p := ⟨Bx, 1, none⟩) hn _
  have h1 : (W.setCell ⟨Bx, 0, none⟩ a).heap[Bx]? = some (.cells #[a, v] T (0, 0)) := by rw [Lib.heap_setCell_same hbx]; rfl
  rw [Lib.heap_setCell_same h1]
  rfl
theorem al_of {w0 W : World} {n : Nat} {o : Obj} (h : Below n w0 (W.alloc o)) : Below W.heap.size W (W.alloc o) := (Below.refl _ _).alloc (Nat.le_refl _) _
theorem find_of {T : Tr} {k : Key} {h : Nat} {t : Tb h} (he : entT h t = entsTr T) (h0 : tkT T k = 0) : findT T k = ((lookE k (entT h t)).getD 0, if (lookE k (entT h t)).isSome then 0 else 8) := by
  unfold findT
  rw [if_pos h0, he]
theorem lookE_no {k : Key} {l : List (Key × Int)} (h : lookE k l = none) : ∀ e ∈ l, e.1 ≠ k := fun e he hk => by
  unfold lookE at h
  rw [Option.map_eq_none_iff, List.find?_eq_none] at h
  have := h e he
  simp [hk] at this
theorem tk_is (T : Tr) (k : Key) : tkT T k = 0 ∨ tkT T k = 1 ∨ tkT T k = 11 := by
  unfold tkT
  split
  · split
    · exact .inl rfl
    · exact .inr (.inl rfl)
  · exact .inr (.inr rfl)
theorem ins_both {T : Tr} (k : Key) (row : Int) (hs : Small T) (hcp : Cpy T) : ∃ (G : Tr) (c : Int),
    (∀ (w : World) (ok ok1 : Nat → Prop) (tv kv : Value), (∀ b, ok b → b < w.heap.size) → RT w ok tv T → RB w ok1 kv k → Calls Try.prog 6 #[tv, kv, .int .i64 row] w (TreeR G c w)) ∧
    (∀ (w : World) (ok ok1 : Nat → Prop) (tv kv : Value), (∀ b, ok b → b < w.heap.size) → RT w ok tv T → RB w ok1 kv k → Calls Try.prog 8 #[tv, kv, .int .i64 row] w (TreeR G c w)) := by
  have hfa : ∀ (w : World) (ok ok1 : Nat → Prop) (tv kv : Value), (∀ b, ok b → b < w.heap.size) → RT w ok tv T → RB w ok1 kv k → ∀ W, Below w.heap.size w W → Calls Try.prog 13 #[tv, kv] W (Two (findT T k).1 (findT T k).2 W) := fun w ok ok1 tv kv h1 h2 h3 W hW =>
    find_any W ok ok1 (fun b hb' => by have := h1 b hb'; have := hW.size; omega) tv kv T k (h2.below hW) (h3.below hW) hs
  by_cases h0 : tkT T k = 0
  · have hb : T.pages.length ≤ 4000 ∧ Pass T := by
      by_cases hb : T.pages.length ≤ 4000 ∧ Pass T
      · exact hb
      · rw [tkT_bad hb] at h0; omega
    have hy : okK k := by
      by_cases hy : okK k
      · exact hy
      · rw [tkT_size hb hy] at h0; omega
    obtain ⟨h, t, hr, he⟩ := ents_of hb.2
    have hf := find_of he h0
    have hf2 : (findT T k).2 = 0 ∨ (findT T k).2 = 8 := by rw [hf]; show (if _ then _ else _) = _ ∨ (if _ then _ else _) = _; split <;> simp
    by_cases hv : row < 0
    · refine ⟨noTr, 3, fun w ok ok1 tv kv h1 h2 h3 => ?_, fun w ok ok1 tv kv h1 h2 h3 => ?_⟩
      · obtain ⟨ao, n, cap, rfl⟩ := rt_shape h2
        exact (insert_no w ao n cap T.root kv _ _ 3 row (hfa w ok ok1 _ kv h1 h2 h3) (.inr (.inl ⟨hf2, hv, rfl⟩))).mono fun e w' q => q.r
      · exact (inserted_no w ok h1 tv kv T k row h2 h3.1 hs.2 3 (.inr (.inl ⟨h0, hv, rfl⟩))).mono fun e w' q => q.r
    · rcases hq : lookE k (entT h t) with _ | v
      · have hne := lookE_no hq
        have h8 : (findT T k).2 = 8 := by rw [hf, hq]; rfl
        by_cases hfull : (insTr T h k row).pages.length ≤ 4000
        · refine ⟨insTr T h k row, 0, fun w ok ok1 tv kv h1 h2 h3 => ?_, fun w ok ok1 tv kv h1 h2 h3 => ?_⟩
          · refine (insert_ok w ok ok1 h1 tv kv T h t k row h2 h3 hs hb.1 hr hy (by omega) hne).mono fun e w' q => ?_
            rcases q with ⟨-, P, cap, g1, g2, g3⟩ | ⟨q, -⟩
            · exact ⟨_, _, _, g1, g2.rt, g3⟩
            · omega
          · refine (inserted_any w ok h1 tv kv T k row h t h2 ok1 h3 hs.2 hcp h0 hy (by omega) hr hb.1 hne h8).mono fun e w' q => ?_
            rcases q with ⟨-, q⟩ | ⟨q, -⟩
            · exact q
            · omega
        · refine ⟨noTr, 10, fun w ok ok1 tv kv h1 h2 h3 => ?_, fun w ok ok1 tv kv h1 h2 h3 => ?_⟩
          · refine (insert_ok w ok ok1 h1 tv kv T h t k row h2 h3 hs hb.1 hr hy (by omega) hne).mono fun e w' q => ?_
            rcases q with ⟨q, -⟩ | ⟨-, q⟩
            · omega
            · exact q.r
          · refine (inserted_any w ok h1 tv kv T k row h t h2 ok1 h3 hs.2 hcp h0 hy (by omega) hr hb.1 hne h8).mono fun e w' q => ?_
            rcases q with ⟨q, -⟩ | ⟨-, q⟩
            · omega
            · exact q.r
      · have h8 : (findT T k).2 = 0 := by rw [hf, hq]; rfl
        refine ⟨noTr, 9, fun w ok ok1 tv kv h1 h2 h3 => ?_, fun w ok ok1 tv kv h1 h2 h3 => ?_⟩
        · obtain ⟨ao, n, cap, rfl⟩ := rt_shape h2
          exact (insert_no w ao n cap T.root kv _ _ 9 row (hfa w ok ok1 _ kv h1 h2 h3) (.inr (.inr ⟨h8, by omega, rfl⟩))).mono fun e w' q => q.r
        · exact (inserted_no w ok h1 tv kv T k row h2 h3.1 hs.2 9 (.inr (.inr ⟨h0, by omega, h8, rfl⟩))).mono fun e w' q => q.r
  · have hf : findT T k = (0, tkT T k) := by unfold findT; rw [if_neg h0]
    have h8 : tkT T k ≠ 8 := by rcases tk_is T k with h | h | h <;> omega
    refine ⟨noTr, tkT T k, fun w ok ok1 tv kv h1 h2 h3 => ?_, fun w ok ok1 tv kv h1 h2 h3 => ?_⟩
    · obtain ⟨ao, n, cap, rfl⟩ := rt_shape h2
      exact (insert_no w ao n cap T.root kv _ _ (tkT T k) row (hfa w ok ok1 _ kv h1 h2 h3) (.inl ⟨by rw [hf]; exact h0, by rw [hf]; exact h8, by rw [hf]⟩)).mono fun e w' q => q.r
    · exact (inserted_no w ok h1 tv kv T k row h2 h3.1 hs.2 (tkT T k) (.inl ⟨h0, rfl⟩)).mono fun e w' q => q.r
end Go.Proofs.Ytahammkjkfdmhaa

/- A key put into a tree. -/
import Derived.Test.YtahammkjkfdmhaaTl
import Derived.Test.YtahammkjkfdmhaaXr
namespace Go.Proofs.Ytahammkjkfdmhaa
open Go.ChangeShapes Go.WideShapes Go.ChangeAt Go.RowKit
set_option linter.unusedVariables false
set_option linter.unusedSimpArgs false
set_option maxHeartbeats 8000000
set_option maxRecDepth 100000
theorem box2_two {W : World} {P : Nat} {u v x y : Value} (h0 : W.cell? ⟨P, 0, none⟩ = some u) (h1 : W.cell? ⟨P, 1, none⟩ = some v) :
    ((W.setCell ⟨P, 0, none⟩ x).setCell ⟨P, 1, none⟩ y).cell? ⟨P, 0, none⟩ = some x ∧ ((W.setCell ⟨P, 0, none⟩ x).setCell ⟨P, 1, none⟩ y).cell? ⟨P, 1, none⟩ = some y :=
  ⟨(World.cell?_setCell_other _ _ _ _ (by simp)).trans (World.cell?_setCell_same _ _ _ h0), World.cell?_setCell_same _ _ _ ((World.cell?_setCell_other _ _ _ _ (by simp)).trans h1)⟩
def noTr : Tr := ⟨[], 0⟩
def NoIs (c : Int) (w : World) (e : Ending) (w' : World) : Prop := e = .returned (.tuple #[.agg #[.slice none 0 0, .int .i64 0], .int .i64 c]) ∧ Below w.heap.size w w'
theorem no_is {c c' : Int} {w w' : World} (h : c = c') (hb : Below w.heap.size w w') : NoIs c' w (.returned (.tuple #[.agg #[.slice none 0 0, .int .i64 0], .int .i64 c])) w' := by subst h; exact ⟨rfl, hb⟩
theorem insert_no (w : World) (ao : Option Addr) (n cap : Nat) (root : Int) (kv : Value) (r e c row : Int) (hf : ∀ W, Below w.heap.size w W → Calls Try.prog 13 #[.agg #[.slice ao n cap, .int .i64 root], kv] W (Two r e W))
    (hc : (e ≠ 0 ∧ e ≠ 8 ∧ c = e) ∨ ((e = 0 ∨ e = 8) ∧ row < 0 ∧ c = 3) ∨ (e = 0 ∧ 0 ≤ row ∧ c = 9)) :
    Calls Try.prog 6 #[.agg #[.slice ao n cap, .int .i64 root], kv, .int .i64 row] w (NoIs c w) := by
  obtain ⟨W0, hW0⟩ : ∃ W0 : World, W0 = (w.alloc (.cells #[.slice ao n cap, .int .i64 root] 24)).alloc (.cells #[.slice none 0 0, .int .i64 0] 24) := ⟨_, rfl⟩
  have hb0 : Below w.heap.size w W0 := by rw [hW0]; exact ((Below.refl _ _).alloc (Nat.le_refl _) _).alloc (by simp) _
  have hy : W0.heap[w.heap.size + 1]? = some (.cells #[.slice none 0 0, .int .i64 0] 24 (0, 0)) := by rw [hW0]; have := new0 (w.alloc (.cells #[.slice ao n cap, .int .i64 root] 24)) (.cells #[.slice none 0 0, .int .i64 0] 24); rwa [World.size_alloc] at this
  have HF := Lib.hid (hf W0 hb0)
  have HB0 := Lib.hid hb0
  have HY := Lib.hid hy
  have HW0 := Lib.hid hW0
  clear hW0 hb0 hy hf
  rcases hc with ⟨h1, h2, rfl⟩ | ⟨h1 | h1, h2, rfl⟩ | ⟨h1, h2, rfl⟩
  · have g1 : (c != 0) = true := by simpa using h1
    have g2 : (c != 8) = true := by simpa using h2
    go_enter Try.func6, Try.ntmps6
    go_wp2_with fail
    rw [← HW0.out]
    refine HF.out.mono ?_
    rintro en w1 ⟨rfl, hb1⟩
    have HB1 := Lib.hid (into HB0.out hb1)
    obtain ⟨y0, y1, yf0, yf1⟩ := box2 ((hb1.block _ (Array.getElem?_eq_some_iff.1 HY.out).1).trans HY.out)
    clear hb1
    go_wp2_with fail
    obtain ⟨q0, q1⟩ := box2_two (x := .slice none 0 0) (y := .int .i64 0) y0 y1
    refine bodyPost_ret (v := .tuple #[.agg #[.slice none 0 0, .int .i64 0], .int .i64 c]) (by simp [results, Try.results6, go_sem, q0, q1]; try rfl) rfl ?_
    exact ⟨rfl, (HB1.out.setCell (by show w.heap.size ≤ w.heap.size + 1; omega) _).setCell (by show w.heap.size ≤ w.heap.size + 1; omega) _⟩
  · subst h1
    go_enter Try.func6, Try.ntmps6
    go_wp2_with fail
    rw [← HW0.out]
    refine HF.out.mono ?_
    rintro en w1 ⟨rfl, hb1⟩
    have HB1 := Lib.hid (into HB0.out hb1)
    obtain ⟨y0, y1, yf0, yf1⟩ := box2 ((hb1.block _ (Array.getElem?_eq_some_iff.1 HY.out).1).trans HY.out)
    clear hb1
    go_wp2_with fail
    obtain ⟨q0, q1⟩ := box2_two (x := .slice none 0 0) (y := .int .i64 0) y0 y1
    refine bodyPost_ret (v := .tuple #[.agg #[.slice none 0 0, .int .i64 0], .int .i64 3]) (by simp [results, Try.results6, go_sem, q0, q1]; try rfl) rfl ?_
    exact ⟨rfl, (HB1.out.setCell (by show w.heap.size ≤ w.heap.size + 1; omega) _).setCell (by show w.heap.size ≤ w.heap.size + 1; omega) _⟩
  · subst h1
    go_enter Try.func6, Try.ntmps6
    go_wp2_with fail
    rw [← HW0.out]
    refine HF.out.mono ?_
    rintro en w1 ⟨rfl, hb1⟩
    have HB1 := Lib.hid (into HB0.out hb1)
    obtain ⟨y0, y1, yf0, yf1⟩ := box2 ((hb1.block _ (Array.getElem?_eq_some_iff.1 HY.out).1).trans HY.out)
    clear hb1
    go_wp2_with fail
    obtain ⟨q0, q1⟩ := box2_two (x := .slice none 0 0) (y := .int .i64 0) y0 y1
    refine bodyPost_ret (v := .tuple #[.agg #[.slice none 0 0, .int .i64 0], .int .i64 3]) (by simp [results, Try.results6, go_sem, q0, q1]; try rfl) rfl ?_
    exact ⟨rfl, (HB1.out.setCell (by show w.heap.size ≤ w.heap.size + 1; omega) _).setCell (by show w.heap.size ≤ w.heap.size + 1; omega) _⟩
  · subst h1
    have g3 : ¬ row < 0 := by omega
    go_enter Try.func6, Try.ntmps6
    go_wp2_with fail
    rw [← HW0.out]
    refine HF.out.mono ?_
    rintro en w1 ⟨rfl, hb1⟩
    have HB1 := Lib.hid (into HB0.out hb1)
    obtain ⟨y0, y1, yf0, yf1⟩ := box2 ((hb1.block _ (Array.getElem?_eq_some_iff.1 HY.out).1).trans HY.out)
    clear hb1
    go_wp2_with fail
    obtain ⟨q0, q1⟩ := box2_two (x := .slice none 0 0) (y := .int .i64 0) y0 y1
    refine bodyPost_ret (v := .tuple #[.agg #[.slice none 0 0, .int .i64 0], .int .i64 9]) (by simp [results, Try.results6, go_sem, q0, q1]; try rfl) rfl ?_
    exact ⟨rfl, (HB1.out.setCell (by show w.heap.size ≤ w.heap.size + 1; omega) _).setCell (by show w.heap.size ≤ w.heap.size + 1; omega) _⟩
/-- Pages that read as a tree, on blocks that are there. -/
theorem PgsO.rt2 {w : World} {B : Nat} {own : Tag} {v : Value} {T : Tr} {tight : Nat → Prop} {vs : List Value} (h : PgsO w B own v T.pages tight vs) : RT w (fun b => B ≤ b ∧ b < w.heap.size) (.agg #[v, .int .i64 T.root]) T := by
  have hge : ∀ {e s n : Nat} {u : Value} {xs : List Value}, w.ownsRow B e s u n xs → At (fun b => B ≤ b ∧ b < w.heap.size) u := fun hr a n c e hn => hr.lt _ (own_at hr a n c e hn)
  obtain ⟨s, vs', e0, h1, h2, h3⟩ := h.rt
  simp only [Value.agg.injEq, Array.mk.injEq, List.cons.injEq, and_true] at e0
  subst e0
  refine ⟨v, vs, rfl, Rd.own h.row, hge h.row, h.row.1, fun i p hp => ?_⟩
  obtain ⟨k, d, g, ks, c0, c1, c2, c3, c4, r1, -, -, r4, r5, -, r7⟩ := h.pg i p hp
  have hi : i < T.pages.length := (List.getElem?_eq_some_iff.1 hp).1
  refine ⟨k, d, g, ?_, ⟨ks, Rd.own r1, hge r1, fun j q hq => ?_⟩, ⟨Rd.own r5, hge r5⟩, r7.to fun b hb hz => ⟨rfl, hz.1, hb⟩⟩
  · apply List.ext_getElem?
    intro j
    rw [List.getElem?_take, List.getElem?_drop]
    rcases j with _ | _ | _ | _ | _ | j
    · simpa using c0
    · simpa using c1
    · simpa using c2
    · simpa using c3
    · simpa using c4
    · simp; omega
  · obtain ⟨x, q1, q2⟩ := r4 j q (List.getElem?_eq_some_iff.1 hq).1 hq
    exact ⟨x, q1, q2.to fun b hb hz => ⟨rfl, hz.1, hb⟩⟩
/-- What Insert leaves: the greater tree, or that there is no room. -/
def InsertIs (G : Tr) (w : World) (e : Ending) (w' : World) : Prop :=
  (G.pages.length ≤ 4000 ∧ ∃ P cap, e = .returned (.tuple #[.agg #[.slice (some ⟨P, 0, none⟩) G.pages.length cap, .int .i64 G.root], .int .i64 0]) ∧ OTr w' w.heap.size (.agg #[.slice (some ⟨P, 0, none⟩) G.pages.length cap, .int .i64 G.root]) G ∧ Below w.heap.size w w') ∨
  (4000 < G.pages.length ∧ NoIs 10 w e w')
theorem path_take {h : Nat} {t : Tb h} {k : Key} : ((pathT h t k).take h).reverse = upT h t k ∧ (pathT h t k).getD h 0 = (leafT h t k).1 := by
  have hl := upT_len h t k
  rw [pathT_up]
  simp only [List.reverse_cons]
  constructor
  · rw [List.take_left' (by simpa using hl), List.reverse_reverse]
  · rw [List.getD, List.getElem?_append_right (by simp [hl])]
    simp [hl]
theorem ins_start {w5 : World} {B Bt : Nat} {own5 : Tag} {P N cap h : Nat} {T : Tr} {t : Tb h} {k : Key} {row : Int} {vs : List Value} (hr : Reps T h t) (ho : okK k) (hv : 0 ≤ row) (hne : ∀ e ∈ entT h t, e.1 ≠ k) (h4 : T.pages.length ≤ 4000) (hN : N = T.pages.length)
    (hb : w5.heap[Bt]? = some (.cells #[.slice (some ⟨P, 0, none⟩) N cap, .int .i64 T.root] 24 (0, 0))) (hp : PgsO w5 B own5 (.slice (some ⟨P, 0, none⟩) N cap) (putR T.pages (leafT h t k).1 k row) (fun _ => False) vs) :
    SpRun w5 B Bt own5 T.root (pathT h t k) (insTr T h k row) h w5 := by
  obtain ⟨e1, e2⟩ := path_take (h := h) (t := t) (k := k)
  have hl : (putR T.pages (leafT h t k).1 k row).length = T.pages.length := putR_len _ _ _ _
  subst hN
  have hhi := hr.high
  refine ⟨own5, _, vs, P, cap, by rw [hl]; exact hb, by rw [hl]; exact hp, ?_, ?_, ?_, (Fr.refl own5 w5).x Bt, by rw [hl]; omega⟩
  · rw [e1, e2]; exact up_start hr ho.2
  · rw [e1, e2]; exact up_in h T.pages [] [] [] [] t k row hr.2.2.1 ⟨kl_nil k, .inl rfl⟩ ho hv hne hr.2.1 hr.nodup hr.lt
  · rw [e1, e2]; exact (insTr_up hr ho hv hne).symm
theorem FrX.below {Bt n : Nat} {own own' : Tag} {w w' : World} (h : FrX Bt own own' w w') (h1 : n ≤ Bt) (h2 : n ≤ w.heap.size) (h0 : ∀ b, b < n → own b = 0) : Below n w w' := ⟨h.os, h.tape, h.output, h.size, fun b hb => h.block b (by omega) (h0 b hb) (by omega)⟩
/-- What put asks of the leaf. -/
theorem ins_put {w5 : World} {B : Nat} {own4 : Tag} {P h : Nat} {T : Tr} {t : Tb h} {k : Key} {row : Int} {vs : List Value} {kv : Value} {tight : Nat → Prop} (hr : Reps T h t) (hne : ∀ e ∈ entT h t, e.1 ≠ k) (hg : PgsO w5 B own4 (.slice (some ⟨P, 0, none⟩) T.pages.length T.pages.length) T.pages tight vs)
    (hk : RB w5 (Fz B own4) kv k) (hB : B ≤ w5.heap.size) : Calls Try.prog 16 #[.pointer (some ⟨P, (leafT h t k).1 * 5, none⟩), kv, .int .i64 row] w5
      (PutIs w5 B own4 (.slice (some ⟨P, 0, none⟩) T.pages.length T.pages.length) (putR T.pages (leafT h t k).1 k row)) := by
  have hlt := hr.lt _ (leaf_mem h t k)
  have hwf := hr.2.2.1
  obtain ⟨q1, q2, q3, q4⟩ := up_shape h T.pages [] [] [] [] t k hwf hr.2.1 hr.nodup
  have hrise : RiseK (T.pages.getD (leafT h t k).1 noPg).keys := ((reps_pass hr).page _ (getD_mem hlt)).rise
  refine put_any2 w5 B own4 P T.pages.length T.pages.length T.pages tight vs (leafT h t k).1 kv k row (T.pages.getD (leafT h t k).1 noPg) hg rfl (getD_at hlt) hk hrise (hasK_no ?_) ?_ ?_ hB
  · rw [q3]; exact not_in_leaf h [] [] t k hwf hne
  · rw [q3]; simp; omega
  · rw [q3]; simp
/-- What put asks, behind the clone of the key. -/
theorem ins_five {w3 w4 w5 : World} {B N : Nat} {own4 : Tag} {P h nk c : Nat} {a : Option Addr} {T : Tr} {t : Tb h} {k : Key} {row : Int} {vs : List Value} {tight : Nat → Prop} (hr : Reps T h t) (hne : ∀ e ∈ entT h t, e.1 ≠ k) (hN : N = T.pages.length) (hnk : nk = k.length) (hg : PgsO w3 B own4 (.slice (some ⟨P, 0, none⟩) N N) T.pages tight vs)
    (h0 : ∀ b, b < B → own4 b = 0) (h0n : ∀ b, w3.heap.size ≤ b → own4 b = 0) (hB : B ≤ w3.heap.size) (hb4 : Below w3.heap.size w3 w4) (hb5 : Below w4.heap.size w4 w5) (hk : w5.ownsRow w4.heap.size 5 1 (.slice a nk c) nk (bc k)) :
    Calls Try.prog 16 #[.pointer (some ⟨P, (leafT h t k).1 * 5, none⟩), .slice a nk c, .int .i64 row] w5 (PutIs w5 B own4 (.slice (some ⟨P, 0, none⟩) N N) (putR T.pages (leafT h t k).1 k row)) := by
  subst hN hnk
  have hz := hb4.size
  refine ins_put hr hne (hg.below (into hb4 hb5) fun _ _ => rfl) ⟨Rd.own hk, fun a' n c' e hn => ?_⟩ (Nat.le_trans hB (Nat.le_trans hb4.size hb5.size))
  have := (hk.lt _ (own_at hk a' n c' e hn)).1
  exact ⟨by omega, h0n _ (by omega)⟩
/-- A tree that lies from a block on, in a world that has changed below it. -/
theorem rt_off {w w' : World} {n : Nat} {v : Value} {T : Tr} (h : RT w (fun b => n + 2 ≤ b) v T) (B : Nat) (hf : ∀ b, b ≠ B → w'.heap[b]? = w.heap[b]?) (hB : B < n + 2 := by omega) : RT w' (fun b => n ≤ b) v T := by
  have h2 := h.agree (w' := w') (fun b hb _ => hf b (by have : n + 2 ≤ b := hb; omega))
  obtain ⟨s, vs, e1, r1, r2, r3⟩ := h2
  refine ⟨s, vs, e1, r1, fun a n c e hn => ?_, r3.1, fun i p hp => ?_⟩
  · have := r2 a n c e hn; omega
  · obtain ⟨k', d', h', c0, ⟨vk, k1, k2, k3⟩, ⟨d1, d2⟩, ⟨h1, h2⟩⟩ := r3.2 i p hp
    exact ⟨k', d', h', c0, ⟨vk, k1, fun a n c e hn => by have := k2 a n c e hn; omega, fun j q hq => by obtain ⟨x, x1, x2, x3⟩ := k3 j q hq; exact ⟨x, x1, x2, fun a n c e hn => by have := x3 a n c e hn; omega⟩⟩, ⟨d1, fun a n c e hn => by have := d2 a n c e hn; omega⟩, ⟨h1, fun a n c e hn => by have := h2 a n c e hn; omega⟩⟩
theorem small_fine {T : Tr} {h : Nat} {t : Tb h} (hr : Reps T h t) : Fine T.pages := fun p hp => by
  have h1 := (reps_pass hr).page p hp
  have h2 := h1.kids
  have h3 := h1.keys
  refine ⟨by omega, fun k hk => ?_, ?_, by have := h1.high; omega⟩
  · have := (h1.okk k hk).1.2
    omega
  · by_cases q : p.leaf = true
    · rw [if_pos q] at h2; omega
    · rw [if_neg q] at h2; omega
theorem insert_ok (w : World) (ok ok' : Nat → Prop) (hok : ∀ b, ok b → b < w.heap.size) (tv kv : Value) (T : Tr) (h : Nat) (t : Tb h) (k : Key) (row : Int) (ht : RT w ok tv T) (hk : RB w ok' kv k) (hs : Small T) (hN : T.pages.length ≤ 4000) (hr : Reps T h t) (hy : okK k) (hv : 0 ≤ row) (hne : ∀ e ∈ entT h t, e.1 ≠ k) :
    Calls Try.prog 6 #[tv, kv, .int .i64 row] w (InsertIs (insTr T h k row) w) := by
  obtain ⟨ao, cap, _, _, _, rfl, -⟩ := pagesF ht
  obtain ⟨ak, ck, rfl⟩ := hk.sh
  obtain ⟨nk, hnk⟩ : ∃ n, n = k.length := ⟨_, rfl⟩
  rw [← hnk] at hk ⊢
  obtain ⟨N, hNN⟩ : ∃ n, n = T.pages.length := ⟨_, rfl⟩
  rw [← hNN]
  have hkl := hk.lt
  obtain ⟨W0, hW0⟩ : ∃ W0 : World, W0 = (w.alloc (.cells #[.slice ao N cap, .int .i64 T.root] 24)).alloc (.cells #[.slice none 0 0, .int .i64 0] 24) := ⟨_, rfl⟩
  have hb0 : Below w.heap.size w W0 := by rw [hW0]; exact ((Below.refl _ _).alloc (Nat.le_refl _) _).alloc (by simp) _
  have hx0 : W0.heap[w.heap.size]? = some (.cells #[.slice ao N cap, .int .i64 T.root] 24 (0, 0)) ∧ W0.heap[w.heap.size + 1]? = some (.cells #[.slice none 0 0, .int .i64 0] 24 (0, 0)) := by rw [hW0]; exact ⟨new_a w _ _, new_b w _ _⟩
  have hfind : Calls Try.prog 13 #[.agg #[.slice ao N cap, .int .i64 T.root], .slice ak nk ck] W0 (Two 0 8 W0) := by
    have q := find_ok W0 ok ok' (fun b hb => Nat.lt_of_lt_of_le (hok b hb) hb0.size) (.agg #[.slice ao T.pages.length cap, .int .i64 T.root]) (.slice ak nk ck) T h t k (ht.below hb0) (hk.below hb0) hs hN hr hy
    rw [lookE_none hne] at q
    rw [hNN]
    exact q
  have hfresh : ∀ W, Below w.heap.size w W → Calls Try.prog 14 #[.agg #[.slice ao N cap, .int .i64 T.root]] W fun e w' => ∃ own vs P, e = .returned (.agg #[.slice (some ⟨P, 0, none⟩) N N, .int .i64 T.root]) ∧ Hid (PgsO w' (W.heap.size + 2) own (.slice (some ⟨P, 0, none⟩) N N) T.pages (fun _ => True) vs ∧ (∀ b, b < W.heap.size + 2 → own b = 0) ∧ W.heap.size + 2 ≤ P) ∧ Below W.heap.size W w' := fun W hW => by
    refine (fresh_any W ok _ T (by rw [hNN]; exact ht.below hW) (by omega) (small_fine hr)).mono fun e w' ⟨own, vs, P, q1, q2, q3, q4, q5, q6⟩ => ?_
    rw [← hNN] at q1 q2
    exact ⟨own, vs, P, q1, ⟨q2, q3, q6⟩, q4⟩
  have HFIND := Lib.hid hfind
  have HFRESH := Lib.hid hfresh
  have HB0 := Lib.hid hb0
  have HX0 := Lib.hid hx0
  have HW0 := Lib.hid hW0
  have HK := Lib.hid hkl
  have HH := Lib.hid (And.intro hr (And.intro hy (And.intro hv (And.intro hne (And.intro hNN (And.intro hnk hN))))))
  have hrow : ¬ row < 0 := by omega
  have hN9 : N ≤ 4000 := by omega
  have hk100 : nk ≤ 100 := by have := hy.2; omega
  clear hfind hfresh hb0 hx0 hW0 hkl hr hy hv hne hNN hnk hN hs hk ht
  go_enter Try.func6, Try.ntmps6
  go_wp2_with fail
  rw [← HW0.out]
  refine HFIND.out.mono ?_
  rintro en w1 ⟨rfl, hb1⟩
  have HB1 := Lib.hid (into HB0.out hb1)
  have HX1 := Lib.hid (carry2 hb1 HX0.out)
  obtain ⟨x0, x1, xf0, xf1⟩ := box2 HX1.out.1
  clear hb1
  go_wp2_with fail
  refine (HFRESH.out w1 HB1.out).mono ?_
  rintro en w2 ⟨own2, vs2, P, rfl, HP, hb2⟩
  have HB2 := Lib.hid (into HB1.out hb2)
  have HX2 := Lib.hid (carry2 hb2 HX1.out)
  have HZ2 := Lib.hid hb2.size
  obtain ⟨y0, y1, yf0, yf1⟩ := box2 HX2.out.1
  clear hb2 x0 x1 xf0 xf1
  obtain ⟨g1, g2, g3⟩ := HP.out
  obtain ⟨B, hBd⟩ : ∃ B, B = w1.heap.size + 2 := ⟨_, rfl⟩
  rw [← hBd] at g1 g2 g3
  have hw1s := HB1.out.size
  have hw2s := HZ2.out
  obtain ⟨hR1, hR2⟩ := HX1.out
  have hRlt : w.heap.size + 1 < w1.heap.size := (Array.getElem?_eq_some_iff.1 hR2).1
  have hPw2 : P < w2.heap.size := (g1.row.lt P rfl).2
  obtain ⟨W3, hW3⟩ : ∃ W3 : World, W3 = (w2.setCell ⟨w.heap.size, 0, none⟩ (.slice (some ⟨P, 0, none⟩) N N)).setCell ⟨w.heap.size, 1, none⟩ (.int .i64 T.root) := ⟨_, rfl⟩
  have hfar3 : ∀ b, b ≠ w.heap.size → W3.heap[b]? = w2.heap[b]? := fun b hb => by rw [hW3, Below.heap_setCell _ _ _ _ hb, Below.heap_setCell _ _ _ _ hb]
  have hz3 : W3.heap.size = w2.heap.size := by rw [hW3]; simp
  have hb3 : Below w.heap.size w W3 := by rw [hW3]; exact (HB2.out.setCell (Nat.le_refl _) _).setCell (Nat.le_refl _) _
  obtain ⟨own3, hown3⟩ : ∃ own3 : Tag, own3 = fun b => if b < w2.heap.size then own2 b else 0 := ⟨_, rfl⟩
  have hg3 : PgsO W3 B own3 (.slice (some ⟨P, 0, none⟩) N N) T.pages (fun _ => True) vs2 :=
    (g1.below (Below.refl _ _) fun b hb => by rw [hown3]; exact if_pos hb).high fun b hb => hfar3 b (by omega)
  have h03 : ∀ b, b < B → own3 b = 0 := fun b hb => by
    rw [hown3]
    show (if b < w2.heap.size then own2 b else 0) = 0
    split
    · exact g2 b hb
    · rfl
  have h0n : ∀ b, W3.heap.size ≤ b → own3 b = 0 := fun b hb => by rw [hown3]; exact if_neg (by omega)
  have hX3 : W3.heap[w.heap.size]? = some (.cells #[.slice (some ⟨P, 0, none⟩) N N, .int .i64 T.root] 24 (0, 0)) ∧ W3.heap[w.heap.size + 1]? = some (.cells #[.slice none 0 0, .int .i64 0] 24 (0, 0)) := by
    refine ⟨?_, (hfar3 _ (by omega)).trans HX2.out.2⟩
    have e1 := box2_set0 (u := .slice (some ⟨P, 0, none⟩) N N) HX2.out.1
    obtain ⟨hlt, hk⟩ := Array.getElem?_eq_some_iff.1 e1
    rw [hW3]
    show ((w2.setCell _ _).heap.modify _ _)[w.heap.size]? = _
    rw [Array.getElem?_eq_getElem (by rw [Array.size_modify]; exact hlt), Array.getElem_modify_self, hk]
    rfl
  have hk3 : RB W3 (fun b => b < w.heap.size) (.slice ak nk ck) k := HK.out.to fun b hb hz => ⟨hb3.block b hb, hb⟩
  have hpath : Calls Try.prog 15 #[.agg #[.slice (some ⟨P, 0, none⟩) N N, .int .i64 T.root], .slice ak nk ck] W3 fun e w' => ∃ Pb cp, e = .returned (.slice (some ⟨Pb, 0, none⟩) (h + 1) cp) ∧ Hid (w'.ownsRow (W3.heap.size + 1) 3 1 (.slice (some ⟨Pb, 0, none⟩) (h + 1) cp) (h + 1) (nc (pathT h t k))) ∧ Below W3.heap.size W3 w' := by
    obtain ⟨a1, a2, a3, a4, a5, a6, a7⟩ := HH.out
    refine (path_any W3 _ _ (fun b hb => hb.2) _ _ T h t k hg3.rt2 a1 hk3 (by omega)).mono fun e w' ⟨v', q1, q2, q3⟩ => ?_
    obtain ⟨Pb, cp, rfl, -⟩ := own_hd q2 (by omega)
    exact ⟨Pb, cp, q1, q2, q3⟩
  have hpath' := hpath
  have e3 := hW3
  have HPATH := Lib.hid hpath
  have HG3 := Lib.hid (And.intro hg3 (And.intro h03 h0n))
  have HX3 := Lib.hid hX3
  have HB3 := Lib.hid hb3
  have HK3 := Lib.hid hk3
  have HBB := Lib.hid (show w.heap.size + 1 < B ∧ B ≤ W3.heap.size by rw [hz3]; exact ⟨by omega, by have := (g1.row.lt P rfl).1; omega⟩)
  have HW3 := Lib.hid hW3
  clear hpath hpath' e3 hg3 h03 h0n hX3 hb3 hk3 hW3 hz3 hfar3 hown3 g1 g2 g3 hBd hw1s hw2s hR1 hR2 hRlt hPw2 HFIND HFRESH HX2 HX1 HB2 HB1 HP
  go_wp2_with fail
  rw [← HW3.out]
  obtain ⟨z0, z1, -⟩ := box2 HX3.out.1
  go_wp2_with fail
  refine HPATH.out.mono ?_
  rintro en w4 ⟨Pb, cp, rfl, HPO, hb4⟩
  have HX4 := Lib.hid (carry2 hb4 HX3.out)
  have HB4 := Lib.hid hb4
  have HG4 := Lib.hid (HG3.out.1.below hb4 fun _ _ => rfl)
  have HK4 := Lib.hid (HK3.out.below hb4)
  obtain ⟨lf, hlf⟩ : ∃ lf, lf = (leafT h t k).1 := ⟨_, rfl⟩
  have hlN : lf < N := by
    obtain ⟨a1, a2, a3, a4, a5, a6, a7⟩ := HH.out
    rw [hlf, a5]
    exact a1.lt _ (leaf_mem h t k)
  have hpl : (nc (pathT h t k))[h]? = some (.int .i64 (lf : Int)) := by
    have e := (path_take (h := h) (t := t) (k := k)).2
    have hl := pathT_len h t k
    rw [hlf, ← e]
    simp [nc, ic, List.getD, List.getElem?_eq_getElem (show h < (pathT h t k).length by omega)]
  have hpc : w4.cell? ⟨Pb, h, none⟩ = some (.int .i64 (lf : Int)) := (HPO.out.cellAt _ (by omega)).trans hpl
  obtain ⟨u0, u1, uf0, uf1⟩ := box2 HX4.out.1
  have hh4 : h ≤ 4000 := by
    obtain ⟨a1, a2, a3, a4, a5, a6, a7⟩ := HH.out
    have := a1.high
    omega
  have hcp : h + 1 ≤ cp ∧ cp ≤ maxLen := by obtain ⟨_, a, c, e, q1, q2, _⟩ := Rd.own HPO.out; cases e; exact ⟨q1, q2⟩
  have hbc : Calls Try.prog 17 #[.slice ak nk ck] w4.drew fun e w' => ∃ a c, e = .returned (.slice a nk c) ∧ Hid (w'.ownsRow w4.heap.size 5 1 (.slice a nk c) nk (bc k)) ∧ Below w4.heap.size w4 w' := by
    have q : Rd w4 1 nk (.slice ak nk ck) (bc k) := by rw [HH.out.2.2.2.2.2.1]; exact HK4.out.1 |> fun x => by rw [HH.out.2.2.2.2.2.1] at x; exact x
    refine (bclone_any w4.drew nk _ k (q.below (Below.refl _ _).drew) (by omega)).mono fun e w' ⟨a, c, q1, q2, q3⟩ => ⟨a, c, q1, q2, ⟨q3.os, q3.tape, q3.output, q3.size, q3.block⟩⟩
  have HBC := Lib.hid hbc
  have HLF := Lib.hid hlf
  have hlI : (lf : Int) < (N : Int) := by omega
  have hl0 : (0 : Int) ≤ (lf : Int) := by omega
  have hh0 : (0 : Int) ≤ (h : Int) := by omega
  have hh1 : (h : Int) < (h : Int) + 1 := by omega
  have hhn : ((h : Int)).toNat = h := by omega
  have hln : ((lf : Int)).toNat = lf := by omega
  have hhw : IntKind.i64.wrap (h : Int) = (h : Int) := by rw [IntKind.wrap_i64]; omega
  have HCP := Lib.hid hcp
  have HPC := Lib.hid hpc
  clear hbc hlf hpl hb4 hlN hcp z0 z1
  go_wp2_with fail
  refine wpT_begin (S := (fun wx => wx.cell? ⟨w.heap.size, 0, none⟩ = some (.slice (some ⟨P, 0, none⟩) N N) ∧ wx.cell? ⟨Pb, h, none⟩ = some (.int .i64 (lf : Int)))) [12] (by kernel_rfl) ?_ (fun hHeld => ?_)
  · (try dsimp only)
    (first | (with_reducible exact ⟨cell_dr u0, cell_dr hpc⟩) | (with_reducible exact ⟨v0, vpc⟩))
  refine wpAnyT_pure (i := 0) (oi := _) (v := ?_) rfl (by kernel_rfl) (by kernel_rfl) (by kernel_rfl) (by kernel_rfl) (fun _ _ _ h => h) (Or.inl ⟨by rfl, ?_⟩) (fun _ => by assumption) ?_
  rotate_left
  · (intro w hSw; go_simp)
    all_goals (with_reducible rfl)
  (try simp only [List.getElem_toArray, List.getElem_cons_zero, List.getElem_cons_succ, Act.put, List.setIfInBounds_toArray, List.set_cons_zero, List.set_cons_succ])
  refine wpAnyT_take (i := 1) (oi := _) (v := ?_) rfl (by kernel_rfl) (by kernel_rfl) (by kernel_rfl) (by kernel_rfl) (fun _ _ _ h => h) (Or.inl ⟨by rfl, ?_⟩) (by assumption) ?_
  rotate_left
  · (intro w hSw; (try dsimp only at hSw); go_simp)
    all_goals (with_reducible rfl)
  (try simp only [List.getElem_toArray, List.getElem_cons_zero, List.getElem_cons_succ, Act.put, List.setIfInBounds_toArray, List.set_cons_zero, List.set_cons_succ])
  refine wpAnyT_pure (i := 2) (oi := _) (v := ?_) rfl (by kernel_rfl) (by kernel_rfl) (by kernel_rfl) (by kernel_rfl) (fun _ _ _ h => h) (Or.inl ⟨by rfl, ?_⟩) (fun _ => by assumption) ?_
  rotate_left
  · (intro w hSw; go_simp)
    all_goals (with_reducible rfl)
  (try simp only [List.getElem_toArray, List.getElem_cons_zero, List.getElem_cons_succ, Act.put, List.setIfInBounds_toArray, List.set_cons_zero, List.set_cons_succ])
  refine wpAnyT_pure (i := 3) (oi := _) (v := ?_) rfl (by kernel_rfl) (by kernel_rfl) (by kernel_rfl) (by kernel_rfl) (fun _ _ _ h => h) (Or.inl ⟨by rfl, ?_⟩) (fun _ => by assumption) ?_
  rotate_left
  · (intro w hSw; go_simp)
    all_goals (with_reducible rfl)
  (try simp only [List.getElem_toArray, List.getElem_cons_zero, List.getElem_cons_succ, Act.put, List.setIfInBounds_toArray, List.set_cons_zero, List.set_cons_succ])
  refine wpAnyT_pure (i := 4) (oi := _) (v := ?_) rfl (by kernel_rfl) (by kernel_rfl) (by kernel_rfl) (by kernel_rfl) (fun _ _ _ h => h) (Or.inl ⟨by rfl, ?_⟩) (fun _ => by assumption) ?_
  rotate_left
  · (intro w hSw; go_simp)
    all_goals (with_reducible rfl)
  (try simp only [List.getElem_toArray, List.getElem_cons_zero, List.getElem_cons_succ, Act.put, List.setIfInBounds_toArray, List.set_cons_zero, List.set_cons_succ])
  refine wpAnyT_pure (i := 5) (oi := _) (v := ?_) rfl (by kernel_rfl) (by kernel_rfl) (by kernel_rfl) (by kernel_rfl) (fun _ _ _ h => h) (Or.inl ⟨by rfl, ?_⟩) (fun _ => by assumption) ?_
  rotate_left
  · (intro w hSw; go_simp)
    all_goals (with_reducible rfl)
  (try simp only [List.getElem_toArray, List.getElem_cons_zero, List.getElem_cons_succ, Act.put, List.setIfInBounds_toArray, List.set_cons_zero, List.set_cons_succ])
  refine wpAnyT_pure (i := 6) (oi := _) (v := ?_) rfl (by kernel_rfl) (by kernel_rfl) (by kernel_rfl) (by kernel_rfl) (fun _ _ _ h => h) (Or.inl ⟨by rfl, ?_⟩) (fun _ => by assumption) ?_
  rotate_left
  · (intro w hSw; go_simp)
    all_goals (with_reducible rfl)
  (try simp only [List.getElem_toArray, List.getElem_cons_zero, List.getElem_cons_succ, Act.put, List.setIfInBounds_toArray, List.set_cons_zero, List.set_cons_succ])
  refine wpAnyT_take (i := 7) (oi := _) (v := ?_) rfl (by kernel_rfl) (by kernel_rfl) (by kernel_rfl) (by kernel_rfl) (fun _ _ _ h => h) (Or.inl ⟨by rfl, ?_⟩) (by assumption) ?_
  rotate_left
  · (intro w hSw; (try dsimp only at hSw); go_simp)
    all_goals (with_reducible rfl)
  (try simp only [List.getElem_toArray, List.getElem_cons_zero, List.getElem_cons_succ, Act.put, List.setIfInBounds_toArray, List.set_cons_zero, List.set_cons_succ])
  refine wpAnyT_pure (i := 8) (oi := _) (v := ?_) rfl (by kernel_rfl) (by kernel_rfl) (by kernel_rfl) (by kernel_rfl) (fun _ _ _ h => h) (Or.inl ⟨by rfl, ?_⟩) (fun _ => by assumption) ?_
  rotate_left
  · (intro w hSw; go_simp)
    all_goals (with_reducible rfl)
  (try simp only [List.getElem_toArray, List.getElem_cons_zero, List.getElem_cons_succ, Act.put, List.setIfInBounds_toArray, List.set_cons_zero, List.set_cons_succ])
  refine wpAnyT_pure (i := 9) (oi := _) (v := ?_) rfl (by kernel_rfl) (by kernel_rfl) (by kernel_rfl) (by kernel_rfl) (fun _ _ _ h => h) (Or.inl ⟨by rfl, ?_⟩) (fun _ => by assumption) ?_
  rotate_left
  · (intro w hSw; go_simp)
    all_goals (with_reducible rfl)
  (try simp only [List.getElem_toArray, List.getElem_cons_zero, List.getElem_cons_succ, Act.put, List.setIfInBounds_toArray, List.set_cons_zero, List.set_cons_succ])
  refine wpAnyT_pure (i := 11) (oi := _) (v := ?_) rfl (by kernel_rfl) (by kernel_rfl) (by kernel_rfl) (by kernel_rfl) (fun _ _ _ h => h) (Or.inl ⟨by rfl, ?_⟩) (fun _ => by assumption) ?_
  rotate_left
  · (intro w hSw; go_simp)
    all_goals (with_reducible rfl)
  (try simp only [List.getElem_toArray, List.getElem_cons_zero, List.getElem_cons_succ, Act.put, List.setIfInBounds_toArray, List.set_cons_zero, List.set_cons_succ])
  refine wpAnyT_ready (rs := [10]) (by kernel_rfl) (by simp) ?_
  refine AllReadyT.cons rfl (fun K hK => ?_) AllReadyT.nil
  go_simp
  (go_at_call 17; ((with_reducible refine HBC.out.mono ?_); rintro e w5 ⟨a5, c5, rfl, HR5, hb5⟩; have HX5 := Lib.hid (carry2 hb5 HX4.out); have HB5 := Lib.hid hb5; obtain ⟨v0, v1, -⟩ := box2 HX5.out.1; have vpc := cell_bel hb5 HPC.out; have hput := ins_five HH.out.1 HH.out.2.2.2.1 HH.out.2.2.2.2.1 HH.out.2.2.2.2.2.1 HG3.out.1 HG3.out.2.1 HG3.out.2.2 HBB.out.2 HB4.out hb5 HR5.out (row := row) (own4 := own3); rw [← HLF.out] at hput; have HPUT := Lib.hid hput; clear hb5 hput))
  go_wp2_with fail
  refine hK.out _ _ (fun _ => ?_) (fun hHeld0 => ?_)
  · (try dsimp only)
    (first | (with_reducible exact ⟨cell_dr u0, cell_dr hpc⟩) | (with_reducible exact ⟨v0, vpc⟩))
  have hHeld := hHeld0 (by kernel_rfl)
  clear hK K hHeld0
  (try simp only [List.getElem_toArray, List.getElem_cons_zero, List.getElem_cons_succ, Act.put, List.setIfInBounds_toArray, List.set_cons_zero, List.set_cons_succ])
  refine wpAnyT_ready (rs := [12]) (by kernel_rfl) (by simp) ?_
  refine AllReadyT.cons rfl (fun K hK => ?_) AllReadyT.nil
  go_simp
  (go_at_call 16; ((with_reducible refine HPUT.out.mono ?_); rintro e w6 hp6; obtain ⟨u6, rfl⟩ := hp6.1; have HP6 := Lib.hid hp6; clear hp6))
  go_wp2_with fail
  refine hK.out _ _ (noneB_off (by kernel_rfl)) (fun _ => ?_)
  clear hK K
  (try simp only [List.getElem_toArray, List.getElem_cons_zero, List.getElem_cons_succ, Act.put, List.setIfInBounds_toArray, List.set_cons_zero, List.set_cons_succ])
  refine wpAnyT_done (by kernel_rfl) ?_ _
  obtain ⟨G, hG⟩ : ∃ G, G = insTr T h k row := ⟨_, rfl⟩
  have hup : Calls Try.prog 18 #[.pointer (some ⟨w.heap.size, 0, none⟩), .slice (some ⟨Pb, 0, none⟩) (h + 1) cp] w6 fun e w' => ∃ u P7 cap7, e = .returned u ∧ Hid (Below w.heap.size w w' ∧ OTr w' (w.heap.size + 2) (.agg #[.slice (some ⟨P7, 0, none⟩) G.pages.length cap7, .int .i64 G.root]) G) ∧
      Hid (w'.heap[w.heap.size]? = some (.cells #[.slice (some ⟨P7, 0, none⟩) G.pages.length cap7, .int .i64 G.root] 24 (0, 0)) ∧ w'.heap[w.heap.size + 1]? = some (.cells #[.slice none 0 0, .int .i64 0] 24 (0, 0))) := by
    obtain ⟨a1, a2, a3, a4, a5, a6, a7⟩ := HH.out
    obtain ⟨b1, b2, b3⟩ := HG3.out
    obtain ⟨-, own6, vs6, g6, f6⟩ := HP6.out
    have hB := HBB.out
    have hz34 := HB4.out.size
    have hz45 := HB5.out.size
    have hPb := HPO.out.lt Pb rfl
    have hX6 : w6.heap[w.heap.size]? = some (.cells #[.slice (some ⟨P, 0, none⟩) N N, .int .i64 T.root] 24 (0, 0)) ∧ w6.heap[w.heap.size + 1]? = some (.cells #[.slice none 0 0, .int .i64 0] 24 (0, 0)) :=
      ⟨(f6.block _ (by omega) (b2 _ (by omega))).trans HX5.out.1, (f6.block _ (by omega) (b2 _ (by omega))).trans HX5.out.2⟩
    have hpv : Rd w6 1 (h + 1) (.slice (some ⟨Pb, 0, none⟩) (h + 1) cp) (nc (pathT h t k)) := Rd.own (own_far (own_below HPO.out HB5.out) fun b hb => by
      have e := own_eq hb
      rw [e]
      exact f6.block _ (by omega) (b3 _ (by omega)))
    have hst := ins_start (Bt := w.heap.size) a1 a2 a3 a4 a7 a5 hX6.1 (by rw [HLF.out] at g6; exact g6)
    refine (splitUp_any w6 B w.heap.size own6 T.root (pathT h t k) (insTr T h k row) h Pb cp (pathT_len h t k) (by omega) hpv (by rw [f6.tag _ (by omega)]; exact b3 _ (by omega)) (by omega) hst (by omega) (by have := f6.size; omega) (fun b hb => by rw [f6.tag _ (by omega)]; exact b2 b hb)).mono fun e w' ⟨⟨u, q0⟩, own7, vs7, P7, cap7, q1, q2, q3⟩ => ?_
    rw [← hG] at q1 q2
    have hbf : Below w.heap.size w w' := by
      have s5 : Below w.heap.size w w5 := (HB3.out.trans (HB4.out.mono (by omega))).trans (HB5.out.mono (by omega))
      have s6 : Below w.heap.size w5 w6 := f6.below (by omega) (fun b hb => b2 b (by omega))
      exact (s5.trans s6).trans (q3.below (Nat.le_refl _) (by have := f6.size; omega) (fun b hb => by rw [f6.tag _ (by omega)]; exact b2 b (by omega)))
    refine ⟨u, P7, cap7, q0, ⟨hbf, ?_⟩, q1, ?_⟩
    · exact ⟨B, own7, _, _, vs7, by omega, rfl, q2⟩
    · exact (q3.block _ (by have := f6.size; omega) (by rw [f6.tag _ (by omega)]; exact b2 _ (by omega)) (by omega)).trans hX6.2
  have HUP := Lib.hid hup
  obtain ⟨ng, hng⟩ : ∃ ng, ng = G.pages.length := ⟨_, rfl⟩
  have HNG := Lib.hid hng
  have HGG := Lib.hid hG
  rw [← hG]
  rw [← hng] at HUP
  clear hup hng hG u0 u1 uf0 uf1 hpc v0 v1 vpc hHeld y0 y1 yf0 yf1 HPUT HBC HPATH
  go_wp2_with fail
  refine HUP.out.mono ?_
  rintro en w7 ⟨u7, P7, cap7, rfl, HE7, HX7⟩
  obtain ⟨x0, x1, -⟩ := box2 HX7.out.1
  obtain ⟨y0, y1, yf0, yf1⟩ := box2 HX7.out.2
  by_cases hbig : 4000 < ng
  · have hb1 : (4000 : Int) < (ng : Int) := by omega
    go_wp2_with fail
    obtain ⟨q0, q1⟩ := box2_two (x := .slice none 0 0) (y := .int .i64 0) y0 y1
    refine bodyPost_ret (v := .tuple #[.agg #[.slice none 0 0, .int .i64 0], .int .i64 10]) (by simp [results, Try.results6, go_sem, q0, q1]; try rfl) rfl ?_
    have e9 := HGG.out
    subst e9
    exact .inr ⟨by rw [← HNG.out]; exact hbig, rfl, (HE7.out.1.setCell (by show w.heap.size ≤ w.heap.size + 1; omega) _).setCell (by show w.heap.size ≤ w.heap.size + 1; omega) _⟩
  · have hb1 : ¬ (4000 : Int) < (ng : Int) := by omega
    go_wp2_with fail
    obtain ⟨q0, q1⟩ := box2_two (x := .slice (some ⟨P7, 0, none⟩) ng cap7) (y := .int .i64 G.root) y0 y1
    refine bodyPost_ret (v := .tuple #[.agg #[.slice (some ⟨P7, 0, none⟩) ng cap7, .int .i64 G.root], .int .i64 0]) (by simp [results, Try.results6, go_sem, q0, q1]; try rfl) rfl ?_
    have e9 := HGG.out
    subst e9
    refine .inl ⟨by rw [← HNG.out]; omega, P7, cap7, by rw [← HNG.out], ?_, (HE7.out.1.setCell (by show w.heap.size ≤ w.heap.size + 1; omega) _).setCell (by show w.heap.size ≤ w.heap.size + 1; omega) _⟩
    have hrt := HE7.out.2
    rw [HNG.out] at hrt ⊢
    exact (hrt.far fun b hb _ => by rw [Below.heap_setCell _ _ _ _ (show b ≠ w.heap.size + 1 by omega), Below.heap_setCell _ _ _ _ (show b ≠ w.heap.size + 1 by omega)]).base (by omega)
end Go.Proofs.Ytahammkjkfdmhaa

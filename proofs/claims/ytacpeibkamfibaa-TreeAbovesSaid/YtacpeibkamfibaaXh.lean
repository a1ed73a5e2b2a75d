/- The document's next entry above a key. -/
import Derived.Test.YtacpeibkamfibaaXf
namespace Go.Proofs.Ytacpeibkamfibaa
open Go.ChangeShapes Go.WideShapes Go.ChangeAt Go.RowKit Go.Shelf
set_option linter.unusedVariables false
set_option linter.unusedSimpArgs false
set_option maxHeartbeats 8000000
set_option maxRecDepth 100000
theorem box2t {W : World} {P : Nat} {u v x y : Value} (h0 : W.cell? ⟨P, 0, none⟩ = some u) (h1 : W.cell? ⟨P, 1, none⟩ = some v) :
    ((W.setCell ⟨P, 0, none⟩ x).setCell ⟨P, 1, none⟩ y).cell? ⟨P, 0, none⟩ = some x ∧ ((W.setCell ⟨P, 0, none⟩ x).setCell ⟨P, 1, none⟩ y).cell? ⟨P, 1, none⟩ = some y :=
  ⟨(World.cell?_setCell_other _ _ _ _ (by simp)).trans (World.cell?_setCell_same _ _ _ h0), World.cell?_setCell_same _ _ _ ((World.cell?_setCell_other _ _ _ _ (by simp)).trans h1)⟩
theorem first_is (k : Key) (l : List (Key × Int)) : firstE k (l.filter fun e => !kl e.1 k) = l.find? fun e => kl k e.1 := by
  unfold firstE
  rw [List.find?_filter]
  congr 1
  funext e
  rcases q : kl k e.1 with _ | _
  · rcases p : kl e.1 k with _ | _
    · have : e.1 = k := bl_tri e.1 k p q
      simp [this]
    · simp
  · have p := kl_not q
    have : e.1 ≠ k := fun h => by rw [h, show kl k k = false from bl_irr k] at q; cases q
    simp [p, this]
def EntOut (r : Option (Key × Int)) (w : World) (e : Ending) (w' : World) : Prop :=
  (∀ en, r = some en → ∃ xa xc, e = .returned (.tuple #[.agg #[.slice xa en.1.length xc, .int .i64 en.2], .int .i64 0]) ∧ RB w' (fun _ => True) (.slice xa en.1.length xc) en.1) ∧ (r = none → e = .returned (.tuple #[.agg #[.slice none 0 0, .int .i64 0], .int .i64 8])) ∧ Below w.heap.size w w'
theorem find_at {k : Key} {l : List (Key × Int)} {j : Nat} (hj : j < l.length) (hb : ∀ i (h : i < l.length), i < j → kl k (l[i]).1 = false) (he : kl k (l[j]).1 = true) : (l.find? fun e => kl k e.1) = some l[j] := by
  have hl : l = l.take j ++ l[j] :: l.drop (j + 1) := by rw [← List.drop_eq_getElem_cons hj, List.take_append_drop]
  obtain ⟨e, hee⟩ : ∃ e, e = l[j] := ⟨_, rfl⟩
  rw [← hee] at he hl ⊢
  rw [hl, List.find?_append]
  have h0 : (l.take j).find? (fun e => kl k e.1) = none := by
    rw [List.find?_eq_none]
    intro x hx
    obtain ⟨i, hi, rfl⟩ := List.getElem_of_mem hx
    rw [List.getElem_take]
    rw [List.length_take] at hi
    simpa using hb i (by omega) (by omega)
  rw [h0]
  simp [he]
theorem rd_box2 {W : World} {B n m c j : Nat} {a : Option Addr} {r : Int} {u x : Value} {T : TypeId} {l : List UInt8} (hbox : W.heap[B]? = some (.cells #[.slice a m c, .int .i64 r] T (0, 0))) (h : Rd W 1 n x (bc l)) : Rd (W.setCell ⟨B, j, none⟩ u) 1 n x (bc l) := by
  obtain ⟨h1, ao, cap, h2, h3, h4, h5, h6⟩ := h
  refine ⟨h1, ao, cap, h2, h3, h4, h5, fun d hd i y hy => ?_⟩
  have hc := h6 d hd i y hy
  by_cases hb : B = (d.add i).block
  · exfalso
    have hm : y ∈ bc l := List.mem_of_getElem? hy
    obtain ⟨b, _, rfl⟩ := List.mem_map.1 hm
    unfold World.cell? at hc
    rw [← hb, hbox] at hc
    simp only at hc
    split at hc
    · cases hc
    · rcases hq : (d.add i).off with _ | _ | q
      · rw [hq] at hc; simp at hc
      · rw [hq] at hc; simp at hc
      · rw [hq] at hc; simp at hc
  · exact set_far (p := ⟨B, j, none⟩) hb hc
theorem aboveK_no (w : World) (ok : Nat → Prop) (hok : ∀ b, ok b → b < w.heap.size) (tv : Value) (ak : Option Addr) (nk ck : Nat) (T : Tr) (ht : RT w ok tv T) (hrr : Rng T.root) (c : Int) (h : (¬ (T.pages.length ≤ 4000 ∧ Pass T) ∧ c = 11) ∨ ((T.pages.length ≤ 4000 ∧ Pass T) ∧ 100 < nk ∧ c = 1)) :
    Calls Try.prog 23 #[tv, .slice ak nk ck] w (NoEnt c w) := by
  obtain ⟨ao, n, cap, rfl⟩ := rt_shape ht
  obtain ⟨W0, hW0⟩ : ∃ W0 : World, W0 = (w.alloc (.cells #[.slice ao n cap, .int .i64 T.root] 24)).alloc (.cells #[.slice none 0 0, .int .i64 0] 36) := ⟨_, rfl⟩
  have hb0 : Below w.heap.size w W0 := by rw [hW0]; exact ((Below.refl _ _).alloc (Nat.le_refl _) _).alloc (by simp) _
  have hy : W0.heap[w.heap.size + 1]? = some (.cells #[.slice none 0 0, .int .i64 0] 36 (0, 0)) := by rw [hW0]; exact new_b2 w _ _
  have hc := treeFault_any W0 ok (fun b hb' => by have := hok b hb'; have := hb0.size; omega) _ T (ht.below hb0) hrr
  unfold ChkIs at hc
  have HW0 := Lib.hid hW0
  clear hW0
  rcases h with ⟨h1, rfl⟩ | ⟨h1, h2, rfl⟩
  · rw [chkT_no h1] at hc
    have HC := Lib.hid hc
    clear hc ht
    go_enter Try.func23, Try.ntmps23
    go_wp2_with fail
    rw [← HW0.out]
    refine HC.out.mono ?_
    rintro e w1 ⟨rfl, hb1⟩
    have HB := Lib.hid (into hb0 hb1)
    obtain ⟨y0, y1, yf0, yf1⟩ := box2 ((hb1.block _ (Array.getElem?_eq_some_iff.1 hy).1).trans hy)
    clear hb1
    go_wp2_with fail
    obtain ⟨q0, q1⟩ := box2t (x := .slice none 0 0) (y := .int .i64 0) y0 y1
    refine bodyPost_ret (v := .tuple #[.agg #[.slice none 0 0, .int .i64 0], .int .i64 11]) (by simp [results, Try.results23, go_sem, q0, q1]; try rfl) rfl ?_
    exact ⟨rfl, (HB.out.setCell (by show w.heap.size ≤ w.heap.size + 1; omega) _).setCell (by show w.heap.size ≤ w.heap.size + 1; omega) _⟩
  · rw [chkT_yes h1.1 h1.2] at hc
    have h3 : (100 : Int) < (nk : Int) := by omega
    have HC := Lib.hid hc
    clear hc ht
    go_enter Try.func23, Try.ntmps23
    go_wp2_with fail
    rw [← HW0.out]
    refine HC.out.mono ?_
    rintro e w1 ⟨rfl, hb1⟩
    have HB := Lib.hid (into hb0 hb1)
    obtain ⟨y0, y1, yf0, yf1⟩ := box2 ((hb1.block _ (Array.getElem?_eq_some_iff.1 hy).1).trans hy)
    clear hb1
    go_wp2_with fail
    obtain ⟨q0, q1⟩ := box2t (x := .slice none 0 0) (y := .int .i64 0) y0 y1
    refine bodyPost_ret (v := .tuple #[.agg #[.slice none 0 0, .int .i64 0], .int .i64 1]) (by simp [results, Try.results23, go_sem, q0, q1]; try rfl) rfl ?_
    exact ⟨rfl, (HB.out.setCell (by show w.heap.size ≤ w.heap.size + 1; omega) _).setCell (by show w.heap.size ≤ w.heap.size + 1; omega) _⟩
theorem aboveK_ok (w : World) (ok ok1 : Nat → Prop) (hok : ∀ b, ok b → b < w.heap.size) (tv kv : Value) (T : Tr) (h : Nat) (t : Tb h) (k : Key) (ht : RT w ok tv T) (hr : Reps T h t) (hk : RB w ok1 kv k) (hN : T.pages.length ≤ 4000) (hrr : Rng T.root) (hkl : k.length ≤ 100) :
    Calls Try.prog 23 #[tv, kv] w (EntOut ((entT h t).find? fun e => kl k e.1) w) := by
  obtain ⟨ao, n, cap, rfl⟩ := rt_shape ht
  obtain ⟨ak, ck, rfl⟩ := hk.sh
  obtain ⟨nk, hnk⟩ : ∃ n, n = k.length := ⟨_, rfl⟩
  rw [← hnk] at hk ⊢
  have hnk1 : (nk : Int) ≤ 100 := by omega
  obtain ⟨W0, hW0⟩ : ∃ W0 : World, W0 = (w.alloc (.cells #[.slice ao n cap, .int .i64 T.root] 24)).alloc (.cells #[.slice none 0 0, .int .i64 0] 36) := ⟨_, rfl⟩
  have hb0 : Below w.heap.size w W0 := by rw [hW0]; exact ((Below.refl _ _).alloc (Nat.le_refl _) _).alloc (by simp) _
  have hx : W0.heap[w.heap.size]? = some (.cells #[.slice ao n cap, .int .i64 T.root] 24 (0, 0)) := by rw [hW0]; exact new_a2 w _ _
  have hy : W0.heap[w.heap.size + 1]? = some (.cells #[.slice none 0 0, .int .i64 0] 36 (0, 0)) := by rw [hW0]; exact new_b2 w _ _
  have hc := treeFault_any W0 ok (fun b hb' => by have := hok b hb'; have := hb0.size; omega) _ T (ht.below hb0) hrr
  unfold ChkIs at hc
  rw [chkT_yes hN (reps_pass hr)] at hc
  have hes := fun (W : World) (hW : Below w.heap.size w W) => entriesOf_any W ok (fun b hb' => by have := hok b hb'; have := hW.size; omega) _ T (ht.below hW) h t hr hN
  obtain ⟨l, hl⟩ : ∃ l, l = entT h t := ⟨_, rfl⟩
  have hl6 : l.length ≤ 1000000 := by have := ent_len hr; rw [← hl] at this; omega
  rw [← hl] at hes ⊢
  have HES := Lib.hid hes
  have HC := Lib.hid hc
  have HK := Lib.hid (And.intro hk hnk)
  have HX0 := Lib.hid (And.intro hx hy)
  have HL6 := Lib.hid hl6
  have HW0 := Lib.hid hW0
  have HB0 := Lib.hid hb0
  clear hc ht hr hk hN hkl hes hl hnk hl6 hx hy hW0 hb0
  go_enter Try.func23, Try.ntmps23
  go_wp2_with fail
  rw [← HW0.out]
  refine HC.out.mono ?_
  rintro e w1 ⟨rfl, hb1⟩
  have HB1 := Lib.hid (into HB0.out hb1)
  have HY1 := Lib.hid ((hb1.block _ (Array.getElem?_eq_some_iff.1 HX0.out.2).1).trans HX0.out.2)
  obtain ⟨z0, z1, -⟩ := box2 ((hb1.block _ (Array.getElem?_eq_some_iff.1 HX0.out.1).1).trans HX0.out.1)
  clear hb1
  go_wp2_with fail
  refine (HES.out w1 HB1.out).mono ?_
  rintro e w5 ⟨vv, cs0, rfl, hown5, hent5, hb5, -⟩
  have HL5' := (show EntV w5 l.length vv l from ⟨cs0, rfl, Rd.own hown5, hent5.mono fun _ _ => trivial⟩)
  obtain ⟨la, lc, rfl⟩ := HL5'.sh
  obtain ⟨ln, hln⟩ : ∃ n, n = l.length := ⟨_, rfl⟩
  rw [← hln] at HL5' ⊢
  have HL5 := Lib.hid HL5'
  have HB5 := Lib.hid (into HB1.out hb5)
  have HKF := Lib.hid (HK.out.1.below HB5.out)
  have HY5 := Lib.hid ((hb5.block _ (Array.getElem?_eq_some_iff.1 HY1.out).1).trans HY1.out)
  have hln6 : ln ≤ 1000000 := by have := HL6.out; omega
  have HLN := Lib.hid hln
  clear hown5 hent5 hb5 z0 z1 HL5' hln
  go_wp2_with fail
  go_loopw [8] (fun i wr => ∃ (j : Nat), j ≤ ln ∧ i = .int .i64 (j : Int) ∧ Hid (∀ i (h : i < l.length), i < j → kl k (l[i]).1 = false) ∧ Hid (wr = w5)) (fun i _ => ln - (intOf i).toNat)
  case atStart => exact ⟨0, by omega, rfl, (fun i h hi => by omega), rfl⟩
  case round =>
    obtain ⟨j, hj, rfl, HF, HW⟩ := hrel
    have hw := HW.out
    subst hw
    obtain ⟨y0, y1, yf0, yf1⟩ := box2 HY5.out
    by_cases hlt : (j : Int) < (ln : Int)
    · obtain ⟨b, o, c, e9, q1, q2, q3⟩ := HL5.out.pos (by omega)
      simp only [Value.slice.injEq] at e9
      obtain ⟨rfl, -, rfl⟩ := e9
      have hjl : j < l.length := by have := HLN.out; omega
      obtain ⟨en, hen⟩ : ∃ en, en = l[j] := ⟨_, rfl⟩
      obtain ⟨ya, yc, d1, d2, y3⟩ := q3 j en (by rw [hen]; exact List.getElem?_eq_getElem hjl)
      have hb1 := bef_any wr _ _ k en.1 (by have q := HKF.out; exact q.1) y3.1
      have HF2 := HF
      rcases hx1 : kl k en.1 with _ | _
      · rw [hx1] at hb1
        have HB1' := Lib.hid hb1
        have HX1 := Lib.hid (And.intro hx1 hen)
        clear hb1 hx1 hen q3 y3
        obtain ⟨ek, er⟩ := en
        simp only at d1 d2 HB1'
        obtain ⟨yn, hyn⟩ : ∃ yn, yn = ek.length := ⟨_, rfl⟩
        rw [← hyn] at d1 HB1'
        clear hyn
        go_wp2_with (go_at_call 40; refine HB1'.out.mono ?_; rintro e w' ⟨rfl, rfl⟩)
        clear d1 d2
        go_roundw
        case rel => exact ⟨j + 1, by omega, by go_num, Lib.hid (fun i h hi => by
          rcases Nat.lt_or_ge i j with g | g
          · exact HF2.out i h g
          · obtain rfl : i = j := by omega
            have := HX1.out
            rw [← this.2]; exact this.1), HW⟩
        case measure => simp [intOf]; omega
      · rw [hx1] at hb1
        have HB1' := Lib.hid hb1
        have hfi := find_at hjl HF.out (by rw [← hen]; exact hx1)
        rw [← hen] at hfi
        have HFI := Lib.hid hfi
        have HY3 := Lib.hid y3
        clear hb1 hx1 hen q3 y3 hfi
        obtain ⟨ek, er⟩ := en
        simp only at d1 d2 HB1' HY3
        obtain ⟨yn, hyn⟩ : ∃ yn, yn = ek.length := ⟨_, rfl⟩
        rw [← hyn] at d1 HB1' HY3
        have HYN := Lib.hid hyn
        clear hyn
        go_wp2_with (go_at_call 40; refine HB1'.out.mono ?_; rintro e w' ⟨rfl, rfl⟩)
        obtain ⟨g0, g1⟩ := box2t (x := .slice ya yn yc) (y := .int .i64 er) y0 y1
        refine bodyPost_ret (v := .tuple #[.agg #[.slice ya yn yc, .int .i64 er], .int .i64 0]) (by simp [results, Try.results23, go_sem, g0, g1]; try rfl) rfl ?_
        refine ⟨fun en' he => ?_, fun he => (by rw [HFI.out] at he; cases he), (HB5.out.setCell (by show w.heap.size ≤ w.heap.size + 1; omega) _).setCell (by show w.heap.size ≤ w.heap.size + 1; omega) _⟩
        rw [HFI.out] at he
        cases he
        have h1 : (wr.setCell ⟨w.heap.size + 1, 0, none⟩ (.slice ya yn yc)).heap[w.heap.size + 1]? = some (.cells #[.slice ya yn yc, .int .i64 0] 36 (0, 0)) := by rw [Lib.heap_setCell_same HY5.out]; rfl
        refine ⟨ya, yc, by rw [HYN.out], ?_, fun _ _ _ _ _ => trivial⟩
        have q := HY3.out.1
        have q2 := rd_box2 (u := .int .i64 er) (j := 1) h1 (rd_box2 (u := .slice ya yn yc) (j := 0) HY5.out q)
        rw [HYN.out] at q2 ⊢
        exact q2
    · obtain rfl : j = ln := by omega
      have hno : (l.find? fun e => kl k e.1) = none := by
        rw [List.find?_eq_none]
        intro e he
        obtain ⟨i, hi, rfl⟩ := List.getElem_of_mem he
        simpa using HF.out i hi (by rw [HLN.out]; exact hi)
      have HNO := Lib.hid hno
      clear hno
      go_wp2_with fail
      obtain ⟨g0, g1⟩ := box2t (x := .slice none 0 0) (y := .int .i64 0) y0 y1
      refine bodyPost_ret (v := .tuple #[.agg #[.slice none 0 0, .int .i64 0], .int .i64 8]) (by simp [results, Try.results23, go_sem, g0, g1]; try rfl) rfl ?_
      exact ⟨fun en he => by (rw [HNO.out] at he; cases he), fun _ => rfl, (HB5.out.setCell (by show w.heap.size ≤ w.heap.size + 1; omega) _).setCell (by show w.heap.size ≤ w.heap.size + 1; omega) _⟩
def EntR (k : Key) (r c : Int) (w : World) (e : Ending) (w' : World) : Prop := ∃ xa xc, e = .returned (.tuple #[.agg #[.slice xa k.length xc, .int .i64 r], .int .i64 c]) ∧ RB w' (fun _ => True) (.slice xa k.length xc) k ∧ Below w.heap.size w w'
theorem NoEnt.r {c : Int} {w : World} {e : Ending} {w' : World} (h : NoEnt c w e w') : EntR [] 0 c w e w' := ⟨none, 0, h.1, rb_nil w', h.2⟩
theorem above_both {T : Tr} (k : Key) (hs : Small T) : ∃ (kk : Key) (r c : Int),
    (∀ (w : World) (ok ok1 : Nat → Prop) (tv kv : Value), (∀ b, ok b → b < w.heap.size) → RT w ok tv T → RB w ok1 kv k → Calls Try.prog 22 #[tv, kv] w (EntR kk r c w)) ∧
    (∀ (w : World) (ok ok1 : Nat → Prop) (tv kv : Value), (∀ b, ok b → b < w.heap.size) → RT w ok tv T → RB w ok1 kv k → Calls Try.prog 23 #[tv, kv] w (EntR kk r c w)) := by
  by_cases hb : T.pages.length ≤ 4000 ∧ Pass T
  · by_cases hk : k.length ≤ 100
    · obtain ⟨h, t, hr⟩ := pass_reps hb.2
      rcases hf : (entT h t).find? (fun e => kl k e.1) with _ | en
      · refine ⟨[], 0, 8, fun w ok ok1 tv kv h1 h2 h3 => ?_, fun w ok ok1 tv kv h1 h2 h3 => ?_⟩
        · refine (above_ok w ok ok1 h1 tv kv T h t k h2 hr h3 hb.1 hs hk).mono fun e w' q => ?_
          rw [first_is, hf] at q
          exact ⟨none, 0, q.1.2 rfl, rb_nil w', q.2⟩
        · refine (aboveK_ok w ok ok1 h1 tv kv T h t k h2 hr h3 hb.1 hs.2 hk).mono fun e w' q => ?_
          rw [hf] at q
          exact ⟨none, 0, q.2.1 rfl, rb_nil w', q.2.2⟩
      · refine ⟨en.1, en.2, 0, fun w ok ok1 tv kv h1 h2 h3 => ?_, fun w ok ok1 tv kv h1 h2 h3 => ?_⟩
        · refine (above_ok w ok ok1 h1 tv kv T h t k h2 hr h3 hb.1 hs hk).mono fun e w' q => ?_
          rw [first_is, hf] at q
          obtain ⟨x, rfl, r⟩ := q.1.1 en rfl
          have hr := Rd.own r
          obtain ⟨_, a, c, rfl, _⟩ := id hr
          exact ⟨a, c, rfl, ⟨hr, fun _ _ _ _ _ => trivial⟩, q.2⟩
        · refine (aboveK_ok w ok ok1 h1 tv kv T h t k h2 hr h3 hb.1 hs.2 hk).mono fun e w' q => ?_
          rw [hf] at q
          obtain ⟨xa, xc, rfl, r⟩ := q.1 en rfl
          exact ⟨xa, xc, rfl, r, q.2.2⟩
    · refine ⟨[], 0, 1, fun w ok ok1 tv kv h1 h2 h3 => ?_, fun w ok ok1 tv kv h1 h2 h3 => ?_⟩
      · obtain ⟨ak, ck, rfl⟩ := h3.sh
        exact (above_size w ok h1 tv ak _ ck T h2 hs hb (by omega)).mono fun e w' q => q.r
      · obtain ⟨ak, ck, rfl⟩ := h3.sh
        exact (aboveK_no w ok h1 tv ak _ ck T h2 hs.2 1 (.inr ⟨hb, by omega, rfl⟩)).mono fun e w' q => q.r
  · refine ⟨[], 0, 11, fun w ok ok1 tv kv h1 h2 h3 => ?_, fun w ok ok1 tv kv h1 h2 h3 => ?_⟩
    · obtain ⟨ak, ck, rfl⟩ := h3.sh
      exact (above_bad w ok h1 tv ak _ ck T h2 hs hb).mono fun e w' q => q.r
    · obtain ⟨ak, ck, rfl⟩ := h3.sh
      exact (aboveK_no w ok h1 tv ak _ ck T h2 hs.2 11 (.inl ⟨hb, rfl⟩)).mono fun e w' q => q.r
end Go.Proofs.Ytacpeibkamfibaa

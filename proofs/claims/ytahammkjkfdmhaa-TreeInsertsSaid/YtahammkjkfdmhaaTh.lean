/- slices.Insert of one element into a row that the call owns: at keys, at numbers. -/
import Derived.Test.YtahammkjkfdmhaaTd
import Derived.Test.YtahammkjkfdmhaaTc
import Derived.Shelf.Spec.SlicesInsertGrow
import Derived.Laws.OwnMore
import Derived.Deep.RegionLaw
namespace Go.Proofs.Ytahammkjkfdmhaa
open Go.ChangeShapes Go.WideShapes Go.ChangeAt Go.RowKit Go.Lib
set_option linter.unusedVariables false
set_option linter.unusedSimpArgs false
set_option maxHeartbeats 8000000
set_option maxRecDepth 100000
/-- Cells laid over others. -/
def layL (xs : List Value) (o : Nat) (vs : List Value) : List Value := xs.take o ++ vs ++ xs.drop (o + vs.length)
theorem layL_cons {xs : List Value} {o : Nat} {v : Value} {vs : List Value} (h : o + (v :: vs).length ≤ xs.length) : layL (xs.set o v) (o + 1) vs = layL xs o (v :: vs) := by
  unfold layL
  simp only [List.length_cons] at h ⊢
  apply List.ext_getElem?
  intro j
  simp only [List.getElem?_append, List.getElem?_take, List.getElem?_drop, List.getElem?_set, List.length_take, List.length_set, List.length_append, List.length_cons, List.getElem?_cons]
  by_cases h1 : j < o
  · rw [if_pos (by omega), if_pos (by omega), if_pos (by omega), if_neg (by omega), if_pos (by omega), if_pos (by omega), if_pos (by omega)]
  · by_cases h2 : j = o
    · subst h2
      rw [if_pos (by omega), if_pos (by omega), if_pos (by omega), if_pos rfl, if_pos (by omega), if_pos (by omega), if_neg (by omega), if_pos (by omega)]
    · by_cases h3 : j < o + 1 + vs.length
      · rw [if_pos (by omega), if_neg (by omega), if_pos (by omega), if_neg (by omega), if_neg (by omega)]
        congr 1
        omega
      · rw [if_neg (by omega), if_neg (by omega), if_neg (by omega)]
        congr 1
        omega
theorem lay_own {base : Nat} {e : TypeId} {size g n cap : Nat} : ∀ (vs : List Value) (o : Nat) (w : World) (xs : List Value), w.ownsRow base e size (.slice (some ⟨g, 0, none⟩) n cap) n xs → o + vs.length ≤ xs.length →
    (w.setCells g o vs).ownsRow base e size (.slice (some ⟨g, 0, none⟩) n cap) n (layL xs o vs) ∧ w.grownBy (w.setCells g o vs) (some g)
  | [], o, w, xs, h, _ => by rw [show layL xs o [] = xs by simp [layL]]; exact ⟨h, ⟨rfl, rfl, rfl, Nat.le_refl _, fun _ _ _ => rfl⟩⟩
  | v :: vs, o, w, xs, h, hl => by
    obtain ⟨h1, h2⟩ := h.stored o v
    obtain ⟨h3, h4⟩ := lay_own vs (o + 1) _ _ h1 (by simp at hl ⊢; omega)
    rw [layL_cons hl] at h3
    exact ⟨h3, ⟨h4.os.trans h2.os, h4.tape.trans h2.tape, h4.output.trans h2.output, Nat.le_trans h2.size h4.size, fun k hk hne => (h4.block k (Nat.lt_of_lt_of_le hk h2.size) hne).trans (h2.block k hk hne)⟩⟩
/-- One laid among others, those behind it moved on: over a row that is one longer. -/
theorem lay_ins {xs ys : List Value} {i : Nat} {x : Value} (hl : ys.length = xs.length + 1) (hi : i ≤ xs.length) (hy : ys.take i = xs.take i) : layL (layL ys (i + 1) (xs.drop i)) i [x] = insAt xs i x := by
  have e1 : layL ys (i + 1) (xs.drop i) = ys.take (i + 1) ++ xs.drop i := by
    unfold layL
    rw [show ys.drop (i + 1 + (xs.drop i).length) = [] from List.drop_eq_nil_of_le (by rw [List.length_drop]; omega), List.append_nil]
  have e2 : (ys.take (i + 1) ++ xs.drop i).take i = xs.take i := by
    rw [List.take_append_of_le_length (by rw [List.length_take]; omega), List.take_take, Nat.min_eq_left (by omega), hy]
  have e3 : (ys.take (i + 1) ++ xs.drop i).drop (i + [x].length) = xs.drop i := List.drop_left' (by rw [List.length_take, List.length_singleton]; omega)
  rw [e1]
  unfold layL insAt
  rw [e2, e3]
  simp
theorem lay_ins2 {xs ys : List Value} {i : Nat} {x : Value} (hl : ys.length = xs.length + 1) (hi : i ≤ xs.length) (hy : ys.take i = xs.take i) : layL (layL ys i [x]) (i + 1) (xs.drop i) = insAt xs i x := by
  have e1 : (layL ys i [x]).take (i + 1) = xs.take i ++ [x] := by
    unfold layL
    rw [hy]
    exact List.take_left' (by simp; omega)
  have e2 : (layL ys i [x]).length = xs.length + 1 := by
    unfold layL
    simp
    omega
  have e3 : (layL ys i [x]).drop (i + 1 + (xs.drop i).length) = [] := List.drop_eq_nil_of_le (by rw [e2, List.length_drop]; omega)
  show (layL ys i [x]).take (i + 1) ++ xs.drop i ++ (layL ys i [x]).drop (i + 1 + (xs.drop i).length) = _
  rw [e1, e3]
  unfold insAt
  simp
/-- A row that the call owns, its block known. -/
theorem own_raw {w : World} {B e g n cap : Nat} {xs : List Value} (h : w.ownsRow B e 1 (.slice (some ⟨g, 0, none⟩) n cap) n xs) : ∃ cur, B ≤ g ∧ w.heap[g]? = some (.cells cur e (0, 0)) ∧ n ≤ cap ∧ cap ≤ maxLen ∧ cur.size = cap * 1 ∧ cur.toList.take (n * 1) = xs := by
  rcases h.2 with ⟨h0, _⟩ | ⟨g', cap', cur, hv, r⟩
  · simp at h0
  · simp only [Value.slice.injEq, Option.some.injEq, Addr.mk.injEq, and_true, true_and] at hv
    obtain ⟨rfl, rfl⟩ := hv
    exact ⟨cur, r⟩
/-- What inserting leaves. -/
def InsIs (w : World) (B e : Nat) (v : Value) (n i : Nat) (xs : List Value) (x : Value) (en : Ending) (w' : World) : Prop :=
  ∃ v', en = .returned v' ∧ w'.ownsRow B e 1 v' (n + 1) (insAt xs i x) ∧ w.grownBy w' v.ownBlock ∧ (v'.ownBlock = v.ownBlock ∨ ∃ k, v'.ownBlock = some k ∧ w.heap.size ≤ k)
theorem ins_end {xs : List Value} {x : Value} {n : Nat} (h : xs.length = n * 1) : xs ++ [x] = insAt xs n x := by
  unfold insAt
  rw [List.take_of_length_le (by omega), List.drop_eq_nil_of_le (by omega)]

theorem insK_end (w : World) (B n : Nat) (v : Value) (xs : List Value) (x : Value) (X : Nat) (hown : w.ownsRow B 25 1 v n xs) (hB : B ≤ w.heap.size) (hn : n ≤ 1000) (hx : w.heap[X]? = some (.cells #[x] 25 (0, 0))) (hx1 : x.oneCell' = true) :
    Calls Try.prog 33 #[v, .int .i64 (n : Int), .slice (some ⟨X, 0, none⟩) 1 1] w (InsIs w B 25 v n n xs x) := by
  obtain ⟨i0, e0, e1, e2, e3⟩ := info_parts Try.info25
  have hnews : ∀ j u, [x][j]? = some u → w.cell? ((⟨X, 0, none⟩ : Addr).add j) = some u := fun j u hu => by
    rcases j with _ | j
    · simp at hu; subst hu; simp [Addr.add_lit, World.cell?, hx]
    · simp at hu
  have hl := hown.1
  have HE := Lib.hid (ins_end (x := x) hl)
  have HO := Lib.hid hown
  have HNW := Lib.hid hnews
  obtain ⟨_, a, cap, rfl, hnc, hcm, hna, -⟩ := Rd.own hown
  unfold maxLen at hcm
  have q1 : (n : Int) ≤ (cap : Int) := by omega
  have q2 : (0 : Int) ≤ (n : Int) := by omega
  clear hown hnews hl hx
  by_cases hcn : cap = n
  · have hcn' : n = cap := hcn.symm
    subst hcn'
    go_enter Try.func33, Try.ntmps33
    go_wp2_with (at_builtin; refine wpList_append_own_at w rfl _ _ 41 rfl B 25 i0 _ 1 24 Try.underlying41 e0 e1 e2 e3 rfl (by omega) (.slice a n n) n xs rfl HO.out ⟨X, 0, none⟩ 1 1 [x] rfl rfl HNW.out (one_one hx1) (by unfold maxLen; omega) (by omega) hB ?_; intro v' w' h1 h2 _ h4; have H1 := Lib.hid (And.intro h1 (And.intro h2 h4)); clear h1 h2 h4)
    go_ret
    obtain ⟨h1, h2, h4⟩ := H1.out
    rw [HE.out] at h1
    exact ⟨v', rfl, h1, h2, h4.imp id fun h => ⟨_, h, Nat.le_refl _⟩⟩
  · go_enter Try.func33, Try.ntmps33
    go_wp2_with (at_builtin; refine wpList_append_own_at w rfl _ _ 41 rfl B 25 i0 _ 1 24 Try.underlying41 e0 e1 e2 e3 rfl (by omega) (.slice a n cap) n xs rfl HO.out ⟨X, 0, none⟩ 1 1 [x] rfl rfl HNW.out (one_one hx1) (by unfold maxLen; omega) (by omega) hB ?_; intro v' w' h1 h2 _ h4; have H1 := Lib.hid (And.intro h1 (And.intro h2 h4)); clear h1 h2 h4)
    go_ret
    obtain ⟨h1, h2, h4⟩ := H1.out
    rw [HE.out] at h1
    exact ⟨v', rfl, h1, h2, h4.imp id fun h => ⟨_, h, Nat.le_refl _⟩⟩
theorem insK_grow (w : World) (B g n i : Nat) (xs : List Value) (x : Value) (X : Nat) (hown : w.ownsRow B 25 1 (.slice (some ⟨g, 0, none⟩) n n) n xs) (hB : B ≤ w.heap.size) (hn : n ≤ 1000) (hi : i < n) (hx : w.heap[X]? = some (.cells #[x] 25 (0, 0))) (hx1 : x.oneCell' = true) (hxs : ∀ u ∈ xs, u.oneCell' = true) :
    Calls Try.prog 33 #[.slice (some ⟨g, 0, none⟩) n n, .int .i64 (i : Int), .slice (some ⟨X, 0, none⟩) 1 1] w (InsIs w B 25 (.slice (some ⟨g, 0, none⟩) n n) n i xs x) := by
  obtain ⟨i0, e0, e1, e2, e3⟩ := info_parts Try.info25
  obtain ⟨cur, hBg, hg, -, -, hcs, htk⟩ := own_raw hown
  have hxl : xs.length = n := by have := hown.1; omega
  have hgw : g < w.heap.size := (Array.getElem?_eq_some_iff.1 hg).1
  have hXw : X < w.heap.size := (Array.getElem?_eq_some_iff.1 hx).1
  have hsz : (Try.prog.info? 25).map (·.size) = some 1 := by rw [e0]; simp [e2]
  have hold : (Builtin.firstCells i0.size i (.slice (some ⟨g, 0, none⟩) i n)).run Try.prog w.drew = .ok (xs.take i).toArray w.drew := by
    rw [e2]
    refine run_firstCells_some w.drew 1 i ⟨g, 0, none⟩ i n (xs.take i) (by rw [List.length_take]; omega) (fun j u hu => ?_)
    rw [List.getElem?_take] at hu
    split at hu
    · exact hown.cells rfl j u hu
    · cases hu
  obtain ⟨G, hG⟩ : ∃ G, G = grownCap w (n + 1) n 25 := ⟨_, rfl⟩
  obtain ⟨ROW, hROW⟩ : ∃ ROW : Array Value, ROW = (xs.take i).toArray ++ Builtin.zeroCells (Value.slice none 0 0).cells (n + 1 - i) ++ Builtin.zeroCells (Value.slice none 0 0).cells (G - (n + 1)) := ⟨_, rfl⟩
  have hGn : n + 1 ≤ G := by rw [hG]; exact grownCap_ge w _ _ _
  have hGm : G ≤ maxLen := by rw [hG]; exact grownCap_le_maxLen w (n + 1) n _ (by unfold maxLen; omega)
  have hRs : ROW.size = G * 1 := by
    rw [hROW]
    simp [Builtin.zeroCells, Value.cells]
    omega
  have hRt : ROW.toList.take i = xs.take i := by
    rw [hROW]
    simp only [Array.toList_append, List.append_assoc]
    rw [List.take_append_of_le_length (by simp; omega)]
    exact List.take_of_length_le (by simp; omega)
  have hrz : ∀ ty (p : Int), p = ((n + 1 - i : Nat) : Int) → (Builtin.append_ #[41, 3] ty #[.slice (some ⟨g, 0, none⟩) i n, .int .i64 p]).run Try.prog w = .ok (.slice (some ⟨w.heap.size, 0, none⟩) (n + 1) G) (w.drew.alloc (.cells ROW 25)) := fun ty p hp => by
    have h := Lib.run_append_grow_zeros w 41 3 ty 25 i0 _ .i64 .i64 Try.underlying41 Try.underlying3 e0 e1 (some ⟨g, 0, none⟩) i n (xs.take i) hold (n + 1 - i) (by omega) (by omega) (by omega) (by omega) (by rw [e3]; omega) (by rw [e3]; exact growslice_fits (by omega) (by omega))
    rw [show i + (n + 1 - i) = n + 1 by omega, ← hG, ← hROW] at h
    rw [hp]
    exact h
  obtain ⟨W1, hW1⟩ : ∃ W1, W1 = w.drew.alloc (.cells ROW 25) := ⟨_, rfl⟩
  rw [← hW1] at hrz
  have hb1 : Below w.heap.size w W1 := by rw [hW1]; exact ((Below.refl _ _).drew).alloc (Nat.le_refl _) _
  have hn1 : W1.heap[w.heap.size]? = some (.cells ROW 25 (0, 0)) := by rw [hW1]; exact new0 w.drew _
  have o1 : W1.ownsRow w.heap.size 25 1 (.slice (some ⟨w.heap.size, 0, none⟩) (n + 1) G) (n + 1) (ROW.toList.take (n + 1)) := ⟨by simp; omega, .inr ⟨w.heap.size, G, ROW, rfl, Nat.le_refl _, hn1, hGn, hGm, hRs, by simp⟩⟩
  have hRl : (ROW.toList.take (n + 1)).length = n + 1 := by simp; omega
  have hRt1 : (ROW.toList.take (n + 1)).take i = xs.take i := by rw [List.take_take, Nat.min_eq_left (by omega)]; exact hRt
  obtain ⟨o2, b2⟩ := lay_own [x] i W1 _ o1 (by rw [hRl]; simp; omega)
  obtain ⟨W2, hW2⟩ : ∃ W2, W2 = W1.setCells w.heap.size i [x] := ⟨_, rfl⟩
  rw [← hW2] at o2 b2
  have o2' : W2.drew.ownsRow w.heap.size 25 1 (.slice (some ⟨w.heap.size, 0, none⟩) (n + 1) G) (n + 1) (layL (ROW.toList.take (n + 1)) i [x]) := own_below o2 (Below.refl _ _).drew
  have hll : (layL (ROW.toList.take (n + 1)) i [x]).length = n + 1 := by have := o2.1; omega
  obtain ⟨o3, b3⟩ := lay_own (xs.drop i) (i + 1) W2.drew _ o2' (by rw [hll, List.length_drop]; omega)
  rw [lay_ins2 (by rw [hRl, hxl]) (by omega) hRt1] at o3
  have hcp1 : ∀ ty dc, (Builtin.copy_ #[41, 41] ty #[.slice (some ⟨w.heap.size, i, none⟩) (n + 1 - i) dc, .slice (some ⟨X, 0, none⟩) 1 1]).run Try.prog W1 = .ok (goInt 1) W2 := fun ty dc => by
    rw [hW2]
    refine run_copy_cells W1 _ _ ty 25 w.heap.size i (n + 1 - i) dc ⟨X, 0, none⟩ 1 1 [x] Try.underlying41 hsz (by show 1 = min 1 (n + 1 - i); omega) (fun j u hu => ?_) (fun j hj => ?_) (fun j hj => o1.frozenAt _) (one_one hx1)
    · rcases j with _ | j
      · simp at hu
        subst hu
        have := (hb1.block X hXw).trans hx
        simp [Addr.add_lit, World.cell?, this]
      · simp at hu
    · have hj0 : j = 0 := by simpa using hj
      subst hj0
      rw [o1.cellAt _ (by omega), List.getElem?_eq_getElem (by rw [hRl]; omega)]
      rfl
  have hcp2 : ∀ ty dc sc, (Builtin.copy_ #[41, 41] ty #[.slice (some ⟨w.heap.size, i + 1, none⟩) (n - i) dc, .slice (some ⟨g, i, none⟩) (n - i) sc]).run Try.prog W2.drew = .ok (goInt (xs.drop i).length) (W2.drew.setCells w.heap.size (i + 1) (xs.drop i)) := fun ty dc sc => by
    refine run_copy_cells W2.drew _ _ ty 25 w.heap.size (i + 1) (n - i) dc ⟨g, i, none⟩ (n - i) sc (xs.drop i) Try.underlying41 hsz (by rw [List.length_drop, hxl]; exact (Nat.min_self _).symm) (fun j u hu => ?_) (fun j hj => ?_) (fun j hj => o2'.frozenAt _) (fun u hu => hxs u (List.mem_of_mem_drop hu))
    · rw [List.getElem?_drop] at hu
      rw [Addr.add_lit]
      have h1 := hown.cells rfl (i + j) u hu
      rw [Addr.add_lit, Nat.zero_add] at h1
      have h2 : W2.heap[g]? = w.heap[g]? := (b2.block g (by have := hb1.size; omega) (by simp; omega)).trans (hb1.block g hgw)
      exact (World.cell?_of_block (w := w) (w' := W2.drew) (a := ⟨g, i + j, none⟩) h2).trans h1
    · rw [List.length_drop] at hj
      rw [o2'.cellAt _ (by omega), List.getElem?_eq_getElem (by rw [hll]; omega)]
      rfl
  have hgb : w.grownBy (W2.drew.setCells w.heap.size (i + 1) (xs.drop i)) (some g) := by
    have hf : Below w.heap.size w (W2.drew.setCells w.heap.size (i + 1) (xs.drop i)) := by
      have s1 : Below w.heap.size w W2 := hb1.grown b2 (by have := hb1.size; omega) (fun k e => by cases e; omega)
      exact (s1.drew).grown b3 (by have := s1.size; exact this) (fun k e => by cases e; omega)
    exact ⟨hf.os, hf.tape, hf.output, hf.size, fun k hk _ => hf.block k hk⟩
  have HP := Lib.hid (And.intro (own_mono o3 hB) hgb)
  obtain ⟨m, hm⟩ : ∃ m, m = n + 1 - i := ⟨_, rfl⟩
  have HRZ : Hid (∀ ty, (Builtin.append_ #[41, 3] ty #[.slice (some ⟨g, 0, none⟩) i n, .int .i64 ((n : Int) + 1 - (i : Int))]).run Try.prog w = .ok (.slice (some ⟨w.heap.size, 0, none⟩) (n + 1) G) W1) := fun ty => hrz ty _ (by omega)
  have HC1 : Hid (∀ ty dc, (Builtin.copy_ #[41, 41] ty #[.slice (some ⟨w.heap.size, i, none⟩) (n + 1 - i) dc, .slice (some ⟨X, 0, none⟩) 1 1]).run Try.prog W1 = .ok (goInt 1) W2) := hcp1
  have HC2 := Lib.hid hcp2
  have z1 : ¬ ((i : Int) = (n : Int)) := by omega
  have z2 : (n : Int) < (n : Int) + 1 := by omega
  have z3 : (i : Int) ≤ (n : Int) := by omega
  have z4 : (0 : Int) ≤ (i : Int) := by omega
  have z5 : ¬ (n = i) := by omega
  have z6 : ¬ (G = i) := by omega
  have z7 : ¬ (G = i + 1) := by omega
  unfold maxLen at hGm
  clear hG hROW hRs hRt hrz hW1 hW2 hb1 hn1 o1 hRl hRt1 o2 b2 o2' hll o3 b3 hcp1 hcp2 hgb hold hown hg hx hcs htk hxl hxs hm
  go_enter Try.func33, Try.ntmps33
  have hcp1 := HC1.out
  go_wp2_with (at_builtin; refine Lib.wpList_append_run _ rfl _ _ _ _ rfl _ _ rfl rfl _ _ (HRZ.out _) ?_)
  clear hcp1
  have hb1 : (0 : Int) ≤ (i : Int) + 1 := by omega
  have hb3 : (i : Int) + 1 ≤ (n : Int) + 1 := by omega
  have hb4 : (i : Int) ≤ (n : Int) := by omega
  have hnn : n + 1 - (i + 1) = n - i := by omega
  have htn : ((i : Int) + 1).toNat = i + 1 := by omega
  have hw1 : IntKind.i64.wrap ((i : Int) + 1) = (i : Int) + 1 := by rw [IntKind.wrap_i64]; omega
  go_region_law (refine step_copy_runI rfl _ _ 41 41 rfl (.slice (some ⟨w.heap.size, i + 1, none⟩) (n - i) (G - (i + 1))) (.slice (some ⟨g, i, none⟩) (n - i) (n - i)) (by simp [Act.eval, Act.put]) (by simp [Act.eval, Act.put]) (HC2.out _ _ _) ?_)
  go_wp2_with fail
  go_ret
  exact ⟨_, rfl, HP.out.1, HP.out.2, .inr ⟨_, rfl, Nat.le_refl _⟩⟩

theorem insK_shift (w : World) (B g n cap i : Nat) (xs : List Value) (x : Value) (X : Nat) (hown : w.ownsRow B 25 1 (.slice (some ⟨g, 0, none⟩) n cap) n xs) (hB : B ≤ w.heap.size) (hn : n ≤ 1000) (hi : i < n) (hcap : n < cap) (hx : w.heap[X]? = some (.cells #[x] 25 (0, 0))) (hne : g ≠ X) (hx1 : x.oneCell' = true) (hxs : ∀ u ∈ xs, u.oneCell' = true) :
    Calls Try.prog 33 #[.slice (some ⟨g, 0, none⟩) n cap, .int .i64 (i : Int), .slice (some ⟨X, 0, none⟩) 1 1] w (InsIs w B 25 (.slice (some ⟨g, 0, none⟩) n cap) n i xs x) := by
  obtain ⟨i0, e0, e1, e2, e3⟩ := info_parts Try.info25
  obtain ⟨cur, hBg, hg, hnc, hcm, hcs, htk⟩ := own_raw hown
  have hxl : xs.length = n := by have := hown.1; omega
  have hsz : (Try.prog.info? 25).map (·.size) = some 1 := by rw [e0]; simp [e2]
  have hov : ∀ lb cb, (callFunc 47 #[.slice (some ⟨X, 0, none⟩) 1 1, .slice (some ⟨g, i + 1, none⟩) lb cb]).run Try.prog w = .ok (.value (.bool false)) w := fun lb cb => by
    rw [run_callFunc_extern Try.func47 (by kernel_rfl) (by kernel_rfl) (by kernel_rfl) (e := Extern.SlicesOverlaps.overlaps #[41, 41] #[4]) (by kernel_rfl),
      Lib.run_overlaps_apart w 41 4 25 Try.underlying41 1 (fun w => Try.sizeOf25 w) ⟨X, 0, none⟩ ⟨g, i + 1, none⟩ 1 1 lb cb (Ne.symm hne) 25 25 1 cur.size (by simp [World.shape?, hx]) (by simp [World.shape?, hg]) (by omega) (by simp [World.frozen?, hx]) (by simp [World.frozen?, hx])]
    rfl
  obtain ⟨y, hy⟩ : ∃ y, cur.toList[n]? = some y := ⟨_, List.getElem?_eq_getElem (by simp; omega)⟩
  have hrow : cur.toList.take ((n + 1) * 1) = xs ++ [y] := by
    rw [Nat.mul_one] at htk ⊢
    rw [List.take_add_one, htk, hy]
    rfl
  have o0 : w.drew.ownsRow B 25 1 (.slice (some ⟨g, 0, none⟩) (n + 1) cap) (n + 1) (xs ++ [y]) := ⟨by simp [hxl], .inr ⟨g, cap, cur, rfl, hBg, hg, by omega, hcm, hcs, hrow⟩⟩
  have hl0 : (xs ++ [y]).length = n + 1 := by simp [hxl]
  obtain ⟨o1, b1⟩ := lay_own (xs.drop i) (i + 1) w.drew _ o0 (by rw [hl0, List.length_drop]; omega)
  obtain ⟨W1, hW1⟩ : ∃ W1, W1 = w.drew.setCells g (i + 1) (xs.drop i) := ⟨_, rfl⟩
  rw [← hW1] at o1 b1
  have hl1 : (layL (xs ++ [y]) (i + 1) (xs.drop i)).length = n + 1 := by have := o1.1; omega
  obtain ⟨o2, b2⟩ := lay_own [x] i W1 _ o1 (by rw [hl1]; simp; omega)
  rw [lay_ins (by rw [hl0, hxl]) (by omega) (List.take_append_of_le_length (by omega))] at o2
  have hcp1 : ∀ ty dc sc, (Builtin.copy_ #[41, 41] ty #[.slice (some ⟨g, i + 1, none⟩) (n - i) dc, .slice (some ⟨g, i, none⟩) (n + 1 - i) sc]).run Try.prog w.drew = .ok (goInt (xs.drop i).length) W1 := fun ty dc sc => by
    rw [hW1]
    refine run_copy_cells w.drew _ _ ty 25 g (i + 1) (n - i) dc ⟨g, i, none⟩ (n + 1 - i) sc (xs.drop i) Try.underlying41 hsz (by rw [List.length_drop, hxl]; show n - i = min (n + 1 - i) (n - i); omega) (fun j u hu => ?_) (fun j hj => ?_) (fun j hj => o0.frozenAt _) (fun u hu => hxs u (List.mem_of_mem_drop hu))
    · rw [List.getElem?_drop] at hu
      rw [Addr.add_lit]
      have h1 := hown.cells rfl (i + j) u hu
      rw [Addr.add_lit, Nat.zero_add] at h1
      exact h1
    · rw [List.length_drop] at hj
      rw [o0.cellAt _ (by omega), List.getElem?_eq_getElem (by rw [hl0]; omega)]
      rfl
  have hcp2 : ∀ ty dc, (Builtin.copy_ #[41, 41] ty #[.slice (some ⟨g, i, none⟩) (n + 1 - i) dc, .slice (some ⟨X, 0, none⟩) 1 1]).run Try.prog W1 = .ok (goInt 1) (W1.setCells g i [x]) := fun ty dc => by
    refine run_copy_cells W1 _ _ ty 25 g i (n + 1 - i) dc ⟨X, 0, none⟩ 1 1 [x] Try.underlying41 hsz (by show 1 = min 1 (n + 1 - i); omega) (fun j u hu => ?_) (fun j hj => ?_) (fun j hj => o1.frozenAt _) (one_one hx1)
    · rcases j with _ | j
      · simp at hu
        subst hu
        have := (b1.block X (Array.getElem?_eq_some_iff.1 hx).1 (by simpa using (Ne.symm hne))).trans hx
        simp [Addr.add_lit, World.cell?, this]
      · simp at hu
    · have hj0 : j = 0 := by simpa using hj
      subst hj0
      rw [o1.cellAt _ (by omega), List.getElem?_eq_getElem (by rw [hl1]; omega)]
      rfl
  have hgb : w.grownBy (W1.setCells g i [x]) (some g) := ⟨b2.os.trans b1.os, b2.tape.trans b1.tape, b2.output.trans b1.output, Nat.le_trans b1.size b2.size, fun k hk hne => (b2.block k (Nat.lt_of_lt_of_le hk b1.size) hne).trans (b1.block k hk hne)⟩
  have HP := Lib.hid (And.intro o2 hgb)
  have HC1 := Lib.hid hcp1
  have HC2 := Lib.hid hcp2
  have HOV := Lib.hid hov
  have z1 : ¬ ((i : Int) = (n : Int)) := by omega
  have z2 : ¬ ((cap : Int) < (n : Int) + 1) := by omega
  have z3 : (i : Int) ≤ (n : Int) := by omega
  have z4 : (0 : Int) ≤ (i : Int) := by omega
  have z5 : ¬ (cap = i) := by omega
  have z6 : ¬ (cap = i + 1) := by omega
  have z7 : n + 1 ≤ cap := by omega
  have z8 : (n : Int) + 1 ≤ (cap : Int) := by omega
  have z9 : (i : Int) ≤ (n : Int) + 1 := by omega
  have z10 : n + 1 - (i + 1) = n - i := by omega
  unfold maxLen at hcm
  clear hW1 o0 hl0 o1 b1 hl1 o2 b2 hcp1 hcp2 hgb hown hg hx hcs htk hxl hxs hrow hy hov
  go_enter Try.func33, Try.ntmps33
  have hov := HOV.out
  go_wp2_with fail
  clear hov
  have hb1 : (0 : Int) ≤ (i : Int) + 1 := by omega
  have hb3 : (i : Int) + 1 ≤ (n : Int) + 1 := by omega
  have htn : ((i : Int) + 1).toNat = i + 1 := by omega
  have hw1 : IntKind.i64.wrap ((i : Int) + 1) = (i : Int) + 1 := by rw [IntKind.wrap_i64]; omega
  go_region_law (refine step_copy_runI rfl _ _ 41 41 rfl (.slice (some ⟨g, i + 1, none⟩) (n - i) (cap - (i + 1))) (.slice (some ⟨g, i, none⟩) (n + 1 - i) (cap - i)) (by simp [Act.eval, Act.put]) (by simp [Act.eval, Act.put]) (HC1.out _ _ _) ?_)
  clear hw1 htn hb1 hb3
  have hcp2 := HC2.out
  go_wp2_with fail
  go_ret
  exact ⟨_, rfl, HP.out.1, HP.out.2, .inl rfl⟩
/-- .. whatever the row. -/
theorem insK_any (w : World) (B n i : Nat) (v : Value) (xs : List Value) (x : Value) (X : Nat) (hown : w.ownsRow B 25 1 v n xs) (hB : B ≤ w.heap.size) (hn : n ≤ 1000) (hi : i ≤ n) (hx : w.heap[X]? = some (.cells #[x] 25 (0, 0))) (hne : v.ownBlock ≠ some X) (hx1 : x.oneCell' = true) (hxs : ∀ u ∈ xs, u.oneCell' = true) :
    Calls Try.prog 33 #[v, .int .i64 (i : Int), .slice (some ⟨X, 0, none⟩) 1 1] w (InsIs w B 25 v n i xs x) := by
  by_cases hin : i = n
  · subst hin
    exact insK_end w B i v xs x X hown hB hn hx hx1
  · obtain ⟨g, cap, rfl, -, -, hnc, -⟩ := own_hd hown (by omega)
    by_cases hc : cap = n
    · subst hc
      exact insK_grow w B g cap i xs x X hown hB hn (by omega) hx hx1 hxs
    · exact insK_shift w B g n cap i xs x X hown hB hn (by omega) (by omega) hx (by simpa [Value.ownBlock] using hne) hx1 hxs

theorem insI_end (w : World) (B n : Nat) (v : Value) (xs : List Value) (x : Value) (X : Nat) (hown : w.ownsRow B 3 1 v n xs) (hB : B ≤ w.heap.size) (hn : n ≤ 1000) (hx : w.heap[X]? = some (.cells #[x] 3 (0, 0))) (hx1 : x.oneCell' = true) :
    Calls Try.prog 34 #[v, .int .i64 (n : Int), .slice (some ⟨X, 0, none⟩) 1 1] w (InsIs w B 3 v n n xs x) := by
  obtain ⟨i0, e0, e1, e2, e3⟩ := info_parts Try.info3
  have hnews : ∀ j u, [x][j]? = some u → w.cell? ((⟨X, 0, none⟩ : Addr).add j) = some u := fun j u hu => by
    rcases j with _ | j
    · simp at hu; subst hu; simp [Addr.add_lit, World.cell?, hx]
    · simp at hu
  have hl := hown.1
  have HE := Lib.hid (ins_end (x := x) hl)
  have HO := Lib.hid hown
  have HNW := Lib.hid hnews
  obtain ⟨_, a, cap, rfl, hnc, hcm, hna, -⟩ := Rd.own hown
  unfold maxLen at hcm
  have q1 : (n : Int) ≤ (cap : Int) := by omega
  have q2 : (0 : Int) ≤ (n : Int) := by omega
  clear hown hnews hl hx
  by_cases hcn : cap = n
  · have hcn' : n = cap := hcn.symm
    subst hcn'
    go_enter Try.func34, Try.ntmps34
    go_wp2_with (at_builtin; refine wpList_append_own_at w rfl _ _ 37 rfl B 3 i0 _ 1 8 Try.underlying37 e0 e1 e2 e3 rfl (by omega) (.slice a n n) n xs rfl HO.out ⟨X, 0, none⟩ 1 1 [x] rfl rfl HNW.out (one_one hx1) (by unfold maxLen; omega) (by omega) hB ?_; intro v' w' h1 h2 _ h4; have H1 := Lib.hid (And.intro h1 (And.intro h2 h4)); clear h1 h2 h4)
    go_ret
    obtain ⟨h1, h2, h4⟩ := H1.out
    rw [HE.out] at h1
    exact ⟨v', rfl, h1, h2, h4.imp id fun h => ⟨_, h, Nat.le_refl _⟩⟩
  · go_enter Try.func34, Try.ntmps34
    go_wp2_with (at_builtin; refine wpList_append_own_at w rfl _ _ 37 rfl B 3 i0 _ 1 8 Try.underlying37 e0 e1 e2 e3 rfl (by omega) (.slice a n cap) n xs rfl HO.out ⟨X, 0, none⟩ 1 1 [x] rfl rfl HNW.out (one_one hx1) (by unfold maxLen; omega) (by omega) hB ?_; intro v' w' h1 h2 _ h4; have H1 := Lib.hid (And.intro h1 (And.intro h2 h4)); clear h1 h2 h4)
    go_ret
    obtain ⟨h1, h2, h4⟩ := H1.out
    rw [HE.out] at h1
    exact ⟨v', rfl, h1, h2, h4.imp id fun h => ⟨_, h, Nat.le_refl _⟩⟩
theorem insI_grow (w : World) (B g n i : Nat) (xs : List Value) (x : Value) (X : Nat) (hown : w.ownsRow B 3 1 (.slice (some ⟨g, 0, none⟩) n n) n xs) (hB : B ≤ w.heap.size) (hn : n ≤ 1000) (hi : i < n) (hx : w.heap[X]? = some (.cells #[x] 3 (0, 0))) (hx1 : x.oneCell' = true) (hxs : ∀ u ∈ xs, u.oneCell' = true) :
    Calls Try.prog 34 #[.slice (some ⟨g, 0, none⟩) n n, .int .i64 (i : Int), .slice (some ⟨X, 0, none⟩) 1 1] w (InsIs w B 3 (.slice (some ⟨g, 0, none⟩) n n) n i xs x) := by
  obtain ⟨i0, e0, e1, e2, e3⟩ := info_parts Try.info3
  obtain ⟨cur, hBg, hg, -, -, hcs, htk⟩ := own_raw hown
  have hxl : xs.length = n := by have := hown.1; omega
  have hgw : g < w.heap.size := (Array.getElem?_eq_some_iff.1 hg).1
  have hXw : X < w.heap.size := (Array.getElem?_eq_some_iff.1 hx).1
  have hsz : (Try.prog.info? 3).map (·.size) = some 1 := by rw [e0]; simp [e2]
  have hold : (Builtin.firstCells i0.size i (.slice (some ⟨g, 0, none⟩) i n)).run Try.prog w.drew = .ok (xs.take i).toArray w.drew := by
    rw [e2]
    refine run_firstCells_some w.drew 1 i ⟨g, 0, none⟩ i n (xs.take i) (by rw [List.length_take]; omega) (fun j u hu => ?_)
    rw [List.getElem?_take] at hu
    split at hu
    · exact hown.cells rfl j u hu
    · cases hu
  obtain ⟨G, hG⟩ : ∃ G, G = grownCap w (n + 1) n 3 := ⟨_, rfl⟩
  obtain ⟨ROW, hROW⟩ : ∃ ROW : Array Value, ROW = (xs.take i).toArray ++ Builtin.zeroCells (Value.int .i64 0).cells (n + 1 - i) ++ Builtin.zeroCells (Value.int .i64 0).cells (G - (n + 1)) := ⟨_, rfl⟩
  have hGn : n + 1 ≤ G := by rw [hG]; exact grownCap_ge w _ _ _
  have hGm : G ≤ maxLen := by rw [hG]; exact grownCap_le_maxLen w (n + 1) n _ (by unfold maxLen; omega)
  have hRs : ROW.size = G * 1 := by
    rw [hROW]
    simp [Builtin.zeroCells, Value.cells]
    omega
  have hRt : ROW.toList.take i = xs.take i := by
    rw [hROW]
    simp only [Array.toList_append, List.append_assoc]
    rw [List.take_append_of_le_length (by simp; omega)]
    exact List.take_of_length_le (by simp; omega)
  have hrz : ∀ ty (p : Int), p = ((n + 1 - i : Nat) : Int) → (Builtin.append_ #[37, 3] ty #[.slice (some ⟨g, 0, none⟩) i n, .int .i64 p]).run Try.prog w = .ok (.slice (some ⟨w.heap.size, 0, none⟩) (n + 1) G) (w.drew.alloc (.cells ROW 3)) := fun ty p hp => by
    have h := Lib.run_append_grow_zeros w 37 3 ty 3 i0 _ .i64 .i64 Try.underlying37 Try.underlying3 e0 e1 (some ⟨g, 0, none⟩) i n (xs.take i) hold (n + 1 - i) (by omega) (by omega) (by omega) (by omega) (by rw [e3]; omega) (by rw [e3]; exact growslice_fits (by omega) (by omega))
    rw [show i + (n + 1 - i) = n + 1 by omega, ← hG, ← hROW] at h
    rw [hp]
    exact h
  obtain ⟨W1, hW1⟩ : ∃ W1, W1 = w.drew.alloc (.cells ROW 3) := ⟨_, rfl⟩
  rw [← hW1] at hrz
  have hb1 : Below w.heap.size w W1 := by rw [hW1]; exact ((Below.refl _ _).drew).alloc (Nat.le_refl _) _
  have hn1 : W1.heap[w.heap.size]? = some (.cells ROW 3 (0, 0)) := by rw [hW1]; exact new0 w.drew _
  have o1 : W1.ownsRow w.heap.size 3 1 (.slice (some ⟨w.heap.size, 0, none⟩) (n + 1) G) (n + 1) (ROW.toList.take (n + 1)) := ⟨by simp; omega, .inr ⟨w.heap.size, G, ROW, rfl, Nat.le_refl _, hn1, hGn, hGm, hRs, by simp⟩⟩
  have hRl : (ROW.toList.take (n + 1)).length = n + 1 := by simp; omega
  have hRt1 : (ROW.toList.take (n + 1)).take i = xs.take i := by rw [List.take_take, Nat.min_eq_left (by omega)]; exact hRt
  obtain ⟨o2, b2⟩ := lay_own [x] i W1 _ o1 (by rw [hRl]; simp; omega)
  obtain ⟨W2, hW2⟩ : ∃ W2, W2 = W1.setCells w.heap.size i [x] := ⟨_, rfl⟩
  rw [← hW2] at o2 b2
  have o2' : W2.drew.ownsRow w.heap.size 3 1 (.slice (some ⟨w.heap.size, 0, none⟩) (n + 1) G) (n + 1) (layL (ROW.toList.take (n + 1)) i [x]) := own_below o2 (Below.refl _ _).drew
  have hll : (layL (ROW.toList.take (n + 1)) i [x]).length = n + 1 := by have := o2.1; omega
  obtain ⟨o3, b3⟩ := lay_own (xs.drop i) (i + 1) W2.drew _ o2' (by rw [hll, List.length_drop]; omega)
  rw [lay_ins2 (by rw [hRl, hxl]) (by omega) hRt1] at o3
  have hcp1 : ∀ ty dc, (Builtin.copy_ #[37, 37] ty #[.slice (some ⟨w.heap.size, i, none⟩) (n + 1 - i) dc, .slice (some ⟨X, 0, none⟩) 1 1]).run Try.prog W1 = .ok (goInt 1) W2 := fun ty dc => by
    rw [hW2]
    refine run_copy_cells W1 _ _ ty 3 w.heap.size i (n + 1 - i) dc ⟨X, 0, none⟩ 1 1 [x] Try.underlying37 hsz (by show 1 = min 1 (n + 1 - i); omega) (fun j u hu => ?_) (fun j hj => ?_) (fun j hj => o1.frozenAt _) (one_one hx1)
    · rcases j with _ | j
      · simp at hu
        subst hu
        have := (hb1.block X hXw).trans hx
        simp [Addr.add_lit, World.cell?, this]
      · simp at hu
    · have hj0 : j = 0 := by simpa using hj
      subst hj0
      rw [o1.cellAt _ (by omega), List.getElem?_eq_getElem (by rw [hRl]; omega)]
      rfl
  have hcp2 : ∀ ty dc sc, (Builtin.copy_ #[37, 37] ty #[.slice (some ⟨w.heap.size, i + 1, none⟩) (n - i) dc, .slice (some ⟨g, i, none⟩) (n - i) sc]).run Try.prog W2.drew = .ok (goInt (xs.drop i).length) (W2.drew.setCells w.heap.size (i + 1) (xs.drop i)) := fun ty dc sc => by
    refine run_copy_cells W2.drew _ _ ty 3 w.heap.size (i + 1) (n - i) dc ⟨g, i, none⟩ (n - i) sc (xs.drop i) Try.underlying37 hsz (by rw [List.length_drop, hxl]; exact (Nat.min_self _).symm) (fun j u hu => ?_) (fun j hj => ?_) (fun j hj => o2'.frozenAt _) (fun u hu => hxs u (List.mem_of_mem_drop hu))
    · rw [List.getElem?_drop] at hu
      rw [Addr.add_lit]
      have h1 := hown.cells rfl (i + j) u hu
      rw [Addr.add_lit, Nat.zero_add] at h1
      have h2 : W2.heap[g]? = w.heap[g]? := (b2.block g (by have := hb1.size; omega) (by simp; omega)).trans (hb1.block g hgw)
      exact (World.cell?_of_block (w := w) (w' := W2.drew) (a := ⟨g, i + j, none⟩) h2).trans h1
    · rw [List.length_drop] at hj
      rw [o2'.cellAt _ (by omega), List.getElem?_eq_getElem (by rw [hll]; omega)]
      rfl
  have hgb : w.grownBy (W2.drew.setCells w.heap.size (i + 1) (xs.drop i)) (some g) := by
    have hf : Below w.heap.size w (W2.drew.setCells w.heap.size (i + 1) (xs.drop i)) := by
      have s1 : Below w.heap.size w W2 := hb1.grown b2 (by have := hb1.size; omega) (fun k e => by cases e; omega)
      exact (s1.drew).grown b3 (by have := s1.size; exact this) (fun k e => by cases e; omega)
    exact ⟨hf.os, hf.tape, hf.output, hf.size, fun k hk _ => hf.block k hk⟩
  have HP := Lib.hid (And.intro (own_mono o3 hB) hgb)
  obtain ⟨m, hm⟩ : ∃ m, m = n + 1 - i := ⟨_, rfl⟩
  have HRZ : Hid (∀ ty, (Builtin.append_ #[37, 3] ty #[.slice (some ⟨g, 0, none⟩) i n, .int .i64 ((n : Int) + 1 - (i : Int))]).run Try.prog w = .ok (.slice (some ⟨w.heap.size, 0, none⟩) (n + 1) G) W1) := fun ty => hrz ty _ (by omega)
  have HC1 : Hid (∀ ty dc, (Builtin.copy_ #[37, 37] ty #[.slice (some ⟨w.heap.size, i, none⟩) (n + 1 - i) dc, .slice (some ⟨X, 0, none⟩) 1 1]).run Try.prog W1 = .ok (goInt 1) W2) := hcp1
  have HC2 := Lib.hid hcp2
  have z1 : ¬ ((i : Int) = (n : Int)) := by omega
  have z2 : (n : Int) < (n : Int) + 1 := by omega
  have z3 : (i : Int) ≤ (n : Int) := by omega
  have z4 : (0 : Int) ≤ (i : Int) := by omega
  have z5 : ¬ (n = i) := by omega
  have z6 : ¬ (G = i) := by omega
  have z7 : ¬ (G = i + 1) := by omega
  unfold maxLen at hGm
  clear hG hROW hRs hRt hrz hW1 hW2 hb1 hn1 o1 hRl hRt1 o2 b2 o2' hll o3 b3 hcp1 hcp2 hgb hold hown hg hx hcs htk hxl hxs hm
  go_enter Try.func34, Try.ntmps34
  have hcp1 := HC1.out
  go_wp2_with (at_builtin; refine Lib.wpList_append_run _ rfl _ _ _ _ rfl _ _ rfl rfl _ _ (HRZ.out _) ?_)
  clear hcp1
  have hb1 : (0 : Int) ≤ (i : Int) + 1 := by omega
  have hb3 : (i : Int) + 1 ≤ (n : Int) + 1 := by omega
  have hb4 : (i : Int) ≤ (n : Int) := by omega
  have hnn : n + 1 - (i + 1) = n - i := by omega
  have htn : ((i : Int) + 1).toNat = i + 1 := by omega
  have hw1 : IntKind.i64.wrap ((i : Int) + 1) = (i : Int) + 1 := by rw [IntKind.wrap_i64]; omega
  go_region_law (refine step_copy_runI rfl _ _ 37 37 rfl (.slice (some ⟨w.heap.size, i + 1, none⟩) (n - i) (G - (i + 1))) (.slice (some ⟨g, i, none⟩) (n - i) (n - i)) (by simp [Act.eval, Act.put]) (by simp [Act.eval, Act.put]) (HC2.out _ _ _) ?_)
  go_wp2_with fail
  go_ret
  exact ⟨_, rfl, HP.out.1, HP.out.2, .inr ⟨_, rfl, Nat.le_refl _⟩⟩

theorem insI_shift (w : World) (B g n cap i : Nat) (xs : List Value) (x : Value) (X : Nat) (hown : w.ownsRow B 3 1 (.slice (some ⟨g, 0, none⟩) n cap) n xs) (hB : B ≤ w.heap.size) (hn : n ≤ 1000) (hi : i < n) (hcap : n < cap) (hx : w.heap[X]? = some (.cells #[x] 3 (0, 0))) (hne : g ≠ X) (hx1 : x.oneCell' = true) (hxs : ∀ u ∈ xs, u.oneCell' = true) :
    Calls Try.prog 34 #[.slice (some ⟨g, 0, none⟩) n cap, .int .i64 (i : Int), .slice (some ⟨X, 0, none⟩) 1 1] w (InsIs w B 3 (.slice (some ⟨g, 0, none⟩) n cap) n i xs x) := by
  obtain ⟨i0, e0, e1, e2, e3⟩ := info_parts Try.info3
  obtain ⟨cur, hBg, hg, hnc, hcm, hcs, htk⟩ := own_raw hown
  have hxl : xs.length = n := by have := hown.1; omega
  have hsz : (Try.prog.info? 3).map (·.size) = some 1 := by rw [e0]; simp [e2]
  have hov : ∀ lb cb, (callFunc 49 #[.slice (some ⟨X, 0, none⟩) 1 1, .slice (some ⟨g, i + 1, none⟩) lb cb]).run Try.prog w = .ok (.value (.bool false)) w := fun lb cb => by
    rw [run_callFunc_extern Try.func49 (by kernel_rfl) (by kernel_rfl) (by kernel_rfl) (e := Extern.SlicesOverlaps.overlaps #[37, 37] #[4]) (by kernel_rfl),
      Lib.run_overlaps_apart w 37 4 3 Try.underlying37 1 (fun w => Try.sizeOf3 w) ⟨X, 0, none⟩ ⟨g, i + 1, none⟩ 1 1 lb cb (Ne.symm hne) 3 3 1 cur.size (by simp [World.shape?, hx]) (by simp [World.shape?, hg]) (by omega) (by simp [World.frozen?, hx]) (by simp [World.frozen?, hx])]
    rfl
  obtain ⟨y, hy⟩ : ∃ y, cur.toList[n]? = some y := ⟨_, List.getElem?_eq_getElem (by simp; omega)⟩
  have hrow : cur.toList.take ((n + 1) * 1) = xs ++ [y] := by
    rw [Nat.mul_one] at htk ⊢
    rw [List.take_add_one, htk, hy]
    rfl
  have o0 : w.drew.ownsRow B 3 1 (.slice (some ⟨g, 0, none⟩) (n + 1) cap) (n + 1) (xs ++ [y]) := ⟨by simp [hxl], .inr ⟨g, cap, cur, rfl, hBg, hg, by omega, hcm, hcs, hrow⟩⟩
  have hl0 : (xs ++ [y]).length = n + 1 := by simp [hxl]
  obtain ⟨o1, b1⟩ := lay_own (xs.drop i) (i + 1) w.drew _ o0 (by rw [hl0, List.length_drop]; omega)
  obtain ⟨W1, hW1⟩ : ∃ W1, W1 = w.drew.setCells g (i + 1) (xs.drop i) := ⟨_, rfl⟩
  rw [← hW1] at o1 b1
  have hl1 : (layL (xs ++ [y]) (i + 1) (xs.drop i)).length = n + 1 := by have := o1.1; omega
  obtain ⟨o2, b2⟩ := lay_own [x] i W1 _ o1 (by rw [hl1]; simp; omega)
  rw [lay_ins (by rw [hl0, hxl]) (by omega) (List.take_append_of_le_length (by omega))] at o2
  have hcp1 : ∀ ty dc sc, (Builtin.copy_ #[37, 37] ty #[.slice (some ⟨g, i + 1, none⟩) (n - i) dc, .slice (some ⟨g, i, none⟩) (n + 1 - i) sc]).run Try.prog w.drew = .ok (goInt (xs.drop i).length) W1 := fun ty dc sc => by
    rw [hW1]
    refine run_copy_cells w.drew _ _ ty 3 g (i + 1) (n - i) dc ⟨g, i, none⟩ (n + 1 - i) sc (xs.drop i) Try.underlying37 hsz (by rw [List.length_drop, hxl]; show n - i = min (n + 1 - i) (n - i); omega) (fun j u hu => ?_) (fun j hj => ?_) (fun j hj => o0.frozenAt _) (fun u hu => hxs u (List.mem_of_mem_drop hu))
    · rw [List.getElem?_drop] at hu
      rw [Addr.add_lit]
      have h1 := hown.cells rfl (i + j) u hu
      rw [Addr.add_lit, Nat.zero_add] at h1
      exact h1
    · rw [List.length_drop] at hj
      rw [o0.cellAt _ (by omega), List.getElem?_eq_getElem (by rw [hl0]; omega)]
      rfl
  have hcp2 : ∀ ty dc, (Builtin.copy_ #[37, 37] ty #[.slice (some ⟨g, i, none⟩) (n + 1 - i) dc, .slice (some ⟨X, 0, none⟩) 1 1]).run Try.prog W1 = .ok (goInt 1) (W1.setCells g i [x]) := fun ty dc => by
    refine run_copy_cells W1 _ _ ty 3 g i (n + 1 - i) dc ⟨X, 0, none⟩ 1 1 [x] Try.underlying37 hsz (by show 1 = min 1 (n + 1 - i); omega) (fun j u hu => ?_) (fun j hj => ?_) (fun j hj => o1.frozenAt _) (one_one hx1)
    · rcases j with _ | j
      · simp at hu
        subst hu
        have := (b1.block X (Array.getElem?_eq_some_iff.1 hx).1 (by simpa using (Ne.symm hne))).trans hx
        simp [Addr.add_lit, World.cell?, this]
      · simp at hu
    · have hj0 : j = 0 := by simpa using hj
      subst hj0
      rw [o1.cellAt _ (by omega), List.getElem?_eq_getElem (by rw [hl1]; omega)]
      rfl
  have hgb : w.grownBy (W1.setCells g i [x]) (some g) := ⟨b2.os.trans b1.os, b2.tape.trans b1.tape, b2.output.trans b1.output, Nat.le_trans b1.size b2.size, fun k hk hne => (b2.block k (Nat.lt_of_lt_of_le hk b1.size) hne).trans (b1.block k hk hne)⟩
  have HP := Lib.hid (And.intro o2 hgb)
  have HC1 := Lib.hid hcp1
  have HC2 := Lib.hid hcp2
  have HOV := Lib.hid hov
  have z1 : ¬ ((i : Int) = (n : Int)) := by omega
  have z2 : ¬ ((cap : Int) < (n : Int) + 1) := by omega
  have z3 : (i : Int) ≤ (n : Int) := by omega
  have z4 : (0 : Int) ≤ (i : Int) := by omega
  have z5 : ¬ (cap = i) := by omega
  have z6 : ¬ (cap = i + 1) := by omega
  have z7 : n + 1 ≤ cap := by omega
  have z8 : (n : Int) + 1 ≤ (cap : Int) := by omega
  have z9 : (i : Int) ≤ (n : Int) + 1 := by omega
  have z10 : n + 1 - (i + 1) = n - i := by omega
  unfold maxLen at hcm
  clear hW1 o0 hl0 o1 b1 hl1 o2 b2 hcp1 hcp2 hgb hown hg hx hcs htk hxl hxs hrow hy hov
  go_enter Try.func34, Try.ntmps34
  have hov := HOV.out
  go_wp2_with fail
  clear hov
  have hb1 : (0 : Int) ≤ (i : Int) + 1 := by omega
  have hb3 : (i : Int) + 1 ≤ (n : Int) + 1 := by omega
  have htn : ((i : Int) + 1).toNat = i + 1 := by omega
  have hw1 : IntKind.i64.wrap ((i : Int) + 1) = (i : Int) + 1 := by rw [IntKind.wrap_i64]; omega
  go_region_law (refine step_copy_runI rfl _ _ 37 37 rfl (.slice (some ⟨g, i + 1, none⟩) (n - i) (cap - (i + 1))) (.slice (some ⟨g, i, none⟩) (n + 1 - i) (cap - i)) (by simp [Act.eval, Act.put]) (by simp [Act.eval, Act.put]) (HC1.out _ _ _) ?_)
  clear hw1 htn hb1 hb3
  have hcp2 := HC2.out
  go_wp2_with fail
  go_ret
  exact ⟨_, rfl, HP.out.1, HP.out.2, .inl rfl⟩
/-- .. whatever the row. -/
theorem insI_any (w : World) (B n i : Nat) (v : Value) (xs : List Value) (x : Value) (X : Nat) (hown : w.ownsRow B 3 1 v n xs) (hB : B ≤ w.heap.size) (hn : n ≤ 1000) (hi : i ≤ n) (hx : w.heap[X]? = some (.cells #[x] 3 (0, 0))) (hne : v.ownBlock ≠ some X) (hx1 : x.oneCell' = true) (hxs : ∀ u ∈ xs, u.oneCell' = true) :
    Calls Try.prog 34 #[v, .int .i64 (i : Int), .slice (some ⟨X, 0, none⟩) 1 1] w (InsIs w B 3 v n i xs x) := by
  by_cases hin : i = n
  · subst hin
    exact insI_end w B i v xs x X hown hB hn hx hx1
  · obtain ⟨g, cap, rfl, -, -, hnc, -⟩ := own_hd hown (by omega)
    by_cases hc : cap = n
    · subst hc
      exact insI_grow w B g cap i xs x X hown hB hn (by omega) hx hx1 hxs
    · exact insI_shift w B g n cap i xs x X hown hB hn (by omega) (by omega) hx (by simpa [Value.ownBlock] using hne) hx1 hxs
end Go.Proofs.Ytahammkjkfdmhaa

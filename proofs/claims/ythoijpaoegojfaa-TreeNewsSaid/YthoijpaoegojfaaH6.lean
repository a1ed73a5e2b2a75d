/- Words on levels in memory; pages by their places; what stands below a level. -/
import Derived.Test.YthoijpaoegojfaaH5
import Derived.StillTailTactics
namespace Go.Proofs.Ythoijpaoegojfaa
open Go.ChangeShapes Go.WideShapes Go.ChangeAt Go.RowKit
set_option linter.unusedVariables false
set_option linter.unusedSimpArgs false
set_option maxHeartbeats 1000000
/-- The cells of a level. -/
def SC (w : World) (ok : Nat → Prop) : List Value → List Spot → Prop
  | vs, [] => vs = []
  | vs, x :: l => ∃ u h vs', vs = .int .i64 (x.1 : Int) :: u :: h :: vs' ∧ RB w ok u x.2.1 ∧ RB w ok h x.2.2 ∧ SC w ok vs' l
theorem SC.agree {w w' : World} {ok : Nat → Prop} (hag : Agree ok w w') : ∀ {l : List Spot} {vs : List Value}, SC w ok vs l → SC w' ok vs l
  | [], _, h => h
  | x :: l, _, ⟨u, h, vs', e, h1, h2, h3⟩ => ⟨u, h, vs', e, h1.agree hag, h2.agree hag, h3.agree hag⟩
theorem SC.below {w w' : World} {ok : Nat → Prop} {l : List Spot} {vs : List Value} (h : SC w ok vs l) (hb : Below w.heap.size w w') : SC w' ok vs l := h.agree (Agree.below hb ok)
theorem SC.app {w : World} {ok : Nat → Prop} {m : List Spot} {us : List Value} (hm : SC w ok us m) : ∀ {l : List Spot} {vs : List Value}, SC w ok vs l → SC w ok (vs ++ us) (l ++ m)
  | [], _, rfl => hm
  | x :: l, _, ⟨u, h, vs', rfl, h1, h2, h3⟩ => ⟨u, h, vs' ++ us, rfl, h1, h2, hm.app h3⟩
theorem SC.one {w : World} {ok : Nat → Prop} {n : Nat} {u h : Value} {lo hi : Key} (h1 : RB w ok u lo) (h2 : RB w ok h hi) : SC w ok [.int .i64 (n : Int), u, h] [(n, lo, hi)] := ⟨u, h, [], rfl, h1, h2, rfl⟩
theorem SC.len {w : World} {ok : Nat → Prop} : ∀ {l : List Spot} {vs : List Value}, SC w ok vs l → vs.length = l.length * 3
  | [], _, rfl => rfl
  | x :: l, _, ⟨u, h, vs', rfl, h1, h2, h3⟩ => by have := h3.len; simp only [List.length_cons]; omega
def sp0 : Spot := (0, [], [])
theorem SC.at {w : World} {ok : Nat → Prop} : ∀ {l : List Spot} {vs : List Value} {i : Nat}, SC w ok vs l → i < l.length →
    ∃ u h, vs[i * 3]? = some (.int .i64 ((l.getD i sp0).1 : Int)) ∧ vs[i * 3 + 1]? = some u ∧ vs[i * 3 + 2]? = some h ∧ RB w ok u (l.getD i sp0).2.1 ∧ RB w ok h (l.getD i sp0).2.2
  | [], _, i, _, hi => by simp at hi
  | x :: l, _, 0, ⟨u, h, vs', rfl, h1, h2, h3⟩, _ => ⟨u, h, by simp, by simp, by simp, h1, h2⟩
  | x :: l, _, i + 1, ⟨u, h, vs', rfl, h1, h2, h3⟩, hi => by
    obtain ⟨u', h', g1, g2, g3, g4, g5⟩ := h3.at (i := i) (by simpa using hi)
    have e : (i + 1) * 3 = i * 3 + 1 + 1 + 1 := by omega
    rw [e]
    exact ⟨u', h', by simpa using g1, by simpa using g2, by simpa using g3, by simpa using g4, by simpa using g5⟩
/-- A level. -/
def RS (w : World) (ok : Nat → Prop) (v : Value) (l : List Spot) : Prop := ∃ vs, Rd w 3 l.length v vs ∧ SC w ok vs l
theorem RS.below {w w' : World} {ok : Nat → Prop} {v : Value} {l : List Spot} (h : RS w ok v l) (hb : Below w.heap.size w w') : RS w' ok v l := by
  obtain ⟨vs, h1, h2⟩ := h
  exact ⟨vs, h1.below hb, h2.below hb⟩
theorem spotsF {w : World} {ok : Nat → Prop} {v : Value} {l : List Spot} (h : RS w ok v l) :
    ∃ ao cap, ∃ f g : Nat → Value, v = .slice ao l.length cap ∧ l.length ≤ cap ∧ cap ≤ maxLen ∧ ∀ i, i < l.length → ∃ b o, ao = some ⟨b, o, none⟩ ∧ b < w.heap.size ∧
      w.cell? ⟨b, o + i * 3, none⟩ = some (.int .i64 ((l.getD i sp0).1 : Int)) ∧ w.cell? ⟨b, o + i * 3 + 1, none⟩ = some (f i) ∧ w.cell? ⟨b, o + i * 3 + 2, none⟩ = some (g i) ∧ RB w ok (f i) (l.getD i sp0).2.1 ∧ RB w ok (g i) (l.getD i sp0).2.2 := by
  obtain ⟨vs, h1, h2⟩ := h
  rcases Nat.eq_zero_or_pos l.length with h0 | h0
  · obtain ⟨_, ao, cap, rfl, h3, h4, _, _⟩ := h1
    exact ⟨ao, cap, fun _ => undef, fun _ => undef, rfl, h3, h4, fun i hi => by omega⟩
  · obtain ⟨b, o, cap, rfl, g1, g2, g3, g4⟩ := h1.pos h0 (by omega)
    refine ⟨_, cap, fun i => vs.getD (i * 3 + 1) undef, fun i => vs.getD (i * 3 + 2) undef, rfl, g1, g2, fun i hi => ⟨b, o, rfl, g3, ?_⟩⟩
    obtain ⟨u, x, k1, k2, k3, k4, k5⟩ := h2.at hi
    have e1 : vs.getD (i * 3 + 1) undef = u := by simp [List.getD, k2]
    have e2 : vs.getD (i * 3 + 2) undef = x := by simp [List.getD, k3]
    refine ⟨g4 _ _ k1, ?_, ?_, ?_, ?_⟩
    · rw [show o + i * 3 + 1 = o + (i * 3 + 1) by omega, g4 _ _ k2]; exact congrArg some e1.symm
    · rw [show o + i * 3 + 2 = o + (i * 3 + 2) by omega, g4 _ _ k3]; exact congrArg some e2.symm
    · show RB w ok (vs.getD (i * 3 + 1) undef) _
      rw [e1]; exact k4
    · show RB w ok (vs.getD (i * 3 + 2) undef) _
      rw [e2]; exact k5
/-- A page's cells at its place. -/
def PageAt (w : World) (ok : Nat → Prop) (b o i : Nat) (k d h : Value) (p : Pg) : Prop :=
  w.cell? ⟨b, o + i * 5, none⟩ = some (.bool p.leaf) ∧ w.cell? ⟨b, o + i * 5 + 1, none⟩ = some k ∧ w.cell? ⟨b, o + i * 5 + 2, none⟩ = some d ∧ w.cell? ⟨b, o + i * 5 + 3, none⟩ = some h ∧ w.cell? ⟨b, o + i * 5 + 4, none⟩ = some (.int .i64 p.next) ∧
    RK w ok k p.keys ∧ RI w ok d p.kids ∧ RB w ok h p.high
theorem PageAt.below {w w' : World} {ok : Nat → Prop} {b o i : Nat} {k d h : Value} {p : Pg} (hp : PageAt w ok b o i k d h p) (hb : Below w.heap.size w w') : PageAt w' ok b o i k d h p := by
  obtain ⟨h1, h2, h3, h4, h5, h6, h7, h8⟩ := hp
  have hlt : b < w.heap.size := lt_cell h1
  have ce : ∀ j, w'.cell? ⟨b, j, none⟩ = w.cell? ⟨b, j, none⟩ := fun j => hb.cell (p := ⟨b, j, none⟩) hlt
  exact ⟨(ce _).trans h1, (ce _).trans h2, (ce _).trans h3, (ce _).trans h4, (ce _).trans h5, h6.below hb, h7.below hb, h8.below hb⟩
theorem pagesF {w : World} {ok : Nat → Prop} {v : Value} {T : Tr} (h : RT w ok v T) :
    ∃ ao cap, ∃ k d g : Nat → Value, v = .agg #[.slice ao T.pages.length cap, .int .i64 T.root] ∧ T.pages.length ≤ cap ∧ cap ≤ maxLen ∧ ∀ i, i < T.pages.length → ∃ b o, ao = some ⟨b, o, none⟩ ∧ b < w.heap.size ∧ ok b ∧
      PageAt w ok b o i (k i) (d i) (g i) (T.pages.getD i noPg) := by
  obtain ⟨s, vs, rfl, h1, h2, h3, h4⟩ := h
  rcases Nat.eq_zero_or_pos T.pages.length with h0 | h0
  · obtain ⟨_, ao, cap, rfl, g3, g4, _, _⟩ := h1
    exact ⟨ao, cap, fun _ => undef, fun _ => undef, fun _ => undef, rfl, g3, g4, fun i hi => by omega⟩
  · obtain ⟨b, o, cap, rfl, g1, g2, g3, g4⟩ := h1.pos h0 (by omega)
    refine ⟨_, cap, fun i => vs.getD (i * 5 + 1) undef, fun i => vs.getD (i * 5 + 2) undef, fun i => vs.getD (i * 5 + 3) undef, rfl, g1, g2, fun i hi => ⟨b, o, rfl, g3, h2 _ _ _ rfl h0, ?_⟩⟩
    have e : T.pages.getD i noPg = T.pages[i] := by simp [List.getD, hi]
    rw [e]
    obtain ⟨k, d, x, q0, q1, q2, q3⟩ := h4 i _ (List.getElem?_eq_getElem hi)
    have at_ : ∀ j (y : Value), [Value.bool T.pages[i].leaf, k, d, x, .int .i64 T.pages[i].next][j]? = some y → vs[i * 5 + j]? = some y := by
      intro j y hy
      rw [← q0, List.getElem?_take] at hy
      split at hy
      · rw [List.getElem?_drop] at hy; exact hy
      · cases hy
    have a0 := at_ 0 _ rfl
    have a1 := at_ 1 _ rfl
    have a2 := at_ 2 _ rfl
    have a3 := at_ 3 _ rfl
    have a4 := at_ 4 _ rfl
    have e1 : vs.getD (i * 5 + 1) undef = k := by simp [List.getD, a1]
    have e2 : vs.getD (i * 5 + 2) undef = d := by simp [List.getD, a2]
    have e3 : vs.getD (i * 5 + 3) undef = x := by simp [List.getD, a3]
    simp only [e1, e2, e3]
    exact ⟨g4 _ _ a0, g4 _ _ a1, g4 _ _ a2, g4 _ _ a3, g4 _ _ a4, q1, q2, q3⟩
theorem RT.below {w w' : World} {ok : Nat → Prop} {v : Value} {t : Tr} (h : RT w ok v t) (hb : Below w.heap.size w w') : RT w' ok v t := h.agree (Agree.below hb ok)
theorem intsF {w : World} {ok : Nat → Prop} {v : Value} {l : List Int} (h : RI w ok v l) :
    ∃ ao cap, v = .slice ao l.length cap ∧ l.length ≤ cap ∧ cap ≤ maxLen ∧ ∀ i, i < l.length → ∃ b o, ao = some ⟨b, o, none⟩ ∧ b < w.heap.size ∧ ok b ∧ w.cell? ⟨b, o + i, none⟩ = some (.int .i64 (l.getD i 0)) := by
  rcases Nat.eq_zero_or_pos l.length with h0 | h0
  · obtain ⟨⟨_, ao, cap, rfl, h3, h4, _, _⟩, _⟩ := h
    exact ⟨ao, cap, rfl, h3, h4, fun i hi => by omega⟩
  · obtain ⟨b, o, cap, rfl, h1, h2, h3, h4, h5⟩ := ints_of h h0
    exact ⟨_, cap, rfl, h1, h2, fun i hi => ⟨b, o, rfl, h3, h4, h5 i hi⟩⟩
/-- The kids of a page with their bounds, one by one. -/
theorem kidsB_len (lo hi : Key) : ∀ (cs : List Int) (ss : List Key), (kidsB lo hi cs ss).length = cs.length
  | [], _ => by simp [kidsB]
  | c :: cs, [] => by simp [kidsB, kidsB_len hi hi cs []]
  | c :: cs, s :: ss => by simp [kidsB, kidsB_len s hi cs ss]
theorem kidsB_at : ∀ (ss : List Key) (cs : List Int) (lo hi : Key) (k : Nat), cs.length = ss.length + 1 → k ≤ ss.length →
    (kidsB lo hi cs ss).getD k sp0 = ((cs.getD k 0).toNat, (if k = 0 then lo else ss.getD (k - 1) []), if k < ss.length then ss.getD k [] else hi)
  | [], [c], lo, hi, k, _, hk => by
    have : k = 0 := by simpa using hk
    subst this
    simp [kidsB]
  | s :: ss, c :: cs, lo, hi, 0, _, _ => by simp [kidsB]
  | s :: ss, c :: cs, lo, hi, k + 1, hl, hk => by
    have ih := kidsB_at ss cs s hi k (by simpa using hl) (by simpa using hk)
    simp only [kidsB, List.getD_cons_succ, ih, List.length_cons, Nat.add_lt_add_iff_right, Nat.add_eq_zero_iff, Nat.one_ne_zero, and_false, if_false, Nat.add_sub_cancel]
    cases k with
    | zero => simp
    | succ k => simp
  | [], [], _, _, _, hl, _ => by simp at hl
  | [], _ :: _ :: _, _, _, _, hl, _ => by simp at hl
  | _ :: _, [], _, _, _, hl, _ => by simp at hl
theorem RB.cell {w : World} {ok : Nat → Prop} {v : Value} {l : Key} (h : RB w ok v l) : v.oneCell' = true := by
  obtain ⟨⟨_, ao, cap, rfl, _⟩, _⟩ := h
  rfl
theorem Try.info92 : (Try.prog.info? 92).map (fun i => (i.zero, i.size, i.bytes)) = some (some (.agg #[.int .i64 0, .slice none 0 0, .slice none 0 0]), 3, 56) := by kernel_rfl
theorem Try.info3 : (Try.prog.info? 3).map (fun i => (i.zero, i.size, i.bytes)) = some (some (.int .i64 0), 1, 8) := by kernel_rfl
section
variable {ops : Array Oper} {rest : List Oper} {o : Oper} {a : Act} {Q : Exit → Act → World → Prop}
/-- 'append(l, x, ..)' of elements of some cells each, l the call's own. -/
theorem apx (w : World) (m : Nat) (hgd : o.guard = none) (s x : Operand) (t e : TypeId) (z : Value) (size bytes : Nat) (ht : Try.prog.underlying t = some (.slice e)) (hinf : (Try.prog.info? e).map (fun i => (i.zero, i.size, i.bytes)) = some (some z, size, bytes)) (hzs : z.cells.size = size) (hsz : 0 < size)
    (ho : o.op = .call { callee := .builtin .append, args := #[s, x], argTypes := #[t, t] })
    {B n : Nat} {v : Value} {xs : List Value} (hown : w.ownsRow B e size v n xs) (hB : B ≤ w.heap.size) (hnm : (n + m) * bytes ≤ 140737488355328) (h63 : n + m ≤ maxLen) (news : List Value) (hl : news.length = m * size) (hX : ∀ u ∈ news, u.oneCell' = true)
    (H : Nat) (hH : w.heap.size = H) (hs : a.eval s = v) (hx : a.eval x = .slice (some ⟨H, 0, none⟩) m m)
    (h : ∀ v' w', w'.ownsRow B e size v' (n + m) (xs ++ news) → Below B w w' → w.grownBy w' v.ownBlock → (v'.ownBlock = v.ownBlock ∨ v'.ownBlock = some (H + 1)) → wpList Try.prog ops Q rest (a.put o.dst v') w') : wpList Try.prog ops Q (o :: rest) a (w.alloc (.cells news.toArray e)) := by
  subst hH
  obtain ⟨i0, hi, hz0, hz1, hz2⟩ := info_parts hinf
  refine wpList_append_own_at _ hgd s x _ ho B e i0 z size bytes ht hi hz0 hz1 hz2 hzs hsz v n xs hs (hown.alloc _) _ m m news hx hl (new_cells w news _) hX h63 hnm (by simp; omega) ?_
  intro v' w' h1 h2 h3 h4
  have hg : w.grownBy w' v.ownBlock := (World.grownBy_alloc w _ _).trans h2
  exact h v' w' h1 ((Below.refl B w).grown hg hB (own_ge hown)) hg (by simpa using h4)
end
end Go.Proofs.Ythoijpaoegojfaa

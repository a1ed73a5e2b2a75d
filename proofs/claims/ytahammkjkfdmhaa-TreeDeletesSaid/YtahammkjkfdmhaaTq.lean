/- A key taken out of a tree. -/
import Derived.Test.YtahammkjkfdmhaaTn
import Derived.Test.YtahammkjkfdmhaaTp
namespace Go.Proofs.Ytahammkjkfdmhaa
open Go.ChangeShapes Go.WideShapes Go.ChangeAt Go.RowKit
set_option linter.unusedVariables false
set_option linter.unusedSimpArgs false
set_option maxHeartbeats 8000000
set_option maxRecDepth 100000
/-- In entries that rise, to leave a key out is to leave out the one at its place. -/
theorem off_erase {k : Key} : ∀ {l : List (Key × Int)}, Rise l → hasK k (l.map (·.1)) = true → offE k l = l.eraseIdx (lbK k (l.map (·.1)))
  | [], _, h => by simp [hasK, lbK] at h
  | e :: r, hr, h => by
    have hr' := (List.pairwise_cons.1 hr)
    by_cases q : kl e.1 k = true
    · have hne : ¬ e.1 = k := by rintro rfl; simp [bl_irr] at q
      have h2 : hasK k (r.map (·.1)) = true := by
        unfold hasK at h ⊢
        rw [decide_eq_true_eq] at h ⊢
        simp only [List.map_cons, lbK, q, if_true, List.length_cons, List.getD_cons_succ] at h
        exact ⟨by omega, h.2⟩
      have ih := off_erase hr'.2 h2
      have e1 : offE k (e :: r) = e :: offE k r := by simp [offE, hne]
      rw [e1, ih]
      simp only [List.map_cons, lbK, q, if_true, List.eraseIdx_cons_succ]
    · have h0 : lbK k ((e :: r).map (·.1)) = 0 := by simp [lbK, q]
      have hk : e.1 = k := by
        unfold hasK at h
        rw [decide_eq_true_eq, h0] at h
        simpa using h.2
      rw [h0, List.eraseIdx_cons_zero]
      have e1 : offE k (e :: r) = offE k r := by simp [offE, hk]
      rw [e1]
      exact offE_same fun x hx => by
        have := hr'.1 x hx
        rw [hk] at this
        rintro rfl
        simp [bl_irr] at this
theorem map_erase {α β : Type} (f : α → β) : ∀ (l : List α) (i : Nat), (l.eraseIdx i).map f = (l.map f).eraseIdx i
  | [], _ => by simp
  | a :: l, 0 => by simp
  | a :: l, i + 1 => by simp [map_erase f l i]
theorem KsAt.erase {w : World} {ok : Nat → Prop} {vs : List Value} {ks : List Key} {i : Nat} (h : KsAt w ok vs ks ks.length) (hl : vs.length = ks.length) : KsAt w ok (vs.eraseIdx i) (ks.eraseIdx i) (ks.eraseIdx i).length := fun j q hj hq => by
  rw [List.getElem?_eraseIdx] at hq ⊢
  split at hq
  · rename_i hji
    rw [if_pos hji]
    exact h j q (List.getElem?_eq_some_iff.1 hq).1 hq
  · rename_i hji
    rw [if_neg hji]
    exact h (j + 1) q (List.getElem?_eq_some_iff.1 hq).1 hq
/-- The keys of a page replaced by a row in the same block. -/
theorem del_keys {w w2 : World} {B : Nat} {own : Tag} {P n cap gk ck m' : Nat} {ps : List Pg} {tight : Nat → Prop} {vs ks' : List Value} {i : Nat} {p : Pg} {k d g : Value} {keys' : List Key}
    (h : PgsO w B own (.slice (some ⟨P, 0, none⟩) n cap) ps tight vs) (hn : n = ps.length) (hp : ps[i]? = some p)
    (c0 : vs[i * 5]? = some (.bool p.leaf)) (c2 : vs[i * 5 + 2]? = some d) (c3 : vs[i * 5 + 3]? = some g) (c4 : vs[i * 5 + 4]? = some (.int .i64 p.next)) (c1 : vs[i * 5 + 1]? = some k)
    (h2 : own gk = 2 * i + 2) (h5 : w.ownsRow B 3 1 d p.kids.length (ic p.kids)) (h6 : ∀ g, d.ownBlock = some g → own g = 2 * i + 3) (h7 : RB w (Fz B own) g p.high)
    (r1 : w2.ownsRow B 25 1 (.slice (some ⟨gk, 0, none⟩) m' ck) m' ks') (hm : m' = keys'.length) (hks : KsAt w (Fz B own) ks' keys' keys'.length) (r2 : w.grownBy w2 (some gk)) :
    PgsO (w2.setCell ⟨P, i * 5 + 1, none⟩ (.slice (some ⟨gk, 0, none⟩) m' ck)) B own (.slice (some ⟨P, 0, none⟩) n cap) (ps.set i ⟨p.leaf, keys', p.kids, p.high, p.next⟩) (fun _ => False) (vs.set (i * 5 + 1) (.slice (some ⟨gk, 0, none⟩) m' ck)) ∧
      Fr own own w (w2.setCell ⟨P, i * 5 + 1, none⟩ (.slice (some ⟨gk, 0, none⟩) m' ck)) := by
  have hi : i < ps.length := (List.getElem?_eq_some_iff.1 hp).1
  have hP : own P = 1 := h.tag P rfl
  have hPl : P < w.heap.size := (h.row.lt P rfl).2
  have hrl := h.row.1
  have far : ∀ b, b < w.heap.size → own b ≠ 2 * i + 2 → w2.heap[b]? = w.heap[b]? := fun b hb hne => r2.block b hb (fun e => hne (by cases e; exact h2))
  have far3 : ∀ b, b < w.heap.size → own b ≠ 2 * i + 2 → own b ≠ 1 → (w2.setCell ⟨P, i * 5 + 1, none⟩ (.slice (some ⟨gk, 0, none⟩) m' ck)).heap[b]? = w.heap[b]? := fun b hb hne h1 =>
    (Below.heap_setCell _ _ _ _ (by show b ≠ P; rintro rfl; exact h1 hP)).trans (far b hb hne)
  have z : ∀ b, b < w.heap.size → Fz B own b → (w2.setCell ⟨P, i * 5 + 1, none⟩ (.slice (some ⟨gk, 0, none⟩) m' ck)).heap[b]? = w.heap[b]? ∧ Fz B own b := fun b hb hz => ⟨far3 b hb (by rw [hz.2]; omega) (by rw [hz.2]; omega), hz⟩
  have hrow2 : w2.ownsRow B 43 5 (.slice (some ⟨P, 0, none⟩) n cap) ps.length vs := own_far h.row fun b hb => by
    have hb' := own_eq hb
    subst hb'
    exact far b hPl (by rw [hP]; omega)
  refine ⟨?_, ⟨r2.os, r2.tape, r2.output, Nat.le_trans r2.size (by simp), fun b hb h0 => far3 b hb (by rw [h0]; omega) (by rw [h0]; omega), fun _ _ => rfl⟩⟩
  subst hn
  refine h.repl hi (set_pg hrow2 _ _) (fun j hj => List.getElem?_set_ne (by omega)) (fun b hb q1 q2 q3 => far3 b hb q2 q1) (fun _ _ => rfl) ?_
  refine ⟨.slice (some ⟨gk, 0, none⟩) m' ck, d, g, ks', ?_, ?_, ?_, ?_, ?_, ?_, fun b hb => by rw [own_eq hb]; exact h2, fun q => q.elim, hks.to z, ?_, h6, h7.to z⟩
  · rw [List.getElem?_set_ne (by omega)]; exact c0
  · rw [List.getElem?_set_self (by omega)]
  · rw [List.getElem?_set_ne (by omega)]; exact c2
  · rw [List.getElem?_set_ne (by omega)]; exact c3
  · rw [List.getElem?_set_ne (by omega)]; exact c4
  · show World.ownsRow _ _ _ _ _ keys'.length _
    rw [← hm]
    exact own_far r1 fun b hb => Below.heap_setCell _ _ _ _ (by rw [own_eq hb]; rintro rfl; omega)
  · exact own_far h5 fun b hb => far3 b (h5.lt b hb).2 (by rw [h6 b hb]; omega) (by rw [h6 b hb]; omega)
/-- The kids of a page replaced by a row in the same block. -/
theorem del_kids {w w2 : World} {B : Nat} {own : Tag} {P n cap gd cd m' : Nat} {ps : List Pg} {tight : Nat → Prop} {vs ks : List Value} {i : Nat} {p : Pg} {k d g : Value} {kids' : List Int}
    (h : PgsO w B own (.slice (some ⟨P, 0, none⟩) n cap) ps tight vs) (hn : n = ps.length) (hp : ps[i]? = some p)
    (c0 : vs[i * 5]? = some (.bool p.leaf)) (c1 : vs[i * 5 + 1]? = some k) (c2 : vs[i * 5 + 2]? = some d) (c3 : vs[i * 5 + 3]? = some g) (c4 : vs[i * 5 + 4]? = some (.int .i64 p.next))
    (h1 : w.ownsRow B 25 1 k p.keys.length ks) (h2 : ∀ g, k.ownBlock = some g → own g = 2 * i + 2) (h4 : KsAt w (Fz B own) ks p.keys p.keys.length) (h6 : own gd = 2 * i + 3) (h7 : RB w (Fz B own) g p.high)
    (r1 : w2.ownsRow B 3 1 (.slice (some ⟨gd, 0, none⟩) m' cd) m' (ic kids')) (hm : m' = kids'.length) (r2 : w.grownBy w2 (some gd)) :
    PgsO (w2.setCell ⟨P, i * 5 + 2, none⟩ (.slice (some ⟨gd, 0, none⟩) m' cd)) B own (.slice (some ⟨P, 0, none⟩) n cap) (ps.set i ⟨p.leaf, p.keys, kids', p.high, p.next⟩) (fun _ => False) (vs.set (i * 5 + 2) (.slice (some ⟨gd, 0, none⟩) m' cd)) ∧
      Fr own own w (w2.setCell ⟨P, i * 5 + 2, none⟩ (.slice (some ⟨gd, 0, none⟩) m' cd)) := by
  have hi : i < ps.length := (List.getElem?_eq_some_iff.1 hp).1
  have hP : own P = 1 := h.tag P rfl
  have hPl : P < w.heap.size := (h.row.lt P rfl).2
  have hrl := h.row.1
  have far : ∀ b, b < w.heap.size → own b ≠ 2 * i + 3 → w2.heap[b]? = w.heap[b]? := fun b hb hne => r2.block b hb (fun e => hne (by cases e; exact h6))
  have far3 : ∀ b, b < w.heap.size → own b ≠ 2 * i + 3 → own b ≠ 1 → (w2.setCell ⟨P, i * 5 + 2, none⟩ (.slice (some ⟨gd, 0, none⟩) m' cd)).heap[b]? = w.heap[b]? := fun b hb hne h1 =>
    (Below.heap_setCell _ _ _ _ (by show b ≠ P; rintro rfl; exact h1 hP)).trans (far b hb hne)
  have z : ∀ b, b < w.heap.size → Fz B own b → (w2.setCell ⟨P, i * 5 + 2, none⟩ (.slice (some ⟨gd, 0, none⟩) m' cd)).heap[b]? = w.heap[b]? ∧ Fz B own b := fun b hb hz => ⟨far3 b hb (by rw [hz.2]; omega) (by rw [hz.2]; omega), hz⟩
  have hrow2 : w2.ownsRow B 43 5 (.slice (some ⟨P, 0, none⟩) n cap) ps.length vs := own_far h.row fun b hb => by
    have hb' := own_eq hb
    subst hb'
    exact far b hPl (by rw [hP]; omega)
  refine ⟨?_, ⟨r2.os, r2.tape, r2.output, Nat.le_trans r2.size (by simp), fun b hb h0 => far3 b hb (by rw [h0]; omega) (by rw [h0]; omega), fun _ _ => rfl⟩⟩
  subst hn
  refine h.repl hi (set_pg hrow2 _ _) (fun j hj => List.getElem?_set_ne (by omega)) (fun b hb q1 q2 q3 => far3 b hb q3 q1) (fun _ _ => rfl) ?_
  refine ⟨k, .slice (some ⟨gd, 0, none⟩) m' cd, g, ks, ?_, ?_, ?_, ?_, ?_, ?_, h2, fun q => q.elim, h4.to z, ?_, fun b hb => by rw [own_eq hb]; exact h6, h7.to z⟩
  · rw [List.getElem?_set_ne (by omega)]; exact c0
  · rw [List.getElem?_set_ne (by omega)]; exact c1
  · rw [List.getElem?_set_self (by omega)]
  · rw [List.getElem?_set_ne (by omega)]; exact c3
  · rw [List.getElem?_set_ne (by omega)]; exact c4
  · exact own_far h1 fun b hb => far3 b (h1.lt b hb).2 (by rw [h2 b hb]; omega) (by rw [h2 b hb]; omega)
  · show World.ownsRow _ _ _ _ _ kids'.length _
    rw [← hm]
    exact own_far r1 fun b hb => Below.heap_setCell _ _ _ _ (by rw [own_eq hb]; rintro rfl; omega)
theorem del_has {h : Nat} {T : Tr} {t : Tb h} {k : Key} {v : Int} (hr : Reps T h t) (hin : lookE k (entT h t) = some v) : Rise (leafT h t k).2 ∧ hasK k ((leafT h t k).2.map (·.1)) = true := by
  have hlt := hr.lt _ (leaf_mem h t k)
  obtain ⟨-, -, q3, -⟩ := up_shape h T.pages [] [] [] [] t k hr.2.2.1 hr.2.1 hr.nodup
  have hrise : RiseK (T.pages.getD (leafT h t k).1 noPg).keys := ((reps_pass hr).page _ (getD_mem hlt)).rise
  rw [q3] at hrise
  have hrl : Rise (leafT h t k).2 := List.pairwise_map.1 hrise
  have hm : (k, v) ∈ entT h t := by
    unfold lookE at hin
    rw [Option.map_eq_some_iff] at hin
    obtain ⟨e, he, rfl⟩ := hin
    have h1 := List.find?_some he
    have h2 := List.mem_of_find?_eq_some he
    have h3 : e.1 = k := by simpa using h1
    rw [← h3]
    exact h2
  have hl := lookE_some hrl ((leaf_ent h [] [] t k hr.2.2.1 v).1 hm)
  rw [look_leaf hrl] at hl
  refine ⟨hrl, ?_⟩
  by_cases g : hasK k ((leafT h t k).2.map (·.1)) = true
  · exact g
  · rw [if_neg g] at hl
    cases hl
/-- The kids' half of what Delete does: what the call wants, and what is left. -/
def DelEnd (w4 W5 : World) (B P N lf gd m cd at_ : Nat) (own : Tag) (ps : List Pg) : Prop :=
  Calls Try.prog 26 #[.slice (some ⟨gd, 0, none⟩) m cd, .int .i64 (at_ : Int), .int .i64 ((at_ : Int) + 1)] W5 fun e w' => e = .returned (.slice (some ⟨gd, 0, none⟩) (m - 1) cd) ∧
    Hid (Fr own own w4 (w'.setCell ⟨P, lf * 5 + 2, none⟩ (.slice (some ⟨gd, 0, none⟩) (m - 1) cd)) ∧ ∃ vs', PgsO (w'.setCell ⟨P, lf * 5 + 2, none⟩ (.slice (some ⟨gd, 0, none⟩) (m - 1) cd)) B own (.slice (some ⟨P, 0, none⟩) N N) ps (fun _ => False) vs') ∧
    w'.heap[P]? = W5.heap[P]?
theorem del_start {w4 : World} {B P N h : Nat} {own : Tag} {T : Tr} {t : Tb h} {k : Key} {v : Int} {vs : List Value} {kv : Value} {ok : Nat → Prop} {tight : Nat → Prop} (hr : Reps T h t) (hin : lookE k (entT h t) = some v) (hN : N = T.pages.length)
    (hg : PgsO w4 B own (.slice (some ⟨P, 0, none⟩) N N) T.pages tight vs) (hk : RB w4 ok kv k) (hB : B ≤ w4.heap.size) :
    ∃ gk ck gd cd m at_, at_ < m ∧ m ≤ 4 ∧ w4.cell? ⟨P, (leafT h t k).1 * 5 + 1, none⟩ = some (.slice (some ⟨gk, 0, none⟩) m ck) ∧ w4.frozen? ⟨P, (leafT h t k).1 * 5 + 1, none⟩ = false ∧
      w4.cell? ⟨P, (leafT h t k).1 * 5 + 2, none⟩ = some (.slice (some ⟨gd, 0, none⟩) m cd) ∧ w4.frozen? ⟨P, (leafT h t k).1 * 5 + 2, none⟩ = false ∧
      Hid (Calls Try.prog 24 #[.slice (some ⟨gk, 0, none⟩) m ck, kv] w4 fun e w' => e = .returned (.tuple #[.int .i64 (at_ : Int), .bool true]) ∧ w4 = w') ∧
      Hid (Calls Try.prog 25 #[.slice (some ⟨gk, 0, none⟩) m ck, .int .i64 (at_ : Int), .int .i64 ((at_ : Int) + 1)] w4 fun e w' => e = .returned (.slice (some ⟨gk, 0, none⟩) (m - 1) ck) ∧
        Hid (DelEnd w4 (w'.setCell ⟨P, (leafT h t k).1 * 5 + 1, none⟩ (.slice (some ⟨gk, 0, none⟩) (m - 1) ck)) B P N (leafT h t k).1 gd m cd at_ own (takeP h T.pages t k)) ∧ w'.heap[P]? = w4.heap[P]?) := by
  obtain ⟨hrl, hhas⟩ := del_has hr hin
  have hlt := hr.lt _ (leaf_mem h t k)
  obtain ⟨-, -, q3, q4⟩ := up_shape h T.pages [] [] [] [] t k hr.2.2.1 hr.2.1 hr.nodup
  obtain ⟨lf, hlf⟩ : ∃ lf, lf = (leafT h t k).1 := ⟨_, rfl⟩
  obtain ⟨l, hl⟩ : ∃ l, l = (leafT h t k).2 := ⟨_, rfl⟩
  have hoff := off_erase hrl hhas
  unfold takeP
  rw [← hlf] at hlt q3 ⊢
  rw [← hl] at hrl hhas q3 q4 hoff ⊢
  obtain ⟨hi, hhi⟩ : ∃ x, x = (T.pages.getD lf noPg).high := ⟨_, rfl⟩
  obtain ⟨nx, hnx⟩ : ∃ x, x = (T.pages.getD lf noPg).next := ⟨_, rfl⟩
  rw [← hhi, ← hnx] at q3 ⊢
  have hp : T.pages[lf]? = some ⟨true, l.map (·.1), l.map (·.2), hi, nx⟩ := by rw [getD_at hlt, q3]
  obtain ⟨ks_, hks_⟩ : ∃ x, x = l.map (·.1) := ⟨_, rfl⟩
  obtain ⟨ds_, hds_⟩ : ∃ x, x = l.map (·.2) := ⟨_, rfl⟩
  have hkl : ks_.length = l.length := by rw [hks_]; simp
  have hdl : ds_.length = l.length := by rw [hds_]; simp
  obtain ⟨at_, hat⟩ : ∃ a, a = lbK k ks_ := ⟨_, rfl⟩
  have hatm : at_ < l.length := by
    have h1 := hhas
    unfold hasK at h1
    rw [decide_eq_true_eq] at h1
    rw [hat, hks_]
    simpa using h1.1
  rw [← hks_] at hp hhas hoff
  rw [← hds_] at hp
  rw [hoff, map_erase, map_erase, ← hks_, ← hds_, ← hat]
  obtain ⟨k0, d0, g, ks, c0, c1, c2, c3, c4, h1, h2, -, h4, h5, h6, h7⟩ := hg.pg lf _ hp
  simp only at c0 c1 c2 c3 c4 h1 h4 h5 h7
  obtain ⟨gk, ck, rfl, -⟩ := own_hd h1 (by omega)
  obtain ⟨gd, cd, rfl, -⟩ := own_hd h5 (by omega)
  have hsr := srch_any w4 (fun _ => True) ok (.slice (some ⟨gk, 0, none⟩) ks_.length ck) kv ks_ k (rk_own h1 h4) hk (by rw [hks_]; exact List.pairwise_map.2 hrl) (by omega)
  rw [hhas, ← hat] at hsr
  have hkL := h1.1
  have hdk := delK_any w4 B gk ck ks_.length ks at_ (at_ + 1) rfl h1 (by omega) (by omega) (h4.one (by omega))
  have hPw : P < w4.heap.size := (hg.row.lt P rfl).2
  have hPt : own P = 1 := hg.tag P rfl
  have hgk : own gk = 2 * lf + 2 := h2 gk rfl
  have hgd : own gd = 2 * lf + 3 := h6 gd rfl
  rw [hkl] at hsr
  rw [hdl] at c2
  have c1' := c1
  rw [hkl] at c1'
  have hrow : w4.ownsRow B 43 5 (.slice (some ⟨P, 0, none⟩) N N) N vs := by have q := hg.row; rw [← hN] at q; exact q
  obtain ⟨u1, u2⟩ := pg_cells hrow c1'
  obtain ⟨u3, u4⟩ := pg_cells hrow c2
  refine ⟨gk, ck, gd, cd, l.length, at_, hatm, q4, u1, u2, u3, u4, Lib.hid hsr, Lib.hid ?_⟩
  have ej : ((at_ + 1 : Nat) : Int) = (at_ : Int) + 1 := by omega
  rw [ej, hkl] at hdk
  refine hdk.mono fun e w5 ⟨e1, r1, r2⟩ => ⟨e1, Lib.hid ?_, r2.block P hPw (fun e => by cases e; omega)⟩
  have hml : l.length - 1 = (ks_.eraseIdx at_).length := by rw [List.length_eraseIdx_of_lt (by omega)]; omega
  obtain ⟨H5, F5⟩ := del_keys (p := ⟨true, ks_, ds_, hi, nx⟩) hg hN hp c0 (by rw [hdl]; exact c2) c3 c4 c1 hgk h5 h6 h7 r1 hml (h4.erase (by omega)) r2
  have hp5 : (T.pages.set lf ⟨true, ks_.eraseIdx at_, ds_, hi, nx⟩)[lf]? = some ⟨true, ks_.eraseIdx at_, ds_, hi, nx⟩ := List.getElem?_set_self hlt
  obtain ⟨k5, d5, g5, ks5, b0, b1, b2, b3, b4, s1, s2, -, s4, s5, s6, s7⟩ := H5.pg lf _ hp5
  simp only at b0 b1 b2 b3 b4 s1 s4 s5 s7
  have ed : d5 = .slice (some ⟨gd, 0, none⟩) ds_.length cd := by
    rw [List.getElem?_set_ne (by omega)] at b2
    rw [hdl]
    rw [c2] at b2
    exact (Option.some.inj b2).symm
  subst ed
  have hdi := delI_any (w5.setCell ⟨P, lf * 5 + 1, none⟩ (.slice (some ⟨gk, 0, none⟩) (l.length - 1) ck)) B gd cd ds_.length (ic ds_) at_ (at_ + 1) rfl s5 (by omega) (by omega) (ic_one _)
  rw [ej, hdl] at hdi
  unfold DelEnd
  refine hdi.mono fun e w6 ⟨e2, r3, r4⟩ => ⟨e2, Lib.hid ?_, r4.block P (Nat.lt_of_lt_of_le hPw F5.size) (fun e => by cases e; omega)⟩
  have hm2 : l.length - 1 = (ds_.eraseIdx at_).length := by rw [List.length_eraseIdx_of_lt (by omega)]; omega
  have hic : (ic ds_).eraseIdx at_ = ic (ds_.eraseIdx at_) := (map_erase _ _ _).symm
  rw [hic] at r3
  obtain ⟨H6, F6⟩ := del_kids (p := ⟨true, ks_.eraseIdx at_, ds_, hi, nx⟩) H5 (by simpa using hN) hp5 b0 b1 (by rw [b2]) b3 b4 s1 s2 s4 hgd s7 r3 hm2 r4
  rw [List.set_set] at H6
  exact ⟨F5.trans F6, _, H6⟩
theorem delete_no (w : World) (ao : Option Addr) (n cap : Nat) (root : Int) (kv : Value) (r e : Int) (hf : ∀ W, Below w.heap.size w W → Calls Try.prog 13 #[.agg #[.slice ao n cap, .int .i64 root], kv] W (Two r e W)) (h1 : e ≠ 0) :
    Calls Try.prog 10 #[.agg #[.slice ao n cap, .int .i64 root], kv] w (NoIs e w) := by
  obtain ⟨W0, hW0⟩ : ∃ W0 : World, W0 = (w.alloc (.cells #[.slice ao n cap, .int .i64 root] 24)).alloc (.cells #[.slice none 0 0, .int .i64 0] 24) := ⟨_, rfl⟩
  have hb0 : Below w.heap.size w W0 := by rw [hW0]; exact ((Below.refl _ _).alloc (Nat.le_refl _) _).alloc (by simp) _
  have hy : W0.heap[w.heap.size + 1]? = some (.cells #[.slice none 0 0, .int .i64 0] 24 (0, 0)) := by rw [hW0]; exact new_b w _ _
  have HF := Lib.hid (hf W0 hb0)
  have HB0 := Lib.hid hb0
  have HY := Lib.hid hy
  have HW0 := Lib.hid hW0
  clear hW0 hb0 hy hf
  have g1 : (e != 0) = true := by simpa using h1
  go_enter Try.func10, Try.ntmps10
  go_wp2_with fail
  rw [← HW0.out]
  refine HF.out.mono ?_
  rintro en w1 ⟨rfl, hb1⟩
  have HB1 := Lib.hid (into HB0.out hb1)
  obtain ⟨y0, y1, yf0, yf1⟩ := box2 ((hb1.block _ (Array.getElem?_eq_some_iff.1 HY.out).1).trans HY.out)
  clear hb1
  go_wp2_with fail
  obtain ⟨q0, q1⟩ := box2_two (x := .slice none 0 0) (y := .int .i64 0) y0 y1
  refine bodyPost_ret (v := .tuple #[.agg #[.slice none 0 0, .int .i64 0], .int .i64 e]) (by simp [results, Try.results10, go_sem, q0, q1]; try rfl) rfl ?_
  exact ⟨rfl, (HB1.out.setCell (by show w.heap.size ≤ w.heap.size + 1; omega) _).setCell (by show w.heap.size ≤ w.heap.size + 1; omega) _⟩
theorem bel_undr {w w2 : World} (h : Below w.drew.heap.size w.drew w2) : Below w.heap.size w w2 := ⟨h.os, h.tape, h.output, h.size, h.block⟩
/-- What Delete leaves. -/
def DeleteIs (G : Tr) (w : World) (e : Ending) (w' : World) : Prop :=
  ∃ P cap, e = .returned (.tuple #[.agg #[.slice (some ⟨P, 0, none⟩) G.pages.length cap, .int .i64 G.root], .int .i64 0]) ∧ OTr w' w.heap.size (.agg #[.slice (some ⟨P, 0, none⟩) G.pages.length cap, .int .i64 G.root]) G ∧ Below w.heap.size w w'
theorem rt_up {w : World} {n m : Nat} {v : Value} {T : Tr} (h : RT w (fun b => m ≤ b) v T) (hm : n ≤ m) : RT w (fun b => n ≤ b) v T := by
  obtain ⟨s, vs, e1, r1, r2, r3⟩ := h
  refine ⟨s, vs, e1, r1, fun a n c e hn => ?_, r3.1, fun i p hp => ?_⟩
  · have := r2 a n c e hn; omega
  · obtain ⟨k', d', h', c0, ⟨vk, k1, k2, k3⟩, ⟨d1, d2⟩, ⟨h1, h2⟩⟩ := r3.2 i p hp
    exact ⟨k', d', h', c0, ⟨vk, k1, fun a n c e hn => by have := k2 a n c e hn; omega, fun j q hq => by obtain ⟨x, x1, x2, x3⟩ := k3 j q hq; exact ⟨x, x1, x2, fun a n c e hn => by have := x3 a n c e hn; omega⟩⟩, ⟨d1, fun a n c e hn => by have := d2 a n c e hn; omega⟩, ⟨h1, fun a n c e hn => by have := h2 a n c e hn; omega⟩⟩
theorem delete_ok (w : World) (ok ok' : Nat → Prop) (hok : ∀ b, ok b → b < w.heap.size) (tv kv : Value) (T : Tr) (h : Nat) (t : Tb h) (k : Key) (v : Int) (ht : RT w ok tv T) (hk : RB w ok' kv k) (hs : Small T) (hN : T.pages.length ≤ 4000) (hr : Reps T h t) (hy : okK k) (hin : lookE k (entT h t) = some v) :
    Calls Try.prog 10 #[tv, kv] w (DeleteIs ⟨takeP h T.pages t k, T.root⟩ w) := by
  obtain ⟨ao, cap, _, _, _, rfl, -⟩ := pagesF ht
  obtain ⟨ak, ck, rfl⟩ := hk.sh
  obtain ⟨nk, hnk⟩ : ∃ n, n = k.length := ⟨_, rfl⟩
  rw [← hnk] at hk ⊢
  obtain ⟨N, hNN⟩ : ∃ n, n = T.pages.length := ⟨_, rfl⟩
  rw [← hNN]
  have hkl := hk.lt
  obtain ⟨W0, hW0⟩ : ∃ W0 : World, W0 = (w.alloc (.cells #[.slice ao N cap, .int .i64 T.root] 24)).alloc (.cells #[.slice none 0 0, .int .i64 0] 24) := ⟨_, rfl⟩
  have hb0 : Below w.heap.size w W0 := by rw [hW0]; exact ((Below.refl _ _).alloc (Nat.le_refl _) _).alloc (by simp) _
  have hx0 : W0.heap[w.heap.size]? = some (.cells #[.slice ao N cap, .int .i64 T.root] 24 (0, 0)) ∧ W0.heap[w.heap.size + 1]? = some (.cells #[.slice none 0 0, .int .i64 0] 24 (0, 0)) := by rw [hW0]; exact ⟨new_a w _ _, new_b w _ _⟩
  have hfind : Calls Try.prog 13 #[.agg #[.slice ao N cap, .int .i64 T.root], .slice ak nk ck] W0 (Two v 0 W0) := by
    have q := find_ok W0 ok ok' (fun b hb => Nat.lt_of_lt_of_le (hok b hb) hb0.size) (.agg #[.slice ao T.pages.length cap, .int .i64 T.root]) (.slice ak nk ck) T h t k (ht.below hb0) (hk.below hb0) hs hN hr hy
    rw [hin] at q
    rw [hNN]
    exact q
  have hfresh : ∀ W, Below w.heap.size w W → Calls Try.prog 14 #[.agg #[.slice ao N cap, .int .i64 T.root]] W fun e w' => ∃ own vs P, e = .returned (.agg #[.slice (some ⟨P, 0, none⟩) N N, .int .i64 T.root]) ∧ Hid (PgsO w' (W.heap.size + 2) own (.slice (some ⟨P, 0, none⟩) N N) T.pages (fun _ => True) vs ∧ (∀ b, b < W.heap.size + 2 → own b = 0) ∧ W.heap.size + 2 ≤ P) ∧ Below W.heap.size W w' := fun W hW => by
    refine (fresh_any W ok _ T (by rw [hNN]; exact ht.below hW) (by omega) (small_fine hr)).mono fun e w' ⟨own, vs, P, q1, q2, q3, q4, q5, q6⟩ => ?_
    rw [← hNN] at q1 q2
    exact ⟨own, vs, P, q1, ⟨q2, q3, q6⟩, q4⟩
  have HFIND := Lib.hid hfind
  have HFRESH := Lib.hid hfresh
  have HB0 := Lib.hid hb0
  have HX0 := Lib.hid hx0
  have HW0 := Lib.hid hW0
  have HK := Lib.hid hkl
  have HH := Lib.hid (And.intro hr (And.intro hy (And.intro hin (And.intro hNN (And.intro hnk hN)))))
  have hN9 : N ≤ 4000 := by omega
  have hk100 : nk ≤ 100 := by have := hy.2; omega
  clear hfind hfresh hb0 hx0 hW0 hkl hr hy hin hNN hnk hN hs hk ht
  go_enter Try.func10, Try.ntmps10
  go_wp2_with fail
  rw [← HW0.out]
  refine HFIND.out.mono ?_
  rintro en w1 ⟨rfl, hb1⟩
  have HB1 := Lib.hid (into HB0.out hb1)
  have HX1 := Lib.hid (carry2 hb1 HX0.out)
  obtain ⟨x0, x1, xf0, xf1⟩ := box2 HX1.out.1
  clear hb1
  go_wp2_with fail
  refine (HFRESH.out w1 HB1.out).mono ?_
  rintro en w2 ⟨own2, vs2, P, rfl, HP, hb2⟩
  have HB2 := Lib.hid (into HB1.out hb2)
  have HX2 := Lib.hid (carry2 hb2 HX1.out)
  have HZ2 := Lib.hid hb2.size
  obtain ⟨y0, y1, yf0, yf1⟩ := box2 HX2.out.1
  clear hb2 x0 x1 xf0 xf1
  obtain ⟨g1, g2, g3⟩ := HP.out
  obtain ⟨B, hBd⟩ : ∃ B, B = w1.heap.size + 2 := ⟨_, rfl⟩
  rw [← hBd] at g1 g2 g3
  have hw1s := HB1.out.size
  have hw2s := HZ2.out
  obtain ⟨hR1, hR2⟩ := HX1.out
  have hRlt : w.heap.size + 1 < w1.heap.size := (Array.getElem?_eq_some_iff.1 hR2).1
  have hPw2 : P < w2.heap.size := (g1.row.lt P rfl).2
  obtain ⟨W3, hW3⟩ : ∃ W3 : World, W3 = (w2.setCell ⟨w.heap.size, 0, none⟩ (.slice (some ⟨P, 0, none⟩) N N)).setCell ⟨w.heap.size, 1, none⟩ (.int .i64 T.root) := ⟨_, rfl⟩
  have hfar3 : ∀ b, b ≠ w.heap.size → W3.heap[b]? = w2.heap[b]? := fun b hb => by rw [hW3, Below.heap_setCell _ _ _ _ hb, Below.heap_setCell _ _ _ _ hb]
  have hz3 : W3.heap.size = w2.heap.size := by rw [hW3]; simp
  have hb3 : Below w.heap.size w W3 := by rw [hW3]; exact (HB2.out.setCell (Nat.le_refl _) _).setCell (Nat.le_refl _) _
  have hg3 : PgsO W3 B own2 (.slice (some ⟨P, 0, none⟩) N N) T.pages (fun _ => True) vs2 := g1.high fun b hb => hfar3 b (by omega)
  have hX3 : W3.heap[w.heap.size]? = some (.cells #[.slice (some ⟨P, 0, none⟩) N N, .int .i64 T.root] 24 (0, 0)) ∧ W3.heap[w.heap.size + 1]? = some (.cells #[.slice none 0 0, .int .i64 0] 24 (0, 0)) := by
    refine ⟨?_, (hfar3 _ (by omega)).trans HX2.out.2⟩
    have e1 := box2_set0 (u := .slice (some ⟨P, 0, none⟩) N N) HX2.out.1
    obtain ⟨hlt, hk⟩ := Array.getElem?_eq_some_iff.1 e1
    rw [hW3]
    show ((w2.setCell _ _).heap.modify _ _)[w.heap.size]? = _
    rw [Array.getElem?_eq_getElem (by rw [Array.size_modify]; exact hlt), Array.getElem_modify_self, hk]
    rfl
  have hk3 : RB W3 (fun b => b < w.heap.size) (.slice ak nk ck) k := HK.out.to fun b hb hz => ⟨hb3.block b hb, hb⟩
  obtain ⟨lf, hlf⟩ : ∃ lf, lf = (leafT h t k).1 := ⟨_, rfl⟩
  have hleaf : Calls Try.prog 23 #[.agg #[.slice (some ⟨P, 0, none⟩) N N, .int .i64 T.root], .slice ak nk ck] W3.drew fun e w' => e = .returned (.int .i64 (lf : Int)) ∧ Below W3.drew.heap.size W3.drew w' := by
    obtain ⟨a1, a2, a3, a4, a5, a6⟩ := HH.out
    rw [hlf]
    exact leafOf_any W3.drew _ _ (fun b hb => hb.2) _ _ T h t k ((hg3.below (Below.refl _ _).drew fun _ _ => rfl).rt2) a1 (hk3.below (Below.refl _ _).drew) (by omega)
  have HLEAF := Lib.hid hleaf
  have HG3 := Lib.hid (And.intro hg3 g2)
  have HX3 := Lib.hid hX3
  have HB3 := Lib.hid hb3
  have HK3 := Lib.hid hk3
  have HBB := Lib.hid (show w.heap.size + 1 < B ∧ B ≤ W3.heap.size by rw [hz3]; exact ⟨by omega, by have := (g1.row.lt P rfl).1; omega⟩)
  have HW3 := Lib.hid hW3
  have hlN : lf < N := by
    obtain ⟨a1, a2, a3, a4, a5, a6⟩ := HH.out
    rw [hlf, a4]
    exact a1.lt _ (leaf_mem h t k)
  have HLF := Lib.hid hlf
  have hlI : (lf : Int) < (N : Int) := by omega
  have hl0 : (0 : Int) ≤ (lf : Int) := by omega
  clear hleaf hg3 hX3 hb3 hk3 hW3 hz3 hfar3 g1 g2 g3 hBd hw1s hw2s hR1 hR2 hRlt hPw2 HFIND HFRESH HX2 HX1 HB2 HB1 HP hlf hlN
  go_wp2_with fail
  rw [← HW3.out]
  obtain ⟨z0, z1, -⟩ := box2 HX3.out.1
  go_wp2_with fail
  refine wpT_begin (S := (fun wx => wx.cell? ⟨w.heap.size, 0, none⟩ = some (.slice (some ⟨P, 0, none⟩) N N) ∧ wx.cell? ⟨w.heap.size, 1, none⟩ = some (.int .i64 T.root))) [6] (by kernel_rfl) ?_ (fun hHeld => ?_)
  · (try dsimp only)
    (first | (with_reducible exact ⟨cell_dr z0, cell_dr z1⟩) | (with_reducible exact ⟨v0, v1⟩))
  refine wpAnyT_pure (i := 0) (oi := _) (v := ?_) rfl (by kernel_rfl) (by kernel_rfl) (by kernel_rfl) (by kernel_rfl) (fun _ _ _ h => h) (Or.inl ⟨by rfl, ?_⟩) (fun _ => by assumption) ?_
  rotate_left
  · (intro w hSw; go_simp)
    all_goals (with_reducible rfl)
  (try simp only [List.getElem_toArray, List.getElem_cons_zero, List.getElem_cons_succ, Act.put, List.setIfInBounds_toArray, List.set_cons_zero, List.set_cons_succ])
  refine wpAnyT_take (i := 1) (oi := _) (v := ?_) rfl (by kernel_rfl) (by kernel_rfl) (by kernel_rfl) (by kernel_rfl) (fun _ _ _ h => h) (Or.inl ⟨by rfl, ?_⟩) (by assumption) ?_
  rotate_left
  · (intro w hSw; (try dsimp only at hSw); go_simp)
    all_goals (with_reducible rfl)
  (try simp only [List.getElem_toArray, List.getElem_cons_zero, List.getElem_cons_succ, Act.put, List.setIfInBounds_toArray, List.set_cons_zero, List.set_cons_succ])
  refine wpAnyT_take (i := 2) (oi := _) (v := ?_) rfl (by kernel_rfl) (by kernel_rfl) (by kernel_rfl) (by kernel_rfl) (fun _ _ _ h => h) (Or.inl ⟨by rfl, ?_⟩) (by assumption) ?_
  rotate_left
  · (intro w hSw; (try dsimp only at hSw); go_simp)
    all_goals (with_reducible rfl)
  (try simp only [List.getElem_toArray, List.getElem_cons_zero, List.getElem_cons_succ, Act.put, List.setIfInBounds_toArray, List.set_cons_zero, List.set_cons_succ])
  refine wpAnyT_pure (i := 3) (oi := _) (v := ?_) rfl (by kernel_rfl) (by kernel_rfl) (by kernel_rfl) (by kernel_rfl) (fun _ _ _ h => h) (Or.inl ⟨by rfl, ?_⟩) (fun _ => by assumption) ?_
  rotate_left
  · (intro w hSw; go_simp)
    all_goals (with_reducible rfl)
  (try simp only [List.getElem_toArray, List.getElem_cons_zero, List.getElem_cons_succ, Act.put, List.setIfInBounds_toArray, List.set_cons_zero, List.set_cons_succ])
  refine wpAnyT_ready (rs := [4]) (by kernel_rfl) (by simp) ?_
  refine AllReadyT.cons rfl (fun K hK => ?_) AllReadyT.nil
  go_simp
  (go_at_call 23; ((with_reducible refine HLEAF.out.mono ?_); rintro e w4 ⟨rfl, hb4⟩; have HX4 := Lib.hid (carry2 (bel_undr hb4) HX3.out); have HB4 := Lib.hid (bel_undr hb4); obtain ⟨v0, v1, -⟩ := box2 HX4.out.1; clear hb4))
  go_wp2_with fail
  refine hK.out _ _ (fun _ => ?_) (fun hHeld0 => ?_)
  · (try dsimp only)
    (first | (with_reducible exact ⟨cell_dr z0, cell_dr z1⟩) | (with_reducible exact ⟨v0, v1⟩))
  have hHeld := hHeld0 (by kernel_rfl)
  clear hK K hHeld0
  (try simp only [List.getElem_toArray, List.getElem_cons_zero, List.getElem_cons_succ, Act.put, List.setIfInBounds_toArray, List.set_cons_zero, List.set_cons_succ])
  refine wpAnyT_pure (i := 5) (oi := _) (v := ?_) rfl (by kernel_rfl) (by kernel_rfl) (by kernel_rfl) (by kernel_rfl) (fun _ _ _ h => h) (Or.inl ⟨by rfl, ?_⟩) (fun _ => by assumption) ?_
  rotate_left
  · (intro w hSw; go_simp)
    all_goals (with_reducible rfl)
  (try simp only [List.getElem_toArray, List.getElem_cons_zero, List.getElem_cons_succ, Act.put, List.setIfInBounds_toArray, List.set_cons_zero, List.set_cons_succ])
  refine wpAnyT_ready (rs := [6]) (by kernel_rfl) (by simp) ?_
  refine AllReadyT.cons rfl (fun K hK => ?_) AllReadyT.nil
  go_simp
  refine hK.out _ _ (noneB_off (by kernel_rfl)) (fun _ => ?_)
  clear hK K
  (try simp only [List.getElem_toArray, List.getElem_cons_zero, List.getElem_cons_succ, Act.put, List.setIfInBounds_toArray, List.set_cons_zero, List.set_cons_succ])
  refine wpAnyT_done (by kernel_rfl) ?_ _
  have HG4 := Lib.hid (HG3.out.1.below HB4.out fun _ _ => rfl)
  have HK4 := Lib.hid (HK3.out.below HB4.out)
  obtain ⟨gk, ck, gd, cd, m, at_, hatm, hm4, u1, uf1, u2, uf2, HSR, HDK⟩ := del_start HH.out.1 HH.out.2.2.1 HH.out.2.2.2.1 HG4.out HK4.out (Nat.le_trans HBB.out.2 HB4.out.size)
  rw [← HLF.out] at u1 uf1 u2 uf2 HDK
  have hab : at_ ≤ 100 := by omega
  have hab1 : 0 ≤ (at_ : Int) := by omega
  have hwr : IntKind.i64.wrap ((at_ : Int) + 1) = (at_ : Int) + 1 := by rw [IntKind.wrap_i64]; omega
  clear v0 v1 z0 z1 hHeld y0 y1 yf0 yf1
  go_wp2_with fail
  refine HSR.out.mono ?_
  rintro en w5 ⟨rfl, rfl⟩
  go_wp2_with fail
  refine HDK.out.mono ?_
  rintro en w5 ⟨rfl, HDE, hP5⟩
  have x1 := (World.cell?_of_block (w := w4) (w' := w5) (a := ⟨P, lf * 5 + 1, none⟩) hP5).trans u1
  have xf1 := (World.frozen?_of_block (w := w4) (w' := w5) (a := ⟨P, lf * 5 + 1, none⟩) hP5).trans uf1
  have x2 := (World.cell?_of_block (w := w4) (w' := w5) (a := ⟨P, lf * 5 + 2, none⟩) hP5).trans u2
  have xf2 := (World.frozen?_of_block (w := w4) (w' := w5) (a := ⟨P, lf * 5 + 2, none⟩) hP5).trans uf2
  have x2' := cell_set_off (o' := lf * 5 + 1) (u := .slice (some ⟨gk, 0, none⟩) (m - 1) ck) x2 (by omega)
  clear u1 u2 uf1 uf2 hP5
  go_wp2_with fail
  have HDE2 := HDE.out
  unfold DelEnd at HDE2
  refine HDE2.mono ?_
  rintro en w6 ⟨rfl, HE6, hP6⟩
  clear HDE2 HDE HSR HDK hHeld
  have y2 := (World.cell?_of_block (w := w5.setCell ⟨P, lf * 5 + 1, none⟩ (.slice (some ⟨gk, 0, none⟩) (m - 1) ck)) (w' := w6) (a := ⟨P, lf * 5 + 2, none⟩) hP6).trans x2'
  have yf2 : w6.frozen? ⟨P, lf * 5 + 2, none⟩ = false := (World.frozen?_of_block (w := w5.setCell ⟨P, lf * 5 + 1, none⟩ (.slice (some ⟨gk, 0, none⟩) (m - 1) ck)) (w' := w6) (a := ⟨P, lf * 5 + 2, none⟩) hP6).trans (by simpa using xf2)
  obtain ⟨W6, hW6⟩ : ∃ W6, W6 = w6.setCell ⟨P, lf * 5 + 2, none⟩ (.slice (some ⟨gd, 0, none⟩) (m - 1) cd) := ⟨_, rfl⟩
  have HE7 := HE6.out
  rw [← hW6] at HE7
  obtain ⟨F7, vs7, G7⟩ := HE7
  have hz4 := HB4.out.size
  have hBB := HBB.out
  have hX7 : W6.heap[w.heap.size]? = some (.cells #[.slice (some ⟨P, 0, none⟩) N N, .int .i64 T.root] 24 (0, 0)) ∧ W6.heap[w.heap.size + 1]? = some (.cells #[.slice none 0 0, .int .i64 0] 24 (0, 0)) :=
    ⟨(F7.block _ (by omega) (HG3.out.2 _ (by omega))).trans HX4.out.1, (F7.block _ (by omega) (HG3.out.2 _ (by omega))).trans HX4.out.2⟩
  have hlen : (takeP h T.pages t k).length = N := by unfold takeP; rw [List.length_set]; exact HH.out.2.2.2.1.symm
  have hbf : Below w.heap.size w W6 := (HB3.out.trans (HB4.out.mono (by have := HB3.out.size; omega))).trans (F7.below (by omega) fun b hb => HG3.out.2 b (by omega))
  have hrt : OTr W6 (w.heap.size + 2) (.agg #[.slice (some ⟨P, 0, none⟩) N N, .int .i64 T.root]) ⟨takeP h T.pages t k, T.root⟩ := ⟨_, _, _, _, vs7, by omega, rfl, G7⟩
  obtain ⟨z0, z1, -⟩ := box2 hX7.1
  obtain ⟨y0, y1, yf0, yf1⟩ := box2 hX7.2
  have HRT := Lib.hid hrt
  have HBF := Lib.hid hbf
  have HLEN := Lib.hid hlen
  have y0' := y0
  have y1' := y1
  rw [hW6] at z0 z1 y0 y1 yf0 yf1
  have HW6 := Lib.hid hW6
  clear hW6 hrt hbf hX7 F7 G7 hlen hP6 x1 x2 xf1 xf2 x2' HE6
  go_wp2_with fail
  rw [← HW6.out]
  obtain ⟨q0, q1⟩ := box2_two (x := .slice (some ⟨P, 0, none⟩) N N) (y := .int .i64 T.root) y0' y1'
  refine bodyPost_ret (v := .tuple #[.agg #[.slice (some ⟨P, 0, none⟩) N N, .int .i64 T.root], .int .i64 0]) (by simp [results, Try.results10, go_sem, q0, q1]; try rfl) rfl ?_
  have e9 := HLEN.out
  refine ⟨P, N, ?_, ?_, (HBF.out.setCell (by show w.heap.size ≤ w.heap.size + 1; omega) _).setCell (by show w.heap.size ≤ w.heap.size + 1; omega) _⟩
  · show Ending.returned (.tuple #[.agg #[.slice (some ⟨P, 0, none⟩) N N, .int .i64 T.root], .int .i64 0]) = Ending.returned (.tuple #[.agg #[.slice (some ⟨P, 0, none⟩) (takeP h T.pages t k).length N, .int .i64 T.root], .int .i64 0])
    rw [e9]
  · show OTr _ w.heap.size (.agg #[.slice (some ⟨P, 0, none⟩) (takeP h T.pages t k).length N, .int .i64 T.root]) _
    rw [e9]
    exact (HRT.out.far fun b hb _ => by rw [Below.heap_setCell _ _ _ _ (show b ≠ w.heap.size + 1 by omega), Below.heap_setCell _ _ _ _ (show b ≠ w.heap.size + 1 by omega)]).base (by omega)
end Go.Proofs.Ytahammkjkfdmhaa

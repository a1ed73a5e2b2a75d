/- One page of a tree changed in place. -/
import Derived.Test.YtacpeibkamfibaaXa
import Derived.Test.YtacpeibkamfibaaXs
import Derived.Test.YtacpeibkamfibaaTj
namespace Go.Proofs.Ytacpeibkamfibaa
open Go.ChangeShapes Go.WideShapes Go.ChangeAt Go.RowKit Go.Shelf
set_option linter.unusedVariables false
set_option linter.unusedSimpArgs false
set_option maxHeartbeats 1000000
set_option maxRecDepth 100000
section
variable {w : World} {B : Nat} {own : Tag} {P n cap : Nat} {ps : List Pg} {tight : Nat → Prop} {vs : List Value} {i : Nat} {p : Pg}
theorem cell_page (h : PgsO w B own (.slice (some ⟨P, 0, none⟩) n cap) ps tight vs) (hn : n = ps.length) (hp : ps[i]? = some p) {j : Nat} (hj : j < 5) (u : Value) {p' : Pg} (hpg : PgO w B own False (vs.set (i * 5 + j) u) i p') :
    PgsO (w.setCell ⟨P, i * 5 + j, none⟩ u) B own (.slice (some ⟨P, 0, none⟩) n cap) (ps.set i p') (fun _ => False) (vs.set (i * 5 + j) u) := by
  have hP : own P = 1 := h.tag P rfl
  have hi : i < ps.length := (List.getElem?_eq_some_iff.1 hp).1
  have hrow := h.row
  rw [← hn] at hrow
  have far : ∀ b, own b ≠ 1 → (w.setCell ⟨P, i * 5 + j, none⟩ u).heap[b]? = w.heap[b]? := fun b hb => Below.heap_setCell _ _ _ _ (by show b ≠ P; rintro rfl; exact hb hP)
  refine h.repl hi (by rw [← hn]; exact set_pg hrow _ _) (fun q hq => List.getElem?_set_ne (by omega)) (fun b _ hb _ _ => far b hb) (fun b _ => rfl)
    (hpg.to id (fun _ _ => rfl) fun b _ _ hor => ⟨far b (by omega), rfl⟩)
theorem spoil_next (h : PgsO w B own (.slice (some ⟨P, 0, none⟩) n cap) ps tight vs) (hn : n = ps.length) (hp : ps[i]? = some p) (u : Int) :
    PgsO (w.setCell ⟨P, i * 5 + 4, none⟩ (.int .i64 u)) B own (.slice (some ⟨P, 0, none⟩) n cap) (ps.set i { p with next := u }) (fun _ => False) (vs.set (i * 5 + 4) (.int .i64 u)) := by
  obtain ⟨k, d, g, ks, c0, c1, c2, c3, c4, h1, h2, h3, h4, h5, h6, h7⟩ := h.pg i p hp
  have hl := (List.getElem?_eq_some_iff.1 c4).1
  exact cell_page h hn hp (by omega) _ ⟨k, d, g, ks, (List.getElem?_set_ne (by omega)).trans c0, (List.getElem?_set_ne (by omega)).trans c1, (List.getElem?_set_ne (by omega)).trans c2, (List.getElem?_set_ne (by omega)).trans c3,
    List.getElem?_set_self hl, h1, h2, fun q => q.elim, h4, h5, h6, h7⟩
theorem spoil_leaf (h : PgsO w B own (.slice (some ⟨P, 0, none⟩) n cap) ps tight vs) (hn : n = ps.length) (hp : ps[i]? = some p) (u : Bool) :
    PgsO (w.setCell ⟨P, i * 5 + 0, none⟩ (.bool u)) B own (.slice (some ⟨P, 0, none⟩) n cap) (ps.set i { p with leaf := u }) (fun _ => False) (vs.set (i * 5 + 0) (.bool u)) := by
  obtain ⟨k, d, g, ks, c0, c1, c2, c3, c4, h1, h2, h3, h4, h5, h6, h7⟩ := h.pg i p hp
  have hl := (List.getElem?_eq_some_iff.1 c0).1
  exact cell_page h hn hp (by omega) _ ⟨k, d, g, ks, List.getElem?_set_self hl, (List.getElem?_set_ne (by omega)).trans c1, (List.getElem?_set_ne (by omega)).trans c2, (List.getElem?_set_ne (by omega)).trans c3,
    (List.getElem?_set_ne (by omega)).trans c4, h1, h2, fun q => q.elim, h4, h5, h6, h7⟩
theorem spoil_high (h : PgsO w B own (.slice (some ⟨P, 0, none⟩) n cap) ps tight vs) (hn : n = ps.length) (hp : ps[i]? = some p) {u : Value} {l : Key} (hu : RB w (Fz B own) u l) :
    PgsO (w.setCell ⟨P, i * 5 + 3, none⟩ u) B own (.slice (some ⟨P, 0, none⟩) n cap) (ps.set i { p with high := l }) (fun _ => False) (vs.set (i * 5 + 3) u) := by
  obtain ⟨k, d, g, ks, c0, c1, c2, c3, c4, h1, h2, h3, h4, h5, h6, h7⟩ := h.pg i p hp
  have hl := (List.getElem?_eq_some_iff.1 c3).1
  exact cell_page h hn hp (by omega) _ ⟨k, d, u, ks, (List.getElem?_set_ne (by omega)).trans c0, (List.getElem?_set_ne (by omega)).trans c1, (List.getElem?_set_ne (by omega)).trans c2, List.getElem?_set_self hl,
    (List.getElem?_set_ne (by omega)).trans c4, h1, h2, fun q => q.elim, h4, h5, h6, hu⟩
/-- The kids of a page, one longer. -/
theorem spoil_kids (h : PgsO w B own (.slice (some ⟨P, 0, none⟩) n cap) ps tight vs) (hn : n = ps.length) (hp : ps[i]? = some p) {d u : Value} {w2 : World} {x : Int} (hd : vs[i * 5 + 2]? = some d)
    (hu : w2.ownsRow B 3 1 u (p.kids.length + 1) (ic p.kids ++ [.int .i64 x])) (hg : w.grownBy w2 d.ownBlock) (hat : u.ownBlock = d.ownBlock ∨ u.ownBlock = some (w.heap.size + 1)) :
    ∃ own', PgsO (w2.setCell ⟨P, i * 5 + 2, none⟩ u) B own' (.slice (some ⟨P, 0, none⟩) n cap) (ps.set i { p with kids := p.kids ++ [x] }) (fun _ => False) (vs.set (i * 5 + 2) u) := by
  obtain ⟨k, d', g, ks, c0, c1, c2, c3, c4, h1, h2, h3, h4, h5, h6, h7⟩ := h.pg i p hp
  obtain rfl : d' = d := by rw [c2] at hd; injection hd
  have hl := (List.getElem?_eq_some_iff.1 c2).1
  have hP : own P = 1 := h.tag P rfl
  have hPl : P < w.heap.size := (h.row.lt P rfl).2
  have hi : i < ps.length := (List.getElem?_eq_some_iff.1 hp).1
  have far : ∀ b, b < w.heap.size → own b ≠ 2 * i + 3 → w2.heap[b]? = w.heap[b]? := fun b hb hne => hg.block b hb (fun e => hne (h6 b e.symm))
  have far3 : ∀ b, b < w.heap.size → own b ≠ 2 * i + 3 → own b ≠ 1 → (w2.setCell ⟨P, i * 5 + 2, none⟩ u).heap[b]? = w.heap[b]? := fun b hb hne h1 =>
    (Below.heap_setCell _ _ _ _ (by show b ≠ P; rintro rfl; exact h1 hP)).trans (far b hb hne)
  have hnew : ∀ b, u.ownBlock = some b → b ≠ P := fun b e hbP => by
    rcases hat with r3 | r3
    · rw [r3] at e
      have := h6 b e
      rw [hbP, hP] at this
      omega
    · rw [e] at r3
      cases r3
      omega
  obtain ⟨own', hown'⟩ : ∃ own' : Tag, own' = fun b => if b < w.heap.size then own b else if u.ownBlock = some b then 2 * i + 3 else 0 := ⟨_, rfl⟩
  have ht : ∀ b, b < w.heap.size → own' b = own b := fun b hb => by rw [hown']; exact if_pos hb
  have hrow2 : w2.ownsRow B 59 5 (.slice (some ⟨P, 0, none⟩) n cap) n vs := own_far (by rw [hn]; rw [hn] at h; exact h.row) fun b hb => by
    have hb' : P = b := by simpa [Value.ownBlock] using hb
    subst hb'
    exact far P hPl (by rw [hP]; omega)
  have z : ∀ b, b < w.heap.size → Fz B own b → (w2.setCell ⟨P, i * 5 + 2, none⟩ u).heap[b]? = w.heap[b]? ∧ Fz B own' b := fun b hb hz => ⟨far3 b hb (by rw [hz.2]; omega) (by rw [hz.2]; omega), hz.1, (ht b hb).trans hz.2⟩
  refine ⟨own', h.repl hi (by rw [← hn]; exact set_pg hrow2 _ _) (fun q hq => List.getElem?_set_ne (by omega)) (fun b hb n1 n2 n3 => far3 b hb n3 n1) ht
    ⟨k, u, g, ks, (List.getElem?_set_ne (by omega)).trans c0, (List.getElem?_set_ne (by omega)).trans c1, List.getElem?_set_self hl, (List.getElem?_set_ne (by omega)).trans c3, (List.getElem?_set_ne (by omega)).trans c4,
      own_far h1 fun b hb => far3 b (h1.lt b hb).2 (by rw [h2 b hb]; omega) (by rw [h2 b hb]; omega), fun b hb => by rw [ht b (h1.lt b hb).2]; exact h2 b hb, fun q => q.elim, h4.to z, ?_, fun b hb => ?_, h7.to z⟩⟩
  · show World.ownsRow _ B _ 1 u (p.kids ++ [x]).length (ic (p.kids ++ [x]))
    rw [List.length_append, ic, List.map_append]
    exact own_far hu fun b hb => Below.heap_setCell _ _ _ _ (hnew b hb)
  · rcases hat with r3 | r3
    · rw [r3] at hb
      rw [ht b (h5.lt b hb).2]
      exact h6 b hb
    · have hb2 := hb
      rw [r3] at hb2
      cases hb2
      rw [hown']
      show (if w.heap.size + 1 < w.heap.size then _ else if u.ownBlock = some (w.heap.size + 1) then 2 * i + 3 else 0) = _
      rw [if_neg (by omega), if_pos hb]
end
/-- What Find, Insert and Check say of a spoilt tree. -/
theorem small_set {T : Tr} (hs : Small T) {i : Nat} (hi : i < T.pages.length) (hk : (T.pages.getD i noPg).kids.length ≤ 1000000) (c : Nat) : Small (spoilT c i T) := by
  refine ⟨fun q hq => ?_, hs.2⟩
  rcases List.mem_or_eq_of_mem_set hq with h | rfl
  · exact hs.1 q h
  · have := hs.1 _ (mem_at hi)
    unfold spoilP
    split
    · exact this
    · split
      · exact this
      · split
        · exact this
        · refine ⟨this.1, ?_⟩
          simp only [List.length_append, List.length_singleton]
          omega
theorem bad_all {w : World} {B : Nat} {tv : Value} {T : Tr} (h : OTr w B tv T) (hs : Small T) (hb : ¬ Pass T) :
    (∀ kv, Calls Try.prog 31 #[tv, kv] w (Two 0 11 w)) ∧ (∀ kv row, Calls Try.prog 25 #[tv, kv, .int .i64 row] w (NoIs 11 w)) ∧
    Calls Try.prog 33 #[tv] w fun e w' => e = .returned (.int .i64 11) ∧ Below w.heap.size w w' := by
  have hn : ¬ (T.pages.length ≤ 4000 ∧ Pass T) := fun q => hb q.2
  have hf : ∀ W, Below w.heap.size w W → ∀ kv, Calls Try.prog 31 #[tv, kv] W (Two 0 11 W) := fun W hW kv => find_bad W _ (fun b hb => hb.2) tv kv T (rt_lt (h.below hW).rt) hs hn
  refine ⟨fun kv => hf w (Below.refl _ _) kv, fun kv row => ?_, ?_⟩
  · obtain ⟨ao, n, cap, rfl⟩ := rt_shape h.rt
    exact insert_no w ao n cap T.root kv 0 11 11 row (fun W hW => hf W hW kv) (.inl ⟨by omega, by omega, rfl⟩)
  · have hc := check_any w _ (fun b hb => hb.2) _ T (rt_lt h.rt) hs.1 hs.2
    unfold ChkIs at hc
    rwa [chkT_no hn] at hc
end Go.Proofs.Ytacpeibkamfibaa

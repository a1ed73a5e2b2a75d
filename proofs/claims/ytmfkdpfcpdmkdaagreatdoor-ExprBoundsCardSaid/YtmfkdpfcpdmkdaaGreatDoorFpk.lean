import Derived.Test.YtmfkdpfcpdmkdaaGreatDoorFtk
import Derived.Test.YtmfkdpfcpdmkdaaGreatDoorFgk
/- Plain: what the program's fold says of a tree is what the document's musts say. -/
namespace Go.Proofs.YtmfkdpfcpdmkdaaGreatDoor.bd
set_option linter.unusedVariables false
set_option linter.unusedSimpArgs false
set_option maxHeartbeats 2000000
/-- What the fold makes of a tree. -/
def pt (c : ByteArray) (t : Tx) : Pt := (evT (lfP c) onP twP t).2
theorem ev_ok (c : ByteArray) : ∀ t : Tx, (∀ o ∈ t.flat, (lfP c o).1 = 0) → (evT (lfP c) onP twP t).1 = 0
  | .leaf o, h => h o (by simp [Tx.flat])
  | .un o a, h => by
    have ha := ev_ok c a (fun x hx => h x (by simp [Tx.flat, hx]))
    rw [ev_un _ _ _ ha]; rfl
  | .bi o a b, h => by
    have ha := ev_ok c a (fun x hx => h x (by simp [Tx.flat, hx]))
    have hb := ev_ok c b (fun x hx => h x (by simp [Tx.flat, hx]))
    rw [ev_bi _ _ _ ha hb]; rfl
theorem pt_un (c : ByteArray) (o : Oq) (a : Tx) (h : (evT (lfP c) onP twP a).1 = 0) : pt c (.un o a) = (onP o.k (pt c a)).2 := by unfold pt; rw [ev_un _ _ _ h]
theorem pt_bi (c : ByteArray) (o : Oq) (a b : Tx) (h : (evT (lfP c) onP twP a).1 = 0) (g : (evT (lfP c) onP twP b).1 = 0) : pt c (.bi o a b) = (twP o.k (pt c a) (pt c b)).2 := by unfold pt; rw [ev_bi _ _ _ h g]
/-- A column or a literal of a key: a leaf. -/
theorem pt_f (c : ByteArray) : ∀ t : Tx, (∀ o ∈ t.flat, (lfP c o).1 = 0) → (pt c t).f = true → ∃ x, t = .leaf x ∧ x.k = 2 ∧ x.t = c
  | .leaf o, h, hf => by
    refine ⟨o, rfl, ?_⟩
    have hf : (lfP c o).2.f = true := hf
    unfold lfP at hf
    split at hf
    · simp at hf
    · have := of_decide_eq_true hf
      exact ⟨this.1, same_of this.2⟩
  | .un o a, h, hf => by
    rw [pt_un c o a (ev_ok c a (fun x hx => h x (by simp [Tx.flat, hx])))] at hf
    unfold onP at hf
    dsimp only at hf
    split at hf <;> simp [np] at hf
  | .bi o a b, h, hf => by
    rw [pt_bi c o a b (ev_ok c a (fun x hx => h x (by simp [Tx.flat, hx]))) (ev_ok c b (fun x hx => h x (by simp [Tx.flat, hx])))] at hf
    unfold twP at hf
    dsimp only at hf
    repeat' split at hf
    all_goals simp [np] at hf
theorem pt_k (c : ByteArray) : ∀ t : Tx, (∀ o ∈ t.flat, (lfP c o).1 = 0) → (pt c t).k ≠ [] → ∃ x, t = .leaf x ∧ x.k = 1 ∧ x.v.k ≠ 0
  | .leaf o, h, hf => by
    refine ⟨o, rfl, ?_⟩
    have hf : (lfP c o).2.k ≠ [] := hf
    unfold lfP at hf
    split at hf
    · next h1 => exact h1
    · simp at hf
  | .un o a, h, hf => by
    rw [pt_un c o a (ev_ok c a (fun x hx => h x (by simp [Tx.flat, hx])))] at hf
    unfold onP at hf
    dsimp only at hf
    split at hf <;> simp [np] at hf
  | .bi o a b, h, hf => by
    rw [pt_bi c o a b (ev_ok c a (fun x hx => h x (by simp [Tx.flat, hx]))) (ev_ok c b (fun x hx => h x (by simp [Tx.flat, hx])))] at hf
    unfold twP at hf
    dsimp only at hf
    repeat' split at hf
    all_goals simp [np] at hf
theorem pt_lit (c : ByteArray) (x : Oq) (h1 : x.k = 1) (h0 : x.v.k ≠ 0) : pt c (.leaf x) = ⟨false, (enc [x.v]).1, [], [], [], []⟩ := by
  show (lfP c x).2 = _
  unfold lfP
  rw [if_pos ⟨h1, h0⟩]
theorem pt_col (c : ByteArray) (x : Oq) (h1 : x.k ≠ 1 ∨ x.v.k = 0) : pt c (.leaf x) = ⟨decide (x.k = 2 ∧ x.t.toList = c.toList), [], [], [], [], []⟩ := by
  show (lfP c x).2 = _
  unfold lfP
  rw [if_neg (by rintro ⟨g1, g2⟩; rcases h1 with h | h <;> contradiction)]
/-- What a comparison says: as the document's. -/
def lo1 (r : Option (Int × V)) : List UInt8 := match r with | none => [] | some (d, v) => if d ≤ 0 then (enc [v]).1 else []
def hi1 (r : Option (Int × V)) : List UInt8 := match r with | none => [] | some (d, v) => if 0 ≤ d then (enc [v]).1 else []
theorem loS_one (c : ByteArray) (s : Tx) : loS c [] s = lo1 (sideT c s) := by
  unfold loS lo1
  generalize sideT c s = r
  cases r with
  | none => rfl
  | some q =>
    obtain ⟨d, v⟩ := q
    show (if _ then loW [] _ else []) = if _ then _ else []
    rw [lo_nil]
theorem hiS_one (c : ByteArray) (s : Tx) : hiS c [] s = hi1 (sideT c s) := by
  unfold hiS hi1
  generalize sideT c s = r
  cases r with
  | none => rfl
  | some q =>
    obtain ⟨d, v⟩ := q
    show (if _ then hiW [] _ else []) = if _ then _ else []
    rw [hi_nil]
theorem nlit {x : Oq} (h : ¬ (x.k = 1 ∧ x.v.k ≠ 0)) : x.k ≠ 1 ∨ x.v.k = 0 := by omega
/-- Two leaves compared. -/
theorem core_pt (c : ByteArray) (x y : Oq) (k : Int) (h3 : k ≠ 3) : (twP k (pt c (.leaf x)) (pt c (.leaf y))).2.hl = lo1 (coreF c false x y k) ∧ (twP k (pt c (.leaf x)) (pt c (.leaf y))).2.hh = hi1 (coreF c false x y k) ∧
    (twP k (pt c (.leaf x)) (pt c (.leaf y))).2.fl = lo1 (coreF c true x y k) ∧ (twP k (pt c (.leaf x)) (pt c (.leaf y))).2.fh = hi1 (coreF c true x y k) := by
  by_cases hx : x.k = 1 ∧ x.v.k ≠ 0
  · rw [pt_lit c x hx.1 hx.2]
    by_cases hy : y.k = 1 ∧ y.v.k ≠ 0
    · rw [pt_lit c y hy.1 hy.2]
      have e : ∀ nt, coreF c nt x y k = none := fun nt => by unfold coreF; rw [if_neg (by omega), if_neg (by omega)]
      rw [e, e]
      unfold twP
      simp [h3, lo1, hi1, np]
    · rw [pt_col c y (nlit hy)]
      by_cases hc : y.k = 2 ∧ y.t = c
      · have e : ∀ nt, coreF c nt x y k = dirF false nt k x.v := fun nt => by unfold coreF; rw [if_neg (by omega), if_pos ⟨hc.1, hc.2, hx.1⟩]
        rw [e, e]
        have hd : decide (y.k = 2 ∧ y.t.toList = c.toList) = true := decide_eq_true ⟨hc.1, by rw [hc.2]⟩
        rw [hd]
        unfold twP dirF
        by_cases k6 : k = 6
        · subst k6; simp [lo1, hi1, hx.2]
        · by_cases k7 : k = 7
          · subst k7; simp [lo1, hi1, hx.2]
          · simp [h3, k6, k7, lo1, hi1, np, hx.2]
      · have e : ∀ nt, coreF c nt x y k = none := fun nt => by unfold coreF; rw [if_neg (by omega), if_neg (fun h => hc ⟨h.1, h.2.1⟩)]
        rw [e, e]
        have hd : decide (y.k = 2 ∧ y.t.toList = c.toList) = false := decide_eq_false (fun h => hc ⟨h.1, same_of h.2⟩)
        rw [hd]
        unfold twP
        simp [h3, lo1, hi1, np]
  · have hx' : x.k ≠ 1 ∨ x.v.k = 0 := nlit hx
    rw [pt_col c x hx']
    by_cases hc : x.k = 2 ∧ x.t = c
    · have hd : decide (x.k = 2 ∧ x.t.toList = c.toList) = true := decide_eq_true ⟨hc.1, by rw [hc.2]⟩
      rw [hd]
      by_cases hy : y.k = 1 ∧ y.v.k ≠ 0
      · rw [pt_lit c y hy.1 hy.2]
        have e : ∀ nt, coreF c nt x y k = dirF true nt k y.v := fun nt => by unfold coreF; rw [if_pos ⟨hc.1, hc.2, hy.1⟩]
        rw [e, e]
        unfold twP dirF
        by_cases k6 : k = 6
        · subst k6; simp [lo1, hi1, hy.2]
        · by_cases k7 : k = 7
          · subst k7; simp [lo1, hi1, hy.2]
          · simp [h3, k6, k7, lo1, hi1, np, hy.2]
      · have hy' : y.k ≠ 1 ∨ y.v.k = 0 := nlit hy
        rw [pt_col c y hy']
        have e : ∀ nt, coreF c nt x y k = none := fun nt => by
          unfold coreF
          split
          · next h =>
            unfold dirF
            rw [if_pos (by rcases hy' with g | g; exact absurd h.2.2 g; exact g)]
          · rw [if_neg (by omega)]
        rw [e, e]
        unfold twP
        by_cases k6 : k = 6
        · subst k6; simp [lo1, hi1]
        · by_cases k7 : k = 7
          · subst k7; simp [lo1, hi1]
          · simp [h3, k6, k7, lo1, hi1, np]
    · have hd : decide (x.k = 2 ∧ x.t.toList = c.toList) = false := decide_eq_false (fun h => hc ⟨h.1, same_of h.2⟩)
      rw [hd]
      have e : ∀ nt, coreF c nt x y k = none := fun nt => by
        unfold coreF
        rw [if_neg (fun h => hc ⟨h.1, h.2.1⟩)]
        split
        · next h =>
          unfold dirF
          rw [if_pos (by rcases hx' with g | g; exact absurd h.2.2 g; exact g)]
        · rfl
      rw [e, e]
      generalize pt c (.leaf y) = q
      unfold twP
      obtain ⟨f, qk, q1, q2, q3, q4⟩ := q
      dsimp only
      rw [if_neg h3]
      by_cases k6 : k = 6
      · subst k6; cases f <;> simp [lo1, hi1, np]
      · by_cases k7 : k = 7
        · subst k7; cases f <;> simp [lo1, hi1, np]
        · simp [k6, k7, lo1, hi1, np]
/-- Nothing said. -/
def No (p : Pt) : Prop := p.hl = [] ∧ p.hh = [] ∧ p.fl = [] ∧ p.fh = []
theorem core_and (c : ByteArray) (nt : Bool) (x y : Oq) : coreF c nt x y 3 = none := by
  unfold coreF dirF
  repeat' split
  all_goals first | rfl | omega | (rename_i h; exact absurd h.1 (by omega)) | (exfalso; simp_all)
theorem leaf_no (c : ByteArray) (x : Oq) : No (pt c (.leaf x)) := by
  show No (lfP c x).2
  unfold lfP
  split <;> exact ⟨rfl, rfl, rfl, rfl⟩
theorem tw_no (k : Int) (a b : Pt) (h3 : k ≠ 3) (ha : a.f = true → b.k = []) (hb : b.f = true → a.k = []) : No (twP k a b).2 := by
  obtain ⟨f, ak, a1, a2, a3, a4⟩ := a
  obtain ⟨g, bk, b1, b2, b3, b4⟩ := b
  simp only at ha hb
  unfold twP No
  dsimp only
  rw [if_neg h3]
  by_cases k6 : k = 6
  · subst k6; cases f <;> cases g <;> simp_all [np]
  · by_cases k7 : k = 7
    · subst k7; cases f <;> cases g <;> simp_all [np]
    · simp [k6, k7, np]
theorem sub_ok {c : ByteArray} {o : Oq} {a b : Tx} (h : ∀ x ∈ (Tx.bi o a b).flat, (lfP c x).1 = 0) : (∀ x ∈ a.flat, (lfP c x).1 = 0) ∧ (∀ x ∈ b.flat, (lfP c x).1 = 0) :=
  ⟨fun x hx => h x (by simp [Tx.flat, hx]), fun x hx => h x (by simp [Tx.flat, hx])⟩
theorem bi_no (c : ByteArray) (o : Oq) (a b : Tx) (h3 : o.k ≠ 3) (h : ∀ x ∈ (Tx.bi o a b).flat, (lfP c x).1 = 0) (hn : ∀ x y, ¬ (a = .leaf x ∧ b = .leaf y)) : No (pt c (.bi o a b)) := by
  obtain ⟨ha, hb⟩ := sub_ok h
  rw [pt_bi c o a b (ev_ok c a ha) (ev_ok c b hb)]
  refine tw_no _ _ _ h3 (fun hf => ?_) (fun hf => ?_)
  · obtain ⟨x, rfl, _⟩ := pt_f c a ha hf
    refine Classical.byContradiction fun hk => ?_
    obtain ⟨y, rfl, _⟩ := pt_k c b hb hk
    exact hn x y ⟨rfl, rfl⟩
  · obtain ⟨y, rfl, _⟩ := pt_f c b hb hf
    refine Classical.byContradiction fun hk => ?_
    obtain ⟨x, rfl, _⟩ := pt_k c a ha hk
    exact hn x y ⟨rfl, rfl⟩
theorem bi_pt (c : ByteArray) (o x y : Oq) (h3 : o.k ≠ 3) (h : ∀ z ∈ (Tx.bi o (.leaf x) (.leaf y)).flat, (lfP c z).1 = 0) :
    (pt c (.bi o (.leaf x) (.leaf y))).hl = lo1 (coreF c false x y o.k) ∧ (pt c (.bi o (.leaf x) (.leaf y))).hh = hi1 (coreF c false x y o.k) ∧ (pt c (.bi o (.leaf x) (.leaf y))).fl = lo1 (coreF c true x y o.k) ∧ (pt c (.bi o (.leaf x) (.leaf y))).fh = hi1 (coreF c true x y o.k) := by
  obtain ⟨ha, hb⟩ := sub_ok h
  rw [pt_bi c o _ _ (ev_ok c _ ha) (ev_ok c _ hb)]
  exact core_pt c x y o.k h3
theorem leaves (a b : Tx) : (∃ x y, a = .leaf x ∧ b = .leaf y) ∨ ∀ x y, ¬ (a = .leaf x ∧ b = .leaf y) := by
  by_cases h : ∃ x y, a = .leaf x ∧ b = .leaf y
  · exact .inl h
  · exact .inr fun x y g => h ⟨x, y, g⟩
theorem side_bi (c : ByteArray) (o : Oq) (a b : Tx) (hn : ∀ x y, ¬ (a = .leaf x ∧ b = .leaf y)) : sideT c (.bi o a b) = none := by
  cases a <;> cases b <;> first | rfl | exact absurd ⟨rfl, rfl⟩ (hn _ _)
theorem side_not (c : ByteArray) (o p : Oq) (a b : Tx) (hn : ∀ x y, ¬ (a = .leaf x ∧ b = .leaf y)) : sideT c (.un o (.bi p a b)) = none := by
  cases a <;> cases b <;> first | rfl | exact absurd ⟨rfl, rfl⟩ (hn _ _)
theorem must_pt (c : ByteArray) : ∀ t : Tx, (∀ o ∈ t.flat, (lfP c o).1 = 0) → mustsT t = [t] → (pt c t).hl = lo1 (sideT c t) ∧ (pt c t).hh = hi1 (sideT c t)
  | .leaf x, h, hm => ⟨(leaf_no c x).1, (leaf_no c x).2.1⟩
  | .bi o a b, h, hm => by
    have h3 : o.k ≠ 3 := fun e => by
      rw [mustsT, if_pos e] at hm
      have h1 := mustsT_len a
      have h2 := mustsT_len b
      have := congrArg List.length hm
      rw [List.length_append, List.length_singleton] at this
      omega
    rcases leaves a b with ⟨x, y, rfl, rfl⟩ | hn
    · have := bi_pt c o x y h3 h
      exact ⟨this.1, this.2.1⟩
    · rw [side_bi c o a b hn]
      have := bi_no c o a b h3 h hn
      exact ⟨this.1, this.2.1⟩
  | .un o a, h, hm => by
    have ha : ∀ x ∈ a.flat, (lfP c x).1 = 0 := fun x hx => h x (by simp [Tx.flat, hx])
    rw [pt_un c o a (ev_ok c a ha)]
    by_cases h5 : o.k = 5
    · have e : (onP o.k (pt c a)).2 = ⟨false, [], (pt c a).fl, (pt c a).fh, [], []⟩ := by unfold onP; rw [if_pos h5]
      rw [e]
      show (pt c a).fl = _ ∧ (pt c a).fh = _
      cases a with
      | leaf x => exact ⟨(leaf_no c x).2.2.1, (leaf_no c x).2.2.2⟩
      | un p b =>
        have hb : ∀ x ∈ b.flat, (lfP c x).1 = 0 := fun x hx => ha x (by simp [Tx.flat, hx])
        rw [pt_un c p b (ev_ok c b hb)]
        unfold onP
        dsimp only
        split <;> exact ⟨rfl, rfl⟩
      | bi p a b =>
        obtain ⟨h1, h2⟩ := sub_ok ha
        by_cases h3 : p.k = 3
        · have e : No (⟨(twP p.k (pt c a) (pt c b)).2.f, [], [], [], (twP p.k (pt c a) (pt c b)).2.fl, (twP p.k (pt c a) (pt c b)).2.fh⟩ : Pt) := by
            unfold twP
            rw [if_pos h3]
            exact ⟨rfl, rfl, rfl, rfl⟩
          rw [pt_bi c p a b (ev_ok c a h1) (ev_ok c b h2)]
          have hs : sideT c (.un o (.bi p a b)) = none := by
            rcases leaves a b with ⟨x, y, rfl, rfl⟩ | hn
            · show (if o.k = 5 then coreF c true x y p.k else none) = none
              rw [if_pos h5, h3]
              exact core_and c true x y
            · exact side_not c o p a b hn
          rw [hs]
          exact ⟨e.2.2.1, e.2.2.2⟩
        · rcases leaves a b with ⟨x, y, rfl, rfl⟩ | hn
          · have := bi_pt c p x y h3 ha
            have hs : sideT c (.un o (.bi p (.leaf x) (.leaf y))) = coreF c true x y p.k := if_pos h5
            rw [hs]
            exact this.2.2
          · rw [side_not c o p a b hn]
            exact (bi_no c p a b h3 ha hn).2.2
    · have e : (onP o.k (pt c a)).2 = np := by unfold onP; rw [if_neg h5]
      have hs : sideT c (.un o a) = none := by
        cases a with
        | leaf x => rfl
        | un p b => rfl
        | bi p a b => cases a <;> cases b <;> first | rfl | exact if_neg h5
      rw [e, hs]
      exact ⟨rfl, rfl⟩
theorem tree_pt (c : ByteArray) : ∀ t : Tx, (∀ o ∈ t.flat, (lfP c o).1 = 0) → (pt c t).hl = loL c (mustsT t) ∧ (pt c t).hh = hiL c (mustsT t)
  | .leaf x, h => by
    have := must_pt c (.leaf x) h rfl
    rw [← loS_one, ← hiS_one] at this
    exact this
  | .un o a, h => by
    have := must_pt c (.un o a) h rfl
    rw [← loS_one, ← hiS_one] at this
    exact this
  | .bi o a b, h => by
    obtain ⟨ha, hb⟩ := sub_ok h
    by_cases h3 : o.k = 3
    · rw [pt_bi c o a b (ev_ok c a ha) (ev_ok c b hb), mustsT, if_pos h3, loL_app, hiL_app, ← (tree_pt c a ha).1, ← (tree_pt c b hb).1, ← (tree_pt c a ha).2, ← (tree_pt c b hb).2]
      unfold twP
      rw [if_pos h3]
      exact ⟨rfl, rfl⟩
    · have hm : mustsT (.bi o a b) = [.bi o a b] := by rw [mustsT, if_neg h3]
      have := must_pt c (.bi o a b) h hm
      rw [← loS_one, ← hiS_one] at this
      rw [hm]
      exact this
end Go.Proofs.YtmfkdpfcpdmkdaaGreatDoor.bd

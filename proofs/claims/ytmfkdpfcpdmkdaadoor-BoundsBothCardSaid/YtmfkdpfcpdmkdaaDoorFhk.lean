import Derived.Test.YtmfkdpfcpdmkdaaDoorFgk
import Derived.Test.YtmfkdpfcpdmkdaaDoorOhk
/- Plain: a row of which an expression is true lies within its bounds. -/
namespace Go.Proofs.YtmfkdpfcpdmkdaaDoor.bd
set_option linter.unusedVariables false
set_option linter.unusedSimpArgs false
theorem enc_one {v : V} (h : Ok v) : enc [v] = (encs [v], 0) := by
  have hl := cd.encs_len [v] (fun x hx => by rw [List.mem_singleton.1 hx]; exact h)
  exact enc_ok (fun x hx => by rw [List.mem_singleton.1 hx]; exact h) (by simp) (by simp at hl ⊢; omega)
theorem bl_less {v w : V} (hv : Ok v) (hw : Ok w) (h : ord v w < 0) : bl (encs [v]) (encs [w]) = true := enc1_less hv hw h [] []
/-- From a key on: not below it. -/
theorem bl_not {v w : V} (hv : Ok v) (hw : Ok w) (h : ¬ ord v w < 0) : bl (encs [v]) (encs [w]) = false := by
  by_cases h0 : ord v w = 0
  · rw [ord_same h0]
    exact bl_irr _
  · have h1 : ord w v < 0 := by rw [ord_swap]; omega
    exact bl_asy _ _ (bl_less hw hv h1)
/-- A key lies within a span. -/
def Wi (k lo hi : List UInt8) : Prop := bl k lo = false ∧ (hi = [] ∨ bl hi k = false)
theorem bl_nil (k : List UInt8) : bl k [] = false := by cases k <;> rfl
theorem wi_nil (k : List UInt8) : Wi k [] [] := ⟨bl_nil k, .inl rfl⟩
theorem wi_in {k a b c d : List UInt8} (h : Wi k a b) (g : Wi k c d) : Wi k (loW a c) (hiW b d) := by
  refine ⟨?_, ?_⟩
  · unfold loW
    split
    · exact g.1
    · exact h.1
  · unfold hiW
    split
    · exact g.2
    · exact h.2
/-- What a part says of the value that is made. -/
structure Inv (r0 : V) (p : Pt) (v : V) : Prop where
  first : p.f = true → v = r0
  lit : p.k ≠ [] → Ok v ∧ p.k = encs [v]
  holds : v.k = 1 → v.n = 1 → Wi (encs [r0]) p.hl p.hh
  fails : v.k = 1 → v.n = 0 → Wi (encs [r0]) p.fl p.fh
theorem inv_np (r0 v : V) : Inv r0 np v := ⟨fun h => by simp [np] at h, fun h => by simp [np] at h, fun _ _ => wi_nil _, fun _ _ => wi_nil _⟩
theorem c0_eq {t : ByteArray} (h : t.toList = (c4t.getD 0 ncq).t.toList) : t = ⟨#[105, 100]⟩ := same_of h
theorem inv_leaf {r : List V} {o : Oq} (hw : wks o.k = 0) (ho : opF o.k o.v.k o.v.n o.v.t o.t = 0) (hs : Sml o) : Inv (r.getD 0 nul) (lfP (c4t.getD 0 ncq).t o).2 (lfV c4t r o).2 := by
  unfold lfP
  split
  · next h =>
    have hv : (lfV c4t r o).2 = o.v := by unfold lfV; rw [if_pos h.1]
    have hc : chk o.v.k o.v.n o.v.t = 0 := by
      unfold opF at ho
      split at ho
      · omega
      · split at ho
        · next h4 => exact absurd ho h4
        · next h4 =>
          have h4 : litF o.v.k o.v.n o.v.t = 0 := by simpa using h4
          unfold litF at h4
          split at h4
          · omega
          · exact h4
    have hok : Ok o.v := ⟨hc, hs.2.2⟩
    rw [hv]
    refine ⟨fun h => by simp at h, fun _ => ⟨hok, by rw [enc_one hok]⟩, fun _ _ => wi_nil _, fun _ _ => wi_nil _⟩
  · next h =>
    refine ⟨fun hf => ?_, fun h => by simp at h, fun _ _ => wi_nil _, fun _ _ => wi_nil _⟩
    have hf : decide (o.k = 2 ∧ o.t.toList = (c4t.getD 0 ncq).t.toList) = true := hf
    obtain ⟨h1, h2⟩ := of_decide_eq_true hf
    have h3 := c0_eq h2
    unfold lfV
    rw [if_neg (by omega), h3, pl4.1]
    rfl
theorem inv_one {r0 : V} {k : Int} {p : Pt} {a : V} (hk : k = 5 ∨ k = 11) (hi : Inv r0 p a) (ha : chk a.k a.n a.t = 0) (h : (onV k a).1 = 0) : Inv r0 (onP k p).2 (onV k a).2 := by
  rcases hk with rfl | rfl
  · have e1 : (onP 5 p).2 = ⟨false, [], p.fl, p.fh, [], []⟩ := rfl
    rw [e1]
    refine ⟨fun h => by simp at h, fun h => by simp at h, fun h1 h2 => ?_, fun _ _ => wi_nil _⟩
    have e : onV 5 a = ((turn a).2, (turn a).1) := by
      unfold onV one
      rw [if_neg (by simpa using ha), if_neg (by omega), if_pos rfl]
    rw [e] at h1 h2
    simp only at h1 h2
    unfold turn at h1 h2
    split at h1
    · simp [nul] at h1
    · next g0 =>
      rw [if_neg g0] at h2
      split at h1
      · next g1 =>
        rw [if_pos g1] at h2
        refine hi.fails g1 ?_
        by_cases g2 : a.n = 0
        · exact g2
        · have : (a.n == 0) = false := by simpa using g2
          rw [this] at h2
          simp [tru] at h2
      · simp [nul] at h1
  · exact inv_np r0 _
theorem join_true {a b : V} (ha : chk a.k a.n a.t = 0) (hb : chk b.k b.n b.t = 0) (h1 : (join a b 0).1.k = 1) (h2 : (join a b 0).1.n = 1) : (a.k = 1 ∧ a.n = 1) ∧ (b.k = 1 ∧ b.n = 1) := by
  obtain ⟨_, _, _, a4, a5, _⟩ := chk0 ha
  obtain ⟨_, _, _, b4, b5, _⟩ := chk0 hb
  unfold join at h1 h2
  split at h1
  · simp [nul] at h1
  · next g0 =>
    rw [if_neg g0] at h2
    split at h1
    · next g1 =>
      rw [if_pos g1] at h2
      have h2 : a.n = 1 := h2
      omega
    · next g1 =>
      rw [if_neg g1] at h2
      split at h1
      · next g2 =>
        rw [if_pos g2] at h2
        have h2 : b.n = 1 := h2
        omega
      · next g2 =>
        rw [if_neg g2] at h2
        split at h1
        · simp [nul] at h1
        · next g3 =>
          rw [if_neg g3] at h2
          have g4 : known a.k b.k 1 = true := by simpa using g0
          have g5 := known_of.1 g4
          have g6 : ¬ (a.k = 0 ∨ b.k = 0) := by rw [← unk_of]; exact g3
          have := a5 (by omega)
          have := b5 (by omega)
          omega
theorem hold_is {k : Int} {a b : V} (h1 : (hold k a b).1.k = 1) : a.k ≠ 0 ∧ b.k ≠ 0 ∧ a.k = b.k ∧ hold k a b = if k = 7 then (tru (decide (ord a b < 0)), 0) else (tru (ord a b == 0), 0) := by
  unfold hold at h1 ⊢
  split at h1
  · simp [nul] at h1
  · next g0 =>
    rw [if_neg g0]
    rw [unk_of] at g0
    split at h1
    · simp [nul] at h1
    · next g1 =>
      rw [if_neg g1]
      exact ⟨by omega, by omega, by omega, rfl⟩
theorem tru_one {b : Bool} : (tru b).n = 1 ↔ b = true := by cases b <;> simp [tru]
theorem tru_zero {b : Bool} : (tru b).n = 0 ↔ b = false := by cases b <;> simp [tru]
theorem wi_same {r0 : V} (k : List UInt8) (h : k ≠ [] → k = encs [r0]) : Wi (encs [r0]) k k := by
  by_cases h0 : k = []
  · rw [h0]; exact wi_nil _
  · rw [h h0]
    exact ⟨bl_irr _, .inr (bl_irr _)⟩
theorem inv_two {r0 : V} {k : Int} {p q : Pt} {a b : V} (hr : Ok r0) (hk : k = 3 ∨ k = 4 ∨ k = 6 ∨ k = 7 ∨ k = 8 ∨ k = 9 ∨ k = 10) (hi : Inv r0 p a) (hj : Inv r0 q b) (ha : chk a.k a.n a.t = 0) (hb : chk b.k b.n b.t = 0) : Inv r0 (twP k p q).2 (twV k a b).2 := by
  have hc : chk2 a b = 0 := by unfold chk2; rw [if_pos ha]; exact hb
  have e : ∀ k, twV k a b = ((two k a b).2, (two k a b).1) := fun k => rfl
  rcases hk with rfl | rfl | rfl | rfl | rfl | rfl | rfl
  · rw [twP_3, e, two_is hc]
    refine ⟨fun h => by simp at h, fun h => by simp at h, fun h1 h2 => ?_, fun _ _ => wi_nil _⟩
    have := join_true ha hb h1 h2
    exact wi_in (hi.holds this.1.1 this.1.2) (hj.holds this.2.1 this.2.2)
  · rw [twP_x (by decide) (by decide) (by decide)]; exact inv_np r0 _
  · cases hf : p.f
    · cases hg : q.f
      · rw [twP_6n hf hg]; exact inv_np r0 _
      · rw [twP_6b hf hg, e, two_is hc]
        refine ⟨fun h => by simp at h, fun h => by simp at h, fun h1 h2 => ?_, fun _ _ => wi_nil _⟩
        obtain ⟨_, _, _, h3⟩ := hold_is (k := 6) h1
        have h2 : (hold 6 a b).1.n = 1 := h2
        rw [h3, if_neg (by decide)] at h2
        have h4 : ord a b = 0 := by have := tru_one.1 h2; simpa using this
        have h5 : a = r0 := (ord_same h4).trans (hj.first hg)
        refine wi_same _ (fun h => ?_)
        rw [(hi.lit h).2, h5]
    · rw [twP_6a hf, e, two_is hc]
      refine ⟨fun h => by simp at h, fun h => by simp at h, fun h1 h2 => ?_, fun _ _ => wi_nil _⟩
      obtain ⟨_, _, _, h3⟩ := hold_is (k := 6) h1
      have h2 : (hold 6 a b).1.n = 1 := h2
      rw [h3, if_neg (by decide)] at h2
      have h4 : ord a b = 0 := by have := tru_one.1 h2; simpa using this
      have h5 : b = r0 := (ord_same h4).symm.trans (hi.first hf)
      refine wi_same _ (fun h => ?_)
      rw [(hj.lit h).2, h5]
  · cases hf : p.f
    · cases hg : q.f
      · rw [twP_7n hf hg]; exact inv_np r0 _
      · rw [twP_7b hf hg, e, two_is hc]
        have h5 := hj.first hg
        refine ⟨fun h => by simp at h, fun h => by simp at h, fun h1 h2 => ?_, fun h1 h2 => ?_⟩
        · obtain ⟨_, _, _, h3⟩ := hold_is (k := 7) h1
          have h2 : (hold 7 a b).1.n = 1 := h2
          rw [h3, if_pos rfl] at h2
          have h4 : ord a b < 0 := by have := tru_one.1 h2; simpa using this
          refine ⟨?_, .inl rfl⟩
          show bl _ p.k = false
          by_cases h0 : p.k = []
          · rw [h0]; exact bl_nil _
          · obtain ⟨h6, h7⟩ := hi.lit h0
            rw [h7]
            rw [h5] at h4
            exact bl_asy _ _ (bl_less h6 hr h4)
        · obtain ⟨_, _, _, h3⟩ := hold_is (k := 7) h1
          have h2 : (hold 7 a b).1.n = 0 := h2
          rw [h3, if_pos rfl] at h2
          have h4 : ¬ ord a b < 0 := by have := tru_zero.1 h2; simpa using this
          refine ⟨bl_nil _, ?_⟩
          show p.k = [] ∨ bl p.k _ = false
          by_cases h0 : p.k = []
          · exact .inl h0
          · obtain ⟨h6, h7⟩ := hi.lit h0
            rw [h7]
            rw [h5] at h4
            exact .inr (bl_not h6 hr h4)
    · rw [twP_7a hf, e, two_is hc]
      have h5 := hi.first hf
      refine ⟨fun h => by simp at h, fun h => by simp at h, fun h1 h2 => ?_, fun h1 h2 => ?_⟩
      · obtain ⟨_, _, _, h3⟩ := hold_is (k := 7) h1
        have h2 : (hold 7 a b).1.n = 1 := h2
        rw [h3, if_pos rfl] at h2
        have h4 : ord a b < 0 := by have := tru_one.1 h2; simpa using this
        refine ⟨bl_nil _, ?_⟩
        show q.k = [] ∨ bl q.k _ = false
        by_cases h0 : q.k = []
        · exact .inl h0
        · obtain ⟨h6, h7⟩ := hj.lit h0
          rw [h7]
          rw [h5] at h4
          exact .inr (bl_asy _ _ (bl_less hr h6 h4))
      · obtain ⟨_, _, _, h3⟩ := hold_is (k := 7) h1
        have h2 : (hold 7 a b).1.n = 0 := h2
        rw [h3, if_pos rfl] at h2
        have h4 : ¬ ord a b < 0 := by have := tru_zero.1 h2; simpa using this
        refine ⟨?_, .inl rfl⟩
        show bl _ q.k = false
        by_cases h0 : q.k = []
        · rw [h0]; exact bl_nil _
        · obtain ⟨h6, h7⟩ := hj.lit h0
          rw [h7]
          rw [h5] at h4
          exact bl_not hr h6 h4
  · rw [twP_x (by decide) (by decide) (by decide)]; exact inv_np r0 _
  · rw [twP_x (by decide) (by decide) (by decide)]; exact inv_np r0 _
  · rw [twP_x (by decide) (by decide) (by decide)]; exact inv_np r0 _
theorem evP_fine : ∀ t : Tx, t.ok → (∀ o ∈ t.flat, Sml o) → (evT (lfP (c4t.getD 0 ncq).t) onP twP t).1 = 0
  | .leaf o, ht, hs => leaf_ok ht.2 (hs o (by simp [Tx.flat])).2.2
  | .un o a, ht, hs => by
    rw [ev_un _ _ _ (evP_fine a ht.2.2 (fun x hx => hs x (by simp [Tx.flat, hx])))]
    rfl
  | .bi o a b, ht, hs => by
    rw [ev_bi _ _ _ (evP_fine a ht.2.2.1 (fun x hx => hs x (by simp [Tx.flat, hx]))) (evP_fine b ht.2.2.2 (fun x hx => hs x (by simp [Tx.flat, hx])))]
    rfl
theorem inv_tree {r : List V} (hr : rowF c4t r = 0) (hr0 : Ok (r.getD 0 nul)) : ∀ t : Tx, t.ok → (∀ o ∈ t.flat, Sml o) → (evT (lfK c4t) onK twK t).1 = 0 → (evT (lfV c4t r) onV twV t).1 = 0 →
    Inv (r.getD 0 nul) (evT (lfP (c4t.getD 0 ncq).t) onP twP t).2 (evT (lfV c4t r) onV twV t).2
  | .leaf o, ht, hs, _, _ => inv_leaf ht.1 ht.2 (hs o (by simp [Tx.flat]))
  | .un o a, ht, hs, hk, hv => by
    have hsa : ∀ x ∈ a.flat, Sml x := fun x hx => hs x (by simp [Tx.flat, hx])
    have hka : (evT (lfK c4t) onK twK a).1 = 0 := by
      by_cases h : (evT (lfK c4t) onK twK a).1 = 0
      · exact h
      · rw [ev_un_bad _ _ _ h] at hk; exact absurd hk h
    have hva : (evT (lfV c4t r) onV twV a).1 = 0 := by
      by_cases h : (evT (lfV c4t r) onV twV a).1 = 0
      · exact h
      · rw [ev_un_bad _ _ _ h] at hv; exact absurd hv h
    have hg : Good _ _ := ((told c4t r a ht.2.2 (fun o ho hw => (leaf_good hr hw (Tx.ok_mem ht.2.2 o ho) (hsa o ho)).2) hka).resolve_left (by omega)).2
    rw [ev_un _ _ _ hva] at hv ⊢
    rw [ev_un _ _ _ (evP_fine a ht.2.2 hsa)]
    exact inv_one (op_one ht.1) (inv_tree hr hr0 a ht.2.2 hsa hka hva) hg.1 hv
  | .bi o a b, ht, hs, hk, hv => by
    have hsa : ∀ x ∈ a.flat, Sml x := fun x hx => hs x (by simp [Tx.flat, hx])
    have hsb : ∀ x ∈ b.flat, Sml x := fun x hx => hs x (by simp [Tx.flat, hx])
    have hka : (evT (lfK c4t) onK twK a).1 = 0 := by
      by_cases h : (evT (lfK c4t) onK twK a).1 = 0
      · exact h
      · rw [ev_bi_bad _ _ _ h] at hk; exact absurd hk h
    have hkb : (evT (lfK c4t) onK twK b).1 = 0 := by
      by_cases h : (evT (lfK c4t) onK twK b).1 = 0
      · exact h
      · rw [ev_bi_bad2 _ _ _ hka h] at hk; exact absurd hk h
    have hva : (evT (lfV c4t r) onV twV a).1 = 0 := by
      by_cases h : (evT (lfV c4t r) onV twV a).1 = 0
      · exact h
      · rw [ev_bi_bad _ _ _ h] at hv; exact absurd hv h
    have hvb : (evT (lfV c4t r) onV twV b).1 = 0 := by
      by_cases h : (evT (lfV c4t r) onV twV b).1 = 0
      · exact h
      · rw [ev_bi_bad2 _ _ _ hva h] at hv; exact absurd hv h
    have hga : Good _ _ := ((told c4t r a ht.2.2.1 (fun o ho hw => (leaf_good hr hw (Tx.ok_mem ht.2.2.1 o ho) (hsa o ho)).2) hka).resolve_left (by omega)).2
    have hgb : Good _ _ := ((told c4t r b ht.2.2.2 (fun o ho hw => (leaf_good hr hw (Tx.ok_mem ht.2.2.2 o ho) (hsb o ho)).2) hkb).resolve_left (by omega)).2
    rw [ev_bi _ _ _ hva hvb]
    rw [ev_bi _ _ _ (evP_fine a ht.2.2.1 hsa) (evP_fine b ht.2.2.2 hsb)]
    exact inv_two hr0 (op_two ht.1 ht.2.1) (inv_tree hr hr0 a ht.2.2.1 hsa hka hva) (inv_tree hr hr0 b ht.2.2.2 hsb hkb hvb) hga.1 hgb.1
/-- A row of which an expression is true lies within its bounds. -/
theorem within_bounds {r : List V} {ops : List Oq} (hr : rowF c4t r = 0) (hr0 : Ok (r.getD 0 nul)) (hex : exprF ops = 0) (hs : ∀ o ∈ ops, Sml o) :
    ((boundsF c4t ops).1 = 0 ∨ (boundsF c4t ops).1 = 4) ∧ ((boundsF c4t ops).1 = 0 → evalF c4t r ops = (0, ⟨1, 1, ⟨#[]⟩⟩) → Wi (encs [r.getD 0 nul]) (boundsF c4t ops).2.1 (boundsF c4t ops).2.2) := by
  have hl : ops.length ≠ 0 := by
    intro h
    have : ops = [] := List.eq_nil_of_length_eq_zero h
    rw [this] at hex
    simp [exprF, exF] at hex
  have hkf : (kindF c4t ops).1 = 0 ∨ (kindF c4t ops).1 = 4 := by
    rcases expr_told hex hs hr with h | h
    · exact .inr h.1
    · exact .inl h.1
  unfold boundsF
  rw [if_neg hl]
  by_cases hk : (kindF c4t ops).1 = 0
  · rw [if_neg (by simpa using hk)]
    split
    · refine ⟨.inr rfl, fun h => by simp at h⟩
    · refine ⟨.inl rfl, fun _ hev => ?_⟩
      obtain ⟨_, t, ht, rfl⟩ := expr_tree hex
      have e : rnF (lfP (c4t.getD 0 ncq).t) onP twP [] t.flat = (0, [(evT (lfP (c4t.getD 0 ncq).t) onP twP t).2]) := by
        rw [rn_whole _ _ _ ht, if_neg (by rw [evP_fine t ht hs]; simp)]
      rw [e]
      have hk2 : (evT (lfK c4t) onK twK t).1 = 0 := by
        have := kindF_tree ht c4t_ok hex
        rw [this] at hk
        exact hk
      have hv : evT (lfV c4t r) onV twV t = (0, ⟨1, 1, ⟨#[]⟩⟩) := by
        unfold evalF at hev
        rw [hr, if_neg (by simp), hk, if_neg (by simp), rn_whole _ _ _ ht] at hev
        by_cases h0 : (evT (lfV c4t r) onV twV t).1 = 0
        · rw [if_neg (by simpa using h0)] at hev
          have h1 := (Prod.mk.inj hev).2
          simp only [ne_eq, not_true_eq_false, if_false, List.headD_cons] at h1
          exact Prod.ext h0 h1
        · rw [if_pos h0] at hev
          have h1 := (Prod.mk.inj hev).1
          exact absurd h1 h0
      have hi := inv_tree hr hr0 t ht hs hk2 (by rw [hv])
      rw [hv] at hi
      exact hi.holds rfl rfl
  · rw [if_pos hk]
    exact ⟨hkf, fun h => absurd h hk⟩
end Go.Proofs.YtmfkdpfcpdmkdaaDoor.bd

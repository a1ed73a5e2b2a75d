import Derived.Test.YtmfkdpfcpdmkdaaGreatDoorFmk
import Derived.Test.YtmfkdpfcpdmkdaaGreatDoorFuk
import Derived.Test.YtmfkdpfcpdmkdaaGreatDoorKck
/- The document's bounds: whole. -/
namespace Go.Proofs.YtmfkdpfcpdmkdaaGreatDoor.bd
open Go.ChangeShapes Go.WideShapes Go.ChangeAt Go.RowKit
set_option linter.unusedVariables false
set_option linter.unusedSimpArgs false
set_option maxHeartbeats 4000000
set_option maxRecDepth 1000000
theorem mustsT_ok : ∀ t : Tx, t.ok → ∀ s ∈ mustsT t, s.ok ∧ s.flat.length ≤ t.flat.length ∧ ∀ o ∈ s.flat, o ∈ t.flat
  | .leaf o, h, s, hs => by
    simp only [mustsT, List.mem_singleton] at hs
    subst hs
    exact ⟨h, Nat.le_refl _, fun o ho => ho⟩
  | .un o a, h, s, hs => by
    simp only [mustsT, List.mem_singleton] at hs
    subst hs
    exact ⟨h, Nat.le_refl _, fun o ho => ho⟩
  | .bi o a b, h, s, hs => by
    rw [mustsT] at hs
    split at hs
    · rcases List.mem_append.1 hs with hs | hs
      · obtain ⟨h1, h2, h3⟩ := mustsT_ok a h.2.2.1 s hs
        exact ⟨h1, by simp [Tx.flat]; omega, fun x hx => by simp [Tx.flat, h3 x hx]⟩
      · obtain ⟨h1, h2, h3⟩ := mustsT_ok b h.2.2.2 s hs
        exact ⟨h1, by simp [Tx.flat]; omega, fun x hx => by simp [Tx.flat, h3 x hx]⟩
    · rw [List.mem_singleton] at hs
      subst hs
      exact ⟨h, Nat.le_refl _, fun o ho => ho⟩
theorem dir_of {fs nt : Bool} {k d : Int} {v u : V} (h : dirF fs nt k u = some (d, v)) : v = u ∧ (d = 0 ∨ d = 1 ∨ d = -1) := by
  unfold dirF at h
  repeat' split at h
  all_goals first | (cases h; done) | (simp only [Option.some.injEq, Prod.mk.injEq] at h; exact ⟨h.2.symm, by omega⟩)
theorem core_of {c : ByteArray} {nt : Bool} {x y : Oq} {k d : Int} {v : V} (h : coreF c nt x y k = some (d, v)) : ((x.k = 1 ∧ v = x.v) ∨ (y.k = 1 ∧ v = y.v)) ∧ (d = 0 ∨ d = 1 ∨ d = -1) := by
  unfold coreF at h
  split at h
  · next g => have := dir_of h; exact ⟨.inr ⟨g.2.2, this.1⟩, this.2⟩
  · split at h
    · next g => have := dir_of h; exact ⟨.inl ⟨g.2.2, this.1⟩, this.2⟩
    · cases h
theorem side_of (c : ByteArray) : ∀ (s : Tx) (d : Int) (v : V), sideT c s = some (d, v) → (∃ o ∈ s.flat, o.k = 1 ∧ v = o.v) ∧ (d = 0 ∨ d = 1 ∨ d = -1)
  | .leaf x, d, v, h => by cases h
  | .bi o a b, d, v, h => by
    rcases leaves a b with ⟨x, y, rfl, rfl⟩ | hn
    · have h : coreF c false x y o.k = some (d, v) := h
      obtain ⟨h1 | h1, h2⟩ := core_of h
      · exact ⟨⟨x, by simp [Tx.flat], h1.1, h1.2⟩, h2⟩
      · exact ⟨⟨y, by simp [Tx.flat], h1.1, h1.2⟩, h2⟩
    · rw [side_bi c o a b hn] at h; cases h
  | .un o (.leaf x), d, v, h => by cases h
  | .un o (.un p b), d, v, h => by cases h
  | .un o (.bi p a b), d, v, h => by
    rcases leaves a b with ⟨x, y, rfl, rfl⟩ | hn
    · have h : (if o.k = 5 then coreF c true x y p.k else none) = some (d, v) := h
      split at h
      · obtain ⟨h1 | h1, h2⟩ := core_of h
        · exact ⟨⟨x, by simp [Tx.flat], h1.1, h1.2⟩, h2⟩
        · exact ⟨⟨y, by simp [Tx.flat], h1.1, h1.2⟩, h2⟩
      · cases h
    · rw [side_not c o p a b hn] at h; cases h
theorem lit_ok {o : Oq} (ho : opF o.k o.v.k o.v.n o.v.t o.t = 0) (h1 : o.k = 1) (hfi : -9223372036854775808 ≤ o.v.n ∧ o.v.n ≤ 9223372036854775807) : Ok o.v := by
  refine ⟨?_, hfi⟩
  unfold opF at ho
  split at ho
  · omega
  · split at ho
    · next h4 => exact absurd ho h4
    · next h4 =>
      have h4 : litF o.v.k o.v.n o.v.t = 0 := by simpa using h4
      unfold litF at h4
      split at h4
      · omega
      · exact h4
theorem enc_1 {v : V} (h : Ok v) : enc [v] = (encs [v], 0) := by
  have hl := cd.encs_len [v] (fun x hx => by rw [List.mem_singleton.1 hx]; exact h)
  exact enc_ok (fun x hx => by rw [List.mem_singleton.1 hx]; exact h) (by simp) (by simp at hl ⊢; omega)
theorem enc_pos {v : V} (h : Ok v) : 0 < (enc [v]).1.length := by
  rw [enc_1 h]
  simp [encs, enc1]
theorem loL_step (c : ByteArray) (ts : List Tx) (k : Nat) (s : Tx) (h : ts[k]? = some s) : loL c (ts.take (k + 1)) = loS c (loL c (ts.take k)) s := by
  have hk : k < ts.length := (List.getElem?_eq_some_iff.1 h).1
  rw [List.take_succ_eq_append_getElem hk, (List.getElem?_eq_some_iff.1 h).2]
  unfold loL
  rw [List.foldl_append]
  rfl
theorem hiL_step (c : ByteArray) (ts : List Tx) (k : Nat) (s : Tx) (h : ts[k]? = some s) : hiL c (ts.take (k + 1)) = hiS c (hiL c (ts.take k)) s := by
  have hk : k < ts.length := (List.getElem?_eq_some_iff.1 h).1
  rw [List.take_succ_eq_append_getElem hk, (List.getElem?_eq_some_iff.1 h).2]
  unfold hiL
  rw [List.foldl_append]
  rfl
/-- Both stay within what keys hold. -/
theorem lo_small (c : ByteArray) : ∀ (ts : List Tx) (x : List UInt8), x.length ≤ 100 → (ts.foldl (loS c) x).length ≤ 100
  | [], x, h => h
  | s :: ts, x, h => lo_small c ts _ (by
    unfold loS
    split
    · exact h
    · split
      · unfold loW
        split
        · exact enc_len _
        · exact h
      · exact h)
theorem hi_small (c : ByteArray) : ∀ (ts : List Tx) (x : List UInt8), x.length ≤ 100 → (ts.foldl (hiS c) x).length ≤ 100
  | [], x, h => h
  | s :: ts, x, h => hi_small c ts _ (by
    unfold hiS
    split
    · exact h
    · split
      · unfold hiW
        split
        · exact enc_len _
        · exact h
      · exact h)
theorem loS_some {c : ByteArray} {s : Tx} {d : Int} {v : V} (h : sideT c s = some (d, v)) (a : List UInt8) : loS c a s = if d ≤ 0 then loW a (enc [v]).1 else a := by unfold loS; rw [h]
theorem hiS_some {c : ByteArray} {s : Tx} {d : Int} {v : V} (h : sideT c s = some (d, v)) (a : List UInt8) : hiS c a s = if 0 ≤ d then hiW a (enc [v]).1 else a := by unfold hiS; rw [h]
theorem loS_none {c : ByteArray} {s : Tx} (h : sideT c s = none) (a : List UInt8) : loS c a s = a := by unfold loS; rw [h]
theorem hiS_none {c : ByteArray} {s : Tx} (h : sideT c s = none) (a : List UInt8) : hiS c a s = a := by unfold hiS; rw [h]
theorem bounds_is {l : List Cq} {t : Tx} (ht : t.ok) (hk : (kindF l t.flat).1 = 0) (hk2 : (kindF l t.flat).2 = 1 ∨ (kindF l t.flat).2 = 0) (hl : ∀ o ∈ t.flat, (lfP (l.getD 0 ncq).t o).1 = 0) :
    boundsF l t.flat = (0, loL (l.getD 0 ncq).t (mustsT t), hiL (l.getD 0 ncq).t (mustsT t)) := by
  have h0 := t.flat_pos
  have h1 := ev_ok _ t hl
  have h2 := tree_pt _ t hl
  unfold boundsF
  rw [if_neg (by omega), if_neg (by simpa using hk), if_neg (fun h => h hk2), rn_whole _ _ _ ht, if_neg (by simpa using h1)]
  rw [← h2.1, ← h2.2]
  rfl
end Go.Proofs.YtmfkdpfcpdmkdaaGreatDoor.bd

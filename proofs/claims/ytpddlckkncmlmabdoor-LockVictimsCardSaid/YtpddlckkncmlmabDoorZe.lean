/- A queue of numbers: what is taken off its head, and put at its end, in a block of the call's own. -/
import Derived.Test.YtpddlckkncmlmabDoorBg
import Derived.ArgAppend
import Derived.Lib.BufferMore
namespace Go.Proofs.YtpddlckkncmlmabDoor
open Go.ChangeShapes Go.WideShapes Go.ChangeAt Go.RowKit
set_option linter.unusedVariables false
set_option linter.unusedSimpArgs false
set_option maxHeartbeats 1000000
/-- The slice v holds the numbers l somewhere in a block of the call's own. -/
def Tl (w : World) (B : Nat) (v : Value) (l : List Int) : Prop :=
  ∃ (ao : Option Addr) (cap : Nat), v = .slice ao l.length cap ∧ l.length ≤ cap ∧ cap ≤ maxLen ∧ (ao = none → l = [] ∧ cap = 0) ∧
    ∀ a, ao = some a → a.spot = none ∧ B ≤ a.block ∧ ∃ cur e, w.heap[a.block]? = some (.cells cur e (0, 0)) ∧ a.off + cap ≤ cur.size ∧ ∀ j, j < l.length → cur[a.off + j]? = some (.int .i64 (l.getD j 0))
theorem Tl.len {w : World} {B : Nat} {v : Value} {l : List Int} (h : Tl w B v l) : l.length ≤ maxLen := by
  obtain ⟨_, _, _, h1, h2, _⟩ := h
  omega
theorem tl_own {w : World} {B : Nat} {t : TypeId} {v : Value} {l : List Int} (h : w.ownsRow B t 1 v l.length (l.map (Value.int .i64))) : Tl w B v l := by
  rcases h.2 with ⟨rfl, h0⟩ | ⟨g, cap, cur, rfl, h1, h2, h3, h4, h5, h6⟩
  · have : l = [] := List.eq_nil_of_length_eq_zero h0
    subst this
    exact ⟨none, 0, rfl, Nat.le_refl _, by unfold maxLen; omega, fun _ => ⟨rfl, rfl⟩, fun a ha => by cases ha⟩
  · refine ⟨_, cap, rfl, h3, h4, fun e => (by cases e), fun a ha => ?_⟩
    cases ha
    refine ⟨rfl, h1, cur, t, h2, by simp; omega, fun j hj => ?_⟩
    have e : (cur.toList.take (l.length * 1))[j]? = some (.int .i64 (l.getD j 0)) := by
      rw [h6]
      simp [List.getD, hj]
    rw [List.getElem?_take, if_pos (by omega)] at e
    simpa using e
theorem Tl.rd {w : World} {B : Nat} {v : Value} {l : List Int} (h : Tl w B v l) : Rd w 1 l.length v (l.map (Value.int .i64)) := by
  obtain ⟨ao, cap, rfl, h1, h2, h3, h4⟩ := h
  refine ⟨by simp, ao, cap, rfl, h1, h2, fun e => ?_, fun a ha j u hu => ?_⟩
  · obtain ⟨rfl, rfl⟩ := h3 e
    exact ⟨rfl, rfl⟩
  · obtain ⟨hs, _, cur, e, hc, _, hj⟩ := h4 a ha
    obtain ⟨b, o, sp⟩ := a
    simp only at hs
    subst hs
    rw [List.getElem?_map] at hu
    obtain ⟨y, hy, rfl⟩ := Option.map_eq_some_iff.1 hu
    have hjl : j < l.length := (List.getElem?_eq_some_iff.1 hy).1
    rw [Addr.add_lit]
    have := hj j hjl
    simp only [World.cell?, hc]
    rw [this]
    simp [List.getD, hy]
theorem Tl.kept {w w' : World} {B : Nat} {v : Value} {l : List Int} {row : Option Nat} (h : Tl w B v l) (hg : w.grownBy w' row) (hne : ∀ k, v.ownBlock = some k → row ≠ some k) : Tl w' B v l := by
  obtain ⟨ao, cap, rfl, h1, h2, h3, h4⟩ := h
  refine ⟨ao, cap, rfl, h1, h2, h3, fun a ha => ?_⟩
  obtain ⟨hs, hb, cur, e, hc, hr⟩ := h4 a ha
  subst ha
  exact ⟨hs, hb, cur, e, (hg.block _ (Array.getElem?_eq_some_iff.1 hc).1 (fun e => hne a.block rfl e.symm)).trans hc, hr⟩
theorem Tl.below {w w' : World} {B : Nat} {v : Value} {l : List Int} (h : Tl w B v l) (hb : Below w.heap.size w w') : Tl w' B v l :=
  h.kept (row := none) ⟨hb.os, hb.tape, hb.output, hb.size, fun k hk _ => hb.block k hk⟩ (fun k _ e => by cases e)
/-- The head is taken off. -/
theorem Tl.drop1 {w : World} {B cap n : Nat} {ao : Option Addr} {x : Int} {l : List Int} (h : Tl w B (.slice ao n cap) (x :: l)) : Tl w B (sliced ao 1 n cap 1) l := by
  obtain ⟨ao', cap', he, h1, h2, h3, h4⟩ := h
  simp only [Value.slice.injEq] at he
  obtain ⟨rfl, rfl, rfl⟩ := he
  simp only [List.length_cons] at h1 h4
  refine ⟨(if cap = 1 then ao else ao.map (·.add (1 * 1))), cap - 1, ?_, ?_, ?_, ?_, ?_⟩
  · simp only [sliced, List.length_cons, Nat.add_sub_cancel]
  · omega
  · omega
  · intro e
    split at e
    · have := (h3 e).1
      cases this
    · have := h3 (Option.map_eq_none_iff.1 e)
      cases this.1
  · intro a ha
    split at ha
    · rename_i hc
      obtain ⟨hs, hb, cur, e, hg, hz, hj⟩ := h4 a ha
      have hl0 : l.length = 0 := by omega
      exact ⟨hs, hb, cur, e, hg, by omega, fun j hj' => by omega⟩
    · obtain ⟨a0, rfl, rfl⟩ := Option.map_eq_some_iff.1 ha
      obtain ⟨hs, hb, cur, e, hg, hz, hj⟩ := h4 a0 rfl
      obtain ⟨b, o, sp⟩ := a0
      simp only at hs hb hg hz hj
      subst hs
      rw [Addr.add_lit]
      refine ⟨rfl, hb, cur, e, hg, by show o + 1 * 1 + _ ≤ _; omega, fun j hj' => ?_⟩
      have := hj (j + 1) (by omega)
      simp only [List.getD_cons_succ] at this
      rw [← this]
      show cur[o + 1 * 1 + j]? = cur[o + (j + 1)]?
      congr 1
      omega
section
variable {P : Program} {ops : Array Oper} {rest : List Oper} {o : Oper} {a : Act} {Q : Exit → Act → World → Prop}
/-- 'append(v, x)'. -/
theorem apq (w : World) (hgd : o.guard = none) (s x : Operand) (t e : TypeId) (ht : P.underlying t = some (.slice e)) (hinf : (P.info? e).map (fun i => (i.zero, i.size, i.bytes)) = some (some (.int .i64 0), 1, 8))
    (ho : o.op = .call { callee := .builtin .append, args := #[s, x], argTypes := #[t, t] })
    {B : Nat} {v : Value} {l : List Int} (h : Tl w B v l) (hB : B ≤ w.heap.size) (y : Int) (hn : l.length + 1 ≤ 1000000000000)
    (H : Nat) (hH : w.heap.size = H) (hs : a.eval s = v) (hx : a.eval x = .slice (some ⟨H, 0, none⟩) 1 1)
    (hK : ∀ v' w', Tl w' B v' (l ++ [y]) → w.grownBy w' v.ownBlock → (v'.ownBlock = v.ownBlock ∨ ∀ k, v'.ownBlock = some k → H ≤ k) → wpList P ops Q rest (a.put o.dst v') w') : wpList P ops Q (o :: rest) a (w.alloc (.cells #[.int .i64 y] e)) := by
  subst hH
  obtain ⟨i0, hi, hz0, hz1, hz2⟩ := info_parts hinf
  have hbel : Below w.heap.size w (w.alloc (.cells #[.int .i64 y] e)) := (Below.refl _ _).alloc (Nat.le_refl _) _
  have hrow : w.grownBy (w.alloc (.cells #[.int .i64 y] e)) v.ownBlock := World.grownBy_alloc w _ _
  have h' := h.below hbel
  have hrd := h'.rd
  have grows : ∀ (ao : Option Addr) (cap : Nat), v = .slice ao l.length cap → cap < l.length + 1 → (ao = none → l = [] ∧ cap = 0) → wpList P ops Q (o :: rest) a (w.alloc (.cells #[.int .i64 y] e)) := by
    intro ao cap hv hcap hnone
    obtain ⟨_, ao2, cap2, hv2, _, _, _, hc2⟩ := hrd
    rw [hv] at hv2
    simp only [Value.slice.injEq] at hv2
    obtain ⟨rfl, -, rfl⟩ := hv2
    refine wpList_append_grows _ hgd s x t ho e i0 (.int .i64 0) 1 8 ht hi hz0 hz1 hz2 rfl (by omega) ao l.length cap (l.map (Value.int .i64)) (by rw [hs, hv]) (fun e => by obtain ⟨rfl, rfl⟩ := hnone e; exact ⟨rfl, rfl⟩) (by simp) hc2
      ⟨w.heap.size, 0, none⟩ 1 1 [.int .i64 y] hx rfl (new_cells w [.int .i64 y] e) (one_one rfl) hcap (by unfold maxLen; omega) (by omega) ?_
    intro v' w' hown hg
    have hown' : w'.ownsRow (w.alloc (.cells #[.int .i64 y] e)).heap.size e 1 v' (l ++ [y]).length ((l ++ [y]).map (Value.int .i64)) := by simpa using hown
    refine hK v' w' (tl_own (own_mono hown' (by simp; omega))) ⟨hg.os.trans hrow.os, hg.tape.trans hrow.tape, hg.output.trans hrow.output, Nat.le_trans hrow.size hg.size, fun k hk hne => (hg.block k (by simp; omega) (by simp)).trans (hrow.block k hk hne)⟩ (.inr fun k hk => ?_)
    have := (hown.lt k hk).1
    simp at this
    omega
  obtain ⟨ao, cap, hv, h1, h2, h3, h4⟩ := h'
  by_cases hroom : l.length + 1 ≤ cap
  · cases ao with
    | none => have := (h3 rfl).2; omega
    | some ad =>
      obtain ⟨hsp, hb, cur, e', hg, hz, hj⟩ := h4 ad rfl
      obtain ⟨b, off, sp⟩ := ad
      simp only at hsp hb hg hz hj
      subst hsp
      have hb0 : b < w.heap.size := by
        obtain ⟨ao0, cap0, hv0, _, _, _, h40⟩ := h
        rw [hv] at hv0
        simp only [Value.slice.injEq] at hv0
        obtain ⟨rfl, -, -⟩ := hv0
        obtain ⟨_, _, _, _, hg0, _⟩ := h40 _ rfl
        exact (Array.getElem?_eq_some_iff.1 hg0).1
      have hbo : v.ownBlock = some b := by rw [hv]; rfl
      refine wpList_append_arg _ hgd s x t ho e i0 (.int .i64 0) 1 8 ht hi hz0 hz1 hz2 rfl (by omega) b off l.length cap (l.map (Value.int .i64)) (by rw [hs, hv]) (by simp) (fun j u hu => ?_)
        ⟨w.heap.size, 0, none⟩ 1 1 [.int .i64 y] hx rfl (new_cells w [.int .i64 y] e) (one_one rfl) (fun _ j hj2 => ?_) (by unfold maxLen; omega) (by omega) (fun _ => ?_) (fun hc => absurd hc (by omega))
      · obtain ⟨_, ao2, cap2, hv2, _, _, _, hc2⟩ := hrd
        rw [hv] at hv2
        simp only [Value.slice.injEq] at hv2
        obtain ⟨rfl, -, rfl⟩ := hv2
        have := hc2 _ rfl j u hu
        rwa [Addr.add_lit] at this
      · simp at hj2
        subst hj2
        simp only [World.cell?, World.frozen?, hg]
        have hlt : off + l.length < cur.size := by omega
        simp [Array.getElem?_eq_getElem hlt]
      · have e1 : ((w.alloc (.cells #[.int .i64 y] e)).setCells b (off + l.length * 1) [.int .i64 y]) = (w.alloc (.cells #[.int .i64 y] e)).setCell ⟨b, off + l.length, none⟩ (.int .i64 y) := by simp [World.setCells]
        rw [e1]
        have e2 := Lib.heap_setCell_same (i := off + l.length) hg (.int .i64 y)
        have hgs : (w.alloc (.cells #[.int .i64 y] e)).grownBy ((w.alloc (.cells #[.int .i64 y] e)).setCell ⟨b, off + l.length, none⟩ (.int .i64 y)) (some b) := ⟨rfl, rfl, rfl, by simp, fun k hk hne => Below.heap_setCell _ _ _ _ (fun e => hne (by rw [e]))⟩
        refine hK _ _ ⟨some ⟨b, off, none⟩, cap, by simp, by simp; omega, h2, (fun e => by cases e), fun a ha => ?_⟩ ?_ (.inl ?_)
        · cases ha
          refine ⟨rfl, hb, _, e', e2, by simpa using hz, fun j hj2 => ?_⟩
          simp at hj2
          simp only
          by_cases hjl : j = l.length
          · subst hjl
            have hlt : off + l.length < cur.size := by omega
            simp [hlt, List.getD]
          · have := hj j (by omega)
            have hne : off + l.length ≠ off + j := by omega
            simp only [Array.getElem?_setIfInBounds, hne, if_false, this]
            simp [List.getD, List.getElem?_append_left (show j < l.length by omega)]
        · rw [hbo]
          rw [hbo] at hrow
          exact ⟨hgs.os.trans hrow.os, hgs.tape.trans hrow.tape, hgs.output.trans hrow.output, Nat.le_trans hrow.size hgs.size, fun k hk hne => (hgs.block k (by simp; omega) hne).trans (hrow.block k hk hne)⟩
        · rw [hbo]; rfl
  · exact grows ao cap hv (by omega) h3
end
end Go.Proofs.YtpddlckkncmlmabDoor

/- Trees whose pages are rows of their own, by type. -/
import Derived.Test.YtahammkjkfdmhaaTl
import Derived.Test.YtahammkjkfdmhaaGm
namespace Go.Proofs.Ytahammkjkfdmhaa
open Go.ChangeShapes Go.WideShapes Go.ChangeAt Go.RowKit
set_option linter.unusedVariables false
set_option linter.unusedSimpArgs false
set_option maxHeartbeats 1000000
set_option maxRecDepth 100000
/-- A tree whose pages are owned rows, in blocks from B on: each list in a block of its own kind. -/
def OTr (w : World) (B : Nat) (tv : Value) (T : Tr) : Prop := ∃ (B' : Nat) (own : Tag) (tight : Nat → Prop) (pv : Value) (vs : List Value), B ≤ B' ∧ tv = .agg #[pv, .int .i64 T.root] ∧ PgsO w B' own pv T.pages tight vs
section
variable {w : World} {B : Nat} {tv : Value} {T : Tr}
theorem OTr.rt (h : OTr w B tv T) : RT w (fun b => B ≤ b) tv T := by
  obtain ⟨B', own, tight, pv, vs, hB, rfl, g⟩ := h
  exact g.rt.mono fun b hb => Nat.le_trans hB hb
theorem OTr.base {B0 : Nat} (h : OTr w B tv T) (h0 : B0 ≤ B) : OTr w B0 tv T := by
  obtain ⟨B', own, tight, pv, vs, hB, rfl, g⟩ := h
  exact ⟨B', own, tight, pv, vs, Nat.le_trans h0 hB, rfl, g⟩
theorem OTr.far {w' : World} (h : OTr w B tv T) (hf : ∀ b, B ≤ b → b < w.heap.size → w'.heap[b]? = w.heap[b]?) : OTr w' B tv T := by
  obtain ⟨B', own, tight, pv, vs, hB, rfl, g⟩ := h
  exact ⟨B', own, tight, pv, vs, hB, rfl, own_far g.row fun b hb => hf b (Nat.le_trans hB (g.row.lt b hb).1) (g.row.lt b hb).2, g.tag,
    fun i p hp => (g.pg i p hp).to id (fun _ _ => rfl) fun b hlt hB' _ => ⟨hf b (Nat.le_trans hB hB') hlt, rfl⟩⟩
theorem OTr.below {w' : World} (h : OTr w B tv T) (hb : Below w.heap.size w w') : OTr w' B tv T := h.far fun b _ hlt => hb.block b hlt
end
theorem newTr_own {w : World} {B n : Nat} (hB : B ≤ n) (h : w.heap[n]? = some (.cells #[.bool true, .slice none 0 0, .slice none 0 0, .slice none 0 0, .int .i64 (-1)] 43 (0, 0))) :
    OTr w B (.agg #[.slice (some ⟨n, 0, none⟩) 1 1, .int .i64 0]) newTr := by
  refine ⟨B, fun b => if b = n then 1 else 0, fun _ => False, _, [.bool true, .slice none 0 0, .slice none 0 0, .slice none 0 0, .int .i64 (-1)], Nat.le_refl _, rfl, ⟨rfl, .inr ⟨n, 1, _, rfl, hB, h, by decide, by unfold maxLen; omega, rfl, rfl⟩⟩, fun g hg => ?_, fun i p hp => ?_⟩
  · cases hg
    exact if_pos rfl
  · have hi : i = 0 := by
      have := (List.getElem?_eq_some_iff.1 hp).1
      simp [newTr] at this
      exact this
    subst hi
    simp [newTr] at hp
    subst hp
    exact ⟨_, _, _, [], rfl, rfl, rfl, rfl, rfl, World.ownsRow_nil _ _ _ _, fun g hg => by (cases hg), fun q => q.elim, fun i k hi => by simp at hi, World.ownsRow_nil _ _ _ _, fun g hg => by (cases hg), ⟨Rd.nil w 1, fun a n c h hn => by (cases h)⟩⟩
end Go.Proofs.Ytahammkjkfdmhaa

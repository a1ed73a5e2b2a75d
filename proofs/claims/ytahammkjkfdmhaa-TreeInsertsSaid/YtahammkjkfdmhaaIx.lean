/- Entries in memory: two cells each, the key's bytes behind the first. -/
import Derived.Test.YtahammkjkfdmhaaHg
import Derived.Test.YtahammkjkfdmhaaGm
namespace Go.Proofs.Ytahammkjkfdmhaa
open Go.ChangeShapes Go.WideShapes Go.ChangeAt Go.RowKit
set_option linter.unusedVariables false
set_option linter.unusedSimpArgs false
set_option maxHeartbeats 2000000
theorem Try.info66 : (Try.prog.info? 66).map (fun i => (i.zero, i.size, i.bytes)) = some (some (.agg #[.slice none 0 0, .int .i64 0]), 2, 32) := by kernel_rfl
/-- Cells that read as entries, their keys on blocks of which ok holds. -/
def EntC (w : World) (ok : Nat → Prop) : List Value → List (Key × Int) → Prop
  | [], [] => True
  | x :: y :: cs, e :: es => RB w ok x e.1 ∧ y = .int .i64 e.2 ∧ EntC w ok cs es
  | _, _ => False
theorem EntC.len : ∀ {w : World} {ok : Nat → Prop} {cs : List Value} {es : List (Key × Int)}, EntC w ok cs es → cs.length = es.length * 2
  | _, _, [], [], _ => rfl
  | w, ok, x :: y :: cs, e :: es, h => by
    have := EntC.len h.2.2
    simp only [List.length_cons]
    omega
  | _, _, [], e :: es, h => h.elim
  | _, _, [x], es, h => by cases es <;> exact h.elim
  | _, _, x :: y :: cs, [], h => h.elim
theorem EntC.map_ : ∀ {w w' : World} {ok ok' : Nat → Prop} {cs : List Value} {es : List (Key × Int)}, (∀ x k, RB w ok x k → RB w' ok' x k) → EntC w ok cs es → EntC w' ok' cs es
  | _, _, _, _, [], [], _, _ => trivial
  | w, w', ok, ok', x :: y :: cs, e :: es, hf, h => ⟨hf _ _ h.1, h.2.1, EntC.map_ hf h.2.2⟩
  | _, _, _, _, [], e :: es, _, h => h.elim
  | _, _, _, _, [x], es, _, h => by cases es <;> exact h.elim
  | _, _, _, _, x :: y :: cs, [], _, h => h.elim
theorem EntC.below {w w' : World} {ok : Nat → Prop} {cs : List Value} {es : List (Key × Int)} (h : EntC w ok cs es) (hb : Below w.heap.size w w') : EntC w' ok cs es := EntC.map_ (fun _ _ g => g.below hb) h
theorem EntC.mono {w : World} {ok ok' : Nat → Prop} {cs : List Value} {es : List (Key × Int)} (h : EntC w ok cs es) (hm : ∀ b, ok b → ok' b) : EntC w ok' cs es := EntC.map_ (fun _ _ g => g.mono hm) h
theorem EntC.agree {w w' : World} {ok : Nat → Prop} {cs : List Value} {es : List (Key × Int)} (h : EntC w ok cs es) (ha : Agree ok w w') : EntC w' ok cs es := EntC.map_ (fun _ _ g => g.agree ha) h
theorem EntC.app : ∀ {w : World} {ok : Nat → Prop} {cs ds : List Value} {es fs : List (Key × Int)}, EntC w ok cs es → EntC w ok ds fs → EntC w ok (cs ++ ds) (es ++ fs)
  | _, _, [], _, [], _, _, h => h
  | w, ok, x :: y :: cs, ds, e :: es, fs, h, h' => ⟨h.1, h.2.1, EntC.app h.2.2 h'⟩
  | _, _, [], _, e :: es, _, h, _ => h.elim
  | _, _, [x], _, es, _, h, _ => by cases es <;> exact h.elim
  | _, _, x :: y :: cs, _, [], _, h, _ => h.elim
theorem EntC.at_ : ∀ {w : World} {ok : Nat → Prop} {cs : List Value} {es : List (Key × Int)} {i : Nat} {e : Key × Int}, EntC w ok cs es → es[i]? = some e → ∃ x, cs[i * 2]? = some x ∧ cs[i * 2 + 1]? = some (.int .i64 e.2) ∧ RB w ok x e.1
  | w, ok, x :: y :: cs, e :: es, 0, f, h, he => by
    simp at he
    subst he
    exact ⟨x, rfl, by rw [h.2.1]; rfl, h.1⟩
  | w, ok, x :: y :: cs, e :: es, i + 1, f, h, he => by
    simp at he
    obtain ⟨z, h1, h2, h3⟩ := EntC.at_ h.2.2 he
    have e1 : (i + 1) * 2 = i * 2 + 1 + 1 := by omega
    exact ⟨z, by rw [e1]; simpa using h1, by rw [e1]; simpa using h2, h3⟩
  | _, _, [], [], i, _, _, he => by simp at he
  | _, _, [], e :: es, _, _, h, _ => h.elim
  | _, _, [x], es, _, _, h, _ => by cases es <;> exact h.elim
  | _, _, x :: y :: cs, [], _, _, h, _ => h.elim
theorem EntC.one : ∀ {w : World} {ok : Nat → Prop} {cs : List Value} {es : List (Key × Int)}, EntC w ok cs es → ∀ u ∈ cs, u.oneCell' = true
  | _, _, [], [], _, u, hu => by simp at hu
  | w, ok, x :: y :: cs, e :: es, h, u, hu => by
    simp only [List.mem_cons] at hu
    rcases hu with rfl | rfl | hu
    · obtain ⟨a, c, rfl⟩ := h.1.sh
      rfl
    · rw [h.2.1]; rfl
    · exact EntC.one h.2.2 u hu
  | _, _, [], e :: es, h, _, _ => h.elim
  | _, _, [x], es, h, _, _ => by cases es <;> exact h.elim
  | _, _, x :: y :: cs, [], h, _, _ => h.elim
theorem EntC.single {w : World} {ok : Nat → Prop} {x : Value} {k : Key} {v : Int} (h : RB w ok x k) : EntC w ok [x, .int .i64 v] [(k, v)] := ⟨h, rfl, trivial⟩
/-- The blocks of keys that came to be since w0, beside the row's own. -/
abbrev KeyOn (B : Nat) (w : World) (v : Value) : Nat → Prop := fun b => B ≤ b ∧ b < w.heap.size ∧ some b ≠ v.ownBlock
end Go.Proofs.Ytahammkjkfdmhaa

/- Entries that a scan answers, as words on memory. -/
import Derived.Test.YtacpeibkamfibaaTz
import Derived.Test.YtacpeibkamfibaaHs
import Derived.Test.YtacpeibkamfibaaXj
namespace Go.Proofs.Ytacpeibkamfibaa
open Go.ChangeShapes Go.WideShapes Go.ChangeAt Go.RowKit Go.Shelf
set_option linter.unusedVariables false
set_option linter.unusedSimpArgs false
set_option maxHeartbeats 1000000
set_option maxRecDepth 100000
theorem rb_nil (w : World) : RB w (fun _ => True) (.slice none 0 0) [] := ⟨Rd.nil w 1, fun _ _ _ _ _ => trivial⟩
theorem bel_al (w : World) (o : Obj) : Below w.heap.size w (w.alloc o) := (Below.refl _ _).alloc (Nat.le_refl _) _
/-- A slice that reads as entries. -/
def EntV (w : World) (n : Nat) (v : Value) (es : List (Key × Int)) : Prop := ∃ cs, n = es.length ∧ Rd w 2 n v cs ∧ EntC w (fun _ => True) cs es
theorem EntV.below {w w' : World} {n : Nat} {v : Value} {es : List (Key × Int)} (h : EntV w n v es) (hb : Below w.heap.size w w') : EntV w' n v es := by
  obtain ⟨cs, h1, h2, h3⟩ := h
  exact ⟨cs, h1, h2.below hb, h3.below hb⟩
theorem EntV.sh {w : World} {n : Nat} {v : Value} {es : List (Key × Int)} (h : EntV w n v es) : ∃ a c, v = .slice a n c := by
  obtain ⟨cs, h1, ⟨_, a, c, e, _⟩, h3⟩ := h
  exact ⟨a, c, e⟩
theorem EntV.pos {w : World} {n : Nat} {v : Value} {es : List (Key × Int)} (h : EntV w n v es) (hn : 0 < n) : ∃ b o c, v = .slice (some ⟨b, o, none⟩) n c ∧ n ≤ c ∧ c ≤ maxLen ∧
    ∀ i e, es[i]? = some e → ∃ xa xc, w.cell? ⟨b, o + i * 2, none⟩ = some (.slice xa e.1.length xc) ∧ w.cell? ⟨b, o + i * 2 + 1, none⟩ = some (.int .i64 e.2) ∧ RB w (fun _ => True) (.slice xa e.1.length xc) e.1 := by
  obtain ⟨cs, h1, h2, h3⟩ := h
  obtain ⟨b, o, c, e, q1, q2, q3, q4⟩ := h2.pos hn (by omega)
  refine ⟨b, o, c, e, q1, q2, fun i en hi => ?_⟩
  obtain ⟨x, c1, c2, c3⟩ := h3.at_ hi
  obtain ⟨xa, xc, rfl⟩ := c3.sh
  exact ⟨xa, xc, q4 _ _ c1, q4 _ _ c2, c3⟩
/-- A scan's answer. -/
def ScanV (es : List (Key × Int)) (w : World) (e : Ending) (w' : World) : Prop := ∃ a n c, e = .returned (.tuple #[.slice a n c, .int .i64 0]) ∧ EntV w' n (.slice a n c) es ∧ Below w.heap.size w w'
theorem ScanIs.v {es : List (Key × Int)} {w : World} {e : Ending} {w' : World} (h : ScanIs es w e w') : ScanV es w e w' := by
  obtain ⟨v, cs, rfl, h1, h2, h3, h4⟩ := h
  have hr := Rd.own h1
  obtain ⟨_, a, c, rfl, _⟩ := id hr
  exact ⟨a, _, c, rfl, ⟨cs, rfl, hr, h2.mono fun _ _ => trivial⟩, h3⟩
/-- A conversion of a key's bytes to a text, in a world that drew. -/
theorem str_drew {w : World} {ok : Nat → Prop} {n : Nat} {a : Option Addr} {c : Nat} {k : Key} (h : RB w ok (.slice a n c) k) (nq : Nat) : (convert 25 9 (.slice a n c)).run Try.prog (w.drewN nq) = .ok (.string ⟨k.toArray⟩) (w.drewN nq) := by
  have q := (h.below (below_drewN w nq)).1
  exact str_of q
end Go.Proofs.Ytacpeibkamfibaa

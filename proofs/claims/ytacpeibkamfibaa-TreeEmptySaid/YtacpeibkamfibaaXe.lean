/- Entries that stand apart from what a law writes; what is left when the first one is taken out. -/
import Derived.Test.YtacpeibkamfibaaXd
namespace Go.Proofs.Ytacpeibkamfibaa
open Go.ChangeShapes Go.WideShapes Go.ChangeAt Go.RowKit Go.Shelf
set_option linter.unusedVariables false
set_option linter.unusedSimpArgs false
set_option maxHeartbeats 1000000
set_option maxRecDepth 100000
/-- A slice that reads as entries, on blocks of which ok holds. -/
def EntO (ok : Nat → Prop) (w : World) (n : Nat) (v : Value) (es : List (Key × Int)) : Prop := ∃ cs, n = es.length ∧ Rd w 2 n v cs ∧ At ok v ∧ EntC w ok cs es
theorem EntO.agree {ok : Nat → Prop} {w w' : World} {n : Nat} {v : Value} {es : List (Key × Int)} (h : EntO ok w n v es) (ha : Agree ok w w') : EntO ok w' n v es := by
  obtain ⟨cs, h1, h2, h3, h4⟩ := h
  exact ⟨cs, h1, h2.agree h3 ha, h3, h4.agree ha⟩
theorem EntO.v {ok : Nat → Prop} {w : World} {n : Nat} {v : Value} {es : List (Key × Int)} (h : EntO ok w n v es) : EntV w n v es := by
  obtain ⟨cs, h1, h2, h3, h4⟩ := h
  exact ⟨cs, h1, h2, h4.mono fun _ _ => trivial⟩
def ScanO (es : List (Key × Int)) (w : World) (e : Ending) (w' : World) : Prop := ∃ a n c, e = .returned (.tuple #[.slice a n c, .int .i64 0]) ∧ EntO (fun b => w.heap.size ≤ b) w' n (.slice a n c) es ∧ Below w.heap.size w w'
theorem ScanIs.o {es : List (Key × Int)} {w : World} {e : Ending} {w' : World} (h : ScanIs es w e w') : ScanO es w e w' := by
  obtain ⟨v, cs, rfl, h1, h2, h3, h4⟩ := h
  have hr := Rd.own h1
  have ha : At (fun b => w.heap.size ≤ b) v := fun a n c e hn => by
    have q := h1.lt a.block (by rw [e]; rfl)
    exact q.1
  obtain ⟨_, a, c, rfl, _⟩ := id hr
  exact ⟨a, _, c, rfl, ⟨cs, rfl, hr, ha, h2.mono fun _ q => q.1⟩, h3⟩
theorem scan_all_o {B n : Nat} {w : World} {tv : Value} {T : Tr} {l : List (Key × Int)} (h : GT B n w tv T l) : Calls Try.prog 17 #[tv, .slice none 0 0, .slice none 0 0] w (ScanO l w) := by
  have q := scan_g h (rb_nil w) (rb_nil w) (by simp) (by simp)
  rw [scan_nil] at q
  exact q.mono fun e w' g => g.o
theorem rise_drop {l : List (Key × Int)} {j : Nat} (hr : Rise l) (hj : j < l.length) : lookE (l[j]).1 (l.drop j) = some (l[j]).2 ∧ offE (l[j]).1 (l.drop j) = l.drop (j + 1) := by
  have e := List.drop_eq_getElem_cons hj
  have hr2 : Rise (l.drop j) := List.Pairwise.sublist (List.drop_sublist _ _) hr
  refine ⟨lookE_some hr2 (by rw [e]; exact List.mem_cons_self), ?_⟩
  rw [e] at hr2 ⊢
  have h1 := (List.pairwise_cons.1 hr2).1
  unfold offE
  rw [List.filter_cons_of_neg (by simp)]
  rw [List.filter_eq_self]
  intro x hx
  have h2 := h1 x hx
  have : x.1 ≠ (l[j]).1 := fun q => by rw [q, show kl (l[j]).1 (l[j]).1 = false from bl_irr _] at h2; cases h2
  simpa using this
theorem GT.kOk {B n : Nat} {w : World} {tv : Value} {T : Tr} {l : List (Key × Int)} (h : GT B n w tv T l) {e : Key × Int} (he : e ∈ l) : okK e.1 := (h.grown.okk e he).1
end Go.Proofs.Ytacpeibkamfibaa

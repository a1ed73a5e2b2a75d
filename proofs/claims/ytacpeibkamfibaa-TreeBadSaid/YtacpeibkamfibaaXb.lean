/- Plain: what a scan answers. No program in sight. -/
import Derived.Test.YtacpeibkamfibaaGy
import Derived.Test.YtacpeibkamfibaaTc
namespace Go.Proofs.Ytacpeibkamfibaa
set_option linter.unusedVariables false
set_option linter.unusedSimpArgs false
/-- Not above a bound; a bound of no bytes is none. -/
def toOk (to : Key) (e : Key × Int) : Bool := to.isEmpty || !kl to e.1
/-- The entries between two bounds. -/
def scanL (from_ to : Key) (l : List (Key × Int)) : List (Key × Int) := l.filter fun e => !kl e.1 from_ && toOk to e
theorem toOk_up {to : Key} {a b : Key × Int} (h : kl a.1 b.1 = true) (hb : toOk to a = false) : toOk to b = false := by
  unfold toOk at *
  simp only [Bool.or_eq_false_iff, Bool.not_eq_false', List.isEmpty_eq_false_iff] at *
  exact ⟨hb.1, kl_lt_le hb.2 (kl_not h)⟩
theorem take_filter {to : Key} : ∀ {l : List (Key × Int)}, Rise l → l.takeWhile (toOk to) = l.filter (toOk to)
  | [], _ => rfl
  | e :: l, hr => by
    have hr' := List.pairwise_cons.1 hr
    by_cases q : toOk to e = true
    · rw [List.takeWhile_cons_of_pos q, List.filter_cons_of_pos q, take_filter hr'.2]
    · rw [List.takeWhile_cons_of_neg q, List.filter_cons_of_neg q]
      symm
      rw [List.filter_eq_nil_iff]
      intro x hx
      rw [toOk_up (hr'.1 x hx) (by simpa using q)]
      simp
theorem scan_take {from_ to : Key} {l : List (Key × Int)} (hr : Rise l) : (l.filter fun e => !kl e.1 from_).takeWhile (toOk to) = scanL from_ to l := by
  rw [take_filter (List.Pairwise.sublist List.filter_sublist hr), List.filter_filter]
  unfold scanL
  congr 1
  funext e
  rw [Bool.and_comm]
theorem scan_stop {to : Key} {E : List (Key × Int)} {n : Nat} {e : Key × Int} (h1 : ∀ x ∈ E.take n, toOk to x = true) (h2 : E[n]? = some e) (h3 : toOk to e = false) : E.takeWhile (toOk to) = E.take n := by
  obtain ⟨hlt, he⟩ := List.getElem?_eq_some_iff.1 h2
  conv => lhs; rw [← List.take_append_drop n E, List.drop_eq_getElem_cons hlt, he]
  rw [List.takeWhile_append_of_pos h1, List.takeWhile_cons_of_neg (by simp [h3]), List.append_nil]
theorem scan_all {to : Key} {E : List (Key × Int)} (h1 : ∀ x ∈ E, toOk to x = true) : E.takeWhile (toOk to) = E := by
  have := List.takeWhile_append_of_pos (l₂ := []) h1
  simpa using this
theorem scan_nil (l : List (Key × Int)) : scanL [] [] l = l := by
  unfold scanL toOk
  rw [List.filter_eq_self]
  intro e _
  simp [kl_nil]
end Go.Proofs.Ytacpeibkamfibaa

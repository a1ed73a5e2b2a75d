import Derived.Test.YtdeollmeljaaoaaDoorAyk
/- Statements of known tokens, parsed. -/
namespace Go.Proofs.YtdeollmeljaaoaaDoor.rd
open Go.Proofs.YtdeollmeljaaoaaDoor.cs
set_option linter.unusedVariables false
set_option linter.unusedSimpArgs false
set_option maxHeartbeats 4000000
set_option maxRecDepth 100000
abbrev wd (l : List UInt8) : Tk := ⟨1, l, 0⟩
abbrev mk_ (l : List UInt8) : Tk := ⟨4, l, 0⟩
abbrev nu (x : Int) : Tk := ⟨2, [], x⟩
/-- DELETE FROM t WHERE .. -/
def headT : List Tk := [wd [68, 69, 76, 69, 84, 69], wd [70, 82, 79, 77], wd [116], wd [87, 72, 69, 82, 69]]
def liq (x : Int) : Oq := ⟨1, ⟨2, x, ⟨#[]⟩⟩, ⟨#[]⟩⟩
def delS (l : List Oq) : Sq := ⟨6, ⟨#[116]⟩, [], [], [], false, l, ⟨#[]⟩, false, -1, ⟨#[]⟩, []⟩
theorem bad_of : ∀ (l : List Tk) (j : Nat), (∀ t ∈ l, tkF t.k t.t t.n = 0) → badL j l = none
  | [], j, h => rfl
  | x :: l, j, h => by
    unfold badL
    rw [if_neg (by simp [h x (by simp)])]
    exact bad_of l (j + 1) fun t ht => h t (by simp [ht])
theorem parse_good {L : List Tk} {s : Sq} (hl : L.length ≤ 100) (hb : ∀ t ∈ L, tkF t.k t.t t.n = 0) (hs : stmtF L L.length = .inr s) : parseF L = (s, 0, 0) := by
  unfold parseF
  rw [if_neg (by omega), bad_of L 0 hb, hs]
theorem parse_flt {L : List Tk} {f : F} (hl : L.length ≤ 100) (hb : ∀ t ∈ L, tkF t.k t.t t.n = 0) (hs : stmtF L L.length = .inl f) : parseF L = (sqz, f.1, f.2) := by
  unfold parseF
  rw [if_neg (by omega), bad_of L 0 hb, hs]
theorem tk_nu {x : Int} (h : 0 ≤ x) : tkF 2 [] x = 0 := by
  unfold tkF txt
  simp
  omega
theorem head_ok : ∀ t ∈ headT, tkF t.k t.t t.n = 0 := by decide
end Go.Proofs.YtdeollmeljaaoaaDoor.rd

/- Lists of numbers among the arguments; a tree in a box; entries that a scan answers. -/
import Derived.Test.YtacpeibkamfibaaGw
import Derived.Test.YtacpeibkamfibaaXc
import Derived.Test.YtacpeibkamfibaaXk
import Derived.Test.YtacpeibkamfibaaHs
namespace Go.Proofs.Ytacpeibkamfibaa
open Go.ChangeShapes Go.WideShapes Go.ChangeAt Go.RowKit
set_option linter.unusedVariables false
set_option linter.unusedSimpArgs false
set_option maxRecDepth 100000
theorem open_ints {H : Type} {enc : TypeId × Value → H} {w : World} {base : Nat} {held : Bool} {r : Reach} {b0 : Nat} {v : Value} {d : DataW H} {p : List MemPlace} (hv : Value.okWide Try.prog w r b0 45 v) (h : DataW.Trod enc Try.prog w base (fun _ => true) held 45 v d p) (hs : small Try.prog 45 d) :
    ∃ (n : Nat) (l : List Int), Rd w 1 n v (ic l) ∧ n * 8 ≤ 140737488351232 ∧ ∀ o ∈ l, (Lit.int .i64 o).wf = true := by
  obtain ⟨a0, len, cap, rfl⟩ := okWide_slice Try.underlying45 hv
  obtain ⟨fuel, hf⟩ := h
  obtain ⟨v, l, e, h1, h2, h3⟩ := read_ints Try.underlying45 Try.underlying3 (by kernel_rfl) (by kernel_rfl) hf hs
  simp [Value.cells] at e
  subst e
  simp only [reachBytes] at h2
  exact ⟨l.length, l, h1.1, by omega, h3⟩
/-- A tree in a box. -/
structure TBx (B n : Nat) (w : World) (Bt : Nat) (ao : Option Addr) (cap : Nat) (T : Tr) (l : List (Key × Int)) : Prop where
  g : GT B n w (.agg #[.slice ao T.pages.length cap, .int .i64 T.root]) T l
  x : w.heap[Bt]? = some (.cells #[.slice ao T.pages.length cap, .int .i64 T.root] 24 (0, 0))
theorem TBx.below {B n : Nat} {w w' : World} {Bt : Nat} {ao : Option Addr} {cap : Nat} {T : Tr} {l : List (Key × Int)} (h : TBx B n w Bt ao cap T l) (hb : Below w.heap.size w w') : TBx B n w' Bt ao cap T l :=
  ⟨h.g.below hb, (hb.block _ (Array.getElem?_eq_some_iff.1 h.x).1).trans h.x⟩
theorem TBx.new {B n : Nat} {w : World} {ao : Option Addr} {cap : Nat} {T : Tr} {l : List (Key × Int)} (h : GT B n w (.agg #[.slice ao T.pages.length cap, .int .i64 T.root]) T l) :
    TBx B n (w.alloc (.cells #[.slice ao T.pages.length cap, .int .i64 T.root] 24)) w.heap.size ao cap T l := ⟨h.below ((Below.refl _ _).alloc (Nat.le_refl _) _), new0 _ _⟩
section
variable {B n : Nat} {w : World} {tv : Value} {T : Tr} {l : List (Key × Int)}
theorem GT.few_ents (h : GT B n w tv T l) : l.length ≤ 1000000 := by
  obtain ⟨⟨h', t, h1, h2, h3⟩, h4⟩ := h.grown
  have := ent_len h1
  have := h.pages
  rw [← h2]
  omega
theorem scan_g (h : GT B n w tv T l) {ok1 ok2 : Nat → Prop} {kv mv : Value} {k to : Key} (hk : RB w ok1 kv k) (hm : RB w ok2 mv to) (h1 : k.length ≤ 100) (h2 : to.length ≤ 100) :
    Calls Try.prog 17 #[tv, kv, mv] w (ScanIs (scanL k to l) w) := by
  have hl := h.few_ents
  obtain ⟨⟨h', t, g1, g2, g3⟩, g4⟩ := h.grown
  rw [← g2] at hl ⊢
  exact scan_ok w _ ok1 ok2 (fun b hb => hb.2) tv kv mv T h' t k to h.rt g1 hk hm (by have := h.pages; omega) h.small h1 h2 hl
theorem above_g (h : GT B n w tv T l) {ok1 : Nat → Prop} {kv : Value} {k : Key} (hk : RB w ok1 kv k) (h1 : k.length ≤ 100) :
    Calls Try.prog 22 #[tv, kv] w fun e w' => AboveIs w.heap.size (firstE k (l.filter fun e => !kl e.1 k)) e w' ∧ Below w.heap.size w w' := by
  obtain ⟨⟨h', t, g1, g2, g3⟩, g4⟩ := h.grown
  rw [← g2]
  exact above_ok w _ ok1 (fun b hb => hb.2) tv kv T h' t k h.rt g1 hk (by have := h.pages; omega) h.small h1
end
section
variable {B n : Nat} {w : World} {tv : Value} {T : Tr} {l : List (Key × Int)}
theorem scan_v (h : GT B n w tv T l) {ok1 ok2 : Nat → Prop} {kv mv : Value} {k to : Key} (hk : RB w ok1 kv k) (hm : RB w ok2 mv to) (h1 : k.length ≤ 100) (h2 : to.length ≤ 100) :
    Calls Try.prog 17 #[tv, kv, mv] w (ScanV (scanL k to l) w) := (scan_g h hk hm h1 h2).mono fun e w' q => q.v
theorem scan_all_v (h : GT B n w tv T l) : Calls Try.prog 17 #[tv, .slice none 0 0, .slice none 0 0] w (ScanV l w) := by
  have q := scan_v h (rb_nil w) (rb_nil w) (by simp) (by simp)
  rwa [scan_nil] at q
theorem above_some (h : GT B n w tv T l) {ok1 : Nat → Prop} {kv : Value} {k : Key} (hk : RB w ok1 kv k) (h1 : k.length ≤ 100) {en : Key × Int} (hf : firstE k (l.filter fun e => !kl e.1 k) = some en) :
    Calls Try.prog 22 #[tv, kv] w fun e w' => ∃ xa xc, e = .returned (.tuple #[.agg #[.slice xa en.1.length xc, .int .i64 en.2], .int .i64 0]) ∧ RB w' (fun _ => True) (.slice xa en.1.length xc) en.1 ∧ Below w.heap.size w w' := by
  refine (above_g h hk h1).mono fun e w' ⟨⟨q1, q2⟩, q3⟩ => ?_
  obtain ⟨x, rfl, r⟩ := q1 en hf
  have hr := Rd.own r
  obtain ⟨_, a, c, rfl, _⟩ := id hr
  exact ⟨a, c, rfl, ⟨hr, fun _ _ _ _ _ => trivial⟩, q3⟩
theorem above_none (h : GT B n w tv T l) {ok1 : Nat → Prop} {kv : Value} {k : Key} (hk : RB w ok1 kv k) (h1 : k.length ≤ 100) (hf : firstE k (l.filter fun e => !kl e.1 k) = none) :
    Calls Try.prog 22 #[tv, kv] w fun e w' => e = .returned (.tuple #[.agg #[.slice none 0 0, .int .i64 0], .int .i64 8]) ∧ Below w.heap.size w w' := by
  refine (above_g h hk h1).mono fun e w' ⟨⟨q1, q2⟩, q3⟩ => ⟨q2 hf, q3⟩
end
theorem scan_up (k : Key) (l : List (Key × Int)) : scanL k [] l = l.filter fun e => !kl e.1 k := by
  unfold scanL toOk
  congr 1
  funext e
  simp
end Go.Proofs.Ytacpeibkamfibaa

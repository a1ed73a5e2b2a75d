/- Tokens spelled and joined: the program. -/
import Derived.Test.YtfoilmhpoipmpaaDoorSw
import Derived.Test.YtfoilmhpoipmpaaDoorShc
import Derived.Lib.ItoaNum
import Derived.Lib.AppendIntMem
namespace Go.Proofs.YtfoilmhpoipmpaaDoor
open Go.ChangeShapes Go.WideShapes Go.ChangeAt Go.RowKit
set_option linter.unusedVariables false
set_option linter.unusedSimpArgs false
set_option maxHeartbeats 1000000
/-- What the library's variables read as, for what is joined. -/
def p10C : Array Value := (Lib.pow10Tab.map fun z => Value.int .u64 z).toArray
def Lj (w : World) : Prop := Mk w ∧ (∃ m, w.cell? ⟨1, 0, none⟩ = some (.int .i64 m)) ∧ ∃ t fr, w.heap[4]? = some (.cells p10C t fr)
theorem Lj.below {w w' : World} (h : Lj w) (hb : Below w.heap.size w w') : Lj w' := by
  obtain ⟨h1, ⟨m, h2⟩, t, fr, h3⟩ := h
  exact ⟨h1.below hb, ⟨m, (hb.cell (lt_cell h2)).trans h2⟩, t, fr, (hb.block _ (lt_of_block h3)).trans h3⟩
def dblT : List UInt8 → List UInt8
  | [] => []
  | c :: r => if c = 39 then 39 :: 39 :: dblT r else c :: dblT r
theorem ra_dbl : ∀ l, Lib.replaceAll l q1 q2 = dblT l
  | [] => ra_nil _ _ (by simp [q1]) q12
  | c :: r => by
    by_cases h : c = 39
    · subst h
      rw [dblT, if_pos rfl, show (39 : UInt8) :: r = q1 ++ r from rfl, ra_hit _ _ _ (by simp [q1]) q12, ra_dbl r]
      rfl
    · have hp : q1.isPrefixOf (c :: r) = false := by
        have hc' : ((39 : UInt8) == c) = false := by simpa using fun e => h e.symm
        simp [q1, List.isPrefixOf, hc']
      rw [dblT, if_neg h, ra_miss _ _ _ _ (by simp [q1]) q12 hp, ra_dbl r]
theorem dbl_len : ∀ l, (dblT l).length ≤ 2 * l.length
  | [] => by simp [dblT]
  | c :: r => by
    have := dbl_len r
    rw [dblT]
    split <;> simp <;> omega
def spellT (x : Tk) : List UInt8 := if x.k = 2 then Lib.itoa x.n else if x.k = 3 then [39] ++ dblT x.t ++ [39] else x.t
theorem itoa_any (w : World) (hj : Lj w) (n : Int) (h0 : 0 ≤ n) (h1 : n ≤ 9223372036854775807) :
    Calls Tryd.prog 48 #[.int .i64 n] w fun e w' => e = .returned (.string ⟨(Lib.itoa n).toArray⟩) ∧ Below w.heap.size w w' := by
  obtain ⟨_, _, t, fr, hp⟩ := hj
  have htab : Lib.TabIs Tryd.prog w "internal/strconv.uint64pow10" .u64 Lib.pow10Tab := by
    have hg : Tryd.prog.globalNamed "internal/strconv.uint64pow10" = some 4 := by kernel_rfl
    unfold Lib.TabIs
    simp only [World.var?, hg, Option.bind_some, hp]
    rfl
  refine (Tryd.strconv_Itoa n (by omega) h1 w htab).mono ?_
  rintro e w' ⟨rfl, k, os, rfl⟩
  exact ⟨rfl, Lib.below_grow _ _ (Nat.le_refl _) _ _⟩
theorem dbl_any (w : World) (hj : Lj w) (s : ByteArray) (hs : s.size ≤ 4000000) :
    Calls Tryd.prog 49 #[.string s, .string ⟨#[39]⟩, .string ⟨#[39, 39]⟩] w fun e w' => e = .returned (.string ⟨(Lib.replaceAll s.data.toList q1 q2).toArray⟩) ∧ Below w.heap.size w w' := by
  obtain ⟨_, ⟨m, hm⟩, _⟩ := hj
  have hcb := Lib.countB_le ⟨#[39]⟩ (by decide) s.size s (Nat.le_refl _)
  refine Tryd.strings_ReplaceAll s ⟨#[39]⟩ ⟨#[39, 39]⟩ m w (by omega) hm (by decide) ?_
  have e : (⟨#[39, 39]⟩ : ByteArray).size = 2 := rfl
  rw [e]
  omega
theorem spell_any (w : World) (hj : Lj w) (k n : Int) (s : ByteArray) (hs : s.size ≤ 4000000) (h0 : k = 2 → 0 ≤ n) (h1 : n ≤ 9223372036854775807) :
    Calls Tryd.prog 34 #[.agg #[.int .i64 k, .string s, .int .i64 n]] w fun e w' => e = .returned (.string ⟨(spellT ⟨k, s.data.toList, n⟩).toArray⟩) ∧ Below w.heap.size w w' := by
  by_cases h2 : k = 2
  · subst h2
    have HI := Lib.hid (itoa_any (w.alloc (.cells #[.int .i64 2, .string s, .int .i64 n] 29)) (hj.below ((Below.refl _ _).alloc (Nat.le_refl _) _)) n (h0 rfl) h1)
    have HS : Hid (spellT ⟨2, s.data.toList, n⟩ = Lib.itoa n) := by show _ = _; unfold spellT; simp
    clear h0 h1
    go_enter Tryd.func34, Tryd.ntmps34
    go_wp2_with (go_at_call 48; refine HI.out.mono ?_; rintro e w1 ⟨rfl, hb1⟩)
    go_ret
    rw [HS.out]
    exact ⟨rfl, into ((Below.refl _ _).alloc (Nat.le_refl _) _) hb1⟩
  · by_cases h3 : k = 3
    · subst h3
      have HI := Lib.hid (dbl_any (w.alloc (.cells #[.int .i64 3, .string s, .int .i64 n] 29)) (hj.below ((Below.refl _ _).alloc (Nat.le_refl _) _)) s hs)
      have HS : Hid (spellT ⟨3, s.data.toList, n⟩ = [39] ++ dblT s.data.toList ++ [39]) := by show _ = _; unfold spellT; simp
      have hdl := dbl_len s.data.toList
      rw [len_size] at hdl
      rw [ra_dbl] at HI
      obtain ⟨r, hr⟩ : ∃ r, r = dblT s.data.toList := ⟨_, rfl⟩
      rw [← hr] at HI HS hdl
      obtain ⟨rb, hrb⟩ : ∃ rb : ByteArray, rb = ⟨r.toArray⟩ := ⟨_, rfl⟩
      have hrz : rb.size = r.length := by rw [hrb]; show r.toArray.size = _; simp
      have hrd : rb.data.toList = r := by rw [hrb]
      rw [← hrb] at HI
      have HRD := Lib.hid hrd
      have hrz2 : rb.size ≤ 8000000 := by omega
      clear h0 h1 hr hrb hrz hrd hdl
      go_enter Tryd.func34, Tryd.ntmps34
      go_wp2_with (go_at_call 49; refine HI.out.mono ?_; rintro e w1 ⟨rfl, hb1⟩)
      go_ret
      rw [HS.out, ← HRD.out]
      refine ⟨rs (str_ext ?_), into ((Below.refl _ _).alloc (Nat.le_refl _) _) hb1⟩
      simp
    · have HS : Hid (spellT ⟨k, s.data.toList, n⟩ = s.data.toList) := by show _ = _; unfold spellT; simp [h2, h3]
      have h3' : (k == 3) = false := by simpa using h3
      go_enter Tryd.func34, Tryd.ntmps34
      go_wp2
      go_ret
      rw [HS.out]
      exact ⟨rs (str_ext rfl), (Below.refl _ _).alloc (Nat.le_refl _) _⟩
theorem isb_below {T e : TypeId} {B b : Nat} {bs : List Value} {w w' : World} (h : Lib.IsBuilder T e B b bs w) (hb : Below w.heap.size w w') : Lib.IsBuilder T e B b bs w' := by
  rcases h with ⟨h1, v, h2, h3, h4⟩ | ⟨h1, v, h2, h3, h4⟩
  · exact .inl ⟨h1, v, (hb.block _ (lt_of_block h2)).trans h2, own_below h3 hb, h4⟩
  · exact .inr ⟨h1, v, (hb.block _ (lt_of_block h2)).trans h2, own_below h3 hb, h4⟩
end Go.Proofs.YtfoilmhpoipmpaaDoor

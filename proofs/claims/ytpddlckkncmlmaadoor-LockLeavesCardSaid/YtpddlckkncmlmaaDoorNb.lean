/- Locks in memory; what the small functions answer of one. -/
import Derived.Test.YtpddlckkncmlmaaDoorNa
import Derived.Test.YtpddlckkncmlmaaDoorJp
import Derived.Deep.QuietTactic
namespace Go.Proofs.YtpddlckkncmlmaaDoor
open Go.ChangeShapes Go.WideShapes Go.ChangeAt Go.RowKit
set_option linter.unusedVariables false
set_option linter.unusedSimpArgs false
set_option maxHeartbeats 1000000
theorem len_l {w : World} {n : Nat} {v : Value} {l : List Lk} (h : Rd w 3 n v (lkc l)) : n = l.length := by have := h.1; rw [lkc_length] at this; omega
theorem lks_of {w : World} {n : Nat} {v : Value} {l : List Lk} (h : Rd w 3 n v (lkc l)) (hn : 0 < n) :
    ∃ b o cap, v = .slice (some ⟨b, o, none⟩) n cap ∧ n ≤ cap ∧ cap ≤ maxLen ∧ b < w.heap.size ∧ ∀ k, k < n → w.cell? ⟨b, o + k * 3, none⟩ = some (.int .i64 (l.getD k nlk).t) ∧ w.cell? ⟨b, o + k * 3 + 1, none⟩ = some (.string (l.getD k nlk).th) ∧ w.cell? ⟨b, o + k * 3 + 2, none⟩ = some (.int .i64 (l.getD k nlk).m) := by
  have hl := len_l h
  obtain ⟨b, o, cap, h1, h2, h3, h4, h5⟩ := h.pos hn (by omega)
  refine ⟨b, o, cap, h1, h2, h3, h4, fun k hk => ?_⟩
  obtain ⟨g0, g1, g2⟩ := lkc_at (l := l) (k := k) (by omega)
  refine ⟨h5 _ _ g0, ?_, ?_⟩
  · have := h5 _ _ g1; rwa [← Nat.add_assoc] at this
  · have := h5 _ _ g2; rwa [← Nat.add_assoc] at this
/-- A box with a lock; with a number. -/
def BxL (w : World) (B : Nat) (x : Lk) : Prop := w.cell? ⟨B, 0, none⟩ = some (.int .i64 x.t) ∧ w.cell? ⟨B, 1, none⟩ = some (.string x.th) ∧ w.cell? ⟨B, 2, none⟩ = some (.int .i64 x.m)
def BxI (w : World) (B : Nat) (t : Int) : Prop := w.cell? ⟨B, 0, none⟩ = some (.int .i64 t)
theorem BxL.below {w w' : World} {B : Nat} {x : Lk} (h : BxL w B x) (hb : Below w.heap.size w w') : BxL w' B x := ⟨(hb.cell (lt_cell h.1)).trans h.1, (hb.cell (lt_cell h.2.1)).trans h.2.1, (hb.cell (lt_cell h.2.2)).trans h.2.2⟩
theorem BxI.below {w w' : World} {B : Nat} {t : Int} (h : BxI w B t) (hb : Below w.heap.size w w') : BxI w' B t := (hb.cell (lt_cell h)).trans h
theorem BxL.new (w : World) (x : Lk) : BxL (w.alloc (.cells #[.int .i64 x.t, .string x.th, .int .i64 x.m] 26)) w.heap.size x := by
  obtain ⟨h0, h1, h2, -, -, -⟩ := has3 (new0 w (.cells #[.int .i64 x.t, .string x.th, .int .i64 x.m] 26)) (Below.refl _ _)
  exact ⟨h0, h1, h2⟩
theorem al_drew (w : World) (o : Obj) (n : Nat) : Below w.heap.size w ((w.alloc o).drewN n) :=
  below_drewN ((Below.refl w.heap.size w).alloc (Nat.le_refl _) o) n
theorem isTxn_any (w : World) (t : Int) : Calls Tryd.prog 30 #[.int .i64 t] w fun e w' => e = .returned (.bool (decide (1 ≤ t) && decide (t ≤ 1048576))) ∧ w = w' := by
  by_cases h : 1 ≤ t
  · go_enter Tryd.func30, Tryd.ntmps30
    go_wp2
    go_ret
    exact ⟨rb (by simp [h]), rfl⟩
  · go_enter Tryd.func30, Tryd.ntmps30
    go_wp2
    go_ret
    exact ⟨rb (by simp; omega), rfl⟩
theorem form_any (w : World) (x : Lk) : Calls Tryd.prog 36 #[lkv x] w fun e w' => e = .returned (.int .i64 (frm x)) ∧ Below w.heap.size w w' := by
  obtain ⟨t, th, m⟩ := x
  obtain ⟨q, hq⟩ : ∃ q, q = (decide (1 ≤ t) && decide (t ≤ 1048576)) := ⟨_, rfl⟩
  obtain ⟨r, hr⟩ : ∃ r, r = isM m := ⟨_, rfl⟩
  have h1 := fun w => isTxn_any w t
  have h2 := fun w => isMode_any w m
  rw [← hq] at h1
  rw [← hr] at h2
  have H1 := Lib.hid h1
  have H2 := Lib.hid h2
  have hF : frm ⟨t, th, m⟩ = if q = false then 3 else if 120 < th.size then 1 else if r = false then 2 else 0 := by
    unfold frm
    have e1 : (t < 1 ∨ 1048576 < t) ↔ q = false := by rw [hq]; simp; omega
    have e2 : (m < 1 ∨ 5 < m) ↔ r = false := by rw [hr, isM]; simp; omega
    simp only [e1, e2]
  have HF := Lib.hid hF
  clear h1 h2 hF hq hr
  cases q <;> cases r
  all_goals (
    by_cases hs : 120 < th.size
    all_goals (
      go_enter Tryd.func36, Tryd.ntmps36
      go_wp2_with (first | (go_at_call 30; ((with_reducible refine (H1.out _).mono ?_); rintro e w' ⟨rfl, rfl⟩)) | (go_at_call 54; ((with_reducible refine (H2.out _).mono ?_); rintro e w' ⟨rfl, rfl⟩)))
      go_ret
      refine ⟨ri ?_, (Below.refl _ _).alloc (Nat.le_refl _) _⟩
      rw [HF.out]
      simp
      try omega))
theorem formed1_any (w : World) (l : Lk) : Calls Tryd.prog 62 #[lkv l] w fun e w' => e = .returned (.bool (bad l)) ∧ Below w.heap.size w w' := by
  have HF := Lib.hid (form_any (w.alloc (.cells #[.int .i64 l.t, .string l.th, .int .i64 l.m] 26)) l)
  have HB : Hid (bad l = (frm l != 0)) := rfl
  go_enter Tryd.func62, Tryd.ntmps62
  go_wp2_with fail
  refine HF.out.mono ?_
  rintro e w1 ⟨rfl, hb⟩
  have HB1 := Lib.hid (into ((Below.refl _ _).alloc (Nat.le_refl _) _) hb)
  clear hb
  go_wp2_with fail
  go_ret
  exact ⟨rb HB.out.symm, HB1.out⟩
theorem on1_any (w : World) (l x : Lk) (B : Nat) (hx : BxL w B x) : Calls Tryd.prog 56 #[lkv l, .pointer (some ⟨B, 0, none⟩)] w fun e w' => e = .returned (.bool (onB x l)) ∧ Below w.heap.size w w' := by
  obtain ⟨c0, c1, c2⟩ := hx.below ((Below.refl w.heap.size w).alloc (Nat.le_refl _) (.cells #[.int .i64 l.t, .string l.th, .int .i64 l.m] 26))
  have HO : Hid (onB x l = (l.t == x.t && l.th.toList == x.th.toList)) := rfl
  clear hx
  obtain ⟨lt, lth, lm⟩ := l
  obtain ⟨xt, xth, xm⟩ := x
  simp only at c0 c1 c2 HO
  by_cases h : lt = xt
  · subst h
    go_enter Tryd.func56, Tryd.ntmps56
    go_wp2
    go_ret
    exact ⟨rb (by rw [HO.out]; simp), (Below.refl _ _).alloc (Nat.le_refl _) _⟩
  · have h' : (lt == xt) = false := by simpa using h
    go_enter Tryd.func56, Tryd.ntmps56
    go_wp2
    go_ret
    exact ⟨rb (by rw [HO.out, h']; simp), (Below.refl _ _).alloc (Nat.le_refl _) _⟩
theorem of1_any (w : World) (l : Lk) (t : Int) (B : Nat) (hx : BxI w B t) : Calls Tryd.prog 53 #[lkv l, .pointer (some ⟨B, 0, none⟩)] w fun e w' => e = .returned (.bool (ofB t l)) ∧ Below w.heap.size w w' := by
  have c0 := hx.below ((Below.refl w.heap.size w).alloc (Nat.le_refl _) (.cells #[.int .i64 l.t, .string l.th, .int .i64 l.m] 26))
  have HO : Hid (ofB t l = (l.t == t)) := rfl
  unfold BxI at c0
  clear hx
  go_enter Tryd.func53, Tryd.ntmps53
  go_wp2
  go_ret
  exact ⟨rb (by rw [HO.out]), (Below.refl _ _).alloc (Nat.le_refl _) _⟩
theorem wf1_any (w : World) (l x : Lk) (B : Nat) (hx : BxL w B x) : Calls Tryd.prog 44 #[lkv l, .pointer (some ⟨B, 0, none⟩)] w fun e w' => e = .returned (.bool (thB x l)) ∧ Below w.heap.size w w' := by
  obtain ⟨c0, c1, c2⟩ := hx.below ((Below.refl w.heap.size w).alloc (Nat.le_refl _) (.cells #[.int .i64 l.t, .string l.th, .int .i64 l.m] 26))
  have HO : Hid (thB x l = (l.th.toList == x.th.toList)) := rfl
  clear hx
  go_enter Tryd.func44, Tryd.ntmps44
  go_wp2
  go_ret
  exact ⟨rb (by rw [HO.out]), (Below.refl _ _).alloc (Nat.le_refl _) _⟩
theorem ag1_any (w : World) (hT : Tog w) (l x : Lk) (hl : 1 ≤ l.m ∧ l.m ≤ 5) (hm : 1 ≤ x.m ∧ x.m ≤ 5) (B : Nat) (hx : BxL w B x) : Calls Tryd.prog 57 #[lkv l, .pointer (some ⟨B, 0, none⟩)] w fun e w' => e = .returned (.bool (agB x l)) ∧ Below w.heap.size w w' := by
  have hb := (Below.refl w.heap.size w).alloc (Nat.le_refl _) (.cells #[.int .i64 l.t, .string l.th, .int .i64 l.m] 26)
  obtain ⟨c0, c1, c2⟩ := hx.below hb
  have ct := (hT.below hb).at hl hm
  have HO : Hid (agB x l = ((l.t != x.t && l.th.toList == x.th.toList) && !tog l.m x.m)) := rfl
  clear hx hT hb
  obtain ⟨lt, lth, lm⟩ := l
  obtain ⟨xt, xth, xm⟩ := x
  simp only at c0 c1 c2 HO ct hl hm
  obtain ⟨q, hq⟩ : ∃ q, q = tog lm xm := ⟨_, rfl⟩
  rw [← hq] at ct HO
  obtain ⟨a, rfl⟩ : ∃ a : Nat, lm = (a : Int) := ⟨lm.toNat, by omega⟩
  obtain ⟨b, rfl⟩ : ∃ b : Nat, xm = (b : Int) := ⟨xm.toNat, by omega⟩
  simp only [Int.toNat_natCast] at ct
  have ha : (a : Int) < 6 := by omega
  have hb : (b : Int) < 6 := by omega
  clear hq hl hm
  by_cases h : lt = xt
  · subst h
    go_enter Tryd.func57, Tryd.ntmps57
    go_wp2
    go_quiet (fail)
    go_wp2
    go_ret
    exact ⟨rb (by rw [HO.out]; simp), al_drew _ _ _⟩
  · have h' : (lt == xt) = false := by simpa using h
    have h2 : (lt != xt) = true := by simpa using h
    obtain ⟨d, hd⟩ : ∃ d, d = (lth.toList == xth.toList) := ⟨_, rfl⟩
    cases d
    all_goals (
      have hd' := hd.symm
      rw [← hd] at HO
      clear hd
      go_enter Tryd.func57, Tryd.ntmps57
      go_wp2
      go_quiet (fail)
      go_wp2
      go_ret
      exact ⟨rb (by rw [HO.out, h2]; simp), al_drew _ _ _⟩)
end Go.Proofs.YtpddlckkncmlmaaDoor

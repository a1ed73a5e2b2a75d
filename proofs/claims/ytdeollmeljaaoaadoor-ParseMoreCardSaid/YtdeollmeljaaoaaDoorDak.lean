import Derived.Test.YtdeollmeljaaoaaDoorCjk
import Derived.Test.YtdeollmeljaaoaaDoorQzk
set_option linter.unusedVariables false
set_option linter.unusedSimpArgs false
set_option maxHeartbeats 4000000
set_option maxRecDepth 100000
open Go.ChangeAt Go.ChangeShapes Go.RowKit Go.WideShapes
open Go.Lib (hid)
namespace Go.Proofs.YtdeollmeljaaoaaDoor.rd
open Go.Proofs.YtdeollmeljaaoaaDoor.cs
theorem st_ne {a b : ByteArray} (h : ¬ a = b) : (a.toList == b.toList) = false := by
 rw [ByteArray.toList_eq, ByteArray.toList_eq, beq_eq_false_iff_ne]
 intro e
 obtain ⟨a⟩ := a
 obtain ⟨b⟩ := b
 exact h (congrArg ByteArray.mk (Array.toList_inj.1 e))
theorem heap_lt {w : World} {B : Nat} {o : Obj} (h : w.heap[B]? = some o) : B < w.heap.size := (Array.getElem?_eq_some_iff.1 h).1
theorem bx3 {w : World} {B : Nat} {x y z : Value} {T : TypeId} (h : w.heap[B]? = some (.cells #[x, y, z] T (0, 0))) :
  w.cell? ⟨B, 0, none⟩ = some x ∧ w.cell? ⟨B, 1, none⟩ = some y ∧ w.cell? ⟨B, 2, none⟩ = some z ∧ w.frozen? ⟨B, 0, none⟩ = false ∧ w.frozen? ⟨B, 1, none⟩ = false ∧ w.frozen? ⟨B, 2, none⟩ = false := by
 refine ⟨?_, ?_, ?_, ?_, ?_, ?_⟩ <;> (simp only [World.cell?, World.frozen?]; rw [h]; rfl)
theorem st3 {w0 w : World} {A R : Nat} {x y z : Value} {T : TypeId} (hb : Below A w0 w) (hA : A ≤ R) (h : w.heap[R]? = some (.cells #[x, y, z] T (0, 0))) (a b c : Value) :
  Below A w0 (((w.setCell ⟨R, 0, none⟩ a).setCell ⟨R, 1, none⟩ b).setCell ⟨R, 2, none⟩ c) ∧ (((w.setCell ⟨R, 0, none⟩ a).setCell ⟨R, 1, none⟩ b).setCell ⟨R, 2, none⟩ c).cell? ⟨R, 0, none⟩ = some a ∧ (((w.setCell ⟨R, 0, none⟩ a).setCell ⟨R, 1, none⟩ b).setCell ⟨R, 2, none⟩ c).cell? ⟨R, 1, none⟩ = some b ∧ (((w.setCell ⟨R, 0, none⟩ a).setCell ⟨R, 1, none⟩ b).setCell ⟨R, 2, none⟩ c).cell? ⟨R, 2, none⟩ = some c := by
 have h0 := Lib.heap_setCell_same (i := 0) h a
 have h1 := Lib.heap_setCell_same (i := 1) h0 b
 have h2 := Lib.heap_setCell_same (i := 2) h1 c
 have b2 := ((hb.setCell (p := ⟨R, 0, none⟩) hA a).setCell (p := ⟨R, 1, none⟩) hA b).setCell (p := ⟨R, 2, none⟩) hA c
 have h3 : (((w.setCell ⟨R, 0, none⟩ a).setCell ⟨R, 1, none⟩ b).setCell ⟨R, 2, none⟩ c).heap[R]? = some (.cells #[a, b, c] T (0, 0)) := by simpa using h2
 refine ⟨b2, ?_, ?_, ?_⟩ <;> (simp only [World.cell?]; rw [h3]; rfl)
structure But (B : Nat) (w w' : World) : Prop where
 os : w'.os = w.os
 tape : w'.tape = w.tape
 output : w'.output = w.output
 size : w.heap.size ≤ w'.heap.size
 block : ∀ k, k < w.heap.size → k ≠ B → w'.heap[k]? = w.heap[k]?
theorem But.of {B : Nat} {w w' : World} (h : Below w.heap.size w w') : But B w w' := ⟨h.os, h.tape, h.output, h.size, fun k hk _ => h.block k hk⟩
theorem But.trans {B : Nat} {a b c : World} (h : But B a b) (g : But B b c) : But B a c :=
 ⟨g.os.trans h.os, g.tape.trans h.tape, g.output.trans h.output, Nat.le_trans h.size g.size, fun k hk hn => (g.block k (Nat.lt_of_lt_of_le hk h.size) hn).trans (h.block k hk hn)⟩
theorem But.below {A B : Nat} {w0 w w' : World} (h : But B w w') (hb : Below A w0 w) (hA : A ≤ B) (hs : A ≤ w.heap.size) : Below A w0 w' :=
 ⟨h.os.trans hb.os, h.tape.trans hb.tape, h.output.trans hb.output, Nat.le_trans hb.size h.size, fun k hk => (h.block k (by omega) (by omega)).trans (hb.block k hk)⟩
theorem But.set (w : World) (B i : Nat) (v : Value) : But B w (w.setCell ⟨B, i, none⟩ v) := by
 have h := (Below.refl 0 w).setCell (p := ⟨B, i, none⟩) (Nat.zero_le _) v
 exact ⟨h.os, h.tape, h.output, h.size, fun k hk hn => Below.heap_setCell _ _ _ _ hn⟩
theorem rd_but {B : Nat} {w w' : World} {s n : Nat} {v : Value} {xs : List Value} (h : Rd w s n v xs) (hb : But B w w') (hP : ∀ a cap, v = .slice (some a) n cap → 0 < n → a.block ≠ B) (hs : 0 < s) : Rd w' s n v xs := by
 obtain ⟨h1, ao, cap, h2, h3, h4, h5, h6⟩ := h
 refine ⟨h1, ao, cap, h2, h3, h4, h5, fun a ha j u hu => ?_⟩
 have hn : 0 < n := by
  rcases Nat.eq_zero_or_pos n with h0 | h0
  ·subst h0
   have := (List.getElem?_eq_some_iff.1 hu).1
   omega
  ·exact h0
 subst ha
 have hne := hP a cap h2 hn
 have h8 := h6 a rfl j u hu
 have he : (a.add j).block = a.block := by
  obtain ⟨b, o, s⟩ := a
  simp only [Addr.add]
  split <;> rfl
 have hl : (a.add j).block < w.heap.size := by
  unfold World.cell? at h8
  split at h8
  ·rename_i hh
   exact heap_lt hh
  all_goals first | exact absurd h8 (by simp) | (rename_i hh; exact heap_lt hh)
 unfold World.cell? at h8 ⊢
 rw [hb.block _ hl (by rw [he]; exact hne)]
 exact h8
structure Rdr (w : World) (B : Nat) (a : Option Addr) (n c : Nat) (L : List Tk) (k : Nat) (ov : Value) : Prop where
 box : w.heap[B]? = some (.cells #[.slice a n c, .int .i64 (k : Int), ov] 71 (0, 0))
 row : Rd w 3 n (.slice a n c) (tkc L)
 le : k ≤ n
 sm : n ≤ 100
 ne : ∀ x, a = some x → 0 < n → x.block ≠ B
theorem Rdr.below {w w' : World} {B : Nat} {a : Option Addr} {n c : Nat} {L : List Tk} {k : Nat} {ov : Value} (h : Rdr w B a n c L k ov) (hb : Below w.heap.size w w') : Rdr w' B a n c L k ov :=
 ⟨(hb.block B (heap_lt h.box)).trans h.box, h.row.below hb, h.le, h.sm, h.ne⟩
theorem Rdr.cells {w : World} {B : Nat} {a : Option Addr} {n c : Nat} {L : List Tk} {k : Nat} {ov : Value} (h : Rdr w B a n c L k ov) :
  w.cell? ⟨B, 0, none⟩ = some (.slice a n c) ∧ w.cell? ⟨B, 1, none⟩ = some (.int .i64 (k : Int)) ∧ w.cell? ⟨B, 2, none⟩ = some ov ∧ w.frozen? ⟨B, 0, none⟩ = false ∧ w.frozen? ⟨B, 1, none⟩ = false ∧ w.frozen? ⟨B, 2, none⟩ = false := bx3 h.box
abbrev tokV (t : Tk) : Value := .agg #[.int .i64 t.k, .string ⟨t.t.toArray⟩, .int .i64 t.n]
theorem now_any (w : World) (B : Nat) (a : Option Addr) (n c : Nat) (L : List Tk) (k : Nat) (ov : Value) (h : Rdr w B a n c L k ov) :
  Calls Tryd.prog 72 #[.pointer (some ⟨B, 0, none⟩)] w fun e w' => e = .returned (tokV (L.getD k tk0)) ∧ Below w.heap.size w w' := by
 obtain ⟨x0, x1, x2, f0, f1, f2⟩ := h.cells
 have hlt : B < w.heap.size := heap_lt h.box
 have hml := len_t h.row
 have hle := h.le
 have hsm := h.sm
 by_cases hk : k = n
 ·have e : L.getD k tk0 = tk0 := by simp [List.getD, List.getElem?_eq_none (show L.length ≤ k by omega)]
  rw [e]
  clear h hml hle
  subst hk
  go_enter Tryd.func72, Tryd.ntmps72
  go_wp2_with fail
  go_quiet (fail)
  go_wp2_with fail
  obtain ⟨hb3, r0, r1, r2⟩ := st3 (w0 := w) (w := (w.alloc (.cells #[.int .i64 0, .string ⟨#[]⟩, .int .i64 0] 45)).drewN (nq)) (R := w.heap.size) (((Below.refl _ _).alloc (Nat.le_refl _) _).trans ((below_drewN _ _).mono (by simp))) (Nat.le_refl _) (((below_drewN (w.alloc (.cells #[.int .i64 0, .string ⟨#[]⟩, .int .i64 0] 45)) _).block w.heap.size (by simp)).trans (new0 _ _)) (.int .i64 0) (.string ⟨#[]⟩) (.int .i64 0)
  refine bodyPost_ret (v := tokV tk0) (by simp [results, Tryd.results72, go_sem, r0, r1, r2, tk0]; try rfl) rfl ?_
  exact ⟨rfl, hb3⟩
 ·obtain ⟨_, b, o, cap, he, _, _, hbw, hcell⟩ := toks_of h.row (by omega)
  simp only [Value.slice.injEq, true_and] at he
  obtain ⟨rfl, rfl⟩ := he
  obtain ⟨g0, g1, g2⟩ := hcell k (by omega)
  obtain ⟨u, hu⟩ : ∃ u, u = L.getD k tk0 := ⟨_, rfl⟩
  rw [← hu] at g0 g1 g2 ⊢
  clear hcell hu h hml
  obtain ⟨uk, ut, un⟩ := u
  simp only [tokV] at g0 g1 g2 ⊢
  obtain ⟨us, hus⟩ : ∃ us : ByteArray, us = ⟨ut.toArray⟩ := ⟨_, rfl⟩
  rw [← hus] at g1 ⊢
  clear hus
  go_enter Tryd.func72, Tryd.ntmps72
  go_wp2_with fail
  go_quiet (fail)
  go_wp2_with fail
  go_region
  go_wp2_with fail
  obtain ⟨hb3, r0, r1, r2⟩ := st3 (w0 := w) (w := (w.alloc (.cells #[.int .i64 0, .string ⟨#[]⟩, .int .i64 0] 45)).drewN (nq + 1)) (R := w.heap.size) (((Below.refl _ _).alloc (Nat.le_refl _) _).trans ((below_drewN _ _).mono (by simp))) (Nat.le_refl _) (((below_drewN (w.alloc (.cells #[.int .i64 0, .string ⟨#[]⟩, .int .i64 0] 45)) _).block w.heap.size (by simp)).trans (new0 _ _)) (.int .i64 uk) (.string us) (.int .i64 un)
  refine bodyPost_ret (v := .agg #[.int .i64 uk, .string us, .int .i64 un]) (by simp [results, Tryd.results72, go_sem, r0, r1, r2]; try rfl) rfl ?_
  exact ⟨rfl, hb3⟩
def mayB (L : List Tk) (k : Nat) (s : ByteArray) : Bool := ((L.getD k tk0).k == 1 || (L.getD k tk0).k == 4) && decide ((⟨(L.getD k tk0).t.toArray⟩ : ByteArray) = s)
theorem may_lt {L : List Tk} {k : Nat} {s : ByteArray} (h : mayB L k s = true) : k < L.length := by
 by_cases hk : k < L.length
 ·exact hk
 ·exfalso
  unfold mayB at h
  rw [show L.getD k tk0 = tk0 by simp [List.getD, List.getElem?_eq_none (show L.length ≤ k by omega)]] at h
  simp [tk0] at h
theorem Rdr.step {w : World} {B : Nat} {a : Option Addr} {n c : Nat} {L : List Tk} {k : Nat} {ov : Value} (h : Rdr w B a n c L k ov) (k' : Nat) (hk : k' ≤ n) : Rdr (w.setCell ⟨B, 1, none⟩ (.int .i64 (k' : Int))) B a n c L k' ov :=
 ⟨by simpa using Lib.heap_setCell_same (i := 1) h.box (.int .i64 (k' : Int)), rd_but h.row (But.set _ _ _ _) (fun x cap e hn => h.ne x (by cases e; rfl) hn) (by omega), hk, h.sm, h.ne⟩
theorem may_any (w : World) (B : Nat) (a : Option Addr) (n c : Nat) (L : List Tk) (k : Nat) (ov : Value) (h : Rdr w B a n c L k ov) (s : ByteArray) :
  Calls Tryd.prog 50 #[.pointer (some ⟨B, 0, none⟩), .string s] w fun e w' => e = .returned (.bool (mayB L k s)) ∧ Rdr w' B a n c L (if mayB L k s then k + 1 else k) ov ∧ But B w w' := by
 have HN := hid (now_any w B a n c L k ov h)
 have hml := len_t h.row
 have HR : Hid (∀ w1, Below w.heap.size w w1 → Rdr w1 B a n c L k ov) := fun w1 hb => h.below hb
 have HST : Hid (mayB L k s = true → ∀ w1, Below w.heap.size w w1 → Rdr (w1.setCell ⟨B, 1, none⟩ (.int .i64 ((k : Int) + 1))) B a n c L (k + 1) ov) := fun hm w1 hb => by
  have := (h.below hb).step (k + 1) (by have := may_lt hm; omega)
  rwa [show ((k + 1 : Nat) : Int) = (k : Int) + 1 by omega] at this
 have hle := h.le
 have hsm := h.sm
 have hlt := heap_lt h.box
 clear hml
 obtain ⟨m, hm⟩ : ∃ m, m = mayB L k s := ⟨_, rfl⟩
 rw [← hm] at HST ⊢
 unfold mayB at hm
 obtain ⟨u, hu⟩ : ∃ u, u = L.getD k tk0 := ⟨_, rfl⟩
 rw [← hu] at HN hm
 clear hu h
 obtain ⟨uk, ut, un⟩ := u
 simp only [tokV] at HN hm
 obtain ⟨us, hus⟩ : ∃ us : ByteArray, us = ⟨ut.toArray⟩ := ⟨_, rfl⟩
 rw [← hus] at HN hm
 clear hus
 have HM := hid hm
 clear hm
 go_enter Tryd.func50, Tryd.ntmps50
 go_wp2_with fail
 refine HN.out.mono ?_
 rintro e w1 ⟨rfl, hb1⟩
 obtain ⟨x0, x1, x2, f0, f1, f2⟩ := (HR.out w1 hb1).cells
 have hl1 := hb1.size
 have hB1 : B < w1.heap.size := by omega
 have hne : ¬ B = w1.heap.size := by omega
 have hbw : Below w1.heap.size w1 (w1.alloc (.cells #[.int .i64 uk, .string us, .int .i64 un] 45)) := (Below.refl _ _).alloc (Nat.le_refl _) _
 have HB2 : Hid (Below w.heap.size w (w1.alloc (.cells #[.int .i64 uk, .string us, .int .i64 un] 45))) := hb1.trans (hbw.mono hl1)
 have x1' : (w1.alloc (.cells #[.int .i64 uk, .string us, .int .i64 un] 45)).cell? ⟨B, 1, none⟩ = some (.int .i64 (k : Int)) := (hbw.cell (p := ⟨B, 1, none⟩) hB1).trans x1
 have HB1 := hid hb1
 clear hb1 hbw
 by_cases kk : uk = 1 ∨ uk = 4
 ·by_cases hs : us = s
  ·subst hs
   obtain rfl : m = true := by rw [HM.out]; rcases kk with rfl | rfl <;> simp
   have HS := (HST.out rfl _ HB1.out).below ((Below.refl _ _).alloc (Nat.le_refl _) (.cells #[.int .i64 uk, .string us, .int .i64 un] 45))
   rcases kk with rfl | rfl
   all_goals
    go_wp2_with fail
    go_returns
    exact ⟨rfl, HS, ((But.of HB1.out).trans (But.set _ _ _ _)).trans (But.of ((Below.refl _ _).alloc (Nat.le_refl _) _))⟩
  ·obtain rfl : m = false := by rw [HM.out]; simp [hs]
   have hse : (us.toList == s.toList) = false := st_ne hs
   have HS := HR.out _ HB2.out
   rcases kk with rfl | rfl
   all_goals
    go_wp2_with fail
    go_returns
    exact ⟨rfl, HS, But.of HB2.out⟩
 ·obtain ⟨q1, q4⟩ : ¬ uk = 1 ∧ ¬ uk = 4 := by omega
  obtain rfl : m = false := by rw [HM.out]; simp [q1, q4]
  have HS := HR.out _ HB2.out
  have q1n : (uk != 1) = true := by simpa using q1
  have q4n : (uk != 4) = true := by simpa using q4
  go_wp2_with fail
  go_returns
  exact ⟨rfl, HS, But.of HB2.out⟩
open Go.Proofs.YtdeollmeljaaoaaDoor.cs
abbrev flt (p e : Int) : Ending := .panicked [{ v := .iface 69 (.agg #[.int .i64 p, .int .i64 e]), recovered := false }]
theorem giveUp_any (w : World) (B : Nat) (a : Option Addr) (n c : Nat) (L : List Tk) (k : Nat) (ov : Value) (h : Rdr w B a n c L k ov) (q : Int) :
  Calls Tryd.prog 58 #[.pointer (some ⟨B, 0, none⟩), .int .i64 q] w fun e w' => e = flt k (if k = n then 7 else q) ∧ Below w.heap.size w w' := by
 obtain ⟨x0, x1, x2, f0, f1, f2⟩ := h.cells
 have hlt := heap_lt h.box
 have hle := h.le
 have hsm := h.sm
 clear h
 by_cases hk : k = n
 ·subst hk
  rw [if_pos rfl]
  go_enter Tryd.func58, Tryd.ntmps58
  go_wp2_with fail
  go_quiet (fail)
  go_wp2_with fail
  exact ⟨rfl, rfl, below_drewN _ _⟩
 ·rw [if_neg hk]
  have hkn : ((k : Int) == (n : Int)) = false := by simp; omega
  go_enter Tryd.func58, Tryd.ntmps58
  go_wp2_with fail
  go_quiet (fail)
  go_wp2_with fail
  exact ⟨rfl, rfl, below_drewN _ _⟩
theorem giveBack_any (w : World) (B : Nat) (a : Option Addr) (n c : Nat) (L : List Tk) (k : Nat) (ov : Value) (h : Rdr w B a n c L k ov) (q : Int) :
  Calls Tryd.prog 75 #[.pointer (some ⟨B, 0, none⟩), .int .i64 q] w fun e w' => e = flt ((k : Int) - 1) q ∧ Below w.heap.size w w' := by
 obtain ⟨x0, x1, x2, f0, f1, f2⟩ := h.cells
 have hlt := heap_lt h.box
 have hle := h.le
 have hsm := h.sm
 clear h
 go_enter Tryd.func75, Tryd.ntmps75
 go_wp2_with fail
 exact ⟨rfl, rfl, Below.refl _ _⟩
end Go.Proofs.YtdeollmeljaaoaaDoor.rd

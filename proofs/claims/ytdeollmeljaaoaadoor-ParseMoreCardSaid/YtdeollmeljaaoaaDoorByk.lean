import Derived.Test.YtdeollmeljaaoaaDoorOfk
set_option linter.unusedVariables false
set_option linter.unusedSimpArgs false
set_option maxHeartbeats 8000000
set_option maxRecDepth 100000
open Go.ChangeAt Go.ChangeShapes Go.Joins Go.RowKit Go.WideShapes
open Go.Lib (hid)
namespace Go.Proofs.YtdeollmeljaaoaaDoor.rd
open Go.Proofs.YtdeollmeljaaoaaDoor.cs Go.Proofs.YtdeollmeljaaoaaDoor.tw
def stdC : List Cq := [⟨⟨#[105, 100]⟩, 2⟩, ⟨⟨#[110]⟩, 2⟩, ⟨⟨#[115]⟩, 3⟩, ⟨⟨#[98]⟩, 1⟩]
theorem colsOf_any (w : World) : Calls Tryd.prog 18 #[] w fun e w' => ∃ a c, e = .returned (.slice a 4 c) ∧ w'.ownsRow w.heap.size 75 2 (.slice a 4 c) 4 (ccs stdC) ∧ Below w.heap.size w w' := by
 go_enter Tryd.func18, Tryd.ntmps18
 go_wp2_with fail
 go_returns
 refine ⟨_, _, rfl, ?_, (Below.refl _ _).alloc (Nat.le_refl _) _⟩
 exact World.ownsRow_lit (base := w.heap.size) w #[.string ⟨#[105, 100]⟩, .int .i64 2, .string ⟨#[110]⟩, .int .i64 2, .string ⟨#[115]⟩, .int .i64 3, .string ⟨#[98]⟩, .int .i64 1] 4 (Nat.le_refl _) (by unfold maxLen; omega) rfl
theorem wordOf_any (w : World) (f : Ph) (h : PhR w f) : Calls Tryd.prog 21 #[phV f] w fun e w' => ∃ t : ByteArray, e = .returned (.string t) ∧ t.size ≤ maxLen ∧ Below w.heap.size w w' := by
 obtain ⟨l, hr, hz⟩ := h.row
 have hl : f.rn = l.length := by have := hr.1; rw [vc_length] at this; omega
 clear h
 obtain ⟨kd, tb, a, b, ra, rn, rc, tk, tn, ts, ta, tm, tc, wk, wn, ws, wa, wm, wc, br⟩ := f
 dsimp only at hr hl
 by_cases h0 : rn = 0
 ·subst h0
  have hx : (1 : Nat) ≤ maxLen := by unfold maxLen; omega
  have hb1 : Below w.heap.size w (w.alloc (.cells (phC ⟨kd, tb, a, b, ra, 0, rc, tk, tn, ts, ta, tm, tc, wk, wn, ws, wa, wm, wc, br⟩) 27)) := (Below.refl _ _).alloc (Nat.le_refl _) _
  have x4 : (w.alloc (.cells (phC ⟨kd, tb, a, b, ra, 0, rc, tk, tn, ts, ta, tm, tc, wk, wn, ws, wa, wm, wc, br⟩) 27)).cell? ⟨w.heap.size, 4, none⟩ = some (.slice ra 0 rc) := (box14 (new0 _ _)).2.2.2.2.1
  have HB := hid hb1
  clear hr hz hl hb1
  go_enter Tryd.func21, Tryd.ntmps21
  go_wp2_with fail
  go_returns
  exact ⟨⟨#[120]⟩, rfl, hx, HB.out⟩
 ·obtain ⟨rb, ro, rc', hrr, -, -, hrw, hrc⟩ := hr.pos (by omega) (by omega)
  simp only [Value.slice.injEq, true_and] at hrr
  obtain ⟨rfl, rfl⟩ := hrr
  obtain ⟨u, l', rfl⟩ : ∃ u l', l = u :: l' := by
   cases l with
   | nil => exact absurd hl h0
   | cons u l' => exact ⟨u, l', rfl⟩
  have c2 : w.cell? ⟨rb, ro + 2, none⟩ = some (.string u.t) := hrc 2 _ rfl
  have hu := hz u (by simp)
  have hpos : 0 < (rn : Int) := by omega
  have hpos' : 0 < rn := by omega
  have hmax := hr.len
  unfold maxLen at hmax
  have hb1 : Below w.heap.size w (w.alloc (.cells (phC ⟨kd, tb, a, b, some ⟨rb, ro, none⟩, rn, rc, tk, tn, ts, ta, tm, tc, wk, wn, ws, wa, wm, wc, br⟩) 27)) := (Below.refl _ _).alloc (Nat.le_refl _) _
  have x4 : (w.alloc (.cells (phC ⟨kd, tb, a, b, some ⟨rb, ro, none⟩, rn, rc, tk, tn, ts, ta, tm, tc, wk, wn, ws, wa, wm, wc, br⟩) 27)).cell? ⟨w.heap.size, 4, none⟩ = some (.slice (some ⟨rb, ro, none⟩) rn rc) := (box14 (new0 _ _)).2.2.2.2.1
  have d2 := (hb1.cell (p := ⟨rb, ro + 2, none⟩) (lt_cell c2)).trans c2
  have HB := hid hb1
  clear hr hrc hz hl hb1 c2 hrw h0
  go_enter Tryd.func21, Tryd.ntmps21
  go_wp2_with fail
  go_returns
  exact ⟨u.t, rfl, hu, HB.out⟩
def truV (n : Int) : V := if pck n 3 = 2 then ⟨0, 0, ⟨#[]⟩⟩ else ⟨1, pck n 3, ⟨#[]⟩⟩
theorem truth_any (n : Int) (w : World) (hn : Rn n) : Calls Tryd.prog 22 #[.int .i64 n] w fun e w' => e = .returned (.agg #[.int .i64 (truV n).k, .int .i64 (truV n).n, .string (truV n).t]) ∧ Below w.heap.size w w' := by
 have HP : Hid (∀ W, Calls Tryd.prog 14 #[.int .i64 n, .int .i64 3] W fun e w' => e = .returned (.int .i64 (pck n 3)) ∧ W = w') := fun W => pck_any n 3 W hn (by omega) (by omega)
 have HT : Hid (truV n = if pck n 3 = 2 then ⟨0, 0, ⟨#[]⟩⟩ else ⟨1, pck n 3, ⟨#[]⟩⟩) := rfl
 obtain ⟨q, hq⟩ : ∃ q, q = pck n 3 := ⟨_, rfl⟩
 rw [← hq] at HP HT
 by_cases h2 : q = 2
 ·have e : truV n = ⟨0, 0, ⟨#[]⟩⟩ := by rw [HT.out, if_pos h2]
  rw [e]
  clear HT e hq
  go_enter Tryd.func22, Tryd.ntmps22
  go_wp2_with fail
  refine (HP.out _).mono ?_
  rintro e w1 ⟨rfl, rfl⟩
  go_wp2_with fail
  refine body_nm (fun W' hW => ?_)
  have hR : W'.heap[w.heap.size]? = some (.cells #[.int .i64 0, .int .i64 0, .string ⟨#[]⟩] 50 (0, 0)) := by rw [hW]; exact new0 _ _
  have hb : Below w.heap.size w W' := by rw [hW]; exact (Below.refl _ _).alloc (Nat.le_refl _) _
  obtain ⟨r0, r1, r2, -⟩ := bx3 hR
  refine bodyPost_ret (v := .agg #[.int .i64 0, .int .i64 0, .string ⟨#[]⟩]) (by simp [results, Tryd.results22, go_sem, r0, r1, r2]; try rfl) rfl ?_
  exact ⟨rfl, hb⟩
 ·have e : truV n = ⟨1, q, ⟨#[]⟩⟩ := by rw [HT.out, if_neg h2]
  rw [e]
  clear HT e hq
  go_enter Tryd.func22, Tryd.ntmps22
  go_wp2_with fail
  refine (HP.out _).mono ?_
  rintro e w1 ⟨rfl, rfl⟩
  go_wp2_with fail
  refine (HP.out _).mono ?_
  rintro e w1 ⟨rfl, rfl⟩
  go_wp2_with fail
  refine body_nm (fun W' hW => ?_)
  have hR : W'.heap[w.heap.size]? = some (.cells #[.int .i64 1, .int .i64 q, .string ⟨#[]⟩] 50 (0, 0)) := by rw [hW]; exact new0 _ _
  have hb : Below w.heap.size w W' := by rw [hW]; exact (Below.refl _ _).alloc (Nat.le_refl _) _
  obtain ⟨r0, r1, r2, -⟩ := bx3 hR
  refine bodyPost_ret (v := .agg #[.int .i64 1, .int .i64 q, .string ⟨#[]⟩]) (by simp [results, Tryd.results22, go_sem, r0, r1, r2]; try rfl) rfl ?_
  exact ⟨rfl, hb⟩
open Go.Proofs.YtdeollmeljaaoaaDoor.cs Go.Proofs.YtdeollmeljaaoaaDoor.tw
def ps0 : Ps := ⟨none, 0, 0, none, 0, 0, none, 0, 0, none, 0, 0, none, 0, 0⟩
def sqB (k : Int) (t : ByteArray) : Sq := ⟨k, t, [], [], [], false, [], ⟨#[]⟩, false, -1, ⟨#[]⟩, []⟩
structure Sv (f : Ph) (P S R E : Nat) (s : Sq) (p : Ps) (w0 w : World) : Prop where
 ph : w.heap[P]? = some (.cells (phC f) 27 (0, 0))
 bx : w.heap[S]? = some (.cells (stC s p) 33 (0, 0))
 rs : w.heap[R]? = some (.cells (stC ⟨0, ⟨#[]⟩, [], [], [], false, [], ⟨#[]⟩, false, 0, ⟨#[]⟩, []⟩ ps0) 33 (0, 0))
 ow : StO w E s p
 hb : Below w0.heap.size w0 w
 wf : (w0.heap.size ≤ P ∧ w0.heap.size ≤ S ∧ w0.heap.size ≤ R) ∧ (P ≠ S ∧ R ≠ S ∧ P ≠ R) ∧ S < E ∧ w0.heap.size ≤ E ∧ E ≤ w.heap.size
theorem Sv.go {f : Ph} {P S R E : Nat} {s : Sq} {p : Ps} {w0 w w' : World} (h : Sv f P S R E s p w0 w) (hb : Below w.heap.size w w') : Sv f P S R E s p w0 w' :=
 ⟨(hb.block _ (blk_lt h.ph)).trans h.ph, (hb.block _ (blk_lt h.bx)).trans h.bx, (hb.block _ (blk_lt h.rs)).trans h.rs, h.ow.far fun k hk hl => hb.block k hl, h.hb.trans (hb.mono h.hb.size), h.wf.1, h.wf.2.1, h.wf.2.2.1, h.wf.2.2.2.1, Nat.le_trans h.wf.2.2.2.2 hb.size⟩
theorem Sv.put {f : Ph} {P S R E : Nat} {s s' : Sq} {p p' : Ps} {w0 w : World} (h : Sv f P S R E s p w0 w) (i : Nat) (v : Value) (hc : (stC s p).setIfInBounds i v = stC s' p') (ho : StO w E s' p') : Sv f P S R E s' p' w0 (w.setCell ⟨S, i, none⟩ v) := by
 have far : ∀ k, k ≠ S → (w.setCell ⟨S, i, none⟩ v).heap[k]? = w.heap[k]? := fun k hk => Below.heap_setCell _ _ _ _ hk
 have hz : (w.setCell ⟨S, i, none⟩ v).heap.size = w.heap.size := by simp
 refine ⟨(far _ h.wf.2.1.1).trans h.ph, ?_, (far _ h.wf.2.1.2.1).trans h.rs, ho.far fun k hk hl => far k (by have := h.wf.2.2.1; omega), h.hb.setCell (p := ⟨S, i, none⟩) h.wf.1.2.1 v, h.wf.1, h.wf.2.1, h.wf.2.2.1, h.wf.2.2.2.1, by rw [hz]; exact h.wf.2.2.2.2⟩
 have := Lib.heap_setCell_same (i := i) h.bx v
 rw [hc] at this
 exact this
theorem own_nil {w : World} {E : Nat} (e : TypeId) (n : Nat) : w.ownsRow E e n (.slice none 0 0) 0 [] := ⟨by simp, .inl ⟨rfl, rfl⟩⟩
theorem StO.nil {w : World} {E : Nat} {k lim : Int} {t o e : ByteArray} {c d : Bool} : StO w E ⟨k, t, [], [], [], c, [], o, d, lim, e, []⟩ ps0 := ⟨own_nil _ _, own_nil _ _, own_nil _ _, own_nil _ _, own_nil _ _⟩
def StmtIs (w : World) (e : Ending) (w' : World) : Prop := ∃ s p, e = .returned (stV s p) ∧ StR w' s p ∧ st0 s = 0 ∧ SqZ s ∧ s.lim ≤ 9223372036854775807 ∧ Below w.heap.size w w'
end Go.Proofs.YtdeollmeljaaoaaDoor.rd

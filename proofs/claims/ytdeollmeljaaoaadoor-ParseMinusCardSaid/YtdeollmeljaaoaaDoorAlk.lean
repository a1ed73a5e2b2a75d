import Derived.Test.YtdeollmeljaaoaaDoorAjk
/- What stands in lists: columns, values, names. -/
namespace Go.Proofs.YtdeollmeljaaoaaDoor.rd
open Go.ChangeShapes Go.WideShapes Go.ChangeAt Go.RowKit Go.Proofs.YtdeollmeljaaoaaDoor.cs
set_option linter.unusedVariables false
set_option linter.unusedSimpArgs false
set_option maxHeartbeats 4000000
set_option maxRecDepth 100000
theorem info_col : (Tryd.prog.info? 75).map (fun i => (i.zero, i.size, i.bytes)) = some (some (.agg #[.string ⟨#[]⟩, .int .i64 0]), 2, 24) := by kernel_rfl
theorem info_val : (Tryd.prog.info? 50).map (fun i => (i.zero, i.size, i.bytes)) = some (some (.agg #[.int .i64 0, .int .i64 0, .string ⟨#[]⟩]), 3, 32) := by kernel_rfl
theorem info_str : (Tryd.prog.info? 9).map (fun i => (i.zero, i.size, i.bytes)) = some (some (.string ⟨#[]⟩), 1, 16) := by kernel_rfl
theorem kd_ix0 (w : World) : (Instr.index 101 (.agg kdC) (.int .i64 (0 : Int))).run Tryd.prog w = .ok kdC[0]! w := by kernel_rfl
theorem kd_ix1 (w : World) : (Instr.index 101 (.agg kdC) (.int .i64 (1 : Int))).run Tryd.prog w = .ok kdC[1]! w := by kernel_rfl
theorem kd_ix2 (w : World) : (Instr.index 101 (.agg kdC) (.int .i64 (2 : Int))).run Tryd.prog w = .ok kdC[2]! w := by kernel_rfl
theorem kd_ix3 (w : World) : (Instr.index 101 (.agg kdC) (.int .i64 (3 : Int))).run Tryd.prog w = .ok kdC[3]! w := by kernel_rfl
theorem kd_ix (j : Nat) (hj : j < 4) (w : World) : (Instr.index 101 (.agg kdC) (.int .i64 (j : Int))).run Tryd.prog w = .ok (.string ⟨(kwL.getD j (0, [])).2.toArray⟩) w := by
  match j, hj with
  | 0, _ => exact kd_ix0 w
  | 1, _ => exact kd_ix1 w
  | 2, _ => exact kd_ix2 w
  | 3, _ => exact kd_ix3 w
theorem kw_drop (j : Nat) (hj : j < 4) : kwL.drop j = (j, (kwL.getD j (0, [])).2) :: kwL.drop (j + 1) := by
  match j, hj with
  | 0, _ => rfl
  | 1, _ => rfl
  | 2, _ => rfl
  | 3, _ => rfl
section
variable {B S E P Q : Nat} {a : Option Addr} {n c : Nat} {L : List Tk}
def kindR (n k : Nat) (km : Option Nat) : F ⊕ (Nat × Nat) := match km with
  | some q => .inr (q, k + 1)
  | none => .inl (fl n k 6)
theorem skind {w : World} {k : Nat} (h : Rs w B a n c L k) :
    Calls Tryd.prog 76 #[.pointer (some ⟨B, 0, none⟩)] w fun e w' => But B w w' ∧ match kindG L n k with
      | .inl f => e = flt f.1 f.2
      | .inr (q, k') => e = .returned (.int .i64 (q : Int)) ∧ Rs w' B a n c L k' := by
  have HMY : Hid (∀ W s, Rs W B a n c L k → Calls Tryd.prog 50 #[.pointer (some ⟨B, 0, none⟩), .string s] W fun e w' => e = .returned (.bool (mayB L k s)) ∧ But B W w' ∧ Rs w' B a n c L (if mayB L k s then k + 1 else k)) := fun W s hx => smay hx s
  have HGV : Hid (∀ W, Rs W B a n c L k → Calls Tryd.prog 58 #[.pointer (some ⟨B, 0, none⟩), .int .i64 6] W fun e w' => e = flt (fl n k 6).1 (fl n k 6).2 ∧ But B W w') := fun W hx => sgive hx 6
  have HS0 := Lib.hid h
  obtain ⟨ct, cf, hco⟩ := h.tb.d
  have HCO := Lib.hid hco
  obtain ⟨CA, hCA⟩ : ∃ CA, CA = kdC := ⟨_, rfl⟩
  have HIX : Hid (∀ j : Nat, j < 4 → ∀ w : World, (Instr.index 101 (.agg CA) (.int .i64 (j : Int))).run Tryd.prog w = .ok (.string ⟨(kwL.getD j (0, [])).2.toArray⟩) w) := fun j hj w => by rw [hCA]; exact kd_ix j hj w
  obtain ⟨r, hr⟩ : ∃ r, r = kindG L n k := ⟨_, rfl⟩
  rw [← hr]
  obtain ⟨km, hkm⟩ : ∃ km, km = kindF L k kwL := ⟨_, rfl⟩
  have HR : Hid (r = kindR n k km) := by show _ = _; rw [hr, hkm]; rfl
  have HK0 : Hid (km = kindF L k (kwL.drop 0)) := hkm
  clear hr hkm hco h
  go_enter Tryd.func76, Tryd.ntmps76
  go_wp2_with (refine wpList_load_row rfl _ _ rfl _ rfl _ _ _ _ HCO.out Tryd.underlying101 rfl (by kernel_rfl) ?_)
  rw [← hCA]
  clear hCA
  go_loopw [6] (fun i wr => ∃ j : Nat, j ≤ 4 ∧ i = .int .i64 (j : Int) ∧ Hid (km = kindF L k (kwL.drop j)) ∧ Hid (But B w wr) ∧ Hid (Rs wr B a n c L k)) (fun i _ => 4 - (intOf i).toNat)
  case atStart => exact ⟨0, by omega, rfl, HK0, But.of (Below.refl _ _), HS0⟩
  case round =>
    obtain ⟨j, hj, rfl, HQ, HX, HS⟩ := hrel
    by_cases hlt : j < 4
    · have HIJ := HIX.out j hlt
      have hq := HQ.out
      rw [kw_drop j hlt] at hq
      unfold kindF at hq
      simp only at hq
      obtain ⟨sg, hsg⟩ : ∃ sg : ByteArray, sg = ⟨(kwL.getD j (0, [])).2.toArray⟩ := ⟨_, rfl⟩
      rw [← hsg] at HIJ hq
      have HM0 := HMY.out wr sg HS.out
      obtain ⟨mm, hmm⟩ : ∃ mm, mm = mayB L k sg := ⟨_, rfl⟩
      rw [← hmm] at HM0 hq
      have HQ1 := Lib.hid hq
      have HM := Lib.hid HM0
      clear hq HQ HIX hsg hmm HM0
      cases mm with
      | false =>
        have HQ4 : Hid (km = kindF L k (kwL.drop (j + 1))) := HQ1.out
        go_wp2_with fail
        refine HM.out.mono ?_
        rintro e w4 ⟨rfl, hX4, hx4⟩
        have hx4 : Rs w4 B a n c L k := hx4
        have HX4 := Lib.hid (HX.out.trans hX4)
        have HS4 := Lib.hid hx4
        clear hX4 hx4 HM
        go_wp2_with fail
        go_roundw
        case rel => exact ⟨j + 1, by omega, by go_num, HQ4, HX4, HS4⟩
        case measure => simp [intOf]; omega
      | true =>
        obtain rfl : km = some j := HQ1.out
        obtain rfl : r = .inr (j, k + 1) := HR.out
        clear HR HQ1 HK0
        go_wp2_with fail
        refine HM.out.mono ?_
        rintro e w4 ⟨rfl, hX4, hx4⟩
        have hx4 : Rs w4 B a n c L (k + 1) := hx4
        have HX4 := Lib.hid (HX.out.trans hX4)
        have HS4 := Lib.hid hx4
        clear hX4 hx4 HM
        go_wp2_with fail
        go_returns
        exact ⟨HX4.out, rfl, HS4.out⟩
    · obtain rfl : j = 4 := by omega
      obtain rfl : km = none := HQ.out
      obtain rfl : r = .inl (fl n k 6) := HR.out
      have HG := Lib.hid (HGV.out wr HS.out)
      clear HIX HK0 HS0 HR
      go_wp2_with fail
      refine HG.out.mono ?_
      rintro e w4 ⟨rfl, hX4⟩
      exact ⟨rfl, HX.out.trans hX4, rfl⟩
/-- A closure's two boxes: where the reader lies, where the statement lies. -/
structure Cl (W : World) (B S E P Q : Nat) (a : Option Addr) (n c : Nat) (L : List Tk) (k : Nat) (s : Sq) (p : Ps) : Prop where
  ss : Ss W B S E a n c L k s p
  bp : W.heap[P]? = some (.cells #[.pointer (some ⟨B, 0, none⟩)] 91 (0, 0))
  bq : W.heap[Q]? = some (.cells #[.pointer (some ⟨S, 0, none⟩)] 93 (0, 0))
  pb : P ≠ B
  ps : P ≠ S
  qb : Q ≠ B
  qs : Q ≠ S
theorem Cl.go {w w' : World} {k k' : Nat} {s : Sq} {p : Ps} (h : Cl w B S E P Q a n c L k s p) (hN : But B w w') (hr : Rs w' B a n c L k') : Cl w' B S E P Q a n c L k' s p :=
  ⟨h.ss.go hN hr, (hN.block P (blk_lt h.bp) h.pb).trans h.bp, (hN.block Q (blk_lt h.bq) h.qb).trans h.bq, h.pb, h.ps, h.qb, h.qs⟩
theorem Cl.later {w w' : World} {k : Nat} {s : Sq} {p : Ps} (h : Cl w B S E P Q a n c L k s p) (hb : Below w.heap.size w w') : Cl w' B S E P Q a n c L k s p := h.go (But.of hb) (h.ss.rs.later hb)
theorem bx1 {w : World} {B : Nat} {x : Value} {T : TypeId} (h : w.heap[B]? = some (.cells #[x] T (0, 0))) : w.cell? ⟨B, 0, none⟩ = some x := by
  simp only [World.cell?]; rw [h]; rfl
/-- A list that has grown, stored into the statement. -/
theorem Cl.grown {w w7 : World} {k : Nat} {s s' : Sq} {p p' : Ps} {row : Option Nat} (h : Cl w B S E P Q a n c L k s p) (hg : w.grownBy w7 row) (hrow : ∀ g, row = some g → E ≤ g ∧ ∃ cs T fr, Grows T ∧ w.heap[g]? = some (.cells cs T fr)) (i : Nat) (v : Value) (hc : (stC s p).setIfInBounds i v = stC s' p') (ho : StO w7 E s' p') : Cl (w7.setCell ⟨S, i, none⟩ v) B S E P Q a n c L k s' p' := by
  have hX : ButS B S E w w7 := ⟨hg.os, hg.tape, hg.output, hg.size, fun j hj hn hs ht => hg.block j hj (fun e => by
    obtain ⟨h1, cs, T, fr, h2, h3⟩ := hrow j e.symm
    rcases ht with h4 | h4
    · omega
    · exact h4 _ _ _ h2 h3)⟩
  have hlo : ∀ j, j < E → j < w.heap.size → w7.heap[j]? = w.heap[j]? := fun j hj hl => hg.block j hl (fun e => by
    have := (hrow j e.symm).1
    omega)
  have hrs : Rs w7 B a n c L k := by
    obtain ⟨⟨ov, hr⟩, h1, h2, h3⟩ := h.ss.rs
    refine ⟨⟨ov, (hlo B h.ss.lb (heap_lt hr.box)).trans hr.box, ?_, hr.le, hr.sm, hr.ne⟩, h1.any h2 fun j hj hl => hlo j (by have := h.ss.lb; omega) hl, h2, h3⟩
    obtain ⟨q1, ao, cap, q2, q3, q4, q5, q6⟩ := hr.row
    refine ⟨q1, ao, cap, q2, q3, q4, q5, fun x hx j u hu => ?_⟩
    have hcell := q6 x hx j u hu
    simp only [Value.slice.injEq, true_and] at q2
    obtain ⟨q2, rfl⟩ := q2
    subst q2
    have hn : 0 < n := by
      rcases Nat.eq_zero_or_pos n with h0 | h0
      · subst h0
        have := (List.getElem?_eq_some_iff.1 hu).1
        omega
      · exact h0
    have he : (x.add j).block = x.block := by
      obtain ⟨b, o, s⟩ := x
      simp only [Addr.add]
      split <;> rfl
    have hl := lt_cell hcell
    unfold World.cell? at hcell ⊢
    rw [hlo _ (by rw [he]; exact (h.ss.tok x hx hn).2) hl]
    exact hcell
  have hN := But.set w7 S i v
  have hbS : w7.heap[S]? = some (.cells (stC s p) 33 (0, 0)) := (hlo S h.ss.ls (blk_lt h.ss.box)).trans h.ss.box
  have hk : ∀ j (cs : Array Value) (T : TypeId), ¬ Grows T → j ≠ B → j ≠ S → w.heap[j]? = some (.cells cs T (0, 0)) → (w7.setCell ⟨S, i, none⟩ v).heap[j]? = some (.cells cs T (0, 0)) := fun j cs T hT h1 h2 h3 => (hN.block j (blk_lt (hX.keep h1 h2 hT h3)) h2).trans (hX.keep h1 h2 hT h3)
  refine ⟨⟨hrs.far hN h.ss.ne (fun x e hn => (h.ss.tok x e hn).1) h.ss.off, ?_, ho.far fun j hj hl => hN.block j hl (by have := h.ss.ls; omega), h.ss.ne, h.ss.tok, h.ss.off, h.ss.lb, h.ss.ls, Nat.le_trans h.ss.le (Nat.le_trans hg.size hN.size)⟩, hk P _ _ (by unfold Grows; decide) h.pb h.ps h.bp, hk Q _ _ (by unfold Grows; decide) h.qb h.qs h.bq, h.pb, h.ps, h.qb, h.qs⟩
  rw [← hc]
  exact Lib.heap_setCell_same hbS v
end
end Go.Proofs.YtdeollmeljaaoaaDoor.rd

import Derived.Test.YtdeollmeljaaoaaDoorAhk
set_option linter.unusedVariables false
set_option linter.unusedSimpArgs false
set_option maxHeartbeats 4000000
set_option maxRecDepth 100000
open Go.ChangeAt Go.ChangeShapes Go.RowKit Go.WideShapes
open Go.Lib (hid)
namespace Go.Proofs.YtdeollmeljaaoaaDoor.rd
open Go.Proofs.YtdeollmeljaaoaaDoor.cs
def Lg (g : R) : Prop := ∀ k os k' os', g k os = .inr (k', os') → os.length ≤ os'.length
theorem put_lg (o : Oq) : Lg (putF o) := by
 intro k os k' os' h
 unfold putF at h
 split at h
 ·cases h
 ·cases h
  simp
theorem loop_lg {L : List Tk} {g : R} (hg : Lg g) (ks : List Nat) : ∀ u, Lg (loopC L g ks u)
 | 0 => fun k os k' os' h => by cases h; exact Nat.le_refl _
 | u + 1 => fun k os k' os' h => by
  unfold loopC at h
  split at h
  ·cases h; exact Nat.le_refl _
  ·obtain ⟨x, h1, h2⟩ := bd_ok h
   obtain ⟨y, h3, h4⟩ := bd_ok h2
   have e1 := hg _ _ x.1 x.2 h1
   have e2 := put_lg _ _ _ y.1 y.2 h3
   have e3 := loop_lg hg ks u _ _ _ _ h4
   omega
theorem chain_lg {L : List Tk} {g : R} (hg : Lg g) (ks : List Nat) : Lg (chainF L g ks) := fun k os k' os' h => by
 obtain ⟨x, h1, h2⟩ := bd_ok h
 exact Nat.le_trans (hg _ _ x.1 x.2 h1) (loop_lg hg ks _ _ _ _ _ h2)
theorem compare_lg (q : Nat) (nt : Bool) : Lg (compareF q nt) := fun k os k' os' h => by
 obtain ⟨x, h1, h2⟩ := bd_ok h
 have e1 := put_lg _ _ _ x.1 x.2 h1
 split at h2
 ·exact Nat.le_trans e1 (put_lg _ _ _ _ _ h2)
 ·cases h2; exact e1
theorem denied_lg {L : List Tk} {g : R} (hg : Lg g) : ∀ u, Lg (deniedF L g u)
 | 0 => hg
 | u + 1 => fun k os k' os' h => by
  unfold deniedF at h
  split at h
  ·obtain ⟨x, h1, h2⟩ := bd_ok h
   have e1 := denied_lg hg u _ _ x.1 x.2 h1
   have e2 := put_lg _ _ _ _ _ h2
   omega
  ·exact hg _ _ _ _ h
theorem isF_lg (L : List Tk) (n : Nat) : Lg (isF L n) := fun k os k' os' h => by
 unfold isF at h
 split at h
 ·split at h
  ·exact compare_lg _ _ _ _ _ _ h
  ·cases h
 ·split at h
  ·exact compare_lg _ _ _ _ _ _ h
  ·cases h
theorem turn_len {a b : Nat} {os : List Oq} (h1 : a ≤ b) (h2 : b ≤ os.length) : (turnF a b os).length = os.length := by
 unfold turnF
 simp only [List.length_append, List.length_take, List.length_drop]
 omega
theorem comparison_lg {L : List Tk} {n : Nat} {g : R} (hg : Lg g) : Lg (comparisonF L n g) := fun k os k' os' h => by
 obtain ⟨x, h1, h2⟩ := bd_ok h
 have e1 := hg _ _ x.1 x.2 h1
 split at h2
 ·have := isF_lg L n _ _ _ _ h2; omega
 ·split at h2
  ·cases h2; exact e1
  ·rename_i c hc
   obtain ⟨y, h3, h4⟩ := bd_ok h2
   have e2 := hg _ _ y.1 y.2 h3
   have e3 := compare_lg _ _ _ _ _ _ h4
   split at e3
   ·rw [turn_len e1 e2] at e3; omega
   ·omega
theorem leaf_lg (L : List Tk) (n : Nat) : Lg (leafF L n) := fun k os k' os' h => by
 obtain ⟨⟨x, k1⟩, h1, h2⟩ := bd_ok h
 cases x with
 | some v => exact put_lg _ _ _ _ _ h2
 | none =>
  obtain ⟨y, h3, h4⟩ := bd_ok h2
  exact put_lg _ _ _ _ _ h4
theorem thing_lg {L : List Tk} {n : Nat} {g : R} (hg : Lg g) : Lg (thingF L n g) := fun k os k' os' h => by
 unfold thingF at h
 split at h
 ·obtain ⟨x, h1, h2⟩ := bd_ok h
  have e1 := hg _ _ x.1 x.2 h1
  split at h2
  ·cases h2; exact e1
  ·cases h2
 ·exact leaf_lg L n _ _ _ _ h
theorem either_lg {L : List Tk} {n : Nat} {g : R} (hg : Lg g) : Lg (eitherF L n g) := chain_lg (chain_lg (denied_lg (comparison_lg (chain_lg (chain_lg (thing_lg hg) _) _)) _) _) _
theorem eithD_lg (L : List Tk) (n : Nat) : ∀ d, Lg (eithD L n d)
 | 0 => fun k os k' os' h => by cases h; exact Nat.le_refl _
 | d + 1 => fun k os k' os' h => either_lg (eithD_lg L n d) k os k' os' h
theorem cmp_ix0 (w : World) : (Instr.index 133 (.agg cmC) (.int .i64 (0 : Int))).run Tryd.prog w = .ok (.agg #[cmC[0]!, cmC[1]!, cmC[2]!, cmC[3]!]) w := by kernel_rfl
theorem cmp_ix1 (w : World) : (Instr.index 133 (.agg cmC) (.int .i64 (1 : Int))).run Tryd.prog w = .ok (.agg #[cmC[4]!, cmC[5]!, cmC[6]!, cmC[7]!]) w := by kernel_rfl
theorem cmp_ix2 (w : World) : (Instr.index 133 (.agg cmC) (.int .i64 (2 : Int))).run Tryd.prog w = .ok (.agg #[cmC[8]!, cmC[9]!, cmC[10]!, cmC[11]!]) w := by kernel_rfl
theorem cmp_ix3 (w : World) : (Instr.index 133 (.agg cmC) (.int .i64 (3 : Int))).run Tryd.prog w = .ok (.agg #[cmC[12]!, cmC[13]!, cmC[14]!, cmC[15]!]) w := by kernel_rfl
theorem cmp_ix4 (w : World) : (Instr.index 133 (.agg cmC) (.int .i64 (4 : Int))).run Tryd.prog w = .ok (.agg #[cmC[16]!, cmC[17]!, cmC[18]!, cmC[19]!]) w := by kernel_rfl
theorem cmp_ix5 (w : World) : (Instr.index 133 (.agg cmC) (.int .i64 (5 : Int))).run Tryd.prog w = .ok (.agg #[cmC[20]!, cmC[21]!, cmC[22]!, cmC[23]!]) w := by kernel_rfl
theorem cmp_ix (j : Nat) (hj : j < 6) (w : World) : (Instr.index 133 (.agg cmC) (.int .i64 (j : Int))).run Tryd.prog w = .ok (.agg #[.string ⟨(cmL.getD j ⟨[], 0, false, false⟩).s.toArray⟩, .int .i64 ((cmL.getD j ⟨[], 0, false, false⟩).q : Int), .bool (cmL.getD j ⟨[], 0, false, false⟩).tn, .bool (cmL.getD j ⟨[], 0, false, false⟩).nt]) w := by
 match j, hj with
 | 0, _ => exact cmp_ix0 w
 | 1, _ => exact cmp_ix1 w
 | 2, _ => exact cmp_ix2 w
 | 3, _ => exact cmp_ix3 w
 | 4, _ => exact cmp_ix4 w
 | 5, _ => exact cmp_ix5 w
theorem cmp_drop (j : Nat) (hj : j < 6) : cmL.drop j = cmL.getD j ⟨[], 0, false, false⟩ :: cmL.drop (j + 1) := by
 match j, hj with
 | 0, _ => rfl
 | 1, _ => rfl
 | 2, _ => rfl
 | 3, _ => rfl
 | 4, _ => rfl
 | 5, _ => rfl
theorem ocs_take : ∀ (l : List Oq) (k : Nat), ocs (l.take k) = (ocs l).take (k * 5)
 | [], k => by simp [ocs]
 | o :: l, 0 => by simp [ocs]
 | o :: l, k + 1 => by
  have e : (k + 1) * 5 = k * 5 + 1 + 1 + 1 + 1 + 1 := by omega
  rw [e]
  simp [ocs, ocs_take l k]
theorem ocs_drop : ∀ (l : List Oq) (k : Nat), ocs (l.drop k) = (ocs l).drop (k * 5)
 | [], k => by simp [ocs]
 | o :: l, 0 => by simp [ocs]
 | o :: l, k + 1 => by
  have e : (k + 1) * 5 = k * 5 + 1 + 1 + 1 + 1 + 1 := by omega
  rw [e]
  simp [ocs, ocs_drop l k]
theorem turn_call (W : World) (b : Nat) (ob : Option Addr) (N oc fi se : Nat) (os : List Oq) (h : Rd W 5 N (.slice ob N oc) (ocs os)) (hN : N = os.length) (h1 : fi ≤ se) (h2 : se ≤ N) (h40 : N ≤ 40)
  (hb : W.heap[b]? = some (.cells #[.slice ob fi oc, .slice (if oc = se then ob else ob.map fun x => x.add (se * 5)) (N - se) (oc - se), .slice (if oc = fi then ob else ob.map fun x => x.add (fi * 5)) (se - fi) (oc - fi)] 31 (0, 0))) :
  Calls Tryd.prog 96 #[.slice (some ⟨b, 0, none⟩) 3 3] W fun e w' => ∃ va vc, e = .returned (.slice va (turnF fi se os).length vc) ∧ w'.ownsRow W.heap.size 54 5 (.slice va (turnF fi se os).length vc) (turnF fi se os).length (ocs (turnF fi se os)) ∧ Below W.heap.size W w' := by
 have e : ptl [⟨.slice ob fi oc, os.take fi⟩, ⟨.slice (if oc = se then ob else ob.map fun x => x.add (se * 5)) (N - se) (oc - se), os.drop se⟩, ⟨.slice (if oc = fi then ob else ob.map fun x => x.add (fi * 5)) (se - fi) (oc - fi), (os.take se).drop fi⟩] = turnF fi se os := by simp [ptl, turnF]
 have hr : Rd W 1 3 (.slice (some ⟨b, 0, none⟩) 3 3) [.slice ob fi oc, .slice (if oc = se then ob else ob.map fun x => x.add (se * 5)) (N - se) (oc - se), .slice (if oc = fi then ob else ob.map fun x => x.add (fi * 5)) (se - fi) (oc - fi)] := rd_new hb (by simp)
 have r1 := h.take fi (by omega)
 have r2 := h.drop se h2
 have r3 := (h.take se h2).drop fi h1
 rw [← ocs_take] at r1 r3
 rw [← ocs_drop] at r2 r3
 refine (concat_op W 3 _ [⟨_, os.take fi⟩, ⟨_, os.drop se⟩, ⟨_, (os.take se).drop fi⟩] (by omega) (by omega) hr ?_ (by rw [e, turn_len h1 (by omega)]; omega)).mono ?_
 ·intro p hp
  simp only [List.mem_cons, List.not_mem_nil, or_false] at hp
  rcases hp with rfl | rfl | rfl
  ·simpa [show min fi os.length = fi by omega] using r1
  ·simpa [← hN, sliced] using r2
  ·simpa [show min se os.length = se by omega, sliced] using r3
 ·rintro e' w' ⟨v, rfl, ho, hb⟩
  rw [e] at ho
  obtain ⟨_, x, y, rfl, _⟩ := Rd.own ho
  exact ⟨x, y, rfl, ho, hb⟩
theorem exthen_nm {K : Act → World → Prop} {Q : Exit → Act → World → Prop} {e : Exit} {a : Act} {w : World} (h : ∀ W, W = w → Exit.then K Q e a W) : Exit.then K Q e a w := h w rfl
section
variable {B E : Nat} {a : Option Addr} {n c : Nat} {L : List Tk}
theorem Xs.sl {w : World} {k : Nat} {os : List Oq} (h : Xs w B E a n c L k os) : ∃ ob oc, w.cell? ⟨B, 2, none⟩ = some (.slice ob os.length oc) ∧ Rdr w B a n c L k (.slice ob os.length oc) ∧ w.ownsRow E 54 5 (.slice ob os.length oc) os.length (ocs os) := by
 obtain ⟨⟨ov, hr, ho⟩, _⟩ := h
 obtain ⟨_, x, y, rfl, _⟩ := Rd.own ho
 exact ⟨x, y, hr.cells.2.2.1, hr, ho⟩
theorem comparison_any {k0 : Nat} {g : R} (hg : Rt B E a n c L k0 94 g) (hu : Up g) (hl : Lg g) : Rt B E a n c L k0 93 (comparisonF L n g) := by
 intro w k os hk h
 have hBE := h.lt
 have hEw := h.le
 have HMY : Hid (∀ W k os s, Xs W B E a n c L k os → Calls Tryd.prog 50 #[.pointer (some ⟨B, 0, none⟩), .string s] W fun e w' => e = .returned (.bool (mayB L k s)) ∧ ButX B E W w' ∧ Xs w' B E a n c L (if mayB L k s then k + 1 else k) os) := fun W k os s hx => xmay hx s
 have HCM : Hid (∀ W k os q nt, Xs W B E a n c L k os → Calls Tryd.prog 95 #[.pointer (some ⟨B, 0, none⟩), .int .i64 ((q : Nat) : Int), .bool nt] W (Ex W B E a n c L (compareF q nt k os))) := fun W k os q nt hx => compare_any hx q nt
 have HMU : Hid (∀ W w2 k2 os2, Xs w2 B E a n c L k2 os2 → W = w2.alloc (.cells #[.string sNULL] 9) → Calls Tryd.prog 52 #[.pointer (some ⟨B, 0, none⟩), .slice (some ⟨w2.heap.size, 0, none⟩) 1 1] W fun e w' => ButX B E w2 w' ∧ match mustF L n k2 [sNULL] with
  | .inl f => e = flt f.1 f.2
  | .inr k' => e = .returned (.tuple #[]) ∧ Xs w' B E a n c L k' os2) := fun W w2 k2 os2 hx hW => by
   have hb : Below w2.heap.size w2 W := by rw [hW]; exact (Below.refl _ _).alloc (Nat.le_refl _) _
   refine (xmust (ts := [sNULL]) (b := w2.heap.size) (hx.later hb) (by rw [hW]; exact new0 _ _) (by have := hx.lt; have := hx.le; omega) (by simp) (by simp)).mono ?_
   rintro e w' ⟨h1, h2⟩
   exact ⟨(ButX.of E hb).trans h1, h2⟩
 have HG : Hid (∀ W k os, k0 ≤ k → Xs W B E a n c L k os → Calls Tryd.prog 94 #[.pointer (some ⟨B, 0, none⟩)] W (Ex W B E a n c L (g k os))) := fun W k os hk hx => hg W k os hk hx
 obtain ⟨ob, oc, x2, hR, hO⟩ := h.sl
 have hfew := h.few
 obtain ⟨r, hr⟩ : ∃ r, r = comparisonF L n g k os := ⟨_, rfl⟩
 rw [← hr]
 obtain ⟨r1, hr1⟩ : ∃ r1, r1 = g k os := ⟨_, rfl⟩
 have HR : Hid (r = bd r1 fun x => if mayB L x.1 sIS then isF L n (x.1 + 1) x.2 else match cmpF L x.1 cmL with
  | none => .inr x
  | some c => bd (g (x.1 + 1) x.2) fun y => compareF c.q c.nt y.1 (if c.tn then turnF os.length x.2.length y.2 else y.2)) := by
  show _ = _
  rw [hr, hr1]
  rfl
 have HC := HG.out w k os hk h
 rw [← hr1] at HC
 have HC := hid HC
 have HUL : Hid (∀ k' os', r1 = .inr (k', os') → k ≤ k' ∧ os.length ≤ os'.length) := fun k' os' e => ⟨hu k os k' os' (by rw [← hr1]; exact e), hl k os k' os' (by rw [← hr1]; exact e)⟩
 have HU := hid (And.intro hu hl)
 clear hr hr1 hR hO h hg hu hl
 obtain ⟨fi, hfi⟩ : ∃ fi, fi = os.length := ⟨_, rfl⟩
 rw [← hfi] at x2 hfew HR HUL
 have HFI := hid hfi
 clear hfi
 go_enter Tryd.func93, Tryd.ntmps93
 go_wp2_with fail
 refine HC.out.mono ?_
 rintro e w1 ⟨hX1, h1⟩
 have HX1 := hid hX1
 clear hX1 HC x2
 rcases r1 with f0 | ⟨k1, os1⟩
 ·obtain rfl : e = flt f0.1 f0.2 := h1
  obtain rfl : r = .inl f0 := HR.out
  exact ⟨rfl, HX1.out, rfl⟩
 ·obtain ⟨rfl, hx1⟩ := h1
  have HR1 : Hid (r = if mayB L k1 sIS then isF L n (k1 + 1) os1 else match cmpF L k1 cmL with
   | none => .inr (k1, os1)
   | some c => bd (g (k1 + 1) os1) fun y => compareF c.q c.nt y.1 (if c.tn then turnF fi os1.length y.2 else y.2)) := HR.out
  have HK1 := hid (HUL.out k1 os1 rfl)
  have HM := xmay hx1 sIS
  have HS1 := hid hx1
  clear HR HUL hx1
  by_cases hm : mayB L k1 sIS = true
  ·rw [hm] at HM
   have HR2 : Hid (r = isF L n (k1 + 1) os1) := by show _ = _; rw [HR1.out, if_pos hm]
   have HM := hid HM
   clear HR1 hm HS1
   go_wp2_with fail
   refine HM.out.mono ?_
   rintro e w2 ⟨rfl, hX2, hx2⟩
   have hx2 : Xs w2 B E a n c L (k1 + 1) os1 := hx2
   have HX2 := hid (HX1.out.trans hX2)
   have HM3 := HMY.out w2 (k1 + 1) os1 sNOT hx2
   clear hX2 hx2 HM HX1
   obtain ⟨nt, hnt⟩ : ∃ nt, nt = mayB L (k1 + 1) sNOT := ⟨_, rfl⟩
   rw [← hnt] at HM3
   have HM3 := hid HM3
   have HNT := hid hnt
   clear hnt
   go_wp2_with fail
   refine HM3.out.mono ?_
   rintro e w3 ⟨rfl, hX3, hx3⟩
   have HX3 := hid (HX2.out.trans hX3)
   obtain ⟨k3, hk3⟩ : ∃ k3, k3 = if nt = true then k1 + 1 + 1 else k1 + 1 := ⟨_, rfl⟩
   have hx3 : Xs w3 B E a n c L k3 os1 := by rw [hk3]; exact hx3
   have HMU2 := hid (fun W => HMU.out W w3 k3 os1 hx3)
   have HR3 : Hid (r = if mayB L k3 sNULL then compareF 11 nt (k3 + 1) os1 else .inl (fl n k3 6)) := by
    show _ = _
    rw [HR2.out, hk3]
    unfold isF
    rw [← HNT.out]
    cases nt <;> rfl
   clear hX3 hx3 HM3 HX2 hk3 HNT HR2 HMU
   go_wp2_with fail
   refine calls_nm (fun W hW => ?_)
   have HM4 := hid (HMU2.out W hW)
   clear hW HMU2
   refine HM4.out.mono ?_
   rintro e w4 ⟨hX4, h4⟩
   have HX4 := hid (HX3.out.trans hX4)
   clear hX4 HM4
   unfold mustF at h4
   by_cases hm2 : mayB L k3 sNULL = true
   ·rw [if_pos hm2] at h4
    obtain ⟨rfl, hx4⟩ := h4
    have HC4 := hid (HCM.out w4 (k3 + 1) os1 11 nt hx4)
    have HR4 : Hid (r = compareF 11 nt (k3 + 1) os1) := by show _ = _; rw [HR3.out, if_pos hm2]
    rw [← HR4.out] at HC4
    clear hx4 HR3 HR4 hm2
    go_wp2_with fail
    refine HC4.out.mono ?_
    rintro e w5 ⟨hX5, h5⟩
    have HX5 := hid (HX4.out.trans hX5)
    clear hX5 HC4
    rcases r with f0 | ⟨k5, os5⟩
    ·obtain rfl : e = flt f0.1 f0.2 := h5
     exact ⟨rfl, HX5.out, rfl⟩
    ·obtain ⟨rfl, hx5⟩ := h5
     have HS5 := hid hx5
     clear hx5
     go_wp2_with fail
     go_returns
     exact ⟨HX5.out, rfl, HS5.out⟩
   ·rw [if_neg hm2] at h4
    obtain rfl : r = .inl (fl n k3 6) := by rw [HR3.out, if_neg hm2]
    obtain rfl : e = flt (fl n k3 6).1 (fl n k3 6).2 := h4
    exact ⟨rfl, HX4.out, rfl⟩
  ·have hm : mayB L k1 sIS = false := by simpa using hm
   rw [hm] at HM
   have HR2 : Hid (r = match cmpF L k1 cmL with
    | none => .inr (k1, os1)
    | some c => bd (g (k1 + 1) os1) fun y => compareF c.q c.nt y.1 (if c.tn then turnF fi os1.length y.2 else y.2)) := by show _ = _; rw [HR1.out, if_neg (by simp [hm])]
   have HM := hid HM
   clear HR1 hm HS1
   go_wp2_with fail
   refine HM.out.mono ?_
   rintro e w2 ⟨rfl, hX2, hx2⟩
   have hx2 : Xs w2 B E a n c L k1 os1 := hx2
   have HX2 := hid (HX1.out.trans hX2)
   have HS2 := hid hx2
   obtain ⟨ct, cf, hco⟩ := hx2.tb.x
   clear hX2 hx2 HM HX1
   have HCO := hid hco
   clear hco
   obtain ⟨CA, hCA⟩ : ∃ CA, CA = cmC := ⟨_, rfl⟩
   have HIX : Hid (∀ j : Nat, j < 6 → ∀ w : World, (Instr.index 133 (.agg CA) (.int .i64 (j : Int))).run Tryd.prog w = .ok (.agg #[.string ⟨(cmL.getD j ⟨[], 0, false, false⟩).s.toArray⟩, .int .i64 ((cmL.getD j ⟨[], 0, false, false⟩).q : Int), .bool (cmL.getD j ⟨[], 0, false, false⟩).tn, .bool (cmL.getD j ⟨[], 0, false, false⟩).nt]) w) := fun j hj w => by rw [hCA]; exact cmp_ix j hj w
   go_wp2_with (refine wpList_load_row rfl _ _ rfl _ rfl _ _ _ _ HCO.out Tryd.underlying133 rfl (by kernel_rfl) ?_)
   rw [← hCA]
   clear hCA
   obtain ⟨cm, hcm⟩ : ∃ cm, cm = cmpF L k1 cmL := ⟨_, rfl⟩
   rw [← hcm] at HR2
   have HCM0 : Hid (cm = cmpF L k1 (cmL.drop 0)) := hcm
   clear hcm
   go_loopw [25] (fun i wr => ∃ j : Nat, j ≤ 6 ∧ i = .int .i64 (j : Int) ∧ Hid (cm = cmpF L k1 (cmL.drop j)) ∧ Hid (ButX B E w wr) ∧ Hid (Xs wr B E a n c L k1 os1)) (fun i _ => 6 - (intOf i).toNat)
   case atStart => exact ⟨0, by omega, rfl, HCM0, HX2, HS2⟩
   case round =>
    obtain ⟨j, hj, rfl, HQ, HX, HS⟩ := hrel
    by_cases hlt : j < 6
    ·have HIJ := HIX.out j hlt
     have hq := HQ.out
     rw [cmp_drop j hlt] at hq
     obtain ⟨cj, hcj⟩ : ∃ cj, cj = cmL.getD j ⟨[], 0, false, false⟩ := ⟨_, rfl⟩
     rw [← hcj] at HIJ hq
     obtain ⟨cs, cq, ct, cn⟩ := cj
     unfold cmpF at hq
     simp only at HIJ hq
     obtain ⟨sg, hsg⟩ : ∃ sg : ByteArray, sg = ⟨cs.toArray⟩ := ⟨_, rfl⟩
     rw [← hsg] at HIJ hq
     have HQ1 := hid hq
     have HSG := hid hsg
     clear hcj hq HQ HIX hsg
     go_wp2_with fail
     refine calls_nm (fun W hW => ?_)
     have hb : Below wr.heap.size wr W := by rw [hW]; exact (Below.refl _ _).alloc (Nat.le_refl _) _
     have hbx : W.heap[wr.heap.size]? = some (.cells #[.string sg, .int .i64 (cq : Int), .bool ct, .bool cn] 132 (0, 0)) := by rw [hW]; exact new0 _ _
     have HBX := hid hbx
     have HXW := hid (HX.out.trans (ButX.of E hb))
     have hxw := HS.out.later hb
     have hnB : Hid (wr.heap.size ≠ B) := by have := HS.out.lt; have := HS.out.le; show _ ≠ _; omega
     have HM4 := HMY.out W k1 os1 sg hxw
     obtain ⟨mm, hmm⟩ : ∃ mm, mm = mayB L k1 sg := ⟨_, rfl⟩
     rw [← hmm] at HM4
     have HM4 := hid HM4
     have HMM := hid hmm
     clear hb hbx hxw hmm hW
     refine HM4.out.mono ?_
     rintro e w4 ⟨rfl, hX4, hx4⟩
     have HX4 := hid (HXW.out.trans hX4)
     have hbx4 := hX4.keep hnB.out (by decide) HBX.out
     have HBX4 := hid hbx4
     obtain ⟨y0, y1, y2, y3⟩ := bx4 hbx4
     clear hX4 HM4 hbx4
     cases mm with
     | false =>
      have hx4 : Xs w4 B E a n c L k1 os1 := hx4
      have HS4 := hid hx4
      have HQ4 : Hid (cm = cmpF L k1 (cmL.drop (j + 1))) := by show _ = _; rw [HQ1.out, ← HMM.out]; rfl
      clear hx4 y0 y1 y2 y3
      go_wp2_with fail
      go_roundw
      case rel => exact ⟨j + 1, by omega, by go_num, HQ4, HX4, HS4⟩
      case measure => simp [intOf]; omega
     | true =>
      have hx4 : Xs w4 B E a n c L (k1 + 1) os1 := hx4
      have HS4 := hid hx4
      obtain rfl : cm = some ⟨cs, cq, ct, cn⟩ := by rw [HQ1.out, ← HMM.out]; rfl
      have HR4 : Hid (r = bd (g (k1 + 1) os1) fun y => compareF cq cn y.1 (if ct then turnF fi os1.length y.2 else y.2)) := HR2.out
      obtain ⟨ob4, oc4, z2, hR4, hO4⟩ := hx4.sl
      have hf4 := hx4.few
      have HC4 := HG.out w4 (k1 + 1) os1 (by have := HK1.out; omega) hx4
      obtain ⟨r4, hr4⟩ : ∃ r4, r4 = g (k1 + 1) os1 := ⟨_, rfl⟩
      rw [← hr4] at HR4 HC4
      have HL4 : Hid (∀ k' os', r4 = .inr (k', os') → os1.length ≤ os'.length) := fun k' os' e => HU.out.2 (k1 + 1) os1 k' os' (by rw [← hr4]; exact e)
      have HC4 := hid HC4
      obtain ⟨se, hse⟩ : ∃ se, se = os1.length := ⟨_, rfl⟩
      have hfs : fi ≤ se := by rw [hse]; exact HK1.out.2
      rw [← hse] at z2 hf4 HR4 HL4
      clear hx4 hR4 hO4 hr4 HR2 HQ1 HIJ y0 y1 y2 y3 hse
      go_wp2_with fail
      refine HC4.out.mono ?_
      rintro e w5 ⟨hX5, h5⟩
      have HX5 := hid (HX4.out.trans hX5)
      have hbx5 := hX5.keep hnB.out (by decide) HBX4.out
      have HBX5 := hid hbx5
      obtain ⟨y0, y1, y2, y3⟩ := bx4 hbx5
      clear hX5 HC4 hbx5 z2 HBX4
      rcases r4 with f0 | ⟨k5, os5⟩
      ·obtain rfl : e = flt f0.1 f0.2 := h5
       obtain rfl : r = .inl f0 := HR4.out
       exact ⟨rfl, HX5.out, rfl⟩
      ·obtain ⟨rfl, hx5⟩ := h5
       have hle5 := HL4.out k5 os5 rfl
       cases ct with
       | false =>
        have HC5 := HCM.out w5 k5 os5 cq cn hx5
        have HR5 : Hid (r = compareF cq cn k5 os5) := HR4.out
        rw [← HR5.out] at HC5
        have HC5 := hid HC5
        clear hx5 HR4 HR5 HL4
        go_wp2_with fail
        refine HC5.out.mono ?_
        rintro e w6 ⟨hX6, h6⟩
        have HX6 := hid (HX5.out.trans hX6)
        clear hX6 HC5
        rcases r with f0 | ⟨k6, os6⟩
        ·obtain rfl : e = flt f0.1 f0.2 := h6
         exact ⟨rfl, HX6.out, rfl⟩
        ·obtain ⟨rfl, hx6⟩ := h6
         have HS6 := hid hx6
         clear hx6
         go_wp2_with fail
         go_returns
         exact ⟨HX6.out, rfl, HS6.out⟩
       | true =>
        have HR5 : Hid (r = compareF cq cn k5 (turnF fi se os5)) := HR4.out
        clear HR4 HL4
        go_wp2_with fail
        obtain ⟨ob5, oc5, z2, hR5, hO5⟩ := hx5.sl
        have hf5 := hx5.few
        obtain ⟨N5, hN5⟩ : ∃ N5, N5 = os5.length := ⟨_, rfl⟩
        rw [← hN5] at z2 hf5 hle5 hR5 hO5
        have HN5 := hid hN5
        have HR5' := hid hR5
        have HO5 := hid hO5
        have HS5 := hid hx5
        obtain ⟨_, _, _, e5, hc1, hc2, hc3, hc4⟩ := Rd.own hO5
        simp only [Value.slice.injEq, true_and] at e5
        obtain ⟨rfl, rfl⟩ := e5
        unfold maxLen at hc2
        have HC3 := hid hc3
        have HLT : Hid (B < w5.heap.size) := blk_lt HR5'.out.box
        obtain ⟨a2, ha2⟩ : ∃ a2, a2 = if oc5 = se then ob5 else Option.map (fun x => x.add (se * 5)) ob5 := ⟨_, rfl⟩
        obtain ⟨a3, ha3⟩ : ∃ a3, a3 = if oc5 = fi then ob5 else Option.map (fun x => x.add (fi * 5)) ob5 := ⟨_, rfl⟩
        have HA2 := hid ha2
        have HA3 := hid ha3
        clear ha2 ha3
        have HCC : Hid (∀ W, Below w5.heap.size w5 W → W.heap[w5.heap.size]? = some (.cells #[.slice ob5 fi oc5, .slice a2 (N5 - se) (oc5 - se), .slice a3 (se - fi) (oc5 - fi)] 31 (0, 0)) → Calls Tryd.prog 96 #[.slice (some ⟨w5.heap.size, 0, none⟩) 3 3] W fun e w' => ∃ va vc, e = .returned (.slice va (turnF fi se os5).length vc) ∧ w'.ownsRow W.heap.size 54 5 (.slice va (turnF fi se os5).length vc) (turnF fi se os5).length (ocs (turnF fi se os5)) ∧ Below W.heap.size W w') := fun W hW hb => turn_call W w5.heap.size ob5 N5 oc5 fi se os5 ((Rd.own HO5.out).below hW) HN5.out hfs hle5 hf5 (by rw [← HA2.out, ← HA3.out]; exact hb)
        have hfc : fi ≤ oc5 := by omega
        have hsc : se ≤ oc5 := by omega
        have hfN : fi ≤ N5 := by omega
        clear hN5 hR5 hO5 hx5 y0 y1 y2 y3 hc3 hc4
        refine wpT_begin (S := (fun wx => wx.cell? ⟨B, 2, none⟩ = some (.slice ob5 N5 oc5))) [24] (by kernel_rfl) ?_ (fun gH => ?_)
        ·(try dsimp only)
         (first | (with_reducible exact cell_dr z2) | (exact cell_al _ (cell_dr z2)) | (exact s0))
        refine qP 0 _ ?_ rfl (.inl ⟨by rfl, ?_⟩) (fun _ => by assumption) ?_
        rotate_left
        ·(intro w hSw; go_simp)
         all_goals (with_reducible rfl)
        (try simp only [qs, Act.put])
        refine qP 1 _ ?_ rfl (.inl ⟨by rfl, ?_⟩) (fun _ => by assumption) ?_
        rotate_left
        ·(intro w hSw; go_simp)
         all_goals (with_reducible rfl)
        (try simp only [qs, Act.put])
        refine qP 2 _ ?_ rfl (.inl ⟨by rfl, ?_⟩) (fun _ => by assumption) ?_
        rotate_left
        ·(intro w hSw; go_simp)
         all_goals (with_reducible rfl)
        (try simp only [qs, Act.put])
        refine qP 3 _ ?_ rfl (.inl ⟨by rfl, ?_⟩) (fun _ => by assumption) ?_
        rotate_left
        ·(intro w hSw; go_simp)
         all_goals (with_reducible rfl)
        (try simp only [qs, Act.put])
        refine qT 4 _ ?_ rfl (.inl ⟨by rfl, ?_⟩) (by assumption) ?_
        rotate_left
        ·(intro w hSw; (try dsimp only at hSw); go_simp)
         all_goals (with_reducible rfl)
        (try simp only [qs, Act.put])
        refine qP 5 _ ?_ rfl (.inl ⟨by rfl, ?_⟩) (fun _ => by assumption) ?_
        rotate_left
        ·(intro w hSw; go_simp)
         all_goals (with_reducible rfl)
        (try simp only [qs, Act.put])
        refine qP 6 _ ?_ rfl (.inl ⟨by rfl, ?_⟩) (fun _ => by assumption) ?_
        rotate_left
        ·(intro w hSw; go_simp)
         all_goals (with_reducible rfl)
        (try simp only [qs, Act.put])
        refine qP 7 _ ?_ rfl (.inl ⟨by rfl, ?_⟩) (fun _ => by assumption) ?_
        rotate_left
        ·(intro w hSw; go_simp)
         all_goals (with_reducible rfl)
        (try simp only [qs, Act.put])
        refine qP 8 _ ?_ rfl (.inl ⟨by rfl, ?_⟩) (fun _ => by assumption) ?_
        rotate_left
        ·(intro w hSw; go_simp)
         all_goals (with_reducible rfl)
        (try simp only [qs, Act.put])
        refine qP 9 _ ?_ rfl (.inl ⟨by rfl, ?_⟩) (fun _ => by assumption) ?_
        rotate_left
        ·(intro w hSw; go_simp)
         all_goals (with_reducible rfl)
        (try simp only [qs, Act.put])
        refine qT 10 _ ?_ rfl (.inl ⟨by rfl, ?_⟩) (by assumption) ?_
        rotate_left
        ·(intro w hSw; (try dsimp only at hSw); go_simp)
         all_goals (with_reducible rfl)
        (try simp only [qs, Act.put])
        refine qP 11 _ ?_ rfl (.inl ⟨by rfl, ?_⟩) (fun _ => by assumption) ?_
        rotate_left
        ·(intro w hSw; go_simp)
         all_goals (with_reducible rfl)
        (try simp only [qs, Act.put])
        refine qP 12 _ ?_ rfl (.inl ⟨by rfl, ?_⟩) (fun _ => by assumption) ?_
        rotate_left
        ·(intro w hSw; go_simp)
         all_goals (with_reducible rfl)
        (try simp only [qs, Act.put])
        refine qP 13 _ ?_ rfl (.inl ⟨by rfl, ?_⟩) (fun _ => by assumption) ?_
        rotate_left
        ·(intro w hSw; go_simp)
         all_goals (with_reducible rfl)
        (try simp only [qs, Act.put])
        refine qP 14 _ ?_ rfl (.inl ⟨by rfl, ?_⟩) (fun _ => by assumption) ?_
        rotate_left
        ·(intro w hSw; go_simp)
         all_goals (with_reducible rfl)
        (try simp only [qs, Act.put])
        refine qP 15 _ ?_ rfl (.inl ⟨by rfl, ?_⟩) (fun _ => by assumption) ?_
        rotate_left
        ·(intro w hSw; go_simp)
         all_goals (with_reducible rfl)
        (try simp only [qs, Act.put])
        refine qT 16 _ ?_ rfl (.inl ⟨by rfl, ?_⟩) (by assumption) ?_
        rotate_left
        ·(intro w hSw; (try dsimp only at hSw); go_simp)
         all_goals (with_reducible rfl)
        (try simp only [qs, Act.put])
        refine qP 17 _ ?_ rfl (.inl ⟨by rfl, ?_⟩) (fun _ => by assumption) ?_
        rotate_left
        ·(intro w hSw; go_simp)
         all_goals (with_reducible rfl)
        (try simp only [qs, Act.put])
        refine qP 18 _ ?_ rfl (.inl ⟨by rfl, ?_⟩) (fun _ => by assumption) ?_
        rotate_left
        ·(intro w hSw; go_simp)
         all_goals (with_reducible rfl)
        (try simp only [qs, Act.put])
        refine qP 19 _ ?_ rfl (.inl ⟨by rfl, ?_⟩) (fun _ => by assumption) ?_
        rotate_left
        ·(intro w hSw; go_simp)
         all_goals (with_reducible rfl)
        (try simp only [qs, Act.put])
        rw [← HA2.out, ← HA3.out]
        refine wpAnyT_ready (rs := [20]) (by kernel_rfl) (by simp) ?_
        refine AllReadyT.cons rfl (fun K hK => ?_) AllReadyT.nil
        go_simp
        refine hK.out _ _ (fun _ => ?_) (fun gH0 => ?_)
        ·(try dsimp only)
         (first | (with_reducible exact cell_dr z2) | (exact cell_al _ (cell_dr z2)) | (exact s0))
        have gH := gH0 (by kernel_rfl)
        clear hK K gH0
        (try simp only [qs, Act.put])
        refine wpAnyT_ready (rs := [21]) (by kernel_rfl) (by simp) ?_
        refine AllReadyT.cons rfl (fun K hK => ?_) AllReadyT.nil
        go_simp
        (go_at_call 96; ((refine (HCC.out _ ((Below.refl _ _).drew.alloc (Nat.le_refl _) _) (new0 w5 _)).mono ?_); rintro e w6 ⟨va, vc, rfl, ho6, hb6⟩; have s0 := (hb6.cell (p := ⟨B, 2, none⟩) (by have := HLT.out; simp; omega)).trans (cell_al _ (cell_dr z2)); have HO6 := hid ho6; have HB6 := hid hb6; have sf2 : w6.frozen? ⟨B, 2, none⟩ = false := (bx3 ((hb6.block B (by have := HLT.out; simp; omega)).trans ((Below.heap_alloc _ _ _ (by have := HLT.out; simp; omega)).trans HR5'.out.box))).2.2.2.2.2; clear ho6 hb6))
        go_wp2_with fail
        refine hK.out _ _ (fun _ => ?_) (fun gH0 => ?_)
        ·(try dsimp only)
         (first | (with_reducible exact cell_dr z2) | (exact cell_al _ (cell_dr z2)) | (exact s0))
        have gH := gH0 (by kernel_rfl)
        clear hK K gH0
        (try simp only [qs, Act.put])
        refine qP 22 _ ?_ rfl (.inl ⟨by rfl, ?_⟩) (fun _ => by assumption) ?_
        rotate_left
        ·(intro w hSw; go_simp)
         all_goals (with_reducible rfl)
        (try simp only [qs, Act.put])
        refine qP 23 _ ?_ rfl (.inl ⟨by rfl, ?_⟩) (fun _ => by assumption) ?_
        rotate_left
        ·(intro w hSw; go_simp)
         all_goals (with_reducible rfl)
        (try simp only [qs, Act.put])
        refine wpAnyT_ready (rs := [24]) (by kernel_rfl) (by simp) ?_
        refine AllReadyT.cons rfl (fun K hK => ?_) AllReadyT.nil
        go_simp
        refine hK.out _ _ (noneB_off (by kernel_rfl)) (fun _ => ?_)
        clear hK K
        (try simp only [qs, Act.put])
        refine wpAnyT_done (by kernel_rfl) ?_ _
        have hNT : (turnF fi se os5).length = N5 := by rw [turn_len hfs (by rw [← HN5.out]; exact hle5)]; exact HN5.out.symm
        have hX6 : ButX B E w5 w6 := ((ButX.of E (Below.refl _ _).drew).trans (ButX.of E ((Below.refl _ _).alloc (Nat.le_refl _) _))).trans (ButX.of E HB6.out)
        have hsz6 : w5.heap.size + 1 ≤ w6.heap.size := by have := HB6.out.size; simp at this; omega
        have hbB : w6.heap[B]? = w5.heap[B]? := (HB6.out.block B (by have := HLT.out; simp; omega)).trans (Below.heap_alloc _ _ _ (by have := HLT.out; simp; omega))
        have hrd := Rdr.put HR5'.out hX6 hbB HS5.out.tok (.slice va (turnF fi se os5).length vc)
        have hX7 := hX6.trans (ButX.set w6 B E 2 (.slice va (turnF fi se os5).length vc))
        have hown : (w6.setCell ⟨B, 2, none⟩ (.slice va (turnF fi se os5).length vc)).ownsRow E 54 5 (.slice va (turnF fi se os5).length vc) (turnF fi se os5).length (ocs (turnF fi se os5)) := ownsRow_setCell_below (own_mono HO6.out (by have := HS5.out.le; simp; omega)) HS5.out.lt _
        have hxs : Xs (w6.setCell ⟨B, 2, none⟩ (.slice va (turnF fi se os5).length vc)) B E a n c L k5 (turnF fi se os5) := ⟨⟨_, hrd, hown⟩, by rw [hNT]; exact hf5, HS5.out.lt, Nat.le_trans HS5.out.le hX7.size, HS5.out.tok, HS5.out.tb.but HS5.out.off HS5.out.lt hX7, HS5.out.off, HS5.out.ok⟩
        refine exthen_nm (fun W7 hW7 => ?_)
        rw [← hW7] at hX7 hxs
        have HX7 := hid (HX5.out.trans hX7)
        have hbx7 := hX7.keep hnB.out (by decide) HBX5.out
        obtain ⟨y0, y1, y2, y3⟩ := bx4 hbx7
        have HC7 := HCM.out W7 k5 (turnF fi se os5) cq cn hxs
        rw [← HR5.out] at HC7
        have HC7 := hid HC7
        clear hNT hX6 hsz6 hbB hrd hX7 hown hxs hW7 hbx7 HR5 HCC HO6 HB6
        go_wp2_with fail
        refine HC7.out.mono ?_
        rintro e w8 ⟨hX8, h8⟩
        have HX8 := hid (HX7.out.trans hX8)
        clear hX8 HC7
        rcases r with f0 | ⟨k8, os8⟩
        ·obtain rfl : e = flt f0.1 f0.2 := h8
         exact ⟨rfl, HX8.out, rfl⟩
        ·obtain ⟨rfl, hx8⟩ := h8
         have HS8 := hid hx8
         clear hx8
         go_wp2_with fail
         go_returns
         exact ⟨HX8.out, rfl, HS8.out⟩
    ·obtain rfl : j = 6 := by omega
     obtain rfl : cm = none := HQ.out
     obtain rfl : r = .inr (k1, os1) := HR2.out
     clear HIX HCM0 HS2 HX2 HCO
     go_wp2_with fail
     go_returns
     exact ⟨HX.out, rfl, HS.out⟩
end
open Go.Proofs.YtdeollmeljaaoaaDoor.cs
section
variable {B E : Nat} {a : Option Addr} {n c : Nat} {L : List Tk}
theorem eith_any : ∀ d, Rt B E a n c L (n + 1 - d) 85 (eithD L n d)
 | 0 => fun W k os hk h => by have := h.kn; omega
 | d + 1 => by
  have ih : Rt B E a n c L (n - d + 1) 85 (eithD L n d) := (eith_any d).mono (by omega)
  have u0 := eithD_up L n d
  have l0 := eithD_lg L n d
  have u1 := thing_up (L := L) (n := n) u0
  have l1 := thing_lg (L := L) (n := n) l0
  have u2 := chain_up (L := L) u1 [10]
  have l2 := chain_lg (L := L) l1 [10]
  have u3 := chain_up (L := L) u2 [8, 9]
  have l3 := chain_lg (L := L) l2 [8, 9]
  have u4 := comparison_up (L := L) (n := n) u3
  have u5 := denied_up (L := L) u4 L.length
  have u6 := chain_up (L := L) u5 [3]
  have h1 := thing_any ih
  have h2 := product_any h1 u1
  have h3 := sum_any h2 u2
  have h4 := comparison_any h3 u3 l3
  have h5 := denied_any h4
  have h6 := both_any h5 u5
  have h7 := either_any h6 u6
  rw [show n + 1 - (d + 1) = n - d by omega]
  exact h7
structure Rs (w : World) (B : Nat) (a : Option Addr) (n c : Nat) (L : List Tk) (k : Nat) : Prop where
 rd : ∃ ov, Rdr w B a n c L k ov
 tb : Tbq w
 off : Off B
 ok : TokOk L
theorem Rs.lt {w : World} {k : Nat} (h : Rs w B a n c L k) : B < w.heap.size := by
 obtain ⟨⟨ov, hr⟩, _⟩ := h
 exact heap_lt hr.box
theorem Tbq.to {w w' : World} (h : Tbq w) (o : Off B) (hB : B < w.heap.size) (hb : But B w w') : Tbq w' := h.but (E := w.heap.size) o hB (hb.to _)
theorem Rs.go {w w' : World} {k k' : Nat} {ov : Value} (h : Rs w B a n c L k) (hN : But B w w') (hr : Rdr w' B a n c L k' ov) : Rs w' B a n c L k' := ⟨⟨ov, hr⟩, h.tb.to h.off h.lt hN, h.off, h.ok⟩
theorem Rs.later {w w' : World} {k : Nat} (h : Rs w B a n c L k) (hb : Below w.heap.size w w') : Rs w' B a n c L k := by
 obtain ⟨⟨ov, hr⟩, h1, h2, h3⟩ := h
 exact ⟨⟨ov, hr.below hb⟩, h1.below hb, h2, h3⟩
theorem Rs.kn {w : World} {k : Nat} (h : Rs w B a n c L k) : k ≤ n ∧ n = L.length := by
 obtain ⟨⟨ov, hr⟩, _⟩ := h
 exact ⟨hr.le, len_t hr.row⟩
theorem ButX.but {w w' : World} (h : ButX B w.heap.size w w') : But B w w' := ⟨h.os, h.tape, h.output, h.size, fun k hk hn => h.block k hk hn (.inl hk)⟩
def Xp (w : World) (B : Nat) (a : Option Addr) (n c : Nat) (L : List Tk) (r : F ⊕ (Nat × List Oq)) (e : Ending) (w' : World) : Prop :=
 But B w w' ∧ match r with
  | .inl f => e = flt f.1 f.2
  | .inr (k', os') => ∃ va vc, e = .returned (.slice va os'.length vc) ∧ w'.ownsRow w.heap.size 54 5 (.slice va os'.length vc) os'.length (ocs os') ∧ os'.length ≤ 40 ∧ Rs w' B a n c L k'
theorem exp_any (w : World) (k : Nat) (h : Rs w B a n c L k) : Calls Tryd.prog 81 #[.pointer (some ⟨B, 0, none⟩)] w (Xp w B a n c L (expF L n k)) := by
 obtain ⟨⟨ov, hr⟩, htb, hoff, hok⟩ := h
 have hlt := heap_lt hr.box
 obtain ⟨x0, x1, x2, f0, f1, f2⟩ := hr.cells
 have HE : Hid (∀ W, W = w.setCell ⟨B, 2, none⟩ (.slice none 0 0) → Calls Tryd.prog 85 #[.pointer (some ⟨B, 0, none⟩)] W (Ex W B w.heap.size a n c L (expF L n k)) ∧ But B w W) := fun W hW => by
  subst hW
  have hn := len_t hr.row
  have hN := But.set w B 2 (.slice none 0 0)
  have hsz : (w.setCell ⟨B, 2, none⟩ (.slice none 0 0)).heap.size = w.heap.size := by simp
  have hrd : Rdr (w.setCell ⟨B, 2, none⟩ (.slice none 0 0)) B a n c L k (.slice none 0 0) := ⟨by simpa using Lib.heap_setCell_same (i := 2) hr.box (.slice none 0 0), rd_but hr.row hN (fun x cap e hn => by cases e; exact hr.ne x rfl hn) (by omega), hr.le, hr.sm, hr.ne⟩
  have hx : Xs (w.setCell ⟨B, 2, none⟩ (.slice none 0 0)) B w.heap.size a n c L k [] := ⟨⟨_, hrd, World.ownsRow_nil _ _ _ _⟩, by simp, hlt, by rw [hsz]; exact Nat.le_refl _, fun x e hn => (by subst e; exact Rd.blk hr.row (by omega) x c rfl hn), htb.to hoff hlt hN, hoff, hok⟩
  exact ⟨by have := eith_any (B := B) (E := w.heap.size) (a := a) (n := n) (c := c) (L := L) (L.length + 1) _ k [] (by omega) hx; exact this, hN⟩
 obtain ⟨r, hr1⟩ : ∃ r, r = expF L n k := ⟨_, rfl⟩
 rw [← hr1] at HE ⊢
 clear hr htb hr1
 go_enter Tryd.func81, Tryd.ntmps81
 go_wp2_with fail
 refine calls_nm (fun W hW => ?_)
 obtain ⟨he, hN⟩ := HE.out W hW
 have HC := hid he
 have HN := hid hN
 have hWs : Hid (W.heap.size = w.heap.size) := by rw [hW]; show _ = _; simp
 clear he hN hW HE
 refine HC.out.mono ?_
 rintro e w1 ⟨hX, h1⟩
 have HB := hid (HN.out.trans (ButX.but (by rw [hWs.out]; exact hX)))
 clear hX HC
 rcases r with f0 | ⟨k1, os1⟩
 ·obtain rfl : e = flt f0.1 f0.2 := h1
  exact ⟨rfl, HB.out, rfl⟩
 ·obtain ⟨rfl, hx1⟩ := h1
  obtain ⟨ob, oc, z2, hR, hO⟩ := hx1.sl
  have HS := hid hx1
  have HR := hid hR
  have HO := hid hO
  clear hx1 hR hO
  go_wp2_with fail
  go_returns
  exact ⟨HB.out, _, _, rfl, HO.out, HS.out.few, ⟨_, HR.out⟩, HS.out.tb, hoff, hok⟩
theorem smay {w : World} {k : Nat} (h : Rs w B a n c L k) (s : ByteArray) :
  Calls Tryd.prog 50 #[.pointer (some ⟨B, 0, none⟩), .string s] w fun e w' => e = .returned (.bool (mayB L k s)) ∧ But B w w' ∧ Rs w' B a n c L (if mayB L k s then k + 1 else k) := by
 have hh := h
 obtain ⟨⟨ov, hr⟩, _⟩ := h
 refine (may_any w B a n c L k ov hr s).mono ?_
 rintro e w' ⟨rfl, h1, h2⟩
 exact ⟨rfl, h2, hh.go h2 h1⟩
theorem where_any (w : World) (k : Nat) (h : Rs w B a n c L k) : Calls Tryd.prog 57 #[.pointer (some ⟨B, 0, none⟩)] w (Xp w B a n c L (whereF L n k)) := by
 have HM0 := smay h sWHERE
 have HE : Hid (∀ W k, Rs W B a n c L k → Calls Tryd.prog 81 #[.pointer (some ⟨B, 0, none⟩)] W (Xp W B a n c L (expF L n k))) := fun W k hx => exp_any W k hx
 by_cases hm : mayB L k sWHERE = true
 ·unfold whereF
  rw [if_pos hm]
  rw [hm] at HM0
  have HM := hid HM0
  obtain ⟨r, hr⟩ : ∃ r, r = expF L n (k + 1) := ⟨_, rfl⟩
  rw [← hr]
  have HR := hid hr
  clear h hm HM0 hr
  go_enter Tryd.func57, Tryd.ntmps57
  go_wp2_with fail
  refine HM.out.mono ?_
  rintro e w1 ⟨rfl, hN, hx⟩
  have hx : Rs w1 B a n c L (k + 1) := hx
  have HN := hid hN
  have HC := HE.out w1 (k + 1) hx
  rw [← HR.out] at HC
  have HC := hid HC
  clear hN hx HM HR HE
  go_wp2_with fail
  refine HC.out.mono ?_
  rintro e w2 ⟨hN2, h2⟩
  have HN2 := hid (HN.out.trans hN2)
  clear hN2 HC
  rcases r with f0 | ⟨k2, os2⟩
  ·obtain rfl : e = flt f0.1 f0.2 := h2
   exact ⟨rfl, HN2.out, rfl⟩
  ·obtain ⟨va, vc, rfl, ho, hl, hs⟩ := h2
   have HO := hid (own_mono ho HN.out.size)
   have HS := hid hs
   have HL := hid hl
   clear ho hs hl
   go_wp2_with fail
   go_returns
   exact ⟨HN2.out, _, _, rfl, HO.out, HL.out, HS.out⟩
 ·have hm : mayB L k sWHERE = false := by simpa using hm
  unfold whereF
  rw [if_neg (by simp [hm])]
  rw [hm] at HM0
  have HM := hid HM0
  clear h hm HM0 HE
  go_enter Tryd.func57, Tryd.ntmps57
  go_wp2_with fail
  refine HM.out.mono ?_
  rintro e w1 ⟨rfl, hN, hx⟩
  have hx : Rs w1 B a n c L k := hx
  have HN := hid hN
  have HS := hid hx
  clear hN hx
  go_wp2_with fail
  go_returns
  exact ⟨HN.out, _, _, rfl, World.ownsRow_nil _ _ _ _, by simp, HS.out⟩
end
end Go.Proofs.YtdeollmeljaaoaaDoor.rd

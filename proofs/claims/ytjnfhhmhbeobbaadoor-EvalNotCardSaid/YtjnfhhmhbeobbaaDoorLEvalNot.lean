/- NOT, AND, OR and the equality of expressions over twigs are those of what they make of a row, where they are known to be truths. The row lists the program's tables of marks, of words that are kept, of what each op works on, and of the words of kinds, constants and signs; the card ties them to the program's text. -/
import Derived.Deep.DeepCutAuto
import Derived.Test.YtjnfhhmhbeobbaaDoorQz
import Derived.Test.YtjnfhhmhbeobbaaDoorB2
import Derived.Test.YtjnfhhmhbeobbaaDoorOf
import Derived.Test.YtjnfhhmhbeobbaaDoorOj
import Derived.Test.YtjnfhhmhbeobbaaDoorBh
namespace Go.Proofs.YtjnfhhmhbeobbaaDoor.lEvalNot
open Go.ChangeShapes Go.WideShapes Go.ChangeAt Go.RowKit Go.Joins
open Go.ChangeMaps (open_string shut_string)
open Go.Proofs.YtjnfhhmhbeobbaaDoor.tw
set_option linter.unusedVariables false
set_option linter.unusedSimpArgs false
set_option maxHeartbeats 400000

set_option maxHeartbeats 4000000
set_option maxRecDepth 100000
theorem rd_op1 (w : World) (x : Oq) (B : Nat) (hB : w.heap.size = B) : Rd (w.alloc (.cells #[.int .i64 x.k, .int .i64 x.v.k, .int .i64 x.v.n, .string x.v.t, .string x.t] 40)) 5 1 (.slice (some ⟨B, 0, none⟩) 1 1) (ocs [x]) := by
  subst hB
  exact Rd.own (World.ownsRow_lit (base := w.heap.size) w #[.int .i64 x.k, .int .i64 x.v.k, .int .i64 x.v.n, .string x.v.t, .string x.t] 1 (Nat.le_refl _) (by unfold maxLen; omega) rfl)
theorem kd_yes : kindF c4t [⟨1, ⟨1, 1, ⟨#[]⟩⟩, ⟨#[]⟩⟩] = (0, 1) := by decide +kernel
theorem kd_n : kindF c4t [⟨2, ⟨0, 0, ⟨#[]⟩⟩, ⟨#[110]⟩⟩] = (0, 2) := by decide +kernel
theorem ev_yes {r : List V} (hr : rowF c4t r = 0) : evalF c4t r [⟨1, ⟨1, 1, ⟨#[]⟩⟩, ⟨#[]⟩⟩] = (0, ⟨1, 1, ⟨#[]⟩⟩) := by
  unfold evalF
  rw [hr, kd_yes, rn_leaf (lfV c4t r) onV twV (by decide)]
  simp [lfV, rnF]
theorem ev_n (p q tk tn : Int) (t : ByteArray) (hr : rowF c4t (r4 p q tk tn t) = 0) : evalF c4t (r4 p q tk tn t) [⟨2, ⟨0, 0, ⟨#[]⟩⟩, ⟨#[110]⟩⟩] = (0, ⟨2, q, ⟨#[]⟩⟩) := by
  unfold evalF
  rw [hr, kd_n, rn_leaf (lfV c4t (r4 p q tk tn t)) onV twV (by decide)]
  have e : lfV c4t (r4 p q tk tn t) ⟨2, ⟨0, 0, ⟨#[]⟩⟩, ⟨#[110]⟩⟩ = (0, ⟨2, q, ⟨#[]⟩⟩) := by
    unfold lfV
    rw [if_neg (by simp), pl4.2.1]
    rfl
  rw [e]
  rfl
theorem sml_one {x : Oq} (h : Sml x) : ∀ o ∈ [x], Sml o := fun o ho => by
  obtain rfl := List.mem_singleton.1 ho
  exact h
theorem sml_n : Sml ⟨2, ⟨0, 0, ⟨#[]⟩⟩, ⟨#[110]⟩⟩ := by
  first
    | exact ⟨by decide, fun _ => by simp [colL]⟩
    | exact ⟨by decide, fun _ => by simp [colL], by unfold Fi; omega⟩
theorem sml_yes : Sml ⟨1, ⟨1, 1, ⟨#[]⟩⟩, ⟨#[]⟩⟩ := by
  first
    | exact sml_bare (by decide)
    | exact sml_bare (by decide) (by unfold Fi; omega)
theorem sml_app {l m : List Oq} (h : ∀ o ∈ l, Sml o) (g : ∀ o ∈ m, Sml o) : ∀ o ∈ l ++ m, Sml o := fun o ho => by
  rcases List.mem_append.1 ho with h1 | h1
  · exact h o h1
  · exact g o h1
theorem va_beq {a b : V} (h : a = b) : True := trivial
theorem box3w {w : World} {B : Nat} {a : V} (h : w.heap[B]? = some (.cells #[.int .i64 a.k, .int .i64 a.n, .string a.t] 33 (0, 0))) : w.cell? ⟨B, 0, none⟩ = some (.int .i64 a.k) ∧ w.cell? ⟨B, 1, none⟩ = some (.int .i64 a.n) ∧ w.cell? ⟨B, 2, none⟩ = some (.string a.t) := by
  obtain ⟨a1, a2, a3, -, -, -⟩ := box3 h
  exact ⟨a1, a2, a3⟩
theorem walk (W : World) (hL : Tbs W) (k n : Int) (s : ByteArray) (ao : Option Addr) (m cap : Nat) (hk : Rn k) (hn : Rn n) (hs : s.size ≤ maxLen) (ht : TwS W 3 (.slice ao m cap)) (k' n' : Int) (s' : ByteArray) (ao' : Option Addr) (m' cap' : Nat) (hk' : Rn k') (hn' : Rn n') (hs' : s'.size ≤ maxLen) (ht' : TwS W 3 (.slice ao' m' cap')) (a : Int) (wa : (Lit.int .i64 a).wf = true) (b : Int) (wb : (Lit.int .i64 b).wf = true) (u : ByteArray) (wu : u.size ≤ maxLen) (c : Int) (wc : (Lit.int .i64 c).wf = true) :
    Calls Tryd.prog 4 #[.agg #[.int .i64 k, .int .i64 n, .string s, .slice ao m cap], .agg #[.int .i64 k', .int .i64 n', .string s', .slice ao' m' cap'], .int .i64 a, .int .i64 b, .string u, .int .i64 c] W fun e w' => e = .returned (.bool true) ∧ Below W.heap.size W w' := by
  have HEV : Hid (∀ (w : World) (n m j : Nat) (v y x : Value) (l : List Cq) (r : List V) (ops : List Oq) (q : Int) (g : V), Below W.heap.size W w → Rd w 2 n v (ccs l) → (∀ c ∈ l, c.t.size ≤ 8) → Rd w 3 m y (vc r) → Rd w 5 j x (ocs ops) → (∀ o ∈ ops, Sml o) → evalF l r ops = (q, g) → Calls Tryd.prog 8 #[v, y, x] w fun e w' => e = .returned (.tuple #[.agg #[.int .i64 g.k, .int .i64 g.n, .string g.t], .int .i64 q]) ∧ Below w.heap.size w w') := fun w n m j v y x l r ops q g hB hr hc hy hx ho hq => by
    have h := eval_any w (hL.below hB) n m j v y x l r ops hr (small4 hc) hy hx (sml_max ho)
    rw [hq] at h
    exact h
  have HCO := Lib.hid colsOf_any
  have HRO := Lib.hid (fun w => rowOf_any w a b c u (rn_of wa) (rn_of wb) (rn_of wc) wu)
  have HO := Lib.hid (fun (w : World) (hb : Below W.heap.size W w) => ops_any3 w k n s ao m cap hk hn hs (ht.below hb))
  have HO' := Lib.hid (fun (w : World) (hb : Below W.heap.size W w) => ops_any3 w k' n' s' ao' m' cap' hk' hn' hs' (ht'.below hb))
  clear hk hn hs ht hk' hn' hs' ht' wa wb wc wu hL
  obtain ⟨W0, hW0⟩ : ∃ W0 : World, W0 = (W.alloc (.cells #[.int .i64 k, .int .i64 n, .string s, .slice ao m cap] 24)).alloc (.cells #[.int .i64 k', .int .i64 n', .string s', .slice ao' m' cap'] 24) := ⟨_, rfl⟩
  have HB0 : Hid (Below W.heap.size W W0) := Lib.hid (by rw [hW0]; go_grown)
  have hz0 : W.heap.size + 1 < W0.heap.size := by rw [hW0]; simp
  have HX : Hid (W0.cell? ⟨W.heap.size, 0, none⟩ = some (.int .i64 k) ∧ W0.cell? ⟨W.heap.size, 1, none⟩ = some (.int .i64 n) ∧ W0.cell? ⟨W.heap.size, 2, none⟩ = some (.string s) ∧ W0.cell? ⟨W.heap.size, 3, none⟩ = some (.slice ao m cap)) := Lib.hid (by rw [hW0]; refine ⟨?_, ?_, ?_, ?_⟩ <;> go_simp)
  have HX' : Hid (W0.cell? ⟨W.heap.size + 1, 0, none⟩ = some (.int .i64 k') ∧ W0.cell? ⟨W.heap.size + 1, 1, none⟩ = some (.int .i64 n') ∧ W0.cell? ⟨W.heap.size + 1, 2, none⟩ = some (.string s') ∧ W0.cell? ⟨W.heap.size + 1, 3, none⟩ = some (.slice ao' m' cap')) := Lib.hid (by rw [hW0]; refine ⟨?_, ?_, ?_, ?_⟩ <;> go_simp)
  have HW0 := Lib.hid hW0
  clear hW0
  go_enter Tryd.func4, Tryd.ntmps4
  go_wp2_with fail
  rw [← HW0.out]
  clear HW0
  refine (HRO.out _).mono ?_
  rintro e w' ⟨w1, p, z, tk, tn, t, rfl, rfl, hb1, ht, hor⟩
  have HR := Lib.hid (f_row p z tk tn t ht hor)
  obtain ⟨wa, hwa⟩ : ∃ wa, wa = w1.alloc (.cells (rowC p z tk tn t) 33) := ⟨_, rfl⟩
  have HRW : Hid (wa.heap[w1.heap.size]? = some (.cells (rowC p z tk tn t) 33 (0, 0))) := Lib.hid (by rw [hwa]; exact new0 w1 _)
  have hza : w1.heap.size < wa.heap.size := by rw [hwa]; simp
  have HBA : Hid (Below W0.heap.size W0 wa) := Lib.hid (by rw [hwa]; exact hb1.alloc hb1.size _)
  rw [← hwa]
  clear hwa hb1 ht hor
  have HWA := Lib.hid (into HB0.out HBA.out)
  have hzb := HBA.out.size
  go_wp2_with (go_at_call 7; ((with_reducible refine (HCO.out _).mono ?_); rintro e w' ⟨rfl, rfl⟩))
  refine (HEV.out _ 4 4 1 _ _ _ c4t (r4 p z tk tn t) [⟨1, ⟨1, 1, ⟨#[]⟩⟩, ⟨#[]⟩⟩] _ _ ?_ (rd_alloc (rd_c4 wa _ _ _ _ _ _ _ _ _ rfl) _) (by decide) (rd_alloc (rd_alloc (rd_r4 HRW.out) _) _) (rd_op1 _ ⟨1, ⟨1, 1, ⟨#[]⟩⟩, ⟨#[]⟩⟩ _ (by simp)) (sml_one sml_yes) (ev_yes HR.out)).mono ?_
  · have g := HWA.out
    go_grown
  rintro e w2 ⟨rfl, hb2⟩
  have HB2 : Hid (Below wa.heap.size wa w2) := Lib.hid (into (by go_grown) hb2)
  have hz2 := HB2.out.size
  obtain ⟨x0, x1, x2, x3⟩ := HX.out
  have x0 := cell_blz ((Below.refl w2.heap.size w2).alloc (Nat.le_refl _) (.cells #[.int .i64 1, .int .i64 1, .string ⟨#[]⟩] 33)) (cell_blz (HBA.out.trans (HB2.out.mono hzb)) x0)
  have x1 := cell_blz ((Below.refl w2.heap.size w2).alloc (Nat.le_refl _) (.cells #[.int .i64 1, .int .i64 1, .string ⟨#[]⟩] 33)) (cell_blz (HBA.out.trans (HB2.out.mono hzb)) x1)
  have x2 := cell_blz ((Below.refl w2.heap.size w2).alloc (Nat.le_refl _) (.cells #[.int .i64 1, .int .i64 1, .string ⟨#[]⟩] 33)) (cell_blz (HBA.out.trans (HB2.out.mono hzb)) x2)
  have x3 := cell_blz ((Below.refl w2.heap.size w2).alloc (Nat.le_refl _) (.cells #[.int .i64 1, .int .i64 1, .string ⟨#[]⟩] 33)) (cell_blz (HBA.out.trans (HB2.out.mono hzb)) x3)
  clear hb2
  go_wp2_with fail
  refine (HO.out _ ((into HWA.out HB2.out).alloc (into HWA.out HB2.out).size _)).mono ?_
  rintro e w3 ⟨v3, lx, rfl, hw3, hl3, hown3, hb3⟩
  have HB3 : Hid (Below w2.heap.size w2 w3) := Lib.hid (into (by go_grown) hb3)
  have HXR := Lib.hid (Rd.own hown3)
  have HXW := Lib.hid (And.intro hw3 hl3)
  have hz3 := HB3.out.size
  obtain ⟨y0, y1, y2, y3⟩ := HX'.out
  have y0 := cell_blz (HBA.out.trans ((HB2.out.trans (HB3.out.mono hz2)).mono hzb)) y0
  have y1 := cell_blz (HBA.out.trans ((HB2.out.trans (HB3.out.mono hz2)).mono hzb)) y1
  have y2 := cell_blz (HBA.out.trans ((HB2.out.trans (HB3.out.mono hz2)).mono hzb)) y2
  have y3 := cell_blz (HBA.out.trans ((HB2.out.trans (HB3.out.mono hz2)).mono hzb)) y3
  clear hb3 hown3 hw3 hl3 x0 x1 x2 x3
  go_wp2_with fail
  refine (HO'.out w3 (into (into HWA.out HB2.out) HB3.out)).mono ?_
  rintro e w4 ⟨v4, ly, rfl, hw4, hl4, hown4, hb4⟩
  have HB4 := Lib.hid hb4
  have HYR := Lib.hid (Rd.own hown4)
  have HYW := Lib.hid (And.intro hw4 hl4)
  have hz4 := HB4.out.size
  clear hb4 hown4 hw4 hl4 y0 y1 y2 y3
  have HA4 : Hid (Below wa.heap.size wa w4) := Lib.hid (into (into HB2.out HB3.out) HB4.out)
  obtain ⟨⟨q5, v⟩, hq5⟩ : ∃ x, evalF c4t (r4 p z tk tn t) lx = x := ⟨_, rfl⟩
  obtain ⟨⟨q6, g⟩, hq6⟩ : ∃ x, evalF c4t (r4 p z tk tn t) ly = x := ⟨_, rfl⟩
  have HV := Lib.hid hq5
  have HG := Lib.hid hq6
  clear hq5 hq6
  go_wp2_with (go_at_call 7; ((with_reducible refine (HCO.out _).mono ?_); rintro e w' ⟨rfl, rfl⟩))
  refine (HEV.out _ 4 4 lx.length _ _ _ c4t (r4 p z tk tn t) lx q5 v ?_ (rd_c4 w4 _ _ _ _ _ _ _ _ _ rfl) (by decide) (rd_alloc ((rd_r4 HRW.out).below HA4.out) _) (rd_alloc (HXR.out.below HB4.out) _) HXW.out.1.2.2 HV.out).mono ?_
  · exact (into HWA.out HA4.out).alloc (into HWA.out HA4.out).size _
  rintro e w5 ⟨rfl, hb5⟩
  have HB5 : Hid (Below w4.heap.size w4 w5) := Lib.hid (into (by go_grown) hb5)
  have hz5 := HB5.out.size
  have HA5 : Hid (Below wa.heap.size wa w5) := Lib.hid (into HA4.out HB5.out)
  clear hb5
  go_wp2_with (go_at_call 7; ((with_reducible refine (HCO.out _).mono ?_); rintro e w' ⟨rfl, rfl⟩))
  refine (HEV.out _ 4 4 ly.length _ _ _ c4t (r4 p z tk tn t) ly q6 g ?_ (rd_c4 _ _ _ _ _ _ _ _ _ _ (by simp)) (by decide) (rd_alloc (rd_alloc ((rd_r4 HRW.out).below HA5.out) _) _) (rd_alloc (rd_alloc (HYR.out.below HB5.out) _) _) HYW.out.1.2.2 HG.out).mono ?_
  · have g0 := into HWA.out HA5.out
    go_grown
  rintro e w6 ⟨rfl, hb6⟩
  have HB6 : Hid (Below w5.heap.size w5 w6) := Lib.hid (into (by go_grown) hb6)
  have hz6 := HB6.out.size
  have HA6 : Hid (Below wa.heap.size wa w6) := Lib.hid (into HA5.out HB6.out)
  have hz6' : w5.heap.size + 1 ≤ w6.heap.size := by have := hb6.size; simp at this; omega
  have HVB : Hid (w6.heap[w5.heap.size]? = some (.cells #[.int .i64 v.k, .int .i64 v.n, .string v.t] 33 (0, 0))) := Lib.hid ((hb6.block w5.heap.size (by simp; omega)).trans ((Below.heap_alloc _ _ _ (by simp)).trans (new0 w5 _)))
  obtain ⟨a0, a1, a2⟩ := box3w ((((Below.refl w6.heap.size w6).alloc (Nat.le_refl _) (.cells #[.int .i64 g.k, .int .i64 g.n, .string g.t] 33)).block w5.heap.size (by omega)).trans HVB.out)
  clear hb6
  by_cases bad : q5 ≠ 0 ∨ q6 ≠ 0 ∨ 1 < v.k ∨ 1 < g.k
  · have HCOL : Hid (Rd w6 3 4 (.slice (some ⟨w1.heap.size, 0, none⟩) 4 4) (vc (r4 p z tk tn t))) := Lib.hid ((rd_r4 HRW.out).below HA6.out)
    have HRK := Lib.hid ((HA6.out.block w1.heap.size (by omega)).trans HRW.out)
    have cases4 : ((q5 != 0) = true) ∨ ((q5 != 0) = false ∧ (q6 != 0) = true) ∨ ((q5 != 0) = false ∧ (q6 != 0) = false ∧ 1 < v.k) ∨ ((q5 != 0) = false ∧ (q6 != 0) = false ∧ ¬ 1 < v.k ∧ 1 < g.k) := by
      by_cases h5 : q5 = 0
      · by_cases h6 : q6 = 0
        · by_cases h7 : 1 < v.k
          · exact .inr (.inr (.inl ⟨by simp [h5], by simp [h6], h7⟩))
          · exact .inr (.inr (.inr ⟨by simp [h5], by simp [h6], h7, by omega⟩))
        · exact .inr (.inl ⟨by simp [h5], by simpa using h6⟩)
      · exact .inl (by simpa using h5)
    clear bad
    rcases cases4 with e5 | ⟨e5, e6⟩ | ⟨e5, e6, e7⟩ | ⟨e5, e6, e7, e8⟩
    all_goals (
      go_wp2_with (go_at_call 7; ((with_reducible refine (HCO.out _).mono ?_); rintro e w' ⟨rfl, rfl⟩))
      refine (HEV.out _ 4 4 1 _ _ _ c4t (r4 p z tk tn t) [⟨2, ⟨0, 0, ⟨#[]⟩⟩, ⟨#[110]⟩⟩] _ _ ?_ (rd_alloc (rd_c4 _ _ _ _ _ _ _ _ _ (w6.heap.size + 1) (by simp)) _) (by decide) (rd_alloc (rd_alloc (rd_alloc HCOL.out _) _) _) (rd_op1 _ ⟨2, ⟨0, 0, ⟨#[]⟩⟩, ⟨#[110]⟩⟩ (w6.heap.size + 2) (by simp)) (sml_one sml_n) (ev_n p z tk tn t HR.out)).mono ?_
      · have g0 := into HWA.out HA6.out
        go_grown
      rintro e w7 ⟨rfl, hb7⟩
      have B7 : Below w6.heap.size w6 w7 := into (by go_grown) hb7
      have HB7 := Lib.hid (into (into HWA.out HA6.out) B7)
      have r7 : w7.heap[w1.heap.size]? = some (.cells (rowC p z tk tn t) 33 (0, 0)) := (B7.block w1.heap.size (by omega)).trans HRK.out
      have k3 : (w7.alloc (.cells #[.int .i64 2, .int .i64 z, .string ⟨#[]⟩] 33)).cell? ⟨w1.heap.size, 3, none⟩ = some (.int .i64 2) := cell_blz ((Below.refl w7.heap.size w7).alloc (Nat.le_refl _) _) (by simp [World.cell?, r7])
      have k4 : (w7.alloc (.cells #[.int .i64 2, .int .i64 z, .string ⟨#[]⟩] 33)).cell? ⟨w1.heap.size, 4, none⟩ = some (.int .i64 z) := cell_blz ((Below.refl w7.heap.size w7).alloc (Nat.le_refl _) _) (by simp [World.cell?, r7])
      have k5 : (w7.alloc (.cells #[.int .i64 2, .int .i64 z, .string ⟨#[]⟩] 33)).cell? ⟨w1.heap.size, 5, none⟩ = some (.string ⟨#[]⟩) := cell_blz ((Below.refl w7.heap.size w7).alloc (Nat.le_refl _) _) (by simp [World.cell?, r7])
      clear hb7 B7 r7 a0 a1 a2 e5
      go_wp2_with fail
      go_quiet (fail)
      go_wp2_with fail
      go_ret
      exact ⟨rfl, (HB7.out.alloc HB7.out.size _).trans ⟨rfl, rfl, rfl, Nat.le_refl _, fun _ _ => rfl⟩⟩)
  · have h5 : q5 = 0 := by omega
    have h6 : q6 = 0 := by omega
    have h7 : ¬ 1 < v.k := by omega
    have h8 : ¬ 1 < g.k := by omega
    clear bad
    subst h5 h6
    have HV8 : Hid (((w6.alloc (.cells #[.int .i64 g.k, .int .i64 g.n, .string g.t] 33)).heap[w5.heap.size]? = some (.cells #[.int .i64 v.k, .int .i64 v.n, .string v.t] 33 (0, 0))) ∧ ((w6.alloc (.cells #[.int .i64 g.k, .int .i64 g.n, .string g.t] 33)).heap[w6.heap.size]? = some (.cells #[.int .i64 g.k, .int .i64 g.n, .string g.t] 33 (0, 0)))) := Lib.hid ⟨(((Below.refl w6.heap.size w6).alloc (Nat.le_refl _) _).block w5.heap.size (by omega)).trans HVB.out, new0 w6 _⟩
    go_upto_region 12 with (fail)
    have hB8 : Below w6.heap.size w6 (w6.alloc (.cells #[.int .i64 g.k, .int .i64 g.n, .string g.t] 33)) := (Below.refl _ _).alloc (Nat.le_refl _) _
    have hs8 : (w6.alloc (.cells #[.int .i64 g.k, .int .i64 g.n, .string g.t] 33)).heap.size = w6.heap.size + 1 := by simp
    obtain ⟨w8, hw8⟩ : ∃ w8, w8 = w6.alloc (.cells #[.int .i64 g.k, .int .i64 g.n, .string g.t] 33) := ⟨_, rfl⟩
    rw [← hw8] at HV8 hB8 hs8 ⊢
    have hz8 : w6.heap.size < w8.heap.size := by omega
    have HA8 : Hid (Below wa.heap.size wa w8) := Lib.hid (into HA6.out hB8)
    have HW8 := Lib.hid (into HWA.out HA8.out)
    have HX8 := Lib.hid (HXR.out.below (into (into (into HB4.out HB5.out) HB6.out) hB8))
    have HY8 := Lib.hid (HYR.out.below (into (into HB5.out HB6.out) hB8))
    have hxl := HXW.out.2
    have hyl := HYW.out.2
    clear hw8 hB8 hs8 a0 a1 a2
    go_wp2_with (first | (at_builtin; refine apg w8 lx.length rfl _ _ 25 40 _ 5 56 Tryd.underlying25 Tryd.info40 rfl (by omega) rfl (World.ownsRow_nil _ w8.heap.size _ _) (Nat.le_refl _) (by omega) (by unfold maxLen; omega) (ocs_one _) HX8.out rfl rfl ?_; intro v9 w9 hown hb _; have hz9 := hb.size; have HO9 := Lib.hid (show w9.ownsRow w8.heap.size 40 5 v9 lx.length (ocs lx) by simpa using hown); have HB9 := Lib.hid hb; have HY9 := Lib.hid (HY8.out.below hb); clear hown hb) | (at_builtin; refine apg w9 ly.length rfl _ _ 25 40 _ 5 56 Tryd.underlying25 Tryd.info40 rfl (by omega) rfl (HO9.out) (by omega) (by omega) (by unfold maxLen; omega) (ocs_one _) HY9.out rfl rfl ?_; intro v10 w10 hown hb _; have hz10 := hb.size; have HO10 := Lib.hid hown; have HB10 := Lib.hid (HB9.out.trans hb); clear hown hb))
    have HT10 : Hid (Rd w10 5 (lx.length + ly.length) v10 (ocs (lx ++ ly))) := Lib.hid (by rw [ocs_app]; exact Rd.own HO10.out)
    obtain ⟨w11, hw11⟩ : ∃ w11, w11 = w10.alloc (.cells #[.int .i64 3, .int .i64 4, .int .i64 6] 3) := ⟨_, rfl⟩
    have HL11 : Hid (w11.heap[w10.heap.size]? = some (.cells #[.int .i64 3, .int .i64 4, .int .i64 6] 3 (0, 0))) := Lib.hid (by rw [hw11]; exact new0 w10 _)
    have hz11 : w10.heap.size < w11.heap.size := by rw [hw11]; simp
    have HB11 : Hid (Below w8.heap.size w8 w11) := Lib.hid (by rw [hw11]; exact HB10.out.alloc HB10.out.size _)
    have HT11 : Hid (Rd w11 5 (lx.length + ly.length) v10 (ocs (lx ++ ly))) := Lib.hid (by rw [hw11]; exact rd_alloc HT10.out _)
    rw [← hw11]
    clear hw11 HT10 HO10 HO9 HY9
    have hz11' := HB11.out.size
    go_loopw [113] (fun i wr => ∃ j : Nat, j ≤ 3 ∧ i = .int .i64 (j : Int) ∧ Hid (Below w11.heap.size w11 wr)) (fun i _ => 3 - (intOf i).toNat)
    case atStart => exact ⟨0, by omega, rfl, Below.refl _ _⟩
    case round =>
      obtain ⟨j, hj, rfl, HBR⟩ := hrel
      have hzr := HBR.out.size
      have HA := Lib.hid (into (into HA8.out HB11.out) HBR.out)
      have HRR := Lib.hid ((rd_r4 HRW.out).below HA.out)
      have hb8r := Lib.hid (HB11.out.trans (HBR.out.mono hz11'))
      have HVR := Lib.hid ((hb8r.out.block w5.heap.size (by omega)).trans HV8.out.1)
      have HGR := Lib.hid ((hb8r.out.block w6.heap.size (by omega)).trans HV8.out.2)
      have HWR := Lib.hid (into HWA.out HA.out)
      by_cases hlt : j < 3
      · obtain ⟨kc, hkc, hcell⟩ : ∃ kc : Int, (kc = 3 ∨ kc = 4 ∨ kc = 6) ∧ wr.cell? ⟨w10.heap.size, j, none⟩ = some (.int .i64 kc) := by
          have h0 := (HBR.out.block w10.heap.size (by omega)).trans HL11.out
          have h3 : j = 0 ∨ j = 1 ∨ j = 2 := by omega
          rcases h3 with rfl | rfl | rfl
          · exact ⟨3, .inl rfl, by simp [World.cell?, h0]⟩
          · exact ⟨4, .inr (.inl rfl), by simp [World.cell?, h0]⟩
          · exact ⟨6, .inr (.inr rfl), by simp [World.cell?, h0]⟩
        have hev := eval_two HR.out HXW.out.1 HYW.out.1 HXW.out.2 HYW.out.2 hkc HV.out HG.out
        obtain ⟨⟨qr, rv⟩, hrv⟩ : ∃ x, twV kc v g = x := ⟨_, rfl⟩
        obtain ⟨⟨qe, ev⟩, hee⟩ : ∃ x, evalF c4t (r4 p z tk tn t) (lx ++ ly ++ [oN kc]) = x := ⟨_, rfl⟩
        rw [hrv, hee] at hev
        have HTW : Hid (∀ w, Calls Tryd.prog 10 #[.int .i64 kc, va v, va g] w (ValIs (qr, rv) w)) := Lib.hid (fun w => by have h := twoV_any w kc v g; rw [hrv] at h; exact h)
        have HEE := Lib.hid hee
        have HEV2 := Lib.hid hev
        have hsml : ∀ o ∈ lx ++ ly ++ [oN kc], Sml o := sml_app (sml_app HXW.out.1.2.2 HYW.out.1.2.2) (sml_one (sml_bare (k := kc) (by omega)))
        have HSM := Lib.hid hsml
        have HTR := Lib.hid (HT11.out.below HBR.out)
        clear hrv hee hev hsml hkc
        go_wp2_with (first | (go_at_call 7; ((with_reducible refine (HCO.out _).mono ?_); rintro e w' ⟨rfl, rfl⟩)) | (at_builtin; refine apg (wr.alloc (.cells #[.string ⟨#[105, 100]⟩, .int .i64 2, .string ⟨#[110]⟩, .int .i64 2, .string ⟨#[115]⟩, .int .i64 3, .string ⟨#[98]⟩, .int .i64 1] 51)) (lx.length + ly.length) rfl _ _ 25 40 _ 5 56 Tryd.underlying25 Tryd.info40 rfl (by omega) rfl (World.ownsRow_nil _ (wr.heap.size + 1) _ _) (by simp) (by omega) (by unfold maxLen; omega) (ocs_one _) (rd_alloc HTR.out _) rfl rfl ?_; intro v12 w12 hown hb _; have hz12 := hb.size; have HO12 := Lib.hid (show w12.ownsRow (wr.heap.size + 1) 40 5 v12 (lx.length + ly.length) (ocs (lx ++ ly)) by simpa using hown); have HB12 := Lib.hid hb; have HRD := Lib.hid (rd_op1 w12 (oN kc) w12.heap.size rfl); clear hown hb) | (at_builtin; refine apg (w12.alloc (.cells #[.int .i64 kc, .int .i64 0, .int .i64 0, .string ⟨#[]⟩, .string ⟨#[]⟩] 40)) 1 rfl _ _ 25 40 _ 5 56 Tryd.underlying25 Tryd.info40 rfl (by omega) rfl (HO12.out.alloc _) (by simp at hz12 ⊢; omega) (by omega) (by unfold maxLen; omega) (ocs_one _) HRD.out rfl rfl ?_; intro v13 w13 hown hb _; have hz13 := hb.size; have HO13 := Lib.hid hown; have HB13 := Lib.hid ((HB12.out.alloc (by simp at hz12 ⊢; omega) _).trans hb); clear hown hb))
        have hz12' : wr.heap.size + 1 ≤ w13.heap.size := by have := HB13.out.size; simpa using this
        have HC13 : Hid (Rd w13 2 4 (.slice (some ⟨wr.heap.size, 0, none⟩) 4 4) (ccs c4t)) := Lib.hid ((rd_c4 wr _ _ _ _ _ _ _ _ _ rfl).below (HB13.out.mono (by simp)))
        have B13 : Below wr.heap.size wr w13 := ((Below.refl wr.heap.size wr).alloc (Nat.le_refl _) _).trans (HB13.out.mono (by omega))
        have HBB13 := Lib.hid B13
        have HW13 := Lib.hid (into HWR.out B13)
        clear B13
        refine (HEV.out w13 4 4 _ _ _ v13 c4t (r4 p z tk tn t) (lx ++ ly ++ [oN kc]) qe ev HW13.out HC13.out (by decide) (HRR.out.below HBB13.out) (by rw [ocs_app]; exact Rd.own HO13.out) HSM.out HEE.out).mono ?_
        rintro e w14 ⟨rfl, hb14⟩
        have HB14 := Lib.hid (into HBB13.out hb14)
        have hz14 := HB14.out.size
        have hv14 := (HB14.out.block w5.heap.size (by omega)).trans HVR.out
        have hg14 := (HB14.out.block w6.heap.size (by omega)).trans HGR.out
        obtain ⟨b0, b1, b2⟩ := box3w ((((Below.refl w14.heap.size w14).alloc (Nat.le_refl _) (.cells #[.int .i64 ev.k, .int .i64 ev.n, .string ev.t] 33)).block w5.heap.size (by omega)).trans hv14)
        obtain ⟨d0, d1, d2⟩ := box3w ((((Below.refl w14.heap.size w14).alloc (Nat.le_refl _) (.cells #[.int .i64 ev.k, .int .i64 ev.n, .string ev.t] 33)).block w6.heap.size (by omega)).trans hg14)
        clear hb14 hv14 hg14
        go_wp2_with fail
        refine (HTW.out _).mono ?_
        rintro e w15 ⟨rfl, hb15⟩
        have HB15 : Hid (Below w14.heap.size w14 w15) := Lib.hid (into (by go_grown) hb15)
        have hz15 : w14.heap.size < w15.heap.size := by have := hb15.size; simp at this; omega
        have r15 := (hb15.block w14.heap.size (by simp)).trans (new0 w14 (.cells #[.int .i64 ev.k, .int .i64 ev.n, .string ev.t] 33))
        obtain ⟨f0, f1, f2⟩ := box3w ((((Below.refl w15.heap.size w15).alloc (Nat.le_refl _) (.cells #[.int .i64 rv.k, .int .i64 rv.n, .string rv.t] 33)).block w14.heap.size (by omega)).trans r15)
        have HBZ : Hid (Below w11.heap.size w11 (w15.alloc (.cells #[.int .i64 rv.k, .int .i64 rv.n, .string rv.t] 33))) := Lib.hid ((into (into HBR.out HB14.out) HB15.out).alloc (into (into HBR.out HB14.out) HB15.out).size _)
        clear hb15 b0 b1 b2 d0 d1 d2 r15
        by_cases h4 : qe = 4
        · have e4 : (qe == 4) = true := by simp [h4]
          clear h4 f0 f1 f2
          go_wp2_with fail
          go_roundw
          case rel => exact ⟨j + 1, by omega, by go_num, HBZ.out⟩
          case measure => (simp [intOf]) <;> omega
        · have e4 : (qe == 4) = false := by simpa using h4
          have hee : (qe, ev) = (qr, rv) := by
            rcases HEV2.out with h | h
            · exact absurd (Prod.mk.inj h).1 h4
            · exact h
          obtain ⟨rfl, rfl⟩ := Prod.mk.inj hee
          clear h4 hee
          go_wp2_with fail
          go_roundw
          case rel => exact ⟨j + 1, by omega, by go_num, HBZ.out⟩
          case measure => (simp [intOf]) <;> omega
      · obtain rfl : j = 3 := by omega
        have hev := eval_not HR.out HXW.out.1 HXW.out.2 HV.out
        obtain ⟨⟨qr, rv⟩, hrv⟩ : ∃ x, onV 5 v = x := ⟨_, rfl⟩
        obtain ⟨⟨qe, ev⟩, hee⟩ : ∃ x, evalF c4t (r4 p z tk tn t) (lx ++ [oN 5]) = x := ⟨_, rfl⟩
        rw [hrv, hee] at hev
        have HTW : Hid (∀ w, Calls Tryd.prog 11 #[.int .i64 5, va v] w (ValIs (qr, rv) w)) := Lib.hid (fun w => by have h := oneV_any w 5 v; rw [hrv] at h; exact h)
        have HEE := Lib.hid hee
        have HEV2 := Lib.hid hev
        have HSM : Hid (∀ o ∈ lx ++ [oN 5], Sml o) := Lib.hid (sml_app HXW.out.1.2.2 (sml_one (sml_bare (k := 5) (by decide))))
        have HTR := Lib.hid (HX8.out.below hb8r.out)
        clear hrv hee hev
        go_wp2_with (first | (go_at_call 7; ((with_reducible refine (HCO.out _).mono ?_); rintro e w' ⟨rfl, rfl⟩)) | (at_builtin; refine apg (wr.alloc (.cells #[.string ⟨#[105, 100]⟩, .int .i64 2, .string ⟨#[110]⟩, .int .i64 2, .string ⟨#[115]⟩, .int .i64 3, .string ⟨#[98]⟩, .int .i64 1] 51)) lx.length rfl _ _ 25 40 _ 5 56 Tryd.underlying25 Tryd.info40 rfl (by omega) rfl (World.ownsRow_nil _ (wr.heap.size + 1) _ _) (by simp) (by omega) (by unfold maxLen; omega) (ocs_one _) (rd_alloc HTR.out _) rfl rfl ?_; intro v12 w12 hown hb _; have hz12 := hb.size; have HO12 := Lib.hid (show w12.ownsRow (wr.heap.size + 1) 40 5 v12 lx.length (ocs lx) by simpa using hown); have HB12 := Lib.hid hb; have HRD := Lib.hid (rd_op1 w12 (oN 5) w12.heap.size rfl); clear hown hb) | (at_builtin; refine apg (w12.alloc (.cells #[.int .i64 5, .int .i64 0, .int .i64 0, .string ⟨#[]⟩, .string ⟨#[]⟩] 40)) 1 rfl _ _ 25 40 _ 5 56 Tryd.underlying25 Tryd.info40 rfl (by omega) rfl (HO12.out.alloc _) (by simp at hz12 ⊢; omega) (by omega) (by unfold maxLen; omega) (ocs_one _) HRD.out rfl rfl ?_; intro v13 w13 hown hb _; have hz13 := hb.size; have HO13 := Lib.hid hown; have HB13 := Lib.hid ((HB12.out.alloc (by simp at hz12 ⊢; omega) _).trans hb); clear hown hb))
        have hz12' : wr.heap.size + 1 ≤ w13.heap.size := by have := HB13.out.size; simpa using this
        have HC13 : Hid (Rd w13 2 4 (.slice (some ⟨wr.heap.size, 0, none⟩) 4 4) (ccs c4t)) := Lib.hid ((rd_c4 wr _ _ _ _ _ _ _ _ _ rfl).below (HB13.out.mono (by simp)))
        have B13 : Below wr.heap.size wr w13 := ((Below.refl wr.heap.size wr).alloc (Nat.le_refl _) _).trans (HB13.out.mono (by omega))
        have HBB13 := Lib.hid B13
        have HW13 := Lib.hid (into HWR.out B13)
        clear B13
        refine (HEV.out w13 4 4 _ _ _ v13 c4t (r4 p z tk tn t) (lx ++ [oN 5]) qe ev HW13.out HC13.out (by decide) (HRR.out.below HBB13.out) (by rw [ocs_app]; exact Rd.own HO13.out) HSM.out HEE.out).mono ?_
        rintro e w14 ⟨rfl, hb14⟩
        have HB14 := Lib.hid (into HBB13.out hb14)
        have hz14 := HB14.out.size
        have hv14 := (HB14.out.block w5.heap.size (by omega)).trans HVR.out
        obtain ⟨b0, b1, b2⟩ := box3w ((((Below.refl w14.heap.size w14).alloc (Nat.le_refl _) (.cells #[.int .i64 ev.k, .int .i64 ev.n, .string ev.t] 33)).block w5.heap.size (by omega)).trans hv14)
        clear hb14 hv14
        go_wp2_with fail
        refine (HTW.out _).mono ?_
        rintro e w15 ⟨rfl, hb15⟩
        have HB15 : Hid (Below w14.heap.size w14 w15) := Lib.hid (into (by go_grown) hb15)
        have hz15 : w14.heap.size < w15.heap.size := by have := hb15.size; simp at this; omega
        have r15 := (hb15.block w14.heap.size (by simp)).trans (new0 w14 (.cells #[.int .i64 ev.k, .int .i64 ev.n, .string ev.t] 33))
        obtain ⟨f0, f1, f2⟩ := box3w ((((Below.refl w15.heap.size w15).alloc (Nat.le_refl _) (.cells #[.int .i64 rv.k, .int .i64 rv.n, .string rv.t] 33)).block w14.heap.size (by omega)).trans r15)
        have HBZ : Hid (Below W.heap.size W (w15.alloc (.cells #[.int .i64 rv.k, .int .i64 rv.n, .string rv.t] 33))) := Lib.hid ((into (into HWR.out HB14.out) HB15.out).alloc (into (into HWR.out HB14.out) HB15.out).size _)
        clear hb15 b0 b1 b2 r15
        by_cases h4 : qe = 4
        · have e4 : (qe == 4) = true := by simp [h4]
          clear h4 f0 f1 f2
          go_wp2_with fail
          go_ret
          exact ⟨rfl, HBZ.out⟩
        · have e4 : (qe == 4) = false := by simpa using h4
          have hee : (qe, ev) = (qr, rv) := by
            rcases HEV2.out with h | h
            · exact absurd (Prod.mk.inj h).1 h4
            · exact h
          obtain ⟨rfl, rfl⟩ := Prod.mk.inj hee
          clear h4 hee
          go_wp2_with fail
          go_ret
          exact ⟨rfl, HBZ.out⟩

set_option maxRecDepth 100000 in
theorem lifted (os : Os) (started : os.Started) (H : Type) (enc : TypeId × Value → H) :
    ReturnsInHanded {} Tryd.checked os 4 .any (fun w args => (Rows.evalNotSpec.pre enc Tryd.prog Tryd.f4 [] false w args ∧ laidX w) ∧ sizedMet enc Tryd.prog Tryd.f4 (OpenSpec.ofChange Rows.evalNotSpec) false w args) (Rows.evalNotSpec.post enc Tryd.prog Tryd.f4 false true false false) := by
  refine returnsInHanded_of_change_and (C := Tryd.checked) (X := fun w _ => laidX w) (fun _ _ _ hh h => h.of_heap hh) Tryd.own started (by kernel_rfl) Tryd.func4
    (ChangeSpec.witness_at (enc := enc) (C := Tryd.checked) (os := os) (X := fun w _ => laidX w) false (tabledX os) #[.agg #[.int .i64 0, .int .i64 0, .string ⟨#[]⟩, .slice none 0 0], .agg #[.int .i64 0, .int .i64 0, .string ⟨#[]⟩, .slice none 0 0], .int .i64 0, .int .i64 0, .string ⟨#[]⟩, .int .i64 0] 8 rfl (by kernel_rfl) (by kernel_rfl) (by kernel_rfl) (by kernel_rfl) (by kernel_rfl) (tabledX_laidX os _)) ?_
  intro W base args ds gs before hval0 hW hcnd hsz0 hL _
  have hsz : (DataW.weightsEach Tryd.prog (Tryd.f4.params.toList ++ Rows.evalNotSpec.plain.varTypes Tryd.prog) (ds ++ gs)).all (· ≤ reachBytes) = true := hsz0
  have hval : ∀ (j : Nat) t v, Tryd.f4.params[j]? = some t → args[j]? = some v → Value.okWide Tryd.prog W .any base t v := hval0
  have hW' := hW
  obtain ⟨p, q, hA0, hV, rfl, hfz, hnd⟩ := hW
  have hA : DataW.TrodAll enc Tryd.prog W 0 (fun _ => true) true Tryd.f4.params.toList args.toList ds p := hA0
  rw [Tryd.params4] at hA hval hsz
  obtain ⟨v0, v1, v2, v3, v4, v5, d0, d1, d2, d3, d4, d5, p0, p1, p2, p3, p4, p5, rfl, rfl, rfl, h0, h1, h2, h3, h4, h5⟩ := trodAll_six hA
  obtain ⟨rfl, rfl⟩ := trodVars_none hV
  have sm0 : small Tryd.prog 24 d0 := fun q hq => by
    have := List.all_eq_true.1 hsz q (weights_each (j := 0) rfl rfl q hq)
    simpa using this
  obtain ⟨k0, n0, s0, o0, m0, c0, rfl, wk0, wn0, ws0, wt0⟩ := open_twig (hval 0 24 v0 rfl rfl) h0 sm0
  have sm1 : small Tryd.prog 24 d1 := fun q hq => by
    have := List.all_eq_true.1 hsz q (weights_each (j := 1) rfl rfl q hq)
    simpa using this
  obtain ⟨k1, n1, s1, o1, m1, c1, rfl, wk1, wn1, ws1, wt1⟩ := open_twig (hval 1 24 v1 rfl rfl) h1 sm1
  obtain ⟨a2, rfl, rfl, rfl, w2⟩ := open_int Tryd.underlying3 (hval 2 3 v2 rfl rfl) h2
  obtain ⟨a3, rfl, rfl, rfl, w3⟩ := open_int Tryd.underlying3 (hval 3 3 v3 rfl rfl) h3
  obtain ⟨t4, rfl, rfl, rfl, ws4⟩ := open_string Tryd.underlying9 (hval 4 9 v4 rfl rfl) h4
  obtain ⟨a5, rfl, rfl, rfl, w5⟩ := open_int Tryd.underlying3 (hval 5 3 v5 rfl rfl) h5
  clear hA0 hval0
  refine (walk W (X_of hL) k0 n0 s0 o0 m0 c0 wk0 wn0 ws0 wt0 k1 n1 s1 o1 m1 c1 wk1 wn1 ws1 wt1 a2 w2 a3 w3 t4 ws4 a5 w5).mono fun e W' ⟨he, hg⟩ => ?_
  subst he
  exact ⟨_, rfl, law_post (tb := 4) Tryd.laidOut (by kernel_rfl) (by kernel_rfl) Tryd.underlying4 rfl hW' hg rfl rfl rfl⟩

theorem bare : Rows.EvalNotSaid :=
  OpenClaim.holds_of_wide 4 Tryd.f4 rfl rfl rfl rfl rfl rfl rfl ⟨rfl, rfl, rfl, rfl, rfl⟩ rfl rfl rfl rfl rfl (by kernel_rfl) Tryd.func4 (by kernel_rfl)
    (of_decide_eq_true (by kernel_rfl)) (by unfold Func.isWrapper; first | (rw [if_pos (by decide +kernel)]; kernel_rfl) | (rw [if_neg (by decide +kernel)]; exact ⟨rfl, rfl⟩))
    (fun os started H enc _ => lifted os started H enc)
/-- The card: the row's one listed variable is tied to the program's text. -/
theorem proved : Rows.EvalNotCardSaid :=
  Claim7.holds_tied_plain_at .later [] [.data, .data, .data, .data, .data, .data] true _ false bare (fun _ h => by cases h) (by kernel_rfl) (fun _ h => by cases h) evalNot_row_tie rfl ⟨rfl, rfl⟩ (by kernel_rfl) rfl
    (fun f fn hf hfn => by
      obtain rfl : f = 4 := Option.some.inj ((show Tryd.prog.funcNamed "padlock/padlockkeep.EvalNot" = some 4 by kernel_rfl).symm.trans hf) |>.symm
      obtain rfl : fn = Tryd.f4 := (Option.some.inj (Tryd.func4.symm.trans hfn)).symm
      refine ⟨by kernel_rfl, fun j t ht => ?_⟩
      rw [Tryd.params4] at ht
      rcases j with _ | _ | _ | _ | _ | _ | j <;> simp at ht <;> subst ht <;> kernel_rfl)
    (by kernel_rfl)
#print axioms proved
end Go.Proofs.YtjnfhhmhbeobbaaDoor.lEvalNot

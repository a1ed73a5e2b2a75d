/- What is greater is less the other way round: the two statements are parsed as one, with the greater number's place first. The row lists the program's seven tables; the card ties them to the program's text. -/
import Derived.Deep.DeepCutAuto
import Derived.Test.YtdeollmeljaaoaaDoorAzk
import Derived.Test.YtdeollmeljaaoaaDoorBak
import Derived.Test.YtdeollmeljaaoaaDoorBbk
namespace Go.Proofs.YtdeollmeljaaoaaDoor.lParseTurns
open Go.ChangeShapes Go.WideShapes Go.ChangeAt Go.RowKit Go.Joins
open Go.ChangeMaps (open_string shut_string)
set_option linter.unusedVariables false
set_option linter.unusedSimpArgs false
set_option maxHeartbeats 400000

set_option maxHeartbeats 8000000
set_option maxRecDepth 100000
open Go.Proofs.YtdeollmeljaaoaaDoor.rd Go.Proofs.YtdeollmeljaaoaaDoor.cs
theorem rd_row {w : World} {b s n : Nat} {xs : List Value} {T : TypeId} (h : w.heap[b]? = some (.cells xs.toArray T (0, 0))) (hl : xs.length = n * s) (hn : n ≤ 1000) : Rd w s n (.slice (some ⟨b, 0, none⟩) n n) xs := by
  refine ⟨hl, _, _, rfl, Nat.le_refl _, by unfold maxLen; omega, fun h => (by cases h), fun x hx j u hu => ?_⟩
  obtain rfl := Option.some.inj hx
  rw [Addr.add_lit]
  simp only [World.cell?]
  rw [h]
  simpa using hu
theorem val2 (n : Int) (w : World) : Calls Tryd.prog 15 #[.agg #[.int .i64 2, .int .i64 n, .string ⟨#[]⟩]] w fun e w' => e = .returned (.agg #[.int .i64 2, .int .i64 n, .string ⟨#[]⟩]) ∧ Below w.heap.size w w' := by
  have HP : Hid (∀ W, Calls Tryd.prog 14 #[.int .i64 2, .int .i64 4] W fun e w' => e = .returned (.int .i64 2) ∧ W = w') := fun W => pck_any 2 4 W (by unfold Rn; omega) (by omega) (by omega)
  go_enter Tryd.func15, Tryd.ntmps15
  go_wp2_with fail
  refine (HP.out _).mono ?_
  rintro e w1 ⟨rfl, rfl⟩
  go_wp2_with fail
  refine body_nm (fun W hW => ?_)
  have hR : W.heap[w.heap.size + 1]? = some (.cells #[.int .i64 2, .int .i64 n, .string ⟨#[]⟩] 50 (0, 0)) := by rw [hW]; exact new1 _ _ _
  have hb : Below w.heap.size w W := by rw [hW]; exact ((Below.refl _ _).alloc (Nat.le_refl _) _).alloc (by simp) _
  obtain ⟨r0, r1, r2, -⟩ := bx3 hR
  refine bodyPost_ret (v := .agg #[.int .i64 2, .int .i64 n, .string ⟨#[]⟩]) (by simp [results, Tryd.results15, go_sem, r0, r1, r2]; try rfl) rfl ?_
  exact ⟨rfl, hb⟩
abbrev turnC (x y : Int) (m : ByteArray) : Array Value := #[.int .i64 1, .string ⟨#[68, 69, 76, 69, 84, 69]⟩, .int .i64 0, .int .i64 1, .string ⟨#[70, 82, 79, 77]⟩, .int .i64 0, .int .i64 1, .string ⟨#[116]⟩, .int .i64 0, .int .i64 1, .string ⟨#[87, 72, 69, 82, 69]⟩, .int .i64 0, .int .i64 2, .string ⟨#[]⟩, .int .i64 x, .int .i64 4, .string m, .int .i64 0, .int .i64 2, .string ⟨#[]⟩, .int .i64 y]
theorem turn_rd {w : World} {b : Nat} {x y : Int} {m : UInt8} {T : TypeId} (h : w.heap[b]? = some (.cells (turnC x y ⟨#[m]⟩) T (0, 0))) : Rd w 3 7 (.slice (some ⟨b, 0, none⟩) 7 7) (tkc (headT ++ [nu x, mk_ [m], nu y])) := rd_row (xs := tkc (headT ++ [nu x, mk_ [m], nu y])) h rfl (by omega)
theorem turn_ok {x y : Int} {m : UInt8} (hm : tkF 4 [m] 0 = 0) (hx : 0 ≤ x) (hy : 0 ≤ y) : ∀ t ∈ headT ++ [nu x, mk_ [m], nu y], tkF t.k t.t t.n = 0 := by
  intro t ht
  simp only [List.mem_append, List.mem_cons, List.not_mem_nil, or_false] at ht
  rcases ht with ht | rfl | rfl | rfl
  · exact head_ok t ht
  · exact tk_nu hx
  · exact hm
  · exact tk_nu hy
theorem turn_z {x y : Int} {m : UInt8} (hx : x ≤ 1000) (hy : y ≤ 1000) : ∀ k, ((headT ++ [nu x, mk_ [m], nu y]).getD k tk0).t.length ≤ maxLen ∧ ((headT ++ [nu x, mk_ [m], nu y]).getD k tk0).n ≤ 9223372036854775807 := by
  intro k
  unfold maxLen
  match k with
  | 0 => exact ⟨by show (6 : Nat) ≤ _; omega, by show (0 : Int) ≤ _; omega⟩
  | 1 => exact ⟨by show (4 : Nat) ≤ _; omega, by show (0 : Int) ≤ _; omega⟩
  | 2 => exact ⟨by show (1 : Nat) ≤ _; omega, by show (0 : Int) ≤ _; omega⟩
  | 3 => exact ⟨by show (5 : Nat) ≤ _; omega, by show (0 : Int) ≤ _; omega⟩
  | 4 => exact ⟨by show (0 : Nat) ≤ _; omega, by show x ≤ _; omega⟩
  | 5 => exact ⟨by show (1 : Nat) ≤ _; omega, by show (0 : Int) ≤ _; omega⟩
  | 6 => exact ⟨by show (0 : Nat) ≤ _; omega, by show y ≤ _; omega⟩
  | k + 7 => exact ⟨by show (0 : Nat) ≤ _; omega, by show (0 : Int) ≤ _; omega⟩
theorem lit2 {n : Int} (h : 0 ≤ n) : Go.Proofs.YtdeollmeljaaoaaDoor.litF 2 n ⟨#[]⟩ = 0 := by
  unfold Go.Proofs.YtdeollmeljaaoaaDoor.litF
  rw [if_neg (by omega)]
  unfold chk nmb
  simp
  show (0 : Nat) ≤ 20
  omega
theorem op1 {n : Int} (h : 0 ≤ n) : opF 1 2 n ⟨#[]⟩ ⟨#[]⟩ = 0 := by
  unfold opF
  rw [if_neg (by omega), if_neg (by rw [lit2 h]; simp), if_neg (by simp), if_neg (by omega)]
theorem op7 : opF 7 0 0 ⟨#[]⟩ ⟨#[]⟩ = 0 := by decide +kernel
theorem turn_ex {x y : Int} (hx : 0 ≤ x) (hy : 0 ≤ y) : exprF [liq y, liq x, opO 7] = 0 := by
  unfold exprF
  rw [if_neg (by simp)]
  have e1 : exF 0 [liq y, liq x, opO 7] = exF 1 [liq x, opO 7] := by
    show (if opF 1 2 y ⟨#[]⟩ ⟨#[]⟩ ≠ 0 then _ else _) = _
    rw [op1 hy]
    rfl
  have e2 : exF 1 [liq x, opO 7] = exF 2 [opO 7] := by
    show (if opF 1 2 x ⟨#[]⟩ ⟨#[]⟩ ≠ 0 then _ else _) = _
    rw [op1 hx]
    rfl
  rw [e1, e2]
  decide +kernel
theorem turn_st {x y : Int} (hx : 0 ≤ x ∧ x < 1000) (hy : 0 ≤ y ∧ y < 1000) : stF (delS [liq y, liq x, opO 7]) = 0 := by
  have h1 : partsF (delS [liq y, liq x, opO 7]) = 0 := by
    show whF [liq y, liq x, opO 7] = 0
    unfold whF
    rw [if_neg (by simp), turn_ex hx.1 hy.1]
  have h2 : tabF (delS [liq y, liq x, opO 7]) = 0 := by
    show (if (6 : Int) ≤ 6 then nmF [116] else 0) = 0
    decide +kernel
  have h3 : moreF (delS [liq y, liq x, opO 7]) = false := by simp [moreF, delS]; decide +kernel
  have h0 : st0 (delS [liq y, liq x, opO 7]) = 0 := by
    unfold st0
    rw [if_neg (by show ¬ ((6 : Int) < 1 ∨ 9 < (6 : Int)); omega), h1, h2, h3]
    rfl
  have hl : (shT (delS [liq y, liq x, opO 7])).length ≤ 100 := by
    show ([ptk sDELETE, ptk sFROM, ptk ⟨#[116]⟩] ++ whT [liq y, liq x, opO 7]).length ≤ 100
    have e : whT [liq y, liq x, opO 7] = [ptk sWHERE] ++ twT 7 (lfT (liq y)) (lfT (liq x)) := rfl
    have l1 := lfT_len (liq y)
    have l2 := lfT_len (liq x)
    rw [e, List.length_append, List.length_append, twT_len]
    simp
    omega
  unfold stF
  rw [if_neg (by rw [h0]; simp), if_neg (by omega)]
theorem wf_n {x : Int} (hx : 0 ≤ x ∧ x < 1000) : (Lit.int .i64 x).wf = true := by
  simp [Lit.wf, IntKind.min, IntKind.max, IntKind.signed, IntKind.bits]
  omega
theorem turn_sqz {x y : Int} (hx : 0 ≤ x ∧ x < 1000) (hy : 0 ≤ y ∧ y < 1000) : SqZ (delS [liq y, liq x, opO 7]) := by
  have z0 : (⟨#[]⟩ : ByteArray).size ≤ maxLen := by show (0 : Nat) ≤ maxLen; omega
  refine ⟨by show (1 : Nat) ≤ maxLen; unfold maxLen; omega, z0, z0, by simp [delS], by simp [delS], by simp [delS], fun o ho => ?_, by simp [delS]⟩
  have ho : o ∈ [liq y, liq x, opO 7] := ho
  simp only [List.mem_cons, List.not_mem_nil, or_false] at ho
  rcases ho with rfl | rfl | rfl
  · exact ⟨wf_n hy, z0, z0⟩
  · exact ⟨wf_n hx, z0, z0⟩
  · exact ⟨by decide, z0, z0⟩
theorem turn_sqs (x y : Int) : SqS (delS [liq y, liq x, opO 7]) :=
  ⟨by show (1 : Nat) ≤ _; omega, by show (0 : Nat) ≤ _; omega, by show (0 : Nat) ≤ _; omega, by show (0 : Nat) ≤ _; omega, by show (0 : Nat) ≤ _; omega, by show (0 : Nat) ≤ _; omega, by show (3 : Nat) ≤ _; omega, by show (0 : Nat) ≤ _; omega⟩
theorem walk (W : World) (hL : Tby W) (a : Int) (wa : (Lit.int .i64 a).wf = true) (b : Int) (wb : (Lit.int .i64 b).wf = true) :
    Calls Tryd.prog 6 #[.int .i64 a, .int .i64 b] W fun e w' => e = .returned (.bool true) ∧ Below W.heap.size W w' := by
  have HPX : Hid (∀ w, Calls Tryd.prog 14 #[.int .i64 a, .int .i64 1000] w fun e w' => e = .returned (.int .i64 (pck a 1000)) ∧ w = w') := fun w => pck_any a 1000 w (rn_of wa) (by omega) (by omega)
  have HPY : Hid (∀ w, Calls Tryd.prog 14 #[.int .i64 b, .int .i64 1000] w fun e w' => e = .returned (.int .i64 (pck b 1000)) ∧ w = w') := fun w => pck_any b 1000 w (rn_of wb) (by omega) (by omega)
  have hx := pck_in a 1000 (by omega)
  have hy := pck_in b 1000 (by omega)
  obtain ⟨x, hxx⟩ : ∃ x, x = pck a 1000 := ⟨_, rfl⟩
  obtain ⟨y, hyy⟩ : ∃ y, y = pck b 1000 := ⟨_, rfl⟩
  rw [← hxx] at HPX hx
  rw [← hyy] at HPY hy
  clear hxx hyy
  have HV : Hid (∀ n w, Calls Tryd.prog 15 #[.agg #[.int .i64 2, .int .i64 n, .string ⟨#[]⟩]] w fun e w' => e = .returned (.agg #[.int .i64 2, .int .i64 n, .string ⟨#[]⟩]) ∧ Below w.heap.size w w') := fun n w => val2 n w
  have hpa : parseF (headT ++ [nu x, mk_ [62], nu y]) = (delS [liq y, liq x, opO 7], 0, 0) := parse_good (by show (7 : Nat) ≤ 100; omega) (turn_ok (by decide) hx.1 hy.1) (st_more x y)
  have hpb : parseF (headT ++ [nu y, mk_ [60], nu x]) = (delS [liq y, liq x, opO 7], 0, 0) := parse_good (by show (7 : Nat) ≤ 100; omega) (turn_ok (by decide) hy.1 hx.1) (st_less y x)
  have HA : Hid (∀ w c, Below W.heap.size W w → w.heap[c]? = some (.cells (turnC x y ⟨#[62]⟩) 45 (0, 0)) → Calls Tryd.prog 12 #[.slice (some ⟨c, 0, none⟩) 7 7] w (Pz w (delS [liq y, liq x, opO 7], 0, 0))) := fun w c hb h => by
    have := parse_any w 7 _ _ (hL.q.below hb) (turn_rd h) (turn_z (by omega) (by omega))
    rwa [hpa] at this
  have HB : Hid (∀ w c, Below W.heap.size W w → w.heap[c]? = some (.cells (turnC y x ⟨#[60]⟩) 45 (0, 0)) → Calls Tryd.prog 12 #[.slice (some ⟨c, 0, none⟩) 7 7] w (Pz w (delS [liq y, liq x, opO 7], 0, 0))) := fun w c hb h => by
    have := parse_any w 7 _ _ (hL.q.below hb) (turn_rd h) (turn_z (by omega) (by omega))
    rwa [hpb] at this
  have HXY := Lib.hid (And.intro hx hy)
  clear hpa hpb hx hy
  go_enter Tryd.func6, Tryd.ntmps6
  go_wp2_with fail
  refine (HPX.out _).mono ?_
  rintro e w0 ⟨rfl, hw⟩
  obtain rfl : W = w0 := hw
  go_wp2_with fail
  refine (HV.out x _).mono ?_
  rintro e w1 ⟨rfl, hb1⟩
  have HB1 := Lib.hid hb1
  clear hb1
  go_wp2_with fail
  refine calls_nm (fun w2 hW => ?_)
  have hx2 : w2.heap[w1.heap.size]? = some (.cells #[.int .i64 2, .int .i64 x, .string ⟨#[]⟩] 50 (0, 0)) := by rw [hW]; exact new0 _ _
  have hb2 : Below w1.heap.size w1 w2 := by rw [hW]; exact (Below.refl _ _).alloc (Nat.le_refl _) _
  have HB2 := Lib.hid (into HB1.out hb2)
  obtain ⟨X, hX⟩ : ∃ X, X = w1.heap.size := ⟨_, rfl⟩
  rw [← hX] at hx2 ⊢
  clear hW hb2 HB1 hX
  refine (HPY.out _).mono ?_
  rintro e w3 ⟨rfl, rfl⟩
  go_wp2_with fail
  refine (HV.out y _).mono ?_
  rintro e w3 ⟨rfl, hb3⟩
  have hx3 := (hb3.block _ (blk_lt hx2)).trans hx2
  obtain ⟨x0, x1, x2, -⟩ := bx3 hx3
  have HX3 := Lib.hid hx3
  have HB3 := Lib.hid (into HB2.out hb3)
  have hlx := blk_lt hx3
  have hnx : ¬ X = w3.heap.size := by omega
  clear hb3 hx2 hx3
  go_wp2_with fail
  refine calls_nm (fun w4 hW => ?_)
  have hb4 : Below w3.heap.size w3 w4 := by rw [hW]; exact ((Below.refl _ _).alloc (Nat.le_refl _) _).alloc (by simp) _
  have hy4 : w4.heap[w3.heap.size]? = some (.cells #[.int .i64 2, .int .i64 y, .string ⟨#[]⟩] 50 (0, 0)) := by rw [hW]; exact (Below.heap_alloc _ _ _ (by simp)).trans (new0 _ _)
  have hc4 : w4.heap[w3.heap.size + 1]? = some (.cells (turnC x y ⟨#[62]⟩) 45 (0, 0)) := by rw [hW]; exact new1 _ _ _
  have HY4 := Lib.hid (And.intro hy4 hc4)
  have HB4 := Lib.hid (into HB3.out hb4)
  have HX4 := Lib.hid ((hb4.block _ hlx).trans HX3.out)
  obtain ⟨Y, hY⟩ : ∃ Y, Y = w3.heap.size := ⟨_, rfl⟩
  rw [← hY] at HY4 hnx ⊢
  have HXY2 : Hid (X < Y) := by show _ < _; omega
  have HLW : Hid (W.heap.size ≤ Y) := by show _ ≤ _; rw [hY]; exact HB3.out.size
  clear hb4 hy4 hc4 hW hlx HX3 x0 x1 x2 hY
  refine (HA.out w4 _ HB4.out HY4.out.2).mono ?_
  rintro e w5 ⟨p5, rfl, ho5, hb5⟩
  have HB5 := Lib.hid (into HB4.out hb5)
  have HX5 := Lib.hid ((hb5.block _ (blk_lt HX4.out)).trans HX4.out)
  have HY5 := Lib.hid (And.intro ((hb5.block _ (blk_lt HY4.out.1)).trans HY4.out.1) ((hb5.block _ (blk_lt HY4.out.2)).trans HY4.out.2))
  have HO5 := Lib.hid ho5
  have HL5 := Lib.hid (show Y + 1 < w4.heap.size from blk_lt HY4.out.2)
  have hl5 := hb5.size
  clear hb5 ho5 HA
  obtain ⟨x0, x1, x2, -⟩ := bx3 HX5.out
  obtain ⟨y0, y1, y2, -⟩ := bx3 HY5.out.1
  obtain ⟨a2, n2, c2, a3, n3, c3, a4, n4, c4, a6, n6, c6, a11, n11, c11⟩ := p5
  go_upto_region 5 with (fail)
  refine code_nm (fun w6 hW => ?_)
  have hb6 : Below w5.heap.size w5 w6 := by rw [hW]; exact (Below.refl _ _).alloc (Nat.le_refl _) _
  have hs6 : w6.heap[w5.heap.size]? = some (.cells (stC (delS [liq y, liq x, opO 7]) ⟨a2, n2, c2, a3, n3, c3, a4, n4, c4, a6, n6, c6, a11, n11, c11⟩) 33 (0, 0)) := by rw [hW]; exact new0 _ _
  have HS6 := Lib.hid hs6
  have hx6 := (hb6.block _ (blk_lt HX5.out)).trans HX5.out
  have hy6 := (hb6.block _ (blk_lt HY5.out.1)).trans HY5.out.1
  have hc6 := (hb6.block _ (blk_lt HY5.out.2)).trans HY5.out.2
  have HB6 := Lib.hid (into HB5.out hb6)
  have HL6 := Lib.hid hb6
  obtain ⟨A, hA⟩ : ∃ A, A = w5.heap.size := ⟨_, rfl⟩
  have hYA : Y + 1 < A := by have := HL5.out; omega
  rw [← hA] at HS6 ⊢
  clear hW hb6 hs6 HY5 x0 x1 x2 y0 y1 y2 hA hl5
  obtain ⟨x0, x1, x2, -⟩ := bx3 hx6
  obtain ⟨y0, y1, y2, -⟩ := bx3 hy6
  have d14 : w6.cell? ⟨Y + 1, 14, none⟩ = some (.int .i64 x) := by simp only [World.cell?]; rw [hc6]; rfl
  have d16 : w6.cell? ⟨Y + 1, 16, none⟩ = some (.string ⟨#[62]⟩) := by simp only [World.cell?]; rw [hc6]; rfl
  have d20 : w6.cell? ⟨Y + 1, 20, none⟩ = some (.int .i64 y) := by simp only [World.cell?]; rw [hc6]; rfl
  have f14 : w6.frozen? ⟨Y + 1, 14, none⟩ = false := by simp only [World.frozen?]; rw [hc6]; rfl
  have f16 : w6.frozen? ⟨Y + 1, 16, none⟩ = false := by simp only [World.frozen?]; rw [hc6]; rfl
  have f20 : w6.frozen? ⟨Y + 1, 20, none⟩ = false := by simp only [World.frozen?]; rw [hc6]; rfl
  have hXY : ¬ X = Y + 1 := by have := HXY2.out; omega
  have HX6 := Lib.hid hx6
  have HY6 := Lib.hid hy6
  have HC6 := Lib.hid hc6
  clear hx6 hy6 hc6
  go_wp2_with fail
  refine calls_nm (fun w7 hW => ?_)
  have hb7 : Below W.heap.size W w7 := by rw [hW]; exact ((HB6.out.setCell (p := ⟨Y + 1, 16, none⟩) (by have := HLW.out; show _ ≤ Y + 1; omega) _).setCell (p := ⟨Y + 1, 14, none⟩) (by have := HLW.out; show _ ≤ Y + 1; omega) _).setCell (p := ⟨Y + 1, 20, none⟩) (by have := HLW.out; show _ ≤ Y + 1; omega) _
  have hf7 : ∀ k, k ≠ Y + 1 → w7.heap[k]? = w6.heap[k]? := fun k hk => by rw [hW]; exact (Below.heap_setCell _ _ _ _ hk).trans ((Below.heap_setCell _ _ _ _ hk).trans (Below.heap_setCell _ _ _ _ hk))
  have hc7 : w7.heap[Y + 1]? = some (.cells (turnC y x ⟨#[60]⟩) 45 (0, 0)) := by
    rw [hW]
    have h0 := Lib.heap_setCell_same (i := 16) HC6.out (.string ⟨#[60]⟩)
    have h1 := Lib.heap_setCell_same (i := 14) h0 (.int .i64 y)
    have h2 := Lib.heap_setCell_same (i := 20) h1 (.int .i64 x)
    simpa using h2
  have hx7 := (hf7 X hXY).trans HX6.out
  have hy7 := (hf7 Y (by omega)).trans HY6.out
  have hs7 := (hf7 A (by omega)).trans HS6.out
  have ho7 := HO5.out.far (w' := w7) fun k hk hl => (hf7 k (by have := HL5.out; omega)).trans (HL6.out.block k hl)
  have HX7 := Lib.hid (And.intro hx7 (And.intro hy7 hs7))
  have HO7 := Lib.hid ho7
  have HB7 := Lib.hid hb7
  have HC7 := Lib.hid hc7
  have HS7 : Hid (w6.heap.size = w7.heap.size) := by show _ = _; rw [hW]; simp
  clear hW hb7 hf7 hc7 hx7 hy7 hs7 ho7 d14 d16 d20 f14 f16 f20 x0 x1 x2 y0 y1 y2
  refine (HB.out w7 _ HB7.out HC7.out).mono ?_
  rintro e w8 ⟨p8, rfl, ho8, hb8⟩
  have HB8 := Lib.hid (into HB7.out hb8)
  have HX8 := Lib.hid (And.intro ((hb8.block _ (blk_lt HX7.out.1)).trans HX7.out.1) (And.intro ((hb8.block _ (blk_lt HX7.out.2.1)).trans HX7.out.2.1) ((hb8.block _ (blk_lt HX7.out.2.2)).trans HX7.out.2.2)))
  have HO8 := Lib.hid (HO7.out.far fun k hk hl => hb8.block k hl)
  have HP8 := Lib.hid ho8
  have hA8 : A < w8.heap.size := blk_lt HX8.out.2.2
  clear hb8 ho8 HB HX7 HO7
  obtain ⟨b2, m2, d2, b3, m3, d3, b4, m4, d4, b6, m6, d6, b11, m11, d11⟩ := p8
  go_upto_region 9 with (fail)
  refine code_nm (fun w9 hW => ?_)
  have hb9 : Below w8.heap.size w8 w9 := by rw [hW]; exact (Below.refl _ _).alloc (Nat.le_refl _) _
  have hs9 : w9.heap[w8.heap.size]? = some (.cells (stC (delS [liq y, liq x, opO 7]) ⟨b2, m2, d2, b3, m3, d3, b4, m4, d4, b6, m6, d6, b11, m11, d11⟩) 33 (0, 0)) := by rw [hW]; exact new0 _ _
  have HS9 := Lib.hid hs9
  have HY9 := Lib.hid ((hb9.block _ (blk_lt HX8.out.2.1)).trans HX8.out.2.1)
  have HA9 := Lib.hid ((hb9.block _ (blk_lt HX8.out.2.2)).trans HX8.out.2.2)
  have HO9 := Lib.hid (HO8.out.rd.below hb9)
  have HP9 := Lib.hid (HP8.out.rd.below hb9)
  have HB9 := Lib.hid (into HB8.out hb9)
  obtain ⟨Z, hZ⟩ : ∃ Z, Z = w8.heap.size := ⟨_, rfl⟩
  rw [← hZ] at HS9 hA8 ⊢
  clear hW hb9 hs9 hZ HX8
  obtain rfl : n6 = 3 := HO9.out.lens.2.2.2.1
  obtain rfl : m6 = 3 := HP9.out.lens.2.2.2.1
  obtain ⟨rb, ro, rc, hrr, -, -, -, hrc⟩ := HO9.out.r6.pos (by show 0 < 3; omega) (by omega)
  simp only [Value.slice.injEq, true_and] at hrr
  obtain ⟨rfl, rfl⟩ := hrr
  have k1 : w9.cell? ⟨rb, ro + 1, none⟩ = some (.int .i64 2) := hrc 1 _ rfl
  have k2 : w9.cell? ⟨rb, ro + 2, none⟩ = some (.int .i64 y) := hrc 2 _ rfl
  have k3 : w9.cell? ⟨rb, ro + 3, none⟩ = some (.string ⟨#[]⟩) := hrc 3 _ rfl
  have HSM : Hid (∀ w, Below w9.heap.size w9 w → Calls Tryd.prog 13 #[.agg #[.int .i64 6, .string ⟨#[116]⟩, .slice a2 n2 c2, .slice a3 n3 c3, .slice a4 n4 c4, .bool false, .slice (some ⟨rb, ro, none⟩) 3 c6, .string ⟨#[]⟩, .bool false, .int .i64 (-1), .string ⟨#[]⟩, .slice a11 n11 c11], .agg #[.int .i64 6, .string ⟨#[116]⟩, .slice b2 m2 d2, .slice b3 m3 d3, .slice b4 m4 d4, .bool false, .slice b6 3 d6, .string ⟨#[]⟩, .bool false, .int .i64 (-1), .string ⟨#[]⟩, .slice b11 m11 d11]] w fun e w' => e = .returned (.bool true) ∧ Below w.heap.size w w') := fun w hw => same_any w (hL.below (into HB9.out hw)) (delS [liq y, liq x, opO 7]) ⟨a2, n2, c2, a3, n3, c3, a4, n4, c4, some ⟨rb, ro, none⟩, 3, c6, a11, n11, c11⟩ ⟨b2, m2, d2, b3, m3, d3, b4, m4, d4, b6, 3, d6, b11, m11, d11⟩ (HO9.out.below hw) (HP9.out.below hw) (turn_st HXY.out.1 HXY.out.2) (turn_sqz HXY.out.1 HXY.out.2) (turn_sqs x y)
  clear hrc
  refine wpT_begin (S := (fun wx => wx.heap[A]? = some (.cells (stC (delS [liq y, liq x, opO 7]) ⟨a2, n2, c2, a3, n3, c3, a4, n4, c4, (some ⟨rb, ro, none⟩), 3, c6, a11, n11, c11⟩) 33 (0, 0)) ∧ wx.heap[Z]? = some (.cells (stC (delS [liq y, liq x, opO 7]) ⟨b2, m2, d2, b3, m3, d3, b4, m4, d4, b6, 3, d6, b11, m11, d11⟩) 33 (0, 0)) ∧ wx.heap[Y]? = some (.cells #[.int .i64 2, .int .i64 y, .string ⟨#[]⟩] 50 (0, 0)) ∧ wx.cell? ⟨rb, ro + 1, none⟩ = some (.int .i64 2) ∧ wx.cell? ⟨rb, ro + 2, none⟩ = some (.int .i64 y) ∧ wx.cell? ⟨rb, ro + 3, none⟩ = some (.string ⟨#[]⟩))) [] (by kernel_rfl) ?_ (fun hHeld => ?_)
  · (try dsimp only)
    (first | (exact ⟨HA9.out, HS9.out, HY9.out, cell_dr k1, cell_dr k2, cell_dr k3⟩) | (exact ⟨j0, j1, j2, j3, j4, j5⟩))
  refine wpAnyT_pure (i := 0) (oi := _) (v := ?_) rfl (by kernel_rfl) (by kernel_rfl) (by kernel_rfl) (by kernel_rfl) (fun _ _ _ h => h) (Or.inl ⟨by rfl, ?_⟩) (fun _ => by assumption) ?_
  rotate_left
  · (intro w hSw; go_simp)
    all_goals (with_reducible rfl)
  (try simp only [List.getElem_toArray, List.getElem_cons_zero, List.getElem_cons_succ, Act.put, List.setIfInBounds_toArray, List.set_cons_zero, List.set_cons_succ])
  refine wpAnyT_pure (i := 1) (oi := _) (v := ?_) rfl (by kernel_rfl) (by kernel_rfl) (by kernel_rfl) (by kernel_rfl) (fun _ _ _ h => h) (Or.inl ⟨by rfl, ?_⟩) (fun _ => by assumption) ?_
  rotate_left
  · (intro w hSw; go_simp)
    all_goals (with_reducible rfl)
  (try simp only [List.getElem_toArray, List.getElem_cons_zero, List.getElem_cons_succ, Act.put, List.setIfInBounds_toArray, List.set_cons_zero, List.set_cons_succ])
  refine wpAnyT_pure (i := 2) (oi := _) (v := ?_) rfl (by kernel_rfl) (by kernel_rfl) (by kernel_rfl) (by kernel_rfl) (fun _ _ _ h => h) (Or.inl ⟨by rfl, ?_⟩) (fun _ => by assumption) ?_
  rotate_left
  · (intro w hSw; go_simp)
    all_goals (with_reducible rfl)
  (try simp only [List.getElem_toArray, List.getElem_cons_zero, List.getElem_cons_succ, Act.put, List.setIfInBounds_toArray, List.set_cons_zero, List.set_cons_succ])
  refine wpAnyT_pure (i := 3) (oi := _) (v := ?_) rfl (by kernel_rfl) (by kernel_rfl) (by kernel_rfl) (by kernel_rfl) (fun _ _ _ h => h) (Or.inl ⟨by rfl, ?_⟩) (fun _ => by assumption) ?_
  rotate_left
  · (intro w hSw; go_simp)
    all_goals (with_reducible rfl)
  (try simp only [List.getElem_toArray, List.getElem_cons_zero, List.getElem_cons_succ, Act.put, List.setIfInBounds_toArray, List.set_cons_zero, List.set_cons_succ])
  refine wpAnyT_pure (i := 4) (oi := _) (v := ?_) rfl (by kernel_rfl) (by kernel_rfl) (by kernel_rfl) (by kernel_rfl) (fun _ _ _ h => h) (Or.inl ⟨by rfl, ?_⟩) (fun _ => by assumption) ?_
  rotate_left
  · (intro w hSw; go_simp)
    all_goals (with_reducible rfl)
  (try simp only [List.getElem_toArray, List.getElem_cons_zero, List.getElem_cons_succ, Act.put, List.setIfInBounds_toArray, List.set_cons_zero, List.set_cons_succ])
  refine wpAnyT_pure (i := 5) (oi := _) (v := ?_) rfl (by kernel_rfl) (by kernel_rfl) (by kernel_rfl) (by kernel_rfl) (fun _ _ _ h => h) (Or.inl ⟨by rfl, ?_⟩) (fun _ => by assumption) ?_
  rotate_left
  · (intro w hSw; go_simp)
    all_goals (with_reducible rfl)
  (try simp only [List.getElem_toArray, List.getElem_cons_zero, List.getElem_cons_succ, Act.put, List.setIfInBounds_toArray, List.set_cons_zero, List.set_cons_succ])
  refine wpAnyT_pure (i := 6) (oi := _) (v := ?_) rfl (by kernel_rfl) (by kernel_rfl) (by kernel_rfl) (by kernel_rfl) (fun _ _ _ h => h) (Or.inl ⟨by rfl, ?_⟩) (fun _ => by assumption) ?_
  rotate_left
  · (intro w hSw; go_simp)
    all_goals (with_reducible rfl)
  (try simp only [List.getElem_toArray, List.getElem_cons_zero, List.getElem_cons_succ, Act.put, List.setIfInBounds_toArray, List.set_cons_zero, List.set_cons_succ])
  refine wpAnyT_take (i := 7) (oi := _) (v := ?_) rfl (by kernel_rfl) (by kernel_rfl) (by kernel_rfl) (by kernel_rfl) (fun _ _ _ h => h) (Or.inl ⟨by rfl, ?_⟩) (by assumption) ?_
  rotate_left
  · (intro w hSw; (try dsimp only at hSw); obtain ⟨sA, sZ, sY, s1, s2, s3⟩ := hSw; obtain ⟨x0, x1, x2, x3, x4, x5, x6, x7, x8, x9, x10, x11, -⟩ := box12 sA; obtain ⟨u0, u1, u2, u3, u4, u5, u6, u7, u8, u9, u10, u11, -⟩ := box12 sZ; obtain ⟨y0, y1, y2, -⟩ := bx3 sY; go_simp)
    all_goals (with_reducible rfl)
  (try simp only [List.getElem_toArray, List.getElem_cons_zero, List.getElem_cons_succ, Act.put, List.setIfInBounds_toArray, List.set_cons_zero, List.set_cons_succ])
  refine wpAnyT_take (i := 8) (oi := _) (v := ?_) rfl (by kernel_rfl) (by kernel_rfl) (by kernel_rfl) (by kernel_rfl) (fun _ _ _ h => h) (Or.inl ⟨by rfl, ?_⟩) (by assumption) ?_
  rotate_left
  · (intro w hSw; (try dsimp only at hSw); obtain ⟨sA, sZ, sY, s1, s2, s3⟩ := hSw; obtain ⟨x0, x1, x2, x3, x4, x5, x6, x7, x8, x9, x10, x11, -⟩ := box12 sA; obtain ⟨u0, u1, u2, u3, u4, u5, u6, u7, u8, u9, u10, u11, -⟩ := box12 sZ; obtain ⟨y0, y1, y2, -⟩ := bx3 sY; go_simp)
    all_goals (with_reducible rfl)
  (try simp only [List.getElem_toArray, List.getElem_cons_zero, List.getElem_cons_succ, Act.put, List.setIfInBounds_toArray, List.set_cons_zero, List.set_cons_succ])
  refine wpAnyT_ready (rs := [9]) (by kernel_rfl) (by simp) ?_
  refine AllReadyT.cons rfl (fun K hK => ?_) AllReadyT.nil
  go_simp
  (go_at_call 13; ((refine (HSM.out _ (Below.refl _ _).drew).mono ?_); rintro e w10 ⟨rfl, hb10⟩; have j0 := (hb10.block A (blk_lt HA9.out)).trans HA9.out; have j1 := (hb10.block Z (blk_lt HS9.out)).trans HS9.out; have j2 := (hb10.block Y (blk_lt HY9.out)).trans HY9.out; have j3 := (hb10.cell (lt_cell k1)).trans k1; have j4 := (hb10.cell (lt_cell k2)).trans k2; have j5 := (hb10.cell (lt_cell k3)).trans k3; have HB10 := Lib.hid (into HB9.out ((Below.refl _ w9).drew.trans hb10)); clear hb10))
  go_wp2_with fail
  refine hK.out _ _ (fun _ => ?_) (fun hHeld0 => ?_)
  · (try dsimp only)
    (first | (exact ⟨HA9.out, HS9.out, HY9.out, cell_dr k1, cell_dr k2, cell_dr k3⟩) | (exact ⟨j0, j1, j2, j3, j4, j5⟩))
  have hHeld := hHeld0 (by kernel_rfl)
  clear hK K hHeld0
  (try simp only [List.getElem_toArray, List.getElem_cons_zero, List.getElem_cons_succ, Act.put, List.setIfInBounds_toArray, List.set_cons_zero, List.set_cons_succ])
  refine wpAnyT_pure (i := 10) (oi := _) (v := ?_) rfl (by kernel_rfl) (by kernel_rfl) (by kernel_rfl) (by kernel_rfl) (fun _ _ _ h => h) (Or.inl ⟨by rfl, ?_⟩) (fun _ => by assumption) ?_
  rotate_left
  · (intro w hSw; go_simp)
    all_goals (with_reducible rfl)
  (try simp only [List.getElem_toArray, List.getElem_cons_zero, List.getElem_cons_succ, Act.put, List.setIfInBounds_toArray, List.set_cons_zero, List.set_cons_succ])
  refine wpAnyT_pure (i := 11) (oi := _) (v := ?_) rfl (by kernel_rfl) (by kernel_rfl) (by kernel_rfl) (by kernel_rfl) (fun _ _ _ h => h) (Or.inl ⟨by rfl, ?_⟩) (fun _ => by assumption) ?_
  rotate_left
  · (intro w hSw; go_simp)
    all_goals (with_reducible rfl)
  (try simp only [List.getElem_toArray, List.getElem_cons_zero, List.getElem_cons_succ, Act.put, List.setIfInBounds_toArray, List.set_cons_zero, List.set_cons_succ])
  refine wpAnyT_pure (i := 12) (oi := _) (v := ?_) rfl (by kernel_rfl) (by kernel_rfl) (by kernel_rfl) (by kernel_rfl) (fun _ _ _ h => h) (Or.inl ⟨by rfl, ?_⟩) (fun _ => by assumption) ?_
  rotate_left
  · (intro w hSw; go_simp)
    all_goals (with_reducible rfl)
  (try simp only [List.getElem_toArray, List.getElem_cons_zero, List.getElem_cons_succ, Act.put, List.setIfInBounds_toArray, List.set_cons_zero, List.set_cons_succ])
  refine wpAnyT_take (i := 13) (oi := _) (v := ?_) rfl (by kernel_rfl) (by kernel_rfl) (by kernel_rfl) (by kernel_rfl) (fun _ _ _ h => h) (Or.inl ⟨by rfl, ?_⟩) (by assumption) ?_
  rotate_left
  · (intro w hSw; (try dsimp only at hSw); obtain ⟨sA, sZ, sY, s1, s2, s3⟩ := hSw; obtain ⟨x0, x1, x2, x3, x4, x5, x6, x7, x8, x9, x10, x11, -⟩ := box12 sA; obtain ⟨u0, u1, u2, u3, u4, u5, u6, u7, u8, u9, u10, u11, -⟩ := box12 sZ; obtain ⟨y0, y1, y2, -⟩ := bx3 sY; go_simp)
    all_goals (with_reducible rfl)
  (try simp only [List.getElem_toArray, List.getElem_cons_zero, List.getElem_cons_succ, Act.put, List.setIfInBounds_toArray, List.set_cons_zero, List.set_cons_succ])
  refine wpAnyT_pure (i := 14) (oi := _) (v := ?_) rfl (by kernel_rfl) (by kernel_rfl) (by kernel_rfl) (by kernel_rfl) (fun _ _ _ h => h) (Or.inl ⟨by rfl, ?_⟩) (fun _ => by assumption) ?_
  rotate_left
  · (intro w hSw; go_simp)
    all_goals (with_reducible rfl)
  (try simp only [List.getElem_toArray, List.getElem_cons_zero, List.getElem_cons_succ, Act.put, List.setIfInBounds_toArray, List.set_cons_zero, List.set_cons_succ])
  refine wpAnyT_pure (i := 15) (oi := _) (v := ?_) rfl (by kernel_rfl) (by kernel_rfl) (by kernel_rfl) (by kernel_rfl) (fun _ _ _ h => h) (Or.inl ⟨by rfl, ?_⟩) (fun _ => by assumption) ?_
  rotate_left
  · (intro w hSw; go_simp)
    all_goals (with_reducible rfl)
  (try simp only [List.getElem_toArray, List.getElem_cons_zero, List.getElem_cons_succ, Act.put, List.setIfInBounds_toArray, List.set_cons_zero, List.set_cons_succ])
  refine wpAnyT_pure (i := 16) (oi := _) (v := ?_) rfl (by kernel_rfl) (by kernel_rfl) (by kernel_rfl) (by kernel_rfl) (fun _ _ _ h => h) (Or.inl ⟨by rfl, ?_⟩) (fun _ => by assumption) ?_
  rotate_left
  · (intro w hSw; go_simp)
    all_goals (with_reducible rfl)
  (try simp only [List.getElem_toArray, List.getElem_cons_zero, List.getElem_cons_succ, Act.put, List.setIfInBounds_toArray, List.set_cons_zero, List.set_cons_succ])
  refine wpAnyT_pure (i := 17) (oi := _) (v := ?_) rfl (by kernel_rfl) (by kernel_rfl) (by kernel_rfl) (by kernel_rfl) (fun _ _ _ h => h) (Or.inl ⟨by rfl, ?_⟩) (fun _ => by assumption) ?_
  rotate_left
  · (intro w hSw; go_simp)
    all_goals (with_reducible rfl)
  (try simp only [List.getElem_toArray, List.getElem_cons_zero, List.getElem_cons_succ, Act.put, List.setIfInBounds_toArray, List.set_cons_zero, List.set_cons_succ])
  refine wpAnyT_pure (i := 18) (oi := _) (v := ?_) rfl (by kernel_rfl) (by kernel_rfl) (by kernel_rfl) (by kernel_rfl) (fun _ _ _ h => h) (Or.inl ⟨by rfl, ?_⟩) (fun _ => by assumption) ?_
  rotate_left
  · (intro w hSw; go_simp)
    all_goals (with_reducible rfl)
  (try simp only [List.getElem_toArray, List.getElem_cons_zero, List.getElem_cons_succ, Act.put, List.setIfInBounds_toArray, List.set_cons_zero, List.set_cons_succ])
  refine wpAnyT_take (i := 19) (oi := _) (v := ?_) rfl (by kernel_rfl) (by kernel_rfl) (by kernel_rfl) (by kernel_rfl) (fun _ _ _ h => h) (Or.inl ⟨by rfl, ?_⟩) (by assumption) ?_
  rotate_left
  · (intro w hSw; (try dsimp only at hSw); obtain ⟨sA, sZ, sY, s1, s2, s3⟩ := hSw; obtain ⟨x0, x1, x2, x3, x4, x5, x6, x7, x8, x9, x10, x11, -⟩ := box12 sA; obtain ⟨u0, u1, u2, u3, u4, u5, u6, u7, u8, u9, u10, u11, -⟩ := box12 sZ; obtain ⟨y0, y1, y2, -⟩ := bx3 sY; go_simp)
    all_goals (with_reducible rfl)
  (try simp only [List.getElem_toArray, List.getElem_cons_zero, List.getElem_cons_succ, Act.put, List.setIfInBounds_toArray, List.set_cons_zero, List.set_cons_succ])
  refine wpAnyT_pure (i := 20) (oi := _) (v := ?_) rfl (by kernel_rfl) (by kernel_rfl) (by kernel_rfl) (by kernel_rfl) (fun _ _ _ h => h) (Or.inl ⟨by rfl, ?_⟩) (fun _ => by assumption) ?_
  rotate_left
  · (intro w hSw; go_simp)
    all_goals (with_reducible rfl)
  (try simp only [List.getElem_toArray, List.getElem_cons_zero, List.getElem_cons_succ, Act.put, List.setIfInBounds_toArray, List.set_cons_zero, List.set_cons_succ])
  refine wpAnyT_pure (i := 21) (oi := _) (v := ?_) rfl (by kernel_rfl) (by kernel_rfl) (by kernel_rfl) (by kernel_rfl) (fun _ _ _ h => h) (Or.inl ⟨by rfl, ?_⟩) (fun _ => by assumption) ?_
  rotate_left
  · (intro w hSw; go_simp)
    all_goals (with_reducible rfl)
  (try simp only [List.getElem_toArray, List.getElem_cons_zero, List.getElem_cons_succ, Act.put, List.setIfInBounds_toArray, List.set_cons_zero, List.set_cons_succ])
  refine wpAnyT_take (i := 22) (oi := _) (v := ?_) rfl (by kernel_rfl) (by kernel_rfl) (by kernel_rfl) (by kernel_rfl) (fun _ _ _ h => h) (Or.inl ⟨by rfl, ?_⟩) (by assumption) ?_
  rotate_left
  · (intro w hSw; (try dsimp only at hSw); obtain ⟨sA, sZ, sY, s1, s2, s3⟩ := hSw; obtain ⟨x0, x1, x2, x3, x4, x5, x6, x7, x8, x9, x10, x11, -⟩ := box12 sA; obtain ⟨u0, u1, u2, u3, u4, u5, u6, u7, u8, u9, u10, u11, -⟩ := box12 sZ; obtain ⟨y0, y1, y2, -⟩ := bx3 sY; go_simp)
    all_goals (with_reducible rfl)
  (try simp only [List.getElem_toArray, List.getElem_cons_zero, List.getElem_cons_succ, Act.put, List.setIfInBounds_toArray, List.set_cons_zero, List.set_cons_succ])
  refine wpAnyT_take (i := 23) (oi := _) (v := ?_) rfl (by kernel_rfl) (by kernel_rfl) (by kernel_rfl) (by kernel_rfl) (fun _ _ _ h => h) (Or.inl ⟨by rfl, ?_⟩) (by assumption) ?_
  rotate_left
  · (intro w hSw; (try dsimp only at hSw); obtain ⟨sA, sZ, sY, s1, s2, s3⟩ := hSw; obtain ⟨x0, x1, x2, x3, x4, x5, x6, x7, x8, x9, x10, x11, -⟩ := box12 sA; obtain ⟨u0, u1, u2, u3, u4, u5, u6, u7, u8, u9, u10, u11, -⟩ := box12 sZ; obtain ⟨y0, y1, y2, -⟩ := bx3 sY; go_simp)
    all_goals (with_reducible rfl)
  (try simp only [List.getElem_toArray, List.getElem_cons_zero, List.getElem_cons_succ, Act.put, List.setIfInBounds_toArray, List.set_cons_zero, List.set_cons_succ])
  refine wpAnyT_pure (i := 24) (oi := _) (v := ?_) rfl (by kernel_rfl) (by kernel_rfl) (by kernel_rfl) (by kernel_rfl) (fun _ _ _ h => h) (Or.inl ⟨by rfl, ?_⟩) (fun _ => by assumption) ?_
  rotate_left
  · (intro w hSw; go_simp)
    all_goals (with_reducible rfl)
  (try simp only [List.getElem_toArray, List.getElem_cons_zero, List.getElem_cons_succ, Act.put, List.setIfInBounds_toArray, List.set_cons_zero, List.set_cons_succ])
  refine wpAnyT_pure (i := 25) (oi := _) (v := ?_) rfl (by kernel_rfl) (by kernel_rfl) (by kernel_rfl) (by kernel_rfl) (fun _ _ _ h => h) (Or.inl ⟨by rfl, ?_⟩) (fun _ => by assumption) ?_
  rotate_left
  · (intro w hSw; go_simp)
    all_goals (with_reducible rfl)
  (try simp only [List.getElem_toArray, List.getElem_cons_zero, List.getElem_cons_succ, Act.put, List.setIfInBounds_toArray, List.set_cons_zero, List.set_cons_succ])
  refine wpAnyT_pure (i := 26) (oi := _) (v := ?_) rfl (by kernel_rfl) (by kernel_rfl) (by kernel_rfl) (by kernel_rfl) (fun _ _ _ h => h) (Or.inl ⟨by rfl, ?_⟩) (fun _ => by assumption) ?_
  rotate_left
  · (intro w hSw; go_simp)
    all_goals (with_reducible rfl)
  (try simp only [List.getElem_toArray, List.getElem_cons_zero, List.getElem_cons_succ, Act.put, List.setIfInBounds_toArray, List.set_cons_zero, List.set_cons_succ])
  refine wpAnyT_done (by kernel_rfl) ?_ _
  go_wp2_with fail
  go_returns
  exact ⟨rfl, HB10.out⟩
set_option maxHeartbeats 400000

set_option maxRecDepth 100000 in
theorem lifted (os : Os) (started : os.Started) (H : Type) (enc : TypeId × Value → H) :
    ReturnsInHanded {} Tryd.checked os 6 .any (fun w args => (Rows.parseTurnsSpec.pre enc Tryd.prog Tryd.f6 [] false w args ∧ laidY w) ∧ sizedMet enc Tryd.prog Tryd.f6 (OpenSpec.ofChange Rows.parseTurnsSpec) false w args) (Rows.parseTurnsSpec.post enc Tryd.prog Tryd.f6 false true false false) := by
  refine returnsInHanded_of_change_and (C := Tryd.checked) (X := fun w _ => laidY w) (fun _ _ _ hh h => h.of_heap hh) Tryd.own started (by kernel_rfl) Tryd.func6
    (ChangeSpec.witness_at (enc := enc) (C := Tryd.checked) (os := os) (X := fun w _ => laidY w) false (tabledY os) #[.int .i64 0, .int .i64 0] 8 rfl (by kernel_rfl) (by kernel_rfl) (by kernel_rfl) (by kernel_rfl) (by kernel_rfl) (tabledY_laidY os _)) ?_
  intro W base args ds gs before hval0 hW hcnd hsz0 hL _
  have hsz : (DataW.weightsEach Tryd.prog (Tryd.f6.params.toList ++ Rows.parseTurnsSpec.plain.varTypes Tryd.prog) (ds ++ gs)).all (· ≤ reachBytes) = true := hsz0
  have hval : ∀ (j : Nat) t v, Tryd.f6.params[j]? = some t → args[j]? = some v → Value.okWide Tryd.prog W .any base t v := hval0
  have hW' := hW
  obtain ⟨p, q, hA0, hV, rfl, hfz, hnd⟩ := hW
  have hA : DataW.TrodAll enc Tryd.prog W 0 (fun _ => true) true Tryd.f6.params.toList args.toList ds p := hA0
  rw [Tryd.params6] at hA hval hsz
  obtain ⟨v0, v1, d0, d1, p0, p1, rfl, rfl, rfl, h0, h1⟩ := trodAll_two hA
  obtain ⟨rfl, rfl⟩ := trodVars_none hV
  obtain ⟨a0, rfl, rfl, rfl, w0⟩ := open_int Tryd.underlying3 (hval 0 3 v0 rfl rfl) h0
  obtain ⟨a1, rfl, rfl, rfl, w1⟩ := open_int Tryd.underlying3 (hval 1 3 v1 rfl rfl) h1
  clear hA0 hval0
  refine (walk W (Y_of hL) a0 w0 a1 w1).mono fun e W' ⟨he, hg⟩ => ?_
  subst he
  exact ⟨_, rfl, law_post (tb := 4) Tryd.laidOut (by kernel_rfl) (by kernel_rfl) Tryd.underlying4 rfl hW' hg rfl rfl rfl⟩

theorem bare : Rows.ParseTurnsSaid :=
  OpenClaim.holds_of_wide 6 Tryd.f6 rfl rfl rfl rfl rfl rfl rfl ⟨rfl, rfl, rfl, rfl, rfl⟩ rfl rfl rfl rfl rfl (by kernel_rfl) Tryd.func6 (by kernel_rfl)
    (of_decide_eq_true (by kernel_rfl)) (by unfold Func.isWrapper; first | (rw [if_pos (by decide +kernel)]; kernel_rfl) | (rw [if_neg (by decide +kernel)]; exact ⟨rfl, rfl⟩))
    (fun os started H enc _ => lifted os started H enc)
/-- The card: the row's one listed variable is tied to the program's text. -/
theorem proved : Rows.ParseTurnsCardSaid :=
  Claim7.holds_tied_plain_at .later [] [.data, .data, .data, .data, .data, .data, .data] true _ true bare (fun _ h => by cases h) (by kernel_rfl) (fun _ h => by cases h) parseTurns_row_tie rfl ⟨rfl, rfl⟩ (by kernel_rfl) rfl
    (fun f fn hf hfn => by
      obtain rfl : f = 6 := Option.some.inj ((show Tryd.prog.funcNamed "padlock/padlockkeep.ParseTurns" = some 6 by kernel_rfl).symm.trans hf) |>.symm
      obtain rfl : fn = Tryd.f6 := (Option.some.inj (Tryd.func6.symm.trans hfn)).symm
      refine ⟨by kernel_rfl, fun j t ht => ?_⟩
      rw [Tryd.params6] at ht
      rcases j with _ | _ | j <;> simp at ht <;> subst ht <;> kernel_rfl)
    (by kernel_rfl)
#print axioms proved
end Go.Proofs.YtdeollmeljaaoaaDoor.lParseTurns

/- What a statement is shown as is what the document shows, and the statement stands as it did. The row lists the program's six tables; the card ties them to the program's text. -/
import Derived.Test.YtnheepkmaibofaaDoorCpk
import Derived.Test.YtnheepkmaibofaaDoorRok
import Derived.Test.YtnheepkmaibofaaDoorRpk
import Derived.Test.YtnheepkmaibofaaDoorCzk
namespace Go.Proofs.YtnheepkmaibofaaDoor.lParseShows
open Go.ChangeShapes Go.WideShapes Go.ChangeAt Go.RowKit Go.Joins
open Go.ChangeMaps (open_string shut_string)
set_option linter.unusedVariables false
set_option linter.unusedSimpArgs false
set_option maxHeartbeats 400000

set_option maxHeartbeats 4000000
set_option maxRecDepth 100000
open Go.Proofs.YtnheepkmaibofaaDoor.cs
theorem walk (W : World) (hL : Tbp W) (s : Sq) (p : Ps) (hr : StR W s p) (hi : SqIn s) (hz : SqZ s) :
    Calls Tryd.prog 4 #[stV s p] W fun e w' => e = .returned (.bool true) ∧ Below W.heap.size W w' := by
  obtain ⟨L, hL'⟩ : ∃ L, L = if stF s = 0 then shT s else [] := ⟨_, rfl⟩
  obtain ⟨n, hn⟩ : ∃ n, n = L.length := ⟨_, rfl⟩
  obtain ⟨F, hF⟩ : ∃ F, F = stF s := ⟨_, rfl⟩
  have HST : Hid (∀ w, Below W.heap.size W w → Calls Tryd.prog 7 #[stV s p] w fun e w' => ∃ p' : Ps, e = .returned (stV s p') ∧ StR w' s p' ∧ Below w.heap.size w w') := fun w hb => stmt_any w s p (hr.below hb) hi
  have HSW : Hid (∀ w p', Below W.heap.size W w → StR w s p' → Calls Tryd.prog 9 #[stV s p'] w fun e w' => ∃ v, e = .returned (.tuple #[v, .int .i64 F]) ∧ w'.ownsRow w.heap.size 39 3 v n (tkc L) ∧ Below w.heap.size w w') := fun w p' hb h => by
    rw [hn, hF, hL']
    exact Show_any w (hL.below hb) s p' h hz hi.sizes
  have HDS : Hid (∀ w, Below W.heap.size W w → Calls Tryd.prog 10 #[stV s p] w fun e w' => ∃ v, e = .returned (.tuple #[v, .int .i64 F]) ∧ w'.ownsRow w.heap.size 39 3 v n (tkc L) ∧ Below w.heap.size w w') := fun w hb => by
    rw [hn, hF, hL']
    exact dshown_any w s p (hr.below hb) hz
  have HSS : Hid (∀ w p', Below W.heap.size W w → StR w s p' → Calls Tryd.prog 12 #[stV s p', stV s p] w fun e w' => e = .returned (.bool true) ∧ Below w.heap.size w w') := fun w p' hb h => sst_any w s p' p h (hr.below hb)
  have HTK : Hid (∀ w v v', Rd w 3 n v (tkc L) → Rd w 3 n v' (tkc L) → Calls Tryd.prog 11 #[v, v'] w fun e w' => e = .returned (.bool true) ∧ Below w.heap.size w w') := fun w v v' h h' => Go.Proofs.YtnheepkmaibofaaDoor.cs.stk_law n v v' L w h h'
  have HNEW : Hid (∀ w1, Below (W.alloc (.cells (stC s p) 27)).heap.size (W.alloc (.cells (stC s p) 27)) w1 → w1.heap[W.heap.size]? = some (.cells (stC s p) 27 (0, 0))) := fun w1 hb => (hb.block W.heap.size (by simp)).trans (new0 _ _)
  have hb0 : Below W.heap.size W (W.alloc (.cells (stC s p) 27)) := (Below.refl _ _).alloc (Nat.le_refl _) _
  have HB0 := Lib.hid hb0
  clear hF hL' hn hb0 hr hi hz hL
  obtain ⟨k, t, cols, row, names, cnt, wh, ord, dn, lim, st, to⟩ := s
  obtain ⟨a2, n2, c2, a3, n3, c3, a4, n4, c4, a6, n6, c6, a11, n11, c11⟩ := p
  go_enter Tryd.func4, Tryd.ntmps4
  go_wp2_with fail
  refine (HST.out _ HB0.out).mono ?_
  rintro e1 w1 ⟨p', rfl, hr1, hb1⟩
  have hp1 := HNEW.out w1 hb1
  obtain ⟨x0, x1, x2, x3, x4, x5, x6, x7, x8, x9, x10, x11, f0, f1, f2, f3, f4, f5, f6, f7, f8, f9, f10, f11⟩ := box12 hp1
  have HB1 := Lib.hid (into HB0.out hb1)
  have HR1 := Lib.hid hr1
  have HP1 := Lib.hid hp1
  have hz1 : W.heap.size + 1 ≤ w1.heap.size := by have := hb1.size; simpa using this
  clear hb1 hr1 hp1
  obtain ⟨b2, m2, d2, b3, m3, d3, b4, m4, d4, b6, m6, d6, b11, m11, d11⟩ := p'
  clear x0 x1 x2 x3 x4 x5 x6 x7 x8 x9 x10 x11 f0 f1 f2 f3 f4 f5 f6 f7 f8 f9 f10 f11
  go_upto_region 2 with (fail)
  refine code_nm (fun w2 hW2 => ?_)
  have hq2 : w2.heap[w1.heap.size]? = some (.cells #[.int .i64 k, .string t, .slice b2 m2 d2, .slice b3 m3 d3, .slice b4 m4 d4, .bool cnt, .slice b6 m6 d6, .string ord, .bool dn, .int .i64 lim, .string st, .slice b11 m11 d11] 27 (0, 0)) := by rw [hW2]; exact new0 _ _
  have hp2 : w2.heap[W.heap.size]? = some (.cells #[.int .i64 k, .string t, .slice a2 n2 c2, .slice a3 n3 c3, .slice a4 n4 c4, .bool cnt, .slice a6 n6 c6, .string ord, .bool dn, .int .i64 lim, .string st, .slice a11 n11 c11] 27 (0, 0)) := by rw [hW2]; exact (Below.heap_alloc _ _ _ (by omega)).trans HP1.out
  have HP2 := Lib.hid hp2
  clear hp2
  have HB2 : Hid (Below W.heap.size W w2) := by show Below _ _ _; rw [hW2]; exact HB1.out.alloc (by omega) _
  have hbb : Below w1.heap.size w1 w2 := by rw [hW2]; exact (Below.refl _ _).alloc (Nat.le_refl _) _
  have HR2 := Lib.hid (HR1.out.below hbb)
  have hz2 : w1.heap.size + 1 ≤ w2.heap.size := by rw [hW2]; simp
  clear hW2 hbb
  have HQ2 := Lib.hid hq2
  obtain ⟨y0, y1, y2, y3, y4, y5, y6, y7, y8, y9, y10, y11, g0, g1, g2, g3, g4, g5, g6, g7, g8, g9, g10, g11⟩ := box12 hq2
  clear hq2
  go_wp2_with fail
  clear y0 y1 y2 y3 y4 y5 y6 y7 y8 y9 y10 y11 g0 g1 g2 g3 g4 g5 g6 g7 g8 g9 g10 g11
  refine (HSW.out _ ⟨b2, m2, d2, b3, m3, d3, b4, m4, d4, b6, m6, d6, b11, m11, d11⟩ HB2.out HR2.out).mono ?_
  rintro e3 w3 ⟨v3, rfl, hown3, hb3⟩
  obtain ⟨o3, q3, rfl⟩ := own_shape hown3
  have HV3 := Lib.hid (Rd.own hown3)
  have hp3 := (hb3.block W.heap.size (by omega)).trans HP2.out
  have hq3 := (hb3.block w1.heap.size (by omega)).trans HQ2.out
  have HB3 := Lib.hid (into HB2.out hb3)
  have HR3 := Lib.hid (HR2.out.below hb3)
  have hz3 : w1.heap.size + 1 ≤ w3.heap.size := by have := hb3.size; omega
  have HP3 := Lib.hid hp3
  have HQ3 := Lib.hid hq3
  obtain ⟨x0, x1, x2, x3, x4, x5, x6, x7, x8, x9, x10, x11, f0, f1, f2, f3, f4, f5, f6, f7, f8, f9, f10, f11⟩ := box12 hp3
  clear hb3 hp3 hq3 hown3
  go_wp2_with fail
  clear x0 x1 x2 x3 x4 x5 x6 x7 x8 x9 x10 x11 f0 f1 f2 f3 f4 f5 f6 f7 f8 f9 f10 f11
  refine (HDS.out _ HB3.out).mono ?_
  rintro e4 w4 ⟨v4, rfl, hown4, hb4⟩
  obtain ⟨o4, q4, rfl⟩ := own_shape hown4
  have HV4 := Lib.hid (Rd.own hown4)
  have HU4 := Lib.hid (HV3.out.below hb4)
  have hp4 := (hb4.block W.heap.size (by omega)).trans HP3.out
  have hq4 := (hb4.block w1.heap.size (by omega)).trans HQ3.out
  have HB4 := Lib.hid (into HB3.out hb4)
  have HR4 := Lib.hid (HR3.out.below hb4)
  have hz4 : w1.heap.size + 1 ≤ w4.heap.size := by have := hb4.size; omega
  have HP4 := Lib.hid hp4
  have HQ4 := Lib.hid hq4
  clear hb4 hp4 hq4 hown4
  go_wp2_with fail
  refine (HTK.out _ _ _ HU4.out HV4.out).mono ?_
  rintro e5 w5 ⟨rfl, hb5⟩
  have hp5 := (hb5.block W.heap.size (by omega)).trans HP4.out
  have hq5 := (hb5.block w1.heap.size (by omega)).trans HQ4.out
  have HB5 := Lib.hid (into HB4.out hb5)
  have HR5 := Lib.hid (HR4.out.below hb5)
  have hz5 : w1.heap.size + 1 ≤ w5.heap.size := by have := hb5.size; omega
  have HP5 := Lib.hid hp5
  have HQ5 := Lib.hid hq5
  obtain ⟨x0, x1, x2, x3, x4, x5, x6, x7, x8, x9, x10, x11, f0, f1, f2, f3, f4, f5, f6, f7, f8, f9, f10, f11⟩ := box12 hp5
  obtain ⟨y0, y1, y2, y3, y4, y5, y6, y7, y8, y9, y10, y11, g0, g1, g2, g3, g4, g5, g6, g7, g8, g9, g10, g11⟩ := box12 hq5
  clear hb5 hp5 hq5
  go_wp2_with fail
  refine (HSS.out _ ⟨b2, m2, d2, b3, m3, d3, b4, m4, d4, b6, m6, d6, b11, m11, d11⟩ HB5.out HR5.out).mono ?_
  rintro e6 w6 ⟨rfl, hb6⟩
  have HB6 := Lib.hid (into HB5.out hb6)
  clear x0 x1 x2 x3 x4 x5 x6 x7 x8 x9 x10 x11 f0 f1 f2 f3 f4 f5 f6 f7 f8 f9 f10 f11
  clear y0 y1 y2 y3 y4 y5 y6 y7 y8 y9 y10 y11 g0 g1 g2 g3 g4 g5 g6 g7 g8 g9 g10 g11
  clear hb6
  go_wp2_with fail
  go_ret
  exact ⟨by simp, HB6.out⟩

set_option maxRecDepth 100000 in
theorem lifted (os : Os) (started : os.Started) (H : Type) (enc : TypeId × Value → H) :
    ReturnsInHanded {} Tryd.checked os 4 .any (fun w args => (Rows.parseShowsSpec.pre enc Tryd.prog Tryd.f4 [] false w args ∧ laidX w) ∧ sizedMet enc Tryd.prog Tryd.f4 (OpenSpec.ofChange Rows.parseShowsSpec) false w args) (Rows.parseShowsSpec.post enc Tryd.prog Tryd.f4 false true false false) := by
  refine returnsInHanded_of_change_and (C := Tryd.checked) (X := fun w _ => laidX w) (fun _ _ _ hh h => h.of_heap hh) Tryd.own started (by kernel_rfl) Tryd.func4
    (ChangeSpec.witness_at (enc := enc) (C := Tryd.checked) (os := os) (X := fun w _ => laidX w) false (tabledX os) #[.agg #[.int .i64 0, .string ⟨#[]⟩, .slice none 0 0, .slice none 0 0, .slice none 0 0, .bool false, .slice none 0 0, .string ⟨#[]⟩, .bool false, .int .i64 0, .string ⟨#[]⟩, .slice none 0 0]] 8 rfl (by kernel_rfl) (by kernel_rfl) (by kernel_rfl) (by kernel_rfl) (by kernel_rfl) (tabledX_laidX os _)) ?_
  intro W base args ds gs before hval0 hW hcnd hsz0 hL _
  have hsz : (DataW.weightsEach Tryd.prog (Tryd.f4.params.toList ++ Rows.parseShowsSpec.plain.varTypes Tryd.prog) (ds ++ gs)).all (· ≤ reachBytes) = true := hsz0
  have hval : ∀ (j : Nat) t v, Tryd.f4.params[j]? = some t → args[j]? = some v → Value.okWide Tryd.prog W .any base t v := hval0
  have hW' := hW
  obtain ⟨p, q, hA0, hV, rfl, hfz, hnd⟩ := hW
  have hA : DataW.TrodAll enc Tryd.prog W 0 (fun _ => true) true Tryd.f4.params.toList args.toList ds p := hA0
  rw [Tryd.params4] at hA hval hsz
  obtain ⟨v0, d0, rfl, rfl, h0⟩ := trodAll_one hA
  obtain ⟨rfl, rfl⟩ := trodVars_none hV
  have sm0 : small Tryd.prog 27 d0 := fun q hq => by
    have := List.all_eq_true.1 hsz q (weights_each (j := 0) rfl rfl q hq)
    simpa using this
  obtain ⟨s0, p0, rfl, hr0, hi0, hz0⟩ := open_stmt (hval 0 27 v0 rfl rfl) h0 sm0
  clear hA0 hval0
  refine (walk W (P_of hL) s0 p0 hr0 hi0 hz0).mono fun e W' ⟨he, hg⟩ => ?_
  subst he
  exact ⟨_, rfl, law_post (tb := 4) Tryd.laidOut (by kernel_rfl) (by kernel_rfl) Tryd.underlying4 rfl hW' hg rfl rfl rfl⟩

theorem bare : Rows.ParseShowsSaid :=
  OpenClaim.holds_of_wide 4 Tryd.f4 rfl rfl rfl rfl rfl rfl rfl ⟨rfl, rfl, rfl, rfl, rfl⟩ rfl rfl rfl rfl rfl (by kernel_rfl) Tryd.func4 (by kernel_rfl)
    (of_decide_eq_true (by kernel_rfl)) (by unfold Func.isWrapper; first | (rw [if_pos (by decide +kernel)]; kernel_rfl) | (rw [if_neg (by decide +kernel)]; exact ⟨rfl, rfl⟩))
    (fun os started H enc _ => lifted os started H enc)
/-- The card: the row's one listed variable is tied to the program's text. -/
theorem proved : Rows.ParseShowsCardSaid :=
  Claim7.holds_tied_plain_at .later [] [.data, .data, .data, .data, .data, .data] true _ true bare (fun _ h => by cases h) (by kernel_rfl) (fun _ h => by cases h) parseShows_row_tie rfl ⟨rfl, rfl⟩ (by kernel_rfl) rfl
    (fun f fn hf hfn => by
      obtain rfl : f = 4 := Option.some.inj ((show Tryd.prog.funcNamed "padlock/padlocklaw.ParseShows" = some 4 by kernel_rfl).symm.trans hf) |>.symm
      obtain rfl : fn = Tryd.f4 := (Option.some.inj (Tryd.func4.symm.trans hfn)).symm
      refine ⟨by kernel_rfl, fun j t ht => ?_⟩
      rw [Tryd.params4] at ht
      rcases j with _ | j <;> simp at ht <;> subst ht <;> kernel_rfl)
    (by kernel_rfl)
#print axioms proved
end Go.Proofs.YtnheepkmaibofaaDoor.lParseShows

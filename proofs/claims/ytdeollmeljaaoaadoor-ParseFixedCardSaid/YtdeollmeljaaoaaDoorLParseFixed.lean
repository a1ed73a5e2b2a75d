/- What is parsed may be; what it is shown as is parsed as the same statement, if the tokens are not too many then; what is not parsed is told by a place within. The row lists the program's seven tables; the card ties them to the program's text. -/
import Derived.Deep.DeepCutAuto
import Derived.Test.YtdeollmeljaaoaaDoorAzk
import Derived.Test.YtdeollmeljaaoaaDoorBbk
import Derived.Test.YtdeollmeljaaoaaDoorBvk
import Derived.Test.YtdeollmeljaaoaaDoorBuk
namespace Go.Proofs.YtdeollmeljaaoaaDoor.lParseFixed
open Go.ChangeShapes Go.WideShapes Go.ChangeAt Go.RowKit Go.Joins
open Go.ChangeMaps (open_string shut_string)
set_option linter.unusedVariables false
set_option linter.unusedSimpArgs false
set_option maxHeartbeats 400000

set_option maxHeartbeats 8000000
set_option maxRecDepth 100000
open Go.Proofs.YtdeollmeljaaoaaDoor.rd Go.Proofs.YtdeollmeljaaoaaDoor.cs
theorem rd_row {w : World} {b s n : Nat} {xs : List Value} {T : TypeId} (h : w.heap[b]? = some (.cells xs.toArray T (0, 0))) (hl : xs.length = n * s) (hn : n ≤ 1000) : Rd w s n (.slice (some ⟨b, 0, none⟩) n n) xs := by
  refine ⟨hl, _, _, rfl, Nat.le_refl _, by unfold maxLen; omega, fun h => (by cases h), fun x hx j u hu => ?_⟩
  obtain rfl := Option.some.inj hx
  rw [Addr.add_lit]
  simp only [World.cell?]
  rw [h]
  simpa using hu
/-- BEGIN, parsed. -/
def begT : List Tk := [wd [66, 69, 71, 73, 78]]
def begS : Sq := ⟨7, ⟨#[]⟩, [], [], [], false, [], ⟨#[]⟩, false, -1, ⟨#[]⟩, []⟩
theorem beg_p : parseF begT = (begS, 0, 0) := parse_good (by decide) (by decide) (by kernel_rfl)
theorem beg_z : ∀ k, (begT.getD k tk0).t.length ≤ maxLen ∧ (begT.getD k tk0).n ≤ 9223372036854775807 := by
  intro k
  unfold maxLen
  match k with
  | 0 => exact ⟨by show (5 : Nat) ≤ _; omega, by show (0 : Int) ≤ _; omega⟩
  | k + 1 => exact ⟨by show (0 : Nat) ≤ _; omega, by show (0 : Int) ≤ _; omega⟩
theorem walk (W : World) (hL : Tby W) (v : Value) (n : Nat) (l : List Tk) (hr : Rd W 3 n v (tkc l)) (hz : n * 32 ≤ 140737488351232) (hy : ∀ k, (l.getD k tk0).t.length ≤ maxLen ∧ (l.getD k tk0).n ≤ 9223372036854775807) :
    Calls Tryd.prog 4 #[v] W fun e w' => e = .returned (.bool true) ∧ Below W.heap.size W w' := by
  have hml := len_t hr
  have HBG : Hid (∀ w c, Below W.heap.size W w → w.heap[c]? = some (.cells #[.int .i64 1, .string ⟨#[66, 69, 71, 73, 78]⟩, .int .i64 0] 45 (0, 0)) → Calls Tryd.prog 12 #[.slice (some ⟨c, 0, none⟩) 1 1] w (Pz w (begS, 0, 0))) := fun w c hb h => by
    have := parse_any w 1 _ _ (hL.q.below hb) (rd_row (xs := tkc begT) h rfl (by omega)) beg_z
    rwa [beg_p] at this
  have HPL : Hid (∀ w v', Below W.heap.size W w → Rd w 3 n v' (tkc l) → Calls Tryd.prog 12 #[v'] w (Pz w (parseF l))) := fun w v' hb h => parse_any w n v' l (hL.q.below hb) h hy
  have HPP : Hid (∀ w v' m L, Below W.heap.size W w → Rd w 3 m v' (tkc L) → TksZ L → Calls Tryd.prog 12 #[v'] w (Pz w (parseF L))) := fun w v' m L hb h hzz => parse_any w m v' L (hL.q.below hb) h (z_at hzz)
  have HSH : Hid (∀ w s p, Below W.heap.size W w → StR w s p → SqZ s → SqS s → Calls Tryd.prog 10 #[stV s p] w fun e w' => ∃ v, e = .returned (.tuple #[v, .int .i64 (stF s)]) ∧ w'.ownsRow w.heap.size 45 3 v (if stF s = 0 then shT s else []).length (tkc (if stF s = 0 then shT s else [])) ∧ Below w.heap.size w w') := fun w s p hb h hz hs => Show_any w (hL.p.below hb) s p h hz hs
  have HSM : Hid (∀ w s p p', Below W.heap.size W w → StR w s p → StR w s p' → stF s = 0 → SqZ s → SqS s → Calls Tryd.prog 13 #[stV s p, stV s p'] w fun e w' => e = .returned (.bool true) ∧ Below w.heap.size w w') := fun w s p p' hb h h' h0 hz hs => same_any w (hL.below hb) s p p' h h' h0 hz hs
  obtain ⟨r, hrr⟩ : ∃ r, r = parseF l := ⟨_, rfl⟩
  have HC : Hid ((∃ s, r = (s, 0, 0) ∧ st0 s = 0 ∧ SqZ s ∧ SqS s ∧ TksZ (shT s)) ∨ ∃ i e, r = (sqz, i, e) ∧ e ≠ 0 ∧ 0 ≤ i ∧ i ≤ (n : Int)) := by
    show _ ∨ _
    rw [hrr, hml]
    exact parse_pin (by omega) fun k => (hy k).2
  rw [← hrr] at HPL
  have HR := Lib.hid hr
  have HZ := Lib.hid hz
  obtain ⟨a0, c0, hv⟩ : ∃ a c, v = .slice a n c := by
    obtain ⟨_, a, c, h, _⟩ := hr
    exact ⟨a, c, h⟩
  have hn63 : n ≤ 4398046510976 := by omega
  have HV := Lib.hid hv
  clear hv
  clear hr hz hy hrr hml hL
  go_enter Tryd.func4, Tryd.ntmps4
  go_wp2_with fail
  refine calls_nm (fun w1 hW => ?_)
  have hc1 : w1.heap[W.heap.size]? = some (.cells #[.int .i64 1, .string ⟨#[66, 69, 71, 73, 78]⟩, .int .i64 0] 45 (0, 0)) := by rw [hW]; exact new0 _ _
  have hb1 : Below W.heap.size W w1 := by rw [hW]; exact (Below.refl _ _).alloc (Nat.le_refl _) _
  refine (HBG.out w1 _ hb1 hc1).mono ?_
  rintro e w2 ⟨p2, rfl, -, hb2⟩
  have HB2 := Lib.hid (into hb1 hb2)
  clear hc1 hb1 hb2 hW
  obtain ⟨a2, n2, c2, a3, n3, c3, a4, n4, c4, a6, n6, c6, a11, n11, c11⟩ := p2
  go_upto_region 2 with (fail)
  refine code_nm (fun w3 hW => ?_)
  have hb3 : Below w2.heap.size w2 w3 := by rw [hW]; exact (Below.refl _ _).alloc (Nat.le_refl _) _
  have hs3 : w3.heap[w2.heap.size]? = some (.cells (stC begS ⟨a2, n2, c2, a3, n3, c3, a4, n4, c4, a6, n6, c6, a11, n11, c11⟩) 33 (0, 0)) := by rw [hW]; exact new0 _ _
  have HB3 := Lib.hid (into HB2.out hb3)
  clear hW hb3
  have s0 : w3.cell? ⟨w2.heap.size, 0, none⟩ = some (.int .i64 7) := by simp only [World.cell?]; rw [hs3]; rfl
  clear hs3
  go_wp2_with (at_builtin; refine apg _ n rfl _ _ 35 45 _ 3 32 Tryd.underlying35 Tryd.info45 rfl (by omega) rfl (World.ownsRow_nil _ _ _ _) (Nat.le_refl _) (by omega) (by unfold maxLen; omega) (tkc_one _) (HR.out.below HB3.out) rfl rfl ?_; intro v4 w4 ho4 hb4 _)
  have HB4 := Lib.hid (into HB3.out hb4)
  clear hb4 s0
  refine (HPL.out w4 _ HB4.out (by simpa using Rd.own ho4)).mono ?_
  rintro e w5 ⟨p5, rfl, ho5, hb5⟩
  have HB5 := Lib.hid (into HB4.out hb5)
  have HO5 := Lib.hid ho5
  clear hb5 ho5 ho4
  obtain ⟨s, i, q⟩ := r
  dsimp only at HO5 ⊢
  go_upto_region 5 with (fail)
  refine code_nm (fun w6 hW => ?_)
  have hb6 : Below w5.heap.size w5 w6 := by rw [hW]; exact (Below.refl _ _).alloc (Nat.le_refl _) _
  have hs6 : w6.heap[w5.heap.size]? = some (.cells (stC s p5) 33 (0, 0)) := by rw [hW]; exact new0 _ _
  have HS6 := Lib.hid hs6
  have HB6 := Lib.hid (into HB5.out hb6)
  have HO6 := Lib.hid (HO5.out.rd.below hb6)
  obtain ⟨A, hA⟩ : ∃ A, A = w5.heap.size := ⟨_, rfl⟩
  rw [← hA] at HS6 ⊢
  clear hW hb6 hs6 hA HO5 HB5
  by_cases hq : q = 0
  · obtain ⟨h0, h1, h2, h3⟩ : st0 s = 0 ∧ SqZ s ∧ SqS s ∧ TksZ (shT s) ∧ i = 0 := by
      rcases HC.out with ⟨s', h, g⟩ | ⟨i', q', h, g, _⟩
      · cases h; exact ⟨g.1, g.2.1, g.2.2.1, g.2.2.2, rfl⟩
      · cases h; exact absurd hq g
    subst hq
    have HF := Lib.hid (And.intro h0 (And.intro h1 (And.intro h2 h3.1)))
    obtain rfl := h3.2
    clear h0 h1 h2 h3
    obtain ⟨x0, x1, x2, x3, x4, x5, x6, x7, x8, x9, x10, x11, -⟩ := box12 HS6.out
    go_wp2_with fail
    refine (HSH.out w6 s p5 HB6.out HO6.out HF.out.2.1 HF.out.2.2.1).mono ?_
    rintro e w7 ⟨v7, rfl, ho7, hb7⟩
    have HB7 := Lib.hid (into HB6.out hb7)
    have HS7 := Lib.hid ((hb7.block _ (blk_lt HS6.out)).trans HS6.out)
    have HO7 := Lib.hid (HO6.out.below hb7)
    have HT7 := Lib.hid ho7
    clear x0 x1 x2 x3 x4 x5 x6 x7 x8 x9 x10 x11 hb7 ho7 HS6 HO6
    rcases st_cases HF.out.1 with ⟨g0, gl⟩ | ⟨g0, gl⟩
    · rw [g0, if_pos rfl] at HT7
      rw [g0]
      have HP := Lib.hid (parse_shown g0)
      go_wp2_with fail
      refine (HPP.out w7 _ _ _ HB7.out (Rd.own HT7.out) HF.out.2.2.2).mono ?_
      rw [HP.out]
      rintro e w8 ⟨p8, rfl, ho8, hb8⟩
      have HB8 := Lib.hid (into HB7.out hb8)
      have HS8 := Lib.hid ((hb8.block _ (blk_lt HS7.out)).trans HS7.out)
      have HO8 := Lib.hid (HO7.out.below hb8)
      have HP8 := Lib.hid ho8
      clear hb8 ho8 HS7 HO7 HT7 HP
      go_upto_region 11 with (fail)
      refine code_nm (fun w9 hW => ?_)
      have hb9 : Below w8.heap.size w8 w9 := by rw [hW]; exact (Below.refl _ _).alloc (Nat.le_refl _) _
      have hs9 : w9.heap[w8.heap.size]? = some (.cells (stC s p8) 33 (0, 0)) := by rw [hW]; exact new0 _ _
      have hs := (hb9.block _ (blk_lt HS8.out)).trans HS8.out
      have HB9 := Lib.hid (into HB8.out hb9)
      have HO9 := Lib.hid (HO8.out.below hb9)
      have HP9 := Lib.hid (HP8.out.rd.below hb9)
      obtain ⟨x0, x1, x2, x3, x4, x5, x6, x7, x8, x9, x10, x11, -⟩ := box12 hs
      obtain ⟨y0, y1, y2, y3, y4, y5, y6, y7, y8, y9, y10, y11, -⟩ := box12 hs9
      have HK := Lib.hid (HSM.out w9 s p5 p8 HB9.out HO9.out HP9.out g0 HF.out.2.1 HF.out.2.2.1)
      clear hW hb9 hs9 hs HS8 HO8 HP8
      go_wp2_with fail
      refine HK.out.mono ?_
      rintro e w10 ⟨rfl, hb10⟩
      have HB10 := Lib.hid (into HB9.out hb10)
      clear hb10
      go_wp2_with fail
      go_returns
      exact ⟨rfl, HB10.out⟩
    · rw [g0]
      go_wp2_with fail
      go_returns
      exact ⟨rfl, HB7.out⟩
  · obtain ⟨hs, h0, h1⟩ : s = sqz ∧ 0 ≤ i ∧ i ≤ (n : Int) := by
      rcases HC.out with ⟨s', h, g⟩ | ⟨i', q', h, g, g1, g2⟩
      · cases h; exact absurd rfl hq
      · cases h; exact ⟨rfl, g1, g2⟩
    subst hs
    have s0 : w6.cell? ⟨A, 0, none⟩ = some (.int .i64 0) := by simp only [World.cell?]; rw [HS6.out]; rfl
    obtain rfl := HV.out
    go_wp2_with fail
    go_returns
    exact ⟨rfl, HB6.out⟩

set_option maxRecDepth 100000 in
theorem lifted (os : Os) (started : os.Started) (H : Type) (enc : TypeId × Value → H) :
    ReturnsInHanded {} Tryd.checked os 4 .any (fun w args => (Rows.parseFixedSpec.pre enc Tryd.prog Tryd.f4 [] false w args ∧ laidY w) ∧ sizedMet enc Tryd.prog Tryd.f4 (OpenSpec.ofChange Rows.parseFixedSpec) false w args) (Rows.parseFixedSpec.post enc Tryd.prog Tryd.f4 false true false false) := by
  refine returnsInHanded_of_change_and (C := Tryd.checked) (X := fun w _ => laidY w) (fun _ _ _ hh h => h.of_heap hh) Tryd.own started (by kernel_rfl) Tryd.func4
    (ChangeSpec.witness_at (enc := enc) (C := Tryd.checked) (os := os) (X := fun w _ => laidY w) false (tabledY os) #[.slice none 0 0] 8 rfl (by kernel_rfl) (by kernel_rfl) (by kernel_rfl) (by kernel_rfl) (by kernel_rfl) (tabledY_laidY os _)) ?_
  intro W base args ds gs before hval0 hW hcnd hsz0 hL _
  have hsz : (DataW.weightsEach Tryd.prog (Tryd.f4.params.toList ++ Rows.parseFixedSpec.plain.varTypes Tryd.prog) (ds ++ gs)).all (· ≤ reachBytes) = true := hsz0
  have hval : ∀ (j : Nat) t v, Tryd.f4.params[j]? = some t → args[j]? = some v → Value.okWide Tryd.prog W .any base t v := hval0
  have hW' := hW
  obtain ⟨p, q, hA0, hV, rfl, hfz, hnd⟩ := hW
  have hA : DataW.TrodAll enc Tryd.prog W 0 (fun _ => true) true Tryd.f4.params.toList args.toList ds p := hA0
  rw [Tryd.params4] at hA hval hsz
  obtain ⟨v0, d0, rfl, rfl, h0⟩ := trodAll_one hA
  obtain ⟨rfl, rfl⟩ := trodVars_none hV
  have sm0 : small Tryd.prog 35 d0 := fun q hq => by
    have := List.all_eq_true.1 hsz q (weights_each (j := 0) rfl rfl q hq)
    simpa using this
  obtain ⟨n0, l0, hr0, hz0, hy0⟩ := Go.Proofs.YtdeollmeljaaoaaDoor.rd.open_toks (hval 0 35 v0 rfl rfl) h0 sm0
  clear hA0 hval0
  refine (walk W (Y_of hL) v0 n0 l0 hr0 hz0 hy0).mono fun e W' ⟨he, hg⟩ => ?_
  subst he
  exact ⟨_, rfl, law_post (tb := 4) Tryd.laidOut (by kernel_rfl) (by kernel_rfl) Tryd.underlying4 rfl hW' hg rfl rfl rfl⟩

theorem bare : Rows.ParseFixedSaid :=
  OpenClaim.holds_of_wide 4 Tryd.f4 rfl rfl rfl rfl rfl rfl rfl ⟨rfl, rfl, rfl, rfl, rfl⟩ rfl rfl rfl rfl rfl (by kernel_rfl) Tryd.func4 (by kernel_rfl)
    (of_decide_eq_true (by kernel_rfl)) (by unfold Func.isWrapper; first | (rw [if_pos (by decide +kernel)]; kernel_rfl) | (rw [if_neg (by decide +kernel)]; exact ⟨rfl, rfl⟩))
    (fun os started H enc _ => lifted os started H enc)
/-- The card: the row's one listed variable is tied to the program's text. -/
theorem proved : Rows.ParseFixedCardSaid :=
  Claim7.holds_tied_plain_at .later [] [.data, .data, .data, .data, .data, .data, .data] true _ true bare (fun _ h => by cases h) (by kernel_rfl) (fun _ h => by cases h) parseFixed_row_tie rfl ⟨rfl, rfl⟩ (by kernel_rfl) rfl
    (fun f fn hf hfn => by
      obtain rfl : f = 4 := Option.some.inj ((show Tryd.prog.funcNamed "padlock/padlockkeep.ParseFixed" = some 4 by kernel_rfl).symm.trans hf) |>.symm
      obtain rfl : fn = Tryd.f4 := (Option.some.inj (Tryd.func4.symm.trans hfn)).symm
      refine ⟨by kernel_rfl, fun j t ht => ?_⟩
      rw [Tryd.params4] at ht
      rcases j with _ | j <;> simp at ht <;> subst ht <;> kernel_rfl)
    (by kernel_rfl)
#print axioms proved
end Go.Proofs.YtdeollmeljaaoaaDoor.lParseFixed

/- What an expression over a twig makes of a row is of the kind that it is told to be, or Null, or does not fit. The row lists the program's tables of marks, of words that are kept, of what each op works on, and of the words of kinds, constants and signs; the card ties them to the program's text. -/
import Derived.Test.YtjnfhhmhbeobbaaDoorQz
import Derived.Test.YtjnfhhmhbeobbaaDoorB2
import Derived.Test.YtjnfhhmhbeobbaaDoorOf
import Derived.Test.YtjnfhhmhbeobbaaDoorOi
import Derived.Test.YtjnfhhmhbeobbaaDoorBh
namespace Go.Proofs.YtjnfhhmhbeobbaaDoor.lKindTold
open Go.ChangeShapes Go.WideShapes Go.ChangeAt Go.RowKit Go.Joins
open Go.ChangeMaps (open_string shut_string)
open Go.Proofs.YtjnfhhmhbeobbaaDoor.tw
set_option linter.unusedVariables false
set_option linter.unusedSimpArgs false
set_option maxHeartbeats 400000

set_option maxHeartbeats 2000000
set_option maxRecDepth 100000
theorem walk (W : World) (hL : Tbs W) (k n : Int) (s : ByteArray) (ao : Option Addr) (m cap : Nat) (hk : Rn k) (hn : Rn n) (hs : s.size ≤ maxLen) (ht : TwS W 3 (.slice ao m cap)) (a : Int) (wa : (Lit.int .i64 a).wf = true) (b : Int) (wb : (Lit.int .i64 b).wf = true) (u : ByteArray) (wu : u.size ≤ maxLen) (c : Int) (wc : (Lit.int .i64 c).wf = true) :
    Calls Tryd.prog 3 #[.agg #[.int .i64 k, .int .i64 n, .string s, .slice ao m cap], .int .i64 a, .int .i64 b, .string u, .int .i64 c] W fun e w' => e = .returned (.bool true) ∧ Below W.heap.size W w' := by
  have HKD : Hid (∀ (w : World) (n m : Nat) (v x : Value) (l : List Cq) (ops : List Oq) (q kk : Int), Below W.heap.size W w → Rd w 2 n v (ccs l) → (∀ c ∈ l, c.t.size ≤ 8) → Rd w 5 m x (ocs ops) → (∀ o ∈ ops, Sml o) → kindF l ops = (q, kk) → Calls Tryd.prog 6 #[v, x] w fun e w' => e = .returned (.tuple #[.int .i64 kk, .int .i64 q]) ∧ Below w.heap.size w w') := fun w n m v x l ops q kk hB hr hc hx ho hq => by
    have h := kind_any w (hL.below hB) n m v x l ops hr (small4 hc) hx (sml_max ho)
    rw [hq] at h
    exact h
  have HEV : Hid (∀ (w : World) (n m j : Nat) (v y x : Value) (l : List Cq) (r : List V) (ops : List Oq) (q : Int) (g : V), Below W.heap.size W w → Rd w 2 n v (ccs l) → (∀ c ∈ l, c.t.size ≤ 8) → Rd w 3 m y (vc r) → Rd w 5 j x (ocs ops) → (∀ o ∈ ops, Sml o) → evalF l r ops = (q, g) → Calls Tryd.prog 8 #[v, y, x] w fun e w' => e = .returned (.tuple #[.agg #[.int .i64 g.k, .int .i64 g.n, .string g.t], .int .i64 q]) ∧ Below w.heap.size w w') := fun w n m j v y x l r ops q g hB hr hc hy hx ho hq => by
    have h := eval_any w (hL.below hB) n m j v y x l r ops hr (small4 hc) hy hx (sml_max ho)
    rw [hq] at h
    exact h
  have HCO := Lib.hid colsOf_any
  have HRO := Lib.hid (fun w => rowOf_any w a b c u (rn_of wa) (rn_of wb) (rn_of wc) wu)
  have hb0 : Below W.heap.size W (W.alloc (.cells #[.int .i64 k, .int .i64 n, .string s, .slice ao m cap] 24)) := (Below.refl _ _).alloc (Nat.le_refl _) _
  have HO := Lib.hid (ops_any3 (W.alloc (.cells #[.int .i64 k, .int .i64 n, .string s, .slice ao m cap] 24)) k n s ao m cap hk hn hs (ht.below hb0))
  have HB0 := Lib.hid hb0
  clear hb0 hk hn hs ht wa wb wc wu hL
  go_enter Tryd.func3, Tryd.ntmps3
  go_wp2_with fail
  refine HO.out.mono ?_
  rintro e w1 ⟨v1, l, rfl, hw, hl, hown, hb1⟩
  have hex := (whl_all hw hl).1
  have HX1 := Lib.hid (Rd.own hown)
  have HB1 := Lib.hid (into HB0.out hb1)
  have HS := Lib.hid hw.2.2
  have HT := Lib.hid (fun r (hr : rowF c4t r = 0) => expr_told hex hw.2.2 hr)
  clear hb1 hown hw hl hex
  obtain ⟨⟨q, kk⟩, hqk⟩ : ∃ x, kindF c4t l = x := ⟨_, rfl⟩
  have HK := Lib.hid hqk
  have HK0 : Hid (kindF [] l = (1, 0)) := Lib.hid (by unfold kindF; rw [show colsF [] = 1 from rfl, if_pos (by simp)])
  clear hqk
  go_wp2_with (go_at_call 7; ((with_reducible refine (HCO.out _).mono ?_); rintro e w' ⟨rfl, rfl⟩))
  refine (HKD.out _ 4 l.length _ v1 c4t l q kk (HB1.out.alloc HB1.out.size _) (rd_c4 w1 _ _ _ _ _ _ _ _ _ rfl) (by decide) (HX1.out.below ((Below.refl _ _).alloc (Nat.le_refl _) _)) HS.out HK.out).mono ?_
  rintro e w2 ⟨rfl, hb2⟩
  have HB2 : Hid (Below w1.heap.size w1 w2) := Lib.hid (into ((Below.refl _ _).alloc (Nat.le_refl _) _) hb2)
  have hz2 := HB2.out.size
  clear hb2
  go_wp2_with (go_at_call 7; ((with_reducible refine (HCO.out _).mono ?_); rintro e w' ⟨rfl, rfl⟩))
  refine (HRO.out _).mono ?_
  rintro e w' ⟨w3, p, z, tk, tn, t, rfl, rfl, hb3, ht, hor⟩
  have HB3 : Hid (Below w2.heap.size w2 w3) := Lib.hid (into ((Below.refl _ _).alloc (Nat.le_refl _) _) hb3)
  have HC3 : Hid (Rd w3 2 4 (.slice (some ⟨w2.heap.size, 0, none⟩) 4 4) (ccs c4t)) := Lib.hid ((rd_c4 w2 _ _ _ _ _ _ _ _ _ rfl).below hb3)
  have hz3 := HB3.out.size
  have HR := Lib.hid (f_row p z tk tn t ht hor)
  clear hb3 ht hor
  obtain ⟨⟨q2, g⟩, hqg⟩ : ∃ x, evalF c4t (r4 p z tk tn t) l = x := ⟨_, rfl⟩
  have HE := Lib.hid hqg
  have hcase := HT.out _ HR.out
  rw [hqg, HK.out] at hcase
  simp only at hcase
  have HCS := Lib.hid hcase
  clear hqg hcase
  go_wp2_with fail
  refine (HEV.out _ 4 4 l.length _ _ v1 c4t (r4 p z tk tn t) l q2 g ?_ (HC3.out.below ((Below.refl _ _).alloc (Nat.le_refl _) _)) (by decide) (rd_r4 (new0 w3 _)) (((HX1.out.below HB2.out).below HB3.out).below ((Below.refl _ _).alloc (Nat.le_refl _) _)) HS.out HE.out).mono ?_
  · exact (into (into HB1.out HB2.out) HB3.out).alloc (by have := HB1.out.size; omega) _
  rintro e w4 ⟨rfl, hb4⟩
  have HB4 : Hid (Below w3.heap.size w3 w4) := Lib.hid (into ((Below.refl _ _).alloc (Nat.le_refl _) _) hb4)
  have hz4 := HB4.out.size
  clear hb4
  go_wp2_with fail
  refine (HKD.out _ 0 l.length _ v1 [] l 1 0 ?_ ?_ (by simp) ((((HX1.out.below HB2.out).below HB3.out).below HB4.out).below ((Below.refl _ _).alloc (Nat.le_refl _) _)) HS.out HK0.out).mono ?_
  · exact (into (into (into HB1.out HB2.out) HB3.out) HB4.out).alloc (by have := HB1.out.size; omega) _
  · exact Rd.nil _ _
  rintro e w5 ⟨rfl, hb5⟩
  have HB5 : Hid (Below W.heap.size W w5) := Lib.hid (into ((into (into (into HB1.out HB2.out) HB3.out) HB4.out).alloc (by have := HB1.out.size; omega) _) hb5)
  have HG : Hid (w5.heap[w4.heap.size]? = some (.cells #[.int .i64 g.k, .int .i64 g.n, .string g.t] 33 (0, 0))) := Lib.hid ((hb5.block w4.heap.size (by simp)).trans (new0 w4 _))
  clear hb5
  obtain ⟨y0, y1, y2, -, -, -⟩ := box3 HG.out
  obtain ⟨rfl, hq2⟩ | ⟨rfl, hq2⟩ := HCS.out
  · obtain ⟨rfl, -⟩ := Prod.mk.inj hq2
    clear hq2
    go_wp2_with fail
    go_ret
    exact ⟨rfl, HB5.out⟩
  · rcases hq2 with rfl | ⟨rfl, hg⟩
    · go_wp2_with fail
      go_ret
      exact ⟨rfl, HB5.out⟩
    · have hg := hg.2
      by_cases h0 : g.k = 0
      · have e0 : (g.k == 0) = true := by simp [h0]
        clear h0 hg
        go_wp2_with fail
        all_goals (go_ret; exact ⟨rfl, HB5.out⟩)
      · have e0 : (g.k == 0) = false := by simpa using h0
        have e1 : (g.k == kk) = true := by simp; omega
        by_cases hk0 : kk = 0
        · exfalso; omega
        · have e2 : (kk == 0) = false := by simpa using hk0
          clear h0 hg hk0
          go_wp2_with fail
          all_goals (go_ret; exact ⟨rfl, HB5.out⟩)

set_option maxRecDepth 100000 in
theorem lifted (os : Os) (started : os.Started) (H : Type) (enc : TypeId × Value → H) :
    ReturnsInHanded {} Tryd.checked os 3 .any (fun w args => (Rows.kindToldSpec.pre enc Tryd.prog Tryd.f3 [] false w args ∧ laidX w) ∧ sizedMet enc Tryd.prog Tryd.f3 (OpenSpec.ofChange Rows.kindToldSpec) false w args) (Rows.kindToldSpec.post enc Tryd.prog Tryd.f3 false true false false) := by
  refine returnsInHanded_of_change_and (C := Tryd.checked) (X := fun w _ => laidX w) (fun _ _ _ hh h => h.of_heap hh) Tryd.own started (by kernel_rfl) Tryd.func3
    (ChangeSpec.witness_at (enc := enc) (C := Tryd.checked) (os := os) (X := fun w _ => laidX w) false (tabledX os) #[.agg #[.int .i64 0, .int .i64 0, .string ⟨#[]⟩, .slice none 0 0], .int .i64 0, .int .i64 0, .string ⟨#[]⟩, .int .i64 0] 8 rfl (by kernel_rfl) (by kernel_rfl) (by kernel_rfl) (by kernel_rfl) (by kernel_rfl) (tabledX_laidX os _)) ?_
  intro W base args ds gs before hval0 hW hcnd hsz0 hL _
  have hsz : (DataW.weightsEach Tryd.prog (Tryd.f3.params.toList ++ Rows.kindToldSpec.plain.varTypes Tryd.prog) (ds ++ gs)).all (· ≤ reachBytes) = true := hsz0
  have hval : ∀ (j : Nat) t v, Tryd.f3.params[j]? = some t → args[j]? = some v → Value.okWide Tryd.prog W .any base t v := hval0
  have hW' := hW
  obtain ⟨p, q, hA0, hV, rfl, hfz, hnd⟩ := hW
  have hA : DataW.TrodAll enc Tryd.prog W 0 (fun _ => true) true Tryd.f3.params.toList args.toList ds p := hA0
  rw [Tryd.params3] at hA hval hsz
  obtain ⟨v0, v1, v2, v3, v4, d0, d1, d2, d3, d4, p0, p1, p2, p3, p4, rfl, rfl, rfl, h0, h1, h2, h3, h4⟩ := trodAll_five hA
  obtain ⟨rfl, rfl⟩ := trodVars_none hV
  have sm0 : small Tryd.prog 24 d0 := fun q hq => by
    have := List.all_eq_true.1 hsz q (weights_each (j := 0) rfl rfl q hq)
    simpa using this
  obtain ⟨k0, n0, s0, o0, m0, c0, rfl, wk0, wn0, ws0, wt0⟩ := open_twig (hval 0 24 v0 rfl rfl) h0 sm0
  obtain ⟨a1, rfl, rfl, rfl, w1⟩ := open_int Tryd.underlying3 (hval 1 3 v1 rfl rfl) h1
  obtain ⟨a2, rfl, rfl, rfl, w2⟩ := open_int Tryd.underlying3 (hval 2 3 v2 rfl rfl) h2
  obtain ⟨t3, rfl, rfl, rfl, ws3⟩ := open_string Tryd.underlying9 (hval 3 9 v3 rfl rfl) h3
  obtain ⟨a4, rfl, rfl, rfl, w4⟩ := open_int Tryd.underlying3 (hval 4 3 v4 rfl rfl) h4
  clear hA0 hval0
  refine (walk W (X_of hL) k0 n0 s0 o0 m0 c0 wk0 wn0 ws0 wt0 a1 w1 a2 w2 t3 ws3 a4 w4).mono fun e W' ⟨he, hg⟩ => ?_
  subst he
  exact ⟨_, rfl, law_post (tb := 4) Tryd.laidOut (by kernel_rfl) (by kernel_rfl) Tryd.underlying4 rfl hW' hg rfl rfl rfl⟩

theorem bare : Rows.KindToldSaid :=
  OpenClaim.holds_of_wide 3 Tryd.f3 rfl rfl rfl rfl rfl rfl rfl ⟨rfl, rfl, rfl, rfl, rfl⟩ rfl rfl rfl rfl rfl (by kernel_rfl) Tryd.func3 (by kernel_rfl)
    (of_decide_eq_true (by kernel_rfl)) (by unfold Func.isWrapper; first | (rw [if_pos (by decide +kernel)]; kernel_rfl) | (rw [if_neg (by decide +kernel)]; exact ⟨rfl, rfl⟩))
    (fun os started H enc _ => lifted os started H enc)
/-- The card: the row's one listed variable is tied to the program's text. -/
theorem proved : Rows.KindToldCardSaid :=
  Claim7.holds_tied_plain_at .later [] [.data, .data, .data, .data, .data, .data] true _ false bare (fun _ h => by cases h) (by kernel_rfl) (fun _ h => by cases h) kindTold_row_tie rfl ⟨rfl, rfl⟩ (by kernel_rfl) rfl
    (fun f fn hf hfn => by
      obtain rfl : f = 3 := Option.some.inj ((show Tryd.prog.funcNamed "padlock/padlockkeep.KindTold" = some 3 by kernel_rfl).symm.trans hf) |>.symm
      obtain rfl : fn = Tryd.f3 := (Option.some.inj (Tryd.func3.symm.trans hfn)).symm
      refine ⟨by kernel_rfl, fun j t ht => ?_⟩
      rw [Tryd.params3] at ht
      rcases j with _ | _ | _ | _ | _ | j <;> simp at ht <;> subst ht <;> kernel_rfl)
    (by kernel_rfl)
#print axioms proved
end Go.Proofs.YtjnfhhmhbeobbaaDoor.lKindTold

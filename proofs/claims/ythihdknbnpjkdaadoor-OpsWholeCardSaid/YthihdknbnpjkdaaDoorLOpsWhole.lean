/- Ops are an expression, if just one thing is left, and each has what it works on. The row lists the program's tables of marks, of words that are kept, and of what each op works on; the card ties them to the program's text. -/
import Derived.Test.YthihdknbnpjkdaaDoorUd
import Derived.Test.YthihdknbnpjkdaaDoorB2
import Derived.Test.YthihdknbnpjkdaaDoorOf
namespace Go.Proofs.YthihdknbnpjkdaaDoor.lOpsWhole
open Go.ChangeShapes Go.WideShapes Go.ChangeAt Go.RowKit Go.Joins
open Go.ChangeMaps (open_string shut_string)
set_option linter.unusedVariables false
set_option linter.unusedSimpArgs false
set_option maxHeartbeats 400000

theorem whl_ne {l : List Oq} (h : Whl l) : 0 < l.length := by
  cases l with
  | nil =>
    have := h.1 0 [] (by omega)
    simp [exF] at this
  | cons a l => simp
def n12 : Oq := ⟨12, ⟨0, 0, ⟨#[]⟩⟩, ⟨#[]⟩⟩
def n5 : Oq := ⟨5, ⟨0, 0, ⟨#[]⟩⟩, ⟨#[]⟩⟩
theorem ocs_take : ∀ (l : List Oq) (j : Nat), (ocs l).take (j * 5) = ocs (l.take j)
  | [], j => by simp [ocs]
  | a :: l, 0 => by simp [ocs]
  | a :: l, j + 1 => by
    have e : (j + 1) * 5 = j * 5 + 1 + 1 + 1 + 1 + 1 := by omega
    rw [e, ocs, List.take_succ_cons, List.take_succ_cons, List.take_succ_cons, List.take_succ_cons, List.take_succ_cons, ocs_take l j, List.take_succ_cons, ocs]
theorem one_small {o1 : Oq} {l : List Oq} (h : ∀ o ∈ l, o.t.size ≤ 2) (h1 : o1.t.size ≤ 2 := by show (0 : Nat) ≤ 2; omega) : ∀ o ∈ [o1] ++ l, o.t.size ≤ 2 := by
  intro o ho
  rcases List.mem_append.1 ho with g | g
  · rw [List.mem_singleton] at g
    rw [g]
    exact h1
  · exact h o g
theorem small_one {o1 : Oq} {l : List Oq} (h : ∀ o ∈ l, o.t.size ≤ 2) (h1 : o1.t.size ≤ 2 := by show (0 : Nat) ≤ 2; omega) : ∀ o ∈ l ++ [o1], o.t.size ≤ 2 := by
  intro o ho
  rcases List.mem_append.1 ho with g | g
  · exact h o g
  · rw [List.mem_singleton] at g
    rw [g]
    exact h1
set_option maxRecDepth 100000 in
set_option maxHeartbeats 4000000 in
theorem walk (W : World) (hL : Mk W ∧ Wo W ∧ Kt W) (k n : Int) (s : ByteArray) (ao : Option Addr) (m cap : Nat) (hk : Rn k) (hn : Rn n) (hs : s.size ≤ maxLen) (ht : TwS W 3 (.slice ao m cap)) (x : Int) (wx : (Lit.int .i64 x).wf = true) :
    Calls Tryd.prog 6 #[.agg #[.int .i64 k, .int .i64 n, .string s, .slice ao m cap], .int .i64 x] W fun e w' => e = .returned (.bool true) ∧ Below W.heap.size W w' := by
  have HX : Hid (∀ (B : Nat) (w : World) (m : Nat) (v : Value) (l : List Oq) (r : Int), B ≤ w.heap.size → Below W.heap.size W w → Rd w 5 m v (ocs l) → (∀ o ∈ l, o.t.size ≤ 2) → exprF l = r → Calls Tryd.prog 10 #[v] w fun e w' => e = .returned (.int .i64 r) ∧ Below W.heap.size W w' ∧ Below B w w') := by
    rintro B w m v l r hB hb hr hs rfl
    exact (expr_any w (hL.1.below hb) (hL.2.2.below hb) (hL.2.1.below hb) m v l hr (fun o ho => by have := hs o ho; unfold maxLen; omega)).mono fun e w' h => ⟨h.1, into hb h.2, h.2.mono hB⟩
  have hx := rn_of wx
  have hb0 : Below W.heap.size W (W.alloc (.cells #[.int .i64 k, .int .i64 n, .string s, .slice ao m cap] 36)) := (Below.refl _ _).alloc (Nat.le_refl _) _
  have HO := Lib.hid (ops_any3 (W.alloc (.cells #[.int .i64 k, .int .i64 n, .string s, .slice ao m cap] 36)) k n s ao m cap hk hn hs (ht.below hb0))
  have HB0 := Lib.hid hb0
  have HXX := Lib.hid hx
  clear hb0 hk hn hs ht wx hL hx
  go_enter Tryd.func6, Tryd.ntmps6
  go_wp2_with fail
  refine HO.out.mono ?_
  rintro e w1 ⟨v1, l, rfl, hw, hl, hown, hb1⟩
  obtain ⟨a1, a2, a3, a4⟩ := whl_all hw hl
  have hpos := whl_ne hw
  have hB1 := into HB0.out hb1
  obtain ⟨b1, o1, cap1, rfl, hc1, hc2, -, -⟩ := (Rd.own hown).pos hpos (by omega)
  unfold maxLen at hc2
  have hrd := Rd.own hown
  have HR := Lib.hid hrd
  have HB1 := Lib.hid hB1
  have HA := Lib.hid (And.intro a1 (And.intro a2 (And.intro a3 a4)))
  have HS := Lib.hid hw.2.2
  obtain ⟨N, hN⟩ : ∃ N, N = l.length := ⟨_, rfl⟩
  have HN := Lib.hid hN
  rw [← hN] at HR hl hpos hc1
  rw [← hN]
  have hp := fun w => pck_any x ((N : Int) + 1) w HXX.out (by omega) (by omega)
  obtain ⟨p1, p2⟩ := pck_in x ((N : Int) + 1) (by omega)
  obtain ⟨j, hj⟩ : ∃ j : Nat, pck x ((N : Int) + 1) = (j : Int) := ⟨(pck x ((N : Int) + 1)).toNat, by omega⟩
  rw [hj] at hp p1 p2
  have HP := Lib.hid hp
  have hjN : j ≤ N := by omega
  have hjc : (j : Int) ≤ (cap1 : Int) := by omega
  have hj0 : (0 : Int) ≤ (j : Int) := by omega
  clear hb1 hown hrd hB1 hw a1 a2 a3 a4 hp hj p1 p2 hN HO HXX
  go_wp2_with fail
  refine (HP.out _).mono ?_
  rintro e w' ⟨rfl, rfl⟩
  go_wp2_with fail
  refine (HX.out w1.heap.size _ N _ l 0 (Nat.le_refl _) HB1.out HR.out HS.out HA.out.1).mono ?_
  rintro e w2 ⟨rfl, hB2, hb2⟩
  have HR2 := Lib.hid (HR.out.below hb2)
  have HB2 := Lib.hid hB2
  clear hB2 hb2
  have nopN := ocs_one l
  go_wp2_with (first | (at_builtin; refine apg w2 N rfl _ _ 25 41 _ 5 56 Tryd.underlying25 Tryd.info41 rfl (by omega) rfl (World.ownsRow_nil _ w2.heap.size _ _) (Nat.le_refl _) (by omega) (by unfold maxLen; omega) (ocs_one _) HR2.out rfl rfl ?_; intro v3 w3 hown hb _; have hz3 := hb.size; have HO3 := Lib.hid (show w3.ownsRow w2.heap.size 41 5 v3 N (ocs l) by simpa using hown); have HB3 := Lib.hid hb; have HR3 := Lib.hid (HR2.out.below hb); clear hown hb) | (at_builtin; refine apg w3 N rfl _ _ 25 41 _ 5 56 Tryd.underlying25 Tryd.info41 rfl (by omega) rfl (HO3.out) (by omega) (by omega) (by unfold maxLen; omega) (ocs_one _) HR3.out rfl rfl ?_; intro v4 w4 hown hb _; have hz4 := hb.size; have HO4 := Lib.hid hown; have HB4 := Lib.hid (HB3.out.trans hb); clear hown hb))
  refine (HX.out w2.heap.size _ (N + N) _ (l ++ l) 7 (by omega) (into HB2.out HB4.out) (by rw [ocs_app]; exact Rd.own HO4.out) (fun o ho => by rcases List.mem_append.1 ho with h | h <;> exact HS.out o h) HA.out.2.1).mono ?_
  rintro e w5 ⟨rfl, hB5, hb5⟩
  have HR5 := Lib.hid (HR2.out.below (HB4.out.trans hb5))
  have HB5 := Lib.hid hB5
  clear hB5 hb5
  go_wp2_with (at_builtin; refine apg (w5.alloc (.cells #[.int .i64 5, .int .i64 0, .int .i64 0, .string ⟨#[]⟩, .string ⟨#[]⟩] 41)) N rfl _ _ 25 41 _ 5 56 Tryd.underlying25 Tryd.info41 rfl (by omega) rfl (World.ownsRow_lit (base := w5.heap.size) w5 #[.int .i64 5, .int .i64 0, .int .i64 0, .string ⟨#[]⟩, .string ⟨#[]⟩] 1 (Nat.le_refl _) (by unfold maxLen; omega) rfl) (by simp) (by omega) (by unfold maxLen; omega) (ocs_one _) (HR5.out.below ((Below.refl _ _).alloc (Nat.le_refl _) _)) rfl rfl ?_; intro v6 w6 hown hb _; have hz6 := hb.size; have HO6 := Lib.hid (show w6.ownsRow w5.heap.size 41 5 v6 (1 + N) (ocs [n5] ++ ocs l) by exact hown); have HB6 := Lib.hid (((Below.refl w5.heap.size w5).alloc (Nat.le_refl _) _).trans hb); clear hown hb)
  have hz6 := HB6.out.size
  refine (HX.out w5.heap.size _ (1 + N) _ ([n5] ++ l) 7 (by omega) (into HB5.out HB6.out) (by rw [ocs_app]; exact Rd.own HO6.out) (one_small HS.out) HA.out.2.2.1).mono ?_
  rintro e w7 ⟨rfl, hB7, hb7⟩
  have HR7 := Lib.hid (HR5.out.below (HB6.out.trans hb7))
  have HB7 := Lib.hid hB7
  clear hB7 hb7
  have HRJ := Lib.hid (HR7.out.take j hjN)
  have HTJ : Hid ((ocs l).take (j * 5) = ocs (l.take j)) := ocs_take l j
  have HRJ2 : Hid (Rd w7 5 j (.slice (some ⟨b1, o1, none⟩) j cap1) (ocs (l.take j))) := by
    have h := HRJ.out
    rw [HTJ.out] at h
    exact h
  clear HRJ
  go_wp2_with (first | (at_builtin; refine apg w7 j rfl _ _ 25 41 _ 5 56 Tryd.underlying25 Tryd.info41 rfl (by omega) rfl (World.ownsRow_nil _ w7.heap.size _ _) (Nat.le_refl _) (by omega) (by unfold maxLen; omega) (ocs_one _) HRJ2.out rfl rfl ?_; intro v8 w8 hown hb _; have hz8 := hb.size; have HO8 := Lib.hid (show w8.ownsRow w7.heap.size 41 5 v8 j (ocs (l.take j)) by simpa using hown); have HB8 := Lib.hid hb; have HRD := Lib.hid (one_rd w8 n12 w8.heap.size rfl); clear hown hb) | (at_builtin; refine apg (w8.alloc (.cells #[.int .i64 12, .int .i64 0, .int .i64 0, .string ⟨#[]⟩, .string ⟨#[]⟩] 41)) 1 rfl _ _ 25 41 _ 5 56 Tryd.underlying25 Tryd.info41 rfl (by omega) rfl (HO8.out.alloc _) (by simp; omega) (by omega) (by unfold maxLen; omega) (ocs_one _) HRD.out rfl rfl ?_; intro v9 w9 hown hb _; have hz9 := hb.size; have HO9 := Lib.hid (show w9.ownsRow w7.heap.size 41 5 v9 (j + 1) (ocs (l.take j) ++ ocs [n12]) by exact hown); have HB9 := Lib.hid ((HB8.out.alloc (by omega) _).trans hb); clear hown hb))
  have hz9 := HB9.out.size
  refine (HX.out w7.heap.size _ (j + 1) _ (l.take j ++ [n12]) 2 (by omega) (into HB7.out HB9.out) (by rw [ocs_app]; exact Rd.own HO9.out) (small_one (fun o ho => HS.out o (List.mem_of_mem_take ho))) (HA.out.2.2.2 j)).mono ?_
  rintro e w10 ⟨rfl, hB10, hb10⟩
  have HB10 := Lib.hid hB10
  clear hB10 hb10
  go_wp2_with fail
  refine (HX.out 0 _ 0 _ [] 7 (Nat.zero_le _) HB10.out (Rd.nil _ 5) (by intro o ho; cases ho) rfl).mono ?_
  rintro e w11 ⟨rfl, hB11, -⟩
  have HB11 := Lib.hid hB11
  clear hB11
  go_wp2_with fail
  go_ret
  exact ⟨rfl, HB11.out⟩

set_option maxRecDepth 100000 in
theorem lifted (os : Os) (started : os.Started) (H : Type) (enc : TypeId × Value → H) :
    ReturnsInHanded {} Tryd.checked os 6 .any (fun w args => (Rows.opsWholeSpec.pre enc Tryd.prog Tryd.f6 [] false w args ∧ laidE w) ∧ sizedMet enc Tryd.prog Tryd.f6 (OpenSpec.ofChange Rows.opsWholeSpec) false w args) (Rows.opsWholeSpec.post enc Tryd.prog Tryd.f6 false true false false) := by
  refine returnsInHanded_of_change_and (C := Tryd.checked) (X := fun w _ => laidE w) (fun _ _ _ hh h => h.of_heap hh) Tryd.own started (by kernel_rfl) Tryd.func6
    (ChangeSpec.witness_at (enc := enc) (C := Tryd.checked) (os := os) (X := fun w _ => laidE w) false (tabledE os) #[.agg #[.int .i64 0, .int .i64 0, .string ⟨#[]⟩, .slice none 0 0], .int .i64 0] 8 rfl (by kernel_rfl) (by kernel_rfl) (by kernel_rfl) (by kernel_rfl) (by kernel_rfl) (tabledE_laidE os _)) ?_
  intro W base args ds gs before hval0 hW hcnd hsz0 hL _
  have hsz : (DataW.weightsEach Tryd.prog (Tryd.f6.params.toList ++ Rows.opsWholeSpec.plain.varTypes Tryd.prog) (ds ++ gs)).all (· ≤ reachBytes) = true := hsz0
  have hval : ∀ (j : Nat) t v, Tryd.f6.params[j]? = some t → args[j]? = some v → Value.okWide Tryd.prog W .any base t v := hval0
  have hW' := hW
  obtain ⟨p, q, hA0, hV, rfl, hfz, hnd⟩ := hW
  have hA : DataW.TrodAll enc Tryd.prog W 0 (fun _ => true) true Tryd.f6.params.toList args.toList ds p := hA0
  rw [Tryd.params6] at hA hval hsz
  obtain ⟨v0, v1, d0, d1, p0, p1, rfl, rfl, rfl, h0, h1⟩ := trodAll_two hA
  obtain ⟨rfl, rfl⟩ := trodVars_none hV
  have sm0 : small Tryd.prog 36 d0 := fun q hq => by
    have := List.all_eq_true.1 hsz q (weights_each (j := 0) rfl rfl q hq)
    simpa using this
  obtain ⟨k0, n0, s0, o0, m0, c0, rfl, wk0, wn0, ws0, wt0⟩ := open_twig (hval 0 36 v0 rfl rfl) h0 sm0
  obtain ⟨a1, rfl, rfl, rfl, w1⟩ := open_int Tryd.underlying3 (hval 1 3 v1 rfl rfl) h1
  clear hA0 hval0
  refine (walk W (E_of hL) k0 n0 s0 o0 m0 c0 wk0 wn0 ws0 wt0 a1 w1).mono fun e W' ⟨he, hg⟩ => ?_
  subst he
  exact ⟨_, rfl, law_post (tb := 4) Tryd.laidOut (by kernel_rfl) (by kernel_rfl) Tryd.underlying4 rfl hW' hg rfl rfl rfl⟩

theorem bare : Rows.OpsWholeSaid :=
  OpenClaim.holds_of_wide 6 Tryd.f6 rfl rfl rfl rfl rfl rfl rfl ⟨rfl, rfl, rfl, rfl, rfl⟩ rfl rfl rfl rfl rfl (by kernel_rfl) Tryd.func6 (by kernel_rfl)
    (of_decide_eq_true (by kernel_rfl)) (by unfold Func.isWrapper; first | (rw [if_pos (by decide +kernel)]; kernel_rfl) | (rw [if_neg (by decide +kernel)]; exact ⟨rfl, rfl⟩))
    (fun os started H enc _ => lifted os started H enc)
/-- The card: the row's one listed variable is tied to the program's text. -/
theorem proved : Rows.OpsWholeCardSaid :=
  Claim7.holds_tied_plain_at .later [] [.data, .data, .data] true _ false bare (fun _ h => by cases h) (by kernel_rfl) (fun _ h => by cases h) opsWhole_row_tie rfl ⟨rfl, rfl⟩ (by kernel_rfl) rfl
    (fun f fn hf hfn => by
      obtain rfl : f = 6 := Option.some.inj ((show Tryd.prog.funcNamed "padlock/padlockkeep.OpsWhole" = some 6 by kernel_rfl).symm.trans hf) |>.symm
      obtain rfl : fn = Tryd.f6 := (Option.some.inj (Tryd.func6.symm.trans hfn)).symm
      refine ⟨by kernel_rfl, fun j t ht => ?_⟩
      rw [Tryd.params6] at ht
      rcases j with _ | _ | j <;> simp at ht <;> subst ht <;> kernel_rfl)
    (by kernel_rfl)
#print axioms proved
end Go.Proofs.YthihdknbnpjkdaaDoor.lOpsWhole

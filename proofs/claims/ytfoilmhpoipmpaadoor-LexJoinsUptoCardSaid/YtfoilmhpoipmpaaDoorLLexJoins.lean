/- Tokens joined: the program answers as the document does, wherever what comes in is small (the second form). The row lists the program's table of marks and variables of the library; the card ties them to the texts. -/
import Derived.Test.YtfoilmhpoipmpaaDoorVl
import Derived.Test.YtfoilmhpoipmpaaDoorVd
import Derived.Test.YtfoilmhpoipmpaaDoorB2
import Derived.Deep.DeepHandedRow
import Derived.JoinedCond
namespace Go.Proofs.YtfoilmhpoipmpaaDoor.lLexJoins
open Go.ChangeShapes Go.WideShapes Go.ChangeAt Go.RowKit Go.Joins
set_option linter.unusedVariables false
set_option linter.unusedSimpArgs false
set_option maxHeartbeats 400000
abbrev LJ : List (String × DataW Unit) := Rows.lexJoinsUptoRow.laid
theorem plainJ : (LJ.all fun x => x.2.handleName?.isNone) = true := by kernel_rfl
theorem laidJ_M {W : World} (h : laidMetH Tryd.prog LJ W) : laidM W := by
  have h0 : laidMet Tryd.prog LJ W := h
  have h1 := h0.filter (fun x => x.1 == "padlock/lex.marks")
  have e : LJ.filter (fun x => x.1 == "padlock/lex.marks") = [("padlock/lex.marks", Rows.laid_padlock_lex_marks)] := by kernel_rfl
  rwa [e] at h1
theorem laidJ_P {W : World} (h : laidMetH Tryd.prog LJ W) : ∃ t fr, W.heap[4]? = some (.cells p10C t fr) := by
  have h0 : laidMet Tryd.prog LJ W := h
  have h1 := h0.filter (fun x => x.1 == "internal/strconv.uint64pow10")
  have e : LJ.filter (fun x => x.1 == "internal/strconv.uint64pow10") = [("internal/strconv.uint64pow10", Rows.laid_internal_strconv_uint64pow10)] := by kernel_rfl
  rw [e] at h1
  have e2 : (Rows.laid_internal_strconv_uint64pow10 : DataW Unit) = Lib.tabData .u64 Lib.pow10Tab := by rfl
  rw [e2] at h1
  have h2 := Lib.tabIs_of_head (g := 4) (t := 103) (e := 90) (n := 20) p10_at (by kernel_rfl) Tryd.underlying103 Tryd.underlying90 (by kernel_rfl) (by kernel_rfl) h1
  exact var_block p10_at h2
theorem J_of {W : World} (h : laidMetH Tryd.prog LJ W) (hs : W.ShapedOpen Tryd.prog) : Lj W := by
  refine ⟨M_of (laidJ_M h), ?_, laidJ_P h⟩
  exact cell_of_shapedOpen_int (zero := #[.int .i64 0]) (t := 3) hs (of_decide_eq_true (by kernel_rfl)) (by kernel_rfl) rfl (by kernel_rfl) (by kernel_rfl) Tryd.underlying3
theorem plainA : (LA.all fun x => x.2.handleName?.isNone) = true := by kernel_rfl
theorem laidJ_met (os : Os) (args : Array Value) : laidMetH Tryd.prog LJ ((tabledA os).forCall (fun _ _ => 0) ⟨#[], args, []⟩).memory := by
  have h := tabledA_laid os args
  have h1 := h.filter (fun x => !(x.1 == "strconv.ErrRange" || x.1 == "strconv.ErrSyntax"))
  have e : LA.filter (fun x => !(x.1 == "strconv.ErrRange" || x.1 == "strconv.ErrSyntax")) = LJ := by kernel_rfl
  rw [e] at h1
  exact h1
theorem reads (os : Os) {H : Type} (enc : TypeId × Value → H) : ∃ places, DataW.whole enc Tryd.prog ((tabledA os).forCall (fun _ _ => 0) ⟨#[], #[.slice none 0 0], []⟩).memory Tryd.f5.params.toList Rows.lexJoinsSpec.vars false #[Value.slice none 0 0].toList 8 = some ([.nil], [], places) :=
  ⟨[], by kernel_rfl⟩
set_option maxRecDepth 100000 in
theorem contract (H : Type) (enc : TypeId × Value → H) (W : World) (base : Nat) (args : Array Value) (ds gs : List (DataW H)) (before : List MemPlace)
    (hval0 : ∀ (j : Nat) t v, Tryd.f5.params[j]? = some t → args[j]? = some v → Value.okWide Tryd.prog W .any base t v)
    (hW : DataW.Whole enc Tryd.prog Tryd.f5.params.toList Rows.lexJoinsSpec.vars false W args.toList ds gs before) (hk : Rows.uptoSmall H (ds ++ gs) = true) (hJ : Lj W) :
    Calls Tryd.prog 5 args W fun e W' => ∃ v, e = .returned v ∧ Rows.lexJoinsSpec.post enc Tryd.prog Tryd.f5 false true false false W args v W' := by
  have hval : ∀ (j : Nat) t v, Tryd.f5.params[j]? = some t → args[j]? = some v → Value.okWide Tryd.prog W .any base t v := hval0
  have hW' := hW
  obtain ⟨p, q, hA0, hV, rfl, hfz, hnd⟩ := hW
  have hA : DataW.TrodAll enc Tryd.prog W 0 (fun _ => true) true Tryd.f5.params.toList args.toList ds p := hA0
  rw [Tryd.params5] at hA hval
  obtain ⟨v0, d0, rfl, rfl, h0⟩ := trodAll_one hA
  obtain ⟨rfl, rfl⟩ := trodVars_none hV
  obtain ⟨n0, l0, hr0, hw0, hs0⟩ := open_tk Tryd.underlying22 Tryd.underlying29 (by kernel_rfl) (by kernel_rfl) Tryd.underlying3 Tryd.underlying9 Tryd.underlying3 (hval 0 22 v0 rfl rfl) h0
  obtain ⟨hn, hsm⟩ := small_tk (len_t hr0) hs0 (by simpa using hk) hw0
  clear hA0 hval0
  refine (joins_walk W hJ n0 v0 l0 hr0 hsm hn).mono fun e W' ⟨he, hg⟩ => ?_
  subst he
  exact ⟨_, rfl, law_post (tb := 4) Tryd.laidOut (by kernel_rfl) (by kernel_rfl) Tryd.underlying4 rfl hW' hg rfl rfl rfl⟩
set_option maxRecDepth 100000 in
theorem lifted (os : Os) (started : os.Started) (H : Type) (enc : TypeId × Value → H) (F : Stop.Interp) :
    ReturnsInHanded {} Tryd.checked os 5 .any ((Rows.OpenSpec.upto Rows.lexJoinsSpec).preRow enc Tryd.prog Tryd.f5 Rows.lexJoinsUptoRow.domain false Rows.lexJoinsUptoRow.laid) (((Rows.OpenSpec.upto Rows.lexJoinsSpec).at F).post enc Tryd.prog Tryd.f5 false true false false) := by
  obtain ⟨places, hx⟩ := reads os enc
  refine returnsInHanded_of_row (C := Tryd.checked) (s := Rows.OpenSpec.upto Rows.lexJoinsSpec) Tryd.own started (by kernel_rfl) Tryd.func5
    (witness_row_at (enc := enc) (C := Tryd.checked) false (tabledA os) #[.slice none 0 0] rfl (by kernel_rfl) (by kernel_rfl) (by kernel_rfl)
      (OpenSpec.preRow_of_cond 8 hx (by kernel_rfl) (fun k hk => by cases hk; kernel_rfl) (by kernel_rfl) (laidJ_met os _))) ?_
  intro W base args ds gs before hval hW _ hcond _ hL hsh _
  exact contract H enc W base args ds gs before hval hW (hcond _ rfl) (J_of hL hsh)
theorem bare : Rows.LexJoinsUptoSaid :=
  OpenClaim.holds_of_cond 5 Tryd.f5 rfl rfl rfl rfl rfl rfl rfl ⟨rfl, rfl, rfl, rfl, rfl⟩ rfl rfl rfl rfl rfl (by kernel_rfl) Tryd.func5 (by kernel_rfl)
    (of_decide_eq_true (by kernel_rfl)) (by unfold Func.isWrapper; first | (rw [if_pos (by decide +kernel)]; kernel_rfl) | (rw [if_neg (by decide +kernel)]; exact ⟨rfl, rfl⟩))
    (fun os started H enc _ F => by rw [OpenClaim.pre_eq_preRow]; exact lifted os started H enc F)
/-- The card of the second form. -/
theorem proved : Rows.LexJoinsUptoCardSaid :=
  Claim7.holds_tied_plain_at .later [] _ true _ true bare (fun _ h => by cases h) (by kernel_rfl) (fun _ h => by cases h) lexJoinsUpto_row_tie rfl ⟨rfl, rfl⟩ (by kernel_rfl) rfl
    (fun f fn hf hfn => by
      obtain rfl : f = 5 := Option.some.inj ((show Tryd.prog.funcNamed "padlock/padlocklaw.LexJoins" = some 5 by kernel_rfl).symm.trans hf) |>.symm
      obtain rfl : fn = Tryd.f5 := (Option.some.inj (Tryd.func5.symm.trans hfn)).symm
      refine ⟨by kernel_rfl, fun j t ht => ?_⟩
      rw [Tryd.params5] at ht
      rcases j with _ | j <;> simp at ht <;> subst ht <;> kernel_rfl)
    (by kernel_rfl)
#print axioms proved
end Go.Proofs.YtfoilmhpoipmpaaDoor.lLexJoins

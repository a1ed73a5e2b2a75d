/- When all have left nothing is left: at every list of wishes. The row lists the program's two tables; the card ties them to the program's text. -/
import Derived.Test.YtoiaedjglhcidaaDoorJl
import Derived.Test.YtoiaedjglhcidaaDoorB2
import Derived.Test.YtoiaedjglhcidaaDoorMv
import Derived.Test.YtoiaedjglhcidaaDoorMc
namespace Go.Proofs.YtoiaedjglhcidaaDoor.lAllLeave
open Go.ChangeShapes Go.WideShapes Go.ChangeAt Go.RowKit Go.Joins
open Go.ChangeMaps (open_string shut_string)
set_option linter.unusedVariables false
set_option linter.unusedSimpArgs false
set_option maxHeartbeats 400000

theorem gone_all {H Q : List Lk} (hok : Okl H Q) : leaveL H Q 1048577 = ([], [], [], 3) := by
  unfold leaveL
  rw [if_neg (by simp [(okl_iff H Q).2 hok]), if_pos (by omega)]
theorem nil_of {H : List Lk} {t : Int} (h6 : ∀ x ∈ H, x.t ≤ 6) (h : ∀ x ∈ H, 6 < x.t) : H = [] := by
  cases H with
  | nil => rfl
  | cons a l =>
    have h1 := h6 a (by simp)
    have h2 := h a (by simp)
    omega
set_option maxRecDepth 100000 in
set_option maxHeartbeats 8000000 in
theorem walk (W : World) (hL : Tog W ∧ Jnd W) (n : Nat) (v : Value) (l : List Wi) (hr : Rd W 3 n v (wic l)) (hz : n * 24 ≤ 140737488351232) (hs : ∀ o ∈ l, WiOk o) : Calls Tryd.prog 6 #[v] W fun e w' => e = .returned (.bool true) ∧ Below W.heap.size W w' := by
  have HT := Lib.hid hL
  have HLK := Lib.hid (locks_any W hL n v l hr hs)
  obtain ⟨_, av, cv, rfl, _⟩ := id hr
  clear hL hr hs
  go_enter Tryd.func6, Tryd.ntmps6
  go_wp2_with fail
  refine HLK.out.mono ?_
  rintro e w1 ⟨x1, n1, c1, x2, n2, c2, H0, Q0, rfl, hg0, g1, g2, hb1⟩
  have hlb := LB.new w1 g1 g2
  have hb2 : Below W.heap.size W (w1.alloc (.cells #[.slice x1 n1 c1, .slice x2 n2 c2] 25)) := hb1.alloc hb1.size _
  have hP : W.heap.size ≤ w1.heap.size := hb1.size
  obtain ⟨W2, hW2⟩ : ∃ W2, W2 = w1.alloc (.cells #[.slice x1 n1 c1, .slice x2 n2 c2] 25) := ⟨_, rfl⟩
  rw [← hW2] at hlb hb2
  have HLB := Lib.hid hlb
  have HB2 := Lib.hid hb2
  have HW2 := Lib.hid hW2
  have HG0 := Lib.hid hg0
  clear g1 g2 hb1 hlb hb2 hW2 HLK hg0
  go_wp2_with fail
  rw [← HW2.out]
  go_loopw [4] (fun i wr => ∃ (t : Nat) (x1 : Option Addr) (n1 c1 : Nat) (x2 : Option Addr) (n2 c2 : Nat) (H Q : List Lk), t ≤ 6 ∧ i = .int .i64 ((t : Int) + 1) ∧ Hid (Grown 40 H Q) ∧ Hid ((∀ x ∈ H, (t : Int) < x.t) ∧ ∀ x ∈ Q, (t : Int) < x.t) ∧ Hid (LB wr w1.heap.size x1 n1 c1 x2 n2 c2 H Q) ∧ Hid (Below W.heap.size W wr)) (fun i _ => 7 - (intOf i).toNat)
  case atStart => exact ⟨0, _, _, _, _, _, _, H0, Q0, by omega, rfl, HG0.out, ⟨fun x hx => by have := (HG0.out.ht x hx).1; show (0 : Int) < x.t; omega, fun x hx => by have := (HG0.out.qt x hx).1; show (0 : Int) < x.t; omega⟩, HLB.out, HB2.out⟩
  case round =>
    obtain ⟨t, x1, n1, c1, x2, n2, c2, H, Q, ht6, rfl, HG, HA, HX, HB⟩ := hrel
    obtain ⟨e0, e1, f0, f1⟩ := box2 HX.out.b
    have hlen : H.length + Q.length ≤ 1000 := by have := HG.out.few; omega
    by_cases hlt : t < 6
    · have hltI : (t : Int) + 1 ≤ 6 := by omega
      rcases hlv : leaveL H Q ((t : Int) + 1) with ⟨H', Q', A, er⟩
      have hgr := HG.out.leave (t := (t : Int) + 1) ⟨by omega, by omega⟩
      have hout := leave_out (t := (t : Int) + 1) (P := fun z => (t : Int) < z) HG.out.ok ⟨by omega, by omega⟩ HA.out.1 HA.out.2
      have her : er = 0 := by
        have := leave_e (t := (t : Int) + 1) HG.out.ok
        rw [hlv, if_neg (by omega)] at this
        exact this
      subst her
      rw [hlv] at hgr hout
      have HG2 := Lib.hid hgr
      have hA2 : (∀ x ∈ H', ((t + 1 : Nat) : Int) < x.t) ∧ ∀ x ∈ Q', ((t + 1 : Nat) : Int) < x.t := by
        refine ⟨fun x hx => ?_, fun x hx => ?_⟩
        · have := hout.1 x hx; omega
        · have := hout.2 x hx; omega
      have HA2 := Lib.hid hA2
      have HLV := Lib.hid (leave_v wr ⟨HT.out.1.below HB.out, HT.out.2.below HB.out⟩ HX.out.h HX.out.q hlen hlv)
      clear hlv hgr hout hA2
      go_wp2_with fail
      refine HLV.out.mono ?_
      rintro e w3 ⟨y1, m1, d1, y2, m2, d2, y3, d3, rfl, g1, g2, -, hb3⟩
      have hba : Below w3.heap.size w3 (w3.alloc (.cells #[.slice y1 m1 d1, .slice y2 m2 d2] 25)) := (Below.refl _ _).alloc (Nat.le_refl _) _
      have hl2 := (HX.out.below hb3).below hba
      have hln := LB.new w3 g1 g2
      clear e0 e1 f0 f1
      obtain ⟨e0, e1, f0, f1⟩ := box2 hl2.b
      obtain ⟨d0, d1', -, -⟩ := box2 hln.b
      have HL4 := Lib.hid (hl2.put (g1.below hba) (g2.below hba))
      have HB4 := Lib.hid (put_below (into (into HB.out hb3) hba) hP (.slice y1 m1 d1) (.slice y2 m2 d2))
      clear hba hl2 hln g1 g2 hb3 HLV
      go_wp2_with fail
      go_roundw
      case rel => exact ⟨t + 1, _, _, _, _, _, _, H', Q', by omega, by go_num, HG2.out, HA2.out, HL4.out, HB4.out⟩
      case measure => (simp [intOf]) <;> omega
    · obtain rfl : t = 6 := by omega
      have hH : H = [] := nil_of (t := 0) (fun x hx => (HG.out.ht x hx).2) HA.out.1
      have hQ : Q = [] := nil_of (t := 0) (fun x hx => (HG.out.qt x hx).2) HA.out.2
      have hn1 := len_l HX.out.h
      have hn2 := len_l HX.out.q
      have HLV := Lib.hid (leave_v wr ⟨HT.out.1.below HB.out, HT.out.2.below HB.out⟩ HX.out.h HX.out.q hlen (gone_all HG.out.ok))
      rw [hH] at hn1
      rw [hQ] at hn2
      simp at hn1 hn2
      subst hn1 hn2
      have hltI : ¬ ((6 : Nat) : Int) + 1 ≤ 6 := by omega
      clear hH hQ hlt hlen
      go_wp2_with fail
      refine HLV.out.mono ?_
      rintro e w3 ⟨y1, m1, d1, y2, m2, d2, y3, d3, rfl, -, -, -, hb3⟩
      have hba : Below wr.heap.size wr (w3.alloc (.cells #[.slice y1 m1 d1, .slice y2 m2 d2] 25)) := hb3.alloc hb3.size _
      have hl2 := HX.out.below hba
      clear e0 e1 f0 f1
      obtain ⟨e0, e1, f0, f1⟩ := box2 hl2.b
      have HB4 := Lib.hid (into HB.out hba)
      clear hba hl2 hb3 HLV
      go_wp2_with fail
      go_ret
      exact ⟨rfl, HB4.out⟩

set_option maxRecDepth 100000 in
theorem lifted (os : Os) (started : os.Started) (H : Type) (enc : TypeId × Value → H) :
    ReturnsInHanded {} Tryd.checked os 6 .any (fun w args => (Rows.allLeaveSpec.pre enc Tryd.prog Tryd.f6 [] false w args ∧ laidTJ w) ∧ sizedMet enc Tryd.prog Tryd.f6 (OpenSpec.ofChange Rows.allLeaveSpec) false w args) (Rows.allLeaveSpec.post enc Tryd.prog Tryd.f6 false true false false) := by
  refine returnsInHanded_of_change_and (C := Tryd.checked) (X := fun w _ => laidTJ w) (fun _ _ _ hh h => h.of_heap hh) Tryd.own started (by kernel_rfl) Tryd.func6
    (ChangeSpec.witness_at (enc := enc) (C := Tryd.checked) (os := os) (X := fun w _ => laidTJ w) false (tabled os) #[.slice none 0 0] 8 rfl (by kernel_rfl) (by kernel_rfl) (by kernel_rfl) (by kernel_rfl) (by kernel_rfl) (tabled_laidTJ os _)) ?_
  intro W base args ds gs before hval0 hW hcnd hsz0 hL _
  have hsz : (DataW.weightsEach Tryd.prog (Tryd.f6.params.toList ++ Rows.allLeaveSpec.plain.varTypes Tryd.prog) (ds ++ gs)).all (· ≤ reachBytes) = true := hsz0
  have hval : ∀ (j : Nat) t v, Tryd.f6.params[j]? = some t → args[j]? = some v → Value.okWide Tryd.prog W .any base t v := hval0
  have hW' := hW
  obtain ⟨p, q, hA0, hV, rfl, hfz, hnd⟩ := hW
  have hA : DataW.TrodAll enc Tryd.prog W 0 (fun _ => true) true Tryd.f6.params.toList args.toList ds p := hA0
  rw [Tryd.params6] at hA hval hsz
  obtain ⟨v0, d0, rfl, rfl, h0⟩ := trodAll_one hA
  obtain ⟨rfl, rfl⟩ := trodVars_none hV
  have sm0 : small Tryd.prog 22 d0 := fun q hq => by
    have := List.all_eq_true.1 hsz q (weights_each (j := 0) rfl rfl q hq)
    simpa using this
  obtain ⟨n0, l0, hr0, hz0, hs0⟩ := open_wishes (hval 0 22 v0 rfl rfl) h0 sm0
  clear hA0 hval0
  refine (walk W (TJ_of hL) n0 v0 l0 hr0 hz0 hs0).mono fun e W' ⟨he, hg⟩ => ?_
  subst he
  exact ⟨_, rfl, law_post (tb := 4) Tryd.laidOut (by kernel_rfl) (by kernel_rfl) Tryd.underlying4 rfl hW' hg rfl rfl rfl⟩

theorem bare : Rows.AllLeaveSaid :=
  OpenClaim.holds_of_wide 6 Tryd.f6 rfl rfl rfl rfl rfl rfl rfl ⟨rfl, rfl, rfl, rfl, rfl⟩ rfl rfl rfl rfl rfl (by kernel_rfl) Tryd.func6 (by kernel_rfl)
    (of_decide_eq_true (by kernel_rfl)) (by unfold Func.isWrapper; first | (rw [if_pos (by decide +kernel)]; kernel_rfl) | (rw [if_neg (by decide +kernel)]; exact ⟨rfl, rfl⟩))
    (fun os started H enc _ => lifted os started H enc)
/-- The card: the row's one listed variable is tied to the program's text. -/
theorem proved : Rows.AllLeaveCardSaid :=
  Claim7.holds_tied_plain_at .later [] [.data, .data] true _ false bare (fun _ h => by cases h) (by kernel_rfl) (fun _ h => by cases h) allLeave_row_tie rfl ⟨rfl, rfl⟩ (by kernel_rfl) rfl
    (fun f fn hf hfn => by
      obtain rfl : f = 6 := Option.some.inj ((show Tryd.prog.funcNamed "padlock/padlockkeep.AllLeave" = some 6 by kernel_rfl).symm.trans hf) |>.symm
      obtain rfl : fn = Tryd.f6 := (Option.some.inj (Tryd.func6.symm.trans hfn)).symm
      refine ⟨by kernel_rfl, fun j t ht => ?_⟩
      rw [Tryd.params6] at ht
      rcases j with _ | j <;> simp at ht <;> subst ht <;> kernel_rfl)
    (by kernel_rfl)
#print axioms proved
end Go.Proofs.YtoiaedjglhcidaaDoor.lAllLeave

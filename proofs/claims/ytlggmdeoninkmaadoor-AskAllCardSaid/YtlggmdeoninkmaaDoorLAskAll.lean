/- All may read at once; who would write then waits, till the last one has left: at every raw number. The row lists the program's two tables; the card ties them to the program's text. -/
import Derived.Test.YtlggmdeoninkmaaDoorJl
import Derived.Test.YtlggmdeoninkmaaDoorMt
import Derived.Test.YtlggmdeoninkmaaDoorMe
import Derived.Test.YtlggmdeoninkmaaDoorKp
namespace Go.Proofs.YtlggmdeoninkmaaDoor.lAskAll
open Go.ChangeShapes Go.WideShapes Go.ChangeAt Go.RowKit Go.Joins
open Go.ChangeMaps (open_string shut_string)
set_option linter.unusedVariables false
set_option linter.unusedSimpArgs false
set_option maxHeartbeats 400000

set_option maxRecDepth 100000 in
set_option maxHeartbeats 8000000 in
theorem walk (W : World) (hL : Tog W ∧ Jnd W) (x : Int) (wx : (Lit.int .i64 x).wf = true) : Calls Tryd.prog 5 #[.int .i64 x] W fun e w' => e = .returned (.bool true) ∧ Below W.heap.size W w' := by
  have HT := Lib.hid hL
  obtain ⟨p1, p2⟩ := pck_in x 8 (by omega)
  have hpx := fun W => pck_any x 8 W (rn_of wx) (by omega) (by omega)
  obtain ⟨k, hk⟩ : ∃ k : Nat, 1 + pck x 8 = (k : Int) := ⟨(1 + pck x 8).toNat, by omega⟩
  obtain ⟨a, ha⟩ : ∃ a, a = pck x 8 := ⟨_, rfl⟩
  rw [← ha] at hpx hk p1 p2
  have hk8 : 1 ≤ k ∧ k ≤ 8 := by omega
  have HPX := Lib.hid hpx
  clear hpx ha p1 p2 hL
  go_enter Tryd.func5, Tryd.ntmps5
  go_wp2_with (go_at_call 7; ((with_reducible refine (HPX.out _).mono ?_); rintro e w' ⟨rfl, rfl⟩))
  have hlb := LB.new W (H := []) (Q := []) (Rd.nil _ _) (Rd.nil _ _)
  obtain ⟨W0, hW0⟩ : ∃ W0 : World, W0 = W.alloc (.cells #[.slice none 0 0, .slice none 0 0] 25) := ⟨_, rfl⟩
  have hb0 : Below W.heap.size W W0 := by rw [hW0]; exact (Below.refl _ _).alloc (Nat.le_refl _) _
  rw [← hW0] at hlb ⊢
  have HLB := Lib.hid hlb
  have HB0 := Lib.hid hb0
  clear hlb hb0 hW0
  go_loopw [5] (fun i wr => ∃ (t : Nat) (x1 : Option Addr) (n1 c1 : Nat) (x2 : Option Addr) (n2 c2 : Nat), t ≤ k ∧ i = .int .i64 ((t : Int) + 1) ∧ Hid (LB wr W.heap.size x1 n1 c1 x2 n2 c2 (rowL 3 0 t) []) ∧ Hid (Below W.heap.size W wr)) (fun i _ => k + 1 - (intOf i).toNat)
  case atStart => exact ⟨0, _, _, _, _, _, _, by omega, rfl, HLB.out, HB0.out⟩
  case round =>
    obtain ⟨t, x1, n1, c1, x2, n2, c2, htk, rfl, HX, HB⟩ := hrel
    obtain ⟨e0, e1, f0, f1⟩ := box2 HX.out.b
    have hTr := HX.out
    by_cases hlt : t < k
    · have hltI : (t : Int) + 1 ≤ (k : Int) := by omega
      have hask := ask_v wr ⟨HT.out.1.below HB.out, HT.out.2.below HB.out⟩ HX.out.h HX.out.q (by rw [row_len]; simp; omega) (all_ask (show t < 8 by omega))
      have HASK := Lib.hid hask
      clear hask hTr
      go_wp2_with fail
      refine HASK.out.mono ?_
      rintro e w1 ⟨y1, m1, d1, y2, m2, d2, rfl, g1, g2, hb1⟩
      have hba : Below w1.heap.size w1 (w1.alloc (.cells #[.slice y1 m1 d1, .slice y2 m2 d2] 25)) := (Below.refl _ _).alloc (Nat.le_refl _) _
      have hl2 := (HX.out.below hb1).below hba
      have hln := LB.new w1 g1 g2
      clear e0 e1 f0 f1
      obtain ⟨e0, e1, f0, f1⟩ := box2 hl2.b
      obtain ⟨d0, d1', -, -⟩ := box2 hln.b
      have hl3 := hl2.put (g1.below hba) (g2.below hba)
      have hb3 := put_below (into (into HB.out hb1) hba) (Nat.le_refl _) (.slice y1 m1 d1) (.slice y2 m2 d2)
      have HL3 := Lib.hid hl3
      have HB3 := Lib.hid hb3
      clear hba hl2 hln hl3 hb3 g1 g2 hb1 HASK
      go_wp2_with fail
      go_roundw
      case rel => exact ⟨t + 1, _, _, _, _, _, _, by omega, by go_num, HL3.out, HB3.out⟩
      case measure => (simp [intOf]) <;> omega
    · obtain rfl : t = k := by omega
      have hltI : ¬ (t : Int) + 1 ≤ (t : Int) := by omega
      have hask := ask_v wr ⟨HT.out.1.below HB.out, HT.out.2.below HB.out⟩ HX.out.h HX.out.q (by rw [row_len]; simp; omega) (all_more hk8)
      have HASK := Lib.hid hask
      clear hask hTr
      go_wp2_with fail
      refine HASK.out.mono ?_
      rintro e w1 ⟨y1, m1, d1, y2, m2, d2, rfl, g1, g2, hb1⟩
      have hl2 := HX.out.below hb1
      clear e0 e1 f0 f1
      obtain ⟨e0, e1, f0, f1⟩ := box2 hl2.b
      have hl3 := hl2.put g1 g2
      have hb3 := put_below (into HB.out hb1) (Nat.le_refl _) (.slice y1 m1 d1) (.slice y2 m2 d2)
      have hH0 : rowL 3 0 t = leftH t 0 := by unfold leftH; rw [if_pos (by omega)]; rfl
      have hQ0 : [(⟨99, ⟨#[97]⟩, 5⟩ : Lk)] = leftQ t 0 := by unfold leftQ; rw [if_pos (by omega)]
      rw [hH0, hQ0] at hl3
      have HL3 := Lib.hid hl3
      have HB3 := Lib.hid hb3
      clear hl2 hl3 hb3 g1 g2 hb1 HASK hH0 hQ0 hltI
      go_wp2_with fail
      clear e0 e1 f0 f1
      go_loopw [11] (fun i wx => ∃ (s : Nat) (x1 : Option Addr) (n1 c1 : Nat) (x2 : Option Addr) (n2 c2 : Nat), s ≤ t ∧ i = .int .i64 ((s : Int) + 1) ∧ Hid (LB wx W.heap.size x1 n1 c1 x2 n2 c2 (leftH t s) (leftQ t s)) ∧ Hid (Below W.heap.size W wx)) (fun i _ => t + 1 - (intOf i).toNat)
      case atStart => exact ⟨0, _, _, _, _, _, _, by omega, rfl, HL3.out, HB3.out⟩
      case round =>
        obtain ⟨s, x1, n1, c1, x2, n2, c2, hst, rfl, HX, HB⟩ := hrel
        obtain ⟨e0, e1, f0, f1⟩ := box2 HX.out.b
        have hlen : (leftH t s).length + (leftQ t s).length ≤ 1000 := by
          unfold leftH leftQ
          split <;> simp [row_len] <;> omega
        by_cases hlt : s < t
        · have hsI : (s : Int) + 1 ≤ (t : Int) := by omega
          have hlv := leave_v _ ⟨HT.out.1.below HB.out, HT.out.2.below HB.out⟩ HX.out.h HX.out.q hlen (all_leave hk8 hlt)
          by_cases hend : s + 1 = t
          · have hsb : ((s : Int) + 1 == (t : Int)) = true := by simp; omega
            rw [if_pos hend] at hlv
            have HLV := Lib.hid hlv
            clear hlv hlen
            go_wp2_with fail
            refine HLV.out.mono ?_
            rintro e w1 ⟨y1, m1, d1, y2, m2, d2, y3, d3, rfl, g1, g2, -, hb1⟩
            have hba : Below w1.heap.size w1 (w1.alloc (.cells #[.slice y1 m1 d1, .slice y2 m2 d2] 25)) := (Below.refl _ _).alloc (Nat.le_refl _) _
            have hl2 := (HX.out.below hb1).below hba
            have hln := LB.new w1 g1 g2
            clear e0 e1 f0 f1
            obtain ⟨e0, e1, f0, f1⟩ := box2 hl2.b
            obtain ⟨d0, d1', -, -⟩ := box2 hln.b
            have hl3 := hl2.put (g1.below hba) (g2.below hba)
            have hb3 := put_below (into (into HB.out hb1) hba) (Nat.le_refl _) (.slice y1 m1 d1) (.slice y2 m2 d2)
            have HL4 := Lib.hid hl3
            have HB4 := Lib.hid hb3
            clear hba hl2 hln hl3 hb3 g1 g2 hb1 HLV
            go_wp2_with fail
            go_roundw
            case rel => exact ⟨s + 1, _, _, _, _, _, _, by omega, by go_num, HL4.out, HB4.out⟩
            case measure => (simp [intOf]) <;> omega
          · have hsb : ((s : Int) + 1 == (t : Int)) = false := by simp; omega
            rw [if_neg hend] at hlv
            have HLV := Lib.hid hlv
            clear hlv hlen
            go_wp2_with fail
            refine HLV.out.mono ?_
            rintro e w1 ⟨y1, m1, d1, y2, m2, d2, y3, d3, rfl, g1, g2, -, hb1⟩
            have hba : Below w1.heap.size w1 (w1.alloc (.cells #[.slice y1 m1 d1, .slice y2 m2 d2] 25)) := (Below.refl _ _).alloc (Nat.le_refl _) _
            have hl2 := (HX.out.below hb1).below hba
            have hln := LB.new w1 g1 g2
            clear e0 e1 f0 f1
            obtain ⟨e0, e1, f0, f1⟩ := box2 hl2.b
            obtain ⟨d0, d1', -, -⟩ := box2 hln.b
            have hl3 := hl2.put (g1.below hba) (g2.below hba)
            have hb3 := put_below (into (into HB.out hb1) hba) (Nat.le_refl _) (.slice y1 m1 d1) (.slice y2 m2 d2)
            have HL4 := Lib.hid hl3
            have HB4 := Lib.hid hb3
            clear hba hl2 hln hl3 hb3 g1 g2 hb1 HLV
            go_wp2_with fail
            go_roundw
            case rel => exact ⟨s + 1, _, _, _, _, _, _, by omega, by go_num, HL4.out, HB4.out⟩
            case measure => (simp [intOf]) <;> omega
        · obtain rfl : s = t := by omega
          have hsI : ¬ (s : Int) + 1 ≤ (s : Int) := by omega
          have hmo := kmode_any _ (x2 := x2) (n2 := n2) (c2 := c2) 99 ⟨#[97]⟩ 5 HX.out.h
          rw [all_end hk8.1] at hmo
          have HMO := Lib.hid hmo
          clear hmo hlen
          go_wp2_with fail
          refine HMO.out.mono ?_
          rintro e w1 ⟨rfl, hb1⟩
          have HB1 := Lib.hid (into HB.out hb1)
          clear hb1
          go_wp2_with fail
          go_ret
          exact ⟨rfl, HB1.out⟩

set_option maxRecDepth 100000 in
theorem lifted (os : Os) (started : os.Started) (H : Type) (enc : TypeId × Value → H) :
    ReturnsInHanded {} Tryd.checked os 5 .any (fun w args => (Rows.askAllSpec.pre enc Tryd.prog Tryd.f5 [] false w args ∧ laidTJ w) ∧ sizedMet enc Tryd.prog Tryd.f5 (OpenSpec.ofChange Rows.askAllSpec) false w args) (Rows.askAllSpec.post enc Tryd.prog Tryd.f5 false true false false) := by
  refine returnsInHanded_of_change_and (C := Tryd.checked) (X := fun w _ => laidTJ w) (fun _ _ _ hh h => h.of_heap hh) Tryd.own started (by kernel_rfl) Tryd.func5
    (ChangeSpec.witness_at (enc := enc) (C := Tryd.checked) (os := os) (X := fun w _ => laidTJ w) false (tabled os) #[.int .i64 0] 8 rfl (by kernel_rfl) (by kernel_rfl) (by kernel_rfl) (by kernel_rfl) (by kernel_rfl) (tabled_laidTJ os _)) ?_
  intro W base args ds gs before hval0 hW hcnd hsz0 hL _
  have hsz : (DataW.weightsEach Tryd.prog (Tryd.f5.params.toList ++ Rows.askAllSpec.plain.varTypes Tryd.prog) (ds ++ gs)).all (· ≤ reachBytes) = true := hsz0
  have hval : ∀ (j : Nat) t v, Tryd.f5.params[j]? = some t → args[j]? = some v → Value.okWide Tryd.prog W .any base t v := hval0
  have hW' := hW
  obtain ⟨p, q, hA0, hV, rfl, hfz, hnd⟩ := hW
  have hA : DataW.TrodAll enc Tryd.prog W 0 (fun _ => true) true Tryd.f5.params.toList args.toList ds p := hA0
  rw [Tryd.params5] at hA hval hsz
  obtain ⟨v0, d0, rfl, rfl, h0⟩ := trodAll_one hA
  obtain ⟨rfl, rfl⟩ := trodVars_none hV
  obtain ⟨a0, rfl, rfl, rfl, w0⟩ := open_int Tryd.underlying3 (hval 0 3 v0 rfl rfl) h0
  clear hA0 hval0
  refine (walk W (TJ_of hL) a0 w0).mono fun e W' ⟨he, hg⟩ => ?_
  subst he
  exact ⟨_, rfl, law_post (tb := 4) Tryd.laidOut (by kernel_rfl) (by kernel_rfl) Tryd.underlying4 rfl hW' hg rfl rfl rfl⟩

theorem bare : Rows.AskAllSaid :=
  OpenClaim.holds_of_wide 5 Tryd.f5 rfl rfl rfl rfl rfl rfl rfl ⟨rfl, rfl, rfl, rfl, rfl⟩ rfl rfl rfl rfl rfl (by kernel_rfl) Tryd.func5 (by kernel_rfl)
    (of_decide_eq_true (by kernel_rfl)) (by unfold Func.isWrapper; first | (rw [if_pos (by decide +kernel)]; kernel_rfl) | (rw [if_neg (by decide +kernel)]; exact ⟨rfl, rfl⟩))
    (fun os started H enc _ => lifted os started H enc)
/-- The card: the row's one listed variable is tied to the program's text. -/
theorem proved : Rows.AskAllCardSaid :=
  Claim7.holds_tied_plain_at .later [] [.data, .data] true _ false bare (fun _ h => by cases h) (by kernel_rfl) (fun _ h => by cases h) askAll_row_tie rfl ⟨rfl, rfl⟩ (by kernel_rfl) rfl
    (fun f fn hf hfn => by
      obtain rfl : f = 5 := Option.some.inj ((show Tryd.prog.funcNamed "padlock/padlockkeep.AskAll" = some 5 by kernel_rfl).symm.trans hf) |>.symm
      obtain rfl : fn = Tryd.f5 := (Option.some.inj (Tryd.func5.symm.trans hfn)).symm
      refine ⟨by kernel_rfl, fun j t ht => ?_⟩
      rw [Tryd.params5] at ht
      rcases j with _ | j <;> simp at ht <;> subst ht <;> kernel_rfl)
    (by kernel_rfl)
#print axioms proved
end Go.Proofs.YtlggmdeoninkmaaDoor.lAskAll

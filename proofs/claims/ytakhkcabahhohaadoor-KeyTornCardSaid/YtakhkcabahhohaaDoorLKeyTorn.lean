/- What is torn is no key, or that of fewer values: at every list of raw values and every place; the program's one listed table is tied to its text. No condition. -/
import Derived.Test.YtakhkcabahhohaaDoorDl
import Derived.Test.YtakhkcabahhohaaDoorFo
import Derived.Test.YtakhkcabahhohaaDoorD5
import Derived.Test.YtakhkcabahhohaaDoorF2
import Derived.Test.YtakhkcabahhohaaDoorC4
namespace Go.Proofs.YtakhkcabahhohaaDoor.lKeyTorn
open Go.ChangeShapes Go.WideShapes Go.ChangeAt Go.RowKit Go.Joins
open Go.ChangeMaps (open_string shut_string)
set_option linter.unusedVariables false
set_option linter.unusedSimpArgs false
set_option maxHeartbeats 400000

set_option maxHeartbeats 1600000 in
theorem walk (w : World) (hL : Lst w) (n : Nat) (v : Value) (l : List V) (hr : Rd w 3 n v (vc l)) (hw : ∀ u ∈ l, (Lit.int .i64 u.k).wf = true ∧ (Lit.int .i64 u.n).wf = true ∧ u.t.size ≤ maxLen) (hz : n * 32 ≤ 140737488351232)
    (at1 : Int) (wat : (Lit.int .i64 at1).wf = true) :
    Calls Tryd.prog 7 #[v, .int .i64 at1] w fun e w' => e = .returned (.bool true) ∧ Below w.heap.size w w' := by
  have HF : Hid (∀ u ∈ l, Rng u.k ∧ Rng u.n ∧ u.t.size ≤ maxLen) := fun u hu => ⟨rng_of (hw u hu).1, rng_of (hw u hu).2.1, (hw u hu).2.2⟩
  have HAT := Lib.hid (rng_of wat)
  have HR := Lib.hid hr
  have HL := Lib.hid hL
  have HOK := Lib.hid (vals_13 l fun u hu => (HF.out u hu).2.1)
  have m6 : (vals l).length ≤ 6 := by simp [vals]; omega
  have cv := of_any n v l w HR.out HF.out
  obtain ⟨A, hA⟩ : ∃ A, A = vals l := ⟨_, rfl⟩
  rw [← hA] at cv HOK m6
  have HCV := Lib.hid cv
  clear cv hA hw hr hL hz wat
  go_enter Tryd.func7, Tryd.ntmps7
  go_wp2_with fail
  refine HCV.out.mono ?_
  rintro e w1 ⟨v3, rfl, hown3, hb1⟩
  have H3 := Lib.hid (Rd.own hown3)
  clear hown3
  go_wp2_with fail
  refine (enc_part _ _ A w1 HOK.out m6 H3.out).mono ?_
  rintro e w2 ⟨v4, rfl, hl4, hown4, hb2⟩
  have H4 := Lib.hid (Rd.own hown4)
  obtain ⟨_, ao4, cap4, rfl, hc4, _⟩ := Rd.own hown4
  clear hown4
  have hB2 : Below w.heap.size w w2 := into hb1 hb2
  have H3' := Lib.hid (H3.out.below hb2)
  obtain ⟨X, hX⟩ : ∃ X, X = encs A := ⟨_, rfl⟩
  obtain ⟨x, hx⟩ : ∃ x, x = X.length := ⟨_, rfl⟩
  simp only [← hX] at H4 hl4 hc4 ⊢
  simp only [← hx] at H4 hl4 hc4 ⊢
  have h1 := pck_in at1 ((x : Int) + 1) (by omega)
  obtain ⟨p, hp⟩ : ∃ p : Nat, pck at1 ((x : Int) + 1) = (p : Int) := ⟨(pck at1 ((x : Int) + 1)).toNat, by omega⟩
  have hpx : p ≤ x := by omega
  have hpc : p ≤ cap4 := by omega
  have HP := Lib.hid hp
  have HX := Lib.hid hX
  have Hx := Lib.hid hx
  clear h1 hp hX hx hb1 hb2 H3 hc4
  go_wp2_with fail
  refine (pck_any at1 _ w2 HAT.out (by omega) (by omega)).mono ?_
  rw [HP.out]
  rintro e w3 ⟨rfl, rfl⟩
  go_wp2_with fail
  have HT : Hid (Rd w2 1 p (.slice ao4 p cap4) (bc (X.take p))) := by
    have := H4.out.take p hpx
    rw [Nat.mul_one] at this
    have e : bc (X.take p) = (bc X).take p := by simp [bc]
    rw [e]
    exact this
  have cd := dec_any _ _ (X.take p) w2 (HL.out.below hB2) HT.out
  obtain ⟨D, hD⟩ : ∃ D, D = dec (X.take p) := ⟨_, rfl⟩
  have hdi := dec_is (X.take p)
  have hdb := dec_bad (X.take p)
  rw [← hD] at cd hdi hdb
  obtain ⟨m, f⟩ := D
  have HCD := Lib.hid cd
  have HDI := Lib.hid hdi
  have HDB := Lib.hid hdb
  clear cd hdi hdb hD HCV
  refine HCD.out.mono ?_
  rintro e w3 ⟨v8, rfl, hown8, hb3⟩
  have H8 := Lib.hid (Rd.own hown8)
  clear hown8 HCD
  go_wp2_with fail
  have hr2 : Rd (w3.alloc (.cells #[.int .u8 2, .int .u8 1] 5)) 1 2 (.slice (some ⟨w3.heap.size, 0, none⟩) 2 2) (bc [2, 1]) :=
    Rd.own (World.ownsRow_lit (base := w3.heap.size) (e := 5) (size := 1) w3 #[.int .u8 2, .int .u8 1] 2 (Nat.le_refl _) (by unfold maxLen; omega) rfl)
  have hba : Below w3.heap.size w3 (w3.alloc (.cells #[.int .u8 2, .int .u8 1] 5)) := (Below.refl _ _).alloc (Nat.le_refl _) _
  have ct := dec_any 2 _ [2, 1] _ (((HL.out.below hB2).below hb3).below hba) hr2
  have hd21 : dec [2, 1] = ([], 7) := by simp [dec, decm, tak, lst]
  rw [hd21] at ct
  refine ct.mono ?_
  clear ct hd21 hr2
  rintro e w4 ⟨v10, rfl, hown10, hb4⟩
  clear hown10
  have BW := Lib.hid (into (into (into hB2 hb3) hba) hb4)
  have H8' := Lib.hid ((H8.out.below hba).below hb4)
  have H3n := Lib.hid (((H3'.out.below hb3).below hba).below hb4)
  clear hb3 hba hb4 hB2 H8 H3' H4 HT
  by_cases hf : f = 0
  · subst hf
    obtain ⟨g1, g2, g3⟩ := HDI.out rfl
    obtain ⟨t, ht⟩ := torn A m (X.drop p) (fun u hu => (HOK.out u hu).1) g2 (by
      have := List.take_append_drop p X
      rw [← HX.out, g3, this])
    have HTT := Lib.hid ht
    obtain ⟨a, ha⟩ : ∃ a, a = A.length := ⟨_, rfl⟩
    obtain ⟨b, hb⟩ : ∃ b, b = m.length := ⟨_, rfl⟩
    have hba : b ≤ a := by rw [ha, hb, ht]; simp
    simp only [← ha] at H3n m6
    simp only [← hb] at H8'
    have Ha := Lib.hid ha
    have Hb := Lib.hid hb
    clear g1 g2 g3 ht ha hb
    obtain ⟨_, ao3, cap3, rfl, _⟩ := id H3n.out
    by_cases h0 : b = 0
    · subst h0
      obtain ⟨_, ao8, cap8, rfl, _⟩ := Rd.zero H8'.out
      go_wp2_with fail
      go_rounds 1
      go_ret
      exact ⟨rfl, BW.out⟩
    · obtain ⟨_, bb, bo, bcap, rfl, _, _, hbw, hcell⟩ := vals_of H8'.out (by omega)
      obtain ⟨_, ab, ao, acap, hav, _, _, haw, hcell'⟩ := vals_of H3n.out (by omega)
      simp only [Value.slice.injEq] at hav
      obtain ⟨rfl, -, rfl⟩ := hav
      have HC := Lib.hid hcell
      have HC' := Lib.hid hcell'
      clear hcell hcell'
      go_wp2_with fail
      go_loopw [12] (fun i wr => ∃ k : Nat, k ≤ b ∧ i = .int .i64 (k : Int) ∧ Below w4.heap.size w4 wr) (fun i _ => b - (intOf i).toNat)
      case atStart => exact ⟨0, by omega, rfl, Below.refl _ _⟩
      case round =>
        obtain ⟨k, hk, rfl, hbk⟩ := hrel
        by_cases hlt : k < b
        · obtain ⟨g1, g2, g3⟩ := HC.out k hlt
          obtain ⟨g1', g2', g3'⟩ := HC'.out k (by omega)
          have hee : A.getD k nul = m.getD k nul := by
            have hkm : k < m.length := by rw [← Hb.out]; exact hlt
            rw [HTT.out]
            simp [List.getD, List.getElem?_append_left hkm]
          rw [hee] at g1' g2' g3'
          have c1 := (hbk.cell (p := ⟨bb, bo + k * 3, none⟩) hbw).trans g1
          have c2 := (hbk.cell (p := ⟨bb, bo + k * 3 + 1, none⟩) hbw).trans g2
          have c3 := (hbk.cell (p := ⟨bb, bo + k * 3 + 2, none⟩) hbw).trans g3
          have c1' := (hbk.cell (p := ⟨ab, ao + k * 3, none⟩) haw).trans g1'
          have c2' := (hbk.cell (p := ⟨ab, ao + k * 3 + 1, none⟩) haw).trans g2'
          have c3' := (hbk.cell (p := ⟨ab, ao + k * 3 + 2, none⟩) haw).trans g3'
          obtain ⟨u, hu⟩ : ∃ u, u = m.getD k nul := ⟨_, rfl⟩
          rw [← hu] at c1 c2 c3 c1' c2' c3'
          have hka : (k : Int) < (a : Int) := by omega
          clear g1 g2 g3 g1' g2' g3' hu hee
          obtain ⟨uk, un, ut⟩ := u
          simp only at c1 c2 c3 c1' c2' c3'
          go_wp2_with fail
          go_quiet (fail)
          go_wp2_with fail
          go_roundw
          case rel => exact ⟨k + 1, by omega, by go_num, below_drewN hbk _⟩
          case measure => simp [intOf]; omega
        · obtain rfl : k = b := by omega
          go_wp2_with fail
          go_ret
          exact ⟨rfl, into BW.out hbk⟩
  · have hm : m = [] := HDB.out hf
    subst hm
    have hf' : (f == 0) = false := by simpa using hf
    obtain ⟨_, ao8, cap8, rfl, _⟩ := Rd.zero H8'.out
    go_wp2_with fail
    go_ret
    exact ⟨rfl, BW.out⟩

theorem lifted (os : Os) (started : os.Started) (H : Type) (enc : TypeId × Value → H) :
    ReturnsInHanded {} Tryd.checked os 7 .any (fun w args => (Rows.keyTornSpec.pre enc Tryd.prog Tryd.f7 [] false w args ∧ laid1 w) ∧ sizedMet enc Tryd.prog Tryd.f7 (OpenSpec.ofChange Rows.keyTornSpec) false w args) (Rows.keyTornSpec.post enc Tryd.prog Tryd.f7 false true false false) := by
  refine returnsInHanded_of_change_and (C := Tryd.checked) (X := fun w _ => laid1 w) (fun _ _ _ hh h => h.of_heap hh) Tryd.own started (by kernel_rfl) Tryd.func7
    (ChangeSpec.witness_at (enc := enc) (C := Tryd.checked) (os := os) (X := fun w _ => laid1 w) false (tabled os) #[.slice none 0 0, .int .i64 0] 8 rfl (by kernel_rfl) (by kernel_rfl) (by kernel_rfl) (by kernel_rfl) (by kernel_rfl) (tabled_laid os _)) ?_
  intro W base args ds gs before hval0 hW hcnd hsz0 hL _
  have hsz : (DataW.weightsEach Tryd.prog (Tryd.f7.params.toList ++ Rows.keyTornSpec.plain.varTypes Tryd.prog) (ds ++ gs)).all (· ≤ reachBytes) = true := hsz0
  have hval : ∀ (j : Nat) t v, Tryd.f7.params[j]? = some t → args[j]? = some v → Value.okWide Tryd.prog W .any base t v := hval0
  have hW' := hW
  obtain ⟨p, q, hA0, hV, rfl, hfz, hnd⟩ := hW
  have hA : DataW.TrodAll enc Tryd.prog W 0 (fun _ => true) true Tryd.f7.params.toList args.toList ds p := hA0
  rw [Tryd.params7] at hA hval hsz
  obtain ⟨v0, v1, d0, d1, p0, p1, rfl, rfl, rfl, h0, h1⟩ := trodAll_two hA
  obtain ⟨rfl, rfl⟩ := trodVars_none hV
  obtain ⟨n0, l0, hr0, hw0, hs0⟩ := open_v3 Tryd.underlying30 Tryd.underlying47 (by kernel_rfl) (by kernel_rfl) Tryd.underlying3 Tryd.underlying3 Tryd.underlying9 (hval 0 30 v0 rfl rfl) h0
  have hz0 : n0 * 32 ≤ 140737488351232 := by
    rcases hs0 with rfl | ⟨es, sp, hd, hl⟩
    · omega
    · subst hd
      have := sized_slice hsz (j := 0) (t := 30) (e := 47) rfl rfl Tryd.underlying30
      rw [show Tryd.prog.bytesOf 47 = 32 by kernel_rfl, hl] at this
      simp only [reachBytes] at this
      omega
  obtain ⟨a1, rfl, rfl, rfl, w1⟩ := open_int Tryd.underlying3 (hval 1 3 v1 rfl rfl) h1
  clear hA0 hval0
  refine (walk W (Lst_of hL) n0 v0 l0 hr0 hw0 hz0 a1 w1).mono fun e W' ⟨he, hg⟩ => ?_
  subst he
  exact ⟨_, rfl, law_post (tb := 4) Tryd.laidOut (by kernel_rfl) (by kernel_rfl) Tryd.underlying4 rfl hW' hg rfl rfl rfl⟩

theorem bare : Rows.KeyTornSaid :=
  OpenClaim.holds_of_wide 7 Tryd.f7 rfl rfl rfl rfl rfl rfl rfl ⟨rfl, rfl, rfl, rfl, rfl⟩ rfl rfl rfl rfl rfl (by kernel_rfl) Tryd.func7 (by kernel_rfl)
    (of_decide_eq_true (by kernel_rfl)) (by unfold Func.isWrapper; first | (rw [if_pos (by decide +kernel)]; kernel_rfl) | (rw [if_neg (by decide +kernel)]; exact ⟨rfl, rfl⟩))
    (fun os started H enc _ => lifted os started H enc)
/-- The card: the row's one listed variable is tied to the program's text. -/
theorem proved : Rows.KeyTornCardSaid :=
  Claim7.holds_tied_plain_at .later [] [.data] true _ false bare (fun _ h => by cases h) (by kernel_rfl) (fun _ h => by cases h) keyTorn_row_tie rfl ⟨rfl, rfl⟩ (by kernel_rfl) rfl
    (fun f fn hf hfn => by
      obtain rfl : f = 7 := Option.some.inj ((show Tryd.prog.funcNamed "padlock/padlockkeep.KeyTorn" = some 7 by kernel_rfl).symm.trans hf) |>.symm
      obtain rfl : fn = Tryd.f7 := (Option.some.inj (Tryd.func7.symm.trans hfn)).symm
      refine ⟨by kernel_rfl, fun j t ht => ?_⟩
      rw [Tryd.params7] at ht
      rcases j with _ | _ | j <;> simp at ht <;> subst ht <;> kernel_rfl)
    (by kernel_rfl)
#print axioms proved
end Go.Proofs.YtakhkcabahhohaaDoor.lKeyTorn

/- A key tells its values: at every list of raw values; the program's one listed table is tied to its text. No condition. -/
import Derived.Test.YtakhkcabahhohaaDoorDl
import Derived.Test.YtakhkcabahhohaaDoorFo
import Derived.Test.YtakhkcabahhohaaDoorD5
import Derived.Test.YtakhkcabahhohaaDoorF2
import Derived.Test.YtakhkcabahhohaaDoorC4
namespace Go.Proofs.YtakhkcabahhohaaDoor.lKeyBack
open Go.ChangeShapes Go.WideShapes Go.ChangeAt Go.RowKit Go.Joins
open Go.ChangeMaps (open_string shut_string)
set_option linter.unusedVariables false
set_option linter.unusedSimpArgs false
set_option maxHeartbeats 400000

theorem ls_eq (m : Nat) (v v' : Value) (l : List V) (w : World) (hr : Rd w 3 m v (vc l)) (hr' : Rd w 3 m v' (vc l)) (hm : 0 < m) :
    ∃ b o cap b' o' cap', v = .slice (some ⟨b, o, none⟩) m cap ∧ v' = .slice (some ⟨b', o', none⟩) m cap' ∧ b < w.heap.size ∧ b' < w.heap.size ∧
      ∀ k, k < m → ∃ u : V, w.cell? ⟨b, o + k * 3, none⟩ = some (.int .i64 u.k) ∧ w.cell? ⟨b, o + k * 3 + 1, none⟩ = some (.int .i64 u.n) ∧ w.cell? ⟨b, o + k * 3 + 2, none⟩ = some (.string u.t) ∧
        w.cell? ⟨b', o' + k * 3, none⟩ = some (.int .i64 u.k) ∧ w.cell? ⟨b', o' + k * 3 + 1, none⟩ = some (.int .i64 u.n) ∧ w.cell? ⟨b', o' + k * 3 + 2, none⟩ = some (.string u.t) := by
  obtain ⟨_, b, o, cap, h1, _, _, h2, h3⟩ := vals_of hr hm
  obtain ⟨_, b', o', cap', h1', _, _, h2', h3'⟩ := vals_of hr' hm
  exact ⟨b, o, cap, b', o', cap', h1, h1', h2, h2', fun k hk => ⟨l.getD k nul, (h3 k hk).1, (h3 k hk).2.1, (h3 k hk).2.2, (h3' k hk).1, (h3' k hk).2.1, (h3' k hk).2.2⟩⟩
/-- Seven values are too many. -/
theorem seven (w : World) (v : Value) (xs : List V) (h : xs.length = 7) (hx : ∀ u ∈ xs, u = nul) (hr : Rd w 3 7 v (vc xs)) :
    Calls Tryd.prog 13 #[v] w fun e w' => ∃ v', e = .returned (.tuple #[v', .int .i64 1]) ∧ Below w.heap.size w w' := by
  have ce := enc_any 7 v xs w (fun u hu => by rw [hx u hu]; simp [nul]) hr
  have he : enc xs = ([], 1) := by rw [enc, if_pos (by omega)]
  rw [he] at ce
  exact ce.mono fun e w' ⟨v', h1, _, h3⟩ => ⟨v', h1, h3⟩
set_option maxHeartbeats 1600000 in
theorem walk (w : World) (hL : Lst w) (n : Nat) (v : Value) (l : List V) (hr : Rd w 3 n v (vc l)) (hw : ∀ u ∈ l, (Lit.int .i64 u.k).wf = true ∧ (Lit.int .i64 u.n).wf = true ∧ u.t.size ≤ maxLen) (hz : n * 32 ≤ 140737488351232) :
    Calls Tryd.prog 4 #[v] w fun e w' => e = .returned (.bool true) ∧ Below w.heap.size w w' := by
  have HF : Hid (∀ u ∈ l, Rng u.k ∧ Rng u.n ∧ u.t.size ≤ maxLen) := fun u hu => ⟨rng_of (hw u hu).1, rng_of (hw u hu).2.1, (hw u hu).2.2⟩
  have HR := Lib.hid hr
  have HL := Lib.hid hL
  have HOK := Lib.hid (vals_13 l fun u hu => (HF.out u hu).2.1)
  have m6 : (vals l).length ≤ 6 := by simp [vals]; omega
  have cv := of_any n v l w HR.out HF.out
  obtain ⟨A, hA⟩ : ∃ A, A = vals l := ⟨_, rfl⟩
  rw [← hA] at cv HOK m6
  have hdec := dec_enc (fun u hu => (HOK.out u hu).1) m6 (Nat.le_trans (encs_13 A HOK.out) (by omega))
  have HD := Lib.hid hdec
  have HCV := Lib.hid cv
  clear cv hA hw hr hL hdec hz
  go_enter Tryd.func4, Tryd.ntmps4
  go_wp2_with fail
  refine HCV.out.mono ?_
  rintro e w1 ⟨v3, rfl, hown3, hb1⟩
  have H3 := Lib.hid (Rd.own hown3)
  clear hown3
  go_wp2_with fail
  refine (enc_part _ _ A w1 HOK.out m6 H3.out).mono ?_
  rintro e w2 ⟨v4, rfl, hl4, hown4, hb2⟩
  have H4 := Lib.hid (Rd.own hown4)
  clear hown4 hl4
  have hB2 : Below w.heap.size w w2 := into hb1 hb2
  go_wp2_with fail
  have cd := dec_any _ _ (encs A) w2 (HL.out.below hB2) H4.out
  rw [HD.out] at cd
  refine cd.mono ?_
  clear cd
  rintro e w3 ⟨v6, rfl, hown6, hb3⟩
  have H6 := Lib.hid (Rd.own hown6)
  have H3' := Lib.hid ((H3.out.below hb2).below hb3)
  have BW := Lib.hid (into hB2 hb3)
  clear hown6 hb1 hb2 hB2 hb3 H3 H4
  obtain ⟨a, ha⟩ : ∃ a, a = A.length := ⟨_, rfl⟩
  simp only [← ha] at H6 H3' m6
  clear ha
  obtain ⟨i0, hi, hz0, hz1, hz2⟩ := info_parts Tryd.info35
  go_wp2_with (at_make; refine wpList_make_full w3 rfl _ _ 23 rfl w3.heap.size 35 i0 _ 3 Tryd.underlying23 hi hz0 hz1 _ _ _ _ 7 rfl rfl rfl rfl (by rw [hz2]; omega) (by unfold maxLen; omega) (Nat.le_refl _) ?_; intro w4 hown4 hg4)
  have hb4 : Below w3.heap.size w3 w4 := (Below.refl _ _).grown hg4 (Nat.le_refl _) (fun q h => by cases h)
  have hmk : (madeCells (Value.agg #[Value.int IntKind.i64 0, Value.int IntKind.i64 0, Value.string ⟨#[]⟩]).cells (7 * 3)).toList = vc (List.replicate 7 nul) := by kernel_rfl
  rw [hmk] at hown4
  have hr7 : Rd w4 3 7 (.slice (some ⟨w3.heap.size, 0, none⟩) 7 7) (vc (List.replicate 7 nul)) := Rd.own hown4
  refine (seven w4 _ (List.replicate 7 nul) (by simp) (fun u hu => List.eq_of_mem_replicate hu) hr7).mono ?_
  rintro e w5 ⟨v8, rfl, hb5⟩
  have HA := Lib.hid ((H6.out.below hb4).below hb5)
  have HA' := Lib.hid ((H3'.out.below hb4).below hb5)
  have BW5 := Lib.hid (into (into BW.out hb4) hb5)
  clear hr7 hown4 hg4 hb4 hb5 H6 H3' BW hi hz0 hz1 hz2
  by_cases h0 : a = 0
  · subst h0
    obtain ⟨_, ao3, cap3, rfl, _⟩ := Rd.zero HA'.out
    obtain ⟨_, ao6, cap6, rfl, _⟩ := Rd.zero HA.out
    go_wp2_with fail
    go_rounds 1
    go_ret
    exact ⟨rfl, BW5.out⟩
  · obtain ⟨b, o, cap, b', o', cap', rfl, rfl, hbw, hbw', hcs⟩ := ls_eq a _ _ A w5 HA'.out HA.out (by omega)
    have HCS := Lib.hid hcs
    clear hcs
    go_wp2_with fail
    go_loopw [10] (fun i wr => ∃ k : Nat, k ≤ a ∧ i = .int .i64 (k : Int) ∧ Below w5.heap.size w5 wr) (fun i _ => a - (intOf i).toNat)
    case atStart => exact ⟨0, by omega, rfl, Below.refl _ _⟩
    case round =>
      obtain ⟨k, hk, rfl, hb⟩ := hrel
      by_cases hlt : k < a
      · obtain ⟨u, g1, g2, g3, g1', g2', g3'⟩ := HCS.out k hlt
        have c1 := (hb.cell (p := ⟨b, o + k * 3, none⟩) hbw).trans g1
        have c2 := (hb.cell (p := ⟨b, o + k * 3 + 1, none⟩) hbw).trans g2
        have c3 := (hb.cell (p := ⟨b, o + k * 3 + 2, none⟩) hbw).trans g3
        have c1' := (hb.cell (p := ⟨b', o' + k * 3, none⟩) hbw').trans g1'
        have c2' := (hb.cell (p := ⟨b', o' + k * 3 + 1, none⟩) hbw').trans g2'
        have c3' := (hb.cell (p := ⟨b', o' + k * 3 + 2, none⟩) hbw').trans g3'
        clear g1 g2 g3 g1' g2' g3'
        obtain ⟨uk, un, ut⟩ := u
        simp only at c1 c2 c3 c1' c2' c3'
        go_wp2_with fail
        go_quiet (fail)
        go_wp2_with fail
        go_roundw
        case rel => exact ⟨k + 1, by omega, by go_num, below_drewN hb _⟩
        case measure => simp [intOf]; omega
      · obtain rfl : k = a := by omega
        go_wp2_with fail
        go_ret
        exact ⟨rfl, into BW5.out hb⟩

theorem lifted (os : Os) (started : os.Started) (H : Type) (enc : TypeId × Value → H) :
    ReturnsInHanded {} Tryd.checked os 4 .any (fun w args => (Rows.keyBackSpec.pre enc Tryd.prog Tryd.f4 [] false w args ∧ laid1 w) ∧ sizedMet enc Tryd.prog Tryd.f4 (OpenSpec.ofChange Rows.keyBackSpec) false w args) (Rows.keyBackSpec.post enc Tryd.prog Tryd.f4 false true false false) := by
  refine returnsInHanded_of_change_and (C := Tryd.checked) (X := fun w _ => laid1 w) (fun _ _ _ hh h => h.of_heap hh) Tryd.own started (by kernel_rfl) Tryd.func4
    (ChangeSpec.witness_at (enc := enc) (C := Tryd.checked) (os := os) (X := fun w _ => laid1 w) false (tabled os) #[.slice none 0 0] 8 rfl (by kernel_rfl) (by kernel_rfl) (by kernel_rfl) (by kernel_rfl) (by kernel_rfl) (tabled_laid os _)) ?_
  intro W base args ds gs before hval0 hW hcnd hsz0 hL _
  have hsz : (DataW.weightsEach Tryd.prog (Tryd.f4.params.toList ++ Rows.keyBackSpec.plain.varTypes Tryd.prog) (ds ++ gs)).all (· ≤ reachBytes) = true := hsz0
  have hval : ∀ (j : Nat) t v, Tryd.f4.params[j]? = some t → args[j]? = some v → Value.okWide Tryd.prog W .any base t v := hval0
  have hW' := hW
  obtain ⟨p, q, hA0, hV, rfl, hfz, hnd⟩ := hW
  have hA : DataW.TrodAll enc Tryd.prog W 0 (fun _ => true) true Tryd.f4.params.toList args.toList ds p := hA0
  rw [Tryd.params4] at hA hval hsz
  obtain ⟨v0, d0, rfl, rfl, h0⟩ := trodAll_one hA
  obtain ⟨rfl, rfl⟩ := trodVars_none hV
  obtain ⟨n0, l0, hr0, hw0, hs0⟩ := open_v3 Tryd.underlying30 Tryd.underlying47 (by kernel_rfl) (by kernel_rfl) Tryd.underlying3 Tryd.underlying3 Tryd.underlying9 (hval 0 30 v0 rfl rfl) h0
  have hz0 : n0 * 32 ≤ 140737488351232 := by
    rcases hs0 with rfl | ⟨es, sp, hd, hl⟩
    · omega
    · subst hd
      have := sized_slice hsz (j := 0) (t := 30) (e := 47) rfl rfl Tryd.underlying30
      rw [show Tryd.prog.bytesOf 47 = 32 by kernel_rfl, hl] at this
      simp only [reachBytes] at this
      omega
  clear hA0 hval0
  refine (walk W (Lst_of hL) n0 v0 l0 hr0 hw0 hz0).mono fun e W' ⟨he, hg⟩ => ?_
  subst he
  exact ⟨_, rfl, law_post (tb := 4) Tryd.laidOut (by kernel_rfl) (by kernel_rfl) Tryd.underlying4 rfl hW' hg rfl rfl rfl⟩

theorem bare : Rows.KeyBackSaid :=
  OpenClaim.holds_of_wide 4 Tryd.f4 rfl rfl rfl rfl rfl rfl rfl ⟨rfl, rfl, rfl, rfl, rfl⟩ rfl rfl rfl rfl rfl (by kernel_rfl) Tryd.func4 (by kernel_rfl)
    (of_decide_eq_true (by kernel_rfl)) (by unfold Func.isWrapper; first | (rw [if_pos (by decide +kernel)]; kernel_rfl) | (rw [if_neg (by decide +kernel)]; exact ⟨rfl, rfl⟩))
    (fun os started H enc _ => lifted os started H enc)
/-- The card: the row's one listed variable is tied to the program's text. -/
theorem proved : Rows.KeyBackCardSaid :=
  Claim7.holds_tied_plain_at .later [] [.data] true _ false bare (fun _ h => by cases h) (by kernel_rfl) (fun _ h => by cases h) keyBack_row_tie rfl ⟨rfl, rfl⟩ (by kernel_rfl) rfl
    (fun f fn hf hfn => by
      obtain rfl : f = 4 := Option.some.inj ((show Tryd.prog.funcNamed "padlock/padlockkeep.KeyBack" = some 4 by kernel_rfl).symm.trans hf) |>.symm
      obtain rfl : fn = Tryd.f4 := (Option.some.inj (Tryd.func4.symm.trans hfn)).symm
      refine ⟨by kernel_rfl, fun j t ht => ?_⟩
      rw [Tryd.params4] at ht
      rcases j with _ | _ | j <;> simp at ht <;> subst ht <;> kernel_rfl)
    (by kernel_rfl)
#print axioms proved
end Go.Proofs.YtakhkcabahhohaaDoor.lKeyBack

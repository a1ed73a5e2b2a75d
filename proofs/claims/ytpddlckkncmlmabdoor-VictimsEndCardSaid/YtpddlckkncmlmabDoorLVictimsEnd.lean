/- When victims leave, nobody waits for themselves any more, and there are fewer of them than wait: at every list of wishes. The row lists the program's two tables; the card ties them to the program's text. -/
import Derived.Test.YtpddlckkncmlmabDoorJl
import Derived.Test.YtpddlckkncmlmabDoorB2
import Derived.Test.YtpddlckkncmlmabDoorMv
import Derived.Test.YtpddlckkncmlmabDoorZn
import Derived.Test.YtpddlckkncmlmabDoorZc
namespace Go.Proofs.YtpddlckkncmlmabDoor.lVictimsEnd
open Go.ChangeShapes Go.WideShapes Go.ChangeAt Go.RowKit Go.Joins
open Go.ChangeMaps (open_string shut_string)
set_option linter.unusedVariables false
set_option linter.unusedSimpArgs false
set_option maxHeartbeats 400000

theorem any_step {p : Lk → Bool} {H : List Lk} {i : Nat} (hi : i < H.length) : (H.take (i + 1)).any p = ((H.take i).any p || p (H.getD i nlk)) := by
  rw [List.take_succ_eq_append_getElem hi, List.any_append, gd hi]
  simp
def Cnd (N i n2 : Nat) : Prop := (i = 0 ∧ n2 = N) ∨ (0 < i ∧ n2 + i ≤ N ∧ i < N)
theorem vic_a {H Q : List Lk} (h : Okl H Q) : vicA H Q = vicL H Q := by unfold vicA; rw [if_pos ((okl_iff H Q).2 h)]
theorem dead_a : vicA deadH deadQ = 2 := by rw [vic_a ((okl_iff _ _).1 dead_ok), dead_vic]
set_option maxRecDepth 100000 in
set_option maxHeartbeats 16000000 in
theorem walk (W : World) (hL : Tog W ∧ Jnd W) (n : Nat) (v : Value) (l : List Wi) (hr : Rd W 3 n v (wic l)) (hz : n * 24 ≤ 140737488351232) (hs : ∀ o ∈ l, WiOk o) :
    Calls Tryd.prog 4 #[v] W fun e w' => e = .returned (.bool true) ∧ Below W.heap.size W w' := by
  have HT := Lib.hid hL
  have HLK := Lib.hid (locks_any W hL n v l hr hs)
  obtain ⟨_, av, cv, rfl, _⟩ := id hr
  clear hL hr hs hz
  go_enter Tryd.func4, Tryd.ntmps4
  go_wp2_with fail
  refine HLK.out.mono ?_
  rintro e w1 ⟨x1, n1, c1, x2, N, c2, H, Q, rfl, hg0, g1, g2, hb1⟩
  have hlb := LB.new w1 g1 g2
  have hn2 := len_l g2
  obtain ⟨W2, hW2⟩ : ∃ W2 : World, W2 = w1.alloc (.cells #[.slice x1 n1 c1, .slice x2 N c2] 24) := ⟨_, rfl⟩
  have hb2 : Below W.heap.size W W2 := by rw [hW2]; exact hb1.alloc hb1.size _
  rw [← hW2] at hlb
  have hfw : H.length + Q.length ≤ 40 := hg0.few
  have hN40 : N ≤ 40 := by omega
  have hz1 := hb1.size
  have HLB := Lib.hid hlb
  have HB2 := Lib.hid hb2
  have HG := Lib.hid hg0
  have HN := Lib.hid hn2
  have HW2 := Lib.hid hW2
  obtain ⟨e0, e1, -, -⟩ := box2 hlb.b
  rw [hW2] at e0 e1
  clear g1 g2 hb1 hlb hb2 HLK hg0 hn2 hW2 hfw
  go_wp2_with fail
  rw [← HW2.out]
  clear e0 e1
  go_loopw [5] (fun iv wr => ∃ (i : Nat) (x1 : Option Addr) (n1 c1 : Nat) (x2 : Option Addr) (n2 c2 : Nat) (H Q : List Lk), i ≤ N ∧ iv = .int .i64 (i : Int) ∧ Hid (LB wr w1.heap.size x1 n1 c1 x2 n2 c2 H Q) ∧ Hid (Grown 40 H Q) ∧ Hid (Cnd N i n2) ∧ Hid (Below W.heap.size W wr)) (fun iv _ => N + 1 - (intOf iv).toNat)
  case atStart => exact ⟨0, x1, n1, c1, x2, N, c2, H, Q, by omega, rfl, HLB.out, HG.out, .inl ⟨rfl, rfl⟩, HB2.out⟩
  case round =>
    obtain ⟨i, x1, n1, c1, x2, n2, c2, H, Q, hi, rfl, HL, HGR, HC, HB⟩ := hrel
    obtain ⟨wo, rfl⟩ : ∃ wo : World, wo = wr := ⟨_, rfl⟩
    obtain ⟨e0, e1, -, -⟩ := box2 HL.out.b
    have hn2 := len_l HL.out.q
    have hn1 := len_l HL.out.h
    have hfw := HGR.out.few
    obtain ⟨V, hV⟩ : ∃ V, V = vicL H Q := ⟨_, rfl⟩
    have hvc : Calls Tryd.prog 6 #[.agg #[.slice x1 n1 c1, .slice x2 n2 c2]] wo fun e w' => e = .returned (.tuple #[.int .i64 V, .int .i64 0]) ∧ Below wo.heap.size wo w' := by
      have := victim_any wo (HT.out.1.below HB.out) (HT.out.2.below HB.out) n1 n2 _ _ H Q HL.out.h HL.out.q (by omega) (by omega)
      unfold VicIs at this
      rw [vic_a HGR.out.ok, (okl_iff H Q).2 HGR.out.ok, ← hV] at this
      exact this
    have HVC := Lib.hid hvc
    have HV := Lib.hid hV
    have HNN := Lib.hid (And.intro hn1 hn2)
    have hn240 : n2 ≤ 40 := by omega
    have hn140 : n1 ≤ 40 := by omega
    have hiI : (i : Int) ≤ (N : Int) := by omega
    clear hvc hV hn1 hn2 hfw
    go_wp2_with fail
    refine HVC.out.mono ?_
    rintro e w3 ⟨rfl, hb3⟩
    have HL3 := Lib.hid (HL.out.below hb3)
    have HB3 := Lib.hid (into HB.out hb3)
    clear hb3 e0 e1
    by_cases hV0 : V = 0
    · have hv0 : (V == 0) = true := by simp [hV0]
      have hCC := HC.out
      clear hV0
      obtain ⟨W4, hW4⟩ : ∃ W4 : World, W4 = (w3.alloc (.cells #[.int .i64 1, .string ⟨#[97]⟩, .int .i64 5, .int .i64 2, .string ⟨#[98]⟩, .int .i64 5] 33)).alloc (.cells #[.int .i64 1, .string ⟨#[98]⟩, .int .i64 3, .int .i64 2, .string ⟨#[97]⟩, .int .i64 3] 33) := ⟨_, rfl⟩
      obtain ⟨W5, hW5⟩ : ∃ W5 : World, W5 = W4.alloc (.cells #[.slice (some ⟨w3.heap.size, 0, none⟩) 2 2, .slice (some ⟨w3.heap.size + 1, 0, none⟩) 2 2] 24) := ⟨_, rfl⟩
      have hb35 : Below w3.heap.size w3 W5 := by rw [hW5, hW4]; exact (((Below.refl _ _).alloc (Nat.le_refl _) _).alloc (by simp) _).alloc (by simp; omega) _
      have hdh : Rd W5 3 2 (.slice (some ⟨w3.heap.size, 0, none⟩) 2 2) (lkc deadH) := by
        refine ⟨rfl, _, _, rfl, Nat.le_refl _, by unfold maxLen; omega, (fun h => by cases h), fun a ha j u hu => ?_⟩
        cases ha
        have h1 := new_cells w3 [.int .i64 1, .string ⟨#[97]⟩, .int .i64 5, .int .i64 2, .string ⟨#[98]⟩, .int .i64 5] 33 j u hu
        rw [hW5, hW4]
        exact call_al _ (call_al _ h1)
      have hdq : Rd W5 3 2 (.slice (some ⟨w3.heap.size + 1, 0, none⟩) 2 2) (lkc deadQ) := by
        refine ⟨rfl, _, _, rfl, Nat.le_refl _, by unfold maxLen; omega, (fun h => by cases h), fun a ha j u hu => ?_⟩
        cases ha
        have h1 := new_cells (w3.alloc (.cells #[.int .i64 1, .string ⟨#[97]⟩, .int .i64 5, .int .i64 2, .string ⟨#[98]⟩, .int .i64 5] 33)) [.int .i64 1, .string ⟨#[98]⟩, .int .i64 3, .int .i64 2, .string ⟨#[97]⟩, .int .i64 3] 33 j u hu
        rw [World.size_alloc] at h1
        rw [hW5, hW4]
        exact call_al _ h1
      have hdv : Calls Tryd.prog 6 #[.agg #[.slice (some ⟨w3.heap.size, 0, none⟩) 2 2, .slice (some ⟨w3.heap.size + 1, 0, none⟩) 2 2]] W5 fun e w' => e = .returned (.tuple #[.int .i64 2, .int .i64 0]) ∧ Below W5.heap.size W5 w' := by
        have hb5 := into HB3.out hb35
        have := victim_any W5 (HT.out.1.below hb5) (HT.out.2.below hb5) 2 2 _ _ deadH deadQ hdh hdq (by omega) (by omega)
        unfold VicIs at this
        rw [dead_a, dead_ok] at this
        exact this
      have HDV := Lib.hid hdv
      have HW5 := Lib.hid hW5
      have HW4 := Lib.hid hW4
      have HB35 := Lib.hid hb35
      clear hdv hdh hdq hb35 hW5 hW4
      unfold Cnd at hCC
      by_cases hiN : i < N
      · have hiNI : (i : Int) < (N : Int) := by omega
        clear hCC
        go_wp2_with fail
        rw [← HW4.out, ← HW5.out]
        refine HDV.out.mono ?_
        rintro e w6 ⟨rfl, hb6⟩
        have HB6 := Lib.hid (into (into HB3.out HB35.out) hb6)
        clear hb6
        go_wp2_with fail
        go_ret
        exact ⟨rfl, HB6.out⟩
      · have hN0 : N = 0 := by omega
        subst hN0
        have hi0 : i = 0 := by omega
        subst hi0
        clear hCC
        go_wp2_with fail
        rw [← HW4.out, ← HW5.out]
        refine HDV.out.mono ?_
        rintro e w6 ⟨rfl, hb6⟩
        have HB6 := Lib.hid (into (into HB3.out HB35.out) hb6)
        clear hb6
        go_wp2_with fail
        go_ret
        exact ⟨rfl, HB6.out⟩
    · have hv0 : (V == 0) = false := by simpa using hV0
      have hvn : vicL H Q ≠ 0 := by rw [← HV.out]; exact hV0
      have hrng := vic_rng HGR.out.ok hvn
      have htwo := vic_two HGR.out.ok hvn
      have hany := vic_any hvn
      have hfew := vic_fewer HGR.out.ok hvn
      rw [← HV.out] at hrng hany hfew
      rcases hlv : leaveL H Q V with ⟨H', Q', A, er⟩
      have her : er = 0 := by
        have := leave_e (t := V) HGR.out.ok
        rw [hlv, if_neg (by omega)] at this
        exact this
      subst her
      have hgr := HGR.out.leave (t := V) hrng
      rw [hlv] at hgr hfew
      simp only at hgr hfew
      have HLV : Hid (leaveL H Q V = (H', Q', A, 0)) := hlv
      have HF := Lib.hid (And.intro htwo (And.intro hany hfew))
      have HGN := Lib.hid hgr
      clear hvn hrng htwo hany hfew hlv hgr hV0
      go_wp2_with fail
      go_loopw [11, 12] (fun bv jv wr => ∃ (j : Nat) (b : Bool), j ≤ n2 ∧ jv = .int .i64 (j : Int) ∧ bv = .bool b ∧ Hid (b = (Q.take j).any (ofB V)) ∧ Hid (Below w3.heap.size w3 wr)) (fun _ jv _ => n2 - (intOf jv).toNat)
      case atStart => exact ⟨0, false, by omega, rfl, rfl, Lib.hid (by simp), Below.refl _ _⟩
      case round =>
        obtain ⟨j, b, hj, rfl, rfl, HBB, HBj⟩ := hrel
        have hlj := HL3.out.below HBj.out
        obtain ⟨e0, e1, -, -⟩ := box2 hlj.b
        by_cases hlt : j < n2
        · obtain ⟨bq, oq, capq, hsh, _, _, _, hq⟩ := lks_of hlj.q (by omega)
          simp only [Value.slice.injEq] at hsh
          obtain ⟨rfl, -, rfl⟩ := hsh
          obtain ⟨z0, -, -⟩ := hq j hlt
          have hst := any_step (p := ofB V) (H := Q) (i := j) (by rw [← HNN.out.2]; exact hlt)
          have hof : ofB V (Q.getD j nlk) = ((Q.getD j nlk).t == V) := rfl
          obtain ⟨z, hz'⟩ : ∃ z, z = (Q.getD j nlk).t := ⟨_, rfl⟩
          rw [hof, ← hz'] at hst
          rw [← hz'] at z0
          have HST := Lib.hid hst
          have hjI : (j : Int) < (n2 : Int) := by omega
          clear hq hz' hlj hst hof
          cases b
          · by_cases he : z = V
            · subst he
              go_wp2_with fail
              (try go_quiet (fail))
              (try go_wp2_with fail)
              go_roundw
              case rel => exact ⟨j + 1, true, by omega, by go_num, rfl, Lib.hid (by rw [HST.out, ← HBB.out]; simp), by first | exact HBj.out | exact below_drewN HBj.out _⟩
              case measure => (simp [intOf]) <;> omega
            · have he' : (z == V) = false := by simpa using he
              have HE := Lib.hid he'
              go_wp2_with fail
              (try go_quiet (fail))
              (try go_wp2_with fail)
              go_roundw
              case rel => exact ⟨j + 1, false, by omega, by go_num, rfl, Lib.hid (by rw [HST.out, ← HBB.out, HE.out]; simp), by first | exact HBj.out | exact below_drewN HBj.out _⟩
              case measure => (simp [intOf]) <;> omega
          · go_wp2_with fail
            (try go_quiet (fail))
            (try go_wp2_with fail)
            go_roundw
            case rel => exact ⟨j + 1, true, by omega, by go_num, rfl, Lib.hid (by rw [HST.out, ← HBB.out]; simp), by first | exact HBj.out | exact below_drewN HBj.out _⟩
            case measure => (simp [intOf]) <;> omega
        · obtain rfl : j = n2 := by omega
          have hbt : b = true := by
            rw [HBB.out, List.take_of_length_le (by rw [← HNN.out.2]; exact Nat.le_refl _)]
            exact HF.out.2.1
          subst hbt
          have hbw := into HB3.out HBj.out
          have hlw := leave_v wr ⟨HT.out.1.below hbw, HT.out.2.below hbw⟩ hlj.h hlj.q (by have := HNN.out; omega) HLV.out
          obtain ⟨nA, hnA⟩ : ∃ nA, nA = A.length := ⟨_, rfl⟩
          rw [← hnA] at hlw
          have HLW := Lib.hid hlw
          have HLJ := Lib.hid hlj
          have HBW := Lib.hid hbw
          have hjI : ¬ (j : Int) < (j : Int) := by omega
          clear hlj hbw hlw hlt hnA HBB
          go_wp2_with fail
          refine HLW.out.mono ?_
          rintro e w7 ⟨y1, m1, d1, y2, m2, d2, y3, d3, rfl, g1, g2, g3, hb7⟩
          obtain ⟨W8, hW8⟩ : ∃ W8 : World, W8 = w7.alloc (.cells #[.slice y1 m1 d1, .slice y2 m2 d2] 24) := ⟨_, rfl⟩
          have hb8 : Below w7.heap.size w7 W8 := by rw [hW8]; exact (Below.refl _ _).alloc (Nat.le_refl _) _
          have hb78 := into hb7 hb8
          have hl8 := HLJ.out.below hb78
          clear e0 e1
          obtain ⟨e0, e1, f0, f1⟩ := box2 hl8.b
          have k0 : W8.cell? ⟨w7.heap.size, 0, none⟩ = some (.slice y1 m1 d1) := by rw [hW8]; go_simp
          have k1 : W8.cell? ⟨w7.heap.size, 1, none⟩ = some (.slice y2 m2 d2) := by rw [hW8]; go_simp
          have hput := hl8.put (g1.below hb8) (g2.below hb8)
          have hm2 := len_l g2
          have hc : Cnd N (i + 1) m2 := by
            have h1 := HC.out
            have h2 := HF.out.1
            have h3 := HF.out.2.2
            have h4 := HNN.out.2
            unfold Cnd at h1 ⊢
            omega
          have hiN : i + 1 ≤ N := by
            unfold Cnd at hc
            omega
          have hb9 := put_below (into HBW.out hb78) (by omega) (.slice y1 m1 d1) (.slice y2 m2 d2)
          have HP := Lib.hid hput
          have HCC := Lib.hid hc
          have HB9 := Lib.hid hb9
          have HW8 := Lib.hid hW8
          rw [hW8] at e0 e1 f0 f1 k0 k1
          clear g1 g2 g3 hb7 hb8 hb78 hl8 hput hm2 hc hb9 hW8
          go_wp2_with fail
          go_roundw
          case rel => exact ⟨i + 1, y1, m1, d1, y2, m2, d2, H', Q', hiN, by go_num, by rw [← HW8.out]; exact HP.out, HGN.out, HCC.out, by rw [← HW8.out]; exact HB9.out⟩
          case measure => (simp [intOf]) <;> omega

set_option maxRecDepth 100000 in
theorem lifted (os : Os) (started : os.Started) (H : Type) (enc : TypeId × Value → H) :
    ReturnsInHanded {} Tryd.checked os 4 .any (fun w args => (Rows.victimsEndSpec.pre enc Tryd.prog Tryd.f4 [] false w args ∧ laidTJ w) ∧ sizedMet enc Tryd.prog Tryd.f4 (OpenSpec.ofChange Rows.victimsEndSpec) false w args) (Rows.victimsEndSpec.post enc Tryd.prog Tryd.f4 false true false false) := by
  refine returnsInHanded_of_change_and (C := Tryd.checked) (X := fun w _ => laidTJ w) (fun _ _ _ hh h => h.of_heap hh) Tryd.own started (by kernel_rfl) Tryd.func4
    (ChangeSpec.witness_at (enc := enc) (C := Tryd.checked) (os := os) (X := fun w _ => laidTJ w) false (tabled os) #[.slice none 0 0] 8 rfl (by kernel_rfl) (by kernel_rfl) (by kernel_rfl) (by kernel_rfl) (by kernel_rfl) (tabled_laidTJ os _)) ?_
  intro W base args ds gs before hval0 hW hcnd hsz0 hL _
  have hsz : (DataW.weightsEach Tryd.prog (Tryd.f4.params.toList ++ Rows.victimsEndSpec.plain.varTypes Tryd.prog) (ds ++ gs)).all (· ≤ reachBytes) = true := hsz0
  have hval : ∀ (j : Nat) t v, Tryd.f4.params[j]? = some t → args[j]? = some v → Value.okWide Tryd.prog W .any base t v := hval0
  have hW' := hW
  obtain ⟨p, q, hA0, hV, rfl, hfz, hnd⟩ := hW
  have hA : DataW.TrodAll enc Tryd.prog W 0 (fun _ => true) true Tryd.f4.params.toList args.toList ds p := hA0
  rw [Tryd.params4] at hA hval hsz
  obtain ⟨v0, d0, rfl, rfl, h0⟩ := trodAll_one hA
  obtain ⟨rfl, rfl⟩ := trodVars_none hV
  have sm0 : small Tryd.prog 30 d0 := fun q hq => by
    have := List.all_eq_true.1 hsz q (weights_each (j := 0) rfl rfl q hq)
    simpa using this
  obtain ⟨n0, l0, hr0, hz0, hs0⟩ := open_wishes (hval 0 30 v0 rfl rfl) h0 sm0
  clear hA0 hval0
  refine (walk W (TJ_of hL) n0 v0 l0 hr0 hz0 hs0).mono fun e W' ⟨he, hg⟩ => ?_
  subst he
  exact ⟨_, rfl, law_post (tb := 4) Tryd.laidOut (by kernel_rfl) (by kernel_rfl) Tryd.underlying4 rfl hW' hg rfl rfl rfl⟩

theorem bare : Rows.VictimsEndSaid :=
  OpenClaim.holds_of_wide 4 Tryd.f4 rfl rfl rfl rfl rfl rfl rfl ⟨rfl, rfl, rfl, rfl, rfl⟩ rfl rfl rfl rfl rfl (by kernel_rfl) Tryd.func4 (by kernel_rfl)
    (of_decide_eq_true (by kernel_rfl)) (by unfold Func.isWrapper; first | (rw [if_pos (by decide +kernel)]; kernel_rfl) | (rw [if_neg (by decide +kernel)]; exact ⟨rfl, rfl⟩))
    (fun os started H enc _ => lifted os started H enc)
/-- The card: the row's one listed variable is tied to the program's text. -/
theorem proved : Rows.VictimsEndCardSaid :=
  Claim7.holds_tied_plain_at .later [] [.data, .data] true _ false bare (fun _ h => by cases h) (by kernel_rfl) (fun _ h => by cases h) victimsEnd_row_tie rfl ⟨rfl, rfl⟩ (by kernel_rfl) rfl
    (fun f fn hf hfn => by
      obtain rfl : f = 4 := Option.some.inj ((show Tryd.prog.funcNamed "padlock/padlockkeep.VictimsEnd" = some 4 by kernel_rfl).symm.trans hf) |>.symm
      obtain rfl : fn = Tryd.f4 := (Option.some.inj (Tryd.func4.symm.trans hfn)).symm
      refine ⟨by kernel_rfl, fun j t ht => ?_⟩
      rw [Tryd.params4] at ht
      rcases j with _ | j <;> simp at ht <;> subst ht <;> kernel_rfl)
    (by kernel_rfl)
#print axioms proved
end Go.Proofs.YtpddlckkncmlmabDoor.lVictimsEnd

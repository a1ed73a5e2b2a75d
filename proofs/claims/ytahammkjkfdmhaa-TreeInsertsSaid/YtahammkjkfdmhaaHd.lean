/- A tree checked: level by level; page by page. -/
import Derived.Test.YtahammkjkfdmhaaHb
import Derived.Test.YtahammkjkfdmhaaPn
namespace Go.Proofs.Ytahammkjkfdmhaa
open Go.ChangeShapes Go.WideShapes Go.ChangeAt Go.RowKit Go.Maps
set_option linter.unusedVariables false
set_option linter.unusedSimpArgs false
set_option maxHeartbeats 2000000
set_option maxRecDepth 100000
theorem level_any (w : World) (ok : Nat → Prop) (tv lv : Value) (T : Tr) (l : List Spot) (ht : RT w ok tv T) (hl : RS w ok lv l) (hn : ∀ x ∈ l, x.1 < T.pages.length) (hll : l.length ≤ 100000) :
    Calls Try.prog 60 #[tv, lv] w (AnsB (okLw T.pages (T.pages.getD (l.getD 0 sp0).1 noPg).leaf l) w) := callsIn_wide.1 (level_in w ok tv lv T l ht hl hn hll)
theorem okLw_leaf {ps : List Pg} {leaf : Bool} {l : List Spot} (hl : l ≠ []) (h : okLw ps leaf l) : leaf = (ps.getD (l.getD 0 sp0).1 noPg).leaf := by
  cases l with
  | nil => exact absurd rfl hl
  | cons x r => exact h.1.2.2.1.symm
theorem met_len {T : Tr} {a : List Nat} {l : List Spot} (h : Met T a l) (hn : (a ++ l.map (·.1)).Nodup) : a.length + l.length ≤ T.pages.length := by
  have := _root_.Go.Proofs.Ytahammkjkfdmhaa.few T.pages.length (a ++ l.map (·.1)) hn (fun x hx => by
    simp only [List.mem_append, List.mem_map] at hx
    rcases hx with hx | ⟨y, hy, rfl⟩
    · exact (h.page x hx).1
    · exact h.here y hy)
  simpa using this
theorem run_makeMapS (n : Nat) (w : World) : (Instr.makeMap 83 (some (.int .i64 (n : Int)))).run Try.prog w = .ok (.map (some w.heap.size)) (w.alloc (.map #[] 0)) := by
  simp [Instr.makeMap, run_underlying Try.underlying83, asInt, Result.andThen]
  rfl
/-- Whatever is a cell stays as it is. -/
def Kept (w w' : World) : Prop := ∀ a v, w.cell? a = some v → w'.cell? a = some v
theorem Rd.keeps {w w' : World} (hk : Kept w w') {s n : Nat} {v : Value} {xs : List Value} (h : Rd w s n v xs) : Rd w' s n v xs := by
  obtain ⟨h1, ao, cap, h2, h3, h4, h5, h6⟩ := h
  exact ⟨h1, ao, cap, h2, h3, h4, h5, fun a ha j u hu => hk _ _ (h6 a ha j u hu)⟩
theorem RB.keeps {w w' : World} (hk : Kept w w') {ok : Nat → Prop} {v : Value} {l : Key} (h : RB w ok v l) : RB w' ok v l := ⟨Rd.keeps hk h.1, h.2⟩
theorem SC.keeps {w w' : World} (hk : Kept w w') {ok : Nat → Prop} : ∀ {l : List Spot} {vs : List Value}, SC w ok vs l → SC w' ok vs l
  | [], _, h => h
  | x :: l, _, ⟨u, h, vs', e, h1, h2, h3⟩ => ⟨u, h, vs', e, h1.keeps hk, h2.keeps hk, SC.keeps hk h3⟩
theorem RS.keeps {w w' : World} (hk : Kept w w') {ok : Nat → Prop} {v : Value} {l : List Spot} (h : RS w ok v l) : RS w' ok v l := by
  obtain ⟨vs, h1, h2⟩ := h
  exact ⟨vs, h1.keeps hk, h2.keeps hk⟩
theorem kept_map {w w' : World} {B : Nat} {a : List Nat} (hs : Seen w B a) (hg : w.grownBy w' (some B)) : Kept w w' := by
  intro x v hx
  refine hg.cell hx ?_
  intro e
  obtain ⟨es, clock, h1, _⟩ := hs
  have e2 : x.block = B := Option.some.inj e
  obtain ⟨b, o, sp⟩ := x
  simp only at e2
  subst e2
  cases sp <;> simp [World.cell?, h1] at hx
theorem levels_any (w : World) (ok : Nat → Prop) (hok : ∀ b, ok b → b < w.heap.size) (tv : Value) (T : Tr) (ht : RT w ok tv T) (hq : ∀ p ∈ T.pages, OkQ p T.pages.length) (hr : 0 ≤ T.root ∧ T.root < T.pages.length) (hN : T.pages.length ≤ 4000) :
    Calls Try.prog 44 #[tv] w (AnsB (Pass T) w) := by
  have HT := Lib.hid ht
  have HT0 := ht
  obtain ⟨ao, cap, kf, df, gf, rfl, g1, g2, g3⟩ := pagesF ht
  clear g3 ht HT0
  obtain ⟨N, hNN⟩ : ∃ N, N = T.pages.length := ⟨_, rfl⟩
  rw [← hNN] at g1 hN HT
  rw [← hNN]
  obtain ⟨rt, hrt⟩ : ∃ rt : Nat, rt = T.root.toNat := ⟨_, rfl⟩
  have hrt2 : T.root = (rt : Int) := by omega
  have HN := Lib.hid hNN
  have HQ := Lib.hid hq
  have HR := Lib.hid hr
  have HRT := Lib.hid hrt
  have hroot : Hid (T.root = (rt : Int)) := Lib.hid hrt2
  rw [hrt2] at HT ⊢
  unfold maxLen at g2
  clear hNN hq hr hrt hrt2
  have hmm := run_makeMapS
  go_enter Try.func44, Try.ntmps44
  go_wp2
  go_loopg [4] (N + 1) (fun g v wr => ∃ (a : List Nat) (l : List Spot), g = N + 1 - a.length ∧ Met T a l ∧ l.length ≤ 100000 ∧ RS wr ok v l ∧ Seen wr (w.heap.size + 1) a ∧ Below w.heap.size w wr ∧ w.heap.size + 1 < wr.heap.size ∧
      wr.cell? ⟨w.heap.size, 0, none⟩ = some (.slice ao N cap) ∧ wr.cell? ⟨w.heap.size, 1, none⟩ = some (.int .i64 (rt : Int)))
  case atStart =>
    refine ⟨[], [(T.root.toNat, [], [])], rfl, met_start HR.out, by simp, ?_, ?_, by go_grown, by simp, by go_simp, by go_simp⟩
    · refine ⟨[.int .i64 (rt : Int), .slice none 0 0, .slice none 0 0], ?_, ?_⟩
      · refine ⟨rfl, _, 1, rfl, Nat.le_refl _, by unfold maxLen; omega, fun h => (by cases h), fun x hx j u hu => ?_⟩
        obtain rfl := Option.some.inj hx
        have := new_cells ((w.alloc (.cells #[.slice ao N cap, .int .i64 (rt : Int)] 24)).alloc (.map #[] 0)) [.int .i64 (rt : Int), .slice none 0 0, .slice none 0 0] 85 j u hu
        simpa using this
      · rw [← HRT.out]
        exact SC.one ⟨Rd.nil _ _, fun a n c h hn => by cases h⟩ ⟨Rd.nil _ _, fun a n c h hn => by cases h⟩
    · have h0 : Seen ((w.alloc (.cells #[.slice ao N cap, .int .i64 (rt : Int)] 24)).alloc (.map #[] 0)) (w.heap.size + 1) [] := by
        have := World.ownsMap_made (w.alloc (.cells #[.slice ao N cap, .int .i64 (rt : Int)] 24)) Try.prog 3 (unitElem (H := Unit))
        rw [World.size_alloc] at this
        exact this
      exact h0.far (Below.heap_alloc _ _ _ (by simp))
  case round =>
    obtain ⟨a, l, hgk, hmet, hl5, hrs, hseen, hb, hz, c0, c1⟩ := hrel
    have hrs2 := hrs
    obtain ⟨al, lcap, uf, hf, rfl, e1, e2, _⟩ := spotsF hrs2
    clear hrs2
    obtain ⟨L, hL⟩ : ∃ L, L = l.length := ⟨_, rfl⟩
    rw [← hL] at e1 hrs hl5
    rw [← hL]
    unfold maxLen at e2
    have HL := Lib.hid hL
    have HM := Lib.hid hmet
    have HRS := Lib.hid hrs
    have HSN := Lib.hid hseen
    have HB := Lib.hid hb
    have HGK := Lib.hid hgk
    have hal : a.length ≤ N := by rw [HN.out]; exact hmet.few
    clear hL hmet hrs hseen hb hgk
    rcases Nat.eq_zero_or_pos L with h0 | h0
    · subst h0
      have hnil : l = [] := List.eq_nil_of_length_eq_zero HL.out.symm
      have hm2 := HM.out
      rw [hnil] at hm2
      have HM2 := Lib.hid hm2
      have hsz := size_Sd a hm2.once
      have HSZ := Lib.hid hsz
      clear hnil hm2 hsz
      go_wp2_with (at_len; refine wpList_len_own _ rfl _ _ rfl 3 92 Try.underlying83 (unitElem (H := Unit)) (w.heap.size + 1) a.length (Sd a) rfl HSN.out ?_; rw [HSZ.out])
      go_ret
      refine ansb ?_ HB.out
      have : a.length = N ↔ Pass T := by
        rw [HN.out]
        exact ⟨fun h => met_end HR.out HM2.out h, fun h => pass_end h HM2.out.run⟩
      rw [← this]
      simp
      omega
    · have hne : l ≠ [] := by rintro rfl; have := HL.out; simp at this; omega
      have HNE := Lib.hid hne
      clear hne
      have hcm := meet_any wr ok _ l (w.heap.size + 1) a HRS.out HSN.out HM.out.once (fun x hx => by have := HM.out.here x hx; rw [← HN.out] at this; omega) (by omega) (by rw [← HL.out]; omega)
      have HCM := Lib.hid hcm
      clear hcm
      go_wp2_with fail
      refine HCM.out.mono ?_
      rintro e w1 ⟨b1, rfl, hb1, hs1, hg1⟩
      have c0' := hg1.cell c0 (by simp)
      have c1' := hg1.cell c1 (by simp)
      have z1 := hg1.size
      have hB1 : Below w.heap.size w w1 := HB.out.grown hg1 (by omega) (fun k hk => by cases hk; omega)
      have hT1 : RT w1 ok (.agg #[.slice ao N cap, .int .i64 (rt : Int)]) T := HT.out.below hB1
      have hL1 : RS w1 ok (.slice al L lcap) l := HRS.out.keeps (kept_map HSN.out hg1)
      have HB1 := Lib.hid hB1
      have HT1 := Lib.hid hT1
      have HL1 := Lib.hid hL1
      have HI1 := Lib.hid hb1
      have HS1 := Lib.hid hs1
      clear hB1 hT1 hL1 hb1 hs1 hg1
      cases b1 with
      | false =>
        go_wp2
        go_ret
        refine ansb ?_ HB1.out
        simp only [Bool.false_eq_true, false_iff]
        intro hp
        obtain ⟨leaf, _, h2, _, _⟩ := pass_level hp HM.out.run HNE.out
        have := HI1.out.2 h2
        cases this
      | true =>
        have hnd : (a ++ l.map (·.1)).Nodup := by have := HI1.out; simp at this; exact this
        have hal2 : a.length + L ≤ N := by rw [HN.out, HL.out]; exact met_len HM.out hnd
        have HND := Lib.hid hnd
        have hcl := level_any w1 ok _ _ T l HT1.out HL1.out HM.out.here (by rw [← HL.out]; omega)
        have HCL := Lib.hid hcl
        clear hnd hcl
        go_wp2_with fail
        refine HCL.out.mono ?_
        rintro e w2 ⟨b2, rfl, hb2, hB2⟩
        have z2 := hB2.size
        have c0'' := cell_of_below hB2 c0'
        have c1'' := cell_of_below hB2 c1'
        have HB2 := Lib.hid (into HB1.out hB2)
        have HT2 := Lib.hid (HT1.out.below hB2)
        have HL2 := Lib.hid (HL1.out.below hB2)
        have HS2 := Lib.hid ((HS1.out (by first | exact rfl | trivial)).far (hB2.block _ (by omega)))
        have HI2 := Lib.hid hb2
        clear hB2 hb2
        cases b2 with
        | false =>
          go_wp2
          go_ret
          refine ansb ?_ HB2.out
          simp only [Bool.false_eq_true, false_iff]
          intro hp
          obtain ⟨leaf, h1, _, _, _⟩ := pass_level hp HM.out.run HNE.out
          have h3 : okLw T.pages leaf l := okLv_okLw h1 (n := T.pages.length) fun x hx => hp.page _ (page_mem (HM.out.here x hx))
          rw [okLw_leaf HNE.out h3] at h3
          have := HI2.out.2 h3
          cases this
        | true =>
          have hok2 : okLw T.pages (T.pages.getD (l.getD 0 sp0).1 noPg).leaf l := by have := HI2.out; simp at this ⊢; exact this
          have HOK2 := Lib.hid hok2
          have hcb := below_any w2 ok (fun b hb => by have := hok b hb; omega) _ _ T l HT2.out HL2.out HQ.out HM.out.here (by rw [← HL.out]; omega)
          have HCB := Lib.hid hcb
          clear hok2 hcb
          go_wp2_with fail
          refine HCB.out.mono ?_
          rintro e w3 ⟨v3, rfl, hos, hB3⟩
          have z3 := hB3.size
          have d0 := cell_of_below hB3 c0''
          have d1 := cell_of_below hB3 c1''
          have HB3 := Lib.hid (into HB2.out hB3)
          have HS3 := Lib.hid (HS2.out.far (hB3.block _ (by omega)))
          have HOS := Lib.hid hos
          clear hos hB3
          go_wp2
          go_roundg (N + 1 - (a ++ l.map (·.1)).length)
          case measure => rw [HGK.out, List.length_append, List.length_map, ← HL.out]; omega
          case rel =>
            refine ⟨a ++ l.map (·.1), downL T.pages l, rfl, met_step HQ.out HM.out HNE.out HND.out HOK2.out, ?_, HOS.out.rs, HS3.out, HB3.out, by omega, d0, d1⟩
            have := downL_len (ps := T.pages) (l := l) fun y hy => HQ.out _ (page_mem (HM.out.here y hy))
            rw [← HL.out] at this
            omega
/-- What a check answers. -/
noncomputable def chkT (T : Tr) : Int := @ite _ (T.pages.length ≤ 4000 ∧ Pass T) (Classical.propDecidable _) 0 11
theorem chkT_yes {T : Tr} (h : T.pages.length ≤ 4000) (hp : Pass T) : chkT T = 0 := by unfold chkT; rw [if_pos ⟨h, hp⟩]
theorem chkT_no {T : Tr} (h : ¬ (T.pages.length ≤ 4000 ∧ Pass T)) : chkT T = 11 := by unfold chkT; rw [if_neg h]
def ChkIs (T : Tr) (w : World) (e : Ending) (w' : World) : Prop := e = .returned (.int .i64 (chkT T)) ∧ Below w.heap.size w w'
theorem chkis_yes {T : Tr} {w w' : World} (h : T.pages.length ≤ 4000) (hp : Pass T) (hb : Below w.heap.size w w') : ChkIs T w (.returned (.int .i64 0)) w' := ⟨by rw [chkT_yes h hp], hb⟩
theorem chkis_no {T : Tr} {w w' : World} (h : ¬ (T.pages.length ≤ 4000 ∧ Pass T)) (hb : Below w.heap.size w w') : ChkIs T w (.returned (.int .i64 11)) w' := ⟨by rw [chkT_no h], hb⟩
theorem okq_of {p : Pg} {n : Nat} (h1 : KeysOk p.keys) (h2 : KidsOk p.leaf p.keys p.kids n) : OkQ p n := ⟨h1.1, h1.2.1, h1.2.2, h2.1, h2.2.1, h2.2.2⟩
theorem check_any (w : World) (ok : Nat → Prop) (hok : ∀ b, ok b → b < w.heap.size) (tv : Value) (T : Tr) (ht : RT w ok tv T) (hsz : ∀ p ∈ T.pages, p.keys.length ≤ maxLen ∧ p.kids.length ≤ 4611686018427387904) (hrr : Rng T.root) :
    Calls Try.prog 29 #[tv] w (ChkIs T w) := by
  have HT := Lib.hid ht
  obtain ⟨ao, cap, kf, df, gf, rfl, g1, g2, g3⟩ := pagesF ht
  obtain ⟨N, hNN⟩ : ∃ N, N = T.pages.length := ⟨_, rfl⟩
  rw [← hNN] at g1 g3 HT
  rw [← hNN]
  obtain ⟨rt, hrt⟩ : ∃ rt : Int, rt = T.root := ⟨_, rfl⟩
  rw [← hrt] at HT hrr ⊢
  have HN := Lib.hid hNN
  have HP := Lib.hid g3
  have HRT := Lib.hid hrt
  have HSZ := Lib.hid hsz
  unfold maxLen at g2
  unfold Rng at hrr
  clear hNN hrt g3 ht hsz
  by_cases h4 : 4000 < N
  · have h4' : (4000 : Int) < (N : Int) := by omega
    go_enter Try.func29, Try.ntmps29
    go_wp2
    go_ret
    exact chkis_no (by rw [← HN.out]; omega) (by go_grown)
  · by_cases hr : 0 ≤ rt ∧ rt < (N : Int)
    · obtain ⟨hr0, hr1⟩ := hr
      have h4' : N ≤ 4000 := by omega
      go_enter Try.func29, Try.ntmps29
      go_wp2
      go_loopw [25] (fun i wr => ∃ k : Nat, k ≤ N ∧ i = .int .i64 (k : Int) ∧ (∀ p ∈ T.pages.take k, OkQ p N) ∧ Below w.heap.size w wr ∧ w.heap.size < wr.heap.size ∧
        wr.cell? ⟨w.heap.size, 0, none⟩ = some (.slice ao N cap) ∧ wr.cell? ⟨w.heap.size, 1, none⟩ = some (.int .i64 rt)) (fun i _ => N - (intOf i).toNat)
      case atStart => exact ⟨0, by omega, rfl, by simp, by go_grown, by simp, by simp, by simp⟩
      case round =>
        obtain ⟨k, hk, rfl, hq, hb, hz, c0, c1⟩ := hrel
        have HQ := Lib.hid hq
        have HB := Lib.hid hb
        clear hq hb
        by_cases hlt : k < N
        · obtain ⟨bp, op, rfl, hbp, _, hpa⟩ := HP.out k hlt
          obtain ⟨p, hp⟩ : ∃ p, p = T.pages.getD k noPg := ⟨_, rfl⟩
          rw [← hp] at hpa
          have hpm : p ∈ T.pages := by rw [hp]; exact page_mem (by rw [← HN.out]; exact hlt)
          have hps := HSZ.out p hpm
          have HPP := Lib.hid hp
          have HPM := Lib.hid hpm
          obtain ⟨pl, pks, pds, ph, pn⟩ := p
          obtain ⟨a1, a2, a3, a4, a5, a6, a7, a8⟩ := hpa.below HB.out
          simp only at a1 a5 a6 a7 a8 hps
          obtain ⟨ak, ck, ff, k0, _, _, _⟩ := keysF a6
          obtain ⟨ad, cd, d0, _, _, _⟩ := intsF a7
          obtain ⟨ag, cg, eg⟩ := a8.sh
          rw [k0] at a2 a6
          rw [d0] at a3 a7
          rw [eg] at a4
          obtain ⟨K, hK⟩ : ∃ K, K = pks.length := ⟨_, rfl⟩
          obtain ⟨Kd, hKd⟩ : ∃ K, K = pds.length := ⟨_, rfl⟩
          obtain ⟨Kg, hKg⟩ : ∃ K, K = ph.length := ⟨_, rfl⟩
          rw [← hK] at a2 a6
          rw [← hKd] at a3 a7
          rw [← hKg] at a4
          have hbr : bp < wr.heap.size := by omega
          have HA6 := Lib.hid a6
          have HA7 := Lib.hid a7
          have HPS := Lib.hid hps
          clear a6 a7 a8 k0 d0 eg hK hKd hKg hps hp hpm hpa
          go_wp2_with fail
          have hbA : Below wr.heap.size wr (wr.alloc (.cells #[.bool pl, .slice ak K ck, .slice ad Kd cd, .slice ag Kg cg, .int .i64 pn] 43)) := (Below.refl _ _).alloc (Nat.le_refl _) _
          refine (keysMay_any _ ok _ pks (HA6.out.below hbA) HPS.out.1).mono ?_
          rintro e w1 ⟨b1, rfl, hb1, rfl⟩
          have HI1 := Lib.hid hb1
          have HBA := Lib.hid hbA
          clear hb1 hbA
          cases b1 with
          | false =>
            go_wp2
            go_ret
            refine chkis_no ?_ (HB.out.trans (HBA.out.mono (Nat.le_of_lt hz)))
            intro hp
            have := (hp.2.page _ HPM.out).q
            have := HI1.out.2 ⟨this.keys, this.okk, this.rise⟩
            cases this
          | true =>
            have hko : KeysOk pks := by have := HI1.out; simp at this; exact this
            have HKO := Lib.hid hko
            clear hko
            go_wp2_with fail
            refine (kidsMay_any _ ok pl _ _ _ pn (N : Int) pks pds (HA6.out.below HBA.out) (HA7.out.below HBA.out) (by have := HKO.out.1; omega) HPS.out.2).mono ?_
            rintro e w2 ⟨b2, rfl, hb2, hB2⟩
            have z2 := hB2.size
            simp only [World.size_alloc] at z2
            have HI2 := Lib.hid hb2
            have hB2' : Below wr.heap.size wr w2 := into HBA.out hB2
            have c0' := cell_of_below hB2' c0
            have c1' := cell_of_below hB2' c1
            have HB2 := Lib.hid (HB.out.trans (hB2'.mono (Nat.le_of_lt hz)))
            clear hb2 hB2 hB2'
            cases b2 with
            | false =>
              go_wp2
              go_ret
              refine chkis_no ?_ HB2.out
              intro hp
              have := (hp.2.page _ HPM.out).q
              have := HI2.out.2 ⟨this.kids, this.some, by rw [HN.out]; exact this.kid⟩
              cases this
            | true =>
              have hd : KidsOk pl pks pds N := by have := HI2.out; simp at this; exact this
              have HD := Lib.hid hd
              clear hd
              go_wp2
              go_roundw
              case rel =>
                refine ⟨k + 1, by omega, by go_num, ?_, HB2.out, by omega, c0', c1'⟩
                rw [take_nextG (d := noPg) (by rw [← HN.out]; exact hlt), ← HPP.out]
                intro x hx
                simp only [List.mem_append, List.mem_singleton] at hx
                rcases hx with hx | rfl
                · exact HQ.out x hx
                · exact okq_of HKO.out HD.out
              case measure => simp [intOf]; omega
        · obtain rfl : k = N := by omega
          have hq : ∀ p ∈ T.pages, OkQ p T.pages.length := by
            have e : T.pages.take k = T.pages := List.take_of_length_le (by rw [← HN.out]; exact Nat.le_refl _)
            have := HQ.out
            rw [e] at this
            rw [← HN.out]
            exact this
          have hcl := levels_any wr ok (fun b hb => by have := hok b hb; omega) _ T (HT.out.below HB.out) hq (by rw [← HRT.out, ← HN.out]; exact ⟨hr0, hr1⟩) (by rw [← HN.out]; exact h4')
          have HCL := Lib.hid hcl
          clear hq hcl
          go_wp2_with fail
          refine HCL.out.mono ?_
          rintro e w2 ⟨b2, rfl, hb2, hB2⟩
          have HI2 := Lib.hid hb2
          have HB2 := Lib.hid (HB.out.trans (hB2.mono (Nat.le_of_lt hz)))
          clear hb2 hB2
          cases b2 with
          | false =>
            go_wp2
            go_ret
            refine chkis_no ?_ HB2.out
            intro hp
            have := HI2.out.2 hp.2
            cases this
          | true =>
            go_wp2
            go_ret
            exact chkis_yes (by rw [← HN.out]; exact h4') (by have := HI2.out; simp at this; exact this) HB2.out
    · have hnp : Hid (¬ (T.pages.length ≤ 4000 ∧ Pass T)) := fun hp => hr (by have := hp.2.root; rw [← HRT.out, ← HN.out] at this; exact this)
      have h4' : ¬ (4000 : Int) < (N : Int) := by omega
      by_cases h0 : rt < 0
      all_goals (
        have h1 : rt < 0 ∨ (N : Int) ≤ rt := by omega
        go_enter Try.func29, Try.ntmps29
        go_wp2
        go_ret
        exact chkis_no hnp.out (by go_grown))
end Go.Proofs.Ytahammkjkfdmhaa

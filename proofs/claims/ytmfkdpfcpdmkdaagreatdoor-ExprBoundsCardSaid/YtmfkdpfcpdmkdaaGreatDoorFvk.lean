import Derived.Test.YtmfkdpfcpdmkdaaGreatDoorFwk
import Derived.Test.YtmfkdpfcpdmkdaaGreatDoorCyk
import Derived.Deep.DeepCutAuto
import Derived.Test.YtmfkdpfcpdmkdaaGreatDoorBfk
/- The document's bounds: whole. -/
namespace Go.Proofs.YtmfkdpfcpdmkdaaGreatDoor.bd
open Go.ChangeShapes Go.WideShapes Go.ChangeAt Go.RowKit
set_option linter.unusedVariables false
set_option linter.unusedSimpArgs false
set_option maxHeartbeats 4000000
set_option maxRecDepth 1000000
theorem dBounds_any (w : World) (n m : Nat) (v u : Value) (l : List Cq) (ops : List Oq) (hr : Rd w 2 n v (ccs l)) (hs : ∀ c ∈ l, c.t.size ≤ maxLen) (hu : Rd w 5 m u (ocs ops)) (hos : ∀ o ∈ ops, o.t.size ≤ maxLen) (hfi : ∀ o ∈ ops, -9223372036854775808 ≤ o.v.n ∧ o.v.n ≤ 9223372036854775807) :
    Calls Tryz.prog 7 #[v, u] w (BoundsIs (boundsF l ops) w) := by
  have HCF := Lib.hid (colsFault_any w n v l hr hs)
  have HKD := Lib.hid (fun (W : World) (h : Below w.heap.size w W) => dKindOf_any W n m v u l ops (hr.below h) hs (hu.below h) hos)
  have hml := len_o hu
  have hmx := hu.len
  unfold maxLen at hmx
  obtain ⟨q, hq⟩ : ∃ q, q = colsF l := ⟨_, rfl⟩
  rw [← hq] at HCF
  by_cases h0 : q = 0
  rotate_left
  · have e : boundsF l ops = (q, [], []) := by
      unfold boundsF
      have hk : (kindF l ops).1 = q := by unfold kindF; rw [if_pos (by rw [← hq]; exact h0), hq]
      split
      · rw [hq]
      · rw [hk, if_pos h0]
    rw [e]
    have h0' : (q != 0) = true := by simpa using h0
    have hb0 : (q == 0) = false := by simpa using h0
    clear HKD hml hmx hr hu hs hos hfi hq e
    go_enter Tryz.func7, Tryz.ntmps7
    go_wp2_with fail
    refine HCF.out.mono ?_
    rintro e w1 ⟨rfl, hb1⟩
    have HB1 := Lib.hid hb1
    clear hb1
    go_wp2_with fail
    go_returns
    exact no_bounds HB1.out
  subst h0
  obtain ⟨_, ub, uc, rfl, -, -, -, -⟩ := id hu
  by_cases hm : m = 0
  · subst hm
    have e : boundsF l ops = (0, [], []) := by unfold boundsF; rw [if_pos (by omega), ← hq]
    rw [e]
    clear HKD hml hmx hr hu hs hos hfi hq e
    go_enter Tryz.func7, Tryz.ntmps7
    go_wp2_with fail
    refine HCF.out.mono ?_
    rintro e w1 ⟨rfl, hb1⟩
    have HB1 := Lib.hid hb1
    clear hb1
    go_wp2_with fail
    go_returns
    exact no_bounds HB1.out
  have hm0 : ((m : Int) == 0) = false := by simpa using hm
  have hmi : ¬ (m : Int) = 0 := by omega
  obtain ⟨⟨q, kk⟩, hqk⟩ : ∃ x, kindF l ops = x := ⟨_, rfl⟩
  rw [hqk] at HKD
  by_cases h0 : q = 0
  rotate_left
  · have e : boundsF l ops = (q, [], []) := by
      unfold boundsF
      rw [if_neg (by omega), hqk, if_pos h0]
    rw [e]
    have h0' : (q != 0) = true := by simpa using h0
    have hb0 : (q == 0) = false := by simpa using h0
    clear hml hmx hr hu hs hos hfi hq e hqk
    go_enter Tryz.func7, Tryz.ntmps7
    go_wp2_with fail
    refine HCF.out.mono ?_
    rintro e w1 ⟨rfl, hb1⟩
    have HB1 := Lib.hid hb1
    clear hb1
    go_wp2_with fail
    refine (HKD.out _ HB1.out).mono ?_
    rintro e w2 ⟨rfl, hb2⟩
    have HB2 := Lib.hid (into HB1.out hb2)
    clear hb2
    go_wp2_with fail
    go_returns
    exact no_bounds HB2.out
  subst h0
  by_cases hkk : kk = 1 ∨ kk = 0
  rotate_left
  · have e : boundsF l ops = (4, [], []) := by
      unfold boundsF
      rw [if_neg (by omega), hqk, if_neg (by simp), if_pos hkk]
    rw [e]
    have n1 : (kk != 1) = true := by simp; omega
    have n0 : (kk != 0) = true := by simp; omega
    have n1' : (kk == 1) = false := by simp; omega
    have n0' : (kk == 0) = false := by simp; omega
    clear hml hmx hr hu hs hos hfi hq e hqk
    go_enter Tryz.func7, Tryz.ntmps7
    go_wp2_with fail
    refine HCF.out.mono ?_
    rintro e w1 ⟨rfl, hb1⟩
    have HB1 := Lib.hid hb1
    clear hb1
    go_wp2_with fail
    refine (HKD.out _ HB1.out).mono ?_
    rintro e w2 ⟨rfl, hb2⟩
    have HB2 := Lib.hid (into HB1.out hb2)
    clear hb2
    go_wp2_with fail
    go_returns
    exact no_bounds HB2.out
  have hk1 : (kindF l ops).1 = 0 := by rw [hqk]
  have hex := (kind_ok hk1).1
  have hpos := cols_pos (kind_cols hk1)
  have hmem := ex_mem ops 0 (kind_ok hk1).2.1
  obtain ⟨hl40, t, ht, rfl⟩ := expr_tree hex
  have hlf : ∀ o ∈ t.flat, (lfP (l.getD 0 ncq).t o).1 = 0 := fun o ho => leaf_ok (hmem o ho) (hfi o ho)
  rw [bounds_is ht hk1 (by rw [hqk]; exact hkk) hlf]
  have hnl := len_c hr
  obtain ⟨cb, co, ccap, rfl, -, -, hcbw, hccell⟩ := cols_of hr (by omega)
  obtain ⟨cc0, -⟩ := hccell 0 (by omega)
  simp only [Nat.zero_mul, Nat.add_zero] at cc0
  obtain ⟨c, hc⟩ : ∃ c, c = (l.getD 0 ncq).t := ⟨_, rfl⟩
  rw [← hc] at cc0 ⊢
  rw [hml] at hu
  have HMU := Lib.hid (fun (W : World) (h : Below w.heap.size w W) => musts_any t w W _ h ht (by omega) hu)
  have hml2 := mustsT_len t
  have HOK := Lib.hid (mustsT_ok t ht)
  have HLI := Lib.hid (fun (o : Oq) (ho : o ∈ t.flat) (h1 : o.k = 1) => lit_ok (hmem o ho) h1 (hfi o ho))
  obtain ⟨ts, hts⟩ : ∃ ts, ts = mustsT t := ⟨_, rfl⟩
  unfold MustsIs at HMU
  rw [← hts] at hml2 HOK ⊢
  simp only [← hts] at HMU
  obtain ⟨L, hL⟩ : ∃ L, L = ts.length := ⟨_, rfl⟩
  have HL := Lib.hid hL
  have hL1 : 0 < L := by omega
  have hL2 : L ≤ 1000 := by omega
  have hn0 : 0 < n := by omega
  have HT40 := Lib.hid hl40
  rw [hml] at HKD hm0 hmi ⊢
  have e1 : (kk != 1) = true ∨ kk = 1 := by by_cases h : kk = 1 <;> simp [h]
  have hmx2 : t.flat.length ≤ 40 := hl40
  obtain ⟨M, hM⟩ : ∃ M, M = t.flat.length := ⟨_, rfl⟩
  rw [← hM] at HKD hm0 hmi HMU hmx2 ⊢
  clear hml hmx hr hu hs hos hfi hq hqk hk1 hex hpos hmem hlf hccell hnl hts hc hml2 hL hl40 hm ht hM
  go_enter Tryz.func7, Tryz.ntmps7
  go_wp2_with fail
  refine HCF.out.mono ?_
  rintro e w1 ⟨rfl, hb1⟩
  have HB1 := Lib.hid hb1
  clear hb1
  go_wp2_with fail
  refine (HKD.out _ HB1.out).mono ?_
  rintro e w2 ⟨rfl, hb2⟩
  have HB2 := Lib.hid (into HB1.out hb2)
  clear hb2
  rcases hkk with rfl | rfl
  all_goals (
    go_wp2_with fail
    refine (HMU.out _ HB2.out).mono ?_
    rintro e w3 ⟨v3, vs, rfl, hown3, hmr3, hb3⟩
    have hvl := hmr3.len
    rw [← HL.out] at hvl
    rw [hvl] at hown3
    obtain ⟨b3, o3, cap3, rfl, hca, hcb, hblt, hcells⟩ := (Rd.own hown3).pos hL1 (by omega)
    have HMR := Lib.hid hmr3
    have HC3 := Lib.hid hcells
    have HB3 := Lib.hid (into HB2.out hb3)
    have cc3 := cell_blz HB3.out cc0
    clear hown3 hmr3 hcells hb3 hvl
    go_wp2_with fail
    go_loopw [9, 10, 12] (fun lo hi i wr => ∃ (k : Nat) (xa : Option Addr) (xn xc : Nat) (ya : Option Addr) (yn yc : Nat), lo = .slice xa xn xc ∧ hi = .slice ya yn yc ∧ k ≤ L ∧ i = .int .i64 (k : Int) ∧ Hid (Rt wr ⟨xa, xn, xc⟩ (loL c (ts.take k))) ∧ Hid (Rt wr ⟨ya, yn, yc⟩ (hiL c (ts.take k))) ∧ Hid (Below w3.heap.size w3 wr)) (fun _ _ i _ => L - (intOf i).toNat)
    case atStart => exact ⟨0, none, 0, 0, none, 0, 0, rfl, rfl, by omega, rfl, Rt.nil _, Rt.nil _, Below.refl _ _⟩
    case round =>
      obtain ⟨k, xa, xn, xc, ya, yn, yc, rfl, rfl, hk, rfl, HX, HY, HB⟩ := hrel
      by_cases hlt : k < L
      · obtain ⟨s, hs⟩ : ∃ s, ts[k]? = some s := ⟨ts[k]'(by rw [← HL.out]; exact hlt), List.getElem?_eq_getElem _⟩
        obtain ⟨rv, hrv, hrd⟩ := HMR.out.at k s hs
        have hgc := cell_blz HB.out (HC3.out k rv hrv)
        have hcc := cell_blz HB.out cc3
        obtain ⟨hsok, hsl, hsm⟩ := HOK.out s (List.mem_of_getElem? hs)
        have HBW := Lib.hid (into HB3.out HB.out)
        have HSD := Lib.hid (fun (W : World) (h : Below wr.heap.size wr W) => side_any W rv c s hsok (by have := HT40.out; omega) (hrd.below (into HBW.out h)))
        obtain ⟨a, ha⟩ : ∃ a, a = loL c (ts.take k) := ⟨_, rfl⟩
        obtain ⟨b, hb⟩ : ∃ b, b = hiL c (ts.take k) := ⟨_, rfl⟩
        have hlo := loL_step c ts k s hs
        have hhi := hiL_step c ts k s hs
        have hla : a.length ≤ 100 := by rw [ha]; exact lo_small c _ [] (by simp)
        have hlb : b.length ≤ 100 := by rw [hb]; exact hi_small c _ [] (by simp)
        rw [← ha] at HX hlo
        rw [← hb] at HY hhi
        have hof := side_of c s
        have hyl := HY.out.len.1
        have HYL : Hid (yn = b.length) := Lib.hid hyl
        obtain ⟨r, hr⟩ : ∃ r, r = sideT c s := ⟨_, rfl⟩
        rw [← hr] at HSD hof
        have HR := Lib.hid hr.symm
        have HLA := Lib.hid (And.intro hla hlb)
        have HLO := Lib.hid hlo
        have HHI := Lib.hid hhi
        have HOF := Lib.hid (fun d v h => And.intro (by obtain ⟨⟨o, h1, h2, h3⟩, _⟩ := hof d v h; rw [h3]; exact HLI.out o (hsm o h1) h2) (hof d v h).2 : ∀ d v, r = some (d, v) → Ok v ∧ (d = 0 ∨ d = 1 ∨ d = -1))
        clear hs hrv hrd hsok hsl hsm ha hb hlo hhi hla hlb hof hyl hr
        go_wp2_with fail
        change Code.wp _ ((regionOf 17 (Tryz.f7.body.getD .skip)).getD .skip) _ _ _
        refine r17 _ _ _ _ _ _ _ _ _ _ _ _ _ _ _ _ _ _ _ _ _ _ _ _ _ _ _ _ _ _ _ _ _ _ _ _ _ _ _ _ _ _ _ _ _ _ _ _ _ _ _ _ _ _ _ _ _ _ _ _ _ _ _ _ _ _ _ _ _ _ _ _ _ _ _ _ _ _ _ _ _ _ _ _ _ _ _ _ _ _ _ _ _ _ _ _ wr cb co n ccap b3 o3 L cap3 k c rv r hn0 hlt hL2 hcc hgc HSD ?_
        refine Lib.hid ?_
        intro u53 u54 u55 u56 u57 u58 u59 u60 u61 u62 u63 u64 u65 P w5 hb5 hP1 hP2 hbox
        have HB5 := Lib.hid hb5
        have HBX := Lib.hid hbox
        clear hb5 hbox
        cases r with
        | none =>
          go_wp2_with fail
          go_roundw
          case rel =>
            refine ⟨k + 1, _, _, _, _, _, _, rfl, rfl, by omega, by go_num, ?_, ?_, into HB.out HB5.out⟩
            · rw [HLO.out, loS_none HR.out]; exact HX.out.below HB5.out
            · rw [HHI.out, hiS_none HR.out]; exact HY.out.below HB5.out
          case measure => simp [intOf] <;> omega
        | some q =>
          obtain ⟨d, vk, vn, vt⟩ := q
          simp only [sd, Option.getD_some] at HBX ⊢
          obtain ⟨hok, hd⟩ := HOF.out _ _ rfl
          obtain ⟨q0, q1, q2, -, -, -⟩ := box3 HBX.out
          have q0 : w5.cell? ⟨P, 0, none⟩ = some (.int .i64 vk) := q0
          have q1 : w5.cell? ⟨P, 1, none⟩ = some (.int .i64 vn) := q1
          have q2 : w5.cell? ⟨P, 2, none⟩ = some (.string vt) := q2
          have HKB := Lib.hid (cd.kb_any 1 _ [⟨vk, vn, vt⟩] (w5.alloc (.cells #[.int .i64 vk, .int .i64 vn, .string vt] 43)) (fun v hv => by rw [List.mem_singleton.1 hv]; exact hok.2) (Rd.own (World.ownsRow_lit (base := w5.heap.size) w5 #[.int .i64 vk, .int .i64 vn, .string vt] 1 (Nat.le_refl _) (by unfold maxLen; omega) rfl)))
          obtain ⟨key, hkey⟩ : ∃ key, key = (enc [(⟨vk, vn, vt⟩ : V)]).1 := ⟨_, rfl⟩
          have hkp := enc_pos hok
          have hkl := enc_len [(⟨vk, vn, vt⟩ : V)]
          have HLO2 := Lib.hid (HLO.out.trans (loS_some HR.out a))
          have HHI2 := Lib.hid (HHI.out.trans (hiS_some HR.out b))
          rw [← hkey] at HKB hkp hkl HLO2 HHI2
          clear HLO HHI
          have HLO := HLO2
          have HHI := HHI2
          have HKP := Lib.hid hkp
          have HKL := Lib.hid hkl
          clear HLO2 HHI2 hkp hkl hkey hok HOF HR
          have HBA := Lib.hid (into HB5.out ((Below.refl _ w5).alloc (Nat.le_refl _) (.cells #[.int .i64 vk, .int .i64 vn, .string vt] 43)))
          go_wp2_with fail
          refine HKB.out.mono ?_
          rintro e w6 ⟨v6, rfl, hown6, hb6⟩
          obtain ⟨⟨za, zn, zc⟩, hzv, hz⟩ := Rt.own hown6
          have hzv : v6 = .slice za zn zc := hzv
          subst hzv
          have HZ := Lib.hid hz
          have HB6 := Lib.hid (into HBA.out hb6)
          have HX6 := Lib.hid (HX.out.below HB6.out)
          have HY6 := Lib.hid (HY.out.below HB6.out)
          clear hown6 hz hb6 q0 q1 q2 HKB
          rcases hd with rfl | rfl | rfl
          · rcases hbl : bl a key with _ | _
            · have HBL := Lib.hid hbl
              clear hbl
              go_wp2_with fail
              refine (bef_any _ ⟨xa, xn, xc⟩ ⟨za, zn, zc⟩ a key HX6.out HZ.out).mono ?_
              rintro e w7 ⟨rfl, rfl⟩
              rw [HBL.out]
              by_cases hyn : yn = 0
              · have hyi : (yn : Int) = 0 := by omega
                go_wp2_with fail
                refine (bcopy_any _ ⟨za, zn, zc⟩ key HZ.out (by have := HKL.out; omega)).mono ?_
                rintro e w7 ⟨⟨ya2, yn2, yc2⟩, rfl, hy7, hb7⟩
                have HY7 := Lib.hid hy7
                have HB7 := Lib.hid hb7
                clear hy7 hb7
                go_wp2_with fail
                go_roundw
                case rel =>
                  refine ⟨k + 1, _, _, _, _, _, _, rfl, rfl, by omega, by go_num, ?_, ?_, into HB.out (into HB6.out HB7.out)⟩
                  · rw [HLO.out, if_pos (by omega), show loW a key = a from by unfold loW; rw [HBL.out]; rfl]; exact (HX6.out).below HB7.out
                  · rw [HHI.out, if_pos (by omega), show hiW b key = key from if_pos (.inl (by have := HYL.out; omega))]; exact HY7.out
                case measure => simp [intOf] <;> omega
              · have hyi : ¬ (yn : Int) = 0 := by omega
                have hyb : ((yn : Int) == 0) = false := by simpa using hyn
                rcases hbh : bl key b with _ | _
                · have HBH := Lib.hid hbh
                  clear hbh
                  go_wp2_with fail
                  refine (bef_any _ ⟨za, zn, zc⟩ ⟨ya, yn, yc⟩ key b HZ.out HY6.out).mono ?_
                  rintro e w7 ⟨rfl, rfl⟩
                  rw [HBH.out]
                  go_wp2_with fail
                  go_roundw
                  case rel =>
                    refine ⟨k + 1, _, _, _, _, _, _, rfl, rfl, by omega, by go_num, ?_, ?_, into HB.out HB6.out⟩
                    · rw [HLO.out, if_pos (by omega), show loW a key = a from by unfold loW; rw [HBL.out]; rfl]; exact HX6.out
                    · rw [HHI.out, if_pos (by omega), show hiW b key = b from if_neg (by rintro (h | h); exact absurd h (by have := HYL.out; omega); rw [HBH.out] at h; exact absurd h.2 (by simp))]; exact HY6.out
                  case measure => simp [intOf] <;> omega
                · have HBH := Lib.hid hbh
                  clear hbh
                  go_wp2_with fail
                  refine (bef_any _ ⟨za, zn, zc⟩ ⟨ya, yn, yc⟩ key b HZ.out HY6.out).mono ?_
                  rintro e w7 ⟨rfl, rfl⟩
                  rw [HBH.out]
                  go_wp2_with fail
                  refine (bcopy_any _ ⟨za, zn, zc⟩ key HZ.out (by have := HKL.out; omega)).mono ?_
                  rintro e w7 ⟨⟨ya2, yn2, yc2⟩, rfl, hy7, hb7⟩
                  have HY7 := Lib.hid hy7
                  have HB7 := Lib.hid hb7
                  clear hy7 hb7
                  go_wp2_with fail
                  go_roundw
                  case rel =>
                    refine ⟨k + 1, _, _, _, _, _, _, rfl, rfl, by omega, by go_num, ?_, ?_, into HB.out (into HB6.out HB7.out)⟩
                    · rw [HLO.out, if_pos (by omega), show loW a key = a from by unfold loW; rw [HBL.out]; rfl]; exact (HX6.out).below HB7.out
                    · rw [HHI.out, if_pos (by omega), show hiW b key = key from if_pos (.inr ⟨HKP.out, HBH.out⟩)]; exact HY7.out
                  case measure => simp [intOf] <;> omega
            · have HBL := Lib.hid hbl
              clear hbl
              go_wp2_with fail
              refine (bef_any _ ⟨xa, xn, xc⟩ ⟨za, zn, zc⟩ a key HX6.out HZ.out).mono ?_
              rintro e w7 ⟨rfl, rfl⟩
              rw [HBL.out]
              by_cases hyn : yn = 0
              · have hyi : (yn : Int) = 0 := by omega
                go_wp2_with fail
                refine (bcopy_any _ ⟨za, zn, zc⟩ key HZ.out (by have := HKL.out; omega)).mono ?_
                rintro e w7 ⟨⟨ya2, yn2, yc2⟩, rfl, hy7, hb7⟩
                have HY7 := Lib.hid hy7
                have HB7 := Lib.hid hb7
                clear hy7 hb7
                go_wp2_with fail
                go_roundw
                case rel =>
                  refine ⟨k + 1, _, _, _, _, _, _, rfl, rfl, by omega, by go_num, ?_, ?_, into HB.out (into HB6.out HB7.out)⟩
                  · rw [HLO.out, if_pos (by omega), show loW a key = key from by unfold loW; rw [HBL.out]; rfl]; exact (HZ.out).below HB7.out
                  · rw [HHI.out, if_pos (by omega), show hiW b key = key from if_pos (.inl (by have := HYL.out; omega))]; exact HY7.out
                case measure => simp [intOf] <;> omega
              · have hyi : ¬ (yn : Int) = 0 := by omega
                have hyb : ((yn : Int) == 0) = false := by simpa using hyn
                rcases hbh : bl key b with _ | _
                · have HBH := Lib.hid hbh
                  clear hbh
                  go_wp2_with fail
                  refine (bef_any _ ⟨za, zn, zc⟩ ⟨ya, yn, yc⟩ key b HZ.out HY6.out).mono ?_
                  rintro e w7 ⟨rfl, rfl⟩
                  rw [HBH.out]
                  go_wp2_with fail
                  go_roundw
                  case rel =>
                    refine ⟨k + 1, _, _, _, _, _, _, rfl, rfl, by omega, by go_num, ?_, ?_, into HB.out HB6.out⟩
                    · rw [HLO.out, if_pos (by omega), show loW a key = key from by unfold loW; rw [HBL.out]; rfl]; exact HZ.out
                    · rw [HHI.out, if_pos (by omega), show hiW b key = b from if_neg (by rintro (h | h); exact absurd h (by have := HYL.out; omega); rw [HBH.out] at h; exact absurd h.2 (by simp))]; exact HY6.out
                  case measure => simp [intOf] <;> omega
                · have HBH := Lib.hid hbh
                  clear hbh
                  go_wp2_with fail
                  refine (bef_any _ ⟨za, zn, zc⟩ ⟨ya, yn, yc⟩ key b HZ.out HY6.out).mono ?_
                  rintro e w7 ⟨rfl, rfl⟩
                  rw [HBH.out]
                  go_wp2_with fail
                  refine (bcopy_any _ ⟨za, zn, zc⟩ key HZ.out (by have := HKL.out; omega)).mono ?_
                  rintro e w7 ⟨⟨ya2, yn2, yc2⟩, rfl, hy7, hb7⟩
                  have HY7 := Lib.hid hy7
                  have HB7 := Lib.hid hb7
                  clear hy7 hb7
                  go_wp2_with fail
                  go_roundw
                  case rel =>
                    refine ⟨k + 1, _, _, _, _, _, _, rfl, rfl, by omega, by go_num, ?_, ?_, into HB.out (into HB6.out HB7.out)⟩
                    · rw [HLO.out, if_pos (by omega), show loW a key = key from by unfold loW; rw [HBL.out]; rfl]; exact (HZ.out).below HB7.out
                    · rw [HHI.out, if_pos (by omega), show hiW b key = key from if_pos (.inr ⟨HKP.out, HBH.out⟩)]; exact HY7.out
                  case measure => simp [intOf] <;> omega
          · have HLOk : True := trivial
            by_cases hyn : yn = 0
            · have hyi : (yn : Int) = 0 := by omega
              go_wp2_with fail
              refine (bcopy_any _ ⟨za, zn, zc⟩ key HZ.out (by have := HKL.out; omega)).mono ?_
              rintro e w7 ⟨⟨ya2, yn2, yc2⟩, rfl, hy7, hb7⟩
              have HY7 := Lib.hid hy7
              have HB7 := Lib.hid hb7
              clear hy7 hb7
              go_wp2_with fail
              go_roundw
              case rel =>
                refine ⟨k + 1, _, _, _, _, _, _, rfl, rfl, by omega, by go_num, ?_, ?_, into HB.out (into HB6.out HB7.out)⟩
                · rw [HLO.out, if_neg (by omega)]; exact (HX6.out).below HB7.out
                · rw [HHI.out, if_pos (by omega), show hiW b key = key from if_pos (.inl (by have := HYL.out; omega))]; exact HY7.out
              case measure => simp [intOf] <;> omega
            · have hyi : ¬ (yn : Int) = 0 := by omega
              have hyb : ((yn : Int) == 0) = false := by simpa using hyn
              rcases hbh : bl key b with _ | _
              · have HBH := Lib.hid hbh
                clear hbh
                go_wp2_with fail
                refine (bef_any _ ⟨za, zn, zc⟩ ⟨ya, yn, yc⟩ key b HZ.out HY6.out).mono ?_
                rintro e w7 ⟨rfl, rfl⟩
                rw [HBH.out]
                go_wp2_with fail
                go_roundw
                case rel =>
                  refine ⟨k + 1, _, _, _, _, _, _, rfl, rfl, by omega, by go_num, ?_, ?_, into HB.out HB6.out⟩
                  · rw [HLO.out, if_neg (by omega)]; exact HX6.out
                  · rw [HHI.out, if_pos (by omega), show hiW b key = b from if_neg (by rintro (h | h); exact absurd h (by have := HYL.out; omega); rw [HBH.out] at h; exact absurd h.2 (by simp))]; exact HY6.out
                case measure => simp [intOf] <;> omega
              · have HBH := Lib.hid hbh
                clear hbh
                go_wp2_with fail
                refine (bef_any _ ⟨za, zn, zc⟩ ⟨ya, yn, yc⟩ key b HZ.out HY6.out).mono ?_
                rintro e w7 ⟨rfl, rfl⟩
                rw [HBH.out]
                go_wp2_with fail
                refine (bcopy_any _ ⟨za, zn, zc⟩ key HZ.out (by have := HKL.out; omega)).mono ?_
                rintro e w7 ⟨⟨ya2, yn2, yc2⟩, rfl, hy7, hb7⟩
                have HY7 := Lib.hid hy7
                have HB7 := Lib.hid hb7
                clear hy7 hb7
                go_wp2_with fail
                go_roundw
                case rel =>
                  refine ⟨k + 1, _, _, _, _, _, _, rfl, rfl, by omega, by go_num, ?_, ?_, into HB.out (into HB6.out HB7.out)⟩
                  · rw [HLO.out, if_neg (by omega)]; exact (HX6.out).below HB7.out
                  · rw [HHI.out, if_pos (by omega), show hiW b key = key from if_pos (.inr ⟨HKP.out, HBH.out⟩)]; exact HY7.out
                case measure => simp [intOf] <;> omega
          · rcases hbl : bl a key with _ | _
            · have HBL := Lib.hid hbl
              clear hbl
              go_wp2_with fail
              refine (bef_any _ ⟨xa, xn, xc⟩ ⟨za, zn, zc⟩ a key HX6.out HZ.out).mono ?_
              rintro e w7 ⟨rfl, rfl⟩
              rw [HBL.out]
              go_wp2_with fail
              go_roundw
              case rel =>
                refine ⟨k + 1, _, _, _, _, _, _, rfl, rfl, by omega, by go_num, ?_, ?_, into HB.out HB6.out⟩
                · rw [HLO.out, if_pos (by omega), show loW a key = a from by unfold loW; rw [HBL.out]; rfl]; exact HX6.out
                · rw [HHI.out, if_neg (by omega)]; exact HY6.out
              case measure => simp [intOf] <;> omega
            · have HBL := Lib.hid hbl
              clear hbl
              go_wp2_with fail
              refine (bef_any _ ⟨xa, xn, xc⟩ ⟨za, zn, zc⟩ a key HX6.out HZ.out).mono ?_
              rintro e w7 ⟨rfl, rfl⟩
              rw [HBL.out]
              go_wp2_with fail
              go_roundw
              case rel =>
                refine ⟨k + 1, _, _, _, _, _, _, rfl, rfl, by omega, by go_num, ?_, ?_, into HB.out HB6.out⟩
                · rw [HLO.out, if_pos (by omega), show loW a key = key from by unfold loW; rw [HBL.out]; rfl]; exact HZ.out
                · rw [HHI.out, if_neg (by omega)]; exact HY6.out
              case measure => simp [intOf] <;> omega
      · obtain rfl : k = L := by omega
        have e : ts.take k = ts := List.take_of_length_le (by rw [← HL.out]; exact Nat.le_refl _)
        have HXe := HX.out
        have HYe := HY.out
        rw [e] at HXe HYe
        have HX2 := Lib.hid HXe
        have HY2 := Lib.hid HYe
        clear HXe HYe e
        go_wp2_with fail
        go_returns
        exact ⟨⟨xa, xn, xc⟩, ⟨ya, yn, yc⟩, rfl, HX2.out, HY2.out, into HB3.out HB.out⟩)
end Go.Proofs.YtmfkdpfcpdmkdaaGreatDoor.bd
/- Five arguments; six. -/
namespace Go.Proofs.YtmfkdpfcpdmkdaaGreatDoor
open Go.ChangeShapes Go.WideShapes Go.ChangeAt Go.RowKit
set_option linter.unusedVariables false
section
variable {H : Type} {enc : TypeId × Value → H} {P : Program} {w : World} {base : Nat} {spare : Nat → Bool} {held : Bool}
theorem trodAll_five {t0 t1 t2 t3 t4 : TypeId} {args : Array Value} {ds : List (DataW H)} {ps : List MemPlace} (h : DataW.TrodAll enc P w base spare held [t0, t1, t2, t3, t4] args.toList ds ps) :
    ∃ v0 v1 v2 v3 v4 d0 d1 d2 d3 d4 p0 p1 p2 p3 p4, args = #[v0, v1, v2, v3, v4] ∧ ds = [d0, d1, d2, d3, d4] ∧ ps = p0 ++ p1 ++ p2 ++ p3 ++ p4 ∧ DataW.Trod enc P w base spare held t0 v0 d0 p0 ∧ DataW.Trod enc P w base spare held t1 v1 d1 p1 ∧ DataW.Trod enc P w base spare held t2 v2 d2 p2 ∧ DataW.Trod enc P w base spare held t3 v3 d3 p3 ∧ DataW.Trod enc P w base spare held t4 v4 d4 p4 := by
  obtain ⟨v0, vs0, d0, ds0, p0, q0, hargs, rfl, rfl, h0, hrest⟩ := trodAll_cons h
  obtain ⟨v1, vs1, d1, ds1, p1, q1, rfl, rfl, rfl, h1, hrest⟩ := trodAll_cons hrest
  obtain ⟨v2, vs2, d2, ds2, p2, q2, rfl, rfl, rfl, h2, hrest⟩ := trodAll_cons hrest
  obtain ⟨v3, vs3, d3, ds3, p3, q3, rfl, rfl, rfl, h3, hrest⟩ := trodAll_cons hrest
  obtain ⟨v4, vs4, d4, ds4, p4, q4, rfl, rfl, rfl, h4, hrest⟩ := trodAll_cons hrest
  obtain ⟨rfl, rfl, rfl⟩ := trodAll_nil hrest
  exact ⟨v0, v1, v2, v3, v4, d0, d1, d2, d3, d4, p0, p1, p2, p3, p4, by cases args; simp_all, rfl, by simp, h0, h1, h2, h3, h4⟩
theorem trodAll_six {t0 t1 t2 t3 t4 t5 : TypeId} {args : Array Value} {ds : List (DataW H)} {ps : List MemPlace} (h : DataW.TrodAll enc P w base spare held [t0, t1, t2, t3, t4, t5] args.toList ds ps) :
    ∃ v0 v1 v2 v3 v4 v5 d0 d1 d2 d3 d4 d5 p0 p1 p2 p3 p4 p5, args = #[v0, v1, v2, v3, v4, v5] ∧ ds = [d0, d1, d2, d3, d4, d5] ∧ ps = p0 ++ p1 ++ p2 ++ p3 ++ p4 ++ p5 ∧ DataW.Trod enc P w base spare held t0 v0 d0 p0 ∧ DataW.Trod enc P w base spare held t1 v1 d1 p1 ∧ DataW.Trod enc P w base spare held t2 v2 d2 p2 ∧ DataW.Trod enc P w base spare held t3 v3 d3 p3 ∧ DataW.Trod enc P w base spare held t4 v4 d4 p4 ∧ DataW.Trod enc P w base spare held t5 v5 d5 p5 := by
  obtain ⟨v0, vs0, d0, ds0, p0, q0, hargs, rfl, rfl, h0, hrest⟩ := trodAll_cons h
  obtain ⟨v1, vs1, d1, ds1, p1, q1, rfl, rfl, rfl, h1, hrest⟩ := trodAll_cons hrest
  obtain ⟨v2, vs2, d2, ds2, p2, q2, rfl, rfl, rfl, h2, hrest⟩ := trodAll_cons hrest
  obtain ⟨v3, vs3, d3, ds3, p3, q3, rfl, rfl, rfl, h3, hrest⟩ := trodAll_cons hrest
  obtain ⟨v4, vs4, d4, ds4, p4, q4, rfl, rfl, rfl, h4, hrest⟩ := trodAll_cons hrest
  obtain ⟨v5, vs5, d5, ds5, p5, q5, rfl, rfl, rfl, h5, hrest⟩ := trodAll_cons hrest
  obtain ⟨rfl, rfl, rfl⟩ := trodAll_nil hrest
  exact ⟨v0, v1, v2, v3, v4, v5, d0, d1, d2, d3, d4, d5, p0, p1, p2, p3, p4, p5, by cases args; simp_all, rfl, by simp, h0, h1, h2, h3, h4, h5⟩
end
end Go.Proofs.YtmfkdpfcpdmkdaaGreatDoor

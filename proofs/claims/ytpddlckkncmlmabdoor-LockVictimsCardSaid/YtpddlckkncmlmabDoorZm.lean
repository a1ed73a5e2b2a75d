/- Whom one waits for in the end: the program's search. -/
import Derived.Test.YtpddlckkncmlmabDoorZh
import Derived.Test.YtpddlckkncmlmabDoorZe
import Derived.Maps.OwnSet
import Derived.Deep.DeepCutAuto
namespace Go.Proofs.YtpddlckkncmlmabDoor
open Go.ChangeShapes Go.WideShapes Go.ChangeAt Go.RowKit
set_option linter.unusedVariables false
set_option linter.unusedSimpArgs false
set_option maxHeartbeats 4000000
set_option maxRecDepth 100000
/-- The set of the numbers of a list. -/
def MS (D : List Int) : DataW Unit := Maps.setOf (.agg []) (D.map (Lit.int .i64))
theorem MS_nil : MS [] = .map [] := rfl
theorem MS_snoc (D : List Int) (x : Int) : (MS D).put (.int .i64 x) (.agg []) = MS (D ++ [x]) := by
  unfold MS
  rw [List.map_append]
  exact (Maps.setOf_snoc _ _ _).symm
theorem any_key (x : Int) : ∀ l : List Int, l.any ((fun y : Lit => y.sameKey (.int .i64 x)) ∘ Lit.int .i64) = decide (x ∈ l)
  | [] => rfl
  | a :: r => by
    rw [List.any_cons, any_key x r]
    show (decide (IntKind.i64 = IntKind.i64 ∧ a = x) || decide (x ∈ r)) = decide (x ∈ a :: r)
    by_cases e : a = x
    · subst e
      simp
    · have e' : ¬ x = a := fun h => e h.symm
      simp [e, e']
theorem has_MS (D : List Int) (x : Int) : Maps.has (MS D) (.int .i64 x) = decide (x ∈ D) := by
  unfold MS
  rw [Maps.has_setOf _ _ _ (fun y hy => by obtain ⟨_, _, rfl⟩ := List.mem_map.1 hy; trivial), List.any_map]
  exact any_key x D
theorem int_law : Maps.Keyed Tryd.prog 3 := Maps.int_keyed Tryd.underlying3
theorem unit_zero (w : World) : (zeroValue 43).run Tryd.prog w = .ok (.agg #[]) w := by kernel_rfl
abbrev OM (w : World) (M n : Nat) (D : DataW Unit) : Prop := w.ownsMap Tryd.prog 3 unitElem M n D
theorem rel_at {H l : List Lk} (hok : Okl H l) {a : Int} (h : ¬ idx (ofB a) l < 0) : (idx (ofB a) l).toNat < l.length ∧ ∀ b, Rel H l a b ↔ b ∈ wRow H l (idx (ofB a) l).toNat := by
  obtain ⟨hi, hp⟩ := idx_at h
  have e2 : (l[(idx (ofB a) l).toNat]'hi).t = a := by
    have h3 : ((l[(idx (ofB a) l).toNat]'hi).t == a) = true := hp
    exact beq_iff_eq.1 h3
  refine ⟨hi, fun b => ⟨fun ⟨k, hk, e1, hb⟩ => ?_, fun hb => ⟨_, hi, by rw [gd hi]; exact e2, hb⟩⟩⟩
  have : k = (idx (ofB a) l).toNat := place_one hok.qp hk hi (by rw [e1, gd hi, e2])
  rw [← this]
  exact hb
theorem rel_no {H l : List Lk} {a : Int} (h : idx (ofB a) l < 0) : ∀ b, ¬ Rel H l a b := by
  rintro b ⟨k, hk, e1, _⟩
  have := idx_lt h (l.getD k nlk) (by rw [gd hk]; exact List.getElem_mem hk)
  unfold ofB at this
  rw [e1] at this
  simp at this
theorem left_le (U D : List Int) : left U D ≤ U.length := List.length_filter_le _ _
/-- All that anybody waits for. -/
def allW (H l : List Lk) : List Int := (wRows H l).flatten
theorem row_all {H l : List Lk} {i : Nat} (hi : i < l.length) {b : Int} (hb : b ∈ wRow H l i) : b ∈ allW H l := by
  unfold allW wRows
  rw [List.mem_flatten]
  exact ⟨wRow H l i, List.mem_map.2 ⟨i, List.mem_range.2 hi, rfl⟩, hb⟩
theorem row_len {H l : List Lk} (hok : Okl H l) (i : Nat) : (wRow H l i).length ≤ 400 := by
  have e1 := Lib.compact_length_le (srtL (wts H (l.take i) (l.getD i nlk)))
  rw [srtL_len] at e1
  have e2 := wts_len H (l.take i) (l.getD i nlk)
  have e3 : (l.take i).length ≤ l.length := by rw [List.length_take]; omega
  have := hok.few
  unfold wRow onceL
  omega
theorem all_len {H l : List Lk} (hok : Okl H l) : (allW H l).length ≤ 80000 := by
  have hfew := hok.few
  have key : ∀ k, (((List.range k).map (wRow H l)).flatten).length ≤ k * 400 := by
    intro k
    induction k with
    | zero => simp
    | succ k ih =>
      rw [List.range_succ, List.map_append, List.flatten_append, List.length_append]
      have := row_len hok k
      simp only [List.map_cons, List.map_nil, List.flatten_cons, List.flatten_nil, List.append_nil]
      omega
  have := key l.length
  unfold allW wRows
  omega
/-- Row i of what Waits answers. -/
theorem rj_at {w : World} {n : Nat} {v : Value} {H l : List Lk} (h : RJ w v (wRows H l)) (hok : Okl H l) (hn : n = l.length) (h0 : 0 < n) :
    ∃ b o c, v = .slice (some ⟨b, o, none⟩) n c ∧ n ≤ c ∧ c ≤ maxLen ∧ b < w.heap.size ∧ ∀ i, i < n → ∃ br os cr, w.cell? ⟨b, o + i, none⟩ = some (.slice (some ⟨br, os, none⟩) (wRow H l i).length cr) ∧ ∀ k, k < (wRow H l i).length → w.cell? ⟨br, os + k, none⟩ = some (.int .i64 ((wRow H l i).getD k 0)) := by
  obtain ⟨vs, g1, g2⟩ := h
  have hl : (wRows H l).length = n := by unfold wRows; rw [List.length_map, List.length_range, hn]
  rw [hl] at g1
  obtain ⟨b, o, cap, he, h1, h2, h3, hc⟩ := g1.pos h0 (by omega)
  refine ⟨b, o, cap, he, h1, h2, h3, fun i hi => ?_⟩
  have hg : (wRows H l)[i]? = some (wRow H l i) := by
    unfold wRows
    rw [List.getElem?_map, List.getElem?_range (by omega)]
    rfl
  obtain ⟨a', c', e1, e2⟩ := g2 i _ hg
  have hp := row_pos hok (i := i) (by omega)
  obtain ⟨br, os, cr, he2, _, _, _, hc2⟩ := e2.pos hp (by omega)
  simp only [Value.slice.injEq] at he2
  exact ⟨br, os, c', by rw [← he2.1]; exact hc i _ e1, fun k hk => hc2 k _ (by simp [ic, List.getD, hk])⟩
theorem Tl.ge {w : World} {B : Nat} {v : Value} {l : List Int} (h : Tl w B v l) : ∀ k, v.ownBlock = some k → B ≤ k := by
  obtain ⟨ao, cap, rfl, h1, h2, h3, h4⟩ := h
  intro k hk
  cases ao with
  | none => cases hk
  | some a =>
    have := (h4 a rfl).2.1
    have e : a.block = k := Option.some.inj hk
    omega
theorem Tl.lt {w : World} {B : Nat} {v : Value} {l : List Int} (h : Tl w B v l) : ∀ k, v.ownBlock = some k → k < w.heap.size := by
  obtain ⟨ao, cap, rfl, h1, h2, h3, h4⟩ := h
  intro k hk
  cases ao with
  | none => cases hk
  | some a =>
    obtain ⟨_, _, cur, e0, hc, _⟩ := h4 a rfl
    have e : a.block = k := Option.some.inj hk
    rw [← e]
    exact (Array.getElem?_eq_some_iff.1 hc).1
theorem Tl.shape {w : World} {B : Nat} {v : Value} {l : List Int} (h : Tl w B v l) : ∃ a c, v = .slice a l.length c := by
  obtain ⟨ao, cap, e, _⟩ := h
  exact ⟨ao, cap, e⟩
/-- The search's state at the head of a round. -/
structure Sr (H l : List Lk) (t : Int) (M : Nat) (w : World) (v8 : Value) (D T : List Int) : Prop where
  tl : Tl w (M + 1) v8 T
  om : OM w M D.length (MS D)
  wf : ∀ x ∈ D, 1 ≤ x ∧ x ≤ 1048576
  tw : ∀ x ∈ T, 1 ≤ x ∧ x ≤ 1048576
  sm : left (allW H l) D + D.length ≤ (allW H l).length
  tn : T.length ≤ D.length + 1
theorem Sr.below {H l : List Lk} {t : Int} {M : Nat} {w w' : World} {v8 : Value} {D T : List Int} (h : Sr H l t M w v8 D T) (hb : Below w.heap.size w w') : Sr H l t M w' v8 D T :=
  ⟨h.tl.below hb, h.om.kept (row := none) ⟨hb.os, hb.tape, hb.output, hb.size, fun k hk _ => hb.block k hk⟩ (by simp), h.wf, h.tw, h.sm, h.tn⟩
def ReachIs (H l : List Lk) (t : Int) (w : World) (e : Ending) (w' : World) : Prop :=
  ∃ (M : Nat) (D : List Int), e = .returned (.map (some M)) ∧ OM w' M D.length (MS D) ∧ (∀ b, b ∈ D ↔ Rch (Rel H l) t b) ∧ Below w.heap.size w w'
theorem reached_any (w : World) (n : Nat) (qv wv : Value) (H l : List Lk) (t : Int) (hr : Rd w 3 n qv (lkc l)) (hj : RJ w wv (wRows H l)) (hok : Okl H l) (ht : 1 ≤ t ∧ t ≤ 1048576) (hn0 : 0 < n) :
    Calls Tryd.prog 14 #[qv, wv, .int .i64 t] w (ReachIs H l t w) := by
  have hln := len_l hr
  have hfew := hok.few
  have hall := all_len hok
  have hmm := @run_makeMap Tryd.prog
  obtain ⟨aq, cq, rfl⟩ := row_shape hr
  obtain ⟨bw, ow, cw, rfl, hnc, hcm, hbw, hrows⟩ := rj_at hj hok hln hn0
  unfold maxLen at hcm
  have hstart : ∀ W0 : World, W0 = (w.alloc (.map #[] 0)).alloc (.cells #[.int .i64 t] 3) → Sr H l t w.heap.size W0 (.slice (some ⟨w.heap.size + 1, 0, none⟩) 1 1) [] [t] := by
    intro W0 h
    subst h
    refine ⟨tl_own (t := 3) ⟨rfl, .inr ⟨w.heap.size + 1, 1, #[.int .i64 t], rfl, Nat.le_refl _, ?_, Nat.le_refl _, by unfold maxLen; omega, by simp, rfl⟩⟩, ?_, by simp, by simpa using ht, left_le _ _, by simp⟩
    · have := new0 (w.alloc (.map #[] 0)) (.cells #[.int .i64 t] 3)
      simpa using this
    · rw [MS_nil]
      exact (World.ownsMap_made _ _ _ _).alloc _
  have HST := Lib.hid hstart
  have HR := Lib.hid hr
  have HROW := Lib.hid hrows
  have HOK := Lib.hid (And.intro hok (And.intro ht (And.intro hln hall)))
  have hn200 : n ≤ 200 := by omega
  clear hstart hr hj hrows hok ht hln hall hfew
  go_enter Tryd.func14, Tryd.ntmps14
  go_wp2
  obtain ⟨W0, hW0⟩ : ∃ W0 : World, W0 = (w.alloc (.map #[] 0)).alloc (.cells #[.int .i64 t] 3) := ⟨_, rfl⟩
  have hb0 : Below w.heap.size w W0 := by rw [hW0]; exact ((Below.refl _ _).alloc (Nat.le_refl _) _).alloc (by simp) _
  have HS0 := Lib.hid (HST.out W0 hW0)
  have HB0 := Lib.hid hb0
  rw [← hW0]
  clear hW0 hb0 HST hmm
  go_loopg [8] (2 * (allW H l).length + 1) (fun g v8 wr => ∃ (D T : List Int), 2 * left (allW H l) D + T.length ≤ g ∧ Hid (Sr H l t w.heap.size wr v8 D T) ∧ Hid (Bfs (Rel H l) t D T) ∧ Hid (Below w.heap.size w wr))
  case atStart => exact ⟨[], [t], by have := left_le (allW H l) []; simp; omega, HS0.out, bfs_start _ _, HB0.out⟩
  case round =>
    obtain ⟨D, T, hg, HS, HBF, HB⟩ := hrel
    obtain ⟨ao, cap8, rfl⟩ := HS.out.tl.shape
    cases T with
    | nil =>
      go_wp2_with fail
      go_ret
      exact ⟨_, D, rfl, HS.out.om, fun b => HBF.out.all b, HB.out⟩
    | cons a T =>
      have hz := HB.out.size
      have htl := HS.out.tl
      have hta := HS.out.tw a (by simp)
      obtain ⟨nT, hnT⟩ : ∃ nT, nT = T.length := ⟨_, rfl⟩
      rw [List.length_cons, ← hnT] at htl
      simp only [List.length_cons]
      rw [← hnT]
      obtain ⟨b8, o8, c8, he8, _, _, _, hc8⟩ := htl.rd.pos (by simp) (by omega)
      simp only [Value.slice.injEq] at he8
      obtain ⟨rfl, -, rfl⟩ := he8
      have hca := hc8 0 (.int .i64 a) (by simp)
      rw [Nat.add_zero] at hca
      obtain ⟨W1, hW1⟩ : ∃ W1 : World, W1 = wr.alloc (.cells #[.int .i64 a] 3) := ⟨_, rfl⟩
      have hb1 : Below wr.heap.size wr W1 := by rw [hW1]; exact (Below.refl _ _).alloc (Nat.le_refl _) _
      have hmk := of_maker wr a
      have hsy := of_says wr a l
      rw [← hW1] at hmk hsy
      have hix := idx_of W1 n _ l (ofB a) wr.heap.size (HR.out.below (into HB.out hb1)) hsy
      obtain ⟨ix, hixx⟩ : ∃ ix, ix = idx (ofB a) l := ⟨_, rfl⟩
      rw [← hixx] at hix
      have HMK := Lib.hid hmk
      have HIX := Lib.hid hix
      have HI := Lib.hid hixx
      have HTL := Lib.hid htl
      have HB1 := Lib.hid hb1
      have HNT := Lib.hid hnT
      have HTA := Lib.hid hta
      have hnT9 : nT ≤ 100000 := by
        have h1 := HS.out.tn
        have h2 := HS.out.sm
        have h3 := HOK.out.2.2.2
        rw [List.length_cons, ← hnT] at h1
        omega
      clear hc8 hmk hsy hix hixx htl hb1 hW1 hnT hta
      go_wp2_with fail
      refine HMK.out.mono ?_
      rintro e w' ⟨rfl, rfl⟩
      go_wp2_with fail
      refine HIX.out.mono ?_
      rintro e w2 ⟨rfl, hb2⟩
      have hbb := into HB1.out hb2
      have HS2 := Lib.hid (HS.out.below hbb)
      have htl2 := HTL.out.below hbb
      obtain ⟨_, _, he9, _, hcm8, _⟩ := id htl2
      simp only [Value.slice.injEq, List.length_cons] at he9
      obtain ⟨-, -, rfl⟩ := he9
      unfold maxLen at hcm8
      have HDR := Lib.hid htl2.drop1
      have HB2 := Lib.hid (into HB.out hbb)
      clear hb2 hbb htl2 hca
      go_upto_region 5 with (fail)
      go_cut [8] (fun s8 wx => Hid (wx = w2) ∧ Hid (Tl w2 (w.heap.size + 1) s8 T))
      case first =>
        by_cases hc1 : cap8 = 1
        · subst hc1
          go_wp2_with fail
          go_meet
          exact ⟨rfl, Lib.hid (by have h := HDR.out; simpa [sliced] using h)⟩
        · have hc2 : ¬ (cap8 : Int) = 1 := by omega
          go_wp2_with fail
          go_meet
          exact ⟨rfl, Lib.hid (by have h := HDR.out; simpa [sliced, hc1, Addr.add_lit] using h)⟩
      obtain ⟨HWC, HTL8⟩ := hcut
      obtain rfl : wc = w2 := HWC.out
      have hsr : Sr H l t w.heap.size wc u8 D T := by
        have h := HS2.out
        have h1 := h.tn
        simp only [List.length_cons] at h1
        exact ⟨HTL8.out, h.om, h.wf, fun x hx => h.tw x (by simp [hx]), h.sm, by omega⟩
      have HSR := Lib.hid hsr
      have hg2 : 2 * left (allW H l) D + T.length < gk := by simp only [List.length_cons] at hg; omega
      clear hsr HS HS2 HTL8 HWC HDR HTL
      by_cases hneg : ix < 0
      · have hno := rel_no (H := H) (by rw [← HI.out]; exact hneg : idx (ofB a) l < 0)
        have hbfs : Bfs (Rel H l) t D T := (HBF.out.mid (row := []) (fun b => ⟨fun h => absurd h (hno b), fun h => by simp at h⟩)).bfs (by simp)
        have HBF2 := Lib.hid hbfs
        clear hno hbfs
        go_wp2_with fail
        go_roundg (2 * left (allW H l) D + T.length)
        case measure => exact hg2
        case rel => exact ⟨D, T, Nat.le_refl _, HSR.out, HBF2.out, HB2.out⟩
      · obtain ⟨hil, hrel2⟩ := rel_at HOK.out.1 (by rw [← HI.out]; exact hneg : ¬ idx (ofB a) l < 0)
        rw [← HI.out] at hil hrel2
        obtain ⟨i, rfl⟩ : ∃ i : Nat, ix = (i : Int) := ⟨ix.toNat, by omega⟩
        simp only [Int.toNat_natCast] at hil hrel2
        have hin : i < n := by rw [HOK.out.2.2.1]; exact hil
        obtain ⟨br, os, cr, hrow, hcells⟩ := HROW.out i hin
        have hmle := row_len HOK.out.1 (i := i)
        have hrin : ∀ x ∈ wRow H l i, (1 ≤ x ∧ x ≤ 1048576) ∧ x ∈ allW H l := fun x hx => ⟨(row_in HOK.out.1 hil hx).2.1, row_all hil hx⟩
        obtain ⟨R, hR⟩ : ∃ R, R = wRow H l i := ⟨_, rfl⟩
        rw [← hR] at hrow hcells hmle hrin hrel2
        obtain ⟨m, hm⟩ : ∃ m, m = R.length := ⟨_, rfl⟩
        rw [← hm] at hrow hcells hmle
        have hmid := HBF.out.mid (row := R) hrel2
        have r0 := cell_of_below HB2.out hrow
        have HC := Lib.hid hcells
        have HRI := Lib.hid hrin
        have HM := Lib.hid hm
        have HMID := Lib.hid hmid
        have hinI : (i : Int) < (n : Int) := by omega
        clear hneg hil hrel2 hin hrow hcells hrin hR hm hmid HBF
        go_wp2_with fail
        clear r0
        go_loopw [8, 35] (fun v8 jv wr => ∃ (j : Nat) (D2 T2 : List Int), j ≤ m ∧ jv = .int .i64 (j : Int) ∧ Hid (Sr H l t w.heap.size wr v8 D2 T2) ∧ Hid (Mid (Rel H l) t a D2 T2 R j) ∧ Hid (2 * left (allW H l) D2 + T2.length < gk) ∧ Hid (Below w.heap.size w wr)) (fun _ jv _ => m - (intOf jv).toNat)
        case atStart => exact ⟨0, D, T, by omega, rfl, HSR.out, HMID.out, hg2, HB2.out⟩
        case round =>
          obtain ⟨j, D2, T2, hj, rfl, HS, HMI, HG, HBX⟩ := hrel
          by_cases hlt : j < m
          · have rc := cell_of_below HBX.out (HC.out j hlt)
            have hjR : j < R.length := by rw [← HM.out]; exact hlt
            have hxin : R.getD j 0 ∈ R := by rw [gd0 hjR]; exact List.getElem_mem hjR
            obtain ⟨hxr, hxU⟩ := HRI.out _ hxin
            have hskip : R.getD j 0 ∈ D2 → Mid (Rel H l) t a D2 T2 R (j + 1) := fun h => HMI.out.skip hjR h
            have hpush := HMI.out.push hjR
            obtain ⟨x, hx⟩ : ∃ x, x = R.getD j 0 := ⟨_, rfl⟩
            rw [← hx] at rc hxr hxU hskip hpush
            have hkey : keyOf Tryd.prog 3 (.int .i64 x) = some (.int .i64 x) := Maps.keyOf_int_mk Tryd.underlying3 (by simp [Lit.wf, IntKind.min, IntKind.max, IntKind.signed, IntKind.bits]; omega)
            have hhas := has_MS D2 x
            have hjI : (j : Int) < (m : Int) := by omega
            have HSK := Lib.hid hskip
            have HPU := Lib.hid hpush
            have HXX := Lib.hid (And.intro hxr hxU)
            have hz := HBX.out.size
            have hzM : w.heap.size < wr.heap.size := HS.out.om.lt
            have hD9 : D2.length < maxLen := by
              have h2 := HS.out.sm
              have h3 := HOK.out.2.2.2
              unfold maxLen
              omega
            have hT9 : T2.length + 1 ≤ 1000000000000 := by
              have h1 := HS.out.tn
              have h2 := HS.out.sm
              have h3 := HOK.out.2.2.2
              omega
            clear hxin hskip hpush hx hxr hxU hjR
            by_cases hin : x ∈ D2
            · rw [decide_eq_true hin] at hhas
              have HIN := Lib.hid hin
              clear hin
              go_wp2_with (at_lookup; refine wpList_lookup_own_unit _ rfl _ _ 45 rfl 3 43 int_law Tryd.underlying45 (unit_zero _) w.heap.size D2.length (MS D2) rfl HS.out.om _ _ rfl hkey ?_)
              go_roundw
              case rel => exact ⟨j + 1, D2, T2, by omega, by go_num, HS.out.below ((Below.refl _ _).alloc (Nat.le_refl _) _), HSK.out HIN.out, HG.out, HBX.out.alloc hz _⟩
              case measure => simp [intOf]; omega
            · rw [decide_eq_false hin] at hhas
              have HIN := Lib.hid hin
              have hs1 : Sr H l t w.heap.size (wr.alloc (.cells #[] 43)) u8 D2 T2 := HS.out.below ((Below.refl _ _).alloc (Nat.le_refl _) _)
              have HS1 := Lib.hid hs1
              have hge : ∀ k, u8.ownBlock = some k → w.heap.size + 1 ≤ k := HS.out.tl.ge
              have HGE := Lib.hid hge
              have hMge : w.heap.size + 1 ≤ wr.heap.size := by omega
              clear hin hs1 hge
              go_wp2_with (first
                | (at_lookup; refine wpList_lookup_own_unit _ rfl _ _ 45 rfl 3 43 int_law Tryd.underlying45 (unit_zero _) w.heap.size D2.length (MS D2) rfl HS.out.om _ _ rfl hkey ?_)
                | (at_mapUpdate; refine wpList_mapUpdate_own _ rfl _ _ _ 45 rfl 3 43 int_law Tryd.underlying45 (unitElem (H := Unit)) w.heap.size D2.length (MS D2) rfl HS1.out.om hD9 _ _ _ rfl rfl hkey _ [] unitElem_mk ?_; intro w4 hown4 hg4; have hz4 := hg4.size; have htl4 := HS1.out.tl.kept hg4 (fun k hk e => by have := HGE.out k hk; have := Option.some.inj e; omega); have HO4 := Lib.hid hown4; have HG4 := Lib.hid hg4; have HT4 := Lib.hid htl4; clear hown4 hg4 htl4)
                | (at_builtin; refine apq w4 rfl _ _ 34 3 Tryd.underlying34 Tryd.info3 rfl HT4.out (by simp at hz4; omega) x hT9 w4.heap.size rfl rfl rfl ?_; intro v5 w5 htl5 hg5 hb5; have HT5 := Lib.hid htl5; have HG5 := Lib.hid hg5; have HE5 := Lib.hid hb5; clear htl5 hg5 hb5))
              have hl := left_push HXX.out.2 HIN.out
              have hsr5 : Sr H l t w.heap.size w5 v5 (D2 ++ [x]) (T2 ++ [x]) := by
                have h1 := HS.out.sm
                have h2 := HS.out.tn
                refine ⟨HT5.out, ?_, fun y hy => ?_, fun y hy => ?_, by rw [List.length_append, List.length_singleton]; omega, by rw [List.length_append, List.length_append]; simp; omega⟩
                · have h := HO4.out
                  rw [MS_snoc] at h
                  rw [List.length_append]
                  exact h.kept HG5.out (fun e => by have := HGE.out _ e.symm; omega)
                · rcases List.mem_append.1 hy with hy | hy
                  · exact HS.out.wf y hy
                  · rw [List.mem_singleton] at hy
                    rw [hy]
                    exact HXX.out.1
                · rcases List.mem_append.1 hy with hy | hy
                  · exact HS.out.tw y hy
                  · rw [List.mem_singleton] at hy
                    rw [hy]
                    exact HXX.out.1
              have hbel : Below w.heap.size w w5 := ((HBX.out.alloc hz _).grown HG4.out (by simp; omega) (fun k hk => by have := Option.some.inj hk; omega)).grown HG5.out (by have := hz4; simp at this; omega) (fun k hk => by have := HGE.out k hk; omega)
              have HSR5 := Lib.hid hsr5
              have HBL5 := Lib.hid hbel
              have HLL := Lib.hid hl
              have HGG : Hid (2 * left (allW H l) (D2 ++ [x]) + (T2 ++ [x]).length < gk) := by
                have := HG.out
                rw [List.length_append]
                show _ < _
                simp only [List.length_singleton]
                omega
              clear hl hsr5 hbel
              go_wp2_with fail
              go_roundw
              case rel => exact ⟨j + 1, D2 ++ [x], T2 ++ [x], by omega, by go_num, HSR5.out, HPU.out, HGG.out, HBL5.out⟩
              case measure => simp [intOf]; omega
          · obtain rfl : j = m := by omega
            have hb := HMI.out.bfs (by rw [← HM.out]; exact Nat.le_refl _)
            have HBF := Lib.hid hb
            clear hb
            go_wp2_with fail
            go_roundg (2 * left (allW H l) D2 + T2.length)
            case measure => exact HG.out
            case rel => exact ⟨D2, T2, Nat.le_refl _, HS.out, HBF.out, HBX.out⟩
end Go.Proofs.YtpddlckkncmlmabDoor

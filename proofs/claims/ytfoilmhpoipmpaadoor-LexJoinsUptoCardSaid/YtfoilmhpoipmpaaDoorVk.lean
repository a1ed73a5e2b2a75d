/- The document's way of joining tokens. -/
import Derived.Test.YtfoilmhpoipmpaaDoorVj
namespace Go.Proofs.YtfoilmhpoipmpaaDoor
open Go.ChangeShapes Go.WideShapes Go.ChangeAt Go.RowKit
set_option linter.unusedVariables false
set_option linter.unusedSimpArgs false
set_option maxHeartbeats 4000000
theorem dbl_app : ∀ (a b : List UInt8), dblT (a ++ b) = dblT a ++ dblT b
  | [], b => rfl
  | c :: a, b => by
    rw [List.cons_append, dblT, dblT, dbl_app a b]
    split <;> simp
theorem dbl_snoc {t : List UInt8} {j : Nat} (h : j < t.length) : dblT (t.take (j + 1)) = dblT (t.take j) ++ (if t[j] = 39 then [39, 39] else [t[j]]) := by
  rw [List.take_succ_eq_append_getElem h, dbl_app]
  congr 1
theorem mk_of' (t : ByteArray) : (⟨t.data.toList.toArray⟩ : ByteArray) = t := str_ext rfl
theorem ne39 {c : UInt8} (h : ¬ c = 39) : ¬ (c.toNat : Int) = 39 := fun e => h (UInt8.toNat_inj.1 (by show c.toNat = 39; omega))
/-- What has been joined, and one token more. -/
theorem size3 (a b : ByteArray) : (a ++ b ++ ⟨#[32]⟩ : ByteArray).size = a.size + b.size + 1 := by rw [ByteArray.size_append, ByteArray.size_append]; rfl
theorem data3 (a b : ByteArray) : (a ++ b ++ ⟨#[32]⟩ : ByteArray).data.toList = a.data.toList ++ b.data.toList ++ [32] := by simp
theorem rjoin_full (w : World) (v : Value) (l : List Tk) (hr : Rd w 3 l.length v (tkc l)) (h : 100 < l.length) :
    Calls Tryd.prog 18 #[v] w fun e w' => e = .returned (.tuple #[.string ⟨(joinL l).1.toArray⟩, .int .i64 (joinL l).2]) ∧ Below w.heap.size w w' := by
  have HJ : Hid (joinL l = ([], 10)) := if_pos h
  obtain ⟨_, ao, cap, rfl, h3, h4, _⟩ := hr
  unfold maxLen at h4
  go_enter Tryd.func18, Tryd.ntmps18
  go_wp2
  go_ret2
  rw [HJ.out]
  exact ⟨rfl, Below.refl _ _⟩
set_option maxRecDepth 10000 in
theorem rjoin_short (w : World) (v : Value) (l : List Tk) (hr : Rd w 3 l.length v (tkc l)) (hs : Sm l) (h : l.length ≤ 100) :
    Calls Tryd.prog 18 #[v] w fun e w' => e = .returned (.tuple #[.string ⟨(joinL l).1.toArray⟩, .int .i64 (joinL l).2]) ∧ Below w.heap.size w w' := by
  have HJ : Hid (joinL l = joinT l []) := if_neg (by omega)
  obtain ⟨n, hn⟩ : ∃ n, n = l.length := ⟨_, rfl⟩
  have hr' := hr
  obtain ⟨_, ao, cap, rfl, h3, h4, _⟩ := hr'
  have HR := Lib.hid hr
  have HSM := Lib.hid hs
  have HN := Lib.hid hn
  rw [← hn] at h3 h ⊢
  clear hr hs h4 hn
  go_enter Tryd.func18, Tryd.ntmps18
  go_wp2
  go_loopw [4, 5] (fun sv i wr => ∃ (k : Nat) (sb : ByteArray), k ≤ n ∧ i = .int .i64 (k : Int) ∧ sv = .string sb ∧ sb.size ≤ 400 ∧ Hid (JoinAt l k sb.data.toList) ∧ Hid (Below w.heap.size w wr)) (fun _ i _ => n - (intOf i).toNat)
  case atStart => exact ⟨0, _, by omega, rfl, rfl, by decide, ⟨by decide, rfl⟩, Below.refl _ _⟩
  case round =>
    obtain ⟨k, sb, hk, rfl, rfl, hac, HA, HBL⟩ := hrel
    have hwz := HBL.out.size
    by_cases hlt : k < n
    · have hkl : k < l.length := by rw [← HN.out]; exact hlt
      obtain ⟨_, b, o, cap', hv, _, _, hbw, hcell⟩ := toks_of HR.out (by omega)
      simp only [Value.slice.injEq] at hv
      obtain ⟨rfl, -, rfl⟩ := hv
      obtain ⟨g1, g2, g3⟩ := hcell k hkl
      have c1 := (HBL.out.cell (p := ⟨b, o + k * 3, none⟩) hbw).trans g1
      have c2 := (HBL.out.cell (p := ⟨b, o + k * 3 + 1, none⟩) hbw).trans g2
      have c3 := (HBL.out.cell (p := ⟨b, o + k * 3 + 2, none⟩) hbw).trans g3
      obtain ⟨x, hx⟩ : ∃ x, x = l.getD k tk0 := ⟨_, rfl⟩
      have hmem : x ∈ l := by rw [hx]; simp [List.getD, List.getElem?_eq_getElem hkl]
      obtain ⟨s1, s2, s3⟩ := HSM.out x hmem
      rw [← hx] at c1 c2 c3
      have HX := Lib.hid hx
      have HKL := Lib.hid hkl
      clear g1 g2 g3 hx hcell hmem hkl
      obtain ⟨xs, hxs⟩ : ∃ xs : ByteArray, xs = ⟨x.t.toArray⟩ := ⟨_, rfl⟩
      have hxd : xs.data.toList = x.t := by rw [hxs]
      have hxz : xs.size ≤ 4000000 := by rw [← len_size, hxd]; exact s1
      rw [← hxs] at c2
      have hch := fun W => tf_any W x.k x.n xs (by unfold maxLen; omega)
      rw [hxd] at hch
      obtain ⟨xk, xt, xn⟩ := x
      simp only at c1 c3 s1 s2 s3 hxd
      have HCH := Lib.hid hch
      have HXT := Lib.hid s1
      have HXD := Lib.hid hxd
      clear hch hxs hxd s1
      go_wp2_with fail
      refine (HCH.out _).mono ?_
      rintro e w1 ⟨rfl, hb1⟩
      obtain ⟨hB1, hz1, hk1⟩ := box_blk hb1
      have HB1 := Lib.hid (into HBL.out hB1)
      have HK1 := Lib.hid hk1
      clear hb1 hB1 hk1 c1 c2 c3
      by_cases hr : tkF xk xt xn = 0
      · have hk1 := HK1.out
        obtain ⟨c1, c2, c3, -, -, -⟩ := box3 hk1
        have HRR := Lib.hid hr
        have hnum := tkF_num hr
        have hsl := spell_len (x := ⟨xk, xt, xn⟩) HXT.out hnum s3
        have HSL := Lib.hid hsl
        have HNUM := Lib.hid hnum
        clear hk1 hnum hr hsl
        rw [HRR.out]
        by_cases h2 : xk = 2
        · subst h2
          have hn0 := HNUM.out rfl
          obtain ⟨m, rfl⟩ : ∃ m : Nat, xn = (m : Int) := ⟨xn.toNat, by omega⟩
          have HD := Lib.hid (rdec_any m (by omega))
          go_wp2_with fail
          refine (HD.out _).mono ?_
          rintro e w2 ⟨rfl, hb2⟩
          have HB2 := Lib.hid (into HB1.out hb2)
          have hz2 := HB2.out.size
          have hk2 := (hb2.block _ (by omega)).trans HK1.out
          clear c1 c2 c3
          obtain ⟨c1, c2, c3, -, -, -⟩ := box3 hk2
          obtain ⟨sp, hsp⟩ : ∃ sp : ByteArray, sp = ⟨(Lib.decDigits m).toArray⟩ := ⟨_, rfl⟩
          have hspd : sp.data.toList = spellT ⟨2, xt, (m : Int)⟩ := by
            rw [hsp]
            unfold spellT Lib.itoa
            rw [if_pos rfl, if_neg (by simp)]
            simp
          have hspz : sp.size ≤ 9000000 := by rw [← len_size, hspd]; exact HSL.out
          rw [← hsp]
          have HSP := Lib.hid hspd
          clear hsp hspd hb2 hk2
          have hsz := size3 sb sp
          have hdt := data3 sb sp
          rw [HSP.out] at hdt
          by_cases h400 : 400 < sb.size + sp.size + 1
          · have HE := Lib.hid (HA.out.long (x := ⟨2, xt, (m : Int)⟩) HKL.out HX.out HRR.out (by rw [← hdt, len_size, hsz]; exact h400))
            have h400I : (400 : Int) < ((sb.size + sp.size + 1 : Nat) : Int) := by omega
            clear hdt hsz
            go_wp2_with fail
            go_ret2
            rw [HJ.out, HE.out]
            exact ⟨rfl, HB2.out⟩
          · have hnx := HA.out.next (x := ⟨2, xt, (m : Int)⟩) HKL.out HX.out HRR.out (by rw [← hdt, len_size, hsz]; exact h400)
            have h400I : ¬ (400 : Int) < ((sb.size + sp.size + 1 : Nat) : Int) := by omega
            rw [← hdt] at hnx
            have HNX := Lib.hid hnx
            clear hdt hnx hsz
            go_wp2_with fail
            go_roundw
            case rel => exact ⟨k + 1, _, by omega, by go_num, rfl, by rw [size3]; omega, HNX.out, HB2.out⟩
            case measure => simp [intOf]; omega
        · by_cases h3 : xk = 3
          · subst h3
            have HZ1 := Lib.hid hz1
            go_wp2_with fail
            go_loopw [9, 10] (fun bv ji wi => ∃ (j : Nat) (ac : List UInt8), j ≤ xs.size ∧ ji = .int .i64 (j : Int) ∧ ac.length ≤ 2 * j ∧ Hid (ac = dblT (xs.data.toList.take j)) ∧ Hid (wi.ownsRow w1.heap.size 5 1 bv ac.length (bc ac)) ∧ Hid (Below w1.heap.size w1 wi)) (fun _ ji _ => xs.size - (intOf ji).toNat)
            case atStart => exact ⟨0, [], by omega, rfl, by simp, by show [] = _; simp [dblT], World.ownsRow_nil _ _ _ _, Below.refl _ _⟩
            case round =>
              obtain ⟨j, ac, hj, rfl, hal, HE, HO, HBI⟩ := hrel
              have hki := (HBI.out.block _ hz1).trans HK1.out
              clear c1 c2 c3
              obtain ⟨d1, d2, d3, -, -, -⟩ := box3 hki
              have HKI := Lib.hid hki
              have hiz := HBI.out.size
              clear hki
              by_cases hjl : j < xs.size
              · have hjt : j < xs.data.toList.length := by rw [len_size]; exact hjl
                have hsn := dbl_snoc hjt
                have hget : xs.data.toList[j] = xs[j] := rfl
                rw [hget, ← HE.out] at hsn
                have HSN := Lib.hid hsn
                clear hsn hget
                by_cases hq : xs[j] = 39
                · have hqI : ((xs[j]).toNat : Int) = 39 := by rw [hq]; rfl
                  go_wp2_with (at_builtin; first
                    | (refine ap1 wr rfl (.tmp 47) (.tmp 52) rfl HO.out (by omega) (by omega) rfl wr.heap.size rfl rfl rfl ?_; intro v1 wa hown1 hba _; have hka := (hba.block _ hz1).trans HKI.out; obtain ⟨e1, e2, e3, -, -, -⟩ := box3 hka; have haz := hba.size; have HO1 := Lib.hid hown1; have HBA := Lib.hid hba; clear hown1 hba hka)
                    | (refine ap1 wa rfl (.tmp 59) (.tmp 60) rfl HO1.out (by omega) (by omega) rfl wa.heap.size rfl rfl rfl ?_; intro v2 wb hown2 hbb _; have HO2 := Lib.hid hown2; have HBB := Lib.hid hbb; clear hown2 hbb))
                  go_roundw
                  case rel =>
                    refine ⟨j + 1, ac ++ [39] ++ [39], by omega, by go_num, by simp; omega, ?_, ?_, (HBI.out.trans HBA.out).trans HBB.out⟩
                    · show _ = _
                      rw [HSN.out, if_pos hq]
                      simp
                    · show World.ownsRow _ _ _ _ _ _ _
                      rw [bc_app, bc_app, List.length_append, List.length_append]
                      exact HO2.out
                  case measure => simp [intOf]; omega
                · have hqn := ne39 hq
                  have hqI : (((xs[j]).toNat : Int) == 39) = false := beq_eq_false_iff_ne.2 hqn
                  go_wp2_with (at_builtin; (refine ap1 wr rfl (.tmp 47) (.tmp 52) rfl HO.out (by omega) (by omega) rfl wr.heap.size rfl rfl rfl ?_; intro v1 wa hown1 hba _; have hka := (hba.block _ hz1).trans HKI.out; obtain ⟨e1, e2, e3, -, -, -⟩ := box3 hka; have haz := hba.size; have HO1 := Lib.hid hown1; have HBA := Lib.hid hba; clear hown1 hba hka))
                  go_roundw
                  case rel =>
                    refine ⟨j + 1, ac ++ [xs[j]], by omega, by go_num, by simp; omega, ?_, ?_, HBI.out.trans HBA.out⟩
                    · show _ = _
                      rw [HSN.out, if_neg hq]
                    · show World.ownsRow _ _ _ _ _ _ _
                      rw [bc_app, List.length_append]
                      exact HO1.out
                  case measure => simp [intOf]; omega
              · obtain ⟨_, ao, cap, rfl, hcap, _⟩ := Rd.own HO.out
                have hcv := str_of (Rd.own HO.out)
                obtain ⟨ab, hab⟩ : ∃ ab : ByteArray, ab = ⟨ac.toArray⟩ := ⟨_, rfl⟩
                have hje : j = xs.size := by omega
                have habd : ab.data.toList = dblT xt := by
                  rw [hab, ← HXD.out]
                  show ac = _
                  rw [HE.out, hje, List.take_of_length_le (by rw [len_size]; exact Nat.le_refl _)]
                have habz : ab.size ≤ 8000000 := by rw [hab]; show ac.toArray.size ≤ _; rw [List.size_toArray]; omega
                rw [← hab] at hcv
                have HAB := Lib.hid habd
                have hspd : (⟨#[39]⟩ ++ ab ++ ⟨#[39]⟩ : ByteArray).data.toList = spellT ⟨3, xt, xn⟩ := by
                  have e : (⟨#[39]⟩ ++ ab ++ ⟨#[39]⟩ : ByteArray).data.toList = [39] ++ ab.data.toList ++ [39] := by simp
                  unfold spellT
                  rw [if_neg (by show ¬ (3 : Int) = 2; omega), if_pos rfl, e, habd]
                have hspz : (⟨#[39]⟩ ++ ab ++ ⟨#[39]⟩ : ByteArray).size = 1 + ab.size + 1 := by rw [ByteArray.size_append, ByteArray.size_append]; rfl
                have hsz := size3 sb (⟨#[39]⟩ ++ ab ++ ⟨#[39]⟩)
                have hdt := data3 sb (⟨#[39]⟩ ++ ab ++ ⟨#[39]⟩)
                rw [hspd] at hdt
                rw [hspz] at hsz
                have HSZ := Lib.hid hsz
                have HBX := Lib.hid (into HB1.out HBI.out)
                by_cases h400 : 400 < sb.size + (1 + ab.size + 1) + 1
                · have HE2 := Lib.hid (HA.out.long (x := ⟨3, xt, xn⟩) HKL.out HX.out HRR.out (by rw [← hdt, len_size, hsz]; exact h400))
                  have h400I : (400 : Int) < ((sb.size + (1 + ab.size + 1) + 1 : Nat) : Int) := by omega
                  clear hdt hsz hspd hspz hab habd hje
                  go_wp2_with fail
                  go_ret2
                  rw [HJ.out, HE2.out]
                  exact ⟨rfl, HBX.out⟩
                · have hnx := HA.out.next (x := ⟨3, xt, xn⟩) HKL.out HX.out HRR.out (by rw [← hdt, len_size, hsz]; exact h400)
                  have h400I : ¬ (400 : Int) < ((sb.size + (1 + ab.size + 1) + 1 : Nat) : Int) := by omega
                  rw [← hdt] at hnx
                  have HNX := Lib.hid hnx
                  clear hdt hnx hsz hspd hspz hab habd hje
                  go_wp2_with fail
                  go_roundw
                  case rel => exact ⟨k + 1, _, by omega, by go_num, rfl, by rw [HSZ.out]; omega, HNX.out, HBX.out⟩
                  case measure => simp [intOf]; omega
          · obtain ⟨sp, hsp⟩ : ∃ sp, sp = xs := ⟨_, rfl⟩
            have hspd : sp.data.toList = spellT ⟨xk, xt, xn⟩ := by
              unfold spellT
              rw [if_neg h2, if_neg h3, hsp]
              exact HXD.out
            have hspz : sp.size ≤ 9000000 := by rw [← len_size, hspd]; exact HSL.out
            rw [← hsp] at c2
            have hk2 : (xk == 2) = false := beq_eq_false_iff_ne.2 h2
            have hk3 : (xk == 3) = false := beq_eq_false_iff_ne.2 h3
            have HSP := Lib.hid hspd
            clear hsp hspd
            have hsz := size3 sb sp
            have hdt := data3 sb sp
            rw [HSP.out] at hdt
            by_cases h400 : 400 < sb.size + sp.size + 1
            · have HE := Lib.hid (HA.out.long (x := ⟨xk, xt, xn⟩) HKL.out HX.out HRR.out (by rw [← hdt, len_size, hsz]; exact h400))
              have h400I : (400 : Int) < ((sb.size + sp.size + 1 : Nat) : Int) := by omega
              clear hdt hsz
              go_wp2_with fail
              go_ret2
              rw [HJ.out, HE.out]
              exact ⟨rfl, HB1.out⟩
            · have hnx := HA.out.next (x := ⟨xk, xt, xn⟩) HKL.out HX.out HRR.out (by rw [← hdt, len_size, hsz]; exact h400)
              have h400I : ¬ (400 : Int) < ((sb.size + sp.size + 1 : Nat) : Int) := by omega
              rw [← hdt] at hnx
              have HNX := Lib.hid hnx
              clear hdt hnx hsz
              go_wp2_with fail
              go_roundw
              case rel => exact ⟨k + 1, _, by omega, by go_num, rfl, by rw [size3]; omega, HNX.out, HB1.out⟩
              case measure => simp [intOf]; omega
      · have HE := Lib.hid (HA.out.bad (x := ⟨xk, xt, xn⟩) HKL.out HX.out hr)
        obtain ⟨r, hrr⟩ : ∃ r, r = tkF xk xt xn := ⟨_, rfl⟩
        simp only at HE
        rw [← hrr] at hr HE ⊢
        have hr' : (r == 0) = false := by simpa using hr
        clear hrr
        go_wp2_with fail
        go_ret2
        rw [HJ.out, HE.out]
        exact ⟨rfl, HB1.out⟩
    · obtain rfl : k = n := by omega
      have hd : joinT l [] = (sb.data.toList, 0) := by
        have := HA.out
        rw [HN.out] at this
        exact this.done
      have HD := Lib.hid hd
      clear hd
      go_wp2_with fail
      go_ret2
      rw [HJ.out, HD.out]
      refine ⟨?_, HBL.out⟩
      show Ending.returned (.tuple #[.string sb, .int .i64 0]) = .returned (.tuple #[.string ⟨sb.data.toList.toArray⟩, .int .i64 0])
      rw [mk_of']
theorem rjoin_any (w : World) (v : Value) (l : List Tk) (hr : Rd w 3 l.length v (tkc l)) (hs : Sm l) :
    Calls Tryd.prog 18 #[v] w fun e w' => e = .returned (.tuple #[.string ⟨(joinL l).1.toArray⟩, .int .i64 (joinL l).2]) ∧ Below w.heap.size w w' := by
  by_cases h : l.length ≤ 100
  · exact rjoin_short w v l hr hs h
  · exact rjoin_full w v l hr (by omega)
end Go.Proofs.YtfoilmhpoipmpaaDoor

/- A key has a hundred bytes at most: at every two numbers. No condition. -/
import Derived.Test.YtakhkcabahhohaaFr
import Derived.Test.YtakhkcabahhohaaC4
import Derived.Test.YtakhkcabahhohaaK0
import Derived.Test.YtakhkcabahhohaaPn
namespace Go.Proofs.Ytakhkcabahhohaa.lKeyLong
open Go.ChangeShapes Go.WideShapes Go.ChangeAt Go.RowKit Go.Joins
open Go.ChangeMaps (open_string shut_string)
set_option linter.unusedVariables false
set_option linter.unusedSimpArgs false
set_option maxHeartbeats 400000

/-- A text of k signs. -/
def sgn97 (k : Nat) : ByteArray := ⟨(List.replicate k (97 : UInt8)).toArray⟩
theorem sgn_list (k : Nat) : (sgn97 k).toList = List.replicate k 97 := by rw [list_of]; rfl
theorem esc97 : ∀ k : Nat, esc (List.replicate k 97) = List.replicate k 97
  | 0 => rfl
  | k + 1 => by rw [List.replicate_succ, esc, if_neg (by decide), esc97 k]
theorem ok97 (k : Nat) (h : k ≤ 20) : Ok ⟨3, 0, sgn97 k⟩ := by
  have hs : (sgn97 k).size = k := by simp [sgn97, ByteArray.size]
  refine ⟨?_, by simp⟩
  simp [chk, nmb, hs]
  omega
theorem len97 (k : Nat) : ∀ j : Nat, (encs (List.replicate j ⟨3, 0, sgn97 k⟩)).length = j * (k + 3)
  | 0 => by simp [encs]
  | j + 1 => by
    rw [List.replicate_succ, encs, List.length_append, len97 k j, enc1, tail1]
    simp [sgn_list, esc97]
    rw [Nat.add_mul]
    omega
theorem enc97 (k j : Nat) (h : k ≤ 20) (hj : j ≤ 6) : enc (List.replicate j ⟨3, 0, sgn97 k⟩) = if 100 < j * (k + 3) then ([], 5) else (encs (List.replicate j ⟨3, 0, sgn97 k⟩), 0) := by
  have hok : ∀ v ∈ List.replicate j (⟨3, 0, sgn97 k⟩ : V), Ok v := fun v hv => by rw [List.eq_of_mem_replicate hv]; exact ok97 k h
  unfold enc
  rw [if_neg (by simp; omega), bad_ok hok, if_neg (by simp), len97]
theorem cells_set {k i : Nat} (h : i < k) : (List.replicate i (Value.int .u8 97) ++ List.replicate (k - i) (Value.int .u8 0)).set i (.int .u8 97) = List.replicate (i + 1) (Value.int .u8 97) ++ List.replicate (k - (i + 1)) (Value.int .u8 0) := by
  have e : k - i = (k - (i + 1)) + 1 := by omega
  rw [e, List.replicate_succ, List.set_append_right _ _ (by simp), List.replicate_succ']
  simp
theorem cells_get {k i : Nat} (h : i < k) : (List.replicate i (Value.int .u8 97) ++ List.replicate (k - i) (Value.int .u8 0))[i]? = some (.int .u8 0) := by
  rw [List.getElem?_append_right (by simp), List.length_replicate, Nat.sub_self, List.getElem?_replicate, if_pos (by omega)]
theorem bc97 (k : Nat) : bc (List.replicate k 97) = List.replicate k (Value.int .u8 97) := by simp [bc]
set_option maxHeartbeats 1600000 in
theorem walk (n : Int) (wn : (Lit.int .i64 n).wf = true) (m : Int) (wm : (Lit.int .i64 m).wf = true) (w : World) :
    Calls Try.prog 5 #[.int .i64 n, .int .i64 m] w fun e w' => e = .returned (.bool true) ∧ Below w.heap.size w w' := by
  have HRN := Lib.hid (rng_of wn)
  have HRM := Lib.hid (rng_of wm)
  have h1 := pck_in n 21 (by omega)
  have h2 := pck_in m 7 (by omega)
  obtain ⟨k, hk⟩ : ∃ k : Nat, pck n 21 = (k : Int) := ⟨(pck n 21).toNat, by omega⟩
  obtain ⟨j, hj⟩ : ∃ j : Nat, pck m 7 = (j : Int) := ⟨(pck m 7).toNat, by omega⟩
  have k20 : k ≤ 20 := by omega
  have j6 : j ≤ 6 := by omega
  have cv1 := pck_any n 21 w HRN.out (by omega) (by omega)
  rw [hk] at cv1
  have HCV1 := Lib.hid cv1
  have HJ := Lib.hid hj
  obtain ⟨i0, hi, hz0, hz1, hz2⟩ := info_parts Try.info5
  clear wn wm h1 h2 hk hj cv1
  go_enter Try.func5, Try.ntmps5
  go_wp2_with fail
  refine HCV1.out.mono ?_
  rintro e w1 ⟨rfl, rfl⟩
  go_wp2_with (at_make; refine wpList_make_full w rfl _ _ 24 rfl w.heap.size 5 i0 (.int .u8 0) 1 Try.underlying24 hi hz0 hz1 _ _ _ _ k rfl rfl rfl rfl (by rw [hz2]; omega) (by unfold maxLen; omega) (Nat.le_refl _) ?_; intro w1 hown1 hg1)
  have hb1 : Below w.heap.size w w1 := (Below.refl _ _).grown hg1 (Nat.le_refl _) (fun q h => by cases h)
  have HO1 := Lib.hid hown1
  have hz1' := hb1.size
  clear hown1 hg1
  go_loopw [7] (fun i wr => ∃ t : Nat, t ≤ k ∧ i = .int .i64 (t : Int) ∧ wr.ownsRow w.heap.size 5 1 (.slice (some ⟨w.heap.size, 0, none⟩) k k) k (List.replicate t (Value.int .u8 97) ++ List.replicate (k - t) (Value.int .u8 0)) ∧ Below w.heap.size w wr) (fun i _ => k - (intOf i).toNat)
  case atStart =>
    refine ⟨0, by omega, rfl, ?_, hb1⟩
    have h := HO1.out
    rw [show (Value.int IntKind.u8 0).cells = #[.int .u8 0] from rfl, toList_madeCells_one, Nat.mul_one] at h
    simpa using h
  case round =>
    obtain ⟨t, ht, rfl, hown, hb⟩ := hrel
    have hz := hb.size
    have HW := Lib.hid hown
    by_cases hlt : t < k
    · have c0 := (hown.cellAt t (by omega)).trans (cells_get hlt)
      have f0 := hown.frozenAt t
      clear hown
      go_wp2_with fail
      go_roundw
      case rel =>
        refine ⟨t + 1, by omega, by go_num, ?_, hb.setCell (Nat.le_refl _) _⟩
        have h := (HW.out.stored t (.int .u8 97)).1
        rw [cells_set hlt] at h
        exact h
      case measure => simp [intOf]; omega
    · obtain rfl : t = k := by omega
      have H97 : Hid (Rd wr 1 t (.slice (some ⟨w.heap.size, 0, none⟩) t t) (bc (List.replicate t 97))) := by
        have h := Rd.own HW.out
        rw [Nat.sub_self, List.replicate_zero, List.append_nil] at h
        rw [bc97]
        exact h
      clear hown HW
      go_wp2_with fail
      refine (pck_any m 7 wr HRM.out (by omega) (by omega)).mono ?_
      rw [HJ.out]
      rintro e w2 ⟨rfl, rfl⟩
      go_wp2_with fail
      obtain ⟨wo, hwo⟩ : ∃ wo : World, wo = wr := ⟨_, rfl⟩
      subst hwo
      go_loopw [9, 10] (fun l i wr => ∃ q : Nat, q ≤ j ∧ i = .int .i64 (q : Int) ∧ wr.ownsRow wo.heap.size 33 3 l q (vc (List.replicate q ⟨3, 0, sgn97 t⟩)) ∧ Below wo.heap.size wo wr) (fun _ i _ => j - (intOf i).toNat)
      case atStart => exact ⟨0, by omega, rfl, by simpa [vc] using World.ownsRow_nil _ _ _ _, Below.refl _ _⟩
      case round =>
        obtain ⟨q, hq, rfl, hown, hb2⟩ := hrel
        have hz2' := hb2.size
        have HW := Lib.hid hown
        clear hown
        by_cases hlq : q < j
        · have qs := str_of (H97.out.below hb2)
          go_wp2_with (at_builtin; refine apv wr rfl (.tmp 32) (.tmp 36) rfl HW.out (by omega) (by omega) _ rfl rfl rfl ?_; intro v3 w3 hown3 hb3 _)
          go_roundw
          case rel =>
            refine ⟨q + 1, by omega, by go_num, ?_, hb2.trans hb3⟩
            rw [List.replicate_succ', vc_app]
            exact hown3
          case measure => simp [intOf]; omega
        · obtain rfl : q = j := by omega
          have ce := enc_any q _ (List.replicate q ⟨3, 0, sgn97 t⟩) wr (fun v hv => (ok97 t k20 |> fun h => by rw [List.eq_of_mem_replicate hv]; exact h.2)) (Rd.own HW.out)
          rw [enc97 t q k20 j6] at ce
          obtain ⟨P, hP⟩ : ∃ P, P = q * (t + 3) := ⟨_, rfl⟩
          have hP138 : P ≤ 138 := by
            rw [hP]
            exact Nat.le_trans (Nat.mul_le_mul j6 (show t + 3 ≤ 23 by omega)) (by omega)
          have hPI : (q : Int) * ((t : Int) + 3) = (P : Int) := by rw [hP]; simp
          rw [← hP] at ce
          have HP := Lib.hid hP
          clear hP
          by_cases hbig : 100 < P
          · rw [if_pos hbig] at ce
            have HCE := Lib.hid ce
            clear ce
            have hbig' : (100 : Int) < (P : Int) := by omega
            go_wp2_with fail
            refine HCE.out.mono ?_
            rintro e w4 ⟨v4, rfl, hown4, hb4⟩
            obtain ⟨_, ao4, cap4, rfl, _, _⟩ := Rd.own hown4
            clear hown4
            go_wp2_with fail
            go_ret
            exact ⟨rfl, (hb.trans (hb2.mono hz)).trans (hb4.mono (by omega))⟩
          · rw [if_neg hbig] at ce
            have HCE := Lib.hid ce
            clear ce
            have hbig' : ¬ (100 : Int) < (P : Int) := by omega
            go_wp2_with fail
            refine HCE.out.mono ?_
            simp only [len97, ← HP.out]
            rintro e w4 ⟨v4, rfl, hown4, hb4⟩
            obtain ⟨_, ao4, cap4, rfl, _, _⟩ := Rd.own hown4
            clear hown4
            go_wp2_with fail
            go_ret
            exact ⟨rfl, (hb.trans (hb2.mono hz)).trans (hb4.mono (by omega))⟩

theorem lifted (os : Os) (started : os.Started) (H : Type) (enc : TypeId × Value → H) :
    ReturnsInHanded {} Try.checked os 5 .any (Rows.keyLongSpec.pre6 enc Try.prog Try.f5 Rows.keyLongRow.domain false) (Rows.keyLongSpec.post enc Try.prog Try.f5 false true false false) := by
  refine returnsInHanded_of_change (C := Try.checked) Try.own started (by kernel_rfl) Try.func5
    (ChangeSpec.witness6 (enc := enc) (C := Try.checked) false ⟨#[], #[.int .i64 0, .int .i64 0], []⟩ 8 (by kernel_rfl) (by kernel_rfl) (by kernel_rfl) (by kernel_rfl)) ?_
  intro W base args ds gs before hval0 hW hcnd _
  have hval : ∀ (j : Nat) t v, Try.f5.params[j]? = some t → args[j]? = some v → Value.okWide Try.prog W .any base t v := hval0
  have hW' := hW
  obtain ⟨p, q, hA0, hV, rfl, hfz, hnd⟩ := hW
  have hA : DataW.TrodAll enc Try.prog W 0 (fun _ => true) true Try.f5.params.toList args.toList ds p := hA0
  rw [Try.params5] at hA hval
  obtain ⟨v0, v1, d0, d1, p0, p1, rfl, rfl, rfl, h0, h1⟩ := trodAll_two hA
  obtain ⟨rfl, rfl⟩ := trodVars_none hV
  obtain ⟨a0, rfl, rfl, rfl, w0⟩ := open_int Try.underlying3 (hval 0 3 v0 rfl rfl) h0
  obtain ⟨a1, rfl, rfl, rfl, w1⟩ := open_int Try.underlying3 (hval 1 3 v1 rfl rfl) h1
  clear hA0 hval0
  refine (walk a0 w0 a1 w1 W).mono fun e W' ⟨he, hg⟩ => ?_
  subst he
  exact ⟨_, rfl, law_post (tb := 4) Try.laidOut (by kernel_rfl) (by kernel_rfl) Try.underlying4 rfl hW' hg rfl rfl rfl⟩

theorem proved : Rows.KeyLongSaid :=
  OpenClaim.holds_of_wide 5 Try.f5 rfl rfl rfl rfl rfl rfl rfl ⟨rfl, rfl, rfl, rfl, rfl⟩ rfl rfl rfl rfl rfl (by kernel_rfl) Try.func5 (by kernel_rfl)
    (of_decide_eq_true (by kernel_rfl)) (by unfold Func.isWrapper; first | (rw [if_pos (by decide +kernel)]; kernel_rfl) | (rw [if_neg (by decide +kernel)]; exact ⟨rfl, rfl⟩))
    (fun os started H enc _ => lifted os started H enc)
#print axioms proved
end Go.Proofs.Ytakhkcabahhohaa.lKeyLong

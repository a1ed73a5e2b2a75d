/- Kept words are no names, nor is what is too long. The row lists the program's tables of marks and of words that are kept; the card ties them to the program's text. -/
import Derived.Test.YthihdknbnpjkdaaDoorUd
import Derived.Test.YthihdknbnpjkdaaDoorUc
import Derived.Test.YthihdknbnpjkdaaDoorWd
namespace Go.Proofs.YthihdknbnpjkdaaDoor.lNameKept
open Go.ChangeShapes Go.WideShapes Go.ChangeAt Go.RowKit Go.Joins
open Go.ChangeMaps (open_string shut_string)
set_option linter.unusedVariables false
set_option linter.unusedSimpArgs false
set_option maxHeartbeats 400000

def k8 : List (List UInt8) := [[83, 69, 76, 69, 67, 84], [78, 85, 76, 76], [73, 78, 84], [87, 72, 69, 82, 69], [67, 79, 85, 78, 84], [65, 78, 68], [84, 82, 85, 69], [84, 65, 66, 76, 69]]
theorem k8_kept : ∀ j, j < 8 → nmF (k8.getD j []) = 6 ∧ (k8.getD j []).length ≤ 6 := by decide +kernel
theorem k8_at {k : Nat} (hk : k < 8) : (k8.map fun m => Value.string ⟨m.toArray⟩)[k]? = some (.string ⟨(k8.getD k []).toArray⟩) := by
  have h : k < k8.length := hk
  rw [List.getElem?_map, List.getElem?_eq_getElem h, Option.map_some, List.getD, List.getElem?_eq_getElem h]
  rfl
theorem kp_high : ∀ k, k < 30 → ((kpL.getD k []).getD 0 0).toNat < 97 := by decide +kernel
theorem nm_word {t : List UInt8} (h : Lw t) : nmF t = 0 := by
  obtain ⟨h1, h2, h3⟩ := h
  have hi : ∀ b ∈ t, iw b = true := fun b hb => by
    have := h3 b hb
    unfold iw wb
    simp
    omega
  cases t with
  | nil => simp at h1
  | cons c t =>
    have hc := h3 c (by simp)
    have hd : dg c = false := by
      unfold dg
      simp
      omega
    have ht : tkF 1 (c :: t) 0 = 0 := by
      unfold tkF txt
      have : (c :: t).all iw = true := List.all_eq_true.2 hi
      simp [this, hd]
    have hk : kpB (c :: t) = false := kp_none fun k hk e => by
      have := kp_high k hk
      rw [← e] at this
      simp at this
      omega
    unfold nmF
    rw [if_neg (by omega), ht, hk]
    simp
theorem nm_digit {t : List UInt8} (h : t.length ≤ 6) : nmF (49 :: t) = 6 := by
  unfold nmF
  rw [if_neg (by simp; omega), if_pos]
  left
  unfold tkF txt dg
  simp
theorem app_data (a b : ByteArray) : (a ++ b).data.toList = a.data.toList ++ b.data.toList := by simp
set_option maxHeartbeats 2000000 in
theorem walk (W : World) (hL : Mk W ∧ Kt W) (s : ByteArray) (ws : s.size ≤ maxLen) (x : Int) (wx : (Lit.int .i64 x).wf = true) :
    Calls Tryd.prog 5 #[.string s, .int .i64 x] W fun e w' => e = .returned (.bool true) ∧ Below W.heap.size W w' := by
  have HK := Lib.hid hL
  have hp := fun w => pck_any x 8 w (rn_of wx) (by omega) (by omega)
  obtain ⟨p1, p2⟩ := pck_in x 8 (by omega)
  obtain ⟨q, hq⟩ : ∃ q : Nat, pck x 8 = (q : Int) := ⟨(pck x 8).toNat, by omega⟩
  rw [hq] at hp p1 p2
  have HP := Lib.hid hp
  have hq8 : q < 8 := by omega
  clear hp hq p1 p2 hL wx
  go_enter Tryd.func5, Tryd.ntmps5
  go_wp2_with fail
  refine (kword_any _ s ws).mono ?_
  rintro e w1 ⟨t, rfl, ht, hb1⟩
  have hcell : w1.cell? ⟨W.heap.size, q, none⟩ = some (.string ⟨(k8.getD q []).toArray⟩) := by
    have h := new_cells W (k8.map fun m => Value.string ⟨m.toArray⟩) 9 q _ (k8_at hq8)
    rw [Addr.add_lit, Nat.zero_add] at h
    exact (hb1.cell (p := ⟨W.heap.size, q, none⟩) (by simp)).trans h
  have HB1 := Lib.hid (into ((Below.refl _ _).alloc (Nat.le_refl _) _) hb1)
  have HN : Hid (∀ (s : ByteArray) (r : Int), s.size ≤ maxLen → nmF s.data.toList = r → ∀ w, Below w1.heap.size w1 w → Calls Tryd.prog 7 #[.string s] w fun e w' => e = .returned (.int .i64 r) ∧ Below w1.heap.size w1 w') := by
    rintro s r hs rfl w hb
    have hw := into HB1.out hb
    exact (name_any w (HK.out.1.below hw) (HK.out.2.below hw) s hs).mono fun e w' h => ⟨h.1, into hb h.2⟩
  have HL := Lib.hid ht
  obtain ⟨tb, htb⟩ : ∃ tb : ByteArray, tb = ⟨t.toArray⟩ := ⟨_, rfl⟩
  rw [← htb]
  have hd : tb.data.toList = t := by rw [htb]
  have hz : tb.size = t.length := by rw [← hd, len_size]
  have h1 := HN.out tb 0 (by unfold maxLen; have := ht.2.1; omega) (by rw [hd]; exact nm_word ht)
  obtain ⟨m, hm⟩ : ∃ m : ByteArray, m = ⟨(k8.getD q []).toArray⟩ := ⟨_, rfl⟩
  rw [← hm] at hcell
  have hmd : m.data.toList = k8.getD q [] := by rw [hm]
  obtain ⟨hk1, hk2⟩ := k8_kept q hq8
  have h2 := HN.out m 6 (by unfold maxLen; rw [← len_size, hmd]; omega) (by rw [hmd]; exact hk1)
  have h3 := HN.out (tb ++ ⟨#[49, 50, 51, 52, 53, 54, 55, 56]⟩) 1 (by
    rw [ByteArray.size_append]
    show tb.size + 8 ≤ _
    unfold maxLen
    have := ht.2.1
    omega) (by
    rw [app_data]
    refine nm_long ?_
    rw [List.length_append, hd]
    show 8 < t.length + 8
    have := ht.1
    omega)
  have h4 := HN.out ⟨#[]⟩ 6 (by decide) (by decide +kernel)
  have h5 := HN.out (⟨#[49]⟩ ++ tb) 6 (by
    rw [ByteArray.size_append]
    show 1 + tb.size ≤ _
    unfold maxLen
    have := ht.2.1
    omega) (by
    rw [app_data, hd]
    exact nm_digit ht.2.1)
  have htz : tb.size ≤ 6 := by have := ht.2.1; omega
  have H1 := Lib.hid h1
  have H2 := Lib.hid h2
  have H3 := Lib.hid h3
  have H4 := Lib.hid h4
  have H5 := Lib.hid h5
  have HC := Lib.hid hcell
  have hlt : W.heap.size < w1.heap.size := by have := hb1.size; simp at this; omega
  clear h1 h2 h3 h4 h5 hcell hb1 ht htb hd hz hm hmd hk1 hk2
  go_wp2_with fail
  refine (H1.out _ (Below.refl _ _)).mono ?_
  rintro e w2 ⟨rfl, hb2⟩
  have HB2 := Lib.hid hb2
  have hc2 : w2.cell? ⟨W.heap.size, q, none⟩ = some (.string m) := (hb2.cell (p := ⟨W.heap.size, q, none⟩) hlt).trans HC.out
  clear hb2
  go_wp2_with fail
  refine (HP.out _).mono ?_
  rintro e w' ⟨rfl, rfl⟩
  go_wp2_with fail
  refine (H2.out _ HB2.out).mono ?_
  rintro e w3 ⟨rfl, hb3⟩
  have HB3 := Lib.hid hb3
  clear hb3 hc2
  go_wp2_with fail
  refine (H3.out _ HB3.out).mono ?_
  rintro e w4 ⟨rfl, hb4⟩
  have HB4 := Lib.hid hb4
  clear hb4
  go_wp2_with fail
  refine (H4.out _ HB4.out).mono ?_
  rintro e w5 ⟨rfl, hb5⟩
  have HB5 := Lib.hid hb5
  clear hb5
  go_wp2_with fail
  refine (H5.out _ HB5.out).mono ?_
  rintro e w6 ⟨rfl, hb6⟩
  have HB6 := Lib.hid (into HB1.out hb6)
  clear hb6
  go_wp2
  go_ret
  exact ⟨rfl, HB6.out⟩

set_option maxRecDepth 100000 in
theorem lifted (os : Os) (started : os.Started) (H : Type) (enc : TypeId × Value → H) :
    ReturnsInHanded {} Tryd.checked os 5 .any (fun w args => (Rows.nameKeptSpec.pre enc Tryd.prog Tryd.f5 [] false w args ∧ laidK w) ∧ sizedMet enc Tryd.prog Tryd.f5 (OpenSpec.ofChange Rows.nameKeptSpec) false w args) (Rows.nameKeptSpec.post enc Tryd.prog Tryd.f5 false true false false) := by
  refine returnsInHanded_of_change_and (C := Tryd.checked) (X := fun w _ => laidK w) (fun _ _ _ hh h => h.of_heap hh) Tryd.own started (by kernel_rfl) Tryd.func5
    (ChangeSpec.witness_at (enc := enc) (C := Tryd.checked) (os := os) (X := fun w _ => laidK w) false (tabledE os) #[.string ⟨#[]⟩, .int .i64 0] 8 rfl (by kernel_rfl) (by kernel_rfl) (by kernel_rfl) (by kernel_rfl) (by kernel_rfl) (tabledE_laidK os _)) ?_
  intro W base args ds gs before hval0 hW hcnd hsz0 hL _
  have hsz : (DataW.weightsEach Tryd.prog (Tryd.f5.params.toList ++ Rows.nameKeptSpec.plain.varTypes Tryd.prog) (ds ++ gs)).all (· ≤ reachBytes) = true := hsz0
  have hval : ∀ (j : Nat) t v, Tryd.f5.params[j]? = some t → args[j]? = some v → Value.okWide Tryd.prog W .any base t v := hval0
  have hW' := hW
  obtain ⟨p, q, hA0, hV, rfl, hfz, hnd⟩ := hW
  have hA : DataW.TrodAll enc Tryd.prog W 0 (fun _ => true) true Tryd.f5.params.toList args.toList ds p := hA0
  rw [Tryd.params5] at hA hval hsz
  obtain ⟨v0, v1, d0, d1, p0, p1, rfl, rfl, rfl, h0, h1⟩ := trodAll_two hA
  obtain ⟨rfl, rfl⟩ := trodVars_none hV
  obtain ⟨t0, rfl, rfl, rfl, ws0⟩ := open_string Tryd.underlying9 (hval 0 9 v0 rfl rfl) h0
  obtain ⟨a1, rfl, rfl, rfl, w1⟩ := open_int Tryd.underlying3 (hval 1 3 v1 rfl rfl) h1
  clear hA0 hval0
  refine (walk W (K_of hL) t0 ws0 a1 w1).mono fun e W' ⟨he, hg⟩ => ?_
  subst he
  exact ⟨_, rfl, law_post (tb := 4) Tryd.laidOut (by kernel_rfl) (by kernel_rfl) Tryd.underlying4 rfl hW' hg rfl rfl rfl⟩

theorem bare : Rows.NameKeptSaid :=
  OpenClaim.holds_of_wide 5 Tryd.f5 rfl rfl rfl rfl rfl rfl rfl ⟨rfl, rfl, rfl, rfl, rfl⟩ rfl rfl rfl rfl rfl (by kernel_rfl) Tryd.func5 (by kernel_rfl)
    (of_decide_eq_true (by kernel_rfl)) (by unfold Func.isWrapper; first | (rw [if_pos (by decide +kernel)]; kernel_rfl) | (rw [if_neg (by decide +kernel)]; exact ⟨rfl, rfl⟩))
    (fun os started H enc _ => lifted os started H enc)
/-- The card: the row's one listed variable is tied to the program's text. -/
theorem proved : Rows.NameKeptCardSaid :=
  Claim7.holds_tied_plain_at .later [] [.data, .data] true _ false bare (fun _ h => by cases h) (by kernel_rfl) (fun _ h => by cases h) nameKept_row_tie rfl ⟨rfl, rfl⟩ (by kernel_rfl) rfl
    (fun f fn hf hfn => by
      obtain rfl : f = 5 := Option.some.inj ((show Tryd.prog.funcNamed "padlock/padlockkeep.NameKept" = some 5 by kernel_rfl).symm.trans hf) |>.symm
      obtain rfl : fn = Tryd.f5 := (Option.some.inj (Tryd.func5.symm.trans hfn)).symm
      refine ⟨by kernel_rfl, fun j t ht => ?_⟩
      rw [Tryd.params5] at ht
      rcases j with _ | _ | j <;> simp at ht <;> subst ht <;> kernel_rfl)
    (by kernel_rfl)
#print axioms proved
end Go.Proofs.YthihdknbnpjkdaaDoor.lNameKept

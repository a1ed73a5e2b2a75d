/- The document's scan of a tree that may be. -/
import Derived.Test.YtacpeibkamfibaaXf
namespace Go.Proofs.Ytacpeibkamfibaa
open Go.ChangeShapes Go.WideShapes Go.ChangeAt Go.RowKit Go.Shelf
set_option linter.unusedVariables false
set_option linter.unusedSimpArgs false
set_option maxHeartbeats 8000000
set_option maxRecDepth 100000
theorem scanned_ok (w : World) (ok ok1 ok2 : Nat → Prop) (hok : ∀ b, ok b → b < w.heap.size) (tv kv mv : Value) (T : Tr) (h : Nat) (t : Tb h) (k to : Key) (ht : RT w ok tv T) (hr : Reps T h t) (hk : RB w ok1 kv k) (hk2 : RB w ok2 mv to) (hN : T.pages.length ≤ 4000) (hrr : Rng T.root) (hkl : k.length ≤ 100) (hkl2 : to.length ≤ 100) :
    Calls Try.prog 19 #[tv, kv, mv] w (ScanV (scanL k to (entT h t)) w) := by
  obtain ⟨ao, n, cap, rfl⟩ := rt_shape ht
  obtain ⟨ak, ck, rfl⟩ := hk.sh
  obtain ⟨a2, c2, rfl⟩ := hk2.sh
  obtain ⟨nk, hnk⟩ : ∃ n, n = k.length := ⟨_, rfl⟩
  obtain ⟨n2, hn2⟩ : ∃ n, n = to.length := ⟨_, rfl⟩
  rw [← hnk] at hk ⊢
  rw [← hn2] at hk2 ⊢
  have hnk1 : (nk : Int) ≤ 100 := by omega
  have hnk2 : (n2 : Int) ≤ 100 := by omega
  have hb0 : Below w.heap.size w (w.alloc (.cells #[.slice ao n cap, .int .i64 T.root] 24)) := bel_al _ _
  have hx0 : (w.alloc (.cells #[.slice ao n cap, .int .i64 T.root] 24)).heap[w.heap.size]? = some (.cells #[.slice ao n cap, .int .i64 T.root] 24 (0, 0)) := new0 _ _
  have hc := treeFault_any (w.alloc (.cells #[.slice ao n cap, .int .i64 T.root] 24)) ok (fun b hb' => by have := hok b hb'; simp; omega) _ T (ht.below hb0) hrr
  unfold ChkIs at hc
  rw [chkT_yes hN (reps_pass hr)] at hc
  have hes := fun (W : World) (hW : Below w.heap.size w W) => entriesOf_any W ok (fun b hb' => by have := hok b hb'; have := hW.size; omega) _ T (ht.below hW) h t hr hN
  obtain ⟨l, hl⟩ : ∃ l, l = entT h t := ⟨_, rfl⟩
  have hl6 : l.length ≤ 1000000 := by have := ent_len hr; rw [← hl] at this; omega
  rw [← hl] at hes ⊢
  have HES := Lib.hid hes
  have HC := Lib.hid hc
  have HK := Lib.hid (And.intro hk (And.intro hk2 (And.intro hnk hn2)))
  have HX0 := Lib.hid hx0
  have HL6 := Lib.hid hl6
  clear hc ht hr hk hk2 hN hkl hkl2 hes hl hnk hn2 hl6 hx0
  go_enter Try.func19, Try.ntmps19
  go_wp2_with fail
  refine HC.out.mono ?_
  rintro e w1 ⟨rfl, hb1⟩
  have HB1 := Lib.hid (into hb0 hb1)
  obtain ⟨z0, z1, -⟩ := box2 ((hb1.block _ (Array.getElem?_eq_some_iff.1 HX0.out).1).trans HX0.out)
  clear hb1 hb0
  go_wp2_with fail
  refine (HES.out w1 HB1.out).mono ?_
  rintro e w5 ⟨vv, cs0, rfl, hown5, hent5, hb5, -⟩
  have HL5' := (show EntV w5 l.length vv l from ⟨cs0, rfl, Rd.own hown5, hent5.mono fun _ _ => trivial⟩)
  obtain ⟨la, lc, rfl⟩ := HL5'.sh
  obtain ⟨ln, hln⟩ : ∃ n, n = l.length := ⟨_, rfl⟩
  rw [← hln] at HL5' ⊢
  have HL5 := Lib.hid HL5'
  have HB5 := Lib.hid (into HB1.out hb5)
  have HKF := Lib.hid (And.intro (HK.out.1.below HB5.out) (HK.out.2.1.below HB5.out))
  have hln6 : ln ≤ 1000000 := by have := HL6.out; omega
  have HLN := Lib.hid hln
  clear hown5 hent5 hb5 z0 z1 HL5' hln
  go_wp2_with fail
  obtain ⟨P, hP⟩ : ∃ P : Key × Int → Bool, P = fun e => !kl e.1 k && toOk to e := ⟨_, rfl⟩
  have hsc : scanL k to l = l.filter P := by rw [hP]; rfl
  have hPe : ∀ e, P e = (!kl e.1 k && (to.isEmpty || !kl to e.1)) := fun e => by rw [hP]; rfl
  have HSC := Lib.hid (And.intro hsc hPe)
  clear hP hsc hPe
  go_loopw [10, 11] (fun wv i wr => ∃ (j m : Nat) (cs : List Value), j ≤ ln ∧ m ≤ j ∧ i = .int .i64 (j : Int) ∧ Hid (m = ((l.take j).filter P).length) ∧ Hid (wr.ownsRow w5.heap.size 36 2 wv m cs) ∧ Hid (EntC w5 (fun b => b < w5.heap.size) cs ((l.take j).filter P)) ∧ Hid (Below w5.heap.size w5 wr)) (fun _ i _ => ln - (intOf i).toNat)
  case atStart => exact ⟨0, 0, [], by omega, by omega, rfl, rfl, World.ownsRow_nil _ _ _ _, trivial, Below.refl _ _⟩
  case round =>
    obtain ⟨j, m, cs, hj, hmj, rfl, HM, HO, HE, HB⟩ := hrel
    by_cases hlt : (j : Int) < (ln : Int)
    · obtain ⟨b, o, c, e9, q1, q2, q3⟩ := HL5.out.pos (by omega)
      simp only [Value.slice.injEq] at e9
      obtain ⟨rfl, -, rfl⟩ := e9
      have hjl : j < l.length := by have := HLN.out; omega
      obtain ⟨en, hen⟩ : ∃ en, en = l[j] := ⟨_, rfl⟩
      obtain ⟨ya, yc, y1, y2, y3⟩ := q3 j en (by rw [hen]; exact List.getElem?_eq_getElem hjl)
      have htk : l.take (j + 1) = l.take j ++ [en] := by rw [hen]; exact List.take_succ_eq_append_getElem hjl
      have d1 := cell_of_below HB.out y1
      have d2 := cell_of_below HB.out y2
      have hb1 := bef_any wr _ _ en.1 k (y3.below HB.out).1 (by have q := HKF.out.1.below HB.out; exact q.1)
      have hb2 := bef_any wr _ _ to en.1 (by have q := HKF.out.2.below HB.out; exact q.1) (y3.below HB.out).1
      have hPe := HSC.out.2 en
      have HTK := Lib.hid htk
      obtain ⟨ek, er⟩ := en
      simp only at hPe d1 d2 hb1 hb2 y3
      obtain ⟨yn, hyn⟩ : ∃ yn, yn = ek.length := ⟨_, rfl⟩
      rw [← hyn] at d1 y3 hb1 hb2
      have HY3 := Lib.hid y3
      obtain ⟨x1, hx1⟩ : ∃ x, x = kl ek k := ⟨_, rfl⟩
      obtain ⟨x2, hx2⟩ : ∃ x, x = kl to ek := ⟨_, rfl⟩
      rw [← hx1] at hb1 hPe
      rw [← hx2] at hb2 hPe
      have hte : to.isEmpty = decide (n2 = 0) := by rw [HK.out.2.2.2]; rcases to with _ | ⟨a, r⟩ <;> rfl
      rw [hte] at hPe
      have HB1' := Lib.hid hb1
      have HB2' := Lib.hid hb2
      clear y1 y2 y3 q3 hen hyn htk hx1 hx2 hte hb1 hb2
      obtain ⟨_, wa', wc', rfl, -⟩ := Rd.own HO.out
      cases x1
      · by_cases h0 : n2 = 0
        · have h0' : ((n2 : Int) == 0) = true := by simpa using h0
          have HF := Lib.hid (show (l.take (j + 1)).filter P = (l.take j).filter P ++ [(ek, er)] by rw [HTK.out, List.filter_append, List.filter_cons_of_pos (by rw [hPe]; simp [h0])]; rfl)
          clear hPe
          (try clear h0)
          go_wp2_with (first | (go_at_call 40; refine HB1'.out.mono ?_; rintro e w' ⟨rfl, rfl⟩) | (go_at_call 40; refine HB2'.out.mono ?_; rintro e w' ⟨rfl, rfl⟩) | (at_builtin; refine apx wr 1 rfl _ _ 27 36 _ 2 32 Try.underlying27 Try.info36 rfl (by omega) rfl HO.out HB.out.size (by omega) (by unfold maxLen; omega) [.slice ya yn yc, .int .i64 er] rfl (by intro u hu; simp at hu; rcases hu with rfl | rfl <;> rfl) wr.heap.size rfl rfl rfl ?_))
          intro v7 w7 hown7 hb7 hg7 hat7
          have HO7 := Lib.hid hown7
          have HB7 := Lib.hid (HB.out.trans hb7)
          clear hown7 hb7 hg7 hat7 d1 d2
          go_wp2_with fail
          go_roundw
          case rel => exact ⟨j + 1, m + 1, _, by omega, by omega, by go_num, by rw [HF.out, List.length_append, ← HM.out]; rfl, HO7.out, by rw [HF.out]; exact EntC.app HE.out (EntC.single ⟨by have q := HY3.out.1; exact q, by have q := HY3.out.1; exact q.at_lt (by omega)⟩), HB7.out⟩
          case measure => simp [intOf]; omega
        · have h0' : ((n2 : Int) == 0) = false := by simpa using h0
          cases x2
          · skip
            have HF := Lib.hid (show (l.take (j + 1)).filter P = (l.take j).filter P ++ [(ek, er)] by rw [HTK.out, List.filter_append, List.filter_cons_of_pos (by rw [hPe]; simp)]; rfl)
            clear hPe
            (try clear h0)
            go_wp2_with (first | (go_at_call 40; refine HB1'.out.mono ?_; rintro e w' ⟨rfl, rfl⟩) | (go_at_call 40; refine HB2'.out.mono ?_; rintro e w' ⟨rfl, rfl⟩) | (at_builtin; refine apx wr 1 rfl _ _ 27 36 _ 2 32 Try.underlying27 Try.info36 rfl (by omega) rfl HO.out HB.out.size (by omega) (by unfold maxLen; omega) [.slice ya yn yc, .int .i64 er] rfl (by intro u hu; simp at hu; rcases hu with rfl | rfl <;> rfl) wr.heap.size rfl rfl rfl ?_))
            intro v7 w7 hown7 hb7 hg7 hat7
            have HO7 := Lib.hid hown7
            have HB7 := Lib.hid (HB.out.trans hb7)
            clear hown7 hb7 hg7 hat7 d1 d2
            go_wp2_with fail
            go_roundw
            case rel => exact ⟨j + 1, m + 1, _, by omega, by omega, by go_num, by rw [HF.out, List.length_append, ← HM.out]; rfl, HO7.out, by rw [HF.out]; exact EntC.app HE.out (EntC.single ⟨by have q := HY3.out.1; exact q, by have q := HY3.out.1; exact q.at_lt (by omega)⟩), HB7.out⟩
            case measure => simp [intOf]; omega
          · skip
            have HF := Lib.hid (show (l.take (j + 1)).filter P = (l.take j).filter P by rw [HTK.out, List.filter_append, List.filter_cons_of_neg (by rw [hPe]; simp [h0])]; simp)
            clear hPe
            (try clear h0)
            go_wp2_with (first | (go_at_call 40; refine HB1'.out.mono ?_; rintro e w' ⟨rfl, rfl⟩) | (go_at_call 40; refine HB2'.out.mono ?_; rintro e w' ⟨rfl, rfl⟩))
            clear d1 d2
            go_roundw
            case rel => exact ⟨j + 1, m, cs, by omega, by omega, by go_num, by rw [HF.out]; exact HM.out, HO.out, by rw [HF.out]; exact HE.out, HB.out⟩
            case measure => simp [intOf]; omega
      · skip
        have HF := Lib.hid (show (l.take (j + 1)).filter P = (l.take j).filter P by rw [HTK.out, List.filter_append, List.filter_cons_of_neg (by rw [hPe]; simp)]; simp)
        clear hPe
        (try clear h0)
        go_wp2_with (first | (go_at_call 40; refine HB1'.out.mono ?_; rintro e w' ⟨rfl, rfl⟩) | (go_at_call 40; refine HB2'.out.mono ?_; rintro e w' ⟨rfl, rfl⟩))
        clear d1 d2
        go_roundw
        case rel => exact ⟨j + 1, m, cs, by omega, by omega, by go_num, by rw [HF.out]; exact HM.out, HO.out, by rw [HF.out]; exact HE.out, HB.out⟩
        case measure => simp [intOf]; omega
    · obtain rfl : j = ln := by omega
      have hml : l.take j = l := List.take_of_length_le (by rw [HLN.out]; exact Nat.le_refl _)
      obtain ⟨_, wa', wc', rfl, -⟩ := Rd.own HO.out
      go_wp2_with fail
      go_ret2
      have hs : scanL k to l = (l.take j).filter P := by rw [hml]; exact HSC.out.1
      refine ⟨_, _, _, rfl, ⟨cs, by rw [hs]; exact HM.out, Rd.own HO.out, by rw [hs]; exact (HE.out.below HB.out).mono fun _ _ => trivial⟩, HB5.out.trans (HB.out.mono HB5.out.size)⟩
def ScanR (es : List (Key × Int)) (c : Int) (w : World) (e : Ending) (w' : World) : Prop := ∃ a n c', e = .returned (.tuple #[.slice a n c', .int .i64 c]) ∧ EntV w' n (.slice a n c') es ∧ Below w.heap.size w w'
theorem NilIs.r {c : Int} {w : World} {e : Ending} {w' : World} (h : NilIs c w e w') : ScanR [] c w e w' := ⟨none, 0, 0, h.1, ⟨[], rfl, Rd.nil w' 2, trivial⟩, h.2⟩
theorem ScanV.r {es : List (Key × Int)} {w : World} {e : Ending} {w' : World} (h : ScanV es w e w') : ScanR es 0 w e w' := h
theorem scan_both {T : Tr} (k to : Key) (hs : Small T) : ∃ (es : List (Key × Int)) (c : Int), es.length ≤ 1000000 ∧
    (∀ (w : World) (ok ok1 ok2 : Nat → Prop) (tv kv mv : Value), (∀ b, ok b → b < w.heap.size) → RT w ok tv T → RB w ok1 kv k → RB w ok2 mv to → Calls Try.prog 17 #[tv, kv, mv] w (ScanR es c w)) ∧
    (∀ (w : World) (ok ok1 ok2 : Nat → Prop) (tv kv mv : Value), (∀ b, ok b → b < w.heap.size) → RT w ok tv T → RB w ok1 kv k → RB w ok2 mv to → Calls Try.prog 19 #[tv, kv, mv] w (ScanR es c w)) := by
  by_cases hb : T.pages.length ≤ 4000 ∧ Pass T
  · by_cases hk : k.length ≤ 100 ∧ to.length ≤ 100
    · obtain ⟨h, t, hr⟩ := pass_reps hb.2
      have hl := ent_len hr
      refine ⟨scanL k to (entT h t), 0, Nat.le_trans (List.length_filter_le _ _) (by omega), fun w ok ok1 ok2 tv kv mv h1 h2 h3 h4 => ?_, fun w ok ok1 ok2 tv kv mv h1 h2 h3 h4 => ?_⟩
      · exact (scan_ok w ok ok1 ok2 h1 tv kv mv T h t k to h2 hr h3 h4 hb.1 hs hk.1 hk.2 (by omega)).mono fun e w' q => q.v.r
      · exact (scanned_ok w ok ok1 ok2 h1 tv kv mv T h t k to h2 hr h3 h4 hb.1 hs.2 hk.1 hk.2).mono fun e w' q => q.r
    · refine ⟨[], 1, by simp, fun w ok ok1 ok2 tv kv mv h1 h2 h3 h4 => ?_, fun w ok ok1 ok2 tv kv mv h1 h2 h3 h4 => ?_⟩
      · obtain ⟨ak, ck, rfl⟩ := h3.sh
        obtain ⟨a2, c2, rfl⟩ := h4.sh
        exact (scan_size w ok h1 tv ak a2 _ ck _ c2 T h2 hs hb (by omega)).mono fun e w' q => q.r
      · obtain ⟨ak, ck, rfl⟩ := h3.sh
        obtain ⟨a2, c2, rfl⟩ := h4.sh
        exact (scanned_no w ok h1 tv ak a2 _ ck _ c2 T h2 hs.2 1 (.inr ⟨hb, by omega, rfl⟩)).mono fun e w' q => q.r
  · refine ⟨[], 11, by simp, fun w ok ok1 ok2 tv kv mv h1 h2 h3 h4 => ?_, fun w ok ok1 ok2 tv kv mv h1 h2 h3 h4 => ?_⟩
    · obtain ⟨ak, ck, rfl⟩ := h3.sh
      obtain ⟨a2, c2, rfl⟩ := h4.sh
      exact (scan_bad w ok h1 tv ak a2 _ ck _ c2 T h2 hs hb).mono fun e w' q => q.r
    · obtain ⟨ak, ck, rfl⟩ := h3.sh
      obtain ⟨a2, c2, rfl⟩ := h4.sh
      exact (scanned_no w ok h1 tv ak a2 _ ck _ c2 T h2 hs.2 11 (.inl ⟨hb, rfl⟩)).mono fun e w' q => q.r
end Go.Proofs.Ytacpeibkamfibaa

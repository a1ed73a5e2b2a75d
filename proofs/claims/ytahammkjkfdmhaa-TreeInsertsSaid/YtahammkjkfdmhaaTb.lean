/- What the document finds. -/
import Derived.Test.YtahammkjkfdmhaaTa
namespace Go.Proofs.Ytahammkjkfdmhaa
open Go.ChangeShapes Go.WideShapes Go.ChangeAt Go.RowKit
set_option linter.unusedVariables false
set_option linter.unusedSimpArgs false
set_option maxHeartbeats 4000000
set_option maxRecDepth 10000
theorem lookE_at {k : Key} {l : List (Key × Int)} {j : Nat} (hj : j < l.length) (hb : ∀ i (h : i < l.length), i < j → (l[i]).1 ≠ k) (he : (l[j]).1 = k) : lookE k l = some (l[j]).2 := by
  have hl : l = l.take j ++ l[j] :: l.drop (j + 1) := by rw [← List.drop_eq_getElem_cons hj, List.take_append_drop]
  obtain ⟨e, hee⟩ : ∃ e, e = l[j] := ⟨_, rfl⟩
  rw [← hee] at he hl ⊢
  unfold lookE
  rw [hl, List.find?_append]
  have h0 : (l.take j).find? (fun e => e.1 == k) = none := by
    rw [List.find?_eq_none]
    intro x hx
    obtain ⟨i, hi, rfl⟩ := List.getElem_of_mem hx
    rw [List.getElem_take]
    rw [List.length_take] at hi
    simpa using hb i (by omega) (by omega)
  rw [h0]
  simp [he]
theorem found_any (w : World) (ok : Nat → Prop) (hok : ∀ b, ok b → b < w.heap.size) (tv kv : Value) (T : Tr) (k : Key) (ht : RT w ok tv T) (hk : Rd w 1 k.length kv (bc k)) (hrr : Rng T.root) :
    Calls Try.prog 20 #[tv, kv] w (Two (findT T k).1 (findT T k).2 w) := by
  obtain ⟨a1, n1, c1, rfl⟩ := rt_shape ht
  have hb0 : Below w.heap.size w (w.alloc (.cells #[.slice a1 n1 c1, .int .i64 T.root] 24)) := (Below.refl _ _).alloc (Nat.le_refl _) _
  have htk := fun (W : World) (hB : Below w.heap.size w W) => treeKey_any W ok (fun b hb' => by have := hok b hb'; have := hB.size; omega) _ kv T k (ht.below hB) (hk.below hB) hrr
  have HTK := Lib.hid htk
  have HT := Lib.hid ht
  have HK := Lib.hid hk
  have HOK := Lib.hid hok
  have x0 : (w.alloc (.cells #[.slice a1 n1 c1, .int .i64 T.root] 24)).heap[w.heap.size]? = some (.cells #[.slice a1 n1 c1, .int .i64 T.root] 24 (0, 0)) := new0 _ _
  have HX0 := Lib.hid x0
  have HB0 := Lib.hid hb0
  clear htk ht hk hok x0 hb0
  go_enter Try.func20, Try.ntmps20
  go_wp2_with fail
  refine (HTK.out _ HB0.out).mono ?_
  rintro e w2 ⟨rfl, hb2⟩
  have HB2 := Lib.hid (into HB0.out hb2)
  have hx2 := (hb2.block w.heap.size (by simp)).trans HX0.out
  have hz2 := hb2.size
  simp only [World.size_alloc] at hz2
  have t0 := box2I hx2
  clear hb2 hx2
  by_cases hq : tkT T k = 0
  · have hb : T.pages.length ≤ 4000 ∧ Pass T := by
      by_cases hb : T.pages.length ≤ 4000 ∧ Pass T
      · exact hb
      · rw [tkT_bad hb] at hq; omega
    have hf : findT T k = ((lookE k (entsTr T)).getD 0, if (lookE k (entsTr T)).isSome then 0 else 8) := by unfold findT; rw [if_pos hq]
    obtain ⟨h, t, hr, he⟩ := ents_of hb.2
    rw [hq]
    rw [← he] at hf
    have hen := entriesOf_any w2 ok (fun b hb' => by have := HOK.out b hb'; omega) _ T (HT.out.below HB2.out) h t hr hb.1
    obtain ⟨es, hes⟩ : ∃ es, es = entT h t := ⟨_, rfl⟩
    rw [← hes] at hen hf
    have HFT := Lib.hid hf
    have HEN := Lib.hid hen
    clear hq hf hr he hes hen hb
    go_wp2_with fail
    refine HEN.out.mono ?_
    rintro e w3 ⟨v, cs, rfl, hown, hent, hb3, -⟩
    have hrd := Rd.own hown
    obtain ⟨n, hn⟩ : ∃ n, n = es.length := ⟨_, rfl⟩
    rw [← hn] at hrd
    have HRD := Lib.hid hrd
    have HN := Lib.hid hn
    have HE := Lib.hid hent
    have HB3 := Lib.hid (into HB2.out hb3)
    obtain ⟨_, ao, cap, rfl, hc1, hc2, _⟩ := hrd
    unfold maxLen at hc2
    clear hown hent hb3 hn t0
    go_wp2_with fail
    go_loopw [8] (fun ji wr => ∃ (j : Nat), j ≤ n ∧ ji = .int .i64 (j : Int) ∧ Hid (∀ i (h : i < es.length), i < j → (es[i]).1 ≠ k) ∧ Hid (Below w3.heap.size w3 wr)) (fun ji _ => n - (intOf ji).toNat)
    case atStart => exact ⟨0, by omega, rfl, (fun i h hi => by omega), Below.refl _ _⟩
    case round =>
      obtain ⟨j, hj, rfl, HF, HBL⟩ := hrel
      by_cases hlt : j < n
      · have hje : j < es.length := by rw [← HN.out]; exact hlt
        obtain ⟨b, o, cap', hv, _, _, hbw, g⟩ := HRD.out.pos (by omega) (by omega)
        simp only [Value.slice.injEq] at hv
        obtain ⟨rfl, -, rfl⟩ := hv
        obtain ⟨x, y1, y2, y3⟩ := HE.out.at_ (List.getElem?_eq_getElem hje)
        have d1 := (HBL.out.cell (p := ⟨b, o + j * 2, none⟩) hbw).trans (g _ _ y1)
        have d2 := (HBL.out.cell (p := ⟨b, o + j * 2 + 1, none⟩) hbw).trans (g _ _ y2)
        have hsk := same_any wr x kv _ k ((y3.below HBL.out).1) (HK.out.below (into HB3.out HBL.out))
        have HSK := Lib.hid hsk
        have HBB := Lib.hid (into HB3.out HBL.out)
        have HF2 := HF
        obtain ⟨r, hr⟩ : ∃ r, r = (es[j]).2 := ⟨_, rfl⟩
        rw [← hr] at d2
        clear y1 y2 y3 g hsk
        by_cases hq : (es[j]).1 = k
        · have hlk := Lib.hid (lookE_at hje HF.out hq)
          rw [decide_eq_true hq] at HSK
          clear hq
          go_wp2_with (go_at_call 27; refine HSK.out.mono ?_; rintro e w4 ⟨rfl, rfl⟩)
          go_ret2
          rw [HFT.out, hlk.out, ← hr]
          exact two_of rfl rfl HBB.out
        · rw [decide_eq_false hq] at HSK
          have HQ := Lib.hid hq
          clear hq
          go_wp2_with (go_at_call 27; refine HSK.out.mono ?_; rintro e w4 ⟨rfl, rfl⟩)
          go_roundw
          case rel => exact ⟨j + 1, by omega, by go_num, Lib.hid (fun i h hi => by
            rcases Nat.lt_or_ge i j with g | g
            · exact HF2.out i h g
            · obtain rfl : i = j := by omega
              exact HQ.out), HBL⟩
          case measure => simp [intOf]; omega
      · obtain rfl : j = n := by omega
        have hlk : lookE k es = none := lookE_none fun e he => by
          obtain ⟨i, hi, rfl⟩ := List.getElem_of_mem he
          exact HF.out i hi (by rw [HN.out]; exact hi)
        have HLK := Lib.hid hlk
        have HBB := Lib.hid (into HB3.out HBL.out)
        clear hlk
        go_wp2_with fail
        go_ret2
        rw [HFT.out, HLK.out]
        exact two_of rfl rfl HBB.out
  · have hf : findT T k = (0, tkT T k) := by unfold findT; rw [if_neg hq]
    have HFT := Lib.hid hf
    obtain ⟨q, hqq⟩ : ∃ q, q = tkT T k := ⟨_, rfl⟩
    rw [← hqq] at hq HFT ⊢
    have hq' : (q == 0) = false := beq_eq_false_iff_ne.2 hq
    clear hf hqq
    go_wp2_with fail
    go_ret2
    rw [HFT.out]
    exact two_of rfl rfl HB2.out
end Go.Proofs.Ytahammkjkfdmhaa

import Derived.Test.YtakhkcabahhohaaDoorD4
namespace Go.Proofs.YtakhkcabahhohaaDoor
open Go.ChangeShapes Go.WideShapes Go.ChangeAt Go.RowKit
set_option linter.unusedVariables false
set_option linter.unusedSimpArgs false
set_option maxHeartbeats 1000000
/-- A slice's length. -/
def lenV : Value → Nat | .slice _ n _ => n | _ => 0
/-- What is read so far, and what is still to be read. -/
def fin (acc : List V) (d : List V × Int) : List V × Int := if d.2 ≠ 0 then ([], d.2) else (acc ++ d.1, 0)
theorem fin_nil (d : List V × Int) (h : d.2 ≠ 0 → d.1 = []) : fin [] d = d := by
  obtain ⟨a, e⟩ := d
  unfold fin
  by_cases g : e = 0
  · simp [g]
  · have hg : a = [] := h g
    simp [g, hg]
theorem fin_step (acc : List V) (m : Nat) (k : UInt8) (r : List UInt8) (h : (tak k r).2.2 = 0) : fin acc (decm (m + 1) (k :: r)) = fin (acc ++ [(tak k r).1]) (decm m (tak k r).2.1) := by
  rw [decm, if_neg (by simpa using h)]
  by_cases g : (decm m (tak k r).2.1).2 = 0
  · rw [if_neg (by simpa using g)]
    simp [fin, g]
  · rw [if_pos g]
    simp [fin, g]
theorem tak_less (k : UInt8) (r : List UInt8) (h : (tak k r).2.2 = 0) : (tak k r).2.1.length ≤ r.length := by
  have h1 := (tak_is h).2
  have h2 := congrArg List.length h1
  simp only [List.length_cons, List.length_append, enc1] at h2
  omega
theorem dec_any (n : Nat) (v : Value) (l : List UInt8) (w : World) (hL : Lst w) (hr : Rd w 1 n v (bc l)) :
    Calls Tryd.prog 8 #[v] w fun e w' => ∃ v', e = .returned (.tuple #[v', .int .i64 (dec l).2]) ∧ w'.ownsRow w.heap.size 35 3 v' (dec l).1.length (vc (dec l).1) ∧ Below w.heap.size w w' := by
  have hnl := len_b hr
  have HR := Lib.hid hr
  obtain ⟨_, ao, cap, rfl, hc1, hc2, _, _⟩ := hr
  unfold maxLen at hc2
  by_cases h100 : 100 < n
  · have h100' : (100 : Int) < (n : Int) := by omega
    have he : dec l = ([], 5) := by rw [dec, if_pos (by omega)]
    have HE := Lib.hid he
    clear he hL
    go_enter Tryd.func8, Tryd.ntmps8
    go_wp2
    go_ret2
    rw [HE.out]
    exact ⟨_, rfl, World.ownsRow_nil _ _ _ _, Below.refl _ _⟩
  · have h100' : ¬ (100 : Int) < (n : Int) := by omega
    have he : dec l = decm 6 l := by rw [dec, if_neg (by omega)]
    have HE := Lib.hid he
    have HL := Lib.hid hL
    have HNL := Lib.hid hnl
    clear he hL hnl
    go_enter Tryd.func8, Tryd.ntmps8
    go_wp2
    go_loopw [0, 4] (fun vb vl wr => ∃ (rest : List UInt8) (acc : List V), Rd w 1 rest.length vb (bc rest) ∧ rest.length ≤ 100 ∧ wr.ownsRow w.heap.size 35 3 vl acc.length (vc acc) ∧ acc.length ≤ 6 ∧ fin acc (decm (6 - acc.length) rest) = decm 6 l ∧ Below w.heap.size w wr) (fun vb _ _ => lenV vb)
    case atStart =>
      refine ⟨l, [], ?_, ?_, by simpa [vc] using World.ownsRow_nil _ _ _ _, by simp, fin_nil _ (decm_bad 6 l), Below.refl _ _⟩
      · rw [← HNL.out]; exact HR.out
      · have := HNL.out; omega
    case round =>
      obtain ⟨rest, acc, hrd, hr100, hown, hacc, hfin, hb⟩ := hrel
      have hz := hb.size
      have HW := Lib.hid hown
      have HRD := Lib.hid hrd
      have HF := Lib.hid hfin
      clear hown hrd hfin
      cases rest with
      | nil =>
        obtain ⟨_, ao1, cap1, rfl, _⟩ := Rd.zero HRD.out
        go_wp2_with fail
        go_ret2
        have e : dec l = (acc, 0) := by
          rw [HE.out, ← HF.out]
          cases (6 - acc.length) <;> simp [decm, fin]
        rw [e]
        exact ⟨_, rfl, HW.out, hb⟩
      | cons k r =>
        have hrl : r.length ≤ 99 := by simpa using hr100
        obtain ⟨m, hm⟩ : ∃ m, m = r.length := ⟨_, rfl⟩
        have HM := Lib.hid hm
        have hml : m ≤ 99 := by omega
        have HRD2 : Hid (Rd w 1 (m + 1) u0 (bc (k :: r))) := by rw [hm]; exact HRD.out
        obtain ⟨_, ao1, cap1, rfl, hq1, hq2, _, _⟩ := HRD2.out
        unfold maxLen at hq2
        obtain ⟨_, ao2, cap2, rfl, _, _⟩ := Rd.own HW.out
        obtain ⟨q, hq⟩ : ∃ q, q = acc.length := ⟨_, rfl⟩
        rw [← hq] at HW hacc ⊢
        have HQ := Lib.hid hq
        clear hm hq hr100 hrl HRD
        by_cases h6 : q = 6
        · subst h6
          go_wp2_with fail
          go_ret2
          have e : dec l = ([], 1) := by
            rw [HE.out, ← HF.out, ← HQ.out]
            simp [decm, fin]
          rw [e]
          exact ⟨_, rfl, World.ownsRow_nil _ _ _ _, hb⟩
        · have h6' : ¬ (q : Int) = 6 := by omega
          obtain ⟨T, hT⟩ : ∃ T, T = tak k r := ⟨_, rfl⟩
          have ct := take_any m _ k r w wr hb hml (HL.out.below hb) HRD2.out
          rw [← hT] at ct
          have HT := Lib.hid hT
          clear hT
          have HCT := Lib.hid ct
          clear ct
          obtain ⟨⟨uk, un, ut⟩, r', e⟩ := T
          by_cases he : e = 0
          · subst he
            go_wp2_with (first | (go_at_call 16; refine HCT.out.mono ?_; rintro e w1 ⟨v1, rfl, hr1, hb1⟩; have hz1 := hb1.size; have HR1 := Lib.hid hr1; clear hr1) | (at_builtin; refine apv (w1.alloc _) rfl (.tmp 26) (.tmp 28) rfl ((own_below HW.out hb1).alloc _) (by simp; omega) (by omega) (w1.heap.size + 1) (by simp) rfl rfl ?_; intro v2 w2 hown2 hb2 _))
            go_roundw
            case rel =>
              have htk : (tak k r).2.2 = 0 := by rw [← HT.out]
              have h1 := tak_less k r htk
              have hM := HM.out
              rw [← HT.out] at h1
              simp only at h1
              refine ⟨r', acc ++ [⟨uk, un, ut⟩], HR1.out, by omega, ?_, ?_, ?_, ?_⟩
              · rw [vc_app, List.length_append, ← HQ.out]; exact hown2
              · rw [List.length_append, ← HQ.out]; simp; omega
              · rw [← HF.out]
                have e6 : 6 - acc.length = (6 - (acc ++ [(⟨uk, un, ut⟩ : V)]).length) + 1 := by
                  rw [List.length_append, ← HQ.out]; simp; omega
                rw [e6, fin_step _ _ _ _ htk, ← HT.out]
              · exact (((hb.trans (hb1.mono hz)).alloc (by omega) _).trans hb2)
            case measure =>
              have htk : (tak k r).2.2 = 0 := by rw [← HT.out]
              have h1 := tak_less k r htk
              have hM := HM.out
              rw [← HT.out] at h1
              simp only at h1
              obtain ⟨_, ao3, cap3, rfl, _, _⟩ := HR1.out
              simp [lenV]
              omega
          · have he' : (e == 0) = false := by simpa using he
            go_wp2_with (first | (go_at_call 16; refine HCT.out.mono ?_; rintro e w1 ⟨v1, rfl, hr1, hb1⟩; have hz1 := hb1.size; clear hr1) | fail)
            go_ret2
            have h6q : 6 - q = (5 - q) + 1 := by omega
            have ed : dec l = ([], e) := by
              rw [HE.out, ← HF.out, ← HQ.out, h6q, decm, ← HT.out]
              simp [fin, he]
            rw [ed]
            exact ⟨_, rfl, World.ownsRow_nil _ _ _ _, (hb.trans (hb1.mono hz)).alloc (by omega) _⟩
end Go.Proofs.YtakhkcabahhohaaDoor

/- Locks of raw numbers: as wishes make them. -/
import Derived.Test.YtpddlckkncmlmabDoorMu
namespace Go.Proofs.YtpddlckkncmlmabDoor
open Go.ChangeShapes Go.WideShapes Go.ChangeAt Go.RowKit
set_option linter.unusedVariables false
set_option linter.unusedSimpArgs false
set_option maxHeartbeats 16000000
set_option maxRecDepth 100000
theorem locks_any (w : World) (hT : Tog w ∧ Jnd w) (n : Nat) (v : Value) (l : List Wi) (hr : Rd w 3 n v (wic l)) (hs : ∀ o ∈ l, WiOk o) :
    Calls Tryd.prog 9 #[v] w fun e w' => ∃ (x1 : Option Addr) (n1 c1 : Nat) (x2 : Option Addr) (n2 c2 : Nat) (H Q : List Lk), e = .returned (.agg #[.slice x1 n1 c1, .slice x2 n2 c2]) ∧ Grown 40 H Q ∧ Rd w' 3 n1 (.slice x1 n1 c1) (lkc H) ∧ Rd w' 3 n2 (.slice x2 n2 c2) (lkc Q) ∧ Below w.heap.size w w' := by
  have hml : n = l.length := by have := hr.1; rw [wic_length] at this; omega
  have hmax := hr.len
  unfold maxLen at hmax
  obtain ⟨_, av, cv, rfl, _⟩ := id hr
  have HC : Hid (∀ k, k < n → ∃ b o, av = some ⟨b, o, none⟩ ∧ b < w.heap.size ∧ w.cell? ⟨b, o + k * 3, none⟩ = some (.int .i64 (l.getD k nwi).t) ∧ w.cell? ⟨b, o + k * 3 + 1, none⟩ = some (.int .i64 (l.getD k nwi).h) ∧ w.cell? ⟨b, o + k * 3 + 2, none⟩ = some (.int .i64 (l.getD k nwi).m)) := by
    refine Lib.hid fun k hk => ?_
    obtain ⟨b, o, cap, he, _, _, hbw, hc⟩ := wis_of hr (by omega)
    simp only [Value.slice.injEq] at he
    exact ⟨b, o, he.1, hbw, hc k hk⟩
  have HS : Hid (∀ k, k < n → WiOk (l.getD k nwi)) := by
    refine Lib.hid fun k hk => hs _ ?_
    simp only [List.getD, List.getElem?_eq_getElem (show k < l.length by omega), Option.getD_some]
    exact List.getElem_mem _
  obtain ⟨W0, hW0⟩ : ∃ W0 : World, W0 = (w.alloc (.cells #[.slice none 0 0, .slice none 0 0] 24)).alloc (.cells #[.slice none 0 0, .slice none 0 0] 24) := ⟨_, rfl⟩
  have hb0 : Below w.heap.size w W0 := by rw [hW0]; exact two_below _ _ _
  obtain ⟨g1, g2⟩ := two_new w (.cells #[.slice none 0 0, .slice none 0 0] 24) (.cells #[.slice none 0 0, .slice none 0 0] 24)
  rw [← hW0] at g1 g2
  have HG1 := Lib.hid g1
  have HLB : Hid (LB W0 (w.heap.size + 1) none 0 0 none 0 0 [] []) := ⟨g2, Rd.nil _ _, Rd.nil _ _⟩
  have HT := Lib.hid hT
  have HB0 := Lib.hid hb0
  have HW0 := Lib.hid hW0
  clear hr hs hT g1 g2 hb0 hW0 hml
  go_enter Tryd.func9, Tryd.ntmps9
  go_wp2_with fail
  rw [← HW0.out]
  go_loopw [4] (fun iv wr => ∃ (i : Nat) (x1 : Option Addr) (n1 c1 : Nat) (x2 : Option Addr) (n2 c2 : Nat) (H Q : List Lk), (i ≤ n ∧ i ≤ 40) ∧ iv = .int .i64 (i : Int) ∧ Hid (Grown i H Q) ∧ Hid (LB wr (w.heap.size + 1) x1 n1 c1 x2 n2 c2 H Q) ∧ Hid (wr.heap[w.heap.size]? = some (.cells #[.slice none 0 0, .slice none 0 0] 24 (0, 0))) ∧ Hid (Below w.heap.size w wr)) (fun iv _ => n - (intOf iv).toNat)
  case atStart => exact ⟨0, _, _, _, _, _, _, [], [], ⟨by omega, by omega⟩, rfl, grown_nil, HLB.out, HG1.out, HB0.out⟩
  case round =>
    obtain ⟨i, x1, n1, c1, x2, n2, c2, H, Q, ⟨hin, hi40⟩, rfl, HGR, HL, HR, HB⟩ := hrel
    have HEX : Hid (i = n ∨ i = 40 → ∀ y0 : Nat, y0 = 0 → (∃ z0 z1, wr.cell? ⟨w.heap.size, 0, none⟩ = some z0 ∧ wr.cell? ⟨w.heap.size, 1, none⟩ = some z1)) := fun _ _ _ => ⟨_, _, (box2 HR.out).1, (box2 HR.out).2.1⟩
    clear HEX
    by_cases hlt : i < n ∧ i < 40
    · obtain ⟨hlt, h40⟩ := hlt
      have hltI : (i : Int) < (n : Int) := by omega
      have h40I : (i : Int) < 40 := by omega
      obtain ⟨b, o, rfl, hbw, k0, k1, k2⟩ := HC.out i hlt
      have hok := HS.out i hlt
      obtain ⟨u, hu⟩ : ∃ u, u = l.getD i nwi := ⟨_, rfl⟩
      rw [← hu] at k0 k1 k2 hok
      have c0 := (HB.out.cell (p := ⟨b, o + i * 3, none⟩) hbw).trans k0
      have c1' := (HB.out.cell (p := ⟨b, o + i * 3 + 1, none⟩) hbw).trans k1
      have c2' := (HB.out.cell (p := ⟨b, o + i * 3 + 2, none⟩) hbw).trans k2
      obtain ⟨ut, uh, um⟩ := u
      simp only at c0 c1' c2'
      obtain ⟨⟨v1, v2⟩, v3⟩ := wiL_in ⟨ut, uh, um⟩
      have hlo := lockOf_any wr ut uh um (rn_of hok.1) (rn_of hok.2.1) (rn_of hok.2.2)
      obtain ⟨x, hx⟩ : ∃ x, x = wiL ⟨ut, uh, um⟩ := ⟨_, rfl⟩
      rw [← hx] at hlo v1 v2 v3
      obtain ⟨xt, xth, xm⟩ := x
      simp only at v1 v2
      have HLO : Hid (Calls Tryd.prog 16 #[.agg #[.int .i64 ut, .int .i64 uh, .int .i64 um]] wr fun e w' => e = .returned (.agg #[.int .i64 xt, .string xth, .int .i64 xm]) ∧ Below wr.heap.size wr w') := hlo
      have HCE := Lib.hid (And.intro k0 hbw)
      have hfew := HGR.out.few
      have hlen : H.length + Q.length ≤ 1000 := by omega
      clear k0 k1 k2 hu hx hlo hok
      go_wp2_with fail
      refine HLO.out.mono ?_
      rintro e w1 ⟨rfl, hb1⟩
      have hba : Below wr.heap.size wr (w1.alloc (.cells #[.int .i64 xt, .string xth, .int .i64 xm] 33)) := hb1.alloc hb1.size _
      obtain ⟨p0, p1, p2⟩ := BxL.new w1 ⟨xt, xth, xm⟩
      simp only at p0 p1 p2
      have hla := HL.out.below hba
      have hra := (hba.block _ (Array.getElem?_eq_some_iff.1 HR.out).1).trans HR.out
      have hca := cell_of_below hba c0
      obtain ⟨e0, e1, f0, f1⟩ := box2 hla.b
      clear c0 c1' c2'
      obtain ⟨Wa, hWa⟩ : ∃ Wa, Wa = w1.alloc (.cells #[.int .i64 xt, .string xth, .int .i64 xm] 33) := ⟨_, rfl⟩
      have HWA := Lib.hid hWa
      have hbw' : Below w.heap.size w Wa := by rw [hWa]; exact into HB.out hba
      rw [← hWa] at hla hra
      have HLA := Lib.hid hla
      have HRA := Lib.hid hra
      have HBA := Lib.hid hbw'
      have hPa : w.heap.size ≤ w.heap.size + 1 := by omega
      clear hla hra hbw' hba hWa hb1 HLO
      by_cases hneg : ut < 0
      · rcases hlv : leaveL H Q xt with ⟨H', Q', A, er⟩
        have her : er = 0 := by
          have := leave_e (t := xt) HGR.out.ok
          rw [hlv, if_neg (by omega)] at this
          exact this
        subst her
        have hgr := HGR.out.leave (t := xt) ⟨by omega, by omega⟩
        rw [hlv] at hgr
        have HG2 := Lib.hid (hgr.mono (m := i + 1) (by omega))
        have HLV := Lib.hid (leave_v Wa ⟨HT.out.1.below HBA.out, HT.out.2.below HBA.out⟩ HLA.out.h HLA.out.q hlen hlv)
        clear hgr hlv v3
        go_wp2_with fail
        rw [← HWA.out]
        refine HLV.out.mono ?_
        rintro e w2 ⟨y1, m1, d1, y2, m2, d2, y3, d3, rfl, g1, g2, -, hb2⟩
        have hbb : Below w2.heap.size w2 (w2.alloc (.cells #[.slice y1 m1 d1, .slice y2 m2 d2] 24)) := (Below.refl _ _).alloc (Nat.le_refl _) _
        have hl2 := (HLA.out.below hb2).below hbb
        have hr2 := ((into (Below.refl Wa.heap.size Wa) (into hb2 hbb)).block _ (Array.getElem?_eq_some_iff.1 HRA.out).1).trans HRA.out
        have hln := LB.new w2 g1 g2
        clear e0 e1 f0 f1 p0 p1 p2 hca
        obtain ⟨e0, e1, f0, f1⟩ := box2 hl2.b
        obtain ⟨d0, d1', -, -⟩ := box2 hln.b
        have hl3 := hl2.put (g1.below hbb) (g2.below hbb)
        have hb3 := put_below (into (into HBA.out hb2) hbb) hPa (.slice y1 m1 d1) (.slice y2 m2 d2)
        have hr3 := heap_far (P := w.heap.size + 1) (j := 1) (heap_far (P := w.heap.size + 1) (j := 0) hr2 (by omega) (.slice y1 m1 d1)) (by omega) (.slice y2 m2 d2)
        have HL3 := Lib.hid hl3
        have HB3 := Lib.hid hb3
        have HR3 := Lib.hid hr3
        clear hbb hl2 hr2 hln hl3 hb3 hr3 g1 g2 hb2 HLV
        go_wp2_with fail
        go_roundw
        case rel => exact ⟨i + 1, _, _, _, _, _, _, H', Q', ⟨by omega, by omega⟩, by go_num, HG2.out, HL3.out, HR3.out, HB3.out⟩
        case measure => (simp [intOf]) <;> omega
      · rcases hak : askL H Q ⟨xt, xth, xm⟩ with ⟨H', Q', bb, er⟩
        have HAK := Lib.hid (ask_v Wa ⟨HT.out.1.below HBA.out, HT.out.2.below HBA.out⟩ HLA.out.h HLA.out.q hlen hak)
        by_cases her : er = 0
        · subst her
          have hgr := HGR.out.ask (x := ⟨xt, xth, xm⟩) ⟨by show 1 ≤ xt; omega, by show xt ≤ 6; omega⟩ (by rw [hak])
          rw [hak] at hgr
          have HG2 := Lib.hid hgr
          clear hgr hak v3
          go_wp2_with fail
          rw [← HWA.out]
          refine HAK.out.mono ?_
          rintro e w2 ⟨y1, m1, d1, y2, m2, d2, rfl, g1, g2, hb2⟩
          have hbb : Below w2.heap.size w2 (w2.alloc (.cells #[.slice y1 m1 d1, .slice y2 m2 d2] 24)) := (Below.refl _ _).alloc (Nat.le_refl _) _
          have hl2 := (HLA.out.below hb2).below hbb
          have hr2 := ((into (Below.refl Wa.heap.size Wa) (into hb2 hbb)).block _ (Array.getElem?_eq_some_iff.1 HRA.out).1).trans HRA.out
          have hln := LB.new w2 g1 g2
          clear e0 e1 f0 f1 p0 p1 p2 hca
          obtain ⟨e0, e1, f0, f1⟩ := box2 hl2.b
          obtain ⟨d0, d1', -, -⟩ := box2 hln.b
          have hl3 := hl2.put (g1.below hbb) (g2.below hbb)
          have hb3 := put_below (into (into HBA.out hb2) hbb) hPa (.slice y1 m1 d1) (.slice y2 m2 d2)
          have hr3 := heap_far (P := w.heap.size + 1) (j := 1) (heap_far (P := w.heap.size + 1) (j := 0) hr2 (by omega) (.slice y1 m1 d1)) (by omega) (.slice y2 m2 d2)
          have HL3 := Lib.hid hl3
          have HB3 := Lib.hid hb3
          have HR3 := Lib.hid hr3
          clear hbb hl2 hr2 hln hl3 hb3 hr3 g1 g2 hb2 HAK
          go_wp2_with fail
          go_roundw
          case rel => exact ⟨i + 1, _, _, _, _, _, _, H', Q', ⟨by omega, by omega⟩, by go_num, HG2.out, HL3.out, HR3.out, HB3.out⟩
          case measure => (simp [intOf]) <;> omega
        · have herb : (er == 0) = false := by simpa using her
          have HG2 := Lib.hid (HGR.out.mono (m := i + 1) (by omega))
          clear hak v3
          go_wp2_with fail
          rw [← HWA.out]
          refine HAK.out.mono ?_
          rintro e w2 ⟨y1, m1, d1, y2, m2, d2, rfl, g1, g2, hb2⟩
          have hbb : Below w2.heap.size w2 (w2.alloc (.cells #[.slice y1 m1 d1, .slice y2 m2 d2] 24)) := (Below.refl _ _).alloc (Nat.le_refl _) _
          have HL3 := Lib.hid ((HLA.out.below hb2).below hbb)
          have HR3 := Lib.hid (((into (Below.refl Wa.heap.size Wa) (into hb2 hbb)).block _ (Array.getElem?_eq_some_iff.1 HRA.out).1).trans HRA.out)
          have HB3 := Lib.hid (into (into HBA.out hb2) hbb)
          clear e0 e1 f0 f1 p0 p1 p2 hca hbb g1 g2 hb2 HAK
          go_wp2_with fail
          go_roundw
          case rel => exact ⟨i + 1, _, _, _, _, _, _, H, Q, ⟨by omega, by omega⟩, by go_num, HG2.out, HL3.out, HR3.out, HB3.out⟩
          case measure => (simp [intOf]) <;> omega
    · obtain ⟨e0, e1, -, -⟩ := box2 HL.out.b
      have hlr : LB wr w.heap.size none 0 0 none 0 0 [] [] := ⟨HR.out, Rd.nil _ _, Rd.nil _ _⟩
      obtain ⟨r0, r1, f0, f1⟩ := box2 hlr.b
      have hl3 := hlr.put HL.out.h HL.out.q
      obtain ⟨z0, z1, -, -⟩ := box2 hl3.b
      have hb3 := put_below HB.out (Nat.le_refl _) (.slice x1 n1 c1) (.slice x2 n2 c2)
      have HL3 := Lib.hid hl3
      have HB3 := Lib.hid hb3
      have HG2 := Lib.hid (HGR.out.mono (m := 40) hi40)
      clear hlr hl3 hb3
      by_cases hn : i = n
      · have hnI : ¬ (i : Int) < (n : Int) := by omega
        clear hlt
        go_wp2_with fail
        refine bodyPost_ret (by simp [results, Tryd.results9, go_sem, z0, z1]; try rfl) rfl ?_
        exact ⟨x1, n1, c1, x2, n2, c2, rfl, H, Q, HG2.out, HL3.out.h, HL3.out.q, HB3.out⟩
      · have hnI : (i : Int) < (n : Int) := by omega
        have h40I : ¬ (i : Int) < 40 := by omega
        clear hlt
        go_wp2_with fail
        refine bodyPost_ret (by simp [results, Tryd.results9, go_sem, z0, z1]; try rfl) rfl ?_
        exact ⟨x1, n1, c1, x2, n2, c2, rfl, H, Q, HG2.out, HL3.out.h, HL3.out.q, HB3.out⟩
end Go.Proofs.YtpddlckkncmlmabDoor

/- Ops folded over a stack of values: the program's loop. -/
import Derived.Test.YtfbmnkkpbcdjfaaDoorKd
import Derived.Test.YtfbmnkkpbcdjfaaDoorYd
namespace Go.Proofs.YtfbmnkkpbcdjfaaDoor
open Go.ChangeShapes Go.WideShapes Go.ChangeAt Go.RowKit
set_option linter.unusedVariables false
set_option linter.unusedSimpArgs false
set_option maxHeartbeats 8000000
set_option maxRecDepth 1000000
/-- What a fold over values answers, by what the stack makes of the ops. -/
def FoldVIs (R : Int × List V) (w : World) (e : Ending) (w' : World) : Prop := e = .returned (.tuple #[va (if R.1 ≠ 0 then nul else R.2.headD nul), .int .i64 R.1]) ∧ Below w.heap.size w w'
theorem own_nilcap {w : World} {B e s n cp : Nat} {ao : Option Addr} {xs : List Value} (h : w.ownsRow B e s (.slice ao n cp) n xs) : (∀ a, ao = some a → ∃ g, a = ⟨g, 0, none⟩ ∧ g < w.heap.size) ∧ (ao = none → cp = 0) ∧ n ≤ cp := by
  have hl := h.lt
  rcases h.2 with ⟨hv, h0⟩ | ⟨g, c, cur, hv, h1, h2, h3, _⟩
  · simp only [Value.slice.injEq] at hv
    obtain ⟨rfl, rfl, rfl⟩ := hv
    exact ⟨fun a h => (by cases h), fun _ => rfl, Nat.le_refl _⟩
  · simp only [Value.slice.injEq] at hv
    obtain ⟨rfl, _, rfl⟩ := hv
    exact ⟨fun a h => (by cases h; exact ⟨g, rfl, (hl g rfl).2⟩), fun h => (by cases h), by omega⟩
theorem st3c {w : World} {B : Nat} {x y z : Value} {T : TypeId} (h : w.heap[B]? = some (.cells #[x, y, z] T (0, 0))) (a b c : Value) :
    (w.setCell ⟨B, 0, none⟩ a).cell? ⟨B, 0, none⟩ = some a ∧ ((w.setCell ⟨B, 0, none⟩ a).setCell ⟨B, 1, none⟩ b).cell? ⟨B, 1, none⟩ = some b ∧ (((w.setCell ⟨B, 0, none⟩ a).setCell ⟨B, 1, none⟩ b).setCell ⟨B, 2, none⟩ c).cell? ⟨B, 2, none⟩ = some c := by
  have h0 := Lib.heap_setCell_same (i := 0) h a
  have h1 := Lib.heap_setCell_same (i := 1) h0 b
  have h2 := Lib.heap_setCell_same (i := 2) h1 c
  refine ⟨?_, ?_, ?_⟩
  · simp only [World.cell?]; rw [h0]; simp
  · simp only [World.cell?]; rw [h1]; simp
  · simp only [World.cell?]; rw [h2]; simp
theorem foldV_any (w : World) (m : Nat) (v : Value) (ops : List Oq) (l : List Cq) (r : List V) (RB CB : Nat) (hr : Rd w 5 m v (ocs ops)) (hex : exprF ops = 0)
    (hlf : ∀ W, Below w.heap.size w W → ∀ o ∈ ops, wks o.k = 0 → Calls Tryd.prog 31 #[.agg #[.int .i64 o.k, .int .i64 o.v.k, .int .i64 o.v.n, .string o.v.t, .string o.t], .pointer (some ⟨RB, 0, none⟩), .pointer (some ⟨CB, 0, none⟩)] W (ValIs (lfV l r o) W)) :
    Calls Tryd.prog 30 #[v, (.func (.func 31) #[] #[.pointer (some ⟨RB, 0, none⟩), .pointer (some ⟨CB, 0, none⟩)]), .func (.func 16) #[] #[], .func (.func 15) #[] #[]] w (FoldVIs (rnF (lfV l r) onV twV [] ops) w) := by
  have hml := len_o hr
  have h40 : m ≤ 40 ∧ exF 0 ops = 0 := by
    unfold exprF at hex
    split at hex
    · omega
    · exact ⟨by omega, hex⟩
  have hm0 : 0 < m := by
    rcases Nat.eq_zero_or_pos m with h | h
    · have : ops = [] := List.eq_nil_of_length_eq_zero (by omega)
      rw [this] at h40
      simp [exF] at h40
    · exact h
  obtain ⟨b, o, cap, rfl, _, _, hbw, hcell⟩ := ops_of hr hm0
  have HC := Lib.hid hcell
  have HML := Lib.hid hml
  have HLF := Lib.hid hlf
  have HEX := Lib.hid h40.2
  obtain ⟨R, hR⟩ : ∃ R, R = rnF (lfV l r) onV twV [] ops := ⟨_, rfl⟩
  have HR := Lib.hid hR
  rw [← hR]
  have h40' := h40.1
  clear hcell hml hlf hr hex h40 hR
  obtain ⟨W0, hW0⟩ : ∃ W0, W0 = (w.alloc (.cells #[.int .i64 0, .int .i64 0, .string ⟨#[]⟩] 36)).alloc (.cells #[.int .i64 0, .int .i64 0, .string ⟨#[]⟩] 36) := ⟨_, rfl⟩
  have HB0 : Hid (Below w.heap.size w W0) := Lib.hid (by subst hW0; exact ((Below.refl _ _).alloc (Nat.le_refl _) _).alloc (by simp) _)
  have hz0 : W0.heap.size = w.heap.size + 2 := by subst hW0; simp
  have HR0 : Hid (W0.heap[w.heap.size]? = some (.cells #[.int .i64 0, .int .i64 0, .string ⟨#[]⟩] 36 (0, 0))) := Lib.hid (by subst hW0; rw [Below.heap_alloc _ _ _ (by simp)]; exact heap_alloc_new w _)
  have HN0 : Hid (W0.heap[w.heap.size + 1]? = some (.cells #[.int .i64 0, .int .i64 0, .string ⟨#[]⟩] 36 (0, 0))) := Lib.hid (by subst hW0; have h := heap_alloc_new (w.alloc (.cells #[.int .i64 0, .int .i64 0, .string ⟨#[]⟩] 36)) (.cells #[.int .i64 0, .int .i64 0, .string ⟨#[]⟩] 36); simpa using h)
  go_enter Tryd.func30, Tryd.ntmps30
  go_wp2_with fail
  rw [← hW0]
  clear hW0
  go_loopw [11, 19] (fun u i wr => ∃ (k : Nat) (st : List V), k ≤ m ∧ i = .int .i64 (k : Int) ∧ st.length ≤ k ∧ Hid (wr.ownsRow W0.heap.size 36 3 u st.length (vc st.reverse)) ∧ Hid (exF (st.length : Int) (ops.drop k) = 0) ∧ Hid (R = rnF (lfV l r) onV twV st (ops.drop k)) ∧ Hid (Below W0.heap.size W0 wr)) (fun _ i _ => m - (intOf i).toNat)
  case atStart => exact ⟨0, [], by omega, rfl, by simp, World.ownsRow_nil _ _ _ _, HEX.out, HR.out, Below.refl _ _⟩
  case round =>
    obtain ⟨k, st, hk, rfl, hsk, HU, HE, HRN, HB⟩ := hrel
    have hwz := HB.out.size
    obtain ⟨ao, cp, rfl⟩ := own_shape HU.out
    obtain ⟨hao, hao0, hqc⟩ := own_nilcap HU.out
    have HAO := Lib.hid hao
    have HAOG : Hid (∀ a, ao = some a → ∃ g, a = ⟨g, 0, none⟩) := Lib.hid fun a h => (by obtain ⟨g, h1, _⟩ := hao a h; exact ⟨g, h1⟩)
    have HAZ := Lib.hid hao0
    clear hao hao0
    have HBW := Lib.hid (HB0.out.trans (HB.out.mono HB0.out.size))
    have HRB := Lib.hid ((HB.out.block w.heap.size (by omega)).trans HR0.out)
    have HNB := Lib.hid ((HB.out.block (w.heap.size + 1) (by omega)).trans HN0.out)
    obtain ⟨n0, n1, n2, -, -, -⟩ := box3 HNB.out
    by_cases hlt : k < m
    · have hkl : k < ops.length := by rw [← HML.out]; exact hlt
      obtain ⟨g0, g1, g2, g3, g4⟩ := HC.out k hlt
      have c0 := cell_blz HBW.out g0
      have c1 := cell_blz HBW.out g1
      have c2 := cell_blz HBW.out g2
      have c3 := cell_blz HBW.out g3
      have c4 := cell_blz HBW.out g4
      have hdr := drop_cons hkl
      have hmem : ops.getD k noq ∈ ops := by
        rw [List.getD_eq_getElem?_getD, List.getElem?_eq_getElem hkl]
        exact List.getElem_mem hkl
      obtain ⟨x, hx⟩ : ∃ x, x = ops.getD k noq := ⟨_, rfl⟩
      rw [← hx] at c0 c1 c2 c3 c4 hdr hmem
      have he := HE.out
      rw [hdr] at he
      obtain ⟨ho, hw, he2⟩ := ex_cons he
      have hrn := HRN.out
      rw [hdr] at hrn
      have hkind := opF_kind ho
      have HRX := Lib.hid hrn
      have HE2 := Lib.hid he2
      have q0 := cell_blz ((Below.refl wr.heap.size wr).alloc (Nat.le_refl _) (.cells #[.int .i64 x.k, .int .i64 x.v.k, .int .i64 x.v.n, .string x.v.t, .string x.t] 43)) n0
      have q1 := cell_blz ((Below.refl wr.heap.size wr).alloc (Nat.le_refl _) (.cells #[.int .i64 x.k, .int .i64 x.v.k, .int .i64 x.v.n, .string x.v.t, .string x.t] 43)) n1
      have q2 := cell_blz ((Below.refl wr.heap.size wr).alloc (Nat.le_refl _) (.cells #[.int .i64 x.k, .int .i64 x.v.k, .int .i64 x.v.n, .string x.v.t, .string x.t] 43)) n2
      obtain ⟨W1, hW1⟩ : ∃ W1, W1 = (wr.alloc (.cells #[.int .i64 x.k, .int .i64 x.v.k, .int .i64 x.v.n, .string x.v.t, .string x.t] 43)).alloc (.cells #[.int .i64 0, .int .i64 0, .string ⟨#[]⟩] 36) := ⟨_, rfl⟩
      have HB1 : Hid (Below wr.heap.size wr W1) := Lib.hid (by subst hW1; exact ((Below.refl _ _).alloc (Nat.le_refl _) _).alloc (by simp) _)
      have hz1 : W1.heap.size = wr.heap.size + 2 := by subst hW1; simp
      have HO1 : Hid (W1.heap[wr.heap.size]? = some (.cells #[.int .i64 x.k, .int .i64 x.v.k, .int .i64 x.v.n, .string x.v.t, .string x.t] 43 (0, 0))) := Lib.hid (by subst hW1; rw [Below.heap_alloc _ _ _ (by simp)]; exact heap_alloc_new wr _)
      have HM1 : Hid (W1.heap[wr.heap.size + 1]? = some (.cells #[.int .i64 0, .int .i64 0, .string ⟨#[]⟩] 36 (0, 0))) := Lib.hid (by subst hW1; have h := heap_alloc_new (wr.alloc (.cells #[.int .i64 x.k, .int .i64 x.v.k, .int .i64 x.v.n, .string x.v.t, .string x.t] 43)) (.cells #[.int .i64 0, .int .i64 0, .string ⟨#[]⟩] 36); simpa using h)
      have HBF : Hid (Below w.heap.size w W1) := Lib.hid (into HBW.out HB1.out)
      have HLX := Lib.hid (HLF.out W1 HBF.out x hmem)
      obtain ⟨q, hq⟩ : ∃ q, q = st.length := ⟨_, rfl⟩
      have HQ := Lib.hid hq
      have HU2 := HU.out
      rw [← hq] at HU2 hqc hsk hw
      have HUQ := Lib.hid HU2
      have hwk : wks x.k = if x.k = 1 ∨ x.k = 2 then 0 else if x.k = 5 ∨ x.k = 11 then 1 else 2 := rfl
      rw [← hq]
      have HW1 := Lib.hid hW1
      clear g0 g1 g2 g3 g4 hdr hx he ho he2 hrn hkl HE HRN HU2 hq HU hmem hW1
      /- what follows a call that made re and rv: the box holds it, the stack's beginning is s' of p things -/
      by_cases hk12 : x.k = 1 ∨ x.k = 2
      · have hw0 : wks x.k = 0 := by rw [hwk, if_pos hk12]
        have HRL : Hid (R = if (lfV l r x).1 ≠ 0 then ((lfV l r x).1, []) else rnF (lfV l r) onV twV ((lfV l r x).2 :: st) (ops.drop (k + 1))) := by
          show _ = _
          rw [HRX.out, rn_leaf (lfV l r) onV twV hw0]
        have HLY := Lib.hid (HLX.out hw0)
        obtain ⟨⟨re, rv⟩, hre⟩ : ∃ r0, r0 = lfV l r x := ⟨_, rfl⟩
        rw [← hre] at HLY HRL
        have HRE : Hid (re = 0) := Lib.hid (by have h : (re, rv).1 = (lfV l r x).1 := by rw [hre]
                                               exact h)
        obtain ⟨xk, ⟨vk, vn, vt⟩, xt⟩ := x
        simp only at c0 c1 c2 c3 c4 hk12 HLY HBF HRL HE2 hw0 HO1 HW1 q0 q1 q2
        clear hre HRX hwk hw hkind HLX
        obtain rfl : re = 0 := HRE.out
        rcases hk12 with rfl | rfl
        all_goals (
          go_wp2_with fail
          rw [← HW1.out]
          refine HLY.out.mono ?_
          rintro e w2 ⟨rfl, hb2⟩
          have hbx := (hb2.block (wr.heap.size + 1) (by omega)).trans HM1.out
          obtain ⟨z0, z1, z2, f0, f1, f2⟩ := box3 hbx
          have s3 := st3 (hb2.mono (show wr.heap.size + 1 ≤ _ by omega)) hbx (.int .i64 rv.k) (.int .i64 rv.n) (.string rv.t)
          go_wp2_with fail
          obtain ⟨w3, hw3⟩ : ∃ w3, w3 = (((w2.setCell ⟨wr.heap.size + 1, 0, none⟩ (.int .i64 rv.k)).setCell ⟨wr.heap.size + 1, 1, none⟩ (.int .i64 rv.n)).setCell ⟨wr.heap.size + 1, 2, none⟩ (.string rv.t)) := ⟨_, rfl⟩
          rw [← hw3] at s3 ⊢
          clear hw3 z0 z1 z2 f0 f1 f2 hbx hb2
          have HLS : Hid (st.length = q) := HQ.out.symm
          have HE3 : Hid (exF ((q : Int) + 1) (ops.drop (k + 1)) = 0) := by
            show _ = _
            rw [← HE2.out, hw0, ← HQ.out]
            (congr 1) <;> omega
          obtain ⟨hb3, hz3, hbx3⟩ := s3
          have B3 : Below wr.heap.size wr w3 := HB1.out.trans (hb3.mono (by omega))
          have HB3 := Lib.hid (into HB.out B3)
          obtain ⟨m0, m1, m2, -, -, -⟩ := box3 hbx3
          have hz4 := HB3.out.size
          have O3 := Lib.hid (own_below HUQ.out B3)
          change Code.wp _ ((regionOf 20 (Tryd.f30.body.getD .skip)).getD .skip) _ _ _
          refine k20 _ _ _ _ _ _ _ _ _ _ _ _ _ _ _ _ _ _ _ _ _ _ _ _ _ _ _ _ _ _ _ _ _ _ _ _ _ _ _ _ _ _ _ _ _ _ _ _ _ _ _ _ _ _ _ _ _ _ _ _ _ _ _ _ _ _ _ _ _ _ _ _ _ _ _ _ _ _ _ _ _ _ _ w3 W0.heap.size (wr.heap.size + 1) q q cp _ st.reverse rv hz4 (by omega) hqc (by omega) HAOG.out HAZ.out m0 m1 m2 O3 ?_
          refine Lib.hid ?_
          intro u75 u76 u77 u78 u79 u80 u11 w4 h1 h2
          have H1 := Lib.hid h1
          have H4 := Lib.hid (HB3.out.trans h2)
          clear h1 h2 hb3 hz3 hbx3 B3 m0 m1 m2 hz4
          go_wp2_with fail
          go_roundw
          case rel =>
            refine ⟨k + 1, rv :: st, by omega, by go_num, by rw [List.length_cons, HLS.out]; omega, ?_, ?_, ?_, H4.out⟩
            · show World.ownsRow _ _ _ _ _ _ _
              rw [List.length_cons, HLS.out, vrev_push, vc_app]
              exact H1.out
            · show _ = _
              rw [List.length_cons, HLS.out]
              have h := HE3.out
              simpa using h
            · show _ = _
              rw [HRL.out]
              rfl
          case measure => (simp [intOf]) <;> omega
          )
      · by_cases hk511 : x.k = 5 ∨ x.k = 11
        · have hw1 : wks x.k = 1 := by rw [hwk, if_neg hk12, if_pos hk511]
          obtain ⟨p, rfl⟩ : ∃ p, q = p + 1 := ⟨q - 1, by omega⟩
          obtain ⟨a, s', hst⟩ : ∃ a s', st = a :: s' := by
            match st, HQ.out with
            | a :: s', _ => exact ⟨a, s', rfl⟩
            | [], h => simp at h
          have hsl : s'.length = p := by have := HQ.out; rw [hst] at this; simp at this; omega
          obtain ⟨t1, t2⟩ := vrev_top hst
          rw [hsl] at t1 t2
          have HRL : Hid (R = if (onV x.k a).1 ≠ 0 then ((onV x.k a).1, []) else rnF (lfV l r) onV twV ((onV x.k a).2 :: s') (ops.drop (k + 1))) := by
            show _ = _
            rw [HRX.out, hst, rn_un (lfV l r) onV twV hw1]
          have HON := Lib.hid (fun w => oneV_any w x.k a)
          obtain ⟨⟨re, rv⟩, hre⟩ : ∃ r0, r0 = onV x.k a := ⟨_, rfl⟩
          rw [← hre] at HRL HON
          obtain ⟨g, rfl, hg0, hg1, hg2⟩ := own_cell3 HUQ.out t2
          obtain ⟨_, hgq, hgl⟩ := HAO.out _ rfl
          obtain rfl := (Addr.mk.inj hgq).1
          have a0 := cell_blz HB1.out hg0
          have a1 := cell_blz HB1.out hg1
          have a2 := cell_blz HB1.out hg2
          have O0 := own_take HUQ.out p (by omega)
          rw [vc_take, t1] at O0
          have HOT := Lib.hid O0
          have HLS := Lib.hid hsl
          have HE3 : Hid (exF ((p : Int) + 1) (ops.drop (k + 1)) = 0) := by
            show _ = _
            rw [← HE2.out, hw1, ← HQ.out]
            congr 1
            omega
          have hk1 : W1.cell? ⟨wr.heap.size, 0, none⟩ = some (.int .i64 x.k) := by simp only [World.cell?]; rw [HO1.out]; rfl
          obtain ⟨xk, ⟨vk, vn, vt⟩, xt⟩ := x
          simp only at c0 c1 c2 c3 c4 HBF HRL HON HE2 HO1 HW1 q0 q1 q2 hk1 hk511
          clear hre HRX hwk hw hkind hst hsl t1 t2 hg0 hg1 hg2 O0 HE2 HLX HQ hgq HAO hw1 hk12
          rcases hk511 with rfl | rfl
          all_goals (
            go_wp2_with fail
            rw [← HW1.out]
            change Code.wp _ ((regionOf 17 (Tryd.f30.body.getD .skip)).getD .skip) _ _ _
            refine k17 _ _ _ _ _ _ _ _ _ _ _ _ _ _ _ _ _ _ _ _ _ _ _ _ _ _ _ _ _ _ _ _ _ _ _ _ _ _ _ _ _ _ _ _ _ _ _ _ _ _ _ _ _ _ _ _ _ _ _ _ _ _ _ _ _ _ _ _ _ _ _ _ _ _ _ _ _ _ _ _ _ W1 wr.heap.size (wr.heap.size + 1) g (p + 1) p cp _ re a rv _ _ _ (by omega) (by omega) (by omega) (by omega) (by omega) hk1 a0 a1 a2 HM1 HON ?_
            refine Lib.hid ?_
            intro d0 d1 d2 d3 d4 d5 d6 d7 d8 d9 d10 w3 hb3 hz3 hbx3
            clear hk1 a0 a1 a2 
            by_cases h0 : re = 0
            · subst h0
              have s3 : Below (wr.heap.size + 1) W1 w3 ∧ wr.heap.size + 1 < w3.heap.size ∧ w3.heap[wr.heap.size + 1]? = some (.cells #[.int .i64 rv.k, .int .i64 rv.n, .string rv.t] 36 (0, 0)) := ⟨hb3, hz3, hbx3⟩
              clear hb3 hz3 hbx3
              go_wp2_with fail
              obtain ⟨hb3, hz3, hbx3⟩ := s3
              have B3 : Below wr.heap.size wr w3 := HB1.out.trans (hb3.mono (by omega))
              have HB3 := Lib.hid (into HB.out B3)
              obtain ⟨m0, m1, m2, -, -, -⟩ := box3 hbx3
              have hz4 := HB3.out.size
              have O3 := Lib.hid (own_below HOT.out B3)
              change Code.wp _ ((regionOf 20 (Tryd.f30.body.getD .skip)).getD .skip) _ _ _
              refine k20 _ _ _ _ _ _ _ _ _ _ _ _ _ _ _ _ _ _ _ _ _ _ _ _ _ _ _ _ _ _ _ _ _ _ _ _ _ _ _ _ _ _ _ _ _ _ _ _ _ _ _ _ _ _ _ _ _ _ _ _ _ _ _ _ _ _ _ _ _ _ _ _ _ _ _ _ _ _ _ _ _ _ _ w3 W0.heap.size (wr.heap.size + 1) (p + 1) p cp _ s'.reverse rv hz4 (by omega) hqc (by omega) HAOG.out HAZ.out m0 m1 m2 O3 ?_
              refine Lib.hid ?_
              intro u75 u76 u77 u78 u79 u80 u11 w4 h1 h2
              have H1 := Lib.hid h1
              have H4 := Lib.hid (HB3.out.trans h2)
              clear h1 h2 hb3 hz3 hbx3 B3 m0 m1 m2 hz4
              go_wp2_with fail
              go_roundw
              case rel =>
                refine ⟨k + 1, rv :: s', by omega, by go_num, by rw [List.length_cons, HLS.out]; omega, ?_, ?_, ?_, H4.out⟩
                · show World.ownsRow _ _ _ _ _ _ _
                  rw [List.length_cons, HLS.out, vrev_push, vc_app]
                  exact H1.out
                · show _ = _
                  rw [List.length_cons, HLS.out]
                  have h := HE3.out
                  simpa using h
                · show _ = _
                  rw [HRL.out]
                  rfl
              case measure => (simp [intOf]) <;> omega
            · have h0' : (re == 0) = false := by simpa using h0
              have B3 : Below wr.heap.size wr w3 := HB1.out.trans (hb3.mono (by omega))
              have RB3 := Lib.hid ((B3.block w.heap.size (by omega)).trans HRB.out)
              obtain ⟨y0, y1, y2, f0, f1, f2⟩ := box3 RB3.out
              obtain ⟨r0, r1, r2, -, -, -⟩ := box3 ((B3.block (w.heap.size + 1) (by omega)).trans HNB.out)
              have BW3 := Lib.hid (HBW.out.trans (B3.mono HBW.out.size))
              clear hb3 hz3 hbx3 B3
              obtain ⟨v0, v1, v2⟩ := st3c RB3.out (.int .i64 0) (.int .i64 0) (.string ⟨#[]⟩)
              go_wp2_with fail
              (try simp only [Exit.inBlock, Exit.then])
              refine bodyPost_ret (by simp [results, Tryd.results30, go_sem, v0, v1, v2]; try rfl) rfl ?_
              refine ⟨?_, (st3 BW3.out RB3.out _ _ _).1⟩
              rw [HRL.out]
              simp [h0, nul])
        · have hw2 : wks x.k = 2 := by rw [hwk, if_neg hk12, if_neg hk511]
          obtain ⟨p, rfl⟩ : ∃ p, q = p + 2 := ⟨q - 2, by omega⟩
          obtain ⟨a, c, s', hst⟩ : ∃ a c s', st = c :: a :: s' := by
            match st, HQ.out with
            | c :: a :: s', _ => exact ⟨a, c, s', rfl⟩
            | [], h => simp at h
            | [_], h => simp at h
          have hsl : s'.length = p := by have := HQ.out; rw [hst] at this; simp at this; omega
          obtain ⟨t1, t2, t3⟩ := vrev_two hst
          rw [hsl] at t1 t2 t3
          have HRL : Hid (R = if (twV x.k a c).1 ≠ 0 then ((twV x.k a c).1, []) else rnF (lfV l r) onV twV ((twV x.k a c).2 :: s') (ops.drop (k + 1))) := by
            show _ = _
            rw [HRX.out, hst, rn_bi (lfV l r) onV twV hw2]
          have HON := Lib.hid (fun w => twoV_any w x.k a c)
          obtain ⟨⟨re, rv⟩, hre⟩ : ∃ r0, r0 = twV x.k a c := ⟨_, rfl⟩
          rw [← hre] at HRL HON
          obtain ⟨g, rfl, hg0, hg1, hg2⟩ := own_cell3 HUQ.out t2
          obtain ⟨g', hgg, hh0, hh1, hh2⟩ := own_cell3 HUQ.out t3
          obtain rfl : g = g' := by simpa using hgg
          have b0 := cell_blz HB1.out hh0
          have b1 := cell_blz HB1.out hh1
          have b2 := cell_blz HB1.out hh2
          obtain ⟨_, hgq, hgl⟩ := HAO.out _ rfl
          obtain rfl := (Addr.mk.inj hgq).1
          have a0 := cell_blz HB1.out hg0
          have a1 := cell_blz HB1.out hg1
          have a2 := cell_blz HB1.out hg2
          have O0 := own_take HUQ.out p (by omega)
          rw [vc_take, t1] at O0
          have HOT := Lib.hid O0
          have HLS := Lib.hid hsl
          have HE3 : Hid (exF ((p : Int) + 1) (ops.drop (k + 1)) = 0) := by
            show _ = _
            rw [← HE2.out, hw2, ← HQ.out]
            congr 1
            omega
          have hk1 : W1.cell? ⟨wr.heap.size, 0, none⟩ = some (.int .i64 x.k) := by simp only [World.cell?]; rw [HO1.out]; rfl
          have e1 : (x.k == 1) = false := by simp; omega
          have e2 : (x.k == 2) = false := by simp; omega
          have e5 : (x.k == 5) = false := by simp; omega
          have e11 : (x.k == 11) = false := by simp; omega
          obtain ⟨xk, ⟨vk, vn, vt⟩, xt⟩ := x
          simp only at c0 c1 c2 c3 c4 HBF HRL HON HE2 HO1 HW1 q0 q1 q2 hk1 e1 e2 e5 e11
          clear hre HRX hwk hw hkind hst hsl t1 t2 hg0 hg1 hg2 O0 HE2 HLX HQ hgq HAO hw2 t3 hh0 hh1 hh2 hgg hk12 hk511
          all_goals (
            go_wp2_with fail
            rw [← HW1.out]
            change Code.wp _ ((regionOf 10 (Tryd.f30.body.getD .skip)).getD .skip) _ _ _
            refine k10 _ _ _ _ _ _ _ _ _ _ _ _ _ _ _ _ _ _ _ _ _ _ _ _ _ _ _ _ _ _ _ _ _ _ _ _ _ _ _ _ _ _ _ _ _ _ _ _ _ _ _ _ _ _ _ _ _ _ _ _ _ _ _ _ _ _ _ _ _ _ _ _ _ _ _ _ _ _ _ _ _ W1 wr.heap.size (wr.heap.size + 1) g (p + 2) p (p + 1) cp (Lib.hid rfl) _ re a c rv _ _ _ (by omega) (by omega) (by omega) (by omega) (by omega) hk1 a0 a1 a2 b0 b1 b2 HM1 HON ?_
            refine Lib.hid ?_
            intro d0 d1 d2 d3 d4 d5 d6 d7 d8 d9 d10 d11 d12 d13 d14 d15 w3 hb3 hz3 hbx3
            clear hk1 a0 a1 a2 b0 b1 b2
            by_cases h0 : re = 0
            · subst h0
              have s3 : Below (wr.heap.size + 1) W1 w3 ∧ wr.heap.size + 1 < w3.heap.size ∧ w3.heap[wr.heap.size + 1]? = some (.cells #[.int .i64 rv.k, .int .i64 rv.n, .string rv.t] 36 (0, 0)) := ⟨hb3, hz3, hbx3⟩
              clear hb3 hz3 hbx3
              go_wp2_with fail
              obtain ⟨hb3, hz3, hbx3⟩ := s3
              have B3 : Below wr.heap.size wr w3 := HB1.out.trans (hb3.mono (by omega))
              have HB3 := Lib.hid (into HB.out B3)
              obtain ⟨m0, m1, m2, -, -, -⟩ := box3 hbx3
              have hz4 := HB3.out.size
              have O3 := Lib.hid (own_below HOT.out B3)
              change Code.wp _ ((regionOf 20 (Tryd.f30.body.getD .skip)).getD .skip) _ _ _
              refine k20 _ _ _ _ _ _ _ _ _ _ _ _ _ _ _ _ _ _ _ _ _ _ _ _ _ _ _ _ _ _ _ _ _ _ _ _ _ _ _ _ _ _ _ _ _ _ _ _ _ _ _ _ _ _ _ _ _ _ _ _ _ _ _ _ _ _ _ _ _ _ _ _ _ _ _ _ _ _ _ _ _ _ _ w3 W0.heap.size (wr.heap.size + 1) (p + 2) p cp _ s'.reverse rv hz4 (by omega) hqc (by omega) HAOG.out HAZ.out m0 m1 m2 O3 ?_
              refine Lib.hid ?_
              intro u75 u76 u77 u78 u79 u80 u11 w4 h1 h2
              have H1 := Lib.hid h1
              have H4 := Lib.hid (HB3.out.trans h2)
              clear h1 h2 hb3 hz3 hbx3 B3 m0 m1 m2 hz4
              go_wp2_with fail
              go_roundw
              case rel =>
                refine ⟨k + 1, rv :: s', by omega, by go_num, by rw [List.length_cons, HLS.out]; omega, ?_, ?_, ?_, H4.out⟩
                · show World.ownsRow _ _ _ _ _ _ _
                  rw [List.length_cons, HLS.out, vrev_push, vc_app]
                  exact H1.out
                · show _ = _
                  rw [List.length_cons, HLS.out]
                  have h := HE3.out
                  simpa using h
                · show _ = _
                  rw [HRL.out]
                  rfl
              case measure => (simp [intOf]) <;> omega
            · have h0' : (re == 0) = false := by simpa using h0
              have B3 : Below wr.heap.size wr w3 := HB1.out.trans (hb3.mono (by omega))
              have RB3 := Lib.hid ((B3.block w.heap.size (by omega)).trans HRB.out)
              obtain ⟨y0, y1, y2, f0, f1, f2⟩ := box3 RB3.out
              obtain ⟨r0, r1, r2, -, -, -⟩ := box3 ((B3.block (w.heap.size + 1) (by omega)).trans HNB.out)
              have BW3 := Lib.hid (HBW.out.trans (B3.mono HBW.out.size))
              clear hb3 hz3 hbx3 B3
              obtain ⟨v0, v1, v2⟩ := st3c RB3.out (.int .i64 0) (.int .i64 0) (.string ⟨#[]⟩)
              go_wp2_with fail
              (try simp only [Exit.inBlock, Exit.then])
              refine bodyPost_ret (by simp [results, Tryd.results30, go_sem, v0, v1, v2]; try rfl) rfl ?_
              refine ⟨?_, (st3 BW3.out RB3.out _ _ _).1⟩
              rw [HRL.out]
              simp [h0, nul])
    · obtain rfl : k = m := by omega
      have he := HE.out
      rw [List.drop_eq_nil_of_le (by rw [← HML.out]; exact Nat.le_refl _)] at he
      have h1 : st.length = 1 := by
        unfold exF at he
        split at he
        · omega
        · omega
      obtain ⟨x, rfl⟩ : ∃ x, st = [x] := by
        match st, h1 with
        | [x], _ => exact ⟨x, rfl⟩
      obtain ⟨g, rfl, hg0, hg1, hg2⟩ := own_cell3 (j := 0) (x := x) HU.out rfl
      have HZ : Hid (R = (0, [x])) := by
        show _ = _
        rw [HRN.out, List.drop_eq_nil_of_le (by rw [← HML.out]; exact Nat.le_refl _)]
        rfl
      obtain ⟨y0, y1, y2, f0, f1, f2⟩ := box3 HRB.out
      obtain ⟨v0, v1, v2⟩ := st3c HRB.out (.int .i64 x.k) (.int .i64 x.n) (.string x.t)
      clear he HE HRN HU h1
      go_wp2_with fail
      (try simp only [Exit.inBlock, Exit.then])
      refine bodyPost_ret (by simp [results, Tryd.results30, go_sem, v0, v1, v2]; try rfl) rfl ?_
      refine ⟨?_, (st3 HBW.out HRB.out _ _ _).1⟩
      rw [HZ.out]
      rfl
end Go.Proofs.YtfbmnkkpbcdjfaaDoor

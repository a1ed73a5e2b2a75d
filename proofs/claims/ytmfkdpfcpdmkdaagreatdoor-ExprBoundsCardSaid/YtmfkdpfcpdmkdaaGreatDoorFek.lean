import Derived.Test.YtmfkdpfcpdmkdaaGreatDoorFck
import Derived.Test.YtmfkdpfcpdmkdaaGreatDoorFdk
/- Ops folded over a stack of parts: the program's loop. -/
namespace Go.Proofs.YtmfkdpfcpdmkdaaGreatDoor.bd
open Go.ChangeShapes Go.WideShapes Go.ChangeAt Go.RowKit
set_option linter.unusedVariables false
set_option linter.unusedSimpArgs false
set_option maxHeartbeats 8000000
set_option maxRecDepth 1000000
/-- What a fold over parts answers, by what the stack makes of the ops. -/
def FoldPIs (R : Int × List Pt) (w : World) (e : Ending) (w' : World) : Prop := ∃ y : Pv, e = .returned (.tuple #[pva y, .int .i64 0]) ∧ RP w' y (R.2.headD np) ∧ Below w.heap.size w w'
theorem prev_push (st : List Pv) (x : Pv) : (x :: st).reverse = st.reverse ++ [x] := by simp
theorem prev_top {st : List Pv} {a : Pv} {s : List Pv} (h : st = a :: s) : st.reverse.take s.length = s.reverse ∧ st.reverse[s.length]? = some a := by
  subst h
  rw [List.reverse_cons]
  refine ⟨?_, ?_⟩
  · rw [List.take_append_of_le_length (by simp)]
    exact List.take_of_length_le (by simp)
  · rw [List.getElem?_append_right (by simp)]
    simp
theorem prev_two {st : List Pv} {a b : Pv} {s : List Pv} (h : st = b :: a :: s) : st.reverse.take s.length = s.reverse ∧ st.reverse[s.length]? = some a ∧ st.reverse[s.length + 1]? = some b := by
  subst h
  rw [List.reverse_cons, List.reverse_cons, List.append_assoc]
  refine ⟨?_, ?_, ?_⟩
  · rw [List.take_append_of_le_length (by simp)]
    exact List.take_of_length_le (by simp)
  · rw [List.getElem?_append_right (by simp)]
    simp
  · rw [List.getElem?_append_right (by simp)]
    simp
theorem foldP_any (w : World) (m : Nat) (v : Value) (ops : List Oq) (cn : ByteArray) (CB : Nat) (hr : Rd w 5 m v (ocs ops)) (hex : exprF ops = 0) (hle : ∀ o ∈ ops, wks o.k = 0 → (lfP cn o).1 = 0)
    (hlf : ∀ W, Below w.heap.size w W → ∀ o ∈ ops, wks o.k = 0 → Calls Tryz.prog 13 #[.agg #[.int .i64 o.k, .int .i64 o.v.k, .int .i64 o.v.n, .string o.v.t, .string o.t], .pointer (some ⟨CB, 0, none⟩)] W (PartIs (lfP cn o) W)) :
    Calls Tryz.prog 12 #[v, (.func (.func 13) #[] #[.pointer (some ⟨CB, 0, none⟩)]), .func (.func 15) #[] #[], .func (.func 16) #[] #[]] w (FoldPIs (rnF (lfP cn) onP twP [] ops) w) := by
  have hml := len_o hr
  have h40 : m ≤ 40 ∧ exF 0 ops = 0 := by
    unfold exprF at hex
    split at hex
    · omega
    · exact ⟨by omega, hex⟩
  have hm0 : 0 < m := by
    rcases Nat.eq_zero_or_pos m with h | h
    · have : ops = [] := List.eq_nil_of_length_eq_zero (by omega)
      rw [this] at h40
      simp [exF] at h40
    · exact h
  obtain ⟨b, o, cap, rfl, _, _, hbw, hcell⟩ := ops_of hr hm0
  have HC := Lib.hid hcell
  have HML := Lib.hid hml
  have HLF := Lib.hid hlf
  have HLE := Lib.hid hle
  have HEX := Lib.hid h40.2
  obtain ⟨R, hR⟩ : ∃ R, R = rnF (lfP cn) onP twP [] ops := ⟨_, rfl⟩
  have HR := Lib.hid hR
  rw [← hR]
  have h40' := h40.1
  clear hcell hml hlf hle hr hex h40 hR
  obtain ⟨W0, hW0⟩ : ∃ W0, W0 = (w.alloc (.cells #[.bool false, .slice none 0 0, .slice none 0 0, .slice none 0 0, .slice none 0 0, .slice none 0 0] 39)).alloc (.cells #[.bool false, .slice none 0 0, .slice none 0 0, .slice none 0 0, .slice none 0 0, .slice none 0 0] 39) := ⟨_, rfl⟩
  have HB0 : Hid (Below w.heap.size w W0) := Lib.hid (by subst hW0; exact ((Below.refl _ _).alloc (Nat.le_refl _) _).alloc (by simp) _)
  have hz0 : W0.heap.size = w.heap.size + 2 := by subst hW0; simp
  have HR0 : Hid (W0.heap[w.heap.size]? = some (.cells #[.bool false, .slice none 0 0, .slice none 0 0, .slice none 0 0, .slice none 0 0, .slice none 0 0] 39 (0, 0))) := Lib.hid (by subst hW0; rw [Below.heap_alloc _ _ _ (by simp)]; exact heap_alloc_new w _)
  have HN0 : Hid (W0.heap[w.heap.size + 1]? = some (.cells #[.bool false, .slice none 0 0, .slice none 0 0, .slice none 0 0, .slice none 0 0, .slice none 0 0] 39 (0, 0))) := Lib.hid (by subst hW0; have h := heap_alloc_new (w.alloc (.cells #[.bool false, .slice none 0 0, .slice none 0 0, .slice none 0 0, .slice none 0 0, .slice none 0 0] 39)) (.cells #[.bool false, .slice none 0 0, .slice none 0 0, .slice none 0 0, .slice none 0 0, .slice none 0 0] 39); simpa using h)
  go_enter Tryz.func12, Tryz.ntmps12
  go_wp2_with fail
  rw [← hW0]
  clear hW0
  go_loopw [11, 19] (fun u i wr => ∃ (k : Nat) (st : List Pt) (xs : List Pv), k ≤ m ∧ i = .int .i64 (k : Int) ∧ xs.length ≤ k ∧ Hid (wr.ownsRow W0.heap.size 39 6 u xs.length (pcs xs.reverse)) ∧ Hid (RPs wr xs st) ∧ Hid (exF (xs.length : Int) (ops.drop k) = 0) ∧ Hid (R = rnF (lfP cn) onP twP st (ops.drop k)) ∧ Hid (Below W0.heap.size W0 wr)) (fun _ i _ => m - (intOf i).toNat)
  case atStart => exact ⟨0, [], [], by omega, rfl, by simp, World.ownsRow_nil _ _ _ _, trivial, HEX.out, HR.out, Below.refl _ _⟩
  case round =>
    obtain ⟨k, st, xs, hk, rfl, hsk, HU, HPS0, HE, HRN, HB⟩ := hrel
    have hwz := HB.out.size
    obtain ⟨ao, cp, rfl⟩ := own_shape HU.out
    obtain ⟨hao, hao0, hqc⟩ := own_nilcap HU.out
    have HAO := Lib.hid hao
    have HAOG : Hid (∀ a, ao = some a → ∃ g, a = ⟨g, 0, none⟩) := Lib.hid fun a h => (by obtain ⟨g, h1, _⟩ := hao a h; exact ⟨g, h1⟩)
    have HAZ := Lib.hid hao0
    clear hao hao0
    have HBW := Lib.hid (HB0.out.trans (HB.out.mono HB0.out.size))
    have HRB := Lib.hid ((HB.out.block w.heap.size (by omega)).trans HR0.out)
    have HNB := Lib.hid ((HB.out.block (w.heap.size + 1) (by omega)).trans HN0.out)
    obtain ⟨n0, n1, n2, n3, n4, n5, -, -, -, -, -, -⟩ := box6 HNB.out
    by_cases hlt : k < m
    · have hkl : k < ops.length := by rw [← HML.out]; exact hlt
      obtain ⟨g0, g1, g2, g3, g4⟩ := HC.out k hlt
      have c0 := cell_blz HBW.out g0
      have c1 := cell_blz HBW.out g1
      have c2 := cell_blz HBW.out g2
      have c3 := cell_blz HBW.out g3
      have c4 := cell_blz HBW.out g4
      have hdr := drop_cons hkl
      have hmem : ops.getD k noq ∈ ops := by
        rw [List.getD_eq_getElem?_getD, List.getElem?_eq_getElem hkl]
        exact List.getElem_mem hkl
      obtain ⟨x, hx⟩ : ∃ x, x = ops.getD k noq := ⟨_, rfl⟩
      rw [← hx] at c0 c1 c2 c3 c4 hdr hmem
      have he := HE.out
      rw [hdr] at he
      obtain ⟨ho, hw, he2⟩ := ex_cons he
      have hrn := HRN.out
      rw [hdr] at hrn
      have hkind := opF_kind ho
      have HRX := Lib.hid hrn
      have HE2 := Lib.hid he2
      have q0 := cell_blz ((Below.refl wr.heap.size wr).alloc (Nat.le_refl _) (.cells #[.int .i64 x.k, .int .i64 x.v.k, .int .i64 x.v.n, .string x.v.t, .string x.t] 45)) n0
      have q1 := cell_blz ((Below.refl wr.heap.size wr).alloc (Nat.le_refl _) (.cells #[.int .i64 x.k, .int .i64 x.v.k, .int .i64 x.v.n, .string x.v.t, .string x.t] 45)) n1
      have q2 := cell_blz ((Below.refl wr.heap.size wr).alloc (Nat.le_refl _) (.cells #[.int .i64 x.k, .int .i64 x.v.k, .int .i64 x.v.n, .string x.v.t, .string x.t] 45)) n2
      have q3 := cell_blz ((Below.refl wr.heap.size wr).alloc (Nat.le_refl _) (.cells #[.int .i64 x.k, .int .i64 x.v.k, .int .i64 x.v.n, .string x.v.t, .string x.t] 45)) n3
      have q4 := cell_blz ((Below.refl wr.heap.size wr).alloc (Nat.le_refl _) (.cells #[.int .i64 x.k, .int .i64 x.v.k, .int .i64 x.v.n, .string x.v.t, .string x.t] 45)) n4
      have q5 := cell_blz ((Below.refl wr.heap.size wr).alloc (Nat.le_refl _) (.cells #[.int .i64 x.k, .int .i64 x.v.k, .int .i64 x.v.n, .string x.v.t, .string x.t] 45)) n5
      obtain ⟨W1, hW1⟩ : ∃ W1, W1 = (wr.alloc (.cells #[.int .i64 x.k, .int .i64 x.v.k, .int .i64 x.v.n, .string x.v.t, .string x.t] 45)).alloc (.cells #[.bool false, .slice none 0 0, .slice none 0 0, .slice none 0 0, .slice none 0 0, .slice none 0 0] 39) := ⟨_, rfl⟩
      have HB1 : Hid (Below wr.heap.size wr W1) := Lib.hid (by subst hW1; exact ((Below.refl _ _).alloc (Nat.le_refl _) _).alloc (by simp) _)
      have hz1 : W1.heap.size = wr.heap.size + 2 := by subst hW1; simp
      have HO1 : Hid (W1.heap[wr.heap.size]? = some (.cells #[.int .i64 x.k, .int .i64 x.v.k, .int .i64 x.v.n, .string x.v.t, .string x.t] 45 (0, 0))) := Lib.hid (by subst hW1; rw [Below.heap_alloc _ _ _ (by simp)]; exact heap_alloc_new wr _)
      have HM1 : Hid (W1.heap[wr.heap.size + 1]? = some (.cells #[.bool false, .slice none 0 0, .slice none 0 0, .slice none 0 0, .slice none 0 0, .slice none 0 0] 39 (0, 0))) := Lib.hid (by subst hW1; have h := heap_alloc_new (wr.alloc (.cells #[.int .i64 x.k, .int .i64 x.v.k, .int .i64 x.v.n, .string x.v.t, .string x.t] 45)) (.cells #[.bool false, .slice none 0 0, .slice none 0 0, .slice none 0 0, .slice none 0 0, .slice none 0 0] 39); simpa using h)
      have HBF : Hid (Below w.heap.size w W1) := Lib.hid (into HBW.out HB1.out)
      have HLX := Lib.hid (fun h => And.intro (HLF.out W1 HBF.out x hmem h) (HLE.out x hmem h))
      obtain ⟨q, hq⟩ : ∃ q, q = xs.length := ⟨_, rfl⟩
      have HQ := Lib.hid hq
      have HU2 := HU.out
      rw [← hq] at HU2 hqc hsk hw
      have HUQ := Lib.hid HU2
      have hwk : wks x.k = if x.k = 1 ∨ x.k = 2 then 0 else if x.k = 5 ∨ x.k = 11 then 1 else 2 := rfl
      rw [← hq]
      have HW1 := Lib.hid hW1
      clear g0 g1 g2 g3 g4 hdr hx he ho he2 hrn hkl HE HRN HU2 hq HU hmem hW1
      by_cases hk12 : x.k = 1 ∨ x.k = 2
      · have hw0 : wks x.k = 0 := by rw [hwk, if_pos hk12]
        obtain ⟨hly, hre0⟩ := HLX.out hw0
        have HPS := HPS0
        obtain ⟨⟨re, rv⟩, hre⟩ : ∃ r0, r0 = lfP cn x := ⟨_, rfl⟩
        have HRL : Hid (R = rnF (lfP cn) onP twP (rv :: st) (ops.drop (k + 1))) := by
          show _ = _
          rw [HRX.out, rn_leaf (lfP cn) onP twP hw0, if_neg (by rw [hre0]; simp), ← hre]
        rw [← hre] at hly hre0
        have hre0 : re = 0 := hre0
        subst hre0
        have HLY := Lib.hid hly
        obtain ⟨xk, ⟨vk, vn, vt⟩, xt⟩ := x
        simp only at c0 c1 c2 c3 c4 hk12 HLY HBF HRL HE2 hw0 HO1 HW1 q0 q1 q2 q3 q4 q5
        clear hre hly HRX hwk hw hkind HLX
        rcases hk12 with rfl | rfl
        all_goals (
          go_wp2_with fail
          rw [← HW1.out]
          refine HLY.out.mono ?_
          rintro e w2 ⟨y, rfl, hrp, hb2⟩
          have hbx := (hb2.block (wr.heap.size + 1) (by omega)).trans HM1.out
          obtain ⟨z0, z1, z2, z3, z4, z5, f0, f1, f2, f3, f4, f5⟩ := box6 hbx
          have s3 := st6 (hb2.mono (show wr.heap.size + 1 ≤ _ by omega)) hbx (.bool y.f) (sv y.k) (sv y.hl) (sv y.hh) (sv y.fl) (sv y.fh)
          have hrp3 : RP (set6 w2 (wr.heap.size + 1) (.bool y.f) (sv y.k) (sv y.hl) (sv y.hh) (sv y.fl) (sv y.fh)) y rv := hrp.mono fun _ _ h => h.set6 hbx pt_ne _ _ _ _ _ _
          clear hrp
          go_wp2_with fail
          obtain ⟨w3, hw3⟩ : ∃ w3, w3 = ((((((w2.setCell ⟨wr.heap.size + 1, 0, none⟩ (.bool y.f)).setCell ⟨wr.heap.size + 1, 1, none⟩ (sv y.k)).setCell ⟨wr.heap.size + 1, 2, none⟩ (sv y.hl)).setCell ⟨wr.heap.size + 1, 3, none⟩ (sv y.hh)).setCell ⟨wr.heap.size + 1, 4, none⟩ (sv y.fl)).setCell ⟨wr.heap.size + 1, 5, none⟩ (sv y.fh)) := ⟨_, rfl⟩
          rw [← hw3]
          have s3 : Below (wr.heap.size + 1) W1 w3 ∧ wr.heap.size + 1 < w3.heap.size ∧ w3.heap[wr.heap.size + 1]? = some (.cells (p6 y) 39 (0, 0)) := by rw [hw3]; exact s3
          have hrp3 : RP w3 y rv := by rw [hw3]; exact hrp3
          clear hw3 z0 z1 z2 z3 z4 z5 f0 f1 f2 f3 f4 f5 hbx hb2
          have HLS : Hid (xs.length = q) := HQ.out.symm
          have HE3 : Hid (exF ((q : Int) + 1) (ops.drop (k + 1)) = 0) := by
            show _ = _
            rw [← HE2.out, hw0, ← HQ.out]
            (congr 1) <;> omega
          obtain ⟨hb3, hz3, hbx3⟩ := s3
          have B3 : Below wr.heap.size wr w3 := HB1.out.trans (hb3.mono (by omega))
          have HB3 := Lib.hid (into HB.out B3)
          obtain ⟨m0, m1, m2, m3, m4, m5, -, -, -, -, -, -⟩ := box6 hbx3
          have hz4 := HB3.out.size
          have O3 := Lib.hid (own_below HUQ.out B3)
          have HRP3 := Lib.hid hrp3
          have HPS3 := Lib.hid (HPS.out.mono (fun _ _ h => h.below B3))
          change Code.wp _ ((regionOf 20 (Tryz.f12.body.getD .skip)).getD .skip) _ _ _
          refine k20 _ _ _ _ _ _ _ _ _ _ _ _ _ _ _ _ _ _ _ _ _ _ _ _ _ _ _ _ _ _ _ _ _ _ _ _ _ _ _ _ _ _ _ _ _ _ _ _ _ _ _ _ _ _ _ _ _ _ _ _ _ _ _ _ _ _ _ _ _ _ _ _ _ _ _ _ _ _ _ _ _ _ _ w3 W0.heap.size (wr.heap.size + 1) q q cp _ xs.reverse y hz4 (by omega) hqc (by omega) HAOG.out HAZ.out m0 m1 m2 m3 m4 m5 O3 ?_
          refine Lib.hid ?_
          intro u75 u76 u77 u78 u79 u80 u11 w4 h1 h2 h3
          have H1 := Lib.hid h1
          have H4 := Lib.hid (HB3.out.trans h2)
          have H5 := Lib.hid h3
          clear h1 h2 h3 hb3 hz3 hbx3 B3 m0 m1 m2 m3 m4 m5 hz4 hrp3
          go_wp2_with fail
          go_roundw
          case rel =>
            refine ⟨k + 1, _ :: st, y :: xs, by omega, by go_num, by rw [List.length_cons, HLS.out]; omega, ?_, ⟨HRP3.out.mono H5.out, HPS3.out.mono H5.out⟩, ?_, ?_, H4.out⟩
            · show World.ownsRow _ _ _ _ _ _ _
              rw [List.length_cons, HLS.out, prev_push, pcs_app]
              exact H1.out
            · show _ = _
              rw [List.length_cons, HLS.out]
              have h := HE3.out
              simpa using h
            · show _ = _
              exact HRL.out
          case measure => (simp [intOf]) <;> omega
          )
      · by_cases hk511 : x.k = 5 ∨ x.k = 11
        · have hw1 : wks x.k = 1 := by rw [hwk, if_neg hk12, if_pos hk511]
          obtain ⟨p, rfl⟩ : ∃ p, q = p + 1 := ⟨q - 1, by omega⟩
          obtain ⟨a, s', hst⟩ : ∃ a s', xs = a :: s' := by
            match xs, HQ.out with
            | a :: s', _ => exact ⟨a, s', rfl⟩
            | [], h => simp at h
          have hsl : s'.length = p := by have := HQ.out; rw [hst] at this; simp at this; omega
          have hps := HPS0.out
          rw [hst] at hps
          obtain ⟨pa, ps', hpt⟩ : ∃ a s', st = a :: s' := by
            match st, hps with
            | a :: s', _ => exact ⟨a, s', rfl⟩
            | [], h => exact h.elim
          rw [hpt] at hps
          have HPS := Lib.hid hps.2
          obtain ⟨t1, t2⟩ := prev_top hst
          rw [hsl] at t1 t2
          have HRL : Hid (R = rnF (lfP cn) onP twP ((onP x.k pa).2 :: ps') (ops.drop (k + 1))) := by
            show _ = _
            rw [HRX.out, hpt, rn_un (lfP cn) onP twP hw1]
            rfl
          have HON := Lib.hid (fun (w : World) (hb : Below W1.heap.size W1 w) => one_any w x.k a pa (hps.1.below (HB1.out.trans (hb.mono (by omega)))))
          obtain ⟨g, rfl, hg0, hg1, hg2, hg3, hg4, hg5⟩ := own_cell6 HUQ.out t2
          obtain ⟨_, hgq, hgl⟩ := HAO.out _ rfl
          obtain rfl := (Addr.mk.inj hgq).1
          have a0 := cell_blz HB1.out hg0
          have a1 := cell_blz HB1.out hg1
          have a2 := cell_blz HB1.out hg2
          have a3 := cell_blz HB1.out hg3
          have a4 := cell_blz HB1.out hg4
          have a5 := cell_blz HB1.out hg5
          have O0 := own_take HUQ.out p (by omega)
          rw [pcs_take, t1] at O0
          have HOT := Lib.hid O0
          have HLS := Lib.hid hsl
          have HE3 : Hid (exF ((p : Int) + 1) (ops.drop (k + 1)) = 0) := by
            show _ = _
            rw [← HE2.out, hw1, ← HQ.out]
            congr 1
            omega
          have hk1 : W1.cell? ⟨wr.heap.size, 0, none⟩ = some (.int .i64 x.k) := by simp only [World.cell?]; rw [HO1.out]; rfl
          obtain ⟨xk, ⟨vk, vn, vt⟩, xt⟩ := x
          simp only at c0 c1 c2 c3 c4 HBF HRL HON HE2 HO1 HW1 q0 q1 q2 q3 q4 q5 hk1 hk511
          clear HRX hwk hw hkind hst hsl t1 t2 hg0 hg1 hg2 hg3 hg4 hg5 O0 HE2 HLX HQ hgq HAO hw1 hk12 hps hpt HPS0
          rcases hk511 with rfl | rfl
          all_goals (
            go_wp2_with fail
            rw [← HW1.out]
            change Code.wp _ ((regionOf 17 (Tryz.f12.body.getD .skip)).getD .skip) _ _ _
            refine k17 _ _ _ _ _ _ _ _ _ _ _ _ _ _ _ _ _ _ _ _ _ _ _ _ _ _ _ _ _ _ _ _ _ _ _ _ _ _ _ _ _ _ _ _ _ _ _ _ _ _ _ _ _ _ _ _ _ _ _ _ _ _ _ _ _ _ _ _ _ _ _ _ _ _ _ _ _ _ _ _ _ W1 wr.heap.size (wr.heap.size + 1) g (p + 1) p cp _ _ a _ _ _ _ _ _ (by omega) (by omega) (by omega) (by omega) (by omega) hk1 a0 a1 a2 a3 a4 a5  HM1 HON ?_
            refine Lib.hid ?_
            intro d0 d1 d2 d3 d4 d5 d6 d7 d8 d9 d10 y w3 hb3 hz3 hbx3 hrp3
            clear hk1 a0 a1 a2 a3 a4 a5 
            have s3 : Below (wr.heap.size + 1) W1 w3 ∧ wr.heap.size + 1 < w3.heap.size ∧ w3.heap[wr.heap.size + 1]? = some (.cells (p6 y) 39 (0, 0)) := ⟨hb3, hz3, hbx3⟩
            have r0 : ((onP 5 pa).1 : Int) = 0 := rfl
            clear hb3 hz3 hbx3
            (try simp only [onP, twP] at *)
            go_wp2_with fail
            obtain ⟨hb3, hz3, hbx3⟩ := s3
            have B3 : Below wr.heap.size wr w3 := HB1.out.trans (hb3.mono (by omega))
            have HB3 := Lib.hid (into HB.out B3)
            obtain ⟨m0, m1, m2, m3, m4, m5, -, -, -, -, -, -⟩ := box6 hbx3
            have hz4 := HB3.out.size
            have O3 := Lib.hid (own_below HOT.out B3)
            have HRP3 := Lib.hid hrp3
            have HPS3 := Lib.hid (HPS.out.mono (fun _ _ h => h.below B3))
            change Code.wp _ ((regionOf 20 (Tryz.f12.body.getD .skip)).getD .skip) _ _ _
            refine k20 _ _ _ _ _ _ _ _ _ _ _ _ _ _ _ _ _ _ _ _ _ _ _ _ _ _ _ _ _ _ _ _ _ _ _ _ _ _ _ _ _ _ _ _ _ _ _ _ _ _ _ _ _ _ _ _ _ _ _ _ _ _ _ _ _ _ _ _ _ _ _ _ _ _ _ _ _ _ _ _ _ _ _ w3 W0.heap.size (wr.heap.size + 1) (p + 1) p cp _ s'.reverse y hz4 (by omega) hqc (by omega) HAOG.out HAZ.out m0 m1 m2 m3 m4 m5 O3 ?_
            refine Lib.hid ?_
            intro u75 u76 u77 u78 u79 u80 u11 w4 h1 h2 h3
            have H1 := Lib.hid h1
            have H4 := Lib.hid (HB3.out.trans h2)
            have H5 := Lib.hid h3
            clear h1 h2 h3 hb3 hz3 hbx3 B3 m0 m1 m2 m3 m4 m5 hz4 hrp3
            go_wp2_with fail
            go_roundw
            case rel =>
              refine ⟨k + 1, _ :: ps', y :: s', by omega, by go_num, by rw [List.length_cons, HLS.out]; omega, ?_, ⟨HRP3.out.mono H5.out, HPS3.out.mono H5.out⟩, ?_, ?_, H4.out⟩
              · show World.ownsRow _ _ _ _ _ _ _
                rw [List.length_cons, HLS.out, prev_push, pcs_app]
                exact H1.out
              · show _ = _
                rw [List.length_cons, HLS.out]
                have h := HE3.out
                simpa using h
              · show _ = _
                exact HRL.out
            case measure => (simp [intOf]) <;> omega
            )
        · have hw2 : wks x.k = 2 := by rw [hwk, if_neg hk12, if_neg hk511]
          obtain ⟨p, rfl⟩ : ∃ p, q = p + 2 := ⟨q - 2, by omega⟩
          obtain ⟨a, c, s', hst⟩ : ∃ a c s', xs = c :: a :: s' := by
            match xs, HQ.out with
            | c :: a :: s', _ => exact ⟨a, c, s', rfl⟩
            | [], h => simp at h
            | [_], h => simp at h
          have hsl : s'.length = p := by have := HQ.out; rw [hst] at this; simp at this; omega
          have hps := HPS0.out
          rw [hst] at hps
          obtain ⟨pc, pa, ps', hpt⟩ : ∃ c a s', st = c :: a :: s' := by
            match st, hps with
            | c :: a :: s', _ => exact ⟨c, a, s', rfl⟩
            | [], h => exact h.elim
            | [_], h => exact h.2.elim
          rw [hpt] at hps
          have HPS := Lib.hid hps.2.2
          obtain ⟨t1, t2, t3⟩ := prev_two hst
          rw [hsl] at t1 t2 t3
          have HRL : Hid (R = rnF (lfP cn) onP twP ((twP x.k pa pc).2 :: ps') (ops.drop (k + 1))) := by
            show _ = _
            rw [HRX.out, hpt, rn_bi (lfP cn) onP twP hw2]
            rfl
          have HON := Lib.hid (fun (w : World) (hb : Below W1.heap.size W1 w) => two_any w x.k a c pa pc (hps.2.1.below (HB1.out.trans (hb.mono (by omega)))) (hps.1.below (HB1.out.trans (hb.mono (by omega)))))
          obtain ⟨g, rfl, hg0, hg1, hg2, hg3, hg4, hg5⟩ := own_cell6 HUQ.out t2
          obtain ⟨g', hgg, hh0, hh1, hh2, hh3, hh4, hh5⟩ := own_cell6 HUQ.out t3
          obtain rfl : g = g' := by simpa using hgg
          have b0 := cell_blz HB1.out hh0
          have b1 := cell_blz HB1.out hh1
          have b2 := cell_blz HB1.out hh2
          have b3 := cell_blz HB1.out hh3
          have b4 := cell_blz HB1.out hh4
          have b5 := cell_blz HB1.out hh5
          obtain ⟨_, hgq, hgl⟩ := HAO.out _ rfl
          obtain rfl := (Addr.mk.inj hgq).1
          have a0 := cell_blz HB1.out hg0
          have a1 := cell_blz HB1.out hg1
          have a2 := cell_blz HB1.out hg2
          have a3 := cell_blz HB1.out hg3
          have a4 := cell_blz HB1.out hg4
          have a5 := cell_blz HB1.out hg5
          have O0 := own_take HUQ.out p (by omega)
          rw [pcs_take, t1] at O0
          have HOT := Lib.hid O0
          have HLS := Lib.hid hsl
          have HE3 : Hid (exF ((p : Int) + 1) (ops.drop (k + 1)) = 0) := by
            show _ = _
            rw [← HE2.out, hw2, ← HQ.out]
            congr 1
            omega
          have hk1 : W1.cell? ⟨wr.heap.size, 0, none⟩ = some (.int .i64 x.k) := by simp only [World.cell?]; rw [HO1.out]; rfl
          have e1 : (x.k == 1) = false := by simp; omega
          have e2 : (x.k == 2) = false := by simp; omega
          have e5 : (x.k == 5) = false := by simp; omega
          have e11 : (x.k == 11) = false := by simp; omega
          obtain ⟨xk, ⟨vk, vn, vt⟩, xt⟩ := x
          simp only at c0 c1 c2 c3 c4 HBF HRL HON HE2 HO1 HW1 q0 q1 q2 q3 q4 q5 hk1 e1 e2 e5 e11
          clear HRX hwk hw hkind hst hsl t1 t2 hg0 hg1 hg2 hg3 hg4 hg5 O0 HE2 HLX HQ hgq HAO hw2 t3 hh0 hh1 hh2 hh3 hh4 hh5 hgg hk12 hk511 hps hpt HPS0
          all_goals (
            go_wp2_with fail
            rw [← HW1.out]
            change Code.wp _ ((regionOf 10 (Tryz.f12.body.getD .skip)).getD .skip) _ _ _
            refine k10 _ _ _ _ _ _ _ _ _ _ _ _ _ _ _ _ _ _ _ _ _ _ _ _ _ _ _ _ _ _ _ _ _ _ _ _ _ _ _ _ _ _ _ _ _ _ _ _ _ _ _ _ _ _ _ _ _ _ _ _ _ _ _ _ _ _ _ _ _ _ _ _ _ _ _ _ _ _ _ _ _ W1 wr.heap.size (wr.heap.size + 1) g (p + 2) p (p + 1) cp (Lib.hid rfl) _ _ a c _ _ _ _ _ _ (by omega) (by omega) (by omega) (by omega) (by omega) hk1 a0 a1 a2 a3 a4 a5 b0 b1 b2 b3 b4 b5 HM1 HON ?_
            refine Lib.hid ?_
            intro d0 d1 d2 d3 d4 d5 d6 d7 d8 d9 d10 d11 d12 d13 d14 d15 y w3 hb3 hz3 hbx3 hrp3
            clear hk1 a0 a1 a2 a3 a4 a5 b0 b1 b2 b3 b4 b5
            have s3 : Below (wr.heap.size + 1) W1 w3 ∧ wr.heap.size + 1 < w3.heap.size ∧ w3.heap[wr.heap.size + 1]? = some (.cells (p6 y) 39 (0, 0)) := ⟨hb3, hz3, hbx3⟩
            have r0 : ((twP xk pa pc).1 : Int) = 0 := rfl
            clear hb3 hz3 hbx3
            (try simp only [onP, twP] at *)
            go_wp2_with fail
            obtain ⟨hb3, hz3, hbx3⟩ := s3
            have B3 : Below wr.heap.size wr w3 := HB1.out.trans (hb3.mono (by omega))
            have HB3 := Lib.hid (into HB.out B3)
            obtain ⟨m0, m1, m2, m3, m4, m5, -, -, -, -, -, -⟩ := box6 hbx3
            have hz4 := HB3.out.size
            have O3 := Lib.hid (own_below HOT.out B3)
            have HRP3 := Lib.hid hrp3
            have HPS3 := Lib.hid (HPS.out.mono (fun _ _ h => h.below B3))
            change Code.wp _ ((regionOf 20 (Tryz.f12.body.getD .skip)).getD .skip) _ _ _
            refine k20 _ _ _ _ _ _ _ _ _ _ _ _ _ _ _ _ _ _ _ _ _ _ _ _ _ _ _ _ _ _ _ _ _ _ _ _ _ _ _ _ _ _ _ _ _ _ _ _ _ _ _ _ _ _ _ _ _ _ _ _ _ _ _ _ _ _ _ _ _ _ _ _ _ _ _ _ _ _ _ _ _ _ _ w3 W0.heap.size (wr.heap.size + 1) (p + 2) p cp _ s'.reverse y hz4 (by omega) hqc (by omega) HAOG.out HAZ.out m0 m1 m2 m3 m4 m5 O3 ?_
            refine Lib.hid ?_
            intro u75 u76 u77 u78 u79 u80 u11 w4 h1 h2 h3
            have H1 := Lib.hid h1
            have H4 := Lib.hid (HB3.out.trans h2)
            have H5 := Lib.hid h3
            clear h1 h2 h3 hb3 hz3 hbx3 B3 m0 m1 m2 m3 m4 m5 hz4 hrp3
            go_wp2_with fail
            go_roundw
            case rel =>
              refine ⟨k + 1, _ :: ps', y :: s', by omega, by go_num, by rw [List.length_cons, HLS.out]; omega, ?_, ⟨HRP3.out.mono H5.out, HPS3.out.mono H5.out⟩, ?_, ?_, H4.out⟩
              · show World.ownsRow _ _ _ _ _ _ _
                rw [List.length_cons, HLS.out, prev_push, pcs_app]
                exact H1.out
              · show _ = _
                rw [List.length_cons, HLS.out]
                have h := HE3.out
                simpa using h
              · show _ = _
                exact HRL.out
            case measure => (simp [intOf]) <;> omega
            )
    · obtain rfl : k = m := by omega
      have he := HE.out
      rw [List.drop_eq_nil_of_le (by rw [← HML.out]; exact Nat.le_refl _)] at he
      have h1 : xs.length = 1 := by
        unfold exF at he
        split at he
        · omega
        · omega
      obtain ⟨y, rfl⟩ : ∃ x, xs = [x] := by
        match xs, h1 with
        | [x], _ => exact ⟨x, rfl⟩
      obtain ⟨py, rfl⟩ : ∃ p, st = [p] := by
        match st, HPS0.out with
        | [p], _ => exact ⟨p, rfl⟩
        | [], h => exact h.elim
        | _ :: _ :: _, h => exact h.2.elim
      obtain ⟨g, rfl, hg0, hg1, hg2, hg3, hg4, hg5⟩ := own_cell6 (j := 0) (x := y) HU.out rfl
      have HRP := Lib.hid HPS0.out.1
      have HZ : Hid (R = (0, [py])) := by
        show _ = _
        rw [HRN.out, List.drop_eq_nil_of_le (by rw [← HML.out]; exact Nat.le_refl _)]
        rfl
      obtain ⟨y0, y1, y2, y3, y4, y5, f0, f1, f2, f3, f4, f5⟩ := box6 HRB.out
      obtain ⟨v0, v1, v2, v3, v4, v5⟩ := st6c HRB.out (.bool y.f) (sv y.k) (sv y.hl) (sv y.hh) (sv y.fl) (sv y.fh)
      clear he HE HRN HU h1 HPS0
      go_wp2_with fail
      (try simp only [Exit.inBlock, Exit.then])
      refine bodyPost_ret (by simp [results, Tryz.results12, go_sem, v0, v1, v2, v3, v4, v5]; try rfl) rfl ?_
      refine ⟨y, rfl, ?_, (st6 HBW.out HRB.out _ _ _ _ _ _).1⟩
      rw [HZ.out]
      exact HRP.out.mono fun _ _ h => h.set6 HRB.out pt_ne _ _ _ _ _ _
end Go.Proofs.YtmfkdpfcpdmkdaaGreatDoor.bd

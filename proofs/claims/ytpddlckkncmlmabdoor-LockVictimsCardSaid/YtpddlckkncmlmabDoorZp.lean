/- The victim: the document. -/
import Derived.Test.YtpddlckkncmlmabDoorZo
import Derived.Test.YtpddlckkncmlmabDoorZi
namespace Go.Proofs.YtpddlckkncmlmabDoor
open Go.ChangeShapes Go.WideShapes Go.ChangeAt Go.RowKit
set_option linter.unusedVariables false
set_option linter.unusedSimpArgs false
set_option maxHeartbeats 8000000
set_option maxRecDepth 100000
theorem Tryd.info48 : (Tryd.prog.info? 48).map (fun i => (i.zero, i.size, i.bytes)) = some (some (.slice none 0 0), 1, 24) := by kernel_rfl
theorem Tryd.info4 : (Tryd.prog.info? 4).map (fun i => (i.zero, i.size, i.bytes)) = some (some (.bool false), 1, 1) := by kernel_rfl
theorem Mat.sp {w : World} {B n sp r : Nat} {row : Nat → Nat} {m : Nat → Nat → Bool} (h : Mat w B n sp row r m) {i : Nat} (hi : i < r) (hn : i < n) : w.cell? ⟨sp, i, none⟩ = some (.slice (some ⟨row i, 0, none⟩) n n) := by
  have := h.spc i hn
  rwa [if_pos hi] at this
theorem dvo_bad (w : World) (nh n : Nat) (hv qv : Value) (held l : List Lk) (hrh : Rd w 3 nh hv (lkc held)) (hr : Rd w 3 n qv (lkc l)) (h1 : nh ≤ 1000000000000000) (h2 : n ≤ 1000000000000000) (hbad : lksF held l ≠ 0) :
    Calls Tryd.prog 8 #[.agg #[hv, qv]] w (VicIs held l w) := by
  have hb0 := (Below.refl w.heap.size w).alloc (Nat.le_refl _) (.cells #[hv, qv] 24)
  have hwt := dwo_any _ nh n hv qv held l (hrh.below hb0) (hr.below hb0) h1 h2
  have h11 : lksF held l = 11 := (lks_or held l).resolve_left hbad
  have hwt2 : Calls Tryd.prog 15 #[.agg #[hv, qv]] (w.alloc (.cells #[hv, qv] 24)) fun e w' => ∃ v, e = .returned (.tuple #[v, .int .i64 11]) ∧ Below (w.alloc (.cells #[hv, qv] 24)).heap.size (w.alloc (.cells #[hv, qv] 24)) w' := hwt.mono fun e w' ⟨v, g1, _, g3⟩ => ⟨v, by rw [← h11]; exact g1, g3⟩
  have hva : vicA held l = 0 := by unfold vicA; rw [if_neg hbad]
  obtain ⟨ah, ch, rfl⟩ := row_shape hrh
  obtain ⟨aq, cq, rfl⟩ := row_shape hr
  have HWT := Lib.hid hwt2
  have HB0 := Lib.hid hb0
  have H11 := Lib.hid (And.intro h11 hva)
  clear hwt hwt2 hb0 h11 hrh hr hbad hva
  go_enter Tryd.func8, Tryd.ntmps8
  go_wp2_with fail
  refine HWT.out.mono ?_
  rintro e w1 ⟨v, rfl, hb1⟩
  have HB1 := Lib.hid (into HB0.out hb1)
  clear hb1
  go_wp2_with fail
  go_ret2
  unfold VicIs
  rw [H11.out.1, H11.out.2]
  exact ⟨rfl, HB1.out⟩
theorem dvo_good (w : World) (nh n : Nat) (hv qv : Value) (held l : List Lk) (hrh : Rd w 3 nh hv (lkc held)) (hr : Rd w 3 n qv (lkc l)) (hok : Okl held l) (hn0 : 0 < n) :
    Calls Tryd.prog 8 #[.agg #[hv, qv]] w (VicIs held l w) := by
  have hln := len_l hr
  have hlh := len_l hrh
  have hfew := hok.few
  have hlk : lksF held l = 0 := (okl_iff held l).2 hok
  obtain ⟨ah, ch, rfl⟩ := row_shape hrh
  obtain ⟨bq, oq, cq, rfl, hcq, hcm, hbq, hcell⟩ := lks_of hr hn0
  unfold maxLen at hcm
  obtain ⟨W0, hW0⟩ : ∃ W0 : World, W0 = w.alloc (.cells #[.slice ah nh ch, .slice (some ⟨bq, oq, none⟩) n cq] 24) := ⟨_, rfl⟩
  have hb0 : Below w.heap.size w W0 := by rw [hW0]; exact (Below.refl _ _).alloc (Nat.le_refl _) _
  have q1 : W0.cell? ⟨w.heap.size, 1, none⟩ = some (.slice (some ⟨bq, oq, none⟩) n cq) := by rw [hW0]; go_simp
  have hwt : Calls Tryd.prog 15 #[.agg #[.slice ah nh ch, .slice (some ⟨bq, oq, none⟩) n cq]] W0 fun e w' => ∃ (b o c : Nat), e = .returned (.tuple #[.slice (some ⟨b, o, none⟩) n c, .int .i64 0]) ∧ n ≤ c ∧ c ≤ 9223372036854775807 ∧ (∀ i, i < n → ∃ br os cr, w'.cell? ⟨b, o + i, none⟩ = some (.slice (some ⟨br, os, none⟩) (wRow held l i).length cr) ∧ ∀ k, k < (wRow held l i).length → w'.cell? ⟨br, os + k, none⟩ = some (.int .i64 ((wRow held l i).getD k 0))) ∧ Below W0.heap.size W0 w' :=
    (dwo_any W0 nh n _ _ held l (hrh.below hb0) (hr.below hb0) (by omega) (by omega)).mono fun e w' ⟨v, g1, g2, g3⟩ => by
      rw [hlk] at g1 g2
      rw [if_pos rfl] at g2
      obtain ⟨b, o, c, rfl, h1, h2, -, h4⟩ := rj_at g2 hok hln hn0
      exact ⟨b, o, c, g1, h1, by unfold maxLen at h2; omega, h4, g3⟩
  obtain ⟨CS, hCS⟩ : ∃ CS, CS = madeCells (Value.slice none 0 0).cells (n * 1) := ⟨_, rfl⟩
  obtain ⟨CB, hCB⟩ : ∃ CB, CB = madeCells (Value.bool false).cells (n * 1) := ⟨_, rfl⟩
  have hmk1 : ∀ W : World, (Instr.makeSlice 47 (.int .i64 (n : Int)) (.int .i64 (n : Int))).run Tryd.prog W = .ok (.slice (some ⟨W.heap.size, 0, none⟩) n n) (W.alloc (.cells CS 48)) := fun W => by
    obtain ⟨i0, e0, e1, e2, e3⟩ := info_parts Tryd.info48
    have := run_make (P := Tryd.prog) W 47 48 i0 _ Tryd.underlying47 e0 e1 .i64 .i64 (n : Int) (n : Int) (by omega) (by omega) (by rw [e3]; omega) (by omega)
    rw [e2] at this
    rw [hCS]
    simpa using this
  have hmk2 : ∀ W : World, (Instr.makeSlice 48 (.int .i64 (n : Int)) (.int .i64 (n : Int))).run Tryd.prog W = .ok (.slice (some ⟨W.heap.size, 0, none⟩) n n) (W.alloc (.cells CB 4)) := fun W => by
    obtain ⟨i0, e0, e1, e2, e3⟩ := info_parts Tryd.info4
    have := run_make (P := Tryd.prog) W 48 4 i0 _ Tryd.underlying48 e0 e1 .i64 .i64 (n : Int) (n : Int) (by omega) (by omega) (by rw [e3]; omega) (by omega)
    rw [e2] at this
    rw [hCB]
    simpa using this
  have HMS : Hid (∀ W : World, ∀ j, j < n → (W.alloc (.cells CS 48)).cell? ⟨W.heap.size, j, none⟩ = some (.slice none 0 0) ∧ (W.alloc (.cells CS 48)).frozen? ⟨W.heap.size, j, none⟩ = false) := fun W => by rw [hCS]; exact made_cells W (.slice none 0 0) n _ rfl
  have HMB : Hid (∀ W : World, ∀ j, j < n → (W.alloc (.cells CB 4)).cell? ⟨W.heap.size, j, none⟩ = some (.bool false) ∧ (W.alloc (.cells CB 4)).frozen? ⟨W.heap.size, j, none⟩ = false) := fun W => by rw [hCB]; exact made_cells W (.bool false) n _ rfl
  have HWT := Lib.hid hwt
  have HW0 := Lib.hid hW0
  have HB0 := Lib.hid hb0
  have HQ1 := Lib.hid q1
  have HOK := Lib.hid (And.intro hok (And.intro hlk hln))
  have HCQ := Lib.hid (And.intro hbq hcell)
  have hn200 : n ≤ 200 := by omega
  clear hwt hW0 hb0 hr hrh hok hlk hln hlh hfew q1 hCS hCB hcell hbq
  go_enter Tryd.func8, Tryd.ntmps8
  go_wp2_with fail
  rw [← HW0.out]
  refine HWT.out.mono ?_
  rintro e w1 ⟨bv, ov, cw, rfl, hcw, hcwm, hrows, hb1⟩
  have q1 := cell_of_below hb1 HQ1.out
  have HQ2 := Lib.hid q1
  have HROW := Lib.hid hrows
  have HB1 := Lib.hid (into HB0.out hb1)
  have hz1 : w.heap.size < w1.heap.size := lt_cell q1
  have HQC : Hid (∀ k, k < n → w1.cell? ⟨bq, oq + k * 3, none⟩ = some (.int .i64 (l.getD k nlk).t)) := fun k hk => ((into HB0.out hb1).cell (p := ⟨bq, oq + k * 3, none⟩) HCQ.out.1).trans (HCQ.out.2 k hk).1
  obtain ⟨W1, hW1⟩ : ∃ W1 : World, W1 = w1.alloc (.cells CS 48) := ⟨_, rfl⟩
  have hb11 : Below w1.heap.size w1 W1 := by rw [hW1]; exact (Below.refl _ _).alloc (Nat.le_refl _) _
  have hmat : Mat W1 w1.heap.size n w1.heap.size (fun _ => 0) 0 (fun _ _ => false) := by
    rw [hW1]
    exact ⟨Nat.le_refl _, fun i hi => (HMS.out w1 i hi).1, fun i hi => (HMS.out w1 i hi).2, fun i hi => by omega, fun i j hi => by omega, fun i j hi => by omega, fun i j hi => by omega⟩
  have HMAT := Lib.hid hmat
  have HB11 := Lib.hid hb11
  have HW1 := Lib.hid hW1
  clear hrows hb1 hb11 hmat hW1
  go_wp2_with fail
  rw [← HW1.out]
  clear q1
  go_loopw [8] (fun iv wr => ∃ (i : Nat) (row : Nat → Nat) (m : Nat → Nat → Bool), i ≤ n ∧ iv = .int .i64 (i : Int) ∧ Hid (Mat wr w1.heap.size n w1.heap.size row i m) ∧ Hid (Full held l n i m) ∧ Hid (Below w1.heap.size w1 wr)) (fun iv _ => n - (intOf iv).toNat)
  case atStart => exact ⟨0, _, _, by omega, rfl, HMAT.out, (fun a b ha => by omega), HB11.out⟩
  case round =>
    obtain ⟨i, row, m, hi, rfl, HM, HF, HB⟩ := hrel
    obtain ⟨wo, rfl⟩ : ∃ wo : World, wo = wr := ⟨_, rfl⟩
    by_cases hlt : i < n
    · have hz := HB.out.size
      have ha := HM.out.below ((Below.refl _ _).alloc (Nat.le_refl _) (.cells CB 4))
      have sc := ha.spc i hlt
      rw [if_neg (by omega)] at sc
      have sf := ha.spf i hlt
      have hadd := HM.out.add hlt hz (HMB.out wo)
      obtain ⟨W3, hW3⟩ : ∃ W3 : World, W3 = (wo.alloc (.cells CB 4)).setCell ⟨w1.heap.size, i, none⟩ (.slice (some ⟨wo.heap.size, 0, none⟩) n n) := ⟨_, rfl⟩
      rw [← hW3] at hadd
      have hb3 : Below w1.heap.size w1 W3 := by rw [hW3]; exact (HB.out.alloc hz _).setCell (p := ⟨w1.heap.size, i, none⟩) (Nat.le_refl _) _
      have hfil := HF.out.fil
      obtain ⟨row2, hrow2⟩ : ∃ row2 : Nat → Nat, row2 = (fun a => if a = i then wo.heap.size else row a) := ⟨_, rfl⟩
      obtain ⟨m2, hm2⟩ : ∃ m2 : Nat → Nat → Bool, m2 = (fun a b => if a = i then false else m a b) := ⟨_, rfl⟩
      rw [← hrow2, ← hm2] at hadd
      rw [← hm2] at hfil
      have HAD := Lib.hid hadd
      have HFI := Lib.hid hfil
      have HB3 := Lib.hid hb3
      have HW3 := Lib.hid hW3
      have hiI : (i : Int) < (n : Int) := by omega
      clear ha hadd hfil hb3 hW3 hrow2 hm2 HM HF
      go_wp2_with fail
      rw [← HW3.out]
      clear sc sf
      go_loopw [9] (fun kv wr => ∃ (k : Nat) (m : Nat → Nat → Bool), k ≤ n ∧ kv = .int .i64 (k : Int) ∧ Hid (Mat wr w1.heap.size n w1.heap.size row2 (i + 1) m) ∧ Hid (Fil held l n i k 0 m) ∧ Hid (Below w1.heap.size w1 wr)) (fun kv _ => n - (intOf kv).toNat)
      case atStart => exact ⟨0, m2, by omega, rfl, HAD.out, HFI.out, HB3.out⟩
      case round =>
        obtain ⟨k, m, hk, rfl, HM, HF, HBk⟩ := hrel
        obtain ⟨wp, rfl⟩ : ∃ wp : World, wp = wr := ⟨_, rfl⟩
        by_cases hltk : k < n
        · have hkI : (k : Int) < (n : Int) := by omega
          obtain ⟨br, os, cr, hrow, hcells⟩ := HROW.out i hlt
          have hmle := row_len HOK.out.1 (i := i)
          obtain ⟨R, hR⟩ : ∃ R, R = (wRow held l i).length := ⟨_, rfl⟩
          rw [← hR] at hrow hcells hmle
          have HC := Lib.hid (And.intro hrow hcells)
          have HR := Lib.hid hR
          clear hrow hcells hR
          go_wp2_with fail
          go_loopw [10] (fun jv wr => ∃ (j : Nat) (m : Nat → Nat → Bool), j ≤ R ∧ jv = .int .i64 (j : Int) ∧ Hid (Mat wr w1.heap.size n w1.heap.size row2 (i + 1) m) ∧ Hid (Fil held l n i k j m) ∧ Hid (Below w1.heap.size w1 wr)) (fun jv _ => R - (intOf jv).toNat)
          case atStart => exact ⟨0, m, by omega, rfl, HM.out, HF.out, HBk.out⟩
          case round =>
            obtain ⟨j, m, hj, rfl, HMj, HFj, HBj⟩ := hrel
            have r0 := cell_of_below HBj.out HC.out.1
            by_cases hltj : j < R
            · have rc := cell_of_below HBj.out (HC.out.2 j hltj)
              have q1 := cell_of_below HBj.out HQ2.out
              have qc := cell_of_below HBj.out (HQC.out k hltk)
              have hjR : j < (wRow held l i).length := by rw [← HR.out]; exact hltj
              have hhit := HFj.out.hit hjR
              have hmiss := HFj.out.miss hjR
              obtain ⟨x, hx⟩ : ∃ x, x = (wRow held l i).getD j 0 := ⟨_, rfl⟩
              obtain ⟨y, hy⟩ : ∃ y, y = (l.getD k nlk).t := ⟨_, rfl⟩
              rw [← hx] at rc
              rw [← hy] at qc
              rw [← hx, ← hy] at hhit hmiss
              have HH := Lib.hid hhit
              have HMI := Lib.hid hmiss
              have hjI : (j : Int) < (R : Int) := by omega
              clear hhit hmiss hx hy hjR
              by_cases he : x = y
              · obtain ⟨g, hg⟩ : ∃ g, g = row2 i := ⟨_, rfl⟩
                have s0 := HMj.out.sp (i := i) (by omega) hlt
                have s1 := HMj.out.c i k (by omega) hltk
                have s2 := HMj.out.f i k (by omega) hltk
                have hset := fun q => (HMj.out.below (below_drewN (Below.refl _ _) q)).set (i := i) (j := k) (by omega) hltk
                have hgB := (HMj.out.rB i (by omega)).1
                rw [← hg] at s0 s1 s2 hset hgB
                have HS := Lib.hid hset
                have HBS := Lib.hid (fun q => (below_drewN HBj.out q).setCell (p := ⟨g, k, none⟩) hgB (.bool true))
                have HFH := Lib.hid (HH.out he)
                subst he
                clear hset hg hgB
                go_wp2_with fail
                go_quiet (fail)
                go_wp2_with fail
                go_roundw
                case rel => exact ⟨j + 1, _, by omega, by go_num, HS.out _, HFH.out, HBS.out _⟩
                case measure => simp [intOf]; omega
              · have he' : (x == y) = false := by simpa using he
                have HFH := Lib.hid (HMI.out he)
                go_wp2_with fail
                go_quiet (fail)
                go_wp2_with fail
                go_roundw
                case rel => exact ⟨j + 1, m, by omega, by go_num, HMj.out.below (below_drewN (Below.refl _ _) _), HFH.out, below_drewN HBj.out _⟩
                case measure => simp [intOf]; omega
            · obtain rfl : j = R := by omega
              have HNK := Lib.hid (HFj.out.nextk (by rw [← HR.out]; exact Nat.le_refl _))
              have hjI : ¬ (j : Int) < (j : Int) := by omega
              clear hltj
              go_wp2_with fail
              go_roundw
              case rel => exact ⟨k + 1, m, by omega, by go_num, HMj.out, HNK.out, HBj.out⟩
              case measure => simp [intOf]; omega
        · obtain rfl : k = n := by omega
          have HFU := Lib.hid (HF.out.full (Nat.le_refl _))
          have hkI : ¬ (k : Int) < (k : Int) := by omega
          clear hltk
          go_wp2_with fail
          go_roundw
          case rel => exact ⟨i + 1, row2, m, by omega, by go_num, HM.out, HFU.out, HBk.out⟩
          case measure => simp [intOf]; omega
    · obtain rfl : i = n := by omega
      have HWAR := Lib.hid (HF.out.war HOK.out.2.2)
      have hiI : ¬ (i : Int) < (i : Int) := by omega
      clear hlt HF HROW HQ1 HWT HMS HMB hmk1 hmk2
      obtain ⟨N, rfl⟩ : ∃ N, N = i := ⟨_, rfl⟩
      go_wp2_with fail
      go_loopw [11] (fun kv wr => ∃ (k : Nat) (m : Nat → Nat → Bool), k ≤ N ∧ kv = .int .i64 (k : Int) ∧ Hid (Mat wr w1.heap.size N w1.heap.size row N m) ∧ Hid (War (Edg held l) N k 0 0 m) ∧ Hid (Below w1.heap.size w1 wr)) (fun kv _ => N - (intOf kv).toNat)
      case atStart => exact ⟨0, m, by omega, rfl, HM.out, HWAR.out, HB.out⟩
      case round =>
        obtain ⟨k, m, hk, rfl, HM, HWA, HBk⟩ := hrel
        obtain ⟨wp, rfl⟩ : ∃ wp : World, wp = wr := ⟨_, rfl⟩
        by_cases hltk : k < N
        · have hkI : (k : Int) < (N : Int) := by omega
          go_wp2_with fail
          go_loopw [12] (fun iv wr => ∃ (i : Nat) (m : Nat → Nat → Bool), i ≤ N ∧ iv = .int .i64 (i : Int) ∧ Hid (Mat wr w1.heap.size N w1.heap.size row N m) ∧ Hid (War (Edg held l) N k i 0 m) ∧ Hid (Below w1.heap.size w1 wr)) (fun iv _ => N - (intOf iv).toNat)
          case atStart => exact ⟨0, m, by omega, rfl, HM.out, HWA.out, HBk.out⟩
          case round =>
            obtain ⟨i, m, hi2, rfl, HM, HWA, HBi⟩ := hrel
            obtain ⟨wq, rfl⟩ : ∃ wq : World, wq = wr := ⟨_, rfl⟩
            by_cases hlti : i < N
            · have hiI : (i : Int) < (N : Int) := by omega
              go_wp2_with fail
              go_loopw [13] (fun jv wr => ∃ (j : Nat) (m : Nat → Nat → Bool), j ≤ N ∧ jv = .int .i64 (j : Int) ∧ Hid (Mat wr w1.heap.size N w1.heap.size row N m) ∧ Hid (War (Edg held l) N k i j m) ∧ Hid (Below w1.heap.size w1 wr)) (fun jv _ => N - (intOf jv).toNat)
              case atStart => exact ⟨0, m, by omega, rfl, HM.out, HWA.out, HBi.out⟩
              case round =>
                obtain ⟨j, m, hj, rfl, HMj, HWj, HBj⟩ := hrel
                by_cases hltj : j < N
                · have hjI : (j : Int) < (N : Int) := by omega
                  have s0 := HMj.out.sp hlti hlti
                  have s1 := HMj.out.sp hltk hltk
                  have c0 := HMj.out.c i k hlti hltk
                  have c1 := HMj.out.c k j hltk hltj
                  have d0 := HMj.out.c i j hlti hltj
                  have d1 := HMj.out.f i j hlti hltj
                  have hset := HMj.out.set hlti hltj
                  have hgB := (HMj.out.rB i hlti).1
                  obtain ⟨gi, hgi⟩ : ∃ gi, gi = row i := ⟨_, rfl⟩
                  obtain ⟨gk, hgk⟩ : ∃ gk, gk = row k := ⟨_, rfl⟩
                  rw [← hgi] at s0 c0 d0 d1 hset hgB
                  rw [← hgk] at s1 c1
                  obtain ⟨b1, hb1⟩ : ∃ b1, b1 = m i k := ⟨_, rfl⟩
                  obtain ⟨b2, hb2⟩ : ∃ b2, b2 = m k j := ⟨_, rfl⟩
                  rw [← hb1] at c0
                  rw [← hb2] at c1
                  have HS := Lib.hid hset
                  have HBS := Lib.hid (HBj.out.setCell (p := ⟨gi, j, none⟩) hgB (.bool true))
                  have H1 := Lib.hid hb1
                  have H2 := Lib.hid hb2
                  clear hset hgB hgi hgk hb1 hb2
                  cases b1
                  · have HNX := Lib.hid (HWj.out.miss hltk hlti hltj (by rw [← H1.out]; simp))
                    go_wp2_with fail
                    go_roundw
                    case rel => exact ⟨j + 1, m, by omega, by go_num, HMj.out, HNX.out, HBj.out⟩
                    case measure => simp [intOf]; omega
                  · cases b2
                    · have HNX := Lib.hid (HWj.out.miss hltk hlti hltj (by rw [← H2.out]; simp))
                      go_wp2_with fail
                      go_roundw
                      case rel => exact ⟨j + 1, m, by omega, by go_num, HMj.out, HNX.out, HBj.out⟩
                      case measure => simp [intOf]; omega
                    · have HNX := Lib.hid (HWj.out.hit hltk hlti hltj H1.out.symm H2.out.symm)
                      go_wp2_with fail
                      go_roundw
                      case rel => exact ⟨j + 1, _, by omega, by go_num, HS.out, HNX.out, HBS.out⟩
                      case measure => simp [intOf]; omega
                · obtain rfl : j = N := by omega
                  have HNX := Lib.hid HWj.out.row
                  have hjI : ¬ (j : Int) < (j : Int) := by omega
                  clear hltj
                  go_wp2_with fail
                  go_roundw
                  case rel => exact ⟨i + 1, m, by omega, by go_num, HMj.out, HNX.out, HBj.out⟩
                  case measure => simp [intOf]; omega
            · obtain rfl : i = N := by omega
              have HNX := Lib.hid HWA.out.next
              have hiI2 : ¬ (i : Int) < (i : Int) := by omega
              clear hlti
              go_wp2_with fail
              go_roundw
              case rel => exact ⟨k + 1, m, by omega, by go_num, HM.out, HNX.out, HBi.out⟩
              case measure => simp [intOf]; omega
        · obtain rfl : k = N := by omega
          have hkI : ¬ (k : Int) < (k : Int) := by omega
          clear hltk
          go_wp2_with fail
          go_loopw [14, 15] (fun ov iv wr => ∃ (i : Nat) (V : Int), i ≤ k ∧ iv = .int .i64 (i : Int) ∧ ov = .int .i64 V ∧ Hid (V = vicS (cycB held l) (l.take i)) ∧ Hid (Below wp.heap.size wp wr)) (fun _ iv _ => k - (intOf iv).toNat)
          case atStart => exact ⟨0, 0, by omega, rfl, rfl, rfl, Below.refl _ _⟩
          case round =>
            obtain ⟨i, V, hi2, rfl, rfl, HV, HBi⟩ := hrel
            by_cases hlti : i < k
            · have hMi := HM.out.below HBi.out
              have s0 := hMi.sp hlti hlti
              have c0 := hMi.c i i hlti hlti
              have hB2 := HBk.out.trans (HBi.out.mono HBk.out.size)
              have q1 := cell_of_below hB2 HQ2.out
              have qc := cell_of_below hB2 (HQC.out i hlti)
              have hil : i < l.length := by rw [← HOK.out.2.2]; exact hlti
              have hcy : m i i = cycB held l (l.getD i nlk).t := by
                rw [Bool.eq_iff_iff, HWA.out.done hlti hlti, cycB_iff, cyc_pth HOK.out.1.qp hil, ← HOK.out.2.2]
              have hsn : vicS (cycB held l) (l.take (i + 1)) = if cycB held l (l.getD i nlk).t = true then max V (l.getD i nlk).t else V := by
                rw [List.take_succ_eq_append_getElem hil, vicS_snoc, ← HV.out, gd hil]
              obtain ⟨t, ht⟩ : ∃ t, t = (l.getD i nlk).t := ⟨_, rfl⟩
              obtain ⟨g, hg⟩ : ∃ g, g = row i := ⟨_, rfl⟩
              obtain ⟨b, hb⟩ : ∃ b, b = cycB held l t := ⟨_, rfl⟩
              rw [← ht] at qc hcy hsn
              rw [← hb] at hcy hsn
              rw [← hg] at s0 c0
              rw [hcy] at c0
              have HSN := Lib.hid hsn
              have hiI3 : (i : Int) < (k : Int) := by omega
              clear hMi hB2 hil hcy hsn ht hg hb
              cases b
              · have he : vicS (cycB held l) (l.take (i + 1)) = V := by rw [HSN.out]; simp
                have HE := Lib.hid he
                clear he
                go_wp2_with fail
                go_roundw
                case rel => exact ⟨i + 1, V, by omega, by go_num, rfl, HE.out.symm, HBi.out⟩
                case measure => simp [intOf]; omega
              · by_cases hvt : V < t
                · have he : vicS (cycB held l) (l.take (i + 1)) = t := by rw [HSN.out, if_pos rfl]; omega
                  have HE := Lib.hid he
                  clear he
                  go_wp2_with fail
                  go_roundw
                  case rel => exact ⟨i + 1, t, by omega, by go_num, rfl, HE.out.symm, HBi.out⟩
                  case measure => simp [intOf]; omega
                · have he : vicS (cycB held l) (l.take (i + 1)) = V := by rw [HSN.out, if_pos rfl]; omega
                  have HE := Lib.hid he
                  clear he
                  go_wp2_with fail
                  go_roundw
                  case rel => exact ⟨i + 1, V, by omega, by go_num, rfl, HE.out.symm, HBi.out⟩
                  case measure => simp [intOf]; omega
            · obtain rfl : i = k := by omega
              have hva : vicA held l = V := by
                unfold vicA vicL
                rw [if_pos HOK.out.2.1, HV.out, List.take_of_length_le (by rw [← HOK.out.2.2]; exact Nat.le_refl _)]
              have HVA := Lib.hid hva
              have hiI3 : ¬ (i : Int) < (i : Int) := by omega
              clear hva hlti
              go_wp2_with fail
              go_ret2
              unfold VicIs
              rw [HVA.out, HOK.out.2.1]
              exact ⟨rfl, into HB1.out (HBk.out.trans (HBi.out.mono HBk.out.size))⟩
theorem dvo_zero (w : World) (nh : Nat) (hv qv : Value) (held : List Lk) (hrh : Rd w 3 nh hv (lkc held)) (hr : Rd w 3 0 qv (lkc [])) (hok : Okl held []) :
    Calls Tryd.prog 8 #[.agg #[hv, qv]] w (VicIs held [] w) := by
  have hlh := len_l hrh
  have hfew := hok.few
  have hlk : lksF held [] = 0 := (okl_iff held []).2 hok
  have hva : vicA held [] = 0 := by
    unfold vicA
    rw [if_pos hlk]
    rfl
  obtain ⟨ah, ch, rfl⟩ := row_shape hrh
  obtain ⟨aq, cq, rfl⟩ := row_shape hr
  have hb0 := (Below.refl w.heap.size w).alloc (Nat.le_refl _) (.cells #[.slice ah nh ch, .slice aq 0 cq] 24)
  have hwt := dwo_any _ nh 0 _ _ held [] (hrh.below hb0) (hr.below hb0) (by simp at hfew; omega) (by omega)
  have hwt2 : Calls Tryd.prog 15 #[.agg #[.slice ah nh ch, .slice aq 0 cq]] (w.alloc (.cells #[.slice ah nh ch, .slice aq 0 cq] 24)) fun e w' => ∃ v, e = .returned (.tuple #[v, .int .i64 0]) ∧ Below (w.alloc (.cells #[.slice ah nh ch, .slice aq 0 cq] 24)).heap.size (w.alloc (.cells #[.slice ah nh ch, .slice aq 0 cq] 24)) w' := hwt.mono fun e w' ⟨v, g1, _, g3⟩ => ⟨v, by rw [← hlk]; exact g1, g3⟩
  have hmk1 : ∀ W : World, (Instr.makeSlice 47 (.int .i64 0) (.int .i64 0)).run Tryd.prog W = .ok (.slice (some ⟨W.heap.size, 0, none⟩) 0 0) (W.alloc (.cells (madeCells (Value.slice none 0 0).cells 0) 48)) := fun W => by
    obtain ⟨i0, e0, e1, e2, e3⟩ := info_parts Tryd.info48
    have := run_make (P := Tryd.prog) W 47 48 i0 _ Tryd.underlying47 e0 e1 .i64 .i64 0 0 (by omega) (by omega) (by rw [e3]; omega) (by omega)
    rw [e2] at this
    simpa using this
  have HWT := Lib.hid hwt2
  have HB0 := Lib.hid hb0
  have H0 := Lib.hid (And.intro hlk hva)
  have q1 : (w.alloc (.cells #[.slice ah nh ch, .slice aq 0 cq] 24)).cell? ⟨w.heap.size, 1, none⟩ = some (.slice aq 0 cq) := by go_simp
  have HQ1 := Lib.hid q1
  clear hwt hwt2 hb0 hlk hva hrh hr hok hlh hfew q1
  go_enter Tryd.func8, Tryd.ntmps8
  go_wp2_with fail
  refine HWT.out.mono ?_
  rintro e w1 ⟨v, rfl, hb1⟩
  have HB1 := Lib.hid (into HB0.out hb1)
  have q1 := cell_of_below hb1 HQ1.out
  clear hb1
  go_wp2_with fail
  go_rounds 1
  go_rounds 1
  go_rounds 1
  go_ret2
  unfold VicIs
  rw [H0.out.1, H0.out.2]
  exact ⟨rfl, HB1.out.alloc HB1.out.size _⟩
theorem dvo_any (w : World) (nh n : Nat) (hv qv : Value) (held l : List Lk) (hrh : Rd w 3 nh hv (lkc held)) (hr : Rd w 3 n qv (lkc l)) (h1 : nh ≤ 1000000000000000) (h2 : n ≤ 1000000000000000) :
    Calls Tryd.prog 8 #[.agg #[hv, qv]] w (VicIs held l w) := by
  by_cases h : lksF held l = 0
  · by_cases h0 : n = 0
    · have hl0 : l = [] := List.eq_nil_of_length_eq_zero (by have := len_l hr; omega)
      subst hl0 h0
      exact dvo_zero w nh hv qv held hrh hr ((okl_iff held []).1 h)
    · exact dvo_good w nh n hv qv held l hrh hr ((okl_iff held l).1 h) (by omega)
  · exact dvo_bad w nh n hv qv held l hrh hr h1 h2 h
end Go.Proofs.YtpddlckkncmlmabDoor

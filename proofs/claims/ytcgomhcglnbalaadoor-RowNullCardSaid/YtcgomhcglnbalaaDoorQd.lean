/- Lists of tokens, one behind the other. -/
import Derived.Test.YtcgomhcglnbalaaDoorQw
namespace Go.Proofs.YtcgomhcglnbalaaDoor
open Go.ChangeShapes Go.WideShapes Go.ChangeAt Go.RowKit
set_option linter.unusedVariables false
set_option linter.unusedSimpArgs false
set_option maxHeartbeats 2000000
/-- A part: a slice, and the tokens that it reads as. -/
structure Pt where
  v : Value
  l : List Tk
def npt : Pt := ⟨.slice none 0 0, []⟩
def ptl (l : List Pt) : List Tk := l.flatMap Pt.l
theorem ptl_snoc {l : List Pt} {k : Nat} (h : k < l.length) : ptl (l.take (k + 1)) = ptl (l.take k) ++ (l.getD k npt).l := by
  unfold ptl
  rw [List.take_succ_eq_append_getElem h, List.flatMap_append]
  congr 1
  simp [List.getD, List.getElem?_eq_getElem h]
theorem ptl_le (l : List Pt) (k : Nat) : (ptl (l.take k)).length ≤ (ptl l).length := by
  have h : ptl l = ptl (l.take k) ++ ptl (l.drop k) := by
    unfold ptl
    rw [← List.flatMap_append, List.take_append_drop]
  rw [h, List.length_append]
  omega
theorem pgetD_mem {l : List Pt} {k : Nat} (h : k < l.length) : l.getD k npt ∈ l := by
  rw [List.getD, List.getElem?_eq_getElem h]
  exact List.getElem_mem h
theorem pv_at {l : List Pt} {k : Nat} (h : k < l.length) : (l.map Pt.v)[k]? = some (l.getD k npt).v := by
  rw [List.getElem?_map, List.getElem?_eq_getElem h, Option.map_some, List.getD, List.getElem?_eq_getElem h]
  rfl
theorem concat_any (w : World) (m : Nat) (v : Value) (ps : List Pt) (hm0 : 0 < m) (hm : m ≤ 1000) (hr : Rd w 1 m v (ps.map Pt.v)) (hp : ∀ p ∈ ps, Rd w 3 p.l.length p.v (tkc p.l)) (hT : (ptl ps).length ≤ 1000000) :
    Calls Tryd.prog 51 #[v] w fun e w' => ∃ v', e = .returned v' ∧ w'.ownsRow w.heap.size 73 3 v' (ptl ps).length (tkc (ptl ps)) ∧ Below w.heap.size w w' := by
  have hml : m = ps.length := by have := hr.1; simp at this; omega
  obtain ⟨b, o, cap, rfl, hmc, _, hbw, hcell⟩ := hr.pos hm0 (by omega)
  have HC : Hid (∀ k, k < m → w.cell? ⟨b, o + k, none⟩ = some (ps.getD k npt).v) := fun k hk => hcell k _ (pv_at (by omega))
  have HP := Lib.hid hp
  have HN := Lib.hid hml
  have HT := Lib.hid hT
  clear hcell hp hml hr hT
  go_enter Tryd.func51, Tryd.ntmps51
  go_wp2_with fail
  go_loopw [3, 11] (fun z i wr => ∃ k : Nat, k ≤ m ∧ i = .int .i64 (k : Int) ∧ (∃ n : Nat, z = .int .i64 (n : Int) ∧ Hid (n = (ptl (ps.take k)).length) ∧ n ≤ 1000000) ∧ wr = w) (fun _ i _ => m - (intOf i).toNat)
  case atStart => exact ⟨0, by omega, rfl, ⟨0, rfl, rfl, by omega⟩, rfl⟩
  case round =>
    obtain ⟨k, hk, rfl, ⟨n, rfl, HZ, hn⟩, hwr⟩ := hrel
    obtain rfl : w = wr := hwr.symm
    by_cases hlt : k < m
    · have hll : k < ps.length := by rw [← HN.out]; exact hlt
      have c0 := HC.out k hlt
      have hrp := HP.out _ (pgetD_mem hll)
      have hsn := ptl_snoc hll
      have hle := ptl_le ps (k + 1)
      rw [hsn, List.length_append, ← HZ.out] at hle
      obtain ⟨_, ao, cp, hv, _⟩ := hrp
      obtain ⟨q, hq⟩ : ∃ q, q = (ps.getD k npt).l.length := ⟨_, rfl⟩
      rw [hv, ← hq] at c0
      rw [← hq] at hle
      have hq2 := Nat.le_trans hle HT.out
      have HS : Hid (n + q = (ptl (ps.take (k + 1))).length) := by
        show _ = _
        rw [hsn, List.length_append, ← HZ.out, ← hq]
      clear hle hsn hv hq hll
      have hw : (n : Int) + (q : Int) < 9223372036854775808 := by omega
      have hge : ¬ ((n : Int) + (q : Int) < 0) := by omega
      go_wp2_with fail
      go_roundw
      case rel => exact ⟨k + 1, by omega, by go_num, ⟨n + q, by go_num, HS.out, by omega⟩, trivial⟩
      case measure => simp [intOf]; omega
    · obtain rfl : k = m := by omega
      have HG := Lib.hid (grow_any w n hn)
      have HX : Hid (ptl (ps.take 0) = []) := rfl
      go_wp2_with fail
      refine HG.out.mono ?_
      rintro e w1 ⟨v1, rfl, hown, hb1⟩
      have HO := Lib.hid hown
      have HB1 := Lib.hid hb1
      clear hown hb1 HG
      go_wp2_with fail
      go_loopw [6, 27] (fun u i wr => ∃ j : Nat, j ≤ k ∧ i = .int .i64 (j : Int) ∧ Hid (wr.ownsRow w.heap.size 73 3 u (ptl (ps.take j)).length (tkc (ptl (ps.take j)))) ∧ Hid (Below w.heap.size w wr)) (fun _ i _ => k - (intOf i).toNat)
      case atStart => exact ⟨0, by omega, rfl, HO.out, HB1.out⟩
      case round =>
        obtain ⟨j, hj, rfl, HU, HB⟩ := hrel
        by_cases hlt : j < k
        · have hll : j < ps.length := by rw [← HN.out]; exact hlt
          have c0 := (HB.out.cell (p := ⟨b, o + j, none⟩) hbw).trans (HC.out j hlt)
          have hrp := (HP.out _ (pgetD_mem hll)).below HB.out
          have hsn := ptl_snoc hll
          have hle := ptl_le ps (j + 1)
          rw [hsn, List.length_append] at hle
          have hle2 := Nat.le_trans hle HT.out
          have hsz := HB.out.size
          obtain ⟨p, hpp⟩ : ∃ p, p = ps.getD j npt := ⟨_, rfl⟩
          rw [← hpp] at c0 hrp hsn hle2
          obtain ⟨pv, pl⟩ := p
          simp only at c0 hrp hsn hle2
          obtain ⟨r, hr⟩ : ∃ r, r = (ptl (ps.take j)).length := ⟨_, rfl⟩
          rw [← hr] at HU hle2
          obtain ⟨q, hq⟩ : ∃ q, q = pl.length := ⟨_, rfl⟩
          rw [← hq] at hrp hle2
          have HS : Hid (ptl (ps.take (j + 1)) = ptl (ps.take j) ++ pl) := hsn
          have HR := Lib.hid hrp
          have HQ : Hid (r + q = (ptl (ps.take (j + 1))).length) := by
            show _ = _
            rw [hsn, List.length_append, ← hr, ← hq]
          clear hle hsn hrp hr hq hpp hll
          obtain ⟨ao, cp, hv, hc1, hc2⟩ : ∃ ao cp, pv = .slice ao q cp ∧ q ≤ cp ∧ cp ≤ maxLen := by
            obtain ⟨_, ao, cp, hv, h1, h2, _⟩ := HR.out
            exact ⟨ao, cp, hv, h1, h2⟩
          subst hv
          go_wp2_with (at_builtin; refine apg _ q rfl _ _ 62 73 _ 3 32 Tryd.underlying62 Tryd.info73 rfl (by omega) rfl HU.out hsz (by omega) (by unfold maxLen; omega) (tkc_one _) HR.out rfl rfl ?_; intro v3 w3 hown3 hb3 _; have HO3 := Lib.hid hown3; have HB3 := Lib.hid (HB.out.trans hb3); clear hown3 hb3)
          go_roundw
          case rel =>
            refine ⟨j + 1, by omega, by go_num, ?_, HB3.out⟩
            show World.ownsRow _ _ _ _ _ _ _
            rw [← HQ.out, HS.out, tkc_app]
            exact HO3.out
          case measure => simp [intOf]; omega
        · obtain rfl : j = k := by omega
          have HE : Hid (ps.take j = ps) := by
            show _ = _
            rw [List.take_of_length_le (by rw [← HN.out]; exact Nat.le_refl _)]
          go_wp2_with fail
          go_ret
          refine ⟨_, rfl, ?_, HB.out⟩
          have h := HU.out
          rw [HE.out] at h
          exact h
end Go.Proofs.YtcgomhcglnbalaaDoor

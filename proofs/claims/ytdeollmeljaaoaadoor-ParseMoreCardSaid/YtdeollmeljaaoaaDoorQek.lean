import Derived.Test.YtdeollmeljaaoaaDoorAzk
import Derived.Test.YtdeollmeljaaoaaDoorQbk
set_option linter.unusedVariables false
set_option linter.unusedSimpArgs false
set_option maxHeartbeats 2000000
open Go.ChangeAt Go.ChangeShapes Go.RowKit Go.WideShapes
open Go.Lib (hid)
namespace Go.Proofs.YtdeollmeljaaoaaDoor
def ptk (t : ByteArray) : Tk := ⟨if tkF 1 t.data.toList 0 = 0 then 1 else 4, t.data.toList, 0⟩
theorem of_data (t : ByteArray) : (⟨t.data.toList.toArray⟩ : ByteArray) = t := str_ext rfl
theorem tkc_snoc (l : List ByteArray) (t : ByteArray) (k : Int) (h : k = (ptk t).k) : tkc (l.map ptk ++ [ptk t]) = tkc (l.map ptk) ++ [.int .i64 k, .string t, .int .i64 0] := by
 rw [tkc_app]
 subst h
 show _ ++ [Value.int .i64 (ptk t).k, Value.string ⟨(ptk t).t.toArray⟩, Value.int .i64 0] = _
 rw [show (⟨(ptk t).t.toArray⟩ : ByteArray) = t from of_data t]
def nby : ByteArray := ⟨#[]⟩
theorem sgetD_mem {l : List ByteArray} {k : Nat} (h : k < l.length) : l.getD k nby ∈ l := by
 rw [List.getD, List.getElem?_eq_getElem h]
 exact List.getElem_mem h
theorem st_at {l : List ByteArray} {k : Nat} (h : k < l.length) : (l.map Value.string)[k]? = some (.string (l.getD k nby)) := by
 rw [List.getElem?_map, List.getElem?_eq_getElem h, Option.map_some, List.getD, List.getElem?_eq_getElem h]
 rfl
theorem stake_snoc {l : List ByteArray} {k : Nat} (h : k < l.length) : (l.take (k + 1)).map ptk = (l.take k).map ptk ++ [ptk (l.getD k nby)] := by
 rw [List.take_succ_eq_append_getElem h, List.map_append]
 congr 1
 simp [List.getD, List.getElem?_eq_getElem h]
theorem own_set {w : World} {B e s n : Nat} {v : Value} {xs : List Value} (h : w.ownsRow B e s v n xs) {p : Addr} (hp : ∀ k, v.ownBlock = some k → k ≠ p.block) (u : Value) : (w.setCell p u).ownsRow B e s v n xs := by
 refine ⟨h.1, ?_⟩
 rcases h.2 with h0 | ⟨g, cap, cur, rfl, h1, h2, h3⟩
 ·exact .inl h0
 ·exact .inr ⟨g, cap, cur, rfl, h1, (heap_setCell_other w p g u (hp g rfl)).trans h2, h3⟩
theorem clone_any (w : World) (s : ByteArray) (hs : s.size ≤ 281474976710656) : Calls Tryd.prog 61 #[.string s] w fun e w' => e = .returned (.string s) ∧ Below w.heap.size w w' := by
 go_enter Tryd.func61, Tryd.ntmps61
 go_wp2_with fail
 refine (Tryd.stringslite_Clone s w hs).mono ?_
 rintro e w1 ⟨rfl, hb⟩
 go_wp2_with fail
 go_ret
 exact ⟨rfl, hb⟩
theorem plain_any (w : World) (hM : Mk w) (n : Nat) (v : Value) (ts : List ByteArray) (hn0 : 0 < n) (hn : n ≤ 1000) (hr : Rd w 1 n v (ts.map Value.string)) (hs : ∀ t ∈ ts, t.size ≤ 1000) :
  Calls Tryd.prog 34 #[v] w fun e w' => ∃ v', e = .returned v' ∧ w'.ownsRow w.heap.size 45 3 v' n (tkc (ts.map ptk)) ∧ Below w.heap.size w w' := by
 have hml : n = ts.length := by have := hr.1; simp at this; omega
 obtain ⟨b, o, cap, rfl, _, _, hbw, hcell⟩ := hr.pos hn0 (by omega)
 have HC : Hid (∀ k, k < n → w.cell? ⟨b, o + k, none⟩ = some (.string (ts.getD k nby))) := fun k hk => hcell k _ (st_at (by omega))
 have HN := hid hml
 have HS := hid hs
 have HX := hid hM
 clear hcell hml hs hM hr
 go_enter Tryd.func34, Tryd.ntmps34
 go_wp2_with fail
 go_loopw [3, 9] (fun u i wr => ∃ k : Nat, k ≤ n ∧ i = .int .i64 (k : Int) ∧ Hid (wr.ownsRow w.heap.size 45 3 u k (tkc ((ts.take k).map ptk))) ∧ Hid (Below w.heap.size w wr)) (fun _ i _ => n - (intOf i).toNat)
 case atStart => exact ⟨0, by omega, rfl, World.ownsRow_nil _ _ _ _, Below.refl _ _⟩
 case round =>
  obtain ⟨k, hk, rfl, HU, HB⟩ := hrel
  by_cases hlt : k < n
  ·have hll : k < ts.length := by rw [← HN.out]; exact hlt
   have c0 := (HB.out.cell (p := ⟨b, o + k, none⟩) hbw).trans (HC.out k hlt)
   have hsz := HS.out _ (sgetD_mem hll)
   have hsn := stake_snoc hll
   obtain ⟨t, ht⟩ : ∃ t, t = ts.getD k nby := ⟨_, rfl⟩
   rw [← ht] at c0 hsz hsn
   obtain ⟨q, hq⟩ : ∃ q, q = tkF 1 t.data.toList 0 := ⟨_, rfl⟩
   have HCK : Hid (∀ W, Below w.heap.size w W → Calls Tryd.prog 28 #[.agg #[.int .i64 1, .string t, .int .i64 0]] W fun e w' => e = .returned (.int .i64 q) ∧ Below W.heap.size W w') := fun W hb => by
    rw [hq]
    exact check_any W (HX.out.below hb) 1 0 t (by unfold maxLen; omega)
   have HCL : Hid (∀ W, Calls Tryd.prog 61 #[.string t] W fun e w' => e = .returned (.string t) ∧ Below W.heap.size W w') := fun W => clone_any W t (by omega)
   have HK : Hid (ptk t = ⟨if q = 0 then 1 else 4, t.data.toList, 0⟩) := by
    show _ = _
    rw [hq]
    rfl
   have HSN := hid hsn
   have HLT : Hid (∀ kk, u3.ownBlock = some kk → kk < wr.heap.size) := fun kk h => (HU.out.lt kk h).2
   have hCell : ∀ kk : Int, kk = (if q = 0 then 1 else 4) → tkc ((ts.take (k + 1)).map ptk) = tkc ((ts.take k).map ptk) ++ [.int .i64 kk, .string t, .int .i64 0] := fun kk hkk => by
    rw [HSN.out]
    exact tkc_snoc _ _ _ (by rw [HK.out, hkk])
   have HCL2 := hid hCell
   clear hsn hsz hq ht hll hCell HSN HK
   by_cases hq0 : q = 0
   ·subst hq0
    go_wp2_with (go_at_call 61; ((with_reducible refine (HCL.out _).mono ?_); rintro e w1 ⟨rfl, hb1⟩; have HB1 := hid hb1; have HW1 := hid (into HB.out hb1); clear hb1))
    refine (HCK.out _ (HW1.out.alloc HW1.out.size _)).mono ?_
    rintro e w2 ⟨rfl, hb2⟩
    obtain ⟨x0, x1, x2, y0, y1, y2⟩ := has3 (new0 w1 (.cells #[.int .i64 1, .string t, .int .i64 0] 45)) hb2
    have HW2 := hid (into (HW1.out.alloc HW1.out.size _) hb2)
    have HO2 := hid (own_below ((own_below HU.out HB1.out).alloc _) hb2)
    have hz2 := HW2.out.size
    clear hb2
    go_wp2_with (at_builtin; refine apt w2 rfl _ _ rfl HO2.out hz2 (by omega) w2.heap.size rfl rfl rfl ?_; intro v3 w3 hown3 hb3 _; have HO3 := hid hown3; have HB3 := hid (HW2.out.trans hb3); clear hown3 hb3)
    go_roundw
    case rel =>
     refine ⟨k + 1, by omega, by go_num, ?_, HB3.out⟩
     show World.ownsRow _ _ _ _ _ _ _
     rw [HCL2.out 1 rfl]
     exact HO3.out
    case measure => (simp [intOf]) <;> omega
   ·have hq0' : (q == 0) = false := by simpa using hq0
    go_wp2_with (go_at_call 61; ((with_reducible refine (HCL.out _).mono ?_); rintro e w1 ⟨rfl, hb1⟩; have HB1 := hid hb1; have HW1 := hid (into HB.out hb1); clear hb1))
    refine (HCK.out _ (HW1.out.alloc HW1.out.size _)).mono ?_
    rintro e w2 ⟨rfl, hb2⟩
    obtain ⟨x0, x1, x2, y0, y1, y2⟩ := has3 (new0 w1 (.cells #[.int .i64 1, .string t, .int .i64 0] 45)) hb2
    have HW2 := hid (into (HW1.out.alloc HW1.out.size _) hb2)
    have HO2 := hid (own_below ((own_below HU.out HB1.out).alloc _) hb2)
    have hz2 := HW2.out.size
    have hz1 := HB1.out.size
    have hzw := HW1.out.size
    have HO2' : Hid ((w2.setCell ⟨w1.heap.size, 0, none⟩ (.int .i64 4)).ownsRow w.heap.size 45 3 u3 k (tkc ((ts.take k).map ptk))) := own_set HO2.out (fun kk h => by have := HLT.out kk h; show kk ≠ w1.heap.size; omega) _
    have HW2' : Hid (Below w.heap.size w (w2.setCell ⟨w1.heap.size, 0, none⟩ (.int .i64 4))) := HW2.out.setCell (p := ⟨w1.heap.size, 0, none⟩) hzw _
    clear hb2 HO2
    go_wp2_with (at_builtin; refine apt (w2.setCell ⟨w1.heap.size, 0, none⟩ (.int .i64 4)) rfl _ _ rfl HO2'.out (by simp; omega) (by omega) w2.heap.size (by simp) rfl rfl ?_; intro v3 w3 hown3 hb3 _; have HO3 := hid hown3; have HB3 := hid (HW2'.out.trans hb3); clear hown3 hb3)
    go_roundw
    case rel =>
     refine ⟨k + 1, by omega, by go_num, ?_, HB3.out⟩
     show World.ownsRow _ _ _ _ _ _ _
     rw [HCL2.out 4 (by rw [if_neg hq0])]
     exact HO3.out
    case measure => (simp [intOf]) <;> omega
  ·obtain rfl : k = n := by omega
   have HE : Hid (ts.take k = ts) := by
    show _ = _
    rw [List.take_of_length_le (by rw [← HN.out]; exact Nat.le_refl _)]
   go_wp2_with fail
   go_ret
   refine ⟨_, rfl, ?_, HB.out⟩
   have h := HU.out
   rw [HE.out] at h
   exact h
end Go.Proofs.YtdeollmeljaaoaaDoor

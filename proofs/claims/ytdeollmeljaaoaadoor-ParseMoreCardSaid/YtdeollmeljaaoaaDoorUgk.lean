import Derived.Test.YtdeollmeljaaoaaDoorUek
import Derived.Test.YtdeollmeljaaoaaDoorUbk
set_option linter.unusedVariables false
set_option linter.unusedSimpArgs false
set_option maxHeartbeats 2000000
open Go.ChangeAt Go.ChangeShapes Go.RowKit Go.WideShapes
open Go.Lib (hid)
namespace Go.Proofs.YtdeollmeljaaoaaDoor
theorem checkOp_any (w : World) (hM : Mk w) (hK : Kt w) (k vk vn : Int) (vt t : ByteArray) (hs : t.size ≤ maxLen) :
  Calls Tryd.prog 67 #[.agg #[.int .i64 k, .int .i64 vk, .int .i64 vn, .string vt, .string t]] w fun e w' => e = .returned (.int .i64 (opF k vk vn vt t)) ∧ Below w.heap.size w w' := by
 have hl := lit_any vk vn vt (w.alloc (.cells #[.int .i64 k, .int .i64 vk, .int .i64 vn, .string vt, .string t] 54))
 have hF : opF k vk vn vt t = if k < 1 ∨ 11 < k then 2 else if litF vk vn vt ≠ 0 then litF vk vn vt
  else if (k ≠ 1 ∧ vnul vk vn vt = false) ∨ (k ≠ 2 ∧ t.toList.isEmpty = false) then 6 else if k = 2 then nmF t.data.toList else 0 := rfl
 obtain ⟨r, hr⟩ : ∃ r, r = litF vk vn vt := ⟨_, rfl⟩
 rw [← hr] at hl hF
 have HL := hid hl
 have HF := hid hF
 have HN : Hid (∀ w1, Below w.heap.size w w1 → Calls Tryd.prog 25 #[.string t] w1 fun e w' => e = .returned (.int .i64 (nmF t.data.toList)) ∧ Below w1.heap.size w1 w') := fun w1 hb => name_any w1 (hM.below hb) (hK.below hb) t hs
 clear hl hF hr hM hK
 by_cases h1 : k < 1
 ·go_enter Tryd.func67, Tryd.ntmps67
  go_wp2_with fail
  go_ret
  exact ⟨ri (by rw [HF.out, if_pos (.inl h1)]), (Below.refl _ _).alloc (Nat.le_refl _) _⟩
 ·by_cases h11 : 11 < k
  ·go_enter Tryd.func67, Tryd.ntmps67
   go_wp2_with fail
   go_ret
   exact ⟨ri (by rw [HF.out, if_pos (.inr h11)]), (Below.refl _ _).alloc (Nat.le_refl _) _⟩
  ·by_cases hr0 : r = 0
   ·subst hr0
    go_enter Tryd.func67, Tryd.ntmps67
    go_wp2_with fail
    refine HL.out.mono ?_
    rintro e w1 ⟨rfl, hb⟩
    have HB := hid (into ((Below.refl _ _).alloc (Nat.le_refl _) _) hb)
    have hblk := hb.block w.heap.size (by simp)
    rw [new0] at hblk
    have c0 : w1.cell? ⟨w.heap.size, 0, none⟩ = some (.int .i64 k) := by simp [World.cell?, hblk]
    have c1 : w1.cell? ⟨w.heap.size, 1, none⟩ = some (.int .i64 vk) := by simp [World.cell?, hblk]
    have c2 : w1.cell? ⟨w.heap.size, 2, none⟩ = some (.int .i64 vn) := by simp [World.cell?, hblk]
    have c3 : w1.cell? ⟨w.heap.size, 3, none⟩ = some (.string vt) := by simp [World.cell?, hblk]
    have c4 : w1.cell? ⟨w.heap.size, 4, none⟩ = some (.string t) := by simp [World.cell?, hblk]
    clear hb hblk
    have HO : Hid (Below w.heap.size w w1) := HB.out
    clear HL
    go_wp2_with (go_at_call 25; (with_reducible refine (HN.out _ HO.out).mono ?_); rintro e w2 ⟨rfl, hb2⟩; have HB := hid (into HO.out hb2); clear hb2)
    all_goals (
     go_ret
     refine ⟨ri ?_, HB.out⟩
     rw [HF.out]
     clear HF HB HO HN
     (try simp_all [vnul])
     (try omega))
   ·have hr0' : (r == 0) = false := by simpa using hr0
    go_enter Tryd.func67, Tryd.ntmps67
    go_wp2_with fail
    refine HL.out.mono ?_
    rintro e w1 ⟨rfl, hb⟩
    have HB := hid (into ((Below.refl _ _).alloc (Nat.le_refl _) _) hb)
    clear hb
    go_wp2_with fail
    go_ret
    exact ⟨ri (by rw [HF.out, if_neg (by omega), if_pos hr0]), HB.out⟩
theorem wo_is : ∀ k, k < 12 → 1 ≤ k → woL.getD k 0 = wks (k : Nat) := by decide
theorem wo_at {w : World} (h : Wo w) {k : Nat} (h1 : 1 ≤ k) (h2 : k ≤ 11) : w.cell? ⟨2, k, none⟩ = some (.int .i64 (wks (k : Nat))) := by
 obtain ⟨t, fr, h⟩ := h
 have hl : k < woL.length := by show k < 12; omega
 have e : woC[k]? = some (.int .i64 (wks (k : Nat))) := by
  unfold woC
  rw [← wo_is k (by omega) h1, List.getElem?_toArray, List.getElem?_map, List.getElem?_eq_getElem hl, Option.map_some, List.getD, List.getElem?_eq_getElem hl]
  rfl
 simp [World.cell?, h, e]
theorem len_o {w : World} {n : Nat} {v : Value} {l : List Oq} (h : Rd w 5 n v (ocs l)) : n = l.length := by have := h.1; rw [ocs_length] at this; omega
theorem ops_of {w : World} {n : Nat} {v : Value} {l : List Oq} (h : Rd w 5 n v (ocs l)) (hn : 0 < n) :
  ∃ b o cap, v = .slice (some ⟨b, o, none⟩) n cap ∧ n ≤ cap ∧ cap ≤ maxLen ∧ b < w.heap.size ∧ ∀ k, k < n → w.cell? ⟨b, o + k * 5, none⟩ = some (.int .i64 (l.getD k noq).k) ∧ w.cell? ⟨b, o + k * 5 + 1, none⟩ = some (.int .i64 (l.getD k noq).v.k) ∧ w.cell? ⟨b, o + k * 5 + 2, none⟩ = some (.int .i64 (l.getD k noq).v.n) ∧
   w.cell? ⟨b, o + k * 5 + 3, none⟩ = some (.string (l.getD k noq).v.t) ∧ w.cell? ⟨b, o + k * 5 + 4, none⟩ = some (.string (l.getD k noq).t) := by
 have hl := len_o h
 obtain ⟨b, o, cap, h1, h2, h3, h4, h5⟩ := h.pos hn (by omega)
 refine ⟨b, o, cap, h1, h2, h3, h4, fun k hk => ?_⟩
 obtain ⟨g0, g1, g2, g3, g4⟩ := ocs_at (l := l) (k := k) (by omega)
 refine ⟨h5 _ _ g0, ?_, ?_, ?_, ?_⟩
 ·have := h5 _ _ g1; rwa [← Nat.add_assoc] at this
 ·have := h5 _ _ g2; rwa [← Nat.add_assoc] at this
 ·have := h5 _ _ g3; rwa [← Nat.add_assoc] at this
 ·have := h5 _ _ g4; rwa [← Nat.add_assoc] at this
theorem drop_cons {l : List Oq} {k : Nat} (h : k < l.length) : l.drop k = l.getD k noq :: l.drop (k + 1) := by
 rw [List.drop_eq_getElem_cons h]
 simp [List.getD, List.getElem?_eq_getElem h]
theorem getD_mem {l : List Oq} {k : Nat} (h : k < l.length) : l.getD k noq ∈ l := by
 rw [List.getD, List.getElem?_eq_getElem h]
 exact List.getElem_mem h
theorem has5 {w0 w1 : World} {B : Nat} {t : TypeId} {x y z u v : Value} (h : w0.heap[B]? = some (.cells #[x, y, z, u, v] t (0, 0))) (hb : Below w0.heap.size w0 w1) :
  w1.cell? ⟨B, 0, none⟩ = some x ∧ w1.cell? ⟨B, 1, none⟩ = some y ∧ w1.cell? ⟨B, 2, none⟩ = some z ∧ w1.cell? ⟨B, 3, none⟩ = some u ∧ w1.cell? ⟨B, 4, none⟩ = some v := by
 have hB : B < w0.heap.size := by
  rcases Nat.lt_or_ge B w0.heap.size with g | g
  ·exact g
  ·rw [Array.getElem?_eq_none g] at h; cases h
 have h1 : w1.heap[B]? = some (.cells #[x, y, z, u, v] t (0, 0)) := (hb.block B hB).trans h
 refine ⟨?_, ?_, ?_, ?_, ?_⟩ <;> simp [World.cell?, h1]
theorem expr_any (w : World) (hM : Mk w) (hK : Kt w) (hW : Wo w) (m : Nat) (v : Value) (l : List Oq) (hr : Rd w 5 m v (ocs l)) (hs : ∀ o ∈ l, o.t.size ≤ maxLen) :
  Calls Tryd.prog 47 #[v] w fun e w' => e = .returned (.int .i64 (exprF l)) ∧ Below w.heap.size w w' := by
 have hml := len_o hr
 have hmax := hr.len
 unfold maxLen at hmax
 by_cases h40 : 40 < m
 ·have HF : Hid (exprF l = 10) := by
   show _ = _
   unfold exprF
   rw [if_pos (by omega)]
  obtain ⟨_, ao, cap, rfl, _⟩ := hr
  clear hml
  go_enter Tryd.func47, Tryd.ntmps47
  go_wp2_with fail
  go_ret
  exact ⟨ri HF.out.symm, Below.refl _ _⟩
 ·have HF : Hid (exprF l = exF 0 l) := by
   show _ = _
   unfold exprF
   rw [if_neg (by omega)]
  by_cases h0 : m = 0
  ·have hl0 : l = [] := List.eq_nil_of_length_eq_zero (by omega)
   subst hl0 h0
   obtain ⟨_, ao, cap, rfl, _⟩ := hr
   clear hml
   go_enter Tryd.func47, Tryd.ntmps47
   go_wp2_with fail
   go_rounds 1
   go_ret
   exact ⟨ri HF.out.symm, Below.refl _ _⟩
  ·obtain ⟨b, o, cap, rfl, _, _, hbw, hcell⟩ := ops_of hr (by omega)
   have HC := hid hcell
   have HS := hid hs
   have HX := hid (And.intro hM (And.intro hK hW))
   have HML := hid hml
   clear hcell hs hM hK hW hr hml
   go_enter Tryd.func47, Tryd.ntmps47
   go_wp2_with fail
   go_loopw [3, 12] (fun lf i wr => ∃ (k : Nat) (n : Int), k ≤ m ∧ i = .int .i64 (k : Int) ∧ lf = .int .i64 n ∧ 0 ≤ n ∧ n ≤ 2 * (k : Int) ∧ Hid (exF 0 l = exF n (l.drop k)) ∧ Hid (Below w.heap.size w wr)) (fun _ i _ => m - (intOf i).toNat)
   case atStart => exact ⟨0, 0, by omega, rfl, rfl, by omega, by omega, rfl, Below.refl _ _⟩
   case round =>
    obtain ⟨k, n, hk, rfl, rfl, hn0, hnk, HE, HB⟩ := hrel
    by_cases hlt : k < m
    ·have hHC := HC.out k hlt
     have hsz := HS.out _ (getD_mem (l := l) (k := k) (by rw [← HML.out]; exact hlt))
     have hdr := drop_cons (l := l) (k := k) (by rw [← HML.out]; exact hlt)
     obtain ⟨u, hu⟩ : ∃ u, u = l.getD k noq := ⟨_, rfl⟩
     rw [← hu] at hHC hsz hdr
     obtain ⟨uk, ⟨vk, vn, vt⟩, ut⟩ := u
     obtain ⟨g0, g1, g2, g3, g4⟩ := hHC
     have c0 := (HB.out.cell (p := ⟨b, o + k * 5, none⟩) hbw).trans g0
     have c1 := (HB.out.cell (p := ⟨b, o + k * 5 + 1, none⟩) hbw).trans g1
     have c2 := (HB.out.cell (p := ⟨b, o + k * 5 + 2, none⟩) hbw).trans g2
     have c3 := (HB.out.cell (p := ⟨b, o + k * 5 + 3, none⟩) hbw).trans g3
     have c4 := (HB.out.cell (p := ⟨b, o + k * 5 + 4, none⟩) hbw).trans g4
     simp only at c0 c1 c2 c3 c4 hsz
     have hE : exF n (l.drop k) = if opF uk vk vn vt ut ≠ 0 then opF uk vk vn vt ut else if n < wks uk then 7 else exF (n + 1 - wks uk) (l.drop (k + 1)) := by
      rw [hdr]
      rfl
     have hkind : opF uk vk vn vt ut = 0 → 1 ≤ uk ∧ uk ≤ 11 := opF_kind
     have hbn : Below w.heap.size w (wr.alloc (.cells #[.int .i64 uk, .int .i64 vk, .int .i64 vn, .string vt, .string ut] 54)) := HB.out.alloc HB.out.size _
     have hc := checkOp_any _ (HX.out.1.below hbn) (HX.out.2.1.below hbn) uk vk vn vt ut hsz
     obtain ⟨r, hr⟩ : ∃ r, r = opF uk vk vn vt ut := ⟨_, rfl⟩
     rw [← hr] at hc hE hkind
     have HEQ := hid hE
     have HCK := hid hc
     have HBN := hid hbn
     clear g0 g1 g2 g3 g4 hu hdr hE hc hbn hr
     by_cases hr0 : r = 0
     ·subst hr0
      obtain ⟨k1, k11⟩ := hkind rfl
      obtain ⟨kn, rfl⟩ : ∃ kn : Nat, uk = (kn : Int) := ⟨uk.toNat, by omega⟩
      obtain ⟨q0, q2⟩ := wks_in (kn : Int)
      go_wp2_with fail
      refine HCK.out.mono ?_
      rintro e w2 ⟨rfl, hb2⟩
      obtain ⟨x0, -, -, -, -⟩ := has5 (new0 wr (.cells #[.int .i64 (kn : Int), .int .i64 vk, .int .i64 vn, .string vt, .string ut] 54)) hb2
      have hB2 := into HBN.out hb2
      have hwo := wo_at (HX.out.2.2.below hB2) (k := kn) (by omega) (by omega)
      have HB2 := hid hB2
      obtain ⟨q, hq⟩ : ∃ q, q = wks (kn : Int) := ⟨_, rfl⟩
      rw [← hq] at HEQ hwo q0 q2
      clear hb2 hB2 hkind HCK hq
      by_cases hw : n < q
      ·go_wp2_with fail
       go_ret
       exact ⟨ri (by rw [HF.out, HE.out, HEQ.out, if_neg (by simp), if_pos (by omega)]), HB2.out⟩
      ·have h63 : wrap64 (n + wrap64 (1 - q)) = n + 1 - q := by unfold wrap64; omega
       go_wp2_with fail
       go_roundw
       case rel =>
        refine ⟨k + 1, n + 1 - q, by omega, by go_num, ?_, by omega, by omega, ?_, HB2.out⟩
        ·first | rfl | (congr 1; omega)
        ·show _ = _
         rw [HE.out, HEQ.out, if_neg (by simp), if_neg (by omega)]
       case measure => simp [intOf]; omega
     ·have hr0' : (r == 0) = false := by simpa using hr0
      clear hkind
      go_wp2_with fail
      refine HCK.out.mono ?_
      rintro e w2 ⟨rfl, hb2⟩
      have HB2 := hid (into HBN.out hb2)
      clear hb2
      go_wp2_with fail
      go_ret
      exact ⟨ri (by rw [HF.out, HE.out, HEQ.out, if_pos hr0]), HB2.out⟩
    ·obtain rfl : k = m := by omega
     have hE : exF n (l.drop k) = if n = 1 then 0 else 7 := by
      rw [List.drop_eq_nil_of_le (by rw [← HML.out]; exact Nat.le_refl _)]
      rfl
     have HEQ := hid hE
     clear hE
     by_cases hn1 : n = 1
     ·subst hn1
      go_wp2_with fail
      go_ret
      exact ⟨ri (by rw [HF.out, HE.out, HEQ.out]; simp), HB.out⟩
     ·have hn1' : (n == 1) = false := by simpa using hn1
      go_wp2_with fail
      go_ret
      exact ⟨ri (by rw [HF.out, HE.out, HEQ.out, if_neg hn1]), HB.out⟩
end Go.Proofs.YtdeollmeljaaoaaDoor

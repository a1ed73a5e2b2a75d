import Derived.Test.YtdeollmeljaaoaaDoorAek
import Derived.Test.YtdeollmeljaaoaaDoorTgk
import Derived.Lib.AppendZerosOnto
set_option linter.unusedVariables false
set_option linter.unusedSimpArgs false
set_option maxHeartbeats 4000000
set_option maxRecDepth 100000
open Go.ChangeAt Go.ChangeShapes Go.RowKit Go.WideShapes
open Go.Lib (hid)
namespace Go.Proofs.YtdeollmeljaaoaaDoor.rd
open Go.Proofs.YtdeollmeljaaoaaDoor.cs
section
variable {B E : Nat} {a : Option Addr} {n c : Nat} {L : List Tk}
theorem xmust {w : World} {k : Nat} {os : List Oq} (h : Xs w B E a n c L k os) {b : Nat} {ts : List ByteArray} (hk : w.heap[b]? = some (.cells (ts.map Value.string).toArray 9 (0, 0))) (hb : b ≠ B) (h0 : 0 < ts.length) (h9 : ts.length ≤ 9) :
  Calls Tryd.prog 52 #[.pointer (some ⟨B, 0, none⟩), .slice (some ⟨b, 0, none⟩) ts.length ts.length] w fun e w' => ButX B E w w' ∧ match mustF L n k ts with
   | .inl f => e = flt f.1 f.2
   | .inr k' => e = .returned (.tuple #[]) ∧ Xs w' B E a n c L k' os := by
 have hh := h
 obtain ⟨⟨ov, hr, ho⟩, _⟩ := h
 have hrd := rd_new hk (by simp; omega)
 rw [show (ts.map Value.string).length = ts.length by simp] at hrd
 refine (must_any w B a n c L k ov hr ts.length _ ts h0 hrd (fun x cap e hn => by cases e; exact hb)).mono ?_
 rintro e w' ⟨h1, h2⟩
 refine ⟨h1.to E, ?_⟩
 cases hm : mustF L n k ts with
 | inl f =>
  rw [hm] at h2
  exact h2
 | inr k' =>
  rw [hm] at h2
  exact ⟨h2.1, hh.go ho h2.2 h1⟩
theorem xlit {w : World} {k : Nat} {os : List Oq} (h : Xs w B E a n c L k os) :
  Calls Tryd.prog 78 #[.pointer (some ⟨B, 0, none⟩)] w fun e w' => ButX B E w w' ∧ match litG L n k with
   | .inl f => e = flt f.1 f.2
   | .inr (v, k') => e = .returned (.tuple #[vV (v.getD v0).k (v.getD v0).n (v.getD v0).t, .bool v.isSome]) ∧ Xs w' B E a n c L k' os := by
 have hh := h
 obtain ⟨⟨ov, hr, ho⟩, _⟩ := h
 refine (literal_any w hh.tb B hh.off_c a n c L k ov hr (hh.ok _).2.1 (hh.ok _).2.2).mono ?_
 rintro e w' ⟨h1, h2⟩
 refine ⟨h1.to E, ?_⟩
 rw [litF_G] at h2
 rcases hm : litG L n k with f | ⟨v, k'⟩
 ·rw [hm] at h2
  exact h2
 ·rw [hm] at h2
  cases v with
  | none => exact ⟨h2.1, hh.go ho h2.2 h1⟩
  | some v => exact ⟨h2.1, hh.go ho h2.2 h1⟩
theorem xname {w : World} {k : Nat} {os : List Oq} (h : Xs w B E a n c L k os) :
  Calls Tryd.prog 53 #[.pointer (some ⟨B, 0, none⟩)] w fun e w' => ButX B E w w' ∧ match nameG L n k with
   | .inl f => e = flt f.1 f.2
   | .inr (t, k') => e = .returned (.string t) ∧ Xs w' B E a n c L k' os := by
 have hh := h
 obtain ⟨⟨ov, hr, ho⟩, _⟩ := h
 refine (rname_any w hh.tb B a n c L k ov hr (hh.ok _).1).mono ?_
 rintro e w' ⟨h1, h2⟩
 refine ⟨h1.to E, ?_⟩
 rw [nameF_G] at h2
 rcases hm : nameG L n k with f | ⟨v, k'⟩
 ·rw [hm] at h2
  exact h2
 ·rw [hm] at h2
  exact ⟨h2.1, hh.go ho h2.2 h1⟩
theorem thing_any {k0 : Nat} {g : R} (hg : Rt B E a n c L (k0 + 1) 85 g) : Rt B E a n c L k0 99 (thingF L n g) := by
 intro w k os hk h
 have HPU : Hid (∀ W k os o, Xs W B E a n c L k os → Calls Tryd.prog 91 #[.pointer (some ⟨B, 0, none⟩), opV o] W (Ex W B E a n c L (putF o k os))) := fun W k os o hx => put_any W B E a n c L k os hx o
 have HM0 := xmay h sOpen
 have hBE := h.lt
 have hEw := h.le
 obtain ⟨r, hr⟩ : ∃ r, r = thingF L n g k os := ⟨_, rfl⟩
 rw [← hr]
 by_cases hm : mayB L k sOpen = true
 ·rw [hm] at HM0
  have HM := hid HM0
  have HI : Hid (∀ W, Xs W B E a n c L (k + 1) os → Calls Tryd.prog 85 #[.pointer (some ⟨B, 0, none⟩)] W (Ex W B E a n c L (g (k + 1) os))) := fun W hx => hg W (k + 1) os (by omega) hx
  have HMU : Hid (∀ W w2 k2 os2, Xs w2 B E a n c L k2 os2 → W = w2.alloc (.cells #[.string sClose] 9) → Calls Tryd.prog 52 #[.pointer (some ⟨B, 0, none⟩), .slice (some ⟨w2.heap.size, 0, none⟩) 1 1] W fun e w' => ButX B E w2 w' ∧ match mustF L n k2 [sClose] with
   | .inl f => e = flt f.1 f.2
   | .inr k' => e = .returned (.tuple #[]) ∧ Xs w' B E a n c L k' os2) := fun W w2 k2 os2 hx hW => by
    have hb : Below w2.heap.size w2 W := by rw [hW]; exact (Below.refl _ _).alloc (Nat.le_refl _) _
    refine (xmust (ts := [sClose]) (b := w2.heap.size) (hx.later hb) (by rw [hW]; exact new0 _ _) (by have := hx.lt; have := hx.le; omega) (by simp) (by simp)).mono ?_
    rintro e w' ⟨h1, h2⟩
    exact ⟨(ButX.of E hb).trans h1, h2⟩
  obtain ⟨r1, hr1⟩ : ∃ r1, r1 = g (k + 1) os := ⟨_, rfl⟩
  have HR : Hid (r = bd r1 fun x => if mayB L x.1 sClose then .inr (x.1 + 1, x.2) else .inl (fl n x.1 6)) := by
   show _ = _
   rw [hr, hr1]
   unfold thingF
   rw [if_pos hm]
  rw [← hr1] at HI
  clear hr1 hr h hm HM0 hg hk HPU
  go_enter Tryd.func99, Tryd.ntmps99
  go_wp2_with fail
  refine HM.out.mono ?_
  rintro e w1 ⟨rfl, hX, hx⟩
  have hx : Xs w1 B E a n c L (k + 1) os := hx
  have HX := hid hX
  have HI1 := hid (HI.out w1 hx)
  clear hX hx HM HI
  go_wp2_with fail
  refine HI1.out.mono ?_
  rintro e w2 ⟨hX2, h2⟩
  have HX2 := hid (HX.out.trans hX2)
  clear hX2 HI1 HX
  rcases r1 with f0 | ⟨k2, os2⟩
  ·obtain rfl : e = flt f0.1 f0.2 := h2
   obtain rfl : r = .inl f0 := HR.out
   exact ⟨rfl, HX2.out, rfl⟩
  ·obtain ⟨rfl, hx2⟩ := h2
   have HMU2 := hid (fun W => HMU.out W w2 k2 os2 hx2)
   have HR2 : Hid (r = if mayB L k2 sClose then .inr (k2 + 1, os2) else .inl (fl n k2 6)) := HR.out
   clear HR HMU hx2
   go_wp2_with fail
   refine calls_nm (fun W hW => ?_)
   have HM3 := hid (HMU2.out W hW)
   clear hW HMU2
   refine HM3.out.mono ?_
   rintro e w3 ⟨hX3, h3⟩
   have HX3 := hid (HX2.out.trans hX3)
   clear hX3 HM3
   unfold mustF at h3
   by_cases hm2 : mayB L k2 sClose = true
   ·rw [if_pos hm2] at h3
    obtain rfl : r = .inr (k2 + 1, os2) := by rw [HR2.out, if_pos hm2]
    obtain ⟨rfl, hx3⟩ := h3
    have HS3 : Hid (Xs w3 B E a n c L (k2 + 1) os2) := hx3
    clear hx3
    go_wp2_with fail
    go_returns
    exact ⟨HX3.out, rfl, HS3.out⟩
   ·rw [if_neg hm2] at h3
    obtain rfl : r = .inl (fl n k2 6) := by rw [HR2.out, if_neg hm2]
    obtain rfl : e = flt (fl n k2 6).1 (fl n k2 6).2 := h3
    exact ⟨rfl, HX3.out, rfl⟩
 ·have hm : mayB L k sOpen = false := by simpa using hm
  rw [hm] at HM0
  have HM := hid HM0
  have HLI : Hid (∀ W, Xs W B E a n c L k os → Calls Tryd.prog 78 #[.pointer (some ⟨B, 0, none⟩)] W fun e w' => ButX B E W w' ∧ match litG L n k with
   | .inl f => e = flt f.1 f.2
   | .inr (v, k') => e = .returned (.tuple #[vV (v.getD v0).k (v.getD v0).n (v.getD v0).t, .bool v.isSome]) ∧ Xs w' B E a n c L k' os) := fun W hx => xlit hx
  obtain ⟨r1, hr1⟩ : ∃ r1, r1 = litG L n k := ⟨_, rfl⟩
  have HR : Hid (r = bd r1 fun x => match x.1 with
   | some v => putF ⟨1, v, ⟨#[]⟩⟩ x.2 os
   | none => bd (nameG L n k) fun y => putF ⟨2, v0, y.1⟩ y.2 os) := by
   show _ = _
   rw [hr, hr1]
   unfold thingF
   rw [if_neg (by simp [hm])]
   rfl
  have hsame : ∀ k1, r1 = .inr (none, k1) → k1 = k := fun k1 e => by
   rw [hr1] at e
   unfold litG at e
   repeat' split at e
   all_goals (first | (cases e; done) | (cases e; rfl))
  have HSM := hid hsame
  rw [← hr1] at HLI
  clear hr1 hr h hm HM0 hg hsame
  go_enter Tryd.func99, Tryd.ntmps99
  go_wp2_with fail
  refine HM.out.mono ?_
  rintro e w1 ⟨rfl, hX, hx⟩
  have hx : Xs w1 B E a n c L k os := hx
  have HX := hid hX
  have HI1 := hid (HLI.out w1 hx)
  clear hX hx HM HLI
  go_wp2_with fail
  refine HI1.out.mono ?_
  rintro e w2 ⟨hX2, h2⟩
  have HX2 := hid (HX.out.trans hX2)
  clear hX2 HI1 HX
  rcases r1 with f0 | ⟨v, k2⟩
  ·obtain rfl : e = flt f0.1 f0.2 := h2
   obtain rfl : r = .inl f0 := HR.out
   exact ⟨rfl, HX2.out, rfl⟩
  ·obtain ⟨rfl, hx2⟩ := h2
   have HS2 := hid hx2
   clear hx2
   cases v with
   | none =>
    obtain rfl : k2 = k := HSM.out k2 rfl
    simp only [Option.getD_none, v0, vV, Option.isSome_none]
    have HNA : Hid (∀ W, Xs W B E a n c L k2 os → Calls Tryd.prog 53 #[.pointer (some ⟨B, 0, none⟩)] W fun e w' => ButX B E W w' ∧ match nameG L n k2 with
   | .inl f => e = flt f.1 f.2
   | .inr (t, k') => e = .returned (.string t) ∧ Xs w' B E a n c L k' os) := fun W hx => xname hx
    obtain ⟨r3, hr3⟩ : ∃ r3, r3 = nameG L n k2 := ⟨_, rfl⟩
    have HR3 : Hid (r = bd r3 fun y => putF ⟨2, v0, y.1⟩ y.2 os) := by show _ = _; rw [HR.out, hr3]; rfl
    rw [← hr3] at HNA
    clear hr3 HR HSM
    go_wp2_with fail
    refine calls_nm (fun W hW => ?_)
    have hb : Below w2.heap.size w2 W := by rw [hW]; exact (Below.refl _ _).alloc (Nat.le_refl _) _
    have HXW := hid (HX2.out.trans (ButX.of E hb))
    have HNW := hid (HNA.out W (HS2.out.later hb))
    clear hb hW HNA HS2 HX2
    refine HNW.out.mono ?_
    rintro e w3 ⟨hX3, h3⟩
    have HX3 := hid (HXW.out.trans hX3)
    clear hX3 HNW HXW
    rcases r3 with f0 | ⟨t3, k3⟩
    ·obtain rfl : e = flt f0.1 f0.2 := h3
     obtain rfl : r = .inl f0 := HR3.out
     exact ⟨rfl, HX3.out, rfl⟩
    ·obtain ⟨rfl, hx3⟩ := h3
     have HP := hid (HPU.out w3 k3 os ⟨2, ⟨0, 0, ⟨#[]⟩⟩, t3⟩ hx3)
     have HR4 : Hid (r = putF ⟨2, ⟨0, 0, ⟨#[]⟩⟩, t3⟩ k3 os) := HR3.out
     rw [← HR4.out] at HP
     clear HR3 HR4 hx3
     go_wp2_with fail
     refine HP.out.mono ?_
     rintro e w4 ⟨hX4, h4⟩
     have HX4 := hid (HX3.out.trans hX4)
     clear hX4 HP HX3
     rcases r with f0 | ⟨k4, os4⟩
     ·obtain rfl : e = flt f0.1 f0.2 := h4
      exact ⟨rfl, HX4.out, rfl⟩
     ·obtain ⟨rfl, hx4⟩ := h4
      have HS4 := hid hx4
      clear hx4
      go_wp2_with fail
      go_returns
      exact ⟨HX4.out, rfl, HS4.out⟩
   | some v =>
    obtain ⟨vk, vn, vt⟩ := v
    simp only [Option.getD_some, vV, Option.isSome_some]
    have HR4 : Hid (r = putF ⟨1, ⟨vk, vn, vt⟩, ⟨#[]⟩⟩ k2 os) := HR.out
    clear HR HSM
    go_wp2_with fail
    refine calls_nm (fun W hW => ?_)
    have hb : Below w2.heap.size w2 W := by rw [hW]; exact (Below.refl _ _).alloc (Nat.le_refl _) _
    have HXW := hid (HX2.out.trans (ButX.of E hb))
    have HP := hid (HPU.out W k2 os ⟨1, ⟨vk, vn, vt⟩, ⟨#[]⟩⟩ (HS2.out.later hb))
    rw [← HR4.out] at HP
    clear hb hW HS2 HX2 HR4
    refine HP.out.mono ?_
    rintro e w4 ⟨hX4, h4⟩
    have HX4 := hid (HXW.out.trans hX4)
    clear hX4 HP HXW
    rcases r with f0 | ⟨k4, os4⟩
    ·obtain rfl : e = flt f0.1 f0.2 := h4
     exact ⟨rfl, HX4.out, rfl⟩
    ·obtain ⟨rfl, hx4⟩ := h4
     have HS4 := hid hx4
     clear hx4
     go_wp2_with fail
     go_returns
     exact ⟨HX4.out, rfl, HS4.out⟩
end
set_option maxRecDepth 100000 in
theorem grow_op (w : World) (n : Nat) (hn : n ≤ 1000000) : Calls Tryd.prog 98 #[.slice none 0 0, .int .i64 (n : Int)] w fun e w' => ∃ v, e = .returned v ∧ w'.ownsRow w.heap.size 54 5 v 0 [] ∧ Below w.heap.size w w' := by
 by_cases h0 : n = 0
 ·subst h0
  go_enter Tryd.func98, Tryd.ntmps98
  go_wp2_with fail
  go_ret
  exact ⟨_, rfl, World.ownsRow_nil _ _ _ _, Below.refl _ _⟩
 ·obtain ⟨i0, hi, hz0, hz1, hz2⟩ := info_parts info_op
  obtain ⟨G, hG⟩ : ∃ G, G = grownCap w (0 + n) 0 54 := ⟨_, rfl⟩
  have hrz : ∀ ty, ∃ cur : Array Value, (Builtin.append_ #[31, 3] ty #[.slice none 0 0, .int .i64 (n : Int)]).run Tryd.prog w = .ok (.slice (some ⟨w.heap.size, 0, none⟩) (0 + n) G) (w.drew.alloc (.cells cur 54)) ∧ cur.size = G * 5 ∧ n ≤ G ∧ G ≤ maxLen := fun ty => by
   have h := Lib.run_append_grow_zeros w 31 3 ty 54 i0 _ .i64 .i64 Tryd.underlying31 Tryd.underlying3 hi hz0 none 0 0 [] (run_firstCells_none w.drew i0.size 0 0 0) n (by omega) (by omega) (by omega) (by omega)
    (by rw [hz2]; omega) (by rw [hz2]; exact growslice_fits (by omega) (by omega))
   have hge := grownCap_ge w (0 + n) 0 54
   have hle := grownCap_le_maxLen w (0 + n) 0 54 (by unfold maxLen; omega)
   rw [← hG] at h hge hle
   refine ⟨_, h, ?_, by omega, hle⟩
   simp only [Array.size_append, List.size_toArray, size_zeroCells, List.length_nil]
   rw [show (Value.agg #[Value.int .i64 0, .int .i64 0, .int .i64 0, .string ⟨#[]⟩, .string ⟨#[]⟩]).cells.size = 5 from rfl]
   omega
  have hgt : (n : Int) > 0 := by omega
  obtain ⟨cur, hr, h1, h2, h3⟩ := hrz 31
  have hm := h3
  unfold maxLen at hm
  have HO : Hid ((w.drew.alloc (.cells cur 54)).ownsRow w.heap.size 54 5 (.slice (some ⟨w.heap.size, 0, none⟩) 0 G) 0 []) := World.ownsRow_made w.drew cur G (Nat.le_refl _) h3 h1
  have HB : Hid (Below w.heap.size w (w.drew.alloc (.cells cur 54))) := (Below.refl _ _).drew.alloc (Nat.le_refl _) _
  rw [Nat.zero_add] at hr
  clear hrz h1 h3 hi hz0 hz1 hz2 hG
  go_enter Tryd.func98, Tryd.ntmps98
  go_wp2_with (at_builtin; refine Lib.wpList_append_run _ rfl _ _ _ _ rfl _ _ rfl rfl _ _ hr ?_)
  all_goals (go_ret; exact ⟨_, rfl, HO.out, HB.out⟩)
structure Pt where
 v : Value
 l : List Oq
def npt : Pt := ⟨.slice none 0 0, []⟩
def ptl (l : List Pt) : List Oq := l.flatMap Pt.l
theorem ptl_snoc {l : List Pt} {k : Nat} (h : k < l.length) : ptl (l.take (k + 1)) = ptl (l.take k) ++ (l.getD k npt).l := by
 unfold ptl
 rw [List.take_succ_eq_append_getElem h, List.flatMap_append]
 congr 1
 simp [List.getD, List.getElem?_eq_getElem h]
theorem ptl_le (l : List Pt) (k : Nat) : (ptl (l.take k)).length ≤ (ptl l).length := by
 have h : ptl l = ptl (l.take k) ++ ptl (l.drop k) := by
  unfold ptl
  rw [← List.flatMap_append, List.take_append_drop]
 rw [h, List.length_append]
 omega
theorem pgetD_mem {l : List Pt} {k : Nat} (h : k < l.length) : l.getD k npt ∈ l := by
 rw [List.getD, List.getElem?_eq_getElem h]
 exact List.getElem_mem h
theorem pv_at {l : List Pt} {k : Nat} (h : k < l.length) : (l.map Pt.v)[k]? = some (l.getD k npt).v := by
 rw [List.getElem?_map, List.getElem?_eq_getElem h, Option.map_some, List.getD, List.getElem?_eq_getElem h]
 rfl
theorem concat_op (w : World) (m : Nat) (v : Value) (ps : List Pt) (hm0 : 0 < m) (hm : m ≤ 1000) (hr : Rd w 1 m v (ps.map Pt.v)) (hp : ∀ p ∈ ps, Rd w 5 p.l.length p.v (ocs p.l)) (hT : (ptl ps).length ≤ 1000000) :
  Calls Tryd.prog 96 #[v] w fun e w' => ∃ v', e = .returned v' ∧ w'.ownsRow w.heap.size 54 5 v' (ptl ps).length (ocs (ptl ps)) ∧ Below w.heap.size w w' := by
 have hml : m = ps.length := by have := hr.1; simp at this; omega
 obtain ⟨b, o, cap, rfl, hmc, _, hbw, hcell⟩ := hr.pos hm0 (by omega)
 have HC : Hid (∀ k, k < m → w.cell? ⟨b, o + k, none⟩ = some (ps.getD k npt).v) := fun k hk => hcell k _ (pv_at (by omega))
 have HP := hid hp
 have HN := hid hml
 have HT := hid hT
 clear hcell hp hml hr hT
 go_enter Tryd.func96, Tryd.ntmps96
 go_wp2_with fail
 go_loopw [3, 11] (fun z i wr => ∃ k : Nat, k ≤ m ∧ i = .int .i64 (k : Int) ∧ (∃ n : Nat, z = .int .i64 (n : Int) ∧ Hid (n = (ptl (ps.take k)).length) ∧ n ≤ 1000000) ∧ wr = w) (fun _ i _ => m - (intOf i).toNat)
 case atStart => exact ⟨0, by omega, rfl, ⟨0, rfl, rfl, by omega⟩, rfl⟩
 case round =>
  obtain ⟨k, hk, rfl, ⟨n, rfl, HZ, hn⟩, hwr⟩ := hrel
  obtain rfl : w = wr := hwr.symm
  by_cases hlt : k < m
  ·have hll : k < ps.length := by rw [← HN.out]; exact hlt
   have c0 := HC.out k hlt
   have hrp := HP.out _ (pgetD_mem hll)
   have hsn := ptl_snoc hll
   have hle := ptl_le ps (k + 1)
   rw [hsn, List.length_append, ← HZ.out] at hle
   obtain ⟨_, ao, cp, hv, _⟩ := hrp
   obtain ⟨q, hq⟩ : ∃ q, q = (ps.getD k npt).l.length := ⟨_, rfl⟩
   rw [hv, ← hq] at c0
   rw [← hq] at hle
   have hq2 := Nat.le_trans hle HT.out
   have HS : Hid (n + q = (ptl (ps.take (k + 1))).length) := by
    show _ = _
    rw [hsn, List.length_append, ← HZ.out, ← hq]
   clear hle hsn hv hq hll
   have hw : (n : Int) + (q : Int) < 9223372036854775808 := by omega
   have hge : ¬ ((n : Int) + (q : Int) < 0) := by omega
   go_wp2_with fail
   go_roundw
   case rel => exact ⟨k + 1, by omega, by go_num, ⟨n + q, by go_num, HS.out, by omega⟩, trivial⟩
   case measure => simp [intOf]; omega
  ·obtain rfl : k = m := by omega
   have HG := hid (grow_op w n hn)
   have HX : Hid (ptl (ps.take 0) = []) := rfl
   go_wp2_with fail
   refine HG.out.mono ?_
   rintro e w1 ⟨v1, rfl, hown, hb1⟩
   have HO := hid hown
   have HB1 := hid hb1
   clear hown hb1 HG
   go_wp2_with fail
   go_loopw [6, 27] (fun u i wr => ∃ j : Nat, j ≤ k ∧ i = .int .i64 (j : Int) ∧ Hid (wr.ownsRow w.heap.size 54 5 u (ptl (ps.take j)).length (ocs (ptl (ps.take j)))) ∧ Hid (Below w.heap.size w wr)) (fun _ i _ => k - (intOf i).toNat)
   case atStart => exact ⟨0, by omega, rfl, HO.out, HB1.out⟩
   case round =>
    obtain ⟨j, hj, rfl, HU, HB⟩ := hrel
    by_cases hlt : j < k
    ·have hll : j < ps.length := by rw [← HN.out]; exact hlt
     have c0 := (HB.out.cell (p := ⟨b, o + j, none⟩) hbw).trans (HC.out j hlt)
     have hrp := (HP.out _ (pgetD_mem hll)).below HB.out
     have hsn := ptl_snoc hll
     have hle := ptl_le ps (j + 1)
     rw [hsn, List.length_append] at hle
     have hle2 := Nat.le_trans hle HT.out
     have hsz := HB.out.size
     obtain ⟨p, hpp⟩ : ∃ p, p = ps.getD j npt := ⟨_, rfl⟩
     rw [← hpp] at c0 hrp hsn hle2
     obtain ⟨pv, pl⟩ := p
     simp only at c0 hrp hsn hle2
     obtain ⟨r, hr⟩ : ∃ r, r = (ptl (ps.take j)).length := ⟨_, rfl⟩
     rw [← hr] at HU hle2
     obtain ⟨q, hq⟩ : ∃ q, q = pl.length := ⟨_, rfl⟩
     rw [← hq] at hrp hle2
     have HS : Hid (ptl (ps.take (j + 1)) = ptl (ps.take j) ++ pl) := hsn
     have HR := hid hrp
     have HQ : Hid (r + q = (ptl (ps.take (j + 1))).length) := by
      show _ = _
      rw [hsn, List.length_append, ← hr, ← hq]
     clear hle hsn hrp hr hq hpp hll
     obtain ⟨ao, cp, hv, hc1, hc2⟩ : ∃ ao cp, pv = .slice ao q cp ∧ q ≤ cp ∧ cp ≤ maxLen := by
      obtain ⟨_, ao, cp, hv, h1, h2, _⟩ := HR.out
      exact ⟨ao, cp, hv, h1, h2⟩
     subst hv
     go_wp2_with (at_builtin; refine apg _ q rfl _ _ 31 54 _ 5 56 Tryd.underlying31 info_op rfl (by omega) rfl HU.out hsz (by omega) (by unfold maxLen; omega) (ocs_one _) HR.out rfl rfl ?_; intro v3 w3 hown3 hb3 _; have HO3 := hid hown3; have HB3 := hid (HB.out.trans hb3); clear hown3 hb3)
     go_roundw
     case rel =>
      refine ⟨j + 1, by omega, by go_num, ?_, HB3.out⟩
      show World.ownsRow _ _ _ _ _ _ _
      rw [← HQ.out, HS.out, ocs_app]
      exact HO3.out
     case measure => simp [intOf]; omega
    ·obtain rfl : j = k := by omega
     have HE : Hid (ps.take j = ps) := by
      show _ = _
      rw [List.take_of_length_le (by rw [← HN.out]; exact Nat.le_refl _)]
     go_wp2_with fail
     go_ret
     refine ⟨_, rfl, ?_, HB.out⟩
     have h := HU.out
     rw [HE.out] at h
     exact h
end Go.Proofs.YtdeollmeljaaoaaDoor.rd

/- For whom a lock waits, by the program: told, sorted, each once. -/
import Derived.Test.YtpddlckkncmlmaaDoorNc
import Derived.Test.YtpddlckkncmlmaaDoorZb
import Derived.Test.YtpddlckkncmlmaaDoorShd
import Derived.Sort.OwnSortedInts
import Derived.Lib.RowBridge
namespace Go.Proofs.YtpddlckkncmlmaaDoor
open Go.ChangeShapes Go.WideShapes Go.ChangeAt Go.RowKit Go.Sort
set_option linter.unusedVariables false
set_option linter.unusedSimpArgs false
set_option maxHeartbeats 2000000
theorem srtL_len (l : List Int) : (srtL l).length = l.length := by unfold srtL; exact List.length_mergeSort _
theorem sort_own (w : World) (base : Nat) (v : Value) (zs : List Int) (hown : w.ownsRow base 3 1 v zs.length (ic zs)) (hz : zs.length ≤ 1000000) :
    Calls Tryd.prog 45 #[v] w fun e w' => e = .returned (.tuple #[]) ∧ w'.ownsRow base 3 1 v (srtL zs).length (ic (srtL zs)) ∧ Below base w w' := by
  rcases hown.2 with ⟨rfl, h0⟩ | ⟨g, cap, cur, rfl, h1, h2, h3, h4, h5, h6⟩
  · have hz0 : zs = [] := List.eq_nil_of_length_eq_zero h0
    subst hz0
    refine (Tryd.slices_Sort_int_none none 0 w).mono ?_
    rintro e w' ⟨rfl, rfl⟩
    have e : srtL [] = [] := List.eq_nil_of_length_eq_zero (by rw [srtL_len]; rfl)
    rw [e]
    exact ⟨rfl, World.ownsRow_nil _ _ _ _, Below.refl _ _⟩
  · have hH := holds_of_blockI (ss := zs) h2 (by rw [Nat.mul_one] at h6; exact h6)
    have hlt : g < w.heap.size := (Array.getElem?_eq_some_iff.1 h2).1
    refine (Tryd.slices_Sort_int g 0 cap zs w hH hlt (by omega)).mono ?_
    rintro e w' ⟨rfl, n, os, rfl⟩
    refine ⟨rfl, ?_, (Below.refl base w).grown (grownBy_sortedI _) (by omega) (fun k hk => by cases hk; exact h1)⟩
    rw [srtL_len]
    exact ownsRow_sortedI (ts := srtL zs) (srtL_len zs) h1 h2 h3 h4 h5
theorem compact_own (w : World) (base : Nat) (v : Value) (zs : List Int) (hB : base ≤ w.heap.size) (hown : w.ownsRow base 3 1 v zs.length (ic zs)) (hz : zs.length ≤ 1000000) :
    Calls Tryd.prog 46 #[v] w fun e w' => ∃ v', e = .returned v' ∧ w'.ownsRow base 3 1 v' (Lib.compact zs).length (ic (Lib.compact zs)) ∧ Below base w w' := by
  rcases hown.2 with ⟨rfl, h0⟩ | ⟨g, cap, cur, rfl, h1, h2, h3, h4, h5, h6⟩
  · have hz0 : zs = [] := List.eq_nil_of_length_eq_zero h0
    subst hz0
    refine (Tryd.slices_Compact_int_empty none 0 w).mono ?_
    rintro e w' ⟨rfl, rfl⟩
    exact ⟨_, rfl, World.ownsRow_nil _ _ _ _, Below.refl _ _⟩
  · have hH := holds_of_blockI (ss := zs) h2 (by rw [Nat.mul_one] at h6; exact h6)
    have hlt : g < w.heap.size := (Array.getElem?_eq_some_iff.1 h2).1
    have hle := Lib.compact_length_le zs
    refine (Tryd.slices_Compact_int g 0 cap zs w hH (by omega) h3).mono ?_
    rintro e w' ⟨rfl, q, rfl⟩
    obtain ⟨ts, hts⟩ : ∃ ts, ts = Lib.compact zs ++ List.replicate (zs.length - (Lib.compact zs).length) 0 := ⟨_, rfl⟩
    rw [← hts]
    have hl : ts.length = zs.length := by rw [hts]; simp; omega
    have hg := grownBy_sortedI (w := w) (g := g) (n := q) (os := #[]) ts.toArray
    have hh := heap_sortedI (n := q) (os := #[]) ts.toArray h2
    have e0 : grow (putRow (Value.int .i64) (Sort.ahead w q) g 0 ts.toArray) #[] = putRow (Value.int .i64) (Sort.ahead w q) g 0 ts.toArray := by rw [grow_empty]
    rw [e0] at hg hh
    refine ⟨_, rfl, ⟨by rw [ic_length, Nat.mul_one], .inr ⟨g, cap, _, rfl, h1, hh, by omega, h4, by simp [putCells, h5], ?_⟩⟩, (Below.refl base w).grown hg (by omega) (fun k hk => by cases hk; exact h1)⟩
    have ht := take_putCellsI cur ts (by omega)
    have := congrArg (List.take (Lib.compact zs).length) ht
    rw [List.take_take, Nat.min_eq_left (by omega)] at this
    rw [Nat.mul_one, this, ← List.map_take, hts, List.take_append_of_le_length (by omega), List.take_length]
    rfl
theorem on_maker (w : World) (x : Lk) : Calls Tryd.prog 41 #[lkv x] w fun e w' => e = .returned (.func (.func 56) #[] #[.pointer (some ⟨w.heap.size, 0, none⟩)]) ∧ w' = w.alloc (.cells #[.int .i64 x.t, .string x.th, .int .i64 x.m] 26) := by
  go_enter Tryd.func41, Tryd.ntmps41
  go_wp2
  go_ret
  exact ⟨rfl, rfl⟩
theorem ag_maker (w : World) (x : Lk) : Calls Tryd.prog 43 #[lkv x] w fun e w' => e = .returned (.func (.func 57) #[] #[.pointer (some ⟨w.heap.size, 0, none⟩)]) ∧ w' = w.alloc (.cells #[.int .i64 x.t, .string x.th, .int .i64 x.m] 26) := by
  go_enter Tryd.func43, Tryd.ntmps43
  go_wp2
  go_ret
  exact ⟨rfl, rfl⟩
theorem of_maker (w : World) (t : Int) : Calls Tryd.prog 32 #[.int .i64 t] w fun e w' => e = .returned (.func (.func 53) #[] #[.pointer (some ⟨w.heap.size, 0, none⟩)]) ∧ w' = w.alloc (.cells #[.int .i64 t] 3) := by
  go_enter Tryd.func32, Tryd.ntmps32
  go_wp2
  go_ret
  exact ⟨rfl, rfl⟩
theorem on_says (w : World) (x : Lk) (l : List Lk) : Says 56 [.pointer (some ⟨w.heap.size, 0, none⟩)] (w.alloc (.cells #[.int .i64 x.t, .string x.th, .int .i64 x.m] 26)) (onB x) l := fun W hW y hy => on1_any W y x w.heap.size ((BxL.new w x).below hW)
theorem of_says (w : World) (t : Int) (l : List Lk) : Says 53 [.pointer (some ⟨w.heap.size, 0, none⟩)] (w.alloc (.cells #[.int .i64 t] 3)) (ofB t) l := fun W hW y hy => of1_any W y t w.heap.size (BxI.below (w := w.alloc (.cells #[.int .i64 t] 3)) (by unfold BxI; simp) hW)
/-- All modes are modes. -/
def Mds (l : List Lk) : Prop := ∀ y ∈ l, 1 ≤ y.m ∧ y.m ≤ 5
theorem ag_says (w : World) (hT : Tog w) (x : Lk) (hx : 1 ≤ x.m ∧ x.m ≤ 5) (l : List Lk) (hl : Mds l) : Says 57 [.pointer (some ⟨w.heap.size, 0, none⟩)] (w.alloc (.cells #[.int .i64 x.t, .string x.th, .int .i64 x.m] 26)) (agB x) l := fun W hW y hy =>
  ag1_any W ((hT.below ((Below.refl w.heap.size w).alloc (Nat.le_refl _) _)).below hW) y x (hl y hy) hx w.heap.size ((BxL.new w x).below hW)
theorem wf_says (w : World) (x : Lk) (B : Nat) (hB : BxL w B x) (l : List Lk) : Says 44 [.pointer (some ⟨B, 0, none⟩)] w (thB x) l := fun W hW y hy => wf1_any W y x B (hB.below hW)
theorem formed_any (w : World) (n : Nat) (v : Value) (l : List Lk) (hr : Rd w 3 n v (lkc l)) : Calls Tryd.prog 50 #[v] w fun e w' => e = .returned (.bool (!l.any bad)) ∧ Below w.heap.size w w' := by
  have HC := Lib.hid (con_fo w n v l bad hr (fun W hW y hy => formed1_any W y))
  clear hr
  go_enter Tryd.func50, Tryd.ntmps50
  go_wp2_with fail
  refine HC.out.mono ?_
  rintro e w1 ⟨rfl, hb⟩
  have HB := Lib.hid hb
  clear hb
  go_wp2_with fail
  go_ret
  exact ⟨rfl, HB.out⟩
theorem heldMode_any (w : World) (n : Nat) (v : Value) (l : List Lk) (x : Lk) (hr : Rd w 3 n v (lkc l)) : Calls Tryd.prog 19 #[v, lkv x] w fun e w' => e = .returned (.int .i64 (hmd l x)) ∧ Below w.heap.size w w' := by
  have hml := len_l hr
  have hb0 := (Below.refl w.heap.size w).alloc (Nat.le_refl _) (.cells #[.int .i64 x.t, .string x.th, .int .i64 x.m] 26)
  have hb1 := hb0.alloc (by simp) (.cells #[.int .i64 x.t, .string x.th, .int .i64 x.m] 26)
  have hz0 : (w.alloc (.cells #[.int .i64 x.t, .string x.th, .int .i64 x.m] 26)).heap.size = w.heap.size + 1 := by simp
  have HM := Lib.hid (on_maker (w.alloc (.cells #[.int .i64 x.t, .string x.th, .int .i64 x.m] 26)) x)
  have hs := on_says (w.alloc (.cells #[.int .i64 x.t, .string x.th, .int .i64 x.m] 26)) x l
  rw [hz0] at hs
  have hi := idx_on _ n v l (onB x) _ (hr.below hb1) hs
  have HH : Hid (hmd l x = if idx (onB x) l < 0 then 0 else (l.getD (idx (onB x) l).toNat nlk).m) := rfl
  have hlt : idx (onB x) l < (l.length : Int) := by
    unfold idx
    cases h : l.findIdx? (onB x) with
    | none => simp only; omega
    | some i => obtain ⟨hi, _⟩ := List.findIdx?_eq_some_iff_getElem.1 h; simp only; omega
  obtain ⟨i, hii⟩ : ∃ i, i = idx (onB x) l := ⟨_, rfl⟩
  rw [← hii] at hi HH hlt
  rw [← hml] at hlt
  have HI := Lib.hid hi
  have HB1 := Lib.hid hb1
  have HR := Lib.hid hr
  clear hb0 hs hi hii hml hb1 hr
  by_cases hneg : i < 0
  · go_enter Tryd.func19, Tryd.ntmps19
    go_wp2_with fail
    refine HM.out.mono ?_
    rintro e w1 ⟨rfl, rfl⟩
    go_wp2_with fail
    refine HI.out.mono ?_
    rintro e w2 ⟨rfl, hb2⟩
    have HB2 := Lib.hid (into HB1.out hb2)
    clear hb2
    go_wp2_with fail
    go_ret
    exact ⟨ri (by rw [HH.out, if_pos hneg]), HB2.out⟩
  · obtain ⟨k, rfl⟩ : ∃ k : Nat, i = (k : Int) := ⟨i.toNat, by omega⟩
    have hkn : k < n := by omega
    obtain ⟨b, o, cap, rfl, _, _, hbw, hcell⟩ := lks_of HR.out (by omega)
    obtain ⟨g0, g1, g2⟩ := hcell k hkn
    have HG := Lib.hid g2
    clear hcell g0 g1 g2
    go_enter Tryd.func19, Tryd.ntmps19
    go_wp2_with fail
    refine HM.out.mono ?_
    rintro e w1 ⟨rfl, rfl⟩
    go_wp2_with fail
    refine HI.out.mono ?_
    rintro e w2 ⟨rfl, hb2⟩
    have HB2 := Lib.hid (into HB1.out hb2)
    have c2 := (HB2.out.cell (p := ⟨b, o + k * 3 + 2, none⟩) hbw).trans HG.out
    clear hb2
    go_wp2_with fail
    go_ret
    exact ⟨ri (by rw [HH.out, if_neg (by omega)]; simp), HB2.out⟩
end Go.Proofs.YtpddlckkncmlmaaDoor

/- Tokens joined: the program. -/
import Derived.Test.YtfoilmhpoipmpaaDoorSz
namespace Go.Proofs.YtfoilmhpoipmpaaDoor
open Go.ChangeShapes Go.WideShapes Go.ChangeAt Go.RowKit
set_option linter.unusedVariables false
set_option linter.unusedSimpArgs false
set_option maxHeartbeats 2000000
def joinT : List Tk → List UInt8 → List UInt8 × Int
  | [], acc => (acc, 0)
  | x :: l, acc => if tkF x.k x.t x.n ≠ 0 then ([], tkF x.k x.t x.n) else if 400 < (acc ++ spellT x ++ [32]).length then ([], 1) else joinT l (acc ++ spellT x ++ [32])
def joinL (l : List Tk) : List UInt8 × Int := if 100 < l.length then ([], 10) else joinT l []
/-- Tokens that are not too long to be joined here. -/
def Sm (l : List Tk) : Prop := ∀ x ∈ l, x.t.length ≤ 4000000 ∧ -9223372036854775808 ≤ x.n ∧ x.n ≤ 9223372036854775807
/-- Where Join stands ahead of the k-th token. -/
def JoinAt (l : List Tk) (k : Nat) (acc : List UInt8) : Prop := acc.length ≤ 400 ∧ joinT l [] = joinT (l.drop k) acc
theorem drop_tk {l : List Tk} {k : Nat} (h : k < l.length) : l.drop k = l.getD k tk0 :: l.drop (k + 1) := by
  rw [List.drop_eq_getElem_cons h]
  simp [List.getD, List.getElem?_eq_getElem h]
theorem JoinAt.bad {l : List Tk} {k : Nat} {acc : List UInt8} {x : Tk} (h : JoinAt l k acc) (hk : k < l.length) (hx : x = l.getD k tk0) (he : tkF x.k x.t x.n ≠ 0) : joinT l [] = ([], tkF x.k x.t x.n) := by
  rw [h.2, drop_tk hk, ← hx, joinT, if_pos he]
theorem JoinAt.long {l : List Tk} {k : Nat} {acc : List UInt8} {x : Tk} (h : JoinAt l k acc) (hk : k < l.length) (hx : x = l.getD k tk0) (he : tkF x.k x.t x.n = 0) (hl : 400 < (acc ++ spellT x ++ [32]).length) : joinT l [] = ([], 1) := by
  rw [h.2, drop_tk hk, ← hx, joinT, if_neg (by rw [he]; simp), if_pos hl]
theorem JoinAt.next {l : List Tk} {k : Nat} {acc : List UInt8} {x : Tk} (h : JoinAt l k acc) (hk : k < l.length) (hx : x = l.getD k tk0) (he : tkF x.k x.t x.n = 0) (hl : ¬ 400 < (acc ++ spellT x ++ [32]).length) : JoinAt l (k + 1) (acc ++ spellT x ++ [32]) := by
  refine ⟨by omega, ?_⟩
  rw [h.2, drop_tk hk, ← hx, joinT, if_neg (by rw [he]; simp), if_neg hl]
theorem JoinAt.done {l : List Tk} {acc : List UInt8} (h : JoinAt l l.length acc) : joinT l [] = (acc, 0) := by
  rw [h.2, List.drop_eq_nil_of_le (Nat.le_refl _)]
  rfl
theorem nd_le : ∀ (k u : Nat), u < 10 ^ (k + 1) → Lib.nDigits u ≤ k + 1
  | 0, u, h => by rw [Lib.nDigits_small (by simpa using h)]; omega
  | k + 1, u, h => by
    by_cases hu : u < 10
    · rw [Lib.nDigits_small hu]; omega
    · rw [Lib.nDigits_big hu]
      have := nd_le k (u / 10) (Nat.div_lt_of_lt_mul (by rw [Nat.pow_succ] at h; omega))
      omega
theorem itoa_len {n : Int} (h0 : 0 ≤ n) (h1 : n ≤ 9223372036854775807) : (Lib.itoa n).length ≤ 20 := by
  unfold Lib.itoa
  rw [if_neg (by omega), Lib.decDigits_length]
  have := nd_le 19 n.toNat (by have : n.toNat ≤ 9223372036854775807 := by omega
                               have e : (10 : Nat) ^ (19 + 1) = 100000000000000000000 := by decide
                               omega)
  omega
theorem spell_len {x : Tk} (h : x.t.length ≤ 4000000) (h0 : x.k = 2 → 0 ≤ x.n) (h1 : x.n ≤ 9223372036854775807) : (spellT x).length ≤ 9000000 := by
  unfold spellT
  split
  · rename_i h2
    have := itoa_len (h0 h2) h1
    omega
  · split
    · have := dbl_len x.t
      simp
      omega
    · omega
theorem tkF_num {k n : Int} {l : List UInt8} (h : tkF k l n = 0) : k = 2 → 0 ≤ n := by
  rintro rfl
  unfold tkF at h
  rw [if_neg (by omega)] at h
  split at h
  · omega
  · omega
theorem box_blk {w w1 : World} {x y z : Value} {t : TypeId} (hb : Below (w.alloc (.cells #[x, y, z] t)).heap.size (w.alloc (.cells #[x, y, z] t)) w1) :
    Below w.heap.size w w1 ∧ w.heap.size < w1.heap.size ∧ w1.heap[w.heap.size]? = some (.cells #[x, y, z] t (0, 0)) := by
  have hs := hb.size
  simp only [World.size_alloc] at hs
  exact ⟨into ((Below.refl _ _).alloc (Nat.le_refl _) _) hb, by omega, (hb.block _ (by simp)).trans (new0 _ _)⟩
theorem join_full (w : World) (v : Value) (l : List Tk) (hr : Rd w 3 l.length v (tkc l)) (h : 100 < l.length) :
    Calls Tryd.prog 17 #[v] w fun e w' => e = .returned (.tuple #[.string ⟨(joinL l).1.toArray⟩, .int .i64 (joinL l).2]) ∧ Below w.heap.size w w' := by
  have HJ : Hid (joinL l = ([], 10)) := if_pos h
  obtain ⟨_, ao, cap, rfl, h3, h4, _⟩ := hr
  unfold maxLen at h4
  go_enter Tryd.func17, Tryd.ntmps17
  go_wp2
  go_ret2
  rw [HJ.out]
  exact ⟨rfl, Below.refl _ _⟩
theorem join_short (w : World) (hj : Lj w) (v : Value) (l : List Tk) (hr : Rd w 3 l.length v (tkc l)) (hs : Sm l) (h : l.length ≤ 100) :
    Calls Tryd.prog 17 #[v] w fun e w' => e = .returned (.tuple #[.string ⟨(joinL l).1.toArray⟩, .int .i64 (joinL l).2]) ∧ Below w.heap.size w w' := by
  have HJ : Hid (joinL l = joinT l []) := if_neg (by omega)
  obtain ⟨n, hn⟩ : ∃ n, n = l.length := ⟨_, rfl⟩
  have hr' := hr
  obtain ⟨_, ao, cap, rfl, h3, h4, _⟩ := hr'
  have HR := Lib.hid hr
  have HSM := Lib.hid hs
  have HLJ := Lib.hid hj
  have HN := Lib.hid hn
  rw [← hn] at h3 h ⊢
  clear hr hs hj h4 hn
  go_enter Tryd.func17, Tryd.ntmps17
  go_wp2
  go_loopw [13] (fun i wr => ∃ (k : Nat) (acc : List UInt8), k ≤ n ∧ i = .int .i64 (k : Int) ∧ acc.length ≤ 400 ∧ Hid (JoinAt l k acc) ∧ Hid (Lib.IsBuilder 58 5 w.heap.size w.heap.size (bc acc) wr) ∧ Hid (Below w.heap.size w wr)) (fun i _ => n - (intOf i).toNat)
  case atStart => exact ⟨0, [], by omega, rfl, by simp, ⟨by simp, rfl⟩, Lib.fresh_isBuilder _ _ _, (Below.refl _ _).alloc (Nat.le_refl _) _⟩
  case round =>
    obtain ⟨k, acc, hk, rfl, hac, HA, HI, HBL⟩ := hrel
    have hwz := HBL.out.size
    by_cases hlt : k < n
    · have hkl : k < l.length := by rw [← HN.out]; exact hlt
      obtain ⟨_, b, o, cap', hv, _, _, hbw, hcell⟩ := toks_of HR.out (by omega)
      simp only [Value.slice.injEq] at hv
      obtain ⟨rfl, -, rfl⟩ := hv
      obtain ⟨g1, g2, g3⟩ := hcell k hkl
      have c1 := (HBL.out.cell (p := ⟨b, o + k * 3, none⟩) hbw).trans g1
      have c2 := (HBL.out.cell (p := ⟨b, o + k * 3 + 1, none⟩) hbw).trans g2
      have c3 := (HBL.out.cell (p := ⟨b, o + k * 3 + 2, none⟩) hbw).trans g3
      obtain ⟨x, hx⟩ : ∃ x, x = l.getD k tk0 := ⟨_, rfl⟩
      have hmem : x ∈ l := by rw [hx]; simp [List.getD, List.getElem?_eq_getElem hkl]
      obtain ⟨s1, s2, s3⟩ := HSM.out x hmem
      rw [← hx] at c1 c2 c3
      have HX := Lib.hid hx
      have HKL := Lib.hid hkl
      clear g1 g2 g3 hx hcell hmem hkl
      obtain ⟨xs, hxs⟩ : ∃ xs : ByteArray, xs = ⟨x.t.toArray⟩ := ⟨_, rfl⟩
      have hxd : xs.data.toList = x.t := by rw [hxs]
      have hxz : xs.size ≤ 4000000 := by rw [← len_size, hxd]; exact s1
      rw [← hxs] at c2
      have hch := fun W hW => check_any W hW x.k x.n xs (by unfold maxLen; omega)
      have hsp := fun W hW h0 => spell_any W hW x.k x.n xs hxz h0 s3
      rw [hxd] at hch hsp
      obtain ⟨xk, xt, xn⟩ := x
      simp only at c1 c3 s1 s2 s3 hxd
      have HCH := Lib.hid hch
      have HSP := Lib.hid hsp
      have HXT := Lib.hid s1
      clear hch hsp hxs hxd
      go_wp2_with fail
      refine (HCH.out _ ((HLJ.out.below HBL.out).1.alloc _)).mono ?_
      rintro e w1 ⟨rfl, hb1⟩
      obtain ⟨hB1, hz1, hk1⟩ := box_blk hb1
      have HI1 := Lib.hid (isb_below HI.out hB1)
      have HB1 := Lib.hid (into HBL.out hB1)
      have HK1 := Lib.hid hk1
      clear hb1 hB1 hk1 c1 c2 c3
      by_cases hr : tkF xk xt xn = 0
      · have hk1 := HK1.out
        obtain ⟨c1, c2, c3, -, -, -⟩ := box3 hk1
        have HRR := Lib.hid hr
        have hnum := tkF_num hr
        have HNUM := Lib.hid hnum
        clear hk1 hnum hr
        rw [HRR.out]
        go_wp2_with fail
        refine (HSP.out _ (HLJ.out.below HB1.out) HNUM.out).mono ?_
        rintro e w2 ⟨rfl, hb2⟩
        have HI2 := Lib.hid (isb_below HI1.out hb2)
        have HB2 := Lib.hid (into HB1.out hb2)
        have hz2 := HB2.out.size
        have hsl := spell_len (x := ⟨xk, xt, xn⟩) HXT.out HNUM.out s3
        obtain ⟨sp, hsp⟩ : ∃ sp, sp = spellT ⟨xk, xt, xn⟩ := ⟨_, rfl⟩
        rw [← hsp] at hsl ⊢
        have HSPL := Lib.hid hsp
        clear hb2 c1 c2 c3 hsp HI1 HB1 HK1 HI HBL
        go_wp2_with fail
        refine (Tryd.write_string w.heap.size w.heap.size (bc acc) ⟨sp.toArray⟩ w2 HI2.out (by rw [bc_length]; show acc.length + sp.toArray.size ≤ _; simp; omega) hz2).mono ?_
        rintro e w3 ⟨rfl, hat3, hb3⟩
        have HI3 : Hid (Lib.IsBuilder 58 5 w.heap.size w.heap.size (bc (acc ++ sp)) w3) := by
          show Lib.IsBuilder _ _ _ _ _ _
          rw [bc_app]
          exact .inr hat3
        have HB3 := Lib.hid (HB2.out.trans hb3)
        have hz3 := HB3.out.size
        clear hat3 hb3 HI2 HB2
        go_wp2_with fail
        refine (Tryd.write_byte w.heap.size w.heap.size (bc (acc ++ sp)) 32 w3 HI3.out (by rw [bc_length, List.length_append]; omega) hz3).mono ?_
        rintro e w4 ⟨rfl, hat4, hb4⟩
        have HI4 : Hid (Lib.IsBuilder 58 5 w.heap.size w.heap.size (bc (acc ++ sp ++ [32])) w4) := by
          show Lib.IsBuilder _ _ _ _ _ _
          rw [bc_app (acc ++ sp)]
          exact .inr hat4
        have HB4 := Lib.hid (HB3.out.trans hb4)
        clear hat4 hb4 HI3 HB3
        go_wp2_with fail
        refine (flip_w2 (Tryd.Builder_Len w.heap.size w.heap.size (bc (acc ++ sp ++ [32])) w4 HI4.out)).mono ?_
        rintro e w5 ⟨rfl, rfl⟩
        rw [bc_length]
        have hLb : (acc ++ sp ++ [32]).length ≤ 10000000 := by simp; omega
        obtain ⟨L, hL⟩ : ∃ L, L = (acc ++ sp ++ [32]).length := ⟨_, rfl⟩
        rw [← hL] at hLb ⊢
        have HL := Lib.hid hL
        clear hL
        by_cases h400 : 400 < L
        · have HE := Lib.hid (HA.out.long (x := ⟨xk, xt, xn⟩) HKL.out HX.out HRR.out (by rw [← HSPL.out, ← HL.out]; exact h400))
          have h400I : (400 : Int) < (L : Int) := by omega
          go_wp2_with fail
          go_ret2
          rw [HJ.out, HE.out]
          exact ⟨rfl, HB4.out⟩
        · have hnx := HA.out.next (x := ⟨xk, xt, xn⟩) HKL.out HX.out HRR.out (by rw [← HSPL.out, ← HL.out]; exact h400)
          rw [← HSPL.out] at hnx
          have HNX := Lib.hid hnx
          have h400I : ¬ (400 : Int) < (L : Int) := by omega
          clear hnx
          go_wp2_with fail
          go_roundw
          case rel => exact ⟨k + 1, acc ++ sp ++ [32], by omega, by go_num, by rw [← HL.out]; omega, HNX.out, HI4.out, HB4.out⟩
          case measure => simp [intOf]; omega
      · have HE := Lib.hid (HA.out.bad (x := ⟨xk, xt, xn⟩) HKL.out HX.out hr)
        obtain ⟨r, hrr⟩ : ∃ r, r = tkF xk xt xn := ⟨_, rfl⟩
        simp only at HE
        rw [← hrr] at hr HE ⊢
        have hr' : (r == 0) = false := by simpa using hr
        clear hrr
        go_wp2_with fail
        go_ret2
        rw [HJ.out, HE.out]
        exact ⟨rfl, HB1.out⟩
    · obtain rfl : k = n := by omega
      have hd : joinT l [] = (acc, 0) := by
        have := HA.out
        rw [HN.out] at this
        exact this.done
      have HD := Lib.hid hd
      clear hd
      go_wp2_with fail
      refine (Tryd.Builder_String_any w.heap.size w.heap.size acc wr HI.out hwz).mono ?_
      rintro e w2 ⟨rfl, hb2⟩
      have HB2 := Lib.hid (HBL.out.trans hb2)
      clear hb2
      go_wp2_with fail
      go_ret2
      rw [HJ.out, HD.out]
      exact ⟨rfl, HB2.out⟩
theorem join_any (w : World) (hj : Lj w) (v : Value) (l : List Tk) (hr : Rd w 3 l.length v (tkc l)) (hs : Sm l) :
    Calls Tryd.prog 17 #[v] w fun e w' => e = .returned (.tuple #[.string ⟨(joinL l).1.toArray⟩, .int .i64 (joinL l).2]) ∧ Below w.heap.size w w' := by
  by_cases h : l.length ≤ 100
  · exact join_short w hj v l hr hs h
  · exact join_full w v l hr (by omega)
end Go.Proofs.YtfoilmhpoipmpaaDoor

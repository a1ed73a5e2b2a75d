import Derived.Test.YtdeollmeljaaoaaDoorCtk
import Derived.Test.YtdeollmeljaaoaaDoorCbk
import Derived.Deep.RegionHeld3
import Derived.Deep.RegionWith
import Derived.Deep.RegionLaw
/- Has a statement something that its kind has not? The program. -/
namespace Go.Proofs.YtdeollmeljaaoaaDoor.cs
open Go.ChangeShapes Go.WideShapes Go.ChangeAt Go.RowKit
set_option linter.unusedVariables false
set_option linter.unusedSimpArgs false
set_option maxHeartbeats 4000000
set_option maxRecDepth 1000000
def hmB (T O S : ByteArray) (n2 n3 n4 n6 n11 : Nat) (cnt dn : Bool) (lim : Int) : Bool := !(T ++ O ++ S).toList.isEmpty || decide (0 < n2 + n3 + n4 + n6 + n11) || cnt || dn || !(lim == -1)
theorem hm14 (Q : Exit → Act → World → Prop) (c0 c2 c3 c4 c5 c6 c7 c8 c9 c10 c11 c12 c13 c14 c15 c16 c17 c18 c19 c20 c21 c22 c23 c24 c25 c26 c27 c28 c29 c30 c31 c32 c33 c34 c35 c36 c37 c38 c39 c40 c41 c42 c43 c44 c45 c46 c47 c48 c49 c50 c51 c52 c53 c54 c55 c56 c57 c58 c59 c60 c61 c62 c63 c64 c65 c66 c67 c68 c69 c70 c71 c72 c73 c74 : Value) (w0 : World) (P : Nat) (k : Int) (T O S : ByteArray) (cnt dn : Bool) (lim : Int) (a2 : Option Addr) (n2 d2 : Nat) (a3 : Option Addr) (n3 d3 : Nat) (a4 : Option Addr) (n4 d4 : Nat) (a6 : Option Addr) (n6 d6 : Nat) (a11 : Option Addr) (n11 d11 : Nat) (b : Bool)
    (hblk : w0.heap[P]? = some (.cells #[.int .i64 k, .string T, .slice a2 n2 d2, .slice a3 n3 d3, .slice a4 n4 d4, .bool cnt, .slice a6 n6 d6, .string O, .bool dn, .int .i64 lim, .string S, .slice a11 n11 d11] 33 (0, 0)))
    (hT : T.size ≤ 140737488351232) (hO : O.size ≤ 140737488351232) (hS : S.size ≤ 140737488351232) (h2 : n2 ≤ 140737488351232) (h3 : n3 ≤ 140737488351232) (h4 : n4 ≤ 140737488351232) (h6 : n6 ≤ 140737488351232) (h11 : n11 ≤ 140737488351232) (hb : b = hmB T O S n2 n3 n4 n6 n11 cnt dn lim)
    (hout : Hid (∀ (u31 u32 u33 u34 u35 u36 u37 u38 u39 u40 u41 u42 u43 u44 u45 u46 u47 u48 u49 u50 u51 u52 u53 u54 u55 u56 u57 u58 u59 u60 u61 u62 u63 u64 u65 u66 u67 u68 u69 u70 u71 u72 u73 u74 : Value), Q .normal ⟨List.toArray (c0 :: (.pointer (some ⟨P, 0, none⟩)) :: (.bool b) :: c3 :: c4 :: c5 :: c6 :: c7 :: c8 :: c9 :: c10 :: c11 :: c12 :: c13 :: c14 :: c15 :: c16 :: c17 :: c18 :: c19 :: c20 :: c21 :: c22 :: c23 :: c24 :: c25 :: c26 :: c27 :: c28 :: c29 :: c30 :: u31 :: u32 :: u33 :: u34 :: u35 :: u36 :: u37 :: u38 :: u39 :: u40 :: u41 :: u42 :: u43 :: u44 :: u45 :: u46 :: u47 :: u48 :: u49 :: u50 :: u51 :: u52 :: u53 :: u54 :: u55 :: u56 :: u57 :: u58 :: u59 :: u60 :: u61 :: u62 :: u63 :: u64 :: u65 :: u66 :: u67 :: u68 :: u69 :: u70 :: u71 :: u72 :: u73 :: u74 :: []), []⟩ w0)) :
    Code.wp Tryd.prog ((regionOf 14 (Tryd.f27.body.getD .skip)).getD .skip) Q ⟨List.toArray (c0 :: (.pointer (some ⟨P, 0, none⟩)) :: c2 :: c3 :: c4 :: c5 :: c6 :: c7 :: c8 :: c9 :: c10 :: c11 :: c12 :: c13 :: c14 :: c15 :: c16 :: c17 :: c18 :: c19 :: c20 :: c21 :: c22 :: c23 :: c24 :: c25 :: c26 :: c27 :: c28 :: c29 :: c30 :: c31 :: c32 :: c33 :: c34 :: c35 :: c36 :: c37 :: c38 :: c39 :: c40 :: c41 :: c42 :: c43 :: c44 :: c45 :: c46 :: c47 :: c48 :: c49 :: c50 :: c51 :: c52 :: c53 :: c54 :: c55 :: c56 :: c57 :: c58 :: c59 :: c60 :: c61 :: c62 :: c63 :: c64 :: c65 :: c66 :: c67 :: c68 :: c69 :: c70 :: c71 :: c72 :: c73 :: c74 :: []), []⟩ w0 := by
  have c1 : w0.cell? ⟨P, 1, none⟩ = some (.string T) := by simp [World.cell?, hblk]
  have c2 : w0.cell? ⟨P, 2, none⟩ = some (.slice a2 n2 d2) := by simp [World.cell?, hblk]
  have c3 : w0.cell? ⟨P, 3, none⟩ = some (.slice a3 n3 d3) := by simp [World.cell?, hblk]
  have c4 : w0.cell? ⟨P, 4, none⟩ = some (.slice a4 n4 d4) := by simp [World.cell?, hblk]
  have c5 : w0.cell? ⟨P, 5, none⟩ = some (.bool cnt) := by simp [World.cell?, hblk]
  have c6 : w0.cell? ⟨P, 6, none⟩ = some (.slice a6 n6 d6) := by simp [World.cell?, hblk]
  have c7 : w0.cell? ⟨P, 7, none⟩ = some (.string O) := by simp [World.cell?, hblk]
  have c8 : w0.cell? ⟨P, 8, none⟩ = some (.bool dn) := by simp [World.cell?, hblk]
  have c9 : w0.cell? ⟨P, 9, none⟩ = some (.int .i64 lim) := by simp [World.cell?, hblk]
  have c10 : w0.cell? ⟨P, 10, none⟩ = some (.string S) := by simp [World.cell?, hblk]
  have c11 : w0.cell? ⟨P, 11, none⟩ = some (.slice a11 n11 d11) := by simp [World.cell?, hblk]
  have g1 : ¬ 9223372036854775807 < T.size + O.size := by omega
  have g2 : ¬ 9223372036854775807 < T.size + O.size + S.size := by omega
  have HB : Hid (b = (!(T ++ O ++ S).toList.isEmpty || decide (0 < n2 + n3 + n4 + n6 + n11) || cnt || dn || !(lim == -1))) := hb
  clear hblk hT hO hS hb
  conv => arg 2; whnf
  cases he : (T ++ O ++ S).toList.isEmpty
  · obtain rfl : b = true := by rw [HB.out, he]; rfl
    clear HB
    go_wp2_with fail
    exact hout.out _ _ _ _ _ _ _ _ _ _ _ _ _ _ _ _ _ _ _ _ _ _ _ _ _ _ _ _ _ _ _ _ _ _ _ _ _ _ _ _ _ _ _ _
  · by_cases hn : 0 < n2 + n3 + n4 + n6 + n11
    · obtain rfl : b = true := by rw [HB.out, he]; simp [hn]
      clear HB
      have hn' : (0 : Int) < (n2 : Int) + (n3 : Int) + (n4 : Int) + (n6 : Int) + (n11 : Int) := by omega
      go_wp2_with fail
      exact hout.out _ _ _ _ _ _ _ _ _ _ _ _ _ _ _ _ _ _ _ _ _ _ _ _ _ _ _ _ _ _ _ _ _ _ _ _ _ _ _ _ _ _ _ _
    · have HN : Hid (n2 = 0 ∧ n3 = 0 ∧ n4 = 0 ∧ n6 = 0 ∧ n11 = 0) := ⟨by omega, by omega, by omega, by omega, by omega⟩
      have hn' : ¬ (0 : Int) < (n2 : Int) + (n3 : Int) + (n4 : Int) + (n6 : Int) + (n11 : Int) := by omega
      have HB2 : Hid (b = (cnt || dn || !(lim == -1))) := by
        show _ = _
        rw [HB.out, he, decide_eq_false hn]
        rfl
      clear HB hn HN
      cases cnt
      · cases dn
        · by_cases hl : lim = -1
          · subst hl
            obtain rfl : b = false := by rw [HB2.out]; rfl
            clear HB2
            go_wp2_with fail
            exact hout.out _ _ _ _ _ _ _ _ _ _ _ _ _ _ _ _ _ _ _ _ _ _ _ _ _ _ _ _ _ _ _ _ _ _ _ _ _ _ _ _ _ _ _ _
          · have hl' : (lim == -1) = false := by simpa using hl
            have hl2 : (lim != -1) = true := by simpa using hl
            obtain rfl : b = true := by rw [HB2.out, hl']; rfl
            clear HB2 hl
            go_wp2_with fail
            exact hout.out _ _ _ _ _ _ _ _ _ _ _ _ _ _ _ _ _ _ _ _ _ _ _ _ _ _ _ _ _ _ _ _ _ _ _ _ _ _ _ _ _ _ _ _
        · obtain rfl : b = true := by rw [HB2.out]; rfl
          clear HB2
          go_wp2_with fail
          exact hout.out _ _ _ _ _ _ _ _ _ _ _ _ _ _ _ _ _ _ _ _ _ _ _ _ _ _ _ _ _ _ _ _ _ _ _ _ _ _ _ _ _ _ _ _
      · obtain rfl : b = true := by rw [HB2.out]; rfl
        clear HB2
        go_wp2_with fail
        exact hout.out _ _ _ _ _ _ _ _ _ _ _ _ _ _ _ _ _ _ _ _ _ _ _ _ _ _ _ _ _ _ _ _ _ _ _ _ _ _ _ _ _ _ _ _
theorem tz_app' (a b : ByteArray) : (a ++ b).data.toList = a.data.toList ++ b.data.toList := by simp
theorem em_app (a b : ByteArray) : (a ++ b).toList.isEmpty = (a.toList.isEmpty && b.toList.isEmpty) := by
  rw [Lib.toList_data, Lib.toList_data, Lib.toList_data, tz_app']
  cases a.data.toList <;> cases b.data.toList <;> rfl
/-- What is asked of the sizes of a statement's parts, so that they may be added. -/
structure SqS (s : Sq) : Prop where
  t : s.t.size ≤ 140737488351232
  o : s.ord.size ≤ 140737488351232
  e : s.st.size ≤ 140737488351232
  n2 : s.cols.length ≤ 140737488351232
  n3 : s.row.length ≤ 140737488351232
  n4 : s.names.length ≤ 140737488351232
  n6 : s.wh.length ≤ 140737488351232
  n11 : s.to.length ≤ 140737488351232
theorem hasMore_any (w : World) (s : Sq) (p : Ps) (hr : StR w s p) (hz : SqS s) (hk1 : 1 ≤ s.k) :
    Calls Tryd.prog 27 #[stV s p] w fun e w' => e = .returned (.bool (moreF s)) ∧ Below w.heap.size w w' := by
  obtain ⟨l2, l3, l4, l6, l11⟩ := hr.lens
  have m2 : p.n2 ≤ 140737488351232 := by rw [l2]; exact hz.n2
  have m3 : p.n3 ≤ 140737488351232 := by rw [l3]; exact hz.n3
  have m4 : p.n4 ≤ 140737488351232 := by rw [l4]; exact hz.n4
  have m6 : p.n6 ≤ 140737488351232 := by rw [l6]; exact hz.n6
  have m11 : p.n11 ≤ 140737488351232 := by rw [l11]; exact hz.n11
  have zt := hz.t
  have zo := hz.o
  have ze := hz.e
  have hblk := new0 w (.cells (stC s p) 33)
  have HB0 : Hid (Below w.heap.size w (w.alloc (.cells (stC s p) 33))) := (Below.refl _ _).alloc (Nat.le_refl _) _
  clear hr hz
  have z0 : (⟨#[]⟩ : ByteArray).size ≤ 140737488351232 := by show 0 ≤ _; omega
  have e0 : (⟨#[]⟩ : ByteArray).toList.isEmpty = true := by rw [Lib.toList_data]; rfl
  obtain ⟨k, t, cols, row, names, cnt, wh, ord, dn, lim, st, to⟩ := s
  obtain ⟨a2, n2, c2, a3, n3, c3, a4, n4, c4, a6, n6, c6, a11, n11, c11⟩ := p
  simp only at m2 m3 m4 m6 m11 zt zo ze hk1 l2 l3 l4 l6 l11
  have hM : moreF ⟨k, t, cols, row, names, cnt, wh, ord, dn, lim, st, to⟩ = ((decide (6 < k) && !t.toList.isEmpty) || (!(k == 1) && decide (0 < n2)) || (!(k == 3) && decide (0 < n3)) ||
      (!(k == 4) && (decide (0 < n4) || cnt || !ord.toList.isEmpty || dn || !(lim == -1))) || (!(k == 5) && (!st.toList.isEmpty || decide (0 < n11))) ||
      (!(k == 4) && !(k == 5) && !(k == 6) && decide (0 < n6))) := by
    rw [l2, l3, l4, l6, l11]
    rfl
  clear l2 l3 l4 l6 l11
  have dz : ∀ a b : Nat, decide (0 < a + b) = (decide (0 < a) || decide (0 < b)) := fun a b => by
    rw [Bool.eq_iff_iff]
    simp
    omega
  obtain ⟨M, hMM⟩ : ∃ M, M = moreF ⟨k, t, cols, row, names, cnt, wh, ord, dn, lim, st, to⟩ := ⟨_, rfl⟩
  rw [← hMM] at hM ⊢
  clear hMM
  by_cases hk1_ : k = 1
  · subst hk1_
    have hB : M = hmB ⟨#[]⟩ ord st 0 n3 n4 n6 n11 cnt dn lim := by
      rw [hM]
      unfold hmB
      rw [em_app, em_app]
      simp only [dz, e0]
      generalize t.toList.isEmpty = x1, ord.toList.isEmpty = x2, st.toList.isEmpty = x3, (lim == -1) = x4, decide (0 < n2) = y2, decide (0 < n3) = y3, decide (0 < n4) = y4, decide (0 < n6) = y6, decide (0 < n11) = y11
      clear hM hblk HB0 m2 m3 m4 m6 m11 zt zo ze z0 e0 dz
      revert x1 x2 x3 x4 y2 y3 y4 y6 y11 cnt dn
      decide +kernel
    clear hM dz
    have HBB := Lib.hid hB
    clear hB
    clear hblk
    go_enter Tryd.func27, Tryd.ntmps27
    go_upto_region 14 with (fail)
    change Code.wp _ ((regionOf 14 (Tryd.f27.body.getD .skip)).getD .skip) _ _ _
    refine hm14 _ _ _ _ _ _ _ _ _ _ _ _ _ _ _ _ _ _ _ _ _ _ _ _ _ _ _ _ _ _ _ _ _ _ _ _ _ _ _ _ _ _ _ _ _ _ _ _ _ _ _ _ _ _ _ _ _ _ _ _ _ _ _ _ _ _ _ _ _ _ _ _ _ _ _ _ w.heap.size 1 ⟨#[]⟩ ord st cnt dn lim none 0 0 a3 n3 c3 a4 n4 c4 a6 n6 c6 a11 n11 c11 M (new0 _ _) z0 zo ze (by omega) m3 m4 m6 m11 HBB.out (Lib.hid ?_)
    intro u31 u32 u33 u34 u35 u36 u37 u38 u39 u40 u41 u42 u43 u44 u45 u46 u47 u48 u49 u50 u51 u52 u53 u54 u55 u56 u57 u58 u59 u60 u61 u62 u63 u64 u65 u66 u67 u68 u69 u70 u71 u72 u73 u74
    go_wp2_with fail
    go_ret
    refine ⟨rfl, ?_⟩
    exact (Below.refl _ _).alloc (Nat.le_refl _) _
  by_cases hk2 : k = 2
  · subst hk2
    have hB : M = hmB ⟨#[]⟩ ord st n2 n3 n4 n6 n11 cnt dn lim := by
      rw [hM]
      unfold hmB
      rw [em_app, em_app]
      simp only [dz, e0]
      generalize t.toList.isEmpty = x1, ord.toList.isEmpty = x2, st.toList.isEmpty = x3, (lim == -1) = x4, decide (0 < n2) = y2, decide (0 < n3) = y3, decide (0 < n4) = y4, decide (0 < n6) = y6, decide (0 < n11) = y11
      clear hM hblk HB0 m2 m3 m4 m6 m11 zt zo ze z0 e0 dz
      revert x1 x2 x3 x4 y2 y3 y4 y6 y11 cnt dn
      decide +kernel
    clear hM dz
    have HBB := Lib.hid hB
    clear hB
    clear hblk
    go_enter Tryd.func27, Tryd.ntmps27
    go_upto_region 14 with (fail)
    change Code.wp _ ((regionOf 14 (Tryd.f27.body.getD .skip)).getD .skip) _ _ _
    refine hm14 _ _ _ _ _ _ _ _ _ _ _ _ _ _ _ _ _ _ _ _ _ _ _ _ _ _ _ _ _ _ _ _ _ _ _ _ _ _ _ _ _ _ _ _ _ _ _ _ _ _ _ _ _ _ _ _ _ _ _ _ _ _ _ _ _ _ _ _ _ _ _ _ _ _ _ _ w.heap.size 2 ⟨#[]⟩ ord st cnt dn lim a2 n2 c2 a3 n3 c3 a4 n4 c4 a6 n6 c6 a11 n11 c11 M (new0 _ _) z0 zo ze m2 m3 m4 m6 m11 HBB.out (Lib.hid ?_)
    intro u31 u32 u33 u34 u35 u36 u37 u38 u39 u40 u41 u42 u43 u44 u45 u46 u47 u48 u49 u50 u51 u52 u53 u54 u55 u56 u57 u58 u59 u60 u61 u62 u63 u64 u65 u66 u67 u68 u69 u70 u71 u72 u73 u74
    go_wp2_with fail
    go_ret
    refine ⟨rfl, ?_⟩
    exact (Below.refl _ _).alloc (Nat.le_refl _) _
  by_cases hk3 : k = 3
  · subst hk3
    have hB : M = hmB ⟨#[]⟩ ord st n2 0 n4 n6 n11 cnt dn lim := by
      rw [hM]
      unfold hmB
      rw [em_app, em_app]
      simp only [dz, e0]
      generalize t.toList.isEmpty = x1, ord.toList.isEmpty = x2, st.toList.isEmpty = x3, (lim == -1) = x4, decide (0 < n2) = y2, decide (0 < n3) = y3, decide (0 < n4) = y4, decide (0 < n6) = y6, decide (0 < n11) = y11
      clear hM hblk HB0 m2 m3 m4 m6 m11 zt zo ze z0 e0 dz
      revert x1 x2 x3 x4 y2 y3 y4 y6 y11 cnt dn
      decide +kernel
    clear hM dz
    have HBB := Lib.hid hB
    clear hB
    clear hblk
    go_enter Tryd.func27, Tryd.ntmps27
    go_upto_region 14 with (fail)
    change Code.wp _ ((regionOf 14 (Tryd.f27.body.getD .skip)).getD .skip) _ _ _
    refine hm14 _ _ _ _ _ _ _ _ _ _ _ _ _ _ _ _ _ _ _ _ _ _ _ _ _ _ _ _ _ _ _ _ _ _ _ _ _ _ _ _ _ _ _ _ _ _ _ _ _ _ _ _ _ _ _ _ _ _ _ _ _ _ _ _ _ _ _ _ _ _ _ _ _ _ _ _ w.heap.size 3 ⟨#[]⟩ ord st cnt dn lim a2 n2 c2 none 0 0 a4 n4 c4 a6 n6 c6 a11 n11 c11 M (new0 _ _) z0 zo ze m2 (by omega) m4 m6 m11 HBB.out (Lib.hid ?_)
    intro u31 u32 u33 u34 u35 u36 u37 u38 u39 u40 u41 u42 u43 u44 u45 u46 u47 u48 u49 u50 u51 u52 u53 u54 u55 u56 u57 u58 u59 u60 u61 u62 u63 u64 u65 u66 u67 u68 u69 u70 u71 u72 u73 u74
    go_wp2_with fail
    go_ret
    refine ⟨rfl, ?_⟩
    exact (Below.refl _ _).alloc (Nat.le_refl _) _
  by_cases hk4 : k = 4
  · subst hk4
    have hB : M = hmB ⟨#[]⟩ ⟨#[]⟩ st n2 n3 0 0 n11 false false (-1) := by
      rw [hM]
      unfold hmB
      rw [em_app, em_app]
      simp only [dz, e0]
      generalize t.toList.isEmpty = x1, ord.toList.isEmpty = x2, st.toList.isEmpty = x3, (lim == -1) = x4, decide (0 < n2) = y2, decide (0 < n3) = y3, decide (0 < n4) = y4, decide (0 < n6) = y6, decide (0 < n11) = y11
      clear hM hblk HB0 m2 m3 m4 m6 m11 zt zo ze z0 e0 dz
      revert x1 x2 x3 x4 y2 y3 y4 y6 y11 cnt dn
      decide +kernel
    clear hM dz
    have HBB := Lib.hid hB
    clear hB
    clear hblk
    go_enter Tryd.func27, Tryd.ntmps27
    go_upto_region 14 with (fail)
    change Code.wp _ ((regionOf 14 (Tryd.f27.body.getD .skip)).getD .skip) _ _ _
    refine hm14 _ _ _ _ _ _ _ _ _ _ _ _ _ _ _ _ _ _ _ _ _ _ _ _ _ _ _ _ _ _ _ _ _ _ _ _ _ _ _ _ _ _ _ _ _ _ _ _ _ _ _ _ _ _ _ _ _ _ _ _ _ _ _ _ _ _ _ _ _ _ _ _ _ _ _ _ w.heap.size 4 ⟨#[]⟩ ⟨#[]⟩ st false false (-1) a2 n2 c2 a3 n3 c3 none 0 0 none 0 0 a11 n11 c11 M (new0 _ _) z0 z0 ze m2 m3 (by omega) (by omega) m11 HBB.out (Lib.hid ?_)
    intro u31 u32 u33 u34 u35 u36 u37 u38 u39 u40 u41 u42 u43 u44 u45 u46 u47 u48 u49 u50 u51 u52 u53 u54 u55 u56 u57 u58 u59 u60 u61 u62 u63 u64 u65 u66 u67 u68 u69 u70 u71 u72 u73 u74
    go_wp2_with fail
    go_ret
    refine ⟨rfl, ?_⟩
    exact (Below.refl _ _).alloc (Nat.le_refl _) _
  by_cases hk5 : k = 5
  · subst hk5
    have hB : M = hmB ⟨#[]⟩ ord ⟨#[]⟩ n2 n3 n4 0 0 cnt dn lim := by
      rw [hM]
      unfold hmB
      rw [em_app, em_app]
      simp only [dz, e0]
      generalize t.toList.isEmpty = x1, ord.toList.isEmpty = x2, st.toList.isEmpty = x3, (lim == -1) = x4, decide (0 < n2) = y2, decide (0 < n3) = y3, decide (0 < n4) = y4, decide (0 < n6) = y6, decide (0 < n11) = y11
      clear hM hblk HB0 m2 m3 m4 m6 m11 zt zo ze z0 e0 dz
      revert x1 x2 x3 x4 y2 y3 y4 y6 y11 cnt dn
      decide +kernel
    clear hM dz
    have HBB := Lib.hid hB
    clear hB
    clear hblk
    go_enter Tryd.func27, Tryd.ntmps27
    go_upto_region 14 with (fail)
    change Code.wp _ ((regionOf 14 (Tryd.f27.body.getD .skip)).getD .skip) _ _ _
    refine hm14 _ _ _ _ _ _ _ _ _ _ _ _ _ _ _ _ _ _ _ _ _ _ _ _ _ _ _ _ _ _ _ _ _ _ _ _ _ _ _ _ _ _ _ _ _ _ _ _ _ _ _ _ _ _ _ _ _ _ _ _ _ _ _ _ _ _ _ _ _ _ _ _ _ _ _ _ w.heap.size 5 ⟨#[]⟩ ord ⟨#[]⟩ cnt dn lim a2 n2 c2 a3 n3 c3 a4 n4 c4 none 0 0 none 0 0 M (new0 _ _) z0 zo z0 m2 m3 m4 (by omega) (by omega) HBB.out (Lib.hid ?_)
    intro u31 u32 u33 u34 u35 u36 u37 u38 u39 u40 u41 u42 u43 u44 u45 u46 u47 u48 u49 u50 u51 u52 u53 u54 u55 u56 u57 u58 u59 u60 u61 u62 u63 u64 u65 u66 u67 u68 u69 u70 u71 u72 u73 u74
    go_wp2_with fail
    go_ret
    refine ⟨rfl, ?_⟩
    exact (Below.refl _ _).alloc (Nat.le_refl _) _
  by_cases hk6 : k = 6
  · subst hk6
    have hB : M = hmB ⟨#[]⟩ ord st n2 n3 n4 0 n11 cnt dn lim := by
      rw [hM]
      unfold hmB
      rw [em_app, em_app]
      simp only [dz, e0]
      generalize t.toList.isEmpty = x1, ord.toList.isEmpty = x2, st.toList.isEmpty = x3, (lim == -1) = x4, decide (0 < n2) = y2, decide (0 < n3) = y3, decide (0 < n4) = y4, decide (0 < n6) = y6, decide (0 < n11) = y11
      clear hM hblk HB0 m2 m3 m4 m6 m11 zt zo ze z0 e0 dz
      revert x1 x2 x3 x4 y2 y3 y4 y6 y11 cnt dn
      decide +kernel
    clear hM dz
    have HBB := Lib.hid hB
    clear hB
    clear hblk
    go_enter Tryd.func27, Tryd.ntmps27
    go_upto_region 14 with (fail)
    change Code.wp _ ((regionOf 14 (Tryd.f27.body.getD .skip)).getD .skip) _ _ _
    refine hm14 _ _ _ _ _ _ _ _ _ _ _ _ _ _ _ _ _ _ _ _ _ _ _ _ _ _ _ _ _ _ _ _ _ _ _ _ _ _ _ _ _ _ _ _ _ _ _ _ _ _ _ _ _ _ _ _ _ _ _ _ _ _ _ _ _ _ _ _ _ _ _ _ _ _ _ _ w.heap.size 6 ⟨#[]⟩ ord st cnt dn lim a2 n2 c2 a3 n3 c3 a4 n4 c4 none 0 0 a11 n11 c11 M (new0 _ _) z0 zo ze m2 m3 m4 (by omega) m11 HBB.out (Lib.hid ?_)
    intro u31 u32 u33 u34 u35 u36 u37 u38 u39 u40 u41 u42 u43 u44 u45 u46 u47 u48 u49 u50 u51 u52 u53 u54 u55 u56 u57 u58 u59 u60 u61 u62 u63 u64 u65 u66 u67 u68 u69 u70 u71 u72 u73 u74
    go_wp2_with fail
    go_ret
    refine ⟨rfl, ?_⟩
    exact (Below.refl _ _).alloc (Nat.le_refl _) _
  · have hk7 : 6 < k := by omega
    have e1 : (k == 1) = false := by simpa using hk1_
    have e3 : (k == 3) = false := by simpa using hk3
    have e4 : (k == 4) = false := by simpa using hk4
    have e5 : (k == 5) = false := by simpa using hk5
    have e6 : (k == 6) = false := by simpa using hk6
    have hB : M = hmB t ord st n2 n3 n4 n6 n11 cnt dn lim := by
      rw [hM]
      unfold hmB
      rw [em_app, em_app]
      simp only [dz]
      rw [decide_eq_true hk7, e1, e3, e4, e5, e6]
      generalize t.toList.isEmpty = x1, ord.toList.isEmpty = x2, st.toList.isEmpty = x3, (lim == -1) = x4, decide (0 < n2) = y2, decide (0 < n3) = y3, decide (0 < n4) = y4, decide (0 < n6) = y6, decide (0 < n11) = y11
      clear hM hblk HB0 m2 m3 m4 m6 m11 zt zo ze z0 e0 dz
      revert x1 x2 x3 x4 y2 y3 y4 y6 y11 cnt dn
      decide +kernel
    clear hM dz
    have HBB := Lib.hid hB
    clear hB
    clear hblk
    go_enter Tryd.func27, Tryd.ntmps27
    go_upto_region 14 with (fail)
    change Code.wp _ ((regionOf 14 (Tryd.f27.body.getD .skip)).getD .skip) _ _ _
    refine hm14 _ _ _ _ _ _ _ _ _ _ _ _ _ _ _ _ _ _ _ _ _ _ _ _ _ _ _ _ _ _ _ _ _ _ _ _ _ _ _ _ _ _ _ _ _ _ _ _ _ _ _ _ _ _ _ _ _ _ _ _ _ _ _ _ _ _ _ _ _ _ _ _ _ _ _ _ w.heap.size k t ord st cnt dn lim a2 n2 c2 a3 n3 c3 a4 n4 c4 a6 n6 c6 a11 n11 c11 M (new0 _ _) zt zo ze m2 m3 m4 m6 m11 HBB.out (Lib.hid ?_)
    intro u31 u32 u33 u34 u35 u36 u37 u38 u39 u40 u41 u42 u43 u44 u45 u46 u47 u48 u49 u50 u51 u52 u53 u54 u55 u56 u57 u58 u59 u60 u61 u62 u63 u64 u65 u66 u67 u68 u69 u70 u71 u72 u73 u74
    go_wp2_with fail
    go_ret
    refine ⟨rfl, ?_⟩
    exact (Below.refl _ _).alloc (Nat.le_refl _) _
end Go.Proofs.YtdeollmeljaaoaaDoor.cs
/- Statements shown: the regions that draw their order. -/
namespace Go.Proofs.YtdeollmeljaaoaaDoor.cs
open Go.ChangeShapes Go.WideShapes Go.ChangeAt Go.RowKit
set_option linter.unusedVariables false
set_option linter.unusedSimpArgs false
set_option maxHeartbeats 8000000
set_option maxRecDepth 1000000
theorem show7 (Q : Exit → Act → World → Prop) (c0 c2 c3 c4 c5 c6 c7 c8 c9 c10 c11 c12 c13 c14 c15 c16 c17 c18 c19 c20 c21 c22 c23 c24 c25 c26 c27 c28 c29 c30 c31 c32 c33 c34 c35 c36 c37 c38 c39 c40 c41 c42 c43 c44 c45 c46 c47 c48 c49 c50 c51 c52 c53 c54 c55 c56 c57 c58 c59 c60 c61 c62 c63 c64 c65 c66 c67 c68 c69 c70 c71 c72 c73 c74 c75 c76 c77 : Value) (w0 : World) (P : Nat) (hP : P < w0.heap.size) (t : ByteArray) (a3 : Option Addr) (n3 d3 : Nat) (L : List Tk)
    (p0 : w0.cell? ⟨P, 1, none⟩ = some (.string t))
    (p1 : w0.cell? ⟨P, 3, none⟩ = some (.slice a3 n3 d3))
    (HPA : Hid (∀ W B, Below w0.heap.size w0 W → Rd W 1 5 (.slice (some ⟨B, 0, none⟩) 5 5) ([sINSERT, sINTO, t, sVALUES, sOpen].map Value.string) → Calls Tryd.prog 34 #[.slice (some ⟨B, 0, none⟩) 5 5] W (ToksIs [ptk sINSERT, ptk sINTO, ptk t, ptk sVALUES, ptk sOpen] W)))
    (HPB : Hid (∀ W B, Below w0.heap.size w0 W → Rd W 1 1 (.slice (some ⟨B, 0, none⟩) 1 1) ([sClose].map Value.string) → Calls Tryd.prog 34 #[.slice (some ⟨B, 0, none⟩) 1 1] W (ToksIs [ptk sClose] W)))
    (HCC : Hid (∀ W, Below w0.heap.size w0 W → Calls Tryd.prog 37 #[.slice a3 n3 d3, .func (.func 38) #[] #[]] W (ToksIs L W)))
    (HLN : Hid ([ptk sINSERT, ptk sINTO, ptk t, ptk sVALUES, ptk sOpen].length + (L.length + ([ptk sClose].length)) ≤ 1000000))
    (hout : Hid (∀ (u26 u27 u28 u29 u30 u31 u32 u33 u34 u35 u36 : Value) (vout : Value) (w' : World), ToksIs ([ptk sINSERT, ptk sINTO, ptk t, ptk sVALUES, ptk sOpen] ++ (L ++ [ptk sClose])) w0 (.returned vout) w' → Q .normal ⟨List.toArray (c0 :: (.pointer (some ⟨P, 0, none⟩)) :: vout :: c3 :: c4 :: c5 :: c6 :: c7 :: c8 :: c9 :: c10 :: c11 :: c12 :: c13 :: c14 :: c15 :: c16 :: c17 :: c18 :: c19 :: c20 :: c21 :: c22 :: c23 :: c24 :: c25 :: u26 :: u27 :: u28 :: u29 :: u30 :: u31 :: u32 :: u33 :: u34 :: u35 :: u36 :: c37 :: c38 :: c39 :: c40 :: c41 :: c42 :: c43 :: c44 :: c45 :: c46 :: c47 :: c48 :: c49 :: c50 :: c51 :: c52 :: c53 :: c54 :: c55 :: c56 :: c57 :: c58 :: c59 :: c60 :: c61 :: c62 :: c63 :: c64 :: c65 :: c66 :: c67 :: c68 :: c69 :: c70 :: c71 :: c72 :: c73 :: c74 :: c75 :: c76 :: c77 :: []), []⟩ w')) :
    Code.wp Tryd.prog ((regionOf 7 (Tryd.f24.body.getD .skip)).getD .skip) Q ⟨List.toArray (c0 :: (.pointer (some ⟨P, 0, none⟩)) :: c2 :: c3 :: c4 :: c5 :: c6 :: c7 :: c8 :: c9 :: c10 :: c11 :: c12 :: c13 :: c14 :: c15 :: c16 :: c17 :: c18 :: c19 :: c20 :: c21 :: c22 :: c23 :: c24 :: c25 :: c26 :: c27 :: c28 :: c29 :: c30 :: c31 :: c32 :: c33 :: c34 :: c35 :: c36 :: c37 :: c38 :: c39 :: c40 :: c41 :: c42 :: c43 :: c44 :: c45 :: c46 :: c47 :: c48 :: c49 :: c50 :: c51 :: c52 :: c53 :: c54 :: c55 :: c56 :: c57 :: c58 :: c59 :: c60 :: c61 :: c62 :: c63 :: c64 :: c65 :: c66 :: c67 :: c68 :: c69 :: c70 :: c71 :: c72 :: c73 :: c74 :: c75 :: c76 :: c77 :: []), []⟩ w0 := by
  refine Code.wp_mono (Q := NQ Q) nq_to ?_
  conv => arg 2; whnf
  have hB0 : Below w0.heap.size w0 w0 := Below.refl _ _
  go_region_held3 (fun wx => wx.cell? ⟨P, 1, none⟩ = some (.string t) ∧ wx.cell? ⟨P, 3, none⟩ = some (.slice a3 n3 d3))
    ((refine ⟨?_, ?_⟩ <;> (repeat' (first | (with_reducible assumption) | (with_reducible refine cell_dr ?_) | (with_reducible refine cell_al _ ?_) | (with_reducible refine cell_of_below hbz ?_) | (with_reducible refine cell_of_below hbC ?_) | (with_reducible refine cell_of_below hbB ?_) | (with_reducible refine cell_of_below hbA ?_)))))
    ((first
      | (go_at_call 34; (with_reducible refine (HPA.out _ _ (by go_grown) (by ((repeat' (first | (with_reducible assumption) | (with_reducible refine rd_lit1 _ _ _ ?_) | (with_reducible refine rd_lit5 _ _ _ _ _ _ _ ?_) | (with_reducible refine rd_sl3 _ _ _ _ _ ?_) | (with_reducible refine Rd.below ?_ hbz) | (with_reducible refine Rd.below ?_ hbC) | (with_reducible refine Rd.below ?_ hbB) | (with_reducible refine Rd.below ?_ hbA) | (with_reducible refine rd_drew ?_) | (with_reducible refine rd_alloc ?_ _) | (simp; done))); (first | done | fail)))).mono ?_); rintro e wA ⟨vA, rfl, hownA, hbA⟩; obtain ⟨aA, qA, rfl⟩ := own_shape hownA; have rA : Rd wA 3 5 (.slice aA 5 qA) (tkc [ptk sINSERT, ptk sINTO, ptk t, ptk sVALUES, ptk sOpen]) := Rd.own hownA; have hBA : Below w0.heap.size w0 wA := into (by go_grown) hbA; have hzA := hBA.size)
      | (go_at_call 34; (with_reducible refine (HPB.out _ _ (by go_grown) (by ((repeat' (first | (with_reducible assumption) | (with_reducible refine rd_lit1 _ _ _ ?_) | (with_reducible refine rd_lit5 _ _ _ _ _ _ _ ?_) | (with_reducible refine rd_sl3 _ _ _ _ _ ?_) | (with_reducible refine Rd.below ?_ hbz) | (with_reducible refine Rd.below ?_ hbC) | (with_reducible refine Rd.below ?_ hbB) | (with_reducible refine Rd.below ?_ hbA) | (with_reducible refine rd_drew ?_) | (with_reducible refine rd_alloc ?_ _) | (simp; done))); (first | done | fail)))).mono ?_); rintro e wB ⟨vB, rfl, hownB, hbB⟩; obtain ⟨aB, qB, rfl⟩ := own_shape hownB; have rB : Rd wB 3 1 (.slice aB 1 qB) (tkc [ptk sClose]) := Rd.own hownB; have hBB : Below w0.heap.size w0 wB := into (by go_grown) hbB; have hzB := hBB.size)
      | (go_at_call 37; (with_reducible refine (HCC.out _ (by go_grown)).mono ?_); rintro e wC ⟨vC, rfl, hownC, hbC⟩; obtain ⟨aC, qC, rfl⟩ := own_shape hownC; have rC := Rd.own hownC; have hBC : Below w0.heap.size w0 wC := into (by go_grown) hbC; have hzC := hBC.size)
      | (go_at_call 33; (with_reducible refine (concat3 _ _ _ _ _ [ptk sINSERT, ptk sINTO, ptk t, ptk sVALUES, ptk sOpen] L [ptk sClose] (5) (L.length) (1) (by ((repeat' (first | (with_reducible assumption) | (with_reducible refine rd_lit1 _ _ _ ?_) | (with_reducible refine rd_lit5 _ _ _ _ _ _ _ ?_) | (with_reducible refine rd_sl3 _ _ _ _ _ ?_) | (with_reducible refine Rd.below ?_ hbz) | (with_reducible refine Rd.below ?_ hbC) | (with_reducible refine Rd.below ?_ hbB) | (with_reducible refine Rd.below ?_ hbA) | (with_reducible refine rd_drew ?_) | (with_reducible refine rd_alloc ?_ _) | (simp; done))); (first | done | fail))) (by ((repeat' (first | (with_reducible assumption) | (with_reducible refine rd_lit1 _ _ _ ?_) | (with_reducible refine rd_lit5 _ _ _ _ _ _ _ ?_) | (with_reducible refine rd_sl3 _ _ _ _ _ ?_) | (with_reducible refine Rd.below ?_ hbz) | (with_reducible refine Rd.below ?_ hbC) | (with_reducible refine Rd.below ?_ hbB) | (with_reducible refine Rd.below ?_ hbA) | (with_reducible refine rd_drew ?_) | (with_reducible refine rd_alloc ?_ _) | (simp; done))); (first | done | fail))) (by ((repeat' (first | (with_reducible assumption) | (with_reducible refine rd_lit1 _ _ _ ?_) | (with_reducible refine rd_lit5 _ _ _ _ _ _ _ ?_) | (with_reducible refine rd_sl3 _ _ _ _ _ ?_) | (with_reducible refine Rd.below ?_ hbz) | (with_reducible refine Rd.below ?_ hbC) | (with_reducible refine Rd.below ?_ hbB) | (with_reducible refine Rd.below ?_ hbA) | (with_reducible refine rd_drew ?_) | (with_reducible refine rd_alloc ?_ _) | (simp; done))); (first | done | fail))) (by ((repeat' (first | (with_reducible assumption) | (with_reducible refine rd_lit1 _ _ _ ?_) | (with_reducible refine rd_lit5 _ _ _ _ _ _ _ ?_) | (with_reducible refine rd_sl3 _ _ _ _ _ ?_) | (with_reducible refine Rd.below ?_ hbz) | (with_reducible refine Rd.below ?_ hbC) | (with_reducible refine Rd.below ?_ hbB) | (with_reducible refine Rd.below ?_ hbA) | (with_reducible refine rd_drew ?_) | (with_reducible refine rd_alloc ?_ _) | (simp; done))); (first | done | fail))) HLN.out).mono ?_); rintro e wz ⟨vz, rfl, hownz, hbz⟩; have hTz := ToksIs.from ⟨vz, rfl, hownz, hbz⟩ (show Below w0.heap.size w0 _ by go_grown))))
  all_goals exact hout.out _ _ _ _ _ _ _ _ _ _ _ _ _ hTz
theorem show11 (Q : Exit → Act → World → Prop) (c0 c2 c3 c4 c5 c6 c7 c8 c9 c10 c11 c12 c13 c14 c15 c16 c17 c18 c19 c20 c21 c22 c23 c24 c25 c26 c27 c28 c29 c30 c31 c32 c33 c34 c35 c36 c37 c38 c39 c40 c41 c42 c43 c44 c45 c46 c47 c48 c49 c50 c51 c52 c53 c54 c55 c56 c57 c58 c59 c60 c61 c62 c63 c64 c65 c66 c67 c68 c69 c70 c71 c72 c73 c74 c75 c76 c77 : Value) (w0 : World) (P : Nat) (hP : P < w0.heap.size) (t s : ByteArray) (a11 : Option Addr) (n11 d11 : Nat) (a6 : Option Addr) (n6 d6 : Nat) (L M : List Tk)
    (p0 : w0.cell? ⟨P, 1, none⟩ = some (.string t))
    (p1 : w0.cell? ⟨P, 10, none⟩ = some (.string s))
    (p2 : w0.cell? ⟨P, 11, none⟩ = some (.slice a11 n11 d11))
    (p3 : w0.cell? ⟨P, 6, none⟩ = some (.slice a6 n6 d6))
    (HPA : Hid (∀ W B, Below w0.heap.size w0 W → Rd W 1 5 (.slice (some ⟨B, 0, none⟩) 5 5) ([sUPDATE, t, sSET, s, sEq].map Value.string) → Calls Tryd.prog 34 #[.slice (some ⟨B, 0, none⟩) 5 5] W (ToksIs [ptk sUPDATE, ptk t, ptk sSET, ptk s, ptk sEq] W)))
    (HCC : Hid (∀ W, Below w0.heap.size w0 W → Calls Tryd.prog 40 #[.slice a11 n11 d11] W (ToksIs L W)))
    (HCD : Hid (∀ W, Below w0.heap.size w0 W → Calls Tryd.prog 41 #[.slice a6 n6 d6] W (ToksIs M W)))
    (HLN : Hid ([ptk sUPDATE, ptk t, ptk sSET, ptk s, ptk sEq].length + (L.length + (M.length)) ≤ 1000000))
    (hout : Hid (∀ (u43 u44 u45 u46 u47 u48 u49 u50 u51 u52 u53 u54 u55 u56 : Value) (vout : Value) (w' : World), ToksIs ([ptk sUPDATE, ptk t, ptk sSET, ptk s, ptk sEq] ++ (L ++ M)) w0 (.returned vout) w' → Q .normal ⟨List.toArray (c0 :: (.pointer (some ⟨P, 0, none⟩)) :: vout :: c3 :: c4 :: c5 :: c6 :: c7 :: c8 :: c9 :: c10 :: c11 :: c12 :: c13 :: c14 :: c15 :: c16 :: c17 :: c18 :: c19 :: c20 :: c21 :: c22 :: c23 :: c24 :: c25 :: c26 :: c27 :: c28 :: c29 :: c30 :: c31 :: c32 :: c33 :: c34 :: c35 :: c36 :: c37 :: c38 :: c39 :: c40 :: c41 :: c42 :: u43 :: u44 :: u45 :: u46 :: u47 :: u48 :: u49 :: u50 :: u51 :: u52 :: u53 :: u54 :: u55 :: u56 :: c57 :: c58 :: c59 :: c60 :: c61 :: c62 :: c63 :: c64 :: c65 :: c66 :: c67 :: c68 :: c69 :: c70 :: c71 :: c72 :: c73 :: c74 :: c75 :: c76 :: c77 :: []), []⟩ w')) :
    Code.wp Tryd.prog ((regionOf 11 (Tryd.f24.body.getD .skip)).getD .skip) Q ⟨List.toArray (c0 :: (.pointer (some ⟨P, 0, none⟩)) :: c2 :: c3 :: c4 :: c5 :: c6 :: c7 :: c8 :: c9 :: c10 :: c11 :: c12 :: c13 :: c14 :: c15 :: c16 :: c17 :: c18 :: c19 :: c20 :: c21 :: c22 :: c23 :: c24 :: c25 :: c26 :: c27 :: c28 :: c29 :: c30 :: c31 :: c32 :: c33 :: c34 :: c35 :: c36 :: c37 :: c38 :: c39 :: c40 :: c41 :: c42 :: c43 :: c44 :: c45 :: c46 :: c47 :: c48 :: c49 :: c50 :: c51 :: c52 :: c53 :: c54 :: c55 :: c56 :: c57 :: c58 :: c59 :: c60 :: c61 :: c62 :: c63 :: c64 :: c65 :: c66 :: c67 :: c68 :: c69 :: c70 :: c71 :: c72 :: c73 :: c74 :: c75 :: c76 :: c77 :: []), []⟩ w0 := by
  refine Code.wp_mono (Q := NQ Q) nq_to ?_
  conv => arg 2; whnf
  have hB0 : Below w0.heap.size w0 w0 := Below.refl _ _
  go_region_held3 (fun wx => wx.cell? ⟨P, 1, none⟩ = some (.string t) ∧ wx.cell? ⟨P, 10, none⟩ = some (.string s) ∧ wx.cell? ⟨P, 11, none⟩ = some (.slice a11 n11 d11) ∧ wx.cell? ⟨P, 6, none⟩ = some (.slice a6 n6 d6))
    ((refine ⟨?_, ?_, ?_, ?_⟩ <;> (repeat' (first | (with_reducible assumption) | (with_reducible refine cell_dr ?_) | (with_reducible refine cell_al _ ?_) | (with_reducible refine cell_of_below hbz ?_) | (with_reducible refine cell_of_below hbD ?_) | (with_reducible refine cell_of_below hbC ?_) | (with_reducible refine cell_of_below hbA ?_)))))
    ((first
      | (go_at_call 34; (with_reducible refine (HPA.out _ _ (by go_grown) (by ((repeat' (first | (with_reducible assumption) | (with_reducible refine rd_lit5 _ _ _ _ _ _ _ ?_) | (with_reducible refine rd_sl3 _ _ _ _ _ ?_) | (with_reducible refine Rd.below ?_ hbz) | (with_reducible refine Rd.below ?_ hbD) | (with_reducible refine Rd.below ?_ hbC) | (with_reducible refine Rd.below ?_ hbA) | (with_reducible refine rd_drew ?_) | (with_reducible refine rd_alloc ?_ _) | (simp; done))); (first | done | fail)))).mono ?_); rintro e wA ⟨vA, rfl, hownA, hbA⟩; obtain ⟨aA, qA, rfl⟩ := own_shape hownA; have rA : Rd wA 3 5 (.slice aA 5 qA) (tkc [ptk sUPDATE, ptk t, ptk sSET, ptk s, ptk sEq]) := Rd.own hownA; have hBA : Below w0.heap.size w0 wA := into (by go_grown) hbA; have hzA := hBA.size)
      | (go_at_call 40; (with_reducible refine (HCC.out _ (by go_grown)).mono ?_); rintro e wC ⟨vC, rfl, hownC, hbC⟩; obtain ⟨aC, qC, rfl⟩ := own_shape hownC; have rC := Rd.own hownC; have hBC : Below w0.heap.size w0 wC := into (by go_grown) hbC; have hzC := hBC.size)
      | (go_at_call 41; (with_reducible refine (HCD.out _ (by go_grown)).mono ?_); rintro e wD ⟨vD, rfl, hownD, hbD⟩; obtain ⟨aD, qD, rfl⟩ := own_shape hownD; have rD := Rd.own hownD; have hBD : Below w0.heap.size w0 wD := into (by go_grown) hbD; have hzD := hBD.size)
      | (go_at_call 33; (with_reducible refine (concat3 _ _ _ _ _ [ptk sUPDATE, ptk t, ptk sSET, ptk s, ptk sEq] L M (5) (L.length) (M.length) (by ((repeat' (first | (with_reducible assumption) | (with_reducible refine rd_lit5 _ _ _ _ _ _ _ ?_) | (with_reducible refine rd_sl3 _ _ _ _ _ ?_) | (with_reducible refine Rd.below ?_ hbz) | (with_reducible refine Rd.below ?_ hbD) | (with_reducible refine Rd.below ?_ hbC) | (with_reducible refine Rd.below ?_ hbA) | (with_reducible refine rd_drew ?_) | (with_reducible refine rd_alloc ?_ _) | (simp; done))); (first | done | fail))) (by ((repeat' (first | (with_reducible assumption) | (with_reducible refine rd_lit5 _ _ _ _ _ _ _ ?_) | (with_reducible refine rd_sl3 _ _ _ _ _ ?_) | (with_reducible refine Rd.below ?_ hbz) | (with_reducible refine Rd.below ?_ hbD) | (with_reducible refine Rd.below ?_ hbC) | (with_reducible refine Rd.below ?_ hbA) | (with_reducible refine rd_drew ?_) | (with_reducible refine rd_alloc ?_ _) | (simp; done))); (first | done | fail))) (by ((repeat' (first | (with_reducible assumption) | (with_reducible refine rd_lit5 _ _ _ _ _ _ _ ?_) | (with_reducible refine rd_sl3 _ _ _ _ _ ?_) | (with_reducible refine Rd.below ?_ hbz) | (with_reducible refine Rd.below ?_ hbD) | (with_reducible refine Rd.below ?_ hbC) | (with_reducible refine Rd.below ?_ hbA) | (with_reducible refine rd_drew ?_) | (with_reducible refine rd_alloc ?_ _) | (simp; done))); (first | done | fail))) (by ((repeat' (first | (with_reducible assumption) | (with_reducible refine rd_lit5 _ _ _ _ _ _ _ ?_) | (with_reducible refine rd_sl3 _ _ _ _ _ ?_) | (with_reducible refine Rd.below ?_ hbz) | (with_reducible refine Rd.below ?_ hbD) | (with_reducible refine Rd.below ?_ hbC) | (with_reducible refine Rd.below ?_ hbA) | (with_reducible refine rd_drew ?_) | (with_reducible refine rd_alloc ?_ _) | (simp; done))); (first | done | fail))) HLN.out).mono ?_); rintro e wz ⟨vz, rfl, hownz, hbz⟩; have hTz := ToksIs.from ⟨vz, rfl, hownz, hbz⟩ (show Below w0.heap.size w0 _ by go_grown))))
  all_goals exact hout.out _ _ _ _ _ _ _ _ _ _ _ _ _ _ _ _ hTz
theorem show13 (Q : Exit → Act → World → Prop) (c0 c2 c3 c4 c5 c6 c7 c8 c9 c10 c11 c12 c13 c14 c15 c16 c17 c18 c19 c20 c21 c22 c23 c24 c25 c26 c27 c28 c29 c30 c31 c32 c33 c34 c35 c36 c37 c38 c39 c40 c41 c42 c43 c44 c45 c46 c47 c48 c49 c50 c51 c52 c53 c54 c55 c56 c57 c58 c59 c60 c61 c62 c63 c64 c65 c66 c67 c68 c69 c70 c71 c72 c73 c74 c75 c76 c77 : Value) (w0 : World) (P : Nat) (hP : P < w0.heap.size) (t : ByteArray) (a6 : Option Addr) (n6 d6 : Nat) (M : List Tk)
    (p0 : w0.cell? ⟨P, 1, none⟩ = some (.string t))
    (p1 : w0.cell? ⟨P, 6, none⟩ = some (.slice a6 n6 d6))
    (HPA : Hid (∀ W B, Below w0.heap.size w0 W → Rd W 1 3 (.slice (some ⟨B, 0, none⟩) 3 3) ([sDELETE, sFROM, t].map Value.string) → Calls Tryd.prog 34 #[.slice (some ⟨B, 0, none⟩) 3 3] W (ToksIs [ptk sDELETE, ptk sFROM, ptk t] W)))
    (HCD : Hid (∀ W, Below w0.heap.size w0 W → Calls Tryd.prog 41 #[.slice a6 n6 d6] W (ToksIs M W)))
    (HLN : Hid ([ptk sDELETE, ptk sFROM, ptk t].length + (M.length) ≤ 1000000))
    (hout : Hid (∀ (u59 u60 u61 u62 u63 u64 u65 u66 u67 : Value) (vout : Value) (w' : World), ToksIs ([ptk sDELETE, ptk sFROM, ptk t] ++ M) w0 (.returned vout) w' → Q .normal ⟨List.toArray (c0 :: (.pointer (some ⟨P, 0, none⟩)) :: vout :: c3 :: c4 :: c5 :: c6 :: c7 :: c8 :: c9 :: c10 :: c11 :: c12 :: c13 :: c14 :: c15 :: c16 :: c17 :: c18 :: c19 :: c20 :: c21 :: c22 :: c23 :: c24 :: c25 :: c26 :: c27 :: c28 :: c29 :: c30 :: c31 :: c32 :: c33 :: c34 :: c35 :: c36 :: c37 :: c38 :: c39 :: c40 :: c41 :: c42 :: c43 :: c44 :: c45 :: c46 :: c47 :: c48 :: c49 :: c50 :: c51 :: c52 :: c53 :: c54 :: c55 :: c56 :: c57 :: c58 :: u59 :: u60 :: u61 :: u62 :: u63 :: u64 :: u65 :: u66 :: u67 :: c68 :: c69 :: c70 :: c71 :: c72 :: c73 :: c74 :: c75 :: c76 :: c77 :: []), []⟩ w')) :
    Code.wp Tryd.prog ((regionOf 13 (Tryd.f24.body.getD .skip)).getD .skip) Q ⟨List.toArray (c0 :: (.pointer (some ⟨P, 0, none⟩)) :: c2 :: c3 :: c4 :: c5 :: c6 :: c7 :: c8 :: c9 :: c10 :: c11 :: c12 :: c13 :: c14 :: c15 :: c16 :: c17 :: c18 :: c19 :: c20 :: c21 :: c22 :: c23 :: c24 :: c25 :: c26 :: c27 :: c28 :: c29 :: c30 :: c31 :: c32 :: c33 :: c34 :: c35 :: c36 :: c37 :: c38 :: c39 :: c40 :: c41 :: c42 :: c43 :: c44 :: c45 :: c46 :: c47 :: c48 :: c49 :: c50 :: c51 :: c52 :: c53 :: c54 :: c55 :: c56 :: c57 :: c58 :: c59 :: c60 :: c61 :: c62 :: c63 :: c64 :: c65 :: c66 :: c67 :: c68 :: c69 :: c70 :: c71 :: c72 :: c73 :: c74 :: c75 :: c76 :: c77 :: []), []⟩ w0 := by
  refine Code.wp_mono (Q := NQ Q) nq_to ?_
  conv => arg 2; whnf
  have hB0 : Below w0.heap.size w0 w0 := Below.refl _ _
  go_region_held3 (fun wx => wx.cell? ⟨P, 1, none⟩ = some (.string t) ∧ wx.cell? ⟨P, 6, none⟩ = some (.slice a6 n6 d6))
    ((refine ⟨?_, ?_⟩ <;> (repeat' (first | (with_reducible assumption) | (with_reducible refine cell_dr ?_) | (with_reducible refine cell_al _ ?_) | (with_reducible refine cell_of_below hbz ?_) | (with_reducible refine cell_of_below hbD ?_) | (with_reducible refine cell_of_below hbA ?_)))))
    ((first
      | (go_at_call 34; (with_reducible refine (HPA.out _ _ (by go_grown) (by ((repeat' (first | (with_reducible assumption) | (with_reducible refine rd_lit3 _ _ _ _ _ ?_) | (with_reducible refine rd_sl2 _ _ _ _ ?_) | (with_reducible refine Rd.below ?_ hbz) | (with_reducible refine Rd.below ?_ hbD) | (with_reducible refine Rd.below ?_ hbA) | (with_reducible refine rd_drew ?_) | (with_reducible refine rd_alloc ?_ _) | (simp; done))); (first | done | fail)))).mono ?_); rintro e wA ⟨vA, rfl, hownA, hbA⟩; obtain ⟨aA, qA, rfl⟩ := own_shape hownA; have rA : Rd wA 3 3 (.slice aA 3 qA) (tkc [ptk sDELETE, ptk sFROM, ptk t]) := Rd.own hownA; have hBA : Below w0.heap.size w0 wA := into (by go_grown) hbA; have hzA := hBA.size)
      | (go_at_call 41; (with_reducible refine (HCD.out _ (by go_grown)).mono ?_); rintro e wD ⟨vD, rfl, hownD, hbD⟩; obtain ⟨aD, qD, rfl⟩ := own_shape hownD; have rD := Rd.own hownD; have hBD : Below w0.heap.size w0 wD := into (by go_grown) hbD; have hzD := hBD.size)
      | (go_at_call 33; (with_reducible refine (concat2 _ _ _ _ [ptk sDELETE, ptk sFROM, ptk t] M (3) (M.length) (by ((repeat' (first | (with_reducible assumption) | (with_reducible refine rd_lit3 _ _ _ _ _ ?_) | (with_reducible refine rd_sl2 _ _ _ _ ?_) | (with_reducible refine Rd.below ?_ hbz) | (with_reducible refine Rd.below ?_ hbD) | (with_reducible refine Rd.below ?_ hbA) | (with_reducible refine rd_drew ?_) | (with_reducible refine rd_alloc ?_ _) | (simp; done))); (first | done | fail))) (by ((repeat' (first | (with_reducible assumption) | (with_reducible refine rd_lit3 _ _ _ _ _ ?_) | (with_reducible refine rd_sl2 _ _ _ _ ?_) | (with_reducible refine Rd.below ?_ hbz) | (with_reducible refine Rd.below ?_ hbD) | (with_reducible refine Rd.below ?_ hbA) | (with_reducible refine rd_drew ?_) | (with_reducible refine rd_alloc ?_ _) | (simp; done))); (first | done | fail))) (by ((repeat' (first | (with_reducible assumption) | (with_reducible refine rd_lit3 _ _ _ _ _ ?_) | (with_reducible refine rd_sl2 _ _ _ _ ?_) | (with_reducible refine Rd.below ?_ hbz) | (with_reducible refine Rd.below ?_ hbD) | (with_reducible refine Rd.below ?_ hbA) | (with_reducible refine rd_drew ?_) | (with_reducible refine rd_alloc ?_ _) | (simp; done))); (first | done | fail))) HLN.out).mono ?_); rintro e wz ⟨vz, rfl, hownz, hbz⟩; have hTz := ToksIs.from ⟨vz, rfl, hownz, hbz⟩ (show Below w0.heap.size w0 _ by go_grown))))
  all_goals exact hout.out _ _ _ _ _ _ _ _ _ _ _ hTz
end Go.Proofs.YtdeollmeljaaoaaDoor.cs

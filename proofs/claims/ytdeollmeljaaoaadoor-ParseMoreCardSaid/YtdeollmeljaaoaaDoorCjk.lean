import Derived.Test.YtdeollmeljaaoaaDoorClk
import Derived.Test.YtdeollmeljaaoaaDoorCbk
import Derived.Deep.RegionHeld3
import Derived.Deep.RegionWith
import Derived.Deep.RegionLaw
import Derived.Test.YtdeollmeljaaoaaDoorSak
import Derived.Test.YtdeollmeljaaoaaDoorAzk
import Derived.Lib.BufferMore
set_option linter.unusedVariables false
set_option linter.unusedSimpArgs false
set_option maxHeartbeats 8000000
set_option maxRecDepth 1000000
open Go.ChangeAt Go.ChangeShapes Go.RowKit Go.WideShapes
open Go.Lib (hid)
namespace Go.Proofs.YtdeollmeljaaoaaDoor.cs
def hmB (T O S : ByteArray) (n2 n3 n4 n6 n11 : Nat) (cnt dn : Bool) (lim : Int) : Bool := !(T ++ O ++ S).toList.isEmpty || decide (0 < n2 + n3 + n4 + n6 + n11) || cnt || dn || !(lim == -1)
theorem hm14 (Q : Exit → Act → World → Prop) {c0 c2 c3 c4 c5 c6 c7 c8 c9 c10 c11 c12 c13 c14 c15 c16 c17 c18 c19 c20 c21 c22 c23 c24 c25 c26 c27 c28 c29 c30 c31 c32 c33 c34 c35 c36 c37 c38 c39 c40 c41 c42 c43 c44 c45 c46 c47 c48 c49 c50 c51 c52 c53 c54 c55 c56 c57 c58 c59 c60 c61 c62 c63 c64 c65 c66 c67 c68 c69 c70 c71 c72 c73 c74 : Value} (w0 : World) (P : Nat) (k : Int) (T O S : ByteArray) (cnt dn : Bool) (lim : Int) (a2 : Option Addr) (n2 d2 : Nat) (a3 : Option Addr) (n3 d3 : Nat) (a4 : Option Addr) (n4 d4 : Nat) (a6 : Option Addr) (n6 d6 : Nat) (a11 : Option Addr) (n11 d11 : Nat) (b : Bool)
  (hblk : w0.heap[P]? = some (.cells #[.int .i64 k, .string T, .slice a2 n2 d2, .slice a3 n3 d3, .slice a4 n4 d4, .bool cnt, .slice a6 n6 d6, .string O, .bool dn, .int .i64 lim, .string S, .slice a11 n11 d11] 33 (0, 0)))
  (hT : T.size ≤ 140737488351232) (hO : O.size ≤ 140737488351232) (hS : S.size ≤ 140737488351232) (h2 : n2 ≤ 140737488351232) (h3 : n3 ≤ 140737488351232) (h4 : n4 ≤ 140737488351232) (h6 : n6 ≤ 140737488351232) (h11 : n11 ≤ 140737488351232) (hb : b = hmB T O S n2 n3 n4 n6 n11 cnt dn lim)
  (hout : Hid (∀ (u31 u32 u33 u34 u35 u36 u37 u38 u39 u40 u41 u42 u43 u44 u45 u46 u47 u48 u49 u50 u51 u52 u53 u54 u55 u56 u57 u58 u59 u60 u61 u62 u63 u64 u65 u66 u67 u68 u69 u70 u71 u72 u73 u74 : Value), Q .normal ⟨List.toArray (c0 :: (.pointer (some ⟨P, 0, none⟩)) :: (.bool b) :: c3 :: c4 :: c5 :: c6 :: c7 :: c8 :: c9 :: c10 :: c11 :: c12 :: c13 :: c14 :: c15 :: c16 :: c17 :: c18 :: c19 :: c20 :: c21 :: c22 :: c23 :: c24 :: c25 :: c26 :: c27 :: c28 :: c29 :: c30 :: u31 :: u32 :: u33 :: u34 :: u35 :: u36 :: u37 :: u38 :: u39 :: u40 :: u41 :: u42 :: u43 :: u44 :: u45 :: u46 :: u47 :: u48 :: u49 :: u50 :: u51 :: u52 :: u53 :: u54 :: u55 :: u56 :: u57 :: u58 :: u59 :: u60 :: u61 :: u62 :: u63 :: u64 :: u65 :: u66 :: u67 :: u68 :: u69 :: u70 :: u71 :: u72 :: u73 :: u74 :: []), []⟩ w0)) :
  Code.wp Tryd.prog ((regionOf 14 (Tryd.f27.body.getD .skip)).getD .skip) Q ⟨List.toArray (c0 :: (.pointer (some ⟨P, 0, none⟩)) :: c2 :: c3 :: c4 :: c5 :: c6 :: c7 :: c8 :: c9 :: c10 :: c11 :: c12 :: c13 :: c14 :: c15 :: c16 :: c17 :: c18 :: c19 :: c20 :: c21 :: c22 :: c23 :: c24 :: c25 :: c26 :: c27 :: c28 :: c29 :: c30 :: c31 :: c32 :: c33 :: c34 :: c35 :: c36 :: c37 :: c38 :: c39 :: c40 :: c41 :: c42 :: c43 :: c44 :: c45 :: c46 :: c47 :: c48 :: c49 :: c50 :: c51 :: c52 :: c53 :: c54 :: c55 :: c56 :: c57 :: c58 :: c59 :: c60 :: c61 :: c62 :: c63 :: c64 :: c65 :: c66 :: c67 :: c68 :: c69 :: c70 :: c71 :: c72 :: c73 :: c74 :: []), []⟩ w0 := by
 have c1 : w0.cell? ⟨P, 1, none⟩ = some (.string T) := by simp [World.cell?, hblk]
 have c2 : w0.cell? ⟨P, 2, none⟩ = some (.slice a2 n2 d2) := by simp [World.cell?, hblk]
 have c3 : w0.cell? ⟨P, 3, none⟩ = some (.slice a3 n3 d3) := by simp [World.cell?, hblk]
 have c4 : w0.cell? ⟨P, 4, none⟩ = some (.slice a4 n4 d4) := by simp [World.cell?, hblk]
 have c5 : w0.cell? ⟨P, 5, none⟩ = some (.bool cnt) := by simp [World.cell?, hblk]
 have c6 : w0.cell? ⟨P, 6, none⟩ = some (.slice a6 n6 d6) := by simp [World.cell?, hblk]
 have c7 : w0.cell? ⟨P, 7, none⟩ = some (.string O) := by simp [World.cell?, hblk]
 have c8 : w0.cell? ⟨P, 8, none⟩ = some (.bool dn) := by simp [World.cell?, hblk]
 have c9 : w0.cell? ⟨P, 9, none⟩ = some (.int .i64 lim) := by simp [World.cell?, hblk]
 have c10 : w0.cell? ⟨P, 10, none⟩ = some (.string S) := by simp [World.cell?, hblk]
 have c11 : w0.cell? ⟨P, 11, none⟩ = some (.slice a11 n11 d11) := by simp [World.cell?, hblk]
 have g1 : ¬ 9223372036854775807 < T.size + O.size := by omega
 have g2 : ¬ 9223372036854775807 < T.size + O.size + S.size := by omega
 have HB : Hid (b = (!(T ++ O ++ S).toList.isEmpty || decide (0 < n2 + n3 + n4 + n6 + n11) || cnt || dn || !(lim == -1))) := hb
 clear hblk hT hO hS hb
 conv => arg 2; whnf
 cases he : (T ++ O ++ S).toList.isEmpty
 ·obtain rfl : b = true := by rw [HB.out, he]; rfl
  clear HB
  go_wp2_with fail
  exact hout.out _ _ _ _ _ _ _ _ _ _ _ _ _ _ _ _ _ _ _ _ _ _ _ _ _ _ _ _ _ _ _ _ _ _ _ _ _ _ _ _ _ _ _ _
 ·by_cases hn : 0 < n2 + n3 + n4 + n6 + n11
  ·obtain rfl : b = true := by rw [HB.out, he]; simp [hn]
   clear HB
   have hn' : (0 : Int) < (n2 : Int) + (n3 : Int) + (n4 : Int) + (n6 : Int) + (n11 : Int) := by omega
   go_wp2_with fail
   exact hout.out _ _ _ _ _ _ _ _ _ _ _ _ _ _ _ _ _ _ _ _ _ _ _ _ _ _ _ _ _ _ _ _ _ _ _ _ _ _ _ _ _ _ _ _
  ·have HN : Hid (n2 = 0 ∧ n3 = 0 ∧ n4 = 0 ∧ n6 = 0 ∧ n11 = 0) := ⟨by omega, by omega, by omega, by omega, by omega⟩
   have hn' : ¬ (0 : Int) < (n2 : Int) + (n3 : Int) + (n4 : Int) + (n6 : Int) + (n11 : Int) := by omega
   have HB2 : Hid (b = (cnt || dn || !(lim == -1))) := by
    show _ = _
    rw [HB.out, he, decide_eq_false hn]
    rfl
   clear HB hn HN
   cases cnt
   ·cases dn
    ·by_cases hl : lim = -1
     ·subst hl
      obtain rfl : b = false := by rw [HB2.out]; rfl
      clear HB2
      go_wp2_with fail
      exact hout.out _ _ _ _ _ _ _ _ _ _ _ _ _ _ _ _ _ _ _ _ _ _ _ _ _ _ _ _ _ _ _ _ _ _ _ _ _ _ _ _ _ _ _ _
     ·have hl' : (lim == -1) = false := by simpa using hl
      have hl2 : (lim != -1) = true := by simpa using hl
      obtain rfl : b = true := by rw [HB2.out, hl']; rfl
      clear HB2 hl
      go_wp2_with fail
      exact hout.out _ _ _ _ _ _ _ _ _ _ _ _ _ _ _ _ _ _ _ _ _ _ _ _ _ _ _ _ _ _ _ _ _ _ _ _ _ _ _ _ _ _ _ _
    ·obtain rfl : b = true := by rw [HB2.out]; rfl
     clear HB2
     go_wp2_with fail
     exact hout.out _ _ _ _ _ _ _ _ _ _ _ _ _ _ _ _ _ _ _ _ _ _ _ _ _ _ _ _ _ _ _ _ _ _ _ _ _ _ _ _ _ _ _ _
   ·obtain rfl : b = true := by rw [HB2.out]; rfl
    clear HB2
    go_wp2_with fail
    exact hout.out _ _ _ _ _ _ _ _ _ _ _ _ _ _ _ _ _ _ _ _ _ _ _ _ _ _ _ _ _ _ _ _ _ _ _ _ _ _ _ _ _ _ _ _
theorem tz_app' (a b : ByteArray) : (a ++ b).data.toList = a.data.toList ++ b.data.toList := by simp
theorem em_app (a b : ByteArray) : (a ++ b).toList.isEmpty = (a.toList.isEmpty && b.toList.isEmpty) := by
 rw [Lib.toList_data, Lib.toList_data, Lib.toList_data, tz_app']
 cases a.data.toList <;> cases b.data.toList <;> rfl
structure SqS (s : Sq) : Prop where
 t : s.t.size ≤ 140737488351232
 o : s.ord.size ≤ 140737488351232
 e : s.st.size ≤ 140737488351232
 n2 : s.cols.length ≤ 140737488351232
 n3 : s.row.length ≤ 140737488351232
 n4 : s.names.length ≤ 140737488351232
 n6 : s.wh.length ≤ 140737488351232
 n11 : s.to.length ≤ 140737488351232
theorem hasMore_any (w : World) (s : Sq) (p : Ps) (hr : StR w s p) (hz : SqS s) (hk1 : 1 ≤ s.k) :
  Calls Tryd.prog 27 #[stV s p] w fun e w' => e = .returned (.bool (moreF s)) ∧ Below w.heap.size w w' := by
 obtain ⟨l2, l3, l4, l6, l11⟩ := hr.lens
 have m2 : p.n2 ≤ 140737488351232 := by rw [l2]; exact hz.n2
 have m3 : p.n3 ≤ 140737488351232 := by rw [l3]; exact hz.n3
 have m4 : p.n4 ≤ 140737488351232 := by rw [l4]; exact hz.n4
 have m6 : p.n6 ≤ 140737488351232 := by rw [l6]; exact hz.n6
 have m11 : p.n11 ≤ 140737488351232 := by rw [l11]; exact hz.n11
 have zt := hz.t
 have zo := hz.o
 have ze := hz.e
 have hblk := new0 w (.cells (stC s p) 33)
 have HB0 : Hid (Below w.heap.size w (w.alloc (.cells (stC s p) 33))) := (Below.refl _ _).alloc (Nat.le_refl _) _
 clear hr hz
 have z0 : (⟨#[]⟩ : ByteArray).size ≤ 140737488351232 := by show 0 ≤ _; omega
 have e0 : (⟨#[]⟩ : ByteArray).toList.isEmpty = true := by rw [Lib.toList_data]; rfl
 obtain ⟨k, t, cols, row, names, cnt, wh, ord, dn, lim, st, to⟩ := s
 obtain ⟨a2, n2, c2, a3, n3, c3, a4, n4, c4, a6, n6, c6, a11, n11, c11⟩ := p
 simp only at m2 m3 m4 m6 m11 zt zo ze hk1 l2 l3 l4 l6 l11
 have hM : moreF ⟨k, t, cols, row, names, cnt, wh, ord, dn, lim, st, to⟩ = ((decide (6 < k) && !t.toList.isEmpty) || (!(k == 1) && decide (0 < n2)) || (!(k == 3) && decide (0 < n3)) ||
   (!(k == 4) && (decide (0 < n4) || cnt || !ord.toList.isEmpty || dn || !(lim == -1))) || (!(k == 5) && (!st.toList.isEmpty || decide (0 < n11))) ||
   (!(k == 4) && !(k == 5) && !(k == 6) && decide (0 < n6))) := by
  rw [l2, l3, l4, l6, l11]
  rfl
 clear l2 l3 l4 l6 l11
 have dz : ∀ a b : Nat, decide (0 < a + b) = (decide (0 < a) || decide (0 < b)) := fun a b => by
  rw [Bool.eq_iff_iff]
  simp
  omega
 obtain ⟨M, hMM⟩ : ∃ M, M = moreF ⟨k, t, cols, row, names, cnt, wh, ord, dn, lim, st, to⟩ := ⟨_, rfl⟩
 rw [← hMM] at hM ⊢
 clear hMM
 by_cases hk1_ : k = 1
 ·subst hk1_
  have hB : M = hmB ⟨#[]⟩ ord st 0 n3 n4 n6 n11 cnt dn lim := by
   rw [hM]
   unfold hmB
   rw [em_app, em_app]
   simp only [dz, e0]
   generalize t.toList.isEmpty = x1, ord.toList.isEmpty = x2, st.toList.isEmpty = x3, (lim == -1) = x4, decide (0 < n2) = y2, decide (0 < n3) = y3, decide (0 < n4) = y4, decide (0 < n6) = y6, decide (0 < n11) = y11
   clear hM hblk HB0 m2 m3 m4 m6 m11 zt zo ze z0 e0 dz
   revert x1 x2 x3 x4 y2 y3 y4 y6 y11 cnt dn
   decide +kernel
  clear hM dz
  have HBB := hid hB
  clear hB
  clear hblk
  go_enter Tryd.func27, Tryd.ntmps27
  go_upto_region 14 with (fail)
  change Code.wp _ ((regionOf 14 (Tryd.f27.body.getD .skip)).getD .skip) _ _ _
  refine hm14 _ _ w.heap.size 1 ⟨#[]⟩ ord st cnt dn lim none 0 0 a3 n3 c3 a4 n4 c4 a6 n6 c6 a11 n11 c11 M (new0 _ _) z0 zo ze (by omega) m3 m4 m6 m11 HBB.out (hid ?_)
  intro u31 u32 u33 u34 u35 u36 u37 u38 u39 u40 u41 u42 u43 u44 u45 u46 u47 u48 u49 u50 u51 u52 u53 u54 u55 u56 u57 u58 u59 u60 u61 u62 u63 u64 u65 u66 u67 u68 u69 u70 u71 u72 u73 u74
  go_wp2_with fail
  go_ret
  refine ⟨rfl, ?_⟩
  exact (Below.refl _ _).alloc (Nat.le_refl _) _
 by_cases hk2 : k = 2
 ·subst hk2
  have hB : M = hmB ⟨#[]⟩ ord st n2 n3 n4 n6 n11 cnt dn lim := by
   rw [hM]
   unfold hmB
   rw [em_app, em_app]
   simp only [dz, e0]
   generalize t.toList.isEmpty = x1, ord.toList.isEmpty = x2, st.toList.isEmpty = x3, (lim == -1) = x4, decide (0 < n2) = y2, decide (0 < n3) = y3, decide (0 < n4) = y4, decide (0 < n6) = y6, decide (0 < n11) = y11
   clear hM hblk HB0 m2 m3 m4 m6 m11 zt zo ze z0 e0 dz
   revert x1 x2 x3 x4 y2 y3 y4 y6 y11 cnt dn
   decide +kernel
  clear hM dz
  have HBB := hid hB
  clear hB
  clear hblk
  go_enter Tryd.func27, Tryd.ntmps27
  go_upto_region 14 with (fail)
  change Code.wp _ ((regionOf 14 (Tryd.f27.body.getD .skip)).getD .skip) _ _ _
  refine hm14 _ _ w.heap.size 2 ⟨#[]⟩ ord st cnt dn lim a2 n2 c2 a3 n3 c3 a4 n4 c4 a6 n6 c6 a11 n11 c11 M (new0 _ _) z0 zo ze m2 m3 m4 m6 m11 HBB.out (hid ?_)
  intro u31 u32 u33 u34 u35 u36 u37 u38 u39 u40 u41 u42 u43 u44 u45 u46 u47 u48 u49 u50 u51 u52 u53 u54 u55 u56 u57 u58 u59 u60 u61 u62 u63 u64 u65 u66 u67 u68 u69 u70 u71 u72 u73 u74
  go_wp2_with fail
  go_ret
  refine ⟨rfl, ?_⟩
  exact (Below.refl _ _).alloc (Nat.le_refl _) _
 by_cases hk3 : k = 3
 ·subst hk3
  have hB : M = hmB ⟨#[]⟩ ord st n2 0 n4 n6 n11 cnt dn lim := by
   rw [hM]
   unfold hmB
   rw [em_app, em_app]
   simp only [dz, e0]
   generalize t.toList.isEmpty = x1, ord.toList.isEmpty = x2, st.toList.isEmpty = x3, (lim == -1) = x4, decide (0 < n2) = y2, decide (0 < n3) = y3, decide (0 < n4) = y4, decide (0 < n6) = y6, decide (0 < n11) = y11
   clear hM hblk HB0 m2 m3 m4 m6 m11 zt zo ze z0 e0 dz
   revert x1 x2 x3 x4 y2 y3 y4 y6 y11 cnt dn
   decide +kernel
  clear hM dz
  have HBB := hid hB
  clear hB
  clear hblk
  go_enter Tryd.func27, Tryd.ntmps27
  go_upto_region 14 with (fail)
  change Code.wp _ ((regionOf 14 (Tryd.f27.body.getD .skip)).getD .skip) _ _ _
  refine hm14 _ _ w.heap.size 3 ⟨#[]⟩ ord st cnt dn lim a2 n2 c2 none 0 0 a4 n4 c4 a6 n6 c6 a11 n11 c11 M (new0 _ _) z0 zo ze m2 (by omega) m4 m6 m11 HBB.out (hid ?_)
  intro u31 u32 u33 u34 u35 u36 u37 u38 u39 u40 u41 u42 u43 u44 u45 u46 u47 u48 u49 u50 u51 u52 u53 u54 u55 u56 u57 u58 u59 u60 u61 u62 u63 u64 u65 u66 u67 u68 u69 u70 u71 u72 u73 u74
  go_wp2_with fail
  go_ret
  refine ⟨rfl, ?_⟩
  exact (Below.refl _ _).alloc (Nat.le_refl _) _
 by_cases hk4 : k = 4
 ·subst hk4
  have hB : M = hmB ⟨#[]⟩ ⟨#[]⟩ st n2 n3 0 0 n11 false false (-1) := by
   rw [hM]
   unfold hmB
   rw [em_app, em_app]
   simp only [dz, e0]
   generalize t.toList.isEmpty = x1, ord.toList.isEmpty = x2, st.toList.isEmpty = x3, (lim == -1) = x4, decide (0 < n2) = y2, decide (0 < n3) = y3, decide (0 < n4) = y4, decide (0 < n6) = y6, decide (0 < n11) = y11
   clear hM hblk HB0 m2 m3 m4 m6 m11 zt zo ze z0 e0 dz
   revert x1 x2 x3 x4 y2 y3 y4 y6 y11 cnt dn
   decide +kernel
  clear hM dz
  have HBB := hid hB
  clear hB
  clear hblk
  go_enter Tryd.func27, Tryd.ntmps27
  go_upto_region 14 with (fail)
  change Code.wp _ ((regionOf 14 (Tryd.f27.body.getD .skip)).getD .skip) _ _ _
  refine hm14 _ _ w.heap.size 4 ⟨#[]⟩ ⟨#[]⟩ st false false (-1) a2 n2 c2 a3 n3 c3 none 0 0 none 0 0 a11 n11 c11 M (new0 _ _) z0 z0 ze m2 m3 (by omega) (by omega) m11 HBB.out (hid ?_)
  intro u31 u32 u33 u34 u35 u36 u37 u38 u39 u40 u41 u42 u43 u44 u45 u46 u47 u48 u49 u50 u51 u52 u53 u54 u55 u56 u57 u58 u59 u60 u61 u62 u63 u64 u65 u66 u67 u68 u69 u70 u71 u72 u73 u74
  go_wp2_with fail
  go_ret
  refine ⟨rfl, ?_⟩
  exact (Below.refl _ _).alloc (Nat.le_refl _) _
 by_cases hk5 : k = 5
 ·subst hk5
  have hB : M = hmB ⟨#[]⟩ ord ⟨#[]⟩ n2 n3 n4 0 0 cnt dn lim := by
   rw [hM]
   unfold hmB
   rw [em_app, em_app]
   simp only [dz, e0]
   generalize t.toList.isEmpty = x1, ord.toList.isEmpty = x2, st.toList.isEmpty = x3, (lim == -1) = x4, decide (0 < n2) = y2, decide (0 < n3) = y3, decide (0 < n4) = y4, decide (0 < n6) = y6, decide (0 < n11) = y11
   clear hM hblk HB0 m2 m3 m4 m6 m11 zt zo ze z0 e0 dz
   revert x1 x2 x3 x4 y2 y3 y4 y6 y11 cnt dn
   decide +kernel
  clear hM dz
  have HBB := hid hB
  clear hB
  clear hblk
  go_enter Tryd.func27, Tryd.ntmps27
  go_upto_region 14 with (fail)
  change Code.wp _ ((regionOf 14 (Tryd.f27.body.getD .skip)).getD .skip) _ _ _
  refine hm14 _ _ w.heap.size 5 ⟨#[]⟩ ord ⟨#[]⟩ cnt dn lim a2 n2 c2 a3 n3 c3 a4 n4 c4 none 0 0 none 0 0 M (new0 _ _) z0 zo z0 m2 m3 m4 (by omega) (by omega) HBB.out (hid ?_)
  intro u31 u32 u33 u34 u35 u36 u37 u38 u39 u40 u41 u42 u43 u44 u45 u46 u47 u48 u49 u50 u51 u52 u53 u54 u55 u56 u57 u58 u59 u60 u61 u62 u63 u64 u65 u66 u67 u68 u69 u70 u71 u72 u73 u74
  go_wp2_with fail
  go_ret
  refine ⟨rfl, ?_⟩
  exact (Below.refl _ _).alloc (Nat.le_refl _) _
 by_cases hk6 : k = 6
 ·subst hk6
  have hB : M = hmB ⟨#[]⟩ ord st n2 n3 n4 0 n11 cnt dn lim := by
   rw [hM]
   unfold hmB
   rw [em_app, em_app]
   simp only [dz, e0]
   generalize t.toList.isEmpty = x1, ord.toList.isEmpty = x2, st.toList.isEmpty = x3, (lim == -1) = x4, decide (0 < n2) = y2, decide (0 < n3) = y3, decide (0 < n4) = y4, decide (0 < n6) = y6, decide (0 < n11) = y11
   clear hM hblk HB0 m2 m3 m4 m6 m11 zt zo ze z0 e0 dz
   revert x1 x2 x3 x4 y2 y3 y4 y6 y11 cnt dn
   decide +kernel
  clear hM dz
  have HBB := hid hB
  clear hB
  clear hblk
  go_enter Tryd.func27, Tryd.ntmps27
  go_upto_region 14 with (fail)
  change Code.wp _ ((regionOf 14 (Tryd.f27.body.getD .skip)).getD .skip) _ _ _
  refine hm14 _ _ w.heap.size 6 ⟨#[]⟩ ord st cnt dn lim a2 n2 c2 a3 n3 c3 a4 n4 c4 none 0 0 a11 n11 c11 M (new0 _ _) z0 zo ze m2 m3 m4 (by omega) m11 HBB.out (hid ?_)
  intro u31 u32 u33 u34 u35 u36 u37 u38 u39 u40 u41 u42 u43 u44 u45 u46 u47 u48 u49 u50 u51 u52 u53 u54 u55 u56 u57 u58 u59 u60 u61 u62 u63 u64 u65 u66 u67 u68 u69 u70 u71 u72 u73 u74
  go_wp2_with fail
  go_ret
  refine ⟨rfl, ?_⟩
  exact (Below.refl _ _).alloc (Nat.le_refl _) _
 ·have hk7 : 6 < k := by omega
  have e1 : (k == 1) = false := by simpa using hk1_
  have e3 : (k == 3) = false := by simpa using hk3
  have e4 : (k == 4) = false := by simpa using hk4
  have e5 : (k == 5) = false := by simpa using hk5
  have e6 : (k == 6) = false := by simpa using hk6
  have hB : M = hmB t ord st n2 n3 n4 n6 n11 cnt dn lim := by
   rw [hM]
   unfold hmB
   rw [em_app, em_app]
   simp only [dz]
   rw [decide_eq_true hk7, e1, e3, e4, e5, e6]
   generalize t.toList.isEmpty = x1, ord.toList.isEmpty = x2, st.toList.isEmpty = x3, (lim == -1) = x4, decide (0 < n2) = y2, decide (0 < n3) = y3, decide (0 < n4) = y4, decide (0 < n6) = y6, decide (0 < n11) = y11
   clear hM hblk HB0 m2 m3 m4 m6 m11 zt zo ze z0 e0 dz
   revert x1 x2 x3 x4 y2 y3 y4 y6 y11 cnt dn
   decide +kernel
  clear hM dz
  have HBB := hid hB
  clear hB
  clear hblk
  go_enter Tryd.func27, Tryd.ntmps27
  go_upto_region 14 with (fail)
  change Code.wp _ ((regionOf 14 (Tryd.f27.body.getD .skip)).getD .skip) _ _ _
  refine hm14 _ _ w.heap.size k t ord st cnt dn lim a2 n2 c2 a3 n3 c3 a4 n4 c4 a6 n6 c6 a11 n11 c11 M (new0 _ _) zt zo ze m2 m3 m4 m6 m11 HBB.out (hid ?_)
  intro u31 u32 u33 u34 u35 u36 u37 u38 u39 u40 u41 u42 u43 u44 u45 u46 u47 u48 u49 u50 u51 u52 u53 u54 u55 u56 u57 u58 u59 u60 u61 u62 u63 u64 u65 u66 u67 u68 u69 u70 u71 u72 u73 u74
  go_wp2_with fail
  go_ret
  refine ⟨rfl, ?_⟩
  exact (Below.refl _ _).alloc (Nat.le_refl _) _
theorem show7 (Q : Exit → Act → World → Prop) {c0 c2 c3 c4 c5 c6 c7 c8 c9 c10 c11 c12 c13 c14 c15 c16 c17 c18 c19 c20 c21 c22 c23 c24 c25 c26 c27 c28 c29 c30 c31 c32 c33 c34 c35 c36 c37 c38 c39 c40 c41 c42 c43 c44 c45 c46 c47 c48 c49 c50 c51 c52 c53 c54 c55 c56 c57 c58 c59 c60 c61 c62 c63 c64 c65 c66 c67 c68 c69 c70 c71 c72 c73 c74 c75 c76 c77 : Value} (w0 : World) (P : Nat) (hP : P < w0.heap.size) (t : ByteArray) (a3 : Option Addr) (n3 d3 : Nat) (L : List Tk)
  (p0 : w0.cell? ⟨P, 1, none⟩ = some (.string t))
  (p1 : w0.cell? ⟨P, 3, none⟩ = some (.slice a3 n3 d3))
  (HPA : Hid (∀ W B, Below w0.heap.size w0 W → Rd W 1 5 (.slice (some ⟨B, 0, none⟩) 5 5) ([sINSERT, sINTO, t, sVALUES, sOpen].map Value.string) → Calls Tryd.prog 34 #[.slice (some ⟨B, 0, none⟩) 5 5] W (ToksIs [ptk sINSERT, ptk sINTO, ptk t, ptk sVALUES, ptk sOpen] W)))
  (HPB : Hid (∀ W B, Below w0.heap.size w0 W → Rd W 1 1 (.slice (some ⟨B, 0, none⟩) 1 1) ([sClose].map Value.string) → Calls Tryd.prog 34 #[.slice (some ⟨B, 0, none⟩) 1 1] W (ToksIs [ptk sClose] W)))
  (HCC : Hid (∀ W, Below w0.heap.size w0 W → Calls Tryd.prog 37 #[.slice a3 n3 d3, .func (.func 38) #[] #[]] W (ToksIs L W)))
  (HLN : Hid ([ptk sINSERT, ptk sINTO, ptk t, ptk sVALUES, ptk sOpen].length + (L.length + ([ptk sClose].length)) ≤ 1000000))
  (hout : Hid (∀ (u26 u27 u28 u29 u30 u31 u32 u33 u34 u35 u36 : Value) (vout : Value) (w' : World), ToksIs ([ptk sINSERT, ptk sINTO, ptk t, ptk sVALUES, ptk sOpen] ++ (L ++ [ptk sClose])) w0 (.returned vout) w' → Q .normal ⟨List.toArray (c0 :: (.pointer (some ⟨P, 0, none⟩)) :: vout :: c3 :: c4 :: c5 :: c6 :: c7 :: c8 :: c9 :: c10 :: c11 :: c12 :: c13 :: c14 :: c15 :: c16 :: c17 :: c18 :: c19 :: c20 :: c21 :: c22 :: c23 :: c24 :: c25 :: u26 :: u27 :: u28 :: u29 :: u30 :: u31 :: u32 :: u33 :: u34 :: u35 :: u36 :: c37 :: c38 :: c39 :: c40 :: c41 :: c42 :: c43 :: c44 :: c45 :: c46 :: c47 :: c48 :: c49 :: c50 :: c51 :: c52 :: c53 :: c54 :: c55 :: c56 :: c57 :: c58 :: c59 :: c60 :: c61 :: c62 :: c63 :: c64 :: c65 :: c66 :: c67 :: c68 :: c69 :: c70 :: c71 :: c72 :: c73 :: c74 :: c75 :: c76 :: c77 :: []), []⟩ w')) :
  Code.wp Tryd.prog ((regionOf 7 (Tryd.f24.body.getD .skip)).getD .skip) Q ⟨List.toArray (c0 :: (.pointer (some ⟨P, 0, none⟩)) :: c2 :: c3 :: c4 :: c5 :: c6 :: c7 :: c8 :: c9 :: c10 :: c11 :: c12 :: c13 :: c14 :: c15 :: c16 :: c17 :: c18 :: c19 :: c20 :: c21 :: c22 :: c23 :: c24 :: c25 :: c26 :: c27 :: c28 :: c29 :: c30 :: c31 :: c32 :: c33 :: c34 :: c35 :: c36 :: c37 :: c38 :: c39 :: c40 :: c41 :: c42 :: c43 :: c44 :: c45 :: c46 :: c47 :: c48 :: c49 :: c50 :: c51 :: c52 :: c53 :: c54 :: c55 :: c56 :: c57 :: c58 :: c59 :: c60 :: c61 :: c62 :: c63 :: c64 :: c65 :: c66 :: c67 :: c68 :: c69 :: c70 :: c71 :: c72 :: c73 :: c74 :: c75 :: c76 :: c77 :: []), []⟩ w0 := by
 refine Code.wp_mono (Q := NQ Q) nq_to ?_
 conv => arg 2; whnf
 have hB0 : Below w0.heap.size w0 w0 := Below.refl _ _
 go_region_held3 (fun wx => wx.cell? ⟨P, 1, none⟩ = some (.string t) ∧ wx.cell? ⟨P, 3, none⟩ = some (.slice a3 n3 d3))
  ((refine ⟨?_, ?_⟩ <;> (repeat' (first | (with_reducible assumption) | (with_reducible refine cell_dr ?_) | (with_reducible refine cell_al _ ?_) | (with_reducible refine cell_of_below hbz ?_) | (with_reducible refine cell_of_below hbC ?_) | (with_reducible refine cell_of_below hbB ?_) | (with_reducible refine cell_of_below hbA ?_)))))
  ((first
   | (go_at_call 34; (with_reducible refine (HPA.out _ _ (by go_grown) (by ((repeat' (first | (with_reducible assumption) | (with_reducible refine rd_lit1 _ _ _ ?_) | (with_reducible refine rd_lit5 _ _ _ _ _ _ _ ?_) | (with_reducible refine rd_sl3 _ _ _ _ _ ?_) | (with_reducible refine Rd.below ?_ hbz) | (with_reducible refine Rd.below ?_ hbC) | (with_reducible refine Rd.below ?_ hbB) | (with_reducible refine Rd.below ?_ hbA) | (with_reducible refine rd_drew ?_) | (with_reducible refine rd_alloc ?_ _) | (simp; done))); (first | done | fail)))).mono ?_); rintro e wA ⟨vA, rfl, hownA, hbA⟩; obtain ⟨aA, qA, rfl⟩ := own_shape hownA; have rA : Rd wA 3 5 (.slice aA 5 qA) (tkc [ptk sINSERT, ptk sINTO, ptk t, ptk sVALUES, ptk sOpen]) := Rd.own hownA; have hBA : Below w0.heap.size w0 wA := into (by go_grown) hbA; have hzA := hBA.size)
   | (go_at_call 34; (with_reducible refine (HPB.out _ _ (by go_grown) (by ((repeat' (first | (with_reducible assumption) | (with_reducible refine rd_lit1 _ _ _ ?_) | (with_reducible refine rd_lit5 _ _ _ _ _ _ _ ?_) | (with_reducible refine rd_sl3 _ _ _ _ _ ?_) | (with_reducible refine Rd.below ?_ hbz) | (with_reducible refine Rd.below ?_ hbC) | (with_reducible refine Rd.below ?_ hbB) | (with_reducible refine Rd.below ?_ hbA) | (with_reducible refine rd_drew ?_) | (with_reducible refine rd_alloc ?_ _) | (simp; done))); (first | done | fail)))).mono ?_); rintro e wB ⟨vB, rfl, hownB, hbB⟩; obtain ⟨aB, qB, rfl⟩ := own_shape hownB; have rB : Rd wB 3 1 (.slice aB 1 qB) (tkc [ptk sClose]) := Rd.own hownB; have hBB : Below w0.heap.size w0 wB := into (by go_grown) hbB; have hzB := hBB.size)
   | (go_at_call 37; (with_reducible refine (HCC.out _ (by go_grown)).mono ?_); rintro e wC ⟨vC, rfl, hownC, hbC⟩; obtain ⟨aC, qC, rfl⟩ := own_shape hownC; have rC := Rd.own hownC; have hBC : Below w0.heap.size w0 wC := into (by go_grown) hbC; have hzC := hBC.size)
   | (go_at_call 33; (with_reducible refine (concat3 _ _ _ _ _ [ptk sINSERT, ptk sINTO, ptk t, ptk sVALUES, ptk sOpen] L [ptk sClose] (5) (L.length) (1) (by ((repeat' (first | (with_reducible assumption) | (with_reducible refine rd_lit1 _ _ _ ?_) | (with_reducible refine rd_lit5 _ _ _ _ _ _ _ ?_) | (with_reducible refine rd_sl3 _ _ _ _ _ ?_) | (with_reducible refine Rd.below ?_ hbz) | (with_reducible refine Rd.below ?_ hbC) | (with_reducible refine Rd.below ?_ hbB) | (with_reducible refine Rd.below ?_ hbA) | (with_reducible refine rd_drew ?_) | (with_reducible refine rd_alloc ?_ _) | (simp; done))); (first | done | fail))) (by ((repeat' (first | (with_reducible assumption) | (with_reducible refine rd_lit1 _ _ _ ?_) | (with_reducible refine rd_lit5 _ _ _ _ _ _ _ ?_) | (with_reducible refine rd_sl3 _ _ _ _ _ ?_) | (with_reducible refine Rd.below ?_ hbz) | (with_reducible refine Rd.below ?_ hbC) | (with_reducible refine Rd.below ?_ hbB) | (with_reducible refine Rd.below ?_ hbA) | (with_reducible refine rd_drew ?_) | (with_reducible refine rd_alloc ?_ _) | (simp; done))); (first | done | fail))) (by ((repeat' (first | (with_reducible assumption) | (with_reducible refine rd_lit1 _ _ _ ?_) | (with_reducible refine rd_lit5 _ _ _ _ _ _ _ ?_) | (with_reducible refine rd_sl3 _ _ _ _ _ ?_) | (with_reducible refine Rd.below ?_ hbz) | (with_reducible refine Rd.below ?_ hbC) | (with_reducible refine Rd.below ?_ hbB) | (with_reducible refine Rd.below ?_ hbA) | (with_reducible refine rd_drew ?_) | (with_reducible refine rd_alloc ?_ _) | (simp; done))); (first | done | fail))) (by ((repeat' (first | (with_reducible assumption) | (with_reducible refine rd_lit1 _ _ _ ?_) | (with_reducible refine rd_lit5 _ _ _ _ _ _ _ ?_) | (with_reducible refine rd_sl3 _ _ _ _ _ ?_) | (with_reducible refine Rd.below ?_ hbz) | (with_reducible refine Rd.below ?_ hbC) | (with_reducible refine Rd.below ?_ hbB) | (with_reducible refine Rd.below ?_ hbA) | (with_reducible refine rd_drew ?_) | (with_reducible refine rd_alloc ?_ _) | (simp; done))); (first | done | fail))) HLN.out).mono ?_); rintro e wz ⟨vz, rfl, hownz, hbz⟩; have hTz := ToksIs.from ⟨vz, rfl, hownz, hbz⟩ (show Below w0.heap.size w0 _ by go_grown))))
 all_goals exact hout.out _ _ _ _ _ _ _ _ _ _ _ _ _ hTz
theorem show11 (Q : Exit → Act → World → Prop) {c0 c2 c3 c4 c5 c6 c7 c8 c9 c10 c11 c12 c13 c14 c15 c16 c17 c18 c19 c20 c21 c22 c23 c24 c25 c26 c27 c28 c29 c30 c31 c32 c33 c34 c35 c36 c37 c38 c39 c40 c41 c42 c43 c44 c45 c46 c47 c48 c49 c50 c51 c52 c53 c54 c55 c56 c57 c58 c59 c60 c61 c62 c63 c64 c65 c66 c67 c68 c69 c70 c71 c72 c73 c74 c75 c76 c77 : Value} (w0 : World) (P : Nat) (hP : P < w0.heap.size) (t s : ByteArray) (a11 : Option Addr) (n11 d11 : Nat) (a6 : Option Addr) (n6 d6 : Nat) (L M : List Tk)
  (p0 : w0.cell? ⟨P, 1, none⟩ = some (.string t))
  (p1 : w0.cell? ⟨P, 10, none⟩ = some (.string s))
  (p2 : w0.cell? ⟨P, 11, none⟩ = some (.slice a11 n11 d11))
  (p3 : w0.cell? ⟨P, 6, none⟩ = some (.slice a6 n6 d6))
  (HPA : Hid (∀ W B, Below w0.heap.size w0 W → Rd W 1 5 (.slice (some ⟨B, 0, none⟩) 5 5) ([sUPDATE, t, sSET, s, sEq].map Value.string) → Calls Tryd.prog 34 #[.slice (some ⟨B, 0, none⟩) 5 5] W (ToksIs [ptk sUPDATE, ptk t, ptk sSET, ptk s, ptk sEq] W)))
  (HCC : Hid (∀ W, Below w0.heap.size w0 W → Calls Tryd.prog 40 #[.slice a11 n11 d11] W (ToksIs L W)))
  (HCD : Hid (∀ W, Below w0.heap.size w0 W → Calls Tryd.prog 41 #[.slice a6 n6 d6] W (ToksIs M W)))
  (HLN : Hid ([ptk sUPDATE, ptk t, ptk sSET, ptk s, ptk sEq].length + (L.length + (M.length)) ≤ 1000000))
  (hout : Hid (∀ (u43 u44 u45 u46 u47 u48 u49 u50 u51 u52 u53 u54 u55 u56 : Value) (vout : Value) (w' : World), ToksIs ([ptk sUPDATE, ptk t, ptk sSET, ptk s, ptk sEq] ++ (L ++ M)) w0 (.returned vout) w' → Q .normal ⟨List.toArray (c0 :: (.pointer (some ⟨P, 0, none⟩)) :: vout :: c3 :: c4 :: c5 :: c6 :: c7 :: c8 :: c9 :: c10 :: c11 :: c12 :: c13 :: c14 :: c15 :: c16 :: c17 :: c18 :: c19 :: c20 :: c21 :: c22 :: c23 :: c24 :: c25 :: c26 :: c27 :: c28 :: c29 :: c30 :: c31 :: c32 :: c33 :: c34 :: c35 :: c36 :: c37 :: c38 :: c39 :: c40 :: c41 :: c42 :: u43 :: u44 :: u45 :: u46 :: u47 :: u48 :: u49 :: u50 :: u51 :: u52 :: u53 :: u54 :: u55 :: u56 :: c57 :: c58 :: c59 :: c60 :: c61 :: c62 :: c63 :: c64 :: c65 :: c66 :: c67 :: c68 :: c69 :: c70 :: c71 :: c72 :: c73 :: c74 :: c75 :: c76 :: c77 :: []), []⟩ w')) :
  Code.wp Tryd.prog ((regionOf 11 (Tryd.f24.body.getD .skip)).getD .skip) Q ⟨List.toArray (c0 :: (.pointer (some ⟨P, 0, none⟩)) :: c2 :: c3 :: c4 :: c5 :: c6 :: c7 :: c8 :: c9 :: c10 :: c11 :: c12 :: c13 :: c14 :: c15 :: c16 :: c17 :: c18 :: c19 :: c20 :: c21 :: c22 :: c23 :: c24 :: c25 :: c26 :: c27 :: c28 :: c29 :: c30 :: c31 :: c32 :: c33 :: c34 :: c35 :: c36 :: c37 :: c38 :: c39 :: c40 :: c41 :: c42 :: c43 :: c44 :: c45 :: c46 :: c47 :: c48 :: c49 :: c50 :: c51 :: c52 :: c53 :: c54 :: c55 :: c56 :: c57 :: c58 :: c59 :: c60 :: c61 :: c62 :: c63 :: c64 :: c65 :: c66 :: c67 :: c68 :: c69 :: c70 :: c71 :: c72 :: c73 :: c74 :: c75 :: c76 :: c77 :: []), []⟩ w0 := by
 refine Code.wp_mono (Q := NQ Q) nq_to ?_
 conv => arg 2; whnf
 have hB0 : Below w0.heap.size w0 w0 := Below.refl _ _
 go_region_held3 (fun wx => wx.cell? ⟨P, 1, none⟩ = some (.string t) ∧ wx.cell? ⟨P, 10, none⟩ = some (.string s) ∧ wx.cell? ⟨P, 11, none⟩ = some (.slice a11 n11 d11) ∧ wx.cell? ⟨P, 6, none⟩ = some (.slice a6 n6 d6))
  ((refine ⟨?_, ?_, ?_, ?_⟩ <;> (repeat' (first | (with_reducible assumption) | (with_reducible refine cell_dr ?_) | (with_reducible refine cell_al _ ?_) | (with_reducible refine cell_of_below hbz ?_) | (with_reducible refine cell_of_below hbD ?_) | (with_reducible refine cell_of_below hbC ?_) | (with_reducible refine cell_of_below hbA ?_)))))
  ((first
   | (go_at_call 34; (with_reducible refine (HPA.out _ _ (by go_grown) (by ((repeat' (first | (with_reducible assumption) | (with_reducible refine rd_lit5 _ _ _ _ _ _ _ ?_) | (with_reducible refine rd_sl3 _ _ _ _ _ ?_) | (with_reducible refine Rd.below ?_ hbz) | (with_reducible refine Rd.below ?_ hbD) | (with_reducible refine Rd.below ?_ hbC) | (with_reducible refine Rd.below ?_ hbA) | (with_reducible refine rd_drew ?_) | (with_reducible refine rd_alloc ?_ _) | (simp; done))); (first | done | fail)))).mono ?_); rintro e wA ⟨vA, rfl, hownA, hbA⟩; obtain ⟨aA, qA, rfl⟩ := own_shape hownA; have rA : Rd wA 3 5 (.slice aA 5 qA) (tkc [ptk sUPDATE, ptk t, ptk sSET, ptk s, ptk sEq]) := Rd.own hownA; have hBA : Below w0.heap.size w0 wA := into (by go_grown) hbA; have hzA := hBA.size)
   | (go_at_call 40; (with_reducible refine (HCC.out _ (by go_grown)).mono ?_); rintro e wC ⟨vC, rfl, hownC, hbC⟩; obtain ⟨aC, qC, rfl⟩ := own_shape hownC; have rC := Rd.own hownC; have hBC : Below w0.heap.size w0 wC := into (by go_grown) hbC; have hzC := hBC.size)
   | (go_at_call 41; (with_reducible refine (HCD.out _ (by go_grown)).mono ?_); rintro e wD ⟨vD, rfl, hownD, hbD⟩; obtain ⟨aD, qD, rfl⟩ := own_shape hownD; have rD := Rd.own hownD; have hBD : Below w0.heap.size w0 wD := into (by go_grown) hbD; have hzD := hBD.size)
   | (go_at_call 33; (with_reducible refine (concat3 _ _ _ _ _ [ptk sUPDATE, ptk t, ptk sSET, ptk s, ptk sEq] L M (5) (L.length) (M.length) (by ((repeat' (first | (with_reducible assumption) | (with_reducible refine rd_lit5 _ _ _ _ _ _ _ ?_) | (with_reducible refine rd_sl3 _ _ _ _ _ ?_) | (with_reducible refine Rd.below ?_ hbz) | (with_reducible refine Rd.below ?_ hbD) | (with_reducible refine Rd.below ?_ hbC) | (with_reducible refine Rd.below ?_ hbA) | (with_reducible refine rd_drew ?_) | (with_reducible refine rd_alloc ?_ _) | (simp; done))); (first | done | fail))) (by ((repeat' (first | (with_reducible assumption) | (with_reducible refine rd_lit5 _ _ _ _ _ _ _ ?_) | (with_reducible refine rd_sl3 _ _ _ _ _ ?_) | (with_reducible refine Rd.below ?_ hbz) | (with_reducible refine Rd.below ?_ hbD) | (with_reducible refine Rd.below ?_ hbC) | (with_reducible refine Rd.below ?_ hbA) | (with_reducible refine rd_drew ?_) | (with_reducible refine rd_alloc ?_ _) | (simp; done))); (first | done | fail))) (by ((repeat' (first | (with_reducible assumption) | (with_reducible refine rd_lit5 _ _ _ _ _ _ _ ?_) | (with_reducible refine rd_sl3 _ _ _ _ _ ?_) | (with_reducible refine Rd.below ?_ hbz) | (with_reducible refine Rd.below ?_ hbD) | (with_reducible refine Rd.below ?_ hbC) | (with_reducible refine Rd.below ?_ hbA) | (with_reducible refine rd_drew ?_) | (with_reducible refine rd_alloc ?_ _) | (simp; done))); (first | done | fail))) (by ((repeat' (first | (with_reducible assumption) | (with_reducible refine rd_lit5 _ _ _ _ _ _ _ ?_) | (with_reducible refine rd_sl3 _ _ _ _ _ ?_) | (with_reducible refine Rd.below ?_ hbz) | (with_reducible refine Rd.below ?_ hbD) | (with_reducible refine Rd.below ?_ hbC) | (with_reducible refine Rd.below ?_ hbA) | (with_reducible refine rd_drew ?_) | (with_reducible refine rd_alloc ?_ _) | (simp; done))); (first | done | fail))) HLN.out).mono ?_); rintro e wz ⟨vz, rfl, hownz, hbz⟩; have hTz := ToksIs.from ⟨vz, rfl, hownz, hbz⟩ (show Below w0.heap.size w0 _ by go_grown))))
 all_goals exact hout.out _ _ _ _ _ _ _ _ _ _ _ _ _ _ _ _ hTz
theorem show13 (Q : Exit → Act → World → Prop) {c0 c2 c3 c4 c5 c6 c7 c8 c9 c10 c11 c12 c13 c14 c15 c16 c17 c18 c19 c20 c21 c22 c23 c24 c25 c26 c27 c28 c29 c30 c31 c32 c33 c34 c35 c36 c37 c38 c39 c40 c41 c42 c43 c44 c45 c46 c47 c48 c49 c50 c51 c52 c53 c54 c55 c56 c57 c58 c59 c60 c61 c62 c63 c64 c65 c66 c67 c68 c69 c70 c71 c72 c73 c74 c75 c76 c77 : Value} (w0 : World) (P : Nat) (hP : P < w0.heap.size) (t : ByteArray) (a6 : Option Addr) (n6 d6 : Nat) (M : List Tk)
  (p0 : w0.cell? ⟨P, 1, none⟩ = some (.string t))
  (p1 : w0.cell? ⟨P, 6, none⟩ = some (.slice a6 n6 d6))
  (HPA : Hid (∀ W B, Below w0.heap.size w0 W → Rd W 1 3 (.slice (some ⟨B, 0, none⟩) 3 3) ([sDELETE, sFROM, t].map Value.string) → Calls Tryd.prog 34 #[.slice (some ⟨B, 0, none⟩) 3 3] W (ToksIs [ptk sDELETE, ptk sFROM, ptk t] W)))
  (HCD : Hid (∀ W, Below w0.heap.size w0 W → Calls Tryd.prog 41 #[.slice a6 n6 d6] W (ToksIs M W)))
  (HLN : Hid ([ptk sDELETE, ptk sFROM, ptk t].length + (M.length) ≤ 1000000))
  (hout : Hid (∀ (u59 u60 u61 u62 u63 u64 u65 u66 u67 : Value) (vout : Value) (w' : World), ToksIs ([ptk sDELETE, ptk sFROM, ptk t] ++ M) w0 (.returned vout) w' → Q .normal ⟨List.toArray (c0 :: (.pointer (some ⟨P, 0, none⟩)) :: vout :: c3 :: c4 :: c5 :: c6 :: c7 :: c8 :: c9 :: c10 :: c11 :: c12 :: c13 :: c14 :: c15 :: c16 :: c17 :: c18 :: c19 :: c20 :: c21 :: c22 :: c23 :: c24 :: c25 :: c26 :: c27 :: c28 :: c29 :: c30 :: c31 :: c32 :: c33 :: c34 :: c35 :: c36 :: c37 :: c38 :: c39 :: c40 :: c41 :: c42 :: c43 :: c44 :: c45 :: c46 :: c47 :: c48 :: c49 :: c50 :: c51 :: c52 :: c53 :: c54 :: c55 :: c56 :: c57 :: c58 :: u59 :: u60 :: u61 :: u62 :: u63 :: u64 :: u65 :: u66 :: u67 :: c68 :: c69 :: c70 :: c71 :: c72 :: c73 :: c74 :: c75 :: c76 :: c77 :: []), []⟩ w')) :
  Code.wp Tryd.prog ((regionOf 13 (Tryd.f24.body.getD .skip)).getD .skip) Q ⟨List.toArray (c0 :: (.pointer (some ⟨P, 0, none⟩)) :: c2 :: c3 :: c4 :: c5 :: c6 :: c7 :: c8 :: c9 :: c10 :: c11 :: c12 :: c13 :: c14 :: c15 :: c16 :: c17 :: c18 :: c19 :: c20 :: c21 :: c22 :: c23 :: c24 :: c25 :: c26 :: c27 :: c28 :: c29 :: c30 :: c31 :: c32 :: c33 :: c34 :: c35 :: c36 :: c37 :: c38 :: c39 :: c40 :: c41 :: c42 :: c43 :: c44 :: c45 :: c46 :: c47 :: c48 :: c49 :: c50 :: c51 :: c52 :: c53 :: c54 :: c55 :: c56 :: c57 :: c58 :: c59 :: c60 :: c61 :: c62 :: c63 :: c64 :: c65 :: c66 :: c67 :: c68 :: c69 :: c70 :: c71 :: c72 :: c73 :: c74 :: c75 :: c76 :: c77 :: []), []⟩ w0 := by
 refine Code.wp_mono (Q := NQ Q) nq_to ?_
 conv => arg 2; whnf
 have hB0 : Below w0.heap.size w0 w0 := Below.refl _ _
 go_region_held3 (fun wx => wx.cell? ⟨P, 1, none⟩ = some (.string t) ∧ wx.cell? ⟨P, 6, none⟩ = some (.slice a6 n6 d6))
  ((refine ⟨?_, ?_⟩ <;> (repeat' (first | (with_reducible assumption) | (with_reducible refine cell_dr ?_) | (with_reducible refine cell_al _ ?_) | (with_reducible refine cell_of_below hbz ?_) | (with_reducible refine cell_of_below hbD ?_) | (with_reducible refine cell_of_below hbA ?_)))))
  ((first
   | (go_at_call 34; (with_reducible refine (HPA.out _ _ (by go_grown) (by ((repeat' (first | (with_reducible assumption) | (with_reducible refine rd_lit3 _ _ _ _ _ ?_) | (with_reducible refine rd_sl2 _ _ _ _ ?_) | (with_reducible refine Rd.below ?_ hbz) | (with_reducible refine Rd.below ?_ hbD) | (with_reducible refine Rd.below ?_ hbA) | (with_reducible refine rd_drew ?_) | (with_reducible refine rd_alloc ?_ _) | (simp; done))); (first | done | fail)))).mono ?_); rintro e wA ⟨vA, rfl, hownA, hbA⟩; obtain ⟨aA, qA, rfl⟩ := own_shape hownA; have rA : Rd wA 3 3 (.slice aA 3 qA) (tkc [ptk sDELETE, ptk sFROM, ptk t]) := Rd.own hownA; have hBA : Below w0.heap.size w0 wA := into (by go_grown) hbA; have hzA := hBA.size)
   | (go_at_call 41; (with_reducible refine (HCD.out _ (by go_grown)).mono ?_); rintro e wD ⟨vD, rfl, hownD, hbD⟩; obtain ⟨aD, qD, rfl⟩ := own_shape hownD; have rD := Rd.own hownD; have hBD : Below w0.heap.size w0 wD := into (by go_grown) hbD; have hzD := hBD.size)
   | (go_at_call 33; (with_reducible refine (concat2 _ _ _ _ [ptk sDELETE, ptk sFROM, ptk t] M (3) (M.length) (by ((repeat' (first | (with_reducible assumption) | (with_reducible refine rd_lit3 _ _ _ _ _ ?_) | (with_reducible refine rd_sl2 _ _ _ _ ?_) | (with_reducible refine Rd.below ?_ hbz) | (with_reducible refine Rd.below ?_ hbD) | (with_reducible refine Rd.below ?_ hbA) | (with_reducible refine rd_drew ?_) | (with_reducible refine rd_alloc ?_ _) | (simp; done))); (first | done | fail))) (by ((repeat' (first | (with_reducible assumption) | (with_reducible refine rd_lit3 _ _ _ _ _ ?_) | (with_reducible refine rd_sl2 _ _ _ _ ?_) | (with_reducible refine Rd.below ?_ hbz) | (with_reducible refine Rd.below ?_ hbD) | (with_reducible refine Rd.below ?_ hbA) | (with_reducible refine rd_drew ?_) | (with_reducible refine rd_alloc ?_ _) | (simp; done))); (first | done | fail))) (by ((repeat' (first | (with_reducible assumption) | (with_reducible refine rd_lit3 _ _ _ _ _ ?_) | (with_reducible refine rd_sl2 _ _ _ _ ?_) | (with_reducible refine Rd.below ?_ hbz) | (with_reducible refine Rd.below ?_ hbD) | (with_reducible refine Rd.below ?_ hbA) | (with_reducible refine rd_drew ?_) | (with_reducible refine rd_alloc ?_ _) | (simp; done))); (first | done | fail))) HLN.out).mono ?_); rintro e wz ⟨vz, rfl, hownz, hbz⟩; have hTz := ToksIs.from ⟨vz, rfl, hownz, hbz⟩ (show Below w0.heap.size w0 _ by go_grown))))
 all_goals exact hout.out _ _ _ _ _ _ _ _ _ _ _ hTz
structure ShOk (s : Sq) : Prop where
 t : s.k ≤ 6 → s.t.size ≤ 1000
 e : s.k = 5 → s.st.size ≤ 1000
 h : ∀ o ∈ s.wh, OOk o
 x : ∀ o ∈ s.to, OOk o
 r : ∀ v ∈ s.row, VOk v
theorem show_any (w : World) (hT : Tbp w) (s : Sq) (p : Ps) (hr : StR w s p) (hk1 : 1 ≤ s.k) (hF : partsF s = 0) (hok : ShOk s) :
  Calls Tryd.prog 24 #[stV s p] w (ToksIs (shT s) w) := by
 have hb0 : Below w.heap.size w (w.alloc (.cells (stC s p) 33)) := (Below.refl _ _).alloc (Nat.le_refl _) _
 obtain ⟨W0, hW0⟩ : ∃ W0, W0 = w.alloc (.cells (stC s p) 33) := ⟨_, rfl⟩
 have HSE : Hid (W0.heap.size = w.heap.size + 1) := by show _ = _; rw [hW0]; simp
 have HSZ : Hid (w.heap.size < W0.heap.size) := by show _ < _; rw [HSE.out]; omega
 have HBX := hid (StB.new w s p (w1 := W0) (by rw [hW0]; exact Below.refl _ _))
 rw [← hW0] at hb0
 have HB0 := hid hb0
 have HWE := hid hW0
 clear hW0
 have HM0 : Mk W0 := hT.b.m.below hb0
 have HT0 : Hid (∀ W, Below W0.heap.size W0 W → Tbp W) := fun W hW => hT.below (into hb0 hW)
 have hr0 := hr.below hb0
 by_cases k1 : s.k = 1
 ·have hc : colsF s.cols = 0 := by
   unfold partsF at hF
   rw [if_pos k1] at hF
   exact hF
  obtain ⟨g1, g2, g3⟩ := colsF_ok hc
  have hl := len_c hr.r2
  have ht := hok.t (by omega)
  have HE : Hid (shT s = crT s.t s.cols) := by show _ = _; unfold shT; rw [if_pos k1]
  have hlen := btwc_len s.cols
  obtain ⟨x0, x1, x2, x3, x4, x5, x6, x7, x8, x9, x10, x11⟩ := HBX.out
  have HA := plainH W0 HM0 [sCREATE, sTABLE, s.t, sOpen] 4 (by omega) (by omega) (by simp; exact ⟨by decide, by decide, ht, by decide⟩) [ptk sCREATE, ptk sTABLE, ptk s.t, ptk sOpen] rfl
  have HB := plainH W0 HM0 [sClose] 1 (by omega) (by omega) (by simp; decide) [ptk sClose] rfl
  have HC : Hid (∀ W, Below W0.heap.size W0 W → Calls Tryd.prog 35 #[.slice p.a2 p.n2 p.c2, .func (.func 36) #[] #[]] W (ToksIs (btw comma shC s.cols) W)) := fun W hW => between_any W (HT0.out W hW).b p.n2 _ s.cols (by omega) (by omega) (hr0.r2.below hW) g1 (fun c hc => by have := nm_size (g1 c hc).1; omega)
  have HLN : Hid ([ptk sCREATE, ptk sTABLE, ptk s.t, ptk sOpen].length + ((btw comma shC s.cols).length + [ptk sClose].length) ≤ 1000000) := by
   show _ ≤ _
   simp only [List.length_cons, List.length_nil]
   omega
  clear hr hr0 hT hok hF hl hlen g1 g2 g3 hc HM0 hk1
  obtain ⟨k, t, cols, row, names, cnt, wh, ord, dn, lim, st, to⟩ := s
  obtain ⟨a2, n2, c2, a3, n3, c3, a4, n4, c4, a6, n6, c6, a11, n11, c11⟩ := p
  simp only at k1 x1 x2 HA HC HLN HE ht
  subst k1
  have X1 := hid x1
  have X2 := hid x2
  clear x0 x1 x2 x3 x4 x5 x6 x7 x8 x9 x10 x11
  rw [HE.out]
  unfold crT
  go_enter Tryd.func24, Tryd.ntmps24
  go_wp2_with fail
  rw [← HWE.out]
  change Code.wp _ ((regionOf 3 (Tryd.f24.body.getD .skip)).getD .skip) _ _ _
  refine show3 _ W0 w.heap.size HSZ.out t a2 n2 c2 (btw comma shC cols) X1.out X2.out HA HB HC HLN (hid ?_)
  intro e7 e8 e9 e10 e11 e12 e13 e14 e15 e16 e17 v5 w5 h5
  have H5 := hid h5
  clear h5
  go_wp2_with fail
  go_ret
  exact ToksIs.from H5.out HB0.out
 by_cases k2 : s.k = 2
 ·have ht := hok.t (by omega)
  have HE : Hid (shT s = [ptk sDROP, ptk sTABLE, ptk s.t]) := by show _ = _; unfold shT; rw [if_neg k1, if_pos k2]
  clear hr hr0 hT hok hF HBX HT0 hk1 k1
  obtain ⟨k, t, cols, row, names, cnt, wh, ord, dn, lim, st, to⟩ := s
  obtain ⟨a2, n2, c2, a3, n3, c3, a4, n4, c4, a6, n6, c6, a11, n11, c11⟩ := p
  simp only at k2 HE ht
  subst k2
  rw [HE.out]
  have HP := hid (plain3 W0 HM0 sDROP sTABLE t (by decide) (by decide) ht (w.heap.size + 1) HSE.out)
  go_enter Tryd.func24, Tryd.ntmps24
  go_wp2_with fail
  rw [← HWE.out]
  refine HP.out.mono ?_
  rintro e w1 ⟨v1, rfl, h1, h2⟩
  have H := hid (show ToksIs _ _ (.returned v1) w1 from ⟨v1, rfl, h1, h2⟩)
  clear h1 h2
  go_wp2_with fail
  go_ret
  exact ToksIs.from H.out HB0.out
 by_cases k3 : s.k = 3
 ·have hc : insF s.row = 0 := by
   unfold partsF at hF
   rw [if_neg k1, if_pos k3] at hF
   exact hF
  have hl := len_v hr.r3
  have hin : 1 ≤ s.row.length ∧ s.row.length ≤ 6 := by
   unfold insF at hc
   split at hc
   ·omega
   ·omega
  have ht := hok.t (by omega)
  have HE : Hid (shT s = [ptk sINSERT, ptk sINTO, ptk s.t, ptk sVALUES, ptk sOpen] ++ (btw comma valT s.row ++ [ptk sClose])) := by show _ = _; unfold shT; rw [if_neg k1, if_neg k2, if_pos k3]
  have hlen := btwv_len s.row
  obtain ⟨x0, x1, x2, x3, x4, x5, x6, x7, x8, x9, x10, x11⟩ := HBX.out
  have HA := plainH W0 HM0 [sINSERT, sINTO, s.t, sVALUES, sOpen] 5 (by omega) (by omega) (by simp; exact ⟨by decide, by decide, ht, by decide, by decide⟩) [ptk sINSERT, ptk sINTO, ptk s.t, ptk sVALUES, ptk sOpen] rfl
  have HB := plainH W0 HM0 [sClose] 1 (by omega) (by omega) (by simp; decide) [ptk sClose] rfl
  have HC : Hid (∀ W, Below W0.heap.size W0 W → Calls Tryd.prog 37 #[.slice p.a3 p.n3 p.c3, .func (.func 38) #[] #[]] W (ToksIs (btw comma valT s.row) W)) := fun W hW => btv_any W (HT0.out W hW) p.n3 _ s.row (by omega) (by omega) (hr0.r3.below hW) hok.r
  have HLN : Hid ([ptk sINSERT, ptk sINTO, ptk s.t, ptk sVALUES, ptk sOpen].length + ((btw comma valT s.row).length + ([ptk sClose].length)) ≤ 1000000) := by
   show _ ≤ _
   simp only [List.length_cons, List.length_nil]
   omega
  clear hr hr0 hT hok hF hl hlen hin hc HM0 hk1 k1 k2
  obtain ⟨k, t, cols, row, names, cnt, wh, ord, dn, lim, st, to⟩ := s
  obtain ⟨a2, n2, c2, a3, n3, c3, a4, n4, c4, a6, n6, c6, a11, n11, c11⟩ := p
  simp only at k3 x1 x3 HA HC HLN HE ht
  subst k3
  have X1 := hid x1
  have X3 := hid x3
  clear x0 x1 x2 x3 x4 x5 x6 x7 x8 x9 x10 x11
  rw [HE.out]
  go_enter Tryd.func24, Tryd.ntmps24
  go_wp2_with fail
  rw [← HWE.out]
  change Code.wp _ ((regionOf 7 (Tryd.f24.body.getD .skip)).getD .skip) _ _ _
  refine show7 _ W0 w.heap.size HSZ.out t a3 n3 c3 (btw comma valT row) X1.out X3.out HA HB HC HLN (hid ?_)
  intro e26 e27 e28 e29 e30 e31 e32 e33 e34 e35 e36 v5 w5 h5
  have H5 := hid h5
  clear h5
  go_wp2_with fail
  go_ret
  exact ToksIs.from H5.out HB0.out
 by_cases k4 : s.k = 4
 ·have hc : selF s = 0 := by
   unfold partsF at hF
   rw [if_neg k1, if_neg k3, if_pos k4] at hF
   exact hF
  have ht := hok.t (by omega)
  have HE : Hid (shT s = selT s) := by show _ = _; unfold shT; rw [if_neg k1, if_neg k2, if_neg k3, if_pos k4]
  have HP : Hid (Calls Tryd.prog 39 #[stV s p] W0 (ToksIs (selT s) W0)) := showSel_any W0 (HT0.out W0 (Below.refl _ _)) s p hr0 hc ht hok.h
  rw [HE.out]
  obtain ⟨R, hR⟩ : ∃ R, R = selT s := ⟨_, rfl⟩
  rw [← hR] at HP ⊢
  clear hr hr0 hT hok hF hc HM0 hk1 k1 k2 k3 HE hR HT0 HBX
  obtain ⟨k, t, cols, row, names, cnt, wh, ord, dn, lim, st, to⟩ := s
  obtain ⟨a2, n2, c2, a3, n3, c3, a4, n4, c4, a6, n6, c6, a11, n11, c11⟩ := p
  simp only at k4 ht
  subst k4
  go_enter Tryd.func24, Tryd.ntmps24
  go_wp2_with fail
  rw [← HWE.out]
  refine HP.out.mono ?_
  rintro e w1 ⟨v1, rfl, h1, h2⟩
  have H := hid (show ToksIs _ _ (.returned v1) w1 from ⟨v1, rfl, h1, h2⟩)
  clear h1 h2
  go_wp2_with fail
  go_ret
  exact ToksIs.from H.out HB0.out
 by_cases k5 : s.k = 5
 ·have hc : f3 (nmF s.st.data.toList) (exprF s.to) (whF s.wh) = 0 := by
   unfold partsF at hF
   rw [if_neg k1, if_neg k3, if_neg k4, if_pos k5] at hF
   exact hF
  obtain ⟨_, hx, hw⟩ := f3_zero hc
  have ht := hok.t (by omega)
  have hst := hok.e k5
  have HE : Hid (shT s = [ptk sUPDATE, ptk s.t, ptk sSET, ptk s.st, ptk sEq] ++ (exT s.to ++ whT s.wh)) := by show _ = _; unfold shT; rw [if_neg k1, if_neg k2, if_neg k3, if_neg k4, if_pos k5]
  have hl1 := exT_len hx
  have hl2 := whT_len hw
  obtain ⟨x0, x1, x2, x3, x4, x5, x6, x7, x8, x9, x10, x11⟩ := HBX.out
  have HA := plainH W0 HM0 [sUPDATE, s.t, sSET, s.st, sEq] 5 (by omega) (by omega) (by simp; exact ⟨by decide, ht, by decide, hst, by decide⟩) [ptk sUPDATE, ptk s.t, ptk sSET, ptk s.st, ptk sEq] rfl
  have HC : Hid (∀ W, Below W0.heap.size W0 W → Calls Tryd.prog 40 #[.slice p.a11 p.n11 p.c11] W (ToksIs (exT s.to) W)) := fun W hW => showExp_any W (HT0.out W hW) p.n11 _ s.to (hr0.r11.below hW) hx hok.x
  have HD : Hid (∀ W, Below W0.heap.size W0 W → Calls Tryd.prog 41 #[.slice p.a6 p.n6 p.c6] W (ToksIs (whT s.wh) W)) := fun W hW => showWhere_any W (HT0.out W hW) p.n6 _ s.wh (hr0.r6.below hW) hw hok.h
  have HLN : Hid ([ptk sUPDATE, ptk s.t, ptk sSET, ptk s.st, ptk sEq].length + ((exT s.to).length + ((whT s.wh).length)) ≤ 1000000) := by
   show _ ≤ _
   simp only [List.length_cons, List.length_nil]
   omega
  clear hr hr0 hT hok hF hl1 hl2 hx hw hc HM0 hk1 k1 k2 k3 k4
  obtain ⟨k, t, cols, row, names, cnt, wh, ord, dn, lim, st, to⟩ := s
  obtain ⟨a2, n2, c2, a3, n3, c3, a4, n4, c4, a6, n6, c6, a11, n11, c11⟩ := p
  simp only at k5 x1 x6 x10 x11 HA HC HD HLN HE ht hst
  subst k5
  have X1 := hid x1
  have X6 := hid x6
  have X10 := hid x10
  have X11 := hid x11
  clear x0 x1 x2 x3 x4 x5 x6 x7 x8 x9 x10 x11
  rw [HE.out]
  go_enter Tryd.func24, Tryd.ntmps24
  go_wp2_with fail
  rw [← HWE.out]
  change Code.wp _ ((regionOf 11 (Tryd.f24.body.getD .skip)).getD .skip) _ _ _
  refine show11 _ W0 w.heap.size HSZ.out t st a11 n11 c11 a6 n6 c6 (exT to) (whT wh) X1.out X10.out X11.out X6.out HA HC HD HLN (hid ?_)
  intro e43 e44 e45 e46 e47 e48 e49 e50 e51 e52 e53 e54 e55 e56 v5 w5 h5
  have H5 := hid h5
  clear h5
  go_wp2_with fail
  go_ret
  exact ToksIs.from H5.out HB0.out
 by_cases k6 : s.k = 6
 ·have hw : whF s.wh = 0 := by
   unfold partsF at hF
   rw [if_neg k1, if_neg k3, if_neg k4, if_neg k5, if_pos k6] at hF
   exact hF
  have ht := hok.t (by omega)
  have HE : Hid (shT s = [ptk sDELETE, ptk sFROM, ptk s.t] ++ whT s.wh) := by show _ = _; unfold shT; rw [if_neg k1, if_neg k2, if_neg k3, if_neg k4, if_neg k5, if_pos k6]
  have hl2 := whT_len hw
  obtain ⟨x0, x1, x2, x3, x4, x5, x6, x7, x8, x9, x10, x11⟩ := HBX.out
  have HA := plainH W0 HM0 [sDELETE, sFROM, s.t] 3 (by omega) (by omega) (by simp; exact ⟨by decide, by decide, ht⟩) [ptk sDELETE, ptk sFROM, ptk s.t] rfl
  have HD : Hid (∀ W, Below W0.heap.size W0 W → Calls Tryd.prog 41 #[.slice p.a6 p.n6 p.c6] W (ToksIs (whT s.wh) W)) := fun W hW => showWhere_any W (HT0.out W hW) p.n6 _ s.wh (hr0.r6.below hW) hw hok.h
  have HLN : Hid ([ptk sDELETE, ptk sFROM, ptk s.t].length + ((whT s.wh).length) ≤ 1000000) := by
   show _ ≤ _
   simp only [List.length_cons, List.length_nil]
   omega
  clear hr hr0 hT hok hF hl2 hw HM0 hk1 k1 k2 k3 k4 k5
  obtain ⟨k, t, cols, row, names, cnt, wh, ord, dn, lim, st, to⟩ := s
  obtain ⟨a2, n2, c2, a3, n3, c3, a4, n4, c4, a6, n6, c6, a11, n11, c11⟩ := p
  simp only at k6 x1 x6 HA HD HLN HE ht
  subst k6
  have X1 := hid x1
  have X6 := hid x6
  clear x0 x1 x2 x3 x4 x5 x6 x7 x8 x9 x10 x11
  rw [HE.out]
  go_enter Tryd.func24, Tryd.ntmps24
  go_wp2_with fail
  rw [← HWE.out]
  change Code.wp _ ((regionOf 13 (Tryd.f24.body.getD .skip)).getD .skip) _ _ _
  refine show13 _ W0 w.heap.size HSZ.out t a6 n6 c6 (whT wh) X1.out X6.out HA HD HLN (hid ?_)
  intro e59 e60 e61 e62 e63 e64 e65 e66 e67 v5 w5 h5
  have H5 := hid h5
  clear h5
  go_wp2_with fail
  go_ret
  exact ToksIs.from H5.out HB0.out
 by_cases k7 : s.k = 7
 ·have HE : Hid (shT s = [ptk sBEGIN]) := by show _ = _; unfold shT; rw [if_neg k1, if_neg k2, if_neg k3, if_neg k4, if_neg k5, if_neg k6, if_pos k7]
  clear hr hr0 hT hok hF HBX HT0
  obtain ⟨k, t, cols, row, names, cnt, wh, ord, dn, lim, st, to⟩ := s
  obtain ⟨a2, n2, c2, a3, n3, c3, a4, n4, c4, a6, n6, c6, a11, n11, c11⟩ := p
  simp only at k1 k2 k3 k4 k5 k6 k7 HE
  subst k7
  rw [HE.out]
  have HP := hid (plain1 W0 HM0 sBEGIN (by decide) (w.heap.size + 1) HSE.out)
  go_enter Tryd.func24, Tryd.ntmps24
  go_wp2_with fail
  rw [← HWE.out]
  refine HP.out.mono ?_
  rintro e w1 ⟨v1, rfl, h1, h2⟩
  have H := hid (show ToksIs _ _ (.returned v1) w1 from ⟨v1, rfl, h1, h2⟩)
  clear h1 h2
  go_wp2_with fail
  go_ret
  exact ToksIs.from H.out HB0.out
 by_cases k8 : s.k = 8
 ·have HE : Hid (shT s = [ptk sCOMMIT]) := by show _ = _; unfold shT; rw [if_neg k1, if_neg k2, if_neg k3, if_neg k4, if_neg k5, if_neg k6, if_neg k7, if_pos k8]
  clear hr hr0 hT hok hF HBX HT0
  obtain ⟨k, t, cols, row, names, cnt, wh, ord, dn, lim, st, to⟩ := s
  obtain ⟨a2, n2, c2, a3, n3, c3, a4, n4, c4, a6, n6, c6, a11, n11, c11⟩ := p
  simp only at k1 k2 k3 k4 k5 k6 k7 HE k8
  subst k8
  rw [HE.out]
  have HP := hid (plain1 W0 HM0 sCOMMIT (by decide) (w.heap.size + 1) HSE.out)
  go_enter Tryd.func24, Tryd.ntmps24
  go_wp2_with fail
  rw [← HWE.out]
  refine HP.out.mono ?_
  rintro e w1 ⟨v1, rfl, h1, h2⟩
  have H := hid (show ToksIs _ _ (.returned v1) w1 from ⟨v1, rfl, h1, h2⟩)
  clear h1 h2
  go_wp2_with fail
  go_ret
  exact ToksIs.from H.out HB0.out
 ·have HE : Hid (shT s = [ptk sROLLBACK]) := by show _ = _; unfold shT; rw [if_neg k1, if_neg k2, if_neg k3, if_neg k4, if_neg k5, if_neg k6, if_neg k7, if_neg k8]
  clear hr hr0 hT hok hF HBX HT0
  obtain ⟨k, t, cols, row, names, cnt, wh, ord, dn, lim, st, to⟩ := s
  obtain ⟨a2, n2, c2, a3, n3, c3, a4, n4, c4, a6, n6, c6, a11, n11, c11⟩ := p
  simp only at k1 k2 k3 k4 k5 k6 k7 HE k8
  have e1 : (k == 1) = false := by simpa using k1
  have e2 : (k == 2) = false := by simpa using k2
  have e3 : (k == 3) = false := by simpa using k3
  have e4 : (k == 4) = false := by simpa using k4
  have e5 : (k == 5) = false := by simpa using k5
  have e6 : (k == 6) = false := by simpa using k6
  have e7 : (k == 7) = false := by simpa using k7
  have e8 : (k == 8) = false := by simpa using k8
  rw [HE.out]
  have HP := hid (plain1 W0 HM0 sROLLBACK (by decide) (w.heap.size + 1) HSE.out)
  go_enter Tryd.func24, Tryd.ntmps24
  go_wp2_with fail
  rw [← HWE.out]
  refine HP.out.mono ?_
  rintro e w1 ⟨v1, rfl, h1, h2⟩
  have H := hid (show ToksIs _ _ (.returned v1) w1 from ⟨v1, rfl, h1, h2⟩)
  clear h1 h2
  go_wp2_with fail
  go_ret
  exact ToksIs.from H.out HB0.out
theorem oks_of {l : List Oq} (h : exprF l = 0) (hw : ∀ o ∈ l, (Lit.int .i64 o.v.n).wf = true ∧ o.v.t.size ≤ maxLen ∧ o.t.size ≤ maxLen) : ∀ o ∈ l, OOk o := by
 obtain ⟨_, t, ht, rfl⟩ := expr_tree h
 intro o ho
 have h1 := (hw o ho).1
 simp only [Lit.wf, Bool.and_eq_true, decide_eq_true_eq] at h1
 simp [IntKind.min, IntKind.max, IntKind.signed, IntKind.bits] at h1
 exact ⟨Tx.ok_mem ht o ho, by omega, by omega⟩
theorem whs_of {l : List Oq} (h : whF l = 0) (hw : ∀ o ∈ l, (Lit.int .i64 o.v.n).wf = true ∧ o.v.t.size ≤ maxLen ∧ o.t.size ≤ maxLen) : ∀ o ∈ l, OOk o := by
 unfold whF at h
 split at h
 ·rename_i h0
  intro o ho
  rw [List.eq_nil_of_length_eq_zero h0] at ho
  cases ho
 ·exact oks_of h hw
theorem rows_of : ∀ {l : List V}, rowL l = 0 → (∀ o ∈ l, (Lit.int .i64 o.n).wf = true ∧ o.t.size ≤ maxLen) → ∀ v ∈ l, VOk v
 | [], _, _, v, hv => by cases hv
 | x :: l, h, hw, v, hv => by
  unfold rowL at h
  split at h
  ·omega
  ·rename_i h0
   rcases List.mem_cons.1 hv with rfl | hv
   ·exact vok_of (by simpa using h0) (hw _ (by simp)).1
   ·exact rows_of h (fun o ho => hw o (by simp [ho])) v hv
theorem more_no {s : Sq} (h : moreF s = false) : (s.k ≠ 4 → s.k ≠ 5 → s.k ≠ 6 → s.wh = []) ∧ (s.k ≠ 5 → s.to = []) ∧ (s.k ≠ 3 → s.row = []) := by
 unfold moreF at h
 simp only [Bool.or_eq_false_iff, Bool.and_eq_false_iff, Bool.not_eq_false', beq_iff_eq, decide_eq_false_iff_not] at h
 refine ⟨fun h4 h5 h6 => ?_, fun h5 => ?_, fun h3 => ?_⟩
 ·exact List.eq_nil_of_length_eq_zero (by have := h.2; omega)
 ·exact List.eq_nil_of_length_eq_zero (by have := h.1.2; rcases this with h | h; exact absurd h h5; omega)
 ·exact List.eq_nil_of_length_eq_zero (by have := h.1.1.1.2; rcases this with h | h; exact absurd h h3; omega)
theorem sh_ok {s : Sq} (h : st0 s = 0) (hz : SqZ s) : ShOk s := by
 obtain ⟨h1, h9, ht, hp, hm⟩ := st0_ok h
 obtain ⟨m1, m2, m3⟩ := more_no hm
 refine ⟨fun h6 => ?_, fun h5 => ?_, ?_, ?_, ?_⟩
 ·unfold tabF at ht
  rw [if_pos h6] at ht
  have := nm_size ht
  omega
 ·unfold partsF at hp
  rw [if_neg (by omega), if_neg (by omega), if_neg (by omega), if_pos h5] at hp
  have := nm_size (f3_zero hp).1
  omega
 ·by_cases k4 : s.k = 4
  ·unfold partsF at hp
   rw [if_neg (by omega), if_neg (by omega), if_pos k4] at hp
   exact whs_of (sel_zero hp).2.2.2.2.2.1 hz.h
  ·by_cases k5 : s.k = 5
   ·unfold partsF at hp
    rw [if_neg (by omega), if_neg (by omega), if_neg k4, if_pos k5] at hp
    exact whs_of (f3_zero hp).2.2 hz.h
   ·by_cases k6 : s.k = 6
    ·unfold partsF at hp
     rw [if_neg (by omega), if_neg (by omega), if_neg k4, if_neg k5, if_pos k6] at hp
     exact whs_of hp hz.h
    ·rw [m1 k4 k5 k6]
     intro o ho
     cases ho
 ·by_cases k5 : s.k = 5
  ·unfold partsF at hp
   rw [if_neg (by omega), if_neg (by omega), if_neg (by omega), if_pos k5] at hp
   exact oks_of (f3_zero hp).2.1 hz.x
  ·rw [m2 k5]
   intro o ho
   cases ho
 ·by_cases k3 : s.k = 3
  ·unfold partsF at hp
   rw [if_neg (by omega), if_pos k3] at hp
   unfold insF at hp
   split at hp
   ·omega
   ·exact rows_of hp hz.r
  ·rw [m3 k3]
   intro o ho
   cases ho
theorem check_any (w : World) (hT : Tbp w) (s : Sq) (p : Ps) (hr : StR w s p) (hz : SqZ s) (hs : SqS s) :
  Calls Tryd.prog 11 #[stV s p] w fun e w' => e = .returned (.int .i64 (stF s)) ∧ Below w.heap.size w w' := by
 have hb0 : Below w.heap.size w (w.alloc (.cells (stC s p) 33)) := (Below.refl _ _).alloc (Nat.le_refl _) _
 have HNEW := hid (fun w1 hb => StB.new w s p (w1 := w1) hb)
 have HNM : Hid (∀ W, Below w.heap.size w W → Calls Tryd.prog 25 #[.string s.t] W fun e w' => e = .returned (.int .i64 (nmF s.t.data.toList)) ∧ Below W.heap.size W w') := fun W hW => name_any W (hT.b.m.below hW) (hT.b.k.below hW) s.t hz.t
 have HPT : Hid (∀ W, Below w.heap.size w W → Calls Tryd.prog 26 #[stV s p] W fun e w' => e = .returned (.int .i64 (partsF s)) ∧ Below W.heap.size W w') := fun W hW => checkParts_any W (hT.below hW).b s p (hr.below hW) hz
 have HHM : Hid (1 ≤ s.k → ∀ W, Below w.heap.size w W → Calls Tryd.prog 27 #[stV s p] W fun e w' => e = .returned (.bool (moreF s)) ∧ Below W.heap.size W w') := fun h W hW => hasMore_any W s p (hr.below hW) hs h
 have HSH : Hid (st0 s = 0 → (∀ W, Below w.heap.size w W → Calls Tryd.prog 24 #[stV s p] W (ToksIs (shT s) W)) ∧ (shT s).length ≤ 400) := fun h0 => by
  obtain ⟨h1, h9, ht, hp, hm⟩ := st0_ok h0
  exact ⟨fun W hW => show_any W (hT.below hW) s p (hr.below hW) h1 hp (sh_ok h0 hz), shT_len hp⟩
 have h0 : st0 s = if s.k < 1 ∨ 9 < s.k then 2 else f3 (if s.k ≤ 6 then nmF s.t.data.toList else 0) (partsF s) (if moreF s = true then 6 else 0) := rfl
 have hF : stF s = if st0 s ≠ 0 then st0 s else if 100 < (shT s).length then 10 else 0 := rfl
 obtain ⟨Z, hZ⟩ : ∃ Z, Z = st0 s := ⟨_, rfl⟩
 obtain ⟨T, hTT⟩ : ∃ T, T = nmF s.t.data.toList := ⟨_, rfl⟩
 obtain ⟨P, hP⟩ : ∃ T, T = partsF s := ⟨_, rfl⟩
 obtain ⟨M, hM⟩ : ∃ T, T = moreF s := ⟨_, rfl⟩
 obtain ⟨L, hL⟩ : ∃ T, T = shT s := ⟨_, rfl⟩
 obtain ⟨F, hFF⟩ : ∃ T, T = stF s := ⟨_, rfl⟩
 rw [← hFF]
 rw [← hFF, ← hZ, ← hL] at hF
 rw [← hZ, ← hTT, ← hP, ← hM] at h0
 rw [← hTT] at HNM
 rw [← hP] at HPT
 rw [← hM] at HHM
 rw [← hZ, ← hL] at HSH
 have HF := hid hF
 have HZ := hid h0
 have HB0 := hid hb0
 clear hF h0 hZ hTT hP hM hL hFF hb0 hr hz hs hT
 obtain ⟨k, t, cols, row, names, cnt, wh, ord, dn, lim, st, to⟩ := s
 obtain ⟨a2, n2, c2, a3, n3, c3, a4, n4, c4, a6, n6, c6, a11, n11, c11⟩ := p
 simp only at HNM HHM HZ
 by_cases hk1 : k < 1
 ·have HQ : Hid (F = 2) := by
   have hz2 : Z = 2 := by rw [HZ.out, if_pos (.inl hk1)]
   show _ = _
   rw [HF.out, hz2]
   rfl
  go_enter Tryd.func11, Tryd.ntmps11
  go_wp2_with fail
  go_ret
  exact ⟨ri HQ.out.symm, HB0.out⟩
 by_cases hk9 : 9 < k
 ·have HQ : Hid (F = 2) := by
   have hz2 : Z = 2 := by rw [HZ.out, if_pos (.inr hk9)]
   show _ = _
   rw [HF.out, hz2]
   rfl
  go_enter Tryd.func11, Tryd.ntmps11
  go_wp2_with fail
  go_ret
  exact ⟨ri HQ.out.symm, HB0.out⟩
 have HM1 := hid (HHM.out (by omega))
 obtain ⟨tb, htb⟩ : ∃ tb : Int, tb = if k ≤ 6 then T else 0 := ⟨_, rfl⟩
 have HZ2 : Hid (Z = f3 tb P (if M = true then 6 else 0)) := by
  show _ = _
  rw [HZ.out, if_neg (by omega), htb]
 clear HHM HZ
 by_cases hk6 : k ≤ 6
 ·rw [if_pos hk6] at htb
  by_cases ht0 : T = 0
  ·subst ht0
   subst htb
   go_enter Tryd.func11, Tryd.ntmps11
   go_wp2_with fail
   refine (HNM.out _ HB0.out).mono ?_
   rintro e1 w1 ⟨rfl, hb1⟩
   obtain ⟨x0, x1, x2, x3, x4, x5, x6, x7, x8, x9, x10, x11⟩ := HNEW.out w1 hb1
   simp only at x0 x1 x2 x3 x4 x5 x6 x7 x8 x9 x10 x11
   have HI1 := hid hb1
   have HB1 := hid (into HB0.out hb1)
   clear hb1
   go_wp2_with fail
   refine (HPT.out _ HB1.out).mono ?_
   rintro e2 w2 ⟨rfl, hb2⟩
   (try clear x0 x1 x2 x3 x4 x5 x6 x7 x8 x9 x10 x11)
   obtain ⟨x0, x1, x2, x3, x4, x5, x6, x7, x8, x9, x10, x11⟩ := HNEW.out w2 (into HI1.out hb2)
   simp only at x0 x1 x2 x3 x4 x5 x6 x7 x8 x9 x10 x11
   have HI2 := hid (into HI1.out hb2)
   have HB2 := hid (into HB1.out hb2)
   clear hb2
   by_cases hp0 : P = 0
   ·subst hp0
    go_wp2_with fail
    refine (HM1.out _ HB2.out).mono ?_
    rintro e3 w3 ⟨rfl, hb3⟩
    clear x0 x1 x2 x3 x4 x5 x6 x7 x8 x9 x10 x11
    obtain ⟨x0, x1, x2, x3, x4, x5, x6, x7, x8, x9, x10, x11⟩ := HNEW.out w3 (into HI2.out hb3)
    simp only at x0 x1 x2 x3 x4 x5 x6 x7 x8 x9 x10 x11
    have HB3 := hid (into HB2.out hb3)
    clear hb3
    cases M
    ·have HZ0 : Hid (Z = 0) := by
      show _ = _
      rw [HZ2.out]
      rfl
     obtain ⟨hsh, hlen⟩ := HSH.out HZ0.out
     have HS3 := hid (hsh w3 HB3.out)
     obtain ⟨n, hn⟩ : ∃ n, n = L.length := ⟨_, rfl⟩
     rw [← hn] at hlen
     have HN := hid hn
     clear hsh hn
     go_wp2_with fail
     refine HS3.out.mono ?_
     rintro e4 w4 ⟨v4, rfl, hown4, hb4⟩
     rw [← HN.out] at hown4
     obtain ⟨a4_, q4_, rfl⟩ := own_shape hown4
     have HB4 := hid (into HB3.out hb4)
     clear hb4 hown4 x0 x1 x2 x3 x4 x5 x6 x7 x8 x9 x10 x11
     by_cases h100 : 100 < n
     ·have HQ : Hid (F = 10) := by
       show _ = _
       rw [HF.out, HZ0.out, ← HN.out, if_neg (by simp), if_pos h100]
      go_wp2_with fail
      go_ret
      exact ⟨ri HQ.out.symm, HB4.out⟩
     ·have HQ : Hid (F = 0) := by
       show _ = _
       rw [HF.out, HZ0.out, ← HN.out, if_neg (by simp), if_neg h100]
      go_wp2_with fail
      go_ret
      exact ⟨ri HQ.out.symm, HB4.out⟩
    ·have HQ : Hid (F = 6) := by
      show _ = _
      rw [HF.out, HZ2.out]
      rfl
     go_wp2_with fail
     go_ret
     exact ⟨ri HQ.out.symm, HB3.out⟩
   ·have hp0' : (P == 0) = false := by simpa using hp0
    have hzp : Z = P := by
     rw [HZ2.out]
     unfold f3
     rw [if_neg (by simp), if_pos hp0]
    have HQ : Hid (F = P) := by
     show _ = _
     rw [HF.out, hzp, if_pos hp0]
    go_wp2_with fail
    go_ret
    exact ⟨ri HQ.out.symm, HB2.out⟩
  ·have ht0' : (T == 0) = false := by simpa using ht0
   have HQ : Hid (F = T) := by
    show _ = _
    rw [HF.out, HZ2.out, htb]
    unfold f3
    rw [if_pos ht0, if_pos ht0]
   go_enter Tryd.func11, Tryd.ntmps11
   go_wp2_with fail
   refine (HNM.out _ HB0.out).mono ?_
   rintro e1 w1 ⟨rfl, hb1⟩
   have HB1 := hid (into HB0.out hb1)
   clear hb1
   go_wp2_with fail
   go_ret
   exact ⟨ri HQ.out.symm, HB1.out⟩
 ·rw [if_neg hk6] at htb
  subst htb
  go_enter Tryd.func11, Tryd.ntmps11
  go_wp2_with fail
  refine (HPT.out _ HB0.out).mono ?_
  rintro e2 w2 ⟨rfl, hb2⟩
  (try clear x0 x1 x2 x3 x4 x5 x6 x7 x8 x9 x10 x11)
  obtain ⟨x0, x1, x2, x3, x4, x5, x6, x7, x8, x9, x10, x11⟩ := HNEW.out w2 (hb2)
  simp only at x0 x1 x2 x3 x4 x5 x6 x7 x8 x9 x10 x11
  have HI2 := hid (hb2)
  have HB2 := hid (into HB0.out hb2)
  clear hb2
  by_cases hp0 : P = 0
  ·subst hp0
   go_wp2_with fail
   refine (HM1.out _ HB2.out).mono ?_
   rintro e3 w3 ⟨rfl, hb3⟩
   clear x0 x1 x2 x3 x4 x5 x6 x7 x8 x9 x10 x11
   obtain ⟨x0, x1, x2, x3, x4, x5, x6, x7, x8, x9, x10, x11⟩ := HNEW.out w3 (into HI2.out hb3)
   simp only at x0 x1 x2 x3 x4 x5 x6 x7 x8 x9 x10 x11
   have HB3 := hid (into HB2.out hb3)
   clear hb3
   cases M
   ·have HZ0 : Hid (Z = 0) := by
     show _ = _
     rw [HZ2.out]
     rfl
    obtain ⟨hsh, hlen⟩ := HSH.out HZ0.out
    have HS3 := hid (hsh w3 HB3.out)
    obtain ⟨n, hn⟩ : ∃ n, n = L.length := ⟨_, rfl⟩
    rw [← hn] at hlen
    have HN := hid hn
    clear hsh hn
    go_wp2_with fail
    refine HS3.out.mono ?_
    rintro e4 w4 ⟨v4, rfl, hown4, hb4⟩
    rw [← HN.out] at hown4
    obtain ⟨a4_, q4_, rfl⟩ := own_shape hown4
    have HB4 := hid (into HB3.out hb4)
    clear hb4 hown4 x0 x1 x2 x3 x4 x5 x6 x7 x8 x9 x10 x11
    by_cases h100 : 100 < n
    ·have HQ : Hid (F = 10) := by
      show _ = _
      rw [HF.out, HZ0.out, ← HN.out, if_neg (by simp), if_pos h100]
     go_wp2_with fail
     go_ret
     exact ⟨ri HQ.out.symm, HB4.out⟩
    ·have HQ : Hid (F = 0) := by
      show _ = _
      rw [HF.out, HZ0.out, ← HN.out, if_neg (by simp), if_neg h100]
     go_wp2_with fail
     go_ret
     exact ⟨ri HQ.out.symm, HB4.out⟩
   ·have HQ : Hid (F = 6) := by
     show _ = _
     rw [HF.out, HZ2.out]
     rfl
    go_wp2_with fail
    go_ret
    exact ⟨ri HQ.out.symm, HB3.out⟩
  ·have hp0' : (P == 0) = false := by simpa using hp0
   have hzp : Z = P := by
    rw [HZ2.out]
    unfold f3
    rw [if_neg (by simp), if_pos hp0]
   have HQ : Hid (F = P) := by
    show _ = _
    rw [HF.out, hzp, if_pos hp0]
   go_wp2_with fail
   go_ret
   exact ⟨ri HQ.out.symm, HB2.out⟩
theorem Show_any (w : World) (hT : Tbp w) (s : Sq) (p : Ps) (hr : StR w s p) (hz : SqZ s) (hs : SqS s) :
  Calls Tryd.prog 10 #[stV s p] w fun e w' => ∃ v, e = .returned (.tuple #[v, .int .i64 (stF s)]) ∧ w'.ownsRow w.heap.size 45 3 v (if stF s = 0 then shT s else []).length (tkc (if stF s = 0 then shT s else [])) ∧ Below w.heap.size w w' := by
 have hb0 : Below w.heap.size w (w.alloc (.cells (stC s p) 33)) := (Below.refl _ _).alloc (Nat.le_refl _) _
 have HNEW := hid (fun w1 hb => StB.new w s p (w1 := w1) hb)
 have HCK : Hid (∀ W, Below w.heap.size w W → Calls Tryd.prog 11 #[stV s p] W fun e w' => e = .returned (.int .i64 (stF s)) ∧ Below W.heap.size W w') := fun W hW => check_any W (hT.below hW) s p (hr.below hW) hz hs
 have HSH : Hid (stF s = 0 → ∀ W, Below w.heap.size w W → Calls Tryd.prog 24 #[stV s p] W (ToksIs (shT s) W)) := fun h0 W hW => by
  have h0 : st0 s = 0 := by
   unfold stF at h0
   split at h0
   ·contradiction
   ·rename_i h
    simpa using h
  obtain ⟨h1, h9, ht, hp, hm⟩ := st0_ok h0
  exact show_any W (hT.below hW) s p (hr.below hW) h1 hp (sh_ok h0 hz)
 have HB0 := hid hb0
 obtain ⟨F, hF⟩ : ∃ F, F = stF s := ⟨_, rfl⟩
 obtain ⟨L, hL⟩ : ∃ F, F = shT s := ⟨_, rfl⟩
 rw [← hF] at HCK HSH ⊢
 rw [← hL] at HSH ⊢
 clear hF hL hb0 hr hz hs hT
 obtain ⟨k, t, cols, row, names, cnt, wh, ord, dn, lim, st, to⟩ := s
 obtain ⟨a2, n2, c2, a3, n3, c3, a4, n4, c4, a6, n6, c6, a11, n11, c11⟩ := p
 by_cases h0 : F = 0
 ·subst h0
  have HS := hid (HSH.out rfl)
  clear HSH
  go_enter Tryd.func10, Tryd.ntmps10
  go_wp2_with fail
  refine (HCK.out _ HB0.out).mono ?_
  rintro e w1 ⟨rfl, hb1⟩
  obtain ⟨x0, x1, x2, x3, x4, x5, x6, x7, x8, x9, x10, x11⟩ := HNEW.out w1 hb1
  simp only at x0 x1 x2 x3 x4 x5 x6 x7 x8 x9 x10 x11
  have HB1 := hid (into HB0.out hb1)
  clear hb1
  go_wp2_with fail
  refine (HS.out _ HB1.out).mono ?_
  rintro e w2 ⟨v2, rfl, hown, hb2⟩
  have HO := hid (own_mono hown HB1.out.size)
  have HB2 := hid (into HB1.out hb2)
  clear hown hb2
  go_wp2_with fail
  go_returns
  exact ⟨_, rfl, HO.out, HB2.out⟩
 ·have h0' : (F == 0) = false := by simpa using h0
  clear HSH
  go_enter Tryd.func10, Tryd.ntmps10
  go_wp2_with fail
  refine (HCK.out _ HB0.out).mono ?_
  rintro e w1 ⟨rfl, hb1⟩
  have HB1 := hid (into HB0.out hb1)
  clear hb1
  go_wp2_with fail
  go_returns
  exact ⟨_, rfl, World.ownsRow_nil _ _ _ _, HB1.out⟩
theorem toks_of {w : World} {n : Nat} {v : Value} {l : List Tk} (h : Rd w 3 n v (tkc l)) (hn : 0 < n) :
  l.length = n ∧ ∃ b o cap, v = .slice (some ⟨b, o, none⟩) n cap ∧ n ≤ cap ∧ cap ≤ maxLen ∧ b < w.heap.size ∧
   ∀ k, k < n → w.cell? ⟨b, o + k * 3, none⟩ = some (.int .i64 (l.getD k tk0).k) ∧ w.cell? ⟨b, o + k * 3 + 1, none⟩ = some (.string ⟨(l.getD k tk0).t.toArray⟩) ∧ w.cell? ⟨b, o + k * 3 + 2, none⟩ = some (.int .i64 (l.getD k tk0).n) := by
 have hl : l.length = n := by have := h.1; rw [tkc_length] at this; omega
 obtain ⟨b, o, cap, h1, h2, h3, h4, h5⟩ := h.pos hn (by omega)
 refine ⟨hl, b, o, cap, h1, h2, h3, h4, fun k hk => ?_⟩
 obtain ⟨g1, g2, g3⟩ := tkc_at (l := l) (k := k) (by omega)
 exact ⟨h5 _ _ g1, h5 _ _ g2, h5 _ _ g3⟩
theorem len_t {w : World} {n : Nat} {v : Value} {l : List Tk} (h : Rd w 3 n v (tkc l)) : n = l.length := by have := h.1; rw [tkc_length] at this; omega
theorem box12 {w : World} {B : Nat} {x0 x1 x2 x3 x4 x5 x6 x7 x8 x9 x10 x11 : Value} {T : TypeId} (h : w.heap[B]? = some (.cells #[x0, x1, x2, x3, x4, x5, x6, x7, x8, x9, x10, x11] T (0, 0))) :
  w.cell? ⟨B, 0, none⟩ = some x0 ∧ w.cell? ⟨B, 1, none⟩ = some x1 ∧ w.cell? ⟨B, 2, none⟩ = some x2 ∧ w.cell? ⟨B, 3, none⟩ = some x3 ∧ w.cell? ⟨B, 4, none⟩ = some x4 ∧ w.cell? ⟨B, 5, none⟩ = some x5 ∧ w.cell? ⟨B, 6, none⟩ = some x6 ∧ w.cell? ⟨B, 7, none⟩ = some x7 ∧ w.cell? ⟨B, 8, none⟩ = some x8 ∧ w.cell? ⟨B, 9, none⟩ = some x9 ∧ w.cell? ⟨B, 10, none⟩ = some x10 ∧ w.cell? ⟨B, 11, none⟩ = some x11 ∧ w.frozen? ⟨B, 0, none⟩ = false ∧ w.frozen? ⟨B, 1, none⟩ = false ∧ w.frozen? ⟨B, 2, none⟩ = false ∧ w.frozen? ⟨B, 3, none⟩ = false ∧ w.frozen? ⟨B, 4, none⟩ = false ∧ w.frozen? ⟨B, 5, none⟩ = false ∧ w.frozen? ⟨B, 6, none⟩ = false ∧ w.frozen? ⟨B, 7, none⟩ = false ∧ w.frozen? ⟨B, 8, none⟩ = false ∧ w.frozen? ⟨B, 9, none⟩ = false ∧ w.frozen? ⟨B, 10, none⟩ = false ∧ w.frozen? ⟨B, 11, none⟩ = false := by
 refine ⟨?_, ?_, ?_, ?_, ?_, ?_, ?_, ?_, ?_, ?_, ?_, ?_, ?_, ?_, ?_, ?_, ?_, ?_, ?_, ?_, ?_, ?_, ?_, ?_⟩ <;> (simp only [World.cell?, World.frozen?]; rw [h]; rfl)
theorem st12 {w0 w : World} {A B : Nat} {x0 x1 x2 x3 x4 x5 x6 x7 x8 x9 x10 x11 : Value} {T : TypeId} (hb : Below A w0 w) (hA : A ≤ B) (h : w.heap[B]? = some (.cells #[x0, x1, x2, x3, x4, x5, x6, x7, x8, x9, x10, x11] T (0, 0))) (y0 y1 y2 y3 y4 y5 y6 y7 y8 y9 y10 y11 : Value) :
  Below A w0 (World.setCell (World.setCell (World.setCell (World.setCell (World.setCell (World.setCell (World.setCell (World.setCell (World.setCell (World.setCell (World.setCell (World.setCell w ⟨B, 0, none⟩ y0) ⟨B, 1, none⟩ y1) ⟨B, 2, none⟩ y2) ⟨B, 3, none⟩ y3) ⟨B, 4, none⟩ y4) ⟨B, 5, none⟩ y5) ⟨B, 6, none⟩ y6) ⟨B, 7, none⟩ y7) ⟨B, 8, none⟩ y8) ⟨B, 9, none⟩ y9) ⟨B, 10, none⟩ y10) ⟨B, 11, none⟩ y11) ∧ (World.setCell (World.setCell (World.setCell (World.setCell (World.setCell (World.setCell (World.setCell (World.setCell (World.setCell (World.setCell (World.setCell (World.setCell w ⟨B, 0, none⟩ y0) ⟨B, 1, none⟩ y1) ⟨B, 2, none⟩ y2) ⟨B, 3, none⟩ y3) ⟨B, 4, none⟩ y4) ⟨B, 5, none⟩ y5) ⟨B, 6, none⟩ y6) ⟨B, 7, none⟩ y7) ⟨B, 8, none⟩ y8) ⟨B, 9, none⟩ y9) ⟨B, 10, none⟩ y10) ⟨B, 11, none⟩ y11).cell? ⟨B, 0, none⟩ = some y0 ∧ (World.setCell (World.setCell (World.setCell (World.setCell (World.setCell (World.setCell (World.setCell (World.setCell (World.setCell (World.setCell (World.setCell (World.setCell w ⟨B, 0, none⟩ y0) ⟨B, 1, none⟩ y1) ⟨B, 2, none⟩ y2) ⟨B, 3, none⟩ y3) ⟨B, 4, none⟩ y4) ⟨B, 5, none⟩ y5) ⟨B, 6, none⟩ y6) ⟨B, 7, none⟩ y7) ⟨B, 8, none⟩ y8) ⟨B, 9, none⟩ y9) ⟨B, 10, none⟩ y10) ⟨B, 11, none⟩ y11).cell? ⟨B, 1, none⟩ = some y1 ∧ (World.setCell (World.setCell (World.setCell (World.setCell (World.setCell (World.setCell (World.setCell (World.setCell (World.setCell (World.setCell (World.setCell (World.setCell w ⟨B, 0, none⟩ y0) ⟨B, 1, none⟩ y1) ⟨B, 2, none⟩ y2) ⟨B, 3, none⟩ y3) ⟨B, 4, none⟩ y4) ⟨B, 5, none⟩ y5) ⟨B, 6, none⟩ y6) ⟨B, 7, none⟩ y7) ⟨B, 8, none⟩ y8) ⟨B, 9, none⟩ y9) ⟨B, 10, none⟩ y10) ⟨B, 11, none⟩ y11).cell? ⟨B, 2, none⟩ = some y2 ∧ (World.setCell (World.setCell (World.setCell (World.setCell (World.setCell (World.setCell (World.setCell (World.setCell (World.setCell (World.setCell (World.setCell (World.setCell w ⟨B, 0, none⟩ y0) ⟨B, 1, none⟩ y1) ⟨B, 2, none⟩ y2) ⟨B, 3, none⟩ y3) ⟨B, 4, none⟩ y4) ⟨B, 5, none⟩ y5) ⟨B, 6, none⟩ y6) ⟨B, 7, none⟩ y7) ⟨B, 8, none⟩ y8) ⟨B, 9, none⟩ y9) ⟨B, 10, none⟩ y10) ⟨B, 11, none⟩ y11).cell? ⟨B, 3, none⟩ = some y3 ∧ (World.setCell (World.setCell (World.setCell (World.setCell (World.setCell (World.setCell (World.setCell (World.setCell (World.setCell (World.setCell (World.setCell (World.setCell w ⟨B, 0, none⟩ y0) ⟨B, 1, none⟩ y1) ⟨B, 2, none⟩ y2) ⟨B, 3, none⟩ y3) ⟨B, 4, none⟩ y4) ⟨B, 5, none⟩ y5) ⟨B, 6, none⟩ y6) ⟨B, 7, none⟩ y7) ⟨B, 8, none⟩ y8) ⟨B, 9, none⟩ y9) ⟨B, 10, none⟩ y10) ⟨B, 11, none⟩ y11).cell? ⟨B, 4, none⟩ = some y4 ∧ (World.setCell (World.setCell (World.setCell (World.setCell (World.setCell (World.setCell (World.setCell (World.setCell (World.setCell (World.setCell (World.setCell (World.setCell w ⟨B, 0, none⟩ y0) ⟨B, 1, none⟩ y1) ⟨B, 2, none⟩ y2) ⟨B, 3, none⟩ y3) ⟨B, 4, none⟩ y4) ⟨B, 5, none⟩ y5) ⟨B, 6, none⟩ y6) ⟨B, 7, none⟩ y7) ⟨B, 8, none⟩ y8) ⟨B, 9, none⟩ y9) ⟨B, 10, none⟩ y10) ⟨B, 11, none⟩ y11).cell? ⟨B, 5, none⟩ = some y5 ∧ (World.setCell (World.setCell (World.setCell (World.setCell (World.setCell (World.setCell (World.setCell (World.setCell (World.setCell (World.setCell (World.setCell (World.setCell w ⟨B, 0, none⟩ y0) ⟨B, 1, none⟩ y1) ⟨B, 2, none⟩ y2) ⟨B, 3, none⟩ y3) ⟨B, 4, none⟩ y4) ⟨B, 5, none⟩ y5) ⟨B, 6, none⟩ y6) ⟨B, 7, none⟩ y7) ⟨B, 8, none⟩ y8) ⟨B, 9, none⟩ y9) ⟨B, 10, none⟩ y10) ⟨B, 11, none⟩ y11).cell? ⟨B, 6, none⟩ = some y6 ∧ (World.setCell (World.setCell (World.setCell (World.setCell (World.setCell (World.setCell (World.setCell (World.setCell (World.setCell (World.setCell (World.setCell (World.setCell w ⟨B, 0, none⟩ y0) ⟨B, 1, none⟩ y1) ⟨B, 2, none⟩ y2) ⟨B, 3, none⟩ y3) ⟨B, 4, none⟩ y4) ⟨B, 5, none⟩ y5) ⟨B, 6, none⟩ y6) ⟨B, 7, none⟩ y7) ⟨B, 8, none⟩ y8) ⟨B, 9, none⟩ y9) ⟨B, 10, none⟩ y10) ⟨B, 11, none⟩ y11).cell? ⟨B, 7, none⟩ = some y7 ∧ (World.setCell (World.setCell (World.setCell (World.setCell (World.setCell (World.setCell (World.setCell (World.setCell (World.setCell (World.setCell (World.setCell (World.setCell w ⟨B, 0, none⟩ y0) ⟨B, 1, none⟩ y1) ⟨B, 2, none⟩ y2) ⟨B, 3, none⟩ y3) ⟨B, 4, none⟩ y4) ⟨B, 5, none⟩ y5) ⟨B, 6, none⟩ y6) ⟨B, 7, none⟩ y7) ⟨B, 8, none⟩ y8) ⟨B, 9, none⟩ y9) ⟨B, 10, none⟩ y10) ⟨B, 11, none⟩ y11).cell? ⟨B, 8, none⟩ = some y8 ∧ (World.setCell (World.setCell (World.setCell (World.setCell (World.setCell (World.setCell (World.setCell (World.setCell (World.setCell (World.setCell (World.setCell (World.setCell w ⟨B, 0, none⟩ y0) ⟨B, 1, none⟩ y1) ⟨B, 2, none⟩ y2) ⟨B, 3, none⟩ y3) ⟨B, 4, none⟩ y4) ⟨B, 5, none⟩ y5) ⟨B, 6, none⟩ y6) ⟨B, 7, none⟩ y7) ⟨B, 8, none⟩ y8) ⟨B, 9, none⟩ y9) ⟨B, 10, none⟩ y10) ⟨B, 11, none⟩ y11).cell? ⟨B, 9, none⟩ = some y9 ∧ (World.setCell (World.setCell (World.setCell (World.setCell (World.setCell (World.setCell (World.setCell (World.setCell (World.setCell (World.setCell (World.setCell (World.setCell w ⟨B, 0, none⟩ y0) ⟨B, 1, none⟩ y1) ⟨B, 2, none⟩ y2) ⟨B, 3, none⟩ y3) ⟨B, 4, none⟩ y4) ⟨B, 5, none⟩ y5) ⟨B, 6, none⟩ y6) ⟨B, 7, none⟩ y7) ⟨B, 8, none⟩ y8) ⟨B, 9, none⟩ y9) ⟨B, 10, none⟩ y10) ⟨B, 11, none⟩ y11).cell? ⟨B, 10, none⟩ = some y10 ∧ (World.setCell (World.setCell (World.setCell (World.setCell (World.setCell (World.setCell (World.setCell (World.setCell (World.setCell (World.setCell (World.setCell (World.setCell w ⟨B, 0, none⟩ y0) ⟨B, 1, none⟩ y1) ⟨B, 2, none⟩ y2) ⟨B, 3, none⟩ y3) ⟨B, 4, none⟩ y4) ⟨B, 5, none⟩ y5) ⟨B, 6, none⟩ y6) ⟨B, 7, none⟩ y7) ⟨B, 8, none⟩ y8) ⟨B, 9, none⟩ y9) ⟨B, 10, none⟩ y10) ⟨B, 11, none⟩ y11).cell? ⟨B, 11, none⟩ = some y11 := by
 have h0 := Lib.heap_setCell_same (i := 0) h y0
 have h1 := Lib.heap_setCell_same (i := 1) h0 y1
 have h2 := Lib.heap_setCell_same (i := 2) h1 y2
 have h3 := Lib.heap_setCell_same (i := 3) h2 y3
 have h4 := Lib.heap_setCell_same (i := 4) h3 y4
 have h5 := Lib.heap_setCell_same (i := 5) h4 y5
 have h6 := Lib.heap_setCell_same (i := 6) h5 y6
 have h7 := Lib.heap_setCell_same (i := 7) h6 y7
 have h8 := Lib.heap_setCell_same (i := 8) h7 y8
 have h9 := Lib.heap_setCell_same (i := 9) h8 y9
 have h10 := Lib.heap_setCell_same (i := 10) h9 y10
 have h11 := Lib.heap_setCell_same (i := 11) h10 y11
 have b0 := hb.setCell (p := ⟨B, 0, none⟩) hA y0
 have b1 := b0.setCell (p := ⟨B, 1, none⟩) hA y1
 have b2 := b1.setCell (p := ⟨B, 2, none⟩) hA y2
 have b3 := b2.setCell (p := ⟨B, 3, none⟩) hA y3
 have b4 := b3.setCell (p := ⟨B, 4, none⟩) hA y4
 have b5 := b4.setCell (p := ⟨B, 5, none⟩) hA y5
 have b6 := b5.setCell (p := ⟨B, 6, none⟩) hA y6
 have b7 := b6.setCell (p := ⟨B, 7, none⟩) hA y7
 have b8 := b7.setCell (p := ⟨B, 8, none⟩) hA y8
 have b9 := b8.setCell (p := ⟨B, 9, none⟩) hA y9
 have b10 := b9.setCell (p := ⟨B, 10, none⟩) hA y10
 have b11 := b10.setCell (p := ⟨B, 11, none⟩) hA y11
 have h12 : (World.setCell (World.setCell (World.setCell (World.setCell (World.setCell (World.setCell (World.setCell (World.setCell (World.setCell (World.setCell (World.setCell (World.setCell w ⟨B, 0, none⟩ y0) ⟨B, 1, none⟩ y1) ⟨B, 2, none⟩ y2) ⟨B, 3, none⟩ y3) ⟨B, 4, none⟩ y4) ⟨B, 5, none⟩ y5) ⟨B, 6, none⟩ y6) ⟨B, 7, none⟩ y7) ⟨B, 8, none⟩ y8) ⟨B, 9, none⟩ y9) ⟨B, 10, none⟩ y10) ⟨B, 11, none⟩ y11).heap[B]? = some (.cells #[y0, y1, y2, y3, y4, y5, y6, y7, y8, y9, y10, y11] T (0, 0)) := by simpa using h11
 refine ⟨b11, ?_, ?_, ?_, ?_, ?_, ?_, ?_, ?_, ?_, ?_, ?_, ?_⟩ <;> (simp only [World.cell?]; rw [h12]; rfl)
theorem Rd.blk {w : World} {s n : Nat} {v : Value} {xs : List Value} (h : Rd w s n v xs) (hs : 0 < s) : ∀ a cap, v = .slice (some a) n cap → 0 < n → a.block < w.heap.size := by
 intro a cap hv hn
 obtain ⟨b, o, cap', h1, _, _, h4, _⟩ := h.pos hn hs
 rw [hv] at h1
 simp only [Value.slice.injEq, Option.some.injEq] at h1
 rw [h1.1]
 exact h4
theorem code_nm {c : Code} {Q : Exit → Act → World → Prop} {a : Act} {w : World} (h : ∀ W, W = w → Code.wp Tryd.prog c Q a W) : Code.wp Tryd.prog c Q a w := h w rfl
theorem calls_nm {p : Program} {f : FuncId} {a : Array Value} {w : World} {Q : Ending → World → Prop} (h : ∀ W, W = w → Calls p f a W Q) : Calls p f a w Q := h w rfl
end Go.Proofs.YtdeollmeljaaoaaDoor.cs

import Derived.Test.YtdeollmeljaaoaaDoorQzk
import Derived.Test.YtdeollmeljaaoaaDoorSak
import Derived.Test.YtdeollmeljaaoaaDoorSfk
import Derived.Lib.AppendZerosOnto
import Derived.Shelf.LaysM
import Derived.Shelf.Strconv.Clone
import Derived.Test.YtdeollmeljaaoaaDoorProg
set_option linter.unusedVariables false
set_option linter.unusedSimpArgs false
set_option maxHeartbeats 2000000
open Go.ChangeAt Go.ChangeShapes Go.RowKit Go.Shelf Go.WideShapes
open Go.Lib (hid)
namespace Go.Proofs.YtdeollmeljaaoaaDoor.rd
open Go.Proofs.YtdeollmeljaaoaaDoor.cs
structure Tby (w : World) : Prop where
 p : Tbp w
 q : Tbq w
theorem Tby.below {w w' : World} (h : Tby w) (hb : Below w.heap.size w w') : Tby w' := ⟨h.p.below hb, h.q.below hb⟩
abbrev LY : List (String × DataW Unit) := [("padlock/lex.marks", Rows.laid_padlock_lex_marks), ("padlock/parse.worksOn", Rows.laid_padlock_parse_worksOn), ("padlock/parse.signs", Rows.laid_padlock_parse_signs), ("padlock/parse.comparisons", Rows.laid_padlock_parse_comparisons), ("padlock/parse.constants", Rows.laid_padlock_parse_constants), ("padlock/parse.kept", Rows.laid_padlock_parse_kept), ("padlock/parse.kinds", Rows.laid_padlock_parse_kinds)]
abbrev laidY : World → Prop := laidMet Tryd.prog LY
theorem Y_of {W : World} (h : laidY W) : Tby W := by
 obtain ⟨ps, ⟨g, t, cs, fuel, p, q, hg, ht, hv, hd, ⟨g1, t1, cs1, fuel1, p1, q1, hg1, ht1, hv1, hd1, ⟨g2, t2, cs2, fuel2, p2, q2, hg2, ht2, hv2, hd2, ⟨g3, t3, cs3, fuel3, p3, q3, hg3, ht3, hv3, hd3, ⟨g4, t4, cs4, fuel4, p4, q4, hg4, ht4, hv4, hd4, ⟨g5, t5, cs5, fuel5, p5, q5, hg5, ht5, hv5, hd5, ⟨g6, t6, cs6, fuel6, p6, q6, hg6, ht6, hv6, hd6, _, _⟩, _⟩, _⟩, _⟩, _⟩, _⟩, _⟩, _⟩ := h
 exact ⟨⟨⟨(mks_var hg ht hv hd), (wos_var hg1 ht1 hv1 hd1), (kps_var hg5 ht5 hv5 hd5), (kds_var hg6 ht6 hv6 hd6)⟩, (sgs_var hg2 ht2 hv2 hd2), (cos_var hg4 ht4 hv4 hd4)⟩, ⟨(mks_var hg ht hv hd), (kps_var hg5 ht5 hv5 hd5), (kds_var hg6 ht6 hv6 hd6), (sgs_var hg2 ht2 hv2 hd2), (cos_var hg4 ht4 hv4 hd4), (cms_var hg3 ht3 hv3 hd3)⟩⟩
noncomputable def tabledY (os : Os) : World :=
 { World.holding Tryd.prog os ⟨#[], #[], []⟩ with heap := ((((((((World.holding Tryd.prog os ⟨#[], #[], []⟩).heap.modify 5 (layC mkC)).modify 2 (layC woC)).modify 4 (layC sgC)).modify 6 (layC cmC)).modify 1 (layC coC)).modify 3 (layC kpC)).modify 0 (layC kdC)) }
theorem tabledY_laidY (os : Os) (args : Array Value) : laidY ((tabledY os).forCall (fun _ _ => 0) ⟨#[], args, []⟩).memory :=
 laidMet_of_run' 8 (by kernel_rfl) (by kernel_rfl)
end Go.Proofs.YtdeollmeljaaoaaDoor.rd
namespace Go.Proofs.YtdeollmeljaaoaaDoor
theorem Tryd.info45 : (Tryd.prog.info? 45).map (fun i => (i.zero, i.size, i.bytes)) = some (some (.agg #[.int .i64 0, .string ⟨#[]⟩, .int .i64 0]), 3, 32) := by kernel_rfl
def tk0 : Tk := ⟨0, [], 0⟩
def tkc : List Tk → List Value
 | [] => []
 | x :: l => .int .i64 x.k :: .string ⟨x.t.toArray⟩ :: .int .i64 x.n :: tkc l
theorem tkc_app : ∀ l m : List Tk, tkc (l ++ m) = tkc l ++ tkc m
 | [], _ => rfl
 | x :: l, m => by simp [tkc, tkc_app l m]
theorem tkc_length : ∀ l : List Tk, (tkc l).length = l.length * 3
 | [] => rfl
 | x :: l => by simp [tkc, tkc_length l]; omega
theorem tkc_one : ∀ (l : List Tk), ∀ u ∈ tkc l, u.oneCell' = true
 | [], u, hu => by simp [tkc] at hu
 | x :: l, u, hu => by
  simp only [tkc, List.mem_cons] at hu
  rcases hu with rfl | rfl | rfl | hu
  ·rfl
  ·rfl
  ·rfl
  ·exact tkc_one l u hu
theorem tkc_at : ∀ {l : List Tk} {k : Nat}, k < l.length → (tkc l)[k * 3]? = some (.int .i64 (l.getD k tk0).k) ∧ (tkc l)[k * 3 + 1]? = some (.string ⟨(l.getD k tk0).t.toArray⟩) ∧ (tkc l)[k * 3 + 2]? = some (.int .i64 (l.getD k tk0).n)
 | [], k, h => by simp at h
 | v :: l, 0, _ => by simp [tkc]
 | v :: l, k + 1, h => by
  have ih := tkc_at (l := l) (k := k) (by simpa using h)
  have e : (k + 1) * 3 = k * 3 + 1 + 1 + 1 := by omega
  rw [e]
  simpa [tkc] using ih
section
variable {ops : Array Oper} {rest : List Oper} {o : Oper} {a : Act} {Q : Exit → Act → World → Prop}
theorem apt (w : World) (hgd : o.guard = none) (s x : Operand) (ho : o.op = .call { callee := .builtin .append, args := #[s, x], argTypes := #[35, 35] })
  {B n : Nat} {v : Value} {xs : List Value} (hown : w.ownsRow B 45 3 v n xs) (hB : B ≤ w.heap.size) (hn : n ≤ 1000000) {i j : Int} {t : ByteArray}
  (H : Nat) (hH : w.heap.size = H) (hs : a.eval s = v) (hx : a.eval x = .slice (some ⟨H, 0, none⟩) 1 1)
  (h : ∀ v' w', w'.ownsRow B 45 3 v' (n + 1) (xs ++ [.int .i64 i, .string t, .int .i64 j]) → Below B w w' → w.grownBy w' v.ownBlock → wpList Tryd.prog ops Q rest (a.put o.dst v') w') :
  wpList Tryd.prog ops Q (o :: rest) a (w.alloc (.cells #[.int .i64 i, .string t, .int .i64 j] 45)) := by
 subst hH
 obtain ⟨i0, hi, hz0, hz1, hz2⟩ := info_parts Tryd.info45
 refine wpList_append_own_at _ hgd s x _ ho B 45 i0 _ 3 32 Tryd.underlying35 hi hz0 hz1 hz2 rfl (by decide) v n xs hs (hown.alloc _) _ 1 1 [.int .i64 i, .string t, .int .i64 j] hx rfl (new_cells w [.int .i64 i, .string t, .int .i64 j] _) (by intro u hu; simp at hu; rcases hu with rfl | rfl | rfl <;> rfl) (by unfold maxLen; omega) (by omega) (by simp; omega) ?_
 intro v' w' h1 h2 h3 h4
 have hg : w.grownBy w' v.ownBlock := (World.grownBy_alloc w _ _).trans h2
 exact h v' w' h1 ((Below.refl B w).grown hg hB (own_ge hown)) hg
end
def tzk (c : List UInt8) : Tk := ⟨if wb (c.getD 0 0) = true then 1 else 4, c, 0⟩
def tzf (c : List UInt8) : List Tk := if c = [] then [] else [tzk c]
def tzF : List UInt8 → List UInt8 → List Tk
 | c, [] => tzf c
 | c, b :: r => if b = 32 then tzf c ++ tzF [] r else tzF (c ++ [b]) r
def tz (l : List UInt8) : List Tk := tzF [] l
set_option maxRecDepth 100000 in
theorem grow_any (w : World) (n : Nat) (hn : n ≤ 1000000) : Calls Tryd.prog 60 #[.slice none 0 0, .int .i64 (n : Int)] w fun e w' => ∃ v, e = .returned v ∧ w'.ownsRow w.heap.size 45 3 v 0 [] ∧ Below w.heap.size w w' := by
 by_cases h0 : n = 0
 ·subst h0
  go_enter Tryd.func60, Tryd.ntmps60
  go_wp2_with fail
  go_ret
  exact ⟨_, rfl, World.ownsRow_nil _ _ _ _, Below.refl _ _⟩
 ·obtain ⟨i0, hi, hz0, hz1, hz2⟩ := info_parts Tryd.info45
  obtain ⟨G, hG⟩ : ∃ G, G = grownCap w (0 + n) 0 45 := ⟨_, rfl⟩
  have hrz : ∀ ty, ∃ cur : Array Value, (Builtin.append_ #[35, 3] ty #[.slice none 0 0, .int .i64 (n : Int)]).run Tryd.prog w = .ok (.slice (some ⟨w.heap.size, 0, none⟩) (0 + n) G) (w.drew.alloc (.cells cur 45)) ∧ cur.size = G * 3 ∧ n ≤ G ∧ G ≤ maxLen := fun ty => by
   have h := Lib.run_append_grow_zeros w 35 3 ty 45 i0 _ .i64 .i64 Tryd.underlying35 Tryd.underlying3 hi hz0 none 0 0 [] (run_firstCells_none w.drew i0.size 0 0 0) n (by omega) (by omega) (by omega) (by omega)
    (by rw [hz2]; omega) (by rw [hz2]; exact growslice_fits (by omega) (by omega))
   have hge := grownCap_ge w (0 + n) 0 45
   have hle := grownCap_le_maxLen w (0 + n) 0 45 (by unfold maxLen; omega)
   rw [← hG] at h hge hle
   refine ⟨_, h, ?_, by omega, hle⟩
   simp only [Array.size_append, List.size_toArray, size_zeroCells, List.length_nil]
   rw [show (Value.agg #[Value.int .i64 0, .string ⟨#[]⟩, .int .i64 0]).cells.size = 3 from rfl]
   omega
  have hgt : (n : Int) > 0 := by omega
  obtain ⟨cur, hr, h1, h2, h3⟩ := hrz 35
  have hm := h3
  unfold maxLen at hm
  have HO : Hid ((w.drew.alloc (.cells cur 45)).ownsRow w.heap.size 45 3 (.slice (some ⟨w.heap.size, 0, none⟩) 0 G) 0 []) := World.ownsRow_made w.drew cur G (Nat.le_refl _) h3 h1
  have HB : Hid (Below w.heap.size w (w.drew.alloc (.cells cur 45))) := (Below.refl _ _).drew.alloc (Nat.le_refl _) _
  rw [Nat.zero_add] at hr
  clear hrz h1 h3 hi hz0 hz1 hz2 hG
  go_enter Tryd.func60, Tryd.ntmps60
  go_wp2_with (at_builtin; refine Lib.wpList_append_run _ rfl _ _ _ _ rfl _ _ rfl rfl _ _ hr ?_)
  all_goals (go_ret; exact ⟨_, rfl, HO.out, HB.out⟩)
structure Pt where
 v : Value
 l : List Tk
def npt : Pt := ⟨.slice none 0 0, []⟩
def ptl (l : List Pt) : List Tk := l.flatMap Pt.l
theorem ptl_snoc {l : List Pt} {k : Nat} (h : k < l.length) : ptl (l.take (k + 1)) = ptl (l.take k) ++ (l.getD k npt).l := by
 unfold ptl
 rw [List.take_succ_eq_append_getElem h, List.flatMap_append]
 congr 1
 simp [List.getD, List.getElem?_eq_getElem h]
theorem ptl_le (l : List Pt) (k : Nat) : (ptl (l.take k)).length ≤ (ptl l).length := by
 have h : ptl l = ptl (l.take k) ++ ptl (l.drop k) := by
  unfold ptl
  rw [← List.flatMap_append, List.take_append_drop]
 rw [h, List.length_append]
 omega
theorem pgetD_mem {l : List Pt} {k : Nat} (h : k < l.length) : l.getD k npt ∈ l := by
 rw [List.getD, List.getElem?_eq_getElem h]
 exact List.getElem_mem h
theorem pv_at {l : List Pt} {k : Nat} (h : k < l.length) : (l.map Pt.v)[k]? = some (l.getD k npt).v := by
 rw [List.getElem?_map, List.getElem?_eq_getElem h, Option.map_some, List.getD, List.getElem?_eq_getElem h]
 rfl
theorem concat_any (w : World) (m : Nat) (v : Value) (ps : List Pt) (hm0 : 0 < m) (hm : m ≤ 1000) (hr : Rd w 1 m v (ps.map Pt.v)) (hp : ∀ p ∈ ps, Rd w 3 p.l.length p.v (tkc p.l)) (hT : (ptl ps).length ≤ 1000000) :
  Calls Tryd.prog 33 #[v] w fun e w' => ∃ v', e = .returned v' ∧ w'.ownsRow w.heap.size 45 3 v' (ptl ps).length (tkc (ptl ps)) ∧ Below w.heap.size w w' := by
 have hml : m = ps.length := by have := hr.1; simp at this; omega
 obtain ⟨b, o, cap, rfl, hmc, _, hbw, hcell⟩ := hr.pos hm0 (by omega)
 have HC : Hid (∀ k, k < m → w.cell? ⟨b, o + k, none⟩ = some (ps.getD k npt).v) := fun k hk => hcell k _ (pv_at (by omega))
 have HP := hid hp
 have HN := hid hml
 have HT := hid hT
 clear hcell hp hml hr hT
 go_enter Tryd.func33, Tryd.ntmps33
 go_wp2_with fail
 go_loopw [3, 11] (fun z i wr => ∃ k : Nat, k ≤ m ∧ i = .int .i64 (k : Int) ∧ (∃ n : Nat, z = .int .i64 (n : Int) ∧ Hid (n = (ptl (ps.take k)).length) ∧ n ≤ 1000000) ∧ wr = w) (fun _ i _ => m - (intOf i).toNat)
 case atStart => exact ⟨0, by omega, rfl, ⟨0, rfl, rfl, by omega⟩, rfl⟩
 case round =>
  obtain ⟨k, hk, rfl, ⟨n, rfl, HZ, hn⟩, hwr⟩ := hrel
  obtain rfl : w = wr := hwr.symm
  by_cases hlt : k < m
  ·have hll : k < ps.length := by rw [← HN.out]; exact hlt
   have c0 := HC.out k hlt
   have hrp := HP.out _ (pgetD_mem hll)
   have hsn := ptl_snoc hll
   have hle := ptl_le ps (k + 1)
   rw [hsn, List.length_append, ← HZ.out] at hle
   obtain ⟨_, ao, cp, hv, _⟩ := hrp
   obtain ⟨q, hq⟩ : ∃ q, q = (ps.getD k npt).l.length := ⟨_, rfl⟩
   rw [hv, ← hq] at c0
   rw [← hq] at hle
   have hq2 := Nat.le_trans hle HT.out
   have HS : Hid (n + q = (ptl (ps.take (k + 1))).length) := by
    show _ = _
    rw [hsn, List.length_append, ← HZ.out, ← hq]
   clear hle hsn hv hq hll
   have hw : (n : Int) + (q : Int) < 9223372036854775808 := by omega
   have hge : ¬ ((n : Int) + (q : Int) < 0) := by omega
   go_wp2_with fail
   go_roundw
   case rel => exact ⟨k + 1, by omega, by go_num, ⟨n + q, by go_num, HS.out, by omega⟩, trivial⟩
   case measure => simp [intOf]; omega
  ·obtain rfl : k = m := by omega
   have HG := hid (grow_any w n hn)
   have HX : Hid (ptl (ps.take 0) = []) := rfl
   go_wp2_with fail
   refine HG.out.mono ?_
   rintro e w1 ⟨v1, rfl, hown, hb1⟩
   have HO := hid hown
   have HB1 := hid hb1
   clear hown hb1 HG
   go_wp2_with fail
   go_loopw [6, 27] (fun u i wr => ∃ j : Nat, j ≤ k ∧ i = .int .i64 (j : Int) ∧ Hid (wr.ownsRow w.heap.size 45 3 u (ptl (ps.take j)).length (tkc (ptl (ps.take j)))) ∧ Hid (Below w.heap.size w wr)) (fun _ i _ => k - (intOf i).toNat)
   case atStart => exact ⟨0, by omega, rfl, HO.out, HB1.out⟩
   case round =>
    obtain ⟨j, hj, rfl, HU, HB⟩ := hrel
    by_cases hlt : j < k
    ·have hll : j < ps.length := by rw [← HN.out]; exact hlt
     have c0 := (HB.out.cell (p := ⟨b, o + j, none⟩) hbw).trans (HC.out j hlt)
     have hrp := (HP.out _ (pgetD_mem hll)).below HB.out
     have hsn := ptl_snoc hll
     have hle := ptl_le ps (j + 1)
     rw [hsn, List.length_append] at hle
     have hle2 := Nat.le_trans hle HT.out
     have hsz := HB.out.size
     obtain ⟨p, hpp⟩ : ∃ p, p = ps.getD j npt := ⟨_, rfl⟩
     rw [← hpp] at c0 hrp hsn hle2
     obtain ⟨pv, pl⟩ := p
     simp only at c0 hrp hsn hle2
     obtain ⟨r, hr⟩ : ∃ r, r = (ptl (ps.take j)).length := ⟨_, rfl⟩
     rw [← hr] at HU hle2
     obtain ⟨q, hq⟩ : ∃ q, q = pl.length := ⟨_, rfl⟩
     rw [← hq] at hrp hle2
     have HS : Hid (ptl (ps.take (j + 1)) = ptl (ps.take j) ++ pl) := hsn
     have HR := hid hrp
     have HQ : Hid (r + q = (ptl (ps.take (j + 1))).length) := by
      show _ = _
      rw [hsn, List.length_append, ← hr, ← hq]
     clear hle hsn hrp hr hq hpp hll
     obtain ⟨ao, cp, hv, hc1, hc2⟩ : ∃ ao cp, pv = .slice ao q cp ∧ q ≤ cp ∧ cp ≤ maxLen := by
      obtain ⟨_, ao, cp, hv, h1, h2, _⟩ := HR.out
      exact ⟨ao, cp, hv, h1, h2⟩
     subst hv
     go_wp2_with (at_builtin; refine apg _ q rfl _ _ 35 45 _ 3 32 Tryd.underlying35 Tryd.info45 rfl (by omega) rfl HU.out hsz (by omega) (by unfold maxLen; omega) (tkc_one _) HR.out rfl rfl ?_; intro v3 w3 hown3 hb3 _; have HO3 := hid hown3; have HB3 := hid (HB.out.trans hb3); clear hown3 hb3)
     go_roundw
     case rel =>
      refine ⟨j + 1, by omega, by go_num, ?_, HB3.out⟩
      show World.ownsRow _ _ _ _ _ _ _
      rw [← HQ.out, HS.out, tkc_app]
      exact HO3.out
     case measure => simp [intOf]; omega
    ·obtain rfl : j = k := by omega
     have HE : Hid (ps.take j = ps) := by
      show _ = _
      rw [List.take_of_length_le (by rw [← HN.out]; exact Nat.le_refl _)]
     go_wp2_with fail
     go_ret
     refine ⟨_, rfl, ?_, HB.out⟩
     have h := HU.out
     rw [HE.out] at h
     exact h
end Go.Proofs.YtdeollmeljaaoaaDoor
namespace Go.Proofs
def Tryd.laysM316_ren : Go.Shelf.Ren := ⟨fun | 316 => 82 | n => n, fun | 9 => 9 | 3 => 3 | 4 => 4 | 37 => 76 | 0 => 0 | 127 => 124 | 5 => 5 | n => n, fun | n => n⟩
theorem Tryd.laysM316 : Go.Proofs.LaysM.n316 Tryd.prog Tryd.laysM316_ren := {
 mixed := by kernel_rfl
 f316 := Tryd.func82.trans (congrArg some (by kernel_rfl))
 t0 := Tryd.underlying0
 a0 := Tryd.isAgg0
 z0 := Tryd.sizeOf0
 v0 := Tryd.zeroValue0
 t3 := Tryd.underlying3
 a3 := Tryd.isAgg3
 z3 := Tryd.sizeOf3
 v3 := Tryd.zeroValue3
 t4 := Tryd.underlying4
 a4 := Tryd.isAgg4
 z4 := Tryd.sizeOf4
 v4 := Tryd.zeroValue4
 t9 := Tryd.underlying9
 a9 := Tryd.isAgg9
 z9 := Tryd.sizeOf9
 v9 := Tryd.zeroValue9
 t37 := Tryd.underlying76
 a37 := Tryd.isAgg76
 z37 := Tryd.sizeOf76
 v37 := Tryd.zeroValue76
 t127 := Tryd.underlying124
 a127 := Tryd.isAgg124
 z127 := Tryd.sizeOf124
 v127 := Tryd.zeroValue124
 t5 := Tryd.underlying5
 a5 := Tryd.isAgg5
 z5 := Tryd.sizeOf5
 v5 := Tryd.zeroValue5
 i0 := by kernel_rfl
 i3 := by kernel_rfl
 i4 := by kernel_rfl
 i5 := by kernel_rfl
 i9 := by kernel_rfl
 i37 := by kernel_rfl
 i127 := by kernel_rfl }
open Go.RowKit in
theorem Tryd.stringslite_Clone (s : ByteArray) (w : World) (hlim : s.size ≤ 281474976710656) :
  Calls Tryd.prog 82 #[.string s] w fun e w' => e = .returned (.string s) ∧ Below w.heap.size w w' := Any.stringslite_Clone Tryd.laysM316 s w hlim
end Go.Proofs
namespace Go.Proofs.YtdeollmeljaaoaaDoor
structure Cq where
 t : ByteArray
 k : Int
def ncq : Cq := ⟨⟨#[]⟩, 0⟩
def ccs : List Cq → List Value
 | [] => []
 | c :: l => .string c.t :: .int .i64 c.k :: ccs l
theorem ccs_app : ∀ l m : List Cq, ccs (l ++ m) = ccs l ++ ccs m
 | [], _ => rfl
 | v :: l, m => by simp [ccs, ccs_app l m]
theorem ccs_length : ∀ l : List Cq, (ccs l).length = l.length * 2
 | [] => rfl
 | v :: l => by simp [ccs, ccs_length l]; omega
theorem ccs_at : ∀ {l : List Cq} {k : Nat}, k < l.length → (ccs l)[k * 2]? = some (.string (l.getD k ncq).t) ∧ (ccs l)[k * 2 + 1]? = some (.int .i64 (l.getD k ncq).k)
 | [], k, h => by simp at h
 | v :: l, 0, _ => by simp [ccs]
 | v :: l, k + 1, h => by
  have ih := ccs_at (l := l) (k := k) (by simpa using h)
  have e : (k + 1) * 2 = k * 2 + 1 + 1 := by omega
  rw [e]
  simpa [ccs] using ih
theorem ccs_take : ∀ (l : List Cq) (j : Nat), (ccs l).take (j * 2) = ccs (l.take j)
 | [], j => by simp [ccs]
 | a :: l, 0 => by simp [ccs]
 | a :: l, j + 1 => by
  have e : (j + 1) * 2 = j * 2 + 1 + 1 := by omega
  rw [e, ccs, List.take_succ_cons, List.take_succ_cons, ccs_take l j, List.take_succ_cons, ccs]
def hasC (l : List Cq) (t : ByteArray) : Bool := l.any fun c => c.t.toList == t.toList
def clF : List Cq → List Cq → Int
 | _, [] => 0
 | m, c :: l => if nmF c.t.data.toList ≠ 0 then nmF c.t.data.toList else if c.k < 1 ∨ 3 < c.k then 2 else if hasC m c.t = true then 9 else clF (m ++ [c]) l
def colsF (l : List Cq) : Int := if l.length < 1 ∨ 6 < l.length then 1 else clF [] l
theorem cdrop_cons {l : List Cq} {k : Nat} (h : k < l.length) : l.drop k = l.getD k ncq :: l.drop (k + 1) := by
 rw [List.drop_eq_getElem_cons h]
 simp [List.getD, List.getElem?_eq_getElem h]
theorem ctake_snoc {l : List Cq} {k : Nat} (h : k < l.length) : l.take (k + 1) = l.take k ++ [l.getD k ncq] := by
 rw [List.take_succ_eq_append_getElem h]
 simp [List.getD, List.getElem?_eq_getElem h]
theorem cgetD_mem {l : List Cq} {k : Nat} (h : k < l.length) : l.getD k ncq ∈ l := by
 rw [List.getD, List.getElem?_eq_getElem h]
 exact List.getElem_mem h
def ColOk (l : List Cq) : Prop := ∀ c ∈ l, nmF c.t.data.toList = 0 ∧ 1 ≤ c.k ∧ c.k ≤ 3
theorem clF_ok : ∀ (l m : List Cq), clF m l = 0 → ColOk l
 | [], _, _ => fun c hc => by cases hc
 | c :: l, m, h => by
  unfold clF at h
  split at h
  ·omega
  ·split at h
   ·omega
   ·split at h
    ·omega
    ·intro d hd
     rcases List.mem_cons.1 hd with rfl | hd
     ·exact ⟨by omega, by omega, by omega⟩
     ·exact clF_ok l _ h d hd
theorem colsF_ok {l : List Cq} (h : colsF l = 0) : ColOk l ∧ 1 ≤ l.length ∧ l.length ≤ 6 := by
 unfold colsF at h
 split at h
 ·omega
 ·exact ⟨clF_ok _ _ h, by omega, by omega⟩
end Go.Proofs.YtdeollmeljaaoaaDoor

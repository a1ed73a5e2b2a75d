/- Pages that were met: a set in a map. -/
import Derived.Test.YtahammkjkfdmhaaH5
import Derived.Maps.OwnSet
import Derived.RangeFuncNested
import Derived.RangeFuncBound
import Derived.RangeFuncCalls
import Derived.RangeFuncLeaves
import Derived.Shelf.Abstract
import Derived.Shelf.RegionOpen
import Derived.OwnWalkIn
import Derived.TacticsInMore
import Derived.LoopNIn
import Derived.LoopIn
import Derived.Sort.QuietIn
import Derived.Shelf.SlSortCmp.QuietGrown
namespace Go.Proofs.Ytahammkjkfdmhaa
open Go.ChangeShapes Go.WideShapes Go.ChangeAt Go.RowKit Go.Maps
set_option linter.unusedVariables false
set_option linter.unusedSimpArgs false
set_option maxHeartbeats 1000000
def litN (i : Nat) : Lit := .int .i64 (i : Int)
/-- A set of places. -/
def Sd (a : List Nat) : DataW Unit := setOf (.agg []) (a.map litN)
theorem litN_key (a : List Nat) : ∀ x ∈ a.map litN, WideAt.IsKeyLit x := by
  intro x hx
  obtain ⟨i, _, rfl⟩ := List.mem_map.1 hx
  exact trivial
theorem Sd_snoc (a : List Nat) (i : Nat) : Sd (a ++ [i]) = (Sd a).put (litN i) (.agg []) := by
  unfold Sd
  rw [List.map_append, List.map_singleton, setOf_snoc]
theorem has_Sd (a : List Nat) (i : Nat) : Maps.has (Sd a) (litN i) = decide (i ∈ a) := by
  unfold Sd
  rw [has_setOf _ _ _ (litN_key a), Bool.eq_iff_iff, List.any_eq_true, decide_eq_true_eq]
  constructor
  · rintro ⟨x, hx, hs⟩
    obtain ⟨j, hj, rfl⟩ := List.mem_map.1 hx
    have : j = i := by
      have : (j : Int) = (i : Int) := by simpa [litN, Lit.sameKey] using hs
      omega
    rw [← this]; exact hj
  · intro h
    exact ⟨litN i, List.mem_map.2 ⟨i, h, rfl⟩, by simp [litN, Lit.sameKey]⟩
theorem size_Sd (a : List Nat) (h : a.Nodup) : Maps.size (Sd a) = a.length := by
  unfold Sd
  rw [size_setOf _ _ (litN_key a)]
  have : ∀ (a b : List Nat), (b ++ a).Nodup → (a.map litN).foldl addKey (b.map litN) = (b ++ a).map litN := by
    intro a
    induction a with
    | nil => intro b _; simp
    | cons x a ih =>
      intro b hb
      have hx : x ∉ b := by
        intro hx
        have := (List.nodup_append.1 hb).2.2 x hx x (by simp)
        exact this rfl
      have e : addKey (b.map litN) (litN x) = (b ++ [x]).map litN := by
        have hno : (b.map litN).any (fun y => y.sameKey (litN x)) = false := by
          rw [List.any_eq_false]
          intro y hy
          obtain ⟨j, hj, rfl⟩ := List.mem_map.1 hy
          have : j ≠ x := by rintro rfl; exact hx hj
          simp [litN, Lit.sameKey]
          omega
        simp [addKey, hno]
      rw [List.map_cons, List.foldl_cons, e, ih (b ++ [x]) (by simpa using hb)]
      simp
  have h0 := this a [] (by simpa using h)
  simp only [List.map_nil, List.nil_append] at h0
  rw [h0, List.length_map]
theorem law3 : Keyed Try.prog 3 := int_keyed Try.underlying3
theorem zero_u (w : World) : (zeroValue 92).run Try.prog w = .ok (.agg #[]) w := by kernel_rfl
/-- Block B is the set of these places. -/
def Seen (w : World) (B : Nat) (a : List Nat) : Prop := w.ownsMap Try.prog 3 unitElem B a.length (Sd a)
theorem Seen.far {w w' : World} {B : Nat} {a : List Nat} (h : Seen w B a) (hb : w'.heap[B]? = w.heap[B]?) : Seen w' B a := by
  obtain ⟨es, clock, h1, h2⟩ := h
  exact ⟨es, clock, hb.trans h1, h2⟩
theorem Seen.lt {w : World} {B : Nat} {a : List Nat} (h : Seen w B a) : B < w.heap.size := by
  obtain ⟨es, clock, h1, h2⟩ := h
  exact (Array.getElem?_eq_some_iff.1 h1).1
/-- What 'meet' answers. -/
def MeetIs (w : World) (B : Nat) (a : List Nat) (p : List Nat) (e : Ending) (w' : World) : Prop :=
  ∃ b : Bool, e = .returned (.bool b) ∧ (b = true ↔ (a ++ p).Nodup) ∧ (b = true → Seen w' B (a ++ p)) ∧ w.grownBy w' (some B)
theorem MeetIs.no {w w' : World} {B : Nat} {a p : List Nat} (h : ¬ (a ++ p).Nodup) (hg : w.grownBy w' (some B)) : MeetIs w B a p (.returned (.bool false)) w' := ⟨false, rfl, by simp [h], by simp, hg⟩
theorem MeetIs.yes {w w' : World} {B : Nat} {a p : List Nat} (h : (a ++ p).Nodup) (hs : Seen w' B (a ++ p)) (hg : w.grownBy w' (some B)) : MeetIs w B a p (.returned (.bool true)) w' := ⟨true, rfl, by simp [h], fun _ => hs, hg⟩
theorem pl_at {l : List Spot} {k : Nat} (h : k < l.length) : (l.map (·.1)).take (k + 1) = (l.map (·.1)).take k ++ [(l.getD k sp0).1] := by
  rw [take_nextG (d := 0) (by simpa using h)]
  simp [List.getD, h]
theorem meet_any (w : World) (ok : Nat → Prop) (lv : Value) (l : List Spot) (B : Nat) (a : List Nat) (hl : RS w ok lv l) (hs : Seen w B a) (ha : a.Nodup) (hp : ∀ x ∈ l, x.1 < 1000000) (hn : a.length ≤ 1000000) (hll : l.length ≤ 1000000) :
    Calls Try.prog 59 #[.map (some B), lv] w (MeetIs w B a (l.map (·.1))) := by
  obtain ⟨al, lcap, uf, hf, rfl, e1, e2, e3⟩ := spotsF hl
  obtain ⟨L, hL⟩ : ∃ L, L = l.length := ⟨_, rfl⟩
  rw [← hL] at e1 e3 hll
  rw [← hL]
  unfold maxLen at e2
  have hBlt := hs.lt
  have HL := Lib.hid hL
  have HS := Lib.hid e3
  have HP := Lib.hid hp
  have HA := Lib.hid ha
  have HSE := Lib.hid hs
  clear hL e3 hl hp ha hs
  go_enter Try.func59, Try.ntmps59
  go_wp2
  go_loopw [11] (fun i wr => ∃ k : Nat, k ≤ L ∧ i = .int .i64 (k : Int) ∧ Seen wr B (a ++ (l.map (·.1)).take k) ∧ (a ++ (l.map (·.1)).take k).Nodup ∧ w.grownBy wr (some B)) (fun i _ => L - (intOf i).toNat)
  case atStart => exact ⟨0, by omega, rfl, by simpa using HSE.out, by simpa using HA.out, World.grownBy.refl _ _⟩
  case round =>
    obtain ⟨k, hk, rfl, hse, hnd, hg⟩ := hrel
    have hgz := hg.size
    by_cases hlt : k < L
    · have hkl : k < l.length := by rw [← HL.out]; exact hlt
      have HPL := Lib.hid (pl_at hkl)
      have HKL := Lib.hid hkl
      obtain ⟨b, o, rfl, hbl, c0, c1, c2, c3, c4⟩ := HS.out k hlt
      obtain ⟨x, hx⟩ : ∃ x, x = l.getD k sp0 := ⟨_, rfl⟩
      rw [← hx] at c0 c3 c4 HPL
      have hxm : x ∈ l := by
        rw [hx]
        simp only [List.getD, List.getElem?_eq_getElem hkl, Option.getD_some]
        exact List.getElem_mem hkl
      have hx6 := HP.out x hxm
      obtain ⟨n, lo, hi⟩ := x
      simp only at c0 c3 c4 hx6 HPL
      obtain ⟨alo, clo, elo⟩ := c3.sh
      obtain ⟨ahi, chi, ehi⟩ := c4.sh
      rw [elo] at c1
      rw [ehi] at c2
      obtain ⟨nlo, hnlo⟩ : ∃ q, q = lo.length := ⟨_, rfl⟩
      obtain ⟨nhi, hnhi⟩ : ∃ q, q = hi.length := ⟨_, rfl⟩
      rw [← hnlo] at c1
      rw [← hnhi] at c2
      have hbB : b ≠ B := by
        rintro rfl
        obtain ⟨es, clock, h1, _⟩ := HSE.out
        simp [World.cell?, h1] at c0
      have hb0 : ∀ j, wr.cell? ⟨b, j, none⟩ = w.cell? ⟨b, j, none⟩ := fun j => hg.cell_far ⟨b, j, none⟩ hbl (fun e => hbB (Option.some.inj e))
      have c0' := (hb0 _).trans c0
      have c1' := (hb0 _).trans c1
      have c2' := (hb0 _).trans c2
      obtain ⟨A, hA⟩ : ∃ A, A = a ++ (l.map (·.1)).take k := ⟨_, rfl⟩
      rw [← hA] at hse hnd
      have hAl : A.length ≤ 3000000 := by rw [hA, List.length_append, List.length_take, List.length_map]; omega
      obtain ⟨m, hm⟩ : ∃ m, m = A.length := ⟨_, rfl⟩
      have hseen : wr.ownsMap Try.prog 3 unitElem B m (Sd A) := by rw [hm]; exact hse
      rw [← hm] at hAl
      have hBwr : B < wr.heap.size := hse.lt
      have HN := Lib.hid hnd
      have HG := Lib.hid hg
      have HAA := Lib.hid hA
      have HOW := Lib.hid hseen
      have HMM := Lib.hid hm
      have hkey : keyOf Try.prog 3 (.int .i64 (n : Int)) = some (litN n) := keyOf_int_mk Try.underlying3 (WalkArith.wf_i64 (by omega))
      have HKEY := Lib.hid hkey
      have hbr : b < wr.heap.size := by omega
      have hhas := has_Sd A n
      obtain ⟨q, hq⟩ : ∃ q : Bool, q = Maps.has (Sd A) (litN n) := ⟨_, rfl⟩
      rw [← hq] at hhas
      have HQ := Lib.hid hq
      have HH := Lib.hid hhas
      clear hse hnd hg hA hseen hm hkey hx hxm elo ehi hnlo hnhi hb0 c0 c1 c2 c3 c4 hkl hq hhas
      cases q with
      | true =>
        go_wp2_with (at_lookup; refine wpList_lookup_own_unit _ rfl _ _ 83 rfl 3 92 law3 Try.underlying83 (zero_u _) B m (Sd A) rfl (HOW.out.alloc _) _ _ rfl HKEY.out ?_; rw [← HQ.out])
        go_ret
        refine MeetIs.no ?_ (((HG.out.trans (World.grownBy_alloc _ _ _)).trans (World.grownBy_alloc _ _ _)))
        have h1 := HH.out
        simp at h1
        intro h2
        have h3 : (a ++ (l.map (·.1)).take (k + 1)).Nodup := h2.sublist (List.Sublist.append_left (List.take_sublist _ _) _)
        rw [HPL.out, ← List.append_assoc, ← HAA.out] at h3
        exact (List.nodup_append.1 h3).2.2 n h1 n (by simp) rfl
      | false =>
        go_wp2_with (first
          | (at_lookup; refine wpList_lookup_own_unit _ rfl _ _ 83 rfl 3 92 law3 Try.underlying83 (zero_u _) B m (Sd A) rfl (HOW.out.alloc _) _ _ rfl HKEY.out ?_; rw [← HQ.out])
          | (at_mapUpdate; refine wpList_mapUpdate_own _ rfl _ _ _ 83 rfl 3 92 law3 Try.underlying83 (unitElem (H := Unit)) B m _ rfl ((HOW.out.alloc _).alloc _) (by unfold maxLen; omega) _ _ _ rfl rfl HKEY.out _ [] unitElem_mk ?_; intro w1 hown1 hgrow1))
        go_roundw
        case rel =>
          have e : a ++ (l.map (·.1)).take (k + 1) = A ++ [n] := by rw [HPL.out, ← List.append_assoc, ← HAA.out]
          refine ⟨k + 1, by omega, by go_num, ?_, ?_, ((HG.out.trans (World.grownBy_alloc _ _ _)).trans (World.grownBy_alloc _ _ _)).trans hgrow1⟩
          · rw [e]
            unfold Seen
            rw [Sd_snoc, List.length_append, ← HMM.out]
            exact hown1
          · rw [e]
            have h1 := HH.out
            simp at h1
            rw [List.nodup_append]
            exact ⟨HN.out, by simp, fun x hx y hy => by
              simp only [List.mem_singleton] at hy
              subst hy
              rintro rfl
              exact h1 hx⟩
        case measure => simp [intOf]; omega
    · obtain rfl : k = L := by omega
      have e : (l.map (·.1)).take k = l.map (·.1) := List.take_of_length_le (by rw [List.length_map, ← HL.out]; exact Nat.le_refl _)
      rw [e] at hse hnd
      have H1 := Lib.hid hse
      have H2 := Lib.hid hnd
      have H3 := Lib.hid hg
      clear hse hnd hg e
      go_wp2
      go_ret
      exact MeetIs.yes H2.out H1.out H3.out
end Go.Proofs.Ytahammkjkfdmhaa
/- Levels gone through from the last one on: the library's iterator. -/
namespace Go.Proofs.Ytahammkjkfdmhaa
open Go.ChangeShapes Go.WideShapes Go.ChangeAt Go.RowKit Go.Shelf
set_option linter.unusedVariables false
set_option linter.unusedSimpArgs false
attribute [local go_sem] Oper.semAt_some
/-- From the last one on. -/
def revs (L k : Nat) : List (Fin L) := (List.finRange L).reverse.take k
theorem revs_len {L k : Nat} (h : k ≤ L) : (revs L k).length = k := by simp [revs, h]
theorem revs_succ {L k : Nat} (h : k < L) : revs L (k + 1) = revs L k ++ [⟨L - 1 - k, by omega⟩] := by
  unfold revs
  rw [List.take_succ_eq_append_getElem (by simpa using h)]
  congr 2
  simp
theorem revs_all (L : Nat) : revs L L = (List.finRange L).reverse := by
  unfold revs
  exact List.take_of_length_le (by simp)
/-- A level's cells, whatever stands in them. -/
def Cells3 (n₀ : Nat) (W : World) (ao : Option Addr) (L : Nat) (p : Nat → Int) (ua ha : Nat → Option Addr) (un uc hn hc : Nat → Nat) : Prop :=
  ∀ i, i < L → ∃ b o, ao = some ⟨b, o, none⟩ ∧ b < n₀ ∧ W.cell? ⟨b, o + i * 3, none⟩ = some (.int .i64 (p i)) ∧ W.cell? ⟨b, o + i * 3 + 1, none⟩ = some (.slice (ua i) (un i) (uc i)) ∧ W.cell? ⟨b, o + i * 3 + 2, none⟩ = some (.slice (ha i) (hn i) (hc i))
theorem Cells3.below {n₀ : Nat} {W W' : World} {ao : Option Addr} {L : Nat} {p : Nat → Int} {ua ha : Nat → Option Addr} {un uc hn hc : Nat → Nat} (h : Cells3 n₀ W ao L p ua ha un uc hn hc) (hb : Below n₀ W W') : Cells3 n₀ W' ao L p ua ha un uc hn hc := fun i hi => by
  obtain ⟨b, o, h0, h1, h2, h3, h4⟩ := h i hi
  exact ⟨b, o, h0, h1, (hb.cell (p := ⟨b, _, none⟩) h1).trans h2, (hb.cell (p := ⟨b, _, none⟩) h1).trans h3, (hb.cell (p := ⟨b, _, none⟩) h1).trans h4⟩
/-- What a round keeps: what lay below, and the box of the slice. -/
def KpB (n₀ Bs : Nat) (W W' : World) : Prop := Below n₀ W W' ∧ ∀ v, W.cell? ⟨Bs, 0, none⟩ = some v → W'.cell? ⟨Bs, 0, none⟩ = some v
theorem KpB.refl (n₀ Bs : Nat) (W : World) : KpB n₀ Bs W W := ⟨Below.refl _ _, fun _ h => h⟩
theorem KpB.b {n₀ Bs : Nat} {w : World} (hn : n₀ ≤ w.heap.size) (W : World) (l : Nat) (o o' : Obj) (hl : w.heap.size ≤ l) (ho : W.heap[l]? = some o) (hc : o.isCells = false) (hw : o.isWalk = false) : KpB n₀ Bs W (W.putObj l o') :=
  ⟨belowK_b (w := w) hn W l o o' hl ho hc hw, fun v hv => cell_kept hv (grownBy_putObj' _ l o') (fun r e => by cases e; exact ⟨_, ho, hc⟩)⟩
theorem KpB.t {n₀ Bs : Nat} {A B C : World} (h : KpB n₀ Bs A B) (h' : KpB n₀ Bs B C) : KpB n₀ Bs A C := ⟨h.1.trans h'.1, fun v hv => h'.2 v (h.2 v hv)⟩
set_option maxRecDepth 100000 in
set_option maxHeartbeats 2000000 in
theorem back1_in (F : Fence) (n : Nat) (h7 : F.fn 69) (hro : F.round = none) (hn' : 1 ≤ n) (l Bs n₀ L cap : Nat) (ao : Option Addr) (p : Nat → Int) (ua ha : Nat → Option Addr) (un uc hn hc : Nat → Nat) (hL : L ≤ 1000000) (J Jx : List (Fin L) → World → Prop)
    (hY : ∀ (pre : List (Fin L)) (x : Fin L) (W : World), J pre W → pre.length < L → YieldAt F (n - 1) Try.prog l #[.int .i64 ((x : Nat) : Int), .agg #[.int .i64 (p x), .slice (ua x) (un x) (uc x), .slice (ha x) (hn x) (hc x)]] W fun e W' =>
      (e = .returned (.bool true) ∧ J (pre ++ [x]) W' ∧ KpB n₀ Bs W W') ∨ (e = .returned (.bool false) ∧ Jx (pre ++ [x]) W'))
    (W : World) (hBc : W.cell? ⟨Bs, 0, none⟩ = some (.slice ao L cap)) (hcs : Cells3 n₀ W ao L p ua ha un uc hn hc) (h0 : J [] W) :
    CallsIn F n Try.prog 69 #[.func (.yield l) #[] #[], .pointer (some ⟨Bs, 0, none⟩)] W fun e W' => (∃ v, e = .returned v) ∧
      ((∃ ys, ys = revs L L ∧ J ys W') ∨ (∃ pre, (∃ k, k ≤ L ∧ pre = revs L k) ∧ Jx pre W')) := by
  have HCS := Lib.hid hcs
  clear hcs
  refine callsIn_of_wp Try.func69 rfl h7 ?_ hro
  simp only [Try.ntmps69, List.size_toArray, List.length_cons, List.length_nil, Nat.reduceAdd, Nat.reduceSub, Array.replicate_succ, Array.replicate_zero, List.push_toArray, List.append_toArray, List.nil_append, List.cons_append]
  gi_wp2
  gi_loopw [3] (fun i wr => ∃ k : Nat, k ≤ L ∧ i = .int .i64 ((L : Int) - 1 - (k : Int)) ∧ J (revs L k) wr ∧ KpB n₀ Bs W wr)
    (fun i _ => (intOf i + 1).toNat)
  case atStart => exact ⟨0, Nat.zero_le _, by simp, h0, KpB.refl _ _ _⟩
  case round =>
    obtain ⟨k, hk, rfl, hJs, hnx⟩ := hrel
    have HJS := Lib.hid hJs
    clear hJs
    have hBc' : wr.cell? ⟨Bs, 0, none⟩ = some (.slice ao L cap) := hnx.2 _ hBc
    by_cases hlt : k < L
    · obtain ⟨m, hm⟩ : ∃ m : Nat, m = L - 1 - k := ⟨_, rfl⟩
      have hmL : m < L := by omega
      have hmi : (L : Int) - 1 - (k : Int) = (m : Int) := by omega
      rw [hmi]
      have hsucc : revs L (k + 1) = revs L k ++ [⟨m, hmL⟩] := by rw [revs_succ hlt]; simp [hm]
      have HSU := Lib.hid hsucc
      have HMI := Lib.hid hmi
      obtain ⟨b, o, rfl, hb, d0, d1, d2⟩ := (HCS.out.below hnx.1) m hmL
      obtain ⟨fn, tmps, assign, body, hy, hR⟩ := hY _ ⟨m, hmL⟩ wr HJS.out (by rw [revs_len hk]; exact hlt)
      dsimp only at hy hR
      clear hsucc hmi hm
      gi_wp2
      refine hR.mono ?_
      rintro e W3 (⟨rfl, hJ3, hk3⟩ | ⟨rfl, hJx3⟩)
      · gi_wp2
        go_roundw
        case rel => exact ⟨k + 1, by omega, by have := HMI.out; congr 1 <;> omega, by rw [HSU.out]; exact hJ3, hnx.t hk3⟩
        case measure => have := HMI.out; simp [intOf]; try omega
      · gi_wp2
        refine bodyPost_ret (results_none rfl _ _ _) rfl ?_
        exact ⟨⟨_, rfl⟩, .inr ⟨_, ⟨k + 1, by omega, HSU.out.symm⟩, hJx3⟩⟩
    · obtain rfl : k = L := by omega
      have hmi : (k : Int) - 1 - (k : Int) = -1 := by omega
      rw [hmi]
      gi_wp2
      go_end0
      exact ⟨⟨_, rfl⟩, .inl ⟨_, rfl, HJS.out⟩⟩
set_option maxHeartbeats 1000000 in
theorem back_in (F : Fence) (n : Nat) (h5 : F.fn 65) (hro : F.round = none) (a : Option Addr) (len cap : Nat) (w : World) :
    CallsIn F n Try.prog 65 #[.slice a len cap] w fun e w' => e = .returned (.func (.func 69) #[] #[.pointer (some ⟨w.heap.size, 0, none⟩)]) ∧ w' = w.alloc (.cells #[.slice a len cap] 86) := by
  refine callsIn_of_wp Try.func65 rfl h5 ?_ hro
  simp only [Try.ntmps65, List.size_toArray, List.length_cons, List.length_nil, Nat.reduceAdd, Nat.reduceSub, Array.replicate_succ, Array.replicate_zero, List.push_toArray, List.append_toArray, List.nil_append, List.cons_append]
  gi_wp2
  go_ret
  exact ⟨rfl, rfl⟩
theorem back_stops (F : Fence) (n : Nat) (h7 : F.fn 69) (hro : F.round = none) (hn' : 1 ≤ n) (Bs n₀ L cap : Nat) (ao : Option Addr) (p : Nat → Int) (ua ha : Nat → Option Addr) (un uc hn hc : Nat → Nat) (hL : L ≤ 1000000) (w : World) (hBs : Bs < w.heap.size) (hn₀ : n₀ ≤ w.heap.size)
    (hBc : w.cell? ⟨Bs, 0, none⟩ = some (.slice ao L cap)) (hcs : Cells3 n₀ w ao L p ua ha un uc hn hc) :
    SeqStopsK F n Try.prog 69 #[.pointer (some ⟨Bs, 0, none⟩)] (fun x : Fin L => #[.int .i64 ((x : Nat) : Int), .agg #[.int .i64 (p x), .slice (ua x) (un x) (uc x), .slice (ha x) (hn x) (hc x)]]) (KpB n₀ Bs) (fun ys => ys = revs L L) (fun pre => ∃ k, k ≤ L ∧ pre = revs L k) L w := fun l J Jx W hW _ _ hY h0 =>
  back1_in F n h7 hro hn' l Bs n₀ L cap ao p ua ha un uc hn hc hL J Jx hY W ((hW.cell (p := ⟨Bs, 0, none⟩) (by show Bs < _; exact hBs)).trans hBc) (hcs.below (hW.mono hn₀)) h0
end Go.Proofs.Ytahammkjkfdmhaa
/- A region that draws its order, inside a round of a range over a function: one walk serves every order. -/
namespace Go.Proofs.Ytahammkjkfdmhaa
open Go.Sort
set_option linter.unusedVariables false
section
variable {F : Fence} {n : Nat} {P : Program} {ops : Array Oper} {md : Region.Mode} {C : World → Prop}
/-- No operation of these defers. -/
def plainOps (ops : Array Oper) : Bool := ops.all fun o => match o.op with | .defer _ => false | _ => true
theorem not_defer (h : plainOps ops = true) {i : Nat} {o : Oper} (ho : ops[i]? = some o) : ∀ c, o.op ≠ .defer c := by
  intro c hc
  have hm : o ∈ ops := Array.mem_of_getElem? ho
  have h1 := (Array.all_eq_true_iff_forall_mem.1 h) o hm
  rw [hc] at h1
  cases h1
theorem oneR {o : Oper} {a : Act} {K : Act → Prop} {K' : Act → World → Prop} {Q' : Exit → Act → World → Prop} {w : World} (hnd : ∀ c, o.op ≠ .defer c) (hw : C w)
    (hK : ∀ a w', C w' → K a → K' a w') (ha : o.askedIn F P a C) (hq : o.quietIn F n P a C K) : o.wpIn F n P a w K' Q' := by
  refine ⟨ha w hw, ?_⟩
  rw [Oper.semAt_eq _ _ _ hnd]
  obtain ⟨v, hv, hk⟩ := hq
  have hr : Oper.quietUponIn F n P C w v ((execOp a.eval o).run P w) := hv w hw
  revert hr
  cases (execOp a.eval o).run P w with
  | halt x w' => exact fun hr => hr.elim
  | ok x w' =>
    cases x with
    | value u =>
      intro hr
      obtain ⟨rfl, rfl⟩ := hr
      exact hK _ _ hw hk
    | skip =>
      intro hr
      obtain ⟨rfl, rfl⟩ := hr
      exact hK _ _ hw hk
    | enter f args =>
      intro hr
      obtain ⟨rfl, h1, h2⟩ := hr
      refine ⟨h1, h2.mono fun e w2 he => ?_⟩
      obtain ⟨rfl, hc⟩ := he
      exact hK _ _ hc hk
    | _ => exact fun hr => hr.elim
theorem anyR {Q : Act → Prop} {Q' : Exit → Act → World → Prop} (hp : plainOps ops = true) (hQ : ∀ a w, C w → Q a → Q' .normal a w) (fuel : Nat) : ∀ (listed : Array Bool) (a : Act) (w : World), C w → wpAnyQIn F n P md ops C Q fuel listed a → wpAnyIn F n P md ops Q' fuel listed a w := by
  induction fuel with
  | zero => exact fun _ _ _ hw h => ⟨h.1, hQ _ _ hw h.2⟩
  | succ k ih =>
    refine fun listed a w hw h => ⟨fun h0 => hQ _ _ hw (h.1 h0), fun i hi => ?_⟩
    have hi2 := h.2 i hi
    unfold qOpIn at hi2
    unfold wpOpIn
    cases ho : ops[i]? with
    | none =>
      simp only [ho] at hi2 ⊢
      exact ih _ _ _ hw hi2
    | some o =>
      simp only [ho] at hi2 ⊢
      obtain ⟨h1, h2⟩ := hi2
      by_cases hwn : Region.wanted o (yielded ops a.tmps) = true
      · rw [if_pos hwn] at h2 ⊢
        exact oneR (not_defer hp ho) hw (fun a' w' hw' hk => ih _ a' w' hw' hk) h1 h2
      · rw [if_neg hwn] at h2 ⊢
        exact ⟨h1 w hw, ih _ _ _ hw h2⟩
theorem regionR {id : Nat} {Q : Exit → Act → World → Prop} {a : Act} {w : World} {l : List Oper} (hp : plainOps l.toArray = true) (hm : P.follows .mixedOrders = true) (hB : Region.lexB .any l.toArray = true)
    (h : wpQuietIn F n P l.toArray (fun w' => ∃ p : GrownBy, w' = grow (w.drewN p.n) p.os) (fun a' => ∀ w', (∃ p : GrownBy, w' = grow (w.drewN p.n) p.os) → Q .normal a' w') l a) : (Code.region id l.toArray true).wpIn F n P Q a w := by
  have hB' := hB
  rw [Region.lexB, Bool.and_eq_true] at hB'
  refine wpIn_region_any hm (anyR (C := fun w' => ∃ p : GrownBy, w' = grow (w.drewN p.n) p.os) (Q := fun a' => ∀ w', (∃ p : GrownBy, w' = grow (w.drewN p.n) p.os) → Q .normal a' w') hp (fun _ w' hw' hq => hq w' hw') _ _ _ _ ⟨⟨1, #[]⟩, by rw [grow_empty]; rfl⟩ ?_)
  have := wpAnyQIn_lex (F := F) (n := n) (P := P) (C := fun w' => ∃ p : GrownBy, w' = grow (w.drewN p.n) p.os) (md := .any) hB'.1 l 0 (Array.replicate l.length false) a (by simp) (by simpa using hB'.2) h
  simpa using this
end
end Go.Proofs.Ytahammkjkfdmhaa

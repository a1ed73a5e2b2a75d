import Derived.Test.YtdeollmeljaaoaaDoorSak
import Derived.Test.YtdeollmeljaaoaaDoorSfk
import Derived.Test.YtdeollmeljaaoaaDoorRows
import Derived.ProofKit
import Derived.Carry
import Derived.OpenShut
import Derived.Lib.SmallJoins
import Derived.Test.YtdeollmeljaaoaaDoorShak
import Derived.Test.YtdeollmeljaaoaaDoorTie
import Derived.Test.YtdeollmeljaaoaaDoorCards
import Derived.ChangeSame
import Derived.ChangeVars
import Derived.JoinedOf
import Derived.SevenTiedAt
import Derived.LaidLaws
set_option linter.unusedVariables false
set_option linter.unusedSimpArgs false
set_option maxHeartbeats 1000000
open Go.ChangeAt Go.ChangeShapes Go.RowKit Go.WideShapes
open Go.Lib (hid)
namespace Go.Proofs.YtdeollmeljaaoaaDoor
def kpC : Array Value := (kpL.map fun m => Value.string ⟨m.toArray⟩).toArray
def Kt (w : World) : Prop := ∃ t fr, w.heap[3]? = some (.cells kpC t fr)
theorem Kt.below {w w' : World} (h : Kt w) (hb : Below w.heap.size w w') : Kt w' := by
 obtain ⟨t, fr, h1⟩ := h
 have hlt : 3 < w.heap.size := by
  rcases Nat.lt_or_ge 3 w.heap.size with g | g
  ·exact g
  ·rw [Array.getElem?_eq_none g] at h1; cases h1
 exact ⟨t, fr, (hb.block _ hlt).trans h1⟩
theorem keptw0 (w : World) : (Instr.index 108 (.agg kpC) (.int .i64 ((0 : Nat) : Int))).run Tryd.prog w = .ok (.string ⟨(kpL.getD 0 []).toArray⟩) w := by kernel_rfl
theorem keptw1 (w : World) : (Instr.index 108 (.agg kpC) (.int .i64 ((1 : Nat) : Int))).run Tryd.prog w = .ok (.string ⟨(kpL.getD 1 []).toArray⟩) w := by kernel_rfl
theorem keptw2 (w : World) : (Instr.index 108 (.agg kpC) (.int .i64 ((2 : Nat) : Int))).run Tryd.prog w = .ok (.string ⟨(kpL.getD 2 []).toArray⟩) w := by kernel_rfl
theorem keptw3 (w : World) : (Instr.index 108 (.agg kpC) (.int .i64 ((3 : Nat) : Int))).run Tryd.prog w = .ok (.string ⟨(kpL.getD 3 []).toArray⟩) w := by kernel_rfl
theorem keptw4 (w : World) : (Instr.index 108 (.agg kpC) (.int .i64 ((4 : Nat) : Int))).run Tryd.prog w = .ok (.string ⟨(kpL.getD 4 []).toArray⟩) w := by kernel_rfl
theorem keptw5 (w : World) : (Instr.index 108 (.agg kpC) (.int .i64 ((5 : Nat) : Int))).run Tryd.prog w = .ok (.string ⟨(kpL.getD 5 []).toArray⟩) w := by kernel_rfl
theorem keptw6 (w : World) : (Instr.index 108 (.agg kpC) (.int .i64 ((6 : Nat) : Int))).run Tryd.prog w = .ok (.string ⟨(kpL.getD 6 []).toArray⟩) w := by kernel_rfl
theorem keptw7 (w : World) : (Instr.index 108 (.agg kpC) (.int .i64 ((7 : Nat) : Int))).run Tryd.prog w = .ok (.string ⟨(kpL.getD 7 []).toArray⟩) w := by kernel_rfl
theorem keptw8 (w : World) : (Instr.index 108 (.agg kpC) (.int .i64 ((8 : Nat) : Int))).run Tryd.prog w = .ok (.string ⟨(kpL.getD 8 []).toArray⟩) w := by kernel_rfl
theorem keptw9 (w : World) : (Instr.index 108 (.agg kpC) (.int .i64 ((9 : Nat) : Int))).run Tryd.prog w = .ok (.string ⟨(kpL.getD 9 []).toArray⟩) w := by kernel_rfl
theorem keptw10 (w : World) : (Instr.index 108 (.agg kpC) (.int .i64 ((10 : Nat) : Int))).run Tryd.prog w = .ok (.string ⟨(kpL.getD 10 []).toArray⟩) w := by kernel_rfl
theorem keptw11 (w : World) : (Instr.index 108 (.agg kpC) (.int .i64 ((11 : Nat) : Int))).run Tryd.prog w = .ok (.string ⟨(kpL.getD 11 []).toArray⟩) w := by kernel_rfl
theorem keptw12 (w : World) : (Instr.index 108 (.agg kpC) (.int .i64 ((12 : Nat) : Int))).run Tryd.prog w = .ok (.string ⟨(kpL.getD 12 []).toArray⟩) w := by kernel_rfl
theorem keptw13 (w : World) : (Instr.index 108 (.agg kpC) (.int .i64 ((13 : Nat) : Int))).run Tryd.prog w = .ok (.string ⟨(kpL.getD 13 []).toArray⟩) w := by kernel_rfl
theorem keptw14 (w : World) : (Instr.index 108 (.agg kpC) (.int .i64 ((14 : Nat) : Int))).run Tryd.prog w = .ok (.string ⟨(kpL.getD 14 []).toArray⟩) w := by kernel_rfl
theorem keptw15 (w : World) : (Instr.index 108 (.agg kpC) (.int .i64 ((15 : Nat) : Int))).run Tryd.prog w = .ok (.string ⟨(kpL.getD 15 []).toArray⟩) w := by kernel_rfl
theorem keptw16 (w : World) : (Instr.index 108 (.agg kpC) (.int .i64 ((16 : Nat) : Int))).run Tryd.prog w = .ok (.string ⟨(kpL.getD 16 []).toArray⟩) w := by kernel_rfl
theorem keptw17 (w : World) : (Instr.index 108 (.agg kpC) (.int .i64 ((17 : Nat) : Int))).run Tryd.prog w = .ok (.string ⟨(kpL.getD 17 []).toArray⟩) w := by kernel_rfl
theorem keptw18 (w : World) : (Instr.index 108 (.agg kpC) (.int .i64 ((18 : Nat) : Int))).run Tryd.prog w = .ok (.string ⟨(kpL.getD 18 []).toArray⟩) w := by kernel_rfl
theorem keptw19 (w : World) : (Instr.index 108 (.agg kpC) (.int .i64 ((19 : Nat) : Int))).run Tryd.prog w = .ok (.string ⟨(kpL.getD 19 []).toArray⟩) w := by kernel_rfl
theorem keptw20 (w : World) : (Instr.index 108 (.agg kpC) (.int .i64 ((20 : Nat) : Int))).run Tryd.prog w = .ok (.string ⟨(kpL.getD 20 []).toArray⟩) w := by kernel_rfl
theorem keptw21 (w : World) : (Instr.index 108 (.agg kpC) (.int .i64 ((21 : Nat) : Int))).run Tryd.prog w = .ok (.string ⟨(kpL.getD 21 []).toArray⟩) w := by kernel_rfl
theorem keptw22 (w : World) : (Instr.index 108 (.agg kpC) (.int .i64 ((22 : Nat) : Int))).run Tryd.prog w = .ok (.string ⟨(kpL.getD 22 []).toArray⟩) w := by kernel_rfl
theorem keptw23 (w : World) : (Instr.index 108 (.agg kpC) (.int .i64 ((23 : Nat) : Int))).run Tryd.prog w = .ok (.string ⟨(kpL.getD 23 []).toArray⟩) w := by kernel_rfl
theorem keptw24 (w : World) : (Instr.index 108 (.agg kpC) (.int .i64 ((24 : Nat) : Int))).run Tryd.prog w = .ok (.string ⟨(kpL.getD 24 []).toArray⟩) w := by kernel_rfl
theorem keptw25 (w : World) : (Instr.index 108 (.agg kpC) (.int .i64 ((25 : Nat) : Int))).run Tryd.prog w = .ok (.string ⟨(kpL.getD 25 []).toArray⟩) w := by kernel_rfl
theorem keptw26 (w : World) : (Instr.index 108 (.agg kpC) (.int .i64 ((26 : Nat) : Int))).run Tryd.prog w = .ok (.string ⟨(kpL.getD 26 []).toArray⟩) w := by kernel_rfl
theorem keptw27 (w : World) : (Instr.index 108 (.agg kpC) (.int .i64 ((27 : Nat) : Int))).run Tryd.prog w = .ok (.string ⟨(kpL.getD 27 []).toArray⟩) w := by kernel_rfl
theorem keptw28 (w : World) : (Instr.index 108 (.agg kpC) (.int .i64 ((28 : Nat) : Int))).run Tryd.prog w = .ok (.string ⟨(kpL.getD 28 []).toArray⟩) w := by kernel_rfl
theorem keptw29 (w : World) : (Instr.index 108 (.agg kpC) (.int .i64 ((29 : Nat) : Int))).run Tryd.prog w = .ok (.string ⟨(kpL.getD 29 []).toArray⟩) w := by kernel_rfl
theorem kept_at (k : Nat) (hk : k < 30) (w : World) : (Instr.index 108 (.agg kpC) (.int .i64 (k : Int))).run Tryd.prog w = .ok (.string ⟨(kpL.getD k []).toArray⟩) w := by
 match k, hk with
 | 0, _ => exact keptw0 w
 | 1, _ => exact keptw1 w
 | 2, _ => exact keptw2 w
 | 3, _ => exact keptw3 w
 | 4, _ => exact keptw4 w
 | 5, _ => exact keptw5 w
 | 6, _ => exact keptw6 w
 | 7, _ => exact keptw7 w
 | 8, _ => exact keptw8 w
 | 9, _ => exact keptw9 w
 | 10, _ => exact keptw10 w
 | 11, _ => exact keptw11 w
 | 12, _ => exact keptw12 w
 | 13, _ => exact keptw13 w
 | 14, _ => exact keptw14 w
 | 15, _ => exact keptw15 w
 | 16, _ => exact keptw16 w
 | 17, _ => exact keptw17 w
 | 18, _ => exact keptw18 w
 | 19, _ => exact keptw19 w
 | 20, _ => exact keptw20 w
 | 21, _ => exact keptw21 w
 | 22, _ => exact keptw22 w
 | 23, _ => exact keptw23 w
 | 24, _ => exact keptw24 w
 | 25, _ => exact keptw25 w
 | 26, _ => exact keptw26 w
 | 27, _ => exact keptw27 w
 | 28, _ => exact keptw28 w
 | 29, _ => exact keptw29 w
 | n + 30, h => exact absurd h (by omega)
theorem st_ne {s m : ByteArray} (h : ¬ s = m) : s.data.toList ≠ m.data.toList := fun e => h (str_ext e)
theorem st_beq {s m : ByteArray} (h : ¬ s = m) : (s.toList == m.toList) = false := by
 rw [Bool.eq_false_iff, ne_eq, beq_iff_eq, Lib.toList_data, Lib.toList_data]
 exact st_ne h
theorem isKept_any (w : World) (hm : Kt w) (s : ByteArray) : Calls Tryd.prog 42 #[.string s] w fun e w' => e = .returned (.bool (kpB s.data.toList)) ∧ w = w' := by
 obtain ⟨t, fr, hm⟩ := hm
 have HM := hid hm
 clear hm
 go_enter Tryd.func42, Tryd.ntmps42
 go_wp2_with (refine wpList_load_row rfl _ _ rfl _ rfl _ _ _ _ HM.out Tryd.underlying108 rfl (by kernel_rfl) ?_)
 go_loop [6] (fun i => ∃ k : Nat, k ≤ 30 ∧ i = .int .i64 (k : Int) ∧ Hid (∀ j, j < k → s.data.toList ≠ kpL.getD j [])) (fun i => 30 - (intOf i).toNat)
 case atStart => exact ⟨0, by omega, rfl, fun j hj => absurd hj (by omega)⟩
 case round =>
  obtain ⟨k, hk, rfl, HA⟩ := hrel
  by_cases hlt : k < 30
  ·have hi := kept_at k hlt
   obtain ⟨m, hmm⟩ : ∃ m : ByteArray, m = ⟨(kpL.getD k []).toArray⟩ := ⟨_, rfl⟩
   rw [← hmm] at hi
   have hd : m.data.toList = kpL.getD k [] := by rw [hmm]
   have HD := hid hd
   clear hmm hd
   by_cases he : s = m
   ·subst he
    go_wp2_with fail
    go_ret
    exact ⟨rb (by rw [kp_hit hlt HD.out]), rfl⟩
   ·have hne := st_beq he
    have HN := hid (st_ne he)
    clear he
    go_wp2_with fail
    go_round
    case rel =>
     refine ⟨k + 1, by omega, by go_num, fun j hj => ?_⟩
     rcases Nat.lt_or_ge j k with h | h
     ·exact HA.out j h
     ·obtain rfl : j = k := by omega
      rw [← HD.out]
      exact HN.out
    case measure => simp [intOf]; omega
  ·obtain rfl : k = 30 := by omega
   go_wp2
   go_ret
   exact ⟨rb (by rw [kp_none HA.out]), rfl⟩
theorem nm_long {l : List UInt8} (h : 8 < l.length) : nmF l = 1 := by unfold nmF; rw [if_pos h]
theorem nm_short {l : List UInt8} (h : ¬ 8 < l.length) : nmF l = if tkF 1 l 0 ≠ 0 ∨ kpB l = true then 6 else 0 := by unfold nmF; rw [if_neg h]
theorem name_any (w : World) (hM : Mk w) (hK : Kt w) (s : ByteArray) (hs : s.size ≤ maxLen) : Calls Tryd.prog 25 #[.string s] w fun e w' => e = .returned (.int .i64 (nmF s.data.toList)) ∧ Below w.heap.size w w' := by
 have hsz := len_size s
 by_cases h8 : 8 < s.size
 ·have HF : Hid (nmF s.data.toList = 1) := nm_long (by omega)
  clear hsz
  go_enter Tryd.func25, Tryd.ntmps25
  go_wp2_with fail
  go_ret
  exact ⟨ri HF.out.symm, Below.refl _ _⟩
 ·have hF : nmF s.data.toList = _ := nm_short (by omega)
  have hc := check_any w hM 1 0 s hs
  obtain ⟨r, hr⟩ : ∃ r, r = tkF 1 s.data.toList 0 := ⟨_, rfl⟩
  rw [← hr] at hF hc
  have HK := hid hK
  have hk := fun w1 (h : Kt w1) => isKept_any w1 h s
  obtain ⟨b, hb⟩ : ∃ b, b = kpB s.data.toList := ⟨_, rfl⟩
  rw [← hb] at hF hk
  have HF := hid hF
  have HC := hid hc
  have HI := hid hk
  clear hF hc hk hr hb hsz hM hK
  by_cases h0 : r = 0
  ·subst h0
   cases b
   all_goals (
    go_enter Tryd.func25, Tryd.ntmps25
    go_wp2_with (first | (go_at_call 28; ((with_reducible refine HC.out.mono ?_); rintro e w1 ⟨rfl, hb1⟩; have HB1 := hid hb1; clear hb1)) | (go_at_call 42; ((with_reducible refine (HI.out _ (HK.out.below HB1.out)).mono ?_); rintro e w2 ⟨rfl, rfl⟩)))
    go_ret
    exact ⟨ri (by rw [HF.out]; simp), HB1.out⟩)
  ·have h0' : (r == 0) = false := by simpa using h0
   go_enter Tryd.func25, Tryd.ntmps25
   go_wp2_with (go_at_call 28; ((with_reducible refine HC.out.mono ?_); rintro e w1 ⟨rfl, hb1⟩; have HB1 := hid hb1; clear hb1))
   go_ret
   exact ⟨ri (by rw [HF.out, if_pos (.inl h0)]), HB1.out⟩
theorem Tryd.own : ownKnob Tryd.prog.godebug = none := by kernel_rfl
theorem Tryd.laidOut : laidOutB Tryd.prog = true := by kernel_rfl
section
variable {H : Type} {enc : TypeId × Value → H} {P : Program}
theorem trodAll_below (hl : laidOutB P = true) {W W' : World} (hb : Below W.heap.size W W') : ∀ (ts : List TypeId) (vs : List Value) (ds : List (DataW H)) (p : List MemPlace),
  (∀ t ∈ ts, P.readableRec t = true ∧ t < P.types.size) → (∀ x ∈ p, x.block < W.heap.size) → DataW.TrodAll enc P W 0 (fun _ => true) true ts vs ds p →
  DataW.TrodAll enc P W' 0 (fun b => decide (b < W.heap.size)) true ts vs ds p
 | [], [], [], p, _, _, h => h
 | t :: ts, v :: vs, d :: ds, p, ht, hp, h => by
  obtain ⟨a, b, h1, h2, rfl⟩ := h
  exact ⟨a, b, Below.trod hl (ht t (by simp)).1 (ht t (by simp)).2 h1 hb (fun x hx => hp x (by simp [hx])), trodAll_below hl hb ts vs ds b (fun u hu => ht u (by simp [hu])) (fun x hx => hp x (by simp [hx])) h2, rfl⟩
 | [], _ :: _, _, _, _, _, h => by simp [DataW.TrodAll] at h
 | [], [], _ :: _, _, _, _, h => by simp [DataW.TrodAll] at h
 | _ :: _, [], _, _, _, _, h => by simp [DataW.TrodAll] at h
 | _ :: _, _ :: _, [], _, _, _, h => by simp [DataW.TrodAll] at h
theorem law_post (hl : laidOutB P = true) {f : Func} {s : ChangeSpec} {apart fresh handsOn : Bool} {W W' : World} {args : Array Value} {ds : List (DataW H)} {before : List MemPlace} {tb : TypeId}
  (hts0 : (f.params.toList.all fun t => P.readableRec t && decide (t < P.types.size)) = true) (hrt : f.resultTypes = #[tb]) (htb : P.underlying tb = some .bool) (hv : s.vars = [])
  (hW : DataW.Whole enc P f.params.toList s.vars apart W args.toList ds [] before) (hb : Below W.heap.size W W')
  (hr : (s.fn H (ds ++ [])).results = [.lit (.bool true)]) (ha : (s.fn H (ds ++ [])).args = ds) (hvv : (s.fn H (ds ++ [])).vars = []) :
  s.post enc P f apart fresh handsOn false W args (.bool true) W' := by
 have hts : ∀ t ∈ f.params.toList, P.readableRec t = true ∧ t < P.types.size := fun t ht => by have := List.all_eq_true.1 hts0 t ht; simpa using this
 have hlt : ∀ x ∈ before, x.block < W.heap.size := fun x hx => hW.lt x hx
 have hW0 := hW
 obtain ⟨p, q, hA, hV, rfl, hfz, hnd⟩ := hW
 rw [hv] at hV
 have hq : q = [] := hV
 subst hq
 refine ⟨ds, [], p ++ [], [], p, [], hW0, ?_, ?_, ?_, World.keptBut_mono (fun x hx => hx.elim) (hb.frame (fun _ => False)), fun h => by cases h⟩
 ·rw [hr, hrt]
  exact trodAll_mk1 (shut_bool htb true)
 ·rw [ha]
  exact trodAll_below hl hb _ _ _ _ hts (fun x hx => hlt x (by simp [hx])) hA
 ·rw [hv, hvv]
  rfl
end
theorem mks_at : Tryd.prog.globalNamed "padlock/lex.marks" = some 5 := by kernel_rfl
theorem mks_type : (Tryd.prog.globals[5]?).map (·.type) = some 122 := by kernel_rfl
theorem mkD : (Rows.laid_padlock_lex_marks : DataW Unit) = .agg (mkL.map fun m => .lit (.string m)) := rfl
theorem var_block {P : Program} {w : World} {n : String} {g : Nat} {cs : Array Value} (hg : P.globalNamed n = some g) (h : w.var? P n = some cs) : ∃ t fr, w.heap[g]? = some (.cells cs t fr) := by
 simp only [World.var?, hg, Option.bind_some] at h
 split at h
 ·rename_i c t fr hh
  obtain rfl := Option.some.inj h
  exact ⟨_, _, hh⟩
 ·cases h
theorem mks_var {W : World} {g t : Nat} {cs : Array Value} {fuel : Nat} {p : List MemPlace} (hg : Tryd.prog.globalNamed "padlock/lex.marks" = some g) (ht : (Tryd.prog.globals[g]?).map (·.type) = some t) (hv : W.var? Tryd.prog "padlock/lex.marks" = some cs)
  (hd : DataW.trod (fun _ => ()) Tryd.prog W 0 (fun _ => true) false fuel t cs.toList = some (Rows.laid_padlock_lex_marks, p)) : Mk W := by
 obtain rfl := Option.some.inj (mks_at.symm.trans hg)
 obtain rfl := Option.some.inj (mks_type.symm.trans ht)
 rw [mkD] at hd
 obtain ⟨xs, m, rfl, hx, hl, hxl, hf⟩ := DataW.trod_array Tryd.underlying122 hd
 rw [show Tryd.prog.cellsOf 122 = 12 by kernel_rfl] at hl
 rw [show Tryd.prog.cellsOf 9 = 1 by kernel_rfl] at hf
 simp only [Prod.mk.injEq, DataW.agg.injEq] at hx
 obtain ⟨hx, _⟩ := hx
 have hmk : mkL.length = 12 := rfl
 have hcs : cs.toList = mkL.map fun m => Value.string ⟨m.toArray⟩ := by
  apply List.ext_getElem?
  intro i
  by_cases hi : i < 12
  ·have h1 := hf i hi
   obtain ⟨y, hy⟩ : ∃ y, xs[i]? = some y := ⟨_, List.getElem?_eq_getElem (by omega)⟩
   rw [hy] at h1
   obtain ⟨s, h2, h3, _⟩ := DataW.trod_string Tryd.underlying9 h1
   have h4 := congrArg (fun l : List (DataW Unit) => l[i]?) hx
   simp only [List.getElem?_map, hy, Option.map_some] at h4
   rw [List.getElem?_eq_getElem (show i < mkL.length by omega)] at h4
   simp only [Option.map_some, Option.some.injEq] at h4
   rw [h3] at h4
   simp only [DataW.lit.injEq, Lit.string.injEq] at h4
   have h5 := congrArg (fun l : List Value => l[0]?) h2
   simp [List.getElem?_take, List.getElem?_drop] at h5
   rw [List.getElem?_map, List.getElem?_eq_getElem (show i < mkL.length by omega), Option.map_some, h4]
   rw [Array.getElem?_toList, h5]
  ·rw [List.getElem?_eq_none (by omega), List.getElem?_eq_none (by simp; omega)]
 have hcs' : cs = mkC := by
  apply Array.ext'
  rw [hcs]
  rfl
 subst hcs'
 exact var_block mks_at hv
def layC (cs : Array Value) : Obj → Obj
 | .cells _ t frozen => .cells cs t frozen
 | o => o
def woL : List Int := [0, 0, 0, 2, 2, 1, 2, 2, 2, 2, 2, 1]
def woC : Array Value := (woL.map fun m => Value.int .i64 m).toArray
def Wo (w : World) : Prop := ∃ t fr, w.heap[2]? = some (.cells woC t fr)
theorem Wo.below {w w' : World} (h : Wo w) (hb : Below w.heap.size w w') : Wo w' := by
 obtain ⟨t, fr, h1⟩ := h
 have hlt : 2 < w.heap.size := by
  rcases Nat.lt_or_ge 2 w.heap.size with g | g
  ·exact g
  ·rw [Array.getElem?_eq_none g] at h1; cases h1
 exact ⟨t, fr, (hb.block _ hlt).trans h1⟩
theorem kps_at : Tryd.prog.globalNamed "padlock/parse.kept" = some 3 := by kernel_rfl
theorem kps_type : (Tryd.prog.globals[3]?).map (·.type) = some 108 := by kernel_rfl
theorem kpsD : (Rows.laid_padlock_parse_kept : DataW Unit) = .agg (kpL.map fun m => .lit (.string m)) := rfl
theorem kps_var {W : World} {g t : Nat} {cs : Array Value} {fuel : Nat} {p : List MemPlace} (hg : Tryd.prog.globalNamed "padlock/parse.kept" = some g) (ht : (Tryd.prog.globals[g]?).map (·.type) = some t) (hv : W.var? Tryd.prog "padlock/parse.kept" = some cs)
  (hd : DataW.trod (fun _ => ()) Tryd.prog W 0 (fun _ => true) false fuel t cs.toList = some (Rows.laid_padlock_parse_kept, p)) : ∃ t fr, W.heap[3]? = some (.cells (kpL.map fun m => Value.string ⟨m.toArray⟩).toArray t fr) := by
 obtain rfl := Option.some.inj (kps_at.symm.trans hg)
 obtain rfl := Option.some.inj (kps_type.symm.trans ht)
 rw [kpsD] at hd
 obtain ⟨xs, m, rfl, hx, hl, hxl, hf⟩ := DataW.trod_array Tryd.underlying108 hd
 rw [show Tryd.prog.cellsOf 108 = 30 by kernel_rfl] at hl
 rw [show Tryd.prog.cellsOf 9 = 1 by kernel_rfl] at hf
 simp only [Prod.mk.injEq, DataW.agg.injEq] at hx
 obtain ⟨hx, _⟩ := hx
 have hmk : kpL.length = 30 := rfl
 have hcs : cs.toList = kpL.map fun m => Value.string ⟨m.toArray⟩ := by
  apply List.ext_getElem?
  intro i
  by_cases hi : i < 30
  ·have h1 := hf i hi
   obtain ⟨y, hy⟩ : ∃ y, xs[i]? = some y := ⟨_, List.getElem?_eq_getElem (by omega)⟩
   rw [hy] at h1
   obtain ⟨s, h2, h3, _⟩ := DataW.trod_string Tryd.underlying9 h1
   have h4 := congrArg (fun l : List (DataW Unit) => l[i]?) hx
   simp only [List.getElem?_map, hy, Option.map_some] at h4
   rw [List.getElem?_eq_getElem (show i < kpL.length by omega)] at h4
   simp only [Option.map_some, Option.some.injEq] at h4
   rw [h3] at h4
   simp only [DataW.lit.injEq, Lit.string.injEq] at h4
   have h5 := congrArg (fun l : List Value => l[0]?) h2
   simp [List.getElem?_take, List.getElem?_drop] at h5
   rw [List.getElem?_map, List.getElem?_eq_getElem (show i < kpL.length by omega), Option.map_some, h4]
   rw [Array.getElem?_toList, h5]
  ·rw [List.getElem?_eq_none (by omega), List.getElem?_eq_none (by simp; omega)]
 have hcs' : cs = (kpL.map fun m => Value.string ⟨m.toArray⟩).toArray := by
  apply Array.ext'
  rw [hcs]
 subst hcs'
 exact var_block kps_at hv
theorem wos_at : Tryd.prog.globalNamed "padlock/parse.worksOn" = some 2 := by kernel_rfl
theorem wos_type : (Tryd.prog.globals[2]?).map (·.type) = some 106 := by kernel_rfl
theorem wosD : (Rows.laid_padlock_parse_worksOn : DataW Unit) = .agg (woL.map fun m => .lit (.int .i64 m)) := rfl
theorem wos_var {W : World} {g t : Nat} {cs : Array Value} {fuel : Nat} {p : List MemPlace} (hg : Tryd.prog.globalNamed "padlock/parse.worksOn" = some g) (ht : (Tryd.prog.globals[g]?).map (·.type) = some t) (hv : W.var? Tryd.prog "padlock/parse.worksOn" = some cs)
  (hd : DataW.trod (fun _ => ()) Tryd.prog W 0 (fun _ => true) false fuel t cs.toList = some (Rows.laid_padlock_parse_worksOn, p)) : ∃ t fr, W.heap[2]? = some (.cells (woL.map fun m => Value.int .i64 m).toArray t fr) := by
 obtain rfl := Option.some.inj (wos_at.symm.trans hg)
 obtain rfl := Option.some.inj (wos_type.symm.trans ht)
 rw [wosD] at hd
 obtain ⟨xs, m, rfl, hx, hl, hxl, hf⟩ := DataW.trod_array Tryd.underlying106 hd
 rw [show Tryd.prog.cellsOf 106 = 12 by kernel_rfl] at hl
 rw [show Tryd.prog.cellsOf 3 = 1 by kernel_rfl] at hf
 simp only [Prod.mk.injEq, DataW.agg.injEq] at hx
 obtain ⟨hx, _⟩ := hx
 have hmk : woL.length = 12 := rfl
 have hcs : cs.toList = woL.map fun m => Value.int .i64 m := by
  apply List.ext_getElem?
  intro i
  by_cases hi : i < 12
  ·have h1 := hf i hi
   obtain ⟨y, hy⟩ : ∃ y, xs[i]? = some y := ⟨_, List.getElem?_eq_getElem (by omega)⟩
   rw [hy] at h1
   obtain ⟨s, h2, h3, _⟩ := DataW.trod_int Tryd.underlying3 h1
   have h4 := congrArg (fun l : List (DataW Unit) => l[i]?) hx
   simp only [List.getElem?_map, hy, Option.map_some] at h4
   rw [List.getElem?_eq_getElem (show i < woL.length by omega)] at h4
   simp only [Option.map_some, Option.some.injEq] at h4
   rw [h3] at h4
   simp only [DataW.lit.injEq, Lit.int.injEq, true_and] at h4
   have h5 := congrArg (fun l : List Value => l[0]?) h2
   simp [List.getElem?_take, List.getElem?_drop] at h5
   rw [List.getElem?_map, List.getElem?_eq_getElem (show i < woL.length by omega), Option.map_some, h4]
   rw [Array.getElem?_toList, h5]
  ·rw [List.getElem?_eq_none (by omega), List.getElem?_eq_none (by simp; omega)]
 have hcs' : cs = (woL.map fun m => Value.int .i64 m).toArray := by
  apply Array.ext'
  rw [hcs]
 subst hcs'
 exact var_block wos_at hv
end Go.Proofs.YtdeollmeljaaoaaDoor

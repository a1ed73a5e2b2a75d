import Derived.Test.YtdeollmeljaaoaaDoorOek
import Derived.Lib.SmallJoins
import Derived.Test.YtdeollmeljaaoaaDoorSck
import Derived.Test.YtdeollmeljaaoaaDoorBsk
import Derived.Test.YtdeollmeljaaoaaDoorQrk
import Derived.Test.YtdeollmeljaaoaaDoorCjk
import Derived.Test.YtdeollmeljaaoaaDoorQok
import Derived.Test.YtdeollmeljaaoaaDoorBwk
import Derived.Test.YtdeollmeljaaoaaDoorBbk
import Derived.Deep.Strs
set_option linter.unusedVariables false
set_option linter.unusedSimpArgs false
set_option maxHeartbeats 4000000
set_option maxRecDepth 100000
open Go.ChangeAt Go.ChangeShapes Go.Deep Go.Joins Go.RowKit Go.WideShapes
open Go.Lib (hid)
namespace Go.Proofs.YtdeollmeljaaoaaDoor.tw
section
variable {H : Type} {enc : TypeId × Value → H} {w : World} {base : Nat} {held : Bool}
def TwC (w : World) (f : Nat) (cs : List Value) : Prop := ∃ (k m : Int) (t : ByteArray) (u : Value), cs = [.int .i64 k, .int .i64 m, .string t, u] ∧ Rn k ∧ Rn m ∧ t.size ≤ maxLen ∧ TwS w f u
theorem read_twig (f : Nat) (ih : ∀ {fuel : Nat} {cs : List Value} {x : DataW H × List MemPlace}, DataW.trod enc Tryd.prog w base (fun _ => true) held fuel 23 cs = some x → small Tryd.prog 23 x.1 → ∃ v, cs = [v] ∧ TwS w f v)
  {fuel : Nat} {cs : List Value} {x : DataW H × List MemPlace} (h : DataW.trod enc Tryd.prog w base (fun _ => true) held fuel 25 cs = some x) (hs : small Tryd.prog 25 x.1) : TwC w f cs := by
 obtain ⟨y0, y1, y2, y3, m, hx, hl, h0, h1, h2, h3⟩ := trod_struct4 Tryd.underlying25 h
 rw [show Tryd.prog.cellsOf 25 = 4 by kernel_rfl] at hl
 dsimp only at h0 h1 h2 h3
 rw [show Tryd.prog.cellsOf 3 = 1 by kernel_rfl] at h0 h1
 rw [show Tryd.prog.cellsOf 9 = 1 by kernel_rfl] at h2
 rw [show Tryd.prog.cellsOf 23 = 1 by kernel_rfl] at h3
 have sm : small Tryd.prog 23 y3.1 := by
  intro q hq
  refine hs q ?_
  rw [hx]
  simp only [DataW.weights, Tryd.underlying25]
  exact weights_each (j := 3) rfl rfl q hq
 match cs, hl with
 | [c0, c1, c2, c3], _ =>
  obtain ⟨k, e0, _, w0⟩ := DataW.trod_int Tryd.underlying3 h0
  obtain ⟨n, e1, _, w1⟩ := DataW.trod_int Tryd.underlying3 h1
  obtain ⟨s, e2, _, w2⟩ := DataW.trod_string Tryd.underlying9 h2
  obtain ⟨u, e3, w3⟩ := ih h3 sm
  simp at e0 e1 e2 e3
  subst e0 e1 e2 e3
  exact ⟨k, n, s, c3, rfl, rn_of w0, rn_of w1, w2, w3⟩
theorem read_twigs : ∀ (f : Nat) {fuel : Nat} {cs : List Value} {x : DataW H × List MemPlace}, DataW.trod enc Tryd.prog w base (fun _ => true) held fuel 23 cs = some x → small Tryd.prog 23 x.1 → ∃ v, cs = [v] ∧ TwS w f v
 | 0, fuel, cs, x, h, hs => by
  obtain ⟨v, n, vs, e, h1, _, _⟩ := open_rows Tryd.underlying23 (C := 4) (by kernel_rfl) (by omega) h hs (R := fun _ => True) (fun _ _ _ _ _ => trivial)
  exact ⟨v, e, n, vs, h1⟩
 | f + 1, fuel, cs, x, h, hs => by
  obtain ⟨v, n, vs, e, h1, _, h3⟩ := open_rows Tryd.underlying23 (C := 4) (by kernel_rfl) (by omega) h hs (R := TwC w f) (fun _ _ _ hy hsy => read_twig f (fun h hs => read_twigs f h hs) hy hsy)
  exact ⟨v, e, n, vs, h1, h3⟩
end
end Go.Proofs.YtdeollmeljaaoaaDoor.tw
namespace Go.Proofs.YtdeollmeljaaoaaDoor
def Lw (t : List UInt8) : Prop := 1 ≤ t.length ∧ t.length ≤ 6 ∧ ∀ b ∈ t, 97 ≤ b.toNat ∧ b.toNat ≤ 122
def WordIs (w0 : World) (e : Ending) (w' : World) : Prop := ∃ t : List UInt8, e = .returned (.string ⟨t.toArray⟩) ∧ Lw t ∧ Below w0.heap.size w0 w'
theorem letter_fin : ∀ r : Fin 26, (UInt8.ofNat (97 + r.val)).toNat = 97 + r.val := by decide
theorem letter (x : Int) (h0 : 0 ≤ x) : ((UInt8.ofNat (97 + (x % 26).toNat)).toNat : Int) = 97 + x % 26 ∧ 97 ≤ (UInt8.ofNat (97 + (x % 26).toNat)).toNat ∧ (UInt8.ofNat (97 + (x % 26).toNat)).toNat ≤ 122 := by
 have h := letter_fin ⟨(x % 26).toNat, by omega⟩
 simp only at h
 rw [h]
 omega
theorem kword_any (w : World) (s : ByteArray) (hs : s.size ≤ maxLen) : Calls Tryd.prog 19 #[.string s] w (WordIs w) := by
 unfold maxLen at hs
 go_enter Tryd.func19, Tryd.ntmps19
 go_wp2
 go_loopw [3, 4] (fun v i wr => ∃ (j : Nat) (acc : List UInt8), j ≤ 6 ∧ j ≤ s.size ∧ i = .int .i64 (j : Int) ∧ acc.length = j ∧ Hid (∀ b ∈ acc, 97 ≤ b.toNat ∧ b.toNat ≤ 122) ∧ Hid (wr.ownsRow w.heap.size 5 1 v j (bc acc)) ∧ Hid (Below w.heap.size w wr)) (fun _ i _ => 6 - (intOf i).toNat)
 case atStart => exact ⟨0, [], by omega, by omega, rfl, rfl, (fun b hb => by simp at hb), World.ownsRow_nil _ _ _ _, Below.refl _ _⟩
 case round =>
  obtain ⟨j, acc, hj6, hjs, rfl, hac, HA, HO, HBL⟩ := hrel
  have hwz := HBL.out.size
  have hend : ∀ (h : ¬ (j < s.size ∧ j < 6)), True := fun _ => trivial
  clear hend
  by_cases hin : j < s.size ∧ j < 6
  ·obtain ⟨hlt, h6⟩ := hin
   have h6I : (j : Int) < 6 := by omega
   obtain ⟨x, hx⟩ : ∃ x : Int, ((s[j]).toNat : Int) = x := ⟨_, rfl⟩
   have hx0 : 0 ≤ x := by omega
   have hx1 : x < 256 := by have := (s[j]).toNat_lt; omega
   obtain ⟨l1, l2, l3⟩ := letter x hx0
   have hr1 : 0 ≤ x % 26 := by omega
   have hr2 : x % 26 < 26 := by omega
   have L1 := hid l1
   have L2 := hid (And.intro l2 l3)
   clear l1 l2 l3
   go_wp2_with (at_builtin; refine ap1 wr rfl (.tmp 15) (.tmp 21) rfl HO.out (by omega) (by omega) rfl wr.heap.size rfl rfl rfl ?_; intro v1 w1 hown1 hb1 _; have HO1 := hid hown1; have HB1 := hid hb1; clear hown1 hb1)
   go_roundw
   case rel =>
    refine ⟨j + 1, acc ++ [UInt8.ofNat (97 + (x % 26).toNat)], by omega, by omega, by go_num, by simp; omega, fun b hb => ?_, ?_, HBL.out.trans HB1.out⟩
    ·rcases List.mem_append.1 hb with h | h
     ·exact HA.out b h
     ·simp at h
      subst h
      simpa using L2.out
    ·have := HO1.out
     show World.ownsRow _ _ _ _ _ _ _
     rw [bc_app]
     have e : bc [UInt8.ofNat (97 + (x % 26).toNat)] = [.int .u8 (97 + x % 26)] := by
      show [Value.int .u8 ((UInt8.ofNat (97 + (x % 26).toNat)).toNat : Int)] = _
      rw [L1.out]
     rw [e]
     exact this
   case measure => simp [intOf]; omega
  ·obtain ⟨_, ao, cap, rfl, hcap, _⟩ := Rd.own HO.out
   have hcv := str_of (Rd.own HO.out)
   have HAC := hid hac
   clear hac
   by_cases h0 : j = 0
   ·have hsz : ¬ j < s.size := by omega
    subst h0
    go_wp2_with fail
    go_ret
    exact ⟨[120], rfl, ⟨by decide, by decide, by decide⟩, HBL.out⟩
   ·have hj0 : ((j : Int) == 0) = false := by simpa using h0
    by_cases hlt : j < s.size
    ·have h6n : ¬ (j : Int) < 6 := by omega
     go_wp2_with fail
     go_ret
     exact ⟨acc, rfl, ⟨by rw [HAC.out]; omega, by rw [HAC.out]; omega, HA.out⟩, HBL.out⟩
    ·go_wp2_with fail
     go_ret
     exact ⟨acc, rfl, ⟨by rw [HAC.out]; omega, by rw [HAC.out]; omega, HA.out⟩, HBL.out⟩
end Go.Proofs.YtdeollmeljaaoaaDoor
namespace Go.Proofs.YtdeollmeljaaoaaDoor.cs
section
variable {H : Type} {enc : TypeId × Value → H} {w : World} {base : Nat} {held : Bool}
theorem vcs_map (q : V → Prop) : ∀ (n : Nat) (vs : List Value), vs.length = n * 3 → (∀ i, i < n → ∃ y : V, (vs.drop (i * 3)).take 3 = vc [y] ∧ q y) → ∃ l : List V, l.length = n ∧ vs = vc l ∧ ∀ y ∈ l, q y
 | 0, vs, hl, _ => ⟨[], rfl, List.eq_nil_of_length_eq_zero (by simpa using hl), by simp⟩
 | n + 1, vs, hl, h => by
  obtain ⟨y, hy, hq⟩ := h 0 (by omega)
  obtain ⟨l, h1, h2, h3⟩ := vcs_map q n (vs.drop 3) (by rw [List.length_drop, hl]; omega) (fun i hi => by
   obtain ⟨z, hz, hqz⟩ := h (i + 1) (by omega)
   refine ⟨z, ?_, hqz⟩
   rw [List.drop_drop, show 3 + i * 3 = (i + 1) * 3 by omega]
   exact hz)
  refine ⟨y :: l, by rw [List.length_cons, h1], ?_, fun z hz => ?_⟩
  ·have e := (List.take_append_drop 3 vs).symm
   rw [Nat.zero_mul, List.drop_zero] at hy
   rw [hy, h2] at e
   rw [e]
   rfl
  ·rcases List.mem_cons.1 hz with rfl | hz
   ·exact hq
   ·exact h3 z hz
end
end Go.Proofs.YtdeollmeljaaoaaDoor.cs
namespace Go.Proofs.YtdeollmeljaaoaaDoor.rd
open Go.Proofs.YtdeollmeljaaoaaDoor.cs Go.Proofs.YtdeollmeljaaoaaDoor.tw
structure Ph where
 kd : Int
 tb : Int
 a : Int
 b : Int
 ra : Option Addr
 rn : Nat
 rc : Nat
 tk : Int
 tn : Int
 ts : ByteArray
 ta : Option Addr
 tm : Nat
 tc : Nat
 wk : Int
 wn : Int
 ws : ByteArray
 wa : Option Addr
 wm : Nat
 wc : Nat
 br : Bool
def phC (f : Ph) : Array Value := #[.int .i64 f.kd, .int .i64 f.tb, .int .i64 f.a, .int .i64 f.b, .slice f.ra f.rn f.rc, .int .i64 f.tk, .int .i64 f.tn, .string f.ts, .slice f.ta f.tm f.tc, .int .i64 f.wk, .int .i64 f.wn, .string f.ws, .slice f.wa f.wm f.wc, .bool f.br]
abbrev phV (f : Ph) : Value := .agg (phC f)
structure PhR (w : World) (f : Ph) : Prop where
 kd : Rn f.kd
 tb : Rn f.tb
 a : Rn f.a
 b : Rn f.b
 row : ∃ l : List V, Rd w 3 f.rn (.slice f.ra f.rn f.rc) (vc l) ∧ ∀ o ∈ l, o.t.size ≤ maxLen
 tk : Rn f.tk
 tn : Rn f.tn
 ts : f.ts.size ≤ maxLen
 ti : TwS w 3 (.slice f.ta f.tm f.tc)
 wk : Rn f.wk
 wn : Rn f.wn
 ws : f.ws.size ≤ maxLen
 wi : TwS w 3 (.slice f.wa f.wm f.wc)
theorem PhR.below {w w' : World} {f : Ph} (h : PhR w f) (hb : Below w.heap.size w w') : PhR w' f := by
 obtain ⟨l, h1, h2⟩ := h.row
 exact ⟨h.kd, h.tb, h.a, h.b, ⟨l, h1.below hb, h2⟩, h.tk, h.tn, h.ts, h.ti.below hb, h.wk, h.wn, h.ws, h.wi.below hb⟩
theorem box14 {w : World} {B : Nat} {T : TypeId} {v0 v1 v2 v3 v4 v5 v6 v7 v8 v9 v10 v11 v12 v13 : Value} (h : w.heap[B]? = some (.cells #[v0, v1, v2, v3, v4, v5, v6, v7, v8, v9, v10, v11, v12, v13] T (0, 0))) :
  w.cell? ⟨B, 0, none⟩ = some v0 ∧ w.cell? ⟨B, 1, none⟩ = some v1 ∧ w.cell? ⟨B, 2, none⟩ = some v2 ∧ w.cell? ⟨B, 3, none⟩ = some v3 ∧ w.cell? ⟨B, 4, none⟩ = some v4 ∧ w.cell? ⟨B, 5, none⟩ = some v5 ∧ w.cell? ⟨B, 6, none⟩ = some v6 ∧ w.cell? ⟨B, 7, none⟩ = some v7 ∧
  w.cell? ⟨B, 8, none⟩ = some v8 ∧ w.cell? ⟨B, 9, none⟩ = some v9 ∧ w.cell? ⟨B, 10, none⟩ = some v10 ∧ w.cell? ⟨B, 11, none⟩ = some v11 ∧ w.cell? ⟨B, 12, none⟩ = some v12 ∧ w.cell? ⟨B, 13, none⟩ = some v13 := by
 have e : ∀ i v, (#[v0, v1, v2, v3, v4, v5, v6, v7, v8, v9, v10, v11, v12, v13] : Array Value)[i]? = some v → w.cell? ⟨B, i, none⟩ = some v := fun i v hv => by simp only [World.cell?]; rw [h]; exact hv
 exact ⟨e 0 _ rfl, e 1 _ rfl, e 2 _ rfl, e 3 _ rfl, e 4 _ rfl, e 5 _ rfl, e 6 _ rfl, e 7 _ rfl, e 8 _ rfl, e 9 _ rfl, e 10 _ rfl, e 11 _ rfl, e 12 _ rfl, e 13 _ rfl⟩
section
variable {H : Type} {enc : TypeId × Value → H} {w : World} {base : Nat} {held : Bool}
theorem raw_cells {n : Nat} {cs : List Value} {y : DataW H × List MemPlace} (h : DataW.trod enc Tryd.prog w base (fun _ => true) held n 52 cs = some y) : ∃ u : V, cs = vc [u] ∧ u.t.size ≤ maxLen := by
 obtain ⟨y0, y1, y2, m, _, hl, h0, h1, h2⟩ := trod_struct3 Tryd.underlying52 h
 rw [show Tryd.prog.cellsOf 52 = 3 by kernel_rfl] at hl
 dsimp only at h0 h1 h2
 rw [show Tryd.prog.cellsOf 3 = 1 by kernel_rfl] at h0 h1
 rw [show Tryd.prog.cellsOf 9 = 1 by kernel_rfl] at h2
 match cs, hl with
 | [c0, c1, c2], _ =>
  obtain ⟨k, e0, _, w0⟩ := DataW.trod_int Tryd.underlying3 h0
  obtain ⟨m, e1, _, w1⟩ := DataW.trod_int Tryd.underlying3 h1
  obtain ⟨s, e2, _, w2⟩ := DataW.trod_string Tryd.underlying9 h2
  simp at e0 e1 e2
  subst e0 e1 e2
  exact ⟨⟨k, m, s⟩, rfl, w2⟩
theorem read_raws {fuel : Nat} {cs : List Value} {x : DataW H × List MemPlace} (hf : DataW.trod enc Tryd.prog w base (fun _ => true) held fuel 22 cs = some x) (hs : small Tryd.prog 22 x.1) :
  ∃ (v : Value) (l : List V), cs = [v] ∧ Rd w 3 l.length v (vc l) ∧ ∀ o ∈ l, o.t.size ≤ maxLen := by
 obtain ⟨v, n, vs, e, h1, h2, h3⟩ := open_rows Tryd.underlying22 (C := 3) (by kernel_rfl) (by omega) hf hs (R := fun cs' => ∃ u : V, cs' = vc [u] ∧ u.t.size ≤ maxLen) (fun _ _ _ hy _ => raw_cells hy)
 obtain ⟨l, g1, g2, g3⟩ := vcs_map _ n vs h1.1 h3
 subst g2 g1
 exact ⟨v, l, e, h1, g3⟩
theorem list14 {α : Type} {l : List α} (h : l.length = 14) : ∃ c0 c1 c2 c3 c4 c5 c6 c7 c8 c9 c10 c11 c12 c13, l = [c0, c1, c2, c3, c4, c5, c6, c7, c8, c9, c10, c11, c12, c13] := by
 match l, h with
 | [c0, c1, c2, c3, c4, c5, c6, c7, c8, c9, c10, c11, c12, c13], _ => exact ⟨c0, c1, c2, c3, c4, c5, c6, c7, c8, c9, c10, c11, c12, c13, rfl⟩
theorem list8 {α : Type} {l : List α} (h : l.length = 8) : ∃ c0 c1 c2 c3 c4 c5 c6 c7, l = [c0, c1, c2, c3, c4, c5, c6, c7] := by
 match l, h with
 | [c0, c1, c2, c3, c4, c5, c6, c7], _ => exact ⟨c0, c1, c2, c3, c4, c5, c6, c7, rfl⟩
theorem open_phrase {r : Reach} {b0 : Nat} {v : Value} {d : DataW H} {p : List MemPlace} (hv : Value.okWide Tryd.prog w r b0 27 v) (h : DataW.Trod enc Tryd.prog w base (fun _ => true) held 27 v d p) (hs : small Tryd.prog 27 d) :
  ∃ f : Ph, v = phV f ∧ PhR w f := by
 obtain ⟨cs, rfl, hsz⟩ := okWide_struct Tryd.underlying27 hv
 obtain ⟨fuel, hf⟩ := h
 rw [show (Value.agg cs).cells.toList = cs.toList from rfl] at hf
 obtain ⟨xs, n, _, hx, hl, hlen, hfl⟩ := DataW.trod_struct Tryd.underlying27 hf
 rw [show Tryd.prog.cellsOf 27 = 14 by kernel_rfl] at hl hsz
 obtain ⟨c0, c1, c2, c3, c4, c5, c6, c7, c8, c9, c10, c11, c12, c13, hcs⟩ := list14 hl
 obtain ⟨x0, x1, x2, x3, x4, x5, x6, x7, hxs⟩ := list8 (show xs.length = 8 from hlen)
 subst hxs
 simp only [Prod.mk.injEq] at hx
 obtain ⟨rfl, -⟩ := hx
 rw [hcs] at hfl
 have ci : Tryd.prog.cellsOf 3 = 1 := by kernel_rfl
 have cb : Tryd.prog.cellsOf 4 = 1 := by kernel_rfl
 have kr : Tryd.prog.cellsOf 22 = 1 := by kernel_rfl
 have kt : Tryd.prog.cellsOf 25 = 4 := by kernel_rfl
 have h0 : DataW.trod enc Tryd.prog w base (fun _ => true) held n 3 (([c0, c1, c2, c3, c4, c5, c6, c7, c8, c9, c10, c11, c12, c13].drop 0).take (Tryd.prog.cellsOf 3)) = some x0 := hfl 0 _ rfl
 have h1 : DataW.trod enc Tryd.prog w base (fun _ => true) held n 3 (([c0, c1, c2, c3, c4, c5, c6, c7, c8, c9, c10, c11, c12, c13].drop 1).take (Tryd.prog.cellsOf 3)) = some x1 := hfl 1 _ rfl
 have h2 : DataW.trod enc Tryd.prog w base (fun _ => true) held n 3 (([c0, c1, c2, c3, c4, c5, c6, c7, c8, c9, c10, c11, c12, c13].drop 2).take (Tryd.prog.cellsOf 3)) = some x2 := hfl 2 _ rfl
 have h3 : DataW.trod enc Tryd.prog w base (fun _ => true) held n 3 (([c0, c1, c2, c3, c4, c5, c6, c7, c8, c9, c10, c11, c12, c13].drop 3).take (Tryd.prog.cellsOf 3)) = some x3 := hfl 3 _ rfl
 have h4 : DataW.trod enc Tryd.prog w base (fun _ => true) held n 22 (([c0, c1, c2, c3, c4, c5, c6, c7, c8, c9, c10, c11, c12, c13].drop 4).take (Tryd.prog.cellsOf 22)) = some x4 := hfl 4 _ rfl
 have h5 : DataW.trod enc Tryd.prog w base (fun _ => true) held n 25 (([c0, c1, c2, c3, c4, c5, c6, c7, c8, c9, c10, c11, c12, c13].drop 5).take (Tryd.prog.cellsOf 25)) = some x5 := hfl 5 _ rfl
 have h6 : DataW.trod enc Tryd.prog w base (fun _ => true) held n 25 (([c0, c1, c2, c3, c4, c5, c6, c7, c8, c9, c10, c11, c12, c13].drop 9).take (Tryd.prog.cellsOf 25)) = some x6 := hfl 6 _ rfl
 have h7 : DataW.trod enc Tryd.prog w base (fun _ => true) held n 4 (([c0, c1, c2, c3, c4, c5, c6, c7, c8, c9, c10, c11, c12, c13].drop 13).take (Tryd.prog.cellsOf 4)) = some x7 := hfl 7 _ rfl
 rw [ci] at h0 h1 h2 h3
 rw [cb] at h7
 rw [kr] at h4
 rw [kt] at h5 h6
 have sm : ∀ (j : Nat) (t : TypeId) (y : DataW H), (Tryd.prog.underlying 27).map (fun u => match u with | .struct fs => (fs.toList.map (·.type))[j]? | _ => none) = some (some t) → ([x0, x1, x2, x3, x4, x5, x6, x7].map (·.1))[j]? = some y → small Tryd.prog t y := by
  intro j t y ht hy q hq
  refine hs q ?_
  rw [Tryd.underlying27] at ht
  simp only [DataW.weights, Tryd.underlying27]
  simp only [Option.map_some, Option.some.injEq] at ht
  exact weights_each ht hy q hq
 obtain ⟨k0, e0, _, w0⟩ := DataW.trod_int Tryd.underlying3 h0
 obtain ⟨k1, e1, _, w1⟩ := DataW.trod_int Tryd.underlying3 h1
 obtain ⟨k2, e2, _, w2⟩ := DataW.trod_int Tryd.underlying3 h2
 obtain ⟨k3, e3, _, w3⟩ := DataW.trod_int Tryd.underlying3 h3
 obtain ⟨u4, l4, e4, r4, z4⟩ := read_raws h4 (sm 4 _ _ (by rw [Tryd.underlying27]; rfl) rfl)
 obtain ⟨a5, b5, t5, u5, e5, p5, q5, s5, i5⟩ := read_twig 3 (fun h hs => read_twigs 3 h hs) h5 (sm 5 _ _ (by rw [Tryd.underlying27]; rfl) rfl)
 obtain ⟨a6, b6, t6, u6, e6, p6, q6, s6, i6⟩ := read_twig 3 (fun h hs => read_twigs 3 h hs) h6 (sm 6 _ _ (by rw [Tryd.underlying27]; rfl) rfl)
 obtain ⟨b7, e7, _⟩ := DataW.trod_bool Tryd.underlying4 h7
 simp at e0 e1 e2 e3 e4 e5 e6 e7
 obtain ⟨e50, e51, e52, e53⟩ := e5
 obtain ⟨e60, e61, e62, e63⟩ := e6
 subst e0 e1 e2 e3 e4 e50 e51 e52 e53 e60 e61 e62 e63 e7
 obtain ⟨ao5, m5, cp5, rfl, _⟩ := i5.sh
 obtain ⟨ao6, m6, cp6, rfl, _⟩ := i6.sh
 obtain ⟨ao4, cp4, rfl⟩ : ∃ a c, c4 = .slice a l4.length c := by
  obtain ⟨_, a, c, h, _⟩ := r4
  exact ⟨a, c, h⟩
 have hc : cs = phC ⟨k0, k1, k2, k3, ao4, l4.length, cp4, a5, b5, t5, ao5, m5, cp5, a6, b6, t6, ao6, m6, cp6, b7⟩ := by
  have := congrArg List.toArray hcs
  simpa [phC] using this
 rw [hc]
 exact ⟨_, rfl, rn_of w0, rn_of w1, rn_of w2, rn_of w3, ⟨l4, r4, z4⟩, p5, q5, s5, i5, p6, q6, s6, i6⟩
end
end Go.Proofs.YtdeollmeljaaoaaDoor.rd

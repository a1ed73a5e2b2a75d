import Derived.Test.YtdeollmeljaaoaaDoorQzk
import Derived.Test.YtdeollmeljaaoaaDoorQbk
import Derived.Test.YtdeollmeljaaoaaDoorBwk
import Derived.Test.YtdeollmeljaaoaaDoorUgk
import Derived.Test.YtdeollmeljaaoaaDoorKek
import Derived.Deep.Strs
import Derived.Test.YtdeollmeljaaoaaDoorBsk
import Derived.Lib.IndexBytes
set_option linter.unusedVariables false
set_option linter.unusedSimpArgs false
set_option maxHeartbeats 1000000
set_option maxRecDepth 100000
open Go.ChangeAt Go.ChangeShapes Go.Deep Go.RowKit Go.WideShapes
open Go.Lib (hid)
namespace Go.Proofs.YtdeollmeljaaoaaDoor
section
variable {H : Type} {enc : TypeId × Value → H} {w : World} {base : Nat} {held : Bool}
end
theorem Tryd.info54 : (Tryd.prog.info? 54).map (fun i => (i.zero, i.size, i.bytes)) = some (some (.agg #[.int .i64 0, .int .i64 0, .int .i64 0, .string ⟨#[]⟩, .string ⟨#[]⟩]), 5, 56) := by kernel_rfl
section
variable {H : Type} {enc : TypeId × Value → H} {w : World} {base : Nat} {held : Bool}
end
end Go.Proofs.YtdeollmeljaaoaaDoor
namespace Go.Proofs.YtdeollmeljaaoaaDoor.tw
theorem rstr {a b : ByteArray} (h : a = b) : Ending.returned (.string a) = .returned (.string b) := by rw [h]
def cutS (s : ByteArray) (m : Nat) : ByteArray := s.extract 0 (min s.size m)
def rawV (k n : Int) (s : ByteArray) : V :=
 if pck k 4 = 1 then ⟨1, pck n 2, ⟨#[]⟩⟩ else if pck k 4 = 2 then ⟨2, n, ⟨#[]⟩⟩ else if pck k 4 = 3 then ⟨3, 0, cutS s 10⟩ else nul
theorem cut_any (s : ByteArray) (m : Nat) (w : World) (hm : m ≤ 1000) (hs : s.size ≤ maxLen) :
  Calls Tryd.prog 20 #[.string s, .int .i64 (m : Int)] w fun e w' => e = .returned (.string (cutS s m)) ∧ w = w' := by
 unfold maxLen at hs
 by_cases h : s.size ≤ m
 ·go_enter Tryd.func20, Tryd.ntmps20
  go_wp2
  go_ret
  refine ⟨rstr ?_, rfl⟩
  show s.extract 0 (min (s.size : Int) (m : Int)).toNat = _
  rw [show (min (s.size : Int) (m : Int)).toNat = s.size by omega, cutS, Nat.min_eq_left h]
 ·have h' : m < s.size := by omega
  go_enter Tryd.func20, Tryd.ntmps20
  go_wp2
  go_ret
  refine ⟨rstr ?_, rfl⟩
  show s.extract 0 (min (s.size : Int) (m : Int)).toNat = _
  rw [show (min (s.size : Int) (m : Int)).toNat = m by omega, cutS, Nat.min_eq_right (by omega)]
theorem val_any (k n : Int) (s : ByteArray) (w : World) (hk : Rn k) (hn : Rn n) (hs : s.size ≤ maxLen) :
  Calls Tryd.prog 15 #[.agg #[.int .i64 k, .int .i64 n, .string s]] w fun e w' => e = .returned (.agg #[.int .i64 (rawV k n s).k, .int .i64 (rawV k n s).n, .string (rawV k n s).t]) ∧ Below w.heap.size w w' := by
 have HS := hid hs
 clear hs
 have hin := pck_in k 4 (by omega)
 go_enter Tryd.func15, Tryd.ntmps15
 go_wp2_with fail
 refine (pck_any _ _ _ hk (by omega) (by omega)).mono ?_
 rintro e w1 ⟨rfl, rfl⟩
 go_wp2_with fail
 ·refine (pck_any _ _ _ hn (by omega) (by omega)).mono ?_
  rintro e w1 ⟨rfl, rfl⟩
  go_wp2_with fail
  go_returns
  refine ⟨?_, by go_grown⟩
  simp_all [rawV]
 ·go_returns
  refine ⟨?_, by go_grown⟩
  simp_all [rawV]
 ·refine (cut_any _ 10 _ (by omega) HS.out).mono ?_
  rintro e w1 ⟨rfl, rfl⟩
  go_wp2_with fail
  go_returns
  refine ⟨?_, by go_grown⟩
  simp_all [rawV]
 ·go_returns
  refine ⟨?_, by go_grown⟩
  simp_all [rawV, nul]
def TwS (w : World) : Nat → Value → Prop
 | 0, v => ∃ n vs, Rd w 4 n v vs
 | f + 1, v => ∃ n vs, Rd w 4 n v vs ∧ ∀ i, i < n → ∃ (k m : Int) (t : ByteArray) (u : Value), (vs.drop (i * 4)).take 4 = [.int .i64 k, .int .i64 m, .string t, u] ∧ Rn k ∧ Rn m ∧ t.size ≤ maxLen ∧ TwS w f u
theorem TwS.below {w w' : World} (hb : Below w.heap.size w w') : ∀ {f : Nat} {v : Value}, TwS w f v → TwS w' f v
 | 0, _, ⟨n, vs, h⟩ => ⟨n, vs, h.below hb⟩
 | f + 1, _, ⟨n, vs, h, g⟩ => ⟨n, vs, h.below hb, fun i hi => by
  obtain ⟨k, m, t, u, e, h1, h2, h3, h4⟩ := g i hi
  exact ⟨k, m, t, u, e, h1, h2, h3, TwS.below hb h4⟩⟩
theorem TwS.nil (w : World) : ∀ f, TwS w f (.slice none 0 0)
 | 0 => ⟨0, [], Rd.nil w 4⟩
 | f + 1 => ⟨0, [], Rd.nil w 4, fun i hi => by omega⟩
theorem TwS.sh {w : World} {f : Nat} {v : Value} (h : TwS w (f + 1) v) : ∃ ao n cap, v = .slice ao n cap ∧ n ≤ maxLen ∧ ∀ i, i < n → ∃ (b o : Nat) (k m : Int) (t : ByteArray) (u : Value), ao = some ⟨b, o, none⟩ ∧ b < w.heap.size ∧
  w.cell? ⟨b, o + i * 4, none⟩ = some (.int .i64 k) ∧ w.cell? ⟨b, o + i * 4 + 1, none⟩ = some (.int .i64 m) ∧ w.cell? ⟨b, o + i * 4 + 2, none⟩ = some (.string t) ∧ w.cell? ⟨b, o + i * 4 + 3, none⟩ = some u ∧ Rn k ∧ Rn m ∧ t.size ≤ maxLen ∧ TwS w f u := by
 obtain ⟨n, vs, h, g⟩ := h
 have hl := h.len
 obtain ⟨_, ao, cap, e, _⟩ := id h
 refine ⟨ao, n, cap, e, hl, fun i hi => ?_⟩
 obtain ⟨b, o, cap', e', _, _, hb, hc⟩ := h.pos (by omega) (by omega)
 rw [e] at e'
 simp only [Value.slice.injEq] at e'
 obtain ⟨rfl, -, rfl⟩ := e'
 obtain ⟨k, m, t, u, e4, h1, h2, h3, h4⟩ := g i hi
 have at_ : ∀ j x, ([.int .i64 k, .int .i64 m, .string t, u] : List Value)[j]? = some x → j < 4 → w.cell? ⟨b, o + i * 4 + j, none⟩ = some x := fun j x hx hj => by
  have := hc (i * 4 + j) x (by
   rw [← e4, List.getElem?_take, if_pos hj, List.getElem?_drop] at hx
   exact hx)
  rwa [← Nat.add_assoc] at this
 exact ⟨b, o, k, m, t, u, rfl, hb, at_ 0 _ rfl (by omega), at_ 1 _ rfl (by omega), at_ 2 _ rfl (by omega), at_ 3 _ rfl (by omega), h1, h2, h3, h4⟩
end Go.Proofs.YtdeollmeljaaoaaDoor.tw

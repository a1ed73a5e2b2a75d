import Derived.Test.YtmfkdpfcpdmkdaaDoorYak
import Derived.Test.YtmfkdpfcpdmkdaaDoorUhk
import Derived.Test.YtmfkdpfcpdmkdaaDoorQtk
/- Kinds of expressions: of two things, of a leaf. -/
namespace Go.Proofs.YtmfkdpfcpdmkdaaDoor
open Go.ChangeShapes Go.WideShapes Go.ChangeAt Go.RowKit
set_option linter.unusedVariables false
set_option linter.unusedSimpArgs false
set_option maxHeartbeats 4000000
set_option maxRecDepth 100000
theorem kindOfTwo_any (w : World) (k a b : Int) : Calls Tryd.prog 44 #[.int .i64 k, .int .i64 a, .int .i64 b] w (KindIs (twK k a b) w) := by
  by_cases h34 : k = 3 ∨ k = 4
  · have HI := Lib.hid (fun w => ifKnown_any w 1 a b)
    have HF : Hid (twK k a b = ifK 1 a b) := by show _ = _; unfold twK; rw [if_pos h34]
    obtain ⟨r, hr⟩ : ∃ r, r = ifK 1 a b := ⟨_, rfl⟩
    rw [← hr] at HI HF
    obtain ⟨r1, r2⟩ := r
    clear hr
    rcases h34 with rfl | rfl
    all_goals (
      go_enter Tryd.func44, Tryd.ntmps44
      go_wp2_with fail
      refine (HI.out _).mono ?_
      rintro e w' ⟨rfl, rfl⟩
      go_wp2_with fail
      go_returns
      rw [HF.out]
      exact ⟨rfl, rfl⟩)
  · have e3 : (k == 3) = false := by simp; omega
    have e4 : (k == 4) = false := by simp; omega
    by_cases h67 : k = 6 ∨ k = 7
    · obtain ⟨q, hq⟩ : ∃ q, q = (a == b || a == 0) := ⟨_, rfl⟩
      have HK := Lib.hid (fun w => known_any w a b q hq.symm)
      have hF : twK k a b = if q = true ∨ b = 0 then (0, 1) else (4, 0) := by
        unfold twK
        rw [if_neg h34, if_pos h67, hq]
        by_cases h1 : a = b <;> by_cases h2 : a = 0 <;> by_cases h3 : b = 0 <;> simp [h1, h2, h3]
      have HF := Lib.hid hF
      clear hq hF h34
      cases q
      · by_cases hb : b = 0
        · subst hb
          rcases h67 with rfl | rfl
          all_goals (
            go_enter Tryd.func44, Tryd.ntmps44
            go_wp2_with (go_at_call 22; ((with_reducible refine (HK.out _).mono ?_); rintro e w' ⟨rfl, rfl⟩))
            go_returns
            rw [HF.out]
            exact ⟨rfl, rfl⟩)
        · have hb' : (b == 0) = false := by simpa using hb
          rcases h67 with rfl | rfl
          all_goals (
            go_enter Tryd.func44, Tryd.ntmps44
            go_wp2_with (go_at_call 22; ((with_reducible refine (HK.out _).mono ?_); rintro e w' ⟨rfl, rfl⟩))
            go_returns
            rw [HF.out, if_neg (by simp [hb])]
            exact ⟨rfl, rfl⟩)
      · rcases h67 with rfl | rfl
        all_goals (
          go_enter Tryd.func44, Tryd.ntmps44
          go_wp2_with (go_at_call 22; ((with_reducible refine (HK.out _).mono ?_); rintro e w' ⟨rfl, rfl⟩))
          go_returns
          rw [HF.out]
          exact ⟨rfl, rfl⟩)
    · have e6 : (k == 6) = false := by simp; omega
      have e7 : (k == 7) = false := by simp; omega
      have HI := Lib.hid (fun w => ifKnown_any w 2 a b)
      have HF : Hid (twK k a b = ifK 2 a b) := by show _ = _; unfold twK; rw [if_neg h34, if_neg h67]
      obtain ⟨r, hr⟩ : ∃ r, r = ifK 2 a b := ⟨_, rfl⟩
      rw [← hr] at HI HF
      obtain ⟨r1, r2⟩ := r
      clear hr h34 h67
      go_enter Tryd.func44, Tryd.ntmps44
      go_wp2_with fail
      refine (HI.out _).mono ?_
      rintro e w' ⟨rfl, rfl⟩
      go_wp2_with fail
      go_returns
      rw [HF.out]
      exact ⟨rfl, rfl⟩
/-- What the closure of leaves answers. -/
def LeafIs (p : Int × Int) (w : World) (e : Ending) (w' : World) : Prop := e = .returned (.tuple #[.int .i64 p.2, .int .i64 p.1]) ∧ Below w.heap.size w w'
theorem kind1_any (w : World) (n : Nat) (ao : Option Addr) (cap : Nat) (l : List Cq) (o : Oq) (B : Nat) (hr : Rd w 2 n (.slice ao n cap) (ccs l)) (hx : w.cell? ⟨B, 0, none⟩ = some (.slice ao n cap)) :
    Calls Tryd.prog 42 #[.agg #[.int .i64 o.k, .int .i64 o.v.k, .int .i64 o.v.n, .string o.v.t, .string o.t], .pointer (some ⟨B, 0, none⟩)] w (LeafIs (lfK l o) w) := by
  obtain ⟨k, ⟨vk, vn, vt⟩, t⟩ := o
  have hb : Below w.heap.size w (w.alloc (.cells #[.int .i64 k, .int .i64 vk, .int .i64 vn, .string vt, .string t] 44)) := (Below.refl _ _).alloc (Nat.le_refl _) _
  have x0 := cell_blz hb hx
  have HB := Lib.hid hb
  by_cases h1 : k = 1
  · subst h1
    clear hb hx
    go_enter Tryd.func42, Tryd.ntmps42
    go_wp2_with fail
    go_returns
    exact ⟨rfl, HB.out⟩
  · have h1' : (k == 1) = false := by simpa using h1
    have HP := Lib.hid (fun (W : World) (h : Below w.heap.size w W) => place_any W n _ l t (hr.below h))
    have HF : Hid (lfK l ⟨k, ⟨vk, vn, vt⟩, t⟩ = if plI l t < 0 then (8, 0) else (0, (l.getD (plI l t).toNat ncq).k)) := by
      show _ = _
      unfold lfK
      rw [if_neg h1]
    have hin := plI_in l t
    have hml := len_c hr
    obtain ⟨p, hp⟩ : ∃ p, p = plI l t := ⟨_, rfl⟩
    rw [← hp] at HP HF hin
    rcases hin with rfl | ⟨j, rfl, hj⟩
    · clear hb hx hr hp h1 hml
      go_enter Tryd.func42, Tryd.ntmps42
      go_wp2_with fail
      refine (HP.out _ HB.out).mono ?_
      rintro e w1 ⟨rfl, hb1⟩
      have HB1 := Lib.hid (into HB.out hb1)
      clear hb1
      go_wp2_with fail
      go_returns
      rw [HF.out]
      exact ⟨rfl, HB1.out⟩
    · obtain ⟨b, o, cap', hv, _, _, hbw, hcell⟩ := cols_of hr (by omega)
      simp only [Value.slice.injEq] at hv
      obtain ⟨rfl, -, rfl⟩ := hv
      have c1 := (hcell j (by omega)).2
      have hjn : (j : Int) < (n : Int) := by omega
      have HJ : Hid (lfK l ⟨k, ⟨vk, vn, vt⟩, t⟩ = (0, (l.getD j ncq).k)) := by
        show _ = _
        rw [HF.out, if_neg (by omega)]
        rfl
      obtain ⟨ck, hck⟩ : ∃ ck, ck = (l.getD j ncq).k := ⟨_, rfl⟩
      rw [← hck] at c1 HJ
      have c2 := cell_blz hb c1
      clear hb hx hr hp h1 hml hcell hck c1 HF
      go_enter Tryd.func42, Tryd.ntmps42
      go_wp2_with fail
      refine (HP.out _ HB.out).mono ?_
      rintro e w1 ⟨rfl, hb1⟩
      have y0 := cell_blz hb1 x0
      have y1 := cell_blz hb1 c2
      have HB1 := Lib.hid (into HB.out hb1)
      clear hb1 x0 c2
      go_wp2_with fail
      go_returns
      rw [HJ.out]
      exact ⟨rfl, HB1.out⟩
end Go.Proofs.YtmfkdpfcpdmkdaaDoor
/- Ops folded over a stack of kinds: the program. -/
namespace Go.Proofs.YtmfkdpfcpdmkdaaDoor
open Go.ChangeShapes Go.WideShapes Go.ChangeAt Go.RowKit
set_option linter.unusedVariables false
set_option linter.unusedSimpArgs false
set_option maxHeartbeats 8000000
set_option maxRecDepth 1000000
theorem Tryd.info3 : (Tryd.prog.info? 3).map (fun i => (i.zero, i.size, i.bytes)) = some (some (.int .i64 0), 1, 8) := by kernel_rfl
def icY (l : List Int) : List Value := l.map fun x => .int .i64 x
theorem icY_app (l m : List Int) : icY (l ++ m) = icY l ++ icY m := by simp [icY]
theorem ic_len (l : List Int) : (icY l).length = l.length := by simp [icY]
theorem icY_one (l : List Int) : ∀ u ∈ icY l, u.oneCell' = true := by
  intro u hu
  obtain ⟨x, _, rfl⟩ := List.mem_map.1 hu
  rfl
theorem ic_take (l : List Int) (k : Nat) : (icY l).take (k * 1) = icY (l.take k) := by rw [Nat.mul_one]; simp [icY, List.map_take]
/-- The beginning of what the call owns. -/
theorem own_take {w : World} {B e s n cap : Nat} {ao : Option Addr} {xs : List Value} (h : w.ownsRow B e s (.slice ao n cap) n xs) (k : Nat) (hk : k ≤ n) : w.ownsRow B e s (.slice ao k cap) k (xs.take (k * s)) := by
  refine ⟨?_, ?_⟩
  · rw [List.length_take, h.1]
    exact Nat.min_eq_left (Nat.mul_le_mul_right _ hk)
  · rcases h.2 with ⟨hv, h0⟩ | ⟨g, c, cur, hv, h1, h2, h3, h4, h5, h6⟩
    · simp only [Value.slice.injEq] at hv
      obtain ⟨rfl, _, rfl⟩ := hv
      exact .inl ⟨by rw [show k = 0 by omega], by omega⟩
    · simp only [Value.slice.injEq] at hv
      obtain ⟨rfl, _, rfl⟩ := hv
      refine .inr ⟨g, cap, cur, rfl, h1, h2, by omega, h4, h5, ?_⟩
      rw [← h6, List.take_take, Nat.min_eq_left (Nat.mul_le_mul_right _ hk)]
theorem ic_rd1 (w : World) (x : Int) (B : Nat) (hB : w.heap.size = B) : Rd (w.alloc (.cells #[.int .i64 x] 3)) 1 1 (.slice (some ⟨B, 0, none⟩) 1 1) (icY [x]) := by
  subst hB
  exact Rd.own (World.ownsRow_lit (base := w.heap.size) w #[.int .i64 x] 1 (Nat.le_refl _) (by unfold maxLen; omega) rfl)
/-- A stack (the last one first) with a thing more, put upon what is left of it. -/
theorem rev_push (st : List Int) (x : Int) : (x :: st).reverse = st.reverse ++ [x] := by simp
theorem rev_top {st : List Int} {a : Int} {s : List Int} (h : st = a :: s) : st.reverse.take s.length = s.reverse ∧ st.reverse[s.length]? = some a := by
  subst h
  constructor
  · rw [List.reverse_cons, List.take_append_of_le_length (by simp)]
    rw [List.take_of_length_le (by simp)]
  · rw [List.reverse_cons, List.getElem?_append_right (by simp)]
    simp
theorem rev_two {st : List Int} {a b : Int} {s : List Int} (h : st = b :: a :: s) : st.reverse.take s.length = s.reverse ∧ st.reverse[s.length]? = some a ∧ st.reverse[s.length + 1]? = some b := by
  subst h
  refine ⟨?_, ?_, ?_⟩
  · simp only [List.reverse_cons, List.append_assoc]
    rw [List.take_append_of_le_length (by simp), List.take_of_length_le (by simp)]
  · simp only [List.reverse_cons, List.append_assoc]
    rw [List.getElem?_append_right (by simp)]
    simp
  · simp only [List.reverse_cons, List.append_assoc]
    rw [List.getElem?_append_right (by simp)]
    simp
theorem own_cell1 {w : World} {B e n cap : Nat} {ao : Option Addr} {l : List Int} (h : w.ownsRow B e 1 (.slice ao n cap) n (icY l)) {j : Nat} {x : Int} (hj : l[j]? = some x) : ∃ g, ao = some ⟨g, 0, none⟩ ∧ w.cell? ⟨g, j, none⟩ = some (.int .i64 x) := by
  have hjl : j < l.length := (List.getElem?_eq_some_iff.1 hj).1
  have hl := h.1
  rw [ic_len, Nat.mul_one] at hl
  rcases h.2 with ⟨hv, h0⟩ | ⟨g, c, cur, hv, _⟩
  · omega
  · simp only [Value.slice.injEq] at hv
    obtain ⟨rfl, _, rfl⟩ := hv
    refine ⟨g, rfl, ?_⟩
    rw [h.cellAt j (by omega)]
    simp [icY, hj]
end Go.Proofs.YtmfkdpfcpdmkdaaDoor

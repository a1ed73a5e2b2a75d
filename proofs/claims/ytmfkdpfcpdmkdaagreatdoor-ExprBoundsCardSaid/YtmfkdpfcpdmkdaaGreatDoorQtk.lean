import Derived.Test.YtmfkdpfcpdmkdaaGreatDoorB2k
import Derived.Test.YtmfkdpfcpdmkdaaGreatDoorYak
import Derived.Test.YtmfkdpfcpdmkdaaGreatDoorUhk
/- Ops that are an expression are a tree, written out from its leaves on; what a stack makes of them; where what ends at a place begins. Plain. -/
namespace Go.Proofs.YtmfkdpfcpdmkdaaGreatDoor
set_option linter.unusedVariables false
set_option linter.unusedSimpArgs false
inductive Tx where
  | leaf (o : Oq)
  | un (o : Oq) (a : Tx)
  | bi (o : Oq) (a b : Tx)
def Tx.flat : Tx → List Oq
  | .leaf o => [o]
  | .un o a => a.flat ++ [o]
  | .bi o a b => a.flat ++ b.flat ++ [o]
def Tx.op : Tx → Oq
  | .leaf o => o
  | .un o _ => o
  | .bi o _ _ => o
/-- Each op works on as many as stand beneath it, and is one that may be. -/
def Tx.ok : Tx → Prop
  | .leaf o => wks o.k = 0 ∧ opF o.k o.v.k o.v.n o.v.t o.t = 0
  | .un o a => wks o.k = 1 ∧ opF o.k o.v.k o.v.n o.v.t o.t = 0 ∧ a.ok
  | .bi o a b => wks o.k = 2 ∧ opF o.k o.v.k o.v.n o.v.t o.t = 0 ∧ a.ok ∧ b.ok
theorem Tx.flat_pos : ∀ t : Tx, 0 < t.flat.length
  | .leaf o => by simp [Tx.flat]
  | .un o a => by simp [Tx.flat]
  | .bi o a b => by simp [Tx.flat]; omega
theorem Tx.ok_mem : ∀ {t : Tx}, t.ok → ∀ o ∈ t.flat, opF o.k o.v.k o.v.n o.v.t o.t = 0
  | .leaf o, h, x, hx => by
    simp only [Tx.flat, List.mem_singleton] at hx
    subst hx
    exact h.2
  | .un o a, h, x, hx => by
    simp only [Tx.flat, List.mem_append, List.mem_singleton] at hx
    rcases hx with hx | rfl
    · exact Tx.ok_mem h.2.2 x hx
    · exact h.2.1
  | .bi o a b, h, x, hx => by
    simp only [Tx.flat, List.mem_append, List.mem_singleton] at hx
    rcases hx with (hx | hx) | rfl
    · exact Tx.ok_mem h.2.2.1 x hx
    · exact Tx.ok_mem h.2.2.2 x hx
    · exact h.2.1
/-- Trees on a stack, the last one first, written out. -/
def flatS : List Tx → List Oq
  | [] => []
  | t :: s => flatS s ++ t.flat
theorem ex_trees : ∀ (l : List Oq) (st : List Tx) (n : Int), n = (st.length : Int) → (∀ t ∈ st, t.ok) → exF n l = 0 → ∃ t : Tx, t.ok ∧ flatS st ++ l = t.flat
  | [], st, n, hn, hok, h => by
    have h1 : n = 1 := by
      unfold exF at h
      split at h
      · assumption
      · omega
    match st, hn with
    | [t], _ => exact ⟨t, hok t (by simp), by simp [flatS]⟩
    | [], hn => simp at hn; omega
    | _ :: _ :: _, hn => simp at hn; omega
  | o :: l, st, n, hn, hok, h => by
    unfold exF at h
    split at h
    · omega
    · rename_i h0
      have h0 : opF o.k o.v.k o.v.n o.v.t o.t = 0 := by simpa using h0
      split at h
      · omega
      · rename_i hw
        have hx := wks_in o.k
        by_cases k0 : wks o.k = 0
        · obtain ⟨t, h1, h2⟩ := ex_trees l (.leaf o :: st) (n + 1 - wks o.k) (by simp; omega) (fun t ht => by
            rcases List.mem_cons.1 ht with rfl | ht
            · exact ⟨k0, h0⟩
            · exact hok t ht) h
          exact ⟨t, h1, by rw [← h2]; simp [flatS, Tx.flat]⟩
        · by_cases k1 : wks o.k = 1
          · match st, hn, hok with
            | [], hn, _ => simp at hn; omega
            | a :: s, hn, hok =>
              obtain ⟨t, h1, h2⟩ := ex_trees l (.un o a :: s) (n + 1 - wks o.k) (by simp at hn ⊢; omega) (fun t ht => by
                rcases List.mem_cons.1 ht with rfl | ht
                · exact ⟨k1, h0, hok a (by simp)⟩
                · exact hok t (by simp [ht])) h
              exact ⟨t, h1, by rw [← h2]; simp [flatS, Tx.flat]⟩
          · have k2 : wks o.k = 2 := by omega
            match st, hn, hok with
            | [], hn, _ => simp at hn; omega
            | [a], hn, _ => simp at hn; omega
            | b :: a :: s, hn, hok =>
              obtain ⟨t, h1, h2⟩ := ex_trees l (.bi o a b :: s) (n + 1 - wks o.k) (by simp at hn ⊢; omega) (fun t ht => by
                rcases List.mem_cons.1 ht with rfl | ht
                · exact ⟨k2, h0, hok a (by simp), hok b (by simp)⟩
                · exact hok t (by simp [ht])) h
              exact ⟨t, h1, by rw [← h2]; simp [flatS, Tx.flat]⟩
/-- Ops that are an expression are a tree. -/
theorem expr_tree {l : List Oq} (h : exprF l = 0) : l.length ≤ 40 ∧ ∃ t : Tx, t.ok ∧ l = t.flat := by
  unfold exprF at h
  split at h
  · omega
  · obtain ⟨t, h1, h2⟩ := ex_trees l [] 0 rfl (by simp) h
    exact ⟨by omega, t, h1, by simpa [flatS] using h2⟩
section
variable {α : Type} (lf : Oq → Int × α) (one : Int → α → Int × α) (two : Int → α → α → Int × α)
/-- What an expression makes; the first fault. -/
def evT : Tx → Int × α
  | .leaf o => lf o
  | .un o a => if (evT a).1 ≠ 0 then evT a else one o.k (evT a).2
  | .bi o a b => if (evT a).1 ≠ 0 then evT a else if (evT b).1 ≠ 0 then evT b else two o.k (evT a).2 (evT b).2
/-- What a stack makes of ops: the fault, or what stands there (the last one first). -/
def rnF : List α → List Oq → Int × List α
  | st, [] => (0, st)
  | st, o :: l =>
    if wks o.k = 0 then (if (lf o).1 ≠ 0 then ((lf o).1, []) else rnF ((lf o).2 :: st) l)
    else if wks o.k = 1 then (match st with
      | a :: s => if (one o.k a).1 ≠ 0 then ((one o.k a).1, []) else rnF ((one o.k a).2 :: s) l
      | [] => (0, []))
    else (match st with
      | b :: a :: s => if (two o.k a b).1 ≠ 0 then ((two o.k a b).1, []) else rnF ((two o.k a b).2 :: s) l
      | _ => (0, []))
theorem rn_leaf {o : Oq} {st : List α} {l : List Oq} (h : wks o.k = 0) : rnF lf one two st (o :: l) = if (lf o).1 ≠ 0 then ((lf o).1, []) else rnF lf one two ((lf o).2 :: st) l := by
  conv => lhs; unfold rnF
  rw [if_pos h]
theorem rn_un {o : Oq} {a : α} {st : List α} {l : List Oq} (h : wks o.k = 1) : rnF lf one two (a :: st) (o :: l) = if (one o.k a).1 ≠ 0 then ((one o.k a).1, []) else rnF lf one two ((one o.k a).2 :: st) l := by
  conv => lhs; unfold rnF
  rw [if_neg (by omega), if_pos h]
theorem rn_bi {o : Oq} {a b : α} {st : List α} {l : List Oq} (h : wks o.k = 2) : rnF lf one two (b :: a :: st) (o :: l) = if (two o.k a b).1 ≠ 0 then ((two o.k a b).1, []) else rnF lf one two ((two o.k a b).2 :: st) l := by
  conv => lhs; unfold rnF
  rw [if_neg (by omega), if_neg (by omega)]
theorem ev_un_bad {o : Oq} {a : Tx} (h : (evT lf one two a).1 ≠ 0) : evT lf one two (.un o a) = evT lf one two a := by
  conv => lhs; unfold evT
  rw [if_pos h]
theorem ev_un {o : Oq} {a : Tx} (h : (evT lf one two a).1 = 0) : evT lf one two (.un o a) = one o.k (evT lf one two a).2 := by
  conv => lhs; unfold evT
  rw [if_neg (by simpa using h)]
theorem ev_bi_bad {o : Oq} {a b : Tx} (h : (evT lf one two a).1 ≠ 0) : evT lf one two (.bi o a b) = evT lf one two a := by
  conv => lhs; unfold evT
  rw [if_pos h]
theorem ev_bi_bad2 {o : Oq} {a b : Tx} (h : (evT lf one two a).1 = 0) (h2 : (evT lf one two b).1 ≠ 0) : evT lf one two (.bi o a b) = evT lf one two b := by
  conv => lhs; unfold evT
  rw [if_neg (by simpa using h), if_pos h2]
theorem ev_bi {o : Oq} {a b : Tx} (h : (evT lf one two a).1 = 0) (h2 : (evT lf one two b).1 = 0) : evT lf one two (.bi o a b) = two o.k (evT lf one two a).2 (evT lf one two b).2 := by
  conv => lhs; unfold evT
  rw [if_neg (by simpa using h), if_neg (by simpa using h2)]
theorem rn_tree : ∀ (t : Tx), t.ok → ∀ (st : List α) (r : List Oq), rnF lf one two st (t.flat ++ r) = if (evT lf one two t).1 ≠ 0 then ((evT lf one two t).1, []) else rnF lf one two ((evT lf one two t).2 :: st) r
  | .leaf o, h, st, r => rn_leaf lf one two h.1
  | .un o a, h, st, r => by
    rw [Tx.flat, List.append_assoc, rn_tree a h.2.2]
    by_cases h1 : (evT lf one two a).1 = 0
    · rw [if_neg (by simpa using h1), ev_un lf one two h1]
      exact rn_un lf one two h.1
    · rw [ev_un_bad lf one two h1, if_pos h1, if_pos h1]
  | .bi o a b, h, st, r => by
    rw [Tx.flat, List.append_assoc, List.append_assoc, rn_tree a h.2.2.1]
    by_cases h1 : (evT lf one two a).1 = 0
    · rw [if_neg (by simpa using h1), rn_tree b h.2.2.2]
      by_cases h2 : (evT lf one two b).1 = 0
      · rw [if_neg (by simpa using h2), ev_bi lf one two h1 h2]
        exact rn_bi lf one two h.1
      · rw [ev_bi_bad2 lf one two h1 h2, if_pos h2, if_pos h2]
    · rw [ev_bi_bad lf one two h1, if_pos h1, if_pos h1]
/-- A stack that begins empty: what the expression makes, alone. -/
theorem rn_whole {t : Tx} (h : t.ok) : rnF lf one two [] t.flat = if (evT lf one two t).1 ≠ 0 then ((evT lf one two t).1, []) else (0, [(evT lf one two t).2]) := by
  have := rn_tree lf one two t h [] []
  rw [List.append_nil] at this
  rw [this]
  rfl
end
/-- How many ops are gone back, when so many things are needed. -/
def bgF : Nat → List Oq → Nat
  | 0, _ => 0
  | _ + 1, [] => 0
  | n + 1, o :: r => 1 + bgF (n + (wks o.k).toNat) r
theorem bg_tree : ∀ (t : Tx), t.ok → ∀ (n : Nat) (r : List Oq), bgF (n + 1) (t.flat.reverse ++ r) = t.flat.length + bgF n r
  | .leaf o, h, n, r => by
    have h1 := h.1
    simp [Tx.flat, bgF, h1]
  | .un o a, h, n, r => by
    have h1 := h.1
    simp only [Tx.flat, List.reverse_append, List.reverse_singleton, List.cons_append, List.nil_append, bgF, h1]
    rw [show n + (1 : Int).toNat = n + 1 from rfl, bg_tree a h.2.2]
    simp
    omega
  | .bi o a b, h, n, r => by
    have h1 := h.1
    simp only [Tx.flat, List.reverse_append, List.reverse_singleton, List.cons_append, List.nil_append, bgF, h1, List.append_assoc]
    rw [show n + (2 : Int).toNat = (n + 1) + 1 from rfl, bg_tree b h.2.2.2, bg_tree a h.2.2.1]
    simp
    omega
end Go.Proofs.YtmfkdpfcpdmkdaaGreatDoor
/- Kinds of expressions: of two things, of a leaf. -/
namespace Go.Proofs.YtmfkdpfcpdmkdaaGreatDoor
open Go.ChangeShapes Go.WideShapes Go.ChangeAt Go.RowKit
set_option linter.unusedVariables false
set_option linter.unusedSimpArgs false
set_option maxHeartbeats 4000000
set_option maxRecDepth 100000
theorem kindOfTwo_any (w : World) (k a b : Int) : Calls Tryz.prog 31 #[.int .i64 k, .int .i64 a, .int .i64 b] w (KindIs (twK k a b) w) := by
  by_cases h34 : k = 3 ∨ k = 4
  · have HI := Lib.hid (fun w => ifKnown_any w 1 a b)
    have HF : Hid (twK k a b = ifK 1 a b) := by show _ = _; unfold twK; rw [if_pos h34]
    obtain ⟨r, hr⟩ : ∃ r, r = ifK 1 a b := ⟨_, rfl⟩
    rw [← hr] at HI HF
    obtain ⟨r1, r2⟩ := r
    clear hr
    rcases h34 with rfl | rfl
    all_goals (
      go_enter Tryz.func31, Tryz.ntmps31
      go_wp2_with fail
      refine (HI.out _).mono ?_
      rintro e w' ⟨rfl, rfl⟩
      go_wp2_with fail
      go_returns
      rw [HF.out]
      exact ⟨rfl, rfl⟩)
  · have e3 : (k == 3) = false := by simp; omega
    have e4 : (k == 4) = false := by simp; omega
    by_cases h67 : k = 6 ∨ k = 7
    · obtain ⟨q, hq⟩ : ∃ q, q = (a == b || a == 0) := ⟨_, rfl⟩
      have HK := Lib.hid (fun w => known_any w a b q hq.symm)
      have hF : twK k a b = if q = true ∨ b = 0 then (0, 1) else (4, 0) := by
        unfold twK
        rw [if_neg h34, if_pos h67, hq]
        by_cases h1 : a = b <;> by_cases h2 : a = 0 <;> by_cases h3 : b = 0 <;> simp [h1, h2, h3]
      have HF := Lib.hid hF
      clear hq hF h34
      cases q
      · by_cases hb : b = 0
        · subst hb
          rcases h67 with rfl | rfl
          all_goals (
            go_enter Tryz.func31, Tryz.ntmps31
            go_wp2_with (go_at_call 11; ((with_reducible refine (HK.out _).mono ?_); rintro e w' ⟨rfl, rfl⟩))
            go_returns
            rw [HF.out]
            exact ⟨rfl, rfl⟩)
        · have hb' : (b == 0) = false := by simpa using hb
          rcases h67 with rfl | rfl
          all_goals (
            go_enter Tryz.func31, Tryz.ntmps31
            go_wp2_with (go_at_call 11; ((with_reducible refine (HK.out _).mono ?_); rintro e w' ⟨rfl, rfl⟩))
            go_returns
            rw [HF.out, if_neg (by simp [hb])]
            exact ⟨rfl, rfl⟩)
      · rcases h67 with rfl | rfl
        all_goals (
          go_enter Tryz.func31, Tryz.ntmps31
          go_wp2_with (go_at_call 11; ((with_reducible refine (HK.out _).mono ?_); rintro e w' ⟨rfl, rfl⟩))
          go_returns
          rw [HF.out]
          exact ⟨rfl, rfl⟩)
    · have e6 : (k == 6) = false := by simp; omega
      have e7 : (k == 7) = false := by simp; omega
      have HI := Lib.hid (fun w => ifKnown_any w 2 a b)
      have HF : Hid (twK k a b = ifK 2 a b) := by show _ = _; unfold twK; rw [if_neg h34, if_neg h67]
      obtain ⟨r, hr⟩ : ∃ r, r = ifK 2 a b := ⟨_, rfl⟩
      rw [← hr] at HI HF
      obtain ⟨r1, r2⟩ := r
      clear hr h34 h67
      go_enter Tryz.func31, Tryz.ntmps31
      go_wp2_with fail
      refine (HI.out _).mono ?_
      rintro e w' ⟨rfl, rfl⟩
      go_wp2_with fail
      go_returns
      rw [HF.out]
      exact ⟨rfl, rfl⟩
/-- What the closure of leaves answers. -/
def LeafIs (p : Int × Int) (w : World) (e : Ending) (w' : World) : Prop := e = .returned (.tuple #[.int .i64 p.2, .int .i64 p.1]) ∧ Below w.heap.size w w'
theorem kind1_any (w : World) (n : Nat) (ao : Option Addr) (cap : Nat) (l : List Cq) (o : Oq) (B : Nat) (hr : Rd w 2 n (.slice ao n cap) (ccs l)) (hx : w.cell? ⟨B, 0, none⟩ = some (.slice ao n cap)) :
    Calls Tryz.prog 28 #[.agg #[.int .i64 o.k, .int .i64 o.v.k, .int .i64 o.v.n, .string o.v.t, .string o.t], .pointer (some ⟨B, 0, none⟩)] w (LeafIs (lfK l o) w) := by
  obtain ⟨k, ⟨vk, vn, vt⟩, t⟩ := o
  have hb : Below w.heap.size w (w.alloc (.cells #[.int .i64 k, .int .i64 vk, .int .i64 vn, .string vt, .string t] 45)) := (Below.refl _ _).alloc (Nat.le_refl _) _
  have x0 := cell_blz hb hx
  have HB := Lib.hid hb
  by_cases h1 : k = 1
  · subst h1
    clear hb hx
    go_enter Tryz.func28, Tryz.ntmps28
    go_wp2_with fail
    go_returns
    exact ⟨rfl, HB.out⟩
  · have h1' : (k == 1) = false := by simpa using h1
    have HP := Lib.hid (fun (W : World) (h : Below w.heap.size w W) => place_any W n _ l t (hr.below h))
    have HF : Hid (lfK l ⟨k, ⟨vk, vn, vt⟩, t⟩ = if plI l t < 0 then (8, 0) else (0, (l.getD (plI l t).toNat ncq).k)) := by
      show _ = _
      unfold lfK
      rw [if_neg h1]
    have hin := plI_in l t
    have hml := len_c hr
    obtain ⟨p, hp⟩ : ∃ p, p = plI l t := ⟨_, rfl⟩
    rw [← hp] at HP HF hin
    rcases hin with rfl | ⟨j, rfl, hj⟩
    · clear hb hx hr hp h1 hml
      go_enter Tryz.func28, Tryz.ntmps28
      go_wp2_with fail
      refine (HP.out _ HB.out).mono ?_
      rintro e w1 ⟨rfl, hb1⟩
      have HB1 := Lib.hid (into HB.out hb1)
      clear hb1
      go_wp2_with fail
      go_returns
      rw [HF.out]
      exact ⟨rfl, HB1.out⟩
    · obtain ⟨b, o, cap', hv, _, _, hbw, hcell⟩ := cols_of hr (by omega)
      simp only [Value.slice.injEq] at hv
      obtain ⟨rfl, -, rfl⟩ := hv
      have c1 := (hcell j (by omega)).2
      have hjn : (j : Int) < (n : Int) := by omega
      have HJ : Hid (lfK l ⟨k, ⟨vk, vn, vt⟩, t⟩ = (0, (l.getD j ncq).k)) := by
        show _ = _
        rw [HF.out, if_neg (by omega)]
        rfl
      obtain ⟨ck, hck⟩ : ∃ ck, ck = (l.getD j ncq).k := ⟨_, rfl⟩
      rw [← hck] at c1 HJ
      have c2 := cell_blz hb c1
      clear hb hx hr hp h1 hml hcell hck c1 HF
      go_enter Tryz.func28, Tryz.ntmps28
      go_wp2_with fail
      refine (HP.out _ HB.out).mono ?_
      rintro e w1 ⟨rfl, hb1⟩
      have y0 := cell_blz hb1 x0
      have y1 := cell_blz hb1 c2
      have HB1 := Lib.hid (into HB.out hb1)
      clear hb1 x0 c2
      go_wp2_with fail
      go_returns
      rw [HJ.out]
      exact ⟨rfl, HB1.out⟩
end Go.Proofs.YtmfkdpfcpdmkdaaGreatDoor
/- Ops folded over a stack of kinds: the program. -/
namespace Go.Proofs.YtmfkdpfcpdmkdaaGreatDoor
open Go.ChangeShapes Go.WideShapes Go.ChangeAt Go.RowKit
set_option linter.unusedVariables false
set_option linter.unusedSimpArgs false
set_option maxHeartbeats 8000000
set_option maxRecDepth 1000000
theorem Tryz.info3 : (Tryz.prog.info? 3).map (fun i => (i.zero, i.size, i.bytes)) = some (some (.int .i64 0), 1, 8) := by kernel_rfl
def icY (l : List Int) : List Value := l.map fun x => .int .i64 x
theorem icY_app (l m : List Int) : icY (l ++ m) = icY l ++ icY m := by simp [icY]
theorem ic_len (l : List Int) : (icY l).length = l.length := by simp [icY]
theorem icY_one (l : List Int) : ∀ u ∈ icY l, u.oneCell' = true := by
  intro u hu
  obtain ⟨x, _, rfl⟩ := List.mem_map.1 hu
  rfl
theorem ic_take (l : List Int) (k : Nat) : (icY l).take (k * 1) = icY (l.take k) := by rw [Nat.mul_one]; simp [icY, List.map_take]
/-- The beginning of what the call owns. -/
theorem own_take {w : World} {B e s n cap : Nat} {ao : Option Addr} {xs : List Value} (h : w.ownsRow B e s (.slice ao n cap) n xs) (k : Nat) (hk : k ≤ n) : w.ownsRow B e s (.slice ao k cap) k (xs.take (k * s)) := by
  refine ⟨?_, ?_⟩
  · rw [List.length_take, h.1]
    exact Nat.min_eq_left (Nat.mul_le_mul_right _ hk)
  · rcases h.2 with ⟨hv, h0⟩ | ⟨g, c, cur, hv, h1, h2, h3, h4, h5, h6⟩
    · simp only [Value.slice.injEq] at hv
      obtain ⟨rfl, _, rfl⟩ := hv
      exact .inl ⟨by rw [show k = 0 by omega], by omega⟩
    · simp only [Value.slice.injEq] at hv
      obtain ⟨rfl, _, rfl⟩ := hv
      refine .inr ⟨g, cap, cur, rfl, h1, h2, by omega, h4, h5, ?_⟩
      rw [← h6, List.take_take, Nat.min_eq_left (Nat.mul_le_mul_right _ hk)]
theorem ic_rd1 (w : World) (x : Int) (B : Nat) (hB : w.heap.size = B) : Rd (w.alloc (.cells #[.int .i64 x] 3)) 1 1 (.slice (some ⟨B, 0, none⟩) 1 1) (icY [x]) := by
  subst hB
  exact Rd.own (World.ownsRow_lit (base := w.heap.size) w #[.int .i64 x] 1 (Nat.le_refl _) (by unfold maxLen; omega) rfl)
/-- A stack (the last one first) with a thing more, put upon what is left of it. -/
theorem rev_push (st : List Int) (x : Int) : (x :: st).reverse = st.reverse ++ [x] := by simp
theorem rev_top {st : List Int} {a : Int} {s : List Int} (h : st = a :: s) : st.reverse.take s.length = s.reverse ∧ st.reverse[s.length]? = some a := by
  subst h
  constructor
  · rw [List.reverse_cons, List.take_append_of_le_length (by simp)]
    rw [List.take_of_length_le (by simp)]
  · rw [List.reverse_cons, List.getElem?_append_right (by simp)]
    simp
theorem rev_two {st : List Int} {a b : Int} {s : List Int} (h : st = b :: a :: s) : st.reverse.take s.length = s.reverse ∧ st.reverse[s.length]? = some a ∧ st.reverse[s.length + 1]? = some b := by
  subst h
  refine ⟨?_, ?_, ?_⟩
  · simp only [List.reverse_cons, List.append_assoc]
    rw [List.take_append_of_le_length (by simp), List.take_of_length_le (by simp)]
  · simp only [List.reverse_cons, List.append_assoc]
    rw [List.getElem?_append_right (by simp)]
    simp
  · simp only [List.reverse_cons, List.append_assoc]
    rw [List.getElem?_append_right (by simp)]
    simp
theorem own_cell1 {w : World} {B e n cap : Nat} {ao : Option Addr} {l : List Int} (h : w.ownsRow B e 1 (.slice ao n cap) n (icY l)) {j : Nat} {x : Int} (hj : l[j]? = some x) : ∃ g, ao = some ⟨g, 0, none⟩ ∧ w.cell? ⟨g, j, none⟩ = some (.int .i64 x) := by
  have hjl : j < l.length := (List.getElem?_eq_some_iff.1 hj).1
  have hl := h.1
  rw [ic_len, Nat.mul_one] at hl
  rcases h.2 with ⟨hv, h0⟩ | ⟨g, c, cur, hv, _⟩
  · omega
  · simp only [Value.slice.injEq] at hv
    obtain ⟨rfl, _, rfl⟩ := hv
    refine ⟨g, rfl, ?_⟩
    rw [h.cellAt j (by omega)]
    simp [icY, hj]
end Go.Proofs.YtmfkdpfcpdmkdaaGreatDoor

/- Any value may be Null, but the first one; of another kind none may be. The row lists the program's tables of marks, of words that are kept, of what each op works on, and of the words of kinds, constants and signs; the card ties them to the program's text. -/
import Derived.Test.YtcgomhcglnbalaaDoorQz
import Derived.Test.YtcgomhcglnbalaaDoorQu
import Derived.Test.YtcgomhcglnbalaaDoorBh
namespace Go.Proofs.YtcgomhcglnbalaaDoor.lRowNull
open Go.ChangeShapes Go.WideShapes Go.ChangeAt Go.RowKit Go.Joins
open Go.ChangeMaps (open_string shut_string)
set_option linter.unusedVariables false
set_option linter.unusedSimpArgs false
set_option maxHeartbeats 400000

set_option maxHeartbeats 4000000
set_option maxRecDepth 100000
abbrev c4 : List Cq := [⟨⟨#[105, 100]⟩, 2⟩, ⟨⟨#[110]⟩, 2⟩, ⟨⟨#[115]⟩, 3⟩, ⟨⟨#[98]⟩, 1⟩]
abbrev colC : Array Value := #[.string ⟨#[105, 100]⟩, .int .i64 2, .string ⟨#[110]⟩, .int .i64 2, .string ⟨#[115]⟩, .int .i64 3, .string ⟨#[98]⟩, .int .i64 1]
theorem vc4 (a b c d : V) : vc [a, b, c, d] = [.int .i64 a.k, .int .i64 a.n, .string a.t, .int .i64 b.k, .int .i64 b.n, .string b.t, .int .i64 c.k, .int .i64 c.n, .string c.t, .int .i64 d.k, .int .i64 d.n, .string d.t] := rfl
/-- A row's block. -/
abbrev rwC (a b c d : V) : Array Value := #[.int .i64 a.k, .int .i64 a.n, .string a.t, .int .i64 b.k, .int .i64 b.n, .string b.t, .int .i64 c.k, .int .i64 c.n, .string c.t, .int .i64 d.k, .int .i64 d.n, .string d.t]
theorem rd_blk {w : World} {B : Nat} {a b c d : V} {T : TypeId} {fr : Nat × Nat} (h : w.heap[B]? = some (.cells (rwC a b c d) T fr)) : Rd w 3 4 (.slice (some ⟨B, 0, none⟩) 4 4) (vc [a, b, c, d]) := by
  refine ⟨by rw [vc_length]; rfl, some ⟨B, 0, none⟩, 4, rfl, Nat.le_refl _, by unfold maxLen; omega, (fun h => by cases h), fun ad ha j u hu => ?_⟩
  obtain rfl := Option.some.inj ha
  rw [Addr.add_lit, Nat.zero_add]
  have e : (rwC a b c d)[j]? = some u := by rw [← hu, vc4]; simp
  simp [World.cell?, h, e]
theorem chk_nul : chk 0 0 ⟨#[]⟩ = 0 := by decide +kernel
theorem chk_int (n : Int) : chk 2 n ⟨#[]⟩ = 0 := by unfold chk nmb; simp; decide
theorem chk_txt (t : ByteArray) (h : t.size ≤ 6) : chk 3 0 t = 0 := by
  unfold chk nmb
  simp
  omega
theorem chk_tr {k n : Int} (h : (k = 0 ∧ n = 0) ∨ (k = 1 ∧ (n = 0 ∨ n = 1))) : chk k n ⟨#[]⟩ = 0 := by
  rcases h with ⟨rfl, rfl⟩ | ⟨rfl, rfl | rfl⟩ <;> decide +kernel
theorem rn_first {i : Nat} {v : V} {r : List V} (h0 : chk v.k v.n v.t = 0) {c : Cq} {l : List Cq} (h : (v.k ≠ c.k ∧ v.k ≠ 0) ∨ (i = 0 ∧ v.k = 0)) : rvF i (c :: l) (v :: r) = 4 := by
  unfold rvF
  rw [if_neg (by simpa using h0), if_pos h]
theorem rn_next {i : Nat} {v : V} {r : List V} (h0 : chk v.k v.n v.t = 0) {c : Cq} {l : List Cq} (h : ¬ ((v.k ≠ c.k ∧ v.k ≠ 0) ∨ (i = 0 ∧ v.k = 0))) : rvF i (c :: l) (v :: r) = rvF (i + 1) l r := by
  conv => lhs; unfold rvF
  rw [if_neg (by simpa using h0), if_neg h]
theorem row4 (r : List V) (h : r.length = 4) : rowF c4 r = rvF 0 c4 r := by
  unfold rowF
  rw [c4_ok, if_neg (by simp), if_neg (by rw [h]; simp)]
theorem row3 (r : List V) (h : r.length = 3) : rowF c4 r = 1 := by
  unfold rowF
  rw [c4_ok, if_neg (by simp), if_pos (by rw [h]; simp)]
theorem f1_0 (p q tk tn : Int) (t : ByteArray) (ht : t.size ≤ 6) (hor : (tk = 0 ∧ tn = 0) ∨ (tk = 1 ∧ (tn = 0 ∨ tn = 1))) : rowF c4 [⟨0, 0, ⟨#[]⟩⟩, ⟨2, q, ⟨#[]⟩⟩, ⟨3, 0, t⟩, ⟨tk, tn, ⟨#[]⟩⟩] = 4 := by
  rw [row4 _ rfl]
  exact rn_first chk_nul (by simp)
theorem f2_0 (p q tk tn : Int) (t : ByteArray) (ht : t.size ≤ 6) (hor : (tk = 0 ∧ tn = 0) ∨ (tk = 1 ∧ (tn = 0 ∨ tn = 1))) : rowF c4 [⟨3, 0, ⟨#[]⟩⟩, ⟨2, q, ⟨#[]⟩⟩, ⟨3, 0, t⟩, ⟨tk, tn, ⟨#[]⟩⟩] = 4 := by
  rw [row4 _ rfl]
  exact rn_first (chk_txt _ (by decide)) (by simp)
theorem case0 (W : World) (hL : Tbs W) (a b c : Int) (s : ByteArray) (at_ : Int) (ha : Rn a) (hb : Rn b) (hc : Rn c) (hs : s.size ≤ maxLen) (h1 : ∀ w, Calls Tryd.prog 11 #[.int .i64 at_, .int .i64 4] w fun e w' => e = .returned (.int .i64 0) ∧ w = w') :
    Calls Tryd.prog 6 #[.int .i64 a, .int .i64 b, .string s, .int .i64 c, .int .i64 at_] W fun e w' => e = .returned (.bool true) ∧ Below W.heap.size W w' := by
  have H1 := Lib.hid h1
  have HCO := Lib.hid colsOf_any
  have HRO := Lib.hid (fun w => rowOf_any w a b c s ha hb hc hs)
  have HRW : Hid (∀ (w : World) (B C m : Nat) (r : List V) (q : Int), Below W.heap.size W w → Rd w 2 4 (.slice (some ⟨B, 0, none⟩) 4 4) (ccs c4) → Rd w 3 m (.slice (some ⟨C, 0, none⟩) m 4) (vc r) → rowF c4 r = q → Calls Tryd.prog 13 #[.slice (some ⟨B, 0, none⟩) 4 4, .slice (some ⟨C, 0, none⟩) m 4] w fun e w' => e = .returned (.int .i64 q) ∧ Below w.heap.size w w') := fun w B C m r q hB hr hu hq => by
    have h := row_any w (hL.below hB) 4 m _ _ c4 r hr (small4 (by decide)) hu
    rw [hq] at h
    exact h
  clear h1 hL ha hb hc hs
  go_enter Tryd.func6, Tryd.ntmps6
  go_wp2_with (go_at_call 11; ((with_reducible refine (H1.out _).mono ?_); rintro e w' ⟨rfl, rfl⟩))
  refine (HRO.out _).mono ?_
  rintro e w' ⟨w1, p, q, tk, tn, t, rfl, rfl, hb1, ht, hor⟩
  have HF1 := Lib.hid (f1_0 p q tk tn t ht hor)
  have HF2 := Lib.hid (f2_0 p q tk tn t ht hor)
  have HF3 : Hid (rowF c4 [⟨3, 0, ⟨#[]⟩⟩, ⟨2, q, ⟨#[]⟩⟩, ⟨3, 0, t⟩] = 1) := row3 _ rfl
  have hz1 := hb1.size
  clear ht hor
  go_wp2_with (go_at_call 10; ((with_reducible refine (HCO.out _).mono ?_); rintro e w' ⟨rfl, rfl⟩))
  refine (HRW.out ((w1.alloc (.cells (rwC ⟨0, 0, ⟨#[]⟩⟩ ⟨2, q, ⟨#[]⟩⟩ ⟨3, 0, t⟩ ⟨tk, tn, ⟨#[]⟩⟩) 34)).alloc (.cells colC 30)) (w1.heap.size + 1) w1.heap.size 4 [⟨0, 0, ⟨#[]⟩⟩, ⟨2, q, ⟨#[]⟩⟩, ⟨3, 0, t⟩, ⟨tk, tn, ⟨#[]⟩⟩] 4 (by go_grown) (rd_c4 _ _ _ _ _ _ _ _ _ _ (by simp)) (rd_alloc (rd_blk (new0 w1 _)) _) HF1.out).mono ?_
  rintro e w2 ⟨rfl, hb2⟩
  have hblk : w2.heap[w1.heap.size]? = some (.cells (rwC ⟨0, 0, ⟨#[]⟩⟩ ⟨2, q, ⟨#[]⟩⟩ ⟨3, 0, t⟩ ⟨tk, tn, ⟨#[]⟩⟩) 34 (0, 0)) := by
    exact (hb2.block w1.heap.size (by rw [World.size_alloc, World.size_alloc]; omega)).trans ((Below.heap_alloc (w1.alloc (.cells (rwC ⟨0, 0, ⟨#[]⟩⟩ ⟨2, q, ⟨#[]⟩⟩ ⟨3, 0, t⟩ ⟨tk, tn, ⟨#[]⟩⟩) 34)) _ _ (by rw [World.size_alloc]; omega)).trans (new0 w1 _))
  have hB2 : Below W.heap.size W w2 := into (by go_grown) hb2
  have hlt : w1.heap.size < w2.heap.size := by have := hb2.size; simp at this; omega
  have k0 : w2.cell? ⟨w1.heap.size, 0, none⟩ = some (.int .i64 0) := by simp [World.cell?, hblk]
  have k1 : w2.cell? ⟨w1.heap.size, 1, none⟩ = some (.int .i64 0) := by simp [World.cell?, hblk]
  have k2 : w2.cell? ⟨w1.heap.size, 2, none⟩ = some (.string ⟨#[]⟩) := by simp [World.cell?, hblk]
  have l0 : w2.frozen? ⟨w1.heap.size, 0, none⟩ = false := by simp [World.frozen?, hblk]
  have l1 : w2.frozen? ⟨w1.heap.size, 1, none⟩ = false := by simp [World.frozen?, hblk]
  have l2 : w2.frozen? ⟨w1.heap.size, 2, none⟩ = false := by simp [World.frozen?, hblk]
  have HBLK := Lib.hid hblk
  have HB2 := Lib.hid hB2
  clear hblk hB2 hb2 hb1
  go_wp2_with fail
  obtain ⟨S, hS⟩ : ∃ S, S = ((w2.setCell ⟨w1.heap.size, 0, none⟩ (.int .i64 3)).setCell ⟨w1.heap.size, 1, none⟩ (.int .i64 0)).setCell ⟨w1.heap.size, 2, none⟩ (.string ⟨#[]⟩) := ⟨_, rfl⟩
  have hSb : S.heap[w1.heap.size]? = some (.cells (rwC ⟨3, 0, ⟨#[]⟩⟩ ⟨2, q, ⟨#[]⟩⟩ ⟨3, 0, t⟩ ⟨tk, tn, ⟨#[]⟩⟩) 34 (0, 0)) := by
    rw [hS]
    have g1 := Lib.heap_setCell_same (i := 0) HBLK.out (.int .i64 3)
    have g2 := Lib.heap_setCell_same (i := 1) g1 (.int .i64 0)
    have g3 := Lib.heap_setCell_same (i := 2) g2 (.string ⟨#[]⟩)
    exact g3
  have hSW : Below W.heap.size W S := by
    rw [hS]
    exact (((HB2.out.setCell (p := ⟨w1.heap.size, 0, none⟩) hz1 _).setCell (p := ⟨w1.heap.size, 1, none⟩) hz1 _).setCell (p := ⟨w1.heap.size, 2, none⟩) hz1 _)
  rw [← hS]
  have HSB := Lib.hid hSb
  have hzS := hSW.size
  clear hSb hS k0 k1 k2 l0 l1 l2
  refine (HCO.out _).mono ?_
  rintro e w' ⟨rfl, rfl⟩
  go_wp2_with fail
  refine (HRW.out ((S.alloc (.cells #[.int .i64 3, .int .i64 1, .int .i64 2, .int .i64 2] 3)).alloc (.cells colC 30)) (S.heap.size + 1) w1.heap.size 4 [⟨3, 0, ⟨#[]⟩⟩, ⟨2, q, ⟨#[]⟩⟩, ⟨3, 0, t⟩, ⟨tk, tn, ⟨#[]⟩⟩] 4 (by go_grown) (rd_c4 _ _ _ _ _ _ _ _ _ _ (by simp)) (rd_alloc (rd_alloc (rd_blk HSB.out) _) _) HF2.out).mono ?_
  rintro e w3 ⟨rfl, hb3⟩
  have hR3 : Rd w3 3 3 (.slice (some ⟨w1.heap.size, 0, none⟩) 3 4) (vc [⟨3, 0, ⟨#[]⟩⟩, ⟨2, q, ⟨#[]⟩⟩, ⟨3, 0, t⟩]) := ((rd_alloc (rd_alloc (rd_blk HSB.out) _) _).below hb3).take 3 (by omega)
  have hB3 : Below W.heap.size W w3 := into (by go_grown) hb3
  have hz3 := hB3.size
  clear hb3
  go_wp2_with fail
  go_region_with (first
    | (go_at_call 10; (with_reducible refine (HCO.out _).mono ?_); rintro e w' ⟨rfl, rfl⟩)
    | (go_at_call 13; (with_reducible refine (HRW.out _ _ w1.heap.size 3 [⟨3, 0, ⟨#[]⟩⟩, ⟨2, q, ⟨#[]⟩⟩, ⟨3, 0, t⟩] 1 (by go_grown) (by (repeat' (first | (with_reducible refine rd_drew ?_) | (with_reducible refine rd_c4 _ _ _ _ _ _ _ _ _ _ ?_) | (simp; done)))) (by (repeat' (first | (with_reducible assumption) | (with_reducible refine rd_drew ?_) | (with_reducible refine rd_alloc ?_ _)))) HF3.out).mono ?_); rintro e w5 ⟨rfl, hb5⟩))
  all_goals (
    have hB5 : Below W.heap.size W w5 := into (by go_grown) hb5
    have HB5 := Lib.hid hB5
    clear hb5 hB5
    go_wp2_with fail
    go_ret
    exact ⟨rfl, HB5.out⟩)
theorem f1_1 (p q tk tn : Int) (t : ByteArray) (ht : t.size ≤ 6) (hor : (tk = 0 ∧ tn = 0) ∨ (tk = 1 ∧ (tn = 0 ∨ tn = 1))) : rowF c4 [⟨2, p, ⟨#[]⟩⟩, ⟨0, 0, ⟨#[]⟩⟩, ⟨3, 0, t⟩, ⟨tk, tn, ⟨#[]⟩⟩] = 0 := by
  rw [row4 _ rfl]
  rw [rn_next (chk_int p) (by simp)]
  rw [rn_next chk_nul (by simp)]
  rw [rn_next (chk_txt t ht) (by simp)]
  rw [rn_next (chk_tr hor) (by rcases hor with ⟨h, -⟩ | ⟨h, -⟩ <;> simp [h])]
  rfl
theorem f2_1 (p q tk tn : Int) (t : ByteArray) (ht : t.size ≤ 6) (hor : (tk = 0 ∧ tn = 0) ∨ (tk = 1 ∧ (tn = 0 ∨ tn = 1))) : rowF c4 [⟨2, p, ⟨#[]⟩⟩, ⟨1, 0, ⟨#[]⟩⟩, ⟨3, 0, t⟩, ⟨tk, tn, ⟨#[]⟩⟩] = 4 := by
  rw [row4 _ rfl]
  rw [rn_next (chk_int p) (by simp)]
  exact rn_first (by decide +kernel) (by simp)
theorem case1 (W : World) (hL : Tbs W) (a b c : Int) (s : ByteArray) (at_ : Int) (ha : Rn a) (hb : Rn b) (hc : Rn c) (hs : s.size ≤ maxLen) (h1 : ∀ w, Calls Tryd.prog 11 #[.int .i64 at_, .int .i64 4] w fun e w' => e = .returned (.int .i64 1) ∧ w = w') :
    Calls Tryd.prog 6 #[.int .i64 a, .int .i64 b, .string s, .int .i64 c, .int .i64 at_] W fun e w' => e = .returned (.bool true) ∧ Below W.heap.size W w' := by
  have H1 := Lib.hid h1
  have HCO := Lib.hid colsOf_any
  have HRO := Lib.hid (fun w => rowOf_any w a b c s ha hb hc hs)
  have HRW : Hid (∀ (w : World) (B C m : Nat) (r : List V) (q : Int), Below W.heap.size W w → Rd w 2 4 (.slice (some ⟨B, 0, none⟩) 4 4) (ccs c4) → Rd w 3 m (.slice (some ⟨C, 0, none⟩) m 4) (vc r) → rowF c4 r = q → Calls Tryd.prog 13 #[.slice (some ⟨B, 0, none⟩) 4 4, .slice (some ⟨C, 0, none⟩) m 4] w fun e w' => e = .returned (.int .i64 q) ∧ Below w.heap.size w w') := fun w B C m r q hB hr hu hq => by
    have h := row_any w (hL.below hB) 4 m _ _ c4 r hr (small4 (by decide)) hu
    rw [hq] at h
    exact h
  clear h1 hL ha hb hc hs
  go_enter Tryd.func6, Tryd.ntmps6
  go_wp2_with (go_at_call 11; ((with_reducible refine (H1.out _).mono ?_); rintro e w' ⟨rfl, rfl⟩))
  refine (HRO.out _).mono ?_
  rintro e w' ⟨w1, p, q, tk, tn, t, rfl, rfl, hb1, ht, hor⟩
  have HF1 := Lib.hid (f1_1 p q tk tn t ht hor)
  have HF2 := Lib.hid (f2_1 p q tk tn t ht hor)
  have HF3 : Hid (rowF c4 [⟨2, p, ⟨#[]⟩⟩, ⟨1, 0, ⟨#[]⟩⟩, ⟨3, 0, t⟩] = 1) := row3 _ rfl
  have hz1 := hb1.size
  clear ht hor
  go_wp2_with (go_at_call 10; ((with_reducible refine (HCO.out _).mono ?_); rintro e w' ⟨rfl, rfl⟩))
  refine (HRW.out ((w1.alloc (.cells (rwC ⟨2, p, ⟨#[]⟩⟩ ⟨0, 0, ⟨#[]⟩⟩ ⟨3, 0, t⟩ ⟨tk, tn, ⟨#[]⟩⟩) 34)).alloc (.cells colC 30)) (w1.heap.size + 1) w1.heap.size 4 [⟨2, p, ⟨#[]⟩⟩, ⟨0, 0, ⟨#[]⟩⟩, ⟨3, 0, t⟩, ⟨tk, tn, ⟨#[]⟩⟩] 0 (by go_grown) (rd_c4 _ _ _ _ _ _ _ _ _ _ (by simp)) (rd_alloc (rd_blk (new0 w1 _)) _) HF1.out).mono ?_
  rintro e w2 ⟨rfl, hb2⟩
  have hblk : w2.heap[w1.heap.size]? = some (.cells (rwC ⟨2, p, ⟨#[]⟩⟩ ⟨0, 0, ⟨#[]⟩⟩ ⟨3, 0, t⟩ ⟨tk, tn, ⟨#[]⟩⟩) 34 (0, 0)) := by
    exact (hb2.block w1.heap.size (by rw [World.size_alloc, World.size_alloc]; omega)).trans ((Below.heap_alloc (w1.alloc (.cells (rwC ⟨2, p, ⟨#[]⟩⟩ ⟨0, 0, ⟨#[]⟩⟩ ⟨3, 0, t⟩ ⟨tk, tn, ⟨#[]⟩⟩) 34)) _ _ (by rw [World.size_alloc]; omega)).trans (new0 w1 _))
  have hB2 : Below W.heap.size W w2 := into (by go_grown) hb2
  have hlt : w1.heap.size < w2.heap.size := by have := hb2.size; simp at this; omega
  have k0 : w2.cell? ⟨w1.heap.size, 3, none⟩ = some (.int .i64 0) := by simp [World.cell?, hblk]
  have k1 : w2.cell? ⟨w1.heap.size, 4, none⟩ = some (.int .i64 0) := by simp [World.cell?, hblk]
  have k2 : w2.cell? ⟨w1.heap.size, 5, none⟩ = some (.string ⟨#[]⟩) := by simp [World.cell?, hblk]
  have l0 : w2.frozen? ⟨w1.heap.size, 3, none⟩ = false := by simp [World.frozen?, hblk]
  have l1 : w2.frozen? ⟨w1.heap.size, 4, none⟩ = false := by simp [World.frozen?, hblk]
  have l2 : w2.frozen? ⟨w1.heap.size, 5, none⟩ = false := by simp [World.frozen?, hblk]
  have HBLK := Lib.hid hblk
  have HB2 := Lib.hid hB2
  clear hblk hB2 hb2 hb1
  go_wp2_with fail
  obtain ⟨S, hS⟩ : ∃ S, S = ((w2.setCell ⟨w1.heap.size, 3, none⟩ (.int .i64 1)).setCell ⟨w1.heap.size, 4, none⟩ (.int .i64 0)).setCell ⟨w1.heap.size, 5, none⟩ (.string ⟨#[]⟩) := ⟨_, rfl⟩
  have hSb : S.heap[w1.heap.size]? = some (.cells (rwC ⟨2, p, ⟨#[]⟩⟩ ⟨1, 0, ⟨#[]⟩⟩ ⟨3, 0, t⟩ ⟨tk, tn, ⟨#[]⟩⟩) 34 (0, 0)) := by
    rw [hS]
    have g1 := Lib.heap_setCell_same (i := 3) HBLK.out (.int .i64 1)
    have g2 := Lib.heap_setCell_same (i := 4) g1 (.int .i64 0)
    have g3 := Lib.heap_setCell_same (i := 5) g2 (.string ⟨#[]⟩)
    exact g3
  have hSW : Below W.heap.size W S := by
    rw [hS]
    exact (((HB2.out.setCell (p := ⟨w1.heap.size, 3, none⟩) hz1 _).setCell (p := ⟨w1.heap.size, 4, none⟩) hz1 _).setCell (p := ⟨w1.heap.size, 5, none⟩) hz1 _)
  rw [← hS]
  have HSB := Lib.hid hSb
  have hzS := hSW.size
  clear hSb hS k0 k1 k2 l0 l1 l2
  refine (HCO.out _).mono ?_
  rintro e w' ⟨rfl, rfl⟩
  go_wp2_with fail
  refine (HRW.out ((S.alloc (.cells #[.int .i64 3, .int .i64 1, .int .i64 2, .int .i64 2] 3)).alloc (.cells colC 30)) (S.heap.size + 1) w1.heap.size 4 [⟨2, p, ⟨#[]⟩⟩, ⟨1, 0, ⟨#[]⟩⟩, ⟨3, 0, t⟩, ⟨tk, tn, ⟨#[]⟩⟩] 4 (by go_grown) (rd_c4 _ _ _ _ _ _ _ _ _ _ (by simp)) (rd_alloc (rd_alloc (rd_blk HSB.out) _) _) HF2.out).mono ?_
  rintro e w3 ⟨rfl, hb3⟩
  have hR3 : Rd w3 3 3 (.slice (some ⟨w1.heap.size, 0, none⟩) 3 4) (vc [⟨2, p, ⟨#[]⟩⟩, ⟨1, 0, ⟨#[]⟩⟩, ⟨3, 0, t⟩]) := ((rd_alloc (rd_alloc (rd_blk HSB.out) _) _).below hb3).take 3 (by omega)
  have hB3 : Below W.heap.size W w3 := into (by go_grown) hb3
  have hz3 := hB3.size
  clear hb3
  go_wp2_with fail
  go_region_with (first
    | (go_at_call 10; (with_reducible refine (HCO.out _).mono ?_); rintro e w' ⟨rfl, rfl⟩)
    | (go_at_call 13; (with_reducible refine (HRW.out _ _ w1.heap.size 3 [⟨2, p, ⟨#[]⟩⟩, ⟨1, 0, ⟨#[]⟩⟩, ⟨3, 0, t⟩] 1 (by go_grown) (by (repeat' (first | (with_reducible refine rd_drew ?_) | (with_reducible refine rd_c4 _ _ _ _ _ _ _ _ _ _ ?_) | (simp; done)))) (by (repeat' (first | (with_reducible assumption) | (with_reducible refine rd_drew ?_) | (with_reducible refine rd_alloc ?_ _)))) HF3.out).mono ?_); rintro e w5 ⟨rfl, hb5⟩))
  all_goals (
    have hB5 : Below W.heap.size W w5 := into (by go_grown) hb5
    have HB5 := Lib.hid hB5
    clear hb5 hB5
    go_wp2_with fail
    go_ret
    exact ⟨rfl, HB5.out⟩)
theorem f1_2 (p q tk tn : Int) (t : ByteArray) (ht : t.size ≤ 6) (hor : (tk = 0 ∧ tn = 0) ∨ (tk = 1 ∧ (tn = 0 ∨ tn = 1))) : rowF c4 [⟨2, p, ⟨#[]⟩⟩, ⟨2, q, ⟨#[]⟩⟩, ⟨0, 0, ⟨#[]⟩⟩, ⟨tk, tn, ⟨#[]⟩⟩] = 0 := by
  rw [row4 _ rfl]
  rw [rn_next (chk_int p) (by simp)]
  rw [rn_next (chk_int q) (by simp)]
  rw [rn_next chk_nul (by simp)]
  rw [rn_next (chk_tr hor) (by rcases hor with ⟨h, -⟩ | ⟨h, -⟩ <;> simp [h])]
  rfl
theorem f2_2 (p q tk tn : Int) (t : ByteArray) (ht : t.size ≤ 6) (hor : (tk = 0 ∧ tn = 0) ∨ (tk = 1 ∧ (tn = 0 ∨ tn = 1))) : rowF c4 [⟨2, p, ⟨#[]⟩⟩, ⟨2, q, ⟨#[]⟩⟩, ⟨2, 0, ⟨#[]⟩⟩, ⟨tk, tn, ⟨#[]⟩⟩] = 4 := by
  rw [row4 _ rfl]
  rw [rn_next (chk_int p) (by simp)]
  rw [rn_next (chk_int q) (by simp)]
  exact rn_first (chk_int 0) (by simp)
theorem case2 (W : World) (hL : Tbs W) (a b c : Int) (s : ByteArray) (at_ : Int) (ha : Rn a) (hb : Rn b) (hc : Rn c) (hs : s.size ≤ maxLen) (h1 : ∀ w, Calls Tryd.prog 11 #[.int .i64 at_, .int .i64 4] w fun e w' => e = .returned (.int .i64 2) ∧ w = w') :
    Calls Tryd.prog 6 #[.int .i64 a, .int .i64 b, .string s, .int .i64 c, .int .i64 at_] W fun e w' => e = .returned (.bool true) ∧ Below W.heap.size W w' := by
  have H1 := Lib.hid h1
  have HCO := Lib.hid colsOf_any
  have HRO := Lib.hid (fun w => rowOf_any w a b c s ha hb hc hs)
  have HRW : Hid (∀ (w : World) (B C m : Nat) (r : List V) (q : Int), Below W.heap.size W w → Rd w 2 4 (.slice (some ⟨B, 0, none⟩) 4 4) (ccs c4) → Rd w 3 m (.slice (some ⟨C, 0, none⟩) m 4) (vc r) → rowF c4 r = q → Calls Tryd.prog 13 #[.slice (some ⟨B, 0, none⟩) 4 4, .slice (some ⟨C, 0, none⟩) m 4] w fun e w' => e = .returned (.int .i64 q) ∧ Below w.heap.size w w') := fun w B C m r q hB hr hu hq => by
    have h := row_any w (hL.below hB) 4 m _ _ c4 r hr (small4 (by decide)) hu
    rw [hq] at h
    exact h
  clear h1 hL ha hb hc hs
  go_enter Tryd.func6, Tryd.ntmps6
  go_wp2_with (go_at_call 11; ((with_reducible refine (H1.out _).mono ?_); rintro e w' ⟨rfl, rfl⟩))
  refine (HRO.out _).mono ?_
  rintro e w' ⟨w1, p, q, tk, tn, t, rfl, rfl, hb1, ht, hor⟩
  have HF1 := Lib.hid (f1_2 p q tk tn t ht hor)
  have HF2 := Lib.hid (f2_2 p q tk tn t ht hor)
  have HF3 : Hid (rowF c4 [⟨2, p, ⟨#[]⟩⟩, ⟨2, q, ⟨#[]⟩⟩, ⟨2, 0, ⟨#[]⟩⟩] = 1) := row3 _ rfl
  have hz1 := hb1.size
  clear ht hor
  go_wp2_with (go_at_call 10; ((with_reducible refine (HCO.out _).mono ?_); rintro e w' ⟨rfl, rfl⟩))
  refine (HRW.out ((w1.alloc (.cells (rwC ⟨2, p, ⟨#[]⟩⟩ ⟨2, q, ⟨#[]⟩⟩ ⟨0, 0, ⟨#[]⟩⟩ ⟨tk, tn, ⟨#[]⟩⟩) 34)).alloc (.cells colC 30)) (w1.heap.size + 1) w1.heap.size 4 [⟨2, p, ⟨#[]⟩⟩, ⟨2, q, ⟨#[]⟩⟩, ⟨0, 0, ⟨#[]⟩⟩, ⟨tk, tn, ⟨#[]⟩⟩] 0 (by go_grown) (rd_c4 _ _ _ _ _ _ _ _ _ _ (by simp)) (rd_alloc (rd_blk (new0 w1 _)) _) HF1.out).mono ?_
  rintro e w2 ⟨rfl, hb2⟩
  have hblk : w2.heap[w1.heap.size]? = some (.cells (rwC ⟨2, p, ⟨#[]⟩⟩ ⟨2, q, ⟨#[]⟩⟩ ⟨0, 0, ⟨#[]⟩⟩ ⟨tk, tn, ⟨#[]⟩⟩) 34 (0, 0)) := by
    exact (hb2.block w1.heap.size (by rw [World.size_alloc, World.size_alloc]; omega)).trans ((Below.heap_alloc (w1.alloc (.cells (rwC ⟨2, p, ⟨#[]⟩⟩ ⟨2, q, ⟨#[]⟩⟩ ⟨0, 0, ⟨#[]⟩⟩ ⟨tk, tn, ⟨#[]⟩⟩) 34)) _ _ (by rw [World.size_alloc]; omega)).trans (new0 w1 _))
  have hB2 : Below W.heap.size W w2 := into (by go_grown) hb2
  have hlt : w1.heap.size < w2.heap.size := by have := hb2.size; simp at this; omega
  have k0 : w2.cell? ⟨w1.heap.size, 6, none⟩ = some (.int .i64 0) := by simp [World.cell?, hblk]
  have k1 : w2.cell? ⟨w1.heap.size, 7, none⟩ = some (.int .i64 0) := by simp [World.cell?, hblk]
  have k2 : w2.cell? ⟨w1.heap.size, 8, none⟩ = some (.string ⟨#[]⟩) := by simp [World.cell?, hblk]
  have l0 : w2.frozen? ⟨w1.heap.size, 6, none⟩ = false := by simp [World.frozen?, hblk]
  have l1 : w2.frozen? ⟨w1.heap.size, 7, none⟩ = false := by simp [World.frozen?, hblk]
  have l2 : w2.frozen? ⟨w1.heap.size, 8, none⟩ = false := by simp [World.frozen?, hblk]
  have HBLK := Lib.hid hblk
  have HB2 := Lib.hid hB2
  clear hblk hB2 hb2 hb1
  go_wp2_with fail
  obtain ⟨S, hS⟩ : ∃ S, S = ((w2.setCell ⟨w1.heap.size, 6, none⟩ (.int .i64 2)).setCell ⟨w1.heap.size, 7, none⟩ (.int .i64 0)).setCell ⟨w1.heap.size, 8, none⟩ (.string ⟨#[]⟩) := ⟨_, rfl⟩
  have hSb : S.heap[w1.heap.size]? = some (.cells (rwC ⟨2, p, ⟨#[]⟩⟩ ⟨2, q, ⟨#[]⟩⟩ ⟨2, 0, ⟨#[]⟩⟩ ⟨tk, tn, ⟨#[]⟩⟩) 34 (0, 0)) := by
    rw [hS]
    have g1 := Lib.heap_setCell_same (i := 6) HBLK.out (.int .i64 2)
    have g2 := Lib.heap_setCell_same (i := 7) g1 (.int .i64 0)
    have g3 := Lib.heap_setCell_same (i := 8) g2 (.string ⟨#[]⟩)
    exact g3
  have hSW : Below W.heap.size W S := by
    rw [hS]
    exact (((HB2.out.setCell (p := ⟨w1.heap.size, 6, none⟩) hz1 _).setCell (p := ⟨w1.heap.size, 7, none⟩) hz1 _).setCell (p := ⟨w1.heap.size, 8, none⟩) hz1 _)
  rw [← hS]
  have HSB := Lib.hid hSb
  have hzS := hSW.size
  clear hSb hS k0 k1 k2 l0 l1 l2
  refine (HCO.out _).mono ?_
  rintro e w' ⟨rfl, rfl⟩
  go_wp2_with fail
  refine (HRW.out ((S.alloc (.cells #[.int .i64 3, .int .i64 1, .int .i64 2, .int .i64 2] 3)).alloc (.cells colC 30)) (S.heap.size + 1) w1.heap.size 4 [⟨2, p, ⟨#[]⟩⟩, ⟨2, q, ⟨#[]⟩⟩, ⟨2, 0, ⟨#[]⟩⟩, ⟨tk, tn, ⟨#[]⟩⟩] 4 (by go_grown) (rd_c4 _ _ _ _ _ _ _ _ _ _ (by simp)) (rd_alloc (rd_alloc (rd_blk HSB.out) _) _) HF2.out).mono ?_
  rintro e w3 ⟨rfl, hb3⟩
  have hR3 : Rd w3 3 3 (.slice (some ⟨w1.heap.size, 0, none⟩) 3 4) (vc [⟨2, p, ⟨#[]⟩⟩, ⟨2, q, ⟨#[]⟩⟩, ⟨2, 0, ⟨#[]⟩⟩]) := ((rd_alloc (rd_alloc (rd_blk HSB.out) _) _).below hb3).take 3 (by omega)
  have hB3 : Below W.heap.size W w3 := into (by go_grown) hb3
  have hz3 := hB3.size
  clear hb3
  go_wp2_with fail
  go_region_with (first
    | (go_at_call 10; (with_reducible refine (HCO.out _).mono ?_); rintro e w' ⟨rfl, rfl⟩)
    | (go_at_call 13; (with_reducible refine (HRW.out _ _ w1.heap.size 3 [⟨2, p, ⟨#[]⟩⟩, ⟨2, q, ⟨#[]⟩⟩, ⟨2, 0, ⟨#[]⟩⟩] 1 (by go_grown) (by (repeat' (first | (with_reducible refine rd_drew ?_) | (with_reducible refine rd_c4 _ _ _ _ _ _ _ _ _ _ ?_) | (simp; done)))) (by (repeat' (first | (with_reducible assumption) | (with_reducible refine rd_drew ?_) | (with_reducible refine rd_alloc ?_ _)))) HF3.out).mono ?_); rintro e w5 ⟨rfl, hb5⟩))
  all_goals (
    have hB5 : Below W.heap.size W w5 := into (by go_grown) hb5
    have HB5 := Lib.hid hB5
    clear hb5 hB5
    go_wp2_with fail
    go_ret
    exact ⟨rfl, HB5.out⟩)
theorem f1_3 (p q tk tn : Int) (t : ByteArray) (ht : t.size ≤ 6) (hor : (tk = 0 ∧ tn = 0) ∨ (tk = 1 ∧ (tn = 0 ∨ tn = 1))) : rowF c4 [⟨2, p, ⟨#[]⟩⟩, ⟨2, q, ⟨#[]⟩⟩, ⟨3, 0, t⟩, ⟨0, 0, ⟨#[]⟩⟩] = 0 := by
  rw [row4 _ rfl]
  rw [rn_next (chk_int p) (by simp)]
  rw [rn_next (chk_int q) (by simp)]
  rw [rn_next (chk_txt t ht) (by simp)]
  rw [rn_next chk_nul (by simp)]
  rfl
theorem f2_3 (p q tk tn : Int) (t : ByteArray) (ht : t.size ≤ 6) (hor : (tk = 0 ∧ tn = 0) ∨ (tk = 1 ∧ (tn = 0 ∨ tn = 1))) : rowF c4 [⟨2, p, ⟨#[]⟩⟩, ⟨2, q, ⟨#[]⟩⟩, ⟨3, 0, t⟩, ⟨2, 0, ⟨#[]⟩⟩] = 4 := by
  rw [row4 _ rfl]
  rw [rn_next (chk_int p) (by simp)]
  rw [rn_next (chk_int q) (by simp)]
  rw [rn_next (chk_txt t ht) (by simp)]
  exact rn_first (chk_int 0) (by simp)
theorem case3 (W : World) (hL : Tbs W) (a b c : Int) (s : ByteArray) (at_ : Int) (ha : Rn a) (hb : Rn b) (hc : Rn c) (hs : s.size ≤ maxLen) (h1 : ∀ w, Calls Tryd.prog 11 #[.int .i64 at_, .int .i64 4] w fun e w' => e = .returned (.int .i64 3) ∧ w = w') :
    Calls Tryd.prog 6 #[.int .i64 a, .int .i64 b, .string s, .int .i64 c, .int .i64 at_] W fun e w' => e = .returned (.bool true) ∧ Below W.heap.size W w' := by
  have H1 := Lib.hid h1
  have HCO := Lib.hid colsOf_any
  have HRO := Lib.hid (fun w => rowOf_any w a b c s ha hb hc hs)
  have HRW : Hid (∀ (w : World) (B C m : Nat) (r : List V) (q : Int), Below W.heap.size W w → Rd w 2 4 (.slice (some ⟨B, 0, none⟩) 4 4) (ccs c4) → Rd w 3 m (.slice (some ⟨C, 0, none⟩) m 4) (vc r) → rowF c4 r = q → Calls Tryd.prog 13 #[.slice (some ⟨B, 0, none⟩) 4 4, .slice (some ⟨C, 0, none⟩) m 4] w fun e w' => e = .returned (.int .i64 q) ∧ Below w.heap.size w w') := fun w B C m r q hB hr hu hq => by
    have h := row_any w (hL.below hB) 4 m _ _ c4 r hr (small4 (by decide)) hu
    rw [hq] at h
    exact h
  clear h1 hL ha hb hc hs
  go_enter Tryd.func6, Tryd.ntmps6
  go_wp2_with (go_at_call 11; ((with_reducible refine (H1.out _).mono ?_); rintro e w' ⟨rfl, rfl⟩))
  refine (HRO.out _).mono ?_
  rintro e w' ⟨w1, p, q, tk, tn, t, rfl, rfl, hb1, ht, hor⟩
  have HF1 := Lib.hid (f1_3 p q tk tn t ht hor)
  have HF2 := Lib.hid (f2_3 p q tk tn t ht hor)
  have HF3 : Hid (rowF c4 [⟨2, p, ⟨#[]⟩⟩, ⟨2, q, ⟨#[]⟩⟩, ⟨3, 0, t⟩] = 1) := row3 _ rfl
  have hz1 := hb1.size
  clear ht hor
  go_wp2_with (go_at_call 10; ((with_reducible refine (HCO.out _).mono ?_); rintro e w' ⟨rfl, rfl⟩))
  refine (HRW.out ((w1.alloc (.cells (rwC ⟨2, p, ⟨#[]⟩⟩ ⟨2, q, ⟨#[]⟩⟩ ⟨3, 0, t⟩ ⟨0, 0, ⟨#[]⟩⟩) 34)).alloc (.cells colC 30)) (w1.heap.size + 1) w1.heap.size 4 [⟨2, p, ⟨#[]⟩⟩, ⟨2, q, ⟨#[]⟩⟩, ⟨3, 0, t⟩, ⟨0, 0, ⟨#[]⟩⟩] 0 (by go_grown) (rd_c4 _ _ _ _ _ _ _ _ _ _ (by simp)) (rd_alloc (rd_blk (new0 w1 _)) _) HF1.out).mono ?_
  rintro e w2 ⟨rfl, hb2⟩
  have hblk : w2.heap[w1.heap.size]? = some (.cells (rwC ⟨2, p, ⟨#[]⟩⟩ ⟨2, q, ⟨#[]⟩⟩ ⟨3, 0, t⟩ ⟨0, 0, ⟨#[]⟩⟩) 34 (0, 0)) := by
    exact (hb2.block w1.heap.size (by rw [World.size_alloc, World.size_alloc]; omega)).trans ((Below.heap_alloc (w1.alloc (.cells (rwC ⟨2, p, ⟨#[]⟩⟩ ⟨2, q, ⟨#[]⟩⟩ ⟨3, 0, t⟩ ⟨0, 0, ⟨#[]⟩⟩) 34)) _ _ (by rw [World.size_alloc]; omega)).trans (new0 w1 _))
  have hB2 : Below W.heap.size W w2 := into (by go_grown) hb2
  have hlt : w1.heap.size < w2.heap.size := by have := hb2.size; simp at this; omega
  have k0 : w2.cell? ⟨w1.heap.size, 9, none⟩ = some (.int .i64 0) := by simp [World.cell?, hblk]
  have k1 : w2.cell? ⟨w1.heap.size, 10, none⟩ = some (.int .i64 0) := by simp [World.cell?, hblk]
  have k2 : w2.cell? ⟨w1.heap.size, 11, none⟩ = some (.string ⟨#[]⟩) := by simp [World.cell?, hblk]
  have l0 : w2.frozen? ⟨w1.heap.size, 9, none⟩ = false := by simp [World.frozen?, hblk]
  have l1 : w2.frozen? ⟨w1.heap.size, 10, none⟩ = false := by simp [World.frozen?, hblk]
  have l2 : w2.frozen? ⟨w1.heap.size, 11, none⟩ = false := by simp [World.frozen?, hblk]
  have HBLK := Lib.hid hblk
  have HB2 := Lib.hid hB2
  clear hblk hB2 hb2 hb1
  go_wp2_with fail
  obtain ⟨S, hS⟩ : ∃ S, S = ((w2.setCell ⟨w1.heap.size, 9, none⟩ (.int .i64 2)).setCell ⟨w1.heap.size, 10, none⟩ (.int .i64 0)).setCell ⟨w1.heap.size, 11, none⟩ (.string ⟨#[]⟩) := ⟨_, rfl⟩
  have hSb : S.heap[w1.heap.size]? = some (.cells (rwC ⟨2, p, ⟨#[]⟩⟩ ⟨2, q, ⟨#[]⟩⟩ ⟨3, 0, t⟩ ⟨2, 0, ⟨#[]⟩⟩) 34 (0, 0)) := by
    rw [hS]
    have g1 := Lib.heap_setCell_same (i := 9) HBLK.out (.int .i64 2)
    have g2 := Lib.heap_setCell_same (i := 10) g1 (.int .i64 0)
    have g3 := Lib.heap_setCell_same (i := 11) g2 (.string ⟨#[]⟩)
    exact g3
  have hSW : Below W.heap.size W S := by
    rw [hS]
    exact (((HB2.out.setCell (p := ⟨w1.heap.size, 9, none⟩) hz1 _).setCell (p := ⟨w1.heap.size, 10, none⟩) hz1 _).setCell (p := ⟨w1.heap.size, 11, none⟩) hz1 _)
  rw [← hS]
  have HSB := Lib.hid hSb
  have hzS := hSW.size
  clear hSb hS k0 k1 k2 l0 l1 l2
  refine (HCO.out _).mono ?_
  rintro e w' ⟨rfl, rfl⟩
  go_wp2_with fail
  refine (HRW.out ((S.alloc (.cells #[.int .i64 3, .int .i64 1, .int .i64 2, .int .i64 2] 3)).alloc (.cells colC 30)) (S.heap.size + 1) w1.heap.size 4 [⟨2, p, ⟨#[]⟩⟩, ⟨2, q, ⟨#[]⟩⟩, ⟨3, 0, t⟩, ⟨2, 0, ⟨#[]⟩⟩] 4 (by go_grown) (rd_c4 _ _ _ _ _ _ _ _ _ _ (by simp)) (rd_alloc (rd_alloc (rd_blk HSB.out) _) _) HF2.out).mono ?_
  rintro e w3 ⟨rfl, hb3⟩
  have hR3 : Rd w3 3 3 (.slice (some ⟨w1.heap.size, 0, none⟩) 3 4) (vc [⟨2, p, ⟨#[]⟩⟩, ⟨2, q, ⟨#[]⟩⟩, ⟨3, 0, t⟩]) := ((rd_alloc (rd_alloc (rd_blk HSB.out) _) _).below hb3).take 3 (by omega)
  have hB3 : Below W.heap.size W w3 := into (by go_grown) hb3
  have hz3 := hB3.size
  clear hb3
  go_wp2_with fail
  go_region_with (first
    | (go_at_call 10; (with_reducible refine (HCO.out _).mono ?_); rintro e w' ⟨rfl, rfl⟩)
    | (go_at_call 13; (with_reducible refine (HRW.out _ _ w1.heap.size 3 [⟨2, p, ⟨#[]⟩⟩, ⟨2, q, ⟨#[]⟩⟩, ⟨3, 0, t⟩] 1 (by go_grown) (by (repeat' (first | (with_reducible refine rd_drew ?_) | (with_reducible refine rd_c4 _ _ _ _ _ _ _ _ _ _ ?_) | (simp; done)))) (by (repeat' (first | (with_reducible assumption) | (with_reducible refine rd_drew ?_) | (with_reducible refine rd_alloc ?_ _)))) HF3.out).mono ?_); rintro e w5 ⟨rfl, hb5⟩))
  all_goals (
    have hB5 : Below W.heap.size W w5 := into (by go_grown) hb5
    have HB5 := Lib.hid hB5
    clear hb5 hB5
    go_wp2_with fail
    go_ret
    exact ⟨rfl, HB5.out⟩)
theorem walk (W : World) (hL : Tbs W) (a : Int) (wa : (Lit.int .i64 a).wf = true) (b : Int) (wb : (Lit.int .i64 b).wf = true) (s : ByteArray) (ws : s.size ≤ maxLen) (c : Int) (wc : (Lit.int .i64 c).wf = true) (d : Int) (wd : (Lit.int .i64 d).wf = true) :
    Calls Tryd.prog 6 #[.int .i64 a, .int .i64 b, .string s, .int .i64 c, .int .i64 d] W fun e w' => e = .returned (.bool true) ∧ Below W.heap.size W w' := by
  have h1 := fun w => pck_any d 4 w (rn_of wd) (by omega) (by omega)
  obtain ⟨p1, p2⟩ := pck_in d 4 (by omega)
  have hi : pck d 4 = 0 ∨ pck d 4 = 1 ∨ pck d 4 = 2 ∨ pck d 4 = 3 := by omega
  rcases hi with hi | hi | hi | hi
  all_goals rw [hi] at h1
  · exact case0 W hL a b c s d (rn_of wa) (rn_of wb) (rn_of wc) ws h1
  · exact case1 W hL a b c s d (rn_of wa) (rn_of wb) (rn_of wc) ws h1
  · exact case2 W hL a b c s d (rn_of wa) (rn_of wb) (rn_of wc) ws h1
  · exact case3 W hL a b c s d (rn_of wa) (rn_of wb) (rn_of wc) ws h1

set_option maxRecDepth 100000 in
theorem lifted (os : Os) (started : os.Started) (H : Type) (enc : TypeId × Value → H) :
    ReturnsInHanded {} Tryd.checked os 6 .any (fun w args => (Rows.rowNullSpec.pre enc Tryd.prog Tryd.f6 [] false w args ∧ laidX w) ∧ sizedMet enc Tryd.prog Tryd.f6 (OpenSpec.ofChange Rows.rowNullSpec) false w args) (Rows.rowNullSpec.post enc Tryd.prog Tryd.f6 false true false false) := by
  refine returnsInHanded_of_change_and (C := Tryd.checked) (X := fun w _ => laidX w) (fun _ _ _ hh h => h.of_heap hh) Tryd.own started (by kernel_rfl) Tryd.func6
    (ChangeSpec.witness_at (enc := enc) (C := Tryd.checked) (os := os) (X := fun w _ => laidX w) false (tabledX os) #[.int .i64 0, .int .i64 0, .string ⟨#[]⟩, .int .i64 0, .int .i64 0] 8 rfl (by kernel_rfl) (by kernel_rfl) (by kernel_rfl) (by kernel_rfl) (by kernel_rfl) (tabledX_laidX os _)) ?_
  intro W base args ds gs before hval0 hW hcnd hsz0 hL _
  have hsz : (DataW.weightsEach Tryd.prog (Tryd.f6.params.toList ++ Rows.rowNullSpec.plain.varTypes Tryd.prog) (ds ++ gs)).all (· ≤ reachBytes) = true := hsz0
  have hval : ∀ (j : Nat) t v, Tryd.f6.params[j]? = some t → args[j]? = some v → Value.okWide Tryd.prog W .any base t v := hval0
  have hW' := hW
  obtain ⟨p, q, hA0, hV, rfl, hfz, hnd⟩ := hW
  have hA : DataW.TrodAll enc Tryd.prog W 0 (fun _ => true) true Tryd.f6.params.toList args.toList ds p := hA0
  rw [Tryd.params6] at hA hval hsz
  obtain ⟨v0, v1, v2, v3, v4, d0, d1, d2, d3, d4, p0, p1, p2, p3, p4, rfl, rfl, rfl, h0, h1, h2, h3, h4⟩ := trodAll_five hA
  obtain ⟨rfl, rfl⟩ := trodVars_none hV
  obtain ⟨a0, rfl, rfl, rfl, w0⟩ := open_int Tryd.underlying3 (hval 0 3 v0 rfl rfl) h0
  obtain ⟨a1, rfl, rfl, rfl, w1⟩ := open_int Tryd.underlying3 (hval 1 3 v1 rfl rfl) h1
  obtain ⟨t2, rfl, rfl, rfl, ws2⟩ := open_string Tryd.underlying9 (hval 2 9 v2 rfl rfl) h2
  obtain ⟨a3, rfl, rfl, rfl, w3⟩ := open_int Tryd.underlying3 (hval 3 3 v3 rfl rfl) h3
  obtain ⟨a4, rfl, rfl, rfl, w4⟩ := open_int Tryd.underlying3 (hval 4 3 v4 rfl rfl) h4
  clear hA0 hval0
  refine (walk W (X_of hL) a0 w0 a1 w1 t2 ws2 a3 w3 a4 w4).mono fun e W' ⟨he, hg⟩ => ?_
  subst he
  exact ⟨_, rfl, law_post (tb := 4) Tryd.laidOut (by kernel_rfl) (by kernel_rfl) Tryd.underlying4 rfl hW' hg rfl rfl rfl⟩

theorem bare : Rows.RowNullSaid :=
  OpenClaim.holds_of_wide 6 Tryd.f6 rfl rfl rfl rfl rfl rfl rfl ⟨rfl, rfl, rfl, rfl, rfl⟩ rfl rfl rfl rfl rfl (by kernel_rfl) Tryd.func6 (by kernel_rfl)
    (of_decide_eq_true (by kernel_rfl)) (by unfold Func.isWrapper; first | (rw [if_pos (by decide +kernel)]; kernel_rfl) | (rw [if_neg (by decide +kernel)]; exact ⟨rfl, rfl⟩))
    (fun os started H enc _ => lifted os started H enc)
/-- The card: the row's one listed variable is tied to the program's text. -/
theorem proved : Rows.RowNullCardSaid :=
  Claim7.holds_tied_plain_at .later [] [.data, .data, .data, .data, .data, .data] true _ false bare (fun _ h => by cases h) (by kernel_rfl) (fun _ h => by cases h) rowNull_row_tie rfl ⟨rfl, rfl⟩ (by kernel_rfl) rfl
    (fun f fn hf hfn => by
      obtain rfl : f = 6 := Option.some.inj ((show Tryd.prog.funcNamed "padlock/padlockkeep.RowNull" = some 6 by kernel_rfl).symm.trans hf) |>.symm
      obtain rfl : fn = Tryd.f6 := (Option.some.inj (Tryd.func6.symm.trans hfn)).symm
      refine ⟨by kernel_rfl, fun j t ht => ?_⟩
      rw [Tryd.params6] at ht
      rcases j with _ | _ | _ | _ | _ | j <;> simp at ht <;> subst ht <;> kernel_rfl)
    (by kernel_rfl)
#print axioms proved
end Go.Proofs.YtcgomhcglnbalaaDoor.lRowNull

/- A column makes what the row holds at its place, of the column's kind; where no column is of that name it is told, and a column that is no truth bounds nothing. The row lists the program's tables of marks, of words that are kept, of what each op works on, and of the words of kinds, constants and signs; the card ties them to the program's text. -/
import Derived.Test.YtfbmnkkpbcdjfaaDoorQz
import Derived.Test.YtfbmnkkpbcdjfaaDoorKf
import Derived.Test.YtfbmnkkpbcdjfaaDoorQu
import Derived.Test.YtfbmnkkpbcdjfaaDoorBh
namespace Go.Proofs.YtfbmnkkpbcdjfaaDoor.lEvalColumn
open Go.ChangeShapes Go.WideShapes Go.ChangeAt Go.RowKit Go.Joins
open Go.ChangeMaps (open_string shut_string)
set_option linter.unusedVariables false
set_option linter.unusedSimpArgs false
set_option maxHeartbeats 400000

set_option maxHeartbeats 4000000
set_option maxRecDepth 100000
abbrev c4 : List Cq := [⟨⟨#[105, 100]⟩, 2⟩, ⟨⟨#[110]⟩, 2⟩, ⟨⟨#[115]⟩, 3⟩, ⟨⟨#[98]⟩, 1⟩]
abbrev colC : Array Value := #[.string ⟨#[105, 100]⟩, .int .i64 2, .string ⟨#[110]⟩, .int .i64 2, .string ⟨#[115]⟩, .int .i64 3, .string ⟨#[98]⟩, .int .i64 1]
theorem vc4 (a b c d : V) : vc [a, b, c, d] = [.int .i64 a.k, .int .i64 a.n, .string a.t, .int .i64 b.k, .int .i64 b.n, .string b.t, .int .i64 c.k, .int .i64 c.n, .string c.t, .int .i64 d.k, .int .i64 d.n, .string d.t] := rfl
/-- A row's block. -/
abbrev rwC (a b c d : V) : Array Value := #[.int .i64 a.k, .int .i64 a.n, .string a.t, .int .i64 b.k, .int .i64 b.n, .string b.t, .int .i64 c.k, .int .i64 c.n, .string c.t, .int .i64 d.k, .int .i64 d.n, .string d.t]
theorem rd_blk {w : World} {B : Nat} {a b c d : V} {T : TypeId} {fr : Nat × Nat} (h : w.heap[B]? = some (.cells (rwC a b c d) T fr)) : Rd w 3 4 (.slice (some ⟨B, 0, none⟩) 4 4) (vc [a, b, c, d]) := by
  refine ⟨by rw [vc_length]; rfl, some ⟨B, 0, none⟩, 4, rfl, Nat.le_refl _, by unfold maxLen; omega, (fun h => by cases h), fun ad ha j u hu => ?_⟩
  obtain rfl := Option.some.inj ha
  rw [Addr.add_lit, Nat.zero_add]
  have e : (rwC a b c d)[j]? = some u := by rw [← hu, vc4]; simp
  simp [World.cell?, h, e]
theorem chk_nul : chk 0 0 ⟨#[]⟩ = 0 := by decide +kernel
theorem chk_int (n : Int) : chk 2 n ⟨#[]⟩ = 0 := by unfold chk nmb; simp; decide
theorem chk_txt (t : ByteArray) (h : t.size ≤ 6) : chk 3 0 t = 0 := by
  unfold chk nmb
  simp
  omega
theorem chk_tr {k n : Int} (h : (k = 0 ∧ n = 0) ∨ (k = 1 ∧ (n = 0 ∨ n = 1))) : chk k n ⟨#[]⟩ = 0 := by
  rcases h with ⟨rfl, rfl⟩ | ⟨rfl, rfl | rfl⟩ <;> decide +kernel
theorem rn_next {i : Nat} {v : V} {r : List V} (h0 : chk v.k v.n v.t = 0) {c : Cq} {l : List Cq} (h : ¬ ((v.k ≠ c.k ∧ v.k ≠ 0) ∨ (i = 0 ∧ v.k = 0))) : rvF i (c :: l) (v :: r) = rvF (i + 1) l r := by
  conv => lhs; unfold rvF
  rw [if_neg (by simpa using h0), if_neg h]
theorem row4 (r : List V) (h : r.length = 4) : rowF c4 r = rvF 0 c4 r := by
  unfold rowF
  rw [c4_ok, if_neg (by simp), if_neg (by rw [h]; simp)]
theorem f_row (p q tk tn : Int) (t : ByteArray) (ht : t.size ≤ 6) (hor : (tk = 0 ∧ tn = 0) ∨ (tk = 1 ∧ (tn = 0 ∨ tn = 1))) : rowF c4 [⟨2, p, ⟨#[]⟩⟩, ⟨2, q, ⟨#[]⟩⟩, ⟨3, 0, t⟩, ⟨tk, tn, ⟨#[]⟩⟩] = 0 := by
  rw [row4 _ rfl]
  rw [rn_next (chk_int p) (by simp)]
  rw [rn_next (chk_int q) (by simp)]
  rw [rn_next (chk_txt t ht) (by simp)]
  rw [rn_next (chk_tr hor) (by rcases hor with ⟨h, -⟩ | ⟨h, -⟩ <;> simp [h])]
  rfl
theorem kd_none : kindF c4 [⟨2, nul, ⟨#[110, 111, 110, 101]⟩⟩] = (8, 0) := by decide +kernel
theorem ev_none (p q tk tn : Int) (t : ByteArray) (ht : t.size ≤ 6) (hor : (tk = 0 ∧ tn = 0) ∨ (tk = 1 ∧ (tn = 0 ∨ tn = 1))) : evalF c4 [⟨2, p, ⟨#[]⟩⟩, ⟨2, q, ⟨#[]⟩⟩, ⟨3, 0, t⟩, ⟨tk, tn, ⟨#[]⟩⟩] [⟨2, nul, ⟨#[110, 111, 110, 101]⟩⟩] = (8, nul) := by
  unfold evalF
  rw [f_row p q tk tn t ht hor, kd_none]
  rfl
theorem rn1 (r : List V) (o : Oq) (hk : o.k = 2) (j : Nat) (hp : plI c4 o.t = (j : Int)) : rnF (lfV c4 r) onV twV [] [o] = (0, [r.getD j nul]) := by
  have h : lfV c4 r o = (0, r.getD j nul) := by
    unfold lfV
    rw [if_neg (by omega), hp]
    rfl
  rw [rn_leaf (lfV c4 r) onV twV (by unfold wks; simp [hk]), h]
  rfl
theorem rd_op1 (w : World) (x : Oq) (B : Nat) (hB : w.heap.size = B) : Rd (w.alloc (.cells #[.int .i64 x.k, .int .i64 x.v.k, .int .i64 x.v.n, .string x.v.t, .string x.t] 43)) 5 1 (.slice (some ⟨B, 0, none⟩) 1 1) (ocs [x]) := by
  subst hB
  exact Rd.own (World.ownsRow_lit (base := w.heap.size) w #[.int .i64 x.k, .int .i64 x.v.k, .int .i64 x.v.n, .string x.v.t, .string x.t] 1 (Nat.le_refl _) (by unfold maxLen; omega) rfl)
theorem small1 (x : Oq) (h : x.t.size ≤ 8) : ∀ o ∈ [x], o.t.size ≤ maxLen := fun o ho => by
  obtain rfl := List.mem_singleton.1 ho
  unfold maxLen
  omega
/-- Of an expression that is no truth no bounds are told. -/
theorem bounds_no (w : World) (hT : Tbs w) (n m : Nat) (v u : Value) (l : List Cq) (ops : List Oq) (hr : Rd w 2 n v (ccs l)) (hs : ∀ c ∈ l, c.t.size ≤ maxLen) (hu : Rd w 5 m u (ocs ops)) (hm : 0 < m) (hos : ∀ o ∈ ops, o.t.size ≤ maxLen) (hk : kindF l ops = (0, 2)) :
    Calls Tryd.prog 18 #[v, u] w fun e w' => e = .returned (.tuple #[.slice none 0 0, .slice none 0 0, .int .i64 4]) ∧ Below w.heap.size w w' := by
  obtain ⟨ao, cap, rfl⟩ : ∃ ao cap, v = .slice ao n cap := by
    obtain ⟨_, ao, cap, h, _⟩ := id hr
    exact ⟨ao, cap, h⟩
  obtain ⟨uo, ucap, rfl⟩ : ∃ ao cap, u = .slice ao m cap := by
    obtain ⟨_, ao, cap, h, _⟩ := id hu
    exact ⟨ao, cap, h⟩
  have hb : Below w.heap.size w (w.alloc (.cells #[.slice ao n cap] 22)) := (Below.refl _ _).alloc (Nat.le_refl _) _
  have h := kind_any _ (hT.below hb) n m _ _ l ops (hr.below hb) hs (hu.below hb) hos
  rw [hk] at h
  have HK := Lib.hid h
  have HB := Lib.hid hb
  have hm0 : ((m : Int) == 0) = false := by simp; omega
  clear h hb hk hr hs hu hos hT
  go_enter Tryd.func18, Tryd.ntmps18
  go_wp2_with fail
  refine HK.out.mono ?_
  rintro e w1 ⟨rfl, hb1⟩
  have HB1 := Lib.hid (into HB.out hb1)
  clear hb1
  go_wp2_with fail
  refine (known_any _ 2 1 false (by decide)).mono ?_
  rintro e w2 ⟨rfl, rfl⟩
  go_wp2_with fail
  go_returns
  exact ⟨rfl, HB1.out⟩
theorem kd_0 : kindF c4 [⟨2, nul, ⟨#[105, 100]⟩⟩] = (0, 2) := by decide +kernel
theorem ev_0 (p q tk tn : Int) (t : ByteArray) (ht : t.size ≤ 6) (hor : (tk = 0 ∧ tn = 0) ∨ (tk = 1 ∧ (tn = 0 ∨ tn = 1))) : evalF c4 [⟨2, p, ⟨#[]⟩⟩, ⟨2, q, ⟨#[]⟩⟩, ⟨3, 0, t⟩, ⟨tk, tn, ⟨#[]⟩⟩] [⟨2, nul, ⟨#[105, 100]⟩⟩] = (0, ⟨2, p, ⟨#[]⟩⟩) := by
  unfold evalF
  rw [f_row p q tk tn t ht hor, kd_0, rn1 _ ⟨2, nul, ⟨#[105, 100]⟩⟩ rfl 0 (by decide +kernel)]
  rfl
theorem kd_1 : kindF c4 [⟨2, nul, ⟨#[110]⟩⟩] = (0, 2) := by decide +kernel
theorem ev_1 (p q tk tn : Int) (t : ByteArray) (ht : t.size ≤ 6) (hor : (tk = 0 ∧ tn = 0) ∨ (tk = 1 ∧ (tn = 0 ∨ tn = 1))) : evalF c4 [⟨2, p, ⟨#[]⟩⟩, ⟨2, q, ⟨#[]⟩⟩, ⟨3, 0, t⟩, ⟨tk, tn, ⟨#[]⟩⟩] [⟨2, nul, ⟨#[110]⟩⟩] = (0, ⟨2, q, ⟨#[]⟩⟩) := by
  unfold evalF
  rw [f_row p q tk tn t ht hor, kd_1, rn1 _ ⟨2, nul, ⟨#[110]⟩⟩ rfl 1 (by decide +kernel)]
  rfl
theorem kd_2 : kindF c4 [⟨2, nul, ⟨#[115]⟩⟩] = (0, 3) := by decide +kernel
theorem ev_2 (p q tk tn : Int) (t : ByteArray) (ht : t.size ≤ 6) (hor : (tk = 0 ∧ tn = 0) ∨ (tk = 1 ∧ (tn = 0 ∨ tn = 1))) : evalF c4 [⟨2, p, ⟨#[]⟩⟩, ⟨2, q, ⟨#[]⟩⟩, ⟨3, 0, t⟩, ⟨tk, tn, ⟨#[]⟩⟩] [⟨2, nul, ⟨#[115]⟩⟩] = (0, ⟨3, 0, t⟩) := by
  unfold evalF
  rw [f_row p q tk tn t ht hor, kd_2, rn1 _ ⟨2, nul, ⟨#[115]⟩⟩ rfl 2 (by decide +kernel)]
  rfl
theorem kd_3 : kindF c4 [⟨2, nul, ⟨#[98]⟩⟩] = (0, 1) := by decide +kernel
theorem ev_3 (p q tk tn : Int) (t : ByteArray) (ht : t.size ≤ 6) (hor : (tk = 0 ∧ tn = 0) ∨ (tk = 1 ∧ (tn = 0 ∨ tn = 1))) : evalF c4 [⟨2, p, ⟨#[]⟩⟩, ⟨2, q, ⟨#[]⟩⟩, ⟨3, 0, t⟩, ⟨tk, tn, ⟨#[]⟩⟩] [⟨2, nul, ⟨#[98]⟩⟩] = (0, ⟨tk, tn, ⟨#[]⟩⟩) := by
  unfold evalF
  rw [f_row p q tk tn t ht hor, kd_3, rn1 _ ⟨2, nul, ⟨#[98]⟩⟩ rfl 3 (by decide +kernel)]
  rfl
theorem case0 (W : World) (hL : Tbs W) (a b c : Int) (s : ByteArray) (at_ : Int) (ha : Rn a) (hb : Rn b) (hc : Rn c) (hs : s.size ≤ maxLen) (h1 : ∀ w, Calls Tryd.prog 17 #[.int .i64 at_, .int .i64 4] w fun e w' => e = .returned (.int .i64 0) ∧ w = w') :
    Calls Tryd.prog 6 #[.int .i64 a, .int .i64 b, .string s, .int .i64 c, .int .i64 at_] W fun e w' => e = .returned (.bool true) ∧ Below W.heap.size W w' := by
  have H1 := Lib.hid h1
  have HCO := Lib.hid colsOf_any
  have HRO := Lib.hid (fun w => rowOf_any w a b c s ha hb hc hs)
  have HEV : Hid (∀ (w : World) (B C D : Nat) (r : List V) (x : Oq) (q : Int) (g : V), Below W.heap.size W w → Rd w 2 4 (.slice (some ⟨B, 0, none⟩) 4 4) (ccs c4) → Rd w 3 4 (.slice (some ⟨C, 0, none⟩) 4 4) (vc r) → Rd w 5 1 (.slice (some ⟨D, 0, none⟩) 1 1) (ocs [x]) → x.t.size ≤ 8 → evalF c4 r [x] = (q, g) → Calls Tryd.prog 13 #[.slice (some ⟨B, 0, none⟩) 4 4, .slice (some ⟨C, 0, none⟩) 4 4, .slice (some ⟨D, 0, none⟩) 1 1] w fun e w' => e = .returned (.tuple #[.agg #[.int .i64 g.k, .int .i64 g.n, .string g.t], .int .i64 q]) ∧ Below w.heap.size w w') := fun w B C D r x q g hB hr hu hx hxs hq => by
    have h := eval_any w (hL.below hB) 4 4 1 _ _ _ c4 r [x] hr (small4 (by decide)) hu hx (small1 x hxs)
    rw [hq] at h
    exact h
  have HKD : Hid (∀ (w : World) (B D : Nat) (x : Oq) (q k : Int), Below W.heap.size W w → Rd w 2 4 (.slice (some ⟨B, 0, none⟩) 4 4) (ccs c4) → Rd w 5 1 (.slice (some ⟨D, 0, none⟩) 1 1) (ocs [x]) → x.t.size ≤ 8 → kindF c4 [x] = (q, k) → Calls Tryd.prog 7 #[.slice (some ⟨B, 0, none⟩) 4 4, .slice (some ⟨D, 0, none⟩) 1 1] w fun e w' => e = .returned (.tuple #[.int .i64 k, .int .i64 q]) ∧ Below w.heap.size w w') := fun w B D x q k hB hr hx hxs hq => by
    have h := kind_any w (hL.below hB) 4 1 _ _ c4 [x] hr (small4 (by decide)) hx (small1 x hxs)
    rw [hq] at h
    exact h
  have HBD : Hid (∀ (w : World) (B D : Nat) (x : Oq), Below W.heap.size W w → Rd w 2 4 (.slice (some ⟨B, 0, none⟩) 4 4) (ccs c4) → Rd w 5 1 (.slice (some ⟨D, 0, none⟩) 1 1) (ocs [x]) → x.t.size ≤ 8 → kindF c4 [x] = (0, 2) → Calls Tryd.prog 18 #[.slice (some ⟨B, 0, none⟩) 4 4, .slice (some ⟨D, 0, none⟩) 1 1] w fun e w' => e = .returned (.tuple #[.slice none 0 0, .slice none 0 0, .int .i64 4]) ∧ Below w.heap.size w w') := fun w B D x hB hr hx hxs hq =>
    bounds_no w (hL.below hB) 4 1 _ _ c4 [x] hr (small4 (by decide)) hx (by omega) (small1 x hxs) hq
  clear h1 hL ha hb hc hs
  go_enter Tryd.func6, Tryd.ntmps6
  go_wp2_with (go_at_call 17; ((with_reducible refine (H1.out _).mono ?_); rintro e w' ⟨rfl, rfl⟩))
  refine (HRO.out _).mono ?_
  rintro e w' ⟨w1, p, q, tk, tn, t, rfl, rfl, hb1, ht, hor⟩
  have HE1 := Lib.hid (ev_0 p q tk tn t ht hor)
  have HE2 := Lib.hid (ev_none p q tk tn t ht hor)
  have hz1 := hb1.size
  clear ht hor
  go_wp2_with (go_at_call 12; ((with_reducible refine (HCO.out _).mono ?_); rintro e w' ⟨rfl, rfl⟩))
  refine (HEV.out _ (w1.heap.size + 1) w1.heap.size (w1.heap.size + 3) [⟨2, p, ⟨#[]⟩⟩, ⟨2, q, ⟨#[]⟩⟩, ⟨3, 0, t⟩, ⟨tk, tn, ⟨#[]⟩⟩] ⟨2, nul, ⟨#[105, 100]⟩⟩ _ _ (by go_grown) (rd_alloc (rd_alloc (rd_c4 _ _ _ _ _ _ _ _ _ _ (by simp)) _) _) (rd_alloc (rd_alloc (rd_alloc (rd_blk (new0 w1 _)) _) _) _) (rd_op1 _ ⟨2, nul, ⟨#[105, 100]⟩⟩ _ (by simp)) (by decide) HE1.out).mono ?_
  rintro e w2 ⟨rfl, hb2⟩
  have B2 : Below (w1.alloc (.cells (rwC ⟨2, p, ⟨#[]⟩⟩ ⟨2, q, ⟨#[]⟩⟩ ⟨3, 0, t⟩ ⟨tk, tn, ⟨#[]⟩⟩) 36)).heap.size (w1.alloc (.cells (rwC ⟨2, p, ⟨#[]⟩⟩ ⟨2, q, ⟨#[]⟩⟩ ⟨3, 0, t⟩ ⟨tk, tn, ⟨#[]⟩⟩) 36)) w2 := into (by go_grown) hb2
  have r2 : w2.heap[w1.heap.size]? = some (.cells (rwC ⟨2, p, ⟨#[]⟩⟩ ⟨2, q, ⟨#[]⟩⟩ ⟨3, 0, t⟩ ⟨tk, tn, ⟨#[]⟩⟩) 36 (0, 0)) := (B2.block w1.heap.size (by simp)).trans (new0 w1 _)
  have W2 : Below W.heap.size W w2 := into (by go_grown) B2
  have hz2 := B2.size
  rw [World.size_alloc] at hz2
  have HR2 := Lib.hid r2
  have HW2 := Lib.hid W2
  clear hb2 B2 r2 W2 hb1
  go_wp2_with (go_at_call 12; ((with_reducible refine (HCO.out _).mono ?_); rintro e w' ⟨rfl, rfl⟩))
  have g2 := HW2.out
  refine (HKD.out _ (w2.heap.size + 1) (w2.heap.size + 3) ⟨2, nul, ⟨#[105, 100]⟩⟩ _ _ (by go_grown) (rd_alloc (rd_alloc (rd_c4 _ _ _ _ _ _ _ _ _ _ (by simp)) _) _) (rd_op1 _ ⟨2, nul, ⟨#[105, 100]⟩⟩ _ (by simp)) (by decide) kd_0).mono ?_
  rintro e w3 ⟨rfl, hb3⟩
  have B3 : Below (w2.alloc (.cells #[.int .i64 2, .int .i64 p, .string ⟨#[]⟩] 36)).heap.size (w2.alloc (.cells #[.int .i64 2, .int .i64 p, .string ⟨#[]⟩] 36)) w3 := into (by go_grown) hb3
  have hz3 := B3.size
  rw [World.size_alloc] at hz3
  have HR3 := Lib.hid ((B3.block w1.heap.size (by rw [World.size_alloc]; omega)).trans ((Below.heap_alloc w2 _ _ (by omega)).trans HR2.out))
  have HV3 := Lib.hid ((B3.block w2.heap.size (by simp)).trans (new0 w2 (.cells #[.int .i64 2, .int .i64 p, .string ⟨#[]⟩] 36)))
  have HW3 : Hid (Below W.heap.size W w3) := Lib.hid (into (HW2.out.alloc HW2.out.size _) B3)
  clear hb3 B3
  go_wp2_with (go_at_call 12; ((with_reducible refine (HCO.out _).mono ?_); rintro e w' ⟨rfl, rfl⟩))
  have g3 := HW3.out
  refine (HEV.out _ w3.heap.size w1.heap.size (w3.heap.size + 1) [⟨2, p, ⟨#[]⟩⟩, ⟨2, q, ⟨#[]⟩⟩, ⟨3, 0, t⟩, ⟨tk, tn, ⟨#[]⟩⟩] ⟨2, nul, ⟨#[110, 111, 110, 101]⟩⟩ _ _ (by go_grown) (rd_alloc (rd_c4 _ _ _ _ _ _ _ _ _ _ (by simp)) _) (rd_alloc (rd_alloc (rd_blk HR3.out) _) _) (rd_op1 _ ⟨2, nul, ⟨#[110, 111, 110, 101]⟩⟩ _ (by simp)) (by decide) HE2.out).mono ?_
  rintro e w4 ⟨rfl, hb4⟩
  have B4 : Below w3.heap.size w3 w4 := into (by go_grown) hb4
  have hz4 := B4.size
  have HR4 := Lib.hid ((B4.block w1.heap.size (by omega)).trans HR3.out)
  have HV4 := Lib.hid ((B4.block w2.heap.size (by omega)).trans HV3.out)
  have HW4 := Lib.hid (into HW3.out B4)
  clear hb4 B4
  go_wp2_with (go_at_call 12; ((with_reducible refine (HCO.out _).mono ?_); rintro e w' ⟨rfl, rfl⟩))
  have g4 := HW4.out
  refine (HBD.out _ (w4.heap.size + 1) (w4.heap.size + 2) ⟨2, nul, ⟨#[105, 100]⟩⟩ (by go_grown) (rd_alloc (rd_c4 _ _ _ _ _ _ _ _ _ _ (by simp)) _) (rd_op1 _ ⟨2, nul, ⟨#[105, 100]⟩⟩ _ (by simp)) (by decide) kd_0).mono ?_
  rintro e w5 ⟨rfl, hb5⟩
  have B5 : Below w4.heap.size w4 w5 := into (by go_grown) hb5
  have hz5 := B5.size
  have HR5 := Lib.hid ((B5.block w1.heap.size (by omega)).trans HR4.out)
  have HV5 := Lib.hid ((B5.block w2.heap.size (by omega)).trans HV4.out)
  have HW5 := Lib.hid (into HW4.out B5)
  clear hb5 B5
  obtain ⟨v0, v1, v2, -, -, -⟩ := box3 HV5.out
  have k0 : w5.cell? ⟨w1.heap.size, 0, none⟩ = some (.int .i64 2) := by simp [World.cell?, HR5.out]
  have k1 : w5.cell? ⟨w1.heap.size, 1, none⟩ = some (.int .i64 p) := by simp [World.cell?, HR5.out]
  have k2 : w5.cell? ⟨w1.heap.size, 2, none⟩ = some (.string ⟨#[]⟩) := by simp [World.cell?, HR5.out]
  have heldQ : ∀ wx, Below w5.heap.size w5 wx → (fun wx => Below w5.heap.size w5 wx ∧ wx.cell? ⟨w2.heap.size, 0, none⟩ = some (.int .i64 2) ∧ wx.cell? ⟨w2.heap.size, 1, none⟩ = some (.int .i64 p) ∧ wx.cell? ⟨w2.heap.size, 2, none⟩ = some (.string ⟨#[]⟩) ∧ wx.cell? ⟨w1.heap.size, 0, none⟩ = some (.int .i64 2) ∧ wx.cell? ⟨w1.heap.size, 1, none⟩ = some (.int .i64 p) ∧ wx.cell? ⟨w1.heap.size, 2, none⟩ = some (.string ⟨#[]⟩)) wx := fun wx h => ⟨h, cell_blz h v0, cell_blz h v1, cell_blz h v2, cell_blz h k0, cell_blz h k1, cell_blz h k2⟩
  have g5 := HW5.out
  go_wp2_with fail
  refine wp_region_held_drew (S := (fun wx => Below w5.heap.size w5 wx ∧ wx.cell? ⟨w2.heap.size, 0, none⟩ = some (.int .i64 2) ∧ wx.cell? ⟨w2.heap.size, 1, none⟩ = some (.int .i64 p) ∧ wx.cell? ⟨w2.heap.size, 2, none⟩ = some (.string ⟨#[]⟩) ∧ wx.cell? ⟨w1.heap.size, 0, none⟩ = some (.int .i64 2) ∧ wx.cell? ⟨w1.heap.size, 1, none⟩ = some (.int .i64 p) ∧ wx.cell? ⟨w1.heap.size, 2, none⟩ = some (.string ⟨#[]⟩))) (by kernel_rfl) ?_ (fun hHeld => ?_)
  · (try dsimp only)
    exact heldQ _ (by first | exact (Below.refl _ _).drew | exact ((Below.refl _ _).drew).alloc (by simp) _)
  refine wpAnyH_take (i := 0) (oi := _) (v := ?_) rfl (by kernel_rfl) (by kernel_rfl) (by kernel_rfl) (fun _ _ _ h => h) (Or.inl ⟨by rfl, ?_⟩) (by assumption) ?_
  rotate_left
  · (intro w hSw; (try dsimp only at hSw); go_simp)
    all_goals (with_reducible rfl)
  (try simp only [List.getElem_toArray, List.getElem_cons_zero, List.getElem_cons_succ, Act.put, List.setIfInBounds_toArray, List.set_cons_zero, List.set_cons_succ])
  refine wpAnyH_take (i := 1) (oi := _) (v := ?_) rfl (by kernel_rfl) (by kernel_rfl) (by kernel_rfl) (fun _ _ _ h => h) (Or.inl ⟨by rfl, ?_⟩) (by assumption) ?_
  rotate_left
  · (intro w hSw; (try dsimp only at hSw); go_simp)
    all_goals (with_reducible rfl)
  (try simp only [List.getElem_toArray, List.getElem_cons_zero, List.getElem_cons_succ, Act.put, List.setIfInBounds_toArray, List.set_cons_zero, List.set_cons_succ])
  refine wpAnyH_take (i := 2) (oi := _) (v := ?_) rfl (by kernel_rfl) (by kernel_rfl) (by kernel_rfl) (fun _ _ _ h => h) (Or.inl ⟨by rfl, ?_⟩) (by assumption) ?_
  rotate_left
  · (intro w hSw; (try dsimp only at hSw); go_simp)
    all_goals (with_reducible rfl)
  (try simp only [List.getElem_toArray, List.getElem_cons_zero, List.getElem_cons_succ, Act.put, List.setIfInBounds_toArray, List.set_cons_zero, List.set_cons_succ])
  refine wpAnyH_take (i := 3) (oi := _) (v := ?_) rfl (by kernel_rfl) (by kernel_rfl) (by kernel_rfl) (fun _ _ _ h => h) (Or.inl ⟨by rfl, ?_⟩) (by assumption) ?_
  rotate_left
  · (intro w hSw; (try dsimp only at hSw); go_simp)
    all_goals (with_reducible rfl)
  (try simp only [List.getElem_toArray, List.getElem_cons_zero, List.getElem_cons_succ, Act.put, List.setIfInBounds_toArray, List.set_cons_zero, List.set_cons_succ])
  refine wpAnyH_take (i := 4) (oi := _) (v := ?_) rfl (by kernel_rfl) (by kernel_rfl) (by kernel_rfl) (fun _ _ _ h => h) (Or.inl ⟨by rfl, ?_⟩) (by assumption) ?_
  rotate_left
  · (intro w hSw; (try dsimp only at hSw); go_simp)
    all_goals (with_reducible rfl)
  (try simp only [List.getElem_toArray, List.getElem_cons_zero, List.getElem_cons_succ, Act.put, List.setIfInBounds_toArray, List.set_cons_zero, List.set_cons_succ])
  refine wpAnyH_take (i := 5) (oi := _) (v := ?_) rfl (by kernel_rfl) (by kernel_rfl) (by kernel_rfl) (fun _ _ _ h => h) (Or.inl ⟨by rfl, ?_⟩) (by assumption) ?_
  rotate_left
  · (intro w hSw; (try dsimp only at hSw); go_simp)
    all_goals (with_reducible rfl)
  (try simp only [List.getElem_toArray, List.getElem_cons_zero, List.getElem_cons_succ, Act.put, List.setIfInBounds_toArray, List.set_cons_zero, List.set_cons_succ])
  refine wpAnyH_take (i := 6) (oi := _) (v := ?_) rfl (by kernel_rfl) (by kernel_rfl) (by kernel_rfl) (fun _ _ _ h => h) (Or.inl ⟨by rfl, ?_⟩) (by assumption) ?_
  rotate_left
  · (intro w hSw; (try dsimp only at hSw); go_simp)
    all_goals (with_reducible rfl)
  (try simp only [List.getElem_toArray, List.getElem_cons_zero, List.getElem_cons_succ, Act.put, List.setIfInBounds_toArray, List.set_cons_zero, List.set_cons_succ])
  refine wpAnyH_take (i := 7) (oi := _) (v := ?_) rfl (by kernel_rfl) (by kernel_rfl) (by kernel_rfl) (fun _ _ _ h => h) (Or.inl ⟨by rfl, ?_⟩) (by assumption) ?_
  rotate_left
  · (intro w hSw; (try dsimp only at hSw); go_simp)
    all_goals (with_reducible rfl)
  (try simp only [List.getElem_toArray, List.getElem_cons_zero, List.getElem_cons_succ, Act.put, List.setIfInBounds_toArray, List.set_cons_zero, List.set_cons_succ])
  refine wpAnyH_take (i := 8) (oi := _) (v := ?_) rfl (by kernel_rfl) (by kernel_rfl) (by kernel_rfl) (fun _ _ _ h => h) (Or.inl ⟨by rfl, ?_⟩) (by assumption) ?_
  rotate_left
  · (intro w hSw; (try dsimp only at hSw); go_simp)
    all_goals (with_reducible rfl)
  (try simp only [List.getElem_toArray, List.getElem_cons_zero, List.getElem_cons_succ, Act.put, List.setIfInBounds_toArray, List.set_cons_zero, List.set_cons_succ])
  refine wpAnyH_take (i := 9) (oi := _) (v := ?_) rfl (by kernel_rfl) (by kernel_rfl) (by kernel_rfl) (fun _ _ _ h => h) (Or.inl ⟨by rfl, ?_⟩) (by assumption) ?_
  rotate_left
  · (intro w hSw; (try dsimp only at hSw); go_simp)
    all_goals (with_reducible rfl)
  (try simp only [List.getElem_toArray, List.getElem_cons_zero, List.getElem_cons_succ, Act.put, List.setIfInBounds_toArray, List.set_cons_zero, List.set_cons_succ])
  refine wpAnyH_take (i := 10) (oi := _) (v := ?_) rfl (by kernel_rfl) (by kernel_rfl) (by kernel_rfl) (fun _ _ _ h => h) (Or.inl ⟨by rfl, ?_⟩) (by assumption) ?_
  rotate_left
  · (intro w hSw; (try dsimp only at hSw); go_simp)
    all_goals (with_reducible rfl)
  (try simp only [List.getElem_toArray, List.getElem_cons_zero, List.getElem_cons_succ, Act.put, List.setIfInBounds_toArray, List.set_cons_zero, List.set_cons_succ])
  refine wpAnyH_take (i := 11) (oi := _) (v := ?_) rfl (by kernel_rfl) (by kernel_rfl) (by kernel_rfl) (fun _ _ _ h => h) (Or.inl ⟨by rfl, ?_⟩) (by assumption) ?_
  rotate_left
  · (intro w hSw; (try dsimp only at hSw); go_simp)
    all_goals (with_reducible rfl)
  (try simp only [List.getElem_toArray, List.getElem_cons_zero, List.getElem_cons_succ, Act.put, List.setIfInBounds_toArray, List.set_cons_zero, List.set_cons_succ])
  refine wpAnyH_take (i := 12) (oi := _) (v := ?_) rfl (by kernel_rfl) (by kernel_rfl) (by kernel_rfl) (fun _ _ _ h => h) (Or.inl ⟨by rfl, ?_⟩) (by assumption) ?_
  rotate_left
  · (intro w hSw; (try dsimp only at hSw); go_simp)
    all_goals (with_reducible rfl)
  (try simp only [List.getElem_toArray, List.getElem_cons_zero, List.getElem_cons_succ, Act.put, List.setIfInBounds_toArray, List.set_cons_zero, List.set_cons_succ])
  refine wpAnyH_take (i := 13) (oi := _) (v := ?_) rfl (by kernel_rfl) (by kernel_rfl) (by kernel_rfl) (fun _ _ _ h => h) (Or.inl ⟨by rfl, ?_⟩) (by assumption) ?_
  rotate_left
  · (intro w hSw; (try dsimp only at hSw); go_simp)
    all_goals (with_reducible rfl)
  (try simp only [List.getElem_toArray, List.getElem_cons_zero, List.getElem_cons_succ, Act.put, List.setIfInBounds_toArray, List.set_cons_zero, List.set_cons_succ])
  refine wpAnyH_take (i := 14) (oi := _) (v := ?_) rfl (by kernel_rfl) (by kernel_rfl) (by kernel_rfl) (fun _ _ _ h => h) (Or.inl ⟨by rfl, ?_⟩) (by assumption) ?_
  rotate_left
  · (intro w hSw; (try dsimp only at hSw); go_simp)
    all_goals (with_reducible rfl)
  (try simp only [List.getElem_toArray, List.getElem_cons_zero, List.getElem_cons_succ, Act.put, List.setIfInBounds_toArray, List.set_cons_zero, List.set_cons_succ])
  refine wpAnyH_take (i := 15) (oi := _) (v := ?_) rfl (by kernel_rfl) (by kernel_rfl) (by kernel_rfl) (fun _ _ _ h => h) (Or.inl ⟨by rfl, ?_⟩) (by assumption) ?_
  rotate_left
  · (intro w hSw; (try dsimp only at hSw); go_simp)
    all_goals (with_reducible rfl)
  (try simp only [List.getElem_toArray, List.getElem_cons_zero, List.getElem_cons_succ, Act.put, List.setIfInBounds_toArray, List.set_cons_zero, List.set_cons_succ])
  refine wpAnyH_take (i := 16) (oi := _) (v := ?_) rfl (by kernel_rfl) (by kernel_rfl) (by kernel_rfl) (fun _ _ _ h => h) (Or.inl ⟨by rfl, ?_⟩) (by assumption) ?_
  rotate_left
  · (intro w hSw; (try dsimp only at hSw); go_simp)
    all_goals (with_reducible rfl)
  (try simp only [List.getElem_toArray, List.getElem_cons_zero, List.getElem_cons_succ, Act.put, List.setIfInBounds_toArray, List.set_cons_zero, List.set_cons_succ])
  refine wpAnyH_take (i := 17) (oi := _) (v := ?_) rfl (by kernel_rfl) (by kernel_rfl) (by kernel_rfl) (fun _ _ _ h => h) (Or.inl ⟨by rfl, ?_⟩) (by assumption) ?_
  rotate_left
  · (intro w hSw; (try dsimp only at hSw); go_simp)
    all_goals (with_reducible rfl)
  (try simp only [List.getElem_toArray, List.getElem_cons_zero, List.getElem_cons_succ, Act.put, List.setIfInBounds_toArray, List.set_cons_zero, List.set_cons_succ])
  refine wpAnyH_take (i := 18) (oi := _) (v := ?_) rfl (by kernel_rfl) (by kernel_rfl) (by kernel_rfl) (fun _ _ _ h => h) (Or.inl ⟨by rfl, ?_⟩) (by assumption) ?_
  rotate_left
  · (intro w hSw; (try dsimp only at hSw); go_simp)
    all_goals (with_reducible rfl)
  (try simp only [List.getElem_toArray, List.getElem_cons_zero, List.getElem_cons_succ, Act.put, List.setIfInBounds_toArray, List.set_cons_zero, List.set_cons_succ])
  refine wpAnyH_take (i := 19) (oi := _) (v := ?_) rfl (by kernel_rfl) (by kernel_rfl) (by kernel_rfl) (fun _ _ _ h => h) (Or.inl ⟨by rfl, ?_⟩) (by assumption) ?_
  rotate_left
  · (intro w hSw; (try dsimp only at hSw); go_simp)
    all_goals (with_reducible rfl)
  (try simp only [List.getElem_toArray, List.getElem_cons_zero, List.getElem_cons_succ, Act.put, List.setIfInBounds_toArray, List.set_cons_zero, List.set_cons_succ])
  refine wpAnyH_take (i := 20) (oi := _) (v := ?_) rfl (by kernel_rfl) (by kernel_rfl) (by kernel_rfl) (fun _ _ _ h => h) (Or.inl ⟨by rfl, ?_⟩) (by assumption) ?_
  rotate_left
  · (intro w hSw; (try dsimp only at hSw); go_simp)
    all_goals (with_reducible rfl)
  (try simp only [List.getElem_toArray, List.getElem_cons_zero, List.getElem_cons_succ, Act.put, List.setIfInBounds_toArray, List.set_cons_zero, List.set_cons_succ])
  refine wpAnyH_take (i := 21) (oi := _) (v := ?_) rfl (by kernel_rfl) (by kernel_rfl) (by kernel_rfl) (fun _ _ _ h => h) (Or.inl ⟨by rfl, ?_⟩) (by assumption) ?_
  rotate_left
  · (intro w hSw; (try dsimp only at hSw); go_simp)
    all_goals (with_reducible rfl)
  (try simp only [List.getElem_toArray, List.getElem_cons_zero, List.getElem_cons_succ, Act.put, List.setIfInBounds_toArray, List.set_cons_zero, List.set_cons_succ])
  refine wpAnyH_take (i := 22) (oi := _) (v := ?_) rfl (by kernel_rfl) (by kernel_rfl) (by kernel_rfl) (fun _ _ _ h => h) (Or.inl ⟨by rfl, ?_⟩) (by assumption) ?_
  rotate_left
  · (intro w hSw; (try dsimp only at hSw); go_simp)
    all_goals (with_reducible rfl)
  (try simp only [List.getElem_toArray, List.getElem_cons_zero, List.getElem_cons_succ, Act.put, List.setIfInBounds_toArray, List.set_cons_zero, List.set_cons_succ])
  refine wpAnyH_take (i := 23) (oi := _) (v := ?_) rfl (by kernel_rfl) (by kernel_rfl) (by kernel_rfl) (fun _ _ _ h => h) (Or.inl ⟨by rfl, ?_⟩) (by assumption) ?_
  rotate_left
  · (intro w hSw; (try dsimp only at hSw); go_simp)
    all_goals (with_reducible rfl)
  (try simp only [List.getElem_toArray, List.getElem_cons_zero, List.getElem_cons_succ, Act.put, List.setIfInBounds_toArray, List.set_cons_zero, List.set_cons_succ])
  refine wpAnyH_take (i := 25) (oi := _) (v := ?_) rfl (by kernel_rfl) (by kernel_rfl) (by kernel_rfl) (fun _ _ _ h => h) (Or.inl ⟨by rfl, ?_⟩) (by assumption) ?_
  rotate_left
  · (intro w hSw; (try dsimp only at hSw); go_simp)
    all_goals (with_reducible rfl)
  (try simp only [List.getElem_toArray, List.getElem_cons_zero, List.getElem_cons_succ, Act.put, List.setIfInBounds_toArray, List.set_cons_zero, List.set_cons_succ])
  refine wpAnyH_ready (rs := [24]) (by kernel_rfl) (by simp) ?_
  refine AllReadyH.cons rfl (fun K hK => ?_) AllReadyH.nil
  go_simp
  (go_at_call 12; (with_reducible refine (HCO.out _).mono ?_); rintro e w' ⟨rfl, rfl⟩)
  go_wp2_with fail
  refine hK.out _ _ ?_ (fun hHeld => ?_)
  · (try dsimp only)
    exact heldQ _ (by first | exact (Below.refl _ _).drew | exact ((Below.refl _ _).drew).alloc (by simp) _)
  clear hK K
  (try simp only [List.getElem_toArray, List.getElem_cons_zero, List.getElem_cons_succ, Act.put, List.setIfInBounds_toArray, List.set_cons_zero, List.set_cons_succ])
  refine wpAnyH_take (i := 26) (oi := _) (v := ?_) rfl (by kernel_rfl) (by kernel_rfl) (by kernel_rfl) (fun _ _ _ h => h) (Or.inl ⟨by rfl, ?_⟩) (by assumption) ?_
  rotate_left
  · (intro w hSw; (try dsimp only at hSw); go_simp)
    all_goals (with_reducible rfl)
  (try simp only [List.getElem_toArray, List.getElem_cons_zero, List.getElem_cons_succ, Act.put, List.setIfInBounds_toArray, List.set_cons_zero, List.set_cons_succ])
  refine wpAnyH_take (i := 27) (oi := _) (v := ?_) rfl (by kernel_rfl) (by kernel_rfl) (by kernel_rfl) (fun _ _ _ h => h) (Or.inl ⟨by rfl, ?_⟩) (by assumption) ?_
  rotate_left
  · (intro w hSw; (try dsimp only at hSw); go_simp)
    all_goals (with_reducible rfl)
  (try simp only [List.getElem_toArray, List.getElem_cons_zero, List.getElem_cons_succ, Act.put, List.setIfInBounds_toArray, List.set_cons_zero, List.set_cons_succ])
  refine wpAnyH_ready (rs := [28]) (by kernel_rfl) (by simp) ?_
  refine AllReadyH.cons rfl (fun K hK => ?_) AllReadyH.nil
  go_simp
  refine hK.out _ _ ?_ (fun hHeld => ?_)
  · (try dsimp only)
    exact heldQ _ (by first | exact (Below.refl _ _).drew | exact ((Below.refl _ _).drew).alloc (by simp) _)
  clear hK K
  (try simp only [List.getElem_toArray, List.getElem_cons_zero, List.getElem_cons_succ, Act.put, List.setIfInBounds_toArray, List.set_cons_zero, List.set_cons_succ])
  refine wpAnyH_take (i := 29) (oi := _) (v := ?_) rfl (by kernel_rfl) (by kernel_rfl) (by kernel_rfl) (fun _ _ _ h => h) (Or.inl ⟨by rfl, ?_⟩) (by assumption) ?_
  rotate_left
  · (intro w hSw; (try dsimp only at hSw); go_simp)
    all_goals (with_reducible rfl)
  (try simp only [List.getElem_toArray, List.getElem_cons_zero, List.getElem_cons_succ, Act.put, List.setIfInBounds_toArray, List.set_cons_zero, List.set_cons_succ])
  refine wpAnyH_take (i := 30) (oi := _) (v := ?_) rfl (by kernel_rfl) (by kernel_rfl) (by kernel_rfl) (fun _ _ _ h => h) (Or.inl ⟨by rfl, ?_⟩) (by assumption) ?_
  rotate_left
  · (intro w hSw; (try dsimp only at hSw); go_simp)
    all_goals (with_reducible rfl)
  (try simp only [List.getElem_toArray, List.getElem_cons_zero, List.getElem_cons_succ, Act.put, List.setIfInBounds_toArray, List.set_cons_zero, List.set_cons_succ])
  refine wpAnyH_ready (rs := [31]) (by kernel_rfl) (by simp) ?_
  refine AllReadyH.cons rfl (fun K hK => ?_) AllReadyH.nil
  go_simp
  refine hK.out _ _ ?_ (fun hHeld => ?_)
  · (try dsimp only)
    exact heldQ _ (by first | exact (Below.refl _ _).drew | exact ((Below.refl _ _).drew).alloc (by simp) _)
  clear hK K
  (try simp only [List.getElem_toArray, List.getElem_cons_zero, List.getElem_cons_succ, Act.put, List.setIfInBounds_toArray, List.set_cons_zero, List.set_cons_succ])
  refine wpAnyH_done (by kernel_rfl) ?_ _
  go_wp2_with fail
  go_ret
  exact ⟨rfl, by go_grown⟩
theorem case1 (W : World) (hL : Tbs W) (a b c : Int) (s : ByteArray) (at_ : Int) (ha : Rn a) (hb : Rn b) (hc : Rn c) (hs : s.size ≤ maxLen) (h1 : ∀ w, Calls Tryd.prog 17 #[.int .i64 at_, .int .i64 4] w fun e w' => e = .returned (.int .i64 1) ∧ w = w') :
    Calls Tryd.prog 6 #[.int .i64 a, .int .i64 b, .string s, .int .i64 c, .int .i64 at_] W fun e w' => e = .returned (.bool true) ∧ Below W.heap.size W w' := by
  have H1 := Lib.hid h1
  have HCO := Lib.hid colsOf_any
  have HRO := Lib.hid (fun w => rowOf_any w a b c s ha hb hc hs)
  have HEV : Hid (∀ (w : World) (B C D : Nat) (r : List V) (x : Oq) (q : Int) (g : V), Below W.heap.size W w → Rd w 2 4 (.slice (some ⟨B, 0, none⟩) 4 4) (ccs c4) → Rd w 3 4 (.slice (some ⟨C, 0, none⟩) 4 4) (vc r) → Rd w 5 1 (.slice (some ⟨D, 0, none⟩) 1 1) (ocs [x]) → x.t.size ≤ 8 → evalF c4 r [x] = (q, g) → Calls Tryd.prog 13 #[.slice (some ⟨B, 0, none⟩) 4 4, .slice (some ⟨C, 0, none⟩) 4 4, .slice (some ⟨D, 0, none⟩) 1 1] w fun e w' => e = .returned (.tuple #[.agg #[.int .i64 g.k, .int .i64 g.n, .string g.t], .int .i64 q]) ∧ Below w.heap.size w w') := fun w B C D r x q g hB hr hu hx hxs hq => by
    have h := eval_any w (hL.below hB) 4 4 1 _ _ _ c4 r [x] hr (small4 (by decide)) hu hx (small1 x hxs)
    rw [hq] at h
    exact h
  have HKD : Hid (∀ (w : World) (B D : Nat) (x : Oq) (q k : Int), Below W.heap.size W w → Rd w 2 4 (.slice (some ⟨B, 0, none⟩) 4 4) (ccs c4) → Rd w 5 1 (.slice (some ⟨D, 0, none⟩) 1 1) (ocs [x]) → x.t.size ≤ 8 → kindF c4 [x] = (q, k) → Calls Tryd.prog 7 #[.slice (some ⟨B, 0, none⟩) 4 4, .slice (some ⟨D, 0, none⟩) 1 1] w fun e w' => e = .returned (.tuple #[.int .i64 k, .int .i64 q]) ∧ Below w.heap.size w w') := fun w B D x q k hB hr hx hxs hq => by
    have h := kind_any w (hL.below hB) 4 1 _ _ c4 [x] hr (small4 (by decide)) hx (small1 x hxs)
    rw [hq] at h
    exact h
  have HBD : Hid (∀ (w : World) (B D : Nat) (x : Oq), Below W.heap.size W w → Rd w 2 4 (.slice (some ⟨B, 0, none⟩) 4 4) (ccs c4) → Rd w 5 1 (.slice (some ⟨D, 0, none⟩) 1 1) (ocs [x]) → x.t.size ≤ 8 → kindF c4 [x] = (0, 2) → Calls Tryd.prog 18 #[.slice (some ⟨B, 0, none⟩) 4 4, .slice (some ⟨D, 0, none⟩) 1 1] w fun e w' => e = .returned (.tuple #[.slice none 0 0, .slice none 0 0, .int .i64 4]) ∧ Below w.heap.size w w') := fun w B D x hB hr hx hxs hq =>
    bounds_no w (hL.below hB) 4 1 _ _ c4 [x] hr (small4 (by decide)) hx (by omega) (small1 x hxs) hq
  clear h1 hL ha hb hc hs
  go_enter Tryd.func6, Tryd.ntmps6
  go_wp2_with (go_at_call 17; ((with_reducible refine (H1.out _).mono ?_); rintro e w' ⟨rfl, rfl⟩))
  refine (HRO.out _).mono ?_
  rintro e w' ⟨w1, p, q, tk, tn, t, rfl, rfl, hb1, ht, hor⟩
  have HE1 := Lib.hid (ev_1 p q tk tn t ht hor)
  have HE2 := Lib.hid (ev_none p q tk tn t ht hor)
  have hz1 := hb1.size
  clear ht hor
  go_wp2_with (go_at_call 12; ((with_reducible refine (HCO.out _).mono ?_); rintro e w' ⟨rfl, rfl⟩))
  refine (HEV.out _ (w1.heap.size + 1) w1.heap.size (w1.heap.size + 3) [⟨2, p, ⟨#[]⟩⟩, ⟨2, q, ⟨#[]⟩⟩, ⟨3, 0, t⟩, ⟨tk, tn, ⟨#[]⟩⟩] ⟨2, nul, ⟨#[110]⟩⟩ _ _ (by go_grown) (rd_alloc (rd_alloc (rd_c4 _ _ _ _ _ _ _ _ _ _ (by simp)) _) _) (rd_alloc (rd_alloc (rd_alloc (rd_blk (new0 w1 _)) _) _) _) (rd_op1 _ ⟨2, nul, ⟨#[110]⟩⟩ _ (by simp)) (by decide) HE1.out).mono ?_
  rintro e w2 ⟨rfl, hb2⟩
  have B2 : Below (w1.alloc (.cells (rwC ⟨2, p, ⟨#[]⟩⟩ ⟨2, q, ⟨#[]⟩⟩ ⟨3, 0, t⟩ ⟨tk, tn, ⟨#[]⟩⟩) 36)).heap.size (w1.alloc (.cells (rwC ⟨2, p, ⟨#[]⟩⟩ ⟨2, q, ⟨#[]⟩⟩ ⟨3, 0, t⟩ ⟨tk, tn, ⟨#[]⟩⟩) 36)) w2 := into (by go_grown) hb2
  have r2 : w2.heap[w1.heap.size]? = some (.cells (rwC ⟨2, p, ⟨#[]⟩⟩ ⟨2, q, ⟨#[]⟩⟩ ⟨3, 0, t⟩ ⟨tk, tn, ⟨#[]⟩⟩) 36 (0, 0)) := (B2.block w1.heap.size (by simp)).trans (new0 w1 _)
  have W2 : Below W.heap.size W w2 := into (by go_grown) B2
  have hz2 := B2.size
  rw [World.size_alloc] at hz2
  have HR2 := Lib.hid r2
  have HW2 := Lib.hid W2
  clear hb2 B2 r2 W2 hb1
  go_wp2_with (go_at_call 12; ((with_reducible refine (HCO.out _).mono ?_); rintro e w' ⟨rfl, rfl⟩))
  have g2 := HW2.out
  refine (HKD.out _ (w2.heap.size + 1) (w2.heap.size + 3) ⟨2, nul, ⟨#[110]⟩⟩ _ _ (by go_grown) (rd_alloc (rd_alloc (rd_c4 _ _ _ _ _ _ _ _ _ _ (by simp)) _) _) (rd_op1 _ ⟨2, nul, ⟨#[110]⟩⟩ _ (by simp)) (by decide) kd_1).mono ?_
  rintro e w3 ⟨rfl, hb3⟩
  have B3 : Below (w2.alloc (.cells #[.int .i64 2, .int .i64 q, .string ⟨#[]⟩] 36)).heap.size (w2.alloc (.cells #[.int .i64 2, .int .i64 q, .string ⟨#[]⟩] 36)) w3 := into (by go_grown) hb3
  have hz3 := B3.size
  rw [World.size_alloc] at hz3
  have HR3 := Lib.hid ((B3.block w1.heap.size (by rw [World.size_alloc]; omega)).trans ((Below.heap_alloc w2 _ _ (by omega)).trans HR2.out))
  have HV3 := Lib.hid ((B3.block w2.heap.size (by simp)).trans (new0 w2 (.cells #[.int .i64 2, .int .i64 q, .string ⟨#[]⟩] 36)))
  have HW3 : Hid (Below W.heap.size W w3) := Lib.hid (into (HW2.out.alloc HW2.out.size _) B3)
  clear hb3 B3
  go_wp2_with (go_at_call 12; ((with_reducible refine (HCO.out _).mono ?_); rintro e w' ⟨rfl, rfl⟩))
  have g3 := HW3.out
  refine (HEV.out _ w3.heap.size w1.heap.size (w3.heap.size + 1) [⟨2, p, ⟨#[]⟩⟩, ⟨2, q, ⟨#[]⟩⟩, ⟨3, 0, t⟩, ⟨tk, tn, ⟨#[]⟩⟩] ⟨2, nul, ⟨#[110, 111, 110, 101]⟩⟩ _ _ (by go_grown) (rd_alloc (rd_c4 _ _ _ _ _ _ _ _ _ _ (by simp)) _) (rd_alloc (rd_alloc (rd_blk HR3.out) _) _) (rd_op1 _ ⟨2, nul, ⟨#[110, 111, 110, 101]⟩⟩ _ (by simp)) (by decide) HE2.out).mono ?_
  rintro e w4 ⟨rfl, hb4⟩
  have B4 : Below w3.heap.size w3 w4 := into (by go_grown) hb4
  have hz4 := B4.size
  have HR4 := Lib.hid ((B4.block w1.heap.size (by omega)).trans HR3.out)
  have HV4 := Lib.hid ((B4.block w2.heap.size (by omega)).trans HV3.out)
  have HW4 := Lib.hid (into HW3.out B4)
  clear hb4 B4
  go_wp2_with (go_at_call 12; ((with_reducible refine (HCO.out _).mono ?_); rintro e w' ⟨rfl, rfl⟩))
  have g4 := HW4.out
  refine (HBD.out _ (w4.heap.size + 1) (w4.heap.size + 2) ⟨2, nul, ⟨#[105, 100]⟩⟩ (by go_grown) (rd_alloc (rd_c4 _ _ _ _ _ _ _ _ _ _ (by simp)) _) (rd_op1 _ ⟨2, nul, ⟨#[105, 100]⟩⟩ _ (by simp)) (by decide) kd_0).mono ?_
  rintro e w5 ⟨rfl, hb5⟩
  have B5 : Below w4.heap.size w4 w5 := into (by go_grown) hb5
  have hz5 := B5.size
  have HR5 := Lib.hid ((B5.block w1.heap.size (by omega)).trans HR4.out)
  have HV5 := Lib.hid ((B5.block w2.heap.size (by omega)).trans HV4.out)
  have HW5 := Lib.hid (into HW4.out B5)
  clear hb5 B5
  obtain ⟨v0, v1, v2, -, -, -⟩ := box3 HV5.out
  have k0 : w5.cell? ⟨w1.heap.size, 3, none⟩ = some (.int .i64 2) := by simp [World.cell?, HR5.out]
  have k1 : w5.cell? ⟨w1.heap.size, 4, none⟩ = some (.int .i64 q) := by simp [World.cell?, HR5.out]
  have k2 : w5.cell? ⟨w1.heap.size, 5, none⟩ = some (.string ⟨#[]⟩) := by simp [World.cell?, HR5.out]
  have heldQ : ∀ wx, Below w5.heap.size w5 wx → (fun wx => Below w5.heap.size w5 wx ∧ wx.cell? ⟨w2.heap.size, 0, none⟩ = some (.int .i64 2) ∧ wx.cell? ⟨w2.heap.size, 1, none⟩ = some (.int .i64 q) ∧ wx.cell? ⟨w2.heap.size, 2, none⟩ = some (.string ⟨#[]⟩) ∧ wx.cell? ⟨w1.heap.size, 3, none⟩ = some (.int .i64 2) ∧ wx.cell? ⟨w1.heap.size, 4, none⟩ = some (.int .i64 q) ∧ wx.cell? ⟨w1.heap.size, 5, none⟩ = some (.string ⟨#[]⟩)) wx := fun wx h => ⟨h, cell_blz h v0, cell_blz h v1, cell_blz h v2, cell_blz h k0, cell_blz h k1, cell_blz h k2⟩
  have g5 := HW5.out
  go_wp2_with fail
  refine wp_region_held_drew (S := (fun wx => Below w5.heap.size w5 wx ∧ wx.cell? ⟨w2.heap.size, 0, none⟩ = some (.int .i64 2) ∧ wx.cell? ⟨w2.heap.size, 1, none⟩ = some (.int .i64 q) ∧ wx.cell? ⟨w2.heap.size, 2, none⟩ = some (.string ⟨#[]⟩) ∧ wx.cell? ⟨w1.heap.size, 3, none⟩ = some (.int .i64 2) ∧ wx.cell? ⟨w1.heap.size, 4, none⟩ = some (.int .i64 q) ∧ wx.cell? ⟨w1.heap.size, 5, none⟩ = some (.string ⟨#[]⟩))) (by kernel_rfl) ?_ (fun hHeld => ?_)
  · (try dsimp only)
    exact heldQ _ (by first | exact (Below.refl _ _).drew | exact ((Below.refl _ _).drew).alloc (by simp) _)
  refine wpAnyH_take (i := 0) (oi := _) (v := ?_) rfl (by kernel_rfl) (by kernel_rfl) (by kernel_rfl) (fun _ _ _ h => h) (Or.inl ⟨by rfl, ?_⟩) (by assumption) ?_
  rotate_left
  · (intro w hSw; (try dsimp only at hSw); go_simp)
    all_goals (with_reducible rfl)
  (try simp only [List.getElem_toArray, List.getElem_cons_zero, List.getElem_cons_succ, Act.put, List.setIfInBounds_toArray, List.set_cons_zero, List.set_cons_succ])
  refine wpAnyH_take (i := 1) (oi := _) (v := ?_) rfl (by kernel_rfl) (by kernel_rfl) (by kernel_rfl) (fun _ _ _ h => h) (Or.inl ⟨by rfl, ?_⟩) (by assumption) ?_
  rotate_left
  · (intro w hSw; (try dsimp only at hSw); go_simp)
    all_goals (with_reducible rfl)
  (try simp only [List.getElem_toArray, List.getElem_cons_zero, List.getElem_cons_succ, Act.put, List.setIfInBounds_toArray, List.set_cons_zero, List.set_cons_succ])
  refine wpAnyH_take (i := 2) (oi := _) (v := ?_) rfl (by kernel_rfl) (by kernel_rfl) (by kernel_rfl) (fun _ _ _ h => h) (Or.inl ⟨by rfl, ?_⟩) (by assumption) ?_
  rotate_left
  · (intro w hSw; (try dsimp only at hSw); go_simp)
    all_goals (with_reducible rfl)
  (try simp only [List.getElem_toArray, List.getElem_cons_zero, List.getElem_cons_succ, Act.put, List.setIfInBounds_toArray, List.set_cons_zero, List.set_cons_succ])
  refine wpAnyH_take (i := 3) (oi := _) (v := ?_) rfl (by kernel_rfl) (by kernel_rfl) (by kernel_rfl) (fun _ _ _ h => h) (Or.inl ⟨by rfl, ?_⟩) (by assumption) ?_
  rotate_left
  · (intro w hSw; (try dsimp only at hSw); go_simp)
    all_goals (with_reducible rfl)
  (try simp only [List.getElem_toArray, List.getElem_cons_zero, List.getElem_cons_succ, Act.put, List.setIfInBounds_toArray, List.set_cons_zero, List.set_cons_succ])
  refine wpAnyH_take (i := 4) (oi := _) (v := ?_) rfl (by kernel_rfl) (by kernel_rfl) (by kernel_rfl) (fun _ _ _ h => h) (Or.inl ⟨by rfl, ?_⟩) (by assumption) ?_
  rotate_left
  · (intro w hSw; (try dsimp only at hSw); go_simp)
    all_goals (with_reducible rfl)
  (try simp only [List.getElem_toArray, List.getElem_cons_zero, List.getElem_cons_succ, Act.put, List.setIfInBounds_toArray, List.set_cons_zero, List.set_cons_succ])
  refine wpAnyH_take (i := 5) (oi := _) (v := ?_) rfl (by kernel_rfl) (by kernel_rfl) (by kernel_rfl) (fun _ _ _ h => h) (Or.inl ⟨by rfl, ?_⟩) (by assumption) ?_
  rotate_left
  · (intro w hSw; (try dsimp only at hSw); go_simp)
    all_goals (with_reducible rfl)
  (try simp only [List.getElem_toArray, List.getElem_cons_zero, List.getElem_cons_succ, Act.put, List.setIfInBounds_toArray, List.set_cons_zero, List.set_cons_succ])
  refine wpAnyH_take (i := 6) (oi := _) (v := ?_) rfl (by kernel_rfl) (by kernel_rfl) (by kernel_rfl) (fun _ _ _ h => h) (Or.inl ⟨by rfl, ?_⟩) (by assumption) ?_
  rotate_left
  · (intro w hSw; (try dsimp only at hSw); go_simp)
    all_goals (with_reducible rfl)
  (try simp only [List.getElem_toArray, List.getElem_cons_zero, List.getElem_cons_succ, Act.put, List.setIfInBounds_toArray, List.set_cons_zero, List.set_cons_succ])
  refine wpAnyH_take (i := 7) (oi := _) (v := ?_) rfl (by kernel_rfl) (by kernel_rfl) (by kernel_rfl) (fun _ _ _ h => h) (Or.inl ⟨by rfl, ?_⟩) (by assumption) ?_
  rotate_left
  · (intro w hSw; (try dsimp only at hSw); go_simp)
    all_goals (with_reducible rfl)
  (try simp only [List.getElem_toArray, List.getElem_cons_zero, List.getElem_cons_succ, Act.put, List.setIfInBounds_toArray, List.set_cons_zero, List.set_cons_succ])
  refine wpAnyH_take (i := 8) (oi := _) (v := ?_) rfl (by kernel_rfl) (by kernel_rfl) (by kernel_rfl) (fun _ _ _ h => h) (Or.inl ⟨by rfl, ?_⟩) (by assumption) ?_
  rotate_left
  · (intro w hSw; (try dsimp only at hSw); go_simp)
    all_goals (with_reducible rfl)
  (try simp only [List.getElem_toArray, List.getElem_cons_zero, List.getElem_cons_succ, Act.put, List.setIfInBounds_toArray, List.set_cons_zero, List.set_cons_succ])
  refine wpAnyH_take (i := 9) (oi := _) (v := ?_) rfl (by kernel_rfl) (by kernel_rfl) (by kernel_rfl) (fun _ _ _ h => h) (Or.inl ⟨by rfl, ?_⟩) (by assumption) ?_
  rotate_left
  · (intro w hSw; (try dsimp only at hSw); go_simp)
    all_goals (with_reducible rfl)
  (try simp only [List.getElem_toArray, List.getElem_cons_zero, List.getElem_cons_succ, Act.put, List.setIfInBounds_toArray, List.set_cons_zero, List.set_cons_succ])
  refine wpAnyH_take (i := 10) (oi := _) (v := ?_) rfl (by kernel_rfl) (by kernel_rfl) (by kernel_rfl) (fun _ _ _ h => h) (Or.inl ⟨by rfl, ?_⟩) (by assumption) ?_
  rotate_left
  · (intro w hSw; (try dsimp only at hSw); go_simp)
    all_goals (with_reducible rfl)
  (try simp only [List.getElem_toArray, List.getElem_cons_zero, List.getElem_cons_succ, Act.put, List.setIfInBounds_toArray, List.set_cons_zero, List.set_cons_succ])
  refine wpAnyH_take (i := 11) (oi := _) (v := ?_) rfl (by kernel_rfl) (by kernel_rfl) (by kernel_rfl) (fun _ _ _ h => h) (Or.inl ⟨by rfl, ?_⟩) (by assumption) ?_
  rotate_left
  · (intro w hSw; (try dsimp only at hSw); go_simp)
    all_goals (with_reducible rfl)
  (try simp only [List.getElem_toArray, List.getElem_cons_zero, List.getElem_cons_succ, Act.put, List.setIfInBounds_toArray, List.set_cons_zero, List.set_cons_succ])
  refine wpAnyH_take (i := 12) (oi := _) (v := ?_) rfl (by kernel_rfl) (by kernel_rfl) (by kernel_rfl) (fun _ _ _ h => h) (Or.inl ⟨by rfl, ?_⟩) (by assumption) ?_
  rotate_left
  · (intro w hSw; (try dsimp only at hSw); go_simp)
    all_goals (with_reducible rfl)
  (try simp only [List.getElem_toArray, List.getElem_cons_zero, List.getElem_cons_succ, Act.put, List.setIfInBounds_toArray, List.set_cons_zero, List.set_cons_succ])
  refine wpAnyH_take (i := 13) (oi := _) (v := ?_) rfl (by kernel_rfl) (by kernel_rfl) (by kernel_rfl) (fun _ _ _ h => h) (Or.inl ⟨by rfl, ?_⟩) (by assumption) ?_
  rotate_left
  · (intro w hSw; (try dsimp only at hSw); go_simp)
    all_goals (with_reducible rfl)
  (try simp only [List.getElem_toArray, List.getElem_cons_zero, List.getElem_cons_succ, Act.put, List.setIfInBounds_toArray, List.set_cons_zero, List.set_cons_succ])
  refine wpAnyH_take (i := 14) (oi := _) (v := ?_) rfl (by kernel_rfl) (by kernel_rfl) (by kernel_rfl) (fun _ _ _ h => h) (Or.inl ⟨by rfl, ?_⟩) (by assumption) ?_
  rotate_left
  · (intro w hSw; (try dsimp only at hSw); go_simp)
    all_goals (with_reducible rfl)
  (try simp only [List.getElem_toArray, List.getElem_cons_zero, List.getElem_cons_succ, Act.put, List.setIfInBounds_toArray, List.set_cons_zero, List.set_cons_succ])
  refine wpAnyH_take (i := 15) (oi := _) (v := ?_) rfl (by kernel_rfl) (by kernel_rfl) (by kernel_rfl) (fun _ _ _ h => h) (Or.inl ⟨by rfl, ?_⟩) (by assumption) ?_
  rotate_left
  · (intro w hSw; (try dsimp only at hSw); go_simp)
    all_goals (with_reducible rfl)
  (try simp only [List.getElem_toArray, List.getElem_cons_zero, List.getElem_cons_succ, Act.put, List.setIfInBounds_toArray, List.set_cons_zero, List.set_cons_succ])
  refine wpAnyH_take (i := 16) (oi := _) (v := ?_) rfl (by kernel_rfl) (by kernel_rfl) (by kernel_rfl) (fun _ _ _ h => h) (Or.inl ⟨by rfl, ?_⟩) (by assumption) ?_
  rotate_left
  · (intro w hSw; (try dsimp only at hSw); go_simp)
    all_goals (with_reducible rfl)
  (try simp only [List.getElem_toArray, List.getElem_cons_zero, List.getElem_cons_succ, Act.put, List.setIfInBounds_toArray, List.set_cons_zero, List.set_cons_succ])
  refine wpAnyH_take (i := 17) (oi := _) (v := ?_) rfl (by kernel_rfl) (by kernel_rfl) (by kernel_rfl) (fun _ _ _ h => h) (Or.inl ⟨by rfl, ?_⟩) (by assumption) ?_
  rotate_left
  · (intro w hSw; (try dsimp only at hSw); go_simp)
    all_goals (with_reducible rfl)
  (try simp only [List.getElem_toArray, List.getElem_cons_zero, List.getElem_cons_succ, Act.put, List.setIfInBounds_toArray, List.set_cons_zero, List.set_cons_succ])
  refine wpAnyH_take (i := 18) (oi := _) (v := ?_) rfl (by kernel_rfl) (by kernel_rfl) (by kernel_rfl) (fun _ _ _ h => h) (Or.inl ⟨by rfl, ?_⟩) (by assumption) ?_
  rotate_left
  · (intro w hSw; (try dsimp only at hSw); go_simp)
    all_goals (with_reducible rfl)
  (try simp only [List.getElem_toArray, List.getElem_cons_zero, List.getElem_cons_succ, Act.put, List.setIfInBounds_toArray, List.set_cons_zero, List.set_cons_succ])
  refine wpAnyH_take (i := 19) (oi := _) (v := ?_) rfl (by kernel_rfl) (by kernel_rfl) (by kernel_rfl) (fun _ _ _ h => h) (Or.inl ⟨by rfl, ?_⟩) (by assumption) ?_
  rotate_left
  · (intro w hSw; (try dsimp only at hSw); go_simp)
    all_goals (with_reducible rfl)
  (try simp only [List.getElem_toArray, List.getElem_cons_zero, List.getElem_cons_succ, Act.put, List.setIfInBounds_toArray, List.set_cons_zero, List.set_cons_succ])
  refine wpAnyH_take (i := 20) (oi := _) (v := ?_) rfl (by kernel_rfl) (by kernel_rfl) (by kernel_rfl) (fun _ _ _ h => h) (Or.inl ⟨by rfl, ?_⟩) (by assumption) ?_
  rotate_left
  · (intro w hSw; (try dsimp only at hSw); go_simp)
    all_goals (with_reducible rfl)
  (try simp only [List.getElem_toArray, List.getElem_cons_zero, List.getElem_cons_succ, Act.put, List.setIfInBounds_toArray, List.set_cons_zero, List.set_cons_succ])
  refine wpAnyH_take (i := 21) (oi := _) (v := ?_) rfl (by kernel_rfl) (by kernel_rfl) (by kernel_rfl) (fun _ _ _ h => h) (Or.inl ⟨by rfl, ?_⟩) (by assumption) ?_
  rotate_left
  · (intro w hSw; (try dsimp only at hSw); go_simp)
    all_goals (with_reducible rfl)
  (try simp only [List.getElem_toArray, List.getElem_cons_zero, List.getElem_cons_succ, Act.put, List.setIfInBounds_toArray, List.set_cons_zero, List.set_cons_succ])
  refine wpAnyH_take (i := 22) (oi := _) (v := ?_) rfl (by kernel_rfl) (by kernel_rfl) (by kernel_rfl) (fun _ _ _ h => h) (Or.inl ⟨by rfl, ?_⟩) (by assumption) ?_
  rotate_left
  · (intro w hSw; (try dsimp only at hSw); go_simp)
    all_goals (with_reducible rfl)
  (try simp only [List.getElem_toArray, List.getElem_cons_zero, List.getElem_cons_succ, Act.put, List.setIfInBounds_toArray, List.set_cons_zero, List.set_cons_succ])
  refine wpAnyH_take (i := 23) (oi := _) (v := ?_) rfl (by kernel_rfl) (by kernel_rfl) (by kernel_rfl) (fun _ _ _ h => h) (Or.inl ⟨by rfl, ?_⟩) (by assumption) ?_
  rotate_left
  · (intro w hSw; (try dsimp only at hSw); go_simp)
    all_goals (with_reducible rfl)
  (try simp only [List.getElem_toArray, List.getElem_cons_zero, List.getElem_cons_succ, Act.put, List.setIfInBounds_toArray, List.set_cons_zero, List.set_cons_succ])
  refine wpAnyH_take (i := 25) (oi := _) (v := ?_) rfl (by kernel_rfl) (by kernel_rfl) (by kernel_rfl) (fun _ _ _ h => h) (Or.inl ⟨by rfl, ?_⟩) (by assumption) ?_
  rotate_left
  · (intro w hSw; (try dsimp only at hSw); go_simp)
    all_goals (with_reducible rfl)
  (try simp only [List.getElem_toArray, List.getElem_cons_zero, List.getElem_cons_succ, Act.put, List.setIfInBounds_toArray, List.set_cons_zero, List.set_cons_succ])
  refine wpAnyH_ready (rs := [24]) (by kernel_rfl) (by simp) ?_
  refine AllReadyH.cons rfl (fun K hK => ?_) AllReadyH.nil
  go_simp
  (go_at_call 12; (with_reducible refine (HCO.out _).mono ?_); rintro e w' ⟨rfl, rfl⟩)
  go_wp2_with fail
  refine hK.out _ _ ?_ (fun hHeld => ?_)
  · (try dsimp only)
    exact heldQ _ (by first | exact (Below.refl _ _).drew | exact ((Below.refl _ _).drew).alloc (by simp) _)
  clear hK K
  (try simp only [List.getElem_toArray, List.getElem_cons_zero, List.getElem_cons_succ, Act.put, List.setIfInBounds_toArray, List.set_cons_zero, List.set_cons_succ])
  refine wpAnyH_take (i := 26) (oi := _) (v := ?_) rfl (by kernel_rfl) (by kernel_rfl) (by kernel_rfl) (fun _ _ _ h => h) (Or.inl ⟨by rfl, ?_⟩) (by assumption) ?_
  rotate_left
  · (intro w hSw; (try dsimp only at hSw); go_simp)
    all_goals (with_reducible rfl)
  (try simp only [List.getElem_toArray, List.getElem_cons_zero, List.getElem_cons_succ, Act.put, List.setIfInBounds_toArray, List.set_cons_zero, List.set_cons_succ])
  refine wpAnyH_take (i := 27) (oi := _) (v := ?_) rfl (by kernel_rfl) (by kernel_rfl) (by kernel_rfl) (fun _ _ _ h => h) (Or.inl ⟨by rfl, ?_⟩) (by assumption) ?_
  rotate_left
  · (intro w hSw; (try dsimp only at hSw); go_simp)
    all_goals (with_reducible rfl)
  (try simp only [List.getElem_toArray, List.getElem_cons_zero, List.getElem_cons_succ, Act.put, List.setIfInBounds_toArray, List.set_cons_zero, List.set_cons_succ])
  refine wpAnyH_ready (rs := [28]) (by kernel_rfl) (by simp) ?_
  refine AllReadyH.cons rfl (fun K hK => ?_) AllReadyH.nil
  go_simp
  refine hK.out _ _ ?_ (fun hHeld => ?_)
  · (try dsimp only)
    exact heldQ _ (by first | exact (Below.refl _ _).drew | exact ((Below.refl _ _).drew).alloc (by simp) _)
  clear hK K
  (try simp only [List.getElem_toArray, List.getElem_cons_zero, List.getElem_cons_succ, Act.put, List.setIfInBounds_toArray, List.set_cons_zero, List.set_cons_succ])
  refine wpAnyH_take (i := 29) (oi := _) (v := ?_) rfl (by kernel_rfl) (by kernel_rfl) (by kernel_rfl) (fun _ _ _ h => h) (Or.inl ⟨by rfl, ?_⟩) (by assumption) ?_
  rotate_left
  · (intro w hSw; (try dsimp only at hSw); go_simp)
    all_goals (with_reducible rfl)
  (try simp only [List.getElem_toArray, List.getElem_cons_zero, List.getElem_cons_succ, Act.put, List.setIfInBounds_toArray, List.set_cons_zero, List.set_cons_succ])
  refine wpAnyH_take (i := 30) (oi := _) (v := ?_) rfl (by kernel_rfl) (by kernel_rfl) (by kernel_rfl) (fun _ _ _ h => h) (Or.inl ⟨by rfl, ?_⟩) (by assumption) ?_
  rotate_left
  · (intro w hSw; (try dsimp only at hSw); go_simp)
    all_goals (with_reducible rfl)
  (try simp only [List.getElem_toArray, List.getElem_cons_zero, List.getElem_cons_succ, Act.put, List.setIfInBounds_toArray, List.set_cons_zero, List.set_cons_succ])
  refine wpAnyH_ready (rs := [31]) (by kernel_rfl) (by simp) ?_
  refine AllReadyH.cons rfl (fun K hK => ?_) AllReadyH.nil
  go_simp
  refine hK.out _ _ ?_ (fun hHeld => ?_)
  · (try dsimp only)
    exact heldQ _ (by first | exact (Below.refl _ _).drew | exact ((Below.refl _ _).drew).alloc (by simp) _)
  clear hK K
  (try simp only [List.getElem_toArray, List.getElem_cons_zero, List.getElem_cons_succ, Act.put, List.setIfInBounds_toArray, List.set_cons_zero, List.set_cons_succ])
  refine wpAnyH_done (by kernel_rfl) ?_ _
  go_wp2_with fail
  go_ret
  exact ⟨rfl, by go_grown⟩
theorem case2 (W : World) (hL : Tbs W) (a b c : Int) (s : ByteArray) (at_ : Int) (ha : Rn a) (hb : Rn b) (hc : Rn c) (hs : s.size ≤ maxLen) (h1 : ∀ w, Calls Tryd.prog 17 #[.int .i64 at_, .int .i64 4] w fun e w' => e = .returned (.int .i64 2) ∧ w = w') :
    Calls Tryd.prog 6 #[.int .i64 a, .int .i64 b, .string s, .int .i64 c, .int .i64 at_] W fun e w' => e = .returned (.bool true) ∧ Below W.heap.size W w' := by
  have H1 := Lib.hid h1
  have HCO := Lib.hid colsOf_any
  have HRO := Lib.hid (fun w => rowOf_any w a b c s ha hb hc hs)
  have HEV : Hid (∀ (w : World) (B C D : Nat) (r : List V) (x : Oq) (q : Int) (g : V), Below W.heap.size W w → Rd w 2 4 (.slice (some ⟨B, 0, none⟩) 4 4) (ccs c4) → Rd w 3 4 (.slice (some ⟨C, 0, none⟩) 4 4) (vc r) → Rd w 5 1 (.slice (some ⟨D, 0, none⟩) 1 1) (ocs [x]) → x.t.size ≤ 8 → evalF c4 r [x] = (q, g) → Calls Tryd.prog 13 #[.slice (some ⟨B, 0, none⟩) 4 4, .slice (some ⟨C, 0, none⟩) 4 4, .slice (some ⟨D, 0, none⟩) 1 1] w fun e w' => e = .returned (.tuple #[.agg #[.int .i64 g.k, .int .i64 g.n, .string g.t], .int .i64 q]) ∧ Below w.heap.size w w') := fun w B C D r x q g hB hr hu hx hxs hq => by
    have h := eval_any w (hL.below hB) 4 4 1 _ _ _ c4 r [x] hr (small4 (by decide)) hu hx (small1 x hxs)
    rw [hq] at h
    exact h
  have HKD : Hid (∀ (w : World) (B D : Nat) (x : Oq) (q k : Int), Below W.heap.size W w → Rd w 2 4 (.slice (some ⟨B, 0, none⟩) 4 4) (ccs c4) → Rd w 5 1 (.slice (some ⟨D, 0, none⟩) 1 1) (ocs [x]) → x.t.size ≤ 8 → kindF c4 [x] = (q, k) → Calls Tryd.prog 7 #[.slice (some ⟨B, 0, none⟩) 4 4, .slice (some ⟨D, 0, none⟩) 1 1] w fun e w' => e = .returned (.tuple #[.int .i64 k, .int .i64 q]) ∧ Below w.heap.size w w') := fun w B D x q k hB hr hx hxs hq => by
    have h := kind_any w (hL.below hB) 4 1 _ _ c4 [x] hr (small4 (by decide)) hx (small1 x hxs)
    rw [hq] at h
    exact h
  have HBD : Hid (∀ (w : World) (B D : Nat) (x : Oq), Below W.heap.size W w → Rd w 2 4 (.slice (some ⟨B, 0, none⟩) 4 4) (ccs c4) → Rd w 5 1 (.slice (some ⟨D, 0, none⟩) 1 1) (ocs [x]) → x.t.size ≤ 8 → kindF c4 [x] = (0, 2) → Calls Tryd.prog 18 #[.slice (some ⟨B, 0, none⟩) 4 4, .slice (some ⟨D, 0, none⟩) 1 1] w fun e w' => e = .returned (.tuple #[.slice none 0 0, .slice none 0 0, .int .i64 4]) ∧ Below w.heap.size w w') := fun w B D x hB hr hx hxs hq =>
    bounds_no w (hL.below hB) 4 1 _ _ c4 [x] hr (small4 (by decide)) hx (by omega) (small1 x hxs) hq
  clear h1 hL ha hb hc hs
  go_enter Tryd.func6, Tryd.ntmps6
  go_wp2_with (go_at_call 17; ((with_reducible refine (H1.out _).mono ?_); rintro e w' ⟨rfl, rfl⟩))
  refine (HRO.out _).mono ?_
  rintro e w' ⟨w1, p, q, tk, tn, t, rfl, rfl, hb1, ht, hor⟩
  have HE1 := Lib.hid (ev_2 p q tk tn t ht hor)
  have HE2 := Lib.hid (ev_none p q tk tn t ht hor)
  have hz1 := hb1.size
  clear ht hor
  go_wp2_with (go_at_call 12; ((with_reducible refine (HCO.out _).mono ?_); rintro e w' ⟨rfl, rfl⟩))
  refine (HEV.out _ (w1.heap.size + 1) w1.heap.size (w1.heap.size + 3) [⟨2, p, ⟨#[]⟩⟩, ⟨2, q, ⟨#[]⟩⟩, ⟨3, 0, t⟩, ⟨tk, tn, ⟨#[]⟩⟩] ⟨2, nul, ⟨#[115]⟩⟩ _ _ (by go_grown) (rd_alloc (rd_alloc (rd_c4 _ _ _ _ _ _ _ _ _ _ (by simp)) _) _) (rd_alloc (rd_alloc (rd_alloc (rd_blk (new0 w1 _)) _) _) _) (rd_op1 _ ⟨2, nul, ⟨#[115]⟩⟩ _ (by simp)) (by decide) HE1.out).mono ?_
  rintro e w2 ⟨rfl, hb2⟩
  have B2 : Below (w1.alloc (.cells (rwC ⟨2, p, ⟨#[]⟩⟩ ⟨2, q, ⟨#[]⟩⟩ ⟨3, 0, t⟩ ⟨tk, tn, ⟨#[]⟩⟩) 36)).heap.size (w1.alloc (.cells (rwC ⟨2, p, ⟨#[]⟩⟩ ⟨2, q, ⟨#[]⟩⟩ ⟨3, 0, t⟩ ⟨tk, tn, ⟨#[]⟩⟩) 36)) w2 := into (by go_grown) hb2
  have r2 : w2.heap[w1.heap.size]? = some (.cells (rwC ⟨2, p, ⟨#[]⟩⟩ ⟨2, q, ⟨#[]⟩⟩ ⟨3, 0, t⟩ ⟨tk, tn, ⟨#[]⟩⟩) 36 (0, 0)) := (B2.block w1.heap.size (by simp)).trans (new0 w1 _)
  have W2 : Below W.heap.size W w2 := into (by go_grown) B2
  have hz2 := B2.size
  rw [World.size_alloc] at hz2
  have HR2 := Lib.hid r2
  have HW2 := Lib.hid W2
  clear hb2 B2 r2 W2 hb1
  go_wp2_with (go_at_call 12; ((with_reducible refine (HCO.out _).mono ?_); rintro e w' ⟨rfl, rfl⟩))
  have g2 := HW2.out
  refine (HKD.out _ (w2.heap.size + 1) (w2.heap.size + 3) ⟨2, nul, ⟨#[115]⟩⟩ _ _ (by go_grown) (rd_alloc (rd_alloc (rd_c4 _ _ _ _ _ _ _ _ _ _ (by simp)) _) _) (rd_op1 _ ⟨2, nul, ⟨#[115]⟩⟩ _ (by simp)) (by decide) kd_2).mono ?_
  rintro e w3 ⟨rfl, hb3⟩
  have B3 : Below (w2.alloc (.cells #[.int .i64 3, .int .i64 0, .string t] 36)).heap.size (w2.alloc (.cells #[.int .i64 3, .int .i64 0, .string t] 36)) w3 := into (by go_grown) hb3
  have hz3 := B3.size
  rw [World.size_alloc] at hz3
  have HR3 := Lib.hid ((B3.block w1.heap.size (by rw [World.size_alloc]; omega)).trans ((Below.heap_alloc w2 _ _ (by omega)).trans HR2.out))
  have HV3 := Lib.hid ((B3.block w2.heap.size (by simp)).trans (new0 w2 (.cells #[.int .i64 3, .int .i64 0, .string t] 36)))
  have HW3 : Hid (Below W.heap.size W w3) := Lib.hid (into (HW2.out.alloc HW2.out.size _) B3)
  clear hb3 B3
  go_wp2_with (go_at_call 12; ((with_reducible refine (HCO.out _).mono ?_); rintro e w' ⟨rfl, rfl⟩))
  have g3 := HW3.out
  refine (HEV.out _ w3.heap.size w1.heap.size (w3.heap.size + 1) [⟨2, p, ⟨#[]⟩⟩, ⟨2, q, ⟨#[]⟩⟩, ⟨3, 0, t⟩, ⟨tk, tn, ⟨#[]⟩⟩] ⟨2, nul, ⟨#[110, 111, 110, 101]⟩⟩ _ _ (by go_grown) (rd_alloc (rd_c4 _ _ _ _ _ _ _ _ _ _ (by simp)) _) (rd_alloc (rd_alloc (rd_blk HR3.out) _) _) (rd_op1 _ ⟨2, nul, ⟨#[110, 111, 110, 101]⟩⟩ _ (by simp)) (by decide) HE2.out).mono ?_
  rintro e w4 ⟨rfl, hb4⟩
  have B4 : Below w3.heap.size w3 w4 := into (by go_grown) hb4
  have hz4 := B4.size
  have HR4 := Lib.hid ((B4.block w1.heap.size (by omega)).trans HR3.out)
  have HV4 := Lib.hid ((B4.block w2.heap.size (by omega)).trans HV3.out)
  have HW4 := Lib.hid (into HW3.out B4)
  clear hb4 B4
  go_wp2_with (go_at_call 12; ((with_reducible refine (HCO.out _).mono ?_); rintro e w' ⟨rfl, rfl⟩))
  have g4 := HW4.out
  refine (HBD.out _ (w4.heap.size + 1) (w4.heap.size + 2) ⟨2, nul, ⟨#[105, 100]⟩⟩ (by go_grown) (rd_alloc (rd_c4 _ _ _ _ _ _ _ _ _ _ (by simp)) _) (rd_op1 _ ⟨2, nul, ⟨#[105, 100]⟩⟩ _ (by simp)) (by decide) kd_0).mono ?_
  rintro e w5 ⟨rfl, hb5⟩
  have B5 : Below w4.heap.size w4 w5 := into (by go_grown) hb5
  have hz5 := B5.size
  have HR5 := Lib.hid ((B5.block w1.heap.size (by omega)).trans HR4.out)
  have HV5 := Lib.hid ((B5.block w2.heap.size (by omega)).trans HV4.out)
  have HW5 := Lib.hid (into HW4.out B5)
  clear hb5 B5
  obtain ⟨v0, v1, v2, -, -, -⟩ := box3 HV5.out
  have k0 : w5.cell? ⟨w1.heap.size, 6, none⟩ = some (.int .i64 3) := by simp [World.cell?, HR5.out]
  have k1 : w5.cell? ⟨w1.heap.size, 7, none⟩ = some (.int .i64 0) := by simp [World.cell?, HR5.out]
  have k2 : w5.cell? ⟨w1.heap.size, 8, none⟩ = some (.string t) := by simp [World.cell?, HR5.out]
  have heldQ : ∀ wx, Below w5.heap.size w5 wx → (fun wx => Below w5.heap.size w5 wx ∧ wx.cell? ⟨w2.heap.size, 0, none⟩ = some (.int .i64 3) ∧ wx.cell? ⟨w2.heap.size, 1, none⟩ = some (.int .i64 0) ∧ wx.cell? ⟨w2.heap.size, 2, none⟩ = some (.string t) ∧ wx.cell? ⟨w1.heap.size, 6, none⟩ = some (.int .i64 3) ∧ wx.cell? ⟨w1.heap.size, 7, none⟩ = some (.int .i64 0) ∧ wx.cell? ⟨w1.heap.size, 8, none⟩ = some (.string t)) wx := fun wx h => ⟨h, cell_blz h v0, cell_blz h v1, cell_blz h v2, cell_blz h k0, cell_blz h k1, cell_blz h k2⟩
  have g5 := HW5.out
  go_wp2_with fail
  refine wp_region_held_drew (S := (fun wx => Below w5.heap.size w5 wx ∧ wx.cell? ⟨w2.heap.size, 0, none⟩ = some (.int .i64 3) ∧ wx.cell? ⟨w2.heap.size, 1, none⟩ = some (.int .i64 0) ∧ wx.cell? ⟨w2.heap.size, 2, none⟩ = some (.string t) ∧ wx.cell? ⟨w1.heap.size, 6, none⟩ = some (.int .i64 3) ∧ wx.cell? ⟨w1.heap.size, 7, none⟩ = some (.int .i64 0) ∧ wx.cell? ⟨w1.heap.size, 8, none⟩ = some (.string t))) (by kernel_rfl) ?_ (fun hHeld => ?_)
  · (try dsimp only)
    exact heldQ _ (by first | exact (Below.refl _ _).drew | exact ((Below.refl _ _).drew).alloc (by simp) _)
  refine wpAnyH_take (i := 0) (oi := _) (v := ?_) rfl (by kernel_rfl) (by kernel_rfl) (by kernel_rfl) (fun _ _ _ h => h) (Or.inl ⟨by rfl, ?_⟩) (by assumption) ?_
  rotate_left
  · (intro w hSw; (try dsimp only at hSw); go_simp)
    all_goals (with_reducible rfl)
  (try simp only [List.getElem_toArray, List.getElem_cons_zero, List.getElem_cons_succ, Act.put, List.setIfInBounds_toArray, List.set_cons_zero, List.set_cons_succ])
  refine wpAnyH_take (i := 1) (oi := _) (v := ?_) rfl (by kernel_rfl) (by kernel_rfl) (by kernel_rfl) (fun _ _ _ h => h) (Or.inl ⟨by rfl, ?_⟩) (by assumption) ?_
  rotate_left
  · (intro w hSw; (try dsimp only at hSw); go_simp)
    all_goals (with_reducible rfl)
  (try simp only [List.getElem_toArray, List.getElem_cons_zero, List.getElem_cons_succ, Act.put, List.setIfInBounds_toArray, List.set_cons_zero, List.set_cons_succ])
  refine wpAnyH_take (i := 2) (oi := _) (v := ?_) rfl (by kernel_rfl) (by kernel_rfl) (by kernel_rfl) (fun _ _ _ h => h) (Or.inl ⟨by rfl, ?_⟩) (by assumption) ?_
  rotate_left
  · (intro w hSw; (try dsimp only at hSw); go_simp)
    all_goals (with_reducible rfl)
  (try simp only [List.getElem_toArray, List.getElem_cons_zero, List.getElem_cons_succ, Act.put, List.setIfInBounds_toArray, List.set_cons_zero, List.set_cons_succ])
  refine wpAnyH_take (i := 3) (oi := _) (v := ?_) rfl (by kernel_rfl) (by kernel_rfl) (by kernel_rfl) (fun _ _ _ h => h) (Or.inl ⟨by rfl, ?_⟩) (by assumption) ?_
  rotate_left
  · (intro w hSw; (try dsimp only at hSw); go_simp)
    all_goals (with_reducible rfl)
  (try simp only [List.getElem_toArray, List.getElem_cons_zero, List.getElem_cons_succ, Act.put, List.setIfInBounds_toArray, List.set_cons_zero, List.set_cons_succ])
  refine wpAnyH_take (i := 4) (oi := _) (v := ?_) rfl (by kernel_rfl) (by kernel_rfl) (by kernel_rfl) (fun _ _ _ h => h) (Or.inl ⟨by rfl, ?_⟩) (by assumption) ?_
  rotate_left
  · (intro w hSw; (try dsimp only at hSw); go_simp)
    all_goals (with_reducible rfl)
  (try simp only [List.getElem_toArray, List.getElem_cons_zero, List.getElem_cons_succ, Act.put, List.setIfInBounds_toArray, List.set_cons_zero, List.set_cons_succ])
  refine wpAnyH_take (i := 5) (oi := _) (v := ?_) rfl (by kernel_rfl) (by kernel_rfl) (by kernel_rfl) (fun _ _ _ h => h) (Or.inl ⟨by rfl, ?_⟩) (by assumption) ?_
  rotate_left
  · (intro w hSw; (try dsimp only at hSw); go_simp)
    all_goals (with_reducible rfl)
  (try simp only [List.getElem_toArray, List.getElem_cons_zero, List.getElem_cons_succ, Act.put, List.setIfInBounds_toArray, List.set_cons_zero, List.set_cons_succ])
  refine wpAnyH_take (i := 6) (oi := _) (v := ?_) rfl (by kernel_rfl) (by kernel_rfl) (by kernel_rfl) (fun _ _ _ h => h) (Or.inl ⟨by rfl, ?_⟩) (by assumption) ?_
  rotate_left
  · (intro w hSw; (try dsimp only at hSw); go_simp)
    all_goals (with_reducible rfl)
  (try simp only [List.getElem_toArray, List.getElem_cons_zero, List.getElem_cons_succ, Act.put, List.setIfInBounds_toArray, List.set_cons_zero, List.set_cons_succ])
  refine wpAnyH_take (i := 7) (oi := _) (v := ?_) rfl (by kernel_rfl) (by kernel_rfl) (by kernel_rfl) (fun _ _ _ h => h) (Or.inl ⟨by rfl, ?_⟩) (by assumption) ?_
  rotate_left
  · (intro w hSw; (try dsimp only at hSw); go_simp)
    all_goals (with_reducible rfl)
  (try simp only [List.getElem_toArray, List.getElem_cons_zero, List.getElem_cons_succ, Act.put, List.setIfInBounds_toArray, List.set_cons_zero, List.set_cons_succ])
  refine wpAnyH_take (i := 8) (oi := _) (v := ?_) rfl (by kernel_rfl) (by kernel_rfl) (by kernel_rfl) (fun _ _ _ h => h) (Or.inl ⟨by rfl, ?_⟩) (by assumption) ?_
  rotate_left
  · (intro w hSw; (try dsimp only at hSw); go_simp)
    all_goals (with_reducible rfl)
  (try simp only [List.getElem_toArray, List.getElem_cons_zero, List.getElem_cons_succ, Act.put, List.setIfInBounds_toArray, List.set_cons_zero, List.set_cons_succ])
  refine wpAnyH_take (i := 9) (oi := _) (v := ?_) rfl (by kernel_rfl) (by kernel_rfl) (by kernel_rfl) (fun _ _ _ h => h) (Or.inl ⟨by rfl, ?_⟩) (by assumption) ?_
  rotate_left
  · (intro w hSw; (try dsimp only at hSw); go_simp)
    all_goals (with_reducible rfl)
  (try simp only [List.getElem_toArray, List.getElem_cons_zero, List.getElem_cons_succ, Act.put, List.setIfInBounds_toArray, List.set_cons_zero, List.set_cons_succ])
  refine wpAnyH_take (i := 10) (oi := _) (v := ?_) rfl (by kernel_rfl) (by kernel_rfl) (by kernel_rfl) (fun _ _ _ h => h) (Or.inl ⟨by rfl, ?_⟩) (by assumption) ?_
  rotate_left
  · (intro w hSw; (try dsimp only at hSw); go_simp)
    all_goals (with_reducible rfl)
  (try simp only [List.getElem_toArray, List.getElem_cons_zero, List.getElem_cons_succ, Act.put, List.setIfInBounds_toArray, List.set_cons_zero, List.set_cons_succ])
  refine wpAnyH_take (i := 11) (oi := _) (v := ?_) rfl (by kernel_rfl) (by kernel_rfl) (by kernel_rfl) (fun _ _ _ h => h) (Or.inl ⟨by rfl, ?_⟩) (by assumption) ?_
  rotate_left
  · (intro w hSw; (try dsimp only at hSw); go_simp)
    all_goals (with_reducible rfl)
  (try simp only [List.getElem_toArray, List.getElem_cons_zero, List.getElem_cons_succ, Act.put, List.setIfInBounds_toArray, List.set_cons_zero, List.set_cons_succ])
  refine wpAnyH_take (i := 12) (oi := _) (v := ?_) rfl (by kernel_rfl) (by kernel_rfl) (by kernel_rfl) (fun _ _ _ h => h) (Or.inl ⟨by rfl, ?_⟩) (by assumption) ?_
  rotate_left
  · (intro w hSw; (try dsimp only at hSw); go_simp)
    all_goals (with_reducible rfl)
  (try simp only [List.getElem_toArray, List.getElem_cons_zero, List.getElem_cons_succ, Act.put, List.setIfInBounds_toArray, List.set_cons_zero, List.set_cons_succ])
  refine wpAnyH_take (i := 13) (oi := _) (v := ?_) rfl (by kernel_rfl) (by kernel_rfl) (by kernel_rfl) (fun _ _ _ h => h) (Or.inl ⟨by rfl, ?_⟩) (by assumption) ?_
  rotate_left
  · (intro w hSw; (try dsimp only at hSw); go_simp)
    all_goals (with_reducible rfl)
  (try simp only [List.getElem_toArray, List.getElem_cons_zero, List.getElem_cons_succ, Act.put, List.setIfInBounds_toArray, List.set_cons_zero, List.set_cons_succ])
  refine wpAnyH_take (i := 14) (oi := _) (v := ?_) rfl (by kernel_rfl) (by kernel_rfl) (by kernel_rfl) (fun _ _ _ h => h) (Or.inl ⟨by rfl, ?_⟩) (by assumption) ?_
  rotate_left
  · (intro w hSw; (try dsimp only at hSw); go_simp)
    all_goals (with_reducible rfl)
  (try simp only [List.getElem_toArray, List.getElem_cons_zero, List.getElem_cons_succ, Act.put, List.setIfInBounds_toArray, List.set_cons_zero, List.set_cons_succ])
  refine wpAnyH_take (i := 15) (oi := _) (v := ?_) rfl (by kernel_rfl) (by kernel_rfl) (by kernel_rfl) (fun _ _ _ h => h) (Or.inl ⟨by rfl, ?_⟩) (by assumption) ?_
  rotate_left
  · (intro w hSw; (try dsimp only at hSw); go_simp)
    all_goals (with_reducible rfl)
  (try simp only [List.getElem_toArray, List.getElem_cons_zero, List.getElem_cons_succ, Act.put, List.setIfInBounds_toArray, List.set_cons_zero, List.set_cons_succ])
  refine wpAnyH_take (i := 16) (oi := _) (v := ?_) rfl (by kernel_rfl) (by kernel_rfl) (by kernel_rfl) (fun _ _ _ h => h) (Or.inl ⟨by rfl, ?_⟩) (by assumption) ?_
  rotate_left
  · (intro w hSw; (try dsimp only at hSw); go_simp)
    all_goals (with_reducible rfl)
  (try simp only [List.getElem_toArray, List.getElem_cons_zero, List.getElem_cons_succ, Act.put, List.setIfInBounds_toArray, List.set_cons_zero, List.set_cons_succ])
  refine wpAnyH_take (i := 17) (oi := _) (v := ?_) rfl (by kernel_rfl) (by kernel_rfl) (by kernel_rfl) (fun _ _ _ h => h) (Or.inl ⟨by rfl, ?_⟩) (by assumption) ?_
  rotate_left
  · (intro w hSw; (try dsimp only at hSw); go_simp)
    all_goals (with_reducible rfl)
  (try simp only [List.getElem_toArray, List.getElem_cons_zero, List.getElem_cons_succ, Act.put, List.setIfInBounds_toArray, List.set_cons_zero, List.set_cons_succ])
  refine wpAnyH_take (i := 18) (oi := _) (v := ?_) rfl (by kernel_rfl) (by kernel_rfl) (by kernel_rfl) (fun _ _ _ h => h) (Or.inl ⟨by rfl, ?_⟩) (by assumption) ?_
  rotate_left
  · (intro w hSw; (try dsimp only at hSw); go_simp)
    all_goals (with_reducible rfl)
  (try simp only [List.getElem_toArray, List.getElem_cons_zero, List.getElem_cons_succ, Act.put, List.setIfInBounds_toArray, List.set_cons_zero, List.set_cons_succ])
  refine wpAnyH_take (i := 19) (oi := _) (v := ?_) rfl (by kernel_rfl) (by kernel_rfl) (by kernel_rfl) (fun _ _ _ h => h) (Or.inl ⟨by rfl, ?_⟩) (by assumption) ?_
  rotate_left
  · (intro w hSw; (try dsimp only at hSw); go_simp)
    all_goals (with_reducible rfl)
  (try simp only [List.getElem_toArray, List.getElem_cons_zero, List.getElem_cons_succ, Act.put, List.setIfInBounds_toArray, List.set_cons_zero, List.set_cons_succ])
  refine wpAnyH_take (i := 20) (oi := _) (v := ?_) rfl (by kernel_rfl) (by kernel_rfl) (by kernel_rfl) (fun _ _ _ h => h) (Or.inl ⟨by rfl, ?_⟩) (by assumption) ?_
  rotate_left
  · (intro w hSw; (try dsimp only at hSw); go_simp)
    all_goals (with_reducible rfl)
  (try simp only [List.getElem_toArray, List.getElem_cons_zero, List.getElem_cons_succ, Act.put, List.setIfInBounds_toArray, List.set_cons_zero, List.set_cons_succ])
  refine wpAnyH_take (i := 21) (oi := _) (v := ?_) rfl (by kernel_rfl) (by kernel_rfl) (by kernel_rfl) (fun _ _ _ h => h) (Or.inl ⟨by rfl, ?_⟩) (by assumption) ?_
  rotate_left
  · (intro w hSw; (try dsimp only at hSw); go_simp)
    all_goals (with_reducible rfl)
  (try simp only [List.getElem_toArray, List.getElem_cons_zero, List.getElem_cons_succ, Act.put, List.setIfInBounds_toArray, List.set_cons_zero, List.set_cons_succ])
  refine wpAnyH_take (i := 22) (oi := _) (v := ?_) rfl (by kernel_rfl) (by kernel_rfl) (by kernel_rfl) (fun _ _ _ h => h) (Or.inl ⟨by rfl, ?_⟩) (by assumption) ?_
  rotate_left
  · (intro w hSw; (try dsimp only at hSw); go_simp)
    all_goals (with_reducible rfl)
  (try simp only [List.getElem_toArray, List.getElem_cons_zero, List.getElem_cons_succ, Act.put, List.setIfInBounds_toArray, List.set_cons_zero, List.set_cons_succ])
  refine wpAnyH_take (i := 23) (oi := _) (v := ?_) rfl (by kernel_rfl) (by kernel_rfl) (by kernel_rfl) (fun _ _ _ h => h) (Or.inl ⟨by rfl, ?_⟩) (by assumption) ?_
  rotate_left
  · (intro w hSw; (try dsimp only at hSw); go_simp)
    all_goals (with_reducible rfl)
  (try simp only [List.getElem_toArray, List.getElem_cons_zero, List.getElem_cons_succ, Act.put, List.setIfInBounds_toArray, List.set_cons_zero, List.set_cons_succ])
  refine wpAnyH_take (i := 25) (oi := _) (v := ?_) rfl (by kernel_rfl) (by kernel_rfl) (by kernel_rfl) (fun _ _ _ h => h) (Or.inl ⟨by rfl, ?_⟩) (by assumption) ?_
  rotate_left
  · (intro w hSw; (try dsimp only at hSw); go_simp)
    all_goals (with_reducible rfl)
  (try simp only [List.getElem_toArray, List.getElem_cons_zero, List.getElem_cons_succ, Act.put, List.setIfInBounds_toArray, List.set_cons_zero, List.set_cons_succ])
  refine wpAnyH_ready (rs := [24]) (by kernel_rfl) (by simp) ?_
  refine AllReadyH.cons rfl (fun K hK => ?_) AllReadyH.nil
  go_simp
  (go_at_call 12; (with_reducible refine (HCO.out _).mono ?_); rintro e w' ⟨rfl, rfl⟩)
  go_wp2_with fail
  refine hK.out _ _ ?_ (fun hHeld => ?_)
  · (try dsimp only)
    exact heldQ _ (by first | exact (Below.refl _ _).drew | exact ((Below.refl _ _).drew).alloc (by simp) _)
  clear hK K
  (try simp only [List.getElem_toArray, List.getElem_cons_zero, List.getElem_cons_succ, Act.put, List.setIfInBounds_toArray, List.set_cons_zero, List.set_cons_succ])
  refine wpAnyH_take (i := 26) (oi := _) (v := ?_) rfl (by kernel_rfl) (by kernel_rfl) (by kernel_rfl) (fun _ _ _ h => h) (Or.inl ⟨by rfl, ?_⟩) (by assumption) ?_
  rotate_left
  · (intro w hSw; (try dsimp only at hSw); go_simp)
    all_goals (with_reducible rfl)
  (try simp only [List.getElem_toArray, List.getElem_cons_zero, List.getElem_cons_succ, Act.put, List.setIfInBounds_toArray, List.set_cons_zero, List.set_cons_succ])
  refine wpAnyH_take (i := 27) (oi := _) (v := ?_) rfl (by kernel_rfl) (by kernel_rfl) (by kernel_rfl) (fun _ _ _ h => h) (Or.inl ⟨by rfl, ?_⟩) (by assumption) ?_
  rotate_left
  · (intro w hSw; (try dsimp only at hSw); go_simp)
    all_goals (with_reducible rfl)
  (try simp only [List.getElem_toArray, List.getElem_cons_zero, List.getElem_cons_succ, Act.put, List.setIfInBounds_toArray, List.set_cons_zero, List.set_cons_succ])
  refine wpAnyH_ready (rs := [28]) (by kernel_rfl) (by simp) ?_
  refine AllReadyH.cons rfl (fun K hK => ?_) AllReadyH.nil
  go_simp
  refine hK.out _ _ ?_ (fun hHeld => ?_)
  · (try dsimp only)
    exact heldQ _ (by first | exact (Below.refl _ _).drew | exact ((Below.refl _ _).drew).alloc (by simp) _)
  clear hK K
  (try simp only [List.getElem_toArray, List.getElem_cons_zero, List.getElem_cons_succ, Act.put, List.setIfInBounds_toArray, List.set_cons_zero, List.set_cons_succ])
  refine wpAnyH_take (i := 29) (oi := _) (v := ?_) rfl (by kernel_rfl) (by kernel_rfl) (by kernel_rfl) (fun _ _ _ h => h) (Or.inl ⟨by rfl, ?_⟩) (by assumption) ?_
  rotate_left
  · (intro w hSw; (try dsimp only at hSw); go_simp)
    all_goals (with_reducible rfl)
  (try simp only [List.getElem_toArray, List.getElem_cons_zero, List.getElem_cons_succ, Act.put, List.setIfInBounds_toArray, List.set_cons_zero, List.set_cons_succ])
  refine wpAnyH_take (i := 30) (oi := _) (v := ?_) rfl (by kernel_rfl) (by kernel_rfl) (by kernel_rfl) (fun _ _ _ h => h) (Or.inl ⟨by rfl, ?_⟩) (by assumption) ?_
  rotate_left
  · (intro w hSw; (try dsimp only at hSw); go_simp)
    all_goals (with_reducible rfl)
  (try simp only [List.getElem_toArray, List.getElem_cons_zero, List.getElem_cons_succ, Act.put, List.setIfInBounds_toArray, List.set_cons_zero, List.set_cons_succ])
  refine wpAnyH_ready (rs := [31]) (by kernel_rfl) (by simp) ?_
  refine AllReadyH.cons rfl (fun K hK => ?_) AllReadyH.nil
  go_simp
  refine hK.out _ _ ?_ (fun hHeld => ?_)
  · (try dsimp only)
    exact heldQ _ (by first | exact (Below.refl _ _).drew | exact ((Below.refl _ _).drew).alloc (by simp) _)
  clear hK K
  (try simp only [List.getElem_toArray, List.getElem_cons_zero, List.getElem_cons_succ, Act.put, List.setIfInBounds_toArray, List.set_cons_zero, List.set_cons_succ])
  refine wpAnyH_done (by kernel_rfl) ?_ _
  go_wp2_with fail
  go_ret
  exact ⟨rfl, by go_grown⟩
theorem case3 (W : World) (hL : Tbs W) (a b c : Int) (s : ByteArray) (at_ : Int) (ha : Rn a) (hb : Rn b) (hc : Rn c) (hs : s.size ≤ maxLen) (h1 : ∀ w, Calls Tryd.prog 17 #[.int .i64 at_, .int .i64 4] w fun e w' => e = .returned (.int .i64 3) ∧ w = w') :
    Calls Tryd.prog 6 #[.int .i64 a, .int .i64 b, .string s, .int .i64 c, .int .i64 at_] W fun e w' => e = .returned (.bool true) ∧ Below W.heap.size W w' := by
  have H1 := Lib.hid h1
  have HCO := Lib.hid colsOf_any
  have HRO := Lib.hid (fun w => rowOf_any w a b c s ha hb hc hs)
  have HEV : Hid (∀ (w : World) (B C D : Nat) (r : List V) (x : Oq) (q : Int) (g : V), Below W.heap.size W w → Rd w 2 4 (.slice (some ⟨B, 0, none⟩) 4 4) (ccs c4) → Rd w 3 4 (.slice (some ⟨C, 0, none⟩) 4 4) (vc r) → Rd w 5 1 (.slice (some ⟨D, 0, none⟩) 1 1) (ocs [x]) → x.t.size ≤ 8 → evalF c4 r [x] = (q, g) → Calls Tryd.prog 13 #[.slice (some ⟨B, 0, none⟩) 4 4, .slice (some ⟨C, 0, none⟩) 4 4, .slice (some ⟨D, 0, none⟩) 1 1] w fun e w' => e = .returned (.tuple #[.agg #[.int .i64 g.k, .int .i64 g.n, .string g.t], .int .i64 q]) ∧ Below w.heap.size w w') := fun w B C D r x q g hB hr hu hx hxs hq => by
    have h := eval_any w (hL.below hB) 4 4 1 _ _ _ c4 r [x] hr (small4 (by decide)) hu hx (small1 x hxs)
    rw [hq] at h
    exact h
  have HKD : Hid (∀ (w : World) (B D : Nat) (x : Oq) (q k : Int), Below W.heap.size W w → Rd w 2 4 (.slice (some ⟨B, 0, none⟩) 4 4) (ccs c4) → Rd w 5 1 (.slice (some ⟨D, 0, none⟩) 1 1) (ocs [x]) → x.t.size ≤ 8 → kindF c4 [x] = (q, k) → Calls Tryd.prog 7 #[.slice (some ⟨B, 0, none⟩) 4 4, .slice (some ⟨D, 0, none⟩) 1 1] w fun e w' => e = .returned (.tuple #[.int .i64 k, .int .i64 q]) ∧ Below w.heap.size w w') := fun w B D x q k hB hr hx hxs hq => by
    have h := kind_any w (hL.below hB) 4 1 _ _ c4 [x] hr (small4 (by decide)) hx (small1 x hxs)
    rw [hq] at h
    exact h
  have HBD : Hid (∀ (w : World) (B D : Nat) (x : Oq), Below W.heap.size W w → Rd w 2 4 (.slice (some ⟨B, 0, none⟩) 4 4) (ccs c4) → Rd w 5 1 (.slice (some ⟨D, 0, none⟩) 1 1) (ocs [x]) → x.t.size ≤ 8 → kindF c4 [x] = (0, 2) → Calls Tryd.prog 18 #[.slice (some ⟨B, 0, none⟩) 4 4, .slice (some ⟨D, 0, none⟩) 1 1] w fun e w' => e = .returned (.tuple #[.slice none 0 0, .slice none 0 0, .int .i64 4]) ∧ Below w.heap.size w w') := fun w B D x hB hr hx hxs hq =>
    bounds_no w (hL.below hB) 4 1 _ _ c4 [x] hr (small4 (by decide)) hx (by omega) (small1 x hxs) hq
  clear h1 hL ha hb hc hs
  go_enter Tryd.func6, Tryd.ntmps6
  go_wp2_with (go_at_call 17; ((with_reducible refine (H1.out _).mono ?_); rintro e w' ⟨rfl, rfl⟩))
  refine (HRO.out _).mono ?_
  rintro e w' ⟨w1, p, q, tk, tn, t, rfl, rfl, hb1, ht, hor⟩
  have HE1 := Lib.hid (ev_3 p q tk tn t ht hor)
  have HE2 := Lib.hid (ev_none p q tk tn t ht hor)
  have hz1 := hb1.size
  clear ht hor
  go_wp2_with (go_at_call 12; ((with_reducible refine (HCO.out _).mono ?_); rintro e w' ⟨rfl, rfl⟩))
  refine (HEV.out _ (w1.heap.size + 1) w1.heap.size (w1.heap.size + 3) [⟨2, p, ⟨#[]⟩⟩, ⟨2, q, ⟨#[]⟩⟩, ⟨3, 0, t⟩, ⟨tk, tn, ⟨#[]⟩⟩] ⟨2, nul, ⟨#[98]⟩⟩ _ _ (by go_grown) (rd_alloc (rd_alloc (rd_c4 _ _ _ _ _ _ _ _ _ _ (by simp)) _) _) (rd_alloc (rd_alloc (rd_alloc (rd_blk (new0 w1 _)) _) _) _) (rd_op1 _ ⟨2, nul, ⟨#[98]⟩⟩ _ (by simp)) (by decide) HE1.out).mono ?_
  rintro e w2 ⟨rfl, hb2⟩
  have B2 : Below (w1.alloc (.cells (rwC ⟨2, p, ⟨#[]⟩⟩ ⟨2, q, ⟨#[]⟩⟩ ⟨3, 0, t⟩ ⟨tk, tn, ⟨#[]⟩⟩) 36)).heap.size (w1.alloc (.cells (rwC ⟨2, p, ⟨#[]⟩⟩ ⟨2, q, ⟨#[]⟩⟩ ⟨3, 0, t⟩ ⟨tk, tn, ⟨#[]⟩⟩) 36)) w2 := into (by go_grown) hb2
  have r2 : w2.heap[w1.heap.size]? = some (.cells (rwC ⟨2, p, ⟨#[]⟩⟩ ⟨2, q, ⟨#[]⟩⟩ ⟨3, 0, t⟩ ⟨tk, tn, ⟨#[]⟩⟩) 36 (0, 0)) := (B2.block w1.heap.size (by simp)).trans (new0 w1 _)
  have W2 : Below W.heap.size W w2 := into (by go_grown) B2
  have hz2 := B2.size
  rw [World.size_alloc] at hz2
  have HR2 := Lib.hid r2
  have HW2 := Lib.hid W2
  clear hb2 B2 r2 W2 hb1
  go_wp2_with (go_at_call 12; ((with_reducible refine (HCO.out _).mono ?_); rintro e w' ⟨rfl, rfl⟩))
  have g2 := HW2.out
  refine (HKD.out _ (w2.heap.size + 1) (w2.heap.size + 3) ⟨2, nul, ⟨#[98]⟩⟩ _ _ (by go_grown) (rd_alloc (rd_alloc (rd_c4 _ _ _ _ _ _ _ _ _ _ (by simp)) _) _) (rd_op1 _ ⟨2, nul, ⟨#[98]⟩⟩ _ (by simp)) (by decide) kd_3).mono ?_
  rintro e w3 ⟨rfl, hb3⟩
  have B3 : Below (w2.alloc (.cells #[.int .i64 tk, .int .i64 tn, .string ⟨#[]⟩] 36)).heap.size (w2.alloc (.cells #[.int .i64 tk, .int .i64 tn, .string ⟨#[]⟩] 36)) w3 := into (by go_grown) hb3
  have hz3 := B3.size
  rw [World.size_alloc] at hz3
  have HR3 := Lib.hid ((B3.block w1.heap.size (by rw [World.size_alloc]; omega)).trans ((Below.heap_alloc w2 _ _ (by omega)).trans HR2.out))
  have HV3 := Lib.hid ((B3.block w2.heap.size (by simp)).trans (new0 w2 (.cells #[.int .i64 tk, .int .i64 tn, .string ⟨#[]⟩] 36)))
  have HW3 : Hid (Below W.heap.size W w3) := Lib.hid (into (HW2.out.alloc HW2.out.size _) B3)
  clear hb3 B3
  go_wp2_with (go_at_call 12; ((with_reducible refine (HCO.out _).mono ?_); rintro e w' ⟨rfl, rfl⟩))
  have g3 := HW3.out
  refine (HEV.out _ w3.heap.size w1.heap.size (w3.heap.size + 1) [⟨2, p, ⟨#[]⟩⟩, ⟨2, q, ⟨#[]⟩⟩, ⟨3, 0, t⟩, ⟨tk, tn, ⟨#[]⟩⟩] ⟨2, nul, ⟨#[110, 111, 110, 101]⟩⟩ _ _ (by go_grown) (rd_alloc (rd_c4 _ _ _ _ _ _ _ _ _ _ (by simp)) _) (rd_alloc (rd_alloc (rd_blk HR3.out) _) _) (rd_op1 _ ⟨2, nul, ⟨#[110, 111, 110, 101]⟩⟩ _ (by simp)) (by decide) HE2.out).mono ?_
  rintro e w4 ⟨rfl, hb4⟩
  have B4 : Below w3.heap.size w3 w4 := into (by go_grown) hb4
  have hz4 := B4.size
  have HR4 := Lib.hid ((B4.block w1.heap.size (by omega)).trans HR3.out)
  have HV4 := Lib.hid ((B4.block w2.heap.size (by omega)).trans HV3.out)
  have HW4 := Lib.hid (into HW3.out B4)
  clear hb4 B4
  go_wp2_with (go_at_call 12; ((with_reducible refine (HCO.out _).mono ?_); rintro e w' ⟨rfl, rfl⟩))
  have g4 := HW4.out
  refine (HBD.out _ (w4.heap.size + 1) (w4.heap.size + 2) ⟨2, nul, ⟨#[105, 100]⟩⟩ (by go_grown) (rd_alloc (rd_c4 _ _ _ _ _ _ _ _ _ _ (by simp)) _) (rd_op1 _ ⟨2, nul, ⟨#[105, 100]⟩⟩ _ (by simp)) (by decide) kd_0).mono ?_
  rintro e w5 ⟨rfl, hb5⟩
  have B5 : Below w4.heap.size w4 w5 := into (by go_grown) hb5
  have hz5 := B5.size
  have HR5 := Lib.hid ((B5.block w1.heap.size (by omega)).trans HR4.out)
  have HV5 := Lib.hid ((B5.block w2.heap.size (by omega)).trans HV4.out)
  have HW5 := Lib.hid (into HW4.out B5)
  clear hb5 B5
  obtain ⟨v0, v1, v2, -, -, -⟩ := box3 HV5.out
  have k0 : w5.cell? ⟨w1.heap.size, 9, none⟩ = some (.int .i64 tk) := by simp [World.cell?, HR5.out]
  have k1 : w5.cell? ⟨w1.heap.size, 10, none⟩ = some (.int .i64 tn) := by simp [World.cell?, HR5.out]
  have k2 : w5.cell? ⟨w1.heap.size, 11, none⟩ = some (.string ⟨#[]⟩) := by simp [World.cell?, HR5.out]
  have heldQ : ∀ wx, Below w5.heap.size w5 wx → (fun wx => Below w5.heap.size w5 wx ∧ wx.cell? ⟨w2.heap.size, 0, none⟩ = some (.int .i64 tk) ∧ wx.cell? ⟨w2.heap.size, 1, none⟩ = some (.int .i64 tn) ∧ wx.cell? ⟨w2.heap.size, 2, none⟩ = some (.string ⟨#[]⟩) ∧ wx.cell? ⟨w1.heap.size, 9, none⟩ = some (.int .i64 tk) ∧ wx.cell? ⟨w1.heap.size, 10, none⟩ = some (.int .i64 tn) ∧ wx.cell? ⟨w1.heap.size, 11, none⟩ = some (.string ⟨#[]⟩)) wx := fun wx h => ⟨h, cell_blz h v0, cell_blz h v1, cell_blz h v2, cell_blz h k0, cell_blz h k1, cell_blz h k2⟩
  have g5 := HW5.out
  go_wp2_with fail
  refine wp_region_held_drew (S := (fun wx => Below w5.heap.size w5 wx ∧ wx.cell? ⟨w2.heap.size, 0, none⟩ = some (.int .i64 tk) ∧ wx.cell? ⟨w2.heap.size, 1, none⟩ = some (.int .i64 tn) ∧ wx.cell? ⟨w2.heap.size, 2, none⟩ = some (.string ⟨#[]⟩) ∧ wx.cell? ⟨w1.heap.size, 9, none⟩ = some (.int .i64 tk) ∧ wx.cell? ⟨w1.heap.size, 10, none⟩ = some (.int .i64 tn) ∧ wx.cell? ⟨w1.heap.size, 11, none⟩ = some (.string ⟨#[]⟩))) (by kernel_rfl) ?_ (fun hHeld => ?_)
  · (try dsimp only)
    exact heldQ _ (by first | exact (Below.refl _ _).drew | exact ((Below.refl _ _).drew).alloc (by simp) _)
  refine wpAnyH_take (i := 0) (oi := _) (v := ?_) rfl (by kernel_rfl) (by kernel_rfl) (by kernel_rfl) (fun _ _ _ h => h) (Or.inl ⟨by rfl, ?_⟩) (by assumption) ?_
  rotate_left
  · (intro w hSw; (try dsimp only at hSw); go_simp)
    all_goals (with_reducible rfl)
  (try simp only [List.getElem_toArray, List.getElem_cons_zero, List.getElem_cons_succ, Act.put, List.setIfInBounds_toArray, List.set_cons_zero, List.set_cons_succ])
  refine wpAnyH_take (i := 1) (oi := _) (v := ?_) rfl (by kernel_rfl) (by kernel_rfl) (by kernel_rfl) (fun _ _ _ h => h) (Or.inl ⟨by rfl, ?_⟩) (by assumption) ?_
  rotate_left
  · (intro w hSw; (try dsimp only at hSw); go_simp)
    all_goals (with_reducible rfl)
  (try simp only [List.getElem_toArray, List.getElem_cons_zero, List.getElem_cons_succ, Act.put, List.setIfInBounds_toArray, List.set_cons_zero, List.set_cons_succ])
  refine wpAnyH_take (i := 2) (oi := _) (v := ?_) rfl (by kernel_rfl) (by kernel_rfl) (by kernel_rfl) (fun _ _ _ h => h) (Or.inl ⟨by rfl, ?_⟩) (by assumption) ?_
  rotate_left
  · (intro w hSw; (try dsimp only at hSw); go_simp)
    all_goals (with_reducible rfl)
  (try simp only [List.getElem_toArray, List.getElem_cons_zero, List.getElem_cons_succ, Act.put, List.setIfInBounds_toArray, List.set_cons_zero, List.set_cons_succ])
  refine wpAnyH_take (i := 3) (oi := _) (v := ?_) rfl (by kernel_rfl) (by kernel_rfl) (by kernel_rfl) (fun _ _ _ h => h) (Or.inl ⟨by rfl, ?_⟩) (by assumption) ?_
  rotate_left
  · (intro w hSw; (try dsimp only at hSw); go_simp)
    all_goals (with_reducible rfl)
  (try simp only [List.getElem_toArray, List.getElem_cons_zero, List.getElem_cons_succ, Act.put, List.setIfInBounds_toArray, List.set_cons_zero, List.set_cons_succ])
  refine wpAnyH_take (i := 4) (oi := _) (v := ?_) rfl (by kernel_rfl) (by kernel_rfl) (by kernel_rfl) (fun _ _ _ h => h) (Or.inl ⟨by rfl, ?_⟩) (by assumption) ?_
  rotate_left
  · (intro w hSw; (try dsimp only at hSw); go_simp)
    all_goals (with_reducible rfl)
  (try simp only [List.getElem_toArray, List.getElem_cons_zero, List.getElem_cons_succ, Act.put, List.setIfInBounds_toArray, List.set_cons_zero, List.set_cons_succ])
  refine wpAnyH_take (i := 5) (oi := _) (v := ?_) rfl (by kernel_rfl) (by kernel_rfl) (by kernel_rfl) (fun _ _ _ h => h) (Or.inl ⟨by rfl, ?_⟩) (by assumption) ?_
  rotate_left
  · (intro w hSw; (try dsimp only at hSw); go_simp)
    all_goals (with_reducible rfl)
  (try simp only [List.getElem_toArray, List.getElem_cons_zero, List.getElem_cons_succ, Act.put, List.setIfInBounds_toArray, List.set_cons_zero, List.set_cons_succ])
  refine wpAnyH_take (i := 6) (oi := _) (v := ?_) rfl (by kernel_rfl) (by kernel_rfl) (by kernel_rfl) (fun _ _ _ h => h) (Or.inl ⟨by rfl, ?_⟩) (by assumption) ?_
  rotate_left
  · (intro w hSw; (try dsimp only at hSw); go_simp)
    all_goals (with_reducible rfl)
  (try simp only [List.getElem_toArray, List.getElem_cons_zero, List.getElem_cons_succ, Act.put, List.setIfInBounds_toArray, List.set_cons_zero, List.set_cons_succ])
  refine wpAnyH_take (i := 7) (oi := _) (v := ?_) rfl (by kernel_rfl) (by kernel_rfl) (by kernel_rfl) (fun _ _ _ h => h) (Or.inl ⟨by rfl, ?_⟩) (by assumption) ?_
  rotate_left
  · (intro w hSw; (try dsimp only at hSw); go_simp)
    all_goals (with_reducible rfl)
  (try simp only [List.getElem_toArray, List.getElem_cons_zero, List.getElem_cons_succ, Act.put, List.setIfInBounds_toArray, List.set_cons_zero, List.set_cons_succ])
  refine wpAnyH_take (i := 8) (oi := _) (v := ?_) rfl (by kernel_rfl) (by kernel_rfl) (by kernel_rfl) (fun _ _ _ h => h) (Or.inl ⟨by rfl, ?_⟩) (by assumption) ?_
  rotate_left
  · (intro w hSw; (try dsimp only at hSw); go_simp)
    all_goals (with_reducible rfl)
  (try simp only [List.getElem_toArray, List.getElem_cons_zero, List.getElem_cons_succ, Act.put, List.setIfInBounds_toArray, List.set_cons_zero, List.set_cons_succ])
  refine wpAnyH_take (i := 9) (oi := _) (v := ?_) rfl (by kernel_rfl) (by kernel_rfl) (by kernel_rfl) (fun _ _ _ h => h) (Or.inl ⟨by rfl, ?_⟩) (by assumption) ?_
  rotate_left
  · (intro w hSw; (try dsimp only at hSw); go_simp)
    all_goals (with_reducible rfl)
  (try simp only [List.getElem_toArray, List.getElem_cons_zero, List.getElem_cons_succ, Act.put, List.setIfInBounds_toArray, List.set_cons_zero, List.set_cons_succ])
  refine wpAnyH_take (i := 10) (oi := _) (v := ?_) rfl (by kernel_rfl) (by kernel_rfl) (by kernel_rfl) (fun _ _ _ h => h) (Or.inl ⟨by rfl, ?_⟩) (by assumption) ?_
  rotate_left
  · (intro w hSw; (try dsimp only at hSw); go_simp)
    all_goals (with_reducible rfl)
  (try simp only [List.getElem_toArray, List.getElem_cons_zero, List.getElem_cons_succ, Act.put, List.setIfInBounds_toArray, List.set_cons_zero, List.set_cons_succ])
  refine wpAnyH_take (i := 11) (oi := _) (v := ?_) rfl (by kernel_rfl) (by kernel_rfl) (by kernel_rfl) (fun _ _ _ h => h) (Or.inl ⟨by rfl, ?_⟩) (by assumption) ?_
  rotate_left
  · (intro w hSw; (try dsimp only at hSw); go_simp)
    all_goals (with_reducible rfl)
  (try simp only [List.getElem_toArray, List.getElem_cons_zero, List.getElem_cons_succ, Act.put, List.setIfInBounds_toArray, List.set_cons_zero, List.set_cons_succ])
  refine wpAnyH_take (i := 12) (oi := _) (v := ?_) rfl (by kernel_rfl) (by kernel_rfl) (by kernel_rfl) (fun _ _ _ h => h) (Or.inl ⟨by rfl, ?_⟩) (by assumption) ?_
  rotate_left
  · (intro w hSw; (try dsimp only at hSw); go_simp)
    all_goals (with_reducible rfl)
  (try simp only [List.getElem_toArray, List.getElem_cons_zero, List.getElem_cons_succ, Act.put, List.setIfInBounds_toArray, List.set_cons_zero, List.set_cons_succ])
  refine wpAnyH_take (i := 13) (oi := _) (v := ?_) rfl (by kernel_rfl) (by kernel_rfl) (by kernel_rfl) (fun _ _ _ h => h) (Or.inl ⟨by rfl, ?_⟩) (by assumption) ?_
  rotate_left
  · (intro w hSw; (try dsimp only at hSw); go_simp)
    all_goals (with_reducible rfl)
  (try simp only [List.getElem_toArray, List.getElem_cons_zero, List.getElem_cons_succ, Act.put, List.setIfInBounds_toArray, List.set_cons_zero, List.set_cons_succ])
  refine wpAnyH_take (i := 14) (oi := _) (v := ?_) rfl (by kernel_rfl) (by kernel_rfl) (by kernel_rfl) (fun _ _ _ h => h) (Or.inl ⟨by rfl, ?_⟩) (by assumption) ?_
  rotate_left
  · (intro w hSw; (try dsimp only at hSw); go_simp)
    all_goals (with_reducible rfl)
  (try simp only [List.getElem_toArray, List.getElem_cons_zero, List.getElem_cons_succ, Act.put, List.setIfInBounds_toArray, List.set_cons_zero, List.set_cons_succ])
  refine wpAnyH_take (i := 15) (oi := _) (v := ?_) rfl (by kernel_rfl) (by kernel_rfl) (by kernel_rfl) (fun _ _ _ h => h) (Or.inl ⟨by rfl, ?_⟩) (by assumption) ?_
  rotate_left
  · (intro w hSw; (try dsimp only at hSw); go_simp)
    all_goals (with_reducible rfl)
  (try simp only [List.getElem_toArray, List.getElem_cons_zero, List.getElem_cons_succ, Act.put, List.setIfInBounds_toArray, List.set_cons_zero, List.set_cons_succ])
  refine wpAnyH_take (i := 16) (oi := _) (v := ?_) rfl (by kernel_rfl) (by kernel_rfl) (by kernel_rfl) (fun _ _ _ h => h) (Or.inl ⟨by rfl, ?_⟩) (by assumption) ?_
  rotate_left
  · (intro w hSw; (try dsimp only at hSw); go_simp)
    all_goals (with_reducible rfl)
  (try simp only [List.getElem_toArray, List.getElem_cons_zero, List.getElem_cons_succ, Act.put, List.setIfInBounds_toArray, List.set_cons_zero, List.set_cons_succ])
  refine wpAnyH_take (i := 17) (oi := _) (v := ?_) rfl (by kernel_rfl) (by kernel_rfl) (by kernel_rfl) (fun _ _ _ h => h) (Or.inl ⟨by rfl, ?_⟩) (by assumption) ?_
  rotate_left
  · (intro w hSw; (try dsimp only at hSw); go_simp)
    all_goals (with_reducible rfl)
  (try simp only [List.getElem_toArray, List.getElem_cons_zero, List.getElem_cons_succ, Act.put, List.setIfInBounds_toArray, List.set_cons_zero, List.set_cons_succ])
  refine wpAnyH_take (i := 18) (oi := _) (v := ?_) rfl (by kernel_rfl) (by kernel_rfl) (by kernel_rfl) (fun _ _ _ h => h) (Or.inl ⟨by rfl, ?_⟩) (by assumption) ?_
  rotate_left
  · (intro w hSw; (try dsimp only at hSw); go_simp)
    all_goals (with_reducible rfl)
  (try simp only [List.getElem_toArray, List.getElem_cons_zero, List.getElem_cons_succ, Act.put, List.setIfInBounds_toArray, List.set_cons_zero, List.set_cons_succ])
  refine wpAnyH_take (i := 19) (oi := _) (v := ?_) rfl (by kernel_rfl) (by kernel_rfl) (by kernel_rfl) (fun _ _ _ h => h) (Or.inl ⟨by rfl, ?_⟩) (by assumption) ?_
  rotate_left
  · (intro w hSw; (try dsimp only at hSw); go_simp)
    all_goals (with_reducible rfl)
  (try simp only [List.getElem_toArray, List.getElem_cons_zero, List.getElem_cons_succ, Act.put, List.setIfInBounds_toArray, List.set_cons_zero, List.set_cons_succ])
  refine wpAnyH_take (i := 20) (oi := _) (v := ?_) rfl (by kernel_rfl) (by kernel_rfl) (by kernel_rfl) (fun _ _ _ h => h) (Or.inl ⟨by rfl, ?_⟩) (by assumption) ?_
  rotate_left
  · (intro w hSw; (try dsimp only at hSw); go_simp)
    all_goals (with_reducible rfl)
  (try simp only [List.getElem_toArray, List.getElem_cons_zero, List.getElem_cons_succ, Act.put, List.setIfInBounds_toArray, List.set_cons_zero, List.set_cons_succ])
  refine wpAnyH_take (i := 21) (oi := _) (v := ?_) rfl (by kernel_rfl) (by kernel_rfl) (by kernel_rfl) (fun _ _ _ h => h) (Or.inl ⟨by rfl, ?_⟩) (by assumption) ?_
  rotate_left
  · (intro w hSw; (try dsimp only at hSw); go_simp)
    all_goals (with_reducible rfl)
  (try simp only [List.getElem_toArray, List.getElem_cons_zero, List.getElem_cons_succ, Act.put, List.setIfInBounds_toArray, List.set_cons_zero, List.set_cons_succ])
  refine wpAnyH_take (i := 22) (oi := _) (v := ?_) rfl (by kernel_rfl) (by kernel_rfl) (by kernel_rfl) (fun _ _ _ h => h) (Or.inl ⟨by rfl, ?_⟩) (by assumption) ?_
  rotate_left
  · (intro w hSw; (try dsimp only at hSw); go_simp)
    all_goals (with_reducible rfl)
  (try simp only [List.getElem_toArray, List.getElem_cons_zero, List.getElem_cons_succ, Act.put, List.setIfInBounds_toArray, List.set_cons_zero, List.set_cons_succ])
  refine wpAnyH_take (i := 23) (oi := _) (v := ?_) rfl (by kernel_rfl) (by kernel_rfl) (by kernel_rfl) (fun _ _ _ h => h) (Or.inl ⟨by rfl, ?_⟩) (by assumption) ?_
  rotate_left
  · (intro w hSw; (try dsimp only at hSw); go_simp)
    all_goals (with_reducible rfl)
  (try simp only [List.getElem_toArray, List.getElem_cons_zero, List.getElem_cons_succ, Act.put, List.setIfInBounds_toArray, List.set_cons_zero, List.set_cons_succ])
  refine wpAnyH_take (i := 25) (oi := _) (v := ?_) rfl (by kernel_rfl) (by kernel_rfl) (by kernel_rfl) (fun _ _ _ h => h) (Or.inl ⟨by rfl, ?_⟩) (by assumption) ?_
  rotate_left
  · (intro w hSw; (try dsimp only at hSw); go_simp)
    all_goals (with_reducible rfl)
  (try simp only [List.getElem_toArray, List.getElem_cons_zero, List.getElem_cons_succ, Act.put, List.setIfInBounds_toArray, List.set_cons_zero, List.set_cons_succ])
  refine wpAnyH_ready (rs := [24]) (by kernel_rfl) (by simp) ?_
  refine AllReadyH.cons rfl (fun K hK => ?_) AllReadyH.nil
  go_simp
  (go_at_call 12; (with_reducible refine (HCO.out _).mono ?_); rintro e w' ⟨rfl, rfl⟩)
  go_wp2_with fail
  refine hK.out _ _ ?_ (fun hHeld => ?_)
  · (try dsimp only)
    exact heldQ _ (by first | exact (Below.refl _ _).drew | exact ((Below.refl _ _).drew).alloc (by simp) _)
  clear hK K
  (try simp only [List.getElem_toArray, List.getElem_cons_zero, List.getElem_cons_succ, Act.put, List.setIfInBounds_toArray, List.set_cons_zero, List.set_cons_succ])
  refine wpAnyH_take (i := 26) (oi := _) (v := ?_) rfl (by kernel_rfl) (by kernel_rfl) (by kernel_rfl) (fun _ _ _ h => h) (Or.inl ⟨by rfl, ?_⟩) (by assumption) ?_
  rotate_left
  · (intro w hSw; (try dsimp only at hSw); go_simp)
    all_goals (with_reducible rfl)
  (try simp only [List.getElem_toArray, List.getElem_cons_zero, List.getElem_cons_succ, Act.put, List.setIfInBounds_toArray, List.set_cons_zero, List.set_cons_succ])
  refine wpAnyH_take (i := 27) (oi := _) (v := ?_) rfl (by kernel_rfl) (by kernel_rfl) (by kernel_rfl) (fun _ _ _ h => h) (Or.inl ⟨by rfl, ?_⟩) (by assumption) ?_
  rotate_left
  · (intro w hSw; (try dsimp only at hSw); go_simp)
    all_goals (with_reducible rfl)
  (try simp only [List.getElem_toArray, List.getElem_cons_zero, List.getElem_cons_succ, Act.put, List.setIfInBounds_toArray, List.set_cons_zero, List.set_cons_succ])
  refine wpAnyH_ready (rs := [28]) (by kernel_rfl) (by simp) ?_
  refine AllReadyH.cons rfl (fun K hK => ?_) AllReadyH.nil
  go_simp
  refine hK.out _ _ ?_ (fun hHeld => ?_)
  · (try dsimp only)
    exact heldQ _ (by first | exact (Below.refl _ _).drew | exact ((Below.refl _ _).drew).alloc (by simp) _)
  clear hK K
  (try simp only [List.getElem_toArray, List.getElem_cons_zero, List.getElem_cons_succ, Act.put, List.setIfInBounds_toArray, List.set_cons_zero, List.set_cons_succ])
  refine wpAnyH_take (i := 29) (oi := _) (v := ?_) rfl (by kernel_rfl) (by kernel_rfl) (by kernel_rfl) (fun _ _ _ h => h) (Or.inl ⟨by rfl, ?_⟩) (by assumption) ?_
  rotate_left
  · (intro w hSw; (try dsimp only at hSw); go_simp)
    all_goals (with_reducible rfl)
  (try simp only [List.getElem_toArray, List.getElem_cons_zero, List.getElem_cons_succ, Act.put, List.setIfInBounds_toArray, List.set_cons_zero, List.set_cons_succ])
  refine wpAnyH_take (i := 30) (oi := _) (v := ?_) rfl (by kernel_rfl) (by kernel_rfl) (by kernel_rfl) (fun _ _ _ h => h) (Or.inl ⟨by rfl, ?_⟩) (by assumption) ?_
  rotate_left
  · (intro w hSw; (try dsimp only at hSw); go_simp)
    all_goals (with_reducible rfl)
  (try simp only [List.getElem_toArray, List.getElem_cons_zero, List.getElem_cons_succ, Act.put, List.setIfInBounds_toArray, List.set_cons_zero, List.set_cons_succ])
  refine wpAnyH_ready (rs := [31]) (by kernel_rfl) (by simp) ?_
  refine AllReadyH.cons rfl (fun K hK => ?_) AllReadyH.nil
  go_simp
  refine hK.out _ _ ?_ (fun hHeld => ?_)
  · (try dsimp only)
    exact heldQ _ (by first | exact (Below.refl _ _).drew | exact ((Below.refl _ _).drew).alloc (by simp) _)
  clear hK K
  (try simp only [List.getElem_toArray, List.getElem_cons_zero, List.getElem_cons_succ, Act.put, List.setIfInBounds_toArray, List.set_cons_zero, List.set_cons_succ])
  refine wpAnyH_done (by kernel_rfl) ?_ _
  go_wp2_with fail
  go_ret
  exact ⟨rfl, by go_grown⟩
theorem walk (W : World) (hL : Tbs W) (a : Int) (wa : (Lit.int .i64 a).wf = true) (b : Int) (wb : (Lit.int .i64 b).wf = true) (s : ByteArray) (ws : s.size ≤ maxLen) (c : Int) (wc : (Lit.int .i64 c).wf = true) (d : Int) (wd : (Lit.int .i64 d).wf = true) :
    Calls Tryd.prog 6 #[.int .i64 a, .int .i64 b, .string s, .int .i64 c, .int .i64 d] W fun e w' => e = .returned (.bool true) ∧ Below W.heap.size W w' := by
  have h1 := fun w => pck_any d 4 w (rn_of wd) (by omega) (by omega)
  obtain ⟨p1, p2⟩ := pck_in d 4 (by omega)
  have hi : pck d 4 = 0 ∨ pck d 4 = 1 ∨ pck d 4 = 2 ∨ pck d 4 = 3 := by omega
  rcases hi with hi | hi | hi | hi
  all_goals rw [hi] at h1
  · exact case0 W hL a b c s d (rn_of wa) (rn_of wb) (rn_of wc) ws h1
  · exact case1 W hL a b c s d (rn_of wa) (rn_of wb) (rn_of wc) ws h1
  · exact case2 W hL a b c s d (rn_of wa) (rn_of wb) (rn_of wc) ws h1
  · exact case3 W hL a b c s d (rn_of wa) (rn_of wb) (rn_of wc) ws h1

set_option maxRecDepth 100000 in
theorem lifted (os : Os) (started : os.Started) (H : Type) (enc : TypeId × Value → H) :
    ReturnsInHanded {} Tryd.checked os 6 .any (fun w args => (Rows.evalColumnSpec.pre enc Tryd.prog Tryd.f6 [] false w args ∧ laidX w) ∧ sizedMet enc Tryd.prog Tryd.f6 (OpenSpec.ofChange Rows.evalColumnSpec) false w args) (Rows.evalColumnSpec.post enc Tryd.prog Tryd.f6 false true false false) := by
  refine returnsInHanded_of_change_and (C := Tryd.checked) (X := fun w _ => laidX w) (fun _ _ _ hh h => h.of_heap hh) Tryd.own started (by kernel_rfl) Tryd.func6
    (ChangeSpec.witness_at (enc := enc) (C := Tryd.checked) (os := os) (X := fun w _ => laidX w) false (tabledX os) #[.int .i64 0, .int .i64 0, .string ⟨#[]⟩, .int .i64 0, .int .i64 0] 8 rfl (by kernel_rfl) (by kernel_rfl) (by kernel_rfl) (by kernel_rfl) (by kernel_rfl) (tabledX_laidX os _)) ?_
  intro W base args ds gs before hval0 hW hcnd hsz0 hL _
  have hsz : (DataW.weightsEach Tryd.prog (Tryd.f6.params.toList ++ Rows.evalColumnSpec.plain.varTypes Tryd.prog) (ds ++ gs)).all (· ≤ reachBytes) = true := hsz0
  have hval : ∀ (j : Nat) t v, Tryd.f6.params[j]? = some t → args[j]? = some v → Value.okWide Tryd.prog W .any base t v := hval0
  have hW' := hW
  obtain ⟨p, q, hA0, hV, rfl, hfz, hnd⟩ := hW
  have hA : DataW.TrodAll enc Tryd.prog W 0 (fun _ => true) true Tryd.f6.params.toList args.toList ds p := hA0
  rw [Tryd.params6] at hA hval hsz
  obtain ⟨v0, v1, v2, v3, v4, d0, d1, d2, d3, d4, p0, p1, p2, p3, p4, rfl, rfl, rfl, h0, h1, h2, h3, h4⟩ := trodAll_five hA
  obtain ⟨rfl, rfl⟩ := trodVars_none hV
  obtain ⟨a0, rfl, rfl, rfl, w0⟩ := open_int Tryd.underlying3 (hval 0 3 v0 rfl rfl) h0
  obtain ⟨a1, rfl, rfl, rfl, w1⟩ := open_int Tryd.underlying3 (hval 1 3 v1 rfl rfl) h1
  obtain ⟨t2, rfl, rfl, rfl, ws2⟩ := open_string Tryd.underlying9 (hval 2 9 v2 rfl rfl) h2
  obtain ⟨a3, rfl, rfl, rfl, w3⟩ := open_int Tryd.underlying3 (hval 3 3 v3 rfl rfl) h3
  obtain ⟨a4, rfl, rfl, rfl, w4⟩ := open_int Tryd.underlying3 (hval 4 3 v4 rfl rfl) h4
  clear hA0 hval0
  refine (walk W (X_of hL) a0 w0 a1 w1 t2 ws2 a3 w3 a4 w4).mono fun e W' ⟨he, hg⟩ => ?_
  subst he
  exact ⟨_, rfl, law_post (tb := 4) Tryd.laidOut (by kernel_rfl) (by kernel_rfl) Tryd.underlying4 rfl hW' hg rfl rfl rfl⟩

theorem bare : Rows.EvalColumnSaid :=
  OpenClaim.holds_of_wide 6 Tryd.f6 rfl rfl rfl rfl rfl rfl rfl ⟨rfl, rfl, rfl, rfl, rfl⟩ rfl rfl rfl rfl rfl (by kernel_rfl) Tryd.func6 (by kernel_rfl)
    (of_decide_eq_true (by kernel_rfl)) (by unfold Func.isWrapper; first | (rw [if_pos (by decide +kernel)]; kernel_rfl) | (rw [if_neg (by decide +kernel)]; exact ⟨rfl, rfl⟩))
    (fun os started H enc _ => lifted os started H enc)
/-- The card: the row's one listed variable is tied to the program's text. -/
theorem proved : Rows.EvalColumnCardSaid :=
  Claim7.holds_tied_plain_at .later [] [.data, .data, .data, .data, .data, .data] true _ false bare (fun _ h => by cases h) (by kernel_rfl) (fun _ h => by cases h) evalColumn_row_tie rfl ⟨rfl, rfl⟩ (by kernel_rfl) rfl
    (fun f fn hf hfn => by
      obtain rfl : f = 6 := Option.some.inj ((show Tryd.prog.funcNamed "padlock/padlockkeep.EvalColumn" = some 6 by kernel_rfl).symm.trans hf) |>.symm
      obtain rfl : fn = Tryd.f6 := (Option.some.inj (Tryd.func6.symm.trans hfn)).symm
      refine ⟨by kernel_rfl, fun j t ht => ?_⟩
      rw [Tryd.params6] at ht
      rcases j with _ | _ | _ | _ | _ | j <;> simp at ht <;> subst ht <;> kernel_rfl)
    (by kernel_rfl)
#print axioms proved
end Go.Proofs.YtfbmnkkpbcdjfaaDoor.lEvalColumn

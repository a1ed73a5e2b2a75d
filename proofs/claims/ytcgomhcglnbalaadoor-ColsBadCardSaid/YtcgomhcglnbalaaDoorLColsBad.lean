/- Columns have names that differ, and kinds that there are; one is there at least. The row lists the program's tables of marks, of words that are kept, of what each op works on, and of the words of kinds, constants and signs; the card ties them to the program's text. -/
import Derived.Test.YtcgomhcglnbalaaDoorQz
import Derived.Test.YtcgomhcglnbalaaDoorQo
import Derived.Test.YtcgomhcglnbalaaDoorQl
import Derived.Test.YtcgomhcglnbalaaDoorKp
namespace Go.Proofs.YtcgomhcglnbalaaDoor.lColsBad
open Go.ChangeShapes Go.WideShapes Go.ChangeAt Go.RowKit Go.Joins
open Go.ChangeMaps (open_string shut_string)
set_option linter.unusedVariables false
set_option linter.unusedSimpArgs false
set_option maxHeartbeats 400000

set_option maxHeartbeats 2000000
set_option maxRecDepth 100000
theorem rd_c4 (w : World) (t1 t2 t3 t4 : ByteArray) (k1 k2 k3 k4 : Int) (B : Nat) (hB : w.heap.size = B) : Rd (w.alloc (.cells #[.string t1, .int .i64 k1, .string t2, .int .i64 k2, .string t3, .int .i64 k3, .string t4, .int .i64 k4] 30)) 2 4 (.slice (some ⟨B, 0, none⟩) 4 4) (ccs [⟨t1, k1⟩, ⟨t2, k2⟩, ⟨t3, k3⟩, ⟨t4, k4⟩]) := by
  subst hB
  exact Rd.own (World.ownsRow_lit (base := w.heap.size) w #[.string t1, .int .i64 k1, .string t2, .int .i64 k2, .string t3, .int .i64 k3, .string t4, .int .i64 k4] 4 (Nat.le_refl _) (by unfold maxLen; omega) rfl)
theorem colsOf_any (w : World) : Calls Tryd.prog 10 #[] w fun e w' => e = .returned (.slice (some ⟨w.heap.size, 0, none⟩) 4 4) ∧ w' = w.alloc (.cells #[.string ⟨#[105, 100]⟩, .int .i64 2, .string ⟨#[110]⟩, .int .i64 2, .string ⟨#[115]⟩, .int .i64 3, .string ⟨#[98]⟩, .int .i64 1] 30) := by
  go_enter Tryd.func10, Tryd.ntmps10
  go_wp2
  go_ret
  exact ⟨rfl, rfl⟩
theorem kind_bad (w : World) (hT : Tbs w) (n : Nat) (v ops : Value) (l : List Cq) (e0 : Int) (hr : Rd w 2 n v (ccs l)) (hs : ∀ c ∈ l, c.t.size ≤ maxLen) (he : colsF l = e0) (h0 : e0 ≠ 0) :
    Calls Tryd.prog 12 #[v, ops] w fun e w' => e = .returned (.tuple #[.int .i64 0, .int .i64 e0]) ∧ Below w.heap.size w w' := by
  obtain ⟨ao, cap, rfl⟩ : ∃ ao cap, v = .slice ao n cap := by
    obtain ⟨_, ao, cap, h, _⟩ := id hr
    exact ⟨ao, cap, h⟩
  have hb : Below w.heap.size w (w.alloc (.cells #[.slice ao n cap] 22)) := (Below.refl _ _).alloc (Nat.le_refl _) _
  have hc := cols_any _ (hT.below hb) n _ l (hr.below hb) hs
  rw [he] at hc
  have HC := Lib.hid hc
  have HB := Lib.hid hb
  have h0' : (e0 == 0) = false := by simpa using h0
  clear hc hb hr hs hT he
  go_enter Tryd.func12, Tryd.ntmps12
  go_wp2_with fail
  refine HC.out.mono ?_
  rintro e w1 ⟨rfl, hb1⟩
  have HB1 := Lib.hid (into HB.out hb1)
  clear hb1
  go_wp2_with fail
  go_returns
  exact ⟨rfl, HB1.out⟩
theorem c4_ok : colsF [⟨⟨#[105, 100]⟩, 2⟩, ⟨⟨#[110]⟩, 2⟩, ⟨⟨#[115]⟩, 3⟩, ⟨⟨#[98]⟩, 1⟩] = 0 := by decide +kernel
theorem small4 {l : List Cq} (h : ∀ c ∈ l, c.t.size ≤ 8) : ∀ c ∈ l, c.t.size ≤ maxLen := fun c hc => by
  have := h c hc
  unfold maxLen
  omega
theorem bad_case (W : World) (hL : Tbs W) (a b : Int) (i wh : Int) (t1 t2 t3 t4 : ByteArray) (k1 k2 k3 k4 want : Int) (hF : colsF [⟨t1, k1⟩, ⟨t2, k2⟩, ⟨t3, k3⟩, ⟨t4, k4⟩] = want) (hw : want ≠ 0) (hs : ∀ c ∈ ([⟨t1, k1⟩, ⟨t2, k2⟩, ⟨t3, k3⟩, ⟨t4, k4⟩] : List Cq), c.t.size ≤ 8)
    (h1 : ∀ w, Calls Tryd.prog 11 #[.int .i64 a, .int .i64 4] w fun e w' => e = .returned (.int .i64 i) ∧ w = w') (h2 : ∀ w, Calls Tryd.prog 11 #[.int .i64 b, .int .i64 3] w fun e w' => e = .returned (.int .i64 wh) ∧ w = w')
    (hc : (i = 0 ∧ wh = 0 ∧ t1 = ⟨#[105, 100]⟩ ∧ t2 = ⟨#[110]⟩ ∧ t3 = ⟨#[115]⟩ ∧ t4 = ⟨#[98]⟩ ∧ k1 = 0 ∧ k2 = 2 ∧ k3 = 3 ∧ k4 = 1 ∧ want = 2) ∨ (i = 1 ∧ wh = 0 ∧ t1 = ⟨#[105, 100]⟩ ∧ t2 = ⟨#[110]⟩ ∧ t3 = ⟨#[115]⟩ ∧ t4 = ⟨#[98]⟩ ∧ k1 = 2 ∧ k2 = 0 ∧ k3 = 3 ∧ k4 = 1 ∧ want = 2) ∨ (i = 2 ∧ wh = 0 ∧ t1 = ⟨#[105, 100]⟩ ∧ t2 = ⟨#[110]⟩ ∧ t3 = ⟨#[115]⟩ ∧ t4 = ⟨#[98]⟩ ∧ k1 = 2 ∧ k2 = 2 ∧ k3 = 0 ∧ k4 = 1 ∧ want = 2) ∨ (i = 3 ∧ wh = 0 ∧ t1 = ⟨#[105, 100]⟩ ∧ t2 = ⟨#[110]⟩ ∧ t3 = ⟨#[115]⟩ ∧ t4 = ⟨#[98]⟩ ∧ k1 = 2 ∧ k2 = 2 ∧ k3 = 3 ∧ k4 = 0 ∧ want = 2) ∨ (i = 0 ∧ wh = 1 ∧ t1 = ⟨#[110]⟩ ∧ t2 = ⟨#[110]⟩ ∧ t3 = ⟨#[115]⟩ ∧ t4 = ⟨#[98]⟩ ∧ k1 = 2 ∧ k2 = 2 ∧ k3 = 3 ∧ k4 = 1 ∧ want = 9) ∨ (i = 1 ∧ wh = 1 ∧ t1 = ⟨#[105, 100]⟩ ∧ t2 = ⟨#[115]⟩ ∧ t3 = ⟨#[115]⟩ ∧ t4 = ⟨#[98]⟩ ∧ k1 = 2 ∧ k2 = 2 ∧ k3 = 3 ∧ k4 = 1 ∧ want = 9) ∨ (i = 2 ∧ wh = 1 ∧ t1 = ⟨#[105, 100]⟩ ∧ t2 = ⟨#[110]⟩ ∧ t3 = ⟨#[98]⟩ ∧ t4 = ⟨#[98]⟩ ∧ k1 = 2 ∧ k2 = 2 ∧ k3 = 3 ∧ k4 = 1 ∧ want = 9) ∨ (i = 3 ∧ wh = 1 ∧ t1 = ⟨#[105, 100]⟩ ∧ t2 = ⟨#[110]⟩ ∧ t3 = ⟨#[115]⟩ ∧ t4 = ⟨#[105, 100]⟩ ∧ k1 = 2 ∧ k2 = 2 ∧ k3 = 3 ∧ k4 = 1 ∧ want = 9) ∨ (i = 0 ∧ wh = 2 ∧ t1 = ⟨#[83, 69, 76, 69, 67, 84]⟩ ∧ t2 = ⟨#[110]⟩ ∧ t3 = ⟨#[115]⟩ ∧ t4 = ⟨#[98]⟩ ∧ k1 = 2 ∧ k2 = 2 ∧ k3 = 3 ∧ k4 = 1 ∧ want = 6) ∨ (i = 1 ∧ wh = 2 ∧ t1 = ⟨#[105, 100]⟩ ∧ t2 = ⟨#[83, 69, 76, 69, 67, 84]⟩ ∧ t3 = ⟨#[115]⟩ ∧ t4 = ⟨#[98]⟩ ∧ k1 = 2 ∧ k2 = 2 ∧ k3 = 3 ∧ k4 = 1 ∧ want = 6) ∨ (i = 2 ∧ wh = 2 ∧ t1 = ⟨#[105, 100]⟩ ∧ t2 = ⟨#[110]⟩ ∧ t3 = ⟨#[83, 69, 76, 69, 67, 84]⟩ ∧ t4 = ⟨#[98]⟩ ∧ k1 = 2 ∧ k2 = 2 ∧ k3 = 3 ∧ k4 = 1 ∧ want = 6) ∨ (i = 3 ∧ wh = 2 ∧ t1 = ⟨#[105, 100]⟩ ∧ t2 = ⟨#[110]⟩ ∧ t3 = ⟨#[115]⟩ ∧ t4 = ⟨#[83, 69, 76, 69, 67, 84]⟩ ∧ k1 = 2 ∧ k2 = 2 ∧ k3 = 3 ∧ k4 = 1 ∧ want = 6)) :
    Calls Tryd.prog 4 #[.int .i64 a, .int .i64 b] W fun e w' => e = .returned (.bool true) ∧ Below W.heap.size W w' := by
  have H1 := Lib.hid h1
  have H2 := Lib.hid h2
  have HK := Lib.hid (fun (w : World) (ops : Value) (B : Nat) (hB : Below W.heap.size W w) (hr : Rd w 2 4 (.slice (some ⟨B, 0, none⟩) 4 4) (ccs [⟨t1, k1⟩, ⟨t2, k2⟩, ⟨t3, k3⟩, ⟨t4, k4⟩])) => kind_bad w (hL.below hB) 4 _ ops _ want hr (small4 hs) hF hw)
  have hc4 := fun (w : World) (B : Nat) (hB : Below W.heap.size W w) (hr : Rd w 2 4 (.slice (some ⟨B, 0, none⟩) 4 4) (ccs [⟨t1, k1⟩, ⟨t2, k2⟩, ⟨t3, k3⟩, ⟨t4, k4⟩])) => cols_any w (hL.below hB) 4 _ _ hr (small4 hs)
  rw [hF] at hc4
  have HC := Lib.hid hc4
  have hcn := fun (w : World) (hB : Below W.heap.size W w) => cols_any w (hL.below hB) 0 (.slice none 0 0) [] (Rd.nil w 2) (by simp)
  rw [show colsF [] = 1 from rfl] at hcn
  have HN := Lib.hid hcn
  have hco := fun (w : World) (B : Nat) (hB : Below W.heap.size W w) (hr : Rd w 2 4 (.slice (some ⟨B, 0, none⟩) 4 4) (ccs [⟨⟨#[105, 100]⟩, 2⟩, ⟨⟨#[110]⟩, 2⟩, ⟨⟨#[115]⟩, 3⟩, ⟨⟨#[98]⟩, 1⟩])) => cols_any w (hL.below hB) 4 _ _ hr (small4 (by decide))
  rw [c4_ok] at hco
  have HO := Lib.hid hco
  have HCO := Lib.hid colsOf_any
  have HW := Lib.hid hw
  have HB0 : Hid (∀ (C D : Array Value) (T U : TypeId), Below W.heap.size W ((W.alloc (.cells C T)).alloc (.cells D U))) := fun C D T U => ((Below.refl _ _).alloc (Nat.le_refl _) _).alloc (by simp) _
  clear h1 h2 hc4 hcn hco hL hF hs hw
  rcases hc with ⟨rfl, rfl, rfl, rfl, rfl, rfl, rfl, rfl, rfl, rfl, rfl⟩ | ⟨rfl, rfl, rfl, rfl, rfl, rfl, rfl, rfl, rfl, rfl, rfl⟩ | ⟨rfl, rfl, rfl, rfl, rfl, rfl, rfl, rfl, rfl, rfl, rfl⟩ | ⟨rfl, rfl, rfl, rfl, rfl, rfl, rfl, rfl, rfl, rfl, rfl⟩ | ⟨rfl, rfl, rfl, rfl, rfl, rfl, rfl, rfl, rfl, rfl, rfl⟩ | ⟨rfl, rfl, rfl, rfl, rfl, rfl, rfl, rfl, rfl, rfl, rfl⟩ | ⟨rfl, rfl, rfl, rfl, rfl, rfl, rfl, rfl, rfl, rfl, rfl⟩ | ⟨rfl, rfl, rfl, rfl, rfl, rfl, rfl, rfl, rfl, rfl, rfl⟩ | ⟨rfl, rfl, rfl, rfl, rfl, rfl, rfl, rfl, rfl, rfl, rfl⟩ | ⟨rfl, rfl, rfl, rfl, rfl, rfl, rfl, rfl, rfl, rfl, rfl⟩ | ⟨rfl, rfl, rfl, rfl, rfl, rfl, rfl, rfl, rfl, rfl, rfl⟩ | ⟨rfl, rfl, rfl, rfl, rfl, rfl, rfl, rfl, rfl, rfl, rfl⟩
  all_goals (
    go_enter Tryd.func4, Tryd.ntmps4
    go_wp2_with (first | (go_at_call 10; ((with_reducible refine (HCO.out _).mono ?_); rintro e w' ⟨rfl, rfl⟩)) | (go_at_call 11; ((with_reducible refine (H1.out _).mono ?_); rintro e w' ⟨rfl, rfl⟩)) | (go_at_call 11; ((with_reducible refine (H2.out _).mono ?_); rintro e w' ⟨rfl, rfl⟩)))
    refine (HK.out _ _ W.heap.size (HB0.out _ _ _ _) (rd_alloc (rd_c4 W _ _ _ _ _ _ _ _ _ rfl) _)).mono ?_
    rintro e w1 ⟨rfl, hb1⟩
    have hB1 := into (HB0.out _ _ _ _) hb1
    have r1 := (rd_alloc (rd_c4 W _ _ _ _ _ _ _ _ _ rfl) _).below hb1
    have HB1 := Lib.hid hB1
    have HR1 := Lib.hid r1
    clear hb1 hB1 r1
    go_wp2_with fail
    refine (HC.out w1 W.heap.size HB1.out HR1.out).mono ?_
    rintro e w2 ⟨rfl, hb2⟩
    have HB2 := Lib.hid (into HB1.out hb2)
    clear hb2
    go_wp2_with fail
    refine (HN.out w2 HB2.out).mono ?_
    rintro e w3 ⟨rfl, hb3⟩
    have HB3 := Lib.hid (into HB2.out hb3)
    clear hb3
    go_wp2_with fail
    refine (HCO.out w3).mono ?_
    rintro e w4 ⟨rfl, rfl⟩
    have HB4 := Lib.hid (HB3.out.alloc HB3.out.size (.cells #[.string ⟨#[105, 100]⟩, .int .i64 2, .string ⟨#[110]⟩, .int .i64 2, .string ⟨#[115]⟩, .int .i64 3, .string ⟨#[98]⟩, .int .i64 1] 30))
    go_wp2_with fail
    refine (HO.out _ w3.heap.size HB4.out (rd_c4 w3 _ _ _ _ _ _ _ _ _ rfl)).mono ?_
    rintro e w5 ⟨rfl, hb5⟩
    have HB5 := Lib.hid (into HB4.out hb5)
    clear hb5
    go_wp2_with fail
    go_ret
    exact ⟨rfl, HB5.out⟩)
theorem walk (W : World) (hL : Tbs W) (a : Int) (wa : (Lit.int .i64 a).wf = true) (b : Int) (wb : (Lit.int .i64 b).wf = true) :
    Calls Tryd.prog 4 #[.int .i64 a, .int .i64 b] W fun e w' => e = .returned (.bool true) ∧ Below W.heap.size W w' := by
  have h1 := fun w => pck_any a 4 w (rn_of wa) (by omega) (by omega)
  have h2 := fun w => pck_any b 3 w (rn_of wb) (by omega) (by omega)
  obtain ⟨p1, p2⟩ := pck_in a 4 (by omega)
  obtain ⟨q1, q2⟩ := pck_in b 3 (by omega)
  have hi : pck a 4 = 0 ∨ pck a 4 = 1 ∨ pck a 4 = 2 ∨ pck a 4 = 3 := by omega
  have hw : pck b 3 = 0 ∨ pck b 3 = 1 ∨ pck b 3 = 2 := by omega
  rcases hw with hw | hw | hw <;> rcases hi with hi | hi | hi | hi
  · exact bad_case W hL a b _ _ ⟨#[105, 100]⟩ ⟨#[110]⟩ ⟨#[115]⟩ ⟨#[98]⟩ 0 2 3 1 2 (by decide +kernel) (by decide) (by decide) h1 h2 (.inl ⟨hi, hw, rfl, rfl, rfl, rfl, rfl, rfl, rfl, rfl, rfl⟩)
  · exact bad_case W hL a b _ _ ⟨#[105, 100]⟩ ⟨#[110]⟩ ⟨#[115]⟩ ⟨#[98]⟩ 2 0 3 1 2 (by decide +kernel) (by decide) (by decide) h1 h2 (.inr (.inl ⟨hi, hw, rfl, rfl, rfl, rfl, rfl, rfl, rfl, rfl, rfl⟩))
  · exact bad_case W hL a b _ _ ⟨#[105, 100]⟩ ⟨#[110]⟩ ⟨#[115]⟩ ⟨#[98]⟩ 2 2 0 1 2 (by decide +kernel) (by decide) (by decide) h1 h2 (.inr (.inr (.inl ⟨hi, hw, rfl, rfl, rfl, rfl, rfl, rfl, rfl, rfl, rfl⟩)))
  · exact bad_case W hL a b _ _ ⟨#[105, 100]⟩ ⟨#[110]⟩ ⟨#[115]⟩ ⟨#[98]⟩ 2 2 3 0 2 (by decide +kernel) (by decide) (by decide) h1 h2 (.inr (.inr (.inr (.inl ⟨hi, hw, rfl, rfl, rfl, rfl, rfl, rfl, rfl, rfl, rfl⟩))))
  · exact bad_case W hL a b _ _ ⟨#[110]⟩ ⟨#[110]⟩ ⟨#[115]⟩ ⟨#[98]⟩ 2 2 3 1 9 (by decide +kernel) (by decide) (by decide) h1 h2 (.inr (.inr (.inr (.inr (.inl ⟨hi, hw, rfl, rfl, rfl, rfl, rfl, rfl, rfl, rfl, rfl⟩)))))
  · exact bad_case W hL a b _ _ ⟨#[105, 100]⟩ ⟨#[115]⟩ ⟨#[115]⟩ ⟨#[98]⟩ 2 2 3 1 9 (by decide +kernel) (by decide) (by decide) h1 h2 (.inr (.inr (.inr (.inr (.inr (.inl ⟨hi, hw, rfl, rfl, rfl, rfl, rfl, rfl, rfl, rfl, rfl⟩))))))
  · exact bad_case W hL a b _ _ ⟨#[105, 100]⟩ ⟨#[110]⟩ ⟨#[98]⟩ ⟨#[98]⟩ 2 2 3 1 9 (by decide +kernel) (by decide) (by decide) h1 h2 (.inr (.inr (.inr (.inr (.inr (.inr (.inl ⟨hi, hw, rfl, rfl, rfl, rfl, rfl, rfl, rfl, rfl, rfl⟩)))))))
  · exact bad_case W hL a b _ _ ⟨#[105, 100]⟩ ⟨#[110]⟩ ⟨#[115]⟩ ⟨#[105, 100]⟩ 2 2 3 1 9 (by decide +kernel) (by decide) (by decide) h1 h2 (.inr (.inr (.inr (.inr (.inr (.inr (.inr (.inl ⟨hi, hw, rfl, rfl, rfl, rfl, rfl, rfl, rfl, rfl, rfl⟩))))))))
  · exact bad_case W hL a b _ _ ⟨#[83, 69, 76, 69, 67, 84]⟩ ⟨#[110]⟩ ⟨#[115]⟩ ⟨#[98]⟩ 2 2 3 1 6 (by decide +kernel) (by decide) (by decide) h1 h2 (.inr (.inr (.inr (.inr (.inr (.inr (.inr (.inr (.inl ⟨hi, hw, rfl, rfl, rfl, rfl, rfl, rfl, rfl, rfl, rfl⟩)))))))))
  · exact bad_case W hL a b _ _ ⟨#[105, 100]⟩ ⟨#[83, 69, 76, 69, 67, 84]⟩ ⟨#[115]⟩ ⟨#[98]⟩ 2 2 3 1 6 (by decide +kernel) (by decide) (by decide) h1 h2 (.inr (.inr (.inr (.inr (.inr (.inr (.inr (.inr (.inr (.inl ⟨hi, hw, rfl, rfl, rfl, rfl, rfl, rfl, rfl, rfl, rfl⟩))))))))))
  · exact bad_case W hL a b _ _ ⟨#[105, 100]⟩ ⟨#[110]⟩ ⟨#[83, 69, 76, 69, 67, 84]⟩ ⟨#[98]⟩ 2 2 3 1 6 (by decide +kernel) (by decide) (by decide) h1 h2 (.inr (.inr (.inr (.inr (.inr (.inr (.inr (.inr (.inr (.inr (.inl ⟨hi, hw, rfl, rfl, rfl, rfl, rfl, rfl, rfl, rfl, rfl⟩)))))))))))
  · exact bad_case W hL a b _ _ ⟨#[105, 100]⟩ ⟨#[110]⟩ ⟨#[115]⟩ ⟨#[83, 69, 76, 69, 67, 84]⟩ 2 2 3 1 6 (by decide +kernel) (by decide) (by decide) h1 h2 (.inr (.inr (.inr (.inr (.inr (.inr (.inr (.inr (.inr (.inr (.inr ⟨hi, hw, rfl, rfl, rfl, rfl, rfl, rfl, rfl, rfl, rfl⟩)))))))))))

set_option maxRecDepth 100000 in
theorem lifted (os : Os) (started : os.Started) (H : Type) (enc : TypeId × Value → H) :
    ReturnsInHanded {} Tryd.checked os 4 .any (fun w args => (Rows.colsBadSpec.pre enc Tryd.prog Tryd.f4 [] false w args ∧ laidX w) ∧ sizedMet enc Tryd.prog Tryd.f4 (OpenSpec.ofChange Rows.colsBadSpec) false w args) (Rows.colsBadSpec.post enc Tryd.prog Tryd.f4 false true false false) := by
  refine returnsInHanded_of_change_and (C := Tryd.checked) (X := fun w _ => laidX w) (fun _ _ _ hh h => h.of_heap hh) Tryd.own started (by kernel_rfl) Tryd.func4
    (ChangeSpec.witness_at (enc := enc) (C := Tryd.checked) (os := os) (X := fun w _ => laidX w) false (tabledX os) #[.int .i64 0, .int .i64 0] 8 rfl (by kernel_rfl) (by kernel_rfl) (by kernel_rfl) (by kernel_rfl) (by kernel_rfl) (tabledX_laidX os _)) ?_
  intro W base args ds gs before hval0 hW hcnd hsz0 hL _
  have hsz : (DataW.weightsEach Tryd.prog (Tryd.f4.params.toList ++ Rows.colsBadSpec.plain.varTypes Tryd.prog) (ds ++ gs)).all (· ≤ reachBytes) = true := hsz0
  have hval : ∀ (j : Nat) t v, Tryd.f4.params[j]? = some t → args[j]? = some v → Value.okWide Tryd.prog W .any base t v := hval0
  have hW' := hW
  obtain ⟨p, q, hA0, hV, rfl, hfz, hnd⟩ := hW
  have hA : DataW.TrodAll enc Tryd.prog W 0 (fun _ => true) true Tryd.f4.params.toList args.toList ds p := hA0
  rw [Tryd.params4] at hA hval hsz
  obtain ⟨v0, v1, d0, d1, p0, p1, rfl, rfl, rfl, h0, h1⟩ := trodAll_two hA
  obtain ⟨rfl, rfl⟩ := trodVars_none hV
  obtain ⟨a0, rfl, rfl, rfl, w0⟩ := open_int Tryd.underlying3 (hval 0 3 v0 rfl rfl) h0
  obtain ⟨a1, rfl, rfl, rfl, w1⟩ := open_int Tryd.underlying3 (hval 1 3 v1 rfl rfl) h1
  clear hA0 hval0
  refine (walk W (X_of hL) a0 w0 a1 w1).mono fun e W' ⟨he, hg⟩ => ?_
  subst he
  exact ⟨_, rfl, law_post (tb := 4) Tryd.laidOut (by kernel_rfl) (by kernel_rfl) Tryd.underlying4 rfl hW' hg rfl rfl rfl⟩

theorem bare : Rows.ColsBadSaid :=
  OpenClaim.holds_of_wide 4 Tryd.f4 rfl rfl rfl rfl rfl rfl rfl ⟨rfl, rfl, rfl, rfl, rfl⟩ rfl rfl rfl rfl rfl (by kernel_rfl) Tryd.func4 (by kernel_rfl)
    (of_decide_eq_true (by kernel_rfl)) (by unfold Func.isWrapper; first | (rw [if_pos (by decide +kernel)]; kernel_rfl) | (rw [if_neg (by decide +kernel)]; exact ⟨rfl, rfl⟩))
    (fun os started H enc _ => lifted os started H enc)
/-- The card: the row's one listed variable is tied to the program's text. -/
theorem proved : Rows.ColsBadCardSaid :=
  Claim7.holds_tied_plain_at .later [] [.data, .data, .data, .data, .data, .data] true _ false bare (fun _ h => by cases h) (by kernel_rfl) (fun _ h => by cases h) colsBad_row_tie rfl ⟨rfl, rfl⟩ (by kernel_rfl) rfl
    (fun f fn hf hfn => by
      obtain rfl : f = 4 := Option.some.inj ((show Tryd.prog.funcNamed "padlock/padlockkeep.ColsBad" = some 4 by kernel_rfl).symm.trans hf) |>.symm
      obtain rfl : fn = Tryd.f4 := (Option.some.inj (Tryd.func4.symm.trans hfn)).symm
      refine ⟨by kernel_rfl, fun j t ht => ?_⟩
      rw [Tryd.params4] at ht
      rcases j with _ | _ | j <;> simp at ht <;> subst ht <;> kernel_rfl)
    (by kernel_rfl)
#print axioms proved
end Go.Proofs.YtcgomhcglnbalaaDoor.lColsBad

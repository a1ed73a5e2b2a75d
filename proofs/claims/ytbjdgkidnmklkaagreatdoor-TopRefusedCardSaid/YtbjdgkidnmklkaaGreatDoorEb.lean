/- session.check, where no script is read. -/
import Derived.Test.YtbjdgkidnmklkaaGreatDoorBg
import Derived.Test.YtbjdgkidnmklkaaGreatDoorBf
namespace Go.Proofs.YtbjdgkidnmklkaaGreatDoor
open Go.ChangeShapes Go.WideShapes Go.ChangeAt Go.RowKit
set_option linter.unusedVariables false
set_option linter.unusedSimpArgs false
set_option maxHeartbeats 2000000
set_option maxRecDepth 100000
theorem long_any (w : World) (a : Option Addr) (n c : Nat) (hn : n ≤ 1000) : Calls Tryz.prog 12 #[.slice a n c] w fun e w' => e = .returned (.bool (decide (20 < n))) ∧ w = w' := by
  go_enter Tryz.func12, Tryz.ntmps12
  go_wp2
  go_ret
  exact ⟨rb (by rw [Bool.eq_iff_iff]; simp; omega), rfl⟩
theorem none_yes (w : World) (B : Nat) (a : Option Addr) (n c : Nat) (x : Int) (h0 : 0 ≤ x) (hn : (n : Int) ≤ x) (hx : w.cell? ⟨B, 0, none⟩ = some (.slice a n c)) : Calls Tryz.prog 13 #[.int .i64 x, .pointer (some ⟨B, 0, none⟩)] w fun e w' => e = .returned (.bool true) ∧ w = w' := by
  go_enter Tryz.func13, Tryz.ntmps13
  go_wp2
  go_ret
  exact ⟨rfl, rfl⟩
/-- No script is too long. -/
theorem idxS_no (w : World) (b n : Nat) (hn : n ≤ 1000) (hc : ∀ j, j < n → ∃ (a : Option Addr) (m c : Nat), w.cell? ⟨b, j, none⟩ = some (.slice a m c) ∧ m ≤ 20) :
    Calls Tryz.prog 19 #[.slice (some ⟨b, 0, none⟩) n n, .func (.func 12) #[] #[]] w fun e w' => e = .returned (.int .i64 (-1)) ∧ w = w' := by
  have HC := Lib.hid hc
  clear hc
  go_enter Tryz.func19, Tryz.ntmps19
  go_wp2_with fail
  go_loop [8] (fun i => ∃ k : Nat, k ≤ n ∧ i = .int .i64 (k : Int)) (fun i => n - (intOf i).toNat)
  case atStart => exact ⟨0, by omega, rfl⟩
  case round =>
    obtain ⟨k, hk, rfl⟩ := hrel
    by_cases hlt : k < n
    · obtain ⟨a, m, c, g, hm⟩ := HC.out k hlt
      have hm' : decide (20 < m) = false := by simp; omega
      have HL := Lib.hid (fun w => long_any w a m c (by omega))
      go_wp2_with (go_at_call 12; ((with_reducible refine (HL.out _).mono ?_); rintro e w' ⟨rfl, rfl⟩))
      go_round
      case rel => exact ⟨k + 1, by omega, by go_num⟩
      case measure => simp [intOf]; omega
    · go_wp2_with fail
      go_ret
      exact ⟨rfl, rfl⟩
/-- The first script is too long. -/
theorem idxS_yes (w : World) (b n : Nat) (hn : n ≤ 1000) (h0 : 0 < n) (a : Option Addr) (m c : Nat) (g : w.cell? ⟨b, 0, none⟩ = some (.slice a m c)) (hm : 20 < m) (hm2 : m ≤ 1000) :
    Calls Tryz.prog 19 #[.slice (some ⟨b, 0, none⟩) n n, .func (.func 12) #[] #[]] w fun e w' => e = .returned (.int .i64 0) ∧ w = w' := by
  have hm' : decide (20 < m) = true := by simp; omega
  have HL := Lib.hid (fun w => long_any w a m c (by omega))
  have h0' : (0 : Int) < (n : Int) := by omega
  go_enter Tryz.func19, Tryz.ntmps19
  go_wp2_with fail
  go_loop [8] (fun i => i = .int .i64 0) (fun i => 0)
  case atStart => rfl
  case round =>
    subst hrel
    go_wp2_with (go_at_call 12; ((with_reducible refine (HL.out _).mono ?_); rintro e w' ⟨rfl, rfl⟩))
    go_ret
    exact ⟨rfl, rfl⟩
theorem idxI_nil (w : World) (B : Nat) : Calls Tryz.prog 20 #[.slice none 0 0, .func (.func 13) #[] #[.pointer (some ⟨B, 0, none⟩)]] w fun e w' => e = .returned (.int .i64 (-1)) ∧ w = w' := by
  go_enter Tryz.func20, Tryz.ntmps20
  go_wp2_with fail
  go_rounds 1
  go_ret
  exact ⟨rfl, rfl⟩
theorem idxI_yes (w : World) (B b : Nat) (a : Option Addr) (n c : Nat) (x : Int) (h0 : 0 ≤ x) (hn : (n : Int) ≤ x) (hx : w.cell? ⟨B, 0, none⟩ = some (.slice a n c)) (hp : w.cell? ⟨b, 0, none⟩ = some (.int .i64 x)) :
    Calls Tryz.prog 20 #[.slice (some ⟨b, 0, none⟩) 1 1, .func (.func 13) #[] #[.pointer (some ⟨B, 0, none⟩)]] w fun e w' => e = .returned (.int .i64 0) ∧ w = w' := by
  have HL := Lib.hid (none_yes w B a n c x h0 hn hx)
  clear hx
  go_enter Tryz.func20, Tryz.ntmps20
  go_wp2_with fail
  go_loop [8] (fun i => i = .int .i64 0) (fun i => 0)
  case atStart => rfl
  case round =>
    subst hrel
    go_wp2_with (go_at_call 13; ((with_reducible refine HL.out.mono ?_); rintro e w' ⟨rfl, rfl⟩))
    go_ret
    exact ⟨rfl, rfl⟩
/-- What a call of IndexFunc says, ContainsFunc says. -/
theorem hasS_any (w : World) (v f : Value) (r : Int) (q : Bool) (hq : decide (0 ≤ r) = q) (h : Calls Tryz.prog 19 #[v, f] w fun e w' => e = .returned (.int .i64 r) ∧ w = w') :
    Calls Tryz.prog 14 #[v, f] w fun e w' => e = .returned (.bool q) ∧ w = w' := by
  have H := Lib.hid h
  clear h
  go_enter Tryz.func14, Tryz.ntmps14
  go_wp2_with fail
  refine H.out.mono ?_
  rintro e w' ⟨rfl, rfl⟩
  go_wp2_with fail
  go_ret
  first | exact ⟨rfl, rfl⟩ | exact ⟨rb hq, rfl⟩
theorem hasI_any (w : World) (v f : Value) (r : Int) (q : Bool) (hq : decide (0 ≤ r) = q) (h : Calls Tryz.prog 20 #[v, f] w fun e w' => e = .returned (.int .i64 r) ∧ w = w') :
    Calls Tryz.prog 15 #[v, f] w fun e w' => e = .returned (.bool q) ∧ w = w' := by
  have H := Lib.hid h
  clear h
  go_enter Tryz.func15, Tryz.ntmps15
  go_wp2_with fail
  refine H.out.mono ?_
  rintro e w' ⟨rfl, rfl⟩
  go_wp2_with fail
  go_ret
  first | exact ⟨rfl, rfl⟩ | exact ⟨rb hq, rfl⟩
def ErrIs (r : Int) (w : World) (e : Ending) (w' : World) : Prop := e = .returned (.int .i64 r) ∧ Below w.heap.size w w'
/-- None, or too many. -/
theorem check_size (w : World) (a : Option Addr) (n c : Nat) (v : Value) (hn : n ≤ 1000) (h : n = 0 ∨ 4 < n) : Calls Tryz.prog 7 #[.slice a n c, v] w (ErrIs 1 w) := by
  by_cases h0 : n = 0
  · subst h0
    go_enter Tryz.func7, Tryz.ntmps7
    go_wp2_with fail
    go_ret
    exact ⟨rfl, by go_grown⟩
  · have h1 : ((n : Int) == 0) = false := by simpa using h0
    have h4 : (4 : Int) < (n : Int) := by omega
    have h4' : 4 < n := by omega
    go_enter Tryz.func7, Tryz.ntmps7
    go_wp2_with fail
    go_ret
    exact ⟨rfl, by go_grown⟩
theorem check_ok (w : World) (b n : Nat) (h1 : 1 ≤ n) (h4 : n ≤ 4) (hc : ∀ j, j < n → ∃ (a : Option Addr) (m c : Nat), w.cell? ⟨b, j, none⟩ = some (.slice a m c) ∧ m ≤ 20) : Calls Tryz.prog 7 #[.slice (some ⟨b, 0, none⟩) n n, .slice none 0 0] w (ErrIs 0 w) := by
  have e0 : ((n : Int) == 0) = false := by simp; omega
  have e4 : ¬ (4 : Int) < (n : Int) := by omega
  have e4' : ¬ 4 < n := by omega
  have HA := Lib.hid (fun (W : World) (hB : Below w.heap.size w W) => hasS_any W _ _ (-1) false rfl (idxS_no W b n (by omega) (fun j hj => by obtain ⟨a, m, c, g, hm⟩ := hc j hj; exact ⟨a, m, c, (hB.cell (lt_cell g)).trans g, hm⟩)))
  have HI := Lib.hid (fun (W : World) => hasI_any W _ _ (-1) false rfl (idxI_nil W w.heap.size))
  clear hc
  go_enter Tryz.func7, Tryz.ntmps7
  go_wp2_with (first | (go_at_call 14; ((with_reducible refine (HA.out _ (by go_grown)).mono ?_); rintro e w' ⟨rfl, rfl⟩)) | (go_at_call 15; ((with_reducible refine (HI.out _).mono ?_); rintro e w' ⟨rfl, rfl⟩)))
  go_ret
  exact ⟨rfl, by go_grown⟩
theorem check_long (w : World) (b : Nat) (a : Option Addr) (m c : Nat) (g : w.cell? ⟨b, 0, none⟩ = some (.slice a m c)) (hm : 20 < m) (hm2 : m ≤ 1000) : Calls Tryz.prog 7 #[.slice (some ⟨b, 0, none⟩) 1 1, .slice none 0 0] w (ErrIs 1 w) := by
  have HA := Lib.hid (fun (W : World) (hB : Below w.heap.size w W) => hasS_any W _ _ 0 true rfl (idxS_yes W b 1 (by omega) (by omega) a m c ((hB.cell (lt_cell g)).trans g) hm hm2))
  clear g
  go_enter Tryz.func7, Tryz.ntmps7
  go_wp2_with (go_at_call 14; ((with_reducible refine (HA.out _ (by go_grown)).mono ?_); rintro e w' ⟨rfl, rfl⟩))
  go_ret
  exact ⟨rfl, by go_grown⟩
theorem check_rng (w : World) (b pb : Nat) (a : Option Addr) (m c : Nat) (x : Int) (hx : 1 ≤ x) (g : w.cell? ⟨b, 0, none⟩ = some (.slice a m c)) (hm : m ≤ 20) (hp : w.cell? ⟨pb, 0, none⟩ = some (.int .i64 x)) : Calls Tryz.prog 7 #[.slice (some ⟨b, 0, none⟩) 1 1, .slice (some ⟨pb, 0, none⟩) 1 1] w (ErrIs 3 w) := by
  have HA := Lib.hid (fun (W : World) (hB : Below w.heap.size w W) => hasS_any W _ _ (-1) false rfl (idxS_no W b 1 (by omega) (fun j hj => by obtain rfl : j = 0 := (by omega); exact ⟨a, m, c, (hB.cell (lt_cell g)).trans g, hm⟩)))
  have HI := Lib.hid (fun (W : World) (hB : Below w.heap.size w W) (hbx : W.cell? ⟨w.heap.size, 0, none⟩ = some (.slice (some ⟨b, 0, none⟩) 1 1)) => hasI_any W _ _ 0 true rfl (idxI_yes W w.heap.size pb (some ⟨b, 0, none⟩) 1 1 x (by omega) (by omega) hbx ((hB.cell (lt_cell hp)).trans hp)))
  clear g hp
  go_enter Tryz.func7, Tryz.ntmps7
  go_wp2_with (first | (go_at_call 14; ((with_reducible refine (HA.out _ (by go_grown)).mono ?_); rintro e w' ⟨rfl, rfl⟩)) | (go_at_call 15; ((with_reducible refine (HI.out _ (by go_grown) (by go_simp)).mono ?_); rintro e w' ⟨rfl, rfl⟩)))
  go_ret
  exact ⟨rfl, by go_grown⟩
end Go.Proofs.YtbjdgkidnmklkaaGreatDoor

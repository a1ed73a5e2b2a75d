/- Keys compared, copied, asked for: the program's and the document's small functions. -/
import Derived.Test.YthoijpaoegojfaaHa
import Derived.Lib.Bytealg
import Derived.Laws.Externs
namespace Go.Proofs.Ythoijpaoegojfaa
open Go.ChangeShapes Go.WideShapes Go.ChangeAt Go.RowKit
set_option linter.unusedVariables false
set_option linter.unusedSimpArgs false
set_option maxHeartbeats 400000
/-- How two keys stand. -/
def cmpK (a b : Key) : Int := Lib.compareBytes a b
theorem cmpK_is : ∀ a b : Key, cmpK a b = if kl a b then -1 else if kl b a then 1 else 0
  | [], [] => rfl
  | [], _ :: _ => rfl
  | _ :: _, [] => rfl
  | a :: xs, b :: ys => by
    have ih := cmpK_is xs ys
    unfold cmpK kl at *
    simp only [Lib.compareBytes, Op.bytesLess]
    rw [ih]
    by_cases h : a < b
    · simp [h]
    · by_cases g : b < a
      · have hne : ¬ a = b := by rintro rfl; exact h g
        simp [h, g, hne]
      · have he : a = b := by
          rw [UInt8.lt_iff_toNat_lt] at h g
          exact UInt8.toNat_inj.1 (by omega)
        subst he
        simp [h]
theorem cmpK_lt (a b : Key) : cmpK a b < 0 ↔ kl a b = true := by
  rw [cmpK_is]
  by_cases h : kl a b = true <;> simp [h]
  split <;> omega
theorem cmpK_eq (a b : Key) : cmpK a b = 0 ↔ a = b := by
  rw [cmpK_is]
  by_cases h : kl a b = true
  · simp only [h, if_true]
    refine ⟨fun g => by omega, ?_⟩
    rintro rfl
    have := bl_irr a
    rw [show Op.bytesLess a a = kl a a from rfl, h] at this
    cases this
  · by_cases g : kl b a = true
    · simp only [h, g, if_true, Bool.false_eq_true, if_false]
      refine ⟨fun g => by omega, ?_⟩
      rintro rfl
      exact absurd g h
    · simp only [h, g, Bool.false_eq_true, if_false, true_iff]
      exact bl_tri a b (by simpa using h) (by simpa using g)
theorem cmpK_gt (a b : Key) : 0 < cmpK a b ↔ kl b a = true := by
  rw [cmpK_is]
  by_cases h : kl a b = true
  · simp [h, kl_not h]
  · by_cases g : kl b a = true <;> simp [h, g]
theorem cmpK_rng (a b : Key) : -1 ≤ cmpK a b ∧ cmpK a b ≤ 1 := by
  rw [cmpK_is]
  split
  · omega
  · split <;> omega
theorem run_loadB {w : World} : ∀ (l : List UInt8) (a : Addr) (acc : ByteArray), (∀ j u, (bc l)[j]? = some u → w.cell? (a.add j) = some u) →
    (Extern.Bytes.loadBytes a l.length acc).run Try.prog w = .ok ⟨acc.data ++ l.toArray⟩ w
  | [], a, acc, _ => by simp [Extern.Bytes.loadBytes]
  | b :: l, a, acc, h => by
    have h0 := h 0 (.int .u8 (b.toNat : Int)) (by simp [bc])
    rw [Addr.add_zero'] at h0
    have ih := run_loadB l (a.add 1) (acc.push b) (fun j u hu => by
      rw [Go.Deep.add_add, Nat.add_comm]
      exact h (j + 1) u (by simpa [bc] using hu))
    simp only [List.length_cons, Extern.Bytes.loadBytes, Sem.run_bind, run_load, h0, Result.andThen]
    have e : (b.toNat : Int).toNat.toUInt8 = b := by simp
    rw [e, ih]
    simp
theorem run_bytes {w : World} {v : Value} {l : List UInt8} (h : Rd w 1 l.length v (bc l)) : (Extern.Bytes.bytesOf v).run Try.prog w = .ok ⟨l.toArray⟩ w := by
  obtain ⟨h1, ao, cap, rfl, h3, h4, h5, h6⟩ := h
  cases ao with
  | none =>
    have := (h5 rfl).1
    have hl : l = [] := List.eq_nil_of_length_eq_zero this
    subst hl
    rfl
  | some a =>
    show (Extern.Bytes.loadBytes a l.length .empty).run Try.prog w = _
    rw [run_loadB l a .empty (h6 a rfl)]
    simp
theorem run_cmp {w : World} {u v : Value} {a b : Key} (hu : Rd w 1 a.length u (bc a)) (hv : Rd w 1 b.length v (bc b)) : (Extern.BytealgCompare.compare #[u, v]).run Try.prog w = .ok (.int .i64 (cmpK a b)) w := by
  change Sem.run Try.prog (do pure (goInt (Extern.BytealgCompare.cmp (← Extern.Bytes.bytesOf u) (← Extern.Bytes.bytesOf v)))) w = _
  simp only [Sem.run_bind, run_bytes hu, run_bytes hv, Sem.run_pure, Result.andThen]
  rw [Lib.cmp_eq]
  rfl
theorem cmp_any (w : World) (u v : Value) (a b : Key) (hu : Rd w 1 a.length u (bc a)) (hv : Rd w 1 b.length v (bc b)) :
    Calls Try.prog 56 #[u, v] w fun e w' => e = .returned (.int .i64 (cmpK a b)) ∧ w = w' := by
  have hr := run_cmp hu hv
  have HR := Lib.hid hr
  clear hr hu hv
  go_enter Try.func56, Try.ntmps56
  go_wp2
  rw [run_callFunc_extern Try.func77 (by kernel_rfl) (by kernel_rfl) (by kernel_rfl) (e := Extern.BytealgCompare.compare) (by kernel_rfl), HR.out]
  simp only [Result.andThen]
  rw [Oper.upon_value]
  go_wp2
  go_ret
  exact ⟨rfl, rfl⟩
theorem barr_eq {a b : List UInt8} : ((⟨a.toArray⟩ : ByteArray) = ⟨b.toArray⟩) ↔ a = b := by simp
theorem eql_any (w : World) (u v : Value) (a b : Key) (hu : Rd w 1 a.length u (bc a)) (hv : Rd w 1 b.length v (bc b)) :
    Calls Try.prog 57 #[u, v] w fun e w' => e = .returned (.bool (decide (a = b))) ∧ w = w' := by
  have h1 := str_of hu
  have h2 := str_of hv
  go_enter Try.func57, Try.ntmps57
  go_wp2
  go_ret
  refine ⟨rb ?_, rfl⟩
  rw [Bool.eq_iff_iff]
  simp
theorem same_any (w : World) (u v : Value) (a b : Key) (hu : Rd w 1 a.length u (bc a)) (hv : Rd w 1 b.length v (bc b)) :
    Calls Try.prog 48 #[u, v] w fun e w' => e = .returned (.bool (decide (a = b))) ∧ w = w' := by
  have h1 := str_of hu
  have h2 := str_of hv
  go_enter Try.func48, Try.ntmps48
  go_wp2
  go_ret
  refine ⟨rb ?_, rfl⟩
  rw [Bool.eq_iff_iff]
  simp
theorem bef_any (w : World) (u v : Value) (a b : Key) (hu : Rd w 1 a.length u (bc a)) (hv : Rd w 1 b.length v (bc b)) :
    Calls Try.prog 49 #[u, v] w fun e w' => e = .returned (.bool (kl a b)) ∧ w = w' := by
  have h1 := str_of hu
  have h2 := str_of hv
  go_enter Try.func49, Try.ntmps49
  go_wp2
  go_ret
  refine ⟨rb ?_, rfl⟩
  simp [kl, list_of]
/-- May a key be one? -/
def keyB (k : Key) : Bool := decide (1 ≤ k.length) && decide (k.length ≤ 100)
theorem keyB_iff (k : Key) : keyB k = true ↔ okK k := by simp [keyB, okK]
theorem in_any (w : World) (a b c : Int) : Calls Try.prog 46 #[.int .i64 a, .int .i64 b, .int .i64 c] w fun e w' => e = .returned (.bool (decide (b ≤ a) && decide (a ≤ c))) ∧ w = w' := by
  by_cases h : b ≤ a
  all_goals (
    go_enter Try.func46, Try.ntmps46
    go_wp2
    go_ret
    refine ⟨rb ?_, rfl⟩
    simp [h]
    try omega)
theorem keyMay_any (w : World) (u : Value) (k : Key) (hu : Rd w 1 k.length u (bc k)) :
    Calls Try.prog 73 #[u] w fun e w' => e = .returned (.bool (keyB k)) ∧ w = w' := by
  obtain ⟨_, ao, cap, rfl, h3, h4, _, _⟩ := hu
  unfold maxLen at h4
  go_enter Try.func73, Try.ntmps73
  go_wp2_with (go_at_call 46; refine (in_any _ _ _ _).mono ?_; rintro e w' ⟨rfl, rfl⟩)
  go_ret
  refine ⟨rb ?_, rfl⟩
  unfold keyB
  congr 1 <;> simp <;> omega
theorem isKey_any (w : World) (u : Value) (k : Key) (hu : Rd w 1 k.length u (bc k)) :
    Calls Try.prog 50 #[u] w fun e w' => e = .returned (.bool (keyB k)) ∧ w = w' := by
  obtain ⟨_, ao, cap, rfl, h3, h4, _, _⟩ := hu
  unfold maxLen at h4
  obtain ⟨n, hn⟩ : ∃ n, n = k.length := ⟨_, rfl⟩
  have he : keyB k = (decide (1 ≤ n) && decide (n ≤ 100)) := by rw [hn]; rfl
  rw [he, ← hn]
  rw [← hn] at h3
  clear he hn
  by_cases h : 1 ≤ n
  all_goals (
    have h' : (0 : Int) < (n : Int) ∨ ¬ (0 : Int) < (n : Int) := by omega
    go_enter Try.func50, Try.ntmps50
    go_wp2
    go_ret
    refine ⟨rb ?_, rfl⟩
    simp [h]
    try omega)
end Go.Proofs.Ythoijpaoegojfaa

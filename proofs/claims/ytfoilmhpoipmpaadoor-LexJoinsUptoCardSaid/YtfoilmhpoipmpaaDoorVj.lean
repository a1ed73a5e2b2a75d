/- The document's spelling of a number. -/
import Derived.Test.YtfoilmhpoipmpaaDoorVb
import Derived.Test.YtfoilmhpoipmpaaDoorSg
import Derived.Deep.RegionWith
namespace Go.Proofs.YtfoilmhpoipmpaaDoor
open Go.ChangeShapes Go.WideShapes Go.ChangeAt Go.RowKit
set_option linter.unusedVariables false
set_option linter.unusedSimpArgs false
set_option maxHeartbeats 1000000
theorem digit_rd (w : World) (d : Nat) (hd : d < 10) (t : TypeId) (x : Int) (hx : x = 48 + (d : Int)) : Rd (w.alloc (.cells #[.int .u8 x] t)) 1 1 (.slice (some ⟨w.heap.size, 0, none⟩) 1 1) (bc [UInt8.ofNat (48 + d)]) := by
  subst hx
  have e : bc [UInt8.ofNat (48 + d)] = [.int .u8 (48 + (d : Int))] := by
    have : (UInt8.ofNat (48 + d)).toNat = 48 + d := by simp; omega
    show [Value.int .u8 ((UInt8.ofNat (48 + d)).toNat : Int)] = _
    rw [this]
    simp
  rw [e]
  refine ⟨rfl, _, 1, rfl, Nat.le_refl _, by unfold maxLen; omega, (fun h => by cases h), fun ad had j u hu => ?_⟩
  obtain rfl := Option.some.inj had
  exact new_cells w [_] t j u hu
theorem digit_str (w : World) (d : Nat) (hd : d < 10) (t : TypeId) (x : Int) (hx : x = 48 + (d : Int)) : (convert 45 9 (.slice (some ⟨w.heap.size, 0, none⟩) 1 1)).run Tryd.prog (w.alloc (.cells #[.int .u8 x] t)) = .ok (.string ⟨#[UInt8.ofNat (48 + d)]⟩) (w.alloc (.cells #[.int .u8 x] t)) :=
  str_of (digit_rd w d hd t x hx)
theorem digit_later {w w1 : World} {d : Nat} (hd : d < 10) {t : TypeId} {x : Int} (hx : x = 48 + (d : Int)) (hb : Below (w.alloc (.cells #[.int .u8 x] t)).heap.size (w.alloc (.cells #[.int .u8 x] t)) w1) :
    (convert 45 9 (.slice (some ⟨w.heap.size, 0, none⟩) 1 1)).run Tryd.prog w1 = .ok (.string ⟨#[UInt8.ofNat (48 + d)]⟩) w1 :=
  str_of ((digit_rd w d hd t x hx).below hb)
theorem dec_len {n : Nat} (h : n < 9223372036854775808) : (Lib.decDigits n).length ≤ 20 := by
  have := itoa_len (n := (n : Int)) (by omega) (by omega)
  unfold Lib.itoa at this
  rw [if_neg (by omega)] at this
  simpa using this
theorem app_str (a b : List UInt8) : (⟨a.toArray⟩ ++ ⟨b.toArray⟩ : ByteArray) = ⟨(a ++ b).toArray⟩ := str_ext (by simp)
set_option maxRecDepth 10000 in
theorem rdec_any (n : Nat) (hn : n < 9223372036854775808) (w : World) : Calls Tryd.prog 38 #[.int .i64 (n : Int)] w fun e w' => e = .returned (.string ⟨(Lib.decDigits n).toArray⟩) ∧ Below w.heap.size w w' := by
  by_cases h : n < 10
  · have hI : (n : Int) < 10 := by omega
    have hds := fun w t y hy => digit_str w n h t y hy
    have hdd : Lib.decDigits n = [UInt8.ofNat (48 + n)] := by rw [Lib.decDigits, dif_pos h]
    rw [hdd]
    clear hdd
    go_enter Tryd.func38, Tryd.ntmps38
    go_wp2
    all_goals go_ret
    all_goals exact ⟨by simp, (Below.refl _ _).alloc (Nat.le_refl _) _⟩
  · have ih := fun w => rdec_any (n / 10) (by omega) w
    have e10 : ((n / 10 : Nat) : Int) = (n : Int) / 10 := by omega
    rw [e10] at ih
    have hI : ¬ (n : Int) < 10 := by omega
    have hy : IntKind.u8.wrap (IntKind.i64.wrap (48 + (n : Int).tmod 10)) = 48 + ((n % 10 : Nat) : Int) := by
      rw [Int.tmod_eq_emod_of_nonneg (by omega), IntKind.wrap_i64, IntKind.wrap_u8]
      omega
    have hds := fun w t => digit_str w (n % 10) (by omega) t _ hy
    have HY := Lib.hid hy
    have hds2 : (convert 45 9 (.slice (some ⟨w.heap.size, 0, none⟩) 1 1)).run Tryd.prog (w.alloc (.cells #[.int .u8 (IntKind.u8.wrap (IntKind.i64.wrap (48 + (n : Int).tmod 10)))] 5)).drew = .ok (.string ⟨#[UInt8.ofNat (48 + n % 10)]⟩) (w.alloc (.cells #[.int .u8 (IntKind.u8.wrap (IntKind.i64.wrap (48 + (n : Int).tmod 10)))] 5)).drew := digit_later (by omega) hy ((Below.refl _ _).drew)
    clear hy
    have hdl := dec_len (n := n / 10) (by omega)
    have hdd : Lib.decDigits n = Lib.decDigits (n / 10) ++ [UInt8.ofNat (48 + n % 10)] := by rw [Lib.decDigits, dif_neg h]
    obtain ⟨q, hq⟩ : ∃ q : ByteArray, q = ⟨(Lib.decDigits (n / 10)).toArray⟩ := ⟨_, rfl⟩
    have hqz : q.size ≤ 20 := by rw [hq]; show (Lib.decDigits (n / 10)).toArray.size ≤ 20; rw [List.size_toArray]; exact hdl
    rw [← hq] at ih
    have hfin : (⟨(Lib.decDigits n).toArray⟩ : ByteArray) = q ++ ⟨#[UInt8.ofNat (48 + n % 10)]⟩ := by rw [hdd, hq]; exact (app_str _ [_]).symm
    rw [hfin]
    have HIH := Lib.hid ih
    clear ih hdl hdd hq hfin e10
    go_enter Tryd.func38, Tryd.ntmps38
    go_wp2
    have v1 : IntKind.i64.wrap ((n : Int) / 10) = (n : Int) / 10 := by rw [IntKind.wrap_i64]; omega
    go_region_with (go_at_call 38; (try rw [v1]); refine (HIH.out _).mono ?_; rintro e w1 ⟨rfl, hb1⟩; have HB1 := Lib.hid hb1; (try (have hcv : (convert 45 9 (.slice (some ⟨w.heap.size, 0, none⟩) 1 1)).run Tryd.prog w1 = .ok (.string ⟨#[UInt8.ofNat (48 + n % 10)]⟩) w1 := digit_later (w := w.drew) (by omega) HY.out hb1)); clear hb1)
    all_goals go_wp2
    all_goals go_ret
    all_goals (
      refine ⟨by first | rfl | (rw [UInt8.ofNat_add]; rfl), ?_⟩
      first
        | exact into ((Below.refl _ _).drew.alloc (Nat.le_refl _) _) HB1.out
        | exact (into ((Below.refl _ _).drew) HB1.out).alloc (by have := HB1.out.size; exact this) _
        | (trace_state; sorry))
termination_by n
decreasing_by omega
end Go.Proofs.YtfoilmhpoipmpaaDoor

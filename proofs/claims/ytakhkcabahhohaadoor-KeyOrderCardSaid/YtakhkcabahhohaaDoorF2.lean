import Derived.Test.YtakhkcabahhohaaDoorF1
import Derived.Test.YtakhkcabahhohaaDoorC4
import Derived.Laws.Concat
namespace Go.Proofs.YtakhkcabahhohaaDoor
open Go.ChangeShapes Go.WideShapes Go.ChangeAt Go.RowKit
set_option linter.unusedVariables false
set_option linter.unusedSimpArgs false
set_option maxHeartbeats 1000000
/-- A slice's beginning, as the operation makes it. -/
theorem cut_run (ao : Option Addr) (n cap k : Nat) (hk : k ≤ n) (hc : n ≤ cap) (w : World) :
    (Instr.slice 23 (.slice ao n cap) none (some (.int .i64 (k : Int))) none).run Tryd.prog w = .ok (.slice ao k cap) w := by
  have h1 : (0 : Int) ≤ (k : Int) := by omega
  have h2 : (k : Int) ≤ (cap : Int) := by omega
  have ha : (ao.map fun x => x.add 0) = ao := by cases ao <;> simp [Addr.add]
  go_simp
theorem vc_take : ∀ (l : List V) (k : Nat), (vc l).take (k * 3) = vc (l.take k)
  | [], k => by simp [vc]
  | v :: l, 0 => by simp [vc]
  | v :: l, k + 1 => by
    have e : (k + 1) * 3 = k * 3 + 1 + 1 + 1 := by omega
    rw [e]
    simp [vc, vc_take l k]
/-- Values that may be, and are short: their key. -/
theorem enc_part (m : Nat) (v : Value) (l : List V) (w : World) (hl : ∀ u ∈ l, Ok u ∧ (enc1 u).length ≤ 13) (h6 : l.length ≤ 6) (hr : Rd w 3 m v (vc l)) :
    Calls Tryd.prog 13 #[v] w fun e w' => ∃ v', e = .returned (.tuple #[v', .int .i64 0]) ∧ (encs l).length ≤ 78 ∧ w'.ownsRow w.heap.size 5 1 v' (encs l).length (bc (encs l)) ∧ Below w.heap.size w w' := by
  have h13 := encs_13 l hl
  have he := enc_ok (fun u hu => (hl u hu).1) h6 (by omega)
  have h := enc_any m v l w (fun u hu => (hl u hu).1.2) hr
  rw [he] at h
  exact h.mono fun e w' ⟨v', h1, h2, h3⟩ => ⟨v', h1, by omega, h2, h3⟩
theorem add_run {X Y : List UInt8} (hx : X.length ≤ 1000) (hy : Y.length ≤ 1000) (w : World) : (Op.stringOp .add ⟨X.toArray⟩ ⟨Y.toArray⟩).run Tryd.prog w = .ok (.string ⟨(X ++ Y).toArray⟩) w := by
  rw [run_string_add_sum w _ _ (by simp [ByteArray.size]; omega)]
  have e : (⟨X.toArray⟩ : ByteArray) ++ ⟨Y.toArray⟩ = ⟨(X ++ Y).toArray⟩ := by
    apply ByteArray.ext
    simp
  rw [e]
/-- One value, written out. -/
theorem lit_rd (w : World) (i j : Int) (t : ByteArray) : Rd (w.alloc (.cells #[.int .i64 i, .int .i64 j, .string t] 35)) 3 1 (.slice (some ⟨w.heap.size, 0, none⟩) 1 1) (vc [⟨i, j, t⟩]) :=
  Rd.own (World.ownsRow_lit (base := w.heap.size) (e := 35) (size := 3) w #[.int .i64 i, .int .i64 j, .string t] 1 (Nat.le_refl _) (by unfold maxLen; omega) rfl)
end Go.Proofs.YtakhkcabahhohaaDoor

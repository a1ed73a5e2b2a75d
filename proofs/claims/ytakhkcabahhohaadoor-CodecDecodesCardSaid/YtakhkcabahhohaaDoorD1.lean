import Derived.Test.YtakhkcabahhohaaDoorCw
import Derived.Deep.RegionWith
namespace Go.Proofs.YtakhkcabahhohaaDoor
open Go.ChangeShapes Go.WideShapes Go.ChangeAt Go.RowKit
set_option linter.unusedVariables false
set_option linter.unusedSimpArgs false
set_option maxHeartbeats 1000000
/-- A value, as a call hands it back. -/
abbrev va (u : V) : Value := .agg #[.int .i64 u.k, .int .i64 u.n, .string u.t]
/-- The table of how many bytes a kind has at least. -/
def Lst (w : World) : Prop := w.cell? ⟨0, 0, none⟩ = some (.int .i64 0) ∧ w.cell? ⟨0, 1, none⟩ = some (.int .i64 1) ∧ w.cell? ⟨0, 2, none⟩ = some (.int .i64 8) ∧ w.cell? ⟨0, 3, none⟩ = some (.int .i64 2)
theorem Lst.below {w w' : World} (h : Lst w) (hb : Below w.heap.size w w') : Lst w' := by
  obtain ⟨h0, h1, h2, h3⟩ := h
  exact ⟨(hb.cell (lt_cell h0)).trans h0, (hb.cell (lt_cell h1)).trans h1, (hb.cell (lt_cell h2)).trans h2, (hb.cell (lt_cell h3)).trans h3⟩
theorem rd_cut {w w' : World} {n b o cap : Nat} {l : List UInt8} (hr : Rd w 1 n (.slice (some ⟨b, o, none⟩) n cap) (bc l)) (hb : Below w.heap.size w w') (k : Nat) (hk : k ≤ n) {q : Addr} {c m : Nat} (hq : cap = k ∨ q = ⟨b, o + k, none⟩) (hm : m = n - k) (hc : c = cap - k) :
    Rd w' 1 (l.drop k).length (.slice (some q) m c) (bc (l.drop k)) := by
  subst hm
  subst hc
  have hln := len_b hr
  obtain ⟨h1, ao, cap', h2, h3, h4, h5, h6⟩ := hr.below hb
  simp only [Value.slice.injEq, true_and] at h2
  obtain ⟨rfl, rfl⟩ := h2
  have hdl : (l.drop k).length = n - k := by rw [List.length_drop, hln]
  rw [hdl]
  refine ⟨by rw [bc_length, hdl]; omega, _, _, rfl, by omega, by omega, (fun h => by cases h), fun a ha j u hu => ?_⟩
  obtain rfl := Option.some.inj ha
  rcases hq with rfl | rfl
  · have : (bc (l.drop cap)).length = 0 := by rw [bc_length, hdl]; omega
    have hj := (List.getElem?_eq_some_iff.1 hu).1
    omega
  · have := h6 _ rfl (k + j) u (by rw [← hu]; simp [bc, List.getElem?_map])
    rw [Addr.add_lit] at this ⊢
    rw [Nat.add_assoc]
    exact this
/-- A box of three cells, behind a call that was made when it had been laid and an order had been drawn. -/
theorem box_drew {w w1 : World} {x y z : Value} {t : TypeId} (hb : Below (w.alloc (.cells #[x, y, z] t)).drew.heap.size (w.alloc (.cells #[x, y, z] t)).drew w1) :
    w.heap.size < w1.heap.size ∧ Below w.heap.size w w1 ∧ w1.cell? ⟨w.heap.size, 0, none⟩ = some x ∧ w1.cell? ⟨w.heap.size, 1, none⟩ = some y ∧ w1.cell? ⟨w.heap.size, 2, none⟩ = some z ∧
    w1.frozen? ⟨w.heap.size, 0, none⟩ = false ∧ w1.frozen? ⟨w.heap.size, 1, none⟩ = false ∧ w1.frozen? ⟨w.heap.size, 2, none⟩ = false := by
  have hb' : Below (w.alloc (.cells #[x, y, z] t)).heap.size (w.alloc (.cells #[x, y, z] t)) w1 := ((Below.refl _ _).drew).trans hb
  have hz := hb'.size
  simp only [World.size_alloc] at hz
  exact ⟨by omega, into (by go_grown) hb', has3 (new0 _ _) hb'⟩
def takB (l : List UInt8) : V × List UInt8 × Int := if 1 < (l.headD 0).toNat then (nul, [], 6) else (⟨1, (l.headD 0).toNat, ⟨#[]⟩⟩, l.drop 1, 0)
theorem tb_any (n : Nat) (v : Value) (l : List UInt8) (w0 w : World) (hw : Below w0.heap.size w0 w) (hn : 0 < n) (hr0 : Rd w0 1 n v (bc l)) :
    Calls Tryd.prog 24 #[v] w fun e w' => ∃ v', e = .returned (.tuple #[va (takB l).1, v', .int .i64 (takB l).2.2]) ∧ Rd w0 1 (takB l).2.1.length v' (bc (takB l).2.1) ∧ Below w.heap.size w w' := by
  have hr := hr0.below hw
  obtain ⟨hl, b, o, cap, rfl, hnc, hcm, hbw, hcell⟩ := bytes_of hr hn
  have c0 := hcell 0 hn
  obtain ⟨x, hx⟩ : ∃ x, x = l.getD 0 0 := ⟨_, rfl⟩
  have hx' : x = l.headD 0 := by rw [hx]; cases l <;> rfl
  rw [← hx, Nat.add_zero] at c0
  have HX := Lib.hid hx'
  have HR := Lib.hid hr0
  clear hx hx' hr hr0 hcell
  by_cases h1 : 1 < x.toNat
  · have h1' : (1 : Int) < (x.toNat : Int) := by omega
    go_enter Tryd.func24, Tryd.ntmps24
    go_wp2
    go_returns
    have e : takB l = (nul, [], 6) := by rw [takB, ← HX.out, if_pos h1]
    rw [e]
    exact ⟨_, rfl, Rd.nil _ _, by go_grown⟩
  · have h1' : ¬ (1 : Int) < (x.toNat : Int) := by omega
    have e : takB l = (⟨1, x.toNat, ⟨#[]⟩⟩, l.drop 1, 0) := by rw [takB, ← HX.out, if_neg h1]
    have HE := Lib.hid e
    clear e
    go_enter Tryd.func24, Tryd.ntmps24
    go_wp2
    go_region
    all_goals go_wp2
    all_goals go_returns
    all_goals rw [HE.out]
    · refine ⟨_, rfl, rd_cut HR.out (Below.refl _ _) 1 (by omega) (.inl (by omega)) (by omega) (by omega), ?_⟩ <;> go_grown
    · refine ⟨_, rfl, rd_cut HR.out (Below.refl _ _) 1 (by omega) (.inr rfl) (by omega) (by omega), ?_⟩ <;> go_grown
end Go.Proofs.YtakhkcabahhohaaDoor

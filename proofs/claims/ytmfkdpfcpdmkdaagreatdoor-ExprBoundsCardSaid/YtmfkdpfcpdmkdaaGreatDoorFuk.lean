import Derived.Test.YtmfkdpfcpdmkdaaGreatDoorFgk
import Derived.Test.YtmfkdpfcpdmkdaaGreatDoorFpk
import Derived.Test.YtmfkdpfcpdmkdaaGreatDoorB0k
/- The document's bytes compared, and copied. -/
namespace Go.Proofs.YtmfkdpfcpdmkdaaGreatDoor.bd
open Go.ChangeShapes Go.WideShapes Go.ChangeAt Go.RowKit
set_option linter.unusedVariables false
set_option linter.unusedSimpArgs false
set_option maxHeartbeats 2000000
set_option maxRecDepth 100000
theorem bef_any (w : World) (x y : Sl) (a b : List UInt8) (hu : Rt w x a) (hv : Rt w y b) :
    Calls Tryz.prog 23 #[sv x, sv y] w fun e w' => e = .returned (.bool (bl a b)) ∧ w = w' := by
  have h1 := str_of hu.1
  have h2 := str_of hv.1
  obtain ⟨xa, xn, xc⟩ := x
  obtain ⟨ya, yn, yc⟩ := y
  go_enter Tryz.func23, Tryz.ntmps23
  go_wp2
  go_ret
  refine ⟨rb ?_, rfl⟩
  simp [bl, list_of]
section
variable {ops : Array Oper} {rest : List Oper} {o : Oper} {a : Act} {Q : Exit → Act → World → Prop}
theorem apx (w : World) (m : Nat) (hgd : o.guard = none) (s x : Operand) (t e : TypeId) (z : Value) (size bytes : Nat) (ht : Tryz.prog.underlying t = some (.slice e)) (hinf : (Tryz.prog.info? e).map (fun i => (i.zero, i.size, i.bytes)) = some (some z, size, bytes)) (hzs : z.cells.size = size) (hsz : 0 < size)
    (ho : o.op = .call { callee := .builtin .append, args := #[s, x], argTypes := #[t, t] })
    {B n : Nat} {v : Value} {xs : List Value} (hown : w.ownsRow B e size v n xs) (hB : B ≤ w.heap.size) (hnm : (n + m) * bytes ≤ 140737488355328) (h63 : n + m ≤ maxLen) (news : List Value) (hl : news.length = m * size) (hX : ∀ u ∈ news, u.oneCell' = true)
    (H : Nat) (hH : w.heap.size = H) (hs : a.eval s = v) (hx : a.eval x = .slice (some ⟨H, 0, none⟩) m m)
    (h : ∀ v' w', w'.ownsRow B e size v' (n + m) (xs ++ news) → Below B w w' → wpList Tryz.prog ops Q rest (a.put o.dst v') w') : wpList Tryz.prog ops Q (o :: rest) a (w.alloc (.cells news.toArray e)) := by
  subst hH
  obtain ⟨i0, hi, hz0, hz1, hz2⟩ := info_parts hinf
  refine wpList_append_own_at _ hgd s x _ ho B e i0 z size bytes ht hi hz0 hz1 hz2 hzs hsz v n xs hs (hown.alloc _) _ m m news hx hl (new_cells w news _) hX h63 hnm (by simp; omega) ?_
  intro v' w' h1 h2 h3 h4
  have hg : w.grownBy w' v.ownBlock := (World.grownBy_alloc w _ _).trans h2
  exact h v' w' h1 ((Below.refl B w).grown hg hB (own_ge hown))
end
theorem take_nx {α : Type} {l : List α} {d : α} {k : Nat} (h : k < l.length) : l.take (k + 1) = l.take k ++ [l.getD k d] := by
  rw [List.take_succ_eq_append_getElem h]
  simp [List.getD, h]
theorem bcopy_any (w : World) (x : Sl) (l : List UInt8) (h : Rt w x l) (hl : l.length ≤ 1000000) :
    Calls Tryz.prog 24 #[sv x] w fun e w' => ∃ y : Sl, e = .returned (sv y) ∧ Rt w' y l ∧ Below w.heap.size w w' := by
  obtain ⟨ao, n, cap⟩ := x
  have hnn : n = l.length := h.len.1
  have HC : Hid (∀ k, k < n → ∃ b o, ao = some ⟨b, o, none⟩ ∧ w.cell? ⟨b, o + k, none⟩ = some (.int .u8 ((l.getD k 0).toNat : Int))) := by
    refine Lib.hid fun k hk => ?_
    obtain ⟨b, o, cap', he, _, _, _, hq⟩ := h.1.pos (by omega) (by omega)
    simp only [sv, Value.slice.injEq] at he
    exact ⟨b, o, he.1, hq k _ (bc_at (by rw [← hnn]; exact hk))⟩
  rw [← hnn] at hl
  have HN := Lib.hid hnn
  clear h hnn
  show Calls Tryz.prog _ #[.slice ao n cap] w _
  go_enter Tryz.func24, Tryz.ntmps24
  go_wp2
  go_loopw [3, 4] (fun s i wr => ∃ k : Nat, k ≤ n ∧ i = .int .i64 (k : Int) ∧ wr.ownsRow w.heap.size 5 1 s k (bc (l.take k)) ∧ Below w.heap.size w wr) (fun _ i _ => n - (intOf i).toNat)
  case atStart => exact ⟨0, by omega, rfl, by simpa [bc] using World.ownsRow_nil _ _ _ _, Below.refl _ _⟩
  case round =>
    obtain ⟨k, hk, rfl, ho, hb⟩ := hrel
    have hz := hb.size
    by_cases hlt : k < n
    · obtain ⟨b, o, rfl, g⟩ := HC.out k hlt
      have g' := (hb.cell (p := ⟨b, o + k, none⟩) (lt_cell g)).trans g
      have HO := Lib.hid ho
      have HB := Lib.hid hb
      obtain ⟨c, hcc⟩ : ∃ c, c = ((l.getD k 0).toNat : Int) := ⟨_, rfl⟩
      rw [← hcc] at g'
      have HCC := Lib.hid hcc
      clear ho hb g hcc
      go_wp2_with (at_builtin; refine apx wr 1 rfl (.tmp 11) (.tmp 16) 25 5 _ 1 1 Tryz.underlying25 Tryz.info5 rfl (by omega) rfl HO.out (by omega) (by omega) (by unfold maxLen; omega) [.int .u8 c] rfl (by simp [Value.oneCell']) _ rfl rfl rfl ?_; intro v1 w1 o1 b1; have O1 := Lib.hid o1; have B1 := Lib.hid b1; clear o1 b1)
      go_roundw
      case rel =>
        refine ⟨k + 1, by omega, by go_num, ?_, HB.out.trans B1.out⟩
        rw [take_nx (d := 0) (by rw [← HN.out]; exact hlt), bc_app]
        have := O1.out
        rw [HCC.out] at this
        exact this
      case measure => simp [intOf] <;> omega
    · obtain rfl : n = k := by omega
      have e : l.take n = l := List.take_of_length_le (by rw [← HN.out]; exact Nat.le_refl _)
      rw [e] at ho
      have HO := Lib.hid ho
      have HB := Lib.hid hb
      clear ho hb e
      go_wp2
      go_ret
      obtain ⟨y, rfl, hy⟩ := Rt.own HO.out
      exact ⟨y, rfl, hy, HB.out⟩
end Go.Proofs.YtmfkdpfcpdmkdaaGreatDoor.bd

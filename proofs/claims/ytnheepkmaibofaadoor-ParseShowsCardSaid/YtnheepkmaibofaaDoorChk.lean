import Derived.Test.YtnheepkmaibofaaDoorCbk
import Derived.Deep.RegionHeld3
import Derived.Deep.RegionWith
import Derived.Deep.RegionLaw
import Derived.Test.YtnheepkmaibofaaDoorRik
import Derived.Test.YtnheepkmaibofaaDoorCkk
/- An op of two shown: the region that draws its order. -/
namespace Go.Proofs.YtnheepkmaibofaaDoor.cs
open Go.ChangeShapes Go.WideShapes Go.ChangeAt Go.RowKit
set_option linter.unusedVariables false
set_option linter.unusedSimpArgs false
set_option maxHeartbeats 8000000
set_option maxRecDepth 1000000
theorem op10 (Q : Exit → Act → World → Prop) (c0 c3 c4 c5 c6 c7 c8 c9 c10 c11 c12 c13 c14 c15 c16 c17 c18 c19 c20 c21 c22 c23 c24 c25 c26 c27 c28 c29 c30 c31 c32 c33 c34 c35 c36 c37 c38 c39 c40 c41 c42 c43 c44 c45 c46 c47 c48 c49 c50 c51 c52 c53 c54 c55 c56 c57 : Value) (w0 : World) (P : Nat) (hP : P < w0.heap.size) (b o cap : Nat) (a0 : Option Addr) (n0 d0 : Nat) (A : List Tk) (a1 : Option Addr) (n1 d1 : Nat) (C : List Tk) (k : Nat) (sg : ByteArray) (hk : (k : Int) < 11)
    (p0 : w0.cell? ⟨b, o, none⟩ = some (.slice a0 n0 d0))
    (p1 : w0.cell? ⟨b, o + 1, none⟩ = some (.slice a1 n1 d1))
    (p2 : w0.cell? ⟨P, 0, none⟩ = some (.int .i64 (k : Int)))
    (p3 : w0.cell? ⟨4, k, none⟩ = some (.string sg))
    (r0 : Rd w0 3 n0 (.slice a0 n0 d0) (tkc A))
    (r1 : Rd w0 3 n1 (.slice a1 n1 d1) (tkc C))
    (HPA : Hid (∀ W B, Below w0.heap.size w0 W → Rd W 1 1 (.slice (some ⟨B, 0, none⟩) 1 1) ([sOpen].map Value.string) → Calls Tryd.prog 42 #[.slice (some ⟨B, 0, none⟩) 1 1] W (ToksIs [ptk sOpen] W)))
    (HPB : Hid (∀ W B, Below w0.heap.size w0 W → Rd W 1 1 (.slice (some ⟨B, 0, none⟩) 1 1) ([sClose].map Value.string) → Calls Tryd.prog 42 #[.slice (some ⟨B, 0, none⟩) 1 1] W (ToksIs [ptk sClose] W)))
    (HPS : Hid (∀ W B, Below w0.heap.size w0 W → Rd W 1 1 (.slice (some ⟨B, 0, none⟩) 1 1) ([sg].map Value.string) → Calls Tryd.prog 42 #[.slice (some ⟨B, 0, none⟩) 1 1] W (ToksIs [ptk sg] W)))
    (HLN : Hid ([ptk sOpen].length + (A.length + ([ptk sg].length + (C.length + ([ptk sClose].length)))) ≤ 1000000))
    (hout : Hid (∀ (u40 u41 u42 u43 u44 u45 u46 u47 u48 u49 u50 u51 u52 u53 u54 u55 u56 u57 : Value) (vout : Value) (w' : World), ToksIs ([ptk sOpen] ++ (A ++ ([ptk sg] ++ (C ++ [ptk sClose])))) w0 (.returned vout) w' → Q .normal ⟨List.toArray (c0 :: (.slice (some ⟨b, o, none⟩) 2 cap) :: (.pointer (some ⟨P, 0, none⟩)) :: c3 :: vout :: c5 :: c6 :: c7 :: c8 :: c9 :: c10 :: c11 :: c12 :: c13 :: c14 :: c15 :: c16 :: c17 :: c18 :: c19 :: c20 :: c21 :: c22 :: c23 :: c24 :: c25 :: c26 :: c27 :: c28 :: c29 :: c30 :: c31 :: c32 :: c33 :: c34 :: c35 :: c36 :: c37 :: c38 :: c39 :: u40 :: u41 :: u42 :: u43 :: u44 :: u45 :: u46 :: u47 :: u48 :: u49 :: u50 :: u51 :: u52 :: u53 :: u54 :: u55 :: u56 :: u57 :: []), []⟩ w')) :
    Code.wp Tryd.prog ((regionOf 10 (Tryd.f77.body.getD .skip)).getD .skip) Q ⟨List.toArray (c0 :: (.slice (some ⟨b, o, none⟩) 2 cap) :: (.pointer (some ⟨P, 0, none⟩)) :: c3 :: c4 :: c5 :: c6 :: c7 :: c8 :: c9 :: c10 :: c11 :: c12 :: c13 :: c14 :: c15 :: c16 :: c17 :: c18 :: c19 :: c20 :: c21 :: c22 :: c23 :: c24 :: c25 :: c26 :: c27 :: c28 :: c29 :: c30 :: c31 :: c32 :: c33 :: c34 :: c35 :: c36 :: c37 :: c38 :: c39 :: c40 :: c41 :: c42 :: c43 :: c44 :: c45 :: c46 :: c47 :: c48 :: c49 :: c50 :: c51 :: c52 :: c53 :: c54 :: c55 :: c56 :: c57 :: []), []⟩ w0 := by
  refine Code.wp_mono (Q := NQ Q) nq_to ?_
  conv => arg 2; whnf
  have hB0 : Below w0.heap.size w0 w0 := Below.refl _ _
  go_region_held3 (fun wx => wx.cell? ⟨b, o, none⟩ = some (.slice a0 n0 d0) ∧ wx.cell? ⟨b, o + 1, none⟩ = some (.slice a1 n1 d1) ∧ wx.cell? ⟨P, 0, none⟩ = some (.int .i64 (k : Int)) ∧ wx.cell? ⟨4, k, none⟩ = some (.string sg))
    ((refine ⟨?_, ?_, ?_, ?_⟩ <;> (repeat' (first | (with_reducible assumption) | (with_reducible refine cell_dr ?_) | (with_reducible refine cell_al _ ?_) | (with_reducible refine cell_of_below hbz ?_) | (with_reducible refine cell_of_below hbS ?_) | (with_reducible refine cell_of_below hbB ?_) | (with_reducible refine cell_of_below hbA ?_)))))
    ((first
      | (go_at_call 42; (with_reducible refine (HPA.out _ _ (by go_grown) (by ((repeat' (first | (with_reducible assumption) | (with_reducible refine rd_lit1 _ _ _ ?_) | (with_reducible refine rd_sl5 _ _ _ _ _ _ _ ?_) | (with_reducible refine Rd.below ?_ hbz) | (with_reducible refine Rd.below ?_ hbS) | (with_reducible refine Rd.below ?_ hbB) | (with_reducible refine Rd.below ?_ hbA) | (with_reducible refine rd_drew ?_) | (with_reducible refine rd_alloc ?_ _) | (simp; done))); (first | done | fail)))).mono ?_); rintro e wA ⟨vA, rfl, hownA, hbA⟩; obtain ⟨aA, qA, rfl⟩ := own_shape hownA; have rA : Rd wA 3 1 (.slice aA 1 qA) (tkc [ptk sOpen]) := Rd.own hownA; have hBA : Below w0.heap.size w0 wA := into (by go_grown) hbA; have hzA := hBA.size)
      | (go_at_call 42; (with_reducible refine (HPB.out _ _ (by go_grown) (by ((repeat' (first | (with_reducible assumption) | (with_reducible refine rd_lit1 _ _ _ ?_) | (with_reducible refine rd_sl5 _ _ _ _ _ _ _ ?_) | (with_reducible refine Rd.below ?_ hbz) | (with_reducible refine Rd.below ?_ hbS) | (with_reducible refine Rd.below ?_ hbB) | (with_reducible refine Rd.below ?_ hbA) | (with_reducible refine rd_drew ?_) | (with_reducible refine rd_alloc ?_ _) | (simp; done))); (first | done | fail)))).mono ?_); rintro e wB ⟨vB, rfl, hownB, hbB⟩; obtain ⟨aB, qB, rfl⟩ := own_shape hownB; have rB : Rd wB 3 1 (.slice aB 1 qB) (tkc [ptk sClose]) := Rd.own hownB; have hBB : Below w0.heap.size w0 wB := into (by go_grown) hbB; have hzB := hBB.size)
      | (go_at_call 42; (with_reducible refine (HPS.out _ _ (by go_grown) (by ((repeat' (first | (with_reducible assumption) | (with_reducible refine rd_lit1 _ _ _ ?_) | (with_reducible refine rd_sl5 _ _ _ _ _ _ _ ?_) | (with_reducible refine Rd.below ?_ hbz) | (with_reducible refine Rd.below ?_ hbS) | (with_reducible refine Rd.below ?_ hbB) | (with_reducible refine Rd.below ?_ hbA) | (with_reducible refine rd_drew ?_) | (with_reducible refine rd_alloc ?_ _) | (simp; done))); (first | done | fail)))).mono ?_); rintro e wS ⟨vS, rfl, hownS, hbS⟩; obtain ⟨aS, qS, rfl⟩ := own_shape hownS; have rS : Rd wS 3 1 (.slice aS 1 qS) (tkc [ptk sg]) := Rd.own hownS; have hBS : Below w0.heap.size w0 wS := into (by go_grown) hbS; have hzS := hBS.size)
      | (go_at_call 41; (with_reducible refine (concat5 _ _ _ _ _ _ _ [ptk sOpen] A [ptk sg] C [ptk sClose] (1) (n0) (1) (n1) (1) (by ((repeat' (first | (with_reducible assumption) | (with_reducible refine rd_lit1 _ _ _ ?_) | (with_reducible refine rd_sl5 _ _ _ _ _ _ _ ?_) | (with_reducible refine Rd.below ?_ hbz) | (with_reducible refine Rd.below ?_ hbS) | (with_reducible refine Rd.below ?_ hbB) | (with_reducible refine Rd.below ?_ hbA) | (with_reducible refine rd_drew ?_) | (with_reducible refine rd_alloc ?_ _) | (simp; done))); (first | done | fail))) (by ((repeat' (first | (with_reducible assumption) | (with_reducible refine rd_lit1 _ _ _ ?_) | (with_reducible refine rd_sl5 _ _ _ _ _ _ _ ?_) | (with_reducible refine Rd.below ?_ hbz) | (with_reducible refine Rd.below ?_ hbS) | (with_reducible refine Rd.below ?_ hbB) | (with_reducible refine Rd.below ?_ hbA) | (with_reducible refine rd_drew ?_) | (with_reducible refine rd_alloc ?_ _) | (simp; done))); (first | done | fail))) (by ((repeat' (first | (with_reducible assumption) | (with_reducible refine rd_lit1 _ _ _ ?_) | (with_reducible refine rd_sl5 _ _ _ _ _ _ _ ?_) | (with_reducible refine Rd.below ?_ hbz) | (with_reducible refine Rd.below ?_ hbS) | (with_reducible refine Rd.below ?_ hbB) | (with_reducible refine Rd.below ?_ hbA) | (with_reducible refine rd_drew ?_) | (with_reducible refine rd_alloc ?_ _) | (simp; done))); (first | done | fail))) (by ((repeat' (first | (with_reducible assumption) | (with_reducible refine rd_lit1 _ _ _ ?_) | (with_reducible refine rd_sl5 _ _ _ _ _ _ _ ?_) | (with_reducible refine Rd.below ?_ hbz) | (with_reducible refine Rd.below ?_ hbS) | (with_reducible refine Rd.below ?_ hbB) | (with_reducible refine Rd.below ?_ hbA) | (with_reducible refine rd_drew ?_) | (with_reducible refine rd_alloc ?_ _) | (simp; done))); (first | done | fail))) (by ((repeat' (first | (with_reducible assumption) | (with_reducible refine rd_lit1 _ _ _ ?_) | (with_reducible refine rd_sl5 _ _ _ _ _ _ _ ?_) | (with_reducible refine Rd.below ?_ hbz) | (with_reducible refine Rd.below ?_ hbS) | (with_reducible refine Rd.below ?_ hbB) | (with_reducible refine Rd.below ?_ hbA) | (with_reducible refine rd_drew ?_) | (with_reducible refine rd_alloc ?_ _) | (simp; done))); (first | done | fail))) (by ((repeat' (first | (with_reducible assumption) | (with_reducible refine rd_lit1 _ _ _ ?_) | (with_reducible refine rd_sl5 _ _ _ _ _ _ _ ?_) | (with_reducible refine Rd.below ?_ hbz) | (with_reducible refine Rd.below ?_ hbS) | (with_reducible refine Rd.below ?_ hbB) | (with_reducible refine Rd.below ?_ hbA) | (with_reducible refine rd_drew ?_) | (with_reducible refine rd_alloc ?_ _) | (simp; done))); (first | done | fail))) HLN.out).mono ?_); rintro e wz ⟨vz, rfl, hownz, hbz⟩; have hTz := ToksIs.from ⟨vz, rfl, hownz, hbz⟩ (show Below w0.heap.size w0 _ by go_grown))))
  all_goals exact hout.out _ _ _ _ _ _ _ _ _ _ _ _ _ _ _ _ _ _ _ _ hTz
end Go.Proofs.YtnheepkmaibofaaDoor.cs
/- Rows of tokens by their type; an op shown: the program. -/
namespace Go.Proofs.YtnheepkmaibofaaDoor.cs
open Go.ChangeShapes Go.WideShapes Go.ChangeAt Go.RowKit
set_option linter.unusedVariables false
set_option linter.unusedSimpArgs false
set_option maxHeartbeats 4000000
set_option maxRecDepth 1000000
/-- A slice. -/
structure Sv where
  a : Option Addr
  n : Nat
  c : Nat
abbrev svv (s : Sv) : Value := .slice s.a s.n s.c
/-- The slice is the call's own (from block B on), and reads as these tokens. -/
def Rk (B : Nat) (w : World) (s : Sv) (l : List Tk) : Prop := w.ownsRow B 39 3 (svv s) l.length (tkc l)
theorem own_same {w w' : World} {B e s n : Nat} {v : Value} {xs : List Value} (h : w.ownsRow B e s v n xs) (hb : ∀ g, v.ownBlock = some g → w'.heap[g]? = w.heap[g]?) : w'.ownsRow B e s v n xs := by
  refine ⟨h.1, ?_⟩
  rcases h.2 with h0 | ⟨g, cap, cur, hv, h1, h2, h3⟩
  · exact .inl h0
  · exact .inr ⟨g, cap, cur, hv, h1, (hb g (by rw [hv]; rfl)).trans h2, h3⟩
theorem Rk.below {B : Nat} {w w' : World} {s : Sv} {l : List Tk} (h : Rk B w s l) (hb : Below w.heap.size w w') : Rk B w' s l := own_below h hb
theorem own_tyk {w : World} {B e s n g : Nat} {v : Value} {xs : List Value} (h : w.ownsRow B e s v n xs) (hg : v.ownBlock = some g) : ∃ cur sp, w.heap[g]? = some (.cells cur e sp) := by
  obtain ⟨h1, h2⟩ := h
  rcases h2 with ⟨hv, _⟩ | ⟨g', cap, cur, hv, hb, hg', hnc, hcm, _⟩
  · rw [hv] at hg; simp [Value.ownBlock] at hg
  · rw [hv] at hg
    cases hg
    exact ⟨_, _, hg'⟩
theorem Rk.grown {C : Nat} {w w' : World} {s : Sv} {l : List Tk} {B e z n : Nat} {v : Value} {xs : List Value} (h : Rk C w s l) (hown : w.ownsRow B e z v n xs) (hg : w.grownBy w' v.ownBlock) (hT : e ≠ 39) : Rk C w' s l := by
  refine own_same h fun a ha => ?_
  obtain ⟨cur, sp, h8⟩ := own_tyk h ha
  have hlt : a < w.heap.size := by
    rcases Nat.lt_or_ge a w.heap.size with g | g
    · exact g
    · rw [Array.getElem?_eq_none g] at h8; cases h8
  refine hg.block _ hlt (fun e1 => ?_)
  obtain ⟨c2, s2, h9⟩ := own_tyk hown e1.symm
  rw [h8] at h9
  simp only [Option.some.injEq, Obj.cells.injEq] at h9
  exact hT h9.2.1.symm
theorem Rk.rd {B : Nat} {w : World} {s : Sv} {l : List Tk} (h : Rk B w s l) : Rd w 3 l.length (svv s) (tkc l) := Rd.own h
theorem Rk.len {B : Nat} {w : World} {s : Sv} {l : List Tk} (h : Rk B w s l) : s.n = l.length := by
  obtain ⟨_, ao, cap, hv, _⟩ := Rd.own h
  simp only [svv, Value.slice.injEq] at hv
  exact hv.2.1
/-- What is owned as tokens. -/
theorem Rk.own {B C n c : Nat} {a : Option Addr} {w : World} {l : List Tk} (h : w.ownsRow B 39 3 (.slice a n c) n (tkc l)) (hC : C ≤ B) : Rk C w ⟨a, n, c⟩ l := by
  have hl : n = l.length := by have := h.1; rw [tkc_length] at this; omega
  subst hl
  exact own_mono h hC
def RKs (B : Nat) (w : World) : List Sv → List (List Tk) → Prop
  | [], [] => True
  | x :: xs, p :: ps => Rk B w x p ∧ RKs B w xs ps
  | _, _ => False
theorem RKs.mono {B : Nat} {w w' : World} (f : ∀ s l, Rk B w s l → Rk B w' s l) : ∀ {xs : List Sv} {ps : List (List Tk)}, RKs B w xs ps → RKs B w' xs ps
  | [], [], _ => trivial
  | x :: xs, p :: ps, h => ⟨f _ _ h.1, RKs.mono f h.2⟩
  | [], _ :: _, h => h
  | _ :: _, [], h => h
theorem RKs.len {B : Nat} {w : World} : ∀ {xs : List Sv} {ps : List (List Tk)}, RKs B w xs ps → xs.length = ps.length
  | [], [], _ => rfl
  | x :: xs, p :: ps, h => by simp [RKs.len h.2]
  | [], _ :: _, h => h.elim
  | _ :: _, [], h => h.elim
/-- Words and marks, whatever the world, at the slice that holds them. -/
theorem plainH (w0 : World) (hM : Mk w0) (ts : List ByteArray) (n : Nat) (hn0 : 0 < n) (hn : n ≤ 1000) (hs : ∀ t ∈ ts, t.size ≤ 1000) (L : List Tk) (hL : L = ts.map ptk) :
    Hid (∀ W B, Below w0.heap.size w0 W → Rd W 1 n (.slice (some ⟨B, 0, none⟩) n n) (ts.map Value.string) → Calls Tryd.prog 42 #[.slice (some ⟨B, 0, none⟩) n n] W (ToksIs L W)) := fun W B hW hv => by
  have hl : n = ts.length := by have := hv.1; simp at this; omega
  subst hL
  refine (plain_any W (hM.below hW) n _ ts hn0 hn hv hs).mono ?_
  rintro e w' ⟨v', h1, h2, h3⟩
  exact ⟨v', h1, by rw [List.length_map, ← hl]; exact h2, h3⟩
/-- An op that may be shown. -/
def OOk (o : Oq) : Prop := opF o.k o.v.k o.v.n o.v.t o.t = 0 ∧ -9223372036854775808 ≤ o.v.n ∧ o.v.n ≤ 9223372036854775807
theorem OOk.lit {o : Oq} (h : OOk o) (hk : o.k = 1) : VOk o.v := by
  refine ⟨?_, h.2⟩
  have := h.1
  unfold opF at this
  split at this
  · omega
  · split at this
    · omega
    · rename_i hh
      simpa using hh
theorem OOk.name {o : Oq} (h : OOk o) (hk : o.k = 2) : nmF o.t.data.toList = 0 := by
  have := h.1
  unfold opF at this
  repeat' (split at this)
  all_goals first | omega | assumption
abbrev oqV (o : Oq) : Value := .agg #[.int .i64 o.k, .int .i64 o.v.k, .int .i64 o.v.n, .string o.v.t, .string o.t]
theorem showOp_leaf (w : World) (hT : Tbp w) (o : Oq) (ho : OOk o) (hw : wks o.k = 0) (on : Value) : Calls Tryd.prog 77 #[oqV o, on] w (ToksIs (lfT o) w) := by
  have hk : o.k = 1 ∨ o.k = 2 := by
    unfold wks at hw
    split at hw
    · assumption
    · split at hw <;> omega
  have hlit := ho.lit
  have hnam := ho.name
  obtain ⟨k, ⟨vk, vn, vt⟩, t⟩ := o
  simp only at hk hlit hnam ⊢
  have hb0 : Below w.heap.size w (w.alloc (.cells #[.int .i64 k, .int .i64 vk, .int .i64 vn, .string vt, .string t] 46)) := (Below.refl _ _).alloc (Nat.le_refl _) _
  have HB0 := Lib.hid hb0
  rcases hk with rfl | rfl
  · have HV := Lib.hid (showValue_any _ (hT.below hb0) _ (hlit rfl))
    clear hT ho hw hlit hnam hb0
    go_enter Tryd.func77, Tryd.ntmps77
    go_wp2_with fail
    refine HV.out.mono ?_
    rintro e w1 ⟨v1, rfl, h1, h2⟩
    have H := Lib.hid (show ToksIs _ _ (.returned v1) w1 from ⟨v1, rfl, h1, h2⟩)
    clear h1 h2
    go_wp2_with fail
    go_ret
    exact ToksIs.from H.out HB0.out
  · have hn := nm_size (hnam rfl)
    have HP := Lib.hid (plain1 _ (hT.below hb0).b.m t (by omega) (w.heap.size + 1) (by simp))
    clear hT ho hw hlit hnam hb0 hn
    go_enter Tryd.func77, Tryd.ntmps77
    go_wp2_with fail
    refine HP.out.mono ?_
    rintro e w1 ⟨v1, rfl, h1, h2⟩
    have H := Lib.hid (show ToksIs _ _ (.returned v1) w1 from ⟨v1, rfl, h1, h2⟩)
    clear h1 h2
    go_wp2_with fail
    go_ret
    exact ToksIs.from H.out HB0.out
theorem wk_2 {k : Int} (h : wks k = 2) : k ≠ 1 ∧ k ≠ 2 ∧ k ≠ 5 ∧ k ≠ 11 := by
  unfold wks at h
  split at h
  · omega
  · split at h
    · omega
    · omega
theorem showOp_un (w : World) (hT : Tbp w) (o : Oq) (ho : OOk o) (hw : wks o.k = 1) (b p cap : Nat) (s : Sv) (A : List Tk) (hc : w.cell? ⟨b, p, none⟩ = some (svv s)) (C0 : Nat) (hr : Rk C0 w s A) (hA : A.length ≤ 1000) :
    Calls Tryd.prog 77 #[oqV o, .slice (some ⟨b, p, none⟩) 1 cap] w (ToksIs (onT o.k A) w) := by
  have hk : o.k = 5 ∨ o.k = 11 := by
    unfold wks at hw
    split at hw
    · omega
    · split at hw
      · assumption
      · omega
  obtain ⟨k, ⟨vk, vn, vt⟩, t⟩ := o
  obtain ⟨a0, n0, d0⟩ := s
  simp only at hk ⊢
  have hb0 : Below w.heap.size w (w.alloc (.cells #[.int .i64 k, .int .i64 vk, .int .i64 vn, .string vt, .string t] 46)) := (Below.refl _ _).alloc (Nat.le_refl _) _
  have HB0 := Lib.hid hb0
  have hn0 : n0 = A.length := hr.len
  have HC := Lib.hid (cell_blz hb0 hc)
  have HR : Hid (Rd (w.alloc (.cells #[.int .i64 k, .int .i64 vk, .int .i64 vn, .string vt, .string t] 46)) 3 n0 (.slice a0 n0 d0) (tkc A)) := by
    have := hr.rd.below hb0
    rw [← hn0] at this
    exact this
  clear hr hw hn0
  rcases hk with rfl | rfl
  · have HA := plainH _ (hT.below hb0).b.m [sOpen, sNOT] 2 (by omega) (by omega) (by simp; decide) [ptk sOpen, ptk sNOT] rfl
    have HB := plainH _ (hT.below hb0).b.m [sClose] 1 (by omega) (by omega) (by simp; decide) [ptk sClose] rfl
    have HLN : Hid ([ptk sOpen, ptk sNOT].length + (A.length + ([ptk sClose].length)) ≤ 1000000) := by
      show _ ≤ _
      simp only [List.length_cons, List.length_nil]
      omega
    clear hT ho hb0 hc
    go_enter Tryd.func77, Tryd.ntmps77
    go_wp2_with fail
    change Code.wp _ ((regionOf 7 (Tryd.f77.body.getD .skip)).getD .skip) _ _ _
    refine op7 _ _ _ _ _ _ _ _ _ _ _ _ _ _ _ _ _ _ _ _ _ _ _ _ _ _ _ _ _ _ _ _ _ _ _ _ _ _ _ _ _ _ _ _ _ _ _ _ _ _ _ _ _ _ _ _ _ _ w.heap.size (by simp) b p cap a0 n0 d0 A HC.out HR.out HA HB HLN (Lib.hid ?_)
    intro e20 e21 e22 e23 e24 e25 e26 e27 e28 vv w1 h
    have H := Lib.hid h
    clear h
    go_wp2_with fail
    go_ret
    exact ToksIs.from H.out HB0.out
  · have HA := plainH _ (hT.below hb0).b.m [sOpen] 1 (by omega) (by omega) (by simp; decide) [ptk sOpen] rfl
    have HB := plainH _ (hT.below hb0).b.m [sIS, sNULL, sClose] 3 (by omega) (by omega) (by simp; decide) [ptk sIS, ptk sNULL, ptk sClose] rfl
    have HLN : Hid ([ptk sOpen].length + (A.length + ([ptk sIS, ptk sNULL, ptk sClose].length)) ≤ 1000000) := by
      show _ ≤ _
      simp only [List.length_cons, List.length_nil]
      omega
    clear hT ho hb0 hc
    go_enter Tryd.func77, Tryd.ntmps77
    go_wp2_with fail
    change Code.wp _ ((regionOf 9 (Tryd.f77.body.getD .skip)).getD .skip) _ _ _
    refine op9 _ _ _ _ _ _ _ _ _ _ _ _ _ _ _ _ _ _ _ _ _ _ _ _ _ _ _ _ _ _ _ _ _ _ _ _ _ _ _ _ _ _ _ _ _ _ _ _ _ _ _ _ _ _ _ _ _ _ w.heap.size (by simp) b p cap a0 n0 d0 A HC.out HR.out HA HB HLN (Lib.hid ?_)
    intro e31 e32 e33 e34 e35 e36 e37 e38 e39 vv w1 h
    have H := Lib.hid h
    clear h
    go_wp2_with fail
    go_ret
    exact ToksIs.from H.out HB0.out
theorem showOp_bi (w : World) (hT : Tbp w) (o : Oq) (ho : OOk o) (hw : wks o.k = 2) (b p cap : Nat) (s r : Sv) (A C : List Tk) (hc : w.cell? ⟨b, p, none⟩ = some (svv s)) (hc1 : w.cell? ⟨b, p + 1, none⟩ = some (svv r)) (C0 : Nat) (hr : Rk C0 w s A) (hr1 : Rk C0 w r C) (hA : A.length ≤ 1000) (hC : C.length ≤ 1000) :
    Calls Tryd.prog 77 #[oqV o, .slice (some ⟨b, p, none⟩) 2 cap] w (ToksIs (twT o.k A C) w) := by
  obtain ⟨g1, g11⟩ := opF_kind ho.1
  obtain ⟨q1, q2, q5, q11⟩ := wk_2 hw
  obtain ⟨k, ⟨vk, vn, vt⟩, t⟩ := o
  obtain ⟨a0, n0, d0⟩ := s
  obtain ⟨a1, n1, d1⟩ := r
  simp only at g1 g11 q1 q2 q5 q11 ⊢
  obtain ⟨kn, rfl⟩ : ∃ kn : Nat, k = (kn : Int) := ⟨k.toNat, by omega⟩
  have hb0 : Below w.heap.size w (w.alloc (.cells #[.int .i64 (kn : Int), .int .i64 vk, .int .i64 vn, .string vt, .string t] 46)) := (Below.refl _ _).alloc (Nat.le_refl _) _
  have HB0 := Lib.hid hb0
  have hn0 : n0 = A.length := hr.len
  have hn1 : n1 = C.length := hr1.len
  have HC := Lib.hid (cell_blz hb0 hc)
  have HC1 := Lib.hid (cell_blz hb0 hc1)
  have HR : Hid (Rd (w.alloc (.cells #[.int .i64 (kn : Int), .int .i64 vk, .int .i64 vn, .string vt, .string t] 46)) 3 n0 (.slice a0 n0 d0) (tkc A)) := by
    have := hr.rd.below hb0
    rw [← hn0] at this
    exact this
  have HR1 : Hid (Rd (w.alloc (.cells #[.int .i64 (kn : Int), .int .i64 vk, .int .i64 vn, .string vt, .string t] 46)) 3 n1 (.slice a1 n1 d1) (tkc C)) := by
    have := hr1.rd.below hb0
    rw [← hn1] at this
    exact this
  have hsgs := sg_size kn (by omega)
  have hsz : (sgT (kn : Int)).size ≤ 1000 := by
    show (sgL.getD (Int.toNat (kn : Int)) []).toArray.size ≤ 1000
    rw [List.size_toArray]
    simp only [Int.toNat_natCast]
    omega
  have hsg := sg_at (hT.below hb0).s (k := kn) (by omega)
  have HSG : Hid ((w.alloc (.cells #[.int .i64 (kn : Int), .int .i64 vk, .int .i64 vn, .string vt, .string t] 46)).cell? ⟨4, kn, none⟩ = some (.string (sgT (kn : Int)))) := hsg
  have HA := plainH _ (hT.below hb0).b.m [sOpen] 1 (by omega) (by omega) (by simp; decide) [ptk sOpen] rfl
  have HB := plainH _ (hT.below hb0).b.m [sClose] 1 (by omega) (by omega) (by simp; decide) [ptk sClose] rfl
  have HS := plainH _ (hT.below hb0).b.m [sgT (kn : Int)] 1 (by omega) (by omega) (by simpa using hsz) [ptk (sgT (kn : Int))] rfl
  have HF : Hid (twT (kn : Int) A C = [ptk sOpen] ++ (A ++ ([ptk (sgT (kn : Int))] ++ (C ++ [ptk sClose])))) := rfl
  obtain ⟨sg, hsgq⟩ : ∃ sg, sg = sgT (kn : Int) := ⟨_, rfl⟩
  rw [← hsgq] at HSG HS HF
  have HLN : Hid ([ptk sOpen].length + (A.length + ([ptk sg].length + (C.length + ([ptk sClose].length)))) ≤ 1000000) := by
    show _ ≤ _
    simp only [List.length_cons, List.length_nil]
    omega
  have e1 : ((kn : Int) == 1) = false := by simpa using q1
  have e2 : ((kn : Int) == 2) = false := by simpa using q2
  have e5 : ((kn : Int) == 5) = false := by simpa using q5
  have e11 : ((kn : Int) == 11) = false := by simpa using q11
  have hkl : (kn : Int) < 11 := by omega
  clear hT ho hb0 hc hc1 hr hr1 hw hn0 hn1 hsgs hsz hsg hsgq q1 q2 q5 q11 g1 g11
  go_enter Tryd.func77, Tryd.ntmps77
  go_wp2_with fail
  change Code.wp _ ((regionOf 10 (Tryd.f77.body.getD .skip)).getD .skip) _ _ _
  refine op10 _ _ _ _ _ _ _ _ _ _ _ _ _ _ _ _ _ _ _ _ _ _ _ _ _ _ _ _ _ _ _ _ _ _ _ _ _ _ _ _ _ _ _ _ _ _ _ _ _ _ _ _ _ _ _ _ _ _ w.heap.size (by simp) b p cap a0 n0 d0 A a1 n1 d1 C kn sg hkl HC.out HC1.out (by simp) HSG.out HR.out HR1.out HA HB HS HLN (Lib.hid ?_)
  intro e40 e41 e42 e43 e44 e45 e46 e47 e48 e49 e50 e51 e52 e53 e54 e55 e56 e57 vv w1 h
  have H := Lib.hid h
  clear h
  go_wp2_with fail
  go_ret
  rw [HF.out]
  exact ToksIs.from H.out HB0.out
end Go.Proofs.YtnheepkmaibofaaDoor.cs

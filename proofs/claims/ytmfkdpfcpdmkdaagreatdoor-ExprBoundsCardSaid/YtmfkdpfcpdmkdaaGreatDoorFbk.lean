import Derived.Test.YtmfkdpfcpdmkdaaGreatDoorEck
import Derived.Test.YtmfkdpfcpdmkdaaGreatDoorCxk
/- Parts of expressions in memory; the program's small functions on them. -/
namespace Go.Proofs.YtmfkdpfcpdmkdaaGreatDoor.bd
open Go.ChangeShapes Go.WideShapes Go.ChangeAt Go.RowKit
set_option linter.unusedVariables false
set_option linter.unusedSimpArgs false
set_option maxHeartbeats 400000
/-- A slice; a part of slices; its cells. -/
structure Sl where
  a : Option Addr
  n : Nat
  c : Nat
abbrev sv (s : Sl) : Value := .slice s.a s.n s.c
def nsl : Sl := ⟨none, 0, 0⟩
structure Pv where
  f : Bool
  k : Sl
  hl : Sl
  hh : Sl
  fl : Sl
  fh : Sl
def npv : Pv := ⟨false, nsl, nsl, nsl, nsl, nsl⟩
abbrev p6 (x : Pv) : Array Value := #[.bool x.f, sv x.k, sv x.hl, sv x.hh, sv x.fl, sv x.fh]
abbrev pva (x : Pv) : Value := .agg #[.bool x.f, sv x.k, sv x.hl, sv x.hh, sv x.fl, sv x.fh]
def pcs : List Pv → List Value
  | [] => []
  | x :: l => .bool x.f :: sv x.k :: sv x.hl :: sv x.hh :: sv x.fl :: sv x.fh :: pcs l
theorem pcs_length : ∀ l : List Pv, (pcs l).length = l.length * 6
  | [] => rfl
  | v :: l => by simp [pcs, pcs_length l]; omega
theorem pcs_app : ∀ l m : List Pv, pcs (l ++ m) = pcs l ++ pcs m
  | [], _ => rfl
  | v :: l, m => by simp [pcs, pcs_app l m]
theorem pcs_take : ∀ (l : List Pv) (k : Nat), (pcs l).take (k * 6) = pcs (l.take k)
  | [], k => by simp [pcs]
  | a :: l, 0 => by simp [pcs]
  | a :: l, k + 1 => by
    have e : (k + 1) * 6 = k * 6 + 1 + 1 + 1 + 1 + 1 + 1 := by omega
    rw [e, pcs]
    simp only [List.take_succ_cons, pcs_take l k]
    rfl
theorem pcs_one : ∀ (l : List Pv), ∀ u ∈ pcs l, u.oneCell' = true
  | [], u, hu => by simp [pcs] at hu
  | v :: l, u, hu => by
    simp only [pcs, List.mem_cons] at hu
    rcases hu with rfl | rfl | rfl | rfl | rfl | rfl | hu
    · rfl
    · rfl
    · rfl
    · rfl
    · rfl
    · rfl
    · exact pcs_one l u hu
theorem pcs_at : ∀ {l : List Pv} {k : Nat}, k < l.length → (pcs l)[k * 6]? = some (.bool (l.getD k npv).f) ∧ (pcs l)[k * 6 + 1]? = some (sv (l.getD k npv).k) ∧ (pcs l)[k * 6 + 2]? = some (sv (l.getD k npv).hl) ∧ (pcs l)[k * 6 + 3]? = some (sv (l.getD k npv).hh) ∧ (pcs l)[k * 6 + 4]? = some (sv (l.getD k npv).fl) ∧ (pcs l)[k * 6 + 5]? = some (sv (l.getD k npv).fh)
  | [], k, h => by simp at h
  | v :: l, 0, _ => by simp [pcs]
  | v :: l, k + 1, h => by
    have ih := pcs_at (l := l) (k := k) (by simpa using h)
    have e : (k + 1) * 6 = k * 6 + 1 + 1 + 1 + 1 + 1 + 1 := by omega
    rw [e]
    simpa [pcs] using ih
/-- The slice reads as these bytes, in a block of bytes. -/
def Rt (w : World) (s : Sl) (l : List UInt8) : Prop := Rd w 1 l.length (sv s) (bc l) ∧ ∀ a, s.a = some a → ∃ cur sp, w.heap[a.block]? = some (.cells cur 5 sp)
theorem add_block (a : Addr) (j : Nat) : (a.add j).block = a.block := by
  obtain ⟨b, o, s⟩ := a
  simp only [Addr.add]
  split <;> rfl
theorem Rt.same {w w' : World} {s : Sl} {l : List UInt8} (h : Rt w s l) (hb : ∀ a, s.a = some a → w'.heap[a.block]? = w.heap[a.block]?) : Rt w' s l := by
  obtain ⟨⟨h1, ao, cap, h2, h3, h4, h5, h6⟩, h7⟩ := h
  have hs : s.a = ao := by
    have := h2
    simp only [sv, Value.slice.injEq] at this
    exact this.1
  refine ⟨⟨h1, ao, cap, h2, h3, h4, h5, fun a ha j u hu => ?_⟩, fun a ha => ?_⟩
  · have h8 := h6 a ha j u hu
    have h9 := hb a (hs.trans ha)
    unfold World.cell? at h8 ⊢
    rw [add_block] at h8 ⊢
    rw [h9]
    exact h8
  · obtain ⟨cur, sp, h8⟩ := h7 a ha
    exact ⟨cur, sp, (hb a ha).trans h8⟩
theorem Rt.below {w w' : World} {s : Sl} {l : List UInt8} (h : Rt w s l) (hb : Below w.heap.size w w') : Rt w' s l := by
  refine h.same fun a ha => ?_
  obtain ⟨cur, sp, h8⟩ := h.2 a ha
  refine hb.block _ ?_
  rcases Nat.lt_or_ge a.block w.heap.size with g | g
  · exact g
  · rw [Array.getElem?_eq_none g] at h8; cases h8
/-- A block of another type may be written. -/
theorem Rt.set {w : World} {s : Sl} {l : List UInt8} {B i : Nat} {cs : Array Value} {T : TypeId} {fr : Nat × Nat} (h : Rt w s l) (hB : w.heap[B]? = some (.cells cs T fr)) (hT : T ≠ 5) (x : Value) : Rt (w.setCell ⟨B, i, none⟩ x) s l := by
  refine h.same fun a ha => ?_
  obtain ⟨cur, sp, h8⟩ := h.2 a ha
  refine Below.heap_setCell _ _ _ _ (fun e => ?_)
  have e : a.block = B := e
  rw [e, hB] at h8
  simp only [Option.some.injEq, Obj.cells.injEq] at h8
  exact hT h8.2.1
theorem Rt.nil (w : World) : Rt w nsl [] := ⟨Rd.nil w 1, fun a ha => by cases ha⟩
theorem own_ty {w : World} {B e s n g : Nat} {v : Value} {xs : List Value} (h : w.ownsRow B e s v n xs) (hg : v.ownBlock = some g) : ∃ cur sp, w.heap[g]? = some (.cells cur e sp) := by
  obtain ⟨h1, h2⟩ := h
  rcases h2 with ⟨hv, _⟩ | ⟨g', cap, cur, hv, hb, hg', hnc, hcm, _⟩
  · rw [hv] at hg; simp [Value.ownBlock] at hg
  · rw [hv] at hg
    cases hg
    exact ⟨_, _, hg'⟩
theorem Rt.grown {w w' : World} {s : Sl} {l : List UInt8} {B e z n : Nat} {v : Value} {xs : List Value} (h : Rt w s l) (hown : w.ownsRow B e z v n xs) (hg : w.grownBy w' v.ownBlock) (hT : e ≠ 5) : Rt w' s l := by
  refine h.same fun a ha => ?_
  obtain ⟨cur, sp, h8⟩ := h.2 a ha
  have hlt : a.block < w.heap.size := by
    rcases Nat.lt_or_ge a.block w.heap.size with g | g
    · exact g
    · rw [Array.getElem?_eq_none g] at h8; cases h8
  refine hg.block _ hlt (fun e1 => ?_)
  obtain ⟨c2, s2, h9⟩ := own_ty hown e1.symm
  rw [h8] at h9
  simp only [Option.some.injEq, Obj.cells.injEq] at h9
  exact hT h9.2.1.symm
/-- What is owned as bytes. -/
theorem Rt.own {w : World} {B n : Nat} {v : Value} {l : List UInt8} (h : w.ownsRow B 5 1 v n (bc l)) : ∃ s, v = sv s ∧ Rt w s l := by
  have hl : n = l.length := len_b (Rd.own h)
  subst hl
  obtain ⟨_, ao, cap, rfl, _⟩ := Rd.own h
  refine ⟨⟨ao, l.length, cap⟩, rfl, Rd.own h, fun a ha => ?_⟩
  have ha : ao = some a := ha
  subst ha
  rcases h.2 with ⟨h0, _⟩ | ⟨g, c, cur, hv, h1, h2, _⟩
  · simp at h0
  · simp only [Value.slice.injEq, Option.some.injEq] at hv
    obtain ⟨rfl, _, rfl⟩ := hv
    exact ⟨_, _, h2⟩
theorem Rt.len {w : World} {s : Sl} {l : List UInt8} (h : Rt w s l) : s.n = l.length ∧ l.length ≤ maxLen := by
  have h2 := h.1.len
  obtain ⟨⟨_, ao, cap, h1, _⟩, _⟩ := h
  simp only [sv, Value.slice.injEq] at h1
  exact ⟨h1.2.1, h2⟩
/-- The part of slices reads as this one. -/
def RP (w : World) (x : Pv) (p : Pt) : Prop := x.f = p.f ∧ Rt w x.k p.k ∧ Rt w x.hl p.hl ∧ Rt w x.hh p.hh ∧ Rt w x.fl p.fl ∧ Rt w x.fh p.fh
theorem RP.mono {w w' : World} {x : Pv} {p : Pt} (h : RP w x p) (f : ∀ s l, Rt w s l → Rt w' s l) : RP w' x p := ⟨h.1, f _ _ h.2.1, f _ _ h.2.2.1, f _ _ h.2.2.2.1, f _ _ h.2.2.2.2.1, f _ _ h.2.2.2.2.2⟩
theorem RP.below {w w' : World} {x : Pv} {p : Pt} (h : RP w x p) (hb : Below w.heap.size w w') : RP w' x p := h.mono fun _ _ g => g.below hb
theorem RP.np (w : World) : RP w npv np := ⟨rfl, Rt.nil w, Rt.nil w, Rt.nil w, Rt.nil w, Rt.nil w⟩
def RPs (w : World) : List Pv → List Pt → Prop
  | [], [] => True
  | x :: xs, p :: ps => RP w x p ∧ RPs w xs ps
  | _, _ => False
theorem RPs.mono {w w' : World} (f : ∀ s l, Rt w s l → Rt w' s l) : ∀ {xs : List Pv} {ps : List Pt}, RPs w xs ps → RPs w' xs ps
  | [], [], _ => trivial
  | x :: xs, p :: ps, h => ⟨h.1.mono f, RPs.mono f h.2⟩
  | [], _ :: _, h => h
  | _ :: _, [], h => h
theorem RPs.len {w : World} : ∀ {xs : List Pv} {ps : List Pt}, RPs w xs ps → xs.length = ps.length
  | [], [], _ => rfl
  | x :: xs, p :: ps, h => by simp [RPs.len h.2]
  | [], _ :: _, h => h.elim
  | _ :: _, [], h => h.elim
/-- What a call that makes a part answers. -/
def PartIs (r : Int × Pt) (w : World) (e : Ending) (w' : World) : Prop := ∃ x : Pv, e = .returned (.tuple #[pva x, .int .i64 r.1]) ∧ RP w' x r.2 ∧ Below w.heap.size w w'
/-- A box of six cells. -/
theorem box6 {w : World} {B : Nat} {a b c d e f : Value} {T : TypeId} (h : w.heap[B]? = some (.cells #[a, b, c, d, e, f] T (0, 0))) :
    w.cell? ⟨B, 0, none⟩ = some a ∧ w.cell? ⟨B, 1, none⟩ = some b ∧ w.cell? ⟨B, 2, none⟩ = some c ∧ w.cell? ⟨B, 3, none⟩ = some d ∧ w.cell? ⟨B, 4, none⟩ = some e ∧ w.cell? ⟨B, 5, none⟩ = some f ∧ w.frozen? ⟨B, 0, none⟩ = false ∧ w.frozen? ⟨B, 1, none⟩ = false ∧ w.frozen? ⟨B, 2, none⟩ = false ∧ w.frozen? ⟨B, 3, none⟩ = false ∧ w.frozen? ⟨B, 4, none⟩ = false ∧ w.frozen? ⟨B, 5, none⟩ = false := by
  refine ⟨?_, ?_, ?_, ?_, ?_, ?_, ?_, ?_, ?_, ?_, ?_, ?_⟩ <;> (simp only [World.cell?, World.frozen?]; rw [h]; rfl)
abbrev set6 (w : World) (B : Nat) (a b c d e f : Value) : World := (((((w.setCell ⟨B, 0, none⟩ a).setCell ⟨B, 1, none⟩ b).setCell ⟨B, 2, none⟩ c).setCell ⟨B, 3, none⟩ d).setCell ⟨B, 4, none⟩ e).setCell ⟨B, 5, none⟩ f
theorem heap6 {w : World} {B : Nat} {a b c d e f : Value} {T : TypeId} (h : w.heap[B]? = some (.cells #[a, b, c, d, e, f] T (0, 0))) (a' b' c' d' e' f' : Value) : (set6 w B a' b' c' d' e' f').heap[B]? = some (.cells #[a', b', c', d', e', f'] T (0, 0)) := by
  have h1 := Lib.heap_setCell_same (i := 5) (Lib.heap_setCell_same (i := 4) (Lib.heap_setCell_same (i := 3) (Lib.heap_setCell_same (i := 2) (Lib.heap_setCell_same (i := 1) (Lib.heap_setCell_same (i := 0) h a') b') c') d') e') f'
  simpa using h1
theorem st6 {w0 w : World} {B : Nat} {a b c d e f : Value} {T : TypeId} (hb : Below B w0 w) (h : w.heap[B]? = some (.cells #[a, b, c, d, e, f] T (0, 0))) (a' b' c' d' e' f' : Value) :
    Below B w0 (set6 w B a' b' c' d' e' f') ∧ B < (set6 w B a' b' c' d' e' f').heap.size ∧ (set6 w B a' b' c' d' e' f').heap[B]? = some (.cells #[a', b', c', d', e', f'] T (0, 0)) := by
  have hB := heap6 h a' b' c' d' e' f'
  have h0 := hb.setCell (p := ⟨B, 0, none⟩) (Nat.le_refl B) a'
  have h1 := h0.setCell (p := ⟨B, 1, none⟩) (Nat.le_refl B) b'
  have h2 := h1.setCell (p := ⟨B, 2, none⟩) (Nat.le_refl B) c'
  have h3 := h2.setCell (p := ⟨B, 3, none⟩) (Nat.le_refl B) d'
  have h4 := h3.setCell (p := ⟨B, 4, none⟩) (Nat.le_refl B) e'
  have h5 := h4.setCell (p := ⟨B, 5, none⟩) (Nat.le_refl B) f'
  refine ⟨h5, ?_, hB⟩
  rcases Nat.lt_or_ge B (set6 w B a' b' c' d' e' f').heap.size with g | g
  · exact g
  · rw [Array.getElem?_eq_none g] at hB; cases hB
theorem Rt.set6 {w : World} {s : Sl} {l : List UInt8} {B : Nat} {a b c d e f : Value} {T : TypeId} (h : Rt w s l) (hB : w.heap[B]? = some (.cells #[a, b, c, d, e, f] T (0, 0))) (hT : T ≠ 5) (a' b' c' d' e' f' : Value) : Rt (bd.set6 w B a' b' c' d' e' f') s l := by
  have h0 := Lib.heap_setCell_same (i := 0) hB a'
  have h1 := Lib.heap_setCell_same (i := 1) h0 b'
  have h2 := Lib.heap_setCell_same (i := 2) h1 c'
  have h3 := Lib.heap_setCell_same (i := 3) h2 d'
  have h4 := Lib.heap_setCell_same (i := 4) h3 e'
  exact (((((h.set hB hT a').set h0 hT b').set h1 hT c').set h2 hT d').set h3 hT e').set h4 hT f'
/-- What is read behind each store. -/
theorem st6c {w : World} {B : Nat} {x0 x1 x2 x3 x4 x5 : Value} {T : TypeId} (h : w.heap[B]? = some (.cells #[x0, x1, x2, x3, x4, x5] T (0, 0))) (a b c d e f : Value) :
    (w.setCell ⟨B, 0, none⟩ a).cell? ⟨B, 0, none⟩ = some a ∧ ((w.setCell ⟨B, 0, none⟩ a).setCell ⟨B, 1, none⟩ b).cell? ⟨B, 1, none⟩ = some b ∧ (((w.setCell ⟨B, 0, none⟩ a).setCell ⟨B, 1, none⟩ b).setCell ⟨B, 2, none⟩ c).cell? ⟨B, 2, none⟩ = some c ∧ ((((w.setCell ⟨B, 0, none⟩ a).setCell ⟨B, 1, none⟩ b).setCell ⟨B, 2, none⟩ c).setCell ⟨B, 3, none⟩ d).cell? ⟨B, 3, none⟩ = some d ∧ (((((w.setCell ⟨B, 0, none⟩ a).setCell ⟨B, 1, none⟩ b).setCell ⟨B, 2, none⟩ c).setCell ⟨B, 3, none⟩ d).setCell ⟨B, 4, none⟩ e).cell? ⟨B, 4, none⟩ = some e ∧ (set6 w B a b c d e f).cell? ⟨B, 5, none⟩ = some f := by
  have h0 := Lib.heap_setCell_same (i := 0) h a
  have h1 := Lib.heap_setCell_same (i := 1) h0 b
  have h2 := Lib.heap_setCell_same (i := 2) h1 c
  have h3 := Lib.heap_setCell_same (i := 3) h2 d
  have h4 := Lib.heap_setCell_same (i := 4) h3 e
  have h5 := Lib.heap_setCell_same (i := 5) h4 f
  refine ⟨?_, ?_, ?_, ?_, ?_, ?_⟩
  · simp only [World.cell?]; rw [h0]; simp
  · simp only [World.cell?]; rw [h1]; simp
  · simp only [World.cell?]; rw [h2]; simp
  · simp only [World.cell?]; rw [h3]; simp
  · simp only [World.cell?]; rw [h4]; simp
  · simp only [World.cell?]; rw [h5]; simp
theorem own_cell6 {w : World} {B e n cap : Nat} {ao : Option Addr} {l : List Pv} (h : w.ownsRow B e 6 (.slice ao n cap) n (pcs l)) {j : Nat} {x : Pv} (hj : l[j]? = some x) : ∃ g, ao = some ⟨g, 0, none⟩ ∧ w.cell? ⟨g, j * 6, none⟩ = some (.bool x.f) ∧ w.cell? ⟨g, j * 6 + 1, none⟩ = some (sv x.k) ∧ w.cell? ⟨g, j * 6 + 2, none⟩ = some (sv x.hl) ∧ w.cell? ⟨g, j * 6 + 3, none⟩ = some (sv x.hh) ∧ w.cell? ⟨g, j * 6 + 4, none⟩ = some (sv x.fl) ∧ w.cell? ⟨g, j * 6 + 5, none⟩ = some (sv x.fh) := by
  have hjl : j < l.length := (List.getElem?_eq_some_iff.1 hj).1
  have hl := h.1
  rw [pcs_length] at hl
  have hx : l.getD j npv = x := by rw [List.getD_eq_getElem?_getD, hj]; rfl
  rcases h.2 with ⟨hv, h0⟩ | ⟨g, c, cur, hv, _⟩
  · omega
  · simp only [Value.slice.injEq] at hv
    obtain ⟨rfl, _, rfl⟩ := hv
    obtain ⟨c0, c1, c2, c3, c4, c5⟩ := pcs_at hjl
    rw [hx] at c0 c1 c2 c3 c4 c5
    have hc : ∀ i u, (pcs l)[i]? = some u → w.cell? ⟨g, i, none⟩ = some u := fun i u hu => by
      have h1 := h.cells rfl _ _ hu
      rwa [Addr.add_lit, Nat.zero_add] at h1
    exact ⟨g, rfl, hc _ _ c0, hc _ _ c1, hc _ _ c2, hc _ _ c3, hc _ _ c4, hc _ _ c5⟩
theorem Tryz.info39 : (Tryz.prog.info? 39).map (fun i => (i.zero, i.size, i.bytes)) = some (some (.agg #[.bool false, .slice none 0 0, .slice none 0 0, .slice none 0 0, .slice none 0 0, .slice none 0 0]), 6, 128) := by kernel_rfl
theorem pt_ne : 39 ≠ 5 := by decide
end Go.Proofs.YtmfkdpfcpdmkdaaGreatDoor.bd

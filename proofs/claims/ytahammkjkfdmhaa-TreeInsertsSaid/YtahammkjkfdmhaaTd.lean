/- Bytes, numbers and keys anew, in memory of the call's own. -/
import Derived.Test.YtahammkjkfdmhaaH5
import Derived.Test.YtahammkjkfdmhaaB1
import Derived.Lib.SliceRun
import Derived.Laws.MakeOwn
namespace Go.Proofs.Ytahammkjkfdmhaa
open Go.ChangeShapes Go.WideShapes Go.ChangeAt Go.RowKit
set_option linter.unusedVariables false
set_option linter.unusedSimpArgs false
set_option maxHeartbeats 4000000
set_option maxRecDepth 100000
theorem own_hd {w : World} {B e s n : Nat} {v : Value} {xs : List Value} (h : w.ownsRow B e s v n xs) (hn : 0 < n) : ∃ g cap, v = .slice (some ⟨g, 0, none⟩) n cap ∧ B ≤ g ∧ g < w.heap.size ∧ n ≤ cap ∧ cap ≤ maxLen := by
  rcases h.2 with ⟨_, h0⟩ | ⟨g, cap, cur, hv, hb, hg, hnc, hcm, _⟩
  · omega
  · exact ⟨g, cap, hv, hb, (Array.getElem?_eq_some_iff.1 hg).1, hnc, hcm⟩
/-- What is owned reads so, in its own block. -/
theorem own_at {w : World} {B e s n : Nat} {v : Value} {xs : List Value} (h : w.ownsRow B e s v n xs) : At (fun b => v.ownBlock = some b) v := by
  intro a m c hv hm
  rcases h.2 with ⟨h0, _⟩ | ⟨g, cap, cur, hv', _⟩
  · rw [h0] at hv; simp at hv
  · rw [hv'] at hv
    simp only [Value.slice.injEq, Option.some.injEq] at hv
    obtain ⟨rfl, -, -⟩ := hv
    rw [hv']
    rfl
theorem bclone_any (w : World) (n : Nat) (v : Value) (l : List UInt8) (hr : Rd w 1 n v (bc l)) (hn : n ≤ 1000000) :
    Calls Try.prog 17 #[v] w fun e w' => ∃ a c, e = .returned (.slice a n c) ∧ w'.ownsRow w.heap.size 5 1 (.slice a n c) n (bc l) ∧ Below w.heap.size w w' := by
  have hml := len_b hr
  obtain ⟨h1, ao, cap, rfl, h2, h3, h4, h5⟩ := id hr
  have q : ∀ (w : World) (a : Option Addr) (n c n' c' : Nat), (binOp .eql 25 (.slice a n c) (.slice none n' c')).run Try.prog w = .ok (.bool a.isNone) w := fun w a n c n' c' => Lib.run_eql_slice_nil w _ _ a n c n' c' Try.underlying25
  cases ao with
  | none =>
    obtain ⟨rfl, rfl⟩ := h4 rfl
    have hl0 : l = [] := List.eq_nil_of_length_eq_zero hml.symm
    subst hl0
    clear hr h1 h5 hml
    go_enter Try.func17, Try.ntmps17
    go_wp2
    go_ret
    exact ⟨_, _, rfl, World.ownsRow_nil _ _ _ _, Below.refl _ _⟩
  | some a =>
    have HR := Lib.hid (hr.below ((Below.refl _ w).alloc (Nat.le_refl _) (.cells #[] 5)))
    clear hr h1 h5 h4 hml
    go_enter Try.func17, Try.ntmps17
    go_wp2_with (at_builtin; refine apg (w.alloc (.cells #[] 5)) n rfl _ _ 25 5 _ 1 1 Try.underlying25 Try.info5 rfl (by omega) rfl (World.ownsRow_made (base := w.heap.size) w #[] 0 (Nat.le_refl _) (Nat.zero_le _) rfl) (by simp) (by omega) (by unfold maxLen; omega) (bc_one _) HR.out rfl rfl ?_; intro v1 w1 hown1 hb1 _; have HO := Lib.hid hown1; have HB := Lib.hid hb1; clear hown1 hb1)
    go_ret
    have ho := HO.out
    simp only [Nat.zero_add, List.nil_append] at ho
    obtain ⟨_, a1, c1, rfl, _⟩ := Rd.own ho
    exact ⟨_, _, rfl, ho, (((Below.refl _ w).alloc (Nat.le_refl _) _)).trans (HB.out.mono (Nat.le_refl _))⟩
theorem iclone_any (w : World) (n : Nat) (v : Value) (l : List Int) (hl : n = l.length) (hr : Rd w 1 n v (ic l)) (hn : n ≤ 1000000) :
    Calls Try.prog 46 #[v] w fun e w' => ∃ a c, e = .returned (.slice a n c) ∧ w'.ownsRow w.heap.size 3 1 (.slice a n c) n (ic l) ∧ Below w.heap.size w w' := by
  obtain ⟨h1, ao, cap, rfl, h2, h3, h4, h5⟩ := id hr
  have q : ∀ (w : World) (a : Option Addr) (n c n' c' : Nat), (binOp .eql 37 (.slice a n c) (.slice none n' c')).run Try.prog w = .ok (.bool a.isNone) w := fun w a n c n' c' => Lib.run_eql_slice_nil w _ _ a n c n' c' Try.underlying37
  cases ao with
  | none =>
    obtain ⟨rfl, rfl⟩ := h4 rfl
    have hl0 : l = [] := List.eq_nil_of_length_eq_zero hl.symm
    subst hl0
    clear hr h1 h5 hl
    go_enter Try.func46, Try.ntmps46
    go_wp2
    go_ret
    exact ⟨_, _, rfl, World.ownsRow_nil _ _ _ _, Below.refl _ _⟩
  | some a =>
    have HR := Lib.hid (hr.below ((Below.refl _ w).alloc (Nat.le_refl _) (.cells #[] 3)))
    clear hr h1 h5 h4 hl
    go_enter Try.func46, Try.ntmps46
    go_wp2_with (at_builtin; refine apg (w.alloc (.cells #[] 3)) n rfl _ _ 37 3 _ 1 8 Try.underlying37 Try.info3 rfl (by omega) rfl (World.ownsRow_made (base := w.heap.size) w #[] 0 (Nat.le_refl _) (Nat.zero_le _) rfl) (by simp) (by omega) (by unfold maxLen; omega) (ic_one _) HR.out rfl rfl ?_; intro v1 w1 hown1 hb1 _; have HO := Lib.hid hown1; have HB := Lib.hid hb1; clear hown1 hb1)
    go_ret
    have ho := HO.out
    simp only [Nat.zero_add, List.nil_append] at ho
    obtain ⟨_, a1, c1, rfl, _⟩ := Rd.own ho
    exact ⟨_, _, rfl, ho, (((Below.refl _ w).alloc (Nat.le_refl _) _)).trans (HB.out.mono (Nat.le_refl _))⟩
theorem Try.info25 : (Try.prog.info? 25).map (fun i => (i.zero, i.size, i.bytes)) = some (some (.slice none 0 0), 1, 24) := by kernel_rfl
/-- A made row is owned. -/
theorem own_make {w : World} {C : Array Value} {e n s : Nat} (hC : C.size = n * s) (hn : n ≤ maxLen) : (w.alloc (.cells C e)).ownsRow w.heap.size e s (.slice (some ⟨w.heap.size, 0, none⟩) n n) n C.toList :=
  ⟨by simpa using hC, .inr ⟨w.heap.size, n, C, rfl, Nat.le_refl _, heap_alloc_new w _, Nat.le_refl _, hn, hC, by rw [List.take_of_length_le]; simp [hC]⟩⟩
/-- Keys in a row: so many of them, each in memory of which ok holds. -/
def KsAt (w : World) (ok : Nat → Prop) (vs : List Value) (ks : List Key) (m : Nat) : Prop := ∀ (i : Nat) (k : Key), i < m → ks[i]? = some k → ∃ x, vs[i]? = some x ∧ RB w ok x k
theorem KsAt.below {w w' : World} {ok : Nat → Prop} {vs : List Value} {ks : List Key} {m : Nat} (h : KsAt w ok vs ks m) (hb : Below w.heap.size w w') : KsAt w' ok vs ks m := fun i k hi hk => by
  obtain ⟨x, h1, h2⟩ := h i k hi hk
  exact ⟨x, h1, h2.below hb⟩
theorem KsAt.put {w w' : World} {ok : Nat → Prop} {vs : List Value} {ks : List Key} {m : Nat} {x : Value} {k : Key} (h : KsAt w ok vs ks m) (ha : Agree ok w w') (hm : m < vs.length) (hk : ks[m]? = some k) (hx : RB w' ok x k) : KsAt w' ok (vs.set m x) ks (m + 1) := fun i k' hi hk' => by
  by_cases e : i = m
  · subst e
    rw [hk] at hk'
    cases hk'
    exact ⟨x, by simp [hm], hx⟩
  · obtain ⟨y, h1, h2⟩ := h i k' (by omega) hk'
    exact ⟨y, by rw [List.getElem?_set_ne (by omega)]; exact h1, h2.agree ha⟩
/-- Keys anew: in a row that is just as long. -/
def KeysIs (w : World) (ks : List Key) (e : Ending) (w' : World) : Prop :=
  ∃ vs, e = .returned (.slice (some ⟨w.heap.size, 0, none⟩) ks.length ks.length) ∧ w'.ownsRow w.heap.size 25 1 (.slice (some ⟨w.heap.size, 0, none⟩) ks.length ks.length) ks.length vs ∧ KsAt w' (fun b => w.heap.size < b) vs ks ks.length ∧ Below w.heap.size w w'
theorem eachK_any (w : World) (ok : Nat → Prop) (v : Value) (ks : List Key) (hr : RK w ok v ks) (hn : ks.length ≤ 100000) (hs : ∀ k ∈ ks, k.length ≤ 1000000) :
    Calls Try.prog 61 #[v, .func (.func 17) #[] #[]] w (KeysIs w ks) := by
  obtain ⟨ao, cap, f, rfl, g1, g2, g3⟩ := keysF hr
  obtain ⟨n, hnn⟩ : ∃ n, n = ks.length := ⟨_, rfl⟩
  obtain ⟨CS, hCS⟩ : ∃ CS, CS = madeCells (Value.slice none 0 0).cells (n * 1) := ⟨_, rfl⟩
  have hmk : ∀ W : World, (Instr.makeSlice 41 (.int .i64 (n : Int)) (.int .i64 (n : Int))).run Try.prog W = .ok (.slice (some ⟨W.heap.size, 0, none⟩) n n) (W.alloc (.cells CS 25)) := fun W => by
    obtain ⟨i0, e0, e1, e2, e3⟩ := info_parts Try.info25
    have := run_make (P := Try.prog) W 41 25 i0 _ Try.underlying41 e0 e1 .i64 .i64 (n : Int) (n : Int) (by omega) (by omega) (by rw [e3]; omega) (by omega)
    rw [e2] at this
    rw [hCS]
    simpa using this
  have hsz : CS.size = n * 1 := by rw [hCS, size_madeCells]
  have hown0 := own_make (w := w) (e := 25) (s := 1) hsz (by unfold maxLen; omega)
  have HO0 := Lib.hid hown0
  rw [← hnn] at g1 g3 hn
  unfold KeysIs
  rw [← hnn]
  have hget : ∀ i, i < n → ks[i]? = some (ks.getD i []) ∧ (ks.getD i []).length ≤ 1000000 := fun i hi => by
    have hi' : i < ks.length := by rw [← hnn]; exact hi
    have e : ks.getD i [] = ks[i] := by simp [List.getD, hi']
    exact ⟨by rw [e]; exact List.getElem?_eq_getElem hi', by rw [e]; exact hs _ (List.getElem_mem hi')⟩
  have HG := Lib.hid hget
  have HF := Lib.hid g3
  unfold maxLen at g2
  clear g3 hget hown0 hsz hCS hr hs hnn
  go_enter Try.func61, Try.ntmps61
  go_wp2_with fail
  go_loopw [13] (fun i wr => ∃ (k : Nat) (vs : List Value), k ≤ n ∧ i = .int .i64 (k : Int) ∧ Hid (wr.ownsRow w.heap.size 25 1 (.slice (some ⟨w.heap.size, 0, none⟩) n n) n vs) ∧ Hid (KsAt wr (fun b => w.heap.size < b) vs ks k) ∧ Hid (Below w.heap.size w wr)) (fun i _ => n - (intOf i).toNat)
  case atStart => exact ⟨0, _, by omega, rfl, HO0.out, (fun i k hi _ => by omega), (Below.refl _ _).alloc (Nat.le_refl _) _⟩
  case round =>
    obtain ⟨k, vs, hk, rfl, HO, HK, HB⟩ := hrel
    by_cases hlt : k < n
    · obtain ⟨b, o, rfl, hb, hokb, hc, hrb⟩ := HF.out k hlt
      obtain ⟨e1, e2⟩ := HG.out k hlt
      have hcw := (HB.out.cell (p := ⟨b, o + k, none⟩) hb).trans hc
      obtain ⟨x, hx⟩ : ∃ x, x = f k := ⟨_, rfl⟩
      rw [← hx] at hcw hrb hc
      obtain ⟨ax, cx, rfl⟩ := hrb.sh
      have hcl := bclone_any wr _ _ (ks.getD k []) (hrb.below HB.out).1 e2
      have HCL := Lib.hid hcl
      have HX := Lib.hid e1
      have hwz : w.heap.size < wr.heap.size := (HO.out.lt _ rfl).2
      clear hcl e1 hc hrb hx e2
      go_wp2_with fail
      refine HCL.out.mono ?_
      rintro e w2 ⟨a2, c2, rfl, hown2, hb2⟩
      have HO2 := Lib.hid (own_below HO.out hb2)
      have HB2 := Lib.hid (into HB.out hb2)
      have hrb2 : RB w2 (fun b => w.heap.size < b) (.slice a2 (ks.getD k []).length c2) (ks.getD k []) := ⟨Rd.own hown2, fun a m c e hm => by have h1 := own_at hown2 a m c e hm; have := (hown2.lt _ h1).1; show w.heap.size < a.block; omega⟩
      have HR2 := Lib.hid hrb2
      have HK2 := Lib.hid (HK.out.below hb2)
      have hlv := HO2.out.1
      have d0 : w2.cell? ⟨w.heap.size, k, none⟩ = vs[k]? := HO2.out.cellAt _ (by omega)
      have d1 : ∃ y, vs[k]? = some y := ⟨_, List.getElem?_eq_getElem (by omega)⟩
      obtain ⟨y, d1⟩ := d1
      rw [d1] at d0
      have f0 : w2.frozen? ⟨w.heap.size, k, none⟩ = false := HO2.out.frozenAt _
      have HLV := Lib.hid hlv
      clear hb2 hown2 hrb2 hlv d1
      go_wp2_with fail
      have hst := HO2.out.stored k (.slice a2 (ks.getD k []).length c2)
      have hag : Agree (fun b => w.heap.size < b) w2 (w2.setCell ⟨w.heap.size, k, none⟩ (.slice a2 (ks.getD k []).length c2)) := fun b hb' _ => Below.heap_setCell _ _ _ _ (by show b ≠ w.heap.size; have : w.heap.size < b := hb'; omega)
      have HST := Lib.hid hst.1
      have HKP := Lib.hid (HK2.out.put hag (by rw [HLV.out]; omega) HX.out (HR2.out.agree hag))
      clear hst hag
      go_roundw
      case rel => exact ⟨k + 1, _, by omega, by go_num, HST.out, HKP.out, HB2.out.setCell (Nat.le_refl _) _⟩
      case measure => (simp [intOf]) <;> omega
    · obtain rfl : k = n := by omega
      go_wp2_with fail
      go_ret
      exact ⟨_, rfl, HO.out, HK.out, HB.out⟩
theorem keys_any (w : World) (ok : Nat → Prop) (v : Value) (ks : List Key) (hr : RK w ok v ks) (hn : ks.length ≤ 100000) (hs : ∀ k ∈ ks, k.length ≤ 1000000) :
    Calls Try.prog 45 #[v] w (KeysIs w ks) := by
  obtain ⟨ao, cap, f, rfl, -⟩ := keysF hr
  have H := Lib.hid (eachK_any w ok _ ks hr hn hs)
  clear hr hs
  go_enter Try.func45, Try.ntmps45
  go_wp2_with fail
  refine H.out.mono ?_
  rintro e w' ⟨vs, rfl, h1, h2, h3⟩
  have H1 := Lib.hid (And.intro h1 (And.intro h2 h3))
  clear h1 h2 h3
  go_wp2_with fail
  go_ret
  exact ⟨_, rfl, H1.out⟩
end Go.Proofs.Ytahammkjkfdmhaa

import Derived.Test.YtdeollmeljaaoaaDoorQek
import Derived.Test.YtdeollmeljaaoaaDoorQzk
import Derived.Deep.RegionWith
import Derived.Deep.RegionHeld3
set_option linter.unusedVariables false
set_option linter.unusedSimpArgs false
set_option maxHeartbeats 2000000
open Go.ChangeAt Go.ChangeShapes Go.RowKit Go.WideShapes
open Go.Lib (hid)
namespace Go.Proofs.YtdeollmeljaaoaaDoor
def btw {α : Type} (sep : List Tk) (f : α → List Tk) : List α → List Tk
 | [] => []
 | x :: r => f x ++ r.flatMap fun y => sep ++ f y
theorem btw_snoc {α : Type} (sep : List Tk) (f : α → List Tk) (l : List α) (y : α) (h : l ≠ []) : btw sep f (l ++ [y]) = btw sep f l ++ (sep ++ f y) := by
 cases l with
 | nil => exact absurd rfl h
 | cons x r => simp [btw]
theorem btw_one {α : Type} (sep : List Tk) (f : α → List Tk) (y : α) : btw sep f [y] = f y := by simp [btw]
theorem btw_len {α : Type} (sep : List Tk) (f : α → List Tk) (k : Nat) (h : ∀ y, (sep ++ f y).length ≤ k) : ∀ l : List α, (btw sep f l).length ≤ l.length * k
 | [] => by simp [btw]
 | x :: r => by
  have h1 := h x
  have h2 : (r.flatMap fun y => sep ++ f y).length ≤ r.length * k := by
   induction r with
   | nil => simp
   | cons a r ih =>
    have h3 := h a
    simp only [List.flatMap_cons, List.length_append, List.length_cons] at ih h3 ⊢
    rw [Nat.add_mul]
    omega
  simp only [btw, List.length_append, List.length_cons] at h1 h2 ⊢
  rw [Nat.add_mul]
  omega
def comma : List Tk := [ptk ⟨#[44]⟩]
def shC (c : Cq) : List Tk := [ptk c.t, ptk ⟨(kdL.getD c.k.toNat []).toArray⟩]
theorem kd_at {w : World} (h : Kd w) {k : Nat} (h1 : k < 4) : w.cell? ⟨0, k, none⟩ = some (.string ⟨(kdL.getD k []).toArray⟩) := by
 obtain ⟨t, fr, h⟩ := h
 have hl : k < kdL.length := h1
 have e : kdC[k]? = some (.string ⟨(kdL.getD k []).toArray⟩) := by
  unfold kdC
  rw [List.getElem?_toArray, List.getElem?_map, List.getElem?_eq_getElem hl, Option.map_some, List.getD, List.getElem?_eq_getElem hl]
  rfl
 simp [World.cell?, h, e]
theorem kd_size : ∀ k, k < 4 → (kdL.getD k []).length ≤ 4 := by decide
theorem rd_lit1 (w : World) (a : ByteArray) (B : Nat) (hB : w.heap.size = B) : Rd (w.alloc (.cells #[.string a] 9)) 1 1 (.slice (some ⟨B, 0, none⟩) 1 1) ([a].map Value.string) := by
 subst hB
 exact Rd.own (World.ownsRow_lit (base := w.heap.size) w #[.string a] 1 (Nat.le_refl _) (by unfold maxLen; omega) rfl)
theorem rd_lit2 (w : World) (a b : ByteArray) (B : Nat) (hB : w.heap.size = B) : Rd (w.alloc (.cells #[.string a, .string b] 9)) 1 2 (.slice (some ⟨B, 0, none⟩) 2 2) ([a, b].map Value.string) := by
 subst hB
 exact Rd.own (World.ownsRow_lit (base := w.heap.size) w #[.string a, .string b] 2 (Nat.le_refl _) (by unfold maxLen; omega) rfl)
theorem rd_lit4 (w : World) (a b c d : ByteArray) (B : Nat) (hB : w.heap.size = B) : Rd (w.alloc (.cells #[.string a, .string b, .string c, .string d] 9)) 1 4 (.slice (some ⟨B, 0, none⟩) 4 4) ([a, b, c, d].map Value.string) := by
 subst hB
 exact Rd.own (World.ownsRow_lit (base := w.heap.size) w #[.string a, .string b, .string c, .string d] 4 (Nat.le_refl _) (by unfold maxLen; omega) rfl)
def ToksIs (L : List Tk) (w : World) (e : Ending) (w' : World) : Prop := ∃ v', e = .returned v' ∧ w'.ownsRow w.heap.size 45 3 v' L.length (tkc L) ∧ Below w.heap.size w w'
theorem ToksIs.from {L : List Tk} {w w1 : World} {e : Ending} {w' : World} (h : ToksIs L w1 e w') (hb : Below w.heap.size w w1) : ToksIs L w e w' := by
 obtain ⟨v, h1, h2, h3⟩ := h
 exact ⟨v, h1, own_mono h2 hb.size, into hb h3⟩
theorem plain1 (w : World) (hM : Mk w) (a : ByteArray) (ha : a.size ≤ 1000) (B : Nat) (hB : w.heap.size = B) : Calls Tryd.prog 34 #[.slice (some ⟨B, 0, none⟩) 1 1] (w.alloc (.cells #[.string a] 9)) (ToksIs [ptk a] w) :=
 (plain_any _ (hM.alloc _) 1 _ [a] (by omega) (by omega) (rd_lit1 w a B hB) (by simp; exact ha)).mono fun e w' h => ToksIs.from h ((Below.refl _ _).alloc (Nat.le_refl _) _)
theorem plain2 (w : World) (hM : Mk w) (a b : ByteArray) (ha : a.size ≤ 1000) (hb : b.size ≤ 1000) (B : Nat) (hB : w.heap.size = B) : Calls Tryd.prog 34 #[.slice (some ⟨B, 0, none⟩) 2 2] (w.alloc (.cells #[.string a, .string b] 9)) (ToksIs [ptk a, ptk b] w) :=
 (plain_any _ (hM.alloc _) 2 _ [a, b] (by omega) (by omega) (rd_lit2 w a b B hB) (by simp; exact ⟨ha, hb⟩)).mono fun e w' h => ToksIs.from h ((Below.refl _ _).alloc (Nat.le_refl _) _)
theorem plain2d (w : World) (hM : Mk w) (a b : ByteArray) (ha : a.size ≤ 1000) (hb : b.size ≤ 1000) (B : Nat) (hB : w.heap.size = B) : Calls Tryd.prog 34 #[.slice (some ⟨B, 0, none⟩) 2 2] (w.alloc (.cells #[.string a, .string b] 9)).drew (ToksIs [ptk a, ptk b] w) :=
 by
 have e : (w.alloc (.cells #[.string a, .string b] 9)).drew = w.drew.alloc (.cells #[.string a, .string b] 9) := rfl
 rw [e]
 exact (plain2 w.drew (hM.below (Below.refl _ _).drew) a b ha hb B hB).mono fun e w' h => ToksIs.from h (Below.refl _ _).drew
theorem showCol_any (w : World) (hT : Tbs w) (c : Cq) (h1 : 1 ≤ c.k) (h3 : c.k ≤ 3) (hs : c.t.size ≤ 1000) : Calls Tryd.prog 36 #[.agg #[.string c.t, .int .i64 c.k]] w (ToksIs (shC c) w) := by
 obtain ⟨t, k⟩ := c
 simp only at h1 h3 hs
 obtain ⟨kn, rfl⟩ : ∃ kn : Nat, k = (kn : Int) := ⟨k.toNat, by omega⟩
 have hb0 : Below w.heap.size w (w.alloc (.cells #[.string t, .int .i64 (kn : Int)] 75)) := (Below.refl _ _).alloc (Nat.le_refl _) _
 have hT0 := (hT.below hb0)
 have ck := kd_at hT0.d (k := kn) (by omega)
 have hks := kd_size kn (by omega)
 obtain ⟨q, hq⟩ : ∃ q : ByteArray, q = ⟨(kdL.getD kn []).toArray⟩ := ⟨_, rfl⟩
 have hqs : q.size ≤ 1000 := by
  rw [hq]
  show ((kdL.getD kn []).toArray).size ≤ 1000
  rw [List.size_toArray]
  omega
 rw [← hq] at ck
 have hF : shC ⟨t, (kn : Int)⟩ = [ptk t, ptk q] := by unfold shC; rw [hq]; rfl
 have HF := hid hF
 have HB0 := hid hb0
 have HP : Hid (∀ W, Below w.heap.size w W → Calls Tryd.prog 34 #[.slice (some ⟨W.heap.size, 0, none⟩) 2 2] (W.alloc (.cells #[.string t, .string q] 9)) (ToksIs [ptk t, ptk q] W)) := fun W hW => plain2 W (hT.m.below hW) t q hs hqs _ rfl
 have HPD : Hid (∀ W, Below w.heap.size w W → ∀ B, W.heap.size = B → Calls Tryd.prog 34 #[.slice (some ⟨B, 0, none⟩) 2 2] (W.alloc (.cells #[.string t, .string q] 9)).drew (ToksIs [ptk t, ptk q] W)) := fun W hW B hB => plain2d W (hT.m.below hW) t q hs hqs B hB
 clear hb0 hT0 hT hq hF hks hqs
 go_enter Tryd.func36, Tryd.ntmps36
 go_wp2_with fail
 go_region_with (go_at_call 34; (with_reducible refine (HPD.out _ HB0.out _ (by simp)).mono ?_); rintro e w3 ⟨v3, rfl, hown3, hb3⟩)
 all_goals (
  go_wp2_with fail
  go_ret
  rw [HF.out]
  exact ToksIs.from ⟨_, rfl, hown3, hb3⟩ HB0.out)
end Go.Proofs.YtdeollmeljaaoaaDoor

/- The bounds of seven expressions over the first column and a number are the number's key, or none. The row lists the program's tables of marks, of words that are kept, of what each op works on, and of the words of kinds, constants and signs; the card ties them to the program's text. -/
import Derived.Deep.DeepCutAuto
import Derived.Test.YtmfkdpfcpdmkdaaDoorQzk
import Derived.Test.YtmfkdpfcpdmkdaaDoorFjk
namespace Go.Proofs.YtmfkdpfcpdmkdaaDoor.lBoundsOne
open Go.ChangeShapes Go.WideShapes Go.ChangeAt Go.RowKit Go.Joins
open Go.ChangeMaps (open_string shut_string)
set_option linter.unusedVariables false
set_option linter.unusedSimpArgs false
set_option maxHeartbeats 400000

set_option maxHeartbeats 4000000
set_option maxRecDepth 100000
open Go.Proofs.YtmfkdpfcpdmkdaaDoor.bd
theorem wp_name {P : Program} {c : Code} {Q : Exit → Act → World → Prop} {a : Act} {w : World} (h : ∀ w8, w8 = w → Code.wp P c Q a w8) : Code.wp P c Q a w := h w rfl
theorem drew_al (w : World) (o : Obj) : Below w.heap.size w (w.drew.alloc o) := ((Below.refl _ _).drew).alloc (Nat.le_refl _) o
def allocs : World → List Obj → World
  | w, [] => w
  | w, o :: l => allocs (w.alloc o) l
theorem allocs_below : ∀ (l : List Obj) (w : World), Below w.heap.size w (allocs w l)
  | [], w => Below.refl _ _
  | o :: l, w => ((Below.refl _ _).alloc (Nat.le_refl _) o).trans ((allocs_below l (w.alloc o)).mono (by simp))
theorem allocs_at : ∀ (l : List Obj) (w : World) (i : Nat) (o : Obj), l[i]? = some o → (allocs w l).heap[w.heap.size + i]? = some o
  | [], w, i, o, h => by simp at h
  | x :: l, w, 0, o, h => by
    have e : x = o := by simpa using h
    subst e
    exact ((allocs_below l (w.alloc x)).block w.heap.size (by simp)).trans (new0 w x)
  | x :: l, w, i + 1, o, h => by
    have ih := allocs_at l (w.alloc x) i o (by simpa using h)
    rw [World.size_alloc] at ih
    rw [show w.heap.size + (i + 1) = w.heap.size + 1 + i by omega]
    exact ih
theorem rd_ops {w : World} {B : Nat} (l : List Oq) {T : TypeId} {fr : Nat × Nat} (hl : l.length ≤ 1000) (h : w.heap[B]? = some (.cells (ocs l).toArray T fr)) : Rd w 5 l.length (.slice (some ⟨B, 0, none⟩) l.length l.length) (ocs l) := by
  refine ⟨ocs_length l, some ⟨B, 0, none⟩, l.length, rfl, Nat.le_refl _, by unfold maxLen; omega, (fun h => by cases h), fun ad ha j u hu => ?_⟩
  obtain rfl := Option.some.inj ha
  rw [Addr.add_lit, Nat.zero_add]
  have e : (ocs l).toArray[j]? = some u := by rw [← hu]; simp
  simp [World.cell?, h, e]
theorem sm_id : Sml (cO idT) := ⟨by decide, fun _ => by simp [colL], ⟨by decide, by decide⟩⟩
theorem sm_n : Sml (cO nT) := ⟨by decide, fun _ => by simp [colL], ⟨by decide, by decide⟩⟩
theorem sm_num {n : Int} (h : 0 ≤ n ∧ n < 100000) : Sml (lO (num n)) := sml_bare (k := 1) (by decide) (by show Fi n; unfold Fi; omega)
theorem sm_nul : Sml (lO nul) := sml_bare (k := 1) (by decide) ⟨by decide, by decide⟩
theorem sm_op {k : Int} (h : k ≠ 2) : Sml (oO k) := sml_bare (k := k) h ⟨by decide, by decide⟩
theorem sm_cons {o : Oq} {l : List Oq} (h : Sml o) (g : ∀ x ∈ l, Sml x) : ∀ x ∈ o :: l, Sml x := fun x hx => by
  rcases List.mem_cons.1 hx with rfl | hx
  · exact h
  · exact g x hx
theorem sm_nil : ∀ x ∈ ([] : List Oq), Sml x := fun x hx => by cases hx
theorem bounds_hid (W : World) (hL : Tbs W) : Hid (∀ (w : World) (n m : Nat) (v x : Value) (l : List Cq) (ops : List Oq) (r : Int × List UInt8 × List UInt8), Below W.heap.size W w → Rd w 2 n v (ccs l) → (∀ c ∈ l, c.t.size ≤ 8) → Rd w 5 m x (ocs ops) → (∀ o ∈ ops, Sml o) → boundsF l ops = r → Calls Tryd.prog 9 #[v, x] w (BoundsIs r w)) := fun w n m v x l ops r hB hr hc hx ho hq => by
  have h := bounds_any w (hL.below hB) n m v x l ops hr (small4 hc) hx (sml_max ho) (fun o h => (ho o h).2.2)
  rw [hq] at h
  exact h
def Pk (w : World) (F : Nat) (n : Int) (k : Nat) (x len : Nat) (ops : List Oq) (lo hi : List UInt8) : Prop := w.cell? ⟨F, k, none⟩ = some (.slice (some ⟨x, 0, none⟩) len len) ∧ Rd w 5 len (.slice (some ⟨x, 0, none⟩) len len) (ocs ops) ∧ (∀ o ∈ ops, Sml o) ∧ boundsF c4t ops = (0, lo, hi) ∧ (lo = if k < 2 ∨ k = 3 ∨ k = 4 then key n else []) ∧ (hi = if k < 3 ∨ k = 5 then key n else [])
theorem pick (W w : World) (n : Int) (h1k : 0 ≤ n ∧ n < 100000) (hw : w = allocs W [(.cells #[.int .i64 2, .int .i64 n, .string ⟨#[]⟩] 36), (.cells #[.int .i64 2, .int .i64 0, .int .i64 0, .string ⟨#[]⟩, .string ⟨#[105, 100]⟩] 44), (.cells #[.int .i64 1, .int .i64 2, .int .i64 n, .string ⟨#[]⟩, .string ⟨#[]⟩] 44), (.cells #[.int .i64 2, .int .i64 0, .int .i64 0, .string ⟨#[]⟩, .string ⟨#[105, 100]⟩, .int .i64 1, .int .i64 2, .int .i64 n, .string ⟨#[]⟩, .string ⟨#[]⟩, .int .i64 6, .int .i64 0, .int .i64 0, .string ⟨#[]⟩, .string ⟨#[]⟩] 44), (.cells #[.int .i64 1, .int .i64 2, .int .i64 n, .string ⟨#[]⟩, .string ⟨#[]⟩, .int .i64 2, .int .i64 0, .int .i64 0, .string ⟨#[]⟩, .string ⟨#[105, 100]⟩, .int .i64 6, .int .i64 0, .int .i64 0, .string ⟨#[]⟩, .string ⟨#[]⟩] 44), (.cells #[.int .i64 2, .int .i64 0, .int .i64 0, .string ⟨#[]⟩, .string ⟨#[105, 100]⟩, .int .i64 1, .int .i64 2, .int .i64 n, .string ⟨#[]⟩, .string ⟨#[]⟩, .int .i64 7, .int .i64 0, .int .i64 0, .string ⟨#[]⟩, .string ⟨#[]⟩] 44), (.cells #[.int .i64 1, .int .i64 2, .int .i64 n, .string ⟨#[]⟩, .string ⟨#[]⟩, .int .i64 2, .int .i64 0, .int .i64 0, .string ⟨#[]⟩, .string ⟨#[105, 100]⟩, .int .i64 7, .int .i64 0, .int .i64 0, .string ⟨#[]⟩, .string ⟨#[]⟩] 44), (.cells #[.int .i64 2, .int .i64 0, .int .i64 0, .string ⟨#[]⟩, .string ⟨#[105, 100]⟩, .int .i64 1, .int .i64 2, .int .i64 n, .string ⟨#[]⟩, .string ⟨#[]⟩, .int .i64 7, .int .i64 0, .int .i64 0, .string ⟨#[]⟩, .string ⟨#[]⟩, .int .i64 5, .int .i64 0, .int .i64 0, .string ⟨#[]⟩, .string ⟨#[]⟩] 44), (.cells #[.int .i64 1, .int .i64 2, .int .i64 n, .string ⟨#[]⟩, .string ⟨#[]⟩, .int .i64 2, .int .i64 0, .int .i64 0, .string ⟨#[]⟩, .string ⟨#[105, 100]⟩, .int .i64 7, .int .i64 0, .int .i64 0, .string ⟨#[]⟩, .string ⟨#[]⟩, .int .i64 5, .int .i64 0, .int .i64 0, .string ⟨#[]⟩, .string ⟨#[]⟩] 44), (.cells #[.int .i64 2, .int .i64 0, .int .i64 0, .string ⟨#[]⟩, .string ⟨#[105, 100]⟩, .int .i64 1, .int .i64 2, .int .i64 n, .string ⟨#[]⟩, .string ⟨#[]⟩, .int .i64 6, .int .i64 0, .int .i64 0, .string ⟨#[]⟩, .string ⟨#[]⟩, .int .i64 5, .int .i64 0, .int .i64 0, .string ⟨#[]⟩, .string ⟨#[]⟩] 44), (.cells #[.slice (some ⟨W.heap.size + 1 + 1 + 1, 0, none⟩) 3 3, .slice (some ⟨W.heap.size + 1 + 1 + 1 + 1, 0, none⟩) 3 3, .slice (some ⟨W.heap.size + 1 + 1 + 1 + 1 + 1, 0, none⟩) 3 3, .slice (some ⟨W.heap.size + 1 + 1 + 1 + 1 + 1 + 1, 0, none⟩) 3 3, .slice (some ⟨W.heap.size + 1 + 1 + 1 + 1 + 1 + 1 + 1, 0, none⟩) 4 4, .slice (some ⟨W.heap.size + 1 + 1 + 1 + 1 + 1 + 1 + 1 + 1, 0, none⟩) 4 4, .slice (some ⟨W.heap.size + 1 + 1 + 1 + 1 + 1 + 1 + 1 + 1 + 1, 0, none⟩) 4 4] 27)]) (k : Nat) (hk : k < 7) : ∃ x len ops lo hi, Pk w (W.heap.size + 1 + 1 + 1 + 1 + 1 + 1 + 1 + 1 + 1 + 1) n k x len ops lo hi := by
  have hF : w.heap[W.heap.size + 1 + 1 + 1 + 1 + 1 + 1 + 1 + 1 + 1 + 1]? = some (.cells #[.slice (some ⟨W.heap.size + 1 + 1 + 1, 0, none⟩) 3 3, .slice (some ⟨W.heap.size + 1 + 1 + 1 + 1, 0, none⟩) 3 3, .slice (some ⟨W.heap.size + 1 + 1 + 1 + 1 + 1, 0, none⟩) 3 3, .slice (some ⟨W.heap.size + 1 + 1 + 1 + 1 + 1 + 1, 0, none⟩) 3 3, .slice (some ⟨W.heap.size + 1 + 1 + 1 + 1 + 1 + 1 + 1, 0, none⟩) 4 4, .slice (some ⟨W.heap.size + 1 + 1 + 1 + 1 + 1 + 1 + 1 + 1, 0, none⟩) 4 4, .slice (some ⟨W.heap.size + 1 + 1 + 1 + 1 + 1 + 1 + 1 + 1 + 1, 0, none⟩) 4 4] 27 (0, 0)) := by rw [hw]; exact allocs_at _ W 10 _ rfl
  have q0 : w.heap[W.heap.size + 1 + 1 + 1]? = some (.cells #[.int .i64 2, .int .i64 0, .int .i64 0, .string ⟨#[]⟩, .string ⟨#[105, 100]⟩, .int .i64 1, .int .i64 2, .int .i64 n, .string ⟨#[]⟩, .string ⟨#[]⟩, .int .i64 6, .int .i64 0, .int .i64 0, .string ⟨#[]⟩, .string ⟨#[]⟩] 44 (0, 0)) := by rw [hw]; exact allocs_at _ W 3 _ rfl
  have q1 : w.heap[W.heap.size + 1 + 1 + 1 + 1]? = some (.cells #[.int .i64 1, .int .i64 2, .int .i64 n, .string ⟨#[]⟩, .string ⟨#[]⟩, .int .i64 2, .int .i64 0, .int .i64 0, .string ⟨#[]⟩, .string ⟨#[105, 100]⟩, .int .i64 6, .int .i64 0, .int .i64 0, .string ⟨#[]⟩, .string ⟨#[]⟩] 44 (0, 0)) := by rw [hw]; exact allocs_at _ W 4 _ rfl
  have q2 : w.heap[W.heap.size + 1 + 1 + 1 + 1 + 1]? = some (.cells #[.int .i64 2, .int .i64 0, .int .i64 0, .string ⟨#[]⟩, .string ⟨#[105, 100]⟩, .int .i64 1, .int .i64 2, .int .i64 n, .string ⟨#[]⟩, .string ⟨#[]⟩, .int .i64 7, .int .i64 0, .int .i64 0, .string ⟨#[]⟩, .string ⟨#[]⟩] 44 (0, 0)) := by rw [hw]; exact allocs_at _ W 5 _ rfl
  have q3 : w.heap[W.heap.size + 1 + 1 + 1 + 1 + 1 + 1]? = some (.cells #[.int .i64 1, .int .i64 2, .int .i64 n, .string ⟨#[]⟩, .string ⟨#[]⟩, .int .i64 2, .int .i64 0, .int .i64 0, .string ⟨#[]⟩, .string ⟨#[105, 100]⟩, .int .i64 7, .int .i64 0, .int .i64 0, .string ⟨#[]⟩, .string ⟨#[]⟩] 44 (0, 0)) := by rw [hw]; exact allocs_at _ W 6 _ rfl
  have q4 : w.heap[W.heap.size + 1 + 1 + 1 + 1 + 1 + 1 + 1]? = some (.cells #[.int .i64 2, .int .i64 0, .int .i64 0, .string ⟨#[]⟩, .string ⟨#[105, 100]⟩, .int .i64 1, .int .i64 2, .int .i64 n, .string ⟨#[]⟩, .string ⟨#[]⟩, .int .i64 7, .int .i64 0, .int .i64 0, .string ⟨#[]⟩, .string ⟨#[]⟩, .int .i64 5, .int .i64 0, .int .i64 0, .string ⟨#[]⟩, .string ⟨#[]⟩] 44 (0, 0)) := by rw [hw]; exact allocs_at _ W 7 _ rfl
  have q5 : w.heap[W.heap.size + 1 + 1 + 1 + 1 + 1 + 1 + 1 + 1]? = some (.cells #[.int .i64 1, .int .i64 2, .int .i64 n, .string ⟨#[]⟩, .string ⟨#[]⟩, .int .i64 2, .int .i64 0, .int .i64 0, .string ⟨#[]⟩, .string ⟨#[105, 100]⟩, .int .i64 7, .int .i64 0, .int .i64 0, .string ⟨#[]⟩, .string ⟨#[]⟩, .int .i64 5, .int .i64 0, .int .i64 0, .string ⟨#[]⟩, .string ⟨#[]⟩] 44 (0, 0)) := by rw [hw]; exact allocs_at _ W 8 _ rfl
  have q6 : w.heap[W.heap.size + 1 + 1 + 1 + 1 + 1 + 1 + 1 + 1 + 1]? = some (.cells #[.int .i64 2, .int .i64 0, .int .i64 0, .string ⟨#[]⟩, .string ⟨#[105, 100]⟩, .int .i64 1, .int .i64 2, .int .i64 n, .string ⟨#[]⟩, .string ⟨#[]⟩, .int .i64 6, .int .i64 0, .int .i64 0, .string ⟨#[]⟩, .string ⟨#[]⟩, .int .i64 5, .int .i64 0, .int .i64 0, .string ⟨#[]⟩, .string ⟨#[]⟩] 44 (0, 0)) := by rw [hw]; exact allocs_at _ W 9 _ rfl
  have h7 : k = 0 ∨ k = 1 ∨ k = 2 ∨ k = 3 ∨ k = 4 ∨ k = 5 ∨ k = 6 := by omega
  rcases h7 with rfl | rfl | rfl | rfl | rfl | rfl | rfl
  · exact ⟨W.heap.size + 1 + 1 + 1, 3, [cO idT, lO (num n), oO 6], key n, key n, by simp [World.cell?, hF], rd_ops [cO idT, lO (num n), oO 6] (by simp) q0, (sm_cons sm_id (sm_cons (sm_num h1k) (sm_cons (sm_op (by decide)) sm_nil))), b1 n h1k, by simp, by simp⟩
  · exact ⟨W.heap.size + 1 + 1 + 1 + 1, 3, [lO (num n), cO idT, oO 6], key n, key n, by simp [World.cell?, hF], rd_ops [lO (num n), cO idT, oO 6] (by simp) q1, (sm_cons (sm_num h1k) (sm_cons sm_id (sm_cons (sm_op (by decide)) sm_nil))), b2 n h1k, by simp, by simp⟩
  · exact ⟨W.heap.size + 1 + 1 + 1 + 1 + 1, 3, [cO idT, lO (num n), oO 7], [], key n, by simp [World.cell?, hF], rd_ops [cO idT, lO (num n), oO 7] (by simp) q2, (sm_cons sm_id (sm_cons (sm_num h1k) (sm_cons (sm_op (by decide)) sm_nil))), b3 n h1k, by simp, by simp⟩
  · exact ⟨W.heap.size + 1 + 1 + 1 + 1 + 1 + 1, 3, [lO (num n), cO idT, oO 7], key n, [], by simp [World.cell?, hF], rd_ops [lO (num n), cO idT, oO 7] (by simp) q3, (sm_cons (sm_num h1k) (sm_cons sm_id (sm_cons (sm_op (by decide)) sm_nil))), b4 n h1k, by simp, by simp⟩
  · exact ⟨W.heap.size + 1 + 1 + 1 + 1 + 1 + 1 + 1, 4, [cO idT, lO (num n), oO 7, oO 5], key n, [], by simp [World.cell?, hF], rd_ops [cO idT, lO (num n), oO 7, oO 5] (by simp) q4, (sm_cons sm_id (sm_cons (sm_num h1k) (sm_cons (sm_op (by decide)) (sm_cons (sm_op (by decide)) sm_nil)))), b5 n h1k, by simp, by simp⟩
  · exact ⟨W.heap.size + 1 + 1 + 1 + 1 + 1 + 1 + 1 + 1, 4, [lO (num n), cO idT, oO 7, oO 5], [], key n, by simp [World.cell?, hF], rd_ops [lO (num n), cO idT, oO 7, oO 5] (by simp) q5, (sm_cons (sm_num h1k) (sm_cons sm_id (sm_cons (sm_op (by decide)) (sm_cons (sm_op (by decide)) sm_nil)))), b6 n h1k, by simp, by simp⟩
  · exact ⟨W.heap.size + 1 + 1 + 1 + 1 + 1 + 1 + 1 + 1 + 1, 4, [cO idT, lO (num n), oO 6, oO 5], [], [], by simp [World.cell?, hF], rd_ops [cO idT, lO (num n), oO 6, oO 5] (by simp) q6, (sm_cons sm_id (sm_cons (sm_num h1k) (sm_cons (sm_op (by decide)) (sm_cons (sm_op (by decide)) sm_nil)))), b7 n h1k, by simp, by simp⟩
theorem walk (W : World) (hL : Tbs W) (a : Int) (wa : (Lit.int .i64 a).wf = true) (b : Int) (wb : (Lit.int .i64 b).wf = true) :
    Calls Tryd.prog 4 #[.int .i64 a, .int .i64 b] W fun e w' => e = .returned (.bool true) ∧ Below W.heap.size W w' := by
  have HCO := Lib.hid colsOf_any
  have HBD := bounds_hid W hL
  have hp := fun w => pck_any a 1000 w (rn_of wa) (by omega) (by omega)
  obtain ⟨p0, p1⟩ := pck_in a 1000 (by omega)
  obtain ⟨n, hn⟩ : ∃ n, n = pck a 1000 := ⟨_, rfl⟩
  rw [← hn] at hp p0 p1
  have HP := Lib.hid hp
  have hk := fun w => pck_any b 7 w (rn_of wb) (by omega) (by omega)
  obtain ⟨k0, k1⟩ := pck_in b 7 (by omega)
  obtain ⟨k, hkk⟩ : ∃ k : Nat, pck b 7 = (k : Int) := ⟨(pck b 7).toNat, by omega⟩
  rw [hkk] at hk k0 k1
  have HK := Lib.hid hk
  clear hp hk hn hkk hL
  go_enter Tryd.func4, Tryd.ntmps4
  go_upto_region 5 with (first | (go_at_call 13; ((with_reducible refine (HP.out _).mono ?_); rintro e w' ⟨rfl, rfl⟩)))
  refine wp_name (fun w8 hw8 => ?_)
  have hw8' : w8 = allocs W [(.cells #[.int .i64 2, .int .i64 n, .string ⟨#[]⟩] 36), (.cells #[.int .i64 2, .int .i64 0, .int .i64 0, .string ⟨#[]⟩, .string ⟨#[105, 100]⟩] 44), (.cells #[.int .i64 1, .int .i64 2, .int .i64 n, .string ⟨#[]⟩, .string ⟨#[]⟩] 44), (.cells #[.int .i64 2, .int .i64 0, .int .i64 0, .string ⟨#[]⟩, .string ⟨#[105, 100]⟩, .int .i64 1, .int .i64 2, .int .i64 n, .string ⟨#[]⟩, .string ⟨#[]⟩, .int .i64 6, .int .i64 0, .int .i64 0, .string ⟨#[]⟩, .string ⟨#[]⟩] 44), (.cells #[.int .i64 1, .int .i64 2, .int .i64 n, .string ⟨#[]⟩, .string ⟨#[]⟩, .int .i64 2, .int .i64 0, .int .i64 0, .string ⟨#[]⟩, .string ⟨#[105, 100]⟩, .int .i64 6, .int .i64 0, .int .i64 0, .string ⟨#[]⟩, .string ⟨#[]⟩] 44), (.cells #[.int .i64 2, .int .i64 0, .int .i64 0, .string ⟨#[]⟩, .string ⟨#[105, 100]⟩, .int .i64 1, .int .i64 2, .int .i64 n, .string ⟨#[]⟩, .string ⟨#[]⟩, .int .i64 7, .int .i64 0, .int .i64 0, .string ⟨#[]⟩, .string ⟨#[]⟩] 44), (.cells #[.int .i64 1, .int .i64 2, .int .i64 n, .string ⟨#[]⟩, .string ⟨#[]⟩, .int .i64 2, .int .i64 0, .int .i64 0, .string ⟨#[]⟩, .string ⟨#[105, 100]⟩, .int .i64 7, .int .i64 0, .int .i64 0, .string ⟨#[]⟩, .string ⟨#[]⟩] 44), (.cells #[.int .i64 2, .int .i64 0, .int .i64 0, .string ⟨#[]⟩, .string ⟨#[105, 100]⟩, .int .i64 1, .int .i64 2, .int .i64 n, .string ⟨#[]⟩, .string ⟨#[]⟩, .int .i64 7, .int .i64 0, .int .i64 0, .string ⟨#[]⟩, .string ⟨#[]⟩, .int .i64 5, .int .i64 0, .int .i64 0, .string ⟨#[]⟩, .string ⟨#[]⟩] 44), (.cells #[.int .i64 1, .int .i64 2, .int .i64 n, .string ⟨#[]⟩, .string ⟨#[]⟩, .int .i64 2, .int .i64 0, .int .i64 0, .string ⟨#[]⟩, .string ⟨#[105, 100]⟩, .int .i64 7, .int .i64 0, .int .i64 0, .string ⟨#[]⟩, .string ⟨#[]⟩, .int .i64 5, .int .i64 0, .int .i64 0, .string ⟨#[]⟩, .string ⟨#[]⟩] 44), (.cells #[.int .i64 2, .int .i64 0, .int .i64 0, .string ⟨#[]⟩, .string ⟨#[105, 100]⟩, .int .i64 1, .int .i64 2, .int .i64 n, .string ⟨#[]⟩, .string ⟨#[]⟩, .int .i64 6, .int .i64 0, .int .i64 0, .string ⟨#[]⟩, .string ⟨#[]⟩, .int .i64 5, .int .i64 0, .int .i64 0, .string ⟨#[]⟩, .string ⟨#[]⟩] 44), (.cells #[.slice (some ⟨W.heap.size + 1 + 1 + 1, 0, none⟩) 3 3, .slice (some ⟨W.heap.size + 1 + 1 + 1 + 1, 0, none⟩) 3 3, .slice (some ⟨W.heap.size + 1 + 1 + 1 + 1 + 1, 0, none⟩) 3 3, .slice (some ⟨W.heap.size + 1 + 1 + 1 + 1 + 1 + 1, 0, none⟩) 3 3, .slice (some ⟨W.heap.size + 1 + 1 + 1 + 1 + 1 + 1 + 1, 0, none⟩) 4 4, .slice (some ⟨W.heap.size + 1 + 1 + 1 + 1 + 1 + 1 + 1 + 1, 0, none⟩) 4 4, .slice (some ⟨W.heap.size + 1 + 1 + 1 + 1 + 1 + 1 + 1 + 1 + 1, 0, none⟩) 4 4] 27)] := hw8
  have HV8 : Hid (w8.heap[W.heap.size]? = some (.cells #[.int .i64 2, .int .i64 n, .string ⟨#[]⟩] 36 (0, 0))) := Lib.hid (by rw [hw8']; exact allocs_at _ W 0 _ rfl)
  have HB8 : Hid (Below W.heap.size W w8) := Lib.hid (by rw [hw8']; exact allocs_below _ _)
  have hz8 : W.heap.size < w8.heap.size := by
    rcases Nat.lt_or_ge W.heap.size w8.heap.size with g | g
    · exact g
    · have := HV8.out; rw [Array.getElem?_eq_none g] at this; cases this
  have hok : 0 ≤ n ∧ n < 100000 := ⟨p0, by omega⟩
  have HN := Lib.hid hok
  obtain ⟨x, len, ops, lo, hi, hpk⟩ := pick W w8 n hok hw8' k (by omega)
  unfold Pk at hpk
  have HPK := Lib.hid hpk
  have hcell := hpk.1
  have hk7 : k < 7 := by omega
  have hk7' : (k : Int) < 7 := by omega
  clear hw8 hw8' hok hpk p0 p1 HP
  go_upto_region 6 with (first | (go_at_call 13; ((with_reducible refine (HK.out _).mono ?_); rintro e w' ⟨rfl, rfl⟩)))
  have heldO : ∀ wx, Below w8.heap.size w8 wx → (fun wx => wx.cell? ⟨W.heap.size + 1 + 1 + 1 + 1 + 1 + 1 + 1 + 1 + 1 + 1, k, none⟩ = some (.slice (some ⟨x, 0, none⟩) len len)) wx := fun wx h => cell_blz h hcell
  clear hcell
  refine Code.wp_mono (Q := NQ _) nq_to ?_
  refine wp_region_held_drew (S := (fun wx => wx.cell? ⟨W.heap.size + 1 + 1 + 1 + 1 + 1 + 1 + 1 + 1 + 1 + 1, k, none⟩ = some (.slice (some ⟨x, 0, none⟩) len len))) (by kernel_rfl) ?_ (fun hHeld => ?_)
  · (try dsimp only)
    exact heldO _ (by first | (with_reducible exact (Below.refl _ _).drew) | (with_reducible exact HB9.out) | (with_reducible exact HB10.out))
  refine wpAnyH_take (i := 1) (oi := _) (v := ?_) rfl (by kernel_rfl) (by kernel_rfl) (by kernel_rfl) (fun _ _ _ h => h) (Or.inl ⟨by rfl, ?_⟩) (by assumption) ?_
  rotate_left
  · (intro w hSw; (try dsimp only at hSw); go_simp)
    all_goals (with_reducible rfl)
  (try simp only [List.getElem_toArray, List.getElem_cons_zero, List.getElem_cons_succ, Act.put, List.setIfInBounds_toArray, List.set_cons_zero, List.set_cons_succ])
  refine wpAnyH_take (i := 2) (oi := _) (v := ?_) rfl (by kernel_rfl) (by kernel_rfl) (by kernel_rfl) (fun _ _ _ h => h) (Or.inl ⟨by rfl, ?_⟩) (by assumption) ?_
  rotate_left
  · (intro w hSw; (try dsimp only at hSw); go_simp)
    all_goals (with_reducible rfl)
  (try simp only [List.getElem_toArray, List.getElem_cons_zero, List.getElem_cons_succ, Act.put, List.setIfInBounds_toArray, List.set_cons_zero, List.set_cons_succ])
  refine wpAnyH_take (i := 3) (oi := _) (v := ?_) rfl (by kernel_rfl) (by kernel_rfl) (by kernel_rfl) (fun _ _ _ h => h) (Or.inl ⟨by rfl, ?_⟩) (by assumption) ?_
  rotate_left
  · (intro w hSw; (try dsimp only at hSw); go_simp)
    all_goals (with_reducible rfl)
  (try simp only [List.getElem_toArray, List.getElem_cons_zero, List.getElem_cons_succ, Act.put, List.setIfInBounds_toArray, List.set_cons_zero, List.set_cons_succ])
  refine wpAnyH_take (i := 4) (oi := _) (v := ?_) rfl (by kernel_rfl) (by kernel_rfl) (by kernel_rfl) (fun _ _ _ h => h) (Or.inl ⟨by rfl, ?_⟩) (by assumption) ?_
  rotate_left
  · (intro w hSw; (try dsimp only at hSw); go_simp)
    all_goals (with_reducible rfl)
  (try simp only [List.getElem_toArray, List.getElem_cons_zero, List.getElem_cons_succ, Act.put, List.setIfInBounds_toArray, List.set_cons_zero, List.set_cons_succ])
  refine wpAnyH_ready (rs := [0]) (by kernel_rfl) (by simp) ?_
  refine AllReadyH.cons rfl (fun K hK => ?_) AllReadyH.nil
  go_simp
  (go_at_call 10; (with_reducible refine (HCO.out _).mono ?_); rintro e w9 ⟨rfl, hw9⟩; have HC9 : Hid (Rd w9 2 4 (.slice (some ⟨w8.heap.size, 0, none⟩) 4 4) (ccs c4t)) := Lib.hid (by rw [hw9]; exact rd_c4 w8.drew _ _ _ _ _ _ _ _ _ rfl); have HB9 : Hid (Below w8.heap.size w8 w9) := Lib.hid (by rw [hw9]; exact ((Below.refl _ _).drew).alloc (Nat.le_refl _) _); clear hw9)
  go_wp2_with fail
  refine hK.out _ _ ?_ (fun hHeld => ?_)
  · (try dsimp only)
    exact heldO _ (by first | (with_reducible exact (Below.refl _ _).drew) | (with_reducible exact HB9.out) | (with_reducible exact HB10.out))
  clear hK K
  (try simp only [List.getElem_toArray, List.getElem_cons_zero, List.getElem_cons_succ, Act.put, List.setIfInBounds_toArray, List.set_cons_zero, List.set_cons_succ])
  refine wpAnyH_ready (rs := [5]) (by kernel_rfl) (by simp) ?_
  refine AllReadyH.cons rfl (fun K hK => ?_) AllReadyH.nil
  go_simp
  (go_at_call 9; (with_reducible refine (HBD.out _ 4 len _ _ c4t ops _ (into HB8.out (by first | exact HB9.out | exact HB9.out.drew)) (HC9.out.below (by first | exact Below.refl _ _ | exact (Below.refl _ _).drew)) (by decide) (HPK.out.2.1.below (by first | exact HB9.out | exact HB9.out.drew)) HPK.out.2.2.1 HPK.out.2.2.2.1).mono ?_); rintro e w10 ⟨⟨xa, xn, xc⟩, ⟨ya, yn, yc⟩, rfl, hx, hy, hb10⟩; have HXY := Lib.hid (And.intro hx hy); have HB10 : Hid (Below w8.heap.size w8 w10) := Lib.hid (into HB9.out (by first | exact hb10 | exact ((Below.refl _ _).drew).trans hb10)); clear hx hy hb10)
  go_wp2_with fail
  refine hK.out _ _ ?_ (fun hHeld => ?_)
  · (try dsimp only)
    exact heldO _ (by first | (with_reducible exact (Below.refl _ _).drew) | (with_reducible exact HB9.out) | (with_reducible exact HB10.out))
  clear hK K
  (try simp only [List.getElem_toArray, List.getElem_cons_zero, List.getElem_cons_succ, Act.put, List.setIfInBounds_toArray, List.set_cons_zero, List.set_cons_succ])
  refine wpAnyH_take (i := 6) (oi := _) (v := ?_) rfl (by kernel_rfl) (by kernel_rfl) (by kernel_rfl) (fun _ _ _ h => h) (Or.inl ⟨by rfl, ?_⟩) (by assumption) ?_
  rotate_left
  · (intro w hSw; (try dsimp only at hSw); go_simp)
    all_goals (with_reducible rfl)
  (try simp only [List.getElem_toArray, List.getElem_cons_zero, List.getElem_cons_succ, Act.put, List.setIfInBounds_toArray, List.set_cons_zero, List.set_cons_succ])
  refine wpAnyH_take (i := 7) (oi := _) (v := ?_) rfl (by kernel_rfl) (by kernel_rfl) (by kernel_rfl) (fun _ _ _ h => h) (Or.inl ⟨by rfl, ?_⟩) (by assumption) ?_
  rotate_left
  · (intro w hSw; (try dsimp only at hSw); go_simp)
    all_goals (with_reducible rfl)
  (try simp only [List.getElem_toArray, List.getElem_cons_zero, List.getElem_cons_succ, Act.put, List.setIfInBounds_toArray, List.set_cons_zero, List.set_cons_succ])
  refine wpAnyH_take (i := 8) (oi := _) (v := ?_) rfl (by kernel_rfl) (by kernel_rfl) (by kernel_rfl) (fun _ _ _ h => h) (Or.inl ⟨by rfl, ?_⟩) (by assumption) ?_
  rotate_left
  · (intro w hSw; (try dsimp only at hSw); go_simp)
    all_goals (with_reducible rfl)
  (try simp only [List.getElem_toArray, List.getElem_cons_zero, List.getElem_cons_succ, Act.put, List.setIfInBounds_toArray, List.set_cons_zero, List.set_cons_succ])
  refine wpAnyH_take (i := 9) (oi := _) (v := ?_) rfl (by kernel_rfl) (by kernel_rfl) (by kernel_rfl) (fun _ _ _ h => h) (Or.inl ⟨by rfl, ?_⟩) (by assumption) ?_
  rotate_left
  · (intro w hSw; (try dsimp only at hSw); go_simp)
    all_goals (with_reducible rfl)
  (try simp only [List.getElem_toArray, List.getElem_cons_zero, List.getElem_cons_succ, Act.put, List.setIfInBounds_toArray, List.set_cons_zero, List.set_cons_succ])
  refine wpAnyH_ready (rs := [10]) (by kernel_rfl) (by simp) ?_
  refine AllReadyH.cons rfl (fun K hK => ?_) AllReadyH.nil
  go_simp
  refine hK.out _ _ ?_ (fun hHeld => ?_)
  · (try dsimp only)
    exact heldO _ (by first | (with_reducible exact (Below.refl _ _).drew) | (with_reducible exact HB9.out) | (with_reducible exact HB10.out))
  clear hK K
  (try simp only [List.getElem_toArray, List.getElem_cons_zero, List.getElem_cons_succ, Act.put, List.setIfInBounds_toArray, List.set_cons_zero, List.set_cons_succ])
  refine wpAnyH_ready (rs := [11]) (by kernel_rfl) (by simp) ?_
  refine AllReadyH.cons rfl (fun K hK => ?_) AllReadyH.nil
  go_simp
  refine hK.out _ _ ?_ (fun hHeld => ?_)
  · (try dsimp only)
    exact heldO _ (by first | (with_reducible exact (Below.refl _ _).drew) | (with_reducible exact HB9.out) | (with_reducible exact HB10.out))
  clear hK K
  (try simp only [List.getElem_toArray, List.getElem_cons_zero, List.getElem_cons_succ, Act.put, List.setIfInBounds_toArray, List.set_cons_zero, List.set_cons_succ])
  refine wpAnyH_ready (rs := [12]) (by kernel_rfl) (by simp) ?_
  refine AllReadyH.cons rfl (fun K hK => ?_) AllReadyH.nil
  go_simp
  refine hK.out _ _ ?_ (fun hHeld => ?_)
  · (try dsimp only)
    exact heldO _ (by first | (with_reducible exact (Below.refl _ _).drew) | (with_reducible exact HB9.out) | (with_reducible exact HB10.out))
  clear hK K
  (try simp only [List.getElem_toArray, List.getElem_cons_zero, List.getElem_cons_succ, Act.put, List.setIfInBounds_toArray, List.set_cons_zero, List.set_cons_succ])
  refine wpAnyH_done (by kernel_rfl) ?_ _
  dsimp only [NQ]
  have r10 := (HB10.out.block W.heap.size hz8).trans HV8.out
  obtain ⟨v0, v1, v2, -, -, -⟩ := box3 r10
  have HW10 := Lib.hid (into HB8.out HB10.out)
  have HE := Lib.hid (cd.enc_any 1 (.slice (some ⟨w10.heap.size, 0, none⟩) 1 1) [num n] (w10.alloc (.cells #[.int .i64 2, .int .i64 n, .string ⟨#[]⟩] 36)) (fun v h => by rw [List.mem_singleton.1 h]; exact (ok_num HN.out).2) (vc_rd1 w10 (num n) w10.heap.size rfl))
  clear r10 heldO
  go_wp2_with fail
  have h5 := HE.out
  rw [enc_one (ok_num HN.out)] at h5
  refine h5.mono ?_
  clear h5
  rintro e w11 ⟨v11, rfl, hown, hb11⟩
  obtain ⟨⟨ka, kn, kc⟩, rfl, hk11⟩ := Rt.own hown
  have HB11 : Hid (Below w10.heap.size w10 w11) := Lib.hid (into (by go_grown) hb11)
  have HKK := Lib.hid hk11
  have HX := Lib.hid (HXY.out.1.below HB11.out)
  have HY := Lib.hid (HXY.out.2.below HB11.out)
  have HW11 := Lib.hid (into HW10.out HB11.out)
  obtain ⟨hlo, hhi⟩ := HPK.out.2.2.2.2
  have hkn : kn = 9 := HKK.out.len.1.trans (key_len n)
  have hxn : xn = lo.length := HX.out.len.1
  have hyn : yn = hi.length := HY.out.len.1
  subst hkn
  clear hown hb11 hk11 v0 v1 v2
  obtain ⟨ks, hks⟩ : ∃ ks : ByteArray, ks = ⟨(key n).toArray⟩ := ⟨_, rfl⟩
  have HKB : Hid ((convert 29 9 (sv ⟨ka, 9, kc⟩)).run Tryd.prog w11 = .ok (.string ks) w11) := Lib.hid (by rw [hks]; exact str_of (n := (key n).length) HKK.out.1)
  have HXB : Hid ((convert 29 9 (sv ⟨xa, xn, xc⟩)).run Tryd.prog w11 = .ok (.string ⟨lo.toArray⟩) w11) := Lib.hid (str_of HX.out.1)
  have HYB : Hid ((convert 29 9 (sv ⟨ya, yn, yc⟩)).run Tryd.prog w11 = .ok (.string ⟨hi.toArray⟩) w11) := Lib.hid (str_of HY.out.1)
  have h7 : k = 0 ∨ k = 1 ∨ k = 2 ∨ k = 3 ∨ k = 4 ∨ k = 5 ∨ k = 6 := by omega
  rcases h7 with rfl | rfl | rfl | rfl | rfl | rfl | rfl
  all_goals (
    simp only [Nat.reduceLT, Nat.reduceEqDiff, or_true, true_or, or_self, or_false, false_or, if_true, if_false, Nat.lt_irrefl, Nat.succ_ne_self] at hlo hhi
    try simp at hlo hhi
    rw [hlo] at hxn HXB
    rw [hhi] at hyn HYB
    (try rw [← hks] at HXB)
    (try rw [← hks] at HYB)
    (try rw [key_len] at hxn)
    (try rw [key_len] at hyn)
    (try rw [List.length_nil] at hxn)
    (try rw [List.length_nil] at hyn)
    subst hxn hyn
    have c1 := HKB.out
    have c2 := HXB.out
    have c3 := HYB.out
    clear hlo hhi hks)
  all_goals (
    go_wp2_with fail
    go_ret
    exact ⟨rfl, HW11.out⟩)

set_option maxRecDepth 100000 in
theorem lifted (os : Os) (started : os.Started) (H : Type) (enc : TypeId × Value → H) :
    ReturnsInHanded {} Tryd.checked os 4 .any (fun w args => (Rows.boundsOneSpec.pre enc Tryd.prog Tryd.f4 [] false w args ∧ laidX w) ∧ sizedMet enc Tryd.prog Tryd.f4 (OpenSpec.ofChange Rows.boundsOneSpec) false w args) (Rows.boundsOneSpec.post enc Tryd.prog Tryd.f4 false true false false) := by
  refine returnsInHanded_of_change_and (C := Tryd.checked) (X := fun w _ => laidX w) (fun _ _ _ hh h => h.of_heap hh) Tryd.own started (by kernel_rfl) Tryd.func4
    (ChangeSpec.witness_at (enc := enc) (C := Tryd.checked) (os := os) (X := fun w _ => laidX w) false (tabledX os) #[.int .i64 0, .int .i64 0] 8 rfl (by kernel_rfl) (by kernel_rfl) (by kernel_rfl) (by kernel_rfl) (by kernel_rfl) (tabledX_laidX os _)) ?_
  intro W base args ds gs before hval0 hW hcnd hsz0 hL _
  have hsz : (DataW.weightsEach Tryd.prog (Tryd.f4.params.toList ++ Rows.boundsOneSpec.plain.varTypes Tryd.prog) (ds ++ gs)).all (· ≤ reachBytes) = true := hsz0
  have hval : ∀ (j : Nat) t v, Tryd.f4.params[j]? = some t → args[j]? = some v → Value.okWide Tryd.prog W .any base t v := hval0
  have hW' := hW
  obtain ⟨p, q, hA0, hV, rfl, hfz, hnd⟩ := hW
  have hA : DataW.TrodAll enc Tryd.prog W 0 (fun _ => true) true Tryd.f4.params.toList args.toList ds p := hA0
  rw [Tryd.params4] at hA hval hsz
  obtain ⟨v0, v1, d0, d1, p0, p1, rfl, rfl, rfl, h0, h1⟩ := trodAll_two hA
  obtain ⟨rfl, rfl⟩ := trodVars_none hV
  obtain ⟨a0, rfl, rfl, rfl, w0⟩ := open_int Tryd.underlying3 (hval 0 3 v0 rfl rfl) h0
  obtain ⟨a1, rfl, rfl, rfl, w1⟩ := open_int Tryd.underlying3 (hval 1 3 v1 rfl rfl) h1
  clear hA0 hval0
  refine (walk W (X_of hL) a0 w0 a1 w1).mono fun e W' ⟨he, hg⟩ => ?_
  subst he
  exact ⟨_, rfl, law_post (tb := 4) Tryd.laidOut (by kernel_rfl) (by kernel_rfl) Tryd.underlying4 rfl hW' hg rfl rfl rfl⟩

theorem bare : Rows.BoundsOneSaid :=
  OpenClaim.holds_of_wide 4 Tryd.f4 rfl rfl rfl rfl rfl rfl rfl ⟨rfl, rfl, rfl, rfl, rfl⟩ rfl rfl rfl rfl rfl (by kernel_rfl) Tryd.func4 (by kernel_rfl)
    (of_decide_eq_true (by kernel_rfl)) (by unfold Func.isWrapper; first | (rw [if_pos (by decide +kernel)]; kernel_rfl) | (rw [if_neg (by decide +kernel)]; exact ⟨rfl, rfl⟩))
    (fun os started H enc _ => lifted os started H enc)
/-- The card: the row's one listed variable is tied to the program's text. -/
theorem proved : Rows.BoundsOneCardSaid :=
  Claim7.holds_tied_plain_at .later [] [.data, .data, .data, .data, .data, .data] true _ false bare (fun _ h => by cases h) (by kernel_rfl) (fun _ h => by cases h) boundsOne_row_tie rfl ⟨rfl, rfl⟩ (by kernel_rfl) rfl
    (fun f fn hf hfn => by
      obtain rfl : f = 4 := Option.some.inj ((show Tryd.prog.funcNamed "padlock/padlockkeep.BoundsOne" = some 4 by kernel_rfl).symm.trans hf) |>.symm
      obtain rfl : fn = Tryd.f4 := (Option.some.inj (Tryd.func4.symm.trans hfn)).symm
      refine ⟨by kernel_rfl, fun j t ht => ?_⟩
      rw [Tryd.params4] at ht
      rcases j with _ | _ | j <;> simp at ht <;> subst ht <;> kernel_rfl)
    (by kernel_rfl)
#print axioms proved
end Go.Proofs.YtmfkdpfcpdmkdaaDoor.lBoundsOne

/- Of seven expressions that say nothing of the first column no bounds are told; of its equality with a number both are its key. The row lists the program's tables of marks, of words that are kept, of what each op works on, and of the words of kinds, constants and signs; the card ties them to the program's text. -/
import Derived.Deep.DeepCutAuto
import Derived.Test.YtmfkdpfcpdmkdaaDoorQzk
import Derived.Test.YtmfkdpfcpdmkdaaDoorFjk
namespace Go.Proofs.YtmfkdpfcpdmkdaaDoor.lBoundsNone
open Go.ChangeShapes Go.WideShapes Go.ChangeAt Go.RowKit Go.Joins
open Go.ChangeMaps (open_string shut_string)
set_option linter.unusedVariables false
set_option linter.unusedSimpArgs false
set_option maxHeartbeats 400000

set_option maxHeartbeats 4000000
set_option maxRecDepth 100000
open Go.Proofs.YtmfkdpfcpdmkdaaDoor.bd
theorem wp_name {P : Program} {c : Code} {Q : Exit → Act → World → Prop} {a : Act} {w : World} (h : ∀ w8, w8 = w → Code.wp P c Q a w8) : Code.wp P c Q a w := h w rfl
theorem drew_al (w : World) (o : Obj) : Below w.heap.size w (w.drew.alloc o) := ((Below.refl _ _).drew).alloc (Nat.le_refl _) o
def allocs : World → List Obj → World
  | w, [] => w
  | w, o :: l => allocs (w.alloc o) l
theorem allocs_below : ∀ (l : List Obj) (w : World), Below w.heap.size w (allocs w l)
  | [], w => Below.refl _ _
  | o :: l, w => ((Below.refl _ _).alloc (Nat.le_refl _) o).trans ((allocs_below l (w.alloc o)).mono (by simp))
theorem allocs_at : ∀ (l : List Obj) (w : World) (i : Nat) (o : Obj), l[i]? = some o → (allocs w l).heap[w.heap.size + i]? = some o
  | [], w, i, o, h => by simp at h
  | x :: l, w, 0, o, h => by
    have e : x = o := by simpa using h
    subst e
    exact ((allocs_below l (w.alloc x)).block w.heap.size (by simp)).trans (new0 w x)
  | x :: l, w, i + 1, o, h => by
    have ih := allocs_at l (w.alloc x) i o (by simpa using h)
    rw [World.size_alloc] at ih
    rw [show w.heap.size + (i + 1) = w.heap.size + 1 + i by omega]
    exact ih
theorem rd_ops {w : World} {B : Nat} (l : List Oq) {T : TypeId} {fr : Nat × Nat} (hl : l.length ≤ 1000) (h : w.heap[B]? = some (.cells (ocs l).toArray T fr)) : Rd w 5 l.length (.slice (some ⟨B, 0, none⟩) l.length l.length) (ocs l) := by
  refine ⟨ocs_length l, some ⟨B, 0, none⟩, l.length, rfl, Nat.le_refl _, by unfold maxLen; omega, (fun h => by cases h), fun ad ha j u hu => ?_⟩
  obtain rfl := Option.some.inj ha
  rw [Addr.add_lit, Nat.zero_add]
  have e : (ocs l).toArray[j]? = some u := by rw [← hu]; simp
  simp [World.cell?, h, e]
theorem sm_id : Sml (cO idT) := ⟨by decide, fun _ => by simp [colL], ⟨by decide, by decide⟩⟩
theorem sm_n : Sml (cO nT) := ⟨by decide, fun _ => by simp [colL], ⟨by decide, by decide⟩⟩
theorem sm_num {n : Int} (h : 0 ≤ n ∧ n < 100000) : Sml (lO (num n)) := sml_bare (k := 1) (by decide) (by show Fi n; unfold Fi; omega)
theorem sm_nul : Sml (lO nul) := sml_bare (k := 1) (by decide) ⟨by decide, by decide⟩
theorem sm_op {k : Int} (h : k ≠ 2) : Sml (oO k) := sml_bare (k := k) h ⟨by decide, by decide⟩
theorem sm_cons {o : Oq} {l : List Oq} (h : Sml o) (g : ∀ x ∈ l, Sml x) : ∀ x ∈ o :: l, Sml x := fun x hx => by
  rcases List.mem_cons.1 hx with rfl | hx
  · exact h
  · exact g x hx
theorem sm_nil : ∀ x ∈ ([] : List Oq), Sml x := fun x hx => by cases hx
theorem bounds_hid (W : World) (hL : Tbs W) : Hid (∀ (w : World) (n m : Nat) (v x : Value) (l : List Cq) (ops : List Oq) (r : Int × List UInt8 × List UInt8), Below W.heap.size W w → Rd w 2 n v (ccs l) → (∀ c ∈ l, c.t.size ≤ 8) → Rd w 5 m x (ocs ops) → (∀ o ∈ ops, Sml o) → boundsF l ops = r → Calls Tryd.prog 9 #[v, x] w (BoundsIs r w)) := fun w n m v x l ops r hB hr hc hx ho hq => by
  have h := bounds_any w (hL.below hB) n m v x l ops hr (small4 hc) hx (sml_max ho) (fun o h => (ho o h).2.2)
  rw [hq] at h
  exact h
theorem number_any (w : World) (n : Int) : Calls Tryd.prog 15 #[.int .i64 n] w fun e w' => e = .returned (.agg #[.int .i64 2, .int .i64 n, .string ⟨#[]⟩]) ∧ w' = w.alloc (.cells #[.int .i64 2, .int .i64 n, .string ⟨#[]⟩] 36) := by
  go_enter Tryd.func15, Tryd.ntmps15
  go_wp2
  go_returns
  exact ⟨rfl, rfl⟩
def Pk (w : World) (F k : Nat) (x len : Nat) (ops : List Oq) : Prop := w.cell? ⟨F, k, none⟩ = some (.slice (some ⟨x, 0, none⟩) len len) ∧ Rd w 5 len (.slice (some ⟨x, 0, none⟩) len len) (ocs ops) ∧ (∀ o ∈ ops, Sml o) ∧ boundsF c4t ops = (0, [], [])
theorem pick (W w : World) (n : Int) (h1k : 0 ≤ n ∧ n < 100000) (hw : w = allocs W [(.cells #[.int .i64 2, .int .i64 n, .string ⟨#[]⟩] 36), (.cells #[.int .i64 1, .int .i64 2, .int .i64 n, .string ⟨#[]⟩, .string ⟨#[]⟩] 44), (.cells #[.int .i64 2, .int .i64 0, .int .i64 0, .string ⟨#[]⟩, .string ⟨#[105, 100]⟩] 44), (.cells #[.int .i64 2, .int .i64 0, .int .i64 0, .string ⟨#[]⟩, .string ⟨#[110]⟩] 44), (.cells #[.int .i64 2, .int .i64 0, .int .i64 0, .string ⟨#[]⟩, .string ⟨#[110]⟩, .int .i64 1, .int .i64 2, .int .i64 n, .string ⟨#[]⟩, .string ⟨#[]⟩, .int .i64 6, .int .i64 0, .int .i64 0, .string ⟨#[]⟩, .string ⟨#[]⟩] 44), (.cells #[.int .i64 2, .int .i64 0, .int .i64 0, .string ⟨#[]⟩, .string ⟨#[105, 100]⟩, .int .i64 1, .int .i64 0, .int .i64 0, .string ⟨#[]⟩, .string ⟨#[]⟩, .int .i64 6, .int .i64 0, .int .i64 0, .string ⟨#[]⟩, .string ⟨#[]⟩] 44), (.cells #[.int .i64 2, .int .i64 0, .int .i64 0, .string ⟨#[]⟩, .string ⟨#[105, 100]⟩, .int .i64 2, .int .i64 0, .int .i64 0, .string ⟨#[]⟩, .string ⟨#[110]⟩, .int .i64 7, .int .i64 0, .int .i64 0, .string ⟨#[]⟩, .string ⟨#[]⟩] 44), (.cells #[.int .i64 1, .int .i64 2, .int .i64 n, .string ⟨#[]⟩, .string ⟨#[]⟩, .int .i64 1, .int .i64 2, .int .i64 n, .string ⟨#[]⟩, .string ⟨#[]⟩, .int .i64 7, .int .i64 0, .int .i64 0, .string ⟨#[]⟩, .string ⟨#[]⟩] 44), (.cells #[.int .i64 2, .int .i64 0, .int .i64 0, .string ⟨#[]⟩, .string ⟨#[105, 100]⟩, .int .i64 11, .int .i64 0, .int .i64 0, .string ⟨#[]⟩, .string ⟨#[]⟩] 44), (.cells #[.int .i64 2, .int .i64 0, .int .i64 0, .string ⟨#[]⟩, .string ⟨#[105, 100]⟩, .int .i64 1, .int .i64 2, .int .i64 n, .string ⟨#[]⟩, .string ⟨#[]⟩, .int .i64 8, .int .i64 0, .int .i64 0, .string ⟨#[]⟩, .string ⟨#[]⟩, .int .i64 1, .int .i64 2, .int .i64 n, .string ⟨#[]⟩, .string ⟨#[]⟩, .int .i64 7, .int .i64 0, .int .i64 0, .string ⟨#[]⟩, .string ⟨#[]⟩] 44), (.cells #[.int .i64 2, .int .i64 0, .int .i64 0, .string ⟨#[]⟩, .string ⟨#[105, 100]⟩, .int .i64 1, .int .i64 2, .int .i64 n, .string ⟨#[]⟩, .string ⟨#[]⟩, .int .i64 7, .int .i64 0, .int .i64 0, .string ⟨#[]⟩, .string ⟨#[]⟩, .int .i64 5, .int .i64 0, .int .i64 0, .string ⟨#[]⟩, .string ⟨#[]⟩, .int .i64 5, .int .i64 0, .int .i64 0, .string ⟨#[]⟩, .string ⟨#[]⟩] 44), (.cells #[.slice (some ⟨W.heap.size + 1 + 1 + 1 + 1, 0, none⟩) 3 3, .slice (some ⟨W.heap.size + 1 + 1 + 1 + 1 + 1, 0, none⟩) 3 3, .slice (some ⟨W.heap.size + 1 + 1 + 1 + 1 + 1 + 1, 0, none⟩) 3 3, .slice (some ⟨W.heap.size + 1 + 1 + 1 + 1 + 1 + 1 + 1, 0, none⟩) 3 3, .slice (some ⟨W.heap.size + 1 + 1 + 1 + 1 + 1 + 1 + 1 + 1, 0, none⟩) 2 2, .slice (some ⟨W.heap.size + 1 + 1 + 1 + 1 + 1 + 1 + 1 + 1 + 1, 0, none⟩) 5 5, .slice (some ⟨W.heap.size + 1 + 1 + 1 + 1 + 1 + 1 + 1 + 1 + 1 + 1, 0, none⟩) 5 5] 27)]) (k : Nat) (hk : k < 7) : ∃ x len ops, Pk w (W.heap.size + 1 + 1 + 1 + 1 + 1 + 1 + 1 + 1 + 1 + 1 + 1) k x len ops := by
  have hF : w.heap[W.heap.size + 1 + 1 + 1 + 1 + 1 + 1 + 1 + 1 + 1 + 1 + 1]? = some (.cells #[.slice (some ⟨W.heap.size + 1 + 1 + 1 + 1, 0, none⟩) 3 3, .slice (some ⟨W.heap.size + 1 + 1 + 1 + 1 + 1, 0, none⟩) 3 3, .slice (some ⟨W.heap.size + 1 + 1 + 1 + 1 + 1 + 1, 0, none⟩) 3 3, .slice (some ⟨W.heap.size + 1 + 1 + 1 + 1 + 1 + 1 + 1, 0, none⟩) 3 3, .slice (some ⟨W.heap.size + 1 + 1 + 1 + 1 + 1 + 1 + 1 + 1, 0, none⟩) 2 2, .slice (some ⟨W.heap.size + 1 + 1 + 1 + 1 + 1 + 1 + 1 + 1 + 1, 0, none⟩) 5 5, .slice (some ⟨W.heap.size + 1 + 1 + 1 + 1 + 1 + 1 + 1 + 1 + 1 + 1, 0, none⟩) 5 5] 27 (0, 0)) := by rw [hw]; exact allocs_at _ W 11 _ rfl
  have q0 : w.heap[W.heap.size + 1 + 1 + 1 + 1]? = some (.cells #[.int .i64 2, .int .i64 0, .int .i64 0, .string ⟨#[]⟩, .string ⟨#[110]⟩, .int .i64 1, .int .i64 2, .int .i64 n, .string ⟨#[]⟩, .string ⟨#[]⟩, .int .i64 6, .int .i64 0, .int .i64 0, .string ⟨#[]⟩, .string ⟨#[]⟩] 44 (0, 0)) := by rw [hw]; exact allocs_at _ W 4 _ rfl
  have q1 : w.heap[W.heap.size + 1 + 1 + 1 + 1 + 1]? = some (.cells #[.int .i64 2, .int .i64 0, .int .i64 0, .string ⟨#[]⟩, .string ⟨#[105, 100]⟩, .int .i64 1, .int .i64 0, .int .i64 0, .string ⟨#[]⟩, .string ⟨#[]⟩, .int .i64 6, .int .i64 0, .int .i64 0, .string ⟨#[]⟩, .string ⟨#[]⟩] 44 (0, 0)) := by rw [hw]; exact allocs_at _ W 5 _ rfl
  have q2 : w.heap[W.heap.size + 1 + 1 + 1 + 1 + 1 + 1]? = some (.cells #[.int .i64 2, .int .i64 0, .int .i64 0, .string ⟨#[]⟩, .string ⟨#[105, 100]⟩, .int .i64 2, .int .i64 0, .int .i64 0, .string ⟨#[]⟩, .string ⟨#[110]⟩, .int .i64 7, .int .i64 0, .int .i64 0, .string ⟨#[]⟩, .string ⟨#[]⟩] 44 (0, 0)) := by rw [hw]; exact allocs_at _ W 6 _ rfl
  have q3 : w.heap[W.heap.size + 1 + 1 + 1 + 1 + 1 + 1 + 1]? = some (.cells #[.int .i64 1, .int .i64 2, .int .i64 n, .string ⟨#[]⟩, .string ⟨#[]⟩, .int .i64 1, .int .i64 2, .int .i64 n, .string ⟨#[]⟩, .string ⟨#[]⟩, .int .i64 7, .int .i64 0, .int .i64 0, .string ⟨#[]⟩, .string ⟨#[]⟩] 44 (0, 0)) := by rw [hw]; exact allocs_at _ W 7 _ rfl
  have q4 : w.heap[W.heap.size + 1 + 1 + 1 + 1 + 1 + 1 + 1 + 1]? = some (.cells #[.int .i64 2, .int .i64 0, .int .i64 0, .string ⟨#[]⟩, .string ⟨#[105, 100]⟩, .int .i64 11, .int .i64 0, .int .i64 0, .string ⟨#[]⟩, .string ⟨#[]⟩] 44 (0, 0)) := by rw [hw]; exact allocs_at _ W 8 _ rfl
  have q5 : w.heap[W.heap.size + 1 + 1 + 1 + 1 + 1 + 1 + 1 + 1 + 1]? = some (.cells #[.int .i64 2, .int .i64 0, .int .i64 0, .string ⟨#[]⟩, .string ⟨#[105, 100]⟩, .int .i64 1, .int .i64 2, .int .i64 n, .string ⟨#[]⟩, .string ⟨#[]⟩, .int .i64 8, .int .i64 0, .int .i64 0, .string ⟨#[]⟩, .string ⟨#[]⟩, .int .i64 1, .int .i64 2, .int .i64 n, .string ⟨#[]⟩, .string ⟨#[]⟩, .int .i64 7, .int .i64 0, .int .i64 0, .string ⟨#[]⟩, .string ⟨#[]⟩] 44 (0, 0)) := by rw [hw]; exact allocs_at _ W 9 _ rfl
  have q6 : w.heap[W.heap.size + 1 + 1 + 1 + 1 + 1 + 1 + 1 + 1 + 1 + 1]? = some (.cells #[.int .i64 2, .int .i64 0, .int .i64 0, .string ⟨#[]⟩, .string ⟨#[105, 100]⟩, .int .i64 1, .int .i64 2, .int .i64 n, .string ⟨#[]⟩, .string ⟨#[]⟩, .int .i64 7, .int .i64 0, .int .i64 0, .string ⟨#[]⟩, .string ⟨#[]⟩, .int .i64 5, .int .i64 0, .int .i64 0, .string ⟨#[]⟩, .string ⟨#[]⟩, .int .i64 5, .int .i64 0, .int .i64 0, .string ⟨#[]⟩, .string ⟨#[]⟩] 44 (0, 0)) := by rw [hw]; exact allocs_at _ W 10 _ rfl
  have h7 : k = 0 ∨ k = 1 ∨ k = 2 ∨ k = 3 ∨ k = 4 ∨ k = 5 ∨ k = 6 := by omega
  rcases h7 with rfl | rfl | rfl | rfl | rfl | rfl | rfl
  · exact ⟨W.heap.size + 1 + 1 + 1 + 1, 3, [cO nT, lO (num n), oO 6], by simp [World.cell?, hF], rd_ops [cO nT, lO (num n), oO 6] (by simp) q0, (sm_cons sm_n (sm_cons (sm_num h1k) (sm_cons (sm_op (by decide)) sm_nil))), n1 n h1k⟩
  · exact ⟨W.heap.size + 1 + 1 + 1 + 1 + 1, 3, [cO idT, lO nul, oO 6], by simp [World.cell?, hF], rd_ops [cO idT, lO nul, oO 6] (by simp) q1, (sm_cons sm_id (sm_cons sm_nul (sm_cons (sm_op (by decide)) sm_nil))), n2⟩
  · exact ⟨W.heap.size + 1 + 1 + 1 + 1 + 1 + 1, 3, [cO idT, cO nT, oO 7], by simp [World.cell?, hF], rd_ops [cO idT, cO nT, oO 7] (by simp) q2, (sm_cons sm_id (sm_cons sm_n (sm_cons (sm_op (by decide)) sm_nil))), n3⟩
  · exact ⟨W.heap.size + 1 + 1 + 1 + 1 + 1 + 1 + 1, 3, [lO (num n), lO (num n), oO 7], by simp [World.cell?, hF], rd_ops [lO (num n), lO (num n), oO 7] (by simp) q3, (sm_cons (sm_num h1k) (sm_cons (sm_num h1k) (sm_cons (sm_op (by decide)) sm_nil))), n4 n h1k⟩
  · exact ⟨W.heap.size + 1 + 1 + 1 + 1 + 1 + 1 + 1 + 1, 2, [cO idT, oO 11], by simp [World.cell?, hF], rd_ops [cO idT, oO 11] (by simp) q4, (sm_cons sm_id (sm_cons (sm_op (by decide)) sm_nil)), n5⟩
  · exact ⟨W.heap.size + 1 + 1 + 1 + 1 + 1 + 1 + 1 + 1 + 1, 5, [cO idT, lO (num n), oO 8, lO (num n), oO 7], by simp [World.cell?, hF], rd_ops [cO idT, lO (num n), oO 8, lO (num n), oO 7] (by simp) q5, (sm_cons sm_id (sm_cons (sm_num h1k) (sm_cons (sm_op (by decide)) (sm_cons (sm_num h1k) (sm_cons (sm_op (by decide)) sm_nil))))), n6 n h1k⟩
  · exact ⟨W.heap.size + 1 + 1 + 1 + 1 + 1 + 1 + 1 + 1 + 1 + 1, 5, [cO idT, lO (num n), oO 7, oO 5, oO 5], by simp [World.cell?, hF], rd_ops [cO idT, lO (num n), oO 7, oO 5, oO 5] (by simp) q6, (sm_cons sm_id (sm_cons (sm_num h1k) (sm_cons (sm_op (by decide)) (sm_cons (sm_op (by decide)) (sm_cons (sm_op (by decide)) sm_nil))))), n7 n h1k⟩
theorem walk (W : World) (hL : Tbs W) (a : Int) (wa : (Lit.int .i64 a).wf = true) (b : Int) (wb : (Lit.int .i64 b).wf = true) :
    Calls Tryd.prog 6 #[.int .i64 a, .int .i64 b] W fun e w' => e = .returned (.bool true) ∧ Below W.heap.size W w' := by
  have HCO := Lib.hid colsOf_any
  have HBD := bounds_hid W hL
  have hp := fun w => pck_any a 100 w (rn_of wa) (by omega) (by omega)
  obtain ⟨p0, p1⟩ := pck_in a 100 (by omega)
  obtain ⟨n, hn⟩ : ∃ n, n = pck a 100 := ⟨_, rfl⟩
  rw [← hn] at hp p0 p1
  have HP := Lib.hid hp
  have hk := fun w => pck_any b 7 w (rn_of wb) (by omega) (by omega)
  obtain ⟨k0, k1⟩ := pck_in b 7 (by omega)
  obtain ⟨k, hkk⟩ : ∃ k : Nat, pck b 7 = (k : Int) := ⟨(pck b 7).toNat, by omega⟩
  rw [hkk] at hk k0 k1
  have HK := Lib.hid hk
  have HNU := Lib.hid (fun w => number_any w n)
  clear hp hk hn hkk hL
  go_enter Tryd.func6, Tryd.ntmps6
  go_upto_region 5 with (first | (go_at_call 13; ((with_reducible refine (HP.out _).mono ?_); rintro e w' ⟨rfl, rfl⟩)) | (go_at_call 15; ((with_reducible refine (HNU.out _).mono ?_); rintro e w' ⟨rfl, rfl⟩)))
  refine wp_name (fun w8 hw8 => ?_)
  have hw8' : w8 = allocs W [(.cells #[.int .i64 2, .int .i64 n, .string ⟨#[]⟩] 36), (.cells #[.int .i64 1, .int .i64 2, .int .i64 n, .string ⟨#[]⟩, .string ⟨#[]⟩] 44), (.cells #[.int .i64 2, .int .i64 0, .int .i64 0, .string ⟨#[]⟩, .string ⟨#[105, 100]⟩] 44), (.cells #[.int .i64 2, .int .i64 0, .int .i64 0, .string ⟨#[]⟩, .string ⟨#[110]⟩] 44), (.cells #[.int .i64 2, .int .i64 0, .int .i64 0, .string ⟨#[]⟩, .string ⟨#[110]⟩, .int .i64 1, .int .i64 2, .int .i64 n, .string ⟨#[]⟩, .string ⟨#[]⟩, .int .i64 6, .int .i64 0, .int .i64 0, .string ⟨#[]⟩, .string ⟨#[]⟩] 44), (.cells #[.int .i64 2, .int .i64 0, .int .i64 0, .string ⟨#[]⟩, .string ⟨#[105, 100]⟩, .int .i64 1, .int .i64 0, .int .i64 0, .string ⟨#[]⟩, .string ⟨#[]⟩, .int .i64 6, .int .i64 0, .int .i64 0, .string ⟨#[]⟩, .string ⟨#[]⟩] 44), (.cells #[.int .i64 2, .int .i64 0, .int .i64 0, .string ⟨#[]⟩, .string ⟨#[105, 100]⟩, .int .i64 2, .int .i64 0, .int .i64 0, .string ⟨#[]⟩, .string ⟨#[110]⟩, .int .i64 7, .int .i64 0, .int .i64 0, .string ⟨#[]⟩, .string ⟨#[]⟩] 44), (.cells #[.int .i64 1, .int .i64 2, .int .i64 n, .string ⟨#[]⟩, .string ⟨#[]⟩, .int .i64 1, .int .i64 2, .int .i64 n, .string ⟨#[]⟩, .string ⟨#[]⟩, .int .i64 7, .int .i64 0, .int .i64 0, .string ⟨#[]⟩, .string ⟨#[]⟩] 44), (.cells #[.int .i64 2, .int .i64 0, .int .i64 0, .string ⟨#[]⟩, .string ⟨#[105, 100]⟩, .int .i64 11, .int .i64 0, .int .i64 0, .string ⟨#[]⟩, .string ⟨#[]⟩] 44), (.cells #[.int .i64 2, .int .i64 0, .int .i64 0, .string ⟨#[]⟩, .string ⟨#[105, 100]⟩, .int .i64 1, .int .i64 2, .int .i64 n, .string ⟨#[]⟩, .string ⟨#[]⟩, .int .i64 8, .int .i64 0, .int .i64 0, .string ⟨#[]⟩, .string ⟨#[]⟩, .int .i64 1, .int .i64 2, .int .i64 n, .string ⟨#[]⟩, .string ⟨#[]⟩, .int .i64 7, .int .i64 0, .int .i64 0, .string ⟨#[]⟩, .string ⟨#[]⟩] 44), (.cells #[.int .i64 2, .int .i64 0, .int .i64 0, .string ⟨#[]⟩, .string ⟨#[105, 100]⟩, .int .i64 1, .int .i64 2, .int .i64 n, .string ⟨#[]⟩, .string ⟨#[]⟩, .int .i64 7, .int .i64 0, .int .i64 0, .string ⟨#[]⟩, .string ⟨#[]⟩, .int .i64 5, .int .i64 0, .int .i64 0, .string ⟨#[]⟩, .string ⟨#[]⟩, .int .i64 5, .int .i64 0, .int .i64 0, .string ⟨#[]⟩, .string ⟨#[]⟩] 44), (.cells #[.slice (some ⟨W.heap.size + 1 + 1 + 1 + 1, 0, none⟩) 3 3, .slice (some ⟨W.heap.size + 1 + 1 + 1 + 1 + 1, 0, none⟩) 3 3, .slice (some ⟨W.heap.size + 1 + 1 + 1 + 1 + 1 + 1, 0, none⟩) 3 3, .slice (some ⟨W.heap.size + 1 + 1 + 1 + 1 + 1 + 1 + 1, 0, none⟩) 3 3, .slice (some ⟨W.heap.size + 1 + 1 + 1 + 1 + 1 + 1 + 1 + 1, 0, none⟩) 2 2, .slice (some ⟨W.heap.size + 1 + 1 + 1 + 1 + 1 + 1 + 1 + 1 + 1, 0, none⟩) 5 5, .slice (some ⟨W.heap.size + 1 + 1 + 1 + 1 + 1 + 1 + 1 + 1 + 1 + 1, 0, none⟩) 5 5] 27)] := hw8
  have HB8 : Hid (Below W.heap.size W w8) := Lib.hid (by rw [hw8']; exact allocs_below _ _)
  have HI8 : Hid (w8.heap[W.heap.size + 1 + 1]? = some (.cells #[.int .i64 2, .int .i64 0, .int .i64 0, .string ⟨#[]⟩, .string ⟨#[105, 100]⟩] 44 (0, 0))) := Lib.hid (by rw [hw8']; exact allocs_at _ W 2 _ rfl)
  have HL8 : Hid (w8.heap[W.heap.size + 1]? = some (.cells #[.int .i64 1, .int .i64 2, .int .i64 n, .string ⟨#[]⟩, .string ⟨#[]⟩] 44 (0, 0))) := Lib.hid (by rw [hw8']; exact allocs_at _ W 1 _ rfl)
  have hz8 : W.heap.size + 1 + 1 < w8.heap.size := by
    rcases Nat.lt_or_ge (W.heap.size + 1 + 1) w8.heap.size with g | g
    · exact g
    · have := HI8.out; rw [Array.getElem?_eq_none g] at this; cases this
  have hok : 0 ≤ n ∧ n < 100000 := ⟨p0, by omega⟩
  have HN := Lib.hid hok
  obtain ⟨x, len, ops, hpk⟩ := pick W w8 n hok hw8' k (by omega)
  unfold Pk at hpk
  have HPK := Lib.hid hpk
  have hcell := cell_blz ((Below.refl w8.heap.size w8).alloc (Nat.le_refl _) (.cells #[.string ⟨#[105, 100]⟩, .int .i64 2, .string ⟨#[110]⟩, .int .i64 2, .string ⟨#[115]⟩, .int .i64 3, .string ⟨#[98]⟩, .int .i64 1] 62)) hpk.1
  have hk7' : (k : Int) < 7 := by omega
  clear hw8 hw8' hok hpk p0 p1 HP
  go_wp2_with (first | (go_at_call 10; ((with_reducible refine (HCO.out _).mono ?_); rintro e w' ⟨rfl, rfl⟩)) | (go_at_call 13; ((with_reducible refine (HK.out _).mono ?_); rintro e w' ⟨rfl, rfl⟩)))
  refine (HBD.out _ 4 len _ _ c4t ops _ (HB8.out.alloc HB8.out.size _) (rd_c4 w8 _ _ _ _ _ _ _ _ _ rfl) (by decide) (rd_alloc HPK.out.2.1 _) HPK.out.2.2.1 HPK.out.2.2.2).mono ?_
  rintro e w10 ⟨⟨xa, xn, xc⟩, ⟨ya, yn, yc⟩, rfl, hx, hy, hb10⟩
  have HXY := Lib.hid (And.intro hx hy)
  have B10 : Below w8.heap.size w8 w10 := into ((Below.refl _ _).alloc (Nat.le_refl _) _) hb10
  have HB10 : Hid (Below W.heap.size W w10) := Lib.hid (into HB8.out B10)
  have r1 := (B10.block (W.heap.size + 1) (by omega)).trans HL8.out
  have r2 := (B10.block (W.heap.size + 1 + 1) (by omega)).trans HI8.out
  clear hx hy hb10 hcell B10 HPK
  go_upto_region 6 with (fail)
  have heldO : ∀ wx, Below w10.heap.size w10 wx → (fun wx => Below w10.heap.size w10 wx ∧ wx.cell? ⟨W.heap.size + 1, 0, none⟩ = some (.int .i64 1) ∧ wx.cell? ⟨W.heap.size + 1, 1, none⟩ = some (.int .i64 2) ∧ wx.cell? ⟨W.heap.size + 1, 2, none⟩ = some (.int .i64 n) ∧ wx.cell? ⟨W.heap.size + 1, 3, none⟩ = some (.string ⟨#[]⟩) ∧ wx.cell? ⟨W.heap.size + 1, 4, none⟩ = some (.string ⟨#[]⟩) ∧ wx.cell? ⟨W.heap.size + 1 + 1, 0, none⟩ = some (.int .i64 2) ∧ wx.cell? ⟨W.heap.size + 1 + 1, 1, none⟩ = some (.int .i64 0) ∧ wx.cell? ⟨W.heap.size + 1 + 1, 2, none⟩ = some (.int .i64 0) ∧ wx.cell? ⟨W.heap.size + 1 + 1, 3, none⟩ = some (.string ⟨#[]⟩) ∧ wx.cell? ⟨W.heap.size + 1 + 1, 4, none⟩ = some (.string ⟨#[105,100]⟩)) wx := fun wx h => ⟨h, cell_blz h (by simp [World.cell?, r1]), cell_blz h (by simp [World.cell?, r1]), cell_blz h (by simp [World.cell?, r1]), cell_blz h (by simp [World.cell?, r1]), cell_blz h (by simp [World.cell?, r1]), cell_blz h (by simp [World.cell?, r2]), cell_blz h (by simp [World.cell?, r2]), cell_blz h (by simp [World.cell?, r2]), cell_blz h (by simp [World.cell?, r2]), cell_blz h (by simp [World.cell?, r2])⟩
  clear r1 r2
  refine Code.wp_mono (Q := NQ _) nq_to ?_
  refine wp_region_held_drew (S := (fun wx => Below w10.heap.size w10 wx ∧ wx.cell? ⟨W.heap.size + 1, 0, none⟩ = some (.int .i64 1) ∧ wx.cell? ⟨W.heap.size + 1, 1, none⟩ = some (.int .i64 2) ∧ wx.cell? ⟨W.heap.size + 1, 2, none⟩ = some (.int .i64 n) ∧ wx.cell? ⟨W.heap.size + 1, 3, none⟩ = some (.string ⟨#[]⟩) ∧ wx.cell? ⟨W.heap.size + 1, 4, none⟩ = some (.string ⟨#[]⟩) ∧ wx.cell? ⟨W.heap.size + 1 + 1, 0, none⟩ = some (.int .i64 2) ∧ wx.cell? ⟨W.heap.size + 1 + 1, 1, none⟩ = some (.int .i64 0) ∧ wx.cell? ⟨W.heap.size + 1 + 1, 2, none⟩ = some (.int .i64 0) ∧ wx.cell? ⟨W.heap.size + 1 + 1, 3, none⟩ = some (.string ⟨#[]⟩) ∧ wx.cell? ⟨W.heap.size + 1 + 1, 4, none⟩ = some (.string ⟨#[105,100]⟩))) (by kernel_rfl) ?_ (fun hHeld => ?_)
  · (try dsimp only)
    exact heldO _ (by first | (with_reducible exact (Below.refl _ _).drew) | (with_reducible exact HB11.out) | (with_reducible exact HB11.out.alloc HB11.out.size _) | (with_reducible exact ((Below.refl _ _).alloc (Nat.le_refl _) _).drew) | (with_reducible exact HB12.out))
  refine wpAnyH_take (i := 1) (oi := _) (v := ?_) rfl (by kernel_rfl) (by kernel_rfl) (by kernel_rfl) (fun _ _ _ h => h) (Or.inl ⟨by rfl, ?_⟩) (by assumption) ?_
  rotate_left
  · (intro w hSw; (try dsimp only at hSw); go_simp)
    all_goals (with_reducible rfl)
  (try simp only [List.getElem_toArray, List.getElem_cons_zero, List.getElem_cons_succ, Act.put, List.setIfInBounds_toArray, List.set_cons_zero, List.set_cons_succ])
  refine wpAnyH_take (i := 2) (oi := _) (v := ?_) rfl (by kernel_rfl) (by kernel_rfl) (by kernel_rfl) (fun _ _ _ h => h) (Or.inl ⟨by rfl, ?_⟩) (by assumption) ?_
  rotate_left
  · (intro w hSw; (try dsimp only at hSw); go_simp)
    all_goals (with_reducible rfl)
  (try simp only [List.getElem_toArray, List.getElem_cons_zero, List.getElem_cons_succ, Act.put, List.setIfInBounds_toArray, List.set_cons_zero, List.set_cons_succ])
  refine wpAnyH_take (i := 3) (oi := _) (v := ?_) rfl (by kernel_rfl) (by kernel_rfl) (by kernel_rfl) (fun _ _ _ h => h) (Or.inl ⟨by rfl, ?_⟩) (by assumption) ?_
  rotate_left
  · (intro w hSw; (try dsimp only at hSw); go_simp)
    all_goals (with_reducible rfl)
  (try simp only [List.getElem_toArray, List.getElem_cons_zero, List.getElem_cons_succ, Act.put, List.setIfInBounds_toArray, List.set_cons_zero, List.set_cons_succ])
  refine wpAnyH_ready (rs := [0, 4]) (by kernel_rfl) (by simp) ?_
  refine AllReadyH.cons rfl (fun K hK => ?_) (AllReadyH.cons rfl (fun K hK => ?_) AllReadyH.nil)
  · go_simp
    (first | (go_at_call 10; (with_reducible refine (HCO.out _).mono ?_); rintro e w11 ⟨rfl, hw11⟩; have HC11 : Hid (Rd w11 2 4 (.slice (some ⟨w10.heap.size, 0, none⟩) 4 4) (ccs c4t)) := Lib.hid (by rw [hw11]; exact rd_c4 w10.drew _ _ _ _ _ _ _ _ _ rfl); have HB11 : Hid (Below w10.heap.size w10 w11) := Lib.hid (by rw [hw11]; exact ((Below.refl _ _).drew).alloc (Nat.le_refl _) _); clear hw11) | (go_at_call 10; (with_reducible refine (HCO.out _).mono ?_); rintro e w11 ⟨rfl, hw11⟩; have HC11 : Hid (Rd w11 2 4 (.slice (some ⟨w10.heap.size + 1, 0, none⟩) 4 4) (ccs c4t)) := Lib.hid (by rw [hw11]; exact rd_c4 _ _ _ _ _ _ _ _ _ (w10.heap.size + 1) (by simp)); have HO11 : Hid (Rd w11 5 3 (.slice (some ⟨w10.heap.size, 0, none⟩) 3 3) (ocs [cO idT, lO (num n), oO 6])) := Lib.hid (by rw [hw11]; exact rd_alloc (rd_ops [cO idT, lO (num n), oO 6] (by simp) (by have h := new0 w10 (.cells #[.int .i64 2, .int .i64 0, .int .i64 0, .string ⟨#[]⟩, .string ⟨#[105, 100]⟩, .int .i64 1, .int .i64 2, .int .i64 n, .string ⟨#[]⟩, .string ⟨#[]⟩, .int .i64 6, .int .i64 0, .int .i64 0, .string ⟨#[]⟩, .string ⟨#[]⟩] 44); exact h)) _); have HB11 : Hid (Below w10.heap.size w10 w11) := Lib.hid (by rw [hw11]; exact (((Below.refl _ _).alloc (Nat.le_refl _) _).drew).alloc (by simp) _); clear hw11))
    go_wp2_with fail
    refine hK.out _ _ ?_ (fun hHeld => ?_)
    · (try dsimp only)
      exact heldO _ (by first | (with_reducible exact (Below.refl _ _).drew) | (with_reducible exact HB11.out) | (with_reducible exact HB11.out.alloc HB11.out.size _) | (with_reducible exact ((Below.refl _ _).alloc (Nat.le_refl _) _).drew) | (with_reducible exact HB12.out))
    clear hK K
    (try simp only [List.getElem_toArray, List.getElem_cons_zero, List.getElem_cons_succ, Act.put, List.setIfInBounds_toArray, List.set_cons_zero, List.set_cons_succ])
    refine wpAnyH_ready (rs := [4]) (by kernel_rfl) (by simp) ?_
    refine AllReadyH.cons rfl (fun K hK => ?_) AllReadyH.nil
    go_simp
    refine hK.out _ _ ?_ (fun hHeld => ?_)
    · (try dsimp only)
      exact heldO _ (by first | (with_reducible exact (Below.refl _ _).drew) | (with_reducible exact HB11.out) | (with_reducible exact HB11.out.alloc HB11.out.size _) | (with_reducible exact ((Below.refl _ _).alloc (Nat.le_refl _) _).drew) | (with_reducible exact HB12.out))
    clear hK K
    (try simp only [List.getElem_toArray, List.getElem_cons_zero, List.getElem_cons_succ, Act.put, List.setIfInBounds_toArray, List.set_cons_zero, List.set_cons_succ])
    refine wpAnyH_ready (rs := [5]) (by kernel_rfl) (by simp) ?_
    refine AllReadyH.cons rfl (fun K hK => ?_) AllReadyH.nil
    go_simp
    (first | (go_at_call 9; (with_reducible refine (HBD.out _ 4 3 _ _ c4t [cO idT, lO (num n), oO 6] _ (into HB10.out (HB11.out.alloc HB11.out.size _)) (rd_alloc HC11.out _) (by decide) (rd_ops [cO idT, lO (num n), oO 6] (by simp) (new0 w11 (.cells #[.int .i64 2, .int .i64 0, .int .i64 0, .string ⟨#[]⟩, .string ⟨#[105, 100]⟩, .int .i64 1, .int .i64 2, .int .i64 n, .string ⟨#[]⟩, .string ⟨#[]⟩, .int .i64 6, .int .i64 0, .int .i64 0, .string ⟨#[]⟩, .string ⟨#[]⟩] 44))) (sm_cons sm_id (sm_cons (sm_num HN.out) (sm_cons (sm_op (by decide)) sm_nil))) (b1 n HN.out)).mono ?_); rintro e w12 ⟨⟨za, zn, zc⟩, ⟨ta, tn, tc⟩, rfl, hx, hy, hb12⟩; have HZT := Lib.hid (And.intro hx hy); have HB12 : Hid (Below w10.heap.size w10 w12) := Lib.hid (into (HB11.out.alloc HB11.out.size _) hb12); clear hx hy hb12) | (go_at_call 9; (with_reducible refine (HBD.out _ 4 3 _ _ c4t [cO idT, lO (num n), oO 6] _ (into HB10.out HB11.out) HC11.out (by decide) HO11.out (sm_cons sm_id (sm_cons (sm_num HN.out) (sm_cons (sm_op (by decide)) sm_nil))) (b1 n HN.out)).mono ?_); rintro e w12 ⟨⟨za, zn, zc⟩, ⟨ta, tn, tc⟩, rfl, hx, hy, hb12⟩; have HZT := Lib.hid (And.intro hx hy); have HB12 : Hid (Below w10.heap.size w10 w12) := Lib.hid (into HB11.out hb12); clear hx hy hb12))
    go_wp2_with fail
    refine hK.out _ _ ?_ (fun hHeld => ?_)
    · (try dsimp only)
      exact heldO _ (by first | (with_reducible exact (Below.refl _ _).drew) | (with_reducible exact HB11.out) | (with_reducible exact HB11.out.alloc HB11.out.size _) | (with_reducible exact ((Below.refl _ _).alloc (Nat.le_refl _) _).drew) | (with_reducible exact HB12.out))
    clear hK K
    (try simp only [List.getElem_toArray, List.getElem_cons_zero, List.getElem_cons_succ, Act.put, List.setIfInBounds_toArray, List.set_cons_zero, List.set_cons_succ])
    refine wpAnyH_take (i := 6) (oi := _) (v := ?_) rfl (by kernel_rfl) (by kernel_rfl) (by kernel_rfl) (fun _ _ _ h => h) (Or.inl ⟨by rfl, ?_⟩) (by assumption) ?_
    rotate_left
    · (intro w hSw; (try dsimp only at hSw); go_simp)
      all_goals (with_reducible rfl)
    (try simp only [List.getElem_toArray, List.getElem_cons_zero, List.getElem_cons_succ, Act.put, List.setIfInBounds_toArray, List.set_cons_zero, List.set_cons_succ])
    refine wpAnyH_take (i := 7) (oi := _) (v := ?_) rfl (by kernel_rfl) (by kernel_rfl) (by kernel_rfl) (fun _ _ _ h => h) (Or.inl ⟨by rfl, ?_⟩) (by assumption) ?_
    rotate_left
    · (intro w hSw; (try dsimp only at hSw); go_simp)
      all_goals (with_reducible rfl)
    (try simp only [List.getElem_toArray, List.getElem_cons_zero, List.getElem_cons_succ, Act.put, List.setIfInBounds_toArray, List.set_cons_zero, List.set_cons_succ])
    refine wpAnyH_take (i := 8) (oi := _) (v := ?_) rfl (by kernel_rfl) (by kernel_rfl) (by kernel_rfl) (fun _ _ _ h => h) (Or.inl ⟨by rfl, ?_⟩) (by assumption) ?_
    rotate_left
    · (intro w hSw; (try dsimp only at hSw); go_simp)
      all_goals (with_reducible rfl)
    (try simp only [List.getElem_toArray, List.getElem_cons_zero, List.getElem_cons_succ, Act.put, List.setIfInBounds_toArray, List.set_cons_zero, List.set_cons_succ])
    refine wpAnyH_take (i := 9) (oi := _) (v := ?_) rfl (by kernel_rfl) (by kernel_rfl) (by kernel_rfl) (fun _ _ _ h => h) (Or.inl ⟨by rfl, ?_⟩) (by assumption) ?_
    rotate_left
    · (intro w hSw; (try dsimp only at hSw); go_simp)
      all_goals (with_reducible rfl)
    (try simp only [List.getElem_toArray, List.getElem_cons_zero, List.getElem_cons_succ, Act.put, List.setIfInBounds_toArray, List.set_cons_zero, List.set_cons_succ])
    refine wpAnyH_ready (rs := [10]) (by kernel_rfl) (by simp) ?_
    refine AllReadyH.cons rfl (fun K hK => ?_) AllReadyH.nil
    go_simp
    refine hK.out _ _ ?_ (fun hHeld => ?_)
    · (try dsimp only)
      exact heldO _ (by first | (with_reducible exact (Below.refl _ _).drew) | (with_reducible exact HB11.out) | (with_reducible exact HB11.out.alloc HB11.out.size _) | (with_reducible exact ((Below.refl _ _).alloc (Nat.le_refl _) _).drew) | (with_reducible exact HB12.out))
    clear hK K
    (try simp only [List.getElem_toArray, List.getElem_cons_zero, List.getElem_cons_succ, Act.put, List.setIfInBounds_toArray, List.set_cons_zero, List.set_cons_succ])
    refine wpAnyH_ready (rs := [11]) (by kernel_rfl) (by simp) ?_
    refine AllReadyH.cons rfl (fun K hK => ?_) AllReadyH.nil
    go_simp
    refine hK.out _ _ ?_ (fun hHeld => ?_)
    · (try dsimp only)
      exact heldO _ (by first | (with_reducible exact (Below.refl _ _).drew) | (with_reducible exact HB11.out) | (with_reducible exact HB11.out.alloc HB11.out.size _) | (with_reducible exact ((Below.refl _ _).alloc (Nat.le_refl _) _).drew) | (with_reducible exact HB12.out))
    clear hK K
    (try simp only [List.getElem_toArray, List.getElem_cons_zero, List.getElem_cons_succ, Act.put, List.setIfInBounds_toArray, List.set_cons_zero, List.set_cons_succ])
    refine wpAnyH_ready (rs := [12]) (by kernel_rfl) (by simp) ?_
    refine AllReadyH.cons rfl (fun K hK => ?_) AllReadyH.nil
    go_simp
    refine hK.out _ _ ?_ (fun hHeld => ?_)
    · (try dsimp only)
      exact heldO _ (by first | (with_reducible exact (Below.refl _ _).drew) | (with_reducible exact HB11.out) | (with_reducible exact HB11.out.alloc HB11.out.size _) | (with_reducible exact ((Below.refl _ _).alloc (Nat.le_refl _) _).drew) | (with_reducible exact HB12.out))
    clear hK K
    (try simp only [List.getElem_toArray, List.getElem_cons_zero, List.getElem_cons_succ, Act.put, List.setIfInBounds_toArray, List.set_cons_zero, List.set_cons_succ])
    refine wpAnyH_done (by kernel_rfl) ?_ _
    dsimp only [NQ]
    have HX := Lib.hid (HXY.out.1.below HB12.out)
    have HY := Lib.hid (HXY.out.2.below HB12.out)
    have HZ := Lib.hid HZT.out.1
    have HT := Lib.hid HZT.out.2
    obtain rfl : xn = 0 := HX.out.len.1
    obtain rfl : yn = 0 := HY.out.len.1
    obtain rfl : zn = 9 := HZ.out.len.1.trans (key_len n)
    obtain rfl : tn = 9 := HT.out.len.1.trans (key_len n)
    obtain ⟨ks, hks⟩ : ∃ ks : ByteArray, ks = ⟨(key n).toArray⟩ := ⟨_, rfl⟩
    have c1 := str_of HZ.out.1
    have c2 := str_of HT.out.1
    rw [← hks] at c1 c2
    have HW := Lib.hid (into HB10.out HB12.out)
    clear hks heldO
    go_wp2_with fail
    go_ret
    exact ⟨rfl, HW.out⟩
  · go_simp
    refine hK.out _ _ ?_ (fun hHeld => ?_)
    · (try dsimp only)
      exact heldO _ (by first | (with_reducible exact (Below.refl _ _).drew) | (with_reducible exact HB11.out) | (with_reducible exact HB11.out.alloc HB11.out.size _) | (with_reducible exact ((Below.refl _ _).alloc (Nat.le_refl _) _).drew) | (with_reducible exact HB12.out))
    clear hK K
    (try simp only [List.getElem_toArray, List.getElem_cons_zero, List.getElem_cons_succ, Act.put, List.setIfInBounds_toArray, List.set_cons_zero, List.set_cons_succ])
    refine wpAnyH_ready (rs := [0]) (by kernel_rfl) (by simp) ?_
    refine AllReadyH.cons rfl (fun K hK => ?_) AllReadyH.nil
    go_simp
    (first | (go_at_call 10; (with_reducible refine (HCO.out _).mono ?_); rintro e w11 ⟨rfl, hw11⟩; have HC11 : Hid (Rd w11 2 4 (.slice (some ⟨w10.heap.size, 0, none⟩) 4 4) (ccs c4t)) := Lib.hid (by rw [hw11]; exact rd_c4 w10.drew _ _ _ _ _ _ _ _ _ rfl); have HB11 : Hid (Below w10.heap.size w10 w11) := Lib.hid (by rw [hw11]; exact ((Below.refl _ _).drew).alloc (Nat.le_refl _) _); clear hw11) | (go_at_call 10; (with_reducible refine (HCO.out _).mono ?_); rintro e w11 ⟨rfl, hw11⟩; have HC11 : Hid (Rd w11 2 4 (.slice (some ⟨w10.heap.size + 1, 0, none⟩) 4 4) (ccs c4t)) := Lib.hid (by rw [hw11]; exact rd_c4 _ _ _ _ _ _ _ _ _ (w10.heap.size + 1) (by simp)); have HO11 : Hid (Rd w11 5 3 (.slice (some ⟨w10.heap.size, 0, none⟩) 3 3) (ocs [cO idT, lO (num n), oO 6])) := Lib.hid (by rw [hw11]; exact rd_alloc (rd_ops [cO idT, lO (num n), oO 6] (by simp) (by have h := new0 w10 (.cells #[.int .i64 2, .int .i64 0, .int .i64 0, .string ⟨#[]⟩, .string ⟨#[105, 100]⟩, .int .i64 1, .int .i64 2, .int .i64 n, .string ⟨#[]⟩, .string ⟨#[]⟩, .int .i64 6, .int .i64 0, .int .i64 0, .string ⟨#[]⟩, .string ⟨#[]⟩] 44); exact h)) _); have HB11 : Hid (Below w10.heap.size w10 w11) := Lib.hid (by rw [hw11]; exact (((Below.refl _ _).alloc (Nat.le_refl _) _).drew).alloc (by simp) _); clear hw11))
    go_wp2_with fail
    refine hK.out _ _ ?_ (fun hHeld => ?_)
    · (try dsimp only)
      exact heldO _ (by first | (with_reducible exact (Below.refl _ _).drew) | (with_reducible exact HB11.out) | (with_reducible exact HB11.out.alloc HB11.out.size _) | (with_reducible exact ((Below.refl _ _).alloc (Nat.le_refl _) _).drew) | (with_reducible exact HB12.out))
    clear hK K
    (try simp only [List.getElem_toArray, List.getElem_cons_zero, List.getElem_cons_succ, Act.put, List.setIfInBounds_toArray, List.set_cons_zero, List.set_cons_succ])
    refine wpAnyH_ready (rs := [5]) (by kernel_rfl) (by simp) ?_
    refine AllReadyH.cons rfl (fun K hK => ?_) AllReadyH.nil
    go_simp
    (first | (go_at_call 9; (with_reducible refine (HBD.out _ 4 3 _ _ c4t [cO idT, lO (num n), oO 6] _ (into HB10.out (HB11.out.alloc HB11.out.size _)) (rd_alloc HC11.out _) (by decide) (rd_ops [cO idT, lO (num n), oO 6] (by simp) (new0 w11 (.cells #[.int .i64 2, .int .i64 0, .int .i64 0, .string ⟨#[]⟩, .string ⟨#[105, 100]⟩, .int .i64 1, .int .i64 2, .int .i64 n, .string ⟨#[]⟩, .string ⟨#[]⟩, .int .i64 6, .int .i64 0, .int .i64 0, .string ⟨#[]⟩, .string ⟨#[]⟩] 44))) (sm_cons sm_id (sm_cons (sm_num HN.out) (sm_cons (sm_op (by decide)) sm_nil))) (b1 n HN.out)).mono ?_); rintro e w12 ⟨⟨za, zn, zc⟩, ⟨ta, tn, tc⟩, rfl, hx, hy, hb12⟩; have HZT := Lib.hid (And.intro hx hy); have HB12 : Hid (Below w10.heap.size w10 w12) := Lib.hid (into (HB11.out.alloc HB11.out.size _) hb12); clear hx hy hb12) | (go_at_call 9; (with_reducible refine (HBD.out _ 4 3 _ _ c4t [cO idT, lO (num n), oO 6] _ (into HB10.out HB11.out) HC11.out (by decide) HO11.out (sm_cons sm_id (sm_cons (sm_num HN.out) (sm_cons (sm_op (by decide)) sm_nil))) (b1 n HN.out)).mono ?_); rintro e w12 ⟨⟨za, zn, zc⟩, ⟨ta, tn, tc⟩, rfl, hx, hy, hb12⟩; have HZT := Lib.hid (And.intro hx hy); have HB12 : Hid (Below w10.heap.size w10 w12) := Lib.hid (into HB11.out hb12); clear hx hy hb12))
    go_wp2_with fail
    refine hK.out _ _ ?_ (fun hHeld => ?_)
    · (try dsimp only)
      exact heldO _ (by first | (with_reducible exact (Below.refl _ _).drew) | (with_reducible exact HB11.out) | (with_reducible exact HB11.out.alloc HB11.out.size _) | (with_reducible exact ((Below.refl _ _).alloc (Nat.le_refl _) _).drew) | (with_reducible exact HB12.out))
    clear hK K
    (try simp only [List.getElem_toArray, List.getElem_cons_zero, List.getElem_cons_succ, Act.put, List.setIfInBounds_toArray, List.set_cons_zero, List.set_cons_succ])
    refine wpAnyH_take (i := 6) (oi := _) (v := ?_) rfl (by kernel_rfl) (by kernel_rfl) (by kernel_rfl) (fun _ _ _ h => h) (Or.inl ⟨by rfl, ?_⟩) (by assumption) ?_
    rotate_left
    · (intro w hSw; (try dsimp only at hSw); go_simp)
      all_goals (with_reducible rfl)
    (try simp only [List.getElem_toArray, List.getElem_cons_zero, List.getElem_cons_succ, Act.put, List.setIfInBounds_toArray, List.set_cons_zero, List.set_cons_succ])
    refine wpAnyH_take (i := 7) (oi := _) (v := ?_) rfl (by kernel_rfl) (by kernel_rfl) (by kernel_rfl) (fun _ _ _ h => h) (Or.inl ⟨by rfl, ?_⟩) (by assumption) ?_
    rotate_left
    · (intro w hSw; (try dsimp only at hSw); go_simp)
      all_goals (with_reducible rfl)
    (try simp only [List.getElem_toArray, List.getElem_cons_zero, List.getElem_cons_succ, Act.put, List.setIfInBounds_toArray, List.set_cons_zero, List.set_cons_succ])
    refine wpAnyH_take (i := 8) (oi := _) (v := ?_) rfl (by kernel_rfl) (by kernel_rfl) (by kernel_rfl) (fun _ _ _ h => h) (Or.inl ⟨by rfl, ?_⟩) (by assumption) ?_
    rotate_left
    · (intro w hSw; (try dsimp only at hSw); go_simp)
      all_goals (with_reducible rfl)
    (try simp only [List.getElem_toArray, List.getElem_cons_zero, List.getElem_cons_succ, Act.put, List.setIfInBounds_toArray, List.set_cons_zero, List.set_cons_succ])
    refine wpAnyH_take (i := 9) (oi := _) (v := ?_) rfl (by kernel_rfl) (by kernel_rfl) (by kernel_rfl) (fun _ _ _ h => h) (Or.inl ⟨by rfl, ?_⟩) (by assumption) ?_
    rotate_left
    · (intro w hSw; (try dsimp only at hSw); go_simp)
      all_goals (with_reducible rfl)
    (try simp only [List.getElem_toArray, List.getElem_cons_zero, List.getElem_cons_succ, Act.put, List.setIfInBounds_toArray, List.set_cons_zero, List.set_cons_succ])
    refine wpAnyH_ready (rs := [10]) (by kernel_rfl) (by simp) ?_
    refine AllReadyH.cons rfl (fun K hK => ?_) AllReadyH.nil
    go_simp
    refine hK.out _ _ ?_ (fun hHeld => ?_)
    · (try dsimp only)
      exact heldO _ (by first | (with_reducible exact (Below.refl _ _).drew) | (with_reducible exact HB11.out) | (with_reducible exact HB11.out.alloc HB11.out.size _) | (with_reducible exact ((Below.refl _ _).alloc (Nat.le_refl _) _).drew) | (with_reducible exact HB12.out))
    clear hK K
    (try simp only [List.getElem_toArray, List.getElem_cons_zero, List.getElem_cons_succ, Act.put, List.setIfInBounds_toArray, List.set_cons_zero, List.set_cons_succ])
    refine wpAnyH_ready (rs := [11]) (by kernel_rfl) (by simp) ?_
    refine AllReadyH.cons rfl (fun K hK => ?_) AllReadyH.nil
    go_simp
    refine hK.out _ _ ?_ (fun hHeld => ?_)
    · (try dsimp only)
      exact heldO _ (by first | (with_reducible exact (Below.refl _ _).drew) | (with_reducible exact HB11.out) | (with_reducible exact HB11.out.alloc HB11.out.size _) | (with_reducible exact ((Below.refl _ _).alloc (Nat.le_refl _) _).drew) | (with_reducible exact HB12.out))
    clear hK K
    (try simp only [List.getElem_toArray, List.getElem_cons_zero, List.getElem_cons_succ, Act.put, List.setIfInBounds_toArray, List.set_cons_zero, List.set_cons_succ])
    refine wpAnyH_ready (rs := [12]) (by kernel_rfl) (by simp) ?_
    refine AllReadyH.cons rfl (fun K hK => ?_) AllReadyH.nil
    go_simp
    refine hK.out _ _ ?_ (fun hHeld => ?_)
    · (try dsimp only)
      exact heldO _ (by first | (with_reducible exact (Below.refl _ _).drew) | (with_reducible exact HB11.out) | (with_reducible exact HB11.out.alloc HB11.out.size _) | (with_reducible exact ((Below.refl _ _).alloc (Nat.le_refl _) _).drew) | (with_reducible exact HB12.out))
    clear hK K
    (try simp only [List.getElem_toArray, List.getElem_cons_zero, List.getElem_cons_succ, Act.put, List.setIfInBounds_toArray, List.set_cons_zero, List.set_cons_succ])
    refine wpAnyH_done (by kernel_rfl) ?_ _
    dsimp only [NQ]
    have HX := Lib.hid (HXY.out.1.below HB12.out)
    have HY := Lib.hid (HXY.out.2.below HB12.out)
    have HZ := Lib.hid HZT.out.1
    have HT := Lib.hid HZT.out.2
    obtain rfl : xn = 0 := HX.out.len.1
    obtain rfl : yn = 0 := HY.out.len.1
    obtain rfl : zn = 9 := HZ.out.len.1.trans (key_len n)
    obtain rfl : tn = 9 := HT.out.len.1.trans (key_len n)
    obtain ⟨ks, hks⟩ : ∃ ks : ByteArray, ks = ⟨(key n).toArray⟩ := ⟨_, rfl⟩
    have c1 := str_of HZ.out.1
    have c2 := str_of HT.out.1
    rw [← hks] at c1 c2
    have HW := Lib.hid (into HB10.out HB12.out)
    clear hks heldO
    go_wp2_with fail
    go_ret
    exact ⟨rfl, HW.out⟩

set_option maxRecDepth 100000 in
theorem lifted (os : Os) (started : os.Started) (H : Type) (enc : TypeId × Value → H) :
    ReturnsInHanded {} Tryd.checked os 6 .any (fun w args => (Rows.boundsNoneSpec.pre enc Tryd.prog Tryd.f6 [] false w args ∧ laidX w) ∧ sizedMet enc Tryd.prog Tryd.f6 (OpenSpec.ofChange Rows.boundsNoneSpec) false w args) (Rows.boundsNoneSpec.post enc Tryd.prog Tryd.f6 false true false false) := by
  refine returnsInHanded_of_change_and (C := Tryd.checked) (X := fun w _ => laidX w) (fun _ _ _ hh h => h.of_heap hh) Tryd.own started (by kernel_rfl) Tryd.func6
    (ChangeSpec.witness_at (enc := enc) (C := Tryd.checked) (os := os) (X := fun w _ => laidX w) false (tabledX os) #[.int .i64 0, .int .i64 0] 8 rfl (by kernel_rfl) (by kernel_rfl) (by kernel_rfl) (by kernel_rfl) (by kernel_rfl) (tabledX_laidX os _)) ?_
  intro W base args ds gs before hval0 hW hcnd hsz0 hL _
  have hsz : (DataW.weightsEach Tryd.prog (Tryd.f6.params.toList ++ Rows.boundsNoneSpec.plain.varTypes Tryd.prog) (ds ++ gs)).all (· ≤ reachBytes) = true := hsz0
  have hval : ∀ (j : Nat) t v, Tryd.f6.params[j]? = some t → args[j]? = some v → Value.okWide Tryd.prog W .any base t v := hval0
  have hW' := hW
  obtain ⟨p, q, hA0, hV, rfl, hfz, hnd⟩ := hW
  have hA : DataW.TrodAll enc Tryd.prog W 0 (fun _ => true) true Tryd.f6.params.toList args.toList ds p := hA0
  rw [Tryd.params6] at hA hval hsz
  obtain ⟨v0, v1, d0, d1, p0, p1, rfl, rfl, rfl, h0, h1⟩ := trodAll_two hA
  obtain ⟨rfl, rfl⟩ := trodVars_none hV
  obtain ⟨a0, rfl, rfl, rfl, w0⟩ := open_int Tryd.underlying3 (hval 0 3 v0 rfl rfl) h0
  obtain ⟨a1, rfl, rfl, rfl, w1⟩ := open_int Tryd.underlying3 (hval 1 3 v1 rfl rfl) h1
  clear hA0 hval0
  refine (walk W (X_of hL) a0 w0 a1 w1).mono fun e W' ⟨he, hg⟩ => ?_
  subst he
  exact ⟨_, rfl, law_post (tb := 4) Tryd.laidOut (by kernel_rfl) (by kernel_rfl) Tryd.underlying4 rfl hW' hg rfl rfl rfl⟩

theorem bare : Rows.BoundsNoneSaid :=
  OpenClaim.holds_of_wide 6 Tryd.f6 rfl rfl rfl rfl rfl rfl rfl ⟨rfl, rfl, rfl, rfl, rfl⟩ rfl rfl rfl rfl rfl (by kernel_rfl) Tryd.func6 (by kernel_rfl)
    (of_decide_eq_true (by kernel_rfl)) (by unfold Func.isWrapper; first | (rw [if_pos (by decide +kernel)]; kernel_rfl) | (rw [if_neg (by decide +kernel)]; exact ⟨rfl, rfl⟩))
    (fun os started H enc _ => lifted os started H enc)
/-- The card: the row's one listed variable is tied to the program's text. -/
theorem proved : Rows.BoundsNoneCardSaid :=
  Claim7.holds_tied_plain_at .later [] [.data, .data, .data, .data, .data, .data] true _ false bare (fun _ h => by cases h) (by kernel_rfl) (fun _ h => by cases h) boundsNone_row_tie rfl ⟨rfl, rfl⟩ (by kernel_rfl) rfl
    (fun f fn hf hfn => by
      obtain rfl : f = 6 := Option.some.inj ((show Tryd.prog.funcNamed "padlock/padlockkeep.BoundsNone" = some 6 by kernel_rfl).symm.trans hf) |>.symm
      obtain rfl : fn = Tryd.f6 := (Option.some.inj (Tryd.func6.symm.trans hfn)).symm
      refine ⟨by kernel_rfl, fun j t ht => ?_⟩
      rw [Tryd.params6] at ht
      rcases j with _ | _ | j <;> simp at ht <;> subst ht <;> kernel_rfl)
    (by kernel_rfl)
#print axioms proved
end Go.Proofs.YtmfkdpfcpdmkdaaDoor.lBoundsNone

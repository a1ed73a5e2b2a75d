/- Blanks more say nothing. -/
import Derived.Test.YtfoilmhpoipmpaaDoorVg
namespace Go.Proofs.YtfoilmhpoipmpaaDoor
open Go.ChangeShapes Go.WideShapes Go.ChangeAt Go.RowKit
set_option linter.unusedVariables false
set_option linter.unusedSimpArgs false
set_option maxHeartbeats 1000000
/-- Two lists of the same tokens, compared. -/
theorem stk_keep (m : Nat) (v v' : Value) (l : List Tk) (w : World) (hr : Rd w 3 m v (tkc l)) (hr' : Rd w 3 m v' (tkc l)) :
    Calls Tryd.prog 21 #[v, v'] w fun e w' => e = .returned (.bool true) ∧ Below w.heap.size w w' := by
  have hml := len_t hr
  subst hml
  have hmax := hr.len
  unfold maxLen at hmax
  by_cases h0 : l.length = 0
  · have hl0 : l = [] := List.eq_nil_of_length_eq_zero h0
    subst hl0
    obtain ⟨_, ao, cap, rfl, _⟩ := hr.zero
    obtain ⟨_, ao', cap', rfl, _⟩ := hr'.zero
    go_enter Tryd.func21, Tryd.ntmps21
    go_wp2
    go_rounds 1
    go_ret
    exact ⟨rfl, Below.refl _ _⟩
  · obtain ⟨_, b, o, cap, rfl, _, _, hbw, hcell⟩ := toks_of hr (by omega)
    obtain ⟨_, b', o', cap', rfl, _, _, hbw', hcell'⟩ := toks_of hr' (by omega)
    obtain ⟨n, hn⟩ : ∃ n, n = l.length := ⟨_, rfl⟩
    rw [← hn] at h0 hcell hcell' hmax ⊢
    have HC := Lib.hid hcell
    have HC' := Lib.hid hcell'
    clear hcell hcell' hr hr' hn
    go_enter Tryd.func21, Tryd.ntmps21
    go_wp2
    go_loopw [5] (fun i wr => ∃ k : Nat, k ≤ n ∧ i = .int .i64 (k : Int) ∧ Below w.heap.size w wr) (fun i _ => n - (intOf i).toNat)
    case atStart => exact ⟨0, by omega, rfl, Below.refl _ _⟩
    case round =>
      obtain ⟨k, hk, rfl, hb⟩ := hrel
      by_cases hlt : k < n
      · obtain ⟨g1, g2, g3⟩ := HC.out k hlt
        obtain ⟨g1', g2', g3'⟩ := HC'.out k hlt
        have c1 := (hb.cell (p := ⟨b, o + k * 3, none⟩) hbw).trans g1
        have c2 := (hb.cell (p := ⟨b, o + k * 3 + 1, none⟩) hbw).trans g2
        have c3 := (hb.cell (p := ⟨b, o + k * 3 + 2, none⟩) hbw).trans g3
        have c1' := (hb.cell (p := ⟨b', o' + k * 3, none⟩) hbw').trans g1'
        have c2' := (hb.cell (p := ⟨b', o' + k * 3 + 1, none⟩) hbw').trans g2'
        have c3' := (hb.cell (p := ⟨b', o' + k * 3 + 2, none⟩) hbw').trans g3'
        obtain ⟨u, hu⟩ : ∃ u, u = l.getD k tk0 := ⟨_, rfl⟩
        rw [← hu] at c1 c2 c3 c1' c2' c3'
        clear g1 g2 g3 g1' g2' g3' hu
        obtain ⟨uk, ut, un⟩ := u
        simp only at c1 c2 c3 c1' c2' c3'
        obtain ⟨us, hus⟩ : ∃ us : ByteArray, us = ⟨ut.toArray⟩ := ⟨_, rfl⟩
        rw [← hus] at c2 c2'
        clear hus
        go_wp2_with fail
        go_quiet (fail)
        go_wp2_with fail
        go_roundw
        case rel => exact ⟨k + 1, by omega, by go_num, hb.trans ((below_drewN _ _).mono hb.size)⟩
        case measure => simp [intOf]; omega
      · obtain rfl : k = n := by omega
        go_wp2_with fail
        go_ret
        exact ⟨rfl, hb⟩
/-- Tokens spelled, a blank and more blanks behind each. -/
def joinedB (bl : List UInt8) : List Tk → List UInt8
  | [] => []
  | x :: l => spellT x ++ 32 :: (bl ++ joinedB bl l)
theorem joinedB_app (bl : List UInt8) : ∀ a b : List Tk, joinedB bl (a ++ b) = joinedB bl a ++ joinedB bl b
  | [], _ => rfl
  | x :: l, b => by simp [joinedB, joinedB_app bl l b]
theorem cutW_blanks (L : List UInt8) : ∀ (bl : List UInt8) (i : Nat) (rest : List UInt8) (acc : List Tk), bl.all bk = true → L.drop i = bl ++ rest → cutW L i acc = cutW L (i + bl.length) acc
  | [], i, rest, acc, _, _ => rfl
  | c :: bl, i, rest, acc, ha, hd => by
    rw [List.all_cons, Bool.and_eq_true] at ha
    have hlen : i < L.length := by
      have := congrArg List.length hd
      simp at this
      omega
    have hg : L.getD i 0 = c := by
      have := getD_drop L i 0
      rw [hd, Nat.add_zero] at this
      rw [← this]
      simp
    have hd2 : L.drop (i + 1) = bl ++ rest := by
      have := drop_at hlen
      rw [hd] at this
      simpa using (List.cons.inj this).2.symm
    rw [cutW_blank hlen (by rw [hg]; exact ha.1), cutW_blanks L bl (i + 1) rest acc ha.2 hd2]
    congr 1
    simp
    omega
theorem cut_joinedB (bl : List UInt8) (hbl : bl.all bk = true) : ∀ (l : List Tk) (pre r : List UInt8) (acc : List Tk), Ok l → acc.length + l.length ≤ 100 → cutW (pre ++ joinedB bl l ++ r) pre.length acc = cutW (pre ++ joinedB bl l ++ r) (pre.length + (joinedB bl l).length) (acc ++ l)
  | [], pre, r, acc, _, _ => by simp [joinedB]
  | x :: l, pre, r, acc, ho, hl => by
    obtain ⟨h1, h2⟩ := ho x (by simp)
    obtain ⟨t1, t2, t3⟩ := tok_spell h1 h2 (bl ++ joinedB bl l ++ r)
    have hlen : (x :: l).length = l.length + 1 := rfl
    rw [hlen] at hl
    have eL : pre ++ joinedB bl (x :: l) ++ r = (pre ++ (spellT x ++ 32 :: bl)) ++ joinedB bl l ++ r := by simp [joinedB]
    have eD : (pre ++ joinedB bl (x :: l) ++ r).drop pre.length = spellT x ++ 32 :: (bl ++ joinedB bl l ++ r) := by simp [joinedB]
    have hp := List.length_pos_iff.2 t2
    have hg : (pre ++ joinedB bl (x :: l) ++ r).getD pre.length 0 = (spellT x).getD 0 0 := by
      have := getD_drop (pre ++ joinedB bl (x :: l) ++ r) pre.length 0
      rw [eD, Nat.add_zero] at this
      rw [← this]
      cases hs : spellT x with
      | nil => exact absurd hs t2
      | cons c t => simp
    have hlt : pre.length < (pre ++ joinedB bl (x :: l) ++ r).length := by simp [joinedB]; omega
    rw [cutW_tok hlt (by rw [hg]; exact t3) (by omega) (by rw [eD]; exact t1)]
    have hdr : (pre ++ joinedB bl (x :: l) ++ r).drop (pre.length + (spellT x).length) = (32 :: bl) ++ (joinedB bl l ++ r) := by
      rw [← List.drop_drop, eD, List.drop_left]
      simp
    rw [cutW_blanks _ (32 :: bl) _ _ _ (by rw [List.all_cons, hbl]; decide) hdr]
    have ih := cut_joinedB bl hbl l (pre ++ (spellT x ++ 32 :: bl)) r (acc ++ [x]) (fun y hy => ho y (by simp [hy])) (by simp; omega)
    rw [eL]
    have e1 : (pre ++ (spellT x ++ 32 :: bl)).length = pre.length + (spellT x).length + (32 :: bl).length := by simp; omega
    rw [e1] at ih
    rw [ih]
    have e2 : pre.length + (spellT x).length + (32 :: bl).length + (joinedB bl l).length = pre.length + (joinedB bl (x :: l)).length := by simp [joinedB]; omega
    rw [e2]
    simp
theorem cutL_joinedB {bl : List UInt8} (hbl : bl.all bk = true) {l : List Tk} (ho : Ok l) (h100 : l.length ≤ 100) (hl : (joinedB bl l).length ≤ 400) : cutL (joinedB bl l) = ⟨l, 0, 0⟩ := by
  unfold cutL
  rw [if_neg (by omega)]
  have := cut_joinedB bl hbl l [] [] [] ho (by simpa using h100)
  simp only [List.nil_append, List.append_nil, List.length_nil, Nat.zero_add] at this
  rw [this, cutW_end (Nat.le_refl _)]
theorem lenB {bl : List UInt8} (hbl : bl.length ≤ 2) {l : List Tk} (h : ∀ x ∈ l, Gt x) : (joinedB bl l).length ≤ 23 * l.length := by
  induction l with
  | nil => simp [joinedB]
  | cons x l ih =>
    have h1 := (h x (by simp)).2.2.2.1
    have h2 := ih fun y hy => h y (by simp [hy])
    simp [joinedB]
    omega
theorem app_data (a b : ByteArray) : (a ++ b).data.toList = a.data.toList ++ b.data.toList := by simp
theorem new0_of2 (w : World) (o p : Obj) : ((w.alloc o).alloc p).heap[w.heap.size]? = some o :=
  (((Below.refl _ _).alloc (Nat.le_refl _) p : Below (w.alloc o).heap.size (w.alloc o) ((w.alloc o).alloc p)).block _ (by simp)).trans (new0 _ _)
theorem cutq : cutL [97, 32, 63] = ⟨[], 2, 6⟩ := by kernel_rfl
end Go.Proofs.YtfoilmhpoipmpaaDoor

/- Words and tokens of raw numbers. -/
import Derived.Test.YtfoilmhpoipmpaaDoorVc
import Derived.Test.YtfoilmhpoipmpaaDoorKp
namespace Go.Proofs.YtfoilmhpoipmpaaDoor
open Go.ChangeShapes Go.WideShapes Go.ChangeAt Go.RowKit
set_option linter.unusedVariables false
set_option linter.unusedSimpArgs false
set_option maxHeartbeats 1000000
/-- One to six small letters. -/
def Lw (t : List UInt8) : Prop := 1 ≤ t.length ∧ t.length ≤ 6 ∧ ∀ b ∈ t, 97 ≤ b.toNat ∧ b.toNat ≤ 122
def WordIs (w0 : World) (e : Ending) (w' : World) : Prop := ∃ t : List UInt8, e = .returned (.string ⟨t.toArray⟩) ∧ Lw t ∧ Below w0.heap.size w0 w'
theorem letter_fin : ∀ r : Fin 26, (UInt8.ofNat (97 + r.val)).toNat = 97 + r.val := by decide
theorem letter (x : Int) (h0 : 0 ≤ x) : ((UInt8.ofNat (97 + (x % 26).toNat)).toNat : Int) = 97 + x % 26 ∧ 97 ≤ (UInt8.ofNat (97 + (x % 26).toNat)).toNat ∧ (UInt8.ofNat (97 + (x % 26).toNat)).toNat ≤ 122 := by
  have h := letter_fin ⟨(x % 26).toNat, by omega⟩
  simp only at h
  rw [h]
  omega
theorem kword_any (w : World) (s : ByteArray) (hs : s.size ≤ maxLen) : Calls Tryd.prog 23 #[.string s] w (WordIs w) := by
  unfold maxLen at hs
  go_enter Tryd.func23, Tryd.ntmps23
  go_wp2
  go_loopw [3, 4] (fun v i wr => ∃ (j : Nat) (acc : List UInt8), j ≤ 6 ∧ j ≤ s.size ∧ i = .int .i64 (j : Int) ∧ acc.length = j ∧ Hid (∀ b ∈ acc, 97 ≤ b.toNat ∧ b.toNat ≤ 122) ∧ Hid (wr.ownsRow w.heap.size 5 1 v j (bc acc)) ∧ Hid (Below w.heap.size w wr)) (fun _ i _ => 6 - (intOf i).toNat)
  case atStart => exact ⟨0, [], by omega, by omega, rfl, rfl, (fun b hb => by simp at hb), World.ownsRow_nil _ _ _ _, Below.refl _ _⟩
  case round =>
    obtain ⟨j, acc, hj6, hjs, rfl, hac, HA, HO, HBL⟩ := hrel
    have hwz := HBL.out.size
    have hend : ∀ (h : ¬ (j < s.size ∧ j < 6)), True := fun _ => trivial
    clear hend
    by_cases hin : j < s.size ∧ j < 6
    · obtain ⟨hlt, h6⟩ := hin
      have h6I : (j : Int) < 6 := by omega
      obtain ⟨x, hx⟩ : ∃ x : Int, ((s[j]).toNat : Int) = x := ⟨_, rfl⟩
      have hx0 : 0 ≤ x := by omega
      have hx1 : x < 256 := by have := (s[j]).toNat_lt; omega
      obtain ⟨l1, l2, l3⟩ := letter x hx0
      have hr1 : 0 ≤ x % 26 := by omega
      have hr2 : x % 26 < 26 := by omega
      have L1 := Lib.hid l1
      have L2 := Lib.hid (And.intro l2 l3)
      clear l1 l2 l3
      go_wp2_with (at_builtin; refine ap1 wr rfl (.tmp 15) (.tmp 21) rfl HO.out (by omega) (by omega) rfl wr.heap.size rfl rfl rfl ?_; intro v1 w1 hown1 hb1 _; have HO1 := Lib.hid hown1; have HB1 := Lib.hid hb1; clear hown1 hb1)
      go_roundw
      case rel =>
        refine ⟨j + 1, acc ++ [UInt8.ofNat (97 + (x % 26).toNat)], by omega, by omega, by go_num, by simp; omega, fun b hb => ?_, ?_, HBL.out.trans HB1.out⟩
        · rcases List.mem_append.1 hb with h | h
          · exact HA.out b h
          · simp at h
            subst h
            simpa using L2.out
        · have := HO1.out
          show World.ownsRow _ _ _ _ _ _ _
          rw [bc_app]
          have e : bc [UInt8.ofNat (97 + (x % 26).toNat)] = [.int .u8 (97 + x % 26)] := by
            show [Value.int .u8 ((UInt8.ofNat (97 + (x % 26).toNat)).toNat : Int)] = _
            rw [L1.out]
          rw [e]
          exact this
      case measure => simp [intOf]; omega
    · obtain ⟨_, ao, cap, rfl, hcap, _⟩ := Rd.own HO.out
      have hcv := str_of (Rd.own HO.out)
      have HAC := Lib.hid hac
      clear hac
      by_cases h0 : j = 0
      · have hsz : ¬ j < s.size := by omega
        subst h0
        go_wp2_with fail
        go_ret
        exact ⟨[120], rfl, ⟨by decide, by decide, by decide⟩, HBL.out⟩
      · have hj0 : ((j : Int) == 0) = false := by simpa using h0
        by_cases hlt : j < s.size
        · have h6n : ¬ (j : Int) < 6 := by omega
          go_wp2_with fail
          go_ret
          exact ⟨acc, rfl, ⟨by rw [HAC.out]; omega, by rw [HAC.out]; omega, HA.out⟩, HBL.out⟩
        · go_wp2_with fail
          go_ret
          exact ⟨acc, rfl, ⟨by rw [HAC.out]; omega, by rw [HAC.out]; omega, HA.out⟩, HBL.out⟩
/-- A token that may be, spelled in twenty bytes at most. -/
def Gt (x : Tk) : Prop := tkF x.k x.t x.n = 0 ∧ 0 ≤ x.n ∧ x.n ≤ 4611686018427387904 ∧ (spellT x).length ≤ 20 ∧ x.t.length ≤ 20
def TokIs (w0 : World) (e : Ending) (w' : World) : Prop := ∃ x : Tk, e = .returned (tkv x) ∧ Gt x ∧ Below w0.heap.size w0 w'
theorem gt_word {t : List UInt8} (h : Lw t) : Gt ⟨1, t, 0⟩ := by
  obtain ⟨h1, h2, h3⟩ := h
  have hi : ∀ b ∈ t, iw b = true := fun b hb => by
    have := h3 b hb
    unfold iw wb
    simp
    omega
  have hd : dg (t.getD 0 0) = false := by
    cases t with
    | nil => simp at h1
    | cons c t =>
      have := h3 c (by simp)
      unfold dg
      simp
      omega
  have he : t.isEmpty = false := by cases t with
    | nil => simp at h1
    | cons c t => rfl
  refine ⟨?_, by show (0 : Int) ≤ 0; omega, by show (0 : Int) ≤ _; omega, ?_, by show t.length ≤ 20; omega⟩
  · show tkF 1 t 0 = 0
    have ht : txt 1 t = true := by
      unfold txt
      rw [if_pos rfl, he, hd]
      simpa using hi
    unfold tkF
    simp [ht]
  · show (spellT ⟨1, t, 0⟩).length ≤ 20
    have : spellT ⟨1, t, 0⟩ = t := by unfold spellT; simp
    rw [this]
    omega
theorem gt_num {n : Int} (h0 : 0 ≤ n) (h1 : n < 4611686018427387904) : Gt ⟨2, [], n⟩ := by
  refine ⟨?_, h0, by show n ≤ _; omega, ?_, by show (0 : Nat) ≤ 20; omega⟩
  · show tkF 2 [] n = 0
    unfold tkF txt
    have : ¬ n < 0 := by omega
    simp [this]
  · have : spellT ⟨2, [], n⟩ = Lib.itoa n := by unfold spellT; simp
    rw [this]
    exact itoa_len h0 (by omega)
theorem gt_str {t : List UInt8} (h : t.length ≤ 8) : Gt ⟨3, t, 0⟩ := by
  refine ⟨?_, by show (0 : Int) ≤ 0; omega, by show (0 : Int) ≤ _; omega, ?_, by show t.length ≤ 20; omega⟩
  · show tkF 3 t 0 = 0
    unfold tkF txt
    simp
  · have : spellT ⟨3, t, 0⟩ = [39] ++ dblT t ++ [39] := by unfold spellT; simp
    rw [this]
    have := dbl_len t
    simp
    omega
def mkN : List (List UInt8) := [[40], [41], [44], [42], [43], [45], [61], [60], [62], [60, 61], [62, 61], [60, 62]]
theorem gt_mark : ∀ k, k < 12 → tkF 4 (mkN.getD k []) 0 = 0 ∧ (mkN.getD k []).length ≤ 2 := by decide
theorem gt_mk {k : Nat} (h : k < 12) : Gt ⟨4, mkN.getD k [], 0⟩ := by
  obtain ⟨h1, h2⟩ := gt_mark k h
  refine ⟨h1, by show (0 : Int) ≤ 0; omega, by show (0 : Int) ≤ _; omega, ?_, by show (mkN.getD k []).length ≤ 20; omega⟩
  have : spellT ⟨4, mkN.getD k [], 0⟩ = mkN.getD k [] := by unfold spellT; simp
  rw [this]
  omega
theorem box_2nd {w w1 : World} {o : Obj} {x y z : Value} {t : TypeId} (hb : Below ((w.alloc o).alloc (.cells #[x, y, z] t)).heap.size ((w.alloc o).alloc (.cells #[x, y, z] t)) w1) :
    Below w.heap.size w w1 ∧ w.heap.size + 1 < w1.heap.size ∧ w1.heap[w.heap.size + 1]? = some (.cells #[x, y, z] t (0, 0)) := by
  have hs := hb.size
  simp only [World.size_alloc] at hs
  exact ⟨into (((Below.refl _ _).alloc (Nat.le_refl _) _).alloc (by simp) _) hb, by omega, (hb.block _ (by simp)).trans (new1 _ _ _)⟩
set_option maxHeartbeats 4000000 in
theorem token_any (w : World) (a b : Int) (s : ByteArray) (ha : Rn a) (hb : Rn b) (hs : s.size ≤ maxLen) : Calls Tryd.prog 19 #[.agg #[.int .i64 a, .int .i64 b, .string s]] w (TokIs w) := by
  have hp := fun W => pck_any a 4 W ha (by omega) (by omega)
  obtain ⟨p1, p2⟩ := pck_in a 4 (by omega)
  obtain ⟨p, hpe⟩ : ∃ p, p = pck a 4 := ⟨_, rfl⟩
  rw [← hpe] at hp p1 p2
  have HP := Lib.hid hp
  have hk : p = 0 ∨ p = 1 ∨ p = 2 ∨ p = 3 := by omega
  clear hp hpe p1 p2
  rcases hk with rfl | rfl | rfl | rfl
  · have HW := Lib.hid (fun W => kword_any W s hs)
    go_enter Tryd.func19, Tryd.ntmps19
    go_wp2_with (first | (go_at_call 20; ((with_reducible refine (HP.out _).mono ?_); rintro e w' ⟨rfl, rfl⟩)) | (go_at_call 23; ((with_reducible refine (HW.out _).mono ?_); rintro e w1 ⟨t, rfl, ht, hb1⟩; obtain ⟨hB, hz1, hk1⟩ := box_2nd hb1; obtain ⟨r0, r1, r2, r3, r4, r5⟩ := box3 hk1; have HB1 := Lib.hid hB; have HG := Lib.hid (gt_word ht); clear hb1 hB hk1 ht)))
    refine bodyPost_ret (by simp [results, Tryd.results19, go_sem, r0, r1, r2]; try rfl) rfl ?_
    have hB := HB1.out
    exact ⟨⟨1, t, 0⟩, rfl, HG.out, by go_grown⟩
  · have hq := fun W => pck_any b 4611686018427387904 W hb (by omega) (by omega)
    obtain ⟨q1, q2⟩ := pck_in b 4611686018427387904 (by omega)
    obtain ⟨q, hqe⟩ : ∃ q, q = pck b 4611686018427387904 := ⟨_, rfl⟩
    rw [← hqe] at hq q1 q2
    have HQ := Lib.hid hq
    have HG := Lib.hid (gt_num q1 q2)
    clear hq hqe q1 q2
    go_enter Tryd.func19, Tryd.ntmps19
    go_wp2_with (first | (go_at_call 20; ((with_reducible refine (HP.out _).mono ?_); rintro e w' ⟨rfl, rfl⟩)) | (go_at_call 20; ((with_reducible refine (HQ.out _).mono ?_); rintro e w' ⟨rfl, rfl⟩)))
    go_returns
    exact ⟨⟨2, [], q⟩, rfl, HG.out, by go_grown⟩
  · have hct := fun W => kcut_any W s 8 (by omega) hs
    have e8 : ((8 : Nat) : Int) = 8 := rfl
    rw [e8] at hct
    obtain ⟨t, ht⟩ : ∃ t, t = s.extract 0 8 := ⟨_, rfl⟩
    have htz : t.data.toList.length ≤ 8 := by rw [len_size, ht, ByteArray.size_extract]; omega
    rw [← ht] at hct
    have HCT := Lib.hid hct
    have HG := Lib.hid (gt_str htz)
    have HMK := Lib.hid (mk_of t)
    clear hct ht htz e8
    go_enter Tryd.func19, Tryd.ntmps19
    go_wp2_with (first | (go_at_call 20; ((with_reducible refine (HP.out _).mono ?_); rintro e w' ⟨rfl, rfl⟩)) | (go_at_call 22; ((with_reducible refine (HCT.out _).mono ?_); rintro e w' ⟨rfl, rfl⟩)))
    go_returns
    refine ⟨⟨3, t.data.toList, 0⟩, ?_, HG.out, by go_grown⟩
    simp only [tkv, HMK.out]
  · have hq := fun W => pck_any b 12 W hb (by omega) (by omega)
    obtain ⟨q1, q2⟩ := pck_in b 12 (by omega)
    obtain ⟨q, hqe⟩ : ∃ q, q = pck b 12 := ⟨_, rfl⟩
    rw [← hqe] at hq q1 q2
    have HQ := Lib.hid hq
    clear hq hqe
    have hqq : q = 0 ∨ q = 1 ∨ q = 2 ∨ q = 3 ∨ q = 4 ∨ q = 5 ∨ q = 6 ∨ q = 7 ∨ q = 8 ∨ q = 9 ∨ q = 10 ∨ q = 11 := by omega
    clear q1 q2
    rcases hqq with rfl | rfl | rfl | rfl | rfl | rfl | rfl | rfl | rfl | rfl | rfl | rfl
    all_goals (
      go_enter Tryd.func19, Tryd.ntmps19
      go_wp2_with (first | (go_at_call 20; ((with_reducible refine (HP.out _).mono ?_); rintro e w' ⟨rfl, rfl⟩)) | (go_at_call 20; ((with_reducible refine (HQ.out _).mono ?_); rintro e w' ⟨rfl, rfl⟩)))
      go_returns
      first | exact ⟨_, rfl, gt_mk (k := 0) (by decide), by go_grown⟩ | exact ⟨_, rfl, gt_mk (k := 1) (by decide), by go_grown⟩ | exact ⟨_, rfl, gt_mk (k := 2) (by decide), by go_grown⟩ | exact ⟨_, rfl, gt_mk (k := 3) (by decide), by go_grown⟩ | exact ⟨_, rfl, gt_mk (k := 4) (by decide), by go_grown⟩ | exact ⟨_, rfl, gt_mk (k := 5) (by decide), by go_grown⟩ | exact ⟨_, rfl, gt_mk (k := 6) (by decide), by go_grown⟩ | exact ⟨_, rfl, gt_mk (k := 7) (by decide), by go_grown⟩ | exact ⟨_, rfl, gt_mk (k := 8) (by decide), by go_grown⟩ | exact ⟨_, rfl, gt_mk (k := 9) (by decide), by go_grown⟩ | exact ⟨_, rfl, gt_mk (k := 10) (by decide), by go_grown⟩ | exact ⟨_, rfl, gt_mk (k := 11) (by decide), by go_grown⟩)
end Go.Proofs.YtfoilmhpoipmpaaDoor

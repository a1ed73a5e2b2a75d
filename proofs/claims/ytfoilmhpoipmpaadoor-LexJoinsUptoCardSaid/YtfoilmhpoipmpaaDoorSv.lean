/- All tokens: the document. -/
import Derived.Test.YtfoilmhpoipmpaaDoorSu
namespace Go.Proofs.YtfoilmhpoipmpaaDoor
open Go.ChangeShapes Go.WideShapes Go.ChangeAt Go.RowKit
set_option linter.unusedVariables false
set_option linter.unusedSimpArgs false
set_option maxRecDepth 100000
set_option maxHeartbeats 2000000
theorem rtok_any (w : World) (s : ByteArray) (i : Nat) (hs : s.size ≤ 400) (hi : i < s.size) :
    Calls Tryd.prog 27 #[.string s, .int .i64 (i : Int)] w fun e w' => e = .returned (hdR i (tokT (s.data.toList.drop i))) ∧ Below w.heap.size w w' := by
  by_cases hw : wb (s.data.toList.getD i 0) = true
  · exact rtok_word w s i hs hi hw
  · by_cases hd : dg (s.data.toList.getD i 0) = true
    · exact rtok_num w s i hs hi hd
    · by_cases hq : s.data.toList.getD i 0 = 39
      · exact rtok_str w s i hs hi hq
      · refine rtok_mark w s i hs hi ?_ hq
        unfold iw
        rw [Bool.eq_false_iff.2 hw, Bool.eq_false_iff.2 hd]
        rfl
theorem bk_int (b : UInt8) : bk b = (decide ((b.toNat : Int) = 32) || decide ((b.toNat : Int) = 9) || decide ((b.toNat : Int) = 13) || decide ((b.toNat : Int) = 10)) := by
  unfold bk
  rw [Bool.eq_iff_iff]
  simp
  omega
/-- The state of TokensOf at a round's head. -/
structure TksAt (w wr : World) (l : List UInt8) (i : Nat) (v : Value) (acc : List Tk) : Prop where
  len : acc.length ≤ 100
  same : cutW l 0 [] = cutW l i acc
  own : wr.ownsRow w.heap.size 29 3 v acc.length (tkc acc)
  below : Below w.heap.size w wr
theorem rcut_long (w : World) (s : ByteArray) (h : 400 < s.size) (hs : s.size ≤ maxLen) : Calls Tryd.prog 12 #[.string s] w (CutIs w (cutL s.data.toList)) := by
  have HC : Hid (cutL s.data.toList = ⟨[], 0, 1⟩) := if_pos (by rw [len_size]; exact h)
  unfold maxLen at hs
  go_enter Tryd.func12, Tryd.ntmps12
  go_wp2
  go_returns
  rw [HC.out]
  exact ⟨_, rfl, Rd.nil _ _, Below.refl _ _⟩
theorem TksAt.next {w wr w3 : World} {l : List UInt8} {k : Nat} {v v' : Value} {acc : List Tk} {x : Tk} {m : Nat} (h : TksAt w wr l k v acc) (hk : k < l.length) (hb : bk (l.getD k 0) = false) (ha : ¬ acc.length = 100) (ht : tokT (l.drop k) = .tok x m)
    (hown : w3.ownsRow w.heap.size 29 3 v' (acc.length + 1) (tkc acc ++ [.int .i64 x.k, .string ⟨x.t.toArray⟩, .int .i64 x.n])) (hbl : Below w.heap.size wr w3) :
    TksAt w w3 l (k + m) v' (acc ++ [x]) := by
  have hlen := h.len
  refine ⟨by simp; omega, ?_, ?_, h.below.trans hbl⟩
  · rw [h.same, cutW_tok hk hb ha ht]
  · rw [tkc_app]
    simpa [tkc] using hown
theorem rcut_short (w : World) (s : ByteArray) (h : s.size ≤ 400) : Calls Tryd.prog 12 #[.string s] w (CutIs w (cutL s.data.toList)) := by
  have HC : Hid (cutL s.data.toList = cutW s.data.toList 0 []) := if_neg (by rw [len_size]; omega)
  have HL := Lib.hid (len_size s)
  go_enter Tryd.func12, Tryd.ntmps12
  go_wp2
  go_loopw [5, 6] (fun v i wr => ∃ (k : Nat) (acc : List Tk), k ≤ s.size ∧ i = .int .i64 (k : Int) ∧ Hid (TksAt w wr s.data.toList k v acc)) (fun _ i _ => s.size - (intOf i).toNat)
  case atStart => exact ⟨0, [], by omega, rfl, ⟨by simp, rfl, World.ownsRow_nil _ _ _ _, Below.refl _ _⟩⟩
  case round =>
    obtain ⟨k, acc, hk, rfl, HAT⟩ := hrel
    obtain ⟨ao, cap, rfl, hcap⟩ : ∃ ao cap, u5 = .slice ao acc.length cap ∧ acc.length ≤ cap := by
      obtain ⟨_, ao, cap, h2, h3, _⟩ := Rd.own HAT.out.own
      exact ⟨ao, cap, h2, h3⟩
    have hal := HAT.out.len
    by_cases hlt : k < s.size
    · have hkl : k < s.data.toList.length := by rw [HL.out]; exact hlt
      have HKL := Lib.hid hkl
      have hbe := byte_at s k hlt
      by_cases hb : bk (s.data.toList.getD k 0) = true
      · have hbi := hb
        rw [← hbe, bk_int] at hbi
        simp only [Bool.or_eq_true, decide_eq_true_eq] at hbi
        have HN : Hid (TksAt w wr s.data.toList (k + 1) (.slice ao acc.length cap) acc) := ⟨hal, by rw [HAT.out.same, cutW_blank hkl hb], HAT.out.own, HAT.out.below⟩
        clear hb hbe hkl
        rcases hbi with ((hbi | hbi) | hbi) | hbi
        all_goals (
          go_wp2_with fail
          go_roundw
          case rel => exact ⟨k + 1, acc, by omega, by go_num, HN.out⟩
          case measure => simp [intOf]; omega)
      · have hbf : bk (s.data.toList.getD k 0) = false := by simpa using hb
        have hbi := hbf
        rw [← hbe, bk_int] at hbi
        simp only [Bool.or_eq_false_iff, decide_eq_false_iff_not] at hbi
        obtain ⟨⟨⟨n1, n2⟩, n3⟩, n4⟩ := hbi
        have n4' : (((s[k]).toNat : Int) == 10) = false := beq_eq_false_iff_ne.2 n4
        have HBF := Lib.hid hbf
        clear hb hbe hkl hbf
        by_cases hf : acc.length = 100
        · have HF := Lib.hid (cutW_full (acc := acc) HKL.out HBF.out hf)
          go_wp2_with fail
          go_returns
          rw [HC.out, HAT.out.same, HF.out]
          exact ⟨_, rfl, Rd.nil _ _, HAT.out.below⟩
        · have htk := rtok_any wr s k h hlt
          have hfI : ((acc.length : Int) == 100) = false := by simp; omega
          cases hT : tokT (s.data.toList.drop k) with
          | bad e0 =>
            rw [hT] at htk
            simp only [hdR] at htk
            have HTK := Lib.hid htk
            have HB := Lib.hid (cutW_bad (acc := acc) HKL.out HBF.out hf hT)
            have he := tokT_bad hT
            clear htk hT
            rcases he with rfl | rfl | rfl
            all_goals (
              go_wp2_with (go_at_call 27; refine HTK.out.mono ?_; rintro e w1 ⟨rfl, hb1⟩; have HB1 := Lib.hid hb1; clear hb1)
              go_returns
              rw [HC.out, HAT.out.same, HB.out]
              have hB := into HAT.out.below HB1.out
              have hz := hB.size
              exact ⟨_, rfl, Rd.nil _ _, by go_grown⟩)
          | tok x m =>
            rw [hT] at htk
            simp only [hdR] at htk
            have hlen := tokT_len (by rw [List.length_drop, HL.out]; omega) hT
            rw [List.length_drop, HL.out] at hlen
            obtain ⟨hm0, hm1⟩ := hlen
            have HTK := Lib.hid htk
            have HNX := Lib.hid (fun (w3 : World) (v' : Value) => HAT.out.next (w3 := w3) (v' := v') (x := x) (m := m) HKL.out HBF.out hf hT)
            have hsz := HAT.out.below.size
            have hms : ((k : Int) + (m : Int)) ≤ (s.size : Int) := by omega
            clear htk hT
            go_wp2_with (first | (go_at_call 27; refine HTK.out.mono ?_; rintro e w1 ⟨rfl, hb1⟩; have hz1 := hb1.size; have HB1 := Lib.hid hb1; clear hb1) | (at_builtin; refine apt (w1.alloc _) rfl (.tmp 52) (.tmp 54) rfl ((own_below HAT.out.own HB1.out).alloc _) (by simp; omega) (by omega) (w1.heap.size + 1) (by simp) rfl rfl ?_; intro v2 w2 hown2 hb2 _; have HO2 := Lib.hid hown2; have HB2 := Lib.hid hb2; clear hown2 hb2))
            go_roundw
            case rel => exact ⟨k + m, acc ++ [x], by omega, by go_num, HNX.out w2 _ HO2.out ((((HB1.out.mono (by omega)).alloc (by omega) _)).trans HB2.out)⟩
            case measure => simp [intOf]; omega
    · obtain rfl : k = s.size := by omega
      have HE := Lib.hid (cutW_end (l := s.data.toList) (acc := acc) (i := s.size) (by rw [HL.out]; exact Nat.le_refl _))
      go_wp2_with fail
      go_returns
      rw [HC.out, HAT.out.same, HE.out]
      exact ⟨_, rfl, Rd.own HAT.out.own, HAT.out.below⟩
/-- The tokens of a slice, one by one. -/
theorem toks_of {w : World} {n : Nat} {v : Value} {l : List Tk} (h : Rd w 3 n v (tkc l)) (hn : 0 < n) :
    l.length = n ∧ ∃ b o cap, v = .slice (some ⟨b, o, none⟩) n cap ∧ n ≤ cap ∧ cap ≤ maxLen ∧ b < w.heap.size ∧
      ∀ k, k < n → w.cell? ⟨b, o + k * 3, none⟩ = some (.int .i64 (l.getD k tk0).k) ∧ w.cell? ⟨b, o + k * 3 + 1, none⟩ = some (.string ⟨(l.getD k tk0).t.toArray⟩) ∧ w.cell? ⟨b, o + k * 3 + 2, none⟩ = some (.int .i64 (l.getD k tk0).n) := by
  have hl : l.length = n := by have := h.1; rw [tkc_length] at this; omega
  obtain ⟨b, o, cap, h1, h2, h3, h4, h5⟩ := h.pos hn (by omega)
  refine ⟨hl, b, o, cap, h1, h2, h3, h4, fun k hk => ?_⟩
  obtain ⟨g1, g2, g3⟩ := tkc_at (l := l) (k := k) (by omega)
  exact ⟨h5 _ _ g1, h5 _ _ g2, h5 _ _ g3⟩
theorem len_t {w : World} {n : Nat} {v : Value} {l : List Tk} (h : Rd w 3 n v (tkc l)) : n = l.length := by have := h.1; rw [tkc_length] at this; omega
end Go.Proofs.YtfoilmhpoipmpaaDoor

/- Columns: what they lack, by the document; words and marks between blanks. -/
import Derived.Test.YtfbmnkkpbcdjfaaDoorQb
import Derived.Test.YtfbmnkkpbcdjfaaDoorQc
import Derived.Test.YtfbmnkkpbcdjfaaDoorUc
namespace Go.Proofs.YtfbmnkkpbcdjfaaDoor
open Go.ChangeShapes Go.WideShapes Go.ChangeAt Go.RowKit
set_option linter.unusedVariables false
set_option linter.unusedSimpArgs false
set_option maxHeartbeats 2000000
theorem ext_of (s : ByteArray) (i e : Nat) : s.extract i e = ⟨((s.data.toList.drop i).take (e - i)).toArray⟩ := Lib.extract_eq s i e
theorem dropcons {l : List UInt8} {k : Nat} (h : k < l.length) : l.drop k = l.getD k 0 :: l.drop (k + 1) := by
  rw [List.drop_eq_getElem_cons h]
  simp [List.getD, List.getElem?_eq_getElem h]
theorem takemore {l : List UInt8} {i e : Nat} (hi : i ≤ e) (he : e < l.length) : (l.drop i).take (e + 1 - i) = (l.drop i).take (e - i) ++ [l.getD e 0] := by
  have h : e - i < (l.drop i).length := by rw [List.length_drop]; omega
  rw [show e + 1 - i = e - i + 1 by omega, List.take_succ_eq_append_getElem h]
  congr 2
  simp [List.getD, show i + (e - i) = e by omega, he]
theorem tzcell (L : List Tk) (c : List UInt8) (k : Int) (h : k = (tzk c).k) : tkc (L ++ [tzk c]) = tkc L ++ [.int .i64 k, .string ⟨c.toArray⟩, .int .i64 0] := by
  rw [tkc_app]
  subst h
  rfl
set_option maxRecDepth 100000 in
theorem toks_any (w : World) (s : ByteArray) (hs : s.size ≤ 1000) :
    Calls Tryd.prog 117 #[.string s] w fun e w' => ∃ v, e = .returned v ∧ w'.ownsRow w.heap.size 126 3 v (tz s.data.toList).length (tkc (tz s.data.toList)) ∧ Below w.heap.size w w' := by
  have hsz := len_size s
  have HLN := Lib.hid hsz
  clear hsz
  go_enter Tryd.func117, Tryd.ntmps117
  go_wp2_with fail
  go_loopw [3, 4, 5] (fun u fr i wr => ∃ (k f : Nat) (L : List Tk), k ≤ s.size + 1 ∧ f ≤ k ∧ i = .int .i64 (k : Int) ∧ fr = .int .i64 (f : Int) ∧ Hid (wr.ownsRow w.heap.size 126 3 u L.length (tkc L)) ∧ L.length ≤ k ∧ Hid (Below w.heap.size w wr) ∧
      Hid (k ≤ s.size → tz s.data.toList = L ++ tzF ((s.data.toList.drop f).take (k - f)) (s.data.toList.drop k)) ∧ Hid (k = s.size + 1 → tz s.data.toList = L)) (fun _ _ i _ => s.size + 1 - (intOf i).toNat)
  case atStart => exact ⟨0, 0, [], by omega, by omega, rfl, rfl, World.ownsRow_nil _ _ _ _, by simp, Below.refl _ _, fun _ => rfl, fun h => by omega⟩
  case round =>
    obtain ⟨k, f, L, hk, hf, rfl, rfl, HU, hL, HB, H1, H2⟩ := hrel
    have hwz := HB.out.size
    by_cases hlt : k < s.size
    · have hkl : k < s.data.toList.length := by rw [HLN.out]; exact hlt
      have hdr := dropcons hkl
      by_cases h32 : ((s[k]).toNat : Int) = 32
      · have hb : s.data.toList.getD k 0 = 32 := by
          rw [← byte_at s k hlt]
          exact UInt8.toNat_inj.1 (by show _ = 32; omega)
        have h3 : tz s.data.toList = L ++ tzf ((s.data.toList.drop f).take (k - f)) ++ tzF [] (s.data.toList.drop (k + 1)) := by
          rw [H1.out (by omega), hdr, hb, tzF_sp, List.append_assoc]
        have H3 := Lib.hid h3
        clear hdr h3 hb
        by_cases hfk : f < k
        · have hfl : f < s.size := by omega
          have hwb := fun W => wordByte_any W s[f]
          obtain ⟨x, hx⟩ : ∃ x, x = wb s[f] := ⟨_, rfl⟩
          rw [← hx] at hwb
          have HW := Lib.hid hwb
          obtain ⟨c, hc⟩ : ∃ c, c = (s.data.toList.drop f).take (k - f) := ⟨_, rfl⟩
          have hext : s.extract f k = ⟨c.toArray⟩ := by rw [ext_of, hc]
          have hc0 : c.getD 0 0 = s[f] := by
            rw [byte_at s f hfl, hc]
            simp only [List.getD, List.getElem?_take, List.getElem?_drop, if_pos (show 0 < k - f by omega), Nat.add_zero]
          have hcn : c ≠ [] := by
            intro e
            have := congrArg List.length hc
            rw [e, List.length_take, List.length_drop, HLN.out] at this
            simp at this
            omega
          have hz : tzf c = [tzk c] := by unfold tzf; rw [if_neg hcn]
          rw [← hc, hz] at H3
          have HC : Hid (∀ kk : Int, kk = (if x = true then 1 else 4) → tkc (L ++ [tzk c]) = tkc L ++ [.int .i64 kk, .string ⟨c.toArray⟩, .int .i64 0]) := fun kk hkk => tzcell L c kk (by rw [hkk, hx, ← hc0]; rfl)
          clear hwb hx hc hc0 hcn hz
          cases x
          all_goals (
            go_wp2_with (first | (go_at_call 123; ((with_reducible refine (HW.out _).mono ?_); rintro e w' ⟨rfl, rfl⟩)) | (at_builtin; refine apt wr rfl _ _ rfl HU.out hwz (by omega) wr.heap.size rfl rfl rfl ?_; intro v1 w1 hown1 hb1 _; have HO1 := Lib.hid hown1; have HB1 := Lib.hid (HB.out.trans hb1); clear hown1 hb1))
            go_roundw
            case rel =>
              refine ⟨k + 1, k + 1, L ++ [tzk c], by omega, by omega, by go_num, by go_num, ?_, by simp; omega, HB1.out, (fun _ => by rw [H3.out]; simp), fun h => by omega⟩
              show World.ownsRow _ _ _ _ _ _ _
              rw [HC.out _ (by simp; try rfl), List.length_append]
              exact HO1.out
            case measure => (simp [intOf]) <;> omega)
        · obtain rfl : f = k := by omega
          have HE : Hid (tzf ((s.data.toList.drop f).take (f - f)) = []) := by simp [Hid, tzf]
          go_wp2_with fail
          go_roundw
          case rel =>
            refine ⟨f + 1, f + 1, L, by omega, by omega, by go_num, by go_num, HU.out, by omega, HB.out, fun _ => ?_, fun h => by omega⟩
            rw [H3.out, HE.out]
            simp
          case measure => (simp [intOf]) <;> omega
      · have h32' : (((s[k]).toNat : Int) == 32) = false := by simpa using h32
        have hb : s.data.toList.getD k 0 ≠ 32 := by
          rw [← byte_at s k hlt]
          intro e
          rw [e] at h32
          exact h32 rfl
        have h3 : tz s.data.toList = L ++ tzF ((s.data.toList.drop f).take (k + 1 - f)) (s.data.toList.drop (k + 1)) := by
          rw [H1.out (by omega), hdr, tzF_cons hb, takemore hf hkl]
        have H3 := Lib.hid h3
        clear hdr h3 hb
        go_wp2_with fail
        go_roundw
        case rel => exact ⟨k + 1, f, L, by omega, by omega, by go_num, rfl, HU.out, by omega, HB.out, fun _ => H3.out, fun h => by omega⟩
        case measure => (simp [intOf]) <;> omega
    · by_cases hke : k = s.size
      · have h3 : tz s.data.toList = L ++ tzf ((s.data.toList.drop f).take (k - f)) ++ [] := by
          rw [H1.out (by omega), @List.drop_eq_nil_of_le _ s.data.toList k (by rw [HLN.out]; omega), List.append_nil]
          rfl
        have H3 := Lib.hid h3
        clear h3
        by_cases hfk : f < k
        · subst hke
          have hfl : f < s.size := by omega
          have hwb := fun W => wordByte_any W s[f]
          obtain ⟨x, hx⟩ : ∃ x, x = wb s[f] := ⟨_, rfl⟩
          rw [← hx] at hwb
          have HW := Lib.hid hwb
          obtain ⟨c, hc⟩ : ∃ c, c = (s.data.toList.drop f).take (s.size - f) := ⟨_, rfl⟩
          have hext : s.extract f s.size = ⟨c.toArray⟩ := by rw [ext_of, hc]
          have hc0 : c.getD 0 0 = s[f] := by
            rw [byte_at s f hfl, hc]
            simp only [List.getD, List.getElem?_take, List.getElem?_drop, if_pos (show 0 < s.size - f by omega), Nat.add_zero]
          have hcn : c ≠ [] := by
            intro e
            have := congrArg List.length hc
            rw [e, List.length_take, List.length_drop, HLN.out] at this
            simp at this
            omega
          have hz : tzf c = [tzk c] := by unfold tzf; rw [if_neg hcn]
          rw [← hc, hz] at H3
          have HC : Hid (∀ kk : Int, kk = (if x = true then 1 else 4) → tkc (L ++ [tzk c]) = tkc L ++ [.int .i64 kk, .string ⟨c.toArray⟩, .int .i64 0]) := fun kk hkk => tzcell L c kk (by rw [hkk, hx, ← hc0]; rfl)
          clear hwb hx hc hc0 hcn hz
          cases x
          all_goals (
            go_wp2_with (first | (go_at_call 123; ((with_reducible refine (HW.out _).mono ?_); rintro e w' ⟨rfl, rfl⟩)) | (at_builtin; refine apt wr rfl _ _ rfl HU.out hwz (by omega) wr.heap.size rfl rfl rfl ?_; intro v1 w1 hown1 hb1 _; have HO1 := Lib.hid hown1; have HB1 := Lib.hid (HB.out.trans hb1); clear hown1 hb1))
            go_roundw
            case rel =>
              refine ⟨s.size + 1, s.size + 1, L ++ [tzk c], by omega, by omega, by go_num, by go_num, ?_, by simp; omega, HB1.out, (fun h => by omega), fun _ => by rw [H3.out]; simp⟩
              show World.ownsRow _ _ _ _ _ _ _
              rw [HC.out _ (by simp; try rfl), List.length_append]
              exact HO1.out
            case measure => (simp [intOf]) <;> omega)
        · obtain rfl : f = k := by omega
          have HE : Hid (tzf ((s.data.toList.drop f).take (f - f)) = []) := by simp [Hid, tzf]
          subst hke
          go_wp2_with fail
          go_roundw
          case rel =>
            refine ⟨s.size + 1, s.size + 1, L, by omega, by omega, by go_num, by go_num, HU.out, by omega, HB.out, fun h => by omega, fun _ => ?_⟩
            rw [H3.out, HE.out]
            simp
          case measure => (simp [intOf]) <;> omega
      · obtain rfl : k = s.size + 1 := by omega
        have HE := Lib.hid (H2.out rfl)
        go_wp2_with fail
        go_ret
        exact ⟨_, rfl, by rw [HE.out]; exact HU.out, HB.out⟩
end Go.Proofs.YtfbmnkkpbcdjfaaDoor

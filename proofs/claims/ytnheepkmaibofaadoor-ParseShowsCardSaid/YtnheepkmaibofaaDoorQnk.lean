import Derived.Test.YtnheepkmaibofaaDoorQbk
import Derived.Test.YtnheepkmaibofaaDoorQck
import Derived.Test.YtnheepkmaibofaaDoorUck
import Derived.Test.YtnheepkmaibofaaDoorQkk
import Derived.Test.YtnheepkmaibofaaDoorQhk
/- Columns: what they lack, by the document; words and marks between blanks. -/
namespace Go.Proofs.YtnheepkmaibofaaDoor
open Go.ChangeShapes Go.WideShapes Go.ChangeAt Go.RowKit
set_option linter.unusedVariables false
set_option linter.unusedSimpArgs false
set_option maxHeartbeats 2000000
theorem ext_of (s : ByteArray) (i e : Nat) : s.extract i e = ⟨((s.data.toList.drop i).take (e - i)).toArray⟩ := Lib.extract_eq s i e
theorem dropcons {l : List UInt8} {k : Nat} (h : k < l.length) : l.drop k = l.getD k 0 :: l.drop (k + 1) := by
  rw [List.drop_eq_getElem_cons h]
  simp [List.getD, List.getElem?_eq_getElem h]
theorem takemore {l : List UInt8} {i e : Nat} (hi : i ≤ e) (he : e < l.length) : (l.drop i).take (e + 1 - i) = (l.drop i).take (e - i) ++ [l.getD e 0] := by
  have h : e - i < (l.drop i).length := by rw [List.length_drop]; omega
  rw [show e + 1 - i = e - i + 1 by omega, List.take_succ_eq_append_getElem h]
  congr 2
  simp [List.getD, show i + (e - i) = e by omega, he]
theorem tzcell (L : List Tk) (c : List UInt8) (k : Int) (h : k = (tzk c).k) : tkc (L ++ [tzk c]) = tkc L ++ [.int .i64 k, .string ⟨c.toArray⟩, .int .i64 0] := by
  rw [tkc_app]
  subst h
  rfl
set_option maxRecDepth 100000 in
theorem toks_any (w : World) (s : ByteArray) (hs : s.size ≤ 1000) :
    Calls Tryd.prog 55 #[.string s] w fun e w' => ∃ v, e = .returned v ∧ w'.ownsRow w.heap.size 39 3 v (tz s.data.toList).length (tkc (tz s.data.toList)) ∧ Below w.heap.size w w' := by
  have hsz := len_size s
  have HLN := Lib.hid hsz
  clear hsz
  go_enter Tryd.func55, Tryd.ntmps55
  go_wp2_with fail
  go_loopw [3, 4, 5] (fun u fr i wr => ∃ (k f : Nat) (L : List Tk), k ≤ s.size + 1 ∧ f ≤ k ∧ i = .int .i64 (k : Int) ∧ fr = .int .i64 (f : Int) ∧ Hid (wr.ownsRow w.heap.size 39 3 u L.length (tkc L)) ∧ L.length ≤ k ∧ Hid (Below w.heap.size w wr) ∧
      Hid (k ≤ s.size → tz s.data.toList = L ++ tzF ((s.data.toList.drop f).take (k - f)) (s.data.toList.drop k)) ∧ Hid (k = s.size + 1 → tz s.data.toList = L)) (fun _ _ i _ => s.size + 1 - (intOf i).toNat)
  case atStart => exact ⟨0, 0, [], by omega, by omega, rfl, rfl, World.ownsRow_nil _ _ _ _, by simp, Below.refl _ _, fun _ => rfl, fun h => by omega⟩
  case round =>
    obtain ⟨k, f, L, hk, hf, rfl, rfl, HU, hL, HB, H1, H2⟩ := hrel
    have hwz := HB.out.size
    by_cases hlt : k < s.size
    · have hkl : k < s.data.toList.length := by rw [HLN.out]; exact hlt
      have hdr := dropcons hkl
      by_cases h32 : ((s[k]).toNat : Int) = 32
      · have hb : s.data.toList.getD k 0 = 32 := by
          rw [← byte_at s k hlt]
          exact UInt8.toNat_inj.1 (by show _ = 32; omega)
        have h3 : tz s.data.toList = L ++ tzf ((s.data.toList.drop f).take (k - f)) ++ tzF [] (s.data.toList.drop (k + 1)) := by
          rw [H1.out (by omega), hdr, hb, tzF_sp, List.append_assoc]
        have H3 := Lib.hid h3
        clear hdr h3 hb
        by_cases hfk : f < k
        · have hfl : f < s.size := by omega
          have hwb := fun W => wordByte_any W s[f]
          obtain ⟨x, hx⟩ : ∃ x, x = wb s[f] := ⟨_, rfl⟩
          rw [← hx] at hwb
          have HW := Lib.hid hwb
          obtain ⟨c, hc⟩ : ∃ c, c = (s.data.toList.drop f).take (k - f) := ⟨_, rfl⟩
          have hext : s.extract f k = ⟨c.toArray⟩ := by rw [ext_of, hc]
          have hc0 : c.getD 0 0 = s[f] := by
            rw [byte_at s f hfl, hc]
            simp only [List.getD, List.getElem?_take, List.getElem?_drop, if_pos (show 0 < k - f by omega), Nat.add_zero]
          have hcn : c ≠ [] := by
            intro e
            have := congrArg List.length hc
            rw [e, List.length_take, List.length_drop, HLN.out] at this
            simp at this
            omega
          have hz : tzf c = [tzk c] := by unfold tzf; rw [if_neg hcn]
          rw [← hc, hz] at H3
          have HC : Hid (∀ kk : Int, kk = (if x = true then 1 else 4) → tkc (L ++ [tzk c]) = tkc L ++ [.int .i64 kk, .string ⟨c.toArray⟩, .int .i64 0]) := fun kk hkk => tzcell L c kk (by rw [hkk, hx, ← hc0]; rfl)
          clear hwb hx hc hc0 hcn hz
          cases x
          all_goals (
            go_wp2_with (first | (go_at_call 79; ((with_reducible refine (HW.out _).mono ?_); rintro e w' ⟨rfl, rfl⟩)) | (at_builtin; refine apt wr rfl _ _ rfl HU.out hwz (by omega) wr.heap.size rfl rfl rfl ?_; intro v1 w1 hown1 hb1 _; have HO1 := Lib.hid hown1; have HB1 := Lib.hid (HB.out.trans hb1); clear hown1 hb1))
            go_roundw
            case rel =>
              refine ⟨k + 1, k + 1, L ++ [tzk c], by omega, by omega, by go_num, by go_num, ?_, by simp; omega, HB1.out, (fun _ => by rw [H3.out]; simp), fun h => by omega⟩
              show World.ownsRow _ _ _ _ _ _ _
              rw [HC.out _ (by simp; try rfl), List.length_append]
              exact HO1.out
            case measure => (simp [intOf]) <;> omega)
        · obtain rfl : f = k := by omega
          have HE : Hid (tzf ((s.data.toList.drop f).take (f - f)) = []) := by simp [Hid, tzf]
          go_wp2_with fail
          go_roundw
          case rel =>
            refine ⟨f + 1, f + 1, L, by omega, by omega, by go_num, by go_num, HU.out, by omega, HB.out, fun _ => ?_, fun h => by omega⟩
            rw [H3.out, HE.out]
            simp
          case measure => (simp [intOf]) <;> omega
      · have h32' : (((s[k]).toNat : Int) == 32) = false := by simpa using h32
        have hb : s.data.toList.getD k 0 ≠ 32 := by
          rw [← byte_at s k hlt]
          intro e
          rw [e] at h32
          exact h32 rfl
        have h3 : tz s.data.toList = L ++ tzF ((s.data.toList.drop f).take (k + 1 - f)) (s.data.toList.drop (k + 1)) := by
          rw [H1.out (by omega), hdr, tzF_cons hb, takemore hf hkl]
        have H3 := Lib.hid h3
        clear hdr h3 hb
        go_wp2_with fail
        go_roundw
        case rel => exact ⟨k + 1, f, L, by omega, by omega, by go_num, rfl, HU.out, by omega, HB.out, fun _ => H3.out, fun h => by omega⟩
        case measure => (simp [intOf]) <;> omega
    · by_cases hke : k = s.size
      · have h3 : tz s.data.toList = L ++ tzf ((s.data.toList.drop f).take (k - f)) ++ [] := by
          rw [H1.out (by omega), @List.drop_eq_nil_of_le _ s.data.toList k (by rw [HLN.out]; omega), List.append_nil]
          rfl
        have H3 := Lib.hid h3
        clear h3
        by_cases hfk : f < k
        · subst hke
          have hfl : f < s.size := by omega
          have hwb := fun W => wordByte_any W s[f]
          obtain ⟨x, hx⟩ : ∃ x, x = wb s[f] := ⟨_, rfl⟩
          rw [← hx] at hwb
          have HW := Lib.hid hwb
          obtain ⟨c, hc⟩ : ∃ c, c = (s.data.toList.drop f).take (s.size - f) := ⟨_, rfl⟩
          have hext : s.extract f s.size = ⟨c.toArray⟩ := by rw [ext_of, hc]
          have hc0 : c.getD 0 0 = s[f] := by
            rw [byte_at s f hfl, hc]
            simp only [List.getD, List.getElem?_take, List.getElem?_drop, if_pos (show 0 < s.size - f by omega), Nat.add_zero]
          have hcn : c ≠ [] := by
            intro e
            have := congrArg List.length hc
            rw [e, List.length_take, List.length_drop, HLN.out] at this
            simp at this
            omega
          have hz : tzf c = [tzk c] := by unfold tzf; rw [if_neg hcn]
          rw [← hc, hz] at H3
          have HC : Hid (∀ kk : Int, kk = (if x = true then 1 else 4) → tkc (L ++ [tzk c]) = tkc L ++ [.int .i64 kk, .string ⟨c.toArray⟩, .int .i64 0]) := fun kk hkk => tzcell L c kk (by rw [hkk, hx, ← hc0]; rfl)
          clear hwb hx hc hc0 hcn hz
          cases x
          all_goals (
            go_wp2_with (first | (go_at_call 79; ((with_reducible refine (HW.out _).mono ?_); rintro e w' ⟨rfl, rfl⟩)) | (at_builtin; refine apt wr rfl _ _ rfl HU.out hwz (by omega) wr.heap.size rfl rfl rfl ?_; intro v1 w1 hown1 hb1 _; have HO1 := Lib.hid hown1; have HB1 := Lib.hid (HB.out.trans hb1); clear hown1 hb1))
            go_roundw
            case rel =>
              refine ⟨s.size + 1, s.size + 1, L ++ [tzk c], by omega, by omega, by go_num, by go_num, ?_, by simp; omega, HB1.out, (fun h => by omega), fun _ => by rw [H3.out]; simp⟩
              show World.ownsRow _ _ _ _ _ _ _
              rw [HC.out _ (by simp; try rfl), List.length_append]
              exact HO1.out
            case measure => (simp [intOf]) <;> omega)
        · obtain rfl : f = k := by omega
          have HE : Hid (tzf ((s.data.toList.drop f).take (f - f)) = []) := by simp [Hid, tzf]
          subst hke
          go_wp2_with fail
          go_roundw
          case rel =>
            refine ⟨s.size + 1, s.size + 1, L, by omega, by omega, by go_num, by go_num, HU.out, by omega, HB.out, fun h => by omega, fun _ => ?_⟩
            rw [H3.out, HE.out]
            simp
          case measure => (simp [intOf]) <;> omega
      · obtain rfl : k = s.size + 1 := by omega
        have HE := Lib.hid (H2.out rfl)
        go_wp2_with fail
        go_ret
        exact ⟨_, rfl, by rw [HE.out]; exact HU.out, HB.out⟩
end Go.Proofs.YtnheepkmaibofaaDoor
/- Names and columns as tokens: what the document cuts at blanks is what the program shows. Plain. -/
namespace Go.Proofs.YtnheepkmaibofaaDoor
open Go.ChangeShapes Go.WideShapes Go.ChangeAt Go.RowKit
set_option linter.unusedVariables false
set_option linter.unusedSimpArgs false
set_option maxHeartbeats 1000000
theorem nm_word {l : List UInt8} (h : nmF l = 0) : l ≠ [] ∧ wb (l.getD 0 0) = true ∧ (32 : UInt8) ∉ l ∧ l.length ≤ 8 ∧ tkF 1 l 0 = 0 := by
  by_cases h8 : 8 < l.length
  · rw [nm_long h8] at h
    omega
  · rw [nm_short h8] at h
    have ht : tkF 1 l 0 = 0 := by
      by_cases e : tkF 1 l 0 = 0
      · exact e
      · rw [if_pos (.inl e)] at h
        omega
    have hx : txt 1 l = true := by
      cases hb : txt 1 l with
      | true => rfl
      | false =>
        have h2 := ht
        unfold tkF at h2
        rw [hb] at h2
        simp at h2
    have hy := hx
    unfold txt at hy
    rw [if_pos rfl] at hy
    simp only [Bool.and_eq_true, Bool.not_eq_true', List.all_eq_true] at hy
    obtain ⟨⟨h1, h2⟩, h3⟩ := hy
    have hne : l ≠ [] := by
      intro e
      subst e
      simp at h1
    refine ⟨hne, ?_, ?_, by omega, ht⟩
    · obtain ⟨c, r, rfl⟩ := List.exists_cons_of_ne_nil hne
      have hc := h3 c (by simp)
      have e : (c :: r).getD 0 0 = c := rfl
      rw [e] at h2 ⊢
      unfold iw at hc
      rw [h2, Bool.or_false] at hc
      exact hc
    · intro hm
      have := h3 32 hm
      revert this
      decide
/-- A name is the same token to both. -/
theorem ptk_tzk {t : ByteArray} (h : nmF t.data.toList = 0) : ptk t = tzk t.data.toList := by
  obtain ⟨_, h2, _, _, h5⟩ := nm_word h
  unfold ptk tzk
  rw [if_pos h5, if_pos h2]
theorem tz_name {t : ByteArray} (h : nmF t.data.toList = 0) : tz t.data.toList = [ptk t] := by
  obtain ⟨h1, _, h3, _, _⟩ := nm_word h
  rw [ptk_tzk h, tz_word h3 h1]
theorem tz_one (a : List UInt8) (h : (32 : UInt8) ∉ a) (h0 : a ≠ []) (e : ptk ⟨a.toArray⟩ = tzk a) : tz a = [ptk ⟨a.toArray⟩] := by rw [tz_word h h0, e]
theorem tz_open : tz [40] = [ptk sOpen] := tz_one [40] (by decide) (by decide) (by decide +kernel)
theorem tz_close : tz [41] = [ptk sClose] := tz_one [41] (by decide) (by decide) (by decide +kernel)
theorem tz_comma : tz [44] = comma := tz_one [44] (by decide) (by decide) (by decide +kernel)
theorem tz_create : tz [67, 82, 69, 65, 84, 69] = [ptk sCREATE] := tz_one [67, 82, 69, 65, 84, 69] (by decide) (by decide) (by decide +kernel)
theorem tz_table : tz [84, 65, 66, 76, 69] = [ptk sTABLE] := tz_one [84, 65, 66, 76, 69] (by decide) (by decide) (by decide +kernel)
theorem tz_kind : ∀ k, k < 4 → 1 ≤ k → tz (kdL.getD k []) = [ptk ⟨(kdL.getD k []).toArray⟩]
  | 1, _, _ => tz_one [66, 79, 79, 76] (by decide) (by decide) (by decide +kernel)
  | 2, _, _ => tz_one [73, 78, 84] (by decide) (by decide) (by decide +kernel)
  | 3, _, _ => tz_one [84, 69, 88, 84] (by decide) (by decide) (by decide +kernel)
  | 0, _, h => absurd h (by omega)
  | n + 4, h, _ => absurd h (by omega)
theorem data_app (a b : ByteArray) : (a ++ b).data.toList = a.data.toList ++ b.data.toList := by simp
/-- 'CREATE TABLE t ('. -/
theorem tz_head {t : ByteArray} (h : nmF t.data.toList = 0) : tz ((⟨#[67, 82, 69, 65, 84, 69, 32, 84, 65, 66, 76, 69, 32]⟩ : ByteArray) ++ t ++ ⟨#[32, 40]⟩).data.toList = [ptk sCREATE, ptk sTABLE, ptk t, ptk sOpen] := by
  rw [data_app, data_app]
  have e : ([67, 82, 69, 65, 84, 69, 32, 84, 65, 66, 76, 69, 32] : List UInt8) ++ t.data.toList ++ [32, 40] = [67, 82, 69, 65, 84, 69] ++ 32 :: ([84, 65, 66, 76, 69] ++ 32 :: (t.data.toList ++ 32 :: [40])) := by simp
  show tz (([67, 82, 69, 65, 84, 69, 32, 84, 65, 66, 76, 69, 32] : List UInt8) ++ t.data.toList ++ [32, 40]) = _
  rw [e, tz_blank, tz_blank, tz_blank, tz_create, tz_table, tz_name h, tz_open]
  rfl
/-- A column: its name, a blank, its kind. -/
theorem tz_col {c : Cq} (h : nmF c.t.data.toList = 0) (h1 : 1 ≤ c.k) (h3 : c.k ≤ 3) : tz (c.t ++ ⟨#[32]⟩ ++ ⟨(kdL.getD c.k.toNat []).toArray⟩).data.toList = shC c := by
  rw [data_app, data_app]
  have e : c.t.data.toList ++ (⟨#[32]⟩ : ByteArray).data.toList ++ (⟨(kdL.getD c.k.toNat []).toArray⟩ : ByteArray).data.toList = c.t.data.toList ++ 32 :: (kdL.getD c.k.toNat []) := by simp
  rw [e, tz_blank, tz_name h, tz_kind _ (by omega) (by omega)]
  rfl
end Go.Proofs.YtnheepkmaibofaaDoor
/- A Create that makes columns: what it lacks, by the document. -/
namespace Go.Proofs.YtnheepkmaibofaaDoor
open Go.ChangeShapes Go.WideShapes Go.ChangeAt Go.RowKit
set_option linter.unusedVariables false
set_option linter.unusedSimpArgs false
set_option maxHeartbeats 4000000
theorem inp_any (w : World) (a b c : Int) (q : Bool) (h : (decide (b ≤ a) && decide (a ≤ c)) = q) : Calls Tryd.prog 24 #[.int .i64 a, .int .i64 b, .int .i64 c] w fun e w' => e = .returned (.bool q) ∧ w = w' := by
  subst h
  exact in_any w a b c
theorem cell_blw {W W' : World} {a : Addr} {v : Value} (hb : Below W.heap.size W W') (h : W.cell? a = some v) : W'.cell? a = some v := (hb.cell (lt_cell h)).trans h
theorem hasC_take_hit {l : List Cq} {k j : Nat} {t : ByteArray} (hk : k ≤ l.length) (hj : j < k) (e : (l.getD j ncq).t = t) : hasC (l.take k) t = true := by
  refine hasC_at (k := j) (by simp; omega) ?_
  rw [← e]
  congr 1
  simp [List.getD, List.getElem?_take, hj]
theorem hasC_take_none {l : List Cq} {k : Nat} {t : ByteArray} (hk : k ≤ l.length) (h : ∀ j, j < k → (l.getD j ncq).t ≠ t) : hasC (l.take k) t = false := by
  refine hasC_none fun j hj => ?_
  have hj' : j < k := by simp at hj; omega
  have := h j hj'
  simpa [List.getD, List.getElem?_take, hj'] using this
set_option maxRecDepth 100000 in
theorem partsFault_create (w : World) (t : ByteArray) (n : Nat) (v : Value) (l : List Cq) (hr : Rd w 2 n v (ccs l)) (hs : ∀ c ∈ l, c.t.size ≤ maxLen) :
    Calls Tryd.prog 26 #[crV t v] w fun e w' => e = .returned (.int .i64 (colsF l)) ∧ Below w.heap.size w w' := by
  have hml := len_c hr
  have hmax := hr.len
  unfold maxLen at hmax
  have HR := Lib.hid hr
  obtain ⟨_, ao, cap, rfl, hcap, _⟩ := hr
  by_cases h1 : n < 1 ∨ 6 < n
  · have HF : Hid (colsF l = 1) := by
      show _ = _
      unfold colsF
      rw [if_pos (by omega)]
    have HI := Lib.hid (fun w => inp_any w (n : Int) 1 6 false (by simp; omega))
    clear hml HR h1
    go_enter Tryd.func26, Tryd.ntmps26
    go_wp2_with (go_at_call 24; ((with_reducible refine (HI.out _).mono ?_); rintro e w' ⟨rfl, rfl⟩))
    go_ret
    exact ⟨ri HF.out.symm, (Below.refl _ _).alloc (Nat.le_refl _) _⟩
  · have HF : Hid (colsF l = clF [] l) := by
      show _ = _
      unfold colsF
      rw [if_neg (by omega)]
    have HI := Lib.hid (fun w => inp_any w (n : Int) 1 6 true (by simp; omega))
    obtain ⟨b, o, cap', hv, _, _, hbw, hcell⟩ := cols_of HR.out (by omega)
    simp only [Value.slice.injEq] at hv
    obtain ⟨rfl, -, rfl⟩ := hv
    have HC := Lib.hid hcell
    have HN := Lib.hid hml
    have HS := Lib.hid hs
    have HB0 : Hid (Below w.heap.size w (w.alloc (.cells (crC t (.slice (some ⟨b, o, none⟩) n cap)) 27))) := (Below.refl _ _).alloc (Nat.le_refl _) _
    have HNEW := Lib.hid (fun w1 hb => (CrB.new w t (.slice (some ⟨b, o, none⟩) n cap) (w1 := w1) hb).c2)
    have HI3 := Lib.hid (fun w (x : Int) (q : Bool) (h : (decide (1 ≤ x) && decide (x ≤ 3)) = q) => inp_any w x 1 3 q h)
    obtain ⟨W0, hW0⟩ : ∃ W0, W0 = w.alloc (.cells (crC t (.slice (some ⟨b, o, none⟩) n cap)) 27) := ⟨_, rfl⟩
    have HW := Lib.hid hW0
    have hc2 := HNEW.out W0 (by rw [hW0]; exact Below.refl _ _)
    have HB0' : Hid (Below w.heap.size w W0) := by show Below _ _ _; rw [hW0]; exact HB0.out
    have hbw0 : b < W0.heap.size := Nat.lt_of_lt_of_le hbw HB0'.out.size
    have HC0 : Hid (∀ k, k < n → W0.cell? ⟨b, o + k * 2, none⟩ = some (.string (l.getD k ncq).t) ∧ W0.cell? ⟨b, o + k * 2 + 1, none⟩ = some (.int .i64 (l.getD k ncq).k)) := fun k hk => ⟨(HB0'.out.cell (p := ⟨b, o + k * 2, none⟩) hbw).trans (HC.out k hk).1, (HB0'.out.cell (p := ⟨b, o + k * 2 + 1, none⟩) hbw).trans (HC.out k hk).2⟩
    clear hcell hml hs hW0
    go_enter Tryd.func26, Tryd.ntmps26
    go_wp2_with (go_at_call 24; ((with_reducible refine (HI.out _).mono ?_); rintro e w' ⟨rfl, rfl⟩))
    rw [← HW.out]
    go_loopw [3] (fun i wr => ∃ k : Nat, k ≤ n ∧ i = .int .i64 (k : Int) ∧ Hid (clF [] l = clF (l.take k) (l.drop k)) ∧ Hid (Below W0.heap.size W0 wr)) (fun i _ => n - (intOf i).toNat)
    case atStart => exact ⟨0, by omega, rfl, by simp [Hid], Below.refl _ _⟩
    case round =>
      obtain ⟨k, hk, rfl, HE, HB⟩ := hrel
      have x2 := cell_blw HB.out hc2
      by_cases hlt : k < n
      · obtain ⟨g0, g1⟩ := HC0.out k hlt
        have c0 := cell_blw HB.out g0
        have c1 := cell_blw HB.out g1
        have hll : k < l.length := by rw [← HN.out]; exact hlt
        have hsz := HS.out _ (cgetD_mem hll)
        have hdr := cdrop_cons hll
        have htk := ctake_snoc hll
        obtain ⟨u, hu⟩ : ∃ u, u = l.getD k ncq := ⟨_, rfl⟩
        rw [← hu] at c0 c1 hsz hdr htk
        have HUT : Hid ((l.getD k ncq).t = u.t) := by show _ = _; rw [hu]
        clear g0 g1 hu
        obtain ⟨ut, uk⟩ := u
        simp only at c0 c1 hsz HUT
        have hnm := nameFault_any wr ut hsz
        have hE : clF (l.take k) (l.drop k) = if nmF ut.data.toList ≠ 0 then nmF ut.data.toList else if uk < 1 ∨ 3 < uk then 2 else if hasC (l.take k) ut = true then 9 else clF (l.take (k + 1)) (l.drop (k + 1)) := by
          rw [hdr, htk]
          rfl
        obtain ⟨r, hr⟩ : ∃ r, r = nmF ut.data.toList := ⟨_, rfl⟩
        rw [← hr] at hnm hE
        have HNM := Lib.hid hnm
        have HEQ := Lib.hid hE
        have HLL := Lib.hid hll
        clear hnm hE hr hdr htk hll hsz
        go_wp2_with fail
        refine HNM.out.mono ?_
        rintro e w2 ⟨rfl, hb2⟩
        replace x2 := cell_blw hb2 x2
        replace c0 := cell_blw hb2 c0
        replace c1 := cell_blw hb2 c1
        have HB2 := Lib.hid (HB.out.trans (hb2.mono HB.out.size))
        clear hb2 HNM
        by_cases hr0 : r = 0
        · subst hr0
          by_cases hk3 : 1 ≤ uk ∧ uk ≤ 3
          · have hin := HI3.out w2 uk true (by simp; exact hk3)
            have HIN := Lib.hid hin
            have HG : Hid (clF [] l = if hasC (l.take k) ut = true then 9 else clF (l.take (k + 1)) (l.drop (k + 1))) := by
              show _ = _
              rw [HE.out, HEQ.out, if_neg (by simp), if_neg (by omega)]
            clear hin hk3 HEQ HE
            go_wp2_with (go_at_call 24; ((with_reducible refine HIN.out.mono ?_); rintro e w' ⟨rfl, rfl⟩))
            go_loopw [4, 5] (fun e x wk => ∃ j : Nat, j ≤ k ∧ x = .int .i64 (j : Int) ∧ ((e = .int .i64 0 ∧ Hid (∀ q, q < j → (l.getD q ncq).t ≠ ut)) ∨ (e = .int .i64 9 ∧ Hid (hasC (l.take k) ut = true))) ∧ Hid (Below W0.heap.size W0 wk)) (fun _ x _ => k - (intOf x).toNat)
            case atStart => exact ⟨0, by omega, rfl, .inl ⟨rfl, fun q hq => absurd hq (by omega)⟩, HB2.out⟩
            case round =>
              obtain ⟨j, hj, rfl, hor, HBK⟩ := hrel
              rcases hor with ⟨rfl, HA⟩ | ⟨rfl, HA⟩
              · by_cases hjk : j < k
                · have hjn : j < n := by omega
                  have y2 := cell_blw HBK.out hc2
                  have d0 := cell_blw HBK.out (HC0.out j hjn).1
                  have e0 := cell_blw HBK.out (HC0.out k hlt).1
                  obtain ⟨ct, hct⟩ : ∃ ct, ct = (l.getD j ncq).t := ⟨_, rfl⟩
                  obtain ⟨vt, hvt⟩ : ∃ vt, vt = (l.getD k ncq).t := ⟨_, rfl⟩
                  have hvu : vt = ut := by rw [hvt]; exact HUT.out
                  rw [← hct] at d0
                  rw [← hvt, hvu] at e0
                  have HCT := Lib.hid hct
                  clear hct hvt hvu x2 c0 c1
                  by_cases he : ct = ut
                  · subst he
                    go_wp2_with fail
                    go_quiet (fail)
                    go_wp2_with fail
                    go_roundw
                    case rel => exact ⟨j + 1, by omega, by go_num, .inr ⟨rfl, hasC_take_hit (Nat.le_of_lt HLL.out) hjk HCT.out.symm⟩, HBK.out.trans ((below_drewN _ _).mono HBK.out.size)⟩
                    case measure => (simp [intOf]) <;> omega
                  · have hne := st_beq he
                    have HX := Lib.hid he
                    clear he
                    go_wp2_with fail
                    go_quiet (fail)
                    go_wp2_with fail
                    go_roundw
                    case rel =>
                      refine ⟨j + 1, by omega, by go_num, .inl ⟨rfl, fun q hq => ?_⟩, HBK.out.trans ((below_drewN _ _).mono HBK.out.size)⟩
                      rcases Nat.lt_or_ge q j with h | h
                      · exact HA.out q h
                      · obtain rfl : q = j := by omega
                        rw [← HCT.out]
                        exact HX.out
                    case measure => (simp [intOf]) <;> omega
                · obtain rfl : j = k := by omega
                  have HG2 : Hid (clF [] l = clF (l.take (j + 1)) (l.drop (j + 1))) := by
                    show _ = _
                    rw [HG.out, hasC_take_none (Nat.le_of_lt HLL.out) HA.out]
                    rfl
                  go_wp2_with fail
                  go_roundw
                  case rel => exact ⟨j + 1, by omega, by go_num, HG2.out, HBK.out⟩
                  case measure => (simp [intOf]) <;> omega
              · have HG2 : Hid (colsF l = 9) := by
                  show _ = _
                  rw [HF.out, HG.out, HA.out]
                  rfl
                by_cases hjk : j < k
                all_goals (
                  go_wp2_with fail
                  go_ret
                  exact ⟨ri HG2.out.symm, into HB0'.out HBK.out⟩)
          · have hin := HI3.out w2 uk false (by simp; omega)
            have HIN := Lib.hid hin
            have HG : Hid (colsF l = 2) := by
              show _ = _
              rw [HF.out, HE.out, HEQ.out, if_neg (by simp), if_pos (by omega)]
            clear hin hk3 HEQ HE
            go_wp2_with (go_at_call 24; ((with_reducible refine HIN.out.mono ?_); rintro e w' ⟨rfl, rfl⟩))
            go_rounds 1
            all_goals (go_ret; exact ⟨ri HG.out.symm, into HB0'.out HB2.out⟩)
        · have hr0' : (r == 0) = false := by simpa using hr0
          have HG : Hid (colsF l = r) := by
            show _ = _
            rw [HF.out, HE.out, HEQ.out, if_pos hr0]
          clear HEQ HE
          go_wp2_with fail
          go_rounds 1
          all_goals (go_ret; exact ⟨ri HG.out.symm, into HB0'.out HB2.out⟩)
      · obtain rfl : k = n := by omega
        have HG : Hid (colsF l = 0) := by
          show _ = _
          rw [HF.out, HE.out, List.drop_eq_nil_of_le (by rw [← HN.out]; exact Nat.le_refl _)]
          rfl
        go_wp2_with fail
        go_ret
        exact ⟨ri HG.out.symm, into HB0'.out HB.out⟩
end Go.Proofs.YtnheepkmaibofaaDoor
/- A column's tokens put behind others, by the document: the region that draws its order. -/
namespace Go.Proofs.YtnheepkmaibofaaDoor
open Go.ChangeShapes Go.WideShapes Go.ChangeAt Go.RowKit
set_option linter.unusedVariables false
set_option linter.unusedSimpArgs false
set_option maxHeartbeats 4000000
set_option maxRecDepth 1000000
theorem st9 (Q : Exit → Act → World → Prop) (c0 c2 c5 c6 c7 c8 c9 c10 c11 c12 c13 c14 c15 c16 c17 c18 c19 c20 c21 c22 c23 c24 c25 c26 c27 c28 c29 c30 c31 c32 c33 c34 c35 c36 c37 c38 c39 c40 c41 c42 c43 c44 c45 c46 c47 c48 c49 c50 c51 c52 c53 c54 c55 c56 c57 c58 c59 c60 c61 c62 c63 c64 c65 c66 c67 c68 c69 c70 c71 c72 c73 c74 c75 c76 c77 c78 c79 c80 c81 c82 c83 c84 c85 c86 c87 c88 c89 c90 c91 c92 c93 c94 c95 c96 c97 c98 c99 c100 c101 c102 c103 c104 c105 c106 c107 c108 c109 c110 c111 c112 c113 c114 c115 c116 c117 c118 c119 c120 c121 c122 c123 c124 c125 c126 c127 c128 c129 c130 c131 c132 c133 c134 c135 c136 c137 c138 c139 c140 c141 c142 c143 c144 c145 c146 c147 c148 c149 c150 c151 c152 c153 c154 c155 c156 c157 c158 c159 c160 c161 c162 c163 c164 c165 c166 c167 c168 c169 c170 c171 c172 c173 c174 c175 c176 c177 c178 c179 c180 c181 c182 c183 c184 c185 c186 c187 c188 : Value) (w0 : World) (P B b o n cap k q kk : Nat) (u : Value) (L : List Tk) (t kd : ByteArray) (x y : Tk) (hkd : (kk = 1 ∧ kd = ⟨#[66, 79, 79, 76]⟩) ∨ (kk = 2 ∧ kd = ⟨#[73, 78, 84]⟩) ∨ (kk = 3 ∧ kd = ⟨#[84, 69, 88, 84]⟩))
    (hB : B ≤ w0.heap.size) (hP : P < B) (hb : b < B) (hq : q ≤ 1000) (hkn : (k : Int) < (n : Int)) (ht : t.size ≤ 1000)
    (p2 : w0.cell? ⟨P, 2, none⟩ = some (.slice (some ⟨b, o, none⟩) n cap)) (g0 : w0.cell? ⟨b, o + k * 2, none⟩ = some (.string t)) (g1 : w0.cell? ⟨b, o + k * 2 + 1, none⟩ = some (.int .i64 (kk : Int)))
    (hown : Hid (w0.ownsRow B 39 3 u q (tkc L)))
    (HTK : Hid (∀ W, Calls Tryd.prog 55 #[.string (t ++ ⟨#[32]⟩ ++ kd)] W (ToksIs [x, y] W)))
    (hout : Hid (∀ (u32 u33 u34 u35 u36 u37 u38 u39 u40 u41 u42 u43 u44 u45 u46 u47 u48 u49 u50 u51 : Value) (v5 : Value) (w' : World), w'.ownsRow B 39 3 v5 (q + 2) (tkc L ++ tkc [x, y]) → Below B w0 w' → Q .normal ⟨List.toArray (c0 :: (.pointer (some ⟨P, 0, none⟩)) :: c2 :: v5 :: (.int .i64 (k : Int)) :: c5 :: c6 :: c7 :: c8 :: c9 :: c10 :: c11 :: c12 :: c13 :: c14 :: c15 :: c16 :: c17 :: c18 :: c19 :: c20 :: c21 :: c22 :: c23 :: c24 :: c25 :: c26 :: c27 :: c28 :: c29 :: c30 :: c31 :: u32 :: u33 :: u34 :: u35 :: u36 :: u37 :: u38 :: u39 :: u40 :: u41 :: u42 :: u43 :: u44 :: u45 :: u46 :: u47 :: u48 :: u49 :: u50 :: u51 :: c52 :: c53 :: c54 :: c55 :: c56 :: c57 :: c58 :: c59 :: c60 :: c61 :: c62 :: c63 :: c64 :: c65 :: c66 :: c67 :: c68 :: c69 :: c70 :: c71 :: c72 :: c73 :: c74 :: c75 :: c76 :: c77 :: c78 :: c79 :: c80 :: c81 :: c82 :: c83 :: c84 :: c85 :: c86 :: c87 :: c88 :: c89 :: c90 :: c91 :: c92 :: c93 :: c94 :: c95 :: c96 :: c97 :: c98 :: c99 :: c100 :: c101 :: c102 :: c103 :: c104 :: c105 :: c106 :: c107 :: c108 :: c109 :: c110 :: c111 :: c112 :: c113 :: c114 :: c115 :: c116 :: c117 :: c118 :: c119 :: c120 :: c121 :: c122 :: c123 :: c124 :: c125 :: c126 :: c127 :: c128 :: c129 :: c130 :: c131 :: c132 :: c133 :: c134 :: c135 :: c136 :: c137 :: c138 :: c139 :: c140 :: c141 :: c142 :: c143 :: c144 :: c145 :: c146 :: c147 :: c148 :: c149 :: c150 :: c151 :: c152 :: c153 :: c154 :: c155 :: c156 :: c157 :: c158 :: c159 :: c160 :: c161 :: c162 :: c163 :: c164 :: c165 :: c166 :: c167 :: c168 :: c169 :: c170 :: c171 :: c172 :: c173 :: c174 :: c175 :: c176 :: c177 :: c178 :: c179 :: c180 :: c181 :: c182 :: c183 :: c184 :: c185 :: c186 :: c187 :: c188 :: []), []⟩ w')) :
    Code.wp Tryd.prog ((regionOf 9 (Tryd.f27.body.getD .skip)).getD .skip) Q ⟨List.toArray (c0 :: (.pointer (some ⟨P, 0, none⟩)) :: c2 :: u :: (.int .i64 (k : Int)) :: c5 :: c6 :: c7 :: c8 :: c9 :: c10 :: c11 :: c12 :: c13 :: c14 :: c15 :: c16 :: c17 :: c18 :: c19 :: c20 :: c21 :: c22 :: c23 :: c24 :: c25 :: c26 :: c27 :: c28 :: c29 :: c30 :: c31 :: c32 :: c33 :: c34 :: c35 :: c36 :: c37 :: c38 :: c39 :: c40 :: c41 :: c42 :: c43 :: c44 :: c45 :: c46 :: c47 :: c48 :: c49 :: c50 :: c51 :: c52 :: c53 :: c54 :: c55 :: c56 :: c57 :: c58 :: c59 :: c60 :: c61 :: c62 :: c63 :: c64 :: c65 :: c66 :: c67 :: c68 :: c69 :: c70 :: c71 :: c72 :: c73 :: c74 :: c75 :: c76 :: c77 :: c78 :: c79 :: c80 :: c81 :: c82 :: c83 :: c84 :: c85 :: c86 :: c87 :: c88 :: c89 :: c90 :: c91 :: c92 :: c93 :: c94 :: c95 :: c96 :: c97 :: c98 :: c99 :: c100 :: c101 :: c102 :: c103 :: c104 :: c105 :: c106 :: c107 :: c108 :: c109 :: c110 :: c111 :: c112 :: c113 :: c114 :: c115 :: c116 :: c117 :: c118 :: c119 :: c120 :: c121 :: c122 :: c123 :: c124 :: c125 :: c126 :: c127 :: c128 :: c129 :: c130 :: c131 :: c132 :: c133 :: c134 :: c135 :: c136 :: c137 :: c138 :: c139 :: c140 :: c141 :: c142 :: c143 :: c144 :: c145 :: c146 :: c147 :: c148 :: c149 :: c150 :: c151 :: c152 :: c153 :: c154 :: c155 :: c156 :: c157 :: c158 :: c159 :: c160 :: c161 :: c162 :: c163 :: c164 :: c165 :: c166 :: c167 :: c168 :: c169 :: c170 :: c171 :: c172 :: c173 :: c174 :: c175 :: c176 :: c177 :: c178 :: c179 :: c180 :: c181 :: c182 :: c183 :: c184 :: c185 :: c186 :: c187 :: c188 :: []), []⟩ w0 := by
  obtain ⟨i9, hi0, hz0, hz1, hz2⟩ := info_parts Tryd.info39
  have hb0 : b < w0.heap.size := by omega
  have hs1 : ¬ 9223372036854775807 < t.size + 1 := by omega
  have hs2 : ¬ 9223372036854775807 < t.size + 1 + 4 := by omega
  have hs3 : ¬ 9223372036854775807 < t.size + 1 + 3 := by omega
  have hP0 : P < w0.heap.size := by omega
  rcases hkd with ⟨rfl, rfl⟩ | ⟨rfl, rfl⟩ | ⟨rfl, rfl⟩
  · refine Code.wp_mono (Q := NQ Q) nq_to ?_
    conv => arg 2; whnf
    refine wp_region_held_drew (S := (fun wx => wx.cell? ⟨P, 2, none⟩ = some (.slice (some ⟨b, o, none⟩) n cap) ∧ wx.cell? ⟨b, o + k * 2, none⟩ = some (.string t) ∧ wx.cell? ⟨b, o + k * 2 + 1, none⟩ = some (.int .i64 ((1 : Nat) : Int)))) (by kernel_rfl) ?_ (fun hHeld => ?_)
    · (try dsimp only)
      (refine ⟨?_, ?_, ?_⟩ <;> (first | exact (hb4.cell (by show P < _; omega)).trans p2 | exact (hb4.cell (by show b < _; omega)).trans g0 | exact (hb4.cell (by show b < _; omega)).trans g1 | (repeat' (first | (with_reducible assumption) | (with_reducible refine cell_dr ?_) | (with_reducible refine cell_al _ ?_) | (with_reducible refine cell_of_below hb2 ?_)))))
    refine wpAnyH_take (i := 0) (oi := _) (v := ?_) rfl (by kernel_rfl) (by kernel_rfl) (by kernel_rfl) (fun _ _ _ h => h) (Or.inl ⟨by rfl, ?_⟩) (by assumption) ?_
    rotate_left
    · (intro w hSw; (try dsimp only at hSw); go_simp)
      all_goals (with_reducible rfl)
    (try simp only [Act.put, List.setIfInBounds_toArray, List.set_cons_zero, List.set_cons_succ])
    refine wpAnyH_take (i := 1) (oi := _) (v := ?_) rfl (by kernel_rfl) (by kernel_rfl) (by kernel_rfl) (fun _ _ _ h => h) (Or.inl ⟨by rfl, ?_⟩) (by assumption) ?_
    rotate_left
    · (intro w hSw; (try dsimp only at hSw); go_simp)
      all_goals (with_reducible rfl)
    (try simp only [Act.put, List.setIfInBounds_toArray, List.set_cons_zero, List.set_cons_succ])
    refine wpAnyH_take (i := 2) (oi := _) (v := ?_) rfl (by kernel_rfl) (by kernel_rfl) (by kernel_rfl) (fun _ _ _ h => h) (Or.inl ⟨by rfl, ?_⟩) (by assumption) ?_
    rotate_left
    · (intro w hSw; (try dsimp only at hSw); go_simp)
      all_goals (with_reducible rfl)
    (try simp only [Act.put, List.setIfInBounds_toArray, List.set_cons_zero, List.set_cons_succ])
    refine wpAnyH_take (i := 3) (oi := _) (v := ?_) rfl (by kernel_rfl) (by kernel_rfl) (by kernel_rfl) (fun _ _ _ h => h) (Or.inl ⟨by rfl, ?_⟩) (by assumption) ?_
    rotate_left
    · (intro w hSw; (try dsimp only at hSw); go_simp)
      all_goals (with_reducible rfl)
    (try simp only [Act.put, List.setIfInBounds_toArray, List.set_cons_zero, List.set_cons_succ])
    refine wpAnyH_take (i := 4) (oi := _) (v := ?_) rfl (by kernel_rfl) (by kernel_rfl) (by kernel_rfl) (fun _ _ _ h => h) (Or.inl ⟨by rfl, ?_⟩) (by assumption) ?_
    rotate_left
    · (intro w hSw; (try dsimp only at hSw); go_simp)
      all_goals (with_reducible rfl)
    (try simp only [Act.put, List.setIfInBounds_toArray, List.set_cons_zero, List.set_cons_succ])
    refine wpAnyH_take (i := 5) (oi := _) (v := ?_) rfl (by kernel_rfl) (by kernel_rfl) (by kernel_rfl) (fun _ _ _ h => h) (Or.inl ⟨by rfl, ?_⟩) (by assumption) ?_
    rotate_left
    · (intro w hSw; (try dsimp only at hSw); go_simp)
      all_goals (with_reducible rfl)
    (try simp only [Act.put, List.setIfInBounds_toArray, List.set_cons_zero, List.set_cons_succ])
    refine wpAnyH_take (i := 6) (oi := _) (v := ?_) rfl (by kernel_rfl) (by kernel_rfl) (by kernel_rfl) (fun _ _ _ h => h) (Or.inl ⟨by rfl, ?_⟩) (by assumption) ?_
    rotate_left
    · (intro w hSw; (try dsimp only at hSw); go_simp)
      all_goals (with_reducible rfl)
    (try simp only [Act.put, List.setIfInBounds_toArray, List.set_cons_zero, List.set_cons_succ])
    refine wpAnyH_take (i := 7) (oi := _) (v := ?_) rfl (by kernel_rfl) (by kernel_rfl) (by kernel_rfl) (fun _ _ _ h => h) (Or.inl ⟨by rfl, ?_⟩) (by assumption) ?_
    rotate_left
    · (intro w hSw; (try dsimp only at hSw); go_simp)
      all_goals (with_reducible rfl)
    (try simp only [Act.put, List.setIfInBounds_toArray, List.set_cons_zero, List.set_cons_succ])
    refine wpAnyH_take (i := 9) (oi := _) (v := ?_) rfl (by kernel_rfl) (by kernel_rfl) (by kernel_rfl) (fun _ _ _ h => h) (Or.inl ⟨by rfl, ?_⟩) (by assumption) ?_
    rotate_left
    · (intro w hSw; (try dsimp only at hSw); go_simp)
      all_goals (with_reducible rfl)
    (try simp only [Act.put, List.setIfInBounds_toArray, List.set_cons_zero, List.set_cons_succ])
    refine wpAnyH_take (i := 10) (oi := _) (v := ?_) rfl (by kernel_rfl) (by kernel_rfl) (by kernel_rfl) (fun _ _ _ h => h) (Or.inl ⟨by rfl, ?_⟩) (by assumption) ?_
    rotate_left
    · (intro w hSw; (try dsimp only at hSw); go_simp)
      all_goals (with_reducible rfl)
    (try simp only [Act.put, List.setIfInBounds_toArray, List.set_cons_zero, List.set_cons_succ])
    refine wpAnyH_take (i := 11) (oi := _) (v := ?_) rfl (by kernel_rfl) (by kernel_rfl) (by kernel_rfl) (fun _ _ _ h => h) (Or.inl ⟨by rfl, ?_⟩) (by assumption) ?_
    rotate_left
    · (intro w hSw; (try dsimp only at hSw); go_simp)
      all_goals (with_reducible rfl)
    (try simp only [Act.put, List.setIfInBounds_toArray, List.set_cons_zero, List.set_cons_succ])
    refine wpAnyH_take (i := 12) (oi := _) (v := ?_) rfl (by kernel_rfl) (by kernel_rfl) (by kernel_rfl) (fun _ _ _ h => h) (Or.inl ⟨by rfl, ?_⟩) (by assumption) ?_
    rotate_left
    · (intro w hSw; (try dsimp only at hSw); go_simp)
      all_goals (with_reducible rfl)
    (try simp only [Act.put, List.setIfInBounds_toArray, List.set_cons_zero, List.set_cons_succ])
    refine wpAnyH_take (i := 13) (oi := _) (v := ?_) rfl (by kernel_rfl) (by kernel_rfl) (by kernel_rfl) (fun _ _ _ h => h) (Or.inl ⟨by rfl, ?_⟩) (by assumption) ?_
    rotate_left
    · (intro w hSw; (try dsimp only at hSw); go_simp)
      all_goals (with_reducible rfl)
    (try simp only [Act.put, List.setIfInBounds_toArray, List.set_cons_zero, List.set_cons_succ])
    refine wpAnyH_take (i := 14) (oi := _) (v := ?_) rfl (by kernel_rfl) (by kernel_rfl) (by kernel_rfl) (fun _ _ _ h => h) (Or.inl ⟨by rfl, ?_⟩) (by assumption) ?_
    rotate_left
    · (intro w hSw; (try dsimp only at hSw); go_simp)
      all_goals (with_reducible rfl)
    (try simp only [Act.put, List.setIfInBounds_toArray, List.set_cons_zero, List.set_cons_succ])
    refine wpAnyH_ready (rs := [8]) (by kernel_rfl) (by simp) ?_
    refine AllReadyH.cons rfl (fun K hK => ?_) AllReadyH.nil
    go_simp
    refine hK.out _ _ ?_ (fun hHeld => ?_)
    · (try dsimp only)
      (refine ⟨?_, ?_, ?_⟩ <;> (first | exact (hb4.cell (by show P < _; omega)).trans p2 | exact (hb4.cell (by show b < _; omega)).trans g0 | exact (hb4.cell (by show b < _; omega)).trans g1 | (repeat' (first | (with_reducible assumption) | (with_reducible refine cell_dr ?_) | (with_reducible refine cell_al _ ?_) | (with_reducible refine cell_of_below hb2 ?_)))))
    clear hK K
    (try simp only [Act.put, List.setIfInBounds_toArray, List.set_cons_zero, List.set_cons_succ])
    refine wpAnyH_take (i := 15) (oi := _) (v := ?_) rfl (by kernel_rfl) (by kernel_rfl) (by kernel_rfl) (fun _ _ _ h => h) (Or.inl ⟨by rfl, ?_⟩) (by assumption) ?_
    rotate_left
    · (intro w hSw; (try dsimp only at hSw); go_simp)
      all_goals (with_reducible rfl)
    (try simp only [Act.put, List.setIfInBounds_toArray, List.set_cons_zero, List.set_cons_succ])
    refine wpAnyH_ready (rs := [16]) (by kernel_rfl) (by simp) ?_
    refine AllReadyH.cons rfl (fun K hK => ?_) AllReadyH.nil
    go_simp
    refine hK.out _ _ ?_ (fun hHeld => ?_)
    · (try dsimp only)
      (refine ⟨?_, ?_, ?_⟩ <;> (first | exact (hb4.cell (by show P < _; omega)).trans p2 | exact (hb4.cell (by show b < _; omega)).trans g0 | exact (hb4.cell (by show b < _; omega)).trans g1 | (repeat' (first | (with_reducible assumption) | (with_reducible refine cell_dr ?_) | (with_reducible refine cell_al _ ?_) | (with_reducible refine cell_of_below hb2 ?_)))))
    clear hK K
    (try simp only [Act.put, List.setIfInBounds_toArray, List.set_cons_zero, List.set_cons_succ])
    refine wpAnyH_take (i := 17) (oi := _) (v := ?_) rfl (by kernel_rfl) (by kernel_rfl) (by kernel_rfl) (fun _ _ _ h => h) (Or.inl ⟨by rfl, ?_⟩) (by assumption) ?_
    rotate_left
    · (intro w hSw; (try dsimp only at hSw); go_simp)
      all_goals (with_reducible rfl)
    (try simp only [Act.put, List.setIfInBounds_toArray, List.set_cons_zero, List.set_cons_succ])
    refine wpAnyH_ready (rs := [18]) (by kernel_rfl) (by simp) ?_
    refine AllReadyH.cons rfl (fun K hK => ?_) AllReadyH.nil
    go_simp
    (go_at_call 55; (with_reducible refine (HTK.out _).mono ?_); rintro e w2 ⟨v2, rfl, hown2, hb2⟩; obtain ⟨b2, o2, cap2, rfl, hca, hcb, hblt, hcells⟩ := (Rd.own hown2).pos (by show 0 < 2; omega) (by omega); have hB2 : Below w0.heap.size w0 w2 := into (by go_grown) hb2; have hzz := hB2.size)
    go_wp2_with fail
    refine hK.out _ _ ?_ (fun hHeld => ?_)
    · (try dsimp only)
      (refine ⟨?_, ?_, ?_⟩ <;> (first | exact (hb4.cell (by show P < _; omega)).trans p2 | exact (hb4.cell (by show b < _; omega)).trans g0 | exact (hb4.cell (by show b < _; omega)).trans g1 | (repeat' (first | (with_reducible assumption) | (with_reducible refine cell_dr ?_) | (with_reducible refine cell_al _ ?_) | (with_reducible refine cell_of_below hb2 ?_)))))
    clear hK K
    (try simp only [Act.put, List.setIfInBounds_toArray, List.set_cons_zero, List.set_cons_succ])
    refine wpAnyH_ready (rs := [19]) (by kernel_rfl) (by simp) ?_
    refine AllReadyH.cons rfl (fun K hK => ?_) AllReadyH.nil
    refine step_append_lies _ (by rfl) _ _ _ (by rfl) B 39 i9 _ 3 32 Tryd.underlying32 hi0 hz0 hz1 hz2 rfl (by omega) u q (tkc L) (by rfl) (own_below hown.out hB2) ⟨b2, o2, none⟩ 2 cap2 (tkc [x, y]) (by rfl) (by rfl) (fun j uu hu => by rw [Addr.add_lit]; exact hcells j uu hu) (tkc_one _) (by omega) (by unfold maxLen; omega) (by omega) (by omega) w2.heap.size rfl ?_
    intro gg cap1 w4 hown4 hgrow hat4 hlt4
    have hb4 : Below B w0 w4 := (hB2.mono hB).trans ((Below.refl _ w2).grown hgrow (by omega) (own_ge (own_below hown.out hB2)))
    refine hK.out _ _ ?_ (fun hHeld => ?_)
    · (try dsimp only)
      (refine ⟨?_, ?_, ?_⟩ <;> (first | exact (hb4.cell (by show P < _; omega)).trans p2 | exact (hb4.cell (by show b < _; omega)).trans g0 | exact (hb4.cell (by show b < _; omega)).trans g1 | (repeat' (first | (with_reducible assumption) | (with_reducible refine cell_dr ?_) | (with_reducible refine cell_al _ ?_) | (with_reducible refine cell_of_below hb2 ?_)))))
    clear hK K
    (try simp only [Act.put, List.setIfInBounds_toArray, List.set_cons_zero, List.set_cons_succ])
    refine wpAnyH_take (i := 20) (oi := _) (v := ?_) rfl (by kernel_rfl) (by kernel_rfl) (by kernel_rfl) (fun _ _ _ h => h) (Or.inl ⟨by rfl, ?_⟩) (by assumption) ?_
    rotate_left
    · (intro w hSw; (try dsimp only at hSw); go_simp)
      all_goals (with_reducible rfl)
    (try simp only [Act.put, List.setIfInBounds_toArray, List.set_cons_zero, List.set_cons_succ])
    refine wpAnyH_done (by kernel_rfl) ?_ _
    exact hout.out _ _ _ _ _ _ _ _ _ _ _ _ _ _ _ _ _ _ _ _ _ _ hown4 hb4
  · refine Code.wp_mono (Q := NQ Q) nq_to ?_
    conv => arg 2; whnf
    refine wp_region_held_drew (S := (fun wx => wx.cell? ⟨P, 2, none⟩ = some (.slice (some ⟨b, o, none⟩) n cap) ∧ wx.cell? ⟨b, o + k * 2, none⟩ = some (.string t) ∧ wx.cell? ⟨b, o + k * 2 + 1, none⟩ = some (.int .i64 ((2 : Nat) : Int)))) (by kernel_rfl) ?_ (fun hHeld => ?_)
    · (try dsimp only)
      (refine ⟨?_, ?_, ?_⟩ <;> (first | exact (hb4.cell (by show P < _; omega)).trans p2 | exact (hb4.cell (by show b < _; omega)).trans g0 | exact (hb4.cell (by show b < _; omega)).trans g1 | (repeat' (first | (with_reducible assumption) | (with_reducible refine cell_dr ?_) | (with_reducible refine cell_al _ ?_) | (with_reducible refine cell_of_below hb2 ?_)))))
    refine wpAnyH_take (i := 0) (oi := _) (v := ?_) rfl (by kernel_rfl) (by kernel_rfl) (by kernel_rfl) (fun _ _ _ h => h) (Or.inl ⟨by rfl, ?_⟩) (by assumption) ?_
    rotate_left
    · (intro w hSw; (try dsimp only at hSw); go_simp)
      all_goals (with_reducible rfl)
    (try simp only [Act.put, List.setIfInBounds_toArray, List.set_cons_zero, List.set_cons_succ])
    refine wpAnyH_take (i := 1) (oi := _) (v := ?_) rfl (by kernel_rfl) (by kernel_rfl) (by kernel_rfl) (fun _ _ _ h => h) (Or.inl ⟨by rfl, ?_⟩) (by assumption) ?_
    rotate_left
    · (intro w hSw; (try dsimp only at hSw); go_simp)
      all_goals (with_reducible rfl)
    (try simp only [Act.put, List.setIfInBounds_toArray, List.set_cons_zero, List.set_cons_succ])
    refine wpAnyH_take (i := 2) (oi := _) (v := ?_) rfl (by kernel_rfl) (by kernel_rfl) (by kernel_rfl) (fun _ _ _ h => h) (Or.inl ⟨by rfl, ?_⟩) (by assumption) ?_
    rotate_left
    · (intro w hSw; (try dsimp only at hSw); go_simp)
      all_goals (with_reducible rfl)
    (try simp only [Act.put, List.setIfInBounds_toArray, List.set_cons_zero, List.set_cons_succ])
    refine wpAnyH_take (i := 3) (oi := _) (v := ?_) rfl (by kernel_rfl) (by kernel_rfl) (by kernel_rfl) (fun _ _ _ h => h) (Or.inl ⟨by rfl, ?_⟩) (by assumption) ?_
    rotate_left
    · (intro w hSw; (try dsimp only at hSw); go_simp)
      all_goals (with_reducible rfl)
    (try simp only [Act.put, List.setIfInBounds_toArray, List.set_cons_zero, List.set_cons_succ])
    refine wpAnyH_take (i := 4) (oi := _) (v := ?_) rfl (by kernel_rfl) (by kernel_rfl) (by kernel_rfl) (fun _ _ _ h => h) (Or.inl ⟨by rfl, ?_⟩) (by assumption) ?_
    rotate_left
    · (intro w hSw; (try dsimp only at hSw); go_simp)
      all_goals (with_reducible rfl)
    (try simp only [Act.put, List.setIfInBounds_toArray, List.set_cons_zero, List.set_cons_succ])
    refine wpAnyH_take (i := 5) (oi := _) (v := ?_) rfl (by kernel_rfl) (by kernel_rfl) (by kernel_rfl) (fun _ _ _ h => h) (Or.inl ⟨by rfl, ?_⟩) (by assumption) ?_
    rotate_left
    · (intro w hSw; (try dsimp only at hSw); go_simp)
      all_goals (with_reducible rfl)
    (try simp only [Act.put, List.setIfInBounds_toArray, List.set_cons_zero, List.set_cons_succ])
    refine wpAnyH_take (i := 6) (oi := _) (v := ?_) rfl (by kernel_rfl) (by kernel_rfl) (by kernel_rfl) (fun _ _ _ h => h) (Or.inl ⟨by rfl, ?_⟩) (by assumption) ?_
    rotate_left
    · (intro w hSw; (try dsimp only at hSw); go_simp)
      all_goals (with_reducible rfl)
    (try simp only [Act.put, List.setIfInBounds_toArray, List.set_cons_zero, List.set_cons_succ])
    refine wpAnyH_take (i := 7) (oi := _) (v := ?_) rfl (by kernel_rfl) (by kernel_rfl) (by kernel_rfl) (fun _ _ _ h => h) (Or.inl ⟨by rfl, ?_⟩) (by assumption) ?_
    rotate_left
    · (intro w hSw; (try dsimp only at hSw); go_simp)
      all_goals (with_reducible rfl)
    (try simp only [Act.put, List.setIfInBounds_toArray, List.set_cons_zero, List.set_cons_succ])
    refine wpAnyH_take (i := 9) (oi := _) (v := ?_) rfl (by kernel_rfl) (by kernel_rfl) (by kernel_rfl) (fun _ _ _ h => h) (Or.inl ⟨by rfl, ?_⟩) (by assumption) ?_
    rotate_left
    · (intro w hSw; (try dsimp only at hSw); go_simp)
      all_goals (with_reducible rfl)
    (try simp only [Act.put, List.setIfInBounds_toArray, List.set_cons_zero, List.set_cons_succ])
    refine wpAnyH_take (i := 10) (oi := _) (v := ?_) rfl (by kernel_rfl) (by kernel_rfl) (by kernel_rfl) (fun _ _ _ h => h) (Or.inl ⟨by rfl, ?_⟩) (by assumption) ?_
    rotate_left
    · (intro w hSw; (try dsimp only at hSw); go_simp)
      all_goals (with_reducible rfl)
    (try simp only [Act.put, List.setIfInBounds_toArray, List.set_cons_zero, List.set_cons_succ])
    refine wpAnyH_take (i := 11) (oi := _) (v := ?_) rfl (by kernel_rfl) (by kernel_rfl) (by kernel_rfl) (fun _ _ _ h => h) (Or.inl ⟨by rfl, ?_⟩) (by assumption) ?_
    rotate_left
    · (intro w hSw; (try dsimp only at hSw); go_simp)
      all_goals (with_reducible rfl)
    (try simp only [Act.put, List.setIfInBounds_toArray, List.set_cons_zero, List.set_cons_succ])
    refine wpAnyH_take (i := 12) (oi := _) (v := ?_) rfl (by kernel_rfl) (by kernel_rfl) (by kernel_rfl) (fun _ _ _ h => h) (Or.inl ⟨by rfl, ?_⟩) (by assumption) ?_
    rotate_left
    · (intro w hSw; (try dsimp only at hSw); go_simp)
      all_goals (with_reducible rfl)
    (try simp only [Act.put, List.setIfInBounds_toArray, List.set_cons_zero, List.set_cons_succ])
    refine wpAnyH_take (i := 13) (oi := _) (v := ?_) rfl (by kernel_rfl) (by kernel_rfl) (by kernel_rfl) (fun _ _ _ h => h) (Or.inl ⟨by rfl, ?_⟩) (by assumption) ?_
    rotate_left
    · (intro w hSw; (try dsimp only at hSw); go_simp)
      all_goals (with_reducible rfl)
    (try simp only [Act.put, List.setIfInBounds_toArray, List.set_cons_zero, List.set_cons_succ])
    refine wpAnyH_take (i := 14) (oi := _) (v := ?_) rfl (by kernel_rfl) (by kernel_rfl) (by kernel_rfl) (fun _ _ _ h => h) (Or.inl ⟨by rfl, ?_⟩) (by assumption) ?_
    rotate_left
    · (intro w hSw; (try dsimp only at hSw); go_simp)
      all_goals (with_reducible rfl)
    (try simp only [Act.put, List.setIfInBounds_toArray, List.set_cons_zero, List.set_cons_succ])
    refine wpAnyH_ready (rs := [8]) (by kernel_rfl) (by simp) ?_
    refine AllReadyH.cons rfl (fun K hK => ?_) AllReadyH.nil
    go_simp
    refine hK.out _ _ ?_ (fun hHeld => ?_)
    · (try dsimp only)
      (refine ⟨?_, ?_, ?_⟩ <;> (first | exact (hb4.cell (by show P < _; omega)).trans p2 | exact (hb4.cell (by show b < _; omega)).trans g0 | exact (hb4.cell (by show b < _; omega)).trans g1 | (repeat' (first | (with_reducible assumption) | (with_reducible refine cell_dr ?_) | (with_reducible refine cell_al _ ?_) | (with_reducible refine cell_of_below hb2 ?_)))))
    clear hK K
    (try simp only [Act.put, List.setIfInBounds_toArray, List.set_cons_zero, List.set_cons_succ])
    refine wpAnyH_take (i := 15) (oi := _) (v := ?_) rfl (by kernel_rfl) (by kernel_rfl) (by kernel_rfl) (fun _ _ _ h => h) (Or.inl ⟨by rfl, ?_⟩) (by assumption) ?_
    rotate_left
    · (intro w hSw; (try dsimp only at hSw); go_simp)
      all_goals (with_reducible rfl)
    (try simp only [Act.put, List.setIfInBounds_toArray, List.set_cons_zero, List.set_cons_succ])
    refine wpAnyH_ready (rs := [16]) (by kernel_rfl) (by simp) ?_
    refine AllReadyH.cons rfl (fun K hK => ?_) AllReadyH.nil
    go_simp
    refine hK.out _ _ ?_ (fun hHeld => ?_)
    · (try dsimp only)
      (refine ⟨?_, ?_, ?_⟩ <;> (first | exact (hb4.cell (by show P < _; omega)).trans p2 | exact (hb4.cell (by show b < _; omega)).trans g0 | exact (hb4.cell (by show b < _; omega)).trans g1 | (repeat' (first | (with_reducible assumption) | (with_reducible refine cell_dr ?_) | (with_reducible refine cell_al _ ?_) | (with_reducible refine cell_of_below hb2 ?_)))))
    clear hK K
    (try simp only [Act.put, List.setIfInBounds_toArray, List.set_cons_zero, List.set_cons_succ])
    refine wpAnyH_take (i := 17) (oi := _) (v := ?_) rfl (by kernel_rfl) (by kernel_rfl) (by kernel_rfl) (fun _ _ _ h => h) (Or.inl ⟨by rfl, ?_⟩) (by assumption) ?_
    rotate_left
    · (intro w hSw; (try dsimp only at hSw); go_simp)
      all_goals (with_reducible rfl)
    (try simp only [Act.put, List.setIfInBounds_toArray, List.set_cons_zero, List.set_cons_succ])
    refine wpAnyH_ready (rs := [18]) (by kernel_rfl) (by simp) ?_
    refine AllReadyH.cons rfl (fun K hK => ?_) AllReadyH.nil
    go_simp
    (go_at_call 55; (with_reducible refine (HTK.out _).mono ?_); rintro e w2 ⟨v2, rfl, hown2, hb2⟩; obtain ⟨b2, o2, cap2, rfl, hca, hcb, hblt, hcells⟩ := (Rd.own hown2).pos (by show 0 < 2; omega) (by omega); have hB2 : Below w0.heap.size w0 w2 := into (by go_grown) hb2; have hzz := hB2.size)
    go_wp2_with fail
    refine hK.out _ _ ?_ (fun hHeld => ?_)
    · (try dsimp only)
      (refine ⟨?_, ?_, ?_⟩ <;> (first | exact (hb4.cell (by show P < _; omega)).trans p2 | exact (hb4.cell (by show b < _; omega)).trans g0 | exact (hb4.cell (by show b < _; omega)).trans g1 | (repeat' (first | (with_reducible assumption) | (with_reducible refine cell_dr ?_) | (with_reducible refine cell_al _ ?_) | (with_reducible refine cell_of_below hb2 ?_)))))
    clear hK K
    (try simp only [Act.put, List.setIfInBounds_toArray, List.set_cons_zero, List.set_cons_succ])
    refine wpAnyH_ready (rs := [19]) (by kernel_rfl) (by simp) ?_
    refine AllReadyH.cons rfl (fun K hK => ?_) AllReadyH.nil
    refine step_append_lies _ (by rfl) _ _ _ (by rfl) B 39 i9 _ 3 32 Tryd.underlying32 hi0 hz0 hz1 hz2 rfl (by omega) u q (tkc L) (by rfl) (own_below hown.out hB2) ⟨b2, o2, none⟩ 2 cap2 (tkc [x, y]) (by rfl) (by rfl) (fun j uu hu => by rw [Addr.add_lit]; exact hcells j uu hu) (tkc_one _) (by omega) (by unfold maxLen; omega) (by omega) (by omega) w2.heap.size rfl ?_
    intro gg cap1 w4 hown4 hgrow hat4 hlt4
    have hb4 : Below B w0 w4 := (hB2.mono hB).trans ((Below.refl _ w2).grown hgrow (by omega) (own_ge (own_below hown.out hB2)))
    refine hK.out _ _ ?_ (fun hHeld => ?_)
    · (try dsimp only)
      (refine ⟨?_, ?_, ?_⟩ <;> (first | exact (hb4.cell (by show P < _; omega)).trans p2 | exact (hb4.cell (by show b < _; omega)).trans g0 | exact (hb4.cell (by show b < _; omega)).trans g1 | (repeat' (first | (with_reducible assumption) | (with_reducible refine cell_dr ?_) | (with_reducible refine cell_al _ ?_) | (with_reducible refine cell_of_below hb2 ?_)))))
    clear hK K
    (try simp only [Act.put, List.setIfInBounds_toArray, List.set_cons_zero, List.set_cons_succ])
    refine wpAnyH_take (i := 20) (oi := _) (v := ?_) rfl (by kernel_rfl) (by kernel_rfl) (by kernel_rfl) (fun _ _ _ h => h) (Or.inl ⟨by rfl, ?_⟩) (by assumption) ?_
    rotate_left
    · (intro w hSw; (try dsimp only at hSw); go_simp)
      all_goals (with_reducible rfl)
    (try simp only [Act.put, List.setIfInBounds_toArray, List.set_cons_zero, List.set_cons_succ])
    refine wpAnyH_done (by kernel_rfl) ?_ _
    exact hout.out _ _ _ _ _ _ _ _ _ _ _ _ _ _ _ _ _ _ _ _ _ _ hown4 hb4
  · refine Code.wp_mono (Q := NQ Q) nq_to ?_
    conv => arg 2; whnf
    refine wp_region_held_drew (S := (fun wx => wx.cell? ⟨P, 2, none⟩ = some (.slice (some ⟨b, o, none⟩) n cap) ∧ wx.cell? ⟨b, o + k * 2, none⟩ = some (.string t) ∧ wx.cell? ⟨b, o + k * 2 + 1, none⟩ = some (.int .i64 ((3 : Nat) : Int)))) (by kernel_rfl) ?_ (fun hHeld => ?_)
    · (try dsimp only)
      (refine ⟨?_, ?_, ?_⟩ <;> (first | exact (hb4.cell (by show P < _; omega)).trans p2 | exact (hb4.cell (by show b < _; omega)).trans g0 | exact (hb4.cell (by show b < _; omega)).trans g1 | (repeat' (first | (with_reducible assumption) | (with_reducible refine cell_dr ?_) | (with_reducible refine cell_al _ ?_) | (with_reducible refine cell_of_below hb2 ?_)))))
    refine wpAnyH_take (i := 0) (oi := _) (v := ?_) rfl (by kernel_rfl) (by kernel_rfl) (by kernel_rfl) (fun _ _ _ h => h) (Or.inl ⟨by rfl, ?_⟩) (by assumption) ?_
    rotate_left
    · (intro w hSw; (try dsimp only at hSw); go_simp)
      all_goals (with_reducible rfl)
    (try simp only [Act.put, List.setIfInBounds_toArray, List.set_cons_zero, List.set_cons_succ])
    refine wpAnyH_take (i := 1) (oi := _) (v := ?_) rfl (by kernel_rfl) (by kernel_rfl) (by kernel_rfl) (fun _ _ _ h => h) (Or.inl ⟨by rfl, ?_⟩) (by assumption) ?_
    rotate_left
    · (intro w hSw; (try dsimp only at hSw); go_simp)
      all_goals (with_reducible rfl)
    (try simp only [Act.put, List.setIfInBounds_toArray, List.set_cons_zero, List.set_cons_succ])
    refine wpAnyH_take (i := 2) (oi := _) (v := ?_) rfl (by kernel_rfl) (by kernel_rfl) (by kernel_rfl) (fun _ _ _ h => h) (Or.inl ⟨by rfl, ?_⟩) (by assumption) ?_
    rotate_left
    · (intro w hSw; (try dsimp only at hSw); go_simp)
      all_goals (with_reducible rfl)
    (try simp only [Act.put, List.setIfInBounds_toArray, List.set_cons_zero, List.set_cons_succ])
    refine wpAnyH_take (i := 3) (oi := _) (v := ?_) rfl (by kernel_rfl) (by kernel_rfl) (by kernel_rfl) (fun _ _ _ h => h) (Or.inl ⟨by rfl, ?_⟩) (by assumption) ?_
    rotate_left
    · (intro w hSw; (try dsimp only at hSw); go_simp)
      all_goals (with_reducible rfl)
    (try simp only [Act.put, List.setIfInBounds_toArray, List.set_cons_zero, List.set_cons_succ])
    refine wpAnyH_take (i := 4) (oi := _) (v := ?_) rfl (by kernel_rfl) (by kernel_rfl) (by kernel_rfl) (fun _ _ _ h => h) (Or.inl ⟨by rfl, ?_⟩) (by assumption) ?_
    rotate_left
    · (intro w hSw; (try dsimp only at hSw); go_simp)
      all_goals (with_reducible rfl)
    (try simp only [Act.put, List.setIfInBounds_toArray, List.set_cons_zero, List.set_cons_succ])
    refine wpAnyH_take (i := 5) (oi := _) (v := ?_) rfl (by kernel_rfl) (by kernel_rfl) (by kernel_rfl) (fun _ _ _ h => h) (Or.inl ⟨by rfl, ?_⟩) (by assumption) ?_
    rotate_left
    · (intro w hSw; (try dsimp only at hSw); go_simp)
      all_goals (with_reducible rfl)
    (try simp only [Act.put, List.setIfInBounds_toArray, List.set_cons_zero, List.set_cons_succ])
    refine wpAnyH_take (i := 6) (oi := _) (v := ?_) rfl (by kernel_rfl) (by kernel_rfl) (by kernel_rfl) (fun _ _ _ h => h) (Or.inl ⟨by rfl, ?_⟩) (by assumption) ?_
    rotate_left
    · (intro w hSw; (try dsimp only at hSw); go_simp)
      all_goals (with_reducible rfl)
    (try simp only [Act.put, List.setIfInBounds_toArray, List.set_cons_zero, List.set_cons_succ])
    refine wpAnyH_take (i := 7) (oi := _) (v := ?_) rfl (by kernel_rfl) (by kernel_rfl) (by kernel_rfl) (fun _ _ _ h => h) (Or.inl ⟨by rfl, ?_⟩) (by assumption) ?_
    rotate_left
    · (intro w hSw; (try dsimp only at hSw); go_simp)
      all_goals (with_reducible rfl)
    (try simp only [Act.put, List.setIfInBounds_toArray, List.set_cons_zero, List.set_cons_succ])
    refine wpAnyH_take (i := 9) (oi := _) (v := ?_) rfl (by kernel_rfl) (by kernel_rfl) (by kernel_rfl) (fun _ _ _ h => h) (Or.inl ⟨by rfl, ?_⟩) (by assumption) ?_
    rotate_left
    · (intro w hSw; (try dsimp only at hSw); go_simp)
      all_goals (with_reducible rfl)
    (try simp only [Act.put, List.setIfInBounds_toArray, List.set_cons_zero, List.set_cons_succ])
    refine wpAnyH_take (i := 10) (oi := _) (v := ?_) rfl (by kernel_rfl) (by kernel_rfl) (by kernel_rfl) (fun _ _ _ h => h) (Or.inl ⟨by rfl, ?_⟩) (by assumption) ?_
    rotate_left
    · (intro w hSw; (try dsimp only at hSw); go_simp)
      all_goals (with_reducible rfl)
    (try simp only [Act.put, List.setIfInBounds_toArray, List.set_cons_zero, List.set_cons_succ])
    refine wpAnyH_take (i := 11) (oi := _) (v := ?_) rfl (by kernel_rfl) (by kernel_rfl) (by kernel_rfl) (fun _ _ _ h => h) (Or.inl ⟨by rfl, ?_⟩) (by assumption) ?_
    rotate_left
    · (intro w hSw; (try dsimp only at hSw); go_simp)
      all_goals (with_reducible rfl)
    (try simp only [Act.put, List.setIfInBounds_toArray, List.set_cons_zero, List.set_cons_succ])
    refine wpAnyH_take (i := 12) (oi := _) (v := ?_) rfl (by kernel_rfl) (by kernel_rfl) (by kernel_rfl) (fun _ _ _ h => h) (Or.inl ⟨by rfl, ?_⟩) (by assumption) ?_
    rotate_left
    · (intro w hSw; (try dsimp only at hSw); go_simp)
      all_goals (with_reducible rfl)
    (try simp only [Act.put, List.setIfInBounds_toArray, List.set_cons_zero, List.set_cons_succ])
    refine wpAnyH_take (i := 13) (oi := _) (v := ?_) rfl (by kernel_rfl) (by kernel_rfl) (by kernel_rfl) (fun _ _ _ h => h) (Or.inl ⟨by rfl, ?_⟩) (by assumption) ?_
    rotate_left
    · (intro w hSw; (try dsimp only at hSw); go_simp)
      all_goals (with_reducible rfl)
    (try simp only [Act.put, List.setIfInBounds_toArray, List.set_cons_zero, List.set_cons_succ])
    refine wpAnyH_take (i := 14) (oi := _) (v := ?_) rfl (by kernel_rfl) (by kernel_rfl) (by kernel_rfl) (fun _ _ _ h => h) (Or.inl ⟨by rfl, ?_⟩) (by assumption) ?_
    rotate_left
    · (intro w hSw; (try dsimp only at hSw); go_simp)
      all_goals (with_reducible rfl)
    (try simp only [Act.put, List.setIfInBounds_toArray, List.set_cons_zero, List.set_cons_succ])
    refine wpAnyH_ready (rs := [8]) (by kernel_rfl) (by simp) ?_
    refine AllReadyH.cons rfl (fun K hK => ?_) AllReadyH.nil
    go_simp
    refine hK.out _ _ ?_ (fun hHeld => ?_)
    · (try dsimp only)
      (refine ⟨?_, ?_, ?_⟩ <;> (first | exact (hb4.cell (by show P < _; omega)).trans p2 | exact (hb4.cell (by show b < _; omega)).trans g0 | exact (hb4.cell (by show b < _; omega)).trans g1 | (repeat' (first | (with_reducible assumption) | (with_reducible refine cell_dr ?_) | (with_reducible refine cell_al _ ?_) | (with_reducible refine cell_of_below hb2 ?_)))))
    clear hK K
    (try simp only [Act.put, List.setIfInBounds_toArray, List.set_cons_zero, List.set_cons_succ])
    refine wpAnyH_take (i := 15) (oi := _) (v := ?_) rfl (by kernel_rfl) (by kernel_rfl) (by kernel_rfl) (fun _ _ _ h => h) (Or.inl ⟨by rfl, ?_⟩) (by assumption) ?_
    rotate_left
    · (intro w hSw; (try dsimp only at hSw); go_simp)
      all_goals (with_reducible rfl)
    (try simp only [Act.put, List.setIfInBounds_toArray, List.set_cons_zero, List.set_cons_succ])
    refine wpAnyH_ready (rs := [16]) (by kernel_rfl) (by simp) ?_
    refine AllReadyH.cons rfl (fun K hK => ?_) AllReadyH.nil
    go_simp
    refine hK.out _ _ ?_ (fun hHeld => ?_)
    · (try dsimp only)
      (refine ⟨?_, ?_, ?_⟩ <;> (first | exact (hb4.cell (by show P < _; omega)).trans p2 | exact (hb4.cell (by show b < _; omega)).trans g0 | exact (hb4.cell (by show b < _; omega)).trans g1 | (repeat' (first | (with_reducible assumption) | (with_reducible refine cell_dr ?_) | (with_reducible refine cell_al _ ?_) | (with_reducible refine cell_of_below hb2 ?_)))))
    clear hK K
    (try simp only [Act.put, List.setIfInBounds_toArray, List.set_cons_zero, List.set_cons_succ])
    refine wpAnyH_take (i := 17) (oi := _) (v := ?_) rfl (by kernel_rfl) (by kernel_rfl) (by kernel_rfl) (fun _ _ _ h => h) (Or.inl ⟨by rfl, ?_⟩) (by assumption) ?_
    rotate_left
    · (intro w hSw; (try dsimp only at hSw); go_simp)
      all_goals (with_reducible rfl)
    (try simp only [Act.put, List.setIfInBounds_toArray, List.set_cons_zero, List.set_cons_succ])
    refine wpAnyH_ready (rs := [18]) (by kernel_rfl) (by simp) ?_
    refine AllReadyH.cons rfl (fun K hK => ?_) AllReadyH.nil
    go_simp
    (go_at_call 55; (with_reducible refine (HTK.out _).mono ?_); rintro e w2 ⟨v2, rfl, hown2, hb2⟩; obtain ⟨b2, o2, cap2, rfl, hca, hcb, hblt, hcells⟩ := (Rd.own hown2).pos (by show 0 < 2; omega) (by omega); have hB2 : Below w0.heap.size w0 w2 := into (by go_grown) hb2; have hzz := hB2.size)
    go_wp2_with fail
    refine hK.out _ _ ?_ (fun hHeld => ?_)
    · (try dsimp only)
      (refine ⟨?_, ?_, ?_⟩ <;> (first | exact (hb4.cell (by show P < _; omega)).trans p2 | exact (hb4.cell (by show b < _; omega)).trans g0 | exact (hb4.cell (by show b < _; omega)).trans g1 | (repeat' (first | (with_reducible assumption) | (with_reducible refine cell_dr ?_) | (with_reducible refine cell_al _ ?_) | (with_reducible refine cell_of_below hb2 ?_)))))
    clear hK K
    (try simp only [Act.put, List.setIfInBounds_toArray, List.set_cons_zero, List.set_cons_succ])
    refine wpAnyH_ready (rs := [19]) (by kernel_rfl) (by simp) ?_
    refine AllReadyH.cons rfl (fun K hK => ?_) AllReadyH.nil
    refine step_append_lies _ (by rfl) _ _ _ (by rfl) B 39 i9 _ 3 32 Tryd.underlying32 hi0 hz0 hz1 hz2 rfl (by omega) u q (tkc L) (by rfl) (own_below hown.out hB2) ⟨b2, o2, none⟩ 2 cap2 (tkc [x, y]) (by rfl) (by rfl) (fun j uu hu => by rw [Addr.add_lit]; exact hcells j uu hu) (tkc_one _) (by omega) (by unfold maxLen; omega) (by omega) (by omega) w2.heap.size rfl ?_
    intro gg cap1 w4 hown4 hgrow hat4 hlt4
    have hb4 : Below B w0 w4 := (hB2.mono hB).trans ((Below.refl _ w2).grown hgrow (by omega) (own_ge (own_below hown.out hB2)))
    refine hK.out _ _ ?_ (fun hHeld => ?_)
    · (try dsimp only)
      (refine ⟨?_, ?_, ?_⟩ <;> (first | exact (hb4.cell (by show P < _; omega)).trans p2 | exact (hb4.cell (by show b < _; omega)).trans g0 | exact (hb4.cell (by show b < _; omega)).trans g1 | (repeat' (first | (with_reducible assumption) | (with_reducible refine cell_dr ?_) | (with_reducible refine cell_al _ ?_) | (with_reducible refine cell_of_below hb2 ?_)))))
    clear hK K
    (try simp only [Act.put, List.setIfInBounds_toArray, List.set_cons_zero, List.set_cons_succ])
    refine wpAnyH_take (i := 20) (oi := _) (v := ?_) rfl (by kernel_rfl) (by kernel_rfl) (by kernel_rfl) (fun _ _ _ h => h) (Or.inl ⟨by rfl, ?_⟩) (by assumption) ?_
    rotate_left
    · (intro w hSw; (try dsimp only at hSw); go_simp)
      all_goals (with_reducible rfl)
    (try simp only [Act.put, List.setIfInBounds_toArray, List.set_cons_zero, List.set_cons_succ])
    refine wpAnyH_done (by kernel_rfl) ?_ _
    exact hout.out _ _ _ _ _ _ _ _ _ _ _ _ _ _ _ _ _ _ _ _ _ _ hown4 hb4
end Go.Proofs.YtnheepkmaibofaaDoor

/- Tokens in memory; a statement cut: the program. -/
import Derived.Test.YtfoilmhpoipmpaaDoorSq
namespace Go.Proofs.YtfoilmhpoipmpaaDoor
open Go.ChangeShapes Go.WideShapes Go.ChangeAt Go.RowKit
set_option linter.unusedVariables false
set_option linter.unusedSimpArgs false
set_option maxHeartbeats 1000000
theorem Tryd.info29 : (Tryd.prog.info? 29).map (fun i => (i.zero, i.size, i.bytes)) = some (some (.agg #[.int .i64 0, .string ⟨#[]⟩, .int .i64 0]), 3, 32) := by kernel_rfl
/-- The cells of tokens. -/
def tkc : List Tk → List Value
  | [] => []
  | x :: l => .int .i64 x.k :: .string ⟨x.t.toArray⟩ :: .int .i64 x.n :: tkc l
theorem tkc_app : ∀ l m : List Tk, tkc (l ++ m) = tkc l ++ tkc m
  | [], _ => rfl
  | x :: l, m => by simp [tkc, tkc_app l m]
theorem tkc_length : ∀ l : List Tk, (tkc l).length = l.length * 3
  | [] => rfl
  | x :: l => by simp [tkc, tkc_length l]; omega
theorem tkc_one : ∀ (l : List Tk), ∀ u ∈ tkc l, u.oneCell' = true
  | [], u, hu => by simp [tkc] at hu
  | x :: l, u, hu => by
    simp only [tkc, List.mem_cons] at hu
    rcases hu with rfl | rfl | rfl | hu
    · rfl
    · rfl
    · rfl
    · exact tkc_one l u hu
theorem tkc_at : ∀ {l : List Tk} {k : Nat}, k < l.length → (tkc l)[k * 3]? = some (.int .i64 (l.getD k tk0).k) ∧ (tkc l)[k * 3 + 1]? = some (.string ⟨(l.getD k tk0).t.toArray⟩) ∧ (tkc l)[k * 3 + 2]? = some (.int .i64 (l.getD k tk0).n)
  | [], k, h => by simp at h
  | v :: l, 0, _ => by simp [tkc]
  | v :: l, k + 1, h => by
    have ih := tkc_at (l := l) (k := k) (by simpa using h)
    have e : (k + 1) * 3 = k * 3 + 1 + 1 + 1 := by omega
    rw [e]
    simpa [tkc] using ih
section
variable {ops : Array Oper} {rest : List Oper} {o : Oper} {a : Act} {Q : Exit → Act → World → Prop}
/-- 'append(l, t)' of a token. -/
theorem apt (w : World) (hgd : o.guard = none) (s x : Operand) (ho : o.op = .call { callee := .builtin .append, args := #[s, x], argTypes := #[22, 22] })
    {B n : Nat} {v : Value} {xs : List Value} (hown : w.ownsRow B 29 3 v n xs) (hB : B ≤ w.heap.size) (hn : n ≤ 1000000) {i j : Int} {t : ByteArray}
    (H : Nat) (hH : w.heap.size = H) (hs : a.eval s = v) (hx : a.eval x = .slice (some ⟨H, 0, none⟩) 1 1)
    (h : ∀ v' w', w'.ownsRow B 29 3 v' (n + 1) (xs ++ [.int .i64 i, .string t, .int .i64 j]) → Below B w w' → w.grownBy w' v.ownBlock → wpList Tryd.prog ops Q rest (a.put o.dst v') w') :
    wpList Tryd.prog ops Q (o :: rest) a (w.alloc (.cells #[.int .i64 i, .string t, .int .i64 j] 29)) := by
  subst hH
  obtain ⟨i0, hi, hz0, hz1, hz2⟩ := info_parts Tryd.info29
  refine wpList_append_own_at _ hgd s x _ ho B 29 i0 _ 3 32 Tryd.underlying22 hi hz0 hz1 hz2 rfl (by decide) v n xs hs (hown.alloc _) _ 1 1 [.int .i64 i, .string t, .int .i64 j] hx rfl (new_cells w [.int .i64 i, .string t, .int .i64 j] _) (by intro u hu; simp at hu; rcases hu with rfl | rfl | rfl <;> rfl) (by unfold maxLen; omega) (by omega) (by simp; omega) ?_
  intro v' w' h1 h2 h3 h4
  have hg : w.grownBy w' v.ownBlock := (World.grownBy_alloc w _ _).trans h2
  exact h v' w' h1 ((Below.refl B w).grown hg hB (own_ge hown)) hg
end
/-- What Cut answers. -/
def CutIs (w0 : World) (c : Cuts) (e : Ending) (w' : World) : Prop :=
  ∃ v, e = .returned (.tuple #[v, .int .i64 (c.at_ : Int), .int .i64 c.e]) ∧ Rd w' 3 c.l.length v (tkc c.l) ∧ Below w0.heap.size w0 w'
theorem cut_long (w : World) (s : ByteArray) (h : 400 < s.size) (hs : s.size ≤ maxLen) : Calls Tryd.prog 11 #[.string s] w (CutIs w (cutL s.data.toList)) := by
  have HC : Hid (cutL s.data.toList = ⟨[], 0, 1⟩) := if_pos (by rw [len_size]; exact h)
  unfold maxLen at hs
  go_enter Tryd.func11, Tryd.ntmps11
  go_wp2
  go_returns
  rw [HC.out]
  exact ⟨_, rfl, Rd.nil _ _, Below.refl _ _⟩
theorem ext_from (s : ByteArray) (n : Nat) : (s.extract n s.size).data.toList = s.data.toList.drop n := by
  rw [Lib.extract_data, ← len_size]
  rw [List.take_of_length_le (by rw [List.length_drop]; exact Nat.le_refl _)]
theorem below_from {w wr : World} {o : Obj} (h : Below (w.heap.size + 1) (w.alloc o) wr) : Below (w.alloc o).heap.size (w.alloc o) wr := by rw [World.size_alloc]; exact h
/-- The state of Cut at a round's head. -/
structure CutAt (w wr : World) (l : List UInt8) (n : Nat) (i : Nat) (v : Value) (acc : List Tk) : Prop where
  len : acc.length ≤ 100
  head : i < n → bk (l.getD i 0) = false
  same : cutW l 0 [] = cutW l i acc
  own : wr.ownsRow (w.heap.size + 1) 29 3 v acc.length (tkc acc)
  below : Below (w.heap.size + 1) (w.alloc (.cells #[.string blanks] 9)) wr
theorem CutAt.start {w : World} {l : List UInt8} {n : Nat} (hn : n = l.length) : CutAt w (w.alloc (.cells #[.string blanks] 9)) l n (spn bk l) (.slice none 0 0) [] := by
  refine ⟨by simp, fun h => ?_, ?_, World.ownsRow_nil _ _ _ _, Below.refl _ _⟩
  · exact spn_out bk l (by omega)
  · have := cutW_skip l (spn bk l) 0 [] (by rw [List.drop_zero]; exact Nat.le_refl _)
    rwa [Nat.zero_add] at this
theorem CutAt.next {w wr w3 : World} {l : List UInt8} {n k : Nat} {v v' : Value} {acc : List Tk} {x : Tk} {m : Nat} (h : CutAt w wr l n k v acc) (hn : n = l.length) (hk : k < n) (ha : ¬ acc.length = 100) (ht : tokT (l.drop k) = .tok x m)
    (hown : w3.ownsRow (w.heap.size + 1) 29 3 v' (acc.length + 1) (tkc acc ++ [.int .i64 x.k, .string ⟨x.t.toArray⟩, .int .i64 x.n])) (hb : Below (w.heap.size + 1) wr w3) :
    CutAt w w3 l n (k + m + spn bk (l.drop (k + m))) v' (acc ++ [x]) := by
  have hlen := h.len
  refine ⟨by simp; omega, fun hlt => ?_, ?_, ?_, h.below.trans hb⟩
  · have hd := spn_out bk (l.drop (k + m)) (by rw [List.length_drop]; omega)
    simpa [List.getD, List.getElem?_drop] using hd
  · rw [h.same, cutW_tok (by omega) (h.head hk) ha ht]
    exact cutW_skip l _ _ _ (Nat.le_refl _)
  · rw [tkc_app]
    simpa [tkc] using hown
theorem tokT_bad {l : List UInt8} {e : Int} (h : tokT l = .bad e) : e = 5 ∨ e = 6 ∨ e = 7 := by
  unfold tokT at h
  split at h
  · unfold numT at h
    split at h
    · cases h; simp
    · split at h
      · cases h
      · cases h; simp
  · split at h
    · cases h
    · split at h
      · match l with
        | [] => cases h; simp
        | c :: r =>
          simp only [strT] at h
          split at h
          · cases h; simp
          · cases h
      · split at h
        · cases h; simp
        · cases h
set_option maxHeartbeats 4000000 in
theorem cut_short (w : World) (hx : Lx w) (s : ByteArray) (h : s.size ≤ 400) : Calls Tryd.prog 11 #[.string s] w (CutIs w (cutL s.data.toList)) := by
  have HC : Hid (cutL s.data.toList = cutW s.data.toList 0 []) := if_neg (by rw [len_size]; omega)
  have HL := Lib.hid (len_size s)
  have hw0 : Below w.heap.size w (w.alloc (.cells #[.string blanks] 9)) := (Below.refl _ _).alloc (Nat.le_refl _) _
  have hcell : (w.alloc (.cells #[.string blanks] 9)).cell? ⟨w.heap.size, 0, none⟩ = some (.string blanks) := by simp
  have hsp := span_blank (w.alloc (.cells #[.string blanks] 9)) w.heap.size s (by unfold maxLen; omega) hcell
  have HSP := Lib.hid hsp
  have HLX := Lib.hid (hx.below hw0)
  have HW0 := Lib.hid hw0
  have HCELL := Lib.hid hcell
  have hle0 := spn_le bk s.data.toList
  rw [HL.out] at hle0
  have HLE0 := Lib.hid hle0
  have HST : Hid (CutAt w (w.alloc (.cells #[.string blanks] 9)) s.data.toList s.size (spn bk s.data.toList) (.slice none 0 0) []) := CutAt.start HL.out.symm
  clear hsp hx hw0 hcell hle0
  go_enter Tryd.func11, Tryd.ntmps11
  go_wp2_with fail
  refine (oneOf_any _ _).mono ?_
  rintro e w1 ⟨rfl, rfl⟩
  go_wp2_with (go_at_call 25; ((with_reducible refine HSP.out.mono ?_); rintro e w' ⟨rfl, rfl⟩))
  go_loopw [5, 7] (fun v i wr => ∃ (k : Nat) (acc : List Tk), k ≤ s.size ∧ i = .int .i64 (k : Int) ∧ Hid (CutAt w wr s.data.toList s.size k v acc)) (fun _ i _ => s.size - (intOf i).toNat)
  case atStart => exact ⟨_, [], HLE0.out, rfl, HST.out⟩
  case round =>
    obtain ⟨k, acc, hk, rfl, HAT⟩ := hrel
    obtain ⟨ao, cap, rfl, hcap⟩ : ∃ ao cap, u5 = .slice ao acc.length cap ∧ acc.length ≤ cap := by
      obtain ⟨_, ao, cap, h2, h3, _⟩ := Rd.own HAT.out.own
      exact ⟨ao, cap, h2, h3⟩
    have hal := HAT.out.len
    by_cases hlt : k < s.size
    · have hltI : (k : Int) < (s.size : Int) := by omega
      by_cases hf : acc.length = 100
      · have HF := Lib.hid (cutW_full (acc := acc) (by rw [HL.out]; exact hlt) (HAT.out.head hlt) hf)
        go_wp2_with fail
        go_returns
        rw [HC.out, HAT.out.same, HF.out]
        exact ⟨_, rfl, Rd.nil _ _, HW0.out.trans (HAT.out.below.mono (by omega))⟩
      · have htk := take_any wr (HLX.out.below (below_from HAT.out.below)) (s.extract k s.size) (by rw [ByteArray.size_extract]; omega) (by rw [ByteArray.size_extract]; omega)
        rw [ext_from] at htk
        have hfI : ((acc.length : Int) == 100) = false := by simp; omega
        cases hT : tokT (s.data.toList.drop k) with
        | bad e0 =>
          rw [hT] at htk
          simp only [hdV] at htk
          have HTK := Lib.hid htk
          have HB := Lib.hid (cutW_bad (acc := acc) (by rw [HL.out]; exact hlt) (HAT.out.head hlt) hf hT)
          have he := tokT_bad hT
          clear htk hT
          rcases he with rfl | rfl | rfl
          all_goals (
            go_wp2_with (go_at_call 26; refine HTK.out.mono ?_; rintro e w1 ⟨rfl, hb1⟩; have HB1 := Lib.hid hb1; clear hb1)
            go_returns
            rw [HC.out, HAT.out.same, HB.out]
            have hB := HW0.out.trans ((HAT.out.below.mono (by omega)).trans (HB1.out.mono (by have := HAT.out.below.size; simp at this; omega)))
            have hz := hB.size
            exact ⟨_, rfl, Rd.nil _ _, by go_grown⟩)
        | tok x m =>
          rw [hT] at htk
          simp only [hdV] at htk
          have hlen := tokT_len (by rw [List.length_drop, HL.out]; omega) hT
          rw [List.length_drop, HL.out] at hlen
          obtain ⟨hm0, hm1⟩ := hlen
          have HTK := Lib.hid htk
          have HNX := Lib.hid (fun (w3 : World) (v' : Value) => HAT.out.next (w3 := w3) (v' := v') (x := x) (m := m) HL.out.symm hlt hf hT)
          have hsz := HAT.out.below.size
          rw [World.size_alloc] at hsz
          have hms : ((k : Int) + (m : Int)) ≤ (s.size : Int) := by omega
          have hs400 : (s.size : Int) ≤ 400 := by omega
          obtain ⟨p, hp⟩ : ∃ p, p = spn bk (s.data.toList.drop (k + m)) := ⟨_, rfl⟩
          have hple := spn_le bk (s.data.toList.drop (k + m))
          rw [← hp, List.length_drop, HL.out] at hple
          have HP := Lib.hid hp
          clear htk hT hp
          go_wp2_with (first | (go_at_call 26; refine HTK.out.mono ?_; rintro e w1 ⟨rfl, hb1⟩; have hz1 := hb1.size; have HB1 := Lib.hid hb1; clear hb1) | (at_builtin; refine apt (w1.alloc _) rfl (.tmp 45) (.tmp 47) rfl ((own_below HAT.out.own HB1.out).alloc _) (by simp; omega) (by omega) (w1.heap.size + 1) (by simp) rfl rfl ?_; intro v2 w2 hown2 hb2 _; have HO2 := Lib.hid hown2; have HB2 := Lib.hid hb2; clear hown2 hb2))
          have hall : Below (w.heap.size + 1) wr w2 := (((HB1.out.mono (by omega)).alloc (by omega) _)).trans HB2.out
          have hc2 : w2.cell? ⟨w.heap.size, 0, none⟩ = some (.string blanks) := ((HAT.out.below.trans hall).cell (p := ⟨w.heap.size, 0, none⟩) (by simp)).trans HCELL.out
          have hsp2 := span_blank w2 w.heap.size (s.extract (k + m) s.size) (by rw [ByteArray.size_extract]; unfold maxLen; omega) hc2
          rw [ext_from, ← HP.out] at hsp2
          have HS2 := Lib.hid hsp2
          have HALL := Lib.hid hall
          clear hsp2 hall hc2
          refine HS2.out.mono ?_
          rintro e w3 ⟨rfl, rfl⟩
          have hpI : (k : Int) + (m : Int) + (p : Int) ≤ 400 := by omega
          go_wp2_with fail
          go_roundw
          case rel =>
            refine ⟨k + m + p, acc ++ [x], by omega, by go_num, ?_⟩
            have := HNX.out w2 _ HO2.out HALL.out
            rw [← HP.out] at this
            exact this
          case measure => simp [intOf]; omega
    · obtain rfl : k = s.size := by omega
      have HE := Lib.hid (cutW_end (l := s.data.toList) (acc := acc) (i := s.size) (by rw [HL.out]; exact Nat.le_refl _))
      go_wp2_with fail
      go_returns
      rw [HC.out, HAT.out.same, HE.out]
      exact ⟨_, rfl, Rd.own HAT.out.own, HW0.out.trans (HAT.out.below.mono (by omega))⟩
end Go.Proofs.YtfoilmhpoipmpaaDoor

/- A word is as long as it can be; a number ends where a word does not begin. The row lists the program's table of marks and variables of the library; the card ties them to the texts. -/
import Derived.Test.YtfoilmhpoipmpaaDoorVd
import Derived.Test.YtfoilmhpoipmpaaDoorVi
namespace Go.Proofs.YtfoilmhpoipmpaaDoor.lLexWords
open Go.ChangeShapes Go.WideShapes Go.ChangeAt Go.RowKit Go.Joins
open Go.ChangeMaps (open_string shut_string)
set_option linter.unusedVariables false
set_option linter.unusedSimpArgs false
set_option maxHeartbeats 400000

theorem numF_shift (l : List UInt8) (a : Nat) : numF a l = a * 10 ^ l.length + numF 0 l := by
  induction l generalizing a with
  | nil => rw [numF_nil, numF_nil]; simp
  | cons c l ih =>
    rw [numF_cons, numF_cons, ih (a * 10 + (c.toNat - 48)), ih (0 * 10 + (c.toNat - 48)), List.length_cons, Nat.pow_succ, Nat.add_mul, Nat.zero_mul, Nat.zero_add, Nat.mul_comm (10 ^ l.length) 10, Nat.mul_assoc]
    omega
theorem numOf_cons (c : UInt8) (l : List UInt8) : numOf (c :: l) = (c.toNat - 48) * 10 ^ l.length + numOf l := by
  unfold numOf
  rw [numF_cons, numF_shift, Nat.zero_mul, Nat.zero_add]
/-- The digits of q that stand yet, and what is left of it. -/
def D3 (q j : Nat) (l : List UInt8) : Prop := l.all dg = true ∧ q < 1000 ∧ ((l.length = 0 ∧ j = q) ∨ (l.length = 1 ∧ j * 10 + numOf l = q) ∨ (l.length = 2 ∧ j * 100 + numOf l = q) ∨ (l.length = 3 ∧ j * 1000 + numOf l = q))
theorem d3_nil {q : Nat} (h : q < 1000) : D3 q q [] := ⟨rfl, h, .inl ⟨rfl, rfl⟩⟩
theorem d3_step {q j : Nat} {l : List UInt8} (h : D3 q j l) (hr : 0 < j ∨ l = []) : l.length ≤ 2 ∧ D3 q (j / 10) (UInt8.ofNat (48 + j % 10) :: l) := by
  obtain ⟨h1, h2, h3⟩ := h
  obtain ⟨d1, d2⟩ := dgt (j % 10) (by omega)
  have hn := numOf_cons (UInt8.ofNat (48 + j % 10)) l
  rw [d2] at hn
  have hl : l.length ≤ 2 := by
    rcases hr with hr | hr
    · omega
    · rw [hr]; simp
  refine ⟨hl, by rw [List.all_cons, d1, h1]; rfl, h2, ?_⟩
  rw [List.length_cons]
  rcases h3 with ⟨e, h3⟩ | ⟨e, h3⟩ | ⟨e, h3⟩ | ⟨e, h3⟩
  · rw [e] at hn ⊢
    have : numOf l = 0 := by rw [List.eq_nil_of_length_eq_zero e]; unfold numOf; rw [numF_nil]
    simp only [Nat.pow_zero] at hn
    exact .inr (.inl ⟨rfl, by omega⟩)
  · rw [e] at hn ⊢
    simp only [Nat.pow_one] at hn
    exact .inr (.inr (.inl ⟨rfl, by omega⟩))
  · rw [e] at hn ⊢
    have : (10 : Nat) ^ 2 = 100 := rfl
    rw [this] at hn
    exact .inr (.inr (.inr ⟨rfl, by omega⟩))
  · omega
theorem d3_end {q : Nat} {l : List UInt8} (h : D3 q 0 l) : l.all dg = true ∧ l.length ≤ 3 ∧ (l ≠ [] → numOf l = q) := by
  obtain ⟨h1, h2, h3⟩ := h
  refine ⟨h1, by omega, fun hl => ?_⟩
  have := List.length_pos_iff.2 hl
  omega
theorem app_data (a b : ByteArray) : (a ++ b).data.toList = a.data.toList ++ b.data.toList := by simp
theorem isz {db : ByteArray} (h : db.toList.isEmpty = true) : db.size = 0 := by
  rw [empty_is h]
  rfl
def lw4 (nb : ByteArray) (q : Nat) : List Tk := [⟨1, nb.data.toList, 0⟩, ⟨4, [40], 0⟩, ⟨2, [], (q : Int)⟩, ⟨4, [41], 0⟩]
theorem lw4_len (nb : ByteArray) (q : Nat) : (lw4 nb q).length = 4 := rfl
def szOf : Value → Nat
  | .string b => b.size
  | _ => 0
theorem digit_str (w : World) (j : Nat) (t : TypeId) (x : Int) (hx : x = 48 + ((j % 10 : Nat) : Int)) : (convert 45 9 (.slice (some ⟨w.heap.size, 0, none⟩) 1 1)).run Tryd.prog (w.alloc (.cells #[.int .u8 x] t)) = .ok (.string ⟨#[UInt8.ofNat (48 + j % 10)]⟩) (w.alloc (.cells #[.int .u8 x] t)) := by
  subst hx
  have hrd : Rd (w.alloc (.cells #[.int .u8 (48 + ((j % 10 : Nat) : Int))] t)) 1 1 (.slice (some ⟨w.heap.size, 0, none⟩) 1 1) (bc [UInt8.ofNat (48 + j % 10)]) := by
    have e : bc [UInt8.ofNat (48 + j % 10)] = [.int .u8 (48 + ((j % 10 : Nat) : Int))] := by
      have : (UInt8.ofNat (48 + j % 10)).toNat = 48 + j % 10 := by simp; omega
      show [Value.int .u8 ((UInt8.ofNat (48 + j % 10)).toNat : Int)] = _
      rw [this]
      simp
    rw [e]
    refine ⟨rfl, _, 1, rfl, Nat.le_refl _, by unfold maxLen; omega, (fun h => by cases h), fun ad had j u hu => ?_⟩
    obtain rfl := Option.some.inj had
    exact new_cells w [_] t j u hu
  exact str_of hrd
set_option maxHeartbeats 8000000 in
theorem walk (W : World) (hB : Lb W) (s : ByteArray) (ws : s.size ≤ maxLen) (x : Int) (wx : (Lit.int .i64 x).wf = true) :
    Calls Tryd.prog 10 #[.string s, .int .i64 x] W fun e w' => e = .returned (.bool true) ∧ Below W.heap.size W w' := by
  have HX := Lib.hid hB.1
  have HWD := Lib.hid (kword_any W s ws)
  have hp := fun w => pck_any x 1000 w (rn_of wx) (by omega) (by omega)
  obtain ⟨p1, p2⟩ := pck_in x 1000 (by omega)
  obtain ⟨q, hq⟩ : ∃ q : Nat, pck x 1000 = (q : Int) := ⟨(pck x 1000).toNat, by omega⟩
  rw [hq] at hp p1 p2
  have HP := Lib.hid hp
  have hq3 : q < 1000 := by omega
  clear hp hq p1 p2 hB wx ws
  go_enter Tryd.func10, Tryd.ntmps10
  go_wp2_with (go_at_call 23; refine HWD.out.mono ?_; rintro e w1 ⟨t, rfl, ht, hb1⟩; have HLW := Lib.hid ht; have HB1 := Lib.hid hb1; clear ht hb1; obtain ⟨tb, htb⟩ : ∃ tb : ByteArray, tb = ⟨t.toArray⟩ := ⟨_, rfl⟩; rw [← htb]; have htz : tb.size ≤ 6 := (by have h6 := HLW.out.2.1; rw [htb]; show t.toArray.size ≤ 6; rw [List.size_toArray]; exact h6); have HTD := Lib.hid (show tb.data.toList = t by rw [htb]); clear htb)
  refine (HP.out _).mono ?_
  rintro e w' ⟨rfl, rfl⟩
  go_wp2_with fail
  go_loopw [7, 8] (fun dv i wr => ∃ (j : Nat) (db : ByteArray), j < 1000 ∧ i = .int .i64 (j : Int) ∧ dv = .string db ∧ db.size ≤ 3 ∧ Hid (D3 q j db.data.toList) ∧ Hid (Below W.heap.size W wr)) (fun dv _ _ => 3 - szOf dv)
  case atStart => exact ⟨q, _, hq3, rfl, rfl, by decide, d3_nil hq3, HB1.out⟩
  case round =>
    obtain ⟨j, db, hj, rfl, rfl, hdz, HD, HBL⟩ := hrel
    have hwz := HBL.out.size
    have hds := fun t y hy => digit_str wr j t y hy
    have hm0 : 0 ≤ (j : Int) % 10 := by omega
    have hm1 : (j : Int) % 10 < 10 := by omega
    by_cases hin : 0 < j
    · have hinI : (0 : Int) < (j : Int) := by omega
      obtain ⟨e1, e2⟩ := d3_step HD.out (.inl hin)
      rw [len_size] at e1
      have HD2 := Lib.hid e2
      clear e2
      go_wp2_with fail
      go_roundw
      case rel =>
        refine ⟨j / 10, _, by omega, by go_num, rfl, ?_, ?_, HBL.out.alloc hwz _⟩
        · rw [ByteArray.size_append]
          show 1 + db.size ≤ 3
          omega
        · have := HD2.out
          rw [UInt8.ofNat_add] at this
          rw [app_data]
          exact this
      case measure =>
        show 3 - (_ ++ db).size < 3 - db.size
        rw [ByteArray.size_append]
        show 3 - (1 + db.size) < 3 - db.size
        omega
    · have hj0 : j = 0 := by omega
      subst hj0
      by_cases hde : db.size = 0
      · have hdb : db = ⟨#[]⟩ := ByteArray.ext (Array.eq_empty_of_size_eq_zero hde)
        subst hdb
        obtain ⟨e1, e2⟩ := d3_step HD.out (.inr rfl)
        have HD2 := Lib.hid e2
        clear e1 e2
        go_wp2_with fail
        go_roundw
        case rel =>
          exact ⟨0, _, by omega, rfl, rfl, by decide, HD2.out, HBL.out.alloc hwz _⟩
        case measure =>
          show 3 - (_ ++ _ : ByteArray).size < 3 - (0 : Nat)
          rw [ByteArray.size_append]
          show 3 - (1 + 0) < 3 - 0
          omega
      · have hdb : db.toList.isEmpty = false := by
          rw [Bool.eq_false_iff]
          intro h
          exact hde (isz h)
        obtain ⟨d1, d2, d3⟩ := d3_end HD.out
        have d4 : db.data.toList ≠ [] := fun e => hde (by rw [← len_size, e]; rfl)
        have d5 := d3 d4
        obtain ⟨cw1, cw2⟩ := cut_words t db.data.toList HLW.out d1 d4 (by omega) (by omega)
        rw [d5] at cw1
        obtain ⟨nb, hnb⟩ : ∃ nb : ByteArray, nb = tb ++ ⟨#[95]⟩ ++ db := ⟨_, rfl⟩
        have hnd : t ++ [95] ++ db.data.toList = nb.data.toList := by rw [hnb, app_data, app_data, HTD.out]
        have hc1 : ∀ w, Lx w → Calls Tryd.prog 11 #[.string (tb ++ ⟨#[95]⟩ ++ db ++ ⟨#[40]⟩ ++ db ++ ⟨#[41]⟩)] w (CutIs w ⟨lw4 nb q, 0, 0⟩) := fun w hx => by
          have h := cut_any w hx (tb ++ ⟨#[95]⟩ ++ db ++ ⟨#[40]⟩ ++ db ++ ⟨#[41]⟩) (by
            simp only [ByteArray.size_append]
            show tb.size + 1 + db.size + 1 + db.size + 1 ≤ _
            unfold maxLen
            omega)
          have ed : (tb ++ ⟨#[95]⟩ ++ db ++ ⟨#[40]⟩ ++ db ++ ⟨#[41]⟩ : ByteArray).data.toList = t ++ [95] ++ db.data.toList ++ [40] ++ db.data.toList ++ [41] := by
            rw [app_data, app_data, app_data, app_data, app_data, HTD.out]
          rw [ed, cw1, hnd] at h
          exact h
        have hc2 : ∀ w, Lx w → Calls Tryd.prog 11 #[.string (db ++ tb)] w (CutIs w ⟨[], 0, 6⟩) := fun w hx => by
          have h := cut_any w hx (db ++ tb) (by
            rw [ByteArray.size_append]
            unfold maxLen
            omega)
          rw [app_data, HTD.out, cw2] at h
          exact h
        have HC1 := Lib.hid hc1
        have HC2 := Lib.hid hc2
        have HNB := Lib.hid hnb
        clear hc1 hc2 hnb d1 d2 d3 d4 d5 cw1 cw2 hnd
        go_wp2_with fail
        refine (HC1.out _ (HX.out.below HBL.out)).mono ?_
        rintro e w2 ⟨v2, rfl, hr2, hb2⟩
        simp only [lw4_len] at hr2
        have HR2 := Lib.hid hr2
        have HB2 := Lib.hid (into HBL.out hb2)
        clear hr2 hb2
        go_wp2_with fail
        refine (HC2.out _ (HX.out.below HB2.out)).mono ?_
        rintro e w3 ⟨v3, rfl, hr3, hb3⟩
        have hr2 := HR2.out.below hb3
        have HB3 := Lib.hid (into HB2.out hb3)
        obtain ⟨b, o, cap, rfl, _, _, _, g⟩ := hr2.pos (by decide) (by omega)
        have c0 : w3.cell? ⟨b, o, none⟩ = some (.int .i64 1) := g 0 (.int .i64 1) rfl
        have c1 := g 1 (.string nb) (by show some (Value.string ⟨nb.data.toList.toArray⟩) = _; rw [mk_of])
        have c2 := g 2 (.int .i64 0) rfl
        have c6 := g 6 (.int .i64 2) rfl
        have c7 := g 7 (.string ⟨#[]⟩) rfl
        have c8 := g 8 (.int .i64 (q : Int)) rfl
        rw [HNB.out] at c1
        clear hr3 hb3 g hr2
        simp only [lw4_len]
        go_wp2_with fail
        go_ret
        exact ⟨rfl, HB3.out⟩

set_option maxRecDepth 100000 in
theorem lifted (os : Os) (started : os.Started) (H : Type) (enc : TypeId × Value → H) :
    ReturnsInHanded {} Tryd.checked os 10 .any (fun w args => (Rows.lexWordsSpec.pre enc Tryd.prog Tryd.f10 [] false w args ∧ laidA w) ∧ sizedMet enc Tryd.prog Tryd.f10 (OpenSpec.ofChange Rows.lexWordsSpec) false w args) (Rows.lexWordsSpec.post enc Tryd.prog Tryd.f10 false true false false) := by
  refine handed_and_shaped (C := Tryd.checked) (X := fun w _ => laidA w) (fun _ _ _ hh h => h.of_heap hh) Tryd.own started (by kernel_rfl) Tryd.func10
    (ChangeSpec.witness_at (enc := enc) (C := Tryd.checked) (os := os) (X := fun w _ => laidA w) false (tabledA os) #[.string ⟨#[]⟩, .int .i64 0] 8 rfl (by kernel_rfl) (by kernel_rfl) (by kernel_rfl) (by kernel_rfl) (by kernel_rfl) (tabledA_laid os _)) ?_
  intro W base args ds gs before hval0 hW hcnd hsz0 hL hsh _
  have hsz : (DataW.weightsEach Tryd.prog (Tryd.f10.params.toList ++ Rows.lexWordsSpec.plain.varTypes Tryd.prog) (ds ++ gs)).all (· ≤ reachBytes) = true := hsz0
  have hval : ∀ (j : Nat) t v, Tryd.f10.params[j]? = some t → args[j]? = some v → Value.okWide Tryd.prog W .any base t v := hval0
  have hW' := hW
  obtain ⟨p, q, hA0, hV, rfl, hfz, hnd⟩ := hW
  have hA : DataW.TrodAll enc Tryd.prog W 0 (fun _ => true) true Tryd.f10.params.toList args.toList ds p := hA0
  rw [Tryd.params10] at hA hval hsz
  obtain ⟨v0, v1, d0, d1, p0, p1, rfl, rfl, rfl, h0, h1⟩ := trodAll_two hA
  obtain ⟨rfl, rfl⟩ := trodVars_none hV
  obtain ⟨t0, rfl, rfl, rfl, ws0⟩ := open_string Tryd.underlying9 (hval 0 9 v0 rfl rfl) h0
  obtain ⟨a1, rfl, rfl, rfl, w1⟩ := open_int Tryd.underlying3 (hval 1 3 v1 rfl rfl) h1
  clear hA0 hval0
  refine (walk W (B_of hL hsh) t0 ws0 a1 w1).mono fun e W' ⟨he, hg⟩ => ?_
  subst he
  exact ⟨_, rfl, law_post (tb := 4) Tryd.laidOut (by kernel_rfl) (by kernel_rfl) Tryd.underlying4 rfl hW' hg rfl rfl rfl⟩

theorem bare : Rows.LexWordsSaid :=
  OpenClaim.holds_of_wide 10 Tryd.f10 rfl rfl rfl rfl rfl rfl rfl ⟨rfl, rfl, rfl, rfl, rfl⟩ rfl rfl rfl rfl rfl (by kernel_rfl) Tryd.func10 (by kernel_rfl)
    (of_decide_eq_true (by kernel_rfl)) (by unfold Func.isWrapper; first | (rw [if_pos (by decide +kernel)]; kernel_rfl) | (rw [if_neg (by decide +kernel)]; exact ⟨rfl, rfl⟩))
    (fun os started H enc _ => lifted os started H enc)
/-- The card: the row's one listed variable is tied to the program's text. -/
theorem proved : Rows.LexWordsCardSaid :=
  Claim7.holds_tied_plain_at .later [] [.data, .data, .data, .data, .sentinel, .sentinel, .data, .pinned] true _ true bare (fun _ h => by cases h) (by kernel_rfl) (fun _ h => by cases h) lexWords_row_tie rfl ⟨rfl, rfl⟩ (by kernel_rfl) rfl
    (fun f fn hf hfn => by
      obtain rfl : f = 10 := Option.some.inj ((show Tryd.prog.funcNamed "padlock/padlockkeep.LexWords" = some 10 by kernel_rfl).symm.trans hf) |>.symm
      obtain rfl : fn = Tryd.f10 := (Option.some.inj (Tryd.func10.symm.trans hfn)).symm
      refine ⟨by kernel_rfl, fun j t ht => ?_⟩
      rw [Tryd.params10] at ht
      rcases j with _ | _ | j <;> simp at ht <;> subst ht <;> kernel_rfl)
    (by kernel_rfl)
#print axioms proved
end Go.Proofs.YtfoilmhpoipmpaaDoor.lLexWords

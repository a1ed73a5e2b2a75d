import Derived.Test.YtmfkdpfcpdmkdaaGreatDoorFek
import Derived.Test.YtmfkdpfcpdmkdaaGreatDoorFfk
import Derived.Deep.DeepCutAuto
/- expr.Bounds whole. -/
namespace Go.Proofs.YtmfkdpfcpdmkdaaGreatDoor.bd
open Go.ChangeShapes Go.WideShapes Go.ChangeAt Go.RowKit
set_option linter.unusedVariables false
set_option linter.unusedSimpArgs false
set_option maxHeartbeats 4000000
set_option maxRecDepth 100000
/-- What a call with a table's columns says: 100 bytes at most. -/
def Len (p : Pt) : Prop := p.k.length ≤ 100 ∧ p.hl.length ≤ 100 ∧ p.hh.length ≤ 100 ∧ p.fl.length ≤ 100 ∧ p.fh.length ≤ 100
theorem len_np : Len np := ⟨by simp [np], by simp [np], by simp [np], by simp [np], by simp [np]⟩
theorem enc_len (l : List V) : (enc l).1.length ≤ 100 := by
  unfold enc
  split
  · simp
  · split
    · simp
    · split
      · simp
      · show (encs l).length ≤ 100
        omega
theorem len_lf (c : ByteArray) (o : Oq) : Len (lfP c o).2 := by
  unfold lfP
  split
  · exact ⟨enc_len _, by simp, by simp, by simp, by simp⟩
  · exact ⟨by simp, by simp, by simp, by simp, by simp⟩
theorem len_on (k : Int) (a : Pt) (h : Len a) : Len (onP k a).2 := by
  unfold onP
  show Len (if k = 5 then _ else np)
  split
  · exact ⟨by simp, h.2.2.2.1, h.2.2.2.2, by simp, by simp⟩
  · exact len_np
theorem len_lo {a b : List UInt8} (ha : a.length ≤ 100) (hb : b.length ≤ 100) : (loW a b).length ≤ 100 := by unfold loW; split <;> assumption
theorem len_hi {a b : List UInt8} (ha : a.length ≤ 100) (hb : b.length ≤ 100) : (hiW a b).length ≤ 100 := by unfold hiW; split <;> assumption
theorem len_tw (k : Int) (a b : Pt) (h : Len a) (g : Len b) : Len (twP k a b).2 := by
  unfold twP
  dsimp only
  split
  · exact ⟨by simp, len_lo h.2.1 g.2.1, len_hi h.2.2.1 g.2.2.1, by simp, by simp⟩
  · split
    · exact ⟨by simp, g.1, g.1, by simp, by simp⟩
    · split
      · exact ⟨by simp, h.1, h.1, by simp, by simp⟩
      · split
        · exact ⟨by simp, by simp, g.1, g.1, by simp⟩
        · split
          · exact ⟨by simp, h.1, by simp, by simp, h.1⟩
          · exact len_np
theorem len_rn (c : ByteArray) (ops : List Oq) : Len ((rnF (lfP c) onP twP [] ops).2.headD np) := by
  have h := rn_pres (lfP c) onP twP Len len_on len_tw ops [] (fun o _ _ => len_lf c o) (fun x hx => by cases hx)
  match hq : (rnF (lfP c) onP twP [] ops).2 with
  | [] => exact len_np
  | x :: s =>
    rw [hq] at h
    exact h x (by simp)
/-- What Bounds answers. -/
def boundsF (l : List Cq) (ops : List Oq) : Int × List UInt8 × List UInt8 :=
  if ops.length = 0 then (colsF l, [], []) else if (kindF l ops).1 ≠ 0 then ((kindF l ops).1, [], []) else if ¬ ((kindF l ops).2 = 1 ∨ (kindF l ops).2 = 0) then (4, [], [])
  else (0, ((rnF (lfP (l.getD 0 ncq).t) onP twP [] ops).2.headD np).hl, ((rnF (lfP (l.getD 0 ncq).t) onP twP [] ops).2.headD np).hh)
def BoundsIs (r : Int × List UInt8 × List UInt8) (w : World) (e : Ending) (w' : World) : Prop := ∃ x y : Sl, e = .returned (.tuple #[sv x, sv y, .int .i64 r.1]) ∧ Rt w' x r.2.1 ∧ Rt w' y r.2.2 ∧ Below w.heap.size w w'
theorem no_bounds {q : Int} {w w' : World} (hB : Below w.heap.size w w') : BoundsIs (q, [], []) w (.returned (.tuple #[.slice none 0 0, .slice none 0 0, .int .i64 q])) w' := ⟨nsl, nsl, rfl, Rt.nil _, Rt.nil _, hB⟩
theorem bclone_any (w : World) (s : Sl) (l : List UInt8) (hr : Rt w s l) (hn : l.length ≤ 1000000) :
    Calls Tryz.prog 17 #[sv s] w fun e w' => ∃ y : Sl, e = .returned (sv y) ∧ Rt w' y l ∧ Below w.heap.size w w' := by
  obtain ⟨a, n, c⟩ := s
  have hml : n = l.length := hr.len.1
  subst hml
  have hr1 := hr.1
  have q : ∀ (w : World) (a : Option Addr) (n c n' c' : Nat), (binOp .eql 25 (.slice a n c) (.slice none n' c')).run Tryz.prog w = .ok (.bool a.isNone) w := fun w a n c n' c' => Lib.run_eql_slice_nil w _ _ a n c n' c' Tryz.underlying25
  cases a with
  | none =>
    obtain ⟨_, ao, cap, h2, _, _, h4, _⟩ := id hr1
    have e : ao = none := by simp only [sv, Value.slice.injEq] at h2; exact h2.1.symm
    have hl0 : l = [] := List.eq_nil_of_length_eq_zero (h4 e).1
    subst hl0
    clear hr hr1 h2 h4
    go_enter Tryz.func17, Tryz.ntmps17
    go_wp2
    go_ret
    exact ⟨nsl, rfl, Rt.nil _, Below.refl _ _⟩
  | some a =>
    have HR := Lib.hid (hr1.below ((Below.refl _ w).alloc (Nat.le_refl _) (.cells #[] 5)))
    obtain ⟨N, hN⟩ : ∃ N, N = l.length := ⟨_, rfl⟩
    have HN := Lib.hid hN
    rw [← hN] at HR hn ⊢
    clear hr hr1 hN
    go_enter Tryz.func17, Tryz.ntmps17
    go_wp2_with (at_builtin; refine apg (w.alloc (.cells #[] 5)) N rfl _ _ 25 5 _ 1 1 Tryz.underlying25 Tryz.info5 rfl (by omega) rfl (World.ownsRow_made (base := w.heap.size) w #[] 0 (Nat.le_refl _) (Nat.zero_le _) rfl) (by simp) (by omega) (by unfold maxLen; omega) (bc_one _) HR.out rfl rfl ?_; intro v1 w1 hown1 hb1 _; have HO := Lib.hid hown1; have HB := Lib.hid hb1; clear hown1 hb1)
    go_ret
    have ho := HO.out
    simp only [Nat.zero_add, List.nil_append] at ho
    obtain ⟨y, rfl, hy⟩ := Rt.own ho
    exact ⟨y, rfl, hy, (((Below.refl _ w).alloc (Nat.le_refl _) _)).trans (HB.out.mono (Nat.le_refl _))⟩
theorem cols_pos {l : List Cq} (h : colsF l = 0) : 0 < l.length := by
  match l, h with
  | [], h => rw [show colsF [] = 1 from rfl] at h; omega
  | c :: l, _ => simp
theorem kind_cols {l : List Cq} {ops : List Oq} (h : (kindF l ops).1 = 0) : colsF l = 0 := by
  unfold kindF at h
  split at h
  · next h1 => exact absurd h h1
  · next h1 => simpa using h1
theorem leaf_ok {c : ByteArray} {o : Oq} (ho : opF o.k o.v.k o.v.n o.v.t o.t = 0) (hfi : -9223372036854775808 ≤ o.v.n ∧ o.v.n ≤ 9223372036854775807) : (lfP c o).1 = 0 := by
  unfold lfP
  split
  · have hc : chk o.v.k o.v.n o.v.t = 0 := by
      unfold opF at ho
      split at ho
      · omega
      · split at ho
        · next h4 => exact absurd ho h4
        · next h4 =>
          have h4 : litF o.v.k o.v.n o.v.t = 0 := by simpa using h4
          unfold litF at h4
          split at h4
          · omega
          · exact h4
    have hok : ∀ v ∈ [o.v], Ok v := fun v hv => by rw [List.mem_singleton.1 hv]; exact ⟨hc, hfi⟩
    have hl := cd.encs_len [o.v] hok
    rw [enc_ok hok (by simp) (by simp at hl ⊢; omega)]
  · rfl
/-- expr.Bounds. -/
theorem bounds_any (w : World) (hT : Tbs w) (n m : Nat) (v u : Value) (l : List Cq) (ops : List Oq) (hr : Rd w 2 n v (ccs l)) (hs : ∀ c ∈ l, c.t.size ≤ maxLen) (hu : Rd w 5 m u (ocs ops)) (hos : ∀ o ∈ ops, o.t.size ≤ maxLen) (hfi : ∀ o ∈ ops, -9223372036854775808 ≤ o.v.n ∧ o.v.n ≤ 9223372036854775807) :
    Calls Tryz.prog 5 #[v, u] w (BoundsIs (boundsF l ops) w) := by
  obtain ⟨ao, cap, rfl⟩ : ∃ ao cap, v = .slice ao n cap := by
    obtain ⟨_, ao, cap, h, _⟩ := id hr
    exact ⟨ao, cap, h⟩
  obtain ⟨uo, ucap, rfl⟩ : ∃ ao cap, u = .slice ao m cap := by
    obtain ⟨_, ao, cap, h, _⟩ := id hu
    exact ⟨ao, cap, h⟩
  have hml := len_o hu
  have hb : Below w.heap.size w (w.alloc (.cells #[.slice ao n cap] 22)) := (Below.refl _ _).alloc (Nat.le_refl _) _
  have hx : (w.alloc (.cells #[.slice ao n cap] 22)).cell? ⟨w.heap.size, 0, none⟩ = some (.slice ao n cap) := by
    have h := new0 w (.cells #[.slice ao n cap] 22)
    simp only [World.cell?]
    rw [h]
    rfl
  have HC := Lib.hid (cols_any _ (hT.below hb) n _ l (hr.below hb) hs)
  have HK := Lib.hid (kind_any _ (hT.below hb) n m _ _ l ops (hr.below hb) hs (hu.below hb) hos)
  by_cases hm : m = 0
  · have hm0 : ((m : Int) == 0) = true := by simp [hm]
    have e : boundsF l ops = (colsF l, [], []) := by unfold boundsF; rw [if_pos (by omega)]
    rw [e]
    have HB := Lib.hid hb
    clear e hm hml hr hu hs hos hfi hT HK hb
    go_enter Tryz.func5, Tryz.ntmps5
    go_wp2_with fail
    refine HC.out.mono ?_
    rintro e w1 ⟨rfl, hb1⟩
    have HB1 := Lib.hid (into HB.out hb1)
    clear hb1
    go_wp2_with fail
    go_returns
    exact no_bounds HB1.out
  have hm0 : ((m : Int) == 0) = false := by simpa using hm
  have hb1 : ∀ W : World, Below (w.alloc (.cells #[.slice ao n cap] 22)).heap.size (w.alloc (.cells #[.slice ao n cap] 22)) W → Below w.heap.size w W := fun W h => into hb h
  obtain ⟨⟨q, kk⟩, hq⟩ : ∃ x, kindF l ops = x := ⟨_, rfl⟩
  have HQ := Lib.hid hq
  rw [hq] at HK
  have HB1 := Lib.hid hb1
  clear HC hb1
  by_cases h0 : q = 0
  rotate_left
  · have e : boundsF l ops = (q, [], []) := by
      unfold boundsF
      rw [if_neg (by omega), HQ.out, if_pos h0]
    rw [e]
    have h0' : (q != 0) = true := by simpa using h0
    clear e hm hml hr hu hs hos hfi hT hb hq HQ h0
    go_enter Tryz.func5, Tryz.ntmps5
    go_wp2_with fail
    refine HK.out.mono ?_
    rintro e w1 ⟨rfl, hb1⟩
    have HB2 := Lib.hid (HB1.out _ hb1)
    clear hb1
    go_wp2_with fail
    go_returns
    exact no_bounds HB2.out
  subst h0
  by_cases hkk : kk = 1 ∨ kk = 0
  rotate_left
  · have e : boundsF l ops = (4, [], []) := by
      unfold boundsF
      rw [if_neg (by omega), HQ.out, if_neg (by simp), if_pos hkk]
    rw [e]
    have hkn : (kk == 1 || kk == 0) = false := by
      simp
      omega
    clear e hm hml hr hu hs hos hfi hT hb hq HQ hkk
    go_enter Tryz.func5, Tryz.ntmps5
    go_wp2_with fail
    refine HK.out.mono ?_
    rintro e w1 ⟨rfl, hb1⟩
    have HB2 := Lib.hid (HB1.out _ hb1)
    clear hb1
    go_wp2_with fail
    refine (known_any _ kk 1 false hkn).mono ?_
    rintro e w2 ⟨rfl, rfl⟩
    go_wp2_with fail
    go_returns
    exact no_bounds HB2.out
  · have hk1 : (kindF l ops).1 = 0 := by rw [hq]
    have hex := (kind_ok hk1).1
    have hpos := cols_pos (kind_cols hk1)
    have hmem := ex_mem ops 0 (kind_ok hk1).2.1
    obtain ⟨py, hpy⟩ : ∃ p, p = (rnF (lfP (l.getD 0 ncq).t) onP twP [] ops).2.headD np := ⟨_, rfl⟩
    have hlen : Len py := by rw [hpy]; exact len_rn _ _
    have e : boundsF l ops = (0, py.hl, py.hh) := by
      unfold boundsF
      rw [if_neg (by omega), HQ.out, if_neg (by simp), if_neg (fun h => h hkk), hpy]
    rw [e]
    have hkn : (kk == 1 || kk == 0) = true := by
      simp
      omega
    have HF := Lib.hid (fun (W : World) (h : Below w.heap.size w W) (hX : W.cell? ⟨w.heap.size, 0, none⟩ = some (.slice ao n cap)) => foldP_any W m (.slice uo m ucap) ops (l.getD 0 ncq).t w.heap.size (hu.below h) hex (fun o ho hw => leaf_ok (hmem o ho) (hfi o ho)) (fun W2 h2 o ho hw => start_any W2 o w.heap.size n (.slice ao n cap) l (hr.below (into h h2)) hpos (cell_blz h2 hX) hw (hfi o ho)))
    have HPY := Lib.hid hpy
    have HX := Lib.hid hx
    have HLN := Lib.hid hlen
    clear e hm hml hr hu hs hos hfi hT hb hq HQ hkk hpos hmem hex hpy hx hk1 hlen
    go_enter Tryz.func5, Tryz.ntmps5
    go_wp2_with fail
    refine HK.out.mono ?_
    rintro e w1 ⟨rfl, hb1⟩
    have HB2 := Lib.hid (HB1.out _ hb1)
    have HX1 := Lib.hid (cell_blz hb1 HX.out)
    clear hb1
    go_wp2_with fail
    refine (known_any _ kk 1 true hkn).mono ?_
    rintro e w1 ⟨rfl, rfl⟩
    go_wp2_with fail
    have h3 := HF.out w1 HB2.out HX1.out
    refine h3.mono ?_
    clear h3
    rintro e w2 ⟨y, rfl, hrp, hb2⟩
    rw [← HPY.out] at hrp
    have HRP := Lib.hid hrp
    have HB3 := Lib.hid (into HB2.out hb2)
    clear hrp hb2
    go_upto_region 9 with (fail)
    obtain ⟨w3, hw3⟩ : ∃ w3, w3 = w2.alloc (.cells #[.bool y.f, sv y.k, sv y.hl, sv y.hh, sv y.fl, sv y.fh] 39) := ⟨_, rfl⟩
    have b3 : Below w2.heap.size w2 w3 := by rw [hw3]; exact (Below.refl _ _).alloc (Nat.le_refl _) _
    have r3 : w3.heap[w2.heap.size]? = some (.cells #[.bool y.f, sv y.k, sv y.hl, sv y.hh, sv y.fl, sv y.fh] 39 (0, 0)) := by rw [hw3]; exact new0 w2 _
    rw [← hw3]
    clear hw3
    obtain ⟨-, -, c2, c3, -, -, -, -, -, -, -, -⟩ := box6 r3
    have heldB : ∀ wx, Below w3.heap.size w3 wx → (fun wx => wx.cell? ⟨w2.heap.size, 2, none⟩ = some (sv y.hl) ∧ wx.cell? ⟨w2.heap.size, 3, none⟩ = some (sv y.hh)) wx := fun wx h => ⟨cell_blz h c2, cell_blz h c3⟩
    have HCL := Lib.hid (fun (W : World) (h : Below w3.heap.size w3 W) => bclone_any W y.hh py.hh ((HRP.out.2.2.2.1.below b3).below h) (by have := HLN.out.2.2.1; omega))
    have HLO := Lib.hid (HRP.out.2.2.1.below b3)
    have HB5 := Lib.hid (into HB3.out b3)
    clear r3 c2 c3 b3
    refine Code.wp_mono (Q := NQ _) nq_to ?_
    refine wp_region_held_drew (S := (fun wx => wx.cell? ⟨w2.heap.size, 2, none⟩ = some (sv y.hl) ∧ wx.cell? ⟨w2.heap.size, 3, none⟩ = some (sv y.hh))) (by kernel_rfl) ?_ (fun hHeld => ?_)
    · (try dsimp only)
      exact heldB _ (by first | (with_reducible exact (Below.refl _ _).drew) | (with_reducible exact HB4.out))
    refine wpAnyH_take (i := 0) (oi := _) (v := ?_) rfl (by kernel_rfl) (by kernel_rfl) (by kernel_rfl) (fun _ _ _ h => h) (Or.inl ⟨by rfl, ?_⟩) (by assumption) ?_
    rotate_left
    · (intro w hSw; (try dsimp only at hSw); go_simp)
      all_goals (with_reducible rfl)
    (try simp only [List.getElem_toArray, List.getElem_cons_zero, List.getElem_cons_succ, Act.put, List.setIfInBounds_toArray, List.set_cons_zero, List.set_cons_succ])
    refine wpAnyH_take (i := 1) (oi := _) (v := ?_) rfl (by kernel_rfl) (by kernel_rfl) (by kernel_rfl) (fun _ _ _ h => h) (Or.inl ⟨by rfl, ?_⟩) (by assumption) ?_
    rotate_left
    · (intro w hSw; (try dsimp only at hSw); go_simp)
      all_goals (with_reducible rfl)
    (try simp only [List.getElem_toArray, List.getElem_cons_zero, List.getElem_cons_succ, Act.put, List.setIfInBounds_toArray, List.set_cons_zero, List.set_cons_succ])
    refine wpAnyH_take (i := 2) (oi := _) (v := ?_) rfl (by kernel_rfl) (by kernel_rfl) (by kernel_rfl) (fun _ _ _ h => h) (Or.inl ⟨by rfl, ?_⟩) (by assumption) ?_
    rotate_left
    · (intro w hSw; (try dsimp only at hSw); go_simp)
      all_goals (with_reducible rfl)
    (try simp only [List.getElem_toArray, List.getElem_cons_zero, List.getElem_cons_succ, Act.put, List.setIfInBounds_toArray, List.set_cons_zero, List.set_cons_succ])
    refine wpAnyH_take (i := 3) (oi := _) (v := ?_) rfl (by kernel_rfl) (by kernel_rfl) (by kernel_rfl) (fun _ _ _ h => h) (Or.inl ⟨by rfl, ?_⟩) (by assumption) ?_
    rotate_left
    · (intro w hSw; (try dsimp only at hSw); go_simp)
      all_goals (with_reducible rfl)
    (try simp only [List.getElem_toArray, List.getElem_cons_zero, List.getElem_cons_succ, Act.put, List.setIfInBounds_toArray, List.set_cons_zero, List.set_cons_succ])
    refine wpAnyH_take (i := 4) (oi := _) (v := ?_) rfl (by kernel_rfl) (by kernel_rfl) (by kernel_rfl) (fun _ _ _ h => h) (Or.inl ⟨by rfl, ?_⟩) (by assumption) ?_
    rotate_left
    · (intro w hSw; (try dsimp only at hSw); go_simp)
      all_goals (with_reducible rfl)
    (try simp only [List.getElem_toArray, List.getElem_cons_zero, List.getElem_cons_succ, Act.put, List.setIfInBounds_toArray, List.set_cons_zero, List.set_cons_succ])
    refine wpAnyH_take (i := 5) (oi := _) (v := ?_) rfl (by kernel_rfl) (by kernel_rfl) (by kernel_rfl) (fun _ _ _ h => h) (Or.inl ⟨by rfl, ?_⟩) (by assumption) ?_
    rotate_left
    · (intro w hSw; (try dsimp only at hSw); go_simp)
      all_goals (with_reducible rfl)
    (try simp only [List.getElem_toArray, List.getElem_cons_zero, List.getElem_cons_succ, Act.put, List.setIfInBounds_toArray, List.set_cons_zero, List.set_cons_succ])
    refine wpAnyH_take (i := 7) (oi := _) (v := ?_) rfl (by kernel_rfl) (by kernel_rfl) (by kernel_rfl) (fun _ _ _ h => h) (Or.inl ⟨by rfl, ?_⟩) (by assumption) ?_
    rotate_left
    · (intro w hSw; (try dsimp only at hSw); go_simp)
      all_goals (with_reducible rfl)
    (try simp only [List.getElem_toArray, List.getElem_cons_zero, List.getElem_cons_succ, Act.put, List.setIfInBounds_toArray, List.set_cons_zero, List.set_cons_succ])
    refine wpAnyH_ready (rs := [6]) (by kernel_rfl) (by simp) ?_
    refine AllReadyH.cons rfl (fun K hK => ?_) AllReadyH.nil
    go_simp
    (go_at_call 17; (with_reducible refine (HCL.out _ ((Below.refl _ _).drew)).mono ?_); rintro e w4 ⟨yy, rfl, hyy, hb4⟩; have HY := Lib.hid hyy; have HB4 : Hid (Below w3.heap.size w3 w4) := Lib.hid (((Below.refl _ _).drew).trans hb4); clear hyy hb4)
    go_wp2_with fail
    refine hK.out _ _ ?_ (fun hHeld => ?_)
    · (try dsimp only)
      exact heldB _ (by first | (with_reducible exact (Below.refl _ _).drew) | (with_reducible exact HB4.out))
    clear hK K
    (try simp only [List.getElem_toArray, List.getElem_cons_zero, List.getElem_cons_succ, Act.put, List.setIfInBounds_toArray, List.set_cons_zero, List.set_cons_succ])
    refine wpAnyH_ready (rs := [8]) (by kernel_rfl) (by simp) ?_
    refine AllReadyH.cons rfl (fun K hK => ?_) AllReadyH.nil
    go_simp
    refine hK.out _ _ ?_ (fun hHeld => ?_)
    · (try dsimp only)
      exact heldB _ (by first | (with_reducible exact (Below.refl _ _).drew) | (with_reducible exact HB4.out))
    clear hK K
    (try simp only [List.getElem_toArray, List.getElem_cons_zero, List.getElem_cons_succ, Act.put, List.setIfInBounds_toArray, List.set_cons_zero, List.set_cons_succ])
    refine wpAnyH_ready (rs := [9]) (by kernel_rfl) (by simp) ?_
    refine AllReadyH.cons rfl (fun K hK => ?_) AllReadyH.nil
    go_simp
    refine hK.out _ _ ?_ (fun hHeld => ?_)
    · (try dsimp only)
      exact heldB _ (by first | (with_reducible exact (Below.refl _ _).drew) | (with_reducible exact HB4.out))
    clear hK K
    (try simp only [List.getElem_toArray, List.getElem_cons_zero, List.getElem_cons_succ, Act.put, List.setIfInBounds_toArray, List.set_cons_zero, List.set_cons_succ])
    refine wpAnyH_ready (rs := [10]) (by kernel_rfl) (by simp) ?_
    refine AllReadyH.cons rfl (fun K hK => ?_) AllReadyH.nil
    go_simp
    refine hK.out _ _ ?_ (fun hHeld => ?_)
    · (try dsimp only)
      exact heldB _ (by first | (with_reducible exact (Below.refl _ _).drew) | (with_reducible exact HB4.out))
    clear hK K
    (try simp only [List.getElem_toArray, List.getElem_cons_zero, List.getElem_cons_succ, Act.put, List.setIfInBounds_toArray, List.set_cons_zero, List.set_cons_succ])
    refine wpAnyH_done (by kernel_rfl) ?_ _
    dsimp only [NQ]
    go_wp2_with fail
    go_returns
    exact ⟨y.hl, yy, rfl, HLO.out.below HB4.out, HY.out, into HB5.out HB4.out⟩
end Go.Proofs.YtmfkdpfcpdmkdaaGreatDoor.bd

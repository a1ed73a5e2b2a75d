import Derived.Test.YtmfkdpfcpdmkdaaGreatDoorFbk
/- What one op says, what two do: the program's small functions. -/
namespace Go.Proofs.YtmfkdpfcpdmkdaaGreatDoor.bd
open Go.ChangeShapes Go.WideShapes Go.ChangeAt Go.RowKit
set_option linter.unusedVariables false
set_option linter.unusedSimpArgs false
set_option maxHeartbeats 2000000
set_option maxRecDepth 100000
/-- How two keys stand. -/
def cmpK (a b : List UInt8) : Int := Lib.compareBytes a b
theorem cmpK_is : ∀ a b : List UInt8, cmpK a b = if bl a b then -1 else if bl b a then 1 else 0
  | [], [] => rfl
  | [], _ :: _ => rfl
  | _ :: _, [] => rfl
  | a :: xs, b :: ys => by
    have ih := cmpK_is xs ys
    unfold cmpK bl at *
    simp only [Lib.compareBytes, Op.bytesLess]
    rw [ih]
    by_cases h : a < b
    · simp [h]
    · by_cases g : b < a
      · have hne : ¬ a = b := by rintro rfl; exact h g
        simp [h, g, hne]
      · have he : a = b := by
          rw [UInt8.lt_iff_toNat_lt] at h g
          exact UInt8.toNat_inj.1 (by omega)
        subst he
        simp [h]
theorem cmpK_lt (a b : List UInt8) : cmpK a b < 0 ↔ bl a b = true := by
  rw [cmpK_is]
  by_cases h : bl a b = true <;> simp [h]
  split <;> omega
theorem run_loadB {w : World} : ∀ (l : List UInt8) (a : Addr) (acc : ByteArray), (∀ j u, (bc l)[j]? = some u → w.cell? (a.add j) = some u) →
    (Extern.Bytes.loadBytes a l.length acc).run Tryz.prog w = .ok ⟨acc.data ++ l.toArray⟩ w
  | [], a, acc, _ => by simp [Extern.Bytes.loadBytes]
  | b :: l, a, acc, h => by
    have h0 := h 0 (.int .u8 (b.toNat : Int)) (by simp [bc])
    rw [Addr.add_zero'] at h0
    have ih := run_loadB l (a.add 1) (acc.push b) (fun j u hu => by
      rw [Go.Deep.add_add, Nat.add_comm]
      exact h (j + 1) u (by simpa [bc] using hu))
    simp only [List.length_cons, Extern.Bytes.loadBytes, Sem.run_bind, run_load, h0, Result.andThen]
    have e : (b.toNat : Int).toNat.toUInt8 = b := by simp
    rw [e, ih]
    simp
theorem run_bytes {w : World} {v : Value} {l : List UInt8} (h : Rd w 1 l.length v (bc l)) : (Extern.Bytes.bytesOf v).run Tryz.prog w = .ok ⟨l.toArray⟩ w := by
  obtain ⟨h1, ao, cap, rfl, h3, h4, h5, h6⟩ := h
  cases ao with
  | none =>
    have := (h5 rfl).1
    have hl : l = [] := List.eq_nil_of_length_eq_zero this
    subst hl
    rfl
  | some a =>
    show (Extern.Bytes.loadBytes a l.length .empty).run Tryz.prog w = _
    rw [run_loadB l a .empty (h6 a rfl)]
    simp
theorem run_cmp {w : World} {u v : Value} {a b : List UInt8} (hu : Rd w 1 a.length u (bc a)) (hv : Rd w 1 b.length v (bc b)) : (Extern.BytealgCompare.compare #[u, v]).run Tryz.prog w = .ok (.int .i64 (cmpK a b)) w := by
  change Sem.run Tryz.prog (do pure (goInt (Extern.BytealgCompare.cmp (← Extern.Bytes.bytesOf u) (← Extern.Bytes.bytesOf v)))) w = _
  simp only [Sem.run_bind, run_bytes hu, run_bytes hv, Sem.run_pure, Result.andThen]
  rw [Lib.cmp_eq]
  rfl
theorem cmp_any (w : World) (u v : Value) (a b : List UInt8) (hu : Rd w 1 a.length u (bc a)) (hv : Rd w 1 b.length v (bc b)) :
    Calls Tryz.prog 52 #[u, v] w fun e w' => e = .returned (.int .i64 (cmpK a b)) ∧ w = w' := by
  have hr := run_cmp hu hv
  have HR := Lib.hid hr
  clear hr hu hv
  go_enter Tryz.func52, Tryz.ntmps52
  go_wp2
  rw [run_callFunc_extern Tryz.func77 (by kernel_rfl) (by kernel_rfl) (by kernel_rfl) (e := Extern.BytealgCompare.compare) (by kernel_rfl), HR.out]
  simp only [Result.andThen]
  rw [Oper.upon_value]
  go_wp2
  go_ret
  exact ⟨rfl, rfl⟩
/-- What lies within two spans. -/
def SpanIs (l h : List UInt8) (w : World) (e : Ending) (w' : World) : Prop := ∃ x y : Sl, e = .returned (.agg #[sv x, sv y]) ∧ Rt w' x l ∧ Rt w' y h ∧ Below w.heap.size w w'
theorem span_end {w w' : World} {x y : Sl} {l h : List UInt8} (hl : Rt w x l) (hh : Rt w y h) (hB : Below w.heap.size w w') : SpanIs l h w (.returned (.agg #[sv x, sv y])) w' := ⟨x, y, rfl, hl.below hB, hh.below hB, hB⟩
theorem within_any (w : World) (a1 a2 b1 b2 : Sl) (la lh ma mh : List UInt8) (h1 : Rt w a1 la) (h2 : Rt w a2 lh) (g1 : Rt w b1 ma) (g2 : Rt w b2 mh) :
    Calls Tryz.prog 34 #[.agg #[sv a1, sv a2], .agg #[sv b1, sv b2]] w (SpanIs (loW la ma) (hiW lh mh) w) := by
  have hn1 := h2.len
  have hn2 := g2.len
  have CM := Lib.hid (fun (W : World) (hb : Below w.heap.size w W) => cmp_any W (sv a1) (sv b1) la ma (h1.below hb).1 (g1.below hb).1)
  have CN := Lib.hid (fun (W : World) (hb : Below w.heap.size w W) => cmp_any W (sv b2) (sv a2) mh lh (g2.below hb).1 (h2.below hb).1)
  have HL : Hid (Rt w (if bl la ma then b1 else a1) (loW la ma)) := Lib.hid (by unfold loW; split <;> assumption)
  have HH : Hid (Rt w (if lh.length = 0 ∨ (0 < mh.length ∧ bl mh lh = true) then b2 else a2) (hiW lh mh)) := Lib.hid (by unfold hiW; split <;> assumption)
  obtain ⟨x1, n1, y1⟩ := a1
  obtain ⟨x2, n2, y2⟩ := a2
  obtain ⟨u1, m1, v1⟩ := b1
  obtain ⟨u2, m2, v2⟩ := b2
  simp only at hn1 hn2
  obtain ⟨rfl, hn1⟩ := hn1
  obtain ⟨rfl, hn2⟩ := hn2
  obtain ⟨c, hc⟩ : ∃ c, c = cmpK la ma := ⟨_, rfl⟩
  rw [← hc] at CM
  obtain ⟨d, hd⟩ : ∃ d, d = cmpK mh lh := ⟨_, rfl⟩
  rw [← hd] at CN
  have hc1 := cmpK_lt la ma
  have hd1 := cmpK_lt mh lh
  rw [← hc] at hc1
  rw [← hd] at hd1
  obtain ⟨nl, hnl⟩ : ∃ nl, nl = lh.length := ⟨_, rfl⟩
  obtain ⟨nm, hnm⟩ : ∃ nm, nm = mh.length := ⟨_, rfl⟩
  rw [← hnl, ← hnm] at HH
  rw [← hnl] at hn1
  rw [← hnm] at hn2
  rw [← hnl, ← hnm] at CN
  rw [← hnl, ← hnm]
  have H1 := Lib.hid hc1
  have H2 := Lib.hid hd1
  unfold maxLen at hn1 hn2
  clear h1 h2 g1 g2 hc hd hc1 hd1 hnl hnm
  by_cases k1 : c < 0
  · have e1 := H1.out.1 k1
    rw [if_pos e1] at HL
    clear e1 H1
    by_cases k2 : nl = 0
    · rw [if_pos (.inl k2)] at HH
      have z2 : ((nl : Int) == 0) = true := by simp [k2]
      clear k2 H2
      go_enter Tryz.func34, Tryz.ntmps34
      go_wp2_with (first | (go_at_call 52; ((with_reducible refine (CM.out _ (by go_grown)).mono ?_); rintro e w' ⟨rfl, rfl⟩)) | (go_at_call 52; ((with_reducible refine (CN.out _ (by go_grown)).mono ?_); rintro e w' ⟨rfl, rfl⟩)))
      go_returns
      exact span_end (x := ⟨u1, _, v1⟩) (y := ⟨u2, _, v2⟩) HL.out HH.out (by go_grown)
    · have z2 : ((nl : Int) == 0) = false := by simp [k2]
      by_cases k3 : 0 < nm
      · by_cases k4 : d < 0
        · rw [if_pos (.inr ⟨k3, H2.out.1 k4⟩)] at HH
          clear k2 H2
          go_enter Tryz.func34, Tryz.ntmps34
          go_wp2_with (first | (go_at_call 52; ((with_reducible refine (CM.out _ (by go_grown)).mono ?_); rintro e w' ⟨rfl, rfl⟩)) | (go_at_call 52; ((with_reducible refine (CN.out _ (by go_grown)).mono ?_); rintro e w' ⟨rfl, rfl⟩)))
          go_returns
          exact span_end (x := ⟨u1, _, v1⟩) (y := ⟨u2, _, v2⟩) HL.out HH.out (by go_grown)
        · rw [if_neg (by rintro (h | h); exact k2 h; exact k4 (H2.out.2 h.2))] at HH
          clear k2 H2
          go_enter Tryz.func34, Tryz.ntmps34
          go_wp2_with (first | (go_at_call 52; ((with_reducible refine (CM.out _ (by go_grown)).mono ?_); rintro e w' ⟨rfl, rfl⟩)) | (go_at_call 52; ((with_reducible refine (CN.out _ (by go_grown)).mono ?_); rintro e w' ⟨rfl, rfl⟩)))
          go_returns
          exact span_end (x := ⟨u1, _, v1⟩) (y := ⟨x2, _, y2⟩) HL.out HH.out (by go_grown)
      · rw [if_neg (by rintro (h | h); exact k2 h; exact k3 h.1)] at HH
        clear k2 H2
        go_enter Tryz.func34, Tryz.ntmps34
        go_wp2_with (first | (go_at_call 52; ((with_reducible refine (CM.out _ (by go_grown)).mono ?_); rintro e w' ⟨rfl, rfl⟩)) | (go_at_call 52; ((with_reducible refine (CN.out _ (by go_grown)).mono ?_); rintro e w' ⟨rfl, rfl⟩)))
        go_returns
        exact span_end (x := ⟨u1, _, v1⟩) (y := ⟨x2, _, y2⟩) HL.out HH.out (by go_grown)
  · have e1 : ¬ bl la ma = true := fun h => k1 (H1.out.2 h)
    rw [if_neg e1] at HL
    clear e1 H1
    by_cases k2 : nl = 0
    · rw [if_pos (.inl k2)] at HH
      have z2 : ((nl : Int) == 0) = true := by simp [k2]
      clear k2 H2
      go_enter Tryz.func34, Tryz.ntmps34
      go_wp2_with (first | (go_at_call 52; ((with_reducible refine (CM.out _ (by go_grown)).mono ?_); rintro e w' ⟨rfl, rfl⟩)) | (go_at_call 52; ((with_reducible refine (CN.out _ (by go_grown)).mono ?_); rintro e w' ⟨rfl, rfl⟩)))
      go_returns
      exact span_end (x := ⟨x1, _, y1⟩) (y := ⟨u2, _, v2⟩) HL.out HH.out (by go_grown)
    · have z2 : ((nl : Int) == 0) = false := by simp [k2]
      by_cases k3 : 0 < nm
      · by_cases k4 : d < 0
        · rw [if_pos (.inr ⟨k3, H2.out.1 k4⟩)] at HH
          clear k2 H2
          go_enter Tryz.func34, Tryz.ntmps34
          go_wp2_with (first | (go_at_call 52; ((with_reducible refine (CM.out _ (by go_grown)).mono ?_); rintro e w' ⟨rfl, rfl⟩)) | (go_at_call 52; ((with_reducible refine (CN.out _ (by go_grown)).mono ?_); rintro e w' ⟨rfl, rfl⟩)))
          go_returns
          exact span_end (x := ⟨x1, _, y1⟩) (y := ⟨u2, _, v2⟩) HL.out HH.out (by go_grown)
        · rw [if_neg (by rintro (h | h); exact k2 h; exact k4 (H2.out.2 h.2))] at HH
          clear k2 H2
          go_enter Tryz.func34, Tryz.ntmps34
          go_wp2_with (first | (go_at_call 52; ((with_reducible refine (CM.out _ (by go_grown)).mono ?_); rintro e w' ⟨rfl, rfl⟩)) | (go_at_call 52; ((with_reducible refine (CN.out _ (by go_grown)).mono ?_); rintro e w' ⟨rfl, rfl⟩)))
          go_returns
          exact span_end (x := ⟨x1, _, y1⟩) (y := ⟨x2, _, y2⟩) HL.out HH.out (by go_grown)
      · rw [if_neg (by rintro (h | h); exact k2 h; exact k3 h.1)] at HH
        clear k2 H2
        go_enter Tryz.func34, Tryz.ntmps34
        go_wp2_with (first | (go_at_call 52; ((with_reducible refine (CM.out _ (by go_grown)).mono ?_); rintro e w' ⟨rfl, rfl⟩)) | (go_at_call 52; ((with_reducible refine (CN.out _ (by go_grown)).mono ?_); rintro e w' ⟨rfl, rfl⟩)))
        go_returns
        exact span_end (x := ⟨x1, _, y1⟩) (y := ⟨x2, _, y2⟩) HL.out HH.out (by go_grown)
theorem part_end {w w' : World} {x : Pv} {p : Pt} {q : Int} (h : RP w x p) (hB : Below w.heap.size w w') : PartIs (q, p) w (.returned (.tuple #[pva x, .int .i64 q])) w' := ⟨x, rfl, h.below hB, hB⟩
/-- What one op says. -/
theorem one_any (w : World) (k : Int) (a : Pv) (p : Pt) (h : RP w a p) : Calls Tryz.prog 15 #[.int .i64 k, pva a] w (PartIs (onP k p) w) := by
  obtain ⟨af, ⟨a1, b1, c1⟩, ⟨a2, b2, c2⟩, ⟨a3, b3, c3⟩, ⟨a4, b4, c4⟩, ⟨a5, b5, c5⟩⟩ := a
  have HR := Lib.hid h
  clear h
  by_cases k5 : k = 5
  · have e5 : (k == 5) = true := by simp [k5]
    have e : onP k p = (0, ⟨false, [], p.fl, p.fh, [], []⟩) := by unfold onP; rw [if_pos k5]
    rw [e]
    clear e k5
    go_enter Tryz.func15, Tryz.ntmps15
    go_wp2_with fail
    go_returns
    exact part_end (x := ⟨false, nsl, ⟨a4, b4, c4⟩, ⟨a5, b5, c5⟩, nsl, nsl⟩) ⟨rfl, Rt.nil w, HR.out.2.2.2.2.1, HR.out.2.2.2.2.2, Rt.nil w, Rt.nil w⟩ (by go_grown)
  · have e5 : (k == 5) = false := by simpa using k5
    have e : onP k p = (0, np) := by unfold onP; rw [if_neg k5]
    rw [e]
    clear e k5
    go_enter Tryz.func15, Tryz.ntmps15
    go_wp2_with fail
    go_returns
    exact part_end (x := npv) (RP.np w) (by go_grown)
theorem twP_3 {p q : Pt} : twP 3 p q = (0, ⟨false, [], loW p.hl q.hl, hiW p.hh q.hh, [], []⟩) := by unfold twP; rw [if_pos rfl]
theorem twP_6a {p q : Pt} (hf : p.f = true) : twP 6 p q = (0, ⟨false, [], q.k, q.k, [], []⟩) := by unfold twP; rw [if_neg (by omega), if_pos ⟨rfl, hf⟩]
theorem twP_6b {p q : Pt} (hf : p.f = false) (hg : q.f = true) : twP 6 p q = (0, ⟨false, [], p.k, p.k, [], []⟩) := by unfold twP; rw [if_neg (by omega), if_neg (by rw [hf]; simp), if_pos ⟨rfl, hg⟩]
theorem twP_6n {p q : Pt} (hf : p.f = false) (hg : q.f = false) : twP 6 p q = (0, np) := by unfold twP; rw [if_neg (by omega), if_neg (by rw [hf]; simp), if_neg (by rw [hg]; simp), if_neg (by rw [hf]; simp), if_neg (by rw [hg]; simp)]
theorem twP_7a {p q : Pt} (hf : p.f = true) : twP 7 p q = (0, ⟨false, [], [], q.k, q.k, []⟩) := by unfold twP; rw [if_neg (by omega), if_neg (by rintro ⟨h, -⟩; omega), if_neg (by rintro ⟨h, -⟩; omega), if_pos ⟨rfl, hf⟩]
theorem twP_7b {p q : Pt} (hf : p.f = false) (hg : q.f = true) : twP 7 p q = (0, ⟨false, [], p.k, [], [], p.k⟩) := by unfold twP; rw [if_neg (by omega), if_neg (by rintro ⟨h, -⟩; omega), if_neg (by rintro ⟨h, -⟩; omega), if_neg (by rw [hf]; simp), if_pos ⟨rfl, hg⟩]
theorem twP_7n {p q : Pt} (hf : p.f = false) (hg : q.f = false) : twP 7 p q = (0, np) := by unfold twP; rw [if_neg (by omega), if_neg (by rintro ⟨h, -⟩; omega), if_neg (by rintro ⟨h, -⟩; omega), if_neg (by rw [hf]; simp), if_neg (by rw [hg]; simp)]
theorem twP_x {k : Int} {p q : Pt} (h3 : k ≠ 3) (h6 : k ≠ 6) (h7 : k ≠ 7) : twP k p q = (0, np) := by unfold twP; rw [if_neg h3, if_neg (by rintro ⟨h, -⟩; exact h6 h), if_neg (by rintro ⟨h, -⟩; exact h6 h), if_neg (by rintro ⟨h, -⟩; exact h7 h), if_neg (by rintro ⟨h, -⟩; exact h7 h)]
theorem below6 {w0 w : World} {B : Nat} (hb : Below w0.heap.size w0 w) (hB : w0.heap.size ≤ B) (a b c d e f : Value) : Below w0.heap.size w0 (set6 w B a b c d e f) :=
  (((((hb.setCell (p := ⟨B, 0, none⟩) hB a).setCell (p := ⟨B, 1, none⟩) hB b).setCell (p := ⟨B, 2, none⟩) hB c).setCell (p := ⟨B, 3, none⟩) hB d).setCell (p := ⟨B, 4, none⟩) hB e).setCell (p := ⟨B, 5, none⟩) hB f
theorem two3 (w : World) (a b : Pv) (p q : Pt) (ha : RP w a p) (hb : RP w b q) : Calls Tryz.prog 16 #[.int .i64 3, pva a, pva b] w (PartIs (twP 3 p q) w) := by
  obtain ⟨af, ⟨a1, b1, c1⟩, ⟨a2, b2, c2⟩, ⟨a3, b3, c3⟩, ⟨a4, b4, c4⟩, ⟨a5, b5, c5⟩⟩ := a
  obtain ⟨bf, ⟨u1, m1, v1⟩, ⟨u2, m2, v2⟩, ⟨u3, m3, v3⟩, ⟨u4, m4, v4⟩, ⟨u5, m5, v5⟩⟩ := b
  have WI := Lib.hid (fun (W : World) (h : Below w.heap.size w W) => within_any W _ _ _ _ _ _ _ _ (ha.2.2.1.below h) (ha.2.2.2.1.below h) (hb.2.2.1.below h) (hb.2.2.2.1.below h))
  have HA := Lib.hid ha
  have HB := Lib.hid hb
  rw [twP_3]
  clear ha hb
  go_enter Tryz.func16, Tryz.ntmps16
  go_wp2_with fail
  refine (WI.out _ (by go_grown)).mono ?_
  rintro e w2 ⟨x, y, rfl, hx, hy, hb2⟩
  have HX := Lib.hid (And.intro hx hy)
  have HB2 : Hid (Below w.heap.size w w2) := Lib.hid (into (by go_grown) hb2)
  have hz2 := hb2.size
  simp at hz2
  have hr2 := (hb2.block (w.heap.size + 2) (by simp)).trans (new2 w _ _ (.cells #[.bool false, .slice none 0 0, .slice none 0 0, .slice none 0 0, .slice none 0 0, .slice none 0 0] 39))
  have HR2 := Lib.hid hr2
  obtain ⟨k0, k1, k2, k3, k4, k5, f0, f1, f2, f3, f4, f5⟩ := box6 hr2
  clear hx hy hb2 hr2
  go_wp2_with fail
  obtain ⟨z0, z1, z2, z3, z4, z5⟩ := st6c HR2.out (.bool false) (.slice none 0 0) (sv x) (sv y) (.slice none 0 0) (.slice none 0 0)
  refine bodyPost_ret (by simp [results, Tryz.results16, go_sem, z0, z1, z2, z3, z4, z5]; try rfl) rfl ?_
  exact ⟨⟨false, nsl, x, y, nsl, nsl⟩, rfl, ⟨rfl, Rt.nil _, HX.out.1.set6 HR2.out pt_ne _ _ _ _ _ _, HX.out.2.set6 HR2.out pt_ne _ _ _ _ _ _, Rt.nil _, Rt.nil _⟩, below6 HB2.out (by omega) _ _ _ _ _ _⟩
theorem two6a (w : World) (a b : Pv) (p q : Pt) (ha : RP w a p) (hb : RP w b q) (hf : a.f = true) : Calls Tryz.prog 16 #[.int .i64 6, pva a, pva b] w (PartIs (twP 6 p q) w) := by
  obtain ⟨af, ⟨a1, b1, c1⟩, ⟨a2, b2, c2⟩, ⟨a3, b3, c3⟩, ⟨a4, b4, c4⟩, ⟨a5, b5, c5⟩⟩ := a
  obtain ⟨bf, ⟨u1, m1, v1⟩, ⟨u2, m2, v2⟩, ⟨u3, m3, v3⟩, ⟨u4, m4, v4⟩, ⟨u5, m5, v5⟩⟩ := b
  obtain rfl : af = true := hf
  have HA := Lib.hid ha
  have HB := Lib.hid hb
  rw [twP_6a (hf := (ha.1.symm : p.f = _))]
  clear ha hb
  go_enter Tryz.func16, Tryz.ntmps16
  go_wp2_with fail
  all_goals (go_returns; exact part_end (x := ⟨false, nsl, ⟨u1, m1, v1⟩, ⟨u1, m1, v1⟩, nsl, nsl⟩) ⟨rfl, Rt.nil w, HB.out.2.1, HB.out.2.1, Rt.nil w, Rt.nil w⟩ (by go_grown))
theorem two6b (w : World) (a b : Pv) (p q : Pt) (ha : RP w a p) (hb : RP w b q) (hf : a.f = false) (hg : b.f = true) : Calls Tryz.prog 16 #[.int .i64 6, pva a, pva b] w (PartIs (twP 6 p q) w) := by
  obtain ⟨af, ⟨a1, b1, c1⟩, ⟨a2, b2, c2⟩, ⟨a3, b3, c3⟩, ⟨a4, b4, c4⟩, ⟨a5, b5, c5⟩⟩ := a
  obtain ⟨bf, ⟨u1, m1, v1⟩, ⟨u2, m2, v2⟩, ⟨u3, m3, v3⟩, ⟨u4, m4, v4⟩, ⟨u5, m5, v5⟩⟩ := b
  obtain rfl : af = false := hf
  obtain rfl : bf = true := hg
  have HA := Lib.hid ha
  have HB := Lib.hid hb
  rw [twP_6b (hf := (ha.1.symm : p.f = _)) (hg := (hb.1.symm : q.f = _))]
  clear ha hb
  go_enter Tryz.func16, Tryz.ntmps16
  go_wp2_with fail
  all_goals (go_returns; exact part_end (x := ⟨false, nsl, ⟨a1, b1, c1⟩, ⟨a1, b1, c1⟩, nsl, nsl⟩) ⟨rfl, Rt.nil w, HA.out.2.1, HA.out.2.1, Rt.nil w, Rt.nil w⟩ (by go_grown))
theorem two6n (w : World) (a b : Pv) (p q : Pt) (ha : RP w a p) (hb : RP w b q) (hf : a.f = false) (hg : b.f = false) : Calls Tryz.prog 16 #[.int .i64 6, pva a, pva b] w (PartIs (twP 6 p q) w) := by
  obtain ⟨af, ⟨a1, b1, c1⟩, ⟨a2, b2, c2⟩, ⟨a3, b3, c3⟩, ⟨a4, b4, c4⟩, ⟨a5, b5, c5⟩⟩ := a
  obtain ⟨bf, ⟨u1, m1, v1⟩, ⟨u2, m2, v2⟩, ⟨u3, m3, v3⟩, ⟨u4, m4, v4⟩, ⟨u5, m5, v5⟩⟩ := b
  obtain rfl : af = false := hf
  obtain rfl : bf = false := hg
  have HA := Lib.hid ha
  have HB := Lib.hid hb
  rw [twP_6n (hf := (ha.1.symm : p.f = _)) (hg := (hb.1.symm : q.f = _))]
  clear ha hb
  go_enter Tryz.func16, Tryz.ntmps16
  go_wp2_with fail
  all_goals (go_returns; exact part_end (x := npv) (RP.np w) (by go_grown))
theorem two7a (w : World) (a b : Pv) (p q : Pt) (ha : RP w a p) (hb : RP w b q) (hf : a.f = true) : Calls Tryz.prog 16 #[.int .i64 7, pva a, pva b] w (PartIs (twP 7 p q) w) := by
  obtain ⟨af, ⟨a1, b1, c1⟩, ⟨a2, b2, c2⟩, ⟨a3, b3, c3⟩, ⟨a4, b4, c4⟩, ⟨a5, b5, c5⟩⟩ := a
  obtain ⟨bf, ⟨u1, m1, v1⟩, ⟨u2, m2, v2⟩, ⟨u3, m3, v3⟩, ⟨u4, m4, v4⟩, ⟨u5, m5, v5⟩⟩ := b
  obtain rfl : af = true := hf
  have HA := Lib.hid ha
  have HB := Lib.hid hb
  rw [twP_7a (hf := (ha.1.symm : p.f = _))]
  clear ha hb
  go_enter Tryz.func16, Tryz.ntmps16
  go_wp2_with fail
  all_goals (go_returns; exact part_end (x := ⟨false, nsl, nsl, ⟨u1, m1, v1⟩, ⟨u1, m1, v1⟩, nsl⟩) ⟨rfl, Rt.nil w, Rt.nil w, HB.out.2.1, HB.out.2.1, Rt.nil w⟩ (by go_grown))
theorem two7b (w : World) (a b : Pv) (p q : Pt) (ha : RP w a p) (hb : RP w b q) (hf : a.f = false) (hg : b.f = true) : Calls Tryz.prog 16 #[.int .i64 7, pva a, pva b] w (PartIs (twP 7 p q) w) := by
  obtain ⟨af, ⟨a1, b1, c1⟩, ⟨a2, b2, c2⟩, ⟨a3, b3, c3⟩, ⟨a4, b4, c4⟩, ⟨a5, b5, c5⟩⟩ := a
  obtain ⟨bf, ⟨u1, m1, v1⟩, ⟨u2, m2, v2⟩, ⟨u3, m3, v3⟩, ⟨u4, m4, v4⟩, ⟨u5, m5, v5⟩⟩ := b
  obtain rfl : af = false := hf
  obtain rfl : bf = true := hg
  have HA := Lib.hid ha
  have HB := Lib.hid hb
  rw [twP_7b (hf := (ha.1.symm : p.f = _)) (hg := (hb.1.symm : q.f = _))]
  clear ha hb
  go_enter Tryz.func16, Tryz.ntmps16
  go_wp2_with fail
  all_goals (go_returns; exact part_end (x := ⟨false, nsl, ⟨a1, b1, c1⟩, nsl, nsl, ⟨a1, b1, c1⟩⟩) ⟨rfl, Rt.nil w, HA.out.2.1, Rt.nil w, Rt.nil w, HA.out.2.1⟩ (by go_grown))
theorem two7n (w : World) (a b : Pv) (p q : Pt) (ha : RP w a p) (hb : RP w b q) (hf : a.f = false) (hg : b.f = false) : Calls Tryz.prog 16 #[.int .i64 7, pva a, pva b] w (PartIs (twP 7 p q) w) := by
  obtain ⟨af, ⟨a1, b1, c1⟩, ⟨a2, b2, c2⟩, ⟨a3, b3, c3⟩, ⟨a4, b4, c4⟩, ⟨a5, b5, c5⟩⟩ := a
  obtain ⟨bf, ⟨u1, m1, v1⟩, ⟨u2, m2, v2⟩, ⟨u3, m3, v3⟩, ⟨u4, m4, v4⟩, ⟨u5, m5, v5⟩⟩ := b
  obtain rfl : af = false := hf
  obtain rfl : bf = false := hg
  have HA := Lib.hid ha
  have HB := Lib.hid hb
  rw [twP_7n (hf := (ha.1.symm : p.f = _)) (hg := (hb.1.symm : q.f = _))]
  clear ha hb
  go_enter Tryz.func16, Tryz.ntmps16
  go_wp2_with fail
  all_goals (go_returns; exact part_end (x := npv) (RP.np w) (by go_grown))
theorem twoX (w : World) (k : Int) (a b : Pv) (p q : Pt) (ha : RP w a p) (hb : RP w b q) (h3 : k ≠ 3) (h6 : k ≠ 6) (h7 : k ≠ 7) : Calls Tryz.prog 16 #[.int .i64 k, pva a, pva b] w (PartIs (twP k p q) w) := by
  obtain ⟨af, ⟨a1, b1, c1⟩, ⟨a2, b2, c2⟩, ⟨a3, b3, c3⟩, ⟨a4, b4, c4⟩, ⟨a5, b5, c5⟩⟩ := a
  obtain ⟨bf, ⟨u1, m1, v1⟩, ⟨u2, m2, v2⟩, ⟨u3, m3, v3⟩, ⟨u4, m4, v4⟩, ⟨u5, m5, v5⟩⟩ := b
  have e3 : (k == 3) = false := by simpa using h3
  have e6 : (k == 6) = false := by simpa using h6
  have e7 : (k == 7) = false := by simpa using h7
  have HA := Lib.hid ha
  have HB := Lib.hid hb
  rw [twP_x h3 h6 h7]
  clear ha hb
  go_enter Tryz.func16, Tryz.ntmps16
  go_wp2_with fail
  all_goals (go_returns; exact part_end (x := npv) (RP.np w) (by go_grown))
/-- What two say. -/
theorem two_any (w : World) (k : Int) (a b : Pv) (p q : Pt) (ha : RP w a p) (hb : RP w b q) : Calls Tryz.prog 16 #[.int .i64 k, pva a, pva b] w (PartIs (twP k p q) w) := by
  by_cases h3 : k = 3
  · subst h3; exact two3 w a b p q ha hb
  by_cases h6 : k = 6
  · subst h6
    cases hf : a.f
    · cases hg : b.f
      · exact two6n w a b p q ha hb hf hg
      · exact two6b w a b p q ha hb hf hg
    · exact two6a w a b p q ha hb hf
  by_cases h7 : k = 7
  · subst h7
    cases hf : a.f
    · cases hg : b.f
      · exact two7n w a b p q ha hb hf hg
      · exact two7b w a b p q ha hb hf hg
    · exact two7a w a b p q ha hb hf
  exact twoX w k a b p q ha hb h3 h6 h7
end Go.Proofs.YtmfkdpfcpdmkdaaGreatDoor.bd

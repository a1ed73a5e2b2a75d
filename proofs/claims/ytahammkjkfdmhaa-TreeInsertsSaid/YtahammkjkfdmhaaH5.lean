/- A page where it stands: within its bounds? -/
import Derived.Test.YtahammkjkfdmhaaHa
import Derived.StillTailTactics
import Derived.Deep.RegionHeld3
import Derived.Deep.AppendLies
namespace Go.Proofs.Ytahammkjkfdmhaa
open Go.ChangeShapes Go.WideShapes Go.ChangeAt Go.RowKit
set_option linter.unusedVariables false
set_option linter.unusedSimpArgs false
set_option maxHeartbeats 1000000
theorem cmp_le {a b : Key} : cmpK a b ≤ 0 ↔ kl b a = false := by
  have := cmpK_gt a b
  rcases h : kl b a with _ | _
  · rw [h] at this; simp at this; simp [this]
  · rw [h] at this; simp at this; simp; exact this
theorem within_any (w : World) (o1 o2 o3 : Nat → Prop) (B : Nat) (u v x : Value) (lo hi k : Key) (h1 : w.cell? ⟨B, 1, none⟩ = some u) (h2 : w.cell? ⟨B, 2, none⟩ = some v) (hu : RB w o1 u lo) (hv : RB w o2 v hi) (hx : RB w o3 x k) :
    Calls Try.prog 70 #[x, .pointer (some ⟨B, 0, none⟩)] w (Ans (inB lo hi k) w) := by
  have hv1 := hv.1
  obtain ⟨_, ao, cap, rfl, hm1, hm2, _, _⟩ := hv1
  have HU := Lib.hid hu
  have HV := Lib.hid hv
  have HX := Lib.hid hx
  obtain ⟨m, hm⟩ : ∃ m, m = hi.length := ⟨_, rfl⟩
  rw [← hm] at h2 HV hm1
  unfold maxLen at hm2
  have HM := Lib.hid hm
  clear hu hv hx hm
  have hin := @cmp_le lo k
  have hin2 := @cmpK_lt k hi
  have hrl := cmpK_rng lo k
  have HI := Lib.hid hin
  have HI2 := Lib.hid hin2
  clear hin hin2
  by_cases c1 : cmpK lo k ≤ 0
  · have C1 := Lib.hid (HI.out.1 c1)
    rcases Nat.eq_zero_or_pos m with h0 | h0
    · subst h0
      go_enter Try.func70, Try.ntmps70
      go_wp2_with (go_at_call 41; ((with_reducible refine (cmp_any _ _ _ _ _ HU.out.rd HX.out.rd).mono ?_); rintro e w' ⟨rfl, rfl⟩))
      go_ret
      exact ans_yes ⟨C1.out, .inl (List.eq_nil_of_length_eq_zero HM.out.symm)⟩
    · have HV' : Hid (Rd w 1 hi.length (.slice ao m cap) (bc hi)) := by rw [← HM.out]; have := HV.out.1; rw [← HM.out] at this; exact this
      go_enter Try.func70, Try.ntmps70
      go_wp2_with (first | (go_at_call 41; ((with_reducible refine (cmp_any _ _ _ _ _ HU.out.rd HX.out.rd).mono ?_); rintro e w' ⟨rfl, rfl⟩)) | (go_at_call 41; ((with_reducible refine (cmp_any _ _ _ _ _ HX.out.rd HV'.out).mono ?_); rintro e w' ⟨rfl, rfl⟩)))
      go_ret
      refine ans_is ?_
      simp only [decide_eq_true_eq]
      rw [HI2.out]
      refine ⟨fun h => ⟨C1.out, .inr h⟩, fun h => ?_⟩
      rcases h.2 with g | g
      · rw [g] at HM; have := HM.out; simp at this; omega
      · exact g
  · have c1' : 0 < cmpK lo k := by omega
    have C1 : Hid (¬ inB lo hi k) := fun h => c1 (HI.out.2 h.1)
    clear c1 hrl
    go_enter Try.func70, Try.ntmps70
    go_wp2_with (go_at_call 41; ((with_reducible refine (cmp_any _ _ _ _ _ HU.out.rd HX.out.rd).mono ?_); rintro e w' ⟨rfl, rfl⟩))
    go_ret
    exact ans_no C1.out
/-- A slice of keys, of none too: where it lies is known where there is one. -/
theorem keysF {w : World} {ok : Nat → Prop} {v : Value} {ks : List Key} (h : RK w ok v ks) :
    ∃ ao cap, ∃ f : Nat → Value, v = .slice ao ks.length cap ∧ ks.length ≤ cap ∧ cap ≤ maxLen ∧ ∀ i, i < ks.length → ∃ b o, ao = some ⟨b, o, none⟩ ∧ b < w.heap.size ∧ ok b ∧ w.cell? ⟨b, o + i, none⟩ = some (f i) ∧ RB w ok (f i) (ks.getD i []) := by
  rcases Nat.eq_zero_or_pos ks.length with h0 | h0
  · obtain ⟨vs, hk1, _⟩ := h
    obtain ⟨_, ao, cap, rfl, h3, h4, _, _⟩ := hk1
    exact ⟨ao, cap, fun _ => undef, rfl, h3, h4, fun i hi => by omega⟩
  · obtain ⟨b, o, cap, f, rfl, h1, h2, h3, h4, h5⟩ := keys_of h h0
    exact ⟨_, cap, f, rfl, h1, h2, fun i hi => ⟨b, o, rfl, h3, h4, (h5 i hi).1, (h5 i hi).2⟩⟩
theorem ans_eq {P Q : Prop} {w w' : World} {e : Ending} (h : Ans P w e w') (hp : P ↔ Q) : Ans Q w e w' := by
  obtain ⟨b, h1, h2, h3⟩ := h
  exact ⟨b, h1, h2.trans hp, h3⟩
/-- The same, and the world behind it is this one. -/
def AnsX (P : Prop) (W : World) (e : Ending) (w' : World) : Prop := ∃ b : Bool, e = .returned (.bool b) ∧ (b = true ↔ P) ∧ w' = W
theorem ansx {P : Prop} {W w' : World} {b : Bool} (h : b = true ↔ P) (hw : w' = W) : AnsX P W (.returned (.bool b)) w' := ⟨b, rfl, h, hw⟩
theorem holds_x (w : World) (o1 o2 o3 : Nat → Prop) (pg nx : Int) (leaf : Bool) (u v kk d h : Value) (lo hi hg : Key) (ks : List Key) (hu : RB w o1 u lo) (hv : RB w o2 v hi) (hk : RK w o3 kk ks) (hh : RB w o3 h hg) :
    Calls Try.prog 66 #[.agg #[.int .i64 pg, u, v], .agg #[.bool leaf, kk, d, h, .int .i64 nx]] w (AnsX ((∀ k ∈ ks, inB lo hi k) ∧ hg = hi) ((w.alloc (.cells #[.int .i64 pg, u, v] 85)).alloc (.cells #[.bool leaf, kk, d, h, .int .i64 nx] 43))) := by
  have HU := Lib.hid hu
  have HV := Lib.hid hv
  have HH := Lib.hid hh
  have hlt : hg = hi ↔ decide (hg = hi) = true := by simp
  have HE := Lib.hid hlt
  clear hu hv hh hlt
  obtain ⟨ao, cap, f, rfl, hn, hcap, hc⟩ := keysF hk
  obtain ⟨n, hnn⟩ : ∃ n, n = ks.length := ⟨_, rfl⟩
  rw [← hnn] at hn hc
  rw [← hnn]
  unfold maxLen at hcap
  have HC := Lib.hid hc
  have HN := Lib.hid hnn
  clear hc hk hnn
  go_enter Try.func66, Try.ntmps66
  go_wp2
  obtain ⟨W, hW⟩ : ∃ W : World, W = (w.alloc (.cells #[.int .i64 pg, u, v] 85)).alloc (.cells #[.bool leaf, .slice ao n cap, d, h, .int .i64 nx] 43) := ⟨_, rfl⟩
  have hBW : Below w.heap.size w W := by rw [hW]; go_grown
  have e1 : W.cell? ⟨w.heap.size, 1, none⟩ = some u := by rw [hW]; simp
  have e2 : W.cell? ⟨w.heap.size, 2, none⟩ = some v := by rw [hW]; simp
  have e3 : W.cell? ⟨w.heap.size + 1, 3, none⟩ = some h := by rw [hW]; simp
  have e4 : W.cell? ⟨w.heap.size + 1, 1, none⟩ = some (.slice ao n cap) := by rw [hW]; simp
  rw [← hW]
  have BW := Lib.hid hBW
  have HC' : Hid (∀ i, i < n → ∃ b o, ao = some ⟨b, o, none⟩ ∧ W.cell? ⟨b, o + i, none⟩ = some (f i) ∧ RB W o3 (f i) (ks.getD i [])) := fun i hi => by
    obtain ⟨b, o, g0, hb, _, g1, g2⟩ := HC.out i hi
    exact ⟨b, o, g0, (BW.out.cell (p := ⟨b, o + i, none⟩) hb).trans g1, g2.below BW.out⟩
  have HW := Lib.hid hW
  clear hBW hW HC
  go_loop [12] (fun i => ∃ k : Nat, k ≤ n ∧ i = .int .i64 (k : Int) ∧ ∀ s ∈ ks.take k, inB lo hi s) (fun i => n - (intOf i).toNat)
  case atStart => exact ⟨0, by omega, rfl, by simp⟩
  case round =>
    obtain ⟨k, hk, rfl, hno⟩ := hrel
    have HNO := Lib.hid hno
    clear hno
    by_cases hlt : k < n
    · obtain ⟨b, o, rfl, c1, c2⟩ := HC'.out k hlt
      obtain ⟨s, hs⟩ : ∃ s, s = ks.getD k [] := ⟨_, rfl⟩
      rw [← hs] at c2
      have HS := Lib.hid hs
      have C2 := Lib.hid c2
      have hkl : k < ks.length := by rw [← HN.out]; exact hlt
      have HK := Lib.hid hkl
      clear c2 hs hkl
      have cc := within_any W o1 o2 o3 w.heap.size u v (f k) lo hi s e1 e2 (HU.out.below BW.out) (HV.out.below BW.out) C2.out
      have CC := Lib.hid cc
      clear cc
      go_wp2_with (go_at_call 70; refine CC.out.mono ?_; rintro e w' ⟨q, rfl, hq, rfl⟩; have HQ := Lib.hid hq; clear hq; cases q)
      · go_ret
        refine ansx ?_ HW.out
        simp only [Bool.false_eq_true, false_iff]
        intro g
        have h1 := g.1 s (by
          rw [HS.out]
          simp only [List.getD, List.getElem?_eq_getElem HK.out, Option.getD_some]
          exact List.getElem_mem HK.out)
        have := HQ.out.2 h1
        cases this
      · go_round
        case rel =>
          refine ⟨k + 1, by omega, by go_num, ?_⟩
          rw [take_nextG (d := []) HK.out, ← HS.out]
          intro x hx
          simp only [List.mem_append, List.mem_singleton] at hx
          rcases hx with hx | rfl
          · exact HNO.out x hx
          · have := HQ.out
            simp at this
            exact this
        case measure => simp [intOf]; omega
    · obtain rfl : k = n := by omega
      have e : ks.take k = ks := List.take_of_length_le (by rw [← HN.out]; exact Nat.le_refl _)
      have h1 := HNO.out
      rw [e] at h1
      have H1 := Lib.hid h1
      clear e h1
      go_wp2_with (go_at_call 71; refine (eql_any _ _ _ _ _ (HH.out.below BW.out).1 (HV.out.below BW.out).1).mono ?_; rintro e w' ⟨rfl, rfl⟩)
      go_ret
      exact ansx ⟨fun h => ⟨H1.out, HE.out.2 h⟩, fun h => HE.out.1 h.2⟩ HW.out
theorem holds_any (w : World) (o1 o2 o3 : Nat → Prop) (pg nx : Int) (leaf : Bool) (u v kk d h : Value) (lo hi hg : Key) (ks : List Key) (hu : RB w o1 u lo) (hv : RB w o2 v hi) (hk : RK w o3 kk ks) (hh : RB w o3 h hg) :
    Calls Try.prog 66 #[.agg #[.int .i64 pg, u, v], .agg #[.bool leaf, kk, d, h, .int .i64 nx]] w (AnsB ((∀ k ∈ ks, inB lo hi k) ∧ hg = hi) w) :=
  (holds_x w o1 o2 o3 pg nx leaf u v kk d h lo hi hg ks hu hv hk hh).mono fun e w' ⟨b, h1, h2, h3⟩ => ⟨b, h1, h2, by rw [h3]; go_grown⟩
end Go.Proofs.Ytahammkjkfdmhaa
/- Words on levels in memory; pages by their places; what stands below a level. -/
namespace Go.Proofs.Ytahammkjkfdmhaa
open Go.ChangeShapes Go.WideShapes Go.ChangeAt Go.RowKit
set_option linter.unusedVariables false
set_option linter.unusedSimpArgs false
set_option maxHeartbeats 1000000
/-- The cells of a level. -/
def SC (w : World) (ok : Nat → Prop) : List Value → List Spot → Prop
  | vs, [] => vs = []
  | vs, x :: l => ∃ u h vs', vs = .int .i64 (x.1 : Int) :: u :: h :: vs' ∧ RB w ok u x.2.1 ∧ RB w ok h x.2.2 ∧ SC w ok vs' l
theorem SC.agree {w w' : World} {ok : Nat → Prop} (hag : Agree ok w w') : ∀ {l : List Spot} {vs : List Value}, SC w ok vs l → SC w' ok vs l
  | [], _, h => h
  | x :: l, _, ⟨u, h, vs', e, h1, h2, h3⟩ => ⟨u, h, vs', e, h1.agree hag, h2.agree hag, h3.agree hag⟩
theorem SC.below {w w' : World} {ok : Nat → Prop} {l : List Spot} {vs : List Value} (h : SC w ok vs l) (hb : Below w.heap.size w w') : SC w' ok vs l := h.agree (Agree.below hb ok)
theorem SC.app {w : World} {ok : Nat → Prop} {m : List Spot} {us : List Value} (hm : SC w ok us m) : ∀ {l : List Spot} {vs : List Value}, SC w ok vs l → SC w ok (vs ++ us) (l ++ m)
  | [], _, rfl => hm
  | x :: l, _, ⟨u, h, vs', rfl, h1, h2, h3⟩ => ⟨u, h, vs' ++ us, rfl, h1, h2, hm.app h3⟩
theorem SC.one {w : World} {ok : Nat → Prop} {n : Nat} {u h : Value} {lo hi : Key} (h1 : RB w ok u lo) (h2 : RB w ok h hi) : SC w ok [.int .i64 (n : Int), u, h] [(n, lo, hi)] := ⟨u, h, [], rfl, h1, h2, rfl⟩
theorem SC.len {w : World} {ok : Nat → Prop} : ∀ {l : List Spot} {vs : List Value}, SC w ok vs l → vs.length = l.length * 3
  | [], _, rfl => rfl
  | x :: l, _, ⟨u, h, vs', rfl, h1, h2, h3⟩ => by have := h3.len; simp only [List.length_cons]; omega
def sp0 : Spot := (0, [], [])
theorem SC.at {w : World} {ok : Nat → Prop} : ∀ {l : List Spot} {vs : List Value} {i : Nat}, SC w ok vs l → i < l.length →
    ∃ u h, vs[i * 3]? = some (.int .i64 ((l.getD i sp0).1 : Int)) ∧ vs[i * 3 + 1]? = some u ∧ vs[i * 3 + 2]? = some h ∧ RB w ok u (l.getD i sp0).2.1 ∧ RB w ok h (l.getD i sp0).2.2
  | [], _, i, _, hi => by simp at hi
  | x :: l, _, 0, ⟨u, h, vs', rfl, h1, h2, h3⟩, _ => ⟨u, h, by simp, by simp, by simp, h1, h2⟩
  | x :: l, _, i + 1, ⟨u, h, vs', rfl, h1, h2, h3⟩, hi => by
    obtain ⟨u', h', g1, g2, g3, g4, g5⟩ := h3.at (i := i) (by simpa using hi)
    have e : (i + 1) * 3 = i * 3 + 1 + 1 + 1 := by omega
    rw [e]
    exact ⟨u', h', by simpa using g1, by simpa using g2, by simpa using g3, by simpa using g4, by simpa using g5⟩
/-- A level. -/
def RS (w : World) (ok : Nat → Prop) (v : Value) (l : List Spot) : Prop := ∃ vs, Rd w 3 l.length v vs ∧ SC w ok vs l
theorem RS.below {w w' : World} {ok : Nat → Prop} {v : Value} {l : List Spot} (h : RS w ok v l) (hb : Below w.heap.size w w') : RS w' ok v l := by
  obtain ⟨vs, h1, h2⟩ := h
  exact ⟨vs, h1.below hb, h2.below hb⟩
theorem spotsF {w : World} {ok : Nat → Prop} {v : Value} {l : List Spot} (h : RS w ok v l) :
    ∃ ao cap, ∃ f g : Nat → Value, v = .slice ao l.length cap ∧ l.length ≤ cap ∧ cap ≤ maxLen ∧ ∀ i, i < l.length → ∃ b o, ao = some ⟨b, o, none⟩ ∧ b < w.heap.size ∧
      w.cell? ⟨b, o + i * 3, none⟩ = some (.int .i64 ((l.getD i sp0).1 : Int)) ∧ w.cell? ⟨b, o + i * 3 + 1, none⟩ = some (f i) ∧ w.cell? ⟨b, o + i * 3 + 2, none⟩ = some (g i) ∧ RB w ok (f i) (l.getD i sp0).2.1 ∧ RB w ok (g i) (l.getD i sp0).2.2 := by
  obtain ⟨vs, h1, h2⟩ := h
  rcases Nat.eq_zero_or_pos l.length with h0 | h0
  · obtain ⟨_, ao, cap, rfl, h3, h4, _, _⟩ := h1
    exact ⟨ao, cap, fun _ => undef, fun _ => undef, rfl, h3, h4, fun i hi => by omega⟩
  · obtain ⟨b, o, cap, rfl, g1, g2, g3, g4⟩ := h1.pos h0 (by omega)
    refine ⟨_, cap, fun i => vs.getD (i * 3 + 1) undef, fun i => vs.getD (i * 3 + 2) undef, rfl, g1, g2, fun i hi => ⟨b, o, rfl, g3, ?_⟩⟩
    obtain ⟨u, x, k1, k2, k3, k4, k5⟩ := h2.at hi
    have e1 : vs.getD (i * 3 + 1) undef = u := by simp [List.getD, k2]
    have e2 : vs.getD (i * 3 + 2) undef = x := by simp [List.getD, k3]
    refine ⟨g4 _ _ k1, ?_, ?_, ?_, ?_⟩
    · rw [show o + i * 3 + 1 = o + (i * 3 + 1) by omega, g4 _ _ k2]; exact congrArg some e1.symm
    · rw [show o + i * 3 + 2 = o + (i * 3 + 2) by omega, g4 _ _ k3]; exact congrArg some e2.symm
    · show RB w ok (vs.getD (i * 3 + 1) undef) _
      rw [e1]; exact k4
    · show RB w ok (vs.getD (i * 3 + 2) undef) _
      rw [e2]; exact k5
/-- A page's cells at its place. -/
def PageAt (w : World) (ok : Nat → Prop) (b o i : Nat) (k d h : Value) (p : Pg) : Prop :=
  w.cell? ⟨b, o + i * 5, none⟩ = some (.bool p.leaf) ∧ w.cell? ⟨b, o + i * 5 + 1, none⟩ = some k ∧ w.cell? ⟨b, o + i * 5 + 2, none⟩ = some d ∧ w.cell? ⟨b, o + i * 5 + 3, none⟩ = some h ∧ w.cell? ⟨b, o + i * 5 + 4, none⟩ = some (.int .i64 p.next) ∧
    RK w ok k p.keys ∧ RI w ok d p.kids ∧ RB w ok h p.high
theorem PageAt.below {w w' : World} {ok : Nat → Prop} {b o i : Nat} {k d h : Value} {p : Pg} (hp : PageAt w ok b o i k d h p) (hb : Below w.heap.size w w') : PageAt w' ok b o i k d h p := by
  obtain ⟨h1, h2, h3, h4, h5, h6, h7, h8⟩ := hp
  have hlt : b < w.heap.size := lt_cell h1
  have ce : ∀ j, w'.cell? ⟨b, j, none⟩ = w.cell? ⟨b, j, none⟩ := fun j => hb.cell (p := ⟨b, j, none⟩) hlt
  exact ⟨(ce _).trans h1, (ce _).trans h2, (ce _).trans h3, (ce _).trans h4, (ce _).trans h5, h6.below hb, h7.below hb, h8.below hb⟩
theorem pagesF {w : World} {ok : Nat → Prop} {v : Value} {T : Tr} (h : RT w ok v T) :
    ∃ ao cap, ∃ k d g : Nat → Value, v = .agg #[.slice ao T.pages.length cap, .int .i64 T.root] ∧ T.pages.length ≤ cap ∧ cap ≤ maxLen ∧ ∀ i, i < T.pages.length → ∃ b o, ao = some ⟨b, o, none⟩ ∧ b < w.heap.size ∧ ok b ∧
      PageAt w ok b o i (k i) (d i) (g i) (T.pages.getD i noPg) := by
  obtain ⟨s, vs, rfl, h1, h2, h3, h4⟩ := h
  rcases Nat.eq_zero_or_pos T.pages.length with h0 | h0
  · obtain ⟨_, ao, cap, rfl, g3, g4, _, _⟩ := h1
    exact ⟨ao, cap, fun _ => undef, fun _ => undef, fun _ => undef, rfl, g3, g4, fun i hi => by omega⟩
  · obtain ⟨b, o, cap, rfl, g1, g2, g3, g4⟩ := h1.pos h0 (by omega)
    refine ⟨_, cap, fun i => vs.getD (i * 5 + 1) undef, fun i => vs.getD (i * 5 + 2) undef, fun i => vs.getD (i * 5 + 3) undef, rfl, g1, g2, fun i hi => ⟨b, o, rfl, g3, h2 _ _ _ rfl h0, ?_⟩⟩
    have e : T.pages.getD i noPg = T.pages[i] := by simp [List.getD, hi]
    rw [e]
    obtain ⟨k, d, x, q0, q1, q2, q3⟩ := h4 i _ (List.getElem?_eq_getElem hi)
    have at_ : ∀ j (y : Value), [Value.bool T.pages[i].leaf, k, d, x, .int .i64 T.pages[i].next][j]? = some y → vs[i * 5 + j]? = some y := by
      intro j y hy
      rw [← q0, List.getElem?_take] at hy
      split at hy
      · rw [List.getElem?_drop] at hy; exact hy
      · cases hy
    have a0 := at_ 0 _ rfl
    have a1 := at_ 1 _ rfl
    have a2 := at_ 2 _ rfl
    have a3 := at_ 3 _ rfl
    have a4 := at_ 4 _ rfl
    have e1 : vs.getD (i * 5 + 1) undef = k := by simp [List.getD, a1]
    have e2 : vs.getD (i * 5 + 2) undef = d := by simp [List.getD, a2]
    have e3 : vs.getD (i * 5 + 3) undef = x := by simp [List.getD, a3]
    simp only [e1, e2, e3]
    exact ⟨g4 _ _ a0, g4 _ _ a1, g4 _ _ a2, g4 _ _ a3, g4 _ _ a4, q1, q2, q3⟩
theorem RT.below {w w' : World} {ok : Nat → Prop} {v : Value} {t : Tr} (h : RT w ok v t) (hb : Below w.heap.size w w') : RT w' ok v t := h.agree (Agree.below hb ok)
theorem intsF {w : World} {ok : Nat → Prop} {v : Value} {l : List Int} (h : RI w ok v l) :
    ∃ ao cap, v = .slice ao l.length cap ∧ l.length ≤ cap ∧ cap ≤ maxLen ∧ ∀ i, i < l.length → ∃ b o, ao = some ⟨b, o, none⟩ ∧ b < w.heap.size ∧ ok b ∧ w.cell? ⟨b, o + i, none⟩ = some (.int .i64 (l.getD i 0)) := by
  rcases Nat.eq_zero_or_pos l.length with h0 | h0
  · obtain ⟨⟨_, ao, cap, rfl, h3, h4, _, _⟩, _⟩ := h
    exact ⟨ao, cap, rfl, h3, h4, fun i hi => by omega⟩
  · obtain ⟨b, o, cap, rfl, h1, h2, h3, h4, h5⟩ := ints_of h h0
    exact ⟨_, cap, rfl, h1, h2, fun i hi => ⟨b, o, rfl, h3, h4, h5 i hi⟩⟩
/-- The kids of a page with their bounds, one by one. -/
theorem kidsB_len (lo hi : Key) : ∀ (cs : List Int) (ss : List Key), (kidsB lo hi cs ss).length = cs.length
  | [], _ => by simp [kidsB]
  | c :: cs, [] => by simp [kidsB, kidsB_len hi hi cs []]
  | c :: cs, s :: ss => by simp [kidsB, kidsB_len s hi cs ss]
theorem kidsB_at : ∀ (ss : List Key) (cs : List Int) (lo hi : Key) (k : Nat), cs.length = ss.length + 1 → k ≤ ss.length →
    (kidsB lo hi cs ss).getD k sp0 = ((cs.getD k 0).toNat, (if k = 0 then lo else ss.getD (k - 1) []), if k < ss.length then ss.getD k [] else hi)
  | [], [c], lo, hi, k, _, hk => by
    have : k = 0 := by simpa using hk
    subst this
    simp [kidsB]
  | s :: ss, c :: cs, lo, hi, 0, _, _ => by simp [kidsB]
  | s :: ss, c :: cs, lo, hi, k + 1, hl, hk => by
    have ih := kidsB_at ss cs s hi k (by simpa using hl) (by simpa using hk)
    simp only [kidsB, List.getD_cons_succ, ih, List.length_cons, Nat.add_lt_add_iff_right, Nat.add_eq_zero_iff, Nat.one_ne_zero, and_false, if_false, Nat.add_sub_cancel]
    cases k with
    | zero => simp
    | succ k => simp
  | [], [], _, _, _, hl, _ => by simp at hl
  | [], _ :: _ :: _, _, _, _, hl, _ => by simp at hl
  | _ :: _, [], _, _, _, hl, _ => by simp at hl
theorem RB.cell {w : World} {ok : Nat → Prop} {v : Value} {l : Key} (h : RB w ok v l) : v.oneCell' = true := by
  obtain ⟨⟨_, ao, cap, rfl, _⟩, _⟩ := h
  rfl
theorem Try.info85 : (Try.prog.info? 85).map (fun i => (i.zero, i.size, i.bytes)) = some (some (.agg #[.int .i64 0, .slice none 0 0, .slice none 0 0]), 3, 56) := by kernel_rfl
theorem Try.info3 : (Try.prog.info? 3).map (fun i => (i.zero, i.size, i.bytes)) = some (some (.int .i64 0), 1, 8) := by kernel_rfl
section
variable {ops : Array Oper} {rest : List Oper} {o : Oper} {a : Act} {Q : Exit → Act → World → Prop}
/-- 'append(l, x, ..)' of elements of some cells each, l the call's own. -/
theorem apx (w : World) (m : Nat) (hgd : o.guard = none) (s x : Operand) (t e : TypeId) (z : Value) (size bytes : Nat) (ht : Try.prog.underlying t = some (.slice e)) (hinf : (Try.prog.info? e).map (fun i => (i.zero, i.size, i.bytes)) = some (some z, size, bytes)) (hzs : z.cells.size = size) (hsz : 0 < size)
    (ho : o.op = .call { callee := .builtin .append, args := #[s, x], argTypes := #[t, t] })
    {B n : Nat} {v : Value} {xs : List Value} (hown : w.ownsRow B e size v n xs) (hB : B ≤ w.heap.size) (hnm : (n + m) * bytes ≤ 140737488355328) (h63 : n + m ≤ maxLen) (news : List Value) (hl : news.length = m * size) (hX : ∀ u ∈ news, u.oneCell' = true)
    (H : Nat) (hH : w.heap.size = H) (hs : a.eval s = v) (hx : a.eval x = .slice (some ⟨H, 0, none⟩) m m)
    (h : ∀ v' w', w'.ownsRow B e size v' (n + m) (xs ++ news) → Below B w w' → w.grownBy w' v.ownBlock → (v'.ownBlock = v.ownBlock ∨ v'.ownBlock = some (H + 1)) → wpList Try.prog ops Q rest (a.put o.dst v') w') : wpList Try.prog ops Q (o :: rest) a (w.alloc (.cells news.toArray e)) := by
  subst hH
  obtain ⟨i0, hi, hz0, hz1, hz2⟩ := info_parts hinf
  refine wpList_append_own_at _ hgd s x _ ho B e i0 z size bytes ht hi hz0 hz1 hz2 hzs hsz v n xs hs (hown.alloc _) _ m m news hx hl (new_cells w news _) hX h63 hnm (by simp; omega) ?_
  intro v' w' h1 h2 h3 h4
  have hg : w.grownBy w' v.ownBlock := (World.grownBy_alloc w _ _).trans h2
  exact h v' w' h1 ((Below.refl B w).grown hg hB (own_ge hown)) hg (by simpa using h4)
end
theorem rt_shape {w : World} {ok : Nat → Prop} {v : Value} {T : Tr} (h : RT w ok v T) : ∃ ao n cap, v = .agg #[.slice ao n cap, .int .i64 T.root] := by
  obtain ⟨ao, cap, _, _, _, e, _⟩ := pagesF h
  exact ⟨ao, _, cap, e⟩
end Go.Proofs.Ytahammkjkfdmhaa
/- What stands below a level. -/
namespace Go.Proofs.Ytahammkjkfdmhaa
open Go.ChangeShapes Go.WideShapes Go.ChangeAt Go.RowKit
set_option linter.unusedVariables false
set_option linter.unusedSimpArgs false
set_option maxHeartbeats 2000000
set_option maxRecDepth 100000
theorem Agree.lt {ok : Nat → Prop} {B : Nat} {w w' : World} (h : ∀ b, ok b → b < B) (hb : Below B w w') : Agree ok w w' := fun b h1 _ => hb.block b (h b h1)
theorem RB.sh {w : World} {ok : Nat → Prop} {v : Value} {l : Key} (h : RB w ok v l) : ∃ ao cap, v = .slice ao l.length cap := by
  obtain ⟨⟨_, ao, cap, rfl, _⟩, _⟩ := h
  exact ⟨ao, cap, rfl⟩
theorem sp_eta (x : Spot) : x = (x.1, x.2.1, x.2.2) := rfl
theorem downL_next {ps : List Pg} {l : List Spot} {i : Nat} (h : i < l.length) : downL ps (l.take (i + 1)) = downL ps (l.take i) ++ downP ps (l.getD i sp0) := by
  rw [take_nextG (d := sp0) h]
  simp [downL]
theorem own_to {w : World} {B e s n n' : Nat} {v : Value} {xs ys : List Value} (h : w.ownsRow B e s v n xs) (hn : n = n') (hx : xs = ys) : w.ownsRow B e s v n' ys := by subst hn; subst hx; exact h
theorem downL_len {ps : List Pg} : ∀ {l : List Spot}, (∀ x ∈ l, OkQ (ps.getD x.1 noPg) ps.length) → (downL ps l).length ≤ 5 * l.length
  | [], _ => by simp [downL]
  | x :: l, h => by
    have ih := downL_len (l := l) fun y hy => h y (by simp [hy])
    have hx := h x (by simp)
    have h1 : (downP ps x).length ≤ 5 := by
      unfold downP
      split
      · simp
      · rw [kidsB_len]
        have := hx.kids
        have := hx.keys
        split at * <;> omega
    rw [downL_cons, List.length_append, List.length_cons]
    omega
/-- Owned, and read as a level. -/
def OS (w : World) (B : Nat) (ok : Nat → Prop) (v : Value) (l : List Spot) : Prop := ∃ vs, w.ownsRow B 85 3 v l.length vs ∧ SC w ok vs l
theorem OS.rs {w : World} {B : Nat} {ok : Nat → Prop} {v : Value} {l : List Spot} (h : OS w B ok v l) : RS w ok v l := by
  obtain ⟨vs, h1, h2⟩ := h
  exact ⟨vs, Rd.own h1, h2⟩
theorem OS.below {w w' : World} {B : Nat} {ok : Nat → Prop} {v : Value} {l : List Spot} (h : OS w B ok v l) (hb : Below w.heap.size w w') : OS w' B ok v l := by
  obtain ⟨vs, h1, h2⟩ := h
  exact ⟨vs, own_below h1 hb, h2.below hb⟩
theorem below_any (w : World) (ok : Nat → Prop) (hok : ∀ b, ok b → b < w.heap.size) (tv lv : Value) (T : Tr) (l : List Spot) (ht : RT w ok tv T) (hl : RS w ok lv l) (hq : ∀ p ∈ T.pages, OkQ p T.pages.length) (hn : ∀ x ∈ l, x.1 < T.pages.length) (hll : l.length ≤ 100000) :
    Calls Try.prog 58 #[tv, lv] w fun e w' => ∃ v', e = .returned v' ∧ OS w' w.heap.size ok v' (downL T.pages l) ∧ Below w.heap.size w w' := by
  obtain ⟨ao, cap, kf, df, gf, rfl, g1, g2, g3⟩ := pagesF ht
  obtain ⟨al, lcap, uf, hf, rfl, e1, e2, e3⟩ := spotsF hl
  obtain ⟨N, hN⟩ : ∃ N, N = T.pages.length := ⟨_, rfl⟩
  obtain ⟨L, hL⟩ : ∃ L, L = l.length := ⟨_, rfl⟩
  rw [← hN] at g1 g3
  rw [← hL] at e1 e3 hll
  rw [← hN, ← hL]
  unfold maxLen at g2 e2
  have HN := Lib.hid hN
  have HL := Lib.hid hL
  have HP := Lib.hid g3
  have HS := Lib.hid e3
  have HQ := Lib.hid hq
  have HI := Lib.hid hn
  clear hN hL g3 e3 ht hl hq hn
  go_enter Try.func58, Try.ntmps58
  go_wp2
  go_loopw [5, 14] (fun v' i wr => ∃ k : Nat, k ≤ L ∧ i = .int .i64 (k : Int) ∧ OS wr (w.heap.size + 1) ok v' (downL T.pages (l.take k)) ∧ Below w.heap.size w wr ∧ w.heap.size < wr.heap.size ∧ wr.cell? ⟨w.heap.size, 0, none⟩ = some (.slice ao N cap)) (fun _ i _ => L - (intOf i).toNat)
  case atStart => exact ⟨0, by omega, rfl, ⟨[], World.ownsRow_nil _ _ _ _, rfl⟩, by go_grown, by simp, by simp⟩
  case round =>
    obtain ⟨k, hk, rfl, hos, hb, hsz, hc0⟩ := hrel
    have HO := Lib.hid hos
    have HB := Lib.hid hb
    clear hos hb
    by_cases hlt : k < L
    · obtain ⟨b, o, rfl, hbl, c0, c1, c2, c3, c4⟩ := HS.out k hlt
      obtain ⟨x, hx⟩ : ∃ x, x = l.getD k sp0 := ⟨_, rfl⟩
      rw [← hx] at c0 c3 c4
      have hxm : x ∈ l := by
        rw [hx]
        have : k < l.length := by rw [← HL.out]; exact hlt
        simp only [List.getD, List.getElem?_eq_getElem this, Option.getD_some]
        exact List.getElem_mem this
      have hxn : x.1 < N := by rw [HN.out]; exact HI.out x hxm
      obtain ⟨bp, op, rfl, hbp, _, hpa⟩ := HP.out x.1 hxn
      have hq := HQ.out _ (page_mem (by rw [← HN.out]; exact hxn) : T.pages.getD x.1 noPg ∈ T.pages)
      obtain ⟨p, hp⟩ : ∃ p, p = T.pages.getD x.1 noPg := ⟨_, rfl⟩
      rw [← hp] at hpa hq
      have HPP := Lib.hid hp
      have HX := Lib.hid hx
      obtain ⟨n, lo, hi⟩ := x
      obtain ⟨pl, pks, pds, ph, pn⟩ := p
      simp only at c0 c3 c4 hxn hpa hbp
      have hdn : Hid (downP T.pages (l.getD k sp0) = if pl then [] else kidsB lo hi pds pks) := by
        rw [← HX.out]
        simp only [downP]
        rw [← HPP.out]
        exact Lib.hid rfl
      obtain ⟨alo, clo, elo⟩ := c3.sh
      obtain ⟨ahi, chi, ehi⟩ := c4.sh
      rw [elo] at c1 c3
      rw [ehi] at c2 c4
      obtain ⟨nlo, hnlo⟩ : ∃ q, q = lo.length := ⟨_, rfl⟩
      obtain ⟨nhi, hnhi⟩ : ∃ q, q = hi.length := ⟨_, rfl⟩
      rw [← hnlo] at c1 c3
      rw [← hnhi] at c2 c4
      obtain ⟨ag, cg, eg⟩ := hpa.2.2.2.2.2.2.2.sh
      simp only at eg
      rw [eg] at hpa
      clear elo ehi eg hnlo hnhi
      have hb0 : ∀ j, wr.cell? ⟨b, j, none⟩ = w.cell? ⟨b, j, none⟩ := fun j => HB.out.cell (p := ⟨b, j, none⟩) hbl
      have hbr : b < wr.heap.size := by omega
      have hbpr : bp < wr.heap.size := by omega
      have c0' := (hb0 _).trans c0
      have c1' := (hb0 _).trans c1
      have c2' := (hb0 _).trans c2
      obtain ⟨a1, a2, a3, a4, a5, a6, a7, a8⟩ := hpa.below HB.out
      simp only at a1 a5 a6 a7 a8
      obtain ⟨ak, ck, ff, k0, k1, k2, k3⟩ := keysF a6
      obtain ⟨ad, cd, d0, d1, d2, d3⟩ := intsF a7
      obtain ⟨K, hK⟩ : ∃ K, K = pks.length := ⟨_, rfl⟩
      have hKd := hq.kids
      have hK4 := hq.keys
      have hkid := hq.kid
      simp only at hKd hK4 hkid
      rw [← hK] at k0 k1 k3 hKd hK4
      rw [k0] at a2
      rw [d0] at a3
      have HK := Lib.hid hK
      have K3 := Lib.hid k3
      have D3 := Lib.hid d3
      have HKD := Lib.hid hKd
      have HKID := Lib.hid hkid
      have H8 := Lib.hid (a8)
      have HLO := Lib.hid (c3.below HB.out)
      have HHI := Lib.hid (c4.below HB.out)
      unfold maxLen at k2 d2
      clear c0 c1 c2 c3 c4 a6 a7 a8 k0 k3 d0 d3 hpa hq hp hx hb0 hxm hK hKd hkid
      cases pl with
      | true =>
        go_wp2
        go_roundw
        case rel =>
          refine ⟨k + 1, by omega, by go_num, ?_, HB.out.trans (by go_grown), by simp; omega, ?_⟩
          · rw [downL_next (by rw [← HL.out]; exact hlt), hdn.out]
            simp only [if_true, List.append_nil]
            exact HO.out.below (by go_grown)
          · exact (Below.cell (p := ⟨w.heap.size, 0, none⟩) (by go_grown : Below wr.heap.size wr _) hsz).trans hc0
        case measure => simp [intOf]; omega
      | false =>
        have dl : pds.length = K + 1 := HKD.out
        have e := hdn.out
        rw [if_neg (by simp)] at e
        have HDN := Lib.hid e
        rw [dl] at a3 d1 D3
        have DL := Lib.hid dl
        clear dl e hdn HKD
        have hob : ∀ g, ∀ v' : Value, OS wr (w.heap.size + 1) ok v' (downL T.pages (l.take k)) → v'.ownBlock = some g → g < wr.heap.size := by
          rintro g v' ⟨vs, hv, _⟩ hg
          exact (hv.lt g hg).2
        have HOB := Lib.hid hob
        clear hob
        go_wp2
        obtain ⟨W, hW⟩ : ∃ W : World, W = (wr.alloc (.cells #[.int .i64 (n : Int), .slice alo nlo clo, .slice ahi nhi chi] 85)).alloc (.cells #[.bool false, .slice ak K ck, .slice ad (K + 1) cd, .slice ag ph.length cg, .int .i64 pn] 43) := ⟨_, rfl⟩
        have hBW : Below wr.heap.size wr W := by rw [hW]; go_grown
        have hWz : W.heap.size = wr.heap.size + 2 := by rw [hW]; simp
        have s0 : W.cell? ⟨wr.heap.size, 0, none⟩ = some (.int .i64 (n : Int)) := by rw [hW]; simp
        have s1 : W.cell? ⟨wr.heap.size, 1, none⟩ = some (.slice alo nlo clo) := by rw [hW]; simp
        have s2 : W.cell? ⟨wr.heap.size, 2, none⟩ = some (.slice ahi nhi chi) := by rw [hW]; simp
        have p1 : W.cell? ⟨wr.heap.size + 1, 1, none⟩ = some (.slice ak K ck) := by rw [hW]; simp
        have p2 : W.cell? ⟨wr.heap.size + 1, 2, none⟩ = some (.slice ad (K + 1) cd) := by rw [hW]; simp
        rw [← hW]
        have BW := Lib.hid hBW
        clear hW hBW
        obtain ⟨wo, rfl⟩ : ∃ wo : World, wo = wr := ⟨_, rfl⟩
        go_loopw [5, 9, 31] (fun v' lw i wr => ∃ q : Nat, q ≤ K ∧ i = .int .i64 (q : Int) ∧ OS wr (w.heap.size + 1) ok v' (downL T.pages (l.take k) ++ (kidsB lo hi pds pks).take q) ∧ Below (w.heap.size + 1) wo wr ∧
            (∀ g, v'.ownBlock = some g → g ≠ wo.heap.size ∧ g ≠ wo.heap.size + 1) ∧ wo.heap.size + 1 < wr.heap.size ∧ RB wr ok lw (if q = 0 then lo else pks.getD (q - 1) []) ∧
            wr.cell? ⟨wo.heap.size, 0, none⟩ = some (.int .i64 (n : Int)) ∧ wr.cell? ⟨wo.heap.size, 1, none⟩ = some (.slice alo nlo clo) ∧ wr.cell? ⟨wo.heap.size, 2, none⟩ = some (.slice ahi nhi chi) ∧
            wr.cell? ⟨wo.heap.size + 1, 1, none⟩ = some (.slice ak K ck) ∧ wr.cell? ⟨wo.heap.size + 1, 2, none⟩ = some (.slice ad (K + 1) cd)) (fun _ _ i _ => K - (intOf i).toNat)
        case atStart =>
          refine ⟨0, by omega, rfl, ?_, BW.out.mono (by omega), fun g hg => ?_, by omega, HLO.out.below BW.out, s0, s1, s2, p1, p2⟩
          · simpa using HO.out.below BW.out
          · have := HOB.out g _ HO.out hg
            omega
        case round =>
          obtain ⟨q, hq, rfl, hos, hb, hob, hz, hlw, t0, t1, t2, t3, t4⟩ := hrel
          have HB2 := Lib.hid hb
          obtain ⟨qs, hqs⟩ : ∃ qs, qs = (if q = 0 then lo else pks.getD (q - 1) []) := ⟨_, rfl⟩
          rw [← hqs] at hlw
          obtain ⟨aw, cw, ew⟩ := hlw.sh
          subst ew
          obtain ⟨nw, hnw⟩ : ∃ nw, nw = qs.length := ⟨_, rfl⟩
          rw [← hnw] at hlw ⊢
          have HLW := Lib.hid hlw
          have HQS := Lib.hid hqs
          obtain ⟨vs, hown, hsc⟩ := hos
          obtain ⟨m, hm⟩ : ∃ m, m = (downL T.pages (l.take k) ++ (kidsB lo hi pds pks).take q).length := ⟨_, rfl⟩
          rw [← hm] at hown
          obtain ⟨_, a5, cap5, e5, _⟩ := Rd.own hown
          subst e5
          have HOW := Lib.hid hown
          have HSC := Lib.hid hsc
          have hm2 : m ≤ 2000000 := by
            have h1 := downL_len (ps := T.pages) (l := l.take k) fun y hy => HQ.out _ (page_mem (HI.out y (List.mem_of_mem_take hy)))
            have h2 : (l.take k).length ≤ 100000 := by rw [List.length_take]; omega
            have h3 : ((kidsB lo hi pds pks).take q).length ≤ 5 := by rw [List.length_take]; omega
            rw [hm, List.length_append]
            omega
          have HM := Lib.hid hm
          have HOB2 := Lib.hid hob
          have hat := kidsB_at pks pds lo hi q (by rw [DL.out, ← HK.out]) (by rw [← HK.out]; exact hq)
          rw [← HQS.out] at hat
          have HAT := Lib.hid hat
          obtain ⟨b4, o4, rfl, _, hb4, d4⟩ := D3.out q (by omega)
          obtain ⟨c, hc⟩ : ∃ c, c = pds.getD q 0 := ⟨_, rfl⟩
          rw [← hc] at d4
          have hc0' : 0 ≤ c := by
            rw [hc]
            refine (HKID.out _ ?_).1
            have hlt4 : q < pds.length := by rw [DL.out]; omega
            simp only [List.getD, List.getElem?_eq_getElem hlt4, Option.getD_some]
            exact List.getElem_mem hlt4
          have HC := Lib.hid hc
          have hk4 := hok _ hb4
          have d4' : wr.cell? ⟨b4, o4 + q, none⟩ = some (.int .i64 c) := (HB2.out.cell (p := ⟨b4, o4 + q, none⟩) (by show b4 < _; omega)).trans d4
          clear hb hqs hnw hlw hown hsc hm hob hat hc d4 hb4
          by_cases hlt2 : q < K
          · obtain ⟨b3, o3, rfl, _, hb3, k3, k3'⟩ := K3.out q hlt2
            have hk3 := hok _ hb3
            obtain ⟨s, hs⟩ : ∃ s, s = pks.getD q [] := ⟨_, rfl⟩
            rw [← hs] at k3'
            obtain ⟨sa, sc, es⟩ := k3'.sh
            rw [es] at k3 k3'
            obtain ⟨ns, hns⟩ : ∃ ns, ns = s.length := ⟨_, rfl⟩
            rw [← hns] at k3 k3'
            have k3w : wr.cell? ⟨b3, o3 + q, none⟩ = some (.slice sa ns sc) := (HB2.out.cell (p := ⟨b3, o3 + q, none⟩) (by show b3 < _; omega)).trans k3
            have HS3 := Lib.hid (k3'.agree (Agree.lt hok (HB2.out.mono (by omega))))
            have HSS := Lib.hid hs
            clear k3 k3' es hs hns hb3
            go_wp2_with (at_builtin; go_loud (refine apx wr 1 rfl (.tmp 36) (.tmp 45) 86 85 _ 3 56 Try.underlying86 Try.info85 rfl (by omega) rfl HOW.out (by omega) (by omega) (by unfold maxLen; omega) [.int .i64 c, .slice aw nw cw, .slice sa ns sc] rfl (by simp [Value.oneCell']) _ rfl rfl rfl ?_; intro v1 w1 hown1 hb1 hg1 ho1))
            have hz1 := hb1.size
            go_roundw
            case rel =>
              have hb1' : Below w.heap.size wr w1 := hb1.mono (by omega)
              have hag : Agree ok wr w1 := Agree.lt hok hb1'
              refine ⟨q + 1, by omega, by go_num, ⟨_, own_to hown1 ?_ rfl, ?_⟩, HB2.out.trans hb1, fun g hg => ?_, by omega, ?_, hg1.cell t0 ?_, hg1.cell t1 ?_, hg1.cell t2 ?_, hg1.cell t3 ?_, hg1.cell t4 ?_⟩
              · rw [HM.out, take_nextG (d := sp0) (by rw [kidsB_len, DL.out]; omega), ← List.append_assoc, List.length_append]
                simp [Nat.add_assoc]
              · rw [take_nextG (d := sp0) (by rw [kidsB_len, DL.out]; omega), ← List.append_assoc]
                refine SC.app ?_ (HSC.out.agree hag)
                rw [HAT.out, if_pos (by rw [← HK.out]; exact hlt2), ← HC.out, ← HSS.out]
                have e : (c : Int) = ((c.toNat : Nat) : Int) := by omega
                rw [e]
                refine SC.one ?_ (HS3.out.agree hag)
                exact HLW.out.agree hag
              · rcases ho1 with h | h
                · rw [h] at hg; exact HOB2.out g hg
                · rw [h] at hg; cases hg; omega
              · rw [if_neg (by omega), Nat.add_sub_cancel, ← HSS.out]
                exact HS3.out.agree hag
              · exact fun e => (HOB2.out _ e.symm).1 rfl
              · exact fun e => (HOB2.out _ e.symm).1 rfl
              · exact fun e => (HOB2.out _ e.symm).1 rfl
              · exact fun e => (HOB2.out _ e.symm).2 rfl
              · exact fun e => (HOB2.out _ e.symm).2 rfl
            case measure => simp [intOf]; omega
          · obtain rfl : q = K := by omega
            have hbw4 : b4 < wr.heap.size := by omega
            have hwo : wo.heap.size < wr.heap.size := by omega
            have hq0 : (0 : Int) ≤ (q : Int) := by omega
            have hq1 : (q : Int) < (q : Int) + 1 := by omega
            obtain ⟨i0, hi0, hz0, hz1, hz2⟩ := info_parts Try.info85
            go_wp2
            go_region_held3 (fun wx => wx.cell? ⟨wo.heap.size, 2, none⟩ = some (.slice ahi nhi chi) ∧ wx.cell? ⟨wo.heap.size + 1, 1, none⟩ = some (.slice ak q ck) ∧ wx.cell? ⟨wo.heap.size + 1, 2, none⟩ = some (.slice (some ⟨b4, o4, none⟩) (q + 1) cd) ∧ wx.cell? ⟨b4, o4 + q, none⟩ = some (.int .i64 c))
              (first
                | go_keep
                | (go_split_ands
                   refine ⟨?_, ?_, ?_, ?_⟩
                   · (rw [hgrow.cell_far _ (by simp; omega) (fun e => (HOB2.out _ e.symm).1 rfl)]; assumption)
                   · (rw [hgrow.cell_far _ (by simp; omega) (fun e => (HOB2.out _ e.symm).2 rfl)]; assumption)
                   · (rw [hgrow.cell_far _ (by simp; omega) (fun e => (HOB2.out _ e.symm).2 rfl)]; assumption)
                   · (rw [hgrow.cell_far _ (by simp; omega) (fun e => by have h9 : w.heap.size + 1 ≤ b4 := (HOW.out.lt _ e.symm).1; omega)]; assumption)))
              ((refine step_append_lies _ (by rfl) _ _ _ (by rfl) (w.heap.size + 1) 85 i0 _ 3 56 Try.underlying86 hi0 hz0 hz1 hz2 rfl (by omega) (.slice a5 m cap5) m vs (by rfl) ((HOW.out.alloc _).drew)
                  ⟨wr.heap.size, 0, none⟩ 1 1 [.int .i64 c, .slice aw nw cw, .slice ahi nhi chi] (by rfl) (by rfl) (World.news_of_block (cs := #[.int .i64 c, .slice aw nw cw, .slice ahi nhi chi]) (t := 85) (fr := (0, 0)) (heap_alloc_new wr _)) (by simp [Value.oneCell'])
                  (by omega) (by unfold maxLen; omega) (by omega) (by simp; omega) (wr.heap.size + 1) (by simp) ?_; intro gg cap1 w1 hown1 hgrow hat2 hlt4))
            go_wp2
            have hb1 : Below (w.heap.size + 1) wr w1 := (((Below.refl _ wr).alloc (by omega) _).drew).grown hgrow (by simp; omega) (own_ge HOW.out)
            have hz1 := hb1.size
            go_roundw
            case rel =>
              have hag : Agree ok wr w1 := Agree.lt hok (hb1.mono (by omega))
              have e3 : downL T.pages (l.take (k + 1)) = (downL T.pages (l.take k) ++ (kidsB lo hi pds pks).take q) ++ [(kidsB lo hi pds pks).getD q sp0] := by
                rw [downL_next (by rw [← HL.out]; exact hlt), HDN.out, List.append_assoc, ← take_nextG (d := sp0) (by rw [kidsB_len, DL.out]; omega), (List.take_of_length_le (by rw [kidsB_len, DL.out]; exact Nat.le_refl _) : (kidsB lo hi pds pks).take (q + 1) = _)]
              refine ⟨k + 1, by omega, by go_num, ⟨_, own_to hown1 ?_ rfl, ?_⟩, HB.out.trans (HB2.out.trans hb1 |>.mono (by omega)), by omega, ?_⟩
              · rw [e3, HM.out]
                simp [Nat.add_assoc]
              · rw [e3]
                refine SC.app ?_ (HSC.out.agree hag)
                rw [HAT.out, if_neg (by rw [← HK.out]; omega), ← HC.out]
                have e : (c : Int) = ((c.toNat : Nat) : Int) := by omega
                rw [e]
                exact SC.one (HLW.out.agree hag) (HHI.out.agree (Agree.lt hok ((HB2.out.trans hb1).mono (by omega))))
              · exact ((HB2.out.trans hb1).cell (p := ⟨w.heap.size, 0, none⟩) (by show w.heap.size < _; omega)).trans hc0
            case measure => simp [intOf]; omega
    · obtain rfl : k = L := by omega
      have e : l.take k = l := List.take_of_length_le (by rw [← HL.out]; exact Nat.le_refl _)
      rw [e] at HO
      have HO' : Hid (OS wr w.heap.size ok u5 (downL T.pages l)) := by
        obtain ⟨vs, h1, h2⟩ := HO.out
        exact Lib.hid ⟨vs, own_mono h1 (by omega), h2⟩
      clear e HO
      go_wp2
      go_ret
      exact ⟨_, rfl, HO'.out, HB.out⟩
end Go.Proofs.Ytahammkjkfdmhaa

import Derived.Test.YtdeollmeljaaoaaDoorTgk
import Derived.Deep.LoopGhost
set_option linter.unusedVariables false
set_option linter.unusedSimpArgs false
set_option maxHeartbeats 4000000
set_option maxRecDepth 100000
open Go.ChangeAt Go.ChangeShapes Go.RowKit Go.WideShapes
open Go.Lib (hid)
namespace Go.Proofs.YtdeollmeljaaoaaDoor.rd
open Go.Proofs.YtdeollmeljaaoaaDoor.cs
section
variable {B E : Nat} {a : Option Addr} {n c : Nat} {L : List Tk}
theorem Xs.off_s {w : World} {k : Nat} {os : List Oq} (h : Xs w B E a n c L k os) : B ≠ 4 := by have := h.off.s; omega
theorem Xs.off_c {w : World} {k : Nat} {os : List Oq} (h : Xs w B E a n c L k os) : B ≠ 1 := by have := h.off.c; omega
theorem Xs.kn {w : World} {k : Nat} {os : List Oq} (h : Xs w B E a n c L k os) : k ≤ n ∧ n = L.length := by
 obtain ⟨⟨ov, hr, _⟩, _⟩ := h
 exact ⟨hr.le, len_t hr.row⟩
theorem xmay {w : World} {k : Nat} {os : List Oq} (h : Xs w B E a n c L k os) (s : ByteArray) :
  Calls Tryd.prog 50 #[.pointer (some ⟨B, 0, none⟩), .string s] w fun e w' => e = .returned (.bool (mayB L k s)) ∧ ButX B E w w' ∧ Xs w' B E a n c L (if mayB L k s then k + 1 else k) os := by
 have hh := h
 obtain ⟨⟨ov, hr, ho⟩, _⟩ := h
 refine (may_any w B a n c L k ov hr s).mono ?_
 rintro e w' ⟨rfl, h1, h2⟩
 exact ⟨rfl, h2.to E, hh.go ho h1 h2⟩
abbrev icN (ks : List Nat) : List Value := ks.map fun (q : Nat) => Value.int .i64 (q : Int)
theorem rd_new {w : World} {b : Nat} {xs : List Value} {T : TypeId} (h : w.heap[b]? = some (.cells xs.toArray T (0, 0))) (hx : xs.length ≤ 1000) : Rd w 1 xs.length (.slice (some ⟨b, 0, none⟩) xs.length xs.length) xs := by
 refine ⟨by simp, _, _, rfl, Nat.le_refl _, by unfold maxLen; omega, fun h => (by cases h), fun x hx j u hu => ?_⟩
 obtain rfl := Option.some.inj hx
 rw [Addr.add_lit]
 simp only [World.cell?]
 rw [h]
 simpa using hu
def sgK (L : List Tk) (k : Nat) (ks : List Nat) : Nat := if (signF L k ks).isSome then k + 1 else k
theorem xsign {w : World} {k : Nat} {os : List Oq} (h : Xs w B E a n c L k os) {b : Nat} {ks : List Nat} (hk : w.heap[b]? = some (.cells (icN ks).toArray 3 (0, 0))) (hb : b ≠ B) (h0 : 0 < ks.length) (h9 : ks.length ≤ 9) (hq : ∀ q ∈ ks, q < 11) :
  Calls Tryd.prog 90 #[.pointer (some ⟨B, 0, none⟩), .slice (some ⟨b, 0, none⟩) ks.length ks.length] w fun e w' => e = .returned (.tuple #[.int .i64 (((signF L k ks).getD 0 : Nat) : Int), .bool (signF L k ks).isSome]) ∧ ButX B E w w' ∧ Xs w' B E a n c L (sgK L k ks) os := by
 have hh := h
 obtain ⟨⟨ov, hr, ho⟩, _⟩ := h
 have hrd := rd_new hk (by simp; omega)
 rw [show (icN ks).length = ks.length by simp] at hrd
 refine (sign_any w hh.tb B a n c L k ov hr hh.off_s ks.length _ ks hq h0 hrd (fun x cap e hn => by cases e; exact hb)).mono ?_
 intro e w' hp
 unfold sgK
 cases hs : signF L k ks with
 | none =>
  rw [hs] at hp
  obtain ⟨h2, rfl, h1⟩ := hp
  exact ⟨rfl, h2.to E, hh.go ho h1 h2⟩
 | some q =>
  rw [hs] at hp
  obtain ⟨h2, rfl, h1⟩ := hp
  exact ⟨rfl, h2.to E, hh.go ho h1 h2⟩
end
def Rt (B E : Nat) (a : Option Addr) (n c : Nat) (L : List Tk) (k0 : Nat) (f : FuncId) (g : R) : Prop := ∀ W k os, k0 ≤ k → Xs W B E a n c L k os → Calls Tryd.prog f #[.pointer (some ⟨B, 0, none⟩)] W (Ex W B E a n c L (g k os))
theorem enters {f : FuncId} {fn : Func} (hf : Tryd.prog.funcs[f]? = some fn) (hname : (fn.name == "runtime.NumGoroutine") = false) (hb : fn.body.isSome = true) (args : Array Value) (w : World) :
  (callFunc f args).run Tryd.prog w = .ok (.enter f args) w := by
 have h1 : ¬ fn.name = "runtime.NumGoroutine" := by simpa using hname
 obtain ⟨c, hb⟩ := Option.isSome_iff_exists.1 hb
 simp [callFunc, hf, h1, hb]
def Up (g : R) : Prop := ∀ k os k' os', g k os = .inr (k', os') → k ≤ k'
theorem put_up (o : Oq) : Up (putF o) := by
 intro k os k' os' h
 unfold putF at h
 split at h
 ·cases h
 ·cases h
  exact Nat.le_refl _
theorem sign_lt {L : List Tk} {k q : Nat} : ∀ {ks : List Nat}, signF L k ks = some q → k < L.length
 | [], h => by cases h
 | p :: ks, h => by
  unfold signF at h
  split at h
  ·rename_i hm
   exact may_lt hm
  ·exact sign_lt h
theorem chain_any (w : World) (B E : Nat) (a : Option Addr) (n c : Nat) (L : List Tk) (k0 : Nat) (f : FuncId) (g : R) (he : ∀ args w, (callFunc f args).run Tryd.prog w = .ok (.enter f args) w) (hf : Rt B E a n c L k0 f g) (hu : Up g) (b : Nat) (ks : List Nat) (hk : w.heap[b]? = some (.cells (icN ks).toArray 3 (0, 0))) (hb : b ≠ B) (h0 : 0 < ks.length) (h9 : ks.length ≤ 9) (hq : ∀ q ∈ ks, q < 11) (k : Nat) (os : List Oq) (hk0 : k0 ≤ k) (h : Xs w B E a n c L k os) :
  Calls Tryd.prog 88 #[.pointer (some ⟨B, 0, none⟩), .func (.func f) #[.pointer (some ⟨B, 0, none⟩)] #[], .slice (some ⟨b, 0, none⟩) ks.length ks.length] w (Ex w B E a n c L (chainF L g ks k os)) := by
 have HF := hid hf
 have HE := hid he
 have HH := hid h
 have HU := hid hu
 have HK : Hid (∀ W, ButX B E w W → W.heap[b]? = some (.cells (icN ks).toArray 3 (0, 0))) := fun W hW => hW.keep hb (by decide) hk
 have HSG : Hid (∀ W k os, ButX B E w W → Xs W B E a n c L k os → Calls Tryd.prog 90 #[.pointer (some ⟨B, 0, none⟩), .slice (some ⟨b, 0, none⟩) ks.length ks.length] W fun e w' => e = .returned (.tuple #[.int .i64 (((signF L k ks).getD 0 : Nat) : Int), .bool (signF L k ks).isSome]) ∧ ButX B E W w' ∧ Xs w' B E a n c L (sgK L k ks) os) := fun W k os hW hx => xsign hx (HK.out W hW) hb h0 h9 hq
 have HPU : Hid (∀ W k os o, Xs W B E a n c L k os → Calls Tryd.prog 91 #[.pointer (some ⟨B, 0, none⟩), opV o] W (Ex W B E a n c L (putF o k os))) := fun W k os o hx => put_any W B E a n c L k os hx o
 obtain ⟨m, hm⟩ : ∃ m, m = ks.length := ⟨_, rfl⟩
 rw [← hm] at HSG ⊢
 have HN : Hid (n = L.length) := h.kn.2
 obtain ⟨r0, hr0⟩ : ∃ r0, r0 = g k os := ⟨_, rfl⟩
 obtain ⟨r, hr⟩ : ∃ r, r = chainF L g ks k os := ⟨_, rfl⟩
 have hq2 : r = bd r0 fun x => loopC L g ks L.length x.1 x.2 := by rw [hr, hr0]; rfl
 rw [← hr]
 have HC0 := HF.out w k os hk0 h
 rw [← hr0] at HC0
 have HC := hid HC0
 have HU0 : Hid (∀ k' os', r0 = .inr (k', os') → k ≤ k') := fun k' os' e => hu k os k' os' (by rw [← hr0]; exact e)
 clear hf he h hu hk hm hq h0 h9 hr hr0 HC0 HK HH
 go_enter Tryd.func88, Tryd.ntmps88
 go_wp2_with fail
 rw [HE.out, Oper.upon_enter]
 refine HC.out.mono ?_
 rintro e w1 ⟨hX1, hr1⟩
 rcases r0 with f0 | ⟨k1, os1⟩
 ·obtain rfl : e = flt f0.1 f0.2 := hr1
  obtain rfl : r = .inl f0 := hq2
  exact ⟨rfl, hX1, rfl⟩
 ·obtain ⟨rfl, hx1⟩ := hr1
  have hk1 := HU0.out k1 os1 rfl
  have hq3 : r = loopC L g ks L.length k1 os1 := hq2
  clear hq2 HU0 HC
  have HX1 := hid hX1
  have HS1 := hid hx1
  have HQ := hid hq3
  clear hX1 hx1 hq3
  go_wp2_with fail
  refine (HSG.out _ _ _ HX1.out HS1.out).mono ?_
  rintro e w2 ⟨rfl, hb2, hx2⟩
  have HX2 := hid (HX1.out.trans hb2)
  have HS2 := hid hx2
  clear hb2 hx2 HX1 HS1
  have HKK : Hid (k0 ≤ k1) := Nat.le_trans hk0 hk1
  clear hk0 hk1
  obtain ⟨s, hs⟩ : ∃ s, s = signF L k1 ks := ⟨_, rfl⟩
  rw [← hs]
  have HSS := hid hs
  clear hs
  go_wp2_with fail
  go_loopg [6, 7] L.length (fun u t6 t7 wr => ∃ (k1 : Nat) (os1 : List Oq) (s : Option Nat), t6 = .int .i64 ((s.getD 0 : Nat) : Int) ∧ t7 = .bool s.isSome ∧ Hid (s = signF L k1 ks) ∧ Hid (r = loopC L g ks u k1 os1) ∧ Hid (n ≤ k1 + u) ∧ Hid (k0 ≤ k1) ∧ Hid (ButX B E w wr) ∧ Hid (Xs wr B E a n c L (sgK L k1 ks) os1))
  case atStart => exact ⟨k1, os1, s, rfl, rfl, HSS, HQ, (by have := HN.out; show _ ≤ _; omega), HKK, HX2, HS2⟩
  case round =>
   obtain ⟨k2, os2, s2, rfl, rfl, HS, HQ2, HF2, HK2, HB2, HXS⟩ := hrel
   cases s2 with
   | none =>
    have hr : r = .inr (k2, os2) := by
     have h1 := HQ2.out
     cases gk with
     | zero => exact h1
     | succ gk =>
      unfold loopC at h1
      rw [← HS.out] at h1
      exact h1
    have hx : Xs wr B E a n c L k2 os2 := by
     have := HXS.out
     unfold sgK at this
     rwa [← HS.out] at this
    subst hr
    have HX := hid hx
    clear hx
    go_wp2_with fail
    go_returns
    exact ⟨HB2.out, rfl, HX.out⟩
   | some q =>
    have hlt : k2 < L.length := sign_lt HS.out.symm
    have hx : Xs wr B E a n c L (k2 + 1) os2 := by
     have := HXS.out
     unfold sgK at this
     rwa [← HS.out] at this
    obtain ⟨u, rfl⟩ : ∃ u', gk = u' + 1 := ⟨gk - 1, by have := HF2.out; have := HN.out; omega⟩
    have hr : r = bd (g (k2 + 1) os2) fun x => bd (putF (opO q) x.1 x.2) fun y => loopC L g ks u y.1 y.2 := by
     have h1 := HQ2.out
     unfold loopC at h1
     rw [← HS.out] at h1
     exact h1
    have HC0 := HF.out wr (k2 + 1) os2 (by have := HK2.out; omega) hx
    obtain ⟨r1, hr1⟩ : ∃ r1, r1 = g (k2 + 1) os2 := ⟨_, rfl⟩
    rw [← hr1] at HC0 hr
    have HU1 : Hid (∀ k' os', r1 = .inr (k', os') → k2 + 1 ≤ k') := fun k' os' e => HU.out _ os2 k' os' (by rw [← hr1]; exact e)
    have HC := hid HC0
    have HR := hid hr
    clear HC0 hr hr1 hx HQ2 HXS HS
    go_wp2_with fail
    rw [HE.out, Oper.upon_enter]
    refine HC.out.mono ?_
    rintro e w3 ⟨hX3, hr3⟩
    have HX3 := hid (HB2.out.trans hX3)
    clear hX3 HC
    rcases r1 with f0 | ⟨k3, os3⟩
    ·obtain rfl : e = flt f0.1 f0.2 := hr3
     obtain rfl : r = .inl f0 := HR.out
     exact ⟨rfl, HX3.out, rfl⟩
    ·obtain ⟨rfl, hx3⟩ := hr3
     have HR3 : Hid (r = bd (putF (opO q) k3 os3) fun y => loopC L g ks u y.1 y.2) := HR.out
     have HP := hid (HPU.out w3 k3 os3 (opO q) hx3)
     have HU3 : Hid (k2 + 1 ≤ k3) := HU1.out _ _ rfl
     obtain ⟨r4, hr4⟩ : ∃ r4, r4 = putF (opO q) k3 os3 := ⟨_, rfl⟩
     have HU4 : Hid (∀ k' os', r4 = .inr (k', os') → k3 ≤ k') := fun k' os' e => put_up (opO q) k3 os3 k' os' (by rw [← hr4]; exact e)
     rw [← hr4] at HR3 HP
     clear hr4 hx3 HR HU1
     go_wp2_with fail
     refine HP.out.mono ?_
     rintro e w4 ⟨hX4, hr5⟩
     have HX4 := hid (HX3.out.trans hX4)
     clear hX4 HP
     rcases r4 with f0 | ⟨k4, os4⟩
     ·obtain rfl : e = flt f0.1 f0.2 := hr5
      obtain rfl : r = .inl f0 := HR3.out
      exact ⟨rfl, HX4.out, rfl⟩
     ·obtain ⟨rfl, hx4⟩ := hr5
      have HR4 : Hid (r = loopC L g ks u k4 os4) := HR3.out
      have HU5 : Hid (k3 ≤ k4) := HU4.out _ _ rfl
      have HSG4 := hid (HSG.out w4 k4 os4 HX4.out hx4)
      clear hx4 HR3 HU4
      go_wp2_with fail
      refine HSG4.out.mono ?_
      rintro e w5 ⟨rfl, hb5, hx5⟩
      have HX5 := hid (HX4.out.trans hb5)
      have HS5 := hid hx5
      clear hb5 hx5 HSG4
      obtain ⟨s5, hs5⟩ : ∃ s, s = signF L k4 ks := ⟨_, rfl⟩
      rw [← hs5]
      have HSS5 := hid hs5
      clear hs5
      go_wp2_with fail
      go_roundg u
      case measure => exact Nat.lt_succ_self u
      case rel => exact ⟨k4, os4, s5, rfl, rfl, HSS5, HR4, (by have := HF2.out; have := HU3.out; have := HU5.out; show _ ≤ _; omega), (by have := HK2.out; have := HU3.out; have := HU5.out; show _ ≤ _; omega), HX5, HS5⟩
open Go.Proofs.YtdeollmeljaaoaaDoor.cs
theorem Rt.mono {B E : Nat} {a : Option Addr} {n c : Nat} {L : List Tk} {k0 k1 : Nat} {f : FuncId} {g : R} (h : Rt B E a n c L k0 f g) (hk : k0 ≤ k1) : Rt B E a n c L k1 f g := fun W k os h1 hx => h W k os (Nat.le_trans hk h1) hx
theorem loop_up {L : List Tk} {g : R} (hg : Up g) (ks : List Nat) : ∀ u, Up (loopC L g ks u)
 | 0 => fun k os k' os' h => by cases h; exact Nat.le_refl _
 | u + 1 => fun k os k' os' h => by
  unfold loopC at h
  split at h
  ·cases h; exact Nat.le_refl _
  ·obtain ⟨x, h1, h2⟩ := bd_ok h
   obtain ⟨y, h3, h4⟩ := bd_ok h2
   have e1 := hg _ _ x.1 x.2 h1
   have e2 := put_up _ _ _ y.1 y.2 h3
   have e3 := loop_up hg ks u _ _ _ _ h4
   omega
theorem chain_up {L : List Tk} {g : R} (hg : Up g) (ks : List Nat) : Up (chainF L g ks) := fun k os k' os' h => by
 obtain ⟨x, h1, h2⟩ := bd_ok h
 exact Nat.le_trans (hg _ _ x.1 x.2 h1) (loop_up hg ks _ _ _ _ _ h2)
theorem compare_up (q : Nat) (nt : Bool) : Up (compareF q nt) := fun k os k' os' h => by
 obtain ⟨x, h1, h2⟩ := bd_ok h
 have e1 := put_up _ _ _ x.1 x.2 h1
 split at h2
 ·exact Nat.le_trans e1 (put_up _ _ _ _ _ h2)
 ·cases h2; exact e1
theorem denied_up {L : List Tk} {g : R} (hg : Up g) : ∀ u, Up (deniedF L g u)
 | 0 => hg
 | u + 1 => fun k os k' os' h => by
  unfold deniedF at h
  split at h
  ·obtain ⟨x, h1, h2⟩ := bd_ok h
   have e1 := denied_up hg u _ _ x.1 x.2 h1
   have e2 := put_up _ _ _ _ _ h2
   omega
  ·exact hg _ _ _ _ h
theorem den_yes {L : List Tk} {g : R} {u k : Nat} {os : List Oq} (h : mayB L k sNOT = true) : deniedF L g (u + 1) k os = bd (deniedF L g u (k + 1) os) fun x => putF (opO 5) x.1 x.2 := by
 show (if mayB L k sNOT then _ else _) = _
 rw [if_pos h]
theorem den_no {L : List Tk} {g : R} {u k : Nat} {os : List Oq} (h : mayB L k sNOT = false) : deniedF L g (u + 1) k os = g k os := by
 show (if mayB L k sNOT then _ else _) = _
 rw [if_neg (by simp [h])]
theorem isF_up (L : List Tk) (n : Nat) : Up (isF L n) := fun k os k' os' h => by
 unfold isF at h
 split at h
 ·split at h
  ·have := compare_up _ _ _ _ _ _ h; omega
  ·cases h
 ·split at h
  ·have := compare_up _ _ _ _ _ _ h; omega
  ·cases h
theorem comparison_up {L : List Tk} {n : Nat} {g : R} (hg : Up g) : Up (comparisonF L n g) := fun k os k' os' h => by
 obtain ⟨x, h1, h2⟩ := bd_ok h
 have e1 := hg _ _ x.1 x.2 h1
 split at h2
 ·have := isF_up L n _ _ _ _ h2; omega
 ·split at h2
  ·cases h2; exact e1
  ·obtain ⟨y, h3, h4⟩ := bd_ok h2
   have e2 := hg _ _ y.1 y.2 h3
   have e3 := compare_up _ _ _ _ _ _ h4
   omega
theorem lit_up {L : List Tk} {n k : Nat} {x : Option V × Nat} (h : litG L n k = .inr x) : k ≤ x.2 := by
 unfold litG at h
 repeat' split at h
 all_goals (first | (cases h; done) | (cases h; first | exact Nat.le_refl _ | (show k ≤ k + _; omega)))
theorem name_up {L : List Tk} {n k : Nat} {x : ByteArray × Nat} (h : nameG L n k = .inr x) : x.2 = k + 1 := by
 unfold nameG at h
 repeat' split at h
 all_goals (first | (cases h; done) | (cases h; rfl))
theorem leaf_up (L : List Tk) (n : Nat) : Up (leafF L n) := fun k os k' os' h => by
 obtain ⟨⟨x, k1⟩, h1, h2⟩ := bd_ok h
 have e1 := lit_up h1
 cases x with
 | some v =>
  have := put_up _ _ _ _ _ h2
  simp only at e1 this
  omega
 | none =>
  obtain ⟨y, h3, h4⟩ := bd_ok h2
  have e2 := name_up h3
  have := put_up _ _ _ _ _ h4
  omega
theorem thing_up {L : List Tk} {n : Nat} {g : R} (hg : Up g) : Up (thingF L n g) := fun k os k' os' h => by
 unfold thingF at h
 split at h
 ·obtain ⟨x, h1, h2⟩ := bd_ok h
  have e1 := hg _ _ x.1 x.2 h1
  split at h2
  ·cases h2; omega
  ·cases h2
 ·exact leaf_up L n _ _ _ _ h
theorem either_up {L : List Tk} {n : Nat} {g : R} (hg : Up g) : Up (eitherF L n g) := chain_up (chain_up (denied_up (comparison_up (chain_up (chain_up (thing_up hg) _) _)) _) _) _
theorem eithD_up (L : List Tk) (n : Nat) : ∀ d, Up (eithD L n d)
 | 0 => fun k os k' os' h => by cases h; exact Nat.le_refl _
 | d + 1 => fun k os k' os' h => either_up (eithD_up L n d) k os k' os' h
section
variable {B E : Nat} {a : Option Addr} {n c : Nat} {L : List Tk}
theorem either_any {k0 : Nat} {g : R} (hg : Rt B E a n c L k0 89 g) (hu : Up g) : Rt B E a n c L k0 85 (chainF L g [4]) := by
 intro w k os hk h
 have HC : Hid (∀ W, W = w.alloc (.cells #[.int .i64 4] 3) → Calls Tryd.prog 88 #[.pointer (some ⟨B, 0, none⟩), .func (.func 89) #[.pointer (some ⟨B, 0, none⟩)] #[], .slice (some ⟨w.heap.size, 0, none⟩) 1 1] W (Ex W B E a n c L (chainF L g [4] k os))) := fun W hW => by
  have hb : Below w.heap.size w W := by rw [hW]; exact (Below.refl _ _).alloc (Nat.le_refl _) _
  exact chain_any W B E a n c L k0 89 g (enters Tryd.func89 (by kernel_rfl) (by kernel_rfl)) hg hu w.heap.size [4] (by rw [hW]; exact new0 _ _) (by have := h.lt; have := h.le; omega) (by simp) (by simp) (by simp) k os hk (h.later hb)
 obtain ⟨r, hr⟩ : ∃ r, r = chainF L g [4] k os := ⟨_, rfl⟩
 rw [← hr] at HC ⊢
 clear hg hu h hr
 go_enter Tryd.func85, Tryd.ntmps85
 go_wp2_with fail
 refine calls_nm (fun W hW => ?_)
 have hb : ButX B E w W := by rw [hW]; exact ButX.of E ((Below.refl _ _).alloc (Nat.le_refl _) _)
 have HB := hid hb
 have HCW := hid (HC.out W hW)
 clear hW hb HC
 refine HCW.out.mono ?_
 rintro e w1 ⟨hX, hr1⟩
 have HX := hid (HB.out.trans hX)
 clear hX
 rcases r with f0 | ⟨k1, os1⟩
 ·obtain rfl : e = flt f0.1 f0.2 := hr1
  exact ⟨rfl, HX.out, rfl⟩
 ·obtain ⟨rfl, hx1⟩ := hr1
  have HS := hid hx1
  clear hx1
  go_wp2_with fail
  go_returns
  exact ⟨HX.out, rfl, HS.out⟩
theorem both_any {k0 : Nat} {g : R} (hg : Rt B E a n c L k0 92 g) (hu : Up g) : Rt B E a n c L k0 89 (chainF L g [3]) := by
 intro w k os hk h
 have HC : Hid (∀ W, W = w.alloc (.cells #[.int .i64 3] 3) → Calls Tryd.prog 88 #[.pointer (some ⟨B, 0, none⟩), .func (.func 92) #[.pointer (some ⟨B, 0, none⟩)] #[], .slice (some ⟨w.heap.size, 0, none⟩) 1 1] W (Ex W B E a n c L (chainF L g [3] k os))) := fun W hW => by
  have hb : Below w.heap.size w W := by rw [hW]; exact (Below.refl _ _).alloc (Nat.le_refl _) _
  exact chain_any W B E a n c L k0 92 g (enters Tryd.func92 (by kernel_rfl) (by kernel_rfl)) hg hu w.heap.size [3] (by rw [hW]; exact new0 _ _) (by have := h.lt; have := h.le; omega) (by simp) (by simp) (by simp) k os hk (h.later hb)
 obtain ⟨r, hr⟩ : ∃ r, r = chainF L g [3] k os := ⟨_, rfl⟩
 rw [← hr] at HC ⊢
 clear hg hu h hr
 go_enter Tryd.func89, Tryd.ntmps89
 go_wp2_with fail
 refine calls_nm (fun W hW => ?_)
 have hb : ButX B E w W := by rw [hW]; exact ButX.of E ((Below.refl _ _).alloc (Nat.le_refl _) _)
 have HB := hid hb
 have HCW := hid (HC.out W hW)
 clear hW hb HC
 refine HCW.out.mono ?_
 rintro e w1 ⟨hX, hr1⟩
 have HX := hid (HB.out.trans hX)
 clear hX
 rcases r with f0 | ⟨k1, os1⟩
 ·obtain rfl : e = flt f0.1 f0.2 := hr1
  exact ⟨rfl, HX.out, rfl⟩
 ·obtain ⟨rfl, hx1⟩ := hr1
  have HS := hid hx1
  clear hx1
  go_wp2_with fail
  go_returns
  exact ⟨HX.out, rfl, HS.out⟩
theorem sum_any {k0 : Nat} {g : R} (hg : Rt B E a n c L k0 97 g) (hu : Up g) : Rt B E a n c L k0 94 (chainF L g [8, 9]) := by
 intro w k os hk h
 have HC : Hid (∀ W, W = w.alloc (.cells #[.int .i64 8, .int .i64 9] 3) → Calls Tryd.prog 88 #[.pointer (some ⟨B, 0, none⟩), .func (.func 97) #[.pointer (some ⟨B, 0, none⟩)] #[], .slice (some ⟨w.heap.size, 0, none⟩) 2 2] W (Ex W B E a n c L (chainF L g [8, 9] k os))) := fun W hW => by
  have hb : Below w.heap.size w W := by rw [hW]; exact (Below.refl _ _).alloc (Nat.le_refl _) _
  exact chain_any W B E a n c L k0 97 g (enters Tryd.func97 (by kernel_rfl) (by kernel_rfl)) hg hu w.heap.size [8, 9] (by rw [hW]; exact new0 _ _) (by have := h.lt; have := h.le; omega) (by simp) (by simp) (by simp) k os hk (h.later hb)
 obtain ⟨r, hr⟩ : ∃ r, r = chainF L g [8, 9] k os := ⟨_, rfl⟩
 rw [← hr] at HC ⊢
 clear hg hu h hr
 go_enter Tryd.func94, Tryd.ntmps94
 go_wp2_with fail
 refine calls_nm (fun W hW => ?_)
 have hb : ButX B E w W := by rw [hW]; exact ButX.of E ((Below.refl _ _).alloc (Nat.le_refl _) _)
 have HB := hid hb
 have HCW := hid (HC.out W hW)
 clear hW hb HC
 refine HCW.out.mono ?_
 rintro e w1 ⟨hX, hr1⟩
 have HX := hid (HB.out.trans hX)
 clear hX
 rcases r with f0 | ⟨k1, os1⟩
 ·obtain rfl : e = flt f0.1 f0.2 := hr1
  exact ⟨rfl, HX.out, rfl⟩
 ·obtain ⟨rfl, hx1⟩ := hr1
  have HS := hid hx1
  clear hx1
  go_wp2_with fail
  go_returns
  exact ⟨HX.out, rfl, HS.out⟩
theorem product_any {k0 : Nat} {g : R} (hg : Rt B E a n c L k0 99 g) (hu : Up g) : Rt B E a n c L k0 97 (chainF L g [10]) := by
 intro w k os hk h
 have HC : Hid (∀ W, W = w.alloc (.cells #[.int .i64 10] 3) → Calls Tryd.prog 88 #[.pointer (some ⟨B, 0, none⟩), .func (.func 99) #[.pointer (some ⟨B, 0, none⟩)] #[], .slice (some ⟨w.heap.size, 0, none⟩) 1 1] W (Ex W B E a n c L (chainF L g [10] k os))) := fun W hW => by
  have hb : Below w.heap.size w W := by rw [hW]; exact (Below.refl _ _).alloc (Nat.le_refl _) _
  exact chain_any W B E a n c L k0 99 g (enters Tryd.func99 (by kernel_rfl) (by kernel_rfl)) hg hu w.heap.size [10] (by rw [hW]; exact new0 _ _) (by have := h.lt; have := h.le; omega) (by simp) (by simp) (by simp) k os hk (h.later hb)
 obtain ⟨r, hr⟩ : ∃ r, r = chainF L g [10] k os := ⟨_, rfl⟩
 rw [← hr] at HC ⊢
 clear hg hu h hr
 go_enter Tryd.func97, Tryd.ntmps97
 go_wp2_with fail
 refine calls_nm (fun W hW => ?_)
 have hb : ButX B E w W := by rw [hW]; exact ButX.of E ((Below.refl _ _).alloc (Nat.le_refl _) _)
 have HB := hid hb
 have HCW := hid (HC.out W hW)
 clear hW hb HC
 refine HCW.out.mono ?_
 rintro e w1 ⟨hX, hr1⟩
 have HX := hid (HB.out.trans hX)
 clear hX
 rcases r with f0 | ⟨k1, os1⟩
 ·obtain rfl : e = flt f0.1 f0.2 := hr1
  exact ⟨rfl, HX.out, rfl⟩
 ·obtain ⟨rfl, hx1⟩ := hr1
  have HS := hid hx1
  clear hx1
  go_wp2_with fail
  go_returns
  exact ⟨HX.out, rfl, HS.out⟩
theorem compare_any {w : World} {k : Nat} {os : List Oq} (h : Xs w B E a n c L k os) (q : Nat) (nt : Bool) :
  Calls Tryd.prog 95 #[.pointer (some ⟨B, 0, none⟩), .int .i64 (q : Int), .bool nt] w (Ex w B E a n c L (compareF q nt k os)) := by
 have HPU : Hid (∀ W k os o, Xs W B E a n c L k os → Calls Tryd.prog 91 #[.pointer (some ⟨B, 0, none⟩), opV o] W (Ex W B E a n c L (putF o k os))) := fun W k os o hx => put_any W B E a n c L k os hx o
 have HP := hid (HPU.out w k os (opO q) h)
 obtain ⟨r1, hr1⟩ : ∃ r1, r1 = putF (opO q) k os := ⟨_, rfl⟩
 obtain ⟨r, hr⟩ : ∃ r, r = compareF q nt k os := ⟨_, rfl⟩
 have HR : Hid (r = bd r1 fun x => if nt then putF (opO 5) x.1 x.2 else .inr x) := by
  show _ = _
  rw [hr, hr1]
  rfl
 rw [← hr1] at HP
 rw [← hr]
 clear hr1 hr h
 go_enter Tryd.func95, Tryd.ntmps95
 go_wp2_with fail
 refine HP.out.mono ?_
 rintro e w1 ⟨hX, h1⟩
 have HX := hid hX
 clear hX HP
 rcases r1 with f0 | ⟨k1, os1⟩
 ·obtain rfl : e = flt f0.1 f0.2 := h1
  obtain rfl : r = .inl f0 := HR.out
  exact ⟨rfl, HX.out, rfl⟩
 ·obtain ⟨rfl, hx1⟩ := h1
  have HS := hid hx1
  clear hx1
  cases nt
  ·obtain rfl : r = .inr (k1, os1) := HR.out
   go_wp2_with fail
   go_returns
   exact ⟨HX.out, rfl, HS.out⟩
  ·have HP2 := hid (HPU.out w1 k1 os1 (opO 5) HS.out)
   have HR2 : Hid (r = putF (opO 5) k1 os1) := HR.out
   rw [← HR2.out] at HP2
   clear HR HR2 HS
   go_wp2_with fail
   refine HP2.out.mono ?_
   rintro e w2 ⟨hX2, h2⟩
   have HX2 := hid (HX.out.trans hX2)
   clear hX2 HP2
   rcases r with f0 | ⟨k2, os2⟩
   ·obtain rfl : e = flt f0.1 f0.2 := h2
    exact ⟨rfl, HX2.out, rfl⟩
   ·obtain ⟨rfl, hx2⟩ := h2
    have HS2 := hid hx2
    clear hx2
    go_wp2_with fail
    go_returns
    exact ⟨HX2.out, rfl, HS2.out⟩
theorem den_any {k0 : Nat} {g : R} (hg : Rt B E a n c L k0 93 g) : ∀ (u : Nat) (w : World) (k : Nat) (os : List Oq), k0 ≤ k → n ≤ k + u → Xs w B E a n c L k os → Calls Tryd.prog 92 #[.pointer (some ⟨B, 0, none⟩)] w (Ex w B E a n c L (deniedF L g u k os)) := by
 intro u
 induction u with
 | zero =>
  intro w k os hk hn h
  have hm : mayB L k sNOT = false := by
   cases hm : mayB L k sNOT with
   | false => rfl
   | true =>
    have := may_lt hm
    have := h.kn
    omega
  have HM := xmay h sNOT
  rw [hm] at HM
  have HM := hid HM
  have HG : Hid (∀ W, Xs W B E a n c L k os → Calls Tryd.prog 93 #[.pointer (some ⟨B, 0, none⟩)] W (Ex W B E a n c L (g k os))) := fun W hx => hg W k os hk hx
  obtain ⟨r, hr⟩ : ∃ r, r = g k os := ⟨_, rfl⟩
  rw [show deniedF L g 0 k os = r from hr.symm]
  rw [← hr] at HG
  clear h hm hr hn
  go_enter Tryd.func92, Tryd.ntmps92
  go_wp2_with fail
  refine HM.out.mono ?_
  rintro e w1 ⟨rfl, hX, hx⟩
  have hx : Xs w1 B E a n c L k os := hx
  have HX := hid hX
  have HG1 := hid (HG.out w1 hx)
  clear hX hx HM HG
  go_wp2_with fail
  refine HG1.out.mono ?_
  rintro e w2 ⟨hX2, h2⟩
  have HX2 := hid (HX.out.trans hX2)
  clear hX2 HG1 HX
  rcases r with f0 | ⟨k2, os2⟩
  ·obtain rfl : e = flt f0.1 f0.2 := h2
   exact ⟨rfl, HX2.out, rfl⟩
  ·obtain ⟨rfl, hx2⟩ := h2
   have HS2 := hid hx2
   clear hx2
   go_wp2_with fail
   go_returns
   exact ⟨HX2.out, rfl, HS2.out⟩
 | succ u ih =>
  intro w k os hk hn h
  have HM0 := xmay h sNOT
  by_cases hm : mayB L k sNOT = true
  ·rw [hm] at HM0
   have HM := hid HM0
   have HI : Hid (∀ W, Xs W B E a n c L (k + 1) os → Calls Tryd.prog 92 #[.pointer (some ⟨B, 0, none⟩)] W (Ex W B E a n c L (deniedF L g u (k + 1) os))) := fun W hx => ih W (k + 1) os (by omega) (by omega) hx
   have HPU : Hid (∀ W k os o, Xs W B E a n c L k os → Calls Tryd.prog 91 #[.pointer (some ⟨B, 0, none⟩), opV o] W (Ex W B E a n c L (putF o k os))) := fun W k os o hx => put_any W B E a n c L k os hx o
   obtain ⟨r1, hr1⟩ : ∃ r1, r1 = deniedF L g u (k + 1) os := ⟨_, rfl⟩
   obtain ⟨r, hr⟩ : ∃ r, r = deniedF L g (u + 1) k os := ⟨_, rfl⟩
   have HR : Hid (r = bd r1 fun x => putF (opO 5) x.1 x.2) := by
    show _ = _
    rw [hr, hr1, den_yes hm]
   rw [← hr]
   rw [← hr1] at HI
   clear hr1 hr h hm HM0 ih hg hn hk
   go_enter Tryd.func92, Tryd.ntmps92
   go_wp2_with fail
   refine HM.out.mono ?_
   rintro e w1 ⟨rfl, hX, hx⟩
   have hx : Xs w1 B E a n c L (k + 1) os := hx
   have HX := hid hX
   have HI1 := hid (HI.out w1 hx)
   clear hX hx HM HI
   go_wp2_with fail
   refine HI1.out.mono ?_
   rintro e w2 ⟨hX2, h2⟩
   have HX2 := hid (HX.out.trans hX2)
   clear hX2 HI1 HX
   rcases r1 with f0 | ⟨k2, os2⟩
   ·obtain rfl : e = flt f0.1 f0.2 := h2
    obtain rfl : r = .inl f0 := HR.out
    exact ⟨rfl, HX2.out, rfl⟩
   ·obtain ⟨rfl, hx2⟩ := h2
    have HP2 := hid (HPU.out w2 k2 os2 (opO 5) hx2)
    have HR2 : Hid (r = putF (opO 5) k2 os2) := HR.out
    rw [← HR2.out] at HP2
    clear HR HR2 hx2
    go_wp2_with fail
    refine HP2.out.mono ?_
    rintro e w3 ⟨hX3, h3⟩
    have HX3 := hid (HX2.out.trans hX3)
    clear hX3 HP2
    rcases r with f0 | ⟨k3, os3⟩
    ·obtain rfl : e = flt f0.1 f0.2 := h3
     exact ⟨rfl, HX3.out, rfl⟩
    ·obtain ⟨rfl, hx3⟩ := h3
     have HS3 := hid hx3
     clear hx3
     go_wp2_with fail
     go_returns
     exact ⟨HX3.out, rfl, HS3.out⟩
  ·have hm : mayB L k sNOT = false := by simpa using hm
   rw [hm] at HM0
   have HM := hid HM0
   have HG : Hid (∀ W, Xs W B E a n c L k os → Calls Tryd.prog 93 #[.pointer (some ⟨B, 0, none⟩)] W (Ex W B E a n c L (g k os))) := fun W hx => hg W k os hk hx
   obtain ⟨r, hr⟩ : ∃ r, r = g k os := ⟨_, rfl⟩
   rw [show deniedF L g (u + 1) k os = r by rw [hr, den_no hm]]
   rw [← hr] at HG
   clear h hm hr hn ih HM0
   go_enter Tryd.func92, Tryd.ntmps92
   go_wp2_with fail
   refine HM.out.mono ?_
   rintro e w1 ⟨rfl, hX, hx⟩
   have hx : Xs w1 B E a n c L k os := hx
   have HX := hid hX
   have HG1 := hid (HG.out w1 hx)
   clear hX hx HM HG
   go_wp2_with fail
   refine HG1.out.mono ?_
   rintro e w2 ⟨hX2, h2⟩
   have HX2 := hid (HX.out.trans hX2)
   clear hX2 HG1 HX
   rcases r with f0 | ⟨k2, os2⟩
   ·obtain rfl : e = flt f0.1 f0.2 := h2
    exact ⟨rfl, HX2.out, rfl⟩
   ·obtain ⟨rfl, hx2⟩ := h2
    have HS2 := hid hx2
    clear hx2
    go_wp2_with fail
    go_returns
    exact ⟨HX2.out, rfl, HS2.out⟩
theorem denied_any {k0 : Nat} {g : R} (hg : Rt B E a n c L k0 93 g) : Rt B E a n c L k0 92 (deniedF L g L.length) := fun W k os hk h => den_any hg L.length W k os hk (by have := h.kn; omega) h
end
end Go.Proofs.YtdeollmeljaaoaaDoor.rd

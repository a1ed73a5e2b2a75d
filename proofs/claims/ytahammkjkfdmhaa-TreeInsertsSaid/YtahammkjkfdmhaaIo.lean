/- The document's copy of bytes. -/
import Derived.Test.YtahammkjkfdmhaaB1
import Derived.Test.YtahammkjkfdmhaaGm
import Derived.Test.YtahammkjkfdmhaaId
import Derived.Test.YtahammkjkfdmhaaHe
import Derived.Test.YtahammkjkfdmhaaIf
import Derived.Deep.RegionHeld3
import Derived.Deep.AppendLies
import Derived.Deep.RegionWith
import Derived.Deep.RegionLaw
import Derived.Lib.BufferMore
namespace Go.Proofs.Ytahammkjkfdmhaa
open Go.ChangeShapes Go.WideShapes Go.ChangeAt Go.RowKit
set_option linter.unusedVariables false
set_option linter.unusedSimpArgs false
set_option maxHeartbeats 2000000
set_option maxRecDepth 100000
/-- Blocks that came to be between two worlds. -/
abbrev newOnes (w w' : World) : Nat → Prop := fun b => w.heap.size ≤ b ∧ b < w'.heap.size
theorem at_own {w : World} {B e s n : Nat} {v : Value} {xs : List Value} (h : w.ownsRow B e s v n xs) : At (fun b => B ≤ b ∧ b < w.heap.size) v := by
  intro a m c hv hm
  subst hv
  exact h.lt a.block rfl
theorem bcopy_any (w : World) (ok : Nat → Prop) (v : Value) (l : List UInt8) (h : RB w ok v l) (hl : l.length ≤ 140737488355327) :
    Calls Try.prog 28 #[v] w fun e w' => ∃ v', e = .returned v' ∧ RB w' (newOnes w w') v' l ∧ Below w.heap.size w w' := by
  obtain ⟨_, ao, cap, rfl, hn, hm, h0, hc⟩ := h.1
  obtain ⟨n, hnn⟩ : ∃ n, n = l.length := ⟨_, rfl⟩
  rw [← hnn] at hl hn h0
  rw [← hnn]
  unfold maxLen at hm
  have HC : Hid (∀ k, k < n → ∃ b o, ao = some ⟨b, o, none⟩ ∧ w.cell? ⟨b, o + k, none⟩ = some (.int .u8 ((l.getD k 0).toNat : Int))) := by
    refine Lib.hid fun k hk => ?_
    obtain ⟨b, o, cap', he, _, _, _, hq⟩ := h.1.pos (by omega) (by omega)
    simp only [Value.slice.injEq] at he
    exact ⟨b, o, he.1, hq k _ (bc_at (by rw [← hnn]; exact hk))⟩
  have HN := Lib.hid hnn
  clear h hc h0 hnn
  go_enter Try.func28, Try.ntmps28
  go_wp2
  go_loopw [3, 4] (fun s i wr => ∃ k : Nat, k ≤ n ∧ i = .int .i64 (k : Int) ∧ wr.ownsRow w.heap.size 5 1 s k (bc (l.take k)) ∧ Below w.heap.size w wr) (fun _ i _ => n - (intOf i).toNat)
  case atStart => exact ⟨0, by omega, rfl, by simpa [bc] using World.ownsRow_nil _ _ _ _, Below.refl _ _⟩
  case round =>
    obtain ⟨k, hk, rfl, ho, hb⟩ := hrel
    have hz := hb.size
    by_cases hlt : k < n
    · obtain ⟨b, o, rfl, g⟩ := HC.out k hlt
      have g' := (hb.cell (p := ⟨b, o + k, none⟩) (lt_cell g)).trans g
      have HO := Lib.hid ho
      have HB := Lib.hid hb
      obtain ⟨c, hcc⟩ : ∃ c, c = ((l.getD k 0).toNat : Int) := ⟨_, rfl⟩
      rw [← hcc] at g'
      have HCC := Lib.hid hcc
      clear ho hb g hcc
      go_wp2_with (at_builtin; refine apx wr 1 rfl (.tmp 11) (.tmp 16) 25 5 _ 1 1 Try.underlying25 Try.info5 rfl (by omega) rfl HO.out (by omega) (by omega) (by unfold maxLen; omega) [.int .u8 c] rfl (by simp [Value.oneCell']) _ rfl rfl rfl ?_; intro v1 w1 o1 b1 g1 e1; have O1 := Lib.hid o1; have B1 := Lib.hid b1; clear o1 b1 g1 e1)
      go_roundw
      case rel =>
        refine ⟨k + 1, by omega, by go_num, ?_, HB.out.trans B1.out⟩
        rw [take_nextG (d := 0) (by rw [← HN.out]; exact hlt), bc_app]
        have := O1.out
        rw [HCC.out] at this
        exact this
      case measure => simp [intOf] <;> omega
    · obtain rfl : n = k := by omega
      have e : l.take n = l := List.take_of_length_le (by rw [← HN.out]; exact Nat.le_refl _)
      rw [e] at ho
      have HO := Lib.hid ho
      have HB := Lib.hid hb
      clear ho hb e
      go_wp2
      go_ret
      refine ⟨_, rfl, ⟨?_, at_own HO.out⟩, HB.out⟩
      rw [← HN.out]
      exact Rd.own HO.out
end Go.Proofs.Ytahammkjkfdmhaa
/- The document's copy of a tree: keys and kids. -/
namespace Go.Proofs.Ytahammkjkfdmhaa
open Go.ChangeShapes Go.WideShapes Go.ChangeAt Go.RowKit
set_option linter.unusedVariables false
set_option linter.unusedSimpArgs false
set_option maxHeartbeats 4000000
variable {c0 c1 c2 c3 c4 c8 c9 c10 c11 c12 c13 c14 c15 c16 c17 c18 c19 c20 c21 c22 c23 c24 c25 c26 c27 c28 c29 c30 c31 c32 c33 c34 c35 c36 c37 c38 c39 c40 c41 c42 c43 c44 c45 c46 c47 c48 c49 c50 c51 c52 c53 c54 c55 c56 c57 c58 c59 c60 c61 c62 c63 c64 c65 c66 c67 c68 c69 c70 c71 c72 c73 c74 c75 : Value}
set_option maxRecDepth 1000000
theorem bt_trans {C : Nat} {w w1 w2 : World} (h1 : w.grownBy w1 (some C)) (h2 : w1.grownBy w2 (some C)) : w.grownBy w2 (some C) :=
  ⟨h2.os.trans h1.os, h2.tape.trans h1.tape, h2.output.trans h1.output, Nat.le_trans h1.size h2.size, fun k hk hne => (h2.block k (Nat.lt_of_lt_of_le hk h1.size) hne).trans (h1.block k hk hne)⟩
theorem bt_own {C : Nat} {w w1 w2 : World} {row : Option Nat} (h1 : w.grownBy w1 (some C)) (h2 : w1.grownBy w2 row) (hr : ∀ g, row = some g → w.heap.size ≤ g) : w.grownBy w2 (some C) :=
  ⟨h2.os.trans h1.os, h2.tape.trans h1.tape, h2.output.trans h1.output, Nat.le_trans h1.size h2.size, fun k hk hne => (h2.block k (Nat.lt_of_lt_of_le hk h1.size) (fun e => by have := hr k e.symm; omega)).trans (h1.block k hk hne)⟩
theorem bt_below {C : Nat} {w w1 : World} (h : Below w.heap.size w w1) : w.grownBy w1 (some C) := ⟨h.os, h.tape, h.output, h.size, fun k hk _ => h.block k hk⟩
theorem bt_set (w : World) (C j : Nat) (v : Value) : w.grownBy (w.setCell ⟨C, j, none⟩ v) (some C) :=
  ⟨rfl, rfl, rfl, by simp, fun k hk hne => Below.heap_setCell _ _ _ _ (fun e => hne (by rw [e]))⟩
theorem bt_old {C B : Nat} {w w1 : World} (h : w.grownBy w1 (some C)) (hC : B ≤ C) (hB : B ≤ w.heap.size) : Below B w w1 := ⟨h.os, h.tape, h.output, h.size, fun k hk => h.block k (by omega) (fun e => by cases e; omega)⟩
theorem Ks.mono {w : World} {ok ok' : Nat → Prop} {us : List Value} {ks : List Key} (h : Ks w ok us ks) (hm : ∀ b, ok b → ok' b) : Ks w ok' us ks := ⟨h.1, fun i k hk => by obtain ⟨x, h1, h2⟩ := h.2 i k hk; exact ⟨x, h1, h2.mono hm⟩⟩
theorem set1 {w : World} {C : Nat} {x0 x1 x2 x3 x4 : Value} {T : TypeId} (h : w.heap[C]? = some (.cells #[x0, x1, x2, x3, x4] T (0, 0))) (v : Value) : (w.setCell ⟨C, 1, none⟩ v).heap[C]? = some (.cells #[x0, v, x2, x3, x4] T (0, 0)) := by
  rw [Lib.heap_setCell_same h]; rfl
theorem set2 {w : World} {C : Nat} {x0 x1 x2 x3 x4 : Value} {T : TypeId} (h : w.heap[C]? = some (.cells #[x0, x1, x2, x3, x4] T (0, 0))) (v : Value) : (w.setCell ⟨C, 2, none⟩ v).heap[C]? = some (.cells #[x0, x1, v, x3, x4] T (0, 0)) := by
  rw [Lib.heap_setCell_same h]; rfl
theorem tc2 (Q : Exit → Act → World → Prop)  (w0 : World) (P C : Nat) (ok : Nat → Prop) (hok : ∀ b, ok b → b < w0.heap.size ∧ b ≠ C) (hP : P < w0.heap.size) (hC : C < w0.heap.size) (hPC : P ≠ C) (ks : List Key) (K : Nat) (HK : Hid (K = ks.length)) (hKm : K * 24 ≤ 140737488355232) (hkm : Hid (∀ s ∈ ks, s.length ≤ 140737488355327))
    (ak : Option Addr) (ck : Nat) (ff : Nat → Value) (p1 : w0.cell? ⟨P, 1, none⟩ = some (.slice ak K ck)) (K3 : Hid (∀ i, i < K → ∃ b o, ak = some ⟨b, o, none⟩ ∧ ok b ∧ w0.cell? ⟨b, o + i, none⟩ = some (ff i) ∧ RB w0 ok (ff i) (ks.getD i [])))
    (x0 x2 x3 x4 : Value) (hbox : w0.heap[C]? = some (.cells #[x0, .slice none 0 0, x2, x3, x4] 43 (0, 0)))
    (hexit : Hid (∀ (u7 u8 u33 u34 u35 u36 u37 u38 u39 u40 u41 u42 u43 u44 u45 u46 u47 u48 u49 u50 u51 : Value) (w' : World) (G : Nat → Prop) (kv : Value) (us : List Value), (∀ b, G b → w0.heap.size ≤ b ∧ b < w'.heap.size ∧ kv.ownBlock ≠ some b) → w'.ownsRow w0.heap.size 25 1 kv K us → Ks w' G us ks → w'.heap[C]? = some (.cells #[x0, kv, x2, x3, x4] 43 (0, 0)) → w0.grownBy w' (some C) → Q (.exit 2) ⟨List.toArray (c0::c1::c2::c3::c4::(.pointer (some ⟨P, 0, none⟩))::(.pointer (some ⟨C, 0, none⟩))::u7::u8::c9::c10::c11::c12::c13::c14::c15::c16::c17::c18::c19::c20::c21::c22::c23::c24::c25::c26::c27::c28::c29::c30::c31::c32::u33::u34::u35::u36::u37::u38::u39::u40::u41::u42::u43::u44::u45::u46::u47::u48::u49::u50::u51::c52::c53::c54::c55::c56::c57::c58::c59::c60::c61::c62::c63::c64::c65::c66::c67::c68::c69::c70::c71::c72::c73::c74::c75::[]), []⟩ w')) :
    Code.wp Try.prog (Code.loop (loopAt Try.f12 1)) Q ⟨List.toArray (c0::c1::c2::c3::c4::(.pointer (some ⟨P, 0, none⟩))::(.pointer (some ⟨C, 0, none⟩))::(.int .i64 0)::c8::c9::c10::c11::c12::c13::c14::c15::c16::c17::c18::c19::c20::c21::c22::c23::c24::c25::c26::c27::c28::c29::c30::c31::c32::c33::c34::c35::c36::c37::c38::c39::c40::c41::c42::c43::c44::c45::c46::c47::c48::c49::c50::c51::c52::c53::c54::c55::c56::c57::c58::c59::c60::c61::c62::c63::c64::c65::c66::c67::c68::c69::c70::c71::c72::c73::c74::c75::[]), []⟩ w0 := by
  conv => arg 2; arg 1; whnf
  have HBOX := Lib.hid hbox
  clear hbox
  go_loopw [7] (fun i wr => ∃ (k : Nat) (G : Nat → Prop) (kv : Value) (us : List Value), k ≤ K ∧ i = .int .i64 (k : Int) ∧ (∀ b, G b → w0.heap.size ≤ b ∧ b < wr.heap.size ∧ kv.ownBlock ≠ some b) ∧ wr.ownsRow w0.heap.size 25 1 kv k us ∧ Ks wr G us (ks.take k) ∧ wr.heap[C]? = some (.cells #[x0, kv, x2, x3, x4] 43 (0, 0)) ∧ w0.grownBy wr (some C)) (fun i _ => K - (intOf i).toNat)
  case atStart => exact ⟨0, fun _ => False, .slice none 0 0, [], by omega, rfl, fun b h => h.elim, World.ownsRow_nil _ _ _ _, Ks.nil _ _, HBOX.out, World.grownBy.refl _ _⟩
  case round =>
    obtain ⟨k, G, kv, us, hk, rfl, hG, hown, hks, hbx, hgr⟩ := hrel
    have hz := hgr.size
    have p1' := hgr.cell p1 (fun e => hPC (Option.some.inj e))
    have hkvlt := hown.lt
    have HG := Lib.hid hG
    have HOWN := Lib.hid hown
    have HKS := Lib.hid hks
    have HBX := Lib.hid hbx
    have HGR := Lib.hid hgr
    have HLT := Lib.hid hkvlt
    clear hG hown hks hbx hgr hkvlt
    by_cases hlt : k < K
    · obtain ⟨b, o, rfl, hokb, g1, g2⟩ := K3.out k hlt
      have hb' := hok _ hokb
      have g1' := HGR.out.cell g1 (fun e => hb'.2 (Option.some.inj e))
      have hag : Agree ok w0 wr := fun b hb hlt => HGR.out.block b hlt (fun e => (hok b hb).2 (Option.some.inj e))
      have hkl : k < ks.length := by rw [← HK.out]; exact hlt
      have hmem : ks.getD k [] ∈ ks := by
        simp only [List.getD, List.getElem?_eq_getElem hkl, Option.getD_some]
        exact List.getElem_mem hkl
      obtain ⟨s, hs⟩ : ∃ s, s = ks.getD k [] := ⟨_, rfl⟩
      rw [← hs] at g2 hmem
      have hcp := bcopy_any wr ok _ _ (g2.agree hag) (hkm.out _ hmem)
      have HS := Lib.hid hs
      obtain ⟨ns, hns⟩ : ∃ ns, ns = s.length := ⟨_, rfl⟩
      have HNS := Lib.hid hns
      clear hs
      have HCP := Lib.hid hcp
      have HKL := Lib.hid hkl
      have q0 : (0 : Int) ≤ (k : Int) := by omega
      have q1 : (k : Int) < (K : Int) := by omega
      clear g1 g2 hag hkl hmem hcp hokb hns
      go_wp2_with fail
      refine HCP.out.mono ?_
      rintro e w1 ⟨v1, rfl, hr1, hb1⟩
      have hz1 := hb1.size
      obtain ⟨a1, d1, e1⟩ := hr1.sh
      rw [← HNS.out] at e1
      have hbx1 := (hb1.block C (by omega)).trans HBX.out
      obtain ⟨y0, y1, y2, y3, y4, f0, f1, f2, f3, f4⟩ := box5 hbx1
      have ho1 := own_below HOWN.out hb1
      obtain ⟨_, ao, co, rfl, _⟩ := Rd.own ho1
      have HR1 := Lib.hid hr1
      have HB1 := Lib.hid hb1
      have HBX1 := Lib.hid hbx1
      have HO1 := Lib.hid ho1
      clear hr1 hb1 hbx1 ho1
      subst e1
      go_wp2_with (at_builtin; refine apx w1 1 rfl (.tmp 47) (.tmp 49) 41 25 _ 1 24 Try.underlying41 infoI_ks rfl (by omega) rfl HO1.out (by omega) (by omega) (by unfold maxLen; omega) [.slice a1 ns d1] rfl (by simp [Value.oneCell']) _ rfl rfl rfl ?_; intro v2 w2 o2 b2 g2 e2; obtain ⟨_, a5, c5, rfl, _⟩ := Rd.own o2; have z2 := b2.size; have hCv : some C ≠ (Value.slice ao k co).ownBlock := (fun e => by have := HLT.out C e.symm; omega); have s1 := g2.cell y1 hCv; have s1f := (g2.frozen_far ⟨C, 1, none⟩ (by show C < _; omega) hCv).trans f1; have HBX2 := Lib.hid ((g2.block C (by omega) hCv).trans HBX1.out); have O2 := Lib.hid o2; have B2 := Lib.hid b2; have G2 := Lib.hid g2; have E2 := Lib.hid e2; clear o2 b2 g2 e2)
      have hgS : w0.grownBy (w2.setCell ⟨C, 1, none⟩ (.slice a5 (k + 1) c5)) (some C) :=
        bt_trans (bt_own (bt_trans HGR.out (bt_below HB1.out)) G2.out (fun g hg => (HLT.out g hg).1)) (bt_set _ _ _ _)
      have hbx3 := set1 HBX2.out (.slice a5 (k + 1) c5)
      have hbel : Below (w2.heap.size) w2 w2 := Below.refl _ _
      have HGS := Lib.hid hgS
      have HBX3 := Lib.hid hbx3
      have ho3 : (w2.setCell ⟨C, 1, none⟩ (.slice a5 (k + 1) c5)).ownsRow w0.heap.size 25 1 (.slice a5 (k + 1) c5) (k + 1) (us ++ [.slice a1 ns d1]) :=
        O2.out.kept (bt_set _ _ _ _) (.inr fun e => by have := (O2.out.lt C e).1; omega)
      have HO3 := Lib.hid ho3
      have hz3 : (w2.setCell ⟨C, 1, none⟩ (.slice a5 (k + 1) c5)).heap.size = w2.heap.size := by simp
      have hwb : Hid (∀ b, b ≠ C → (w2.setCell ⟨C, 1, none⟩ (.slice a5 (k + 1) c5)).heap[b]? = w2.heap[b]?) := Lib.hid fun b h => Below.heap_setCell _ _ _ _ h
      clear hgS hbx3 ho3 hbel
      obtain ⟨w3, hw3⟩ : ∃ w3 : World, w3 = w2.setCell ⟨C, 1, none⟩ (.slice a5 (k + 1) c5) := ⟨_, rfl⟩
      rw [← hw3] at HGS HBX3 HO3 hz3 hwb ⊢
      clear hw3
      go_wp2_with fail
      go_roundw
      case rel =>
        have hG3 : ∀ b, (G b ∨ newOnes wr w1 b) → w0.heap.size ≤ b ∧ b < w3.heap.size ∧ (Value.slice a5 (k + 1) c5).ownBlock ≠ some b := by
          rintro b (g | g)
          · obtain ⟨h1, h2, h3⟩ := HG.out b g
            refine ⟨h1, by omega, fun e => ?_⟩
            rcases E2.out with f | f
            · rw [f] at e; exact h3 e
            · rw [f] at e; cases e; omega
          · refine ⟨by have := g.1; omega, by have := g.2; omega, fun e => ?_⟩
            rcases E2.out with f | f
            · rw [f] at e; have := HLT.out b e; have := g.1; omega
            · rw [f] at e; cases e; have := g.2; omega
        have hag : ∀ H : Nat → Prop, (∀ b, H b → b < w1.heap.size ∧ (Value.slice ao k co).ownBlock ≠ some b ∧ b ≠ C) → Agree H w1 w3 := fun H hH b hb hlt => by
          obtain ⟨h1, h2, h3⟩ := hH b hb
          exact (hwb.out b h3).trans (G2.out.block b hlt (fun e => h2 e.symm))
        refine ⟨k + 1, fun b => G b ∨ newOnes wr w1 b, _, _, by omega, by go_num, hG3, HO3.out, ?_, HBX3.out, HGS.out⟩
        rw [take_nextG (d := []) HKL.out, ← HS.out]
        refine Ks.snoc (Ks.mono ((HKS.out.agree (Agree.below HB1.out G)).agree (hag G fun b g => ?_)) fun b h => .inl h) (RB.mono (RB.agree HR1.out (hag _ fun b g => ?_)) fun b h => .inr h)
        · obtain ⟨h1, h2, h3⟩ := HG.out b g
          exact ⟨by omega, h3, by omega⟩
        · exact ⟨g.2, fun e => by have := HLT.out b e; have := g.1; omega, by have := g.1; omega⟩
      case measure => simp [intOf] <;> omega
    · obtain rfl : K = k := by omega
      have e : ks.take K = ks := List.take_of_length_le (by rw [← HK.out]; exact Nat.le_refl _)
      rw [e] at HKS
      clear e
      go_wp2_with fail
      exact hexit.out _ _ _ _ _ _ _ _ _ _ _ _ _ _ _ _ _ _ _ _ _ _ G kv us HG.out HOWN.out HKS.out HBX.out HGR.out
end Go.Proofs.Ytahammkjkfdmhaa
/- The document's copy of a tree: a kid. -/
namespace Go.Proofs.Ytahammkjkfdmhaa
open Go.ChangeShapes Go.WideShapes Go.ChangeAt Go.RowKit
set_option linter.unusedVariables false
set_option linter.unusedSimpArgs false
set_option maxHeartbeats 4000000
set_option maxRecDepth 1000000
variable {c0 c1 c2 c3 c4 c7 c8 c10 c11 c12 c13 c14 c15 c16 c17 c18 c19 c20 c21 c22 c23 c24 c25 c26 c27 c28 c29 c30 c31 c32 c33 c34 c35 c36 c37 c38 c39 c40 c41 c42 c43 c44 c45 c46 c47 c48 c49 c50 c51 c52 c53 c54 c55 c56 c57 c58 c59 c60 c61 c62 c63 c64 c65 c66 c67 c68 c69 c70 c71 c72 c73 c74 c75 : Value}
/-- A region's end, where it can't panic: what is asked at a panic doesn't look at the frame then. -/
def NQ (Q : Exit → Act → World → Prop) : Exit → Act → World → Prop
  | .normal, a, w => Q .normal a w
  | _, _, _ => False
theorem nq_to {Q : Exit → Act → World → Prop} : ∀ e a w, NQ Q e a w → Q e a w := by
  intro e a w h
  cases e <;> first | exact h | exact h.elim
theorem r15 (Q : Exit → Act → World → Prop)  (w0 : World) (B P C k D b o cd m : Nat) (hBw : B ≤ w0.heap.size) (hP : P < B) (hC : C < B) (hb : b < B) (hPC : P ≠ C) (hk : k < D) (hm : m ≤ 17592186044404) (n : Int) (ad : Option Addr) (cap : Nat) (xs : List Value) (x0 x1 x3 x4 : Value)
    (p2 : w0.cell? ⟨P, 2, none⟩ = some (.slice (some ⟨b, o, none⟩) D cd)) (g : w0.cell? ⟨b, o + k, none⟩ = some (.int .i64 n)) (hbox : Hid (w0.heap[C]? = some (.cells #[x0, x1, .slice ad m cap, x3, x4] 43 (0, 0)))) (hown : Hid (w0.ownsRow B 3 1 (.slice ad m cap) m xs))
    (hout : Hid (∀ (u59 u60 u61 u62 u63 u64 u65 u66 u67 u68 : Value) (w' : World) (v : Value), w'.ownsRow B 3 1 v (m + 1) (xs ++ [.int .i64 n]) → (v.ownBlock = (Value.slice ad m cap).ownBlock ∨ (∀ g, v.ownBlock = some g → w0.heap.size ≤ g)) → w'.heap[C]? = some (.cells #[x0, x1, v, x3, x4] 43 (0, 0)) → w0.heap.size ≤ w'.heap.size → w'.os = w0.os → w'.tape = w0.tape → w'.output = w0.output → (∀ q, q < w0.heap.size → q ≠ C → (Value.slice ad m cap).ownBlock ≠ some q → w'.heap[q]? = w0.heap[q]?) → Q .normal ⟨List.toArray (c0::c1::c2::c3::c4::(.pointer (some ⟨P, 0, none⟩))::(.pointer (some ⟨C, 0, none⟩))::c7::c8::(.int .i64 (k : Int))::c10::c11::c12::c13::c14::c15::c16::c17::c18::c19::c20::c21::c22::c23::c24::c25::c26::c27::c28::c29::c30::c31::c32::c33::c34::c35::c36::c37::c38::c39::c40::c41::c42::c43::c44::c45::c46::c47::c48::c49::c50::c51::c52::c53::c54::c55::c56::c57::c58::u59::u60::u61::u62::u63::u64::u65::u66::u67::u68::c69::c70::c71::c72::c73::c74::c75::[]), []⟩ w')) :
    Code.wp Try.prog ((regionOf 15 (Try.f12.body.getD .skip)).getD .skip) Q ⟨List.toArray (c0::c1::c2::c3::c4::(.pointer (some ⟨P, 0, none⟩))::(.pointer (some ⟨C, 0, none⟩))::c7::c8::(.int .i64 (k : Int))::c10::c11::c12::c13::c14::c15::c16::c17::c18::c19::c20::c21::c22::c23::c24::c25::c26::c27::c28::c29::c30::c31::c32::c33::c34::c35::c36::c37::c38::c39::c40::c41::c42::c43::c44::c45::c46::c47::c48::c49::c50::c51::c52::c53::c54::c55::c56::c57::c58::c59::c60::c61::c62::c63::c64::c65::c66::c67::c68::c69::c70::c71::c72::c73::c74::c75::[]), []⟩ w0 := by
  refine Code.wp_mono (Q := NQ Q) nq_to ?_
  conv => arg 2; whnf
  obtain ⟨y0, y1, y2, y3, y4, f0, f1, f2, f3, f4⟩ := box5 hbox.out
  have i0 : (0 : Int) ≤ (k : Int) := by omega
  have i1 : (k : Int) < (D : Int) := by omega
  have hC2 : C < w0.heap.size := by omega
  have hP2 : P < w0.heap.size := by omega
  have hb2 : b < w0.heap.size := by omega
  obtain ⟨i9, hi0, hz0, hz1, hz2⟩ := info_parts Try.info3
  have hne : ∀ q, q < B → some q ≠ (Value.slice ad m cap).ownBlock := fun q h e => by have := (hown.out.lt _ e.symm).1; omega
  have HNE := Lib.hid hne
  clear hne
  have f2' : ∀ (W : World), W = (w0.alloc (.cells #[.int .i64 n] 3)).drew → W.frozen? ⟨C, 2, none⟩ = false := by
    rintro W rfl
    exact ((((Below.refl w0.heap.size w0).alloc (Nat.le_refl _) (.cells #[.int .i64 n] 3)).drew).frozen (p := ⟨C, 2, none⟩) hC2).trans f2
  have F2 := Lib.hid f2'
  have c2' : ∀ (W : World), W = (w0.alloc (.cells #[.int .i64 n] 3)).drew → W.cell? ⟨C, 2, none⟩ = some (.slice ad m cap) := by
    rintro W rfl
    exact ((((Below.refl w0.heap.size w0).alloc (Nat.le_refl _) (.cells #[.int .i64 n] 3)).drew).cell (p := ⟨C, 2, none⟩) hC2).trans y2
  have C2 := Lib.hid c2'
  clear f2' c2'
  go_region_law ((refine step_append_lies _ (by rfl) _ _ _ (by rfl) B 3 i9 _ 1 8 Try.underlying37 hi0 hz0 hz1 hz2 rfl (by omega) (.slice ad m cap) m xs (by rfl) ((hown.out.alloc _).drew) ⟨w0.heap.size, 0, none⟩ 1 1 [.int .i64 n] (by rfl) (by rfl) (World.news_of_block (cs := #[.int .i64 n]) (t := 3) (fr := (0, 0)) (heap_alloc_new w0 _)) (by simp [Value.oneCell']) (by omega) (by unfold maxLen; omega) (by omega) (by simp; omega) (w0.heap.size + 1) (by simp) ?_; intro gg cap1 w1 hown1 hgrow hat2 hlt4; have hf1 := (hgrow.frozen_far ⟨C, 2, none⟩ (by simp; omega) (HNE.out _ hC)).trans (F2.out _ rfl); have hc1 := (hgrow.cell_far ⟨C, 2, none⟩ (by simp; omega) (HNE.out _ hC)).trans (C2.out _ rfl)))
  all_goals (
    refine hout.out _ _ _ _ _ _ _ _ _ _ _ (.slice (some ⟨gg, 0, none⟩) (m + 1) cap1) ?_ ?_ ?_ ?_ ?_ ?_ ?_ ?_
    · exact hown1.kept (bt_set _ _ _ _) (.inr fun e => by have := (hown1.lt C e).1; omega)
    · rcases hat2 with h | h
      · exact .inl h.symm
      · exact .inr fun g hg => by (have e9 : gg = g := Option.some.inj hg); omega
    · refine set2 (x2 := .slice ad m cap) ?_ _
      exact (hgrow.block C (by simp only [World.size_alloc, World.size_drew]; omega) (HNE.out _ hC)).trans ((((Below.refl w0.heap.size w0).alloc (Nat.le_refl _) (.cells #[.int .i64 n] 3)).drew.block C hC2).trans hbox.out)
    · have h1 := hgrow.size
      simp at h1 ⊢
      omega
    · exact hgrow.os
    · exact hgrow.tape
    · exact hgrow.output
    · intro q hq hqC hqo
      exact (Below.heap_setCell _ _ _ _ hqC).trans ((hgrow.block q (by simp only [World.size_alloc, World.size_drew]; omega) (fun e => hqo e.symm)).trans (((Below.refl w0.heap.size w0).alloc (Nat.le_refl _) (.cells #[.int .i64 n] 3)).drew.block q hq)))
theorem tc3 (Q : Exit → Act → World → Prop)  (w0 : World) (P C : Nat) (ok : Nat → Prop) (hok : ∀ b, ok b → b < w0.heap.size ∧ b ≠ C) (hP : P < w0.heap.size) (hC : C < w0.heap.size) (hPC : P ≠ C) (ds : List Int) (D : Nat) (HD : Hid (D = ds.length)) (hDm : D * 8 ≤ 140737488355232)
    (ad : Option Addr) (cd : Nat) (p2 : w0.cell? ⟨P, 2, none⟩ = some (.slice ad D cd)) (D3 : Hid (∀ i, i < D → ∃ b o, ad = some ⟨b, o, none⟩ ∧ ok b ∧ w0.cell? ⟨b, o + i, none⟩ = some (.int .i64 (ds.getD i 0))))
    (x0 x1 x3 x4 : Value) (hbox : w0.heap[C]? = some (.cells #[x0, x1, .slice none 0 0, x3, x4] 43 (0, 0)))
    (hexit : Hid (∀ (u9 u52 u53 u54 u55 u56 u57 u58 u59 u60 u61 u62 u63 u64 u65 u66 u67 u68 : Value) (w' : World) (dv : Value), w'.ownsRow w0.heap.size 3 1 dv D (ic ds) → w'.heap[C]? = some (.cells #[x0, x1, dv, x3, x4] 43 (0, 0)) → w0.grownBy w' (some C) → Q (.exit 4) ⟨List.toArray (c0::c1::c2::c3::c4::(.pointer (some ⟨P, 0, none⟩))::(.pointer (some ⟨C, 0, none⟩))::c7::c8::u9::c10::c11::c12::c13::c14::c15::c16::c17::c18::c19::c20::c21::c22::c23::c24::c25::c26::c27::c28::c29::c30::c31::c32::c33::c34::c35::c36::c37::c38::c39::c40::c41::c42::c43::c44::c45::c46::c47::c48::c49::c50::c51::u52::u53::u54::u55::u56::u57::u58::u59::u60::u61::u62::u63::u64::u65::u66::u67::u68::c69::c70::c71::c72::c73::c74::c75::[]), []⟩ w')) :
    Code.wp Try.prog (Code.loop (loopAt Try.f12 2)) Q ⟨List.toArray (c0::c1::c2::c3::c4::(.pointer (some ⟨P, 0, none⟩))::(.pointer (some ⟨C, 0, none⟩))::c7::c8::(.int .i64 0)::c10::c11::c12::c13::c14::c15::c16::c17::c18::c19::c20::c21::c22::c23::c24::c25::c26::c27::c28::c29::c30::c31::c32::c33::c34::c35::c36::c37::c38::c39::c40::c41::c42::c43::c44::c45::c46::c47::c48::c49::c50::c51::c52::c53::c54::c55::c56::c57::c58::c59::c60::c61::c62::c63::c64::c65::c66::c67::c68::c69::c70::c71::c72::c73::c74::c75::[]), []⟩ w0 := by
  conv => arg 2; arg 1; whnf
  have HBOX := Lib.hid hbox
  clear hbox
  go_loopw [9] (fun i wr => ∃ (k : Nat) (dv : Value), k ≤ D ∧ i = .int .i64 (k : Int) ∧ wr.ownsRow w0.heap.size 3 1 dv k (ic (ds.take k)) ∧ wr.heap[C]? = some (.cells #[x0, x1, dv, x3, x4] 43 (0, 0)) ∧ w0.grownBy wr (some C)) (fun i _ => D - (intOf i).toNat)
  case atStart => exact ⟨0, .slice none 0 0, by omega, rfl, by simpa [ic] using World.ownsRow_nil _ _ _ _, HBOX.out, World.grownBy.refl _ _⟩
  case round =>
    obtain ⟨k, dv, hk, rfl, hown, hbx, hgr⟩ := hrel
    have hz := hgr.size
    have p2' := hgr.cell p2 (fun e => hPC (Option.some.inj e))
    have hlto := hown.lt
    obtain ⟨_, a0, cap0, rfl, _⟩ := Rd.own hown
    have HOWN := Lib.hid hown
    have HBX := Lib.hid hbx
    have HGR := Lib.hid hgr
    have HLT := Lib.hid hlto
    clear hown hbx hgr hlto
    by_cases hlt : k < D
    · obtain ⟨b, o, rfl, hokb, g1⟩ := D3.out k hlt
      have hb' := hok _ hokb
      have g1' := HGR.out.cell g1 (fun e => hb'.2 (Option.some.inj e))
      have hkl : k < ds.length := by rw [← HD.out]; exact hlt
      have HKL := Lib.hid hkl
      clear g1 hkl hokb
      go_wp2_with fail
      change Code.wp _ ((regionOf 15 (Try.f12.body.getD .skip)).getD .skip) _ _ _
      refine r15 _ wr w0.heap.size P C k D b o cd k hz hP hC hb'.1 hPC hlt (by omega) (ds.getD k 0) a0 cap0 (ic (ds.take k)) x0 x1 x3 x4 p2' g1' HBX HOWN ?_
      refine Lib.hid ?_
      intro z0 z1 z2 z3 z4 z5 z6 z7 z8 z9 w2 v h1 h2 h3 h4 h5 h6 h7 h8
      have H1 := Lib.hid h1
      have H3 := Lib.hid h3
      have hg2 : w0.grownBy w2 (some C) := ⟨h5.trans HGR.out.os, h6.trans HGR.out.tape, h7.trans HGR.out.output, by omega, fun q hq hne => (h8 q (by omega) (fun e => hne (by rw [e])) (fun e => by have := (HLT.out q e).1; omega)).trans (HGR.out.block q hq hne)⟩
      have HG2 := Lib.hid hg2
      clear h1 h2 h3 h4 h5 h6 h7 h8 hg2
      go_wp2_with fail
      go_roundw
      case rel =>
        refine ⟨k + 1, v, by omega, by go_num, ?_, H3.out, HG2.out⟩
        rw [take_nextG (d := 0) HKL.out, ic_app]
        exact H1.out
      case measure => simp [intOf] <;> omega
    · obtain rfl : D = k := by omega
      have e : ds.take D = ds := List.take_of_length_le (by rw [← HD.out]; exact Nat.le_refl _)
      rw [e] at HOWN
      clear e
      go_wp2_with fail
      exact hexit.out _ _ _ _ _ _ _ _ _ _ _ _ _ _ _ _ _ _ _ _ HOWN.out HBX.out HGR.out
end Go.Proofs.Ytahammkjkfdmhaa

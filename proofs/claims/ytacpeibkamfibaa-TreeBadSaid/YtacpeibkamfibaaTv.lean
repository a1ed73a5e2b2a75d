/- The iterator along the leaves: each entry that is not below a key. -/
import Derived.Test.YtacpeibkamfibaaTu
import Derived.Test.YtacpeibkamfibaaTe
import Derived.Test.YtacpeibkamfibaaTs
import Derived.Test.YtacpeibkamfibaaTf
import Derived.Test.YtacpeibkamfibaaHb
import Derived.Test.YtacpeibkamfibaaHe
namespace Go.Proofs.Ytacpeibkamfibaa
open Go.ChangeShapes Go.WideShapes Go.ChangeAt Go.RowKit Go.Shelf
set_option linter.unusedVariables false
set_option linter.unusedSimpArgs false
set_option maxHeartbeats 8000000
set_option maxRecDepth 100000
attribute [local go_sem] Oper.semAt_some
/-- What is handed out: a slice, and the entry. -/
abbrev EntX := Value × (Key × Int)
def encE (x : EntX) : Array Value := #[.agg #[x.1, .int .i64 x.2.2]]
/-- What a round keeps: what lay below; boxes of a page, of a tree, of bytes' slices. -/
def KpE (n₀ : Nat) (A B : World) : Prop := Below n₀ A B ∧ ∀ (b : Nat) (C : Array Value) (T : TypeId) (sp : Nat × Nat), (T = 59 ∨ T = 24 ∨ T = 25) → A.heap[b]? = some (Obj.cells C T sp) → B.heap[b]? = some (Obj.cells C T sp)
theorem KpE.refl (n₀ : Nat) (A : World) : KpE n₀ A A := ⟨Below.refl _ _, fun _ _ _ _ _ h => h⟩
theorem KpE.trans {n₀ : Nat} {A B C : World} (h : KpE n₀ A B) (g : KpE n₀ B C) : KpE n₀ A C := ⟨h.1.trans g.1, fun b D T sp hT hb => g.2 b D T sp hT (h.2 b D T sp hT hb)⟩
theorem KpE.of_below {n₀ : Nat} {A B : World} (h : Below A.heap.size A B) (hn : n₀ ≤ A.heap.size) : KpE n₀ A B := ⟨h.mono hn, fun b C T sp _ hb => (h.block b (Array.getElem?_eq_some_iff.1 hb).1).trans hb⟩
def GE (n₀ : Nat) (E : List (Key × Int)) (pre : List EntX) (x : EntX) (W : World) : Prop := E[pre.length]? = some x.2 ∧ W.ownsRow n₀ 5 1 x.1 x.2.1.length (bc x.2.1)
theorem box1 {w : World} {B : Nat} {x0 : Value} {T : TypeId} (h : w.heap[B]? = some (.cells #[x0] T (0, 0))) : w.cell? ⟨B, 0, none⟩ = some x0 := by simp [World.cell?, h]
theorem cell_drw {W : World} {a : Addr} {v : Value} (h : W.cell? a = some v) : W.drew.cell? a = some v := by simpa using h
theorem boxF {w : World} {B : Nat} {x0 x1 x2 x3 x4 : Value} {T : TypeId} (h : w.heap[B]? = some (.cells #[x0, x1, x2, x3, x4] T (0, 0))) : w.cell? ⟨B, 0, none⟩ = some x0 ∧ w.cell? ⟨B, 1, none⟩ = some x1 ∧ w.cell? ⟨B, 2, none⟩ = some x2 := ⟨by simp [World.cell?, h], by simp [World.cell?, h], by simp [World.cell?, h]⟩
theorem ents1_in (n l Bt Bk : Nat) (hn : 1 ≤ n) (w W : World) (ok ok' : Nat → Prop) (hok : ∀ b, ok b → b < w.heap.size) (ao : Option Addr) (N cap : Nat) (ak : Option Addr) (nk ck : Nat) (T : Tr) (h : Nat) (t : Tb h) (k : Key)
    (ht : RT w ok (.agg #[.slice ao N cap, .int .i64 T.root]) T) (hr : Reps T h t) (hk : RB w ok' (.slice ak nk ck) k) (hN : T.pages.length ≤ 4000) (E : List (Key × Int)) (hE : E = (entT h t).filter fun e => !kl e.1 k)
    (J Jx : List EntX → World → Prop) (hJb : ∀ s A B, J s A → Below A.heap.size A B → J s B)
    (hY : ∀ pre x W1, J pre W1 → GE w.heap.size E pre x W1 → YieldAt Fence.wide (n - 1) Try.prog l (encE x) W1 fun e W' => (e = .returned (.bool true) ∧ J (pre ++ [x]) W' ∧ KpE w.heap.size W1 W') ∨ (e = .returned (.bool false) ∧ Jx (pre ++ [x]) W'))
    (hW : Below w.heap.size w W) (hbt : W.heap[Bt]? = some (.cells #[.slice ao N cap, .int .i64 T.root] 24 (0, 0))) (hbk : W.heap[Bk]? = some (.cells #[.slice ak nk ck] 25 (0, 0))) (h0 : J [] W) :
    CallsIn Fence.wide n Try.prog 61 #[.func (.yield l) #[] #[], .pointer (some ⟨Bt, 0, none⟩), .pointer (some ⟨Bk, 0, none⟩)] W fun e W' => (∃ v, e = .returned v) ∧ ((∃ xs : List EntX, xs.map (·.2) = E ∧ J xs W') ∨ (∃ pre, Jx pre W')) := by
  obtain ⟨ls1, hc, hE2, hlv, hnd⟩ := vis_all hr k
  obtain ⟨ls, hls⟩ : ∃ ls, ls = leafT h t k :: ls1 := ⟨_, rfl⟩
  have hlf : ((leafT h t k).1 : Int) = firstL (-1) (ls.drop 0) := by rw [hls]; rfl
  rw [← hls] at hc hE2 hlv hnd
  have hlo := leafOf_any W ok ok' (fun b hb => by have := hok b hb; have := hW.size; omega) _ _ T h t k (ht.below hW) hr (hk.below hW) (by omega)
  obtain ⟨p0, hp0⟩ : ∃ p : Int, p = firstL (-1) (ls.drop 0) := ⟨_, rfl⟩
  rw [hlf, ← hp0] at hlo
  have HP0 := Lib.hid hp0
  have HLO := Lib.hid hlo
  obtain ⟨ao', cp, kf, df, gf, e1, g1, g2, g3⟩ := pagesF ht
  simp only [Value.agg.injEq, Array.mk.injEq, List.cons.injEq, Value.slice.injEq, and_true] at e1
  obtain ⟨rfl, eN, rfl⟩ := e1
  have HP := Lib.hid g3
  have HT := Lib.hid (And.intro ht (And.intro hr (And.intro hk (And.intro eN (And.intro hN (And.intro hE hE2))))))
  have HC := Lib.hid (And.intro hc (And.intro hlv hnd))
  have HY := Lib.hid hY
  have HW := Lib.hid hW
  have HBX := Lib.hid (And.intro hbt hbk)
  have HJ0 := Lib.hid h0
  have HJB := Lib.hid hJb
  obtain ⟨y0, y1, -⟩ := box2 hbt
  have y2 := box1 hbk
  have hN4 : N ≤ 4000 := by omega
  clear hlo g3 g1 g2 ht hr hk hN hE hE2 hc hlv hnd hY hW hbt hbk h0 hJb hlf hls hp0 eN
  have hf1 : Fence.wide.fn 51 := trivial
  have hf2 : Fence.wide.fn 52 := trivial
  have hf3 : Fence.wide.fn 46 := trivial
  refine callsIn_of_wp Try.func61 rfl trivial ?_ rfl
  simp only [Try.ntmps61, List.size_toArray, List.length_cons, List.length_nil, Nat.reduceAdd, Nat.reduceSub, Array.replicate_succ, Array.replicate_zero, List.push_toArray, List.append_toArray, List.nil_append, List.cons_append]
  gi_wp2_with fail
  refine (callsIn_wide.2 HLO.out).mono ?_
  rintro e w1 ⟨rfl, hb1⟩
  gi_wp2_with fail
  have HB1 := Lib.hid hb1
  clear hb1
  gi_loopw [4] (fun p wr => ∃ (j : Nat) (xs : List EntX), j ≤ ls.length ∧ p = .int .i64 (firstL (-1) (ls.drop j)) ∧ xs.map (·.2) = visL k (ls.take j) ∧ J xs wr ∧ KpE w.heap.size W wr)
    (fun p _ => restN ls (intOf p))
  case atStart => exact ⟨0, [], Nat.zero_le _, by rw [HP0.out], by simp [visL], HJB.out _ _ _ HJ0.out HB1.out, KpE.of_below HB1.out HW.out.size⟩
  case round =>
    obtain ⟨j, xs, hj, rfl, hxs, hJs, hkp⟩ := hrel
    have HJS := Lib.hid hJs
    have HXS := Lib.hid hxs
    have HKP := Lib.hid hkp
    have HBW := Lib.hid (HW.out.trans hkp.1)
    have hBX := And.intro (hkp.2 Bt _ _ _ (.inr (.inl rfl)) HBX.out.1) (hkp.2 Bk _ _ _ (.inr (.inr rfl)) HBX.out.2)
    have HBR := Lib.hid hBX
    obtain ⟨z0, z1, -⟩ := box2 hBX.1
    have z2 := box1 hBX.2
    clear hJs hxs hkp hBX y0 y1 y2
    by_cases hlt : j < ls.length
    · obtain ⟨lf, hlf⟩ : ∃ lf, lf = ls[j] := ⟨_, rfl⟩
      have hdr : ls.drop j = lf :: ls.drop (j + 1) := by rw [hlf]; exact List.drop_eq_getElem_cons hlt
      have hch : Chain T.pages (-1) (ls.drop j) := by
        have q := HC.out.1
        rw [← List.take_append_drop j ls] at q
        exact (chain_app.1 q).2
      rw [hdr] at hch
      obtain ⟨hi, hpg⟩ := hch.1
      obtain ⟨hrise, hl4, hlN, hokk⟩ := HC.out.2.1 lf (by rw [hlf]; exact List.getElem_mem hlt)
      obtain ⟨nx, hnx⟩ : ∃ nx, nx = firstL (-1) (ls.drop (j + 1)) := ⟨_, rfl⟩
      rw [← hnx] at hpg
      obtain ⟨bp, op, rfl, hbp, hokb, hpa⟩ := HP.out lf.1 hlN
      rw [getD_of hpg] at hpa
      obtain ⟨a0, a1, a2, a3, a4, a5, a6, a7⟩ := hpa
      simp only at a0 a1 a2 a3 a4 a5 a6
      have eh : firstL (-1) (ls.drop j) = (lf.1 : Int) := by rw [hdr]; rfl
      rw [eh]
      obtain ⟨i, hi'⟩ : ∃ i, i = lf.1 := ⟨_, rfl⟩
      rw [← hi'] at a0 a1 a2 a3 a4 ⊢
      have HOK := Lib.hid hokk
      clear hokk
      have HJL := Lib.hid (show ∃ h : j < ls.length, lf = ls[j] from ⟨hlt, hlf⟩)
      have HLF := Lib.hid (And.intro hdr (And.intro hrise (And.intro hl4 (And.intro hnx (And.intro hi' eh)))))
      have hiN : (i : Int) < (N : Int) := by have := HT.out.2.2.2.1; omega
      have hi0 : (0 : Int) ≤ (i : Int) := by omega
      obtain ⟨m, hm⟩ : ∃ m, m = lf.2.length := ⟨_, rfl⟩
      have hm4 : m ≤ 4 := by omega
      have hkm : (lf.2.map (·.1)).length = m := by rw [List.length_map, hm]
      have hdm : (lf.2.map (·.2)).length = m := by rw [List.length_map, hm]
      have HM := Lib.hid hm
      obtain ⟨kk, ekk⟩ : ∃ x, x = kf lf.1 := ⟨_, rfl⟩
      obtain ⟨dd, edd⟩ : ∃ x, x = df lf.1 := ⟨_, rfl⟩
      obtain ⟨gg, egg⟩ : ∃ x, x = gf lf.1 := ⟨_, rfl⟩
      rw [← hi'] at ekk edd egg
      rw [← ekk] at a1
      rw [← edd] at a2
      rw [← egg] at a3
      rw [← hi', ← ekk] at a5
      rw [← hi', ← edd] at a6
      rw [← hi', ← egg] at a7
      have a5' := a5
      obtain ⟨_, q5, -⟩ := a5'
      have q6 := a6.1
      rw [hkm] at q5
      rw [hdm] at q6
      obtain ⟨_, ka, kc, rfl, -⟩ := q5
      obtain ⟨_, da, dc, rfl, -⟩ := q6
      obtain ⟨ga, gc, rfl⟩ := a7.sh
      obtain ⟨ng, hng⟩ : ∃ x, x = hi.length := ⟨_, rfl⟩
      rw [← hng] at a3
      have HPA := Lib.hid (And.intro a4 (And.intro a5 a6))
      have HRK := Lib.hid (a5.below HBW.out)
      replace a0 := cell_of_below HBW.out a0
      replace a1 := cell_of_below HBW.out a1
      replace a2 := cell_of_below HBW.out a2
      replace a3 := cell_of_below HBW.out a3
      replace a4 := cell_of_below HBW.out a4
      clear hm hkm hdm ekk edd egg hng
      clear a5 a6 a7 hpg hch hlf hdr hrise hnx hi' eh hlN hlt hj
      have z2' := cell_al (Obj.cells #[.bool true, .slice ka m kc, .slice da m dc, .slice ga ng gc, .int .i64 nx] 59 (0, 0)) z2
      gi_wp2_with fail
      obtain ⟨W3, hW3⟩ : ∃ W3, W3 = wr.alloc (Obj.cells #[.bool true, .slice ka m kc, .slice da m dc, .slice ga ng gc, .int .i64 nx] 59 (0, 0)) := ⟨_, rfl⟩
      rw [← hW3]
      have hb3 : Below wr.heap.size wr W3 := by rw [hW3]; exact (Below.refl _ _).alloc (Nat.le_refl _) _
      have hx3 : W3.heap[wr.heap.size]? = some (Obj.cells #[.bool true, .slice ka m kc, .slice da m dc, .slice ga ng gc, .int .i64 nx] 59 (0, 0)) := by rw [hW3]; exact new0 _ _
      obtain ⟨lb, hlb⟩ : ∃ x, x = lbK k (lf.2.map (·.1)) := ⟨_, rfl⟩
      have hlbm : lb ≤ m := by have := lbK_le k (lf.2.map (·.1)); rw [List.length_map] at this; have := HM.out; omega
      have hrk : RiseK (lf.2.map (·.1)) := List.pairwise_map.2 HLF.out.2.1
      have hsr := srch_any W3 ok ok' (.slice ka m kc) (.slice ak nk ck) (lf.2.map (·.1)) k (HRK.out.below hb3) ((HT.out.2.2.1.below HBW.out).below hb3) hrk (by rw [List.length_map]; have := HM.out; omega)
      rw [← hlb] at hsr
      obtain ⟨has, -⟩ : ∃ x, x = hasK k (lf.2.map (·.1)) := ⟨_, rfl⟩
      have HB3 := Lib.hid hb3
      have HX3 := Lib.hid hx3
      have HLB := Lib.hid hlb
      refine (callsIn_wide.2 hsr).mono ?_
      rintro e w' ⟨rfl, rfl⟩
      have HW3 := Lib.hid hW3
      clear hW3 hb3 hx3 hlb hsr z2' z0 z1 z2
      gi_wp2_with fail
      have HKO := Lib.hid (And.intro (HB3.out.block Bt (Array.getElem?_eq_some_iff.1 HBR.out.1).1 |>.trans HBR.out.1) (HB3.out.block Bk (Array.getElem?_eq_some_iff.1 HBR.out.2).1 |>.trans HBR.out.2))
      have HZ3 := Lib.hid (KpE.of_below HB3.out HBW.out.size)
      have HBW3 := Lib.hid (HBW.out.trans HZ3.out.1)
      obtain ⟨Bl, hBl⟩ : ∃ x, x = wr.heap.size := ⟨_, rfl⟩
      rw [← hBl] at HX3 ⊢
      clear hBl
      gi_loopw [8] (fun q wq => ∃ (m1 : Nat) (ys : List EntX), lb + m1 ≤ m ∧ q = .int .i64 ((lb + m1 : Nat) : Int) ∧ ys.map (·.2) = visL k (ls.take j) ++ (offL k lf).take m1 ∧ J ys wq ∧ KpE w.heap.size W3 wq)
        (fun q _ => m - (intOf q).toNat)
      case atStart => exact ⟨0, xs, hlbm, by simp, by simp [HXS.out], HJB.out _ _ _ HJS.out HB3.out, KpE.refl _ _⟩
      case round =>
        obtain ⟨m1, ys, hm1, rfl, hys, hJy, hkq⟩ := hrel
        have HJY := Lib.hid hJy
        have HYS := Lib.hid hys
        have HKQ := Lib.hid hkq
        have hbw := HBW3.out.trans hkq.1
        have HBQ := Lib.hid hbw
        obtain ⟨-, l1, l2⟩   := boxF (hkq.2 Bl _ _ _ (.inl rfl) HX3.out)
        have hbt' := hkq.2 Bt _ _ _ (.inr (.inl rfl)) HKO.out.1
        obtain ⟨z0, z1, -⟩ := box2 hbt'
        obtain ⟨q, hq⟩ : ∃ q, q = lb + m1 := ⟨_, rfl⟩
        have HQ := Lib.hid hq
        rw [← hq] at hm1 ⊢
        clear hJy hys hkq hbt' hq
        by_cases hqm : q < m
        · have hqi : (q : Int) < (m : Int) := by omega
          obtain ⟨en, hen⟩ : ∃ en, en = lf.2[q]'(by have := HM.out; omega) := ⟨_, rfl⟩
          have hge : lf.2[q]? = some en := by rw [hen]; exact List.getElem?_eq_getElem _
          obtain ⟨kvs, r1, r2, r3⟩ := HPA.out.2.1.below hbw
          obtain ⟨d1, d2⟩ := HPA.out.2.2.below hbw
          obtain ⟨kb, ko, kc', e1, -, -, -, r4⟩ := r1.pos (by rw [List.length_map]; have := HM.out; omega) (by omega)
          obtain ⟨db, do', dc', e2, -, -, -, d4⟩ := d1.pos (by rw [List.length_map]; have := HM.out; omega) (by omega)
          simp only [Value.slice.injEq] at e1 e2
          obtain ⟨rfl, -, -⟩ := e1
          obtain ⟨rfl, -, -⟩ := e2
          obtain ⟨xk, hx1, hx2⟩ := r3 q en.1 (by rw [List.getElem?_map, hge]; rfl)
          obtain ⟨xa, xc, rfl⟩ := hx2.sh
          have v1 := r4 q _ hx1
          have v2 := d4 q (.int .i64 en.2) (by simp [ic, hge])
          obtain ⟨nx', hnx'⟩ : ∃ x, x = en.1.length := ⟨_, rfl⟩
          rw [← hnx'] at v1
          have hnb : nx' ≤ 100 := by have q := (HOK.out en (List.mem_of_getElem? hge)).2; omega
          have hbc := bclone_any wr.drew nx' (.slice xa nx' xc) en.1 (by have q := hx2.1; rw [← hnx'] at q; exact q.below (Below.refl _ _).drew) (by omega)
          have HBC := Lib.hid hbc
          have HNX := Lib.hid hnx'
          have HGE := Lib.hid hge
          clear hbc hnx' hen hge r1 r2 r3 r4 d1 d2 d4 hx1 hx2 hbw
          gi_wp2_with fail
          refine wpTIn_begin (S := (fun wx => wx.cell? ⟨Bl, 1, none⟩ = some (.slice (some ⟨kb, ko, none⟩) m kc) ∧ wx.cell? ⟨Bl, 2, none⟩ = some (.slice (some ⟨db, do', none⟩) m dc) ∧ wx.cell? ⟨kb, ko + q, none⟩ = some (.slice xa nx' xc) ∧ wx.cell? ⟨db, do' + q, none⟩ = some (.int .i64 en.2))) [13] (by kernel_rfl) ?_ (fun hHeld => ?_)
          · (try dsimp only)
            (first | (with_reducible exact ⟨cell_drw l1, cell_drw l2, cell_drw v1, cell_drw v2⟩) | (with_reducible exact ⟨k1, k2, k3, k4⟩))
          refine wpAnyTIn_pure (i := 0) (oi := _) (v := ?_) rfl rfl (by kernel_rfl) (by kernel_rfl) (by kernel_rfl) (by kernel_rfl) (fun _ _ _ h => h) (Or.inl ⟨by rfl, ?_⟩) (fun _ => rfl) (fun _ => by assumption) ?_
          rotate_left
          · (intro w hSw; go_simp)
            all_goals (with_reducible rfl)
          (try simp only [List.getElem_toArray, List.getElem_cons_zero, List.getElem_cons_succ, Act.put, List.setIfInBounds_toArray, List.set_cons_zero, List.set_cons_succ])
          refine wpAnyTIn_pure (i := 1) (oi := _) (v := ?_) rfl rfl (by kernel_rfl) (by kernel_rfl) (by kernel_rfl) (by kernel_rfl) (fun _ _ _ h => h) (Or.inl ⟨by rfl, ?_⟩) (fun _ => rfl) (fun _ => by assumption) ?_
          rotate_left
          · (intro w hSw; go_simp)
            all_goals (with_reducible rfl)
          (try simp only [List.getElem_toArray, List.getElem_cons_zero, List.getElem_cons_succ, Act.put, List.setIfInBounds_toArray, List.set_cons_zero, List.set_cons_succ])
          refine wpAnyTIn_takeX [4,5,6,13] (i := 2) (oi := _) (v := ?_) rfl rfl (by kernel_rfl) (by kernel_rfl) (by kernel_rfl) (by kernel_rfl) (fun _ _ _ h => h) (Or.inl ⟨by rfl, ?_⟩) (fun _ => rfl) (by assumption) ?_
          rotate_left
          · (intro w hSw; (try dsimp only at hSw); go_simp)
            all_goals (with_reducible rfl)
          (try simp only [List.getElem_toArray, List.getElem_cons_zero, List.getElem_cons_succ, Act.put, List.setIfInBounds_toArray, List.set_cons_zero, List.set_cons_succ])
          refine wpAnyTIn_pure (i := 3) (oi := _) (v := ?_) rfl rfl (by kernel_rfl) (by kernel_rfl) (by kernel_rfl) (by kernel_rfl) (fun _ _ _ h => h) (Or.inl ⟨by rfl, ?_⟩) (fun _ => rfl) (fun _ => by assumption) ?_
          rotate_left
          · (intro w hSw; go_simp)
            all_goals (with_reducible rfl)
          (try simp only [List.getElem_toArray, List.getElem_cons_zero, List.getElem_cons_succ, Act.put, List.setIfInBounds_toArray, List.set_cons_zero, List.set_cons_succ])
          refine wpAnyTIn_pure (i := 4) (oi := _) (v := ?_) rfl rfl (by kernel_rfl) (by kernel_rfl) (by kernel_rfl) (by kernel_rfl) (fun _ _ _ h => h) (Or.inl ⟨by rfl, ?_⟩) (fun _ => rfl) (fun _ => by assumption) ?_
          rotate_left
          · (intro w hSw; go_simp)
            all_goals (with_reducible rfl)
          (try simp only [List.getElem_toArray, List.getElem_cons_zero, List.getElem_cons_succ, Act.put, List.setIfInBounds_toArray, List.set_cons_zero, List.set_cons_succ])
          refine wpAnyTIn_takeX [6,13] (i := 5) (oi := _) (v := ?_) rfl rfl (by kernel_rfl) (by kernel_rfl) (by kernel_rfl) (by kernel_rfl) (fun _ _ _ h => h) (Or.inl ⟨by rfl, ?_⟩) (fun _ => rfl) (by assumption) ?_
          rotate_left
          · (intro w hSw; (try dsimp only at hSw); go_simp)
            all_goals (with_reducible rfl)
          (try simp only [List.getElem_toArray, List.getElem_cons_zero, List.getElem_cons_succ, Act.put, List.setIfInBounds_toArray, List.set_cons_zero, List.set_cons_succ])
          refine wpAnyTIn_pure (i := 7) (oi := _) (v := ?_) rfl rfl (by kernel_rfl) (by kernel_rfl) (by kernel_rfl) (by kernel_rfl) (fun _ _ _ h => h) (Or.inl ⟨by rfl, ?_⟩) (fun _ => rfl) (fun _ => by assumption) ?_
          rotate_left
          · (intro w hSw; go_simp)
            all_goals (with_reducible rfl)
          (try simp only [List.getElem_toArray, List.getElem_cons_zero, List.getElem_cons_succ, Act.put, List.setIfInBounds_toArray, List.set_cons_zero, List.set_cons_succ])
          refine wpAnyTIn_takeX [10,11,12,13] (i := 8) (oi := _) (v := ?_) rfl rfl (by kernel_rfl) (by kernel_rfl) (by kernel_rfl) (by kernel_rfl) (fun _ _ _ h => h) (Or.inl ⟨by rfl, ?_⟩) (fun _ => rfl) (by assumption) ?_
          rotate_left
          · (intro w hSw; (try dsimp only at hSw); go_simp)
            all_goals (with_reducible rfl)
          (try simp only [List.getElem_toArray, List.getElem_cons_zero, List.getElem_cons_succ, Act.put, List.setIfInBounds_toArray, List.set_cons_zero, List.set_cons_succ])
          refine wpAnyTIn_pure (i := 9) (oi := _) (v := ?_) rfl rfl (by kernel_rfl) (by kernel_rfl) (by kernel_rfl) (by kernel_rfl) (fun _ _ _ h => h) (Or.inl ⟨by rfl, ?_⟩) (fun _ => rfl) (fun _ => by assumption) ?_
          rotate_left
          · (intro w hSw; go_simp)
            all_goals (with_reducible rfl)
          (try simp only [List.getElem_toArray, List.getElem_cons_zero, List.getElem_cons_succ, Act.put, List.setIfInBounds_toArray, List.set_cons_zero, List.set_cons_succ])
          refine wpAnyTIn_pure (i := 10) (oi := _) (v := ?_) rfl rfl (by kernel_rfl) (by kernel_rfl) (by kernel_rfl) (by kernel_rfl) (fun _ _ _ h => h) (Or.inl ⟨by rfl, ?_⟩) (fun _ => rfl) (fun _ => by assumption) ?_
          rotate_left
          · (intro w hSw; go_simp)
            all_goals (with_reducible rfl)
          (try simp only [List.getElem_toArray, List.getElem_cons_zero, List.getElem_cons_succ, Act.put, List.setIfInBounds_toArray, List.set_cons_zero, List.set_cons_succ])
          refine wpAnyTIn_takeX [12,13] (i := 11) (oi := _) (v := ?_) rfl rfl (by kernel_rfl) (by kernel_rfl) (by kernel_rfl) (by kernel_rfl) (fun _ _ _ h => h) (Or.inl ⟨by rfl, ?_⟩) (fun _ => rfl) (by assumption) ?_
          rotate_left
          · (intro w hSw; (try dsimp only at hSw); go_simp)
            all_goals (with_reducible rfl)
          (try simp only [List.getElem_toArray, List.getElem_cons_zero, List.getElem_cons_succ, Act.put, List.setIfInBounds_toArray, List.set_cons_zero, List.set_cons_succ])
          refine wpAnyTIn_ready (rs := [6]) (by kernel_rfl) (by simp) ?_
          refine AllReadyTIn.cons rfl (fun K hK => ?_) AllReadyTIn.nil
          go_simp
          ((with_reducible refine (callsIn_wide.2 HBC.out).mono ?_); rintro e w5 ⟨xa5, xc5, rfl, HR5, hb5⟩; have k1 := cell_bel hb5 (cell_drw l1); have k2 := cell_bel hb5 (cell_drw l2); have k3 := cell_bel hb5 (cell_drw v1); have k4 := cell_bel hb5 (cell_drw v2); have HB5 := Lib.hid (show Below wr.heap.size wr w5 from ⟨hb5.os, hb5.tape, hb5.output, hb5.size, hb5.block⟩); have HRO := Lib.hid HR5; clear hb5 HR5)
          gi_wp2_with fail
          refine hK.out _ _ (fun _ => ?_) (fun hHeld0 => ?_)
          · (try dsimp only)
            (first | (with_reducible exact ⟨cell_drw l1, cell_drw l2, cell_drw v1, cell_drw v2⟩) | (with_reducible exact ⟨k1, k2, k3, k4⟩))
          have hHeld := hHeld0 (by kernel_rfl)
          clear hK K hHeld0
          (try simp only [List.getElem_toArray, List.getElem_cons_zero, List.getElem_cons_succ, Act.put, List.setIfInBounds_toArray, List.set_cons_zero, List.set_cons_succ])
          refine wpAnyTIn_pure (i := 12) (oi := _) (v := ?_) rfl rfl (by kernel_rfl) (by kernel_rfl) (by kernel_rfl) (by kernel_rfl) (fun _ _ _ h => h) (Or.inl ⟨by rfl, ?_⟩) (fun _ => rfl) (fun _ => by assumption) ?_
          rotate_left
          · (intro w hSw; go_simp)
            all_goals (with_reducible rfl)
          (try simp only [List.getElem_toArray, List.getElem_cons_zero, List.getElem_cons_succ, Act.put, List.setIfInBounds_toArray, List.set_cons_zero, List.set_cons_succ])
          obtain ⟨hg1, hg2⟩ := ge_next (HT.out.2.2.2.2.2.1.trans HT.out.2.2.2.2.2.2) HJL.out HYS.out HQ.out HLB.out HGE.out (Value.slice xa5 nx' xc5)
          obtain ⟨fn, ftm, fas, fbd, hy, hR⟩ := HY.out ys (.slice xa5 nx' xc5, en) w5 (HJB.out _ _ _ HJY.out HB5.out) ⟨hg1, by have q := HRO.out; rw [HNX.out] at q ⊢; exact own_mono q (by show w.heap.size ≤ wr.heap.size; exact HBQ.out.size)⟩
          unfold encE at hy
          dsimp only at hy
          have HG2 := Lib.hid hg2
          clear hg1 hg2
          refine wpAnyTIn_ready (rs := [13]) (by kernel_rfl) (by simp) ?_
          refine AllReadyTIn.cons rfl (fun K hK => ?_) AllReadyTIn.nil
          go_simp
          refine hR.mono ?_
          rintro e w6 (⟨rfl, hJ6, hk6⟩ | ⟨rfl, hJx6⟩)
          · (try dsimp only)
            refine hK.out _ _ (noneB_off (by kernel_rfl)) (fun _ => ?_)
            clear hK K
            (try simp only [List.getElem_toArray, List.getElem_cons_zero, List.getElem_cons_succ, Act.put, List.setIfInBounds_toArray, List.set_cons_zero, List.set_cons_succ])
            refine wpAnyTIn_ready (rs := [14]) (by kernel_rfl) (by simp) ?_
            refine AllReadyTIn.cons rfl (fun K hK => ?_) AllReadyTIn.nil
            go_simp
            refine hK.out _ _ (noneB_off (by kernel_rfl)) (fun _ => ?_)
            clear hK K
            (try simp only [List.getElem_toArray, List.getElem_cons_zero, List.getElem_cons_succ, Act.put, List.setIfInBounds_toArray, List.set_cons_zero, List.set_cons_succ])
            refine wpAnyTIn_done (by kernel_rfl) ?_ _
            have hq1 : (q : Int) + 1 ≤ 1000 := by omega
            have hq0 : (0 : Int) ≤ (q : Int) := by omega
            gi_wp2_with fail
            refine ⟨⟨m1 + 1, ys ++ [(.slice xa5 nx' xc5, en)], by have := HQ.out; omega, by have := HQ.out; congr 1; omega, HG2.out, hJ6, HKQ.out.trans ((KpE.of_below HB5.out HBQ.out.size).trans hk6)⟩, ?_⟩
            simp only [intOf]
            omega
          · (try dsimp only)
            refine hK.out _ _ (noneB_off (by kernel_rfl)) (fun _ => ?_)
            clear hK K
            (try simp only [List.getElem_toArray, List.getElem_cons_zero, List.getElem_cons_succ, Act.put, List.setIfInBounds_toArray, List.set_cons_zero, List.set_cons_succ])
            refine wpAnyTIn_ready (rs := [14]) (by kernel_rfl) (by simp) ?_
            refine AllReadyTIn.cons rfl (fun K hK => ?_) AllReadyTIn.nil
            go_simp
            refine hK.out _ _ (noneB_off (by kernel_rfl)) (fun _ => ?_)
            clear hK K
            (try simp only [List.getElem_toArray, List.getElem_cons_zero, List.getElem_cons_succ, Act.put, List.setIfInBounds_toArray, List.set_cons_zero, List.set_cons_succ])
            refine wpAnyTIn_done (by kernel_rfl) ?_ _
            gi_wp2_with fail
            refine bodyPost_ret (results_none rfl _ _ _) rfl ?_
            exact ⟨⟨_, rfl⟩, .inr ⟨_, hJx6⟩⟩
        · have hqi : ¬ (q : Int) < (m : Int) := by omega
          have c4 := cell_of_below hbw HPA.out.1
          have hnxw : IntKind.i64.wrap nx = nx ∨ True := .inr trivial
          clear hnxw hbw
          gi_wp2_with fail
          obtain ⟨hjl, hlf⟩ := HJL.out
          have eqm : q = m := by omega
          have hol : (offL k lf).take m1 = offL k lf := List.take_of_length_le (by unfold offL; rw [List.length_drop, ← HLB.out, ← HM.out]; have := HQ.out; omega)
          have e9 : visL k (ls.take (j + 1)) = visL k (ls.take j) ++ offL k lf := by rw [List.take_succ_eq_append_getElem hjl, ← hlf]; unfold visL; rw [List.flatMap_append]; simp
          refine ⟨⟨j + 1, ys, hjl, by rw [HLF.out.2.2.2.1], by rw [HYS.out, hol, e9], HJY.out, HKP.out.trans (HZ3.out.trans HKQ.out)⟩, ?_⟩
          show restN ls nx < restN ls (i : Int)
          rw [HLF.out.2.2.2.1, HLF.out.2.2.2.2.1, ← HLF.out.2.2.2.2.2, rest_at HC.out.2.2, rest_at HC.out.2.2, List.length_drop, List.length_drop]
          omega
    · obtain rfl : j = ls.length := by omega
      have e0 : firstL (-1) (ls.drop ls.length) = -1 := by rw [List.drop_length]; rfl
      rw [e0]
      clear e0
      gi_wp2_with fail
      go_end0
      refine ⟨⟨_, rfl⟩, .inl ⟨xs, ?_, HJS.out⟩⟩
      have q := HXS.out
      rw [List.take_length] at q
      rw [q, HT.out.2.2.2.2.2.1, HT.out.2.2.2.2.2.2]
end Go.Proofs.Ytacpeibkamfibaa

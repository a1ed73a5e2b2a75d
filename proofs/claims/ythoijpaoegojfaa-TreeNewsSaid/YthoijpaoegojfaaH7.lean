/- What stands below a level. -/
import Derived.Test.YthoijpaoegojfaaH6
import Derived.Deep.RegionHeld3
import Derived.Deep.AppendLies
namespace Go.Proofs.Ythoijpaoegojfaa
open Go.ChangeShapes Go.WideShapes Go.ChangeAt Go.RowKit
set_option linter.unusedVariables false
set_option linter.unusedSimpArgs false
set_option maxHeartbeats 2000000
set_option maxRecDepth 100000
theorem Agree.lt {ok : Nat → Prop} {B : Nat} {w w' : World} (h : ∀ b, ok b → b < B) (hb : Below B w w') : Agree ok w w' := fun b h1 _ => hb.block b (h b h1)
theorem RB.sh {w : World} {ok : Nat → Prop} {v : Value} {l : Key} (h : RB w ok v l) : ∃ ao cap, v = .slice ao l.length cap := by
  obtain ⟨⟨_, ao, cap, rfl, _⟩, _⟩ := h
  exact ⟨ao, cap, rfl⟩
theorem sp_eta (x : Spot) : x = (x.1, x.2.1, x.2.2) := rfl
theorem downL_next {ps : List Pg} {l : List Spot} {i : Nat} (h : i < l.length) : downL ps (l.take (i + 1)) = downL ps (l.take i) ++ downP ps (l.getD i sp0) := by
  rw [take_nextG (d := sp0) h]
  simp [downL]
theorem own_to {w : World} {B e s n n' : Nat} {v : Value} {xs ys : List Value} (h : w.ownsRow B e s v n xs) (hn : n = n') (hx : xs = ys) : w.ownsRow B e s v n' ys := by subst hn; subst hx; exact h
theorem downL_len {ps : List Pg} : ∀ {l : List Spot}, (∀ x ∈ l, OkQ (ps.getD x.1 noPg) ps.length) → (downL ps l).length ≤ 5 * l.length
  | [], _ => by simp [downL]
  | x :: l, h => by
    have ih := downL_len (l := l) fun y hy => h y (by simp [hy])
    have hx := h x (by simp)
    have h1 : (downP ps x).length ≤ 5 := by
      unfold downP
      split
      · simp
      · rw [kidsB_len]
        have := hx.kids
        have := hx.keys
        split at * <;> omega
    rw [downL_cons, List.length_append, List.length_cons]
    omega
/-- Owned, and read as a level. -/
def OS (w : World) (B : Nat) (ok : Nat → Prop) (v : Value) (l : List Spot) : Prop := ∃ vs, w.ownsRow B 92 3 v l.length vs ∧ SC w ok vs l
theorem OS.rs {w : World} {B : Nat} {ok : Nat → Prop} {v : Value} {l : List Spot} (h : OS w B ok v l) : RS w ok v l := by
  obtain ⟨vs, h1, h2⟩ := h
  exact ⟨vs, Rd.own h1, h2⟩
theorem OS.below {w w' : World} {B : Nat} {ok : Nat → Prop} {v : Value} {l : List Spot} (h : OS w B ok v l) (hb : Below w.heap.size w w') : OS w' B ok v l := by
  obtain ⟨vs, h1, h2⟩ := h
  exact ⟨vs, own_below h1 hb, h2.below hb⟩
theorem below_any (w : World) (ok : Nat → Prop) (hok : ∀ b, ok b → b < w.heap.size) (tv lv : Value) (T : Tr) (l : List Spot) (ht : RT w ok tv T) (hl : RS w ok lv l) (hq : ∀ p ∈ T.pages, OkQ p T.pages.length) (hn : ∀ x ∈ l, x.1 < T.pages.length) (hll : l.length ≤ 100000) :
    Calls Try.prog 70 #[tv, lv] w fun e w' => ∃ v', e = .returned v' ∧ OS w' w.heap.size ok v' (downL T.pages l) ∧ Below w.heap.size w w' := by
  obtain ⟨ao, cap, kf, df, gf, rfl, g1, g2, g3⟩ := pagesF ht
  obtain ⟨al, lcap, uf, hf, rfl, e1, e2, e3⟩ := spotsF hl
  obtain ⟨N, hN⟩ : ∃ N, N = T.pages.length := ⟨_, rfl⟩
  obtain ⟨L, hL⟩ : ∃ L, L = l.length := ⟨_, rfl⟩
  rw [← hN] at g1 g3
  rw [← hL] at e1 e3 hll
  rw [← hN, ← hL]
  unfold maxLen at g2 e2
  have HN := Lib.hid hN
  have HL := Lib.hid hL
  have HP := Lib.hid g3
  have HS := Lib.hid e3
  have HQ := Lib.hid hq
  have HI := Lib.hid hn
  clear hN hL g3 e3 ht hl hq hn
  go_enter Try.func70, Try.ntmps70
  go_wp2
  go_loopw [5, 14] (fun v' i wr => ∃ k : Nat, k ≤ L ∧ i = .int .i64 (k : Int) ∧ OS wr (w.heap.size + 1) ok v' (downL T.pages (l.take k)) ∧ Below w.heap.size w wr ∧ w.heap.size < wr.heap.size ∧ wr.cell? ⟨w.heap.size, 0, none⟩ = some (.slice ao N cap)) (fun _ i _ => L - (intOf i).toNat)
  case atStart => exact ⟨0, by omega, rfl, ⟨[], World.ownsRow_nil _ _ _ _, rfl⟩, by go_grown, by simp, by simp⟩
  case round =>
    obtain ⟨k, hk, rfl, hos, hb, hsz, hc0⟩ := hrel
    have HO := Lib.hid hos
    have HB := Lib.hid hb
    clear hos hb
    by_cases hlt : k < L
    · obtain ⟨b, o, rfl, hbl, c0, c1, c2, c3, c4⟩ := HS.out k hlt
      obtain ⟨x, hx⟩ : ∃ x, x = l.getD k sp0 := ⟨_, rfl⟩
      rw [← hx] at c0 c3 c4
      have hxm : x ∈ l := by
        rw [hx]
        have : k < l.length := by rw [← HL.out]; exact hlt
        simp only [List.getD, List.getElem?_eq_getElem this, Option.getD_some]
        exact List.getElem_mem this
      have hxn : x.1 < N := by rw [HN.out]; exact HI.out x hxm
      obtain ⟨bp, op, rfl, hbp, _, hpa⟩ := HP.out x.1 hxn
      have hq := HQ.out _ (page_mem (by rw [← HN.out]; exact hxn) : T.pages.getD x.1 noPg ∈ T.pages)
      obtain ⟨p, hp⟩ : ∃ p, p = T.pages.getD x.1 noPg := ⟨_, rfl⟩
      rw [← hp] at hpa hq
      have HPP := Lib.hid hp
      have HX := Lib.hid hx
      obtain ⟨n, lo, hi⟩ := x
      obtain ⟨pl, pks, pds, ph, pn⟩ := p
      simp only at c0 c3 c4 hxn hpa hbp
      have hdn : Hid (downP T.pages (l.getD k sp0) = if pl then [] else kidsB lo hi pds pks) := by
        rw [← HX.out]
        simp only [downP]
        rw [← HPP.out]
        exact Lib.hid rfl
      obtain ⟨alo, clo, elo⟩ := c3.sh
      obtain ⟨ahi, chi, ehi⟩ := c4.sh
      rw [elo] at c1 c3
      rw [ehi] at c2 c4
      obtain ⟨nlo, hnlo⟩ : ∃ q, q = lo.length := ⟨_, rfl⟩
      obtain ⟨nhi, hnhi⟩ : ∃ q, q = hi.length := ⟨_, rfl⟩
      rw [← hnlo] at c1 c3
      rw [← hnhi] at c2 c4
      obtain ⟨ag, cg, eg⟩ := hpa.2.2.2.2.2.2.2.sh
      simp only at eg
      rw [eg] at hpa
      clear elo ehi eg hnlo hnhi
      have hb0 : ∀ j, wr.cell? ⟨b, j, none⟩ = w.cell? ⟨b, j, none⟩ := fun j => HB.out.cell (p := ⟨b, j, none⟩) hbl
      have hbr : b < wr.heap.size := by omega
      have hbpr : bp < wr.heap.size := by omega
      have c0' := (hb0 _).trans c0
      have c1' := (hb0 _).trans c1
      have c2' := (hb0 _).trans c2
      obtain ⟨a1, a2, a3, a4, a5, a6, a7, a8⟩ := hpa.below HB.out
      simp only at a1 a5 a6 a7 a8
      obtain ⟨ak, ck, ff, k0, k1, k2, k3⟩ := keysF a6
      obtain ⟨ad, cd, d0, d1, d2, d3⟩ := intsF a7
      obtain ⟨K, hK⟩ : ∃ K, K = pks.length := ⟨_, rfl⟩
      have hKd := hq.kids
      have hK4 := hq.keys
      have hkid := hq.kid
      simp only at hKd hK4 hkid
      rw [← hK] at k0 k1 k3 hKd hK4
      rw [k0] at a2
      rw [d0] at a3
      have HK := Lib.hid hK
      have K3 := Lib.hid k3
      have D3 := Lib.hid d3
      have HKD := Lib.hid hKd
      have HKID := Lib.hid hkid
      have H8 := Lib.hid (a8)
      have HLO := Lib.hid (c3.below HB.out)
      have HHI := Lib.hid (c4.below HB.out)
      unfold maxLen at k2 d2
      clear c0 c1 c2 c3 c4 a6 a7 a8 k0 k3 d0 d3 hpa hq hp hx hb0 hxm hK hKd hkid
      cases pl with
      | true =>
        go_wp2
        go_roundw
        case rel =>
          refine ⟨k + 1, by omega, by go_num, ?_, HB.out.trans (by go_grown), by simp; omega, ?_⟩
          · rw [downL_next (by rw [← HL.out]; exact hlt), hdn.out]
            simp only [if_true, List.append_nil]
            exact HO.out.below (by go_grown)
          · exact (Below.cell (p := ⟨w.heap.size, 0, none⟩) (by go_grown : Below wr.heap.size wr _) hsz).trans hc0
        case measure => simp [intOf]; omega
      | false =>
        have dl : pds.length = K + 1 := HKD.out
        have e := hdn.out
        rw [if_neg (by simp)] at e
        have HDN := Lib.hid e
        rw [dl] at a3 d1 D3
        have DL := Lib.hid dl
        clear dl e hdn HKD
        have hob : ∀ g, ∀ v' : Value, OS wr (w.heap.size + 1) ok v' (downL T.pages (l.take k)) → v'.ownBlock = some g → g < wr.heap.size := by
          rintro g v' ⟨vs, hv, _⟩ hg
          exact (hv.lt g hg).2
        have HOB := Lib.hid hob
        clear hob
        go_wp2
        obtain ⟨W, hW⟩ : ∃ W : World, W = (wr.alloc (.cells #[.int .i64 (n : Int), .slice alo nlo clo, .slice ahi nhi chi] 92)).alloc (.cells #[.bool false, .slice ak K ck, .slice ad (K + 1) cd, .slice ag ph.length cg, .int .i64 pn] 63) := ⟨_, rfl⟩
        have hBW : Below wr.heap.size wr W := by rw [hW]; go_grown
        have hWz : W.heap.size = wr.heap.size + 2 := by rw [hW]; simp
        have s0 : W.cell? ⟨wr.heap.size, 0, none⟩ = some (.int .i64 (n : Int)) := by rw [hW]; simp
        have s1 : W.cell? ⟨wr.heap.size, 1, none⟩ = some (.slice alo nlo clo) := by rw [hW]; simp
        have s2 : W.cell? ⟨wr.heap.size, 2, none⟩ = some (.slice ahi nhi chi) := by rw [hW]; simp
        have p1 : W.cell? ⟨wr.heap.size + 1, 1, none⟩ = some (.slice ak K ck) := by rw [hW]; simp
        have p2 : W.cell? ⟨wr.heap.size + 1, 2, none⟩ = some (.slice ad (K + 1) cd) := by rw [hW]; simp
        rw [← hW]
        have BW := Lib.hid hBW
        clear hW hBW
        obtain ⟨wo, rfl⟩ : ∃ wo : World, wo = wr := ⟨_, rfl⟩
        go_loopw [5, 9, 31] (fun v' lw i wr => ∃ q : Nat, q ≤ K ∧ i = .int .i64 (q : Int) ∧ OS wr (w.heap.size + 1) ok v' (downL T.pages (l.take k) ++ (kidsB lo hi pds pks).take q) ∧ Below (w.heap.size + 1) wo wr ∧
            (∀ g, v'.ownBlock = some g → g ≠ wo.heap.size ∧ g ≠ wo.heap.size + 1) ∧ wo.heap.size + 1 < wr.heap.size ∧ RB wr ok lw (if q = 0 then lo else pks.getD (q - 1) []) ∧
            wr.cell? ⟨wo.heap.size, 0, none⟩ = some (.int .i64 (n : Int)) ∧ wr.cell? ⟨wo.heap.size, 1, none⟩ = some (.slice alo nlo clo) ∧ wr.cell? ⟨wo.heap.size, 2, none⟩ = some (.slice ahi nhi chi) ∧
            wr.cell? ⟨wo.heap.size + 1, 1, none⟩ = some (.slice ak K ck) ∧ wr.cell? ⟨wo.heap.size + 1, 2, none⟩ = some (.slice ad (K + 1) cd)) (fun _ _ i _ => K - (intOf i).toNat)
        case atStart =>
          refine ⟨0, by omega, rfl, ?_, BW.out.mono (by omega), fun g hg => ?_, by omega, HLO.out.below BW.out, s0, s1, s2, p1, p2⟩
          · simpa using HO.out.below BW.out
          · have := HOB.out g _ HO.out hg
            omega
        case round =>
          obtain ⟨q, hq, rfl, hos, hb, hob, hz, hlw, t0, t1, t2, t3, t4⟩ := hrel
          have HB2 := Lib.hid hb
          obtain ⟨qs, hqs⟩ : ∃ qs, qs = (if q = 0 then lo else pks.getD (q - 1) []) := ⟨_, rfl⟩
          rw [← hqs] at hlw
          obtain ⟨aw, cw, ew⟩ := hlw.sh
          subst ew
          obtain ⟨nw, hnw⟩ : ∃ nw, nw = qs.length := ⟨_, rfl⟩
          rw [← hnw] at hlw ⊢
          have HLW := Lib.hid hlw
          have HQS := Lib.hid hqs
          obtain ⟨vs, hown, hsc⟩ := hos
          obtain ⟨m, hm⟩ : ∃ m, m = (downL T.pages (l.take k) ++ (kidsB lo hi pds pks).take q).length := ⟨_, rfl⟩
          rw [← hm] at hown
          obtain ⟨_, a5, cap5, e5, _⟩ := Rd.own hown
          subst e5
          have HOW := Lib.hid hown
          have HSC := Lib.hid hsc
          have hm2 : m ≤ 2000000 := by
            have h1 := downL_len (ps := T.pages) (l := l.take k) fun y hy => HQ.out _ (page_mem (HI.out y (List.mem_of_mem_take hy)))
            have h2 : (l.take k).length ≤ 100000 := by rw [List.length_take]; omega
            have h3 : ((kidsB lo hi pds pks).take q).length ≤ 5 := by rw [List.length_take]; omega
            rw [hm, List.length_append]
            omega
          have HM := Lib.hid hm
          have HOB2 := Lib.hid hob
          have hat := kidsB_at pks pds lo hi q (by rw [DL.out, ← HK.out]) (by rw [← HK.out]; exact hq)
          rw [← HQS.out] at hat
          have HAT := Lib.hid hat
          obtain ⟨b4, o4, rfl, _, hb4, d4⟩ := D3.out q (by omega)
          obtain ⟨c, hc⟩ : ∃ c, c = pds.getD q 0 := ⟨_, rfl⟩
          rw [← hc] at d4
          have hc0' : 0 ≤ c := by
            rw [hc]
            refine (HKID.out _ ?_).1
            have hlt4 : q < pds.length := by rw [DL.out]; omega
            simp only [List.getD, List.getElem?_eq_getElem hlt4, Option.getD_some]
            exact List.getElem_mem hlt4
          have HC := Lib.hid hc
          have hk4 := hok _ hb4
          have d4' : wr.cell? ⟨b4, o4 + q, none⟩ = some (.int .i64 c) := (HB2.out.cell (p := ⟨b4, o4 + q, none⟩) (by show b4 < _; omega)).trans d4
          clear hb hqs hnw hlw hown hsc hm hob hat hc d4 hb4
          by_cases hlt2 : q < K
          · obtain ⟨b3, o3, rfl, _, hb3, k3, k3'⟩ := K3.out q hlt2
            have hk3 := hok _ hb3
            obtain ⟨s, hs⟩ : ∃ s, s = pks.getD q [] := ⟨_, rfl⟩
            rw [← hs] at k3'
            obtain ⟨sa, sc, es⟩ := k3'.sh
            rw [es] at k3 k3'
            obtain ⟨ns, hns⟩ : ∃ ns, ns = s.length := ⟨_, rfl⟩
            rw [← hns] at k3 k3'
            have k3w : wr.cell? ⟨b3, o3 + q, none⟩ = some (.slice sa ns sc) := (HB2.out.cell (p := ⟨b3, o3 + q, none⟩) (by show b3 < _; omega)).trans k3
            have HS3 := Lib.hid (k3'.agree (Agree.lt hok (HB2.out.mono (by omega))))
            have HSS := Lib.hid hs
            clear k3 k3' es hs hns hb3
            go_wp2_with (at_builtin; go_loud (refine apx wr 1 rfl (.tmp 36) (.tmp 45) 93 92 _ 3 56 Try.underlying93 Try.info92 rfl (by omega) rfl HOW.out (by omega) (by omega) (by unfold maxLen; omega) [.int .i64 c, .slice aw nw cw, .slice sa ns sc] rfl (by simp [Value.oneCell']) _ rfl rfl rfl ?_; intro v1 w1 hown1 hb1 hg1 ho1))
            have hz1 := hb1.size
            go_roundw
            case rel =>
              have hb1' : Below w.heap.size wr w1 := hb1.mono (by omega)
              have hag : Agree ok wr w1 := Agree.lt hok hb1'
              refine ⟨q + 1, by omega, by go_num, ⟨_, own_to hown1 ?_ rfl, ?_⟩, HB2.out.trans hb1, fun g hg => ?_, by omega, ?_, hg1.cell t0 ?_, hg1.cell t1 ?_, hg1.cell t2 ?_, hg1.cell t3 ?_, hg1.cell t4 ?_⟩
              · rw [HM.out, take_nextG (d := sp0) (by rw [kidsB_len, DL.out]; omega), ← List.append_assoc, List.length_append]
                simp [Nat.add_assoc]
              · rw [take_nextG (d := sp0) (by rw [kidsB_len, DL.out]; omega), ← List.append_assoc]
                refine SC.app ?_ (HSC.out.agree hag)
                rw [HAT.out, if_pos (by rw [← HK.out]; exact hlt2), ← HC.out, ← HSS.out]
                have e : (c : Int) = ((c.toNat : Nat) : Int) := by omega
                rw [e]
                refine SC.one ?_ (HS3.out.agree hag)
                exact HLW.out.agree hag
              · rcases ho1 with h | h
                · rw [h] at hg; exact HOB2.out g hg
                · rw [h] at hg; cases hg; omega
              · rw [if_neg (by omega), Nat.add_sub_cancel, ← HSS.out]
                exact HS3.out.agree hag
              · exact fun e => (HOB2.out _ e.symm).1 rfl
              · exact fun e => (HOB2.out _ e.symm).1 rfl
              · exact fun e => (HOB2.out _ e.symm).1 rfl
              · exact fun e => (HOB2.out _ e.symm).2 rfl
              · exact fun e => (HOB2.out _ e.symm).2 rfl
            case measure => simp [intOf]; omega
          · obtain rfl : q = K := by omega
            have hbw4 : b4 < wr.heap.size := by omega
            have hwo : wo.heap.size < wr.heap.size := by omega
            have hq0 : (0 : Int) ≤ (q : Int) := by omega
            have hq1 : (q : Int) < (q : Int) + 1 := by omega
            obtain ⟨i0, hi0, hz0, hz1, hz2⟩ := info_parts Try.info92
            go_wp2
            go_region_held3 (fun wx => wx.cell? ⟨wo.heap.size, 2, none⟩ = some (.slice ahi nhi chi) ∧ wx.cell? ⟨wo.heap.size + 1, 1, none⟩ = some (.slice ak q ck) ∧ wx.cell? ⟨wo.heap.size + 1, 2, none⟩ = some (.slice (some ⟨b4, o4, none⟩) (q + 1) cd) ∧ wx.cell? ⟨b4, o4 + q, none⟩ = some (.int .i64 c))
              (first
                | go_keep
                | (go_split_ands
                   refine ⟨?_, ?_, ?_, ?_⟩
                   · (rw [hgrow.cell_far _ (by simp; omega) (fun e => (HOB2.out _ e.symm).1 rfl)]; assumption)
                   · (rw [hgrow.cell_far _ (by simp; omega) (fun e => (HOB2.out _ e.symm).2 rfl)]; assumption)
                   · (rw [hgrow.cell_far _ (by simp; omega) (fun e => (HOB2.out _ e.symm).2 rfl)]; assumption)
                   · (rw [hgrow.cell_far _ (by simp; omega) (fun e => by have h9 : w.heap.size + 1 ≤ b4 := (HOW.out.lt _ e.symm).1; omega)]; assumption)))
              ((refine step_append_lies _ (by rfl) _ _ _ (by rfl) (w.heap.size + 1) 92 i0 _ 3 56 Try.underlying93 hi0 hz0 hz1 hz2 rfl (by omega) (.slice a5 m cap5) m vs (by rfl) ((HOW.out.alloc _).drew)
                  ⟨wr.heap.size, 0, none⟩ 1 1 [.int .i64 c, .slice aw nw cw, .slice ahi nhi chi] (by rfl) (by rfl) (World.news_of_block (cs := #[.int .i64 c, .slice aw nw cw, .slice ahi nhi chi]) (t := 92) (fr := (0, 0)) (heap_alloc_new wr _)) (by simp [Value.oneCell'])
                  (by omega) (by unfold maxLen; omega) (by omega) (by simp; omega) (wr.heap.size + 1) (by simp) ?_; intro gg cap1 w1 hown1 hgrow hat2 hlt4))
            go_wp2
            have hb1 : Below (w.heap.size + 1) wr w1 := (((Below.refl _ wr).alloc (by omega) _).drew).grown hgrow (by simp; omega) (own_ge HOW.out)
            have hz1 := hb1.size
            go_roundw
            case rel =>
              have hag : Agree ok wr w1 := Agree.lt hok (hb1.mono (by omega))
              have e3 : downL T.pages (l.take (k + 1)) = (downL T.pages (l.take k) ++ (kidsB lo hi pds pks).take q) ++ [(kidsB lo hi pds pks).getD q sp0] := by
                rw [downL_next (by rw [← HL.out]; exact hlt), HDN.out, List.append_assoc, ← take_nextG (d := sp0) (by rw [kidsB_len, DL.out]; omega), (List.take_of_length_le (by rw [kidsB_len, DL.out]; exact Nat.le_refl _) : (kidsB lo hi pds pks).take (q + 1) = _)]
              refine ⟨k + 1, by omega, by go_num, ⟨_, own_to hown1 ?_ rfl, ?_⟩, HB.out.trans (HB2.out.trans hb1 |>.mono (by omega)), by omega, ?_⟩
              · rw [e3, HM.out]
                simp [Nat.add_assoc]
              · rw [e3]
                refine SC.app ?_ (HSC.out.agree hag)
                rw [HAT.out, if_neg (by rw [← HK.out]; omega), ← HC.out]
                have e : (c : Int) = ((c.toNat : Nat) : Int) := by omega
                rw [e]
                exact SC.one (HLW.out.agree hag) (HHI.out.agree (Agree.lt hok ((HB2.out.trans hb1).mono (by omega))))
              · exact ((HB2.out.trans hb1).cell (p := ⟨w.heap.size, 0, none⟩) (by show w.heap.size < _; omega)).trans hc0
            case measure => simp [intOf]; omega
    · obtain rfl : k = L := by omega
      have e : l.take k = l := List.take_of_length_le (by rw [← HL.out]; exact Nat.le_refl _)
      rw [e] at HO
      have HO' : Hid (OS wr w.heap.size ok u5 (downL T.pages l)) := by
        obtain ⟨vs, h1, h2⟩ := HO.out
        exact Lib.hid ⟨vs, own_mono h1 (by omega), h2⟩
      clear e HO
      go_wp2
      go_ret
      exact ⟨_, rfl, HO'.out, HB.out⟩
end Go.Proofs.Ythoijpaoegojfaa

/- From the root down to the leaf of a key. -/
import Derived.Test.YtahammkjkfdmhaaH5
import Derived.Test.YtahammkjkfdmhaaGy
import Derived.StillTailTactics
import Derived.Deep.LoopGhost
namespace Go.Proofs.Ytahammkjkfdmhaa
open Go.ChangeShapes Go.WideShapes Go.ChangeAt Go.RowKit
set_option linter.unusedVariables false
set_option linter.unusedSimpArgs false
/-- The places on the way down. -/
def pathT : (h : Nat) → Tb h → Key → List Nat
  | 0, t, _ => [t.1]
  | h + 1, t, k => t.1 :: pathT h (pickK k t.2.1 t.2.2) k
theorem pathT_head (h : Nat) (t : Tb h) (k : Key) : ∃ r, pathT h t k = idT h t :: r := by
  cases h with
  | zero => exact ⟨[], rfl⟩
  | succ h => exact ⟨_, rfl⟩
/-- The last one is the key's leaf. -/
theorem pathT_last : ∀ (h : Nat) (t : Tb h) (k : Key), ∃ p, pathT h t k = p ++ [(leafT h t k).1]
  | 0, t, k => ⟨[], rfl⟩
  | h + 1, t, k => by
    obtain ⟨p, hp⟩ := pathT_last h (pickK k t.2.1 t.2.2) k
    exact ⟨t.1 :: p, by simp only [pathT, leafT, hp, List.cons_append]⟩
theorem pathT_len : ∀ (h : Nat) (t : Tb h) (k : Key), (pathT h t k).length = h + 1
  | 0, _, _ => rfl
  | h + 1, t, k => by simp [pathT, pathT_len h]
/-- A page of a tree that is no leaf: what it says, and where a key goes. -/
theorem rep_down {ps : List Pg} {h : Nat} {lo hi hi' : Key} {rs : List Int} {t : Tb (h + 1)} (k : Key) (hw : wfT (h + 1) lo hi t) (hr : repT ps (h + 1) hi' rs t) :
    ∃ p, ps[t.1]? = some p ∧ p.leaf = false ∧ p.keys = t.2.2.map (·.1) ∧ p.keys.length ≤ 4 ∧ RiseK p.keys ∧ p.kids.length = p.keys.length + 1 ∧ p.kids.getD (cntK k p.keys) 0 = (idT h (pickK k t.2.1 t.2.2) : Int) ∧
      ∃ lo2 hi2 hi3 rs2, wfT h lo2 hi2 (pickK k t.2.1 t.2.2) ∧ repT ps h hi3 rs2 (pickK k t.2.1 t.2.2) := by
  obtain ⟨h1, h2, h3⟩ := hw
  obtain ⟨r1, r2⟩ := hr
  obtain ⟨lo2, hi2, w2⟩ := kw_pick k _ _ _ _ h3
  obtain ⟨hi3, rs2, e2⟩ := repK_pick k _ _ _ _ r2
  refine ⟨_, r1, rfl, rfl, by simpa using h2, kw_pair _ _ _ _ h3, by simp, pickK_at k (fun c => (idT h c : Int)) t.2.2 t.2.1, lo2, hi2, hi3, rs2, w2, e2⟩
theorem cnt_le (k : Key) : ∀ ks : List Key, cntK k ks ≤ ks.length
  | [] => Nat.le_refl _
  | s :: r => by
    by_cases h : kl k s = true
    · simp [cntK, h]
    · simp [cntK, h, cnt_le k r]
end Go.Proofs.Ytahammkjkfdmhaa
/- The program's way down: its path, its leaf. -/
namespace Go.Proofs.Ytahammkjkfdmhaa
open Go.ChangeShapes Go.WideShapes Go.ChangeAt Go.RowKit
set_option linter.unusedVariables false
set_option linter.unusedSimpArgs false
set_option maxHeartbeats 2000000
set_option maxRecDepth 100000
def nc (l : List Nat) : List Value := ic (l.map fun i : Nat => (i : Int))
theorem nc_app (a b : List Nat) : nc (a ++ b) = nc a ++ nc b := by simp [nc, ic_app]
/-- A page's cells in a box. -/
theorem page_box {w : World} {ok : Nat → Prop} {b o i : Nat} {k d h : Value} {p : Pg} (hp : PageAt w ok b o i k d h p) :
    ∃ ak ck ad cd ag cg, k = .slice ak p.keys.length ck ∧ d = .slice ad p.kids.length cd ∧ h = .slice ag p.high.length cg := by
  obtain ⟨a1, a2, a3, a4, a5, a6, a7, a8⟩ := hp
  obtain ⟨ak, ck, _, k0, _⟩ := keysF a6
  obtain ⟨ad, cd, d0, _⟩ := intsF a7
  obtain ⟨ag, cg, eg⟩ := a8.sh
  exact ⟨ak, ck, ad, cd, ag, cg, k0, d0, eg⟩
/-- Owned still, where its block is as it was. -/
theorem own_far {w w' : World} {B e s n : Nat} {v : Value} {xs : List Value} (h : w.ownsRow B e s v n xs) (hf : ∀ g, v.ownBlock = some g → w'.heap[g]? = w.heap[g]?) : w'.ownsRow B e s v n xs := by
  refine ⟨h.1, ?_⟩
  rcases h.2 with h0 | ⟨g, cap, cur, hv, h1, h2, h3⟩
  · exact .inl h0
  · exact .inr ⟨g, cap, cur, hv, h1, (hf g (by rw [hv]; rfl)).trans h2, h3⟩
theorem own_new {w : World} {B e n : Nat} {xs : List Value} (hB : B ≤ n) (hl : 0 < xs.length) (h63 : xs.length ≤ maxLen) (h : w.heap[n]? = some (.cells xs.toArray e (0, 0))) : w.ownsRow B e 1 (.slice (some ⟨n, 0, none⟩) xs.length xs.length) xs.length xs :=
  ⟨by simp, .inr ⟨n, xs.length, xs.toArray, rfl, hB, h, Nat.le_refl _, h63, by simp, by simp⟩⟩
/-- A box with a page of the tree. -/
def Box (w : World) (ok : Nat → Prop) (B : Nat) (p : Pg) : Prop :=
  ∃ ak ck ad cd ag cg, w.heap[B]? = some (.cells #[.bool p.leaf, .slice ak p.keys.length ck, .slice ad p.kids.length cd, .slice ag p.high.length cg, .int .i64 p.next] 43 (0, 0)) ∧
    RK w ok (.slice ak p.keys.length ck) p.keys ∧ RI w ok (.slice ad p.kids.length cd) p.kids
/-- A page written over a box, and copied to a new one. -/
theorem set5 (w1 : World) (B : Nat) (a b c d e : Value) (C : Array Value) (T : TypeId) :
    ∀ w2, w2 = ((((((w1.setCell ⟨B, 0, none⟩ a).setCell ⟨B, 1, none⟩ b).setCell ⟨B, 2, none⟩ c).setCell ⟨B, 3, none⟩ d).setCell ⟨B, 4, none⟩ e).alloc (.cells C T)).drew →
    (∀ n, n ≤ B → n ≤ w1.heap.size → Below n w1 w2) ∧ (∀ x, x ≠ B → x < w1.heap.size → w2.heap[x]? = w1.heap[x]?) ∧ w2.heap[w1.heap.size]? = some (.cells C T (0, 0)) ∧ w2.heap.size = w1.heap.size + 1 := by
  rintro w2 rfl
  have hs : (((((w1.setCell ⟨B, 0, none⟩ a).setCell ⟨B, 1, none⟩ b).setCell ⟨B, 2, none⟩ c).setCell ⟨B, 3, none⟩ d).setCell ⟨B, 4, none⟩ e).heap.size = w1.heap.size := by simp
  refine ⟨fun n h1 h2 => ?_, fun x hx hlt => ?_, ?_, ?_⟩
  · exact (((((((Below.refl n w1).setCell (p := ⟨B, 0, none⟩) h1 _).setCell (p := ⟨B, 1, none⟩) h1 _).setCell (p := ⟨B, 2, none⟩) h1 _).setCell (p := ⟨B, 3, none⟩) h1 _).setCell (p := ⟨B, 4, none⟩) h1 _).alloc (by rw [hs]; exact h2) _).drew
  · show (World.alloc _ _).heap[x]? = _
    rw [Below.heap_alloc _ _ _ (by rw [hs]; exact hlt), Below.heap_setCell _ _ _ _ hx, Below.heap_setCell _ _ _ _ hx, Below.heap_setCell _ _ _ _ hx, Below.heap_setCell _ _ _ _ hx, Below.heap_setCell _ _ _ _ hx]
  · show (World.alloc _ _).heap[w1.heap.size]? = _
    rw [← hs]
    exact new0 _ _
  · show (World.alloc _ _).heap.size = _
    rw [World.size_alloc, hs]
theorem box5 {w : World} {B : Nat} {x0 x1 x2 x3 x4 : Value} {T : TypeId} (h : w.heap[B]? = some (.cells #[x0, x1, x2, x3, x4] T (0, 0))) :
    w.cell? ⟨B, 0, none⟩ = some x0 ∧ w.cell? ⟨B, 1, none⟩ = some x1 ∧ w.cell? ⟨B, 2, none⟩ = some x2 ∧ w.cell? ⟨B, 3, none⟩ = some x3 ∧ w.cell? ⟨B, 4, none⟩ = some x4 ∧
    w.frozen? ⟨B, 0, none⟩ = false ∧ w.frozen? ⟨B, 1, none⟩ = false ∧ w.frozen? ⟨B, 2, none⟩ = false ∧ w.frozen? ⟨B, 3, none⟩ = false ∧ w.frozen? ⟨B, 4, none⟩ = false := by
  refine ⟨?_, ?_, ?_, ?_, ?_, ?_, ?_, ?_, ?_, ?_⟩ <;> simp [World.cell?, World.frozen?, h]
theorem rep_leaf {ps : List Pg} {hi : Key} {rs : List Int} {t : Tb 0} (h : repT ps 0 hi rs t) : (ps.getD t.1 noPg).leaf = true := by
  rw [getD_of h]
theorem ids_len : ∀ (h : Nat) (t : Tb h), h + 1 ≤ (idsT h t).length
  | 0, t => by simp [idsT]
  | h + 1, t => by
    have := ids_len h t.2.1
    simp only [idsT, List.length_cons, List.length_append]
    omega
theorem Reps.high {T : Tr} {h : Nat} {t : Tb h} (hr : Reps T h t) : h + 1 ≤ T.pages.length := by
  have h1 := ids_len h t
  have h2 := hr.2.2.2.length_eq
  rw [List.length_range] at h2
  omega
theorem path_any (w : World) (ok ok' : Nat → Prop) (hok : ∀ b, ok b → b < w.heap.size) (tv kv : Value) (T : Tr) (h : Nat) (t : Tb h) (k : Key) (ht : RT w ok tv T) (hr : Reps T h t) (hk : RB w ok' kv k) (hN : T.pages.length ≤ 100000) :
    Calls Try.prog 15 #[tv, kv] w fun e w' => ∃ v', e = .returned v' ∧ w'.ownsRow (w.heap.size + 1) 3 1 v' (h + 1) (nc (pathT h t k)) ∧ Below w.heap.size w w' := by
  obtain ⟨ao, cap, kf, df, gf, rfl, g1, g2, g3⟩ := pagesF ht
  obtain ⟨N, hNN⟩ : ∃ N, N = T.pages.length := ⟨_, rfl⟩
  rw [← hNN] at g1 g3 hN
  rw [← hNN]
  have hroot : T.root = (idT h t : Int) := hr.1
  have hhN : h + 1 ≤ N := by rw [hNN]; exact hr.high
  have hidlt : idT h t < N := by rw [hNN]; exact repT_lt h _ _ t hr.2.1
  have hreps : Hid (∃ hi rs, repT T.pages h hi rs t) := ⟨_, _, hr.2.1⟩
  have hwf : Hid (∃ lo hi, wfT h lo hi t) := ⟨_, _, hr.2.2.1⟩
  have HN := Lib.hid hNN
  have HP := Lib.hid g3
  have HK := Lib.hid hk
  unfold maxLen at g2
  obtain ⟨rt, hrt⟩ : ∃ rt, rt = idT h t := ⟨_, rfl⟩
  rw [hroot]
  rw [← hrt] at hidlt ⊢
  have HRT := Lib.hid hrt
  clear hNN g3 ht hr hk hroot hrt
  obtain ⟨b0, o0, rfl, hb0, hokb, hpa⟩ := HP.out rt hidlt
  obtain ⟨p, hp⟩ : ∃ p, p = T.pages.getD rt noPg := ⟨_, rfl⟩
  rw [← hp] at hpa
  obtain ⟨ak, ck, ad, cd, ag, cg, x1, x2, x3⟩ := page_box hpa
  rw [x1, x2, x3] at hpa
  obtain ⟨a1, a2, a3, a4, a5, a6, a7, a8⟩ := hpa
  have HPP := Lib.hid hp
  have HA6 := Lib.hid a6
  have HA7 := Lib.hid a7
  clear x1 x2 x3 a6 a7 a8 hp
  obtain ⟨pl, pks, pds, ph, pn⟩ := p
  simp only at a1 a2 a3 a4 a5 HA6 HA7
  have hrt1 : (rt : Int) < (N : Int) := by omega
  go_enter Try.func15, Try.ntmps15
  go_wp2
  obtain ⟨W, hW⟩ : ∃ W : World, W = ((w.alloc (.cells #[.slice (some ⟨b0, o0, none⟩) N cap, .int .i64 (rt : Int)] 24)).alloc (.cells #[.int .i64 (rt : Int)] 3)).alloc (.cells #[.bool pl, .slice ak pks.length ck, .slice ad pds.length cd, .slice ag ph.length cg, .int .i64 pn] 43) := ⟨_, rfl⟩
  have hBW : Below w.heap.size w W := by rw [hW]; go_grown
  have hzW : W.heap.size = w.heap.size + 3 := by rw [hW]; simp
  have s0 : W.cell? ⟨w.heap.size, 0, none⟩ = some (.slice (some ⟨b0, o0, none⟩) N cap) := by rw [hW]; go_simp
  have s1 : W.heap[w.heap.size + 1]? = some (.cells #[.int .i64 (rt : Int)] 3 (0, 0)) := by rw [hW]; exact (Below.heap_alloc _ _ _ (by simp)).trans (new1 w _ _)
  have s2 : W.heap[w.heap.size + 1 + 1]? = some (.cells #[.bool pl, .slice ak pks.length ck, .slice ad pds.length cd, .slice ag ph.length cg, .int .i64 pn] 43 (0, 0)) := by rw [hW]; exact new2 w _ _ _
  have s3 : RK W ok (.slice ak pks.length ck) pks := HA6.out.below hBW
  have s4 : RI W ok (.slice ad pds.length cd) pds := HA7.out.below hBW
  rw [← hW]
  have HBW := Lib.hid hBW
  clear hW hBW
  go_loopg [5, 6] h (fun g pv bx wr => ∃ (t' : Tb g) (pre : List Nat) (Bp : Nat), g ≤ h ∧ pathT h t k = pre ++ pathT g t' k ∧ pre.length + g = h ∧ (∃ hi rs, repT T.pages g hi rs t') ∧ (∃ lo hi, wfT g lo hi t') ∧
    wr.ownsRow (w.heap.size + 1) 3 1 pv (pre.length + 1) (nc (pre ++ [idT g t'])) ∧ bx = .pointer (some ⟨Bp, 0, none⟩) ∧ w.heap.size + 1 < Bp ∧ (∀ x, pv.ownBlock = some x → x ≠ Bp) ∧ Box wr ok Bp (T.pages.getD (idT g t') noPg) ∧
    Below w.heap.size w wr ∧ w.heap.size + 1 < wr.heap.size ∧ wr.cell? ⟨w.heap.size, 0, none⟩ = some (.slice (some ⟨b0, o0, none⟩) N cap))
  case atStart =>
    refine ⟨t, [], w.heap.size + 1 + 1, Nat.le_refl _, rfl, by simp, hreps.out, hwf.out, ?_, rfl, by omega, fun x hx => by have : w.heap.size + 1 = x := Option.some.inj hx; omega, ?_, HBW.out, by omega, s0⟩
    · have := own_new (w := W) (B := w.heap.size + 1) (n := w.heap.size + 1) (e := 3) (xs := [.int .i64 (rt : Int)]) (Nat.le_refl _) (by simp) (by simp [maxLen]) s1
      simpa [nc, ic, HRT.out] using this
    · rw [← HRT.out, ← HPP.out]
      exact ⟨ak, ck, ad, cd, ag, cg, s2, s3, s4⟩
  case round =>
    obtain ⟨t', pre, Bp, hgh, hpath, hlen, ⟨hi1, rs1, hrep⟩, ⟨lo2, hi2, hwf2⟩, hown, rfl, hBp, hob, hbox, hb, hz, c0⟩ := hrel
    obtain ⟨p, hp⟩ : ∃ p, p = T.pages.getD (idT gk t') noPg := ⟨_, rfl⟩
    rw [← hp] at hbox
    obtain ⟨xk, xc, xd, xe, xg, xh, hbx, hk6, hd7⟩ := hbox
    have q0 : wr.cell? ⟨Bp, 0, none⟩ = some (.bool p.leaf) := by simp [World.cell?, hbx]
    have q1 : wr.cell? ⟨Bp, 1, none⟩ = some (.slice xk p.keys.length xc) := by simp [World.cell?, hbx]
    have q2 : wr.cell? ⟨Bp, 2, none⟩ = some (.slice xd p.kids.length xe) := by simp [World.cell?, hbx]
    have q3 : wr.cell? ⟨Bp, 3, none⟩ = some (.slice xg p.high.length xh) := by simp [World.cell?, hbx]
    have q4 : wr.cell? ⟨Bp, 4, none⟩ = some (.int .i64 p.next) := by simp [World.cell?, hbx]
    have f0 : wr.frozen? ⟨Bp, 0, none⟩ = false := by simp [World.frozen?, hbx]
    have f1 : wr.frozen? ⟨Bp, 1, none⟩ = false := by simp [World.frozen?, hbx]
    have f2 : wr.frozen? ⟨Bp, 2, none⟩ = false := by simp [World.frozen?, hbx]
    have f3 : wr.frozen? ⟨Bp, 3, none⟩ = false := by simp [World.frozen?, hbx]
    have f4 : wr.frozen? ⟨Bp, 4, none⟩ = false := by simp [World.frozen?, hbx]
    have hBpl : Bp < wr.heap.size := (Array.getElem?_eq_some_iff.1 hbx).1
    obtain ⟨_, apv, cpv, epv, _⟩ := Rd.own hown
    subst epv
    have HOW := Lib.hid hown
    have HB := Lib.hid hb
    have HOB := Lib.hid hob
    have HPA := Lib.hid hpath
    have HLEN := Lib.hid hlen
    have hpre : pre.length ≤ 100000 := by omega
    cases gk with
    | zero =>
      have hpl : p.leaf = true := by rw [hp]; exact rep_leaf hrep
      rw [hpl] at q0
      clear hown hb hob hpath hlen hbx hk6 hd7 hp hpl hrep hwf2
      go_wp2
      go_ret
      refine ⟨_, rfl, ?_, HB.out⟩
      have h1 := HOW.out
      have h2 := HLEN.out
      rw [HPA.out]
      exact own_to h1 (by omega) rfl
    | succ g =>
      obtain ⟨p', hp', r1, r2, r3, r4, r5, r6, lo3, hi3, hi4, rs3, r7, r8⟩ := rep_down k hwf2 hrep
      have hpp : p = p' := by rw [hp]; exact getD_of hp'
      subst hpp
      have hlt2 : idT g (pickK k t'.2.1 t'.2.2) < N := by rw [HN.out]; exact repT_lt g _ _ _ r8
      obtain ⟨nx, hnx⟩ : ∃ nx, nx = idT g (pickK k t'.2.1 t'.2.2) := ⟨_, rfl⟩
      rw [← hnx] at hlt2 r6
      have hcn := cnt_lb (k := k) r4
      have hcl := cnt_le k p.keys
      obtain ⟨pl, pks, pds, ph, pn⟩ := p
      simp only at q0 q1 q2 q3 q4 r1 r2 r3 r4 r5 r6 hk6 hd7 hcn hcl
      subst r1
      obtain ⟨K, hK⟩ : ∃ K, K = pks.length := ⟨_, rfl⟩
      rw [r5, ← hK] at q2 hd7
      rw [← hK] at q1 hk6 r3 hcl
      simp only at hbx
      rw [r5, ← hK] at hbx
      have HK6 := Lib.hid hk6
      have HR4 := Lib.hid r4
      have HKK := Lib.hid hK
      obtain ⟨c, hc⟩ : ∃ c, c = cntK k pks := ⟨_, rfl⟩
      rw [← hc] at r6 hcn hcl
      have hd7' := hd7
      rw [show K + 1 = pds.length by rw [r5, hK]] at hd7'
      obtain ⟨ad', cd', e0, i1, i2, i3⟩ := intsF hd7'
      cases e0
      obtain ⟨b5, o5, rfl, _, hok5, i4⟩ := i3 c (by rw [r5, ← hK]; omega)
      rw [r6] at i4
      have hb5 := hok _ hok5
      obtain ⟨b6, o6, e6, hb6, hok6, hpa6⟩ := HP.out nx hlt2
      cases e6
      obtain ⟨p6, hp6⟩ : ∃ p6, p6 = T.pages.getD nx noPg := ⟨_, rfl⟩
      rw [← hp6] at hpa6
      obtain ⟨ak6, ck6, ad6, cd6, ag6, cg6, z1, z2, z3⟩ := page_box hpa6
      rw [z1, z2, z3] at hpa6
      have hpaw := hpa6
      obtain ⟨v1, v2, v3, v4, v5, v6, v7, v8⟩ := hpa6
      have HP6 := Lib.hid hp6
      have HV6 := Lib.hid v6
      have HV7 := Lib.hid v7
      have HNX := Lib.hid hnx
      have HR7 := Lib.hid r7
      have HR8 := Lib.hid r8
      have HC := Lib.hid hc
      have HBX := Lib.hid hbx
      clear v6 v7 v8 z1 z2 z3 hp6 hnx r7 r8 hc i3 hd7 hd7' hown hb hob hpath hlen hbx hk6 hp' hp hrep hwf2 r2 r4 r6 hK hpaw
      obtain ⟨lb, hlb⟩ : ∃ lb, lb = lbK k pks := ⟨_, rfl⟩
      obtain ⟨hs, hhs⟩ : ∃ hs, hs = hasK k pks := ⟨_, rfl⟩
      rw [← hlb, ← hhs] at hcn
      have hsr := srch_any wr ok ok' _ _ pks k HK6.out (HK.out.below HB.out) HR4.out (by rw [← HKK.out]; omega)
      rw [← hlb, ← hhs] at hsr
      have HSR := Lib.hid hsr
      clear hlb hhs hsr
      have hcv : Hid (c = if hs = true then lb + 1 else lb) := Lib.hid hcn
      clear hcn
      have hap : Hid ((nc (pre ++ [idT (g + 1) t']) ++ [.int .i64 (nx : Int)]) = nc ((pre ++ [idT (g + 1) t']) ++ [nx])) := Lib.hid (by simp [nc, ic])
      have hbw5 : b5 < wr.heap.size := by omega
      have hbw6 : b0 < wr.heap.size := by omega
      have i4w : wr.cell? ⟨b5, o5 + c, none⟩ = some (.int .i64 (nx : Int)) := i4
      have y1 := (HB.out.cell (p := ⟨b0, o0 + nx * 5, none⟩) hb6).trans v1
      have y2 := (HB.out.cell (p := ⟨b0, o0 + nx * 5 + 1, none⟩) hb6).trans v2
      have y3 := (HB.out.cell (p := ⟨b0, o0 + nx * 5 + 2, none⟩) hb6).trans v3
      have y4 := (HB.out.cell (p := ⟨b0, o0 + nx * 5 + 3, none⟩) hb6).trans v4
      have y5 := (HB.out.cell (p := ⟨b0, o0 + nx * 5 + 4, none⟩) hb6).trans v5
      clear v1 v2 v3 v4 v5 i4
      have hnx1 : (nx : Int) < (N : Int) := by omega
      have hcK : (c : Int) < (K : Int) + 1 := by omega
      cases hs with
      | true =>
        have hcl2 : Hid (c = lb + 1) := Lib.hid (by have := hcv.out; simpa using this)
        obtain rfl := hcl2.out
        go_wp2_with (first | (go_at_call 24; refine HSR.out.mono ?_; rintro e w' ⟨rfl, rfl⟩) | (at_builtin; (refine apx wr 1 rfl (.tmp 31) (.tmp 37) 37 3 _ 1 8 Try.underlying37 Try.info3 rfl (by omega) rfl HOW.out (by omega) (by omega) (by unfold maxLen; omega) [.int .i64 (nx : Int)] rfl (by simp [Value.oneCell']) _ rfl rfl rfl ?_; intro v7 w1 hown1 hb1 hg1 ho1)))
        have hneB : some Bp ≠ (Value.slice apv (pre.length + 1) cpv).ownBlock := fun e => HOB.out _ e.symm rfl
        have hne0 : ∀ x, x < w.heap.size + 1 → some x ≠ (Value.slice apv (pre.length + 1) cpv).ownBlock := fun x hx e => by have := (HOW.out.lt _ e.symm).1; omega
        have hbx1 := (hg1.block Bp hBpl hneB).trans HBX.out
        obtain ⟨q0', q1', q2', q3', q4', f0', f1', f2', f3', f4'⟩ := box5 hbx1
        have zz1 := hg1.size
        have c0' := hg1.cell c0 (hne0 _ (by show w.heap.size < _; omega))
        have i4' := hg1.cell i4w (hne0 _ (by show b5 < _; omega))
        have y1' := hg1.cell y1 (hne0 _ (by show b0 < _; omega))
        have y2' := hg1.cell y2 (hne0 _ (by show b0 < _; omega))
        have y3' := hg1.cell y3 (hne0 _ (by show b0 < _; omega))
        have y4' := hg1.cell y4 (hne0 _ (by show b0 < _; omega))
        have y5' := hg1.cell y5 (hne0 _ (by show b0 < _; omega))
        have hlt1 : ∀ x, (v7 : Value).ownBlock = some x → x ≠ Bp ∧ x < w1.heap.size := fun x hx => by
          refine ⟨?_, (hown1.lt x hx).2⟩
          rcases ho1 with e | e
          · rw [e] at hx; exact HOB.out x hx
          · rw [e] at hx; cases hx; omega
        have HLT := Lib.hid hlt1
        have HB1 := Lib.hid (HB.out.trans (hb1.mono (by omega)))
        have HO1 := Lib.hid hown1
        have hb61 : b0 < w1.heap.size := by omega
        have hBp1 : Bp < w1.heap.size := by omega
        clear hg1 hb1 ho1 hown1 hlt1 hneB hne0 hbx1 q0 q1 q2 q3 q4 f0 f1 f2 f3 f4 i4w y1 y2 y3 y4 y5 c0
        have hix0 : (0 : Int) ≤ (lb : Int) + 1 := by omega
        have hix1 : (lb : Int) + 1 < (K : Int) + 1 := by omega
        have hix2 : ((lb : Int) + 1).toNat = lb + 1 := by omega
        refine wp_region_still_tail 9 (by kernel_rfl) (by kernel_rfl) ?_
        simp only [List.take_succ_cons, List.take_zero, List.drop_succ_cons, List.drop_zero]
        change wpStill _ _ w1.drew _ _ _
        repeat still_step
        refine wpStill_nil ?_
        change wpList _ _ _ _ _ w1.drew
        go_wp2
        obtain ⟨w2, hw2⟩ : ∃ w2 : World, w2 = ((((((w1.setCell ⟨Bp, 0, none⟩ (.bool p6.leaf)).setCell ⟨Bp, 1, none⟩ (.slice ak6 p6.keys.length ck6)).setCell ⟨Bp, 2, none⟩ (.slice ad6 p6.kids.length cd6)).setCell ⟨Bp, 3, none⟩ (.slice ag6 p6.high.length cg6)).setCell ⟨Bp, 4, none⟩ (.int .i64 p6.next)).alloc (.cells #[.bool p6.leaf, .slice ak6 p6.keys.length ck6, .slice ad6 p6.kids.length cd6, .slice ag6 p6.high.length cg6, .int .i64 p6.next] 43)).drew := ⟨_, rfl⟩
        rw [← hw2]
        obtain ⟨w21, w22, w23, w24⟩ := set5 w1 Bp _ _ _ _ _ _ _ w2 hw2
        clear hw2
        have hb2 : Below w.heap.size w w2 := HB1.out.trans (w21 _ (by omega) HB1.out.size)
        go_roundg g
        case measure => exact Nat.lt_succ_self g
        case rel =>
          refine ⟨pickK k t'.2.1 t'.2.2, pre ++ [idT (g + 1) t'], w1.heap.size, by omega, ?_, by simp; have := HLEN.out; omega, ⟨_, _, HR8.out⟩, ⟨_, _, HR7.out⟩, ?_, rfl, by omega, fun x hx => by have := (HLT.out x hx).2; omega, ?_, hb2, by omega, ?_⟩
          · rw [HPA.out]
            simp only [pathT, List.append_assoc, List.singleton_append]
            rfl
          · have h1 := own_far HO1.out (w' := w2) fun x hx => w22 x (HLT.out x hx).1 (HLT.out x hx).2
            refine own_to h1 (by simp) ?_
            rw [← HNX.out]
            exact hap.out
          · rw [← HNX.out, ← HP6.out]
            exact ⟨ak6, ck6, ad6, cd6, ag6, cg6, w23, HV6.out.below hb2, HV7.out.below hb2⟩
          · exact (World.cell?_of_block (w22 w.heap.size (by omega) (by omega))).trans c0'
      | false =>
        have hcl2 : Hid (c = lb) := Lib.hid (by have := hcv.out; simpa using this)
        obtain rfl := hcl2.out
        go_wp2_with (first | (go_at_call 24; refine HSR.out.mono ?_; rintro e w' ⟨rfl, rfl⟩) | (at_builtin; (refine apx wr 1 rfl (.tmp 31) (.tmp 37) 37 3 _ 1 8 Try.underlying37 Try.info3 rfl (by omega) rfl HOW.out (by omega) (by omega) (by unfold maxLen; omega) [.int .i64 (nx : Int)] rfl (by simp [Value.oneCell']) _ rfl rfl rfl ?_; intro v7 w1 hown1 hb1 hg1 ho1)))
        have hneB : some Bp ≠ (Value.slice apv (pre.length + 1) cpv).ownBlock := fun e => HOB.out _ e.symm rfl
        have hne0 : ∀ x, x < w.heap.size + 1 → some x ≠ (Value.slice apv (pre.length + 1) cpv).ownBlock := fun x hx e => by have := (HOW.out.lt _ e.symm).1; omega
        have hbx1 := (hg1.block Bp hBpl hneB).trans HBX.out
        obtain ⟨q0', q1', q2', q3', q4', f0', f1', f2', f3', f4'⟩ := box5 hbx1
        have zz1 := hg1.size
        have c0' := hg1.cell c0 (hne0 _ (by show w.heap.size < _; omega))
        have i4' := hg1.cell i4w (hne0 _ (by show b5 < _; omega))
        have y1' := hg1.cell y1 (hne0 _ (by show b0 < _; omega))
        have y2' := hg1.cell y2 (hne0 _ (by show b0 < _; omega))
        have y3' := hg1.cell y3 (hne0 _ (by show b0 < _; omega))
        have y4' := hg1.cell y4 (hne0 _ (by show b0 < _; omega))
        have y5' := hg1.cell y5 (hne0 _ (by show b0 < _; omega))
        have hlt1 : ∀ x, (v7 : Value).ownBlock = some x → x ≠ Bp ∧ x < w1.heap.size := fun x hx => by
          refine ⟨?_, (hown1.lt x hx).2⟩
          rcases ho1 with e | e
          · rw [e] at hx; exact HOB.out x hx
          · rw [e] at hx; cases hx; omega
        have HLT := Lib.hid hlt1
        have HB1 := Lib.hid (HB.out.trans (hb1.mono (by omega)))
        have HO1 := Lib.hid hown1
        have hb61 : b0 < w1.heap.size := by omega
        have hBp1 : Bp < w1.heap.size := by omega
        clear hg1 hb1 ho1 hown1 hlt1 hneB hne0 hbx1 q0 q1 q2 q3 q4 f0 f1 f2 f3 f4 i4w y1 y2 y3 y4 y5 c0
        have hix0 : (0 : Int) ≤ (c : Int) := by omega
        have hix1 : (c : Int) < (K : Int) + 1 := by omega
        refine wp_region_still_tail 9 (by kernel_rfl) (by kernel_rfl) ?_
        simp only [List.take_succ_cons, List.take_zero, List.drop_succ_cons, List.drop_zero]
        change wpStill _ _ w1.drew _ _ _
        repeat still_step
        refine wpStill_nil ?_
        change wpList _ _ _ _ _ w1.drew
        go_wp2
        obtain ⟨w2, hw2⟩ : ∃ w2 : World, w2 = ((((((w1.setCell ⟨Bp, 0, none⟩ (.bool p6.leaf)).setCell ⟨Bp, 1, none⟩ (.slice ak6 p6.keys.length ck6)).setCell ⟨Bp, 2, none⟩ (.slice ad6 p6.kids.length cd6)).setCell ⟨Bp, 3, none⟩ (.slice ag6 p6.high.length cg6)).setCell ⟨Bp, 4, none⟩ (.int .i64 p6.next)).alloc (.cells #[.bool p6.leaf, .slice ak6 p6.keys.length ck6, .slice ad6 p6.kids.length cd6, .slice ag6 p6.high.length cg6, .int .i64 p6.next] 43)).drew := ⟨_, rfl⟩
        rw [← hw2]
        obtain ⟨w21, w22, w23, w24⟩ := set5 w1 Bp _ _ _ _ _ _ _ w2 hw2
        clear hw2
        have hb2 : Below w.heap.size w w2 := HB1.out.trans (w21 _ (by omega) HB1.out.size)
        go_roundg g
        case measure => exact Nat.lt_succ_self g
        case rel =>
          refine ⟨pickK k t'.2.1 t'.2.2, pre ++ [idT (g + 1) t'], w1.heap.size, by omega, ?_, by simp; have := HLEN.out; omega, ⟨_, _, HR8.out⟩, ⟨_, _, HR7.out⟩, ?_, rfl, by omega, fun x hx => by have := (HLT.out x hx).2; omega, ?_, hb2, by omega, ?_⟩
          · rw [HPA.out]
            simp only [pathT, List.append_assoc, List.singleton_append]
            rfl
          · have h1 := own_far HO1.out (w' := w2) fun x hx => w22 x (HLT.out x hx).1 (HLT.out x hx).2
            refine own_to h1 (by simp) ?_
            rw [← HNX.out]
            exact hap.out
          · rw [← HNX.out, ← HP6.out]
            exact ⟨ak6, ck6, ad6, cd6, ag6, cg6, w23, HV6.out.below hb2, HV7.out.below hb2⟩
          · exact (World.cell?_of_block (w22 w.heap.size (by omega) (by omega))).trans c0'
/-- The leaf of a key. -/
theorem leafOf_any (w : World) (ok ok' : Nat → Prop) (hok : ∀ b, ok b → b < w.heap.size) (tv kv : Value) (T : Tr) (h : Nat) (t : Tb h) (k : Key) (ht : RT w ok tv T) (hr : Reps T h t) (hk : RB w ok' kv k) (hN : T.pages.length ≤ 100000) :
    Calls Try.prog 23 #[tv, kv] w fun e w' => e = .returned (.int .i64 ((leafT h t k).1 : Int)) ∧ Below w.heap.size w w' := by
  obtain ⟨ao, n, cap, rfl⟩ : ∃ ao n cap, tv = .agg #[.slice ao n cap, .int .i64 T.root] := by
    obtain ⟨ao, cap, _, _, _, e, _⟩ := pagesF ht
    exact ⟨ao, _, cap, e⟩
  have hh : h ≤ 100000 := by have := hr.high; omega
  have hp := fun (W : World) (hb : Below w.heap.size w W) => path_any W ok ok' (fun b hb' => by have := hok b hb'; have := hb.size; omega) _ kv T h t k (ht.below hb) hr (hk.below hb) hN
  obtain ⟨pre, hpre⟩ := pathT_last h t k
  have hpl := pathT_len h t k
  have HP := Lib.hid hp
  have HL : Hid ((nc (pathT h t k))[h]? = some (.int .i64 ((leafT h t k).1 : Int))) := by
    refine Lib.hid ?_
    have hlen : pre.length = h := by rw [hpre, List.length_append] at hpl; simpa using hpl
    rw [hpre, nc_app, List.getElem?_append_right (by simp [nc, ic, hlen])]
    simp [nc, ic, hlen]
  obtain ⟨lf, hlf⟩ : ∃ lf, lf = (leafT h t k).1 := ⟨_, rfl⟩
  rw [← hlf] at HL ⊢
  clear hp hpre hpl hlf ht hr hk
  go_enter Try.func23, Try.ntmps23
  go_wp2_with fail
  refine (HP.out _ (by go_grown)).mono ?_
  rintro e w1 ⟨v1, rfl, hown, hb1⟩
  obtain ⟨b, o, cap1, rfl, _, _, _, hc⟩ := (Rd.own hown).pos (by omega) (by omega)
  have hc1 := hc h _ HL.out
  have HB := Lib.hid (into (by go_grown : Below w.heap.size w _) hb1)
  have hi1 : (0 : Int) ≤ (h : Int) := by omega
  clear hown hc hb1
  go_wp2
  go_ret
  exact ⟨rfl, HB.out⟩
end Go.Proofs.Ytahammkjkfdmhaa

/- The document's deletion. -/
import Derived.Test.YtahammkjkfdmhaaYj
import Derived.Test.YtahammkjkfdmhaaTb
import Derived.Deep.DeepCutAuto
namespace Go.Proofs.Ytahammkjkfdmhaa
open Go.ChangeShapes Go.WideShapes Go.ChangeAt Go.RowKit
set_option linter.unusedVariables false
set_option linter.unusedSimpArgs false
set_option maxHeartbeats 4000000
set_option maxRecDepth 1000000
/-- The deletion's end: the tree with a page changed. -/
def DelDone (BO R N cO : Nat) (PB : Nat) (rt : Int) (G : Tr) (w0 w' : World) : Prop :=
  RT w' (fun b => BO ≤ b) (.agg #[.slice (some ⟨PB, 0, none⟩) N cO, .int .i64 rt]) G ∧ w'.heap[R]? = some (.cells #[.slice (some ⟨PB, 0, none⟩) N cO, .int .i64 rt] 24 (0, 0)) ∧ w0.heap.size ≤ w'.heap.size ∧ w'.os = w0.os ∧ w'.tape = w0.tape ∧ w'.output = w0.output ∧ ∀ b, b < BO → b ≠ R → w'.heap[b]? = w0.heap[b]?
theorem del_done {BO R N cO PB O C i n : Nat} {rt : Int} {T : Tr} {p : Pg} {w0 w : World} {G0 G : Nat → Prop} {vs us : List Value} {kv dv : Value} (hPB : BO ≤ PB) (hC : w0.heap.size ≤ C) (hPB2 : PB < w0.heap.size) (hR : R < BO) (hN : N = T.pages.length) (hi : i < N) (hp : T.pages[i]? = some p)
    (hown : w0.ownsRow BO 43 5 (.slice (some ⟨PB, 0, none⟩) N cO) N vs) (hps : RPs w0 G0 vs T.pages) (hG0 : ∀ b, G0 b → BO ≤ b ∧ b < w0.heap.size ∧ b ≠ PB)
    (hR0 : w0.heap[R]? = some (.cells #[.slice none 0 0, .int .i64 0] 24 (0, 0)))
    (hgr : ∀ b, b < w0.heap.size → w.heap[b]? = w0.heap[b]?) (hos : w.os = w0.os ∧ w.tape = w0.tape ∧ w.output = w0.output) (hz : w0.heap.size ≤ w.heap.size)
    (hG : ∀ b, G b → w0.heap.size ≤ b ∧ b < w.heap.size ∧ kv.ownBlock ≠ some b ∧ dv.ownBlock ≠ some b)
    (hk : w.ownsRow w0.heap.size 25 1 kv (p.keys.eraseIdx n).length us) (hks : Ks w G us (p.keys.eraseIdx n)) (hd : w.ownsRow w0.heap.size 3 1 dv (p.kids.eraseIdx n).length (ic (p.kids.eraseIdx n)))
    (hrt : rt = T.root) :
    DelDone BO R N cO PB rt ⟨T.pages.set i ⟨p.leaf, p.keys.eraseIdx n, p.kids.eraseIdx n, p.high, p.next⟩, T.root⟩ w0 ((((w.setCell ⟨PB, i * 5 + 1, none⟩ kv).setCell ⟨PB, i * 5 + 2, none⟩ dv).setCell ⟨R, 0, none⟩ (.slice (some ⟨PB, 0, none⟩) N cO)).setCell ⟨R, 1, none⟩ (.int .i64 rt)) := by
  have ho1 : w.ownsRow BO 43 5 (.slice (some ⟨PB, 0, none⟩) N cO) N vs := own_far hown fun b hb => by
    have hb' := own_eq hb
    subst hb'
    exact hgr b hPB2
  have ho2 := set_pg (set_pg ho1 (i * 5 + 1) kv) (i * 5 + 2) dv
  have hps1 : RPs w G0 vs T.pages := hps.agree fun b g _ => hgr b (hG0 b g).2.1
  obtain ⟨W2, hW2⟩ : ∃ W2, W2 = (w.setCell ⟨PB, i * 5 + 1, none⟩ kv).setCell ⟨PB, i * 5 + 2, none⟩ dv := ⟨_, rfl⟩
  have hf2 : ∀ b, b ≠ PB → W2.heap[b]? = w.heap[b]? := fun b h => by rw [hW2, Below.heap_setCell _ _ _ _ h, Below.heap_setCell _ _ _ _ h]
  have hz2 : W2.heap.size = w.heap.size := by rw [hW2]; simp
  have hos2 : W2.os = w.os ∧ W2.tape = w.tape ∧ W2.output = w.output := by rw [hW2]; exact ⟨rfl, rfl, rfl⟩
  rw [← hW2] at ho2 ⊢
  clear hW2
  have hR2 : W2.heap[R]? = some (.cells #[.slice none 0 0, .int .i64 0] 24 (0, 0)) := (hf2 R (by omega)).trans ((hgr R (by omega)).trans hR0)
  obtain ⟨W4, hW4⟩ : ∃ W4, W4 = (W2.setCell ⟨R, 0, none⟩ (.slice (some ⟨PB, 0, none⟩) N cO)).setCell ⟨R, 1, none⟩ (.int .i64 rt) := ⟨_, rfl⟩
  have hf4 : ∀ b, b ≠ R → W4.heap[b]? = W2.heap[b]? := fun b h => by rw [hW4, Below.heap_setCell _ _ _ _ h, Below.heap_setCell _ _ _ _ h]
  have hz4 : W4.heap.size = W2.heap.size := by rw [hW4]; simp
  have hos4 : W4.os = W2.os ∧ W4.tape = W2.tape ∧ W4.output = W2.output := by rw [hW4]; exact ⟨rfl, rfl, rfl⟩
  have hR4 : W4.heap[R]? = some (.cells #[.slice (some ⟨PB, 0, none⟩) N cO, .int .i64 rt] 24 (0, 0)) := by
    have h1 : (W2.setCell ⟨R, 0, none⟩ (.slice (some ⟨PB, 0, none⟩) N cO)).heap[R]? = some (.cells #[.slice (some ⟨PB, 0, none⟩) N cO, .int .i64 0] 24 (0, 0)) := by rw [Lib.heap_setCell_same hR2]; rfl
    rw [hW4, Lib.heap_setCell_same h1]; rfl
  rw [← hW4]
  clear hW4
  have hf : ∀ b, b ≠ PB → b ≠ R → W4.heap[b]? = w.heap[b]? := fun b h1 h2 => (hf4 b h2).trans (hf2 b h1)
  refine ⟨?_, hR4, by omega, hos4.1.trans (hos2.1.trans hos.1), hos4.2.1.trans (hos2.2.1.trans hos.2.1), hos4.2.2.trans (hos2.2.2.trans hos.2.2), fun b h1 h2 => (hf b (by omega) h2).trans (hgr b (by omega))⟩
  have ho4 : W4.ownsRow BO 43 5 (.slice (some ⟨PB, 0, none⟩) N cO) N ((vs.set (i * 5 + 1) kv).set (i * 5 + 2) dv) := own_far ho2 fun b hb => by
    have hb' := own_eq hb
    subst hb'
    exact hf4 b (by omega)
  have hvl := hown.1
  have hKl := hk.lt
  have hDl := hd.lt
  refine ⟨_, (vs.set (i * 5 + 1) kv).set (i * 5 + 2) dv, by rw [hrt], by rw [List.length_set, ← hN]; exact Rd.own ho4, fun a m c e g => by (cases e; exact hPB), ?_⟩
  have hpsK : RPs W4 (fun b => BO ≤ b) vs T.pages := RPs.mono (hps1.agree fun b g _ => hf b (hG0 b g).2.2 (by have := (hG0 b g).1; omega)) fun b g => (hG0 b g).1
  obtain ⟨k0, d0, h0, c0, r0, r1, r2⟩ := hpsK.2 i p hp
  have hcell : ∀ j, j < 5 → vs[i * 5 + j]? = ([.bool p.leaf, k0, d0, h0, .int .i64 p.next] : List Value)[j]? := fun j hj => by rw [← c0, List.getElem?_take, if_pos hj, List.getElem?_drop]
  refine RPs.put (cs := [.bool p.leaf, kv, dv, h0, .int .i64 p.next]) hpsK (by omega) (by simp) (fun j hj => ?_) ?_ ⟨kv, dv, h0, rfl, ⟨us, ?_, ?_, fun m q hq => ?_⟩, ⟨?_, ?_⟩, r2⟩
  · rw [List.getElem?_set_ne (by omega), List.getElem?_set_ne (by omega)]
  · apply List.ext_getElem?
    intro j
    rw [List.getElem?_take, List.getElem?_drop]
    rcases j with _ | _ | _ | _ | _ | j
    · rw [if_pos (by omega), List.getElem?_set_ne (by omega), List.getElem?_set_ne (by omega), hcell 0 (by omega)]; rfl
    · rw [if_pos (by omega), List.getElem?_set_ne (by omega), List.getElem?_set_self (by omega)]; rfl
    · rw [if_pos (by omega), List.getElem?_set_self (by rw [List.length_set]; omega)]; rfl
    · rw [if_pos (by omega), List.getElem?_set_ne (by omega), List.getElem?_set_ne (by omega), hcell 3 (by omega)]; rfl
    · rw [if_pos (by omega), List.getElem?_set_ne (by omega), List.getElem?_set_ne (by omega), hcell 4 (by omega)]; rfl
    · rw [if_neg (by omega)]; simp
  · exact Rd.own (own_far hk fun b hb => hf b (by have := (hKl b hb).1; omega) (by have := (hKl b hb).1; omega))
  · intro a m c e g
    have := (hKl _ (own_at hk a m c e g)).1
    show BO ≤ _
    omega
  · obtain ⟨x, x1, x2⟩ := hks.2 m q hq
    refine ⟨x, x1, RB.mono (x2.agree fun b g _ => hf b (by have := (hG b g).1; omega) (by have := (hG b g).1; omega)) fun b g => ?_⟩
    have := (hG b g).1
    omega
  · exact Rd.own (own_far hd fun b hb => hf b (by have := (hDl b hb).1; omega) (by have := (hDl b hb).1; omega))
  · intro a m c e g
    have := (hDl _ (own_at hd a m c e g)).1
    show BO ≤ _
    omega
theorem own_from {w : World} {B B' e s n : Nat} {v : Value} {xs : List Value} (h : w.ownsRow B e s v n xs) (hB : B' ≤ B) : w.ownsRow B' e s v n xs := by
  rcases h with ⟨h1, h2 | ⟨g, cap, fr, h2, h3, h4⟩⟩
  · exact ⟨h1, .inl h2⟩
  · exact ⟨h1, .inr ⟨g, cap, fr, h2, Nat.le_trans hB h3, h4⟩⟩
theorem dn2 (Q : Exit → Act → World → Prop) (c0 c2 c3 c5 c6 c11 c12 c13 c14 c15 c16 c17 c18 c19 c20 c21 c22 c23 c24 c25 c26 c27 c28 c29 c30 c31 c32 c33 c34 c35 c36 c37 c38 c39 c40 c41 c42 c43 c44 c45 c46 c47 c48 c49 c50 c51 c52 c53 c54 c55 c56 c57 c58 c59 c60 c61 c62 c63 c64 c65 c66 c67 c68 c69 c70 c71 c72 c73 c74 c75 c76 c77 c78 c79 c80 c81 c82 c83 c84 c85 c86 c87 c88 c89 c90 c91 c92 c93 c94 c95 c96 c97 c98 c99 c100 c101 kv : Value) (w0 : World) (R O P i N cO PB BO K ck cd : Nat) (rt : Int) (ak ad : Option Addr) (T : Tr) (p : Pg) (k : Key) (ff : Nat → Value) (ok : Nat → Prop) (hok : ∀ b, ok b → b < BO) (hR : R < BO) (hPB : BO ≤ PB) (hPB2 : PB < O) (hO : O < P) (hP : P < w0.heap.size) (hN : Hid (N = T.pages.length)) (hNs : N ≤ 4000) (hi : i < N) (hp : Hid (T.pages[i]? = some p)) (hrt : Hid (rt = T.root))
    (HK : Hid (K = p.keys.length)) (HD : Hid (p.leaf = true → K = p.kids.length)) (hK4 : K ≤ 4) (hkm : Hid (∀ s ∈ p.keys, s.length ≤ 100))
    (p0 : w0.cell? ⟨P, 0, none⟩ = some (.bool p.leaf)) (p1 : w0.cell? ⟨P, 1, none⟩ = some (.slice ak K ck)) (p2 : w0.cell? ⟨P, 2, none⟩ = some (.slice ad p.kids.length cd))
    (K3 : Hid (∀ j, j < K → ∃ b o, ak = some ⟨b, o, none⟩ ∧ ok b ∧ w0.cell? ⟨b, o + j, none⟩ = some (ff j) ∧ RB w0 ok (ff j) (p.keys.getD j [])))
    (D3 : Hid (∀ j, j < p.kids.length → ∃ b o, ad = some ⟨b, o, none⟩ ∧ ok b ∧ w0.cell? ⟨b, o + j, none⟩ = some (.int .i64 (p.kids.getD j 0))))
    (hkv : Hid (Rd w0 1 k.length kv (bc k))) (vs : List Value) (G : Nat → Prop)
    (hown : Hid (w0.ownsRow BO 43 5 (.slice (some ⟨PB, 0, none⟩) N cO) N vs)) (hps : Hid (RPs w0 G vs T.pages)) (hG : Hid (∀ b, G b → BO ≤ b ∧ b < w0.heap.size ∧ b ≠ PB))
    (hObox : Hid (w0.heap[O]? = some (.cells #[.slice (some ⟨PB, 0, none⟩) N cO, .int .i64 rt] 24 (0, 0)))) (hRbox : Hid (w0.heap[R]? = some (.cells #[.slice none 0 0, .int .i64 0] 24 (0, 0))))
    (hret : Hid (∀ (u10 u11 u12 u13 u35 u36 u37 u38 u39 u40 u41 u42 u43 u44 u45 u46 u47 u48 u49 u50 u51 u52 u53 u54 u55 u56 u57 u58 u59 u60 u61 u62 u63 u64 u65 u66 u67 u68 u69 u70 u71 u72 u73 u74 u75 u76 u77 u78 u79 u80 u81 u82 u83 u84 u85 u86 u87 u88 u89 u90 u91 u92 u93 u94 u95 u96 u97 u98 u99 u100 : Value) (w' : World) (n : Nat), p.leaf = true → p.keys[n]? = some k → DelDone BO R N cO PB rt ⟨T.pages.set i ⟨p.leaf, p.keys.eraseIdx n, p.kids.eraseIdx n, p.high, p.next⟩, T.root⟩ w0 w' → Q .ret ⟨List.toArray (c0 :: kv :: c2 :: c3 :: (.pointer (some ⟨R, 0, none⟩)) :: (.int .i64 0) :: c6 :: (.pointer (some ⟨O, 0, none⟩)) :: (.int .i64 (i : Int)) :: (.pointer (some ⟨P, 0, none⟩)) :: u10 :: u11 :: u12 :: u13 :: c14 :: c15 :: c16 :: c17 :: c18 :: c19 :: c20 :: c21 :: c22 :: c23 :: c24 :: c25 :: c26 :: c27 :: c28 :: c29 :: c30 :: c31 :: c32 :: c33 :: c34 :: u35 :: u36 :: u37 :: u38 :: u39 :: u40 :: u41 :: u42 :: u43 :: u44 :: u45 :: u46 :: u47 :: u48 :: u49 :: u50 :: u51 :: u52 :: u53 :: u54 :: u55 :: u56 :: u57 :: u58 :: u59 :: u60 :: u61 :: u62 :: u63 :: u64 :: u65 :: u66 :: u67 :: u68 :: u69 :: u70 :: u71 :: u72 :: u73 :: u74 :: u75 :: u76 :: u77 :: u78 :: u79 :: u80 :: u81 :: u82 :: u83 :: u84 :: u85 :: u86 :: u87 :: u88 :: u89 :: u90 :: u91 :: u92 :: u93 :: u94 :: u95 :: u96 :: u97 :: u98 :: u99 :: u100 :: c101 :: []), []⟩ w'))
    (hexit : Hid (∀ (u5 u10 u11 u12 u13 u35 u36 u37 u38 u39 u40 u41 u42 u43 u44 u45 u46 u47 u48 u49 u50 u51 u52 u53 u54 u55 u56 u57 u58 u59 u60 u61 u62 u63 u64 u65 u66 u67 u68 u69 u70 u71 u72 u73 u74 u75 u76 u77 u78 u79 u80 u81 u82 u83 u84 u85 u86 u87 u88 u89 u90 u91 u92 u93 u94 u95 u96 u97 u98 u99 u100 : Value) (w' : World), (p.leaf = true → ∀ n : Nat, p.keys[n]? ≠ some k) → Below w0.heap.size w0 w' → Q (.exit 2) ⟨List.toArray (c0 :: kv :: c2 :: c3 :: (.pointer (some ⟨R, 0, none⟩)) :: u5 :: c6 :: (.pointer (some ⟨O, 0, none⟩)) :: (.int .i64 (i : Int)) :: (.pointer (some ⟨P, 0, none⟩)) :: u10 :: u11 :: u12 :: u13 :: c14 :: c15 :: c16 :: c17 :: c18 :: c19 :: c20 :: c21 :: c22 :: c23 :: c24 :: c25 :: c26 :: c27 :: c28 :: c29 :: c30 :: c31 :: c32 :: c33 :: c34 :: u35 :: u36 :: u37 :: u38 :: u39 :: u40 :: u41 :: u42 :: u43 :: u44 :: u45 :: u46 :: u47 :: u48 :: u49 :: u50 :: u51 :: u52 :: u53 :: u54 :: u55 :: u56 :: u57 :: u58 :: u59 :: u60 :: u61 :: u62 :: u63 :: u64 :: u65 :: u66 :: u67 :: u68 :: u69 :: u70 :: u71 :: u72 :: u73 :: u74 :: u75 :: u76 :: u77 :: u78 :: u79 :: u80 :: u81 :: u82 :: u83 :: u84 :: u85 :: u86 :: u87 :: u88 :: u89 :: u90 :: u91 :: u92 :: u93 :: u94 :: u95 :: u96 :: u97 :: u98 :: u99 :: u100 :: c101 :: []), []⟩ w')) :
    Code.wp Try.prog (Code.loop (loopAt Try.f11 1)) Q ⟨List.toArray (c0 :: kv :: c2 :: c3 :: (.pointer (some ⟨R, 0, none⟩)) :: c5 :: c6 :: (.pointer (some ⟨O, 0, none⟩)) :: (.int .i64 (i : Int)) :: (.pointer (some ⟨P, 0, none⟩)) :: (.int .i64 0) :: c11 :: c12 :: c13 :: c14 :: c15 :: c16 :: c17 :: c18 :: c19 :: c20 :: c21 :: c22 :: c23 :: c24 :: c25 :: c26 :: c27 :: c28 :: c29 :: c30 :: c31 :: c32 :: c33 :: c34 :: c35 :: c36 :: c37 :: c38 :: c39 :: c40 :: c41 :: c42 :: c43 :: c44 :: c45 :: c46 :: c47 :: c48 :: c49 :: c50 :: c51 :: c52 :: c53 :: c54 :: c55 :: c56 :: c57 :: c58 :: c59 :: c60 :: c61 :: c62 :: c63 :: c64 :: c65 :: c66 :: c67 :: c68 :: c69 :: c70 :: c71 :: c72 :: c73 :: c74 :: c75 :: c76 :: c77 :: c78 :: c79 :: c80 :: c81 :: c82 :: c83 :: c84 :: c85 :: c86 :: c87 :: c88 :: c89 :: c90 :: c91 :: c92 :: c93 :: c94 :: c95 :: c96 :: c97 :: c98 :: c99 :: c100 :: c101 :: []), []⟩ w0 := by
  conv => arg 2; arg 1; whnf
  obtain ⟨x0, x1, -⟩ := box2I hObox.out
  obtain ⟨pl, hpl⟩ : ∃ pl, pl = p.leaf := ⟨_, rfl⟩
  rw [← hpl] at p0
  have HPL := Lib.hid hpl
  clear hpl
  go_loopw [10] (fun t wr => ∃ n : Nat, n ≤ K ∧ t = .int .i64 (n : Int) ∧ Hid (p.leaf = true → ∀ m, m < n → p.keys.getD m [] ≠ k) ∧ Hid (Below w0.heap.size w0 wr)) (fun t _ => K - (intOf t).toNat)
  case atStart => exact ⟨0, by omega, rfl, Lib.hid (fun _ m hm => by omega), Lib.hid (Below.refl _ _)⟩
  case round =>
    obtain ⟨n, hn, rfl, HF, HB⟩ := hrel
    have hz := HB.out.size
    have q0 := cell_of_below HB.out p0
    have q1 := cell_of_below HB.out p1
    have hout : ∀ (h : p.leaf = true → ∀ m : Nat, p.keys[m]? ≠ some k), True := fun _ => trivial
    by_cases hlt : n < K
    · have i0 : (0 : Int) ≤ (n : Int) := by omega
      have i1 : (n : Int) < (K : Int) := by omega
      obtain ⟨b, o, rfl, hokb, g1, g2⟩ := K3.out n hlt
      have g1' := cell_of_below HB.out g1
      have hsk := same_any wr _ kv _ k ((g2.agree (Agree.below HB.out ok)).1) (hkv.out.below HB.out)
      have HSK := Lib.hid hsk
      clear g1 g2 hsk hout
      rcases pl with _ | _
      · go_wp2_with fail
        refine hexit.out _ _ _ _ _ _ _ _ _ _ _ _ _ _ _ _ _ _ _ _ _ _ _ _ _ _ _ _ _ _ _ _ _ _ _ _ _ _ _ _ _ _ _ _ _ _ _ _ _ _ _ _ _ _ _ _ _ _ _ _ _ _ _ _ _ _ _ _ _ _ _ wr (fun h => ?_) HB.out
        rw [← HPL.out] at h
        cases h
      · by_cases hq : p.keys.getD n [] = k
        · rw [decide_eq_true hq] at HSK
          have HQ := Lib.hid hq
          clear hq
          go_wp2_with (go_at_call 27; refine HSK.out.mono ?_; rintro e w4 ⟨rfl, rfl⟩)
          have hKD := HD.out HPL.out.symm
          obtain ⟨C, hC⟩ : ∃ C, C = wr.heap.size := ⟨_, rfl⟩
          obtain ⟨W1, hW1⟩ : ∃ W1 : World, W1 = wr.alloc (.cells #[.bool false, .slice none 0 0, .slice none 0 0, .slice none 0 0, .int .i64 0] 43) := ⟨_, rfl⟩
          have hB1 : Below w0.heap.size w0 W1 := by rw [hW1]; exact into HB.out ((Below.refl _ _).alloc (Nat.le_refl _) _)
          have hC1 : W1.heap[C]? = some (.cells #[.bool false, .slice none 0 0, .slice none 0 0, .slice none 0 0, .int .i64 0] 43 (0, 0)) := by rw [hW1, hC]; exact new0 _ _
          have hz1 : W1.heap.size = C + 1 := by rw [hW1, hC]; simp
          rw [← hW1, ← hC]
          have HB1 := Lib.hid hB1
          have hC0 : w0.heap.size ≤ C := by omega
          clear hW1 hC hB1
          change Code.wp _ (Code.loop (loopAt Try.f11 2)) _ _ _
          refine dl4 _ _ _ _ _ _ _ _ _ _ _ _ _ _ _ _ _ _ _ _ _ _ _ _ _ _ _ _ _ _ _ _ _ _ _ _ _ _ _ _ _ _ _ _ _ _ _ _ _ _ _ _ _ _ _ _ _ _ _ _ _ _ _ _ _ _ _ _ _ _ _ _ _ _ _ _ _ _ _ _ _ _ _ _ _ _ _ _ _ _ _ _ _ _ _ _ _ _ _ W1 P C n ok (fun b hb => by have := hok b hb; omega) (by omega) (by omega) (by omega) p.keys p.kids K HK (Lib.hid hKD) hK4 hkm (some ⟨b, o, none⟩) ck ff (cell_of_below HB1.out p1)
            (Lib.hid fun j hj => by obtain ⟨b, o, e, h1, h2, h3⟩ := K3.out j hj; exact ⟨b, o, e, h1, cell_of_below HB1.out h2, h3.agree (Agree.below HB1.out ok)⟩) ad cd (by rw [hKD]; exact cell_of_below HB1.out p2)
            (Lib.hid fun j hj => by obtain ⟨b, o, e, h1, h2⟩ := D3.out j (by omega); exact ⟨b, o, e, h1, cell_of_below HB1.out h2⟩) (.bool false) (.slice none 0 0) (.int .i64 0) hC1 ?_
          refine Lib.hid ?_
          intro z0 z1 z2 z3 z4 z5 z6 z7 z8 z9 z10 z11 z12 z13 z14 z15 z16 z17 z18 z19 z20 z21 z22 z23 z24 z25 z26 z27 z28 z29 z30 z31 z32 z33 w5 G5 kv5 dv5 us5 hG5 ho5 hks5 hd5 hbx5 hgr5
          obtain ⟨_, ka5, kc5, rfl, _⟩ := Rd.own ho5
          obtain ⟨_, da5, dc5, rfl, _⟩ := Rd.own hd5
          obtain ⟨y0, y1, y2, y3, y4, -⟩ := box5 hbx5
          have hz5 := hgr5.size
          have hgb : ∀ b, b < C → w5.heap[b]? = W1.heap[b]? := fun b hb => hgr5.block b (by omega) (fun e => by have := Option.some.inj e; omega)
          have hgw : ∀ b, b < w0.heap.size → w5.heap[b]? = w0.heap[b]? := fun b hb => (hgb b (by omega)).trans (HB1.out.block b hb)
          have xO : w5.cell? ⟨O, 0, none⟩ = some (.slice (some ⟨PB, 0, none⟩) N cO) := (World.cell?_of_block (a := ⟨O, 0, none⟩) (hgw O (by omega))).trans x0
          have xO1 : w5.cell? ⟨O, 1, none⟩ = some (.int .i64 rt) := (World.cell?_of_block (a := ⟨O, 1, none⟩) (hgw O (by omega))).trans x1
          have ho1 : w5.ownsRow BO 43 5 (.slice (some ⟨PB, 0, none⟩) N cO) N vs := own_far hown.out fun b hb => by
            have hb' := own_eq hb
            subst hb'
            exact hgw _ (by omega)
          have hvl := ho1.1
          have u1 := (ho1.cellAt (i * 5 + 1) (by omega)).trans (List.getElem?_eq_getElem (by omega))
          obtain ⟨e1, he1⟩ : ∃ e, w5.cell? ⟨PB, i * 5 + 1, none⟩ = some e := ⟨_, u1⟩
          have f1 := ho1.frozenAt (i * 5 + 1)
          have ho2 := set_pg ho1 (i * 5 + 1) (.slice ka5 (p.keys.eraseIdx n).length kc5)
          have u2 := (ho2.cellAt (i * 5 + 2) (by omega)).trans (List.getElem?_eq_getElem (by rw [List.length_set]; omega))
          obtain ⟨e2, he2⟩ : ∃ e, (w5.setCell ⟨PB, i * 5 + 1, none⟩ (.slice ka5 (p.keys.eraseIdx n).length kc5)).cell? ⟨PB, i * 5 + 2, none⟩ = some e := ⟨_, u2⟩
          have f2 := ho2.frozenAt (i * 5 + 2)
          obtain ⟨Rz0, Rz1, Rf0, Rf1⟩ := box2I ((hgw R (by omega)).trans hRbox.out)
          have hi0 : (0 : Int) ≤ (i : Int) := by omega
          have hi1 : (i : Int) < (N : Int) := by omega
          have nO : O ≠ PB := by omega
          have nC : C ≠ PB := by omega
          have nR : R ≠ PB := by omega
          have xa : (w5.setCell ⟨PB, i * 5 + 1, none⟩ (.slice ka5 (p.keys.eraseIdx n).length kc5)).cell? ⟨O, 0, none⟩ = some (.slice (some ⟨PB, 0, none⟩) N cO) := (World.cell?_setCell_far _ _ _ _ (fun e => nO e.symm)).trans xO
          have xb : (w5.setCell ⟨PB, i * 5 + 1, none⟩ (.slice ka5 (p.keys.eraseIdx n).length kc5)).cell? ⟨C, 2, none⟩ = some (.slice da5 (p.kids.eraseIdx n).length dc5) := (World.cell?_setCell_far _ _ _ _ (fun e => nC e.symm)).trans y2
          have xc : ((w5.setCell ⟨PB, i * 5 + 1, none⟩ (.slice ka5 (p.keys.eraseIdx n).length kc5)).setCell ⟨PB, i * 5 + 2, none⟩ (.slice da5 (p.kids.eraseIdx n).length dc5)).cell? ⟨O, 0, none⟩ = some (.slice (some ⟨PB, 0, none⟩) N cO) := (World.cell?_setCell_far _ _ _ _ (fun e => nO e.symm)).trans xa
          have xd : ((w5.setCell ⟨PB, i * 5 + 1, none⟩ (.slice ka5 (p.keys.eraseIdx n).length kc5)).setCell ⟨PB, i * 5 + 2, none⟩ (.slice da5 (p.kids.eraseIdx n).length dc5)).cell? ⟨O, 1, none⟩ = some (.int .i64 rt) := (World.cell?_setCell_far _ _ _ _ (fun e => nO e.symm)).trans ((World.cell?_setCell_far _ _ _ _ (fun e => nO e.symm)).trans xO1)
          have HDN := Lib.hid (del_done (C := C) (O := O) (kv := .slice ka5 (p.keys.eraseIdx n).length kc5) (dv := .slice da5 (p.kids.eraseIdx n).length dc5) (n := n) (G := G5) hPB hC0 (by omega) hR hN.out hi hp.out hown.out hps.out hG.out hRbox.out hgw ⟨hgr5.os.trans HB1.out.os, hgr5.tape.trans HB1.out.tape, hgr5.output.trans HB1.out.output⟩ (by omega)
            (fun b g => by obtain ⟨h1, h2, h3, h4⟩ := hG5 b g; exact ⟨by omega, h2, h3, h4⟩) (own_from ho5 (by omega)) hks5 (own_from hd5 (by omega)) hrt.out)
          have hkn : p.keys[n]? = some k := by
            have hl : n < p.keys.length := by rw [← HK.out]; exact hlt
            rw [List.getElem?_eq_getElem hl]
            have := HQ.out
            rw [List.getD_eq_getElem?_getD, List.getElem?_eq_getElem hl] at this
            exact congrArg some this
          have HKN := Lib.hid hkn
          clear hkn hG5 ho5 hks5 hd5 hbx5 hgr5 hgb hgw u1 u2 ho1 ho2 hvl xO1 hKD
          go_upto_region 22 with (fail)
          go_upto_region 23 with (fail)
          go_wp2_with fail
          exact hret.out _ _ _ _ _ _ _ _ _ _ _ _ _ _ _ _ _ _ _ _ _ _ _ _ _ _ _ _ _ _ _ _ _ _ _ _ _ _ _ _ _ _ _ _ _ _ _ _ _ _ _ _ _ _ _ _ _ _ _ _ _ _ _ _ _ _ _ _ _ _ _ n HPL.out.symm HKN.out HDN.out
        · rw [decide_eq_false hq] at HSK
          have HQ := Lib.hid hq
          clear hq
          go_wp2_with (go_at_call 27; refine HSK.out.mono ?_; rintro e w4 ⟨rfl, rfl⟩)
          go_roundw
          case rel => exact ⟨n + 1, by omega, by go_num, Lib.hid (fun h m hm => by
            rcases Nat.lt_or_ge m n with g | g
            · exact HF.out h m g
            · obtain rfl : m = n := by omega
              exact HQ.out), HB⟩
          case measure => simp [intOf]; omega
    · obtain rfl : n = K := by omega
      clear hout
      rcases pl with _ | _ <;>
      · go_wp2_with fail
        refine hexit.out _ _ _ _ _ _ _ _ _ _ _ _ _ _ _ _ _ _ _ _ _ _ _ _ _ _ _ _ _ _ _ _ _ _ _ _ _ _ _ _ _ _ _ _ _ _ _ _ _ _ _ _ _ _ _ _ _ _ _ _ _ _ _ _ _ _ _ _ _ _ _ wr (fun h m e => ?_) HB.out
        have hm := (List.getElem?_eq_some_iff.1 e).1
        refine HF.out h m (by rw [HK.out]; exact hm) ?_
        rw [List.getD_eq_getElem?_getD, e]
        rfl
/-- A tree and a fault, as the two results of a call. -/
def TreeR (G : Tr) (c : Int) (w : World) (e : Ending) (w' : World) : Prop := ∃ a n cc, e = .returned (.tuple #[.agg #[.slice a n cc, .int .i64 G.root], .int .i64 c]) ∧ RT w' (fun b => w.heap.size ≤ b) (.agg #[.slice a n cc, .int .i64 G.root]) G ∧ Below w.heap.size w w'
theorem noTr_rt (w : World) (ok : Nat → Prop) : RT w ok (.agg #[.slice none 0 0, .int .i64 0]) noTr := ⟨_, [], rfl, Rd.nil w 5, fun a n c h hn => by (cases h), ⟨rfl, fun i p h => by simp [noTr] at h⟩⟩
theorem NoIs.r {c : Int} {w : World} {e : Ending} {w' : World} (h : NoIs c w e w') : TreeR noTr c w e w' := ⟨none, 0, 0, h.1, noTr_rt _ _, h.2⟩
theorem deletedFrom_no (w : World) (ok : Nat → Prop) (hok : ∀ b, ok b → b < w.heap.size) (tv kv : Value) (T : Tr) (k : Key) (ht : RT w ok tv T) (hk : Rd w 1 k.length kv (bc k)) (hrr : Rng T.root) (h0 : tkT T k ≠ 0) :
    Calls Try.prog 11 #[tv, kv] w (NoIs (tkT T k) w) := by
  obtain ⟨ao, n, cap, rfl⟩ := rt_shape ht
  obtain ⟨W0, hW0⟩ : ∃ W0 : World, W0 = (w.alloc (.cells #[.slice ao n cap, .int .i64 T.root] 24)).alloc (.cells #[.slice none 0 0, .int .i64 0] 24) := ⟨_, rfl⟩
  have hb0 : Below w.heap.size w W0 := by rw [hW0]; exact ((Below.refl _ _).alloc (Nat.le_refl _) _).alloc (by simp) _
  have hy : W0.heap[w.heap.size + 1]? = some (.cells #[.slice none 0 0, .int .i64 0] 24 (0, 0)) := by rw [hW0]; have := new0 (w.alloc (.cells #[.slice ao n cap, .int .i64 T.root] 24)) (.cells #[.slice none 0 0, .int .i64 0] 24); rwa [World.size_alloc] at this
  have hc := treeKey_any W0 ok (fun b hb' => by have := hok b hb'; have := hb0.size; omega) _ kv T k (ht.below hb0) (hk.below hb0) hrr
  obtain ⟨q, hq⟩ : ∃ q, q = tkT T k := ⟨_, rfl⟩
  rw [← hq] at hc h0 ⊢
  have h0' : (q == 0) = false := beq_eq_false_iff_ne.2 h0
  have h0'' : (q != 0) = true := bne_iff_ne.2 h0
  have HW0 := Lib.hid hW0
  have HC := Lib.hid hc
  clear hW0 hc ht hk hq
  go_enter Try.func11, Try.ntmps11
  go_wp2_with fail
  rw [← HW0.out]
  refine HC.out.mono ?_
  rintro e w1 ⟨rfl, hb1⟩
  have HB := Lib.hid (into hb0 hb1)
  obtain ⟨y0, y1, yf0, yf1⟩ := box2 ((hb1.block _ (Array.getElem?_eq_some_iff.1 hy).1).trans hy)
  clear hb1
  go_wp2_with fail
  obtain ⟨q0, q1⟩ := box2_two (x := .slice none 0 0) (y := .int .i64 0) y0 y1
  refine bodyPost_ret (v := .tuple #[.agg #[.slice none 0 0, .int .i64 0], .int .i64 q]) (by simp [results, Try.results11, go_sem, q0, q1]; try rfl) rfl ?_
  exact ⟨rfl, (HB.out.setCell (by show w.heap.size ≤ w.heap.size + 1; omega) _).setCell (by show w.heap.size ≤ w.heap.size + 1; omega) _⟩
theorem deletedFrom_any (w : World) (ok : Nat → Prop) (hok : ∀ b, ok b → b < w.heap.size) (tv kv : Value) (T : Tr) (k : Key) (h : Nat) (t : Tb h) (ht : RT w ok tv T) (hk : Rd w 1 k.length kv (bc k)) (hrr : Rng T.root) (hcp : Cpy T) (h0 : tkT T k = 0) (hr : Reps T h t) (hNs : T.pages.length ≤ 4000) :
    Calls Try.prog 11 #[tv, kv] w fun e w' => ((∃ v, lookE k (entT h t) = some v) ∧ TreeR ⟨takeP h T.pages t k, T.root⟩ 0 w e w') ∨ (lookE k (entT h t) = none ∧ NoIs 8 w e w') := by
  have hpos : 0 < T.pages.length := by have := hr.2.2.2.length_eq; have h2 := hr.lt _ (leaf_mem h t k); omega
  have hok4 : ∀ i p, T.pages[i]? = some p → OkPg p T.pages.length := fun i p hp => (reps_pass hr).page p (List.mem_of_getElem? hp)
  obtain ⟨ao, cap, kf, df, gf, rfl, g1, g2, g3⟩ := pagesF ht
  obtain ⟨N, hN⟩ : ∃ n, n = T.pages.length := ⟨_, rfl⟩
  rw [← hN] at g1 g3 hNs hpos
  rw [← hN]
  obtain ⟨rt, hrt⟩ : ∃ rt : Int, rt = T.root := ⟨_, rfl⟩
  rw [← hrt]
  obtain ⟨W0, hW0⟩ : ∃ W0 : World, W0 = (w.alloc (.cells #[.slice ao N cap, .int .i64 rt] 24)).alloc (.cells #[.slice none 0 0, .int .i64 0] 24) := ⟨_, rfl⟩
  have hb0 : Below w.heap.size w W0 := by rw [hW0]; exact ((Below.refl _ _).alloc (Nat.le_refl _) _).alloc (by simp) _
  have hz0 : W0.heap.size = w.heap.size + 2 := by rw [hW0]; simp
  have hx : W0.heap[w.heap.size]? = some (.cells #[.slice ao N cap, .int .i64 rt] 24 (0, 0)) := by rw [hW0]; exact (((Below.refl _ _).alloc (Nat.le_refl _) _).block _ (by simp)).trans (new0 _ _)
  have hy : W0.heap[w.heap.size + 1]? = some (.cells #[.slice none 0 0, .int .i64 0] 24 (0, 0)) := by rw [hW0]; have := new0 (w.alloc (.cells #[.slice ao N cap, .int .i64 rt] 24)) (.cells #[.slice none 0 0, .int .i64 0] 24); rwa [World.size_alloc] at this
  have ht' : RT w ok (.agg #[.slice ao N cap, .int .i64 rt]) T := by rw [hN, hrt]; exact ht
  have hc := treeKey_any W0 ok (fun b hb' => by have := hok b hb'; omega) _ kv T k (ht'.below hb0) (hk.below hb0) hrr
  rw [h0] at hc
  have HW0 := Lib.hid hW0
  have HC := Lib.hid hc
  have HT := Lib.hid ht'
  have HK := Lib.hid hk
  have HP := Lib.hid g3
  have HN := Lib.hid hN
  have HRT := Lib.hid hrt
  have HR := Lib.hid hr
  have HOP := Lib.hid hok4
  have HCP := Lib.hid hcp
  unfold maxLen at g2
  clear hW0 hc ht ht' hk g3 hN hrt hr hok4 hcp h0 hrr
  go_enter Try.func11, Try.ntmps11
  go_wp2_with fail
  rw [← HW0.out]
  refine HC.out.mono ?_
  rintro e w1 ⟨rfl, hb1⟩
  have HB1 := Lib.hid (into hb0 hb1)
  have HX1 := Lib.hid ((hb1.block _ (Array.getElem?_eq_some_iff.1 hx).1).trans hx)
  have HY1 := Lib.hid ((hb1.block _ (Array.getElem?_eq_some_iff.1 hy).1).trans hy)
  have hz1 := hb1.size
  clear hb1 hx hy hb0 HW0 HC
  obtain ⟨x0, x1, -⟩ := box2I HX1.out
  go_wp2_with fail
  refine (treeCopy_own w1 ok (fun b hb' => by have := hok b hb'; omega) _ T (HT.out.below HB1.out) HCP.out).mono ?_
  rintro e w2 ⟨v2, BO, rfl, hB1, hB2, hctr, hb2⟩
  obtain ⟨a2, c2, vs, rfl, hown, hps⟩ := hctr
  rw [← HN.out] at hown hps
  rw [← HN.out, ← HRT.out]
  obtain ⟨PB, hPB, rfl⟩ : ∃ PB, BO ≤ PB ∧ a2 = some ⟨PB, 0, none⟩ := by
    rcases hown with ⟨-, ⟨-, h0⟩ | ⟨g, _, _, h2, h3, -⟩⟩
    · omega
    · simp only [Value.slice.injEq] at h2
      exact ⟨g, h3, h2.1⟩
  have hPB2 := (hown.lt PB rfl).2
  obtain ⟨O, hO⟩ : ∃ O, O = w2.heap.size := ⟨_, rfl⟩
  have hz2 := hb2.size
  have hO1 : PB < O := by omega
  have hO2 : BO ≤ O := by omega
  have hO3' : w1.heap.size ≤ O := by omega
  obtain ⟨W3, hW3⟩ : ∃ W3 : World, W3 = w2.alloc (.cells #[.slice (some ⟨PB, 0, none⟩) N c2, .int .i64 rt] 24) := ⟨_, rfl⟩
  have hb3 : Below w2.heap.size w2 W3 := by rw [hW3]; exact (Below.refl _ _).alloc (Nat.le_refl _) _
  have hO3 : W3.heap[O]? = some (.cells #[.slice (some ⟨PB, 0, none⟩) N c2, .int .i64 rt] 24 (0, 0)) := by rw [hW3, hO]; exact new0 _ _
  have hz3 : W3.heap.size = O + 1 := by rw [hW3, hO]; simp
  have HB3 := Lib.hid (into (into HB1.out hb2) hb3)
  have HX3 := Lib.hid ((hb3.block w.heap.size (by omega)).trans ((hb2.block w.heap.size (by omega)).trans HX1.out))
  have HY3 := Lib.hid ((hb3.block (w.heap.size + 1) (by omega)).trans ((hb2.block (w.heap.size + 1) (by omega)).trans HY1.out))
  have HO3 := Lib.hid hO3
  have HOWN := Lib.hid (own_below hown hb3)
  have HPS := Lib.hid (hps.agree (Agree.below hb3 _))
  have HW3 := Lib.hid (And.intro hW3 hO)
  clear hb2 hb3 hown hps hO3 hW3 hO x0 x1 hPB2 hB2 hz2
  go_wp2_with fail
  rw [← HW3.out.1, ← HW3.out.2]
  go_loopw [8] (fun v wr => ∃ i : Nat, i ≤ N ∧ v = .int .i64 (i : Int) ∧ Hid (∀ j, j < i → ∀ p, T.pages[j]? = some p → p.leaf = true → ∀ n : Nat, p.keys[n]? ≠ some k) ∧ Hid (Below W3.heap.size W3 wr)) (fun v _ => N - (intOf v).toNat)
  case atStart => exact ⟨0, by omega, rfl, Lib.hid (fun j hj => by omega), Lib.hid (Below.refl _ _)⟩
  case round =>
    obtain ⟨i, hi, rfl, HF, HB⟩ := hrel
    have hz := HB.out.size
    have HBW := Lib.hid (into HB3.out HB.out)
    obtain ⟨x0, x1, -⟩ := box2I ((HB.out.block w.heap.size (by omega)).trans HX3.out)
    by_cases hlt : i < N
    · obtain ⟨bp, op, rfl, _, hokb, hpa⟩ := HP.out i hlt
      have hil : i < T.pages.length := by rw [← HN.out]; exact hlt
      obtain ⟨p, hp⟩ : ∃ p, p = T.pages.getD i noPg := ⟨_, rfl⟩
      have hp2 : T.pages[i]? = some p := by rw [hp, List.getD_eq_getElem?_getD, List.getElem?_eq_getElem hil]; rfl
      rw [← hp] at hpa
      have hpok := HOP.out i p hp2
      have hpw := hpa.below HBW.out
      clear hpa hp hil
      obtain ⟨a1, a2, a3, a4, a5, a6, a7, a8⟩ := hpw
      obtain ⟨ak, ck, ff, k0, _, k2, k3⟩ := keysF a6
      obtain ⟨ad, cd, d0, _, d2, d3⟩ := intsF a7
      obtain ⟨ag, cg, e8⟩ := a8.sh
      rw [k0] at a2
      rw [d0] at a3
      rw [e8] at a4
      obtain ⟨K, hK⟩ : ∃ K, K = p.keys.length := ⟨_, rfl⟩
      rw [← hK] at a2 k3
      obtain ⟨pl, hpl⟩ : ∃ pl, pl = p.leaf := ⟨_, rfl⟩
      obtain ⟨pn, hpn⟩ : ∃ pn, pn = p.next := ⟨_, rfl⟩
      obtain ⟨D, hD⟩ : ∃ D, D = p.kids.length := ⟨_, rfl⟩
      obtain ⟨gh, hgh⟩ : ∃ gh, gh = p.high.length := ⟨_, rfl⟩
      rw [← hpl] at a1
      rw [← hpn] at a5
      rw [← hD] at a3 d3
      rw [← hgh] at a4
      have K3 := Lib.hid k3
      have D3 := Lib.hid d3
      have HKK := Lib.hid hK
      have HDD := Lib.hid hD
      have HPL := Lib.hid hpl
      have HPK := Lib.hid hpok
      have HP2 := Lib.hid hp2
      have i0 : (0 : Int) ≤ (i : Int) := by omega
      have i1 : (i : Int) < (N : Int) := by omega
      unfold maxLen at k2 d2
      clear a6 a7 a8 k0 d0 e8 hK hD k3 d3 hpl hpn hgh hpok hp2
      go_wp2_with fail
      obtain ⟨wA, hwA⟩ : ∃ wA : World, wA = wr.alloc (.cells #[.bool pl, .slice ak K ck, .slice ad D cd, .slice ag gh cg, .int .i64 pn] 43) := ⟨_, rfl⟩
      have hbA : Below wr.heap.size wr wA := by rw [hwA]; exact (Below.refl _ _).alloc (Nat.le_refl _) _
      have hzA : wA.heap.size = wr.heap.size + 1 := by rw [hwA]; simp
      have q0 : wA.cell? ⟨wr.heap.size, 0, none⟩ = some (.bool pl) := by rw [hwA]; simp
      have q1 : wA.cell? ⟨wr.heap.size, 1, none⟩ = some (.slice ak K ck) := by rw [hwA]; simp
      have q2 : wA.cell? ⟨wr.heap.size, 2, none⟩ = some (.slice ad D cd) := by rw [hwA]; simp
      rw [← hwA]
      have HBA := Lib.hid (into HB.out hbA)
      have HBA1 := Lib.hid hbA
      clear hwA hbA
      change Code.wp _ (Code.loop (loopAt Try.f11 1)) _ _ _
      refine dn2 _ _ _ _ _ _ _ _ _ _ _ _ _ _ _ _ _ _ _ _ _ _ _ _ _ _ _ _ _ _ _ _ _ _ _ _ _ _ _ _ _ _ _ _ _ _ _ _ _ _ _ _ _ _ _ _ _ _ _ _ _ _ _ _ _ _ _ _ _ _ _ _ _ _ _ _ _ _ _ _ _ _ _ _ _ _ _ _ _ _ _ _ _ _ _ _ _ kv wA (w.heap.size + 1) O wr.heap.size i N c2 PB BO K ck cd rt ak ad T p k ff ok (fun b hb => by have := hok b hb; omega) (by omega) hPB (by omega) (by omega) (by omega) HN hNs hlt HP2 HRT HKK (Lib.hid fun hl => by
          have h1 := HPK.out.kids
          rw [hl, if_pos rfl] at h1
          rw [HKK.out, h1]) (by rw [HKK.out]; exact HPK.out.keys) (Lib.hid fun s hs => (HPK.out.okk s hs).1.2) (by rw [← HPL.out]; exact q0) q1 (by rw [← HDD.out]; exact q2)
        (Lib.hid fun j hj => by obtain ⟨b, o, e, _, h1, h2, h3⟩ := K3.out j hj; exact ⟨b, o, e, h1, cell_of_below HBA1.out h2, h3.agree (Agree.below HBA1.out ok)⟩)
        (Lib.hid fun j hj => by obtain ⟨b, o, e, _, h1, h2⟩ := D3.out j (by rw [HDD.out]; exact hj); exact ⟨b, o, e, h1, cell_of_below HBA1.out h2⟩) (Lib.hid (HK.out.below (into HB3.out HBA.out))) vs _ (Lib.hid (own_below HOWN.out HBA.out)) (Lib.hid (HPS.out.agree (Agree.below HBA.out _))) (Lib.hid fun b g => by
          obtain ⟨h1, h2, h3⟩ := g
          exact ⟨h1, by have := HBA.out.size; have := HW3.out.2; omega, fun e => h3 (by rw [e]; rfl)⟩)
        (Lib.hid ((HBA.out.block O (by omega)).trans HO3.out)) (Lib.hid ((HBA.out.block (w.heap.size + 1) (by omega)).trans HY3.out)) ?_ ?_
      · refine Lib.hid ?_
        intro z0 z1 z2 z3 z4 z5 z6 z7 z8 z9 z10 z11 z12 z13 z14 z15 z16 z17 z18 z19 z20 z21 z22 z23 z24 z25 z26 z27 z28 z29 z30 z31 z32 z33 z34 z35 z36 z37 z38 z39 z40 z41 z42 z43 z44 z45 z46 z47 z48 z49 z50 z51 z52 z53 z54 z55 z56 z57 z58 z59 z60 z61 z62 z63 z64 z65 z66 z67 z68 z69 w6 n hl hkn hdn
        obtain ⟨d1, d2, d3, d4, d5, d6, d7⟩ := hdn
        obtain ⟨r0, r1, -⟩ := box2I d2
        have hwA := into HB3.out HBA.out
        have hzw := hwA.size
        have hbw : Below w.heap.size w w6 := ⟨d4.trans hwA.os, d5.trans hwA.tape, d6.trans hwA.output, by omega, fun b hb => (d7 b (by omega) (by omega)).trans (hwA.block b hb)⟩
        obtain ⟨ht1, v, ht2⟩ := del_page HR.out HP2.out hl hkn
        have HF1 := Lib.hid (And.intro ht1 d1)
        have HF2 := Lib.hid (And.intro hbw ht2)
        clear d1 d2 d3 d4 d5 d6 d7 hwA hbw ht1 ht2 hl hkn
        simp (config := {zetaDelta := true}) only [Exit.inBlock, Exit.then]
        refine bodyPost_ret (v := .tuple #[.agg #[.slice (some ⟨PB, 0, none⟩) N c2, .int .i64 rt], .int .i64 0]) (by simp [results, Try.results11, go_sem, r0, r1]; try rfl) rfl ?_
        refine .inl ⟨⟨v, HF2.out.2⟩, _, _, _, rfl, ?_, HF2.out.1⟩
        have h9 := HF1.out.2
        rw [← HF1.out.1, ← HRT.out] at h9
        exact h9.mono fun b hb => (by have h8 : BO ≤ b := hb; omega : w.heap.size ≤ b)
      · refine Lib.hid ?_
        intro z0 z1 z2 z3 z4 z5 z6 z7 z8 z9 z10 z11 z12 z13 z14 z15 z16 z17 z18 z19 z20 z21 z22 z23 z24 z25 z26 z27 z28 z29 z30 z31 z32 z33 z34 z35 z36 z37 z38 z39 z40 z41 z42 z43 z44 z45 z46 z47 z48 z49 z50 z51 z52 z53 z54 z55 z56 z57 z58 z59 z60 z61 z62 z63 z64 z65 z66 z67 z68 z69 z70 w6 hno hb6
        have HNO := Lib.hid hno
        have HB6 := Lib.hid (into HBA.out hb6)
        clear hno hb6
        go_wp2_with fail
        go_roundw
        case rel => exact ⟨i + 1, by omega, by go_num, Lib.hid (fun j hj p' hp' hl n => by
            rcases Nat.lt_or_ge j i with g | g
            · exact HF.out j g p' hp' hl n
            · obtain rfl : j = i := by omega
              have := HP2.out
              rw [hp'] at this
              cases this
              exact HNO.out hl n), HB6⟩
        case measure => simp [intOf]; omega
    · obtain rfl : i = N := by omega
      obtain ⟨y0, y1, yf0, yf1⟩ := box2I ((HB.out.block (w.heap.size + 1) (by omega)).trans HY3.out)
      have hnone := del_none HR.out (k := k) fun j p hp hl n => HF.out j (by rw [HN.out]; exact (List.getElem?_eq_some_iff.1 hp).1) p hp hl n
      have HNN := Lib.hid hnone
      clear hnone
      go_wp2_with fail
      obtain ⟨q0, q1⟩ := box2_two (x := .slice none 0 0) (y := .int .i64 0) y0 y1
      refine bodyPost_ret (v := .tuple #[.agg #[.slice none 0 0, .int .i64 0], .int .i64 8]) (by simp [results, Try.results11, go_sem, q0, q1]; try rfl) rfl ?_
      exact .inr ⟨HNN.out, rfl, (HBW.out.setCell (by show w.heap.size ≤ w.heap.size + 1; omega) _).setCell (by show w.heap.size ≤ w.heap.size + 1; omega) _⟩
end Go.Proofs.Ytahammkjkfdmhaa

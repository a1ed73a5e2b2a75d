import Derived.Test.YtdeollmeljaaoaaDoorDok
set_option linter.unusedVariables false
set_option linter.unusedSimpArgs false
set_option maxHeartbeats 8000000
set_option maxRecDepth 100000
open Go.ChangeAt Go.ChangeShapes Go.Joins Go.RowKit Go.WideShapes
open Go.Lib (hid)
namespace Go.Proofs.YtdeollmeljaaoaaDoor.rd
open Go.Proofs.YtdeollmeljaaoaaDoor.cs Go.Proofs.YtdeollmeljaaoaaDoor.tw
def ordN (i : Nat) : ByteArray := if i = 1 then ⟨#[110]⟩ else if i = 2 then ⟨#[115]⟩ else if i = 3 then ⟨#[105, 100]⟩ else ⟨#[]⟩
theorem ord_nm {i : Nat} (h : i < 4) (h0 : i ≠ 0) : nmF (ordN i).data.toList = 0 := by
 match i, h with
 | 0, _ => exact absurd rfl h0
 | 1, _ => decide
 | 2, _ => decide
 | 3, _ => decide
theorem box4j {w : World} {B i : Nat} {T : TypeId} (h : w.heap[B]? = some (.cells #[.string ⟨#[]⟩, .string ⟨#[110]⟩, .string ⟨#[115]⟩, .string ⟨#[105, 100]⟩] T (0, 0))) (hi : i < 4) : w.cell? ⟨B, i, none⟩ = some (.string (ordN i)) := by
 match i, hi with
 | 0, _ => simp only [World.cell?]; rw [h]; rfl
 | 1, _ => simp only [World.cell?]; rw [h]; rfl
 | 2, _ => simp only [World.cell?]; rw [h]; rfl
 | 3, _ => simp only [World.cell?]; rw [h]; rfl
theorem ord_or {m : Nat} {db : Bool} (h : m < 4) (hd : ordN m = ⟨#[]⟩ → db = false) : ordN m = ⟨#[]⟩ ∧ db = false ∨ nmF (ordN m).data.toList = 0 := by
 by_cases h0 : m = 0
 ·subst h0
  exact .inl ⟨rfl, hd rfl⟩
 ·exact .inr (ord_nm h h0)
theorem ord_em {m : Nat} (h : m < 4) : ordN m = ⟨#[]⟩ ∨ (ordN m).toList.isEmpty = false := by
 by_cases h0 : m = 0
 ·subst h0
  exact .inl rfl
 ·exact .inr (nm_full (ord_nm h h0))
theorem code_nm2 {Q : Exit → Act → World → Prop} {e : Exit} {a : Act} {w : World} (h : ∀ W, W = w → Q e a W) : Q e a w := h w rfl
theorem sreg21 (Q : Exit → Act → World → Prop) {c0 c4 c5 c6 c7 c8 c9 c10 c11 c12 c13 c14 c15 c16 c17 c18 c19 c20 c21 c22 c23 c24 c25 c26 c27 c28 c29 c30 c31 c32 c33 c34 c35 c36 c37 c38 c39 c40 c41 c42 c43 c44 c45 c46 c47 c48 c49 c50 c51 c52 c53 c54 c55 c56 c57 c58 c59 c60 c61 c62 c63 c64 c65 c66 c67 c68 c69 c70 c71 c72 c73 c74 c75 c76 c77 c78 c79 c80 c81 c82 c83 c84 c85 c86 c87 c88 c89 c90 c91 c92 c93 c94 c95 c96 c97 c98 c99 c100 c101 c102 c103 c104 c105 c106 c107 c108 c109 c110 : Value} (f : Ph) (P S E : Nat) (s : Sq) (p : Ps) (W0 w0 : World) (HSV : Hid (Sv f P S (P + 1) E s p W0 w0))
  (hout : ∀ (v : Value) (w9 : World), (Below (P + 1) w0 w9 ∧ w9.heap[P + 1]? = some (.cells (stC s p) 33 (0, 0)) ∧ ∀ k, k ≠ P + 1 → w9.heap[k]? = w0.heap[k]?) → Q .normal ⟨List.toArray (c0 :: (.pointer (some ⟨P, 0, none⟩)) :: (.pointer (some ⟨P + 1, 0, none⟩)) :: (.pointer (some ⟨S, 0, none⟩)) :: c4 :: c5 :: c6 :: c7 :: c8 :: c9 :: c10 :: c11 :: c12 :: c13 :: c14 :: c15 :: c16 :: c17 :: c18 :: c19 :: c20 :: c21 :: c22 :: c23 :: c24 :: c25 :: c26 :: c27 :: c28 :: c29 :: c30 :: c31 :: c32 :: c33 :: c34 :: c35 :: c36 :: c37 :: c38 :: c39 :: c40 :: c41 :: c42 :: c43 :: c44 :: c45 :: c46 :: c47 :: c48 :: c49 :: c50 :: c51 :: c52 :: c53 :: c54 :: c55 :: c56 :: c57 :: c58 :: c59 :: c60 :: c61 :: c62 :: c63 :: c64 :: c65 :: c66 :: c67 :: c68 :: c69 :: c70 :: c71 :: c72 :: c73 :: c74 :: c75 :: c76 :: c77 :: c78 :: c79 :: c80 :: c81 :: c82 :: c83 :: c84 :: c85 :: c86 :: c87 :: c88 :: c89 :: c90 :: c91 :: c92 :: c93 :: c94 :: c95 :: c96 :: c97 :: c98 :: c99 :: c100 :: c101 :: c102 :: c103 :: c104 :: c105 :: c106 :: c107 :: c108 :: c109 :: v :: []), []⟩ w9) :
  Code.wp Tryd.prog ((regionOf 21 (Tryd.f9.body.getD .skip)).getD .skip) Q ⟨List.toArray (c0 :: (.pointer (some ⟨P, 0, none⟩)) :: (.pointer (some ⟨P + 1, 0, none⟩)) :: (.pointer (some ⟨S, 0, none⟩)) :: c4 :: c5 :: c6 :: c7 :: c8 :: c9 :: c10 :: c11 :: c12 :: c13 :: c14 :: c15 :: c16 :: c17 :: c18 :: c19 :: c20 :: c21 :: c22 :: c23 :: c24 :: c25 :: c26 :: c27 :: c28 :: c29 :: c30 :: c31 :: c32 :: c33 :: c34 :: c35 :: c36 :: c37 :: c38 :: c39 :: c40 :: c41 :: c42 :: c43 :: c44 :: c45 :: c46 :: c47 :: c48 :: c49 :: c50 :: c51 :: c52 :: c53 :: c54 :: c55 :: c56 :: c57 :: c58 :: c59 :: c60 :: c61 :: c62 :: c63 :: c64 :: c65 :: c66 :: c67 :: c68 :: c69 :: c70 :: c71 :: c72 :: c73 :: c74 :: c75 :: c76 :: c77 :: c78 :: c79 :: c80 :: c81 :: c82 :: c83 :: c84 :: c85 :: c86 :: c87 :: c88 :: c89 :: c90 :: c91 :: c92 :: c93 :: c94 :: c95 :: c96 :: c97 :: c98 :: c99 :: c100 :: c101 :: c102 :: c103 :: c104 :: c105 :: c106 :: c107 :: c108 :: c109 :: c110 :: []), []⟩ w0 := by
 conv => arg 2; whnf
 have HQ := hid hout
 clear hout
 obtain ⟨x0, x1, x2, x3, x4, x5, x6, x7, x8, x9, x10, x11, f0, f1, f2, f3, f4, f5, f6, f7, f8, f9, f10, f11⟩ := box12 HSV.out.bx
 obtain ⟨z0, z1, z2, z3, z4, z5, z6, z7, z8, z9, z10, z11, g0, g1, g2, g3, g4, g5, g6, g7, g8, g9, g10, g11⟩ := box12 HSV.out.rs
 (try dsimp only at z0 z1 z2 z3 z4 z5 z6 z7 z8 z9 z10 z11)
 go_wp2_with fail
 refine code_nm2 (fun w9 hW => ?_)
 exact HQ.out _ _ (st12b HSV.out.rs _ _ _ _ _ _ _ _ _ _ _ _ hW)
theorem sreg20 (Q : Exit → Act → World → Prop) {c0 c4 c5 c6 c7 c8 c9 c10 c11 c12 c13 c14 c15 c16 c17 c18 c19 c20 c21 c22 c23 c24 c25 c26 c27 c28 c29 c30 c31 c32 c33 c34 c35 c36 c37 c38 c39 c40 c41 c42 c43 c44 c45 c46 c47 c48 c49 c50 c51 c52 c53 c54 c55 c56 c57 c58 c59 c60 c61 c62 c63 c64 c65 c66 c67 c68 c69 c70 c71 c72 c73 c74 c75 c76 c77 c78 c79 c80 c81 c82 c83 c84 c85 c86 c87 c88 c89 c90 c91 c92 c93 c94 c95 c96 c97 c98 c99 c100 c101 c102 c103 c104 c105 c106 c107 c108 c109 c110 : Value} (f : Ph) (P S E : Nat) (s : Sq) (p : Ps) (W0 w0 : World) (HSV : Hid (Sv f P S (P + 1) E s p W0 w0)) (HFW : Hid (∀ W, Below W0.heap.size W0 W → PhR W f))
  (hout : ∀ (u106 u107 u108 u109 : Value) (l : List Oq) (a : Option Addr) (c : Nat) (w9 : World), Whl l → l.length ≤ 15 → Sv f P S (P + 1) E { s with wh := l } { p with a6 := a, n6 := l.length, c6 := c } W0 w9 → Q .normal ⟨List.toArray (c0 :: (.pointer (some ⟨P, 0, none⟩)) :: (.pointer (some ⟨P + 1, 0, none⟩)) :: (.pointer (some ⟨S, 0, none⟩)) :: c4 :: c5 :: c6 :: c7 :: c8 :: c9 :: c10 :: c11 :: c12 :: c13 :: c14 :: c15 :: c16 :: c17 :: c18 :: c19 :: c20 :: c21 :: c22 :: c23 :: c24 :: c25 :: c26 :: c27 :: c28 :: c29 :: c30 :: c31 :: c32 :: c33 :: c34 :: c35 :: c36 :: c37 :: c38 :: c39 :: c40 :: c41 :: c42 :: c43 :: c44 :: c45 :: c46 :: c47 :: c48 :: c49 :: c50 :: c51 :: c52 :: c53 :: c54 :: c55 :: c56 :: c57 :: c58 :: c59 :: c60 :: c61 :: c62 :: c63 :: c64 :: c65 :: c66 :: c67 :: c68 :: c69 :: c70 :: c71 :: c72 :: c73 :: c74 :: c75 :: c76 :: c77 :: c78 :: c79 :: c80 :: c81 :: c82 :: c83 :: c84 :: c85 :: c86 :: c87 :: c88 :: c89 :: c90 :: c91 :: c92 :: c93 :: c94 :: c95 :: c96 :: c97 :: c98 :: c99 :: c100 :: c101 :: c102 :: c103 :: c104 :: c105 :: u106 :: u107 :: u108 :: u109 :: c110 :: []), []⟩ w9) :
  Code.wp Tryd.prog ((regionOf 20 (Tryd.f9.body.getD .skip)).getD .skip) Q ⟨List.toArray (c0 :: (.pointer (some ⟨P, 0, none⟩)) :: (.pointer (some ⟨P + 1, 0, none⟩)) :: (.pointer (some ⟨S, 0, none⟩)) :: c4 :: c5 :: c6 :: c7 :: c8 :: c9 :: c10 :: c11 :: c12 :: c13 :: c14 :: c15 :: c16 :: c17 :: c18 :: c19 :: c20 :: c21 :: c22 :: c23 :: c24 :: c25 :: c26 :: c27 :: c28 :: c29 :: c30 :: c31 :: c32 :: c33 :: c34 :: c35 :: c36 :: c37 :: c38 :: c39 :: c40 :: c41 :: c42 :: c43 :: c44 :: c45 :: c46 :: c47 :: c48 :: c49 :: c50 :: c51 :: c52 :: c53 :: c54 :: c55 :: c56 :: c57 :: c58 :: c59 :: c60 :: c61 :: c62 :: c63 :: c64 :: c65 :: c66 :: c67 :: c68 :: c69 :: c70 :: c71 :: c72 :: c73 :: c74 :: c75 :: c76 :: c77 :: c78 :: c79 :: c80 :: c81 :: c82 :: c83 :: c84 :: c85 :: c86 :: c87 :: c88 :: c89 :: c90 :: c91 :: c92 :: c93 :: c94 :: c95 :: c96 :: c97 :: c98 :: c99 :: c100 :: c101 :: c102 :: c103 :: c104 :: c105 :: c106 :: c107 :: c108 :: c109 :: c110 :: []), []⟩ w0 := by
 conv => arg 2; whnf
 have HQ := hid hout
 have HO := hid (fun W (hW : Below W0.heap.size W0 W) => ops_any3 W f.wk f.wn f.ws f.wa f.wm f.wc (HFW.out W hW).wk (HFW.out W hW).wn (HFW.out W hW).ws (HFW.out W hW).wi)
 clear hout
 obtain ⟨x0, x1, x2, x3, x4, x5, x6, x7, x8, x9, x10, x11, f0, f1, f2, f3, f4, f5, f6, f7, f8, f9, f10, f11⟩ := box12 HSV.out.bx
 obtain ⟨y0, y1, y2, y3, y4, y5, y6, y7, y8, y9, y10, y11, y12, y13⟩ := box14 HSV.out.ph
 (try dsimp only at x0 x1 x2 x3 x4 x5 x6 x7 x8 x9 x10 x11)
 go_wp2_with fail
 refine (HO.out _ HSV.out.hb).mono ?_
 rintro e wb ⟨vb, lb, rfl, hwb, hlb, hob, hbb⟩
 have HSb := hid (HSV.out.go hbb)
 have HOb := hid (own_mono hob HSV.out.wf.2.2.2.2)
 have HWb := hid (And.intro hwb hlb)
 obtain ⟨a6, c6, hv6⟩ : ∃ a c, vb = .slice a lb.length c := own_shape hob
 subst hv6
 clear hwb hlb hob hbb HO x0 x1 x2 x3 x4 x5 x6 x7 x8 x9 x10 x11 f0 f1 f2 f3 f4 f5 f6 f7 f8 f9 f10 f11 y0 y1 y2 y3 y4 y5 y6 y7 y8 y9 y10 y11 y12 y13
 obtain ⟨x0, x1, x2, x3, x4, x5, x6, x7, x8, x9, x10, x11, f0, f1, f2, f3, f4, f5, f6, f7, f8, f9, f10, f11⟩ := box12 HSb.out.bx
 obtain ⟨y0, y1, y2, y3, y4, y5, y6, y7, y8, y9, y10, y11, y12, y13⟩ := box14 HSb.out.ph
 (try dsimp only at x0 x1 x2 x3 x4 x5 x6 x7 x8 x9 x10 x11)
 go_wp2_with fail
 refine code_nm2 (fun w9 hW => ?_)
 refine HQ.out _ _ _ _ lb a6 c6 w9 HWb.out.1 HWb.out.2 ?_
 rw [hW]
 exact HSb.out.put (s' := { s with wh := lb }) (p' := { p with a6 := a6, n6 := lb.length, c6 := c6 }) 6 (.slice a6 lb.length c6) rfl ⟨HSb.out.ow.o2, HSb.out.ow.o3, HSb.out.ow.o4, HOb.out, HSb.out.ow.o11⟩
theorem sreg13 (Q : Exit → Act → World → Prop) {c0 c4 c5 c6 c7 c8 c9 c10 c11 c12 c13 c14 c15 c16 c17 c18 c19 c20 c21 c22 c23 c24 c25 c26 c27 c28 c29 c30 c31 c32 c33 c34 c35 c36 c37 c38 c39 c40 c41 c42 c43 c44 c45 c46 c47 c48 c49 c50 c51 c52 c53 c54 c55 c56 c57 c58 c59 c60 c61 c62 c63 c64 c65 c66 c67 c68 c69 c70 c71 c72 c73 c74 c75 c76 c77 c78 c79 c80 c81 c82 c83 c84 c85 c86 c87 c88 c89 c90 c91 c92 c93 c94 c95 c96 c97 c98 c99 c100 c101 c102 c103 c104 c105 c106 c107 c108 c109 c110 : Value} (f : Ph) (P S E : Nat) (s : Sq) (p : Ps) (W0 w0 : World) (HSV : Hid (Sv f P S (P + 1) E s p W0 w0)) (m : Nat) (HX : Hid (∀ W, Calls Tryd.prog 14 #[.int .i64 f.b, .int .i64 4] W fun e w' => e = .returned (.int .i64 (m : Int)) ∧ W = w')) (HI : Hid (m < 4))
  (hout : ∀ (u63 u64 u65 u66 u67 u68 u69 : Value) (w9 : World), Sv f P S (P + 1) E { s with ord := ordN m } p W0 w9 → Q .normal ⟨List.toArray (c0 :: (.pointer (some ⟨P, 0, none⟩)) :: (.pointer (some ⟨P + 1, 0, none⟩)) :: (.pointer (some ⟨S, 0, none⟩)) :: c4 :: c5 :: c6 :: c7 :: c8 :: c9 :: c10 :: c11 :: c12 :: c13 :: c14 :: c15 :: c16 :: c17 :: c18 :: c19 :: c20 :: c21 :: c22 :: c23 :: c24 :: c25 :: c26 :: c27 :: c28 :: c29 :: c30 :: c31 :: c32 :: c33 :: c34 :: c35 :: c36 :: c37 :: c38 :: c39 :: c40 :: c41 :: c42 :: c43 :: c44 :: c45 :: c46 :: c47 :: c48 :: c49 :: c50 :: c51 :: c52 :: c53 :: c54 :: c55 :: c56 :: c57 :: c58 :: c59 :: c60 :: c61 :: c62 :: u63 :: u64 :: u65 :: u66 :: u67 :: u68 :: u69 :: c70 :: c71 :: c72 :: c73 :: c74 :: c75 :: c76 :: c77 :: c78 :: c79 :: c80 :: c81 :: c82 :: c83 :: c84 :: c85 :: c86 :: c87 :: c88 :: c89 :: c90 :: c91 :: c92 :: c93 :: c94 :: c95 :: c96 :: c97 :: c98 :: c99 :: c100 :: c101 :: c102 :: c103 :: c104 :: c105 :: c106 :: c107 :: c108 :: c109 :: c110 :: []), []⟩ w9) :
  Code.wp Tryd.prog ((regionOf 13 (Tryd.f9.body.getD .skip)).getD .skip) Q ⟨List.toArray (c0 :: (.pointer (some ⟨P, 0, none⟩)) :: (.pointer (some ⟨P + 1, 0, none⟩)) :: (.pointer (some ⟨S, 0, none⟩)) :: c4 :: c5 :: c6 :: c7 :: c8 :: c9 :: c10 :: c11 :: c12 :: c13 :: c14 :: c15 :: c16 :: c17 :: c18 :: c19 :: c20 :: c21 :: c22 :: c23 :: c24 :: c25 :: c26 :: c27 :: c28 :: c29 :: c30 :: c31 :: c32 :: c33 :: c34 :: c35 :: c36 :: c37 :: c38 :: c39 :: c40 :: c41 :: c42 :: c43 :: c44 :: c45 :: c46 :: c47 :: c48 :: c49 :: c50 :: c51 :: c52 :: c53 :: c54 :: c55 :: c56 :: c57 :: c58 :: c59 :: c60 :: c61 :: c62 :: c63 :: c64 :: c65 :: c66 :: c67 :: c68 :: c69 :: c70 :: c71 :: c72 :: c73 :: c74 :: c75 :: c76 :: c77 :: c78 :: c79 :: c80 :: c81 :: c82 :: c83 :: c84 :: c85 :: c86 :: c87 :: c88 :: c89 :: c90 :: c91 :: c92 :: c93 :: c94 :: c95 :: c96 :: c97 :: c98 :: c99 :: c100 :: c101 :: c102 :: c103 :: c104 :: c105 :: c106 :: c107 :: c108 :: c109 :: c110 :: []), []⟩ w0 := by
 conv => arg 2; whnf
 have HQ := hid hout
 clear hout
 obtain ⟨x0, x1, x2, x3, x4, x5, x6, x7, x8, x9, x10, x11, f0, f1, f2, f3, f4, f5, f6, f7, f8, f9, f10, f11⟩ := box12 HSV.out.bx
 obtain ⟨y0, y1, y2, y3, y4, y5, y6, y7, y8, y9, y10, y11, y12, y13⟩ := box14 HSV.out.ph
 (try dsimp only at x0 x1 x2 x3 x4 x5 x6 x7 x8 x9 x10 x11)
 have q3 : (w0.alloc (.cells #[.string ⟨#[]⟩, .string ⟨#[110]⟩, .string ⟨#[115]⟩, .string ⟨#[105, 100]⟩] 9)).cell? ⟨P, 3, none⟩ = some (.int .i64 f.b) := (((Below.refl _ w0).alloc (Nat.le_refl _) _).cell (p := ⟨P, 3, none⟩) (lt_cell y3)).trans y3
 go_wp2_with fail
 refine calls_nm (fun w7 hW => ?_)
 have hb7 : Below w0.heap.size w0 w7 := by rw [hW]; exact (Below.refl _ _).alloc (Nat.le_refl _) _
 have hn7 : w7.heap[w0.heap.size]? = some (.cells #[.string ⟨#[]⟩, .string ⟨#[110]⟩, .string ⟨#[115]⟩, .string ⟨#[105, 100]⟩] 9 (0, 0)) := by rw [hW]; exact new0 _ _
 have HS7 := hid (HSV.out.go hb7)
 have t0 := box4j hn7 HI.out
 have hm40 : (0 : Int) ≤ (m : Int) := by omega
 have hm44 : (m : Int) < 4 := by have := HI.out; omega
 clear hW hb7 hn7 HSV q3 x0 x1 x2 x3 x4 x5 x6 x7 x8 x9 x10 x11 f0 f1 f2 f3 f4 f5 f6 f7 f8 f9 f10 f11 y0 y1 y2 y3 y4 y5 y6 y7 y8 y9 y10 y11 y12 y13
 refine (HX.out _).mono ?_
 rintro e w8 ⟨rfl, rfl⟩
 obtain ⟨x0, x1, x2, x3, x4, x5, x6, x7, x8, x9, x10, x11, f0, f1, f2, f3, f4, f5, f6, f7, f8, f9, f10, f11⟩ := box12 HS7.out.bx
 obtain ⟨y0, y1, y2, y3, y4, y5, y6, y7, y8, y9, y10, y11, y12, y13⟩ := box14 HS7.out.ph
 (try dsimp only at x0 x1 x2 x3 x4 x5 x6 x7 x8 x9 x10 x11)
 go_wp2_with fail
 refine code_nm2 (fun w9 hW => ?_)
 refine HQ.out _ _ _ _ _ _ _ w9 ?_
 rw [hW]
 exact HS7.out.put (s' := { s with ord := ordN m }) (p' := p) 7 (.string (ordN m)) rfl ⟨HS7.out.ow.o2, HS7.out.ow.o3, HS7.out.ow.o4, HS7.out.ow.o6, HS7.out.ow.o11⟩
theorem sreg14 (Q : Exit → Act → World → Prop) {c0 c4 c5 c6 c7 c8 c9 c10 c11 c12 c13 c14 c15 c16 c17 c18 c19 c20 c21 c22 c23 c24 c25 c26 c27 c28 c29 c30 c31 c32 c33 c34 c35 c36 c37 c38 c39 c40 c41 c42 c43 c44 c45 c46 c47 c48 c49 c50 c51 c52 c53 c54 c55 c56 c57 c58 c59 c60 c61 c62 c63 c64 c65 c66 c67 c68 c69 c70 c71 c72 c73 c74 c75 c76 c77 c78 c79 c80 c81 c82 c83 c84 c85 c86 c87 c88 c89 c90 c91 c92 c93 c94 c95 c96 c97 c98 c99 c100 c101 c102 c103 c104 c105 c106 c107 c108 c109 c110 : Value} (f : Ph) (P S E : Nat) (s : Sq) (p : Ps) (W0 w0 : World) (HSV : Hid (Sv f P S (P + 1) E s p W0 w0)) (i : Nat) (HX : Hid (∀ W, Calls Tryd.prog 14 #[.int .i64 f.a, .int .i64 2] W fun e w' => e = .returned (.int .i64 (i : Int)) ∧ W = w')) (HO : Hid (s.ord = ⟨#[]⟩ ∨ s.ord.toList.isEmpty = false))
  (hout : ∀ (u70 u71 u72 u73 u74 u75 u76 u77 u78 u79 : Value) (db : Bool) (w9 : World), (s.ord = ⟨#[]⟩ → db = false) → Sv f P S (P + 1) E { s with dn := db } p W0 w9 → Q .normal ⟨List.toArray (c0 :: (.pointer (some ⟨P, 0, none⟩)) :: (.pointer (some ⟨P + 1, 0, none⟩)) :: (.pointer (some ⟨S, 0, none⟩)) :: c4 :: c5 :: c6 :: c7 :: c8 :: c9 :: c10 :: c11 :: c12 :: c13 :: c14 :: c15 :: c16 :: c17 :: c18 :: c19 :: c20 :: c21 :: c22 :: c23 :: c24 :: c25 :: c26 :: c27 :: c28 :: c29 :: c30 :: c31 :: c32 :: c33 :: c34 :: c35 :: c36 :: c37 :: c38 :: c39 :: c40 :: c41 :: c42 :: c43 :: c44 :: c45 :: c46 :: c47 :: c48 :: c49 :: c50 :: c51 :: c52 :: c53 :: c54 :: c55 :: c56 :: c57 :: c58 :: c59 :: c60 :: c61 :: c62 :: c63 :: c64 :: c65 :: c66 :: c67 :: c68 :: c69 :: u70 :: u71 :: u72 :: u73 :: u74 :: u75 :: u76 :: u77 :: u78 :: u79 :: c80 :: c81 :: c82 :: c83 :: c84 :: c85 :: c86 :: c87 :: c88 :: c89 :: c90 :: c91 :: c92 :: c93 :: c94 :: c95 :: c96 :: c97 :: c98 :: c99 :: c100 :: c101 :: c102 :: c103 :: c104 :: c105 :: c106 :: c107 :: c108 :: c109 :: c110 :: []), []⟩ w9) :
  Code.wp Tryd.prog ((regionOf 14 (Tryd.f9.body.getD .skip)).getD .skip) Q ⟨List.toArray (c0 :: (.pointer (some ⟨P, 0, none⟩)) :: (.pointer (some ⟨P + 1, 0, none⟩)) :: (.pointer (some ⟨S, 0, none⟩)) :: c4 :: c5 :: c6 :: c7 :: c8 :: c9 :: c10 :: c11 :: c12 :: c13 :: c14 :: c15 :: c16 :: c17 :: c18 :: c19 :: c20 :: c21 :: c22 :: c23 :: c24 :: c25 :: c26 :: c27 :: c28 :: c29 :: c30 :: c31 :: c32 :: c33 :: c34 :: c35 :: c36 :: c37 :: c38 :: c39 :: c40 :: c41 :: c42 :: c43 :: c44 :: c45 :: c46 :: c47 :: c48 :: c49 :: c50 :: c51 :: c52 :: c53 :: c54 :: c55 :: c56 :: c57 :: c58 :: c59 :: c60 :: c61 :: c62 :: c63 :: c64 :: c65 :: c66 :: c67 :: c68 :: c69 :: c70 :: c71 :: c72 :: c73 :: c74 :: c75 :: c76 :: c77 :: c78 :: c79 :: c80 :: c81 :: c82 :: c83 :: c84 :: c85 :: c86 :: c87 :: c88 :: c89 :: c90 :: c91 :: c92 :: c93 :: c94 :: c95 :: c96 :: c97 :: c98 :: c99 :: c100 :: c101 :: c102 :: c103 :: c104 :: c105 :: c106 :: c107 :: c108 :: c109 :: c110 :: []), []⟩ w0 := by
 conv => arg 2; whnf
 have HQ := hid hout
 clear hout
 obtain ⟨x0, x1, x2, x3, x4, x5, x6, x7, x8, x9, x10, x11, f0, f1, f2, f3, f4, f5, f6, f7, f8, f9, f10, f11⟩ := box12 HSV.out.bx
 obtain ⟨y0, y1, y2, y3, y4, y5, y6, y7, y8, y9, y10, y11, y12, y13⟩ := box14 HSV.out.ph
 (try dsimp only at x0 x1 x2 x3 x4 x5 x6 x7 x8 x9 x10 x11)
 rcases HO.out with ho | ho
 ·rw [ho] at x7
  go_wp2_with fail
  refine code_nm2 (fun w9 hW => ?_)
  refine HQ.out _ _ _ _ _ _ _ _ _ _ false w9 (fun _ => rfl) ?_
  rw [hW]
  exact HSV.out.put (s' := { s with dn := false }) (p' := p) 8 (.bool false) rfl ⟨HSV.out.ow.o2, HSV.out.ow.o3, HSV.out.ow.o4, HSV.out.ow.o6, HSV.out.ow.o11⟩
 ·go_wp2_with fail
  refine (HX.out _).mono ?_
  rintro e wz ⟨rfl, rfl⟩
  obtain ⟨db, hdb⟩ : ∃ b, b = ((i : Int) == 1) := ⟨_, rfl⟩
  go_wp2_with fail
  refine code_nm2 (fun w9 hW => ?_)
  (try rw [← hdb] at hW)
  refine HQ.out _ _ _ _ _ _ _ _ _ _ db w9 (fun e => by rw [e, show (⟨#[]⟩ : ByteArray).toList.isEmpty = true from em0] at ho; cases ho) ?_
  rw [hW]
  exact HSV.out.put (s' := { s with dn := db }) (p' := p) 8 (.bool db) rfl ⟨HSV.out.ow.o2, HSV.out.ow.o3, HSV.out.ow.o4, HSV.out.ow.o6, HSV.out.ow.o11⟩
theorem sreg15 (Q : Exit → Act → World → Prop) {c0 c4 c5 c6 c7 c8 c9 c10 c11 c12 c13 c14 c15 c16 c17 c18 c19 c20 c21 c22 c23 c24 c25 c26 c27 c28 c29 c30 c31 c32 c33 c34 c35 c36 c37 c38 c39 c40 c41 c42 c43 c44 c45 c46 c47 c48 c49 c50 c51 c52 c53 c54 c55 c56 c57 c58 c59 c60 c61 c62 c63 c64 c65 c66 c67 c68 c69 c70 c71 c72 c73 c74 c75 c76 c77 c78 c79 c80 c81 c82 c83 c84 c85 c86 c87 c88 c89 c90 c91 c92 c93 c94 c95 c96 c97 c98 c99 c100 c101 c102 c103 c104 c105 c106 c107 c108 c109 c110 : Value} (f : Ph) (P S E : Nat) (s : Sq) (p : Ps) (W0 w0 : World) (HSV : Hid (Sv f P S (P + 1) E s p W0 w0)) (i : Nat) (HX : Hid (∀ W, Calls Tryd.prog 14 #[.int .i64 f.a, .int .i64 9] W fun e w' => e = .returned (.int .i64 (i : Int)) ∧ W = w')) (HI : Hid (i < 9))
  (hout : ∀ (u80 u81 u82 u83 u84 : Value) (w9 : World), Sv f P S (P + 1) E { s with lim := (i : Int) - 1 } p W0 w9 → Q .normal ⟨List.toArray (c0 :: (.pointer (some ⟨P, 0, none⟩)) :: (.pointer (some ⟨P + 1, 0, none⟩)) :: (.pointer (some ⟨S, 0, none⟩)) :: c4 :: c5 :: c6 :: c7 :: c8 :: c9 :: c10 :: c11 :: c12 :: c13 :: c14 :: c15 :: c16 :: c17 :: c18 :: c19 :: c20 :: c21 :: c22 :: c23 :: c24 :: c25 :: c26 :: c27 :: c28 :: c29 :: c30 :: c31 :: c32 :: c33 :: c34 :: c35 :: c36 :: c37 :: c38 :: c39 :: c40 :: c41 :: c42 :: c43 :: c44 :: c45 :: c46 :: c47 :: c48 :: c49 :: c50 :: c51 :: c52 :: c53 :: c54 :: c55 :: c56 :: c57 :: c58 :: c59 :: c60 :: c61 :: c62 :: c63 :: c64 :: c65 :: c66 :: c67 :: c68 :: c69 :: c70 :: c71 :: c72 :: c73 :: c74 :: c75 :: c76 :: c77 :: c78 :: c79 :: u80 :: u81 :: u82 :: u83 :: u84 :: c85 :: c86 :: c87 :: c88 :: c89 :: c90 :: c91 :: c92 :: c93 :: c94 :: c95 :: c96 :: c97 :: c98 :: c99 :: c100 :: c101 :: c102 :: c103 :: c104 :: c105 :: c106 :: c107 :: c108 :: c109 :: c110 :: []), []⟩ w9) :
  Code.wp Tryd.prog ((regionOf 15 (Tryd.f9.body.getD .skip)).getD .skip) Q ⟨List.toArray (c0 :: (.pointer (some ⟨P, 0, none⟩)) :: (.pointer (some ⟨P + 1, 0, none⟩)) :: (.pointer (some ⟨S, 0, none⟩)) :: c4 :: c5 :: c6 :: c7 :: c8 :: c9 :: c10 :: c11 :: c12 :: c13 :: c14 :: c15 :: c16 :: c17 :: c18 :: c19 :: c20 :: c21 :: c22 :: c23 :: c24 :: c25 :: c26 :: c27 :: c28 :: c29 :: c30 :: c31 :: c32 :: c33 :: c34 :: c35 :: c36 :: c37 :: c38 :: c39 :: c40 :: c41 :: c42 :: c43 :: c44 :: c45 :: c46 :: c47 :: c48 :: c49 :: c50 :: c51 :: c52 :: c53 :: c54 :: c55 :: c56 :: c57 :: c58 :: c59 :: c60 :: c61 :: c62 :: c63 :: c64 :: c65 :: c66 :: c67 :: c68 :: c69 :: c70 :: c71 :: c72 :: c73 :: c74 :: c75 :: c76 :: c77 :: c78 :: c79 :: c80 :: c81 :: c82 :: c83 :: c84 :: c85 :: c86 :: c87 :: c88 :: c89 :: c90 :: c91 :: c92 :: c93 :: c94 :: c95 :: c96 :: c97 :: c98 :: c99 :: c100 :: c101 :: c102 :: c103 :: c104 :: c105 :: c106 :: c107 :: c108 :: c109 :: c110 :: []), []⟩ w0 := by
 conv => arg 2; whnf
 have HQ := hid hout
 clear hout
 obtain ⟨x0, x1, x2, x3, x4, x5, x6, x7, x8, x9, x10, x11, f0, f1, f2, f3, f4, f5, f6, f7, f8, f9, f10, f11⟩ := box12 HSV.out.bx
 obtain ⟨y0, y1, y2, y3, y4, y5, y6, y7, y8, y9, y10, y11, y12, y13⟩ := box14 HSV.out.ph
 (try dsimp only at x0 x1 x2 x3 x4 x5 x6 x7 x8 x9 x10 x11)
 have hi90 : (0 : Int) ≤ (i : Int) := by omega
 have hi99 : (i : Int) < 9 := by have := HI.out; omega
 go_wp2_with fail
 refine (HX.out _).mono ?_
 rintro e wz ⟨rfl, rfl⟩
 go_wp2_with fail
 refine code_nm2 (fun w9 hW => ?_)
 refine HQ.out _ _ _ _ _ w9 ?_
 rw [hW]
 exact HSV.out.put (s' := { s with lim := (i : Int) - 1 }) (p' := p) 9 (.int .i64 ((i : Int) - 1)) rfl ⟨HSV.out.ow.o2, HSV.out.ow.o3, HSV.out.ow.o4, HSV.out.ow.o6, HSV.out.ow.o11⟩
open Go.Proofs.YtdeollmeljaaoaaDoor.cs Go.Proofs.YtdeollmeljaaoaaDoor.tw
def setN (i : Nat) : ByteArray := if i = 2 then ⟨#[115]⟩ else if i = 3 then ⟨#[98]⟩ else if i = 4 then ⟨#[105, 100]⟩ else ⟨#[110]⟩
theorem set_nm {i : Nat} (h : i < 5) : nmF (setN i).data.toList = 0 := by
 match i, h with
 | 0, _ => decide
 | 1, _ => decide
 | 2, _ => decide
 | 3, _ => decide
 | 4, _ => decide
theorem box5j {w : World} {B i : Nat} {T : TypeId} (h : w.heap[B]? = some (.cells #[.string ⟨#[110]⟩, .string ⟨#[110]⟩, .string ⟨#[115]⟩, .string ⟨#[98]⟩, .string ⟨#[105, 100]⟩] T (0, 0))) (hi : i < 5) : w.cell? ⟨B, i, none⟩ = some (.string (setN i)) := by
 match i, hi with
 | 0, _ => simp only [World.cell?]; rw [h]; rfl
 | 1, _ => simp only [World.cell?]; rw [h]; rfl
 | 2, _ => simp only [World.cell?]; rw [h]; rfl
 | 3, _ => simp only [World.cell?]; rw [h]; rfl
 | 4, _ => simp only [World.cell?]; rw [h]; rfl
theorem upd_ok {u : ByteArray} {l m : List Oq} (hu : nmF u.data.toList = 0) (h : Whl l) (hl : l.length ≤ 15) (hm : whF m = 0) : f3 (nmF u.data.toList) (exprF l) (whF m) = 0 := by
 unfold f3
 rw [hu, (whl_all h hl).1, hm]
 simp
theorem stmt6 (w : World) (f : Ph) (hf : PhR w f) (hc : pck f.kd 6 = 5) : Calls Tryd.prog 9 #[phV f] w (StmtIs w) := by
 have HF := hid hf
 have HP : Hid (∀ (x m : Int) (W : World), Rn x → 1 ≤ m → m ≤ 12 → Calls Tryd.prog 14 #[.int .i64 x, .int .i64 m] W fun e w' => e = .returned (.int .i64 (pck x m)) ∧ W = w') := fun x m W h h1 h2 => pck_any x m W h h1 (by omega)
 have HPK : Hid (∀ W, Calls Tryd.prog 14 #[.int .i64 f.kd, .int .i64 6] W fun e w' => e = .returned (.int .i64 5) ∧ W = w') := fun W => by
  have := HP.out f.kd 6 W HF.out.kd (by omega) (by omega)
  rwa [hc] at this
 have hj := pck_in f.tb 2 (by omega)
 obtain ⟨j, hjj⟩ : ∃ j : Nat, (j : Int) = pck f.tb 2 := ⟨(pck f.tb 2).toNat, by omega⟩
 have HPT : Hid (∀ W, Calls Tryd.prog 14 #[.int .i64 f.tb, .int .i64 2] W fun e w' => e = .returned (.int .i64 (j : Int)) ∧ W = w') := fun W => by
  have := HP.out f.tb 2 W HF.out.tb (by omega) (by omega)
  rwa [← hjj] at this
 have HJ : Hid (j < 2) := by show _ < _; omega
 have HTB : Hid (nmF (tbN j).data.toList = 0) := tb_nm HJ.out
 have HW0 : Hid (∀ W, W = (w.alloc (.cells (phC f) 27)).alloc (.cells (stC ⟨0, ⟨#[]⟩, [], [], [], false, [], ⟨#[]⟩, false, 0, ⟨#[]⟩, []⟩ ps0) 33) → Below w.heap.size w W ∧ W.heap[w.heap.size]? = some (.cells (phC f) 27 (0, 0)) ∧ W.heap[w.heap.size + 1]? = some (.cells (stC ⟨0, ⟨#[]⟩, [], [], [], false, [], ⟨#[]⟩, false, 0, ⟨#[]⟩, []⟩ ps0) 33 (0, 0)) ∧ W.heap.size = w.heap.size + 1 + 1) := fun W h => by
  rw [h]
  exact ⟨((Below.refl _ _).alloc (Nat.le_refl _) _).alloc (by simp) _, (Below.heap_alloc _ _ _ (by simp)).trans (new0 _ _), new1 _ _ _, by simp⟩
 clear hf hc hj hjj
 go_enter Tryd.func9, Tryd.ntmps9
 go_upto_region 1 with (fail)
 refine code_nm (fun w1 hW => ?_)
 obtain ⟨hb1, hp1, hr1, hz1⟩ := HW0.out w1 hW
 obtain ⟨P, hP⟩ : ∃ P, P = w.heap.size := ⟨_, rfl⟩
 have HPL : Hid (w.heap.size ≤ P) := by show _ ≤ _; omega
 rw [← hP] at hp1 hr1 hz1 ⊢
 have HB1 := hid (And.intro hb1 (And.intro hr1 (And.intro hz1 HPL.out)))
 have HPW : Hid (Pw f P w1 w1) := ⟨hp1, Below.refl _ _⟩
 clear hW hb1 hp1 hr1 hz1 hP HW0
 change Code.wp _ ((regionOf 1 (Tryd.f9.body.getD .skip)).getD .skip) _ _ _
 refine sreg1 _ f P j 5 w1 HPW (hid ⟨by omega, HJ.out⟩) HPK HPT (hid fun u4 u5 u6 u7 u8 u9 u10 u11 u12 u13 u14 S w2 hp hs hS => ?_)
 have HSV : Hid (Sv f P S (P + 1) w2.heap.size ⟨6, tbN j, [], [], [], false, [], ⟨#[]⟩, false, -1, ⟨#[]⟩, []⟩ ⟨none, 0, 0, none, 0, 0, none, 0, 0, none, 0, 0, none, 0, 0⟩ w w2) := by
  obtain ⟨g1, g2, g3, g4⟩ := HB1.out
  have hl := blk_lt hs
  have hz := hp.2.size
  exact ⟨hp.1, hs, (hp.2.block _ (blk_lt g2)).trans g2, StO.nil, g1.trans (hp.2.mono (by omega)), ⟨by omega, by omega, by omega⟩, ⟨by omega, by omega, by omega⟩, hl, by omega, Nat.le_refl _⟩
 obtain ⟨E, hE⟩ : ∃ E, E = w2.heap.size := ⟨_, rfl⟩
 rw [← hE] at HSV
 have HFW : Hid (∀ W, Below w.heap.size w W → PhR W f) := fun W h => HF.out.below h
 clear hp hs hS hE HB1 HPW HPK HPT HPL HF
 obtain ⟨x0, x1, x2, x3, x4, x5, x6, x7, x8, x9, x10, x11, f0, f1, f2, f3, f4, f5, f6, f7, f8, f9, f10, f11⟩ := box12 HSV.out.bx
 obtain ⟨y0, y1, y2, y3, y4, y5, y6, y7, y8, y9, y10, y11, y12, y13⟩ := box14 HSV.out.ph
 (try dsimp only at x0 x1 x2 x3 x4 x5 x6 x7 x8 x9 x10 x11)
 go_upto_region 19 with (fail)
 cases hbr : f.br with
 | true =>
  rw [hbr] at y13
  go_upto_region 21 with (fail)
  clear x0 x1 x2 x3 x4 x5 x6 x7 x8 x9 x10 x11 f0 f1 f2 f3 f4 f5 f6 f7 f8 f9 f10 f11 y0 y1 y2 y3 y4 y5 y6 y7 y8 y9 y10 y11 y12 y13
  change Code.wp _ ((regionOf 21 (Tryd.f9.body.getD .skip)).getD .skip) _ _ _
  refine sreg21 _ f P S E _ _ w _ HSV (fun v w9 h9 => ?_)
  have HE := hid h9
  clear h9
  rename_i hK
  refine hK _ _ (wp_ret ?_)
  exact fin_ok HSV HE.out (few_w (st0_of (show (1 : Int) ≤ 6 by decide) (show (6 : Int) ≤ 9 by decide) HTB.out rfl (by unfold moreF; simp [em0])) vb_nil wf_nil wf_nil (show (-1 : Int) ≤ 9223372036854775807 by decide)) rfl rfl
 | false =>
  rw [hbr] at y13
  go_upto_region 20 with (fail)
  clear x0 x1 x2 x3 x4 x5 x6 x7 x8 x9 x10 x11 f0 f1 f2 f3 f4 f5 f6 f7 f8 f9 f10 f11 y0 y1 y2 y3 y4 y5 y6 y7 y8 y9 y10 y11 y12 y13
  change Code.wp _ ((regionOf 20 (Tryd.f9.body.getD .skip)).getD .skip) _ _ _
  refine sreg20 _ f P S E _ _ w _ HSV HFW (fun u106 u107 u108 u109 lb a6 c6 wd hwb hlb hsd => ?_)
  dsimp only at hsd
  have HSd := hid hsd
  have HWb := hid (And.intro hwb hlb)
  clear hwb hlb hsd
  go_upto_region 21 with (fail)
  change Code.wp _ ((regionOf 21 (Tryd.f9.body.getD .skip)).getD .skip) _ _ _
  refine sreg21 _ f P S E _ _ w _ HSd (fun v w9 h9 => ?_)
  have HE := hid h9
  clear h9
  rename_i hK
  refine hK _ _ (wp_ret ?_)
  exact fin_ok HSd HE.out (few_w (st0_of (show (1 : Int) ≤ 6 by decide) (show (6 : Int) ≤ 9 by decide) HTB.out (whl_wh HWb.out.1 HWb.out.2) (by unfold moreF; simp [em0])) vb_nil (whl_wf HWb.out.1) wf_nil (show (-1 : Int) ≤ 9223372036854775807 by decide)) rfl rfl
theorem stmt5 (w : World) (f : Ph) (hf : PhR w f) (hc : pck f.kd 6 = 4) : Calls Tryd.prog 9 #[phV f] w (StmtIs w) := by
 have HF := hid hf
 have HP : Hid (∀ (x m : Int) (W : World), Rn x → 1 ≤ m → m ≤ 12 → Calls Tryd.prog 14 #[.int .i64 x, .int .i64 m] W fun e w' => e = .returned (.int .i64 (pck x m)) ∧ W = w') := fun x m W h h1 h2 => pck_any x m W h h1 (by omega)
 have HPK : Hid (∀ W, Calls Tryd.prog 14 #[.int .i64 f.kd, .int .i64 6] W fun e w' => e = .returned (.int .i64 4) ∧ W = w') := fun W => by
  have := HP.out f.kd 6 W HF.out.kd (by omega) (by omega)
  rwa [hc] at this
 have hj := pck_in f.tb 2 (by omega)
 obtain ⟨j, hjj⟩ : ∃ j : Nat, (j : Int) = pck f.tb 2 := ⟨(pck f.tb 2).toNat, by omega⟩
 have HPT : Hid (∀ W, Calls Tryd.prog 14 #[.int .i64 f.tb, .int .i64 2] W fun e w' => e = .returned (.int .i64 (j : Int)) ∧ W = w') := fun W => by
  have := HP.out f.tb 2 W HF.out.tb (by omega) (by omega)
  rwa [← hjj] at this
 have HJ : Hid (j < 2) := by show _ < _; omega
 have HTB : Hid (nmF (tbN j).data.toList = 0) := tb_nm HJ.out
 have HW0 : Hid (∀ W, W = (w.alloc (.cells (phC f) 27)).alloc (.cells (stC ⟨0, ⟨#[]⟩, [], [], [], false, [], ⟨#[]⟩, false, 0, ⟨#[]⟩, []⟩ ps0) 33) → Below w.heap.size w W ∧ W.heap[w.heap.size]? = some (.cells (phC f) 27 (0, 0)) ∧ W.heap[w.heap.size + 1]? = some (.cells (stC ⟨0, ⟨#[]⟩, [], [], [], false, [], ⟨#[]⟩, false, 0, ⟨#[]⟩, []⟩ ps0) 33 (0, 0)) ∧ W.heap.size = w.heap.size + 1 + 1) := fun W h => by
  rw [h]
  exact ⟨((Below.refl _ _).alloc (Nat.le_refl _) _).alloc (by simp) _, (Below.heap_alloc _ _ _ (by simp)).trans (new0 _ _), new1 _ _ _, by simp⟩
 have hi := pck_in f.a 5 (by omega)
 obtain ⟨i, hii⟩ : ∃ i : Nat, (i : Int) = pck f.a 5 := ⟨(pck f.a 5).toNat, by omega⟩
 have HX1 : Hid (∀ W, Calls Tryd.prog 14 #[.int .i64 f.a, .int .i64 5] W fun e w' => e = .returned (.int .i64 (i : Int)) ∧ W = w') := fun W => by
  have := HP.out f.a 5 W hf.a (by omega) (by omega)
  rwa [← hii] at this
 have HI : Hid (i < 5) := by show _ < _; omega
 clear hf hc hj hjj hi hii
 go_enter Tryd.func9, Tryd.ntmps9
 go_upto_region 1 with (fail)
 refine code_nm (fun w1 hW => ?_)
 obtain ⟨hb1, hp1, hr1, hz1⟩ := HW0.out w1 hW
 obtain ⟨P, hP⟩ : ∃ P, P = w.heap.size := ⟨_, rfl⟩
 have HPL : Hid (w.heap.size ≤ P) := by show _ ≤ _; omega
 rw [← hP] at hp1 hr1 hz1 ⊢
 have HB1 := hid (And.intro hb1 (And.intro hr1 (And.intro hz1 HPL.out)))
 have HPW : Hid (Pw f P w1 w1) := ⟨hp1, Below.refl _ _⟩
 clear hW hb1 hp1 hr1 hz1 hP HW0
 change Code.wp _ ((regionOf 1 (Tryd.f9.body.getD .skip)).getD .skip) _ _ _
 refine sreg1 _ f P j 4 w1 HPW (hid ⟨by omega, HJ.out⟩) HPK HPT (hid fun u4 u5 u6 u7 u8 u9 u10 u11 u12 u13 u14 S w2 hp hs hS => ?_)
 have HSV : Hid (Sv f P S (P + 1) w2.heap.size ⟨5, tbN j, [], [], [], false, [], ⟨#[]⟩, false, -1, ⟨#[]⟩, []⟩ ⟨none, 0, 0, none, 0, 0, none, 0, 0, none, 0, 0, none, 0, 0⟩ w w2) := by
  obtain ⟨g1, g2, g3, g4⟩ := HB1.out
  have hl := blk_lt hs
  have hz := hp.2.size
  exact ⟨hp.1, hs, (hp.2.block _ (blk_lt g2)).trans g2, StO.nil, g1.trans (hp.2.mono (by omega)), ⟨by omega, by omega, by omega⟩, ⟨by omega, by omega, by omega⟩, hl, by omega, Nat.le_refl _⟩
 obtain ⟨E, hE⟩ : ∃ E, E = w2.heap.size := ⟨_, rfl⟩
 rw [← hE] at HSV
 have HFW : Hid (∀ W, Below w.heap.size w W → PhR W f) := fun W h => HF.out.below h
 clear hp hs hS hE HB1 HPW HPK HPT HPL HF
 obtain ⟨x0, x1, x2, x3, x4, x5, x6, x7, x8, x9, x10, x11, f0, f1, f2, f3, f4, f5, f6, f7, f8, f9, f10, f11⟩ := box12 HSV.out.bx
 obtain ⟨y0, y1, y2, y3, y4, y5, y6, y7, y8, y9, y10, y11, y12, y13⟩ := box14 HSV.out.ph
 (try dsimp only at x0 x1 x2 x3 x4 x5 x6 x7 x8 x9 x10 x11)
 go_upto_region 17 with (fail)
 have q2 : (w2.alloc (.cells #[.string ⟨#[110]⟩, .string ⟨#[110]⟩, .string ⟨#[115]⟩, .string ⟨#[98]⟩, .string ⟨#[105, 100]⟩] 9)).cell? ⟨P, 2, none⟩ = some (.int .i64 f.a) := (((Below.refl _ w2).alloc (Nat.le_refl _) _).cell (p := ⟨P, 2, none⟩) (lt_cell y2)).trans y2
 go_wp2_with fail
 refine calls_nm (fun w3 hW => ?_)
 have hb3 : Below w2.heap.size w2 w3 := by rw [hW]; exact (Below.refl _ _).alloc (Nat.le_refl _) _
 have hn3 : w3.heap[w2.heap.size]? = some (.cells #[.string ⟨#[110]⟩, .string ⟨#[110]⟩, .string ⟨#[115]⟩, .string ⟨#[98]⟩, .string ⟨#[105, 100]⟩] 9 (0, 0)) := by rw [hW]; exact new0 _ _
 have HS3 := hid (HSV.out.go hb3)
 have t0 := box5j hn3 HI.out
 have hi0 : (0 : Int) ≤ (i : Int) := by omega
 have hi5 : (i : Int) < 5 := by have := HI.out; omega
 clear hW hb3 hn3 HSV q2 x0 x1 x2 x3 x4 x5 x6 x7 x8 x9 x10 x11 f0 f1 f2 f3 f4 f5 f6 f7 f8 f9 f10 f11 y0 y1 y2 y3 y4 y5 y6 y7 y8 y9 y10 y11 y12 y13
 refine (HX1.out _).mono ?_
 rintro e w4 ⟨rfl, rfl⟩
 obtain ⟨x0, x1, x2, x3, x4, x5, x6, x7, x8, x9, x10, x11, f0, f1, f2, f3, f4, f5, f6, f7, f8, f9, f10, f11⟩ := box12 HS3.out.bx
 obtain ⟨y0, y1, y2, y3, y4, y5, y6, y7, y8, y9, y10, y11, y12, y13⟩ := box14 HS3.out.ph
 (try dsimp only at x0 x1 x2 x3 x4 x5 x6 x7 x8 x9 x10 x11)
 go_upto_region 18 with (fail)
 refine code_nm (fun w4 hW => ?_)
 have HS4 : Hid (Sv f P S (P + 1) E ⟨5, tbN j, [], [], [], false, [], ⟨#[]⟩, false, -1, setN i, []⟩ ⟨none, 0, 0, none, 0, 0, none, 0, 0, none, 0, 0, none, 0, 0⟩ w w4) := by
  rw [hW]
  exact HS3.out.put (s' := ⟨5, tbN j, [], [], [], false, [], ⟨#[]⟩, false, -1, setN i, []⟩) (p' := ⟨none, 0, 0, none, 0, 0, none, 0, 0, none, 0, 0, none, 0, 0⟩) 10 (.string (setN i)) rfl StO.nil
 clear hW HS3 t0 x0 x1 x2 x3 x4 x5 x6 x7 x8 x9 x10 x11 f0 f1 f2 f3 f4 f5 f6 f7 f8 f9 f10 f11 y0 y1 y2 y3 y4 y5 y6 y7 y8 y9 y10 y11 y12 y13
 obtain ⟨x0, x1, x2, x3, x4, x5, x6, x7, x8, x9, x10, x11, f0, f1, f2, f3, f4, f5, f6, f7, f8, f9, f10, f11⟩ := box12 HS4.out.bx
 obtain ⟨y0, y1, y2, y3, y4, y5, y6, y7, y8, y9, y10, y11, y12, y13⟩ := box14 HS4.out.ph
 (try dsimp only at x0 x1 x2 x3 x4 x5 x6 x7 x8 x9 x10 x11)
 have HO := hid (fun W (hW : Below w.heap.size w W) => ops_any3 W f.tk f.tn f.ts f.ta f.tm f.tc (HFW.out W hW).tk (HFW.out W hW).tn (HFW.out W hW).ts (HFW.out W hW).ti)
 go_wp2_with fail
 refine (HO.out _ HS4.out.hb).mono ?_
 rintro e w5 ⟨v, l, rfl, hwl, hll, hol, hbl⟩
 have HS5 := hid (HS4.out.go hbl)
 have HO5 := hid (own_mono hol HS4.out.wf.2.2.2.2)
 have HWL := hid (And.intro hwl hll)
 obtain ⟨a, c, hv⟩ : ∃ a c, v = .slice a l.length c := own_shape hol
 subst hv
 clear hwl hll hol hbl HO HS4 x0 x1 x2 x3 x4 x5 x6 x7 x8 x9 x10 x11 f0 f1 f2 f3 f4 f5 f6 f7 f8 f9 f10 f11 y0 y1 y2 y3 y4 y5 y6 y7 y8 y9 y10 y11 y12 y13
 obtain ⟨x0, x1, x2, x3, x4, x5, x6, x7, x8, x9, x10, x11, f0, f1, f2, f3, f4, f5, f6, f7, f8, f9, f10, f11⟩ := box12 HS5.out.bx
 obtain ⟨y0, y1, y2, y3, y4, y5, y6, y7, y8, y9, y10, y11, y12, y13⟩ := box14 HS5.out.ph
 (try dsimp only at x0 x1 x2 x3 x4 x5 x6 x7 x8 x9 x10 x11)
 go_upto_region 19 with (fail)
 refine code_nm (fun w6 hW => ?_)
 have HS6 : Hid (Sv f P S (P + 1) E ⟨5, tbN j, [], [], [], false, [], ⟨#[]⟩, false, -1, setN i, l⟩ ⟨none, 0, 0, none, 0, 0, none, 0, 0, none, 0, 0, a, l.length, c⟩ w w6) := by
  rw [hW]
  exact HS5.out.put (s' := ⟨5, tbN j, [], [], [], false, [], ⟨#[]⟩, false, -1, setN i, l⟩) (p' := ⟨none, 0, 0, none, 0, 0, none, 0, 0, none, 0, 0, a, l.length, c⟩) 11 (.slice a l.length c) rfl ⟨own_nil _ _, own_nil _ _, own_nil _ _, own_nil _ _, HO5.out⟩
 clear hW HS5 HO5 x0 x1 x2 x3 x4 x5 x6 x7 x8 x9 x10 x11 f0 f1 f2 f3 f4 f5 f6 f7 f8 f9 f10 f11 y0 y1 y2 y3 y4 y5 y6 y7 y8 y9 y10 y11 y12 y13
 obtain ⟨x0, x1, x2, x3, x4, x5, x6, x7, x8, x9, x10, x11, f0, f1, f2, f3, f4, f5, f6, f7, f8, f9, f10, f11⟩ := box12 HS6.out.bx
 obtain ⟨y0, y1, y2, y3, y4, y5, y6, y7, y8, y9, y10, y11, y12, y13⟩ := box14 HS6.out.ph
 (try dsimp only at x0 x1 x2 x3 x4 x5 x6 x7 x8 x9 x10 x11)
 cases hbr : f.br with
 | true =>
  rw [hbr] at y13
  go_upto_region 21 with (fail)
  clear x0 x1 x2 x3 x4 x5 x6 x7 x8 x9 x10 x11 f0 f1 f2 f3 f4 f5 f6 f7 f8 f9 f10 f11 y0 y1 y2 y3 y4 y5 y6 y7 y8 y9 y10 y11 y12 y13
  change Code.wp _ ((regionOf 21 (Tryd.f9.body.getD .skip)).getD .skip) _ _ _
  refine sreg21 _ f P S E _ _ w _ HS6 (fun v w9 h9 => ?_)
  have HE := hid h9
  clear h9
  rename_i hK
  refine hK _ _ (wp_ret ?_)
  exact fin_ok HS6 HE.out (few_w (st0_of (show (1 : Int) ≤ 5 by decide) (show (5 : Int) ≤ 9 by decide) HTB.out (upd_ok (set_nm HI.out) HWL.out.1 HWL.out.2 rfl) (by unfold moreF; simp [em0])) vb_nil wf_nil (whl_wf HWL.out.1) (show (-1 : Int) ≤ 9223372036854775807 by decide)) rfl rfl
 | false =>
  rw [hbr] at y13
  go_upto_region 20 with (fail)
  clear x0 x1 x2 x3 x4 x5 x6 x7 x8 x9 x10 x11 f0 f1 f2 f3 f4 f5 f6 f7 f8 f9 f10 f11 y0 y1 y2 y3 y4 y5 y6 y7 y8 y9 y10 y11 y12 y13
  change Code.wp _ ((regionOf 20 (Tryd.f9.body.getD .skip)).getD .skip) _ _ _
  refine sreg20 _ f P S E _ _ w _ HS6 HFW (fun u106 u107 u108 u109 lb a6 c6 wd hwb hlb hsd => ?_)
  dsimp only at hsd
  have HSd := hid hsd
  have HWb := hid (And.intro hwb hlb)
  clear hwb hlb hsd
  go_upto_region 21 with (fail)
  change Code.wp _ ((regionOf 21 (Tryd.f9.body.getD .skip)).getD .skip) _ _ _
  refine sreg21 _ f P S E _ _ w _ HSd (fun v w9 h9 => ?_)
  have HE := hid h9
  clear h9
  rename_i hK
  refine hK _ _ (wp_ret ?_)
  exact fin_ok HSd HE.out (few_w (st0_of (show (1 : Int) ≤ 5 by decide) (show (5 : Int) ≤ 9 by decide) HTB.out (upd_ok (set_nm HI.out) HWL.out.1 HWL.out.2 (whl_wh HWb.out.1 HWb.out.2)) (by unfold moreF; simp [em0])) vb_nil (whl_wf HWb.out.1) (whl_wf HWL.out.1) (show (-1 : Int) ≤ 9223372036854775807 by decide)) rfl rfl
end Go.Proofs.YtdeollmeljaaoaaDoor.rd

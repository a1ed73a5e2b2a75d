import Derived.Test.YtnheepkmaibofaaDoorRnk
import Derived.Test.YtnheepkmaibofaaDoorRmk
import Derived.Test.YtnheepkmaibofaaDoorCuk
import Derived.Test.YtnheepkmaibofaaDoorCpk
/- What a statement lacks, what it is shown as: the document's face. -/
namespace Go.Proofs.YtnheepkmaibofaaDoor.cs
open Go.ChangeShapes Go.WideShapes Go.ChangeAt Go.RowKit
set_option linter.unusedVariables false
set_option linter.unusedSimpArgs false
set_option maxHeartbeats 8000000
set_option maxRecDepth 1000000
def r12B (k : Int) (T : ByteArray) (n2 n3 : Nat) : Bool := (decide (7 ≤ k) && !T.toList.isEmpty) || (!(k == 1) && decide (0 < n2)) || (!(k == 3) && decide (0 < n3))
def r14B (pk up : Bool) (n4 : Nat) (cnt : Bool) (O : ByteArray) (dn : Bool) (lim : Int) (S : ByteArray) (n11 : Nat) : Bool := (!pk && (decide (0 < n4) || cnt || !O.toList.isEmpty || dn || !(lim == -1))) || (!up && (!S.toList.isEmpty || decide (0 < n11)))
def r16B (pk up : Bool) (k : Int) (n6 : Nat) : Bool := !pk && !up && !(k == 6) && decide (0 < n6)
theorem sf12 (Q : Exit → Act → World → Prop) (c0 c2 c3 c4 c5 c6 c7 c8 c9 c10 c11 c12 c13 c14 c15 c16 c17 c18 c19 c20 c21 c22 c23 c24 c25 c26 c27 c28 c29 c30 c31 c32 c33 c34 c35 c36 c37 c38 c39 c40 c41 c42 c43 c44 c45 c46 c47 c48 c49 c50 c51 c52 c53 c54 c55 c56 c57 c58 c59 c60 c61 c62 c63 c64 c65 c66 c67 c68 c69 c70 c71 c72 c73 c74 c75 c76 c77 c78 c79 c80 c81 c82 c83 c84 c85 c86 c87 c88 c89 c90 c91 c92 c93 c94 c95 c96 c97 c98 c99 c100 c101 c102 c103 c104 c105 c106 c107 c108 c109 c110 c111 c112 c113 c114 c115 c116 c117 c118 c119 c120 : Value) (w0 : World) (P : Nat) (k : Int) (T O S : ByteArray) (cnt dn : Bool) (lim : Int) (a2 : Option Addr) (n2 d2 : Nat) (a3 : Option Addr) (n3 d3 : Nat) (a4 : Option Addr) (n4 d4 : Nat) (a6 : Option Addr) (n6 d6 : Nat) (a11 : Option Addr) (n11 d11 : Nat)  (b : Bool)
    (hblk : w0.heap[P]? = some (.cells #[.int .i64 k, .string T, .slice a2 n2 d2, .slice a3 n3 d3, .slice a4 n4 d4, .bool cnt, .slice a6 n6 d6, .string O, .bool dn, .int .i64 lim, .string S, .slice a11 n11 d11] 27 (0, 0))) (hb : b = r12B k T n2 n3)
    (hout : Hid (∀ (u29 u30 u31 u32 u33 u34 u35 u36 u37 u38 u39 u40 u41 u42 u43 u44 u45 u46 u47 u48 u49 u50 u51 u52 u53 u54 u55 u56 u57 : Value), Q .normal ⟨List.toArray (c0 :: (.pointer (some ⟨P, 0, none⟩)) :: c2 :: c3 :: c4 :: c5 :: c6 :: c7 :: c8 :: c9 :: c10 :: c11 :: c12 :: c13 :: c14 :: c15 :: c16 :: c17 :: c18 :: c19 :: c20 :: c21 :: c22 :: c23 :: c24 :: c25 :: c26 :: c27 :: c28 :: u29 :: u30 :: u31 :: u32 :: u33 :: u34 :: u35 :: u36 :: u37 :: u38 :: u39 :: u40 :: u41 :: u42 :: u43 :: u44 :: u45 :: u46 :: u47 :: u48 :: u49 :: u50 :: u51 :: u52 :: u53 :: u54 :: u55 :: u56 :: u57 :: (.bool b) :: c59 :: c60 :: c61 :: c62 :: c63 :: c64 :: c65 :: c66 :: c67 :: c68 :: c69 :: c70 :: c71 :: c72 :: c73 :: c74 :: c75 :: c76 :: c77 :: c78 :: c79 :: c80 :: c81 :: c82 :: c83 :: c84 :: c85 :: c86 :: c87 :: c88 :: c89 :: c90 :: c91 :: c92 :: c93 :: c94 :: c95 :: c96 :: c97 :: c98 :: c99 :: c100 :: c101 :: c102 :: c103 :: c104 :: c105 :: c106 :: c107 :: c108 :: c109 :: c110 :: c111 :: c112 :: c113 :: c114 :: c115 :: c116 :: c117 :: c118 :: c119 :: c120 :: []), []⟩ w0)) :
    Code.wp Tryd.prog ((regionOf 12 (Tryd.f8.body.getD .skip)).getD .skip) Q ⟨List.toArray (c0 :: (.pointer (some ⟨P, 0, none⟩)) :: c2 :: c3 :: c4 :: c5 :: c6 :: c7 :: c8 :: c9 :: c10 :: c11 :: c12 :: c13 :: c14 :: c15 :: c16 :: c17 :: c18 :: c19 :: c20 :: c21 :: c22 :: c23 :: c24 :: c25 :: c26 :: c27 :: c28 :: c29 :: c30 :: c31 :: c32 :: c33 :: c34 :: c35 :: c36 :: c37 :: c38 :: c39 :: c40 :: c41 :: c42 :: c43 :: c44 :: c45 :: c46 :: c47 :: c48 :: c49 :: c50 :: c51 :: c52 :: c53 :: c54 :: c55 :: c56 :: c57 :: c58 :: c59 :: c60 :: c61 :: c62 :: c63 :: c64 :: c65 :: c66 :: c67 :: c68 :: c69 :: c70 :: c71 :: c72 :: c73 :: c74 :: c75 :: c76 :: c77 :: c78 :: c79 :: c80 :: c81 :: c82 :: c83 :: c84 :: c85 :: c86 :: c87 :: c88 :: c89 :: c90 :: c91 :: c92 :: c93 :: c94 :: c95 :: c96 :: c97 :: c98 :: c99 :: c100 :: c101 :: c102 :: c103 :: c104 :: c105 :: c106 :: c107 :: c108 :: c109 :: c110 :: c111 :: c112 :: c113 :: c114 :: c115 :: c116 :: c117 :: c118 :: c119 :: c120 :: []), []⟩ w0 := by
  have z0 : w0.cell? ⟨P, 0, none⟩ = some (.int .i64 k) := by simp [World.cell?, hblk]
  have z1 : w0.cell? ⟨P, 1, none⟩ = some (.string T) := by simp [World.cell?, hblk]
  have z2 : w0.cell? ⟨P, 2, none⟩ = some (.slice a2 n2 d2) := by simp [World.cell?, hblk]
  have z3 : w0.cell? ⟨P, 3, none⟩ = some (.slice a3 n3 d3) := by simp [World.cell?, hblk]
  have HB : Hid (b = r12B k T n2 n3) := hb
  clear hblk hb
  conv => arg 2; whnf
  by_cases hk7 : 7 ≤ k
  · skip
    cases eT : T.toList.isEmpty
    · skip
      obtain rfl : b = true := by
        rw [HB.out]
        simp [r12B, r14B, r16B, hk7, eT] <;> omega
      clear HB
      go_wp2_with fail
      exact hout.out _ _ _ _ _ _ _ _ _ _ _ _ _ _ _ _ _ _ _ _ _ _ _ _ _ _ _ _ _
    · skip
      by_cases qk1 : k = 1
      · exfalso
        omega
      · have qk1e : (k == 1) = false := by simpa using qk1
        have qk1n : (k != 1) = true := by simpa using qk1
        by_cases pn2 : 0 < n2
        · have in2 : (0 : Int) < (n2 : Int) := by omega
          obtain rfl : b = true := by
            rw [HB.out]
            simp [r12B, r14B, r16B, hk7, eT, qk1, pn2] <;> omega
          clear HB
          go_wp2_with fail
          exact hout.out _ _ _ _ _ _ _ _ _ _ _ _ _ _ _ _ _ _ _ _ _ _ _ _ _ _ _ _ _
        · have in2 : ¬ (0 : Int) < (n2 : Int) := by omega
          by_cases qk3 : k = 3
          · exfalso
            omega
          · have qk3e : (k == 3) = false := by simpa using qk3
            have qk3n : (k != 3) = true := by simpa using qk3
            by_cases pn3 : 0 < n3
            · have in3 : (0 : Int) < (n3 : Int) := by omega
              obtain rfl : b = true := by
                rw [HB.out]
                simp [r12B, r14B, r16B, hk7, eT, qk1, pn2, qk3, pn3] <;> omega
              clear HB
              go_wp2_with fail
              exact hout.out _ _ _ _ _ _ _ _ _ _ _ _ _ _ _ _ _ _ _ _ _ _ _ _ _ _ _ _ _
            · have in3 : ¬ (0 : Int) < (n3 : Int) := by omega
              obtain rfl : b = false := by
                rw [HB.out]
                simp [r12B, r14B, r16B, hk7, eT, qk1, pn2, qk3, pn3] <;> omega
              clear HB
              go_wp2_with fail
              exact hout.out _ _ _ _ _ _ _ _ _ _ _ _ _ _ _ _ _ _ _ _ _ _ _ _ _ _ _ _ _
  · skip
    by_cases qk1 : k = 1
    · subst qk1
      by_cases pn3 : 0 < n3
      · have in3 : (0 : Int) < (n3 : Int) := by omega
        obtain rfl : b = true := by
          rw [HB.out]
          simp [r12B, r14B, r16B, hk7, pn3] <;> omega
        clear HB
        go_wp2_with fail
        exact hout.out _ _ _ _ _ _ _ _ _ _ _ _ _ _ _ _ _ _ _ _ _ _ _ _ _ _ _ _ _
      · have in3 : ¬ (0 : Int) < (n3 : Int) := by omega
        obtain rfl : b = false := by
          rw [HB.out]
          simp [r12B, r14B, r16B, hk7, pn3] <;> omega
        clear HB
        go_wp2_with fail
        exact hout.out _ _ _ _ _ _ _ _ _ _ _ _ _ _ _ _ _ _ _ _ _ _ _ _ _ _ _ _ _
    · have qk1e : (k == 1) = false := by simpa using qk1
      have qk1n : (k != 1) = true := by simpa using qk1
      by_cases pn2 : 0 < n2
      · have in2 : (0 : Int) < (n2 : Int) := by omega
        obtain rfl : b = true := by
          rw [HB.out]
          simp [r12B, r14B, r16B, hk7, qk1, pn2] <;> omega
        clear HB
        go_wp2_with fail
        exact hout.out _ _ _ _ _ _ _ _ _ _ _ _ _ _ _ _ _ _ _ _ _ _ _ _ _ _ _ _ _
      · have in2 : ¬ (0 : Int) < (n2 : Int) := by omega
        by_cases qk3 : k = 3
        · subst qk3
          obtain rfl : b = false := by
            rw [HB.out]
            simp [r12B, r14B, r16B, hk7, qk1, pn2] <;> omega
          clear HB
          go_wp2_with fail
          exact hout.out _ _ _ _ _ _ _ _ _ _ _ _ _ _ _ _ _ _ _ _ _ _ _ _ _ _ _ _ _
        · have qk3e : (k == 3) = false := by simpa using qk3
          have qk3n : (k != 3) = true := by simpa using qk3
          by_cases pn3 : 0 < n3
          · have in3 : (0 : Int) < (n3 : Int) := by omega
            obtain rfl : b = true := by
              rw [HB.out]
              simp [r12B, r14B, r16B, hk7, qk1, pn2, qk3, pn3] <;> omega
            clear HB
            go_wp2_with fail
            exact hout.out _ _ _ _ _ _ _ _ _ _ _ _ _ _ _ _ _ _ _ _ _ _ _ _ _ _ _ _ _
          · have in3 : ¬ (0 : Int) < (n3 : Int) := by omega
            obtain rfl : b = false := by
              rw [HB.out]
              simp [r12B, r14B, r16B, hk7, qk1, pn2, qk3, pn3] <;> omega
            clear HB
            go_wp2_with fail
            exact hout.out _ _ _ _ _ _ _ _ _ _ _ _ _ _ _ _ _ _ _ _ _ _ _ _ _ _ _ _ _
theorem sf14 (Q : Exit → Act → World → Prop) (c0 c2 c3 c6 c7 c8 c9 c10 c11 c12 c13 c14 c15 c16 c17 c18 c19 c20 c21 c22 c23 c24 c25 c26 c27 c28 c29 c30 c31 c32 c33 c34 c35 c36 c37 c38 c39 c40 c41 c42 c43 c44 c45 c46 c47 c48 c49 c50 c51 c52 c53 c54 c55 c56 c57 c58 c59 c60 c61 c62 c63 c64 c65 c66 c67 c68 c69 c70 c71 c72 c73 c74 c75 c76 c77 c78 c79 c80 c81 c82 c83 c84 c85 c86 c87 c88 c89 c90 c91 c92 c93 c94 c95 c96 c97 c98 c99 c100 c101 c102 c103 c104 c105 c106 c107 c108 c109 c110 c111 c112 c113 c114 c115 c116 c117 c118 c119 c120 : Value) (w0 : World) (P : Nat) (k : Int) (T O S : ByteArray) (cnt dn : Bool) (lim : Int) (a2 : Option Addr) (n2 d2 : Nat) (a3 : Option Addr) (n3 d3 : Nat) (a4 : Option Addr) (n4 d4 : Nat) (a6 : Option Addr) (n6 d6 : Nat) (a11 : Option Addr) (n11 d11 : Nat) (pk up : Bool) (b : Bool)
    (hblk : w0.heap[P]? = some (.cells #[.int .i64 k, .string T, .slice a2 n2 d2, .slice a3 n3 d3, .slice a4 n4 d4, .bool cnt, .slice a6 n6 d6, .string O, .bool dn, .int .i64 lim, .string S, .slice a11 n11 d11] 27 (0, 0))) (hb : b = r14B pk up n4 cnt O dn lim S n11)
    (hout : Hid (∀ (u59 u60 u61 u62 u63 u64 u65 u66 u67 u68 u69 u70 u71 u72 u73 u74 u75 u76 u77 u78 u79 u80 u81 u82 u83 u84 u85 u86 u87 u88 u89 u90 u91 u92 u93 u94 u95 u96 u97 u98 : Value), Q .normal ⟨List.toArray (c0 :: (.pointer (some ⟨P, 0, none⟩)) :: c2 :: c3 :: (.bool pk) :: (.bool up) :: c6 :: c7 :: c8 :: c9 :: c10 :: c11 :: c12 :: c13 :: c14 :: c15 :: c16 :: c17 :: c18 :: c19 :: c20 :: c21 :: c22 :: c23 :: c24 :: c25 :: c26 :: c27 :: c28 :: c29 :: c30 :: c31 :: c32 :: c33 :: c34 :: c35 :: c36 :: c37 :: c38 :: c39 :: c40 :: c41 :: c42 :: c43 :: c44 :: c45 :: c46 :: c47 :: c48 :: c49 :: c50 :: c51 :: c52 :: c53 :: c54 :: c55 :: c56 :: c57 :: c58 :: u59 :: u60 :: u61 :: u62 :: u63 :: u64 :: u65 :: u66 :: u67 :: u68 :: u69 :: u70 :: u71 :: u72 :: u73 :: u74 :: u75 :: u76 :: u77 :: u78 :: u79 :: u80 :: u81 :: u82 :: u83 :: u84 :: u85 :: u86 :: u87 :: u88 :: u89 :: u90 :: u91 :: u92 :: u93 :: u94 :: u95 :: u96 :: u97 :: u98 :: (.bool b) :: c100 :: c101 :: c102 :: c103 :: c104 :: c105 :: c106 :: c107 :: c108 :: c109 :: c110 :: c111 :: c112 :: c113 :: c114 :: c115 :: c116 :: c117 :: c118 :: c119 :: c120 :: []), []⟩ w0)) :
    Code.wp Tryd.prog ((regionOf 14 (Tryd.f8.body.getD .skip)).getD .skip) Q ⟨List.toArray (c0 :: (.pointer (some ⟨P, 0, none⟩)) :: c2 :: c3 :: (.bool pk) :: (.bool up) :: c6 :: c7 :: c8 :: c9 :: c10 :: c11 :: c12 :: c13 :: c14 :: c15 :: c16 :: c17 :: c18 :: c19 :: c20 :: c21 :: c22 :: c23 :: c24 :: c25 :: c26 :: c27 :: c28 :: c29 :: c30 :: c31 :: c32 :: c33 :: c34 :: c35 :: c36 :: c37 :: c38 :: c39 :: c40 :: c41 :: c42 :: c43 :: c44 :: c45 :: c46 :: c47 :: c48 :: c49 :: c50 :: c51 :: c52 :: c53 :: c54 :: c55 :: c56 :: c57 :: c58 :: c59 :: c60 :: c61 :: c62 :: c63 :: c64 :: c65 :: c66 :: c67 :: c68 :: c69 :: c70 :: c71 :: c72 :: c73 :: c74 :: c75 :: c76 :: c77 :: c78 :: c79 :: c80 :: c81 :: c82 :: c83 :: c84 :: c85 :: c86 :: c87 :: c88 :: c89 :: c90 :: c91 :: c92 :: c93 :: c94 :: c95 :: c96 :: c97 :: c98 :: c99 :: c100 :: c101 :: c102 :: c103 :: c104 :: c105 :: c106 :: c107 :: c108 :: c109 :: c110 :: c111 :: c112 :: c113 :: c114 :: c115 :: c116 :: c117 :: c118 :: c119 :: c120 :: []), []⟩ w0 := by
  have z4 : w0.cell? ⟨P, 4, none⟩ = some (.slice a4 n4 d4) := by simp [World.cell?, hblk]
  have z5 : w0.cell? ⟨P, 5, none⟩ = some (.bool cnt) := by simp [World.cell?, hblk]
  have z7 : w0.cell? ⟨P, 7, none⟩ = some (.string O) := by simp [World.cell?, hblk]
  have z8 : w0.cell? ⟨P, 8, none⟩ = some (.bool dn) := by simp [World.cell?, hblk]
  have z9 : w0.cell? ⟨P, 9, none⟩ = some (.int .i64 lim) := by simp [World.cell?, hblk]
  have z10 : w0.cell? ⟨P, 10, none⟩ = some (.string S) := by simp [World.cell?, hblk]
  have z11 : w0.cell? ⟨P, 11, none⟩ = some (.slice a11 n11 d11) := by simp [World.cell?, hblk]
  have HB : Hid (b = r14B pk up n4 cnt O dn lim S n11) := hb
  clear hblk hb
  conv => arg 2; whnf
  cases pk
  · skip
    by_cases pn4 : 0 < n4
    · have in4 : (0 : Int) < (n4 : Int) := by omega
      obtain rfl : b = true := by
        rw [HB.out]
        simp [r12B, r14B, r16B, pn4] <;> omega
      clear HB
      go_wp2_with fail
      exact hout.out _ _ _ _ _ _ _ _ _ _ _ _ _ _ _ _ _ _ _ _ _ _ _ _ _ _ _ _ _ _ _ _ _ _ _ _ _ _ _ _
    · have in4 : ¬ (0 : Int) < (n4 : Int) := by omega
      cases cnt
      · skip
        cases eO : O.toList.isEmpty
        · skip
          obtain rfl : b = true := by
            rw [HB.out]
            simp [r12B, r14B, r16B, pn4, eO] <;> omega
          clear HB
          go_wp2_with fail
          exact hout.out _ _ _ _ _ _ _ _ _ _ _ _ _ _ _ _ _ _ _ _ _ _ _ _ _ _ _ _ _ _ _ _ _ _ _ _ _ _ _ _
        · skip
          cases dn
          · skip
            by_cases qlimm1 : lim = -1
            · subst qlimm1
              cases up
              · skip
                cases eS : S.toList.isEmpty
                · skip
                  obtain rfl : b = true := by
                    rw [HB.out]
                    simp [r12B, r14B, r16B, pn4, eO, eS] <;> omega
                  clear HB
                  go_wp2_with fail
                  exact hout.out _ _ _ _ _ _ _ _ _ _ _ _ _ _ _ _ _ _ _ _ _ _ _ _ _ _ _ _ _ _ _ _ _ _ _ _ _ _ _ _
                · skip
                  by_cases pn11 : 0 < n11
                  · have in11 : (0 : Int) < (n11 : Int) := by omega
                    obtain rfl : b = true := by
                      rw [HB.out]
                      simp [r12B, r14B, r16B, pn4, eO, eS, pn11] <;> omega
                    clear HB
                    go_wp2_with fail
                    exact hout.out _ _ _ _ _ _ _ _ _ _ _ _ _ _ _ _ _ _ _ _ _ _ _ _ _ _ _ _ _ _ _ _ _ _ _ _ _ _ _ _
                  · have in11 : ¬ (0 : Int) < (n11 : Int) := by omega
                    obtain rfl : b = false := by
                      rw [HB.out]
                      simp [r12B, r14B, r16B, pn4, eO, eS, pn11] <;> omega
                    clear HB
                    go_wp2_with fail
                    exact hout.out _ _ _ _ _ _ _ _ _ _ _ _ _ _ _ _ _ _ _ _ _ _ _ _ _ _ _ _ _ _ _ _ _ _ _ _ _ _ _ _
              · skip
                obtain rfl : b = false := by
                  rw [HB.out]
                  simp [r12B, r14B, r16B, pn4, eO] <;> omega
                clear HB
                go_wp2_with fail
                exact hout.out _ _ _ _ _ _ _ _ _ _ _ _ _ _ _ _ _ _ _ _ _ _ _ _ _ _ _ _ _ _ _ _ _ _ _ _ _ _ _ _
            · have qlimm1e : (lim == -1) = false := by simpa using qlimm1
              have qlimm1n : (lim != -1) = true := by simpa using qlimm1
              obtain rfl : b = true := by
                rw [HB.out]
                simp [r12B, r14B, r16B, pn4, eO, qlimm1] <;> omega
              clear HB
              go_wp2_with fail
              exact hout.out _ _ _ _ _ _ _ _ _ _ _ _ _ _ _ _ _ _ _ _ _ _ _ _ _ _ _ _ _ _ _ _ _ _ _ _ _ _ _ _
          · skip
            obtain rfl : b = true := by
              rw [HB.out]
              simp [r12B, r14B, r16B, pn4, eO] <;> omega
            clear HB
            go_wp2_with fail
            exact hout.out _ _ _ _ _ _ _ _ _ _ _ _ _ _ _ _ _ _ _ _ _ _ _ _ _ _ _ _ _ _ _ _ _ _ _ _ _ _ _ _
      · skip
        obtain rfl : b = true := by
          rw [HB.out]
          simp [r12B, r14B, r16B, pn4] <;> omega
        clear HB
        go_wp2_with fail
        exact hout.out _ _ _ _ _ _ _ _ _ _ _ _ _ _ _ _ _ _ _ _ _ _ _ _ _ _ _ _ _ _ _ _ _ _ _ _ _ _ _ _
  · skip
    cases up
    · skip
      cases eS : S.toList.isEmpty
      · skip
        obtain rfl : b = true := by
          rw [HB.out]
          simp [r12B, r14B, r16B, eS] <;> omega
        clear HB
        go_wp2_with fail
        exact hout.out _ _ _ _ _ _ _ _ _ _ _ _ _ _ _ _ _ _ _ _ _ _ _ _ _ _ _ _ _ _ _ _ _ _ _ _ _ _ _ _
      · skip
        by_cases pn11 : 0 < n11
        · have in11 : (0 : Int) < (n11 : Int) := by omega
          obtain rfl : b = true := by
            rw [HB.out]
            simp [r12B, r14B, r16B, eS, pn11] <;> omega
          clear HB
          go_wp2_with fail
          exact hout.out _ _ _ _ _ _ _ _ _ _ _ _ _ _ _ _ _ _ _ _ _ _ _ _ _ _ _ _ _ _ _ _ _ _ _ _ _ _ _ _
        · have in11 : ¬ (0 : Int) < (n11 : Int) := by omega
          obtain rfl : b = false := by
            rw [HB.out]
            simp [r12B, r14B, r16B, eS, pn11] <;> omega
          clear HB
          go_wp2_with fail
          exact hout.out _ _ _ _ _ _ _ _ _ _ _ _ _ _ _ _ _ _ _ _ _ _ _ _ _ _ _ _ _ _ _ _ _ _ _ _ _ _ _ _
    · skip
      obtain rfl : b = false := by
        rw [HB.out]
        simp [r12B, r14B, r16B] <;> omega
      clear HB
      go_wp2_with fail
      exact hout.out _ _ _ _ _ _ _ _ _ _ _ _ _ _ _ _ _ _ _ _ _ _ _ _ _ _ _ _ _ _ _ _ _ _ _ _ _ _ _ _
theorem sf16 (Q : Exit → Act → World → Prop) (c0 c2 c3 c6 c7 c8 c9 c10 c11 c12 c13 c14 c15 c16 c17 c18 c19 c20 c21 c22 c23 c24 c25 c26 c27 c28 c29 c30 c31 c32 c33 c34 c35 c36 c37 c38 c39 c40 c41 c42 c43 c44 c45 c46 c47 c48 c49 c50 c51 c52 c53 c54 c55 c56 c57 c58 c59 c60 c61 c62 c63 c64 c65 c66 c67 c68 c69 c70 c71 c72 c73 c74 c75 c76 c77 c78 c79 c80 c81 c82 c83 c84 c85 c86 c87 c88 c89 c90 c91 c92 c93 c94 c95 c96 c97 c98 c99 c100 c101 c102 c103 c104 c105 c106 c107 c108 c109 c110 c111 c112 c113 c114 c115 c116 c117 c118 c119 c120 : Value) (w0 : World) (P : Nat) (k : Int) (T O S : ByteArray) (cnt dn : Bool) (lim : Int) (a2 : Option Addr) (n2 d2 : Nat) (a3 : Option Addr) (n3 d3 : Nat) (a4 : Option Addr) (n4 d4 : Nat) (a6 : Option Addr) (n6 d6 : Nat) (a11 : Option Addr) (n11 d11 : Nat) (pk up : Bool) (b : Bool)
    (hblk : w0.heap[P]? = some (.cells #[.int .i64 k, .string T, .slice a2 n2 d2, .slice a3 n3 d3, .slice a4 n4 d4, .bool cnt, .slice a6 n6 d6, .string O, .bool dn, .int .i64 lim, .string S, .slice a11 n11 d11] 27 (0, 0))) (hb : b = r16B pk up k n6)
    (hout : Hid (∀ (u100 u101 u102 u103 u104 u105 u106 u107 u108 u109 u110 u111 u112 u113 u114 u115 : Value), Q .normal ⟨List.toArray (c0 :: (.pointer (some ⟨P, 0, none⟩)) :: c2 :: c3 :: (.bool pk) :: (.bool up) :: c6 :: c7 :: c8 :: c9 :: c10 :: c11 :: c12 :: c13 :: c14 :: c15 :: c16 :: c17 :: c18 :: c19 :: c20 :: c21 :: c22 :: c23 :: c24 :: c25 :: c26 :: c27 :: c28 :: c29 :: c30 :: c31 :: c32 :: c33 :: c34 :: c35 :: c36 :: c37 :: c38 :: c39 :: c40 :: c41 :: c42 :: c43 :: c44 :: c45 :: c46 :: c47 :: c48 :: c49 :: c50 :: c51 :: c52 :: c53 :: c54 :: c55 :: c56 :: c57 :: c58 :: c59 :: c60 :: c61 :: c62 :: c63 :: c64 :: c65 :: c66 :: c67 :: c68 :: c69 :: c70 :: c71 :: c72 :: c73 :: c74 :: c75 :: c76 :: c77 :: c78 :: c79 :: c80 :: c81 :: c82 :: c83 :: c84 :: c85 :: c86 :: c87 :: c88 :: c89 :: c90 :: c91 :: c92 :: c93 :: c94 :: c95 :: c96 :: c97 :: c98 :: c99 :: u100 :: u101 :: u102 :: u103 :: u104 :: u105 :: u106 :: u107 :: u108 :: u109 :: u110 :: u111 :: u112 :: u113 :: u114 :: u115 :: (.bool b) :: c117 :: c118 :: c119 :: c120 :: []), []⟩ w0)) :
    Code.wp Tryd.prog ((regionOf 16 (Tryd.f8.body.getD .skip)).getD .skip) Q ⟨List.toArray (c0 :: (.pointer (some ⟨P, 0, none⟩)) :: c2 :: c3 :: (.bool pk) :: (.bool up) :: c6 :: c7 :: c8 :: c9 :: c10 :: c11 :: c12 :: c13 :: c14 :: c15 :: c16 :: c17 :: c18 :: c19 :: c20 :: c21 :: c22 :: c23 :: c24 :: c25 :: c26 :: c27 :: c28 :: c29 :: c30 :: c31 :: c32 :: c33 :: c34 :: c35 :: c36 :: c37 :: c38 :: c39 :: c40 :: c41 :: c42 :: c43 :: c44 :: c45 :: c46 :: c47 :: c48 :: c49 :: c50 :: c51 :: c52 :: c53 :: c54 :: c55 :: c56 :: c57 :: c58 :: c59 :: c60 :: c61 :: c62 :: c63 :: c64 :: c65 :: c66 :: c67 :: c68 :: c69 :: c70 :: c71 :: c72 :: c73 :: c74 :: c75 :: c76 :: c77 :: c78 :: c79 :: c80 :: c81 :: c82 :: c83 :: c84 :: c85 :: c86 :: c87 :: c88 :: c89 :: c90 :: c91 :: c92 :: c93 :: c94 :: c95 :: c96 :: c97 :: c98 :: c99 :: c100 :: c101 :: c102 :: c103 :: c104 :: c105 :: c106 :: c107 :: c108 :: c109 :: c110 :: c111 :: c112 :: c113 :: c114 :: c115 :: c116 :: c117 :: c118 :: c119 :: c120 :: []), []⟩ w0 := by
  have z0 : w0.cell? ⟨P, 0, none⟩ = some (.int .i64 k) := by simp [World.cell?, hblk]
  have z6 : w0.cell? ⟨P, 6, none⟩ = some (.slice a6 n6 d6) := by simp [World.cell?, hblk]
  have HB : Hid (b = r16B pk up k n6) := hb
  clear hblk hb
  conv => arg 2; whnf
  cases pk
  · skip
    cases up
    · skip
      by_cases qk6 : k = 6
      · subst qk6
        obtain rfl : b = false := by
          rw [HB.out]
          simp [r12B, r14B, r16B] <;> omega
        clear HB
        go_wp2_with fail
        exact hout.out _ _ _ _ _ _ _ _ _ _ _ _ _ _ _ _
      · have qk6e : (k == 6) = false := by simpa using qk6
        have qk6n : (k != 6) = true := by simpa using qk6
        by_cases pn6 : 0 < n6
        · have in6 : (0 : Int) < (n6 : Int) := by omega
          obtain rfl : b = true := by
            rw [HB.out]
            simp [r12B, r14B, r16B, qk6, pn6] <;> omega
          clear HB
          go_wp2_with fail
          exact hout.out _ _ _ _ _ _ _ _ _ _ _ _ _ _ _ _
        · have in6 : ¬ (0 : Int) < (n6 : Int) := by omega
          obtain rfl : b = false := by
            rw [HB.out]
            simp [r12B, r14B, r16B, qk6, pn6] <;> omega
          clear HB
          go_wp2_with fail
          exact hout.out _ _ _ _ _ _ _ _ _ _ _ _ _ _ _ _
    · skip
      obtain rfl : b = false := by
        rw [HB.out]
        simp [r12B, r14B, r16B] <;> omega
      clear HB
      go_wp2_with fail
      exact hout.out _ _ _ _ _ _ _ _ _ _ _ _ _ _ _ _
  · skip
    obtain rfl : b = false := by
      rw [HB.out]
      simp [r12B, r14B, r16B] <;> omega
    clear HB
    go_wp2_with fail
    exact hout.out _ _ _ _ _ _ _ _ _ _ _ _ _ _ _ _
theorem more_parts (s : Sq) (h9 : s.k ≤ 9) : moreF s = (r12B s.k s.t s.cols.length s.row.length || r14B (s.k == 4) (s.k == 5) s.names.length s.cnt s.ord s.dn s.lim s.st s.to.length || r16B (s.k == 4) (s.k == 5) s.k s.wh.length) := by
  obtain ⟨k, t, cols, row, names, cnt, wh, ord, dn, lim, st, to⟩ := s
  unfold moreF r12B r14B r16B em
  simp only
  have e : decide (6 < k) = decide (7 ≤ k) := by
    rw [Bool.eq_iff_iff]
    simp
    omega
  rw [e]
  generalize decide (7 ≤ k) = y0, t.toList.isEmpty = y1, (k == 1) = y2, (k == 3) = y3, (k == 4) = y4, (k == 5) = y5, (k == 6) = y6, decide (0 < cols.length) = y7, decide (0 < row.length) = y8, decide (0 < names.length) = y9, ord.toList.isEmpty = y10, (lim == -1) = y11, st.toList.isEmpty = y12, decide (0 < to.length) = y13, decide (0 < wh.length) = y14
  clear e
  cases y4 <;> cases y5 <;> simp [Bool.or_assoc]
theorem dtoks_any (w : World) (s : Sq) (p : Ps) (hr : StR w s p) (h0 : st0 s = 0) (hz : SqZ s) :
    Calls Tryd.prog 27 #[stV s p] w (ToksIs (shT s) w) := by
  obtain ⟨h1, h9, ht, hp, hm⟩ := st0_ok h0
  obtain ⟨qt, qe, qh, qx, qr⟩ := sh_ok h0 hz
  obtain ⟨l2, l3, l4, l6, l11⟩ := hr.lens
  obtain ⟨k, t, cols, row, names, cnt, wh, ord, dn, lim, st, to⟩ := s
  obtain ⟨a2, n2, c2, a3, n3, c3, a4, n4, c4, a6, n6, c6, a11, n11, c11⟩ := p
  obtain ⟨r2, r3, r4, r6, r11⟩ := hr
  simp only at h1 h9 qt qe qh qx qr l2 l3 l4 l6 l11 r2 r3 r4 r6 r11
  unfold tabF at ht
  unfold partsF at hp
  simp only at ht hp
  have hk : k = 1 ∨ k = 2 ∨ k = 3 ∨ k = 4 ∨ k = 5 ∨ k = 6 ∨ k = 7 ∨ k = 8 ∨ k = 9 := by omega
  rcases hk with rfl | rfl | rfl | rfl | rfl | rfl | rfl | rfl | rfl
  · have hp : colsF cols = 0 := hp
    obtain ⟨g1, g2, g3⟩ := colsF_ok hp
    exact stok_create w t ht a2 n2 c2 cols (by omega) (by omega) r2 g1 row names cnt wh ord dn lim st to a3 n3 c3 a4 n4 c4 a6 n6 c6 a11 n11 c11
  · exact stok_drop w t cols row names cnt wh ord dn lim st to a2 n2 c2 a3 n3 c3 a4 n4 c4 a6 n6 c6 a11 n11 c11 ht
  · have hp : insF row = 0 := hp
    have hin : 1 ≤ row.length ∧ row.length ≤ 6 := by
      unfold insF at hp
      split at hp <;> omega
    exact stok_insert w t cols row names cnt wh ord dn lim st to a2 n2 c2 a3 n3 c3 a4 n4 c4 a6 n6 c6 a11 n11 c11 ht (by omega) (by omega) r3 qr
  · exact stok_select w t cols row names cnt wh ord dn lim st to a2 n2 c2 a3 n3 c3 a4 n4 c4 a6 n6 c6 a11 n11 c11 ht hp r4 r6 qh
  · have hp : f3 (nmF st.data.toList) (exprF to) (whF wh) = 0 := hp
    obtain ⟨g1, g2, g3⟩ := f3_zero hp
    exact stok_update w t cols row names cnt wh ord dn lim st to a2 n2 c2 a3 n3 c3 a4 n4 c4 a6 n6 c6 a11 n11 c11 ht g1 g2 g3 r6 r11 qh qx
  · exact stok_delete w t cols row names cnt wh ord dn lim st to a2 n2 c2 a3 n3 c3 a4 n4 c4 a6 n6 c6 a11 n11 c11 ht hp r6 qh
  · exact stok_begin w t cols row names cnt wh ord dn lim st to a2 n2 c2 a3 n3 c3 a4 n4 c4 a6 n6 c6 a11 n11 c11
  · exact stok_commit w t cols row names cnt wh ord dn lim st to a2 n2 c2 a3 n3 c3 a4 n4 c4 a6 n6 c6 a11 n11 c11
  · exact stok_roll w t cols row names cnt wh ord dn lim st to a2 n2 c2 a3 n3 c3 a4 n4 c4 a6 n6 c6 a11 n11 c11
theorem dfault_any (w : World) (s : Sq) (p : Ps) (hr : StR w s p) (hz : SqZ s) :
    Calls Tryd.prog 8 #[stV s p] w fun e w' => e = .returned (.int .i64 (stF s)) ∧ Below w.heap.size w w' := by
  obtain ⟨l2, l3, l4, l6, l11⟩ := hr.lens
  have HPT : Hid (∀ W, Below w.heap.size w W → Calls Tryd.prog 26 #[stV s p] W fun e w' => e = .returned (.int .i64 (partsF s)) ∧ Below W.heap.size W w') := fun W hW => dparts_any W s p (hr.below hW) hz
  have HNM := Lib.hid (fun W => nameFault_any W s.t hz.t)
  have HSH : Hid (st0 s = 0 → (∀ W, Below w.heap.size w W → Calls Tryd.prog 27 #[stV s p] W (ToksIs (shT s) W)) ∧ (shT s).length ≤ 400) := fun h0 => by
    obtain ⟨h1, h9, ht, hp, hm⟩ := st0_ok h0
    exact ⟨fun W hW => dtoks_any W s p (hr.below hW) h0 hz, shT_len hp⟩
  have hmp := more_parts s
  have h0 : st0 s = if s.k < 1 ∨ 9 < s.k then 2 else f3 (if s.k ≤ 6 then nmF s.t.data.toList else 0) (partsF s) (if moreF s = true then 6 else 0) := rfl
  have hF : stF s = if st0 s ≠ 0 then st0 s else if 100 < (shT s).length then 10 else 0 := rfl
  obtain ⟨W0, hW0⟩ : ∃ W0, W0 = w.alloc (.cells (stC s p) 27) := ⟨_, rfl⟩
  have HWE := Lib.hid hW0
  have HNW : Hid (∀ w1, Below W0.heap.size W0 w1 → StB w1 w.heap.size s p ∧ w1.heap[w.heap.size]? = some (.cells (stC s p) 27 (0, 0))) := fun w1 hb => by
    have h1 := StB.new w s p (w1 := w1)
    rw [← hW0] at h1
    refine ⟨h1 hb, ?_⟩
    have h2 := new0 w (.cells (stC s p) 27)
    rw [← hW0] at h2
    exact (hb.block _ (by rw [hW0]; simp)).trans h2
  have HB0 : Hid (Below w.heap.size w W0) := by show Below _ _ _; rw [hW0]; exact (Below.refl _ _).alloc (Nat.le_refl _) _
  obtain ⟨Z, hZ⟩ : ∃ Z, Z = st0 s := ⟨_, rfl⟩
  obtain ⟨T, hTT⟩ : ∃ T, T = nmF s.t.data.toList := ⟨_, rfl⟩
  obtain ⟨P, hP⟩ : ∃ T, T = partsF s := ⟨_, rfl⟩
  obtain ⟨M, hM⟩ : ∃ T, T = moreF s := ⟨_, rfl⟩
  obtain ⟨L, hL⟩ : ∃ T, T = shT s := ⟨_, rfl⟩
  obtain ⟨F, hFF⟩ : ∃ T, T = stF s := ⟨_, rfl⟩
  rw [← hFF]
  rw [← hFF, ← hZ, ← hL] at hF
  rw [← hZ, ← hTT, ← hP, ← hM] at h0
  rw [← hTT] at HNM
  rw [← hP] at HPT
  rw [← hM] at hmp
  rw [← hZ, ← hL] at HSH
  have HF := Lib.hid hF
  have HZ := Lib.hid h0
  clear hF h0 hZ hTT hP hM hL hFF hr hz hW0
  obtain ⟨k, t, cols, row, names, cnt, wh, ord, dn, lim, st, to⟩ := s
  obtain ⟨a2, n2, c2, a3, n3, c3, a4, n4, c4, a6, n6, c6, a11, n11, c11⟩ := p
  simp only at HNM HZ l2 l3 l4 l6 l11 hmp
  rw [← l2, ← l3, ← l4, ← l6, ← l11] at hmp
  clear l2 l3 l4 l6 l11
  by_cases hkk : k < 1 ∨ 9 < k
  · have hz2 : Z = 2 := by rw [HZ.out, if_pos hkk]
    have HQ : Hid (F = 2) := by
      show _ = _
      rw [HF.out, hz2]
      rfl
    have HI := Lib.hid (fun w => inp_any w k 1 9 false (by simp; omega))
    go_enter Tryd.func8, Tryd.ntmps8
    go_wp2_with (go_at_call 24; ((with_reducible refine (HI.out _).mono ?_); rintro e w' ⟨rfl, rfl⟩))
    go_ret
    exact ⟨ri HQ.out.symm, (Below.refl _ _).alloc (Nat.le_refl _) _⟩
  have hmp := hmp (by omega)
  have HI := Lib.hid (fun w => inp_any w k 1 9 true (by simp; omega))
  obtain ⟨tb, htb⟩ : ∃ tb : Int, tb = if k ≤ 6 then T else 0 := ⟨_, rfl⟩
  have HZ2 : Hid (Z = f3 tb P (if M = true then 6 else 0)) := by
    show _ = _
    rw [HZ.out, if_neg hkk, htb]
  have hk1 : ¬ k < 1 := fun h => hkk (.inl h)
  have hk9 : ¬ 9 < k := fun h => hkk (.inr h)
  obtain ⟨b12, h12⟩ : ∃ b, b = r12B k t n2 n3 := ⟨_, rfl⟩
  obtain ⟨b14, h14⟩ : ∃ b, b = r14B (k == 4) (k == 5) n4 cnt ord dn lim st n11 := ⟨_, rfl⟩
  obtain ⟨b16, h16⟩ : ∃ b, b = r16B (k == 4) (k == 5) k n6 := ⟨_, rfl⟩
  rw [← h12, ← h14, ← h16] at hmp
  have HMP := Lib.hid hmp
  have H12 := Lib.hid h12
  have H14 := Lib.hid h14
  have H16 := Lib.hid h16
  clear hmp h12 h14 h16 HZ hkk
  by_cases hk6 : k ≤ 6
  · rw [if_pos hk6] at htb
    have hk7 : k < 7 := by omega
    by_cases ht0 : T = 0
    · subst ht0
      subst htb
      go_enter Tryd.func8, Tryd.ntmps8
      go_wp2_with (go_at_call 24; ((with_reducible refine (HI.out _).mono ?_); rintro e w' ⟨rfl, rfl⟩))
      rw [← HWE.out]
      refine (HNM.out _).mono ?_
      rintro e1 w1 ⟨rfl, hb1⟩
      obtain ⟨⟨x0, x1, x2, x3, x4, x5, x6, x7, x8, x9, x10, x11⟩, hblk⟩ := HNW.out w1 hb1
      simp only at x0 x1 x2 x3 x4 x5 x6 x7 x8 x9 x10 x11
      have HI1 := Lib.hid hb1
      have HB1 := Lib.hid (into HB0.out hb1)
      clear hb1
      go_wp2_with fail
      refine (HPT.out _ HB1.out).mono ?_
      rintro e2 w2 ⟨rfl, hb2⟩
      have HI2 := Lib.hid (HI1.out.trans (hb2.mono HI1.out.size))
      have HB2 := Lib.hid (into HB0.out HI2.out)
      (try clear x0 x1 x2 x3 x4 x5 x6 x7 x8 x9 x10 x11 hblk)
      obtain ⟨⟨x0, x1, x2, x3, x4, x5, x6, x7, x8, x9, x10, x11⟩, hblk⟩ := HNW.out w2 HI2.out
      simp only at x0 x1 x2 x3 x4 x5 x6 x7 x8 x9 x10 x11
      clear hb2
      by_cases hp0 : P = 0
      · subst hp0
        go_upto_region 12 with (fail)
        change Code.wp _ ((regionOf 12 (Tryd.f8.body.getD .skip)).getD .skip) _ _ _
        refine sf12 _ _ _ _ _ _ _ _ _ _ _ _ _ _ _ _ _ _ _ _ _ _ _ _ _ _ _ _ _ _ _ _ _ _ _ _ _ _ _ _ _ _ _ _ _ _ _ _ _ _ _ _ _ _ _ _ _ _ _ _ _ _ _ _ _ _ _ _ _ _ _ _ _ _ _ _ _ _ _ _ _ _ _ _ _ _ _ _ _ _ _ _ _ _ _ _ _ _ _ _ _ _ _ _ _ _ _ _ _ _ _ _ _ _ _ _ _ _ _ _ _ w2 w.heap.size k t ord st cnt dn lim a2 n2 c2 a3 n3 c3 a4 n4 c4 a6 n6 c6 a11 n11 c11 b12 hblk H12.out (Lib.hid ?_)
        intro u29 u30 u31 u32 u33 u34 u35 u36 u37 u38 u39 u40 u41 u42 u43 u44 u45 u46 u47 u48 u49 u50 u51 u52 u53 u54 u55 u56 u57
        cases b12
        · go_upto_region 14 with (fail)
          change Code.wp _ ((regionOf 14 (Tryd.f8.body.getD .skip)).getD .skip) _ _ _
          refine sf14 _ _ _ _ _ _ _ _ _ _ _ _ _ _ _ _ _ _ _ _ _ _ _ _ _ _ _ _ _ _ _ _ _ _ _ _ _ _ _ _ _ _ _ _ _ _ _ _ _ _ _ _ _ _ _ _ _ _ _ _ _ _ _ _ _ _ _ _ _ _ _ _ _ _ _ _ _ _ _ _ _ _ _ _ _ _ _ _ _ _ _ _ _ _ _ _ _ _ _ _ _ _ _ _ _ _ _ _ _ _ _ _ _ _ _ _ _ _ _ w2 w.heap.size k t ord st cnt dn lim a2 n2 c2 a3 n3 c3 a4 n4 c4 a6 n6 c6 a11 n11 c11 (k == 4) (k == 5) b14 hblk H14.out (Lib.hid ?_)
          intro u59 u60 u61 u62 u63 u64 u65 u66 u67 u68 u69 u70 u71 u72 u73 u74 u75 u76 u77 u78 u79 u80 u81 u82 u83 u84 u85 u86 u87 u88 u89 u90 u91 u92 u93 u94 u95 u96 u97 u98
          cases b14
          · go_upto_region 16 with (fail)
            change Code.wp _ ((regionOf 16 (Tryd.f8.body.getD .skip)).getD .skip) _ _ _
            refine sf16 _ _ _ _ _ _ _ _ _ _ _ _ _ _ _ _ _ _ _ _ _ _ _ _ _ _ _ _ _ _ _ _ _ _ _ _ _ _ _ _ _ _ _ _ _ _ _ _ _ _ _ _ _ _ _ _ _ _ _ _ _ _ _ _ _ _ _ _ _ _ _ _ _ _ _ _ _ _ _ _ _ _ _ _ _ _ _ _ _ _ _ _ _ _ _ _ _ _ _ _ _ _ _ _ _ _ _ _ _ _ _ _ _ _ _ _ _ _ _ w2 w.heap.size k t ord st cnt dn lim a2 n2 c2 a3 n3 c3 a4 n4 c4 a6 n6 c6 a11 n11 c11 (k == 4) (k == 5) b16 hblk H16.out (Lib.hid ?_)
            intro u100 u101 u102 u103 u104 u105 u106 u107 u108 u109 u110 u111 u112 u113 u114 u115
            cases b16
            · have HZ0 : Hid (Z = 0) := by
                show _ = _
                rw [HZ2.out, HMP.out]
                rfl
              obtain ⟨hsh, hlen⟩ := HSH.out HZ0.out
              have HS3 := Lib.hid (hsh w2 HB2.out)
              obtain ⟨n, hn⟩ : ∃ n, n = L.length := ⟨_, rfl⟩
              rw [← hn] at hlen
              have HN := Lib.hid hn
              clear hsh hn
              go_wp2_with fail
              refine HS3.out.mono ?_
              rintro e4 w4 ⟨v4, rfl, hown4, hb4⟩
              rw [← HN.out] at hown4
              obtain ⟨a4_, q4_, rfl⟩ := own_shape hown4
              have HB4 := Lib.hid (into HB2.out hb4)
              clear hb4 hown4 x0 x1 x2 x3 x4 x5 x6 x7 x8 x9 x10 x11 hblk
              by_cases h100 : 100 < n
              · have HQ : Hid (F = 10) := by
                  show _ = _
                  rw [HF.out, HZ0.out, ← HN.out, if_neg (by simp), if_pos h100]
                go_wp2_with fail
                go_ret
                exact ⟨ri HQ.out.symm, HB4.out⟩
              · have HQ : Hid (F = 0) := by
                  show _ = _
                  rw [HF.out, HZ0.out, ← HN.out, if_neg (by simp), if_neg h100]
                go_wp2_with fail
                go_ret
                exact ⟨ri HQ.out.symm, HB4.out⟩
            · have HQ : Hid (F = 6) := by
                have hz6 : Z = 6 := by
                  rw [HZ2.out, HMP.out]
                  rfl
                show _ = _
                rw [HF.out, hz6]
                rfl
              go_wp2_with fail
              go_ret
              exact ⟨ri HQ.out.symm, HB2.out⟩
          · have HQ : Hid (F = 6) := by
              have hz6 : Z = 6 := by
                rw [HZ2.out, HMP.out]
                rfl
              show _ = _
              rw [HF.out, hz6]
              rfl
            go_wp2_with fail
            go_ret
            exact ⟨ri HQ.out.symm, HB2.out⟩
        · have HQ : Hid (F = 6) := by
            have hz6 : Z = 6 := by
              rw [HZ2.out, HMP.out]
              rfl
            show _ = _
            rw [HF.out, hz6]
            rfl
          go_wp2_with fail
          go_ret
          exact ⟨ri HQ.out.symm, HB2.out⟩
      · have hp0' : (P == 0) = false := by simpa using hp0
        have hzp : Z = P := by
          rw [HZ2.out]
          unfold f3
          rw [if_neg (by simp), if_pos hp0]
        have HQ : Hid (F = P) := by
          show _ = _
          rw [HF.out, hzp, if_pos hp0]
        go_wp2_with fail
        go_ret
        exact ⟨ri HQ.out.symm, HB2.out⟩
    · have ht0' : (T == 0) = false := by simpa using ht0
      have hzt : Z = T := by
        rw [HZ2.out, htb]
        unfold f3
        rw [if_pos ht0]
      have HQ : Hid (F = T) := by
        show _ = _
        rw [HF.out, hzt, if_pos ht0]
      go_enter Tryd.func8, Tryd.ntmps8
      go_wp2_with (go_at_call 24; ((with_reducible refine (HI.out _).mono ?_); rintro e w' ⟨rfl, rfl⟩))
      rw [← HWE.out]
      refine (HNM.out _).mono ?_
      rintro e1 w1 ⟨rfl, hb1⟩
      have HB1 := Lib.hid (into HB0.out hb1)
      clear hb1
      go_wp2_with fail
      go_ret
      exact ⟨ri HQ.out.symm, HB1.out⟩
  · rw [if_neg hk6] at htb
    subst htb
    have hk7 : ¬ k < 7 := by omega
    go_enter Tryd.func8, Tryd.ntmps8
    go_wp2_with (go_at_call 24; ((with_reducible refine (HI.out _).mono ?_); rintro e w' ⟨rfl, rfl⟩))
    rw [← HWE.out]
    refine (HPT.out _ HB0.out).mono ?_
    rintro e2 w2 ⟨rfl, hb2⟩
    have HI2 := Lib.hid (hb2)
    have HB2 := Lib.hid (into HB0.out HI2.out)
    (try clear x0 x1 x2 x3 x4 x5 x6 x7 x8 x9 x10 x11 hblk)
    obtain ⟨⟨x0, x1, x2, x3, x4, x5, x6, x7, x8, x9, x10, x11⟩, hblk⟩ := HNW.out w2 HI2.out
    simp only at x0 x1 x2 x3 x4 x5 x6 x7 x8 x9 x10 x11
    clear hb2
    by_cases hp0 : P = 0
    · subst hp0
      go_upto_region 12 with (fail)
      change Code.wp _ ((regionOf 12 (Tryd.f8.body.getD .skip)).getD .skip) _ _ _
      refine sf12 _ _ _ _ _ _ _ _ _ _ _ _ _ _ _ _ _ _ _ _ _ _ _ _ _ _ _ _ _ _ _ _ _ _ _ _ _ _ _ _ _ _ _ _ _ _ _ _ _ _ _ _ _ _ _ _ _ _ _ _ _ _ _ _ _ _ _ _ _ _ _ _ _ _ _ _ _ _ _ _ _ _ _ _ _ _ _ _ _ _ _ _ _ _ _ _ _ _ _ _ _ _ _ _ _ _ _ _ _ _ _ _ _ _ _ _ _ _ _ _ _ w2 w.heap.size k t ord st cnt dn lim a2 n2 c2 a3 n3 c3 a4 n4 c4 a6 n6 c6 a11 n11 c11 b12 hblk H12.out (Lib.hid ?_)
      intro u29 u30 u31 u32 u33 u34 u35 u36 u37 u38 u39 u40 u41 u42 u43 u44 u45 u46 u47 u48 u49 u50 u51 u52 u53 u54 u55 u56 u57
      cases b12
      · go_upto_region 14 with (fail)
        change Code.wp _ ((regionOf 14 (Tryd.f8.body.getD .skip)).getD .skip) _ _ _
        refine sf14 _ _ _ _ _ _ _ _ _ _ _ _ _ _ _ _ _ _ _ _ _ _ _ _ _ _ _ _ _ _ _ _ _ _ _ _ _ _ _ _ _ _ _ _ _ _ _ _ _ _ _ _ _ _ _ _ _ _ _ _ _ _ _ _ _ _ _ _ _ _ _ _ _ _ _ _ _ _ _ _ _ _ _ _ _ _ _ _ _ _ _ _ _ _ _ _ _ _ _ _ _ _ _ _ _ _ _ _ _ _ _ _ _ _ _ _ _ _ _ w2 w.heap.size k t ord st cnt dn lim a2 n2 c2 a3 n3 c3 a4 n4 c4 a6 n6 c6 a11 n11 c11 (k == 4) (k == 5) b14 hblk H14.out (Lib.hid ?_)
        intro u59 u60 u61 u62 u63 u64 u65 u66 u67 u68 u69 u70 u71 u72 u73 u74 u75 u76 u77 u78 u79 u80 u81 u82 u83 u84 u85 u86 u87 u88 u89 u90 u91 u92 u93 u94 u95 u96 u97 u98
        cases b14
        · go_upto_region 16 with (fail)
          change Code.wp _ ((regionOf 16 (Tryd.f8.body.getD .skip)).getD .skip) _ _ _
          refine sf16 _ _ _ _ _ _ _ _ _ _ _ _ _ _ _ _ _ _ _ _ _ _ _ _ _ _ _ _ _ _ _ _ _ _ _ _ _ _ _ _ _ _ _ _ _ _ _ _ _ _ _ _ _ _ _ _ _ _ _ _ _ _ _ _ _ _ _ _ _ _ _ _ _ _ _ _ _ _ _ _ _ _ _ _ _ _ _ _ _ _ _ _ _ _ _ _ _ _ _ _ _ _ _ _ _ _ _ _ _ _ _ _ _ _ _ _ _ _ _ w2 w.heap.size k t ord st cnt dn lim a2 n2 c2 a3 n3 c3 a4 n4 c4 a6 n6 c6 a11 n11 c11 (k == 4) (k == 5) b16 hblk H16.out (Lib.hid ?_)
          intro u100 u101 u102 u103 u104 u105 u106 u107 u108 u109 u110 u111 u112 u113 u114 u115
          cases b16
          · have HZ0 : Hid (Z = 0) := by
              show _ = _
              rw [HZ2.out, HMP.out]
              rfl
            obtain ⟨hsh, hlen⟩ := HSH.out HZ0.out
            have HS3 := Lib.hid (hsh w2 HB2.out)
            obtain ⟨n, hn⟩ : ∃ n, n = L.length := ⟨_, rfl⟩
            rw [← hn] at hlen
            have HN := Lib.hid hn
            clear hsh hn
            go_wp2_with fail
            refine HS3.out.mono ?_
            rintro e4 w4 ⟨v4, rfl, hown4, hb4⟩
            rw [← HN.out] at hown4
            obtain ⟨a4_, q4_, rfl⟩ := own_shape hown4
            have HB4 := Lib.hid (into HB2.out hb4)
            clear hb4 hown4 x0 x1 x2 x3 x4 x5 x6 x7 x8 x9 x10 x11 hblk
            by_cases h100 : 100 < n
            · have HQ : Hid (F = 10) := by
                show _ = _
                rw [HF.out, HZ0.out, ← HN.out, if_neg (by simp), if_pos h100]
              go_wp2_with fail
              go_ret
              exact ⟨ri HQ.out.symm, HB4.out⟩
            · have HQ : Hid (F = 0) := by
                show _ = _
                rw [HF.out, HZ0.out, ← HN.out, if_neg (by simp), if_neg h100]
              go_wp2_with fail
              go_ret
              exact ⟨ri HQ.out.symm, HB4.out⟩
          · have HQ : Hid (F = 6) := by
              have hz6 : Z = 6 := by
                rw [HZ2.out, HMP.out]
                rfl
              show _ = _
              rw [HF.out, hz6]
              rfl
            go_wp2_with fail
            go_ret
            exact ⟨ri HQ.out.symm, HB2.out⟩
        · have HQ : Hid (F = 6) := by
            have hz6 : Z = 6 := by
              rw [HZ2.out, HMP.out]
              rfl
            show _ = _
            rw [HF.out, hz6]
            rfl
          go_wp2_with fail
          go_ret
          exact ⟨ri HQ.out.symm, HB2.out⟩
      · have HQ : Hid (F = 6) := by
          have hz6 : Z = 6 := by
            rw [HZ2.out, HMP.out]
            rfl
          show _ = _
          rw [HF.out, hz6]
          rfl
        go_wp2_with fail
        go_ret
        exact ⟨ri HQ.out.symm, HB2.out⟩
    · have hp0' : (P == 0) = false := by simpa using hp0
      have hzp : Z = P := by
        rw [HZ2.out]
        unfold f3
        rw [if_neg (by simp), if_pos hp0]
      have HQ : Hid (F = P) := by
        show _ = _
        rw [HF.out, hzp, if_pos hp0]
      go_wp2_with fail
      go_ret
      exact ⟨ri HQ.out.symm, HB2.out⟩
theorem dshown_any (w : World) (s : Sq) (p : Ps) (hr : StR w s p) (hz : SqZ s) :
    Calls Tryd.prog 10 #[stV s p] w fun e w' => ∃ v, e = .returned (.tuple #[v, .int .i64 (stF s)]) ∧ w'.ownsRow w.heap.size 39 3 v (if stF s = 0 then shT s else []).length (tkc (if stF s = 0 then shT s else [])) ∧ Below w.heap.size w w' := by
  have hb0 : Below w.heap.size w (w.alloc (.cells (stC s p) 27)) := (Below.refl _ _).alloc (Nat.le_refl _) _
  have HNEW := Lib.hid (fun w1 hb => StB.new w s p (w1 := w1) hb)
  have HCK : Hid (∀ W, Below w.heap.size w W → Calls Tryd.prog 8 #[stV s p] W fun e w' => e = .returned (.int .i64 (stF s)) ∧ Below W.heap.size W w') := fun W hW => dfault_any W s p (hr.below hW) hz
  have HSH : Hid (stF s = 0 → ∀ W, Below w.heap.size w W → Calls Tryd.prog 27 #[stV s p] W (ToksIs (shT s) W)) := fun h0 W hW => by
    have h0 : st0 s = 0 := by
      unfold stF at h0
      split at h0
      · contradiction
      · rename_i h
        simpa using h
    exact dtoks_any W s p (hr.below hW) h0 hz
  have HB0 := Lib.hid hb0
  obtain ⟨F, hF⟩ : ∃ F, F = stF s := ⟨_, rfl⟩
  obtain ⟨L, hL⟩ : ∃ F, F = shT s := ⟨_, rfl⟩
  rw [← hF] at HCK HSH ⊢
  rw [← hL] at HSH ⊢
  clear hF hL hb0 hr hz
  obtain ⟨k, t, cols, row, names, cnt, wh, ord, dn, lim, st, to⟩ := s
  obtain ⟨a2, n2, c2, a3, n3, c3, a4, n4, c4, a6, n6, c6, a11, n11, c11⟩ := p
  by_cases h0 : F = 0
  · subst h0
    have HS := Lib.hid (HSH.out rfl)
    clear HSH
    go_enter Tryd.func10, Tryd.ntmps10
    go_wp2_with fail
    refine (HCK.out _ HB0.out).mono ?_
    rintro e w1 ⟨rfl, hb1⟩
    obtain ⟨x0, x1, x2, x3, x4, x5, x6, x7, x8, x9, x10, x11⟩ := HNEW.out w1 hb1
    simp only at x0 x1 x2 x3 x4 x5 x6 x7 x8 x9 x10 x11
    have HB1 := Lib.hid (into HB0.out hb1)
    clear hb1
    go_wp2_with fail
    refine (HS.out _ HB1.out).mono ?_
    rintro e w2 ⟨v2, rfl, hown, hb2⟩
    have HO := Lib.hid (own_mono hown HB1.out.size)
    have HB2 := Lib.hid (into HB1.out hb2)
    clear hown hb2
    go_wp2_with fail
    go_returns
    exact ⟨_, rfl, HO.out, HB2.out⟩
  · have h0' : (F == 0) = false := by simpa using h0
    clear HSH
    go_enter Tryd.func10, Tryd.ntmps10
    go_wp2_with fail
    refine (HCK.out _ HB0.out).mono ?_
    rintro e w1 ⟨rfl, hb1⟩
    have HB1 := Lib.hid (into HB0.out hb1)
    clear hb1
    go_wp2_with fail
    go_returns
    exact ⟨_, rfl, World.ownsRow_nil _ _ _ _, HB1.out⟩
end Go.Proofs.YtnheepkmaibofaaDoor.cs
/- Words on trees in memory: lists of keys, pages, trees; what an argument of such a type reads as. -/
namespace Go.Proofs.YtnheepkmaibofaaDoor
open Go.ChangeShapes Go.WideShapes Go.ChangeAt Go.RowKit Go.Deep
set_option linter.unusedVariables false
set_option linter.unusedSimpArgs false
set_option maxHeartbeats 400000
/-- A page, and a tree. -/
structure Pg where
  leaf : Bool
  keys : List (List UInt8)
  kids : List Int
  high : List UInt8
  next : Int
structure Tr where
  pages : List Pg
  root : Int
def ic (l : List Int) : List Value := l.map (.int .i64)
theorem ic_length (l : List Int) : (ic l).length = l.length := by simp [ic]
theorem ic_at {l : List Int} {k : Nat} (h : k < l.length) : (ic l)[k]? = some (.int .i64 (l.getD k 0)) := by simp [ic, List.getD, h]
theorem ic_one (l : List Int) : ∀ u ∈ ic l, u.oneCell' = true := by
  intro u hu
  obtain ⟨n, _, rfl⟩ := List.mem_map.1 hu
  rfl
theorem ic_app (l m : List Int) : ic (l ++ m) = ic l ++ ic m := by simp [ic]
/-- What lies behind the slice lies in blocks of which ok holds. -/
def At (ok : Nat → Prop) (v : Value) : Prop := ∀ a n c, v = .slice (some a) n c → 0 < n → ok a.block
/-- Bytes, numbers, keys. -/
def RB (w : World) (ok : Nat → Prop) (v : Value) (l : List UInt8) : Prop := Rd w 1 l.length v (bc l) ∧ At ok v
def RI (w : World) (ok : Nat → Prop) (v : Value) (l : List Int) : Prop := Rd w 1 l.length v (ic l) ∧ At ok v
def RK (w : World) (ok : Nat → Prop) (v : Value) (ks : List (List UInt8)) : Prop :=
  ∃ vs : List Value, Rd w 1 ks.length v vs ∧ At ok v ∧ ∀ (i : Nat) (k : List UInt8), ks[i]? = some k → ∃ x, vs[i]? = some x ∧ RB w ok x k
/-- The five cells of a page. -/
def RP (w : World) (ok : Nat → Prop) (cs : List Value) (p : Pg) : Prop :=
  ∃ k d h, cs = [.bool p.leaf, k, d, h, .int .i64 p.next] ∧ RK w ok k p.keys ∧ RI w ok d p.kids ∧ RB w ok h p.high
/-- The cells of pages. -/
def RPs (w : World) (ok : Nat → Prop) (vs : List Value) (ps : List Pg) : Prop :=
  vs.length = ps.length * 5 ∧ ∀ (i : Nat) (p : Pg), ps[i]? = some p → RP w ok ((vs.drop (i * 5)).take 5) p
/-- A tree. -/
def RT (w : World) (ok : Nat → Prop) (v : Value) (t : Tr) : Prop :=
  ∃ s vs, v = .agg #[s, .int .i64 t.root] ∧ Rd w 5 t.pages.length s vs ∧ At ok s ∧ RPs w ok vs t.pages
/-- On the blocks of which ok holds the world w' is as w was. -/
def Agree (ok : Nat → Prop) (w w' : World) : Prop := ∀ b, ok b → b < w.heap.size → w'.heap[b]? = w.heap[b]?
theorem Agree.below {w w' : World} (hb : Below w.heap.size w w') (ok : Nat → Prop) : Agree ok w w' := fun b _ h => hb.block b h
theorem Rd.agree {w w' : World} {ok : Nat → Prop} {s n : Nat} {v : Value} {xs : List Value} (h : Rd w s n v xs) (hat : At ok v) (hag : Agree ok w w') : Rd w' s n v xs := by
  obtain ⟨h1, ao, cap, rfl, h3, h4, h5, h6⟩ := h
  refine ⟨h1, ao, cap, rfl, h3, h4, h5, fun a ha j u hu => ?_⟩
  have hc := h6 a ha j u hu
  have hn : 0 < n := by
    rcases Nat.eq_zero_or_pos n with h0 | h0
    · subst h0
      have hj := (List.getElem?_eq_some_iff.1 hu).1
      omega
    · exact h0
  have hblk : (a.add j).block = a.block := by unfold Addr.add; split <;> rfl
  have hlt := lt_cell hc
  rw [hblk] at hlt
  have e := hag a.block (hat a n cap (by rw [ha]) hn) hlt
  rw [← hc]
  exact World.cell?_of_block (w := w) (by rw [hblk]; exact e)
theorem RB.agree {w w' : World} {ok : Nat → Prop} {v : Value} {l : List UInt8} (h : RB w ok v l) (hag : Agree ok w w') : RB w' ok v l := ⟨h.1.agree h.2 hag, h.2⟩
theorem RI.agree {w w' : World} {ok : Nat → Prop} {v : Value} {l : List Int} (h : RI w ok v l) (hag : Agree ok w w') : RI w' ok v l := ⟨h.1.agree h.2 hag, h.2⟩
theorem RK.agree {w w' : World} {ok : Nat → Prop} {v : Value} {l : List (List UInt8)} (h : RK w ok v l) (hag : Agree ok w w') : RK w' ok v l := by
  obtain ⟨vs, h1, h2, h3⟩ := h
  exact ⟨vs, h1.agree h2 hag, h2, fun i k hk => by obtain ⟨x, hx, hr⟩ := h3 i k hk; exact ⟨x, hx, hr.agree hag⟩⟩
theorem RP.agree {w w' : World} {ok : Nat → Prop} {cs : List Value} {p : Pg} (h : RP w ok cs p) (hag : Agree ok w w') : RP w' ok cs p := by
  obtain ⟨k, d, g, h0, h1, h2, h3⟩ := h
  exact ⟨k, d, g, h0, h1.agree hag, h2.agree hag, h3.agree hag⟩
theorem RPs.agree {w w' : World} {ok : Nat → Prop} {vs : List Value} {ps : List Pg} (h : RPs w ok vs ps) (hag : Agree ok w w') : RPs w' ok vs ps := ⟨h.1, fun i p hp => (h.2 i p hp).agree hag⟩
theorem RT.agree {w w' : World} {ok : Nat → Prop} {v : Value} {t : Tr} (h : RT w ok v t) (hag : Agree ok w w') : RT w' ok v t := by
  obtain ⟨s, vs, h0, h1, h2, h3⟩ := h
  exact ⟨s, vs, h0, h1.agree h2 hag, h2, h3.agree hag⟩
/-- What is read lies in blocks that are there. -/
theorem Rd.at_lt {w : World} {s n : Nat} {v : Value} {xs : List Value} (h : Rd w s n v xs) (hs : 0 < s) : At (fun b => b < w.heap.size) v := by
  intro a m c hv hm
  obtain ⟨h1, ao, cap, hv', h3, h4, h5, h6⟩ := h
  rw [hv] at hv'
  simp only [Value.slice.injEq] at hv'
  obtain ⟨ha, rfl, rfl⟩ := hv'
  have hx : 0 < xs.length := by rw [h1]; exact Nat.mul_pos hm hs
  have h0 := h6 a ha.symm 0 xs[0] (List.getElem?_eq_getElem hx)
  have := lt_cell h0
  have hblk : (a.add 0).block = a.block := by unfold Addr.add; split <;> rfl
  rw [hblk] at this
  exact this
section
variable {H : Type} {enc : TypeId × Value → H} {P : Program} {w : World} {base : Nat} {held : Bool}
abbrev old (w : World) : Nat → Prop := fun b => b < w.heap.size
abbrev small (P : Program) (t : TypeId) (d : DataW H) : Prop := ∀ n ∈ d.weights P t, n ≤ reachBytes
theorem weights_all {e : TypeId} : ∀ {l : List (DataW H)} {d : DataW H}, d ∈ l → ∀ n ∈ d.weights P e, n ∈ DataW.weightsAll P e l
  | x :: l, d, hd, n, hn => by
    simp only [DataW.weightsAll, List.mem_append]
    simp only [List.mem_cons] at hd
    rcases hd with rfl | hd
    · exact .inl hn
    · exact .inr (weights_all hd n hn)
/-- A slice whose elements are read one by one. -/
theorem open_rows {t e : TypeId} {fuel C : Nat} {cs : List Value} {x : DataW H × List MemPlace} (ht : P.underlying t = some (.slice e)) (hC : P.cellsOf e = C) (hC0 : 0 < C)
    (h : DataW.trod enc P w base (fun _ => true) held fuel t cs = some x) (hs : small P t x.1) {R : List Value → Prop}
    (hR : ∀ (n : Nat) (cs' : List Value) (y : DataW H × List MemPlace), DataW.trod enc P w base (fun _ => true) held n e cs' = some y → small P e y.1 → R cs') :
    ∃ (v : Value) (n : Nat) (vs : List Value), cs = [v] ∧ Rd w C n v vs ∧ n * P.bytesOf e ≤ reachBytes ∧ ∀ i, i < n → R ((vs.drop (i * C)).take C) := by
  rcases open_slice ht h with ⟨rfl, hx⟩ | ⟨a, len, cap, m, n, D, Pl, rfl, _, hl, hm, hmm, hx, hi⟩
  · exact ⟨_, 0, [], rfl, Rd.nil w C, by simp, fun i hi => by omega⟩
  · simp only [if_true] at hmm
    subst hmm
    have each : ∀ i, ∃ cs' : List Value, i < len → cs'.length = C ∧ (∀ j, j < C → w.cell? (a.add (i * C + j)) = cs'[j]?) ∧ R cs' := by
      intro i
      by_cases hil : i < len
      · obtain ⟨cs', hc, htr⟩ := hi i (by omega)
        rw [hC] at hc
        obtain ⟨_, hlen, hat⟩ := World.cells?_some hc
        refine ⟨cs', fun _ => ⟨hlen, fun j hj => ?_, hR _ _ _ htr ?_⟩⟩
        · rw [← add_add]; exact hat j hj
        · intro q hq
          refine hs q ?_
          rw [hx]
          simp only [DataW.weights, ht]
          refine List.mem_cons_of_mem _ (List.mem_append_left _ (weights_all (d := D i) ?_ q hq))
          exact List.mem_map.2 ⟨i, List.mem_range.2 hil, rfl⟩
      · exact ⟨[], fun h => absurd h hil⟩
    obtain ⟨f, hf⟩ := Classical.axiomOfChoice each
    have hlenf : ∀ k, k ≤ len → (((List.range k).map f).flatten).length = k * C := by
      intro k
      induction k with
      | zero => simp
      | succ k ih =>
        intro hk
        rw [List.range_succ, List.map_append, List.flatten_append, List.length_append, ih (by omega)]
        simp only [List.map_cons, List.map_nil, List.flatten_cons, List.flatten_nil, List.append_nil]
        rw [(hf k (by omega)).1, Nat.succ_mul]
    have hcut : ∀ k, k ≤ len → ∀ i, i < k → ((((List.range k).map f).flatten).drop (i * C)).take C = f i := by
      intro k
      induction k with
      | zero => intro _ i hi'; omega
      | succ k ih =>
        intro hk i hi'
        rw [List.range_succ, List.map_append, List.flatten_append]
        simp only [List.map_cons, List.map_nil, List.flatten_cons, List.flatten_nil, List.append_nil]
        have hL := hlenf k (by omega)
        rcases Nat.lt_or_ge i k with hik | hik
        · have h1 : i * C + C ≤ k * C := by
            rw [← Nat.succ_mul]; exact Nat.mul_le_mul_right _ hik
          rw [List.drop_append_of_le_length (by omega), List.take_append_of_le_length (by rw [List.length_drop]; omega)]
          exact ih (by omega) i hik
        · obtain rfl : i = k := by omega
          rw [← hL, List.drop_left, List.take_of_length_le (by rw [(hf i (by omega)).1]; exact Nat.le_refl _)]
    refine ⟨_, len, ((List.range len).map f).flatten, rfl, ⟨hlenf len (Nat.le_refl _), some a, m, rfl, hl, hm, (fun h => by cases h), fun b hb j u hu => ?_⟩, ?_, fun i hi' => ?_⟩
    · obtain rfl := Option.some.inj hb
      have hj : j < len * C := by
        have := (List.getElem?_eq_some_iff.1 hu).1
        rw [hlenf len (Nat.le_refl _)] at this
        exact this
      have hjc : j / C < len := Nat.div_lt_of_lt_mul (by rw [Nat.mul_comm]; exact hj)
      have hjm : j % C < C := Nat.mod_lt _ hC0
      have e : j / C * C + j % C = j := by rw [Nat.mul_comm]; exact Nat.div_add_mod j C
      have hc := (hf (j / C) hjc).2.1 (j % C) hjm
      rw [e] at hc
      rw [hc, ← hcut len (Nat.le_refl _) (j / C) hjc, List.getElem?_take, if_pos hjm, List.getElem?_drop, e]
      exact hu
    · have := hs ((((List.range len).map D).length + ((List.range (m - len)).map fun j => D (len + j)).length) * P.bytesOf e) (by
        rw [hx]
        simp [DataW.weights, ht])
      simp only [List.length_map, List.length_range] at this
      exact Nat.le_trans (Nat.mul_le_mul_right _ (by omega)) this
    · rw [hcut len (Nat.le_refl _) i hi']
      exact (hf i hi').2.2
/-- Cells of one kind, one an element: a list. -/
theorem cells_map {α : Type} (g : α → Value) (q : α → Prop) : ∀ (n : Nat) (vs : List Value), vs.length = n * 1 → (∀ i, i < n → ∃ y, (vs.drop (i * 1)).take 1 = [g y] ∧ q y) → ∃ l : List α, l.length = n ∧ vs = l.map g ∧ ∀ y ∈ l, q y
  | 0, vs, hl, _ => ⟨[], rfl, List.eq_nil_of_length_eq_zero (by simpa using hl), by simp⟩
  | n + 1, vs, hl, h => by
    match vs, hl with
    | v :: vs, hl =>
      obtain ⟨y, hy, hq⟩ := h 0 (by omega)
      obtain ⟨l, h1, h2, h3⟩ := cells_map g q n vs (by simp at hl; omega) (fun i hi => by
        obtain ⟨z, hz, hqz⟩ := h (i + 1) (by omega)
        refine ⟨z, ?_, hqz⟩
        rw [← hz]
        simp)
      refine ⟨y :: l, by simp [h1], ?_, ?_⟩
      · have : v = g y := by simpa using hy
        rw [this, h2]
        rfl
      · intro z hz
        simp only [List.mem_cons] at hz
        rcases hz with rfl | hz
        · exact hq
        · exact h3 z hz
theorem byte_cell {t : TypeId} {fuel : Nat} {cs : List Value} {x : DataW H × List MemPlace} {spare : Nat → Bool} (ht : P.underlying t = some (.int .u8)) (h : DataW.trod enc P w base spare held fuel t cs = some x) : ∃ b : UInt8, cs = [.int .u8 (b.toNat : Int)] := by
  obtain ⟨n, rfl, _, hw⟩ := DataW.trod_int ht h
  simp only [Lit.wf, Bool.and_eq_true, decide_eq_true_eq] at hw
  have h1 : 0 ≤ n := by have := hw.1; simp [IntKind.min, IntKind.signed, IntKind.bits] at this; omega
  have h2 : n < 256 := by have := hw.2; simp [IntKind.max, IntKind.signed, IntKind.bits] at this; omega
  refine ⟨UInt8.ofNat n.toNat, ?_⟩
  simp
  omega
theorem read_bytes {t e : TypeId} {fuel : Nat} {cs : List Value} {x : DataW H × List MemPlace} (ht : P.underlying t = some (.slice e)) (he : P.underlying e = some (.int .u8)) (hC : P.cellsOf e = 1) (hB : P.bytesOf e = 1)
    (h : DataW.trod enc P w base (fun _ => true) held fuel t cs = some x) (hs : small P t x.1) : ∃ v l, cs = [v] ∧ RB w (old w) v l ∧ l.length ≤ reachBytes := by
  obtain ⟨v, n, vs, rfl, h1, h2, h3⟩ := open_rows ht hC (by omega) h hs (R := fun cs' => ∃ b : UInt8, cs' = [.int .u8 (b.toNat : Int)]) (fun _ _ _ hy _ => byte_cell he hy)
  obtain ⟨l, g1, g2, _⟩ := cells_map (fun b : UInt8 => Value.int .u8 (b.toNat : Int)) (fun _ => True) n vs h1.1 (fun i hi => by obtain ⟨b, hb⟩ := h3 i hi; exact ⟨b, hb, trivial⟩)
  subst g1
  refine ⟨v, l, rfl, ⟨?_, h1.at_lt (by omega)⟩, by rw [hB] at h2; omega⟩
  rw [g2] at h1
  exact h1
theorem read_ints {t e : TypeId} {fuel : Nat} {cs : List Value} {x : DataW H × List MemPlace} (ht : P.underlying t = some (.slice e)) (he : P.underlying e = some (.int .i64)) (hC : P.cellsOf e = 1) (hB : P.bytesOf e = 8)
    (h : DataW.trod enc P w base (fun _ => true) held fuel t cs = some x) (hs : small P t x.1) : ∃ v l, cs = [v] ∧ RI w (old w) v l ∧ l.length * 8 ≤ reachBytes ∧ ∀ n ∈ l, (Lit.int .i64 n).wf = true := by
  obtain ⟨v, n, vs, rfl, h1, h2, h3⟩ := open_rows ht hC (by omega) h hs (R := fun cs' => ∃ n : Int, cs' = [.int .i64 n] ∧ (Lit.int .i64 n).wf = true) (fun _ _ _ hy _ => by
    obtain ⟨n, hn, _, hw⟩ := DataW.trod_int he hy
    exact ⟨n, hn, hw⟩)
  obtain ⟨l, g1, g2, g3⟩ := cells_map (fun n : Int => Value.int .i64 n) (fun n => (Lit.int .i64 n).wf = true) n vs h1.1 h3
  subst g1
  refine ⟨v, l, rfl, ⟨?_, h1.at_lt (by omega)⟩, by rw [hB] at h2; exact h2, g3⟩
  rw [g2] at h1
  exact h1
theorem read_keys {t b e : TypeId} {fuel : Nat} {cs : List Value} {x : DataW H × List MemPlace} (ht : P.underlying t = some (.slice b)) (hb : P.underlying b = some (.slice e)) (he : P.underlying e = some (.int .u8)) (hCb : P.cellsOf b = 1) (hBb : P.bytesOf b = 24) (hC : P.cellsOf e = 1) (hB : P.bytesOf e = 1)
    (h : DataW.trod enc P w base (fun _ => true) held fuel t cs = some x) (hs : small P t x.1) : ∃ v ks, cs = [v] ∧ RK w (old w) v ks ∧ ks.length * 24 ≤ reachBytes ∧ ∀ k ∈ ks, k.length ≤ reachBytes := by
  obtain ⟨v, n, vs, rfl, h1, h2, h3⟩ := open_rows ht hCb (by omega) h hs (R := fun cs' => ∃ v l, cs' = [v] ∧ RB w (old w) v l ∧ l.length ≤ reachBytes) (fun _ _ _ hy hsy => read_bytes hb he hC hB hy hsy)
  obtain ⟨l, g1, g2, g3⟩ := cells_map (fun y : Value × List UInt8 => y.1) (fun y => RB w (old w) y.1 y.2 ∧ y.2.length ≤ reachBytes) n vs h1.1 (fun i hi => by
    obtain ⟨u, k, hk, hr, hl⟩ := h3 i hi
    exact ⟨(u, k), hk, hr, hl⟩)
  refine ⟨v, l.map (·.2), rfl, ⟨vs, by rw [List.length_map, g1]; exact h1, h1.at_lt (by omega), fun i k hk => ?_⟩, by rw [List.length_map, g1, ← hBb]; exact h2, fun k hk => ?_⟩
  · rw [List.getElem?_map] at hk
    obtain ⟨y, hy, rfl⟩ := Option.map_eq_some_iff.1 hk
    refine ⟨y.1, by rw [g2, List.getElem?_map, hy]; rfl, (g3 y ?_).1⟩
    exact List.mem_of_getElem? hy
  · obtain ⟨y, hy, rfl⟩ := List.mem_map.1 hk
    exact (g3 y hy).2
/-- What keeps a page, and a tree, small enough to be copied. -/
def Sized (p : Pg) : Prop := p.keys.length * 24 ≤ reachBytes ∧ (∀ k ∈ p.keys, k.length ≤ reachBytes) ∧ p.kids.length * 8 ≤ reachBytes ∧ p.high.length ≤ reachBytes ∧ (∀ n ∈ p.kids, (Lit.int .i64 n).wf = true) ∧ (Lit.int .i64 p.next).wf = true
theorem weights_each : ∀ {ts : List TypeId} {ds : List (DataW H)} {j : Nat} {t : TypeId} {d : DataW H}, ts[j]? = some t → ds[j]? = some d → ∀ n ∈ d.weights P t, n ∈ DataW.weightsEach P ts ds :=
  fun ht hd => DataW.weights_mem_each ht hd
theorem read_page {t tk tb te tc : TypeId} {f0 f1 f2 f3 f4 : Field} {fuel : Nat} {cs : List Value} {x : DataW H × List MemPlace} (ht : P.underlying t = some (.struct #[f0, f1, f2, f3, f4])) (hone : oneCellFields P #[f0, f1, f2, f3, f4] = true) (hC5 : P.cellsOf t = 5)
    (u0 : P.underlying f0.type = some .bool) (u1 : P.underlying f1.type = some (.slice tb)) (u2 : P.underlying f2.type = some (.slice tc)) (u3 : P.underlying f3.type = some (.slice te)) (u4 : P.underlying f4.type = some (.int .i64))
    (hb : P.underlying tb = some (.slice te)) (he : P.underlying te = some (.int .u8)) (hc : P.underlying tc = some (.int .i64)) (hCb : P.cellsOf tb = 1) (hBb : P.bytesOf tb = 24) (hC : P.cellsOf te = 1) (hB : P.bytesOf te = 1) (hCc : P.cellsOf tc = 1) (hBc : P.bytesOf tc = 8)
    (h : DataW.trod enc P w base (fun _ => true) held fuel t cs = some x) (hs : small P t x.1) : ∃ p, RP w (old w) cs p ∧ Sized p := by
  obtain ⟨xs, n, _, hx, hl, hxl, hf⟩ := DataW.trod_struct ht h
  rw [hC5] at hl
  obtain ⟨o0, k0⟩ := hone_of hone 0 f0 rfl
  obtain ⟨o1, k1⟩ := hone_of hone 1 f1 rfl
  obtain ⟨o2, k2⟩ := hone_of hone 2 f2 rfl
  obtain ⟨o3, k3⟩ := hone_of hone 3 f3 rfl
  obtain ⟨o4, k4⟩ := hone_of hone 4 f4 rfl
  match cs, hl with
  | [c0, c1, c2, c3, c4], _ =>
    match xs, hxl with
    | [y0, y1, y2, y3, y4], _ =>
      have g0 := hf 0 f0 rfl
      have g1 := hf 1 f1 rfl
      have g2 := hf 2 f2 rfl
      have g3 := hf 3 f3 rfl
      have g4 := hf 4 f4 rfl
      simp [o0, k0] at g0
      simp [o1, k1] at g1
      simp [o2, k2] at g2
      simp [o3, k3] at g3
      simp [o4, k4] at g4
      have sm : ∀ (j : Nat) (f : Field) (y : DataW H × List MemPlace), [f0.type, f1.type, f2.type, f3.type, f4.type][j]? = some f.type → [y0.1, y1.1, y2.1, y3.1, y4.1][j]? = some y.1 → small P f.type y.1 := by
        intro j f y hf' hy' q hq
        refine hs q ?_
        rw [hx]
        simp only [DataW.weights, ht]
        exact weights_each hf' hy' q hq
      obtain ⟨b, e0, _⟩ := DataW.trod_bool u0 g0
      obtain ⟨vk, ks, e1, r1, s1, s1'⟩ := read_keys u1 hb he hCb hBb hC hB g1 (sm 1 f1 y1 rfl rfl)
      obtain ⟨vd, ds, e2, r2, s2, s2'⟩ := read_ints u2 hc hCc hBc g2 (sm 2 f2 y2 rfl rfl)
      obtain ⟨vh, hh, e3, r3, s3⟩ := read_bytes u3 he hC hB g3 (sm 3 f3 y3 rfl rfl)
      obtain ⟨m, e4, _, w4⟩ := DataW.trod_int u4 g4
      simp at e0 e1 e2 e3 e4
      subst e0 e1 e2 e3 e4
      exact ⟨⟨b, ks, ds, hh, m⟩, ⟨_, _, _, rfl, r1, r2, r3⟩, s1, s1', s2, s3, s2', w4⟩
theorem read_pages {t e : TypeId} {fuel : Nat} {cs : List Value} {x : DataW H × List MemPlace} (ht : P.underlying t = some (.slice e)) (hC : P.cellsOf e = 5) (hB : P.bytesOf e = 88)
    (hR : ∀ (n : Nat) (cs' : List Value) (y : DataW H × List MemPlace), DataW.trod enc P w base (fun _ => true) held n e cs' = some y → small P e y.1 → ∃ p, RP w (old w) cs' p ∧ Sized p)
    (h : DataW.trod enc P w base (fun _ => true) held fuel t cs = some x) (hs : small P t x.1) : ∃ v vs ps, cs = [v] ∧ Rd w 5 ps.length v vs ∧ At (old w) v ∧ RPs w (old w) vs ps ∧ ps.length * 88 ≤ reachBytes ∧ ∀ p ∈ ps, Sized p := by
  obtain ⟨v, n, vs, rfl, h1, h2, h3⟩ := open_rows ht hC (by omega) h hs hR
  have each : ∀ i, ∃ p : Pg, i < n → RP w (old w) ((vs.drop (i * 5)).take 5) p ∧ Sized p := fun i => by
    by_cases hi : i < n
    · obtain ⟨p, hp⟩ := h3 i hi
      exact ⟨p, fun _ => hp⟩
    · exact ⟨⟨false, [], [], [], 0⟩, fun h => absurd h hi⟩
  obtain ⟨f, hf⟩ := Classical.axiomOfChoice each
  refine ⟨v, vs, (List.range n).map f, rfl, by simpa using h1, h1.at_lt (by omega), ⟨by simp [h1.1], fun i p hp => ?_⟩, by simpa [hB] using h2, fun p hp => ?_⟩
  · rw [List.getElem?_map] at hp
    obtain ⟨j, hj, rfl⟩ := Option.map_eq_some_iff.1 hp
    have hin : i < n := by
      have := (List.getElem?_eq_some_iff.1 hj).1
      simpa using this
    have : j = i := by simpa [hin] using hj.symm
    subst this
    exact (hf j hin).1
  · obtain ⟨i, hi, rfl⟩ := List.mem_map.1 hp
    exact (hf i (List.mem_range.1 hi)).2
end
end Go.Proofs.YtnheepkmaibofaaDoor

/- No sessions, too many of them, a pick of none and a script that is too long are refused; sessions that say nothing are told nothing. The row lists the program's tables and variables of the library that it names; the card ties them to the program's text. -/
import Derived.Deep.OwnRows
import Derived.Test.YtbjdgkidnmklkaaGreatDoorEd
import Derived.Test.YtbjdgkidnmklkaaGreatDoorEg
import Derived.Test.YtbjdgkidnmklkaaGreatDoorKp
import Derived.Test.YtbjdgkidnmklkaaGreatDoorEd
namespace Go.Proofs.YtbjdgkidnmklkaaGreatDoor.lTopRefused
open Go.ChangeShapes Go.WideShapes Go.ChangeAt Go.RowKit Go.Joins
open Go.ChangeMaps (open_string shut_string)
set_option linter.unusedVariables false
set_option linter.unusedSimpArgs false
set_option maxHeartbeats 400000

set_option maxHeartbeats 2000000
set_option maxRecDepth 100000
theorem Tryz.info34 : (Tryz.prog.info? 34).map (fun i => (i.zero, i.size, i.bytes)) = some (some (.slice none 0 0), 1, 24) := by kernel_rfl
theorem Tryz.info9 : (Tryz.prog.info? 9).map (fun i => (i.zero, i.size, i.bytes)) = some (some (.string ⟨#[]⟩), 1, 16) := by kernel_rfl
theorem made_at (z : Value) (n j : Nat) (h : j < n) : (madeCells #[z] n)[j]? = some z := by
  simp [madeCells, h, Nat.mod_one]
theorem picked_top (x m : Int) (w : World) (r : Int) (h : ∀ w, Calls Tryz.prog 6 #[.int .i64 x, .int .i64 m] w fun e w' => e = .returned (.int .i64 r) ∧ w = w') : Calls Tryz.prog 4 #[.int .i64 x, .int .i64 m] w fun e w' => e = .returned (.int .i64 r) ∧ w = w' := by
  have H := Lib.hid h
  clear h
  go_enter Tryz.func4, Tryz.ntmps4
  go_wp2_with fail
  refine (H.out _).mono ?_
  rintro e w' ⟨rfl, rfl⟩
  go_wp2_with fail
  go_ret
  exact ⟨rfl, rfl⟩
theorem run_rng (w : World) (b pb : Nat) (a : Option Addr) (m c : Nat) (x : Int) (hx : 1 ≤ x) (g : w.cell? ⟨b, 0, none⟩ = some (.slice a m c)) (hm : m ≤ 20) (hp : w.cell? ⟨pb, 0, none⟩ = some (.int .i64 x)) : Calls Tryz.prog 5 #[.slice (some ⟨b, 0, none⟩) 1 1, .slice (some ⟨pb, 0, none⟩) 1 1] w (BadIs 3 w) :=
  run_bad w _ _ 3 (by decide) (fun W hB => check_rng W b pb a m c x hx ((hB.cell (lt_cell g)).trans g) hm ((hB.cell (lt_cell hp)).trans hp))
theorem run_long (w : World) (b : Nat) (a : Option Addr) (m c : Nat) (g : w.cell? ⟨b, 0, none⟩ = some (.slice a m c)) (hm : 20 < m) (hm2 : m ≤ 1000) : Calls Tryz.prog 5 #[.slice (some ⟨b, 0, none⟩) 1 1, .slice none 0 0] w (BadIs 1 w) :=
  run_bad w _ _ 1 (by decide) (fun W hB => check_long W b a m c ((hB.cell (lt_cell g)).trans g) hm hm2)
def FstIs (k : Nat) (w : World) (e : Ending) (w' : World) : Prop := ∃ (a : Option Addr) (n c : Nat) (r : Int), e = .returned (.tuple #[.agg #[.slice a n c, .slice none 0 0, .slice none 0 0], .int .i64 r]) ∧ (((k = 0 ∨ 4 < k) ∧ n = 0 ∧ r = 1) ∨ (1 ≤ k ∧ k ≤ 4 ∧ n = k ∧ r = 0)) ∧ Below w.heap.size w w'
theorem first_any (w : World) (b k : Nat) (hk : k < 8) (hb : w.heap[b]? = some (.cells (madeCells #[.slice none 0 0] k) 34 (0, 0))) : Calls Tryz.prog 5 #[.slice (some ⟨b, 0, none⟩) k k, .slice none 0 0] w (FstIs k w) := by
  by_cases h : k = 0 ∨ 4 < k
  · refine (run_bad w _ _ 1 (by decide) (fun W hB => check_size W _ k k _ (by omega) h)).mono ?_
    rintro e w' ⟨rfl, h2⟩
    exact ⟨none, 0, 0, 1, rfl, .inl ⟨h, rfl, rfl⟩, h2⟩
  · refine (run_ok w b k (by omega) (by omega) (fun j hj => by simp [World.cell?, hb, made_at _ _ _ hj])).mono ?_
    rintro e w' ⟨a, c, rfl, h2⟩
    exact ⟨a, k, c, 0, rfl, .inr ⟨by omega, by omega, rfl, rfl⟩, h2⟩
theorem walk (W : World) (hL : True) (a : Int) (wa : (Lit.int .i64 a).wf = true) (b : Int) (wb : (Lit.int .i64 b).wf = true) :
    Calls Tryz.prog 3 #[.int .i64 a, .int .i64 b] W fun e w' => e = .returned (.bool true) ∧ Below W.heap.size W w' := by
  have hp := fun w => picked_top a 8 w _ (fun w => pck_any a 8 w (rn_of wa) (by omega) (by omega))
  obtain ⟨p0, p1⟩ := pck_in a 8 (by omega)
  obtain ⟨k, hkk⟩ : ∃ k : Nat, pck a 8 = (k : Int) := ⟨(pck a 8).toNat, by omega⟩
  rw [hkk] at hp p0 p1
  have HP := Lib.hid hp
  have hq := fun w => picked_top b 9 w _ (fun w => pck_any b 9 w (rn_of wb) (by omega) (by omega))
  obtain ⟨q0, q1⟩ := pck_in b 9 (by omega)
  obtain ⟨q, hqq⟩ : ∃ q, q = pck b 9 := ⟨_, rfl⟩
  rw [← hqq] at hq q0 q1
  have HQ := Lib.hid hq
  have HM1 : Hid (∀ W' : World, (Instr.makeSlice 23 (.int .i64 (k : Int)) (.int .i64 (k : Int))).run Tryz.prog W' = .ok (.slice (some ⟨W'.heap.size, 0, none⟩) k k) (W'.alloc (.cells (madeCells #[.slice none 0 0] k) 34))) := Lib.hid (fun W' => run_make_row' 23 34 (.slice none 0 0) 24 Tryz.underlying23 Tryz.info34 rfl .i64 .i64 k (by omega) (by omega) W')
  have HM2 : Hid (∀ W' : World, (Instr.makeSlice 34 (.int .i64 21) (.int .i64 21)).run Tryz.prog W' = .ok (.slice (some ⟨W'.heap.size, 0, none⟩) 21 21) (W'.alloc (.cells (madeCells #[.string ⟨#[]⟩] 21) 9))) := Lib.hid (fun W' => run_make_row' 34 9 (.string ⟨#[]⟩) 16 Tryz.underlying34 Tryz.info9 rfl .i64 .i64 21 (by omega) (by omega) W')
  clear hp hq hqq hkk hL
  have hm1 := HM1.out W
  go_enter Tryz.func3, Tryz.ntmps3
  go_wp2_with (go_at_call 4; ((with_reducible refine (HP.out _).mono ?_); rintro e w' ⟨rfl, rfl⟩))
  refine (first_any _ W.heap.size k (by omega) (new0 W _)).mono ?_
  rintro e w1 ⟨ra, rn, rc, r, rfl, hcase, hb1⟩
  have HB1 : Hid (Below W.heap.size W w1) := Lib.hid (into (by go_grown) hb1)
  have HCS := Lib.hid hcase
  have hz1 := HB1.out.size
  clear hb1 hcase hm1
  have hq1 : (1 : Int) ≤ 1 + q := by omega
  go_wp2_with (go_at_call 4; ((with_reducible refine (HQ.out _).mono ?_); rintro e w' ⟨rfl, rfl⟩))
  refine (run_rng _ (w1.heap.size + 1 + 1) (w1.heap.size + 1 + 1 + 1) (some ⟨w1.heap.size + 1, 0, none⟩) 1 1 (1 + q) hq1 (by go_simp) (by omega) (by go_simp)).mono ?_
  rintro e w2 ⟨rfl, hb2⟩
  have HB2 : Hid (Below w1.heap.size w1 w2) := Lib.hid (into (by go_grown) hb2)
  have HO2 : Hid (w2.heap[w1.heap.size]? = some (.cells #[.slice ra rn rc, .slice none 0 0, .slice none 0 0] 30 (0, 0))) := Lib.hid ((hb2.block w1.heap.size (by simp; omega)).trans (by rw [Below.heap_alloc _ _ _ (by simp; omega), Below.heap_alloc _ _ _ (by simp; omega), Below.heap_alloc _ _ _ (by simp)]; exact new0 w1 _))
  have hz2 : w1.heap.size < w2.heap.size := by have := hb2.size; simp at this; omega
  have hm2 := HM2.out (w2.alloc (.cells #[.slice none 0 0, .slice none 0 0, .slice none 0 0] 30))
  clear hb2 hq1
  go_wp2_with fail
  refine (run_long _ (w2.heap.size + 1 + 1) (some ⟨w2.heap.size + 1, 0, none⟩) 21 21 (by go_simp) (by omega) (by omega)).mono ?_
  rintro e w3 ⟨rfl, hb3⟩
  have HB3 : Hid (Below w2.heap.size w2 w3) := Lib.hid (into (by go_grown) hb3)
  have r3 := (HB3.out.block w1.heap.size hz2).trans HO2.out
  have hz3 := HB3.out.size
  have o0 : (w3.alloc (.cells #[.slice none 0 0, .slice none 0 0, .slice none 0 0] 30)).cell? ⟨w1.heap.size, 0, none⟩ = some (.slice ra rn rc) := ((Below.refl w3.heap.size w3).alloc (Nat.le_refl _) _).cell (p := ⟨w1.heap.size, 0, none⟩) (by show w1.heap.size < _; omega) |>.trans (by simp [World.cell?, r3])
  have HW := Lib.hid (into (into HB1.out HB2.out) HB3.out)
  clear hb3 r3 hm2
  rcases HCS.out with ⟨h, rfl, rfl⟩ | ⟨h1, h4, rfl, rfl⟩
  · rcases h with rfl | h
    · go_wp2_with fail
      go_ret
      exact ⟨rfl, HW.out.alloc HW.out.size _⟩
    · have h' : ¬ (k : Int) < 1 := by omega
      have h'' : (4 : Int) < (k : Int) := by omega
      go_wp2_with fail
      go_ret
      exact ⟨rfl, HW.out.alloc HW.out.size _⟩
  · have h' : ¬ (rn : Int) < 1 := by omega
    have h'' : ¬ (4 : Int) < (rn : Int) := by omega
    go_wp2_with fail
    go_ret
    exact ⟨rfl, HW.out.alloc HW.out.size _⟩

set_option maxRecDepth 100000 in
theorem lifted (os : Os) (started : os.Started) (H : Type) (enc : TypeId × Value → H) :
    ReturnsInHanded {} Tryz.checked os 3 .any (fun w args => (Rows.topRefusedSpec.pre enc Tryz.prog Tryz.f3 [] false w args ∧ laidZ w) ∧ sizedMet enc Tryz.prog Tryz.f3 (OpenSpec.ofChange Rows.topRefusedSpec) false w args) (Rows.topRefusedSpec.post enc Tryz.prog Tryz.f3 false true false false) := by
  refine returnsInHanded_of_change_and (C := Tryz.checked) (X := fun w _ => laidZ w) (fun _ _ _ hh h => h.of_heap hh) Tryz.own started (by kernel_rfl) Tryz.func3
    (ChangeSpec.witness_at (enc := enc) (C := Tryz.checked) (os := os) (X := fun w _ => laidZ w) false (tabledZ os) #[.int .i64 0, .int .i64 0] 8 rfl (by kernel_rfl) (by kernel_rfl) (by kernel_rfl) (by kernel_rfl) (by kernel_rfl) (tabledZ_laidZ os _)) ?_
  intro W base args ds gs before hval0 hW hcnd hsz0 hL _
  have hsz : (DataW.weightsEach Tryz.prog (Tryz.f3.params.toList ++ Rows.topRefusedSpec.plain.varTypes Tryz.prog) (ds ++ gs)).all (· ≤ reachBytes) = true := hsz0
  have hval : ∀ (j : Nat) t v, Tryz.f3.params[j]? = some t → args[j]? = some v → Value.okWide Tryz.prog W .any base t v := hval0
  have hW' := hW
  obtain ⟨p, q, hA0, hV, rfl, hfz, hnd⟩ := hW
  have hA : DataW.TrodAll enc Tryz.prog W 0 (fun _ => true) true Tryz.f3.params.toList args.toList ds p := hA0
  rw [Tryz.params3] at hA hval hsz
  obtain ⟨v0, v1, d0, d1, p0, p1, rfl, rfl, rfl, h0, h1⟩ := trodAll_two hA
  obtain ⟨rfl, rfl⟩ := trodVars_none hV
  obtain ⟨a0, rfl, rfl, rfl, w0⟩ := open_int Tryz.underlying3 (hval 0 3 v0 rfl rfl) h0
  obtain ⟨a1, rfl, rfl, rfl, w1⟩ := open_int Tryz.underlying3 (hval 1 3 v1 rfl rfl) h1
  clear hA0 hval0
  refine (walk W (Z_of hL) a0 w0 a1 w1).mono fun e W' ⟨he, hg⟩ => ?_
  subst he
  exact ⟨_, rfl, law_post (tb := 4) Tryz.laidOut (by kernel_rfl) (by kernel_rfl) Tryz.underlying4 rfl hW' hg rfl rfl rfl⟩

end Go.Proofs.YtbjdgkidnmklkaaGreatDoor.lTopRefused

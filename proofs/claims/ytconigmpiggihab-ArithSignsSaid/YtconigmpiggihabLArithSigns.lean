/- A difference the other way round is the other sign; nought and one do what they do: at every two numbers. No condition. -/
import Derived.Deep.RegionHeld3
import Derived.Test.YtconigmpiggihabFr
import Derived.Test.YtconigmpiggihabW8
import Derived.Test.YtconigmpiggihabK1
import Derived.Test.YtconigmpiggihabPa
namespace Go.Proofs.Ytconigmpiggihab.lArithSigns
open Go.ChangeShapes Go.WideShapes Go.ChangeAt Go.RowKit Go.Joins
open Go.ChangeMaps (open_string shut_string)
set_option linter.unusedVariables false
set_option linter.unusedSimpArgs false
set_option maxHeartbeats 400000

theorem numx_any (n : Int) (w : World) :
    Calls Try.prog 7 #[.int .i64 n] w fun e w' => e = .returned (.agg #[.int .i64 2, .int .i64 n, .string ⟨#[]⟩]) ∧ w' = w.alloc (.cells #[.int .i64 2, .int .i64 n, .string ⟨#[]⟩] 24) := by
  go_enter Try.func7, Try.ntmps7
  go_wp2
  go_returns
  exact ⟨rfl, rfl⟩
theorem numb_any (n : Int) (w : World) :
    Calls Try.prog 7 #[.int .i64 n] w fun e w' => e = .returned (.agg #[.int .i64 2, .int .i64 n, .string ⟨#[]⟩]) ∧ Below w.heap.size w w' :=
  (numx_any n w).mono fun _ _ ⟨h, g⟩ => ⟨h, by subst g; exact (Below.refl _ _).alloc (Nat.le_refl _) _⟩
theorem slot_drew {w w' : World} {B : Nat} {x y z : Value} (h : Slot w B x y z) (hb : Below w.drew.heap.size w.drew w') : Slot w' B x y z := Slot.below (w := w.drew) h hb
theorem into_drew {W w0 w1 : World} (h : Below W.heap.size W w0) (hb : Below w0.drew.heap.size w0.drew w1) : Below W.heap.size W w1 := into h.drew hb
theorem slot_new (w : World) (x y z : Value) (t : TypeId) : Slot (w.alloc (.cells #[x, y, z] t)) w.heap.size x y z := ⟨by simp, has3 (new0 _ _) (Below.refl _ _)⟩
theorem slotd {w : World} {B : Nat} {x y z : Value} (h : Slot w B x y z) : Slot w.drew B x y z := h
theorem belowA {w v : World} (h : Below w.heap.size w v) (o : Obj) : Below w.heap.size w (v.alloc o) := h.alloc h.size o
set_option maxHeartbeats 8000000 in
theorem core (a b x y d f : Int) (ha : Rng a) (hb0 : Rng b) (T1 : pck a 1099511627776 = x) (T2 : pck b 1099511627776 = y)
    (E1 : two 9 ⟨2, x, ⟨#[]⟩⟩ ⟨2, y, ⟨#[]⟩⟩ = (⟨2, d, ⟨#[]⟩⟩, 0)) (E2 : two 9 ⟨2, y, ⟨#[]⟩⟩ ⟨2, x, ⟨#[]⟩⟩ = (⟨2, f, ⟨#[]⟩⟩, 0)) (E3 : two 8 ⟨2, d, ⟨#[]⟩⟩ ⟨2, f, ⟨#[]⟩⟩ = (⟨2, 0, ⟨#[]⟩⟩, 0)) (E4 : two 10 ⟨2, a, ⟨#[]⟩⟩ ⟨2, 0, ⟨#[]⟩⟩ = (⟨2, 0, ⟨#[]⟩⟩, 0)) (E5 : two 10 ⟨2, a, ⟨#[]⟩⟩ ⟨2, 1, ⟨#[]⟩⟩ = (⟨2, a, ⟨#[]⟩⟩, 0)) (E6 : two 8 ⟨2, a, ⟨#[]⟩⟩ ⟨2, 0, ⟨#[]⟩⟩ = (⟨2, a, ⟨#[]⟩⟩, 0)) (w : World) :
    Calls Try.prog 3 #[.int .i64 a, .int .i64 b] w fun e w' => e = .returned (.bool true) ∧ Below w.heap.size w w' := by
  go_enter Try.func3, Try.ntmps3
  go_wp2_with fail
  refine (pckb_any _ _ _ ha (by omega) (by omega)).mono ?_
  rintro e w1 ⟨rfl, hb⟩
  have hB1 : Below w.heap.size w w1 := into (by go_grown) hb
  clear hb
  go_wp2_with fail
  refine (pckb_any _ _ _ hb0 (by omega) (by omega)).mono ?_
  rintro e w2 ⟨rfl, hb⟩
  have hB2 : Below w.heap.size w w2 := into hB1 hb
  clear hb
  go_wp2_with fail
  refine (numb_any _ _).mono ?_
  rintro e w3 ⟨rfl, hb⟩
  have hB3 : Below w.heap.size w w3 := into hB2 hb
  clear hb
  go_wp2_with fail
  refine (numb_any _ _).mono ?_
  rintro e w4 ⟨rfl, hb⟩
  have hB4 : Below w.heap.size w w4 := into hB3 hb
  clear hb
  go_wp2_with fail
  refine (two_any 9 _ _ _ _ _ _ _).mono ?_
  rintro e w5 ⟨rfl, hb⟩
  have hB5 : Below w.heap.size w w5 := into hB4 hb
  clear hb
  go_wp2_with fail
  refine (numb_any _ _).mono ?_
  rintro e w6 ⟨rfl, hb⟩
  obtain ⟨hz6, hb1, S_d⟩ := behind1 hb
  have hB6 : Below w.heap.size w w6 := into hB5 hb1
  clear hb hb1
  go_wp2_with fail
  refine (numb_any _ _).mono ?_
  rintro e w7 ⟨rfl, hb⟩
  have hB7 : Below w.heap.size w w7 := into hB6 hb
  replace S_d := S_d.below hb
  clear hb
  go_wp2_with fail
  refine (two_any 9 _ _ _ _ _ _ _).mono ?_
  rintro e w8 ⟨rfl, hb⟩
  have hB8 : Below w.heap.size w w8 := into hB7 hb
  replace S_d := S_d.below hb
  clear hb
  obtain ⟨u_d, x0_d, x1_d, x2_d, -⟩ := id S_d
  go_wp2_with fail
  clear u_d x0_d x1_d x2_d
  refine (two_any 8 _ _ _ _ _ _ _).mono ?_
  rintro e w9 ⟨rfl, hb⟩
  obtain ⟨hz9, hb1, S_f⟩ := behind1 hb
  have hB9 : Below w.heap.size w w9 := into hB8 hb1
  replace S_d := (S_d.alloc _).below hb
  clear hb hb1
  go_wp2_with fail
  refine (numb_any _ _).mono ?_
  rintro e w10 ⟨rfl, hb⟩
  obtain ⟨hz10, hb1, S_s⟩ := behind1 hb
  have hB10 : Below w.heap.size w w10 := into hB9 hb1
  replace S_d := (S_d.alloc _).below hb
  replace S_f := (S_f.alloc _).below hb
  clear hb hb1
  go_wp2_with fail
  refine (numb_any _ _).mono ?_
  rintro e w11 ⟨rfl, hb⟩
  have hB11 : Below w.heap.size w w11 := into hB10 hb
  replace S_d := S_d.below hb
  replace S_f := S_f.below hb
  replace S_s := S_s.below hb
  clear hb
  go_wp2_with fail
  refine (two_any 10 _ _ _ _ _ _ _).mono ?_
  rintro e w12 ⟨rfl, hb⟩
  have hB12 : Below w.heap.size w w12 := into hB11 hb
  replace S_d := S_d.below hb
  replace S_f := S_f.below hb
  replace S_s := S_s.below hb
  clear hb
  go_wp2_with fail
  refine (numb_any _ _).mono ?_
  rintro e w13 ⟨rfl, hb⟩
  obtain ⟨hz13, hb1, S_z⟩ := behind1 hb
  have hB13 : Below w.heap.size w w13 := into hB12 hb1
  replace S_d := (S_d.alloc _).below hb
  replace S_f := (S_f.alloc _).below hb
  replace S_s := (S_s.alloc _).below hb
  clear hb hb1
  go_wp2_with fail
  refine (numb_any _ _).mono ?_
  rintro e w14 ⟨rfl, hb⟩
  have hB14 : Below w.heap.size w w14 := into hB13 hb
  replace S_d := S_d.below hb
  replace S_f := S_f.below hb
  replace S_s := S_s.below hb
  replace S_z := S_z.below hb
  clear hb
  go_wp2_with fail
  refine (two_any 10 _ _ _ _ _ _ _).mono ?_
  rintro e w15 ⟨rfl, hb⟩
  have hB15 : Below w.heap.size w w15 := into hB14 hb
  replace S_d := S_d.below hb
  replace S_f := S_f.below hb
  replace S_s := S_s.below hb
  replace S_z := S_z.below hb
  clear hb
  go_wp2_with fail
  refine (numb_any _ _).mono ?_
  rintro e w16 ⟨rfl, hb⟩
  obtain ⟨hz16, hb1, S_o⟩ := behind1 hb
  have hB16 : Below w.heap.size w w16 := into hB15 hb1
  replace S_d := (S_d.alloc _).below hb
  replace S_f := (S_f.alloc _).below hb
  replace S_s := (S_s.alloc _).below hb
  replace S_z := (S_z.alloc _).below hb
  clear hb hb1
  go_wp2_with fail
  refine (numb_any _ _).mono ?_
  rintro e w17 ⟨rfl, hb⟩
  have hB17 : Below w.heap.size w w17 := into hB16 hb
  replace S_d := S_d.below hb
  replace S_f := S_f.below hb
  replace S_s := S_s.below hb
  replace S_z := S_z.below hb
  replace S_o := S_o.below hb
  clear hb
  go_wp2_with fail
  refine (two_any 8 _ _ _ _ _ _ _).mono ?_
  rintro e w18 ⟨rfl, hb⟩
  have hB18 : Below w.heap.size w w18 := into hB17 hb
  replace S_d := S_d.below hb
  replace S_f := S_f.below hb
  replace S_s := S_s.below hb
  replace S_z := S_z.below hb
  replace S_o := S_o.below hb
  clear hb
  obtain ⟨u_s, x0_s, x1_s, x2_s, -⟩ := id S_s
  obtain ⟨u_z, x0_z, x1_z, x2_z, -⟩ := id S_z
  obtain ⟨u_o, x0_o, x1_o, x2_o, -⟩ := id S_o
  have hBz := hB18.size
  go_wp2_with fail
  have S_m := slot_new w18 (.int .i64 2) (.int .i64 a) (.string ⟨#[]⟩) 24
  replace S_s := S_s.alloc (.cells #[.int .i64 2, .int .i64 a, .string ⟨#[]⟩] 24)
  replace S_z := S_z.alloc (.cells #[.int .i64 2, .int .i64 a, .string ⟨#[]⟩] 24)
  replace S_o := S_o.alloc (.cells #[.int .i64 2, .int .i64 a, .string ⟨#[]⟩] 24)
  have hBv : Below w.heap.size w (w18.alloc (.cells #[.int .i64 2, .int .i64 a, .string ⟨#[]⟩] 24)) := by go_grown
  clear u_s x0_s x1_s x2_s u_z x0_z x1_z x2_z u_o x0_o x1_o x2_o hB18 hBz
  generalize w18.alloc (.cells #[.int .i64 2, .int .i64 a, .string ⟨#[]⟩] 24) = w19 at *
  obtain ⟨u_s, x0_s, x1_s, x2_s, -⟩ := id S_s
  obtain ⟨u_z, x0_z, x1_z, x2_z, -⟩ := id S_z
  obtain ⟨u_o, x0_o, x1_o, x2_o, -⟩ := id S_o
  obtain ⟨u_m, x0_m, x1_m, x2_m, -⟩ := id S_m
  go_region_held3 (fun wx => (Below w.heap.size w wx ∧ w18.heap.size < wx.heap.size) ∧ wx.cell? ⟨w9.heap.size, 0, none⟩ = some (.int .i64 2) ∧ wx.cell? ⟨w9.heap.size, 1, none⟩ = some (.int .i64 0) ∧ wx.cell? ⟨w9.heap.size, 2, none⟩ = some (.string ⟨#[]⟩) ∧ wx.cell? ⟨w12.heap.size, 0, none⟩ = some (.int .i64 2) ∧ wx.cell? ⟨w12.heap.size, 1, none⟩ = some (.int .i64 0) ∧ wx.cell? ⟨w12.heap.size, 2, none⟩ = some (.string ⟨#[]⟩) ∧ wx.cell? ⟨w15.heap.size, 0, none⟩ = some (.int .i64 2) ∧ wx.cell? ⟨w15.heap.size, 1, none⟩ = some (.int .i64 a) ∧ wx.cell? ⟨w15.heap.size, 2, none⟩ = some (.string ⟨#[]⟩) ∧ wx.cell? ⟨w18.heap.size, 0, none⟩ = some (.int .i64 2) ∧ wx.cell? ⟨w18.heap.size, 1, none⟩ = some (.int .i64 a) ∧ wx.cell? ⟨w18.heap.size, 2, none⟩ = some (.string ⟨#[]⟩)) (first | exact ⟨⟨hBv.drew, (slotd S_m).1⟩, (slotd S_s).2.1, (slotd S_s).2.2.1, (slotd S_s).2.2.2.1, (slotd S_z).2.1, (slotd S_z).2.2.1, (slotd S_z).2.2.2.1, (slotd S_o).2.1, (slotd S_o).2.2.1, (slotd S_o).2.2.2.1, (slotd S_m).2.1, (slotd S_m).2.2.1, (slotd S_m).2.2.2.1⟩ | exact ⟨⟨(belowA hBv _).drew, (slotd (S_m.alloc _)).1⟩, (slotd (S_s.alloc _)).2.1, (slotd (S_s.alloc _)).2.2.1, (slotd (S_s.alloc _)).2.2.2.1, (slotd (S_z.alloc _)).2.1, (slotd (S_z.alloc _)).2.2.1, (slotd (S_z.alloc _)).2.2.2.1, (slotd (S_o.alloc _)).2.1, (slotd (S_o.alloc _)).2.2.1, (slotd (S_o.alloc _)).2.2.2.1, (slotd (S_m.alloc _)).2.1, (slotd (S_m.alloc _)).2.2.1, (slotd (S_m.alloc _)).2.2.2.1⟩ | exact ⟨⟨(belowA (belowA hBv _) _).drew, (slotd ((S_m.alloc _).alloc _)).1⟩, (slotd ((S_s.alloc _).alloc _)).2.1, (slotd ((S_s.alloc _).alloc _)).2.2.1, (slotd ((S_s.alloc _).alloc _)).2.2.2.1, (slotd ((S_z.alloc _).alloc _)).2.1, (slotd ((S_z.alloc _).alloc _)).2.2.1, (slotd ((S_z.alloc _).alloc _)).2.2.2.1, (slotd ((S_o.alloc _).alloc _)).2.1, (slotd ((S_o.alloc _).alloc _)).2.2.1, (slotd ((S_o.alloc _).alloc _)).2.2.2.1, (slotd ((S_m.alloc _).alloc _)).2.1, (slotd ((S_m.alloc _).alloc _)).2.2.1, (slotd ((S_m.alloc _).alloc _)).2.2.2.1⟩ | exact ⟨⟨(belowA (belowA (belowA hBv _) _) _).drew, (slotd (((S_m.alloc _).alloc _).alloc _)).1⟩, (slotd (((S_s.alloc _).alloc _).alloc _)).2.1, (slotd (((S_s.alloc _).alloc _).alloc _)).2.2.1, (slotd (((S_s.alloc _).alloc _).alloc _)).2.2.2.1, (slotd (((S_z.alloc _).alloc _).alloc _)).2.1, (slotd (((S_z.alloc _).alloc _).alloc _)).2.2.1, (slotd (((S_z.alloc _).alloc _).alloc _)).2.2.2.1, (slotd (((S_o.alloc _).alloc _).alloc _)).2.1, (slotd (((S_o.alloc _).alloc _).alloc _)).2.2.1, (slotd (((S_o.alloc _).alloc _).alloc _)).2.2.2.1, (slotd (((S_m.alloc _).alloc _).alloc _)).2.1, (slotd (((S_m.alloc _).alloc _).alloc _)).2.2.1, (slotd (((S_m.alloc _).alloc _).alloc _)).2.2.2.1⟩ | exact ⟨⟨(belowA (belowA (belowA (belowA hBv _) _) _) _).drew, (slotd ((((S_m.alloc _).alloc _).alloc _).alloc _)).1⟩, (slotd ((((S_s.alloc _).alloc _).alloc _).alloc _)).2.1, (slotd ((((S_s.alloc _).alloc _).alloc _).alloc _)).2.2.1, (slotd ((((S_s.alloc _).alloc _).alloc _).alloc _)).2.2.2.1, (slotd ((((S_z.alloc _).alloc _).alloc _).alloc _)).2.1, (slotd ((((S_z.alloc _).alloc _).alloc _).alloc _)).2.2.1, (slotd ((((S_z.alloc _).alloc _).alloc _).alloc _)).2.2.2.1, (slotd ((((S_o.alloc _).alloc _).alloc _).alloc _)).2.1, (slotd ((((S_o.alloc _).alloc _).alloc _).alloc _)).2.2.1, (slotd ((((S_o.alloc _).alloc _).alloc _).alloc _)).2.2.2.1, (slotd ((((S_m.alloc _).alloc _).alloc _).alloc _)).2.1, (slotd ((((S_m.alloc _).alloc _).alloc _).alloc _)).2.2.1, (slotd ((((S_m.alloc _).alloc _).alloc _).alloc _)).2.2.2.1⟩)
    (first | (go_at_call 7; ((with_reducible refine (numx_any _ _).mono ?_); rintro e we ⟨rfl, rfl⟩)))
  all_goals (
    go_wp2_with fail
    go_ret
    refine ⟨rb (by simp), ?_⟩
    first | (go_grown; done) | exact (belowA (belowA (belowA (belowA hBv _) _) _) _).drew)

theorem walk (a : Int) (wa : (Lit.int .i64 a).wf = true) (b : Int) (wb : (Lit.int .i64 b).wf = true) (w : World) :
    Calls Try.prog 3 #[.int .i64 a, .int .i64 b] w fun e w' => e = .returned (.bool true) ∧ Below w.heap.size w w' := by
  have ha := rng_of wa
  have hb := rng_of wb
  have hm := pck_in a 1099511627776 (by omega)
  have hn := pck_in b 1099511627776 (by omega)
  generalize hm' : pck a 1099511627776 = x at hm
  generalize hn' : pck b 1099511627776 = y at hn
  have rx : Rng x := rng_small (by omega) (by omega)
  have ry : Rng y := rng_small (by omega) (by omega)
  have r0 : Rng 0 := rng_small (by omega) (by omega)
  have r1 : Rng 1 := rng_small (by omega) (by omega)
  have rd : Rng (x - y) := by unfold Rng; omega
  have rf : Rng (y - x) := by unfold Rng; omega
  have es : x - y + (y - x) = 0 := by omega
  have ez : a * 0 = 0 := Int.mul_zero a
  have eo : a * 1 = a := Int.mul_one a
  have em : a + 0 = a := Int.add_zero a
  refine core a b x y (x - y) (y - x) ha hb hm' hn' ?_ ?_ ?_ ?_ ?_ ?_ w
  · rw [two_sub x y rx ry, if_pos rd]
  · rw [two_sub y x ry rx, if_pos rf]
  · rw [two_add _ _ rd rf, es, if_pos r0]
  · rw [two_mul a 0 ha r0, ez, if_pos r0]
  · rw [two_mul a 1 ha r1, eo, if_pos ha]
  · rw [two_add a 0 ha r0, em, if_pos ha]

theorem lifted (os : Os) (started : os.Started) (H : Type) (enc : TypeId × Value → H) :
    ReturnsInHanded {} Try.checked os 3 .any (Rows.arithSignsSpec.pre6 enc Try.prog Try.f3 Rows.arithSignsRow.domain false) (Rows.arithSignsSpec.post enc Try.prog Try.f3 false true false false) := by
  refine returnsInHanded_of_change (C := Try.checked) Try.own started (by kernel_rfl) Try.func3
    (ChangeSpec.witness6 (enc := enc) (C := Try.checked) false ⟨#[], #[.int .i64 0, .int .i64 0], []⟩ 8 (by kernel_rfl) (by kernel_rfl) (by kernel_rfl) (by kernel_rfl)) ?_
  intro W base args ds gs before hval0 hW hcnd _
  have hval : ∀ (j : Nat) t v, Try.f3.params[j]? = some t → args[j]? = some v → Value.okWide Try.prog W .any base t v := hval0
  have hW' := hW
  obtain ⟨p, q, hA0, hV, rfl, hfz, hnd⟩ := hW
  have hA : DataW.TrodAll enc Try.prog W 0 (fun _ => true) true Try.f3.params.toList args.toList ds p := hA0
  rw [Try.params3] at hA hval
  obtain ⟨v0, v1, d0, d1, p0, p1, rfl, rfl, rfl, h0, h1⟩ := trodAll_two hA
  obtain ⟨rfl, rfl⟩ := trodVars_none hV
  obtain ⟨a0, rfl, rfl, rfl, w0⟩ := open_int Try.underlying3 (hval 0 3 v0 rfl rfl) h0
  obtain ⟨a1, rfl, rfl, rfl, w1⟩ := open_int Try.underlying3 (hval 1 3 v1 rfl rfl) h1
  clear hA0 hval0
  refine (walk a0 w0 a1 w1 W).mono fun e W' ⟨he, hg⟩ => ?_
  subst he
  exact ⟨_, rfl, law_post (tb := 4) Try.laidOut (by kernel_rfl) (by kernel_rfl) Try.underlying4 rfl hW' hg rfl rfl rfl⟩

theorem proved : Rows.ArithSignsSaid :=
  OpenClaim.holds_of_wide 3 Try.f3 rfl rfl rfl rfl rfl rfl rfl ⟨rfl, rfl, rfl, rfl, rfl⟩ rfl rfl rfl rfl rfl (by kernel_rfl) Try.func3 (by kernel_rfl)
    (of_decide_eq_true (by kernel_rfl)) (by unfold Func.isWrapper; first | (rw [if_pos (by decide +kernel)]; kernel_rfl) | (rw [if_neg (by decide +kernel)]; exact ⟨rfl, rfl⟩))
    (fun os started H enc _ => lifted os started H enc)
#print axioms proved
end Go.Proofs.Ytconigmpiggihab.lArithSigns

import Derived.Test.YtakhkcabahhohaaDoorC1
import Derived.Test.YtakhkcabahhohaaDoorC2
namespace Go.Proofs.YtakhkcabahhohaaDoor
open Go.ChangeShapes Go.WideShapes Go.ChangeAt Go.RowKit
set_option linter.unusedVariables false
set_option linter.unusedSimpArgs false
set_option maxHeartbeats 1000000
theorem own_to {w : World} {B e s n n' : Nat} {v : Value} {xs ys : List Value} (h : w.ownsRow B e s v n xs) (hn : n = n') (hx : xs = ys) : w.ownsRow B e s v n' ys := by subst hn; subst hx; exact h
theorem put_any (B m : Nat) (v : Value) (xs : List Value) (k n : Int) (t : ByteArray) (w : World) (ho : Ok ⟨k, n, t⟩) (hB : B ≤ w.heap.size) (hm : m ≤ 10000) (hown : w.ownsRow B 5 1 v m xs) :
    Calls Tryd.prog 21 #[v, .agg #[.int .i64 k, .int .i64 n, .string t]] w fun e w' => ∃ v', e = .returned v' ∧ w'.ownsRow B 5 1 v' (m + (enc1 ⟨k, n, t⟩).length) (xs ++ bc (enc1 ⟨k, n, t⟩)) ∧ Below B w w' := by
  have HO := Lib.hid hown
  obtain ⟨h0, h3, ht, hn0, hn1, hn3⟩ := chk0 ho.1
  have hts := text_size ho
  have hrn := ho.2
  have HOk := Lib.hid ho
  simp only at h0 h3 ht hn0 hn1 hn3 hts hrn
  have HT := Lib.hid ht
  clear hown ho ht
  have hk : k = 0 ∨ k = 1 ∨ k = 2 ∨ k = 3 := by omega
  rcases hk with rfl | rfl | rfl | rfl
  · clear h0 h3 hn0 hn1 hn3 hts hrn
    go_enter Tryd.func21, Tryd.ntmps21
    go_wp2_with (at_builtin; refine ap1 _ rfl (.tmp 5) (.tmp 9) rfl (HO.out.alloc _) (by simp; omega) (by omega) rfl _ (by simp) rfl rfl ?_; intro v1 w1 hown1 hb1 hg1; obtain ⟨c0, c1, c2, f0, f1, f2⟩ := box_grown HO.out hg1)
    go_ret
    refine ⟨_, rfl, ?_, ((Below.refl _ _).alloc hB _).trans hb1⟩
    exact own_to hown1 (by simp [enc1, tail1]) (by simp [enc1, tail1, bc])
  · have hn' := hn1 rfl
    clear h0 h3 hn0 hn1 hn3 hts hrn
    rcases hn' with rfl | rfl
    all_goals (
      go_enter Tryd.func21, Tryd.ntmps21
      go_wp2_with (first | (at_builtin; refine ap1 _ rfl (.tmp 5) (.tmp 9) rfl (HO.out.alloc _) (by simp; omega) (by omega) rfl _ (by simp) rfl rfl ?_; intro v1 w1 hown1 hb1 hg1; have hz1 := hb1.size; simp only [World.size_alloc] at hz1; obtain ⟨c0, c1, c2, f0, f1, f2⟩ := box_grown HO.out hg1) | (at_builtin; refine ap1 w1 rfl (.tmp 15) (.tmp 19) rfl hown1 (by omega) (by omega) rfl _ rfl rfl rfl ?_; intro v2 w2 hown2 hb2 _))
      go_ret
      refine ⟨_, rfl, ?_, (((Below.refl _ _).alloc hB _).trans hb1).trans hb2⟩
      exact own_to hown2 (by simp [enc1, tail1]) (by simp [enc1, tail1, bc]))
  · have hx : Rng n := hrn
    have HX := Lib.hid hx
    clear h0 h3 hn0 hn1 hn3 hts hrn hx
    go_enter Tryd.func21, Tryd.ntmps21
    go_wp2_with (first | (at_builtin; refine ap1 _ rfl (.tmp 5) (.tmp 9) rfl (HO.out.alloc _) (by simp; omega) (by omega) rfl _ (by simp) rfl rfl ?_; intro v1 w1 hown1 hb1 hg1; have hz1 := hb1.size; simp only [World.size_alloc] at hz1; obtain ⟨c0, c1, c2, f0, f1, f2⟩ := box_grown HO.out hg1) | (go_at_call 28; refine (pn_any B _ _ _ _ _ HX.out (by omega) (by omega) hown1).mono ?_; rintro e w2 ⟨v2, rfl, hown2, hb2⟩))
    go_ret
    refine ⟨_, rfl, ?_, (((Below.refl _ _).alloc hB _).trans hb1).trans hb2⟩
    exact own_to hown2 (by simp [enc1, tail1, be8, be_length]) (by simp [enc1, tail1, bc])
  · clear h0 h3 hn0 hn1 hn3 hrn
    have HS := Lib.hid hts
    clear hts
    go_enter Tryd.func21, Tryd.ntmps21
    go_wp2_with (first | (at_builtin; refine ap1 _ rfl (.tmp 5) (.tmp 9) rfl (HO.out.alloc _) (by simp; omega) (by omega) rfl _ (by simp) rfl rfl ?_; intro v1 w1 hown1 hb1 hg1; have hz1 := hb1.size; simp only [World.size_alloc] at hz1; obtain ⟨c0, c1, c2, f0, f1, f2⟩ := box_grown HO.out hg1) | (go_at_call 29; refine (pt_any B _ _ _ _ _ (Nat.le_trans HS.out (by omega)) (by omega) (by omega) hown1).mono ?_; rintro e w2 ⟨v2, rfl, hown2, hb2⟩))
    go_ret
    refine ⟨_, rfl, ?_, (((Below.refl _ _).alloc hB _).trans hb1).trans hb2⟩
    exact own_to hown2 (by simp [enc1, tail1]; omega) (by simp [enc1, tail1, bc])
end Go.Proofs.YtakhkcabahhohaaDoor

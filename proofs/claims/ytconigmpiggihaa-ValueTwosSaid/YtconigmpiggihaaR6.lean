import Derived.Test.YtconigmpiggihaaRa8
import Derived.Test.YtconigmpiggihaaRa9
import Derived.Test.YtconigmpiggihaaRa10
import Derived.Test.YtconigmpiggihaaRb
import Derived.Test.YtconigmpiggihaaRc6
import Derived.Test.YtconigmpiggihaaRc7
import Derived.Test.YtconigmpiggihaaRf
import Derived.Test.YtconigmpiggihaaRe3a
import Derived.Test.YtconigmpiggihaaRe3b
import Derived.Test.YtconigmpiggihaaRe3c
import Derived.Test.YtconigmpiggihaaRe3d
import Derived.Test.YtconigmpiggihaaRe3e
import Derived.Test.YtconigmpiggihaaRe4a
import Derived.Test.YtconigmpiggihaaRe4b
import Derived.Test.YtconigmpiggihaaRe4c
import Derived.Test.YtconigmpiggihaaRe4d
import Derived.Test.YtconigmpiggihaaRe4e
namespace Go.Proofs.Ytconigmpiggihaa
open Go.ChangeShapes Go.WideShapes Go.ChangeAt Go.RowKit
set_option linter.unusedVariables false
set_option linter.unusedSimpArgs false
set_option maxHeartbeats 400000
theorem tms_wrap (a b : Int) : (tms a b).1 = wrap64 (a * b) := by
  unfold tms
  by_cases h0 : a = 0
  · subst h0; simp [wrap64]
  by_cases h1 : a = -1
  · subst h1
    have e : (-1 : Int) * b = -b := by omega
    simp [e]
  simp [h0, h1]
theorem lg_of {k n : Int} {s : ByteArray} (h : chk k n s = 0) (hk : k = 0 ∨ k = 1) : (k = 0 ∧ n = 0 ∧ s = ⟨#[]⟩) ∨ (k = 1 ∧ n = 0 ∧ s = ⟨#[]⟩) ∨ (k = 1 ∧ n = 1 ∧ s = ⟨#[]⟩) := by
  obtain ⟨_, _, h1, h2, h3, _⟩ := chk0 h
  rcases hk with rfl | rfl
  · exact .inl ⟨rfl, h2 rfl, h1 (by omega)⟩
  · rcases h3 rfl with g | g
    · exact .inr (.inl ⟨rfl, g, h1 (by omega)⟩)
    · exact .inr (.inr ⟨rfl, g, h1 (by omega)⟩)
theorem rtwo_any (d k n k' n' : Int) (s s' : ByteArray) (w : World) (hn : Rng n) (hn' : Rng n') :
    Calls Try.prog 20 #[.int .i64 d, .agg #[.int .i64 k, .int .i64 n, .string s], .agg #[.int .i64 k', .int .i64 n', .string s']] w fun e w' => e = .returned (.tuple #[.agg #[.int .i64 (two d ⟨k, n, s⟩ ⟨k', n', s'⟩).1.k, .int .i64 (two d ⟨k, n, s⟩ ⟨k', n', s'⟩).1.n, .string (two d ⟨k, n, s⟩ ⟨k', n', s'⟩).1.t], .int .i64 (two d ⟨k, n, s⟩ ⟨k', n', s'⟩).2]) ∧ Below w.heap.size w w' := by
  by_cases hc : chk2 ⟨k, n, s⟩ ⟨k', n', s'⟩ = 0
  case neg => exact rtE d k n k' n' s s' w hc
  obtain ⟨g1, g2⟩ := chk20 hc
  simp only at g1 g2
  by_cases h3 : d = 3
  · subst h3
    by_cases hk : k = 0 ∨ k = 1
    case neg => exact rt3x k n k' n' s s' w hc (fun q => hk (.inl q)) (fun q => hk (.inr q))
    by_cases hk' : k' = 0 ∨ k' = 1
    case neg => exact rt3y k n k' n' s s' w hc (fun q => hk' (.inl q)) (fun q => hk' (.inr q))
    rcases lg_of g1 hk with ⟨rfl, rfl, rfl⟩ | ⟨rfl, rfl, rfl⟩ | ⟨rfl, rfl, rfl⟩ <;> rcases lg_of g2 hk' with ⟨rfl, rfl, rfl⟩ | ⟨rfl, rfl, rfl⟩ | ⟨rfl, rfl, rfl⟩
    · have ht : two 3 ⟨0, 0, ⟨#[]⟩⟩ ⟨0, 0, ⟨#[]⟩⟩ = (⟨0, 0, ⟨#[]⟩⟩, 0) := by simp [two, chk2, chk, nmb, join, known, unk, tru, nul, e_list, e_size]
      refine (rt3_0 w hc ht).mono ?_
      rintro e w' ⟨rfl, hb⟩
      exact ⟨rt ht, hb⟩
    · have ht : two 3 ⟨0, 0, ⟨#[]⟩⟩ ⟨1, 0, ⟨#[]⟩⟩ = (⟨1, 0, ⟨#[]⟩⟩, 0) := by simp [two, chk2, chk, nmb, join, known, unk, tru, nul, e_list, e_size]
      refine (rt3_1 w hc ht).mono ?_
      rintro e w' ⟨rfl, hb⟩
      exact ⟨rt ht, hb⟩
    · have ht : two 3 ⟨0, 0, ⟨#[]⟩⟩ ⟨1, 1, ⟨#[]⟩⟩ = (⟨0, 0, ⟨#[]⟩⟩, 0) := by simp [two, chk2, chk, nmb, join, known, unk, tru, nul, e_list, e_size]
      refine (rt3_2 w hc ht).mono ?_
      rintro e w' ⟨rfl, hb⟩
      exact ⟨rt ht, hb⟩
    · have ht : two 3 ⟨1, 0, ⟨#[]⟩⟩ ⟨0, 0, ⟨#[]⟩⟩ = (⟨1, 0, ⟨#[]⟩⟩, 0) := by simp [two, chk2, chk, nmb, join, known, unk, tru, nul, e_list, e_size]
      refine (rt3_3 w hc ht).mono ?_
      rintro e w' ⟨rfl, hb⟩
      exact ⟨rt ht, hb⟩
    · have ht : two 3 ⟨1, 0, ⟨#[]⟩⟩ ⟨1, 0, ⟨#[]⟩⟩ = (⟨1, 0, ⟨#[]⟩⟩, 0) := by simp [two, chk2, chk, nmb, join, known, unk, tru, nul, e_list, e_size]
      refine (rt3_4 w hc ht).mono ?_
      rintro e w' ⟨rfl, hb⟩
      exact ⟨rt ht, hb⟩
    · have ht : two 3 ⟨1, 0, ⟨#[]⟩⟩ ⟨1, 1, ⟨#[]⟩⟩ = (⟨1, 0, ⟨#[]⟩⟩, 0) := by simp [two, chk2, chk, nmb, join, known, unk, tru, nul, e_list, e_size]
      refine (rt3_5 w hc ht).mono ?_
      rintro e w' ⟨rfl, hb⟩
      exact ⟨rt ht, hb⟩
    · have ht : two 3 ⟨1, 1, ⟨#[]⟩⟩ ⟨0, 0, ⟨#[]⟩⟩ = (⟨0, 0, ⟨#[]⟩⟩, 0) := by simp [two, chk2, chk, nmb, join, known, unk, tru, nul, e_list, e_size]
      refine (rt3_6 w hc ht).mono ?_
      rintro e w' ⟨rfl, hb⟩
      exact ⟨rt ht, hb⟩
    · have ht : two 3 ⟨1, 1, ⟨#[]⟩⟩ ⟨1, 0, ⟨#[]⟩⟩ = (⟨1, 0, ⟨#[]⟩⟩, 0) := by simp [two, chk2, chk, nmb, join, known, unk, tru, nul, e_list, e_size]
      refine (rt3_7 w hc ht).mono ?_
      rintro e w' ⟨rfl, hb⟩
      exact ⟨rt ht, hb⟩
    · have ht : two 3 ⟨1, 1, ⟨#[]⟩⟩ ⟨1, 1, ⟨#[]⟩⟩ = (⟨1, 1, ⟨#[]⟩⟩, 0) := by simp [two, chk2, chk, nmb, join, known, unk, tru, nul, e_list, e_size]
      refine (rt3_8 w hc ht).mono ?_
      rintro e w' ⟨rfl, hb⟩
      exact ⟨rt ht, hb⟩
  by_cases h4 : d = 4
  · subst h4
    by_cases hk : k = 0 ∨ k = 1
    case neg => exact rt4x k n k' n' s s' w hc (fun q => hk (.inl q)) (fun q => hk (.inr q))
    by_cases hk' : k' = 0 ∨ k' = 1
    case neg => exact rt4y k n k' n' s s' w hc (fun q => hk' (.inl q)) (fun q => hk' (.inr q))
    rcases lg_of g1 hk with ⟨rfl, rfl, rfl⟩ | ⟨rfl, rfl, rfl⟩ | ⟨rfl, rfl, rfl⟩ <;> rcases lg_of g2 hk' with ⟨rfl, rfl, rfl⟩ | ⟨rfl, rfl, rfl⟩ | ⟨rfl, rfl, rfl⟩
    · have ht : two 4 ⟨0, 0, ⟨#[]⟩⟩ ⟨0, 0, ⟨#[]⟩⟩ = (⟨0, 0, ⟨#[]⟩⟩, 0) := by simp [two, chk2, chk, nmb, join, known, unk, tru, nul, e_list, e_size]
      refine (rt4_0 w hc ht).mono ?_
      rintro e w' ⟨rfl, hb⟩
      exact ⟨rt ht, hb⟩
    · have ht : two 4 ⟨0, 0, ⟨#[]⟩⟩ ⟨1, 0, ⟨#[]⟩⟩ = (⟨0, 0, ⟨#[]⟩⟩, 0) := by simp [two, chk2, chk, nmb, join, known, unk, tru, nul, e_list, e_size]
      refine (rt4_1 w hc ht).mono ?_
      rintro e w' ⟨rfl, hb⟩
      exact ⟨rt ht, hb⟩
    · have ht : two 4 ⟨0, 0, ⟨#[]⟩⟩ ⟨1, 1, ⟨#[]⟩⟩ = (⟨1, 1, ⟨#[]⟩⟩, 0) := by simp [two, chk2, chk, nmb, join, known, unk, tru, nul, e_list, e_size]
      refine (rt4_2 w hc ht).mono ?_
      rintro e w' ⟨rfl, hb⟩
      exact ⟨rt ht, hb⟩
    · have ht : two 4 ⟨1, 0, ⟨#[]⟩⟩ ⟨0, 0, ⟨#[]⟩⟩ = (⟨0, 0, ⟨#[]⟩⟩, 0) := by simp [two, chk2, chk, nmb, join, known, unk, tru, nul, e_list, e_size]
      refine (rt4_3 w hc ht).mono ?_
      rintro e w' ⟨rfl, hb⟩
      exact ⟨rt ht, hb⟩
    · have ht : two 4 ⟨1, 0, ⟨#[]⟩⟩ ⟨1, 0, ⟨#[]⟩⟩ = (⟨1, 0, ⟨#[]⟩⟩, 0) := by simp [two, chk2, chk, nmb, join, known, unk, tru, nul, e_list, e_size]
      refine (rt4_4 w hc ht).mono ?_
      rintro e w' ⟨rfl, hb⟩
      exact ⟨rt ht, hb⟩
    · have ht : two 4 ⟨1, 0, ⟨#[]⟩⟩ ⟨1, 1, ⟨#[]⟩⟩ = (⟨1, 1, ⟨#[]⟩⟩, 0) := by simp [two, chk2, chk, nmb, join, known, unk, tru, nul, e_list, e_size]
      refine (rt4_5 w hc ht).mono ?_
      rintro e w' ⟨rfl, hb⟩
      exact ⟨rt ht, hb⟩
    · have ht : two 4 ⟨1, 1, ⟨#[]⟩⟩ ⟨0, 0, ⟨#[]⟩⟩ = (⟨1, 1, ⟨#[]⟩⟩, 0) := by simp [two, chk2, chk, nmb, join, known, unk, tru, nul, e_list, e_size]
      refine (rt4_6 w hc ht).mono ?_
      rintro e w' ⟨rfl, hb⟩
      exact ⟨rt ht, hb⟩
    · have ht : two 4 ⟨1, 1, ⟨#[]⟩⟩ ⟨1, 0, ⟨#[]⟩⟩ = (⟨1, 1, ⟨#[]⟩⟩, 0) := by simp [two, chk2, chk, nmb, join, known, unk, tru, nul, e_list, e_size]
      refine (rt4_7 w hc ht).mono ?_
      rintro e w' ⟨rfl, hb⟩
      exact ⟨rt ht, hb⟩
    · have ht : two 4 ⟨1, 1, ⟨#[]⟩⟩ ⟨1, 1, ⟨#[]⟩⟩ = (⟨1, 1, ⟨#[]⟩⟩, 0) := by simp [two, chk2, chk, nmb, join, known, unk, tru, nul, e_list, e_size]
      refine (rt4_8 w hc ht).mono ?_
      rintro e w' ⟨rfl, hb⟩
      exact ⟨rt ht, hb⟩
  by_cases h6 : d = 6
  · subst h6; exact rt6 k n k' n' s s' w hc
  by_cases h7 : d = 7
  · subst h7; exact rt7 k n k' n' s s' w hc
  by_cases h8 : d = 8
  · subst h8
    obtain ⟨p, q⟩ := cpt8 n n' hn hn'
    exact rt8 k n k' n' s s' w hc ⟨by rw [p, q]; simp, rfl⟩
  by_cases h9 : d = 9
  · subst h9
    obtain ⟨p, q⟩ := cpt9 n n' hn hn'
    exact rt9 k n k' n' s s' w hc ⟨by rw [p, q]; simp, rfl⟩
  by_cases h10 : d = 10
  · subst h10
    have e : cpt 10 n n' = tms n n' := by simp [cpt]
    have p := tms_fits n n' hn hn'
    have q := tms_lvs n n' hn hn'
    exact rt10 k n k' n' s s' w hc ⟨by rw [e, p, q]; simp, by rw [e]; exact tms_wrap n n'⟩
  exact rtB d k n k' n' s s' w hc ⟨h3, h4, h6, h7, h8, h9, h10⟩
end Go.Proofs.Ytconigmpiggihaa

/- What reads on some blocks reads on more of them. -/
import Derived.Test.YtahammkjkfdmhaaGw
namespace Go.Proofs.Ytahammkjkfdmhaa
open Go.ChangeShapes Go.WideShapes Go.ChangeAt Go.RowKit
set_option linter.unusedVariables false
theorem RB.mono {w : World} {ok ok' : Nat → Prop} {v : Value} {l : List UInt8} (h : RB w ok v l) (hm : ∀ b, ok b → ok' b) : RB w ok' v l := ⟨h.1, fun a n c e g => hm _ (h.2 a n c e g)⟩
theorem RP.mono {w : World} {ok ok' : Nat → Prop} {cs : List Value} {p : Pg} (h : RP w ok cs p) (hm : ∀ b, ok b → ok' b) : RP w ok' cs p := by
  obtain ⟨k, d, g, h0, ⟨us, k1, k2, k3⟩, ⟨d1, d2⟩, h3⟩ := h
  exact ⟨k, d, g, h0, ⟨us, k1, fun a n c e q => hm _ (k2 a n c e q), fun j s hs => by obtain ⟨x, h1, h2⟩ := k3 j s hs; exact ⟨x, h1, h2.mono hm⟩⟩, ⟨d1, fun a n c e q => hm _ (d2 a n c e q)⟩, h3.mono hm⟩
theorem RPs.mono {w : World} {ok ok' : Nat → Prop} {vs : List Value} {ps : List Pg} (h : RPs w ok vs ps) (hm : ∀ b, ok b → ok' b) : RPs w ok' vs ps := by
  refine ⟨h.1, fun i p hp => ?_⟩
  obtain ⟨k, d, g, h0, ⟨us, k1, k2, k3⟩, ⟨d1, d2⟩, h3⟩ := h.2 i p hp
  exact ⟨k, d, g, h0, ⟨us, k1, fun a n c e q => hm _ (k2 a n c e q), fun j s hs => by obtain ⟨x, h1, h2⟩ := k3 j s hs; exact ⟨x, h1, h2.mono hm⟩⟩, ⟨d1, fun a n c e q => hm _ (d2 a n c e q)⟩, h3.mono hm⟩
theorem RT.mono {w : World} {ok ok' : Nat → Prop} {v : Value} {t : Tr} (h : RT w ok v t) (hm : ∀ b, ok b → ok' b) : RT w ok' v t := by
  obtain ⟨s, vs, h0, h1, h2, h3⟩ := h
  exact ⟨s, vs, h0, h1, fun a n c e g => hm _ (h2 a n c e g), h3.mono hm⟩
end Go.Proofs.Ytahammkjkfdmhaa

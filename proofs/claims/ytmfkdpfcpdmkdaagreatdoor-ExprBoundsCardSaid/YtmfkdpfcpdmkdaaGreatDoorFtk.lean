import Derived.Test.YtmfkdpfcpdmkdaaGreatDoorFmk
/- Plain: the document's bounds of a tree are the program's. -/
namespace Go.Proofs.YtmfkdpfcpdmkdaaGreatDoor.bd
set_option linter.unusedVariables false
set_option linter.unusedSimpArgs false
set_option maxHeartbeats 1000000
def loS (c : ByteArray) (lo : List UInt8) (s : Tx) : List UInt8 := match sideT c s with
  | none => lo
  | some (d, v) => if d ≤ 0 then loW lo (enc [v]).1 else lo
def hiS (c : ByteArray) (hi : List UInt8) (s : Tx) : List UInt8 := match sideT c s with
  | none => hi
  | some (d, v) => if 0 ≤ d then hiW hi (enc [v]).1 else hi
def loL (c : ByteArray) (ts : List Tx) : List UInt8 := ts.foldl (loS c) []
def hiL (c : ByteArray) (ts : List Tx) : List UInt8 := ts.foldl (hiS c) []
theorem blt {a b c : List UInt8} (h1 : bl a b = true) (h2 : bl b c = true) : bl a c = true := bl_trans a b c h1 h2
theorem ble {a b c : List UInt8} (h1 : bl b a = false) (h2 : bl c b = false) : bl c a = false := by
  rcases h : bl c a with _ | _
  · rfl
  · rcases h3 : bl a b with _ | _
    · have := bl_tri a b h3 h1
      subst this
      rw [h] at h2; exact h2
    · have h4 : bl c b = true := bl_trans c a b h h3
      rw [h4] at h2; exact h2
theorem bn (k : List UInt8) : bl k [] = false := by cases k <;> rfl
theorem lo_nil (b : List UInt8) : loW [] b = b := by
  unfold loW
  cases b with
  | nil => rfl
  | cons x r => rfl
theorem lo_to (a : List UInt8) : loW a [] = a := by unfold loW; rw [bn]; rfl
theorem hi_nil (b : List UInt8) : hiW [] b = b := by unfold hiW; rw [if_pos (.inl rfl)]
theorem hi_to (a : List UInt8) : hiW a [] = a := by
  unfold hiW
  cases a with
  | nil => rfl
  | cons x r => rw [if_neg (by simp)]
theorem lo_assoc (a b c : List UInt8) : loW (loW a b) c = loW a (loW b c) := by
  unfold loW
  rcases h1 : bl a b with _ | _ <;> rcases h2 : bl b c with _ | _ <;> rcases h3 : bl a c with _ | _ <;> simp [h1, h2, h3]
  · have := ble (a := c) (b := b) (c := a) h2 h1
    rw [h3] at this; cases this
  · have := blt h1 h2
    rw [h3] at this; cases this
theorem hi_assoc (a b c : List UInt8) : hiW (hiW a b) c = hiW a (hiW b c) := by
  by_cases ha : a = []
  · subst ha; rw [hi_nil, hi_nil]
  by_cases hb : b = []
  · subst hb; rw [hi_to, hi_nil]
  by_cases hc : c = []
  · subst hc; rw [hi_to, hi_to]
  have la : ¬ a.length = 0 := fun h => ha (List.eq_nil_of_length_eq_zero h)
  have lb : ¬ b.length = 0 := fun h => hb (List.eq_nil_of_length_eq_zero h)
  have lc : 0 < c.length := by have : ¬ c.length = 0 := fun h => hc (List.eq_nil_of_length_eq_zero h); omega
  have lb' : 0 < b.length := by omega
  unfold hiW
  rcases h1 : bl b a with _ | _ <;> rcases h2 : bl c b with _ | _ <;> rcases h3 : bl c a with _ | _ <;> simp [h1, h2, h3, ha, hb, hc, la, lb, lc, lb']
  · have := ble (a := a) (b := b) (c := c) h1 h2
    rw [h3] at this; cases this
  · have := blt h2 h1
    rw [h3] at this; cases this
theorem lo_step (c : ByteArray) (x : List UInt8) (s : Tx) : loS c x s = loW x (loS c [] s) := by
  unfold loS
  split
  · rw [lo_to]
  · split
    · rw [lo_nil]
    · rw [lo_to]
theorem hi_step (c : ByteArray) (x : List UInt8) (s : Tx) : hiS c x s = hiW x (hiS c [] s) := by
  unfold hiS
  split
  · rw [hi_to]
  · split
    · rw [hi_nil]
    · rw [hi_to]
theorem lo_fold (c : ByteArray) : ∀ (ts : List Tx) (x : List UInt8), ts.foldl (loS c) x = loW x (loL c ts)
  | [], x => (lo_to x).symm
  | s :: ts, x => by
    show ts.foldl (loS c) (loS c x s) = loW x (ts.foldl (loS c) (loS c [] s))
    rw [lo_fold c ts, lo_fold c ts, ← lo_assoc, ← lo_step]
theorem hi_fold (c : ByteArray) : ∀ (ts : List Tx) (x : List UInt8), ts.foldl (hiS c) x = hiW x (hiL c ts)
  | [], x => (hi_to x).symm
  | s :: ts, x => by
    show ts.foldl (hiS c) (hiS c x s) = hiW x (ts.foldl (hiS c) (hiS c [] s))
    rw [hi_fold c ts, hi_fold c ts, ← hi_assoc, ← hi_step]
theorem loL_app (c : ByteArray) (a b : List Tx) : loL c (a ++ b) = loW (loL c a) (loL c b) := by
  unfold loL
  rw [List.foldl_append, lo_fold]
  rfl
theorem hiL_app (c : ByteArray) (a b : List Tx) : hiL c (a ++ b) = hiW (hiL c a) (hiL c b) := by
  unfold hiL
  rw [List.foldl_append, hi_fold]
  rfl
theorem loL_one (c : ByteArray) (s : Tx) : loL c [s] = loS c [] s := rfl
theorem hiL_one (c : ByteArray) (s : Tx) : hiL c [s] = hiS c [] s := rfl
end Go.Proofs.YtmfkdpfcpdmkdaaGreatDoor.bd

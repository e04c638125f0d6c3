/- The search for the least way: all ways are extended to a place. -/
import Derived.Test.YtafddofajfcffaaWy
namespace Go.Proofs.Ytafddofajfcffaa
open Go.ChangeShapes Go.WideShapes Go.ChangeAt Go.RowKit
set_option linter.unusedVariables false
set_option maxRecDepth 4000

/-- The way that goes on from the i-th to a place. -/
def nxW (C : Int → Int → Int → Int × Bool) (tt : Int) (hd : List Wy) (i : Nat) : Wy := ⟨tt, (tg hd i).p + 1, (tg hd i).c + (C (tg hd i).p (tg hd i).a tt).1, i⟩
def stW (C : Int → Int → Int → Int × Bool) (cnt : Bool) (tt : Int) (hd : List Wy) (i : Nat) (tl : List Wy) : List Wy :=
  if (C (tg hd i).p (tg hd i).a tt).2 = true then offT cnt (nxW C tt hd i) tl else tl
/-- What k ways from the i-th on add. -/
def extT (C : Int → Int → Int → Int × Bool) (cnt : Bool) (tt : Int) (hd : List Wy) : Nat → Nat → List Wy → List Wy
  | 0, _, tl => tl
  | k + 1, i, tl => extT C cnt tt hd k (i + 1) (stW C cnt tt hd i tl)
def extR (C : Int → Int → Int → Int × Bool) (cnt : Bool) (tt : Int) (hd : List Wy) (act : Nat) : List Wy := extT C cnt tt hd (hd.length - act) act []
theorem stW_len {C : Int → Int → Int → Int × Bool} {cnt : Bool} {tt : Int} {hd : List Wy} {i : Nat} {tl : List Wy} : tl.length ≤ (stW C cnt tt hd i tl).length ∧ (stW C cnt tt hd i tl).length ≤ tl.length + 1 := by
  unfold stW
  split
  · exact offT_len
  · omega
theorem extT_len {C : Int → Int → Int → Int × Bool} {cnt : Bool} {tt : Int} {hd : List Wy} : ∀ {k i : Nat} {tl : List Wy}, tl.length ≤ (extT C cnt tt hd k i tl).length ∧ (extT C cnt tt hd k i tl).length ≤ tl.length + k
  | 0, i, tl => by simp [extT]
  | k + 1, i, tl => by
    have h1 := stW_len (C := C) (cnt := cnt) (tt := tt) (hd := hd) (i := i) (tl := tl)
    have h2 := extT_len (C := C) (cnt := cnt) (tt := tt) (hd := hd) (k := k) (i := i + 1) (tl := stW C cnt tt hd i tl)
    simp only [extT]
    omega
theorem tg_left {l m : List Wy} {k : Nat} (h : k < l.length) : tg (l ++ m) k = tg l k := by
  rw [tg_lt (by simp; omega), tg_lt h, List.getElem_append_left h]
end Go.Proofs.Ytafddofajfcffaa

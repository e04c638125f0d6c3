/- ForcedBreaks on both sides. -/
import Derived.Test.YtafddofajfcffaaPartsOf
namespace Go.Proofs.Ytafddofajfcffaa
open Go.ChangeShapes Go.WideShapes Go.ChangeAt Go.RowKit
set_option linter.unusedVariables false

def isF (x : It) : Bool := decide (x.k = 3 ∧ x.p = -1000)
/-- The forced breaks among the first k items. -/
def fbTo (L : List It) : Nat → List Int
  | 0 => []
  | k + 1 => if isF (tg L k) then fbTo L k ++ [(k : Int)] else fbTo L k
theorem fbTo_len (L : List It) (k : Nat) : (fbTo L k).length ≤ k := by
  induction k with
  | zero => exact Nat.le_refl _
  | succ k ih =>
    simp only [fbTo]
    split
    · simp; omega
    · omega
noncomputable def fba (L : List It) : List Int := if isOk L then fbTo L L.length else []
theorem fba_yes {L : List It} (h : isOk L = true) : fba L = fbTo L L.length := by simp [fba, h]
theorem fba_no {L : List It} (h : isOk L = false) : fba L = [] := by simp [fba, h]
/-- What a function leaves that returns a list of integers that it made. -/
def RetL (w : World) (l : List Int) (e : Ending) (w' : World) : Prop := ∃ A c, e = .returned (.slice A l.length c) ∧ OL w' 3 w.heap.size A c l ∧ Below w.heap.size w w'

set_option maxHeartbeats 2000000 in
theorem ForcedBreaks_i (w : World) (A : Option Addr) (n c : Nat) (L : List It) (h : TL w A n L) (hn : n ≤ 4611686018427387904) :
    Calls Try.prog 55 #[.slice A n c] w (RetL w (fba L)) := by
  have HI := hide h
  clear h
  obtain ⟨ok, hok⟩ : ∃ ok, ok = isOk L := ⟨_, rfl⟩
  have PO := fun (u : World) (h : TL u A n L) => partsOf_i u A n c L h hn
  rw [← hok] at PO
  have HPO := hide PO
  have HOK := hide hok
  clear PO hok
  obtain ⟨i0, hi0, jz0, jz1, jz2⟩ := info_parts int_info
  cases ok
  · have E := hide (fba_no HOK.out.symm)
    go_enter Try.func55, Try.ntmps55
    go_wp2_with fail
    (with_reducible refine (HPO.out _ HI.out).mono ?_)
    rintro e u1 ⟨v, rfl, hv, hb⟩
    clear hv
    go_wp2
    go_ret
    exact ⟨none, 0, by rw [E.out]; rfl, by rw [E.out]; exact OL.nil _ _ _, hb⟩
  · have E := hide (fba_yes HOK.out.symm)
    have OKS := isOk_iff.1 HOK.out.symm
    have HALL := hide OKS.1
    have hl60 := OKS.2.1
    clear OKS
    go_enter Try.func55, Try.ntmps55
    go_wp2_with fail
    (with_reducible refine (HPO.out _ HI.out).mono ?_)
    rintro e u1 ⟨v, rfl, hv, hb⟩
    obtain ⟨A1, c1, rfl, hrow⟩ := hv (by trivial)
    have HROW := hide hrow
    have HB1 := hide hb
    obtain ⟨g, hg, hg0, hg1, _⟩ := own_form hrow (by omega)
    subst hg
    clear hv hrow hb
    go_wp2
    go_loopw [5, 17] (fun t i u => ∃ (k : Nat) (A2 : Option Addr) (m cc : Nat), k ≤ L.length ∧ t = .slice A2 m cc ∧ i = .int .i64 k ∧ m = (fbTo L k).length ∧ OL u 3 u1.heap.size A2 cc (fbTo L k) ∧ Below u1.heap.size u1 u) (fun _ i _ => L.length - (intOf i).toNat)
    case atStart => exact ⟨0, none, 0, 0, by omega, rfl, rfl, rfl, OL.nil _ _ _, bl_refl _⟩
    case round =>
      obtain ⟨k, A2, m, cc, hk, rfl, rfl, hm, hol, hbl⟩ := hrel
      have hmk : m ≤ k := by rw [hm]; exact fbTo_len L k
      have HM := hide hm
      have HB := hide hbl
      have hzr := hbl.size
      clear hm
      by_cases hlt : k < L.length
      · have d0 := World.ownsRow.cellAt (own_below HROW.out hbl) k (by omega)
        rw [List.getElem?_map, tg_get hlt, Option.map_some] at d0
        have IF := fun (u : World) => isForced_i (tg L k) (KOk.of (HALL.out k hlt)) u
        obtain ⟨pt, py, hpv⟩ := part_iface (tg L k)
        rw [hpv] at d0 IF
        obtain ⟨fb, hfb⟩ : ∃ fb, fb = isF (tg L k) := ⟨_, rfl⟩
        have hfb' : decide ((tg L k).k = 3 ∧ (tg L k).p = -1000) = fb := hfb.symm
        rw [hfb'] at IF
        have HIF := hide IF
        have ST := hide (show fbTo L (k + 1) = if fb then fbTo L k ++ [(k : Int)] else fbTo L k by rw [hfb]; rfl)
        clear IF hpv hfb hfb' hbl
        go_wp2_with fail
        (with_reducible refine (HIF.out _).mono ?_)
        rintro e u2 ⟨rfl, hb⟩
        have hol2 := hol.below hb
        have HB2 := hide (bl_call hb HB.out)
        have hz2 := hb.size
        clear hb hol
        cases fb
        · have M := hide (show fbTo L (k + 1) = fbTo L k by rw [ST.out]; rfl)
          go_wp2
          go_roundw
          case rel => exact ⟨k + 1, A2, m, cc, by omega, rfl, by go_num, by rw [M.out]; exact HM.out, by rw [M.out]; exact hol2, HB2.out⟩
          case measure => simp [intOf]; omega
        · have M := hide (show fbTo L (k + 1) = fbTo L k ++ [(k : Int)] by rw [ST.out]; rfl)
          go_wp2_with (at_builtin; refine wpList_append_int rfl (.tmp 24) (.tmp 26) _ rfl 3 i0 Try.underlying24 hi0 jz0 jz1 jz2 (u1.heap.size) A2 cc m (fbTo L k) rfl (HM.out) (hol2.alloc _) u2.heap.size (k : Int) rfl (by simp) (by omega) (by simp; omega) ?_; intro A' c' w' hol' hb' hg')
          go_roundw
          case rel => exact ⟨k + 1, A', m + 1, c', by omega, rfl, by go_num, by rw [M.out, List.length_append, ← HM.out]; rfl, by rw [M.out]; exact hol', (bl_alloc HB2.out _).trans hb'⟩
          case measure => simp [intOf]; omega
      · have hke : k = L.length := by omega
        have HE := hide hke
        clear hke
        go_wp2
        go_ret
        refine ⟨A2, cc, by rw [E.out, HM.out, HE.out]; rfl, ?_, bl_call HB.out HB1.out⟩
        rw [E.out, ← HE.out]
        exact hol.more HB1.out.size

end Go.Proofs.Ytafddofajfcffaa

/- Several texts of one claim, one behind the other. -/
import Derived.Test.YtmncdpiojhgcdaaPartOf
import Derived.Deep.RegionHeld3
import Derived.Deep.CutRange
import Derived.Test.YtmncdpiojhgcdaaSb
/- The parts of a paragraph, and whether it is valid. -/
namespace Go.Proofs.Ytmncdpiojhgcdaa
open Go.ChangeShapes Go.WideShapes Go.ChangeAt Go.RowKit
set_option linter.unusedVariables false

theorem part_info : (Try.prog.info? 105).map (fun i => (i.zero, i.size, i.bytes)) = some (some .nilIface, 1, 16) := by kernel_rfl
theorem part_iface (x : It) : ∃ T y, part x = .iface T y := by
  unfold part
  split
  · exact ⟨_, _, rfl⟩
  · split
    · exact ⟨_, _, rfl⟩
    · exact ⟨_, _, rfl⟩
def KOk (x : It) : Prop := x.k = 1 ∨ x.k = 2 ∨ x.k = 3
theorem KOk.of {x : It} (h : itOk x = true) : KOk x := by
  rcases iok_iff.1 h with h | h | h
  · exact .inl h.1
  · exact .inr (.inl h.1)
  · exact .inr (.inr h.1)
set_option maxRecDepth 20000 in
theorem isForced_i (x : It) (hx : KOk x) (w : World) :
    Calls Try.prog 83 #[part x] w fun e w' => e = .returned (.bool (decide (x.k = 3 ∧ x.p = -1000))) ∧ Below w.heap.size w w' := by
  have t1 : ∀ (a : Int) (W : World), (Instr.typeAssert (.iface 166 (bpv a)) 105 134 true).run Try.prog W = .ok (.tuple #[ppv 0 0 false, .bool false]) W := fun _ _ => by kernel_rfl
  have t2 : ∀ (a b c : Int) (W : World), (Instr.typeAssert (.iface 171 (gpv a b c)) 105 134 true).run Try.prog W = .ok (.tuple #[ppv 0 0 false, .bool false]) W := fun _ _ _ _ => by kernel_rfl
  have t3 : ∀ (a p : Int) (f : Bool) (W : World), (Instr.typeAssert (.iface 134 (ppv a p f)) 105 134 true).run Try.prog W = .ok (.tuple #[ppv a p f, .bool true]) W := fun _ _ _ _ => by kernel_rfl
  obtain ⟨k, b, c, d, e, f⟩ := x
  rcases hx with h | h | h
  · simp only at h
    subst h
    rw [show part ⟨1, b, c, d, e, f⟩ = .iface 166 (bpv b) from by simp [part], show decide ((1 : Int) = 3 ∧ e = -1000) = false from by simp]
    go_enter Try.func83, Try.ntmps83
    go_wp2
    go_ret
    refine ⟨rfl, ?_⟩
    (repeat' (first | with_reducible exact bl_refl _ | with_reducible assumption | with_reducible refine bl_alloc ?_ _ | with_reducible refine bl_set ?_ ?_ _ | with_reducible refine bl_drewN ?_ _ | with_reducible refine bl_drew ?_ | with_reducible refine bl_call (by assumption) ?_))
  · simp only at h
    subst h
    rw [show part ⟨2, b, c, d, e, f⟩ = .iface 171 (gpv b c d) from by simp [part], show decide ((2 : Int) = 3 ∧ e = -1000) = false from by simp]
    go_enter Try.func83, Try.ntmps83
    go_wp2
    go_ret
    refine ⟨rfl, ?_⟩
    (repeat' (first | with_reducible exact bl_refl _ | with_reducible assumption | with_reducible refine bl_alloc ?_ _ | with_reducible refine bl_set ?_ ?_ _ | with_reducible refine bl_drewN ?_ _ | with_reducible refine bl_drew ?_ | with_reducible refine bl_call (by assumption) ?_))
  · simp only at h
    subst h
    rw [show part ⟨3, b, c, d, e, f⟩ = .iface 134 (ppv b e f) from by simp [part]]
    rcases (by omega : e ≠ -1000 ∨ e = -1000) with h | rfl
    · rw [show decide ((3 : Int) = 3 ∧ e = -1000) = false from by simp [h]]
      have g : (e == -1000) = false := beq_eq_false_iff_ne.2 h
      clear h
      go_enter Try.func83, Try.ntmps83
      go_wp2
      go_ret
      refine ⟨rfl, ?_⟩
      (repeat' (first | with_reducible exact bl_refl _ | with_reducible assumption | with_reducible refine bl_alloc ?_ _ | with_reducible refine bl_set ?_ ?_ _ | with_reducible refine bl_drewN ?_ _ | with_reducible refine bl_drew ?_ | with_reducible refine bl_call (by assumption) ?_))
    · rw [show decide ((3 : Int) = 3 ∧ (-1000 : Int) = -1000) = true from by simp]
      go_enter Try.func83, Try.ntmps83
      go_wp2
      go_ret
      refine ⟨rfl, ?_⟩
      (repeat' (first | with_reducible exact bl_refl _ | with_reducible assumption | with_reducible refine bl_alloc ?_ _ | with_reducible refine bl_set ?_ ?_ _ | with_reducible refine bl_drewN ?_ _ | with_reducible refine bl_drew ?_ | with_reducible refine bl_call (by assumption) ?_))

set_option maxRecDepth 20000 in
set_option maxHeartbeats 2000000 in
theorem partsOf_i (w : World) (A : Option Addr) (n c : Nat) (L : List It) (h : TL w A n L) (hn : n ≤ 4611686018427387904) :
    Calls Try.prog 82 #[.slice A n c] w fun e w' => ∃ v, e = .returned (.tuple #[v, .bool (isOk L)]) ∧ (isOk L = true → ∃ A' c', v = .slice A' L.length c' ∧ w'.ownsRow w.heap.size 105 1 (.slice A' L.length c') L.length (L.map part)) ∧ Below w.heap.size w w' := by
  obtain rfl : n = L.length := h.1
  have HI := hide h
  clear h
  cases q : inB L.length 1 60
  · have E := isOk_no (L := L) (fun x => by have := x.2.1; rw [inB_yes (by omega) (by omega)] at q; cases q)
    rw [E]
    clear E
    go_enter Try.func82, Try.ntmps82
    go_wp2_with (go_at_call 113; refine (within_any _ _ _ _).mono ?_; rintro e w' ⟨rfl, rfl⟩)
    go_ret2
    exact ⟨_, rfl, fun x => (by cases x), bl_refl _⟩
  have hr := inB_iff.1 q
  obtain ⟨i0, hi0, hz0, hz1, hz2⟩ := info_parts part_info
  go_enter Try.func82, Try.ntmps82
  go_wp2_with (first | (go_at_call 113; refine (within_any _ _ _ _).mono ?_; rintro e w' ⟨rfl, rfl⟩) | (refine wpList_make_full _ rfl _ _ _ rfl w.heap.size 105 i0 _ 1 Try.underlying79 hi0 hz0 hz1 .i64 .i64 _ _ L.length rfl rfl rfl rfl (by rw [hz2]; omega) (by unfold maxLen; omega) (Nat.le_refl _) ?_; intro w1 hown hgr))
  obtain ⟨M, hM⟩ : ∃ M, M = (madeCells (Value.nilIface).cells (L.length * 1)).toList := ⟨_, rfl⟩
  rw [← hM] at hown
  clear hM
  have hMl : M.length = (L.map part).length := by rw [List.length_map, ← Nat.mul_one L.length, ← hown.1]
  have HM := hide hMl
  have HFL := hide (show (L.map part).length = L.length by simp)
  have H0 : Hid (w1.ownsRow w.heap.size 105 1 (.slice (some ⟨w.heap.size, 0, none⟩) L.length L.length) L.length (vmix (L.map part) M 0)) := hide (by rw [vmix_zero]; exact hown)
  have hb1 := below_new hgr
  have HB1 := hide hb1
  have hz1' : w.heap.size < w1.heap.size := by
    obtain ⟨_, _, _, h, _⟩ := own_form hown (by omega)
    have := own_form hown (by omega)
    obtain ⟨g, he, _, hlt, _⟩ := this
    injection he with he
    injection he with he
    omega
  clear hown hgr hMl hb1
  go_wp2
  go_loopw [18] (fun i u => ∃ p : Nat, p ≤ L.length ∧ i = .int .i64 p ∧ OTo L p ∧ u.ownsRow w.heap.size 105 1 (.slice (some ⟨w.heap.size, 0, none⟩) L.length L.length) L.length (vmix (L.map part) M p) ∧ Below w.heap.size w u) (fun i _ => L.length - (intOf i).toNat)
  case atStart => exact ⟨0, by omega, rfl, OTo.zero _, H0.out, HB1.out⟩
  case round =>
    obtain ⟨p, hp, rfl, hpo, hol, hbl⟩ := hrel
    have HP := hide hpo
    have HB := hide hbl
    have HO := hide hol
    clear hpo
    by_cases hlt : p < L.length
    · obtain ⟨b, o, rfl, hb0, c0, c1, c2, c3, c4, c5⟩ := (HI.out.below hbl).at6 hlt
      obtain ⟨x, hx⟩ : ∃ x, x = tg L p := ⟨_, rfl⟩
      rw [← hx] at c0 c1 c2 c3 c4 c5
      have HX := hide hx
      clear hx hol hbl
      obtain ⟨xk, xb, xc, xd, xe, xf⟩ := x
      simp only at c0 c1 c2 c3 c4 c5
      obtain ⟨ok, hok⟩ : ∃ ok, ok = iok xk xb xc xd xe xf := ⟨_, rfl⟩
      have PO := fun (u : World) => partOf_any xk xb xc xd xe xf u
      rw [← hok] at PO
      have HPO := hide PO
      have HOK := hide hok
      clear PO hok
      go_wp2_with fail
      (with_reducible refine (HPO.out _).mono ?_)
      rintro e u1 ⟨v, rfl, hv, hb⟩
      have HB2 := hide (bl_call hb (bl_alloc HB.out _))
      have ho1 := own_below HO.out (bl_call hb (bl_alloc (bl_refl _) _))
      cases ok
      · have E := isOk_no (L := L) (fun z => by have := z.1 p hlt; rw [← HX.out] at this; have h2 := HOK.out; unfold itOk at this; rw [this] at h2; cases h2)
        have HE := hide E
        clear E hv hb ho1
        go_wp2
        go_ret2
        exact ⟨_, by rw [HE.out]; rfl, fun z => (by rw [HE.out] at z; cases z), HB2.out⟩
      · have hvp := hv rfl
        obtain ⟨vt, vy, hvi⟩ := part_iface ⟨xk, xb, xc, xd, xe, xf⟩
        rw [hvi] at hvp
        subst hvp
        have NX := hide (HP.out.step (by rw [← HX.out]; exact HOK.out.symm))
        obtain ⟨_, d0⟩ := own_cell (j := p) ho1 (by omega)
        have f0 := World.ownsRow.frozenAt ho1 p
        have hpF : (L.map part)[p]? = some (.iface vt vy) := by rw [List.getElem?_map, tg_get hlt, ← HX.out, Option.map_some, hvi]
        have M1 : Hid ((u1.setCell ⟨w.heap.size, p, none⟩ (.iface vt vy)).ownsRow w.heap.size 105 1 (.slice (some ⟨w.heap.size, 0, none⟩) L.length L.length) L.length (vmix (L.map part) M (p + 1))) := hide (by
          have := (World.ownsRow.stored ho1 p (.iface vt vy)).1
          rwa [vmix_put HM.out hpF] at this)
        clear hv hvi hb ho1 hpF
        go_wp2
        go_roundw
        case rel => exact ⟨p + 1, by omega, by go_num, NX.out, M1.out, bl_set HB2.out (Nat.le_refl _) _⟩
        case measure => simp [intOf]; omega
    · have hpe : p = L.length := by omega
      have R1 : wr.ownsRow w.heap.size 105 1 (.slice (some ⟨w.heap.size, 0, none⟩) L.length L.length) L.length (L.map part) := by
        rw [hpe, vmix_all HM.out HFL.out] at hol
        exact hol
      have ALL : OTo L L.length := by rw [← hpe]; exact HP.out
      obtain ⟨m, hm⟩ : ∃ m, m = L.length - 1 := ⟨_, rfl⟩
      have em : (L.length : Int) - 1 = (m : Int) := by omega
      have hml : m < L.length := by omega
      have d0 := World.ownsRow.cellAt R1 m (by omega)
      rw [List.getElem?_map, tg_get hml, Option.map_some] at d0
      have KO := KOk.of (ALL m hml)
      have IF := fun (u : World) => isForced_i (tg L m) KO u
      obtain ⟨pv, hpv⟩ : ∃ pv, pv = part (tg L m) := ⟨_, rfl⟩
      rw [← hpv] at d0 IF
      obtain ⟨fb, hfb⟩ : ∃ fb, fb = decide ((tg L m).k = 3 ∧ (tg L m).p = -1000) := ⟨_, rfl⟩
      rw [← hfb] at IF
      have EQ : isOk L = fb := by
        rw [hfb, Bool.eq_iff_iff, isOk_iff, decide_eq_true_iff, hm]
        exact ⟨fun z => z.2.2, fun z => ⟨ALL, by omega, z.1, z.2⟩⟩
      have HEQ := hide EQ
      have HIF := hide IF
      have HR := hide R1
      clear ALL KO IF hpv hfb EQ R1 hol hpe hm
      go_wp2_with fail
      (with_reducible refine (HIF.out _).mono ?_)
      rintro e u1 ⟨rfl, hb⟩
      have HR2 := hide (own_below HR.out hb)
      have HB2 := hide (bl_call hb HB.out)
      clear hb
      cases fb
      · go_wp2
        go_ret2
        exact ⟨_, by rw [HEQ.out]; rfl, fun z => (by rw [HEQ.out] at z; cases z), HB2.out⟩
      · go_wp2
        go_ret2
        exact ⟨_, by rw [HEQ.out]; rfl, fun z => ⟨_, _, rfl, HR2.out⟩, HB2.out⟩

theorem ValidItems_i (w : World) (A : Option Addr) (n c : Nat) (L : List It) (h : TL w A n L) (hn : n ≤ 4611686018427387904) :
    Calls Try.prog 30 #[.slice A n c] w fun e w' => e = .returned (.bool (isOk L)) ∧ Below w.heap.size w w' := by
  have HI := hide h
  clear h
  go_enter Try.func30, Try.ntmps30
  go_wp2_with fail
  (with_reducible refine (partsOf_i _ _ _ _ L HI.out hn).mono ?_)
  rintro e u1 ⟨v, rfl, hv, hb⟩
  clear hv
  go_wp2
  go_ret
  exact ⟨rfl, hb⟩
end Go.Proofs.Ytmncdpiojhgcdaa

/- ForcedBreaks on both sides. -/
namespace Go.Proofs.Ytmncdpiojhgcdaa
open Go.ChangeShapes Go.WideShapes Go.ChangeAt Go.RowKit
set_option linter.unusedVariables false

def isF (x : It) : Bool := decide (x.k = 3 ∧ x.p = -1000)
/-- The forced breaks among the first k items. -/
def fbTo (L : List It) : Nat → List Int
  | 0 => []
  | k + 1 => if isF (tg L k) then fbTo L k ++ [(k : Int)] else fbTo L k
theorem fbTo_len (L : List It) (k : Nat) : (fbTo L k).length ≤ k := by
  induction k with
  | zero => exact Nat.le_refl _
  | succ k ih =>
    simp only [fbTo]
    split
    · simp; omega
    · omega
noncomputable def fba (L : List It) : List Int := if isOk L then fbTo L L.length else []
theorem fba_yes {L : List It} (h : isOk L = true) : fba L = fbTo L L.length := by simp [fba, h]
theorem fba_no {L : List It} (h : isOk L = false) : fba L = [] := by simp [fba, h]
/-- What a function leaves that returns a list of integers that it made. -/
def RetL (w : World) (l : List Int) (e : Ending) (w' : World) : Prop := ∃ A c, e = .returned (.slice A l.length c) ∧ OL w' 3 w.heap.size A c l ∧ Below w.heap.size w w'

set_option maxHeartbeats 2000000 in
theorem ForcedBreaks_i (w : World) (A : Option Addr) (n c : Nat) (L : List It) (h : TL w A n L) (hn : n ≤ 4611686018427387904) :
    Calls Try.prog 28 #[.slice A n c] w (RetL w (fba L)) := by
  have HI := hide h
  clear h
  obtain ⟨ok, hok⟩ : ∃ ok, ok = isOk L := ⟨_, rfl⟩
  have PO := fun (u : World) (h : TL u A n L) => partsOf_i u A n c L h hn
  rw [← hok] at PO
  have HPO := hide PO
  have HOK := hide hok
  clear PO hok
  obtain ⟨i0, hi0, jz0, jz1, jz2⟩ := info_parts int_info
  cases ok
  · have E := hide (fba_no HOK.out.symm)
    go_enter Try.func28, Try.ntmps28
    go_wp2_with fail
    (with_reducible refine (HPO.out _ HI.out).mono ?_)
    rintro e u1 ⟨v, rfl, hv, hb⟩
    clear hv
    go_wp2
    go_ret
    exact ⟨none, 0, by rw [E.out]; rfl, by rw [E.out]; exact OL.nil _ _ _, hb⟩
  · have E := hide (fba_yes HOK.out.symm)
    have OKS := isOk_iff.1 HOK.out.symm
    have HALL := hide OKS.1
    have hl60 := OKS.2.1
    clear OKS
    go_enter Try.func28, Try.ntmps28
    go_wp2_with fail
    (with_reducible refine (HPO.out _ HI.out).mono ?_)
    rintro e u1 ⟨v, rfl, hv, hb⟩
    obtain ⟨A1, c1, rfl, hrow⟩ := hv (by trivial)
    have HROW := hide hrow
    have HB1 := hide hb
    obtain ⟨g, hg, hg0, hg1, _⟩ := own_form hrow (by omega)
    subst hg
    clear hv hrow hb
    go_wp2
    go_loopw [5, 17] (fun t i u => ∃ (k : Nat) (A2 : Option Addr) (m cc : Nat), k ≤ L.length ∧ t = .slice A2 m cc ∧ i = .int .i64 k ∧ m = (fbTo L k).length ∧ OL u 3 u1.heap.size A2 cc (fbTo L k) ∧ Below u1.heap.size u1 u) (fun _ i _ => L.length - (intOf i).toNat)
    case atStart => exact ⟨0, none, 0, 0, by omega, rfl, rfl, rfl, OL.nil _ _ _, bl_refl _⟩
    case round =>
      obtain ⟨k, A2, m, cc, hk, rfl, rfl, hm, hol, hbl⟩ := hrel
      have hmk : m ≤ k := by rw [hm]; exact fbTo_len L k
      have HM := hide hm
      have HB := hide hbl
      have hzr := hbl.size
      clear hm
      by_cases hlt : k < L.length
      · have d0 := World.ownsRow.cellAt (own_below HROW.out hbl) k (by omega)
        rw [List.getElem?_map, tg_get hlt, Option.map_some] at d0
        have IF := fun (u : World) => isForced_i (tg L k) (KOk.of (HALL.out k hlt)) u
        obtain ⟨pt, py, hpv⟩ := part_iface (tg L k)
        rw [hpv] at d0 IF
        obtain ⟨fb, hfb⟩ : ∃ fb, fb = isF (tg L k) := ⟨_, rfl⟩
        have hfb' : decide ((tg L k).k = 3 ∧ (tg L k).p = -1000) = fb := hfb.symm
        rw [hfb'] at IF
        have HIF := hide IF
        have ST := hide (show fbTo L (k + 1) = if fb then fbTo L k ++ [(k : Int)] else fbTo L k by rw [hfb]; rfl)
        clear IF hpv hfb hfb' hbl
        go_wp2_with fail
        (with_reducible refine (HIF.out _).mono ?_)
        rintro e u2 ⟨rfl, hb⟩
        have hol2 := hol.below hb
        have HB2 := hide (bl_call hb HB.out)
        have hz2 := hb.size
        clear hb hol
        cases fb
        · have M := hide (show fbTo L (k + 1) = fbTo L k by rw [ST.out]; rfl)
          go_wp2
          go_roundw
          case rel => exact ⟨k + 1, A2, m, cc, by omega, rfl, by go_num, by rw [M.out]; exact HM.out, by rw [M.out]; exact hol2, HB2.out⟩
          case measure => simp [intOf]; omega
        · have M := hide (show fbTo L (k + 1) = fbTo L k ++ [(k : Int)] by rw [ST.out]; rfl)
          go_wp2_with (at_builtin; refine wpList_append_int rfl (.tmp 24) (.tmp 26) _ rfl 3 i0 Try.underlying30 hi0 jz0 jz1 jz2 (u1.heap.size) A2 cc m (fbTo L k) rfl (HM.out) (hol2.alloc _) u2.heap.size (k : Int) rfl (by simp) (by omega) (by simp; omega) ?_; intro A' c' w' hol' hb' hg')
          go_roundw
          case rel => exact ⟨k + 1, A', m + 1, c', by omega, rfl, by go_num, by rw [M.out, List.length_append, ← HM.out]; rfl, by rw [M.out]; exact hol', (bl_alloc HB2.out _).trans hb'⟩
          case measure => simp [intOf]; omega
      · have hke : k = L.length := by omega
        have HE := hide hke
        clear hke
        go_wp2
        go_ret
        refine ⟨A2, cc, by rw [E.out, HM.out, HE.out]; rfl, ?_, bl_call HB.out HB1.out⟩
        rw [E.out, ← HE.out]
        exact hol.more HB1.out.size

end Go.Proofs.Ytmncdpiojhgcdaa

/- What the lists of a paragraph hold: pure maths on items. -/
namespace Go.Proofs.Ytmncdpiojhgcdaa
open Go.ChangeShapes Go.WideShapes Go.ChangeAt Go.RowKit
set_option linter.unusedVariables false

def isB (x : It) : Bool := decide (x.k = 1)
def inW (x : It) : Int := if x.k = 3 then 0 else x.w
def inT (x : It) : Int := if x.k = 2 then x.st else 0
def inS (x : It) : Int := if x.k = 2 then x.sh else 0
/-- The sums before item k. -/
def sW (L : List It) : Nat → Int
  | 0 => 0
  | k + 1 => sW L k + inW (tg L k)
def sT (L : List It) : Nat → Int
  | 0 => 0
  | k + 1 => sT L k + inT (tg L k)
def sS (L : List It) : Nat → Int
  | 0 => 0
  | k + 1 => sS L k + inS (tg L k)
/-- How many forced breaks lie before item k. -/
def nF (L : List It) : Nat → Nat
  | 0 => 0
  | k + 1 => nF L k + if isF (tg L k) then 1 else 0
/-- The first box among the last d items, or the number of items. -/
def nxB (L : List It) : Nat → Nat
  | 0 => L.length
  | d + 1 => if isB (tg L (L.length - (d + 1))) then L.length - (d + 1) else nxB L d
/-- Whether a line may end at item i. -/
def mayE (L : List It) (i : Nat) : Bool := if (tg L i).k = 2 then decide (0 < i) && isB (tg L (i - 1)) else if (tg L i).k = 3 then decide ((tg L i).p < 1000) else false
def brTo (L : List It) : Nat → List Int
  | 0 => []
  | k + 1 => if mayE L k then brTo L k ++ [(k : Int)] else brTo L k
theorem brTo_len (L : List It) (k : Nat) : (brTo L k).length ≤ k := by
  induction k with
  | zero => exact Nat.le_refl _
  | succ k ih =>
    simp only [brTo]
    split
    · simp; omega
    · omega
noncomputable def brO (L : List It) : List Int := if isOk L then brTo L L.length else []
theorem brO_yes {L : List It} (h : isOk L = true) : brO L = brTo L L.length := by simp [brO, h]
theorem brO_no {L : List It} (h : isOk L = false) : brO L = [] := by simp [brO, h]
theorem brO_len (L : List It) : (brO L).length ≤ 60 := by
  unfold brO
  split
  · rename_i h
    have h1 := (isOk_iff.1 h).2.1
    have := brTo_len L L.length
    omega
  · simp
/-- A valid item's numbers. -/
theorem in_bd {L : List It} (h : OTo L L.length) {k : Nat} (hk : k < L.length) : (0 ≤ inW (tg L k) ∧ inW (tg L k) ≤ 1000) ∧ (0 ≤ inT (tg L k) ∧ inT (tg L k) ≤ 1000) ∧ (0 ≤ inS (tg L k) ∧ inS (tg L k) ≤ 1000) := by
  have := iok_iff.1 (h k hk)
  unfold inW inT inS
  rcases this with h | h | h
  · rw [if_neg (by omega), if_neg (by omega), if_neg (by omega)]; omega
  · rw [if_neg (by omega), if_pos (by omega), if_pos (by omega)]; omega
  · rw [if_pos (by omega), if_neg (by omega), if_neg (by omega)]; omega
theorem s_bd {L : List It} (h : OTo L L.length) : ∀ {k : Nat}, k ≤ L.length → (0 ≤ sW L k ∧ sW L k ≤ 1000 * k) ∧ (0 ≤ sT L k ∧ sT L k ≤ 1000 * k) ∧ (0 ≤ sS L k ∧ sS L k ≤ 1000 * k)
  | 0, _ => by simp [sW, sT, sS]
  | k + 1, hk => by
    have h1 := s_bd h (k := k) (by omega)
    have h2 := in_bd h (k := k) (by omega)
    simp only [sW, sT, sS]
    omega
theorem s_mono {L : List It} (h : OTo L L.length) {a : Nat} : ∀ {k : Nat}, a ≤ k → k ≤ L.length → sW L a ≤ sW L k ∧ sT L a ≤ sT L k ∧ sS L a ≤ sS L k
  | 0, ha, _ => by rw [show a = 0 by omega]; simp
  | k + 1, ha, hk => by
    rcases (by omega : a = k + 1 ∨ a ≤ k) with rfl | h1
    · simp
    · have h2 := s_mono h (k := k) h1 (by omega)
      have h3 := in_bd h (k := k) (by omega)
      simp only [sW, sT, sS]
      omega
theorem nF_le (L : List It) : ∀ k, nF L k ≤ k
  | 0 => Nat.le_refl _
  | k + 1 => by have := nF_le L k; simp only [nF]; split <;> omega
theorem nF_mono (L : List It) {a : Nat} : ∀ {k : Nat}, a ≤ k → nF L a ≤ nF L k
  | 0, h => by rw [show a = 0 by omega]; exact Nat.le_refl _
  | k + 1, h => by
    rcases (by omega : a = k + 1 ∨ a ≤ k) with rfl | h1
    · exact Nat.le_refl _
    · have := nF_mono L (k := k) h1; simp only [nF]; omega
/-- No forced break between two places. -/
theorem nF_eq {L : List It} {a : Nat} : ∀ {k : Nat}, a ≤ k → (nF L a = nF L k ↔ ∀ j, a ≤ j → j < k → isF (tg L j) = false)
  | 0, h => by rw [show a = 0 by omega]; simp
  | k + 1, h => by
    rcases (by omega : a = k + 1 ∨ a ≤ k) with rfl | h1
    · simp; intro j h2 h3; omega
    · have ih := nF_eq (L := L) (k := k) h1
      have hm := nF_mono L h1
      simp only [nF]
      constructor
      · intro h2 j h3 h4
        by_cases hq : isF (tg L k) = true
        · rw [if_pos hq] at h2; omega
        · rw [if_neg hq] at h2
          rcases (by omega : j < k ∨ j = k) with h5 | rfl
          · exact ih.1 (by omega) j h3 h5
          · simpa using hq
      · intro h2
        rw [h2 k h1 (by omega)]
        have := ih.2 (fun j h3 h4 => h2 j h3 (by omega))
        simpa using this
theorem nxB_zero (L : List It) : nxB L 0 = L.length := rfl
theorem nxB_in (L : List It) : ∀ d, d ≤ L.length → L.length - d ≤ nxB L d ∧ nxB L d ≤ L.length
  | 0, _ => by simp [nxB]
  | d + 1, h => by
    have := nxB_in L d (by omega)
    simp only [nxB]
    split <;> omega
theorem nxB_no (L : List It) : ∀ d, d ≤ L.length → ∀ j, L.length - d ≤ j → j < nxB L d → isB (tg L j) = false
  | 0, _, j, h1, h2 => by simp [nxB] at h2; omega
  | d + 1, h, j, h1, h2 => by
    simp only [nxB] at h2
    by_cases hq : isB (tg L (L.length - (d + 1))) = true
    · rw [if_pos hq] at h2; omega
    · rw [if_neg hq] at h2
      rcases (by omega : j = L.length - (d + 1) ∨ L.length - d ≤ j) with rfl | h3
      · simpa using hq
      · exact nxB_no L d (by omega) j h3 h2
theorem nxB_yes (L : List It) : ∀ d, d ≤ L.length → nxB L d < L.length → isB (tg L (nxB L d)) = true
  | 0, _, h2 => by simp [nxB] at h2
  | d + 1, h, h2 => by
    simp only [nxB] at h2 ⊢
    by_cases hq : isB (tg L (L.length - (d + 1))) = true
    · rw [if_pos hq]; exact hq
    · rw [if_neg hq] at h2 ⊢; exact nxB_yes L d (by omega) h2
/-- The first box from item i on, or the number of items. -/
def fBx (L : List It) (i : Nat) : Nat := nxB L (L.length - i)
theorem fBx_in {L : List It} {i : Nat} (h : i ≤ L.length) : i ≤ fBx L i ∧ fBx L i ≤ L.length := by
  have := nxB_in L (L.length - i) (by omega)
  unfold fBx; omega
theorem fBx_no {L : List It} {i j : Nat} (h : i ≤ L.length) (h1 : i ≤ j) (h2 : j < fBx L i) : isB (tg L j) = false := nxB_no L (L.length - i) (by omega) j (by omega) h2
theorem fBx_yes {L : List It} {i : Nat} (h : i ≤ L.length) (h2 : fBx L i < L.length) : isB (tg L (fBx L i)) = true := nxB_yes L (L.length - i) (by omega) h2
/-- Whether there is a line between two places. -/
def hasL (L : List It) (a b : Int) : Bool := decide (-1 ≤ a) && decide (a < b) && decide (b < L.length) && (decide (a = -1) || mayE L a.toNat) && mayE L b.toNat && decide (nF L (a + 1).toNat = nF L b.toNat)
/-- Where a line starts. -/
def stA (L : List It) (a b : Int) : Nat := min (fBx L (a + 1).toNat) b.toNat
def atW (x : It) : Int := if x.k = 3 then x.w else 0
/-- The length of a line. -/
def lgW (L : List It) (a b : Int) : Int := sW L b.toNat - sW L (stA L a b) + atW (tg L b.toNat)
def lgT (L : List It) (a b : Int) : Int := sT L b.toNat - sT L (stA L a b)
def lgS (L : List It) (a b : Int) : Int := sS L b.toNat - sS L (stA L a b)
end Go.Proofs.Ytmncdpiojhgcdaa

/- Lines of a paragraph: pure maths on items. -/
namespace Go.Proofs.Ytmncdpiojhgcdaa
open Go.ChangeShapes Go.WideShapes Go.ChangeAt Go.RowKit
set_option linter.unusedVariables false

theorem wf_bd {x : Int} (h : (Lit.int .i64 x).wf = true) : -9223372036854775808 ≤ x ∧ x ≤ 9223372036854775807 := by
  simp only [Lit.wf, Bool.and_eq_true, decide_eq_true_eq] at h
  exact h
/-- What a line is made of. -/
theorem hasL_of {L : List It} {a b : Int} (h : hasL L a b = true) : ∃ p q : Nat, a + 1 = (p : Int) ∧ b = (q : Int) ∧ p ≤ q ∧ q < L.length ∧ (a = -1 ∨ mayE L a.toNat = true) ∧ mayE L q = true ∧ nF L p = nF L q := by
  simp only [hasL, Bool.and_eq_true, Bool.or_eq_true, decide_eq_true_eq] at h
  obtain ⟨⟨⟨⟨⟨h1, h2⟩, h3⟩, h4⟩, h5⟩, h6⟩ := h
  exact ⟨(a + 1).toNat, b.toNat, by omega, by omega, by omega, by omega, h4, h5, h6⟩
/-- The first box or forced break among the last d items, or the number of items. -/
def nxS (L : List It) : Nat → Nat
  | 0 => L.length
  | d + 1 => if isB (tg L (L.length - (d + 1))) || isF (tg L (L.length - (d + 1))) then L.length - (d + 1) else nxS L d
theorem nxS_in (L : List It) : ∀ d, d ≤ L.length → L.length - d ≤ nxS L d ∧ nxS L d ≤ L.length
  | 0, _ => by simp [nxS]
  | d + 1, h => by
    have := nxS_in L d (by omega)
    simp only [nxS]
    split <;> omega
theorem nxS_no (L : List It) : ∀ d, d ≤ L.length → ∀ j, L.length - d ≤ j → j < nxS L d → isB (tg L j) = false ∧ isF (tg L j) = false
  | 0, _, j, h1, h2 => by simp [nxS] at h2; omega
  | d + 1, h, j, h1, h2 => by
    simp only [nxS] at h2
    by_cases hq : (isB (tg L (L.length - (d + 1))) || isF (tg L (L.length - (d + 1)))) = true
    · rw [if_pos hq] at h2; omega
    · rw [if_neg hq] at h2
      rcases (by omega : j = L.length - (d + 1) ∨ L.length - d ≤ j) with rfl | h3
      · simpa using hq
      · exact nxS_no L d (by omega) j h3 h2
theorem nxS_yes (L : List It) : ∀ d, d ≤ L.length → nxS L d < L.length → isB (tg L (nxS L d)) = true ∨ isF (tg L (nxS L d)) = true
  | 0, _, h2 => by simp [nxS] at h2
  | d + 1, h, h2 => by
    simp only [nxS] at h2 ⊢
    by_cases hq : (isB (tg L (L.length - (d + 1))) || isF (tg L (L.length - (d + 1)))) = true
    · rw [if_pos hq]; simpa using hq
    · rw [if_neg hq] at h2 ⊢; exact nxS_yes L d (by omega) h2
/-- The first item from p on that is a box or a forced break. -/
def stS (L : List It) (p : Nat) : Nat := nxS L (L.length - p)
theorem stS_in {L : List It} {p : Nat} (h : p ≤ L.length) : p ≤ stS L p ∧ stS L p ≤ L.length := by
  have := nxS_in L (L.length - p) (by omega)
  unfold stS; omega
theorem stS_at {L : List It} {p i : Nat} (hp : p ≤ i) (hi : i ≤ L.length) (hno : ∀ j, p ≤ j → j < i → isB (tg L j) = false ∧ isF (tg L j) = false) (hyes : i = L.length ∨ isB (tg L i) = true ∨ isF (tg L i) = true) : stS L p = i := by
  have h1 := stS_in (L := L) (p := p) (by omega)
  rcases (by omega : stS L p < i ∨ stS L p = i ∨ i < stS L p) with h | h | h
  · have a := hno (stS L p) h1.1 h
    have b := nxS_yes L (L.length - p) (by omega) (show nxS L (L.length - p) < L.length from Nat.lt_of_lt_of_le h hi)
    change isB (tg L (stS L p)) = true ∨ isF (tg L (stS L p)) = true at b
    rw [a.1, a.2] at b
    simp at b
  · exact h
  · have a := nxS_no L (L.length - p) (by omega) i (by omega) h
    rw [a.1, a.2] at hyes
    simp at hyes; omega
theorem stS_min {L : List It} {p q : Nat} (hp : p ≤ q) (hq : q ≤ L.length) (hf : nF L p = nF L q) : min (stS L p) q = min (fBx L p) q := by
  have h1 := stS_in (L := L) (p := p) (by omega)
  have h2 := fBx_in (L := L) (i := p) (by omega)
  have hno := (nF_eq (L := L) hp).1 hf
  rcases (by omega : stS L p < fBx L p ∨ stS L p = fBx L p ∨ fBx L p < stS L p) with h | h | h
  · rcases (by omega : stS L p < q ∨ q ≤ stS L p) with g | g
    · have b := nxS_yes L (L.length - p) (by omega) (show nxS L (L.length - p) < L.length from by change stS L p < L.length; omega)
      change isB (tg L (stS L p)) = true ∨ isF (tg L (stS L p)) = true at b
      rw [hno _ h1.1 g, fBx_no (i := p) (by omega) h1.1 h] at b
      simp at b
    · omega
  · rw [h]
  · have a := nxS_no L (L.length - p) (by omega) (fBx L p) (by omega) h
    have b := fBx_yes (L := L) (i := p) (by omega) (by omega)
    rw [a.1] at b
    cases b
/-- The boxes among d items from p on. -/
def bxN (L : List It) (p : Nat) : Nat → List Int
  | 0 => []
  | d + 1 => if isB (tg L (p + d)) then bxN L p d ++ [((p + d : Nat) : Int)] else bxN L p d
theorem bxN_len (L : List It) (p : Nat) : ∀ d, (bxN L p d).length ≤ d
  | 0 => Nat.le_refl _
  | d + 1 => by
    have := bxN_len L p d
    simp only [bxN]
    split
    · simp; omega
    · omega
theorem bxN_none {L : List It} {p : Nat} : ∀ {d}, (∀ j, p ≤ j → j < p + d → isB (tg L j) = false) → bxN L p d = []
  | 0, _ => rfl
  | d + 1, h => by
    simp only [bxN]
    rw [h (p + d) (by omega) (by omega), if_neg (by simp)]
    exact bxN_none fun j a b => h j a (by omega)
theorem bxN_from {L : List It} {p s : Nat} (hs : p ≤ s) (h : ∀ j, p ≤ j → j < s → isB (tg L j) = false) : ∀ d, bxN L p (s - p + d) = bxN L s d
  | 0 => bxN_none fun j a b => h j a (by omega)
  | d + 1 => by
    rw [show s - p + (d + 1) = (s - p + d) + 1 by omega]
    simp only [bxN]
    rw [bxN_from hs h d, show p + (s - p + d) = s + d by omega]
theorem bxN_line {L : List It} {p q : Nat} (hp : p ≤ q) (hq : q ≤ L.length) : bxN L p (q - p) = bxN L (min (fBx L p) q) (q - min (fBx L p) q) := by
  have h2 := fBx_in (L := L) (i := p) (by omega)
  have := bxN_from (L := L) (p := p) (s := min (fBx L p) q) (by omega) (fun j a b => fBx_no (i := p) (by omega) a (by omega)) (q - min (fBx L p) q)
  rw [← this]
  congr 1
  omega
theorem bxN_in {L : List It} {p : Nat} : ∀ {d} {x : Int}, x ∈ bxN L p d → ∃ j : Nat, x = (j : Int) ∧ p ≤ j ∧ j < p + d ∧ isB (tg L j) = true
  | 0, x, h => by simp [bxN] at h
  | d + 1, x, h => by
    simp only [bxN] at h
    by_cases hb : isB (tg L (p + d)) = true
    · rw [if_pos hb, List.mem_append] at h
      rcases h with h | h
      · obtain ⟨j, a, b, c, e⟩ := bxN_in h
        exact ⟨j, a, b, by omega, e⟩
      · simp at h
        exact ⟨p + d, h, by omega, by omega, hb⟩
    · rw [if_neg hb] at h
      obtain ⟨j, a, b, c, e⟩ := bxN_in h
      exact ⟨j, a, b, by omega, e⟩
/-- Whether there is a line in a paragraph that may be invalid. -/
noncomputable def okL (L : List It) (a b : Int) : Bool := isOk L && hasL L a b
/-- The boxes of a line, if there is one. -/
noncomputable def bxO (L : List It) (a b : Int) : List Int := if okL L a b then bxN L (a + 1).toNat (b.toNat - (a + 1).toNat) else []
theorem bxO_no {L : List It} {a b : Int} (h : okL L a b = false) : bxO L a b = [] := by simp [bxO, h]
theorem bxO_yes {L : List It} {a b : Int} {p q : Nat} (h : okL L a b = true) (hp : a + 1 = (p : Int)) (hq : b = (q : Int)) : bxO L a b = bxN L p (q - p) := by
  unfold bxO
  rw [if_pos h, hp, hq]; rfl
theorem bxO_len (L : List It) (a b : Int) : (bxO L a b).length ≤ 60 := by
  cases h : okL L a b
  · rw [bxO_no h]; simp
  · have h' := h
    simp only [okL, Bool.and_eq_true] at h'
    obtain ⟨p, q, e1, e2, h1, h2, _⟩ := hasL_of h'.2
    rw [bxO_yes h e1 e2]
    have := bxN_len L p (q - p)
    have := (isOk_iff.1 h'.1).2.1
    omega
end Go.Proofs.Ytmncdpiojhgcdaa

/- Breaks and lines in the model. -/
namespace Go.Proofs.Ytmncdpiojhgcdaa
open Go.ChangeShapes Go.WideShapes Go.ChangeAt Go.RowKit
set_option linter.unusedVariables false

set_option maxHeartbeats 1000000 in
theorem isBreak_s (w : World) (A : Option Addr) (c : Nat) (L : List It) (h : TL w A L.length L) (i : Nat) (hi : i < L.length) (hl : L.length ≤ 1048576) :
    Calls Try.prog 63 #[.slice A L.length c, .int .i64 i] w fun e w' => e = .returned (.bool (mayE L i)) ∧ w = w' := by
  obtain ⟨b, o, rfl, hb0, c0, c1, c2, c3, c4, c5⟩ := h.at6 hi
  obtain ⟨x, hx⟩ : ∃ x, x = (tg L i).k := ⟨_, rfl⟩
  obtain ⟨y, hy⟩ : ∃ y, y = (tg L i).p := ⟨_, rfl⟩
  have E0 : mayE L i = if x = 2 then decide (0 < i) && isB (tg L (i - 1)) else if x = 3 then decide (y < 1000) else false := by rw [hx, hy]; rfl
  rw [← hx] at c0
  rw [← hy] at c4
  clear hx hy c1 c2 c3 c5
  rcases (by omega : x = 2 ∨ x = 3 ∨ (x ≠ 2 ∧ x ≠ 3)) with rfl | rfl | ⟨h2, h3⟩
  · rcases Nat.eq_zero_or_pos i with hi0 | hi0
    · have E : Hid (mayE L i = false) := hide (by rw [E0, hi0]; rfl)
      have q1 : ¬ 0 < i := by omega
      clear E0 hi0
      go_enter Try.func63, Try.ntmps63
      go_wp2
      go_ret
      exact ⟨bool_ret E.out.symm, rfl⟩
    · obtain ⟨m, hm⟩ : ∃ m, i = m + 1 := ⟨i - 1, by omega⟩
      have em : (i : Int) - 1 = (m : Int) := by omega
      have hml : m < L.length := by omega
      obtain ⟨b', o', he, _, d0, d1, d2, d3, d4, d5⟩ := h.at6 hml
      injection he with he
      cases he
      obtain ⟨z, hz⟩ : ∃ z, z = (tg L m).k := ⟨_, rfl⟩
      have E1 : mayE L i = decide (z = 1) := by rw [E0, if_pos rfl, hm, Nat.add_sub_cancel, hz]; simp [isB]
      rw [← hz] at d0
      have HE := hide E1
      clear E0 E1 hz d1 d2 d3 d4 d5 hm
      rcases (by omega : z = 1 ∨ z ≠ 1) with rfl | hz1
      · go_enter Try.func63, Try.ntmps63
        go_wp2
        go_ret
        exact ⟨bool_ret (by rw [HE.out]; rfl), rfl⟩
      · have g : (z == 1) = false := beq_eq_false_iff_ne.2 hz1
        have HE2 : Hid (mayE L i = false) := hide (by rw [HE.out]; simpa using hz1)
        clear hz1
        go_enter Try.func63, Try.ntmps63
        go_wp2
        go_ret
        exact ⟨bool_ret HE2.out.symm, rfl⟩
  · have E : Hid (mayE L i = decide (y < 1000)) := hide (by rw [E0]; rfl)
    clear E0
    rcases (by omega : y < 1000 ∨ 1000 ≤ y) with hy | hy
    · go_enter Try.func63, Try.ntmps63
      go_wp2
      go_ret
      exact ⟨bool_ret (by rw [E.out]; try simp; try omega), rfl⟩
    · go_enter Try.func63, Try.ntmps63
      go_wp2
      go_ret
      exact ⟨bool_ret (by rw [E.out]; try simp; try omega), rfl⟩
  · have E : Hid (mayE L i = false) := hide (by rw [E0, if_neg h2, if_neg h3])
    have g2 : (x == 2) = false := beq_eq_false_iff_ne.2 h2
    have g3 : (x == 3) = false := beq_eq_false_iff_ne.2 h3
    clear E0 h2 h3
    go_enter Try.func63, Try.ntmps63
    go_wp2
    go_ret
    exact ⟨bool_ret E.out.symm, rfl⟩

set_option maxHeartbeats 2000000 in
theorem BreaksOf_s (w : World) (A : Option Addr) (n c : Nat) (L : List It) (h : TL w A n L) (hn : n ≤ 1048576) :
    Calls Try.prog 127 #[.slice A n c] w (RetL w (brO L)) := by
  obtain rfl : n = L.length := h.1
  have HI := hide h
  clear h
  obtain ⟨ok, hok⟩ : ∃ ok, ok = isOk L := ⟨_, rfl⟩
  have VI := fun (u : World) (h : TL u A L.length L) => validItems_s u A L.length c L h (by omega)
  rw [← hok] at VI
  have HVI := hide VI
  have HOK := hide hok
  clear VI hok
  obtain ⟨i0, hi0, jz0, jz1, jz2⟩ := info_parts int_info
  cases ok
  · have E := hide (brO_no HOK.out.symm)
    go_enter Try.func127, Try.ntmps127
    go_wp2_with fail
    (with_reducible refine (HVI.out _ (HI.out.alloc _)).mono ?_)
    rintro e u1 ⟨rfl, hb⟩
    go_wp2
    go_ret
    exact ⟨none, 0, by rw [E.out]; rfl, by rw [E.out]; exact OL.nil _ _ _, bl_call hb (bl_alloc (bl_refl _) _)⟩
  · have E := hide (brO_yes HOK.out.symm)
    have hl60 := (isOk_iff.1 HOK.out.symm).2.1
    have H0 : Hid (OL (w.alloc (.cells #[] 3)) 3 w.heap.size (some ⟨w.heap.size, 0, none⟩) 0 []) := hide (by
      have := OL.lit (w := w) (e := 3) (B := w.heap.size) (Nat.le_refl _) [] (by simp)
      simpa using this)
    go_enter Try.func127, Try.ntmps127
    go_wp2_with fail
    (with_reducible refine (HVI.out _ (HI.out.alloc _)).mono ?_)
    rintro e u1 ⟨rfl, hb⟩
    have H1 := hide (H0.out.below hb)
    have HB1 := hide (bl_call hb (bl_alloc (bl_refl w) _))
    clear hb
    go_wp2
    go_loopw [3, 4] (fun t i u => ∃ (k : Nat) (A2 : Option Addr) (m cc : Nat), k ≤ L.length ∧ t = .slice A2 m cc ∧ i = .int .i64 k ∧ m = (brTo L k).length ∧ OL u 3 w.heap.size A2 cc (brTo L k) ∧ Below w.heap.size w u) (fun _ i _ => L.length - (intOf i).toNat)
    case atStart => exact ⟨0, _, 0, _, by omega, rfl, rfl, rfl, H1.out, HB1.out⟩
    case round =>
      obtain ⟨k, A2, m, cc, hk, rfl, rfl, hm, hol, hbl⟩ := hrel
      have hmk : m ≤ k := by rw [hm]; exact brTo_len L k
      have HM := hide hm
      have HB := hide hbl
      have hzr := hbl.size
      clear hm
      by_cases hlt : k < L.length
      · have IB := fun (u : World) (h : TL u A L.length L) => isBreak_s u A c L h k hlt (by omega)
        obtain ⟨fb, hfb⟩ : ∃ fb, fb = mayE L k := ⟨_, rfl⟩
        rw [← hfb] at IB
        have HIB := hide IB
        have HTL := hide (HI.out.below hbl)
        have ST := hide (show brTo L (k + 1) = if fb then brTo L k ++ [(k : Int)] else brTo L k by rw [hfb]; rfl)
        clear IB hfb hbl
        go_wp2_with fail
        (with_reducible refine (HIB.out _ HTL.out).mono ?_)
        rintro e w' ⟨rfl, rfl⟩
        cases fb
        · have M := hide (show brTo L (k + 1) = brTo L k by rw [ST.out]; rfl)
          go_wp2
          go_roundw
          case rel => exact ⟨k + 1, A2, m, cc, by omega, rfl, by go_num, by rw [M.out]; exact HM.out, by rw [M.out]; exact hol, HB.out⟩
          case measure => simp [intOf]; omega
        · have M := hide (show brTo L (k + 1) = brTo L k ++ [(k : Int)] by rw [ST.out]; rfl)
          go_wp2_with (at_builtin; refine wpList_append_int rfl (.tmp 18) (.tmp 20) _ rfl 3 i0 Try.underlying30 hi0 jz0 jz1 jz2 (w.heap.size) A2 cc m (brTo L k) rfl (HM.out) (hol.alloc _) wr.heap.size (k : Int) rfl (by simp) (by omega) (by simp; omega) ?_; intro A' c' w' hol' hb' hg')
          go_roundw
          case rel => exact ⟨k + 1, A', m + 1, c', by omega, rfl, by go_num, by rw [M.out, List.length_append, ← HM.out]; rfl, by rw [M.out]; exact hol', (bl_alloc HB.out _).trans hb'⟩
          case measure => simp [intOf]; omega
      · have hke : k = L.length := by omega
        have HE := hide hke
        clear hke
        go_wp2
        go_ret
        refine ⟨A2, cc, by rw [E.out, HM.out, HE.out]; rfl, ?_, HB.out⟩
        rw [E.out, ← HE.out]
        exact hol
end Go.Proofs.Ytmncdpiojhgcdaa

/- What the parts of a paragraph answer in the program. -/
namespace Go.Proofs.Ytmncdpiojhgcdaa
open Go.ChangeShapes Go.WideShapes Go.ChangeAt Go.RowKit
set_option linter.unusedVariables false

theorem plus_big (a b c x y z : Int) (w : World) (h1 : -1000000 ≤ a ∧ a ≤ 1000000) (h2 : -1000000 ≤ b ∧ b ≤ 1000000) (h3 : -1000000 ≤ c ∧ c ≤ 1000000) (k1 : -1000000 ≤ x ∧ x ≤ 1000000) (k2 : -1000000 ≤ y ∧ y ≤ 1000000) (k3 : -1000000 ≤ z ∧ z ≤ 1000000) :
    Calls Try.prog 111 #[gv a b c, gv x y z] w fun e w' => e = .returned (gv (a + x) (b + y) (c + z)) ∧ Below w.heap.size w w' := by
  obtain ⟨l1, l2⟩ := h1; obtain ⟨l3, l4⟩ := h2; obtain ⟨l5, l6⟩ := h3; obtain ⟨l7, l8⟩ := k1; obtain ⟨l9, l10⟩ := k2; obtain ⟨l11, l12⟩ := k3
  go_enter Try.func111, Try.ntmps111
  go_wp2
  refine bodyPost_ret (v := gv (a + x) (b + y) (c + z)) (by simp [results, Try.results111, go_sem, *]) rfl ⟨rfl, ?_⟩
  repeat' (first | with_reducible exact bl_refl _ | with_reducible assumption | with_reducible refine bl_alloc ?_ _ | with_reducible refine bl_set ?_ ?_ _ | with_reducible refine bl_drewN ?_ _ | with_reducible refine bl_drew ?_ | with_reducible refine bl_call (by assumption) ?_)
  all_goals (first | omega | (simp; done) | (simp; omega))
theorem minus_big (a b c x y z : Int) (w : World) (h1 : -1000000 ≤ a ∧ a ≤ 1000000) (h2 : -1000000 ≤ b ∧ b ≤ 1000000) (h3 : -1000000 ≤ c ∧ c ≤ 1000000) (k1 : -1000000 ≤ x ∧ x ≤ 1000000) (k2 : -1000000 ≤ y ∧ y ≤ 1000000) (k3 : -1000000 ≤ z ∧ z ≤ 1000000) :
    Calls Try.prog 142 #[gv a b c, gv x y z] w fun e w' => e = .returned (gv (a - x) (b - y) (c - z)) ∧ Below w.heap.size w w' := by
  obtain ⟨l1, l2⟩ := h1; obtain ⟨l3, l4⟩ := h2; obtain ⟨l5, l6⟩ := h3; obtain ⟨l7, l8⟩ := k1; obtain ⟨l9, l10⟩ := k2; obtain ⟨l11, l12⟩ := k3
  go_enter Try.func142, Try.ntmps142
  go_wp2
  refine bodyPost_ret (v := gv (a - x) (b - y) (c - z)) (by simp [results, Try.results142, go_sem, *]) rfl ⟨rfl, ?_⟩
  repeat' (first | with_reducible exact bl_refl _ | with_reducible assumption | with_reducible refine bl_alloc ?_ _ | with_reducible refine bl_set ?_ ?_ _ | with_reducible refine bl_drewN ?_ _ | with_reducible refine bl_drew ?_ | with_reducible refine bl_call (by assumption) ?_)
  all_goals (first | omega | (simp; done) | (simp; omega))
theorem addGlue_big (a b c x y z : Int) (w : World) (h1 : -1000000 ≤ a ∧ a ≤ 1000000) (h2 : -1000000 ≤ b ∧ b ≤ 1000000) (h3 : -1000000 ≤ c ∧ c ≤ 1000000) (k1 : -1000000 ≤ x ∧ x ≤ 1000000) (k2 : -1000000 ≤ y ∧ y ≤ 1000000) (k3 : -1000000 ≤ z ∧ z ≤ 1000000) :
    Calls Try.prog 143 #[gv a b c, gv x y z] w fun e w' => e = .returned (gv (a + x) (b + y) (c + z)) ∧ Below w.heap.size w w' := by
  obtain ⟨l1, l2⟩ := h1; obtain ⟨l3, l4⟩ := h2; obtain ⟨l5, l6⟩ := h3; obtain ⟨l7, l8⟩ := k1; obtain ⟨l9, l10⟩ := k2; obtain ⟨l11, l12⟩ := k3
  go_enter Try.func143, Try.ntmps143
  go_wp2
  refine bodyPost_ret (v := gv (a + x) (b + y) (c + z)) (by simp [results, Try.results143, go_sem, *]) rfl ⟨rfl, ?_⟩
  repeat' (first | with_reducible exact bl_refl _ | with_reducible assumption | with_reducible refine bl_alloc ?_ _ | with_reducible refine bl_set ?_ ?_ _ | with_reducible refine bl_drewN ?_ _ | with_reducible refine bl_drew ?_ | with_reducible refine bl_call (by assumption) ?_)
  all_goals (first | omega | (simp; done) | (simp; omega))
theorem box_inside (a : Int) (w : World) : Calls Try.prog 178 #[bpv a] w fun e w' => e = .returned (gv a 0 0) ∧ Below w.heap.size w w' := by
  go_enter Try.func178, Try.ntmps178
  go_wp2
  refine bodyPost_ret (v := gv a 0 0) (by simp [results, Try.results178, go_sem, *]) rfl ⟨rfl, ?_⟩
  repeat' (first | with_reducible exact bl_refl _ | with_reducible assumption | with_reducible refine bl_alloc ?_ _ | with_reducible refine bl_set ?_ ?_ _ | with_reducible refine bl_drewN ?_ _ | with_reducible refine bl_drew ?_ | with_reducible refine bl_call (by assumption) ?_)
  all_goals (first | omega | (simp; done) | (simp; omega))
theorem glue_inside (a b c : Int) (w : World) : Calls Try.prog 184 #[gpv a b c] w fun e w' => e = .returned (gv a b c) ∧ Below w.heap.size w w' := by
  go_enter Try.func184, Try.ntmps184
  go_wp2
  refine bodyPost_ret (v := gv a b c) (by simp [results, Try.results184, go_sem, *]) rfl ⟨rfl, ?_⟩
  repeat' (first | with_reducible exact bl_refl _ | with_reducible assumption | with_reducible refine bl_alloc ?_ _ | with_reducible refine bl_set ?_ ?_ _ | with_reducible refine bl_drewN ?_ _ | with_reducible refine bl_drew ?_ | with_reducible refine bl_call (by assumption) ?_)
  all_goals (first | omega | (simp; done) | (simp; omega))
theorem pen_inside (a p : Int) (f : Bool) (w : World) : Calls Try.prog 172 #[ppv a p f] w fun e w' => e = .returned (gv 0 0 0) ∧ Below w.heap.size w w' := by
  go_enter Try.func172, Try.ntmps172
  go_wp2
  refine bodyPost_ret (v := gv 0 0 0) (by simp [results, Try.results172, go_sem, *]) rfl ⟨rfl, ?_⟩
  repeat' (first | with_reducible exact bl_refl _ | with_reducible assumption | with_reducible refine bl_alloc ?_ _ | with_reducible refine bl_set ?_ ?_ _ | with_reducible refine bl_drewN ?_ _ | with_reducible refine bl_drew ?_ | with_reducible refine bl_call (by assumption) ?_)
  all_goals (first | omega | (simp; done) | (simp; omega))
/-- What 'inside' answers for any part. -/
theorem part_inside (x : It) (hx : KOk x) : ∃ T y F, part x = .iface T y ∧ (∀ W, (method 292 T y "loop.example/typesetting/impl.inside").run Try.prog W = .ok (F, y) W) ∧ ∀ w, Calls Try.prog F #[y] w fun e w' => e = .returned (gv (inW x) (inT x) (inS x)) ∧ Below w.heap.size w w' := by
  obtain ⟨k, b, c, d, e, f⟩ := x
  rcases hx with h | h | h
  · simp only at h
    subst h
    refine ⟨166, bpv b, 178, by simp [part], fun W => by kernel_rfl, fun w => ?_⟩
    rw [show gv (inW ⟨1, b, c, d, e, f⟩) (inT ⟨1, b, c, d, e, f⟩) (inS ⟨1, b, c, d, e, f⟩) = gv b 0 0 by simp [inW, inT, inS]]
    exact box_inside b w
  · simp only at h
    subst h
    refine ⟨171, gpv b c d, 184, by simp [part], fun W => by kernel_rfl, fun w => ?_⟩
    rw [show gv (inW ⟨2, b, c, d, e, f⟩) (inT ⟨2, b, c, d, e, f⟩) (inS ⟨2, b, c, d, e, f⟩) = gv b c d by simp [inW, inT, inS]]
    exact glue_inside b c d w
  · simp only at h
    subst h
    refine ⟨134, ppv b e f, 172, by simp [part], fun W => by kernel_rfl, fun w => ?_⟩
    rw [show gv (inW ⟨3, b, c, d, e, f⟩) (inT ⟨3, b, c, d, e, f⟩) (inS ⟨3, b, c, d, e, f⟩) = gv 0 0 0 by simp [inW, inT, inS]]
    exact pen_inside b e f w
set_option maxRecDepth 20000 in
theorem isBox_i (x : It) (hx : KOk x) (w : World) :
    Calls Try.prog 112 #[part x] w fun e w' => e = .returned (.bool (isB x)) ∧ Below w.heap.size w w' := by
  have t1 : ∀ (a : Int) (W : World), (Instr.typeAssert (.iface 166 (bpv a)) 105 166 true).run Try.prog W = .ok (.tuple #[bpv a, .bool true]) W := fun _ _ => by kernel_rfl
  have t2 : ∀ (a b c : Int) (W : World), (Instr.typeAssert (.iface 171 (gpv a b c)) 105 166 true).run Try.prog W = .ok (.tuple #[bpv 0, .bool false]) W := fun _ _ _ _ => by kernel_rfl
  have t3 : ∀ (a p : Int) (f : Bool) (W : World), (Instr.typeAssert (.iface 134 (ppv a p f)) 105 166 true).run Try.prog W = .ok (.tuple #[bpv 0, .bool false]) W := fun _ _ _ _ => by kernel_rfl
  obtain ⟨k, b, c, d, e, f⟩ := x
  rcases hx with h | h | h
  · simp only at h
    subst h
    rw [show part ⟨1, b, c, d, e, f⟩ = .iface 166 (bpv b) from by simp [part], show isB ⟨1, b, c, d, e, f⟩ = true from by simp [isB]]
    go_enter Try.func112, Try.ntmps112
    go_wp2
    go_ret
    refine ⟨rfl, ?_⟩
    (repeat' (first | with_reducible exact bl_refl _ | with_reducible assumption | with_reducible refine bl_alloc ?_ _ | with_reducible refine bl_set ?_ ?_ _ | with_reducible refine bl_drewN ?_ _ | with_reducible refine bl_drew ?_ | with_reducible refine bl_call (by assumption) ?_))
  · simp only at h
    subst h
    rw [show part ⟨2, b, c, d, e, f⟩ = .iface 171 (gpv b c d) from by simp [part], show isB ⟨2, b, c, d, e, f⟩ = false from by simp [isB]]
    go_enter Try.func112, Try.ntmps112
    go_wp2
    go_ret
    refine ⟨rfl, ?_⟩
    (repeat' (first | with_reducible exact bl_refl _ | with_reducible assumption | with_reducible refine bl_alloc ?_ _ | with_reducible refine bl_set ?_ ?_ _ | with_reducible refine bl_drewN ?_ _ | with_reducible refine bl_drew ?_ | with_reducible refine bl_call (by assumption) ?_))
  · simp only at h
    subst h
    rw [show part ⟨3, b, c, d, e, f⟩ = .iface 134 (ppv b e f) from by simp [part], show isB ⟨3, b, c, d, e, f⟩ = false from by simp [isB]]
    go_enter Try.func112, Try.ntmps112
    go_wp2
    go_ret
    refine ⟨rfl, ?_⟩
    (repeat' (first | with_reducible exact bl_refl _ | with_reducible assumption | with_reducible refine bl_alloc ?_ _ | with_reducible refine bl_set ?_ ?_ _ | with_reducible refine bl_drewN ?_ _ | with_reducible refine bl_drew ?_ | with_reducible refine bl_call (by assumption) ?_))

/-- Lists that are filled one by one. -/
def gl3 (L : List It) (j : Nat) : Gp := ⟨sW L j, sT L j, sS L j⟩
def SL (L : List It) (k : Nat) : List Gp := (List.range (L.length + 1)).map fun j => if j ≤ k then gl3 L j else ⟨0, 0, 0⟩
def FL (L : List It) (k : Nat) : List Int := (List.range (L.length + 1)).map fun j => if j ≤ k then (nF L j : Int) else 0
def XL (L : List It) (d : Nat) : List Int := (List.range (L.length + 1)).map fun j => if L.length ≤ j + d then (nxB L (L.length - j) : Int) else 0
theorem SL_len (L : List It) (k : Nat) : (SL L k).length = L.length + 1 := by simp [SL]
theorem FL_len (L : List It) (k : Nat) : (FL L k).length = L.length + 1 := by simp [FL]
theorem XL_len (L : List It) (k : Nat) : (XL L k).length = L.length + 1 := by simp [XL]
theorem SL_get {L : List It} {k j : Nat} (h : j ≤ L.length) : (SL L k)[j]? = some (if j ≤ k then gl3 L j else ⟨0, 0, 0⟩) := by simp [SL, Nat.lt_succ_of_le h]
theorem FL_get {L : List It} {k j : Nat} (h : j ≤ L.length) : ng (FL L k) j = if j ≤ k then (nF L j : Int) else 0 := by simp [ng, FL, List.getD, Nat.lt_succ_of_le h]
theorem XL_get {L : List It} {d j : Nat} (h : j ≤ L.length) : ng (XL L d) j = if L.length ≤ j + d then (nxB L (L.length - j) : Int) else 0 := by simp [ng, XL, List.getD, Nat.lt_succ_of_le h]
theorem SL_zero (L : List It) : SL L 0 = List.replicate (L.length + 1) ⟨0, 0, 0⟩ := by
  apply List.ext_getElem (by simp [SL])
  intro i h1 h2
  simp [SL, gl3]
  intro h; subst h; exact ⟨rfl, rfl, rfl⟩
theorem FL_zero (L : List It) : FL L 0 = List.replicate (L.length + 1) 0 := by
  apply List.ext_getElem (by simp [FL])
  intro i h1 h2
  simp [FL]
  intro h; subst h; rfl
theorem XL_zero (L : List It) : (List.replicate (L.length + 1) (0 : Int)).set L.length L.length = XL L 0 := by
  apply Agr.all (by simp [XL])
  intro j hj
  simp at hj
  rw [ng_set (by simpa using hj), XL_get (by omega)]
  by_cases e : L.length = j
  · subst e
    rw [if_pos rfl, if_pos (by omega), Nat.sub_self]; rfl
  · rw [if_neg e, if_neg (by omega), ng_lt (by simpa using hj)]; simp
theorem SL_step {L : List It} {k : Nat} (h : k < L.length) : (SL L k).set (k + 1) (gl3 L (k + 1)) = SL L (k + 1) := by
  apply List.ext_getElem?
  intro j
  rw [List.getElem?_set, SL_len]
  by_cases hj : j ≤ L.length
  · rw [SL_get hj, SL_get hj]
    by_cases e : k + 1 = j
    · subst e; simp; omega
    · rw [if_neg e]
      by_cases e2 : j ≤ k
      · rw [if_pos e2, if_pos (by omega)]
      · rw [if_neg e2, if_neg (by omega)]
  · rw [if_neg (by omega), List.getElem?_eq_none (by rw [SL_len]; omega), List.getElem?_eq_none (by rw [SL_len]; omega)]
theorem FL_step {L : List It} {k : Nat} {z : Int} (h : k < L.length) (hz : z = (nF L (k + 1) : Int)) : (FL L k).set (k + 1) z = FL L (k + 1) := by
  apply Agr.all (by simp [FL])
  intro j hj
  rw [List.length_set, FL_len] at hj
  rw [ng_set (by rw [FL_len]; exact hj), FL_get (by omega), FL_get (by omega)]
  by_cases e : k + 1 = j
  · subst e; rw [if_pos rfl, if_pos (Nat.le_refl _), hz]
  · rw [if_neg e]
    by_cases e2 : j ≤ k
    · rw [if_pos e2, if_pos (by omega)]
    · rw [if_neg e2, if_neg (by omega)]
theorem XL_step {L : List It} {d i : Nat} {z : Int} (h : i + (d + 1) = L.length) (hz : z = (nxB L (d + 1) : Int)) : (XL L d).set i z = XL L (d + 1) := by
  apply Agr.all (by simp [XL])
  intro j hj
  rw [List.length_set, XL_len] at hj
  rw [ng_set (by rw [XL_len]; exact hj), XL_get (by omega), XL_get (by omega)]
  by_cases e : i = j
  · subst e; rw [if_pos rfl, if_pos (by omega), hz]; congr 2; omega
  · rw [if_neg e]
    by_cases e2 : L.length ≤ j + d
    · rw [if_pos e2, if_pos (by omega)]
    · rw [if_neg e2, if_neg (by omega)]
theorem set_set {l : List Int} {k : Nat} {a b : Int} : (l.set k a).set k b = l.set k b := List.set_set ..
end Go.Proofs.Ytmncdpiojhgcdaa

/- Lines of a paragraph, in the model. -/
namespace Go.Proofs.Ytmncdpiojhgcdaa
open Go.ChangeShapes Go.WideShapes Go.ChangeAt Go.RowKit
set_option linter.unusedVariables false

set_option maxRecDepth 8000 in
set_option maxHeartbeats 2000000 in
theorem lineStart_s (w : World) (A : Option Addr) (c : Nat) (L : List It) (h : TL w A L.length L) (hl : L.length ≤ 1048576) (a : Int) (p : Nat) (hp : a + 1 = (p : Int)) (hpl : p ≤ L.length) :
    Calls Try.prog 135 #[.slice A L.length c, .int .i64 a] w fun e w' => e = .returned (.int .i64 (stS L p : Nat)) ∧ w = w' := by
  have wp : IntKind.i64.wrap (a + 1) = (p : Int) := by rw [hp]; exact IntWalk.i64_in _ (by omega)
  have HI := hide h
  clear hp h
  go_enter Try.func135, Try.ntmps135
  go_wp2
  go_loop [5] (fun i => ∃ k : Nat, p ≤ k ∧ k ≤ L.length ∧ i = .int .i64 k ∧ ∀ j, p ≤ j → j < k → isB (tg L j) = false ∧ isF (tg L j) = false) (fun i => L.length - (intOf i).toNat)
  case atStart => exact ⟨p, by omega, hpl, rfl, fun j h1 h2 => by omega⟩
  case round =>
    obtain ⟨k, hpk, hk, rfl, hno⟩ := hrel
    have HNO := hide hno
    clear hno
    by_cases hlt : k < L.length
    · obtain ⟨b, o, rfl, hb0, c0, c1, c2, c3, c4, c5⟩ := HI.out.at6 hlt
      obtain ⟨x, hx⟩ : ∃ x, x = (tg L k).k := ⟨_, rfl⟩
      obtain ⟨y, hy⟩ : ∃ y, y = (tg L k).p := ⟨_, rfl⟩
      have EB := hide (show isB (tg L k) = decide (x = 1) by rw [hx]; rfl)
      have EF := hide (show isF (tg L k) = decide (x = 3 ∧ y = -1000) by rw [hx, hy]; rfl)
      rw [← hx] at c0
      rw [← hy] at c4
      clear hx hy c1 c2 c3 c5
      rcases (by omega : x = 1 ∨ (x = 3 ∧ y = -1000) ∨ (x = 3 ∧ y ≠ -1000) ∨ (x ≠ 1 ∧ x ≠ 3)) with rfl | ⟨rfl, rfl⟩ | ⟨rfl, hy⟩ | ⟨h1, h3⟩
      · have E := hide (stS_at hpk hk HNO.out (.inr (.inl (by rw [EB.out]; rfl))))
        go_wp2
        go_ret
        exact ⟨int_ret (by rw [E.out]), rfl⟩
      · have E := hide (stS_at hpk hk HNO.out (.inr (.inr (by rw [EF.out]; rfl))))
        go_wp2
        go_ret
        exact ⟨int_ret (by rw [E.out]), rfl⟩
      · have g := beq_eq_false_iff_ne.2 hy
        have N1 := hide (show isB (tg L k) = false ∧ isF (tg L k) = false from ⟨by rw [EB.out]; rfl, by rw [EF.out]; simp [hy]⟩)
        clear hy
        go_wp2
        go_round
        case rel => exact ⟨k + 1, by omega, by omega, by go_num, fun j a b => by rcases (by omega : j < k ∨ j = k) with e | e; exact HNO.out j a e; rw [e]; exact N1.out⟩
        case measure => simp [intOf]; omega
      · have g1 : (x == 1) = false := beq_eq_false_iff_ne.2 h1
        have g2 : (x != 1) = true := bne_iff_ne.2 h1
        have g3 : (x == 3) = false := beq_eq_false_iff_ne.2 h3
        have N1 := hide (show isB (tg L k) = false ∧ isF (tg L k) = false from ⟨by rw [EB.out]; simp [h1], by rw [EF.out]; simp [h3]⟩)
        clear h1 h3
        go_wp2
        go_round
        case rel => exact ⟨k + 1, by omega, by omega, by go_num, fun j a b => by rcases (by omega : j < k ∨ j = k) with e | e; exact HNO.out j a e; rw [e]; exact N1.out⟩
        case measure => simp [intOf]; omega
    · have hke : k = L.length := by omega
      have E := hide (stS_at hpk hk HNO.out (.inl hke))
      have q : ¬ k < L.length := hlt
      clear hke
      go_wp2
      go_ret
      exact ⟨int_ret (by rw [E.out]), rfl⟩
set_option maxRecDepth 8000 in
set_option maxHeartbeats 4000000 in
theorem validLine_s (w : World) (A : Option Addr) (n c : Nat) (L : List It) (h : TL w A n L) (hn : n ≤ 1048576) (a b : Int) (wa : -9223372036854775808 ≤ a ∧ a ≤ 9223372036854775807) (wb : -9223372036854775808 ≤ b ∧ b ≤ 9223372036854775807) :
    Calls Try.prog 64 #[.slice A n c, .int .i64 a, .int .i64 b] w fun e w' => e = .returned (.bool (okL L a b)) ∧ Below w.heap.size w w' := by
  obtain rfl : n = L.length := h.1
  have HI := hide h
  obtain ⟨wa1, wa2⟩ := wa
  obtain ⟨wb1, wb2⟩ := wb
  clear h
  have VI := hide (validItems_s w A L.length c L HI.out (by omega))
  cases hok : isOk L
  · have E := hide (show okL L a b = false by simp [okL, hok])
    rw [hok] at VI
    clear hok
    go_enter Try.func64, Try.ntmps64
    go_wp2_with fail
    (with_reducible refine VI.out.mono ?_)
    rintro e u1 ⟨rfl, hb⟩
    go_wp2
    go_ret
    exact ⟨bool_ret E.out.symm, hb⟩
  rw [hok] at VI
  have EO := hide (show okL L a b = hasL L a b by simp [okL, hok])
  have hl60 := (isOk_iff.1 hok).2.1
  clear hok
  rcases (by omega : a < -1 ∨ (-1 ≤ a ∧ b ≤ a) ∨ (-1 ≤ a ∧ a < b ∧ (L.length : Int) ≤ b) ∨ (-1 ≤ a ∧ a < b ∧ b < (L.length : Int))) with q | ⟨ha, q⟩ | ⟨ha, q, hb0⟩ | ⟨ha, q, hb0⟩
  · have E := hide (show okL L a b = false by rw [EO.out]; simp [hasL, show ¬ (-1 ≤ a) by omega])
    go_enter Try.func64, Try.ntmps64
    go_wp2_with fail
    (with_reducible refine VI.out.mono ?_)
    rintro e u1 ⟨rfl, hb⟩
    go_wp2
    go_ret
    exact ⟨bool_ret E.out.symm, hb⟩
  · have E := hide (show okL L a b = false by rw [EO.out]; simp [hasL, show ¬ (a < b) by omega])
    have d1 : decide (a < -1) = false := decide_eq_false (by omega)
    go_enter Try.func64, Try.ntmps64
    go_wp2_with fail
    (with_reducible refine VI.out.mono ?_)
    rintro e u1 ⟨rfl, hb⟩
    go_wp2
    go_ret
    exact ⟨bool_ret E.out.symm, hb⟩
  · have E := hide (show okL L a b = false by rw [EO.out]; simp [hasL, show ¬ (b < (L.length : Int)) by omega])
    have d1 : decide (a < -1) = false := decide_eq_false (by omega)
    have d2 : decide (b ≤ a) = false := decide_eq_false (by omega)
    go_enter Try.func64, Try.ntmps64
    go_wp2_with fail
    (with_reducible refine VI.out.mono ?_)
    rintro e u1 ⟨rfl, hb⟩
    go_wp2
    go_ret
    exact ⟨bool_ret E.out.symm, hb⟩
  · obtain ⟨k, rfl⟩ : ∃ k : Nat, b = (k : Int) := ⟨b.toNat, by omega⟩
    have hk : k < L.length := by omega
    have d1 : decide (a < -1) = false := decide_eq_false (by omega)
    have d2 : decide ((k : Int) ≤ a) = false := decide_eq_false (by omega)
    have d3 : decide ((L.length : Int) ≤ (k : Int)) = false := decide_eq_false (by omega)
    have d4 : decide (L.length ≤ k) = false := decide_eq_false (by omega)
    have BK := fun (u : World) (hu : TL u A L.length L) => isBreak_s u A c L hu k hk (by omega)
    obtain ⟨fk, hfk⟩ : ∃ fk, fk = mayE L k := ⟨_, rfl⟩
    rw [← hfk] at BK
    have HBK := hide BK
    have HFK := hide hfk
    clear BK hfk
    cases fk
    · have E := hide (show okL L a k = false by rw [EO.out]; simp [hasL, ← HFK.out])
      go_enter Try.func64, Try.ntmps64
      go_wp2_with fail
      (with_reducible refine VI.out.mono ?_)
      rintro e u1 ⟨rfl, hb⟩
      go_wp2_with fail
      (with_reducible refine (HBK.out _ (HI.out.below hb)).mono ?_)
      rintro e w' ⟨rfl, rfl⟩
      go_wp2
      go_ret
      exact ⟨bool_ret E.out.symm, hb⟩
    obtain ⟨p, hp⟩ : ∃ p : Nat, a + 1 = (p : Int) := ⟨(a + 1).toNat, by omega⟩
    have wp : IntKind.i64.wrap (a + 1) = (p : Int) := by rw [hp]; exact IntWalk.i64_in _ (by omega)
    have hpk : p ≤ k := by omega
    have LOOP : Hid (a = -1 ∨ mayE L a.toNat = true → okL L a k = decide (nF L p = nF L k)) := hide (fun hm => by
      rw [EO.out]
      simp only [hasL]
      rw [hp, decide_eq_true ha, decide_eq_true q, decide_eq_true hb0]
      simp only [Int.toNat_natCast, ← HFK.out, Bool.and_true, Bool.true_and]
      rcases hm with e | e
      · rw [e]; simp
      · rw [e]; simp)
    have NO : Hid (∀ j, p ≤ j → j < k → isF (tg L j) = true → ¬ nF L p = nF L k) := hide (fun j h1 h2 h3 h4 => by
      have := (nF_eq (L := L) hpk).1 h4 j h1 h2
      rw [h3] at this; cases this)
    rcases (by omega : a = -1 ∨ 0 ≤ a) with ha0 | ha0
    · have d5 : decide (0 ≤ a) = false := decide_eq_false (by omega)
      have d6 : decide (a < 0) = true := decide_eq_true (by omega)
      have LP := hide (LOOP.out (.inl ha0))
      clear LOOP ha0 hp q
      go_enter Try.func64, Try.ntmps64
      go_wp2_with fail
      (with_reducible refine VI.out.mono ?_)
      rintro e u1 ⟨rfl, hb⟩
      go_wp2_with fail
      (with_reducible refine (HBK.out _ (HI.out.below hb)).mono ?_)
      rintro e w' ⟨rfl, rfl⟩
      have HB := hide hb
      have HI1 := hide (HI.out.below hb)
      clear hb
      go_wp2
      clear d1 d2 d3 d4 d5 d6
      go_loop [7] (fun i => ∃ j : Nat, p ≤ j ∧ j ≤ k ∧ i = .int .i64 j ∧ ∀ r, p ≤ r → r < j → isF (tg L r) = false) (fun i => k - (intOf i).toNat)
      case atStart => exact ⟨p, Nat.le_refl _, hpk, rfl, fun r h1 h2 => by omega⟩
      case round =>
        obtain ⟨j, hpj, hj, rfl, hno⟩ := hrel
        have HNO := hide hno
        clear hno
        by_cases hlt : j < k
        · obtain ⟨b', o, rfl, hb', c0, c1, c2, c3, c4, c5⟩ := HI1.out.at6 (show j < L.length by omega)
          obtain ⟨x, hx⟩ : ∃ x, x = (tg L j).k := ⟨_, rfl⟩
          obtain ⟨y, hy⟩ : ∃ y, y = (tg L j).p := ⟨_, rfl⟩
          have EF := hide (show isF (tg L j) = decide (x = 3 ∧ y = -1000) by rw [hx, hy]; rfl)
          rw [← hx] at c0
          rw [← hy] at c4
          have hjl : j < L.length := by omega
          have hjl2 : (j : Int) < (L.length : Int) := by omega
          clear hx hy c1 c2 c3 c5
          rcases (by omega : (x = 3 ∧ y = -1000) ∨ (x = 3 ∧ y ≠ -1000) ∨ x ≠ 3) with ⟨rfl, rfl⟩ | ⟨rfl, hy⟩ | h3
          · have E := hide (show okL L _ k = false by rw [LP.out]; exact decide_eq_false (NO.out j hpj hlt (by rw [EF.out]; rfl)))
            go_wp2
            go_ret
            exact ⟨bool_ret E.out.symm, HB.out⟩
          · have g := beq_eq_false_iff_ne.2 hy
            have N1 := hide (show isF (tg L j) = false by rw [EF.out]; simp [hy])
            clear hy
            go_wp2
            go_round
            case rel => exact ⟨j + 1, by omega, by omega, by go_num, fun r a b => by rcases (by omega : r < j ∨ r = j) with e | e; exact HNO.out r a e; rw [e]; exact N1.out⟩
            case measure => simp [intOf]; omega
          · have g3 : (x == 3) = false := beq_eq_false_iff_ne.2 h3
            have N1 := hide (show isF (tg L j) = false by rw [EF.out]; simp [h3])
            clear h3
            go_wp2
            go_round
            case rel => exact ⟨j + 1, by omega, by omega, by go_num, fun r a b => by rcases (by omega : r < j ∨ r = j) with e | e; exact HNO.out r a e; rw [e]; exact N1.out⟩
            case measure => simp [intOf]; omega
        · have hje : j = k := by omega
          have E := hide (show okL L _ k = true by rw [LP.out]; exact decide_eq_true ((nF_eq (L := L) hpk).2 (by rw [← hje]; exact HNO.out)))
          clear hje
          go_wp2
          go_ret
          exact ⟨bool_ret E.out.symm, HB.out⟩
    · obtain ⟨m, rfl⟩ : ∃ m : Nat, a = (m : Int) := ⟨a.toNat, by omega⟩
      have hm : m < L.length := by omega
      have BM := fun (u : World) (hu : TL u A L.length L) => isBreak_s u A c L hu m hm (by omega)
      obtain ⟨fm, hfm⟩ : ∃ fm, fm = mayE L m := ⟨_, rfl⟩
      rw [← hfm] at BM
      have HBM := hide BM
      have HFM := hide hfm
      have d5 : decide ((0 : Int) ≤ (m : Int)) = true := decide_eq_true (by omega)
      have d7 : decide (k ≤ m) = false := decide_eq_false (by omega)
      have d8 : decide ((m : Int) < -1) = false := decide_eq_false (by omega)
      clear BM hfm
      cases fm
      · have E := hide (show okL L m k = false by rw [EO.out]; simp [hasL, ← HFM.out])
        go_enter Try.func64, Try.ntmps64
        go_wp2_with fail
        (with_reducible refine VI.out.mono ?_)
        rintro e u1 ⟨rfl, hb⟩
        go_wp2_with fail
        (with_reducible refine (HBK.out _ (HI.out.below hb)).mono ?_)
        rintro e w' ⟨rfl, rfl⟩
        go_wp2_with fail
        (with_reducible refine (HBM.out _ (HI.out.below hb)).mono ?_)
        rintro e w' ⟨rfl, rfl⟩
        go_wp2
        go_ret
        exact ⟨bool_ret E.out.symm, hb⟩
      · have LP := hide (LOOP.out (.inr (by simpa using HFM.out.symm)))
        clear LOOP hp q
        go_enter Try.func64, Try.ntmps64
        go_wp2_with fail
        (with_reducible refine VI.out.mono ?_)
        rintro e u1 ⟨rfl, hb⟩
        go_wp2_with fail
        (with_reducible refine (HBK.out _ (HI.out.below hb)).mono ?_)
        rintro e w' ⟨rfl, rfl⟩
        go_wp2_with fail
        (with_reducible refine (HBM.out _ (HI.out.below hb)).mono ?_)
        rintro e w' ⟨rfl, rfl⟩
        have HB := hide hb
        have HI1 := hide (HI.out.below hb)
        clear hb
        go_wp2
        clear d1 d2 d3 d4 d5 d7 d8
        go_loop [7] (fun i => ∃ j : Nat, p ≤ j ∧ j ≤ k ∧ i = .int .i64 j ∧ ∀ r, p ≤ r → r < j → isF (tg L r) = false) (fun i => k - (intOf i).toNat)
        case atStart => exact ⟨p, Nat.le_refl _, hpk, rfl, fun r h1 h2 => by omega⟩
        case round =>
          obtain ⟨j, hpj, hj, rfl, hno⟩ := hrel
          have HNO := hide hno
          clear hno
          by_cases hlt : j < k
          · obtain ⟨b', o, rfl, hb', c0, c1, c2, c3, c4, c5⟩ := HI1.out.at6 (show j < L.length by omega)
            obtain ⟨x, hx⟩ : ∃ x, x = (tg L j).k := ⟨_, rfl⟩
            obtain ⟨y, hy⟩ : ∃ y, y = (tg L j).p := ⟨_, rfl⟩
            have EF := hide (show isF (tg L j) = decide (x = 3 ∧ y = -1000) by rw [hx, hy]; rfl)
            rw [← hx] at c0
            rw [← hy] at c4
            have hjl : j < L.length := by omega
            have hjl2 : (j : Int) < (L.length : Int) := by omega
            clear hx hy c1 c2 c3 c5
            rcases (by omega : (x = 3 ∧ y = -1000) ∨ (x = 3 ∧ y ≠ -1000) ∨ x ≠ 3) with ⟨rfl, rfl⟩ | ⟨rfl, hy⟩ | h3
            · have E := hide (show okL L _ k = false by rw [LP.out]; exact decide_eq_false (NO.out j hpj hlt (by rw [EF.out]; rfl)))
              go_wp2
              go_ret
              exact ⟨bool_ret E.out.symm, HB.out⟩
            · have g := beq_eq_false_iff_ne.2 hy
              have N1 := hide (show isF (tg L j) = false by rw [EF.out]; simp [hy])
              clear hy
              go_wp2
              go_round
              case rel => exact ⟨j + 1, by omega, by omega, by go_num, fun r a b => by rcases (by omega : r < j ∨ r = j) with e | e; exact HNO.out r a e; rw [e]; exact N1.out⟩
              case measure => simp [intOf]; omega
            · have g3 : (x == 3) = false := beq_eq_false_iff_ne.2 h3
              have N1 := hide (show isF (tg L j) = false by rw [EF.out]; simp [h3])
              clear h3
              go_wp2
              go_round
              case rel => exact ⟨j + 1, by omega, by omega, by go_num, fun r a b => by rcases (by omega : r < j ∨ r = j) with e | e; exact HNO.out r a e; rw [e]; exact N1.out⟩
              case measure => simp [intOf]; omega
          · have hje : j = k := by omega
            have E := hide (show okL L _ k = true by rw [LP.out]; exact decide_eq_true ((nF_eq (L := L) hpk).2 (by rw [← hje]; exact HNO.out)))
            clear hje
            go_wp2
            go_ret
            exact ⟨bool_ret E.out.symm, HB.out⟩
end Go.Proofs.Ytmncdpiojhgcdaa

/- The lengths and boxes of lines, in the model. -/
namespace Go.Proofs.Ytmncdpiojhgcdaa
open Go.ChangeShapes Go.WideShapes Go.ChangeAt Go.RowKit
set_option linter.unusedVariables false
set_option linter.unusedSimpArgs false

set_option maxRecDepth 8000 in
set_option maxHeartbeats 4000000 in
theorem lineGlue_s (w : World) (A : Option Addr) (c : Nat) (L : List It) (h : TL w A L.length L) (hall : ∀ i, i < L.length → itOk (tg L i) = true) (hl : L.length ≤ 60) (a : Int) (p q : Nat) (hp : a + 1 = (p : Int)) (hpl : p ≤ q) (hq : q < L.length) :
    Calls Try.prog 102 #[.slice A L.length c, .int .i64 a, .int .i64 q] w fun e w' => e = .returned (gv (sW L q - sW L (min (stS L p) q) + atW (tg L q)) (sT L q - sT L (min (stS L p) q)) (sS L q - sS L (min (stS L p) q))) ∧ Below w.heap.size w w' := by
  have HST := hide (lineStart_s ((w.alloc (.cells #[.int .i64 0, .int .i64 0, .int .i64 0] 43)).alloc (.cells #[.int .i64 0, .int .i64 0, .int .i64 0] 43)) A c L ((h.alloc _).alloc _) (by omega) a p hp (by omega))
  have hst := stS_in (L := L) (p := p) (by omega)
  obtain ⟨st, hs⟩ : ∃ st, st = stS L p := ⟨_, rfl⟩
  rw [← hs] at hst HST ⊢
  obtain ⟨hst1, hst2⟩ := hst
  obtain ⟨m, hmm⟩ : ∃ m, m = min st q := ⟨_, rfl⟩
  rw [← hmm]
  obtain ⟨x0, hx0⟩ : ∃ y, y = sW L q - sW L m := ⟨_, rfl⟩
  obtain ⟨x1, hx1⟩ : ∃ y, y = sT L q - sT L m := ⟨_, rfl⟩
  obtain ⟨x2, hx2⟩ : ∃ y, y = sS L q - sS L m := ⟨_, rfl⟩
  obtain ⟨z, hz⟩ : ∃ y, y = atW (tg L q) := ⟨_, rfl⟩
  rw [← hx0, ← hx1, ← hx2, ← hz]
  have hmq : m ≤ q := by omega
  have bq := s_bd hall (k := q) (by omega)
  have bs := s_bd hall (k := m) (by omega)
  have bx : -1000000 ≤ x0 ∧ x0 ≤ 1000000 := by omega
  obtain ⟨bx1, bx2⟩ := bx
  have HVV := hide (show m = min st q ∧ x0 = sW L q - sW L m ∧ x1 = sT L q - sT L m ∧ x2 = sS L q - sS L m ∧ z = atW (tg L q) from ⟨hmm, hx0, hx1, hx2, hz⟩)
  clear hmm hx0 hx1 hx2 hz bq bs
  have HI := hide h
  have HALL := hide hall
  have r0 : (w.alloc (.cells #[.int .i64 0, .int .i64 0, .int .i64 0] 43)).cell? ⟨w.heap.size, 0, none⟩ = some (.int .i64 0) := by simp [go_sem]
  have r1 : (w.alloc (.cells #[.int .i64 0, .int .i64 0, .int .i64 0] 43)).cell? ⟨w.heap.size, 1, none⟩ = some (.int .i64 0) := by simp [go_sem]
  have r2 : (w.alloc (.cells #[.int .i64 0, .int .i64 0, .int .i64 0] 43)).cell? ⟨w.heap.size, 2, none⟩ = some (.int .i64 0) := by simp [go_sem]
  have f0 : (w.alloc (.cells #[.int .i64 0, .int .i64 0, .int .i64 0] 43)).frozen? ⟨w.heap.size, 0, none⟩ = false := by simp [go_sem]
  have f1 : (w.alloc (.cells #[.int .i64 0, .int .i64 0, .int .i64 0] 43)).frozen? ⟨w.heap.size, 1, none⟩ = false := by simp [go_sem]
  have f2 : (w.alloc (.cells #[.int .i64 0, .int .i64 0, .int .i64 0] 43)).frozen? ⟨w.heap.size, 2, none⟩ = false := by simp [go_sem]
  have zw : (w.alloc (.cells #[.int .i64 0, .int .i64 0, .int .i64 0] 43)).heap.size = w.heap.size + 1 := by simp
  have HBW := hide (bl_alloc (bl_refl w) (.cells #[.int .i64 0, .int .i64 0, .int .i64 0] 43))
  have o0 : ((w.alloc (.cells #[.int .i64 0, .int .i64 0, .int .i64 0] 43)).alloc (.cells #[.int .i64 0, .int .i64 0, .int .i64 0] 43)).cell? ⟨w.heap.size + 1, 0, none⟩ = some (.int .i64 0) := by simp [go_sem]
  have o1 : ((w.alloc (.cells #[.int .i64 0, .int .i64 0, .int .i64 0] 43)).alloc (.cells #[.int .i64 0, .int .i64 0, .int .i64 0] 43)).cell? ⟨w.heap.size + 1, 1, none⟩ = some (.int .i64 0) := by simp [go_sem]
  have o2 : ((w.alloc (.cells #[.int .i64 0, .int .i64 0, .int .i64 0] 43)).alloc (.cells #[.int .i64 0, .int .i64 0, .int .i64 0] 43)).cell? ⟨w.heap.size + 1, 2, none⟩ = some (.int .i64 0) := by simp [go_sem]
  have g0 : ((w.alloc (.cells #[.int .i64 0, .int .i64 0, .int .i64 0] 43)).alloc (.cells #[.int .i64 0, .int .i64 0, .int .i64 0] 43)).frozen? ⟨w.heap.size + 1, 0, none⟩ = false := by simp [go_sem]
  have g1 : ((w.alloc (.cells #[.int .i64 0, .int .i64 0, .int .i64 0] 43)).alloc (.cells #[.int .i64 0, .int .i64 0, .int .i64 0] 43)).frozen? ⟨w.heap.size + 1, 1, none⟩ = false := by simp [go_sem]
  have g2 : ((w.alloc (.cells #[.int .i64 0, .int .i64 0, .int .i64 0] 43)).alloc (.cells #[.int .i64 0, .int .i64 0, .int .i64 0] 43)).frozen? ⟨w.heap.size + 1, 2, none⟩ = false := by simp [go_sem]
  have HB2 : Hid (Below (w.heap.size + 1) (w.alloc (.cells #[.int .i64 0, .int .i64 0, .int .i64 0] 43)) ((w.alloc (.cells #[.int .i64 0, .int .i64 0, .int .i64 0] 43)).alloc (.cells #[.int .i64 0, .int .i64 0, .int .i64 0] 43))) := hide (by have := bl_alloc (bl_refl (w.alloc (.cells #[.int .i64 0, .int .i64 0, .int .i64 0] 43))) (.cells #[.int .i64 0, .int .i64 0, .int .i64 0] 43); rwa [zw] at this)
  clear hp hs h hall
  go_enter Try.func102, Try.ntmps102
  go_wp2_with fail
  (with_reducible refine HST.out.mono ?_)
  rintro e w' ⟨rfl, rfl⟩
  go_wp2
  clear HST
  go_loopw [8] (fun i u => ∃ k : Nat, st ≤ k ∧ (k ≤ q ∨ k = st) ∧ i = .int .i64 k ∧ u.cell? ⟨w.heap.size + 1, 0, none⟩ = some (.int .i64 (sW L k - sW L st)) ∧ u.cell? ⟨w.heap.size + 1, 1, none⟩ = some (.int .i64 (sT L k - sT L st)) ∧ u.cell? ⟨w.heap.size + 1, 2, none⟩ = some (.int .i64 (sS L k - sS L st)) ∧ Below (w.heap.size + 1) (w.alloc (.cells #[.int .i64 0, .int .i64 0, .int .i64 0] 43)) u ∧ (u.frozen? ⟨w.heap.size + 1, 0, none⟩ = false ∧ u.frozen? ⟨w.heap.size + 1, 1, none⟩ = false ∧ u.frozen? ⟨w.heap.size + 1, 2, none⟩ = false) ∧ w.heap.size + 1 < u.heap.size) (fun i _ => q - (intOf i).toNat)
  case atStart => exact ⟨st, Nat.le_refl _, .inr rfl, rfl, by rw [o0, Int.sub_self], by rw [o1, Int.sub_self], by rw [o2, Int.sub_self], HB2.out, ⟨g0, g1, g2⟩, by simp⟩
  case round =>
    obtain ⟨k, hk1, hk2, rfl, p0, p1, p2, hbl, ⟨g0, g1, g2⟩, hz⟩ := hrel
    clear o0 o1 o2
    have HBL := hide hbl
    have HB := hide ((hbl.mono (Nat.le_succ _)).mono (Nat.le_refl _))
    have HIr := hide (HI.out.below ((hbl.mono (Nat.le_succ _)) |> fun x => (show Below w.heap.size w wr from (HBW.out.trans x))))
    by_cases hlt : k < q
    · have hkl : k < L.length := by omega
      have bk := s_bd HALL.out (k := k) (by omega)
      have bs := s_bd HALL.out (k := st) (by omega)
      have bm := s_mono HALL.out (a := st) (k := k) (by omega) (by omega)
      have bi := in_bd HALL.out hkl
      obtain ⟨b, o, rfl, hb0, c0, c1, c2, c3, c4, c5⟩ := HI.out.at6 hkl
      have hbw : Below w.heap.size w wr := HBW.out.trans (hbl.mono (Nat.le_succ _))
      have c0 := (hbw.cell (p := ⟨b, o + k * 6, none⟩) hb0).trans c0
      have c1 := (hbw.cell (p := ⟨b, o + k * 6 + 1, none⟩) hb0).trans c1
      have c2 := (hbw.cell (p := ⟨b, o + k * 6 + 2, none⟩) hb0).trans c2
      have c3 := (hbw.cell (p := ⟨b, o + k * 6 + 3, none⟩) hb0).trans c3
      have IO := iok_iff.1 (HALL.out k hkl)
      have eW : sW L (k + 1) = sW L k + inW (tg L k) := rfl
      have eT : sT L (k + 1) = sT L k + inT (tg L k) := rfl
      have eS : sS L (k + 1) = sS L k + inS (tg L k) := rfl
      have hkl2 : (k : Int) < (L.length : Int) := by omega
      rcases (show (tg L k).k = 3 ∨ ((tg L k).k ≠ 3 ∧ inW (tg L k) = (tg L k).w ∧ inT (tg L k) = (tg L k).st ∧ inS (tg L k) = (tg L k).sh) by
          unfold inW inT inS
          rcases IO with x | x | x
          · right; rw [if_neg (by omega), if_neg (by omega), if_neg (by omega)]; omega
          · right; rw [if_neg (by omega), if_pos (by omega), if_pos (by omega)]; omega
          · left; omega) with h3 | ⟨h3, e1, e2, e3⟩
      · have N0 : Hid (sW L (k + 1) = sW L k ∧ sT L (k + 1) = sT L k ∧ sS L (k + 1) = sS L k) := hide (by
          rw [eW, eT, eS]
          unfold inW inT inS
          rw [if_pos h3, if_neg (by omega), if_neg (by omega)]; omega)
        rw [h3] at c0
        clear IO eW eT eS h3 bk bs bm bi c1 c2 c3 c4 c5 hbw
        go_wp2
        go_roundw
        case rel => exact ⟨k + 1, by omega, .inl (by omega), by go_num, by rw [N0.out.1]; exact p0, by rw [N0.out.2.1]; exact p1, by rw [N0.out.2.2]; exact p2, HBL.out, ⟨g0, g1, g2⟩, hz⟩
        case measure => simp [intOf]; omega
      · have g3 : ((tg L k).k != 3) = true := bne_iff_ne.2 h3
        obtain ⟨x, hx⟩ : ∃ x, x = (tg L k).k := ⟨_, rfl⟩
        rw [← hx] at c0 g3
        obtain ⟨y0, hy0⟩ : ∃ y, y = (tg L k).w := ⟨_, rfl⟩
        obtain ⟨y1, hy1⟩ : ∃ y, y = (tg L k).st := ⟨_, rfl⟩
        obtain ⟨y2, hy2⟩ : ∃ y, y = (tg L k).sh := ⟨_, rfl⟩
        rw [← hy0] at c1
        rw [← hy1] at c2
        rw [← hy2] at c3
        obtain ⟨u0, hu0⟩ : ∃ y, y = sW L k - sW L st := ⟨_, rfl⟩
        obtain ⟨u1, hu1⟩ : ∃ y, y = sT L k - sT L st := ⟨_, rfl⟩
        obtain ⟨u2, hu2⟩ : ∃ y, y = sS L k - sS L st := ⟨_, rfl⟩
        rw [← hu0] at p0
        rw [← hu1] at p1
        rw [← hu2] at p2
        have N0 := hide (show sW L (k + 1) - sW L st = u0 + y0 ∧ sT L (k + 1) - sT L st = u1 + y1 ∧ sS L (k + 1) - sS L st = u2 + y2 by
          rw [eW, eT, eS, e1, e2, e3]; omega)
        have HA := hide (addGlue_big u0 u1 u2 y0 y1 y2)
        have bb : (-1000000 ≤ u0 ∧ u0 ≤ 1000000) ∧ (-1000000 ≤ u1 ∧ u1 ≤ 1000000) ∧ (-1000000 ≤ u2 ∧ u2 ≤ 1000000) ∧ (-1000000 ≤ y0 ∧ y0 ≤ 1000000) ∧ (-1000000 ≤ y1 ∧ y1 ≤ 1000000) ∧ (-1000000 ≤ y2 ∧ y2 ≤ 1000000) := by omega
        have HBB := hide bb
        clear IO eW eT eS h3 bk bs bm bi c4 c5 hbw e1 e2 e3 hx hy0 hy1 hy2 hu0 hu1 hu2 bb
        go_upto_region 6 with fail
        have S0 := bl_drew (bl_refl wr)
        refine wp_region_held_drew (S := fun u : World => Below (w.heap.size + 1) wr u) (by kernel_rfl) (S0.mono (Nat.le_of_lt hz)) (fun hHeld => ?_)
        (first | refine tky 1 (h := ?_) | refine tkn 1 (h := ?_)); (try simp only [Act.put, tkd, tke, tkf])
        (first | refine tky 2 (h := ?_) | refine tkn 2 (h := ?_)); (try simp only [Act.put, tkd, tke, tkf])
        (first | refine tky 3 (h := ?_) | refine tkn 3 (h := ?_)); (try simp only [Act.put, tkd, tke, tkf])
        (first | refine tky 4 (h := ?_) | refine tkn 4 (h := ?_)); (try simp only [Act.put, tkd, tke, tkf])
        refine tkY (i := 5) (oi := ?_) (v := ?_) ?_ (by kernel_rfl) ?_ ?_ ?_ (by assumption) ?_; rotate_left 2; (next => simp only [tka, tkb, tkc]; rfl); (next => exact fun _ _ _ h => h); (next => rfl); (next => intro w_ hSw; (try dsimp only at hSw); have c1 := (hSw.cell (p := ⟨b, o + k * 6 + 1, none⟩) (Nat.lt_succ_of_lt hb0)).trans c1; have c2 := (hSw.cell (p := ⟨b, o + k * 6 + 2, none⟩) (Nat.lt_succ_of_lt hb0)).trans c2; have c3 := (hSw.cell (p := ⟨b, o + k * 6 + 3, none⟩) (Nat.lt_succ_of_lt hb0)).trans c3; go_simp; (try (with_reducible rfl))); (try simp only [Act.put, tkd, tke, tkf])
        refine wpAnyH_ready (rs := [0]) (by kernel_rfl) (by simp) ?_; refine AllReadyH.cons (o := ?_) ?_ (fun K hK => ?_) AllReadyH.nil; rotate_left 1; (next => simp only [List.getElem?_toArray, List.getElem?_cons_succ, List.getElem?_cons_zero]; rfl); go_simp
        (try go_wp2_with fail); refine hK.out _ _ (S0.mono (Nat.le_of_lt hz)) (fun hHeld => ?_); clear hK K; (try simp only [Act.put, List.setIfInBounds_toArray, List.set_cons_zero, List.set_cons_succ])
        refine wpAnyH_ready (rs := [6]) (by kernel_rfl) (by simp) ?_; refine AllReadyH.cons (o := ?_) ?_ (fun K hK => ?_) AllReadyH.nil; rotate_left 1; (next => simp only [List.getElem?_toArray, List.getElem?_cons_succ, List.getElem?_cons_zero]; rfl); go_simp
        (go_at_call 143; (with_reducible refine (HA.out _ HBB.out.1 HBB.out.2.1 HBB.out.2.2.1 HBB.out.2.2.2.1 HBB.out.2.2.2.2.1 HBB.out.2.2.2.2.2).mono ?_); rintro e W1 ⟨rfl, hb⟩)
        have S1 : Below wr.heap.size wr W1 := bl_call hb S0
        have p0 := keep_cell S1 p0
        have p1 := keep_cell S1 p1
        have p2 := keep_cell S1 p2
        have g0 := (S1.frozen (p := ⟨w.heap.size + 1, 0, none⟩) hz).trans g0
        have g1 := (S1.frozen (p := ⟨w.heap.size + 1, 1, none⟩) hz).trans g1
        have g2 := (S1.frozen (p := ⟨w.heap.size + 1, 2, none⟩) hz).trans g2
        have hz1 := Nat.lt_of_lt_of_le hz S1.size
        have S1m := S1.mono (Nat.le_of_lt hz)
        clear hb
        (try go_wp2_with fail); refine hK.out _ _ (S1m) (fun hHeld => ?_); clear hK K; (try simp only [Act.put, List.setIfInBounds_toArray, List.set_cons_zero, List.set_cons_succ])
        refine wpAnyH_ready (rs := [7]) (by kernel_rfl) (by simp) ?_; refine AllReadyH.cons (o := ?_) ?_ (fun K hK => ?_) AllReadyH.nil; rotate_left 1; (next => simp only [List.getElem?_toArray, List.getElem?_cons_succ, List.getElem?_cons_zero]; rfl); go_simp
        (try go_wp2_with fail); refine hK.out _ _ (((S1m.setCell (Nat.le_refl _) _).setCell (Nat.le_refl _) _).setCell (Nat.le_refl _) _) (fun hHeld => ?_); clear hK K; (try simp only [Act.put, List.setIfInBounds_toArray, List.set_cons_zero, List.set_cons_succ])
        refine wpAnyH_done (by kernel_rfl) ?_ _
        go_wp2
        go_roundw
        case rel => exact ⟨k + 1, by omega, .inl (by omega), by go_num, by rw [N0.out.1]; simp [go_sem, *], by rw [N0.out.2.1]; simp [go_sem, *], by rw [N0.out.2.2]; simp [go_sem, *], HBL.out.trans (((S1m.setCell (Nat.le_refl _) _).setCell (Nat.le_refl _) _).setCell (Nat.le_refl _) _), ⟨by simp [go_sem, *], by simp [go_sem, *], by simp [go_sem, *]⟩, by simpa using hz1⟩
        case measure => simp [intOf]; omega
    · obtain ⟨hmm, hx0, hx1, hx2, hzz⟩ := HVV.out
      have hv : sW L k - sW L st = x0 ∧ sT L k - sT L st = x1 ∧ sS L k - sS L st = x2 := by
        rw [hx0, hx1, hx2]
        rcases hk2 with e | e
        · have e' : k = q := by omega
          have e2 : m = st := by omega
          rw [e2, e']; exact ⟨rfl, rfl, rfl⟩
        · have e2 : m = q := by omega
          rw [e2, e]; simp
      rw [hv.1] at p0
      rw [hv.2.1] at p1
      rw [hv.2.2] at p2
      obtain ⟨b, o, rfl, hb0, c0, c1, c2, c3, c4, c5⟩ := HI.out.at6 hq
      have hbw : Below w.heap.size w wr := HBW.out.trans (hbl.mono (Nat.le_succ _))
      have c0 := (hbw.cell (p := ⟨b, o + q * 6, none⟩) hb0).trans c0
      have c1 := (hbw.cell (p := ⟨b, o + q * 6 + 1, none⟩) hb0).trans c1
      have zl : w.heap.size < (w.alloc (.cells #[.int .i64 0, .int .i64 0, .int .i64 0] 43)).heap.size := by simp
      have zs : w.heap.size < w.heap.size + 1 := by omega
      have r0 := (hbl.cell (p := ⟨w.heap.size, 0, none⟩) zs).trans r0
      have r1 := (hbl.cell (p := ⟨w.heap.size, 1, none⟩) zs).trans r1
      have r2 := (hbl.cell (p := ⟨w.heap.size, 2, none⟩) zs).trans r2
      have f0 := (hbl.frozen (p := ⟨w.heap.size, 0, none⟩) zs).trans f0
      have f1 := (hbl.frozen (p := ⟨w.heap.size, 1, none⟩) zs).trans f1
      have f2 := (hbl.frozen (p := ⟨w.heap.size, 2, none⟩) zs).trans f2
      have IO := iok_iff.1 (HALL.out q hq)
      have hql2 : (q : Int) < (L.length : Int) := by omega
      have HBF : Hid (Below w.heap.size w wr) := hide hbw
      rcases (show ((tg L q).k = 3 ∧ atW (tg L q) = (tg L q).w ∧ 0 ≤ (tg L q).w ∧ (tg L q).w ≤ 1000) ∨ ((tg L q).k ≠ 3 ∧ atW (tg L q) = 0) by
          unfold atW
          rcases IO with x | x | x
          · right; rw [if_neg (by omega)]; omega
          · right; rw [if_neg (by omega)]; omega
          · left; rw [if_pos (by omega)]; omega) with ⟨h3, e1, b1, b2⟩ | ⟨h3, e1⟩
      · rw [h3] at c0
        obtain ⟨y, hy⟩ : ∃ y, y = (tg L q).w := ⟨_, rfl⟩
        rw [← hy] at c1 b1 b2
        obtain rfl : z = y := by rw [hzz, e1, hy]
        clear IO hv hmm hbw c2 c3 c4 c5 h3 e1 hy hx0 hx1 hx2 hbl hk2 hzz
        go_upto_region 8 with fail
        have S0 := bl_drew (bl_refl wr)
        refine wp_region_held_drew (S := fun u : World => Below (w.heap.size + 1) wr u) (by kernel_rfl) (S0.mono (Nat.le_of_lt hz)) (fun hHeld => ?_)
        (first | refine tky 0 (h := ?_) | refine tkn 0 (h := ?_)); (try simp only [Act.put, tkd, tke, tkf])
        (first | refine tky 2 (h := ?_) | refine tkn 2 (h := ?_)); (try simp only [Act.put, tkd, tke, tkf])
        (first | refine tky 3 (h := ?_) | refine tkn 3 (h := ?_)); (try simp only [Act.put, tkd, tke, tkf])
        (first | refine tky 4 (h := ?_) | refine tkn 4 (h := ?_)); (try simp only [Act.put, tkd, tke, tkf])
        (first | refine tky 5 (h := ?_) | refine tkn 5 (h := ?_)); (try simp only [Act.put, tkd, tke, tkf])
        (first | refine tky 6 (h := ?_) | refine tkn 6 (h := ?_)); (try simp only [Act.put, tkd, tke, tkf])
        refine tkY (i := 7) (oi := ?_) (v := ?_) ?_ (by kernel_rfl) ?_ ?_ ?_ (by assumption) ?_; rotate_left 2; (next => simp only [tka, tkb, tkc]; rfl); (next => exact fun _ _ _ h => h); (next => rfl); (next => intro w_ hSw; (try dsimp only at hSw); have c1 := (hSw.cell (p := ⟨b, o + q * 6 + 1, none⟩) (Nat.lt_succ_of_lt hb0)).trans c1; go_simp; (try (with_reducible rfl))); (try simp only [Act.put, tkd, tke, tkf])
        refine wpAnyH_ready (rs := [1]) (by kernel_rfl) (by simp) ?_; refine AllReadyH.cons (o := ?_) ?_ (fun K hK => ?_) AllReadyH.nil; rotate_left 1; (next => simp only [List.getElem?_toArray, List.getElem?_cons_succ, List.getElem?_cons_zero]; rfl); go_simp
        (try go_wp2_with fail); refine hK.out _ _ (S0.mono (Nat.le_of_lt hz)) (fun hHeld => ?_); clear hK K; (try simp only [Act.put, List.setIfInBounds_toArray, List.set_cons_zero, List.set_cons_succ])
        (first | refine tky 8 (h := ?_) | refine tkn 8 (h := ?_)); (try simp only [Act.put, tkd, tke, tkf])
        (first | refine tky 9 (h := ?_) | refine tkn 9 (h := ?_)); (try simp only [Act.put, tkd, tke, tkf])
        refine wpAnyH_ready (rs := [10]) (by kernel_rfl) (by simp) ?_; refine AllReadyH.cons (o := ?_) ?_ (fun K hK => ?_) AllReadyH.nil; rotate_left 1; (next => simp only [List.getElem?_toArray, List.getElem?_cons_succ, List.getElem?_cons_zero]; rfl); go_simp
        (try go_wp2_with fail); refine hK.out _ _ ((S0.mono (Nat.le_of_lt hz)).setCell (Nat.le_refl _) _) (fun hHeld => ?_); clear hK K; (try simp only [Act.put, List.setIfInBounds_toArray, List.set_cons_zero, List.set_cons_succ])
        refine wpAnyH_done (by kernel_rfl) ?_ _
        go_wp2
        refine bodyPost_ret (v := gv (x0 + z) x1 x2) (by simp [results, Try.results102, go_sem, *]) rfl ⟨rfl, ?_⟩
        exact bl_set (bl_set (bl_set (bl_set (bl_drew HBF.out) (Nat.le_succ _) _) (Nat.le_refl _) _) (Nat.le_refl _) _) (Nat.le_refl _) _
      · have g3 : ((tg L q).k == 3) = false := beq_eq_false_iff_ne.2 h3
        obtain ⟨x, hx⟩ : ∃ x, x = (tg L q).k := ⟨_, rfl⟩
        rw [← hx] at c0 g3
        obtain rfl : z = 0 := by rw [hzz, e1]
        clear IO hv hmm hbw c2 c3 c4 c5 h3 e1 hx hx0 hx1 hx2 hbl hk2 hzz
        go_wp2
        refine bodyPost_ret (v := gv (x0 + 0) x1 x2) (by simp [results, Try.results102, go_sem, *]) rfl ⟨rfl, ?_⟩
        exact bl_set (bl_set (bl_set HBF.out (Nat.le_refl _) _) (Nat.le_refl _) _) (Nat.le_refl _) _
end Go.Proofs.Ytmncdpiojhgcdaa

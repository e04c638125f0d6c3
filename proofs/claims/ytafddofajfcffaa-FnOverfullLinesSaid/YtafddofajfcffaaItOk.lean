/- Whether items are valid, in the model. -/
import Derived.Test.YtafddofajfcffaaIt
namespace Go.Proofs.Ytafddofajfcffaa
open Go.ChangeShapes Go.WideShapes Go.ChangeAt Go.RowKit
set_option linter.unusedVariables false
open Classical

/-- Whether an item is valid. -/
def IOk (k w st sh p : Int) (f : Bool) : Prop :=
  (k = 1 ∧ (0 ≤ w ∧ w ≤ 1000) ∧ st = 0 ∧ sh = 0 ∧ p = 0 ∧ f = false) ∨ (k = 2 ∧ (0 ≤ w ∧ w ≤ 1000) ∧ (0 ≤ st ∧ st ≤ 1000) ∧ (0 ≤ sh ∧ sh ≤ w) ∧ p = 0 ∧ f = false) ∨ (k = 3 ∧ (0 ≤ w ∧ w ≤ 1000) ∧ st = 0 ∧ sh = 0 ∧ (-1000 ≤ p ∧ p ≤ 1000))
noncomputable def iok (k w st sh p : Int) (f : Bool) : Bool := decide (IOk k w st sh p f)
theorem iok_yes {k w st sh p : Int} {f : Bool} (h : IOk k w st sh p f) : iok k w st sh p f = true := decide_eq_true h
theorem iok_no {k w st sh p : Int} {f : Bool} (h : ¬ IOk k w st sh p f) : iok k w st sh p f = false := decide_eq_false h
theorem iok_iff {k w st sh p : Int} {f : Bool} : iok k w st sh p f = true ↔ IOk k w st sh p f := ⟨of_decide_eq_true, decide_eq_true⟩
noncomputable def itOk (x : It) : Bool := iok x.k x.w x.st x.sh x.p x.f

set_option maxHeartbeats 1000000 in
theorem validItem_c (k b c d e : Int) (f : Bool) (w : World) :
    Calls Try.prog 131 #[.agg #[.int .i64 k, .int .i64 b, .int .i64 c, .int .i64 d, .int .i64 e, .bool f]] w fun e' w' => e' = .returned (.bool (iok k b c d e f)) ∧ Below w.heap.size w w' := by
  rcases (by omega : k = 1 ∨ k = 2 ∨ k = 3 ∨ (k ≠ 1 ∧ k ≠ 2 ∧ k ≠ 3)) with rfl | rfl | rfl | ⟨h1, h2, h3⟩
  · cases q1 : inB b 0 1000
    · have r1 : ¬ (0 ≤ b ∧ b ≤ 1000) := fun h => by rw [inB_yes h.1 h.2] at q1; cases q1
      have E : iok 1 b c d e f = false := (iok_no (fun x => by rcases x with ⟨x1, x2, x3, x4, x5, x6⟩ | ⟨x1, x2, x3, x4, x5, x6⟩ | ⟨x1, x2, x3, x4, x5⟩ <;> first | omega | (cases x6; done)))
      clear r1
      (rw [E]; clear E; go_enter Try.func131, Try.ntmps131; go_wp2_with (go_at_call 96; refine (inRange_any _ _ _ _).mono ?_; rintro e w' ⟨rfl, rfl⟩); go_ret; exact ⟨rfl, bl_alloc (bl_refl _) _⟩)
    have r1 := inB_iff.1 q1
    rcases (by omega : c ≠ 0 ∨ c = 0) with h | rfl
    · have E : iok 1 b c d e f = false := (iok_no (fun x => by rcases x with ⟨x1, x2, x3, x4, x5, x6⟩ | ⟨x1, x2, x3, x4, x5, x6⟩ | ⟨x1, x2, x3, x4, x5⟩ <;> first | omega | (cases x6; done)))
      have g : (c == 0) = false := beq_eq_false_iff_ne.2 h
      clear h
      (rw [E]; clear E; go_enter Try.func131, Try.ntmps131; go_wp2_with (go_at_call 96; refine (inRange_any _ _ _ _).mono ?_; rintro e w' ⟨rfl, rfl⟩); go_ret; exact ⟨rfl, bl_alloc (bl_refl _) _⟩)
    rcases (by omega : d ≠ 0 ∨ d = 0) with h | rfl
    · have E : iok 1 b 0 d e f = false := (iok_no (fun x => by rcases x with ⟨x1, x2, x3, x4, x5, x6⟩ | ⟨x1, x2, x3, x4, x5, x6⟩ | ⟨x1, x2, x3, x4, x5⟩ <;> first | omega | (cases x6; done)))
      have g : (d == 0) = false := beq_eq_false_iff_ne.2 h
      clear h
      (rw [E]; clear E; go_enter Try.func131, Try.ntmps131; go_wp2_with (go_at_call 96; refine (inRange_any _ _ _ _).mono ?_; rintro e w' ⟨rfl, rfl⟩); go_ret; exact ⟨rfl, bl_alloc (bl_refl _) _⟩)
    rcases (by omega : e ≠ 0 ∨ e = 0) with h | rfl
    · have E : iok 1 b 0 0 e f = false := (iok_no (fun x => by rcases x with ⟨x1, x2, x3, x4, x5, x6⟩ | ⟨x1, x2, x3, x4, x5, x6⟩ | ⟨x1, x2, x3, x4, x5⟩ <;> first | omega | (cases x6; done)))
      have g : (e == 0) = false := beq_eq_false_iff_ne.2 h
      clear h
      (rw [E]; clear E; go_enter Try.func131, Try.ntmps131; go_wp2_with (go_at_call 96; refine (inRange_any _ _ _ _).mono ?_; rintro e w' ⟨rfl, rfl⟩); go_ret; exact ⟨rfl, bl_alloc (bl_refl _) _⟩)
    cases f
    · have E : iok 1 b 0 0 0 false = true := iok_yes (.inl ⟨rfl, r1, rfl, rfl, rfl, rfl⟩)
      (rw [E]; clear E; go_enter Try.func131, Try.ntmps131; go_wp2_with (go_at_call 96; refine (inRange_any _ _ _ _).mono ?_; rintro e w' ⟨rfl, rfl⟩); go_ret; exact ⟨rfl, bl_alloc (bl_refl _) _⟩)
    · have E : iok 1 b 0 0 0 true = false := (iok_no (fun x => by rcases x with ⟨x1, x2, x3, x4, x5, x6⟩ | ⟨x1, x2, x3, x4, x5, x6⟩ | ⟨x1, x2, x3, x4, x5⟩ <;> first | omega | (cases x6; done)))
      (rw [E]; clear E; go_enter Try.func131, Try.ntmps131; go_wp2_with (go_at_call 96; refine (inRange_any _ _ _ _).mono ?_; rintro e w' ⟨rfl, rfl⟩); go_ret; exact ⟨rfl, bl_alloc (bl_refl _) _⟩)
  · cases q1 : inB b 0 1000
    · have r1 : ¬ (0 ≤ b ∧ b ≤ 1000) := fun h => by rw [inB_yes h.1 h.2] at q1; cases q1
      have E : iok 2 b c d e f = false := (iok_no (fun x => by rcases x with ⟨x1, x2, x3, x4, x5, x6⟩ | ⟨x1, x2, x3, x4, x5, x6⟩ | ⟨x1, x2, x3, x4, x5⟩ <;> first | omega | (cases x6; done)))
      clear r1
      (rw [E]; clear E; go_enter Try.func131, Try.ntmps131; go_wp2_with (go_at_call 96; refine (inRange_any _ _ _ _).mono ?_; rintro e w' ⟨rfl, rfl⟩); go_ret; exact ⟨rfl, bl_alloc (bl_refl _) _⟩)
    have r1 := inB_iff.1 q1
    cases q2 : inB c 0 1000
    · have r2 : ¬ (0 ≤ c ∧ c ≤ 1000) := fun h => by rw [inB_yes h.1 h.2] at q2; cases q2
      have E : iok 2 b c d e f = false := (iok_no (fun x => by rcases x with ⟨x1, x2, x3, x4, x5, x6⟩ | ⟨x1, x2, x3, x4, x5, x6⟩ | ⟨x1, x2, x3, x4, x5⟩ <;> first | omega | (cases x6; done)))
      clear r2
      (rw [E]; clear E; go_enter Try.func131, Try.ntmps131; go_wp2_with (go_at_call 96; refine (inRange_any _ _ _ _).mono ?_; rintro e w' ⟨rfl, rfl⟩); go_ret; exact ⟨rfl, bl_alloc (bl_refl _) _⟩)
    have r2 := inB_iff.1 q2
    cases q3 : inB d 0 b
    · have r3 : ¬ (0 ≤ d ∧ d ≤ b) := fun h => by rw [inB_yes h.1 h.2] at q3; cases q3
      have E : iok 2 b c d e f = false := (iok_no (fun x => by rcases x with ⟨x1, x2, x3, x4, x5, x6⟩ | ⟨x1, x2, x3, x4, x5, x6⟩ | ⟨x1, x2, x3, x4, x5⟩ <;> first | omega | (cases x6; done)))
      clear r3
      (rw [E]; clear E; go_enter Try.func131, Try.ntmps131; go_wp2_with (go_at_call 96; refine (inRange_any _ _ _ _).mono ?_; rintro e w' ⟨rfl, rfl⟩); go_ret; exact ⟨rfl, bl_alloc (bl_refl _) _⟩)
    have r3 := inB_iff.1 q3
    rcases (by omega : e ≠ 0 ∨ e = 0) with h | rfl
    · have E : iok 2 b c d e f = false := (iok_no (fun x => by rcases x with ⟨x1, x2, x3, x4, x5, x6⟩ | ⟨x1, x2, x3, x4, x5, x6⟩ | ⟨x1, x2, x3, x4, x5⟩ <;> first | omega | (cases x6; done)))
      have g : (e == 0) = false := beq_eq_false_iff_ne.2 h
      clear h
      (rw [E]; clear E; go_enter Try.func131, Try.ntmps131; go_wp2_with (go_at_call 96; refine (inRange_any _ _ _ _).mono ?_; rintro e w' ⟨rfl, rfl⟩); go_ret; exact ⟨rfl, bl_alloc (bl_refl _) _⟩)
    cases f
    · have E : iok 2 b c d 0 false = true := iok_yes (.inr (.inl ⟨rfl, r1, r2, r3, rfl, rfl⟩))
      (rw [E]; clear E; go_enter Try.func131, Try.ntmps131; go_wp2_with (go_at_call 96; refine (inRange_any _ _ _ _).mono ?_; rintro e w' ⟨rfl, rfl⟩); go_ret; exact ⟨rfl, bl_alloc (bl_refl _) _⟩)
    · have E : iok 2 b c d 0 true = false := (iok_no (fun x => by rcases x with ⟨x1, x2, x3, x4, x5, x6⟩ | ⟨x1, x2, x3, x4, x5, x6⟩ | ⟨x1, x2, x3, x4, x5⟩ <;> first | omega | (cases x6; done)))
      (rw [E]; clear E; go_enter Try.func131, Try.ntmps131; go_wp2_with (go_at_call 96; refine (inRange_any _ _ _ _).mono ?_; rintro e w' ⟨rfl, rfl⟩); go_ret; exact ⟨rfl, bl_alloc (bl_refl _) _⟩)
  · cases q1 : inB b 0 1000
    · have r1 : ¬ (0 ≤ b ∧ b ≤ 1000) := fun h => by rw [inB_yes h.1 h.2] at q1; cases q1
      have E : iok 3 b c d e f = false := (iok_no (fun x => by rcases x with ⟨x1, x2, x3, x4, x5, x6⟩ | ⟨x1, x2, x3, x4, x5, x6⟩ | ⟨x1, x2, x3, x4, x5⟩ <;> first | omega | (cases x6; done)))
      clear r1
      (rw [E]; clear E; go_enter Try.func131, Try.ntmps131; go_wp2_with (go_at_call 96; refine (inRange_any _ _ _ _).mono ?_; rintro e w' ⟨rfl, rfl⟩); go_ret; exact ⟨rfl, bl_alloc (bl_refl _) _⟩)
    have r1 := inB_iff.1 q1
    rcases (by omega : c ≠ 0 ∨ c = 0) with h | rfl
    · have E : iok 3 b c d e f = false := (iok_no (fun x => by rcases x with ⟨x1, x2, x3, x4, x5, x6⟩ | ⟨x1, x2, x3, x4, x5, x6⟩ | ⟨x1, x2, x3, x4, x5⟩ <;> first | omega | (cases x6; done)))
      have g : (c == 0) = false := beq_eq_false_iff_ne.2 h
      clear h
      (rw [E]; clear E; go_enter Try.func131, Try.ntmps131; go_wp2_with (go_at_call 96; refine (inRange_any _ _ _ _).mono ?_; rintro e w' ⟨rfl, rfl⟩); go_ret; exact ⟨rfl, bl_alloc (bl_refl _) _⟩)
    rcases (by omega : d ≠ 0 ∨ d = 0) with h | rfl
    · have E : iok 3 b 0 d e f = false := (iok_no (fun x => by rcases x with ⟨x1, x2, x3, x4, x5, x6⟩ | ⟨x1, x2, x3, x4, x5, x6⟩ | ⟨x1, x2, x3, x4, x5⟩ <;> first | omega | (cases x6; done)))
      have g : (d == 0) = false := beq_eq_false_iff_ne.2 h
      clear h
      (rw [E]; clear E; go_enter Try.func131, Try.ntmps131; go_wp2_with (go_at_call 96; refine (inRange_any _ _ _ _).mono ?_; rintro e w' ⟨rfl, rfl⟩); go_ret; exact ⟨rfl, bl_alloc (bl_refl _) _⟩)
    cases q2 : inB e (-1000) 1000
    · have r2 : ¬ (-1000 ≤ e ∧ e ≤ 1000) := fun h => by rw [inB_yes h.1 h.2] at q2; cases q2
      have E : iok 3 b 0 0 e f = false := (iok_no (fun x => by rcases x with ⟨x1, x2, x3, x4, x5, x6⟩ | ⟨x1, x2, x3, x4, x5, x6⟩ | ⟨x1, x2, x3, x4, x5⟩ <;> first | omega | (cases x6; done)))
      clear r2
      (rw [E]; clear E; go_enter Try.func131, Try.ntmps131; go_wp2_with (go_at_call 96; refine (inRange_any _ _ _ _).mono ?_; rintro e w' ⟨rfl, rfl⟩); go_ret; exact ⟨rfl, bl_alloc (bl_refl _) _⟩)
    · have E : iok 3 b 0 0 e f = true := iok_yes (.inr (.inr ⟨rfl, r1, rfl, rfl, inB_iff.1 q2⟩))
      (rw [E]; clear E; go_enter Try.func131, Try.ntmps131; go_wp2_with (go_at_call 96; refine (inRange_any _ _ _ _).mono ?_; rintro e w' ⟨rfl, rfl⟩); go_ret; exact ⟨rfl, bl_alloc (bl_refl _) _⟩)
  · have E : iok k b c d e f = false := (iok_no (fun x => by rcases x with ⟨x1, x2, x3, x4, x5, x6⟩ | ⟨x1, x2, x3, x4, x5, x6⟩ | ⟨x1, x2, x3, x4, x5⟩ <;> first | omega | (cases x6; done)))
    have g1 : (k == 1) = false := beq_eq_false_iff_ne.2 h1
    have g2 : (k == 2) = false := beq_eq_false_iff_ne.2 h2
    have g3 : (k == 3) = false := beq_eq_false_iff_ne.2 h3
    clear h1 h2 h3
    (rw [E]; clear E; go_enter Try.func131, Try.ntmps131; go_wp2_with (go_at_call 96; refine (inRange_any _ _ _ _).mono ?_; rintro e w' ⟨rfl, rfl⟩); go_ret; exact ⟨rfl, bl_alloc (bl_refl _) _⟩)
theorem validItem_s (x : It) (w : World) :
    Calls Try.prog 131 #[itv x] w fun e' w' => e' = .returned (.bool (itOk x)) ∧ Below w.heap.size w w' := validItem_c x.k x.w x.st x.sh x.p x.f w

/-- Whether items are a paragraph. -/
def IsOk (L : List It) : Prop := (∀ i, i < L.length → itOk (tg L i) = true) ∧ (1 ≤ L.length ∧ L.length ≤ 60) ∧ (tg L (L.length - 1)).k = 3 ∧ (tg L (L.length - 1)).p = -1000
noncomputable def isOk (L : List It) : Bool := decide (IsOk L)
theorem isOk_iff {L : List It} : isOk L = true ↔ IsOk L := ⟨of_decide_eq_true, decide_eq_true⟩
theorem isOk_no {L : List It} (h : ¬ IsOk L) : isOk L = false := decide_eq_false h
def OTo (L : List It) (k : Nat) : Prop := ∀ i, i < k → itOk (tg L i) = true
theorem OTo.zero (L : List It) : OTo L 0 := fun i h => by omega
theorem OTo.step {L : List It} {k : Nat} (h : OTo L k) (hk : itOk (tg L k) = true) : OTo L (k + 1) := fun i hi => by
  rcases (by omega : i < k ∨ i = k) with e | e
  · exact h i e
  · rw [e]; exact hk

set_option maxHeartbeats 1000000 in
theorem validItems_s (w : World) (A : Option Addr) (n c : Nat) (L : List It) (h : TL w A n L) (hn : n ≤ 4611686018427387904) :
    Calls Try.prog 86 #[.slice A n c] w fun e w' => e = .returned (.bool (isOk L)) ∧ Below w.heap.size w w' := by
  obtain rfl : n = L.length := h.1
  have HI := hide h
  clear h
  go_enter Try.func86, Try.ntmps86
  go_wp2
  go_loopw [3] (fun i u => ∃ p : Nat, p ≤ L.length ∧ i = .int .i64 p ∧ OTo L p ∧ Below w.heap.size w u) (fun i _ => L.length - (intOf i).toNat)
  case atStart => exact ⟨0, by omega, rfl, OTo.zero _, bl_refl _⟩
  case round =>
    obtain ⟨p, hp, rfl, hpo, hbl⟩ := hrel
    have HP := hide hpo
    have HB := hide hbl
    clear hpo
    by_cases hlt : p < L.length
    · obtain ⟨b, o, rfl, hb0, c0, c1, c2, c3, c4, c5⟩ := (HI.out.below hbl).at6 hlt
      have VI := fun (u : World) => validItem_s (tg L p) u
      cases q : itOk (tg L p)
      · rw [q] at VI
        have HV := hide VI
        have E := hide (isOk_no (L := L) (fun x => by have := x.1 p hlt; rw [q] at this; cases this))
        clear q VI hbl
        go_wp2_with fail
        (with_reducible refine (HV.out _).mono ?_)
        rintro e u1 ⟨rfl, hb⟩
        go_wp2
        go_ret
        exact ⟨bool_ret E.out.symm, bl_call hb HB.out⟩
      · rw [q] at VI
        have HV := hide VI
        have M := hide (HP.out.step q)
        clear q VI hbl
        go_wp2_with fail
        (with_reducible refine (HV.out _).mono ?_)
        rintro e u1 ⟨rfl, hb⟩
        go_wp2
        go_roundw
        case rel => exact ⟨p + 1, by omega, by go_num, M.out, bl_call hb HB.out⟩
        case measure => simp [intOf]; omega
    · have ALL : OTo L L.length := by rw [show L.length = p from by omega]; exact HP.out
      cases q : inB L.length 1 60
      · have E := hide (isOk_no (L := L) (fun x => by have := x.2.1; rw [inB_yes (by omega) (by omega)] at q; cases q))
        clear ALL
        go_wp2_with (go_at_call 96; refine (inRange_any _ _ _ _).mono ?_; rintro e w' ⟨rfl, rfl⟩)
        go_ret
        exact ⟨bool_ret E.out.symm, hbl⟩
      · have hr := inB_iff.1 q
        obtain ⟨m, hm⟩ : ∃ m, m = L.length - 1 := ⟨_, rfl⟩
        obtain ⟨b, o, rfl, hb0, c0, c1, c2, c3, c4, c5⟩ := (HI.out.below hbl).at6 (i := m) (by omega)
        have em : (L.length : Int) - 1 = (m : Int) := by omega
        have hml : m < L.length := by omega
        obtain ⟨x, hx⟩ : ∃ x, x = (tg L m).k := ⟨_, rfl⟩
        obtain ⟨y, hy⟩ : ∃ y, y = (tg L m).p := ⟨_, rfl⟩
        rw [← hx] at c0
        rw [← hy] at c4
        have T := hide (fun (a : x = 3) (b : y = -1000) => (show IsOk L from ⟨ALL, by omega, by rw [← hm, ← hx]; exact a, by rw [← hm, ← hy]; exact b⟩))
        have U := hide (fun (z : IsOk L) => (show x = 3 ∧ y = -1000 from ⟨by rw [hx, hm]; exact z.2.2.1, by rw [hy, hm]; exact z.2.2.2⟩))
        clear ALL hm hx hy c1 c2 c3 c5 hr
        rcases (by omega : x ≠ 3 ∨ x = 3) with h | rfl
        · have E := hide (isOk_no (L := L) (fun z => h (U.out z).1))
          have g : (x == 3) = false := beq_eq_false_iff_ne.2 h
          clear h
          go_wp2_with (go_at_call 96; refine (inRange_any _ _ _ _).mono ?_; rintro e w' ⟨rfl, rfl⟩)
          go_ret
          exact ⟨bool_ret E.out.symm, hbl⟩
        rcases (by omega : y ≠ -1000 ∨ y = -1000) with h | rfl
        · have E := hide (isOk_no (L := L) (fun z => h (U.out z).2))
          have g : (y == -1000) = false := beq_eq_false_iff_ne.2 h
          clear h
          go_wp2_with (go_at_call 96; refine (inRange_any _ _ _ _).mono ?_; rintro e w' ⟨rfl, rfl⟩)
          go_ret
          exact ⟨bool_ret E.out.symm, hbl⟩
        · have E := hide (isOk_iff.2 (T.out rfl rfl))
          go_wp2_with (go_at_call 96; refine (inRange_any _ _ _ _).mono ?_; rintro e w' ⟨rfl, rfl⟩)
          go_ret
          exact ⟨bool_ret E.out.symm, hbl⟩
end Go.Proofs.Ytafddofajfcffaa

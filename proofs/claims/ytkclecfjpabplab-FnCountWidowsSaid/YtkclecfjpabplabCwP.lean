/- The law on clubs and widows holds at every input. No condition. -/
import Derived.Test.YtkclecfjpabplabJn
import Derived.Test.YtkclecfjpabplabCwS
import Derived.Test.YtkclecfjpabplabDrawCw
namespace Go.Proofs.Ytkclecfjpabplab
open Go.ChangeShapes Go.WideShapes Go.ChangeAt Go.RowKit
set_option linter.unusedVariables false
set_option maxRecDepth 4000
open Classical

/-- The numbers 1 to n. -/
def ups (n : Nat) : List Int := (List.range n).map (fun (i : Nat) => (i : Int) + 1)
theorem ups_len {n : Nat} : (ups n).length = n := by simp [ups]
theorem ups_succ {n : Nat} : ups (n + 1) = ups n ++ [(n : Int) + 1] := by simp [ups, List.range_succ]
theorem ups_has {n : Nat} {x : Int} (h1 : 1 ≤ x) (h2 : x ≤ n) : hasI (ups n) x = true := decide_eq_true ⟨(x - 1).toNat, by rw [ups_len]; omega, by
  unfold ng ups
  rw [List.getD_eq_getElem?_getD, List.getElem?_map, List.getElem?_range (by omega)]
  simp
  omega⟩
/-- How many of the first k paragraphs have several lines. -/
def lgN (l : List Int) : Nat → Nat
  | 0 => 0
  | k + 1 => lgN l k + if 1 < ng l k then 1 else 0
theorem lgN_eq {l : List Int} : ∀ {k : Nat}, (svL l k).length = lgN l k
  | 0 => rfl
  | k + 1 => by
    simp only [svL, lgN, List.length_append, lgN_eq]
    split <;> rfl
theorem lgN_le {l : List Int} : ∀ {k : Nat}, lgN l k ≤ k
  | 0 => Nat.le_refl _
  | k + 1 => by
    have := lgN_le (l := l) (k := k)
    simp only [lgN]
    split <;> omega
theorem svL_in {l : List Int} (ok : OkW l) : ∀ {k : Nat}, k ≤ l.length → ∀ x ∈ svL l k, 0 ≤ x.1 ∧ x.1 < x.2 ∧ x.2 < pfx l k
  | 0, _, x, hx => by simp [svL] at hx
  | k + 1, hk, x, hx => by
    have c : pfx l (k + 1) = pfx l k + ng l k := rfl
    have p := ok.1 k (by omega)
    simp only [svL] at hx
    rcases List.mem_append.1 hx with h | h
    · have := svL_in ok (by omega) x h
      omega
    · split at h
      · next q =>
        simp at h
        subst h
        have a := (show PosTo l k from fun j hj => ok.1 j (by omega)).ge
        dsimp only
        omega
      · simp at h
theorem cwV_all {l : List Int} (h : okW l = true) : cwV l (ups (pfx l l.length).toNat) = ((lgN l l.length : Int), (lgN l l.length : Int)) := by
  have ok := okW_iff.1 h
  have hge := ok.1.ge
  rw [cwV_yes h, cwN_all, cwN_all]
  have e1 : (svL l l.length).countP (clF (ups (pfx l l.length).toNat)) = (svL l l.length).length := List.countP_eq_length.2 fun x hx => by
    have := svL_in ok (Nat.le_refl _) x hx
    exact ups_has (by omega) (by omega)
  have e2 : (svL l l.length).countP (wiF (ups (pfx l l.length).toNat)) = (svL l l.length).length := List.countP_eq_length.2 fun x hx => by
    have := svL_in ok (Nat.le_refl _) x hx
    exact ups_has (by omega) (by omega)
  rw [e1, e2, lgN_eq]
theorem cwV_le {l E : List Int} (h : okW l = true) : (0 ≤ (cwV l E).1 ∧ (cwV l E).1 ≤ lgN l l.length) ∧ (0 ≤ (cwV l E).2 ∧ (cwV l E).2 ≤ lgN l l.length) := by
  rw [cwV_yes h, cwN_all, cwN_all, ← lgN_eq]
  have a := List.countP_le_length (p := clF E) (l := svL l l.length)
  have b := List.countP_le_length (p := wiF E) (l := svL l l.length)
  dsimp only
  omega
set_option maxHeartbeats 4000000 in
theorem walk_FnCountWidows (a : Option Addr) (n c : Nat) (zs : List Int) (w : World) (hr : IsRow .u8 w a n c zs) :
    Calls Try.prog 6 #[.slice a n c] w fun e w' => e = .returned (.bool true) ∧ Below w.heap.size w w' := by
  obtain ⟨i0, hi0, jz0, jz1, jz2⟩ := info_parts int_info
  have hm := small_row hr
  unfold maxLen at hm
  rcases (by omega : 1048576 < n ∨ n ≤ 1048576) with hn | hn
  · go_enter Try.func6, Try.ntmps6
    go_wp2
    go_ret
    exact ⟨rfl, bl_refl _⟩
  go_enter Try.func6, Try.ntmps6
  go_wp2_with fail
  (with_reducible refine (DrawCountWidows_any _ _ _ _ _ hr).mono ?_)
  rintro e u0 ⟨A, c', l, B, d, E, rfl, hol, hll, hoE, hlE, hb⟩
  clear hr
  have CI := fun (u : World) (B : Option Addr) (d : Nat) (E : List Int) (h1 : IL u A l.length l) (h2 : IL u B E.length E) (hl : E.length ≤ 1048576) => CountWidows_i u A B l.length c' E.length d l E h1 (by omega) h2 hl
  have CS := fun (u : World) (h1 : IL u A l.length l) (h2 : IL u B E.length E) => CountWidows_s u A B l.length c' E.length d l E h1 (by omega) h2 (by omega)
  have HC1 := CI u0 B d E
  have LE := fun h => cwV_le (l := l) (E := E) h
  have NO := fun (h : okW l = false) => cwV_no (l := l) (E := E) h
  obtain ⟨t, ht⟩ : ∃ t, t = cwV l E := ⟨_, rfl⟩
  rw [← ht] at HC1 CS LE NO
  obtain ⟨t1, t2⟩ := t
  simp only at LE
  have HO := hide hol
  have HE := hide hoE
  have HB := hide hb
  have HCI := hide CI
  have HCS := hide CS
  have H1 := hide HC1
  have HLE := hide LE
  have HNO := hide NO
  clear hol hoE hb ht CI CS HC1 LE NO
  go_wp2_with fail
  (with_reducible refine (H1.out HO.out.reads HE.out.reads (by omega)).mono ?_)
  rintro e u1 ⟨rfl, hb1⟩
  have HO1 := hide (HO.out.below hb1)
  have HE1 := hide (HE.out.below hb1)
  have HB1 := hide (bl_call hb1 HB.out)
  clear hb1 HO HB HE H1
  go_wp2_with fail
  (with_reducible refine (HCS.out _ HO1.out.reads HE1.out.reads).mono ?_)
  rintro e w' ⟨rfl, rfl⟩
  cases q : okW l
  · obtain ⟨rfl, rfl⟩ := Prod.mk.inj (HNO.out q)
    clear HNO HLE HCI
    go_wp2
    go_ret
    exact ⟨rfl, HB1.out⟩
  obtain ⟨⟨x0, x1⟩, ⟨x2, x3⟩⟩ := HLE.out q
  obtain ⟨ok1, ok2, ok3⟩ := okW_iff.1 q
  have hge := ok1.ge
  have AL := hide (cwV_all q)
  have POS := hide ok1
  have MON := hide (fun k (hk : k ≤ l.length) => ok1.mono hk)
  have H0 := hide (show OL (u1.alloc (.cells #[] 3)) 3 u1.heap.size (some ⟨u1.heap.size, 0, none⟩) 0 [] from by
    have := OL.lit (w := u1) (e := 3) (B := u1.heap.size) (Nat.le_refl _) [] (by simp)
    simpa using this)
  have LGE := lgN_le (l := l) (k := l.length)
  obtain ⟨G, hG⟩ : ∃ G, G = lgN l l.length := ⟨_, rfl⟩
  have HG := hide hG
  rw [← hG] at x1 x3 AL LGE
  obtain ⟨P, hP⟩ : ∃ P : Nat, (P : Int) = pfx l l.length := ⟨(pfx l l.length).toNat, by omega⟩
  have HP := hide hP
  rw [← hP] at ok2 hge
  rw [← hP, Int.toNat_natCast] at AL
  have hz0 := HB1.out.size
  clear HNO HLE HCS HE1 ok1 hP hG
  go_wp2
  go_loopw [9, 10, 11] (fun lg v i u => ∃ (k y g : Nat) (A2 : Option Addr) (c2 : Nat), k ≤ l.length ∧ lg = .int .i64 g ∧ g = lgN l k ∧ i = .int .i64 k ∧ (y : Int) = pfx l k ∧ v = .slice A2 y c2 ∧ OL u 3 u1.heap.size A2 c2 (ups y) ∧ Below u1.heap.size u1 u) (fun _ _ i _ => l.length - (intOf i).toNat)
  case atStart => exact ⟨0, 0, 0, some ⟨u1.heap.size, 0, none⟩, 0, by omega, rfl, rfl, rfl, rfl, rfl, H0.out, bl_alloc (bl_refl u1) _⟩
  case round =>
    obtain ⟨k, y, g, A2, c2, hk, rfl, hg, rfl, hy, rfl, ho, hbl⟩ := hrel
    have HU := hide ho
    have HBL := hide hbl
    have HY := hide hy
    have lge := lgN_le (l := l) (k := k)
    rw [← hg] at lge
    have HGG := hide hg
    have hzu := hbl.size
    clear ho hbl hy hg H0
    by_cases hlt : k < l.length
    · have RD := hide (fun (u : World) (hu : Below u1.heap.size u1 u) => (HO1.out.reads.below hu).at_ hlt)
      obtain ⟨b, o, hA, _, hc⟩ := RD.out _ HBL.out
      have z1 := POS.out k hlt
      have m1 := MON.out (k + 1) (by omega)
      have N := hide (show pfx l (k + 1) = pfx l k + ng l k from rfl)
      have LG := hide (show lgN l (k + 1) = lgN l k + if 1 < ng l k then 1 else 0 from rfl)
      rw [N.out, ← HY.out, ← HP.out] at m1
      obtain ⟨z, hz⟩ : ∃ z : Nat, (z : Int) = ng l k := ⟨(ng l k).toNat, by omega⟩
      rw [← hz] at hc z1 m1 LG N RD
      rw [← HGG.out] at LG
      subst hA
      have RDC := hide (fun (u : World) (hu : Below u1.heap.size u1 u) => show u.cell? ⟨b, o + k, none⟩ = some (.int .i64 z) from by
        obtain ⟨b', o', e, _, h⟩ := RD.out u hu
        injection e with e
        cases e
        exact h)
      clear hz RD
      rcases (by omega : 1 < z ∨ z = 1) with q | q
      · have LG1 := hide (show g + 1 = lgN l (k + 1) by rw [LG.out, if_pos (by omega)])
        have d0 : decide ((1 : Int) < (z : Int)) = true := decide_eq_true (by omega)
        have d3 : decide (1 < z) = true := decide_eq_true q
        clear LG q
        go_wp2
        go_loopw [10, 12] (fun v i u => ∃ (j q : Nat) (A2 : Option Addr) (c2 : Nat), j ≤ z ∧ q = y + j ∧ i = .int .i64 j ∧ v = .slice A2 q c2 ∧ OL u 3 u1.heap.size A2 c2 (ups q) ∧ Below u1.heap.size u1 u) (fun _ i _ => z - (intOf i).toNat); (case atStart => exact ⟨0, y, A2, c2, by omega, rfl, rfl, rfl, HU.out, HBL.out⟩); (case round => obtain ⟨j, q, A3, c3, hj, hq, rfl, rfl, ho, hbl⟩ := hrel; have HV := hide ho; have HBV := hide hbl; have hzv := hbl.size; have HQ := hide hq; have hq40 : q ≤ 40 := (by omega); have hcv := RDC.out _ hbl; clear ho hbl hq HU HBL; (rcases (by omega : j < z ∨ j = z) with hjz | hjz); (next => (go_wp2_with (at_builtin; refine wpList_append_int rfl (.tmp 77) (.tmp 81) _ rfl 3 i0 Try.underlying22 hi0 jz0 jz1 jz2 (u1.heap.size) A3 c3 q (ups q) rfl (ups_len.symm) (HV.out.alloc _) wr.heap.size ((q : Int) + 1) rfl (by simp) (by omega) (by simp; omega) ?_; intro A' c' w' hol' hb' hg')); go_roundw; (case rel => exact ⟨j + 1, q + 1, A', c', by omega, by have := HQ.out; omega, by go_num, rfl, by rw [ups_succ]; exact hol', (bl_alloc HBV.out _).trans hb'⟩); (case measure => (simp [intOf]; omega))); (next => subst hjz; go_wp2; go_roundw; (case rel => exact ⟨k + 1, q, g + 1, A3, c3, by omega, rfl, LG1.out, by go_num, by rw [N.out, ← HY.out, HQ.out]; omega, rfl, HV.out, HBV.out⟩); (case measure => (simp [intOf]; omega))))
      · have LG1 := hide (show g = lgN l (k + 1) by rw [LG.out, if_neg (by omega), Nat.add_zero])
        have d0 : decide ((1 : Int) < (z : Int)) = false := decide_eq_false (by omega)
        have d3 : decide (1 < z) = false := decide_eq_false (by omega)
        have Z1 := hide q
        clear LG q
        go_wp2
        go_loopw [10, 12] (fun v i u => ∃ (j q : Nat) (A2 : Option Addr) (c2 : Nat), j ≤ z ∧ q = y + j ∧ i = .int .i64 j ∧ v = .slice A2 q c2 ∧ OL u 3 u1.heap.size A2 c2 (ups q) ∧ Below u1.heap.size u1 u) (fun _ i _ => z - (intOf i).toNat); (case atStart => exact ⟨0, y, A2, c2, by omega, rfl, rfl, rfl, HU.out, HBL.out⟩); (case round => obtain ⟨j, q, A3, c3, hj, hq, rfl, rfl, ho, hbl⟩ := hrel; have HV := hide ho; have HBV := hide hbl; have hzv := hbl.size; have HQ := hide hq; have hq40 : q ≤ 40 := (by omega); have hcv := RDC.out _ hbl; clear ho hbl hq HU HBL; (rcases (by omega : j < z ∨ j = z) with hjz | hjz); (next => (go_wp2_with (at_builtin; refine wpList_append_int rfl (.tmp 77) (.tmp 81) _ rfl 3 i0 Try.underlying22 hi0 jz0 jz1 jz2 (u1.heap.size) A3 c3 q (ups q) rfl (ups_len.symm) (HV.out.alloc _) wr.heap.size ((q : Int) + 1) rfl (by simp) (by omega) (by simp; omega) ?_; intro A' c' w' hol' hb' hg')); go_roundw; (case rel => exact ⟨j + 1, q + 1, A', c', by omega, by have := HQ.out; omega, by go_num, rfl, by rw [ups_succ]; exact hol', (bl_alloc HBV.out _).trans hb'⟩); (case measure => (simp [intOf]; omega))); (next => subst hjz; go_wp2; go_roundw; (case rel => exact ⟨k + 1, q, g, A3, c3, by omega, rfl, LG1.out, by go_num, by rw [N.out, ← HY.out, HQ.out]; omega, rfl, HV.out, HBV.out⟩); (case measure => (simp [intOf]; omega))))
    · have hkl : k = l.length := by omega
      have yP : y = P := by
        have := HY.out
        rw [hkl, ← HP.out] at this
        omega
      have gG : g = G := by rw [HG.out, ← hkl]; exact HGG.out
      subst yP
      subst gG
      have C2 := HCI.out wr A2 c2 (ups y) (HO1.out.reads.below HBL.out) HU.out.reads (by rw [ups_len]; omega)
      rw [AL.out, ups_len] at C2
      have HC2 := hide C2
      clear C2 hkl HGG HG HY HP
      go_wp2_with fail
      (with_reducible refine HC2.out.mono ?_)
      rintro e u3 ⟨rfl, hb3⟩
      have HB3 := hide (bl_call hb3 (HB1.out.trans (HBL.out.mono hz0)))
      have d1 : decide (t1 ≤ (g : Int)) = true := decide_eq_true x1
      have d2 : decide (t2 ≤ (g : Int)) = true := decide_eq_true x3
      clear hb3
      go_wp2
      go_ret
      exact ⟨rfl, HB3.out⟩
set_option maxRecDepth 100000 in
theorem lifted_FnCountWidows (os : Os) (started : os.Started) (H : Type) (enc : TypeId × Value → H) :
    ReturnsInHanded {} Try.checked os 6 .any (Rows.fnCountWidowsSpec.pre6 enc Try.prog Try.f6 Rows.fnCountWidowsRow.domain false) (Rows.fnCountWidowsSpec.post enc Try.prog Try.f6 false true false false) := by
  refine returnsInHanded_of_change (C := Try.checked) own_knob started (by kernel_rfl) Try.func6
    (ChangeSpec.witness6 (enc := enc) (C := Try.checked) false ⟨#[], #[.slice none 0 0], []⟩ 8 (by kernel_rfl) (by kernel_rfl) (by kernel_rfl) (by kernel_rfl)) ?_
  intro W base args ds gs before hval0 hW hcnd _
  have hval : ∀ (j : Nat) t v, Try.f6.params[j]? = some t → args[j]? = some v → Value.okWide Try.prog W .any base t v := hval0
  have hW' := hW
  obtain ⟨p, q, hA0, hV, rfl, hfz, hnd⟩ := hW
  have hA : DataW.TrodAll enc Try.prog W 0 (fun _ => true) true Try.f6.params.toList args.toList ds p := hA0
  rw [Try.params6] at hA hval
  obtain ⟨v0, vs0, d0, ds0, p0, q0, hargs, rfl, rfl, zh0, r0⟩ := trodAll_cons hA
  obtain ⟨rfl, rfl, rfl⟩ := trodAll_nil r0
  obtain rfl : args = #[v0] := by cases args; simp_all
  obtain ⟨rfl, rfl⟩ := trodVars_none hV
  have zk0 := zh0
  have zl0 : ∀ x ∈ p0, x.block < W.heap.size := by obtain ⟨m, hm⟩ := zk0; exact DataW.trod_lt m _ _ _ hm
  clear hA0 hval0
  obtain ⟨a_code, n_code, c_code, rfl⟩ := okWide_slice Try.underlying33 (hval 0 33 v0 rfl rfl)
  obtain ⟨code, w_code⟩ := isRow_of Try.underlying33 Try.underlying5 (by kernel_rfl) zh0
  refine (walk_FnCountWidows a_code n_code c_code code W w_code).mono fun e W' ⟨he, bel⟩ => ?_
  subst he
  exact ⟨_, rfl, _, _, _, [], _, [], hW', trodAll_mk1 (shut_bool Try.underlying4 _), (trodAll_cons_mk (Below.trod laid_out (by kernel_rfl) (of_decide_eq_true (by kernel_rfl)) zk0 bel zl0) trodAll_mk0), rfl, bel.frame _, fun h => by cases h⟩

/-- The statement. -/
theorem FnCountWidows_holds : Rows.FnCountWidowsSaid :=
  OpenClaim.holds_of_wide 6 Try.f6 rfl rfl rfl rfl rfl rfl rfl ⟨rfl, rfl, rfl, rfl, rfl⟩ rfl rfl rfl rfl rfl (by kernel_rfl) Try.func6 (by unfold joinedFacts; rw [may_enter, lifts_final, make_cut]; kernel_rfl)
    (of_decide_eq_true (by kernel_rfl)) (by unfold Func.isWrapper; first | (rw [if_pos (by decide +kernel)]; kernel_rfl) | (rw [if_neg (by decide +kernel)]; exact ⟨rfl, rfl⟩))
    (fun os started H enc _ => lifted_FnCountWidows os started H enc)
end Go.Proofs.Ytkclecfjpabplab

/- The promise on RowBox holds for every code: a row is at least as high and deep as each of its boxes, as wide as all of them, and does not depend on their order. No condition. -/
import Derived.Test.YtofcbhphjghkaaaDrawRow
import Derived.Test.YtofcbhphjghkaaaRowM
import Derived.Test.YtofcbhphjghkaaaBoxRow
namespace Go.Proofs.Ytofcbhphjghkaaa
open Go.ChangeShapes Go.WideShapes Go.ChangeAt Go.RowKit
set_option linter.unusedVariables false
set_option maxRecDepth 4000

theorem small_rowr {w : World} {a : Option Addr} {n c : Nat} {zs : List Int} (h : IsRow .u8 w a n c zs) : n ≤ maxLen := by
  rcases h with ⟨_, rfl, _, _⟩ | ⟨_, _, hl, hm, _⟩
  · exact Nat.zero_le _
  · omega
theorem tg_rev {L : List Gp} {k : Nat} (h : k < L.length) : L.reverse.take (k + 1) = L.reverse.take k ++ [tg L (L.length - 1 - k)] := by
  rw [List.take_add_one, List.getElem?_reverse h, tg_get (by omega)]
  rfl
/-- Boxes behind the first k of the reversed list. -/
theorem rev_step {L : List Gp} {k : Nat} (h : k < L.length) : sA (L.reverse.take (k + 1)) = sA (L.reverse.take k) + (tg L (L.length - 1 - k)).a := by
  rw [tg_rev h, sA_app, (one_sum _).1]
theorem sA_le {L : List Gp} (h : ∀ x ∈ L, vbx x = true) (k : Nat) : 0 ≤ sA (L.take k) ∧ sA (L.take k) ≤ sA L := by
  have e1 : sA L = sA (L.take k) + sA (L.drop k) := by rw [← sA_app, List.take_append_drop]
  have p1 := sA_pos (L := L.take k) (fun x hx => h x (List.mem_of_mem_take hx))
  have p2 := sA_pos (L := L.drop k) (fun x hx => h x (List.mem_of_mem_drop hx))
  omega

set_option maxHeartbeats 4000000 in
theorem walk_FnRowBox (a : Option Addr) (n c : Nat) (zs : List Int) (w : World) (hr : IsRow .u8 w a n c zs) :
    Calls Try.prog 4 #[.slice a n c] w fun e w' => e = .returned (.bool true) ∧ Below w.heap.size w w' := by
  obtain ⟨i0, hi0, jz0, jz1, jz2⟩ := info_parts Box_info
  have hm := small_rowr hr
  unfold maxLen at hm
  rcases (by omega : 1048576 < n ∨ n ≤ 1048576) with hn | hn
  · go_enter Try.func4, Try.ntmps4
    go_wp2
    go_ret
    exact ⟨rfl, bl_refl _⟩
  go_enter Try.func4, Try.ntmps4
  go_wp2_with fail
  refine (DrawRowBox_any _ _ _ _ _ hr).mono ?_
  rintro e u0 ⟨A, d, L, rfl, hol, hll, hb⟩
  clear hr
  have CI := fun (u : World) (h : TL u A L.length L) => RowBox_i u A L.length d L h (by omega)
  have CS := fun (u : World) (h : TL u A L.length L) => RowBox_s u A L.length d L h (by omega)
  have RD0 := hide hol.reads
  clear hol
  have HB0 := hide hb
  cases q : fob jr L
  · rw [fov_no q] at CI CS
    have HCI := hide CI
    have HCS := hide CS
    clear CI CS q
    go_wp2_with fail
    (with_reducible refine (HCI.out _ RD0.out).mono ?_)
    rintro e ua ⟨rfl, hb1⟩
    have HB1 := hide (bl_call hb1 HB0.out)
    have RD1 := hide (RD0.out.below hb1)
    clear hb hb1
    go_wp2_with fail
    (with_reducible refine (HCS.out _ (RD1.out.alloc _)).mono ?_)
    rintro e ub ⟨rfl, hb2⟩
    have HB2 := hide (bl_call hb2 (bl_alloc HB1.out _))
    obtain ⟨⟨m0, m1, m2⟩, _⟩ := (Bx.new ua 0 0 0 _).below hb2
    have hz := hb2.size
    simp at hz
    have hlm : ua.heap.size < ub.heap.size := by omega
    clear hb2
    go_wp2
    go_ret
    exact ⟨rfl, bl_alloc HB2.out _⟩
  · have MEM := (fob_iff.1 q).1.2
    have BND := (fob_iff.1 q).2
    have REV := fov_rev q
    rw [fov_sums q] at CI CS
    have SAL := rev_sum L
    obtain ⟨P, hP⟩ : ∃ P, P = sA L := ⟨_, rfl⟩
    obtain ⟨Q, hQ⟩ : ∃ Q, Q = mB L := ⟨_, rfl⟩
    obtain ⟨R, hR⟩ : ∃ R, R = mV L := ⟨_, rfl⟩
    have VB : vb P Q R = true := by
      rw [hP, hQ, hR]
      exact vb_iff.2 ⟨⟨sA_pos MEM, BND.1⟩, ⟨mB_pos L, BND.2.1⟩, ⟨mV_pos L, BND.2.2⟩⟩
    rw [← hP, ← hQ, ← hR] at CI CS REV
    have HCI := hide CI
    have HCS := hide CS
    have HREV := hide REV
    have STEP := hide (fun k (hk : k < L.length) => (show sA (L.reverse.take (k + 1)) = sA (L.reverse.take k) + (tg L (L.length - 1 - k)).a ∧ L.reverse.take (k + 1) = L.reverse.take k ++ [tg L (L.length - 1 - k)] from ⟨rev_step hk, tg_rev hk⟩))
    have GE := hide (fun i (hi : i < L.length) => (show (tg L i).b ≤ Q ∧ (tg L i).v ≤ R from by rw [hQ, hR]; exact mB_ge (tg_mem hi)))
    have BD := hide (fun k => (show 0 ≤ sA (L.reverse.take k) ∧ sA (L.reverse.take k) ≤ 10000 from by
      have := sA_le (L := L.reverse) (fun x hx => MEM x (by simpa using hx)) k
      rw [SAL.1] at this
      omega))
    have EL := hide (fun i (hi : i < L.length) => vbx_iff.1 (MEM _ (tg_mem hi)))
    have FIN := hide (show sA (L.reverse.take L.length) = P from by
      rw [show L.length = L.reverse.length from by simp, List.take_length, SAL.1, hP])
    have FL := hide (show L.reverse.take L.length = L.reverse from by
      rw [show L.length = L.reverse.length from by simp, List.take_length])
    clear CI CS REV q MEM BND SAL hP hQ hR
    go_wp2_with fail
    (with_reducible refine (HCI.out _ RD0.out).mono ?_)
    rintro e ua ⟨rfl, hb1⟩
    have HB1 := hide (bl_call hb1 HB0.out)
    have RD1 := hide (RD0.out.below hb1)
    clear hb hb1
    go_wp2_with fail
    (with_reducible refine (HCS.out _ (RD1.out.alloc _)).mono ?_)
    rintro e ub ⟨rfl, hb2⟩
    have HB2 := hide (bl_call hb2 (bl_alloc HB1.out _))
    have RD2 := hide ((RD1.out.alloc _).below hb2)
    have HX2 := hide ((Bx.new ua P Q R _).below hb2)
    obtain ⟨⟨m0, m1, m2⟩, _⟩ := HX2.out
    have hz := hb2.size
    simp at hz
    have hzw : w.heap.size ≤ ub.heap.size := HB2.out.size
    have hlm : ua.heap.size < ub.heap.size := by omega
    clear hb2
    go_wp2
    have H0 := hide (show TO ((ub.alloc (.cells #[.int .i64 P, .int .i64 Q, .int .i64 R] 25)).alloc (.cells #[] 25)) 25 ub.heap.size (some ⟨(ub.alloc (.cells #[.int .i64 P, .int .i64 Q, .int .i64 R] 25)).heap.size, 0, none⟩) 0 ([] : List Gp) from TO.lit0 (by simp))
    have esz : (ub.alloc (.cells #[.int .i64 P, .int .i64 Q, .int .i64 R] 25)).heap.size = ub.heap.size + 1 := by simp
    rw [esz] at H0
    clear esz
    go_loopw [8, 9, 10] (fun v x i u => ∃ (k : Nat) (A' : Option Addr) (cc : Nat), k ≤ L.length ∧ i = .int .i64 ((L.length : Int) - 1 - (k : Int)) ∧ x = .int .i64 (sA (L.reverse.take k)) ∧ v = .slice A' k cc ∧ TO u 25 ub.heap.size A' cc (L.reverse.take k) ∧ Below ub.heap.size ub u) (fun _ _ i _ => (intOf i + 1).toNat)
    case atStart => exact ⟨0, _, _, by omega, by simp, rfl, rfl, H0.out, bl_alloc (bl_alloc (bl_refl _) _) _⟩
    case round =>
      obtain ⟨k, A', cc, hk, rfl, rfl, rfl, hol, hbl⟩ := hrel
      obtain ⟨b1, b2⟩ := BD.out k
      obtain ⟨x, hx⟩ : ∃ x, x = sA (L.reverse.take k) := ⟨_, rfl⟩
      rw [← hx] at b1 b2
      rw [← hx]
      have HX := hide hx
      obtain ⟨M, hM⟩ : ∃ M, M = L.reverse.take k := ⟨_, rfl⟩
      have hML : k = M.length := by rw [hM]; simp; omega
      rw [← hM] at hol
      have HM := hide hM
      have HML := hide hML
      clear hx hM hML
      rcases (by omega : k < L.length ∨ k = L.length) with hlt | hlt
      · obtain ⟨m, hm'⟩ : ∃ m, m = L.length - 1 - k := ⟨_, rfl⟩
        have em : (L.length : Int) - 1 - (k : Int) = (m : Int) := by omega
        have hml : m < L.length := by omega
        have ST := STEP.out k hlt
        rw [← hm', ← HX.out, ← HM.out] at ST
        have HST := hide ST
        have GEm := GE.out m hml
        obtain ⟨⟨e1, e2⟩, _⟩ := EL.out m hml
        obtain ⟨b, o, rfl, hb0, k0, k1, k2⟩ := RD2.out.at3 hml
        obtain ⟨X, hX⟩ : ∃ X, X = (tg L m).a := ⟨_, rfl⟩
        obtain ⟨Y, hY⟩ : ∃ Y, Y = (tg L m).b := ⟨_, rfl⟩
        obtain ⟨Z, hZ⟩ : ∃ Z, Z = (tg L m).v := ⟨_, rfl⟩
        have ETG := hide (show tg L m = ⟨X, Y, Z⟩ by rw [hX, hY, hZ])
        rw [← hX] at k0 e1 e2
        rw [← hY] at k1 GEm
        rw [← hZ] at k2 GEm
        have d1 : decide (Q < Y) = false := decide_eq_false (by omega)
        have d2 : decide (R < Z) = false := decide_eq_false (by omega)
        have c0 := keep_cell hbl k0
        have c1 := keep_cell hbl k1
        have c2 := keep_cell hbl k2
        have KC := hide (fun (u : World) (h : Below ub.heap.size ub u) => (⟨keep_cell h k0, keep_cell h k1, keep_cell h k2, keep_cell h m0, keep_cell h m1, keep_cell h m2⟩ : _ ∧ _ ∧ _ ∧ _ ∧ _ ∧ _))
        have hwz := hbl.size
        have HBL := hide hbl
        clear hX hY hZ hm' k0 k1 k2 m0 m1 m2 ST GEm hbl
        rw [em]
        go_wp2_with (at_builtin; refine wpList_append_rec rfl (.tmp 56) (.tmp 61) _ rfl 25 i0 _ 24 Try.underlying28 hi0 jz0 jz1 jz2 rfl (by decide) ub.heap.size A' cc k M rfl (HML.out) (hol.alloc _) wr.heap.size ⟨X, Y, Z⟩ rfl (ones3 _) (cells3 _ _ _ _ _) (by omega) (by simp; omega) ?_; intro A1 c1' w' hol' hb' hg'; have HBN := hide ((bl_alloc HBL.out _).trans hb'); obtain ⟨c0, c1, c2, n0, n1, n2⟩ := KC.out _ HBN.out)
        go_quiet (fail)
        go_wp2
        go_roundw
        case rel =>
          exact ⟨k + 1, _, _, by omega, by go_num, by rw [HST.out.1, ETG.out], rfl, by rw [HST.out.2, ETG.out]; exact hol', bl_drewN HBN.out _⟩
        case measure => simp [intOf] <;> omega
      · subst hlt
        have e0 : (L.length : Int) - 1 - (L.length : Int) = -1 := by omega
        rw [e0]
        have hxP : x = P := by rw [HX.out]; exact FIN.out
        have hMR : M = L.reverse := by rw [HM.out]; exact FL.out
        subst hxP
        have CB := fun (u : World) (h : TL u A' L.length M) => RowBox_i u A' L.length cc M h (by omega)
        rw [hMR, HREV.out] at CB
        have HCB := hide CB
        have ho := hol.reads
        rw [← HML.out, hMR] at ho
        have HBL := hide hbl
        have j0 := keep_cell hbl m0
        have j1 := keep_cell hbl m1
        have j2 := keep_cell hbl m2
        clear CB e0 hol hbl m0 m1 m2 hMR
        go_wp2_with fail
        (with_reducible refine (HCB.out _ ho).mono ?_)
        rintro e ud ⟨rfl, hb4⟩
        have HB4 := hide (bl_call hb4 HBL.out)
        have m0 := keep_cell hb4 j0
        have m1 := keep_cell hb4 j1
        have m2 := keep_cell hb4 j2
        have hlm4 := World.block_lt_of_cell? ud _ m0
        clear hb4 j0 j1 j2
        go_wp2_with (go_at_call 22; (with_reducible refine (ValidBox_i _ _ _ _).mono ?_); rintro e w' ⟨rfl, hbv⟩)
        go_ret
        exact ⟨by first | rfl | exact bool_ret VB, bl_call hbv (bl_alloc (bl_call HB4.out HB2.out) _)⟩
set_option maxRecDepth 100000 in
theorem lifted_FnRowBox (os : Os) (started : os.Started) (H : Type) (enc : TypeId × Value → H) :
    ReturnsInHanded {} Try.checked os 4 .any (Rows.fnRowBoxSpec.pre6 enc Try.prog Try.f4 Rows.fnRowBoxRow.domain false) (Rows.fnRowBoxSpec.post enc Try.prog Try.f4 false true false false) := by
  refine returnsInHanded_of_change (C := Try.checked) own_knob started (by kernel_rfl) Try.func4
    (ChangeSpec.witness6 (enc := enc) (C := Try.checked) false ⟨#[], #[.slice none 0 0], []⟩ 8 (by kernel_rfl) (by kernel_rfl) (by kernel_rfl) (by kernel_rfl)) ?_
  intro W base args ds gs before hval0 hW hcnd _
  have hval : ∀ (j : Nat) t v, Try.f4.params[j]? = some t → args[j]? = some v → Value.okWide Try.prog W .any base t v := hval0
  have hW' := hW
  obtain ⟨p, q, hA0, hV, rfl, hfz, hnd⟩ := hW
  have hA : DataW.TrodAll enc Try.prog W 0 (fun _ => true) true Try.f4.params.toList args.toList ds p := hA0
  rw [Try.params4] at hA hval
  obtain ⟨v0, vs0, d0, ds0, p0, q0, hargs, rfl, rfl, zh0, r0⟩ := trodAll_cons hA
  obtain ⟨rfl, rfl, rfl⟩ := trodAll_nil r0
  obtain rfl : args = #[v0] := by cases args; simp_all
  obtain ⟨rfl, rfl⟩ := trodVars_none hV
  have zk0 := zh0
  have zl0 : ∀ x ∈ p0, x.block < W.heap.size := by obtain ⟨m, hm⟩ := zk0; exact DataW.trod_lt m _ _ _ hm
  clear hA0 hval0
  obtain ⟨a_code, n_code, c_code, rfl⟩ := okWide_slice Try.underlying33 (hval 0 33 v0 rfl rfl)
  obtain ⟨code, w_code⟩ := isRow_of Try.underlying33 Try.underlying5 (by kernel_rfl) zh0
  refine (walk_FnRowBox a_code n_code c_code code W w_code).mono fun e W' ⟨he, bel⟩ => ?_
  subst he
  exact ⟨_, rfl, _, _, _, [], _, [], hW', trodAll_mk1 (shut_bool Try.underlying4 _), (trodAll_cons_mk (Below.trod laid_out (by kernel_rfl) (of_decide_eq_true (by kernel_rfl)) zk0 bel zl0) trodAll_mk0), rfl, bel.frame _, fun h => by cases h⟩

/-- The statement. -/
theorem FnRowBox_holds : Rows.FnRowBoxSaid :=
  OpenClaim.holds_of_wide 4 Try.f4 rfl rfl rfl rfl rfl rfl rfl ⟨rfl, rfl, rfl, rfl, rfl⟩ rfl rfl rfl rfl rfl (by kernel_rfl) Try.func4 (by kernel_rfl)
    (of_decide_eq_true (by kernel_rfl)) (by unfold Func.isWrapper; first | (rw [if_pos (by decide +kernel)]; kernel_rfl) | (rw [if_neg (by decide +kernel)]; exact ⟨rfl, rfl⟩))
    (fun os started H enc _ => lifted_FnRowBox os started H enc)
end Go.Proofs.Ytofcbhphjghkaaa

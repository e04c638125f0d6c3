/- The promise on SplitWord holds for every code: the parts make up the word. No condition. -/
import Derived.Test.YtfcoheakecfolaaDrawS
import Derived.Test.YtfcoheakecfolaaSplitL
namespace Go.Proofs.Ytfcoheakecfolaa
open Go.ChangeShapes Go.WideShapes Go.ChangeAt Go.RowKit
set_option linter.unusedVariables false

/-- All bytes of a list of texts. -/
def cat (L : List ByteArray) : List UInt8 := L.flatMap fun x => x.data.toList
theorem cat_snoc (L : List ByteArray) (x : ByteArray) : cat (L ++ [x]) = cat L ++ x.data.toList := by simp [cat]
theorem swTo_cat {s : ByteArray} {pts : List Int} {p f : Nat} {L : List ByteArray} (h : swTo s pts p = some (f, L)) : cat L = s.data.toList.take f ∧ (∀ x ∈ L, 1 ≤ x.size) ∧ (1 ≤ s.size → f < s.size) := by
  induction p generalizing f L with
  | zero => simp [swTo] at h; obtain ⟨rfl, rfl⟩ := h; exact ⟨by simp [cat], by simp, fun h => h⟩
  | succ p ih =>
    cases hp : swTo s pts p with
    | none => simp [swTo, hp] at h
    | some st =>
      obtain ⟨f0, L0⟩ := st
      obtain ⟨i1, i2, i3⟩ := ih hp
      simp only [swTo, hp, Option.bind_some] at h
      split at h
      · rename_i hc
        simp at h
        obtain ⟨rfl, rfl⟩ := h
        refine ⟨?_, ?_, fun _ => by omega⟩
        · rw [cat_snoc, i1, Lib.extract_data, ← List.take_add]
          congr 1
          omega
        · intro x hx
          rcases List.mem_append.1 hx with hx | hx
          · exact i2 x hx
          · simp at hx
            subst hx
            simp
            omega
      · cases h
theorem sw_facts {s : ByteArray} {pts : List Int} (h : 0 < (sw s pts).length) : cat (sw s pts) = s.data.toList ∧ (∀ x ∈ sw s pts, 1 ≤ x.size) ∧ (sw s pts).length = pts.length + 1 := by
  unfold sw at h ⊢
  split at h
  · rename_i hk
    rw [if_pos hk]
    have h1 := (okWord_iff.1 hk).1
    cases hs : swTo s pts pts.length with
    | none => simp [hs] at h
    | some st =>
      obtain ⟨f, L⟩ := st
      obtain ⟨c1, c2, c3⟩ := swTo_cat hs
      have hf := c3 h1.1
      simp only [Option.map_some, Option.getD_some]
      refine ⟨?_, ?_, ?_⟩
      · rw [cat_snoc, c1, Lib.extract_data, ← List.take_add, List.take_of_length_le]
        simp; omega
      · intro x hx
        rcases List.mem_append.1 hx with hx | hx
        · exact c2 x hx
        · simp at hx
          subst hx
          simp
          omega
      · have := (swTo_len hs).1
        simp [this]
  · simp at h
theorem cat_le (P : List ByteArray) (k : Nat) : (cat (P.take k)).length ≤ (cat P).length := by
  have e : cat P = cat (P.take k) ++ cat (P.drop k) := by simp only [cat, ← List.flatMap_append, List.take_append_drop]
  rw [e, List.length_append]
  omega
theorem cat_next {P : List ByteArray} {k : Nat} (h : k < P.length) : cat (P.take (k + 1)) = cat (P.take k) ++ (sg P k).data.toList := by
  rw [List.take_add_one, sg_get h]
  simp [cat]

set_option maxHeartbeats 1000000 in
theorem walk_FnSplitWord (a : Option Addr) (n c : Nat) (zs : List Int) (w : World) (hr : IsRow .u8 w a n c zs) :
    Calls Try.prog 13 #[.slice a n c] w fun e w' => e = .returned (.bool true) ∧ Below w.heap.size w w' := by
  have hm := small_row hr
  unfold maxLen at hm
  rcases (by omega : 1048576 < n ∨ n ≤ 1048576) with hn | hn
  · go_enter Try.func13, Try.ntmps13
    go_wp2
    go_ret
    exact ⟨rfl, bl_refl _⟩
  · go_enter Try.func13, Try.ntmps13
    go_wp2_with fail
    refine (DrawSplitWord_any _ _ _ _ _ hr).mono ?_
    rintro e u0 ⟨s, A0, c0, l, rfl, hs, ho0, hl, hb⟩
    clear hr
    have CS := fun (u : World) (h : IL u A0 l.length l) => SplitWord_s s u A0 l.length c0 l (by omega) h (by omega)
    have CI := fun (u : World) (h : IL u A0 l.length l) => SplitWord_i s u A0 l.length c0 l (by omega) h (by omega)
    have FX := sw_facts (s := s) (pts := l)
    have hlen := sw_len s l
    obtain ⟨P, hP⟩ : ∃ P, P = sw s l := ⟨_, rfl⟩
    rw [← hP] at CS CI FX hlen
    have HCS := hide CS
    have HCI := hide CI
    have HFX := hide FX
    clear CS CI hP FX
    go_wp2_with fail
    refine (HCI.out _ ho0.reads).mono ?_
    rintro e u1 ⟨A1, c1, rfl, ho1, hb1⟩
    have ho0 := ho0.below hb1
    go_wp2_with fail
    refine (HCS.out _ ho0.reads).mono ?_
    rintro e u2 ⟨A2, c2, rfl, ho2, hb2⟩
    have ho0 := ho0.below hb2
    have ho1 := ho1.below hb2
    rcases Nat.eq_zero_or_pos P.length with h0 | h0
    · have d0 : ((P.length : Int) == 0) = true := by rw [h0]; rfl
      clear h0
      go_wp2_with fail
      refine (eqTexts_l _ _ _ _ _ _ _ _ _ ho1.reads ho2.reads (by omega) (by omega)).mono ?_
      rintro e w' ⟨rfl, j, rfl⟩
      simp only [decide_true]
      go_wp2_with fail
      refine (HCS.out _ (ho0.drewN _).reads).mono ?_
      rintro e u3 ⟨A3, c3, rfl, ho3, hb3⟩
      have ho1 := (ho1.drewN j).below hb3
      go_wp2_with fail
      refine (eqTexts_l _ _ _ _ _ _ _ _ _ ho1.reads ho3.reads (by omega) (by omega)).mono ?_
      rintro e w' ⟨rfl, j2, rfl⟩
      simp only [decide_true]
      go_wp2
      go_ret
      refine ⟨rfl, ?_⟩
      exact bl_drewN (bl_call hb3 (bl_drewN (bl_call hb2 (bl_call hb1 hb)) _)) _
    · have d0 : ((P.length : Int) == 0) = false := beq_eq_false_iff_ne.2 (by omega)
      obtain ⟨f1, f2, f3⟩ := HFX.out h0
      have F1 := hide f1
      have F2 := hide f2
      have F3 := hide f3
      clear f1 f2 f3 h0
      go_wp2_with fail
      refine (eqTexts_l _ _ _ _ _ _ _ _ _ ho1.reads ho2.reads (by omega) (by omega)).mono ?_
      rintro e w' ⟨rfl, j, rfl⟩
      simp only [decide_true]
      have R1 := (ho1.drewN j).reads
      go_wp2
      go_loop [6, 7] (fun v i => ∃ (k : Nat) (acc : ByteArray), k ≤ P.length ∧ i = .int .i64 k ∧ v = .string acc ∧ acc.data.toList = cat (P.take k)) (fun _ i => P.length - (intOf i).toNat)
      case atStart => exact ⟨0, ⟨#[]⟩, by omega, rfl, rfl, by simp [cat]⟩
      case round =>
        obtain ⟨k, acc, hk, rfl, rfl, hacc⟩ := hrel
        have hal : acc.size ≤ 27 := by
          have e1 := cat_le P k
          rw [← hacc, F1.out] at e1
          have e2 : acc.data.toList.length = acc.size := by simp
          have e3 : s.data.toList.length = s.size := by simp
          omega
        have HA := hide hacc
        clear hacc
        by_cases hlt : k < P.length
        · obtain ⟨b, o, rfl, _, hc⟩ := R1.at_ hlt
          obtain ⟨x, hx⟩ : ∃ x, x = sg P k := ⟨_, rfl⟩
          rw [← hx] at hc
          have x1 : 1 ≤ x.size := by rw [hx, sg_lt hlt]; exact F2.out _ (List.getElem_mem _)
          have d1 : ((x.size : Int) == 0) = false := beq_eq_false_iff_ne.2 (by omega)
          have M := hide (show (acc ++ x).data.toList = cat (P.take (k + 1)) by rw [cat_next hlt, ← hx, ← HA.out]; simp)
          have x2 : x.size ≤ 27 := by
            have e1 := cat_le P (k + 1)
            rw [← M.out, F1.out] at e1
            have e2 : (acc ++ x).data.toList.length = acc.size + x.size := by simp
            have e3 : s.data.toList.length = s.size := by simp
            omega
          clear hx
          go_wp2
          go_round
          case rel => exact ⟨k + 1, acc ++ x, by omega, by go_num, rfl, M.out⟩
          case measure => simp [intOf]; omega
        · have E : acc = s := by
            apply ByteArray.ext
            rw [← Array.toList_inj, HA.out, show k = P.length from by omega, List.take_length]
            exact F1.out
          clear HA hal
          subst E
          have t := teq_yes acc
          have d3 : ((P.length : Int) == (l.length : Int) + 1) = true := beq_iff_eq.2 (by rw [F3.out]; simp)
          go_wp2
          go_ret
          refine ⟨rfl, ?_⟩
          exact bl_drewN (bl_call hb2 (bl_call hb1 hb)) _
set_option maxRecDepth 100000 in
theorem lifted_FnSplitWord (os : Os) (started : os.Started) (H : Type) (enc : TypeId × Value → H) :
    ReturnsInHanded {} Try.checked os 13 .any (Rows.fnSplitWordSpec.pre6 enc Try.prog Try.f13 Rows.fnSplitWordRow.domain false) (Rows.fnSplitWordSpec.post enc Try.prog Try.f13 false true false false) := by
  refine returnsInHanded_of_change (C := Try.checked) own_knob started (by kernel_rfl) Try.func13
    (ChangeSpec.witness6 (enc := enc) (C := Try.checked) false ⟨#[], #[.slice none 0 0], []⟩ 8 (by kernel_rfl) (by kernel_rfl) (by kernel_rfl) (by kernel_rfl)) ?_
  intro W base args ds gs before hval0 hW hcnd _
  have hval : ∀ (j : Nat) t v, Try.f13.params[j]? = some t → args[j]? = some v → Value.okWide Try.prog W .any base t v := hval0
  have hW' := hW
  obtain ⟨p, q, hA0, hV, rfl, hfz, hnd⟩ := hW
  have hA : DataW.TrodAll enc Try.prog W 0 (fun _ => true) true Try.f13.params.toList args.toList ds p := hA0
  rw [Try.params13] at hA hval
  obtain ⟨v0, vs0, d0, ds0, p0, q0, hargs, rfl, rfl, zh0, r0⟩ := trodAll_cons hA
  obtain ⟨rfl, rfl, rfl⟩ := trodAll_nil r0
  obtain rfl : args = #[v0] := by cases args; simp_all
  obtain ⟨rfl, rfl⟩ := trodVars_none hV
  have zk0 := zh0
  have zl0 : ∀ x ∈ p0, x.block < W.heap.size := by obtain ⟨m, hm⟩ := zk0; exact DataW.trod_lt m _ _ _ hm
  clear hA0 hval0
  obtain ⟨a_code, n_code, c_code, rfl⟩ := okWide_slice Try.underlying22 (hval 0 22 v0 rfl rfl)
  obtain ⟨code, w_code⟩ := isRow_of Try.underlying22 Try.underlying5 (by kernel_rfl) zh0
  refine (walk_FnSplitWord a_code n_code c_code code W w_code).mono fun e W' ⟨he, bel⟩ => ?_
  subst he
  exact ⟨_, rfl, _, _, _, [], _, [], hW', trodAll_mk1 (shut_bool Try.underlying4 _), (trodAll_cons_mk (Below.trod laid_out (by kernel_rfl) (of_decide_eq_true (by kernel_rfl)) zk0 bel zl0) trodAll_mk0), rfl, bel.frame _, fun h => by cases h⟩

/-- The statement. -/
theorem FnSplitWord_holds : Rows.FnSplitWordSaid :=
  OpenClaim.holds_of_wide 13 Try.f13 rfl rfl rfl rfl rfl rfl rfl ⟨rfl, rfl, rfl, rfl, rfl⟩ rfl rfl rfl rfl rfl (by kernel_rfl) Try.func13 (by kernel_rfl)
    (of_decide_eq_true (by kernel_rfl)) (by unfold Func.isWrapper; first | (rw [if_pos (by decide +kernel)]; kernel_rfl) | (rw [if_neg (by decide +kernel)]; exact ⟨rfl, rfl⟩))
    (fun os started H enc _ => lifted_FnSplitWord os started H enc)
end Go.Proofs.Ytfcoheakecfolaa

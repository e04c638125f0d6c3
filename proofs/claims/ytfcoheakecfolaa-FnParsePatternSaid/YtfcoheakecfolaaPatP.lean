/- The promise on ParsePattern holds for every code: patterns have a value at each place. No condition. -/
import Derived.Test.YtfcoheakecfolaaDrawS
import Derived.Test.YtfcoheakecfolaaPatL
namespace Go.Proofs.Ytfcoheakecfolaa
open Go.ChangeShapes Go.WideShapes Go.ChangeAt Go.RowKit
set_option linter.unusedVariables false

theorem pp_facts {s : List UInt8} {L : List UInt8} {V : List Int} (h : pp s = some (L, V)) : recon L V V.length = s ∧ (∀ j, j < V.length → 0 ≤ ng V j ∧ ng V j ≤ 9) ∧ V.length = L.length + 1 ∧ L.length ≤ 20 := by
  unfold pp at h
  cases hs : ppTo s s.length with
  | none => simp [hs] at h
  | some st =>
    rw [hs] at h
    simp only [Option.filter] at h
    split at h
    · rename_i hd
      injection h with h
      subst h
      have h1 := ppTo_recon (Nat.le_refl _) hs
      have h2 := ppTo_len hs
      simp at hd
      exact ⟨by rw [h1.1, List.take_length], h1.2, h2.1, hd.2⟩
    · cases h
theorem recon_len (L : List UInt8) (V : List Int) (k : Nat) : (recon L V k).length ≤ 2 * k := by
  induction k with
  | zero => simp [recon]
  | succ k ih =>
    simp only [recon, List.length_append]
    split <;> split <;> simp <;> omega
theorem arr_size (L : List UInt8) : (ByteArray.mk L.toArray).size = L.length := by simp [ByteArray.size]

set_option maxHeartbeats 1000000 in
theorem walk_FnParsePattern (a : Option Addr) (n c : Nat) (zs : List Int) (w : World) (hr : IsRow .u8 w a n c zs) :
    Calls Try.prog 11 #[.slice a n c] w fun e w' => e = .returned (.bool true) ∧ Below w.heap.size w w' := by
  have hm := small_row hr
  unfold maxLen at hm
  rcases (by omega : 1048576 < n ∨ n ≤ 1048576) with hn | hn
  · go_enter Try.func11, Try.ntmps11
    go_wp2
    go_ret
    exact ⟨rfl, bl_refl _⟩
  · go_enter Try.func11, Try.ntmps11
    go_wp2_with fail
    refine (DrawParsePattern_any _ _ _ _ _ hr).mono ?_
    rintro e u0 ⟨s, hs, rfl, hb⟩
    clear hr
    have CS := fun (u : World) => ParsePattern_s s u (by omega)
    have CI := fun (u : World) => ParsePattern_i s u (by omega)
    unfold RetP at CS CI
    have hcv := conv_new
    have hos := one_size
    cases q : pp s.data.toList with
    | none =>
      rw [q] at CS CI
      simp only [Option.map_none, Option.getD_none, Option.isSome_none, List.length_nil] at CS CI
      have HCS := hide CS
      have HCI := hide CI
      clear CS CI q
      have ty := teq_yes ⟨#[]⟩
      go_wp2_with fail
      refine (HCI.out _).mono ?_
      rintro e u1 ⟨A1, c1, rfl, ho1, hb1⟩
      go_wp2_with fail
      refine (HCS.out _).mono ?_
      rintro e u2 ⟨A2, c2, rfl, ho2, hb2⟩
      have ho1 := ho1.below hb2
      go_wp2_with fail
      refine (eqInts_l _ _ _ _ _ _ _ _ _ ho1.reads ho2.reads (by simp) (by simp)).mono ?_
      rintro e w' ⟨rfl, j, rfl⟩
      simp only [decide_true]
      go_wp2_with fail
      refine (eqInts_l _ _ _ _ _ _ _ _ _ (ho1.drewN j).reads (ho2.drewN j).reads (by simp) (by simp)).mono ?_
      rintro e w' ⟨rfl, j2, rfl⟩
      simp only [decide_true]
      go_wp2
      go_ret
      refine ⟨rfl, ?_⟩
      exact bl_drewN (bl_call hb2 (bl_call hb1 hb)) _
    | some r =>
      obtain ⟨L, V⟩ := r
      rw [q] at CS CI
      simp only [Option.map_some, Option.getD_some, Option.isSome_some] at CS CI
      obtain ⟨f1, f2, f3, f4⟩ := pp_facts q
      obtain ⟨t, ht⟩ : ∃ t, t = ByteArray.mk L.toArray := ⟨_, rfl⟩
      have ts : t.size = L.length := by rw [ht]; exact arr_size L
      have td : t.data.toList = L := by rw [ht]
      rw [← ht] at CS CI
      have HCS := hide CS
      have HCI := hide CI
      have F1 := hide f1
      have F2 := hide f2
      have F3 := hide f3
      have TS := hide ts
      have TD := hide td
      have hV : V.length ≤ 21 := by omega
      have hts : t.size ≤ 20 := by omega
      clear CS CI q ht td f1 f2 f3 ts
      have ty := teq_yes t
      go_wp2_with fail
      refine (HCI.out _).mono ?_
      rintro e u1 ⟨A1, c1, rfl, ho1, hb1⟩
      go_wp2_with fail
      refine (HCS.out _).mono ?_
      rintro e u2 ⟨A2, c2, rfl, ho2, hb2⟩
      have ho1 := ho1.below hb2
      go_wp2_with fail
      refine (eqInts_l _ _ _ _ _ _ _ _ _ ho1.reads ho2.reads (by omega) (by omega)).mono ?_
      rintro e w' ⟨rfl, j, rfl⟩
      simp only [decide_true]
      have R1 := (ho1.drewN j).reads
      have B0 := hide (bl_drewN (bl_call hb2 (bl_call hb1 hb)) j)
      clear hb hb1 hb2 ho1 ho2
      go_wp2
      go_loopw [10, 11] (fun v i u => ∃ (k : Nat) (acc : ByteArray), k ≤ V.length ∧ i = .int .i64 k ∧ v = .string acc ∧ acc.data.toList = recon L V k ∧ Below (u2.drewN j).heap.size (u2.drewN j) u) (fun _ i _ => V.length - (intOf i).toNat)
      case atStart => exact ⟨0, ⟨#[]⟩, by omega, rfl, rfl, rfl, bl_refl _⟩
      case round =>
        obtain ⟨k, acc, hk, rfl, rfl, hacc, hbl⟩ := hrel
        have hal : acc.size ≤ 42 := by
          have e1 := recon_len L V k
          rw [← hacc] at e1
          have e2 : acc.data.toList.length = acc.size := by simp
          omega
        have HA := hide hacc
        clear hacc
        by_cases hlt : k < V.length
        · obtain ⟨b, o, rfl, _, hc⟩ := (R1.below hbl).at_ hlt
          obtain ⟨z, hz⟩ : ∃ z, z = ng V k := ⟨_, rfl⟩
          rw [← hz] at hc
          obtain ⟨z0, z1⟩ := F2.out k hlt
          rw [← hz] at z0 z1
          have HZ := hide hz
          clear hz
          have st : recon L V (k + 1) = recon L V k ++ ((if 0 < z then [(48 + z.toNat).toUInt8] else []) ++ (if k < L.length then [L.getD k 0] else [])) := by rw [HZ.out]; rfl
          by_cases hkl : k < t.size
          · have gx := (ext_one hkl).1
            have gz := (ext_one hkl).2
            have hsl := slice_one hkl
            have eL : L.getD k 0 = t[k] := by rw [← TD.out]; exact byte_at hkl
            rw [if_pos (by rw [← TS.out]; exact hkl : k < L.length), eL] at st
            have ki : (k : Int) < (t.size : Int) := by omega
            by_cases hp : 0 < z
            · rw [if_pos hp] at st
              have M := hide (show (acc ++ one (48 + z) ++ t.extract k (k + 1)).data.toList = recon L V (k + 1) by
                rw [st, ← HA.out, ← gx]
                simp [one, show (48 + z).toNat = 48 + z.toNat from by omega])
              clear st gx gz eL
              go_wp2
              go_roundw
              case rel => exact ⟨k + 1, _, by omega, by go_num, rfl, M.out, bl_alloc hbl _⟩
              case measure => simp [intOf]; omega
            · rw [if_neg hp] at st
              have M := hide (show (acc ++ t.extract k (k + 1)).data.toList = recon L V (k + 1) by
                rw [st, ← HA.out, ← gx]
                simp)
              clear st gx gz eL
              go_wp2
              go_roundw
              case rel => exact ⟨k + 1, _, by omega, by go_num, rfl, M.out, hbl⟩
              case measure => simp [intOf]; omega
          · rw [if_neg (by rw [← TS.out]; exact hkl : ¬ k < L.length)] at st
            have ki : ¬ (k : Int) < (t.size : Int) := by omega
            by_cases hp : 0 < z
            · rw [if_pos hp] at st
              have M := hide (show (acc ++ one (48 + z)).data.toList = recon L V (k + 1) by
                rw [st, ← HA.out]
                simp [one, show (48 + z).toNat = 48 + z.toNat from by omega])
              clear st
              go_wp2
              go_roundw
              case rel => exact ⟨k + 1, _, by omega, by go_num, rfl, M.out, bl_alloc hbl _⟩
              case measure => simp [intOf]; omega
            · rw [if_neg hp] at st
              have M := hide (show acc.data.toList = recon L V (k + 1) by
                rw [st, ← HA.out]
                simp)
              clear st
              go_wp2
              go_roundw
              case rel => exact ⟨k + 1, _, by omega, by go_num, rfl, M.out, hbl⟩
              case measure => simp [intOf]; omega
        · have E : acc = s := by
            apply ByteArray.ext
            rw [← Array.toList_inj, HA.out, show k = V.length from by omega]
            exact F1.out
          clear HA hal
          subst E
          have t2 := teq_yes acc
          have d3 : ((V.length : Int) == (t.size : Int) + 1) = true := beq_iff_eq.2 (by rw [F3.out, TS.out]; simp)
          go_wp2
          go_ret
          refine ⟨rfl, ?_⟩
          exact bl_call hbl B0.out
set_option maxRecDepth 100000 in
theorem lifted_FnParsePattern (os : Os) (started : os.Started) (H : Type) (enc : TypeId × Value → H) :
    ReturnsInHanded {} Try.checked os 11 .any (Rows.fnParsePatternSpec.pre6 enc Try.prog Try.f11 Rows.fnParsePatternRow.domain false) (Rows.fnParsePatternSpec.post enc Try.prog Try.f11 false true false false) := by
  refine returnsInHanded_of_change (C := Try.checked) own_knob started (by kernel_rfl) Try.func11
    (ChangeSpec.witness6 (enc := enc) (C := Try.checked) false ⟨#[], #[.slice none 0 0], []⟩ 8 (by kernel_rfl) (by kernel_rfl) (by kernel_rfl) (by kernel_rfl)) ?_
  intro W base args ds gs before hval0 hW hcnd _
  have hval : ∀ (j : Nat) t v, Try.f11.params[j]? = some t → args[j]? = some v → Value.okWide Try.prog W .any base t v := hval0
  have hW' := hW
  obtain ⟨p, q, hA0, hV, rfl, hfz, hnd⟩ := hW
  have hA : DataW.TrodAll enc Try.prog W 0 (fun _ => true) true Try.f11.params.toList args.toList ds p := hA0
  rw [Try.params11] at hA hval
  obtain ⟨v0, vs0, d0, ds0, p0, q0, hargs, rfl, rfl, zh0, r0⟩ := trodAll_cons hA
  obtain ⟨rfl, rfl, rfl⟩ := trodAll_nil r0
  obtain rfl : args = #[v0] := by cases args; simp_all
  obtain ⟨rfl, rfl⟩ := trodVars_none hV
  have zk0 := zh0
  have zl0 : ∀ x ∈ p0, x.block < W.heap.size := by obtain ⟨m, hm⟩ := zk0; exact DataW.trod_lt m _ _ _ hm
  clear hA0 hval0
  obtain ⟨a_code, n_code, c_code, rfl⟩ := okWide_slice Try.underlying22 (hval 0 22 v0 rfl rfl)
  obtain ⟨code, w_code⟩ := isRow_of Try.underlying22 Try.underlying5 (by kernel_rfl) zh0
  refine (walk_FnParsePattern a_code n_code c_code code W w_code).mono fun e W' ⟨he, bel⟩ => ?_
  subst he
  exact ⟨_, rfl, _, _, _, [], _, [], hW', trodAll_mk1 (shut_bool Try.underlying4 _), (trodAll_cons_mk (Below.trod laid_out (by kernel_rfl) (of_decide_eq_true (by kernel_rfl)) zk0 bel zl0) trodAll_mk0), rfl, bel.frame _, fun h => by cases h⟩

/-- The statement. -/
theorem FnParsePattern_holds : Rows.FnParsePatternSaid :=
  OpenClaim.holds_of_wide 11 Try.f11 rfl rfl rfl rfl rfl rfl rfl ⟨rfl, rfl, rfl, rfl, rfl⟩ rfl rfl rfl rfl rfl (by kernel_rfl) Try.func11 (by kernel_rfl)
    (of_decide_eq_true (by kernel_rfl)) (by unfold Func.isWrapper; first | (rw [if_pos (by decide +kernel)]; kernel_rfl) | (rw [if_neg (by decide +kernel)]; exact ⟨rfl, rfl⟩))
    (fun os started H enc _ => lifted_FnParsePattern os started H enc)
end Go.Proofs.Ytfcoheakecfolaa

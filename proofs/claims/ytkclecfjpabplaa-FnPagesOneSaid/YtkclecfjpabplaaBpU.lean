/- The law that a page that is high enough has all lines holds at every input. No condition. -/
import Derived.Test.YtkclecfjpabplaaFrame
import Derived.Test.YtkclecfjpabplaaDrawBp
import Derived.Test.YtkclecfjpabplaaPgN
namespace Go.Proofs.Ytkclecfjpabplaa
open Go.ChangeShapes Go.WideShapes Go.ChangeAt Go.RowKit
set_option linter.unusedVariables false
set_option maxRecDepth 4000
open Classical

theorem TO_capu {w : World} {e : TypeId} {B : Nat} {A : Option Addr} {c : Nat} {L : List Gp} (h : TO w e B A c L) : L.length ≤ c := by
  rcases Nat.eq_zero_or_pos L.length with h0 | h0
  · omega
  · obtain ⟨_, _, _, _, h1, _⟩ := h.form h0
    exact h1
set_option maxHeartbeats 4000000 in
theorem walk_FnPagesOne (a : Option Addr) (n c : Nat) (zs : List Int) (w : World) (hr : IsRow .u8 w a n c zs) :
    Calls Try.prog 16 #[.slice a n c] w fun e w' => e = .returned (.bool true) ∧ Below w.heap.size w w' := by
  have hm := small_row hr
  unfold maxLen at hm
  rcases (by omega : 1048576 < n ∨ n ≤ 1048576) with hn | hn
  · go_enter Try.func16, Try.ntmps16
    go_wp2
    go_ret
    exact ⟨rfl, bl_refl _⟩
  go_enter Try.func16, Try.ntmps16
  go_wp2_with fail
  (with_reducible refine (DrawBestPages_any _ _ _ _ _ hr).mono ?_)
  rintro e u0 ⟨A, c', L, z, rfl, hol, hll, hz, hb⟩
  clear hr
  have PL := bpV_len12 (L := L) (h := z)
  have CI := fun (u : World) (h1 : TL u A L.length L) => BestPages_i u A L.length c' L z h1 (by omega) (TO_capu hol)
  have CS := fun (u : World) (h1 : TL u A L.length L) => BestPages_s u A L.length c' L z h1 (by omega)
  have VI := hide (fun (u : World) (h1 : TL u A L.length L) => ValidLines_i u A L.length c' L h1 (by omega))
  have PH := fun (u : World) (h1 : TL u A L.length L) => PageHeight_i u A L.length c' L 0 L.length h1 (by omega) (TO_capu hol)
  have BI := fun (x : Int) (u : World) (h1 : TL u A L.length L) => BestPages_i u A L.length c' L x h1 (by omega) (TO_capu hol)
  have TR := hide (bp_one (L := L))
  have PV := hide (show lok L = true → phv L 0 L.length = pgh L 0 L.length from fun e => by
    have h1 := phv_yes (L := L) (f := 0) (t := L.length) (by rw [e, inB_iff.2 ⟨by omega, by omega⟩, inB_iff.2 ⟨by omega, by omega⟩]; rfl)
    rw [Nat.sub_zero] at h1
    exact h1)
  unfold RetB at CI CS BI
  have HB := hide hb
  obtain ⟨V, hV⟩ : ∃ V, V = bpV L z := ⟨_, rfl⟩
  rw [← hV] at CI CS PL
  obtain ⟨R, y, t⟩ := V
  simp only at CI CS PL
  have HO := hide hol
  have HCI := hide CI
  have HCS := hide CS
  have HPH := hide PH
  have HBI := hide BI
  clear hol hb hV CI CS PH BI
  go_wp2_with fail
  (with_reducible refine (HCI.out _ HO.out.reads).mono ?_)
  rintro e u1 ⟨A1, d1, rfl, ho1, hb1⟩
  have HO1 := hide (HO.out.below hb1)
  have HB1 := hide (bl_call hb1 HB.out)
  clear hb1 HO HB
  go_wp2_with fail
  (with_reducible refine (HCS.out _ HO1.out.reads).mono ?_)
  rintro e u2 ⟨A2, d2, rfl, ho2, hb2⟩
  have HR1 := hide (ho1.below hb2).reads
  have HR2 := hide ho2.reads
  have HO2 := hide (HO1.out.below hb2)
  have HB2 := hide (bl_call hb2 HB1.out)
  clear hb2 HO1 HB1 ho1 ho2 HCI HCS
  go_wp2_with fail
  (with_reducible refine (eqInts_l _ _ _ _ _ _ _ R R HR1.out HR2.out (by omega) (by omega)).mono ?_)
  rintro e u3 ⟨rfl, j3, rfl⟩
  simp only [decide_true]
  go_wp2_with fail
  (with_reducible refine (VI.out _ (HO2.out.drewN j3).reads).mono ?_)
  rintro e u4 ⟨rfl, hb4⟩
  have HO4 := hide (TO.below (HO2.out.drewN j3) hb4)
  have HR1 := hide ((HR1.out.drewN j3).below hb4)
  have HR2 := hide ((HR2.out.drewN j3).below hb4)
  have HB4 := hide (bl_call hb4 (bl_drewN HB2.out j3))
  clear hb4 HO2 HB2 VI
  cases q : lok L
  · clear TR PV HPH HBI
    go_wp2_with fail
    (with_reducible refine (eqInts_l _ _ _ _ _ _ _ R R HR1.out HR2.out (by omega) (by omega)).mono ?_)
    rintro e u5 ⟨rfl, j5, rfl⟩
    simp only [decide_true]
    cases t
    all_goals
      go_wp2
      go_ret
      exact ⟨rfl, bl_drewN HB4.out _⟩
  · have P := HPH.out
    rw [PV.out q] at P
    have T := TR.out q
    obtain ⟨x, hx⟩ : ∃ x, x = pgh L 0 L.length := ⟨_, rfl⟩
    rw [← hx] at P T
    have HP := hide P
    have HT := hide T
    clear P T TR PV HPH hx HR1 HR2
    go_wp2_with fail
    (with_reducible refine (HP.out _ HO4.out.reads).mono ?_)
    rintro e u5 ⟨rfl, hb5⟩
    have HO5 := hide (HO4.out.below hb5)
    have HB5 := hide (bl_call hb5 HB4.out)
    clear hb5 HO4 HB4 HP
    rcases (by omega : 10000 < x ∨ x ≤ 10000) with hx | hx
    · go_wp2
      go_ret
      exact ⟨rfl, HB5.out⟩
    have BX := HBI.out x
    rw [HT.out hx] at BX
    simp only at BX
    have HBX := hide BX
    clear BX HBI HT
    go_wp2_with fail
    (with_reducible refine (HBX.out _ HO5.out.reads).mono ?_)
    rintro e u6 ⟨A6, d6, rfl, ho6, hb6⟩
    have HB6 := hide (bl_call hb6 HB5.out)
    have HR6 := hide (show IL (u6.alloc (.cells #[.int .i64 L.length] 3)) A6 1 [(L.length : Int)] from (ho6.below (bl_alloc (bl_refl u6) _)).reads)
    have HR7 := hide (show IL (u6.alloc (.cells #[.int .i64 L.length] 3)) (some ⟨u6.heap.size, 0, none⟩) 1 [(L.length : Int)] from by
      have := (OL.lit (w := u6) (e := 3) (B := u6.heap.size) (Nat.le_refl _) [(L.length : Int)] (by simp [maxLen])).reads
      simpa using this)
    have HB7 := hide (bl_alloc HB6.out (.cells #[.int .i64 L.length] 3))
    clear hb6 ho6 HBX HO5 HB5 HB6
    go_wp2_with fail
    (with_reducible refine (eqInts_l _ _ _ _ _ _ _ _ _ HR6.out HR7.out (by omega) (by omega)).mono ?_)
    rintro e u8 ⟨rfl, j8, rfl⟩
    simp only [decide_true]
    go_wp2
    go_ret
    exact ⟨rfl, bl_drewN HB7.out _⟩
set_option maxRecDepth 100000 in
theorem lifted_FnPagesOne (os : Os) (started : os.Started) (H : Type) (enc : TypeId × Value → H) :
    ReturnsInHanded {} Try.checked os 16 .any (Rows.fnPagesOneSpec.pre6 enc Try.prog Try.f16 Rows.fnPagesOneRow.domain false) (Rows.fnPagesOneSpec.post enc Try.prog Try.f16 false true false false) := by
  refine returnsInHanded_of_change (C := Try.checked) own_knob started (by kernel_rfl) Try.func16
    (ChangeSpec.witness6 (enc := enc) (C := Try.checked) false ⟨#[], #[.slice none 0 0], []⟩ 8 (by kernel_rfl) (by kernel_rfl) (by kernel_rfl) (by kernel_rfl)) ?_
  intro W base args ds gs before hval0 hW hcnd _
  have hval : ∀ (j : Nat) t v, Try.f16.params[j]? = some t → args[j]? = some v → Value.okWide Try.prog W .any base t v := hval0
  have hW' := hW
  obtain ⟨p, q, hA0, hV, rfl, hfz, hnd⟩ := hW
  have hA : DataW.TrodAll enc Try.prog W 0 (fun _ => true) true Try.f16.params.toList args.toList ds p := hA0
  rw [Try.params16] at hA hval
  obtain ⟨v0, vs0, d0, ds0, p0, q0, hargs, rfl, rfl, zh0, r0⟩ := trodAll_cons hA
  obtain ⟨rfl, rfl, rfl⟩ := trodAll_nil r0
  obtain rfl : args = #[v0] := by cases args; simp_all
  obtain ⟨rfl, rfl⟩ := trodVars_none hV
  have zk0 := zh0
  have zl0 : ∀ x ∈ p0, x.block < W.heap.size := by obtain ⟨m, hm⟩ := zk0; exact DataW.trod_lt m _ _ _ hm
  clear hA0 hval0
  obtain ⟨a_code, n_code, c_code, rfl⟩ := okWide_slice Try.underlying27 (hval 0 27 v0 rfl rfl)
  obtain ⟨code, w_code⟩ := isRow_of Try.underlying27 Try.underlying5 (by kernel_rfl) zh0
  refine (walk_FnPagesOne a_code n_code c_code code W w_code).mono fun e W' ⟨he, bel⟩ => ?_
  subst he
  exact ⟨_, rfl, _, _, _, [], _, [], hW', trodAll_mk1 (shut_bool Try.underlying4 _), (trodAll_cons_mk (Below.trod laid_out (by kernel_rfl) (of_decide_eq_true (by kernel_rfl)) zk0 bel zl0) trodAll_mk0), rfl, bel.frame _, fun h => by cases h⟩

/-- The statement. -/
theorem FnPagesOne_holds : Rows.FnPagesOneSaid :=
  OpenClaim.holds_of_wide 16 Try.f16 rfl rfl rfl rfl rfl rfl rfl ⟨rfl, rfl, rfl, rfl, rfl⟩ rfl rfl rfl rfl rfl (by kernel_rfl) Try.func16 (by kernel_rfl)
    (of_decide_eq_true (by kernel_rfl)) (by unfold Func.isWrapper; first | (rw [if_pos (by decide +kernel)]; kernel_rfl) | (rw [if_neg (by decide +kernel)]; exact ⟨rfl, rfl⟩))
    (fun os started H enc _ => lifted_FnPagesOne os started H enc)
end Go.Proofs.Ytkclecfjpabplaa

/- The law that costs add up holds for every code. No condition. -/
import Derived.Test.YtafddofajfcffaaQa
import Derived.Test.YtafddofajfcffaaDrawCb
import Derived.Test.YtafddofajfcffaaQg
namespace Go.Proofs.Ytafddofajfcffaa
open Go.ChangeShapes Go.WideShapes Go.ChangeAt Go.RowKit
set_option linter.unusedVariables false
set_option maxRecDepth 4000
open Classical

theorem cb_out {L : List It} {d t : Int} {E : List Int} (h : (cbO L d t E).2 = true) : isOk L = true ∧ frm (-1) E E.length = (L.length : Int) - 1 ∧ okT (-1) E (fun _ a b => coO L a b d t) E.length ∧ (cbO L d t E).1 = sto (fun j => (coO L (frm (-1) E j) (ng E j) d t).1) E.length := by
  obtain ⟨a, b, c, e⟩ := cbV_true h
  exact ⟨a, of_decide_eq_true b, c, e⟩
set_option maxHeartbeats 4000000 in
theorem walk_FnCheckBreaks (a : Option Addr) (n c : Nat) (zs : List Int) (w : World) (hr : IsRow .u8 w a n c zs) :
    Calls Try.prog 13 #[.slice a n c] w fun e w' => e = .returned (.bool true) ∧ Below w.heap.size w w' := by
  have hm := small_row hr; unfold maxLen at hm; (rcases (by omega : 1048576 < n ∨ n ≤ 1048576) with hn | hn); (next => (go_enter Try.func13, Try.ntmps13; go_wp2; go_ret; exact ⟨rfl, bl_refl _⟩)); go_enter Try.func13, Try.ntmps13; go_wp2_with fail; (with_reducible refine (DrawCheckBreaks_any _ _ _ _ _ hr).mono ?_); rintro e u0 ⟨A, B, c', c2, L, d, t, E, rfl, hTL, hll, hd, hIL, hEl, hEw, hb⟩; clear hr; have CI := fun (u : World) (h1 : TL u A L.length L) (h2 : IL u B E.length E) => CheckBreaks_i u A B L.length c' E.length c2 L E d t h1 (by omega) h2 (by omega) hEw; have CS := fun (u : World) (h1 : TL u A L.length L) (h2 : IL u B E.length E) => CheckBreaks_s u A B L.length c' E.length c2 L E d t h1 (by omega) h2 (by omega) hEw
  have TR := hide (fun h => cb_out (L := L) (d := d) (t := t) (E := E) h)
  have LC := hide (fun (u : World) (hu : TL u A L.length L) (a b : Int) wa wb => LineCost_i u A L.length c' L hu (by omega) a b d t wa wb)
  have HWF := hide hEw
  have HT := hide hTL
  have HE := hide hIL
  have HB := hide hb
  obtain ⟨V, hV⟩ : ∃ V, V = cbO L d t E := ⟨_, rfl⟩
  rw [← hV] at CI CS TR
  obtain ⟨x, fo⟩ := V
  simp only at CI CS TR
  have HCI := hide CI
  have HCS := hide CS
  clear CI CS hV hTL hIL hb hEw hd
  go_wp2_with fail; (with_reducible refine (HCI.out _ HT.out HE.out).mono ?_); rintro e u1 ⟨rfl, hb1⟩; have HT1 := hide (HT.out.below hb1); have HE1 := hide (HE.out.below hb1); have HB1 := hide (bl_call hb1 HB.out); clear hb1 HT HE HB; go_wp2_with fail; (with_reducible refine (HCS.out _ HT1.out HE1.out).mono ?_); rintro e u2 ⟨rfl, hb2⟩; have HT2 := hide (HT1.out.below hb2); have HE2 := hide (HE1.out.below hb2); have HB2 := hide (bl_call hb2 HB1.out); clear hb2 HT1 HE1 HB1 HCI HCS
  cases fo
  · clear TR LC
    go_wp2
    go_ret
    exact ⟨rfl, HB2.out⟩
  · obtain ⟨v1, v2, v3, v4⟩ := TR.out rfl
    have V2 := hide v2
    have V3 := hide v3
    have V4 := hide v4
    have SB := hide (fun (k : Nat) => sto_bd (f := fun j => (coO L (frm (-1) E j) (ng E j) d t).1) (M := 200000000) (k := k) (fun j _ => coO_bd _ _ d t))
    clear TR v1 v2 v3 v4
    go_wp2
    go_loopw [11, 12, 13] (fun su fr i u => ∃ (k : Nat) (f z : Int), k ≤ E.length ∧ i = .int .i64 k ∧ fr = .int .i64 f ∧ frm (-1) E k = f ∧ su = .int .i64 z ∧ z = sto (fun j => (coO L (frm (-1) E j) (ng E j) d t).1) k ∧ Below u2.heap.size u2 u) (fun _ _ i _ => E.length - (intOf i).toNat)
    case atStart => exact ⟨0, -1, 0, by omega, rfl, rfl, rfl, rfl, rfl, bl_refl _⟩
    case round =>
      obtain ⟨k, f, z, hk, rfl, rfl, hfr, rfl, hz, hbl⟩ := hrel
      have sb := SB.out k
      rw [← hz] at sb
      have wa := frm_wf HWF.out hk
      rw [hfr] at wa
      have HFR := hide hfr
      have HZ := hide hz
      have HBu := hide hbl
      have HT3 := hide (HT2.out.below hbl)
      clear hfr hz
      by_cases hlt : k < E.length
      · obtain ⟨b, o, rfl, hb0, c0⟩ := HE2.out.at_ hlt
        have c0 := (hbl.cell (p := ⟨b, o + k, none⟩) hb0).trans c0
        have wb := HWF.out k hlt
        have FS := hide (frm_succ (-1) E k)
        have OK := V3.out k hlt
        have SS := hide (show sto (fun j => (coO L (frm (-1) E j) (ng E j) d t).1) (k + 1) = sto (fun j => (coO L (frm (-1) E j) (ng E j) d t).1) k + (coO L (frm (-1) E k) (ng E k) d t).1 from rfl)
        have vb := coO_bd (L := L) (frm (-1) E k) (ng E k) d t
        rw [HFR.out] at OK SS vb
        rw [← HZ.out] at SS
        obtain ⟨y, hy⟩ : ∃ y, y = ng E k := ⟨_, rfl⟩
        rw [← hy] at c0 wb FS OK SS vb
        have LK := LC.out wr HT3.out f y wa wb
        obtain ⟨v, hv⟩ : ∃ v, v = (coO L f y d t).1 := ⟨_, rfl⟩
        rw [← hv] at LK SS vb
        rw [show (coO L f y d t).2 = true from OK] at LK
        have HLK := hide LK
        clear hy hv OK LK wa wb hbl
        go_wp2_with fail
        (with_reducible refine HLK.out.mono ?_)
        rintro e u3 ⟨rfl, hb3⟩
        have HB3 := hide (bl_call hb3 HBu.out)
        have c0 := keep_cell hb3 c0
        clear hb3
        go_wp2
        go_roundw
        case rel => exact ⟨k + 1, y, z + v, by omega, by go_num, rfl, FS.out, rfl, SS.out.symm, HB3.out⟩
        case measure => simp [intOf]; omega
      · obtain rfl : k = E.length := by omega
        have e1 : (z == x) = true := beq_iff_eq.2 (by rw [HZ.out, V4.out])
        have e2 : (f == (L.length : Int) - 1) = true := beq_iff_eq.2 (by rw [← HFR.out, V2.out])
        have e3 : z = x := beq_iff_eq.1 e1
        have e4 : f = (L.length : Int) - 1 := beq_iff_eq.1 e2
        subst e3
        have E4 := hide e4
        clear e4 hlt e1
        go_wp2
        go_ret
        exact ⟨rfl, bl_call HBu.out HB2.out⟩
set_option maxRecDepth 100000 in
theorem lifted_FnCheckBreaks (os : Os) (started : os.Started) (H : Type) (enc : TypeId × Value → H) :
    ReturnsInHanded {} Try.checked os 13 .any (Rows.fnCheckBreaksSpec.pre6 enc Try.prog Try.f13 Rows.fnCheckBreaksRow.domain false) (Rows.fnCheckBreaksSpec.post enc Try.prog Try.f13 false true false false) := by
  refine returnsInHanded_of_change (C := Try.checked) own_knob started (by kernel_rfl) Try.func13
    (ChangeSpec.witness6 (enc := enc) (C := Try.checked) false ⟨#[], #[.slice none 0 0], []⟩ 8 (by kernel_rfl) (by kernel_rfl) (by kernel_rfl) (by kernel_rfl)) ?_
  intro W base args ds gs before hval0 hW hcnd _
  have hval : ∀ (j : Nat) t v, Try.f13.params[j]? = some t → args[j]? = some v → Value.okWide Try.prog W .any base t v := hval0
  have hW' := hW
  obtain ⟨p, q, hA0, hV, rfl, hfz, hnd⟩ := hW
  have hA : DataW.TrodAll enc Try.prog W 0 (fun _ => true) true Try.f13.params.toList args.toList ds p := hA0
  rw [Try.params13] at hA hval
  obtain ⟨v0, vs0, d0, ds0, p0, q0, hargs, rfl, rfl, zh0, r0⟩ := trodAll_cons hA
  obtain ⟨rfl, rfl, rfl⟩ := trodAll_nil r0
  obtain rfl : args = #[v0] := by cases args; simp_all
  obtain ⟨rfl, rfl⟩ := trodVars_none hV
  have zk0 := zh0
  have zl0 : ∀ x ∈ p0, x.block < W.heap.size := by obtain ⟨m, hm⟩ := zk0; exact DataW.trod_lt m _ _ _ hm
  clear hA0 hval0
  obtain ⟨a_code, n_code, c_code, rfl⟩ := okWide_slice Try.underlying54 (hval 0 54 v0 rfl rfl)
  obtain ⟨code, w_code⟩ := isRow_of Try.underlying54 Try.underlying5 (by kernel_rfl) zh0
  refine (walk_FnCheckBreaks a_code n_code c_code code W w_code).mono fun e W' ⟨he, bel⟩ => ?_
  subst he
  exact ⟨_, rfl, _, _, _, [], _, [], hW', trodAll_mk1 (shut_bool Try.underlying4 _), (trodAll_cons_mk (Below.trod laid_out (by kernel_rfl) (of_decide_eq_true (by kernel_rfl)) zk0 bel zl0) trodAll_mk0), rfl, bel.frame _, fun h => by cases h⟩

/-- The statement. -/
theorem FnCheckBreaks_holds : Rows.FnCheckBreaksSaid :=
  OpenClaim.holds_of_wide 13 Try.f13 rfl rfl rfl rfl rfl rfl rfl ⟨rfl, rfl, rfl, rfl, rfl⟩ rfl rfl rfl rfl rfl (by kernel_rfl) Try.func13 (by unfold joinedFacts; rw [may_enter, lifts_final, make_cut]; kernel_rfl)
    (of_decide_eq_true (by kernel_rfl)) (by unfold Func.isWrapper; first | (rw [if_pos (by decide +kernel)]; kernel_rfl) | (rw [if_neg (by decide +kernel)]; exact ⟨rfl, rfl⟩))
    (fun os started H enc _ => lifted_FnCheckBreaks os started H enc)
end Go.Proofs.Ytafddofajfcffaa

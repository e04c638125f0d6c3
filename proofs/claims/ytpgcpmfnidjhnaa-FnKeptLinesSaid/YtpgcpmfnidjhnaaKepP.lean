/- The law on kept lines holds at every input. No condition. -/
import Derived.Test.YtpgcpmfnidjhnaaJn
import Derived.Test.YtpgcpmfnidjhnaaKepL
import Derived.Test.YtpgcpmfnidjhnaaApp
import Derived.Test.YtpgcpmfnidjhnaaDrawE
import Derived.BigQuiet
namespace Go.Proofs.Ytpgcpmfnidjhnaa
open Go.ChangeShapes Go.WideShapes Go.ChangeAt Go.RowKit
set_option linter.unusedVariables false

theorem IL.take {w : World} {A : Option Addr} {n k : Nat} {l : List Int} (h : IL w A n l) (hk : k ≤ n) : IL w A k (l.take k) := by
  obtain rfl : n = l.length := h.1
  refine ⟨by simp; omega, fun h0 => ?_⟩
  obtain ⟨b, o, e, hb, hc⟩ := h.2 (by omega)
  refine ⟨b, o, e, hb, fun i hi => ?_⟩
  rw [hc i (by omega)]
  simp [ng, List.getD, List.getElem?_take, hi]
theorem OL_capk {w : World} {e : TypeId} {B : Nat} {A : Option Addr} {c : Nat} {l : List Int} (h : OL w e B A c l) : l.length ≤ c := by
  rcases Nat.eq_zero_or_pos l.length with h0 | h0
  · omega
  · obtain ⟨_, _, _, _, h1, _⟩ := h.form h0
    exact h1

theorem OL.none_capk {w : World} {e : TypeId} {B : Nat} {A : Option Addr} {c : Nat} {l : List Int} (h : OL w e B A c l) : A = none → c = 0 := fun e => by
  subst e
  rcases h.2 with ⟨h1, _⟩ | ⟨g, cap, cur, h1, _⟩
  · injection h1
  · cases h1

set_option maxRecDepth 4000 in
set_option maxHeartbeats 2000000 in
theorem DrawKeptLines_any (w : World) (a : Option Addr) (n c : Nat) (zs : List Int) (h : IsRow .u8 w a n c zs) :
    Calls Try.prog 23 #[.slice a n c] w fun e w' => ∃ (A : Option Addr) (c : Nat) (l : List Int) (A2 : Option Addr) (c2 : Nat) (l2 : List Int), e = .returned (.tuple #[.slice A l.length c, .slice A2 l2.length c2]) ∧ OL w' 3 w.heap.size A c l ∧ OL w' 3 w.heap.size A2 c2 l2 ∧ l.length ≤ 100 ∧ l2.length ≤ 101 ∧ Below w.heap.size w w' := by
  obtain ⟨i0, hi0, jz0, jz1, jz2⟩ := info_parts int_info
  go_enter Try.func23, Try.ntmps23
  go_wp2_with fail
  (with_reducible refine (newReader_any _ _ _ _ _ h).mono ?_)
  rintro e u0 ⟨rfl, hrd, hb⟩
  have hgl : w.heap.size < u0.heap.size := hrd.lt
  go_wp2_with fail
  (with_reducible refine (pick_any _ _ _ _ _ hrd (by omega) (by omega) (by omega)).mono ?_)
  rintro e u1 ⟨r, hr0, hr1, rfl, hrd1, hon1⟩
  have hz1 := hon1.size
  obtain ⟨m, hm⟩ : ∃ m : Nat, 1 + r = (m : Int) := ⟨(1 + r).toNat, by omega⟩
  have hmb : m ≤ 8 := by omega
  have hm1 : 1 ≤ m := by omega
  obtain rfl : r = (m : Int) - 1 := by omega
  have em : (1 : Int) + ((m : Int) - 1) = (m : Int) := by omega
  go_wp2_with fail
  (try rw [em])
  (with_reducible refine (someEnds_any _ _ _ _ m hrd1 (by omega) (by omega) (by omega)).mono ?_)
  rintro e u2 ⟨A, c1, l, rfl, hol, hll, hel, hrd2, hon2⟩
  have hz2 := hon2.size
  clear hel
  go_wp2_with fail
  (try rw [em])
  (with_reducible refine (someEnds_any _ _ _ _ m hrd2 (by omega) (by omega) (by omega)).mono ?_)
  rintro e u3 ⟨A2, c2, l2, rfl, hol2, hll2, hel2, hrd3, hon3⟩
  have hz3 := hon3.size
  clear hel2
  go_wp2_with fail
  (with_reducible refine (pick_any _ _ _ _ _ hrd3 (by omega) (by omega) (by omega)).mono ?_)
  rintro e u4 ⟨s, hs0, hs1, rfl, hrd4, hon4⟩
  have hz4 := hon4.size
  have hgl1 : w.heap.size < u1.heap.size := by omega
  have hgl2 : w.heap.size < u2.heap.size := by omega
  have hol4 := ((hol.read hon3 hgl1).read hon4 hgl1)
  have hol24 := (hol2.read hon4 hgl2)
  have hb4 : Below w.heap.size w u4 := on_new (on_call hon4 (on_call hon3 (on_call hon2 (on_call hon1 (on_below hb (on_refl _ _)))))) (Nat.le_refl _)
  have HM := hide (hol4.more (B' := w.heap.size) (by omega))
  have HM2 := hide (hol24.more (B' := w.heap.size) (by omega))
  have HB4 := hide hb4
  have hzw : w.heap.size ≤ u4.heap.size := hb4.size
  clear hol hol2 hol24 hb4 hon1 hon2 hon3 hon4 hrd hrd1 hrd2 hrd3 hrd4 hb hol4
  rcases (by omega : s = 0 ∨ s ≠ 0) with rfl | hs
  · have H0 : Hid (OL (u4.alloc (.cells #[] 3)) 3 u4.heap.size (some ⟨u4.heap.size, 0, none⟩) 0 []) := hide (by
      have := OL.lit (w := u4) (e := 3) (B := u4.heap.size) (Nat.le_refl _) [] (by simp)
      simpa using this)
    have HR := hide (HM.out.reads.alloc (.cells #[] 3))
    have HNC := hide (OL.none_capk HM.out)
    go_wp2_with (first | (at_builtin; refine wpList_append_list rfl (.tmp 22) (.tmp 23) _ rfl 3 i0 Try.underlying22 hi0 jz0 jz1 jz2 u4.heap.size (some ⟨u4.heap.size, 0, none⟩) 0 0 [] rfl rfl H0.out A l.length c1 l rfl HR.out HNC.out (by omega) (by simp) ?_; intro A3 c3 u5 ho5 hb5 hg5; rw [List.nil_append] at ho5; have hz5 := hb5.size; (try simp at hz5); have HO5 := hide ho5; have HB5 := hide hb5; clear ho5 hb5 hg5) | (at_builtin; go_loud (refine wpList_append_int rfl (.tmp 24) (.tmp 25) _ rfl 3 i0 Try.underlying22 hi0 jz0 jz1 jz2 u4.heap.size A3 c3 _ l rfl (by simp) (HO5.out.alloc _) u5.heap.size 20 rfl (by simp) (by omega) (by simp; omega) ?_); intro A6 c6 u6 ho6 hb6 hg6; have HO6 := hide ho6; have HB6 := hide hb6; clear ho6 hb6 hg6))
    go_ret2
    have hb46 : Below u4.heap.size u4 u6 := ((bl_alloc (bl_refl u4) _).trans HB5.out).trans ((bl_alloc (bl_refl _) _).mono (by omega) |>.trans HB6.out)
    exact ⟨A, c1, l, A6, c6, l ++ [20], by simp, HM.out.below hb46, HO6.out.more (by omega), by omega, by simp; omega, bl_call hb46 HB4.out⟩
  · have hs' : (s == 0) = false := beq_eq_false_iff_ne.2 hs
    go_wp2
    go_ret2
    exact ⟨A, c1, l, A2, c2, l2, rfl, HM.out, HM2.out, by omega, by omega, HB4.out⟩
theorem small_rowk {w : World} {a : Option Addr} {n c : Nat} {zs : List Int} (h : IsRow .u8 w a n c zs) : n ≤ maxLen := by
  rcases h with ⟨_, rfl, _, _⟩ | ⟨_, _, hl, hm, _⟩
  · exact Nat.zero_le _
  · omega
theorem slice_to (A : Option Addr) (n c k : Nat) (hk : k ≤ c) (W : World) : (Instr.slice 22 (.slice A n c) none (some (.int .i64 k)) none).run Try.prog W = .ok (.slice A k c) W := by
  rw [run_slice_h (P := Try.prog) W 22 A n c (by kernel_rfl) .i64 (k : Int) (by omega) (by omega)]
  have hs : sizeOf (Try.prog.elem 22) = sizeOf 3 := by rw [show Try.prog.elem 22 = 3 from by kernel_rfl]
  rw [hs]
  have hz : (sizeOf 3).run Try.prog W = .ok 1 W := Try.sizeOf3 W
  rw [hz]
  have : sliced A 0 k c 1 = .slice A k c := by
    unfold sliced
    cases A <;> simp [Addr.add]
  simp [Result.andThen, this]
theorem qt {f : FuncId} {args : Array Value} {v : Value} {V : World} {j : Nat} (h : Calls Try.prog f args (V.drewN j) fun e w' => e = .returned v ∧ ∃ i, (V.drewN j).drewN i = w') : Calls Try.prog f args (V.drewN j) fun e w' => e = .returned v ∧ ∃ i, w' = V.drewN i := h.mono fun _ _ h => ⟨h.1, by
  obtain ⟨i, hi⟩ := h.2
  exact ⟨j + i, by rw [← hi, World.drewN_drewN]⟩⟩
set_option maxRecDepth 8000 in
set_option maxHeartbeats 4000000 in
theorem walk_FnKeptLines (a : Option Addr) (n c : Nat) (zs : List Int) (w : World) (hr : IsRow .u8 w a n c zs) :
    Calls Try.prog 4 #[.slice a n c] w fun e w' => e = .returned (.bool true) ∧ Below w.heap.size w w' := by
  have hm := small_rowk hr
  unfold maxLen at hm
  rcases (by omega : 1048576 < n ∨ n ≤ 1048576) with hn | hn
  · go_enter Try.func4, Try.ntmps4
    go_wp2
    go_ret
    exact ⟨rfl, bl_refl _⟩
  go_enter Try.func4, Try.ntmps4
  go_wp2_with fail
  (with_reducible refine (DrawKeptLines_any _ _ _ _ _ hr).mono ?_)
  rintro e u0 ⟨A, c1, l, A2, c2, l2, rfl, hol, hol2, hll, hll2, hb⟩
  clear hr
  have hc1 := OL_capk hol
  have hc2 := OL_capk hol2
  have R1 := hide hol.reads
  have R2 := hide hol2.reads
  have HB := hide hb
  obtain ⟨k, hk⟩ : ∃ k, k = kp l l2 := ⟨_, rfl⟩
  obtain ⟨hk1, hk2⟩ := kp_le l l2
  have hne := kp_ne 0 l l2
  have htk := kp_take l l2
  have HAB := hide (KeptLines_i u0 A A2 l.length l2.length c1 c2 l l2 R1.out R2.out (by omega) (by omega))
  have HSB := hide (fun (j : Nat) => KeptLines_s (u0.drewN j) A A2 l.length l2.length c1 c2 l l2 (R1.out.drewN j) (R2.out.drewN j) (by omega) (by omega))
  rw [← hk] at HAB HSB hk1 hk2 hne htk
  have HTK := hide htk
  have HK := hide hk
  have S1 := slice_to A l.length c1 k (by omega)
  have S2 := slice_to A2 l2.length c2 k (by omega)
  have kk : ((k : Int) == (k : Int)) = true := by simp
  have ll : ((l.length : Int) == (l.length : Int)) = true := by simp
  clear hol hol2 hb hk htk
  go_wp2_with fail
  (with_reducible refine HAB.out.mono ?_)
  rintro e w' ⟨rfl, j1, rfl⟩
  go_wp2_with fail
  (with_reducible refine (HSB.out _).mono ?_)
  rintro e w' ⟨rfl, j2, rfl⟩
  obtain ⟨V, hV⟩ : ∃ V, V = (u0.drewN j1).drewN j2 := ⟨_, rfl⟩
  rw [← hV]
  have V1 := hide (show IL V A l.length l by rw [hV]; exact R1.out)
  have V2 := hide (show IL V A2 l2.length l2 by rw [hV]; exact R2.out)
  have HB := hide (show Below w.heap.size w V by rw [hV]; exact bl_drewN (bl_drewN HB.out _) _)
  have HBA := hide (fun (j : Nat) => qt (KeptLines_i (V.drewN j) A2 A l2.length l.length c2 c1 l2 l (V2.out.drewN j) (V1.out.drewN j) (by omega) (by omega)))
  have HAA := hide (fun (j : Nat) => qt (KeptLines_i (V.drewN j) A A l.length l.length c1 c1 l l (V1.out.drewN j) (V1.out.drewN j) (by omega) (by omega)))
  have HEQ := hide (fun (j : Nat) => qt (eqInts_l (V.drewN j) A A2 k k c1 c2 (l.take k) (l2.take k) ((V1.out.drewN j).take (by omega)) ((V2.out.drewN j).take (by omega)) (by omega) (by omega)))
  rw [kp_comm l2 l] at HBA
  rw [kp_self l] at HAA
  rw [show (decide (l.take k = l2.take k)) = true from by exact decide_eq_true HTK.out] at HEQ
  rw [← HK.out] at HBA
  clear hV
  rcases (by omega : k = l.length ∨ k < l.length) with h1 | h1
  · have g1 : ((k : Int) == (l.length : Int)) = true := by simp [h1]
    clear hne h1
    go_wp2_with fail
    (go_quiet (first | (go_at_call 21; (with_reducible refine (HBA.out _).mono ?_); exact fun _ _ h => h) | (go_at_call 21; (with_reducible refine (HAA.out _).mono ?_); exact fun _ _ h => h) | (go_at_call 24; (with_reducible refine (HEQ.out _).mono ?_); exact fun _ _ h => h)))
    go_wp2
    go_ret
    exact ⟨rfl, bl_drewN HB.out _⟩
  have g1 : ((k : Int) == (l.length : Int)) = false := beq_eq_false_iff_ne.2 (by omega)
  rcases (by omega : k = l2.length ∨ k < l2.length) with h2 | h2
  · have g2 : ((k : Int) == (l2.length : Int)) = true := by simp [h2]
    clear hne h2
    go_wp2_with fail
    (go_quiet (first | (go_at_call 21; (with_reducible refine (HBA.out _).mono ?_); exact fun _ _ h => h) | (go_at_call 21; (with_reducible refine (HAA.out _).mono ?_); exact fun _ _ h => h) | (go_at_call 24; (with_reducible refine (HEQ.out _).mono ?_); exact fun _ _ h => h)))
    go_wp2
    go_ret
    exact ⟨rfl, bl_drewN HB.out _⟩
  have g2 : ((k : Int) == (l2.length : Int)) = false := beq_eq_false_iff_ne.2 (by omega)
  obtain ⟨b, o, rfl, hb0, d0⟩ := V1.out.at_ h1
  obtain ⟨b', o', rfl, hb0', d1⟩ := V2.out.at_ h2
  have hne := hne h1 h2
  change ng l k ≠ ng l2 k at hne
  have g3 : (ng l k != ng l2 k) = true := by simp [hne]
  obtain ⟨x, hx⟩ : ∃ x, x = ng l k := ⟨_, rfl⟩
  obtain ⟨y, hy⟩ : ∃ y, y = ng l2 k := ⟨_, rfl⟩
  rw [← hx] at d0 g3
  rw [← hy] at d1 g3
  clear hne hx hy
  go_wp2_with fail
  (go_quiet (first | (go_at_call 21; (with_reducible refine (HBA.out _).mono ?_); exact fun _ _ h => h) | (go_at_call 21; (with_reducible refine (HAA.out _).mono ?_); exact fun _ _ h => h) | (go_at_call 24; (with_reducible refine (HEQ.out _).mono ?_); exact fun _ _ h => h)))
  go_wp2
  go_ret
  exact ⟨rfl, bl_drewN HB.out _⟩
set_option maxRecDepth 100000 in
theorem lifted_FnKeptLines (os : Os) (started : os.Started) (H : Type) (enc : TypeId × Value → H) :
    ReturnsInHanded {} Try.checked os 4 .any (Rows.fnKeptLinesSpec.pre6 enc Try.prog Try.f4 Rows.fnKeptLinesRow.domain false) (Rows.fnKeptLinesSpec.post enc Try.prog Try.f4 false true false false) := by
  refine returnsInHanded_of_change (C := Try.checked) own_knob started (by kernel_rfl) Try.func4
    (ChangeSpec.witness6 (enc := enc) (C := Try.checked) false ⟨#[], #[.slice none 0 0], []⟩ 8 (by kernel_rfl) (by kernel_rfl) (by kernel_rfl) (by kernel_rfl)) ?_
  intro W base args ds gs before hval0 hW hcnd _
  have hval : ∀ (j : Nat) t v, Try.f4.params[j]? = some t → args[j]? = some v → Value.okWide Try.prog W .any base t v := hval0
  have hW' := hW
  obtain ⟨p, q, hA0, hV, rfl, hfz, hnd⟩ := hW
  have hA : DataW.TrodAll enc Try.prog W 0 (fun _ => true) true Try.f4.params.toList args.toList ds p := hA0
  rw [Try.params4] at hA hval
  obtain ⟨v0, vs0, d0, ds0, p0, q0, hargs, rfl, rfl, zh0, r0⟩ := trodAll_cons hA
  obtain ⟨rfl, rfl, rfl⟩ := trodAll_nil r0
  obtain rfl : args = #[v0] := by cases args; simp_all
  obtain ⟨rfl, rfl⟩ := trodVars_none hV
  have zk0 := zh0
  have zl0 : ∀ x ∈ p0, x.block < W.heap.size := by obtain ⟨m, hm⟩ := zk0; exact DataW.trod_lt m _ _ _ hm
  clear hA0 hval0
  obtain ⟨a_code, n_code, c_code, rfl⟩ := okWide_slice Try.underlying26 (hval 0 26 v0 rfl rfl)
  obtain ⟨code, w_code⟩ := isRow_of Try.underlying26 Try.underlying5 (by kernel_rfl) zh0
  refine (walk_FnKeptLines a_code n_code c_code code W w_code).mono fun e W' ⟨he, bel⟩ => ?_
  subst he
  exact ⟨_, rfl, _, _, _, [], _, [], hW', trodAll_mk1 (shut_bool Try.underlying4 _), (trodAll_cons_mk (Below.trod laid_out (by kernel_rfl) (of_decide_eq_true (by kernel_rfl)) zk0 bel zl0) trodAll_mk0), rfl, bel.frame _, fun h => by cases h⟩

/-- The statement. -/
theorem FnKeptLines_holds : Rows.FnKeptLinesSaid :=
  OpenClaim.holds_of_wide 4 Try.f4 rfl rfl rfl rfl rfl rfl rfl ⟨rfl, rfl, rfl, rfl, rfl⟩ rfl rfl rfl rfl rfl (by kernel_rfl) Try.func4 (by unfold joinedFacts; rw [may_enter, lifts_final, make_cut]; kernel_rfl)
    (of_decide_eq_true (by kernel_rfl)) (by unfold Func.isWrapper; first | (rw [if_pos (by decide +kernel)]; kernel_rfl) | (rw [if_neg (by decide +kernel)]; exact ⟨rfl, rfl⟩))
    (fun os started H enc _ => lifted_FnKeptLines os started H enc)
end Go.Proofs.Ytpgcpmfnidjhnaa

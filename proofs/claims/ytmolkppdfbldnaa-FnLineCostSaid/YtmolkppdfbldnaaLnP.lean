/- The laws on lines hold for every code: lines have the boxes between their breaks, boxes are between their breaks. No condition. -/
import Derived.Test.YtmolkppdfbldnaaJn
import Derived.Test.YtmolkppdfbldnaaBxS
import Derived.Test.YtmolkppdfbldnaaDrawLn
import Derived.BigQuiet
import Derived.Deep.QuietTactic
namespace Go.Proofs.Ytmolkppdfbldnaa
open Go.ChangeShapes Go.WideShapes Go.ChangeAt Go.RowKit
set_option linter.unusedVariables false

theorem small_rown {w : World} {a : Option Addr} {n c : Nat} {zs : List Int} (h : IsRow .u8 w a n c zs) : n ≤ maxLen := by
  rcases h with ⟨_, rfl, _, _⟩ | ⟨_, _, hl, hm, _⟩
  · exact Nat.zero_le _
  · omega
theorem DrawLineGlue_any (w : World) (a : Option Addr) (n c : Nat) (zs : List Int) (h : IsRow .u8 w a n c zs) :
    Calls Try.prog 47 #[.slice a n c] w fun e w' => ∃ (A : Option Addr) (c : Nat) (L : List It) (x y : Int), e = .returned (.tuple #[.slice A L.length c, .int .i64 x, .int .i64 y]) ∧ TO w' 51 w.heap.size A c L ∧ L.length ≤ 23 ∧ (-1 ≤ x ∧ x ≤ 23) ∧ (-1 ≤ y ∧ y ≤ 23) ∧ Below w.heap.size w w' := by
  go_enter Try.func47, Try.ntmps47
  go_wp2_with fail
  (with_reducible refine (newReader_any _ _ _ _ _ h).mono ?_)
  rintro e u0 ⟨rfl, hrd, hb⟩
  have hgl : w.heap.size < u0.heap.size := hrd.lt
  go_wp2_with fail
  (with_reducible refine (someLine_any _ _ _ _ hrd (by omega) (by omega)).mono ?_)
  rintro e u1 ⟨A, c1, L, x, y, rfl, hol, hll, hx, hy, hrd1, hon1⟩
  have O1 := on_call hon1 (on_below hb (on_refl w (some w.heap.size)))
  go_wp2
  go_ret3
  exact ⟨A, c1, L, x, y, rfl, hol.more (by omega), hll, hx, hy, on_new O1 (Nat.le_refl _)⟩
theorem DrawBoxesOf_any (w : World) (a : Option Addr) (n c : Nat) (zs : List Int) (h : IsRow .u8 w a n c zs) :
    Calls Try.prog 48 #[.slice a n c] w fun e w' => ∃ (A : Option Addr) (c : Nat) (L : List It) (x y : Int), e = .returned (.tuple #[.slice A L.length c, .int .i64 x, .int .i64 y]) ∧ TO w' 51 w.heap.size A c L ∧ L.length ≤ 23 ∧ (-1 ≤ x ∧ x ≤ 23) ∧ (-1 ≤ y ∧ y ≤ 23) ∧ Below w.heap.size w w' := by
  go_enter Try.func48, Try.ntmps48
  go_wp2_with fail
  (with_reducible refine (newReader_any _ _ _ _ _ h).mono ?_)
  rintro e u0 ⟨rfl, hrd, hb⟩
  have hgl : w.heap.size < u0.heap.size := hrd.lt
  go_wp2_with fail
  (with_reducible refine (someLine_any _ _ _ _ hrd (by omega) (by omega)).mono ?_)
  rintro e u1 ⟨A, c1, L, x, y, rfl, hol, hll, hx, hy, hrd1, hon1⟩
  have O1 := on_call hon1 (on_below hb (on_refl w (some w.heap.size)))
  go_wp2
  go_ret3
  exact ⟨A, c1, L, x, y, rfl, hol.more (by omega), hll, hx, hy, on_new O1 (Nat.le_refl _)⟩
/-- The widths of the first boxes of a list. -/
def pS (L : List It) (R : List Int) : Nat → Int
  | 0 => 0
  | k + 1 => pS L R k + (tg L (ng R k).toNat).w
theorem pS_app {L : List It} {R : List Int} {x : Int} : ∀ {k : Nat}, k ≤ R.length → pS L (R ++ [x]) k = pS L R k
  | 0, _ => rfl
  | k + 1, h => by
    simp only [pS]
    rw [pS_app (by omega), ng_lt (by simp; omega), ng_lt (by omega), List.getElem_append_left (by omega)]
theorem pS_le {L : List It} (hall : ∀ i, i < L.length → itOk (tg L i) = true) {p : Nat} : ∀ {d : Nat}, p + d ≤ L.length → pS L (bxN L p d) (bxN L p d).length ≤ sW L (p + d) - sW L p
  | 0, _ => by simp [bxN, pS]
  | d + 1, h => by
    have ih := pS_le hall (p := p) (d := d) (by omega)
    have hi := in_bd hall (k := p + d) (by omega)
    have e : sW L (p + (d + 1)) = sW L (p + d) + inW (tg L (p + d)) := rfl
    simp only [bxN]
    by_cases hb : isB (tg L (p + d)) = true
    · rw [if_pos hb, List.length_append]
      simp only [List.length_singleton, pS]
      rw [pS_app (Nat.le_refl _), ng_lt (by simp), List.getElem_append_right (Nat.le_refl _)]
      simp only [Nat.sub_self, List.getElem_singleton, Int.toNat_natCast]
      have hk := of_decide_eq_true hb
      have : inW (tg L (p + d)) = (tg L (p + d)).w := by unfold inW; rw [if_neg (by omega)]
      omega
    · rw [if_neg hb]; omega
theorem pS_bd {L : List It} (hall : ∀ i, i < L.length → itOk (tg L i) = true) {R : List Int} (hR : ∀ j, j < R.length → ∃ m : Nat, ng R j = (m : Int) ∧ m < L.length) : ∀ {k : Nat}, k ≤ R.length → 0 ≤ pS L R k ∧ pS L R k ≤ 1000 * k
  | 0, _ => by simp [pS]
  | k + 1, h => by
    have ih := pS_bd hall hR (k := k) (by omega)
    obtain ⟨m, e, hm⟩ := hR k (by omega)
    simp only [pS]
    rw [e, Int.toNat_natCast]
    rcases iok_iff.1 (hall m hm) with x | x | x <;> omega
theorem bxN_ng {L : List It} {p d j : Nat} (h : j < (bxN L p d).length) : ∃ m : Nat, ng (bxN L p d) j = (m : Int) ∧ p ≤ m ∧ m < p + d := by
  rw [ng_lt h]
  obtain ⟨m, a, b, c, _⟩ := bxN_in (List.getElem_mem h)
  exact ⟨m, a, b, c⟩
theorem bxN_mem {L : List It} {p i : Nat} : ∀ {d : Nat}, p ≤ i → i < p + d → ((((i : Nat) : Int) ∈ bxN L p d) ↔ isB (tg L i) = true)
  | 0, h1, h2 => by omega
  | d + 1, h1, h2 => by
    constructor
    · intro h
      obtain ⟨j, a, b, c, e⟩ := bxN_in h
      obtain rfl : i = j := by omega
      exact e
    · intro h
      simp only [bxN]
      rcases (by omega : i < p + d ∨ i = p + d) with e | e
      · have := (bxN_mem (L := L) (d := d) h1 e).2 h
        split
        · exact List.mem_append_left _ this
        · exact this
      · rw [← e, if_pos h]; simp
theorem glue_neq (a b c : Int) (W : World) : (binOp .neq 34 (gv a b c) (gv a b c)).run Try.prog W = .ok (.bool false) W := by
  have : (binOp .neq 34 (gv a b c) (gv a b c)).run Try.prog W = (.ok (.bool (!(((a == a) && (b == b)) && (c == c)))) W) := by simp [go_sem]
  rw [this]; simp
theorem glue_eql (a b c : Int) (W : World) : (binOp .eql 34 (gv a b c) (gv a b c)).run Try.prog W = .ok (.bool true) W := by
  have : (binOp .eql 34 (gv a b c) (gv a b c)).run Try.prog W = (.ok (.bool ((((a == a) && (b == b)) && (c == c)))) W) := by simp [go_sem]
  rw [this]; simp
set_option maxRecDepth 8000 in
set_option maxHeartbeats 4000000 in
theorem walk_FnLineGlue (a : Option Addr) (n c : Nat) (zs : List Int) (w : World) (hr : IsRow .u8 w a n c zs) :
    Calls Try.prog 11 #[.slice a n c] w fun e w' => e = .returned (.bool true) ∧ Below w.heap.size w w' := by
  have hm := small_rown hr
  unfold maxLen at hm
  rcases (by omega : 1048576 < n ∨ n ≤ 1048576) with hn | hn
  · go_enter Try.func11, Try.ntmps11
    go_wp2
    go_ret
    exact ⟨rfl, bl_refl _⟩
  go_enter Try.func11, Try.ntmps11
  go_wp2_with fail
  (with_reducible refine (DrawLineGlue_any _ _ _ _ _ hr).mono ?_)
  rintro e u0 ⟨A, c0, L, f, t, rfl, hol, hll, hf, ht, hb⟩
  clear hr
  have HR := hide hol.reads
  have HB := hide hb
  clear hol hb
  have GI := fun (u : World) (h : TL u A L.length L) => LineGlue_i u A L.length c0 L h (by omega) f t (by omega) (by omega)
  have GS := fun (u : World) (h : TL u A L.length L) => LineGlue_s u A L.length c0 L h (by omega) f t (by omega) (by omega)
  cases hok : okL L f t
  · rw [lgO_no hok] at GI GS
    have HGI := hide GI
    have HGS := hide GS
    clear GI GS hok
    go_wp2_with fail
    (with_reducible refine (HGI.out _ HR.out).mono ?_)
    rintro e u1 ⟨rfl, hb1⟩
    have HB1 := hide (bl_alloc (bl_call hb1 HB.out) (.cells #[.int .i64 0, .int .i64 0, .int .i64 0] 34))
    have HR1 := hide ((HR.out.below hb1).alloc (.cells #[.int .i64 0, .int .i64 0, .int .i64 0] 34))
    have k0 : (u1.alloc (.cells #[.int .i64 0, .int .i64 0, .int .i64 0] 34)).cell? ⟨u1.heap.size, 0, none⟩ = some (.int .i64 0) := by simp [go_sem]
    have k1 : (u1.alloc (.cells #[.int .i64 0, .int .i64 0, .int .i64 0] 34)).cell? ⟨u1.heap.size, 1, none⟩ = some (.int .i64 0) := by simp [go_sem]
    have k2 : (u1.alloc (.cells #[.int .i64 0, .int .i64 0, .int .i64 0] 34)).cell? ⟨u1.heap.size, 2, none⟩ = some (.int .i64 0) := by simp [go_sem]
    clear hb1
    go_wp2_with fail
    (with_reducible refine (HGS.out _ HR1.out).mono ?_)
    rintro e u2 ⟨rfl, hb2⟩
    have HB2 := hide (bl_alloc (bl_call hb2 HB1.out) (.cells #[.int .i64 0, .int .i64 0, .int .i64 0] 34))
    have k0 := keep_alloc (keep_cell hb2 k0) (.cells #[.int .i64 0, .int .i64 0, .int .i64 0] 34)
    have k1 := keep_alloc (keep_cell hb2 k1) (.cells #[.int .i64 0, .int .i64 0, .int .i64 0] 34)
    have k2 := keep_alloc (keep_cell hb2 k2) (.cells #[.int .i64 0, .int .i64 0, .int .i64 0] 34)
    clear hb2
    go_wp2
    go_ret
    exact ⟨by simp, HB2.out⟩
  · have hok' := hok
    simp only [okL, Bool.and_eq_true] at hok'
    obtain ⟨p, q, hp, rfl, hpq, hq, _⟩ := hasL_of hok'.2
    have OK := isOk_iff.1 hok'.1
    have HALL := hide OK.1
    rw [lgO_yes hok hp rfl] at GI GS
    have BI := fun (u : World) (h : TL u A L.length L) => BoxesOf_i u A L.length c0 L h (by omega) f q (by omega) (by omega)
    rw [bxO_yes hok hp rfl] at BI
    unfold RetL at BI
    have sm := s_mono HALL.out (a := min (fBx L p) q) (k := q) (Nat.min_le_right _ _) (by omega)
    have sb := s_bd HALL.out (k := q) (by omega)
    have s0 := s_bd HALL.out (k := min (fBx L p) q) (by have := Nat.min_le_right (fBx L p) q; omega)
    have ab : 0 ≤ atW (tg L q) ∧ atW (tg L q) ≤ 1000 := by
      rcases iok_iff.1 (HALL.out q hq) with h | h | h <;> (unfold atW; split <;> omega)
    have hps := pS_le HALL.out (p := min (fBx L p) q) (d := q - min (fBx L p) q) (by have := Nat.min_le_right (fBx L p) q; omega)
    rw [← bxN_line hpq (by omega), show min (fBx L p) q + (q - min (fBx L p) q) = q by have := Nat.min_le_right (fBx L p) q; omega] at hps
    have hlb := bxN_len L p (q - p)
    have hAT := fun (j : Nat) (hj : j < (bxN L p (q - p)).length) => bxN_ng hj
    obtain ⟨R, hR⟩ : ∃ R, R = bxN L p (q - p) := ⟨_, rfl⟩
    rw [← hR] at BI hps hlb hAT
    have HAT := hide hAT
    have HBD := hide (fun (k : Nat) (hk : k ≤ R.length) => pS_bd HALL.out (R := R) (fun j hj => by obtain ⟨m, a, b, c⟩ := HAT.out j hj; exact ⟨m, a, by omega⟩) hk)
    obtain ⟨x, hx⟩ : ∃ x, x = sW L q - sW L (min (fBx L p) q) + atW (tg L q) := ⟨_, rfl⟩
    obtain ⟨y, hy⟩ : ∃ x, x = sT L q - sT L (min (fBx L p) q) := ⟨_, rfl⟩
    obtain ⟨z, hz⟩ : ∃ x, x = sS L q - sS L (min (fBx L p) q) := ⟨_, rfl⟩
    rw [← hx, ← hy, ← hz] at GI GS
    have hx1 : pS L R R.length ≤ x := by omega
    have hy1 : 0 ≤ y := by omega
    have hz1 : 0 ≤ z := by omega
    have HX1 := hide hx1
    have HGI := hide GI
    have HGS := hide GS
    have HBI := hide BI
    have nq := glue_neq x y z
    have hpf : f = (p : Int) - 1 := by omega
    have hr60 : R.length ≤ 60 := by omega
    clear GI GS BI hok hok' OK sm sb s0 ab hps hAT hR hx hy hz hx1 hp
    subst hpf
    go_wp2_with fail
    (with_reducible refine (HGI.out _ HR.out).mono ?_)
    rintro e u1 ⟨rfl, hb1⟩
    have HB1 := hide (bl_alloc (bl_call hb1 HB.out) (.cells #[.int .i64 x, .int .i64 y, .int .i64 z] 34))
    have HR1 := hide ((HR.out.below hb1).alloc (.cells #[.int .i64 x, .int .i64 y, .int .i64 z] 34))
    have k0 : (u1.alloc (.cells #[.int .i64 x, .int .i64 y, .int .i64 z] 34)).cell? ⟨u1.heap.size, 0, none⟩ = some (.int .i64 x) := by simp [go_sem]
    have k1 : (u1.alloc (.cells #[.int .i64 x, .int .i64 y, .int .i64 z] 34)).cell? ⟨u1.heap.size, 1, none⟩ = some (.int .i64 y) := by simp [go_sem]
    have k2 : (u1.alloc (.cells #[.int .i64 x, .int .i64 y, .int .i64 z] 34)).cell? ⟨u1.heap.size, 2, none⟩ = some (.int .i64 z) := by simp [go_sem]
    clear hb1
    go_wp2_with fail
    (with_reducible refine (HGS.out _ HR1.out).mono ?_)
    rintro e u2 ⟨rfl, hb2⟩
    have HB2 := hide (bl_alloc (bl_call hb2 HB1.out) (.cells #[.int .i64 x, .int .i64 y, .int .i64 z] 34))
    have HR2 := hide ((HR1.out.below hb2).alloc (.cells #[.int .i64 x, .int .i64 y, .int .i64 z] 34))
    have k0 := keep_alloc (keep_cell hb2 k0) (.cells #[.int .i64 x, .int .i64 y, .int .i64 z] 34)
    have k1 := keep_alloc (keep_cell hb2 k1) (.cells #[.int .i64 x, .int .i64 y, .int .i64 z] 34)
    have k2 := keep_alloc (keep_cell hb2 k2) (.cells #[.int .i64 x, .int .i64 y, .int .i64 z] 34)
    clear hb2
    go_wp2_with fail
    (with_reducible refine (HBI.out _ HR2.out).mono ?_)
    rintro e u3 ⟨A3, c3, rfl, ho3, hb3⟩
    have HB3 := hide (bl_call hb3 HB2.out)
    have HR3 := hide (HR2.out.below hb3)
    have k0 := keep_cell hb3 k0
    have k1 := keep_cell hb3 k1
    have k2 := keep_cell hb3 k2
    have HIL := hide ho3.reads
    clear hb3 ho3 HGI HGS HBI HR HR1 HR2
    go_wp2
    go_loop [11, 12] (fun v i => ∃ k : Nat, k ≤ R.length ∧ i = .int .i64 k ∧ v = .int .i64 (pS L R k)) (fun _ i => R.length - (intOf i).toNat)
    case atStart => exact ⟨0, by omega, rfl, rfl⟩
    case round =>
      obtain ⟨k, hk, rfl, rfl⟩ := hrel
      have hbd := HBD.out k hk
      by_cases hlt : k < R.length
      · obtain ⟨m, hm1, hm2, hm3⟩ := HAT.out k hlt
        have hml : m < L.length := by omega
        have hbn := HBD.out (k + 1) (by omega)
        have NX := hide (show pS L R (k + 1) = pS L R k + (tg L m).w by simp only [pS]; rw [hm1, Int.toNat_natCast])
        obtain ⟨b, o, rfl, hb0, _, d1, _, _, _, _⟩ := HR3.out.at6 hml
        obtain ⟨b1, o1, rfl, _, q0⟩ := HIL.out.at_ hlt
        rw [hm1] at q0
        obtain ⟨v, hv⟩ : ∃ v, v = (tg L m).w := ⟨_, rfl⟩
        obtain ⟨s, hs⟩ : ∃ s, s = pS L R k := ⟨_, rfl⟩
        rw [← hv] at d1 NX
        rw [← hs] at hbd NX ⊢
        rw [NX.out] at hbn
        have i1 : (k : Int) < (R.length : Int) := by omega
        have i2 : (m : Int) < (L.length : Int) := by omega
        have i3 : (0 : Int) ≤ (m : Int) := by omega
        have e1 : decide ((m : Int) ≤ (p : Int) - 1) = false := decide_eq_false (by omega)
        have e2 : decide ((q : Int) ≤ (m : Int)) = false := decide_eq_false (by omega)
        have e3 : decide (q ≤ m) = false := decide_eq_false (by omega)
        have vb : -100000 ≤ s + v ∧ s + v ≤ 100000 := by omega
        obtain ⟨vb1, vb2⟩ := vb
        have ws : IntKind.i64.wrap (s + v) = s + v := IntWalk.i64_in _ (by omega)
        clear hm1 hv hs
        go_wp2
        go_round
        case rel => exact ⟨k + 1, by omega, by go_num, by rw [NX.out]⟩
        case measure => simp [intOf]; omega
      · have hke : k = R.length := by omega
        have hxx := HX1.out
        rw [← hke] at hxx
        obtain ⟨s, hs⟩ : ∃ s, s = pS L R k := ⟨_, rfl⟩
        rw [← hs] at hbd hxx ⊢
        clear hs hke
        go_wp2
        go_ret
        exact ⟨by simp; try omega, HB3.out⟩
set_option maxRecDepth 100000 in
theorem lifted_FnLineGlue (os : Os) (started : os.Started) (H : Type) (enc : TypeId × Value → H) :
    ReturnsInHanded {} Try.checked os 11 .any (Rows.fnLineGlueSpec.pre6 enc Try.prog Try.f11 Rows.fnLineGlueRow.domain false) (Rows.fnLineGlueSpec.post enc Try.prog Try.f11 false true false false) := by
  refine returnsInHanded_of_change (C := Try.checked) own_knob started (by kernel_rfl) Try.func11
    (ChangeSpec.witness6 (enc := enc) (C := Try.checked) false ⟨#[], #[.slice none 0 0], []⟩ 8 (by kernel_rfl) (by kernel_rfl) (by kernel_rfl) (by kernel_rfl)) ?_
  intro W base args ds gs before hval0 hW hcnd _
  have hval : ∀ (j : Nat) t v, Try.f11.params[j]? = some t → args[j]? = some v → Value.okWide Try.prog W .any base t v := hval0
  have hW' := hW
  obtain ⟨p, q, hA0, hV, rfl, hfz, hnd⟩ := hW
  have hA : DataW.TrodAll enc Try.prog W 0 (fun _ => true) true Try.f11.params.toList args.toList ds p := hA0
  rw [Try.params11] at hA hval
  obtain ⟨v0, vs0, d0, ds0, p0, q0, hargs, rfl, rfl, zh0, r0⟩ := trodAll_cons hA
  obtain ⟨rfl, rfl, rfl⟩ := trodAll_nil r0
  obtain rfl : args = #[v0] := by cases args; simp_all
  obtain ⟨rfl, rfl⟩ := trodVars_none hV
  have zk0 := zh0
  have zl0 : ∀ x ∈ p0, x.block < W.heap.size := by obtain ⟨m, hm⟩ := zk0; exact DataW.trod_lt m _ _ _ hm
  clear hA0 hval0
  obtain ⟨a_code, n_code, c_code, rfl⟩ := okWide_slice Try.underlying47 (hval 0 47 v0 rfl rfl)
  obtain ⟨code, w_code⟩ := isRow_of Try.underlying47 Try.underlying5 (by kernel_rfl) zh0
  refine (walk_FnLineGlue a_code n_code c_code code W w_code).mono fun e W' ⟨he, bel⟩ => ?_
  subst he
  exact ⟨_, rfl, _, _, _, [], _, [], hW', trodAll_mk1 (shut_bool Try.underlying4 _), (trodAll_cons_mk (Below.trod laid_out (by kernel_rfl) (of_decide_eq_true (by kernel_rfl)) zk0 bel zl0) trodAll_mk0), rfl, bel.frame _, fun h => by cases h⟩

/-- The statement. -/
theorem FnLineGlue_holds : Rows.FnLineGlueSaid :=
  OpenClaim.holds_of_wide 11 Try.f11 rfl rfl rfl rfl rfl rfl rfl ⟨rfl, rfl, rfl, rfl, rfl⟩ rfl rfl rfl rfl rfl (by kernel_rfl) Try.func11 (by unfold joinedFacts; rw [may_enter, lifts_final, make_cut]; kernel_rfl)
    (of_decide_eq_true (by kernel_rfl)) (by unfold Func.isWrapper; first | (rw [if_pos (by decide +kernel)]; kernel_rfl) | (rw [if_neg (by decide +kernel)]; exact ⟨rfl, rfl⟩))
    (fun os started H enc _ => lifted_FnLineGlue os started H enc)
end Go.Proofs.Ytmolkppdfbldnaa

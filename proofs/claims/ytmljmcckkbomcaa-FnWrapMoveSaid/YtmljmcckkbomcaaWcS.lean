/- What given lines of words cost, in the model. -/
import Derived.Test.YtmljmcckkbomcaaWc
namespace Go.Proofs.Ytmljmcckkbomcaa
open Go.ChangeShapes Go.WideShapes Go.ChangeAt Go.RowKit
set_option linter.unusedVariables false
set_option linter.unusedSimpArgs false
open Classical

theorem toO_bad {s : Int} {E : List Int} {C : Nat → Int → Int → Int × Bool} {k : Nat} (hk : k < E.length) (h : (C k (frm s E k) (ng E k)).2 = false) : toO s E C = (0, false) :=
  toO_no fun x => by rw [x k hk] at h; cases h
theorem wc_bad {l : List ByteArray} {wd : Int} {E : List Int} (h : ve E l.length = true → toO 0 E (fun _ f t => cW l wd f t) = (0, false)) : wcO l wd E = (0, false) := by
  cases q : (wok l && inB wd 20 60 && ve E l.length)
  · exact wcO_no q
  · rw [wcO_yes q]
    exact h (by have := (Bool.and_eq_true _ _).mp q; exact this.2)
/-- The sum of the costs of the first k lines. -/
def wS (l : List ByteArray) (wd : Int) (E : List Int) (k : Nat) : Int := sto (fun j => (cW l wd (frm 0 E j) (ng E j)).1) k
theorem wS_bd {l : List ByteArray} {wd : Int} (hw : wd ≤ 60) (E : List Int) (k : Nat) : -(8000000000 * k) ≤ wS l wd E k ∧ wS l wd E k ≤ 8000000000 * k := sto_bd fun j _ => cW_bd hw _ _
set_option maxRecDepth 8000 in
set_option maxHeartbeats 2000000 in
theorem WrapCost_s (w : World) (A B : Option Addr) (n c m d : Nat) (l : List ByteArray) (wd : Int) (E : List Int) (ha : SL w A n l) (hc : n ≤ c) (hs : ∀ k, k < l.length → (sg l k).size ≤ 1048576) (hn : n ≤ 1048576) (hE : IL w B m E) (hm : m ≤ 1048576) :
    Calls Try.prog 17 #[.slice A n c, .int .i64 wd, .slice B m d] w fun e w' => e = .returned (.tuple #[.int .i64 (wcO l wd E).1, .bool (wcO l wd E).2]) ∧ ∃ j, w.drewN j = w' := by
  obtain rfl : n = l.length := ha.1
  obtain rfl : m = E.length := hE.1
  have VW := hide (fun (k : Nat) => validWords_s (w.drewN k) A l.length c l (ha.drewN k) hs (by omega))
  have HA := hide ha
  have HE := hide hE
  clear ha hE hs
  cases qa : wok l
  · have O := hide (wcO_no (l := l) (wd := wd) (E := E) (by rw [qa]; rfl))
    have V0 := hide (VW.out 0)
    rw [qa] at V0
    rw [O.out]
    clear VW
    go_enter Try.func17, Try.ntmps17
    go_wp2_with (go_at_call 47; refine (V0.out).mono ?_; rintro e w' ⟨rfl, rfl⟩)
    go_ret2
    exact ⟨rfl, 0, rfl⟩
  rw [qa] at VW
  cases qb : inB wd 20 60
  · have O := hide (wcO_no (l := l) (wd := wd) (E := E) (by rw [qb]; simp))
    have V0 := hide (VW.out 0)
    rw [O.out]
    clear VW
    go_enter Try.func17, Try.ntmps17
    go_wp2_with first | (go_at_call 47; refine (V0.out).mono ?_; rintro e w' ⟨rfl, rfl⟩) | (go_at_call 48; refine (inRange_any _ _ _ _).mono ?_; rintro e w' ⟨rfl, rfl⟩)
    go_ret2
    exact ⟨rfl, 0, rfl⟩
  have V0 := hide (VW.out 0)
  have hwk := wok_iff.1 qa
  have hwd := inB_iff.1 qb
  obtain ⟨w0, w6⟩ := hwd
  have hl := hwk.2
  have JN := hide (fun (k f t b o d : Nat) (h : SL w (some ⟨b, o, none⟩) l.length l) (hft : f ≤ t) (ht : t ≤ l.length) => joined_s (w.drewN k) (some ⟨b, o + f, none⟩) (t - f) d _ ((h.sub (f := f) (t := t) hft ht).drewN k) (WTo.sub hwk.1 ht) (by rw [sub_len ht]; omega))
  have BAD := hide (fun (h : ve E l.length = true → toO 0 E (fun _ f t => cW l wd f t) = (0, false)) => wc_bad (l := l) (wd := wd) (E := E) h)
  have YES := hide (fun (h : ve E l.length = true) => wcO_yes (l := l) (wd := wd) (E := E) (by rw [qa, qb, h]; rfl))
  have RB := hide (fun (f t : Nat) (ht : t ≤ l.length) => rs_bd (wd := wd) (f := f) hwk ht)
  have SB := hide (fun (k : Nat) => wS_bd (l := l) w6 E k)
  obtain ⟨W, hW⟩ : ∃ W, W = wcO l wd E := ⟨_, rfl⟩
  rw [← hW] at BAD YES ⊢
  clear VW hwk qa hW
  go_enter Try.func17, Try.ntmps17
  go_wp2_with first | (go_at_call 47; refine (V0.out).mono ?_; rintro e w' ⟨rfl, rfl⟩) | (go_at_call 48; refine (inRange_any _ _ _ _).mono ?_; rintro e w' ⟨rfl, rfl⟩)
  clear qb V0
  go_loopw [8, 9, 10] (fun su fr i u => ∃ (k f : Nat), k ≤ E.length ∧ i = .int .i64 k ∧ fr = .int .i64 f ∧ frm 0 E k = f ∧ f ≤ l.length ∧ su = .int .i64 (wS l wd E k) ∧ AscTo E k ∧ okT 0 E (fun _ f t => cW l wd f t) k ∧ ∃ j, w.drewN j = u) (fun _ _ i _ => E.length - (intOf i).toNat)
  case atStart => exact ⟨0, 0, by omega, rfl, rfl, rfl, by omega, rfl, AscTo.zero _, fun j hj => by omega, 0, rfl⟩
  case round =>
    obtain ⟨k, f, hk, rfl, rfl, hfr, hfl, rfl, has, hok, j, rfl⟩ := hrel
    have sb := SB.out k
    by_cases hlt : k < E.length
    · obtain ⟨b, o, rfl, hb0, c0⟩ := HE.out.at_ hlt
      have ST := hide (fun h => AscTo.step has h)
      have VB := hide (fun h => ve_bad (l := E) (n := l.length) hlt h)
      have TB := hide (fun h => toO_bad (s := 0) (E := E) (C := fun _ f t => cW l wd f t) hlt h)
      have OS := hide (fun (h : (cW l wd (frm 0 E k) (ng E k)).2 = true) => show okT 0 E (fun _ f t => cW l wd f t) (k + 1) from fun i hi => by
        rcases (by omega : i < k ∨ i = k) with e | e
        · exact hok i e
        · rw [e]; exact h)
      have SS := hide (show wS l wd E (k + 1) = wS l wd E k + (cW l wd (frm 0 E k) (ng E k)).1 from rfl)
      have FS := hide (frm_succ 0 E k)
      rw [pv_frm] at ST VB
      rw [hfr] at ST VB TB OS SS
      obtain ⟨y, hy⟩ : ∃ y, y = ng E k := ⟨_, rfl⟩
      rw [← hy] at c0 ST VB TB OS SS FS
      obtain ⟨z, hz⟩ : ∃ z, z = wS l wd E k := ⟨_, rfl⟩
      rw [← hz] at SS sb ⊢
      clear hy hz has hok hfr
      rcases (by omega : y ≤ f ∨ (f : Int) < y ∧ (l.length : Int) < y ∨ (f : Int) < y ∧ y ≤ l.length) with q | ⟨q, q1⟩ | ⟨q, q1⟩
      · have O := hide (BAD.out (fun h => by rw [VB.out (.inl q)] at h; cases h))
        clear BAD YES VB TB OS SS ST JN
        go_wp2
        go_ret2
        exact ⟨by rw [O.out]; rfl, _, rfl⟩
      · have O := hide (BAD.out (fun h => by rw [VB.out (.inr q1)] at h; cases h))
        clear BAD YES VB TB OS SS ST JN
        go_wp2
        go_ret2
        exact ⟨by rw [O.out]; rfl, _, rfl⟩
      · obtain ⟨t, rfl⟩ : ∃ t : Nat, y = t := ⟨y.toNat, by omega⟩
        have hft : f < t := by omega
        have htl : t ≤ l.length := by omega
        obtain ⟨b', o', rfl, hb0', c0'⟩ := HA.out.at_ (i := 0) (by omega)
        have J := fun (k d : Nat) => JN.out k f t b' o' d HA.out (by omega) htl
        have rb := RB.out f t htl
        have NO := hide (cW_no (l := l) (wd := wd) (f := f) (t := t))
        have LA := hide (cW_last (l := l) (wd := wd) hft)
        have MI := hide (cW_mid (l := l) (wd := wd) hft)
        have sl := sub_len (l := l) (f := f) htl
        have rq : wd - (((sub l f t).length - 1 + sm (sub l f t) (sub l f t).length : Nat) : Int) = rs l wd f t := by unfold rs; omega
        obtain ⟨r, hr⟩ : ∃ r, r = rs l wd f t := ⟨_, rfl⟩
        obtain ⟨jn, hj⟩ : ∃ jn, jn = (sub l f t).length - 1 + sm (sub l f t) (sub l f t).length := ⟨_, rfl⟩
        rw [← hr] at NO LA MI rb rq
        rw [← hj] at rq J
        have HJ := hide J
        have RQ := hide rq
        have jb : jn ≤ 1000 := by omega
        have g1 : f ≤ t := by omega
        have g2 : t ≤ c := by omega
        have g3 : ¬ c = f := by omega
        have CAST : ((t : Int) - (f : Int)) = ((t - f : Nat) : Int) := by omega
        clear JN RB VB hr hj rq J sl c0'
        rcases (by omega : r < 0 ∨ 0 ≤ r ∧ t = l.length ∨ 0 ≤ r ∧ t < l.length) with p | ⟨p, p1⟩ | ⟨p, p1⟩
        · have O := hide (BAD.out (fun _ => TB.out (by rw [NO.out p])))
          have p2 : wd - (jn : Int) < 0 := by have := RQ.out; omega
          clear BAD YES TB OS SS ST NO LA MI
          go_wp2_with fail
          (with_reducible refine (HJ.out _ _).mono ?_)
          rintro e w' ⟨rfl, rfl⟩
          go_wp2
          go_ret2
          exact ⟨by rw [O.out]; rfl, _, rfl⟩
        · have E1 := hide (LA.out p p1)
          have OS1 := hide (OS.out (by rw [E1.out]))
          have SS1 := hide (show wS l wd E (k + 1) = z by rw [SS.out, E1.out]; simp)
          have ST1 := hide (ST.out q)
          have p2 : 0 ≤ wd - (jn : Int) := by have := RQ.out; omega
          have q2 : ¬ (t : Int) < (l.length : Int) := by omega
          clear BAD YES TB OS SS ST NO LA MI p1
          go_wp2_with fail
          (with_reducible refine (HJ.out _ _).mono ?_)
          rintro e w' ⟨rfl, rfl⟩
          go_wp2
          go_roundw
          case rel => exact ⟨k + 1, t, by omega, by go_num, rfl, FS.out, htl, by rw [SS1.out], ST1.out, OS1.out, _, rfl⟩
          case measure => simp [intOf]; omega
        · have E1 := hide (MI.out p p1)
          have OS1 := hide (OS.out (by rw [E1.out]))
          have SS1 := hide (show wS l wd E (k + 1) = z + r * r by rw [SS.out, E1.out])
          have ST1 := hide (ST.out q)
          have sq := sq_bd p (by omega)
          have RQ1 := RQ.out
          clear BAD YES TB OS SS ST NO LA MI
          go_wp2_with fail
          (with_reducible refine (HJ.out _ _).mono ?_)
          rintro e w' ⟨rfl, rfl⟩
          go_wp2
          go_roundw
          case rel => exact ⟨k + 1, t, by omega, by go_num, rfl, FS.out, htl, by rw [SS1.out], ST1.out, OS1.out, _, rfl⟩
          case measure => simp [intOf]; omega
    · obtain rfl : k = E.length := by omega
      have VA := hide (ve_all (l := E) (n := l.length) has)
      unfold lst at VA
      rw [pv_frm, hfr] at VA
      rcases (by omega : f = l.length ∨ f < l.length) with q | q
      · have O := hide (YES.out (by rw [VA.out, q]; simp))
        have T := hide (toO_yes hok)
        have O := hide (O.out.trans T.out)
        obtain ⟨z, hz⟩ : ∃ z, z = wS l wd E E.length := ⟨_, rfl⟩
        have hz' : (sto (fun j => (cW l wd (frm 0 E j) (ng E j)).1) E.length) = z := hz.symm
        rw [← hz] at sb ⊢
        clear BAD YES VA hfr has hok
        go_wp2
        go_ret2
        exact ⟨by rw [O.out, hz']; rfl, _, rfl⟩
      · have O := hide (BAD.out (fun h => by rw [VA.out] at h; have := of_decide_eq_true h; omega))
        have q2 : ((f : Int) == (l.length : Int)) = false := beq_eq_false_iff_ne.2 (by omega)
        clear BAD YES VA hfr has hok
        go_wp2
        go_ret2
        exact ⟨by rw [O.out]; rfl, _, rfl⟩
end Go.Proofs.Ytmljmcckkbomcaa

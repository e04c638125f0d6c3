/- LevelsOf and ShowText of the model. -/
import Derived.Test.YteoiphjkkcjddaaLvS
namespace Go.Proofs.Yteoiphjkkcjddaa
open Go.ChangeShapes Go.WideShapes Go.ChangeAt Go.RowKit
set_option linter.unusedVariables false

set_option maxHeartbeats 1000000 in
theorem LevelsOf_s (s : ByteArray) (b : Int) (w : World) (hs : s.size ≤ 4611686018427387904) :
    Calls Try.prog 17 #[.string s, .int .i64 b] w fun e w' => ∃ A c, e = .returned (.slice A (lvO s.data.toList b).length c) ∧ OL w' 3 w.heap.size A c (lvO s.data.toList b) ∧ Below w.heap.size w w' := by
  cases q : okT s.data.toList
  · have E := hide (lvO_no (s := s.data.toList) (b := b) (.inl q))
    go_enter Try.func17, Try.ntmps17
    go_wp2_with (go_at_call 36; refine (validText_s _ _ hs).mono ?_; rintro e w' ⟨rfl, rfl⟩)
    go_ret
    rw [E.out]
    exact ⟨none, 0, rfl, OL.nil _ _ _, bl_refl _⟩
  · cases q2 : inB b 0 1
    · have E := hide (lvO_no (s := s.data.toList) (b := b) (.inr q2))
      go_enter Try.func17, Try.ntmps17
      go_wp2_with (first | (go_at_call 36; refine (validText_s _ _ hs).mono ?_; rintro e w' ⟨rfl, rfl⟩) | (go_at_call 37; refine (inRange_any _ _ _ _).mono ?_; rintro e w' ⟨rfl, rfl⟩))
      go_ret
      rw [E.out]
      exact ⟨none, 0, rfl, OL.nil _ _ _, bl_refl _⟩
    · have E := hide (lvO_yes (s := s.data.toList) (b := b) q q2)
      have hb := inB_iff.1 q2
      have hlen : s.size ≤ 60 := by have := (okT_iff.1 q).1; rwa [txt_len] at this
      have RC := levelsOf_s s b w hb hlen
      rw [← E.out] at RC
      obtain ⟨T, hT⟩ : ∃ T, T = lvO s.data.toList b := ⟨_, rfl⟩
      rw [← hT] at RC ⊢
      have RC := hide RC
      clear hT E
      go_enter Try.func17, Try.ntmps17
      go_wp2_with (first | (go_at_call 36; refine (validText_s _ _ hs).mono ?_; rintro e w' ⟨rfl, rfl⟩) | (go_at_call 37; refine (inRange_any _ _ _ _).mono ?_; rintro e w' ⟨rfl, rfl⟩) | fail)
      (with_reducible refine RC.out.mono ?_)
      rintro e u1 ⟨A, c, rfl, ho, hb1⟩
      go_wp2
      go_ret
      exact ⟨A, c, rfl, ho, hb1⟩
/-- append of one byte, and where the slice then lies. -/
theorem wpList_append_byte_at {P : Program} {ops : Array Oper} {rest : List Oper} {o : Oper} {a : Act} {Q : Exit → Act → World → Prop} {w : World} (hgd : o.guard = none) (s x : Operand) (t : TypeId)
    (ho : o.op = .call { callee := .builtin .append, args := #[s, x], argTypes := #[t, t] })
    (e : TypeId) (i : TypeInfo) (ht : P.underlying t = some (.slice e)) (hi : P.info? e = some i) (hz : i.zero = some (.int .u8 0)) (hsize : i.size = 1) (hby : i.bytes = 1)
    (B : Nat) (A : Option Addr) (c n : Nat) (l : List UInt8) (hs : a.eval s = .slice A n c) (hn : n = l.length) (hown : OB w e B A c l)
    (b : Nat) (z : UInt8) (hx : a.eval x = .slice (some ⟨b, 0, none⟩) 1 1) (hc : w.cell? ⟨b, 0, none⟩ = some (bv z)) (hlen : n ≤ 1000000000000) (hB : B ≤ w.heap.size)
    (h : ∀ A' c' w', OB w' e B A' c' (l ++ [z]) → Below B w w' → w.grownBy w' (Value.slice A n c).ownBlock → ((Value.slice A' (n + 1) c').ownBlock = (Value.slice A n c).ownBlock ∨ (Value.slice A' (n + 1) c').ownBlock = some w.heap.size) → wpList P ops Q rest (a.put o.dst (.slice A' (n + 1) c')) w') : wpList P ops Q (o :: rest) a w := by
  subst hn
  refine wpList_append_own_at w hgd s x t ho B e i (.int .u8 0) 1 1 ht hi hz hsize hby rfl (by decide) _ l.length (l.map bv) hs hown ⟨b, 0, none⟩ 1 1 [(bv z)] hx rfl ?_ ?_ (by unfold maxLen; omega) (by omega) hB ?_
  · intro j u hj
    match j, hj with
    | 0, hj => simp at hj; subst hj; simpa [Addr.add] using hc
  · intro u hu; simp at hu; subst hu; rfl
  · intro v' w' hown' hgr _ hat
    obtain ⟨A', c', rfl, hl, hol⟩ := OB.of_own (l := l ++ [z]) hown' (by simp)
    exact h A' c' w' hol ((Below.refl _ _).grown hgr hB (fun k hk => (hown.own_lt k hk).1)) hgr hat
theorem shO_no {s : List UInt8} {b : Int} (h : okT s = false ∨ okB b = false) : shO s b = [] := by
  rw [shO, lvO_no h, ordO_nil]; rfl
theorem lvO_okL {s : List UInt8} {b : Int} (h1 : okT s = true) (h2 : 0 ≤ b ∧ b ≤ 1) : okL (lvL s b) = true := by
  refine okL_iff.2 ⟨by rw [lvL_len]; exact (okT_iff.1 h1).1, fun j hj => ?_⟩
  have := lvL_ok (s := s) (b := b) h2 (j := j) (by rwa [lvL_len] at hj)
  exact ⟨this.1, by have := this.2.1; omega⟩

set_option maxHeartbeats 1000000 in
theorem ShowText_s (s : ByteArray) (b : Int) (w : World) (hs : s.size ≤ 4611686018427387904) :
    Calls Try.prog 25 #[.string s, .int .i64 b] w fun e w' => e = .returned (.string ⟨(shO s.data.toList b).toArray⟩) ∧ Below w.heap.size w w' := by
  cases q : okT s.data.toList
  · have E := hide (shO_no (s := s.data.toList) (b := b) (.inl q))
    go_enter Try.func25, Try.ntmps25
    go_wp2_with (go_at_call 36; refine (validText_s _ _ hs).mono ?_; rintro e w' ⟨rfl, rfl⟩)
    go_ret
    rw [E.out]
    exact ⟨rfl, bl_refl _⟩
  · cases q2 : inB b 0 1
    · have E := hide (shO_no (s := s.data.toList) (b := b) (.inr q2))
      go_enter Try.func25, Try.ntmps25
      go_wp2_with (first | (go_at_call 36; refine (validText_s _ _ hs).mono ?_; rintro e w' ⟨rfl, rfl⟩) | (go_at_call 37; refine (inRange_any _ _ _ _).mono ?_; rintro e w' ⟨rfl, rfl⟩))
      go_ret
      rw [E.out]
      exact ⟨rfl, bl_refl _⟩
    · have E := lvO_yes (s := s.data.toList) (b := b) q q2
      have hb := inB_iff.1 q2
      have hlen : s.size ≤ 60 := by have := (okT_iff.1 q).1; rwa [txt_len] at this
      have hl := shO_len s.data.toList b
      have hin := fun p => shO_in (s := s.data.toList) (b := b) (p := p)
      have hnx := fun p k => sh_next (s := s.data.toList) (b := b) (p := p) (k := k)
      have hok := lvO_okL (s := s.data.toList) (b := b) q hb
      rw [← E] at hok
      have RL := fun (u : World) => levelsOf_s s b u hb hlen
      rw [← E] at RL
      obtain ⟨L, hL⟩ : ∃ L, L = lvO s.data.toList b := ⟨_, rfl⟩
      obtain ⟨S, hS⟩ : ∃ S, S = shO s.data.toList b := ⟨_, rfl⟩
      rw [← hL] at hl hok
      simp only [← hL] at RL
      simp only [← hL, ← hS] at hin hnx
      rw [← hS] at hl ⊢
      obtain ⟨k1, k2⟩ := okL_iff.1 hok
      have RO := fun (u : World) (A : Option Addr) (c : Nat) (h : IL u A L.length L) => reorder_s u A L.length c L h k1 k2
      have EO := ordO_yes hok
      rw [← EO] at RO
      obtain ⟨O, hO⟩ : ∃ O, O = ordO L := ⟨_, rfl⟩
      rw [← hO] at hl RO
      simp only [← hO] at hin hnx
      have ho6 : O.length ≤ 60 := by rw [hO]; exact ordO_len L
      have RL := hide RL
      have RO := hide RO
      have HIN := hide hin
      have HNX := hide hnx
      have HSL := hide hl
      obtain ⟨ib, hib, kz0, kz1, kz2⟩ := info_parts u8_info
      clear hL hS hO hin hnx hl k2 hok EO E
      go_enter Try.func25, Try.ntmps25
      go_wp2_with (first | (go_at_call 36; refine (validText_s _ _ hs).mono ?_; rintro e w' ⟨rfl, rfl⟩) | (go_at_call 37; refine (inRange_any _ _ _ _).mono ?_; rintro e w' ⟨rfl, rfl⟩) | fail)
      (with_reducible refine (RL.out _).mono ?_)
      rintro e u1 ⟨A1, c1, rfl, ho1, hb1⟩
      go_wp2_with fail
      (with_reducible refine (RO.out _ _ _ ho1.reads).mono ?_)
      rintro e u2 ⟨A2, c2, rfl, ho2, hb2⟩
      have hb0 : Below w.heap.size w (w.alloc (.cells #[] 5)) := bl_alloc (bl_refl _) _
      have hb3 := hide (bl_call hb2 (bl_call hb1 hb0))
      have HO := hide ho2
      have AP0 : Hid (∀ k, (Value.slice (some ⟨w.heap.size, 0, none⟩) 0 0).ownBlock = some k → (Value.slice A2 O.length c2).ownBlock ≠ some k) := hide (fun k hk e => by
        have h1 := (ho2.own_lt k e).1
        have h2 := hb1.size
        simp [Value.ownBlock] at hk
        simp at h2
        omega)
      have z1 := hb1.size
      have z2 := hb2.size
      have OB0 : OB (w.alloc (.cells #[] 5)) 5 w.heap.size (some ⟨w.heap.size, 0, none⟩) 0 [] := by
        have := OB.lit (w := w) (e := 5) (B := w.heap.size) (Nat.le_refl _) [] (by simp)
        simpa using this
      have OB0 := hide ((OB0.below hb1).below hb2)
      simp at z1
      clear ho1 hb1 ho2 hb2 hb0
      go_wp2
      go_loopw [5, 7] (fun o i u => ∃ (p : Nat) (A' : Option Addr) (c' : Nat), p ≤ O.length ∧ o = .slice A' p c' ∧ i = .int .i64 p ∧ OB u 5 w.heap.size A' c' (S.take p) ∧ OL u 3 u1.heap.size A2 c2 O ∧ (∀ k, (Value.slice A' p c').ownBlock = some k → (Value.slice A2 O.length c2).ownBlock ≠ some k) ∧ Below w.heap.size w u) (fun _ i _ => O.length - (intOf i).toNat)
      case atStart => exact ⟨0, _, _, by omega, rfl, rfl, OB0.out, HO.out, AP0.out, hb3.out⟩
      case round =>
        obtain ⟨p, A0, c0, hp, rfl, rfl, hob, hol, hap, hbl⟩ := hrel
        have hz : w.heap.size ≤ wr.heap.size := hbl.size
        have hSp : p = (S.take p).length := by rw [List.length_take, HSL.out]; omega
        have HSP := hide hSp
        have HOL := hide hol
        have HAP := hide hap
        clear hSp hap
        by_cases hlt : p < O.length
        · obtain ⟨bb, o, rfl, hbv, hc⟩ := hol.reads.at_ hlt
          obtain ⟨y0, y1⟩ := HIN.out p hlt
          obtain ⟨y, hy⟩ : ∃ y, y = ng O p := ⟨_, rfl⟩
          rw [← hy] at hc y0 y1
          obtain ⟨k, rfl⟩ := Int.eq_ofNat_of_zero_le y0
          have hk : k < s.size := by rw [txt_len] at y1; omega
          have N1 := HNX.out p k hlt hy.symm
          rw [bg_at hk] at N1
          have N1 := hide N1
          clear hy y0 y1 hol
          go_wp2_with (at_builtin; refine wpList_append_byte_at rfl (.tmp 27) (.tmp 34) _ rfl 5 ib Try.underlying30 hib kz0 kz1 kz2 (w.heap.size) A0 c0 p (S.take p) rfl (HSP.out) (hob.alloc _) wr.heap.size s[k] rfl (by simp) (by omega) (by simp; omega) ?_; intro A' c' w' hol' hb' hg' hat')
          rw [N1.out] at hol'
          have O2 := hide ((HOL.out.alloc _).kept hg' (fun k hk e => HAP.out k e hk))
          have A2 := hide (fun k hk e => by
            rcases hat' with h | h
            · rw [h] at hk; exact HAP.out k hk e
            · rw [h] at hk
              injection hk with hk
              have := (HOL.out.own_lt k e).2
              simp at hk
              omega : ∀ k, (Value.slice A' (p + 1) c').ownBlock = some k → (Value.slice (some ⟨bb, o, none⟩) O.length c2).ownBlock ≠ some k)
          go_roundw
          case rel => exact ⟨p + 1, A', c', by omega, rfl, by go_num, hol', O2.out, A2.out, (bl_alloc hbl _).trans hb'⟩
          case measure => simp [intOf]; omega
        · have e : S.take p = S := List.take_of_length_le (by rw [HSL.out]; omega)
          rw [e] at hob
          have hcv := conv_any hob
          have hpl : S.length = p := by rw [HSL.out]; omega
          rw [hpl] at hcv
          have HB := hide hbl
          clear hob hbl e hpl hol
          go_wp2
          go_ret
          exact ⟨rfl, HB.out⟩
end Go.Proofs.Yteoiphjkkcjddaa

/- Levels of texts in the program. -/
import Derived.Test.YteoiphjkkcjddaaLvM
import Derived.Test.YteoiphjkkcjddaaWord
import Derived.Test.YteoiphjkkcjddaaDrawI
import Derived.Test.YteoiphjkkcjddaaApp
namespace Go.Proofs.Yteoiphjkkcjddaa
open Go.ChangeShapes Go.WideShapes Go.ChangeAt Go.RowKit
set_option linter.unusedVariables false

theorem bg_at {s : ByteArray} {k : Nat} (h : k < s.size) : bg s.data.toList k = s[k] := by
  rw [bg_lt (by simpa using h)]; rfl
theorem txt_len (s : ByteArray) : s.data.toList.length = s.size := by simp
def TTo (s : ByteArray) (p : Nat) : Prop := ∀ j, j < p → 32 ≤ (bg s.data.toList j).toNat ∧ (bg s.data.toList j).toNat ≤ 126
theorem TTo.step {s : ByteArray} {p : Nat} (h : TTo s p) (hp : p < s.size) (h0 : 32 ≤ s[p].toNat) (h1 : s[p].toNat ≤ 126) : TTo s (p + 1) := fun j hj => by
  rcases (by omega : j < p ∨ j = p) with e | rfl
  · exact h j e
  · rw [bg_at hp]; exact ⟨h0, h1⟩
theorem okT_bad {s : ByteArray} {p : Nat} (hp : p < s.size) (h : ¬ (32 ≤ s[p].toNat ∧ s[p].toNat ≤ 126)) : okT s.data.toList = false := by
  rw [Bool.eq_false_iff]
  intro k
  have := (okT_iff.1 k).2 p (by rw [txt_len]; exact hp)
  rw [bg_at hp] at this
  exact h this
theorem okT_long {s : ByteArray} (h : 60 < s.size) : okT s.data.toList = false := by
  rw [Bool.eq_false_iff]
  intro k
  have := (okT_iff.1 k).1
  rw [txt_len] at this
  omega
theorem okT_all {s : ByteArray} (h : s.size ≤ 60) (ht : TTo s s.size) : okT s.data.toList = true := okT_iff.2 ⟨by rw [txt_len]; exact h, fun j hj => ht j (by rwa [txt_len] at hj)⟩

theorem validText_i (s : ByteArray) (w : World) (hs : s.size ≤ 4611686018427387904) :
    Calls Try.prog 39 #[.string s] w fun e w' => e = .returned (.bool (okT s.data.toList)) ∧ w = w' := by
  rcases (by omega : 60 < s.size ∨ s.size ≤ 60) with hlen | hlen
  · have E := hide (okT_long hlen)
    go_enter Try.func39, Try.ntmps39
    go_wp2
    go_ret
    exact ⟨bool_ret E.out.symm, rfl⟩
  · go_enter Try.func39, Try.ntmps39
    go_wp2
    go_loop [9] (fun i => ∃ p : Nat, p ≤ s.size ∧ i = .int .i64 p ∧ TTo s p) (fun i => s.size - (intOf i).toNat)
    case atStart => exact ⟨0, by omega, rfl, fun j hj => by omega⟩
    case round =>
      obtain ⟨p, hp, rfl, ht⟩ := hrel
      have HT := hide ht
      clear ht
      by_cases hlt : p < s.size
      · rcases (by omega : s[p].toNat < 32 ∨ (32 ≤ s[p].toNat ∧ 126 < s[p].toNat) ∨ (32 ≤ s[p].toNat ∧ s[p].toNat ≤ 126)) with h | ⟨h, k⟩ | ⟨h, k⟩
        · have E := hide (okT_bad hlt (by omega))
          go_wp2
          go_ret
          exact ⟨bool_ret E.out.symm, rfl⟩
        · have E := hide (okT_bad hlt (by omega))
          go_wp2
          go_ret
          exact ⟨bool_ret E.out.symm, rfl⟩
        · have M := hide (HT.out.step hlt h k)
          go_wp2
          go_round
          case rel => exact ⟨p + 1, by omega, by go_num, M.out⟩
          case measure => simp [intOf]; omega
      · have E := hide (okT_all hlen (by rw [show s.size = p by omega]; exact HT.out))
        go_wp2
        go_ret
        exact ⟨bool_ret E.out.symm, rfl⟩

theorem validText_s (s : ByteArray) (w : World) (hs : s.size ≤ 4611686018427387904) :
    Calls Try.prog 36 #[.string s] w fun e w' => e = .returned (.bool (okT s.data.toList)) ∧ w = w' := by
  go_enter Try.func36, Try.ntmps36
  go_wp2
  go_loop [3] (fun i => ∃ p : Nat, p ≤ s.size ∧ i = .int .i64 p ∧ TTo s p) (fun i => s.size - (intOf i).toNat)
  case atStart => exact ⟨0, by omega, rfl, fun j hj => by omega⟩
  case round =>
    obtain ⟨p, hp, rfl, ht⟩ := hrel
    have HT := hide ht
    clear ht
    by_cases hlt : p < s.size
    · rcases (by omega : s[p].toNat < 32 ∨ (32 ≤ s[p].toNat ∧ 126 < s[p].toNat) ∨ (32 ≤ s[p].toNat ∧ s[p].toNat ≤ 126)) with h | ⟨h, k⟩ | ⟨h, k⟩
      · have E := hide (okT_bad hlt (by omega))
        go_wp2
        go_ret
        exact ⟨bool_ret E.out.symm, rfl⟩
      · have E := hide (okT_bad hlt (by omega))
        go_wp2
        go_ret
        exact ⟨bool_ret E.out.symm, rfl⟩
      · have M := hide (HT.out.step hlt h k)
        go_wp2
        go_round
        case rel => exact ⟨p + 1, by omega, by go_num, M.out⟩
        case measure => simp [intOf]; omega
    · rcases (by omega : 60 < s.size ∨ s.size ≤ 60) with hlen | hlen
      · have E := hide (okT_long hlen)
        go_wp2
        go_ret
        exact ⟨bool_ret (by rw [E.out]; simp; omega), rfl⟩
      · have E := hide (okT_all hlen (by rw [show s.size = p by omega]; exact HT.out))
        go_wp2
        go_ret
        exact ⟨bool_ret (by rw [E.out]; simp; omega), rfl⟩

theorem isCapital_i (z : Int) (w : World) (h0 : 0 ≤ z) (h1 : z ≤ 255) :
    Calls Try.prog 53 #[.int .u8 z] w fun e w' => e = .returned (.bool (inB z 65 90)) ∧ w = w' := by
  by_cases h2 : 65 ≤ z <;> by_cases h3 : z ≤ 90
  all_goals
    go_enter Try.func53, Try.ntmps53
    go_wp2
    go_ret
    exact ⟨bool_ret (by simp [inB, *]), rfl⟩
theorem isDigit_i (z : Int) (w : World) (h0 : 0 ≤ z) (h1 : z ≤ 255) :
    Calls Try.prog 56 #[.int .u8 z] w fun e w' => e = .returned (.bool (inB z 48 57)) ∧ w = w' := by
  by_cases h2 : 48 ≤ z <;> by_cases h3 : z ≤ 57
  all_goals
    go_enter Try.func56, Try.ntmps56
    go_wp2
    go_ret
    exact ⟨bool_ret (by simp [inB, *]), rfl⟩

/-- The reader of levels at block g: its base, the levels read so far, the last one, the level of digits, how many characters wait. -/
def LR (w : World) (e : TypeId) (B g : Nat) (b : Int) (L : List Int) (be d : Int) (n : Nat) : Prop :=
  B ≤ g ∧ g < w.heap.size ∧ (∀ i, w.frozen? ⟨g, i, none⟩ = false) ∧
  w.cell? ⟨g, 0, none⟩ = some (.int .i64 b) ∧ w.cell? ⟨g, 2, none⟩ = some (.int .i64 be) ∧ w.cell? ⟨g, 3, none⟩ = some (.int .i64 d) ∧ w.cell? ⟨g, 4, none⟩ = some (.int .i64 n) ∧
  ∃ A c, w.cell? ⟨g, 1, none⟩ = some (.slice A L.length c) ∧ OL w e B A c L ∧ (∀ k, (Value.slice A L.length c).ownBlock = some k → ¬ g = k)

section
variable {w w' : World} {e : TypeId} {B g n : Nat} {b be d : Int} {L : List Int}
theorem frz {w : World} {g : Nat} (h : ∀ i, w.frozen? ⟨g, i, none⟩ = false) (q : Addr) (v : Value) : ∀ i, (w.setCell q v).frozen? ⟨g, i, none⟩ = false := fun i => by simp [h i]
/-- A store to one of the reader's own fields, but its levels. -/
theorem LR.put (h : LR w e B g b L be d n) {i : Nat} (hi : i < 5) (v : Value) (x : Int) (hv : v = .int .i64 x) (be' d' : Int) (n' : Nat) (hne : i ≠ 0 ∧ i ≠ 1) (h2 : be' = if i = 2 then x else be) (h3 : d' = if i = 3 then x else d) (h4 : (n' : Int) = if i = 4 then x else n) : LR (w.setCell ⟨g, i, none⟩ v) e B g b L be' d' n' := by
  obtain ⟨hB, hg, hf, c0, c2, c3, c4, A, c, c1, ho, hne2⟩ := h
  have ot : ∀ j, j ≠ i → (w.setCell ⟨g, i, none⟩ v).cell? ⟨g, j, none⟩ = w.cell? ⟨g, j, none⟩ := fun j hj => World.cell?_setCell_other w _ _ _ (by simp; try omega)
  have sm : ∀ u, w.cell? ⟨g, i, none⟩ = some u → (w.setCell ⟨g, i, none⟩ v).cell? ⟨g, i, none⟩ = some v := fun u hu => World.cell?_setCell_same w _ _ hu
  refine ⟨hB, by simpa using hg, frz hf _ _, (ot 0 (by omega)).trans c0, ?_, ?_, ?_, A, c, (ot 1 (by omega)).trans c1, ?_, hne2⟩
  · by_cases k : i = 2
    · subst k; rw [sm _ c2, hv, h2, if_pos rfl]
    · rw [ot 2 (by omega), c2, h2, if_neg k]
  · by_cases k : i = 3
    · subst k; rw [sm _ c3, hv, h3, if_pos rfl]
    · rw [ot 3 (by omega), c3, h3, if_neg k]
  · by_cases k : i = 4
    · subst k; rw [sm _ c4, hv, h4, if_pos rfl]
    · rw [ot 4 (by omega), c4, h4, if_neg k]
  · refine World.ownsRow.kept (row := some g) ho (on_set (on_refl _ _) (.inl rfl) _) ?_
    cases hk : (Value.slice A L.length c).ownBlock with
    | none => exact .inl rfl
    | some k => exact .inr (fun e => hne2 k hk (by injection e with e; exact e.symm))
theorem LR.undrew {k : Nat} (h : LR w e B g b L be d n) : LR (w.drewN k) e B g b L be d n := h
end

theorem LR.app {w u : World} {e : TypeId} {B g n c' : Nat} {A' : Option Addr} {b be d x : Int} {L : List Int} (h : LR w e B g b L be d n) (hc : ∀ i, u.cell? ⟨g, i, none⟩ = w.cell? ⟨g, i, none⟩) (hf : ∀ i, u.frozen? ⟨g, i, none⟩ = false) (hg : g < u.heap.size) (ho : OL u e B A' c' (L ++ [x])) (hne : ∀ k, (Value.slice A' (L.length + 1) c').ownBlock = some k → ¬ g = k) : LR (u.setCell ⟨g, 1, none⟩ (.slice A' (L.length + 1) c')) e B g b (L ++ [x]) be d n := by
  obtain ⟨hB, hgw, hf0, c0, c2, c3, c4, A, c, c1, ho0, hne0⟩ := h
  have ot : ∀ j, j ≠ 1 → (u.setCell ⟨g, 1, none⟩ (.slice A' (L.length + 1) c')).cell? ⟨g, j, none⟩ = w.cell? ⟨g, j, none⟩ := fun j hj => (World.cell?_setCell_other u _ _ _ (by simp; try omega)).trans (hc j)
  refine ⟨hB, by simpa using hg, frz hf _ _, (ot 0 (by omega)).trans c0, (ot 2 (by omega)).trans c2, (ot 3 (by omega)).trans c3, (ot 4 (by omega)).trans c4, A', c', ?_, ?_, ?_⟩
  · rw [World.cell?_setCell_same u _ _ ((hc 1).trans c1), List.length_append]; rfl
  · refine World.ownsRow.kept (row := some g) ho (on_set (on_refl _ _) (.inl rfl) _) ?_
    cases hk : (Value.slice A' (L ++ [x]).length c').ownBlock with
    | none => exact .inl rfl
    | some k => exact .inr (fun e => hne k (by rw [List.length_append] at hk; exact hk) (by injection e with e; exact e.symm))
  · intro k hk
    rw [List.length_append] at hk
    exact hne k hk

theorem keep_g {w w' : World} {o : Obj} {g : Nat} {row : Option Nat} (hg : (w.alloc o).grownBy w' row) (hlt : g < w.heap.size) (hne : ∀ k, row = some k → ¬ g = k) : (∀ i, w'.cell? ⟨g, i, none⟩ = w.cell? ⟨g, i, none⟩) ∧ (∀ i, w'.frozen? ⟨g, i, none⟩ = w.frozen? ⟨g, i, none⟩) ∧ g < w'.heap.size := by
  have h1 : w'.heap[g]? = (w.alloc o).heap[g]? := hg.block g (by simp; omega) (fun e => hne g e.symm rfl)
  have h2 : (w.alloc o).heap[g]? = w.heap[g]? := Below.heap_alloc w o g hlt
  refine ⟨fun i => World.cell?_of_block (h1.trans h2), fun i => World.frozen?_of_block (h1.trans h2), ?_⟩
  have := hg.size
  simp at this
  omega
set_option maxHeartbeats 1000000 in
theorem settle_i (w : World) (B g n : Nat) (b be d bh : Int) (L : List Int) (h : LR w 3 B g b L be d n) (hB : B ≤ w.heap.size) (hb : 0 ≤ b ∧ b ≤ 1) (hbe : 0 ≤ be ∧ be ≤ 2) (hbh : 0 ≤ bh ∧ bh ≤ 2) (hL : L.length + n ≤ 1000) :
    Calls Try.prog 42 #[.pointer (some ⟨g, 0, none⟩), .int .i64 bh] w fun e w' => e = .returned (.tuple #[]) ∧ LR w' 3 B g b (L ++ List.replicate n (stl b be bh)) be d 0 ∧ Below B w w' := by
  have H := hide h
  obtain ⟨hBg, hgw, hf, c0, c2, c3, c4, A, c, c1, ho, hne⟩ := h
  have f1 := hf 1
  have f4 := hf 4
  have e1 : be.tmod 2 = be % 2 := Int.tmod_eq_emod_of_nonneg (by omega)
  have e2 : bh.tmod 2 = bh % 2 := Int.tmod_eq_emod_of_nonneg (by omega)
  obtain ⟨x1, hx1⟩ : ∃ x, x = be % 2 := ⟨_, rfl⟩
  obtain ⟨x2, hx2⟩ : ∃ x, x = bh % 2 := ⟨_, rfl⟩
  obtain ⟨v, hv⟩ : ∃ v, v = stl b be bh := ⟨_, rfl⟩
  rw [← hx1] at e1
  rw [← hx2] at e2
  rw [← hv]
  have w1 : IntKind.i64.wrap x1 = x1 := IntWalk.i64_in _ (by omega)
  have w2 : IntKind.i64.wrap x2 = x2 := IntWalk.i64_in _ (by omega)
  have hvd : v = if (x1 != b) = true ∧ (x2 != b) = true then b + 1 else b := by rw [hv, stl, hx1, hx2]; simp
  obtain ⟨i0, hi0, jz0, jz1, jz2⟩ := info_parts int_info
  clear hf hx1 hx2 c3 ho hne hv
  cases q1 : (x1 != b) <;> cases q2 : (x2 != b)
  all_goals
    rw [q1, q2] at hvd
    simp at hvd
    obtain ⟨V, hV⟩ : ∃ V, V = v := ⟨_, rfl⟩
    rw [← hV]
    rw [hvd] at hV
    have HV := hide hV
    clear hvd hV
    go_enter Try.func42, Try.ntmps42
    go_wp2
    go_quiet (fail)
    have L0 := H.out.undrew (k := nq)
    have B0 : Below B w (w.drewN nq) := ⟨rfl, rfl, rfl, Nat.le_refl _, fun _ _ => rfl⟩
    clear H c0 c1 c2 c4 f1 f4 e1 e2 w1 w2 q1 q2
    have c4 := L0.2.2.2.2.2.2.1
    have f4 := L0.2.2.1 4
    go_wp2
    go_loopw [34] (fun i u => ∃ p : Nat, p ≤ n ∧ i = .int .i64 p ∧ LR u 3 B g b (L ++ List.replicate p V) be d n ∧ Below B w u) (fun i _ => n - (intOf i).toNat)
    case atStart => exact ⟨0, by omega, rfl, by simpa using L0, B0⟩
    case round =>
      obtain ⟨p, hp, rfl, hlr, hbl⟩ := hrel
      clear c4 f4 L0
      by_cases hlt : p < n
      · obtain ⟨M, hM⟩ : ∃ M, M = L ++ List.replicate p V := ⟨_, rfl⟩
        have hMl : M.length ≤ 1000 := by rw [hM]; simp; omega
        have HM := hide hM
        rw [← hM] at hlr
        have H1 := hide hlr
        obtain ⟨_, hgr, hf, _, _, _, _, A1, c1, k1, ho1, hne1⟩ := hlr
        have hBr : B ≤ wr.heap.size := Nat.le_trans hB hbl.size
        have HF := hide hf
        clear hf hM
        go_wp2_with ((at_builtin; refine wpList_append_int_at rfl (.tmp 40) (.tmp 42) _ rfl 3 i0 Try.underlying22 hi0 jz0 jz1 jz2 B A1 c1 M.length M rfl (rfl) (ho1.alloc _) wr.heap.size V rfl (by simp [HV.out]) (by omega) (by simp; omega) ?_; intro A' c' w' hol' hb' hg' hat'); obtain ⟨kc, kf, kg⟩ := keep_g hg' hgr hne1; have kc1 := (kc 1).trans k1; have kf1 := (kf 1).trans (HF.out 1); replace kc := hide kc; replace kf := hide kf)
        have L2 := hide (H1.out.app kc.out (fun i => (kf.out i).trans (HF.out i)) kg hol' (fun k hk => by
          rcases hat' with e | e
          · rw [e] at hk; exact hne1 k hk
          · rw [e] at hk; injection hk with hk; simp at hk; omega))
        have B2 := hide ((hbl.alloc hBr _).trans hb')
        go_roundw
        case rel => exact ⟨p + 1, by omega, by go_num, by rw [show L ++ List.replicate (p + 1) V = M ++ [V] by rw [HM.out]; simp [List.replicate_succ']]; exact L2.out, B2.out.setCell hBg _⟩
        case measure => simp [intOf]; omega
      · have hpn : n = p := by omega
        subst hpn
        have H1 := hide hlr
        have c4 := hlr.2.2.2.2.2.2.1
        have f4 := hlr.2.2.1 4
        have hgr := hlr.2.1
        clear hlr
        go_wp2
        go_end0
        exact ⟨rfl, H1.out.put (by omega) _ 0 rfl be d 0 (by omega) (by simp) (by simp) (by simp), hbl.setCell hBg _⟩

set_option maxHeartbeats 1000000 in
theorem place_i (w : World) (B g n : Nat) (b be d lv : Int) (L : List Int) (h : LR w 3 B g b L be d n) (hB : B ≤ w.heap.size) (hb : 0 ≤ b ∧ b ≤ 1) (hbe : 0 ≤ be ∧ be ≤ 2) (hlv : 0 ≤ lv ∧ lv ≤ 2) (hL : L.length + n ≤ 1000) :
    Calls Try.prog 54 #[.pointer (some ⟨g, 0, none⟩), .int .i64 lv] w fun e w' => e = .returned (.tuple #[]) ∧ LR w' 3 B g b (L ++ List.replicate n (stl b be lv) ++ [lv]) lv d 0 ∧ Below B w w' := by
  obtain ⟨M, hM⟩ : ∃ M, M = L ++ List.replicate n (stl b be lv) := ⟨_, rfl⟩
  have hMl : M.length ≤ 1000 := by rw [hM]; simp; omega
  have HS := hide (settle_i w B g n b be d lv L h hB hb hbe hlv hL)
  rw [← hM] at HS ⊢
  obtain ⟨i0, hi0, jz0, jz1, jz2⟩ := info_parts int_info
  clear hM h
  go_enter Try.func54, Try.ntmps54
  go_wp2_with fail
  (with_reducible refine HS.out.mono ?_)
  rintro e u1 ⟨rfl, hlr, hbl⟩
  have H1 := hide hlr
  obtain ⟨hBg, hgr, hf, _, k2, _, _, A1, c1, k1, ho1, hne1⟩ := hlr
  have hBr : B ≤ u1.heap.size := Nat.le_trans hB hbl.size
  have HF := hide hf
  have k2 := hide k2
  clear hf
  go_wp2_with ((at_builtin; refine wpList_append_int_at rfl (.tmp 11) (.tmp 13) _ rfl 3 i0 Try.underlying22 hi0 jz0 jz1 jz2 B A1 c1 M.length M rfl (rfl) (ho1.alloc _) u1.heap.size lv rfl (by simp) (by omega) (by simp; omega) ?_; intro A' c' w' hol' hb' hg' hat'); obtain ⟨kc, kf, kg⟩ := keep_g hg' hgr hne1; have kc1 := (kc 1).trans k1; have kf1 := (kf 1).trans (HF.out 1); have kc2 := (kc 2).trans k2.out; have kf2 := (kf 2).trans (HF.out 2); replace kc := hide kc; replace kf := hide kf)
  have L2 := hide (H1.out.app kc.out (fun i => (kf.out i).trans (HF.out i)) kg hol' (fun k hk => by
    rcases hat' with e | e
    · rw [e] at hk; exact hne1 k hk
    · rw [e] at hk; injection hk with hk; simp at hk; omega))
  have B2 := hide ((hbl.alloc hBr _).trans hb')
  go_end0
  exact ⟨rfl, L2.out.put (by omega) _ lv rfl lv d 0 (by omega) (by simp) (by simp) (by simp), (B2.out.setCell hBg _).setCell hBg _⟩

set_option maxHeartbeats 1000000 in
theorem read_i (w : World) (B g n : Nat) (b be d : Int) (c : UInt8) (L : List Int) (h : LR w 3 B g b L be d n) (hB : B ≤ w.heap.size) (hb : 0 ≤ b ∧ b ≤ 1) (hbe : 0 ≤ be ∧ be ≤ 2) (hd : 0 ≤ d ∧ d ≤ 2) (hL : L.length + n ≤ 900) :
    Calls Try.prog 41 #[.pointer (some ⟨g, 0, none⟩), .int .u8 c.toNat] w fun e w' => e = .returned (.tuple #[]) ∧ (∃ (L' : List Int) (be' d' : Int) (n' : Nat), LR w' 3 B g b L' be' d' n' ∧ L'.length + n' = L.length + n + 1 ∧ (0 ≤ be' ∧ be' ≤ 2) ∧ (0 ≤ d' ∧ d' ≤ 2) ∧ ∀ cs, L ++ lvs b be d n (c :: cs) = L' ++ lvs b be' d' n' cs) ∧ Below B w w' := by
  have hc8 : c.toNat < 256 := UInt8.toNat_lt c
  have hgr := h.2.1
  have hBg := h.1
  have f3 := h.2.2.1 3
  have f4 := h.2.2.1 4
  have c0 := h.2.2.2.1
  have c3 := h.2.2.2.2.2.1
  have c4 := h.2.2.2.2.2.2.1
  have z0 : (0 : Int) ≤ (c.toNat : Int) := by omega
  have z1 : (c.toNat : Int) ≤ 255 := by omega
  rcases cls_or c with ⟨k, k1, k2⟩ | ⟨k, k1, k2⟩ | ⟨k, k1, k2⟩ | ⟨k, k1, k2, k3⟩
  · have q1 : inB (c.toNat : Int) 65 90 = false := inB_no (by omega)
    have q2 : inB (c.toNat : Int) 97 122 = true := inB_yes (by omega) (by omega)
    have P := hide (place_i (w.setCell ⟨g, 3, none⟩ (.int .i64 (2 * b))) B g n b be (2 * b) (2 * b) L (h.put (by omega) _ (2 * b) rfl be (2 * b) n (by omega) (by simp) (by simp) (by simp)) (by simpa using hB) hb hbe (by omega) (by omega))
    have B1 := hide (((Below.refl B w).setCell hBg (.int .i64 (2 * b)) : Below B w (w.setCell ⟨g, 3, none⟩ (.int .i64 (2 * b)))))
    have K := hide k
    clear h k k1 k2
    go_enter Try.func41, Try.ntmps41
    go_wp2_with (first | (go_at_call 53; refine (isCapital_i _ _ z0 z1).mono ?_; rintro e w' ⟨rfl, rfl⟩) | (go_at_call 55; refine (isLetter_i _ _ z0 z1).mono ?_; rintro e w' ⟨rfl, rfl⟩) | (go_at_call 56; refine (isDigit_i _ _ z0 z1).mono ?_; rintro e w' ⟨rfl, rfl⟩))
    (with_reducible refine P.out.mono ?_)
    rintro e u1 ⟨rfl, hlr, hbl⟩
    go_wp2
    go_end0
    exact ⟨rfl, ⟨_, _, _, _, hlr, by simp; omega, by omega, by omega, fun cs => by rw [lvs_low K.out]; simp⟩, B1.out.trans hbl⟩
  · have q1 : inB (c.toNat : Int) 65 90 = true := inB_yes (by omega) (by omega)
    have P := hide (place_i (w.setCell ⟨g, 3, none⟩ (.int .i64 2)) B g n b be 2 1 L (h.put (by omega) _ 2 rfl be 2 n (by omega) (by simp) (by simp) (by simp)) (by simpa using hB) hb hbe (by omega) (by omega))
    have B1 := hide (((Below.refl B w).setCell hBg (.int .i64 2) : Below B w (w.setCell ⟨g, 3, none⟩ (.int .i64 2))))
    have K := hide k
    clear h k k1 k2
    go_enter Try.func41, Try.ntmps41
    go_wp2_with (first | (go_at_call 53; refine (isCapital_i _ _ z0 z1).mono ?_; rintro e w' ⟨rfl, rfl⟩) | (go_at_call 55; refine (isLetter_i _ _ z0 z1).mono ?_; rintro e w' ⟨rfl, rfl⟩) | (go_at_call 56; refine (isDigit_i _ _ z0 z1).mono ?_; rintro e w' ⟨rfl, rfl⟩))
    (with_reducible refine P.out.mono ?_)
    rintro e u1 ⟨rfl, hlr, hbl⟩
    go_wp2
    go_end0
    exact ⟨rfl, ⟨_, _, _, _, hlr, by simp; omega, by omega, by omega, fun cs => by rw [lvs_cap K.out]; simp⟩, B1.out.trans hbl⟩
  · have q1 : inB (c.toNat : Int) 65 90 = false := inB_no (by omega)
    have q2 : inB (c.toNat : Int) 97 122 = false := inB_no (by omega)
    have q3 : inB (c.toNat : Int) 48 57 = true := inB_yes (by omega) (by omega)
    have P := hide (place_i w B g n b be d d L h hB hb hbe hd (by omega))
    have K := hide k
    clear h k k1 k2
    go_enter Try.func41, Try.ntmps41
    go_wp2_with (first | (go_at_call 53; refine (isCapital_i _ _ z0 z1).mono ?_; rintro e w' ⟨rfl, rfl⟩) | (go_at_call 55; refine (isLetter_i _ _ z0 z1).mono ?_; rintro e w' ⟨rfl, rfl⟩) | (go_at_call 56; refine (isDigit_i _ _ z0 z1).mono ?_; rintro e w' ⟨rfl, rfl⟩))
    (with_reducible refine P.out.mono ?_)
    rintro e u1 ⟨rfl, hlr, hbl⟩
    go_wp2
    go_end0
    exact ⟨rfl, ⟨_, _, _, _, hlr, by simp; omega, hd, hd, fun cs => by rw [lvs_dig K.out]; simp⟩, hbl⟩
  · have q1 : inB (c.toNat : Int) 65 90 = false := inB_no (by omega)
    have q2 : inB (c.toNat : Int) 97 122 = false := inB_no (by omega)
    have q3 : inB (c.toNat : Int) 48 57 = false := inB_no (by omega)
    have L2 := hide (h.put (i := 4) (by omega) (.int .i64 ((n : Int) + 1)) ((n : Int) + 1) rfl be d (n + 1) (by omega) (by simp) (by simp) (by simp))
    have K := hide k
    clear h k k1 k2 k3
    go_enter Try.func41, Try.ntmps41
    go_wp2_with (first | (go_at_call 53; refine (isCapital_i _ _ z0 z1).mono ?_; rintro e w' ⟨rfl, rfl⟩) | (go_at_call 55; refine (isLetter_i _ _ z0 z1).mono ?_; rintro e w' ⟨rfl, rfl⟩) | (go_at_call 56; refine (isDigit_i _ _ z0 z1).mono ?_; rintro e w' ⟨rfl, rfl⟩))
    go_end0
    exact ⟨rfl, ⟨_, _, _, _, L2.out, by omega, hbe, hd, fun cs => by rw [lvs_none K.out]⟩, (Below.refl B w).setCell hBg _⟩
end Go.Proofs.Yteoiphjkkcjddaa

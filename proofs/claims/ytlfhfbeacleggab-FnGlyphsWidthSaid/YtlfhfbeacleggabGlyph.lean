/- Glyphs of a word: what joining gives. -/
import Derived.Test.YtlfhfbeacleggabValFont
import Derived.Test.YtlfhfbeacleggabWord
import Derived.IntWalk
import Derived.Deep.RegionWith
namespace Go.Proofs.Ytlfhfbeacleggab
open Go.ChangeShapes Go.WideShapes Go.ChangeAt Go.RowKit
set_option linter.unusedSimpArgs false
set_option linter.unusedVariables false

theorem TL.low {α : Type} [Rec α] {w w' : World} {A : Option Addr} {n B : Nat} {L : List α} (h : TL w A n L) (hb : Below B w w') (hlt : 0 < n → ∀ b o, A = some ⟨b, o, none⟩ → b < B) : TL w' A n L :=
  ⟨h.1, fun h0 => by
    obtain ⟨b, o, e, hl, hc⟩ := h.2 h0
    exact ⟨b, o, e, Nat.lt_of_lt_of_le hl hb.size, fun i hi j hj => (hb.cell (p := ⟨b, o + i * Rec.size α + j, none⟩) (hlt h0 b o e)).trans (hc i hi j hj)⟩⟩
theorem OL.take {w : World} {e : TypeId} {B c k : Nat} {A : Option Addr} {l : List Int} (h : OL w e B A c l) (hk : k ≤ l.length) (h0 : 0 < l.length) : OL w e B A c (l.take k) := by
  rcases h.2 with ⟨_, h1⟩ | ⟨g, cap, cur, h1, h2, h3, h4, h5, h6, h7⟩
  · omega
  · injection h1 with h1 _ h8
    subst h1
    subst h8
    have hl : (l.take k).length = k := take_len hk
    unfold OL
    rw [hl]
    refine ⟨by simp; omega, .inr ⟨g, c, cur, rfl, h2, h3, by omega, h5, h6, ?_⟩⟩
    rw [List.map_take, ← h7, List.take_take]
    congr 1
    omega
theorem take_set {l : List Int} {m : Nat} {v : Int} (h : m < l.length) : (l.take (m + 1)).set m v = l.take m ++ [v] := by
  rw [List.take_add_one, List.getElem?_eq_getElem h, Option.toList_some, List.set_append_right]
  · simp [Nat.min_eq_left (Nat.le_of_lt h)]
  · simp
    omega

/-- A slice's length. -/
def lenOf : Value → Nat
  | .slice _ n _ => n
  | _ => 0
/-- The last two glyphs are joined as long as they are a pair. -/
def joinN (L : List Gp) : Nat → List Int → List Int
  | 0, s => s
  | n + 1, s => if 2 ≤ s.length then match findP L (ng s (s.length - 2)) (ng s (s.length - 1)) with
      | some v => joinN L n (s.take (s.length - 2) ++ [v])
      | none => s
    else s
theorem joinN_short {L : List Gp} {s : List Int} (n : Nat) (h : ¬ 2 ≤ s.length) : joinN L n s = s := by
  cases n with
  | zero => rfl
  | succ n => simp [joinN, h]
theorem joinN_stop {L : List Gp} {s : List Int} (n : Nat) {a b : Int} (ha : ng s (s.length - 2) = a) (hb : ng s (s.length - 1) = b) (h : findP L a b = none) : joinN L n s = s := by
  cases n with
  | zero => rfl
  | succ n => simp [joinN, ha, hb, h]
theorem joinN_step {L : List Gp} {s : List Int} {n : Nat} {a b v : Int} (h2 : 2 ≤ s.length) (ha : ng s (s.length - 2) = a) (hb : ng s (s.length - 1) = b) (h : findP L a b = some v) : joinN L (n + 1) s = joinN L n (s.take (s.length - 2) ++ [v]) := by
  simp [joinN, h2, ha, hb, h]
theorem findP_mem {L : List Gp} {a b v : Int} (h : findP L a b = some v) : ∃ i, i < L.length ∧ v = (tg L i).v := by
  unfold findP at h
  cases hf : L.find? (fun t => t.a == a && t.b == b) with
  | none => simp [hf] at h
  | some t =>
    rw [hf] at h
    injection h with h
    obtain ⟨i, hi, e⟩ := List.getElem_of_mem (List.mem_of_find?_eq_some hf)
    exact ⟨i, hi, by rw [tg_lt hi, e, ← h]⟩
/-- All are glyphs. -/
def AllG (s : List Int) : Prop := ∀ j, j < s.length → 0 ≤ ng s j ∧ ng s j ≤ 35
theorem AllG.take {s : List Int} (h : AllG s) (m : Nat) {v : Int} (hv : 0 ≤ v ∧ v ≤ 35) : AllG (s.take m ++ [v]) := fun j hj => by
  refine ng_snoc (P := fun z => 0 ≤ z ∧ z ≤ 35) hv (fun i hi => ?_) j hj
  have hi2 : i < s.length := by simp at hi; omega
  have := h i hi2
  rw [ng_lt hi, List.getElem_take, ← ng_lt hi2]
  exact this
theorem AllG.snoc {s : List Int} (h : AllG s) {v : Int} (hv : 0 ≤ v ∧ v ≤ 35) : AllG (s ++ [v]) := fun j hj => ng_snoc (P := fun z => 0 ≤ z ∧ z ≤ 35) hv h j hj
def LigOk (L : List Gp) : Prop := L.length ≤ 20 ∧ PairsOk L ∧ ∀ i, i < L.length → 26 ≤ (tg L i).v ∧ (tg L i).v ≤ 35
theorem LigOk.of {L : List Gp} (h : pok L 26 35 = true) : LigOk L := by
  have h := pok_iff.1 h
  exact ⟨h.1, PairsOk.of h, fun i hi => (h.2 i hi).2.1⟩

set_option maxHeartbeats 2000000 in
theorem joinEnd_i (w : World) (B c cL : Nat) (A AL : Option Addr) (s : List Int) (L : List Gp) (hs : OL w 3 B A c s) (hL : TL w AL L.length L) (hlow : 0 < L.length → ∀ b o, AL = some ⟨b, o, none⟩ → b < B) (hok : LigOk L) (hg : AllG s) (hn : s.length ≤ 1000) (hBw : B ≤ w.heap.size) :
    Calls Try.prog 22 #[.slice A s.length c, .slice AL L.length cL] w fun e w' => ∃ s' : List Int, e = .returned (.slice A s'.length c) ∧ s' = joinN L s.length s ∧ OL w' 3 B A c s' ∧ AllG s' ∧ s'.length ≤ s.length ∧ Below B w w' := by
  obtain ⟨hl20, hpo, hlv⟩ := hok
  have HL := hide hL
  have HLOW := hide hlow
  have HLV := hide hlv
  have HPO := hide hpo
  have HS := hide hs
  have HG := hide hg
  clear hL hlow hlv hpo hs hg
  go_enter Try.func22, Try.ntmps22
  go_wp2
  go_loopw [0] (fun t u => ∃ (n : Nat) (s' : List Int), t = .slice A n c ∧ n = s'.length ∧ joinN L s'.length s' = joinN L s.length s ∧ OL u 3 B A c s' ∧ AllG s' ∧ n ≤ s.length ∧ Below B w u) (fun t _ => lenOf t)
  case atStart => exact ⟨s.length, s, rfl, rfl, rfl, HS.out, HG.out, Nat.le_refl _, Below.refl _ _⟩
  case round =>
    obtain ⟨n, s', rfl, hns, hj, hol, hag, hle, hbl⟩ := hrel
    have HN := hide hns
    have HJ := hide hj
    have HA := hide hag
    have HB := hide hbl
    clear hns hj hag
    rcases (by omega : n < 2 ∨ 2 ≤ n) with h2 | h2
    · have E := hide (joinN_short (L := L) s'.length (by rw [← HN.out]; omega))
      go_wp2
      go_ret
      exact ⟨s', by rw [HN.out]; rfl, E.out.symm.trans HJ.out, hol, HA.out, by rw [← HN.out]; exact hle, HB.out⟩
    · obtain ⟨g, rfl, hBg, hgz, hfz⟩ := hol.frozen (by rw [← HN.out]; omega)
      have hlc : n ≤ c := by
        obtain ⟨_, _, _, _, h, _⟩ := hol.form (by rw [← HN.out]; omega)
        rw [HN.out]; exact h
      obtain ⟨m, hm⟩ : ∃ m, n = m + 2 := ⟨n - 2, by omega⟩
      obtain ⟨r, hr⟩ : ∃ r, r = m + 1 := ⟨_, rfl⟩
      have hrn : r < n := by omega
      have hmn : m < n := by omega
      have hmr : m < r := by omega
      have er : (n : Int) - 1 = (r : Int) := by omega
      have em : (r : Int) - 1 = (m : Int) := by omega
      have wm : IntKind.i64.wrap ((r : Int) - 1) = (m : Int) := (IntWalk.i64_in _ (by omega)).trans em
      have hrc : r ≤ c := by omega
      have hc0 : ¬ c = 0 := by omega
      have wm3 : IntKind.i64.wrap (m : Int) = (m : Int) := IntWalk.i64_in _ (by omega)
      have hr2 : r ≤ 1000 := by omega
      obtain ⟨a1, ha1⟩ : ∃ a, a = ng s' m := ⟨_, rfl⟩
      obtain ⟨a2, ha2⟩ : ∃ a, a = ng s' r := ⟨_, rfl⟩
      have q1 := HA.out m (by rw [← HN.out]; omega)
      have q2 := HA.out r (by rw [← HN.out]; omega)
      obtain ⟨b, o, he, _, c1⟩ := hol.reads.at_ (i := m) (by rw [← HN.out]; omega)
      injection he with he
      injection he with e1 e2
      subst e1
      subst e2
      obtain ⟨b, o, he, _, c2⟩ := hol.reads.at_ (i := r) (by rw [← HN.out]; omega)
      injection he with he
      injection he with e1 e2
      subst e1
      subst e2
      rw [Nat.zero_add] at c1 c2
      rw [← ha1] at c1 q1
      rw [← ha2] at c2 q2
      have X1 : ng s' (s'.length - 2) = a1 := by rw [← HN.out, ha1, hm]; rfl
      have X2 : ng s' (s'.length - 1) = a2 := by rw [← HN.out, ha2, hr, hm]; rfl
      have HX1 := hide X1
      have HX2 := hide X2
      have H1 := hide (show s'.length = m + 2 by rw [← HN.out, hm])
      have H2 := hide hr
      have hT := HL.out.low HB.out HLOW.out
      have PV := fun (u : World) (h : TL u AL L.length L) => pairValue_i u AL L.length cL L a1 a2 h (by omega) HPO.out q1 q2
      have HO := hide hol
      have HT := hide hT
      cases hf : findP L a1 a2 with
      | none =>
        rw [hf] at PV
        simp only [Option.getD_none, Option.isSome_none] at PV
        have E := hide (joinN_stop (L := L) s'.length HX1.out HX2.out hf)
        have HPV := hide PV
        clear PV hf X1 X2 hr hm ha1 ha2 hol hT q1 q2
        go_wp2_with fail
        go_region_with (go_at_call 29; (with_reducible refine (HPV.out _ (TL.drew HT.out)).mono ?_); rintro e w' ⟨rfl, hb⟩)
        all_goals
          replace hb := bl_undrew hb
          have hol2 := HO.out.below hb
          go_wp2
          go_ret
          exact ⟨s', by rw [HN.out]; rfl, E.out.symm.trans HJ.out, hol2, HA.out, by rw [← HN.out]; exact hle, HB.out.trans (hb.mono (Nat.le_trans hBw HB.out.size))⟩
      | some v =>
        rw [hf] at PV
        simp only [Option.getD_some, Option.isSome_some] at PV
        obtain ⟨i, hi, hv⟩ := findP_mem hf
        have hv2 := HLV.out i hi
        rw [← hv] at hv2
        have E := hide (joinN_step (L := L) (n := m + 1) (s := s') (by rw [H1.out]; omega) HX1.out HX2.out hf)
        have HPV := hide PV
        have HV := hide hv2
        clear PV hf X1 X2 hr hm ha1 ha2 hol hT q1 q2 hv hi hv2
        go_wp2_with fail
        go_region_with (go_at_call 29; (with_reducible refine (HPV.out _ (TL.drew HT.out)).mono ?_); rintro e w' ⟨rfl, hb⟩)
        all_goals
          replace hb := bl_undrew hb
          have hol2 := HO.out.below hb
          have T1 := (hol2.take (k := r) (by rw [H1.out]; omega) (by rw [H1.out]; omega)).set_ m v
          have f0 := World.ownsRow.frozenAt hol2 m
          have c3 := keep_cell hb c1
          have ES := take_set (l := s') (m := m) (v := v) (by rw [H1.out]; omega)
          rw [← H2.out] at ES
          have M := hide T1.1
          rw [ES] at M
          have hz2 := hb.size
          clear T1 ES hol2
          go_wp2
          go_roundw
          case rel =>
            refine ⟨r, s'.take m ++ [v], rfl, by simp [H1.out, H2.out], ?_, M.out, HA.out.take m (by have := HV.out; omega), by omega, ?_⟩
            · rw [show (s'.take m ++ [v]).length = m + 1 from by simp [H1.out]]
              have e1 := E.out
              rw [show s'.length - 2 = m from by rw [H1.out]; rfl] at e1
              rw [← e1, show m + 1 + 1 = s'.length from H1.out.symm]
              exact HJ.out
            · exact (HB.out.trans (hb.mono (Nat.le_trans hBw HB.out.size))).setCell hBg _
          case measure => show r < n; omega
end Go.Proofs.Ytlfhfbeacleggab

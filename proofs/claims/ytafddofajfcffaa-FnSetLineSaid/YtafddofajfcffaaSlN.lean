/- Set lines: what holds of their positions. -/
import Derived.Test.YtafddofajfcffaaSlM
import Derived.Test.YtafddofajfcffaaFit
import Derived.Test.YtafddofajfcffaaLnP
namespace Go.Proofs.Ytafddofajfcffaa
open Go.ChangeShapes Go.WideShapes Go.ChangeAt Go.RowKit
set_option linter.unusedVariables false
set_option linter.unusedSimpArgs false

theorem stN_map (L : List It) (c T S : Int) (s : Nat) : ∀ d, stN L c T S s d = (bxN L s d).map (fun x => posA L c T S s x.toNat)
  | 0 => rfl
  | d + 1 => by
    have IH := stN_map L c T S s d
    simp only [stN, bxN]
    split
    · rw [List.map_append, ← IH]; rfl
    · exact IH
theorem ngl {l m : List Int} {i : Nat} (h : i < l.length) : ng (l ++ m) i = ng l i := by
  simp [ng, List.getD, List.getElem?_append, h]
theorem nge {l : List Int} {x : Int} : ng (l ++ [x]) l.length = x := by
  simp [ng, List.getD]
theorem ngm {l : List Int} {f : Int → Int} {i : Nat} (h : i < l.length) : ng (l.map f) i = f (ng l i) := by
  simp [ng, List.getD, h]
theorem bxN_asc {L : List It} {s : Nat} : ∀ {d i : Nat}, i + 1 < (bxN L s d).length → ng (bxN L s d) i < ng (bxN L s d) (i + 1)
  | 0, i, h => by simp [bxN] at h
  | d + 1, i, h => by
    simp only [bxN] at h ⊢
    split at h
    · next hb =>
      rw [if_pos hb]
      rw [List.length_append] at h
      simp at h
      rcases (by omega : i + 1 < (bxN L s d).length ∨ i + 1 = (bxN L s d).length) with g | g
      · rw [ngl (by omega), ngl g]; exact bxN_asc g
      · rw [ngl (by omega), g, nge]
        obtain ⟨m, e, _, h2⟩ := bxN_ng (L := L) (p := s) (d := d) (j := i) (by omega)
        rw [e]; omega
    · next hb => rw [if_neg hb]; exact bxN_asc h
theorem inSW {L : List It} (h : OTo L L.length) {k : Nat} (hk : k < L.length) : inS (tg L k) ≤ inW (tg L k) := by
  have := iok_iff.1 (h k hk)
  unfold inS inW
  rcases this with x | x | x
  · rw [if_neg (by omega), if_neg (by omega)]; omega
  · rw [if_pos (by omega), if_neg (by omega)]; omega
  · rw [if_neg (by omega), if_pos (by omega)]; omega
theorem sWS_mono {L : List It} (h : OTo L L.length) {a : Nat} : ∀ {k : Nat}, a ≤ k → k ≤ L.length → sS L k - sS L a ≤ sW L k - sW L a
  | 0, h1, h2 => by
    obtain rfl : a = 0 := by omega
    omega
  | k + 1, h1, h2 => by
    rcases (by omega : a = k + 1 ∨ a ≤ k) with e | e
    · subst e; omega
    · have IH := sWS_mono h e (by omega)
      have := inSW h (k := k) (by omega)
      simp only [sW, sS]
      omega
theorem pos_next {L : List It} (h : OTo L L.length) {c T S : Int} (hT : 0 ≤ T) (hS : 0 ≤ S) {s j k : Nat} (h1 : j < k) (h2 : k ≤ L.length) (hb : isB (tg L j) = true) {z : Int} (hz : 0 ≤ z) :
    posA L c T S s j + (tg L j).w ≤ posn c T S (sW L k - sW L s + z) (sT L k - sT L s) (sS L k - sS L s) := by
  have k1 : (tg L j).k = 1 := by simpa [isB] using hb
  have eW : sW L (j + 1) = sW L j + (tg L j).w := by simp only [sW, inW]; rw [if_neg (by omega)]
  have eS : sS L (j + 1) = sS L j := by simp only [sS, inS]; rw [if_neg (by omega)]; omega
  have m := sWS_mono h (a := j + 1) (k := k) (by omega) h2
  have m2 := s_mono h (a := j) (k := k) (by omega) h2
  exact posn_mono hT hS (by omega) (by omega) (by omega)
theorem posn_bd {c T S pw pt ps : Int} (hp : 0 ≤ pt ∧ pt ≤ T) (hs : 0 ≤ ps ∧ ps ≤ S) (hw : 0 ≤ pw ∧ pw ≤ 61000) (hS : S ≤ 60000) (hc : c ≤ 10000) : -100000 ≤ posn c T S pw pt ps ∧ posn c T S pw pt ps ≤ 100000 := by
  unfold posn
  split
  · have := shr_nn (n := c) (s := pt) (a := T) (by omega) hp.1 (by omega)
    have := shr_le (n := c) (s := pt) (a := T) (by omega) hp.1 (by omega) hp.2
    omega
  · have := shr_nn (n := min (-c) S) (s := ps) (a := S) (by omega) hs.1 (by omega)
    have := shr_le (n := min (-c) S) (s := ps) (a := S) (by omega) hs.1 (by omega) hs.2
    omega
/-- What a set line is: a place for each box, each not before the end of the one ahead of it, and the end. -/
theorem setO_all {L : List It} {a b d : Int} (h : (okL L a b && inB d 1 10000) = true) :
    (setO L a b d).length = (bxO L a b).length + 1 ∧
    (∀ i, i < (bxO L a b).length → ∃ j : Nat, ng (bxO L a b) i = (j : Int) ∧ j < L.length ∧ 0 ≤ (tg L j).w ∧ (tg L j).w ≤ 1000 ∧ ng (setO L a b d) i + (tg L j).w ≤ ng (setO L a b d) (i + 1)) ∧
    (∀ i, i ≤ (bxO L a b).length → -100000 ≤ ng (setO L a b d) i ∧ ng (setO L a b d) i ≤ 100000) ∧
    ∃ W T S, lgO L a b = .tuple #[gv W T S, .bool true] ∧ (0 ≤ W ∧ W ≤ 61000) ∧ (0 ≤ T ∧ T ≤ 60000) ∧ (0 ≤ S ∧ S ≤ 60000) ∧ ng (setO L a b d) (bxO L a b).length = posn (d - W) T S W T S := by
  have h0 := h
  rw [Bool.and_eq_true] at h
  obtain ⟨hok, hd⟩ := h
  have hok' := hok
  simp only [okL, Bool.and_eq_true] at hok'
  obtain ⟨p, q, hp, rfl, hpq, hq, _⟩ := hasL_of hok'.2
  have OK := isOk_iff.1 hok'.1
  obtain ⟨e1, e2, e3⟩ := lg_eqs (L := L) (q := q) hp
  have SA : stA L a q = min (fBx L p) q := by unfold stA; rw [hp]; rfl
  have hsq : min (fBx L p) q ≤ q := Nat.min_le_right _ _
  have EB : bxO L a q = bxN L (min (fBx L p) q) (q - min (fBx L p) q) := by rw [bxO_yes hok hp rfl]; exact bxN_line hpq (by omega)
  have ES := setO_yes h0
  have EG := lgO_yes hok hp rfl
  unfold setL at ES
  rw [SA, e1, e2, e3] at ES
  obtain ⟨s, hs⟩ : ∃ s, s = min (fBx L p) q := ⟨_, rfl⟩
  rw [← hs] at ES EB EG hsq
  have bq := s_bd OK.1 (k := q) (by omega)
  have bs := s_bd OK.1 (k := s) (by omega)
  have bsq := s_mono OK.1 (a := s) (k := q) hsq (by omega)
  have l60 := OK.2.1.2
  have ab : 0 ≤ atW (tg L q) ∧ atW (tg L q) ≤ 1000 := by
    rcases iok_iff.1 (OK.1 q hq) with h | h | h <;> (unfold atW; split <;> omega)
  rw [stN_map] at ES
  rw [ES, EB]
  have hl : ((bxN L s (q - s)).map (fun x => posA L (d - (sW L q - sW L s + atW (tg L q))) (sT L q - sT L s) (sS L q - sS L s) s x.toNat)).length = (bxN L s (q - s)).length := List.length_map _
  have hd' := inB_iff.1 hd
  refine ⟨by simp, fun i hi => ?_, fun i hi => ?_, _, _, _, EG, by omega, by omega, by omega, ?_⟩
  · obtain ⟨m, em, m1, m2⟩ := bxN_ng (L := L) (p := s) (d := q - s) (j := i) hi
    have hb : isB (tg L m) = true := by
      have := ng_mem hi
      rw [em] at this
      obtain ⟨j, e, _, _, hj⟩ := bxN_in this
      have : j = m := by omega
      rwa [this] at hj
    have hw : 0 ≤ (tg L m).w ∧ (tg L m).w ≤ 1000 := by rcases iok_iff.1 (OK.1 m (by omega)) with x | x | x <;> omega
    refine ⟨m, em, by omega, by omega, by omega, ?_⟩
    rw [ngl (by rw [hl]; exact hi), ngm hi, em]
    rcases (by omega : i + 1 < (bxN L s (q - s)).length ∨ i + 1 = (bxN L s (q - s)).length) with g | g
    · rw [ngl (by rw [hl]; exact g), ngm g]
      have asc := bxN_asc g
      obtain ⟨m', em', m1', m2'⟩ := bxN_ng (L := L) (p := s) (d := q - s) (j := i + 1) g
      rw [em']
      have := pos_next OK.1 (c := d - (sW L q - sW L s + atW (tg L q))) (T := sT L q - sT L s) (S := sS L q - sS L s) (by omega) (by omega) (s := s) (j := m) (k := m') (by omega) (by omega) hb (Int.le_refl 0)
      rw [Int.add_zero] at this
      simp only [Int.toNat_natCast]
      exact this
    · rw [g]
      have e := nge (l := (bxN L s (q - s)).map (fun x => posA L (d - (sW L q - sW L s + atW (tg L q))) (sT L q - sT L s) (sS L q - sS L s) s x.toNat)) (x := posn (d - (sW L q - sW L s + atW (tg L q))) (sT L q - sT L s) (sS L q - sS L s) (sW L q - sW L s + atW (tg L q)) (sT L q - sT L s) (sS L q - sS L s))
      rw [hl] at e
      rw [e]
      have := pos_next OK.1 (c := d - (sW L q - sW L s + atW (tg L q))) (T := sT L q - sT L s) (S := sS L q - sS L s) (by omega) (by omega) (s := s) (j := m) (k := q) (by omega) (by omega) hb ab.1
      simpa using this
  · rcases (by omega : i < (bxN L s (q - s)).length ∨ i = (bxN L s (q - s)).length) with g | g
    · rw [ngl (by rw [hl]; exact g), ngm g]
      obtain ⟨m, em, m1, m2⟩ := bxN_ng (L := L) (p := s) (d := q - s) (j := i) g
      rw [em]
      have b1 := s_bd OK.1 (k := m) (by omega)
      have b2 := s_mono OK.1 (a := s) (k := m) (by omega) (by omega)
      have b3 := s_mono OK.1 (a := m) (k := q) (by omega) (by omega)
      simp only [Int.toNat_natCast]
      exact posn_bd (by omega) (by omega) (by omega) (by omega) (by omega)
    · rw [g]
      have e := nge (l := (bxN L s (q - s)).map (fun x => posA L (d - (sW L q - sW L s + atW (tg L q))) (sT L q - sT L s) (sS L q - sS L s) s x.toNat)) (x := posn (d - (sW L q - sW L s + atW (tg L q))) (sT L q - sT L s) (sS L q - sS L s) (sW L q - sW L s + atW (tg L q)) (sT L q - sT L s) (sS L q - sS L s))
      rw [hl] at e
      rw [e]
      exact posn_bd (by omega) (by omega) (by omega) (by omega) (by omega)
  · have e := nge (l := (bxN L s (q - s)).map (fun x => posA L (d - (sW L q - sW L s + atW (tg L q))) (sT L q - sT L s) (sS L q - sS L s) s x.toNat)) (x := posn (d - (sW L q - sW L s + atW (tg L q))) (sT L q - sT L s) (sS L q - sS L s) (sW L q - sW L s + atW (tg L q)) (sT L q - sT L s) (sS L q - sS L s))
    rw [hl] at e
    exact e
end Go.Proofs.Ytafddofajfcffaa

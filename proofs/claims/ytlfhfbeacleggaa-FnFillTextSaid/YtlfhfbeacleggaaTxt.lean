/- Slices of texts that came in, and the laws' helpers on them. -/
import Derived.Test.YtlfhfbeacleggaaStrs
import Derived.Test.YtlfhfbeacleggaaFlat
namespace Go.Proofs.Ytlfhfbeacleggaa
open Go.ChangeShapes Go.WideShapes Go.ChangeAt Go.RowKit
set_option linter.unusedVariables false

theorem strs_in {H : Type} {enc : TypeId × Value → H} {P : Program} {w : World} {base : Nat} {sp : Nat → Bool} {held : Bool} {t e : TypeId} {a : Option Addr} {n c : Nat} {d : DataW H} {p : List MemPlace} (ht : P.underlying t = some (.slice e))
    (hk : flat P 5 e = some [.str]) (hm : P.cellsOf e = 1) (h : DataW.Trod enc P w base sp held t (.slice a n c) d p) : ∃ l : List ByteArray, SL w a n l ∧ n ≤ maxLen ∧ ∀ k, k < l.length → (sg l k).size ≤ maxLen := by
  obtain ⟨h1, h2⟩ := flat_slice ht hk hm (by decide) h
  rcases Nat.eq_zero_or_pos n with h0 | h0
  · subst h0
    exact ⟨[], SL.nil _ _, h1, fun k hk => by simp at hk⟩
  · obtain ⟨b, o, rfl, hb, hall⟩ := h2 h0
    have hall2 : ∀ i, i < n → ∃ x : ByteArray, x.size ≤ maxLen ∧ w.cell? ⟨b, o + i, none⟩ = some (.string x) := by
      intro i hi
      obtain ⟨cs, ok, hc⟩ := hall i hi
      obtain ⟨_, _, rfl, ⟨s, rfl, ws⟩, k1⟩ := ok.cons
      obtain rfl := k1.done
      have := hc 0 (by decide)
      simp at this
      exact ⟨s, ws, this⟩
    haveI : Inhabited ByteArray := ⟨ByteArray.empty⟩
    obtain ⟨f, hf⟩ := Go.Deep.choose_lt hall2
    have hg : ∀ i, i < n → sg ((List.range n).map f) i = f i := fun i hi => by simp [sg, List.getD, hi]
    refine ⟨(List.range n).map f, ⟨by simp, fun _ => ⟨b, o, rfl, hb, fun i hi => ?_⟩⟩, h1, fun k hk => ?_⟩
    · rw [hg i hi]; exact (hf i hi).2
    · have hk' : k < n := by simpa using hk
      rw [hg k hk']; exact (hf k hk').1

theorem szStringS_l (w : World) (A : Option Addr) (n c : Nat) (z : Int) (l : List ByteArray) (ha : SL w A n l) (hs : ∀ k, k < l.length → (sg l k).size ≤ maxLen) (hn : n ≤ maxLen) (z0 : 0 ≤ z) (z1 : z ≤ 1048576) :
    Calls Try.prog 20 #[.slice A n c, .int .i64 z] w fun e w' => (∃ r : Int, e = .returned (.int .i64 r) ∧ (r = -1 ∨ (0 ≤ r ∧ (n : Int) ≤ z ∧ ∀ k, k < l.length → ((sg l k).size : Int) ≤ z))) ∧ w = w' := by
  obtain rfl : n = l.length := ha.1
  unfold maxLen at hs hn
  rcases (by omega : z - (l.length : Int) < 0 ∨ 0 ≤ z - (l.length : Int)) with h | h
  · clear hs
    go_enter Try.func20, Try.ntmps20
    go_wp2
    go_ret
    exact ⟨⟨_, rfl, .inl rfl⟩, rfl⟩
  · have HS := hide hs
    have HA := hide ha
    clear hs ha
    go_enter Try.func20, Try.ntmps20
    go_wp2
    go_loop [1, 5] (fun y i => ∃ (p : Nat) (r : Int), p ≤ l.length ∧ y = .int .i64 r ∧ i = .int .i64 p ∧ 0 ≤ r ∧ r ≤ z - (l.length : Int) ∧ ∀ k, k < p → ((sg l k).size : Int) ≤ z) (fun _ i => l.length - (intOf i).toNat)
    case atStart => exact ⟨0, _, by omega, by go_num, rfl, by omega, by omega, fun k hk => by omega⟩
    case round =>
      obtain ⟨p, r, hp, rfl, rfl, r0, r1, hk⟩ := hrel
      have HK := hide hk
      clear hk
      by_cases hlt : p < l.length
      · obtain ⟨b, o, rfl, hb0, c0⟩ := HA.out.at_ hlt
        have hsz := HS.out p hlt
        obtain ⟨x, hx⟩ : ∃ x, x = sg l p := ⟨_, rfl⟩
        rw [← hx] at c0 hsz
        have HX := hide hx
        clear hx
        rcases (by omega : r - (x.size : Int) < 0 ∨ 0 ≤ r - (x.size : Int)) with q | q
        · go_wp2
          go_ret
          exact ⟨⟨_, rfl, .inl rfl⟩, rfl⟩
        · go_wp2
          go_round
          case rel =>
            refine ⟨p + 1, r - (x.size : Int), by omega, by go_num, by go_num, by omega, by omega, fun k hk => ?_⟩
            rcases (by omega : k < p ∨ k = p) with e | e
            · exact HK.out k e
            · subst e; rw [← HX.out]; omega
          case measure => simp [intOf]; omega
      · go_wp2
        go_ret
        exact ⟨⟨_, rfl, .inr ⟨by omega, by omega, fun k hk => HK.out k (by omega)⟩⟩, rfl⟩
theorem toStringS_l (w : World) (A : Option Addr) (n c : Nat) (l : List ByteArray) (ha : SL w A n l) (hn : n ≤ 1048576) :
    Calls Try.prog 22 #[.slice A n c] w fun e w' => ∃ A' c', e = .returned (.slice A' l.length c') ∧ OS w' 9 w.heap.size A' c' l ∧ Below w.heap.size w w' := by
  obtain ⟨i0, hi0, hz0, hz1, hz2⟩ := info_parts str_info
  obtain rfl : n = l.length := ha.1
  have hR : (List.replicate l.length ByteArray.empty).length = l.length := List.length_replicate
  have HR := hide hR
  clear hR
  go_enter Try.func22, Try.ntmps22
  go_wp2_with (refine wpList_make_full _ rfl _ _ _ rfl w.heap.size 9 i0 _ 1 Try.underlying22 hi0 hz0 hz1 .i64 .i64 _ _ l.length rfl rfl rfl rfl (by rw [hz2]; omega) (by unfold maxLen; omega) (Nat.le_refl _) ?_; intro w1 hown hgr)
  have H0 : Hid (OS w1 9 w.heap.size (some ⟨w.heap.size, 0, none⟩) l.length (smix l (List.replicate l.length ByteArray.empty) 0)) := hide (by
    rw [smix_zero]; unfold OS
    have e1 : (madeCells (Value.string ByteArray.empty).cells l.length).toList = List.replicate l.length (.string ByteArray.empty) := toList_madeCells_one _ _
    simp only [Nat.mul_one, e1] at hown
    simpa using hown)
  have hb1 := below_new hgr
  have hz0 : w.heap.size ≤ w1.heap.size := hb1.size
  have HI := hide ha
  clear hown hgr ha
  go_wp2
  go_loopw [4] (fun i u => ∃ p : Nat, p ≤ l.length ∧ i = .int .i64 p ∧ OS u 9 w.heap.size (some ⟨w.heap.size, 0, none⟩) l.length (smix l (List.replicate l.length ByteArray.empty) p) ∧ Below w.heap.size w u) (fun i _ => l.length - (intOf i).toNat)
  case atStart => exact ⟨0, by omega, rfl, H0.out, hb1⟩
  case round =>
    obtain ⟨p, hp, rfl, hol, hbl⟩ := hrel
    have hml : (smix l (List.replicate l.length ByteArray.empty) p).length = l.length := smix_len HR.out p
    by_cases hlt : p < l.length
    · have M := hide (hol.set_ p (sg l p)).1
      have hc := hol.reads.at_ (i := p) (by omega)
      obtain ⟨b, o, he, hg, hc⟩ := hc
      obtain ⟨g', he', _, _, hfz⟩ := hol.frozen (by omega)
      injection he with he; injection he' with he'
      cases he; cases he'
      have fz := hfz p
      obtain ⟨b, o, rfl, hb0, hci⟩ := HI.out.at_ hlt
      have hci := keep_cell hbl hci
      rw [Nat.zero_add] at hc
      clear hml hfz hol
      go_wp2
      go_roundw
      case rel =>
        refine ⟨p + 1, by omega, by go_num, ?_, bl_set hbl (Nat.le_refl _) _⟩
        have := M.out
        rwa [smix_step HR.out hlt] at this
      case measure => simp [intOf]; omega
    · have hpe : p = l.length := by omega
      have M : Hid (OS wr 9 w.heap.size (some ⟨w.heap.size, 0, none⟩) l.length l) := hide (by
        rwa [hpe, smix_all HR.out] at hol)
      clear hml hol
      go_wp2
      go_ret
      exact ⟨_, _, rfl, M.out, hbl⟩
end Go.Proofs.Ytlfhfbeacleggaa

/- The ends of the pieces of a way. -/
import Derived.Test.YtafddofajfcffaaWyM
import Derived.Deep.LoopGhost
namespace Go.Proofs.Ytafddofajfcffaa
open Go.ChangeShapes Go.WideShapes Go.ChangeAt Go.RowKit
set_option linter.unusedVariables false
set_option maxRecDepth 4000

/-- A way with n pieces, each of which goes on from one of the ways. -/
def OKw (ws : List Wy) : Nat → Wy → Prop
  | 0, x => x.p = 0
  | n + 1, x => x.p = ((n + 1 : Nat) : Int) ∧ ∃ i : Nat, x.b = i ∧ i < ws.length ∧ OKw ws n (tg ws i)
/-- The ends of its pieces. -/
def endL (ws : List Wy) : Nat → Wy → List Int
  | 0, _ => []
  | n + 1, x => endL ws n (tg ws x.b.toNat) ++ [x.a]
theorem endL_len {ws : List Wy} : ∀ {n : Nat} {x : Wy}, (endL ws n x).length = n
  | 0, _ => rfl
  | n + 1, x => by simp only [endL, List.length_append, endL_len]; rfl
theorem OKw.p {ws : List Wy} : ∀ {n : Nat} {x : Wy}, OKw ws n x → x.p = n
  | 0, _, h => h
  | n + 1, _, h => h.1
theorem rep_set {q : Nat} {S : List Int} {z : Int} : (List.replicate (q + 1) 0 ++ S).set q z = List.replicate q 0 ++ z :: S := by
  rw [show List.replicate (q + 1) (0 : Int) = List.replicate q 0 ++ [0] by rw [List.replicate_succ'], List.append_assoc]
  simp
set_option maxHeartbeats 4000000 in
theorem endsOf_i (w : World) (B S : Nat) (ws : List Wy) (act N : Nat) (cnt : Bool) (x : Wy) (hs : WSt w B S ws act cnt) (hx : OKw ws N x) (hl : ws.length ≤ 1000000) (hN : N ≤ 1000000) :
    Calls Try.prog 143 #[.pointer (some ⟨S, 0, none⟩), wyv x] w fun e w' => ∃ A c, e = .returned (.slice A N c) ∧ OL w' 3 w.heap.size A c (endL ws N x) ∧ Below w.heap.size w w' := by
  obtain ⟨i0, hi0, hz0, hz1, hz2⟩ := info_parts int_info
  have HX := hide hx
  have hp := hx.p
  obtain ⟨x1, x2, x3, x4⟩ := x
  obtain rfl : x2 = (N : Int) := hp
  have HS0 := hide hs
  have hSz := hs.hS
  have WC : WyC (w.alloc (.cells #[.int .i64 x1, .int .i64 N, .int .i64 x3, .int .i64 x4] 152)) w.heap.size ⟨x1, N, x3, x4⟩ := by
    refine ⟨?_, ?_, ?_, ?_, fun j hj => ?_⟩
    · simp [go_sem]
    · simp [go_sem]
    · simp [go_sem]
    · simp [go_sem]
    · rcases (by omega : j = 0 ∨ j = 1 ∨ j = 2 ∨ j = 3) with rfl | rfl | rfl | rfl <;> simp [go_sem]
  have HW := hide WC
  clear hs hx WC
  go_enter Try.func143, Try.ntmps143
  go_wp2_with (refine wpList_make_full _ rfl _ _ _ rfl (w.heap.size + 1) 3 i0 _ 1 Try.underlying24 hi0 hz0 hz1 .i64 .i64 _ _ N rfl rfl rfl rfl (by rw [hz2]; omega) (by unfold maxLen; omega) (by simp) ?_; intro w1 hown hgr)
  have H0 : Hid (OL w1 3 (w.heap.size + 1) (some ⟨w.heap.size + 1, 0, none⟩) N (List.replicate N 0 ++ [])) := hide (by
    rw [List.append_nil]
    unfold OL
    have e1 : (madeCells (Value.int .i64 0).cells N).toList = List.replicate N (.int .i64 0) := toList_madeCells_one _ _
    simp only [Nat.mul_one, e1] at hown
    simpa using hown)
  have hb1 : Below w.heap.size w w1 := (bl_alloc (bl_refl w) _).trans ((below_new hgr).mono (by simp))
  have hw1 := hide (HW.out.below (below_new hgr) (Nat.le_refl _))
  have hz1' := (World.ownsRow.lt hown (w.heap.size + 1) (by simp [Value.ownBlock])).2
  have HS := hide (show WSt w B S ws act cnt from HS0.out)
  clear hown hgr HW
  go_loopg [] N (fun q u => ∃ (x : Wy) (L : List Int), OKw ws q x ∧ q ≤ N ∧ endL ws N ⟨x1, N, x3, x4⟩ = endL ws q x ++ L ∧ q + L.length = N ∧ WyC u w.heap.size x ∧ OL u 3 (w.heap.size + 1) (some ⟨w.heap.size + 1, 0, none⟩) N (List.replicate q 0 ++ L) ∧ w.heap.size + 2 ≤ u.heap.size ∧ Below w.heap.size w u)
  case atStart => exact ⟨⟨x1, N, x3, x4⟩, [], HX.out, Nat.le_refl _, by rw [List.append_nil], by simp, hw1.out, H0.out, by omega, hb1⟩
  case round =>
    obtain ⟨x, L, hok, hq, hend, hlen, hwc, hol, hzu, hbl⟩ := hrel
    have OK := hide hok
    have EN := hide hend
    have LE := hide hlen
    have WC := hide hwc
    have HO := hide hol
    have BL := hide hbl
    have xp := hok.p
    obtain ⟨y1, y2, y3, y4⟩ := x
    obtain rfl : y2 = (gk : Int) := xp
    obtain ⟨k1, k2, k3, k4, kf⟩ := hwc
    simp only at k1 k2 k3 k4
    clear hok hend hlen hbl
    rcases Nat.eq_zero_or_pos gk with h0 | h0
    · subst h0
      have E1 := hide (show endL ws N ⟨x1, N, x3, x4⟩ = L by rw [EN.out]; rfl)
      have E2 : List.replicate 0 (0 : Int) ++ L = L := rfl
      have E3 := hide (show L.length = N by have := LE.out; omega)
      rw [E2] at hol
      clear E2 HO LE EN
      go_wp2
      go_ret
      exact ⟨_, N, rfl, by rw [E1.out]; exact hol.more (by omega), BL.out⟩
    · obtain ⟨n, rfl⟩ : ∃ n, gk = n + 1 := ⟨gk - 1, by omega⟩
      obtain ⟨i, hi, hil, hoi⟩ := OK.out.2
      obtain rfl : y4 = (i : Int) := hi
      have ek : (((n + 1 : Nat) : Int)) - 1 = (n : Int) := by omega
      have E1 := hide (show endL ws N ⟨x1, N, x3, x4⟩ = endL ws n (tg ws i) ++ y1 :: L by
        rw [EN.out]
        show (endL ws n (tg ws ((i : Int).toNat)) ++ [y1]) ++ L = _
        rw [Int.toNat_natCast, List.append_assoc]; rfl)
      have HOI := hide hoi
      have hlr := hide (show (List.replicate (n + 1) (0 : Int) ++ L).length = N by rw [List.length_append, List.length_replicate]; exact LE.out)
      have hnN : n < N := by have := LE.out; omega
      have HW := hide (HS.out.below BL.out (Nat.le_refl _))
      obtain ⟨g, c, c0, hgS, hto⟩ := (HS.out.below BL.out (Nat.le_refl _)).own
      have hgw : g < w.heap.size := by
        obtain ⟨g0, c0', h1, _, h3⟩ := HS.out.own
        have h4 := (BL.out.cell (p := ⟨S, 0, none⟩) hSz).trans h1
        rw [c0] at h4
        injection h4 with h4
        injection h4 with h4
        injection h4 with h4
        injection h4 with h4
        subst h4
        obtain ⟨g1, e, _, h5, _⟩ := h3.form (by omega)
        cases e
        exact h5
      obtain ⟨b, o, he, _, d0, d1, d2, d3⟩ := hto.reads.at4 hil
      injection he with he
      cases he
      have P := hide (HOI.out.p)
      obtain ⟨z, hz⟩ : ∃ z, z = tg ws i := ⟨_, rfl⟩
      rw [← hz] at d0 d1 d2 d3 HOI E1 P
      clear hz hoi OK EN
      obtain ⟨z1, z2, z3, z4⟩ := z
      obtain rfl : z2 = (n : Int) := P.out
      simp only [Nat.zero_add] at d0 d1 d2 d3
      have fz : wr.frozen? ⟨w.heap.size + 1, n, none⟩ = false := by
        obtain ⟨g', e, _, _, hfz⟩ := hol.frozen (by rw [hlr.out]; omega)
        cases e
        exact hfz n
      have kc : wr.cell? ⟨w.heap.size + 1, n, none⟩ = some (.int .i64 (ng (List.replicate (n + 1) 0 ++ L) n)) := by
        obtain ⟨b', o', e, _, h⟩ := hol.reads.at_ (i := n) (by rw [hlr.out]; omega)
        cases e
        rw [Nat.zero_add] at h
        exact h
      obtain ⟨M1, M2⟩ := hol.set_ n y1
      rw [rep_set] at M1
      have HM := hide M1
      have HM2 := hide M2
      have kf0 := kf 0 (by omega)
      have kf1 := kf 1 (by omega)
      have kf2 := kf 2 (by omega)
      have kf3 := kf 3 (by omega)
      obtain ⟨v0, hv0⟩ : ∃ v, v = ng (List.replicate (n + 1) 0 ++ L) n := ⟨_, rfl⟩
      rw [← hv0] at kc
      clear hol M1 M2 kf hto hv0 HO
      go_wp2
      have hne : ∀ (o1 o2 : Nat), (⟨w.heap.size, o1, none⟩ : Addr) ≠ ⟨w.heap.size + 1, o2, none⟩ := fun o1 o2 e => by injection e with e; omega
      have WD : WyC (wr.setCell ⟨w.heap.size + 1, n, none⟩ (.int .i64 y1)) w.heap.size ⟨y1, ((n + 1 : Nat) : Int), y3, (i : Int)⟩ :=
        ⟨keep_set WC.out.k1 (hne _ _) _, keep_set WC.out.k2 (hne _ _) _, keep_set WC.out.k3 (hne _ _) _, keep_set WC.out.k4 (hne _ _) _, fun j hj => by rw [World.frozen?_setCell]; exact WC.out.fz j hj⟩
      have HWD := hide WD
      have BD := hide (show Below w.heap.size w (wr.setCell ⟨w.heap.size + 1, n, none⟩ (.int .i64 y1)) from bl_set BL.out (show w.heap.size ≤ w.heap.size + 1 by omega) _)
      clear WD
      go_region_with (fail)
      all_goals
        go_wp2
        go_roundg n
        case measure => omega
        case rel =>
          refine ⟨⟨z1, n, z3, z4⟩, y1 :: L, HOI.out, ?_, E1.out, ?_, ?_, ?_, ?_, ?_⟩
          · omega
          · have := LE.out
            simp
            omega
          · exact (HWD.out.put ⟨z1, n, z3, z4⟩).below (bl_drew (bl_refl _)) (Nat.le_refl _)
          rotate_left
          · simp
            omega
          · exact bl_drew (bl_set (bl_set (bl_set (bl_set BD.out (Nat.le_refl _) _) (Nat.le_refl _) _) (Nat.le_refl _) _) (Nat.le_refl _) _)
          have G0 := World.grownBy.refl (wr.setCell ⟨w.heap.size + 1, n, none⟩ (.int .i64 y1)) (some w.heap.size)
          have G1 := on_set' G0 (p := ⟨w.heap.size, 0, none⟩) (.inl rfl) (.int .i64 z1)
          have G2 := on_set' G1 (p := ⟨w.heap.size, 1, none⟩) (.inl rfl) (.int .i64 (n : Int))
          have G3 := on_set' G2 (p := ⟨w.heap.size, 2, none⟩) (.inl rfl) (.int .i64 z3)
          have G4 := on_set' G3 (p := ⟨w.heap.size, 3, none⟩) (.inl rfl) (.int .i64 z4)
          have K := HM.out.kept G4 (fun k hk e => by
            have h1 : (Value.slice (some ⟨w.heap.size + 1, 0, none⟩) (List.replicate n 0 ++ y1 :: L).length N).ownBlock = some (w.heap.size + 1) := rfl
            rw [h1] at hk
            cases hk
            injection e with e
            omega)
          exact K.drew
end Go.Proofs.Ytafddofajfcffaa

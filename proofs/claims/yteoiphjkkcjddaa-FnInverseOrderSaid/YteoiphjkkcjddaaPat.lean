/- ParsePattern answers as its model does. -/
import Derived.Test.YteoiphjkkcjddaaStrs
import Derived.Test.YteoiphjkkcjddaaWord
import Derived.Test.YteoiphjkkcjddaaBLists
import Derived.Test.YteoiphjkkcjddaaPatM
namespace Go.Proofs.Yteoiphjkkcjddaa
open Go.ChangeShapes Go.WideShapes Go.ChangeAt Go.RowKit
set_option linter.unusedVariables false

theorem u8_info : (Try.prog.info? 5).map (fun i => (i.zero, i.size, i.bytes)) = some (some (.int .u8 0), 1, 1) := by kernel_rfl
/-- Rows of bytes and of integers lie in different blocks. -/
theorem bi_apart {w : World} {B B' c d : Nat} {A A' : Option Addr} {l : List UInt8} {m : List Int} (h : OB w 5 B A c l) (h' : OL w 3 B' A' d m) : ∀ k, (Value.slice A l.length c).ownBlock = some k → (Value.slice A' m.length d).ownBlock ≠ some k := fun k hk hk' => by
  rcases h.2 with ⟨h1, _⟩ | ⟨g, cap, cur, h1, _, h3, _⟩
  · rw [h1] at hk; simp [Value.ownBlock] at hk
  · rw [h1] at hk; simp [Value.ownBlock] at hk; subst hk
    rcases h'.2 with ⟨h1', _⟩ | ⟨g', cap', cur', h1', _, h3', _⟩
    · rw [h1'] at hk'; simp [Value.ownBlock] at hk'
    · rw [h1'] at hk'; simp [Value.ownBlock] at hk'; subst hk'
      rw [h3] at h3'
      injection h3' with h3'
      injection h3' with _ h4
      exact absurd h4 (by decide)
theorem fold_push (l : List UInt8) (r : ByteArray) : (l.map fun c : UInt8 => (c.toNat : Int)).foldl (fun r n => r.push (UInt8.ofNat n.toNat)) r = ⟨r.data ++ l.toArray⟩ := by
  induction l generalizing r with
  | nil => simp
  | cons c l ih =>
    simp only [List.map_cons, List.foldl_cons, ih]
    apply ByteArray.ext
    simp [ByteArray.push]
/-- string(letters). -/
theorem conv_bytes {w : World} {B c : Nat} {A : Option Addr} {l : List UInt8} (h : OB w 5 B A c l) (h0 : 0 < l.length) : (convert 30 9 (.slice A l.length c)).run Try.prog w = .ok (.string ⟨l.toArray⟩) w := by
  obtain ⟨g, rfl, _⟩ := h.form h0
  have hc : ∀ j u, (l.map bv)[j]? = some u → w.cell? ((⟨g, 0, none⟩ : Addr).add j) = some u := World.ownsRow.cells h (g := g) rfl
  have hl := run_loadCells_list (P := Try.prog) w ⟨g, 0, none⟩ (l.map bv) hc
  rw [run_convert_bytes_string _ 30 9 5 _ _ _ Try.underlying30 Try.underlying5 Try.underlying9, run_bytesToString _ _ l.length c (l.map fun c : UInt8 => (c.toNat : Int))]
  · rw [fold_push]
    congr 2
    apply ByteArray.ext
    simp
  · rw [List.length_map] at hl
    rw [hl]
    simp [bv, Function.comp_def]

/-- The k-th byte of a text. -/
theorem byte_at {s : ByteArray} {k : Nat} (h : k < s.size) : s.data.toList.getD k 0 = s[k] := by
  rw [List.getD_eq_getElem?_getD, List.getElem?_eq_getElem (by simpa using h)]
  rfl
theorem data_len (s : ByteArray) : s.data.toList.length = s.size := by simp

/-- What ParsePattern leaves. -/
def RetP (w : World) (r : Option (List UInt8 × List Int)) (e : Ending) (w' : World) : Prop := ∃ A c, e = .returned (.tuple #[.string ⟨((r.map (·.1)).getD []).toArray⟩, .slice A ((r.map (·.2)).getD []).length c, .bool r.isSome]) ∧ OL w' 3 w.heap.size A c ((r.map (·.2)).getD []) ∧ Below w.heap.size w w'
theorem RetP.no {w w' : World} {r : Option (List UInt8 × List Int)} (h : r = none) (hb : Below w.heap.size w w') : RetP w r (.returned (.tuple #[.string ⟨#[]⟩, .slice none 0 0, .bool false])) w' := by
  subst h
  exact ⟨none, 0, rfl, OL.nil _ _ _, hb⟩

end Go.Proofs.Yteoiphjkkcjddaa

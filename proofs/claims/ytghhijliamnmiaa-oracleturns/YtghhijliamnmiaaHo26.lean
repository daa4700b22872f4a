import Derived.Test.YtghhijliamnmiaaHo25
import Derived.Laws.IdiomStrings
/- The contracts of the document's own Fixed, of the law's own same and of awake: the answer; what lay in memory before stays as it was. -/
namespace Go.Proofs.Ytghhijliamnmiaa.Wi
open Go.RowKit WireMath
set_option maxRecDepth 100000
set_option linter.unusedSimpArgs false

/-- Bytes as a text. -/
def str (l : List Nat) : ByteArray := ⟨(l.map UInt8.ofNat).toArray⟩

theorem str_nil (w : World) : (convert 37 9 (.slice none 0 0)).run Try.prog w = .ok (.string (str [])) w := by kernel_rfl

theorem str_of {n₀ : Nat} {w : World} {v : Value} {l : List Nat} (h : Bs n₀ w v l) (hl : ∀ c ∈ l, c < 256) :
    (convert 37 9 v).run Try.prog w = .ok (.string (str l)) w := by
  obtain ⟨ao, cap, rfl, h2, h3, h4, h5⟩ := h
  cases ao with
  | none =>
    have := h4 rfl
    obtain rfl : l = [] := List.eq_nil_of_length_eq_zero (by omega)
    obtain rfl : cap = 0 := by omega
    exact str_nil w
  | some ad =>
    have e := run_convert_bytes_back (P := Try.prog) w 37 9 5 ad cap (l.map UInt8.ofNat) Try.underlying37 Try.underlying5 Try.underlying9 ?_
    · rw [List.length_map] at e; exact e
    · intro j hj
      rw [List.length_map] at hj
      have hne : l ≠ [] := by rintro rfl; simp at hj
      obtain ⟨b, off, e1, _, e3⟩ := h5 hne
      obtain rfl := Option.some.inj e1
      have := e3 j l[j] (by simp [hj])
      have hc := hl l[j] (List.getElem_mem hj)
      rw [Addr.add_lit, this]
      simp only [List.getElem_map, UInt8.toNat_ofNat']
      rw [Nat.mod_eq_of_lt (by omega)]

end Go.Proofs.Ytghhijliamnmiaa.Wi


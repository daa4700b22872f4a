import Derived.Test.YtoipjmjhplkibaaDoorQ19
import Derived.Test.YtoipjmjhplkibaaDoorQ06
/- Byte slices of the one kind are such of the other. -/
namespace Go.Proofs.YtoipjmjhplkibaaDoor
open Go.RowKit
set_option maxRecDepth 100000

theorem Bs.toFr {n : Nat} {w : World} {v : Value} {l : List Nat} (h : @Bs keepAll n w v l) : Fr.Bs n w v l := by
  obtain ⟨ao, cap, h1, h2, h3, h4, h5⟩ := h
  exact ⟨ao, cap, h1, h2, h3, h4, fun hne => by
    obtain ⟨b, off, e1, e2, e3⟩ := h5 hne
    exact ⟨b, off, e1, e2.1, e3⟩⟩
end Go.Proofs.YtoipjmjhplkibaaDoor


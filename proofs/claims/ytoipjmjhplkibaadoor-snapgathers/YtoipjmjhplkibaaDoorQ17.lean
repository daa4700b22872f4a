import Derived.Test.YtoipjmjhplkibaaDoorQ03
import Derived.Test.YtoipjmjhplkibaaDoorQ04
import Derived.Test.YtoipjmjhplkibaaDoorQ16
import Derived.Lib.SmallJoins
import Derived.Lib.AtoiErrMem
import Derived.Lib.AppendIntMem
import Derived.Laws.IdiomStrings
/- The contracts of the program's nameOf and numberOf: a segment's name, and its number. -/
namespace Go.Proofs.YtoipjmjhplkibaaDoor
open Go.RowKit DiskMath
set_option maxRecDepth 100000
set_option linter.unusedSimpArgs false
set_option linter.unusedVariables false

/-- The tables that the program reads: of sums, and of powers of ten. -/
def Tb (w : World) : Prop := Fr.Tab w ∧ Lib.TabIs Tryd.prog w "internal/strconv.uint64pow10" .u64 Lib.pow10Tab
theorem pow_at : Tryd.prog.globalNamed "internal/strconv.uint64pow10" = some 0 := by kernel_rfl
theorem Tb.below {n : Nat} {w w' : World} (h : Tb w) (hb : Below n w w') (hn : 2 ≤ n) : Tb w' := by
  refine ⟨h.1.below hb (by omega), ?_⟩
  have h2 := h.2
  unfold Lib.TabIs World.var? at h2 ⊢
  rw [pow_at] at h2 ⊢
  simp only [Option.bind_some] at h2 ⊢
  rw [hb.block 0 (by omega)]
  exact h2
theorem Tb.two {w : World} (h : Tb w) : 2 ≤ w.heap.size := by
  have h2 := h.2
  unfold Lib.TabIs World.var? at h2
  rw [pow_at] at h2
  simp only [Option.bind_some] at h2
  have h1 := h.1.pos
  rcases Nat.lt_or_ge 0 w.heap.size with h' | h'
  · omega
  · rw [Array.getElem?_eq_none h'] at h2; cases h2
theorem Tb.new {w w' : World} (h : Tb w) (hb : Below w.heap.size w w') : Tb w' := h.below hb h.two
theorem Tb.drewN {w : World} (h : Tb w) (k : Nat) : Tb (w.drewN k) := h.below (below_drewN (Below.refl w.heap.size w) k) h.two

theorem itoa_name (n : Nat) (hn : n < 100000000) : ∃ S : ByteArray, (⟨(Lib.itoa (100000000 + (n : Int))).toArray⟩ : ByteArray) = S ∧ S.size = 9 ∧ (⟨#[119, 97, 108, 45]⟩ : ByteArray) ++ S.extract 1 9 = segName n := by
  have e1 : Lib.itoa (100000000 + (n : Int)) = 49 :: (digs 8 n).map UInt8.ofNat := by
    have e0 : (100000000 + (n : Int)) = ((10 ^ 8 + n : Nat) : Int) := by omega
    unfold Lib.itoa
    rw [e0, if_neg (by omega), Int.toNat_natCast]
    exact dec_digs 8 n hn
  have hl : ((digs 8 n).map UInt8.ofNat).length = 8 := by rw [List.length_map, digs_length]
  refine ⟨_, rfl, ?_, ?_⟩
  · show (Lib.itoa _).toArray.size = 9
    rw [e1]
    simp [digs_length]
  · rw [e1]
    apply ByteArray.ext
    rw [← Array.toList_inj, segName_list]
    generalize (digs 8 n).map UInt8.ofNat = D at *
    have h9 : (9 : Nat) = 1 + D.length := by omega
    rw [h9]
    simp [ByteArray.data_append, ByteArray.data_extract]

theorem parse_name (n : Nat) (hn : n < 100000000) : Lib.parseUintB 32 ((digs 8 n).map UInt8.ofNat) = .ok n := by
  unfold Lib.parseUintB
  have hl : ((digs 8 n).map UInt8.ofNat).length = 8 := by rw [List.length_map, digs_length]
  rw [if_neg (by intro e; rw [e] at hl; cases hl), parse_digs (2 ^ 32 - 1) (by decide) 8 0 n (by rw [Nat.mod_eq_of_lt (by omega)]; omega), Nat.mod_eq_of_lt (by omega)]
  simp

end Go.Proofs.YtoipjmjhplkibaaDoor


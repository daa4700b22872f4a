import Derived.Test.YtoipjmjhplkibaaDoorQ06
import Derived.Test.YtoipjmjhplkibaaDoorQ09
import Derived.Deep.LoopGhost
import Derived.Laws.BitsAllLaws
/- The contracts of crc.Step, Of and Same: the sum of bytes that go on; nothing turns. -/
namespace Go.Proofs.YtoipjmjhplkibaaDoor.Fr
open Go.RowKit CrcMath
set_option maxRecDepth 100000
set_option linter.unusedSimpArgs false

/-- The table's sixteen cells. -/
def Tab (w : World) : Prop := ∀ i, i < 16 → w.cell? ⟨1, i, none⟩ = some (.int .u32 (Tn 4 i : Int))
theorem Tab.below {n : Nat} {w w' : World} (h : Tab w) (hb : Below n w w') (hn : 1 < n) : Tab w' := fun i hi => (hb.cell (p := ⟨1, i, none⟩) hn).trans (h i hi)
theorem Tab.pos {w : World} (h : Tab w) : 1 < w.heap.size := World.block_lt_of_cell? w _ (h 0 (by decide))
theorem Tab.below' {n : Nat} {w w' : World} (h : Tab w) (hb : Below n w w') (hn : w.heap.size ≤ n) : Tab w' := h.below hb (Nat.lt_of_lt_of_le h.pos hn)

theorem half_eq (y : Nat) (hy : y < 4294967296) : bits .xor .u32 ((y : Int) / 16) ((Tn 4 (y % 16) : Nat) : Int) = ((Tn 4 y : Nat) : Int) := by
  have e : (y : Int) / 16 = ((y / 16 : Nat) : Int) := by omega
  rw [e, u32_xor_nat _ _ (by omega) (Tn_lt 4 (by omega)), by_half]

set_option maxHeartbeats 1000000 in
theorem step_of (n₀ : Nat) (l : List Nat) (v : Value) (s : Nat) (w : World) (hT : Tab w) (hB : Bs n₀ w v l) (hl : ∀ c ∈ l, c < 256) (hs : s < 4294967296) :
    Calls Tryd.prog 76 #[.int .u32 (s : Int), v] w fun e w' => e = .returned (.int .u32 (crcStep s l : Int)) ∧ w' = w := by
  obtain ⟨ao, cap, rfl, h2, h3, h4, h5⟩ := id hB
  have hm : l.length ≤ 9223372036854775807 := by unfold maxLen at h3; omega
  have q0 : bits .xor .u32 IntKind.u32.max (s : Int) = ((crcList (4294967295 ^^^ s) (l.take 0) : Nat) : Int) := u32_xor_nat 4294967295 s (by decide) hs
  go_enter Tryd.func76, Tryd.ntmps76
  go_wp2
  go_loopg [5, 12] l.length (fun g s5 s12 wr => ∃ i : Nat, i + g = l.length ∧ s12 = .int .i64 (i : Int) ∧ s5 = .int .u32 ((crcList (4294967295 ^^^ s) (l.take i) : Nat) : Int) ∧ wr = w)
  case atStart => exact ⟨0, by simp, rfl, rfl, rfl⟩
  case round =>
    clear q0
    obtain ⟨i, hi, rfl, rfl, rfl⟩ := hrel
    have hx := crcList_lt (l.take i) (xor_lt32 (a := 4294967295) (by decide) hs) (fun c hc => hl c (List.mem_of_mem_take hc))
    by_cases hlt : i < l.length
    · obtain ⟨b, off, rfl, hb, hc⟩ := h5 (by rintro rfl; simp at hlt)
      have hcell := hc i l[i] (List.getElem?_eq_getElem hlt)
      have hc256 := hl l[i] (List.getElem_mem hlt)
      have E : Hid (crcList (4294967295 ^^^ s) (l.take (i + 1)) = Tn 4 (Tn 4 (crcList (4294967295 ^^^ s) (l.take i) ^^^ l[i]))) := by
        show _ = _
        rw [two_halves, List.take_succ_eq_append_getElem hlt, crcList_snoc]; rfl
      generalize l[i] = c at hcell hc256 E
      generalize crcList (4294967295 ^^^ s) (l.take i) = x at hx E ⊢
      have hlti : (i : Int) < (l.length : Int) := by omega
      have hxc : x ^^^ c < 4294967296 := xor_lt32 hx (by omega)
      have q1 : bits .xor .u32 (x : Int) (c : Int) = ((x ^^^ c : Nat) : Int) := u32_xor_nat x c hx (by omega)
      have hy : Tn 4 (x ^^^ c) < 4294967296 := Tn_lt 4 hxc
      have t1 := hT ((x ^^^ c) % 16) (by omega)
      have q2 := half_eq (x ^^^ c) hxc
      have t2 := hT (Tn 4 (x ^^^ c) % 16) (by omega)
      have q3 := half_eq (Tn 4 (x ^^^ c)) hy
      generalize x ^^^ c = y at *
      generalize Tn 4 y = z at *
      clear hc h5 hl h4 hB hT
      go_wp2
      go_roundg (gk - 1)
      case measure => omega
      case rel => exact ⟨i + 1, by omega, by go_num, by rw [E.out], rfl⟩
    · have hlti : ¬ (i : Int) < (l.length : Int) := by omega
      have E : Hid (crcStep s l = crcList (4294967295 ^^^ s) (l.take i) ^^^ 4294967295) := by
        show _ = _
        rw [List.take_of_length_le (by omega)]; rfl
      generalize crcList (4294967295 ^^^ s) (l.take i) = x at hx E ⊢
      have q1 : bits .xor .u32 IntKind.u32.max (x : Int) = ((4294967295 ^^^ x : Nat) : Int) := u32_xor_nat 4294967295 x (by decide) hx
      clear h5 hl h4 hB hT
      go_wp2
      go_ret
      exact ⟨by rw [E.out, Nat.xor_comm]; rfl, rfl⟩

theorem of_of (n₀ : Nat) (l : List Nat) (v : Value) (w : World) (hT : Tab w) (hB : Bs n₀ w v l) (hl : ∀ c ∈ l, c < 256) :
    Calls Tryd.prog 62 #[v] w fun e w' => e = .returned (.int .u32 (crcSum l : Int)) ∧ w' = w := by
  have hc := step_of n₀ l v 0 w hT hB hl (by decide)
  have E : Hid (crcSum l = crcStep 0 l) := rfl
  clear hB hT
  go_enter Tryd.func62, Tryd.ntmps62
  go_wp2_with fail
  refine hc.mono ?_
  rintro e w' ⟨rfl, hw⟩
  go_wp2
  go_ret
  exact ⟨by rw [E.out]; rfl, by first | exact hw | rfl⟩
end Go.Proofs.YtoipjmjhplkibaaDoor.Fr

/- The contracts of the document's own Of: the sum, bit by bit; nothing turns. -/
namespace Go.Proofs.YtoipjmjhplkibaaDoor.Fr
open Go.RowKit CrcMath
set_option maxRecDepth 100000
set_option linter.unusedSimpArgs false

end Go.Proofs.YtoipjmjhplkibaaDoor.Fr


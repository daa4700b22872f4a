import Derived.Test.YtgfoogeiancecaaGreatDoorHw05
import Derived.Test.YtgfoogeiancecaaGreatDoorHw08
import Derived.Deep.LoopGhost
import Derived.Laws.BitsAllLaws
/- The contracts of crc.Step, Of and Same: the sum of bytes that go on; nothing turns. -/
namespace Go.Proofs.YtgfoogeiancecaaGreatDoor.Fr
open Go.RowKit CrcMath
set_option maxRecDepth 100000
set_option linter.unusedSimpArgs false

/-- The table's sixteen cells. -/
def Tab (w : World) : Prop := ∀ i, i < 16 → w.cell? ⟨0, i, none⟩ = some (.int .u32 (Tn 4 i : Int))
theorem Tab.below {n : Nat} {w w' : World} (h : Tab w) (hb : Below n w w') (hn : 0 < n) : Tab w' := fun i hi => (hb.cell (p := ⟨0, i, none⟩) hn).trans (h i hi)
theorem Tab.pos {w : World} (h : Tab w) : 0 < w.heap.size := World.block_lt_of_cell? w _ (h 0 (by decide))
theorem Tab.below' {n : Nat} {w w' : World} (h : Tab w) (hb : Below n w w') (hn : w.heap.size ≤ n) : Tab w' := h.below hb (Nat.lt_of_lt_of_le h.pos hn)

theorem half_eq (y : Nat) (hy : y < 4294967296) : bits .xor .u32 ((y : Int) / 16) ((Tn 4 (y % 16) : Nat) : Int) = ((Tn 4 y : Nat) : Int) := by
  have e : (y : Int) / 16 = ((y / 16 : Nat) : Int) := by omega
  rw [e, u32_xor_nat _ _ (by omega) (Tn_lt 4 (by omega)), by_half]

set_option maxHeartbeats 1000000 in
theorem step_of (n₀ : Nat) (l : List Nat) (v : Value) (s : Nat) (w : World) (hT : Tab w) (hB : Bs n₀ w v l) (hl : ∀ c ∈ l, c < 256) (hs : s < 4294967296) :
    Calls Tryz.prog 138 #[.int .u32 (s : Int), v] w fun e w' => e = .returned (.int .u32 (crcStep s l : Int)) ∧ w' = w := by
  obtain ⟨ao, cap, rfl, h2, h3, h4, h5⟩ := id hB
  have hm : l.length ≤ 9223372036854775807 := by unfold maxLen at h3; omega
  have q0 : bits .xor .u32 IntKind.u32.max (s : Int) = ((crcList (4294967295 ^^^ s) (l.take 0) : Nat) : Int) := u32_xor_nat 4294967295 s (by decide) hs
  go_enter Tryz.func138, Tryz.ntmps138
  go_wp2
  go_loopg [5, 12] l.length (fun g s5 s12 wr => ∃ i : Nat, i + g = l.length ∧ s12 = .int .i64 (i : Int) ∧ s5 = .int .u32 ((crcList (4294967295 ^^^ s) (l.take i) : Nat) : Int) ∧ wr = w)
  case atStart => exact ⟨0, by simp, rfl, rfl, rfl⟩
  case round =>
    clear q0
    obtain ⟨i, hi, rfl, rfl, rfl⟩ := hrel
    have hx := crcList_lt (l.take i) (xor_lt32 (a := 4294967295) (by decide) hs) (fun c hc => hl c (List.mem_of_mem_take hc))
    by_cases hlt : i < l.length
    · obtain ⟨b, off, rfl, hb, hc⟩ := h5 (by rintro rfl; simp at hlt)
      have hcell := hc i l[i] (List.getElem?_eq_getElem hlt)
      have hc256 := hl l[i] (List.getElem_mem hlt)
      have E : Hid (crcList (4294967295 ^^^ s) (l.take (i + 1)) = Tn 4 (Tn 4 (crcList (4294967295 ^^^ s) (l.take i) ^^^ l[i]))) := by
        show _ = _
        rw [two_halves, List.take_succ_eq_append_getElem hlt, crcList_snoc]; rfl
      generalize l[i] = c at hcell hc256 E
      generalize crcList (4294967295 ^^^ s) (l.take i) = x at hx E ⊢
      have hlti : (i : Int) < (l.length : Int) := by omega
      have hxc : x ^^^ c < 4294967296 := xor_lt32 hx (by omega)
      have q1 : bits .xor .u32 (x : Int) (c : Int) = ((x ^^^ c : Nat) : Int) := u32_xor_nat x c hx (by omega)
      have hy : Tn 4 (x ^^^ c) < 4294967296 := Tn_lt 4 hxc
      have t1 := hT ((x ^^^ c) % 16) (by omega)
      have q2 := half_eq (x ^^^ c) hxc
      have t2 := hT (Tn 4 (x ^^^ c) % 16) (by omega)
      have q3 := half_eq (Tn 4 (x ^^^ c)) hy
      generalize x ^^^ c = y at *
      generalize Tn 4 y = z at *
      clear hc h5 hl h4 hB hT
      go_wp2
      go_roundg (gk - 1)
      case measure => omega
      case rel => exact ⟨i + 1, by omega, by go_num, by rw [E.out], rfl⟩
    · have hlti : ¬ (i : Int) < (l.length : Int) := by omega
      have E : Hid (crcStep s l = crcList (4294967295 ^^^ s) (l.take i) ^^^ 4294967295) := by
        show _ = _
        rw [List.take_of_length_le (by omega)]; rfl
      generalize crcList (4294967295 ^^^ s) (l.take i) = x at hx E ⊢
      have q1 : bits .xor .u32 IntKind.u32.max (x : Int) = ((4294967295 ^^^ x : Nat) : Int) := u32_xor_nat 4294967295 x (by decide) hx
      clear h5 hl h4 hB hT
      go_wp2
      go_ret
      exact ⟨by rw [E.out, Nat.xor_comm]; rfl, rfl⟩

theorem of_of (n₀ : Nat) (l : List Nat) (v : Value) (w : World) (hT : Tab w) (hB : Bs n₀ w v l) (hl : ∀ c ∈ l, c < 256) :
    Calls Tryz.prog 115 #[v] w fun e w' => e = .returned (.int .u32 (crcSum l : Int)) ∧ w' = w := by
  have hc := step_of n₀ l v 0 w hT hB hl (by decide)
  have E : Hid (crcSum l = crcStep 0 l) := rfl
  clear hB hT
  go_enter Tryz.func115, Tryz.ntmps115
  go_wp2_with fail
  refine hc.mono ?_
  rintro e w' ⟨rfl, hw⟩
  go_wp2
  go_ret
  exact ⟨by rw [E.out]; rfl, by first | exact hw | rfl⟩
end Go.Proofs.YtgfoogeiancecaaGreatDoor.Fr

/- The contracts of the document's own Of: the sum, bit by bit; nothing turns. -/
namespace Go.Proofs.YtgfoogeiancecaaGreatDoor.Fr
open Go.RowKit CrcMath
set_option maxRecDepth 100000
set_option linter.unusedSimpArgs false

set_option maxHeartbeats 1000000 in
theorem refOf_of (n₀ : Nat) (l : List Nat) (v : Value) (w : World) (hB : Bs n₀ w v l) (hl : ∀ c ∈ l, c < 256) :
    Calls Tryz.prog 99 #[v] w fun e w' => e = .returned (.int .u32 (crcSum l : Int)) ∧ w' = w := by
  obtain ⟨ao, cap, rfl, h2, h3, h4, h5⟩ := id hB
  have hm : l.length ≤ 9223372036854775807 := by unfold maxLen at h3; omega
  go_enter Tryz.func99, Tryz.ntmps99
  go_wp2
  go_loopg [3, 4] l.length (fun g s3 s4 wr => ∃ i : Nat, i + g = l.length ∧ s4 = .int .i64 (i : Int) ∧ s3 = .int .u32 ((crcList 4294967295 (l.take i) : Nat) : Int) ∧ wr = w)
  case atStart => exact ⟨0, by simp, rfl, rfl, rfl⟩
  case round =>
    obtain ⟨i, hi, rfl, rfl, rfl⟩ := hrel
    have hx := crcList_lt (l.take i) (x := 4294967295) (by decide) (fun c hc => hl c (List.mem_of_mem_take hc))
    by_cases hlt : i < l.length
    · obtain ⟨b, off, rfl, hb, hc⟩ := h5 (by rintro rfl; simp at hlt)
      have hcell := hc i l[i] (List.getElem?_eq_getElem hlt)
      have hc256 := hl l[i] (List.getElem_mem hlt)
      have E : Hid (crcList 4294967295 (l.take (i + 1)) = Tn 8 (crcList 4294967295 (l.take i) ^^^ l[i])) := by
        show _ = _
        rw [List.take_succ_eq_append_getElem hlt, crcList_snoc]; rfl
      generalize l[i] = c at hcell hc256 E
      generalize crcList 4294967295 (l.take i) = x at hx E ⊢
      have hlti : (i : Int) < (l.length : Int) := by omega
      clear hc h5 hl h4 hB
      go_wp2
      go_loopg [3, 5] 8 (fun g s3 s5 wr1 => ∃ k z : Nat, k + g = 8 ∧ s5 = .int .i64 (k : Int) ∧ s3 = .int .u32 (z : Int) ∧ z < 4294967296 ∧ Hid (z ^^^ c / 2 ^ k = Tn k (x ^^^ c)) ∧ wr1 = wr)
      case atStart => exact ⟨0, x, by simp, rfl, rfl, hx, by show _ = _; simp [Tn], rfl⟩
      case round =>
        obtain ⟨k, z, hk, rfl, rfl, hz, E1, rfl⟩ := hrel
        by_cases hk8 : k < 8
        · have hki : (k : Int) < 8 := by omega
          have hck : c / 2 ^ k < 4294967296 := Nat.lt_of_le_of_lt (Nat.div_le_self _ _) (by omega)
          have q1 : bits .xor .u32 (z : Int) ((c : Int) / 2 ^ k) = ((z ^^^ c / 2 ^ k : Nat) : Int) := by
            have e : (c : Int) / 2 ^ k = ((c / 2 ^ k : Nat) : Int) := by push_cast; rfl
            rw [e, u32_xor_nat z _ hz hck]
          have q2 : bits .xor .u32 ((z : Int) / 2) 3988292384 = ((z / 2 ^^^ poly : Nat) : Int) := by
            have e : (z : Int) / 2 = ((z / 2 : Nat) : Int) := by omega
            rw [e]
            exact u32_xor_nat (z / 2) 3988292384 (by omega) (by decide)
          have E2 : Hid (Tn (k + 1) (x ^^^ c) = (if (z ^^^ c / 2 ^ k) % 2 = 1 then z / 2 ^^^ poly else z / 2) ^^^ c / 2 ^ (k + 1)) := by
            show _ = _
            rw [Tn_succ, bit_round z (c / 2 ^ k) _ E1.out, Nat.div_div_eq_div_mul, Nat.pow_succ]
          have hz2 : z / 2 ^^^ poly < 4294967296 := xor_lt32 (by omega) (by decide)
          generalize z ^^^ c / 2 ^ k = m at q1 E2
          clear E1
          by_cases hb1 : m % 2 = 1
          · have hbi : (m : Int) % 2 = 1 := by omega
            have hbt : (m : Int).tmod 2 = 1 := by rw [Int.tmod_eq_emod_of_nonneg (by omega)]; exact hbi
            go_wp2
            go_roundg (gk - 1)
            case measure => omega
            case rel => exact ⟨k + 1, z / 2 ^^^ poly, by omega, by go_num, rfl, hz2, by show _ = _; rw [E2.out, if_pos hb1], rfl⟩
          · have hbi : (m : Int) % 2 = 0 := by omega
            have hbt : (m : Int).tmod 2 = 0 := by rw [Int.tmod_eq_emod_of_nonneg (by omega)]; exact hbi
            go_wp2
            go_roundg (gk - 1)
            case measure => omega
            case rel => exact ⟨k + 1, z / 2, by omega, by go_num, by go_num, by omega, by show _ = _; rw [E2.out, if_neg hb1], rfl⟩
        · have hki : ¬ (k : Int) < 8 := by omega
          obtain rfl : k = 8 := by omega
          have E3 : Hid (z = crcList 4294967295 (l.take (i + 1))) := by
            show _ = _
            rw [E.out, ← E1.out]
            have : c / 2 ^ 8 = 0 := by omega
            rw [this, Nat.xor_zero]
          clear E E1
          go_wp2
          go_roundg (l.length - (i + 1))
          case measure => omega
          case rel => exact ⟨i + 1, by omega, by go_num, by rw [← E3.out], rfl⟩
    · have hlti : ¬ (i : Int) < (l.length : Int) := by omega
      have E : Hid (crcSum l = crcList 4294967295 (l.take i) ^^^ 4294967295) := by
        show _ = _
        rw [List.take_of_length_le (by omega)]; rfl
      generalize crcList 4294967295 (l.take i) = x at hx E ⊢
      have q1 : bits .xor .u32 (x : Int) 4294967295 = ((x ^^^ 4294967295 : Nat) : Int) := u32_xor_nat x 4294967295 hx (by decide)
      clear h5 hl h4 hB
      go_wp2
      go_ret
      exact ⟨by rw [E.out]; rfl, rfl⟩
end Go.Proofs.YtgfoogeiancecaaGreatDoor.Fr


import Derived.Test.YtoipjmjhplkibaaDoorQ33
/- The contract of a basket's Put: a chunk in its place, or why not. -/
namespace Go.Proofs.YtoipjmjhplkibaaDoor
open Go.RowKit
set_option maxRecDepth 100000
set_option linter.unusedSimpArgs false
set_option linter.unusedVariables false

/-- A copy into a row: only the row turns. -/
theorem run_copy_kept (w : World) (ty : TypeId) (dp sp : Option Addr) (dLen dCap sLen sCap : Nat) (g off : Nat) (cur : List Value) (t : TypeId) (hg : w.heap[g]? = some (.cells cur.toArray t (0, 0))) (cs : List Value) (hn : cs.length = Nat.min sLen dLen)
    (hpos : 0 < cs.length → dp = some ⟨g, off, none⟩ ∧ ∃ ad, sp = some ad ∧ ∀ j v, cs[j]? = some v → w.cell? (ad.add j) = some v)
    (hfit : off + cs.length ≤ cur.length) (h1 : ∀ v ∈ cs, v.oneCell' = true) :
    ∃ w', (Builtin.copy_ #[22, 22] ty #[.slice dp dLen dCap, .slice sp sLen sCap]).run Tryd.prog w = .ok (goInt cs.length) w' ∧ w'.heap[g]? = some (.cells (splice cur off cs).toArray t (0, 0)) ∧ Kept (fun b => b = g) w w' := by
  by_cases h0 : cs.length = 0
  · obtain rfl : cs = [] := List.eq_nil_of_length_eq_zero h0
    exact ⟨w, run_copy_none (P := Tryd.prog) w 22 22 ty 5 dp sp dLen dCap sLen sCap Tryd.underlying22 (by kernel_rfl) (by simpa using hn.symm), by simpa [splice] using hg, ⟨rfl, rfl, rfl, Nat.le_refl _, fun _ _ _ => rfl⟩⟩
  · obtain ⟨rfl, ad, rfl, hsrc⟩ := hpos (by omega)
    have hrun := run_copy_row (P := Tryd.prog) w 22 22 ty 5 g off dLen dCap ad sLen sCap cur.toArray t cs Tryd.underlying22 (by kernel_rfl) hg hn hsrc (by simpa using hfit) h1
    exact ⟨_, hrun, by simpa [splice] using setRow_heap w g _ _ t _ hg, ⟨rfl, rfl, rfl, by simp [World.setRow], fun k hk hs => setRow_other w g k _ hs⟩⟩

theorem splice_map (L c : List Nat) (k : Nat) : splice (Fr.bc L) k (Fr.bc c) = Fr.bc (splice L k c) := by
  unfold splice Fr.bc
  simp [List.map_take, List.map_drop]

set_option maxHeartbeats 2000000 in
theorem put_arg {w : World} {q g1 g2 : Nat} {B : List Nat} {H : List Bool} (hK : BkAt w q g1 g2 B H) (i : Int) (a : Option Addr) (n c : Nat) (h : ¬ (0 ≤ i ∧ i < (H.length : Int)) ∨ n ≠ (chAt B i.toNat).length) :
    Calls Tryd.prog 10 #[.pointer (some ⟨q, 0, none⟩), .int .i64 i, .slice a n c] w fun e w' => e = .returned (.int .i64 1) ∧ w' = w := by
  have kg := bgiven_of hK
  obtain ⟨c0, c1, -, h0, h2⟩ := hK.cells
  have hlen := hK.len
  have hfew := hK.few
  have hx : i < 0 ∨ (¬ i < 0 ∧ (H.length : Int) ≤ i) ∨ (0 ≤ i ∧ i < (H.length : Int) ∧ n ≠ (chAt B i.toNat).length) := by
    by_cases h1 : 0 ≤ i ∧ i < (H.length : Int)
    · exact .inr (.inr ⟨h1.1, h1.2, h.resolve_left (fun g => g h1)⟩)
    · omega
  rcases hx with h1 | ⟨h1, h3⟩ | ⟨h1, h3, h4⟩
  · clear hK h
    go_enter Tryd.func10, Tryd.ntmps10
    go_wp2_with fail
    refine kg.mono ?_
    rintro e w1 ⟨rfl, hw⟩
    rw [hw]
    clear hw kg
    go_wp2
    go_ret
    exact ⟨rfl, rfl⟩
  · clear hK h
    go_enter Tryd.func10, Tryd.ntmps10
    go_wp2_with fail
    refine kg.mono ?_
    rintro e w1 ⟨rfl, hw⟩
    rw [hw]
    clear hw kg
    go_wp2
    go_ret
    exact ⟨rfl, rfl⟩
  · obtain ⟨m, rfl⟩ : ∃ m : Nat, i = (m : Int) := ⟨i.toNat, by omega⟩
    rw [Int.toNat_natCast, chAt_len] at h4
    have kp := place_row g1 B.length m w (by omega) hfew
    have hne : ¬ (n : Int) = ((min 256 (B.length - m * 256) : Nat) : Int) := by omega
    have hnj : ((n : Int) != ((min 256 (B.length - m * 256) : Nat) : Int)) = true := by simp; omega
    have h1n : ¬ (m : Int) < 0 := by omega
    have h3n : ¬ (H.length : Int) ≤ (m : Int) := by omega
    generalize min 256 (B.length - m * 256) = M at *
    generalize B.length - m * 256 = M2 at *
    generalize m * 256 = M3 at *
    clear hK h hlen
    go_enter Tryd.func10, Tryd.ntmps10
    go_wp2_with fail
    refine kg.mono ?_
    rintro e w1 ⟨rfl, hw⟩
    rw [hw]
    clear hw kg
    go_wp2_with fail
    refine kp.mono ?_
    rintro e w1 ⟨rfl, hw⟩
    rw [hw]
    clear hw kp
    go_wp2
    go_ret
    exact ⟨rfl, rfl⟩

set_option maxHeartbeats 2000000 in
theorem put_same {w : World} {q g1 g2 : Nat} {B : List Nat} {H : List Bool} (hK : BkAt w q g1 g2 B H) (m : Nat) (hm : m < H.length) (hB8 : ∀ x ∈ B, x < 256) (n₀ : Nat) (cl : List Nat) (a : Option Addr) (c : Nat) (hBc : Fr.Bs n₀ w (.slice a cl.length c) cl) (hc8 : ∀ x ∈ cl, x < 256) (hl : cl.length = (chAt B m).length) (hh : H[m]? = some true) (hne : cl ≠ chAt B m) :
    Calls Tryd.prog 10 #[.pointer (some ⟨q, 0, none⟩), .int .i64 (m : Int), .slice a cl.length c] w fun e w' => e = .returned (.int .i64 6) ∧ w' = w := by
  have kg := bgiven_of hK
  obtain ⟨c0, c1, ch, h0, h2⟩ := hK.cells
  have hlen := hK.len
  have hfew := hK.few
  have kp := place_row g1 B.length m w (by omega) hfew
  obtain ⟨hk1, hk2⟩ := chunks_le (n := B.length) (i := m) (by omega)
  have hchl := chAt_len B m
  have hBp : Fr.Bs w.heap.size w (.slice (some ⟨g1, m * 256, none⟩) (min 256 (B.length - m * 256)) (B.length - m * 256)) (chAt B m) := by
    have := row_bs hK.row (m * 256) (min 256 (B.length - m * 256)) (B.length - m * 256) (by omega) (by omega) (by unfold maxLen; omega)
    have e : (B.drop (m * 256)).take (min 256 (B.length - m * 256)) = chAt B m := by
      unfold chAt
      have e1 : (B.drop (m * 256)).length = B.length - m * 256 := List.length_drop
      by_cases h : B.length - m * 256 ≤ 256
      · rw [Nat.min_eq_right h, ← e1, List.take_length, List.take_of_length_le (by omega)]
      · rw [Nat.min_eq_left (by omega)]
    rw [e] at this
    exact this
  have ke := equal_of n₀ w.heap.size cl (chAt B m) _ _ w hBc hBp hc8 (chAt_bytes hB8 m)
  rw [decide_eq_false hne] at ke
  have hch := ch m true hh
  have h1n : ¬ (m : Int) < 0 := by omega
  have h3n : ¬ (H.length : Int) ≤ (m : Int) := by omega
  have h3m : (m : Int) < (H.length : Int) := by omega
  rw [hchl] at hl
  have hnj : (((cl.length : Nat) : Int) != ((min 256 (B.length - m * 256) : Nat) : Int)) = false := by rw [hl]; simp
  clear hK hBc hBp hh hne hchl ch
  generalize min 256 (B.length - m * 256) = M at *
  generalize B.length - m * 256 = M2 at *
  generalize m * 256 = M3 at *
  rw [hl] at *
  go_enter Tryd.func10, Tryd.ntmps10
  go_wp2_with fail
  refine kg.mono ?_
  rintro e w1 ⟨rfl, hw⟩
  rw [hw]
  clear hw kg
  go_wp2_with fail
  refine kp.mono ?_
  rintro e w1 ⟨rfl, hw⟩
  rw [hw]
  clear hw kp
  go_wp2_with fail
  refine ke.mono ?_
  rintro e w1 ⟨rfl, hw⟩
  rw [hw]
  clear hw ke
  go_wp2
  go_ret
  exact ⟨rfl, rfl⟩
end Go.Proofs.YtoipjmjhplkibaaDoor

/- The contract of a basket's Put where it takes the chunk. -/
namespace Go.Proofs.YtoipjmjhplkibaaDoor
open Go.RowKit
set_option maxRecDepth 100000
set_option linter.unusedSimpArgs false
set_option linter.unusedVariables false

set_option maxHeartbeats 4000000 in
theorem put_ok {w : World} {q g1 g2 : Nat} {B : List Nat} {H : List Bool} (hK : BkAt w q g1 g2 B H) (m : Nat) (hm : m < H.length) (hB8 : ∀ x ∈ B, x < 256) (n₀ : Nat) (cl : List Nat) (a : Option Addr) (c : Nat) (hBc : Fr.Bs n₀ w (.slice a cl.length c) cl) (hc8 : ∀ x ∈ cl, x < 256) (hl : cl.length = (chAt B m).length) (hsame : H[m]? = some true → cl = chAt B m) :
    Calls Tryd.prog 10 #[.pointer (some ⟨q, 0, none⟩), .int .i64 (m : Int), .slice a cl.length c] w fun e w' => e = .returned (.int .i64 0) ∧ (BkAt w' q g1 g2 (splice B (m * 256) cl) (H.set m true) ∧ Kept (fun b => b = g1 ∨ b = g2) w w') := by
  have kg := bgiven_of hK
  obtain ⟨c0, c1, ch, h0, h2⟩ := hK.cells
  have hlen := hK.len
  have hfew := hK.few
  have hne := hK.ne
  have hbox := hK.box
  have hhas := hK.has
  have hrow : Hid (w.heap[g1]? = some (.cells (Fr.bc B).toArray 5 (0, 0))) := hK.row
  have hql := (Array.getElem?_eq_some_iff.1 hbox).1
  have hgl := (Array.getElem?_eq_some_iff.1 hhas).1
  have kp := place_row g1 B.length m w (by omega) hfew
  obtain ⟨hkA, hkB⟩ := chunks_le (n := B.length) (i := m) (by omega)
  have hchl := chAt_len B m
  have hBp : Fr.Bs w.heap.size w (.slice (some ⟨g1, m * 256, none⟩) (min 256 (B.length - m * 256)) (B.length - m * 256)) (chAt B m) := by
    have := row_bs hK.row (m * 256) (min 256 (B.length - m * 256)) (B.length - m * 256) (by omega) (by omega) (by unfold maxLen; omega)
    have e : (B.drop (m * 256)).take (min 256 (B.length - m * 256)) = chAt B m := by
      unfold chAt
      have e1 : (B.drop (m * 256)).length = B.length - m * 256 := List.length_drop
      by_cases h : B.length - m * 256 ≤ 256
      · rw [Nat.min_eq_right h, ← e1, List.take_length, List.take_of_length_le (by omega)]
      · rw [Nat.min_eq_left (by omega)]
    rw [e] at this
    exact this
  have ke := equal_of n₀ w.heap.size cl (chAt B m) _ _ w hBc hBp hc8 (chAt_bytes hB8 m)
  have hh : H[m]? = some H[m] := List.getElem?_eq_getElem hm
  have hkeq : H[m] = true → decide (cl = chAt B m) = true := fun h => decide_eq_true (hsame (by rw [hh, h]))
  have hch := ch m _ hh
  rw [hchl] at hl
  have hn : (Fr.bc cl).length = Nat.min cl.length (min 256 (B.length - m * 256)) := by
    rw [Fr.bc_length, ← hl]
    exact (Nat.min_self _).symm
  have hfit : m * 256 + (Fr.bc cl).length ≤ (Fr.bc B).length := by rw [Fr.bc_length, Fr.bc_length]; omega
  have hpos : 0 < (Fr.bc cl).length → some (⟨g1, m * 256, none⟩ : Addr) = some ⟨g1, m * 256, none⟩ ∧ ∃ ad, a = some ad ∧ ∀ j v, (Fr.bc cl)[j]? = some v → w.cell? (ad.add j) = some v := fun h => by
    obtain ⟨a', c', e, -, -, -, h5⟩ := id hBc
    cases e
    obtain ⟨b, off, rfl, -, h6⟩ := h5 (by rintro rfl; simp [Fr.bc] at h)
    refine ⟨rfl, ⟨b, off, none⟩, rfl, fun j v hv => ?_⟩
    obtain ⟨x, hx, rfl⟩ := Fr.bc_get hv
    rw [Addr.add_lit]
    exact h6 j x hx
  have hsl : (splice B (m * 256) cl).length = B.length := length_splice B (m * 256) cl (by omega)
  have fin : ∀ w1 : World, w1.heap[g1]? = some (.cells (splice (Fr.bc B) (m * 256) (Fr.bc cl)).toArray 5 (0, 0)) → Kept (fun b => b = g1) w w1 → w1.heap[q]? = some (.cells #[.slice (some ⟨g1, 0, none⟩) B.length B.length, .slice (some ⟨g2, 0, none⟩) H.length H.length] 54 (0, 0)) → w1.heap[g2]? = some (.cells (H.map Value.bool).toArray 4 (0, 0)) →
      Hid (BkAt (w1.setCell ⟨g2, m, none⟩ (.bool true)) q g1 g2 (splice B (m * 256) cl) (H.set m true) ∧ Kept (fun b => b = g1 ∨ b = g2) w (w1.setCell ⟨g2, m, none⟩ (.bool true))) := fun w1 r1 r2 r3 r4 => by
    have o1 : ∀ k, k ≠ g2 → (w1.setCell ⟨g2, m, none⟩ (.bool true)).heap[k]? = w1.heap[k]? := fun k hk => Below.heap_setCell _ _ _ _ hk
    refine ⟨⟨?_, ?_, ?_, ?_, ?_, hne⟩, ⟨r2.os, r2.tape, r2.output, by simpa [World.setCell] using r2.size, fun k hk hs => ?_⟩⟩
    · rw [o1 q hne.2.1, r3, hsl, List.length_set]
    · rw [o1 g1 hne.2.2, r1, splice_map]
    · simp [World.setCell, Array.getElem?_modify, r4, List.map_set]
    · rw [List.length_set, hsl]; exact hlen
    · rw [hsl]; exact hfew
    · rw [o1 k (fun e => hs (.inr e))]
      exact r2.block k hk (fun e => hs (.inl e))
  have h1n : ¬ (m : Int) < 0 := by omega
  have h3n : ¬ (H.length : Int) ≤ (m : Int) := by omega
  have h3m : (m : Int) < (H.length : Int) := by omega
  have hnj : (((cl.length : Nat) : Int) != ((min 256 (B.length - m * 256) : Nat) : Int)) = false := by rw [hl]; simp
  obtain ⟨w1, hrun, hrow1, hk1⟩ := run_copy_kept w 3 (some ⟨g1, m * 256, none⟩) a (min 256 (B.length - m * 256)) (B.length - m * 256) cl.length c g1 (m * 256) (Fr.bc B) 5 hrow.out (Fr.bc cl) hn hpos hfit (fun v hv => Fr.bc_one v hv)
  have hq1 := (hk1.block q hql hne.1).trans hbox
  have hh1 := (hk1.block g2 hgl (fun e => hne.2.2 e.symm)).trans hhas
  have c1' : w1.cell? ⟨q, 1, none⟩ = some (.slice (some ⟨g2, 0, none⟩) H.length H.length) := by rw [Fr.cells_of_block hq1]; rfl
  have ch' : w1.cell? ⟨g2, m, none⟩ = some (.bool H[m]) := by rw [Fr.cells_of_block hh1, List.getElem?_toArray, List.getElem?_map, hh]; rfl
  have fr := Fr.frozen_of hh1 m
  have E := fin w1 hrow1 hk1 hq1 hh1
  clear hn hfit hpos hrow1 hk1 hq1 hh1 fin hbox hhas hrow
  have hlH : Hid (cl.length = min 256 (B.length - m * 256)) := hl
  clear hBc hBp hsame hchl ch hK hkA hkB hsl hB8 hc8 hl hlen
  generalize decide (cl = chAt B m) = DE at *
  generalize min 256 (B.length - m * 256) = M at *
  generalize B.length - m * 256 = M2 at *
  generalize hM3 : m * 256 = M3 at *
  generalize H[m] = HM at *
  cases HM with
  | true =>
    rw [hkeq rfl] at ke
    clear hkeq
    go_enter Tryd.func10, Tryd.ntmps10
    go_wp2_with fail
    refine kg.mono ?_
    rintro e w9 ⟨rfl, hw⟩
    rw [hw]
    clear hw kg
    go_wp2_with fail
    refine kp.mono ?_
    rintro e w9 ⟨rfl, hw⟩
    rw [hw]
    clear hw kp
    go_wp2_with fail
    refine ke.mono ?_
    rintro e w9 ⟨rfl, hw⟩
    rw [hw]
    clear hw ke
    go_wp2
    go_ret
    exact ⟨rfl, E.out⟩
  | false =>
    clear hkeq ke
    go_enter Tryd.func10, Tryd.ntmps10
    go_wp2_with fail
    refine kg.mono ?_
    rintro e w9 ⟨rfl, hw⟩
    rw [hw]
    clear hw kg
    go_wp2_with fail
    refine kp.mono ?_
    rintro e w9 ⟨rfl, hw⟩
    rw [hw]
    clear hw kp
    go_wp2
    go_ret
    exact ⟨rfl, E.out⟩
end Go.Proofs.YtoipjmjhplkibaaDoor


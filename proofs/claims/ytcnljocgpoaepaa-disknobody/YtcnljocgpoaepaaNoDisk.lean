/- A disk that nobody made: what is told of it. -/
import Derived.Test.YtcnljocgpoaepaaAwake
namespace Go.Proofs.Ytcnljocgpoaepaa
open Go.RowKit DiskMath
set_option maxRecDepth 100000
set_option linter.unusedSimpArgs false
set_option linter.unusedVariables false

/-- None, or one without a map. -/
def NoDisk (w : World) (d : Value) : Prop := d = .pointer none ∨ ∃ q, d = .pointer (some ⟨q, 0, none⟩) ∧ w.cell? ⟨q, 0, none⟩ = some (.map none)

theorem given_no {w : World} {d : Value} (h : NoDisk w d) : Calls Try.prog 35 #[d] w fun e w' => e = .returned (.bool false) ∧ w' = w := by
  rcases h with rfl | ⟨q, rfl, hc⟩
  · go_enter Try.func35, Try.ntmps35
    go_wp2
    go_ret
    exact ⟨rfl, rfl⟩
  · have hne : ∀ w', (binOp .neq 50 (.map none) (.map none)).run Try.prog w' = .ok (.bool false) w' := fun w' => run_neq_map_nil w' 50 9 59 none Try.underlying50
    go_enter Try.func35, Try.ntmps35
    go_wp2
    go_ret
    exact ⟨rfl, rfl⟩

theorem find_no {w : World} {d : Value} (n : ByteArray) (h : NoDisk w d) : Calls Try.prog 33 #[d, .string n] w fun e w' => e = .returned (.tuple #[.pointer none, .int .i64 1]) ∧ w' = w := by
  have hg := given_no h
  clear h
  go_enter Try.func33, Try.ntmps33
  go_wp2_with fail
  refine hg.mono ?_
  rintro e w1 ⟨rfl, hw1⟩
  rw [hw1]
  clear hw1 w1 hg
  go_wp2
  go_ret2
  exact ⟨rfl, rfl⟩

theorem sync_no {w : World} {d : Value} (n : ByteArray) (h : NoDisk w d) : Calls Try.prog 19 #[d, .string n] w fun e w' => e = .returned (.int .i64 1) ∧ w' = w := by
  have hg := find_no n h
  clear h
  go_enter Try.func19, Try.ntmps19
  go_wp2_with fail
  refine hg.mono ?_
  rintro e w1 ⟨rfl, hw1⟩
  rw [hw1]
  clear hw1 w1 hg
  go_wp2
  go_ret
  exact ⟨rfl, rfl⟩

theorem cut_no {w : World} {d : Value} (n : ByteArray) (k : Int) (h : NoDisk w d) : Calls Try.prog 20 #[d, .string n, .int .i64 k] w fun e w' => e = .returned (.int .i64 1) ∧ w' = w := by
  have hg := find_no n h
  clear h
  go_enter Try.func20, Try.ntmps20
  go_wp2_with fail
  refine hg.mono ?_
  rintro e w1 ⟨rfl, hw1⟩
  rw [hw1]
  clear hw1 w1 hg
  go_wp2
  go_ret
  exact ⟨rfl, rfl⟩

theorem rename_no {w : World} {d : Value} (n : ByteArray) (t : ByteArray) (h : NoDisk w d) : Calls Try.prog 21 #[d, .string n, .string t] w fun e w' => e = .returned (.int .i64 1) ∧ w' = w := by
  have hg := find_no n h
  clear h
  go_enter Try.func21, Try.ntmps21
  go_wp2_with fail
  refine hg.mono ?_
  rintro e w1 ⟨rfl, hw1⟩
  rw [hw1]
  clear hw1 w1 hg
  go_wp2
  go_ret
  exact ⟨rfl, rfl⟩

theorem remove_no {w : World} {d : Value} (n : ByteArray) (h : NoDisk w d) : Calls Try.prog 22 #[d, .string n] w fun e w' => e = .returned (.int .i64 1) ∧ w' = w := by
  have hg := find_no n h
  clear h
  go_enter Try.func22, Try.ntmps22
  go_wp2_with fail
  refine hg.mono ?_
  rintro e w1 ⟨rfl, hw1⟩
  rw [hw1]
  clear hw1 w1 hg
  go_wp2
  go_ret
  exact ⟨rfl, rfl⟩

theorem append_no {w : World} {d bv : Value} (n : ByteArray) (h : NoDisk w d) : Calls Try.prog 18 #[d, .string n, bv] w fun e w' => e = .returned (.int .i64 1) ∧ w' = w := by
  have hg := given_no h
  clear h
  go_enter Try.func18, Try.ntmps18
  go_wp2_with fail
  refine hg.mono ?_
  rintro e w1 ⟨rfl, hw1⟩
  rw [hw1]
  clear hw1 w1 hg
  go_wp2
  go_ret
  exact ⟨rfl, rfl⟩

theorem read_no {w : World} {d : Value} (n : ByteArray) (h : NoDisk w d) : Calls Try.prog 12 #[d, .string n] w fun e w' => e = .returned (.tuple #[.slice none 0 0, .bool false]) ∧ w' = w := by
  have hg := find_no n h
  clear h
  go_enter Try.func12, Try.ntmps12
  go_wp2_with fail
  refine hg.mono ?_
  rintro e w1 ⟨rfl, hw1⟩
  rw [hw1]
  clear hw1 w1 hg
  go_wp2
  go_ret2
  exact ⟨rfl, rfl⟩

theorem files_no {w : World} {d : Value} (h : NoDisk w d) : Calls Try.prog 15 #[d] w fun e w' => e = .returned (.slice none 0 0) ∧ w' = w := by
  have hg := given_no h
  clear h
  go_enter Try.func15, Try.ntmps15
  go_wp2_with fail
  refine hg.mono ?_
  rintro e w1 ⟨rfl, hw1⟩
  rw [hw1]
  clear hw1 w1 hg
  go_wp2
  go_ret
  exact ⟨rfl, rfl⟩

theorem crash_no {w : World} {d cv : Value} (h : NoDisk w d) : Calls Try.prog 17 #[d, cv] w fun e w' => e = .returned (.tuple #[]) ∧ w' = w := by
  have hg := given_no h
  clear h
  go_enter Try.func17, Try.ntmps17
  go_wp2_with fail
  refine hg.mono ?_
  rintro e w1 ⟨rfl, hw1⟩
  rw [hw1]
  clear hw1 w1 hg
  go_wp2
  (try simp only [Exit.inBlock, Exit.then])
  refine bodyPost_ret (results_none rfl _ _ _) rfl ?_
  exact ⟨rfl, rfl⟩

set_option maxHeartbeats 4000000 in
theorem nobody_law (w : World) (x0 x1 x2 x3 x4 x5 : Value) (dn : Int) (n t : ByteArray) (k : Int) (h0 : x0 = .int .i64 dn) (h1 : x1 = .string n) (h2 : x2 = .string t) (h4 : x4 = .int .i64 k) (h3 : ∃ a l c, x3 = .slice a l c) (h5 : ∃ a l c, x5 = .slice a l c) :
    Calls Try.prog 6 #[.agg #[x0, x1, x2, x3, x4, x5]] w fun e w' => e = .returned (.bool true) ∧ Below w.heap.size w w' := by
  obtain ⟨a3, l3, c3, rfl⟩ := h3
  obtain ⟨a5, l5, c5, rfl⟩ := h5
  subst h0 h1 h2 h4
  have hbox := (Below.refl w.heap.size w).alloc (Nat.le_refl _) (.cells #[.int .i64 dn, .string n, .string t, .slice a3 l3 c3, .int .i64 k, .slice a5 l5 c5] 36)
  have hbx := heap_alloc_new w (.cells #[.int .i64 dn, .string n, .string t, .slice a3 l3 c3, .int .i64 k, .slice a5 l5 c5] 36)
  have hszx : (w.alloc (.cells #[.int .i64 dn, .string n, .string t, .slice a3 l3 c3, .int .i64 k, .slice a5 l5 c5] 36)).heap.size = w.heap.size + 1 := by simp
  have haw := awake_of
  go_enter Try.func6, Try.ntmps6
  go_wp2
  go_loopg [3] 2 (fun g s3 wr => ∃ i : Nat, i + g = 2 ∧ s3 = .int .i64 (i : Int) ∧ Below (w.heap.size + 1) (w.alloc (.cells #[.int .i64 dn, .string n, .string t, .slice a3 l3 c3, .int .i64 k, .slice a5 l5 c5] 36)) wr)
  case atStart => exact ⟨0, by simp, rfl, Below.refl _ _⟩
  case round =>
    obtain ⟨i, hi, rfl, hbr⟩ := hrel
    have hbk := (hbr.block w.heap.size (Nat.lt_succ_self _)).trans hbx
    have hcs : ∀ w', Below wr.heap.size wr w' → w'.cell? ⟨w.heap.size, 1, none⟩ = some (.string n) ∧ w'.cell? ⟨w.heap.size, 2, none⟩ = some (.string t) ∧ w'.cell? ⟨w.heap.size, 3, none⟩ = some (.slice a3 l3 c3) ∧ w'.cell? ⟨w.heap.size, 4, none⟩ = some (.int .i64 k) ∧ w'.cell? ⟨w.heap.size, 5, none⟩ = some (.slice a5 l5 c5) := fun w' hb => by
      have hbk' := (hb.block w.heap.size (Array.getElem?_eq_some_iff.1 hbk).1).trans hbk
      exact ⟨by rw [cells_of_block hbk']; rfl, by rw [cells_of_block hbk']; rfl, by rw [cells_of_block hbk']; rfl, by rw [cells_of_block hbk']; rfl, by rw [cells_of_block hbk']; rfl⟩
    by_cases hi0 : i = 0
    · subst hi0
      obtain ⟨d1, d2, d3, d4, d5⟩ := hcs wr (Below.refl _ _)
      have hz : NoDisk wr (.pointer none) := .inl rfl
      have k0 := crash_no (cv := .slice a5 l5 c5) hz
      have k1 := read_no n hz
      have k2 := append_no (bv := .slice a3 l3 c3) n hz
      have k3 := sync_no n hz
      have k4 := cut_no n k hz
      have k5 := rename_no n t hz
      have k6 := remove_no n hz
      have k7 := files_no hz
      go_wp2_with fail
      refine k0.mono ?_
      rintro e w9 ⟨rfl, hw9⟩
      rw [hw9]
      clear hw9 w9 k0
      go_wp2_with fail
      refine k1.mono ?_
      rintro e w9 ⟨rfl, hw9⟩
      rw [hw9]
      clear hw9 w9 k1
      go_wp2_with fail
      refine k2.mono ?_
      rintro e w9 ⟨rfl, hw9⟩
      rw [hw9]
      clear hw9 w9 k2
      go_wp2_with fail
      refine k3.mono ?_
      rintro e w9 ⟨rfl, hw9⟩
      rw [hw9]
      clear hw9 w9 k3
      go_wp2_with fail
      refine k4.mono ?_
      rintro e w9 ⟨rfl, hw9⟩
      rw [hw9]
      clear hw9 w9 k4
      go_wp2_with fail
      refine k5.mono ?_
      rintro e w9 ⟨rfl, hw9⟩
      rw [hw9]
      clear hw9 w9 k5
      go_wp2_with fail
      refine k6.mono ?_
      rintro e w9 ⟨rfl, hw9⟩
      rw [hw9]
      clear hw9 w9 k6
      go_wp2_with fail
      refine k7.mono ?_
      rintro e w9 ⟨rfl, hw9⟩
      rw [hw9]
      clear hw9 w9 k7
      go_wp2
      go_roundg (gk - 1)
      case measure => omega
      case rel => exact ⟨1, by omega, rfl, hbr⟩
    · by_cases hi1 : i = 1
      · subst hi1
        have hbz := (Below.refl wr.heap.size wr).alloc (Nat.le_refl _) (.cells #[.map none] 52)
        obtain ⟨d1, d2, d3, d4, d5⟩ := hcs _ hbz
        have hz : NoDisk (wr.alloc (.cells #[.map none] 52)) (.pointer (some ⟨wr.heap.size, 0, none⟩)) := .inr ⟨_, rfl, by rw [cells_of_block (heap_alloc_new wr _)]; rfl⟩
        have k0 := crash_no (cv := .slice a5 l5 c5) hz
        have k1 := read_no n hz
        have k2 := append_no (bv := .slice a3 l3 c3) n hz
        have k3 := sync_no n hz
        have k4 := cut_no n k hz
        have k5 := rename_no n t hz
        have k6 := remove_no n hz
        have k7 := files_no hz
        go_wp2_with fail
        refine k0.mono ?_
        rintro e w9 ⟨rfl, hw9⟩
        rw [hw9]
        clear hw9 w9 k0
        go_wp2_with fail
        refine k1.mono ?_
        rintro e w9 ⟨rfl, hw9⟩
        rw [hw9]
        clear hw9 w9 k1
        go_wp2_with fail
        refine k2.mono ?_
        rintro e w9 ⟨rfl, hw9⟩
        rw [hw9]
        clear hw9 w9 k2
        go_wp2_with fail
        refine k3.mono ?_
        rintro e w9 ⟨rfl, hw9⟩
        rw [hw9]
        clear hw9 w9 k3
        go_wp2_with fail
        refine k4.mono ?_
        rintro e w9 ⟨rfl, hw9⟩
        rw [hw9]
        clear hw9 w9 k4
        go_wp2_with fail
        refine k5.mono ?_
        rintro e w9 ⟨rfl, hw9⟩
        rw [hw9]
        clear hw9 w9 k5
        go_wp2_with fail
        refine k6.mono ?_
        rintro e w9 ⟨rfl, hw9⟩
        rw [hw9]
        clear hw9 w9 k6
        go_wp2_with fail
        refine k7.mono ?_
        rintro e w9 ⟨rfl, hw9⟩
        rw [hw9]
        clear hw9 w9 k7
        go_wp2
        go_roundg (gk - 1)
        case measure => omega
        case rel => exact ⟨2, by omega, rfl, hbr.trans (hbz.mono (by have := hbr.size; rw [hszx] at this; exact this))⟩
      · obtain rfl : i = 2 := by omega
        have hbw := hbox.trans (hbr.mono (Nat.le_succ _))
        have ha := haw wr
        clear haw hcs
        go_wp2_with fail
        refine ha.mono ?_
        rintro e w' ⟨rfl, hb⟩
        go_wp2
        go_ret
        exact ⟨rfl, hbw.trans (hb.mono hbw.size)⟩
end Go.Proofs.Ytcnljocgpoaepaa

import Derived.Test.YtoipjmjhplkibabDoorP49
import Derived.Test.YtoipjmjhplkibabDoorP51
import Derived.Test.YtoipjmjhplkibabDoorP52
import Derived.BigQuiet
/- A disk and a basket that nobody made: what Load, Save, Put, Missing and Bytes tell of them. -/
namespace Go.Proofs.YtoipjmjhplkibabDoor
open Go.RowKit DiskMath
set_option maxRecDepth 100000
set_option linter.unusedSimpArgs false
set_option linter.unusedVariables false

/-- None, or one without a map. -/
def NoDisk (w : World) (d : Value) : Prop := d = .pointer none ∨ ∃ q, d = .pointer (some ⟨q, 0, none⟩) ∧ w.cell? ⟨q, 0, none⟩ = some (.map none)

theorem given_no {w : World} {d : Value} (h : NoDisk w d) : Calls Tryd.prog 36 #[d] w fun e w' => e = .returned (.bool false) ∧ w' = w := by
  rcases h with rfl | ⟨q, rfl, hc⟩
  · go_enter Tryd.func36, Tryd.ntmps36
    go_wp2
    go_ret
    exact ⟨rfl, rfl⟩
  · have hne : ∀ w', (binOp .neq 24 (.map none) (.map none)).run Tryd.prog w' = .ok (.bool false) w' := fun w' => run_neq_map_nil w' 24 9 61 none Tryd.underlying24
    go_enter Tryd.func36, Tryd.ntmps36
    go_wp2
    go_ret
    exact ⟨rfl, rfl⟩

theorem find_no {w : World} {d : Value} (n : ByteArray) (h : NoDisk w d) : Calls Tryd.prog 28 #[d, .string n] w fun e w' => e = .returned (.tuple #[.pointer none, .int .i64 1]) ∧ w' = w := by
  have hg := given_no h
  clear h
  go_enter Tryd.func28, Tryd.ntmps28
  go_wp2_with fail
  refine hg.mono ?_
  rintro e w1 ⟨rfl, hw1⟩
  rw [hw1]
  clear hw1 w1 hg
  go_wp2
  go_ret2
  exact ⟨rfl, rfl⟩

theorem sync_no {w : World} {d : Value} (n : ByteArray) (h : NoDisk w d) : Calls Tryd.prog 21 #[d, .string n] w fun e w' => e = .returned (.int .i64 1) ∧ w' = w := by
  have hg := find_no n h
  clear h
  go_enter Tryd.func21, Tryd.ntmps21
  go_wp2_with fail
  refine hg.mono ?_
  rintro e w1 ⟨rfl, hw1⟩
  rw [hw1]
  clear hw1 w1 hg
  go_wp2
  go_ret
  exact ⟨rfl, rfl⟩


theorem sgiven_no {w : World} {d : Value} (h : NoDisk w d) : Calls Tryd.prog 11 #[d] w fun e w' => e = .returned (.bool false) ∧ w' = w := by
  have hs := sync_no ⟨#[]⟩ h
  clear h
  go_enter Tryd.func11, Tryd.ntmps11
  go_wp2_with fail
  refine hs.mono ?_
  rintro e w1 ⟨rfl, hw1⟩
  rw [hw1]
  clear hw1 w1 hs
  go_wp2
  go_ret
  exact ⟨rfl, rfl⟩
theorem NoDisk.below {w w' : World} {d : Value} (h : NoDisk w d) (hb : Below w.heap.size w w') : NoDisk w' d := by
  rcases h with rfl | ⟨q, rfl, hc⟩
  · exact .inl rfl
  · exact .inr ⟨q, rfl, (hb.cell (p := ⟨q, 0, none⟩) (World.block_lt_of_cell? w _ hc)).trans hc⟩

set_option maxHeartbeats 1000000 in
theorem sload_nobody {w : World} {d : Value} (g : Int) (h : NoDisk w d) : Calls Tryd.prog 4 #[d, .int .i64 g] w fun e w' => e = .returned (.tuple #[.int .u64 0, .int .u64 0, .slice none 0 0, .int .i64 1]) ∧ w' = w := by
  have kg := sgiven_no h
  have hd : (∃ q, d = .pointer q) := by
    rcases h with rfl | ⟨q, rfl, _⟩
    · exact ⟨_, rfl⟩
    · exact ⟨_, rfl⟩
  obtain ⟨q, rfl⟩ := hd
  clear h
  go_enter Tryd.func4, Tryd.ntmps4
  go_wp2_with fail
  refine kg.mono ?_
  rintro e w1 ⟨rfl, hw1⟩
  rw [hw1]
  clear hw1 w1 kg
  go_wp2
  (try simp only [Exit.inBlock, Exit.then])
  refine bodyPost_ret (Fr.results_tmp4 rfl _ _ _) rfl ?_
  exact ⟨rfl, rfl⟩

set_option maxHeartbeats 1000000 in
theorem ssave_nobody {w : World} {d : Value} (g : Int) (i t : Int) (a : Option Addr) (n c : Nat) (h : NoDisk w d) : Calls Tryd.prog 6 #[d, .int .i64 g, .int .u64 i, .int .u64 t, .slice a n c] w fun e w' => e = .returned (.int .i64 1) ∧ w' = w := by
  have kg := sgiven_no h
  have hd : (∃ q, d = .pointer q) := by
    rcases h with rfl | ⟨q, rfl, _⟩
    · exact ⟨_, rfl⟩
    · exact ⟨_, rfl⟩
  obtain ⟨q, rfl⟩ := hd
  clear h
  go_enter Tryd.func6, Tryd.ntmps6
  go_wp2_with fail
  refine kg.mono ?_
  rintro e w1 ⟨rfl, hw1⟩
  rw [hw1]
  clear hw1 w1 kg
  go_wp2
  go_ret
  exact ⟨rfl, rfl⟩

/-- None, or one without chunks. -/
def NoBask (w : World) (x : Value) : Prop := x = .pointer none ∨ ∃ q, x = .pointer (some ⟨q, 0, none⟩) ∧ w.cell? ⟨q, 1, none⟩ = some (.slice none 0 0)
theorem bgiven_no {w : World} {x : Value} (h : NoBask w x) : Calls Tryd.prog 16 #[x] w fun e w' => e = .returned (.bool false) ∧ w' = w := by
  rcases h with rfl | ⟨q, rfl, hc⟩
  · go_enter Tryd.func16, Tryd.ntmps16
    go_wp2
    go_ret
    exact ⟨rfl, rfl⟩
  · go_enter Tryd.func16, Tryd.ntmps16
    go_wp2
    go_ret
    exact ⟨rfl, rfl⟩
theorem nobask_shape {w : World} {x : Value} (h : NoBask w x) : ∃ q, x = .pointer q := by
  rcases h with rfl | ⟨q, rfl, _⟩
  · exact ⟨_, rfl⟩
  · exact ⟨_, rfl⟩
theorem bput_no {w : World} {x : Value} (i : Int) (a : Option Addr) (n c : Nat) (h : NoBask w x) : Calls Tryd.prog 7 #[x, .int .i64 i, .slice a n c] w fun e w' => e = .returned (.int .i64 1) ∧ w' = w := by
  have kg := bgiven_no h
  obtain ⟨q, rfl⟩ := nobask_shape h
  clear h
  go_enter Tryd.func7, Tryd.ntmps7
  go_wp2_with fail
  refine kg.mono ?_
  rintro e w1 ⟨rfl, hw1⟩
  rw [hw1]
  clear hw1 w1 kg
  go_wp2
  go_ret
  exact ⟨rfl, rfl⟩
theorem bmissing_no {w : World} {x : Value} (h : NoBask w x) : Calls Tryd.prog 8 #[x] w fun e w' => e = .returned (.slice none 0 0) ∧ w' = w := by
  have kg := bgiven_no h
  obtain ⟨q, rfl⟩ := nobask_shape h
  clear h
  go_enter Tryd.func8, Tryd.ntmps8
  go_wp2_with fail
  refine kg.mono ?_
  rintro e w1 ⟨rfl, hw1⟩
  rw [hw1]
  clear hw1 w1 kg
  go_wp2
  go_ret
  exact ⟨rfl, rfl⟩
theorem bbytes_no {w : World} {x : Value} (h : NoBask w x) : Calls Tryd.prog 5 #[x] w fun e w' => e = .returned (.tuple #[.slice none 0 0, .bool false]) ∧ w' = w := by
  have kg := bgiven_no h
  obtain ⟨q, rfl⟩ := nobask_shape h
  clear h
  go_enter Tryd.func5, Tryd.ntmps5
  go_wp2_with fail
  refine kg.mono ?_
  rintro e w1 ⟨rfl, hw1⟩
  rw [hw1]
  clear hw1 w1 kg
  go_wp2
  go_ret2
  exact ⟨rfl, rfl⟩
end Go.Proofs.YtoipjmjhplkibabDoor

/- The law SnapNobody answers true and leaves all memory as it was: the walk. -/
namespace Go.Proofs.YtoipjmjhplkibabDoor
open Go.RowKit DiskMath
set_option maxRecDepth 100000
set_option linter.unusedSimpArgs false
set_option linter.unusedVariables false

theorem NoBask.below {w w' : World} {x : Value} (h : NoBask w x) (hb : Below w.heap.size w w') : NoBask w' x := by
  rcases h with rfl | ⟨q, rfl, hc⟩
  · exact .inl rfl
  · exact .inr ⟨q, rfl, (hb.cell (p := ⟨q, 1, none⟩) (World.block_lt_of_cell? w _ hc)).trans hc⟩
/-- What all calls tell of a disk and a basket that nobody made, at once. -/
theorem nobody_all {w : World} {z y : Value} (g : Int) (hz : NoDisk w z) (hy : NoBask w y) (W : World) (hb : Below w.heap.size w W) :
    Calls Tryd.prog 4 #[z, .int .i64 g] W (fun e w' => e = .returned (.tuple #[.int .u64 0, .int .u64 0, .slice none 0 0, .int .i64 1]) ∧ w' = W) ∧ Calls Tryd.prog 5 #[y] W (fun e w' => e = .returned (.tuple #[.slice none 0 0, .bool false]) ∧ w' = W) ∧
    Calls Tryd.prog 6 #[z, .int .i64 g, .int .u64 1, .int .u64 1, .slice none 0 0] W (fun e w' => e = .returned (.int .i64 1) ∧ w' = W) ∧ Calls Tryd.prog 7 #[y, .int .i64 0, .slice none 0 0] W (fun e w' => e = .returned (.int .i64 1) ∧ w' = W) ∧
    Calls Tryd.prog 8 #[y] W (fun e w' => e = .returned (.slice none 0 0) ∧ w' = W) :=
  ⟨sload_nobody g (hz.below hb), bbytes_no (hy.below hb), ssave_nobody g 1 1 none 0 0 (hz.below hb), bput_no 0 none 0 0 (hy.below hb), bmissing_no (hy.below hb)⟩

set_option maxHeartbeats 2000000 in
theorem snobody_law (g size : Int) (w : World) (hT : Tb w) :
    Calls Tryd.prog 3 #[.int .i64 g, .int .i64 size] w fun e w' => e = .returned (.bool true) ∧ Below w.heap.size w w' := by
  go_enter Tryd.func3, Tryd.ntmps3
  go_wp2
  go_loopg [5] 2 (fun gg s5 wr => ∃ i : Nat, i + gg = 2 ∧ s5 = .int .i64 (i : Int) ∧ Below w.heap.size w wr)
  case atStart => exact ⟨0, by simp, rfl, Below.refl _ _⟩
  case round =>
    obtain ⟨i, hi, rfl, hbr⟩ := hrel
    by_cases hi0 : i = 0
    · subst hi0
      have k := nobody_all (w := wr) (z := .pointer none) (y := .pointer none) g (.inl rfl) (.inl rfl) wr (Below.refl _ _)
      obtain ⟨k1, k2, k3, k4, k5⟩ := k
      go_wp2_with fail
      refine k1.mono ?_
      rintro e w1 ⟨rfl, hw⟩
      rw [hw]
      clear hw k1
      go_wp2_with fail
      refine k2.mono ?_
      rintro e w1 ⟨rfl, hw⟩
      rw [hw]
      clear hw k2
      go_wp2_with fail
      refine k3.mono ?_
      rintro e w1 ⟨rfl, hw⟩
      rw [hw]
      clear hw k3
      go_wp2_with fail
      refine k4.mono ?_
      rintro e w1 ⟨rfl, hw⟩
      rw [hw]
      clear hw k4
      go_wp2_with fail
      refine k5.mono ?_
      rintro e w1 ⟨rfl, hw⟩
      rw [hw]
      clear hw k5
      go_wp2
      go_roundg (gk - 1)
      case measure => omega
      case rel => exact ⟨1, by omega, rfl, hbr⟩
    · by_cases hi1 : i = 1
      · subst hi1
        have hb1 := (Below.refl wr.heap.size wr).alloc (Nat.le_refl _) (.cells #[.map none] 26)
        have hs1 : (wr.alloc (.cells #[.map none] 26)).heap.size = wr.heap.size + 1 := by simp
        have hb2 := (Below.refl (wr.heap.size + 1) (wr.alloc (.cells #[.map none] 26))).alloc (by omega) (.cells #[.slice none 0 0, .slice none 0 0] 30)
        have n2 := heap_alloc_new (wr.alloc (.cells #[.map none] 26)) (.cells #[.slice none 0 0, .slice none 0 0] 30)
        rw [hs1] at n2
        have n1 := (hb2.block wr.heap.size (by omega)).trans (heap_alloc_new wr (.cells #[.map none] 26))
        have hbw := hbr.trans ((hb1.trans (hb2.mono (by omega))).mono hbr.size)
        have k := nobody_all (w := (wr.alloc (.cells #[.map none] 26)).alloc (.cells #[.slice none 0 0, .slice none 0 0] 30)) (z := .pointer (some ⟨wr.heap.size, 0, none⟩)) (y := .pointer (some ⟨wr.heap.size + 1, 0, none⟩)) g (.inr ⟨_, rfl, by rw [cells_of_block n1]; rfl⟩) (.inr ⟨_, rfl, by rw [cells_of_block n2]; rfl⟩) _ (Below.refl _ _)
        obtain ⟨k1, k2, k3, k4, k5⟩ := k
        clear n1 n2 hb1 hb2
        go_wp2_with fail
        refine k1.mono ?_
        rintro e w1 ⟨rfl, hw⟩
        rw [hw]
        clear hw k1
        go_wp2_with fail
        refine k2.mono ?_
        rintro e w1 ⟨rfl, hw⟩
        rw [hw]
        clear hw k2
        go_wp2_with fail
        refine k3.mono ?_
        rintro e w1 ⟨rfl, hw⟩
        rw [hw]
        clear hw k3
        go_wp2_with fail
        refine k4.mono ?_
        rintro e w1 ⟨rfl, hw⟩
        rw [hw]
        clear hw k4
        go_wp2_with fail
        refine k5.mono ?_
        rintro e w1 ⟨rfl, hw⟩
        rw [hw]
        clear hw k5
        go_wp2
        go_roundg (gk - 1)
        case measure => omega
        case rel => exact ⟨2, by omega, rfl, hbw⟩
      · obtain rfl : i = 2 := by omega
        by_cases hs : 0 ≤ size ∧ size ≤ 32768
        · obtain ⟨n, rfl⟩ : ∃ n : Nat, size = (n : Int) := ⟨size.toNat, by omega⟩
          have h1 : (0 : Int) ≤ (n : Int) := by omega
          have h2 : (n : Int) ≤ 32768 := by omega
          have kg := gather_of n wr (by omega)
          clear hs
          go_wp2_with fail
          refine kg.mono ?_
          rintro e w1 ⟨q, g1, g2, rfl, -, -, hb1⟩
          have hbw := hbr.trans (hb1.mono hbr.size)
          have ha := sawake_of w1 (hT.new hbw)
          clear kg
          go_wp2_with fail
          refine ha.mono ?_
          rintro e w' ⟨rfl, hb⟩
          clear ha
          go_wp2
          go_ret
          exact ⟨rfl, hbw.trans (hb.mono hbw.size)⟩
        · have kg := gather_no size wr (by omega)
          have hx : size < 0 ∨ (¬ size < 0 ∧ 32768 < size) := by omega
          have ha := sawake_of wr (hT.new hbr)
          clear hs
          rcases hx with h | ⟨h, h'⟩ <;>
          (go_wp2_with fail
           refine kg.mono ?_
           rintro e w1 ⟨rfl, hw⟩
           rw [hw]
           clear kg hw
           go_wp2_with fail
           refine ha.mono ?_
           rintro e w' ⟨rfl, hb⟩
           clear ha
           go_wp2
           go_ret
           exact ⟨by first | rfl | (simp; omega), hbr.trans (hb.mono hbr.size)⟩)
end Go.Proofs.YtoipjmjhplkibabDoor


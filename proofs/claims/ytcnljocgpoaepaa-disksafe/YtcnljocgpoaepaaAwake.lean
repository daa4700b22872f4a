/- The program's disk is a disk; the contract of awake. -/
import Derived.Test.YtcnljocgpoaepaaDCrash
import Derived.Test.YtcnljocgpoaepaaDoesC
namespace Go.Proofs.Ytcnljocgpoaepaa
open Go.RowKit DiskMath
set_option maxRecDepth 100000
set_option linter.unusedSimpArgs false
set_option linter.unusedVariables false

theorem diskOf : DiskOf Dk where
  lt := fun h b hb => by
    obtain ⟨ρ, M, q, m, rfl, hS, hD⟩ := h
    exact hD.lt b ((hS b).1 hb)
  sound := fun h => by
    obtain ⟨ρ, M, q, m, rfl, hS, hD⟩ := h
    exact hD.sound
  kept := fun h hsz hs => by
    obtain ⟨ρ, M, q, m, rfl, hS, hD⟩ := h
    exact ⟨ρ, M, q, m, rfl, hS, hD.same hsz fun b hb => hs b ((hS b).2 hb)⟩
  append := fun n bv bl h hB hby hl => dappend_of n bv bl h hB hby hl
  sync := fun n hn h => dsync_of n hn h
  cut := fun n k hn h => dcut_of n k hn h
  rename := fun n t hn h => drename_of n t hn h
  remove := fun n hn h => dremove_of n hn h
  crash := fun cv cuts h hC => dcrash_of cv cuts h hC

theorem Dk.shape {S : Nat → Prop} {w : World} {d : Value} {fs : Files} (h : Dk S w d fs) : ∃ q, d = .pointer (some ⟨q, 0, none⟩) := by
  obtain ⟨ρ, M, q, m, rfl, hS, hD⟩ := h
  exact ⟨q, rfl⟩
theorem Dk.byte {S : Nat → Prop} {w : World} {d : Value} {fs : Files} (h : Dk S w d fs) : ∀ f ∈ fs, ∀ c ∈ f.data, c < 256 := by
  obtain ⟨ρ, M, q, m, rfl, hS, hD⟩ := h
  exact hD.byte

/-- A disk of the call's own stays one, and nothing else turns. -/
theorem fresh_step {n : Nat} {S S' : Nat → Prop} {w1 w2 : World} (hS : ∀ b, S b → n ≤ b) (hn : n ≤ w1.heap.size) (hst : Step S S' w1) (hk : Kept S w1 w2) : (∀ b, S' b → n ≤ b) ∧ Below n w1 w2 :=
  ⟨fun b hb => (hst b hb).elim (hS b) fun h => Nat.le_trans hn h, hk.below hn hS⟩

def nameA : ByteArray := ⟨#[97]⟩
theorem mayA : mayName nameA = true := by decide
theorem one_put (f g : File) (h : g.name = f.name) : putF [f] g = [g] := put_place (fs := [f]) (i := 0) (f := f) (g := g) ⟨by simp, trivial⟩ rfl h
theorem a1 : dAppend [] nameA [97, 98] = ([⟨nameA, [97, 98], 0⟩], 0) := by
  unfold dAppend
  rw [if_neg (by rw [mayA]; simp), get_nil]
  simp [putF, put, putFrom]
theorem a2 : dSync [⟨nameA, [97, 98], 0⟩] nameA = ([⟨nameA, [97, 98], 2⟩], 0) := by
  unfold dSync
  rw [get_cons, if_pos rfl]
  exact congrArg (fun l => (l, 0)) (one_put ⟨nameA, [97, 98], 0⟩ ⟨nameA, [97, 98], 2⟩ rfl)
theorem a3 : dAppend [⟨nameA, [97, 98], 2⟩] nameA [99, 100] = ([⟨nameA, [97, 98, 99, 100], 2⟩], 0) := by
  unfold dAppend
  rw [if_neg (by rw [mayA]; simp), get_cons, if_pos rfl]
  dsimp only
  rw [if_neg (by simp)]
  exact congrArg (fun l => (l, 0)) (one_put ⟨nameA, [97, 98], 2⟩ ⟨nameA, [97, 98, 99, 100], 2⟩ rfl)
theorem a4 : crash [(⟨nameA, [97, 98, 99, 100], 2⟩ : File)] [1] = [⟨nameA, [97, 98, 99], 3⟩] := by
  simp [crash, crashOne, left]
theorem a5 : get [(⟨nameA, [97, 98, 99], 3⟩ : File)] nameA = some ⟨nameA, [97, 98, 99], 3⟩ := by
  rw [get_cons, if_pos rfl]

/-- Two bytes of a text, new in memory. -/
theorem two_bs (w : World) (a b : Nat) : @Bs keepAll (w.alloc (.cells #[.int .u8 (a : Int), .int .u8 (b : Int)] 5 (2, 3))).heap.size (w.alloc (.cells #[.int .u8 (a : Int), .int .u8 (b : Int)] 5 (2, 3))) (.slice (some ⟨w.heap.size, 0, none⟩) 2 2) [a, b] := by
  refine ⟨some ⟨w.heap.size, 0, none⟩, 2, rfl, by simp, by unfold maxLen; omega, (fun h => by cases h), fun _ => ⟨w.heap.size, 0, rfl, ⟨by simp, trivial⟩, fun j c hj => ?_⟩⟩
  have hb : (w.alloc (.cells #[.int .u8 (a : Int), .int .u8 (b : Int)] 5 (2, 3))).heap[w.heap.size]? = some (.cells #[.int .u8 (a : Int), .int .u8 (b : Int)] 5 (2, 3)) := heap_alloc_new w _
  have hj' : j < 2 := by
    have := (List.getElem?_eq_some_iff.1 hj).1
    simpa using this
  have hj2 : j = 0 ∨ j = 1 := by omega
  rcases hj2 with rfl | rfl
  · simp at hj
    subst hj
    unfold World.cell?
    dsimp only
    rw [hb]
    rfl
  · simp at hj
    subst hj
    unfold World.cell?
    dsimp only
    rw [hb]
    rfl

set_option maxHeartbeats 2000000 in
theorem awake_of (w : World) : Calls Try.prog 9 #[] w fun e w' => e = .returned (.bool true) ∧ Below w.heap.size w w' := by
  have h0 := dnew_of w
  have hA : nameA.size ≤ maxLen := by unfold maxLen; decide
  have h1 : ∀ S w' d, Dk S w' d [] → Calls Try.prog 18 #[d, .string ⟨#[97]⟩, .slice (some ⟨w'.heap.size, 0, none⟩) 2 2] (w'.alloc (.cells #[.int .u8 97, .int .u8 98] 5 (2, 3))) (Did Dk S d (w'.alloc (.cells #[.int .u8 97, .int .u8 98] 5 (2, 3))) ([⟨nameA, [97, 98], 0⟩], 0)) := fun S w' d h => by
    have := diskOf.append nameA _ [97, 98] (diskOf.below h ((Below.refl w'.heap.size w').alloc (Nat.le_refl _) (.cells #[.int .u8 ((97 : Nat) : Int), .int .u8 ((98 : Nat) : Int)] 5 (2, 3)))) (two_bs w' 97 98) (by decide) (by decide)
    rw [a1] at this
    exact this
  have h2 : ∀ S w' d, Dk S w' d [⟨nameA, [97, 98], 0⟩] → Calls Try.prog 19 #[d, .string ⟨#[97]⟩] w' (Did Dk S d w' ([⟨nameA, [97, 98], 2⟩], 0)) := fun S w' d h => by
    have := diskOf.sync nameA hA h
    rw [a2] at this
    exact this
  have h3 : ∀ S w' d, Dk S w' d [⟨nameA, [97, 98], 2⟩] → Calls Try.prog 18 #[d, .string ⟨#[97]⟩, .slice (some ⟨w'.heap.size, 0, none⟩) 2 2] (w'.alloc (.cells #[.int .u8 99, .int .u8 100] 5 (2, 3))) (Did Dk S d (w'.alloc (.cells #[.int .u8 99, .int .u8 100] 5 (2, 3))) ([⟨nameA, [97, 98, 99, 100], 2⟩], 0)) := fun S w' d h => by
    have := diskOf.append nameA _ [99, 100] (diskOf.below h ((Below.refl w'.heap.size w').alloc (Nat.le_refl _) (.cells #[.int .u8 ((99 : Nat) : Int), .int .u8 ((100 : Nat) : Int)] 5 (2, 3)))) (two_bs w' 99 100) (by decide) (by decide)
    rw [a3] at this
    exact this
  have h4 : ∀ S w' d, Dk S w' d [⟨nameA, [97, 98, 99, 100], 2⟩] → Calls Try.prog 17 #[d, .slice (some ⟨w'.heap.size, 0, none⟩) 1 1] (w'.alloc (.cells #[.int .i64 1] 3)) (DidC Dk S d (w'.alloc (.cells #[.int .i64 1] 3)) [⟨nameA, [97, 98, 99], 3⟩]) := fun S w' d h => by
    have hb := (Below.refl w'.heap.size w').alloc (Nat.le_refl _) (.cells #[.int .i64 1] 3)
    have := diskOf.crash (.slice (some ⟨w'.heap.size, 0, none⟩) 1 1) [1] (diskOf.below h hb) fun w'' hk => ⟨_, _, rfl, (fun e => by cases e), fun i c hc => ⟨w'.heap.size, 0, rfl, by
      have hi : i = 0 := by
        have := (List.getElem?_eq_some_iff.1 hc).1
        simp at this
        exact this
      subst hi
      have hc1 : c = 1 := by simpa using hc.symm
      subst hc1
      refine hk.cell (p := ⟨w'.heap.size, 0 + 0, none⟩) (by rw [cells_of_block (heap_alloc_new w' _)]; rfl) fun hs => ?_
      have := diskOf.lt h _ hs
      simp at this⟩⟩
    rw [a4] at this
    exact this
  have h5 : ∀ S w' d, Dk S w' d [⟨nameA, [97, 98, 99], 3⟩] → Calls Try.prog 12 #[d, .string ⟨#[97]⟩] w' fun e w'' => ∃ v, e = .returned (.tuple #[v, .bool true]) ∧ Own w'.heap.size w'' v [97, 98, 99] ∧ Below w'.heap.size w' w'' := fun S w' d h => by
    refine (dread_of nameA hA h).mono ?_
    rintro e w'' ⟨v, l, rfl, hO, hb, hl⟩
    rw [a5] at hl ⊢
    subst hl
    exact ⟨v, rfl, hO, hb⟩
  have hc1 : ∀ w' : World, (convert 33 33 (.slice (some ⟨w'.heap.size, 0, none⟩) 2 2)).run Try.prog (w'.alloc (.cells #[.int .u8 97, .int .u8 98] 5)) = .ok (.slice (some ⟨w'.heap.size, 0, none⟩) 2 2) (w'.alloc (.cells #[.int .u8 97, .int .u8 98] 5 (2, 3))) := fun w' => Lib.run_convert_bytes_const w' 33 5 _ 2 2 Try.underlying33 Try.underlying5
  have hc2 : ∀ w' : World, (convert 33 33 (.slice (some ⟨w'.heap.size, 0, none⟩) 2 2)).run Try.prog (w'.alloc (.cells #[.int .u8 99, .int .u8 100] 5)) = .ok (.slice (some ⟨w'.heap.size, 0, none⟩) 2 2) (w'.alloc (.cells #[.int .u8 99, .int .u8 100] 5 (2, 3))) := fun w' => Lib.run_convert_bytes_const w' 33 5 _ 2 2 Try.underlying33 Try.underlying5
  go_enter Try.func9, Try.ntmps9
  go_wp2_with fail
  refine h0.mono ?_
  rintro e w1 ⟨S1, d, rfl, hD1, hS1, hb1⟩
  obtain ⟨q, rfl⟩ := hD1.shape
  have k1 := h1 _ _ _ hD1
  go_wp2_with fail
  refine k1.mono ?_
  rintro e w2 ⟨rfl, S2, hD2, hs2, hk2⟩
  have hx1 := hb1.alloc hb1.size (.cells #[.int .u8 97, .int .u8 98] 5 (2, 3))
  obtain ⟨hS2, hb2⟩ := fresh_step hS1 hx1.size hs2 hk2
  have hw2 := hx1.trans hb2
  have k2 := h2 _ _ _ hD2
  clear k1 hx1 hk2 hs2 hD1
  go_wp2_with fail
  refine k2.mono ?_
  rintro e w3 ⟨rfl, S3, hD3, hs3, hk3⟩
  obtain ⟨hS3, hb3⟩ := fresh_step hS2 hw2.size hs3 hk3
  have hw3 := hw2.trans hb3
  have k3 := h3 _ _ _ hD3
  clear k2 hk3 hs3 hD2
  go_wp2_with fail
  refine k3.mono ?_
  rintro e w4 ⟨rfl, S4, hD4, hs4, hk4⟩
  have hx3 := hw3.alloc hw3.size (.cells #[.int .u8 99, .int .u8 100] 5 (2, 3))
  obtain ⟨hS4, hb4⟩ := fresh_step hS3 hx3.size hs4 hk4
  have hw4 := hx3.trans hb4
  have k4 := h4 _ _ _ hD4
  clear k3 hk4 hs4 hD3 hx3
  go_wp2_with fail
  refine k4.mono ?_
  rintro e w5 ⟨rfl, S5, hD5, hs5, hk5⟩
  have hx4 := hw4.alloc hw4.size (.cells #[.int .i64 1] 3)
  obtain ⟨hS5, hb5⟩ := fresh_step hS4 hx4.size hs5 hk5
  have hw5 := hx4.trans hb5
  have k5 := h5 _ _ _ hD5
  clear k4 hk5 hs5 hD4 hx4
  go_wp2_with fail
  refine k5.mono ?_
  rintro e w6 ⟨v, rfl, hO, hb6⟩
  have hw6 := hw5.trans (hb6.mono hw5.size)
  letI := keepAll
  have hst := str_of (hO.bs (Nat.zero_le _)) (by decide)
  have hse : str [97, 98, 99] = ⟨#[97, 98, 99]⟩ := rfl
  rw [hse] at hst
  obtain ⟨a, c, rfl⟩ := hO.shape
  have hst3 : (convert 33 9 (.slice a 3 c)).run Try.prog w6 = .ok (.string ⟨#[97, 98, 99]⟩) w6 := hst
  clear hst
  clear k5 hD5 hO h0 h1 h2 h3 h4 h5
  go_wp2
  go_ret
  exact ⟨rfl, hw6⟩
end Go.Proofs.Ytcnljocgpoaepaa

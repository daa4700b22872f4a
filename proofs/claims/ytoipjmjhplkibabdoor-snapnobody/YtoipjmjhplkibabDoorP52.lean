import Derived.Test.YtoipjmjhplkibabDoorP49
import Derived.Test.YtoipjmjhplkibabDoorP50
/- The contract of the law's awake: a snapshot that was saved is there behind a crash. -/
namespace Go.Proofs.YtoipjmjhplkibabDoor
open Go.RowKit DiskMath
set_option maxRecDepth 100000
set_option linter.unusedSimpArgs false
set_option linter.unusedVariables false

theorem aw_save (b : List Nat) (hb : b.length ≤ 65536) : (saveF [] 4 b).2 = 0 := by
  unfold saveF
  rw [if_pos]
  have e : (dCut [] (nName 4) 0).1 = [] := rfl
  rw [e]
  unfold dAppend
  rw [if_neg (by rw [nName_may (by decide)]; simp), get_nil]
  dsimp only
  rw [if_neg (by simp; omega)]
theorem aw_load : loadT (crash (saveF [] 4 (Fr.snB 3 2 [97, 98])).1 []) 4 = (3, 2, [97, 98], 0) := by
  have h := save_get (fs := []) ⟨trivial, by decide, by simp⟩ (g := 4) (by decide) (b := Fr.snB 3 2 [97, 98]) (aw_save _ (by have := Fr.snB_len 3 2 [97, 98] (by decide) (by decide) (by decide); omega))
  have h2 := crash_whole (cuts := []) h rfl
  unfold loadT
  rw [h2]
  dsimp only
  unfold Fr.snTold
  rw [Fr.snDec_back 3 2 [97, 98] (by decide) (by decide) (by decide) (by decide)]

/-- A constant's two bytes. -/
theorem ab_bs (W w1 : World) (h : w1.heap[W.heap.size]? = (W.alloc (.cells #[.int .u8 97, .int .u8 98] 5 (2, 3))).heap[W.heap.size]?) : Fr.Bs w1.heap.size w1 (.slice (some ⟨W.heap.size, 0, none⟩) 2 2) [97, 98] := by
  have hk := h.trans (heap_alloc_new W _)
  refine ⟨some ⟨W.heap.size, 0, none⟩, 2, rfl, Nat.le_refl _, by unfold maxLen; omega, (fun e => by cases e), fun _ => ⟨W.heap.size, 0, rfl, (Array.getElem?_eq_some_iff.1 hk).1, fun j c hj => ?_⟩⟩
  have hj2 : j < 2 := by
    have := (List.getElem?_eq_some_iff.1 hj).1
    simpa using this
  have e : w1.cell? ⟨W.heap.size, 0 + j, none⟩ = (#[.int .u8 97, .int .u8 98] : Array Value)[0 + j]? := by simp [World.cell?, hk]
  rw [e]
  match j, hj2 with
  | 0, _ => obtain rfl : 97 = c := by simpa using hj
            rfl
  | 1, _ => obtain rfl : 98 = c := by simpa using hj
            rfl
theorem str_ab : Fr.str [97, 98] = ⟨#[97, 98]⟩ := rfl

set_option maxHeartbeats 2000000 in
theorem sawake_of (w : World) (hT : Tb w) : Calls Tryd.prog 10 #[] w fun e w' => e = .returned (.bool true) ∧ Below w.heap.size w w' := by
  have h0 := dnew_of w
  have h2w := hT.two
  have hc1 : ∀ w' : World, (convert 27 27 (.slice (some ⟨w'.heap.size, 0, none⟩) 2 2)).run Tryd.prog (w'.alloc (.cells #[.int .u8 97, .int .u8 98] 5)) = .ok (.slice (some ⟨w'.heap.size, 0, none⟩) 2 2) (w'.alloc (.cells #[.int .u8 97, .int .u8 98] 5 (2, 3))) := fun w' => Lib.run_convert_bytes_const w' 27 5 _ 2 2 Tryd.underlying27 Tryd.underlying5
  have ks : ∀ S W d, Below w.heap.size w W → Dk S W d [] → (∀ b, S b → w.heap.size ≤ b) → Calls Tryd.prog 6 #[d, .int .i64 4, .int .u64 3, .int .u64 2, .slice (some ⟨W.heap.size, 0, none⟩) 2 2] (W.alloc (.cells #[.int .u8 97, .int .u8 98] 5 (2, 3))) fun e w' => e = .returned (.int .i64 0) ∧ Leaves S W d (saveF [] 4 (Fr.snB 3 2 [97, 98])).1 w' := fun S W d hb hD hS => by
    have hbx := (Below.refl W.heap.size W).alloc (Nat.le_refl _) (.cells #[.int .u8 97, .int .u8 98] 5 (2, 3))
    have hns : ¬ S W.heap.size := fun h => by have := diskOf.lt hD _ h; omega
    have := ssave_of (S := S) 4 3 2 [97, 98] (some ⟨W.heap.size, 0, none⟩) 2 (hT.new (hb.trans (hbx.mono hb.size))) (diskOf.below hD hbx) (fun b hb => Nat.le_trans h2w (hS b hb)) (by decide) (by decide) (by decide) (by decide) (by decide) (by decide) (fun w1 hk => ab_bs W w1 (hk.block _ (by simp) hns))
    refine this.mono ?_
    rintro e w' ⟨he, hL⟩
    rw [aw_save _ (by have := Fr.snB_len 3 2 [97, 98] (by decide) (by decide) (by decide); omega)] at he
    exact ⟨he, Leaves.after hbx hL⟩
  have kc : ∀ S W d fs, Dk S W d fs → Calls Tryd.prog 27 #[d, .slice none 0 0] W fun e w' => e = .returned (.tuple #[]) ∧ Leaves S W d (crash fs []) w' := fun S W d fs hD =>
    diskOf.crash (.slice none 0 0) [] hD fun w'' hk => ⟨none, 0, rfl, (fun _ => rfl), fun i c hc => by simp at hc⟩
  have kl : ∀ S W d, Below w.heap.size w W → Dk S W d (crash (saveF [] 4 (Fr.snB 3 2 [97, 98])).1 []) → (∀ b, S b → w.heap.size ≤ b) → Calls Tryd.prog 4 #[d, .int .i64 4] W fun e w' => ∃ a n c, e = .returned (.tuple #[.int .u64 3, .int .u64 2, .slice a n c, .int .i64 0]) ∧ Hid (Fr.Bs w'.heap.size w' (.slice a n c) [97, 98]) ∧ Hid (Leaves S W d (crash (saveF [] 4 (Fr.snB 3 2 [97, 98])).1 []) w') := fun S W d hb hD hS => by
    have := sload_of 4 (hT.new hb) hD (fun b hb => Nat.le_trans h2w (hS b hb)) (by decide)
    rw [aw_load] at this
    refine this.mono ?_
    rintro e w' ⟨a, n, c, he, hB, hL⟩
    exact ⟨a, n, c, he, hB, hL⟩
  have kn := fun W => count_of 300 W (by decide)
  have e300 : chunks 300 = 2 := rfl
  rw [e300] at kn
  generalize (saveF [] 4 (Fr.snB 3 2 [97, 98])).1 = F at *
  go_enter Tryd.func10, Tryd.ntmps10
  go_wp2_with fail
  refine h0.mono ?_
  rintro e w1 ⟨S1, d, rfl, hD1, hS1, hb1⟩
  obtain ⟨q, rfl⟩ := hD1.shape
  have k1 := ks S1 w1 _ hb1 hD1 hS1
  clear ks h0
  go_wp2_with fail
  refine k1.mono ?_
  rintro e w2 ⟨rfl, S2, hD2, hs2, hk2⟩
  obtain ⟨hS2, hb2⟩ := fresh_step hS1 hb1.size hs2 hk2
  have hb02 := hb1.trans hb2
  have k2 := kc S2 _ _ _ hD2
  clear kc k1 hk2 hs2
  go_wp2_with fail
  refine k2.mono ?_
  rintro e w3 ⟨rfl, S3, hD3, hs3, hk3⟩
  obtain ⟨hS3, hb3⟩ := fresh_step hS2 hb02.size hs3 hk3
  have hb03 := hb02.trans hb3
  have k3 := kl S3 _ _ hb03 hD3 hS3
  clear kl k2 hk3 hs3
  go_wp2_with fail
  refine k3.mono ?_
  rintro e w4 ⟨a4, n4, c4, rfl, hB4, hL4⟩
  have hb04 : Below w.heap.size w w4 := by
    obtain ⟨S4, hD4, hs4, hk4⟩ := hL4.out
    exact hb03.trans (fresh_step hS3 hb03.size hs4 hk4).2
  have hst := Fr.str_of hB4.out (by decide)
  rw [str_ab] at hst
  have kn4 := kn w4
  clear k3 kn hL4 hB4
  go_wp2_with fail
  refine kn4.mono ?_
  rintro e w5 ⟨rfl, hw5⟩
  rw [hw5]
  clear kn4 hw5
  go_wp2
  go_ret
  exact ⟨rfl, hb04⟩
end Go.Proofs.YtoipjmjhplkibabDoor


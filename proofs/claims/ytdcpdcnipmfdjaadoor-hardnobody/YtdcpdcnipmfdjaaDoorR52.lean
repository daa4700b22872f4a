import Derived.Test.YtdcpdcnipmfdjaaDoorR51
/- A disk that nobody made: what Load and Save tell of it. -/
namespace Go.Proofs.YtdcpdcnipmfdjaaDoor
open Go.RowKit DiskMath
set_option maxRecDepth 100000
set_option linter.unusedSimpArgs false
set_option linter.unusedVariables false

/-- None, or one without a map. -/
def NoDisk (w : World) (d : Value) : Prop := d = .pointer none ∨ ∃ q, d = .pointer (some ⟨q, 0, none⟩) ∧ w.cell? ⟨q, 0, none⟩ = some (.map none)

theorem given_no {w : World} {d : Value} (h : NoDisk w d) : Calls Tryd.prog 35 #[d] w fun e w' => e = .returned (.bool false) ∧ w' = w := by
  rcases h with rfl | ⟨q, rfl, hc⟩
  · go_enter Tryd.func35, Tryd.ntmps35
    go_wp2
    go_ret
    exact ⟨rfl, rfl⟩
  · have hne : ∀ w', (binOp .neq 36 (.map none) (.map none)).run Tryd.prog w' = .ok (.bool false) w' := fun w' => run_neq_map_nil w' 36 9 69 none Tryd.underlying36
    go_enter Tryd.func35, Tryd.ntmps35
    go_wp2
    go_ret
    exact ⟨rfl, rfl⟩

theorem find_no {w : World} {d : Value} (n : ByteArray) (h : NoDisk w d) : Calls Tryd.prog 47 #[d, .string n] w fun e w' => e = .returned (.tuple #[.pointer none, .int .i64 1]) ∧ w' = w := by
  have hg := given_no h
  clear h
  go_enter Tryd.func47, Tryd.ntmps47
  go_wp2_with fail
  refine hg.mono ?_
  rintro e w1 ⟨rfl, hw1⟩
  rw [hw1]
  clear hw1 w1 hg
  go_wp2
  go_ret2
  exact ⟨rfl, rfl⟩

theorem sync_no {w : World} {d : Value} (n : ByteArray) (h : NoDisk w d) : Calls Tryd.prog 31 #[d, .string n] w fun e w' => e = .returned (.int .i64 1) ∧ w' = w := by
  have hg := find_no n h
  clear h
  go_enter Tryd.func31, Tryd.ntmps31
  go_wp2_with fail
  refine hg.mono ?_
  rintro e w1 ⟨rfl, hw1⟩
  rw [hw1]
  clear hw1 w1 hg
  go_wp2
  go_ret
  exact ⟨rfl, rfl⟩


theorem hgiven_no {w : World} {d : Value} (h : NoDisk w d) : Calls Tryd.prog 25 #[d] w fun e w' => e = .returned (.bool false) ∧ w' = w := by
  have hs := sync_no ⟨#[]⟩ h
  clear h
  go_enter Tryd.func25, Tryd.ntmps25
  go_wp2_with fail
  refine hs.mono ?_
  rintro e w1 ⟨rfl, hw1⟩
  rw [hw1]
  clear hw1 w1 hs
  go_wp2
  go_ret
  exact ⟨rfl, rfl⟩
theorem NoDisk.below {w w' : World} {d : Value} (h : NoDisk w d) (hb : Below w.heap.size w w') : NoDisk w' d := by
  rcases h with rfl | ⟨q, rfl, hc⟩
  · exact .inl rfl
  · exact .inr ⟨q, rfl, (hb.cell (p := ⟨q, 0, none⟩) (World.block_lt_of_cell? w _ hc)).trans hc⟩

set_option maxHeartbeats 1000000 in
theorem hload_no {w : World} {d : Value} (g : Int) (h : NoDisk w d) : Calls Tryd.prog 11 #[d, .int .i64 g] w fun e w' => e = .returned (.tuple #[.agg #[.int .u64 0, .int .i64 0, .int .u64 0], .int .i64 1]) ∧ Below w.heap.size w w' := by
  have hb0 := (Below.refl w.heap.size w).alloc (Nat.le_refl _) (.cells #[.int .u64 0, .int .i64 0, .int .u64 0] 24)
  have hbk := heap_alloc_new w (.cells #[.int .u64 0, .int .i64 0, .int .u64 0] 24)
  have hbk' : Hid ((w.alloc (.cells #[.int .u64 0, .int .i64 0, .int .u64 0] 24)).heap[w.heap.size]? = some (.cells #[.int .u64 0, .int .i64 0, .int .u64 0] 24 (0, 0))) := hbk
  have kg := hgiven_no (h.below hb0)
  have f0 := Fr.frozen_of hbk 0
  have f1 := Fr.frozen_of hbk 1
  have f2 := Fr.frozen_of hbk 2
  clear h hbk
  go_enter Tryd.func11, Tryd.ntmps11
  go_wp2_with fail
  refine kg.mono ?_
  rintro e w1 ⟨rfl, hw1⟩
  rw [hw1]
  clear hw1 w1 kg
  go_wp2
  (try simp only [Exit.inBlock, Exit.then])
  refine bodyPost_ret (Fr.results_hd rfl _ _ w.heap.size _ _ _ rfl hbk'.out) rfl ?_
  exact ⟨rfl, hb0⟩

set_option maxHeartbeats 1000000 in
theorem hsave_no {w : World} {d : Value} (g v : Int) (t c : Nat) (hT : Tb w) (h : NoDisk w d) (ht : t < 18446744073709551616) (hc : c < 18446744073709551616) : Calls Tryd.prog 12 #[d, .int .i64 g, .agg #[.int .u64 (t : Int), .int .i64 v, .int .u64 (c : Int)]] w fun e w' => e = .returned (.int .i64 1) ∧ Below w.heap.size w w' := by
  have hb := (Below.refl w.heap.size w).alloc (Nat.le_refl _) (.cells #[.int .u64 (t : Int), .int .i64 v, .int .u64 (c : Int)] 24)
  have hd : (∃ q, d = .pointer q) := by
    rcases h with rfl | ⟨q, rfl, _⟩
    · exact ⟨_, rfl⟩
    · exact ⟨_, rfl⟩
  by_cases hv : 0 ≤ v ∧ v ≤ 7
  · obtain ⟨n, rfl⟩ : ∃ n : Nat, v = (n : Int) := ⟨v.toNat, by omega⟩
    have k := Fr.encode_of t n c (w.alloc (.cells #[.int .u64 (t : Int), .int .i64 (n : Int), .int .u64 (c : Int)] 24)) (hT.new hb).1 ht (by omega) hc
    have kg : ∀ W, Below w.heap.size w W → Calls Tryd.prog 25 #[d] W fun e w' => e = .returned (.bool false) ∧ w' = W := fun W hbW => hgiven_no (h.below hbW)
    obtain ⟨q, rfl⟩ := hd
    clear h hT
    go_enter Tryd.func12, Tryd.ntmps12
    go_wp2_with fail
    refine k.mono ?_
    rintro e w1 ⟨a, m, p, rfl, hO, hb1⟩
    have hbw1 := hb.trans (hb1.mono hb.size)
    have kg1 := kg w1 hbw1
    clear k kg
    go_wp2_with fail
    refine kg1.mono ?_
    rintro e w2 ⟨rfl, hw2⟩
    rw [hw2]
    clear hw2 kg1
    go_wp2
    go_ret
    exact ⟨rfl, hbw1⟩
  · have k := Fr.encode_no (t : Int) (c : Int) v (w.alloc (.cells #[.int .u64 (t : Int), .int .i64 v, .int .u64 (c : Int)] 24)) hv
    obtain ⟨q, rfl⟩ := hd
    clear h hT hv
    go_enter Tryd.func12, Tryd.ntmps12
    go_wp2_with fail
    refine k.mono ?_
    rintro e w1 ⟨rfl, hb1⟩
    have hbw1 := hb.trans (hb1.mono hb.size)
    clear k
    go_wp2
    go_ret
    exact ⟨rfl, hbw1⟩
end Go.Proofs.YtdcpdcnipmfdjaaDoor

/- The contract of the law's awake: a state that was saved is there behind a crash. -/
namespace Go.Proofs.YtdcpdcnipmfdjaaDoor
open Go.RowKit DiskMath
set_option maxRecDepth 100000
set_option linter.unusedSimpArgs false
set_option linter.unusedVariables false

theorem aw_save (b : List Nat) (hb : b.length ≤ 65536) : (saveF [] 4 b).2 = 0 := by
  unfold saveF
  rw [if_pos]
  have e : (dCut [] (nName 4) 0).1 = [] := rfl
  rw [e]
  unfold dAppend
  rw [if_neg (by rw [nName_may (by decide)]; simp), get_nil]
  dsimp only
  rw [if_neg (by simp; omega)]
theorem aw_load : loadV (crash (saveF [] 4 (Fr.hdB 3 1 7)).1 []) 4 = .tuple #[.agg #[.int .u64 3, .int .i64 1, .int .u64 7], .int .i64 0] := by
  have h := save_get (fs := []) ⟨trivial, by decide, by simp⟩ (g := 4) (by decide) (b := Fr.hdB 3 1 7) (aw_save _ (by have := Fr.hdB_len 3 1 7 (by decide) (by decide) (by decide); omega))
  have h2 := crash_whole (cuts := []) h rfl
  unfold loadV
  rw [h2]
  dsimp only
  rw [Fr.hdDec_back 3 1 7 (by decide) (by decide) (by decide)]
  rfl

set_option maxHeartbeats 2000000 in
theorem hawake_of (w : World) (hT : Tb w) : Calls Tryd.prog 8 #[] w fun e w' => e = .returned (.bool true) ∧ Below w.heap.size w w' := by
  have h0 := dnew_of w
  have h2w := hT.two
  have ks : ∀ S W d, Below w.heap.size w W → Dk S W d [] → (∀ b, S b → w.heap.size ≤ b) → Calls Tryd.prog 12 #[d, .int .i64 4, .agg #[.int .u64 3, .int .i64 1, .int .u64 7]] W fun e w' => e = .returned (.int .i64 0) ∧ Leaves S W d (saveF [] 4 (Fr.hdB 3 1 7)).1 w' := fun S W d hb hD hS => by
    have := save_of 4 3 1 7 (hT.new hb) hD (fun b hb => Nat.le_trans h2w (hS b hb)) (by decide) (by decide) (by decide) (by decide)
    refine this.mono ?_
    rintro e w' ⟨he, hL⟩
    rw [aw_save _ (by have := Fr.hdB_len 3 1 7 (by decide) (by decide) (by decide); omega)] at he
    exact ⟨he, hL⟩
  have kc : ∀ S W d fs, Dk S W d fs → Calls Tryd.prog 17 #[d, .slice none 0 0] W fun e w' => e = .returned (.tuple #[]) ∧ Leaves S W d (crash fs []) w' := fun S W d fs hD =>
    diskOf.crash (.slice none 0 0) [] hD fun w'' hk => ⟨none, 0, rfl, (fun _ => rfl), fun i c hc => by simp at hc⟩
  have kl : ∀ S W d, Below w.heap.size w W → Dk S W d (crash (saveF [] 4 (Fr.hdB 3 1 7)).1 []) → (∀ b, S b → w.heap.size ≤ b) → Calls Tryd.prog 11 #[d, .int .i64 4] W fun e w' => e = .returned (.tuple #[.agg #[.int .u64 3, .int .i64 1, .int .u64 7], .int .i64 0]) ∧ Leaves S W d (crash (saveF [] 4 (Fr.hdB 3 1 7)).1 []) w' := fun S W d hb hD hS => by
    have := load_of 4 (hT.new hb) hD (fun b hb => Nat.le_trans h2w (hS b hb)) (by decide)
    rw [aw_load] at this
    exact this
  generalize (saveF [] 4 (Fr.hdB 3 1 7)).1 = F at *
  go_enter Tryd.func8, Tryd.ntmps8
  go_wp2_with fail
  refine h0.mono ?_
  rintro e w1 ⟨S1, d, rfl, hD1, hS1, hb1⟩
  obtain ⟨q, rfl⟩ := hD1.shape
  have hbx := (Below.refl w1.heap.size w1).alloc (Nat.le_refl _) (.cells #[.int .u64 3, .int .i64 1, .int .u64 7] 24)
  have hbk := heap_alloc_new w1 (.cells #[.int .u64 3, .int .i64 1, .int .u64 7] 24)
  have hszx : (w1.alloc (.cells #[.int .u64 3, .int .i64 1, .int .u64 7] 24)).heap.size = w1.heap.size + 1 := by simp
  have hn1 : ¬ S1 w1.heap.size := fun h => by have := diskOf.lt hD1 _ h; omega
  have hb1x := hb1.trans (hbx.mono hb1.size)
  have k1 := ks S1 _ _ hb1x (diskOf.below hD1 hbx) hS1
  clear ks h0
  go_wp2_with fail
  refine k1.mono ?_
  rintro e w2 ⟨rfl, S2, hD2, hs2, hk2⟩
  obtain ⟨hS2, hb2⟩ := fresh_step hS1 hb1x.size hs2 hk2
  have hb02 := hb1x.trans hb2
  have hq2 := (hk2.block w1.heap.size (by rw [hszx]; omega) hn1).trans hbk
  have hn2 : ¬ S2 w1.heap.size := fun h => by
    rcases hs2 _ h with h | h
    · exact hn1 h
    · rw [hszx] at h; omega
  have k2 := kc S2 _ _ _ hD2
  clear kc k1 hk2 hs2
  go_wp2_with fail
  refine k2.mono ?_
  rintro e w3 ⟨rfl, S3, hD3, hs3, hk3⟩
  obtain ⟨hS3, hb3⟩ := fresh_step hS2 hb02.size hs3 hk3
  have hb03 := hb02.trans hb3
  have hl2 := (Array.getElem?_eq_some_iff.1 hq2).1
  have hq3 := (hk3.block w1.heap.size hl2 hn2).trans hq2
  have hn3 : ¬ S3 w1.heap.size := fun h => by
    rcases hs3 _ h with h | h
    · exact hn2 h
    · omega
  have k3 := kl S3 _ _ hb03 hD3 hS3
  clear kl k2 hk3 hs3
  go_wp2_with fail
  refine k3.mono ?_
  rintro e w4 ⟨rfl, S4, hD4, hs4, hk4⟩
  obtain ⟨hS4, hb4⟩ := fresh_step hS3 hb03.size hs4 hk4
  have hb04 := hb03.trans hb4
  have hl3 := (Array.getElem?_eq_some_iff.1 hq3).1
  have hq4 := (hk4.block w1.heap.size hl3 hn3).trans hq3
  have hbz := (Below.refl w4.heap.size w4).alloc (Nat.le_refl _) (.cells #[.int .u64 3, .int .i64 1, .int .u64 7] 24)
  have hq5 := (hbz.block w1.heap.size (Array.getElem?_eq_some_iff.1 hq4).1).trans hq4
  have x0 : (w4.alloc (.cells #[.int .u64 3, .int .i64 1, .int .u64 7] 24)).cell? ⟨w1.heap.size, 0, none⟩ = some (.int .u64 3) := by rw [cells_of_block hq5]; rfl
  have x1 : (w4.alloc (.cells #[.int .u64 3, .int .i64 1, .int .u64 7] 24)).cell? ⟨w1.heap.size, 1, none⟩ = some (.int .i64 1) := by rw [cells_of_block hq5]; rfl
  have x2 : (w4.alloc (.cells #[.int .u64 3, .int .i64 1, .int .u64 7] 24)).cell? ⟨w1.heap.size, 2, none⟩ = some (.int .u64 7) := by rw [cells_of_block hq5]; rfl
  have hbf := hb04.trans (hbz.mono hb04.size)
  clear k3 hk4 hs4 hq2 hq3 hq4 hq5 hbk
  go_wp2
  go_ret
  exact ⟨rfl, hbf⟩
end Go.Proofs.YtdcpdcnipmfdjaaDoor

/- The law HardNobody: true at any group and state; what lay in memory before stays as it was. -/
namespace Go.Proofs.YtdcpdcnipmfdjaaDoor
open Go.RowKit DiskMath
set_option maxRecDepth 100000
set_option linter.unusedSimpArgs false
set_option linter.unusedVariables false

set_option maxHeartbeats 2000000 in
theorem hnobody_law (g v : Int) (t c : Nat) (w : World) (hT : Tb w) (ht : t < 18446744073709551616) (hc : c < 18446744073709551616) :
    Calls Tryd.prog 4 #[.int .i64 g, .agg #[.int .u64 (t : Int), .int .i64 v, .int .u64 (c : Int)]] w fun e w' => e = .returned (.bool true) ∧ Below w.heap.size w w' := by
  have hb0 := (Below.refl w.heap.size w).alloc (Nat.le_refl _) (.cells #[.int .u64 (t : Int), .int .i64 v, .int .u64 (c : Int)] 24)
  have hbk0 := heap_alloc_new w (.cells #[.int .u64 (t : Int), .int .i64 v, .int .u64 (c : Int)] 24)
  have hsz0 : (w.alloc (.cells #[.int .u64 (t : Int), .int .i64 v, .int .u64 (c : Int)] 24)).heap.size = w.heap.size + 1 := by simp
  have hcs : ∀ W, Below (w.heap.size + 1) (w.alloc (.cells #[.int .u64 (t : Int), .int .i64 v, .int .u64 (c : Int)] 24)) W → W.cell? ⟨w.heap.size, 0, none⟩ = some (.int .u64 (t : Int)) ∧ W.cell? ⟨w.heap.size, 1, none⟩ = some (.int .i64 v) ∧ W.cell? ⟨w.heap.size, 2, none⟩ = some (.int .u64 (c : Int)) := fun W hb => by
    have h := (hb.block w.heap.size (by omega)).trans hbk0
    exact ⟨by rw [cells_of_block h]; rfl, by rw [cells_of_block h]; rfl, by rw [cells_of_block h]; rfl⟩
  have hbox : ∀ W, Below (w.heap.size + 1) (w.alloc (.cells #[.int .u64 (t : Int), .int .i64 v, .int .u64 (c : Int)] 24)) W → Below w.heap.size w W := fun W hb => hb0.trans (hb.mono (by omega))
  go_enter Tryd.func4, Tryd.ntmps4
  go_wp2
  go_loopg [5] 2 (fun gg s7 wr => ∃ i : Nat, i + gg = 2 ∧ s7 = .int .i64 (i : Int) ∧ Below (w.heap.size + 1) (w.alloc (.cells #[.int .u64 (t : Int), .int .i64 v, .int .u64 (c : Int)] 24)) wr)
  case atStart => exact ⟨0, by simp, rfl, Below.refl _ _⟩
  case round =>
    obtain ⟨i, hi, rfl, hbr⟩ := hrel
    have hsr : w.heap.size + 1 ≤ wr.heap.size := by have := hbr.size; rw [hsz0] at this; exact this
    by_cases hi0 : i = 0
    · subst hi0
      have hsW := hsr
      have k1 := hload_no (w := wr) (d := .pointer none) g (.inl rfl)
      have k2 : ∀ W, Below (wr).heap.size (wr) W → Calls Tryd.prog 12 #[.pointer none, .int .i64 g, .agg #[.int .u64 (t : Int), .int .i64 v, .int .u64 (c : Int)]] W fun e w' => e = .returned (.int .i64 1) ∧ Below W.heap.size W w' := fun W hb => hsave_no g v t c (hT.new (hbox _ ((hbr).trans (hb.mono hsW)))) (NoDisk.below (.inl rfl) hb) ht hc
      go_wp2_with fail
      refine k1.mono ?_
      rintro e w1 ⟨rfl, hb1⟩
      have hbx := hb1.alloc hb1.size (.cells #[.int .u64 0, .int .i64 0, .int .u64 0] 24)
      have hbw := (hbr).trans (hbx.mono hsW)
      obtain ⟨x0, x1, x2⟩ := hcs _ hbw
      have k2' := k2 _ hbx
      clear k1 k2
      go_wp2_with fail
      refine k2'.mono ?_
      rintro e w2 ⟨rfl, hb2⟩
      have hbw2 := hbw.trans (hb2.mono (by have := hbw.size; omega))
      clear k2' x0 x1 x2
      go_wp2
      go_roundg (gk - 1)
      case measure => omega
      case rel => exact ⟨1, by omega, rfl, hbw2⟩
    · by_cases hi1 : i = 1
      · subst hi1
        have hbz0 := (Below.refl wr.heap.size wr).alloc (Nat.le_refl _) (.cells #[.map none] 38)
        have hnd : NoDisk (wr.alloc (.cells #[.map none] 38)) (.pointer (some ⟨wr.heap.size, 0, none⟩)) := .inr ⟨_, rfl, by rw [cells_of_block (heap_alloc_new wr _)]; rfl⟩
        have hbz := hbr.trans (hbz0.mono hsr)
        have hsW : w.heap.size + 1 ≤ (wr.alloc (.cells #[.map none] 38)).heap.size := by have := hbz.size; omega
        have k1 := hload_no (w := wr.alloc (.cells #[.map none] 38)) (d := .pointer (some ⟨wr.heap.size, 0, none⟩)) g hnd
        have k2 : ∀ W, Below (wr.alloc (.cells #[.map none] 38)).heap.size (wr.alloc (.cells #[.map none] 38)) W → Calls Tryd.prog 12 #[.pointer (some ⟨wr.heap.size, 0, none⟩), .int .i64 g, .agg #[.int .u64 (t : Int), .int .i64 v, .int .u64 (c : Int)]] W fun e w' => e = .returned (.int .i64 1) ∧ Below W.heap.size W w' := fun W hb => hsave_no g v t c (hT.new (hbox _ ((hbz).trans (hb.mono hsW)))) (NoDisk.below hnd hb) ht hc
        go_wp2_with fail
        refine k1.mono ?_
        rintro e w1 ⟨rfl, hb1⟩
        have hbx := hb1.alloc hb1.size (.cells #[.int .u64 0, .int .i64 0, .int .u64 0] 24)
        have hbw := (hbz).trans (hbx.mono hsW)
        obtain ⟨x0, x1, x2⟩ := hcs _ hbw
        have k2' := k2 _ hbx
        clear k1 k2
        go_wp2_with fail
        refine k2'.mono ?_
        rintro e w2 ⟨rfl, hb2⟩
        have hbw2 := hbw.trans (hb2.mono (by have := hbw.size; omega))
        clear k2' x0 x1 x2
        go_wp2
        go_roundg (gk - 1)
        case measure => omega
        case rel => exact ⟨2, by omega, rfl, hbw2⟩
      · obtain rfl : i = 2 := by omega
        have hbw := hbox _ hbr
        have ha := hawake_of wr (hT.new hbw)
        clear hcs hbox
        go_wp2_with fail
        refine ha.mono ?_
        rintro e w' ⟨rfl, hb⟩
        go_wp2
        go_ret
        exact ⟨rfl, hbw.trans (hb.mono hbw.size)⟩
end Go.Proofs.YtdcpdcnipmfdjaaDoor

